/- A heap of blocks in memory, through its interface: Push and Pop. -/
import Derived.Test.YtgclhkiiaclkgabTuLib
import Derived.Deep.RegionHeld3
import Derived.Deep.AppendLies
import Derived.Deep.RegionLaw
namespace Go.Proofs.Ytgclhkiiaclkgab.Tv
set_option linter.unusedVariables false
open Go.RowKit Is Ge Qb Jr Pa To Tq Tr Tu
open Go.Proofs.Ytgclhkiiaclkgab.Ba (inB below_then below_box)

theorem info_tb : (Try.prog.info? 106).map (fun i => (i.zero, i.size, i.bytes)) = some (some (.agg #[.int .i64 0, .int .i64 0, .int .i64 0]), 3, 24) := by kernel_rfl
abbrev tbV (g : Nat → Int) (y : Nat) : Value := .agg #[.int .i64 (g (y * 2)), .int .i64 (g (y * 2 + 1)), .int .i64 (y : Int)]
abbrev more (o : Nat → Nat) (r y : Nat) : Nat → Nat := fun k => if k = r then y else o k
theorem fl_more (g : Nat → Int) (o : Nat → Nat) (r y : Nat) : upto (fl g (more o r y)) ((r + 1) * 3) = upto (fl g o) (r * 3) ++ [.int .i64 (g (y * 2)), .int .i64 (g (y * 2 + 1)), .int .i64 (y : Int)] := by
  have e0 : ∀ j, j < r * 3 → fl g (more o r y) j = fl g o j := fun j hj => by
    have : j / 3 ≠ r := by omega
    unfold fl more
    rw [if_neg this]
  have e1 : more o r y r = y := if_pos rfl
  rw [show (r + 1) * 3 = r * 3 + 1 + 1 + 1 by omega, upto_snoc, upto_snoc, upto_snoc]
  rw [show r * 3 + 1 + 1 = r * 3 + 2 by omega, fl2, fl1, fl0, e1]
  have e2 : upto (fl g (more o r y)) (r * 3) = upto (fl g o) (r * 3) := by
    unfold upto
    exact List.map_congr_left fun j hj => by rw [e0 j (List.mem_range.1 hj)]
  rw [e2]
  simp
theorem t_assert (t : TypeId) (a b c : Int) (w : World) : (Instr.typeAssert (.iface 106 (.agg #[.int .i64 a, .int .i64 b, .int .i64 c])) t 106 false).run Try.prog w = .ok (.agg #[.int .i64 a, .int .i64 b, .int .i64 c]) w := by kernel_rfl
set_option maxRecDepth 100000 in
set_option maxHeartbeats 4000000 in
theorem push (g : Nat → Int) (hb : Nat) (v : Value) (r y : Nat) (o : Nat → Nat) (hr : r ≤ 8) (w : World) (hbox : w.heap[hb]? = some (.cells #[v] 102 (0, 0))) (hrow : Hr w (hb + 1) g v r o) :
    Calls Try.prog 122 #[.pointer (some ⟨hb, 0, none⟩), .iface 106 (tbV g y)] w fun e w' => e = .returned (.tuple #[]) ∧ ∃ x' cap', Hid (Hp w' g hb x' cap' (r + 1) (more o r y)) ∧ Hid (Below hb w w') := by
  obtain ⟨i0, hi0, hz0, hz1, hz2⟩ := info_parts info_tb
  have HI := Lib.hid (And.intro hi0 (And.intro hz0 (And.intro hz1 hz2)))
  clear hi0 hz0 hz1 hz2
  have z0 : w.cell? ⟨hb, 0, none⟩ = some v := cell_of_row _ _ 0 _ _ _ hbox
  have hfr := blk_free hbox 0
  have hlt := Ge.lt_of_heap hbox
  have HR := Lib.hid hrow
  have HBX := Lib.hid hbox
  have hsl : ∃ A c, v = .slice A r c := by
    rcases hrow.2 with ⟨rfl, rfl⟩ | ⟨g', cap', cur, rfl, _⟩
    · exact ⟨_, _, rfl⟩
    · exact ⟨_, _, rfl⟩
  have na : some hb ≠ v.ownBlock := fun e => by have := (hrow.lt _ e.symm).1; omega
  have HFM := Lib.hid (fl_more g o r y)
  have B1 := Lib.hid (below_box w (.cells #[.int .i64 (g (y * 2)), .int .i64 (g (y * 2 + 1)), .int .i64 (y : Int)] 106))
  have K1 := Lib.hid (heap_alloc_new w (.cells #[.int .i64 (g (y * 2)), .int .i64 (g (y * 2 + 1)), .int .i64 (y : Int)] 106))
  have HFA := Lib.hid (blk_free (Ge.blk_keep (below_box w (.cells #[.int .i64 (g (y * 2)), .int .i64 (g (y * 2 + 1)), .int .i64 (y : Int)] 106)) hbox) 0)
  clear hrow hbox
  obtain ⟨A, c, rfl⟩ := hsl
  have ta := fun t w => t_assert t (g (y * 2)) (g (y * 2 + 1)) (y : Int) w
  unfold tbV
  generalize g (y * 2) = a0 at *
  generalize g (y * 2 + 1) = a1 at *
  generalize (y : Int) = a2 at *
  generalize hsz : w.heap.size = sz at K1 B1 hlt ⊢
  go_enter Try.func122, Try.ntmps122
  have z1 : (w.alloc (.cells #[.int .i64 a0, .int .i64 a1, .int .i64 a2] 106)).cell? ⟨hb, 0, none⟩ = some (.slice A r c) := Lib.cell?_alloc_some _ z0
  go_region_law (first
      | (refine step_append_lies _ (by rfl) _ _ _ (by rfl) (hb + 1) 106 i0 _ 3 24 Try.underlying102 HI.out.1 HI.out.2.1 HI.out.2.2.1 HI.out.2.2.2 rfl (by omega) (.slice A r c) r _ (by rfl) (HR.out.alloc _).drew
          ⟨sz, 0, none⟩ 1 1 [.int .i64 a0, .int .i64 a1, .int .i64 a2] (by rfl) (by rfl) (World.news_of_block (cs := #[.int .i64 a0, .int .i64 a1, .int .i64 a2]) (t := 106) (fr := (0, 0)) K1.out) (by simp [Value.oneCell'])
          (by omega) (by unfold maxLen; omega) (by omega) (by simp; omega) (sz + 1) (by simp [hsz]) ?_; intro gg cap w6 hown1 hgrow hat hlt6; have hfr6 : w6.frozen? ⟨hb, 0, none⟩ = false := (World.frozen?_of_block (a := ⟨hb, 0, none⟩) (hgrow.block hb (by simp; omega) na)).trans HFA.out; have z6 : w6.cell? ⟨hb, 0, none⟩ = some (.slice A r c) := (hgrow.cell_far ⟨hb, 0, none⟩ (by simp; omega) na).trans z1))
  all_goals
    subst hsz
    have hb6 : w6.heap[hb]? = some (.cells #[.slice A r c] 102 (0, 0)) := (hgrow.block hb (by simp; omega) na).trans (Ge.blk_keep B1.out HBX.out)
    have hg6 : hb + 1 ≤ gg := by
      rcases hown1.2 with ⟨e, _⟩ | ⟨g', cap', cur, e, hbg, _⟩
      · cases e
      · cases e; exact hbg
    have HX := Lib.hid (Ge.heap_set hb6 0 (.slice (some ⟨gg, 0, none⟩) (r + 1) cap))
    have HW : Hid (Hr (w6.setCell ⟨hb, 0, none⟩ (.slice (some ⟨gg, 0, none⟩) (r + 1) cap)) (hb + 1) g (.slice (some ⟨gg, 0, none⟩) (r + 1) cap) (r + 1) (more o r y)) := Lib.hid (by
      unfold Hr
      rw [HFM.out]
      exact ownsRow_setCell_other (a := ⟨hb, 0, none⟩) hown1 (fun q => by have e : gg = hb := Option.some.inj q; omega) _)
    have HB6 : Hid (Below hb w (w6.setCell ⟨hb, 0, none⟩ (.slice (some ⟨gg, 0, none⟩) (r + 1) cap))) := Lib.hid ((((Below.drew B1.out).mono (Nat.le_of_lt hlt)).grown hgrow (by simp; omega) fun q e => by have := (HR.out.lt q e).1; omega).setCell (p := ⟨hb, 0, none⟩) (Nat.le_refl hb) _)
    clear hown1 hgrow hat hlt6 hfr6 z6 hb6
    go_end0
    exact ⟨rfl, gg, cap, Lib.hid ⟨HX.out, HW.out⟩, HB6⟩
theorem more_self (o : Nat → Nat) (r : Nat) : more o r (o r) = o := by
  funext k
  show (if k = r then o r else o k) = o k
  by_cases e : k = r
  · rw [if_pos e, e]
  · rw [if_neg e]
theorem Hr.less {w : World} {B : Nat} {g : Nat → Int} {x r cap : Nat} {o : Nat → Nat} (h : Hr w B g (.slice (some ⟨x, 0, none⟩) (r + 1) cap) (r + 1) o) : Hr w B g (.slice (some ⟨x, 0, none⟩) r cap) r o := by
  have e := fl_more g o r (o r)
  rw [more_self] at e
  unfold Hr at h ⊢
  rw [e] at h
  exact ownsRow_pop (by simp [upto]) h
set_option maxRecDepth 100000 in
set_option maxHeartbeats 4000000 in
theorem pop (g : Nat → Int) (hb x cap r : Nat) (o : Nat → Nat) (hr : r ≤ 8) (w : World) (h : Hp w g hb x cap (r + 1) o) :
    Calls Try.prog 121 #[.pointer (some ⟨hb, 0, none⟩)] w fun e w' => e = .returned (.iface 106 (tbV g (o r))) ∧ Hid (Hp w' g hb x cap r o) ∧ Hid (Fr2 hb x w w') := by
  have H := Lib.hid h
  obtain ⟨x0, x1, x2⟩ := h.row.cells (Nat.lt_succ_self r)
  obtain ⟨x', cap', cur, ex, hBx, hxs, hrc, hcm, _⟩ := h.row.slice (by omega)
  obtain ⟨rfl, rfl⟩ : x = x' ∧ cap = cap' := by simpa using ex
  have z0 : w.cell? ⟨hb, 0, none⟩ = some (.slice (some ⟨x, 0, none⟩) (r + 1) cap) := cell_of_row _ _ 0 _ _ _ h.box
  have hlt := Ge.lt_of_heap h.box
  have r0 : (0 : Int) ≤ (r : Int) := Int.natCast_nonneg _
  have hml : maxLen = 9223372036854775807 := rfl
  have K0 := Lib.hid (heap_alloc_new w (.cells #[.int .i64 (g (o r * 2)), .int .i64 (g (o r * 2 + 1)), .int .i64 (o r : Int)] 106))
  have H1 := Lib.hid (h.below (below_box w (.cells #[.int .i64 (g (o r * 2)), .int .i64 (g (o r * 2 + 1)), .int .i64 (o r : Int)] 106)))
  have B1 := Lib.hid (Fr2.of_below (hb := hb) (x := x) (below_box w (.cells #[.int .i64 (g (o r * 2)), .int .i64 (g (o r * 2 + 1)), .int .i64 (o r : Int)] 106)))
  unfold tbV
  clear h ex
  generalize g (o r * 2) = a0 at *
  generalize g (o r * 2 + 1) = a1 at *
  generalize (o r : Int) = a2 at *
  go_enter Try.func121, Try.ntmps121
  go_upto_region 3 with fail
  generalize hw9 : World.alloc _ _ = w1 at K0 H1 B1 ⊢
  clear hw9 x0 x1 x2 z0 H
  generalize w.heap.size = bx at *
  have z0 : w1.cell? ⟨hb, 0, none⟩ = some (.slice (some ⟨x, 0, none⟩) (r + 1) cap) := cell_of_row _ _ 0 _ _ _ H1.out.box
  have hfr := blk_free H1.out.box
  have y0 := cell_of_row _ _ 0 _ _ _ K0.out
  have y1 := cell_of_row _ _ 1 _ _ _ K0.out
  have y2 := cell_of_row _ _ 2 _ _ _ K0.out
  have hne : ¬ bx = hb := by omega
  have HX := Lib.hid (Ge.heap_set H1.out.box 0 (.slice (some ⟨x, 0, none⟩) r cap))
  have HW : Hid (Hr (w1.setCell ⟨hb, 0, none⟩ (.slice (some ⟨x, 0, none⟩) r cap)) (hb + 1) g (.slice (some ⟨x, 0, none⟩) r cap) r o) := Lib.hid (ownsRow_setCell_other (a := ⟨hb, 0, none⟩) (Hr.less H1.out.row) (fun q => by have e : x = hb := Option.some.inj q; omega) _)
  have HB : Hid (Fr2 hb x w (w1.setCell ⟨hb, 0, none⟩ (.slice (some ⟨x, 0, none⟩) r cap))) := Lib.hid (B1.out.trans (Fr2.set _ _ _))
  clear H1 B1 K0
  go_wp2_with fail
  go_ret
  exact ⟨rfl, Lib.hid ⟨HX.out, HW.out⟩, HB⟩
end Go.Proofs.Ytgclhkiiaclkgab.Tv
