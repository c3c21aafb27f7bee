/- The best build, as a list: the program's loop. -/
import Derived.Test.YtpmmfalpcooenabBjLib
import Derived.Deep.LoopGhost
import Derived.IntWalk
namespace Go.Proofs.Ytpmmfalpcooenab.Bh
open Go.RowKit Go.Maps Ft Is Ge Qb Ly Kn Mm Bg
open Bw (But)

/-- A new list of the layers of a build. -/
def SomeAt (INV : World → Prop) (b : Nat) (m : Nat) (d : Nat → Int) (w : World) (e : Ending) (w' : World) : Prop :=
  ∃ A cap, e = .returned (.tuple #[.slice A m cap, .bool true]) ∧ Hid (Own w' w.heap.size A m d) ∧ Hid (INV w') ∧ Hid (But b w w')
theorem some_at {INV : World → Prop} {b m : Nat} {d : Nat → Int} {w w' : World} {v : Value} (h : w'.ownsRow w.heap.size 2 1 v m (upto d m)) (hI : INV w') (hT : But b w w') : SomeAt INV b m d w (.returned (.tuple #[v, .bool true])) w' := by
  rcases h.2 with ⟨rfl, h0⟩ | ⟨g, cap, cur, rfl, hbg, hh, _⟩
  · exact ⟨none, 0, by rw [h0], Lib.hid fun h => absurd h (by omega), Lib.hid hI, Lib.hid hT⟩
  · exact ⟨_, cap, rfl, Lib.hid fun _ => ⟨g, 0, rfl, hbg, lt_of_heap hh, fun i hi => by
      rw [Nat.zero_add]
      exact (h.cellAt i (by omega)).trans (upto_get d hi), fun i => Ge.blk_free hh i⟩, Lib.hid hI, Lib.hid hT⟩
set_option maxRecDepth 100000 in
set_option maxHeartbeats 2000000 in
theorem some_any (w0 : World) (L gs gm gl gb gp b : Nat) (A Ap : Option Addr) (n c cp : Nat) (x p : Nat → Int) (sl : Int) (P : Par x p n) (hsl : 0 ≤ sl ∧ sl ≤ 1000) (low : Int) (h0 : 0 ≤ low) (h1 : low + sl ≤ 1000) (l : List Nat) (hB : B x (wt p) n sl low = some l) (w : World) (hI : BInv w0 L gs gm gl gb gp b A Ap n c cp x p sl w) :
    Calls Try.prog 79 #[.func (.func 120) #[] #[.pointer (some ⟨gs, 0, none⟩), .pointer (some ⟨gm, 0, none⟩), .pointer (some ⟨gl, 0, none⟩), .pointer (some ⟨gb, 0, none⟩), .pointer (some ⟨gp, 0, none⟩)], .int .i64 low] w (SomeAt (BInv w0 L gs gm gl gb gp b A Ap n c cp x p sl) b l.length (bl x l) w) := by
  obtain ⟨i0, hi0, hz0, hz1, hz2⟩ := info_parts info_int
  have HNf := Lib.hid (And.intro hi0 (And.intro hz0 (And.intro hz1 hz2)))
  have hlen : (l.length : Int) ≤ 1000 := (ok_bd P h1 (B_ok P.ok hB)).1
  have CB0 := begin_any w0 L gs gm gl gb gp b A Ap n c cp x p sl P hsl low.toNat low (Nat.le_refl _) (by omega) (by omega) h1 w hI
  have HLL : Hid (oL (B x (wt p) n sl low) = (l.length : Int) ∧ oE (B x (wt p) n sl low) = true) := Lib.hid (by rw [hB]; exact ⟨rfl, rfl⟩)
  obtain ⟨D, d0, dj, dl, dl2⟩ := chain P l low hB (by omega)
  have HD0 := Lib.hid d0
  have CB := Lib.hid (fun j (hj : j < l.length) w hI => by
    have h := begin_any w0 L gs gm gl gb gp b A Ap n c cp x p sl P hsl (D j).toNat (D j) (Nat.le_refl _) (by have := (dj j hj).1; omega) (by have := (dj j hj).2.1; omega) (by have := (dj j hj).2.1; omega) w hI
    obtain ⟨o1, o2, h6⟩ := (dj j hj).2.2.2.2.2
    rw [h6] at h
    exact (⟨o1, o2, h⟩ : ∃ o1 o2, Calls Try.prog 120 _ w fun e w' => e = .returned (.agg #[.int .i64 o1, .int .i64 o2, .int .i64 (bl x l j), .bool true]) ∧ BInv w0 L gs gm gl gb gp b A Ap n c cp x p sl w' ∧ But b w w'))
  have HDj : Hid (∀ j, j < l.length → 0 < D j ∧ D j ≤ 1000 ∧ 1 ≤ bl x l j ∧ bl x l j ≤ 200 ∧ D (j + 1) = D j - bl x l j) := Lib.hid fun j hj => ⟨(dj j hj).1, by have := (dj j hj).2.1; omega, (dj j hj).2.2.1, (dj j hj).2.2.2.1, (dj j hj).2.2.2.2.1⟩
  have HP : Hid (∀ v w', w'.ownsRow w.heap.size 2 1 v l.length (upto (bl x l) l.length) → BInv w0 L gs gm gl gb gp b A Ap n c cp x p sl w' → But b w w' → SomeAt (BInv w0 L gs gm gl gb gp b A Ap n c cp x p sl) b l.length (bl x l) w (.returned (.tuple #[v, .bool true])) w') := Lib.hid fun v w' h h2 h3 => some_at h h2 h3
  have HTI := Lib.hid (fun W W' (hI : BInv w0 L gs gm gl gb gp b A Ap n c cp x p sl W) (hb : Below L W W') => hI.touch hb)
  have hLw := hI.LW
  have hbL := hI.ltq
  generalize SomeAt _ b l.length (bl x l) w = Q at HP ⊢
  generalize BInv w0 L gs gm gl gb gp b A Ap n c cp x p sl = INV at *
  have HI0 := Lib.hid hI
  generalize B x (wt p) n sl low = o at CB0 HLL
  unfold bgA at CB0
  rw [HLL.out.1, HLL.out.2] at CB0
  generalize oP p o = o1 at CB0
  generalize oX x o = o3 at CB0
  have CB1 := Lib.hid CB0
  generalize bl x l = d at *
  generalize hm : l.length = m at *
  have hmk : ∀ w : World, (Instr.makeSlice 22 (.int .i64 0) (.int .i64 (m : Int))).run Try.prog w = _ := fun w => run_make w _ _ i0 _ Try.underlying22 hi0 hz0 .i64 .i64 0 m (by omega) (by omega) (by rw [hz2]; omega) (by omega)
  rw [hz1] at hmk
  simp only [Int.toNat_natCast] at hmk
  have HMK := Lib.hid hmk
  obtain rfl := HD0.out
  clear hi0 hz0 hz1 hz2 hI hB d0 dj CB0 hmk HLL hm
  go_enter Try.func79, Try.ntmps79
  go_wp2_with fail
  refine CB1.out.mono ?_
  rintro e w2 ⟨rfl, hI2, hT2⟩
  have B3 := below_box w2 (.cells #[.int .i64 o1, .int .i64 (m : Int), .int .i64 o3, .bool true] 115)
  have HI3 := Lib.hid (HTI.out _ _ hI2 (B3.mono (Nat.le_trans hLw hT2.size)))
  have HT3 := Lib.hid (but_below hT2 B3)
  have K3 := heap_alloc_new w2 (.cells #[.int .i64 o1, .int .i64 (m : Int), .int .i64 o3, .bool true] 115)
  clear hI2 hT2 B3 CB1
  go_upto_region 2 with fail
  generalize hw3 : w2.alloc _ = w3 at K3 HI3 HT3 ⊢
  clear hw3
  obtain ⟨r0, r1, r2, r3⟩ := blk4 K3
  have hmk := HMK.out w3
  have hz3 := HT3.out.size
  go_wp2_with fail
  clear hmk HMK
  go_loopg [1, 7, 8] m (fun kx a o _ wr => ∃ (j : Nat) (v : Value), j ≤ m ∧ kx = m - j ∧ v = o ∧ a = .int .i64 (D j) ∧ Hid (INV wr) ∧ Hid (But b w wr) ∧ Hid (wr.ownsRow w.heap.size 2 1 v j (upto d j)))
  case atStart => exact ⟨0, _, Nat.zero_le _, rfl, rfl, rfl, Lib.hid (HTI.out _ _ HI3.out ((below_box _ _).mono (Nat.le_trans hLw hz3))), Lib.hid (but_below HT3.out (below_box _ _)), Lib.hid (World.ownsRow_made w3 _ m hz3 (by unfold maxLen; omega) (by rw [size_madeCells]; omega))⟩
  case round =>
    obtain ⟨j, v, hj, rfl, rfl, rfl, HIr, HTr, HO⟩ := hrel
    by_cases hlt : j < m
    · obtain ⟨d1, d2, d3, d4, d5⟩ := HDj.out j hlt
      obtain ⟨o4, o5, cb⟩ := CB.out j hlt wr HIr.out
      have CR := Lib.hid cb
      have HS := Lib.hid d5
      have HU : Hid (upto d (j + 1) = upto d j ++ [.int .i64 (d j)]) := Lib.hid (upto_snoc _ _)
      generalize hdj : d j = u at d3 d4 HS CR HU
      generalize hDj : D j = t at d1 d2 HS CR ⊢
      clear cb d5 hdj hDj
      go_wp2_with fail
      refine CR.out.mono ?_
      rintro e w2 ⟨rfl, hI2, hT2⟩
      have HI2 := Lib.hid hI2
      have HT2 := Lib.hid (HTr.out.trans hT2)
      have HO2 := Lib.hid (row_but HO.out hT2 (by omega))
      have hz := HT2.out.size
      clear hI2 hT2 CR HIr HTr HO
      have hfd : (Instr.field 115 (.agg #[.int .i64 o4, .int .i64 o5, .int .i64 u, .bool true]) 1).run Try.prog w2 = .ok (.int .i64 u) w2 := by kernel_rfl
      go_wp2_with (at_builtin; refine wpList_append_own _ rfl _ _ 22 rfl w.heap.size 2 i0 _ 1 8 Try.underlying22 HNf.out.1 HNf.out.2.1 HNf.out.2.2.1 HNf.out.2.2.2 rfl (by decide) _ _ _ rfl (HO2.out.alloc _) ⟨w2.heap.size, 0, none⟩ 1 1 [.int .i64 u] rfl rfl ?c1 ?c2 ?c3 ?c4 ?c5 ?_)
      case c1 => exact cell_one_new _ _ _
      case c2 => simp [Value.oneCell']
      case c3 => unfold maxLen; omega
      case c4 => omega
      case c5 => first | omega | (simp <;> omega)
      intro v' w5 hown hgrow _
      have hb5 := (((Below.refl w.heap.size w2).alloc hz _).grown hgrow (by simp; omega) fun g hg => (HO2.out.lt g hg).1)
      have HI5 := Lib.hid (HTI.out _ _ HI2.out (hb5.mono hLw))
      have HT5 := Lib.hid (but_mid HT2.out hb5)
      have HO5 : Hid (w5.ownsRow w.heap.size 2 1 v' (j + 1) (upto d (j + 1))) := Lib.hid (by rw [HU.out]; exact hown)
      clear hown hgrow hb5
      go_wp2_with fail
      go_roundg (m - (j + 1))
      case measure => omega
      case rel => exact ⟨j + 1, _, by omega, rfl, rfl, by rw [HS.out], HI5, HT5, HO5⟩
    · obtain rfl : j = m := by omega
      have HF := Lib.hid (HP.out _ _ HO.out HIr.out HTr.out)
      generalize D j = t at dl dl2 ⊢
      go_wp2_with fail
      exact HF.out
end Go.Proofs.Ytpmmfalpcooenab.Bh
