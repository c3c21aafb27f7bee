/- A heap of blocks in memory: container/heap's Push and Pop. -/
import Derived.Test.YtgclhkiiaclkgabTvLib
namespace Go.Proofs.Ytgclhkiiaclkgab.Tw
set_option linter.unusedVariables false
open Go.RowKit Is Ge Qb Jr Pa To Tq Tr Tu Tv
open Go.Proofs.Ytgclhkiiaclkgab.Ba (inB below_then below_box)

theorem len_any (A : Option Addr) (r c : Nat) (w : World) : Calls Try.prog 90 #[.slice A r c] w fun e w' => e = .returned (.int .i64 (r : Int)) ∧ w = w' := by
  go_enter Try.func90, Try.ntmps90
  go_wp2_with fail
  go_ret
  exact ⟨rfl, rfl⟩
set_option maxRecDepth 100000 in
set_option maxHeartbeats 4000000 in
theorem hpush (g : Nat → Int) (hb : Nat) (v : Value) (r y : Nat) (o : Nat → Nat) (hr : r ≤ 8) (w : World) (hbox : w.heap[hb]? = some (.cells #[v] 102 (0, 0))) (hrow : Hr w (hb + 1) g v r o) (hp : HP g o r) (hi : Inj o r) (hy : ¬ In o r y) :
    Calls Try.prog 89 #[hvI hb, .iface 106 (tbV g y)] w fun e w' => e = .returned (.tuple #[]) ∧ ∃ x' cap' o', Hid (Hp w' g hb x' cap' (r + 1) o') ∧ Hid (HP g o' (r + 1) ∧ Inj o' (r + 1) ∧ ∀ z, In o' (r + 1) z ↔ In o r z ∨ z = y) ∧ Hid (Below hb w w') := by
  have C1 := Lib.hid (push g hb v r y o hr w hbox hrow)
  have mp := fun f => m_push f w hb
  have UP := Lib.hid (up_start (more_hp (y := y) hp))
  have IN := Lib.hid (more_inj (y := y) hi hy)
  have ME := Lib.hid (fun z => more_in (o := o) (r := r) (x := z) (y := y))
  have hlt := Ge.lt_of_heap hbox
  clear hbox hrow
  unfold tbV at C1 ⊢
  go_enter Try.func89, Try.ntmps89
  go_wp2_with fail
  refine C1.out.mono ?_
  rintro e w1 ⟨rfl, x1, cap1, H1, B1⟩
  have z0 : w1.cell? ⟨hb, 0, none⟩ = some (.slice (some ⟨x1, 0, none⟩) (r + 1) cap1) := cell_of_row _ _ 0 _ _ _ H1.out.box
  have mn := fun f => m_len f w1 hb _ z0
  have C2 := Lib.hid (up g hb x1 cap1 (r + 1) (by omega) w1 _ r (Nat.lt_succ_self r) H1.out UP.out IN.out)
  have CL := Lib.hid (len_any (some ⟨x1, 0, none⟩) (r + 1) cap1 w1)
  clear mp C1
  go_wp2_with fail
  try (rw [mn]; simp only [Result.andThen]; go_wp2_with fail)
  refine CL.out.mono ?_
  rintro e w1' ⟨rfl, rfl⟩
  go_wp2_with fail
  refine C2.out.mono ?_
  rintro e w2 ⟨rfl, o', H2, P2, B2⟩
  have hgx : hb + 1 ≤ x1 := by
    obtain ⟨x', cap', cur, ex, hBx, _⟩ := H1.out.row.slice (by omega)
    obtain ⟨rfl, rfl⟩ : x1 = x' ∧ cap1 = cap' := by simpa using ex
    exact hBx
  have HB := Lib.hid (B1.out.trans (B2.out.below (B := hb) (Nat.le_refl hb) (by omega) (Nat.le_of_lt (Ge.lt_of_heap H1.out.box))))
  have HZ : Hid (HP g o' (r + 1) ∧ Inj o' (r + 1) ∧ ∀ z, In o' (r + 1) z ↔ In o r z ∨ z = y) := Lib.hid ⟨P2.out.1, P2.out.2.1, fun z => (P2.out.2.2 z).trans (ME.out z)⟩
  clear C2 CL mn z0 H1 B1 P2 B2
  go_wp2_with fail
  go_end0
  exact ⟨rfl, x1, cap1, o', H2, HZ, HB⟩
set_option maxRecDepth 100000 in
set_option maxHeartbeats 4000000 in
theorem swap_one (w : World) (B : Nat) (g : Nat → Int) (x cap r : Nat) (o : Nat → Nat) (h : Hr w B g (.slice (some ⟨x, 0, none⟩) r cap) r o) (hr : r ≤ 9) (h0 : 0 < r) :
    Calls Try.prog 120 #[.slice (some ⟨x, 0, none⟩) r cap, .int .i64 0, .int .i64 0] w fun e w' => e = .returned (.tuple #[]) ∧ Hr w' B g (.slice (some ⟨x, 0, none⟩) r cap) r o ∧ Bw.But x w w' := by
  obtain ⟨x0, x1, x2⟩ := h.cells h0
  rw [Nat.zero_mul] at x0
  rw [Nat.zero_mul, Nat.zero_add] at x1 x2
  have hp := (h.put (o' := o) h0 (y := o 0) rfl fun k hk => rfl)
  have hq := (hp.put (o' := o) h0 (y := o 0) rfl fun k hk => rfl)
  obtain ⟨x', cap', cur, e, hBx, lx, _, _, hbk⟩ := h.slice h0
  obtain ⟨rfl, rfl⟩ : x = x' ∧ cap = cap' := by simpa using e
  clear e
  have f0 := blk_free hbk 0
  have f1 := blk_free hbk 1
  have f2 := blk_free hbk 2
  have i1 : (0 : Int) < (r : Int) := by omega
  unfold put3 at hq
  simp only [Nat.zero_mul, Nat.zero_add] at hq
  have HQ := Lib.hid hq
  clear hp hq h hbk hr
  generalize g (o 0 * 2) = a0 at *
  generalize g (o 0 * 2 + 1) = a1 at *
  generalize (o 0 : Int) = a2 at *
  have HB := Lib.hid (((((((Bw.But.refl x w).setCell 0 (.int .i64 a0)).setCell 1 (.int .i64 a1)).setCell 2 (.int .i64 a2)).setCell 0 (.int .i64 a0)).setCell 1 (.int .i64 a1)).setCell 2 (.int .i64 a2))
  go_enter Try.func120, Try.ntmps120
  go_region
  generalize hws : World.setCell _ _ _ = ws at HQ HB ⊢
  clear hws
  have HQd : Hid (Hr ws.drew B g (.slice (some ⟨x, 0, none⟩) r cap) r o) := Lib.hid ⟨HQ.out.1, HQ.out.2⟩
  have HBd : Hid (Bw.But x w ws.drew) := Lib.hid ⟨HB.out.os, HB.out.tape, HB.out.output, HB.out.size, HB.out.block⟩
  go_end0
  exact ⟨rfl, HQd.out, HBd.out⟩
theorem sw_same (o : Nat → Nat) (i : Nat) : sw o i i = o := by
  funext k
  by_cases e : k = i
  · rw [e, sw_i]
  · rw [sw_o e e]
/-- The first and the last change places. -/
theorem swap_any (w : World) (B : Nat) (g : Nat → Int) (x cap r : Nat) (o : Nat → Nat) (h : Hr w B g (.slice (some ⟨x, 0, none⟩) (r + 1) cap) (r + 1) o) (hr : r ≤ 8) :
    Calls Try.prog 120 #[.slice (some ⟨x, 0, none⟩) (r + 1) cap, .int .i64 0, .int .i64 (r : Int)] w fun e w' => e = .returned (.tuple #[]) ∧ Hr w' B g (.slice (some ⟨x, 0, none⟩) (r + 1) cap) (r + 1) (sw o 0 r) ∧ Bw.But x w w' := by
  by_cases e : r = 0
  · subst e
    rw [sw_same]
    exact swap_one w B g x cap 1 o h (by omega) (by omega)
  · exact swap w B g x cap (r + 1) o h (by omega) 0 r (by omega) (by omega)
set_option maxRecDepth 100000 in
set_option maxHeartbeats 4000000 in
theorem hpop (g : Nat → Int) (hb x cap r : Nat) (o : Nat → Nat) (hr : r ≤ 8) (w : World) (h : Hp w g hb x cap (r + 1) o) (hp : HP g o (r + 1)) (hi : Inj o (r + 1)) :
    Calls Try.prog 91 #[hvI hb] w fun e w' => e = .returned (.iface 106 (tbV g (o 0))) ∧ ∃ o', Hid (Hp w' g hb x cap r o') ∧ Hid (HP g o' r ∧ Inj o' r ∧ Same (sw o 0 r) o' r) ∧ Hid (Fr2 hb x w w') := by
  have z0 : w.cell? ⟨hb, 0, none⟩ = some (.slice (some ⟨x, 0, none⟩) (r + 1) cap) := cell_of_row _ _ 0 _ _ _ h.box
  have mn := fun f => m_len f w hb _ z0
  have ms := fun f => m_swap f w hb _ z0
  have CL := Lib.hid (len_any (some ⟨x, 0, none⟩) (r + 1) cap w)
  have SW := Lib.hid (swap_any w (hb + 1) g x cap r o h.row hr)
  have H := Lib.hid h
  have DS := Lib.hid (dn_start hp)
  have IN := Lib.hid (inj_less (sw_inj (i := 0) (j := r) (by omega) (by omega) hi))
  have r0 : (0 : Int) ≤ (r : Int) := Int.natCast_nonneg _
  have hlt := Ge.lt_of_heap h.box
  obtain ⟨x', cap', cur, ex, hBx, hxs, _⟩ := h.row.slice (by omega)
  obtain ⟨rfl, rfl⟩ : x = x' ∧ cap = cap' := by simpa using ex
  clear h hp hi ex
  go_enter Try.func91, Try.ntmps91
  go_wp2_with fail
  try (rw [mn]; simp only [Result.andThen]; go_wp2_with fail)
  refine CL.out.mono ?_
  rintro e w1 ⟨rfl, rfl⟩
  go_wp2_with fail
  try (rw [ms]; simp only [Result.andThen]; go_wp2_with fail)
  refine SW.out.mono ?_
  rintro e w2 ⟨rfl, r2, u2⟩
  have H2 : Hid (Hp w2 g hb x cap (r + 1) (sw o 0 r)) := Lib.hid ⟨Bw.blk_but H.out.box u2 (by omega), r2⟩
  have B2 : Hid (Fr2 hb x w w2) := Lib.hid (Fr2.of_but u2)
  have CD := Lib.hid (down g hb x cap (r + 1) r (by omega) (by omega) w2 _ H2.out DS.out IN.out)
  clear mn ms SW CL z0 r2 u2
  go_wp2_with fail
  refine CD.out.mono ?_
  rintro e w3 ⟨⟨b, rfl⟩, o', H3, P3, B3⟩
  have he : o' r = o 0 := P3.out.2.2.trans sw_j
  have CP := Lib.hid (pop g hb x cap r o' hr w3 H3.out)
  rw [he] at CP
  have mp := fun f => m_pop f w3 hb

  go_wp2_with fail
  try (rw [mp]; simp only [Result.andThen]; go_wp2_with fail)
  refine CP.out.mono ?_
  rintro e w4 ⟨rfl, H4, B4⟩
  have HB := Lib.hid ((B2.out.trans B3.out).trans B4.out)
  have HZ : Hid (HP g o' r ∧ Inj o' r ∧ Same (sw o 0 r) o' r) := Lib.hid ⟨P3.out.1, P3.out.2.1.1, P3.out.2.1.2⟩
  clear CD CP mp H2 B2 H3 P3 B3 B4
  go_wp2_with fail
  go_ret
  exact ⟨rfl, o', H4, HZ, HB⟩
end Go.Proofs.Ytgclhkiiaclkgab.Tw
