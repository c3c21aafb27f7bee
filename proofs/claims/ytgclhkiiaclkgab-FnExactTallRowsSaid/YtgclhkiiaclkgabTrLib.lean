/- A heap of blocks in memory, through its interface: up. -/
import Derived.Test.YtgclhkiiaclkgabTqLib
namespace Go.Proofs.Ytgclhkiiaclkgab.Tr
set_option linter.unusedVariables false
open Go.RowKit Is Ge Qb Jr Pa To Tq
open Go.Proofs.Ytgclhkiiaclkgab.Ba (inB below_then below_box)

/-- A heap in its box. -/
structure Hp (w : World) (g : Nat → Int) (hb : Nat) (x cap r : Nat) (o : Nat → Nat) : Prop where
  box : w.heap[hb]? = some (.cells #[.slice (some ⟨x, 0, none⟩) r cap] 102 (0, 0))
  row : Hr w (hb + 1) g (.slice (some ⟨x, 0, none⟩) r cap) r o
abbrev hvI (hb : Nat) : Value := .iface 104 (.pointer (some ⟨hb, 0, none⟩))
theorem Hp.below {w w' : World} {g : Nat → Int} {hb x cap r : Nat} {o : Nat → Nat} (h : Hp w g hb x cap r o) (b : Below w.heap.size w w') : Hp w' g hb x cap r o := ⟨Ge.blk_keep b h.box, Ge.row_below h.row b⟩
theorem m_less (f : Nat) (w : World) (hb : Nat) (v : Value) (h : w.cell? ⟨hb, 0, none⟩ = some v) : (method (f + 1) 104 (.pointer (some ⟨hb, 0, none⟩)) "Less").run Try.prog w = .ok (119, v) w := by
  have e : (method (f + 1) 104 (.pointer (some ⟨hb, 0, none⟩)) "Less").run Try.prog w = (do let x ← loadVar 102 ⟨hb, 0, none⟩; pure ((119 : FuncId), x)).run Try.prog w := by kernel_rfl
  rw [e]
  simp [go_sem, loadVar, h]
theorem m_swap (f : Nat) (w : World) (hb : Nat) (v : Value) (h : w.cell? ⟨hb, 0, none⟩ = some v) : (method (f + 1) 104 (.pointer (some ⟨hb, 0, none⟩)) "Swap").run Try.prog w = .ok (120, v) w := by
  have e : (method (f + 1) 104 (.pointer (some ⟨hb, 0, none⟩)) "Swap").run Try.prog w = (do let x ← loadVar 102 ⟨hb, 0, none⟩; pure ((120 : FuncId), x)).run Try.prog w := by kernel_rfl
  rw [e]
  simp [go_sem, loadVar, h]
theorem m_len (f : Nat) (w : World) (hb : Nat) (v : Value) (h : w.cell? ⟨hb, 0, none⟩ = some v) : (method (f + 1) 104 (.pointer (some ⟨hb, 0, none⟩)) "Len").run Try.prog w = .ok (90, v) w := by
  have e : (method (f + 1) 104 (.pointer (some ⟨hb, 0, none⟩)) "Len").run Try.prog w = (do let x ← loadVar 102 ⟨hb, 0, none⟩; pure ((90 : FuncId), x)).run Try.prog w := by kernel_rfl
  rw [e]
  simp [go_sem, loadVar, h]
theorem m_push (f : Nat) (w : World) (hb : Nat) : (method (f + 1) 104 (.pointer (some ⟨hb, 0, none⟩)) "Push").run Try.prog w = .ok (122, .pointer (some ⟨hb, 0, none⟩)) w := by kernel_rfl
theorem m_pop (f : Nat) (w : World) (hb : Nat) : (method (f + 1) 104 (.pointer (some ⟨hb, 0, none⟩)) "Pop").run Try.prog w = .ok (121, .pointer (some ⟨hb, 0, none⟩)) w := by kernel_rfl
/-- All but the heap's box and its blocks are as they were. -/
structure Fr2 (hb x : Nat) (w w' : World) : Prop where
  os : w'.os = w.os
  tape : w'.tape = w.tape
  output : w'.output = w.output
  size : w.heap.size ≤ w'.heap.size
  block : ∀ b, b < w.heap.size → b ≠ hb → b ≠ x → w'.heap[b]? = w.heap[b]?
theorem Fr2.refl (hb x : Nat) (w : World) : Fr2 hb x w w := ⟨rfl, rfl, rfl, Nat.le_refl _, fun _ _ _ _ => rfl⟩
theorem Fr2.trans {hb x : Nat} {a b c : World} (h : Fr2 hb x a b) (k : Fr2 hb x b c) : Fr2 hb x a c :=
  ⟨k.os.trans h.os, k.tape.trans h.tape, k.output.trans h.output, Nat.le_trans h.size k.size, fun i h1 h2 h3 => (k.block i (Nat.lt_of_lt_of_le h1 h.size) h2 h3).trans (h.block i h1 h2 h3)⟩
theorem Fr2.of_below {hb x : Nat} {w w' : World} (h : Below w.heap.size w w') : Fr2 hb x w w' := ⟨h.os, h.tape, h.output, h.size, fun i h1 _ _ => h.block i h1⟩
theorem Fr2.of_but {hb x : Nat} {w w' : World} (h : Bw.But x w w') : Fr2 hb x w w' := ⟨h.os, h.tape, h.output, h.size, fun i h1 _ h3 => h.block i h1 h3⟩
theorem Fr2.set {hb x : Nat} (w : World) (o : Nat) (v : Value) : Fr2 hb x w (w.setCell ⟨hb, o, none⟩ v) := ⟨rfl, rfl, rfl, by simp, fun i _ h2 _ => Below.heap_setCell _ _ _ _ h2⟩
theorem Fr2.below {hb x B : Nat} {w w' : World} (h : Fr2 hb x w w') (h1 : B ≤ hb) (h2 : B ≤ x) (h3 : B ≤ w.heap.size) : Below B w w' := ⟨h.os, h.tape, h.output, h.size, fun i hi => h.block i (by omega) (by omega) (by omega)⟩
/-- They hold the same. -/
def Same (o o' : Nat → Nat) (r : Nat) : Prop := ∀ y, In o' r y ↔ In o r y
theorem same_refl {o : Nat → Nat} {r : Nat} : Same o o r := fun _ => Iff.rfl
theorem Same.sw {o o1 : Nat → Nat} {r i j : Nat} (h : Same o o1 r) (hi : i < r) (hj : j < r) : Same o (sw o1 i j) r := fun y => (sw_in hi hj).trans (h y)
set_option maxRecDepth 100000 in
set_option maxHeartbeats 4000000 in
theorem up (g : Nat → Int) (hb x cap r : Nat) (hr : r ≤ 9) (w : World) (o : Nat → Nat) (j : Nat) (hj : j < r) (h : Hp w g hb x cap r o) (hI : UpI g o r j) (hi : Inj o r) :
    Calls Try.prog 100 #[hvI hb, .int .i64 (j : Int)] w fun e w' => e = .returned (.tuple #[]) ∧ ∃ o', Hid (Hp w' g hb x cap r o') ∧ Hid (HP g o' r ∧ Inj o' r ∧ Same o o' r) ∧ Hid (Fr2 hb x w w') := by
  have H0 := Lib.hid h
  have U0 := Lib.hid hI
  have I0 := Lib.hid (And.intro hi (same_refl (o := o) (r := r)))
  clear h hI hi
  go_enter Try.func100, Try.ntmps100
  go_wp2_with fail
  go_loopw [1, 4] (fun i _ wr => ∃ (k : Nat) (o1 : Nat → Nat), k < r ∧ i = .int .i64 (k : Int) ∧ Hid (Hp wr g hb x cap r o1) ∧ Hid (UpI g o1 r k) ∧ Hid (Inj o1 r ∧ Same o o1 r) ∧ Hid (Fr2 hb x w wr)) (fun i _ _ => (intOf i).toNat)
  case atStart => exact ⟨j, o, hj, rfl, H0, U0, I0, Lib.hid (Fr2.refl _ _ _)⟩
  case round =>
    clear H0 U0 I0
    obtain ⟨k, o1, hk, rfl, H, U, I, B⟩ := hrel
    have k0 : (0 : Int) ≤ (k : Int) := Int.natCast_nonneg _
    by_cases hz : k = 0
    · subst hz
      have HF := Lib.hid (And.intro (up_top U.out) I.out)
      go_wp2_with fail
      go_end0
      exact ⟨rfl, o1, H, HF, B⟩
    · have z0 := cell_of_row _ _ 0 _ _ _ H.out.box
      have hp := par_lt (show 0 < k by omega)
      have LS := Lib.hid (less wr (hb + 1) g x cap r o1 H.out.row hr k (par k) hk (by omega))
      have e1 : ((k : Int) - 1) / 2 = (par k : Int) := by unfold par; omega
      have ml := fun f => m_less f wr hb _ z0
      obtain ⟨q, hq⟩ : ∃ q, @decide (bl g (o1 k) (o1 (par k))) (Classical.propDecidable _) = q := ⟨_, rfl⟩
      rw [hq] at LS
      have e2 : ((par k : Int) == (k : Int)) = false := by simp; omega
      have hlx := H.out.row.slice (by omega)
      cases q
      · have hl : ¬ bl g (o1 k) (o1 (par k)) := @of_decide_eq_false _ (Classical.propDecidable _) hq
        have HF := Lib.hid (And.intro (up_stop U.out hl) I.out)
        clear hq
        go_wp2_with fail
        refine LS.out.mono ?_
        rintro e w1 ⟨rfl, b1⟩
        have H1 := Lib.hid (H.out.below b1)
        have B1 := Lib.hid (B.out.trans (Fr2.of_below b1))
        clear b1 ml z0 LS
        go_wp2_with fail
        go_end0
        exact ⟨rfl, o1, H1, HF, B1⟩
      · have hl : bl g (o1 k) (o1 (par k)) := @of_decide_eq_true _ (Classical.propDecidable _) hq
        clear hq
        go_wp2_with fail
        refine LS.out.mono ?_
        rintro e w1 ⟨rfl, b1⟩
        have H1 := Lib.hid (H.out.below b1)
        have B1 := Lib.hid (B.out.trans (Fr2.of_below b1))
        clear b1 ml z0 LS
        have z0 : w1.cell? ⟨hb, 0, none⟩ = some (.slice (some ⟨x, 0, none⟩) r cap) := cell_of_row _ _ 0 _ _ _ H1.out.box
        have ms := fun f => m_swap f w1 hb _ z0
        have SW := Lib.hid (swap w1 (hb + 1) g x cap r o1 H1.out.row hr (par k) k hp hk)
        go_wp2_with fail
        refine SW.out.mono ?_
        rintro e w2 ⟨rfl, r2, u2⟩
        obtain ⟨x', cap', cur, ex, hBx, hxs, _⟩ := H1.out.row.slice (by omega)
        obtain ⟨rfl, rfl⟩ : x = x' ∧ cap = cap' := by simpa using ex
        have H2 : Hid (Hp w2 g hb x cap r (sw o1 (par k) k)) := Lib.hid ⟨Bw.blk_but H1.out.box u2 (by omega), r2⟩
        have B2 := Lib.hid (B1.out.trans (Fr2.of_but u2))
        have U2 := Lib.hid (up_step U.out (by omega) hk hl)
        have I2 := Lib.hid (And.intro (sw_inj (i := par k) (j := k) (by omega) hk I.out.1) (I.out.2.sw (i := par k) (j := k) (by omega) hk))
        clear SW ms z0 r2 u2 H1 B1
        go_wp2_with fail
        go_roundw
        case rel => exact ⟨par k, _, by omega, rfl, H2, U2, I2, B2⟩
        case measure => simp [intOf]; omega
end Go.Proofs.Ytgclhkiiaclkgab.Tr
