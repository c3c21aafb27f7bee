/- The marks of lasts in a copy: block g alone is written. -/
import Derived.Test.YtaoknbhpjnileabKsLib
namespace Go.Proofs.Ytaoknbhpjnileab.Ks
open Go.RowKit Ft Ge Qb La Mt

/-- Block g alone has been written. -/
structure But (g : Nat) (w w' : World) : Prop where
  os : w'.os = w.os
  tape : w'.tape = w.tape
  output : w'.output = w.output
  size : w.heap.size ≤ w'.heap.size
  block : ∀ k, k < w.heap.size → k ≠ g → w'.heap[k]? = w.heap[k]?
theorem But.refl (g : Nat) (w : World) : But g w w := ⟨rfl, rfl, rfl, Nat.le_refl _, fun _ _ _ => rfl⟩
theorem But.trans {g : Nat} {a b c : World} (h : But g a b) (k : But g b c) : But g a c :=
  ⟨k.os.trans h.os, k.tape.trans h.tape, k.output.trans h.output, Nat.le_trans h.size k.size, fun j hj hn => (k.block j (Nat.lt_of_lt_of_le hj h.size) hn).trans (h.block j hj hn)⟩
theorem But.of_below {g : Nat} {w w' : World} (h : Below w.heap.size w w') : But g w w' := ⟨h.os, h.tape, h.output, h.size, fun k hk _ => h.block k hk⟩
theorem But.drew {g : Nat} {a w : World} (h : But g a w) : But g a w.drew := ⟨h.os, h.tape, h.output, h.size, h.block⟩
theorem But.setCell {g : Nat} {a w : World} (h : But g a w) (o : Nat) (u : Value) : But g a (w.setCell ⟨g, o, none⟩ u) :=
  ⟨h.os, h.tape, h.output, by simpa using h.size, fun k hk hn => (Below.heap_setCell _ _ _ _ hn).trans (h.block k hk hn)⟩
theorem But.below {g B : Nat} {w w' : World} (h : But g w w') (hB : B ≤ g) (hs : B ≤ w.heap.size) : Below B w w' := ⟨h.os, h.tape, h.output, h.size, fun k hk => h.block k (by omega) (by omega)⟩
theorem But.cell {g : Nat} {w w' : World} (h : But g w w') {b o : Nat} {v : Value} (hb : b ≠ g) (hc : w.cell? ⟨b, o, none⟩ = some v) : w'.cell? ⟨b, o, none⟩ = some v :=
  (World.cell?_of_block (h.block b (World.block_lt_of_cell? w _ hc) hb)).trans hc
set_option maxHeartbeats 2000000 in
theorem mark_but (g n c : Nat) (k0 : Int) (V : Nat → Value) (hn : n ≤ 1048576) (h0 : 0 < k0) (h1 : k0 ≤ 1048576) (w : World) (h : OwnV w g (some ⟨g, 0, none⟩) (n * 6) V) :
    Calls Try.prog 29 #[.slice (some ⟨g, 0, none⟩) n c, .int .i64 k0] w fun e w' => e = .returned (.int .i64 (k0 + 6 * (n : Int))) ∧ OwnV w' g (some ⟨g, 0, none⟩) (n * 6) (mkv k0) ∧ But g w w' := by
  have HO : Hid (OwnV w g (some ⟨g, 0, none⟩) (n * 6) (mix k0 V 0)) := Lib.hid (h.congr fun i _ => by simp [mix])
  have HE : Hid (∀ w', OwnV w' g (some ⟨g, 0, none⟩) (n * 6) (mix k0 V n) → OwnV w' g (some ⟨g, 0, none⟩) (n * 6) (mkv k0)) := Lib.hid fun w' ho => ho.congr fun i hi => by simp [mix, hi]
  have MT := Lib.hid fun (j : Nat) (hj : j < n) w => mark_text (k0 + 6 * (j : Int)) (by omega) (by omega) w
  clear h
  go_enter Try.func29, Try.ntmps29
  go_wp2_with fail
  go_loopw [1, 5] (fun kk i wr => ∃ j : Nat, j ≤ n ∧ i = .int .i64 j ∧ kk = .int .i64 (k0 + 6 * (j : Int)) ∧ But g w wr ∧ Hid (OwnV wr g (some ⟨g, 0, none⟩) (n * 6) (mix k0 V j))) (fun _ i _ => n - (intOf i).toNat)
  case atStart => exact ⟨0, Nat.zero_le _, rfl, by simp, But.refl _ _, HO⟩
  case round =>
    obtain ⟨j, hj, rfl, rfl, hbel, hown⟩ := hrel
    have HB := Lib.hid hbel
    by_cases hlt : j < n
    · have M := Lib.hid (MT.out j hlt)
      have HOW := Lib.hid fun w' (hb : Below wr.heap.size wr w') => hown.out.below hb
      have e0 : (0 : Int) ≤ (j : Int) := Int.natCast_nonneg _
      have e1 : (j : Int) < (n : Int) := by omega
      have e2 : (j : Int) < 1048576 := by omega
      clear hbel
      skip
      go_wp2_with fail
      refine (M.out _).mono ?_
      rintro e w1 ⟨rfl, b1⟩
      have HB1 := Lib.hid (HB.out.trans (But.of_below b1))
      obtain ⟨b', off', e', hB', hbs', hc', hf'⟩ := (HOW.out w1 b1) (by omega)
      obtain ⟨rfl, rfl⟩ : g = b' ∧ 0 = off' := by simpa using e'
      have x0 : w1.cell? ⟨g, 0 + j * 6, none⟩ = some _ := hc' (j * 6) (by omega)
      have x1 : w1.cell? ⟨g, 0 + j * 6 + 1, none⟩ = some _ := hc' (j * 6 + 1) (by omega)
      have x2 : w1.cell? ⟨g, 0 + j * 6 + 2, none⟩ = some _ := hc' (j * 6 + 2) (by omega)
      have x3 : w1.cell? ⟨g, 0 + j * 6 + 3, none⟩ = some _ := hc' (j * 6 + 3) (by omega)
      have x4 : w1.cell? ⟨g, 0 + j * 6 + 4, none⟩ = some _ := hc' (j * 6 + 4) (by omega)
      have x5 : w1.cell? ⟨g, 0 + j * 6 + 5, none⟩ = some _ := hc' (j * 6 + 5) (by omega)
      have z0 := hf' (0 + j * 6)
      have z1 := hf' (0 + j * 6 + 1)
      have z2 := hf' (0 + j * 6 + 2)
      have z3 := hf' (0 + j * 6 + 3)
      have z4 := hf' (0 + j * 6 + 4)
      have z5 := hf' (0 + j * 6 + 5)
      have HN := Lib.hid (six_set (j := j) (HOW.out w1 b1) (by omega))
      have HM : Hid (mS k0 j = mkT (k0 + 6 * (j : Int))) := Lib.hid rfl
      rw [HM.out] at HN
      clear hc' hf' b1 hj e' HOW M HM
      generalize mix k0 V j (j * 6) = o0 at x0
      generalize mix k0 V j (j * 6 + 1) = o1 at x1
      generalize mix k0 V j (j * 6 + 2) = o2 at x2
      generalize mix k0 V j (j * 6 + 3) = o3 at x3
      generalize mix k0 V j (j * 6 + 4) = o4 at x4
      generalize mix k0 V j (j * 6 + 5) = o5 at x5
      have HQ := Lib.hid ((((((HB1.out.setCell (0 + j * 6) (.string (mkT (k0 + 6 * (j : Int))))).setCell (0 + j * 6 + 1) (.int .i64 (k0 + 6 * (j : Int) + 1))).setCell (0 + j * 6 + 2) (.int .i64 (k0 + 6 * (j : Int) + 1 + 1))).setCell (0 + j * 6 + 3) (.int .i64 (k0 + 6 * (j : Int) + 1 + 1 + 1))).setCell (0 + j * 6 + 4) (.int .i64 (k0 + 6 * (j : Int) + 1 + 1 + 1 + 1))).setCell (0 + j * 6 + 5) (.int .i64 (k0 + 6 * (j : Int) + 1 + 1 + 1 + 1 + 1)))
      simp only [Nat.zero_add] at x0 x1 x2 x3 x4 x5 z0 z1 z2 z3 z4 z5 HN HQ
      go_wp2_with fail
      go_roundw
      case rel => exact ⟨j + 1, by omega, by go_num, by go_num, HQ.out, HN⟩
      case measure => simp [intOf]; omega
    · obtain rfl : j = n := by omega
      have HF := Lib.hid (HE.out _ hown.out)
      go_wp2_with fail
      go_ret
      exact ⟨rfl, HF.out, HB.out⟩
theorem OwnV.but {g : Nat} {w w' : World} {B n : Nat} {A : Option Addr} {V : Nat → Value} (h : OwnV w B A n V) (hb : But g w w') (hg : g < B) : OwnV w' B A n V := fun hp => by
  obtain ⟨b, off, rfl, h1, h2, hc, hf⟩ := h hp
  exact ⟨b, off, rfl, h1, by have := hb.size; omega, fun i hi => (World.cell?_of_block (w := w) (hb.block b h2 (by omega))).trans (hc i hi), fun i => (World.frozen?_of_block (w := w) (hb.block b h2 (by omega))).trans (hf i)⟩
theorem Vals.but {g : Nat} {w w' : World} {B n : Nat} {A : Option Addr} {V : Nat → Value} (h : Vals w B A n V) (hb : But g w w') (hg : B ≤ g) : Vals w' B A n V := fun hp => by
  obtain ⟨b, off, rfl, h1, hc⟩ := h hp
  exact ⟨b, off, rfl, h1, fun i hi => (hb.cell (by omega) (hc i hi))⟩
end Go.Proofs.Ytaoknbhpjnileab.Ks
