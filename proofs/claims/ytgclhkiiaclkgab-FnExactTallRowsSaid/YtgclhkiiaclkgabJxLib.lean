/- Blocks on a roll: the spec's FirstRows. -/
import Derived.Test.YtgclhkiiaclkgabJwLib
namespace Go.Proofs.Ytgclhkiiaclkgab.Jx
set_option linter.unusedVariables false
open Go.RowKit Is Ge Qb Jr Js Jt Jw
open Go.Proofs.Ytgclhkiiaclkgab.Ba (inB below_then below_box ret_bool blk2)

theorem own_at {w' : World} {B g n : Nat} {d : Nat → Int} (h : At w' g n d) (hB : B ≤ g) : Own w' B (some ⟨g, 0, none⟩) n d := fun _ => ⟨g, 0, rfl, hB, h.1, fun i hi => by rw [Nat.zero_add]; exact h.2.1 i hi, h.2.2⟩
theorem nums_row {w : World} {B n : Nat} {f : Nat → Int} {v : Value} (h : w.ownsRow B 2 1 v n (upto f n)) : ∃ A cap, v = .slice A n cap ∧ Nums w w.heap.size A n f := by
  obtain ⟨A, cap, rfl, ho⟩ := Ow.own_of_row h
  refine ⟨A, cap, rfl, fun hn => ?_⟩
  obtain ⟨b, off, rfl, h1, h2, h3, h4⟩ := ho hn
  exact ⟨b, off, rfl, h2, h3⟩
/-- A new list of rows, and a code. -/
noncomputable def rwN (roll : Int) (n : Nat) (g : Nat → Int) : Nat := if tv (BlP roll n g) = true then n else 0
theorem rwn_le (roll : Int) (n : Nat) (g : Nat → Int) : rwN roll n g ≤ n := by unfold rwN; split <;> omega
theorem rwn_small (roll : Int) (n : Nat) (g : Nat → Int) : rwN roll n g ≤ 1048576 := by
  unfold rwN
  split
  · rename_i h
    have := (tv_iff.1 h).1.2
    omega
  · omega
noncomputable def RowAt (roll : Int) (n : Nat) (g : Nat → Int) (o : Nat → Nat) : World → Ending → World → Prop := Ow.PairAt (rwN roll n g) (fst roll g o n).2 (blC roll n g)
theorem row_no {roll : Int} {n : Nat} {g : Nat → Int} {o : Nat → Nat} (h : tv (BlP roll n g) = false) {w w' : World} (hb : Below w.heap.size w w') : RowAt roll n g o w (.returned (.tuple #[.slice none 0 0, .int .i64 1])) w' := by
  unfold RowAt rwN blC
  rw [if_neg (by rw [h]; simp), if_neg (by rw [h]; simp)]
  exact Ow.pair_no hb _
theorem row_ok {roll : Int} {n : Nat} {g : Nat → Int} {o : Nat → Nat} (h : tv (BlP roll n g) = true) {w w1 w' : World} (h1 : Below w.heap.size w w1) (hb : Below w1.heap.size w1 w') (ha : At w' w1.heap.size n (fst roll g o n).2) : RowAt roll n g o w (.returned (.tuple #[.slice (some ⟨w1.heap.size, 0, none⟩) n n, .int .i64 0])) w' := by
  unfold RowAt rwN blC
  rw [if_pos h, if_pos h]
  exact ⟨_, _, rfl, Lib.hid (own_at ha h1.size), below_then h1 hb⟩
set_option maxRecDepth 100000 in
set_option maxHeartbeats 2000000 in
theorem spec_fr (A : Option Addr) (n c : Nat) (g : Nat → Int) (roll : Int) (hn : n ≤ 1048576) (w : World) (hA : Nums w w.heap.size A (n * 2) g) :
    Calls Try.prog 28 #[.slice A n c, .int .i64 roll] w (RowAt roll n g id w) := by
  have C := Lib.hid (spec_ok A n c g roll hn w hA)
  have V0 := Lib.hid (fun h W (hb : Below w.heap.size w W) => row_no (roll := roll) (n := n) (g := g) (o := id) h hb)
  have V1 : Hid (tv (BlP roll n g) = true → ∀ w1, Below w.heap.size w w1 → ∀ P pc, Nums w1 w1.heap.size P n (fun j => (j : Int)) → Calls Try.prog 66 #[.slice A n c, .int .i64 roll, .slice P n pc] w1 fun e w' => e = .returned (.slice (some ⟨w1.heap.size, 0, none⟩) n n) ∧ Below w1.heap.size w1 w' ∧ RowAt roll n g id w (.returned (.tuple #[.slice (some ⟨w1.heap.size, 0, none⟩) n n, .int .i64 0])) w') := Lib.hid fun h w1 b1 P pc hP =>
    (first A n c g roll P pc id (tv_iff.1 h) (fun j hj => hj) w1 ((hA.below b1 (Nat.le_refl _)).more b1.size) hP).mono fun e w' t => ⟨t.1, t.2.1, row_ok h b1 t.2.1 t.2.2⟩
  have NI := Lib.hid (fun (h : tv (BlP roll n g) = true) => (tv_iff.1 h).1.2)
  obtain ⟨i0, hi0, hz0, hz1, hz2⟩ := info_parts info_int
  have HIn := Lib.hid (And.intro hi0 (And.intro hz0 (And.intro hz1 hz2)))
  clear hA hi0 hz0 hz1 hz2
  generalize RowAt roll n g id w = Q at V0 V1 ⊢
  generalize tv (BlP roll n g) = ok at *
  go_enter Try.func28, Try.ntmps28
  go_wp2_with fail
  refine C.out.mono ?_
  rintro e w1 ⟨rfl, rfl⟩
  cases ok
  · have HF := Lib.hid (V0.out rfl _ (Below.refl _ _))
    clear V0 V1 NI C
    go_wp2_with fail
    exact HF.out
  have W1 := Lib.hid (V1.out rfl)
  have hn9 := NI.out rfl
  clear V0 V1 NI C
  go_wp2_with fail
  have B0 := Lib.hid (below_box w (.cells #[] 2))
  have R0 : Hid ((w.alloc (.cells #[] 2)).ownsRow w.heap.size 2 1 (.slice (some ⟨w.heap.size, 0, none⟩) 0 0) 0 (upto (fun r => (r : Int)) 0)) := Lib.hid (Ow.row_zero w _)
  go_loopw [6, 7] (fun o u wr => ∃ (r : Nat) (v : Value), r ≤ n ∧ v = o ∧ u = .int .i64 (r : Int) ∧ Hid (Below w.heap.size w wr) ∧ Hid (wr.ownsRow w.heap.size 2 1 v r (upto (fun r => (r : Int)) r))) (fun _ u _ => n - (intOf u).toNat)
  case atStart => exact ⟨0, _, Nat.zero_le _, rfl, rfl, B0, R0⟩
  case round =>
    obtain ⟨r, v, hr, rfl, rfl, HW, HO⟩ := hrel
    have e0 : (0 : Int) ≤ (r : Int) := Int.natCast_nonneg _
    by_cases hrl : r < n
    · have e1 : (r : Int) < (n : Int) := by omega
      have hr1 : r + 1 ≤ n := by omega
      have HU : Hid (upto (fun r => (r : Int)) (r + 1) = upto (fun r => (r : Int)) r ++ [.int .i64 (r : Int)]) := Lib.hid (upto_snoc _ r)
      have hsz := HW.out.size
      generalize hcl : upto (fun r => (r : Int)) r = cl at HO HU
      clear W1
      go_wp2_with (at_builtin; refine wpList_append_own _ rfl _ _ 30 rfl w.heap.size 2 i0 _ 1 8 Try.underlying30 HIn.out.1 HIn.out.2.1 HIn.out.2.2.1 HIn.out.2.2.2 rfl (by decide) _ _ _ rfl (HO.out.alloc _) ⟨wr.heap.size, 0, none⟩ 1 1 [.int .i64 (r : Int)] rfl rfl ?c1 ?c2 ?c3 ?c4 ?c5 ?_)
      try case c1 => exact Ow.cell_new _ _ _
      case c2 => simp [Value.oneCell']
      case c3 => unfold maxLen; omega
      case c4 => omega
      case c5 => first | omega | (simp <;> omega)
      intro v' w6 hown2 hgrow _
      have HQ6 := Lib.hid ((HW.out.alloc hsz _).grown hgrow (by simp; omega) fun g hg => (HO.out.lt g hg).1)
      have HO6 : Hid (w6.ownsRow w.heap.size 2 1 v' (r + 1) (upto (fun r => (r : Int)) (r + 1))) := Lib.hid (by rw [HU.out]; exact hown2)
      clear hown2 hgrow
      go_wp2_with fail
      go_roundw
      case rel => exact ⟨r + 1, _, hr1, rfl, by go_num, HQ6, HO6⟩
      case measure => simp [intOf]; omega
    · obtain rfl : r = n := by omega
      have e1 : ¬ (r : Int) < (r : Int) := by omega
      obtain ⟨P, pc, rfl, hP⟩ := nums_row HO.out
      have D := Lib.hid (W1.out wr HW.out P pc hP)
      clear W1 hP HO
      go_wp2_with fail
      refine D.out.mono ?_
      rintro e w7 ⟨rfl, b7, q7⟩
      have HF := Lib.hid q7
      clear b7 q7 D
      go_wp2_with fail
      exact HF.out
end Go.Proofs.Ytgclhkiiaclkgab.Jx
