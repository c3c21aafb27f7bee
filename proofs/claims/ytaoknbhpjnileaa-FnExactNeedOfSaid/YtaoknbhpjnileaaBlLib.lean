/- What the written laws lean on, for lasts and fits. -/
import Derived.Test.YtaoknbhpjnileaaBwLib
import Derived.Test.YtaoknbhpjnileaaKbLib
import Derived.Test.YtaoknbhpjnileaaFiLib
import Derived.Test.YtaoknbhpjnileaaLlLib
namespace Go.Proofs.Ytaoknbhpjnileaa.Bw
open Go.RowKit Ft Is Ge Qb La Ll Fi

theorem of_ks {g : Nat} {w w' : World} (h : Ks.But g w w') : But g w w' := ⟨h.os, h.tape, h.output, h.size, h.block⟩
theorem to_ks {g : Nat} {w w' : World} (h : But g w w') : Ks.But g w w' := ⟨h.os, h.tape, h.output, h.size, h.block⟩
theorem ownv_but {g B n : Nat} {w w' : World} {A : Option Addr} {V : Nat → Value} (ho : Ks.OwnV w B A n V) (h : But g w w') (hg : g < B) : Ks.OwnV w' B A n V := ho.but (to_ks h) hg
theorem vals_but {g B n : Nat} {w w' : World} {A : Option Addr} {V : Nat → Value} (ho : Ks.Vals w B A n V) (h : But g w w') (hg : B ≤ g) : Ks.Vals w' B A n V := ho.but (to_ks h) hg
theorem own_of_copy {w : World} {g n : Nat} {arr : Array Value} {N : Nat → ByteArray} {F : Nat → Nat → Int} (h : w.heap[g]? = some (.cells arr 33 (0, 0))) (ha : Arr arr n n N F) : Ks.OwnV w g (some ⟨g, 0, none⟩) (n * 6) (Ks.lv N F) := fun _ =>
  ⟨g, 0, rfl, Nat.le_refl _, lt_of_heap h, fun i hi => by
    rw [Nat.zero_add, cell_of_row _ _ _ _ _ _ h]
    have t := ha.2 (i / 6) (by omega)
    unfold Ks.lv
    split
    · have e : i / 6 * 6 = i := by omega
      rw [e] at t
      exact t.1
    · have t2 := t.2 (i % 6 - 1) (by omega)
      rw [show i / 6 * 6 + (i % 6 - 1 + 1) = i by omega] at t2
      exact t2, fun i => blk_free h i⟩
theorem sz_fit_any (mn mx gi : Int) (A : Option Addr) (n c : Nat) (l : Int) (h0 : 0 ≤ l) (h1 : l ≤ 1048576) (hm : n ≤ maxLen) (w : World) :
    Calls Try.prog 47 #[fitV mn mx gi A n c, .int .i64 l] w fun e w' => ∃ r : Int, e = .returned (.int .i64 r) ∧ -1 ≤ r ∧ r ≤ 1048576 ∧ (0 ≤ r → n ≤ 1048576) ∧ Below w.heap.size w w' := by
  by_cases h : (n : Int) ≤ l
  · exact (sz_fit mn mx gi A n c l h h1 w).mono fun _ _ ⟨e, b⟩ => ⟨l - n, e, by omega, by omega, fun _ => by omega, b⟩
  · exact (sz_fit_big mn mx gi A n c l (by omega) hm h0 h1 w).mono fun _ _ ⟨e, b⟩ => ⟨-1, e, by omega, by omega, fun h => by omega, b⟩
theorem sz_last_any (s : ByteArray) (x : Nat → Int) (l : Int) (h0 : 0 ≤ l) (h1 : l ≤ 1048576) (hm : s.size ≤ maxLen) (w : World) :
    Calls Try.prog 19 #[laV s x, .int .i64 l] w fun e w' => ∃ r : Int, e = .returned (.int .i64 r) ∧ -1 ≤ r ∧ r ≤ 1048576 ∧ (0 ≤ r → s.size ≤ 1048576) ∧ Below w.heap.size w w' := by
  by_cases h : (s.size : Int) ≤ l
  · exact (sz_last s x l h h1 w).mono fun _ _ ⟨e, b⟩ => ⟨l - s.size, e, by omega, by omega, fun _ => by omega, b⟩
  · exact (sz_last_big s x l (by omega) hm h0 h1 w).mono fun _ _ ⟨e, b⟩ => ⟨-1, e, by omega, by omega, fun h => by omega, b⟩
end Go.Proofs.Ytaoknbhpjnileaa.Bw
