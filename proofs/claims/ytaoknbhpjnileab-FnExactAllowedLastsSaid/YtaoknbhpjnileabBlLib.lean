/- What the written laws lean on, for lasts and fits. -/
import Derived.Test.YtaoknbhpjnileabBwLib
import Derived.Test.YtaoknbhpjnileabKbLib
import Derived.Test.YtaoknbhpjnileabFiLib
import Derived.Test.YtaoknbhpjnileabLlLib
namespace Go.Proofs.Ytaoknbhpjnileab.Bw
open Go.RowKit Ft Is Ge Qb La Ll Fi

theorem of_ks {g : Nat} {w w' : World} (h : Ks.But g w w') : But g w w' := ⟨h.os, h.tape, h.output, h.size, h.block⟩
theorem to_ks {g : Nat} {w w' : World} (h : But g w w') : Ks.But g w w' := ⟨h.os, h.tape, h.output, h.size, h.block⟩
theorem ownv_but {g B n : Nat} {w w' : World} {A : Option Addr} {V : Nat → Value} (ho : Ks.OwnV w B A n V) (h : But g w w') (hg : g < B) : Ks.OwnV w' B A n V := ho.but (to_ks h) hg
theorem vals_but {g B n : Nat} {w w' : World} {A : Option Addr} {V : Nat → Value} (ho : Ks.Vals w B A n V) (h : But g w w') (hg : B ≤ g) : Ks.Vals w' B A n V := ho.but (to_ks h) hg
theorem own_of_copy {w : World} {g n : Nat} {arr : Array Value} {N : Nat → ByteArray} {F : Nat → Nat → Int} (h : w.heap[g]? = some (.cells arr 33 (0, 0))) (ha : Arr arr n n N F) : Ks.OwnV w g (some ⟨g, 0, none⟩) (n * 6) (Ks.lv N F) := fun _ =>
  ⟨g, 0, rfl, Nat.le_refl _, lt_of_heap h, fun i hi => by
    rw [Nat.zero_add, cell_of_row _ _ _ _ _ _ h]
    have t := ha.2 (i / 6) (by omega)
    unfold Ks.lv
    split
    · have e : i / 6 * 6 = i := by omega
      rw [e] at t
      exact t.1
    · have t2 := t.2 (i % 6 - 1) (by omega)
      rw [show i / 6 * 6 + (i % 6 - 1 + 1) = i by omega] at t2
      exact t2, fun i => blk_free h i⟩
theorem mark_lasts_but (g n c : Nat) (k0 : Int) (V : Nat → Value) (hn : n ≤ 1048576) (h0 : 0 < k0) (h1 : k0 ≤ 1048576) (w : World) (h : Ks.OwnV w g (some ⟨g, 0, none⟩) (n * 6) V) :
    Calls Try.prog 29 #[.slice (some ⟨g, 0, none⟩) n c, .int .i64 k0] w fun e w' => e = .returned (.int .i64 (k0 + 6 * (n : Int))) ∧ But g w w' :=
  (Ks.mark_but g n c k0 V hn h0 h1 w h).mono fun _ _ ⟨h, _, b⟩ => ⟨h, of_ks b⟩
theorem sz_fit_any (mn mx gi : Int) (A : Option Addr) (n c : Nat) (l : Int) (h0 : 0 ≤ l) (h1 : l ≤ 1048576) (hm : n ≤ maxLen) (w : World) :
    Calls Try.prog 14 #[fitV mn mx gi A n c, .int .i64 l] w fun e w' => ∃ r : Int, e = .returned (.int .i64 r) ∧ -1 ≤ r ∧ r ≤ 1048576 ∧ (0 ≤ r → n ≤ 1048576) ∧ Below w.heap.size w w' := by
  by_cases h : (n : Int) ≤ l
  · exact (sz_fit mn mx gi A n c l h h1 w).mono fun _ _ ⟨e, b⟩ => ⟨l - n, e, by omega, by omega, fun _ => by omega, b⟩
  · exact (sz_fit_big mn mx gi A n c l (by omega) hm h0 h1 w).mono fun _ _ ⟨e, b⟩ => ⟨-1, e, by omega, by omega, fun h => by omega, b⟩
theorem sz_last_any (s : ByteArray) (x : Nat → Int) (l : Int) (h0 : 0 ≤ l) (h1 : l ≤ 1048576) (hm : s.size ≤ maxLen) (w : World) :
    Calls Try.prog 13 #[laV s x, .int .i64 l] w fun e w' => ∃ r : Int, e = .returned (.int .i64 r) ∧ -1 ≤ r ∧ r ≤ 1048576 ∧ (0 ≤ r → s.size ≤ 1048576) ∧ Below w.heap.size w w' := by
  by_cases h : (s.size : Int) ≤ l
  · exact (sz_last s x l h h1 w).mono fun _ _ ⟨e, b⟩ => ⟨l - s.size, e, by omega, by omega, fun _ => by omega, b⟩
  · exact (sz_last_big s x l (by omega) hm h0 h1 w).mono fun _ _ ⟨e, b⟩ => ⟨-1, e, by omega, by omega, fun h => by omega, b⟩
theorem mark_fit (mn mx gi : Int) (g n c : Nat) (k0 : Int) (f : Nat → Int) (hn : n ≤ 1048576) (h0 : 0 ≤ k0) (h1 : k0 ≤ 1073741824) (w : World) (h : At w g n f) :
    Calls Try.prog 30 #[fitV mn mx gi (some ⟨g, 0, none⟩) n c, .int .i64 k0] w fun e w' => e = .returned (.int .i64 (k0 + (n : Int))) ∧ But g w w' := by
  have M := Lib.hid (fun w h => mark_at g n c k0 f hn h0 h1 w h)
  have HB := Lib.hid (below_box w (.cells #[.int .i64 mn, .int .i64 mx, .int .i64 gi, .slice (some ⟨g, 0, none⟩) n c] 37))
  have H := Lib.hid (h.below HB.out)
  have hz : ¬ k0 + (n : Int) < 0 := by omega
  clear h
  unfold fitV
  go_enter Try.func30, Try.ntmps30
  go_wp2_with fail
  refine (M.out _ H.out).mono ?_
  rintro e w1 ⟨rfl, b1⟩
  have HQ := Lib.hid ((But.of_below (g := g) HB.out).trans b1)
  clear b1
  go_wp2_with fail
  go_ret
  exact ⟨rfl, HQ.out⟩
end Go.Proofs.Ytaoknbhpjnileab.Bw
