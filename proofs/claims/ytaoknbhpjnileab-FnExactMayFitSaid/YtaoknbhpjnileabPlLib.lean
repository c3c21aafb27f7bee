/- The place of a name in a valid list of lasts: the spec's search and the program's. -/
import Derived.Test.YtaoknbhpjnileabLvLib
import Derived.Test.YtaoknbhpjnileabNhLib
import Derived.Deep.LoopGhost
import Derived.Shelf.Lays
namespace Go.Proofs.Ytaoknbhpjnileab.Pl
open Go.RowKit Go.Shelf Ft Ge Qb La Ll Lv

theorem lt_irr : ∀ x : List UInt8, Op.bytesLess x x = false
  | [] => rfl
  | a :: x => by
    have h : ¬ a < a := by simp only [UInt8.lt_iff_toNat_lt]; omega
    simp [Op.bytesLess, h, lt_irr x]
theorem lt_tr : ∀ x y z : List UInt8, Op.bytesLess x y = true → Op.bytesLess y z = true → Op.bytesLess x z = true
  | _, [], _, h, _ => by cases ‹List UInt8› <;> simp [Op.bytesLess] at h
  | _, _ :: _, [], _, h => by simp [Op.bytesLess] at h
  | [], _ :: _, _ :: _, _, _ => rfl
  | a :: x, b :: y, c :: z, h1, h2 => by
    have ih := lt_tr x y z
    simp only [Op.bytesLess, Bool.or_eq_true, Bool.and_eq_true, decide_eq_true_eq, beq_iff_eq, UInt8.lt_iff_toNat_lt] at h1 h2 ⊢
    rcases h1 with h1 | ⟨rfl, h1⟩
    · rcases h2 with h2 | ⟨rfl, h2⟩
      · left; omega
      · left; exact h1
    · rcases h2 with h2 | ⟨rfl, h2⟩
      · left; exact h2
      · right; exact ⟨rfl, ih h1 h2⟩
theorem lt_far {n : Nat} {N : Nat → ByteArray} (h : ∀ i, i + 1 < n → lt (N i) (N (i + 1)) = true) : ∀ d i, i + d + 1 < n → lt (N i) (N (i + d + 1)) = true
  | 0, i, hi => h i hi
  | d + 1, i, hi => lt_tr _ _ _ (lt_far h d i (by omega)) (by have := h (i + d + 1) (by omega); exact this)
theorem lt_any {n : Nat} {N : Nat → ByteArray} (h : ∀ i, i + 1 < n → lt (N i) (N (i + 1)) = true) {i j : Nat} (hij : i < j) (hj : j < n) : lt (N i) (N j) = true := by
  obtain ⟨d, rfl⟩ : ∃ d, j = i + d + 1 := ⟨j - i - 1, by omega⟩
  exact lt_far h d i hj
/-- Whether the name at a place is not before s. -/
def ge (N : Nat → ByteArray) (s : ByteArray) (i : Nat) : Bool := !lt (N i) s
/-- The place that s has or would have. -/
def pl (n : Nat) (N : Nat → ByteArray) (s : ByteArray) : Nat := Nh.cut n (ge N s)
theorem pl_le (n : Nat) (N : Nat → ByteArray) (s : ByteArray) : pl n N s ≤ n := Nh.cut_le _ _
theorem pl_at {n : Nat} {N : Nat → ByteArray} (h : ∀ i, i + 1 < n → lt (N i) (N (i + 1)) = true) (s : ByteArray) : ∀ i, i < n → ge N s i = decide (pl n N s ≤ i) :=
  Nh.cut_iff n _ fun a b hab hb ha => by
    by_cases e : a = b
    · rw [← e]; exact ha
    · have h1 := lt_any h (show a < b by omega) hb
      unfold ge at *
      cases hq : lt (N b) s
      · rfl
      · have h2 : lt (N a) s = true := lt_tr _ _ _ h1 hq
        rw [h2] at ha
        cases ha
theorem pl_eq {n : Nat} {N : Nat → ByteArray} (h : ∀ i, i + 1 < n → lt (N i) (N (i + 1)) = true) {s : ByteArray} {k : Nat} (hk : k < n) (he : ((N k).toList == s.toList) = true) : pl n N s = k := by
  have he' : (N k).toList = s.toList := by simpa using he
  have h1 := pl_at h s k hk
  have h2 : ge N s k = true := by
    unfold ge lt
    rw [he', lt_irr]
    rfl
  rw [h2] at h1
  have h3 : pl n N s ≤ k := by simpa using h1.symm
  by_cases e : pl n N s = k
  · exact e
  · have h4 := pl_at h s (pl n N s) (by omega)
    have h5 := lt_any h (show pl n N s < k by omega) hk
    unfold ge at h4
    have h6 : lt (N (pl n N s)) s = true := by unfold lt at *; rw [← he']; exact h5
    rw [h6] at h4
    simp at h4
/-- Whether the name is there. -/
def thr (n : Nat) (N : Nat → ByteArray) (s : ByteArray) : Bool := decide (pl n N s < n) && ((N (pl n N s)).toList == s.toList)

set_option maxHeartbeats 1000000 in
set_option maxRecDepth 100000 in
/-- sort.Search: of the condition that holds from c on it finds c. -/
theorem search_cl (g : Nat) (lb : Array Value) (n c : Nat) (hn : n ≤ 100000) (hc : c ≤ n) (w : World) (eg : ∀ args w, (callFunc g args).run Try.prog w = .ok (.enter g args) w)
    (hf : ∀ (W : World) (i : Nat), i < n → Below w.heap.size w W → Calls Try.prog g (#[.int .i64 i] ++ lb) W fun e w' => e = .returned (.bool (decide (c ≤ i))) ∧ Below W.heap.size W w') :
    Calls Try.prog 84 #[.int .i64 n, .func (.func g) #[] lb] w fun e w' => e = .returned (.int .i64 (c : Int)) ∧ Below w.heap.size w w' := by
  have HF := Lib.hid hf
  clear hf
  go_enter Try.func84, Try.ntmps84
  go_wp2_with fail
  go_loopg [5, 6] n (fun kx s5 s6 wr => ∃ (lo hi : Nat), s5 = .int .i64 lo ∧ s6 = .int .i64 hi ∧ lo ≤ c ∧ c ≤ hi ∧ hi ≤ n ∧ hi - lo ≤ kx ∧ Hid (Below w.heap.size w wr))
  case atStart => exact ⟨0, n, rfl, rfl, Nat.zero_le _, hc, Nat.le_refl _, by omega, Lib.hid (Below.refl _ _)⟩
  case round =>
    obtain ⟨lo, hi, rfl, rfl, h1, h2, h3, h4, HB⟩ := hrel
    by_cases hlt : lo < hi
    · have hc' := HF.out wr ((lo + hi) / 2) (by omega) HB.out
      rw [show (((lo + hi) / 2 : Nat) : Int) = ((lo : Int) + (hi : Int)) / 2 by omega] at hc'
      cases hp : decide (c ≤ (lo + hi) / 2) <;> rw [hp] at hc' <;> simp at hp
      · go_wp2_with (go_at_fn g; refine hc'.mono ?_; rintro e w2 ⟨rfl, b2⟩)
        have HQ := Lib.hid (below_then HB.out b2)
        clear b2 hc'
        go_roundg (hi - ((lo + hi) / 2 + 1))
        case measure => omega
        case rel => exact ⟨(lo + hi) / 2 + 1, hi, by rw [show ((lo : Int) + (hi : Int)) / 2 + 1 = (((lo + hi) / 2 + 1 : Nat) : Int) by omega], rfl, by omega, h2, h3, Nat.le_refl _, HQ⟩
      · go_wp2_with (go_at_fn g; refine hc'.mono ?_; rintro e w2 ⟨rfl, b2⟩)
        have HQ := Lib.hid (below_then HB.out b2)
        clear b2 hc'
        go_roundg ((lo + hi) / 2 - lo)
        case measure => omega
        case rel => exact ⟨lo, (lo + hi) / 2, rfl, by rw [show ((lo : Int) + (hi : Int)) / 2 = (((lo + hi) / 2 : Nat) : Int) by omega], h1, by omega, by omega, Nat.le_refl _, HQ⟩
    · obtain rfl : hi = lo := by omega
      obtain rfl : c = hi := by omega
      go_wp2_with fail
      go_ret
      exact ⟨rfl, HB.out⟩

end Go.Proofs.Ytaoknbhpjnileab.Pl
