/- Both functions ScaleLengths. -/
import Derived.Test.YtggbdpamjjgakacLeLib
namespace Go.Proofs.Ytggbdpamjjgakac.Lc
open Go.RowKit Ft Is Ge Qb Fg Gm Le

theorem in_of {n a b : Int} (h : inB n a b = true) : a ≤ n ∧ n ≤ b := by simpa [inB] using h
/-- Lengths and a ratio. -/
def RtOk (n : Nat) (f : Nat → Int) (num den : Int) : Prop := LenOk n f ∧ inB num 1 1000 = true ∧ inB den 1 1000 = true
theorem prod_len {u num : Int} (h1 : 1 ≤ u) (h2 : u ≤ 10000) (h : inB num 1 1000 = true) : 0 ≤ u * num ∧ u * num ≤ 10000000 := by
  obtain ⟨n1, n2⟩ := in_of h
  have a := Int.mul_le_mul h2 n2 (by omega) (by omega)
  have b := Int.mul_nonneg (show 0 ≤ u by omega) (show 0 ≤ num by omega)
  omega
/-- A length that has grown in proportion. -/
def sc (f : Nat → Int) (num den : Int) (i : Nat) : Int := fl (2 * (f i * num) + den) (2 * den)
/-- Whether they are all right. -/
noncomputable def rt (n : Nat) (f : Nat → Int) (num den : Int) : Bool := tv (LenOk n f) && (inB num 1 1000 && inB den 1 1000)
theorem rt_yes {n : Nat} {f : Nat → Int} {num den : Int} (h : RtOk n f num den) : rt n f num den = true := by simp [rt, tv_yes h.1, h.2.1, h.2.2]
theorem rt_iff {n : Nat} {f : Nat → Int} {num den : Int} (h : rt n f num den = true) : RtOk n f num den := by
  simp only [rt, Bool.and_eq_true] at h
  exact ⟨tv_iff.1 h.1, h.2.1, h.2.2⟩
theorem spec_ratio (A : Option Addr) (n c : Nat) (f : Nat → Int) (num den : Int) (hn : n ≤ 1048576) (w : World) (hA : Nums w w.heap.size A n f) :
    Calls Try.prog 26 #[.slice A n c, .int .i64 num, .int .i64 den] w fun e w' => e = .returned (.int .i64 (if rt n f num den = true then 0 else 2)) ∧ w = w' := by
  have C1 := Lib.hid (spec_len A n c f hn w hA)
  have C2 := Lib.hid (fun w => in_any num 1 1000 w)
  have C3 := Lib.hid (fun w => in_any den 1 1000 w)
  unfold rt
  generalize tv (LenOk n f) = r1 at C1 ⊢
  generalize hq2 : inB num 1 1000 = r2 at C2 ⊢
  generalize hq3 : inB den 1 1000 = r3 at C3 ⊢
  clear hA hq2 hq3
  have R : r1 = false ∨ (r1 = true ∧ r2 = false) ∨ (r1 = true ∧ r2 = true ∧ r3 = false) ∨ (r1 = true ∧ r2 = true ∧ r3 = true) := by cases r1 <;> cases r2 <;> cases r3 <;> simp
  rcases R with rfl | ⟨rfl, rfl⟩ | ⟨rfl, rfl, rfl⟩ | ⟨rfl, rfl, rfl⟩
  all_goals
    go_enter Try.func26, Try.ntmps26
    go_wp2_with fail
    refine C1.out.mono ?_
    rintro e w' ⟨rfl, rfl⟩
    go_wp2_with (first | (go_at_call_of 20 num; refine (C2.out _).mono ?_; rintro e w' ⟨rfl, rfl⟩) | (go_at_call_of 20 den; refine (C3.out _).mono ?_; rintro e w' ⟨rfl, rfl⟩))
    go_ret
    exact ⟨rfl, rfl⟩
theorem can_any (A : Option Addr) (n c : Nat) (f : Nat → Int) (num den : Int) (hn : n ≤ 1048576) (w : World) (hA : Nums w w.heap.size A n f) :
    Calls Try.prog 29 #[.slice A n c, .int .i64 num, .int .i64 den] w fun e w' => e = .returned (.bool (rt n f num den)) ∧ Below w.heap.size w w' := by
  have C1 := Lib.hid (are_any w.heap.size 1 1 (fun _ => A) (fun _ => n) (fun _ => c) (fun _ => f) (by omega) (w.alloc (.cells #[.slice A n c] 25)) (fun _ _ => hn) (fun j hj => by
    obtain rfl : j = 0 := by omega
    exact cell_of_row _ _ _ _ _ _ (heap_alloc_new w _)) (fun _ _ => (hA.below (below_box w _) (Nat.le_refl _)).more (by simp)))
  have e1 : tv (∀ j, j < 1 → LenOk n f) = tv (LenOk n f) := by
    by_cases h : LenOk n f
    · rw [tv_yes h, tv_yes fun _ _ => h]
    · rw [tv_no h, tv_no fun o => h (o 0 (by omega))]
  rw [e1] at C1
  have HB := Lib.hid (below_box w (.cells #[.slice A n c] 25))
  have C2 := Lib.hid (fun w => La.within_any num 1 1000 w)
  have C3 := Lib.hid (fun w => La.within_any den 1 1000 w)
  unfold rt
  generalize tv (LenOk n f) = r1 at C1 ⊢
  generalize hq2 : inB num 1 1000 = r2 at C2 ⊢
  generalize hq3 : inB den 1 1000 = r3 at C3 ⊢
  clear hA hq2 hq3 e1
  have R : r1 = false ∨ (r1 = true ∧ r2 = false) ∨ (r1 = true ∧ r2 = true ∧ r3 = false) ∨ (r1 = true ∧ r2 = true ∧ r3 = true) := by cases r1 <;> cases r2 <;> cases r3 <;> simp
  rcases R with rfl | ⟨rfl, rfl⟩ | ⟨rfl, rfl, rfl⟩ | ⟨rfl, rfl, rfl⟩
  all_goals
    go_enter Try.func29, Try.ntmps29
    go_wp2_with fail
    refine C1.out.mono ?_
    rintro e w' ⟨rfl, rfl⟩
    go_wp2_with (first | (go_at_call_of 35 num; refine (C2.out _).mono ?_; rintro e w' ⟨rfl, rfl⟩) | (go_at_call_of 35 den; refine (C3.out _).mono ?_; rintro e w' ⟨rfl, rfl⟩))
    go_ret
    exact ⟨rfl, HB.out⟩
theorem own_base {w' : World} {b b' : Nat} {e : TypeId} {size n : Nat} {v : Value} {xs : List Value} (h : w'.ownsRow b e size v n xs) (hb : b' ≤ b) : w'.ownsRow b' e size v n xs :=
  ⟨h.1, by
    rcases h.2 with h0 | ⟨g, cap, cur, hv, hbg, r⟩
    · exact .inl h0
    · exact .inr ⟨g, cap, cur, hv, by omega, r⟩⟩
end Go.Proofs.Ytggbdpamjjgakac.Lc
