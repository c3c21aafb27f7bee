/- The lasts that are allowed for each of some feet, and what they cost together: the program's choices. -/
import Derived.Test.YtaoknbhpjnileabCrLib
import Derived.Test.YtaoknbhpjnileabKsLib
import Derived.Deep.RegionWith
import Derived.Sort.Grow
namespace Go.Proofs.Ytaoknbhpjnileab.Ch
open Go.RowKit Ft Is Ge Qb Fa Fi La Ll Lv Co

/-- The places below k of which p holds. -/
def fl (p : Nat → Bool) (k : Nat) : List Nat := (List.range k).filter p
theorem fl_yes {p : Nat → Bool} {k : Nat} (h : p k = true) : fl p (k + 1) = fl p k ++ [k] := by simp [fl, List.range_succ, h]
theorem fl_no {p : Nat → Bool} {k : Nat} (h : p k = false) : fl p (k + 1) = fl p k := by simp [fl, List.range_succ, h]
theorem fl_le (p : Nat → Bool) (k : Nat) : (fl p k).length ≤ k := by
  have := List.length_filter_le p (List.range k)
  simpa [fl] using this
theorem fl_mem {p : Nat → Bool} {k i : Nat} (h : i ∈ fl p k) : i < k ∧ p i = true := by
  have := List.mem_filter.1 h
  exact ⟨List.mem_range.1 this.1, this.2⟩
theorem fl_congr {p q : Nat → Bool} {k : Nat} (h : ∀ i, i < k → p i = q i) : fl p k = fl q k := List.filter_congr fun i hi => h i (List.mem_range.1 hi)
/-- Choices as cells: places, and what each costs. -/
def cc (cost : Nat → Int) : List Nat → List Value
  | [] => []
  | i :: l => .int .i64 (i : Int) :: .int .i64 (cost i) :: cc cost l
theorem cc_append (cost : Nat → Int) : ∀ l m : List Nat, cc cost (l ++ m) = cc cost l ++ cc cost m
  | [], m => rfl
  | i :: l, m => by show _ :: _ :: cc cost (l ++ m) = _; rw [cc_append cost l m]; rfl
theorem cc_snoc (cost : Nat → Int) (l : List Nat) (k : Nat) : cc cost (l ++ [k]) = cc cost l ++ [.int .i64 (k : Int), .int .i64 (cost k)] := cc_append cost l [k]
theorem cc_len (cost : Nat → Int) : ∀ l : List Nat, (cc cost l).length = l.length * 2
  | [] => rfl
  | i :: l => by show (cc cost l).length + 1 + 1 = (l.length + 1) * 2; rw [cc_len cost l]; omega
theorem cc_get (cost : Nat → Int) : ∀ (l : List Nat) (i : Nat), i < l.length → (cc cost l)[i * 2]? = some (.int .i64 ((l.getD i 0 : Nat) : Int)) ∧ (cc cost l)[i * 2 + 1]? = some (.int .i64 (cost (l.getD i 0)))
  | [], i, h => absurd h (Nat.not_lt_zero _)
  | a :: l, 0, _ => ⟨rfl, rfl⟩
  | a :: l, i + 1, h => by
    have := cc_get cost l i (by simpa using h)
    rw [show (i + 1) * 2 = i * 2 + 1 + 1 by omega]
    simpa [cc] using this
theorem cc_one (cost : Nat → Int) : ∀ (l : List Nat), ∀ v ∈ cc cost l, v.oneCell' = true
  | [], v, h => by cases h
  | a :: l, v, h => by
    have h' : v = .int .i64 (a : Int) ∨ v = .int .i64 (cost a) ∨ v ∈ cc cost l := by simpa [cc] using h
    rcases h' with rfl | rfl | h'
    · rfl
    · rfl
    · exact cc_one cost l v h'

/-- What a last costs for the first k feet. -/
def ck (p : Nat → Int) (mn : Int) (x : Nat → Int) (E : Nat → Nat → Int) : Nat → Int
  | 0 => 0
  | k + 1 => ck p mn x E k + ps p (df mn x (E k)) 4
/-- Whether it is refused for one of k feet. -/
noncomputable def rk (mn mx gi : Int) (x : Nat → Int) (E : Nat → Nat → Int) (k : Nat) : Bool := tv (∃ j, j < k ∧ rf mn mx gi x (E j))
theorem rk_no {mn mx gi : Int} {x : Nat → Int} {E : Nat → Nat → Int} {k : Nat} (h : rk mn mx gi x E k = false) {j : Nat} (hj : j < k) : ¬ rf mn mx gi x (E j) := fun e => by
  rw [show rk mn mx gi x E k = true from tv_yes ⟨j, hj, e⟩] at h
  cases h

set_option maxRecDepth 100000 in
set_option maxHeartbeats 2000000 in
theorem contains_any (HG : GapsSaid) (s : ByteArray) (x : Nat → Int) (mn mx gi : Int) (A : Option Addr) (c : Nat) (hx : Mild x) (AF : Option Addr) (k cf : Nat) (E : Nat → Nat → Int) (hE : ∀ j, j < k → Mild (E j)) (hk : k ≤ 1048576) (w : World) (hF : Fs.Ints w w.heap.size 4 AF k E) :
    Calls Try.prog 110 #[.slice AF k cf, .func (.func 60) #[ftgV s x mn mx gi A c] #[]] w
      fun e w' => e = .returned (.bool (rk mn mx gi x E k)) ∧ Below w.heap.size w w' := by
  have HF := Lib.hid hF
  have CR := Lib.hid (fun j (hj : j < k) w => refused_any HG s x (E j) mn mx gi A c hx (hE j hj) w)
  have KI : Calls Try.prog 128 #[.slice AF k cf, .func (.func 60) #[ftgV s x mn mx gi A c] #[]] w
      fun e w' => ∃ r : Int, e = .returned (.int .i64 r) ∧ (rk mn mx gi x E k = decide (0 ≤ r)) ∧ -1 ≤ r ∧ r ≤ 1048576 ∧ Below w.heap.size w w' := by
    clear hF hx hE HG
    go_enter Try.func128, Try.ntmps128
    go_wp2_with fail
    go_loopw [5, 8] (fun _ i wr => ∃ j : Nat, j ≤ k ∧ i = .int .i64 j ∧ Below w.heap.size w wr ∧ Hid (∀ i, i < j → ¬ rf mn mx gi x (E i))) (fun _ i _ => k - (intOf i).toNat)
    case atStart => exact ⟨0, Nat.zero_le _, rfl, Below.refl _ _, Lib.hid fun i hi => absurd hi (Nat.not_lt_zero _)⟩
    case round =>
      obtain ⟨j, hj, rfl, hbel, HD⟩ := hrel
      have HB := Lib.hid hbel
      by_cases hlt : j < k
      · obtain ⟨b, off, rfl, hb, hc⟩ := (HF.out.below hbel (Nat.le_refl _)).2.2 (by omega)
        obtain ⟨x0, x1, x2, x3⟩ := Fs.Ints.cells4 hc hlt
        have C := Lib.hid (CR.out j hlt)
        have HR : Hid (tv (rf mn mx gi x (E j)) = true ↔ rf mn mx gi x (E j)) := Lib.hid tv_iff
        generalize tv (rf mn mx gi x (E j)) = r at C HR
        have e0 : (0 : Int) ≤ (j : Int) := Int.natCast_nonneg _
        have e1 : (j : Int) < (k : Int) := by omega
        clear hc hb hbel
        cases r
        · have HD' : Hid (∀ i, i < j + 1 → ¬ rf mn mx gi x (E i)) := Lib.hid fun i hi => by
            by_cases e : i = j
            · rw [e]; exact fun q => by have := HR.out.2 q; cases this
            · exact HD.out i (by omega)
          go_wp2_with fail
          refine (C.out _).mono ?_
          rintro e wq ⟨rfl, bq⟩
          have HQ := Lib.hid (below_then HB.out bq)
          clear bq
          go_wp2_with fail
          go_roundw
          case rel => exact ⟨j + 1, by omega, by go_num, HQ.out, HD'⟩
          case measure => simp [intOf]; omega
        · have HY : Hid (rk mn mx gi x E k = decide ((0 : Int) ≤ (j : Int))) := Lib.hid (by
            rw [decide_eq_true e0]
            exact tv_yes ⟨j, hlt, HR.out.1 (by first | rfl | trivial)⟩)
          go_wp2_with fail
          refine (C.out _).mono ?_
          rintro e wq ⟨rfl, bq⟩
          have HQ := Lib.hid (below_then HB.out bq)
          clear bq
          go_wp2_with fail
          go_ret
          exact ⟨(j : Int), rfl, HY.out, by omega, by omega, HQ.out⟩
      · obtain rfl : j = k := by omega
        have HY : Hid (rk mn mx gi x E j = decide ((0 : Int) ≤ (-1 : Int))) := Lib.hid (by
          rw [decide_eq_false (by omega)]
          exact tv_no fun ⟨i, hi, q⟩ => HD.out i hi q)
        go_wp2_with fail
        go_ret
        exact ⟨-1, rfl, HY.out, by omega, by omega, HB.out⟩
  have K := Lib.hid KI
  clear KI HF CR hF hx hE HG
  generalize rk mn mx gi x E k = R at K ⊢
  go_enter Try.func110, Try.ntmps110
  go_wp2_with fail
  refine K.out.mono ?_
  rintro e w1 ⟨r, rfl, hr, hr0, hr1, b1⟩
  have HB := Lib.hid b1
  have HR := Lib.hid hr
  clear b1 hr
  by_cases h : 0 ≤ r
  · go_wp2_with fail
    go_ret
    exact ⟨by rw [HR.out, decide_eq_true h]; rfl, HB.out⟩
  · go_wp2_with fail
    go_ret
    exact ⟨by rw [HR.out, decide_eq_false (Int.not_le.2 h)]; rfl, HB.out⟩
end Go.Proofs.Ytaoknbhpjnileab.Ch
