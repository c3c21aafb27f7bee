/- Both functions ScaleLengths. -/
import Derived.Test.YtaoknbhpjnileabLeLib
namespace Go.Proofs.Ytaoknbhpjnileab.Lc
open Go.RowKit Ft Is Ge Qb Fg Gm Le

theorem in_of {n a b : Int} (h : inB n a b = true) : a ≤ n ∧ n ≤ b := by simpa [inB] using h
/-- Lengths and a ratio. -/
def RtOk (n : Nat) (f : Nat → Int) (num den : Int) : Prop := LenOk n f ∧ inB num 1 1000 = true ∧ inB den 1 1000 = true
theorem prod_len {u num : Int} (h1 : 1 ≤ u) (h2 : u ≤ 10000) (h : inB num 1 1000 = true) : 0 ≤ u * num ∧ u * num ≤ 10000000 := by
  obtain ⟨n1, n2⟩ := in_of h
  have a := Int.mul_le_mul h2 n2 (by omega) (by omega)
  have b := Int.mul_nonneg (show 0 ≤ u by omega) (show 0 ≤ num by omega)
  omega
/-- A length that has grown in proportion. -/
def sc (f : Nat → Int) (num den : Int) (i : Nat) : Int := fl (2 * (f i * num) + den) (2 * den)
/-- Whether they are all right. -/
noncomputable def rt (n : Nat) (f : Nat → Int) (num den : Int) : Bool := tv (LenOk n f) && (inB num 1 1000 && inB den 1 1000)
theorem rt_yes {n : Nat} {f : Nat → Int} {num den : Int} (h : RtOk n f num den) : rt n f num den = true := by simp [rt, tv_yes h.1, h.2.1, h.2.2]
theorem rt_iff {n : Nat} {f : Nat → Int} {num den : Int} (h : rt n f num den = true) : RtOk n f num den := by
  simp only [rt, Bool.and_eq_true] at h
  exact ⟨tv_iff.1 h.1, h.2.1, h.2.2⟩
theorem spec_ratio (A : Option Addr) (n c : Nat) (f : Nat → Int) (num den : Int) (hn : n ≤ 1048576) (w : World) (hA : Nums w w.heap.size A n f) :
    Calls Try.prog 87 #[.slice A n c, .int .i64 num, .int .i64 den] w fun e w' => e = .returned (.int .i64 (if rt n f num den = true then 0 else 2)) ∧ w = w' := by
  have C1 := Lib.hid (spec_len A n c f hn w hA)
  have C2 := Lib.hid (fun w => in_any num 1 1000 w)
  have C3 := Lib.hid (fun w => in_any den 1 1000 w)
  unfold rt
  generalize tv (LenOk n f) = r1 at C1 ⊢
  generalize hq2 : inB num 1 1000 = r2 at C2 ⊢
  generalize hq3 : inB den 1 1000 = r3 at C3 ⊢
  clear hA hq2 hq3
  have R : r1 = false ∨ (r1 = true ∧ r2 = false) ∨ (r1 = true ∧ r2 = true ∧ r3 = false) ∨ (r1 = true ∧ r2 = true ∧ r3 = true) := by cases r1 <;> cases r2 <;> cases r3 <;> simp
  rcases R with rfl | ⟨rfl, rfl⟩ | ⟨rfl, rfl, rfl⟩ | ⟨rfl, rfl, rfl⟩
  all_goals
    go_enter Try.func87, Try.ntmps87
    go_wp2_with fail
    refine C1.out.mono ?_
    rintro e w' ⟨rfl, rfl⟩
    go_wp2_with (first | (go_at_call_of 69 num; refine (C2.out _).mono ?_; rintro e w' ⟨rfl, rfl⟩) | (go_at_call_of 69 den; refine (C3.out _).mono ?_; rintro e w' ⟨rfl, rfl⟩))
    go_ret
    exact ⟨rfl, rfl⟩
theorem can_any (A : Option Addr) (n c : Nat) (f : Nat → Int) (num den : Int) (hn : n ≤ 1048576) (w : World) (hA : Nums w w.heap.size A n f) :
    Calls Try.prog 88 #[.slice A n c, .int .i64 num, .int .i64 den] w fun e w' => e = .returned (.bool (rt n f num den)) ∧ Below w.heap.size w w' := by
  have C1 := Lib.hid (are_any w.heap.size 1 1 (fun _ => A) (fun _ => n) (fun _ => c) (fun _ => f) (by omega) (w.alloc (.cells #[.slice A n c] 26)) (fun _ _ => hn) (fun j hj => by
    obtain rfl : j = 0 := by omega
    exact cell_of_row _ _ _ _ _ _ (heap_alloc_new w _)) (fun _ _ => (hA.below (below_box w _) (Nat.le_refl _)).more (by simp)))
  have e1 : tv (∀ j, j < 1 → LenOk n f) = tv (LenOk n f) := by
    by_cases h : LenOk n f
    · rw [tv_yes h, tv_yes fun _ _ => h]
    · rw [tv_no h, tv_no fun o => h (o 0 (by omega))]
  rw [e1] at C1
  have HB := Lib.hid (below_box w (.cells #[.slice A n c] 26))
  have C2 := Lib.hid (fun w => La.within_any num 1 1000 w)
  have C3 := Lib.hid (fun w => La.within_any den 1 1000 w)
  unfold rt
  generalize tv (LenOk n f) = r1 at C1 ⊢
  generalize hq2 : inB num 1 1000 = r2 at C2 ⊢
  generalize hq3 : inB den 1 1000 = r3 at C3 ⊢
  clear hA hq2 hq3 e1
  have R : r1 = false ∨ (r1 = true ∧ r2 = false) ∨ (r1 = true ∧ r2 = true ∧ r3 = false) ∨ (r1 = true ∧ r2 = true ∧ r3 = true) := by cases r1 <;> cases r2 <;> cases r3 <;> simp
  rcases R with rfl | ⟨rfl, rfl⟩ | ⟨rfl, rfl, rfl⟩ | ⟨rfl, rfl, rfl⟩
  all_goals
    go_enter Try.func88, Try.ntmps88
    go_wp2_with fail
    refine C1.out.mono ?_
    rintro e w' ⟨rfl, rfl⟩
    go_wp2_with (first | (go_at_call_of 72 num; refine (C2.out _).mono ?_; rintro e w' ⟨rfl, rfl⟩) | (go_at_call_of 72 den; refine (C3.out _).mono ?_; rintro e w' ⟨rfl, rfl⟩))
    go_ret
    exact ⟨rfl, HB.out⟩
set_option maxRecDepth 100000 in
theorem spec_sl (A : Option Addr) (n c : Nat) (f : Nat → Int) (num den : Int) (hn : n ≤ 1048576) (ho : RtOk n f num den) (w : World) (hA : Nums w w.heap.size A n f) :
    Calls Try.prog 42 #[.slice A n c, .int .i64 num, .int .i64 den] w (PairAt n (sc f num den) 0 w) := by
  obtain ⟨i0, hi0, hz0, hz1, hz2⟩ := info_parts info_int
  have HI := Lib.hid (And.intro hi0 (And.intro hz0 (And.intro hz1 hz2)))
  have HA := Lib.hid hA
  have HR : Hid (∀ i, i < n → ∀ w, Calls Try.prog 76 #[.int .i64 (f i * num), .int .i64 den] w fun e w' => e = .returned (.int .i64 (sc f num den i)) ∧ w = w') := Lib.hid fun i hi w => by
    obtain ⟨l1, l2⟩ := len_at ho.1 hi
    obtain ⟨p1, p2⟩ := prod_len l1 l2 ho.2.1
    have := in_of ho.2.2
    exact near_spec (f i * num) den (by omega) (by omega) (by omega) (by omega) w
  have HP : Hid (∀ i, i < n → 0 ≤ f i * num ∧ f i * num ≤ 10000000) := Lib.hid fun i hi => by
    obtain ⟨l1, l2⟩ := len_at ho.1 hi
    exact prod_len l1 l2 ho.2.1
  have CO := Lib.hid (fun w h => spec_ratio A n c f num den hn w h)
  rw [rt_yes ho] at CO
  have HF : Hid (∀ v w' , w'.ownsRow w.heap.size 2 1 v n (upto (sc f num den) n) → Below w.heap.size w w' → ColAt n (sc f num den) w (.returned v) w') := Lib.hid fun v w' h hb => col_of_row h hb
  have HU : Hid (∀ k, upto (sc f num den) (k + 1) = upto (sc f num den) k ++ [.int .i64 (sc f num den k)]) := Lib.hid fun k => upto_snoc _ k
  have HU0 : Hid (upto (sc f num den) 0 = []) := Lib.hid rfl
  have hn20 := ho.1.1.2
  have hPQ : Hid (∀ v w', ColAt n (sc f num den) w (.returned v) w' → PairAt n (sc f num den) 0 w (.returned (.tuple #[v, .int .i64 0])) w') := Lib.hid fun v w' h => by
    obtain ⟨A', cap, e, h1, h2⟩ := h
    injection e with e
    subst e
    exact ⟨A', cap, rfl, h1, h2⟩
  clear hi0 hz0 hz1 hz2 hA ho
  generalize upto (sc f num den) = UP at HF HU HU0
  generalize sc f num den = S at HR HF HU hPQ ⊢
  generalize ColAt n S w = QC at HF hPQ
  generalize PairAt n S 0 w = Q at hPQ ⊢
  go_enter Try.func42, Try.ntmps42
  go_wp2_with fail
  refine (CO.out _ HA.out).mono ?_
  rintro e w' ⟨rfl, rfl⟩
  go_wp2_with fail
  go_loopw [9, 10] (fun o i wr => ∃ (k : Nat) (v : Value), k ≤ n ∧ v = o ∧ i = .int .i64 k ∧ Below w.heap.size w wr ∧ Hid (wr.ownsRow w.heap.size 2 1 v k (UP k))) (fun _ i _ => n - (intOf i).toNat)
  case atStart => exact ⟨0, _, Nat.zero_le _, rfl, rfl, below_box _ _, Lib.hid (by rw [HU0.out]; exact World.ownsRow_made w #[] 0 (Nat.le_refl _) (by simp [maxLen]) rfl)⟩
  case round =>
    obtain ⟨k, v, hk, rfl, rfl, hbel, hown⟩ := hrel
    have HB := Lib.hid hbel
    by_cases hlt : k < n
    · obtain ⟨b, off, rfl, hb, hc⟩ := (HA.out.below (hbel) (Nat.le_refl _)) (by omega)
      have x0 := hc k hlt
      have CR := Lib.hid (HR.out k hlt)
      obtain ⟨p1, p2⟩ := HP.out k hlt
      have HU := Lib.hid (HU.out k)
      have hz := HB.out.size
      have e0 : (0 : Int) ≤ (k : Int) := Int.natCast_nonneg _
      have e1 : (k : Int) < (n : Int) := by omega
      have hwm : IntKind.i64.wrap (f k * num) = f k * num := IntWalk.i64_in _ (by omega)
      clear hc hbel hk
      generalize f k = u at x0 CR p1 p2 hwm
      generalize S k = y at CR HU
      go_wp2_with fail
      refine (CR.out _).mono ?_
      rintro e w' ⟨rfl, rfl⟩
      go_wp2_with (at_builtin; refine wpList_append_own _ rfl _ _ 26 rfl w.heap.size 2 i0 _ 1 8 Try.underlying26 HI.out.1 HI.out.2.1 HI.out.2.2.1 HI.out.2.2.2 rfl (by decide) _ _ _ rfl (hown.out.alloc _) ⟨wr.heap.size, 0, none⟩ 1 1 [.int .i64 y] rfl rfl ?c1 ?c2 ?c3 ?c4 ?c5 ?_)
      case c1 => exact cell_one_new _ _ _
      case c2 => simp [Value.oneCell']
      case c3 => unfold maxLen; omega
      case c4 => omega
      case c5 => first | omega | (simp <;> omega)
      intro v' w2 hown2 hgrow _
      have HQ := Lib.hid ((HB.out.alloc hz _).grown hgrow (by simp; omega) fun g hg => (hown.out.lt g hg).1)
      have HO2 : Hid (w2.ownsRow w.heap.size 2 1 v' (k + 1) (UP (k + 1))) := Lib.hid (by rw [HU.out]; exact hown2)
      clear hown2 hgrow
      go_wp2_with fail
      go_roundw
      case rel => exact ⟨k + 1, _, by omega, rfl, by go_num, HQ.out, HO2⟩
      case measure => simp [intOf]; omega
    · obtain rfl : k = n := by omega
      have HC := Lib.hid (hPQ.out _ _ (HF.out _ _ hown.out HB.out))
      clear hbel
      go_wp2_with fail
      exact HC.out
theorem own_base {w' : World} {b b' : Nat} {e : TypeId} {size n : Nat} {v : Value} {xs : List Value} (h : w'.ownsRow b e size v n xs) (hb : b' ≤ b) : w'.ownsRow b' e size v n xs :=
  ⟨h.1, by
    rcases h.2 with h0 | ⟨g, cap, cur, hv, hbg, r⟩
    · exact .inl h0
    · exact .inr ⟨g, cap, cur, hv, by omega, r⟩⟩
set_option maxRecDepth 100000 in
theorem impl_sl (A : Option Addr) (n c : Nat) (f : Nat → Int) (num den : Int) (hn : n ≤ 1048576) (ho : RtOk n f num den) (w : World) (hA : Nums w w.heap.size A n f) :
    Calls Try.prog 44 #[.slice A n c, .int .i64 num, .int .i64 den] w (PairAt n (sc f num den) 0 w) := by
  obtain ⟨i0, hi0, hz0, hz1, hz2⟩ := info_parts info_int
  have HMK : Hid (∀ w : World, (Instr.makeSlice 26 (.int .i64 0) (.int .i64 (n : Int))).run Try.prog w = .ok (.slice (some ⟨w.heap.size, 0, none⟩) 0 n) (w.alloc (.cells (Go.madeCells (Value.int .i64 0).cells n) 2))) := Lib.hid fun w => by
    have := run_make w _ _ i0 _ Try.underlying26 hi0 hz0 .i64 .i64 0 n (by omega) (by omega) (by rw [hz2]; omega) (by omega)
    rw [hz1] at this
    simpa using this
  have HI := Lib.hid (And.intro hi0 (And.intro hz0 (And.intro hz1 hz2)))
  have HA := Lib.hid hA
  have HR : Hid (∀ i, i < n → ∀ w, Calls Try.prog 80 #[.int .i64 (f i * num), .int .i64 den] w fun e w' => e = .returned (.int .i64 (sc f num den i)) ∧ w = w') := Lib.hid fun i hi w => by
    obtain ⟨l1, l2⟩ := len_at ho.1 hi
    obtain ⟨p1, p2⟩ := prod_len l1 l2 ho.2.1
    have := in_of ho.2.2
    exact near_impl (f i * num) den (by omega) (by omega) (by omega) (by omega) w
  have HP : Hid (∀ i, i < n → 0 ≤ f i * num ∧ f i * num ≤ 10000000) := Lib.hid fun i hi => by
    obtain ⟨l1, l2⟩ := len_at ho.1 hi
    exact prod_len l1 l2 ho.2.1
  have CO := Lib.hid (fun w h => can_any A n c f num den hn w h)
  rw [rt_yes ho] at CO
  have HF : Hid (∀ v w' , w'.ownsRow w.heap.size 2 1 v n (upto (sc f num den) n) → Below w.heap.size w w' → ColAt n (sc f num den) w (.returned v) w') := Lib.hid fun v w' h hb => col_of_row h hb
  have HU : Hid (∀ k, upto (sc f num den) (k + 1) = upto (sc f num den) k ++ [.int .i64 (sc f num den k)]) := Lib.hid fun k => upto_snoc _ k
  have HU0 : Hid (upto (sc f num den) 0 = []) := Lib.hid rfl
  have hn20 := ho.1.1.2
  have hPQ : Hid (∀ v w', ColAt n (sc f num den) w (.returned v) w' → PairAt n (sc f num den) 0 w (.returned (.tuple #[v, .int .i64 0])) w') := Lib.hid fun v w' h => by
    obtain ⟨A', cap, e, h1, h2⟩ := h
    injection e with e
    subst e
    exact ⟨A', cap, rfl, h1, h2⟩
  clear hi0 hz0 hz1 hz2 hA ho
  generalize upto (sc f num den) = UP at HF HU HU0
  generalize sc f num den = S at HR HF HU hPQ ⊢
  generalize ColAt n S w = QC at HF hPQ
  generalize PairAt n S 0 w = Q at hPQ ⊢
  go_enter Try.func44, Try.ntmps44
  go_wp2_with fail
  refine (CO.out _ HA.out).mono ?_
  rintro e w1 ⟨rfl, b1⟩
  have B1 := Lib.hid b1
  have HA1 := Lib.hid ((HA.out.below b1 (Nat.le_refl _)).more b1.size)
  clear b1 HA CO
  have HA := HA1
  clear HA1
  have hmk := HMK.out w1
  go_wp2_with fail
  clear hmk
  go_loopw [8, 10, 21] (fun o _ i wr => ∃ (k : Nat) (v : Value), k ≤ n ∧ v = o ∧ i = .int .i64 k ∧ Below w1.heap.size w1 wr ∧ Hid (wr.ownsRow w1.heap.size 2 1 v k (UP k))) (fun _ _ i _ => n - (intOf i).toNat)
  case atStart => exact ⟨0, _, Nat.zero_le _, rfl, rfl, below_box _ _, Lib.hid (by rw [HU0.out]; exact World.ownsRow_made w1 _ n (Nat.le_refl _) (by unfold maxLen; omega) (by first | (rw [size_madeCells]; omega) | (rw [size_madeCells]; simp [Value.cells])))⟩
  case round =>
    obtain ⟨k, v, hk, rfl, rfl, hbel, hown⟩ := hrel
    have HB := Lib.hid hbel
    by_cases hlt : k < n
    · obtain ⟨b, off, rfl, hb, hc⟩ := (HA.out.below (hbel) (Nat.le_refl _)) (by omega)
      have x0 := hc k hlt
      have CR := Lib.hid (HR.out k hlt)
      obtain ⟨p1, p2⟩ := HP.out k hlt
      have HU := Lib.hid (HU.out k)
      have hz := HB.out.size
      have e0 : (0 : Int) ≤ (k : Int) := Int.natCast_nonneg _
      have e1 : (k : Int) < (n : Int) := by omega
      have hwm : IntKind.i64.wrap (f k * num) = f k * num := IntWalk.i64_in _ (by omega)
      clear hc hbel hk
      generalize f k = u at x0 CR p1 p2 hwm
      generalize S k = y at CR HU
      go_wp2_with fail
      refine (CR.out _).mono ?_
      rintro e w' ⟨rfl, rfl⟩
      go_wp2_with (at_builtin; refine wpList_append_own _ rfl _ _ 26 rfl w1.heap.size 2 i0 _ 1 8 Try.underlying26 HI.out.1 HI.out.2.1 HI.out.2.2.1 HI.out.2.2.2 rfl (by decide) _ _ _ rfl (hown.out.alloc _) ⟨wr.heap.size, 0, none⟩ 1 1 [.int .i64 y] rfl rfl ?c1 ?c2 ?c3 ?c4 ?c5 ?_)
      case c1 => exact cell_one_new _ _ _
      case c2 => simp [Value.oneCell']
      case c3 => unfold maxLen; omega
      case c4 => omega
      case c5 => first | omega | (simp <;> omega)
      intro v' w2 hown2 hgrow _
      have HQ := Lib.hid ((HB.out.alloc hz _).grown hgrow (by simp; omega) fun g hg => (hown.out.lt g hg).1)
      have HO2 : Hid (w2.ownsRow w1.heap.size 2 1 v' (k + 1) (UP (k + 1))) := Lib.hid (by rw [HU.out]; exact hown2)
      clear hown2 hgrow
      go_wp2_with fail
      go_roundw
      case rel => exact ⟨k + 1, _, by omega, rfl, by go_num, HQ.out, HO2⟩
      case measure => simp [intOf]; omega
    · obtain rfl : k = n := by omega
      have HC := Lib.hid (hPQ.out _ _ (HF.out _ _ (own_base hown.out B1.out.size) (below_then B1.out HB.out)))
      clear hbel
      go_wp2_with fail
      exact HC.out
theorem spec_sl_no (A : Option Addr) (n c : Nat) (f : Nat → Int) (num den : Int) (hn : n ≤ 1048576) (ho : rt n f num den = false) (w : World) (hA : Nums w w.heap.size A n f) :
    Calls Try.prog 42 #[.slice A n c, .int .i64 num, .int .i64 den] w (PairAt 0 (fun _ => 0) 2 w) := by
  have C := Lib.hid (spec_ratio A n c f num den hn w hA)
  rw [ho] at C
  simp only [Bool.false_eq_true, if_false] at C
  clear hA ho
  go_enter Try.func42, Try.ntmps42
  go_wp2_with fail
  refine C.out.mono ?_
  rintro e w' ⟨rfl, rfl⟩
  go_wp2_with fail
  exact bodyPost_ret (v := .tuple #[.slice none 0 0, .int .i64 2]) (by simp [results, Try.results42, go_sem]) rfl ⟨none, 0, rfl, Lib.hid fun h => absurd h (by omega), Below.refl _ _⟩
theorem impl_sl_no (A : Option Addr) (n c : Nat) (f : Nat → Int) (num den : Int) (hn : n ≤ 1048576) (ho : rt n f num den = false) (w : World) (hA : Nums w w.heap.size A n f) :
    Calls Try.prog 44 #[.slice A n c, .int .i64 num, .int .i64 den] w (PairAt 0 (fun _ => 0) 2 w) := by
  have C := Lib.hid (can_any A n c f num den hn w hA)
  rw [ho] at C
  clear hA ho
  go_enter Try.func44, Try.ntmps44
  go_wp2_with fail
  refine C.out.mono ?_
  rintro e w1 ⟨rfl, b1⟩
  have B1 := Lib.hid b1
  clear b1
  go_wp2_with fail
  exact bodyPost_ret (v := .tuple #[.slice none 0 0, .int .i64 2]) (by simp [results, Try.results44, go_sem]) rfl ⟨none, 0, rfl, Lib.hid fun h => absurd h (by omega), B1.out⟩
end Go.Proofs.Ytaoknbhpjnileab.Lc
