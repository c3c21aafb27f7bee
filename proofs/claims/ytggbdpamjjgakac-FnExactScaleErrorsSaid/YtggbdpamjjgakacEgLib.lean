/- Both functions ScaleErrors. -/
import Derived.Test.YtggbdpamjjgakacEfLib
namespace Go.Proofs.Ytggbdpamjjgakac.Ef
open Go.RowKit Ft Is Ge Qb Fg Gm Le On Lc

/-- By how much each length is off, in lowest terms: numerators and denominators in turn. -/
def ef (f : Nat → Int) (num den : Int) (i : Nat) : Int := if i % 2 = 0 then nm (sc f num den (i / 2) * den - f (i / 2) * num) den else dn (sc f num den (i / 2) * den - f (i / 2) * num) den
theorem ef_even (f : Nat → Int) (num den : Int) (i : Nat) : ef f num den (i * 2) = nm (sc f num den i * den - f i * num) den := by
  unfold ef
  rw [if_pos (by omega), show i * 2 / 2 = i by omega]
theorem ef_odd (f : Nat → Int) (num den : Int) (i : Nat) : ef f num den (i * 2 + 1) = dn (sc f num den i * den - f i * num) den := by
  unfold ef
  rw [if_neg (by omega), show (i * 2 + 1) / 2 = i by omega]
theorem fl_bd {a b : Int} (h : 0 ≤ a) (hb : 0 < b) : 0 ≤ fl a b ∧ fl a b ≤ a := by
  have h0 : ¬ a.tmod b < 0 := by rw [Int.tmod_eq_emod_of_nonneg h]; have := Int.emod_nonneg a (show b ≠ 0 by omega); omega
  unfold fl
  rw [if_neg h0, Int.tdiv_eq_ediv_of_nonneg h]
  exact ⟨Int.ediv_nonneg h (by omega), Int.ediv_le_self _ h⟩
theorem back_len {n : Nat} {f : Nat → Int} {num den : Int} (ho : RtOk n f num den) {i : Nat} (hi : i < n) : 0 ≤ sc f num den i * den ∧ sc f num den i * den ≤ 30000000000 := by
  obtain ⟨l1, l2⟩ := len_at ho.1 hi
  obtain ⟨p1, p2⟩ := prod_len l1 l2 ho.2.1
  obtain ⟨d1, d2⟩ := in_of ho.2.2
  obtain ⟨s1, s2⟩ := fl_bd (a := 2 * (f i * num) + den) (b := 2 * den) (by omega) (by omega)
  have hs : sc f num den i ≤ 20001000 := by unfold sc; omega
  have hs0 : 0 ≤ sc f num den i := s1
  have a := Int.mul_le_mul hs d2 (by omega) (by omega)
  have b := Int.mul_nonneg hs0 (show 0 ≤ den by omega)
  omega
set_option maxRecDepth 100000 in
theorem spec_se (A : Option Addr) (n c : Nat) (f : Nat → Int) (num den : Int) (hn : n ≤ 1048576) (ho : RtOk n f num den) (w : World) (hA : Nums w w.heap.size A n f) :
    Calls Try.prog 12 #[.slice A n c, .int .i64 num, .int .i64 den] w (PairF n (ef f num den) 0 w) := by
  obtain ⟨i0, hi0, hz0, hz1, hz2⟩ := info_parts info_fr
  have HI := Lib.hid (And.intro hi0 (And.intro hz0 (And.intro hz1 hz2)))
  have HA := Lib.hid hA
  have HR : Hid (∀ i, i < n → ∀ w, Calls Try.prog 28 #[.int .i64 (f i * num), .int .i64 den] w fun e w' => e = .returned (.int .i64 (sc f num den i)) ∧ w = w') := Lib.hid fun i hi w => by
    obtain ⟨l1, l2⟩ := len_at ho.1 hi
    obtain ⟨p1, p2⟩ := prod_len l1 l2 ho.2.1
    have := in_of ho.2.2
    exact near_spec (f i * num) den (by omega) (by omega) (by omega) (by omega) w
  have HP : Hid (∀ i, i < n → 0 ≤ f i * num ∧ f i * num ≤ 10000000) := Lib.hid fun i hi => by
    obtain ⟨l1, l2⟩ := len_at ho.1 hi
    exact prod_len l1 l2 ho.2.1
  have CO := Lib.hid (fun w h => spec_ratio A n c f num den hn w h)
  rw [rt_yes ho] at CO
  have HL : Hid (∀ i, i < n → ∀ w, Calls Try.prog 27 #[.int .i64 (sc f num den i * den - f i * num), .int .i64 den] w fun e w' => e = .returned (.agg #[.int .i64 (ef f num den (i * 2)), .int .i64 (ef f num den (i * 2 + 1))]) ∧ Below w.heap.size w w') := Lib.hid fun i hi w => by
    rw [ef_even, ef_odd]
    obtain ⟨l1, l2⟩ := len_at ho.1 hi
    obtain ⟨p1, p2⟩ := prod_len l1 l2 ho.2.1
    obtain ⟨d1, d2⟩ := in_of ho.2.2
    obtain ⟨q1, q2⟩ := back_len ho hi
    exact make_gen _ den (by omega) (by omega) (by omega) (by omega) w
  have HQ : Hid (∀ i, i < n → 0 ≤ sc f num den i * den ∧ sc f num den i * den ≤ 30000000000) := Lib.hid fun i hi => back_len ho hi
  have HF : Hid (∀ v w', w'.ownsRow w.heap.size 50 2 v n (upto (ef f num den) (n * 2)) → Below w.heap.size w w' → PairF n (ef f num den) 0 w (.returned (.tuple #[v, .int .i64 0])) w') := Lib.hid fun v w' h hb => pair_of_row h hb
  have HU : Hid (∀ k, upto (ef f num den) ((k + 1) * 2) = upto (ef f num den) (k * 2) ++ [.int .i64 (ef f num den (k * 2)), .int .i64 (ef f num den (k * 2 + 1))]) := Lib.hid fun k => upto_two _ k
  have HU0 : Hid (upto (ef f num den) (0 * 2) = []) := Lib.hid rfl
  have hn20 := ho.1.1.2
  clear hi0 hz0 hz1 hz2 hA ho
  generalize upto (ef f num den) = UP at HF HU HU0
  generalize PairF n (ef f num den) 0 w = Q at HF ⊢
  generalize ef f num den = T at HL HU
  generalize sc f num den = S at HR HL HQ
  go_enter Try.func12, Try.ntmps12
  go_wp2_with fail
  refine (CO.out _ HA.out).mono ?_
  rintro e w' ⟨rfl, rfl⟩
  go_wp2_with fail
  go_loopw [9, 10] (fun o i wr => ∃ (k : Nat) (v : Value), k ≤ n ∧ v = o ∧ i = .int .i64 k ∧ Below w.heap.size w wr ∧ Hid (wr.ownsRow w.heap.size 50 2 v k (UP (k * 2)))) (fun _ i _ => n - (intOf i).toNat)
  case atStart => exact ⟨0, _, Nat.zero_le _, rfl, rfl, below_box _ _, Lib.hid (by rw [HU0.out]; exact World.ownsRow_made w #[] 0 (Nat.le_refl _) (by simp [maxLen]) rfl)⟩
  case round =>
    obtain ⟨k, v, hk, rfl, rfl, hbel, hown⟩ := hrel
    have HB := Lib.hid hbel
    by_cases hlt : k < n
    · obtain ⟨b, off, rfl, hb, hc⟩ := (HA.out.below (hbel) (Nat.le_refl _)) (by omega)
      have x0 := hc k hlt
      have CR := Lib.hid (HR.out k hlt)
      obtain ⟨p1, p2⟩ := HP.out k hlt
      obtain ⟨q1, q2⟩ := HQ.out k hlt
      have CL := Lib.hid (HL.out k hlt)
      have HU := Lib.hid (HU.out k)
      have hz := HB.out.size
      have e0 : (0 : Int) ≤ (k : Int) := Int.natCast_nonneg _
      have e1 : (k : Int) < (n : Int) := by omega
      have hwm : IntKind.i64.wrap (f k * num) = f k * num := IntWalk.i64_in _ (by omega)
      have hwq : IntKind.i64.wrap (S k * den) = S k * den := IntWalk.i64_in _ (by omega)
      have hws : IntKind.i64.wrap (S k * den - f k * num) = S k * den - f k * num := IntWalk.i64_in _ (by omega)
      clear hc hbel hk
      generalize T (k * 2) = t0 at CL HU
      generalize T (k * 2 + 1) = t1 at CL HU
      generalize f k = u at x0 CR CL p1 p2 hwm hws
      generalize S k = y at CR CL q1 q2 hwq hws
      go_wp2_with fail
      refine (CR.out _).mono ?_
      rintro e w' ⟨rfl, rfl⟩
      go_wp2_with fail
      refine (CL.out _).mono ?_
      rintro e w3 ⟨rfl, b3⟩
      have HB3 := Lib.hid (below_then HB.out b3)
      have HO3 := Lib.hid (Ge.row_below hown.out b3)
      have hz3 := HB3.out.size
      clear b3 x0
      go_wp2_with (at_builtin; refine wpList_append_own _ rfl _ _ 33 rfl w.heap.size 50 i0 _ 2 16 Try.underlying33 HI.out.1 HI.out.2.1 HI.out.2.2.1 HI.out.2.2.2 rfl (by decide) _ _ _ rfl (HO3.out.alloc _) ⟨w3.heap.size, 0, none⟩ 1 1 [.int .i64 t0, .int .i64 t1] rfl rfl ?c1 ?c2 ?c3 ?c4 ?c5 ?_)
      case c1 => exact cells_new2 _ _ _ _
      case c2 => simp [Value.oneCell']
      case c3 => unfold maxLen; omega
      case c4 => omega
      case c5 => first | omega | (simp <;> omega)
      intro v' w2 hown2 hgrow _
      have HQ := Lib.hid ((HB3.out.alloc hz3 _).grown hgrow (by simp; omega) fun g hg => (HO3.out.lt g hg).1)
      have HO2 : Hid (w2.ownsRow w.heap.size 50 2 v' (k + 1) (UP ((k + 1) * 2))) := Lib.hid (by rw [HU.out]; exact hown2)
      clear hown2 hgrow
      go_wp2_with fail
      go_roundw
      case rel => exact ⟨k + 1, _, by omega, rfl, by go_num, HQ.out, HO2⟩
      case measure => simp [intOf]; omega
    · obtain rfl : k = n := by omega
      have HC := Lib.hid (HF.out _ _ hown.out HB.out)
      clear hbel
      go_wp2_with fail
      exact HC.out
set_option maxRecDepth 100000 in
theorem impl_se (A : Option Addr) (n c : Nat) (f : Nat → Int) (num den : Int) (hn : n ≤ 1048576) (ho : RtOk n f num den) (w : World) (hA : Nums w w.heap.size A n f) :
    Calls Try.prog 14 #[.slice A n c, .int .i64 num, .int .i64 den] w (PairF n (ef f num den) 0 w) := by
  obtain ⟨i0, hi0, hz0, hz1, hz2⟩ := info_parts info_fr
  have HMK : Hid (∀ w : World, (Instr.makeSlice 33 (.int .i64 0) (.int .i64 (n : Int))).run Try.prog w = .ok (.slice (some ⟨w.heap.size, 0, none⟩) 0 n) (w.alloc (.cells (Go.madeCells (Value.agg #[.int .i64 0, .int .i64 0]).cells (n * 2)) 50))) := Lib.hid fun w => by
    have := run_make w _ _ i0 _ Try.underlying33 hi0 hz0 .i64 .i64 0 n (by omega) (by omega) (by rw [hz2]; omega) (by omega)
    rw [hz1] at this
    simpa using this
  have HI := Lib.hid (And.intro hi0 (And.intro hz0 (And.intro hz1 hz2)))
  have HA := Lib.hid hA
  have HR : Hid (∀ i, i < n → ∀ w, Calls Try.prog 31 #[.int .i64 (f i * num), .int .i64 den] w fun e w' => e = .returned (.int .i64 (sc f num den i)) ∧ w = w') := Lib.hid fun i hi w => by
    obtain ⟨l1, l2⟩ := len_at ho.1 hi
    obtain ⟨p1, p2⟩ := prod_len l1 l2 ho.2.1
    have := in_of ho.2.2
    exact near_impl (f i * num) den (by omega) (by omega) (by omega) (by omega) w
  have HP : Hid (∀ i, i < n → 0 ≤ f i * num ∧ f i * num ≤ 10000000) := Lib.hid fun i hi => by
    obtain ⟨l1, l2⟩ := len_at ho.1 hi
    exact prod_len l1 l2 ho.2.1
  have CO := Lib.hid (fun w h => can_any A n c f num den hn w h)
  rw [rt_yes ho] at CO
  have HL : Hid (∀ i, i < n → ∀ w, Calls Try.prog 30 #[.int .i64 (sc f num den i * den - f i * num), .int .i64 den] w fun e w' => e = .returned (.agg #[.int .i64 (ef f num den (i * 2)), .int .i64 (ef f num den (i * 2 + 1))]) ∧ Below w.heap.size w w') := Lib.hid fun i hi w => by
    rw [ef_even, ef_odd]
    obtain ⟨l1, l2⟩ := len_at ho.1 hi
    obtain ⟨p1, p2⟩ := prod_len l1 l2 ho.2.1
    obtain ⟨d1, d2⟩ := in_of ho.2.2
    obtain ⟨q1, q2⟩ := back_len ho hi
    exact low_gen _ den (by omega) (by omega) (by omega) (by omega) w
  have HQ : Hid (∀ i, i < n → 0 ≤ sc f num den i * den ∧ sc f num den i * den ≤ 30000000000) := Lib.hid fun i hi => back_len ho hi
  have HF : Hid (∀ v w', w'.ownsRow w.heap.size 50 2 v n (upto (ef f num den) (n * 2)) → Below w.heap.size w w' → PairF n (ef f num den) 0 w (.returned (.tuple #[v, .int .i64 0])) w') := Lib.hid fun v w' h hb => pair_of_row h hb
  have HU : Hid (∀ k, upto (ef f num den) ((k + 1) * 2) = upto (ef f num den) (k * 2) ++ [.int .i64 (ef f num den (k * 2)), .int .i64 (ef f num den (k * 2 + 1))]) := Lib.hid fun k => upto_two _ k
  have HU0 : Hid (upto (ef f num den) (0 * 2) = []) := Lib.hid rfl
  have hn20 := ho.1.1.2
  clear hi0 hz0 hz1 hz2 hA ho
  generalize upto (ef f num den) = UP at HF HU HU0
  generalize PairF n (ef f num den) 0 w = Q at HF ⊢
  generalize ef f num den = T at HL HU
  generalize sc f num den = S at HR HL HQ
  go_enter Try.func14, Try.ntmps14
  go_wp2_with fail
  refine (CO.out _ HA.out).mono ?_
  rintro e w1 ⟨rfl, b1⟩
  have B1 := Lib.hid b1
  have HA1 := Lib.hid ((HA.out.below b1 (Nat.le_refl _)).more b1.size)
  clear b1 HA CO
  have HA := HA1
  clear HA1
  have hmk := HMK.out w1
  go_wp2_with fail
  clear hmk
  go_loopw [8, 10, 22] (fun o _ i wr => ∃ (k : Nat) (v : Value), k ≤ n ∧ v = o ∧ i = .int .i64 k ∧ Below w1.heap.size w1 wr ∧ Hid (wr.ownsRow w1.heap.size 50 2 v k (UP (k * 2)))) (fun _ _ i _ => n - (intOf i).toNat)
  case atStart => exact ⟨0, _, Nat.zero_le _, rfl, rfl, below_box _ _, Lib.hid (by rw [HU0.out]; exact World.ownsRow_made w1 _ n (Nat.le_refl _) (by unfold maxLen; omega) (by first | exact size_madeCells _ _ | (rw [size_madeCells]; omega) | (rw [size_madeCells]; simp [Value.cells])))⟩
  case round =>
    obtain ⟨k, v, hk, rfl, rfl, hbel, hown⟩ := hrel
    have HB := Lib.hid hbel
    by_cases hlt : k < n
    · obtain ⟨b, off, rfl, hb, hc⟩ := (HA.out.below (hbel) (Nat.le_refl _)) (by omega)
      have x0 := hc k hlt
      have CR := Lib.hid (HR.out k hlt)
      obtain ⟨p1, p2⟩ := HP.out k hlt
      obtain ⟨q1, q2⟩ := HQ.out k hlt
      have CL := Lib.hid (HL.out k hlt)
      have HU := Lib.hid (HU.out k)
      have hz := HB.out.size
      have e0 : (0 : Int) ≤ (k : Int) := Int.natCast_nonneg _
      have e1 : (k : Int) < (n : Int) := by omega
      have hwm : IntKind.i64.wrap (f k * num) = f k * num := IntWalk.i64_in _ (by omega)
      have hwq : IntKind.i64.wrap (S k * den) = S k * den := IntWalk.i64_in _ (by omega)
      have hws : IntKind.i64.wrap (S k * den - f k * num) = S k * den - f k * num := IntWalk.i64_in _ (by omega)
      clear hc hbel hk
      generalize T (k * 2) = t0 at CL HU
      generalize T (k * 2 + 1) = t1 at CL HU
      generalize f k = u at x0 CR CL p1 p2 hwm hws
      generalize S k = y at CR CL q1 q2 hwq hws
      go_wp2_with fail
      refine (CR.out _).mono ?_
      rintro e w' ⟨rfl, rfl⟩
      go_wp2_with fail
      refine (CL.out _).mono ?_
      rintro e w3 ⟨rfl, b3⟩
      have HB3 := Lib.hid (below_then HB.out b3)
      have HO3 := Lib.hid (Ge.row_below hown.out b3)
      have hz3 := HB3.out.size
      clear b3 x0
      go_wp2_with (at_builtin; refine wpList_append_own _ rfl _ _ 33 rfl w1.heap.size 50 i0 _ 2 16 Try.underlying33 HI.out.1 HI.out.2.1 HI.out.2.2.1 HI.out.2.2.2 rfl (by decide) _ _ _ rfl (HO3.out.alloc _) ⟨w3.heap.size, 0, none⟩ 1 1 [.int .i64 t0, .int .i64 t1] rfl rfl ?c1 ?c2 ?c3 ?c4 ?c5 ?_)
      case c1 => exact cells_new2 _ _ _ _
      case c2 => simp [Value.oneCell']
      case c3 => unfold maxLen; omega
      case c4 => omega
      case c5 => first | omega | (simp <;> omega)
      intro v' w2 hown2 hgrow _
      have HQ := Lib.hid ((HB3.out.alloc hz3 _).grown hgrow (by simp; omega) fun g hg => (HO3.out.lt g hg).1)
      have HO2 : Hid (w2.ownsRow w1.heap.size 50 2 v' (k + 1) (UP ((k + 1) * 2))) := Lib.hid (by rw [HU.out]; exact hown2)
      clear hown2 hgrow
      go_wp2_with fail
      go_roundw
      case rel => exact ⟨k + 1, _, by omega, rfl, by go_num, HQ.out, HO2⟩
      case measure => simp [intOf]; omega
    · obtain rfl : k = n := by omega
      have HC := Lib.hid (HF.out _ _ (own_base hown.out B1.out.size) (below_then B1.out HB.out))
      clear hbel
      go_wp2_with fail
      exact HC.out
theorem spec_se_no (A : Option Addr) (n c : Nat) (f : Nat → Int) (num den : Int) (hn : n ≤ 1048576) (ho : rt n f num den = false) (w : World) (hA : Nums w w.heap.size A n f) :
    Calls Try.prog 12 #[.slice A n c, .int .i64 num, .int .i64 den] w (PairF 0 (fun _ => 0) 2 w) := by
  have C := Lib.hid (spec_ratio A n c f num den hn w hA)
  rw [ho] at C
  simp only [Bool.false_eq_true, if_false] at C
  clear hA ho
  go_enter Try.func12, Try.ntmps12
  go_wp2_with fail
  refine C.out.mono ?_
  rintro e w' ⟨rfl, rfl⟩
  go_wp2_with fail
  exact bodyPost_ret (v := .tuple #[.slice none 0 0, .int .i64 2]) (by simp [results, Try.results12, go_sem]) rfl ⟨none, 0, rfl, Lib.hid fun h => absurd h (by omega), Below.refl _ _⟩
theorem impl_se_no (A : Option Addr) (n c : Nat) (f : Nat → Int) (num den : Int) (hn : n ≤ 1048576) (ho : rt n f num den = false) (w : World) (hA : Nums w w.heap.size A n f) :
    Calls Try.prog 14 #[.slice A n c, .int .i64 num, .int .i64 den] w (PairF 0 (fun _ => 0) 2 w) := by
  have C := Lib.hid (can_any A n c f num den hn w hA)
  rw [ho] at C
  clear hA ho
  go_enter Try.func14, Try.ntmps14
  go_wp2_with fail
  refine C.out.mono ?_
  rintro e w1 ⟨rfl, b1⟩
  have B1 := Lib.hid b1
  clear b1
  go_wp2_with fail
  exact bodyPost_ret (v := .tuple #[.slice none 0 0, .int .i64 2]) (by simp [results, Try.results14, go_sem]) rfl ⟨none, 0, rfl, Lib.hid fun h => absurd h (by omega), B1.out⟩
end Go.Proofs.Ytggbdpamjjgakac.Ef
