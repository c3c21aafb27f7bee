/- FoldLength: both functions. -/
import Derived.Test.YtpmmfalpcooenaaDoorC9kLib
import Derived.Deep.RegionHeld3
namespace Go.Proofs.YtpmmfalpcooenaaDoor.C9f
set_option linter.unusedVariables false
open Go.RowKit Ft Is Ge Qb Ly Stv Ec Er C9k

/-- A number and a code. -/
def TwoAt (x c : Int) (w : World) (e : Ending) (w' : World) : Prop := e = .returned (.tuple #[.int .i64 x, .int .i64 c]) ∧ Below w.heap.size w w'
/-- The sum of numbers. -/
def sm (f : Nat → Int) : Nat → Int
  | 0 => 0
  | n + 1 => sm f n + f n
theorem sm_in {f : Nat → Int} {n : Nat} {a : Int} (h : ∀ i, i < n → 0 ≤ f i ∧ f i ≤ a) : ∀ k, k ≤ n → 0 ≤ sm f k ∧ sm f k ≤ a * (k : Int)
  | 0, _ => by simp [sm]
  | k + 1, hk => by
    have h1 := sm_in h k (by omega)
    have h2 := h k (by omega)
    have e : a * ((k + 1 : Nat) : Int) = a * (k : Int) + a := by rw [Int.natCast_add, Int.mul_add]; simp
    rw [e]
    simp only [sm]
    omega
theorem sum_any (A : Option Addr) (n c : Nat) (f : Nat → Int) (a : Int) (ha : a ≤ 1000000) (hn : n ≤ 1048576) (ho : ∀ i, i < n → 0 ≤ f i ∧ f i ≤ a) (w : World) (hA : Nums w w.heap.size A n f) : Calls Tryd.prog 69 #[.slice A n c] w fun e w' => e = .returned (.int .i64 (sm f n)) ∧ w = w' := by
  have HA := Lib.hid hA
  have HL : Hid (∀ k, k ≤ n → 0 ≤ sm f k ∧ sm f k ≤ 1048576000000) := Lib.hid fun k hk => by
    have h1 := sm_in (fun i hi => (⟨(ho i hi).1, Int.le_trans (ho i hi).2 ha⟩ : 0 ≤ f i ∧ f i ≤ 1000000)) k hk
    omega
  have HF := Lib.hid ho
  clear hA ho
  go_enter Tryd.func69, Tryd.ntmps69
  go_wp2_with fail
  go_loop [3, 8] (fun s i => ∃ k : Nat, k ≤ n ∧ i = .int .i64 k ∧ s = .int .i64 (sm f k)) (fun _ i => n - (intOf i).toNat)
  case atStart => exact ⟨0, Nat.zero_le _, rfl, rfl⟩
  case round =>
    obtain ⟨k, hk, rfl, rfl⟩ := hrel
    by_cases hlt : k < n
    · obtain ⟨g, off, rfl, _, hc⟩ := HA.out (by omega)
      have x0 := hc k hlt
      obtain ⟨s1, s2⟩ := HL.out k hk
      obtain ⟨f1, f2⟩ := HF.out k hlt
      have HS : Hid (sm f (k + 1) = sm f k + f k) := Lib.hid rfl
      have e0 : (0 : Int) ≤ (k : Int) := Int.natCast_nonneg _
      have e1 : (k : Int) < (n : Int) := by omega
      clear hc
      have hws : IntKind.i64.wrap (sm f k + f k) = sm f k + f k := IntWalk.i64_in _ (by omega)
      generalize hS : sm f (k + 1) = S' at HS
      generalize sm f k = S at *
      generalize f k = u at *
      go_wp2_with fail
      all_goals (try go_quiet (fail))
      all_goals (try go_wp2_with fail)
      go_round
      case rel => exact ⟨k + 1, by omega, by go_num, by rw [hS, HS.out]⟩
      case measure => simp [intOf]; omega
    · obtain rfl : k = n := by omega
      go_wp2_with fail
      go_ret
      exact ⟨rfl, rfl⟩
/-- What folds take away. -/
def fo (d : Nat → Int) (th : Int) : Nat → Int
  | 0 => 0
  | n + 1 => fo d th n + (d n + th)
theorem fo_eq (d : Nat → Int) (th : Int) : ∀ n : Nat, fo d th n = sm d n + th * (n : Int)
  | 0 => by simp [fo, sm]
  | n + 1 => by
    have e : th * ((n + 1 : Nat) : Int) = th * (n : Int) + th := by rw [Int.natCast_add, Int.mul_add]; simp
    rw [e]
    simp only [fo, sm, fo_eq d th n]
    omega
noncomputable def okF (len th : Int) (n : Nat) (d : Nat → Int) : Bool := decide (n ≤ 10) && inB len 1 5000 && tv (Al 0 200 n d) && inB th 0 100
noncomputable def foC (len th : Int) (n : Nat) (d : Nat → Int) : Int := if okF len th n d = true then (if len - fo d th n < 1 then 6 else 0) else 2
noncomputable def foX (len th : Int) (n : Nat) (d : Nat → Int) : Int := if okF len th n d = true then (if len - fo d th n < 1 then 0 else len - fo d th n) else 0
theorem ok_in {len th : Int} {n : Nat} {d : Nat → Int} (h : okF len th n d = true) : n ≤ 10 ∧ (1 ≤ len ∧ len ≤ 5000) ∧ (∀ i, i < n → 0 ≤ d i ∧ d i ≤ 200) ∧ 0 ≤ th ∧ th ≤ 100 := by
  unfold okF at h
  simp only [Bool.and_eq_true, decide_eq_true_eq] at h
  obtain ⟨⟨⟨h1, h2⟩, h3⟩, h4⟩ := h
  exact ⟨h1, Ba.in_of h2, fun i hi => Ba.in_of (tv_iff.1 h3 i hi), Ba.in_of h4⟩
theorem fo_in {len th : Int} {n : Nat} {d : Nat → Int} (h : okF len th n d = true) : ∀ k, k ≤ n → 0 ≤ fo d th k ∧ fo d th k ≤ 300 * (k : Int)
  | 0, _ => by simp [fo]
  | k + 1, hk => by
    obtain ⟨h1, h2, h3, h4⟩ := ok_in h
    have h5 := fo_in h k (by omega)
    have h6 := h3 k (by omega)
    simp only [fo]
    omega
theorem two_of {x c : Int} {w W : World} (h : Below w.heap.size w W) : TwoAt x c w (.returned (.tuple #[.int .i64 x, .int .i64 c])) W := ⟨rfl, h⟩
set_option maxRecDepth 100000 in
theorem length_any (n : Int) (w : World) : Calls Tryd.prog 56 #[.int .i64 n] w fun e w' => e = .returned (.bool (inB n 1 5000)) ∧ w = w' := by
  go_enter Tryd.func56, Tryd.ntmps56
  go_wp2_with (go_at_call 52; refine (Stv.in_any _ _ _ _).mono ?_; rintro e w' ⟨rfl, rfl⟩)
  go_ret
  exact ⟨rfl, rfl⟩
set_option maxRecDepth 100000 in
set_option maxHeartbeats 1000000 in
theorem spec_fo (len th : Int) (A : Option Addr) (n c : Nat) (d : Nat → Int) (hn : n ≤ 1048576) (w : World) (hA : Nums w w.heap.size A n d) :
    Calls Tryd.prog 39 #[.int .i64 len, .slice A n c, .int .i64 th] w (TwoAt (foX len th n d) (foC len th n d) w) := by
  have HA := Lib.hid hA
  have C0 := Lib.hid (fun w => length_any len w)
  have C1 := Lib.hid (fun w => Stv.in_any th 0 100 w)
  have HN : Hid (okF len th n d = false → TwoAt (foX len th n d) (foC len th n d) w (.returned (.tuple #[.int .i64 0, .int .i64 2])) w) := Lib.hid fun h => by
    unfold foX foC; rw [h]; exact ⟨rfl, Below.refl _ _⟩
  have HS : Hid (okF len th n d = true → len - fo d th n < 1 → TwoAt (foX len th n d) (foC len th n d) w (.returned (.tuple #[.int .i64 0, .int .i64 6])) w) := Lib.hid fun h q => by
    unfold foX foC; rw [h]; simp only [if_true, if_pos q]; exact ⟨rfl, Below.refl _ _⟩
  have HY : Hid (okF len th n d = true → ¬ len - fo d th n < 1 → TwoAt (foX len th n d) (foC len th n d) w (.returned (.tuple #[.int .i64 (len - fo d th n), .int .i64 0])) w) := Lib.hid fun h q => by
    unfold foX foC; rw [h]; simp only [if_true, if_neg q]; exact ⟨rfl, Below.refl _ _⟩
  have F0 : Hid (inB len 1 5000 = false → okF len th n d = false) := Lib.hid fun h => by unfold okF; rw [h]; simp
  have F1 : Hid (inB th 0 100 = false → okF len th n d = false) := Lib.hid fun h => by unfold okF; rw [h]; simp
  have F2 : Hid (10 < n → okF len th n d = false) := Lib.hid fun h => by unfold okF; rw [decide_eq_false (by omega)]; simp
  have F3 : Hid (∀ k, k < n → inB (d k) 0 200 = false → okF len th n d = false) := Lib.hid fun k hk h => by
    unfold okF; rw [tv_no (P := Al 0 200 n d) fun e => by rw [e k hk] at h; cases h]; simp
  have F4 : Hid (inB len 1 5000 = true → inB th 0 100 = true → n ≤ 10 → (∀ k, k < n → inB (d k) 0 200 = true) → okF len th n d = true) := Lib.hid fun h1 h2 h3 h4 => by
    unfold okF; rw [h1, h2, tv_yes (P := Al 0 200 n d) h4, decide_eq_true h3]; rfl
  have HI := Lib.hid (fun h => @ok_in len th n d h)
  have HO := Lib.hid (fun h => @fo_in len th n d h)
  have CA := Lib.hid (fun k w => allow (d k) w)
  have HFS : Hid (∀ k, fo d th (k + 1) = fo d th k + (d k + th)) := Lib.hid fun _ => rfl
  have HF0 : Hid (fo d th 0 = 0) := Lib.hid rfl
  generalize TwoAt (foX len th n d) (foC len th n d) w = Q at HN HS HY ⊢
  generalize okF len th n d = r at HN HS HY F0 F1 F2 F3 F4 HI HO
  generalize inB len 1 5000 = r0 at C0 F0 F4
  generalize inB th 0 100 = r1 at C1 F1 F4
  generalize fo d th = FO at HS HY HO HFS HF0
  clear hA
  go_enter Tryd.func39, Tryd.ntmps39
  go_wp2_with fail
  refine (C0.out _).mono ?_
  rintro e w' ⟨rfl, rfl⟩
  cases r0
  · have HZ := Lib.hid (HN.out (F0.out rfl))
    go_wp2_with fail
    exact HZ.out
  go_wp2_with fail
  refine (C1.out _).mono ?_
  rintro e w' ⟨rfl, rfl⟩
  cases r1
  · have HZ := Lib.hid (HN.out (F1.out rfl))
    go_wp2_with fail
    exact HZ.out
  by_cases h10 : 10 < n
  · have h10' : (10 : Int) < (n : Int) := by omega
    have HZ := Lib.hid (HN.out (F2.out h10))
    go_wp2_with fail
    exact HZ.out
  have h10' : ¬ (10 : Int) < (n : Int) := by omega
  have F5 := Lib.hid (F4.out (by first | rfl | trivial) (by first | rfl | trivial) (by omega))
  clear F4 F0 F1 F2
  go_wp2_with fail
  go_loop [8] (fun i => ∃ k : Nat, k ≤ n ∧ i = .int .i64 k ∧ Hid (∀ j, j < k → inB (d j) 0 200 = true)) (fun i => n - (intOf i).toNat)
  case atStart => exact ⟨0, Nat.zero_le _, rfl, Lib.hid fun j hj => by omega⟩
  case round =>
    obtain ⟨k, hk, rfl, hall⟩ := hrel
    by_cases hlt : k < n
    · obtain ⟨b, off, rfl, hb, hc⟩ := HA.out (by omega)
      have x0 : w.cell? ⟨b, off + k, none⟩ = some (.int .i64 (d k)) := hc k hlt
      have HNk := Lib.hid (F3.out k hlt)
      have HSk := Lib.hid (fun h => step_all (p := fun j => inB (d j) 0 200) hall.out (k := k) h)
      have C := Lib.hid (CA.out k)
      have e0 : (0 : Int) ≤ (k : Int) := Int.natCast_nonneg _
      have e1 : (k : Int) < (n : Int) := by omega
      generalize inB (d k) 0 200 = q at HNk HSk C
      generalize d k = u at x0 C
      clear hc hk
      go_wp2_with fail
      refine (C.out _).mono ?_
      rintro e w' ⟨rfl, rfl⟩
      cases q
      · have HZ := Lib.hid (HN.out (HNk.out rfl))
        go_wp2_with fail
        exact HZ.out
      · have HD := Lib.hid (HSk.out rfl)
        go_wp2_with fail
        go_round
        case rel => exact ⟨k + 1, by omega, by go_num, HD⟩
        case measure => simp [intOf]; omega
    · obtain rfl : k = n := by omega
      have hr := F5.out hall.out
      obtain ⟨i1, i2, i3, i4⟩ := HI.out hr
      have HIn := Lib.hid i3
      have HOn := Lib.hid (HO.out hr)
      have HSn := Lib.hid (HS.out hr)
      have HYn := Lib.hid (HY.out hr)
      clear HI HO HS HY HN F5 F3 C0 C1 CA hr i3
      go_wp2_with fail
      go_loop [0, 9] (fun l i => ∃ j : Nat, j ≤ k ∧ i = .int .i64 (j : Int) ∧ l = .int .i64 (len - FO j)) (fun _ i => k - (intOf i).toNat)
      case atStart => exact ⟨0, Nat.zero_le _, rfl, by rw [HF0.out]; simp⟩
      case round =>
        obtain ⟨j, hj, rfl, rfl⟩ := hrel
        obtain ⟨o1, o2⟩ := HOn.out j hj
        have e0 : (0 : Int) ≤ (j : Int) := Int.natCast_nonneg _
        by_cases hlt2 : j < k
        · obtain ⟨b, off, rfl, hb, hc⟩ := HA.out (by omega)
          have x0 : w.cell? ⟨b, off + j, none⟩ = some (.int .i64 (d j)) := hc j hlt2
          obtain ⟨d1, d2⟩ := HIn.out j hlt2
          have e1 : (j : Int) < (k : Int) := by omega
          have HFj := Lib.hid (HFS.out j)
          have hj1 : j + 1 ≤ k := by omega
          generalize hq : FO (j + 1) = fj1 at HFj
          generalize FO j = fj at HFj o1 o2 ⊢
          generalize d j = u at x0 HFj d1 d2
          have t1 : IntKind.i64.wrap (u + th) = u + th := by rw [IntKind.wrap_i64]; omega
          have t2 : IntKind.i64.wrap (len - fj - (u + th)) = len - fj - (u + th) := by rw [IntKind.wrap_i64]; omega
          have HE : Hid (len - fj - (u + th) = len - fj1) := Lib.hid (by rw [HFj.out]; omega)
          clear hc
          go_wp2_with fail
          all_goals (try go_quiet (fail))
          all_goals (try go_wp2_with fail)
          go_round
          case rel => exact ⟨j + 1, hj1, by go_num, by rw [hq, HE.out]⟩
          case measure => simp [intOf]; omega
        · obtain rfl : j = k := by omega
          by_cases hs : len - FO j < 1
          · have HZ := Lib.hid (HSn.out hs)
            generalize FO j = fj at hs HZ ⊢
            go_wp2_with fail
            exact HZ.out
          · have HZ := Lib.hid (HYn.out (by omega))
            generalize FO j = fj at hs HZ ⊢
            go_wp2_with fail
            exact HZ.out
set_option maxRecDepth 100000 in
set_option maxHeartbeats 1000000 in
theorem impl_fo (len th : Int) (A : Option Addr) (n c : Nat) (d : Nat → Int) (hn : n ≤ 1048576) (w : World) (hV : V3 w) (hA : Nums w w.heap.size A n d) :
    Calls Tryd.prog 40 #[.int .i64 len, .slice A n c, .int .i64 th] w (TwoAt (foX len th n d) (foC len th n d) w) := by
  have HA := Lib.hid hA
  have C0 := Lib.hid (check_folds len th A n c d hn w hA hV.cnt hV.out)
  have CC := Lib.hid (fun x hx W (hb : Below w.heap.size w W) => code_of 2 (okF len th n d) x hx W (hV.ety.below hb))
  have HN : Hid (okF len th n d = false → ∀ W, Below w.heap.size w W → TwoAt (foX len th n d) (foC len th n d) w (.returned (.tuple #[.int .i64 0, .int .i64 2])) W) := Lib.hid fun h W hb => by
    unfold foX foC; rw [h]; exact ⟨rfl, hb⟩
  have HS : Hid (okF len th n d = true → len - fo d th n < 1 → ∀ W, Below w.heap.size w W → TwoAt (foX len th n d) (foC len th n d) w (.returned (.tuple #[.int .i64 0, .int .i64 6])) W) := Lib.hid fun h q W hb => by
    unfold foX foC; rw [h]; simp only [if_true, if_pos q]; exact ⟨rfl, hb⟩
  have HY : Hid (okF len th n d = true → ¬ len - fo d th n < 1 → ∀ W, Below w.heap.size w W → TwoAt (foX len th n d) (foC len th n d) w (.returned (.tuple #[.int .i64 (len - fo d th n), .int .i64 0])) W) := Lib.hid fun h q W hb => by
    unfold foX foC; rw [h]; simp only [if_true, if_neg q]; exact ⟨rfl, hb⟩
  have HI : Hid (okF len th n d = true → ∀ W, Below w.heap.size w W → Calls Tryd.prog 69 #[.slice A n c] W fun e w' => e = .returned (.int .i64 (sm d n)) ∧ W = w') := Lib.hid fun h W hb => sum_any A n c d 200 (by omega) hn (ok_in h).2.2.1 W ((hA.below hb (Nat.le_refl _)).more hb.size)
  have HB : Hid (okF len th n d = true → n ≤ 10 ∧ (1 ≤ len ∧ len ≤ 5000) ∧ (0 ≤ th ∧ th ≤ 100) ∧ (0 ≤ sm d n ∧ sm d n ≤ 2000) ∧ (0 ≤ th * (n : Int) ∧ th * (n : Int) ≤ 1000)) := Lib.hid fun h => by
    obtain ⟨h1, h2, h3, h4⟩ := ok_in h
    have h5 := sm_in h3 n (Nat.le_refl _)
    have h6 := Int.mul_nonneg h4.1 (Int.natCast_nonneg n)
    have h7 := Int.mul_le_mul h4.2 (show (n : Int) ≤ 10 by omega) (Int.natCast_nonneg n) (by omega)
    exact ⟨h1, h2, h4, by omega, by omega⟩
  have HE : Hid (len - fo d th n = len - sm d n - th * (n : Int)) := Lib.hid (by rw [fo_eq]; omega)
  unfold okF at C0
  rw [show (decide (n ≤ 10) && inB len 1 5000 && tv (Al 0 200 n d) && inB th 0 100) = okF len th n d from rfl] at C0
  generalize TwoAt (foX len th n d) (foC len th n d) w = Q at HN HS HY ⊢
  generalize okF len th n d = r at C0 CC HN HS HY HI HB
  rw [HE.out] at HS HY
  clear hA hV HE
  generalize sm d n = S at HS HY HI HB
  generalize hT : th * (n : Int) = T at HS HY HB
  go_enter Tryd.func40, Tryd.ntmps40
  go_wp2_with fail
  refine C0.out.mono ?_
  rintro e w1 ⟨⟨x, rfl, hx⟩, b1⟩
  have HB1 := Lib.hid b1
  have C1 := Lib.hid (CC.out x hx w1 b1)
  clear b1 hx C0 CC
  cases r
  · have HNr := Lib.hid (HN.out rfl)
    clear HN HS HY HI HB
    simp only [Bool.false_eq_true, if_false] at C1
    go_wp2_with fail
    refine C1.out.mono ?_
    rintro e w2 ⟨rfl, b2⟩
    have HZ := Lib.hid (HNr.out w2 (below_then HB1.out b2))
    clear b2 C1 HNr
    go_wp2_with fail
    exact HZ.out
  · simp only [if_true] at C1
    obtain ⟨n1, l1, h1, s1, t1⟩ := HB.out rfl
    have HSr := Lib.hid (HS.out rfl)
    have HYr := Lib.hid (HY.out rfl)
    have HIr := Lib.hid (HI.out rfl)
    clear HN HS HY HI HB
    go_wp2_with fail
    refine C1.out.mono ?_
    rintro e w2 ⟨rfl, b2⟩
    have HB2 := Lib.hid (below_then HB1.out b2)
    have C2 := Lib.hid (HIr.out w2 HB2.out)
    clear b2 C1 HIr HB1
    have q1 : IntKind.i64.wrap (len - S) = len - S := by rw [IntKind.wrap_i64]; omega
    have q2 : IntKind.i64.wrap (th * (n : Int)) = T := by rw [hT, IntKind.wrap_i64]; omega
    have q3 : IntKind.i64.wrap (len - S - T) = len - S - T := by rw [IntKind.wrap_i64]; omega
    by_cases hs : len - S - T < 1
    · have HZ := Lib.hid (HSr.out hs w2 HB2.out)
      clear HSr HYr
      go_wp2_with fail
      refine C2.out.mono ?_
      rintro e w3 ⟨rfl, rfl⟩
      go_wp2_with fail
      exact HZ.out
    · have HZ := Lib.hid (HYr.out (by omega) w2 HB2.out)
      clear HSr HYr
      go_wp2_with fail
      refine C2.out.mono ?_
      rintro e w3 ⟨rfl, rfl⟩
      go_wp2_with fail
      exact HZ.out
end Go.Proofs.YtpmmfalpcooenaaDoor.C9f
