/- Hides: the spec's: qualities, what is a hide, which pieces are valid, where a piece fits. -/
import Derived.Test.YtongfgikkcieaaaHdLib
import Derived.Test.YtongfgikkcieaaaTsLib
import Derived.Test.YtongfgikkcieaaaQbLib
import Derived.Deep.DeepCutAuto
import Derived.Deep.QuietTactic
import Derived.BigQuiet
namespace Go.Proofs.Ytongfgikkcieaaa.He
set_option linter.unusedVariables false
open Go.RowKit Ft Is Ge Qb Hd Ts
open Go.Proofs.Ytongfgikkcieaaa.Nm (byt byt_of)

theorem below_drewN (w : World) : ∀ n, Below w.heap.size w (w.drewN n)
  | 0 => Below.refl _ _
  | n + 1 => (below_drewN w n).drew
theorem spec_q (c : Int) (w : World) : Calls Try.prog 63 #[.int .u8 c] w fun e w' => e = .returned (.int .i64 (qI c)) ∧ w = w' := by
  by_cases h1 : c = 97
  · subst h1
    go_enter Try.func63, Try.ntmps63
    go_wp2
    go_ret
    exact ⟨rfl, rfl⟩
  have e1 : (c == 97) = false := by simpa using h1
  by_cases h2 : c = 98
  · subst h2
    go_enter Try.func63, Try.ntmps63
    go_wp2
    go_ret
    exact ⟨rfl, rfl⟩
  have e2 : (c == 98) = false := by simpa using h2
  by_cases h3 : c = 99
  · subst h3
    go_enter Try.func63, Try.ntmps63
    go_wp2
    go_ret
    exact ⟨rfl, rfl⟩
  have e3 : (c == 99) = false := by simpa using h3
  by_cases h4 : c = 120
  · subst h4
    go_enter Try.func63, Try.ntmps63
    go_wp2
    go_ret
    exact ⟨rfl, rfl⟩
  have e4 : (c == 120) = false := by simpa using h4
  have E : Hid (qI c = -1) := Lib.hid (by unfold qI; rw [if_neg h1, if_neg h2, if_neg h3, if_neg h4])
  clear h1 h2 h3 h4
  go_enter Try.func63, Try.ntmps63
  go_wp2
  go_ret
  exact ⟨Ba.ret_int E.out.symm, rfl⟩
set_option maxRecDepth 100000 in
set_option maxHeartbeats 1000000 in
theorem spec_ok (A : Option Addr) (n c : Nat) (f : Nat → ByteArray) (hn : n ≤ 1048576) (hs : ∀ i, i < n → (f i).size ≤ 1048576) (w : World) (hA : Txts w w.heap.size A n f) :
    Calls Try.prog 57 #[.slice A n c] w fun e w' => e = .returned (.bool (tv (HideP n f))) ∧ Below w.heap.size w w' := by
  have HA := Lib.hid hA
  have HS := Lib.hid hs
  have NO : Hid (∀ k, k < n → ¬ RowP f k → tv (HideP n f) = false) := Lib.hid fun k hk h => tv_no fun e => h (e.1 k hk)
  have YES : Hid ((∀ k, k < n → RowP f k) → tv (HideP n f) = Ba.inB (n : Int) 1 6) := Lib.hid fun h => by
    by_cases q : 1 ≤ n ∧ n ≤ 6
    · rw [tv_yes ⟨h, q⟩, Ba.in_yes (by omega) (by omega)]
    · rw [tv_no fun e => q e.2]
      by_cases q2 : (n : Int) < 1
      · rw [Ba.in_low q2]
      · rw [Ba.in_high (by omega)]
  have CI := Lib.hid (fun w => Ba.in_any (n : Int) 1 6 w)
  have CS := Lib.hid (fun (k : Nat) w => Ba.in_any ((f k).size : Int) 1 6 w)
  have CQ := Lib.hid (fun c w => spec_q c w)
  generalize tv (HideP n f) = r at NO YES ⊢
  generalize Ba.inB (n : Int) 1 6 = r2 at YES CI
  clear hA hs
  go_enter Try.func57, Try.ntmps57
  go_wp2_with fail
  go_loopw [3, 4] (fun i _ wr => ∃ k : Nat, k ≤ n ∧ i = .int .i64 (k : Int) ∧ Hid (Below w.heap.size w wr) ∧ Hid (∀ j, j < k → RowP f j)) (fun i _ _ => n - (intOf i).toNat)
  case atStart => exact ⟨0, Nat.zero_le _, rfl, Lib.hid (Below.refl _ _), Lib.hid fun j hj => by omega⟩
  case round =>
    obtain ⟨k, hk, rfl, HB, HR⟩ := hrel
    have e0 : (0 : Int) ≤ (k : Int) := Int.natCast_nonneg _
    by_cases hlt : k < n
    · have e1 : (k : Int) < (n : Int) := by omega
      have HX : Hid (∀ q, Txts (wr.drewN q) w.heap.size A n f) := Lib.hid fun q => HA.out.below (below_then HB.out (below_drewN wr q)) (Nat.le_refl _)
      obtain ⟨b, off, rfl, hb, hc⟩ := (HA.out.below HB.out (Nat.le_refl _)) (by omega)
      have x0 := hc k hlt
      have y0 := hc 0 (by omega)
      rw [Nat.add_zero] at y0
      have e2 : (0 : Int) < (n : Int) := by omega
      have e3 : 0 < n := by omega
      have C := Lib.hid (fun w => CS.out k w)
      have z0 := HS.out k hlt
      have z1 := HS.out 0 (by omega)
      have NOk := Lib.hid (NO.out k hlt)
      have HP : Hid ((f k).size = (f 0).size → (1 ≤ (f k).size ∧ (f k).size ≤ 6) → (∀ x, x < (f k).size → 0 ≤ qI (byt (f k) x)) → ∀ j, j < k + 1 → RowP f j) := Lib.hid fun h1 h2 h3 j hj => by
        by_cases e : j = k
        · subst e; exact ⟨h1, h2, h3⟩
        · exact HR.out j (by omega)
      have HN : Hid (RowP f k ↔ (f k).size = (f 0).size ∧ (1 ≤ (f k).size ∧ (f k).size ≤ 6) ∧ ∀ x, x < (f k).size → 0 ≤ qI (byt (f k) x)) := Lib.hid Iff.rfl
      have X0 : Hid (∀ q, (wr.drewN q).cell? ⟨b, off + k, none⟩ = some (.string (f k))) := Lib.hid fun q => x0
      generalize RowP f k = RP at NOk HN
      generalize f k = s at x0 X0 C z0 HP HN
      generalize f 0 = s0 at y0 z1 HP HN
      have hk1 : k + 1 ≤ n := by omega
      clear hc hk
      by_cases h1 : s.size = s0.size
      · have H1 := Lib.hid h1
        have d1 : ((s.size : Int) != (s0.size : Int)) = false := by simp; omega
        clear h1
        cases hi : Ba.inB (s.size : Int) 1 6
        · rw [hi] at C
          have hnr := Lib.hid (NOk.out (fun q => by have h := (HN.out.1 q).2.1; rw [Ba.in_yes (by omega) (by omega)] at hi; cases hi))
          clear hi
          go_upto_region 4 with fail
          go_quiet ((go_at_call 62; with_reducible exact Calls.quiet_of_same ((C.out _).mono fun _ _ h => ⟨h.1, h.2.symm⟩)))
          have HQ := Lib.hid (below_then HB.out (below_drewN wr nq))
          go_wp2_with fail
          go_ret
          exact ⟨Ba.ret_bool hnr.out.symm, HQ.out⟩
        · rw [hi] at C
          have hii := Ba.in_of hi
          clear hi
          go_upto_region 4 with fail
          go_quiet ((go_at_call 62; with_reducible exact Calls.quiet_of_same ((C.out _).mono fun _ _ h => ⟨h.1, h.2.symm⟩)))
          have HQ := Lib.hid (below_then HB.out (below_drewN wr nq))
          have x1 := X0.out nq
          generalize wr.drewN nq = w5 at HQ x1 ⊢
          clear x0 y0 X0
          go_wp2_with fail
          go_loop [4] (fun i => ∃ m : Nat, m ≤ s.size ∧ i = .int .i64 (m : Int) ∧ Hid (∀ x, x < m → 0 ≤ qI (byt s x))) (fun i => s.size - (intOf i).toNat)
          case atStart => exact ⟨0, Nat.zero_le _, rfl, Lib.hid fun j hj => by omega⟩
          case round =>
            obtain ⟨m, hm, rfl, HM⟩ := hrel
            have f0 : (0 : Int) ≤ (m : Int) := Int.natCast_nonneg _
            by_cases hml : m < s.size
            · have f1 : (m : Int) < (s.size : Int) := by omega
              have HBk := Lib.hid (byt_of s m hml)
              have CQm := Lib.hid (fun w => CQ.out ((s[m]'hml).toNat : Int) w)
              have HQ0 : Hid (0 ≤ qI ((s[m]'hml).toNat : Int) → ∀ x, x < m + 1 → 0 ≤ qI (byt s x)) := Lib.hid fun h x hx => by
                by_cases e : x = m
                · subst e; rw [HBk.out]; exact h
                · exact HM.out x (by omega)
              have HQ1 : Hid (qI ((s[m]'hml).toNat : Int) < 0 → ¬ RP) := Lib.hid fun h q => by
                have := (HN.out.1 q).2.2 m hml
                rw [HBk.out] at this
                omega
              generalize qI ((s[m]'hml).toNat : Int) = qq at CQm HQ0 HQ1
              by_cases hq : qq < 0
              · have hnr := Lib.hid (NOk.out (HQ1.out hq))
                go_wp2_with (go_at_call 63; refine (CQm.out _).mono ?_; rintro e w' ⟨rfl, rfl⟩)
                go_ret
                exact ⟨Ba.ret_bool hnr.out.symm, HQ.out⟩
              · have HM2 := Lib.hid (HQ0.out (by omega))
                go_wp2_with (go_at_call 63; refine (CQm.out _).mono ?_; rintro e w' ⟨rfl, rfl⟩)
                go_round
                case rel => exact ⟨m + 1, by omega, by go_num, HM2⟩
                case measure => simp [intOf]; omega
            · obtain rfl : m = s.size := by omega
              have HR2 := Lib.hid (HP.out H1.out (by omega) HM.out)
              clear HM NOk HN HP
              go_wp2_with fail
              go_roundw
              case rel => exact ⟨k + 1, hk1, by go_num, HQ, HR2⟩
              case measure => simp [intOf]; omega
      · have d1 : ((s.size : Int) != (s0.size : Int)) = true := by simp; omega
        have hnr := Lib.hid (NOk.out (fun q => h1 (HN.out.1 q).1))
        go_upto_region 4 with fail
        go_quiet (fail)
        have HQ := Lib.hid (below_then HB.out (below_drewN wr nq))
        go_wp2_with fail
        go_ret
        exact ⟨Ba.ret_bool hnr.out.symm, HQ.out⟩
    · obtain rfl : k = n := by omega
      have HF := Lib.hid (YES.out HR.out)
      go_wp2_with fail
      refine (CI.out _).mono ?_
      rintro e w' ⟨rfl, rfl⟩
      go_wp2_with fail
      go_ret
      exact ⟨Ba.ret_bool HF.out.symm, HB.out⟩
end Go.Proofs.Ytongfgikkcieaaa.He
