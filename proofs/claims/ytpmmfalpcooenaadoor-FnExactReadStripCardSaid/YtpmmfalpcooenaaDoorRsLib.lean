/- The spec's reading of a decimal form. -/
import Derived.Test.YtpmmfalpcooenaaDoorDsLib
import Derived.Test.YtpmmfalpcooenaaDoorRnLib
import Derived.Deep.DeepCutAuto
import Derived.WalkSpells
import Derived.Lib.ItoaLen
import Derived.Lib.IndexBytes
import Derived.Lib.IndexBytes
import Derived.Lib.IndexBytes
namespace Go.Proofs.YtpmmfalpcooenaaDoor.Rs
open Go.RowKit Ba Go.Lib Dc Ds Rn

theorem digit_u8 (c : UInt8) (w : World) : Calls Tryd.prog 93 #[.int .u8 (c.toNat : Int)] w fun e w' => e = .returned (.bool (dgt c)) ∧ w = w' := by
  have HD : Hid (dgt c = (decide (48 ≤ (c.toNat : Int)) && decide ((c.toNat : Int) ≤ 57))) := Lib.hid (by unfold dgt; rw [Bool.eq_iff_iff]; simp; omega)
  generalize dgt c = r at HD ⊢
  generalize (c.toNat : Int) = x at HD ⊢
  by_cases h1 : 48 ≤ x <;> by_cases h2 : x ≤ 57
  all_goals
    go_enter Tryd.func93, Tryd.ntmps93
    go_wp2
    go_ret
    exact ⟨by rw [HD.out]; simp [h1, h2], rfl⟩
theorem data_nil {s : ByteArray} (h : s.size = 0) : s.data.toList = [] := List.eq_nil_of_length_eq_zero (by simpa using h)
/-- What stands behind the sign, as a text. -/
def tlB (s : ByteArray) : ByteArray := if isNeg s.data.toList then s.extract 1 s.size else s
theorem tl_data (s : ByteArray) : (tlB s).data.toList = tl s.data.toList := by
  unfold tlB tl
  cases h : isNeg s.data.toList
  · rfl
  · simp only [if_true]
    exact (Go.Lib.extract_to_end s 1).trans (by cases s.data.toList <;> rfl)
theorem neg_of {s : ByteArray} (h : 0 < s.size) : isNeg s.data.toList = decide ((s[0]'h).toNat = 45) := by
  obtain ⟨⟨l⟩⟩ := s
  cases l with
  | nil => exact absurd h (by decide)
  | cons c r => rfl
theorem at_list (T : ByteArray) (k : Nat) (h : k < T.size) : T.data.toList.take (k + 1) = T.data.toList.take k ++ [T[k]'h] := by
  rw [List.take_succ_eq_append_getElem (by simpa using h)]; rfl
theorem at_all {T : ByteArray} {k : Nat} (h : k < T.size) (hd : dgt (T[k]'h) = false) : T.data.toList.all dgt = false := by
  rw [List.all_eq_false]
  exact ⟨T[k]'h, by
    have : T[k]'h = T.data.toList[k]'(by simpa using h) := rfl
    rw [this]; exact List.getElem_mem _, by simp [hd]⟩
theorem rd_no {L : List UInt8} (h : ¬ (1 ≤ (tl L).length ∧ (tl L).length ≤ 18) ∨ (tl L).all dgt = false ∨ ¬ itoa (rdV L) = L) : rdB L = false ∧ rdN L = 0 := by
  have hb : rdB L = false := by
    unfold rdB
    rcases h with h | h | h
    · simp [h]
    · simp [h]
    · simp [h]
  exact ⟨hb, by unfold rdN; rw [hb]; rfl⟩
theorem rd_yes {L : List UInt8} (h1 : 1 ≤ (tl L).length ∧ (tl L).length ≤ 18) (h2 : (tl L).all dgt = true) (h3 : itoa (rdV L) = L) : rdB L = true ∧ rdN L = rdV L := by
  have hb : rdB L = true := by
    unfold rdB
    simp [h1, h2, h3]
  exact ⟨hb, by unfold rdN; rw [hb]; rfl⟩
theorem size_list (T : ByteArray) : T.data.toList.length = T.size := by simp
theorem ret_rd {a b : Int} {x y : Bool} (h : a = b) (h' : x = y) : Ending.returned (.tuple #[.int .i64 a, .bool x]) = .returned (.tuple #[.int .i64 b, .bool y]) := by rw [h, h']
theorem val_take {T : ByteArray} {k : Nat} (_hk : k ≤ 18) (h : (T.data.toList.take k).all dgt = true) : val 0 (T.data.toList.take k) < 10 ^ k := by
  have h1 := val_lt 0 _ h
  have h2 : (T.data.toList.take k).length ≤ k := List.length_take_le _ _
  have h3 : 10 ^ (T.data.toList.take k).length ≤ 10 ^ k := Nat.pow_le_pow_right (by decide) h2
  omega
theorem mk_eq (s : ByteArray) {l : List UInt8} (h : l = s.data.toList) : (⟨l.toArray⟩ : ByteArray) = s := by
  subst h
  obtain ⟨⟨l⟩⟩ := s
  rfl
theorem mk_ne (s : ByteArray) {l : List UInt8} (h : ¬ l = s.data.toList) : ((⟨l.toArray⟩ : ByteArray).toList == s.toList) = false := by
  rw [ByteArray.toList_eq, ByteArray.toList_eq]
  simpa using h
set_option maxRecDepth 100000 in
set_option maxHeartbeats 2000000 in
theorem num_any (s : ByteArray) (hs : s.size ≤ maxLen) (w : World) : Calls Tryd.prog 77 #[.string s] w fun e w' => e = .returned (.tuple #[.int .i64 (rdN s.data.toList), .bool (rdB s.data.toList)]) ∧ Below w.heap.size w w' := by
  unfold maxLen at hs
  by_cases h0 : s.size = 0
  · have he : s.toList = [] := by rw [ByteArray.toList_eq]; exact data_nil h0
    have HR := Lib.hid (rd_no (L := s.data.toList) (.inl (by rw [data_nil h0]; decide)))
    go_enter Tryd.func77, Tryd.ntmps77
    go_wp2_with fail
    go_ret2
    exact ⟨ret_rd HR.out.2.symm HR.out.1.symm, Below.refl _ _⟩
  · have hp : 0 < s.size := by omega
    have hne : s.toList.isEmpty = false := by
      rw [ByteArray.toList_eq]
      cases hl : s.data.toList with
      | nil => exact absurd (by simpa using congrArg List.length hl) h0
      | cons a l => rfl
    have HN := Lib.hid (neg_of hp)
    by_cases h45 : (s[0]'hp).toNat = 45
    · have h46 : (((s[0]'hp).toNat : Int) == 45) = true := by simp [h45]
      have HNG : Hid (isNeg s.data.toList = true) := Lib.hid (by rw [HN.out]; simp [h45])
      have HT : Hid (tl s.data.toList = (s.extract 1 s.size).data.toList) := Lib.hid (by rw [← tl_data]; unfold tlB; rw [HNG.out]; rfl)
      have HTL : Hid ((s.extract 1 s.size).size = s.size - 1) := Lib.hid (by rw [← size_list, ← HT.out]; unfold tl; rw [HNG.out]; simp)
      clear h45
      by_cases hl : 1 ≤ s.size - 1 ∧ s.size - 1 ≤ 18
      · obtain ⟨hl1, hl2⟩ := hl
        have hl1' : (1 : Int) ≤ ((s.size - 1 : Nat) : Int) := by omega
        have hl2' : ((s.size - 1 : Nat) : Int) ≤ 18 := by omega
        go_enter Tryd.func77, Tryd.ntmps77
        go_wp2_with fail
        generalize s.extract 1 s.size = T at HT HTL ⊢
        have hTs : T.size ≤ 18 := by have := HTL.out; omega
        have hT1 : 1 ≤ T.size := by have := HTL.out; omega
        go_loop [5, 6] (fun n i => ∃ k : Nat, k ≤ T.size ∧ i = .int .i64 k ∧ n = .int .i64 (val 0 (T.data.toList.take k) : Nat) ∧ Hid ((T.data.toList.take k).all dgt = true)) (fun _ i => T.size - (intOf i).toNat)
        case atStart => exact ⟨0, Nat.zero_le _, rfl, by simp [val_nil], Lib.hid (by simp)⟩
        case round =>
          obtain ⟨k, hk, rfl, rfl, HD⟩ := hrel
          have hv := val_take (by omega : k ≤ 18) HD.out
          by_cases hlt : k < T.size
          · have HS := Lib.hid (at_list T k hlt)
            have hv17 : val 0 (T.data.toList.take k) < 100000000000000000 := Nat.lt_of_lt_of_le hv (Nat.le_trans (Nat.pow_le_pow_right (by decide) (by omega : k ≤ 17)) (by decide))
            have HV := Lib.hid (val_snoc 0 (T.data.toList.take k) (T[k]'hlt))
            have HA := Lib.hid fun hd => at_all hlt hd
            have DG := Lib.hid (digit_u8 (T[k]'hlt))
            have HDD : Hid (dgt (T[k]'hlt) = decide (48 ≤ (T[k]'hlt).toNat ∧ (T[k]'hlt).toNat ≤ 57)) := Lib.hid rfl
            clear hv
            generalize val 0 (T.data.toList.take k) = v at hv17 HV ⊢
            cases hd : dgt (T[k]'hlt) <;> rw [hd] at DG HDD
            · have HR := Lib.hid (rd_no (L := s.data.toList) (.inr (.inl (by rw [HT.out]; exact HA.out hd))))
              clear hd
              go_wp2_with fail
              refine (DG.out _).mono ?_
              rintro e w' ⟨rfl, rfl⟩
              go_wp2_with fail
              go_ret2
              exact ⟨ret_rd HR.out.2.symm HR.out.1.symm, Below.refl _ _⟩
            · have hdd := HDD.out
              simp only [eq_comm (a := true), decide_eq_true_eq] at hdd
              have c1 : (48 : Int) ≤ ((T[k]'hlt).toNat : Int) := by omega
              have c2 : ((T[k]'hlt).toNat : Int) ≤ 57 := by omega
              have HX := Lib.hid hdd.1
              have HDN : Hid ((T.data.toList.take (k + 1)).all dgt = true) := Lib.hid (by rw [HS.out, List.all_append, HD.out]; simp [hd])
              clear hd hdd
              go_wp2_with fail
              refine (DG.out _).mono ?_
              rintro e w' ⟨rfl, rfl⟩
              go_wp2_with fail
              go_round
              case rel => exact ⟨k + 1, by omega, by go_num, by rw [HS.out, HV.out]; have := HX.out; go_num, HDN⟩
              case measure => simp [intOf]; omega
          · obtain rfl : k = T.size := by omega
            have hall : T.data.toList.take T.size = T.data.toList := List.take_of_length_le (by rw [size_list]; exact Nat.le_refl _)
            rw [hall] at hv HD ⊢
            have hlen : (tl s.data.toList).length = T.size := by rw [HT.out, size_list]
            have hbd := rd_bd (L := s.data.toList) (by rw [hlen]; exact hTs) (by rw [HT.out]; exact HD.out)
            have hV : rdV s.data.toList = -(val 0 T.data.toList : Nat) := by unfold rdV; rw [HNG.out, HT.out]; rfl
            have g3 : val 0 T.data.toList ≤ 999999999999999999 := by have := hbd.2.2; rwa [HT.out] at this
            clear hbd
            have DC := Lib.hid fun w => dec_any (-(val 0 T.data.toList : Nat)) (by omega) (by omega) w
            have RY := Lib.hid fun (h3 : itoa (rdV s.data.toList) = s.data.toList) => rd_yes (by rw [hlen]; exact ⟨hT1, hTs⟩) (by rw [HT.out]; exact HD.out) h3
            have RN := Lib.hid fun (h3 : ¬ itoa (rdV s.data.toList) = s.data.toList) => rd_no (.inr (.inr h3))
            rw [hV] at RY RN
            have hsz : ((T.size : Nat) : Int) < ((s.size : Nat) : Int) := by have := HTL.out; omega
            clear hV hall hlen hv
            generalize val 0 T.data.toList = v at DC RY RN g3 ⊢
            by_cases hq : itoa (-(v : Int)) = s.data.toList
            · have HR := Lib.hid (RY.out hq)
              rw [mk_eq s hq] at DC
              clear RY RN hq
              go_wp2_with fail
              refine (DC.out _).mono ?_
              rintro e w1 ⟨rfl, b1⟩
              go_wp2_with fail
              go_ret2
              exact ⟨ret_rd HR.out.2.symm HR.out.1.symm, b1⟩
            · have HR := Lib.hid (RN.out hq)
              have hq' := mk_ne s hq
              clear RY RN hq
              generalize (⟨(itoa (-(v : Int))).toArray⟩ : ByteArray) = q at DC hq'
              go_wp2_with fail
              refine (DC.out _).mono ?_
              rintro e w1 ⟨rfl, b1⟩
              go_wp2_with fail
              go_ret2
              exact ⟨ret_rd HR.out.2.symm HR.out.1.symm, b1⟩
      · have HR := Lib.hid (rd_no (L := s.data.toList) (.inl (by rw [HT.out, size_list]; rw [HTL.out]; exact hl)))
        by_cases hl3 : s.size - 1 < 1
        · have hl4 : ((s.size - 1 : Nat) : Int) < 1 := by omega
          clear hl
          go_enter Tryd.func77, Tryd.ntmps77
          go_wp2_with fail
          go_ret2
          exact ⟨ret_rd HR.out.2.symm HR.out.1.symm, Below.refl _ _⟩
        · have hl4 : (1 : Int) ≤ ((s.size - 1 : Nat) : Int) := by omega
          have hl5 : (18 : Int) < ((s.size - 1 : Nat) : Int) := by omega
          clear hl
          go_enter Tryd.func77, Tryd.ntmps77
          go_wp2_with fail
          go_ret2
          exact ⟨ret_rd HR.out.2.symm HR.out.1.symm, Below.refl _ _⟩
    · have h46 : (((s[0]'hp).toNat : Int) == 45) = false := by simp; omega
      have HNG : Hid (isNeg s.data.toList = false) := Lib.hid (by rw [HN.out]; simp [h45])
      have HT : Hid (tl s.data.toList = s.data.toList) := Lib.hid (by unfold tl; rw [HNG.out]; rfl)
      clear h45
      by_cases hl : 1 ≤ s.size ∧ s.size ≤ 18
      · obtain ⟨hl1, hl2⟩ := hl
        have hl1' : (1 : Int) ≤ ((s.size : Nat) : Int) := by omega
        have hl2' : ((s.size : Nat) : Int) ≤ 18 := by omega
        go_enter Tryd.func77, Tryd.ntmps77
        go_wp2_with fail
        have hTs : s.size ≤ 18 := hl2
        have hT1 : 1 ≤ s.size := hl1
        go_loop [5, 6] (fun n i => ∃ k : Nat, k ≤ s.size ∧ i = .int .i64 k ∧ n = .int .i64 (val 0 (s.data.toList.take k) : Nat) ∧ Hid ((s.data.toList.take k).all dgt = true)) (fun _ i => s.size - (intOf i).toNat)
        case atStart => exact ⟨0, Nat.zero_le _, rfl, by simp [val_nil], Lib.hid (by simp)⟩
        case round =>
          obtain ⟨k, hk, rfl, rfl, HD⟩ := hrel
          have hv := val_take (by omega : k ≤ 18) HD.out
          by_cases hlt : k < s.size
          · have HS := Lib.hid (at_list s k hlt)
            have hv17 : val 0 (s.data.toList.take k) < 100000000000000000 := Nat.lt_of_lt_of_le hv (Nat.le_trans (Nat.pow_le_pow_right (by decide) (by omega : k ≤ 17)) (by decide))
            have HV := Lib.hid (val_snoc 0 (s.data.toList.take k) (s[k]'hlt))
            have HA := Lib.hid fun hd => at_all hlt hd
            have DG := Lib.hid (digit_u8 (s[k]'hlt))
            have HDD : Hid (dgt (s[k]'hlt) = decide (48 ≤ (s[k]'hlt).toNat ∧ (s[k]'hlt).toNat ≤ 57)) := Lib.hid rfl
            clear hv
            generalize val 0 (s.data.toList.take k) = v at hv17 HV ⊢
            cases hd : dgt (s[k]'hlt) <;> rw [hd] at DG HDD
            · have HR := Lib.hid (rd_no (L := s.data.toList) (.inr (.inl (by rw [HT.out]; exact HA.out hd))))
              clear hd
              go_wp2_with fail
              refine (DG.out _).mono ?_
              rintro e w' ⟨rfl, rfl⟩
              go_wp2_with fail
              go_ret2
              exact ⟨ret_rd HR.out.2.symm HR.out.1.symm, Below.refl _ _⟩
            · have hdd := HDD.out
              simp only [eq_comm (a := true), decide_eq_true_eq] at hdd
              have c1 : (48 : Int) ≤ ((s[k]'hlt).toNat : Int) := by omega
              have c2 : ((s[k]'hlt).toNat : Int) ≤ 57 := by omega
              have HX := Lib.hid hdd.1
              have HDN : Hid ((s.data.toList.take (k + 1)).all dgt = true) := Lib.hid (by rw [HS.out, List.all_append, HD.out]; simp [hd])
              clear hd hdd
              go_wp2_with fail
              refine (DG.out _).mono ?_
              rintro e w' ⟨rfl, rfl⟩
              go_wp2_with fail
              go_round
              case rel => exact ⟨k + 1, by omega, by go_num, by rw [HS.out, HV.out]; have := HX.out; go_num, HDN⟩
              case measure => simp [intOf]; omega
          · obtain rfl : k = s.size := by omega
            have hall : s.data.toList.take s.size = s.data.toList := List.take_of_length_le (by rw [size_list]; exact Nat.le_refl _)
            rw [hall] at hv HD ⊢
            have hlen : (tl s.data.toList).length = s.size := by rw [HT.out, size_list]
            have hbd := rd_bd (L := s.data.toList) (by rw [hlen]; exact hTs) (by rw [HT.out]; exact HD.out)
            have hV : rdV s.data.toList = (val 0 s.data.toList : Nat) := by unfold rdV; rw [HNG.out, HT.out]; rfl
            have g3 : val 0 s.data.toList ≤ 999999999999999999 := by have := hbd.2.2; rwa [HT.out] at this
            clear hbd
            have DC := Lib.hid fun w => dec_any ((val 0 s.data.toList : Nat)) (by omega) (by omega) w
            have RY := Lib.hid fun (h3 : itoa (rdV s.data.toList) = s.data.toList) => rd_yes (by rw [hlen]; exact ⟨hT1, hTs⟩) (by rw [HT.out]; exact HD.out) h3
            have RN := Lib.hid fun (h3 : ¬ itoa (rdV s.data.toList) = s.data.toList) => rd_no (.inr (.inr h3))
            rw [hV] at RY RN
            clear hV hall hlen hv
            generalize val 0 s.data.toList = v at DC RY RN g3 ⊢
            by_cases hq : itoa ((v : Int)) = s.data.toList
            · have HR := Lib.hid (RY.out hq)
              rw [mk_eq s hq] at DC
              clear RY RN hq
              go_wp2_with fail
              refine (DC.out _).mono ?_
              rintro e w1 ⟨rfl, b1⟩
              go_wp2_with fail
              go_ret2
              exact ⟨ret_rd HR.out.2.symm HR.out.1.symm, b1⟩
            · have HR := Lib.hid (RN.out hq)
              have hq' := mk_ne s hq
              clear RY RN hq
              generalize (⟨(itoa ((v : Int))).toArray⟩ : ByteArray) = q at DC hq'
              go_wp2_with fail
              refine (DC.out _).mono ?_
              rintro e w1 ⟨rfl, b1⟩
              go_wp2_with fail
              go_ret2
              exact ⟨ret_rd HR.out.2.symm HR.out.1.symm, b1⟩
      · have HR := Lib.hid (rd_no (L := s.data.toList) (.inl (by rw [HT.out, size_list]; exact hl)))
        by_cases hl3 : s.size < 1
        · have hl4 : ((s.size : Nat) : Int) < 1 := by omega
          clear hl
          go_enter Tryd.func77, Tryd.ntmps77
          go_wp2_with fail
          go_ret2
          exact ⟨ret_rd HR.out.2.symm HR.out.1.symm, Below.refl _ _⟩
        · have hl4 : (1 : Int) ≤ ((s.size : Nat) : Int) := by omega
          have hl5 : (18 : Int) < ((s.size : Nat) : Int) := by omega
          clear hl
          go_enter Tryd.func77, Tryd.ntmps77
          go_wp2_with fail
          go_ret2
          exact ⟨ret_rd HR.out.2.symm HR.out.1.symm, Below.refl _ _⟩
end Go.Proofs.YtpmmfalpcooenaaDoor.Rs
