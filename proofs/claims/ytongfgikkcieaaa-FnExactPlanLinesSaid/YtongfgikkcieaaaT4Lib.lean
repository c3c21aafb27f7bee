/- Hides: all rows behind one another; areAlike; the quality of a field. -/
import Derived.Test.YtongfgikkcieaaaT3Lib
import Derived.Test.YtongfgikkcieaaaJn
import Derived.Test.YtongfgikkcieaaaIb
namespace Go.Proofs.Ytongfgikkcieaaa.T4
set_option linter.unusedVariables false
open Go.RowKit Ft Is Ge Qb Hd Ts H2 T1 T2 T3
open Go.Proofs.Ytongfgikkcieaaa.Nm (byt byt_of)

theorem len_size (s : ByteArray) : s.data.toList.length = s.size := Array.length_toList
/-- All rows behind one another. -/
def jnL (f : Nat → ByteArray) : Nat → List UInt8
  | 0 => []
  | n + 1 => jnL f n ++ (f n).data.toList
def jnS (f : Nat → ByteArray) (n : Nat) : ByteArray := ⟨(jnL f n).toArray⟩
theorem jn_len {f : Nat → ByteArray} {C : Nat} : ∀ {n : Nat}, (∀ j, j < n → (f j).size = C) → (jnL f n).length = n * C
  | 0, _ => by simp [jnL]
  | n + 1, h => by
    have ih := jn_len (n := n) fun j hj => h j (by omega)
    have h1 : (f n).data.toList.length = C := by rw [len_size, h n (by omega)]
    unfold jnL
    rw [List.length_append, ih, h1, Nat.add_mul]
    omega
theorem jn_size {f : Nat → ByteArray} {C n : Nat} (h : ∀ j, j < n → (f j).size = C) : (jnS f n).size = n * C := by
  have := jn_len h
  show (jnL f n).toArray.size = _
  simpa using this
theorem jn_get {f : Nat → ByteArray} {C : Nat} (hC : 1 ≤ C) : ∀ {n t : Nat}, (∀ j, j < n → (f j).size = C) → t < n * C → (jnL f n)[t]? = (f (t / C)).data.toList[t % C]?
  | 0, t, _, ht => by omega
  | n + 1, t, h, ht => by
    have hl := jn_len (n := n) fun j hj => h j (by omega)
    unfold jnL
    by_cases hlt : t < n * C
    · rw [List.getElem?_append_left (by omega)]
      exact jn_get hC (fun j hj => h j (by omega)) hlt
    · rw [List.getElem?_append_right (by omega), hl]
      rw [Nat.add_mul] at ht
      obtain ⟨c, rfl⟩ : ∃ c, t = n * C + c := ⟨t - n * C, by omega⟩
      obtain ⟨d1, d2⟩ := dm (r := n) (c := c) (C := C) (by omega)
      rw [d1, d2, Nat.add_sub_cancel_left]
theorem byt_get (s : ByteArray) (t : Nat) : byt s t = match s.data.toList[t]? with | some c => (c.toNat : Int) | none => 0 := by
  by_cases h : t < s.size
  · rw [byt_of _ _ h, List.getElem?_eq_getElem (by rw [len_size]; exact h)]
    rfl
  · rw [List.getElem?_eq_none (by rw [len_size]; omega)]
    unfold byt
    rw [dif_neg h]
theorem jn_byt {f : Nat → ByteArray} {C n t : Nat} (hC : 1 ≤ C) (h : ∀ j, j < n → (f j).size = C) (ht : t < n * C) : byt (jnS f n) t = byt (f (t / C)) (t % C) := by
  rw [byt_get, byt_get, ← jn_get hC h ht]
  rfl
theorem flat_jn (f : Nat → ByteArray) : ∀ n, (((List.range n).map f).map (·.data.toList)).flatten = jnL f n
  | 0 => rfl
  | n + 1 => by
    rw [List.range_succ, List.map_append, List.map_append, List.flatten_append, flat_jn f n]
    simp [jnL]
theorem inter_nil : ∀ l : List (List UInt8), List.intercalate [] l = l.flatten
  | [] => rfl
  | [x] => by simp [List.intercalate]
  | x :: y :: r => by
    have ih := inter_nil (y :: r)
    simp only [List.intercalate, List.intersperse, List.flatten_cons] at ih ⊢
    rw [ih]
    rfl
theorem join_jn (f : Nat → ByteArray) (n : Nat) : Lib.join (((List.range n).map f).map (·.data.toList)) [] = jnL f n := by
  unfold Lib.join
  rw [inter_nil, flat_jn]
/-- Rows are alike. -/
def AlP (n : Nat) (f : Nat → ByteArray) : Prop := (∀ j, j < n → (f j).size = (f 0).size) ∧ (1 ≤ n ∧ n ≤ 6) ∧ (1 ≤ (f 0).size ∧ (f 0).size ≤ 6)
theorem hide_al {n : Nat} {f : Nat → ByteArray} (h : HideP n f) : AlP n f := ⟨fun j hj => (h.1 j hj).1, h.2, h.cols⟩
theorem hide_iff {n : Nat} {f : Nat → ByteArray} (h : AlP n f) : HideP n f ↔ ∀ t, t < n * (f 0).size → 0 ≤ qI (byt (jnS f n) t) := by
  have hC := h.2.2
  constructor
  · intro hh t ht
    obtain ⟨h1, h2⟩ := H3.div_mod hC.1 ht
    rw [jn_byt hC.1 h.1 ht]
    exact (hh.1 _ h1).2.2 _ (by rw [h.1 _ h1]; exact h2)
  · intro hh
    refine ⟨fun j hj => ⟨h.1 j hj, by rw [h.1 j hj]; exact hC, fun x hx => ?_⟩, h.2.1⟩
    rw [h.1 j hj] at hx
    have hl := row_lt (n := n) (C := (f 0).size) hj hx
    have := hh _ hl
    rw [jn_byt hC.1 h.1 hl] at this
    obtain ⟨d1, d2⟩ := dm (r := j) (c := x) (C := (f 0).size) hx
    rwa [d1, d2] at this
theorem qf_jn {n : Nat} {f : Nat → ByteArray} (h : AlP n f) {t : Nat} (ht : t < n * (f 0).size) : qf f (t / (f 0).size) (t % (f 0).size) = qI (byt (jnS f n) t) := by
  unfold qf
  rw [jn_byt h.2.2.1 h.1 ht]
set_option maxRecDepth 100000 in
theorem ialike (A : Option Addr) (n c : Nat) (f : Nat → ByteArray) (hn : n ≤ 1048576) (hs : ∀ i, i < n → (f i).size ≤ 1048576) (w : World) (hA : Txts w w.heap.size A n f) :
    Calls Try.prog 93 #[.slice A n c] w fun e w' => e = .returned (.bool (tv (AlP n f))) ∧ w = w' := by
  have HA := Lib.hid hA
  have HS := Lib.hid hs
  have C0 := Lib.hid (fun w => Ba.within_any (n : Int) 1 6 w)
  have C1 := Lib.hid (fun w => Ba.within_any ((f 0).size : Int) 1 6 w)
  have N0 : Hid (Ba.inB (n : Int) 1 6 = false → tv (AlP n f) = false) := Lib.hid fun h => tv_no fun e => by have := e.2.1; rw [Ba.in_yes (by omega) (by omega)] at h; cases h
  have N1 : Hid (Ba.inB ((f 0).size : Int) 1 6 = false → tv (AlP n f) = false) := Lib.hid fun h => tv_no fun e => by have := e.2.2; rw [Ba.in_yes (by omega) (by omega)] at h; cases h
  have N2 : Hid (∀ k, k < n → ¬ (f k).size = (f 0).size → tv (AlP n f) = false) := Lib.hid fun k hk h => tv_no fun e => h (e.1 k hk)
  have Y : Hid (Ba.inB (n : Int) 1 6 = true → Ba.inB ((f 0).size : Int) 1 6 = true → (∀ k, k < n → (f k).size = (f 0).size) → tv (AlP n f) = true) := Lib.hid fun h1 h2 h3 => tv_yes ⟨h3, by have := Ba.in_of h1; omega, by have := Ba.in_of h2; omega⟩
  have I0 := Lib.hid (@Ba.in_of (n : Int) 1 6)
  generalize tv (AlP n f) = r at N0 N1 N2 Y ⊢
  generalize Ba.inB (n : Int) 1 6 = r0 at C0 N0 Y I0
  generalize Ba.inB ((f 0).size : Int) 1 6 = r1 at C1 N1 Y
  clear hA hs
  cases r0
  · have HF := Lib.hid (N0.out rfl)
    go_enter Try.func93, Try.ntmps93
    go_wp2_with fail
    refine (C0.out _).mono ?_
    rintro e w' ⟨rfl, rfl⟩
    go_wp2_with fail
    go_ret
    exact ⟨Ba.ret_bool HF.out.symm, rfl⟩
  have hi := I0.out rfl
  obtain ⟨b, off, rfl, hb, hc⟩ := HA.out (by omega)
  have y0 := hc 0 (by omega)
  rw [Nat.add_zero] at y0
  have e2 : (0 : Int) < (n : Int) := by omega
  have e3 : 0 < n := by omega
  have HC := Lib.hid hc
  have z1 := HS.out 0 (by omega)
  clear hc
  cases r1
  · have HF := Lib.hid (N1.out rfl)
    clear N0 N1 N2 Y
    generalize f 0 = s0 at y0 C1 z1
    go_enter Try.func93, Try.ntmps93
    go_wp2_with fail
    refine (C0.out _).mono ?_
    rintro e w' ⟨rfl, rfl⟩
    go_wp2_with fail
    refine (C1.out _).mono ?_
    rintro e w' ⟨rfl, rfl⟩
    go_wp2_with fail
    go_ret
    exact ⟨Ba.ret_bool HF.out.symm, rfl⟩
  have Y2 := Lib.hid (Y.out rfl rfl)
  clear N0 N1 Y
  generalize hs0 : f 0 = s0 at y0 C1 z1 N2 Y2
  clear hs0
  go_enter Try.func93, Try.ntmps93
  go_wp2_with fail
  refine (C0.out _).mono ?_
  rintro e w' ⟨rfl, rfl⟩
  go_wp2_with fail
  refine (C1.out _).mono ?_
  rintro e w' ⟨rfl, rfl⟩
  clear C0 C1
  go_wp2_with fail
  go_loop [19] (fun i => ∃ k : Nat, k ≤ n ∧ i = .int .i64 (k : Int) ∧ Hid (∀ j, j < k → (f j).size = s0.size)) (fun i => n - (intOf i).toNat)
  case atStart => exact ⟨0, Nat.zero_le _, rfl, Lib.hid fun j hj => by omega⟩
  case round =>
    obtain ⟨k, hk, rfl, HK⟩ := hrel
    have e0 : (0 : Int) ≤ (k : Int) := Int.natCast_nonneg _
    by_cases hlt : k < n
    · have e1 : (k : Int) < (n : Int) := by omega
      have hk1 : k + 1 ≤ n := by omega
      have x0 := HC.out k hlt
      have z2 := HS.out k hlt
      have Nk := Lib.hid (N2.out k hlt)
      have HS1 : Hid ((f k).size = s0.size → ∀ j, j < k + 1 → (f j).size = s0.size) := Lib.hid fun h j hj => by
        by_cases e : j = k
        · subst e; exact h
        · exact HK.out j (by omega)
      clear hk
      generalize f k = s at x0 z2 Nk HS1
      by_cases h1 : s.size = s0.size
      · have HD := Lib.hid (HS1.out h1)
        have d1 : ((s.size : Int) != (s0.size : Int)) = false := by simp; omega
        clear h1
        go_wp2_with fail
        go_round
        case rel => exact ⟨k + 1, hk1, by go_num, HD⟩
        case measure => simp [intOf]; omega
      · have HF := Lib.hid (Nk.out h1)
        have d1 : ((s.size : Int) != (s0.size : Int)) = true := by simp; omega
        clear h1
        go_wp2_with fail
        go_ret
        exact ⟨Ba.ret_bool HF.out.symm, rfl⟩
    · obtain rfl : k = n := by omega
      have HF := Lib.hid (Y2.out HK.out)
      go_wp2_with fail
      go_ret
      exact ⟨Ba.ret_bool HF.out.symm, rfl⟩
set_option maxRecDepth 100000 in
theorem ix_byte (c : UInt8) : Lib.indexByte [120, 99, 98, 97] c = qI (c.toNat : Int) := by
  have h : ∀ x : Fin 256, Lib.indexByte [120, 99, 98, 97] (UInt8.ofNat x.1) = qI (x.1 : Int) := by decide
  have := h ⟨c.toNat, c.toNat_lt⟩
  simpa using this
theorem iq (n C : Int) (s : ByteArray) (a b c d : Nat) (t : Nat) (ht : t < s.size) (w : World) : Calls Try.prog 66 #[hdV n C s a b c d, .int .i64 (t : Int)] w fun e w' => e = .returned (.int .i64 (qI (byt s t))) ∧ Below w.heap.size w w' := by
  have HB := Lib.hid (below_box w (hdC n C s a b c d))
  have e0 : (0 : Int) ≤ (t : Int) := Int.natCast_nonneg _
  have e1 : (t : Int) < (s.size : Int) := by omega
  have HI : Hid (∀ w, Calls Try.prog 96 #[.string ⟨#[120, 99, 98, 97]⟩, .int .u8 (((s[t]'ht).toNat : Nat) : Int)] w fun e w' => e = .returned (.int .i64 (qI (byt s t))) ∧ w' = w) := Lib.hid fun w => by
    have h := Try.strings_IndexByte ⟨#[120, 99, 98, 97]⟩ (((s[t]'ht).toNat : Nat) : Int) w
    have e : (((s[t]'ht).toNat : Nat) : Int).toNat.toUInt8 = s[t]'ht := by simp
    rw [e] at h
    rw [byt_of _ _ ht, ← ix_byte]
    exact h
  generalize qI (byt s t) = q at HI ⊢
  go_enter Try.func66, Try.ntmps66
  go_wp2_with fail
  refine (HI.out _).mono ?_
  rintro e w' ⟨rfl, rfl⟩
  go_wp2_with fail
  go_ret
  exact ⟨rfl, HB.out⟩
end Go.Proofs.Ytongfgikkcieaaa.T4
