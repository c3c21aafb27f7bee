/- Whether a list of lasts is valid: the spec's and the program's. -/
import Derived.Test.YtaoknbhpjnileabLlLib
namespace Go.Proofs.Ytaoknbhpjnileab.Lv
open Go.RowKit Ft Ge Qb La Ll

/-- One name stands before another one. -/
def lt (s t : ByteArray) : Bool := Op.bytesLess s.toList t.toList
theorem le_bytes : ∀ x y : List UInt8, (Op.bytesLess y x || y == x) = !Op.bytesLess x y
  | [], [] => rfl
  | [], _ :: _ => rfl
  | _ :: _, [] => rfl
  | a :: x, b :: y => by
    have ih := le_bytes x y
    simp only [Op.bytesLess]
    by_cases h1 : a < b
    · have h2 : ¬ b < a := by simp only [UInt8.lt_iff_toNat_lt] at *; omega
      have h3 : ¬ b = a := fun e => by subst e; simp only [UInt8.lt_iff_toNat_lt] at *; omega
      simp [h1, h2, h3]
    · by_cases h2 : b < a
      · have h3 : ¬ a = b := fun e => by subst e; simp only [UInt8.lt_iff_toNat_lt] at *; omega
        simp [h1, h2, h3]
      · have h3 : a = b := by
          apply UInt8.toNat_inj.1
          simp only [UInt8.lt_iff_toNat_lt] at *
          omega
        subst h3
        simpa [h1] using ih
/-- A list of lasts that is valid. -/
def LOk (n : Nat) (N : Nat → ByteArray) (F : Nat → Nat → Int) : Prop := n ≤ 30 ∧ (∀ i, i < n → laB (N i) (F i) = true) ∧ ∀ i, i + 1 < n → lt (N i) (N (i + 1)) = true
theorem not_last {n : Nat} {N : Nat → ByteArray} {F : Nat → Nat → Int} {k : Nat} (hk : k < n) (h : laB (N k) (F k) = false) : ¬ LOk n N F := fun e => by rw [e.2.1 k hk] at h; cases h
theorem not_order {n : Nat} {N : Nat → ByteArray} {F : Nat → Nat → Int} {k : Nat} (hk : k + 1 < n) (h : lt (N k) (N (k + 1)) = false) : ¬ LOk n N F := fun e => by rw [e.2.2 k hk] at h; cases h

set_option maxRecDepth 100000 in
set_option maxHeartbeats 1000000 in
theorem spec_ok (A : Option Addr) (n c : Nat) (N : Nat → ByteArray) (F : Nat → Nat → Int) (hn : n ≤ 1048576) (w : World) (hA : Lasts w w.heap.size A n N F) : Calls Try.prog 109 #[.slice A n c] w (Tells (LOk n N F) w) := by
  have HA := Lib.hid hA
  clear hA
  go_enter Try.func109, Try.ntmps109
  go_wp2_with fail
  go_loopw [3] (fun i wr => ∃ k : Nat, k ≤ n ∧ i = .int .i64 k ∧ Below w.heap.size w wr ∧ Hid (∀ j, j < k → laB (N j) (F j) = true) ∧ Hid (∀ j, j + 1 < k → lt (N j) (N (j + 1)) = true)) (fun i _ => n - (intOf i).toNat)
  case atStart => exact ⟨0, Nat.zero_le _, rfl, Below.refl _ _, Lib.hid fun j hj => by omega, Lib.hid fun j hj => by omega⟩
  case round =>
    obtain ⟨k, hk, rfl, hbel, hall, hord⟩ := hrel
    have HB := Lib.hid hbel
    by_cases hlt : k < n
    · have hsz := HA.out.2.1 k hlt
      have C := Lib.hid (fun w => one_spec (N k) (F k) hsz w)
      have HN := Lib.hid (not_last (N := N) (F := F) hlt)
      have HS := Lib.hid (fun h => step_all (p := fun j => laB (N j) (F j)) hall.out (k := k) h)
      obtain ⟨b, off, rfl, hb, hc⟩ := (HA.out.below hbel (Nat.le_refl _)).2.2 (by omega)
      have HC := Lib.hid hc
      obtain ⟨x0, x1, x2, x3, x4, x5⟩ := Lasts.cells hc hlt
      have x0 := bey_cell x0
      have x1 := bey_cell x1
      have x2 := bey_cell x2
      have x3 := bey_cell x3
      have x4 := bey_cell x4
      have x5 := bey_cell x5
      have e0 : (0 : Int) ≤ (k : Int) := Int.natCast_nonneg _
      have e1 : (k : Int) < (n : Int) := by omega
      generalize laB (N k) (F k) = r at C HN HS
      clear hc hbel
      cases r
      · have HF := Lib.hid (HN.out rfl)
        go_wp2_with fail
        refine wp_region_below (by kernel_rfl) (by kernel_rfl) ?_
        repeat (go_big_quiet_step ((go_at_call 55; exact bey_of _ (C.out _))))
        refine wpQuiet_nil ?_
        rintro _ ⟨pq, rfl⟩
        have HQ := Lib.hid (HB.out.trans (pq.h.mono HB.out.size))
        generalize pq.to = wq at HQ ⊢
        clear x0 x1 x2 x3 x4 x5
        go_wp2_with fail
        go_ret
        exact tells_no HF.out HQ.out
      · have HD := Lib.hid (HS.out rfl)
        by_cases hz : k = 0
        · subst hz
          simp only [Nat.zero_mul, Nat.add_zero] at x0 x1 x2 x3 x4 x5
          go_wp2_with fail
          refine wp_region_below (by kernel_rfl) (by kernel_rfl) ?_
          repeat (go_big_quiet_step ((go_at_call 55; exact bey_of _ (C.out _))))
          refine wpQuiet_nil ?_
          rintro _ ⟨pq, rfl⟩
          have HQ := Lib.hid (HB.out.trans (pq.h.mono HB.out.size))
          generalize pq.to = wq at HQ ⊢
          clear x0 x1 x2 x3 x4 x5
          go_wp2_with fail
          go_roundw
          case rel => exact ⟨1, by omega, by go_num, HQ.out, HD, Lib.hid fun j hj => by omega⟩
          case measure => simp [intOf]; omega
        · obtain ⟨p, rfl⟩ : ∃ p, k = p + 1 := ⟨k - 1, by omega⟩
          have y0 := bey_cell (HC.out p (by omega)).1
          have hgt : (0 : Int) < ((p + 1 : Nat) : Int) := by omega
          have e2 : ((p + 1 : Nat) : Int) - 1 = (p : Int) := by omega
          have HO := Lib.hid (not_order (N := N) (F := F) (k := p) hlt)
          have HS2 : Hid (lt (N p) (N (p + 1)) = true → ∀ j, j + 1 < p + 1 + 1 → lt (N j) (N (j + 1)) = true) := Lib.hid fun h j hj => by
            by_cases e : j = p
            · rw [e]; exact h
            · exact hord.out j (by omega)
          have HL : Hid (Op.bytesLess (N p).toList (N (p + 1)).toList = lt (N p) (N (p + 1))) := Lib.hid rfl
          cases hq : lt (N p) (N (p + 1))
          · have HF := Lib.hid (HO.out hq)
            have hl : Op.bytesLess (N p).toList (N (p + 1)).toList = false := HL.out.trans hq
            go_wp2_with fail
            refine wp_region_below (by kernel_rfl) (by kernel_rfl) ?_
            repeat (go_big_quiet_step ((go_at_call 55; exact bey_of _ (C.out _))))
            refine wpQuiet_nil ?_
            rintro _ ⟨pq, rfl⟩
            have HQ := Lib.hid (HB.out.trans (pq.h.mono HB.out.size))
            generalize pq.to = wq at HQ ⊢
            clear x0 x1 x2 x3 x4 x5
            go_wp2_with fail
            go_ret
            exact tells_no HF.out HQ.out
          · have HD2 := Lib.hid (HS2.out hq)
            have hl : Op.bytesLess (N p).toList (N (p + 1)).toList = true := HL.out.trans hq
            go_wp2_with fail
            refine wp_region_below (by kernel_rfl) (by kernel_rfl) ?_
            repeat (go_big_quiet_step ((go_at_call 55; exact bey_of _ (C.out _))))
            refine wpQuiet_nil ?_
            rintro _ ⟨pq, rfl⟩
            have HQ := Lib.hid (HB.out.trans (pq.h.mono HB.out.size))
            generalize pq.to = wq at HQ ⊢
            clear x0 x1 x2 x3 x4 x5
            go_wp2_with fail
            go_roundw
            case rel => exact ⟨p + 1 + 1, by omega, by go_num, HQ.out, HD, HD2⟩
            case measure => simp [intOf]; omega
    · obtain rfl : k = n := by omega
      have HO : Hid (decide ((k : Int) ≤ 30) = true ↔ LOk k N F) := Lib.hid ⟨fun h => ⟨by have := of_decide_eq_true h; omega, hall.out, hord.out⟩, fun h => decide_eq_true (by have := h.1; omega)⟩
      clear hbel
      go_wp2_with fail
      go_ret
      exact ⟨_, rfl, HO.out, HB.out⟩

set_option maxRecDepth 100000 in
set_option maxHeartbeats 1000000 in
theorem impl_ok (A : Option Addr) (n c : Nat) (N : Nat → ByteArray) (F : Nat → Nat → Int) (hn : n ≤ 1048576) (w : World) (hA : Lasts w w.heap.size A n N F) : Calls Try.prog 104 #[.slice A n c] w (Tells (LOk n N F) w) := by
  have HA := Lib.hid hA
  clear hA
  by_cases h30 : 30 < n
  · have HO : Hid (¬ LOk n N F) := Lib.hid fun e => by have := e.1; omega
    go_enter Try.func104, Try.ntmps104
    go_wp2_with fail
    go_ret
    exact tells_no HO.out (Below.refl _ _)
  have h30' : n ≤ 30 := by omega
  clear h30 hn
  go_enter Try.func104, Try.ntmps104
  go_wp2_with fail
  go_loopw [3, 4, 10] (fun _ _ i wr => ∃ k : Nat, k ≤ n ∧ i = .int .i64 k ∧ Below w.heap.size w wr ∧ Hid (∀ j, j < k → laB (N j) (F j) = true) ∧ Hid (∀ j, j + 1 < k → lt (N j) (N (j + 1)) = true)) (fun _ _ i _ => n - (intOf i).toNat)
  case atStart => exact ⟨0, Nat.zero_le _, rfl, Below.refl _ _, Lib.hid fun j hj => by omega, Lib.hid fun j hj => by omega⟩
  case round =>
    obtain ⟨k, hk, rfl, hbel, hall, hord⟩ := hrel
    have HB := Lib.hid hbel
    by_cases hlt : k < n
    · have hsz := HA.out.2.1 k hlt
      have C := Lib.hid (fun w => one_impl (N k) (F k) hsz w)
      have HN := Lib.hid (not_last (N := N) (F := F) hlt)
      have HS := Lib.hid (fun h => step_all (p := fun j => laB (N j) (F j)) hall.out (k := k) h)
      obtain ⟨b, off, rfl, hb, hc⟩ := (HA.out.below hbel (Nat.le_refl _)).2.2 (by omega)
      have hb' : b < wr.heap.size := Nat.lt_of_lt_of_le hb hbel.size
      have HC := Lib.hid hc
      obtain ⟨x0, x1, x2, x3, x4, x5⟩ := Lasts.cells hc hlt
      have e0 : (0 : Int) ≤ (k : Int) := Int.natCast_nonneg _
      have e1 : (k : Int) < (n : Int) := by omega
      generalize laB (N k) (F k) = r at C HN HS
      have K := heap_alloc_new wr (laC (N k) (F k) 33)
      have HW := Lib.hid (hbel.alloc hbel.size (laC (N k) (F k) 33))
      have HCW : Hid (∀ j, j < n → (wr.alloc (laC (N k) (F k) 33)).cell? ⟨b, off + j * 6, none⟩ = some (.string (N j))) := Lib.hid fun j hj => (World.cell?_alloc_lt _ _ _ hb').trans (hc j hj).1
      clear hc hbel
      go_wp2_with fail
      generalize hsw : wr.heap.size = sw at K ⊢
      generalize wr.alloc (laC (N k) (F k) 33) = W at K HW HCW ⊢
      clear x0 x1 x2 x3 x4 x5 HB hsw hb'
      obtain ⟨x0, x1, x2, x3, x4, x5⟩ := blk6 K
      have x0 := bey_cell x0
      have x1 := bey_cell x1
      have x2 := bey_cell x2
      have x3 := bey_cell x3
      have x4 := bey_cell x4
      have x5 := bey_cell x5
      clear K
      cases r
      · have HF := Lib.hid (HN.out rfl)
        refine wp_region_below (by kernel_rfl) (by kernel_rfl) ?_
        repeat (go_big_quiet_step ((go_at_call 77; exact bey_of _ (C.out _))))
        refine wpQuiet_nil ?_
        rintro _ ⟨pq, rfl⟩
        have HQ := Lib.hid (below_then HW.out pq.h)
        generalize pq.to = wq at HQ ⊢
        clear x0 x1 x2 x3 x4 x5
        go_wp2_with fail
        go_ret
        exact tells_no HF.out HQ.out
      · have HD := Lib.hid (HS.out rfl)
        by_cases hz : k = 0
        · subst hz
          refine wp_region_below (by kernel_rfl) (by kernel_rfl) ?_
          repeat (go_big_quiet_step ((go_at_call 77; exact bey_of _ (C.out _))))
          refine wpQuiet_nil ?_
          rintro _ ⟨pq, rfl⟩
          have HQ := Lib.hid (below_then HW.out pq.h)
          generalize pq.to = wq at HQ ⊢
          clear x0 x1 x2 x3 x4 x5
          go_wp2_with fail
          go_roundw
          case rel => exact ⟨1, by omega, by go_num, HQ.out, HD, Lib.hid fun j hj => by omega⟩
          case measure => simp [intOf]; omega
        · obtain ⟨p, rfl⟩ : ∃ p, k = p + 1 := ⟨k - 1, by omega⟩
          have y0 := bey_cell (HCW.out p (by omega))
          have hgt : (0 : Int) < ((p + 1 : Nat) : Int) := by omega
          have e2 : ((p + 1 : Nat) : Int) - 1 = (p : Int) := by omega
          have HO := Lib.hid (not_order (N := N) (F := F) (k := p) hlt)
          have HS2 : Hid (lt (N p) (N (p + 1)) = true → ∀ j, j + 1 < p + 1 + 1 → lt (N j) (N (j + 1)) = true) := Lib.hid fun h j hj => by
            by_cases e : j = p
            · rw [e]; exact h
            · exact hord.out j (by omega)
          have HL : Hid ((Op.bytesLess (N (p + 1)).toList (N p).toList || (N (p + 1)).toList == (N p).toList) = !lt (N p) (N (p + 1))) := Lib.hid (le_bytes _ _)
          cases hq : lt (N p) (N (p + 1))
          · have HF := Lib.hid (HO.out hq)
            have hl : (Op.bytesLess (N (p + 1)).toList (N p).toList || (N (p + 1)).toList == (N p).toList) = true := by rw [HL.out, hq]; rfl
            refine wp_region_below (by kernel_rfl) (by kernel_rfl) ?_
            repeat (go_big_quiet_step ((go_at_call 77; exact bey_of _ (C.out _))))
            refine wpQuiet_nil ?_
            rintro _ ⟨pq, rfl⟩
            have HQ := Lib.hid (below_then HW.out pq.h)
            generalize pq.to = wq at HQ ⊢
            clear x0 x1 x2 x3 x4 x5
            go_wp2_with fail
            go_ret
            exact tells_no HF.out HQ.out
          · have HD2 := Lib.hid (HS2.out hq)
            have hl : (Op.bytesLess (N (p + 1)).toList (N p).toList || (N (p + 1)).toList == (N p).toList) = false := by rw [HL.out, hq]; rfl
            refine wp_region_below (by kernel_rfl) (by kernel_rfl) ?_
            repeat (go_big_quiet_step ((go_at_call 77; exact bey_of _ (C.out _))))
            refine wpQuiet_nil ?_
            rintro _ ⟨pq, rfl⟩
            have HQ := Lib.hid (below_then HW.out pq.h)
            generalize pq.to = wq at HQ ⊢
            clear x0 x1 x2 x3 x4 x5
            go_wp2_with fail
            go_roundw
            case rel => exact ⟨p + 1 + 1, by omega, by go_num, HQ.out, HD, HD2⟩
            case measure => simp [intOf]; omega
    · obtain rfl : k = n := by omega
      have HO : Hid (LOk k N F) := Lib.hid ⟨h30', hall.out, hord.out⟩
      clear hbel
      go_wp2_with fail
      go_ret
      exact tells_yes HO.out HB.out
end Go.Proofs.Ytaoknbhpjnileab.Lv
