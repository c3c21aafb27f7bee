/- Blocks on a roll: the spec's BlocksText. -/
import Derived.Test.YtgclhkiiaclkgacDoorJrLib
import Derived.Test.YtgclhkiiaclkgacDoorDsLib
import Derived.Deep.DeepCutAuto
import Derived.Lib.ItoaLen
namespace Go.Proofs.YtgclhkiiaclkgacDoor.Jy
set_option linter.unusedVariables false
open Go.RowKit Is Ge Qb Jr Lib
open Go.Proofs.YtgclhkiiaclkgacDoor.Ba (inB below_then below_box ret_bool)

/-- The text of a roll and the first k blocks. -/
def btS (roll : Int) (g : Nat → Int) : Nat → ByteArray
  | 0 => ⟨(itoa roll).toArray⟩ ++ ⟨#[58]⟩
  | k + 1 => btS roll g k ++ (⟨#[32]⟩ ++ ⟨(itoa (g (k * 2))).toArray⟩ ++ ⟨#[120]⟩ ++ ⟨(itoa (g (k * 2 + 1))).toArray⟩)
noncomputable def btT (roll : Int) (n : Nat) (g : Nat → Int) : ByteArray := if tv (BlP roll n g) = true then btS roll g n else ⟨#[]⟩
theorem dl {n : Int} (h : 1 ≤ n ∧ n ≤ 5000) : (⟨(itoa n).toArray⟩ : ByteArray).size ≤ 21 := Lib.itoa_length_le n (by omega) (by omega)
theorem bt_len {roll : Int} {n : Nat} {g : Nat → Int} (h : BlP roll n g) : ∀ {k : Nat}, k ≤ n → (btS roll g k).size ≤ 22 + 44 * k
  | 0, _ => by
    have h1 := dl (inb h.1.1)
    unfold btS
    rw [ByteArray.size_append]
    have : (⟨#[58]⟩ : ByteArray).size = 1 := rfl
    omega
  | k + 1, hk => by
    have h0 := bt_len h (show k ≤ n by omega)
    have h1 := blk_in (h.2 k (by omega))
    have h2 := inb h.1.1
    have h3 := dl (n := g (k * 2)) (by omega)
    have h4 := dl (n := g (k * 2 + 1)) (by omega)
    unfold btS
    rw [ByteArray.size_append, ByteArray.size_append, ByteArray.size_append, ByteArray.size_append]
    have e1 : (⟨#[32]⟩ : ByteArray).size = 1 := rfl
    have e2 : (⟨#[120]⟩ : ByteArray).size = 1 := rfl
    omega
theorem ret_str {a b : ByteArray} (h : a = b) : Ending.returned (.string a) = .returned (.string b) := by rw [h]
set_option maxRecDepth 100000 in
set_option maxHeartbeats 2000000 in
theorem spec_bt (A : Option Addr) (n c : Nat) (g : Nat → Int) (roll : Int) (hn : n ≤ 1048576) (w : World) (hA : Nums w w.heap.size A (n * 2) g) :
    Calls Tryd.prog 5 #[.slice A n c, .int .i64 roll] w fun e w' => e = .returned (.string (btT roll n g)) ∧ Below w.heap.size w w' := by
  have HA := Lib.hid hA
  have C := Lib.hid (spec_ok A n c g roll hn w hA)
  have V0 : Hid (tv (BlP roll n g) = false → btT roll n g = ⟨#[]⟩) := Lib.hid fun h => if_neg (by rw [h]; simp)
  have V1 : Hid (tv (BlP roll n g) = true → btT roll n g = btS roll g n) := Lib.hid fun h => if_pos h
  have LI := Lib.hid (fun (h : tv (BlP roll n g) = true) k (hk : k ≤ n) => bt_len (tv_iff.1 h) hk)
  have NI := Lib.hid (fun (h : tv (BlP roll n g) = true) => (tv_iff.1 h).1.2)
  have DR := Lib.hid (fun (h : tv (BlP roll n g) = true) w => Ds.dec_any roll (by have := inb (tv_iff.1 h).1.1; omega) (by have := inb (tv_iff.1 h).1.1; omega) w)
  have DL := Lib.hid (fun (h : tv (BlP roll n g) = true) => dl (inb (tv_iff.1 h).1.1))
  have BI := Lib.hid (fun (h : tv (BlP roll n g) = true) k (hk : k < n) => blk_in ((tv_iff.1 h).2 k hk))
  have RI := Lib.hid (fun (h : tv (BlP roll n g) = true) => inb (tv_iff.1 h).1.1)
  have S0 : Hid (btS roll g 0 = ⟨(itoa roll).toArray⟩ ++ ⟨#[58]⟩) := Lib.hid rfl
  have SS : Hid (∀ k, btS roll g (k + 1) = btS roll g k ++ (⟨#[32]⟩ ++ ⟨(itoa (g (k * 2))).toArray⟩ ++ ⟨#[120]⟩ ++ ⟨(itoa (g (k * 2 + 1))).toArray⟩)) := Lib.hid fun k => rfl
  clear hA
  generalize btT roll n g = r at V0 V1 ⊢
  generalize tv (BlP roll n g) = ok at *
  generalize btS roll g = S at *
  go_enter Tryd.func5, Tryd.ntmps5
  go_wp2_with fail
  refine C.out.mono ?_
  rintro e w1 ⟨rfl, rfl⟩
  cases ok
  · have HF := Lib.hid (V0.out rfl)
    clear V0 V1 LI NI DR DL BI RI S0 SS C
    go_wp2_with fail
    go_ret
    exact ⟨ret_str HF.out.symm, Below.refl _ _⟩
  have HF := Lib.hid (V1.out rfl)
  have LI1 := Lib.hid (LI.out rfl)
  have BI1 := Lib.hid (BI.out rfl)
  have hn9 := NI.out rfl
  have hroll := RI.out rfl
  have DR1 := Lib.hid (DR.out rfl)
  have hdl := DL.out rfl
  clear V0 V1 LI NI DR DL BI RI C
  generalize (⟨(itoa roll).toArray⟩ : ByteArray) = s0 at *
  have n0 : ¬ 9223372036854775807 < s0.size + 1 := by omega
  have m0 : ¬ 9223372036854775807 ≤ s0.size := by omega
  go_wp2_with fail
  refine (DR1.out _).mono ?_
  rintro e w1 ⟨rfl, b1⟩
  have HB1 := Lib.hid b1
  clear b1 DR1
  go_wp2_with fail
  go_loopw [5, 6] (fun u i wr => ∃ k : Nat, k ≤ n ∧ u = .string (S k) ∧ i = .int .i64 (k : Int) ∧ Hid (Below w.heap.size w wr)) (fun _ i _ => n - (intOf i).toNat)
  case atStart => exact ⟨0, Nat.zero_le _, by rw [S0.out], rfl, HB1⟩
  case round =>
    obtain ⟨k, hk, rfl, rfl, HB⟩ := hrel
    have e0 : (0 : Int) ≤ (k : Int) := Int.natCast_nonneg _
    by_cases hlt : k < n
    · obtain ⟨b, off, rfl, hb, hc⟩ := HA.out.below HB.out (Nat.le_refl _) (by omega)
      obtain ⟨x0, x1⟩ := Blk.cells_at hc hlt
      have e1 : (k : Int) < (n : Int) := by omega
      have hk1 : k + 1 ≤ n := by omega
      have y0 := LI1.out k hk
      obtain ⟨y1, y2⟩ := BI1.out k hlt
      have d1 := dl (n := g (k * 2)) (by omega)
      have d2 := dl (n := g (k * 2 + 1)) (by omega)
      have HSk := Lib.hid (SS.out k)
      have D1 := Lib.hid (fun p : Beyond wr => Ds.dec_any (g (k * 2)) (by omega) (by omega) p.to)
      have D2 := Lib.hid (fun p : Beyond wr => Ds.dec_any (g (k * 2 + 1)) (by omega) (by omega) p.to)
      have x0' := bey_cell x0
      have x1' := bey_cell x1
      clear hc hk LI1 BI1 S0 SS HF x0 x1
      generalize hS1 : S (k + 1) = sk1 at HSk
      generalize S k = sk at *
      generalize (⟨(itoa (g (k * 2))).toArray⟩ : ByteArray) = s1 at *
      generalize (⟨(itoa (g (k * 2 + 1))).toArray⟩ : ByteArray) = s2 at *
      generalize g (k * 2) = u0 at *
      generalize g (k * 2 + 1) = u1 at *
      have n1 : ¬ 9223372036854775807 < 1 + s1.size := by omega
      have n2 : ¬ 9223372036854775807 < 1 + s1.size + 1 := by omega
      have m2 : ¬ 9223372036854775807 ≤ 1 + s1.size := by omega
      have n3 : ¬ 9223372036854775807 < 1 + s1.size + 1 + s2.size := by omega
      have n4 : ¬ 9223372036854775807 < sk.size + (1 + s1.size + 1 + s2.size) := by omega
      go_upto_region 7 with fail
      refine wp_region_below (by kernel_rfl) (by kernel_rfl) ?_
      repeat (go_big_quiet_step (first | (go_at_call_of 10 u0; with_reducible exact bey_of _ (D1.out _)) | (go_at_call_of 10 u1; with_reducible exact bey_of _ (D2.out _))))
      refine wpQuiet_nil ?_
      rintro _ ⟨pq, rfl⟩
      have HQ := Lib.hid (below_then HB.out pq.h)
      generalize pq.to = wq at HQ ⊢
      clear x0' x1' D1 D2
      go_wp2_with fail
      go_roundw
      case rel => exact ⟨k + 1, hk1, by rw [hS1, HSk.out], by go_num, HQ⟩
      case measure => simp [intOf]; omega
    · obtain rfl : k = n := by omega
      clear LI1 BI1 S0 SS
      generalize S k = sk at *
      go_wp2_with fail
      go_ret
      exact ⟨ret_str HF.out.symm, HB.out⟩
end Go.Proofs.YtgclhkiiaclkgacDoor.Jy
