/- The law's marks of texts: the letter m and a number. -/
import Derived.Test.YtongfgikkcieaaaDcLib
namespace Go.Proofs.Ytongfgikkcieaaa.Mt
open Go.RowKit Ba Go.Lib Dc

def mkT (n : Int) : ByteArray := ⟨(109 :: itoa n).toArray⟩
theorem cat109 (L : List UInt8) : (⟨#[109]⟩ ++ ⟨L.toArray⟩ : ByteArray) = ⟨(109 :: L).toArray⟩ := by
  apply ByteArray.ext
  simp
theorem cat_one (c : UInt8) (L : List UInt8) : (⟨([c] : List UInt8).toArray⟩ ++ ⟨L.toArray⟩ : ByteArray) = ⟨(c :: L).toArray⟩ := by
  apply ByteArray.ext
  simp
set_option maxRecDepth 100000 in
set_option maxHeartbeats 2000000 in
theorem mark_text (n : Int) (h0 : 0 < n) (h1 : n ≤ 1073741824) (w : World) : Calls Try.prog 70 #[.int .i64 n] w fun e w' => e = .returned (.string (mkT n)) ∧ Below w.heap.size w w' := by
  go_enter Try.func70, Try.ntmps70
  go_wp2_with fail
  go_loopw [0, 3] (fun s0 s3 wr => ∃ (k : Int) (L : List UInt8), s0 = .int .i64 k ∧ s3 = .string ⟨L.toArray⟩ ∧ L.length ≤ 19 ∧ 0 ≤ k ∧ k ≤ n ∧ Hid (Below w.heap.size w wr) ∧ Hid (Dg n.natAbs k.natAbs L)) (fun s0 _ _ => (RowKit.intOf s0).natAbs)
  case atStart => exact ⟨n, [], rfl, rfl, by simp, by omega, by omega, Lib.hid (Below.refl _ _), Lib.hid (dg_start _)⟩
  case round =>
    obtain ⟨k, L, rfl, rfl, hL, k0, k1, hbel, hdg⟩ := hrel
    by_cases hk : k = 0
    · subst hk
      have hL2 : L = decDigits n.natAbs := by
        rcases hdg.out.1 rfl with ⟨h, _⟩ | ⟨_, h⟩
        · omega
        · exact h
      have HE := Lib.hid (itoa_pos (by omega) hL2)
      have hz : (⟨L.toArray⟩ : ByteArray).size ≤ 19 := hL
      clear hL2
      go_wp2_with fail
      go_ret
      exact ⟨ret_str ((cat109 L).trans (by unfold mkT; rw [HE.out])), hbel.out⟩
    · have hlen : L.length ≤ 18 := dg_len hdg.out (by omega) (by omega)
      have NX := Lib.hid (dg_step hdg.out (show k.natAbs ≠ 0 by omega))
      have hpos : 0 < k := by omega
      have m1 : 0 ≤ k % 10 := by omega
      have m2 : k % 10 ≤ 9 := by omega
      have hz : (⟨L.toArray⟩ : ByteArray).size ≤ 18 := hlen
      have HQ := Lib.hid (hbel.out.alloc hbel.out.size (.cells #[.int .u8 (48 + k % 10)] 5))
      have CV : (convert 65 9 (.slice (some ⟨wr.heap.size, 0, none⟩) 1 1)).run Try.prog (wr.alloc (.cells #[.int .u8 (48 + k % 10)] 5)) = .ok (.string ⟨([UInt8.ofNat (48 + k.natAbs % 10)] : List UInt8).toArray⟩) (wr.alloc (.cells #[.int .u8 (48 + k % 10)] 5)) := conv_bytes (wr.alloc (.cells #[.int .u8 (48 + k % 10)] 5)) wr.heap.size 1 [UInt8.ofNat (48 + k.natAbs % 10)] (fun j hj => by
        obtain rfl : j = 0 := by simpa using hj
        rw [cell_of_row _ _ 0 _ _ (0, 0) (heap_alloc_new _ _)]
        show some _ = some _
        rw [show ([UInt8.ofNat (48 + k.natAbs % 10)] : List UInt8)[0] = UInt8.ofNat (48 + k.natAbs % 10) from rfl, dig_val (by omega)]
        simp
        omega)
      have HC := Lib.hid (cat_one (UInt8.ofNat (48 + k.natAbs % 10)) L)
      have hs1 : (⟨([UInt8.ofNat (48 + k.natAbs % 10)] : List UInt8).toArray⟩ : ByteArray).size ≤ 1 := Nat.le_refl _
      generalize (⟨([UInt8.ofNat (48 + k.natAbs % 10)] : List UInt8).toArray⟩ : ByteArray) = cb at CV HC hs1
      have hq : (k / 10).natAbs = k.natAbs / 10 := by omega
      have q1 : 0 ≤ k / 10 := by omega
      have q2 : k / 10 ≤ n := by omega
      have q3 : (k / 10).natAbs < k.natAbs := by omega
      have H3 := Lib.hid (And.intro hq (And.intro q2 q3))
      clear hdg hk hq q2 q3
      go_wp2_with fail
      go_roundw
      case rel => exact ⟨k / 10, UInt8.ofNat (48 + k.natAbs % 10) :: L, rfl, by rw [HC.out], by rw [List.length_cons]; omega, q1, H3.out.2.1, HQ, Lib.hid (by rw [H3.out.1]; exact NX.out)⟩
      case measure => have := H3.out.2.2; simp only [RowKit.intOf]; omega
end Go.Proofs.Ytongfgikkcieaaa.Mt
