/- The walk of the law of CodeName: the table's name at a code, and the spec's. -/
import Derived.Test.YtcpclgoclconcaaDoorRows
import Derived.WalkKit
import Derived.WalkLawsBesides
import Derived.Below
import Derived.Lib.Hide
import Derived.LoopTactic
namespace Go.Proofs.YtcpclgoclconcaaDoor.Cn
open Go.RowKit

/-- A number between two others. -/
def inB (n a b : Int) : Bool := decide (a ≤ n ∧ n ≤ b)
theorem in_any (n a b : Int) (w : World) : Calls Tryd.prog 34 #[.int .i64 n, .int .i64 a, .int .i64 b] w fun e w' => e = .returned (.bool (inB n a b)) ∧ w = w' := by
  by_cases h1 : a ≤ n <;> by_cases h2 : n ≤ b
  all_goals
    go_enter Tryd.func34, Tryd.ntmps34
    go_wp2
    go_ret
    exact ⟨by simp [inB, h1, h2], rfl⟩
theorem in_out {c : Int} (h : c < 0 ∨ 10 < c) : inB c 0 10 = false := by unfold inB; simp; omega
theorem in_in {c : Int} (h : 0 ≤ c) (h' : c ≤ 10) : inB c 0 10 = true := by unfold inB; simp; omega

/-- The names, byte by byte. -/
def nms : List (List UInt8) := [[111, 107], [105, 110, 118, 97, 108, 105, 100], [114, 97, 110, 103, 101], [110, 111, 116, 45, 102, 111, 117, 110, 100], [101, 120, 105, 115, 116, 115], [102, 117, 108, 108], [115, 116, 97, 116, 101], [115, 121, 110, 116, 97, 120], [102, 111, 114, 109, 97, 116], [99, 108, 97, 115, 104], [116, 105, 103, 104, 116]]
def nm (k : Nat) : ByteArray := ⟨(nms.getD k []).toArray⟩

theorem out_spec (c : Int) (h : c < 0 ∨ 10 < c) (w : World) : Calls Tryd.prog 15 #[.int .i64 c] w fun e w' => e = .returned (.string ⟨#[]⟩) ∧ Below w.heap.size w w' := by
  have ho := in_out h
  go_enter Tryd.func15, Tryd.ntmps15
  go_wp2_with (go_at_call 34; refine (in_any _ _ _ _).mono ?_; rintro e w' ⟨rfl, rfl⟩)
  go_ret
  exact ⟨rfl, (Below.refl _ _).alloc (Nat.le_refl _) _⟩
theorem out_impl (c : Int) (h : c < 0 ∨ 10 < c) (w : World) : Calls Tryd.prog 16 #[.int .i64 c] w fun e w' => e = .returned (.string ⟨#[]⟩) ∧ w = w' := by
  rcases h with h | h
  · go_enter Tryd.func16, Tryd.ntmps16
    go_wp2
    go_ret
    exact ⟨rfl, rfl⟩
  · have h0 : 0 ≤ c := by omega
    have h1 : 11 ≤ c := by omega
    clear h
    go_enter Tryd.func16, Tryd.ntmps16
    go_wp2
    go_ret
    exact ⟨rfl, rfl⟩
theorem in_impl (k : Nat) (hk : k ≤ 10) (w : World) (hc : w.cell? ⟨0, k, none⟩ = some (.string (nm k))) : Calls Tryd.prog 16 #[.int .i64 k] w fun e w' => e = .returned (.string (nm k)) ∧ w = w' := by
  generalize nm k = s at hc
  go_enter Tryd.func16, Tryd.ntmps16
  go_wp2
  go_ret
  exact ⟨rfl, rfl⟩
set_option maxHeartbeats 4000000 in
theorem in_spec (k : Nat) (hk : k ≤ 10) (w : World) : Calls Tryd.prog 15 #[.int .i64 k] w fun e w' => e = .returned (.string (nm k)) ∧ Below w.heap.size w w' := by
  have ho := in_in (c := k) (by omega) (by omega)
  obtain rfl | rfl | rfl | rfl | rfl | rfl | rfl | rfl | rfl | rfl | rfl : k = 0 ∨ k = 1 ∨ k = 2 ∨ k = 3 ∨ k = 4 ∨ k = 5 ∨ k = 6 ∨ k = 7 ∨ k = 8 ∨ k = 9 ∨ k = 10 := by omega
  all_goals
    clear hk
    go_enter Tryd.func15, Tryd.ntmps15
    go_wp2_with (go_at_call 34; refine (in_any _ _ _ _).mono ?_; rintro e w' ⟨rfl, rfl⟩)
    go_ret
    exact ⟨rfl, (Below.refl _ _).alloc (Nat.le_refl _) _⟩
theorem law (c : Int) (w : World) (hc : ∀ k, k ≤ 10 → w.cell? ⟨0, k, none⟩ = some (.string (nm k))) : Calls Tryd.prog 4 #[.int .i64 c] w fun e w' => e = .returned (.bool true) ∧ Below w.heap.size w w' := by
  by_cases h : c < 0 ∨ 10 < c
  · have S := Lib.hid (fun w => out_spec c h w)
    have I := Lib.hid (fun w => out_impl c h w)
    clear h hc
    go_enter Tryd.func4, Tryd.ntmps4
    go_wp2_with fail
    refine (S.out _).mono ?_
    rintro e w1 ⟨rfl, b1⟩
    go_wp2_with fail
    refine (I.out _).mono ?_
    rintro e w2 ⟨rfl, rfl⟩
    go_wp2_with fail
    go_ret
    exact ⟨rfl, b1⟩
  · obtain ⟨k, rfl⟩ := Int.eq_ofNat_of_zero_le (show 0 ≤ c by omega)
    have hk : k ≤ 10 := by omega
    have S := Lib.hid (fun w => in_spec k hk w)
    have I := Lib.hid (fun w => in_impl k hk w)
    have HC := Lib.hid (hc k hk)
    have hlt := World.block_lt_of_cell? w _ (hc k hk)
    clear h hc hk
    generalize nm k = s at S I HC
    go_enter Tryd.func4, Tryd.ntmps4
    go_wp2_with fail
    refine (S.out _).mono ?_
    rintro e w1 ⟨rfl, b1⟩
    have HC1 := Lib.hid ((b1.cell (p := ⟨0, k, none⟩) hlt).trans HC.out)
    go_wp2_with fail
    refine (I.out _ HC1.out).mono ?_
    rintro e w2 ⟨rfl, rfl⟩
    go_wp2_with fail
    go_ret
    exact ⟨rfl, b1⟩
end Go.Proofs.YtcpclgoclconcaaDoor.Cn
