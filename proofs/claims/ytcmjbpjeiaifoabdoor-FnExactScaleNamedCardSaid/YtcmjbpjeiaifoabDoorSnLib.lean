/- ScaleNamed: the spec's and the program's, a case for each scale of the library and one for none. -/
import Derived.Test.YtcmjbpjeiaifoabDoorBaLib
import Derived.RegionTactic
namespace Go.Proofs.YtcmjbpjeiaifoabDoor.Sn
open Go.RowKit Ba
set_option linter.unusedVariables false

/-- The scales of the library lie as the program's text lays them. -/
def Laid (w : World) : Prop := ∀ j, j < 16 → w.cell? ⟨0, j, none⟩ = (#[.string ⟨#[112, 97, 114, 105, 115]⟩, .int .i64 0, .int .i64 100, .int .i64 3, .string ⟨#[101, 110, 103, 108, 105, 115, 104]⟩, .int .i64 50, .int .i64 127, .int .i64 3, .string ⟨#[97, 109, 101, 114, 105, 99, 97, 110]⟩, .int .i64 48, .int .i64 127, .int .i64 3, .string ⟨#[109, 111, 110, 100, 111]⟩, .int .i64 0, .int .i64 25, .int .i64 1] : Array Value)[j]?
theorem Laid.lt {w : World} (h : Laid w) : 0 < w.heap.size := World.block_lt_of_cell? w _ (h 1 (by omega))
theorem Laid.below {w w' : World} (h : Laid w) (hb : Below w.heap.size w w') : Laid w' := fun j hj => (hb.cell (p := ⟨0, j, none⟩) h.lt).trans (h j hj)
theorem ix0 (w : World) : (Instr.index 33 (.agg #[.string ⟨#[112, 97, 114, 105, 115]⟩, .int .i64 0, .int .i64 100, .int .i64 3, .string ⟨#[101, 110, 103, 108, 105, 115, 104]⟩, .int .i64 50, .int .i64 127, .int .i64 3, .string ⟨#[97, 109, 101, 114, 105, 99, 97, 110]⟩, .int .i64 48, .int .i64 127, .int .i64 3, .string ⟨#[109, 111, 110, 100, 111]⟩, .int .i64 0, .int .i64 25, .int .i64 1]) (.int .i64 0)).run Tryd.prog w = .ok (.agg #[.string ⟨#[112, 97, 114, 105, 115]⟩, .int .i64 0, .int .i64 100, .int .i64 3]) w := by kernel_rfl
theorem ix1 (w : World) : (Instr.index 33 (.agg #[.string ⟨#[112, 97, 114, 105, 115]⟩, .int .i64 0, .int .i64 100, .int .i64 3, .string ⟨#[101, 110, 103, 108, 105, 115, 104]⟩, .int .i64 50, .int .i64 127, .int .i64 3, .string ⟨#[97, 109, 101, 114, 105, 99, 97, 110]⟩, .int .i64 48, .int .i64 127, .int .i64 3, .string ⟨#[109, 111, 110, 100, 111]⟩, .int .i64 0, .int .i64 25, .int .i64 1]) (.int .i64 1)).run Tryd.prog w = .ok (.agg #[.string ⟨#[101, 110, 103, 108, 105, 115, 104]⟩, .int .i64 50, .int .i64 127, .int .i64 3]) w := by kernel_rfl
theorem ix2 (w : World) : (Instr.index 33 (.agg #[.string ⟨#[112, 97, 114, 105, 115]⟩, .int .i64 0, .int .i64 100, .int .i64 3, .string ⟨#[101, 110, 103, 108, 105, 115, 104]⟩, .int .i64 50, .int .i64 127, .int .i64 3, .string ⟨#[97, 109, 101, 114, 105, 99, 97, 110]⟩, .int .i64 48, .int .i64 127, .int .i64 3, .string ⟨#[109, 111, 110, 100, 111]⟩, .int .i64 0, .int .i64 25, .int .i64 1]) (.int .i64 2)).run Tryd.prog w = .ok (.agg #[.string ⟨#[97, 109, 101, 114, 105, 99, 97, 110]⟩, .int .i64 48, .int .i64 127, .int .i64 3]) w := by kernel_rfl
theorem ix3 (w : World) : (Instr.index 33 (.agg #[.string ⟨#[112, 97, 114, 105, 115]⟩, .int .i64 0, .int .i64 100, .int .i64 3, .string ⟨#[101, 110, 103, 108, 105, 115, 104]⟩, .int .i64 50, .int .i64 127, .int .i64 3, .string ⟨#[97, 109, 101, 114, 105, 99, 97, 110]⟩, .int .i64 48, .int .i64 127, .int .i64 3, .string ⟨#[109, 111, 110, 100, 111]⟩, .int .i64 0, .int .i64 25, .int .i64 1]) (.int .i64 3)).run Tryd.prog w = .ok (.agg #[.string ⟨#[109, 111, 110, 100, 111]⟩, .int .i64 0, .int .i64 25, .int .i64 1]) w := by kernel_rfl
set_option maxHeartbeats 1000000 in
theorem spec0 (s : ByteArray) (w : World) (e0 : ([112, 97, 114, 105, 115] == s.toList) = true) : Calls Tryd.prog 6 #[.string s] w fun e w' => e = .returned (.tuple #[.agg #[.string ⟨#[112, 97, 114, 105, 115]⟩, .int .i64 0, .int .i64 100, .int .i64 3], .int .i64 0]) ∧ Below w.heap.size w w' := by
  go_enter Tryd.func6, Tryd.ntmps6
  go_wp2_with fail
  have HB0 := Lib.hid (below_then (below_box w (.cells #[.string ⟨#[]⟩, .int .i64 0, .int .i64 0, .int .i64 0] 23)) (below_box _ (.cells #[.string ⟨#[112, 97, 114, 105, 115]⟩, .int .i64 0, .int .i64 100, .int .i64 3, .string ⟨#[101, 110, 103, 108, 105, 115, 104]⟩, .int .i64 50, .int .i64 127, .int .i64 3, .string ⟨#[97, 109, 101, 114, 105, 99, 97, 110]⟩, .int .i64 48, .int .i64 127, .int .i64 3, .string ⟨#[109, 111, 110, 100, 111]⟩, .int .i64 0, .int .i64 25, .int .i64 1] 23)))
  go_loop [5] (fun i => ∃ k : Nat, k ≤ 0 ∧ i = .int .i64 k) (fun i => 4 - (intOf i).toNat)
  case atStart => exact ⟨0, Nat.zero_le _, rfl⟩
  case round =>
    obtain ⟨k, hk, rfl⟩ := hrel
    obtain rfl : k = 0 := by omega
    clear hk
    go_wp2_with fail
    exact bodyPost_ret (v := .tuple #[.agg #[.string ⟨#[112, 97, 114, 105, 115]⟩, .int .i64 0, .int .i64 100, .int .i64 3], .int .i64 0]) (by simp [results, Tryd.results6, go_sem]) rfl ⟨rfl, by repeat (first | (with_reducible exact Below.refl _ _) | (with_reducible refine Below.alloc ?_ (by simp) _) | (with_reducible refine Below.setCell ?_ (by simp) _))⟩
set_option maxHeartbeats 1000000 in
theorem spec1 (s : ByteArray) (w : World) (e0 : ([112, 97, 114, 105, 115] == s.toList) = false) (e1 : ([101, 110, 103, 108, 105, 115, 104] == s.toList) = true) : Calls Tryd.prog 6 #[.string s] w fun e w' => e = .returned (.tuple #[.agg #[.string ⟨#[101, 110, 103, 108, 105, 115, 104]⟩, .int .i64 50, .int .i64 127, .int .i64 3], .int .i64 0]) ∧ Below w.heap.size w w' := by
  go_enter Tryd.func6, Tryd.ntmps6
  go_wp2_with fail
  have HB0 := Lib.hid (below_then (below_box w (.cells #[.string ⟨#[]⟩, .int .i64 0, .int .i64 0, .int .i64 0] 23)) (below_box _ (.cells #[.string ⟨#[112, 97, 114, 105, 115]⟩, .int .i64 0, .int .i64 100, .int .i64 3, .string ⟨#[101, 110, 103, 108, 105, 115, 104]⟩, .int .i64 50, .int .i64 127, .int .i64 3, .string ⟨#[97, 109, 101, 114, 105, 99, 97, 110]⟩, .int .i64 48, .int .i64 127, .int .i64 3, .string ⟨#[109, 111, 110, 100, 111]⟩, .int .i64 0, .int .i64 25, .int .i64 1] 23)))
  go_loop [5] (fun i => ∃ k : Nat, k ≤ 1 ∧ i = .int .i64 k) (fun i => 4 - (intOf i).toNat)
  case atStart => exact ⟨0, Nat.zero_le _, rfl⟩
  case round =>
    obtain ⟨k, hk, rfl⟩ := hrel
    by_cases h0 : k = 0
    · subst h0
      clear hk
      go_wp2_with fail
      go_round
      case rel => exact ⟨1, by omega, rfl⟩
      case measure => simp [intOf]
    obtain rfl : k = 1 := by omega
    clear hk h0
    go_wp2_with fail
    exact bodyPost_ret (v := .tuple #[.agg #[.string ⟨#[101, 110, 103, 108, 105, 115, 104]⟩, .int .i64 50, .int .i64 127, .int .i64 3], .int .i64 0]) (by simp [results, Tryd.results6, go_sem]) rfl ⟨rfl, by repeat (first | (with_reducible exact Below.refl _ _) | (with_reducible refine Below.alloc ?_ (by simp) _) | (with_reducible refine Below.setCell ?_ (by simp) _))⟩
set_option maxHeartbeats 1000000 in
theorem spec2 (s : ByteArray) (w : World) (e0 : ([112, 97, 114, 105, 115] == s.toList) = false) (e1 : ([101, 110, 103, 108, 105, 115, 104] == s.toList) = false) (e2 : ([97, 109, 101, 114, 105, 99, 97, 110] == s.toList) = true) : Calls Tryd.prog 6 #[.string s] w fun e w' => e = .returned (.tuple #[.agg #[.string ⟨#[97, 109, 101, 114, 105, 99, 97, 110]⟩, .int .i64 48, .int .i64 127, .int .i64 3], .int .i64 0]) ∧ Below w.heap.size w w' := by
  go_enter Tryd.func6, Tryd.ntmps6
  go_wp2_with fail
  have HB0 := Lib.hid (below_then (below_box w (.cells #[.string ⟨#[]⟩, .int .i64 0, .int .i64 0, .int .i64 0] 23)) (below_box _ (.cells #[.string ⟨#[112, 97, 114, 105, 115]⟩, .int .i64 0, .int .i64 100, .int .i64 3, .string ⟨#[101, 110, 103, 108, 105, 115, 104]⟩, .int .i64 50, .int .i64 127, .int .i64 3, .string ⟨#[97, 109, 101, 114, 105, 99, 97, 110]⟩, .int .i64 48, .int .i64 127, .int .i64 3, .string ⟨#[109, 111, 110, 100, 111]⟩, .int .i64 0, .int .i64 25, .int .i64 1] 23)))
  go_loop [5] (fun i => ∃ k : Nat, k ≤ 2 ∧ i = .int .i64 k) (fun i => 4 - (intOf i).toNat)
  case atStart => exact ⟨0, Nat.zero_le _, rfl⟩
  case round =>
    obtain ⟨k, hk, rfl⟩ := hrel
    by_cases h0 : k = 0
    · subst h0
      clear hk
      go_wp2_with fail
      go_round
      case rel => exact ⟨1, by omega, rfl⟩
      case measure => simp [intOf]
    by_cases h1 : k = 1
    · subst h1
      clear hk
      go_wp2_with fail
      go_round
      case rel => exact ⟨2, by omega, rfl⟩
      case measure => simp [intOf]
    obtain rfl : k = 2 := by omega
    clear hk h0 h1
    go_wp2_with fail
    exact bodyPost_ret (v := .tuple #[.agg #[.string ⟨#[97, 109, 101, 114, 105, 99, 97, 110]⟩, .int .i64 48, .int .i64 127, .int .i64 3], .int .i64 0]) (by simp [results, Tryd.results6, go_sem]) rfl ⟨rfl, by repeat (first | (with_reducible exact Below.refl _ _) | (with_reducible refine Below.alloc ?_ (by simp) _) | (with_reducible refine Below.setCell ?_ (by simp) _))⟩
set_option maxHeartbeats 1000000 in
theorem spec3 (s : ByteArray) (w : World) (e0 : ([112, 97, 114, 105, 115] == s.toList) = false) (e1 : ([101, 110, 103, 108, 105, 115, 104] == s.toList) = false) (e2 : ([97, 109, 101, 114, 105, 99, 97, 110] == s.toList) = false) (e3 : ([109, 111, 110, 100, 111] == s.toList) = true) : Calls Tryd.prog 6 #[.string s] w fun e w' => e = .returned (.tuple #[.agg #[.string ⟨#[109, 111, 110, 100, 111]⟩, .int .i64 0, .int .i64 25, .int .i64 1], .int .i64 0]) ∧ Below w.heap.size w w' := by
  go_enter Tryd.func6, Tryd.ntmps6
  go_wp2_with fail
  have HB0 := Lib.hid (below_then (below_box w (.cells #[.string ⟨#[]⟩, .int .i64 0, .int .i64 0, .int .i64 0] 23)) (below_box _ (.cells #[.string ⟨#[112, 97, 114, 105, 115]⟩, .int .i64 0, .int .i64 100, .int .i64 3, .string ⟨#[101, 110, 103, 108, 105, 115, 104]⟩, .int .i64 50, .int .i64 127, .int .i64 3, .string ⟨#[97, 109, 101, 114, 105, 99, 97, 110]⟩, .int .i64 48, .int .i64 127, .int .i64 3, .string ⟨#[109, 111, 110, 100, 111]⟩, .int .i64 0, .int .i64 25, .int .i64 1] 23)))
  go_loop [5] (fun i => ∃ k : Nat, k ≤ 3 ∧ i = .int .i64 k) (fun i => 4 - (intOf i).toNat)
  case atStart => exact ⟨0, Nat.zero_le _, rfl⟩
  case round =>
    obtain ⟨k, hk, rfl⟩ := hrel
    by_cases h0 : k = 0
    · subst h0
      clear hk
      go_wp2_with fail
      go_round
      case rel => exact ⟨1, by omega, rfl⟩
      case measure => simp [intOf]
    by_cases h1 : k = 1
    · subst h1
      clear hk
      go_wp2_with fail
      go_round
      case rel => exact ⟨2, by omega, rfl⟩
      case measure => simp [intOf]
    by_cases h2 : k = 2
    · subst h2
      clear hk
      go_wp2_with fail
      go_round
      case rel => exact ⟨3, by omega, rfl⟩
      case measure => simp [intOf]
    obtain rfl : k = 3 := by omega
    clear hk h0 h1 h2
    go_wp2_with fail
    exact bodyPost_ret (v := .tuple #[.agg #[.string ⟨#[109, 111, 110, 100, 111]⟩, .int .i64 0, .int .i64 25, .int .i64 1], .int .i64 0]) (by simp [results, Tryd.results6, go_sem]) rfl ⟨rfl, by repeat (first | (with_reducible exact Below.refl _ _) | (with_reducible refine Below.alloc ?_ (by simp) _) | (with_reducible refine Below.setCell ?_ (by simp) _))⟩
set_option maxHeartbeats 1000000 in
theorem spec4 (s : ByteArray) (w : World) (e0 : ([112, 97, 114, 105, 115] == s.toList) = false) (e1 : ([101, 110, 103, 108, 105, 115, 104] == s.toList) = false) (e2 : ([97, 109, 101, 114, 105, 99, 97, 110] == s.toList) = false) (e3 : ([109, 111, 110, 100, 111] == s.toList) = false) : Calls Tryd.prog 6 #[.string s] w fun e w' => e = .returned (.tuple #[.agg #[.string ⟨#[]⟩, .int .i64 0, .int .i64 0, .int .i64 0], .int .i64 3]) ∧ Below w.heap.size w w' := by
  go_enter Tryd.func6, Tryd.ntmps6
  go_wp2_with fail
  have HB0 := Lib.hid (below_then (below_box w (.cells #[.string ⟨#[]⟩, .int .i64 0, .int .i64 0, .int .i64 0] 23)) (below_box _ (.cells #[.string ⟨#[112, 97, 114, 105, 115]⟩, .int .i64 0, .int .i64 100, .int .i64 3, .string ⟨#[101, 110, 103, 108, 105, 115, 104]⟩, .int .i64 50, .int .i64 127, .int .i64 3, .string ⟨#[97, 109, 101, 114, 105, 99, 97, 110]⟩, .int .i64 48, .int .i64 127, .int .i64 3, .string ⟨#[109, 111, 110, 100, 111]⟩, .int .i64 0, .int .i64 25, .int .i64 1] 23)))
  go_loop [5] (fun i => ∃ k : Nat, k ≤ 4 ∧ i = .int .i64 k) (fun i => 4 - (intOf i).toNat)
  case atStart => exact ⟨0, Nat.zero_le _, rfl⟩
  case round =>
    obtain ⟨k, hk, rfl⟩ := hrel
    by_cases h0 : k = 0
    · subst h0
      clear hk
      go_wp2_with fail
      go_round
      case rel => exact ⟨1, by omega, rfl⟩
      case measure => simp [intOf]
    by_cases h1 : k = 1
    · subst h1
      clear hk
      go_wp2_with fail
      go_round
      case rel => exact ⟨2, by omega, rfl⟩
      case measure => simp [intOf]
    by_cases h2 : k = 2
    · subst h2
      clear hk
      go_wp2_with fail
      go_round
      case rel => exact ⟨3, by omega, rfl⟩
      case measure => simp [intOf]
    by_cases h3 : k = 3
    · subst h3
      clear hk
      go_wp2_with fail
      go_round
      case rel => exact ⟨4, by omega, rfl⟩
      case measure => simp [intOf]
    obtain rfl : k = 4 := by omega
    clear hk h0 h1 h2 h3
    go_wp2_with fail
    exact bodyPost_ret (v := .tuple #[.agg #[.string ⟨#[]⟩, .int .i64 0, .int .i64 0, .int .i64 0], .int .i64 3]) (by simp [results, Tryd.results6, go_sem]) rfl ⟨rfl, by repeat (first | (with_reducible exact Below.refl _ _) | (with_reducible refine Below.alloc ?_ (by simp) _) | (with_reducible refine Below.setCell ?_ (by simp) _))⟩
set_option maxHeartbeats 1000000 in
theorem impl0 (s : ByteArray) (w : World) (hL : Laid w) (e0 : ([112, 97, 114, 105, 115] == s.toList) = true) : Calls Tryd.prog 7 #[.string s] w fun e w' => e = .returned (.tuple #[.agg #[.string ⟨#[112, 97, 114, 105, 115]⟩, .int .i64 0, .int .i64 100, .int .i64 3], .int .i64 0]) ∧ Below w.heap.size w w' := by
  have HL := Lib.hid (hL.below (below_box w (.cells #[.string ⟨#[]⟩, .int .i64 0, .int .i64 0, .int .i64 0] 23)))
  have hlt : 0 < w.heap.size := hL.lt
  have c0 := hL 0 (by omega)
  have c1 := hL 1 (by omega)
  have c2 := hL 2 (by omega)
  have c3 := hL 3 (by omega)
  have c4 := hL 4 (by omega)
  have c5 := hL 5 (by omega)
  have c6 := hL 6 (by omega)
  have c7 := hL 7 (by omega)
  have c8 := hL 8 (by omega)
  have c9 := hL 9 (by omega)
  have c10 := hL 10 (by omega)
  have c11 := hL 11 (by omega)
  have c12 := hL 12 (by omega)
  have c13 := hL 13 (by omega)
  have c14 := hL 14 (by omega)
  have c15 := hL 15 (by omega)
  simp at c0 c1 c2 c3 c4 c5 c6 c7 c8 c9 c10 c11 c12 c13 c14 c15
  clear hL
  have i0 := ix0
  go_enter Tryd.func7, Tryd.ntmps7
  go_wp2_with fail
  clear c0 c1 c2 c3 c4 c5 c6 c7 c8 c9 c10 c11 c12 c13 c14 c15
  have K0 := Lib.hid (blk_new w (.cells #[.string ⟨#[]⟩, .int .i64 0, .int .i64 0, .int .i64 0] 23))
  have HB0 := Lib.hid (below_box w (.cells #[.string ⟨#[]⟩, .int .i64 0, .int .i64 0, .int .i64 0] 23))
  generalize w.alloc (.cells #[.string ⟨#[]⟩, .int .i64 0, .int .i64 0, .int .i64 0] 23) = W at K0 HB0 HL ⊢
  go_loopw [5, 7] (fun _ i wr => ∃ k : Nat, k ≤ 0 ∧ i = .int .i64 k ∧ Hid (Below W.heap.size W wr)) (fun _ i _ => 4 - (intOf i).toNat)
  case atStart => exact ⟨0, Nat.zero_le _, rfl, Lib.hid (Below.refl _ _)⟩
  case round =>
    obtain ⟨k, hk, rfl, HB⟩ := hrel
    have KB := Lib.hid (blk_keep HB.out K0.out)
    have HBB := Lib.hid (below_then HB0.out HB.out)
    have hlr := lt_of_heap KB.out
    obtain ⟨y0, y1, y2, y3⟩ := blk4 KB.out
    have f0 := blk_free KB.out 0
    have f1 := blk_free KB.out 1
    have f2 := blk_free KB.out 2
    have f3 := blk_free KB.out 3
    obtain rfl : k = 0 := by omega
    clear hk
    go_wp2_with fail
    exact bodyPost_ret (v := .tuple #[.agg #[.string ⟨#[112, 97, 114, 105, 115]⟩, .int .i64 0, .int .i64 100, .int .i64 3], .int .i64 0]) (by simp [results, Tryd.results7, go_sem, y0, y1, y2, y3, hlr]) rfl ⟨rfl, by repeat (first | (with_reducible exact HBB.out) | (with_reducible refine Below.alloc ?_ (by simp; omega) _) | (with_reducible refine Below.setCell ?_ (by simp) _))⟩
set_option maxHeartbeats 1000000 in
theorem impl1 (s : ByteArray) (w : World) (hL : Laid w) (e0 : ([112, 97, 114, 105, 115] == s.toList) = false) (e1 : ([101, 110, 103, 108, 105, 115, 104] == s.toList) = true) : Calls Tryd.prog 7 #[.string s] w fun e w' => e = .returned (.tuple #[.agg #[.string ⟨#[101, 110, 103, 108, 105, 115, 104]⟩, .int .i64 50, .int .i64 127, .int .i64 3], .int .i64 0]) ∧ Below w.heap.size w w' := by
  have HL := Lib.hid (hL.below (below_box w (.cells #[.string ⟨#[]⟩, .int .i64 0, .int .i64 0, .int .i64 0] 23)))
  have hlt : 0 < w.heap.size := hL.lt
  have c0 := hL 0 (by omega)
  have c1 := hL 1 (by omega)
  have c2 := hL 2 (by omega)
  have c3 := hL 3 (by omega)
  have c4 := hL 4 (by omega)
  have c5 := hL 5 (by omega)
  have c6 := hL 6 (by omega)
  have c7 := hL 7 (by omega)
  have c8 := hL 8 (by omega)
  have c9 := hL 9 (by omega)
  have c10 := hL 10 (by omega)
  have c11 := hL 11 (by omega)
  have c12 := hL 12 (by omega)
  have c13 := hL 13 (by omega)
  have c14 := hL 14 (by omega)
  have c15 := hL 15 (by omega)
  simp at c0 c1 c2 c3 c4 c5 c6 c7 c8 c9 c10 c11 c12 c13 c14 c15
  clear hL
  have i0 := ix0
  have i1 := ix1
  go_enter Tryd.func7, Tryd.ntmps7
  go_wp2_with fail
  clear c0 c1 c2 c3 c4 c5 c6 c7 c8 c9 c10 c11 c12 c13 c14 c15
  have K0 := Lib.hid (blk_new w (.cells #[.string ⟨#[]⟩, .int .i64 0, .int .i64 0, .int .i64 0] 23))
  have HB0 := Lib.hid (below_box w (.cells #[.string ⟨#[]⟩, .int .i64 0, .int .i64 0, .int .i64 0] 23))
  generalize w.alloc (.cells #[.string ⟨#[]⟩, .int .i64 0, .int .i64 0, .int .i64 0] 23) = W at K0 HB0 HL ⊢
  go_loopw [5, 7] (fun _ i wr => ∃ k : Nat, k ≤ 1 ∧ i = .int .i64 k ∧ Hid (Below W.heap.size W wr)) (fun _ i _ => 4 - (intOf i).toNat)
  case atStart => exact ⟨0, Nat.zero_le _, rfl, Lib.hid (Below.refl _ _)⟩
  case round =>
    obtain ⟨k, hk, rfl, HB⟩ := hrel
    have KB := Lib.hid (blk_keep HB.out K0.out)
    have HBB := Lib.hid (below_then HB0.out HB.out)
    have hlr := lt_of_heap KB.out
    obtain ⟨y0, y1, y2, y3⟩ := blk4 KB.out
    have f0 := blk_free KB.out 0
    have f1 := blk_free KB.out 1
    have f2 := blk_free KB.out 2
    have f3 := blk_free KB.out 3
    by_cases h0 : k = 0
    · subst h0
      clear hk
      go_wp2_with fail
      have HQ := Lib.hid (below_then HB.out (below_box wr (.cells #[.string ⟨#[112, 97, 114, 105, 115]⟩, .int .i64 0, .int .i64 100, .int .i64 3] 23)))
      go_roundw
      case rel => exact ⟨1, by omega, rfl, HQ⟩
      case measure => simp [intOf]
    obtain rfl : k = 1 := by omega
    clear hk h0
    go_wp2_with fail
    exact bodyPost_ret (v := .tuple #[.agg #[.string ⟨#[101, 110, 103, 108, 105, 115, 104]⟩, .int .i64 50, .int .i64 127, .int .i64 3], .int .i64 0]) (by simp [results, Tryd.results7, go_sem, y0, y1, y2, y3, hlr]) rfl ⟨rfl, by repeat (first | (with_reducible exact HBB.out) | (with_reducible refine Below.alloc ?_ (by simp; omega) _) | (with_reducible refine Below.setCell ?_ (by simp) _))⟩
set_option maxHeartbeats 1000000 in
theorem impl2 (s : ByteArray) (w : World) (hL : Laid w) (e0 : ([112, 97, 114, 105, 115] == s.toList) = false) (e1 : ([101, 110, 103, 108, 105, 115, 104] == s.toList) = false) (e2 : ([97, 109, 101, 114, 105, 99, 97, 110] == s.toList) = true) : Calls Tryd.prog 7 #[.string s] w fun e w' => e = .returned (.tuple #[.agg #[.string ⟨#[97, 109, 101, 114, 105, 99, 97, 110]⟩, .int .i64 48, .int .i64 127, .int .i64 3], .int .i64 0]) ∧ Below w.heap.size w w' := by
  have HL := Lib.hid (hL.below (below_box w (.cells #[.string ⟨#[]⟩, .int .i64 0, .int .i64 0, .int .i64 0] 23)))
  have hlt : 0 < w.heap.size := hL.lt
  have c0 := hL 0 (by omega)
  have c1 := hL 1 (by omega)
  have c2 := hL 2 (by omega)
  have c3 := hL 3 (by omega)
  have c4 := hL 4 (by omega)
  have c5 := hL 5 (by omega)
  have c6 := hL 6 (by omega)
  have c7 := hL 7 (by omega)
  have c8 := hL 8 (by omega)
  have c9 := hL 9 (by omega)
  have c10 := hL 10 (by omega)
  have c11 := hL 11 (by omega)
  have c12 := hL 12 (by omega)
  have c13 := hL 13 (by omega)
  have c14 := hL 14 (by omega)
  have c15 := hL 15 (by omega)
  simp at c0 c1 c2 c3 c4 c5 c6 c7 c8 c9 c10 c11 c12 c13 c14 c15
  clear hL
  have i0 := ix0
  have i1 := ix1
  have i2 := ix2
  go_enter Tryd.func7, Tryd.ntmps7
  go_wp2_with fail
  clear c0 c1 c2 c3 c4 c5 c6 c7 c8 c9 c10 c11 c12 c13 c14 c15
  have K0 := Lib.hid (blk_new w (.cells #[.string ⟨#[]⟩, .int .i64 0, .int .i64 0, .int .i64 0] 23))
  have HB0 := Lib.hid (below_box w (.cells #[.string ⟨#[]⟩, .int .i64 0, .int .i64 0, .int .i64 0] 23))
  generalize w.alloc (.cells #[.string ⟨#[]⟩, .int .i64 0, .int .i64 0, .int .i64 0] 23) = W at K0 HB0 HL ⊢
  go_loopw [5, 7] (fun _ i wr => ∃ k : Nat, k ≤ 2 ∧ i = .int .i64 k ∧ Hid (Below W.heap.size W wr)) (fun _ i _ => 4 - (intOf i).toNat)
  case atStart => exact ⟨0, Nat.zero_le _, rfl, Lib.hid (Below.refl _ _)⟩
  case round =>
    obtain ⟨k, hk, rfl, HB⟩ := hrel
    have KB := Lib.hid (blk_keep HB.out K0.out)
    have HBB := Lib.hid (below_then HB0.out HB.out)
    have hlr := lt_of_heap KB.out
    obtain ⟨y0, y1, y2, y3⟩ := blk4 KB.out
    have f0 := blk_free KB.out 0
    have f1 := blk_free KB.out 1
    have f2 := blk_free KB.out 2
    have f3 := blk_free KB.out 3
    by_cases h0 : k = 0
    · subst h0
      clear hk
      go_wp2_with fail
      have HQ := Lib.hid (below_then HB.out (below_box wr (.cells #[.string ⟨#[112, 97, 114, 105, 115]⟩, .int .i64 0, .int .i64 100, .int .i64 3] 23)))
      go_roundw
      case rel => exact ⟨1, by omega, rfl, HQ⟩
      case measure => simp [intOf]
    by_cases h1 : k = 1
    · subst h1
      clear hk
      go_wp2_with fail
      have HQ := Lib.hid (below_then HB.out (below_box wr (.cells #[.string ⟨#[101, 110, 103, 108, 105, 115, 104]⟩, .int .i64 50, .int .i64 127, .int .i64 3] 23)))
      go_roundw
      case rel => exact ⟨2, by omega, rfl, HQ⟩
      case measure => simp [intOf]
    obtain rfl : k = 2 := by omega
    clear hk h0 h1
    go_wp2_with fail
    exact bodyPost_ret (v := .tuple #[.agg #[.string ⟨#[97, 109, 101, 114, 105, 99, 97, 110]⟩, .int .i64 48, .int .i64 127, .int .i64 3], .int .i64 0]) (by simp [results, Tryd.results7, go_sem, y0, y1, y2, y3, hlr]) rfl ⟨rfl, by repeat (first | (with_reducible exact HBB.out) | (with_reducible refine Below.alloc ?_ (by simp; omega) _) | (with_reducible refine Below.setCell ?_ (by simp) _))⟩
set_option maxHeartbeats 1000000 in
theorem impl3 (s : ByteArray) (w : World) (hL : Laid w) (e0 : ([112, 97, 114, 105, 115] == s.toList) = false) (e1 : ([101, 110, 103, 108, 105, 115, 104] == s.toList) = false) (e2 : ([97, 109, 101, 114, 105, 99, 97, 110] == s.toList) = false) (e3 : ([109, 111, 110, 100, 111] == s.toList) = true) : Calls Tryd.prog 7 #[.string s] w fun e w' => e = .returned (.tuple #[.agg #[.string ⟨#[109, 111, 110, 100, 111]⟩, .int .i64 0, .int .i64 25, .int .i64 1], .int .i64 0]) ∧ Below w.heap.size w w' := by
  have HL := Lib.hid (hL.below (below_box w (.cells #[.string ⟨#[]⟩, .int .i64 0, .int .i64 0, .int .i64 0] 23)))
  have hlt : 0 < w.heap.size := hL.lt
  have c0 := hL 0 (by omega)
  have c1 := hL 1 (by omega)
  have c2 := hL 2 (by omega)
  have c3 := hL 3 (by omega)
  have c4 := hL 4 (by omega)
  have c5 := hL 5 (by omega)
  have c6 := hL 6 (by omega)
  have c7 := hL 7 (by omega)
  have c8 := hL 8 (by omega)
  have c9 := hL 9 (by omega)
  have c10 := hL 10 (by omega)
  have c11 := hL 11 (by omega)
  have c12 := hL 12 (by omega)
  have c13 := hL 13 (by omega)
  have c14 := hL 14 (by omega)
  have c15 := hL 15 (by omega)
  simp at c0 c1 c2 c3 c4 c5 c6 c7 c8 c9 c10 c11 c12 c13 c14 c15
  clear hL
  have i0 := ix0
  have i1 := ix1
  have i2 := ix2
  have i3 := ix3
  go_enter Tryd.func7, Tryd.ntmps7
  go_wp2_with fail
  clear c0 c1 c2 c3 c4 c5 c6 c7 c8 c9 c10 c11 c12 c13 c14 c15
  have K0 := Lib.hid (blk_new w (.cells #[.string ⟨#[]⟩, .int .i64 0, .int .i64 0, .int .i64 0] 23))
  have HB0 := Lib.hid (below_box w (.cells #[.string ⟨#[]⟩, .int .i64 0, .int .i64 0, .int .i64 0] 23))
  generalize w.alloc (.cells #[.string ⟨#[]⟩, .int .i64 0, .int .i64 0, .int .i64 0] 23) = W at K0 HB0 HL ⊢
  go_loopw [5, 7] (fun _ i wr => ∃ k : Nat, k ≤ 3 ∧ i = .int .i64 k ∧ Hid (Below W.heap.size W wr)) (fun _ i _ => 4 - (intOf i).toNat)
  case atStart => exact ⟨0, Nat.zero_le _, rfl, Lib.hid (Below.refl _ _)⟩
  case round =>
    obtain ⟨k, hk, rfl, HB⟩ := hrel
    have KB := Lib.hid (blk_keep HB.out K0.out)
    have HBB := Lib.hid (below_then HB0.out HB.out)
    have hlr := lt_of_heap KB.out
    obtain ⟨y0, y1, y2, y3⟩ := blk4 KB.out
    have f0 := blk_free KB.out 0
    have f1 := blk_free KB.out 1
    have f2 := blk_free KB.out 2
    have f3 := blk_free KB.out 3
    by_cases h0 : k = 0
    · subst h0
      clear hk
      go_wp2_with fail
      have HQ := Lib.hid (below_then HB.out (below_box wr (.cells #[.string ⟨#[112, 97, 114, 105, 115]⟩, .int .i64 0, .int .i64 100, .int .i64 3] 23)))
      go_roundw
      case rel => exact ⟨1, by omega, rfl, HQ⟩
      case measure => simp [intOf]
    by_cases h1 : k = 1
    · subst h1
      clear hk
      go_wp2_with fail
      have HQ := Lib.hid (below_then HB.out (below_box wr (.cells #[.string ⟨#[101, 110, 103, 108, 105, 115, 104]⟩, .int .i64 50, .int .i64 127, .int .i64 3] 23)))
      go_roundw
      case rel => exact ⟨2, by omega, rfl, HQ⟩
      case measure => simp [intOf]
    by_cases h2 : k = 2
    · subst h2
      clear hk
      go_wp2_with fail
      have HQ := Lib.hid (below_then HB.out (below_box wr (.cells #[.string ⟨#[97, 109, 101, 114, 105, 99, 97, 110]⟩, .int .i64 48, .int .i64 127, .int .i64 3] 23)))
      go_roundw
      case rel => exact ⟨3, by omega, rfl, HQ⟩
      case measure => simp [intOf]
    obtain rfl : k = 3 := by omega
    clear hk h0 h1 h2
    go_wp2_with fail
    exact bodyPost_ret (v := .tuple #[.agg #[.string ⟨#[109, 111, 110, 100, 111]⟩, .int .i64 0, .int .i64 25, .int .i64 1], .int .i64 0]) (by simp [results, Tryd.results7, go_sem, y0, y1, y2, y3, hlr]) rfl ⟨rfl, by repeat (first | (with_reducible exact HBB.out) | (with_reducible refine Below.alloc ?_ (by simp; omega) _) | (with_reducible refine Below.setCell ?_ (by simp) _))⟩
set_option maxHeartbeats 1000000 in
theorem impl4 (s : ByteArray) (w : World) (hL : Laid w) (e0 : ([112, 97, 114, 105, 115] == s.toList) = false) (e1 : ([101, 110, 103, 108, 105, 115, 104] == s.toList) = false) (e2 : ([97, 109, 101, 114, 105, 99, 97, 110] == s.toList) = false) (e3 : ([109, 111, 110, 100, 111] == s.toList) = false) : Calls Tryd.prog 7 #[.string s] w fun e w' => e = .returned (.tuple #[.agg #[.string ⟨#[]⟩, .int .i64 0, .int .i64 0, .int .i64 0], .int .i64 3]) ∧ Below w.heap.size w w' := by
  have HL := Lib.hid (hL.below (below_box w (.cells #[.string ⟨#[]⟩, .int .i64 0, .int .i64 0, .int .i64 0] 23)))
  have hlt : 0 < w.heap.size := hL.lt
  have c0 := hL 0 (by omega)
  have c1 := hL 1 (by omega)
  have c2 := hL 2 (by omega)
  have c3 := hL 3 (by omega)
  have c4 := hL 4 (by omega)
  have c5 := hL 5 (by omega)
  have c6 := hL 6 (by omega)
  have c7 := hL 7 (by omega)
  have c8 := hL 8 (by omega)
  have c9 := hL 9 (by omega)
  have c10 := hL 10 (by omega)
  have c11 := hL 11 (by omega)
  have c12 := hL 12 (by omega)
  have c13 := hL 13 (by omega)
  have c14 := hL 14 (by omega)
  have c15 := hL 15 (by omega)
  simp at c0 c1 c2 c3 c4 c5 c6 c7 c8 c9 c10 c11 c12 c13 c14 c15
  clear hL
  have i0 := ix0
  have i1 := ix1
  have i2 := ix2
  have i3 := ix3
  go_enter Tryd.func7, Tryd.ntmps7
  go_wp2_with fail
  clear c0 c1 c2 c3 c4 c5 c6 c7 c8 c9 c10 c11 c12 c13 c14 c15
  have K0 := Lib.hid (blk_new w (.cells #[.string ⟨#[]⟩, .int .i64 0, .int .i64 0, .int .i64 0] 23))
  have HB0 := Lib.hid (below_box w (.cells #[.string ⟨#[]⟩, .int .i64 0, .int .i64 0, .int .i64 0] 23))
  generalize w.alloc (.cells #[.string ⟨#[]⟩, .int .i64 0, .int .i64 0, .int .i64 0] 23) = W at K0 HB0 HL ⊢
  go_loopw [5, 7] (fun _ i wr => ∃ k : Nat, k ≤ 4 ∧ i = .int .i64 k ∧ Hid (Below W.heap.size W wr)) (fun _ i _ => 4 - (intOf i).toNat)
  case atStart => exact ⟨0, Nat.zero_le _, rfl, Lib.hid (Below.refl _ _)⟩
  case round =>
    obtain ⟨k, hk, rfl, HB⟩ := hrel
    have KB := Lib.hid (blk_keep HB.out K0.out)
    have HBB := Lib.hid (below_then HB0.out HB.out)
    have hlr := lt_of_heap KB.out
    obtain ⟨y0, y1, y2, y3⟩ := blk4 KB.out
    have f0 := blk_free KB.out 0
    have f1 := blk_free KB.out 1
    have f2 := blk_free KB.out 2
    have f3 := blk_free KB.out 3
    by_cases h0 : k = 0
    · subst h0
      clear hk
      go_wp2_with fail
      have HQ := Lib.hid (below_then HB.out (below_box wr (.cells #[.string ⟨#[112, 97, 114, 105, 115]⟩, .int .i64 0, .int .i64 100, .int .i64 3] 23)))
      go_roundw
      case rel => exact ⟨1, by omega, rfl, HQ⟩
      case measure => simp [intOf]
    by_cases h1 : k = 1
    · subst h1
      clear hk
      go_wp2_with fail
      have HQ := Lib.hid (below_then HB.out (below_box wr (.cells #[.string ⟨#[101, 110, 103, 108, 105, 115, 104]⟩, .int .i64 50, .int .i64 127, .int .i64 3] 23)))
      go_roundw
      case rel => exact ⟨2, by omega, rfl, HQ⟩
      case measure => simp [intOf]
    by_cases h2 : k = 2
    · subst h2
      clear hk
      go_wp2_with fail
      have HQ := Lib.hid (below_then HB.out (below_box wr (.cells #[.string ⟨#[97, 109, 101, 114, 105, 99, 97, 110]⟩, .int .i64 48, .int .i64 127, .int .i64 3] 23)))
      go_roundw
      case rel => exact ⟨3, by omega, rfl, HQ⟩
      case measure => simp [intOf]
    by_cases h3 : k = 3
    · subst h3
      clear hk
      go_wp2_with fail
      have HQ := Lib.hid (below_then HB.out (below_box wr (.cells #[.string ⟨#[109, 111, 110, 100, 111]⟩, .int .i64 0, .int .i64 25, .int .i64 1] 23)))
      go_roundw
      case rel => exact ⟨4, by omega, rfl, HQ⟩
      case measure => simp [intOf]
    obtain rfl : k = 4 := by omega
    clear hk h0 h1 h2 h3
    go_wp2_with fail
    exact bodyPost_ret (v := .tuple #[.agg #[.string ⟨#[]⟩, .int .i64 0, .int .i64 0, .int .i64 0], .int .i64 3]) (by simp [results, Tryd.results7, go_sem, y0, y1, y2, y3]) rfl ⟨rfl, by repeat (first | (with_reducible exact HBB.out) | (with_reducible refine Below.alloc ?_ (by simp; omega) _) | (with_reducible refine Below.setCell ?_ (by simp) _))⟩
theorem eq_sc (N : ByteArray) (B M D : Int) (w : World) : Calls Tryd.prog 8 #[.agg #[.string N, .int .i64 B, .int .i64 M, .int .i64 D], .agg #[.string N, .int .i64 B, .int .i64 M, .int .i64 D]] w fun e w' => e = .returned (.bool true) ∧ Below w.heap.size w w' := by
  go_enter Tryd.func8, Tryd.ntmps8
  go_wp2_with fail
  go_ret
  exact ⟨rfl, by repeat (first | exact Below.refl _ _ | refine Below.alloc ?_ (by simp) _)⟩
set_option maxHeartbeats 1000000 in
theorem core (s : ByteArray) (N : ByteArray) (B M D C : Int) (w : World) (hL : Laid w) (hs : s.size ≤ maxLen)
    (S : Hid (∀ w : World, Calls Tryd.prog 6 #[.string s] w fun e w' => e = .returned (.tuple #[.agg #[.string N, .int .i64 B, .int .i64 M, .int .i64 D], .int .i64 C]) ∧ Below w.heap.size w w'))
    (I : Hid (∀ w : World, Laid w → Calls Tryd.prog 7 #[.string s] w fun e w' => e = .returned (.tuple #[.agg #[.string N, .int .i64 B, .int .i64 M, .int .i64 D], .int .i64 C]) ∧ Below w.heap.size w w')) :
    Calls Tryd.prog 3 #[.string s] w fun e w' => e = .returned (.bool true) ∧ Below w.heap.size w w' := by
  unfold maxLen at hs
  have HT := Lib.hid hL
  clear hL
  by_cases hbig : 1048576 < s.size
  · go_enter Tryd.func3, Tryd.ntmps3
    go_wp2_with fail
    go_ret
    exact ⟨rfl, Below.refl _ _⟩
  go_enter Tryd.func3, Tryd.ntmps3
  go_wp2_with fail
  refine (S.out _).mono ?_
  rintro e w1 ⟨rfl, b1⟩
  have HT1 := Lib.hid ((HT.out.below b1).below (below_box w1 (.cells #[.string N, .int .i64 B, .int .i64 M, .int .i64 D] 23)))
  have HB1 := Lib.hid (below_then b1 (below_box w1 (.cells #[.string N, .int .i64 B, .int .i64 M, .int .i64 D] 23)))
  clear b1
  go_wp2_with fail
  refine (I.out _ HT1.out).mono ?_
  rintro e w2 ⟨rfl, b2⟩
  have KW := Lib.hid (blk_keep b2 (blk_new w1 (.cells #[.string N, .int .i64 B, .int .i64 M, .int .i64 D] 23)))
  have HB2 := Lib.hid (below_then HB1.out b2)
  clear b2
  obtain ⟨y0, y1, y2, y3⟩ := blk4 KW.out
  have hlt := lt_of_heap KW.out
  go_wp2_with fail
  refine (eq_sc _ _ _ _ _).mono ?_
  rintro e w3 ⟨rfl, b3⟩
  have HB3 := Lib.hid (below_then (below_then HB2.out (below_box _ _)) b3)
  clear b3
  go_wp2_with fail
  go_ret
  exact ⟨rfl, HB3.out⟩
theorem law (s : ByteArray) (w : World) (hL : Laid w) (hs : s.size ≤ maxLen) : Calls Tryd.prog 3 #[.string s] w fun e w' => e = .returned (.bool true) ∧ Below w.heap.size w w' := by
  cases e0 : ([112, 97, 114, 105, 115] == s.toList)
  rotate_left
  · exact core s _ _ _ _ _ w hL hs (Lib.hid fun w => spec0 s w e0) (Lib.hid fun w h => impl0 s w h e0)
  cases e1 : ([101, 110, 103, 108, 105, 115, 104] == s.toList)
  rotate_left
  · exact core s _ _ _ _ _ w hL hs (Lib.hid fun w => spec1 s w e0 e1) (Lib.hid fun w h => impl1 s w h e0 e1)
  cases e2 : ([97, 109, 101, 114, 105, 99, 97, 110] == s.toList)
  rotate_left
  · exact core s _ _ _ _ _ w hL hs (Lib.hid fun w => spec2 s w e0 e1 e2) (Lib.hid fun w h => impl2 s w h e0 e1 e2)
  cases e3 : ([109, 111, 110, 100, 111] == s.toList)
  rotate_left
  · exact core s _ _ _ _ _ w hL hs (Lib.hid fun w => spec3 s w e0 e1 e2 e3) (Lib.hid fun w h => impl3 s w h e0 e1 e2 e3)
  exact core s _ _ _ _ _ w hL hs (Lib.hid fun w => spec4 s w e0 e1 e2 e3) (Lib.hid fun w h => impl4 s w h e0 e1 e2 e3)
end Go.Proofs.YtcmjbpjeiaifoabDoor.Sn
