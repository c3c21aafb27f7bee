/- The walk of the law FnExactConvertHalf. -/
import Derived.Test.YtggbdpamjjgakabCvLib
namespace Go.Proofs.Ytggbdpamjjgakab.Cv1
open Go.RowKit Ba Sc Sr Cv
set_option linter.unusedVariables false

set_option maxHeartbeats 4000000 in
set_option maxRecDepth 100000 in
/-- The law: both say the same. -/
theorem core (s : ByteArray) (b n d : Int) (s' : ByteArray) (b' n' d' : Int) (half : Int) (w : World) (hs : s.size ≤ maxLen) (hs' : s'.size ≤ maxLen) : Calls Try.prog 7 #[.agg #[.string s, .int .i64 b, .int .i64 n, .int .i64 d], .int .i64 half, .agg #[.string s', .int .i64 b', .int .i64 n', .int .i64 d']] w fun e w' => e = .returned (.bool true) ∧ Below w.heap.size w w' := by
  have h1 := hs
  have h2 := hs'
  unfold maxLen at h1 h2
  by_cases hbig : 1048576 < s.size
  · have Z := Lib.hid fun w => size_no s b n d 1048576 (by omega) (by omega) (by omega) (by omega) w
    clear hs hs' h1 h2 hbig
    go_enter Try.func7, Try.ntmps7
    go_wp2_with fail
    refine (Z.out _).mono ?_
    rintro e w1 ⟨rfl, b1⟩
    obtain ⟨hb1, k1, r1⟩ := boxes2 b1
    have HB1 := Lib.hid hb1
    have KA1 := Lib.hid k1
    have KB1 := Lib.hid r1
    clear b1 hb1 k1 r1
    go_wp2_with fail
    go_ret
    exact ⟨rfl, HB1.out⟩
  have Z := Lib.hid fun w => size_yes s b n d 1048576 (by omega) (by omega) w
  have hle : (0 : Int) ≤ 1048576 - (s.size : Int) := by omega
  by_cases hbig' : 1048576 - (s.size : Int) < s'.size
  · have Z' := Lib.hid fun w => size_no s' b' n' d' (1048576 - (s.size : Int)) (by omega) (by omega) (by omega) (by omega) w
    clear hs hs' h1 h2 hbig hbig'
    go_enter Try.func7, Try.ntmps7
    go_wp2_with fail
    refine (Z.out _).mono ?_
    rintro e w1 ⟨rfl, b1⟩
    obtain ⟨hb1, k1, r1⟩ := boxes2 b1
    have HB1 := Lib.hid hb1
    have KA1 := Lib.hid k1
    have KB1 := Lib.hid r1
    clear b1 hb1 k1 r1
    obtain ⟨y0, y1, y2, y3⟩ := blk4 KB1.out
    go_wp2_with fail
    refine (Z'.out _).mono ?_
    rintro e w2 ⟨rfl, b2⟩
    have HB2 := Lib.hid (below_then HB1.out b2)
    clear b2 y0 y1 y2 y3
    go_wp2_with fail
    go_ret
    exact ⟨rfl, HB2.out⟩
  have Z' := Lib.hid fun w => size_yes s' b' n' d' (1048576 - (s.size : Int)) (by omega) (by omega) w
  have hle' : (0 : Int) ≤ 1048576 - (s.size : Int) - (s'.size : Int) := by omega
  have C := Lib.hid fun w => spec_all s b n d half s' b' n' d' hs hs' w
  have I := Lib.hid fun w => impl_all s b n d half s' b' n' d' hs hs' w
  clear hs hs' h1 h2 hbig hbig'
  generalize cvV s b n d half s' b' n' d' = r0 at C I
  generalize cvC s b n d half s' b' n' d' = r1 at C I
  go_enter Try.func7, Try.ntmps7
  go_wp2_with fail
  refine (Z.out _).mono ?_
  rintro e w1 ⟨rfl, b1⟩
  obtain ⟨hb1, k1, r1⟩ := boxes2 b1
  have HB1 := Lib.hid hb1
  have KA1 := Lib.hid k1
  have KB1 := Lib.hid r1
  clear b1 hb1 k1 r1
  obtain ⟨y0, y1, y2, y3⟩ := blk4 KB1.out
  go_wp2_with fail
  refine (Z'.out _).mono ?_
  rintro e w2 ⟨rfl, b2⟩
  have HB2 := Lib.hid (below_then HB1.out b2)
  have KA2 := Lib.hid (blk_keep b2 KA1.out)
  have KB2 := Lib.hid (blk_keep b2 KB1.out)
  clear b2 y0 y1 y2 y3 HB1 KA1 KB1
  have la := lt_of_heap KA2.out
  have lb := lt_of_heap KB2.out
  obtain ⟨x0, x1, x2, x3⟩ := blk4 KA2.out
  obtain ⟨y0, y1, y2, y3⟩ := blk4 KB2.out
  go_wp2_with fail
  go_region_held3 (fun w' => w'.cell? ⟨w.heap.size, 0, none⟩ = some (.string s) ∧ w'.cell? ⟨w.heap.size, 1, none⟩ = some (.int .i64 b) ∧ w'.cell? ⟨w.heap.size, 2, none⟩ = some (.int .i64 n) ∧ w'.cell? ⟨w.heap.size, 3, none⟩ = some (.int .i64 d) ∧ w'.cell? ⟨w.heap.size + 1, 0, none⟩ = some (.string s') ∧ w'.cell? ⟨w.heap.size + 1, 1, none⟩ = some (.int .i64 b') ∧ w'.cell? ⟨w.heap.size + 1, 2, none⟩ = some (.int .i64 n') ∧ w'.cell? ⟨w.heap.size + 1, 3, none⟩ = some (.int .i64 d'))
    (first | (refine ⟨?_, ?_, ?_, ?_, ?_, ?_, ?_, ?_⟩ <;> (refine keep_of (w2 := w2) ?_ (by omega) (by assumption); (repeat (first | (with_reducible exact Below.refl _ _) | (with_reducible exact B1) | (with_reducible refine Below.drew ?_))))))
    (first | (go_at_call 31; (with_reducible refine (C.out _).mono ?_); rintro e v1 ⟨rfl, b1⟩; have B1 := below_then (w0 := w2) ?_ b1; rotate_left; (focus (repeat (first | (with_reducible exact Below.refl _ _) | (with_reducible exact B1) | (with_reducible refine Below.drew ?_)))); clear b1; have q1 := B1.size) | (go_at_call 27; (with_reducible refine (to_any _ _ _ _ _).mono ?_); rintro e v1 ⟨rfl, b1⟩; have B1 := below_then (w0 := w2) ?_ b1; rotate_left; (focus (repeat (first | (with_reducible exact Below.refl _ _) | (with_reducible exact B1) | (with_reducible refine Below.drew ?_)))); clear b1; have q1 := B1.size))
  have HB3 := Lib.hid (below_then HB2.out B1)
  have KA3 := Lib.hid (blk_keep B1 KA2.out)
  have KB3 := Lib.hid (blk_keep B1 KB2.out)
  clear x0 x1 x2 x3 y0 y1 y2 y3 la lb q1 B1 HB2 KA2 KB2
  obtain ⟨w3, hw3⟩ : ∃ w3 : World, w3 = v1 := ⟨_, rfl⟩
  subst hw3
  have la := lt_of_heap KA3.out
  have lb := lt_of_heap KB3.out
  obtain ⟨x0, x1, x2, x3⟩ := blk4 KA3.out
  obtain ⟨y0, y1, y2, y3⟩ := blk4 KB3.out
  go_wp2_with fail
  go_region_held3 (fun w' => w'.cell? ⟨w.heap.size, 0, none⟩ = some (.string s) ∧ w'.cell? ⟨w.heap.size, 1, none⟩ = some (.int .i64 b) ∧ w'.cell? ⟨w.heap.size, 2, none⟩ = some (.int .i64 n) ∧ w'.cell? ⟨w.heap.size, 3, none⟩ = some (.int .i64 d) ∧ w'.cell? ⟨w.heap.size + 1, 0, none⟩ = some (.string s') ∧ w'.cell? ⟨w.heap.size + 1, 1, none⟩ = some (.int .i64 b') ∧ w'.cell? ⟨w.heap.size + 1, 2, none⟩ = some (.int .i64 n') ∧ w'.cell? ⟨w.heap.size + 1, 3, none⟩ = some (.int .i64 d'))
    (first | (refine ⟨?_, ?_, ?_, ?_, ?_, ?_, ?_, ?_⟩ <;> (refine keep_of (w2 := w3) ?_ (by omega) (by assumption); (repeat (first | (with_reducible exact Below.refl _ _) | (with_reducible exact B1) | (with_reducible refine Below.drew ?_))))))
    (first | (go_at_call 32; (with_reducible refine (I.out _).mono ?_); rintro e v1 ⟨rfl, b1⟩; have B1 := below_then (w0 := w3) ?_ b1; rotate_left; (focus (repeat (first | (with_reducible exact Below.refl _ _) | (with_reducible exact B1) | (with_reducible refine Below.drew ?_)))); clear b1; have q1 := B1.size) | (go_at_call 27; (with_reducible refine (to_any _ _ _ _ _).mono ?_); rintro e v1 ⟨rfl, b1⟩; have B1 := below_then (w0 := w3) ?_ b1; rotate_left; (focus (repeat (first | (with_reducible exact Below.refl _ _) | (with_reducible exact B1) | (with_reducible refine Below.drew ?_)))); clear b1; have q1 := B1.size))
  have HB4 := Lib.hid (below_then HB3.out B1)
  clear x0 x1 x2 x3 y0 y1 y2 y3 la lb q1 B1 HB3 KA3 KB3
  go_wp2_with fail
  go_ret
  exact ⟨rfl, HB4.out⟩
theorem law (s : ByteArray) (b n d : Int) (half : Int) (s' : ByteArray) (b' n' d' : Int) (w : World) (hs : s.size ≤ maxLen) (_ : (Lit.int .i64 b).wf = true) (_ : (Lit.int .i64 n).wf = true) (_ : (Lit.int .i64 d).wf = true) (_ : (Lit.int .i64 half).wf = true) (hs' : s'.size ≤ maxLen) (_ : (Lit.int .i64 b').wf = true) (_ : (Lit.int .i64 n').wf = true) (_ : (Lit.int .i64 d').wf = true) : Calls Try.prog 7 #[.agg #[.string s, .int .i64 b, .int .i64 n, .int .i64 d], .int .i64 half, .agg #[.string s', .int .i64 b', .int .i64 n', .int .i64 d']] w fun e w' => e = .returned (.bool true) ∧ Below w.heap.size w w' :=
  core s b n d s' b' n' d' half w hs hs'
end Go.Proofs.Ytggbdpamjjgakab.Cv1
