/- FootText: the spec's text. -/
import Derived.Test.YtggbdpamjjgakabDoorTbLib
import Derived.Test.YtggbdpamjjgakabDoorFtLib
import Derived.OpenShut
import Derived.Lib.ItoaLen
import Derived.Deep.RegionHeld3
import Derived.RegionTactic
namespace Go.Proofs.YtggbdpamjjgakabDoor.Fx
open Go.RowKit Ba Go.Lib Dc Ds Tb
set_option linter.unusedVariables false

theorem keep_of {w2 w' : World} {g i : Nat} {v : Value} (hb : Below w2.heap.size w2 w') (hg : g < w2.heap.size) (h : w2.cell? ⟨g, i, none⟩ = some v) : w'.cell? ⟨g, i, none⟩ = some v := (hb.cell (p := ⟨g, i, none⟩) hg).trans h
/-- The text of a foot's measures. -/
def ftL (l b i h : Int) : List UInt8 := itoa l ++ [47] ++ itoa b ++ [47] ++ itoa i ++ [47] ++ itoa h
def ftT (l b i h : Int) : ByteArray := if Ft.ftB l b i h then ⟨(ftL l b i h).toArray⟩ else ⟨#[]⟩
theorem app_eq (a b : List UInt8) : (⟨a.toArray⟩ ++ ⟨b.toArray⟩ : ByteArray) = ⟨(a ++ b).toArray⟩ := by
  apply ByteArray.ext
  simp
theorem len_le (n : Int) (h0 : 500 ≤ n) (h1 : n ≤ 5000) : (itoa n).length ≤ 21 := itoa_length_le n (by omega) (by omega)
theorem ft_is {l b i h : Int} (r : Ft.ftB l b i h = true) : (500 ≤ l ∧ l ≤ 5000) ∧ (500 ≤ b ∧ b ≤ 5000) ∧ (500 ≤ i ∧ i ≤ 5000) ∧ (500 ≤ h ∧ h ≤ 5000) := by
  unfold Ft.ftB Ft.inB at r
  simpa using r
set_option maxRecDepth 100000 in
set_option maxHeartbeats 2000000 in
theorem text_any (l b i h : Int) (r : Ft.ftB l b i h = true) (w : World) : Calls Tryd.prog 42 #[.agg #[.int .i64 l, .int .i64 b, .int .i64 i, .int .i64 h]] w fun e w' => e = .returned (.string ⟨(ftL l b i h).toArray⟩) ∧ Below w.heap.size w w' := by
  obtain ⟨⟨l0, l1⟩, ⟨b0, b1⟩, ⟨i0, i1⟩, ⟨h0, h1⟩⟩ := ft_is r
  have D0 := Lib.hid fun w => dec_any l (by omega) (by omega) w
  have D1 := Lib.hid fun w => dec_any b (by omega) (by omega) w
  have D2 := Lib.hid fun w => dec_any i (by omega) (by omega) w
  have D3 := Lib.hid fun w => dec_any h (by omega) (by omega) w
  have z0 := len_le l l0 l1
  have z1 := len_le b b0 b1
  have z2 := len_le i i0 i1
  have z3 := len_le h h0 h1
  have HE : Hid ((⟨(ftL l b i h).toArray⟩ : ByteArray) = ⟨(itoa l).toArray⟩ ++ ⟨#[47]⟩ ++ ⟨(itoa b).toArray⟩ ++ ⟨#[47]⟩ ++ ⟨(itoa i).toArray⟩ ++ ⟨#[47]⟩ ++ ⟨(itoa h).toArray⟩) := Lib.hid (by
    rw [show (⟨#[47]⟩ : ByteArray) = ⟨([47] : List UInt8).toArray⟩ from rfl]
    simp only [app_eq]
    rfl)
  have z0' : (⟨(itoa l).toArray⟩ : ByteArray).size ≤ 21 := z0
  have z1' : (⟨(itoa b).toArray⟩ : ByteArray).size ≤ 21 := z1
  have z2' : (⟨(itoa i).toArray⟩ : ByteArray).size ≤ 21 := z2
  have z3' : (⟨(itoa h).toArray⟩ : ByteArray).size ≤ 21 := z3
  clear z0 z1 z2 z3
  generalize (⟨(ftL l b i h).toArray⟩ : ByteArray) = R at HE ⊢
  generalize (⟨(itoa l).toArray⟩ : ByteArray) = s0 at D0 z0' HE
  generalize (⟨(itoa b).toArray⟩ : ByteArray) = s1 at D1 z1' HE
  generalize (⟨(itoa i).toArray⟩ : ByteArray) = s2 at D2 z2' HE
  generalize (⟨(itoa h).toArray⟩ : ByteArray) = s3 at D3 z3' HE
  have n0 : ¬ 9223372036854775807 < s0.size + 1 := by omega
  have m0 : ¬ 9223372036854775807 ≤ s0.size := by omega
  have n1 : ¬ 9223372036854775807 < s0.size + 1 + s1.size := by omega
  have n2 : ¬ 9223372036854775807 < s0.size + 1 + s1.size + 1 := by omega
  have m2 : ¬ 9223372036854775807 ≤ s0.size + 1 + s1.size := by omega
  have n3 : ¬ 9223372036854775807 < s0.size + 1 + s1.size + 1 + s2.size := by omega
  have n4 : ¬ 9223372036854775807 < s0.size + 1 + s1.size + 1 + s2.size + 1 := by omega
  have m4 : ¬ 9223372036854775807 ≤ s0.size + 1 + s1.size + 1 + s2.size := by omega
  have n5 : ¬ 9223372036854775807 < s0.size + 1 + s1.size + 1 + s2.size + 1 + s3.size := by omega
  clear l0 l1 b0 b1 i0 i1 h0 h1 r
  go_enter Tryd.func42, Tryd.ntmps42
  go_wp2_with fail
  have KT := Lib.hid (blk_new w (.cells #[.int .i64 l, .int .i64 b, .int .i64 i, .int .i64 h] 31))
  have BT := Lib.hid (below_box w (.cells #[.int .i64 l, .int .i64 b, .int .i64 i, .int .i64 h] 31))
  generalize w.alloc (.cells #[.int .i64 l, .int .i64 b, .int .i64 i, .int .i64 h] 31) = W1 at KT BT ⊢
  obtain ⟨t0, t1, t2, t3⟩ := blk4 KT.out
  have lt1 := Ba.lt_of_heap KT.out
  go_region_held3 (fun w' => w'.cell? ⟨w.heap.size, 0, none⟩ = some (.int .i64 l) ∧ w'.cell? ⟨w.heap.size, 1, none⟩ = some (.int .i64 b) ∧ w'.cell? ⟨w.heap.size, 2, none⟩ = some (.int .i64 i) ∧ w'.cell? ⟨w.heap.size, 3, none⟩ = some (.int .i64 h))
    (first | (refine ⟨?_, ?_, ?_, ?_⟩ <;> (refine keep_of (w2 := W1) ?_ (by omega) (by assumption); (repeat (first | (with_reducible exact Below.refl _ _) | (with_reducible exact B1) | (with_reducible refine Below.drew ?_))))))
    (first | (go_at_call 61; (with_reducible refine (D0.out _).mono ?_); rintro e v1 ⟨rfl, b1⟩; have B1 := below_then (w0 := W1) ?_ b1; rotate_left; (focus (repeat (first | (with_reducible exact Below.refl _ _) | (with_reducible exact B1) | (with_reducible refine Below.drew ?_)))); clear b1; have q1 := B1.size)
            | (go_at_call 61; (with_reducible refine (D1.out _).mono ?_); rintro e v1 ⟨rfl, b1⟩; have B1 := below_then (w0 := W1) ?_ b1; rotate_left; (focus (repeat (first | (with_reducible exact Below.refl _ _) | (with_reducible exact B1) | (with_reducible refine Below.drew ?_)))); clear b1; have q1 := B1.size)
            | (go_at_call 61; (with_reducible refine (D2.out _).mono ?_); rintro e v1 ⟨rfl, b1⟩; have B1 := below_then (w0 := W1) ?_ b1; rotate_left; (focus (repeat (first | (with_reducible exact Below.refl _ _) | (with_reducible exact B1) | (with_reducible refine Below.drew ?_)))); clear b1; have q1 := B1.size)
            | (go_at_call 61; (with_reducible refine (D3.out _).mono ?_); rintro e v1 ⟨rfl, b1⟩; have B1 := below_then (w0 := W1) ?_ b1; rotate_left; (focus (repeat (first | (with_reducible exact Below.refl _ _) | (with_reducible exact B1) | (with_reducible refine Below.drew ?_)))); clear b1; have q1 := B1.size))
  go_wp2_with fail
  go_ret
  exact ⟨ret_str HE.out.symm, below_then BT.out B1⟩
theorem spec_text (l b i h : Int) (w : World) : Calls Tryd.prog 15 #[.agg #[.int .i64 l, .int .i64 b, .int .i64 i, .int .i64 h]] w fun e w' => e = .returned (.string (ftT l b i h)) ∧ Below w.heap.size w w' := by
  have C := Lib.hid fun w => Ft.foot_any l b i h w
  cases r : Ft.ftB l b i h
  · have HE : Hid (ftT l b i h = ⟨#[]⟩) := Lib.hid (by unfold ftT; rw [r]; rfl)
    rw [r] at C
    go_enter Tryd.func15, Tryd.ntmps15
    go_wp2_with fail
    refine (C.out _).mono ?_
    rintro e w1 ⟨rfl, b1⟩
    go_wp2_with fail
    go_ret
    exact ⟨ret_str HE.out.symm, below_then (below_box _ _) b1⟩
  · have HE : Hid (ftT l b i h = ⟨(ftL l b i h).toArray⟩) := Lib.hid (by unfold ftT; rw [r]; rfl)
    have T := Lib.hid fun w => text_any l b i h r w
    rw [r] at C
    clear r
    generalize (⟨(ftL l b i h).toArray⟩ : ByteArray) = R at HE T
    go_enter Tryd.func15, Tryd.ntmps15
    go_wp2_with fail
    refine (C.out _).mono ?_
    rintro e w1 ⟨rfl, b1⟩
    obtain ⟨hb1, k1⟩ := boxes1 b1
    obtain ⟨y0, y1, y2, y3⟩ := blk4 k1
    go_wp2_with fail
    refine (T.out _).mono ?_
    rintro e w2 ⟨rfl, b2⟩
    have HB := Lib.hid (below_then hb1 b2)
    go_wp2_with fail
    go_ret
    exact ⟨ret_str HE.out.symm, HB.out⟩
end Go.Proofs.YtggbdpamjjgakabDoor.Fx
