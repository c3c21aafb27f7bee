/- FootText: the program's, the walk of the law. -/
import Derived.Test.YtcnbnpeilkdfiaaDoorFxLib
import Derived.Test.YtcnbnpeilkdfiaaDoorStxLib
namespace Go.Proofs.YtcnbnpeilkdfiaaDoor.Fw
open Go.RowKit Ba Go.Lib Dc Ds Tb Fx Stx
set_option linter.unusedVariables false

theorem foot_tx (l b i h : Int) : tx [47] (Ft.nth l b i h) 4 = ftL l b i h := rfl
theorem nth_in {l b i h : Int} (r : Ft.ftB l b i h = true) (k : Nat) : 500 ≤ Ft.nth l b i h k ∧ Ft.nth l b i h k ≤ 5000 := by
  obtain ⟨h0, h1, h2, h3⟩ := ft_is r
  match k with
  | 0 => exact h0
  | 1 => exact h1
  | 2 => exact h2
  | k + 3 => exact h3
set_option maxRecDepth 100000 in
set_option maxHeartbeats 2000000 in
theorem impl_text (l b i h : Int) (w : World) (ht : Tab w) : Calls Tryd.prog 11 #[.agg #[.int .i64 l, .int .i64 b, .int .i64 i, .int .i64 h]] w fun e w' => e = .returned (.string (ftT l b i h)) ∧ Below w.heap.size w w' := by
  have C := Lib.hid fun w => Ft.impl_valid l b i h w
  cases r : Ft.ftB l b i h
  · have HE : Hid (ftT l b i h = ⟨#[]⟩) := Lib.hid (by unfold ftT; rw [r]; rfl)
    rw [r] at C
    clear ht
    go_enter Tryd.func11, Tryd.ntmps11
    go_wp2_with fail
    refine (C.out _).mono ?_
    rintro e w1 ⟨rfl, b1⟩
    go_wp2_with fail
    go_ret
    exact ⟨ret_str HE.out.symm, below_then (below_box _ _) b1⟩
  · have HE : Hid (ftT l b i h = ⟨(ftL l b i h).toArray⟩) := Lib.hid (by unfold ftT; rw [r]; rfl)
    have HT := Lib.hid ht
    have M := Lib.hid fun w => Ft.measures_any l b i h w
    have SL : Hid (∀ (g : Nat) (w : World), Tab w → w.heap[g]? = some (.cells #[.int .i64 l, .int .i64 b, .int .i64 i, .int .i64 h] 59 (0, 0)) → Calls Tryd.prog 38 #[.string ⟨#[47]⟩, .slice (some ⟨g, 0, none⟩) 4 4] w fun e w' => e = .returned (.string ⟨(ftL l b i h).toArray⟩) ∧ Below w.heap.size w w') := Lib.hid fun g w ht hk => by
      rw [← foot_tx]
      refine slash_any [47] rfl g 4 4 (Ft.nth l b i h) (by omega) (fun k _ => by have := nth_in r k; omega) w ht fun k hk4 => ?_
      obtain ⟨x0, x1, x2, x3⟩ := blk4 hk
      obtain rfl | rfl | rfl | rfl : k = 0 ∨ k = 1 ∨ k = 2 ∨ k = 3 := by omega
      · exact x0
      · exact x1
      · exact x2
      · exact x3
    rw [r] at C
    clear r ht
    generalize (⟨(ftL l b i h).toArray⟩ : ByteArray) = q at HE SL
    go_enter Tryd.func11, Tryd.ntmps11
    go_wp2_with fail
    refine (C.out _).mono ?_
    rintro e w1 ⟨rfl, b1⟩
    obtain ⟨hb1, k1⟩ := boxes1 b1
    obtain ⟨y0, y1, y2, y3⟩ := blk4 k1
    have HB1 := Lib.hid hb1
    clear b1 hb1 k1
    go_wp2_with fail
    refine (M.out _).mono ?_
    rintro e w2 ⟨rfl, b2⟩
    have HB2 := Lib.hid (below_then HB1.out b2)
    clear b2 y0 y1 y2 y3 HB1
    have K3 := Lib.hid (blk_new w2 (.cells #[.int .i64 l, .int .i64 b, .int .i64 i, .int .i64 h] 59))
    have HB3 := Lib.hid (below_then HB2.out (below_box w2 (.cells #[.int .i64 l, .int .i64 b, .int .i64 i, .int .i64 h] 59)))
    go_wp2_with fail
    refine (SL.out _ _ (HT.out.below HB3.out) K3.out).mono ?_
    rintro e w4 ⟨rfl, b4⟩
    have HB4 := Lib.hid (below_then HB3.out b4)
    clear b4
    go_wp2_with fail
    go_ret
    exact ⟨ret_str HE.out.symm, HB4.out⟩
end Go.Proofs.YtcnbnpeilkdfiaaDoor.Fw
