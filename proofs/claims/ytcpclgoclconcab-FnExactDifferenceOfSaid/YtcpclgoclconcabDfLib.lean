/- DifferenceOf: the spec's and the program's. -/
import Derived.Test.YtcpclgoclconcabLgImpl
import Derived.Test.YtcpclgoclconcabIsLib
import Derived.IntWalk
namespace Go.Proofs.Ytcpclgoclconcab.Df
open Go.RowKit Ft Fs Ld Lg Is

theorem two (w : World) (A B : Obj) : ((w.alloc A).alloc B).heap[w.heap.size]? = some A ∧ ((w.alloc A).alloc B).heap[w.heap.size + 1]? = some B := by
  refine ⟨?_, ?_⟩
  · rw [Below.heap_alloc _ _ _ (by simp)]; exact heap_alloc_new _ _
  · have := heap_alloc_new (w.alloc A) B
    simpa using this
theorem below2 (w : World) (A B : Obj) : Below w.heap.size w ((w.alloc A).alloc B) := ((Below.refl _ _).alloc (Nat.le_refl _) _).alloc (by simp) _
theorem ft_bounds {a : Nat → Int} (h : ftB (a 0) (a 1) (a 2) (a 3) = true) : ∀ j, j < 4 → 500 ≤ a j ∧ a j ≤ 5000 := by
  simp [ftB, inB] at h
  intro j hj
  obtain rfl | rfl | rfl | rfl : j = 0 ∨ j = 1 ∨ j = 2 ∨ j = 3 := by omega
  all_goals omega
theorem diff_wrap {a b : Nat → Int} (ha : ftB (a 0) (a 1) (a 2) (a 3) = true) (hb : ftB (b 0) (b 1) (b 2) (b 3) = true) : ∀ j, j < 4 → IntKind.i64.wrap (b j - a j) = b j - a j := fun j hj => by
  have := ft_bounds ha j hj
  have := ft_bounds hb j hj
  exact IntWalk.i64_in _ (by omega)
/-- New differences and the code OK. -/
def DiffAt (d : Nat → Int) (w : World) (e : Ending) (w' : World) : Prop :=
  ∃ g cap, e = .returned (.tuple #[.slice (some ⟨g, 0, none⟩) 4 cap, .int .i64 0]) ∧ Hid (Own w' w.heap.size (some ⟨g, 0, none⟩) 4 d) ∧ Below w.heap.size w w'

set_option maxRecDepth 100000 in
/-- The valid case of the spec's DifferenceOf: the loop that appends the differences. -/
theorem spec_diff_yes (a b : Nat → Int) (ha : ftB (a 0) (a 1) (a 2) (a 3) = true) (hb : ftB (b 0) (b 1) (b 2) (b 3) = true) (w : World) :
    Calls Try.prog 28 #[.agg #[.int .i64 (a 0), .int .i64 (a 1), .int .i64 (a 2), .int .i64 (a 3)], .agg #[.int .i64 (b 0), .int .i64 (b 1), .int .i64 (b 2), .int .i64 (b 3)]] w (DiffAt (fun j => b j - a j) w) := by
  have HD := Lib.hid (diff_wrap ha hb)
  obtain ⟨i0, hi0, hz0, hz1, hz2⟩ := info_parts info_int
  have HI := Lib.hid (And.intro hi0 (And.intro hz0 (And.intro hz1 hz2)))
  clear hi0 hz0 hz1 hz2
  have CA := Lib.hid (fun w => (foot_any (a 0) (a 1) (a 2) (a 3) w).mono fun _ _ h => by rw [ha] at h; exact h)
  have CB := Lib.hid (fun w => (foot_any (b 0) (b 1) (b 2) (b 3) w).mono fun _ _ h => by rw [hb] at h; exact h)
  clear ha hb
  go_enter Try.func28, Try.ntmps28
  go_wp2_with fail
  refine (CA.out _).mono ?_
  rintro e w1 ⟨rfl, b1⟩
  obtain ⟨ka, kb⟩ := two w (.cells #[.int .i64 (a 0), .int .i64 (a 1), .int .i64 (a 2), .int .i64 (a 3)] 25) (.cells #[.int .i64 (b 0), .int .i64 (b 1), .int .i64 (b 2), .int .i64 (b 3)] 25)
  have HB1 := Lib.hid (below_then (below2 w _ _) b1)
  have KA1 := Lib.hid (blk_keep b1 ka)
  have KB1 := Lib.hid (blk_keep b1 kb)
  clear b1 ka kb
  obtain ⟨y0, y1, y2, y3⟩ := blk4 KB1.out
  go_wp2_with fail
  refine (CB.out _).mono ?_
  rintro e w2 ⟨rfl, b2⟩
  have HB2 := Lib.hid (below_then HB1.out b2)
  have KA2 := Lib.hid (blk_keep b2 KA1.out)
  have KB2 := Lib.hid (blk_keep b2 KB1.out)
  clear b2 y0 y1 y2 y3 HB1 KA1 KB1
  obtain ⟨x0, x1, x2, x3⟩ := blk4 KA2.out
  go_wp2_with fail
  refine (four_any a _).mono ?_
  rintro e w3 ⟨ga, rfl, hga, hla, b3, hca⟩
  have HB3 := Lib.hid (below_then HB2.out b3)
  have KB3 := Lib.hid (blk_keep b3 KB2.out)
  clear x0 x1 x2 x3 b3 KA2 KB2
  obtain ⟨y0, y1, y2, y3⟩ := blk4 KB3.out
  go_wp2_with fail
  refine (four_any b _).mono ?_
  rintro e w4 ⟨gb, rfl, hgb, hlb, b4, hcb⟩
  have HB4 := Lib.hid (below_then HB3.out b4)
  have HA4 : Hid (∀ j, j < 4 → w4.cell? ⟨ga, j, none⟩ = some (.int .i64 (a j))) := Lib.hid fun j hj => (b4.cell (p := ⟨ga, j, none⟩) hla).trans (hca.out j hj)
  have hla4 : ga < w4.heap.size := by have := b4.size; omega
  have hz4 : w.heap.size ≤ w4.heap.size := HB4.out.size
  clear y0 y1 y2 y3 b4 KB3 hca hga hgb hla
  go_wp2_with fail
  have HM : Hid (∀ k, upto (fun j => b j - a j) (k + 1) = upto (fun j => b j - a j) k ++ [.int .i64 (b k - a k)]) := Lib.hid fun k => upto_snoc _ k
  have HM0 : Hid (upto (fun j => b j - a j) 0 = []) := Lib.hid rfl
  have HM4 : Hid (∀ j, j < 4 → (upto (fun j => b j - a j) 4)[j]? = some (.int .i64 (b j - a j))) := Lib.hid fun j hj => upto_get _ hj
  generalize upto (fun j => b j - a j) = M at HM HM0 HM4
  go_loopw [8, 9] (fun o n wr => ∃ (k : Nat) (v : Value), k ≤ 4 ∧ v = o ∧ n = .int .i64 k ∧ wr.ownsRow w4.heap.size 2 1 v k (M k) ∧ Below w4.heap.size w4 wr) (fun _ n _ => 4 - (intOf n).toNat)
  case atStart => exact ⟨0, _, by omega, rfl, rfl, HM0.out ▸ World.ownsRow_made w4 #[] 0 (Nat.le_refl _) (by simp [maxLen]) rfl, below_box _ _⟩
  case round =>
    obtain ⟨k, v, hk, rfl, rfl, hown, hbel⟩ := hrel
    have HB := Lib.hid hbel
    have hsz := hbel.size
    by_cases hlt : k < 4
    · have x0 : wr.cell? ⟨ga, k, none⟩ = some (.int .i64 (a k)) := (hbel.cell (p := ⟨ga, k, none⟩) hla4).trans (HA4.out k hlt)
      have y0 : wr.cell? ⟨gb, k, none⟩ = some (.int .i64 (b k)) := (hbel.cell (p := ⟨gb, k, none⟩) hlb).trans (hcb.out k hlt)
      have na := own_ne hown hla4
      have nb := own_ne hown hlb
      have HO := Lib.hid hown
      have hwr := HD.out k hlt
      clear hbel hown
      have e0 : (0 : Int) ≤ (k : Int) := Int.natCast_nonneg _
      have e1 : (k : Int) < 4 := by omega
      go_wp2_with fail
      go_region_held3 (fun w' => w'.cell? ⟨ga, k, none⟩ = some (.int .i64 (a k)) ∧ w'.cell? ⟨gb, k, none⟩ = some (.int .i64 (b k)))
        (first
          | go_keep
          | (go_split_ands
             refine ⟨?_, ?_⟩
             · (rw [hgrow.cell_far _ (by simp; omega) (Ne.symm na)]; assumption)
             · (rw [hgrow.cell_far _ (by simp; omega) (Ne.symm nb)]; assumption)))
        (first
          | (refine step_append_lies _ (by rfl) _ _ _ (by rfl) w4.heap.size 2 i0 _ 1 8 Try.underlying33 HI.out.1 HI.out.2.1 HI.out.2.2.1 HI.out.2.2.2 rfl (by omega) v k (M k) (by rfl) ((HO.out.alloc _).drew)
              ⟨wr.heap.size, 0, none⟩ 1 1 [.int .i64 (b k - a k)] (by rfl) (by rfl) (World.news_of_block (cs := #[.int .i64 (b k - a k)]) (t := 2) (fr := (0, 0)) (heap_alloc_new wr _)) (by simp [Value.oneCell'])
              (by omega) (by unfold maxLen; omega) (by omega) (by simp; omega) (wr.heap.size + 1) (by simp) ?_; intro gg cap w5 hown1 hgrow hat hlt5))
      all_goals
        have HQ : Hid (Below w4.heap.size w4 w5) := Lib.hid ((((HB.out.alloc hsz _).drew)).grown hgrow (by simp; omega) fun g hg => (HO.out.lt g hg).1)
        have hown2 : w5.ownsRow w4.heap.size 2 1 (.slice (some ⟨gg, 0, none⟩) (k + 1) cap) (k + 1) (M (k + 1)) := by rw [HM.out k]; exact hown1
        have HO2 := Lib.hid hown2
        clear hgrow hat hlt5 hown1 hown2 x0 y0 na nb hwr
        go_wp2_with fail
        go_roundw
        case rel => exact ⟨k + 1, _, by omega, rfl, by go_num, HO2.out, HQ.out⟩
        case measure => simp [intOf]; omega
    · obtain rfl : k = 4 := by omega
      obtain ⟨g, cap, rfl, hge, hlg⟩ := hown.form (by omega)
      have hfin : DiffAt (fun j => b j - a j) w (.returned (.tuple #[.slice (some ⟨g, 0, none⟩) 4 cap, .int .i64 0])) wr :=
        ⟨g, cap, rfl, Lib.hid fun _ => ⟨g, 0, rfl, by have := (hown.lt g rfl).1; omega, hlg, fun j hj => by rw [Nat.zero_add]; exact (hown.cellAt j (by omega)).trans (HM4.out j hj), fun i => hown.frozenAt i⟩, below_then HB4.out hbel⟩
      have HF := Lib.hid hfin
      clear hfin hown hbel HB
      go_wp2_with fail
      go_ret2
      exact HF.out
end Go.Proofs.Ytcpclgoclconcab.Df
