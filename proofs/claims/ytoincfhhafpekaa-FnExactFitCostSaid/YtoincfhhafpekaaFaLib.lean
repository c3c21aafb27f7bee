/- Whether a foot is far from another one: the spec's and the program's. -/
import Derived.Test.YtoincfhhafpekaaFcLib
import Derived.Test.YtoincfhhafpekaaQbLib
import Derived.Deep.DeepCutAuto
import Derived.Deep.DeepMust
namespace Go.Proofs.Ytoincfhhafpekaa.Fa
open Go.RowKit Ft Fs Ld Is Fc Qb

/-- How far two numbers are apart. -/
def gap (a b : Int) : Int := if a < b then b - a else a - b
theorem dist_any (a b : Int) (ha : -100000 ≤ a ∧ a ≤ 100000) (hb : -100000 ≤ b ∧ b ≤ 100000) (w : World) : Calls Try.prog 107 #[.int .i64 a, .int .i64 b] w fun e w' => e = .returned (.int .i64 (gap a b)) ∧ w = w' := by
  obtain ⟨a1, a2⟩ := ha
  obtain ⟨b1, b2⟩ := hb
  by_cases h : a < b
  · have HG := Lib.hid (show gap a b = b - a from if_pos h)
    have h2 : ¬ b < a := by omega
    go_enter Try.func107, Try.ntmps107
    go_wp2
    go_ret
    exact ⟨by rw [HG.out]; rfl, rfl⟩
  · have HG := Lib.hid (show gap a b = a - b from if_neg h)
    by_cases h2 : b < a
    · go_enter Try.func107, Try.ntmps107
      go_wp2
      go_ret
      exact ⟨by rw [HG.out]; rfl, rfl⟩
    · obtain rfl : a = b := by omega
      have HZ := Lib.hid (show gap a a = 0 by rw [HG.out]; omega)
      go_enter Try.func107, Try.ntmps107
      go_wp2
      go_ret
      exact ⟨by rw [HZ.out]; rfl, rfl⟩
theorem size_any (a b : Int) (ha : -100000 ≤ a ∧ a ≤ 100000) (hb : -100000 ≤ b ∧ b ≤ 100000) (w : World) : Calls Try.prog 105 #[.int .i64 (a - b)] w fun e w' => e = .returned (.int .i64 (gap a b)) ∧ w = w' := by
  obtain ⟨a1, a2⟩ := ha
  obtain ⟨b1, b2⟩ := hb
  by_cases h : a < b
  · have HG := Lib.hid (show gap a b = -(a - b) by unfold gap; rw [if_pos h]; omega)
    have h2 : a - b < 0 := by omega
    have h3 : -(a - b) ≤ 200000 := by omega
    have h4 : -200000 ≤ a - b := by omega
    generalize a - b = d at HG h2 h3 h4 ⊢
    go_enter Try.func105, Try.ntmps105
    go_wp2
    go_ret
    exact ⟨by rw [HG.out]; rfl, rfl⟩
  · have HG := Lib.hid (show gap a b = a - b from if_neg h)
    have h2 : ¬ a - b < 0 := by omega
    generalize a - b = d at HG h2 ⊢
    go_enter Try.func105, Try.ntmps105
    go_wp2
    go_ret
    exact ⟨by rw [HG.out]; rfl, rfl⟩
open Classical in
/-- Foot a is far from foot b. -/
noncomputable def farB (a b : Nat → Int) (most : Int) : Bool := decide (∃ j, j < 4 ∧ most < gap (a j) (b j))
theorem far_yes {a b : Nat → Int} {most : Int} {k : Nat} (hk : k < 4) (h : most < gap (a k) (b k)) : farB a b most = true := by
  simp only [farB, decide_eq_true_eq]
  exact ⟨k, hk, h⟩
theorem far_no {a b : Nat → Int} {most : Int} (h : ∀ j, j < 4 → gap (a j) (b j) ≤ most) : farB a b most = false := by
  simp only [farB, decide_eq_false_iff_not]
  exact fun ⟨j, hj, hm⟩ => by have := h j hj; omega
/-- The numbers of a foot lie in a range in which nothing overflows. -/
def Mild (a : Nat → Int) : Prop := ∀ j, j < 4 → -100000 ≤ a j ∧ a j ≤ 100000
theorem nth_at (f : Nat → Int) {k : Nat} (hk : k < 4) : nth (f 0) (f 1) (f 2) (f 3) k = f k := by
  obtain rfl | rfl | rfl | rfl : k = 0 ∨ k = 1 ∨ k = 2 ∨ k = 3 := by omega
  all_goals rfl
theorem none_yet {a b : Nat → Int} {most : Int} {k : Nat} (h : ∀ j, j < k → gap (a j) (b j) ≤ most) (hk : gap (a k) (b k) ≤ most) : ∀ j, j < k + 1 → gap (a j) (b j) ≤ most := fun j hj => by
  by_cases e : j = k
  · rw [e]; exact hk
  · exact h j (by omega)

theorem keep_of {w2 W : World} {g o : Nat} {v : Value} (hb : Below w2.heap.size w2 W) (hg : g < w2.heap.size) (h : w2.cell? ⟨g, o, none⟩ = some v) : W.cell? ⟨g, o, none⟩ = some v := (hb.cell (p := ⟨g, o, none⟩) hg).trans h
/-- The measures, with the very world that the call leaves. -/
theorem measures_exact (l b i h : Int) (w : World) : Calls Try.prog 106 #[.agg #[.int .i64 l, .int .i64 b, .int .i64 i, .int .i64 h]] w fun e w' => e = .returned (.agg #[.int .i64 l, .int .i64 b, .int .i64 i, .int .i64 h]) ∧ (w.alloc (.cells #[.int .i64 l, .int .i64 b, .int .i64 i, .int .i64 h] 25)).alloc (.cells #[.int .i64 l, .int .i64 b, .int .i64 i, .int .i64 h] 119) = w' := by
  go_enter Try.func106, Try.ntmps106
  go_wp2
  exact bodyPost_ret (v := .agg #[.int .i64 l, .int .i64 b, .int .i64 i, .int .i64 h]) (by simp [results, Try.results106, go_sem]) rfl ⟨rfl, rfl⟩
theorem two (w : World) (A B : Obj) : ((w.alloc A).alloc B).heap[w.heap.size]? = some A ∧ ((w.alloc A).alloc B).heap[w.heap.size + 1]? = some B := by
  refine ⟨?_, ?_⟩
  · rw [Below.heap_alloc _ _ _ (by simp)]; exact heap_alloc_new _ _
  · have := heap_alloc_new (w.alloc A) B
    simpa using this
theorem below2 (w : World) (A B : Obj) : Below w.heap.size w ((w.alloc A).alloc B) := ((Below.refl _ _).alloc (Nat.le_refl _) _).alloc (by simp) _

set_option maxRecDepth 100000 in
theorem spec_far (a b : Nat → Int) (most : Int) (ha : Mild a) (hb : Mild b) (w : World) :
    Calls Try.prog 64 #[.agg #[.int .i64 (a 0), .int .i64 (a 1), .int .i64 (a 2), .int .i64 (a 3)], .agg #[.int .i64 (b 0), .int .i64 (b 1), .int .i64 (b 2), .int .i64 (b 3)], .int .i64 most] w
      fun e w' => e = .returned (.bool (farB a b most)) ∧ Below w.heap.size w w' := by
  have MA := Lib.hid ha
  have MB := Lib.hid hb
  clear ha hb
  have HN := Lib.hid (fun k (hk : k < 4) h => far_yes (a := a) (b := b) (most := most) hk h)
  have HF := Lib.hid (fun h => far_no (a := a) (b := b) (most := most) h)
  generalize farB a b most = r at HN HF ⊢
  obtain ⟨ka, kb⟩ := two w (.cells #[.int .i64 (a 0), .int .i64 (a 1), .int .i64 (a 2), .int .i64 (a 3)] 25) (.cells #[.int .i64 (b 0), .int .i64 (b 1), .int .i64 (b 2), .int .i64 (b 3)] 25)
  have HW := Lib.hid (below2 w (.cells #[.int .i64 (a 0), .int .i64 (a 1), .int .i64 (a 2), .int .i64 (a 3)] 25) (.cells #[.int .i64 (b 0), .int .i64 (b 1), .int .i64 (b 2), .int .i64 (b 3)] 25))
  have KB := Lib.hid kb
  clear ka kb
  go_enter Try.func64, Try.ntmps64
  go_wp2_with fail
  refine (four_any a _).mono ?_
  rintro e w3 ⟨ga, rfl, hga, hla, b3, hca⟩
  have HB3 := Lib.hid (below_then HW.out b3)
  have KB3 := Lib.hid (blk_keep b3 KB.out)
  clear b3 KB
  obtain ⟨y0, y1, y2, y3⟩ := blk4 KB3.out
  go_wp2_with fail
  refine (four_any b _).mono ?_
  rintro e w4 ⟨gb, rfl, hgb, hlb, b4, hcb⟩
  have HB4 := Lib.hid (below_then HB3.out b4)
  have HA4 : Hid (∀ j, j < 4 → w4.cell? ⟨ga, j, none⟩ = some (.int .i64 (a j))) := Lib.hid fun j hj => (b4.cell (p := ⟨ga, j, none⟩) hla).trans (hca.out j hj)
  clear y0 y1 y2 y3 b4 KB3 hca hga hgb hla
  go_wp2_with fail
  go_loopw [9] (fun n wr => ∃ k : Nat, k ≤ 4 ∧ n = .int .i64 k ∧ Hid (∃ q, wr = w4.drewN q) ∧ Hid (∀ j, j < k → gap (a j) (b j) ≤ most)) (fun n _ => 4 - (intOf n).toNat)
  case atStart => exact ⟨0, by omega, rfl, Lib.hid ⟨0, rfl⟩, Lib.hid fun j hj => by omega⟩
  case round =>
    obtain ⟨k, hk, rfl, HQ, HK⟩ := hrel
    have HB5 : Hid (∀ q, Below w.heap.size w (wr.drewN q)) := Lib.hid fun q => by obtain ⟨p, rfl⟩ := HQ.out; exact ⟨HB4.out.os, HB4.out.tape, HB4.out.output, HB4.out.size, HB4.out.block⟩
    have HQ' : Hid (∀ q, ∃ p, wr.drewN q = w4.drewN p) := Lib.hid fun q => by obtain ⟨p, rfl⟩ := HQ.out; exact ⟨_, World.drewN_drewN _ _ _⟩
    by_cases hlt : k < 4
    · have x0 : wr.cell? ⟨ga, k, none⟩ = some (.int .i64 (a k)) := by obtain ⟨p, rfl⟩ := HQ.out; exact HA4.out k hlt
      have y0 : wr.cell? ⟨gb, k, none⟩ = some (.int .i64 (b k)) := by obtain ⟨p, rfl⟩ := HQ.out; exact hcb.out k hlt
      have e0 : (0 : Int) ≤ (k : Int) := Int.natCast_nonneg _
      have e1 : (k : Int) < 4 := by omega
      have C := Lib.hid (fun w => size_any (a k) (b k) (MA.out k hlt) (MB.out k hlt) w)
      obtain ⟨p1, p2⟩ := MA.out k hlt
      obtain ⟨p3, p4⟩ := MB.out k hlt
      have HN' := Lib.hid (HN.out k hlt)
      have HK' := Lib.hid (fun h => none_yet HK.out (k := k) h)
      generalize gap (a k) (b k) = d at C HN' HK'
      generalize a k = u at x0 C p1 p2
      generalize b k = v at y0 C p3 p4
      have hwr : IntKind.i64.wrap (u - v) = u - v := IntWalk.i64_in _ (by omega)
      go_wp2_with fail
      go_quiet ((go_at_call 105; refine Calls.quiet_of_same ((C.out _).mono fun _ _ h => ⟨h.1, h.2.symm⟩)))
      by_cases hd : most < d
      · go_wp2_with fail
        go_ret
        exact ⟨by rw [HN'.out hd]; rfl, HB5.out _⟩
      · have HD := Lib.hid (HK'.out (by omega))
        go_wp2_with fail
        go_roundw
        case rel => exact ⟨k + 1, by omega, by go_num, Lib.hid (HQ'.out _), HD⟩
        case measure => simp [intOf]; omega
    · have HD := Lib.hid (HF.out fun j hj => by have := HK.out j (by omega); omega)
      go_wp2_with fail
      go_ret
      exact ⟨by rw [HD.out]; rfl, HB5.out 0⟩

end Go.Proofs.Ytoincfhhafpekaa.Fa
