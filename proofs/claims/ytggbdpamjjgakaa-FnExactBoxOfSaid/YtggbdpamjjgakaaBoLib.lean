/- Least and greatest places of a list of spots: allOf; the spec's laying against both axes. -/
import Derived.Test.YtggbdpamjjgakaaOmLib
import Derived.Lib.SliceRun
namespace Go.Proofs.Ytggbdpamjjgakaa.Bo
set_option linter.unusedVariables false
open Go.RowKit Ft Is Ge Qb Ol Ot Opl Oq Oi Oj Ok Om

def mnP (p q : Pt) : Pt := (min p.1 q.1, min p.2 q.2)
def mxP (p q : Pt) : Pt := (max p.1 q.1, max p.2 q.2)
def fo (J : Pt → Pt → Pt) (f : Nat → Int) : Nat → Pt
  | 0 => pt f 0
  | k + 1 => J (fo J f k) (pt f (k + 1))
set_option maxRecDepth 100000 in
theorem ileast (p q : Pt) (w : World) : Calls Try.prog 64 #[spV p.1 p.2, spV q.1 q.2] w fun e w' => e = .returned (spV (mnP p q).1 (mnP p q).2) ∧ Below w.heap.size w w' := by
  obtain ⟨a, b⟩ := p
  obtain ⟨c, d⟩ := q
  have R1 : (c < a ∧ min a c = c) ∨ (¬ c < a ∧ a ≤ c ∧ min a c = a) := by omega
  have R2 : (d < b ∧ min b d = d) ∨ (¬ d < b ∧ b ≤ d ∧ min b d = b) := by omega
  unfold mnP spV
  simp only
  rcases R1 with ⟨g1, e1⟩ | ⟨g1, g1', e1⟩ <;> rcases R2 with ⟨g2, e2⟩ | ⟨g2, g2', e2⟩
  all_goals
    rw [e1, e2]
    clear e1 e2
    go_enter Try.func64, Try.ntmps64
    go_wp2
    exact bodyPost_ret (v := .agg #[_, _]) (by simp [results, Try.results64, go_sem]) rfl ⟨rfl, by repeat (first | exact Below.refl _ _ | exact below_box _ _ | refine Below.setCell ?_ (by simp <;> omega) _ | refine Below.alloc ?_ (by simp <;> omega) _)⟩
set_option maxRecDepth 100000 in
theorem igreat (p q : Pt) (w : World) : Calls Try.prog 65 #[spV p.1 p.2, spV q.1 q.2] w fun e w' => e = .returned (spV (mxP p q).1 (mxP p q).2) ∧ Below w.heap.size w w' := by
  obtain ⟨a, b⟩ := p
  obtain ⟨c, d⟩ := q
  have R1 : (a < c ∧ max a c = c) ∨ (¬ a < c ∧ c ≤ a ∧ max a c = a) := by omega
  have R2 : (b < d ∧ max b d = d) ∨ (¬ b < d ∧ d ≤ b ∧ max b d = b) := by omega
  unfold mxP spV
  simp only
  rcases R1 with ⟨g1, e1⟩ | ⟨g1, g1', e1⟩ <;> rcases R2 with ⟨g2, e2⟩ | ⟨g2, g2', e2⟩
  all_goals
    rw [e1, e2]
    clear e1 e2
    go_enter Try.func65, Try.ntmps65
    go_wp2
    exact bodyPost_ret (v := .agg #[_, _]) (by simp [results, Try.results65, go_sem]) rfl ⟨rfl, by repeat (first | exact Below.refl _ _ | exact below_box _ _ | refine Below.setCell ?_ (by simp <;> omega) _ | refine Below.alloc ?_ (by simp <;> omega) _)⟩
set_option maxRecDepth 100000 in
set_option maxHeartbeats 2000000 in
theorem iall (g : FuncId) (J : Pt → Pt → Pt) (hg : ∀ (p q : Pt) (w : World), Calls Try.prog g #[spV p.1 p.2, spV q.1 q.2] w fun e w' => e = .returned (spV (J p q).1 (J p q).2) ∧ Below w.heap.size w w') (eg : ∀ args w, (callFunc g args).run Try.prog w = .ok (.enter g args) w)
    (A : Option Addr) (n c : Nat) (f : Nat → Int) (h2 : 2 ≤ n) (hn : n ≤ 1048576) (hcap : n ≤ c) (hcm : c ≤ maxLen) (w : World) (hA : Nums w w.heap.size A (n * 2) f) :
    Calls Try.prog 63 #[.slice A n c, .func (.func g) #[] #[]] w fun e w' => e = .returned (spV (fo J f (n - 1)).1 (fo J f (n - 1)).2) ∧ Below w.heap.size w w' := by
  obtain ⟨b, off, rfl, hb, hc⟩ := hA (by omega)
  have HC := Lib.hid hc
  have HG := Lib.hid hg
  obtain ⟨x0, x1⟩ := nums_two hc (show 0 < n by omega)
  simp only [Nat.zero_mul, Nat.add_zero, Nat.zero_add] at x0 x1
  have HS : Hid (∀ k, fo J f (k + 1) = J (fo J f k) (f ((k + 1) * 2), f ((k + 1) * 2 + 1))) := Lib.hid fun k => rfl
  have HS0 : Hid (fo J f 0 = (f 0, f 1)) := Lib.hid rfl
  have e1 : (1 : Int) ≤ (n : Int) := by omega
  have e2 : (n : Int) ≤ (c : Int) := by omega
  have e3 : (c : Int) ≤ 9223372036854775807 := by unfold maxLen at hcm; omega
  have e4 : (n : Int) ≤ 1048576 := by omega
  have e5 : 1 < n := by omega
  have e6 : (1 : Int) < (n : Int) := by omega
  have e7 : ¬ c = 1 := by omega
  clear hA hc hg
  generalize fo J f = F at HS HS0 ⊢
  have HF0 : Hid (F 0 = (f 0, f 1)) := HS0
  generalize f 0 = p0 at x0 HF0
  generalize f 1 = p1 at x1 HF0
  obtain ⟨_, k1⟩ := two w (spC 0 0 38) (spC p0 p1 38)
  have B0 := Lib.hid (below2 w (spC 0 0 38) (spC p0 p1 38))
  obtain ⟨k0, _⟩ := two w (spC 0 0 38) (spC p0 p1 38)
  go_enter Try.func63, Try.ntmps63
  go_upto_region 3 with fail
  generalize hw2 : (w.alloc _).alloc _ = w2 at k0 k1 B0 ⊢
  have hz2 : w2.heap.size = w.heap.size + 2 := by rw [← hw2]; simp
  clear hw2 x0 x1
  have K1 := Lib.hid k1
  have K0 := Lib.hid k0
  have F0 : Hid (w2.heap[w.heap.size + 1]? = some (spC (F 0).1 (F 0).2 38)) := Lib.hid (by rw [HF0.out]; exact k1)
  clear k0 k1 K1
  go_loopw [7, 14] (fun _ i wr => ∃ k : Nat, k ≤ n - 1 ∧ i = .int .i64 (k : Int) ∧ Hid (Below w.heap.size w wr) ∧ Hid (wr.heap[w.heap.size]? = some (spC 0 0 38)) ∧ Hid (wr.heap[w.heap.size + 1]? = some (spC (F k).1 (F k).2 38))) (fun _ i _ => n - 1 - (intOf i).toNat)
  case atStart => exact ⟨0, Nat.zero_le _, rfl, B0, K0, F0⟩
  case round =>
    obtain ⟨k, hk, rfl, HB, HK0, HK1⟩ := hrel
    have f0 : (0 : Int) ≤ (k : Int) := Int.natCast_nonneg _
    have hsz := HB.out.size
    have hl1 := lt_of_heap HK1.out
    by_cases hlt : k < n - 1
    · have x : ∀ i, i < n * 2 → wr.cell? ⟨b, off + i, none⟩ = some (.int .i64 (f i)) := fun i hi => (HB.out.cell (p := ⟨b, off + i, none⟩) hb).trans (HC.out i hi)
      have x0 : wr.cell? ⟨b, off + 2 + k * 2, none⟩ = some (.int .i64 (f ((k + 1) * 2))) := by rw [show off + 2 + k * 2 = off + (k + 1) * 2 by omega]; exact x _ (by omega)
      have x1 : wr.cell? ⟨b, off + 2 + k * 2 + 1, none⟩ = some (.int .i64 (f ((k + 1) * 2 + 1))) := by rw [show off + 2 + k * 2 + 1 = off + ((k + 1) * 2 + 1) by omega]; exact x _ (by omega)
      have C := Lib.hid fun w => HG.out (F k) (f ((k + 1) * 2), f ((k + 1) * 2 + 1)) w
      have HSk := Lib.hid (HS.out k)
      generalize f ((k + 1) * 2) = qx at x0 C HSk
      generalize f ((k + 1) * 2 + 1) = qy at x1 C HSk
      generalize hr : J (F k) (qx, qy) = r at C HSk
      generalize hs : F k = s at HK1 C
      have g1 : (k : Int) < ((n - 1 : Nat) : Int) := by omega
      clear hr hs x hk
      simp only [spV] at C
      have egk := eg
      obtain ⟨s0, s1⟩ := s
      obtain ⟨r0, r1⟩ := r
      simp only at HK1 C
      have k7 := heap_alloc_new wr (spC qx qy 38)
      have HB7 := Lib.hid (below_then HB.out (below_box wr (spC qx qy 38)))
      have HK07 := Lib.hid (blk_old (spC qx qy 38) HK0.out)
      have HK17 := Lib.hid (blk_old (spC qx qy 38) HK1.out)
      go_upto_region 5 with fail
      generalize hs5 : wr.heap.size = s5 at k7 ⊢
      generalize hw5 : wr.alloc _ = w5 at k7 HB7 HK07 HK17 ⊢
      have hz5 : w5.heap.size = s5 + 1 := by rw [← hw5, ← hs5]; simp
      clear hw5 x0 x1
      obtain ⟨y0, y1⟩ := blk2 HK17.out
      obtain ⟨q0, q1⟩ := blk2 k7
      go_wp2_with fail
      refine (C.out _).mono ?_
      rintro e w6 ⟨rfl, b6⟩
      have HB6 := Lib.hid (below_then HB7.out b6)
      have K06 := Lib.hid (blk_keep b6 HK07.out)
      have K16 := Lib.hid (blk_keep b6 HK17.out)
      clear b6 y0 y1 q0 q1 k7 HK07 HK17
      obtain ⟨y0, y1⟩ := blk2 K16.out
      have fz := blk_free K16.out
      have hl6 := lt_of_heap K16.out
      go_wp2_with fail
      have HB8 := Lib.hid ((HB6.out.setCell (p := ⟨w.heap.size + 1, 0, none⟩) (by simp) (.int .i64 r0)).setCell (p := ⟨w.heap.size + 1, 1, none⟩) (by simp) (.int .i64 r1))
      have K08 : Hid (((w6.setCell ⟨w.heap.size + 1, 0, none⟩ (.int .i64 r0)).setCell ⟨w.heap.size + 1, 1, none⟩ (.int .i64 r1)).heap[w.heap.size]? = some (spC 0 0 38)) := Lib.hid ((Below.heap_setCell _ _ _ _ (by simp)).trans ((Below.heap_setCell _ _ _ _ (by simp)).trans K06.out))
      have K18 : Hid (((w6.setCell ⟨w.heap.size + 1, 0, none⟩ (.int .i64 r0)).setCell ⟨w.heap.size + 1, 1, none⟩ (.int .i64 r1)).heap[w.heap.size + 1]? = some (spC r0 r1 38)) := Lib.hid (heap_set (heap_set K16.out 0 _) 1 _)
      go_roundw
      case rel => exact ⟨k + 1, by omega, by go_num, HB8, K08, by rw [HSk.out]; exact K18⟩
      case measure => simp [intOf]; omega
    · obtain rfl : k = n - 1 := by omega
      have g1 : ¬ ((n - 1 : Nat) : Int) < ((n - 1 : Nat) : Int) := by omega
      generalize hs : F (n - 1) = s at HK1
      have HE := Lib.hid hs
      clear hs
      obtain ⟨s0, s1⟩ := s
      simp only at HK1
      obtain ⟨y0, y1⟩ := blk2 HK1.out
      obtain ⟨z0, z1⟩ := blk2 HK0.out
      have fz := blk_free HK0.out
      have hl0 := lt_of_heap HK0.out
      clear hk hlt
      go_wp2_with fail
      exact bodyPost_ret (v := .agg #[.int .i64 s0, .int .i64 s1]) (by simp [results, Try.results63, go_sem, z0, z1]) rfl ⟨by rw [HE.out], (HB.out.setCell (by simp) _).setCell (by simp) _⟩
end Go.Proofs.Ytggbdpamjjgakaa.Bo
