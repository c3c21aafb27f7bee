/- Whether a foot is far from another one: the program's. -/
import Derived.Test.YtoincfhhafpekaaFaLib
import Derived.Deep.DeepCutAuto
import Derived.Deep.DeepMust
namespace Go.Proofs.Ytoincfhhafpekaa.Fa
open Go.RowKit Ft Fs Ld Is Fc Qb

set_option maxRecDepth 100000 in
set_option maxHeartbeats 8000000 in
theorem impl_far (a b : Nat → Int) (most : Int) (ha : Mild a) (hb : Mild b) (w : World) :
    Calls Try.prog 65 #[.agg #[.int .i64 (a 0), .int .i64 (a 1), .int .i64 (a 2), .int .i64 (a 3)], .agg #[.int .i64 (b 0), .int .i64 (b 1), .int .i64 (b 2), .int .i64 (b 3)], .int .i64 most] w
      fun e w' => e = .returned (.bool (farB a b most)) ∧ Below w.heap.size w w' := by
  have MA := Lib.hid ha
  have MB := Lib.hid hb
  clear ha hb
  have HN := Lib.hid (fun k (hk : k < 4) h => far_yes (a := a) (b := b) (most := most) hk h)
  have HF := Lib.hid (fun h => far_no (a := a) (b := b) (most := most) h)
  generalize farB a b most = r at HN HF ⊢
  obtain ⟨ka, kb⟩ := two w (.cells #[.int .i64 (a 0), .int .i64 (a 1), .int .i64 (a 2), .int .i64 (a 3)] 25) (.cells #[.int .i64 (b 0), .int .i64 (b 1), .int .i64 (b 2), .int .i64 (b 3)] 25)
  have HW := Lib.hid (below2 w (.cells #[.int .i64 (a 0), .int .i64 (a 1), .int .i64 (a 2), .int .i64 (a 3)] 25) (.cells #[.int .i64 (b 0), .int .i64 (b 1), .int .i64 (b 2), .int .i64 (b 3)] 25))
  have KA := Lib.hid ka
  have KB := Lib.hid kb
  clear ka kb
  go_enter Try.func65, Try.ntmps65
  go_upto_region 1 with fail
  generalize (w.alloc (.cells #[.int .i64 (a 0), .int .i64 (a 1), .int .i64 (a 2), .int .i64 (a 3)] 25)).alloc (.cells #[.int .i64 (b 0), .int .i64 (b 1), .int .i64 (b 2), .int .i64 (b 3)] 25) = w2 at HW KA KB ⊢
  have la := lt_of_heap KA.out
  have lb := lt_of_heap KB.out
  go_cut [7, 8] (fun s6 s7 wx => ∃ g6 g7 : Nat, s6 = .pointer (some ⟨g6, 0, none⟩) ∧ s7 = .pointer (some ⟨g7, 0, none⟩) ∧ Below w2.heap.size w2 wx ∧
    Hid (wx.cell? ⟨g6, 0, none⟩ = some (.int .i64 (a 0)) ∧ wx.cell? ⟨g6, 1, none⟩ = some (.int .i64 (a 1)) ∧ wx.cell? ⟨g6, 2, none⟩ = some (.int .i64 (a 2)) ∧ wx.cell? ⟨g6, 3, none⟩ = some (.int .i64 (a 3))) ∧
    Hid (wx.cell? ⟨g7, 0, none⟩ = some (.int .i64 (b 0)) ∧ wx.cell? ⟨g7, 1, none⟩ = some (.int .i64 (b 1)) ∧ wx.cell? ⟨g7, 2, none⟩ = some (.int .i64 (b 2)) ∧ wx.cell? ⟨g7, 3, none⟩ = some (.int .i64 (b 3))))
  case first =>
    obtain ⟨x0, x1, x2, x3⟩ := blk4 KA.out
    obtain ⟨y0, y1, y2, y3⟩ := blk4 KB.out
    go_region_held3 (fun w' => w'.cell? ⟨w.heap.size, 0, none⟩ = some (.int .i64 (a 0)) ∧ w'.cell? ⟨w.heap.size, 1, none⟩ = some (.int .i64 (a 1)) ∧ w'.cell? ⟨w.heap.size, 2, none⟩ = some (.int .i64 (a 2)) ∧ w'.cell? ⟨w.heap.size, 3, none⟩ = some (.int .i64 (a 3)) ∧
        w'.cell? ⟨w.heap.size + 1, 0, none⟩ = some (.int .i64 (b 0)) ∧ w'.cell? ⟨w.heap.size + 1, 1, none⟩ = some (.int .i64 (b 1)) ∧ w'.cell? ⟨w.heap.size + 1, 2, none⟩ = some (.int .i64 (b 2)) ∧ w'.cell? ⟨w.heap.size + 1, 3, none⟩ = some (.int .i64 (b 3)))
      (first | (refine ⟨?_, ?_, ?_, ?_, ?_, ?_, ?_, ?_⟩ <;> (refine keep_of (w2 := w2) ?_ (by omega) (by assumption); (repeat (first | exact Below.refl _ _ | refine Below.drew ?_ | refine Below.alloc ?_ (by simp <;> omega) _ | refine Below.setCell ?_ (by simp <;> omega) _)))))
      ((go_at_call 106; refine (measures_exact _ _ _ _ _).mono ?_; rintro e wn ⟨rfl, rfl⟩))
    all_goals
      go_wp2_with fail
      go_meet
      refine ⟨_, _, rfl, rfl, ?_, Lib.hid ?_, Lib.hid ?_⟩
      · repeat (first | exact Below.refl _ _ | refine Below.drew ?_ | refine Below.alloc ?_ (by simp <;> omega) _ | refine Below.setCell ?_ (by simp <;> omega) _)
      · go_simp
      · go_simp
  case rest =>
    obtain ⟨g6, g7, rfl, rfl, hbel, hc6, hc7⟩ := hcut
    have H6 : Hid (∀ j, j < 4 → wc.cell? ⟨g6, j, none⟩ = some (.int .i64 (a j))) := Lib.hid fun j hj => by
      obtain ⟨q0, q1, q2, q3⟩ := hc6.out
      obtain rfl | rfl | rfl | rfl : j = 0 ∨ j = 1 ∨ j = 2 ∨ j = 3 := by omega
      all_goals assumption
    have H7 : Hid (∀ j, j < 4 → wc.cell? ⟨g7, j, none⟩ = some (.int .i64 (b j))) := Lib.hid fun j hj => by
      obtain ⟨q0, q1, q2, q3⟩ := hc7.out
      obtain rfl | rfl | rfl | rfl : j = 0 ∨ j = 1 ∨ j = 2 ∨ j = 3 := by omega
      all_goals assumption
    have HBW := Lib.hid (below_then HW.out hbel)
    clear hc6 hc7 hbel KA KB
    go_wp2_with fail
    go_loopw [9, 14] (fun _ n wr => ∃ k : Nat, k ≤ 4 ∧ n = .int .i64 k ∧ Hid (∃ q, wr = wc.drewN q) ∧ Hid (∀ j, j < k → gap (a j) (b j) ≤ most)) (fun _ n _ => 4 - (intOf n).toNat)
    case atStart => exact ⟨0, by omega, rfl, Lib.hid ⟨0, rfl⟩, Lib.hid fun j hj => by omega⟩
    case round =>
      obtain ⟨k, hk, rfl, HQ, HK⟩ := hrel
      have HB5 : Hid (∀ q, Below w.heap.size w (wr.drewN q)) := Lib.hid fun q => by obtain ⟨p, rfl⟩ := HQ.out; exact ⟨HBW.out.os, HBW.out.tape, HBW.out.output, HBW.out.size, HBW.out.block⟩
      have HQ' : Hid (∀ q, ∃ p, wr.drewN q = wc.drewN p) := Lib.hid fun q => by obtain ⟨p, rfl⟩ := HQ.out; exact ⟨_, World.drewN_drewN _ _ _⟩
      by_cases hlt : k < 4
      · have x0 : wr.cell? ⟨g6, k, none⟩ = some (.int .i64 (a k)) := by obtain ⟨p, rfl⟩ := HQ.out; exact H6.out k hlt
        have y0 : wr.cell? ⟨g7, k, none⟩ = some (.int .i64 (b k)) := by obtain ⟨p, rfl⟩ := HQ.out; exact H7.out k hlt
        have e0 : (0 : Int) ≤ (k : Int) := Int.natCast_nonneg _
        have e1 : (k : Int) < 4 := by omega
        have C := Lib.hid (fun w => dist_any (a k) (b k) (MA.out k hlt) (MB.out k hlt) w)
        have HN' := Lib.hid (HN.out k hlt)
        have HK' := Lib.hid (fun h => none_yet HK.out (k := k) h)
        generalize gap (a k) (b k) = d at C HN' HK'
        generalize a k = u at x0 C
        generalize b k = v at y0 C
        go_wp2_with fail
        go_quiet ((go_at_call 107; refine Calls.quiet_of_same ((C.out _).mono fun _ _ h => ⟨h.1, h.2.symm⟩)))
        by_cases hd : most < d
        · go_wp2_with fail
          go_ret
          exact ⟨by rw [HN'.out hd]; rfl, HB5.out _⟩
        · have HD := Lib.hid (HK'.out (by omega))
          go_wp2_with fail
          go_roundw
          case rel => exact ⟨k + 1, by omega, by go_num, Lib.hid (HQ'.out _), HD⟩
          case measure => simp [intOf]; omega
      · have HD := Lib.hid (HF.out fun j hj => by have := HK.out j (by omega); omega)
        go_wp2_with fail
        go_ret
        exact ⟨by rw [HD.out]; rfl, HB5.out 0⟩
end Go.Proofs.Ytoincfhhafpekaa.Fa
