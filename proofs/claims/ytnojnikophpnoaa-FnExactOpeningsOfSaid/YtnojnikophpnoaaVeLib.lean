/- EulerOf: both functions. -/
import Derived.Test.YtnojnikophpnoaaVoLib
import Derived.Deep.RegionHeld3
namespace Go.Proofs.Ytnojnikophpnoaa.Ve
set_option linter.unusedVariables false
open Go.RowKit Go.Maps Ft Is Ge Qb Pt Pv Za Mm Zb Zc Zd Vq Sdq Sdu Uf Ug Uh Uk Uc Uq Ux Uy Vo

/-- Corners less edges plus pieces. -/
def euN (ms : Nat → Nat) (n : Nat) (S : Nat → Int) (k : Nat) : Int := (coN ms n S k : Int) - ((sumN ms n : Int) - (k : Int)) + (n : Int)
theorem co_le (ms : Nat → Nat) (n : Nat) (S : Nat → Int) (k : Nat) : coN ms n S k ≤ sumN ms n := cc_le _ _
set_option maxRecDepth 100000 in
set_option maxHeartbeats 2000000 in
theorem euler (A : Option Addr) (n c : Nat) (N : Nat → ByteArray) (ms : Nat → Nat) (ds : Nat → Nat → Int) (Y : Option Addr) (k sc : Nat) (S : Nat → Int) (o : Int) (hz : Small n N ms k) (hP : PatP n N ms ds k S o)
    (B : Nat) (W : World) (ea : Option Addr) (el ec bm : Nat) (P : Nat × Nat → Nat) (g : Lit → Option Value) (hR : PatR W A n N ms ds Y k S) (hS : Surf B n ms ds (plc ms n) (plc ms n) (mate S k) (.slice ea el ec) bm P g W) :
    Calls Try.prog 80 #[sfV A n c Y k sc o (.slice ea el ec) bm] W fun e w' => e = .returned (.int .i64 (euN ms n S k)) ∧ Below W.heap.size W w' := by
  obtain ⟨p1, p2, p3, p4⟩ := pat_in hP
  have hk := few hP
  have hE := sum_le (ms := ms) (p := n) (fun i hi => (p2 i hi).2)
  have hco := co_le ms n S k
  have hrow := hS.row
  rw [plc_len] at hrow
  have hel : el = sumN ms n := by
    rcases hrow.2 with ⟨hv, h0⟩ | ⟨g', cap, cur, hv, _⟩
    · injection hv with _ h1 _; omega
    · injection hv with _ h1 _
  have HB := Lib.hid (below_box W (suC (.slice A n c) (.slice Y k sc) (.int .i64 o) (.slice ea el ec) (.map (some bm))))
  have KB := Lib.hid (heap_alloc_new W (suC (.slice A n c) (.slice Y k sc) (.int .i64 o) (.slice ea el ec) (.map (some bm))))
  have C := Lib.hid (fun w' (hb : Below W.heap.size W w') => corners A n c N ms ds Y k sc S o hz hP B w' ea el ec bm P g (hR.below hb) (hS.below hb))
  have HE : Hid (euN ms n S k = (coN ms n S k : Int) - ((el : Int) - (k : Int)) + (n : Int)) := Lib.hid (by rw [hel]; rfl)
  have hel2 : el ≤ 80 := by omega
  have hco2 : coN ms n S k ≤ 80 := by omega
  clear hrow hR hS hP p2 p3 p4 hz hco hE hel
  unfold sfV
  unfold sfV at C
  generalize coN ms n S k = co at C HE hco2
  generalize euN ms n S k = eu at HE ⊢
  go_enter Try.func80, Try.ntmps80
  go_upto_region 1 with fail
  generalize hw0 : W.alloc _ = w1 at HB KB ⊢
  clear hw0
  obtain ⟨x0, x1, x2, x3, x4⟩ := blk5 KB.out
  have lb := lt_of_heap KB.out
  have x0 := bey_cell x0
  have x1 := bey_cell x1
  have x2 := bey_cell x2
  have x3 := bey_cell x3
  have x4 := bey_cell x4
  refine wp_region_below (by kernel_rfl) (by kernel_rfl) ?_
  repeat (go_big_quiet_step (first | (go_at_call 79; with_reducible exact bey_of _ (C.out _ (below_then HB.out (Beyond.h _))))))
  refine wpQuiet_nil ?_
  rintro _ ⟨pq, rfl⟩
  have HQ := Lib.hid (below_then HB.out pq.h)
  generalize pq.to = wq at HQ ⊢
  clear x0 x1 x2 x3 x4
  go_wp2_with fail
  go_ret
  exact ⟨ret_int (by rw [HE.out]), HQ.out⟩
set_option maxRecDepth 100000 in
set_option maxHeartbeats 2000000 in
theorem spec_eu (A : Option Addr) (n c : Nat) (N : Nat → ByteArray) (ms : Nat → Nat) (ds : Nat → Nat → Int) (Y : Option Addr) (k sc : Nat) (S : Nat → Int) (o : Int) (hz : Small n N ms k) (w : World) (h : PatR w A n N ms ds Y k S) :
    Calls Try.prog 41 #[paV A n c Y k sc o] w (IntAt (vX n N ms ds k S o (euN ms n S k)) (vC n N ms ds k S o) w) := by
  have HB := Lib.hid (below_box w (.cells #[.slice A n c, .slice Y k sc, .int .i64 o] 31))
  have HX := Lib.hid (Boxed.mk (c := c) (sc := sc) (o := o) (heap_alloc_new w (.cells #[.slice A n c, .slice Y k sc, .int .i64 o] 31)) (h.below HB.out))
  have C := Lib.hid (ok w.heap.size A n c N ms ds Y k sc S o hz _ HX.out)
  unfold paV vX vC
  by_cases hP : PatP n N ms ds k S o
  · rw [tv_yes hP] at C ⊢
    simp only [if_true]
    obtain ⟨p1, p2, p3, p4⟩ := pat_in hP
    have hk := few hP
    have hm8 : ∀ i, i < n → ms i ≤ 8 := fun i hi => (p2 i hi).2
    have sw := sew_iff.2 hP.2.2
    have hpp : ∀ j, j < k → endA S j ∈ plc ms n ∧ endB S j ∈ plc ms n := fun j hj => ⟨mem_plc.2 (p4 j hj).1, mem_plc.2 (p4 j hj).2⟩
    have hcnt := open_count hm8 sw hpp
    rw [← ol_len] at hcnt
    have hE := sum_le hm8
    have hco := co_le ms n S k
    have CP := Lib.hid (fun W hW => s_corners w.heap.size A n c N ms ds Y k sc S o hz hP W hW)
    have CO : Hid (∀ W, Boxed W w.heap.size A n c N ms ds Y k sc S o → Calls Try.prog 62 #[.pointer (some ⟨w.heap.size, 0, none⟩)] W fun e w' => ∃ A cap, e = .returned (.slice A (ol ms n S k (sumN ms n)).length cap) ∧ Below W.heap.size W w') := Lib.hid fun W hW => (s_open w.heap.size A n c N ms ds Y k sc S o hz hP W hW).mono fun e w' ⟨v, G, e1, h1, h2⟩ => by
      rcases h1.out.out.2 with ⟨hv, h0⟩ | ⟨g', cap, cur, hv, _⟩
      · exact ⟨none, 0, by rw [e1, hv, h0], h2⟩
      · exact ⟨_, cap, by rw [e1, hv], h2⟩
    have HE : Hid (euN ms n S k = (coN ms n S k : Int) - (((ol ms n S k (sumN ms n)).length : Int) + (k : Int)) + (n : Int)) := Lib.hid (by unfold euN; omega)
    have hol : (ol ms n S k (sumN ms n)).length ≤ 80 := by omega
    have hco2 : coN ms n S k ≤ 80 := by omega
    clear h hz hP p2 p3 p4 sw hpp hcnt hE hco hm8
    generalize coN ms n S k = co at CP HE hco2
    generalize (ol ms n S k (sumN ms n)).length = ln at CO HE hol
    generalize euN ms n S k = D at HE ⊢
    have HF : Hid (∀ W, Below w.heap.size w W → IntAt D 0 w (.returned (.tuple #[.int .i64 D, .int .i64 0])) W) := Lib.hid fun W h => ⟨rfl, h⟩
    generalize IntAt D 0 w = Q at HF ⊢
    go_enter Try.func41, Try.ntmps41
    go_wp2_with fail
    refine C.out.mono ?_
    rintro e w1 ⟨rfl, b1⟩
    have HX1 := Lib.hid (HX.out.below b1)
    have HB1 := Lib.hid (below_then HB.out b1)
    clear b1 C HX HB
    obtain ⟨x0, x1, x2⟩ := blk3 HX1.out.blk
    have lb := lt_of_heap HX1.out.blk
    rw [HE.out] at HF
    have BN := Below.refl w1.heap.size w1
    have hw1 : IntKind.i64.wrap ((ln : Int) + (k : Int)) = (ln : Int) + (k : Int) := by rw [IntKind.wrap_i64]; omega
    have hw2 : IntKind.i64.wrap ((co : Int) - ((ln : Int) + (k : Int))) = (co : Int) - ((ln : Int) + (k : Int)) := by rw [IntKind.wrap_i64]; omega
    have hw3 : IntKind.i64.wrap ((co : Int) - ((ln : Int) + (k : Int)) + (n : Int)) = (co : Int) - ((ln : Int) + (k : Int)) + (n : Int) := by rw [IntKind.wrap_i64]; omega
    go_upto_region 3 with fail
    go_region_held3 (fun w' => w'.cell? ⟨w.heap.size, 0, none⟩ = some (.slice A n c) ∧ w'.cell? ⟨w.heap.size, 1, none⟩ = some (.slice Y k sc) ∧ w'.cell? ⟨w.heap.size, 2, none⟩ = some (.int .i64 o))
      (first | (refine ⟨?_, ?_, ?_⟩ <;> (refine Bw.keep_of (w2 := w1) ?_ (by omega) (by assumption); (repeat (first | (with_reducible exact Below.refl _ _) | (with_reducible exact BN) | refine Below.drew ?_)))))
      (first | (go_at_call 77; (with_reducible refine (CP.out _ (HX1.out.below ?_)).mono ?_); (focus (repeat (first | (with_reducible exact Below.refl _ _) | (with_reducible exact BN) | refine Below.drew ?_))); rintro e wa ⟨rfl, ba⟩; have BN := below_then (w0 := w1) ?_ ba; rotate_left; (focus (repeat (first | (with_reducible exact Below.refl _ _) | (with_reducible exact BN) | refine Below.drew ?_)))) | (go_at_call 62; (with_reducible refine (CO.out _ (HX1.out.below ?_)).mono ?_); (focus (repeat (first | (with_reducible exact Below.refl _ _) | (with_reducible exact BN) | refine Below.drew ?_))); rintro e wa ⟨A1, cap1, rfl, ba⟩; have BN := below_then (w0 := w1) ?_ ba; rotate_left; (focus (repeat (first | (with_reducible exact Below.refl _ _) | (with_reducible exact BN) | refine Below.drew ?_)))))
    all_goals
      have HZ := HF.out _ (below_then HB1.out BN)
      clear HF
      go_wp2_with fail
      exact HZ
  · rw [tv_no hP] at C ⊢
    simp only [Bool.false_eq_true, if_false]
    clear h hz hP
    have HF : Hid (∀ W, Below w.heap.size w W → IntAt 0 1 w (.returned (.tuple #[.int .i64 0, .int .i64 1])) W) := Lib.hid fun W h => ⟨rfl, h⟩
    generalize IntAt 0 1 w = Q at HF ⊢
    go_enter Try.func41, Try.ntmps41
    go_wp2_with fail
    refine C.out.mono ?_
    rintro e w1 ⟨rfl, b1⟩
    have HZ := Lib.hid (HF.out _ (below_then HB.out b1))
    clear b1 HF
    go_wp2_with fail
    exact HZ.out
theorem impl_eu (A : Option Addr) (n c : Nat) (N : Nat → ByteArray) (ms : Nat → Nat) (ds : Nat → Nat → Int) (Y : Option Addr) (k sc : Nat) (S : Nat → Int) (o : Int) (hz : Small n N ms k) (hw : ∀ i, i < k * 4 → (Lit.int .i64 (S i)).wf = true) (w : World) (h : PatR w A n N ms ds Y k S) :
    Calls Try.prog 42 #[paV A n c Y k sc o] w (IntAt (vX n N ms ds k S o (euN ms n S k)) (vC n N ms ds k S o) w) := by
  have HB := Lib.hid (below_box w (.cells #[.slice A n c, .slice Y k sc, .int .i64 o] 31))
  have C := Lib.hid (told_int 80 (Go.Proofs.enters_of Try.func80 (by kernel_rfl) rfl) A n c N ms ds Y k sc S o (euN ms n S k) hz hw _ (h.below HB.out) fun hP B W ea el ec bm P g h1 h2 => euler A n c N ms ds Y k sc S o hz hP B W ea el ec bm P g h1 h2)
  clear h
  unfold IntAt at C
  generalize vX n N ms ds k S o (euN ms n S k) = m at C ⊢
  generalize vC n N ms ds k S o = cd at C ⊢
  have HF : Hid (∀ W, Below w.heap.size w W → IntAt m cd w (.returned (.tuple #[.int .i64 m, .int .i64 cd])) W) := Lib.hid fun W h => ⟨rfl, h⟩
  generalize IntAt m cd w = Q at HF ⊢
  unfold paV
  unfold paV at C
  go_enter Try.func42, Try.ntmps42
  go_wp2_with fail
  refine C.out.mono ?_
  rintro e w1 ⟨rfl, b1⟩
  have HE := Lib.hid (HF.out _ (below_then HB.out b1))
  clear b1 HF
  go_wp2_with fail
  exact HE.out
end Go.Proofs.Ytnojnikophpnoaa.Ve
