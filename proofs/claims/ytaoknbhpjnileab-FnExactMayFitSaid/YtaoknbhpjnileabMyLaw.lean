/- The walk of the law of MayFit. -/
import Derived.Test.YtaoknbhpjnileabCtLib
import Derived.Test.YtaoknbhpjnileabCqLib
import Derived.Deep.RegionHeld3
import Derived.Deep.DeepCutAuto
namespace Go.Proofs.Ytaoknbhpjnileab.My
open Go.RowKit Ft Is Ge Qb Fi La Co

theorem keep_of {w2 W : World} {g o : Nat} {v : Value} (hb : Below w2.heap.size w2 W) (hg : g < w2.heap.size) (h : w2.cell? ⟨g, o, none⟩ = some v) : W.cell? ⟨g, o, none⟩ = some v := (hb.cell (p := ⟨g, o, none⟩) hg).trans h
theorem nums_drew {w w' : World} {A : Option Addr} {n : Nat} {f : Nat → Int} (h : Nums w w.heap.size A n f) (e : w' = w ∨ w' = w.drew) : Nums w' w'.heap.size A n f := by
  rcases e with rfl | rfl <;> exact h
theorem gaps_said : GapsSaid := fun s x a mn mx gi A c hx ha w => gaps_any s x a mn mx gi A c hx ha w
set_option maxRecDepth 100000 in
set_option maxHeartbeats 16000000 in
theorem core (s : ByteArray) (x a : Nat → Int) (mn mx gi : Int) (A : Option Addr) (n c : Nat) (f : Nat → Int) (w : World) (hs : s.size ≤ maxLen) (hw : ∀ j, j < 4 → (Lit.int .i64 (a j)).wf = true) (hA : Nums w w.heap.size A n f) (hz1 : s.size ≤ 1048576) (hz2 : n ≤ 1048576 - s.size) :
    Calls Try.prog 3 #[laV s x, ftV a, fitV mn mx gi A n c] w fun e w' => e = .returned (.bool true) ∧ Below w.heap.size w w' := by
  have hn : n ≤ 1048576 := by omega
  have C := Lib.hid (fun w => sz_last s x 1048576 (by omega) (by omega) w)
  have hle : ¬ (1048576 : Int) - s.size < 0 := by omega
  have C2 := Lib.hid (fun w => sz_fit mn mx gi A n c (1048576 - s.size) (by omega) (by omega) w)
  have hle2 : ¬ (1048576 : Int) - s.size - n < 0 := by omega
  generalize (1048576 : Int) - s.size - n = l2 at C2 hle2
  generalize (1048576 : Int) - s.size = l at C C2 hle
  have HA := Lib.hid hA
  have CL := Lib.hid (fun w => to_last s x w)
  have CF := Lib.hid (fun w => to_any (a 0) (a 1) (a 2) (a 3) w)
  have CT := Lib.hid (fun w h => to_fit mn mx gi A n c f hn w h)
  have CE := Lib.hid (fun A1 A2 c1 c2 w h1 h2 => eq_fit mn mx gi A1 A2 n c1 c2 f hn w h1 h2)
  have CS := Lib.hid (fun A c w h => spec_MayFit s x a mn mx gi A n c f hs hn w h)
  have CI := Lib.hid (fun A c w h => impl_MayFit gaps_said s x a mn mx gi A n c f hs hn hw w h)
  unfold TwoMayFit at CS CI
  generalize mayV s x a mn mx gi n f = V at CS CI
  generalize mayC s x a mn mx gi n f = CC at CS CI
  have n0 : (V != V) = false := by simp
  have n1 : (CC != CC) = false := by simp
  clear hA hw
  obtain ⟨kx, ka, kf⟩ := Co.three w (laC s x 23) (ftC a 25) (fiC mn mx gi A n c 28)
  have HW := Lib.hid (Co.below3 w (laC s x 23) (ftC a 25) (fiC mn mx gi A n c 28))
  have KX := Lib.hid kx
  have KA := Lib.hid ka
  have KF := Lib.hid kf
  clear kx ka kf
  go_enter Try.func3, Try.ntmps3
  go_wp2_with fail
  refine (C.out _).mono ?_
  rintro e w1 ⟨rfl, b1⟩
  have B1 := Lib.hid (below_then HW.out b1)
  have KX1 := Lib.hid (Ge.blk_keep b1 KX.out)
  have KA1 := Lib.hid (Ge.blk_keep b1 KA.out)
  have KF1 := Lib.hid (Ge.blk_keep b1 KF.out)
  clear b1 KX KA KF HW C
  obtain ⟨z0, z1, z2, z3⟩ := Ge.blk4 KF1.out
  go_wp2_with fail
  refine (C2.out _).mono ?_
  rintro e w2 ⟨rfl, b2⟩
  have B2 := Lib.hid (below_then B1.out b2)
  have KX2 := Lib.hid (Ge.blk_keep b2 KX1.out)
  have KA2 := Lib.hid (Ge.blk_keep b2 KA1.out)
  have KF2 := Lib.hid (Ge.blk_keep b2 KF1.out)
  clear b2 z0 z1 z2 z3 KX1 KA1 KF1 B1 C2
  have HA2 := Lib.hid ((HA.out.below B2.out (Nat.le_refl _)).more B2.out.size)
  obtain ⟨x0, x1, x2, x3, x4, x5⟩ := Ge.blk6 KX2.out
  obtain ⟨y0, y1, y2, y3⟩ := Ge.blk4 KA2.out
  obtain ⟨z0, z1, z2, z3⟩ := Ge.blk4 KF2.out
  have lx := Ge.lt_of_heap KX2.out
  have la := Ge.lt_of_heap KA2.out
  have lf := Ge.lt_of_heap KF2.out
  have HAt : Hid (∀ W, Below w2.heap.size w2 W → Nums W W.heap.size A n f) := Lib.hid fun W h => (HA2.out.below h (Nat.le_refl _)).more h.size
  go_wp2_with fail
  go_cut [8, 9] (fun s8 s9 wx => s8 = .bool V ∧ s9 = .int .i64 CC ∧ Below w2.heap.size w2 wx)
  case first =>
    clear CE CI KX2 KA2 KF2 HA HA2 B2
    go_region_held3 (fun w' => w'.cell? ⟨w.heap.size, 0, none⟩ = some (.string s) ∧ w'.cell? ⟨w.heap.size, 1, none⟩ = some (.int .i64 (x 0)) ∧ w'.cell? ⟨w.heap.size, 2, none⟩ = some (.int .i64 (x 1)) ∧ w'.cell? ⟨w.heap.size, 3, none⟩ = some (.int .i64 (x 2)) ∧ w'.cell? ⟨w.heap.size, 4, none⟩ = some (.int .i64 (x 3)) ∧ w'.cell? ⟨w.heap.size, 5, none⟩ = some (.int .i64 (x 4)) ∧ w'.cell? ⟨w.heap.size + 1, 0, none⟩ = some (.int .i64 (a 0)) ∧ w'.cell? ⟨w.heap.size + 1, 1, none⟩ = some (.int .i64 (a 1)) ∧ w'.cell? ⟨w.heap.size + 1, 2, none⟩ = some (.int .i64 (a 2)) ∧ w'.cell? ⟨w.heap.size + 1, 3, none⟩ = some (.int .i64 (a 3)) ∧ w'.cell? ⟨w.heap.size + 1 + 1, 0, none⟩ = some (.int .i64 mn) ∧ w'.cell? ⟨w.heap.size + 1 + 1, 1, none⟩ = some (.int .i64 mx) ∧ w'.cell? ⟨w.heap.size + 1 + 1, 2, none⟩ = some (.int .i64 gi) ∧ w'.cell? ⟨w.heap.size + 1 + 1, 3, none⟩ = some (.slice A n c))
      (first | (refine ⟨?_, ?_, ?_, ?_, ?_, ?_, ?_, ?_, ?_, ?_, ?_, ?_, ?_, ?_⟩ <;> (refine keep_of (w2 := w2) ?_ (by omega) (by assumption); (repeat (first | (with_reducible exact Below.refl _ _) | (with_reducible exact BN) | refine Below.drew ?_)))))
      (first | (go_at_call 16; (with_reducible refine (CL.out _).mono ?_); rintro e wa ⟨rfl, ba⟩; have BN := below_then (w0 := w2) ?_ ba; rotate_left; (focus (repeat (first | (with_reducible exact Below.refl _ _) | (with_reducible exact BN) | refine Below.drew ?_))); (try (have H6 := At.below (by exact H6) ba))) | (go_at_call 17; (with_reducible refine (CF.out _).mono ?_); rintro e wa ⟨rfl, ba⟩; have BN := below_then (w0 := w2) ?_ ba; rotate_left; (focus (repeat (first | (with_reducible exact Below.refl _ _) | (with_reducible exact BN) | refine Below.drew ?_))); (try (have H6 := At.below (by exact H6) ba))) | (go_at_call 18; (with_reducible refine (CT.out _ (HAt.out _ ?_)).mono ?_); (focus (repeat (first | (with_reducible exact Below.refl _ _) | (with_reducible exact BN) | refine Below.drew ?_))); rintro e wa ⟨g6, rfl, _, H6, ba⟩; have BN := below_then (w0 := w2) ?_ ba; rotate_left; (focus (repeat (first | (with_reducible exact Below.refl _ _) | (with_reducible exact BN) | refine Below.drew ?_)))) | (go_at_call 15; (with_reducible refine (CS.out _ _ _ ?_).mono ?_); (focus (exact at_nums H6)); rintro e wa ⟨rfl, ba⟩; have BN := below_then (w0 := w2) ?_ ba; rotate_left; (focus (repeat (first | (with_reducible exact Below.refl _ _) | (with_reducible exact BN) | refine Below.drew ?_)))))
    all_goals
      go_wp2_with fail
      go_meet
      refine ⟨rfl, rfl, ?_⟩
      first | (with_reducible exact BN) | (refine Below.drew ?_; with_reducible exact BN)
  case rest =>
    obtain ⟨rfl, rfl, bc⟩ := hcut
    have B3 := Lib.hid (below_then B2.out bc)
    have KX3 := Lib.hid (Ge.blk_keep bc KX2.out)
    have KA3 := Lib.hid (Ge.blk_keep bc KA2.out)
    have KF3 := Lib.hid (Ge.blk_keep bc KF2.out)
    clear x0 x1 x2 x3 x4 x5 y0 y1 y2 y3 z0 z1 z2 z3 lx la lf bc KX2 KA2 KF2 B2 HA2 HAt CS
    obtain ⟨z0, z1, z2, z3⟩ := Ge.blk4 KF3.out
    go_wp2_with fail
    refine (CT.out _ ((HA.out.below B3.out (Nat.le_refl _)).more B3.out.size)).mono ?_
    rintro e w4 ⟨g4, rfl, _, H4, b4⟩
    have B4 := Lib.hid (below_then B3.out b4)
    have KX4 := Lib.hid (Ge.blk_keep b4 KX3.out)
    have KA4 := Lib.hid (Ge.blk_keep b4 KA3.out)
    have KF4 := Lib.hid (Ge.blk_keep b4 KF3.out)
    clear b4 z0 z1 z2 z3 KX3 KA3 KF3 B3
    have bb := below_box w4 (fiC mn mx gi (some ⟨g4, 0, none⟩) n n 37)
    have B5 := Lib.hid (below_then B4.out bb)
    have H5 := Lib.hid (H4.below bb)
    have KX5 := Lib.hid (Ge.blk_keep bb KX4.out)
    have KA5 := Lib.hid (Ge.blk_keep bb KA4.out)
    have KF5 := Lib.hid (Ge.blk_keep bb KF4.out)
    have KG5 := Lib.hid (heap_alloc_new w4 (fiC mn mx gi (some ⟨g4, 0, none⟩) n n 37))
    have e4 : Hid (g4 < w4.heap.size) := Lib.hid H4.1
    clear H4 KX4 KA4 KF4 B4 bb
    go_wp2_with fail
    generalize hs4 : w4.heap.size = s4 at KG5 e4 ⊢
    generalize w4.alloc (fiC mn mx gi (some ⟨g4, 0, none⟩) n n 37) = w5 at B5 H5 KX5 KA5 KF5 KG5 ⊢
    clear hs4
    obtain ⟨x0, x1, x2, x3, x4, x5⟩ := Ge.blk6 KX5.out
    obtain ⟨y0, y1, y2, y3⟩ := Ge.blk4 KA5.out
    obtain ⟨q0, q1, q2, q3⟩ := Ge.blk4 KG5.out
    have x0 := bey_cell x0
    have x1 := bey_cell x1
    have x2 := bey_cell x2
    have x3 := bey_cell x3
    have x4 := bey_cell x4
    have x5 := bey_cell x5
    have y0 := bey_cell y0
    have y1 := bey_cell y1
    have y2 := bey_cell y2
    have y3 := bey_cell y3
    have q0 := bey_cell q0
    have q1 := bey_cell q1
    have q2 := bey_cell q2
    have q3 := bey_cell q3
    have CI5 := Lib.hid (fun p : Beyond w5 => CI.out (some ⟨g4, 0, none⟩) n p.to (at_nums (H5.out.below p.h)))
    clear CI
    refine wp_region_below (by kernel_rfl) (by kernel_rfl) ?_
    repeat (go_big_quiet_step ((first | (go_at_call 16; exact bey_of _ (CL.out _)) | (go_at_call 17; exact bey_of _ (CF.out _)) | (go_at_call 19; exact bey_of _ (CI5.out _)))))
    refine wpQuiet_nil ?_
    rintro _ ⟨pq, rfl⟩
    have B6 := Lib.hid (below_then B5.out pq.h)
    have H6 := Lib.hid (H5.out.below pq.h)
    have KF6 := Lib.hid (Ge.blk_keep pq.h KF5.out)
    have KG6 := Lib.hid (Ge.blk_keep pq.h KG5.out)
    generalize pq.to = w6 at B6 H6 KF6 KG6 ⊢
    clear x0 x1 x2 x3 x4 x5 y0 y1 y2 y3 q0 q1 q2 q3 CI5 KX5 KA5 KF5 KG5 H5 B5 CL CF
    obtain ⟨y0, y1, y2, y3⟩ := Ge.blk4 KG6.out
    obtain ⟨z0, z1, z2, z3⟩ := Ge.blk4 KF6.out
    have lf := Ge.lt_of_heap KF6.out
    have lg := Ge.lt_of_heap KG6.out
    have HA6 := Lib.hid ((HA.out.below B6.out (Nat.le_refl _)).more B6.out.size)
    clear HA
    go_wp2_with fail
    go_region_held3 (fun w' => w'.cell? ⟨w.heap.size + 1 + 1, 0, none⟩ = some (.int .i64 mn) ∧ w'.cell? ⟨w.heap.size + 1 + 1, 1, none⟩ = some (.int .i64 mx) ∧ w'.cell? ⟨w.heap.size + 1 + 1, 2, none⟩ = some (.int .i64 gi) ∧ w'.cell? ⟨w.heap.size + 1 + 1, 3, none⟩ = some (.slice A n c) ∧ w'.cell? ⟨s4, 0, none⟩ = some (.int .i64 mn) ∧ w'.cell? ⟨s4, 1, none⟩ = some (.int .i64 mx) ∧ w'.cell? ⟨s4, 2, none⟩ = some (.int .i64 gi) ∧ w'.cell? ⟨s4, 3, none⟩ = some (.slice (some ⟨g4, 0, none⟩) n n))
      (first | (refine ⟨?_, ?_, ?_, ?_, ?_, ?_, ?_, ?_⟩ <;> (refine keep_of (w2 := w6) ?_ (by omega) (by assumption); (repeat (first | (with_reducible exact Below.refl _ _) | (with_reducible exact B8) | (with_reducible exact B7) | refine Below.drew ?_)))))
      (first | (go_at_call 18; with_reducible refine (CT.out _ (nums_drew HA6.out ?_)).mono ?_; (focus (first | (with_reducible exact .inl rfl) | (with_reducible exact .inr rfl))); rintro e w7 ⟨g7, rfl, q7, H7, b7⟩; have B7 := below_then (w0 := w6) ?_ b7; rotate_left; (focus (repeat (first | (with_reducible exact Below.refl _ _) | refine Below.drew ?_))); have H8 := H6.out.below B7) | (go_at_call 20; with_reducible refine (CE.out _ _ _ _ _ (nums_drew (at_nums H8) ?_) (nums_drew (at_nums H7.out) ?_)).mono ?_; (focus (first | (with_reducible exact .inl rfl) | (with_reducible exact .inr rfl))); (focus (first | (with_reducible exact .inl rfl) | (with_reducible exact .inr rfl))); rintro e w8 ⟨rfl, b8⟩; have B8 := below_then (w0 := w6) ?_ b8; rotate_left; (focus (repeat (first | (with_reducible exact Below.refl _ _) | (with_reducible exact B8) | (with_reducible exact B7) | refine Below.drew ?_)))))
    all_goals
      have HF := Lib.hid (below_then B6.out B8)
      clear b7 b8 B7 B8 H7 H8 y0 y1 y2 y3 z0 z1 z2 z3
      go_wp2_with fail
      go_ret
      exact ⟨rfl, HF.out⟩

/-- Numbers, by place. -/
def five (l b i h p : Int) : Nat → Int
  | 0 => l
  | 1 => b
  | 2 => i
  | 3 => h
  | _ => p
/-- The law. -/
theorem law (s : ByteArray) (l b i h q : Int) (l' b' i' h' : Int) (mn mx gi : Int) (A : Option Addr) (n c : Nat) (f : Nat → Int) (w : World) (hs : s.size ≤ maxLen) (_ : (Lit.int .i64 l).wf = true) (_ : (Lit.int .i64 b).wf = true) (_ : (Lit.int .i64 i).wf = true) (_ : (Lit.int .i64 h).wf = true) (_ : (Lit.int .i64 q).wf = true)
    (w0 : (Lit.int .i64 l').wf = true) (w1 : (Lit.int .i64 b').wf = true) (w2 : (Lit.int .i64 i').wf = true) (w3 : (Lit.int .i64 h').wf = true) (_ : (Lit.int .i64 mn).wf = true) (_ : (Lit.int .i64 mx).wf = true) (_ : (Lit.int .i64 gi).wf = true) (hm : n ≤ maxLen) (hA : Nums w w.heap.size A n f) :
    Calls Try.prog 3 #[.agg #[.string s, .int .i64 l, .int .i64 b, .int .i64 i, .int .i64 h, .int .i64 q], .agg #[.int .i64 l', .int .i64 b', .int .i64 i', .int .i64 h'], .agg #[.int .i64 mn, .int .i64 mx, .int .i64 gi, .slice A n c]] w fun e w' => e = .returned (.bool true) ∧ Below w.heap.size w w' := by
  show Calls Try.prog 3 #[laV s (five l b i h q), ftV (five l' b' i' h' 0), fitV mn mx gi A n c] w _
  have hw : ∀ j, j < 4 → (Lit.int .i64 (five l' b' i' h' 0 j)).wf = true := fun j hj => by
    obtain rfl | rfl | rfl | rfl : j = 0 ∨ j = 1 ∨ j = 2 ∨ j = 3 := by omega
    · exact w0
    · exact w1
    · exact w2
    · exact w3
  generalize five l b i h q = x
  generalize five l' b' i' h' 0 = a at hw ⊢
  by_cases hbig : 1048576 < s.size
  · have C := Lib.hid (fun w => sz_last_big s x 1048576 (by omega) hs (by omega) (by omega) w)
    have HW := Lib.hid (Co.below3 w (laC s x 23) (ftC a 25) (fiC mn mx gi A n c 28))
    clear hA hw
    go_enter Try.func3, Try.ntmps3
    go_wp2_with fail
    refine (C.out _).mono ?_
    rintro e w1 ⟨rfl, b1⟩
    have HB := Lib.hid (below_then HW.out b1)
    clear b1
    go_wp2_with fail
    go_ret
    exact ⟨rfl, HB.out⟩
  by_cases hbig2 : 1048576 - s.size < n
  · have C := Lib.hid (fun w => sz_last s x 1048576 (by omega) (by omega) w)
    have hle : ¬ (1048576 : Int) - s.size < 0 := by omega
    have C2 := Lib.hid (fun w => sz_fit_big mn mx gi A n c (1048576 - s.size) (by omega) hm (by omega) (by omega) w)
    generalize (1048576 : Int) - s.size = l at C C2 hle
    obtain ⟨_, _, kf⟩ := Co.three w (laC s x 23) (ftC a 25) (fiC mn mx gi A n c 28)
    have HW := Lib.hid (Co.below3 w (laC s x 23) (ftC a 25) (fiC mn mx gi A n c 28))
    have KF := Lib.hid kf
    clear hA hw kf hbig2
    go_enter Try.func3, Try.ntmps3
    go_wp2_with fail
    refine (C.out _).mono ?_
    rintro e w1 ⟨rfl, b1⟩
    have HB := Lib.hid (below_then HW.out b1)
    have KF1 := Lib.hid (Ge.blk_keep b1 KF.out)
    clear b1
    obtain ⟨z0, z1, z2, z3⟩ := Ge.blk4 KF1.out
    go_wp2_with fail
    refine (C2.out _).mono ?_
    rintro e w2 ⟨rfl, b2⟩
    have HB2 := Lib.hid (below_then HB.out b2)
    clear b2
    go_wp2_with fail
    go_ret
    exact ⟨rfl, HB2.out⟩
  exact core s x a mn mx gi A n c f w hs hw hA (by omega) (by omega)
end Go.Proofs.Ytaoknbhpjnileab.My
