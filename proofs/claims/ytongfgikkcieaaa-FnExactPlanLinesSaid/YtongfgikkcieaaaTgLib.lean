/- Hides: the program's UsedShare. -/
import Derived.Test.YtongfgikkcieaaaTfLib
namespace Go.Proofs.Ytongfgikkcieaaa.Tg
set_option linter.unusedVariables false
open Go.RowKit Ft Is Ge Qb Hd Ts H2 H5 H6 H8 T1 T2 T3 T4 T5 T6 T7 T8 T9 Te Tf
open Go.Proofs.Ytongfgikkcieaaa.Nm (byt byt_of)

theorem us_any {n : Nat} {f : Nat → ByteArray} {k : Nat} {g : Nat → Int} {m : Nat} {p : Nat → Int} (h : gdC n f k g m p = 0) : HideP n f ∧ CutsP k g ∧ m = k ∧ ∀ j, j < m → ¬ WrongP n (f 0).size (qf f) g p j := by
  obtain ⟨h1, h2⟩ := gd_ok h
  obtain ⟨h3, h4, h5, h6⟩ := plc_ok h1
  refine ⟨h3, h4, h6, fun j hj e => ?_⟩
  rcases ff_cases (fun i => tv (WrongP n (f 0).size (qf f) g p i)) m with ⟨_, q⟩ | ⟨i, _, _, _, q⟩
  · have := q j hj
    rw [tv_yes e] at this
    cases this
  · have : flI n f g p m = (i : Int) := q
    omega
set_option maxRecDepth 100000 in
set_option maxHeartbeats 2000000 in
theorem impl_us (A : Option Addr) (n c : Nat) (f : Nat → ByteArray) (G : Option Addr) (k gc : Nat) (g : Nat → Int) (P : Option Addr) (m pc : Nat) (p : Nat → Int) (hn : n ≤ 1048576) (hs : ∀ i, i < n → (f i).size ≤ 1048576) (hk : k ≤ 1048576) (hm : m ≤ 1048576) (hcap : n ≤ c) (w : World) (h : H6.Ask w A n f G k g P m p) :
    Calls Try.prog 45 #[.slice A n c, .slice G k gc, .slice P m pc] w (UsAt n f k g m p w) := by
  have C := Lib.hid (fun W (hb : Below w.heap.size w W) => isound A n c f G k gc g P m pc p hn hs hk hm hcap W (h.below hb))
  have HBX := Lib.hid (fun w n C s a b c d P u fa => below_box w (lyC n C s a b c d P u fa))
  have HKX := Lib.hid (fun w n C s a b c d P u fa => heap_alloc_new w (lyC n C s a b c d P u fa))
  have V0 : Hid (∀ cd, gdC n f k g m p = cd → ¬ cd = 0 → ∀ W, Below w.heap.size w W → UsAt n f k g m p w (.returned (.tuple #[.agg #[.int .i64 0, .int .i64 0], .int .i64 cd])) W) := Lib.hid fun cd e h W hb => by
    have hc : usC n f k g m p = cd := by unfold usC; rw [if_neg (by rw [e]; exact h), e]
    refine ⟨?_, hb⟩
    unfold usA usB
    rw [hc, if_neg h, if_neg h]
  have V1 : Hid (gdC n f k g m p = 0 → gdH f n = 0 → ∀ W, Below w.heap.size w W → UsAt n f k g m p w (.returned (.tuple #[.agg #[.int .i64 0, .int .i64 0], .int .i64 3])) W) := Lib.hid fun e h W hb => by
    have hc : usC n f k g m p = 3 := by unfold usC; rw [if_pos e, if_pos h]
    refine ⟨?_, hb⟩
    unfold usA usB
    rw [hc]
    rfl
  have V2 : Hid (gdC n f k g m p = 0 → ¬ gdH f n = 0 → ∀ W, Below w.heap.size w W → UsAt n f k g m p w (.returned (.tuple #[.agg #[.int .i64 (usI g p m / Nh.gc (usI g p m) (gdH f n)), .int .i64 (gdH f n / Nh.gc (usI g p m) (gdH f n))], .int .i64 0])) W) := Lib.hid fun e h W hb => by
    have hc : usC n f k g m p = 0 := by unfold usC; rw [if_pos e, if_neg h]
    refine ⟨?_, hb⟩
    unfold usA usB
    rw [hc, if_pos rfl, if_pos rfl]
  have BX := Lib.hid (below_box w (frC 0 0))
  have KX := Lib.hid (heap_alloc_new w (frC 0 0))
  clear h
  generalize UsAt n f k g m p w = Q at V0 V1 V2 ⊢
  go_enter Try.func45, Try.ntmps45
  go_upto_region 1 with fail
  generalize hw0 : w.alloc _ = w0 at BX KX ⊢
  clear hw0
  have C0 := Lib.hid (C.out w0 BX.out)
  have hz0 := Lib.hid (lt_of_heap KX.out)
  go_wp2_with fail
  refine C0.out.mono ?_
  intro e w1 hl
  rcases hl with ⟨h2, rfl, b1⟩ | ⟨h1, P', rfl, b1, _, _⟩
  · have HF := Lib.hid (V0.out _ rfl h2)
    have hcd : (gdC n f k g m p != 0) = true := by simpa using h2
    generalize gdC n f k g m p = cd at HF hcd
    have HB := Lib.hid (below_then BX.out (below_then b1 (HBX.out w1 0 0 ⟨#[]⟩ 0 0 0 0 (.slice none 0 0) 0 0)))
    have KX1 := Lib.hid (blk_old lyZo (blk_keep b1 KX.out))
    clear V0 V1 V2 HBX HKX b1 h2 BX KX C C0
    go_upto_region 2 with fail
    generalize hw2 : w1.alloc _ = w2 at HB KX1 ⊢
    clear hw2
    obtain ⟨z0, z1⟩ := blk2 KX1.out
    have hfr := free_row KX1.out
    go_wp2_with fail
    refine bodyPost_ret (v := .tuple #[.agg #[.int .i64 0, .int .i64 0], .int .i64 cd]) (by simp [results, Try.results45, go_sem, z0, z1]) rfl (HF.out _ ?_)
    exact (HB.out.setCell (by simp) _).setCell (by simp) _
  obtain ⟨hH, hCu, rfl, hwr⟩ := us_any h1
  have hal := hide_al hH
  have hn6 := hal.2.1
  have hC := hal.2.2
  have hk4 := hCu.2
  have HC1 := gd_count hal
  have HC2 := us_count (q := qf f) hn6.2 hC (m := m) (fun j hj => by have := cu_in (hCu.1 j hj); omega) hwr
  have hg64 := gd_64 (n := n) (C := (f 0).size) (qf f) 1 hn6.2 hC.2
  have hu64 := us_64 (f 0).size g p m
  have N1 := Lib.hid (fun w => icount (gdN n (f 0).size (qf f) 1) hg64 w)
  have N2 := Lib.hid (fun w => icount (usN (f 0).size g p m) hu64 w)
  rw [HC1] at N1
  rw [HC2] at N2
  have hi1 := gdh_in hH (Nat.le_refl n)
  have hi2 := us_in (p := p) hCu (Nat.le_refl m)
  have LW := Lib.hid (fun h0 w => Fr.low_any (usI g p m) (gdH f n) hi2.1 h0 (by omega) (by omega) w)
  have HB := Lib.hid (below_then BX.out (below_then b1 (HBX.out w1 n (f 0).size (jnS f n) (gdN n (f 0).size (qf f) 0) (gdN n (f 0).size (qf f) 1) (gdN n (f 0).size (qf f) 2) (gdN n (f 0).size (qf f) 3) (.slice (some ⟨P', 0, none⟩) m m) (usN (f 0).size g p m) (-1))))
  have KX1 := Lib.hid (blk_old (lyC n (f 0).size (jnS f n) (gdN n (f 0).size (qf f) 0) (gdN n (f 0).size (qf f) 1) (gdN n (f 0).size (qf f) 2) (gdN n (f 0).size (qf f) 3) (.slice (some ⟨P', 0, none⟩) m m) (usN (f 0).size g p m) (-1)) (blk_keep b1 KX.out))
  have KL := Lib.hid (HKX.out w1 n (f 0).size (jnS f n) (gdN n (f 0).size (qf f) 0) (gdN n (f 0).size (qf f) 1) (gdN n (f 0).size (qf f) 2) (gdN n (f 0).size (qf f) 3) (.slice (some ⟨P', 0, none⟩) m m) (usN (f 0).size g p m) (-1))
  have hne : w.heap.size ≠ w1.heap.size := by have := hz0.out; have := b1.size; omega
  have W1 := Lib.hid (V1.out h1)
  have W2 := Lib.hid (V2.out h1)
  generalize gdN n (f 0).size (qf f) 0 = g0 at HB KX1 KL ⊢
  generalize gdN n (f 0).size (qf f) 1 = g1 at HB KX1 KL N1 ⊢
  generalize gdN n (f 0).size (qf f) 2 = g2 at HB KX1 KL ⊢
  generalize gdN n (f 0).size (qf f) 3 = g3 at HB KX1 KL ⊢
  generalize jnS f n = S at HB KX1 KL ⊢
  generalize usN (f 0).size g p m = u at HB KX1 KL N2 ⊢
  generalize (f 0).size = D at HB KX1 KL ⊢
  generalize gdH f n = a at N1 LW W1 W2 hi1
  generalize usI g p m = b at N2 LW W2 hi2
  clear V0 V1 V2 HBX HKX b1 BX KX C C0 hz0 hH hCu hwr hal hC HC1 HC2 hg64 hu64 h1
  go_upto_region 2 with fail
  generalize hw2 : w1.alloc _ = w2 at HB KX1 KL ⊢
  clear hw2
  generalize w1.heap.size = L at KL hne ⊢
  have hne2 : L ≠ w.heap.size := fun e => hne e.symm
  obtain ⟨l0, l1, l2, l3, l4, l5, l6, l7, l8, l9⟩ := blk10 KL.out
  obtain ⟨z0, z1⟩ := blk2 KX1.out
  have hfr := free_row KX1.out
  go_wp2_with fail
  refine (N1.out _).mono ?_
  rintro e w' ⟨rfl, rfl⟩
  by_cases ha : a = 0
  · have HF := Lib.hid (W1.out ha)
    subst ha
    clear W1 W2 LW N1 N2
    go_wp2_with fail
    refine bodyPost_ret (v := .tuple #[.agg #[.int .i64 0, .int .i64 0], .int .i64 3]) (by simp [results, Try.results45, go_sem, z0, z1]) rfl (HF.out _ ?_)
    exact (HB.out.setCell (by simp) _).setCell (by simp) _
  · have HF := Lib.hid (W2.out ha)
    have LW := Lib.hid (LW.out (by omega))
    have hab : (a == 0) = false := beq_eq_false_iff_ne.2 ha
    generalize b / Nh.gc b a = x at HF LW
    generalize a / Nh.gc b a = y at HF LW
    clear W1 W2 N1 ha
    go_wp2_with fail
    refine (N2.out _).mono ?_
    rintro e w' ⟨rfl, rfl⟩
    clear l0 l1 l2 l3 l4 l5 l6 l7 l8 l9 KL
    go_wp2_with fail
    refine (LW.out _).mono ?_
    rintro e w3 ⟨rfl, b3⟩
    have HB3 := Lib.hid (below_then HB.out b3)
    have KX3 := Lib.hid (blk_keep b3 KX1.out)
    clear b3 LW z0 z1 hfr
    obtain ⟨z0, z1⟩ := blk2 KX3.out
    have hfr := free_row KX3.out
    go_wp2_with fail
    refine bodyPost_ret (v := .tuple #[.agg #[.int .i64 x, .int .i64 y], .int .i64 0]) (by simp [results, Try.results45, go_sem, z0, z1]) rfl (HF.out _ ?_)
    exact (HB3.out.setCell (by simp) _).setCell (by simp) _
end Go.Proofs.Ytongfgikkcieaaa.Tg
