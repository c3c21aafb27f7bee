/- Hides: the program's soundLayout, PlanFault, PlanWorth. -/
import Derived.Test.YtongfgikkcieaaaT8Lib
namespace Go.Proofs.Ytongfgikkcieaaa.T9
set_option linter.unusedVariables false
open Go.RowKit Ft Is Ge Qb Hd Ts H2 H5 H6 T1 T2 T3 T4 T5 T6 T7 T8
open Go.Proofs.Ytongfgikkcieaaa.Nm (byt byt_of)

theorem ilay (A : Option Addr) (n c : Nat) (f : Nat → ByteArray) (G : Option Addr) (k gc : Nat) (g : Nat → Int) (P : Option Addr) (m pc : Nat) (p : Nat → Int) (hn : n ≤ 1048576) (hs : ∀ i, i < n → (f i).size ≤ 1048576) (hk : k ≤ 1048576) (hm : m ≤ 1048576) (hcap : n ≤ c) (w : World) (h : H6.Ask w A n f G k g P m p) :
    Calls Try.prog 76 #[.slice A n c, .slice G k gc, .slice P m pc] w (LyAt n f k g m p w) := by
  by_cases e : plC n f k g m p = 0
  · exact lay_ok A n c f G k gc g P m pc p hn hs hk hm hcap w h e
  · exact lay_bad A n c f G k gc g P m pc p hn hs hk hm hcap w h e
/-- A layout without a fault. -/
def SlAt (n : Nat) (f : Nat → ByteArray) (k : Nat) (g : Nat → Int) (m : Nat) (p : Nat → Int) (w : World) (e : Ending) (w' : World) : Prop :=
  (¬ gdC n f k g m p = 0 ∧ e = .returned (.tuple #[lyZ, .int .i64 (gdC n f k g m p)]) ∧ Below w.heap.size w w') ∨
  (gdC n f k g m p = 0 ∧ ∃ P, e = .returned (.tuple #[lyV n (f 0).size (jnS f n) (gdN n (f 0).size (qf f) 0) (gdN n (f 0).size (qf f) 1) (gdN n (f 0).size (qf f) 2) (gdN n (f 0).size (qf f) 3) (.slice (some ⟨P, 0, none⟩) k k) (usN (f 0).size g p k) (-1), .int .i64 0]) ∧ Below w.heap.size w w' ∧ w.heap.size ≤ P ∧ w'.heap[P]? = some (pcO k (foP (f 0).size g p)))
/-- The same, told of letters. -/
theorem lay_cases {n : Nat} {f : Nat → ByteArray} {k : Nat} {g : Nat → Int} {m : Nat} {p : Nat → Int} {w w' : World} {e : Ending} (h : LyAt n f k g m p w e w') :
    (∃ cd, plC n f k g m p = cd ∧ ¬ cd = 0 ∧ e = .returned (.tuple #[lyZ, .int .i64 cd]) ∧ Below w.heap.size w w') ∨
    (plC n f k g m p = 0 ∧ ∃ (n' C' : Int) (s : ByteArray) (a b c d P u : Nat) (fa : Int), flI n f g p m = fa ∧ e = .returned (.tuple #[lyV n' C' s a b c d (.slice (some ⟨P, 0, none⟩) k k) u fa, .int .i64 0]) ∧ Below w.heap.size w w' ∧ w.heap.size ≤ P ∧
      (fa = -1 → lyV n' C' s a b c d (.slice (some ⟨P, 0, none⟩) k k) u fa = lyV n (f 0).size (jnS f n) (gdN n (f 0).size (qf f) 0) (gdN n (f 0).size (qf f) 1) (gdN n (f 0).size (qf f) 2) (gdN n (f 0).size (qf f) 3) (.slice (some ⟨P, 0, none⟩) k k) (usN (f 0).size g p k) (-1) ∧ w'.heap[P]? = some (pcO k (foP (f 0).size g p)))) := by
  rcases h with ⟨h1, h2, h3⟩ | ⟨h1, P, u, h2, h3, h4, h5⟩
  · exact .inl ⟨_, rfl, h1, h2, h3⟩
  · refine .inr ⟨h1, _, _, _, _, _, _, _, P, u, _, rfl, h2, h3, h4, fun e => ?_⟩
    obtain ⟨q1, q2⟩ := h5 e
    refine ⟨?_, q2⟩
    rw [q1, e]
set_option maxRecDepth 100000 in
theorem impl_pf (A : Option Addr) (n c : Nat) (f : Nat → ByteArray) (G : Option Addr) (k gc : Nat) (g : Nat → Int) (P : Option Addr) (m pc : Nat) (p : Nat → Int) (hn : n ≤ 1048576) (hs : ∀ i, i < n → (f i).size ≤ 1048576) (hk : k ≤ 1048576) (hm : m ≤ 1048576) (hcap : n ≤ c) (w : World) (h : H6.Ask w A n f G k g P m p) :
    Calls Try.prog 38 #[.slice A n c, .slice G k gc, .slice P m pc] w (PfAt n f k g m p w) := by
  have C := Lib.hid (ilay A n c f G k gc g P m pc p hn hs hk hm hcap w h)
  have V0 : Hid (∀ cd, plC n f k g m p = cd → ¬ cd = 0 → ∀ W, Below w.heap.size w W → PfAt n f k g m p w (.returned (.tuple #[.int .i64 0, .int .i64 cd])) W) := Lib.hid fun cd e h W hb => ⟨by unfold pfV; rw [if_neg (by rw [e]; exact h), e], hb⟩
  have V1 : Hid (∀ fa, plC n f k g m p = 0 → flI n f g p m = fa → ∀ W, Below w.heap.size w W → PfAt n f k g m p w (.returned (.tuple #[.int .i64 fa, .int .i64 0])) W) := Lib.hid fun fa h e W hb => ⟨by unfold pfV; rw [if_pos h, h, e], hb⟩
  have HBX := Lib.hid (fun w n C s a b c d P u fa => below_box w (lyC n C s a b c d P u fa))
  clear h
  generalize PfAt n f k g m p w = Q at V0 V1 ⊢
  go_enter Try.func38, Try.ntmps38
  go_wp2_with fail
  refine C.out.mono ?_
  intro e w1 hl
  rcases lay_cases hl with ⟨cd, h1, h2, rfl, b1⟩ | ⟨h1, n', C', s, a, b, c', d, P', u, fa, hfa, rfl, b1, _, _⟩
  · have HF := Lib.hid (V0.out cd h1 h2 _ (below_then b1 (HBX.out w1 0 0 ⟨#[]⟩ 0 0 0 0 (.slice none 0 0) 0 0)))
    clear hl C V0 V1 HBX b1 h1 h2
    go_wp2_with fail
    exact HF.out
  · have HF := Lib.hid (V1.out fa h1 hfa _ (below_then b1 (HBX.out w1 n' C' s a b c' d (.slice (some ⟨P', 0, none⟩) k k) u fa)))
    clear hl C V0 V1 HBX b1 h1 hfa
    go_wp2_with fail
    exact HF.out
set_option maxRecDepth 100000 in
set_option maxHeartbeats 1000000 in
theorem isound (A : Option Addr) (n c : Nat) (f : Nat → ByteArray) (G : Option Addr) (k gc : Nat) (g : Nat → Int) (P : Option Addr) (m pc : Nat) (p : Nat → Int) (hn : n ≤ 1048576) (hs : ∀ i, i < n → (f i).size ≤ 1048576) (hk : k ≤ 1048576) (hm : m ≤ 1048576) (hcap : n ≤ c) (w : World) (h : H6.Ask w A n f G k g P m p) :
    Calls Try.prog 79 #[.slice A n c, .slice G k gc, .slice P m pc] w (SlAt n f k g m p w) := by
  have C := Lib.hid (fun W (hb : Below w.heap.size w W) => ilay A n c f G k gc g P m pc p hn hs hk hm hcap W (h.below hb))
  have hfl := fl_in n f g p m
  have V0 : Hid (∀ cd, plC n f k g m p = cd → ¬ cd = 0 → ∀ W, Below w.heap.size w W → SlAt n f k g m p w (.returned (.tuple #[lyZ, .int .i64 cd])) W) := Lib.hid fun cd e h W hb => by
    have hg : gdC n f k g m p = cd := by unfold gdC; rw [if_neg (by rw [e]; exact h), e]
    exact .inl ⟨by rw [hg]; exact h, by rw [hg], hb⟩
  have V1 : Hid (∀ fa, plC n f k g m p = 0 → flI n f g p m = fa → ¬ fa = -1 → ∀ W, Below w.heap.size w W → SlAt n f k g m p w (.returned (.tuple #[lyZ, .int .i64 9])) W) := Lib.hid fun fa h e h2 W hb => by
    have hg : gdC n f k g m p = 9 := by unfold gdC; rw [if_pos h, if_pos (by omega)]
    exact .inl ⟨by rw [hg]; decide, by rw [hg], hb⟩
  have V2 : Hid (plC n f k g m p = 0 → flI n f g p m = -1 → ∀ v W Pb, v = lyV n (f 0).size (jnS f n) (gdN n (f 0).size (qf f) 0) (gdN n (f 0).size (qf f) 1) (gdN n (f 0).size (qf f) 2) (gdN n (f 0).size (qf f) 3) (.slice (some ⟨Pb, 0, none⟩) k k) (usN (f 0).size g p k) (-1) → Below w.heap.size w W → w.heap.size ≤ Pb → W.heap[Pb]? = some (pcO k (foP (f 0).size g p)) → SlAt n f k g m p w (.returned (.tuple #[v, .int .i64 0])) W) := Lib.hid fun h e v W Pb hv hb h1 h2 => by
    have hg : gdC n f k g m p = 0 := by unfold gdC; rw [if_pos h, if_neg (by omega)]
    exact .inr ⟨hg, Pb, by rw [hv], hb, h1, h2⟩
  have HBX := Lib.hid (fun w n C s a b c d P u fa => below_box w (lyC n C s a b c d P u fa))
  have HKX := Lib.hid (fun w n C s a b c d P u fa => heap_alloc_new w (lyC n C s a b c d P u fa))
  have BX := Lib.hid (below_box w lyZo)
  have KX := Lib.hid (heap_alloc_new w lyZo)
  clear h hfl
  generalize SlAt n f k g m p w = Q at V0 V1 V2 ⊢
  go_enter Try.func79, Try.ntmps79
  go_upto_region 1 with fail
  generalize hw0 : w.alloc _ = w0 at BX KX ⊢
  clear hw0
  have C0 := Lib.hid (C.out w0 BX.out)
  have hz0 := Lib.hid (lt_of_heap KX.out)
  go_wp2_with fail
  refine C0.out.mono ?_
  intro e w1 hl
  have hl2 := lay_cases hl
  clear hl C C0
  rcases hl2 with ⟨cd, h1, h2, rfl, b1⟩ | ⟨h1, n', C', s, a, b, c', d, P', u, fa, hfa, rfl, b1, hP', hx⟩
  · have HF := Lib.hid (V0.out cd h1 h2)
    have hcd : (cd != 0) = true := by simpa using h2
    have HB := Lib.hid (below_then BX.out (below_then b1 (HBX.out w1 0 0 ⟨#[]⟩ 0 0 0 0 (.slice none 0 0) 0 0)))
    have KX1 := Lib.hid (blk_old lyZo (blk_keep b1 KX.out))
    clear V0 V1 V2 HBX HKX b1 h1 h2 BX KX
    go_upto_region 2 with fail
    generalize hw2 : w1.alloc _ = w2 at HB KX1 ⊢
    clear hw2
    obtain ⟨z0, z1, z2, z3, z4, z5, z6, z7, z8, z9⟩ := blk10 KX1.out
    have hfr := free_row KX1.out
    go_wp2_with fail
    refine bodyPost_ret (v := .tuple #[lyZ, .int .i64 cd]) (by simp [results, Try.results79, go_sem, z0, z1, z2, z3, z4, z5, z6, z7, z8, z9]) rfl (HF.out _ ?_)
    exact below10 HB.out (Nat.le_refl _) _ _ _ _ _ _ _ _ _ _
  · have HB := Lib.hid (below_then BX.out (below_then b1 (HBX.out w1 n' C' s a b c' d (.slice (some ⟨P', 0, none⟩) k k) u fa)))
    have KX1 := Lib.hid (blk_old (lyC n' C' s a b c' d (.slice (some ⟨P', 0, none⟩) k k) u fa) (blk_keep b1 KX.out))
    have KL := Lib.hid (HKX.out w1 n' C' s a b c' d (.slice (some ⟨P', 0, none⟩) k k) u fa)
    have HX := Lib.hid (fun e : fa = -1 => And.intro (hx e).1 (blk_old (lyC n' C' s a b c' d (.slice (some ⟨P', 0, none⟩) k k) u fa) (hx e).2))
    have hne : w.heap.size ≠ w1.heap.size := by have := hz0.out; have := b1.size; omega
    have hPn : P' ≠ w.heap.size := by have := hz0.out; omega
    have hPw : w.heap.size ≤ P' := by have := hz0.out; omega
    clear V0 HBX HKX b1 BX KX hx hP' hz0
    go_upto_region 2 with fail
    generalize hw2 : w1.alloc _ = w2 at HB KX1 KL HX ⊢
    clear hw2
    generalize w1.heap.size = L at KL hne ⊢
    have hne2 : L ≠ w.heap.size := fun e => hne e.symm
    obtain ⟨z0, z1, z2, z3, z4, z5, z6, z7, z8, z9⟩ := blk10 KX1.out
    obtain ⟨l0, l1, l2, l3, l4, l5, l6, l7, l8, l9⟩ := blk10 KL.out
    have hfr := free_row KX1.out
    by_cases h9 : fa = -1
    · have hv := (HX.out h9).1
      have hpp := (HX.out h9).2
      have HF := Lib.hid (V2.out h1 (by rw [hfa, h9]) (lyV n' C' s a b c' d (.slice (some ⟨P', 0, none⟩) k k) u (-1)))
      have HVe : Hid (lyV n' C' s a b c' d (.slice (some ⟨P', 0, none⟩) k k) u (-1) = lyV n (f 0).size (jnS f n) (gdN n (f 0).size (qf f) 0) (gdN n (f 0).size (qf f) 1) (gdN n (f 0).size (qf f) 2) (gdN n (f 0).size (qf f) 3) (.slice (some ⟨P', 0, none⟩) k k) (usN (f 0).size g p k) (-1)) := Lib.hid (by rw [← hv, h9])
      have HPP := Lib.hid hpp
      subst h9
      clear V1 V2 HX hv hpp hfa h1
      go_wp2_with fail
      refine bodyPost_ret (v := .tuple #[lyV n' C' s a b c' d (.slice (some ⟨P', 0, none⟩) k k) u (-1), .int .i64 0]) (by simp [results, Try.results79, go_sem, z0, z1, z2, z3, z4, z5, z6, z7, z8, z9]) rfl (HF.out _ P' HVe.out ?_ hPw ?_)
      · exact below10 HB.out (Nat.le_refl _) _ _ _ _ _ _ _ _ _ _
      · exact (heap10 hPn _ _ _ _ _ _ _ _ _ _).trans HPP.out
    · have HF := Lib.hid (V1.out fa h1 hfa h9)
      have hfa2 : (fa != -1) = true := by simpa using h9
      clear V1 V2 HX hfa h1
      go_wp2_with fail
      refine bodyPost_ret (v := .tuple #[lyZ, .int .i64 9]) (by simp [results, Try.results79, go_sem, z0, z1, z2, z3, z4, z5, z6, z7, z8, z9]) rfl (HF.out _ ?_)
      exact below10 HB.out (Nat.le_refl _) _ _ _ _ _ _ _ _ _ _
end Go.Proofs.Ytongfgikkcieaaa.T9
