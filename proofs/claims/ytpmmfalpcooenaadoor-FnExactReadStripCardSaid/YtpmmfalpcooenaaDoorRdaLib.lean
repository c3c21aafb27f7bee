/- ReadStrip: plain: what the program cuts off against the spec's splits. -/
import Derived.Test.YtpmmfalpcooenaaDoorRzLib
import Derived.Test.YtpmmfalpcooenaaDoorRlLib
import Derived.Test.YtpmmfalpcooenaaDoorSxLib
namespace Go.Proofs.YtpmmfalpcooenaaDoor.Rda
set_option linter.unusedVariables false
open Go.Lib hiding sm
open St Rn Sx Stv

/-- What is left behind k cuts. -/
def R (L : List UInt8) : Nat → List UInt8
  | 0 => L
  | k + 1 => (cut (R L k) (sm k)).2.1
def T (L : List UInt8) (k : Nat) : List UInt8 := (cut (R L k) (sm k)).1
def Fo (L : List UInt8) (k : Nat) : Bool := (cut (R L k) (sm k)).2.2
def ok (L : List UInt8) (k : Nat) : Bool := Fo L k && rdB (T L k)
def X (L : List UInt8) (k : Nat) : Int := rdN (T L k)
def B (L : List UInt8) : Bool := ok L 0 && ok L 1 && ok L 2 && ok L 3 && decide (R L 4 = []) && stB (X L 0) (X L 1) (X L 2) (X L 3)
def V (L : List UInt8) (k : Nat) : Int := if B L then X L k else 0
theorem r_succ (L : List UInt8) (k : Nat) : R L (k + 1) = (cut (R L k) (sm k)).2.1 := rfl
theorem R_le (L : List UInt8) (k : Nat) : (R L k).length ≤ L.length := by
  induction k with
  | zero => exact Nat.le_refl _
  | succ k ih =>
    rw [r_succ]
    rcases Rl.cut_inv (R L k) (sm k) with h | ⟨a, r, h, e⟩
    · rw [h]; simp
    · rw [h]
      have := congrArg List.length e
      simp at this
      show r.length ≤ _
      omega
theorem T_le (L : List UInt8) (k : Nat) : (T L k).length ≤ L.length := by
  have hR := R_le L k
  unfold T
  rcases Rl.cut_inv (R L k) (sm k) with h | ⟨a, r, h, e⟩
  · rw [h]; exact hR
  · rw [h]
    have := congrArg List.length e
    simp at this
    show a.length ≤ _
    omega
/-- The shape of an edge's text. -/
def Shape (L t0 t1 t2 t3 : List UInt8) : Prop := L = t0 ++ 43 :: (t1 ++ 40 :: (t2 ++ 44 :: (t3 ++ [41]))) ∧ rdB t0 = true ∧ rdB t1 = true ∧ rdB t2 = true ∧ rdB t3 = true
theorem free {t : List UInt8} (h : rdB t = true) {c : UInt8} (hc : c.toNat = 40 ∨ c.toNat = 41 ∨ c.toNat = 43 ∨ c.toNat = 44) : ∀ x ∈ t, x ≠ c := by
  intro x hx e
  subst e
  have := Rz.rd_chars h x hx
  omega
theorem step_of {L : List UInt8} {k : Nat} (h : ok L k = true) : R L k = T L k ++ (sm k ++ R L (k + 1)) ∧ rdB (T L k) = true := by
  unfold ok at h
  simp only [Bool.and_eq_true] at h
  refine ⟨?_, h.2⟩
  have hf := h.1
  unfold Fo at hf
  unfold T
  rw [r_succ]
  rcases Rl.cut_inv (R L k) (sm k) with h' | ⟨a, r, h', e⟩
  · rw [h'] at hf; cases hf
  · rw [h']; exact e
theorem shape_of {L : List UInt8} (h : B L = true) : Shape L (T L 0) (T L 1) (T L 2) (T L 3) := by
  unfold B at h
  simp only [Bool.and_eq_true, decide_eq_true_eq] at h
  obtain ⟨⟨⟨⟨⟨h0, h1⟩, h2⟩, h3⟩, h4⟩, _⟩ := h
  obtain ⟨e0, q0⟩ := step_of h0
  obtain ⟨e1, q1⟩ := step_of h1
  obtain ⟨e2, q2⟩ := step_of h2
  obtain ⟨e3, q3⟩ := step_of h3
  refine ⟨?_, q0, q1, q2, q3⟩
  rw [h4] at e3
  rw [e3] at e2
  rw [e2] at e1
  rw [e1] at e0
  simpa [R, sm] using e0
theorem step_is {L t r : List UInt8} {k : Nat} {c : UInt8} (hk : sm k = [c]) (h : R L k = t ++ c :: r) (hf : ∀ x ∈ t, x ≠ c) : T L k = t ∧ Fo L k = true ∧ R L (k + 1) = r := by
  have e : cut (R L k) (sm k) = (t, r, true) := by
    rw [h, hk]
    exact Rl.cut_hd (t := []) hf
  unfold T Fo
  rw [r_succ, e]
  exact ⟨rfl, rfl, rfl⟩
theorem of_shape {L t0 t1 t2 t3 : List UInt8} (h : Shape L t0 t1 t2 t3) : T L 0 = t0 ∧ T L 1 = t1 ∧ T L 2 = t2 ∧ T L 3 = t3 ∧ B L = stB (rdN t0) (rdN t1) (rdN t2) (rdN t3) := by
  obtain ⟨e, q0, q1, q2, q3⟩ := h
  obtain ⟨a0, b0, c0⟩ := step_is (L := L) (k := 0) (c := 43) rfl e (free q0 (.inr (.inr (.inl rfl))))
  obtain ⟨a1, b1, c1⟩ := step_is (L := L) (k := 1) (c := 40) rfl c0 (free q1 (.inl rfl))
  obtain ⟨a2, b2, c2⟩ := step_is (L := L) (k := 2) (c := 44) rfl c1 (free q2 (.inr (.inr (.inr rfl))))
  obtain ⟨a3, b3, c3⟩ := step_is (L := L) (k := 3) (c := 41) rfl c2 (free q3 (.inr (.inl rfl)))
  refine ⟨a0, a1, a2, a3, ?_⟩
  unfold B ok X
  rw [a0, a1, a2, a3, b0, b1, b2, b3, q0, q1, q2, q3, c3]
  simp
/-- All but the last byte. -/
def I (L : List UInt8) : List UInt8 := L.take (L.length - 1)
def P (L : List UInt8) (k : Nat) : List UInt8 := (spl 40 (I L)).getD k []
def Lf (L : List UInt8) (k : Nat) : List UInt8 := (spl 43 (P L 0)).getD k []
def Rg (L : List UInt8) (k : Nat) : List UInt8 := (spl 44 (P L 1)).getD k []
theorem last_of (l : List UInt8) : (l ++ [41])[(l ++ [41]).length - 1]? = some 41 := by simp
theorem I_of (l : List UInt8) : I (l ++ [41]) = l := by unfold I; simp
/-- Where the text has the shape, the splits give it. -/
theorem spl_shape {L t0 t1 t2 t3 : List UInt8} (h : Shape L t0 t1 t2 t3) : L[L.length - 1]? = some 41 ∧ spl 40 (I L) = [t0 ++ 43 :: t1, t2 ++ 44 :: t3] ∧ spl 43 (t0 ++ 43 :: t1) = [t0, t1] ∧ spl 44 (t2 ++ 44 :: t3) = [t2, t3] := by
  obtain ⟨e, q0, q1, q2, q3⟩ := h
  have e' : L = (t0 ++ 43 :: (t1 ++ 40 :: (t2 ++ 44 :: t3))) ++ [41] := by rw [e]; simp
  have f0 : ∀ x ∈ t0 ++ 43 :: t1, x ≠ 40 := by
    intro x hx
    simp at hx
    rcases hx with hx | rfl | hx
    · exact free q0 (.inl rfl) x hx
    · decide
    · exact free q1 (.inl rfl) x hx
  have f1 : ∀ x ∈ t2 ++ 44 :: t3, x ≠ 40 := by
    intro x hx
    simp at hx
    rcases hx with hx | rfl | hx
    · exact free q2 (.inl rfl) x hx
    · decide
    · exact free q3 (.inl rfl) x hx
  refine ⟨by rw [e']; exact last_of _, ?_, ?_, ?_⟩
  · rw [e', I_of, show t0 ++ 43 :: (t1 ++ 40 :: (t2 ++ 44 :: t3)) = (t0 ++ 43 :: t1) ++ 40 :: (t2 ++ 44 :: t3) by simp, spl_hit 40 _ _ f0, spl_none 40 _ f1]
  · rw [spl_hit 43 _ _ (free q0 (.inr (.inr (.inl rfl)))), spl_none 43 _ (free q1 (.inr (.inr (.inl rfl))))]
  · rw [spl_hit 44 _ _ (free q2 (.inr (.inr (.inr rfl)))), spl_none 44 _ (free q3 (.inr (.inr (.inr rfl))))]
theorem no_of {L : List UInt8} (h : B L = false) : B L = false ∧ ∀ k, V L k = 0 := ⟨h, fun k => by unfold V; rw [h]; rfl⟩
theorem no_last {L : List UInt8} (h : ¬ L[L.length - 1]? = some 41) : B L = false ∧ ∀ k, V L k = 0 := no_of (by
  cases hb : B L with
  | false => rfl
  | true => exact absurd (spl_shape (shape_of hb)).1 h)
theorem no_nil {L : List UInt8} (h : L = []) : B L = false ∧ ∀ k, V L k = 0 := no_last (by subst h; simp)
theorem no_two {L : List UInt8} (h : ¬ (spl 40 (I L)).length = 2) : B L = false ∧ ∀ k, V L k = 0 := no_of (by
  cases hb : B L with
  | false => rfl
  | true => exact absurd (by rw [(spl_shape (shape_of hb)).2.1]; rfl) h)
theorem P_of {L t0 t1 t2 t3 : List UInt8} (h : Shape L t0 t1 t2 t3) : P L 0 = t0 ++ 43 :: t1 ∧ P L 1 = t2 ++ 44 :: t3 ∧ Lf L 0 = t0 ∧ Lf L 1 = t1 ∧ Rg L 0 = t2 ∧ Rg L 1 = t3 := by
  obtain ⟨_, h1, h2, h3⟩ := spl_shape h
  have p0 : P L 0 = t0 ++ 43 :: t1 := by unfold P; rw [h1]; rfl
  have p1 : P L 1 = t2 ++ 44 :: t3 := by unfold P; rw [h1]; rfl
  refine ⟨p0, p1, ?_, ?_, ?_, ?_⟩
  · unfold Lf; rw [p0, h2]; rfl
  · unfold Lf; rw [p0, h2]; rfl
  · unfold Rg; rw [p1, h3]; rfl
  · unfold Rg; rw [p1, h3]; rfl
theorem no_left {L : List UInt8} (h : ¬ (spl 43 (P L 0)).length = 2) : B L = false ∧ ∀ k, V L k = 0 := no_of (by
  cases hb : B L with
  | false => rfl
  | true => exact absurd (by rw [(P_of (shape_of hb)).1, (spl_shape (shape_of hb)).2.2.1]; rfl) h)
theorem no_right {L : List UInt8} (h : ¬ (spl 44 (P L 1)).length = 2) : B L = false ∧ ∀ k, V L k = 0 := no_of (by
  cases hb : B L with
  | false => rfl
  | true => exact absurd (by rw [(P_of (shape_of hb)).2.1, (spl_shape (shape_of hb)).2.2.2]; rfl) h)
/-- Whether the numbers of the splits are an edge's. -/
def sB (L : List UInt8) : Bool := rdB (Lf L 0) && (rdB (Lf L 1) && (rdB (Rg L 0) && (rdB (Rg L 1) && stB (rdN (Lf L 0)) (rdN (Lf L 1)) (rdN (Rg L 0)) (rdN (Rg L 1)))))
theorem two_is {c : UInt8} {L : List UInt8} (h : (spl c L).length = 2) : L = (spl c L).getD 0 [] ++ c :: (spl c L).getD 1 [] := by
  obtain ⟨p, q, hp⟩ : ∃ p q, spl c L = [p, q] := by
    match hs : spl c L, h with
    | [p, q], _ => exact ⟨p, q, rfl⟩
  rcases Rz.spl_inv hp with ⟨h0, _⟩ | ⟨r, hL, _, h1⟩
  · cases h0
  rcases Rz.spl_inv h1.symm with ⟨_, h2, _⟩ | ⟨_, _, _, h2⟩
  · rw [hp]
    show L = p ++ c :: q
    rw [h2]
    exact hL
  · exact absurd h2.symm (spl_ne _ _)
/-- The spec's answer is the program's. -/
theorem same {L : List UInt8} (h1 : L[L.length - 1]? = some 41) (h2 : (spl 40 (I L)).length = 2) (h3 : (spl 43 (P L 0)).length = 2) (h4 : (spl 44 (P L 1)).length = 2) :
    B L = sB L ∧ (sB L = true → V L 0 = rdN (Lf L 0) ∧ V L 1 = rdN (Lf L 1) ∧ V L 2 = rdN (Rg L 0) ∧ V L 3 = rdN (Rg L 1)) := by
  have key : (rdB (Lf L 0) && (rdB (Lf L 1) && (rdB (Rg L 0) && rdB (Rg L 1)))) = true → Shape L (Lf L 0) (Lf L 1) (Rg L 0) (Rg L 1) := fun h => by
    simp only [Bool.and_eq_true] at h
    refine ⟨?_, h.1, h.2.1, h.2.2.1, h.2.2.2⟩
    have hL : L = I L ++ [41] := by
      obtain ⟨hlt, hv⟩ := List.getElem?_eq_some_iff.1 h1
      unfold I
      conv => lhs; rw [← List.take_append_drop (L.length - 1) L]
      rw [List.drop_eq_getElem_cons hlt, hv]
      simp
      omega
    have e1 := two_is h2
    have e2 := two_is h3
    have e3 := two_is h4
    have e4 : I L = P L 0 ++ 40 :: P L 1 := e1
    have e5 : P L 0 = Lf L 0 ++ 43 :: Lf L 1 := e2
    have e6 : P L 1 = Rg L 0 ++ 44 :: Rg L 1 := e3
    conv => lhs; rw [hL, e4, e5, e6]
    simp
  have hB : B L = sB L := by
    cases hq : (rdB (Lf L 0) && (rdB (Lf L 1) && (rdB (Rg L 0) && rdB (Rg L 1)))) with
    | true =>
      have hs := key hq
      rw [(of_shape hs).2.2.2.2]
      unfold sB
      simp only [Bool.and_eq_true] at hq
      rw [hq.1, hq.2.1, hq.2.2.1, hq.2.2.2]
      rfl
    | false =>
      have : sB L = false := by
        cases hs : sB L with
        | false => rfl
        | true =>
          unfold sB at hs
          simp only [Bool.and_eq_true] at hs
          rw [hs.1, hs.2.1, hs.2.2.1, hs.2.2.2.1] at hq
          cases hq
      rw [this]
      cases hb : B L with
      | false => rfl
      | true =>
        obtain ⟨_, _, p2, p3, p4, p5⟩ := P_of (shape_of hb)
        obtain ⟨_, q0, q1, q2, q3⟩ := shape_of hb
        rw [p2, p3, p4, p5, q0, q1, q2, q3] at hq
        cases hq
  refine ⟨hB, fun h => ?_⟩
  rw [h] at hB
  obtain ⟨_, _, p2, p3, p4, p5⟩ := P_of (shape_of hB)
  rw [p2, p3, p4, p5]
  unfold V X
  rw [hB]
  exact ⟨rfl, rfl, rfl, rfl⟩
end Go.Proofs.YtpmmfalpcooenaaDoor.Rda
