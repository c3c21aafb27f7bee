/- Openings, plain: a run round an opening, and all of them one after another. -/
import Derived.Test.YtpmmfalpcooenabVfLib
namespace Go.Proofs.Ytpmmfalpcooenab.Vg
set_option linter.unusedVariables false
open Go.RowKit Go.Maps Ft Is Ge Qb Pt Pv Za Mm Zb Sdq Sdu Uf Uc Vo Vc

/-- One more place is counted. -/
def ct (C : Nat → Bool) (x : Nat × Nat) (z : Nat) : Bool := decide (z = pc x) || C z
/-- A run of f edges from x, which are not counted yet, to one that is. -/
def Run (ms : Nat → Nat) (ds : Nat → Nat → Int) (S : Nat → Int) (k : Nat) : Nat → (Nat → Bool) → Nat × Nat → Int → (Nat → Bool) → Prop
  | 0, C, x, s, C' => C (pc x) = true ∧ s = 0 ∧ C' = C
  | f + 1, C, x, s, C' => C (pc x) = false ∧ ∃ s', Run ms ds S k f (ct C x) (fol ms S k x) s' C' ∧ s = ds x.1 x.2 + s'
section
variable {ms : Nat → Nat} {ds : Nat → Nat → Int} {S : Nat → Int} {k : Nat}
theorem run_one : ∀ {f f' : Nat} {C : Nat → Bool} {x : Nat × Nat} {s s1 : Int} {C' C1 : Nat → Bool}, Run ms ds S k f C x s C' → Run ms ds S k f' C x s1 C1 → f = f' ∧ s = s1 ∧ C' = C1
  | 0, 0, C, x, s, s1, C', C1, h, h' => ⟨rfl, by rw [h.2.1, h'.2.1], by rw [h.2.2, h'.2.2]⟩
  | 0, f' + 1, C, x, s, s1, C', C1, h, h' => by have := h'.1; rw [h.1] at this; cases this
  | f + 1, 0, C, x, s, s1, C', C1, h, h' => by have := h.1; rw [h'.1] at this; cases this
  | f + 1, f' + 1, C, x, s, s1, C', C1, h, h' => by
    obtain ⟨_, s2, r, e⟩ := h
    obtain ⟨_, s3, r', e'⟩ := h'
    obtain ⟨q1, q2, q3⟩ := run_one r r'
    exact ⟨by omega, by rw [e, e', q2], q3⟩
open Classical in
noncomputable def cyS (ms : Nat → Nat) (ds : Nat → Nat → Int) (S : Nat → Int) (k : Nat) (C : Nat → Bool) (x : Nat × Nat) : Int := if h : ∃ s, ∃ f C', Run ms ds S k f C x s C' then Classical.choose h else 0
open Classical in
noncomputable def cyC (ms : Nat → Nat) (ds : Nat → Nat → Int) (S : Nat → Int) (k : Nat) (C : Nat → Bool) (x : Nat × Nat) : Nat → Bool := if h : ∃ C', ∃ f s, Run ms ds S k f C x s C' then Classical.choose h else C
theorem cy_of {f : Nat} {C : Nat → Bool} {x : Nat × Nat} {s : Int} {C' : Nat → Bool} (h : Run ms ds S k f C x s C') : cyS ms ds S k C x = s ∧ cyC ms ds S k C x = C' := by
  have h1 : ∃ s, ∃ f C', Run ms ds S k f C x s C' := ⟨s, f, C', h⟩
  have h2 : ∃ C', ∃ f s, Run ms ds S k f C x s C' := ⟨C', f, s, h⟩
  constructor
  · unfold cyS
    rw [dif_pos h1]
    obtain ⟨f', C1, r⟩ := Classical.choose_spec h1
    exact (run_one r h).2.1
  · unfold cyC
    rw [dif_pos h2]
    obtain ⟨f', s1, r⟩ := Classical.choose_spec h2
    exact (run_one r h).2.2
end
/-- How many places are not counted. -/
def un (ms : Nat → Nat) (n : Nat) (C : Nat → Bool) : Nat := cc (fun t => !C (gX ms n t)) (sumN ms n)
theorem un_ct {ms : Nat → Nat} {n : Nat} (hm : ∀ i, i < n → ms i ≤ 8) {C : Nat → Bool} {x : Nat × Nat} (hx : x ∈ plc ms n) (h : C (pc x) = false) : un ms n C = un ms n (ct C x) + 1 := by
  obtain ⟨t, ht, e⟩ := eg_of hx
  have hg : gX ms n t = pc x := by unfold gX; rw [e]
  unfold un
  refine cc_flip (t0 := t) (fun q hq hn => ?_) ht (by show (!C (gX ms n t)) = true; rw [hg, h]; rfl) (by show (!ct C x (gX ms n t)) = false; rw [hg]; simp [ct])
  have : gX ms n q ≠ pc x := fun e' => by
    rw [← hg] at e'
    rcases Nat.lt_trichotomy q t with p | p | p
    · have := gX_rise hm p ht; omega
    · exact hn p
    · have := gX_rise hm p hq; omega
  simp [ct, this]
theorem Good.fol_mem {n : Nat} {ms : Nat → Nat} {S : Nat → Int} {k : Nat} (h : Vc.Good n ms S k) {x : Nat × Nat} (hx : x ∈ plc ms n) (ho : mate S k x = none) : fol ms S k x ∈ plc ms n ∧ mate S k (fol ms S k x) = none := by
  obtain ⟨r, _, hf⟩ := h.fol hx ho
  rw [(fr_of hf).2]
  exact ⟨h.it_mem hx r, hf.2.1⟩
theorem run_s {n : Nat} {ms : Nat → Nat} {S : Nat → Int} {k : Nat} (h : Vc.Good n ms S k) {ds : Nat → Nat → Int} (hd : ∀ x : Nat × Nat, x ∈ plc ms n → 0 ≤ ds x.1 x.2 ∧ ds x.1 x.2 ≤ 10000) : ∀ {f : Nat} {C : Nat → Bool} {x : Nat × Nat} {s : Int} {C' : Nat → Bool}, x ∈ plc ms n → mate S k x = none → Run ms ds S k f C x s C' → 0 ≤ s ∧ s ≤ 10000 * f
  | 0, C, x, s, C', _, _, hr => by have := hr.2.1; omega
  | f + 1, C, x, s, C', hx, ho, hr => by
    obtain ⟨_, s2, r, e⟩ := hr
    obtain ⟨m1, m2⟩ := Good.fol_mem h hx ho
    have := run_s h hd m1 m2 r
    have := hd x hx
    omega
theorem run_is {n : Nat} {ms : Nat → Nat} {S : Nat → Int} {k : Nat} (h : Vc.Good n ms S k) (ds : Nat → Nat → Int) : ∀ (u : Nat) (C : Nat → Bool) (x : Nat × Nat), un ms n C = u → x ∈ plc ms n → mate S k x = none → ∃ f s C', f ≤ u ∧ Run ms ds S k f C x s C' := fun u => by
  induction u with
  | zero =>
    intro C x hu hx ho
    cases hc : C (pc x) with
    | true => exact ⟨0, 0, C, Nat.le_refl _, hc, rfl, rfl⟩
    | false => have := un_ct (fun i hi => (h.m1 i hi).2) hx hc; omega
  | succ u ih =>
    intro C x hu hx ho
    cases hc : C (pc x) with
    | true => exact ⟨0, 0, C, Nat.zero_le _, hc, rfl, rfl⟩
    | false =>
      have hu' := un_ct (fun i hi => (h.m1 i hi).2) hx hc
      obtain ⟨m1, m2⟩ := Good.fol_mem h hx ho
      obtain ⟨f, s, C', hf, r⟩ := ih (ct C x) _ (by omega) m1 m2
      exact ⟨f + 1, _, C', by omega, hc, s, r, rfl⟩
theorem un_le (ms : Nat → Nat) (n : Nat) (C : Nat → Bool) : un ms n C ≤ sumN ms n := cc_le _ _
/-- What is counted, and the openings so far. -/
noncomputable def stp (ms : Nat → Nat) (ds : Nat → Nat → Int) (S : Nat → Int) (k : Nat) (p : (Nat → Bool) × List Int) (x : Nat × Nat) : (Nat → Bool) × List Int := if p.1 (pc x) = true then p else (cyC ms ds S k p.1 x, p.2 ++ [cyS ms ds S k p.1 x])
noncomputable def st (ms : Nat → Nat) (ds : Nat → Nat → Int) (S : Nat → Int) (k : Nat) (l : List (Nat × Nat)) : (Nat → Bool) × List Int := l.foldl (stp ms ds S k) (fun _ => false, [])
theorem st_snoc (ms : Nat → Nat) (ds : Nat → Nat → Int) (S : Nat → Int) (k : Nat) (l : List (Nat × Nat)) (x : Nat × Nat) : st ms ds S k (l ++ [x]) = stp ms ds S k (st ms ds S k l) x := by unfold st; rw [List.foldl_append]; rfl
theorem st_len (ms : Nat → Nat) (ds : Nat → Nat → Int) (S : Nat → Int) (k : Nat) (l : List (Nat × Nat)) : (st ms ds S k l).2.length ≤ l.length := by
  unfold st
  have : ∀ (l : List (Nat × Nat)) (p : (Nat → Bool) × List Int), (l.foldl (stp ms ds S k) p).2.length ≤ p.2.length + l.length := fun l => by
    induction l with
    | nil => intro p; simp
    | cons x r ih =>
      intro p
      rw [List.foldl_cons]
      have h1 := ih (stp ms ds S k p x)
      have h2 : (stp ms ds S k p x).2.length ≤ p.2.length + 1 := by
        unfold stp
        split
        · omega
        · simp
      rw [List.length_cons]
      omega
  have := this l (fun _ => false, [])
  simpa using this
/-- The openings as numbers. -/
noncomputable def opD (ms : Nat → Nat) (ds : Nat → Nat → Int) (S : Nat → Int) (k n : Nat) (i : Nat) : Int := ((st ms ds S k (ol ms n S k (sumN ms n))).2).getD i 0
theorem upto_list (l : List Int) : upto (fun i => l.getD i 0) l.length = l.map (Value.int .i64) := by
  apply List.ext_getElem?
  intro i
  unfold upto
  rw [List.getElem?_map, List.getElem?_map]
  by_cases h : i < l.length
  · simp [h]
  · simp [h]
end Go.Proofs.Ytpmmfalpcooenab.Vg
