/- Builds: lists of places of layers; which one is the best with a sum between two limits. Nothing here names the program. -/
import Derived.Test.YtpmmfalpcooenabRows
namespace Go.Proofs.Ytpmmfalpcooenab.Kn

/-- The sum of what a list's places have. -/
def sm (f : Nat → Int) : List Nat → Int
  | [] => 0
  | i :: l => f i + sm f l
theorem sm_nonneg {f : Nat → Int} (h : ∀ i, 0 ≤ f i) : ∀ l, 0 ≤ sm f l
  | [] => Int.le_refl _
  | i :: l => by have := h i; have := sm_nonneg h l; simp only [sm]; omega
theorem sm_len {f : Nat → Int} {m : Nat} (h : ∀ i, i < m → 1 ≤ f i) : ∀ l : List Nat, (∀ i ∈ l, i < m) → (l.length : Int) ≤ sm f l
  | [], _ => Int.le_refl _
  | i :: l, hl => by
    have := h i (hl i (by simp)); have := sm_len h l (fun j hj => hl j (by simp [hj]))
    simp only [sm, List.length_cons]; omega
theorem sm_one : ∀ l : List Nat, sm (fun _ => 1) l = (l.length : Int)
  | [] => rfl
  | i :: l => by have := sm_one l; simp only [sm, List.length_cons]; omega
theorem sm_mix (p : Nat → Int) : ∀ l : List Nat, sm (fun i => 2000 * p i + 1) l = 2000 * sm p l + (l.length : Int)
  | [] => rfl
  | i :: l => by have := sm_mix p l; simp only [sm, List.length_cons]; omega

/-- Place by place at least as great. -/
def ge : List Nat → List Nat → Prop
  | _, [] => True
  | [], _ :: _ => False
  | a :: r, b :: s => b < a ∨ (a = b ∧ ge r s)
theorem ge_refl : ∀ l, ge l l
  | [] => trivial
  | _ :: r => Or.inr ⟨rfl, ge_refl r⟩
theorem ge_total : ∀ l k, ge l k ∨ ge k l
  | _, [] => Or.inl (by cases ‹List Nat› <;> trivial)
  | [], _ :: _ => Or.inr trivial
  | a :: r, b :: s => by
    rcases Nat.lt_trichotomy a b with h | rfl | h
    · exact Or.inr (Or.inl h)
    · rcases ge_total r s with h | h
      · exact Or.inl (Or.inr ⟨rfl, h⟩)
      · exact Or.inr (Or.inr ⟨rfl, h⟩)
    · exact Or.inl (Or.inl h)
theorem ge_anti : ∀ l k, ge l k → ge k l → l = k
  | [], [], _, _ => rfl
  | [], _ :: _, h, _ => absurd h id
  | _ :: _, [], _, h => absurd h id
  | a :: r, b :: s, h, h' => by
    rcases h with h | ⟨rfl, h⟩
    · rcases h' with h' | ⟨rfl, h'⟩
      · omega
      · omega
    · rcases h' with h' | ⟨_, h'⟩
      · omega
      · rw [ge_anti r s h h']
theorem ge_trans : ∀ l k j, ge l k → ge k j → ge l j
  | l, k, [], _, _ => by cases l <;> trivial
  | [], [], _ :: _, _, h => h
  | [], _ :: _, _ :: _, h, _ => absurd h id
  | _ :: _, [], _ :: _, _, h => absurd h id
  | a :: r, b :: s, c :: t, h, h' => by
    rcases h with h | ⟨rfl, h⟩
    · rcases h' with h' | ⟨rfl, h'⟩
      · exact Or.inl (by omega)
      · exact Or.inl h
    · rcases h' with h' | ⟨rfl, h'⟩
      · exact Or.inl h'
      · exact Or.inr ⟨rfl, ge_trans r s t h h'⟩

/-- Costs less, or as much and is at least as great. -/
def bt (w : Nat → Int) (l k : List Nat) : Prop := sm w l < sm w k ∨ (sm w l = sm w k ∧ ge l k)
theorem bt_refl (w : Nat → Int) (l : List Nat) : bt w l l := Or.inr ⟨rfl, ge_refl l⟩
theorem bt_total (w : Nat → Int) (l k : List Nat) : bt w l k ∨ bt w k l := by
  rcases Int.lt_trichotomy (sm w l) (sm w k) with h | h | h
  · exact Or.inl (Or.inl h)
  · rcases ge_total l k with g | g
    · exact Or.inl (Or.inr ⟨h, g⟩)
    · exact Or.inr (Or.inr ⟨h.symm, g⟩)
  · exact Or.inr (Or.inl h)
theorem bt_anti {w : Nat → Int} {l k : List Nat} (h : bt w l k) (h' : bt w k l) : l = k := by
  rcases h with h | ⟨e, h⟩ <;> rcases h' with h' | ⟨e', h'⟩
  · omega
  · omega
  · omega
  · exact ge_anti _ _ h h'
theorem bt_trans {w : Nat → Int} {l k j : List Nat} (h : bt w l k) (h' : bt w k j) : bt w l j := by
  rcases h with h | ⟨e, h⟩ <;> rcases h' with h' | ⟨e', h'⟩
  · exact Or.inl (by omega)
  · exact Or.inl (by omega)
  · exact Or.inl (by omega)
  · exact Or.inr ⟨by omega, ge_trans _ _ _ h h'⟩
theorem bt_cons {w : Nat → Int} {l k : List Nat} (i : Nat) (h : bt w l k) : bt w (i :: l) (i :: k) := by
  rcases h with h | ⟨e, h⟩
  · exact Or.inl (by simp only [sm]; omega)
  · exact Or.inr ⟨by simp only [sm]; omega, Or.inr ⟨rfl, h⟩⟩
theorem bt_uncons {w : Nat → Int} {l k : List Nat} {i : Nat} (h : bt w (i :: l) (i :: k)) : bt w l k := by
  rcases h with h | ⟨e, h⟩
  · exact Or.inl (by simp only [sm] at h; omega)
  · rcases h with h | ⟨_, h⟩
    · omega
    · exact Or.inr ⟨by simp only [sm] at e; omega, h⟩

/-- A build with a sum from lo to hi. -/
structure Ok (x : Nat → Int) (m : Nat) (lo hi : Int) (l : List Nat) : Prop where
  mem : ∀ i ∈ l, i < m
  lo : lo ≤ sm x l
  hi : sm x l ≤ hi
/-- What is best: none, or one. -/
def IsB (x w : Nat → Int) (m : Nat) (lo hi : Int) : Option (List Nat) → Prop
  | none => ∀ l, ¬ Ok x m lo hi l
  | some l => Ok x m lo hi l ∧ ∀ k, Ok x m lo hi k → bt w l k
theorem isB_unique {x w : Nat → Int} {m : Nat} {lo hi : Int} : ∀ {o o' : Option (List Nat)}, IsB x w m lo hi o → IsB x w m lo hi o' → o = o'
  | none, none, _, _ => rfl
  | none, some l, h, h' => absurd h'.1 (h l)
  | some l, none, h, h' => absurd h.1 (h' l)
  | some l, some k, h, h' => by rw [bt_anti (h.2 k h'.1) (h'.2 l h.1)]
/-- What is best among those whose first place is below i. -/
def Oki (x : Nat → Int) (m i : Nat) (lo hi : Int) (l : List Nat) : Prop := Ok x m lo hi l ∧ ∃ h r, l = h :: r ∧ h < i
def IsBi (x w : Nat → Int) (m i : Nat) (lo hi : Int) : Option (List Nat) → Prop
  | none => ∀ l, ¬ Oki x m i lo hi l
  | some l => Oki x m i lo hi l ∧ ∀ k, Oki x m i lo hi k → bt w l k
theorem isBi_zero (x w : Nat → Int) (m : Nat) (lo hi : Int) : IsBi x w m 0 lo hi none := fun l h => by
  obtain ⟨_, a, r, _, ha⟩ := h
  omega
theorem oki_all {x : Nat → Int} {m : Nat} {lo hi : Int} (hlo : 0 < lo) {l : List Nat} (h : Ok x m lo hi l) : Oki x m m lo hi l := by
  refine ⟨h, ?_⟩
  cases l with
  | nil => have := h.lo; simp only [sm] at this; omega
  | cons a r => exact ⟨a, r, rfl, h.mem a (by simp)⟩
theorem isB_of_isBi {x w : Nat → Int} {m : Nat} {lo hi : Int} (hlo : 0 < lo) : ∀ {o : Option (List Nat)}, IsBi x w m m lo hi o → IsB x w m lo hi o
  | none, h => fun l hl => h l (oki_all hlo hl)
  | some _, h => ⟨h.1.1, fun k hk => h.2 k (oki_all hlo hk)⟩
/-- One more kind of layer. -/
def comb (w : Nat → Int) (i : Nat) (o r : Option (List Nat)) : Option (List Nat) :=
  match r with
  | none => o
  | some l => match o with
    | none => some (i :: l)
    | some k => if sm w (i :: l) ≤ sm w k then some (i :: l) else some k
theorem ok_tail {x : Nat → Int} {m : Nat} {lo hi : Int} {i : Nat} {l : List Nat} (h : Ok x m lo hi (i :: l)) : Ok x m (lo - x i) (hi - x i) l :=
  ⟨fun j hj => h.mem j (by simp [hj]), by have := h.lo; simp only [sm] at this; omega, by have := h.hi; simp only [sm] at this; omega⟩
theorem ok_cons {x : Nat → Int} {m : Nat} {lo hi : Int} {i : Nat} {l : List Nat} (hi' : i < m) (h : Ok x m (lo - x i) (hi - x i) l) : Ok x m lo hi (i :: l) :=
  ⟨fun j hj => by rcases List.mem_cons.1 hj with rfl | hj; exact hi'; exact h.mem j hj, by have := h.lo; simp only [sm]; omega, by have := h.hi; simp only [sm]; omega⟩
theorem isBi_succ {x w : Nat → Int} {m i : Nat} {lo hi : Int} (him : i < m) : ∀ {o r : Option (List Nat)}, IsBi x w m i lo hi o → IsB x w m (lo - x i) (hi - x i) r → IsBi x w m (i + 1) lo hi (comb w i o r) := by
  intro o r ho hr
  have split : ∀ k, Oki x m (i + 1) lo hi k → Oki x m i lo hi k ∨ ∃ t, k = i :: t ∧ Ok x m (lo - x i) (hi - x i) t := fun k ⟨hk, a, t, e, ha⟩ => by
    by_cases h : a < i
    · exact Or.inl ⟨hk, a, t, e, h⟩
    · obtain rfl : a = i := by omega
      subst e
      exact Or.inr ⟨t, rfl, ok_tail hk⟩
  have up : ∀ k, Oki x m i lo hi k → Oki x m (i + 1) lo hi k := fun k ⟨hk, a, t, e, ha⟩ => ⟨hk, a, t, e, by omega⟩
  cases r with
  | none =>
    have no : ∀ t, ¬ Ok x m (lo - x i) (hi - x i) t := hr
    cases o with
    | none =>
      intro k hk
      rcases split k hk with h | ⟨t, _, h⟩
      · exact ho k h
      · exact no t h
    | some l =>
      refine ⟨up l ho.1, fun k hk => ?_⟩
      rcases split k hk with h | ⟨t, _, h⟩
      · exact ho.2 k h
      · exact absurd h (no t)
  | some l =>
    have hl : Oki x m (i + 1) lo hi (i :: l) := ⟨ok_cons him hr.1, i, l, rfl, by omega⟩
    have hbest : ∀ t, Ok x m (lo - x i) (hi - x i) t → bt w (i :: l) (i :: t) := fun t ht => bt_cons i (hr.2 t ht)
    cases o with
    | none =>
      refine ⟨hl, fun k hk => ?_⟩
      rcases split k hk with h | ⟨t, rfl, h⟩
      · exact absurd h (ho k)
      · exact hbest t h
    | some k0 =>
      have hgt : ∀ k, Oki x m i lo hi k → ge (i :: l) k := fun k ⟨_, a, t, e, ha⟩ => by subst e; exact Or.inl ha
      by_cases hc : sm w (i :: l) ≤ sm w k0
      · show IsBi x w m (i + 1) lo hi (if _ then _ else _)
        rw [if_pos hc]
        refine ⟨hl, fun k hk => ?_⟩
        rcases split k hk with h | ⟨t, rfl, h⟩
        · have h1 := ho.2 k h
          by_cases he : sm w (i :: l) < sm w k
          · exact Or.inl he
          · refine Or.inr ⟨?_, hgt k h⟩
            rcases h1 with h1 | ⟨h1, _⟩ <;> omega
        · exact hbest t h
      · show IsBi x w m (i + 1) lo hi (if _ then _ else _)
        rw [if_neg hc]
        refine ⟨up k0 ho.1, fun k hk => ?_⟩
        rcases split k hk with h | ⟨t, rfl, h⟩
        · exact ho.2 k h
        · exact bt_trans (Or.inl (by omega)) (hbest t h)

/-- The layers: from 1 on, rising; the weights: from 1 on. -/
structure Lay (x w : Nat → Int) (m : Nat) : Prop where
  pos : ∀ i, i < m → 1 ≤ x i
  wpos : ∀ i, i < m → 1 ≤ w i
theorem sm_pos_of {f : Nat → Int} {m : Nat} (h : ∀ i, i < m → 1 ≤ f i) (l : List Nat) (hl : ∀ i ∈ l, i < m) : 0 ≤ sm f l := by have := sm_len h l hl; omega
theorem isB_low {x w : Nat → Int} {m : Nat} (L : Lay x w m) {lo hi : Int} (h0 : lo ≤ 0) : IsB x w m lo hi (if 0 ≤ hi then some [] else none) := by
  by_cases h : 0 ≤ hi
  · rw [if_pos h]
    refine ⟨⟨fun i hi => (by cases hi), by simpa [sm] using h0, by simpa [sm] using h⟩, fun k hk => ?_⟩
    have := sm_len L.wpos k hk.mem
    cases k with
    | nil => exact bt_refl _ _
    | cons a r => exact Or.inl (by simp only [List.length_cons] at this; simp only [sm] at this ⊢; omega)
  · rw [if_neg h]
    intro l hl
    have := sm_len L.pos l hl.mem
    have := hl.hi
    omega
theorem isB_exists {x w : Nat → Int} {m : Nat} (L : Lay x w m) (s : Int) : ∀ (n : Nat) (lo : Int), lo ≤ n → ∃ o, IsB x w m lo (lo + s) o
  | 0, lo, h => ⟨_, isB_low L (by omega)⟩
  | n + 1, lo, h => by
    by_cases h0 : lo ≤ 0
    · exact ⟨_, isB_low L h0⟩
    · have go : ∀ i, i ≤ m → ∃ o, IsBi x w m i lo (lo + s) o := fun i => by
        induction i with
        | zero => exact fun _ => ⟨none, isBi_zero _ _ _ _ _⟩
        | succ i ih =>
          intro hi
          obtain ⟨o, ho⟩ := ih (by omega)
          obtain ⟨r, hr⟩ := isB_exists L s n (lo - x i) (by have := L.pos i (by omega); omega)
          exact ⟨_, isBi_succ (by omega) ho (by rw [show lo + s - x i = lo - x i + s by omega]; exact hr)⟩
      obtain ⟨o, ho⟩ := go m (Nat.le_refl _)
      exact ⟨o, isB_of_isBi (by omega) ho⟩
/-- The best build with a sum from lo to lo plus s. -/
noncomputable def B (x w : Nat → Int) (m : Nat) (s lo : Int) : Option (List Nat) := open Classical in if h : ∃ o, IsB x w m lo (lo + s) o then h.choose else none
theorem isB_B {x w : Nat → Int} {m : Nat} (L : Lay x w m) (s lo : Int) : IsB x w m lo (lo + s) (B x w m s lo) := by
  have h := isB_exists L s lo.toNat lo (by omega)
  unfold B
  rw [dif_pos h]
  exact h.choose_spec
theorem B_of {x w : Nat → Int} {m : Nat} (L : Lay x w m) {s lo : Int} {o : Option (List Nat)} (h : IsB x w m lo (lo + s) o) : B x w m s lo = o := isB_unique (isB_B L s lo) h
theorem B_low {x w : Nat → Int} {m : Nat} (L : Lay x w m) {s lo : Int} (h : lo ≤ 0) : B x w m s lo = if 0 ≤ lo + s then some [] else none := B_of L (isB_low L h)
/-- The best so far: over the first i kinds. -/
noncomputable def Bi (x w : Nat → Int) (m : Nat) (s lo : Int) : Nat → Option (List Nat)
  | 0 => none
  | i + 1 => comb w i (Bi x w m s lo i) (B x w m s (lo - x i))
theorem isBi_Bi {x w : Nat → Int} {m : Nat} (L : Lay x w m) (s lo : Int) : ∀ i, i ≤ m → IsBi x w m i lo (lo + s) (Bi x w m s lo i)
  | 0, _ => isBi_zero _ _ _ _ _
  | i + 1, h => isBi_succ (by omega) (isBi_Bi L s lo i (by omega)) (by rw [show lo + s - x i = lo - x i + s by omega]; exact isB_B L s (lo - x i))
theorem B_step {x w : Nat → Int} {m : Nat} (L : Lay x w m) {s lo : Int} (h : 0 < lo) : B x w m s lo = Bi x w m s lo m := B_of L (isB_of_isBi h (isBi_Bi L s lo m (Nat.le_refl _)))

/-- What is left of a best build behind its first place is best. -/
theorem B_tail {x w : Nat → Int} {m : Nat} (L : Lay x w m) {s lo : Int} {i : Nat} {l : List Nat} (h : B x w m s lo = some (i :: l)) : i < m ∧ B x w m s (lo - x i) = some l := by
  have hb := isB_B L s lo
  rw [h] at hb
  have him := hb.1.mem i (by simp)
  refine ⟨him, B_of L ⟨?_, fun k hk => ?_⟩⟩
  · have := ok_tail hb.1
    rwa [show lo + s - x i = lo - x i + s by omega] at this
  · exact bt_uncons (hb.2 (i :: k) (ok_cons him (by rw [show lo + s - x i = lo - x i + s by omega]; exact hk)))
theorem B_ok {x w : Nat → Int} {m : Nat} (L : Lay x w m) {s lo : Int} {l : List Nat} (h : B x w m s lo = some l) : Ok x m lo (lo + s) l := by
  have hb := isB_B L s lo
  rw [h] at hb
  exact hb.1
theorem B_best {x w : Nat → Int} {m : Nat} (L : Lay x w m) {s lo : Int} {l k : List Nat} (h : B x w m s lo = some l) (hk : Ok x m lo (lo + s) k) : bt w l k := by
  have hb := isB_B L s lo
  rw [h] at hb
  exact hb.2 k hk
theorem B_none {x w : Nat → Int} {m : Nat} (L : Lay x w m) {s lo : Int} (h : B x w m s lo = none) (k : List Nat) : ¬ Ok x m lo (lo + s) k := by
  have hb := isB_B L s lo
  rw [h] at hb
  exact hb k
theorem B_nil {x w : Nat → Int} {m : Nat} (L : Lay x w m) {s lo : Int} (h : 0 < lo) : B x w m s lo ≠ some [] := fun e => by
  have := (B_ok L e).lo
  simp only [sm] at this
  omega

/-- The cost, or -1. -/
def cst (w : Nat → Int) : Option (List Nat) → Int
  | none => -1
  | some l => sm w l
theorem cst_nonneg {x w : Nat → Int} {m : Nat} (L : Lay x w m) {s lo : Int} {l : List Nat} (h : B x w m s lo = some l) : 0 ≤ sm w l := sm_pos_of L.wpos l (B_ok L h).mem
theorem cst_neg {x w : Nat → Int} {m : Nat} (L : Lay x w m) {s lo : Int} : cst w (B x w m s lo) < 0 ↔ B x w m s lo = none := by
  cases h : B x w m s lo with
  | none => simp [cst]
  | some l => have := cst_nonneg L h; simp [cst]; omega
/-- The first place of the best build with just one sum: the greatest one at which the costs agree. -/
theorem head_fits {x w : Nat → Int} {m : Nat} (L : Lay x w m) {n : Int} {i : Nat} {l : List Nat} (h : B x w m 0 n = some (i :: l)) : x i ≤ n ∧ 0 ≤ cst w (B x w m 0 (n - x i)) ∧ cst w (B x w m 0 (n - x i)) + w i = cst w (B x w m 0 n) := by
  obtain ⟨him, ht⟩ := B_tail L h
  have h1 := (B_ok L ht).hi
  have h2 := sm_pos_of L.pos l (B_ok L ht).mem
  have h3 := cst_nonneg L ht
  rw [ht, h]
  refine ⟨by omega, h3, ?_⟩
  simp only [cst, sm]
  omega
theorem head_last {x w : Nat → Int} {m : Nat} (L : Lay x w m) {n : Int} {i j : Nat} {l : List Nat} (h : B x w m 0 n = some (i :: l)) (hj : j < m) (hij : i < j)
    (h0 : 0 ≤ cst w (B x w m 0 (n - x j))) : cst w (B x w m 0 (n - x j)) + w j ≠ cst w (B x w m 0 n) := fun e => by
  cases hr : B x w m 0 (n - x j) with
  | none => rw [hr] at h0; simp [cst] at h0
  | some r =>
    rw [hr, h] at e
    have := B_best L h (k := j :: r) (ok_cons hj (by have := B_ok L hr; rwa [show n + 0 - x j = n - x j + 0 by omega]))
    rcases this with q | ⟨_, q⟩
    · simp only [cst, sm] at e q; omega
    · rcases q with q | ⟨q, _⟩ <;> omega

/-- The best one over some sums, one after the other. -/
noncomputable def comb2 (w : Nat → Int) (o r : Option (List Nat)) : Option (List Nat) :=
  match r with
  | none => o
  | some l => match o with
    | none => some l
    | some k => open Classical in if bt w k l then some k else some l
theorem isB_more {x w : Nat → Int} {m : Nat} {lo hi : Int} (hlh : lo ≤ hi + 1) : ∀ {o r : Option (List Nat)}, IsB x w m lo hi o → IsB x w m (hi + 1) (hi + 1) r → IsB x w m lo (hi + 1) (comb2 w o r) := by
  intro o r ho hr
  have split : ∀ k, Ok x m lo (hi + 1) k → Ok x m lo hi k ∨ Ok x m (hi + 1) (hi + 1) k := fun k hk => by
    by_cases h : sm x k ≤ hi
    · exact Or.inl ⟨hk.mem, hk.lo, h⟩
    · exact Or.inr ⟨hk.mem, by omega, hk.hi⟩
  have up : ∀ k, Ok x m lo hi k → Ok x m lo (hi + 1) k := fun k hk => ⟨hk.mem, hk.lo, by have := hk.hi; omega⟩
  have up' : ∀ k, Ok x m (hi + 1) (hi + 1) k → Ok x m lo (hi + 1) k := fun k hk => ⟨hk.mem, by have := hk.lo; omega, hk.hi⟩
  cases r with
  | none =>
    cases o with
    | none =>
      intro k hk
      rcases split k hk with h | h
      · exact ho k h
      · exact hr k h
    | some l =>
      refine ⟨up l ho.1, fun k hk => ?_⟩
      rcases split k hk with h | h
      · exact ho.2 k h
      · exact absurd h (hr k)
  | some l =>
    cases o with
    | none =>
      refine ⟨up' l hr.1, fun k hk => ?_⟩
      rcases split k hk with h | h
      · exact absurd h (ho k)
      · exact hr.2 k h
    | some k0 =>
      by_cases hc : bt w k0 l
      · rw [show comb2 w (some k0) (some l) = some k0 from if_pos hc]
        refine ⟨up k0 ho.1, fun k hk => ?_⟩
        rcases split k hk with h | h
        · exact ho.2 k h
        · exact bt_trans hc (hr.2 k h)
      · rw [show comb2 w (some k0) (some l) = some l from if_neg hc]
        refine ⟨up' l hr.1, fun k hk => ?_⟩
        rcases split k hk with h | h
        · exact bt_trans ((bt_total w k0 l).resolve_left hc) (ho.2 k h)
        · exact hr.2 k h
/-- The best one with a sum from lo to lo plus j, less one. -/
noncomputable def W (x w : Nat → Int) (m : Nat) (lo : Int) : Nat → Option (List Nat)
  | 0 => none
  | j + 1 => comb2 w (W x w m lo j) (B x w m 0 (lo + j))
theorem isB_W {x w : Nat → Int} {m : Nat} (L : Lay x w m) (lo : Int) : ∀ j : Nat, IsB x w m lo (lo + j - 1) (W x w m lo j)
  | 0 => fun k hk => by have := hk.lo; have := hk.hi; omega
  | j + 1 => by
    have h1 := isB_W L lo j
    have h2 := isB_B L 0 (lo + j)
    have := isB_more (hi := lo + j - 1) (by omega) h1 (by rw [show lo + (j : Int) - 1 + 1 = lo + j by omega]; rw [Int.add_zero] at h2; exact h2)
    rw [show lo + (j : Int) - 1 + 1 = lo + ((j + 1 : Nat) : Int) - 1 by omega] at this
    exact this
theorem W_is {x w : Nat → Int} {m : Nat} (L : Lay x w m) (lo : Int) (s : Nat) : W x w m lo (s + 1) = B x w m s lo := by
  have := isB_W L lo (s + 1)
  rw [show lo + ((s + 1 : Nat) : Int) - 1 = lo + (s : Int) by omega] at this
  exact (B_of L this).symm
/-- The tables' numbers. -/
noncomputable def F (x w : Nat → Int) (m : Nat) (n : Int) : Int := cst w (B x w m 0 n)
noncomputable def G (x w : Nat → Int) (m : Nat) (n : Int) (i : Nat) : Int := cst w (Bi x w m 0 n i)
theorem F_zero {x w : Nat → Int} {m : Nat} (L : Lay x w m) : F x w m 0 = 0 := by unfold F; rw [B_low L (Int.le_refl _)]; simp [cst, sm]
theorem F_neg {x w : Nat → Int} {m : Nat} (L : Lay x w m) {n : Int} (h : n < 0) : F x w m n = -1 := by unfold F; rw [B_low L (by omega), if_neg (by omega)]; rfl
theorem G_zero (x w : Nat → Int) (m : Nat) (n : Int) : G x w m n 0 = -1 := rfl
theorem F_step {x w : Nat → Int} {m : Nat} (L : Lay x w m) {n : Int} (h : 0 < n) : F x w m n = G x w m n m := by unfold F G; rw [B_step L h]
theorem Bi_ok {x w : Nat → Int} {m : Nat} (L : Lay x w m) {s lo : Int} {i : Nat} (hi : i ≤ m) {l : List Nat} (h : Bi x w m s lo i = some l) : Ok x m lo (lo + s) l := by
  have := isBi_Bi L s lo i hi
  rw [h] at this
  exact this.1.1
theorem G_step {x w : Nat → Int} {m : Nat} (L : Lay x w m) {n : Int} {i : Nat} (hi : i < m) :
    G x w m n (i + 1) = if 0 ≤ F x w m (n - x i) ∧ (G x w m n i < 0 ∨ F x w m (n - x i) + w i < G x w m n i) then F x w m (n - x i) + w i else G x w m n i := by
  unfold F G
  show cst w (comb w i (Bi x w m 0 n i) (B x w m 0 (n - x i))) = _
  cases hr : B x w m 0 (n - x i) with
  | none => simp [comb, cst]
  | some r =>
    have h1 := cst_nonneg L hr
    cases ho : Bi x w m 0 n i with
    | none => simp [comb, cst, sm, h1]; omega
    | some k =>
      have h2 := sm_pos_of L.wpos k (Bi_ok L (by omega) ho).mem
      have e1 : comb w i (some k) (some r) = if sm w (i :: r) ≤ sm w k then some (i :: r) else some k := rfl
      have e2 : sm w (i :: r) = w i + sm w r := rfl
      rw [e1]
      show cst w _ = if 0 ≤ sm w r ∧ (sm w k < 0 ∨ sm w r + w i < sm w k) then sm w r + w i else sm w k
      by_cases hc : sm w (i :: r) ≤ sm w k
      · rw [if_pos hc]
        show sm w (i :: r) = _
        by_cases hd : 0 ≤ sm w r ∧ (sm w k < 0 ∨ sm w r + w i < sm w k)
        · rw [if_pos hd]; omega
        · rw [if_neg hd]; omega
      · rw [if_neg hc]
        show sm w k = _
        rw [if_neg (by omega)]
theorem sm_le {x w : Nat → Int} {m : Nat} {W : Int} (hW : ∀ i, i < m → w i ≤ W * x i) : ∀ l : List Nat, (∀ i ∈ l, i < m) → sm w l ≤ W * sm x l
  | [], _ => by simp [sm]
  | i :: l, h => by
    have := hW i (h i (by simp))
    have := sm_le hW l (fun j hj => h j (by simp [hj]))
    simp only [sm]
    rw [Int.mul_add]
    omega
theorem F_bd {x w : Nat → Int} {m : Nat} (L : Lay x w m) {W : Int} (hW : ∀ i, i < m → w i ≤ W * x i) (h0 : 0 ≤ W) {n : Int} (hn : 0 ≤ n) : -1 ≤ F x w m n ∧ F x w m n ≤ W * n := by
  unfold F
  have h2 : 0 ≤ W * n := Int.mul_nonneg h0 hn
  cases h : B x w m 0 n with
  | none => simp only [cst]; omega
  | some l =>
    have h1 := cst_nonneg L h
    have h3 := sm_le hW l (B_ok L h).mem
    have h4 := Int.mul_le_mul_of_nonneg_left (B_ok L h).hi h0
    rw [Int.add_zero] at h4
    simp only [cst]
    omega
theorem G_bd {x w : Nat → Int} {m : Nat} (L : Lay x w m) {W : Int} (hW : ∀ i, i < m → w i ≤ W * x i) (h0 : 0 ≤ W) {n : Int} (hn : 0 ≤ n) {i : Nat} (hi : i ≤ m) : -1 ≤ G x w m n i ∧ G x w m n i ≤ W * n := by
  unfold G
  have h2 : 0 ≤ W * n := Int.mul_nonneg h0 hn
  cases h : Bi x w m 0 n i with
  | none => simp only [cst]; omega
  | some l =>
    have h1 := sm_pos_of L.wpos l (Bi_ok L hi h).mem
    have h3 := sm_le hW l (Bi_ok L hi h).mem
    have h4 := Int.mul_le_mul_of_nonneg_left (Bi_ok L hi h).hi h0
    rw [Int.add_zero] at h4
    simp only [cst]
    omega
/-- Whether a sum has a build. -/
theorem F_neg_iff {x w : Nat → Int} {m : Nat} (L : Lay x w m) {n : Int} : F x w m n < 0 ↔ B x w m 0 n = none := cst_neg L
theorem F_reach {x w : Nat → Int} {m : Nat} (L : Lay x w m) {n : Int} (h : 0 < n) : 0 ≤ F x w m n ↔ ∃ i, i < m ∧ 0 ≤ F x w m (n - x i) := by
  constructor
  · intro h0
    cases hb : B x w m 0 n with
    | none => rw [F, hb] at h0; simp [cst] at h0
    | some l =>
      cases l with
      | nil => exact absurd hb (B_nil L h)
      | cons i r =>
        obtain ⟨hi, ht⟩ := B_tail L hb
        exact ⟨i, hi, by rw [F, ht]; exact cst_nonneg L ht⟩
  · rintro ⟨i, hi, h0⟩
    cases hb : B x w m 0 n with
    | some l => rw [F, hb]; exact cst_nonneg L hb
    | none =>
      cases hr : B x w m 0 (n - x i) with
      | none => rw [F, hr] at h0; simp [cst] at h0
      | some r => exact absurd (ok_cons hi (by have := B_ok L hr; rwa [show n - x i + 0 = n + 0 - x i by omega] at this)) (B_none L hb (i :: r))
end Go.Proofs.Ytpmmfalpcooenab.Kn
