/- Maps that the program makes, told by a function from what a key reads as to the value itself: whatever the elements are. -/
import Derived.Test.YtpmmfalpcooenabBaLib
import Derived.Maps.OwnSet
import Derived.Maps.OwnOps
namespace Go.Proofs.Ytpmmfalpcooenab.Mm
open Go.RowKit Go.Maps Go.WideShapes

/-- An element reads as itself. -/
def selfR (v : Value) : Option (DataW Value × List MemPlace) := some (.held v, [])

/-- A list without repeats whose members are among N has at most N members. -/
theorem cut_one {α : Type} (a : α) : ∀ l : List α, l.Pairwise (· ≠ ·) → ∃ l' : List α, l.length ≤ l'.length + 1 ∧ l'.Pairwise (· ≠ ·) ∧ ∀ x ∈ l', x ∈ l ∧ x ≠ a
  | [], _ => ⟨[], by simp, List.Pairwise.nil, fun x h => by cases h⟩
  | y :: r, h => by
    obtain ⟨h1, h2⟩ := List.pairwise_cons.1 h
    by_cases e : y = a
    · exact ⟨r, by simp, h2, fun x hx => ⟨by simp [hx], fun e' => h1 x hx (by rw [e, e'])⟩⟩
    · obtain ⟨l', q1, q2, q3⟩ := cut_one a r h2
      exact ⟨y :: l', by simpa using q1, List.pairwise_cons.2 ⟨fun x hx => h1 x (q3 x hx).1, q2⟩, fun x hx => by
        rcases List.mem_cons.1 hx with rfl | hx
        · exact ⟨by simp, e⟩
        · exact ⟨by simp [(q3 x hx).1], (q3 x hx).2⟩⟩
theorem pigeon {α : Type} (key : Nat → α) : ∀ (N : Nat) (l : List α), l.Pairwise (· ≠ ·) → (∀ x ∈ l, ∃ j, j < N ∧ x = key j) → l.length ≤ N
  | 0, l, _, h => by
    cases l with
    | nil => simp
    | cons x r => obtain ⟨j, hj, _⟩ := h x (by simp); omega
  | N + 1, l, hp, h => by
    obtain ⟨l', q1, q2, q3⟩ := cut_one (key N) l hp
    have := pigeon key N l' q2 (fun x hx => by
      obtain ⟨j, hj, e⟩ := h x (q3 x hx).1
      rcases Nat.lt_succ_iff_lt_or_eq.1 hj with hj | rfl
      · exact ⟨j, hj, e⟩
      · exact absurd e (q3 x hx).2)
    omega

/-- Block b is a map that has g's entries and no others. -/
def MapIs (P : Program) (k : TypeId) (w : World) (b : Nat) (g : Lit → Option Value) : Prop :=
  ∃ D : DataW Value, w.ownsMap P k selfR b (Maps.size D) D ∧ (∀ l, Maps.has D l = (g l).isSome) ∧ ∀ l v, g l = some v → ∀ z, D.atKey l z = .held v

/-- g with one more entry, or with another one. -/
noncomputable def upd (g : Lit → Option Value) (l : Lit) (v : Value) : Lit → Option Value := fun l' => open Classical in if l' = l then some v else g l'
theorem upd_same (g : Lit → Option Value) (l : Lit) (v : Value) : upd g l v l = some v := by simp [upd]
theorem upd_other (g : Lit → Option Value) {l l' : Lit} (v : Value) (h : l' ≠ l) : upd g l v l' = g l' := by simp [upd, h]

section
variable {P : Program} {k : TypeId} {w : World} {b : Nat} {g : Lit → Option Value}

theorem exact_size {n : Nat} {D : DataW Value} (h : w.ownsMap P k selfR b n D) : w.ownsMap P k selfR b (Maps.size D) D := by
  obtain ⟨es, clock, hb, F, _, rfl⟩ := h
  exact ⟨es, clock, hb, F, by simp [Maps.size, length_sorted], rfl⟩

theorem MapIs.made (w : World) (P : Program) (k : TypeId) : MapIs P k (w.alloc (.map #[] 0)) w.heap.size (fun _ => none) :=
  ⟨.map [], exact_size (World.ownsMap_made w P k selfR), fun l => by simp [Maps.has], fun l v h => by cases h⟩

theorem MapIs.lt (h : MapIs P k w b g) : b < w.heap.size := by
  obtain ⟨D, ho, _⟩ := h
  exact ho.lt
theorem MapIs.kept {w' : World} {row : Option Nat} (h : MapIs P k w b g) (hg : w.grownBy w' row) (hne : some b ≠ row) : MapIs P k w' b g := by
  obtain ⟨D, ho, h1, h2⟩ := h
  exact ⟨D, ho.kept hg hne, h1, h2⟩
theorem MapIs.of_block {w' : World} (h : MapIs P k w b g) (e : w'.heap[b]? = w.heap[b]?) : MapIs P k w' b g := by
  obtain ⟨D, ⟨es, clock, hb, r⟩, h1, h2⟩ := h
  exact ⟨D, ⟨es, clock, e.trans hb, r⟩, h1, h2⟩
theorem MapIs.below {B : Nat} {w' : World} (h : MapIs P k w b g) (hb : Below B w w') (hB : b < B) : MapIs P k w' b g := h.of_block (hb.block b hB)

/-- What a look-up gives. -/
def got (o : Option Value) (z : Value) : Value := o.getD z

theorem MapIs.look (h : MapIs P k w b g) (K : Keyed P k) {t e : TypeId} (ht : P.underlying t = some (.map k e)) {z : Value} (hz : (zeroValue e).run P w = .ok z w) {key : Value} {kl : Lit} (hkey : keyOf P k key = some kl) :
    (Instr.lookup t (.map (some b)) key false).run P w = .ok (got (g kl) z) w := by
  obtain ⟨D, ho, h1, h2⟩ := h
  obtain ⟨v, ps, hrun, hv⟩ := ho.lookup K ht hz (zd := .held z) (zp := []) rfl hkey
  have hv' : DataW.held v = D.atKey kl (.held z) := by simpa [selfR] using congrArg (Option.map Prod.fst) hv
  cases hg : g kl with
  | none =>
    have hh : Maps.has D kl = false := by rw [h1, hg]; rfl
    rw [atKey_of_not_has hh] at hv'
    cases hv'
    exact hrun
  | some u =>
    rw [h2 kl u hg] at hv'
    cases hv'
    exact hrun
theorem MapIs.look_ok (h : MapIs P k w b g) (K : Keyed P k) {t e : TypeId} (ht : P.underlying t = some (.map k e)) {z : Value} (hz : (zeroValue e).run P w = .ok z w) {key : Value} {kl : Lit} (hkey : keyOf P k key = some kl) :
    (Instr.lookup t (.map (some b)) key true).run P w = .ok (.tuple #[got (g kl) z, .bool (g kl).isSome]) w := by
  obtain ⟨D, ho, h1, h2⟩ := h
  obtain ⟨v, ps, hrun, hv⟩ := ho.look_ok K ht hz (zd := .held z) (zp := []) rfl hkey
  rw [h1] at hrun
  have hv' : DataW.held v = D.atKey kl (.held z) := by simpa [selfR] using congrArg (Option.map Prod.fst) hv
  cases hg : g kl with
  | none =>
    have hh : Maps.has D kl = false := by rw [h1, hg]; rfl
    rw [atKey_of_not_has hh] at hv'
    cases hv'
    rw [hg] at hrun
    exact hrun
  | some u =>
    rw [h2 kl u hg] at hv'
    cases hv'
    rw [hg] at hrun
    exact hrun
/-- How many entries: no more than there are keys. -/
theorem MapIs.small (h : MapIs P k w b g) (K : Keyed P k) (key : Nat → Lit) (N : Nat) (hN : ∀ l, (g l).isSome = true → ∃ j, j < N ∧ l = key j) : ∃ D, w.ownsMap P k selfR b N D ∧ (∀ l, Maps.has D l = (g l).isSome) ∧ ∀ l v, g l = some v → ∀ z, D.atKey l z = .held v := by
  obtain ⟨D, ho, h1, h2⟩ := h
  refine ⟨D, ho.mono ?_, h1, h2⟩
  obtain ⟨E, e1, e2⟩ := ho.tidy K
  subst e1
  obtain ⟨es, clock, hb, F, _, hD⟩ := ho
  have hk : ∀ p ∈ E, WideAt.IsKeyLit p.1 := fun p hp => by
    have hE := Maps.fit_keys F
    obtain ⟨v, hv⟩ := hE p ((sorted_perm _).mem_iff.1 (by rw [← DataW.map.inj hD]; exact hp))
    exact K.key hv
  have := pigeon key N (E.map (·.1)) (List.pairwise_map.2 e2) (fun x hx => by
    obtain ⟨p, hp, rfl⟩ := List.mem_map.1 hx
    refine hN _ ?_
    rw [← h1]
    exact List.any_eq_true.2 ⟨p, hp, WideAt.sameKey_self (hk p hp)⟩)
  simpa [Maps.size] using this
theorem MapIs.store (h : MapIs P k w b g) (K : Keyed P k) {t e : TypeId} (ht : P.underlying t = some (.map k e)) (keyN : Nat → Lit) (N : Nat) (hN : ∀ l, (g l).isSome = true → ∃ j, j < N ∧ l = keyN j) (hmax : N < maxLen)
    {key val : Value} {kl : Lit} (hkey : keyOf P k key = some kl) :
    ∃ w', (Instr.mapUpdate t (.map (some b)) key val).run P w = .ok () w' ∧ MapIs P k w' b (upd g kl val) ∧ w.grownBy w' (some b) := by
  obtain ⟨D, ho, h1, h2⟩ := h.small K keyN N hN
  obtain ⟨w', hrun, r1, r2⟩ := ho.update K ht hmax hkey (val := val) (d := .held val) (ps := []) rfl
  refine ⟨w', hrun, ⟨_, exact_size r1, fun l => ?_, fun l v hv z => ?_⟩, r2⟩
  · by_cases e : l = kl
    · subst e
      rw [has_put_same ho.isMap (K.key hkey), upd_same]
      rfl
    · rw [has_put_other e, upd_other _ _ e, h1]
  · by_cases e : l = kl
    · subst e
      rw [upd_same] at hv
      cases hv
      exact atKey_put_same ho.isMap (K.key hkey) _ _
    · rw [upd_other _ _ e] at hv
      rw [atKey_put_other e]
      exact h2 l v hv z
end

section
variable {P : Program} (w : World) {ops : Array Oper} {rest : List Oper} {o : Oper} {a : Act} {Q : Exit → Act → World → Prop}

/-- 'm[k]' at the operation. -/
theorem wp_look (hg : o.guard = none) (m x : Operand) (t : TypeId) (hop : o.op = Op.lookup t m x false) (k e : TypeId) (K : Keyed P k) (ht : P.underlying t = some (.map k e)) {z : Value} (hz : (zeroValue e).run P w = .ok z w) (b : Nat) (g : Lit → Option Value)
    (hm : a.eval m = .map (some b)) (h : MapIs P k w b g) (key : Value) (kl : Lit) (hx : a.eval x = key) (hkey : keyOf P k key = some kl) (v : Value) (hv : got (g kl) z = v)
    (hK : wpList P ops Q rest (a.put o.dst v) w) : wpList P ops Q (o :: rest) a w := by
  refine wpList_plain hg fun K' hK' => ?_
  have hrun := h.look K ht hz hkey
  rw [hv] at hrun
  unfold Oper.wp
  simp [execOp, hop, hm, hx, hrun, Result.andThen]
  exact hK' _ _ hK
/-- 'v, ok := m[k]' at the operation. -/
theorem wp_look_ok (hg : o.guard = none) (m x : Operand) (t : TypeId) (hop : o.op = Op.lookup t m x true) (k e : TypeId) (K : Keyed P k) (ht : P.underlying t = some (.map k e)) {z : Value} (hz : (zeroValue e).run P w = .ok z w) (b : Nat) (g : Lit → Option Value)
    (hm : a.eval m = .map (some b)) (h : MapIs P k w b g) (key : Value) (kl : Lit) (hx : a.eval x = key) (hkey : keyOf P k key = some kl) (v : Value) (y : Bool) (hv : got (g kl) z = v) (hy : (g kl).isSome = y)
    (hK : wpList P ops Q rest (a.put o.dst (.tuple #[v, .bool y])) w) : wpList P ops Q (o :: rest) a w := by
  refine wpList_plain hg fun K' hK' => ?_
  have hrun := h.look_ok K ht hz hkey
  rw [hv, hy] at hrun
  unfold Oper.wp
  simp [execOp, hop, hm, hx, hrun, Result.andThen]
  exact hK' _ _ hK
/-- 'm[k] = v' at the operation. -/
theorem wp_store (hg : o.guard = none) (m x v : Operand) (t : TypeId) (hop : o.op = Op.mapUpdate t m x v) (k e : TypeId) (K : Keyed P k) (ht : P.underlying t = some (.map k e)) (keyN : Nat → Lit) (N : Nat) (b : Nat) (g : Lit → Option Value)
    (hN : ∀ l, (g l).isSome = true → ∃ j, j < N ∧ l = keyN j) (hmax : N < maxLen) (hm : a.eval m = .map (some b)) (h : MapIs P k w b g) (key val : Value) (kl : Lit) (hx : a.eval x = key) (hv : a.eval v = val) (hkey : keyOf P k key = some kl)
    (hK : ∀ w', MapIs P k w' b (upd g kl val) → w.grownBy w' (some b) → wpList P ops Q rest (a.put o.dst undef) w') : wpList P ops Q (o :: rest) a w := by
  refine wpList_plain hg fun K' hK' => ?_
  obtain ⟨w', hrun, r1, r2⟩ := h.store K ht keyN N hN hmax hkey (val := val)
  unfold Oper.wp
  simp [execOp, hop, hm, hx, hv, hrun, Result.andThen]
  exact hK' _ _ (hK w' r1 r2)
/-- an entry of a map's literal at the operation. -/
theorem wp_insert (hg : o.guard = none) (m x v : Operand) (t : TypeId) (hop : o.op = Op.insert t m x v) (k e : TypeId) (K : Keyed P k) (ht : P.underlying t = some (.map k e)) (keyN : Nat → Lit) (N : Nat) (b : Nat) (g : Lit → Option Value)
    (hN : ∀ l, (g l).isSome = true → ∃ j, j < N ∧ l = keyN j) (hmax : N < maxLen) (hm : a.eval m = .map (some b)) (h : MapIs P k w b g) (key val : Value) (kl : Lit) (hx : a.eval x = key) (hv : a.eval v = val) (hkey : keyOf P k key = some kl)
    (hK : ∀ w', MapIs P k w' b (upd g kl val) → w.grownBy w' (some b) → wpList P ops Q rest (a.put o.dst undef) w') : wpList P ops Q (o :: rest) a w := by
  refine wpList_plain hg fun K' hK' => ?_
  obtain ⟨w', hrun, r1, r2⟩ := h.store K ht keyN N hN hmax hkey (val := val)
  unfold Oper.wp
  simp [execOp, hop, hm, hx, hv, hrun, Result.andThen]
  exact hK' _ _ (hK w' r1 r2)
end
end Go.Proofs.Ytpmmfalpcooenab.Mm
