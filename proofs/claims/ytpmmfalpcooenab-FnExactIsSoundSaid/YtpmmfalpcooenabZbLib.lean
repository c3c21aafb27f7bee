/- Surfaces: places of edges, mates, and how a surface lies in memory. -/
import Derived.Test.YtpmmfalpcooenabZaLib
import Derived.Test.YtpmmfalpcooenabPvLib
import Derived.Test.YtpmmfalpcooenabMmLib
import Derived.Test.YtpmmfalpcooenabAwLib
import Derived.DeepKeys4
namespace Go.Proofs.Ytpmmfalpcooenab.Zb
set_option linter.unusedVariables false
open Go.RowKit Go.Maps Ft Is Ge Qb Pt Pv Za Mm

/-- The places of the edges of the first p pieces. -/
def plc (ms : Nat → Nat) : Nat → List (Nat × Nat)
  | 0 => []
  | p + 1 => plc ms p ++ (List.range (ms p)).map fun j => (p, j)
def plq (ms : Nat → Nat) (p q : Nat) : List (Nat × Nat) := plc ms p ++ (List.range q).map fun j => (p, j)
theorem plq_zero (ms : Nat → Nat) (p : Nat) : plq ms p 0 = plc ms p := by simp [plq]
theorem plq_snoc (ms : Nat → Nat) (p q : Nat) : plq ms p (q + 1) = plq ms p q ++ [(p, q)] := by simp [plq, List.range_succ]
theorem plq_all (ms : Nat → Nat) (p : Nat) : plq ms p (ms p) = plc ms (p + 1) := rfl
theorem mem_plc {ms : Nat → Nat} : ∀ {p : Nat} {x : Nat × Nat}, x ∈ plc ms p ↔ x.1 < p ∧ x.2 < ms x.1
  | 0, x => by simp [plc]
  | p + 1, x => by
    unfold plc
    rw [List.mem_append, mem_plc]
    constructor
    · rintro (⟨h1, h2⟩ | h)
      · exact ⟨by omega, h2⟩
      · obtain ⟨j, hj, rfl⟩ := List.mem_map.1 h
        exact ⟨by simp, by simpa using hj⟩
    · rintro ⟨h1, h2⟩
      by_cases e : x.1 = p
      · refine .inr (List.mem_map.2 ⟨x.2, ?_, ?_⟩)
        · rw [e] at h2; simpa using h2
        · rw [← e]
      · exact .inl ⟨by omega, h2⟩
theorem mem_plq {ms : Nat → Nat} {p q : Nat} (hq : q ≤ ms p) {x : Nat × Nat} (h : x ∈ plq ms p q) : x ∈ plc ms (p + 1) := by
  unfold plq at h
  rcases List.mem_append.1 h with h | h
  · have := mem_plc.1 h
    exact mem_plc.2 ⟨by omega, this.2⟩
  · obtain ⟨j, hj, rfl⟩ := List.mem_map.1 h
    exact mem_plc.2 ⟨by simp, by have : j < q := by simpa using hj
                                 show j < ms p; omega⟩
theorem plc_len (ms : Nat → Nat) : ∀ p, (plc ms p).length = sumN ms p
  | 0 => rfl
  | p + 1 => by simp [plc, plc_len ms p, sumN]
theorem plq_len (ms : Nat → Nat) (p q : Nat) : (plq ms p q).length = sumN ms p + q := by simp [plq, plc_len]
theorem sum_le {ms : Nat → Nat} : ∀ {p : Nat}, (∀ i, i < p → ms i ≤ 8) → sumN ms p ≤ 8 * p
  | 0, _ => by simp [sumN]
  | p + 1, h => by
    have := sum_le (p := p) fun i hi => h i (by omega)
    have := h p (by omega)
    unfold sumN; omega
/-- The mates that the first j seams make. -/
def endA (S : Nat → Int) (j : Nat) : Nat × Nat := ((S (j * 4)).toNat, (S (j * 4 + 1)).toNat)
def endB (S : Nat → Int) (j : Nat) : Nat × Nat := ((S (j * 4 + 2)).toNat, (S (j * 4 + 3)).toNat)
def mate (S : Nat → Int) : Nat → Nat × Nat → Option (Nat × Nat)
  | 0, _ => none
  | j + 1, x => if x = endA S j then some (endB S j) else if x = endB S j then some (endA S j) else mate S j x
theorem mate_succ (S : Nat → Int) (j : Nat) (x : Nat × Nat) : mate S (j + 1) x = if x = endA S j then some (endB S j) else if x = endB S j then some (endA S j) else mate S j x := rfl
/-- The seam j can be sewn. -/
def SwP (n : Nat) (ms : Nat → Nat) (S : Nat → Int) (j : Nat) : Prop :=
  sdB n ms (S (j * 4)) (S (j * 4 + 1)) (S (j * 4 + 2)) (S (j * 4 + 3)) = true ∧ mate S j (endA S j) = none ∧ mate S j (endB S j) = none ∧ endA S j ≠ endB S j
theorem sd_iff {n : Nat} {ms : Nat → Nat} {a b c d : Int} : sdB n ms a b c d = true ↔ ((0 ≤ a ∧ a < n) ∧ (0 ≤ b ∧ b < ms a.toNat)) ∧ ((0 ≤ c ∧ c < n) ∧ (0 ≤ d ∧ d < ms c.toNat)) := by
  unfold sdB; rw [Bool.and_eq_true, ed_iff, ed_iff]
theorem tm_succ (S : Nat → Int) (a e : Int) (j : Nat) : tmN S a e (j + 1) = tmN S a e j + (if S (j * 4) == a && S (j * 4 + 1) == e then 1 else 0) + (if S (j * 4 + 2) == a && S (j * 4 + 3) == e then 1 else 0) := rfl
/-- How often an edge is an end of the first j seams. -/
theorem mate_none {n : Nat} {ms : Nat → Nat} {S : Nat → Int} : ∀ {j : Nat}, (∀ i, i < j → sdB n ms (S (i * 4)) (S (i * 4 + 1)) (S (i * 4 + 2)) (S (i * 4 + 3)) = true) → ∀ x : Nat × Nat, mate S j x = none ↔ tmN S (x.1 : Int) (x.2 : Int) j = 0
  | 0, _, x => by simp [mate, tmN]
  | j + 1, h, x => by
    have ih := mate_none (j := j) (fun i hi => h i (by omega)) x
    have hs := sd_iff.1 (h j (by omega))
    have eA : x = endA S j ↔ (S (j * 4) = (x.1 : Int) ∧ S (j * 4 + 1) = (x.2 : Int)) := by
      unfold endA
      constructor
      · rintro rfl; exact ⟨by simp; omega, by simp; omega⟩
      · rintro ⟨h1, h2⟩; rw [h1, h2]; simp
    have eB : x = endB S j ↔ (S (j * 4 + 2) = (x.1 : Int) ∧ S (j * 4 + 3) = (x.2 : Int)) := by
      unfold endB
      constructor
      · rintro rfl; exact ⟨by simp; omega, by simp; omega⟩
      · rintro ⟨h1, h2⟩; rw [h1, h2]; simp
    unfold mate tmN
    by_cases qA : x = endA S j
    · have := eA.1 qA
      simp [qA.symm, this.1, this.2]
    · have nA : (S (j * 4) == (x.1 : Int) && S (j * 4 + 1) == (x.2 : Int)) = false := by
        cases q : (S (j * 4) == (x.1 : Int) && S (j * 4 + 1) == (x.2 : Int))
        · rfl
        · simp at q; exact absurd (eA.2 q) qA
      rw [if_neg qA, nA]
      by_cases qB : x = endB S j
      · have := eB.1 qB
        simp [qB.symm, this.1, this.2]
      · have nB : (S (j * 4 + 2) == (x.1 : Int) && S (j * 4 + 3) == (x.2 : Int)) = false := by
          cases q : (S (j * 4 + 2) == (x.1 : Int) && S (j * 4 + 3) == (x.2 : Int))
          · rfl
          · simp at q; exact absurd (eB.2 q) qB
        rw [if_neg qB, nB, ih]
        simp
theorem tm_mono (S : Nat → Int) (a e : Int) {j k : Nat} (h : j ≤ k) : tmN S a e j ≤ tmN S a e k := by
  induction k with
  | zero => obtain rfl : j = 0 := by omega
            exact Nat.le_refl _
  | succ k ih =>
    by_cases q : j = k + 1
    · rw [q]; exact Nat.le_refl _
    · have := ih (by omega)
      show _ ≤ tmN S a e k + _ + _
      omega
theorem endA_int {n : Nat} {ms : Nat → Nat} {S : Nat → Int} {j : Nat} (h : sdB n ms (S (j * 4)) (S (j * 4 + 1)) (S (j * 4 + 2)) (S (j * 4 + 3)) = true) : ((endA S j).1 : Int) = S (j * 4) ∧ ((endA S j).2 : Int) = S (j * 4 + 1) ∧ ((endB S j).1 : Int) = S (j * 4 + 2) ∧ ((endB S j).2 : Int) = S (j * 4 + 3) := by
  have := sd_iff.1 h
  unfold endA endB
  simp; omega
theorem sew_iff {n : Nat} {ms : Nat → Nat} {S : Nat → Int} {k : Nat} : (∀ j, j < k → SwP n ms S j) ↔ ∀ j, j < k → SmP n ms k S j := by
  constructor
  · intro h
    have hs : ∀ i, i < k → sdB n ms (S (i * 4)) (S (i * 4 + 1)) (S (i * 4 + 2)) (S (i * 4 + 3)) = true := fun i hi => (h i hi).1
    have one : ∀ q, q ≤ k → ∀ x : Nat × Nat, tmN S (x.1 : Int) (x.2 : Int) q ≤ 1 := by
      intro q
      induction q with
      | zero => intro _ x; simp [tmN]
      | succ q ih =>
        intro hq x
        have h0 := ih (by omega) x
        obtain ⟨s1, s2, s3, s4⟩ := h q (by omega)
        obtain ⟨i1, i2, i3, i4⟩ := endA_int s1
        have mA := (mate_none (n := n) (ms := ms) (fun i hi => hs i (by omega)) (endA S q)).1 s2
        have mB := (mate_none (n := n) (ms := ms) (fun i hi => hs i (by omega)) (endB S q)).1 s3
        unfold tmN
        by_cases qA : (S (q * 4) == (x.1 : Int) && S (q * 4 + 1) == (x.2 : Int)) = true
        · have qa := qA
          simp at qa
          have hx : x = endA S q := Prod.ext (by omega) (by omega)
          have hnB : ¬ (S (q * 4 + 2) == (x.1 : Int) && S (q * 4 + 3) == (x.2 : Int)) = true := fun z => by
            simp at z
            exact s4 (hx.symm.trans (Prod.ext (by omega) (by omega)))
          rw [if_pos qA, if_neg hnB, hx, mA]
          omega
        · rw [if_neg qA]
          by_cases qB : (S (q * 4 + 2) == (x.1 : Int) && S (q * 4 + 3) == (x.2 : Int)) = true
          · have qb := qB
            simp at qb
            have hx : x = endB S q := Prod.ext (by omega) (by omega)
            rw [if_pos qB, hx, mB]
            omega
          · rw [if_neg qB]; omega
    intro j hj
    obtain ⟨i1, i2, i3, i4⟩ := endA_int (hs j hj)
    refine ⟨hs j hj, ?_, ?_⟩
    · have := one k (Nat.le_refl _) (endA S j)
      rwa [i1, i2] at this
    · have := one k (Nat.le_refl _) (endB S j)
      rwa [i3, i4] at this
  · intro h
    have hs : ∀ i, i < k → sdB n ms (S (i * 4)) (S (i * 4 + 1)) (S (i * 4 + 2)) (S (i * 4 + 3)) = true := fun i hi => (h i hi).1
    intro j hj
    obtain ⟨i1, i2, i3, i4⟩ := endA_int (hs j hj)
    obtain ⟨_, t1, t2⟩ := h j hj
    have m1 := tm_mono S (S (j * 4)) (S (j * 4 + 1)) (show j + 1 ≤ k by omega)
    have m2 := tm_mono S (S (j * 4 + 2)) (S (j * 4 + 3)) (show j + 1 ≤ k by omega)
    rw [tm_succ] at m1 m2
    simp only [beq_self_eq_true, Bool.and_self, if_true] at m1 m2
    refine ⟨hs j hj, ?_, ?_, ?_⟩
    · rw [mate_none (n := n) (ms := ms) (fun i hi => hs i (by omega)), i1, i2]; omega
    · rw [mate_none (n := n) (ms := ms) (fun i hi => hs i (by omega)), i3, i4]; omega
    · intro e
      have e1 : S (j * 4) = S (j * 4 + 2) := by rw [← i1, ← i3, e]
      have e2 : S (j * 4 + 1) = S (j * 4 + 3) := by rw [← i2, ← i4, e]
      rw [e1, e2] at m1 t1
      simp only [beq_self_eq_true, Bool.and_self, if_true] at m1
      omega
/-- Places of edges as keys. -/
theorem laidOut : laidOutB Try.prog = true := by kernel_rfl
theorem law_ed : Keyed Try.prog 171 := Keyed.of_law (deep_law_laid laidOut (m := 4) (by omega) (of_decide_eq_true (by kernel_rfl)) (by kernel_rfl) (by kernel_rfl))
abbrev edV (a e : Int) : Value := .agg #[.int .i64 a, .int .i64 e]
noncomputable def ek (a e : Int) : Lit := (keyOf Try.prog 171 (edV a e)).getD (.bool true)
theorem key_ed {a e : Int} (ha : (Lit.int .i64 a).wf = true) (he : (Lit.int .i64 e).wf = true) : keyOf Try.prog 171 (edV a e) = some (ek a e) := by
  have h : ∃ l, keyOf Try.prog 171 (edV a e) = some l := by
    unfold keyOf
    rw [Try.underlying171]
    have h1 : (Try.prog.keyType 171 && (edV a e).formed Try.prog 171) = true := by kernel_rfl
    simp only [h1, if_true]
    have h2 : ∃ f, Try.prog.types.size + 1 = f + 2 := ⟨Try.prog.types.size - 1, by decide +kernel⟩
    obtain ⟨f, hf⟩ := h2
    rw [hf]
    have c1 : Try.prog.cellsOf 171 = 2 := by kernel_rfl
    have c3 : Try.prog.cellsOf 2 = 1 := by kernel_rfl
    simp [Program.keyLits, Try.underlying171, Try.underlying2, Value.cells, c1, c3, ha, he]
  obtain ⟨l, h⟩ := h
  rw [h, ek, h]
  rfl
theorem ek_inj {a e a' e' : Int} (ha : (Lit.int .i64 a).wf = true) (he : (Lit.int .i64 e).wf = true) (ha' : (Lit.int .i64 a').wf = true) (he' : (Lit.int .i64 e').wf = true) (h : ek a e = ek a' e') : a = a' ∧ e = e' := by
  have := law_ed.inj (key_ed ha he) (by rw [h]; exact key_ed ha' he')
  simpa using this
noncomputable def ekx (x : Nat × Nat) : Lit := ek (x.1 : Int) (x.2 : Int)
def op (P : Nat × Nat → Nat) (M : Nat × Nat → Option (Nat × Nat)) (x : Nat × Nat) : Value := match M x with | none => .pointer none | some y => ptr (P y)
def nxt (ms : Nat → Nat) (x : Nat × Nat) : Nat × Nat := (x.1, nx (ms x.1) x.2)
/-- A surface: the edges of p pieces lie in blocks of their own, those of the list 'row' stand in the slice, those of 'map' in the map. -/
structure Surf (B p : Nat) (ms : Nat → Nat) (ds : Nat → Nat → Int) (rl ml : List (Nat × Nat)) (M : Nat × Nat → Option (Nat × Nat)) (es : Value) (bm : Nat) (P : Nat × Nat → Nat) (g : Lit → Option Value) (w : World) : Prop where
  row : w.ownsRow B 169 1 es rl.length (rl.map fun x => ptr (P x))
  map : MapIs Try.prog 171 w bm g
  has : ∀ x, x ∈ ml → g (ekx x) = some (ptr (P x))
  only : ∀ l v, g l = some v → ∃ x, x ∈ ml ∧ l = ekx x
  edg : ∀ x : Nat × Nat, x.1 < p → x.2 < ms x.1 → w.heap[P x]? = some (heC (x.1 : Int) (x.2 : Int) (ds x.1 x.2) (ptr (P (nxt ms x))) (op P M x)) ∧ B ≤ P x
  inj : ∀ x y : Nat × Nat, x.1 < p → x.2 < ms x.1 → y.1 < p → y.2 < ms y.1 → P x = P y → x = y
  low : B ≤ bm
theorem Surf.below {B p : Nat} {ms : Nat → Nat} {ds : Nat → Nat → Int} {row map : List (Nat × Nat)} {M : Nat × Nat → Option (Nat × Nat)} {es : Value} {bm : Nat} {P : Nat × Nat → Nat} {g : Lit → Option Value} {w w' : World} (h : Surf B p ms ds row map M es bm P g w) (hb : Below w.heap.size w w') : Surf B p ms ds row map M es bm P g w' :=
  ⟨Ge.row_below h.row hb, h.map.below hb h.map.lt, h.has, h.only, fun x h1 h2 => ⟨blk_keep hb (h.edg x h1 h2).1, (h.edg x h1 h2).2⟩, h.inj, h.low⟩
/-- Another block is written. -/
theorem row_set {w : World} {base : Nat} {e : TypeId} {size n : Nat} {v : Value} {xs : List Value} (h : w.ownsRow base e size v n xs) {b o : Nat} {u : Value} (hb : some b ≠ v.ownBlock) : (w.setCell ⟨b, o, none⟩ u).ownsRow base e size v n xs :=
  ⟨h.1, by
    rcases h.2 with h0 | ⟨g, cap, cur, hv, hbg, hh, r⟩
    · exact .inl h0
    · refine .inr ⟨g, cap, cur, hv, hbg, (Below.heap_setCell _ _ _ _ fun e => hb ?_).trans hh, r⟩
      subst hv
      change g = b at e
      rw [e]; rfl⟩
theorem map_ne {P : Program} {k : TypeId} {w : World} {bm : Nat} {g : Lit → Option Value} (h : MapIs P k w bm g) {b : Nat} {cs : Array Value} {t : TypeId} (hb : w.heap[b]? = some (.cells cs t (0, 0))) : bm ≠ b := fun e => by
  obtain ⟨D, ⟨es, clock, hm, _⟩, _⟩ := h
  rw [e, hb] at hm
  cases hm
theorem Surf.set {B p : Nat} {ms : Nat → Nat} {ds : Nat → Nat → Int} {row map : List (Nat × Nat)} {M : Nat × Nat → Option (Nat × Nat)} {es : Value} {bm : Nat} {P : Nat × Nat → Nat} {g : Lit → Option Value} {w : World} (h : Surf B p ms ds row map M es bm P g w) {b o : Nat} {u : Value} {cs : Array Value} {t : TypeId} (hb : w.heap[b]? = some (.cells cs t (0, 0))) (h1 : t ≠ 169) (h2 : t ≠ 173) : Surf B p ms ds row map M es bm P g (w.setCell ⟨b, o, none⟩ u) :=
  ⟨row_set h.row (own_neT h.row hb h1), h.map.of_block (Below.heap_setCell _ _ _ _ (map_ne h.map hb)), h.has, h.only, fun x k1 k2 => ⟨(Below.heap_setCell _ _ _ _ (fun e => by
    have := (h.edg x k1 k2).1
    change P x = b at e
    rw [e, hb] at this
    cases this
    exact h2 rfl)).trans (h.edg x k1 k2).1, (h.edg x k1 k2).2⟩, h.inj, h.low⟩
theorem seam_type : (134 : TypeId) ≠ 169 ∧ (134 : TypeId) ≠ 173 := by decide
/-- A new ring joins the surface. -/
def addP (P : Nat × Nat → Nat) (p : Nat) (R : Nat → Nat) (x : Nat × Nat) : Nat := if x.1 = p then R x.2 else P x
theorem Surf.ring {B p : Nat} {ms : Nat → Nat} {ds : Nat → Nat → Int} {row map : List (Nat × Nat)} {es : Value} {bm : Nat} {P : Nat × Nat → Nat} {g : Lit → Option Value} {w w' : World} {rg : Nat} {R : Nat → Nat} (h : Surf B p ms ds row map (fun _ => none) es bm P g w) (hr : ∀ x, x ∈ row → x.1 < p) (hm : ∀ x, x ∈ map → x.1 < p) (hB : B ≤ w.heap.size)
    (k : Ring w w' (p : Int) (ms p) (ds p) rg R (ms p)) (h0 : 0 < ms p) : Surf B (p + 1) ms ds row map (fun _ => none) es bm (addP P p R) g w' := by
  have h' := h.below k.bel
  have old : ∀ x : Nat × Nat, x.1 < p → addP P p R x = P x := fun x hx => if_neg (by omega)
  have new : ∀ j, addP P p R (p, j) = R j := fun j => if_pos rfl
  refine ⟨?_, h'.map, fun x hx => ?_, h'.only, fun x h1 h2 => ?_, fun x y h1 h2 h3 h4 e => ?_, h.low⟩
  · have : (row.map fun x => ptr (addP P p R x)) = row.map fun x => ptr (P x) := List.map_congr_left fun x hx => by rw [old x (hr x hx)]
    rw [this]
    exact h'.row
  · rw [old x (hm x hx)]; exact h'.has x hx
  · by_cases e : x.1 = p
    · obtain ⟨a, j⟩ := x
      simp only at e h2
      subst e
      have hn := nx_lt (m := ms a) (q := j) h0
      have := k.edg j h2
      rw [if_pos h2] at this
      rw [new]
      refine ⟨?_, Nat.le_trans hB this.2⟩
      have e2 : addP P a R (nxt ms (a, j)) = R (nx (ms a) j) := new _
      rw [e2]
      exact this.1
    · have hx : x.1 < p := by omega
      rw [old x hx, old (nxt ms x) hx]
      exact h'.edg x hx h2
  · by_cases e1 : x.1 = p
    · by_cases e2 : y.1 = p
      · obtain ⟨a, j⟩ := x
        obtain ⟨b, j'⟩ := y
        simp only at e1 e2 h2 h4
        subst e1 e2
        rw [new, new] at e
        rw [k.inj h2 h4 e]
      · obtain ⟨a, j⟩ := x
        simp only at e1 h2
        subst e1
        rw [new, old y (by omega)] at e
        have := lt_of_heap (h.edg y (by omega) h4).1
        have := (k.edg j h2).2
        omega
    · by_cases e2 : y.1 = p
      · obtain ⟨b, j'⟩ := y
        simp only at e2 h4
        subst e2
        rw [new, old x (by omega)] at e
        have := lt_of_heap (h.edg x (by omega) h2).1
        have := (k.edg j' h4).2
        omega
      · rw [old x (by omega), old y (by omega)] at e
        exact h.inj x y (by omega) h2 (by omega) h4 e
/-- An edge is put behind the others. -/
theorem Surf.push {B p : Nat} {ms : Nat → Nat} {ds : Nat → Nat → Int} {row map : List (Nat × Nat)} {M : Nat × Nat → Option (Nat × Nat)} {es es' : Value} {bm : Nat} {P : Nat × Nat → Nat} {g : Lit → Option Value} {w w' : World} {x : Nat × Nat} (h : Surf B p ms ds row map M es bm P g w)
    (hown : w'.ownsRow B 169 1 es' (row.length + 1) ((row.map fun x => ptr (P x)) ++ [ptr (P x)])) (hg : w.grownBy w' es.ownBlock) : Surf B p ms ds (row ++ [x]) map M es' bm P g w' := by
  refine ⟨?_, h.map.kept hg fun e => ?_, h.has, h.only, fun y h1 h2 => ⟨(hg.block _ (lt_of_heap (h.edg y h1 h2).1) (own_neT h.row (h.edg y h1 h2).1 types_ne)).trans (h.edg y h1 h2).1, (h.edg y h1 h2).2⟩, h.inj, h.low⟩
  · rw [List.length_append, List.map_append]
    exact hown
  · rcases h.row.2 with ⟨rfl, _⟩ | ⟨b, cap, cur, rfl, _, hh, _⟩
    · cases e
    · cases e
      exact map_ne h.map hh rfl
/-- An edge is entered into the map. -/
theorem Surf.enter {B p : Nat} {ms : Nat → Nat} {ds : Nat → Nat → Int} {row map : List (Nat × Nat)} {M : Nat × Nat → Option (Nat × Nat)} {es : Value} {bm : Nat} {P : Nat × Nat → Nat} {g : Lit → Option Value} {w w' : World} {x : Nat × Nat} (h : Surf B p ms ds row map M es bm P g w) (hw : ∀ y, y ∈ map ∨ y = x → (Lit.int .i64 (y.1 : Int)).wf = true ∧ (Lit.int .i64 (y.2 : Int)).wf = true)
    (hm : MapIs Try.prog 171 w' bm (upd g (ekx x) (ptr (P x)))) (hg : w.grownBy w' (some bm)) : Surf B p ms ds row (map ++ [x]) M es bm P (upd g (ekx x) (ptr (P x))) w' := by
  have ne : ∀ {b : Nat} {cs : Array Value} {t : TypeId}, w.heap[b]? = some (.cells cs t (0, 0)) → some b ≠ some bm := fun hb e => by cases e; exact map_ne h.map hb rfl
  refine ⟨⟨h.row.1, ?_⟩, hm, fun y hy => ?_, fun l v hl => ?_, fun y h1 h2 => ⟨(hg.block _ (lt_of_heap (h.edg y h1 h2).1) (ne (h.edg y h1 h2).1)).trans (h.edg y h1 h2).1, (h.edg y h1 h2).2⟩, h.inj, h.low⟩
  · rcases h.row.2 with h0 | ⟨b, cap, cur, hv, hbg, hh, r⟩
    · exact .inl h0
    · exact .inr ⟨b, cap, cur, hv, hbg, (hg.block _ (lt_of_heap hh) (ne hh)).trans hh, r⟩
  · by_cases e : y = x
    · subst e; exact upd_same _ _ _
    · have hy' : y ∈ map := by
        rcases List.mem_append.1 hy with h | h
        · exact h
        · exact absurd (by simpa using h) e
      rw [upd_other _ _ fun q => ?_]
      · exact h.has y hy'
      · have a := hw y (.inl hy')
        have b := hw x (.inr rfl)
        obtain ⟨q1, q2⟩ := ek_inj a.1 a.2 b.1 b.2 q
        exact e (Prod.ext (by omega) (by omega))
  · by_cases e : l = ekx x
    · exact ⟨x, by simp, e⟩
    · rw [upd_other _ _ e] at hl
      obtain ⟨y, h1, h2⟩ := h.only l v hl
      exact ⟨y, by simp [h1], h2⟩
noncomputable def keyN (j : Nat) : Lit := ekx (j / 8, j % 8)
set_option maxRecDepth 100000 in
theorem Surf.keys {B p : Nat} {ms : Nat → Nat} {ds : Nat → Nat → Int} {row map : List (Nat × Nat)} {M : Nat × Nat → Option (Nat × Nat)} {es : Value} {bm : Nat} {P : Nat × Nat → Nat} {g : Lit → Option Value} {w : World} (h : Surf B p ms ds row map M es bm P g w) (hx : ∀ x, x ∈ map → x.1 < 10 ∧ x.2 < 8) (l : Lit) (hl : (g l).isSome = true) : ∃ j, j < 80 ∧ l = keyN j := by
  obtain ⟨v, hv⟩ := Option.isSome_iff_exists.1 hl
  obtain ⟨x, h1, rfl⟩ := h.only l v hv
  obtain ⟨a, b⟩ := hx x h1
  refine ⟨x.1 * 8 + x.2, by omega, ?_⟩
  unfold keyN
  rw [show (x.1 * 8 + x.2) / 8 = x.1 by omega, show (x.1 * 8 + x.2) % 8 = x.2 by omega]
/-- What a look-up gives. -/
theorem Surf.look {B n : Nat} {ms : Nat → Nat} {ds : Nat → Nat → Int} {row : List (Nat × Nat)} {M : Nat × Nat → Option (Nat × Nat)} {es : Value} {bm : Nat} {P : Nat × Nat → Nat} {g : Lit → Option Value} {w : World} (h : Surf B n ms ds row (plc ms n) M es bm P g w) (hn : n ≤ 10) (hm : ∀ i, i < n → ms i ≤ 8) {a e : Int} (ha : (Lit.int .i64 a).wf = true) (he : (Lit.int .i64 e).wf = true) :
    got (g (ek a e)) (.pointer none) = if edB n ms a e = true then ptr (P (a.toNat, e.toNat)) else .pointer none := by
  by_cases q : edB n ms a e = true
  · rw [if_pos q]
    obtain ⟨⟨h1, h2⟩, h3, h4⟩ := ed_iff.1 q
    have := h.has (a.toNat, e.toNat) (mem_plc.2 ⟨by show a.toNat < n; omega, by show e.toNat < ms a.toNat; omega⟩)
    unfold ekx at this
    rw [show ((a.toNat : Nat) : Int) = a by omega, show ((e.toNat : Nat) : Int) = e by omega] at this
    rw [this]; rfl
  · rw [if_neg q]
    cases hg : g (ek a e) with
    | none => rfl
    | some v =>
      obtain ⟨x, hx, hk⟩ := h.only _ v hg
      obtain ⟨x1, x2⟩ := mem_plc.1 hx
      have := hm x.1 x1
      obtain ⟨q1, q2⟩ := ek_inj ha he (WalkArith.wf_i64 (by omega)) (WalkArith.wf_i64 (by omega)) hk
      exact absurd (ed_iff.2 ⟨⟨by omega, by omega⟩, by omega, by rw [q1, q2]; simpa using x2⟩) q
/-- A seam is sewn. -/
theorem Surf.sewn {B n : Nat} {ms : Nat → Nat} {ds : Nat → Nat → Int} {row map : List (Nat × Nat)} {S : Nat → Int} {j : Nat} {es : Value} {bm : Nat} {P : Nat × Nat → Nat} {g : Lit → Option Value} {w : World} (h : Surf B n ms ds row map (mate S j) es bm P g w) (hs : SwP n ms S j) :
    Surf B n ms ds row map (mate S (j + 1)) es bm P g ((w.setCell ⟨P (endA S j), 4, none⟩ (ptr (P (endB S j)))).setCell ⟨P (endB S j), 4, none⟩ (ptr (P (endA S j)))) := by
  obtain ⟨s1, s2, s3, s4⟩ := hs
  have sd := sd_iff.1 s1
  have a1 : (endA S j).1 < n := by unfold endA; simp; omega
  have a2 : (endA S j).2 < ms (endA S j).1 := by unfold endA; simp; omega
  have b1 : (endB S j).1 < n := by unfold endB; simp; omega
  have b2 : (endB S j).2 < ms (endB S j).1 := by unfold endB; simp; omega
  have eA := (h.edg _ a1 a2).1
  have eB := (h.edg _ b1 b2).1
  have ne : P (endB S j) ≠ P (endA S j) := fun e => s4 (h.inj _ _ a1 a2 b1 b2 e.symm)
  have mA : mate S (j + 1) (endA S j) = some (endB S j) := by unfold mate; rw [if_pos rfl]
  have mB : mate S (j + 1) (endB S j) = some (endA S j) := by unfold mate; rw [if_neg (fun e => s4 e.symm), if_pos rfl]
  have k1 : (w.setCell ⟨P (endA S j), 4, none⟩ (ptr (P (endB S j)))).heap[P (endB S j)]? = some (heC ((endB S j).1 : Int) ((endB S j).2 : Int) (ds (endB S j).1 (endB S j).2) (ptr (P (nxt ms (endB S j)))) (op P (mate S j) (endB S j))) := (Below.heap_setCell _ _ _ _ ne).trans eB
  refine ⟨row_set (row_set h.row (own_neT h.row eA types_ne)) ?_, ?_, h.has, h.only, fun x h1 h2 => ⟨?_, (h.edg x h1 h2).2⟩, h.inj, h.low⟩
  · exact own_neT (row_set (o := 4) (u := ptr (P (endB S j))) h.row (own_neT h.row eA types_ne)) k1 types_ne
  · exact (h.map.of_block (Below.heap_setCell _ _ _ _ (map_ne h.map eA))).of_block (Below.heap_setCell _ _ _ _ (map_ne h.map eB))
  · by_cases qA : x = endA S j
    · subst qA
      have := heap_set eA 4 (ptr (P (endB S j)))
      refine (Below.heap_setCell _ _ _ _ fun e => ne e.symm).trans (this.trans ?_)
      unfold op
      rw [mA]
      rfl
    · by_cases qB : x = endB S j
      · subst qB
        have := heap_set k1 4 (ptr (P (endA S j)))
        refine this.trans ?_
        unfold op
        rw [mB]
        rfl
      · have n1 : P x ≠ P (endA S j) := fun e => qA (h.inj _ _ h1 h2 a1 a2 e)
        have n2 : P x ≠ P (endB S j) := fun e => qB (h.inj _ _ h1 h2 b1 b2 e)
        refine (Below.heap_setCell _ _ _ _ n2).trans ((Below.heap_setCell _ _ _ _ n1).trans ((h.edg x h1 h2).1.trans ?_))
        have : mate S (j + 1) x = mate S j x := by rw [mate_succ, if_neg qA, if_neg qB]
        unfold op
        rw [this]
/-- A piece that is valid: the program's. -/
theorem nm_impl (s : ByteArray) (hs : s.size ≤ maxLen) (w : World) : Calls Try.prog 125 #[.string s] w fun e w' => e = .returned (.bool (tv (Nm.IsNm s))) ∧ Below w.heap.size w w' :=
  (Nm.impl_is s w hs).mono fun _ _ t => tells_tv t
set_option maxHeartbeats 1000000 in
theorem valid_piece (s : ByteArray) (A : Option Addr) (m c : Nat) (d : Nat → Int) (hs : s.size ≤ maxLen) (hm : m ≤ 1048576) (w : World) (hA : Nums w w.heap.size A m d) :
    Calls Try.prog 137 #[pcV s A m c] w fun e w' => e = .returned (.bool (tv (PcP s m d))) ∧ Below w.heap.size w w' := by
  have HB := Lib.hid (below_box w (.cells #[.string s, .slice A m c] 164))
  have KB := Lib.hid (heap_alloc_new w (.cells #[.string s, .slice A m c] 164))
  have CN := Lib.hid (fun w => nm_impl s hs w)
  have CW := Lib.hid (fun w => Ba.within_any (m : Int) 3 8 w)
  have CA : Hid (∀ w', Below w.heap.size w w' → Calls Try.prog 70 #[.slice A m c, .int .i64 1, .int .i64 10000] w' fun e w2 => e = .returned (.bool (tv (Ly.Al 1 10000 m d))) ∧ w' = w2) := Lib.hid fun w' hb => Ly.are_any 1 10000 A m c d hm w' ((hA.below hb (Nat.le_refl _)).more hb.size)
  have HE : Hid (tv (PcP s m d) = (tv (Nm.IsNm s) && (Ba.inB (m : Int) 3 8 && tv (Ly.Al 1 10000 m d)))) := Lib.hid (by
    by_cases q1 : Nm.IsNm s
    · by_cases q2 : 3 ≤ m ∧ m ≤ 8
      · rw [tv_yes q1, Ba.in_yes (by omega) (by omega)]
        by_cases q3 : Ly.Al 1 10000 m d
        · rw [tv_yes q3, tv_yes ⟨q1, q2, q3⟩]; rfl
        · rw [tv_no q3, tv_no fun z => q3 z.2.2]; rfl
      · rw [tv_no (P := PcP s m d) fun z => q2 z.2.1, show Ba.inB (m : Int) 3 8 = false by unfold Ba.inB; simp; omega, tv_yes q1]; rfl
    · rw [tv_no q1, tv_no fun z => q1 z.1]; rfl)
  clear hA
  unfold pcV
  generalize tv (PcP s m d) = r at HE ⊢
  generalize tv (Nm.IsNm s) = r1 at CN HE
  generalize Ba.inB (m : Int) 3 8 = r2 at CW HE
  generalize tv (Ly.Al 1 10000 m d) = r3 at CA HE
  cases r1
  · go_enter Try.func137, Try.ntmps137
    go_wp2_with fail
    refine (CN.out _).mono ?_
    rintro e w1 ⟨rfl, b1⟩
    have B1 := Lib.hid (below_then HB.out b1)
    clear b1
    go_wp2_with fail
    go_ret
    exact ⟨Ft.ret_bool HE.out.symm, B1.out⟩
  · go_enter Try.func137, Try.ntmps137
    go_wp2_with fail
    refine (CN.out _).mono ?_
    rintro e w1 ⟨rfl, b1⟩
    have B1 := Lib.hid (below_then HB.out b1)
    obtain ⟨x0, x1⟩ := blk2 (blk_keep b1 KB.out)
    clear b1
    go_wp2_with fail
    refine (CW.out _).mono ?_
    rintro e w' ⟨rfl, rfl⟩
    cases r2
    · go_wp2_with fail
      go_ret
      exact ⟨Ft.ret_bool HE.out.symm, B1.out⟩
    · go_wp2_with fail
      refine (CA.out _ B1.out).mono ?_
      rintro e w' ⟨rfl, rfl⟩
      go_wp2_with fail
      go_ret
      exact ⟨Ft.ret_bool (by rw [HE.out]; simp), B1.out⟩
end Go.Proofs.Ytpmmfalpcooenab.Zb
