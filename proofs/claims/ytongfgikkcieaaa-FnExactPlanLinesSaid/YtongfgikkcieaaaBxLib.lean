/- A region that draws its order and makes one box: an allocation and a store into it. All its other operations only read, and its callees leave what lay before as it was. Walked once, in the order of the text. -/
import Derived.Test.YtongfgikkcieaaaQbLib
import Derived.Deep.MidRow
namespace Go.Proofs.Ytongfgikkcieaaa.Bx
open Go Go.RowKit Qb

section
variable {P : Program} {ops : Array Oper}
theorem put_put (a : Act) (x : Option Tmp) (v u : Value) : (a.put x v).put x u = a.put x u := by
  cases x with
  | none => rfl
  | some d => simp [Act.put]
/-- What a property of frames survives. -/
theorem quiet_keeps {C : World → Prop} {AQ : Act} (Pr : Act → Prop) : ∀ (l : List Oper) (a : Act), (∀ o ∈ l, ∀ b v, Pr b → Pr (b.put o.dst v)) → wpQuiet P ops C (fun b => b = AQ) l a → Pr a → Pr AQ
  | [], a, _, h, hp => by
    have e : a = AQ := h
    rw [← e]; exact hp
  | o :: l, a, hk, h, hp => by
    have hk' : ∀ o' ∈ l, ∀ b v, Pr b → Pr (b.put o'.dst v) := fun o' ho' => hk o' (List.mem_cons_of_mem _ ho')
    unfold wpQuiet at h
    split at h
    · obtain ⟨v, _, h⟩ := h
      exact quiet_keeps Pr l _ hk' h (hk o (by simp) a v hp)
    · exact quiet_keeps Pr l _ hk' h (hk o (by simp) a _ hp)
/-- No operation writes what it, or one ahead of it, looks at; none writes twice. -/
def tidy (ops : Array Oper) : List Oper → Bool
  | [] => true
  | o :: l => (o :: l).all (fun x => match x.dst with | none => true | some d => !(o.looksAt ops).contains d) && l.all (fun x => match x.dst with | none => true | some d => o.dst != some d) && tidy ops l
theorem quiet_at {C : World → Prop} {AQ : Act} : ∀ (l : List Oper) (a : Act), tidy ops l = true → (∀ o ∈ l, ∀ cs b, o.op ≠ .select cs b) → wpQuiet P ops C (fun b => b = AQ) l a →
    ∀ o ∈ l, ∃ v, YieldsIn P ops C o v AQ ∧ AQ.put o.dst v = AQ
  | [], _, _, _, _, o, ho => by cases ho
  | o :: l, a, ht, hn, h, x, hx => by
    simp only [tidy, Bool.and_eq_true, List.all_eq_true] at ht
    obtain ⟨⟨h1, h2⟩, h3⟩ := ht
    have look : ∀ y ∈ o :: l, ∀ d, y.dst = some d → d ∉ o.looksAt ops := fun y hy d hd => by
      have := h1 y hy
      rw [hd] at this
      simpa using this
    have hsel := hn o (by simp)
    have keep : ∀ y ∈ o :: l, ∀ v b u, YieldsIn P ops C o v b → YieldsIn P ops C o v (b.put y.dst u) := fun y hy v b u hb => hb.of_same (execOp_put o hsel b y.dst u (look y hy)) (wanted_put o b y.dst u (look y hy))
    have head : ∀ v, YieldsIn P ops C o v a → wpQuiet P ops C (fun b => b = AQ) l (a.put o.dst v) → ∃ v, YieldsIn P ops C o v AQ ∧ AQ.put o.dst v = AQ := fun v hy hw =>
      ⟨v, quiet_keeps (fun b => YieldsIn P ops C o v b ∧ b.put o.dst v = b) l _ (fun y hy' b u ⟨q1, q2⟩ => ⟨keep y (List.mem_cons_of_mem _ hy') v b u q1, by
        have hne : ∀ d, y.dst = some d → o.dst ≠ some d := fun d hd => by
          have := h2 y hy'
          rw [hd] at this
          simpa using this
        rw [Act.put_comm b u v hne, q2]⟩) hw ⟨keep o (by simp) v a v hy, put_put _ _ _ _⟩⟩
    have tail : ∀ v, wpQuiet P ops C (fun b => b = AQ) l (a.put o.dst v) → x ∈ l → ∃ v, YieldsIn P ops C x v AQ ∧ AQ.put x.dst v = AQ := fun v hw hxl =>
      quiet_at l _ h3 (fun y hy => hn y (List.mem_cons_of_mem _ hy)) hw x hxl
    unfold wpQuiet at h
    by_cases hw : Region.wanted o (yielded ops a.tmps) = true
    · rw [if_pos hw] at h
      obtain ⟨v, hv, h⟩ := h
      rcases List.mem_cons.1 hx with rfl | hxl
      · exact head v (.inl ⟨hw, hv⟩) h
      · exact tail v h hxl
    · rw [if_neg hw] at h
      rcases List.mem_cons.1 hx with rfl | hxl
      · exact head undef (.inr ⟨by simpa using hw, rfl⟩) h
      · exact tail undef h hxl

/-- An operation looks at the frame through what it looks at. -/
theorem exec_look {o : Oper} {a b : Act} (hn : ∀ cs q, o.op ≠ .select cs q) (h : ∀ t ∈ o.looksAt ops, a.tmps[t]? = b.tmps[t]?) : execOp a.eval o = execOp b.eval o :=
  execOp_congr o hn fun x hx => by
    cases x with
    | tmp t =>
      have : t ∈ o.looksAt ops := List.mem_append_left _ (List.mem_filterMap.2 ⟨.tmp t, by simpa using hx, rfl⟩)
      have e := h t this
      simp only [Act.eval, Array.getD_eq_getD_getElem?, e]
    | _ => rfl
theorem wanted_look {o : Oper} {a b : Act} (h : ∀ t ∈ o.looksAt ops, a.tmps[t]? = b.tmps[t]?) : Region.wanted o (yielded ops a.tmps) = Region.wanted o (yielded ops b.tmps) := by
  unfold Region.wanted
  cases hg : o.guard with
  | none => rfl
  | some p =>
    obtain ⟨j, want⟩ := p
    have e : yielded ops a.tmps j = yielded ops b.tmps j := by
      unfold yielded
      cases hd : (ops[j]?).bind (·.dst) with
      | none => rfl
      | some t =>
        have : t ∈ o.looksAt ops := List.mem_append_right _ (by simp [hg, hd])
        simp [h t this]
    simp [e]
/-- How many of the first n are not listed. -/
def unl (listed : Array Bool) : Nat → Nat
  | 0 => 0
  | n + 1 => unl listed n + if listed.getD n true = true then 0 else 1
theorem unl_zero {listed : Array Bool} : ∀ n, unl listed n = 0 → ∀ i, i < n → listed.getD i true = true
  | 0, _, i, hi => by omega
  | n + 1, h, i, hi => by
    simp only [unl] at h
    split at h
    · rename_i hq
      by_cases e : i = n
      · rw [e]; exact hq
      · exact unl_zero n (by omega) i (by omega)
    · omega
theorem unl_set {listed : Array Bool} {i : Nat} (hi : listed.getD i true = false) : ∀ n, unl (listed.setIfInBounds i true) n + (if i < n then 1 else 0) = unl listed n
  | 0 => by simp [unl]
  | n + 1 => by
    have ih := unl_set hi n
    have hlt : i < listed.size := by
      by_cases h : i < listed.size
      · exact h
      · simp [Array.getD, h] at hi
    simp only [unl]
    by_cases e : i = n
    · subst e
      rw [if_neg (by omega)] at ih
      rw [hi]
      simp [Array.getD, hlt] at ih ⊢
      omega
    · rw [getD_set_ne true e]
      split at ih <;> split <;> first | omega | (split <;> omega)
theorem unl_all : ∀ n, unl (Array.replicate n false) n = n := by
  intro n
  have : ∀ k, k ≤ n → unl (Array.replicate n false) k = k := by
    intro k
    induction k with
    | zero => intro _; rfl
    | succ k ih =>
      intro hk
      simp only [unl, ih (by omega)]
      simp [Array.getD]
      omega
  exact this n (Nat.le_refl _)
theorem listed_of {listed : Array Bool} {i : Nat} (hi : i < listed.size) (h : listed.getD i true = true) : listed.getD i false = true := by
  simp [Array.getD, hi] at h ⊢
  exact h
theorem none_listed (n i : Nat) : (Array.replicate n false).getD i false = false := by
  simp only [Array.getD]
  split <;> simp
/-- Each waits for what it looks at; the order of the text is one; none writes twice; d is looked at by 'is' alone. -/
def fits (ops : Array Oper) (is : Nat) (d : Tmp) : Bool :=
  Region.noSelect ops && (List.range ops.size).all fun i => match ops[i]? with
    | none => true
    | some o => o.after.all (fun e => !Region.binds .any e || decide (e.on < i)) && (decide (i = is) || !(o.looksAt ops).contains d) &&
      (List.range ops.size).all fun j => match ops[j]? with
        | none => true
        | some x => match x.dst with
          | none => true
          | some t => (decide (i = j) || o.dst != some t) && (!(o.looksAt ops).contains t || o.after.any fun e => Region.binds .any e && e.on == j)
theorem fits_at {is : Nat} {d : Tmp} (h : fits ops is d = true) {i : Nat} {o : Oper} (ho : ops[i]? = some o) :
    (∀ e ∈ o.after, Region.binds .any e = true → e.on < i) ∧ (i ≠ is → d ∉ o.looksAt ops) ∧ ∀ j x t, ops[j]? = some x → x.dst = some t → (i ≠ j → o.dst ≠ some t) ∧ (t ∈ o.looksAt ops → ∃ e ∈ o.after, Region.binds .any e = true ∧ e.on = j) := by
  have lt : ∀ {k : Nat} {x : Oper}, ops[k]? = some x → k < ops.size := fun {k x} hk => (Array.getElem?_eq_some_iff.1 hk).1
  simp only [fits, Bool.and_eq_true, List.all_eq_true, List.mem_range] at h
  have h1 := h.2 i (lt ho)
  rw [ho] at h1
  simp only [Bool.and_eq_true, List.all_eq_true, List.mem_range] at h1
  obtain ⟨⟨a1, a2⟩, a3⟩ := h1
  refine ⟨fun e he hb => ?_, fun hne => ?_, fun j x t hx ht => ?_⟩
  · have := (Array.all_eq_true_iff_forall_mem.1 a1) e he
    simpa [hb] using this
  · simpa [hne] using a2
  · have h2 := a3 j (lt hx)
    rw [hx] at h2
    simp only [ht, Bool.and_eq_true] at h2
    refine ⟨fun hne => ?_, fun hm => ?_⟩
    · have := h2.1
      simpa [hne] using this
    · have h3 := h2.2
      rw [show (o.looksAt ops).contains t = true by simpa using hm] at h3
      simp only [Bool.not_true, Bool.false_or] at h3
      obtain ⟨e, he, hb⟩ := Array.any_eq_true'.1 h3
      simp only [Bool.and_eq_true, beq_iff_eq] at hb
      exact ⟨e, he, hb.1, hb.2⟩
theorem ready_nil {is : Nat} {d : Tmp} {listed : Array Bool} (h : fits ops is d = true) (hs : listed.size = ops.size) (hr : Region.ready .any ops listed = []) : ∀ i, i < ops.size → listed.getD i true = true := by
  intro i
  induction i using Nat.strongRecOn with
  | _ i ih =>
    intro hi
    cases hq : listed.getD i true with
    | true => rfl
    | false =>
      have : i ∈ Region.ready .any ops listed := mem_ready.2 ⟨hq, ops[i], Array.getElem?_eq_getElem hi, fun e he hb => by
        have h1 := (fits_at h (Array.getElem?_eq_getElem hi)).1 e he hb
        exact listed_of (by omega) (ih e.on h1 (by omega))⟩
      rw [hr] at this
      cases this

/-- A row written whole. -/
theorem setCells_block (g : Nat) (T : TypeId) : ∀ (vs : List Value) (pre : List Value) (c : List Value) (w : World), w.heap[g]? = some (.cells (pre ++ c).toArray T (0, 0)) → c.length = vs.length →
    (w.setCells g pre.length vs).heap[g]? = some (.cells (pre ++ vs).toArray T (0, 0))
  | [], pre, c, w, h, hl => by
    have : c = [] := List.length_eq_zero_iff.1 (by simpa using hl)
    subst this
    simpa [World.setCells] using h
  | v :: vs, pre, c, w, h, hl => by
    match c, hl with
    | x :: c, hl =>
      have h1 : (w.setCell ⟨g, pre.length, none⟩ v).heap[g]? = some (.cells ((pre ++ [v]) ++ c).toArray T (0, 0)) := by
        simp [World.setCell, Array.getElem?_modify, h]
      have := setCells_block g T vs (pre ++ [v]) c _ h1 (by simpa using hl)
      simpa [World.setCells] using this
theorem setCells_rest (g : Nat) : ∀ (vs : List Value) (o : Nat) (w : World), (w.setCells g o vs).heap.size = w.heap.size ∧ (∀ k, k ≠ g → (w.setCells g o vs).heap[k]? = w.heap[k]?) ∧ (w.setCells g o vs).os = w.os ∧ (w.setCells g o vs).tape = w.tape ∧ (w.setCells g o vs).output = w.output
  | [], _, w => ⟨rfl, fun _ _ => rfl, rfl, rfl, rfl⟩
  | v :: vs, o, w => by
    obtain ⟨h1, h2, h3, h4, h5⟩ := setCells_rest g vs (o + 1) (w.setCell ⟨g, o, none⟩ v)
    refine ⟨?_, fun k hk => ?_, ?_, ?_, ?_⟩
    · simp only [World.setCells]; rw [h1]; simp
    · simp only [World.setCells]; rw [h2 k hk]; exact Below.heap_setCell _ _ _ _ (fun e => hk e)
    · simp only [World.setCells]; rw [h3]; rfl
    · simp only [World.setCells]; rw [h4]; rfl
    · simp only [World.setCells]; rw [h5]; rfl

/-- Where the run stands. -/
structure Inv (ops : Array Oper) (w0 : World) (AQ : Act) (ia is : Nat) (d : Tmp) (T : TypeId) (cs : List Value) (listed : Array Bool) (a : Act) (w : World) : Prop where
  size : listed.size = ops.size
  low : Below w0.heap.size w0 w
  wide : a.tmps.size = AQ.tmps.size
  defers : a.defers = AQ.defers
  closed : ∀ i o, ops[i]? = some o → listed.getD i false = true → ∀ e ∈ o.after, Region.binds .any e = true → listed.getD e.on false = true
  ex : ∃ g, (∀ t, (∀ i o, ops[i]? = some o → o.dst = some t → listed.getD i false = true) → a.tmps[t]? = (AQ.put (some d) (.pointer (some ⟨g, 0, none⟩))).tmps[t]?) ∧
    (listed.getD ia false = true → w0.heap.size ≤ g ∧ ∃ c : List Value, w.heap[g]? = some (.cells c.toArray T (0, 0)) ∧ c.length = cs.length) ∧ (listed.getD is false = true → w.heap[g]? = some (.cells cs.toArray T (0, 0)))
theorem act_ext {a b : Act} (hs : a.tmps.size = b.tmps.size) (hd : a.defers = b.defers) (h : ∀ t : Nat, a.tmps[t]? = b.tmps[t]?) : a = b := by
  obtain ⟨ta, da⟩ := a
  obtain ⟨tb, db⟩ := b
  simp only at hs hd h
  subst hd
  have : ta = tb := Array.ext_getElem? h
  rw [this]
theorem put_at (a : Act) (x : Option Tmp) (v : Value) (t : Tmp) : (a.put x v).tmps[t]? = if x = some t then (if t < a.tmps.size then some v else none) else a.tmps[t]? := by
  cases x with
  | none => simp [Act.put]
  | some d =>
    simp only [Act.put, Array.getElem?_setIfInBounds]
    by_cases e : d = t
    · subst e; simp
    · simp [e]
theorem set_get {listed : Array Bool} {i j : Nat} (hi : i < listed.size) : (listed.setIfInBounds i true).getD j false = true ↔ (j = i ∨ listed.getD j false = true) := by
  by_cases e : i = j
  · subst e
    simp [Array.getD, hi]
  · rw [getD_set_ne false e]
    constructor
    · exact .inr
    · rintro (h | h)
      · exact absurd h.symm e
      · exact h

theorem box_any {Q : Exit → Act → World → Prop} {w0 : World} {AQ : Act} {ia is : Nat} {d : Tmp} {T : TypeId} {z cs : List Value} {s : Operand} {oa os : Oper} (hf : fits ops is d = true) (hne : ia ≠ is)
    (ha : ops[ia]? = some oa) (ha1 : oa.op = .alloc T) (ha2 : oa.dst = some d) (ha3 : oa.guard = none)
    (hs : ops[is]? = some os) (hs1 : os.op = .store T (.tmp d) s) (hs2 : os.dst = none) (hs3 : os.guard = none)
    (hal : ∀ w' : World, (Instr.alloc T true (.tuple #[])).run P w' = .ok (.pointer (some ⟨w'.heap.size, 0, none⟩)) (w'.alloc (.cells z.toArray T)))
    (hz : z.length = cs.length) (hinf : (P.info? T).map (·.size) = some cs.length) (h1 : cs.toArray.all (·.oneCell') = true) (hev : AQ.eval s = .agg cs.toArray) (hsd : s ≠ .tmp d) (hd : d < AQ.tmps.size)
    (hq : ∀ i o, ops[i]? = some o → i ≠ ia → i ≠ is → ∀ w, Below w0.heap.size w0 w → ∃ v, YieldsIn P ops (fun x => ∃ p : Beyond w, x = p.to) o v AQ ∧ AQ.put o.dst v = AQ)
    (hQ : ∀ g w', w0.heap.size ≤ g → Below w0.heap.size w0 w' → w'.heap[g]? = some (.cells cs.toArray T (0, 0)) → Q .normal (AQ.put (some d) (.pointer (some ⟨g, 0, none⟩))) w') :
    ∀ (n : Nat) (listed : Array Bool) (a : Act) (w : World), unl listed ops.size = n → Inv ops w0 AQ ia is d T cs listed a w → wpAny P .any ops Q n listed a w := by
  have lt : ∀ {k : Nat} {x : Oper}, ops[k]? = some x → k < ops.size := fun {k x} hk => (Array.getElem?_eq_some_iff.1 hk).1
  have nosel : Region.noSelect ops = true := by simp only [fits, Bool.and_eq_true] at hf; exact hf.1
  have done : ∀ listed a w, Inv ops w0 AQ ia is d T cs listed a w → (∀ i, i < ops.size → listed.getD i true = true) → Q .normal a w := fun listed a w iv hall => by
    obtain ⟨g, ht, hA, hS⟩ := iv.ex
    have li : ∀ i, i < ops.size → listed.getD i false = true := fun i hi => listed_of (by rw [iv.size]; exact hi) (hall i hi)
    have e : a = AQ.put (some d) (.pointer (some ⟨g, 0, none⟩)) := act_ext (by simp [Act.put, iv.wide]) (by simp [Act.put, iv.defers]) fun t => ht t fun i o ho _ => li i (lt ho)
    rw [e]
    exact hQ g w (hA (li ia (lt ha))).1 iv.low (hS (li is (lt hs)))
  intro n
  induction n with
  | zero =>
    intro listed a w hn iv
    have hall := unl_zero ops.size hn
    refine ⟨?_, done listed a w iv hall⟩
    by_cases hr : Region.ready .any ops listed = []
    · exact hr
    · obtain ⟨i, hi⟩ := List.exists_mem_of_ne_nil _ hr
      obtain ⟨q, o, ho, _⟩ := mem_ready.1 hi
      rw [hall i (lt ho)] at q
      cases q
  | succ n ih =>
    intro listed a w hn iv
    refine ⟨fun hr => done listed a w iv (ready_nil hf iv.size hr), fun i hi => ?_⟩
    obtain ⟨hun, o, ho, hall⟩ := mem_ready.1 hi
    have hlt := lt ho
    have hls : i < listed.size := by rw [iv.size]; exact hlt
    have hn' : unl (listed.setIfInBounds i true) ops.size = n := by
      have := unl_set hun ops.size
      rw [if_pos hlt] at this
      omega
    have hunf : listed.getD i false = false := by
      simp [Array.getD, hls] at hun ⊢
      exact hun
    obtain ⟨f1, f2, f3⟩ := fits_at hf ho
    obtain ⟨g, ht, hA, hS⟩ := iv.ex
    have look : ∀ t ∈ o.looksAt ops, a.tmps[t]? = (AQ.put (some d) (.pointer (some ⟨g, 0, none⟩))).tmps[t]? := fun t htl => ht t fun j x hx hxt => by
      obtain ⟨e, he, hb, rfl⟩ := (f3 j x t hx hxt).2 htl
      exact hall e he hb
    have nos : ∀ cs b, o.op ≠ .select cs b := fun cs b => Region.noSelect_spec nosel i o cs b ho
    have step : ∀ (v : Value) (g' : Nat) (w' : World), Below w0.heap.size w0 w' → (∀ t, o.dst = some t → t < AQ.tmps.size → (AQ.put (some d) (.pointer (some ⟨g', 0, none⟩))).tmps[t]? = some v) →
        (i ≠ ia → g' = g) → ((i = ia ∨ listed.getD ia false = true) → w0.heap.size ≤ g' ∧ ∃ c : List Value, w'.heap[g']? = some (.cells c.toArray T (0, 0)) ∧ c.length = cs.length) →
        ((i = is ∨ listed.getD is false = true) → w'.heap[g']? = some (.cells cs.toArray T (0, 0))) → wpAny P .any ops Q n (listed.setIfInBounds i true) (a.put o.dst v) w' := fun v g' w' hlow hv hg hA' hS' =>
      ih _ _ _ hn' ⟨by simp [iv.size], hlow, by cases hod : o.dst <;> simp [Act.put, iv.wide], by cases hod : o.dst <;> simp [Act.put, iv.defers], fun j x hx hj e he hb => (set_get hls).2 (.inr (by
        rcases (set_get hls).1 hj with rfl | q
        · rw [ho] at hx
          obtain rfl := Option.some.inj hx
          exact hall e he hb
        · exact iv.closed j x hx q e he hb)), g', fun t hw => by
        rw [put_at]
        by_cases e : o.dst = some t
        · rw [if_pos e, iv.wide]
          by_cases hsz : t < AQ.tmps.size
          · rw [if_pos hsz, hv t e hsz]
          · rw [if_neg hsz, put_at]
            by_cases e2 : (some d : Option Tmp) = some t
            · rw [if_pos e2, if_neg hsz]
            · rw [if_neg e2]
              exact (Array.getElem?_eq_none (Nat.le_of_not_lt hsz)).symm
        · rw [if_neg e]
          have h0 := ht t fun j x hx hxt => by
            rcases (set_get hls).1 (hw j x hx hxt) with rfl | q
            · rw [ho] at hx
              obtain rfl := Option.some.inj hx
              exact absurd hxt e
            · exact q
          by_cases hia : i = ia
          · subst hia
            rw [ha] at ho
            obtain rfl := Option.some.inj ho
            rw [h0, put_at, put_at, if_neg (by rw [← ha2]; exact e), if_neg (by rw [← ha2]; exact e)]
          · rw [hg hia]; exact h0, fun q => hA' (by
          rcases (set_get hls).1 q with e | e
          · exact .inl e.symm
          · exact .inr e), fun q => hS' (by
          rcases (set_get hls).1 q with e | e
          · exact .inl e.symm
          · exact .inr e)⟩
    unfold wpOp
    simp only [ho]
    by_cases hia : i = ia
    · subst hia
      rw [ha] at ho
      obtain rfl := Option.some.inj ho
      have hw : Region.wanted oa (yielded ops a.tmps) = true := by simp [Region.wanted, ha3]
      rw [if_pos hw]
      refine .inl ?_
      unfold Oper.wp
      have hr : (execOp a.eval oa).run P w = .ok (.value (.pointer (some ⟨w.heap.size, 0, none⟩))) (w.alloc (.cells z.toArray T)) := by
        unfold execOp
        simp only [ha1, Sem.run_bind, hal, Result.andThen_ok, Sem.run_pure]
      rw [hr]
      refine step _ w.heap.size _ (iv.low.alloc iv.low.size _) (fun t e hsz => ?_) (fun h => absurd rfl h) (fun _ => ⟨iv.low.size, z, heap_alloc_new _ _, hz⟩) (fun q => ?_)
      · rw [ha2] at e
        rw [put_at, if_pos e, if_pos hsz]
      · rcases q with e | e
        · exact absurd e hne
        · -- the store waits for the box
          exfalso
          have hsl : d ∈ os.looksAt ops := List.mem_append_left _ (by simp [hs1, Op.operands])
          obtain ⟨q, hq1, hq2, hq3⟩ := ((fits_at hf hs).2.2 i oa d ha ha2).2 hsl
          have := iv.closed is os hs e q hq1 hq2
          rw [hq3, hunf] at this
          cases this
    by_cases his : i = is
    · subst his
      rw [hs] at ho
      obtain rfl := Option.some.inj ho
      have hw : Region.wanted os (yielded ops a.tmps) = true := by simp [Region.wanted, hs3]
      rw [if_pos hw]
      refine .inl ?_
      unfold Oper.wp
      have hsl : d ∈ os.looksAt ops := List.mem_append_left _ (by simp [hs1, Op.operands])
      have hla : listed.getD ia false = true := by
        obtain ⟨q, hq1, hq2, hq3⟩ := (f3 ia oa d ha ha2).2 hsl
        have := hall q hq1 hq2
        rwa [hq3] at this
      obtain ⟨hg0, c, hc, hcl⟩ := hA hla
      have ed : a.eval (.tmp d) = .pointer (some ⟨g, 0, none⟩) := by
        simp only [Act.eval, Array.getD_eq_getD_getElem?, look d hsl, put_at, if_pos hd]
        rfl
      have es : a.eval s = .agg cs.toArray := by
        rw [← hev]
        cases s with
        | tmp t =>
          have htl : t ∈ os.looksAt ops := List.mem_append_left _ (by simp [hs1, Op.operands])
          have hne' : ¬ (some d : Option Tmp) = some t := fun e => hsd (by rw [Option.some.inj e])
          simp only [Act.eval, Array.getD_eq_getD_getElem?, look t htl, put_at, if_neg hne']
        | _ => rfl
      have hth : w.there g 0 cs.toArray.size := fun j hj => by
        have hj' : j < c.length := by rw [hcl]; simpa using hj
        exact ⟨by simp [World.cell?, hc, hj'], by simp [World.frozen?, hc]⟩
      have hr : (execOp a.eval os).run P w = .ok .skip (w.setCells g 0 cs) := by
        unfold execOp
        have := run_storeAt_mid (P := P) w g 0 T cs.toArray hth (by simpa using hinf) h1
        simp only [hs1, ed, es, Sem.run_bind, this, Result.andThen_ok, Sem.run_pure]
      rw [hr]
      have hblk := setCells_block g T cs [] c w (by simpa using hc) hcl
      obtain ⟨r1, r2, r3, r4, r5⟩ := setCells_rest g cs 0 w
      refine step _ g _ ⟨r3.trans iv.low.os, r4.trans iv.low.tape, r5.trans iv.low.output, by rw [r1]; exact iv.low.size, fun k hk => by rw [r2 k (by omega)]; exact iv.low.block k hk⟩ (fun t e _ => ?_) (fun _ => rfl) (fun _ => ⟨hg0, cs, by simpa using hblk, rfl⟩) (fun _ => by simpa using hblk)
      rw [hs2] at e
      cases e
    · obtain ⟨v, hy, hput⟩ := hq i o ho hia his w iv.low
      have lookQ : ∀ t ∈ o.looksAt ops, a.tmps[t]? = AQ.tmps[t]? := fun t htl => by
        rw [look t htl, put_at, if_neg fun e => f2 his (by rw [Option.some.inj e]; exact htl)]
      have ex := exec_look (ops := ops) nos lookQ
      have hwe := wanted_look lookQ
      have hval : ∀ t, o.dst = some t → t < AQ.tmps.size → (AQ.put (some d) (.pointer (some ⟨g, 0, none⟩))).tmps[t]? = some v := fun t e hsz => by
        have hne' : ¬ (some d : Option Tmp) = some t := fun e' => (f3 ia oa d ha ha2).1 hia (by rw [e, e'])
        rw [put_at, if_neg hne', ← hput, put_at, if_pos e, if_pos hsz]
      have on : ∀ w', Below w.heap.size w w' → wpAny P .any ops Q n (listed.setIfInBounds i true) (a.put o.dst v) w' := fun w' hw' =>
        step v g w' (iv.low.trans (hw'.mono iv.low.size)) hval (fun _ => rfl)
          (fun q => by
            obtain ⟨q1, c, q2, q3⟩ := hA (q.resolve_left hia)
            exact ⟨q1, c, (hw'.block g (Array.getElem?_eq_some_iff.1 q2).1).trans q2, q3⟩)
          (fun q => by
            have q2 := hS (q.resolve_left his)
            exact (hw'.block g (Array.getElem?_eq_some_iff.1 q2).1).trans q2)
      rcases hy with ⟨hw, hv⟩ | ⟨hw, rfl⟩
      · rw [hwe, if_pos hw]
        refine .inl ?_
        have h3 := hv w ⟨⟨w, Below.refl _ _⟩, rfl⟩
        unfold Oper.quietAt at h3
        unfold Oper.wp
        rw [ex]
        generalize (execOp AQ.eval o).run P w = r at h3 ⊢
        cases r with
        | ok nx w' =>
          cases nx <;> simp only [Oper.quietUpon] at h3 <;> simp only [Oper.upon]
          case value u =>
            obtain ⟨e1, e2⟩ := h3
            rw [e1, e2]
            exact on _ (Below.refl _ _)
          case skip =>
            obtain ⟨e1, e2⟩ := h3
            rw [e1, ← e2]
            exact on _ (Below.refl _ _)
          case enter f args =>
            obtain ⟨e1, hc⟩ := h3
            rw [e1]
            exact hc.mono fun e w'' ⟨he, p, hp⟩ => by subst he; rw [hp]; exact on _ p.h
        | halt x w' => simp only [Oper.quietUpon] at h3
      · rw [hwe, hw]
        exact on _ (Below.refl _ _)
/-- The other operations, in the order of the text. -/
def without (l : List Oper) (ia is : Nat) : List Oper := l.take ia ++ ((l.drop (ia + 1)).take (is - ia - 1) ++ l.drop (is + 1))
theorem mem_without {l : List Oper} {ia is i : Nat} {o : Oper} (h : ia < is) (ho : l[i]? = some o) (h1 : i ≠ ia) (h2 : i ≠ is) : o ∈ without l ia is := by
  have key : ∀ (m : List Oper) (k : Nat), m[k]? = some o → o ∈ m := fun m k h => List.mem_iff_getElem?.2 ⟨k, h⟩
  unfold without
  rw [List.mem_append, List.mem_append]
  by_cases c1 : i < ia
  · exact .inl (key _ i (by rw [List.getElem?_take, if_pos c1]; exact ho))
  · by_cases c2 : i < is
    · exact .inr (.inl (key _ (i - ia - 1) (by rw [List.getElem?_take, if_pos (by omega), List.getElem?_drop, ← ho]; congr 1; omega)))
    · exact .inr (.inr (key _ (i - is - 1) (by rw [List.getElem?_drop, ← ho]; congr 1; omega)))
/-- **One walk serves every order**: a region that makes one box. -/
theorem wp_region_box {id : Nat} {Q : Exit → Act → World → Prop} {w : World} {a : Act} {l : List Oper} (ia is : Nat) {d : Tmp} {T : TypeId} {z cs : List Value} {s : Operand} {oa os : Oper} (hm : P.follows .mixedOrders = true)
    (hf : fits l.toArray is d = true) (hlt : ia < is)
    (ha : l[ia]? = some oa) (ha1 : oa.op = .alloc T) (ha2 : oa.dst = some d) (ha3 : oa.guard = none)
    (hs : l[is]? = some os) (hs1 : os.op = .store T (.tmp d) s) (hs2 : os.dst = none) (hs3 : os.guard = none)
    {rest : List Oper} (hr : without l ia is = rest) (ht : tidy l.toArray rest = true)
    (hal : ∀ w' : World, (Instr.alloc T true (.tuple #[])).run P w' = .ok (.pointer (some ⟨w'.heap.size, 0, none⟩)) (w'.alloc (.cells z.toArray T)))
    (hz : z.length = cs.length) (hinf : (P.info? T).map (·.size) = some cs.length) (h1 : cs.toArray.all (·.oneCell') = true) (hsd : s ≠ .tmp d)
    (hx : ∃ AQ : Act, (∀ w', Below w.heap.size w w' → wpQuiet P l.toArray (fun x => ∃ p : Beyond w', x = p.to) (fun b => b = AQ) rest a) ∧ (AQ.eval s = .agg cs.toArray ∧ d < AQ.tmps.size) ∧
      ∀ g w', w.heap.size ≤ g → Below w.heap.size w w' → w'.heap[g]? = some (.cells cs.toArray T (0, 0)) → Q .normal (AQ.put (some d) (.pointer (some ⟨g, 0, none⟩))) w') :
    (Code.region id l.toArray true).wp P Q a w := by
  obtain ⟨AQ, hq, ⟨hev, hd⟩, hQ⟩ := hx
  have nosel : Region.noSelect l.toArray = true := by simp only [fits, Bool.and_eq_true] at hf; exact hf.1
  have hmem : ∀ o ∈ rest, ∃ i : Nat, l[i]? = some o := fun o ho => by
    rw [← hr] at ho
    unfold without at ho
    simp only [List.mem_append] at ho
    have : o ∈ l := by
      rcases ho with h | h | h
      · exact List.mem_of_mem_take h
      · exact List.mem_of_mem_drop (List.mem_of_mem_take h)
      · exact List.mem_of_mem_drop h
    exact List.mem_iff_getElem?.1 this
  have hsel : ∀ o ∈ rest, ∀ cs b, o.op ≠ .select cs b := fun o ho cs b => by
    obtain ⟨i, hi⟩ := hmem o ho
    exact Region.noSelect_spec nosel i o cs b (by simpa using hi)
  have hq0 := hq w (Below.refl _ _)
  have hsame : AQ.tmps.size = a.tmps.size ∧ AQ.defers = a.defers ∧ ∀ t : Nat, (∀ (i : Nat) (o : Oper), l[i]? = some o → o.dst ≠ some t) → AQ.tmps[t]? = a.tmps[t]? :=
    quiet_keeps (fun b => b.tmps.size = a.tmps.size ∧ b.defers = a.defers ∧ ∀ t : Nat, (∀ (i : Nat) (o : Oper), l[i]? = some o → o.dst ≠ some t) → b.tmps[t]? = a.tmps[t]?) rest a (fun o ho b v ⟨q1, q2, q3⟩ => by
      refine ⟨?_, ?_, fun t hw => ?_⟩
      · cases hod : o.dst <;> simp [Act.put, q1]
      · cases hod : o.dst <;> simp [Act.put, q2]
      · obtain ⟨i, hi⟩ := hmem o ho
        rw [put_at, if_neg (hw i o hi)]
        exact q3 t hw) hq0 ⟨rfl, rfl, fun _ _ => rfl⟩
  refine wp_region_any hm ?_
  have hi0 : unl (Array.replicate l.toArray.size false) l.toArray.size = l.toArray.size := unl_all _
  refine box_any (P := P) (ops := l.toArray) (Q := Q) (w0 := w) (AQ := AQ) (ia := ia) (is := is) (d := d) (T := T) (z := z) (cs := cs) (s := s) (oa := oa) (os := os) hf (by omega) (by simpa using ha) ha1 ha2 ha3 (by simpa using hs) hs1 hs2 hs3 hal hz hinf h1 hev hsd hd
    (fun i o ho h2 h3 w' hw' => quiet_at rest a ht hsel (hq w' hw') o (by
      rw [← hr]
      exact mem_without hlt (by simpa using ho) h2 h3)) hQ _ _ _ _ hi0 ⟨by simp, (Below.refl _ w).drew, hsame.1.symm, hsame.2.1.symm, fun i o ho h => ?_, 0, fun t hw => ?_, fun h => ?_, fun h => ?_⟩
  · rw [none_listed] at h; cases h
  · have hn : ∀ (i : Nat) (o : Oper), l[i]? = some o → o.dst ≠ some t := fun i o ho e => by
      have := hw i o (by simpa using ho) e
      rw [none_listed] at this
      cases this
    rw [put_at, if_neg (by rw [← ha2]; exact hn ia oa ha), hsame.2.2 t hn]
  · rw [none_listed] at h; cases h
  · rw [none_listed] at h; cases h
end
end Go.Proofs.Ytongfgikkcieaaa.Bx
