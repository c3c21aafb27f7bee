/- Blocks on a roll: what the search for the best rows leans on, nothing of any function. -/
import Derived.Test.YtgclhkiiaclkgabP5Lib
import Derived.Test.YtgclhkiiaclkgabN8Lib
namespace Go.Proofs.Ytgclhkiiaclkgab.Pm
set_option linter.unusedVariables false
open Jr Js Jt Ju P5 N7 N8

/-- The rows of the first k blocks are in their first form, and none is too wide. -/
def Pre (roll : Int) (g : Nat → Int) (k : Nat) (p : Nat → Int) : Prop := ∀ j, j < k → N8.ok roll g j p
theorem rs_eq {q p : Nat → Int} {z : Nat} : ∀ {k : Nat}, (∀ j, j < k → q j = p j) → rs q z k = rs p z k
  | 0, _ => rfl
  | k + 1, h => by
    unfold rs
    rw [rs_eq (k := k) fun j hj => h j (by omega), h k (by omega)]
theorem rs_put {p : Nat → Int} {k z j : Nat} : rs (put p k (z : Int)) j (k + 1) = if j = z then rs p j k ||| 2 ^ k else rs p j k := by
  show (if put p k (z : Int) k = (j : Int) then rs (put p k (z : Int)) j k ||| 2 ^ k else rs (put p k (z : Int)) j k) = _
  rw [put_at, rs_eq (p := p) fun i hi => put_lt hi]
  by_cases e : j = z
  · subst e; rw [if_pos rfl, if_pos rfl]
  · rw [if_neg (by omega), if_neg e]
theorem ws_more (g : Nat → Int) {x m : Nat} (h : ∀ j, m ≤ j → x.testBit j = false) : ∀ d, ws g x (m + d) = ws g x m
  | 0 => rfl
  | d + 1 => by
    show (if x.testBit (m + d) = true then ws g x (m + d) + g ((m + d) * 2) else ws g x (m + d)) = _
    rw [h (m + d) (by omega), if_neg (by simp), ws_more g h d]
theorem hs_more (g : Nat → Int) {x m : Nat} (h : ∀ j, m ≤ j → x.testBit j = false) : ∀ d, hs g x (m + d) = hs g x m
  | 0 => rfl
  | d + 1 => by
    show (if x.testBit (m + d) = true then max (hs g x (m + d)) (g ((m + d) * 2 + 1)) else hs g x (m + d)) = _
    rw [h (m + d) (by omega), if_neg (by simp), hs_more g h d]
theorem rs_none (p : Nat → Int) (z m : Nat) : ∀ j, m ≤ j → (rs p z m).testBit j = false := fun j hj => by
  rw [rs_bit]
  have : ¬ j < m := by omega
  simp [this]
theorem ws_all {g p : Nat → Int} {z m n : Nat} (h : m ≤ n) : ws g (rs p z m) n = wd g p m z := by
  rw [← ws_rs g p z m (Nat.le_refl m)]
  have := ws_more g (rs_none p z m) (n - m)
  rwa [show m + (n - m) = n by omega] at this
theorem hs_all {g p : Nat → Int} {z m n : Nat} (h : m ≤ n) : hs g (rs p z m) n = ht g p m z := by
  rw [← hs_rs g p z m (Nat.le_refl m)]
  have := hs_more g (rs_none p z m) (n - m)
  rwa [show m + (n - m) = n by omega] at this
/-- Which rows are used. -/
theorem used {p : Nat → Int} {z : Nat} : ∀ {k : Nat}, (∀ j, j < k → 0 ≤ p j ∧ p j ≤ mn p j) → ((z : Int) < mn p k ↔ rs p z k ≠ 0)
  | 0, _ => by
    show ((z : Int) < 0 ↔ (0 : Nat) ≠ 0)
    constructor
    · intro h; omega
    · intro h; exact absurd rfl h
  | k + 1, h => by
    have ih := used (z := z) (k := k) fun j hj => h j (by omega)
    have hp := h k (by omega)
    show ((z : Int) < max (mn p k) (p k + 1) ↔ (if p k = (z : Int) then rs p z k ||| 2 ^ k else rs p z k) ≠ 0)
    by_cases e : p k = (z : Int)
    · rw [if_pos e]
      constructor
      · intro _ h0
        have := congrArg (fun x => x.testBit k) h0
        simp [Nat.testBit_or, Nat.testBit_two_pow_self] at this
      · intro _
        omega
    · rw [if_neg e, ← ih]
      omega
theorem pre_lt {roll : Int} {g p : Nat → Int} {k : Nat} (h : Pre roll g k p) {z : Nat} : (z : Int) < mn p k ↔ rs p z k ≠ 0 := used fun j hj => (h j hj).1
theorem pre_mn {roll : Int} {g p : Nat → Int} : ∀ {k : Nat}, Pre roll g k p → 0 ≤ mn p k ∧ mn p k ≤ (k : Int)
  | 0, _ => ⟨Int.le_refl _, Int.le_refl _⟩
  | k + 1, h => by
    have h1 := pre_mn (k := k) fun j hj => h j (by omega)
    have h2 := (h k (by omega)).1
    show 0 ≤ max (mn p k) (p k + 1) ∧ max (mn p k) (p k + 1) ≤ _
    omega
theorem ok_put {roll : Int} {g p : Nat → Int} {k z : Nat} (hz : (z : Int) ≤ mn p k) : N8.ok roll g k (put p k (z : Int)) ↔ wd g p k z + g (k * 2) ≤ roll := by
  have e1 : wd g (put p k (z : Int)) k = wd g p k := wd_eq fun j hj => put_lt hj
  have e2 : mn (put p k (z : Int)) k = mn p k := mn_eq fun j hj => put_lt hj
  unfold N8.ok
  rw [put_at, e1, e2, Int.toNat_natCast]
  constructor
  · exact fun h => h.2
  · exact fun h => ⟨⟨by omega, hz⟩, h⟩
theorem pre_put {roll : Int} {g p : Nat → Int} {k : Nat} {c : Int} (h : Pre roll g k p) (ho : N8.ok roll g k (put p k c)) : Pre roll g (k + 1) (put p k c) := fun j hj => by
  by_cases e : j = k
  · subst e; exact ho
  · exact (ok_eq fun i hi => put_lt (by omega)).2 (h j (by omega))
theorem ws0 (g : Nat → Int) : ∀ n, ws g 0 n = 0
  | 0 => rfl
  | n + 1 => by unfold ws; simpa using ws0 g n
theorem hs0 (g : Nat → Int) : ∀ n, hs g 0 n = 0
  | 0 => rfl
  | n + 1 => by unfold hs; simpa using hs0 g n
theorem unused_zero {roll : Int} {g p : Nat → Int} {k : Nat} (h : Pre roll g k p) {z : Nat} (hz : mn p k ≤ (z : Int)) : wd g p k z = 0 ∧ ht g p k z = 0 := by
  have e : rs p z k = 0 := by
    by_cases q : rs p z k = 0
    · exact q
    · have := (pre_lt h).2 q
      omega
  refine ⟨?_, ?_⟩
  · rw [← ws_all (g := g) (Nat.le_refl k), e]; exact ws0 g k
  · rw [← hs_all (g := g) (Nat.le_refl k), e]; exact hs0 g k
/-- The best rows so far, as the program has them. -/
def Bd (n : Nat) (b : Nat → Int) (wo : Int) (bf : Nat → Nat) (ls : Int) : Prop := (wo = -1 ∧ ls = 45001) ∨ (0 ≤ wo ∧ ls = wo ∧ ∀ z, bf z = rs b z n)
section
variable {roll : Int} {n k : Nat} {g p b : Nat → Int} {wo ls : Int} {bf : Nat → Nat}
theorem sum_in (h : BlP roll n g) (hk : k ≤ n) : 0 ≤ hi (ht g p k) 9 ∧ hi (ht g p k) 9 ≤ 45000 := by
  have := hi_in (fun z => ht_in p h hk z) 9
  exact ⟨this.1, by have := this.2; simpa using this⟩
theorem go_prune (h : BlP roll n g) (hk : k ≤ n) (hd : Bd n b wo bf ls) (hb : Bst n (vl g n) (Before n (N8.ok roll g) k p) b wo) (hle : ls ≤ hi (ht g p k) 9) : Bst n (vl g n) (Upto n (N8.ok roll g) k p) b wo := by
  have hs := sum_in (p := p) h hk
  rcases hd with ⟨h1, h2⟩ | ⟨h1, h2, _⟩
  · omega
  · exact prune hk h1 hb fun q _ ha => Int.le_trans (by omega) (vl_low hk ha)
theorem go_leaf (h : BlP roll n g) (hp : Pre roll g n p) (hd : Bd n b wo bf ls) (hb : Bst n (vl g n) (Before n (N8.ok roll g) n p) b wo) (hlt : hi (ht g p n) 9 < ls) : Bst n (vl g n) (Upto n (N8.ok roll g) n p) p (hi (ht g p n) 9) :=
  leaf hp (fun q hq => vl_eq hq) hb (fun q _ => vl_pos h q) (by
    rcases hd with ⟨h1, h2⟩ | ⟨h1, h2, _⟩
    · exact .inl (by omega)
    · exact .inr (by show hi (ht g p n) 9 < wo; omega))
theorem bd_leaf (h : BlP roll n g) : Bd n p (hi (ht g p n) 9) (fun z => rs p z n) (hi (ht g p n) 9) := .inr ⟨(sum_in h (Nat.le_refl n)).1, rfl, fun _ => rfl⟩
theorem go_start (hk : k < n) (hb : Bst n (vl g n) (Before n (N8.ok roll g) k p) b wo) : Bst n (vl g n) (Before n (N8.ok roll g) (k + 1) (put p k ((0 : Nat) : Int))) b wo := N7.start hk (fun q hq => (hq k hk).1.1) hb
theorem go_next {z : Nat} (hk : k < n) (hb : Bst n (vl g n) (Upto n (N8.ok roll g) (k + 1) (put p k (z : Int))) b wo) : Bst n (vl g n) (Before n (N8.ok roll g) (k + 1) (put p k ((z + 1 : Nat) : Int))) b wo :=
  N7.next hk (by omega) (fun q _ _ hq => by omega) hb
theorem go_skip {z : Nat} (hk : k < n) (hz : (z : Int) ≤ mn p k) (hno : ¬ wd g p k z + g (k * 2) ≤ roll) (hb : Bst n (vl g n) (Before n (N8.ok roll g) (k + 1) (put p k (z : Int))) b wo) : Bst n (vl g n) (Upto n (N8.ok roll g) (k + 1) (put p k (z : Int))) b wo :=
  skip hk (fun q hq ho => hno ((ok_put hz).1 ((ok_eq hq).1 ho))) hb
theorem go_done {z : Nat} (hk : k < n) (hz : (z : Int) = mn p k) (hb : Bst n (vl g n) (Upto n (N8.ok roll g) (k + 1) (put p k (z : Int))) b wo) : Bst n (vl g n) (Upto n (N8.ok roll g) k p) b wo :=
  done hk (fun q hq ha => by have := (hq k hk).1.2; rw [mn_eq ha] at this; omega) hb
end
/-- Each block in a row of its own: there are rows without a fault. -/
theorem some_rows {roll : Int} {n : Nat} {g : Nat → Int} (h : BlP roll n g) : NF n (N8.ok roll g) (fun j => (j : Int)) := by
  have hm : ∀ k, mn (fun j => (j : Int)) k = (k : Int) := fun k => by
    induction k with
    | zero => rfl
    | succ k ih =>
      show max (mn (fun j => (j : Int)) k) ((k : Int) + 1) = _
      rw [ih]; omega
  have hw : ∀ k z, k ≤ z → wd g (fun j => (j : Int)) k z = 0 := fun k z => by
    induction k with
    | zero => intro _; rfl
    | succ k ih =>
      intro hz
      rw [wd_s, if_neg (by omega)]
      exact ih (by omega)
  intro k hk
  have := (blk_in (h.2 k hk)).1
  refine ⟨⟨Int.natCast_nonneg k, by rw [hm]; exact Int.le_refl _⟩, ?_⟩
  rw [Int.toNat_natCast, hw k k (Nat.le_refl k)]
  omega
/-- The best rows. -/
theorem best_some {roll : Int} {n : Nat} {g b : Nat → Int} {wo : Int} (h : BlP roll n g) (hb : Bst n (vl g n) (NF n (N8.ok roll g)) b wo) : NF n (N8.ok roll g) b ∧ vl g n b = wo ∧ 0 ≤ wo := by
  rcases hb with ⟨h1, h2⟩ | ⟨h1, h2, h3⟩
  · exact absurd (some_rows h) (h2 _)
  · exact ⟨h1, h2, by rw [← h2]; exact vl_pos h b⟩
noncomputable def brR (roll : Int) (n : Nat) (g : Nat → Int) : Nat → Int := open Classical in if h : ∃ b wo, Bst n (vl g n) (NF n (N8.ok roll g)) b wo then h.choose else fun _ => 0
noncomputable def brW (roll : Int) (n : Nat) (g : Nat → Int) : Int := vl g n (brR roll n g)
theorem br_is {roll : Int} {n : Nat} {g b : Nat → Int} {wo : Int} (h : BlP roll n g) (hb : Bst n (vl g n) (NF n (N8.ok roll g)) b wo) : wo = brW roll n g ∧ ∀ j, j < n → b j = brR roll n g j := by
  have he : ∃ b wo, Bst n (vl g n) (NF n (N8.ok roll g)) b wo := ⟨b, wo, hb⟩
  have e : brR roll n g = he.choose := by unfold brR; rw [dif_pos he]
  obtain ⟨vo, hv⟩ := he.choose_spec
  rw [← e] at hv
  have k1 := best_some h hv
  have k2 := hb.unique hv (best_some h hb).2.2
  exact ⟨by unfold brW; rw [k1.2.1]; exact k2.1, k2.2⟩
theorem best_in {roll : Int} {n : Nat} {g b : Nat → Int} (h : BlP roll n g) (hb : NF n (N8.ok roll g) b) : ∀ j, j < n → 0 ≤ b j ∧ b j ≤ 8 := fun j hj => by
  have h1 := (hb j hj).1
  have h2 := mn_in hb (show j ≤ n by omega)
  have h3 := h.1.2
  omega
end Go.Proofs.Ytgclhkiiaclkgab.Pm
