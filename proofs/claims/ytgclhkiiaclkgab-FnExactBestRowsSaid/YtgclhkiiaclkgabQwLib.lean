/- Blocks on a roll: the spec's search for the best rows. -/
import Derived.Test.YtgclhkiiaclkgabQsLib
import Derived.Test.YtgclhkiiaclkgabN2Lib
import Derived.Deep.DeepCutAuto
namespace Go.Proofs.Ytgclhkiiaclkgab.Qw
set_option linter.unusedVariables false
open Go.RowKit Go.Maps Ft Is Ge Qb Jr Js Jt Ju Jw Jx Pm Qs
open N7 (put put_lt put_at Bst Before Upto NF)
open N8 (mn vl)
open Go.Proofs.Ytgclhkiiaclkgab.Ba (inB)

abbrev blO (a b : Int) : Obj := .cells #[.int .i64 a, .int .i64 b] 54
theorem upd0 {α : Type} {a b c x : α} : upd (v3 a b c) 0 x = v3 x b c := funext fun j => match j with | 0 => rfl | 1 => rfl | j + 2 => rfl
theorem upd1 {α : Type} {a b c x : α} : upd (v3 a b c) 1 x = v3 a x c := funext fun j => match j with | 0 => rfl | 1 => rfl | j + 2 => rfl
theorem upd2 {α : Type} {a b c x : α} : upd (v3 a b c) 2 x = upd (v3 a b c) 2 x := rfl
section
variable {gs B0 : Nat} {w w' w6 : World} {A : Option Addr} {n c : Nat} {g : Nat → Int} {roll : Int} {X C : Nat → Nat} {a0 a1 a2 : Nat} {f0 f1 f2 : Nat → Int} {bv : Value} {mb : Nat} {b : Nat → Int} {wo : Int}
theorem cells (h : St gs B0 w A n c g roll X C (v3 a0 a1 a2) (v3 f0 f1 f2) bv mb b wo) : w.cell? ⟨gs, 0, none⟩ = some (.slice A n c) ∧ w.cell? ⟨gs, 1, none⟩ = some (.int .i64 roll) ∧ w.cell? ⟨gs, 2, none⟩ = some (.slice (some ⟨X 0, 0, none⟩) a0 (C 0)) ∧ w.cell? ⟨gs, 3, none⟩ = some (.slice (some ⟨X 1, 0, none⟩) a1 (C 1)) ∧ w.cell? ⟨gs, 4, none⟩ = some (.slice (some ⟨X 2, 0, none⟩) a2 (C 2)) ∧ w.cell? ⟨gs, 5, none⟩ = some bv ∧ w.cell? ⟨gs, 6, none⟩ = some (.int .i64 wo) := blk7 h.box
theorem own0 (h : St gs B0 w A n c g roll X C (v3 a0 a1 a2) (v3 f0 f1 f2) bv mb b wo) : w.ownsRow B0 2 1 (.slice (some ⟨X 0, 0, none⟩) a0 (C 0)) a0 (upto f0 a0) := h.own 0 (by omega)
theorem own1 (h : St gs B0 w A n c g roll X C (v3 a0 a1 a2) (v3 f0 f1 f2) bv mb b wo) : w.ownsRow B0 2 1 (.slice (some ⟨X 1, 0, none⟩) a1 (C 1)) a1 (upto f1 a1) := h.own 1 (by omega)
theorem own2 (h : St gs B0 w A n c g roll X C (v3 a0 a1 a2) (v3 f0 f1 f2) bv mb b wo) : w.ownsRow B0 2 1 (.slice (some ⟨X 2, 0, none⟩) a2 (C 2)) a2 (upto f2 a2) := h.own 2 (by omega)
theorem row_cell {B x m cap z : Nat} {f : Nat → Int} {v : World} (h : v.ownsRow B 2 1 (.slice (some ⟨x, 0, none⟩) m cap) m (upto f m)) (hz : z < m) : v.cell? ⟨x, z, none⟩ = some (.int .i64 (f z)) := (h.cellAt z (by omega)).trans (upto_get f hz)
theorem row_free {B x m cap : Nat} {xs : List Value} {v : World} (h : v.ownsRow B 2 1 (.slice (some ⟨x, 0, none⟩) m cap) m xs) (z : Nat) : v.frozen? ⟨x, z, none⟩ = false := by
  obtain ⟨_, _, _, _, cur, hc⟩ := row_ge h
  exact blk_free hc z
theorem push0 (h : St gs B0 w A n c g roll X C (v3 a0 a1 a2) (v3 f0 f1 f2) bv mb b wo) {x' cap' : Nat} {d : Int} (hown : w6.ownsRow B0 2 1 (.slice (some ⟨x', 0, none⟩) (a0 + 1) cap') (a0 + 1) (upto f0 a0 ++ [.int .i64 d])) (hg : w.grownBy w6 (some (X 0))) (hat : x' = X 0 ∨ x' = w.heap.size) :
    St gs B0 (w6.setCell ⟨gs, 2, none⟩ (.slice (some ⟨x', 0, none⟩) (a0 + 1) cap')) A n c g roll (upd X 0 x') (upd C 0 cap') (v3 (a0 + 1) a1 a2) (v3 (fun j => if j = a0 then d else f0 j) f1 f2) bv mb b wo ∧ Fr gs X w (w6.setCell ⟨gs, 2, none⟩ (.slice (some ⟨x', 0, none⟩) (a0 + 1) cap')) (upd X 0 x') ∧ w6.heap[gs]? = some (stO A n c roll X C (v3 a0 a1 a2) bv wo) := by
  have k := St.push (i := 0) h (by omega) hown hg hat
  rw [upd0, upd0] at k
  exact k
theorem push1 (h : St gs B0 w A n c g roll X C (v3 a0 a1 a2) (v3 f0 f1 f2) bv mb b wo) {x' cap' : Nat} {d : Int} (hown : w6.ownsRow B0 2 1 (.slice (some ⟨x', 0, none⟩) (a1 + 1) cap') (a1 + 1) (upto f1 a1 ++ [.int .i64 d])) (hg : w.grownBy w6 (some (X 1))) (hat : x' = X 1 ∨ x' = w.heap.size) :
    St gs B0 (w6.setCell ⟨gs, 3, none⟩ (.slice (some ⟨x', 0, none⟩) (a1 + 1) cap')) A n c g roll (upd X 1 x') (upd C 1 cap') (v3 a0 (a1 + 1) a2) (v3 f0 (fun j => if j = a1 then d else f1 j) f2) bv mb b wo ∧ Fr gs X w (w6.setCell ⟨gs, 3, none⟩ (.slice (some ⟨x', 0, none⟩) (a1 + 1) cap')) (upd X 1 x') ∧ w6.heap[gs]? = some (stO A n c roll X C (v3 a0 a1 a2) bv wo) := by
  have k := St.push (i := 1) h (by omega) hown hg hat
  rw [upd1, upd1] at k
  exact k
/-- The third of three: what else is asked is asked of the first three only. -/
theorem St.v3_of {X C N N' : Nat → Nat} {F F' : Nat → Nat → Int} (h : St gs B0 w A n c g roll X C N F bv mb b wo) (hN : ∀ i, i < 3 → N i = N' i) (hF : ∀ i, i < 3 → F i = F' i) : St gs B0 w A n c g roll X C N' F' bv mb b wo := by
  have e : ∀ i, i < 3 → sl X C N i = sl X C N' i := fun i hi => by unfold sl; rw [hN i hi]
  refine ⟨?_, fun i hi => ?_, h.ne, h.ng, h.nb, h.best, h.cnt, h.bg, h.g0, h.nums⟩
  · have := h.box
    unfold stO at this ⊢
    rw [e 0 (by omega), e 1 (by omega), e 2 (by omega)] at this
    exact this
  · rw [← e i hi, ← hN i hi, ← hF i hi]; exact h.own i hi
theorem push2 (h : St gs B0 w A n c g roll X C (v3 a0 a1 a2) (v3 f0 f1 f2) bv mb b wo) {x' cap' : Nat} {d : Int} (hown : w6.ownsRow B0 2 1 (.slice (some ⟨x', 0, none⟩) (a2 + 1) cap') (a2 + 1) (upto f2 a2 ++ [.int .i64 d])) (hg : w.grownBy w6 (some (X 2))) (hat : x' = X 2 ∨ x' = w.heap.size) :
    St gs B0 (w6.setCell ⟨gs, 4, none⟩ (.slice (some ⟨x', 0, none⟩) (a2 + 1) cap')) A n c g roll (upd X 2 x') (upd C 2 cap') (v3 a0 a1 (a2 + 1)) (v3 f0 f1 (fun j => if j = a2 then d else f2 j)) bv mb b wo ∧ Fr gs X w (w6.setCell ⟨gs, 4, none⟩ (.slice (some ⟨x', 0, none⟩) (a2 + 1) cap')) (upd X 2 x') ∧ w6.heap[gs]? = some (stO A n c roll X C (v3 a0 a1 a2) bv wo) := by
  obtain ⟨k1, k2, k3⟩ := St.push (i := 2) h (by omega) hown hg hat
  exact ⟨St.v3_of k1 (fun i hi => by rcases three hi with rfl | rfl | rfl <;> rfl) (fun i hi => by rcases three hi with rfl | rfl | rfl <;> rfl), k2, k3⟩
theorem place0 (h : St gs B0 w A n c g roll X C (v3 a0 a1 a2) (v3 f0 f1 f2) bv mb b wo) {z : Nat} (hz : z < a0) (d : Int) : St gs B0 (w.setCell ⟨X 0, z, none⟩ (.int .i64 d)) A n c g roll X C (v3 a0 a1 a2) (v3 (fun j => if j = z then d else f0 j) f1 f2) bv mb b wo := by
  have k := St.place (i := 0) h (by omega) hz d
  rw [upd0] at k
  exact k
theorem place1 (h : St gs B0 w A n c g roll X C (v3 a0 a1 a2) (v3 f0 f1 f2) bv mb b wo) {z : Nat} (hz : z < a1) (d : Int) : St gs B0 (w.setCell ⟨X 1, z, none⟩ (.int .i64 d)) A n c g roll X C (v3 a0 a1 a2) (v3 f0 (fun j => if j = z then d else f1 j) f2) bv mb b wo := by
  have k := St.place (i := 1) h (by omega) hz d
  rw [upd1] at k
  exact k
theorem cut0 (h : St gs B0 w A n c g roll X C (v3 (a0 + 1) a1 a2) (v3 f0 f1 f2) bv mb b wo) : St gs B0 (w.setCell ⟨gs, 2, none⟩ (.slice (some ⟨X 0, 0, none⟩) a0 (C 0))) A n c g roll X C (v3 a0 a1 a2) (v3 f0 f1 f2) bv mb b wo := by
  have k := St.cut (i := 0) (m := a0) h (by omega) rfl
  rw [upd0] at k
  exact k
theorem cut1 (h : St gs B0 w A n c g roll X C (v3 a0 (a1 + 1) a2) (v3 f0 f1 f2) bv mb b wo) : St gs B0 (w.setCell ⟨gs, 3, none⟩ (.slice (some ⟨X 1, 0, none⟩) a1 (C 1))) A n c g roll X C (v3 a0 a1 a2) (v3 f0 f1 f2) bv mb b wo := by
  have k := St.cut (i := 1) (m := a1) h (by omega) rfl
  rw [upd1] at k
  exact k
theorem cut2 (h : St gs B0 w A n c g roll X C (v3 a0 a1 (a2 + 1)) (v3 f0 f1 f2) bv mb b wo) : St gs B0 (w.setCell ⟨gs, 4, none⟩ (.slice (some ⟨X 2, 0, none⟩) a2 (C 2))) A n c g roll X C (v3 a0 a1 a2) (v3 f0 f1 f2) bv mb b wo :=
  St.v3_of (St.cut (i := 2) (m := a2) h (by omega) rfl) (fun i hi => by rcases three hi with rfl | rfl | rfl <;> rfl) (fun i hi => rfl)
theorem same3 {h0 h1 h2 : Nat → Int} (h : St gs B0 w A n c g roll X C (v3 a0 a1 a2) (v3 f0 f1 f2) bv mb b wo) (e0 : ∀ j, j < a0 → f0 j = h0 j) (e1 : ∀ j, j < a1 → f1 j = h1 j) (e2 : ∀ j, j < a2 → f2 j = h2 j) : St gs B0 w A n c g roll X C (v3 a0 a1 a2) (v3 h0 h1 h2) bv mb b wo :=
  h.same fun i hi j hj => by
    rcases three hi with rfl | rfl | rfl
    · exact e0 j hj
    · exact e1 j hj
    · exact e2 j hj
end
/-- What a search leaves. -/
def WkAt (gs B0 : Nat) (A : Option Addr) (n c : Nat) (g : Nat → Int) (roll : Int) (k m : Nat) (p : Nat → Int) (X : Nat → Nat) (w : World) (e : Ending) (w' : World) : Prop :=
  e = .returned (.tuple #[]) ∧ ∃ X' C' bv mb b wo, Hid (St gs B0 w' A n c g roll X' C' (v3 m m k) (v3 (wd g p k) (ht g p k) p) bv mb b wo) ∧ Hid (Bst n (vl g n) (Upto n (N8.ok roll g) k p) b wo) ∧ Hid (Fr gs X w w' X')
theorem own_sl {w : World} {B m : Nat} {v : Value} {xs : List Value} (h : w.ownsRow B 2 1 v m xs) : ∃ a cc, v = .slice a m cc := by
  rcases h.2 with ⟨rfl, rfl⟩ | ⟨g', cap', cur, rfl, _⟩
  · exact ⟨_, _, rfl⟩
  · exact ⟨_, _, rfl⟩
/-- Less is not behind. -/
theorem go_prune2 {roll : Int} {n k : Nat} {g p b : Nat → Int} {wo : Int} (hk : k ≤ n) (h0 : 0 ≤ wo) (hb : Bst n (vl g n) (Before n (N8.ok roll g) k p) b wo) (hle : wo ≤ hi (ht g p k) 9) : Bst n (vl g n) (Upto n (N8.ok roll g) k p) b wo :=
  N7.prune hk h0 hb fun q _ ha => Int.le_trans hle (N8.vl_low hk ha)
theorem go_leaf2 {roll : Int} {n : Nat} {g p b : Nat → Int} {wo : Int} (h : BlP roll n g) (hp : Pre roll g n p) (hb : Bst n (vl g n) (Before n (N8.ok roll g) n p) b wo) (hlt : wo < 0 ∨ hi (ht g p n) 9 < wo) : Bst n (vl g n) (Upto n (N8.ok roll g) n p) p (hi (ht g p n) 9) :=
  N7.leaf hp (fun q hq => N8.vl_eq hq) hb (fun q _ => N8.vl_pos h q) hlt
set_option maxRecDepth 100000 in
set_option maxHeartbeats 40000000 in
theorem wstep (gs B0 : Nat) (A : Option Addr) (n c : Nat) (g : Nat → Int) (roll : Int) (hB : BlP roll n g) (k : Nat) (hk : k ≤ n)
    (IH : k < n → ∀ (p : Nat → Int) (m : Nat) (X C : Nat → Nat) (bv : Value) (mb : Nat) (b : Nat → Int) (wo : Int) (w : World) (s : Int), Pre roll g (k + 1) p → (m : Int) = mn p (k + 1) → s = hi (ht g p (k + 1)) 9 → St gs B0 w A n c g roll X C (v3 m m (k + 1)) (v3 (wd g p (k + 1)) (ht g p (k + 1)) p) bv mb b wo → Bst n (vl g n) (Before n (N8.ok roll g) (k + 1) p) b wo →
      Calls Try.prog 97 #[.pointer (some ⟨gs, 0, none⟩), .int .i64 s] w (WkAt gs B0 A n c g roll (k + 1) m p X w))
    (p : Nat → Int) (m : Nat) (X C : Nat → Nat) (bv : Value) (mb : Nat) (b : Nat → Int) (wo : Int) (w : World) (hP : Pre roll g k p) (hm : (m : Int) = mn p k) (hst : St gs B0 w A n c g roll X C (v3 m m k) (v3 (wd g p k) (ht g p k) p) bv mb b wo) (hbs : Bst n (vl g n) (Before n (N8.ok roll g) k p) b wo) :
    Calls Try.prog 97 #[.pointer (some ⟨gs, 0, none⟩), .int .i64 (hi (ht g p k) 9)] w (WkAt gs B0 A n c g roll k m p X w) := by
  have hn9 := hB.1.2
  have HSI := sum_in (p := p) hB hk
  have HS := Lib.hid hst
  obtain ⟨z0, z1, z2, z3, z4, z5, z6⟩ := cells hst
  by_cases c1 : 0 ≤ wo ∧ wo ≤ hi (ht g p k) 9
  · obtain ⟨c1, c2⟩ := c1
    have HF : Hid (WkAt gs B0 A n c g roll k m p X w (.returned (.tuple #[])) w) := Lib.hid ⟨rfl, X, C, bv, mb, b, wo, HS, Lib.hid (go_prune2 hk c1 hbs c2), Lib.hid (Fr.refl _ _ _)⟩
    generalize WkAt gs B0 A n c g roll k m p X w = Q at HF ⊢
    clear hst hbs hP HS IH hm
    generalize hi (ht g p k) 9 = s at *
    go_enter Try.func97, Try.ntmps97
    go_wp2_with fail
    go_end0
    exact HF.out
  have c2 : wo < 0 ∨ hi (ht g p k) 9 < wo := by omega
  by_cases hkn : k = n
  · subst hkn
    have CO := Lib.hid (N2.own_any (X 2) k (C 2) p (by omega) w (fun i hi => row_cell (own2 hst) hi))
    have HF : Hid (∀ w1 v, Below w.heap.size w w1 → w1.ownsRow w.heap.size 2 1 v k (upto p k) → WkAt gs B0 A k c g roll k m p X w (.returned (.tuple #[])) ((w1.setCell ⟨gs, 5, none⟩ v).setCell ⟨gs, 6, none⟩ (.int .i64 (hi (ht g p k) 9)))) := Lib.hid fun w1 v hb hr => by
      have h1 := HS.out.below hb
      have hg := Ge.lt_of_heap HS.out.box
      have hx : ∀ y, v.ownBlock = some y → w.heap.size ≤ y := fun y e => by
        rcases hr.2 with ⟨rfl, _⟩ | ⟨g', cap', cur, rfl, hbg, hh, _⟩
        · cases e
        · cases e; exact hbg
      refine ⟨rfl, X, C, v, k, p, _, Lib.hid (h1.better HSI.1 (N2.row_more hr (Nat.le_trans HS.out.g0 (Nat.le_of_lt hg))) (fun i hi e => ?_) fun e => ?_), Lib.hid (go_leaf2 hB hP hbs c2), Lib.hid (((Fr.of_below hb).trans (Fr.state _ _ _)).trans (Fr.state _ _ _))⟩
      · have := hx _ e
        have := (row_ge (HS.out.own i hi)).2.1
        omega
      · have := hx _ e
        omega
    have HK : Hid (∀ w1, Below w.heap.size w w1 → w1.heap[gs]? = some (stO A k c roll X C (v3 m m k) bv wo)) := Lib.hid fun w1 hb => Ge.blk_keep hb HS.out.box
    generalize WkAt gs B0 A k c g roll k m p X w = Q at HF ⊢
    clear hst hbs hP IH hm
    generalize hi (ht g p k) 9 = s at *
    rcases c2 with c2 | c2
    all_goals
      have c3 : ¬ (0 ≤ wo ∧ wo ≤ s) := c1
      by_cases c4 : 0 ≤ wo
      all_goals
        try have c5 : ¬ wo ≤ s := by omega
        go_enter Try.func97, Try.ntmps97
        go_wp2_with fail
        first
          | (exfalso; omega)
          | (refine CO.out.mono ?_
             rintro e w1 ⟨v, rfl, hr, b1⟩
             obtain ⟨a, cc, rfl⟩ := own_sl hr.out
             have HZ := Lib.hid (HF.out w1 _ b1 hr.out)
             have hbx := HK.out w1 b1
             clear z0 z1 z2 z3 z4 z5 z6
             obtain ⟨z0, z1, z2, z3, z4, z5, z6⟩ := blk7 hbx
             have hfr := blk_free hbx
             clear b1 hr HF HK hbx CO
             go_wp2_with fail
             go_end0
             exact HZ.out)
  have hkn : k < n := by omega
  have hmk := pre_mn hP
  have hm8 : m ≤ 8 := by omega
  obtain ⟨bl, ol, rfl, hbl, hcl⟩ := hst.nums (by omega)
  obtain ⟨x0, x1⟩ := Blk.cells_at hcl hkn
  have gI := blk_in (hB.2 k hkn)
  have rI := inb hB.1.1
  have WI := Lib.hid (fun z => wd_in p hB hk z)
  have TI := Lib.hid (fun z => ht_in p hB hk z)
  have W0 := Lib.hid (go_start hkn hbs)
  have HIH := Lib.hid (IH hkn)
  have UZ := Lib.hid (fun (z : Nat) (hz : m ≤ z) => unused_zero hP (z := z) (by omega))
  have Q3 : Hid (∀ w' X' C' bv mb b wo, St gs B0 w' (some ⟨bl, ol, none⟩) n c g roll X' C' (v3 m m k) (v3 (wd g p k) (ht g p k) p) bv mb b wo → Bst n (vl g n) (Upto n (N8.ok roll g) k p) b wo → Fr gs X w w' X' → WkAt gs B0 (some ⟨bl, ol, none⟩) n c g roll k m p X w (.returned (.tuple #[])) w') := Lib.hid fun w' X' C' bv mb b wo h1 h2 h3 => ⟨rfl, X', C', bv, mb, b, wo, Lib.hid h1, Lib.hid h2, Lib.hid h3⟩
  have PZ : Hid (∀ z, z ≤ m → wd g p k z + g (k * 2) ≤ roll → ∀ (L : Nat), (L : Int) = max (m : Int) ((z : Int) + 1) → ∀ (X C : Nat → Nat) (bv : Value) (mb : Nat) (b : Nat → Int) (wo : Int) (w : World), St gs B0 w (some ⟨bl, ol, none⟩) n c g roll X C (v3 L L (k + 1)) (v3 (wd g (put p k (z : Int)) (k + 1)) (ht g (put p k (z : Int)) (k + 1)) (put p k (z : Int))) bv mb b wo → Bst n (vl g n) (Before n (N8.ok roll g) (k + 1) (put p k (z : Int))) b wo →
      Calls Try.prog 97 #[.pointer (some ⟨gs, 0, none⟩), .int .i64 (hi (ht g p k) 9 - ht g p k z + max (ht g p k z) (g (k * 2 + 1)))] w (WkAt gs B0 (some ⟨bl, ol, none⟩) n c g roll (k + 1) L (put p k (z : Int)) X w)) := Lib.hid fun z hz ho L hL X C bv mb b wo w h1 h2 =>
    HIH.out (put p k (z : Int)) L X C bv mb b wo w _ (pre_put hP ((ok_put (by omega)).2 ho)) (by rw [N8.mn_put, ← hm]; exact hL) (N8.sum_put (by omega)).symm h1 h2
  have DZ : Hid (∀ z : Nat, (∀ j, (fun j => if j = z then wd g p k z + g (k * 2) else wd g p k j) j = wd g (put p k (z : Int)) (k + 1) j) ∧ ∀ j, (fun j => if j = z then max (ht g p k z) (g (k * 2 + 1)) else ht g p k j) j = ht g (put p k (z : Int)) (k + 1) j) := Lib.hid fun z => ⟨fun j => by
      show (if j = z then _ else _) = _
      by_cases e : j = z
      · subst e; rw [if_pos rfl]; exact N8.wd_put.2.symm
      · rw [if_neg e]; exact (N8.wd_put.1 j e).symm, fun j => by
      show (if j = z then _ else _) = _
      have e0 : ht g (put p k (z : Int)) k = ht g p k := N8.ht_eq fun i hi => put_lt hi
      rw [N8.ht_s, put_at, e0]
      by_cases e : j = z
      · subst e; rw [if_pos rfl, if_pos rfl]
      · rw [if_neg e, if_neg (by omega)]⟩
  have c3 : ((k : Int) == (n : Int)) = false := by simp; omega
  have e1 : (k : Int) < (n : Int) := by omega
  have e0 : (0 : Int) ≤ (k : Int) := Int.natCast_nonneg _
  have hXs : ∀ j, j < 3 → X j < w.heap.size := fun j hj => (row_ge (hst.own j hj)).2.1
  have hgs := Ge.lt_of_heap hst.box
  have K2 := Lib.hid (heap_alloc_new w (blO (g (k * 2)) (g (k * 2 + 1))))
  have S2 := Lib.hid (hst.below (below_box w (blO (g (k * 2)) (g (k * 2 + 1)))))
  have F2 := Lib.hid (Fr.of_below (gs := gs) (X := X) (below_box w (blO (g (k * 2)) (g (k * 2 + 1)))))
  have BX := Lib.hid (And.intro (show w.heap.size ≠ gs by omega) (fun j hj => (show w.heap.size ≠ X j by have := hXs j hj; omega)))
  have GO := Lib.hid (And.intro hst.g0 hgs)
  have CM := Lib.hid (fun a b w => max_any a b w)
  have NX : Hid (∀ (z : Nat) b wo, z ≤ m → Bst n (vl g n) (Upto n (N8.ok roll g) (k + 1) (put p k (z : Int))) b wo → (z < m → Hid (Bst n (vl g n) (Before n (N8.ok roll g) (k + 1) (put p k ((z + 1 : Nat) : Int))) b wo)) ∧ (z = m → Hid (Bst n (vl g n) (Upto n (N8.ok roll g) k p) b wo))) := Lib.hid fun z b wo hz h => ⟨fun _ => Lib.hid (go_next hkn h), fun e => Lib.hid (go_done hkn (by rw [e]; exact hm) h)⟩
  have SK : Hid (∀ (z : Nat) b wo, z ≤ m → ¬ wd g p k z + g (k * 2) ≤ roll → Bst n (vl g n) (Before n (N8.ok roll g) (k + 1) (put p k (z : Int))) b wo → Bst n (vl g n) (Upto n (N8.ok roll g) (k + 1) (put p k (z : Int))) b wo) := Lib.hid fun z b wo hz h1 h2 => go_skip hkn (by omega) h1 h2
  obtain ⟨i0, hi0, hz0, hz1, hz2⟩ := info_parts info_int
  have HIn := Lib.hid (And.intro hi0 (And.intro hz0 (And.intro hz1 hz2)))
  have SG := Lib.hid hst.g0
  generalize WkAt gs B0 (some ⟨bl, ol, none⟩) n c g roll k m p X w = Q at Q3 ⊢
  generalize hs9 : hi (ht g p k) 9 = s at *
  clear hst hbs hP IH HIH HS hi0 hz0 hz1 hz2 hcl hs9 hm hmk
  go_enter Try.func97, Try.ntmps97
  rcases c2 with c2 | c2
  all_goals
    have c4 : ¬ (0 ≤ wo ∧ wo ≤ s) := c1
    clear c1
    by_cases c5 : 0 ≤ wo
  all_goals
    first
      | (exfalso; omega)
      | (try have c6 : ¬ wo ≤ s := by omega
         go_upto_region 6 with fail)
  all_goals
    clear x0 x1 c2 c4 c5 z0 z1 z2 z3 z4 z5 z6
    try clear c6
    generalize hw9 : World.alloc _ _ = w2 at K2 S2 F2 ⊢
    clear hw9
    have HF0 := Lib.hid (fun w' X' (h : Fr gs X w2 w' X') => F2.out.trans h)
    have hsz2 : w.heap.size ≤ w2.heap.size := F2.out.size
    clear F2
    generalize w.heap.size = bx at *
    obtain ⟨z0, z1, z2, z3, z4, z5, z6⟩ := cells S2.out
    go_wp2_with fail
    clear z0 z1 z2 z3 z4 z5 z6
    go_loopw [7, 8, 9] (fun i _ _ wr => ∃ (z L : Nat) (X1 C1 : Nat → Nat) (bv : Value) (mb : Nat) (b : Nat → Int) (wo : Int), ((z ≤ m ∧ m = L ∧ Hid (Bst n (vl g n) (Before n (N8.ok roll g) (k + 1) (put p k (z : Int))) b wo)) ∨ (z = m + 1 ∧ L = m + 1 ∧ Hid (Bst n (vl g n) (Upto n (N8.ok roll g) k p) b wo))) ∧ i = .int .i64 (z : Int) ∧ Hid (St gs B0 wr (some ⟨bl, ol, none⟩) n c g roll X1 C1 (v3 L L k) (v3 (wd g p k) (ht g p k) p) bv mb b wo) ∧ Hid (Fr gs X w2 wr X1)) (fun i _ _ _ => m + 1 - (intOf i).toNat)
    case atStart => exact ⟨0, m, X, C, bv, mb, b, wo, .inl ⟨Nat.zero_le _, rfl, W0⟩, rfl, S2, Lib.hid (Fr.refl _ _ _)⟩
    case round =>
      clear W0 S2
      obtain ⟨z, L, X1, C1, bv, mb, b, wo, hor, rfl, HS, HR⟩ := hrel
      have z00 : (0 : Int) ≤ (z : Int) := Int.natCast_nonneg _
      rcases hor with ⟨hzm, rfl, HB⟩ | ⟨rfl, rfl, HB⟩
      rotate_left
      · have f1 : ¬ ((m + 1 : Nat) : Int) ≤ (m : Int) := by omega
        obtain ⟨z0, z1, z2, z3, z4, z5, z6⟩ := cells HS.out
        obtain ⟨_, _, k1, k2, _⟩ := row_ge (own0 HS.out)
        obtain ⟨_, _, k3, k4, _⟩ := row_ge (own1 HS.out)
        have hfr := blk_free HS.out.box
        have hml : maxLen = 9223372036854775807 := rfl
        have HX := Lib.hid (Q3.out _ X1 C1 bv mb b wo (cut1 (cut0 HS.out)) HB.out ((HF0.out _ _ HR.out).trans ((Fr.state _ _ _).trans (Fr.state _ _ _))))
        clear PZ DZ NX SK Q3 HF0 HS HR HB UZ
        go_wp2_with fail
        go_end0
        exact HX.out
      · have f1 : (z : Int) ≤ (m : Int) := by omega
        have wi := WI.out z
        have ti := TI.out z
        have hsB : B0 ≤ wr.heap.size := Nat.le_trans (Nat.le_of_lt (Nat.lt_of_le_of_lt SG.out (Ge.lt_of_heap HS.out.box))) (Nat.le_refl _)
        have NXz := Lib.hid (fun b wo h => NX.out z b wo hzm h)
        have SKz := Lib.hid (fun b wo h1 h2 => SK.out z b wo hzm h1 h2)
        have PZz := Lib.hid (PZ.out z hzm)
        have DZz := DZ.out z
        have HML : Hid (hi (ht g p k) 9 = hi (ht g p k) 9) := Lib.hid rfl
        clear NX SK PZ DZ HML WI TI
        have hm63 : maxLen = 9223372036854775807 := rfl
        by_cases hzM : z = m
        have f2 : ((z : Int) == (m : Int)) = true := by simp [hzM]
        obtain ⟨z0, z1, z2, z3, z4, z5, z6⟩ := cells HS.out
        have hfr := blk_free HS.out.box
        go_wp2_with (at_builtin; refine wpList_append_own_at _ rfl _ _ 30 rfl B0 2 i0 _ 1 8 Try.underlying30 HIn.out.1 HIn.out.2.1 HIn.out.2.2.1 HIn.out.2.2.2 rfl (by decide) _ m _ rfl ((own0 HS.out).alloc _) ⟨wr.heap.size, 0, none⟩ 1 1 [.int .i64 0] rfl rfl ?c1 ?c2 ?c3 ?c4 ?c5 ?_)
        try case c1 => exact Ow.cell_new _ _ _
        try case c2 => simp [Value.oneCell']
        try case c3 => omega
        try case c4 => omega
        try case c5 => (simp; omega)
        intro v' w6 hown2 hgrow hnn hat
        have HSA := HS.out.below (below_box wr (.cells #[.int .i64 0] 2))
        obtain ⟨x', cap', rfl⟩ : ∃ x' cap', v' = .slice (some ⟨x', 0, none⟩) (m + 1) cap' := by
          rcases hown2.2 with ⟨e, _⟩ | ⟨g', cap', cur, e, _⟩
          · exact absurd e hnn
          · exact ⟨g', cap', e⟩
        obtain ⟨hp1, hp2, hp3⟩ := push0 HSA hown2 hgrow (by
          rcases hat with e | e
          · exact .inl (Option.some.inj e)
          · exact .inr ((Option.some.inj e).trans (by simp)))
        have HSP := Lib.hid hp1
        have HRP := Lib.hid ((HR.out.trans (Fr.of_below (below_box wr (.cells #[.int .i64 0] 2)))).trans hp2)
        clear z0 z1 z2 z3 z4 z5 z6 hfr hown2 hgrow hnn hat HSA hp1 hp2 HS HR
        obtain ⟨z0, z1, z2, z3, z4, z5, z6⟩ := blk7 hp3
        have hfr := blk_free hp3
        clear hp3
        go_upto_region 12 with fail
        clear z0 z1 z2 z3 z4 z5 z6 hfr
        generalize hw9 : World.setCell _ _ _ = w7 at HSP HRP ⊢
        clear hw9
        obtain ⟨z0, z1, z2, z3, z4, z5, z6⟩ := cells HSP.out
        have hfr := blk_free HSP.out.box
        have hsB7 : B0 ≤ w7.heap.size := Nat.le_of_lt (Nat.lt_of_le_of_lt SG.out (Ge.lt_of_heap HSP.out.box))
        go_wp2_with (at_builtin; refine wpList_append_own_at _ rfl _ _ 30 rfl B0 2 i0 _ 1 8 Try.underlying30 HIn.out.1 HIn.out.2.1 HIn.out.2.2.1 HIn.out.2.2.2 rfl (by decide) _ m _ rfl ((own1 HSP.out).alloc _) ⟨w7.heap.size, 0, none⟩ 1 1 [.int .i64 0] rfl rfl ?c1 ?c2 ?c3 ?c4 ?c5 ?_)
        try case c1 => exact Ow.cell_new _ _ _
        try case c2 => simp [Value.oneCell']
        try case c3 => omega
        try case c4 => omega
        try case c5 => (simp; omega)
        intro v' w8 hown2 hgrow hnn hat
        have HSA := HSP.out.below (below_box w7 (.cells #[.int .i64 0] 2))
        obtain ⟨x2', cap2', rfl⟩ : ∃ x' cap', v' = .slice (some ⟨x', 0, none⟩) (m + 1) cap' := by
          rcases hown2.2 with ⟨e, _⟩ | ⟨g', cap', cur, e, _⟩
          · exact absurd e hnn
          · exact ⟨g', cap', e⟩
        obtain ⟨hp1, hp2, hp3⟩ := push1 HSA hown2 hgrow (by
          rcases hat with e | e
          · exact .inl (Option.some.inj e)
          · exact .inr ((Option.some.inj e).trans (by simp)))
        obtain ⟨L, hL⟩ : ∃ L, L = m + 1 := ⟨_, rfl⟩
        have hp4 := same3 hp1 (h0 := wd g p k) (h1 := ht g p k) (h2 := p) (fun j hj => by
          by_cases e : j = m
          · subst e; rw [if_pos rfl]; exact (UZ.out j (Nat.le_refl j)).1.symm
          · rw [if_neg e]) (fun j hj => by
          by_cases e : j = m
          · subst e; rw [if_pos rfl]; exact (UZ.out j (Nat.le_refl j)).2.symm
          · rw [if_neg e]) fun _ _ => rfl
        rw [← hL] at hp4
        have HSL := Lib.hid hp4
        have HRL := Lib.hid ((HRP.out.trans (Fr.of_below (below_box w7 (.cells #[.int .i64 0] 2)))).trans hp2)
        clear z0 z1 z2 z3 z4 z5 z6 hfr hown2 hgrow hnn hat HSA hp1 hp2 hp4 HSP HRP
        obtain ⟨z0, z1, z2, z3, z4, z5, z6⟩ := blk7 hp3
        have hfr := blk_free hp3
        clear hp3
        rw [← hL] at HRL
        go_upto_region 13 with fail
        clear z0 z1 z2 z3 z4 z5 z6 hfr
        rw [← hL]
        generalize hw9 : World.setCell _ _ _ = wl at HSL HRL ⊢
        clear hw9
        generalize upd (upd X1 0 x') 1 x2' = XL at *
        generalize upd (upd C1 0 cap') 1 cap2' = CL at *
        have hzL : z < L := by omega
        have hLm : (L : Int) = max (m : Int) ((z : Int) + 1) := by omega
        have HND : Hid (∀ b wo, Bst n (vl g n) (Upto n (N8.ok roll g) (k + 1) (put p k (z : Int))) b wo → ((z + 1 ≤ m ∧ m = L ∧ Hid (Bst n (vl g n) (Before n (N8.ok roll g) (k + 1) (put p k ((z + 1 : Nat) : Int))) b wo)) ∨ (z + 1 = m + 1 ∧ L = m + 1 ∧ Hid (Bst n (vl g n) (Upto n (N8.ok roll g) k p) b wo)))) := Lib.hid fun b wo h => .inr ⟨by omega, hL, (NXz.out b wo h).2 hzM⟩
        clear NXz UZ hL
        subst hzM
        rotate_left
        have f2 : ((z : Int) == (m : Int)) = false := by simp; omega
        go_upto_region 13 with fail
        obtain ⟨L, hL⟩ : ∃ L, L = m := ⟨_, rfl⟩
        rw [← hL] at HS
        have HSL := HS
        have HRL := HR
        clear HS HR
        have hzL : z < L := by omega
        have hLm : (L : Int) = max (m : Int) ((z : Int) + 1) := by omega
        have HND : Hid (∀ b wo, Bst n (vl g n) (Upto n (N8.ok roll g) (k + 1) (put p k (z : Int))) b wo → ((z + 1 ≤ m ∧ m = L ∧ Hid (Bst n (vl g n) (Before n (N8.ok roll g) (k + 1) (put p k ((z + 1 : Nat) : Int))) b wo)) ∨ (z + 1 = m + 1 ∧ L = m + 1 ∧ Hid (Bst n (vl g n) (Upto n (N8.ok roll g) k p) b wo)))) := Lib.hid fun b wo h => .inl ⟨by omega, hL.symm, (NXz.out b wo h).1 (by omega)⟩
        clear NXz UZ hL
        generalize wr = wl at *
        generalize X1 = XL at *
        generalize C1 = CL at *
        all_goals
          obtain ⟨z0, z1, z2, z3, z4, z5, z6⟩ := cells HSL.out
          have KL := Lib.hid (HRL.out.blk BX.out.1 BX.out.2 K2.out)
          obtain ⟨y0, y1⟩ := Ba.blk2 KL.out
          have a0 := row_cell (own0 HSL.out) hzL
          have z1' := bey_cell z1
          have z2' := bey_cell z2
          have y0' := bey_cell y0
          have a0' := bey_cell a0
          have t1 : IntKind.i64.wrap (wd g p k z + g (k * 2)) = wd g p k z + g (k * 2) := IntWalk.i64_in _ (by omega)
          have hzL' : (z : Int) < (L : Int) := by omega
          clear z0 z1 z2 z3 z4 z5 z6 y0 y1 a0 KL
          refine wp_region_below (by kernel_rfl) (by kernel_rfl) ?_
          repeat (go_big_quiet_step (fail))
          refine wpQuiet_nil ?_
          rintro _ ⟨pq, rfl⟩
          have HS3 := Lib.hid (HSL.out.below pq.h)
          have HR3 := Lib.hid (HRL.out.trans (Fr.of_below pq.h))
          generalize pq.to = w3 at HS3 HR3 ⊢
          clear z1' z2' y0' a0' HSL HRL
          by_cases hw : wd g p k z + g (k * 2) ≤ roll
          rotate_left
          · have HZ := Lib.hid (HND.out b wo (SKz.out b wo (by omega) HB.out))
            clear SKz PZz HND Q3
            go_wp2_with fail
            go_roundw
            case rel => exact ⟨z + 1, L, XL, CL, bv, mb, b, wo, by first | exact HZ.out | exact HZ.out.imp (fun h => h) (fun h => ⟨rfl, h.2.1, h.2.2⟩), by go_num, HS3, HR3⟩
            case measure => first | (simp [intOf]; done) | (simp [intOf]; omega)
          · clear SKz Q3
            obtain ⟨z0, z1, z2, z3, z4, z5, z6⟩ := cells HS3.out
            have K3 := Lib.hid (HR3.out.blk BX.out.1 BX.out.2 K2.out)
            obtain ⟨y0, y1⟩ := Ba.blk2 K3.out
            have a1 := row_cell (own1 HS3.out) hzL
            have CM1 := Lib.hid (CM.out (ht g p k z) (g (k * 2 + 1)))
            go_wp2_with fail
            refine (CM1.out _).mono ?_
            rintro e w4 ⟨rfl, rfl⟩
            have a0 := row_cell (own0 HS3.out) hzL
            have q0 := row_free (own0 HS3.out) z
            clear CM1
            go_upto_region 16 with fail
            go_region
            have T1 := Lib.hid ((place0 HS3.out hzL (wd g p k z + g (k * 2))).below (Below.refl _ _).drew)
            have R1 := Lib.hid ((HR3.out.trans (Fr.row _ (i := 0) (by omega) z (.int .i64 (wd g p k z + g (k * 2))))).trans (Fr.of_below (Below.refl _ _).drew))
            generalize hwz : World.drew _ = w5 at T1 R1 ⊢
            clear hwz z0 z1 z2 z3 z4 z5 z6 a0 a1 q0 y0 y1 K3 HS3 HR3
            obtain ⟨z0, z1, z2, z3, z4, z5, z6⟩ := cells T1.out
            have a1 := row_cell (own1 T1.out) hzL
            have q1 := row_free (own1 T1.out) z
            have T2 := Lib.hid (place1 T1.out hzL (max (ht g p k z) (g (k * 2 + 1))))
            have R2 := Lib.hid (R1.out.trans (Fr.row _ (i := 1) (by omega) z (.int .i64 (max (ht g p k z) (g (k * 2 + 1))))))
            clear T1 R1
            go_upto_region 18 with fail
            generalize hwz : World.setCell _ _ _ = w6 at T2 R2 ⊢
            clear hwz z0 z1 z2 z3 z4 z5 z6 a1 q1
            obtain ⟨z0, z1, z2, z3, z4, z5, z6⟩ := cells T2.out
            have hsB6 : B0 ≤ w6.heap.size := Nat.le_of_lt (Nat.lt_of_le_of_lt SG.out (Ge.lt_of_heap T2.out.box))
            go_wp2_with (at_builtin; refine wpList_append_own_at _ rfl _ _ 30 rfl B0 2 i0 _ 1 8 Try.underlying30 HIn.out.1 HIn.out.2.1 HIn.out.2.2.1 HIn.out.2.2.2 rfl (by decide) _ k _ rfl ((own2 T2.out).alloc _) ⟨w6.heap.size, 0, none⟩ 1 1 [.int .i64 (z : Int)] rfl rfl ?c1 ?c2 ?c3 ?c4 ?c5 ?_)
            try case c1 => exact Ow.cell_new _ _ _
            try case c2 => simp [Value.oneCell']
            try case c3 => omega
            try case c4 => omega
            try case c5 => (simp; omega)
            intro v' w7 hown2 hgrow hnn hat
            have HSA := T2.out.below (below_box w6 (.cells #[.int .i64 (z : Int)] 2))
            obtain ⟨x', cap', rfl⟩ : ∃ x' cap', v' = .slice (some ⟨x', 0, none⟩) (k + 1) cap' := by
              rcases hown2.2 with ⟨e, _⟩ | ⟨g', cap', cur, e, _⟩
              · exact absurd e hnn
              · exact ⟨g', cap', e⟩
            obtain ⟨hp1, hp2, hp3⟩ := push2 HSA hown2 hgrow (by
              rcases hat with e | e
              · exact .inl (Option.some.inj e)
              · exact .inr ((Option.some.inj e).trans (by simp)))
            have T4 := Lib.hid (same3 hp1 (h0 := wd g (put p k (z : Int)) (k + 1)) (h1 := ht g (put p k (z : Int)) (k + 1)) (h2 := put p k (z : Int)) (fun j _ => DZz.1 j) (fun j _ => DZz.2 j) fun _ _ => rfl)
            have R4 := Lib.hid ((R2.out.trans (Fr.of_below (below_box w6 (.cells #[.int .i64 (z : Int)] 2)))).trans hp2)
            clear z0 z1 z2 z3 z4 z5 z6 hown2 hgrow hnn hat HSA hp1 hp2 T2 R2
            obtain ⟨z0, z1, z2, z3, z4, z5, z6⟩ := blk7 hp3
            have hfr := blk_free hp3
            clear hp3
            go_upto_region 19 with fail
            generalize hwz : World.setCell _ _ _ = w8 at T4 R4 ⊢
            clear hwz z0 z1 z2 z3 z4 z5 z6 hfr
            have C2 := Lib.hid (PZz.out hw L hLm _ _ bv mb b wo w8 T4.out HB.out)
            clear PZz T4 HB
            go_wp2_with fail
            refine C2.out.mono ?_
            rintro e w9 ⟨rfl, X8, C8, bv8, mb8, b8, wo8, HS8, HB8, HR8⟩
            have HND8 := Lib.hid (HND.out b8 wo8 HB8.out)
            have R8 := Lib.hid (R4.out.trans HR8.out)
            clear C2 R4 HR8 HB8 HND
            obtain ⟨z0, z1, z2, z3, z4, z5, z6⟩ := cells HS8.out
            obtain ⟨_, _, k1, k2, _⟩ := row_ge (own2 HS8.out)
            have hfr := blk_free HS8.out.box
            have T5 := Lib.hid (cut2 HS8.out)
            have R5 := Lib.hid (R8.out.trans (Fr.state _ 4 (.slice (some ⟨X8 2, 0, none⟩) k (C8 2))))
            clear HS8 R8
            go_upto_region 21 with fail
            generalize hwz : World.setCell _ _ _ = w10 at T5 R5 ⊢
            clear hwz z0 z1 z2 z3 z4 z5 z6 hfr k1 k2
            obtain ⟨z0, z1, z2, z3, z4, z5, z6⟩ := cells T5.out
            have K5 := Lib.hid (R5.out.blk BX.out.1 BX.out.2 K2.out)
            obtain ⟨y0, y1⟩ := Ba.blk2 K5.out
            have a0 := row_cell (own0 T5.out) hzL
            have v0 : wd g (put p k (z : Int)) (k + 1) z = wd g p k z + g (k * 2) := (DZz.1 z).symm.trans (if_pos rfl)
            rw [v0] at a0
            have q0 := row_free (own0 T5.out) z
            have t2 : IntKind.i64.wrap (wd g p k z + g (k * 2) - g (k * 2)) = wd g p k z := by
              rw [show wd g p k z + g (k * 2) - g (k * 2) = wd g p k z by omega]
              exact IntWalk.i64_in _ (by omega)
            have T6 := Lib.hid ((place0 T5.out hzL (wd g p k z)).below (Below.refl _ _).drew)
            have R6 := Lib.hid ((R5.out.trans (Fr.row _ (i := 0) (by omega) z (.int .i64 (wd g p k z)))).trans (Fr.of_below (Below.refl _ _).drew))
            clear T5 R5
            go_region
            generalize hwz : World.drew _ = w11 at T6 R6 ⊢
            clear hwz z0 z1 z2 z3 z4 z5 z6 a0 q0 y0 y1 K5
            obtain ⟨z0, z1, z2, z3, z4, z5, z6⟩ := cells T6.out
            have a1 := row_cell (own1 T6.out) hzL
            have q1 := row_free (own1 T6.out) z
            have T8 := Lib.hid (same3 (place1 T6.out hzL (ht g p k z)) (h0 := wd g p k) (h1 := ht g p k) (h2 := p) (fun j _ => by
              by_cases e : j = z
              · subst e; rw [if_pos rfl]
              · rw [if_neg e]; exact (DZz.1 j).symm.trans (if_neg e)) (fun j _ => by
              by_cases e : j = z
              · subst e; rw [if_pos rfl]
              · rw [if_neg e]; exact (DZz.2 j).symm.trans (if_neg e)) fun j hj => put_lt hj)
            have R8 := Lib.hid (R6.out.trans (Fr.row _ (i := 1) (by omega) z (.int .i64 (ht g p k z))))
            clear T6 R6
            go_wp2_with fail
            go_roundw
            case rel => exact ⟨z + 1, L, X8, C8, bv8, mb8, b8, wo8, by first | exact HND8.out | exact HND8.out.imp (fun h => h) (fun h => ⟨rfl, h.2.1, h.2.2⟩), by go_num, T8, R8⟩
            case measure => first | (simp [intOf]; done) | (simp [intOf]; omega)
end Go.Proofs.Ytgclhkiiaclkgab.Qw
