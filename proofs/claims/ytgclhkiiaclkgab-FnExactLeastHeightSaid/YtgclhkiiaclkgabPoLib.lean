/- Blocks on a roll: the program's search for the best rows. -/
import Derived.Test.YtgclhkiiaclkgabPfLib
import Derived.Test.YtgclhkiiaclkgabPmLib
import Derived.Test.YtgclhkiiaclkgabBwLib
namespace Go.Proofs.Ytgclhkiiaclkgab.Po
set_option linter.unusedVariables false
open Go.RowKit Is Ge Qb Jr Js Jt Ju Jw Jx Pa P5 Pb Pc Pd Pe Pf Pm
open N7 (put Bst Before Upto NF)
open N8 (mn vl)
open Go.Proofs.Ytgclhkiiaclkgab.Ba (inB below_then below_box)

abbrev pkO (A : Option Addr) (n c : Nat) (roll : Int) (f : Nat → Nat) (ls : Int) : Obj := .cells #[.slice A n c, .int .i64 roll, .int .u16 (f 0 : Int), .int .u16 (f 1 : Int), .int .u16 (f 2 : Int), .int .u16 (f 3 : Int), .int .u16 (f 4 : Int), .int .u16 (f 5 : Int), .int .u16 (f 6 : Int), .int .u16 (f 7 : Int), .int .u16 (f 8 : Int), .int .i64 ls] 92
theorem blk12 {w : World} {g : Nat} {t : TypeId} {c0 c1 c2 c3 c4 c5 c6 c7 c8 c9 c10 c11 : Value} (h : w.heap[g]? = some (.cells #[c0, c1, c2, c3, c4, c5, c6, c7, c8, c9, c10, c11] t (0, 0))) :
    w.cell? ⟨g, 0, none⟩ = some c0 ∧ w.cell? ⟨g, 1, none⟩ = some c1 ∧ w.cell? ⟨g, 2, none⟩ = some c2 ∧ w.cell? ⟨g, 3, none⟩ = some c3 ∧ w.cell? ⟨g, 4, none⟩ = some c4 ∧ w.cell? ⟨g, 5, none⟩ = some c5 ∧ w.cell? ⟨g, 6, none⟩ = some c6 ∧ w.cell? ⟨g, 7, none⟩ = some c7 ∧ w.cell? ⟨g, 8, none⟩ = some c8 ∧ w.cell? ⟨g, 9, none⟩ = some c9 ∧ w.cell? ⟨g, 10, none⟩ = some c10 ∧ w.cell? ⟨g, 11, none⟩ = some c11 :=
  ⟨cell_of_row _ _ _ _ _ _ h, cell_of_row _ _ _ _ _ _ h, cell_of_row _ _ _ _ _ _ h, cell_of_row _ _ _ _ _ _ h, cell_of_row _ _ _ _ _ _ h, cell_of_row _ _ _ _ _ _ h, cell_of_row _ _ _ _ _ _ h, cell_of_row _ _ _ _ _ _ h, cell_of_row _ _ _ _ _ _ h, cell_of_row _ _ _ _ _ _ h, cell_of_row _ _ _ _ _ _ h, cell_of_row _ _ _ _ _ _ h⟩
theorem st12_2 {w : World} {g : Nat} {t : TypeId} {c0 c1 c2 c3 c4 c5 c6 c7 c8 c9 c10 c11 : Value} (h : w.heap[g]? = some (.cells #[c0, c1, c2, c3, c4, c5, c6, c7, c8, c9, c10, c11] t (0, 0))) (u : Value) : (w.setCell ⟨g, 2, none⟩ u).heap[g]? = some (.cells #[c0, c1, u, c3, c4, c5, c6, c7, c8, c9, c10, c11] t (0, 0)) := heap_set h 2 u
theorem st12_3 {w : World} {g : Nat} {t : TypeId} {c0 c1 c2 c3 c4 c5 c6 c7 c8 c9 c10 c11 : Value} (h : w.heap[g]? = some (.cells #[c0, c1, c2, c3, c4, c5, c6, c7, c8, c9, c10, c11] t (0, 0))) (u : Value) : (w.setCell ⟨g, 3, none⟩ u).heap[g]? = some (.cells #[c0, c1, c2, u, c4, c5, c6, c7, c8, c9, c10, c11] t (0, 0)) := heap_set h 3 u
theorem st12_4 {w : World} {g : Nat} {t : TypeId} {c0 c1 c2 c3 c4 c5 c6 c7 c8 c9 c10 c11 : Value} (h : w.heap[g]? = some (.cells #[c0, c1, c2, c3, c4, c5, c6, c7, c8, c9, c10, c11] t (0, 0))) (u : Value) : (w.setCell ⟨g, 4, none⟩ u).heap[g]? = some (.cells #[c0, c1, c2, c3, u, c5, c6, c7, c8, c9, c10, c11] t (0, 0)) := heap_set h 4 u
theorem st12_5 {w : World} {g : Nat} {t : TypeId} {c0 c1 c2 c3 c4 c5 c6 c7 c8 c9 c10 c11 : Value} (h : w.heap[g]? = some (.cells #[c0, c1, c2, c3, c4, c5, c6, c7, c8, c9, c10, c11] t (0, 0))) (u : Value) : (w.setCell ⟨g, 5, none⟩ u).heap[g]? = some (.cells #[c0, c1, c2, c3, c4, u, c6, c7, c8, c9, c10, c11] t (0, 0)) := heap_set h 5 u
theorem st12_6 {w : World} {g : Nat} {t : TypeId} {c0 c1 c2 c3 c4 c5 c6 c7 c8 c9 c10 c11 : Value} (h : w.heap[g]? = some (.cells #[c0, c1, c2, c3, c4, c5, c6, c7, c8, c9, c10, c11] t (0, 0))) (u : Value) : (w.setCell ⟨g, 6, none⟩ u).heap[g]? = some (.cells #[c0, c1, c2, c3, c4, c5, u, c7, c8, c9, c10, c11] t (0, 0)) := heap_set h 6 u
theorem st12_7 {w : World} {g : Nat} {t : TypeId} {c0 c1 c2 c3 c4 c5 c6 c7 c8 c9 c10 c11 : Value} (h : w.heap[g]? = some (.cells #[c0, c1, c2, c3, c4, c5, c6, c7, c8, c9, c10, c11] t (0, 0))) (u : Value) : (w.setCell ⟨g, 7, none⟩ u).heap[g]? = some (.cells #[c0, c1, c2, c3, c4, c5, c6, u, c8, c9, c10, c11] t (0, 0)) := heap_set h 7 u
theorem st12_8 {w : World} {g : Nat} {t : TypeId} {c0 c1 c2 c3 c4 c5 c6 c7 c8 c9 c10 c11 : Value} (h : w.heap[g]? = some (.cells #[c0, c1, c2, c3, c4, c5, c6, c7, c8, c9, c10, c11] t (0, 0))) (u : Value) : (w.setCell ⟨g, 8, none⟩ u).heap[g]? = some (.cells #[c0, c1, c2, c3, c4, c5, c6, c7, u, c9, c10, c11] t (0, 0)) := heap_set h 8 u
theorem st12_9 {w : World} {g : Nat} {t : TypeId} {c0 c1 c2 c3 c4 c5 c6 c7 c8 c9 c10 c11 : Value} (h : w.heap[g]? = some (.cells #[c0, c1, c2, c3, c4, c5, c6, c7, c8, c9, c10, c11] t (0, 0))) (u : Value) : (w.setCell ⟨g, 9, none⟩ u).heap[g]? = some (.cells #[c0, c1, c2, c3, c4, c5, c6, c7, c8, u, c10, c11] t (0, 0)) := heap_set h 9 u
theorem st12_10 {w : World} {g : Nat} {t : TypeId} {c0 c1 c2 c3 c4 c5 c6 c7 c8 c9 c10 c11 : Value} (h : w.heap[g]? = some (.cells #[c0, c1, c2, c3, c4, c5, c6, c7, c8, c9, c10, c11] t (0, 0))) (u : Value) : (w.setCell ⟨g, 10, none⟩ u).heap[g]? = some (.cells #[c0, c1, c2, c3, c4, c5, c6, c7, c8, c9, u, c11] t (0, 0)) := heap_set h 10 u
theorem st12_11 {w : World} {g : Nat} {t : TypeId} {c0 c1 c2 c3 c4 c5 c6 c7 c8 c9 c10 c11 : Value} (h : w.heap[g]? = some (.cells #[c0, c1, c2, c3, c4, c5, c6, c7, c8, c9, c10, c11] t (0, 0))) (u : Value) : (w.setCell ⟨g, 11, none⟩ u).heap[g]? = some (.cells #[c0, c1, c2, c3, c4, c5, c6, c7, c8, c9, c10, u] t (0, 0)) := heap_set h 11 u
/-- The best ones are set. -/
def setBest (w : World) (g : Nat) (f : Nat → Nat) (ls : Int) : World :=
  ((((((((((w.setCell ⟨g, 2, none⟩ (.int .u16 (f 0 : Int))).setCell ⟨g, 3, none⟩ (.int .u16 (f 1 : Int))).setCell ⟨g, 4, none⟩ (.int .u16 (f 2 : Int))).setCell ⟨g, 5, none⟩ (.int .u16 (f 3 : Int))).setCell ⟨g, 6, none⟩ (.int .u16 (f 4 : Int))).setCell ⟨g, 7, none⟩ (.int .u16 (f 5 : Int))).setCell ⟨g, 8, none⟩ (.int .u16 (f 6 : Int))).setCell ⟨g, 9, none⟩ (.int .u16 (f 7 : Int))).setCell ⟨g, 10, none⟩ (.int .u16 (f 8 : Int))).setCell ⟨g, 11, none⟩ (.int .i64 ls))
theorem set_best {w : World} {g : Nat} {A : Option Addr} {n c : Nat} {roll : Int} {bf f : Nat → Nat} {l0 ls : Int} (h : w.heap[g]? = some (pkO A n c roll bf l0)) : (setBest w g f ls).heap[g]? = some (pkO A n c roll f ls) :=
  st12_11 (st12_10 (st12_9 (st12_8 (st12_7 (st12_6 (st12_5 (st12_4 (st12_3 (st12_2 h _) _) _) _) _) _) _) _) _) _
theorem but_best {a w : World} {g : Nat} {f : Nat → Nat} {ls : Int} (h : Bw.But g a w) : Bw.But g a (setBest w g f ls) :=
  (((((((((h.setCell _ _).setCell _ _).setCell _ _).setCell _ _).setCell _ _).setCell _ _).setCell _ _).setCell _ _).setCell _ _).setCell _ _
/-- What the search leaves. -/
def GoAt (gs : Nat) (A : Option Addr) (n c : Nat) (roll : Int) (g : Nat → Int) (k : Nat) (p : Nat → Int) (w : World) (e : Ending) (w' : World) : Prop :=
  e = .returned (.tuple #[]) ∧ ∃ b wo bf ls, Hid (w'.heap[gs]? = some (pkO A n c roll bf ls)) ∧ Hid (Bd n b wo bf ls) ∧ Hid (Bst n (vl g n) (Upto n (N8.ok roll g) k p) b wo) ∧ Hid (Bw.But gs w w')
/-- The state in a search: the packer and a filling in a box. -/
structure Gs (w wr : World) (gs fb : Nat) (pk fl : Obj) (A : Option Addr) (n : Nat) (g : Nat → Int) : Prop where
  but : Bw.But gs w wr
  box : wr.heap[gs]? = some pk
  fil : wr.heap[fb]? = some fl
  nums : Nums wr gs A (n * 2) g
theorem Gs.below {w wr w' : World} {gs fb : Nat} {pk fl : Obj} {A : Option Addr} {n : Nat} {g : Nat → Int} (h : Gs w wr gs fb pk fl A n g) (hb : Below wr.heap.size wr w') : Gs w w' gs fb pk fl A n g :=
  ⟨h.but.trans (Bw.But.of_below hb), Ge.blk_keep hb h.box, Ge.blk_keep hb h.fil, Bw.nums_but h.nums (Bw.But.of_below hb) (Nat.le_refl _)⟩
theorem Gs.num {w wr : World} {gs fb : Nat} {pk fl : Obj} {A : Option Addr} {n : Nat} {g : Nat → Int} (h : Gs w wr gs fb pk fl A n g) : Nums wr wr.heap.size A (n * 2) g := h.nums.more (Nat.le_of_lt (Ge.lt_of_heap h.box))
theorem Gs.setN {w wr : World} {gs fb : Nat} {pk fl : Obj} {A : Option Addr} {n : Nat} {g : Nat → Int} (h : Gs w wr gs fb pk fl A n g) {nb : Nat} (h0 : w.heap.size ≤ nb) (h1 : gs < nb) (h2 : fb ≠ nb) (o : Nat) (v : Value) : Gs w (wr.setCell ⟨nb, o, none⟩ v) gs fb pk fl A n g :=
  ⟨⟨h.but.os, h.but.tape, h.but.output, by simpa using h.but.size, fun i hi hne => (Below.heap_setCell _ _ _ _ (by show i ≠ nb; omega)).trans (h.but.block i hi hne)⟩,
    (Below.heap_setCell _ _ _ _ (by show gs ≠ nb; omega)).trans h.box, (Below.heap_setCell _ _ _ _ h2).trans h.fil, fun hn => by
      obtain ⟨b, off, rfl, hB, hc⟩ := h.nums hn
      exact ⟨b, off, rfl, hB, fun i hi => (World.cell?_of_block (a := ⟨b, off + i, none⟩) (Below.heap_setCell _ _ _ _ (by show b ≠ nb; omega))).trans (hc i hi)⟩⟩
set_option maxRecDepth 100000 in
set_option maxHeartbeats 8000000 in
theorem gstep (gs : Nat) (A : Option Addr) (n c : Nat) (g : Nat → Int) (roll : Int) (hB : BlP roll n g) (k : Nat) (hk : k ≤ n)
    (IH : k < n → ∀ (p b : Nat → Int) (wo : Int) (bf : Nat → Nat) (ls : Int) (w : World), Pre roll g (k + 1) p → w.heap[gs]? = some (pkO A n c roll bf ls) → Bd n b wo bf ls → Bst n (vl g n) (Before n (N8.ok roll g) (k + 1) p) b wo → Nums w gs A (n * 2) g →
      Calls Try.prog 98 #[.pointer (some ⟨gs, 0, none⟩), .int .i64 ((k : Int) + 1), flV (fun z => rs p z (k + 1))] w (GoAt gs A n c roll g (k + 1) p w))
    (p b : Nat → Int) (wo : Int) (bf : Nat → Nat) (ls : Int) (w : World) (hP : Pre roll g k p) (hbox : w.heap[gs]? = some (pkO A n c roll bf ls)) (hd : Bd n b wo bf ls) (hbs : Bst n (vl g n) (Before n (N8.ok roll g) k p) b wo) (hA : Nums w gs A (n * 2) g) :
    Calls Try.prog 98 #[.pointer (some ⟨gs, 0, none⟩), .int .i64 (k : Int), flV (fun z => rs p z k)] w (GoAt gs A n c roll g k p w) := by
  have hn9 := hB.1.2
  have HIH := Lib.hid IH
  have HSI := Lib.hid (sum_in (p := p) hB hk)
  have hlt := Ge.lt_of_heap hbox
  have LEN : Hid (∀ w, Nums w w.heap.size A (n * 2) g → Calls Try.prog 65 #[neV A n c roll, flV (fun z => rs p z k)] w fun e w' => e = .returned (.int .i64 (hi (ht g p k) 9)) ∧ Below w.heap.size w w') := Lib.hid fun w hw => by
    have := ilength A n c g roll (fun z => rs p z k) hB (fun z => rs_lt p z (by omega)) w hw
    have e : (fun z => hs g (rs p z k) n) = ht g p k := funext fun z => hs_all hk
    rwa [e] at this
  have Q1 : Hid (ls ≤ hi (ht g p k) 9 → ∀ w', Bw.But gs w w' → w'.heap[gs]? = some (pkO A n c roll bf ls) → GoAt gs A n c roll g k p w (.returned (.tuple #[])) w') := Lib.hid fun h w' h1 h2 =>
    ⟨rfl, b, wo, bf, ls, Lib.hid h2, Lib.hid hd, Lib.hid (go_prune hB hk hd hbs h), Lib.hid h1⟩
  have Q2 : Hid (hi (ht g p k) 9 < ls → k = n → ∀ w', Bw.But gs w w' → w'.heap[gs]? = some (pkO A n c roll bf ls) → GoAt gs A n c roll g k p w (.returned (.tuple #[])) (setBest w' gs (fun z => rs p z k) (hi (ht g p k) 9))) := Lib.hid fun h e w' h1 h2 => by
    subst e
    exact ⟨rfl, p, hi (ht g p k) 9, (fun z => rs p z k), hi (ht g p k) 9, Lib.hid (set_best h2), Lib.hid (bd_leaf hB), Lib.hid (go_leaf hB hP hd hbs h), Lib.hid (but_best h1)⟩
  have Q3 : Hid (k < n → ∀ z : Nat, (z : Int) = mn p k → ∀ w' b wo bf ls, Bw.But gs w w' → w'.heap[gs]? = some (pkO A n c roll bf ls) → Bd n b wo bf ls → Bst n (vl g n) (Upto n (N8.ok roll g) (k + 1) (put p k (z : Int))) b wo → GoAt gs A n c roll g k p w (.returned (.tuple #[])) w') := Lib.hid fun hkn z hz w' b wo bf ls h1 h2 h3 h4 =>
    ⟨rfl, b, wo, bf, ls, Lib.hid h2, Lib.hid h3, Lib.hid (go_done hkn hz h4), Lib.hid h1⟩
  have MN := Lib.hid (pre_mn hP)
  have USE := Lib.hid (fun z => pre_lt hP (z := z))
  have FL := fun z => rs_lt p z (show k ≤ 9 by omega)
  have HFT := Lib.hid (fun x hx w hw => ifault A n c g roll x hB hx w hw)
  have HD := Lib.hid hd
  have HBS := Lib.hid hbs
  have HPR := Lib.hid hP
  generalize GoAt gs A n c roll g k p w = Q at Q1 Q2 Q3 ⊢
  have G0 : Hid (Gs w (w.alloc (flO fun z => rs p z k)) gs w.heap.size (pkO A n c roll bf ls) (flO fun z => rs p z k) A n g) := Lib.hid
    ⟨Bw.But.of_below (below_box w _), Ge.blk_keep (below_box w _) hbox, heap_alloc_new _ _, Bw.nums_but hA (Bw.But.of_below (below_box w _)) (Nat.le_refl _)⟩
  clear hP hd hbs hA hbox
  generalize hF : (fun z => rs p z k) = F at *
  have HF := Lib.hid hF
  clear hF
  have IX := Lib.hid (fun z (hz : z < 9) w => fl_index F hz w)
  generalize hs9 : hi (ht g p k) 9 = s at *
  clear hs9
  go_enter Try.func98, Try.ntmps98
  go_upto_region 1 with fail
  generalize hw9 : World.alloc _ _ = w1 at G0 ⊢
  clear hw9
  generalize w.heap.size = fb at *
  obtain ⟨z0, z1, _, _, _, _, _, _, _, _, _, z11⟩ := blk12 G0.out.box
  obtain ⟨y0, y1, y2, y3, y4, y5, y6, y7, y8⟩ := blk9 G0.out.fil
  have z0' := bey_cell z0
  have z1' := bey_cell z1
  have y0' := bey_cell y0
  have y1' := bey_cell y1
  have y2' := bey_cell y2
  have y3' := bey_cell y3
  have y4' := bey_cell y4
  have y5' := bey_cell y5
  have y6' := bey_cell y6
  have y7' := bey_cell y7
  have y8' := bey_cell y8
  have C1 := Lib.hid (fun q : Beyond w1 => LEN.out q.to (G0.out.below q.h).num)
  clear z0 z1 z11 y0 y1 y2 y3 y4 y5 y6 y7 y8 LEN
  refine wp_region_below (by kernel_rfl) (by kernel_rfl) ?_
  repeat (go_big_quiet_step ((go_at_call 65; with_reducible exact bey_of _ (C1.out _))))
  refine wpQuiet_nil ?_
  rintro _ ⟨pq, rfl⟩
  have G1 := Lib.hid (G0.out.below pq.h)
  generalize pq.to = w2 at G1 ⊢
  clear z0' z1' y0' y1' y2' y3' y4' y5' y6' y7' y8' C1 G0
  clear HIH
  have HIH := Lib.hid IH
  clear IH
  by_cases c1 : ls ≤ s
  · have HX := Lib.hid (Q1.out c1 w2 G1.out.but G1.out.box)
    obtain ⟨_, _, _, _, _, _, _, _, _, _, _, z11⟩ := blk12 G1.out.box
    clear HIH USE FL HFT IX Q2 Q3 HF HD HBS HPR MN
    go_wp2_with fail
    go_end0
    exact HX.out
  have c1' : s < ls := by omega
  by_cases c2 : k = n
  · have HX := Lib.hid (Q2.out c1' c2 w2 G1.out.but G1.out.box)
    obtain ⟨z0, z1, x2, x3, x4, x5, x6, x7, x8, x9, x10, z11⟩ := blk12 G1.out.box
    obtain ⟨y0, y1, y2, y3, y4, y5, y6, y7, y8⟩ := blk9 G1.out.fil
    have hfr := blk_free G1.out.box
    have c3 : ((k : Int) == (n : Int)) = true := by simp [c2]
    clear HIH USE FL HFT IX Q1 Q3 HF HD HBS HPR MN
    go_wp2_with fail
    go_end0
    exact HX.out
  have hkn : k < n := by omega
  have hFz : ∀ z, F z = rs p z k := fun z => by rw [← HF.out]
  obtain ⟨M, hM⟩ : ∃ M : Nat, (M : Int) = mn p k := ⟨(mn p k).toNat, by have := MN.out; omega⟩
  have hM8 : M ≤ 8 := by have := MN.out; omega
  have S0 := Lib.hid (go_start hkn HBS.out)
  have Q4 := Lib.hid (fun w' b wo bf ls h1 h2 h3 h4 => Q3.out hkn M hM w' b wo bf ls h1 h2 h3 h4)
  have PZ : Hid (∀ z, z ≤ M → (F z ||| 2 ^ k < 512 ∧ F z < 512) ∧ (F z = 0 ↔ z = M) ∧ ws g (F z ||| 2 ^ k) n = wd g p k z + g (k * 2) ∧ ∃ F' : Nat → Nat, (∀ j, F' j = if j = z then F z ||| 2 ^ k else F j) ∧ (wd g p k z + g (k * 2) ≤ roll → ∀ (b : Nat → Int) (wo : Int) (bf : Nat → Nat) (ls : Int) (w : World), w.heap[gs]? = some (pkO A n c roll bf ls) → Bd n b wo bf ls → Bst n (vl g n) (Before n (N8.ok roll g) (k + 1) (put p k (z : Int))) b wo → Nums w gs A (n * 2) g →
      Calls Try.prog 98 #[.pointer (some ⟨gs, 0, none⟩), .int .i64 ((k : Int) + 1), flV F'] w (GoAt gs A n c roll g (k + 1) (put p k (z : Int)) w))) := Lib.hid fun z hz => by
    have u := USE.out z
    have hy : rs (put p k (z : Int)) z (k + 1) = F z ||| 2 ^ k := by rw [rs_put, if_pos rfl, hFz]
    refine ⟨⟨or_lt ((by rw [hFz]; exact FL z)) (by omega), (by rw [hFz]; exact FL z)⟩, ?_, ?_, fun j => rs (put p k (z : Int)) j (k + 1), fun j => ?_, fun ho b wo bf ls w => HIH.out hkn (put p k (z : Int)) b wo bf ls w (pre_put HPR.out ((ok_put (by omega)).2 ho))⟩
    · rw [hFz]
      constructor
      · intro h0
        have := mt u.1 (by rw [h0]; simp)
        omega
      · intro h0
        by_cases e : rs p z k = 0
        · exact e
        · have := u.2 e
          omega
    · rw [← hy, ws_all (by omega)]
      exact N8.wd_put.2
    · show rs (put p k (z : Int)) j (k + 1) = _
      rw [rs_put, hFz z, hFz j]
      by_cases e : j = z
      · subst e; simp
      · simp [e]
  have c3 : ((k : Int) == (n : Int)) = false := by simp; omega
  obtain ⟨z0, z1, _, _, _, _, _, _, _, _, _, z11⟩ := blk12 G1.out.box
  obtain ⟨y0, y1, y2, y3, y4, y5, y6, y7, y8⟩ := blk9 G1.out.fil
  clear Q1 Q2 Q3 USE HBS HPR HIH MN HSI HF hFz FL
  have hk8 : k < 9 := by omega
  have hwf := G1.out.but.size
  go_wp2_with fail
  clear z0 z1 z11 y0 y1 y2 y3 y4 y5 y6 y7 y8
  go_loopw [7, 8, 9, 39] (fun _ _ _ i wr => ∃ (z : Nat) (b : Nat → Int) (wo : Int) (bf : Nat → Nat) (ls : Int), z ≤ M ∧ i = .int .i64 (z : Int) ∧ Hid (Gs w wr gs fb (pkO A n c roll bf ls) (flO F) A n g) ∧ Hid (Bd n b wo bf ls) ∧ Hid (Bst n (vl g n) (Before n (N8.ok roll g) (k + 1) (put p k (z : Int))) b wo)) (fun _ _ _ i _ => 9 - (intOf i).toNat)
  case atStart => exact ⟨0, b, wo, bf, ls, Nat.zero_le _, rfl, G1, HD, S0⟩
  case round =>
    clear G1 HD S0
    obtain ⟨z, b, wo, bf, ls, hz, rfl, HG, HD, HB⟩ := hrel
    have e0 : (0 : Int) ≤ (z : Int) := Int.natCast_nonneg _
    have e1 : (z : Int) < 9 := by omega
    have e2 : (z : Int) ≤ 8 := by omega
    have hz9 : z < 9 := by omega
    have ix := IX.out z hz9 wr
    obtain ⟨⟨hy9, hF9⟩, hF0, hws, F', hF', HI⟩ := PZ.out z hz
    have HIz := Lib.hid HI
    have CW := Lib.hid (fun w => iwith (F z) k hF9 hk8 w)
    have CF := Lib.hid (fun w hw => HFT.out (F z ||| 2 ^ k) hy9 w hw)
    rw [hws] at CF
    obtain ⟨y0, y1, y2, y3, y4, y5, y6, y7, y8⟩ := blk9 HG.out.fil
    have K3 := Lib.hid (heap_alloc_new wr (flO F))
    have G3 := Lib.hid (HG.out.below (below_box wr (flO F)))
    have hn0 := HG.out.but.size
    have hgn := Ge.lt_of_heap HG.out.box
    have hfn := Ge.lt_of_heap HG.out.fil
    clear HI PZ IX HFT HG
    go_upto_region 9 with fail
    generalize hw9 : World.alloc _ _ = w3 at K3 G3 ⊢
    clear hw9 y0 y1 y2 y3 y4 y5 y6 y7 y8
    generalize wr.heap.size = nb at *
    have HKS := Lib.hid (fl_set K3.out hz9 (F z ||| 2 ^ k))
    have hfe : (fun j => if j = z then F z ||| 2 ^ k else F j) = F' := funext fun j => (hF' j).symm
    rw [hfe] at HKS
    have hFzz : F' z = F z ||| 2 ^ k := by rw [hF', if_pos rfl]
    have a0 := fl_cell K3.out hz9
    have a1 := blk_free K3.out z
    have G4 := Lib.hid (G3.out.setN (nb := nb) (by omega) hgn (by omega) z (.int .u16 ((F z ||| 2 ^ k : Nat) : Int)))
    clear hfe hF' G3 K3
    generalize F z ||| 2 ^ k = y at *
    generalize hfz : F z = fz at *
    go_wp2_with fail
    refine (CW.out _).mono ?_
    rintro e w4 ⟨rfl, rfl⟩
    clear CW
    go_upto_region 10 with fail
    generalize hw9 : World.setCell _ _ _ = w4 at G4 HKS ⊢
    clear hw9 a0 a1
    obtain ⟨z0, z1, _⟩ := blk12 G4.out.box
    have a2 := fl_cell HKS.out hz9
    rw [hFzz] at a2
    have z0' := bey_cell z0
    have z1' := bey_cell z1
    have a2' := bey_cell a2
    have C1 := Lib.hid (fun q : Beyond w4 => CF.out q.to (G4.out.below q.h).num)
    clear z0 z1 a2 CF
    have hfc : (((fz : Nat) : Int) == 0) = decide (z = M) := by
      by_cases e : z = M
      · rw [hF0.2 e]; simp [e]
      · have := mt hF0.1 e
        simp [e]; omega
    by_cases hw : wd g p k z + g (k * 2) ≤ roll
    · have hno : decide (roll < wd g p k z + g (k * 2)) = false := by simp; omega
      rw [hno] at C1
      have HI2 := Lib.hid (HIz.out hw)
      clear HIz hno
      refine wp_region_below (by kernel_rfl) (by kernel_rfl) ?_
      repeat (go_big_quiet_step ((go_at_call 86; with_reducible exact bey_of _ (C1.out _))))
      refine wpQuiet_nil ?_
      rintro _ ⟨pq, rfl⟩
      have G5 := Lib.hid (G4.out.below pq.h)
      have K5 := Lib.hid (Ge.blk_keep pq.h HKS.out)
      generalize pq.to = w5 at G5 K5 ⊢
      clear z0' z1' a2' C1 G4 HKS
      obtain ⟨y0, y1, y2, y3, y4, y5, y6, y7, y8⟩ := blk9 K5.out
      have C2 := Lib.hid (HI2.out b wo bf ls w5 G5.out.box HD.out HB.out G5.out.nums)
      go_wp2_with fail
      refine C2.out.mono ?_
      rintro e w6 ⟨rfl, b2, wo2, bf2, ls2, HX, HD2, HB2, HU⟩
      have G6 : Hid (Gs w w6 gs fb (pkO A n c roll bf2 ls2) (flO F) A n g) := Lib.hid ⟨G5.out.but.trans HU.out, HX.out, Bw.blk_but G5.out.fil HU.out (by omega), Bw.nums_but G5.out.nums HU.out (Nat.le_refl _)⟩
      clear C2 HI2 HX HU G5 K5 HD HB y0 y1 y2 y3 y4 y5 y6 y7 y8
      by_cases hzM : z = M
      · have hf1 : (((fz : Nat) : Int) == 0) = true := by rw [hfc]; simp [hzM]
        have HZ := Lib.hid (Q4.out w6 b2 wo2 bf2 ls2 G6.out.but G6.out.box HD2.out (by rw [← hzM]; exact HB2.out))
        clear Q4 hfc
        go_wp2_with fail
        go_end0
        exact HZ.out
      · have hf1 : (((fz : Nat) : Int) == 0) = false := by rw [hfc]; simp [hzM]
        clear hfc
        go_wp2_with fail
        go_roundw
        case rel => exact ⟨z + 1, b2, wo2, bf2, ls2, by omega, by go_num, G6, HD2, Lib.hid (go_next hkn HB2.out)⟩
        case measure => simp [intOf]; omega
    · have hno : decide (roll < wd g p k z + g (k * 2)) = true := by simp; omega
      rw [hno] at C1
      clear HIz hno
      refine wp_region_below (by kernel_rfl) (by kernel_rfl) ?_
      repeat (go_big_quiet_step ((go_at_call 86; with_reducible exact bey_of _ (C1.out _))))
      refine wpQuiet_nil ?_
      rintro _ ⟨pq, rfl⟩
      have G6 := Lib.hid (G4.out.below pq.h)
      generalize pq.to = w6 at G6 ⊢
      clear z0' z1' a2' C1 G4 HKS
      have HB2 := Lib.hid (go_skip hkn (by omega) hw HB.out)
      clear HB
      by_cases hzM : z = M
      · have hf1 : (((fz : Nat) : Int) == 0) = true := by rw [hfc]; simp [hzM]
        have HZ := Lib.hid (Q4.out w6 b wo bf ls G6.out.but G6.out.box HD.out (by rw [← hzM]; exact HB2.out))
        clear Q4 hfc
        go_wp2_with fail
        go_end0
        exact HZ.out
      · have hf1 : (((fz : Nat) : Int) == 0) = false := by rw [hfc]; simp [hzM]
        clear hfc
        go_wp2_with fail
        go_roundw
        case rel => exact ⟨z + 1, b, wo, bf, ls, by omega, by go_num, G6, HD, Lib.hid (go_next hkn HB2.out)⟩
        case measure => simp [intOf]; omega
end Go.Proofs.Ytgclhkiiaclkgab.Po
