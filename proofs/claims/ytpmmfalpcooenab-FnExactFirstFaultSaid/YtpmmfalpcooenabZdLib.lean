/- The surface of a pattern: the program's. -/
import Derived.Test.YtpmmfalpcooenabZcLib
import Derived.Maps.AppendAt
import Derived.StillTailTactics
namespace Go.Proofs.Ytpmmfalpcooenab.Zd
set_option linter.unusedVariables false
open Go.RowKit Go.Maps Ft Is Ge Qb Pt Pv Za Mm Zb Zc

abbrev suC (a0 a1 a2 a3 a4 : Value) : Obj := .cells #[a0, a1, a2, a3, a4] 134
abbrev zeC : Obj := suC (.slice none 0 0) (.slice none 0 0) (.int .i64 0) (.slice none 0 0) (.map none)
abbrev sfZ : Value := .agg #[.slice none 0 0, .slice none 0 0, .int .i64 0, .slice none 0 0, .map none]
/-- All that holds while a surface is made. -/
structure St (w wr : World) (a0 a1 a2 : Value) (b4 p : Nat) (ms : Nat → Nat) (ds : Nat → Nat → Int) (rl ml : List (Nat × Nat)) (M : Nat × Nat → Option (Nat × Nat)) (es : Value) (bm : Nat) (P : Nat × Nat → Nat) (g : Lit → Option Value) : Prop where
  bel : Below w.heap.size w wr
  arg : wr.heap[w.heap.size]? = some (.cells #[a0, a1, a2] 79 (0, 0))
  res : wr.heap[w.heap.size + 1]? = some zeC
  box : wr.heap[b4]? = some (suC a0 a1 a2 es (.map (some bm)))
  ne : w.heap.size + 1 < b4
  sf : Surf w.heap.size p ms ds rl ml M es bm P g wr
theorem St.below {w wr w' : World} {a0 a1 a2 : Value} {b4 p : Nat} {ms : Nat → Nat} {ds : Nat → Nat → Int} {rl ml : List (Nat × Nat)} {M : Nat × Nat → Option (Nat × Nat)} {es : Value} {bm : Nat} {P : Nat × Nat → Nat} {g : Lit → Option Value} (h : St w wr a0 a1 a2 b4 p ms ds rl ml M es bm P g) (hb : Below wr.heap.size wr w') : St w w' a0 a1 a2 b4 p ms ds rl ml M es bm P g :=
  ⟨below_then h.bel hb, blk_keep hb h.arg, blk_keep hb h.res, blk_keep hb h.box, h.ne, h.sf.below hb⟩
theorem St.ring {w wr w' : World} {a0 a1 a2 : Value} {b4 p : Nat} {ms : Nat → Nat} {ds : Nat → Nat → Int} {rl ml : List (Nat × Nat)} {es : Value} {bm : Nat} {P : Nat × Nat → Nat} {g : Lit → Option Value} {rg : Nat} {R : Nat → Nat} (h : St w wr a0 a1 a2 b4 p ms ds rl ml (fun _ => none) es bm P g) (hr : ∀ x, x ∈ rl → x.1 < p) (hm : ∀ x, x ∈ ml → x.1 < p)
    (k : Ring wr w' (p : Int) (ms p) (ds p) rg R (ms p)) (h0 : 0 < ms p) : St w w' a0 a1 a2 b4 (p + 1) ms ds rl ml (fun _ => none) es bm (addP P p R) g :=
  ⟨below_then h.bel k.bel, blk_keep k.bel h.arg, blk_keep k.bel h.res, blk_keep k.bel h.box, h.ne, h.sf.ring hr hm h.bel.size k h0⟩
theorem t_pat : (79 : TypeId) ≠ 169 := by decide
theorem t_sur : (134 : TypeId) ≠ 169 ∧ (134 : TypeId) ≠ 173 := by decide
theorem t_pat2 : (79 : TypeId) ≠ 173 := by decide
theorem St.push {w W w' : World} {a0 a1 a2 : Value} {b4 p : Nat} {ms : Nat → Nat} {ds : Nat → Nat → Int} {rl ml : List (Nat × Nat)} {M : Nat × Nat → Option (Nat × Nat)} {es es' : Value} {bm : Nat} {P : Nat × Nat → Nat} {g : Lit → Option Value} {x : Nat × Nat} (h : St w W a0 a1 a2 b4 p ms ds rl ml M es bm P g)
    (hown : w'.ownsRow w.heap.size 169 1 es' (rl.length + 1) ((rl.map fun x => ptr (P x)) ++ [ptr (P x)])) (hg : W.grownBy w' es.ownBlock) : St w (w'.setCell ⟨b4, 3, none⟩ es') a0 a1 a2 b4 p ms ds (rl ++ [x]) ml M es' bm P g := by
  have hsz := h.bel.size
  have k1 : w'.heap[w.heap.size]? = some (.cells #[a0, a1, a2] 79 (0, 0)) := (hg.block _ (lt_of_heap h.arg) (own_neT h.sf.row h.arg t_pat)).trans h.arg
  have k2 : w'.heap[w.heap.size + 1]? = some zeC := (hg.block _ (lt_of_heap h.res) (own_neT h.sf.row h.res t_sur.1)).trans h.res
  have k3 : w'.heap[b4]? = some (suC a0 a1 a2 es (.map (some bm))) := (hg.block _ (lt_of_heap h.box) (own_neT h.sf.row h.box t_sur.1)).trans h.box
  have hn := h.ne
  refine ⟨(h.bel.grown hg hsz fun q hq => ?_).setCell (by show w.heap.size ≤ b4; omega) _, (Below.heap_setCell _ _ _ _ (by show w.heap.size ≠ b4; omega)).trans k1, (Below.heap_setCell _ _ _ _ (by show w.heap.size + 1 ≠ b4; omega)).trans k2, heap_set k3 3 _, h.ne, (h.sf.push (x := x) hown hg).set k3 t_sur.1 t_sur.2⟩
  rcases h.sf.row.2 with ⟨rfl, _⟩ | ⟨g', cap, cur, rfl, hbg, _⟩
  · cases hq
  · cases hq; exact hbg
theorem St.enter {w W w' : World} {a0 a1 a2 : Value} {b4 p : Nat} {ms : Nat → Nat} {ds : Nat → Nat → Int} {rl ml : List (Nat × Nat)} {M : Nat × Nat → Option (Nat × Nat)} {es : Value} {bm : Nat} {P : Nat × Nat → Nat} {g : Lit → Option Value} {x : Nat × Nat} (h : St w W a0 a1 a2 b4 p ms ds rl ml M es bm P g) (hw : ∀ y, y ∈ ml ∨ y = x → (Lit.int .i64 (y.1 : Int)).wf = true ∧ (Lit.int .i64 (y.2 : Int)).wf = true)
    (hm : MapIs Try.prog 171 w' bm (upd g (ekx x) (ptr (P x)))) (hg : W.grownBy w' (some bm)) : St w w' a0 a1 a2 b4 p ms ds rl (ml ++ [x]) M es bm P (upd g (ekx x) (ptr (P x))) := by
  have ne : ∀ {b : Nat} {cs : Array Value} {t : TypeId}, W.heap[b]? = some (.cells cs t (0, 0)) → some b ≠ some bm := fun hb e => by cases e; exact map_ne h.sf.map hb rfl
  exact ⟨h.bel.grown hg h.bel.size fun q hq => by cases hq; exact h.sf.low, (hg.block _ (lt_of_heap h.arg) (ne h.arg)).trans h.arg, (hg.block _ (lt_of_heap h.res) (ne h.res)).trans h.res, (hg.block _ (lt_of_heap h.box) (ne h.box)).trans h.box, h.ne, h.sf.enter hw hm hg⟩
theorem St.sewn {w W w' : World} {a0 a1 a2 : Value} {b4 p : Nat} {ms : Nat → Nat} {ds : Nat → Nat → Int} {rl ml : List (Nat × Nat)} {M M' : Nat × Nat → Option (Nat × Nat)} {es : Value} {bm : Nat} {P : Nat × Nat → Nat} {g : Lit → Option Value} (h : St w W a0 a1 a2 b4 p ms ds rl ml M es bm P g) (hb : Below w.heap.size W w') (hk : Kept W w') (hs : Surf w.heap.size p ms ds rl ml M' es bm P g w') : St w w' a0 a1 a2 b4 p ms ds rl ml M' es bm P g :=
  ⟨h.bel.trans hb, hk _ _ _ h.arg t_pat2, hk _ _ _ h.res t_sur.2, hk _ _ _ h.box t_sur.2, h.ne, hs⟩
/-- What the program's surfaceOf tells. -/
def SfAt (A : Option Addr) (n c : Nat) (N : Nat → ByteArray) (ms : Nat → Nat) (ds : Nat → Nat → Int) (Y : Option Addr) (k sc : Nat) (S : Nat → Int) (o : Int) (w : World) (e : Ending) (w' : World) : Prop :=
  Below w.heap.size w w' ∧ ((¬ PatP n N ms ds k S o ∧ e = .returned (.tuple #[sfZ, .bool false])) ∨ (PatP n N ms ds k S o ∧ ∃ es bm P g, e = .returned (.tuple #[sfV A n c Y k sc o es bm, .bool true]) ∧ Hid (Surf w.heap.size n ms ds (plc ms n) (plc ms n) (mate S k) es bm P g w')))
theorem fin {W : World} {r : Nat} {z0 z1 z2 z3 z4 v0 v1 v2 v3 v4 : Value} (h : W.heap[r]? = some (suC z0 z1 z2 z3 z4)) : (((((W.setCell ⟨r, 0, none⟩ v0).setCell ⟨r, 1, none⟩ v1).setCell ⟨r, 2, none⟩ v2).setCell ⟨r, 3, none⟩ v3).setCell ⟨r, 4, none⟩ v4).heap[r]? = some (suC v0 v1 v2 v3 v4) :=
  heap_set (heap_set (heap_set (heap_set (heap_set h 0 v0) 1 v1) 2 v2) 3 v3) 4 v4
theorem fin_below {B r : Nat} {w W : World} {v0 v1 v2 v3 v4 : Value} (h : Below B w W) (hr : B ≤ r) : Below B w (((((W.setCell ⟨r, 0, none⟩ v0).setCell ⟨r, 1, none⟩ v1).setCell ⟨r, 2, none⟩ v2).setCell ⟨r, 3, none⟩ v3).setCell ⟨r, 4, none⟩ v4) :=
  ((((h.setCell hr v0).setCell hr v1).setCell hr v2).setCell hr v3).setCell hr v4
theorem fin_surf {B p r : Nat} {ms : Nat → Nat} {ds : Nat → Nat → Int} {rl ml : List (Nat × Nat)} {M : Nat × Nat → Option (Nat × Nat)} {es : Value} {bm : Nat} {P : Nat × Nat → Nat} {g : Lit → Option Value} {W : World} {z0 z1 z2 z3 z4 v0 v1 v2 v3 v4 : Value} (h : Surf B p ms ds rl ml M es bm P g W) (hr : W.heap[r]? = some (suC z0 z1 z2 z3 z4)) :
    Surf B p ms ds rl ml M es bm P g (((((W.setCell ⟨r, 0, none⟩ v0).setCell ⟨r, 1, none⟩ v1).setCell ⟨r, 2, none⟩ v2).setCell ⟨r, 3, none⟩ v3).setCell ⟨r, 4, none⟩ v4) := by
  have h1 := heap_set hr 0 v0
  have h2 := heap_set h1 1 v1
  have h3 := heap_set h2 2 v2
  have h4 := heap_set h3 3 v3
  exact ((((h.set hr t_sur.1 t_sur.2).set h1 t_sur.1 t_sur.2).set h2 t_sur.1 t_sur.2).set h3 t_sur.1 t_sur.2).set h4 t_sur.1 t_sur.2
theorem blk5 {w : World} {g : Nat} {t : TypeId} {c0 c1 c2 c3 c4 : Value} (h : w.heap[g]? = some (.cells #[c0, c1, c2, c3, c4] t (0, 0))) :
    w.cell? ⟨g, 0, none⟩ = some c0 ∧ w.cell? ⟨g, 1, none⟩ = some c1 ∧ w.cell? ⟨g, 2, none⟩ = some c2 ∧ w.cell? ⟨g, 3, none⟩ = some c3 ∧ w.cell? ⟨g, 4, none⟩ = some c4 :=
  ⟨cell_of_row _ _ _ _ _ _ h, cell_of_row _ _ _ _ _ _ h, cell_of_row _ _ _ _ _ _ h, cell_of_row _ _ _ _ _ _ h, cell_of_row _ _ _ _ _ _ h⟩
theorem own_size {w : World} {base : Nat} {e : TypeId} {size n : Nat} {v : Value} {xs : List Value} (h : w.ownsRow base e size v n xs) {b : Nat} (hb : v.ownBlock = some b) : b < w.heap.size := by
  rcases h.2 with ⟨rfl, _⟩ | ⟨g, cap, cur, rfl, _, hh, _⟩
  · cases hb
  · cases hb; exact lt_of_heap hh
theorem own_slice {w : World} {base : Nat} {e : TypeId} {size n : Nat} {v : Value} {xs : List Value} (h : w.ownsRow base e size v n xs) : ∃ a l c, v = .slice a l c := by
  rcases h.2 with ⟨rfl, _⟩ | ⟨g, cap, cur, rfl, _⟩
  · exact ⟨_, _, _, rfl⟩
  · exact ⟨_, _, _, rfl⟩
set_option maxRecDepth 100000 in
set_option maxHeartbeats 8000000 in
theorem surface_of (A : Option Addr) (n c : Nat) (N : Nat → ByteArray) (ms : Nat → Nat) (ds : Nat → Nat → Int) (Y : Option Addr) (k sc : Nat) (S : Nat → Int) (o : Int) (hz : Small n N ms k) (hw : ∀ i, i < k * 4 → (Lit.int .i64 (S i)).wf = true) (w : World) (hA : PatR w A n N ms ds Y k S) :
    Calls Try.prog 102 #[paV A n c Y k sc o] w (SfAt A n c N ms ds Y k sc S o w) := by
  obtain ⟨i0, hi0, hz0, hz1, hz2⟩ := info_parts info_ptr
  have HI := Lib.hid (And.intro hi0 (And.intro hz0 (And.intro hz1 hz2)))
  obtain ⟨hn, hk, hmm⟩ := hz.at
  have HA := Lib.hid hA
  have QN : Hid (¬ PatP n N ms ds k S o → ∀ W, Below w.heap.size w W → SfAt A n c N ms ds Y k sc S o w (.returned (.tuple #[sfZ, .bool false])) W) := Lib.hid fun h W hb => ⟨hb, .inl ⟨h, rfl⟩⟩
  have QY : Hid (PatP n N ms ds k S o → ∀ W es bm P g, Below w.heap.size w W → Surf w.heap.size n ms ds (plc ms n) (plc ms n) (mate S k) es bm P g W → SfAt A n c N ms ds Y k sc S o w (.returned (.tuple #[sfV A n c Y k sc o es bm, .bool true])) W) := Lib.hid fun h W es bm P g hb hs => ⟨hb, .inr ⟨h, es, bm, P, g, rfl, Lib.hid hs⟩⟩
  have CW := Lib.hid (fun a l h w => Ba.within_any a l h w)
  have CV := Lib.hid (fun i (hj : i < n) A c w hA => valid_piece (N i) A (ms i) c (ds i) (by have := (hmm i hj).1; unfold maxLen; omega) (hmm i hj).2 w hA)
  have CR := Lib.hid (fun i (hi : 1 ≤ ms i ∧ ms i ≤ 8) A c w hA => ring_of (i : Int) A (ms i) c (ds i) hi.1 hi.2 w hA)
  have HW := Lib.hid hw
  have PN1 : Hid (Ba.inB (n : Int) 1 10 = false → ¬ PatP n N ms ds k S o) := Lib.hid fun h q => by have := q.2.1.1; change Ba.inB (n : Int) 1 10 = true at this; rw [h] at this; cases this
  have PN2 : Hid (Ba.inB o 0 100 = false → ¬ PatP n N ms ds k S o) := Lib.hid fun h q => by have := q.2.1.2; change Ba.inB o 0 100 = true at this; rw [h] at this; cases this
  have PN3 : Hid (∀ i, i < n → tv (PcP (N i) (ms i) (ds i)) = false → ¬ PatP n N ms ds k S o) := Lib.hid fun i hi h q => by rw [tv_yes (q.1 i hi)] at h; cases h
  have PN4 : Hid (∀ i, i < k → ¬ SwP n ms S i → ¬ PatP n N ms ds k S o) := Lib.hid fun i hi h q => h (sew_iff.2 q.2.2 i hi)
  have PYY : Hid (Ba.inB (n : Int) 1 10 = true → Ba.inB o 0 100 = true → (∀ i, i < n → tv (PcP (N i) (ms i) (ds i)) = true) → (∀ i, i < k → SwP n ms S i) → PatP n N ms ds k S o) := Lib.hid fun h1 h2 h3 h4 => ⟨fun i hi => tv_iff.1 (h3 i hi), ⟨h1, h2⟩, sew_iff.1 h4⟩
  have PB : Hid (∀ i, tv (PcP (N i) (ms i) (ds i)) = true → 1 ≤ ms i ∧ ms i ≤ 8) := Lib.hid fun i h => by have := (tv_iff.1 h).2.1; omega
  clear hA hz hi0 hz0 hz1 hz2 hw hmm
  unfold paV
  generalize SfAt A n c N ms ds Y k sc S o w = Q at QN QY ⊢
  generalize PatP n N ms ds k S o = PP at QN QY PN1 PN2 PN3 PN4 PYY
  obtain ⟨E, hE⟩ : ∃ E : Nat → Bool, ∀ i, tv (PcP (N i) (ms i) (ds i)) = E i := ⟨_, fun i => rfl⟩
  simp only [hE] at CV PN3 PYY PB
  clear hE
  -- the two boxes
  obtain ⟨ka, kr⟩ := two w (.cells #[.slice A n c, .slice Y k sc, .int .i64 o] 79) zeC
  have KA := Lib.hid ka
  have KR := Lib.hid kr
  have BB := Lib.hid (below2 w (.cells #[.slice A n c, .slice Y k sc, .int .i64 o] 79) zeC)
  have hsz : ((w.alloc (.cells #[.slice A n c, .slice Y k sc, .int .i64 o] 79)).alloc zeC).heap.size = w.heap.size + 1 + 1 := by simp
  clear ka kr
  go_enter Try.func102, Try.ntmps102
  go_upto_region 1 with fail
  generalize hw0 : (w.alloc _).alloc _ = wz at KA KR BB hsz ⊢
  clear hw0
  obtain ⟨a0, a1, a2⟩ := blk3 KA.out
  generalize hr1 : Ba.inB (n : Int) 1 10 = r1 at PN1 PYY
  generalize hr2 : Ba.inB o 0 100 = r2 at PN2 PYY
  have C1 := Lib.hid (CW.out (n : Int) 1 10 wz)
  have C2 := Lib.hid (CW.out o 0 100 wz)
  rw [hr1] at C1
  rw [hr2] at C2
  have NOZ : Hid (¬ PP → ∀ W, Below w.heap.size w W → W.heap[w.heap.size + 1]? = some zeC → Q (.returned (.tuple #[sfZ, .bool false])) (((((W.setCell ⟨w.heap.size + 1, 0, none⟩ (.slice none 0 0)).setCell ⟨w.heap.size + 1, 1, none⟩ (.slice none 0 0)).setCell ⟨w.heap.size + 1, 2, none⟩ (.int .i64 0)).setCell ⟨w.heap.size + 1, 3, none⟩ (.slice none 0 0)).setCell ⟨w.heap.size + 1, 4, none⟩ (.map none)) ∧ (((((W.setCell ⟨w.heap.size + 1, 0, none⟩ (.slice none 0 0)).setCell ⟨w.heap.size + 1, 1, none⟩ (.slice none 0 0)).setCell ⟨w.heap.size + 1, 2, none⟩ (.int .i64 0)).setCell ⟨w.heap.size + 1, 3, none⟩ (.slice none 0 0)).setCell ⟨w.heap.size + 1, 4, none⟩ (.map none)).heap[w.heap.size + 1]? = some zeC) := Lib.hid fun h W hb hr => ⟨QN.out h _ (fin_below hb (by omega)), fin hr⟩
  obtain ⟨r0, r1', r2', r3', r4'⟩ := blk5 KR.out
  have rf := blk_free KR.out
  go_wp2_with fail
  refine C1.out.mono ?_
  rintro e w' ⟨rfl, rfl⟩
  cases r1
  · obtain ⟨HQ, hB⟩ := NOZ.out (PN1.out rfl) wz BB.out KR.out
    have HQ := Lib.hid HQ
    have HZ := Lib.hid hB
    go_wp2_with fail
    generalize ((((wz.setCell ⟨w.heap.size + 1, 0, none⟩ (.slice none 0 0)).setCell ⟨w.heap.size + 1, 1, none⟩ (.slice none 0 0)).setCell ⟨w.heap.size + 1, 2, none⟩ (.int .i64 0)).setCell ⟨w.heap.size + 1, 3, none⟩ (.slice none 0 0)).setCell ⟨w.heap.size + 1, 4, none⟩ (.map none) = wf at HQ HZ ⊢
    obtain ⟨z0, z1, z2, z3, z4⟩ := blk5 HZ.out
    exact bodyPost_ret (v := .tuple #[sfZ, .bool false]) (by simp [results, Try.results102, go_sem, z0, z1, z2, z3, z4]) rfl HQ.out
  go_wp2_with fail
  refine C2.out.mono ?_
  rintro e w' ⟨rfl, rfl⟩
  cases r2
  · obtain ⟨HQ, hB⟩ := NOZ.out (PN2.out rfl) wz BB.out KR.out
    have HQ := Lib.hid HQ
    have HZ := Lib.hid hB
    go_wp2_with fail
    generalize ((((wz.setCell ⟨w.heap.size + 1, 0, none⟩ (.slice none 0 0)).setCell ⟨w.heap.size + 1, 1, none⟩ (.slice none 0 0)).setCell ⟨w.heap.size + 1, 2, none⟩ (.int .i64 0)).setCell ⟨w.heap.size + 1, 3, none⟩ (.slice none 0 0)).setCell ⟨w.heap.size + 1, 4, none⟩ (.map none) = wf at HQ HZ ⊢
    obtain ⟨z0, z1, z2, z3, z4⟩ := blk5 HZ.out
    exact bodyPost_ret (v := .tuple #[sfZ, .bool false]) (by simp [results, Try.results102, go_sem, z0, z1, z2, z3, z4]) rfl HQ.out
  have hn10 : n ≤ 10 := by have := Ba.in_of hr1; omega
  have PYZ := Lib.hid (PYY.out (by first | rfl | trivial) (by first | rfl | trivial))
  clear PYY PN1 PN2 C1 C2 CW hr1 hr2
  -- the map and the box of the surface
  have BM := Lib.hid (below_box wz (.map #[] 0))
  have ST0 : Hid (St w ((wz.alloc (.map #[] 0)).alloc (suC (.slice A n c) (.slice Y k sc) (.int .i64 o) (.slice none 0 0) (.map (some (w.heap.size + 1 + 1))))) (.slice A n c) (.slice Y k sc) (.int .i64 o) (w.heap.size + 1 + 1 + 1) 0 ms ds (plc ms 0) (plc ms 0) (fun _ => none) (.slice none 0 0) (w.heap.size + 1 + 1) (fun _ => 0) (fun _ => none)) := Lib.hid (by
    have b1 := below_box wz (.map #[] 0)
    have b2 := below_box (wz.alloc (.map #[] 0)) (suC (.slice A n c) (.slice Y k sc) (.int .i64 o) (.slice none 0 0) (.map (some (w.heap.size + 1 + 1))))
    have s1 : (wz.alloc (.map #[] 0)).heap.size = w.heap.size + 1 + 1 + 1 := by simp [hsz]
    have hm := MapIs.made wz Try.prog 171
    rw [hsz] at hm
    refine ⟨below_then BB.out (below_then b1 b2), blk_keep b2 (blk_keep b1 KA.out), blk_keep b2 (blk_keep b1 KR.out), ?_, by omega, ⟨⟨rfl, .inl ⟨rfl, rfl⟩⟩, hm.below b2 (by rw [s1]; omega), fun x hx => by simp [plc] at hx, (fun l v h => by cases h), fun x h => absurd h (Nat.not_lt_zero _), fun x y h => absurd h (Nat.not_lt_zero _), by omega⟩⟩
    have := heap_alloc_new (wz.alloc (.map #[] 0)) (suC (.slice A n c) (.slice Y k sc) (.int .i64 o) (.slice none 0 0) (.map (some (w.heap.size + 1 + 1))))
    rw [s1] at this
    exact this)
  have hwm : (wz.alloc (.map #[] 0)).heap.size = w.heap.size + 1 + 1 + 1 := by simp [hsz]
  clear r0 r1' r2' r3' r4' rf BM
  have hmm := run_makeMap (P := Try.prog) 132 wz
  rw [hsz] at hmm
  go_wp2_with fail
  clear a0 a1 a2 hmm
  go_loopw [5, 6, 8, 29, 43] (fun _ _ _ i' _ wr => ∃ (p : Nat) (es : Value) (P : Nat × Nat → Nat) (g : Lit → Option Value), p ≤ n ∧ i' = .int .i64 (p : Int) ∧ Hid (St w wr (.slice A n c) (.slice Y k sc) (.int .i64 o) (w.heap.size + 1 + 1 + 1) p ms ds (plc ms p) (plc ms p) (fun _ => none) es (w.heap.size + 1 + 1) P g) ∧ Hid (∀ q, q < p → E q = true)) (fun _ _ _ i' _ _ => n - (intOf i').toNat)
  case atStart => exact ⟨0, _, _, _, Nat.zero_le _, rfl, ST0, Lib.hid fun q hq => by omega⟩
  case round =>
    obtain ⟨p, es, P, g, hp, rfl, HST, HD⟩ := hrel
    have e0 : (0 : Int) ≤ (p : Int) := Int.natCast_nonneg _
    by_cases hlt : p < n
    · have e1 : (p : Int) < (n : Int) := by omega
      have hp1 : p + 1 ≤ n := by omega
      obtain ⟨As, cs, hR⟩ := (HA.out.below HST.out.bel).pcs
      have HR := Lib.hid hR
      obtain ⟨b1, o1, rfl, hb1, hc1⟩ := hR.out (by omega)
      obtain ⟨u0, u1⟩ := hc1 p hlt
      have BX := Lib.hid (below_box wr (.cells #[.string (N p), .slice (As p) (ms p) (cs p)] 164))
      have KX := Lib.hid (heap_alloc_new wr (.cells #[.string (N p), .slice (As p) (ms p) (cs p)] 164))
      have NX := Lib.hid (HR.out.inn p hlt)
      have C := Lib.hid (CV.out p hlt (As p) (cs p) _ ((NX.out.below BX.out (Nat.le_refl _)).more BX.out.size))
      unfold pcV at C
      have PNp := Lib.hid (PN3.out p hlt)
      have PBp := Lib.hid (PB.out p)
      have HDp := Lib.hid (fun h => step_all (p := fun j => E j) HD.out (k := p) h)
      have CRp := Lib.hid (fun h w h2 => CR.out p h (As p) (cs p) w h2)
      generalize E p = ep at C PNp PBp HDp
      generalize N p = np at u0 BX KX C
      clear hR hc1 HR hp HD
      go_wp2_with fail
      refine C.out.mono ?_
      rintro e w2 ⟨rfl, b2⟩
      have BX2 := Lib.hid (below_then BX.out b2)
      have KX2 := Lib.hid (blk_keep b2 KX.out)
      have ST2 := Lib.hid (HST.out.below BX2.out)
      clear b2 BX KX C u0 u1
      obtain ⟨r0, r1', r2', r3', r4'⟩ := blk5 ST2.out.res
      have rf := blk_free ST2.out.res
      cases ep
      · obtain ⟨HQ, hB⟩ := NOZ.out (PNp.out rfl) w2 ST2.out.bel ST2.out.res
        have HQ := Lib.hid HQ
        have HZ := Lib.hid hB
        go_wp2_with fail
        generalize ((((w2.setCell ⟨w.heap.size + 1, 0, none⟩ (.slice none 0 0)).setCell ⟨w.heap.size + 1, 1, none⟩ (.slice none 0 0)).setCell ⟨w.heap.size + 1, 2, none⟩ (.int .i64 0)).setCell ⟨w.heap.size + 1, 3, none⟩ (.slice none 0 0)).setCell ⟨w.heap.size + 1, 4, none⟩ (.map none) = wf at HQ HZ ⊢
        obtain ⟨z0, z1, z2, z3, z4⟩ := blk5 HZ.out
        exact bodyPost_ret (v := .tuple #[sfZ, .bool false]) (by simp [results, Try.results102, go_sem, z0, z1, z2, z3, z4]) rfl HQ.out
      obtain ⟨m1, m8⟩ := PBp.out (by first | rfl | trivial)
      have HDD := Lib.hid (HDp.out (by first | rfl | trivial))
      obtain ⟨x0, x1⟩ := blk2 KX2.out
      have CRq := Lib.hid (CRp.out ⟨m1, m8⟩ w2 ((NX.out.below BX2.out (Nat.le_refl _)).more BX2.out.size))
      clear r0 r1' r2' r3' r4' rf PNp PBp HDp CRp NX BX2
      go_wp2_with fail
      refine CRq.out.mono ?_
      rintro e w3 ⟨rg, cap, R, rfl, HRg⟩
      have hlow := HRg.out.low
      obtain ⟨cur, hrow, hcur⟩ := HRg.out.row
      have HROW := Lib.hid hrow
      have HCUR := Lib.hid hcur
      have ST3 := Lib.hid (ST2.out.ring (fun x hx => (mem_plc.1 hx).1) (fun x hx => (mem_plc.1 hx).1) HRg.out (by omega))
      rw [← plq_zero ms p] at ST3
      have HNE : Hid (some rg ≠ es.ownBlock) := Lib.hid fun e => by
        have := own_size ST2.out.sf.row e.symm
        omega
      have HPR : Hid (∀ q, addP P p R (p, q) = R q) := Lib.hid fun q => if_pos rfl
      generalize addP P p R = P2 at ST3 HPR
      clear hrow hcur HRg ST2 HST CRq x0 x1 KX2 hlow
      go_wp2_with fail
      go_loopw [8, 43] (fun _ i'' wr => ∃ (q : Nat) (es : Value) (g : Lit → Option Value), q ≤ ms p ∧ i'' = .int .i64 (q : Int) ∧ Hid (St w wr (.slice (some ⟨b1, o1, none⟩) n c) (.slice Y k sc) (.int .i64 o) (w.heap.size + 1 + 1 + 1) (p + 1) ms ds (plq ms p q) (plq ms p q) (fun _ => none) es (w.heap.size + 1 + 1) P2 g) ∧ Hid (wr.heap[rg]? = some (.cells cur 169 (0, 0))) ∧ Hid (some rg ≠ es.ownBlock)) (fun _ i'' _ => ms p - (intOf i'').toNat)
      case atStart => exact ⟨0, _, _, Nat.zero_le _, rfl, ST3, HROW, HNE⟩
      case round =>
        obtain ⟨q, es, g, hq, rfl, HST, HROW, HNE⟩ := hrel
        have e0 : (0 : Int) ≤ (q : Int) := Int.natCast_nonneg _
        by_cases hlq : q < ms p
        · have e1 : (q : Int) < ((ms p : Nat) : Int) := by omega
          have hq1 : q + 1 ≤ ms p := by omega
          obtain ⟨ea, el, ec, rfl⟩ := own_slice HST.out.sf.row
          have y0 := (cell_of_row _ _ q _ _ _ HROW.out).trans (HCUR.out q hlq)
          obtain ⟨x0, x1, x2, x3, x4⟩ := blk5 HST.out.box
          have lb := lt_of_heap HST.out.box
          have lr := lt_of_heap HROW.out
          have BX := Lib.hid (below_box wr (.cells #[.pointer (some ⟨R q, 0, none⟩)] 169))
          have STX := Lib.hid (HST.out.below BX.out)
          have HROWX := Lib.hid (blk_keep BX.out HROW.out)
          have hszX := STX.out.bel.size
          have RP := Lib.hid (HPR.out q)
          have LEN : (plq ms p q).length ≤ 80 := by
            have s1 := sum_le (p := p) (ms := ms) fun i hi => (PB.out i (HDD.out i (by omega))).2
            rw [plq_len]; omega
          have LENE : Hid ((plq ms p (q + 1)) = plq ms p q ++ [(p, q)]) := Lib.hid (plq_snoc ms p q)
          have HKY := Lib.hid (HST.out.sf.keys (fun x hx => by
            have h1 := mem_plc.1 (mem_plq (ms := ms) (p := p) (by omega) hx)
            have h2 := (PB.out x.1 (HDD.out x.1 h1.1)).2
            omega))
          have HWF : Hid (∀ y, y ∈ plq ms p q ∨ y = (p, q) → (Lit.int .i64 (y.1 : Int)).wf = true ∧ (Lit.int .i64 (y.2 : Int)).wf = true) := Lib.hid fun y hy => by
            have hy' : y.1 < p + 1 ∧ y.2 < ms y.1 := by
              rcases hy with hy | rfl
              · exact mem_plc.1 (mem_plq (by omega) hy)
              · exact ⟨by show p < p + 1; omega, hlq⟩
            have h2 := (PB.out y.1 (HDD.out y.1 hy'.1)).2
            exact ⟨WalkArith.wf_i64 (by omega), WalkArith.wf_i64 (by omega)⟩
          unfold ptr at y0
          go_wp2_with (at_builtin; refine wpList_append_own_at _ rfl _ _ 131 rfl w.heap.size 169 i0 _ 1 8 Try.underlying131 HI.out.1 HI.out.2.1 HI.out.2.2.1 HI.out.2.2.2 rfl (by decide) _ _ _ rfl STX.out.sf.row ⟨wr.heap.size, 0, none⟩ 1 1 [.pointer (some ⟨R q, 0, none⟩)] rfl rfl ?c1 ?c2 ?c3 ?c4 ?c5 ?_)
          case c1 =>
            intro j u hu
            rw [Addr.add_lit, Nat.zero_add]
            exact (cell_of_row _ _ j _ _ _ (heap_alloc_new wr _)).trans (by simpa using hu)
          case c2 => simp [Value.oneCell']
          case c3 => unfold maxLen; omega
          case c4 => omega
          case c5 => exact hszX
          intro v' w6 hown2 hgrow _ hat
          have hown3 : w6.ownsRow w.heap.size 169 1 v' ((plq ms p q).length + 1) (((plq ms p q).map fun x => ptr (P2 x)) ++ [ptr (P2 (p, q))]) := by rw [RP.out]; exact hown2
          have ST6 := Lib.hid (STX.out.push (x := (p, q)) hown3 hgrow)
          have HROW6 : Hid (w6.heap[rg]? = some (.cells cur 169 (0, 0))) := Lib.hid ((hgrow.block _ (lt_of_heap HROWX.out) HNE.out).trans HROWX.out)
          have HNE6 : Hid (some rg ≠ v'.ownBlock) := Lib.hid fun e => by
            rcases hat with h | h
            · exact HNE.out (e.trans h)
            · rw [h] at e
              have := Option.some.inj e
              try simp at this
              omega
          obtain ⟨va, vl, vc, rfl⟩ := own_slice hown3
          have k3 : w6.heap[w.heap.size + 1 + 1 + 1]? = some (suC (.slice (some ⟨b1, o1, none⟩) n c) (.slice Y k sc) (.int .i64 o) (.slice ea el ec) (.map (some (w.heap.size + 1 + 1)))) := (hgrow.block _ (lt_of_heap STX.out.box) (own_neT STX.out.sf.row STX.out.box t_sur.1)).trans STX.out.box
          obtain ⟨c0, c1, c2, c3, c4⟩ := blk5 k3
          have cf := blk_free k3
          have HROW7 : Hid ((w6.setCell ⟨w.heap.size + 1 + 1 + 1, 3, none⟩ (.slice va vl vc)).heap[rg]? = some (.cells cur 169 (0, 0))) := Lib.hid ((Below.heap_setCell _ _ _ _ fun e => by
            change rg = w.heap.size + 1 + 1 + 1 at e
            have := HROW6.out
            rw [e, k3] at this
            cases this).trans HROW6.out)
          clear hown2 hown3 hgrow hat x0 x1 x2 x3 x4 y0 STX HST HROW HROWX HROW6 BX
          go_wp2_with fail
          generalize w6.setCell ⟨w.heap.size + 1 + 1 + 1, 3, none⟩ (.slice va vl vc) = w7 at ST6 HROW7 ⊢
          clear c0 c1 c2 c3 c4 cf k3 lb lr
          obtain ⟨x0, x1, x2, x3, x4⟩ := blk5 ST6.out.box
          have EG := (ST6.out.sf.edg (p, q) (by show p < p + 1; omega) hlq).1
          rw [RP.out] at EG
          obtain ⟨g0, g1, g2, g3, g4⟩ := blk5 EG
          have hkey := key_ed (a := (p : Int)) (e := (q : Int)) (HWF.out (p, q) (.inr rfl)).1 (HWF.out (p, q) (.inr rfl)).2
          go_still_tail 7, (by kernel_rfl)
          change wpList _ _ _ _ _ w7.drew
          have MD : MapIs Try.prog 171 w7.drew (w.heap.size + 1 + 1) g := ST6.out.sf.map.of_block rfl
          go_wp2_with (at_mapUpdate; refine wp_store _ rfl _ _ _ 132 rfl 171 169 law_ed Try.underlying132 keyN 80 (w.heap.size + 1 + 1) g HKY.out (by decide) rfl MD _ _ (ek (p : Int) (q : Int)) rfl rfl hkey ?_)
          intro w8 hm8 hg8
          have STD := Lib.hid (ST6.out.below (Below.drew (Below.refl _ _)))
          have ST8 := Lib.hid (STD.out.enter (x := (p, q)) HWF.out (by rw [RP.out]; exact hm8) hg8)
          rw [← LENE.out] at ST8
          have HROW8 : Hid (w8.heap[rg]? = some (.cells cur 169 (0, 0))) := Lib.hid ((hg8.block _ (lt_of_heap HROW7.out) (fun e => by
            cases e
            exact map_ne ST6.out.sf.map HROW7.out rfl)).trans HROW7.out)
          clear x0 x1 x2 x3 x4 g0 g1 g2 g3 g4 EG MD hm8 hg8 ST6 STD HROW7
          go_wp2_with fail
          go_roundw
          case rel => exact ⟨q + 1, _, _, hq1, by go_num, ST8, HROW8, HNE6⟩
          case measure => simp [intOf]; omega
        · obtain rfl : q = ms p := by omega
          have e1 : ¬ ((ms p : Nat) : Int) < ((ms p : Nat) : Int) := by omega
          rw [plq_all] at HST
          go_wp2_with fail
          go_roundw
          case rel => exact ⟨p + 1, _, _, _, hp1, by go_num, HST, HDD⟩
          case measure => simp [intOf]; omega
    · obtain rfl : p = n := by omega
      have e1 : ¬ (p : Int) < (p : Int) := by omega
      obtain ⟨a0, a1, a2⟩ := blk3 HST.out.arg
      have PZZ := Lib.hid (PYZ.out HD.out)
      have hm8 : Hid (∀ i, i < p → ms i ≤ 8) := Lib.hid fun i hi => (PB.out i (HD.out i hi)).2
      clear PYZ PN3 CV CR HI hp
      go_wp2_with fail
      clear a0 a1 a2
      go_loopw [10, 65] (fun _ i' wr => ∃ (j : Nat), j ≤ k ∧ i' = .int .i64 (j : Int) ∧ Hid (St w wr (.slice A p c) (.slice Y k sc) (.int .i64 o) (w.heap.size + 1 + 1 + 1) p ms ds (plc ms p) (plc ms p) (mate S j) es (w.heap.size + 1 + 1) P g) ∧ Hid (∀ q, q < j → SwP p ms S q)) (fun _ i' _ => k - (intOf i').toNat)
      case atStart => exact ⟨0, Nat.zero_le _, rfl, HST, Lib.hid fun q hq => by omega⟩
      case round =>
        obtain ⟨j, hj, rfl, HST, HS⟩ := hrel
        have e0 : (0 : Int) ≤ (j : Int) := Int.natCast_nonneg _
        by_cases hlt : j < k
        · have e1 : (j : Int) < (k : Int) := by omega
          have hj1 : j + 1 ≤ k := by omega
          obtain ⟨b1, o1, rfl, hb1, hc1⟩ := (HA.out.below HST.out.bel).seams (by omega)
          obtain ⟨u0, u1, u2, u3⟩ := four_cells hc1 hlt
          have BX := Lib.hid (below_box wr (.cells #[.int .i64 (S (j * 4)), .int .i64 (S (j * 4 + 1)), .int .i64 (S (j * 4 + 2)), .int .i64 (S (j * 4 + 3))] 162))
          have STX := Lib.hid (HST.out.below BX.out)
          have C := Lib.hid (sew A p c (some ⟨b1, o1, none⟩) k sc o ms ds S j es w.heap.size (w.heap.size + 1 + 1) P g (plc ms p) hn10 hm8.out (fun i hi => HW.out (j * 4 + i) (by omega)) _ STX.out.bel.size STX.out.sf)
          unfold sfV seV at C
          obtain ⟨x0, x1, x2, x3, x4⟩ := blk5 HST.out.box
          have lb := lt_of_heap HST.out.box
          have HSN : Hid (SwP p ms S j → swC p ms S j = 0 ∧ swM p ms S j = mate S (j + 1)) := Lib.hid fun h => by unfold swC swM; rw [if_pos h, if_pos h]; exact ⟨rfl, rfl⟩
          have HSX : Hid (¬ SwP p ms S j → ¬ swC p ms S j = 0) := Lib.hid fun h => by unfold swC; rw [if_neg h]; split <;> decide
          have PNj := Lib.hid (PN4.out j hlt)
          have HSj : Hid (SwP p ms S j → ∀ q, q < j + 1 → SwP p ms S q) := Lib.hid fun h q hq => by
            by_cases e : q = j
            · rw [e]; exact h
            · exact HS.out q (by omega)
          generalize swC p ms S j = cd at C HSN HSX
          generalize swM p ms S j = MM at C HSN
          generalize SwP p ms S j = SJ at HSN HSX PNj HSj
          generalize S (j * 4) = p0 at u0 BX STX C
          generalize S (j * 4 + 1) = p1 at u1 BX STX C
          generalize S (j * 4 + 2) = p2 at u2 BX STX C
          generalize S (j * 4 + 3) = p3 at u3 BX STX C
          clear hc1 hj HS HST
          go_wp2_with fail
          refine C.out.mono ?_
          rintro e w2 ⟨rfl, b2, hk2, hs2⟩
          have ST2 := Lib.hid (STX.out.sewn b2 hk2.out hs2.out)
          clear b2 hk2 hs2 C x0 x1 x2 x3 x4 u0 u1 u2 u3 STX BX
          by_cases hsj : SJ
          · obtain ⟨rfl, rfl⟩ := HSN.out hsj
            have HSS := Lib.hid (HSj.out hsj)
            clear HSN HSX PNj HSj
            go_wp2_with fail
            go_roundw
            case rel => exact ⟨j + 1, hj1, by go_num, ST2, HSS⟩
            case measure => simp [intOf]; omega
          · have hne : (cd != 0) = true := by simpa using HSX.out hsj
            have hne2 : (cd == 0) = false := by simpa using HSX.out hsj
            obtain ⟨HQ, hB⟩ := NOZ.out (PNj.out hsj) w2 ST2.out.bel ST2.out.res
            have HQ := Lib.hid HQ
            have HZ := Lib.hid hB
            obtain ⟨r0, r1', r2', r3', r4'⟩ := blk5 ST2.out.res
            have rf := blk_free ST2.out.res
            clear HSN HSX PNj HSj
            go_wp2_with fail
            generalize ((((w2.setCell ⟨w.heap.size + 1, 0, none⟩ (.slice none 0 0)).setCell ⟨w.heap.size + 1, 1, none⟩ (.slice none 0 0)).setCell ⟨w.heap.size + 1, 2, none⟩ (.int .i64 0)).setCell ⟨w.heap.size + 1, 3, none⟩ (.slice none 0 0)).setCell ⟨w.heap.size + 1, 4, none⟩ (.map none) = wf at HQ HZ ⊢
            obtain ⟨z0, z1, z2, z3, z4⟩ := blk5 HZ.out
            exact bodyPost_ret (v := .tuple #[sfZ, .bool false]) (by simp [results, Try.results102, go_sem, z0, z1, z2, z3, z4]) rfl HQ.out
        · obtain rfl : j = k := by omega
          have e1 : ¬ (j : Int) < (j : Int) := by omega
          obtain ⟨ea, el, ec, rfl⟩ := own_slice HST.out.sf.row
          obtain ⟨x0, x1, x2, x3, x4⟩ := blk5 HST.out.box
          obtain ⟨r0, r1', r2', r3', r4'⟩ := blk5 HST.out.res
          have rf := blk_free HST.out.res
          have HQ := Lib.hid (QY.out (PZZ.out HS.out) _ (.slice ea el ec) (w.heap.size + 1 + 1) P g (fin_below (v0 := .slice A p c) (v1 := .slice Y j sc) (v2 := .int .i64 o) (v3 := .slice ea el ec) (v4 := .map (some (w.heap.size + 1 + 1))) HST.out.bel (show w.heap.size ≤ w.heap.size + 1 by omega)) (fin_surf HST.out.sf HST.out.res))
          have HZ := Lib.hid (fin (v0 := .slice A p c) (v1 := .slice Y j sc) (v2 := .int .i64 o) (v3 := .slice ea el ec) (v4 := .map (some (w.heap.size + 1 + 1))) HST.out.res)
          have lb := lt_of_heap HST.out.box
          clear hj HS HST QN QY NOZ PZZ
          go_wp2_with fail
          generalize ((((wr.setCell ⟨w.heap.size + 1, 0, none⟩ (.slice A p c)).setCell ⟨w.heap.size + 1, 1, none⟩ (.slice Y j sc)).setCell ⟨w.heap.size + 1, 2, none⟩ (.int .i64 o)).setCell ⟨w.heap.size + 1, 3, none⟩ (.slice ea el ec)).setCell ⟨w.heap.size + 1, 4, none⟩ (.map (some (w.heap.size + 1 + 1))) = wf at HQ HZ ⊢
          obtain ⟨z0, z1, z2, z3, z4⟩ := blk5 HZ.out
          exact bodyPost_ret (v := .tuple #[sfV A p c Y j sc o (.slice ea el ec) (w.heap.size + 1 + 1), .bool true]) (by simp [results, Try.results102, go_sem, z0, z1, z2, z3, z4]) rfl HQ.out
end Go.Proofs.Ytpmmfalpcooenab.Zd
