/- The program's union of places: leaders, joins, first ones. -/
import Derived.Test.YtnojnikophpnoaaUgLib
import Derived.Test.YtnojnikophpnoaaUcLib
import Derived.Deep.RegionHeld3
import Derived.Laws.StructEq
import Derived.RegionTactic
namespace Go.Proofs.Ytnojnikophpnoaa.Ud
set_option linter.unusedVariables false
open Go.RowKit Go.Maps Ft Is Ge Qb Pt Pv Za Mm Zb Uf Ug Uc

abbrev vE (x : Nat) : Value := .agg #[.int .i64 ((x : Int) / 8), .int .i64 ((x : Int) % 8)]
theorem c8 (x : Nat) : ((x / 8 : Nat) : Int) = (x : Int) / 8 ∧ ((x % 8 : Nat) : Int) = (x : Int) % 8 := by omega
theorem wf8 {x : Nat} (h : x < 80) : (Lit.int .i64 (x : Int)).wf = true := WalkArith.wf_i64 (by omega)
theorem keyE {x : Nat} (h : x < 80) : keyOf Try.prog 113 (vE x) = some (keyN x) := by
  have h1 : x / 8 < 80 := by omega
  have h2 : x % 8 < 80 := by omega
  have := key_ed (wf8 h1) (wf8 h2)
  rw [(c8 x).1, (c8 x).2] at this
  unfold keyN ekx
  rw [(c8 x).1, (c8 x).2]
  exact this
theorem injE (x y : Nat) (hx : x < 80) (hy : y < 80) (h : keyN x = keyN y) : x = y := by
  have a1 : x / 8 < 80 := by omega
  have a2 : x % 8 < 80 := by omega
  have b1 : y / 8 < 80 := by omega
  have b2 : y % 8 < 80 := by omega
  obtain ⟨h1, h2⟩ := ek_inj (wf8 a1) (wf8 a2) (wf8 b1) (wf8 b2) h
  omega
theorem zeroE (w : World) : (zeroValue 113).run Try.prog w = .ok (vE 0) w := by kernel_rfl
abbrev StE (w : World) (b : Nat) (l : Nat → Nat) : Prop := Sta Try.prog 113 vE keyN 80 w b l
abbrev boxE (x : Nat) : Obj := .cells #[.int .i64 ((x : Int) / 8), .int .i64 ((x : Int) % 8)] 113
def rdE (w : World) (b : Nat) : Nat := 8 * (intOf ((w.cell? ⟨b, 0, none⟩).getD undef)).toNat + (intOf ((w.cell? ⟨b, 1, none⟩).getD undef)).toNat
theorem rdE_of {w : World} {b z : Nat} (h : w.heap[b]? = some (boxE z)) : rdE w b = z := by
  obtain ⟨h0, h1⟩ := Pt.blk2 h
  unfold rdE
  rw [h0, h1]
  show 8 * ((z : Int) / 8).toNat + ((z : Int) % 8).toNat = z
  omega
theorem heap_set2 {w : World} {g : Nat} {t : TypeId} {a0 a1 : Value} (h : w.heap[g]? = some (.cells #[a0, a1] t (0, 0))) (u v : Value) : ((w.setCell ⟨g, 0, none⟩ u).setCell ⟨g, 1, none⟩ v).heap[g]? = some (.cells #[u, v] t (0, 0)) := by
  simp [World.setCell, Array.getElem?_modify, h]
set_option maxRecDepth 100000 in
set_option maxHeartbeats 2000000 in
theorem leaderE (w : World) (b : Nat) (l : Nat → Nat) (h : StE w b l) (x : Nat) (hx : x < 80) :
    Calls Try.prog 120 #[.map (some b), vE x] w fun e w' => e = .returned (vE (l x)) ∧ Below w.heap.size w w' := by
  obtain ⟨u, d, ⟨g, hm, h1, h2⟩, hl, h3, _⟩ := h
  have HM := Lib.hid hm
  have HN : Hid (∀ z, z < 80 → u z = none → g (keyN z) = none ∧ l z = z) := Lib.hid fun z hz hu => ⟨by rw [h1 z hz, hu]; rfl, hl.top hu⟩
  have HS : Hid (∀ z y, z < 80 → u z = some y → g (keyN z) = some (vE y) ∧ y < 80 ∧ l y = l z ∧ d y < d z) := Lib.hid fun z y hz hu => ⟨by rw [h1 z hz, hu]; rfl, h3 _ _ hu, (hl.step hu).1, (hl.step hu).2⟩
  have hb := hm.lt
  clear hm h1 h2 hl h3
  have B1 := Lib.hid (below_box w (boxE x))
  have K1 := Lib.hid (heap_alloc_new w (boxE x))
  unfold vE
  go_enter Try.func120, Try.ntmps120
  have K1' := Lib.hid (Ge.blk_keep (below_box (w.alloc (boxE x)) (.cells #[.int .i64 0, .int .i64 0] 113)) K1.out)
  have K2 := Lib.hid (heap_alloc_new (w.alloc (boxE x)) (.cells #[.int .i64 0, .int .i64 0] 113))
  have B2 := Lib.hid (below_then B1.out (below_box (w.alloc (boxE x)) (.cells #[.int .i64 0, .int .i64 0] 113)))
  have s2 : Hid (((w.alloc (boxE x)).alloc (.cells #[.int .i64 0, .int .i64 0] 113)).heap.size = w.heap.size + 2 ∧ (w.alloc (boxE x)).heap.size = w.heap.size + 1) := Lib.hid (by simp)
  rw [s2.out.2] at K2
  go_wp2_with fail
  generalize (w.alloc _).alloc _ = w2 at K1' K2 B2 s2 ⊢
  have s2' := s2.out.1
  clear s2 B1 K1
  go_loopw [5, 6, 7] (fun _ _ _ wr => ∃ z : Nat, z < 80 ∧ l z = l x ∧ Hid (wr.heap[w.heap.size]? = some (boxE z)) ∧ Hid (wr.heap[w.heap.size + 1]? = some (.cells #[.int .i64 0, .int .i64 0] 113 (0, 0))) ∧ Hid (Below w.heap.size w wr)) (fun _ _ _ wr => d (rdE wr w.heap.size))
  case atStart => exact ⟨x, hx, rfl, K1', K2, B2⟩
  case round =>
    clear K1' K2 B2 s2'
    obtain ⟨z, hz, hlz, KX, KR, HB⟩ := hrel
    have HR := Lib.hid (rdE_of KX.out)
    obtain ⟨x0, x1⟩ := Pt.blk2 KX.out
    obtain ⟨r0, r1⟩ := Pt.blk2 KR.out
    have xf := blk_free KX.out
    have rf := blk_free KR.out
    have xl := lt_of_heap KX.out
    have rl := lt_of_heap KR.out
    have HMr := Lib.hid (HM.out.below HB.out hb)
    cases hu : u z with
    | none =>
      obtain ⟨q1, q2⟩ := HN.out z hz hu
      rw [q2] at hlz
      subst hlz
      go_wp2_with (at_lookup; refine wp_look_ok _ rfl _ _ 134 rfl 113 113 law_ed Try.underlying134 (zeroE _) b g rfl HMr.out _ (keyN (l x)) rfl (keyE hz) (vE 0) false (by rw [q1]; rfl) (by rw [q1]; rfl) ?_)
      have HE := Lib.hid (below_box wr (.cells #[.int .i64 0, .int .i64 0] 113))
      exact bodyPost_ret (v := vE (l x)) (by simp [results, Try.results120, go_sem, r0, r1, rl]) rfl ⟨rfl, ((HB.out.setCell (by simp) _).setCell (by simp) _).alloc (by have := HB.out.size; simpa using this) _⟩
    | some y =>
      obtain ⟨q1, q2, q3, q4⟩ := HS.out z y hz hu
      go_wp2_with (at_lookup; refine wp_look_ok _ rfl _ _ 134 rfl 113 113 law_ed Try.underlying134 (zeroE _) b g rfl HMr.out _ (keyN z) rfl (keyE hz) (vE y) true (by rw [q1]; rfl) (by rw [q1]; rfl) ?_)
      have KX' : Hid ((((wr.setCell ⟨w.heap.size, 0, none⟩ (.int .i64 ((y : Int) / 8))).setCell ⟨w.heap.size, 1, none⟩ (.int .i64 ((y : Int) % 8))).alloc (boxE y)).heap[w.heap.size]? = some (boxE y)) := Lib.hid (Ge.blk_keep (below_box _ _) (heap_set2 KX.out _ _))
      have KR' : Hid ((((wr.setCell ⟨w.heap.size, 0, none⟩ (.int .i64 ((y : Int) / 8))).setCell ⟨w.heap.size, 1, none⟩ (.int .i64 ((y : Int) % 8))).alloc (boxE y)).heap[w.heap.size + 1]? = some (.cells #[.int .i64 0, .int .i64 0] 113 (0, 0))) := Lib.hid (Ge.blk_keep (below_box _ _) ((Below.heap_setCell _ _ _ _ (by show w.heap.size + 1 ≠ w.heap.size; omega)).trans ((Below.heap_setCell _ _ _ _ (by show w.heap.size + 1 ≠ w.heap.size; omega)).trans KR.out)))
      have HB' := Lib.hid (((HB.out.setCell (p := ⟨w.heap.size, 0, none⟩) (by simp) (.int .i64 ((y : Int) / 8))).setCell (p := ⟨w.heap.size, 1, none⟩) (by simp) (.int .i64 ((y : Int) % 8))).alloc (by have := HB.out.size; simpa using this) (boxE y))
      have HR' := Lib.hid (rdE_of KX'.out)
      go_roundw
      case rel => exact ⟨y, q2, by rw [q3, hlz], KX', KR', HB'⟩
      case measure => rw [HR.out, HR'.out]; exact q4
/-- Two boxes are written. -/
theorem boxE_two {w : World} {p q x y : Nat} (hp : w.heap[p]? = some (boxE x)) (hq : w.heap[q]? = some (boxE y)) (hne : p ≠ q) (a c : Nat) :
    ((((w.setCell ⟨p, 0, none⟩ (.int .i64 ((a : Int) / 8))).setCell ⟨p, 1, none⟩ (.int .i64 ((a : Int) % 8))).setCell ⟨q, 0, none⟩ (.int .i64 ((c : Int) / 8))).setCell ⟨q, 1, none⟩ (.int .i64 ((c : Int) % 8))).heap[p]? = some (boxE a)
    ∧ ((((w.setCell ⟨p, 0, none⟩ (.int .i64 ((a : Int) / 8))).setCell ⟨p, 1, none⟩ (.int .i64 ((a : Int) % 8))).setCell ⟨q, 0, none⟩ (.int .i64 ((c : Int) / 8))).setCell ⟨q, 1, none⟩ (.int .i64 ((c : Int) % 8))).heap[q]? = some (boxE c) := by
  refine ⟨?_, ?_⟩
  · rw [Below.heap_setCell _ _ _ _ (by exact hne), Below.heap_setCell _ _ _ _ (by exact hne)]
    exact heap_set2 hp _ _
  · refine heap_set2 (a0 := .int .i64 ((y : Int) / 8)) (a1 := .int .i64 ((y : Int) % 8)) ?_ _ _
    rw [Below.heap_setCell _ _ _ _ (by exact Ne.symm hne), Below.heap_setCell _ _ _ _ (by exact Ne.symm hne)]
    exact hq
theorem guardE : Try.prog.eqGuardType Try.prog.depth 113 = false := by kernel_rfl
set_option maxHeartbeats 1000000 in
theorem neqE (a0 a1 b0 b1 : Int) (w : World) : (binOp .neq 113 (.agg #[.int .i64 a0, .int .i64 a1]) (.agg #[.int .i64 b0, .int .i64 b1])).run Try.prog w = .ok (.bool (!(a0 == b0 && a1 == b1))) w := by
  have hS : Try.prog.underlying 113 = some (.struct (Try.prog.fieldsOf 113)) := by kernel_rfl
  have hp : Try.prog.stoodInHeld 113 = false := by kernel_rfl
  rw [run_neq_struct, show (10000 : Nat) = 9999 + 1 from rfl, run_equalIn_agg w 9999 113 _ _ hS hp]
  simp only [Program.fieldsOf, Try.underlying113]
  go_simp
  by_cases h1 : a0 = b0
  · by_cases h2 : a1 = b1 <;> simp [h1, h2]
  · simp [h1]
theorem boxE_keep {w w' : World} {q z : Nat} (h : w.heap[q]? = some (boxE z)) (hb : Below w.heap.size w w') : w'.cell? ⟨q, 0, none⟩ = some (.int .i64 ((z : Int) / 8)) ∧ w'.cell? ⟨q, 1, none⟩ = some (.int .i64 ((z : Int) % 8)) ∧ (∀ i, w'.frozen? ⟨q, i, none⟩ = false) ∧ q < w'.heap.size :=
  ⟨(Pt.blk2 (Ge.blk_keep hb h)).1, (Pt.blk2 (Ge.blk_keep hb h)).2, blk_free (Ge.blk_keep hb h), lt_of_heap (Ge.blk_keep hb h)⟩
set_option maxRecDepth 100000 in
set_option maxHeartbeats 2000000 in
theorem joinE (w : World) (b : Nat) (l : Nat → Nat) (h : StE w b l) (x y : Nat) (hx : x < 80) (hy : y < 80) :
    Calls Try.prog 110 #[.map (some b), vE x, vE y] w fun e w' => e = .returned (.tuple #[]) ∧ StE w' b (fun z => if l z = l x then l y else l z) ∧ Bw.But b w w' := by
  have C1 := Lib.hid (fun w' h => leaderE w' b l h x hx)
  have C2 := Lib.hid (fun w' h => leaderE w' b l h y hy)
  have hST := Lib.hid h
  obtain ⟨u, d, ⟨g, hm, h1, h2⟩, hl, h3, h4⟩ := h
  have q1 := h4 x hx
  have q2 := h4 y hy
  have HM := Lib.hid hm
  have HK : Hid (∀ l, (g l).isSome = true → ∃ j, j < 80 ∧ l = keyN j) := Lib.hid h2
  have hb := hm.lt
  have HSN : Hid (l x = l y → (fun z => if l z = l x then l y else l z) = l) := Lib.hid fun e => funext fun z => by
    split
    · omega
    · rfl
  have HSY : Hid (l x ≠ l y → ∀ w', MapIs Try.prog 113 w' b (upd g (keyN (l x)) (vE (l y))) → StE w' b (fun z => if l z = l x then l y else l z)) := Lib.hid fun e w' hm' =>
      ⟨_, _, Uni.upd injE h1 h2 q1 hm', hl.join x y e, fun a c hac => by
        split at hac
        · injection hac with hac; omega
        · exact h3 _ _ hac, fun z hz => by
        show (if l z = l x then l y else l z) < 80
        split
        · exact q2
        · exact h4 z hz⟩
  clear hm h1 h2 hl h3 h4
  generalize (fun z => if l z = l x then l y else l z) = l' at HSN HSY ⊢
  have B1 := Lib.hid (below_then (below_box w (boxE x)) (below_box (w.alloc (boxE x)) (boxE y)))
  have K1 := Lib.hid (Ge.blk_keep (below_box (w.alloc (boxE x)) (boxE y)) (heap_alloc_new w (boxE x)))
  have K2 := Lib.hid (heap_alloc_new (w.alloc (boxE x)) (boxE y))
  have s2 : Hid ((w.alloc (boxE x)).heap.size = w.heap.size + 1) := Lib.hid (by simp)
  rw [s2.out] at K2
  unfold vE
  unfold vE at C1 C2
  go_enter Try.func110, Try.ntmps110
  go_upto_region 1 with fail
  generalize hw2 : (w.alloc _).alloc _ = w2 at B1 K1 K2 ⊢
  clear hw2 s2
  have hST2 := Lib.hid (hST.out.below B1.out)
  obtain ⟨x0, x1, xf, xl⟩ := boxE_keep K1.out (Below.refl _ _)
  obtain ⟨y0, y1, yf, yl⟩ := boxE_keep K2.out (Below.refl _ _)
  have BN := Below.refl w2.heap.size w2
  go_region_with (go_at_call 120; first | ((with_reducible refine (C1.out _ (hST2.out.below ?_)).mono ?_); (focus (repeat (first | (with_reducible exact Below.refl _ _) | (with_reducible exact BN) | refine Below.drew ?_))); rintro e wa ⟨rfl, ba⟩; have BN := below_then (w0 := w2) ?_ ba; rotate_left; (focus (repeat (first | (with_reducible exact Below.refl _ _) | (with_reducible exact BN) | refine Below.drew ?_))); obtain ⟨x0, x1, xf, xl⟩ := boxE_keep K1.out BN; obtain ⟨y0, y1, yf, yl⟩ := boxE_keep K2.out BN) | ((with_reducible refine (C2.out _ (hST2.out.below ?_)).mono ?_); (focus (repeat (first | (with_reducible exact Below.refl _ _) | (with_reducible exact BN) | refine Below.drew ?_))); rintro e wa ⟨rfl, ba⟩; have BN := below_then (w0 := w2) ?_ ba; rotate_left; (focus (repeat (first | (with_reducible exact Below.refl _ _) | (with_reducible exact BN) | refine Below.drew ?_))); obtain ⟨x0, x1, xf, xl⟩ := boxE_keep K1.out BN; obtain ⟨y0, y1, yf, yl⟩ := boxE_keep K2.out BN))
  all_goals
    have KXY := Lib.hid (boxE_two (Ge.blk_keep BN K1.out) (Ge.blk_keep BN K2.out) (by omega : w.heap.size ≠ w.heap.size + 1) (l x) (l y))
    have HB3 := Lib.hid (((((B1.out.trans (BN.mono B1.out.size)).setCell (p := ⟨w.heap.size, 0, none⟩) (by simp) (.int .i64 ((l x : Int) / 8))).setCell (p := ⟨w.heap.size, 1, none⟩) (by simp) (.int .i64 ((l x : Int) % 8))).setCell (p := ⟨w.heap.size + 1, 0, none⟩) (by simp) (.int .i64 ((l y : Int) / 8))).setCell (p := ⟨w.heap.size + 1, 1, none⟩) (by simp) (.int .i64 ((l y : Int) % 8)))
    have hq := fun W => neqE ((l x : Int) / 8) ((l x : Int) % 8) ((l y : Int) / 8) ((l y : Int) % 8) W
    clear x0 x1 xf xl y0 y1 yf yl BN
    go_upto_region 2 with fail
    generalize (((wa.setCell _ _).setCell _ _).setCell _ _).setCell _ _ = W at KXY HB3 ⊢
    clear K1 K2 B1 hST2 C1 C2
    obtain ⟨x0, x1, _, _⟩ := boxE_keep KXY.out.1 (Below.refl _ _)
    obtain ⟨y0, y1, _, _⟩ := boxE_keep KXY.out.2 (Below.refl _ _)
    have HM3 := Lib.hid (HM.out.below HB3.out hb)
    by_cases e : l x = l y
    · have HS3 := Lib.hid (hST.out.below HB3.out)
      rw [← HSN.out e] at HS3
      have hB3 := Lib.hid (Bw.But.of_below (g := b) HB3.out)
      have hq' : ∀ W, (binOp .neq 113 (.agg #[.int .i64 ((l x : Int) / 8), .int .i64 ((l x : Int) % 8)]) (.agg #[.int .i64 ((l y : Int) / 8), .int .i64 ((l y : Int) % 8)])).run Try.prog W = .ok (.bool false) W := fun W => by rw [hq W, e]; simp
      clear hq
      go_wp2_with fail
      go_end0
      exact ⟨rfl, HS3.out, hB3.out⟩
    · have hq' : ∀ W, (binOp .neq 113 (.agg #[.int .i64 ((l x : Int) / 8), .int .i64 ((l x : Int) % 8)]) (.agg #[.int .i64 ((l y : Int) / 8), .int .i64 ((l y : Int) % 8)])).run Try.prog W = .ok (.bool true) W := fun W => by
        rw [hq W]
        have : ((l x : Int) / 8 == (l y : Int) / 8 && (l x : Int) % 8 == (l y : Int) % 8) = false := by
          rw [Bool.and_eq_false_iff]
          by_cases e1 : (l x : Int) / 8 = (l y : Int) / 8
          · exact .inr (by simpa using (by omega : ¬ (l x : Int) % 8 = (l y : Int) % 8))
          · exact .inl (by simpa using e1)
        rw [this]; rfl
      clear hq
      go_wp2_with (at_mapUpdate; refine wp_store _ rfl _ _ _ 134 rfl 113 113 law_ed Try.underlying134 keyN 80 b g HK.out (by decide) rfl HM3.out _ _ (keyN (l x)) rfl rfl (keyE q1) ?_)
      intro w2 hm2 hg2
      have HZ := Lib.hid (HSY.out e w2 hm2)
      have HB : Hid (Bw.But b w w2) := Lib.hid ((Bw.But.of_below (g := b) HB3.out).trans ⟨hg2.os, hg2.tape, hg2.output, hg2.size, fun k hk hn => hg2.block k hk fun e => hn (by injection e)⟩)
      clear hm2 hg2
      go_wp2_with fail
      go_end0
      exact ⟨rfl, HZ.out, HB.out⟩
/-- A list of places, to be read. -/
def PlR (w : World) (A : Option Addr) (n : Nat) (x : Nat → Nat) : Prop := 0 < n → ∃ b off, A = some ⟨b, off, none⟩ ∧ b < w.heap.size ∧ ∀ i, i < n → w.cell? ⟨b, off + i * 2, none⟩ = some (.int .i64 ((x i : Int) / 8)) ∧ w.cell? ⟨b, off + i * 2 + 1, none⟩ = some (.int .i64 ((x i : Int) % 8))
theorem PlR.below {w w' : World} {A : Option Addr} {n : Nat} {x : Nat → Nat} (h : PlR w A n x) (hb : Below w.heap.size w w') : PlR w' A n x := fun hn => by
  obtain ⟨b, off, e, h1, h2⟩ := h hn
  exact ⟨b, off, e, Nat.lt_of_lt_of_le h1 hb.size, fun i hi => ⟨(hb.cell (p := ⟨b, off + i * 2, none⟩) h1).trans (h2 i hi).1, (hb.cell (p := ⟨b, off + i * 2 + 1, none⟩) h1).trans (h2 i hi).2⟩⟩
/-- What the map of first indices holds. -/
def KnE (g : Lit → Option Value) (l x : Nat → Nat) (i : Nat) : Prop := (∀ z, z < 80 → g (keyN z) = (fo l x i z).map vI) ∧ ∀ q, (g q).isSome = true → ∃ z, z < 80 ∧ q = keyN z
theorem KnE.step_some {g : Lit → Option Value} {l x : Nat → Nat} {i : Nat} (h : KnE g l x i) {q : Nat} (hq : fo l x i (l (x i)) = some q) : KnE g l x (i + 1) :=
  ⟨fun z hz => by
    rw [h.1 z hz, fo]
    cases hf : fo l x i z with
    | some p => rfl
    | none =>
      dsimp only
      rw [if_neg fun e => by rw [← e, hq] at hf; cases hf], h.2⟩
theorem KnE.step_none {g : Lit → Option Value} {l x : Nat → Nat} {i : Nat} (h : KnE g l x i) (hl : l (x i) < 80) (hq : fo l x i (l (x i)) = none) : KnE (upd g (keyN (l (x i))) (vI i)) l x (i + 1) :=
  ⟨fun z hz => by
    rw [fo]
    by_cases e : z = l (x i)
    · subst e
      rw [upd_same, hq]
      dsimp only
      rw [if_pos rfl]; rfl
    · rw [upd_other _ _ (fun q => e (injE _ _ hz hl q)), h.1 z hz]
      cases hf : fo l x i z with
      | some p => rfl
      | none =>
        dsimp only
        rw [if_neg (Ne.symm e)], fun q hs => by
    by_cases e : q = keyN (l (x i))
    · exact ⟨_, hl, e⟩
    · rw [upd_other _ _ e] at hs; exact h.2 q hs⟩
set_option maxRecDepth 100000 in
set_option maxHeartbeats 4000000 in
theorem firstsE (w : World) (b : Nat) (l : Nat → Nat) (h : StE w b l) (A : Option Addr) (n c : Nat) (x : Nat → Nat) (hn : n ≤ 80) (hx : ∀ i, i < n → x i < 80) (hA : PlR w A n x) :
    Calls Try.prog 111 #[.map (some b), .slice A n c] w (Sdq.OneAt n (fun i => (fi l x i : Int)) w) := by
  have HSt := Lib.hid h
  have HL : Hid (∀ x, x < 80 → l x < 80) := Lib.hid (by obtain ⟨_, _, _, _, _, h4⟩ := h; exact h4)
  have HX := Lib.hid hx
  have HA := Lib.hid hA
  have CL := Lib.hid (fun w h x hx => leaderE w b l h x hx)
  obtain ⟨i0, hi0, hz0, hz1, hz2⟩ := info_parts info_int
  have HI := Lib.hid (And.intro hi0 (And.intro hz0 (And.intro hz1 hz2)))
  have HMK : Hid (∀ w : World, (Instr.makeSlice 36 (.int .i64 0) (.int .i64 (n : Int))).run Try.prog w = .ok (.slice (some ⟨w.heap.size, 0, none⟩) 0 n) (w.alloc (.cells (Go.madeCells (Value.int .i64 0).cells (n * 1)) 2))) := Lib.hid fun w => by
    have := run_make w _ _ i0 _ Try.underlying36 hi0 hz0 .i64 .i64 0 n (by omega) (by omega) (by rw [hz2]; omega) (by omega)
    rw [hz1] at this
    simpa using this
  have HU : Hid (∀ j, upto (fun i => (fi l x i : Int)) (j + 1) = upto (fun i => (fi l x i : Int)) j ++ [.int .i64 (fi l x j : Int)]) := Lib.hid fun j => upto_snoc _ _
  have HU0 : Hid (upto (fun i => (fi l x i : Int)) 0 = []) := Lib.hid rfl
  have HF : Hid (∀ v B w', w'.ownsRow B 2 1 v n (upto (fun i => (fi l x i : Int)) n) → w.heap.size ≤ B → Below w.heap.size w w' → Sdq.OneAt n (fun i => (fi l x i : Int)) w (.returned v) w') := Lib.hid fun v B w' h1 h2 h3 => one_of h1 h2 h3
  clear h hx hA hi0 hz0 hz1 hz2
  generalize Sdq.OneAt n (fun i => (fi l x i : Int)) w = Q at HF ⊢
  generalize upto (fun i => (fi l x i : Int)) = UP at HU HU0 HF
  have hmm := run_makeMap (P := Try.prog) 143 w
  have B1 := Lib.hid (below_box w (.map #[] 0))
  have M1 := Lib.hid (MapIs.made w Try.prog 113)
  have hmk := HMK.out (w.alloc (.map #[] 0))
  go_enter Try.func111, Try.ntmps111
  go_upto_region 2 with fail
  have hs1 : Hid ((w.alloc (.map #[] 0)).heap.size = w.heap.size + 1) := Lib.hid (by simp)
  generalize w.alloc (.map #[] 0) = w1 at B1 M1 hmk hs1 ⊢
  clear hmm
  go_wp2_with fail
  clear hmk HMK
  have B0 := Lib.hid (below_then B1.out (below_box w1 (.cells (Go.madeCells #[Value.int .i64 0] n) 2)))
  have M0 := Lib.hid (M1.out.below (below_box w1 (.cells (Go.madeCells #[Value.int .i64 0] n) 2)) (by have := hs1.out; omega))
  have O0 : Hid ((w1.alloc (.cells (Go.madeCells #[Value.int .i64 0] n) 2)).ownsRow w1.heap.size 2 1 (.slice (some ⟨w1.heap.size, 0, none⟩) 0 n) 0 (UP 0)) := Lib.hid (by
    rw [HU0.out]
    exact ⟨rfl, .inr ⟨_, n, _, rfl, Nat.le_refl _, heap_alloc_new _ _, by omega, by unfold maxLen; omega, by rw [size_madeCells]; omega, rfl⟩⟩)
  have K0 : Hid (KnE (fun _ => none) l x 0) := Lib.hid ⟨fun z _ => rfl, fun q h => by cases h⟩
  go_loopw [6, 7, 8, 9, 10, 11, 18] (fun v _ _ _ _ _ i wr => ∃ (j : Nat) (u : Value) (g : Lit → Option Value), j ≤ n ∧ u = v ∧ i = .int .i64 (j : Int) ∧ Hid (Below w.heap.size w wr) ∧ w1.heap.size ≤ wr.heap.size ∧ Hid (wr.ownsRow w1.heap.size 2 1 u j (UP j)) ∧ Hid (MapIs Try.prog 113 wr w.heap.size g) ∧ Hid (KnE g l x j)) (fun _ _ _ _ _ _ i _ => n - (intOf i).toNat)
  case atStart => exact ⟨0, _, _, Nat.zero_le _, rfl, rfl, B0, by simp, O0, M0, K0⟩
  case round =>
    obtain ⟨j, v, g, hj, rfl, rfl, HW, hsz, HO, HM, HK⟩ := hrel
    have e0 : (0 : Int) ≤ (j : Int) := Int.natCast_nonneg _
    by_cases hlt : j < n
    · have e1 : (j : Int) < (n : Int) := by omega
      have hj1 : j + 1 ≤ n := by omega
      obtain ⟨b1, o1, rfl, hb1, hc1⟩ := (HA.out.below HW.out) (by omega)
      obtain ⟨x0, x0'⟩ := hc1 j hlt
      have xj := HX.out j hlt
      have lj := HL.out _ xj
      have BX := Lib.hid (below_box wr (boxE (x j)))
      have KX := Lib.hid (heap_alloc_new wr (boxE (x j)))
      have HWb := Lib.hid (below_then HW.out BX.out)
      have HOb := Lib.hid (Ge.row_below HO.out BX.out)
      have HMb := Lib.hid (HM.out.below BX.out HM.out.lt)
      have szb := BX.out.size
      have CJ := Lib.hid (CL.out _ (HSt.out.below HWb.out) (x j) xj)
      have HUj := Lib.hid (HU.out j)
      have HKQ : Hid (∀ l', (g l').isSome = true → ∃ i, i < 80 ∧ l' = keyN i) := Lib.hid HK.out.2
      have hKz := HK.out.1 _ lj
      clear hc1
      unfold vE at CJ
      go_upto_region 6 with fail
      generalize hsx : wr.heap.size = sx at KX ⊢
      generalize hwb : wr.alloc _ = wb at KX HWb HOb HMb CJ szb ⊢
      have hszb : w1.heap.size ≤ wb.heap.size := by omega
      clear hwb HW HO HM BX x0 x0' hb1 hsx szb hsz
      obtain ⟨y0, y1, _, _⟩ := boxE_keep KX.out (Below.refl _ _)
      go_wp2_with fail
      refine CJ.out.mono ?_
      rintro e wa ⟨rfl, ba⟩
      have BY := Lib.hid (below_then ba (below_box wa (boxE (l (x j)))))
      have KY := Lib.hid (heap_alloc_new wa (boxE (l (x j))))
      have HWc := Lib.hid (below_then HWb.out BY.out)
      have HOc := Lib.hid (Ge.row_below HOb.out BY.out)
      have HMc := Lib.hid (HMb.out.below BY.out HMb.out.lt)
      have hszc : Hid (w1.heap.size ≤ (wa.alloc (boxE (l (x j)))).heap.size) := Lib.hid (by have := BY.out.size; omega)
      clear ba y0 y1
      go_upto_region 7 with fail
      generalize hsy : wa.heap.size = sy at KY ⊢
      generalize hwc : wa.alloc _ = wr at KY HWc HOc HMc hszc ⊢
      clear hwc hsy HWb HOb HMb BY KX hszb CJ
      have hsz := hszc.out
      have HW := HWc
      have HO := HOc
      have HM := HMc
      clear HWc HOc HMc hszc
      obtain ⟨y0, y1, _, _⟩ := boxE_keep KY.out (Below.refl _ _)
      cases hf : fo l x j (l (x j)) with
      | some q =>
        have HK1 := Lib.hid (HK.out.step_some hf)
        rw [fi_some hf] at HUj
        rw [hf] at hKz
        generalize l (x j) = lx at hKz lj hf y0 y1
        go_upto_region 8 with (at_lookup; refine wp_look_ok _ rfl _ _ 143 rfl 113 2 law_ed Try.underlying143 (zeroI _) w.heap.size g rfl HM.out _ (keyN lx) rfl (keyE lj) (.int .i64 (q : Int)) true (by rw [hKz]; rfl) (by rw [hKz]; rfl) ?_)
        have HO2 := HO
        have HM2 := HM
        have HW2 := HW
        generalize hw2 : wr = w2 at HO2 HM2 HW2 hsz KY y0 y1 ⊢
        clear hw2 HO HM HW
        go_wp2_with (at_builtin; refine wpList_append_own _ rfl _ _ 36 rfl w1.heap.size 2 i0 _ 1 8 Try.underlying36 HI.out.1 HI.out.2.1 HI.out.2.2.1 HI.out.2.2.2 rfl (by decide) _ _ _ rfl (HO2.out.alloc _) ⟨w2.heap.size, 0, none⟩ 1 1 [.int .i64 (q : Int)] rfl rfl ?c1 ?c2 ?c3 ?c4 ?c5 ?_)
        case c1 =>
          intro q' u hu
          rw [Addr.add_lit, Nat.zero_add]
          exact (cell_of_row _ _ q' _ _ _ (heap_alloc_new w2 _)).trans (by simpa using hu)
        case c2 => simp [Value.oneCell']
        case c3 => unfold maxLen; omega
        case c4 => omega
        case c5 => first | omega | (simp <;> omega)
        intro v' w6 hown2 hgrow _
        have hs16 := hs1.out
        have HQ := Lib.hid ((HW2.out.alloc (by omega) _).grown hgrow (by simp; omega) fun g hg => by have := (HO2.out.lt g hg).1; omega)
        have HO6 : Hid (w6.ownsRow w1.heap.size 2 1 v' (j + 1) (UP (j + 1))) := Lib.hid (by rw [HUj.out]; exact hown2)
        have M6 := Lib.hid ((HM2.out.below (below_box w2 (.cells #[.int .i64 (q : Int)] 2)) (by omega)).kept hgrow (fun e => by have := (HO2.out.lt _ e.symm).1; omega))
        have s6 : w1.heap.size ≤ w6.heap.size := by have := hgrow.size; simp at this; omega
        clear hs16 hown2 hgrow
        go_wp2_with fail
        go_roundw
        case rel => exact ⟨j + 1, _, _, hj1, rfl, by go_num, HQ, s6, HO6, M6, HK1⟩
        case measure => simp [intOf]; omega
      | none =>
        have HK1 := Lib.hid (HK.out.step_none lj hf)
        rw [fi_none hf] at HUj
        rw [hf] at hKz
        generalize l (x j) = lx at hKz lj hf HK1 y0 y1
        go_upto_region 8 with (at_lookup; refine wp_look_ok _ rfl _ _ 143 rfl 113 2 law_ed Try.underlying143 (zeroI _) w.heap.size g rfl HM.out _ (keyN lx) rfl (keyE lj) (.int .i64 0) false (by rw [hKz]; rfl) (by rw [hKz]; rfl) ?_)
        go_upto_region 11 with (at_mapUpdate; refine wp_store _ rfl _ _ _ 143 rfl 113 2 law_ed Try.underlying143 keyN 80 w.heap.size g HKQ.out (by decide) rfl HM.out _ _ (keyN lx) rfl rfl (keyE lj) ?_; intro w2 hm2 hg2)
        have HM2 := Lib.hid hm2
        have hs17 := hs1.out
        have HO2 := Lib.hid (row_grown HO.out hg2 (by omega))
        have HW2 := Lib.hid (HW.out.grown hg2 (by omega) fun g hg => by injection hg; omega)
        have hsz : w1.heap.size ≤ w2.heap.size := Nat.le_trans hsz hg2.size
        clear hm2 hg2 HO HM HW hs17
        go_wp2_with (at_builtin; refine wpList_append_own _ rfl _ _ 36 rfl w1.heap.size 2 i0 _ 1 8 Try.underlying36 HI.out.1 HI.out.2.1 HI.out.2.2.1 HI.out.2.2.2 rfl (by decide) _ _ _ rfl (HO2.out.alloc _) ⟨w2.heap.size, 0, none⟩ 1 1 [.int .i64 (j : Int)] rfl rfl ?c1 ?c2 ?c3 ?c4 ?c5 ?_)
        case c1 =>
          intro q' u hu
          rw [Addr.add_lit, Nat.zero_add]
          exact (cell_of_row _ _ q' _ _ _ (heap_alloc_new w2 _)).trans (by simpa using hu)
        case c2 => simp [Value.oneCell']
        case c3 => unfold maxLen; omega
        case c4 => omega
        case c5 => first | omega | (simp <;> omega)
        intro v' w6 hown2 hgrow _
        have hs16 := hs1.out
        have HQ := Lib.hid ((HW2.out.alloc (by omega) _).grown hgrow (by simp; omega) fun g hg => by have := (HO2.out.lt g hg).1; omega)
        have HO6 : Hid (w6.ownsRow w1.heap.size 2 1 v' (j + 1) (UP (j + 1))) := Lib.hid (by rw [HUj.out]; exact hown2)
        have M6 := Lib.hid ((HM2.out.below (below_box w2 (.cells #[.int .i64 (j : Int)] 2)) (by omega)).kept hgrow (fun e => by have := (HO2.out.lt _ e.symm).1; omega))
        have s6 : w1.heap.size ≤ w6.heap.size := by have := hgrow.size; simp at this; omega
        clear hs16 hown2 hgrow
        go_wp2_with fail
        go_roundw
        case rel => exact ⟨j + 1, _, _, hj1, rfl, by go_num, HQ, s6, HO6, M6, HK1⟩
        case measure => simp [intOf]; omega
    · obtain rfl : j = n := by omega
      have e1 : ¬ (j : Int) < (j : Int) := by omega
      have HZ := Lib.hid (HF.out v w1.heap.size wr HO.out (by have := hs1.out; omega) HW.out)
      clear hj HU HU0 HF
      go_wp2_with fail
      exact HZ.out
end Go.Proofs.Ytnojnikophpnoaa.Ud
