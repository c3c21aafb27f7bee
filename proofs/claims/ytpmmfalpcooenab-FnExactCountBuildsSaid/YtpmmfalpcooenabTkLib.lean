/- The program's count of builds: a function that calls itself and keeps what it has found in a map. -/
import Derived.Test.YtpmmfalpcooenabUmLib
import Derived.Test.YtpmmfalpcooenabKcLib
import Derived.DeepKeys4
import Derived.Deep.QuietTactic
import Derived.BigQuiet
namespace Go.Proofs.Ytpmmfalpcooenab.Tk
open Go.RowKit Go.Maps Ft Is Ge Qb Ly Kc Mm

theorem laidOut : laidOutB Try.prog = true := by kernel_rfl
theorem law_task : Keyed Try.prog 145 := Keyed.of_law (deep_law_laid laidOut (m := 4) (by omega) (of_decide_eq_true (by kernel_rfl)) (by kernel_rfl) (by kernel_rfl))
abbrev tkV (k s : Int) : Value := .agg #[.int .i64 k, .int .i64 s]
/-- What a task reads as, as a key. -/
noncomputable def tk (k s : Int) : Lit := (keyOf Try.prog 145 (tkV k s)).getD (.bool true)
theorem key_task {k s : Int} (hk : (Lit.int .i64 k).wf = true) (hs : (Lit.int .i64 s).wf = true) : keyOf Try.prog 145 (tkV k s) = some (tk k s) := by
  have h : ∃ l, keyOf Try.prog 145 (tkV k s) = some l := by
    unfold keyOf
    rw [Try.underlying145]
    have h1 : (Try.prog.keyType 145 && (tkV k s).formed Try.prog 145) = true := by kernel_rfl
    simp only [h1, if_true]
    have h2 : ∃ f, Try.prog.types.size + 1 = f + 2 := ⟨Try.prog.types.size - 1, by decide +kernel⟩
    obtain ⟨f, hf⟩ := h2
    rw [hf]
    have c1 : Try.prog.cellsOf 145 = 2 := by kernel_rfl
    have c2 : Try.prog.cellsOf 3 = 1 := by kernel_rfl
    have c3 : Try.prog.cellsOf 2 = 1 := by kernel_rfl
    simp [Program.keyLits, Try.underlying145, Try.underlying3, Try.underlying2, Value.cells, c1, c2, c3, hk, hs]
  obtain ⟨l, h⟩ := h
  rw [h, tk, h]
  rfl
theorem tk_inj {k s k' s' : Int} (hk : (Lit.int .i64 k).wf = true) (hs : (Lit.int .i64 s).wf = true) (hk' : (Lit.int .i64 k').wf = true) (hs' : (Lit.int .i64 s').wf = true) (h : tk k s = tk k' s') : k = k' ∧ s = s' := by
  have := law_task.inj (key_task hk hs) (by rw [h]; exact key_task hk' hs')
  simpa using this
/-- A class of worlds. -/
structure Cls (I : World → Prop) where
  to : World
  h : I to
theorem wp_region_cls {P : Program} {I : World → Prop} {id : Nat} {Q : Exit → Act → World → Prop} {a : Act} {w : World} {l : List Oper} (hd : ∀ w, I w → I w.drew) (h0 : I w) (hm : P.follows .mixedOrders = true) (hB : Region.lexB .any l.toArray = true)
    (h : wpQuiet P l.toArray (fun w' => ∃ p : Cls I, w' = p.to) (fun a' => ∀ w', (∃ p : Cls I, w' = p.to) → Q .normal a' w') l a) : (Code.region id l.toArray true).wp P Q a w :=
  wp_region_quiet (C := fun w' => ∃ p : Cls I, w' = p.to) hm hB ⟨⟨w.drew, hd w h0⟩, rfl⟩ (by simpa using h)
theorem cls_of {P : Program} {I : World → Prop} {f : FuncId} {args : Array Value} (p : Cls I) {v : Value} (h : Calls P f args p.to fun e w' => e = .returned v ∧ I w') :
    Calls P f args p.to fun e w'' => e = .returned v ∧ ∃ q : Cls I, w'' = q.to :=
  h.mono fun _ w' ⟨he, hb⟩ => ⟨he, ⟨w', hb⟩, rfl⟩

/-- The map holds counts alone. -/
def Good (d : Nat → Int) (g : Lit → Option Value) : Prop := ∀ l v, g l = some v → ∃ k s : Nat, k ≤ 8 ∧ s ≤ 1000 ∧ l = tk k s ∧ v = .int .i64 (cn d k s)
theorem good_at {d : Nat → Int} {g : Lit → Option Value} (hG : Good d g) {k s : Nat} (hk : k ≤ 8) (hs : s ≤ 1000) {v : Value} (h : g (tk k s) = some v) : v = .int .i64 (cn d k s) := by
  obtain ⟨k', s', h1, h2, h3, rfl⟩ := hG _ _ h
  obtain ⟨e1, e2⟩ := tk_inj (WalkArith.wf_i64 (by omega)) (WalkArith.wf_i64 (by omega)) (WalkArith.wf_i64 (by omega)) (WalkArith.wf_i64 (by omega)) h3
  rw [show k = k' by omega, show s = s' by omega]
set_option maxRecDepth 100000 in
theorem good_upd {d : Nat → Int} {g : Lit → Option Value} (hG : Good d g) {k s : Nat} (hk : k ≤ 8) (hs : s ≤ 1000) : Good d (upd g (tk k s) (.int .i64 (cn d k s))) := fun l v h => by
  by_cases e : l = tk k s
  · subst e
    rw [upd_same] at h
    cases h
    exact ⟨k, s, hk, hs, rfl, rfl⟩
  · rw [upd_other _ _ e] at h
    exact hG l v h
noncomputable def keyN (j : Nat) : Lit := tk ((j / 1001 : Nat) : Int) ((j % 1001 : Nat) : Int)
set_option maxRecDepth 100000 in
theorem good_key {d : Nat → Int} {g : Lit → Option Value} (hG : Good d g) (l : Lit) (h : (g l).isSome = true) : ∃ j, j < 9009 ∧ l = keyN j := by
  obtain ⟨v, hv⟩ := Option.isSome_iff_exists.1 h
  obtain ⟨k, s, h1, h2, rfl, _⟩ := hG l v hv
  refine ⟨k * 1001 + s, by omega, ?_⟩
  unfold keyN
  rw [show (k * 1001 + s) / 1001 = k by omega, show (k * 1001 + s) % 1001 = s by omega]
/-- What holds while builds are counted. -/
structure Inv (w0 : World) (B gm gc gl b : Nat) (A : Option Addr) (n c : Nat) (d : Nat → Int) (W : World) : Prop where
  below : Below B w0 W
  hm : W.heap[gm]? = some (.cells #[.map (some b)] 142 (0, 0))
  hc : W.heap[gc]? = some (.cells #[.func (.func 119) #[] #[.pointer (some ⟨gm, 0, none⟩), .pointer (some ⟨gc, 0, none⟩), .pointer (some ⟨gl, 0, none⟩)]] 107 (0, 0))
  hl : W.heap[gl]? = some (.cells #[.slice A n c] 22 (0, 0))
  nums : Nums W W.heap.size A n d
  map : ∃ g, MapIs Try.prog 145 W b g ∧ Good d g
  bB : B ≤ b
  bW : B ≤ w0.heap.size
theorem Inv.drew {w0 : World} {B gm gc gl b : Nat} {A : Option Addr} {n c : Nat} {d : Nat → Int} {W : World} (h : Inv w0 B gm gc gl b A n c d W) : Inv w0 B gm gc gl b A n c d W.drew :=
  ⟨h.below.drew, h.hm, h.hc, h.hl, h.nums, h.map, h.bB, h.bW⟩
theorem Inv.ne {w0 : World} {B gm gc gl b : Nat} {A : Option Addr} {n c : Nat} {d : Nat → Int} {W : World} (h : Inv w0 B gm gc gl b A n c d W) {g : Nat} {cs : Array Value} {t : TypeId} (hg : W.heap[g]? = some (.cells cs t (0, 0))) : b ≠ g := fun e => by
  obtain ⟨_, ⟨D, ⟨es, clock, hb, _⟩, _⟩, _⟩ := h.map
  rw [e, hg] at hb
  cases hb
theorem Inv.store {w0 : World} {B gm gc gl b : Nat} {A : Option Addr} {n c : Nat} {d : Nat → Int} {W W' : World} {g' : Lit → Option Value} (h : Inv w0 B gm gc gl b A n c d W) (hm : MapIs Try.prog 145 W' b g') (hG : Good d g') (hg : W.grownBy W' (some b)) (hA : ∀ q o, A = some ⟨q, o, none⟩ → q ≠ b) : Inv w0 B gm gc gl b A n c d W' :=
  ⟨h.below.grown hg (Nat.le_trans h.bW h.below.size) (fun k hk => by cases hk; exact h.bB),
    (hg.block _ (lt_of_heap h.hm) (by intro e; cases e; exact h.ne h.hm rfl)).trans h.hm,
    (hg.block _ (lt_of_heap h.hc) (by intro e; cases e; exact h.ne h.hc rfl)).trans h.hc,
    (hg.block _ (lt_of_heap h.hl) (by intro e; cases e; exact h.ne h.hl rfl)).trans h.hl,
    fun hn => by
      obtain ⟨q, off, rfl, hq, hc⟩ := h.nums hn
      exact ⟨q, off, rfl, Nat.lt_of_lt_of_le hq hg.size, fun i hi => (World.cell?_of_block (hg.block q hq (by intro e; cases e; exact hA _ _ rfl rfl))).trans (hc i hi)⟩,
    ⟨g', hm, hG⟩, h.bB, h.bW⟩
theorem zero64 (w : World) : (zeroValue 2).run Try.prog w = .ok (.int .i64 0) w := by kernel_rfl

set_option maxRecDepth 100000 in
set_option maxHeartbeats 1600000 in
theorem cnt_any (w0 : World) (B gm gc gl b : Nat) (A : Option Addr) (n c : Nat) (d : Nat → Int) (hn : n ≤ 8) (hd : ∀ i, i < n → 1 ≤ d i ∧ d i ≤ 200) (hA : ∀ q o, A = some ⟨q, o, none⟩ → q ≠ b) :
    ∀ (N k : Nat) (s : Int), k + s.toNat ≤ N → k ≤ n → s ≤ 1000 → -1000 ≤ s → ∀ w, Inv w0 B gm gc gl b A n c d w →
      Calls Try.prog 119 #[.int .i64 k, .int .i64 s, .pointer (some ⟨gm, 0, none⟩), .pointer (some ⟨gc, 0, none⟩), .pointer (some ⟨gl, 0, none⟩)] w fun e w' => e = .returned (.int .i64 (cn d k s)) ∧ Inv w0 B gm gc gl b A n c d w' := by
  intro N
  induction N with
  | zero =>
    intro k s hN hk hs1 hs0 w hI
    obtain rfl : k = 0 := by omega
    have HI := Lib.hid hI
    clear hI
    by_cases h0 : s = 0
    · subst h0
      have HE := Lib.hid (cn_zero d 0)
      go_enter Try.func119, Try.ntmps119
      go_wp2_with fail
      go_ret
      exact ⟨Ba.ret_int HE.out.symm, HI.out⟩
    · have h1 : s < 0 := by omega
      have hb : (s == 0) = false := by simpa using h0
      have HE := Lib.hid (cn_neg d 0 h1)
      go_enter Try.func119, Try.ntmps119
      go_wp2_with fail
      go_ret
      exact ⟨Ba.ret_int HE.out.symm, HI.out⟩
  | succ N ih =>
    intro k s hN hk hs1 hs0 w hI
    have HI := Lib.hid hI
    clear hI
    by_cases h0 : s = 0
    · subst h0
      have HE := Lib.hid (cn_zero d k)
      go_enter Try.func119, Try.ntmps119
      go_wp2_with fail
      go_ret
      exact ⟨Ba.ret_int HE.out.symm, HI.out⟩
    have hb : (s == 0) = false := by simpa using h0
    by_cases h1 : s < 0
    · have HE := Lib.hid (cn_neg d k h1)
      go_enter Try.func119, Try.ntmps119
      go_wp2_with fail
      go_ret
      exact ⟨Ba.ret_int HE.out.symm, HI.out⟩
    by_cases hk0 : k = 0
    · subst hk0
      have HE := Lib.hid (cn_none d h0)
      go_enter Try.func119, Try.ntmps119
      go_wp2_with fail
      go_ret
      exact ⟨Ba.ret_int HE.out.symm, HI.out⟩
    obtain ⟨j, rfl⟩ : ∃ j, k = j + 1 := ⟨k - 1, by omega⟩
    obtain ⟨s, rfl⟩ : ∃ t : Nat, s = (t : Int) := ⟨s.toNat, by omega⟩
    have hkb : (((j + 1 : Nat) : Int) == 0) = false := by simp; omega
    obtain ⟨g, hM, hG⟩ := HI.out.map
    have HM := Lib.hid hM
    have HG := Lib.hid hG
    have x0 := Ba.blk1 HI.out.hm
    have hkey := key_task (k := ((j + 1 : Nat) : Int)) (s := (s : Int)) (WalkArith.wf_i64 (by omega)) (WalkArith.wf_i64 (by omega))
    clear hM hG
    cases hv : g (tk ((j + 1 : Nat) : Int) (s : Int)) with
    | some v =>
      obtain rfl := good_at HG.out (by omega) (by omega) hv
      go_enter Try.func119, Try.ntmps119
      go_wp2_with (at_lookup; refine wp_look_ok _ rfl _ _ 142 rfl 145 2 law_task Try.underlying142 (zero64 _) b g rfl HM.out _ (tk ((j + 1 : Nat) : Int) (s : Int)) rfl hkey (.int .i64 (cn d ((j + 1 : Nat)) (s : Int))) true (by rw [hv]; rfl) (by rw [hv]; rfl) ?_)
      go_wp2_with fail
      go_ret
      exact ⟨rfl, HI.out⟩
    | none =>
      obtain ⟨d1, d2⟩ := hd j (by omega)
      have hS : Hid (cn d (j + 1) (s : Int) = cn d j (s : Int) + cn d (j + 1) ((s : Int) - d j)) := Lib.hid (cn_step (fun i hi => (hd i (by omega)).1) (by omega))
      obtain ⟨u1, u2⟩ := cn_small (x := d) (k := j) (s := (s : Int)) (by omega) (by omega) (fun i hi => (hd i (by omega)).1)
      obtain ⟨u3, u4⟩ := cn_small (x := d) (k := j + 1) (s := (s : Int) - d j) (by omega) (by omega) (fun i hi => (hd i (by omega)).1)
      obtain ⟨q, off, rfl, hq, hc⟩ := HI.out.nums (by omega)
      have CA := Lib.hid (fun p : Cls (Inv w0 B gm gc gl b (some ⟨q, off, none⟩) n c d) => cls_of p (ih j (s : Int) (by omega) (by omega) (by omega) (by omega) p.to p.h))
      have CB := Lib.hid (fun p : Cls (Inv w0 B gm gc gl b (some ⟨q, off, none⟩) n c d) => cls_of p (ih (j + 1) ((s : Int) - d j) (by omega) (by omega) (by omega) (by omega) p.to p.h))
      rw [show ((j + 1 : Nat) : Int) = (j : Int) + 1 from by omega] at CB
      have y0 : ∀ p : Cls (Inv w0 B gm gc gl b (some ⟨q, off, none⟩) n c d), p.to.cell? ⟨gc, 0, none⟩ = some (.func (.func 119) #[] #[.pointer (some ⟨gm, 0, none⟩), .pointer (some ⟨gc, 0, none⟩), .pointer (some ⟨gl, 0, none⟩)]) := fun p => Ba.blk1 p.h.hc
      have y1 : ∀ p : Cls (Inv w0 B gm gc gl b (some ⟨q, off, none⟩) n c d), p.to.cell? ⟨gl, 0, none⟩ = some (.slice (some ⟨q, off, none⟩) n c) := fun p => Ba.blk1 p.h.hl
      have y2 : ∀ p : Cls (Inv w0 B gm gc gl b (some ⟨q, off, none⟩) n c d), p.to.cell? ⟨q, off + j, none⟩ = some (.int .i64 (d j)) := fun p => by
        obtain ⟨q', off', e, _, hc⟩ := p.h.nums (by omega)
        cases e
        exact hc j (by omega)
      have e0 : (0 : Int) ≤ (j : Int) := Int.natCast_nonneg _
      have e1 : (j : Int) < (n : Int) := by omega
      have HH : Inhabited (Cls (Inv w0 B gm gc gl b (some ⟨q, off, none⟩) n c d)) := ⟨⟨w, HI.out⟩⟩
      generalize d j = dj at d1 d2 hS u3 u4 CB y2
      generalize hv1 : cn d j (s : Int) = v1 at hS u1 u2 CA
      generalize hv2 : cn d (j + 1) ((s : Int) - dj) = v2 at hS u3 u4 CB
      clear hc hv1 hv2 ih
      go_enter Try.func119, Try.ntmps119
      go_wp2_with (at_lookup; refine wp_look_ok _ rfl _ _ 142 rfl 145 2 law_task Try.underlying142 (zero64 _) b g rfl HM.out _ (tk ((j + 1 : Nat) : Int) (s : Int)) rfl hkey (.int .i64 0) false (by rw [hv]; rfl) (by rw [hv]; rfl) ?_)
      go_wp2_with fail
      refine wp_region_cls (I := Inv w0 B gm gc gl b (some ⟨q, off, none⟩) n c d) (fun _ h => h.drew) HI.out (by kernel_rfl) (by kernel_rfl) ?_
      repeat (go_big_quiet_step ((go_at_call 119; first | (with_reducible exact CA.out _) | (with_reducible exact CB.out _))))
      refine wpQuiet_nil ?_
      rintro _ ⟨pq, rfl⟩
      have HI2 := Lib.hid pq.h
      generalize pq.to = wq at HI2 ⊢
      obtain ⟨g2, hM2, hG2⟩ := HI2.out.map
      have HM2 := Lib.hid hM2
      have HG2 := Lib.hid hG2
      have z0 := Ba.blk1 HI2.out.hm
      have HG3 := Lib.hid (good_upd (k := j + 1) (s := s) HG2.out (by omega) (by omega))
      rw [hS.out, show ((j + 1 : Nat) : Int) = (j : Int) + 1 from by omega] at HG3
      have HQ : Hid (∀ w' g', MapIs Try.prog 145 w' b g' → Good d g' → wq.grownBy w' (some b) → Inv w0 B gm gc gl b (some ⟨q, off, none⟩) n c d w') := Lib.hid fun w' g' h1 h2 h3 => HI2.out.store h1 h2 h3 hA
      clear hM2 hG2 x0 y0 y1 y2 CA CB HM HG hv
      go_wp2_with (at_mapUpdate; refine wp_store _ rfl _ _ _ 142 rfl 145 2 law_task Try.underlying142 keyN 9009 b g2 (good_key HG2.out) (by decide) rfl HM2.out _ _ (tk ((j + 1 : Nat) : Int) (s : Int)) rfl rfl hkey ?_)
      intro w5 hm5 hg5
      have HI5 := Lib.hid (HQ.out _ _ hm5 HG3.out hg5)
      clear hm5 hg5
      go_wp2_with fail
      go_ret
      exact ⟨Ba.ret_int hS.out.symm, HI5.out⟩
end Go.Proofs.Ytpmmfalpcooenab.Tk
