/- Blocks on a roll: the spec's TurnBlocks. -/
import Derived.Test.YtgclhkiiaclkgabJxLib
import Derived.Deep.DeepCutAuto
import Derived.Deep.Upon
import Derived.Deep.AppendLies
namespace Go.Proofs.Ytgclhkiiaclkgab.N1
set_option linter.unusedVariables false
open Go.RowKit Is Ge Qb Jr Js Jt Jw Jx
open Go.Proofs.Ytgclhkiiaclkgab.Ba (inB below_then below_box ret_bool blk2)

/-- A block is turned. -/
def tn (roll a b : Int) : Bool := decide (a < b ∧ b ≤ roll)
/-- The blocks, the first t of them turned. -/
def tb (roll : Int) (g : Nat → Int) (t j : Nat) : Int := if j / 2 < t ∧ tn roll (g (j / 2 * 2)) (g (j / 2 * 2 + 1)) = true then (if j % 2 = 0 then g (j / 2 * 2 + 1) else g (j / 2 * 2)) else g j
theorem tb_0 (roll : Int) (g : Nat → Int) (j : Nat) : tb roll g 0 j = g j := by unfold tb; rw [if_neg (by omega)]
theorem tb_at (roll : Int) (g : Nat → Int) (t : Nat) : tb roll g t (t * 2) = g (t * 2) ∧ tb roll g t (t * 2 + 1) = g (t * 2 + 1) := by
  unfold tb
  rw [if_neg (by omega), if_neg (by omega)]
  exact ⟨rfl, rfl⟩
theorem tb_no {roll : Int} {g : Nat → Int} {t : Nat} (h : tn roll (g (t * 2)) (g (t * 2 + 1)) = false) (j : Nat) : tb roll g (t + 1) j = tb roll g t j := by
  unfold tb
  by_cases e : j / 2 = t
  · rw [e, if_neg (by rw [h]; simp), if_neg (by omega)]
  · by_cases e2 : j / 2 < t ∧ tn roll (g (j / 2 * 2)) (g (j / 2 * 2 + 1)) = true
    · rw [if_pos ⟨by omega, e2.2⟩, if_pos e2]
    · rw [if_neg (fun h2 => e2 ⟨by omega, h2.2⟩), if_neg e2]
theorem tb_yes {roll : Int} {g : Nat → Int} {t : Nat} (h : tn roll (g (t * 2)) (g (t * 2 + 1)) = true) (j : Nat) : tb roll g (t + 1) j = if j = t * 2 + 1 then g (t * 2) else if j = t * 2 then g (t * 2 + 1) else tb roll g t j := by
  by_cases e : j = t * 2 + 1
  · subst e
    rw [if_pos rfl]
    unfold tb
    rw [show (t * 2 + 1) / 2 = t by omega, if_pos ⟨by omega, h⟩, if_neg (by omega)]
  · rw [if_neg e]
    by_cases e0 : j = t * 2
    · subst e0
      rw [if_pos rfl]
      unfold tb
      rw [show t * 2 / 2 = t by omega, if_pos ⟨by omega, h⟩, if_pos (by omega)]
    · rw [if_neg e0]
      unfold tb
      by_cases e2 : j / 2 < t ∧ tn roll (g (j / 2 * 2)) (g (j / 2 * 2 + 1)) = true
      · rw [if_pos ⟨by omega, e2.2⟩, if_pos e2]
      · rw [if_neg (fun h2 => e2 ⟨by omega, h2.2⟩), if_neg e2]
theorem at_put {w : World} {g n j : Nat} {f : Nat → Int} (h : At w g n f) (hj : j < n) (v : Int) : At (w.setCell ⟨g, j, none⟩ (.int .i64 v)) g n (fun i => if i = j then v else f i) := by
  refine ⟨by simpa using h.1, fun i hi => ?_, fun i => by rw [World.frozen?_setCell]; exact h.2.2 i⟩
  by_cases e : i = j
  · subst e
    dsimp only
    rw [if_pos rfl]
    exact World.cell?_setCell_same' _ _ _ (by rw [h.2.1 i hi]; rfl)
  · dsimp only
    rw [if_neg e]
    exact (World.cell?_setCell_other _ ⟨g, j, none⟩ ⟨g, i, none⟩ _ (by simp)).trans (h.2.1 i hi)
theorem at_ext {w : World} {g n : Nat} {f h : Nat → Int} (hA : At w g n f) (he : ∀ k, f k = h k) : At w g n h := ⟨hA.1, fun i hi => by rw [hA.2.1 i hi, he i], hA.2.2⟩
theorem at_two {w : World} {gg n t : Nat} {roll : Int} {g : Nat → Int} (h : At w gg (n * 2) (tb roll g t)) (ht : t < n) (hy : tn roll (g (t * 2)) (g (t * 2 + 1)) = true) :
    At ((w.setCell ⟨gg, t * 2, none⟩ (.int .i64 (g (t * 2 + 1)))).setCell ⟨gg, t * 2 + 1, none⟩ (.int .i64 (g (t * 2)))) gg (n * 2) (tb roll g (t + 1)) :=
  at_ext (at_put (at_put h (j := t * 2) (by omega) (g (t * 2 + 1))) (j := t * 2 + 1) (by omega) (g (t * 2))) fun j => (tb_yes hy j).symm
theorem at_step {w : World} {gg n t : Nat} {roll : Int} {g : Nat → Int} (h : At w gg (n * 2) (tb roll g t)) (hy : tn roll (g (t * 2)) (g (t * 2 + 1)) = false) : At w gg (n * 2) (tb roll g (t + 1)) := at_ext h fun j => (tb_no hy j).symm
theorem cells_upto {w : World} {b off n : Nat} {f : Nat → Int} (hc : ∀ i, i < n → w.cell? ⟨b, off + i, none⟩ = some (.int .i64 (f i))) : ∀ j u, (upto f n)[j]? = some u → w.cell? ((⟨b, off, none⟩ : Addr).add j) = some u := by
  intro j u hu
  have hj : j < n := by
    have := (List.getElem?_eq_some_iff.1 hu).1
    simpa [upto] using this
  rw [upto_get f hj] at hu
  rw [Addr.add_lit, hc j hj]
  exact hu
theorem upto_one (f : Nat → Int) (n : Nat) : ∀ u ∈ upto f n, u.oneCell' = true := by
  intro u hu
  simp only [upto, List.mem_map] at hu
  obtain ⟨j, _, rfl⟩ := hu
  rfl
theorem at_drewN {w : World} {g n : Nat} {f : Nat → Int} (h : At w g n f) (q : Nat) : At (w.drewN q) g n f := ⟨h.1, h.2.1, h.2.2⟩
/-- A new list of blocks, and a code. -/
noncomputable def TurnAt (roll : Int) (n : Nat) (g : Nat → Int) : World → Ending → World → Prop := Blk.PairS (rwN roll n g) (tb roll g n) (blC roll n g)
theorem turn_no {roll : Int} {n : Nat} {g : Nat → Int} (h : tv (BlP roll n g) = false) {w w' : World} (hb : Below w.heap.size w w') : TurnAt roll n g w (.returned (.tuple #[.slice none 0 0, .int .i64 1])) w' := by
  unfold TurnAt rwN blC
  rw [if_neg (by rw [h]; simp), if_neg (by rw [h]; simp)]
  exact ⟨none, 0, rfl, Lib.hid fun h => absurd h (by omega), hb⟩
theorem turn_ok {roll : Int} {n : Nat} {g : Nat → Int} (h : tv (BlP roll n g) = true) {w w' : World} {A : Option Addr} {cap : Nat} (hb : Below w.heap.size w w') (ha : 0 < n → ∃ x, A = some ⟨x, 0, none⟩ ∧ w.heap.size ≤ x ∧ At w' x (n * 2) (tb roll g n)) : TurnAt roll n g w (.returned (.tuple #[.slice A n cap, .int .i64 0])) w' := by
  unfold TurnAt rwN blC
  rw [if_pos h, if_pos h]
  refine ⟨_, _, rfl, Lib.hid fun h0 => ?_, hb⟩
  obtain ⟨x, rfl, h1, h2⟩ := ha (by omega)
  exact ⟨x, 0, rfl, h1, h2.1, fun i hi => by rw [Nat.zero_add]; exact h2.2.1 i hi, h2.2.2⟩
set_option maxRecDepth 100000 in
set_option maxHeartbeats 2000000 in
theorem spec_tb (A : Option Addr) (n c : Nat) (g : Nat → Int) (roll : Int) (hn : n ≤ 1048576) (w : World) (hA : Nums w w.heap.size A (n * 2) g) :
    Calls Try.prog 40 #[.slice A n c, .int .i64 roll] w (TurnAt roll n g w) := by
  have C := Lib.hid (spec_ok A n c g roll hn w hA)
  have HA := Lib.hid hA
  have V0 := Lib.hid (fun h W (hb : Below w.heap.size w W) => turn_no (roll := roll) (n := n) (g := g) h hb)
  have V1 : Hid (tv (BlP roll n g) = true → ∀ w' A cap, Below w.heap.size w w' → (0 < n → ∃ x, A = some ⟨x, 0, none⟩ ∧ w.heap.size ≤ x ∧ At w' x (n * 2) (tb roll g n)) → TurnAt roll n g w (.returned (.tuple #[.slice A n cap, .int .i64 0])) w') := Lib.hid fun h w' A cap h1 h2 => turn_ok h h1 h2
  have NI := Lib.hid (fun (h : tv (BlP roll n g) = true) => (tv_iff.1 h).1.2)
  obtain ⟨i0, hi0, hz0, hz1, hz2⟩ := info_parts Blk.info_re
  have HIn := Lib.hid (And.intro hi0 (And.intro hz0 (And.intro hz1 hz2)))
  clear hA hi0 hz0 hz1 hz2
  generalize TurnAt roll n g w = Q at V0 V1 ⊢
  generalize tv (BlP roll n g) = ok at *
  cases ok
  · have HF := Lib.hid (V0.out rfl _ (Below.refl _ _))
    clear V0 V1 NI
    go_enter Try.func40, Try.ntmps40
    go_wp2_with fail
    refine C.out.mono ?_
    rintro e w1 ⟨rfl, rfl⟩
    go_wp2_with fail
    exact HF.out
  have W1 := Lib.hid (V1.out rfl)
  have hn9 := NI.out rfl
  clear V0 V1 NI
  by_cases h0 : n = 0
  · subst h0
    have HF := Lib.hid (fun w' cap (h : Below w.heap.size w w') (A : Option Addr) => W1.out w' A cap h fun h => absurd h (by omega))
    have HB0 := Lib.hid (below_box w (.cells #[] 54))
    clear W1 HA
    cases A with
    | none =>
      go_enter Try.func40, Try.ntmps40
      go_wp2_with fail
      refine C.out.mono ?_
      rintro e w1 ⟨rfl, rfl⟩
      clear C
      go_wp2_with fail
      go_loopw [7] (fun u wr => u = .int .i64 0 ∧ Hid (Below w.heap.size w wr)) (fun _ _ => 0)
      case atStart => exact ⟨rfl, HB0⟩
      case round =>
        obtain ⟨rfl, HW⟩ := hrel
        go_wp2_with fail
        exact HF.out _ _ HW.out _
    | some a =>
      go_enter Try.func40, Try.ntmps40
      go_wp2_with fail
      refine C.out.mono ?_
      rintro e w1 ⟨rfl, rfl⟩
      clear C
      go_wp2_with (at_builtin; refine wpList_append_own _ rfl _ _ 25 rfl w.heap.size 54 i0 _ 2 16 Try.underlying25 HIn.out.1 HIn.out.2.1 HIn.out.2.2.1 HIn.out.2.2.2 rfl (by decide) _ _ _ rfl (World.ownsRow_made w #[] 0 (Nat.le_refl _) (by simp [maxLen]) rfl) a 0 c [] rfl ?c0 ?c1 ?c2 ?c3 ?c4 ?c5 ?_)
      case c0 => simp
      case c1 => intro j u hu; simp at hu
      case c2 => intro u hu; simp at hu
      case c3 => unfold maxLen; omega
      case c4 => omega
      case c5 => first | omega | simp
      intro v' w1 hown hgrow _
      have B1 := Lib.hid (HB0.out.grown hgrow (by simp) (by intro k hk; simp [Value.ownBlock] at hk; omega))
      obtain ⟨A, cap, rfl, _⟩ := Blk.own_of_row (f := g) (n := 0) (by simpa [upto] using hown)
      clear hown hgrow
      go_wp2_with fail
      go_loopw [7] (fun u wr => u = .int .i64 0 ∧ Hid (Below w.heap.size w wr)) (fun _ _ => 0)
      case atStart => exact ⟨rfl, B1⟩
      case round =>
        obtain ⟨rfl, HW⟩ := hrel
        go_wp2_with fail
        exact HF.out _ _ HW.out _
  obtain ⟨b, off, rfl, hlt, hc⟩ := HA.out (by omega)
  have HC := Lib.hid (cells_upto (fun i hi => (World.cell?_alloc_lt w _ _ (show (⟨b, off + i, none⟩ : Addr).block < w.heap.size from hlt)).trans (hc i hi) : ∀ i, i < n * 2 → (w.alloc (.cells #[] 54)).cell? ⟨b, off + i, none⟩ = some (.int .i64 (g i))))
  have XL : Hid (∀ W, Below w.heap.size w W → ∀ k, k < n → W.cell? ⟨b, off + k * 2, none⟩ = some (.int .i64 (g (k * 2))) ∧ W.cell? ⟨b, off + k * 2 + 1, none⟩ = some (.int .i64 (g (k * 2 + 1)))) := Lib.hid fun W h k hk => ⟨(h.cell (p := ⟨b, off + k * 2, none⟩) hlt).trans (Blk.cells_at hc hk).1, (h.cell (p := ⟨b, off + k * 2 + 1, none⟩) hlt).trans (Blk.cells_at hc hk).2⟩
  have HB0 := Lib.hid (below_box w (.cells #[] 54))
  clear hc hlt HA
  go_enter Try.func40, Try.ntmps40
  go_wp2_with fail
  refine C.out.mono ?_
  rintro e w1 ⟨rfl, rfl⟩
  clear C
  go_wp2_with (at_builtin; refine wpList_append_lies _ rfl _ _ 25 rfl w.heap.size 54 i0 _ 2 16 Try.underlying25 HIn.out.1 HIn.out.2.1 HIn.out.2.2.1 HIn.out.2.2.2 rfl (by decide) _ _ _ rfl (World.ownsRow_made w #[] 0 (Nat.le_refl _) (by simp [maxLen]) rfl) ⟨b, off, none⟩ n c (upto g (n * 2)) rfl ?c0 ?c1 ?c2 ?c3 ?c4 ?c5 ?c6 _ rfl ?_)
  case c0 => simp [upto]
  case c1 => exact HC.out
  case c2 => exact upto_one g (n * 2)
  case c3 => omega
  case c4 => unfold maxLen; omega
  case c5 => omega
  case c6 => first | omega | simp | exact Nat.le_succ _
  intro x cap w1 hown hgrow hat hlt
  have B1 := Lib.hid (HB0.out.grown hgrow (by simp) (by intro k hk; simp [Value.ownBlock] at hk; omega))
  have hx : w.heap.size ≤ x := by
    rcases hat with e | e
    · simp [Value.ownBlock] at e; omega
    · first | omega | (simp at e; omega)
  have hown' : w1.ownsRow w.heap.size 54 2 (.slice (some ⟨x, 0, none⟩) n cap) n (upto g (n * 2)) := by simpa using hown
  have A1 : Hid (At w1 x (n * 2) (tb roll g 0)) := Lib.hid (by
    rcases hown'.2 with ⟨e, _⟩ | ⟨g1, cap1, cur, e, hbg, hh, _⟩
    · cases e
    · cases e
      exact ⟨hlt, fun i hi => by rw [tb_0]; exact (hown'.cellAt i (by omega)).trans (upto_get g hi), fun i => blk_free hh i⟩)
  clear hown hown' hgrow hat hlt HC HIn HB0
  go_wp2_with fail
  go_loopw [7] (fun u wr => ∃ t : Nat, t ≤ n ∧ u = .int .i64 (t : Int) ∧ Hid (Below w.heap.size w wr) ∧ Hid (At wr x (n * 2) (tb roll g t))) (fun u _ => n - (intOf u).toNat)
  case atStart => exact ⟨0, Nat.zero_le _, rfl, B1, A1⟩
  case round =>
    obtain ⟨t, ht, rfl, HW, HT⟩ := hrel
    have e0 : (0 : Int) ≤ (t : Int) := Int.natCast_nonneg _
    by_cases htl : t < n
    · have e1 : (t : Int) < (n : Int) := by omega
      have ht1 : t + 1 ≤ n := by omega
      have y0 := HT.out.2.1 (t * 2) (by omega)
      have y1 := HT.out.2.1 (t * 2 + 1) (by omega)
      have y2 := HT.out.2.2 (t * 2)
      have y3 := HT.out.2.2 (t * 2 + 1)
      rw [(tb_at roll g t).1] at y0
      rw [(tb_at roll g t).2] at y1
      obtain ⟨x0, x1⟩ := XL.out _ HW.out t htl
      clear A1 B1 W1 XL
      by_cases hy : g (t * 2) < g (t * 2 + 1) ∧ g (t * 2 + 1) ≤ roll
      · obtain ⟨h1, h2⟩ := hy
        have HN := Lib.hid (fun W (h : At W x (n * 2) (tb roll g t)) => at_two (roll := roll) h htl (decide_eq_true ⟨h1, h2⟩))
        have HWN := Lib.hid (fun W (h : Below w.heap.size w W) u v => (h.setCell (p := ⟨x, t * 2, none⟩) hx u).setCell (p := ⟨x, t * 2 + 1, none⟩) hx v)
        generalize tb roll g t = bt at *
        generalize g (t * 2) = g0 at *
        generalize g (t * 2 + 1) = g1 at *
        go_upto_region 7 with fail
        go_quiet (fail)
        have HTd := Lib.hid (HN.out _ (at_drewN HT.out nq))
        have HWd := Lib.hid (HWN.out _ (below_then HW.out (Js.below_drewN wr nq)))
        have z0 : (wr.drewN nq).cell? ⟨x, t * 2, none⟩ = _ := y0
        have z1 : (wr.drewN nq).cell? ⟨x, t * 2 + 1, none⟩ = _ := y1
        have z2 : (wr.drewN nq).frozen? ⟨x, t * 2, none⟩ = _ := y2
        have z3 : (wr.drewN nq).frozen? ⟨x, t * 2 + 1, none⟩ = _ := y3
        have z4 : (wr.drewN nq).cell? ⟨b, off + t * 2, none⟩ = _ := x0
        have z5 : (wr.drewN nq).cell? ⟨b, off + t * 2 + 1, none⟩ = _ := x1
        clear y0 y1 y2 y3 x0 x1 HN HWN HT HW
        generalize wr.drewN nq = wd at *
        go_upto_region 8 with fail
        go_region
        all_goals
          have HD : Hid (∀ W : World, Below w.heap.size w W → Below w.heap.size w W.drew) := Lib.hid fun W h => h.drew
          have HW1 := Lib.hid (HWd.out (.int .i64 g1) (.int .i64 g0))
          clear HWd z0 z1 z2 z3 z4 z5
          generalize World.setCell _ _ _ = ws at *
          have HT2 : Hid (At ws.drew x (n * 2) (tb roll g (t + 1))) := Lib.hid ⟨HTd.out.1, HTd.out.2.1, HTd.out.2.2⟩
          have HW2 := Lib.hid (HD.out _ HW1.out)
          go_wp2_with fail
          go_roundw
          case rel => exact ⟨t + 1, ht1, by go_num, by first | exact HW1 | exact HW2, by first | exact HTd | exact HT2⟩
          case measure => simp [intOf]; omega
      · have HN := Lib.hid (at_step (roll := roll) HT.out (decide_eq_false hy))
        clear HT
        generalize g (t * 2) = g0 at *
        generalize g (t * 2 + 1) = g1 at *
        by_cases h1 : g0 < g1
        · have h2 : ¬ g1 ≤ roll := fun h => hy ⟨h1, h⟩
          go_upto_region 7 with fail
          go_quiet (fail)
          have HW2 := Lib.hid (below_then HW.out (Js.below_drewN wr nq))
          have HN2 := Lib.hid (at_drewN HN.out nq)
          go_wp2_with fail
          go_roundw
          case rel => exact ⟨t + 1, ht1, by go_num, HW2, HN2⟩
          case measure => simp [intOf]; omega
        · go_upto_region 7 with fail
          go_quiet (fail)
          have HW2 := Lib.hid (below_then HW.out (Js.below_drewN wr nq))
          have HN2 := Lib.hid (at_drewN HN.out nq)
          go_wp2_with fail
          go_roundw
          case rel => exact ⟨t + 1, ht1, by go_num, HW2, HN2⟩
          case measure => simp [intOf]; omega
    · obtain rfl : t = n := by omega
      have e1 : ¬ (t : Int) < (t : Int) := by omega
      have HF := Lib.hid (W1.out wr (some ⟨x, 0, none⟩) cap HW.out fun _ => ⟨x, rfl, hx, HT.out⟩)
      clear W1 XL A1 B1
      go_wp2_with fail
      exact HF.out
end Go.Proofs.Ytgclhkiiaclkgab.N1
