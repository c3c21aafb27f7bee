/- Blocks on a roll: the program's first rows with room, blocks in an order; FirstRows. -/
import Derived.Test.YtgclhkiiaclkgabPfLib
import Derived.Test.YtgclhkiiaclkgabJxLib
import Derived.StillTailTactics
namespace Go.Proofs.Ytgclhkiiaclkgab.Pj
set_option linter.unusedVariables false
open Go.RowKit Is Ge Qb Jr Js Jt Ju Jw Jx Pa P5 Pb Pc Pd Pe Pf
open Go.Proofs.Ytgclhkiiaclkgab.Ba (inB below_then below_box)

theorem ff_lt {roll : Int} {g : Nat → Int} {n : Nat} {o : Nat → Nat} (hn : n ≤ 9) (ho : ∀ j, j < n → o j < n) : ∀ {t : Nat}, t ≤ n → ∀ k, ff roll g n o t k < 512
  | 0, _, k => by show 0 < 512; omega
  | t + 1, ht, k => by
    have ih := ff_lt (roll := roll) (g := g) hn ho (t := t) (by omega)
    have h1 := ho t (by omega)
    unfold ff
    split
    · exact or_lt (ih k) (by omega)
    · exact ih k
/-- There is always a row with room. -/
theorem room {roll : Int} {n : Nat} {g : Nat → Int} {o : Nat → Nat} (h : BlP roll n g) (ho : ∀ j, j < n → o j < n) (hi : ∀ i j, i < n → j < n → o i = o j → i = j) {t : Nat} (ht : t < n) : fi (fun k => decide (ws g (ff roll g n o t k ||| 2 ^ o t) n ≤ roll)) 0 9 < 9 := by
  have h9 := h.1.2
  obtain ⟨h1, h2, _, _⟩ := ff_fst (roll := roll) (g := g) ho hi (Nat.le_of_lt ht)
  obtain ⟨_, h4⟩ := fst_in (roll := roll) h ho (Nat.le_of_lt ht)
  have h5 := blk_in (h.2 (o t) (ho t ht))
  have hno : (ff roll g n o t t).testBit (o t) = false := by
    cases q : (ff roll g n o t t).testBit (o t)
    · rfl
    · obtain ⟨i, i1, i2⟩ := h2 t _ q
      have := hi i t (by omega) ht i2
      omega
  have hy : (fun k => decide (ws g (ff roll g n o t k ||| 2 ^ o t) n ≤ roll)) t = true := by
    show decide (ws g (ff roll g n o t t ||| 2 ^ o t) n ≤ roll) = true
    rw [ws_or g hno, if_pos (ho t ht), h1 t, h4 t (Nat.le_refl _)]
    exact decide_eq_true (by omega)
  have := fi_le (p := fun k => decide (ws g (ff roll g n o t k ||| 2 ^ o t) n ≤ roll)) hy (n := 9) (k := 0) (Nat.zero_le _)
  omega
/-- A list of numbers of the kind int in memory. -/
abbrev inO (x : Int) : Obj := .cells #[.int .i64 x] 3
set_option maxHeartbeats 1000000 in
theorem iputs (A : Option Addr) (n c : Nat) (g : Nat → Int) (roll : Int) (x t : Nat) (hB : BlP roll n g) (hx : x < 512) (ht : t < 9) (b1 b2 : Nat) (w : World) (h1 : w.heap[b1]? = some (neO A n c roll)) (h2 : w.heap[b2]? = some (inO t)) (hA : Nums w w.heap.size A (n * 2) g) :
    Calls Try.prog 87 #[.int .u16 (x : Int), .pointer (some ⟨b1, 0, none⟩), .pointer (some ⟨b2, 0, none⟩)] w fun e w' => e = .returned (.bool (decide (ws g (x ||| 2 ^ t) n ≤ roll))) ∧ Below w.heap.size w w' := by
  have HA := Lib.hid hA
  have CW := Lib.hid (fun w => iwith x t hx ht w)
  have CF := Lib.hid (fun w h => ifault A n c g roll (x ||| 2 ^ t) hB (or_lt hx ht) w h)
  have HE : Hid ((!decide (roll < ws g (x ||| 2 ^ t) n)) = decide (ws g (x ||| 2 ^ t) n ≤ roll)) := Lib.hid (by
    by_cases q : roll < ws g (x ||| 2 ^ t) n
    · rw [decide_eq_true q, decide_eq_false (by omega)]; rfl
    · rw [decide_eq_false q, decide_eq_true (by omega)]; rfl)
  generalize decide (roll < ws g (x ||| 2 ^ t) n) = r at CF HE
  generalize decide (ws g (x ||| 2 ^ t) n ≤ roll) = r2 at HE ⊢
  generalize x ||| 2 ^ t = y at CW CF
  obtain ⟨z0, z1⟩ := blk2 h1
  have y0 := Ba.blk1 h2
  have z0' := bey_cell z0
  have z1' := bey_cell z1
  have y0' := bey_cell y0
  have CW1 := Lib.hid (fun p : Beyond w => CW.out p.to)
  have CF1 := Lib.hid (fun p : Beyond w => CF.out p.to ((HA.out.below p.h (Nat.le_refl _)).more p.h.size))
  clear z0 z1 y0 CW CF h1 h2 hA
  go_enter Try.func87, Try.ntmps87
  go_upto_region 1 with fail
  refine wp_region_below (by kernel_rfl) (by kernel_rfl) ?_
  repeat (go_big_quiet_step (first | (go_at_call 88; with_reducible exact bey_same _ (CW1.out _)) | (go_at_call 86; with_reducible exact bey_of _ (CF1.out _))))
  refine wpQuiet_nil ?_
  rintro _ ⟨pq, rfl⟩
  have HQ := Lib.hid pq.h
  generalize pq.to = wq at HQ ⊢
  go_wp2_with fail
  go_ret
  exact ⟨Ba.ret_bool HE.out, HQ.out⟩
/-- The blocks while rows are filled. -/
structure Pt (w wr : World) (o : Obj) (f : Nat → Nat) : Prop where
  bel : Below w.heap.size w wr
  box : wr.heap[w.heap.size]? = some o
  fil : wr.heap[w.heap.size + 1]? = some (flO f)
theorem Pt.below {w wr w' : World} {o : Obj} {f : Nat → Nat} (h : Pt w wr o f) (hb : Below wr.heap.size wr w') : Pt w w' o f := ⟨below_then h.bel hb, Ge.blk_keep hb h.box, Ge.blk_keep hb h.fil⟩
theorem Pt.set {w wr : World} {o : Obj} {f : Nat → Nat} (h : Pt w wr o f) {k : Nat} (hk : k < 9) (x : Nat) : Pt w (wr.setCell ⟨w.heap.size + 1, k, none⟩ (.int .u16 (x : Int))) o (fun j => if j = k then x else f j) :=
  ⟨h.bel.setCell (p := ⟨w.heap.size + 1, k, none⟩) (Nat.le_succ _) _, (Below.heap_setCell _ _ _ _ (by show w.heap.size ≠ w.heap.size + 1; omega)).trans h.box, fl_set h.fil hk x⟩
set_option maxRecDepth 100000 in
set_option maxHeartbeats 4000000 in
theorem iput (A : Option Addr) (n c : Nat) (g : Nat → Int) (roll : Int) (P : Option Addr) (pc : Nat) (o : Nat → Nat) (hB : BlP roll n g) (ho : ∀ j, j < n → o j < n) (hi : ∀ i j, i < n → j < n → o i = o j → i = j) (w : World) (hA : Nums w w.heap.size A (n * 2) g) (hR : Nums w w.heap.size P n (fun j => (o j : Int))) :
    Calls Try.prog 68 #[neV A n c roll, .slice P n pc] w fun e w' => ∃ x, e = .returned (.slice (some ⟨x, 0, none⟩) n n) ∧ w.heap.size ≤ x ∧ Below w.heap.size w w' ∧ At w' x n (fun j => lk (ff roll g n o n) j 9) := by
  have HA := Lib.hid hA
  have HR := Lib.hid hR
  have BX : Hid (Pt w ((w.alloc (neO A n c roll)).alloc (flO fun _ => 0)) (neO A n c roll) (ff roll g n o 0)) := Lib.hid ⟨below2 w _ _, (two w (neO A n c roll) (flO fun _ => 0)).1, (two w (neO A n c roll) (flO fun _ => 0)).2⟩
  have n9 := hB.1.2
  have FL := Lib.hid (fun t (ht : t ≤ n) => ff_lt (roll := roll) (g := g) n9 ho ht)
  have OL := Lib.hid ho
  have RM := Lib.hid (fun t (ht : t < n) => room hB ho hi ht)
  have FS : Hid (∀ t, ff roll g n o (t + 1) = fun j => if j = fi (fun k => decide (ws g (ff roll g n o t k ||| 2 ^ o t) n ≤ roll)) 0 9 then ff roll g n o t (fi (fun k => decide (ws g (ff roll g n o t k ||| 2 ^ o t) n ≤ roll)) 0 9) ||| 2 ^ o t else ff roll g n o t j) := Lib.hid fun t => by
    funext j
    show (if j = _ then ff roll g n o t j ||| 2 ^ o t else ff roll g n o t j) = _
    by_cases e : j = fi (fun k => decide (ws g (ff roll g n o t k ||| 2 ^ o t) n ≤ roll)) 0 9
    · rw [if_pos e, if_pos e, ← e]
    · rw [if_neg e, if_neg e]
  have CI : Hid (∀ t, t < n → ∀ (b2 : Nat) (W : World), Pt w W (neO A n c roll) (ff roll g n o t) → W.heap[b2]? = some (inO (o t)) → Calls Try.prog 85 #[.slice (some ⟨w.heap.size + 1, 0, none⟩) 9 9, .func (.func 87) #[] #[.pointer (some ⟨w.heap.size, 0, none⟩), .pointer (some ⟨b2, 0, none⟩)]] W fun e w' => e = .returned (.int .i64 (fi (fun k => decide (ws g (ff roll g n o t k ||| 2 ^ o t) n ≤ roll)) 0 9 : Int)) ∧ Below W.heap.size W w') := Lib.hid fun t ht b2 W hW hb2 => by
    have e : (fi (fun k => decide (ws g (ff roll g n o t k ||| 2 ^ o t) n ≤ roll)) 0 9 : Int) = fx (fun k => decide (ws g (ff roll g n o t k ||| 2 ^ o t) n ≤ roll)) := by
      unfold fx
      rw [if_pos (room hB ho hi ht)]
    rw [e]
    refine idx_c 87 _ _ (w.heap.size + 1) 0 (ff roll g n o t) _ W (Go.Proofs.enters_of Try.func87 (by kernel_rfl) rfl) (Ge.lt_of_heap hW.fil) (fun k hk => by rw [Nat.zero_add]; exact fl_cell hW.fil hk) fun W2 k hk hb => ?_
    have hW2 := hW.below hb
    exact iputs A n c g roll _ _ hB (ff_lt n9 ho (Nat.le_of_lt ht) k) (by have := ho t ht; omega) _ _ W2 hW2.box (Ge.blk_keep hb hb2) ((hA.below hW2.bel (Nat.le_refl _)).more hW2.bel.size)
  have CR := Lib.hid (fun w => irows (ff roll g n o n) n (ff_lt n9 ho (Nat.le_refl n)) n9 w)
  have CW := Lib.hid (fun x t (hx : x < 512) (ht : t < 9) w => iwith x t hx ht w)
  clear hA hR ho hi hB
  generalize (fun j => lk (ff roll g n o n) j 9) = D at CR ⊢
  generalize ff roll g n o = F at BX FL RM FS CI CR
  go_enter Try.func68, Try.ntmps68
  go_upto_region 2 with fail
  generalize hw9 : World.alloc _ _ = w0 at BX ⊢
  clear hw9
  go_wp2_with fail
  go_loopw [7, 8, 11] (fun _ _ i wr => ∃ t : Nat, t ≤ n ∧ i = .int .i64 (t : Int) ∧ Hid (Pt w wr (neO A n c roll) (F t))) (fun _ _ i _ => n - (intOf i).toNat)
  case atStart => exact ⟨0, Nat.zero_le _, rfl, BX⟩
  case round =>
    obtain ⟨t, ht, rfl, HB⟩ := hrel
    have e0 : (0 : Int) ≤ (t : Int) := Int.natCast_nonneg _
    by_cases hlt : t < n
    · have e1 : (t : Int) < (n : Int) := by omega
      obtain ⟨b, off, rfl, hb, hc⟩ := (HR.out.below HB.out.bel (Nat.le_refl _)) (by omega)
      have x0 := hc t hlt
      have HP1 := Lib.hid (HB.out.below (below_box wr (inO (o t))))
      have KO := Lib.hid (heap_alloc_new wr (inO (o t)))
      have CI1 := Lib.hid (CI.out t hlt wr.heap.size (wr.alloc (inO (o t))) HP1.out KO.out)
      have hz9 := RM.out t hlt
      have FSt := Lib.hid (FS.out t)
      have fl := FL.out t ht
      have ol := OL.out t hlt
      have ht1 : t + 1 ≤ n := by omega
      clear hc CI RM FS FL HB
      generalize fi (fun k => decide (ws g (F t k ||| 2 ^ o t) n ≤ roll)) 0 9 = z at CI1 hz9 FSt
      have CK := Lib.hid (CW.out (F t z) (o t) (fl z) (by omega))
      have z0 : (0 : Int) ≤ (z : Int) := Int.natCast_nonneg _
      have z8 : (z : Int) ≤ 8 := by omega
      have z9 : (z : Int) < 9 := by omega
      have hgb : w.heap.size + 1 < wr.heap.size := by
        have h1 := KO.out
        have h2 := HP1.out.fil
        have h3 := Ge.lt_of_heap h2
        rw [World.size_alloc] at h3
        by_cases e : w.heap.size + 1 = wr.heap.size
        · rw [e] at h2
          rw [h1] at h2
          cases h2
        · omega
      go_upto_region 5 with fail
      generalize hw9 : World.alloc _ _ = w2 at HP1 KO CI1 ⊢
      clear hw9 x0
      generalize wr.heap.size = go at *
      go_wp2_with fail
      refine CI1.out.mono ?_
      rintro e w3 ⟨rfl, b3⟩
      have HP3 := Lib.hid (HP1.out.below b3)
      have KO3 := Lib.hid (Ge.blk_keep b3 KO.out)
      clear b3 HP1 KO CI1
      have N0 := Lib.hid fun w => (CK.out w).mono fun e w' (h : e = .returned (.int .u16 ((F t z ||| 2 ^ o t : Nat) : Int)) ∧ w = w') => (⟨h.1, h.2.symm⟩ : e = .returned (.int .u16 ((F t z ||| 2 ^ o t : Nat) : Int)) ∧ w' = w)
      have y0 := fl_cell HP3.out.fil hz9
      have x0 := Ba.blk1 KO3.out
      have HN := Lib.hid (fun (W : World) (h : Pt w W (neO A n c roll) (F t)) => h.set hz9 (F t z ||| 2 ^ o t))
      clear CK
      generalize F t z ||| 2 ^ o t = y at N0 FSt HN
      generalize F t z = x at y0 N0
      go_upto_region 6 with fail
      refine wp_region_still_tail 7 (by kernel_rfl) (by kernel_rfl) ?_
      simp only [List.take_succ_cons, List.take_zero, List.drop_succ_cons, List.drop_zero]
      repeat (first | still_step | still_call (N0.out _))
      try refine wpStill_nil ?_
      change wpList _ _ _ _ _ w3.drew
      have HPd := Lib.hid (HP3.out.below (Below.drew (Below.refl _ _)))
      clear N0 x0 y0 HP3 KO3
      generalize w3.drew = wd at HPd ⊢
      have y0 := fl_cell HPd.out.fil hz9
      have hfr := blk_free HPd.out.fil z
      have HNd := Lib.hid (HN.out wd HPd.out)
      clear HN HPd
      generalize F t z = x at y0
      go_wp2_with fail
      go_roundw
      case rel => exact ⟨t + 1, ht1, by go_num, by rw [FSt.out]; exact HNd⟩
      case measure => simp [intOf]; omega
    · obtain rfl : t = n := by omega
      obtain ⟨z0, z1, z2, z3, z4, z5, z6, z7, z8⟩ := blk9 HB.out.fil
      obtain ⟨y0, y1⟩ := blk2 HB.out.box
      have HQ := Lib.hid HB.out.bel
      clear CI RM FS FL HB
      go_wp2_with fail
      refine (CR.out _).mono ?_
      rintro e w3 ⟨rfl, b3, a3⟩
      have HF := Lib.hid (below_then HQ.out b3)
      have ha := Lib.hid a3
      have hs := HQ.out.size
      clear b3 a3 z0 z1 z2 z3 z4 z5 z6 z7 z8 y0 y1
      go_wp2_with fail
      go_ret
      exact ⟨_, rfl, by omega, HF.out, ha.out⟩
/-- Rows that are found are rows. -/
theorem rows_in {roll : Int} {n : Nat} {g : Nat → Int} {o : Nat → Nat} (h : BlP roll n g) (ho : ∀ j, j < n → o j < n) : ∀ {t : Nat}, t ≤ n → ∀ j, 0 ≤ (fst roll g o t).2 j ∧ (fst roll g o t).2 j ≤ 8
  | 0, _, j => ⟨Int.le_refl _, by show (0 : Int) ≤ 8; omega⟩
  | t + 1, ht, j => by
    have h9 := h.1.2
    have ih := rows_in h ho (t := t) (by omega) j
    obtain ⟨_, h2⟩ := fst_in (roll := roll) h ho (show t ≤ n by omega)
    have h3 := blk_in (h.2 (o t) (ho t (by omega)))
    have hy : (fun k => decide ((fst roll g o t).1 k + g (o t * 2) ≤ roll)) t = true := by
      show decide ((fst roll g o t).1 t + g (o t * 2) ≤ roll) = true
      rw [h2 t (Nat.le_refl _)]
      exact decide_eq_true (by omega)
    have hle : rk roll (g (o t * 2)) (fst roll g o t).1 ≤ t := fi_le (p := fun k => decide ((fst roll g o t).1 k + g (o t * 2) ≤ roll)) hy (Nat.zero_le _)
    show 0 ≤ (if j = o t then ((rk roll (g (o t * 2)) (fst roll g o t).1 : Nat) : Int) else (fst roll g o t).2 j) ∧ (if j = o t then ((rk roll (g (o t * 2)) (fst roll g o t).1 : Nat) : Int) else (fst roll g o t).2 j) ≤ 8
    split <;> omega
theorem at_put {w : World} {x n : Nat} {roll : Int} {g : Nat → Int} {o : Nat → Nat} (h : BlP roll n g) (ho : ∀ j, j < n → o j < n) (hi : ∀ i j, i < n → j < n → o i = o j → i = j) (hs : ∀ j, j < n → ∃ i, i < n ∧ o i = j) (a : At w x n (fun j => lk (ff roll g n o n) j 9)) : At w x n (fst roll g o n).2 :=
  ⟨a.1, fun i hi2 => (a.2.1 i hi2).trans (congrArg (fun z => some (Value.int .i64 z)) (lk_ff ho hi hs (fun j _ => rows_in h ho (Nat.le_refl n) j) hi2)), a.2.2⟩
theorem info_i : (Try.prog.info? 3).map (fun i => (i.zero, i.size, i.bytes)) = some (some (.int .i64 0), 1, 8) := by kernel_rfl
theorem row_starti (w : World) (k : Nat) (hk : k ≤ 1048576) (f : Nat → Int) : (w.alloc (.cells (Go.madeCells #[Value.int .i64 0] k) 3)).ownsRow w.heap.size 3 1 (.slice (some ⟨w.heap.size, 0, none⟩) 0 k) 0 (upto f 0) :=
  ⟨rfl, .inr ⟨_, k, _, rfl, Nat.le_refl _, heap_alloc_new _ _, by omega, by unfold maxLen; omega, by rw [size_madeCells]; omega, rfl⟩⟩
theorem make_rowi (n : Nat) (hn : n ≤ 1048576) (w : World) : (Instr.makeSlice 78 (.int .i64 0) (.int .i64 (n : Int))).run Try.prog w = .ok (.slice (some ⟨w.heap.size, 0, none⟩) 0 n) (w.alloc (.cells (Go.madeCells (Value.int .i64 0).cells (n * 1)) 3)) := by
  obtain ⟨i0, hi0, hz0, hz1, hz2⟩ := info_parts info_i
  have := run_make w _ _ i0 _ Try.underlying78 hi0 hz0 .i64 .i64 0 n (by omega) (by omega) (by rw [hz2]; omega) (by omega)
  rw [hz1] at this
  simpa using this
theorem nums_rowi {w : World} {B n : Nat} {f : Nat → Int} {v : Value} (h : w.ownsRow B 3 1 v n (upto f n)) : ∃ A cap, v = .slice A n cap ∧ Nums w w.heap.size A n f := by
  rcases h.2 with ⟨rfl, rfl⟩ | ⟨g, cap, cur, rfl, hbg, hh, _⟩
  · exact ⟨none, 0, rfl, fun h => absurd h (by omega)⟩
  · exact ⟨_, cap, rfl, fun _ => ⟨g, 0, rfl, Ge.lt_of_heap hh, fun i hi => by rw [Nat.zero_add]; exact (h.cellAt i (by omega)).trans (upto_get f hi)⟩⟩
set_option maxRecDepth 100000 in
set_option maxHeartbeats 4000000 in
theorem ilist (A : Option Addr) (n c : Nat) (roll : Int) (hn : n ≤ 1048576) (w : World) :
    Calls Try.prog 69 #[neV A n c roll] w fun e w' => ∃ P pc, e = .returned (.slice P n pc) ∧ Nums w' w'.heap.size P n (fun j => (j : Int)) ∧ Below w.heap.size w w' := by
  have BX := Lib.hid (Bx.of w (neO A n c roll))
  have HMK := Lib.hid (fun w => make_rowi n hn w)
  obtain ⟨i0, hi0, hz0, hz1, hz2⟩ := info_parts info_i
  have HIn := Lib.hid (And.intro hi0 (And.intro hz0 (And.intro hz1 hz2)))
  clear hi0 hz0 hz1 hz2
  have n0 : (0 : Int) ≤ (n : Int) := Int.natCast_nonneg _
  go_enter Try.func69, Try.ntmps69
  go_upto_region 1 with fail
  generalize hw9 : World.alloc _ _ = w0 at BX ⊢
  clear hw9
  obtain ⟨z0, z1⟩ := blk2 BX.out.box
  have hm := HMK.out w0
  go_upto_region 2 with fail
  clear hm HMK
  have BX1 := Lib.hid (BX.out.below (below_box w0 (.cells (Go.madeCells #[Value.int .i64 0] n) 3)))
  have R0 := Lib.hid (row_starti w0 n hn (fun j => (j : Int)))
  have B0 := Lib.hid (below_box w0 (.cells (Go.madeCells #[Value.int .i64 0] n) 3))
  clear z0 z1
  generalize hw9 : World.alloc _ _ = w1 at BX1 R0 B0 ⊢
  clear hw9
  obtain ⟨z0, z1⟩ := blk2 BX1.out.box
  go_wp2_with fail
  clear z0 z1 BX1
  go_loopw [3, 4, 12] (fun o _ u wr => ∃ (r : Nat) (v : Value), r ≤ n ∧ v = o ∧ u = .int .i64 (r : Int) ∧ Hid (Below w0.heap.size w0 wr) ∧ Hid (wr.ownsRow w0.heap.size 3 1 v r (upto (fun j => (j : Int)) r))) (fun _ _ u _ => n - (intOf u).toNat)
  case atStart => exact ⟨0, _, Nat.zero_le _, rfl, rfl, B0, R0⟩
  case round =>
    obtain ⟨r, v, hr, rfl, rfl, HW, HO⟩ := hrel
    have i0' : (0 : Int) ≤ (r : Int) := Int.natCast_nonneg _
    by_cases hrl : r < n
    · have i1 : (r : Int) < (n : Int) := by omega
      have hsz := HW.out.size
      have HU : Hid (upto (fun j => (j : Int)) (r + 1) = upto (fun j => (j : Int)) r ++ [.int .i64 (r : Int)]) := Lib.hid (upto_snoc _ r)
      have hr1 : r + 1 ≤ n := by omega
      generalize hcl : upto (fun j => (j : Int)) r = cl at HO HU
      clear hcl
      go_wp2_with (at_builtin; refine wpList_append_own _ rfl _ _ 78 rfl w0.heap.size 3 i0 _ 1 8 Try.underlying78 HIn.out.1 HIn.out.2.1 HIn.out.2.2.1 HIn.out.2.2.2 rfl (by decide) _ _ _ rfl (HO.out.alloc _) ⟨wr.heap.size, 0, none⟩ 1 1 [.int .i64 (r : Int)] rfl rfl ?c1 ?c2 ?c3 ?c4 ?c5 ?_)
      try case c1 => exact Ow.cell_new _ _ _
      try case c2 => simp [Value.oneCell']
      try case c3 => unfold maxLen; omega
      try case c4 => omega
      try case c5 => first | omega | (simp <;> omega)
      intro v' w6 hown2 hgrow _
      have HQ6 := Lib.hid ((HW.out.alloc hsz _).grown hgrow (by simp; omega) fun g hg => (HO.out.lt g hg).1)
      have HO6 : Hid (w6.ownsRow w0.heap.size 3 1 v' (r + 1) (upto (fun j => (j : Int)) (r + 1))) := Lib.hid (by rw [HU.out]; exact hown2)
      clear hown2 hgrow
      go_wp2_with fail
      go_roundw
      case rel => exact ⟨r + 1, _, hr1, rfl, by go_num, HQ6, HO6⟩
      case measure => simp [intOf]; omega
    · obtain rfl : r = n := by omega
      have HZ := Lib.hid (nums_rowi HO.out)
      have HQ := Lib.hid (below_then BX.out.bel HW.out)
      go_wp2_with fail
      go_ret
      obtain ⟨P, pc, rfl, hP⟩ := HZ.out
      exact ⟨P, pc, rfl, hP, HQ.out⟩
set_option maxRecDepth 100000 in
set_option maxHeartbeats 4000000 in
theorem impl_fr (A : Option Addr) (n c : Nat) (g : Nat → Int) (roll : Int) (hn : n ≤ 1048576) (w : World) (hA : Nums w w.heap.size A (n * 2) g) :
    Calls Try.prog 29 #[.slice A n c, .int .i64 roll] w (RowAt roll n g id w) := by
  have HA := Lib.hid hA
  have CN := Lib.hid (inest A n c g roll hn w hA)
  have V0 := Lib.hid (fun h W (hb : Below w.heap.size w W) => row_no (roll := roll) (n := n) (g := g) (o := id) h hb)
  have V1 : Hid (tv (BlP roll n g) = true → ∀ (W : World) (x : Nat), Below w.heap.size w W → w.heap.size ≤ x → At W x n (fun j => lk (ff roll g n id n) j 9) → RowAt roll n g id w (.returned (.tuple #[.slice (some ⟨x, 0, none⟩) n n, .int .i64 0])) W) := Lib.hid fun h W x hb hx ha => by
    have a2 := at_put (tv_iff.1 h) (o := id) (fun j hj => hj) (fun i j _ _ e => e) (fun j hj => ⟨j, hj, rfl⟩) ha
    unfold RowAt rwN blC
    rw [if_pos h, if_pos h]
    exact ⟨_, _, rfl, Lib.hid (own_at a2 hx), hb⟩
  have CL := Lib.hid (fun w => ilist A n c roll hn w)
  have CP := Lib.hid (fun (h : tv (BlP roll n g) = true) P pc w h1 h2 => iput A n c g roll P pc id (tv_iff.1 h) (fun j hj => hj) (fun i j _ _ e => e) w h1 h2)
  clear hA
  unfold blC at CN
  generalize RowAt roll n g id w = Q at V0 V1 ⊢
  generalize tv (BlP roll n g) = ok at CN CP V0 V1
  cases ok
  · have V := Lib.hid (V0.out rfl)
    clear V0 V1 CP CL
    rw [if_neg (show ¬ false = true by simp), if_neg (show ¬ false = true by simp)] at CN
    go_enter Try.func29, Try.ntmps29
    go_wp2_with fail
    refine CN.out.mono ?_
    rintro e w1 ⟨rfl, b1⟩
    have HF := Lib.hid (V.out _ (below_then b1 (below_box w1 (neO none 0 0 0))))
    clear b1 CN HA V
    go_wp2_with fail
    exact HF.out
  have V := Lib.hid (V1.out rfl)
  have CP1 := Lib.hid (CP.out rfl)
  rw [if_pos rfl, if_pos rfl] at CN
  clear V0 V1 CP
  go_enter Try.func29, Try.ntmps29
  go_wp2_with fail
  refine CN.out.mono ?_
  rintro e w1 ⟨rfl, b1⟩
  have HB := Lib.hid (below_then b1 (below_box w1 (neO A n c roll)))
  have KN := Lib.hid (heap_alloc_new w1 (neO A n c roll))
  clear b1 CN
  go_upto_region 4 with fail
  generalize hw9 : World.alloc _ _ = w2 at HB KN ⊢
  clear hw9
  generalize w1.heap.size = gn at *
  have KEEP : Hid (∀ W : World, Below w2.heap.size w2 W → W.cell? ⟨gn, 0, none⟩ = some (.slice A n c) ∧ W.cell? ⟨gn, 1, none⟩ = some (.int .i64 roll)) := Lib.hid fun W hW => blk2 (Ge.blk_keep hW KN.out)
  have CP2 : Hid (∀ P pc (W : World), Below w2.heap.size w2 W → Nums W W.heap.size P n (fun j => (j : Int)) → Calls Try.prog 68 #[neV A n c roll, .slice P n pc] W fun e w' => ∃ x, e = .returned (.slice (some ⟨x, 0, none⟩) n n) ∧ W.heap.size ≤ x ∧ Below W.heap.size W w' ∧ At w' x n (fun j => lk (ff roll g n id n) j 9)) := Lib.hid fun P pc W hW hP => CP1.out P pc W ((HA.out.below (below_then HB.out hW) (Nat.le_refl _)).more (below_then HB.out hW).size) hP
  obtain ⟨y0, y1⟩ := KEEP.out w2 (Below.refl _ _)
  clear KN CP1 HA
  go_region_with (first | (go_at_call 69; refine (CL.out _).mono ?_; rintro e w3 ⟨P3, pc3, rfl, hN3, b3⟩; have b4 := below_then (w0 := w2) ?_ b3; rotate_left; (focus (repeat (first | (with_reducible exact Below.refl _ _) | refine Below.drew ?_))); obtain ⟨y0, y1⟩ := KEEP.out _ b4; clear b3) | (go_at_call 68; (with_reducible refine (CP2.out _ _ _ b4 hN3).mono ?_); rintro e w5 ⟨x5, rfl, hx5, b5, a5⟩))
  all_goals
    have hs2 := HB.out.size
    have hs4 := b4.size
    have HZ := Lib.hid (V.out _ x5 (below_then (below_then HB.out b4) b5) (by omega) a5)
    clear b4 b5 a5 hN3 y0 y1
    simp only [List.getElem_toArray, List.getElem_cons_succ, List.getElem_cons_zero, Act.put, List.setIfInBounds_toArray, List.set_cons_succ, List.set_cons_zero]
    go_wp2_with fail
    exact HZ.out
end Go.Proofs.Ytgclhkiiaclkgab.Pj
