/- Patterns: the law's marks in a copy; blocks from lo to hi alone have been written. -/
import Derived.Test.YtnojnikophpnoaaPtLib
import Derived.Test.YtnojnikophpnoaaMtLib
namespace Go.Proofs.Ytnojnikophpnoaa.Ps
set_option linter.unusedVariables false
open Go.RowKit Ft Is Ge Qb Pt Bw

/-- Blocks from lo to hi alone have been written. -/
structure Span (lo hi : Nat) (w w' : World) : Prop where
  os : w'.os = w.os
  tape : w'.tape = w.tape
  output : w'.output = w.output
  size : w.heap.size ≤ w'.heap.size
  block : ∀ k, k < w.heap.size → (k < lo ∨ hi ≤ k) → w'.heap[k]? = w.heap[k]?
theorem Span.refl (lo hi : Nat) (w : World) : Span lo hi w w := ⟨rfl, rfl, rfl, Nat.le_refl _, fun _ _ _ => rfl⟩
theorem Span.trans {lo hi : Nat} {a b c : World} (h : Span lo hi a b) (k : Span lo hi b c) : Span lo hi a c :=
  ⟨k.os.trans h.os, k.tape.trans h.tape, k.output.trans h.output, Nat.le_trans h.size k.size, fun j hj hn => (k.block j (Nat.lt_of_lt_of_le hj h.size) hn).trans (h.block j hj hn)⟩
theorem Span.of_below {lo hi : Nat} {w w' : World} (h : Below w.heap.size w w') : Span lo hi w w' := ⟨h.os, h.tape, h.output, h.size, fun k hk _ => h.block k hk⟩
theorem Span.of_but {lo hi b : Nat} {w w' : World} (h : But b w w') (h1 : lo ≤ b) (h2 : b < hi) : Span lo hi w w' := ⟨h.os, h.tape, h.output, h.size, fun k hk hn => h.block k hk (by omega)⟩
theorem Span.setCell {lo hi : Nat} {a w : World} (h : Span lo hi a w) {b o : Nat} (h1 : lo ≤ b) (h2 : b < hi) (u : Value) : Span lo hi a (w.setCell ⟨b, o, none⟩ u) :=
  ⟨h.os, h.tape, h.output, by simpa using h.size, fun k hk hn => (Below.heap_setCell _ _ _ _ (by show k ≠ b; omega)).trans (h.block k hk hn)⟩
theorem Span.below {lo hi B : Nat} {w w' : World} (h : Span lo hi w w') (hB : B ≤ lo) (hs : B ≤ w.heap.size) : Below B w w' := ⟨h.os, h.tape, h.output, h.size, fun k hk => h.block k (by omega) (by omega)⟩
theorem Span.cell {lo hi : Nat} {w w' : World} (h : Span lo hi w w') {b o : Nat} {v : Value} (hb : b < lo ∨ hi ≤ b) (hc : w.cell? ⟨b, o, none⟩ = some v) : w'.cell? ⟨b, o, none⟩ = some v :=
  (World.cell?_of_block (h.block b (World.block_lt_of_cell? w _ hc) hb)).trans hc
theorem Span.mono {lo hi hi' : Nat} {w w' : World} (h : Span lo hi w w') (hh : hi ≤ hi') : Span lo hi' w w' := ⟨h.os, h.tape, h.output, h.size, fun k hk hn => h.block k hk (by omega)⟩
theorem at_span {lo hi g n : Nat} {w w' : World} {f : Nat → Int} (ho : At w g n f) (h : Span lo hi w w') (hg : g < lo ∨ hi ≤ g) : At w' g n f :=
  ⟨Nat.lt_of_lt_of_le ho.1 h.size, fun i hi => h.cell hg (ho.2.1 i hi), fun i => (World.frozen?_of_block (a := ⟨g, i, none⟩) (h.block g ho.1 hg)).trans (ho.2.2 i)⟩
theorem blk_span {lo hi g : Nat} {w w' : World} {o : Obj} (ho : w.heap[g]? = some o) (h : Span lo hi w w') (hg : g < lo ∨ hi ≤ g) : w'.heap[g]? = some o := (h.block g (lt_of_heap ho) hg).trans ho
theorem own_span {lo hi B n : Nat} {w w' : World} {A : Option Addr} {f : Nat → Int} (ho : Own w B A n f) (h : Span lo hi w w') (hB : hi ≤ B) : Own w' B A n f := fun hn => by
  obtain ⟨b, off, rfl, hb, hlt, hc, hf⟩ := ho hn
  have hne : b < lo ∨ hi ≤ b := by omega
  exact ⟨b, off, rfl, hb, Nat.lt_of_lt_of_le hlt h.size, fun i hi => h.cell hne (hc i hi), fun i => (World.frozen?_of_block (a := ⟨b, i, none⟩) (h.block b hlt hne)).trans (hf i)⟩
theorem nums_span {lo hi B n : Nat} {w w' : World} {A : Option Addr} {f : Nat → Int} (ho : Nums w B A n f) (h : Span lo hi w w') (hB : B ≤ lo) : Nums w' B A n f := fun hn => by
  obtain ⟨b, off, rfl, hb, hc⟩ := ho hn
  exact ⟨b, off, rfl, hb, fun i hi => h.cell (.inl (by omega)) (hc i hi)⟩
theorem at_but' {g b n : Nat} {w w' : World} {f : Nat → Int} (ho : At w g n f) (h : But b w w') (hg : g ≠ b) : At w' g n f :=
  ⟨Nat.lt_of_lt_of_le ho.1 h.size, fun i hi => h.cell hg (ho.2.1 i hi), fun i => (World.frozen?_of_block (a := ⟨g, i, none⟩) (h.block g ho.1 hg)).trans (ho.2.2 i)⟩
/-- The law's marks in a row, which stays one. -/
theorem mark_row (g n c : Nat) (k0 : Int) (f : Nat → Int) (hn : n ≤ 1048576) (h0 : 0 ≤ k0) (h1 : k0 ≤ 1073741824) (w : World) (h : At w g n f) :
    Calls Try.prog 24 #[.slice (some ⟨g, 0, none⟩) n c, .int .i64 k0] w fun e w' => e = .returned (.int .i64 (k0 + (n : Int))) ∧ At w' g n (Is.mk k0) ∧ But g w w' := by
  have HO : Hid (At w g n (Is.part k0 f 0)) := Lib.hid ⟨h.1, fun i hi => by rw [h.2.1 i hi]; simp [Is.part], h.2.2⟩
  have HE : Hid (∀ w', At w' g n (Is.part k0 f n) → At w' g n (Is.mk k0)) := Lib.hid fun w' h => ⟨h.1, fun i hi => by rw [h.2.1 i hi]; simp [Is.part, hi], h.2.2⟩
  clear h
  go_enter Try.func24, Try.ntmps24
  go_wp2_with fail
  go_loopw [1, 5] (fun kk i wr => ∃ j : Nat, j ≤ n ∧ i = .int .i64 j ∧ kk = .int .i64 (k0 + (j : Int)) ∧ But g w wr ∧ Hid (At wr g n (Is.part k0 f j))) (fun _ i _ => n - (intOf i).toNat)
  case atStart => exact ⟨0, Nat.zero_le _, rfl, by simp, But.refl _ _, HO⟩
  case round =>
    obtain ⟨j, hj, rfl, rfl, hbut, hat⟩ := hrel
    have HB := Lib.hid hbut
    by_cases hlt : j < n
    · have x0 := hat.out.2.1 j hlt
      have z0 := hat.out.2.2 j
      have HN := Lib.hid (at_part (k0 := k0) (f := f) hat.out hlt)
      have HM : Hid (Is.mk k0 j = k0 + (j : Int)) := Lib.hid rfl
      clear hbut hj
      generalize Is.part k0 f j j = old at x0
      go_wp2_with fail
      rw [HM.out] at HN
      have HQ := Lib.hid (HB.out.setCell j (.int .i64 (k0 + (j : Int))))
      go_roundw
      case rel => exact ⟨j + 1, by omega, by go_num, by go_num, HQ.out, HN⟩
      case measure => simp [intOf]; omega
    · obtain rfl : j = n := by omega
      have HF := Lib.hid (HE.out _ hat.out)
      go_wp2_with fail
      go_ret
      exact ⟨rfl, HF.out, HB.out⟩
/-- The law's marks in a copy of seams. -/
theorem four_part {w : World} {g n j : Nat} {k0 : Int} {f : Nat → Int} (h : At w g n (Is.part k0 f (j * 4))) (hj : j * 4 + 3 < n) : At ((((w.setCell ⟨g, j * 4, none⟩ (.int .i64 (Is.mk k0 (j * 4)))).setCell ⟨g, j * 4 + 1, none⟩ (.int .i64 (Is.mk k0 (j * 4 + 1)))).setCell ⟨g, j * 4 + 2, none⟩ (.int .i64 (Is.mk k0 (j * 4 + 2)))).setCell ⟨g, j * 4 + 3, none⟩ (.int .i64 (Is.mk k0 (j * 4 + 3)))) g n (Is.part k0 f ((j + 1) * 4)) := by
  rw [show (j + 1) * 4 = j * 4 + 1 + 1 + 1 + 1 by omega]
  exact at_part (at_part (at_part (at_part h (by omega)) (by omega)) (by omega)) (by omega)
set_option maxRecDepth 100000 in
theorem mark_seams (g n c : Nat) (k0 : Int) (f : Nat → Int) (hn : n ≤ 1048576) (h0 : 0 ≤ k0) (h1 : k0 ≤ 1073741824) (w : World) (h : At w g (n * 4) f) :
    Calls Try.prog 61 #[.slice (some ⟨g, 0, none⟩) n c, .int .i64 k0] w fun e w' => e = .returned (.int .i64 (k0 + 4 * (n : Int))) ∧ But g w w' := by
  have HO : Hid (At w g (n * 4) (Is.part k0 f (0 * 4))) := Lib.hid ⟨h.1, fun i hi => by rw [h.2.1 i hi]; simp [Is.part], h.2.2⟩
  clear h
  go_enter Try.func61, Try.ntmps61
  go_wp2_with fail
  go_loopw [1, 5] (fun kk i wr => ∃ j : Nat, j ≤ n ∧ i = .int .i64 j ∧ kk = .int .i64 (k0 + 4 * (j : Int)) ∧ But g w wr ∧ Hid (At wr g (n * 4) (Is.part k0 f (j * 4)))) (fun _ i _ => n - (intOf i).toNat)
  case atStart => exact ⟨0, Nat.zero_le _, rfl, by simp, But.refl _ _, HO⟩
  case round =>
    obtain ⟨j, hj, rfl, rfl, hbut, hat⟩ := hrel
    have HB := Lib.hid hbut
    by_cases hlt : j < n
    · have x0 := hat.out.2.1 (j * 4) (by omega)
      have x1 := hat.out.2.1 (j * 4 + 1) (by omega)
      have x2 := hat.out.2.1 (j * 4 + 2) (by omega)
      have x3 := hat.out.2.1 (j * 4 + 3) (by omega)
      have z0 := hat.out.2.2 (j * 4)
      have z1 := hat.out.2.2 (j * 4 + 1)
      have z2 := hat.out.2.2 (j * 4 + 2)
      have z3 := hat.out.2.2 (j * 4 + 3)
      have HN := Lib.hid (four_part (k0 := k0) (f := f) hat.out (show j * 4 + 3 < n * 4 by omega))
      rw [show Is.mk k0 (j * 4) = k0 + 4 * (j : Int) by unfold Is.mk; omega, show Is.mk k0 (j * 4 + 1) = k0 + 4 * (j : Int) + 1 by unfold Is.mk; omega, show Is.mk k0 (j * 4 + 2) = k0 + 4 * (j : Int) + 1 + 1 by unfold Is.mk; omega, show Is.mk k0 (j * 4 + 3) = k0 + 4 * (j : Int) + 1 + 1 + 1 by unfold Is.mk; omega] at HN
      have e0 : (0 : Int) ≤ (j : Int) := Int.natCast_nonneg _
      have e1 : (j : Int) < (n : Int) := by omega
      have e2 : (j : Int) < 1048576 := by omega
      have hj1 : j + 1 ≤ n := by omega
      clear hbut hj
      generalize Is.part k0 f (j * 4) (j * 4) = o0 at x0
      generalize Is.part k0 f (j * 4) (j * 4 + 1) = o1 at x1
      generalize Is.part k0 f (j * 4) (j * 4 + 2) = o2 at x2
      generalize Is.part k0 f (j * 4) (j * 4 + 3) = o3 at x3
      go_wp2_with fail
      have HQ := Lib.hid ((((HB.out.setCell (j * 4) (.int .i64 (k0 + 4 * (j : Int)))).setCell (j * 4 + 1) (.int .i64 (k0 + 4 * (j : Int) + 1))).setCell (j * 4 + 2) (.int .i64 (k0 + 4 * (j : Int) + 1 + 1))).setCell (j * 4 + 3) (.int .i64 (k0 + 4 * (j : Int) + 1 + 1 + 1)))
      go_roundw
      case rel => exact ⟨j + 1, hj1, by go_num, by go_num, HQ.out, HN⟩
      case measure => simp [intOf]; omega
    · obtain rfl : j = n := by omega
      go_wp2_with fail
      go_ret
      exact ⟨rfl, HB.out⟩
/-- A name is written. -/
theorem PcsO.name {w : World} {lo g n j : Nat} {N : Nat → ByteArray} {ms : Nat → Nat} {ds : Nat → Nat → Int} {arr : Array Value} {G : Nat → Nat} (h : PcsO w lo g n N ms ds arr G) (hj : j < n) (s : ByteArray) : PcsO (w.setCell ⟨g, j * 2, none⟩ (.string s)) lo g n (fun i => if i = j then s else N i) ms ds (arr.setIfInBounds (j * 2) (.string s)) G := by
  have hs := h.sz
  refine ⟨h.low, heap_set h.blk _ _, by simp [hs], fun i hi => ?_, fun i hi => ⟨(h.inn i hi).1.set (by have := (h.inn i hi).2; omega), (h.inn i hi).2⟩, h.apart⟩
  obtain ⟨h1, h2⟩ := h.cel i hi
  simp only [Array.getElem?_setIfInBounds]
  by_cases e : i = j
  · subst e
    rw [if_pos rfl, if_pos (by omega), if_pos rfl, if_neg (by omega)]
    exact ⟨rfl, h2⟩
  · rw [if_neg (by omega), if_neg e, if_neg (by omega)]
    exact ⟨h1, h2⟩
/-- A row of edges is written. -/
theorem PcsO.row {w w' : World} {lo g n j : Nat} {N : Nat → ByteArray} {ms : Nat → Nat} {ds : Nat → Nat → Int} {arr : Array Value} {G : Nat → Nat} {f : Nat → Int} (h : PcsO w lo g n N ms ds arr G) (hj : j < n) (hb : But (G j) w w') (ha : At w' (G j) (ms j) f) : PcsO w' lo g n N ms (fun i => if i = j then f else ds i) arr G := by
  have hgj := (h.inn j hj).2
  refine ⟨h.low, blk_but h.blk hb (by omega), h.sz, h.cel, fun i hi => ?_, h.apart⟩
  by_cases e : i = j
  · subst e
    simp only [if_true]
    exact ⟨ha, hgj⟩
  · simp only [if_neg e]
    have hne : G i ≠ G j := by
      by_cases q : i < j
      · have := h.apart i j q hj; omega
      · have := h.apart j i (by omega) hi; omega
    exact ⟨at_but' (h.inn i hi).1 hb hne, (h.inn i hi).2⟩
set_option maxRecDepth 100000 in
set_option maxHeartbeats 1000000 in
theorem mark_pieces (g n : Nat) (N : Nat → ByteArray) (ms : Nat → Nat) (ds : Nat → Nat → Int) (arr : Array Value) (G : Nat → Nat) (k0 : Int) (h0 : 0 < k0) (h1 : k0 + ((n : Int) + (sumN ms n : Int)) ≤ 1073741824) (hm : ∀ i, i < n → ms i ≤ 1048576) (hn : n ≤ 1048576) (lo hi : Nat) (w : World) (hg : g < hi) (hG : ∀ i, i < n → G i < hi) (h : PcsO w lo g n N ms ds arr G) :
    Calls Try.prog 60 #[.slice (some ⟨g, 0, none⟩) n n, .int .i64 k0] w fun e w' => e = .returned (.int .i64 (k0 + ((n : Int) + (sumN ms n : Int)))) ∧ Span lo hi w w' := by
  have H := Lib.hid h
  have HG := Lib.hid hG
  have HM := Lib.hid hm
  have HS0 : Hid (sumN ms 0 = 0) := Lib.hid rfl
  have HSS : Hid (∀ j, sumN ms (j + 1) = sumN ms j + ms j) := Lib.hid fun j => rfl
  have HSM : Hid (∀ j, j < n → sumN ms (j + 1) ≤ sumN ms n) := Lib.hid fun j hj => by
    have : ∀ q, j + 1 ≤ q → sumN ms (j + 1) ≤ sumN ms q := fun q hq => by
      induction q with
      | zero => omega
      | succ q ih =>
        by_cases e : j + 1 = q + 1
        · rw [e]; exact Nat.le_refl _
        · have := ih (by omega)
          show _ ≤ sumN ms q + ms q
          omega
    exact this n (by omega)
  clear h hG hm
  generalize sumN ms = SW at *
  go_enter Try.func60, Try.ntmps60
  go_wp2_with fail
  go_loopw [1, 5] (fun kk i wr => ∃ (j : Nat) (N : Nat → ByteArray) (ds : Nat → Nat → Int) (arr : Array Value), j ≤ n ∧ i = .int .i64 (j : Int) ∧ kk = .int .i64 (k0 + ((j : Int) + (SW j : Int))) ∧ Hid (Span lo hi w wr) ∧ Hid (PcsO wr lo g n N ms ds arr G)) (fun _ i _ => n - (intOf i).toNat)
  case atStart => exact ⟨0, N, ds, arr, Nat.zero_le _, rfl, by rw [HS0.out]; simp, Lib.hid (Span.refl _ _ _), H⟩
  case round =>
    obtain ⟨j, N, ds, arr, hj, rfl, rfl, HB, HP⟩ := hrel
    have e0 : (0 : Int) ≤ (j : Int) := Int.natCast_nonneg _
    by_cases hlt : j < n
    · have e1 : (j : Int) < (n : Int) := by omega
      have hj1 : j + 1 ≤ n := by omega
      have hsj := HSM.out j hlt
      have hss := Lib.hid (HSS.out j)
      have hmj := HM.out j hlt
      have hmm : SW j + ms j ≤ SW n := by rw [← hss.out]; exact hsj
      obtain ⟨c0, c1⟩ := HP.out.cel j hlt
      have lg := lt_of_heap HP.out.blk
      have low := HP.out.low
      have C := Lib.hid (fun w => Mt.mark_text (k0 + ((j : Int) + (SW j : Int))) (by omega) (by omega) w)
      generalize hk1 : k0 + ((j : Int) + (SW j : Int)) = kj at C
      have b1 : 0 < kj := by omega
      have b2 : kj + ((ms j : Nat) : Int) + 1 ≤ 1073741824 := by omega
      generalize hS : Mt.mkT kj = tx at C
      clear hS
      go_wp2_with fail
      refine (C.out _).mono ?_
      rintro e w1 ⟨rfl, bb⟩
      have HB1 := Lib.hid (HB.out.trans (Span.of_below (lo := lo) (hi := hi) bb))
      have HP1 := Lib.hid (HP.out.below bb)
      have y0 := (cell_of_row _ _ (j * 2) _ _ _ HP1.out.blk).trans c0
      have y1 := (cell_of_row _ _ (j * 2 + 1) _ _ _ HP1.out.blk).trans c1
      have fz := blk_free HP1.out.blk (j * 2)
      have HB2 := Lib.hid (HB1.out.setCell (b := g) (o := j * 2) low hg (.string tx))
      have HP2 := Lib.hid (PcsO.name HP1.out hlt tx)
      have y1' : (w1.setCell ⟨g, j * 2, none⟩ (.string tx)).cell? ⟨g, j * 2 + 1, none⟩ = some (.slice (some ⟨G j, 0, none⟩) (ms j) (ms j)) := (World.cell?_setCell_other _ _ _ _ (fun e => by have := (Addr.mk.inj e).2.1; omega)).trans y1
      have C2 := Lib.hid (mark_row (G j) (ms j) (ms j) (kj + 1) _ hmj (by omega) (by omega) _ (HP2.out.inn j hlt).1)
      clear bb c0 c1 C HB HP
      go_wp2_with fail
      refine C2.out.mono ?_
      rintro e w2 ⟨rfl, ha, hb⟩
      have HB3 := Lib.hid (HB2.out.trans (Span.of_but (lo := lo) (hi := hi) hb (by have := (HP2.out.inn j hlt).2; omega) (HG.out j hlt)))
      have HP3 := Lib.hid (PcsO.row HP2.out hlt hb ha)
      have HN : Hid (kj + 1 + ((ms j : Nat) : Int) = k0 + (((j : Int) + 1) + (SW (j + 1) : Int))) := Lib.hid (by rw [hss.out]; omega)
      clear ha hb C2 y0 y1 y1' fz HB2 HP2 HB1 HP1
      go_wp2_with fail
      go_roundw
      case rel => exact ⟨j + 1, _, _, _, hj1, by go_num, by rw [HN.out]; rfl, HB3, HP3⟩
      case measure => simp [intOf]; omega
    · obtain rfl : j = n := by omega
      go_wp2_with fail
      go_ret
      exact ⟨rfl, HB.out⟩
theorem PatO.lt {w : World} {lo g n sg k : Nat} {N : Nat → ByteArray} {ms : Nat → Nat} {ds : Nat → Nat → Int} {S : Nat → Int} (h : PatO w lo g n N ms ds sg k S) : sg < w.heap.size := h.seams.1
theorem sum_small {n k : Nat} {N : Nat → ByteArray} {ms : Nat → Nat} (h : Small n N ms k) : n + sumN ms n + k ≤ 1048576 := by
  unfold Small at h
  have : ∀ q, sumN ms q ≤ sumN (fun i => (N i).size + ms i) q := fun q => by
    induction q with
    | zero => exact Nat.le_refl _
    | succ q ih => show sumN ms q + ms q ≤ sumN (fun i => (N i).size + ms i) q + ((N q).size + ms q); omega
  have := this n
  omega
set_option maxRecDepth 100000 in
set_option maxHeartbeats 1000000 in
theorem mark_pattern (g n sg k : Nat) (N : Nat → ByteArray) (ms : Nat → Nat) (ds : Nat → Nat → Int) (S : Nat → Int) (o : Int) (k0 : Int) (h0 : 0 < k0) (h1 : k0 ≤ 1000000000) (lo hi : Nat) (hz : Small n N ms k) (w : World) (hs : sg < hi) (hh : hi ≤ w.heap.size) (h : PatO w lo g n N ms ds sg k S) :
    Calls Try.prog 23 #[paV (some ⟨g, 0, none⟩) n n (some ⟨sg, 0, none⟩) k k o, .int .i64 k0] w fun e w' => e = .returned (.int .i64 (k0 + ((n : Int) + (sumN ms n : Int)) + 4 * (k : Int))) ∧ Span lo hi w w' := by
  obtain ⟨hn, hk, hi'⟩ := hz.at
  have hsm := sum_small hz
  obtain ⟨arr, G, hp, hg, hG⟩ := h.pcs
  have HB := Lib.hid (below_box w (.cells #[.slice (some ⟨g, 0, none⟩) n n, .slice (some ⟨sg, 0, none⟩) k k, .int .i64 o] 31))
  have KB := Lib.hid (heap_alloc_new w (.cells #[.slice (some ⟨g, 0, none⟩) n n, .slice (some ⟨sg, 0, none⟩) k k, .int .i64 o] 31))
  have hlo := hp.low
  have C1 := Lib.hid (mark_pieces g n N ms ds arr G k0 h0 (by omega) (fun i hj => (hi' i hj).2) hn lo sg _ hg (fun i hj => hG i hj) (hp.below HB.out))
  have HS := Lib.hid (h.seams.below HB.out)
  have C2 := Lib.hid (fun k0 h0 h1 w h => mark_seams sg k k k0 S hk h0 h1 w h)
  have hlow : lo ≤ sg := by omega
  have lsg := h.seams.1
  generalize hQ : (sumN ms n : Nat) = q at C1 hsm ⊢
  clear h hp hG hi' hQ
  unfold paV
  go_enter Try.func23, Try.ntmps23
  go_wp2_with fail
  refine C1.out.mono ?_
  rintro e w1 ⟨rfl, s1⟩
  have KB1 := Lib.hid (blk_span KB.out s1 (.inr (by omega)))
  have HS1 := Lib.hid (at_span HS.out s1 (.inr (Nat.le_refl _)))
  have SP1 := Lib.hid ((Span.of_below (lo := lo) (hi := hi) HB.out).trans (s1.mono (by omega)))
  obtain ⟨x0, x1, x2⟩ := blk3 KB1.out
  have C3 := Lib.hid (C2.out (k0 + ((n : Int) + (q : Int))) (by omega) (by omega) w1 HS1.out)
  generalize hk1 : k0 + ((n : Int) + (q : Int)) = k1 at C3 ⊢
  clear s1 C1 C2
  go_wp2_with fail
  refine C3.out.mono ?_
  rintro e w2 ⟨rfl, b2⟩
  have SP2 := Lib.hid (SP1.out.trans (Span.of_but (lo := lo) (hi := hi) b2 hlow hs))
  clear b2 C3 x0 x1 x2
  go_wp2_with fail
  go_ret
  exact ⟨Ge.ret_int (by omega), SP2.out⟩
end Go.Proofs.Ytnojnikophpnoaa.Ps
