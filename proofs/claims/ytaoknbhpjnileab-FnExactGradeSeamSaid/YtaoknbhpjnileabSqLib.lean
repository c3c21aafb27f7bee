/- Both functions GradeSeam; the law's marks in one of two new lists. -/
import Derived.Test.YtaoknbhpjnileabLtgLib
import Derived.Test.YtaoknbhpjnileabOnLib
namespace Go.Proofs.Ytaoknbhpjnileab.Sq
open Go.RowKit Ft Is Ge Qb Fg Gm Le Lc Lq On

/-- Blocks from lo to hi alone have been written. -/
structure Span (lo hi : Nat) (w w' : World) : Prop where
  os : w'.os = w.os
  tape : w'.tape = w.tape
  output : w'.output = w.output
  size : w.heap.size ≤ w'.heap.size
  block : ∀ k, k < w.heap.size → (k < lo ∨ hi ≤ k) → w'.heap[k]? = w.heap[k]?
theorem Span.refl (lo hi : Nat) (w : World) : Span lo hi w w := ⟨rfl, rfl, rfl, Nat.le_refl _, fun _ _ _ => rfl⟩
theorem Span.setCell {lo hi : Nat} {a w : World} (h : Span lo hi a w) {b o : Nat} (h1 : lo ≤ b) (h2 : b < hi) (u : Value) : Span lo hi a (w.setCell ⟨b, o, none⟩ u) :=
  ⟨h.os, h.tape, h.output, by simpa using h.size, fun k hk hn => (Below.heap_setCell _ _ _ _ (by show k ≠ b; omega)).trans (h.block k hk hn)⟩
theorem Span.below {lo hi B : Nat} {w w' : World} (h : Span lo hi w w') (hB : B ≤ lo) (hs : B ≤ w.heap.size) : Below B w w' := ⟨h.os, h.tape, h.output, h.size, fun k hk => h.block k (by omega) (by omega)⟩
theorem Span.cell {lo hi : Nat} {w w' : World} (h : Span lo hi w w') {b o : Nat} {v : Value} (hb : b < lo ∨ hi ≤ b) (hc : w.cell? ⟨b, o, none⟩ = some v) : w'.cell? ⟨b, o, none⟩ = some v :=
  (World.cell?_of_block (h.block b (World.block_lt_of_cell? w _ hc) hb)).trans hc
/-- A row of the call's own, its block from lo to hi. -/
def OwnIn (w : World) (lo hi : Nat) (A : Option Addr) (n : Nat) (f : Nat → Int) : Prop :=
  0 < n → ∃ b off, A = some ⟨b, off, none⟩ ∧ lo ≤ b ∧ b < hi ∧ b < w.heap.size ∧ (∀ i, i < n → w.cell? ⟨b, off + i, none⟩ = some (.int .i64 (f i))) ∧ ∀ i, w.frozen? ⟨b, i, none⟩ = false
theorem OwnIn.nums {w : World} {lo hi n : Nat} {A : Option Addr} {f : Nat → Int} (h : OwnIn w lo hi A n f) : Nums w w.heap.size A n f := fun hn => by
  obtain ⟨b, off, rfl, _, _, hlt, hc, _⟩ := h hn
  exact ⟨b, off, rfl, hlt, hc⟩
theorem OwnIn.below {w w' : World} {lo hi n : Nat} {A : Option Addr} {f : Nat → Int} (h : OwnIn w lo hi A n f) (hb : Below w.heap.size w w') : OwnIn w' lo hi A n f := fun hn => by
  obtain ⟨b, off, rfl, hB, hh, hlt, hc, hf⟩ := h hn
  exact ⟨b, off, rfl, hB, hh, by have := hb.size; omega, fun i hi => (hb.cell (p := ⟨b, off + i, none⟩) hlt).trans (hc i hi), fun i => (hb.frozen (p := ⟨b, i, none⟩) hlt).trans (hf i)⟩
theorem Span.own {lo hi lo' hi' n : Nat} {w w' : World} {A : Option Addr} {f : Nat → Int} (h : Span lo hi w w') (ho : OwnIn w lo' hi' A n f) (hd : hi' ≤ lo ∨ hi ≤ lo') : OwnIn w' lo' hi' A n f := fun hn => by
  obtain ⟨b, off, rfl, hB, hh, hlt, hc, hf⟩ := ho hn
  have hne : b < lo ∨ hi ≤ b := by omega
  exact ⟨b, off, rfl, hB, hh, Nat.lt_of_lt_of_le hlt h.size, fun i hi => h.cell hne (hc i hi), fun i => (World.frozen?_of_block (a := ⟨b, i, none⟩) (h.block b hlt hne)).trans (hf i)⟩
theorem Span.nums {lo hi B n : Nat} {w w' : World} {A : Option Addr} {f : Nat → Int} (h : Span lo hi w w') (ho : Nums w B A n f) (hB : B ≤ lo) : Nums w' B A n f := fun hn => by
  obtain ⟨b, off, rfl, hb, hc⟩ := ho hn
  exact ⟨b, off, rfl, hb, fun i hi => h.cell (.inl (by omega)) (hc i hi)⟩
theorem own_in {w : World} {lo hi n : Nat} {A : Option Addr} {f : Nat → Int} (h : Own w lo A n f) (hh : w.heap.size ≤ hi) : OwnIn w lo hi A n f := fun hn => by
  obtain ⟨b, off, rfl, hB, hlt, hc, hf⟩ := h hn
  exact ⟨b, off, rfl, hB, by omega, hlt, hc, hf⟩
theorem at_own {w : World} {g lo hi n : Nat} {f : Nat → Int} (h : At w g n f) (h1 : lo ≤ g) (h2 : g < hi) : OwnIn w lo hi (some ⟨g, 0, none⟩) n f := fun _ =>
  ⟨g, 0, rfl, h1, h2, h.1, fun i hi => by rw [Nat.zero_add]; exact h.2.1 i hi, h.2.2⟩
theorem own_part {wr : World} {lo hi n j : Nat} {b off : Nat} {k0 : Int} {f : Nat → Int} (hB : lo ≤ b) (hh : b < hi) (hlt : b < wr.heap.size) (hj : j < n)
    (hc : ∀ i, i < n → wr.cell? ⟨b, off + i, none⟩ = some (.int .i64 (Is.part k0 f j i))) (hf : ∀ i, wr.frozen? ⟨b, i, none⟩ = false) :
    OwnIn (wr.setCell ⟨b, off + j, none⟩ (.int .i64 (Is.mk k0 j))) lo hi (some ⟨b, off, none⟩) n (Is.part k0 f (j + 1)) := fun hp => by
  obtain ⟨b', off', e, h1, h2, h3, h4⟩ := own_set (k0 := k0) (f := f) hB hlt hj hc hf hp
  injection e with e
  injection e with e1 e2
  subst e1 e2
  exact ⟨b, off, rfl, hB, hh, h2, h3, h4⟩
theorem mark_span (A : Option Addr) (n c : Nat) (k0 : Int) (f : Nat → Int) (hn : n ≤ 1048576) (h0 : 0 ≤ k0) (h1 : k0 ≤ 4194304) (lo hi : Nat) (w : World) (h : OwnIn w lo hi A n f) :
    Calls Try.prog 31 #[.slice A n c, .int .i64 k0] w fun e w' => e = .returned (.int .i64 (Is.mk k0 n)) ∧ OwnIn w' lo hi A n (Is.mk k0) ∧ Span lo hi w w' := by
  have HO : Hid (OwnIn w lo hi A n (Is.part k0 f 0)) := Lib.hid fun hp => by
    obtain ⟨b, off, e, hB, hh, hlt, hc, hf⟩ := h hp
    exact ⟨b, off, e, hB, hh, hlt, fun i hi => by rw [hc i hi]; simp [Is.part], hf⟩
  have HE : Hid (∀ w', OwnIn w' lo hi A n (Is.part k0 f n) → OwnIn w' lo hi A n (Is.mk k0)) := Lib.hid fun w' ho hp => by
    obtain ⟨b, off, e, hB, hh, hlt, hc, hf⟩ := ho hp
    exact ⟨b, off, e, hB, hh, hlt, fun i hi => by rw [hc i hi]; simp [Is.part, hi], hf⟩
  clear h
  go_enter Try.func31, Try.ntmps31
  go_wp2_with fail
  go_loopw [1, 5] (fun kk i wr => ∃ j : Nat, j ≤ n ∧ i = .int .i64 j ∧ kk = .int .i64 (k0 + (j : Int)) ∧ Span lo hi w wr ∧ Hid (OwnIn wr lo hi A n (Is.part k0 f j))) (fun _ i _ => n - (intOf i).toNat)
  case atStart => exact ⟨0, Nat.zero_le _, rfl, by simp, Span.refl _ _ _, HO⟩
  case round =>
    obtain ⟨j, hj, rfl, rfl, hspan, hown⟩ := hrel
    have HB := Lib.hid hspan
    by_cases hlt : j < n
    · obtain ⟨b, off, rfl, hB, hh, hbs, hc, hf⟩ := hown.out (by omega)
      have x0 := hc j hlt
      have z0 := hf (off + j)
      have HN := Lib.hid (own_part (k0 := k0) (f := f) hB hh hbs hlt hc hf)
      have HM : Hid (Is.mk k0 j = k0 + (j : Int)) := Lib.hid rfl
      clear hc hf hspan hj
      generalize Is.part k0 f j j = old at x0
      go_wp2_with fail
      rw [HM.out] at HN
      have HQ := Lib.hid (HB.out.setCell (o := off + j) hB hh (.int .i64 (k0 + (j : Int))))
      go_roundw
      case rel => exact ⟨j + 1, by omega, by go_num, by go_num, HQ.out, HN⟩
      case measure => simp [intOf]; omega
    · obtain rfl : j = n := by omega
      have HF := Lib.hid (HE.out _ hown.out)
      go_wp2_with fail
      go_ret
      exact ⟨rfl, HF.out, HB.out⟩

/-- Whether both sides and the sum are right, and both sides are equal. -/
noncomputable def sq (n m : Nat) (f h : Nat → Int) (sum : Int) : Bool := tv (LenOk n f) && (tv (LenOk m h) && inB sum 1 1000000)
noncomputable def sqC (n m : Nat) (f h : Nat → Int) (sum : Int) : Int := if sq n m f h sum = true then (if sm f n = sm h m then 0 else 9) else 2
/-- Two new lists and a code. -/
def SeamAt (na : Nat) (da : Nat → Int) (nb : Nat) (db : Nat → Int) (c : Int) (w : World) (e : Ending) (w' : World) : Prop :=
  ∃ A ca B cb mid, e = .returned (.tuple #[.slice A na ca, .slice B nb cb, .int .i64 c]) ∧ w.heap.size ≤ mid ∧ mid ≤ w'.heap.size ∧ Hid (OwnIn w' w.heap.size mid A na da) ∧ Hid (OwnIn w' mid w'.heap.size B nb db) ∧ Below w.heap.size w w'
theorem seam_none {c : Int} {w w' : World} (hb : Below w.heap.size w w') : SeamAt 0 (fun _ => 0) 0 (fun _ => 0) c w (.returned (.tuple #[.slice none 0 0, .slice none 0 0, .int .i64 c])) w' :=
  ⟨none, 0, none, 0, w'.heap.size, rfl, hb.size, Nat.le_refl _, Lib.hid fun h => absurd h (by omega), Lib.hid fun h => absurd h (by omega), hb⟩
theorem sq_iff {n m : Nat} {f h : Nat → Int} {sum : Int} (hq : sq n m f h sum = true) : GsOk n f sum ∧ GsOk m h sum := by
  simp only [sq, Bool.and_eq_true] at hq
  exact ⟨⟨tv_iff.1 hq.1, hq.2.2⟩, ⟨tv_iff.1 hq.2.1, hq.2.2⟩⟩
theorem two_len {n m : Nat} {f h : Nat → Int} : tv (∀ j, j < 2 → LenOk (if j = 0 then n else m) (if j = 0 then f else h)) = (tv (LenOk n f) && tv (LenOk m h)) := by
  by_cases h1 : LenOk n f
  · by_cases h2 : LenOk m h
    · rw [tv_yes h1, tv_yes h2, tv_yes fun j hj => ?_]
      · rfl
      · obtain rfl | rfl : j = 0 ∨ j = 1 := by omega
        · simpa using h1
        · simpa using h2
    · rw [tv_yes h1, tv_no h2, tv_no fun o => h2 (by simpa using o 1 (by omega))]
      rfl
  · rw [tv_no h1, tv_no fun o => h1 (by simpa using o 0 (by omega))]
    rfl
set_option maxRecDepth 100000 in
theorem spec_sm (A B : Option Addr) (n c m c' : Nat) (f h : Nat → Int) (sum : Int) (hn : n ≤ 1048576) (hm : m ≤ 1048576) (w : World) (hA : Nums w w.heap.size A n f) (hB : Nums w w.heap.size B m h) :
    Calls Try.prog 47 #[.slice A n c, .slice B m c', .int .i64 sum] w (SeamAt (if sqC n m f h sum = 0 then n else 0) (if sqC n m f h sum = 0 then gs f n sum else fun _ => 0) (if sqC n m f h sum = 0 then m else 0) (if sqC n m f h sum = 0 then gs h m sum else fun _ => 0) (sqC n m f h sum) w) := by
  have HA := Lib.hid hA
  have HB := Lib.hid hB
  have P0 : Hid (sqC n m f h sum ≠ 0 → ∀ w', Below w.heap.size w w' → SeamAt (if sqC n m f h sum = 0 then n else 0) (if sqC n m f h sum = 0 then gs f n sum else fun _ => 0) (if sqC n m f h sum = 0 then m else 0) (if sqC n m f h sum = 0 then gs h m sum else fun _ => 0) (sqC n m f h sum) w (.returned (.tuple #[.slice none 0 0, .slice none 0 0, .int .i64 (sqC n m f h sum)])) w') := Lib.hid fun hne w' hb => by
    rw [if_neg hne, if_neg hne, if_neg hne, if_neg hne]
    exact seam_none hb
  have P1 : Hid (sqC n m f h sum = 0 → ∀ e w', SeamAt n (gs f n sum) m (gs h m sum) 0 w e w' → SeamAt (if sqC n m f h sum = 0 then n else 0) (if sqC n m f h sum = 0 then gs f n sum else fun _ => 0) (if sqC n m f h sum = 0 then m else 0) (if sqC n m f h sum = 0 then gs h m sum else fun _ => 0) (sqC n m f h sum) w e w') := Lib.hid fun hz e w' hs => by
    rw [if_pos hz, if_pos hz, if_pos hz, if_pos hz, hz]
    exact hs
  have C1 := Lib.hid (spec_len A n c f hn w hA)
  have C1' := Lib.hid (spec_len B m c' h hm w hB)
  have C2 := Lib.hid (fun w => in_any sum 1 1000000 w)
  have B0 : Hid (Below w.heap.size w w) := Lib.hid (Below.refl _ _)
  have CS : Hid (sq n m f h sum = true → ∀ w, Nums w w.heap.size A n f → Calls Try.prog 94 #[.slice A n c] w fun e w' => e = .returned (.int .i64 (sm f n)) ∧ w = w') := Lib.hid fun hq w hA => sum_spec A n c f (sq_iff hq).1.1 w hA
  have CS' : Hid (sq n m f h sum = true → ∀ w, Nums w w.heap.size B m h → Calls Try.prog 94 #[.slice B m c'] w fun e w' => e = .returned (.int .i64 (sm h m)) ∧ w = w') := Lib.hid fun hq w hA => sum_spec B m c' h (sq_iff hq).2.1 w hA
  have CG : Hid (sq n m f h sum = true → ∀ w, Nums w w.heap.size A n f → Calls Try.prog 90 #[.slice A n c, .int .i64 sum] w (ColAt n (gs f n sum) w)) := Lib.hid fun hq w hA => spec_grow A n c f sum (sq_iff hq).1 w hA
  have CG' : Hid (sq n m f h sum = true → ∀ w, Nums w w.heap.size B m h → Calls Try.prog 90 #[.slice B m c', .int .i64 sum] w (ColAt m (gs h m sum) w)) := Lib.hid fun hq w hA => spec_grow B m c' h sum (sq_iff hq).2 w hA
  clear hA hB
  generalize SeamAt (if sqC n m f h sum = 0 then n else 0) (if sqC n m f h sum = 0 then gs f n sum else fun _ => 0) (if sqC n m f h sum = 0 then m else 0) (if sqC n m f h sum = 0 then gs h m sum else fun _ => 0) (sqC n m f h sum) w = Q at P0 P1 ⊢
  have hC : sqC n m f h sum = if sq n m f h sum = true then (if sm f n = sm h m then 0 else 9) else 2 := rfl
  generalize sqC n m f h sum = C at hC P0 P1
  generalize sm f n = S at CS hC
  generalize sm h m = S' at CS' hC
  generalize gs f n sum = da at CG P1
  generalize gs h m sum = db at CG' P1
  generalize hsq : sq n m f h sum = q at CS CS' CG CG' hC
  unfold sq at hsq
  generalize tv (LenOk n f) = r1 at C1 hsq
  generalize tv (LenOk m h) = r2 at C1' hsq
  generalize inB sum 1 1000000 = r3 at C2 hsq
  subst hsq
  have R : r1 = false ∨ (r1 = true ∧ r2 = false) ∨ (r1 = true ∧ r2 = true ∧ r3 = false) ∨ (r1 = true ∧ r2 = true ∧ r3 = true) := by cases r1 <;> cases r2 <;> cases r3 <;> simp
  have HW0 : Hid (∀ w', w' = w → Nums w' w'.heap.size A n f ∧ Nums w' w'.heap.size B m h) := Lib.hid fun w' e => by
    subst e
    exact ⟨(HA.out.below B0.out (Nat.le_refl _)).more B0.out.size, (HB.out.below B0.out (Nat.le_refl _)).more B0.out.size⟩
  rcases R with rfl | ⟨rfl, rfl⟩ | ⟨rfl, rfl, rfl⟩ | ⟨rfl, rfl, rfl⟩
  · obtain rfl : C = 2 := by rw [hC]; simp
    have P0' := Lib.hid (P0.out (by omega))
    go_enter Try.func47, Try.ntmps47
    go_wp2_with fail
    refine C1.out.mono ?_
    rintro e w' ⟨rfl, rfl⟩
    go_wp2_with fail
    exact bodyPost_ret (v := .tuple #[.slice none 0 0, .slice none 0 0, .int .i64 2]) (by simp [results, Try.results47, go_sem]) rfl (P0'.out _ B0.out)
  · obtain rfl : C = 2 := by rw [hC]; simp
    have P0' := Lib.hid (P0.out (by omega))
    go_enter Try.func47, Try.ntmps47
    go_wp2_with fail
    refine C1.out.mono ?_
    rintro e w' ⟨rfl, rfl⟩
    go_wp2_with fail
    refine C1'.out.mono ?_
    rintro e w' ⟨rfl, rfl⟩
    go_wp2_with fail
    exact bodyPost_ret (v := .tuple #[.slice none 0 0, .slice none 0 0, .int .i64 2]) (by simp [results, Try.results47, go_sem]) rfl (P0'.out _ B0.out)
  · obtain rfl : C = 2 := by rw [hC]; simp
    have P0' := Lib.hid (P0.out (by omega))
    go_enter Try.func47, Try.ntmps47
    go_wp2_with fail
    refine C1.out.mono ?_
    rintro e w' ⟨rfl, rfl⟩
    go_wp2_with fail
    refine C1'.out.mono ?_
    rintro e w' ⟨rfl, rfl⟩
    go_wp2_with fail
    refine (C2.out _).mono ?_
    rintro e w' ⟨rfl, rfl⟩
    go_wp2_with fail
    exact bodyPost_ret (v := .tuple #[.slice none 0 0, .slice none 0 0, .int .i64 2]) (by simp [results, Try.results47, go_sem]) rfl (P0'.out _ B0.out)
  · simp only [Bool.and_self, if_true] at hC CS CS' CG CG'
    by_cases hss : S = S'
    · rw [if_pos hss] at hC
      subst hss
      subst hC
      have P1' := Lib.hid (P1.out (by first | rfl | trivial))
      have CSx := Lib.hid (CS.out (by first | rfl | trivial))
      have CSy := Lib.hid (CS'.out (by first | rfl | trivial))
      have CGx := Lib.hid (CG.out (by first | rfl | trivial))
      have CGy := Lib.hid (CG'.out (by first | rfl | trivial))
      have nss : (S != S) = false := by simp
      clear P0 P1 CS CS' CG CG'
      go_enter Try.func47, Try.ntmps47
      go_wp2_with fail
      refine C1.out.mono ?_
      rintro e w' ⟨rfl, rfl⟩
      go_wp2_with fail
      refine C1'.out.mono ?_
      rintro e w' ⟨rfl, rfl⟩
      go_wp2_with fail
      refine (C2.out _).mono ?_
      rintro e w' ⟨rfl, rfl⟩
      go_wp2_with fail
      obtain ⟨hA0, hB0⟩ := HW0.out _ rfl
      refine (CSx.out _ hA0).mono ?_
      rintro e w' ⟨rfl, rfl⟩
      go_wp2_with fail
      refine (CSy.out _ hB0).mono ?_
      rintro e w' ⟨rfl, rfl⟩
      clear hB0
      go_wp2_with fail
      refine (CGx.out _ hA0).mono ?_
      rintro e w1 ⟨A1, cap1, rfl, ho1, b1⟩
      have B1 := Lib.hid (below_then B0.out b1)
      have O1 := Lib.hid (own_later ho1.out B0.out.size)
      clear hA0 b1 ho1
      go_wp2_with fail
      refine (CGy.out _ ((HB.out.below B1.out (Nat.le_refl _)).more B1.out.size)).mono ?_
      rintro e w2 ⟨A2, cap2, rfl, ho2, b2⟩
      have B2 := Lib.hid (below_then B1.out b2)
      have HS : Hid (SeamAt n da m db 0 w (.returned (.tuple #[.slice A1 n cap1, .slice A2 m cap2, .int .i64 0])) w2) := Lib.hid ⟨A1, cap1, A2, cap2, w1.heap.size, rfl, B1.out.size, b2.size, Lib.hid ((own_in O1.out (Nat.le_refl _)).below b2), Lib.hid (own_in ho2.out (Nat.le_refl _)), B2.out⟩
      clear b2 ho2 O1 B1
      go_wp2_with fail
      exact bodyPost_ret (v := .tuple #[.slice A1 n cap1, .slice A2 m cap2, .int .i64 0]) (by simp [results, Try.results47, go_sem]) rfl (P1'.out _ _ HS.out)
    · rw [if_neg hss] at hC
      subst hC
      have P0' := Lib.hid (P0.out (by omega))
      have CSx := Lib.hid (CS.out (by first | rfl | trivial))
      have CSy := Lib.hid (CS'.out (by first | rfl | trivial))
      have nss : (S != S') = true := by simpa using hss
      clear P0 P1 CS CS' CG CG' hss
      go_enter Try.func47, Try.ntmps47
      go_wp2_with fail
      refine C1.out.mono ?_
      rintro e w' ⟨rfl, rfl⟩
      go_wp2_with fail
      refine C1'.out.mono ?_
      rintro e w' ⟨rfl, rfl⟩
      go_wp2_with fail
      refine (C2.out _).mono ?_
      rintro e w' ⟨rfl, rfl⟩
      go_wp2_with fail
      obtain ⟨hA0, hB0⟩ := HW0.out _ rfl
      refine (CSx.out _ hA0).mono ?_
      rintro e w' ⟨rfl, rfl⟩
      go_wp2_with fail
      refine (CSy.out _ hB0).mono ?_
      rintro e w' ⟨rfl, rfl⟩
      clear hB0 hA0
      go_wp2_with fail
      exact bodyPost_ret (v := .tuple #[.slice none 0 0, .slice none 0 0, .int .i64 9]) (by simp [results, Try.results47, go_sem]) rfl (P0'.out _ B0.out)
set_option maxRecDepth 100000 in
theorem impl_sm (A B : Option Addr) (n c m c' : Nat) (f h : Nat → Int) (sum : Int) (hn : n ≤ 1048576) (hm : m ≤ 1048576) (w : World) (hA : Nums w w.heap.size A n f) (hB : Nums w w.heap.size B m h) :
    Calls Try.prog 48 #[.slice A n c, .slice B m c', .int .i64 sum] w (SeamAt (if sqC n m f h sum = 0 then n else 0) (if sqC n m f h sum = 0 then gs f n sum else fun _ => 0) (if sqC n m f h sum = 0 then m else 0) (if sqC n m f h sum = 0 then gs h m sum else fun _ => 0) (sqC n m f h sum) w) := by
  have HA := Lib.hid hA
  have HB := Lib.hid hB
  have P0 : Hid (sqC n m f h sum ≠ 0 → ∀ w', Below w.heap.size w w' → SeamAt (if sqC n m f h sum = 0 then n else 0) (if sqC n m f h sum = 0 then gs f n sum else fun _ => 0) (if sqC n m f h sum = 0 then m else 0) (if sqC n m f h sum = 0 then gs h m sum else fun _ => 0) (sqC n m f h sum) w (.returned (.tuple #[.slice none 0 0, .slice none 0 0, .int .i64 (sqC n m f h sum)])) w') := Lib.hid fun hne w' hb => by
    rw [if_neg hne, if_neg hne, if_neg hne, if_neg hne]
    exact seam_none hb
  have P1 : Hid (sqC n m f h sum = 0 → ∀ e w', SeamAt n (gs f n sum) m (gs h m sum) 0 w e w' → SeamAt (if sqC n m f h sum = 0 then n else 0) (if sqC n m f h sum = 0 then gs f n sum else fun _ => 0) (if sqC n m f h sum = 0 then m else 0) (if sqC n m f h sum = 0 then gs h m sum else fun _ => 0) (sqC n m f h sum) w e w') := Lib.hid fun hz e w' hs => by
    rw [if_pos hz, if_pos hz, if_pos hz, if_pos hz, hz]
    exact hs
  have B0 := Lib.hid (below_box w (.cells #[.slice A n c, .slice B m c'] 26))
  have C1 := Lib.hid (are_any w.heap.size 2 2 (fun j => if j = 0 then A else B) (fun j => if j = 0 then n else m) (fun j => if j = 0 then c else c') (fun j => if j = 0 then f else h) (by omega) (w.alloc (.cells #[.slice A n c, .slice B m c'] 26)) (fun j _ => by by_cases e : j = 0 <;> simp [e] <;> omega) (fun j hj => by
    obtain rfl | rfl : j = 0 ∨ j = 1 := by omega
    · exact cell_of_row _ _ _ _ _ _ (heap_alloc_new w _)
    · exact cell_of_row _ _ _ _ _ _ (heap_alloc_new w _)) (fun j hj => by
    obtain rfl | rfl : j = 0 ∨ j = 1 := by omega
    · exact (hA.below (below_box w _) (Nat.le_refl _)).more (by simp)
    · exact (hB.below (below_box w _) (Nat.le_refl _)).more (by simp)))
  rw [two_len] at C1
  have C2 := Lib.hid (fun w => is_any sum w)
  have CS : Hid (sq n m f h sum = true → ∀ w, Nums w w.heap.size A n f → Calls Try.prog 95 #[.slice A n c] w fun e w' => e = .returned (.int .i64 (sm f n)) ∧ w = w') := Lib.hid fun hq w hA => sum_impl A n c f (sq_iff hq).1.1 w hA
  have CS' : Hid (sq n m f h sum = true → ∀ w, Nums w w.heap.size B m h → Calls Try.prog 95 #[.slice B m c'] w fun e w' => e = .returned (.int .i64 (sm h m)) ∧ w = w') := Lib.hid fun hq w hA => sum_impl B m c' h (sq_iff hq).2.1 w hA
  have CG : Hid (sq n m f h sum = true → ∀ w, Nums w w.heap.size A n f → Calls Try.prog 93 #[.slice A n c, .int .i64 sum] w (ColAt n (gs f n sum) w)) := Lib.hid fun hq w hA => impl_shares A n c f sum (sq_iff hq).1 w hA
  have CG' : Hid (sq n m f h sum = true → ∀ w, Nums w w.heap.size B m h → Calls Try.prog 93 #[.slice B m c', .int .i64 sum] w (ColAt m (gs h m sum) w)) := Lib.hid fun hq w hA => impl_shares B m c' h sum (sq_iff hq).2 w hA
  clear hA hB
  generalize SeamAt (if sqC n m f h sum = 0 then n else 0) (if sqC n m f h sum = 0 then gs f n sum else fun _ => 0) (if sqC n m f h sum = 0 then m else 0) (if sqC n m f h sum = 0 then gs h m sum else fun _ => 0) (sqC n m f h sum) w = Q at P0 P1 ⊢
  have hC : sqC n m f h sum = if sq n m f h sum = true then (if sm f n = sm h m then 0 else 9) else 2 := rfl
  generalize sqC n m f h sum = C at hC P0 P1
  generalize sm f n = S at CS hC
  generalize sm h m = S' at CS' hC
  generalize gs f n sum = da at CG P1
  generalize gs h m sum = db at CG' P1
  generalize hsq : sq n m f h sum = q at CS CS' CG CG' hC
  unfold sq at hsq
  generalize tv (LenOk n f) = r1 at C1 hsq
  generalize tv (LenOk m h) = r2 at C1 hsq
  generalize inB sum 1 1000000 = r3 at C2 hsq
  subst hsq
  have R : r1 = false ∨ (r1 = true ∧ r2 = false) ∨ (r1 = true ∧ r2 = true ∧ r3 = false) ∨ (r1 = true ∧ r2 = true ∧ r3 = true) := by cases r1 <;> cases r2 <;> cases r3 <;> simp
  have HW0 : Hid (∀ w', w' = w.alloc (.cells #[.slice A n c, .slice B m c'] 26) → Nums w' w'.heap.size A n f ∧ Nums w' w'.heap.size B m h) := Lib.hid fun w' e => by
    subst e
    exact ⟨(HA.out.below B0.out (Nat.le_refl _)).more B0.out.size, (HB.out.below B0.out (Nat.le_refl _)).more B0.out.size⟩
  rcases R with rfl | ⟨rfl, rfl⟩ | ⟨rfl, rfl, rfl⟩ | ⟨rfl, rfl, rfl⟩
  · obtain rfl : C = 2 := by rw [hC]; simp
    have P0' := Lib.hid (P0.out (by omega))
    go_enter Try.func48, Try.ntmps48
    go_wp2_with fail
    refine C1.out.mono ?_
    rintro e w' ⟨rfl, rfl⟩
    go_wp2_with fail
    exact bodyPost_ret (v := .tuple #[.slice none 0 0, .slice none 0 0, .int .i64 2]) (by simp [results, Try.results48, go_sem]) rfl (P0'.out _ B0.out)
  · obtain rfl : C = 2 := by rw [hC]; simp
    have P0' := Lib.hid (P0.out (by omega))
    go_enter Try.func48, Try.ntmps48
    go_wp2_with fail
    refine C1.out.mono ?_
    rintro e w' ⟨rfl, rfl⟩
    go_wp2_with fail
    exact bodyPost_ret (v := .tuple #[.slice none 0 0, .slice none 0 0, .int .i64 2]) (by simp [results, Try.results48, go_sem]) rfl (P0'.out _ B0.out)
  · obtain rfl : C = 2 := by rw [hC]; simp
    have P0' := Lib.hid (P0.out (by omega))
    go_enter Try.func48, Try.ntmps48
    go_wp2_with fail
    refine C1.out.mono ?_
    rintro e w' ⟨rfl, rfl⟩
    go_wp2_with fail
    refine (C2.out _).mono ?_
    rintro e w' ⟨rfl, rfl⟩
    go_wp2_with fail
    exact bodyPost_ret (v := .tuple #[.slice none 0 0, .slice none 0 0, .int .i64 2]) (by simp [results, Try.results48, go_sem]) rfl (P0'.out _ B0.out)
  · simp only [Bool.and_self, if_true] at hC CS CS' CG CG'
    by_cases hss : S = S'
    · rw [if_pos hss] at hC
      subst hss
      subst hC
      have P1' := Lib.hid (P1.out (by first | rfl | trivial))
      have CSx := Lib.hid (CS.out (by first | rfl | trivial))
      have CSy := Lib.hid (CS'.out (by first | rfl | trivial))
      have CGx := Lib.hid (CG.out (by first | rfl | trivial))
      have CGy := Lib.hid (CG'.out (by first | rfl | trivial))
      have nss : (S != S) = false := by simp
      clear P0 P1 CS CS' CG CG'
      go_enter Try.func48, Try.ntmps48
      go_wp2_with fail
      refine C1.out.mono ?_
      rintro e w' ⟨rfl, rfl⟩
      go_wp2_with fail
      refine (C2.out _).mono ?_
      rintro e w' ⟨rfl, rfl⟩
      go_wp2_with fail
      obtain ⟨hA0, hB0⟩ := HW0.out _ rfl
      refine (CSx.out _ hA0).mono ?_
      rintro e w' ⟨rfl, rfl⟩
      go_wp2_with fail
      refine (CSy.out _ hB0).mono ?_
      rintro e w' ⟨rfl, rfl⟩
      clear hB0
      go_wp2_with fail
      refine (CGx.out _ hA0).mono ?_
      rintro e w1 ⟨A1, cap1, rfl, ho1, b1⟩
      have B1 := Lib.hid (below_then B0.out b1)
      have O1 := Lib.hid (own_later ho1.out B0.out.size)
      clear hA0 b1 ho1
      go_wp2_with fail
      refine (CGy.out _ ((HB.out.below B1.out (Nat.le_refl _)).more B1.out.size)).mono ?_
      rintro e w2 ⟨A2, cap2, rfl, ho2, b2⟩
      have B2 := Lib.hid (below_then B1.out b2)
      have HS : Hid (SeamAt n da m db 0 w (.returned (.tuple #[.slice A1 n cap1, .slice A2 m cap2, .int .i64 0])) w2) := Lib.hid ⟨A1, cap1, A2, cap2, w1.heap.size, rfl, B1.out.size, b2.size, Lib.hid ((own_in O1.out (Nat.le_refl _)).below b2), Lib.hid (own_in ho2.out (Nat.le_refl _)), B2.out⟩
      clear b2 ho2 O1 B1
      go_wp2_with fail
      exact bodyPost_ret (v := .tuple #[.slice A1 n cap1, .slice A2 m cap2, .int .i64 0]) (by simp [results, Try.results48, go_sem]) rfl (P1'.out _ _ HS.out)
    · rw [if_neg hss] at hC
      subst hC
      have P0' := Lib.hid (P0.out (by omega))
      have CSx := Lib.hid (CS.out (by first | rfl | trivial))
      have CSy := Lib.hid (CS'.out (by first | rfl | trivial))
      have nss : (S != S') = true := by simpa using hss
      clear P0 P1 CS CS' CG CG' hss
      go_enter Try.func48, Try.ntmps48
      go_wp2_with fail
      refine C1.out.mono ?_
      rintro e w' ⟨rfl, rfl⟩
      go_wp2_with fail
      refine (C2.out _).mono ?_
      rintro e w' ⟨rfl, rfl⟩
      go_wp2_with fail
      obtain ⟨hA0, hB0⟩ := HW0.out _ rfl
      refine (CSx.out _ hA0).mono ?_
      rintro e w' ⟨rfl, rfl⟩
      go_wp2_with fail
      refine (CSy.out _ hB0).mono ?_
      rintro e w' ⟨rfl, rfl⟩
      clear hB0 hA0
      go_wp2_with fail
      exact bodyPost_ret (v := .tuple #[.slice none 0 0, .slice none 0 0, .int .i64 9]) (by simp [results, Try.results48, go_sem]) rfl (P0'.out _ B0.out)
end Go.Proofs.Ytaoknbhpjnileab.Sq
