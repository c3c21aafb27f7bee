/- Slices of slices of int64: the law's comparison, its marks, and whether the marks are held. -/
import Derived.Test.YtgclhkiiaclkgabIsLib
import Derived.Test.YtgclhkiiaclkgabQbLib
import Derived.Test.YtgclhkiiaclkgabBwLib
import Derived.Test.YtgclhkiiaclkgabGeLib
import Derived.Deep.QuietTactic
import Derived.BigQuiet
namespace Go.Proofs.Ytgclhkiiaclkgab.Ss2
open Go.RowKit Ft Is Ge Qb
open Bw (But)

/-- A slice of slices, to be read. -/
structure RowsR (w : World) (A : Option Addr) (n : Nat) (As : Nat → Option Addr) (ms cs : Nat → Nat) (ds : Nat → Nat → Int) : Prop where
  out : 0 < n → ∃ b off, A = some ⟨b, off, none⟩ ∧ b < w.heap.size ∧ ∀ i, i < n → w.cell? ⟨b, off + i, none⟩ = some (.slice (As i) (ms i) (cs i))
  inn : ∀ i, i < n → Nums w w.heap.size (As i) (ms i) (ds i)
theorem RowsR.below {w w' : World} {A : Option Addr} {n : Nat} {As : Nat → Option Addr} {ms cs : Nat → Nat} {ds : Nat → Nat → Int} (h : RowsR w A n As ms cs ds) (hb : Below w.heap.size w w') : RowsR w' A n As ms cs ds :=
  ⟨fun hn => by
    obtain ⟨b, off, e, h1, h2⟩ := h.out hn
    exact ⟨b, off, e, Nat.lt_of_lt_of_le h1 hb.size, fun i hi => (hb.cell (p := ⟨b, off + i, none⟩) h1).trans (h2 i hi)⟩, fun i hi => ((h.inn i hi).below hb (Nat.le_refl _)).more hb.size⟩
set_option maxRecDepth 100000 in
theorem eq_ss (A1 A2 : Option Addr) (n c1 c2 : Nat) (As1 As2 : Nat → Option Addr) (ms cs1 cs2 : Nat → Nat) (ds : Nat → Nat → Int) (hn : n ≤ 1048576) (hm : ∀ i, i < n → ms i ≤ 1048576) (w : World) (h1 : RowsR w A1 n As1 ms cs1 ds) (h2 : RowsR w A2 n As2 ms cs2 ds) :
    Calls Try.prog 45 #[.slice A1 n c1, .slice A2 n c2] w fun e w' => e = .returned (.bool true) ∧ Below w.heap.size w w' := by
  have H1 := Lib.hid h1
  have H2 := Lib.hid h2
  have CE := Lib.hid (fun i (hi : i < n) w a1 a2 => eq_ints (As1 i) (As2 i) (ms i) (cs1 i) (cs2 i) (ds i) (hm i hi) w a1 a2)
  clear h1 h2
  go_enter Try.func45, Try.ntmps45
  go_wp2_with fail
  go_loopw [5] (fun i wr => ∃ k : Nat, k ≤ n ∧ i = .int .i64 (k : Int) ∧ Hid (Below w.heap.size w wr)) (fun i _ => n - (intOf i).toNat)
  case atStart => exact ⟨0, Nat.zero_le _, rfl, Lib.hid (Below.refl _ _)⟩
  case round =>
    obtain ⟨k, hk, rfl, HB⟩ := hrel
    by_cases hlt : k < n
    · have HR1 := Lib.hid (H1.out.below HB.out)
      have HR2 := Lib.hid (H2.out.below HB.out)
      obtain ⟨b1, off1, rfl, hb1, hc1⟩ := HR1.out.out (by omega)
      obtain ⟨b2, off2, rfl, hb2, hc2⟩ := HR2.out.out (by omega)
      have x0 := bey_cell (hc1 k hlt)
      have y0 := bey_cell (hc2 k hlt)
      have HI1 := Lib.hid (HR1.out.inn k hlt)
      have HI2 := Lib.hid (HR2.out.inn k hlt)
      have CF := Lib.hid (fun z : Beyond wr => CE.out k hlt z.to ((HI1.out.below z.h (Nat.le_refl _)).more z.h.size) ((HI2.out.below z.h (Nat.le_refl _)).more z.h.size))
      have e0 : (0 : Int) ≤ (k : Int) := Int.natCast_nonneg _
      have e1 : (k : Int) < (n : Int) := by omega
      clear hc1 hc2 hb1 hb2 HR1 HR2 HI1 HI2
      go_wp2_with fail
      refine wp_region_below (by kernel_rfl) (by kernel_rfl) ?_
      repeat (go_big_quiet_step (first | (go_at_call 25; exact bey_of _ (CF.out _))))
      refine wpQuiet_nil ?_
      rintro _ ⟨pq, rfl⟩
      have HQ := Lib.hid (HB.out.trans (pq.h.mono HB.out.size))
      generalize pq.to = wq at HQ ⊢
      clear x0 y0 CF
      go_wp2_with fail
      go_roundw
      case rel => exact ⟨k + 1, by omega, by go_num, HQ⟩
      case measure => simp [intOf]; omega
    · go_wp2_with fail
      go_ret
      exact ⟨rfl, HB.out⟩
/-- The first mark of row i. -/
def st (k0 : Int) (ms : Nat → Nat) : Nat → Int
  | 0 => k0
  | i + 1 => st k0 ms i + (ms i : Int)
set_option maxRecDepth 100000 in
theorem held_ss (A : Option Addr) (n c : Nat) (As : Nat → Option Addr) (ms cs : Nat → Nat) (k0 : Int) (hn : n ≤ 1048576) (hm : ∀ i, i < n → ms i ≤ 1048576) (hk : ∀ i, i ≤ n → 0 < st k0 ms i ∧ st k0 ms i ≤ 1048576) (w : World) (h : RowsR w A n As ms cs (fun i => mk (st k0 ms i))) :
    Calls Try.prog 47 #[.slice A n c, .int .i64 k0] w fun e w' => e = .returned (.int .i64 (st k0 ms n)) ∧ w = w' := by
  have H := Lib.hid h
  have CE := Lib.hid (fun i (hi : i < n) w a => held_ints (As i) (ms i) (cs i) (st k0 ms i) (hm i hi) (Int.le_of_lt (hk i (Nat.le_of_lt hi)).1) (hk i (Nat.le_of_lt hi)).2 w.heap.size w a)
  have HK := Lib.hid hk
  have HS : Hid (∀ i, st k0 ms (i + 1) = st k0 ms i + (ms i : Int)) := Lib.hid fun i => rfl
  have HS0 : Hid (st k0 ms 0 = k0) := Lib.hid rfl
  clear h hk
  generalize st k0 ms = sg at *
  rw [← HS0.out]
  go_enter Try.func47, Try.ntmps47
  go_wp2_with fail
  go_loop [1, 5] (fun kk i => ∃ j : Nat, j ≤ n ∧ i = .int .i64 (j : Int) ∧ kk = .int .i64 (sg j)) (fun _ i => n - (intOf i).toNat)
  case atStart => exact ⟨0, Nat.zero_le _, rfl, rfl⟩
  case round =>
    obtain ⟨j, hj, rfl, rfl⟩ := hrel
    by_cases hlt : j < n
    · obtain ⟨b1, off1, rfl, hb1, hc1⟩ := H.out.out (by omega)
      have x0 := hc1 j hlt
      have CF := Lib.hid (CE.out j hlt w (H.out.inn j hlt))
      have e0 : (0 : Int) ≤ (j : Int) := Int.natCast_nonneg _
      have e1 : (j : Int) < (n : Int) := by omega
      obtain ⟨g1, g2⟩ := HK.out (j + 1) (by omega)
      have HSj : Hid (mk (sg j) (ms j) = sg (j + 1)) := Lib.hid (by rw [HS.out]; rfl)
      rw [HSj.out] at CF
      generalize hsn : sg (j + 1) = t at CF g1 g2
      clear hc1
      go_wp2_with fail
      refine CF.out.mono ?_
      rintro e w' ⟨rfl, rfl⟩
      go_wp2_with fail
      go_round
      case rel => exact ⟨j + 1, by omega, by go_num, by rw [hsn]⟩
      case measure => simp [intOf]; omega
    · obtain rfl : j = n := by omega
      go_wp2_with fail
      go_ret
      exact ⟨rfl, rfl⟩
/-- A slice of slices of the call's own, all apart. -/
structure RowsO (w : World) (B : Nat) (A : Option Addr) (n : Nat) (As : Nat → Option Addr) (ms cs : Nat → Nat) (ds : Nat → Nat → Int) : Prop where
  out : 0 < n → ∃ b off, A = some ⟨b, off, none⟩ ∧ b < w.heap.size ∧ ∀ i, i < n → w.cell? ⟨b, off + i, none⟩ = some (.slice (As i) (ms i) (cs i))
  inn : ∀ i, i < n → Own w B (As i) (ms i) (ds i)
  apart : ∀ i j, i < n → j < n → i ≠ j → 0 < ms i → 0 < ms j → ∀ b o b' o', As i = some ⟨b, o, none⟩ → As j = some ⟨b', o', none⟩ → b' ≠ b
  outer : ∀ i, i < n → 0 < ms i → ∀ b o b' o', As i = some ⟨b, o, none⟩ → A = some ⟨b', o', none⟩ → b' ≠ b
theorem RowsO.rows {w : World} {B : Nat} {A : Option Addr} {n : Nat} {As : Nat → Option Addr} {ms cs : Nat → Nat} {ds : Nat → Nat → Int} (h : RowsO w B A n As ms cs ds) : RowsR w A n As ms cs ds := ⟨h.out, fun i hi => (h.inn i hi).nums⟩
theorem RowsO.below {w w' : World} {B : Nat} {A : Option Addr} {n : Nat} {As : Nat → Option Addr} {ms cs : Nat → Nat} {ds : Nat → Nat → Int} (h : RowsO w B A n As ms cs ds) (hb : Below w.heap.size w w') : RowsO w' B A n As ms cs ds :=
  ⟨(h.rows.below hb).out, fun i hi => (h.inn i hi).below hb, h.apart, h.outer⟩
theorem own_but2 {b B : Nat} {w w' : World} {A : Option Addr} {m : Nat} {d : Nat → Int} (h : Own w B A m d) (hg : But b w w') (hb : ∀ b' o', 0 < m → A = some ⟨b', o', none⟩ → b' ≠ b) : Own w' B A m d := fun hm => by
  obtain ⟨g, off, e, h1, h2, h3, h4⟩ := h hm
  have hk := hg.block g h2 (hb g off hm e)
  exact ⟨g, off, e, h1, Nat.lt_of_lt_of_le h2 hg.size, fun i hi => (World.cell?_of_block hk).trans (h3 i hi), fun i => by
    have := h4 i
    unfold World.frozen? at this ⊢
    simp only [hk]
    exact this⟩
set_option maxRecDepth 100000 in
theorem mark_but (b : Nat) (A : Option Addr) (n c : Nat) (k0 : Int) (f : Nat → Int) (hn : n ≤ 1048576) (h0 : 0 ≤ k0) (h1 : k0 ≤ 1048576) (B : Nat) (w : World) (hA : ∀ b' o', 0 < n → A = some ⟨b', o', none⟩ → b' = b) (h : Own w B A n f) :
    Calls Try.prog 31 #[.slice A n c, .int .i64 k0] w fun e w' => e = .returned (.int .i64 (mk k0 n)) ∧ Own w' B A n (mk k0) ∧ But b w w' := by
  have HO : Hid (Own w B A n (Is.part k0 f 0)) := Lib.hid fun hp => by
    obtain ⟨b, off, e, hB, hlt, hc, hf⟩ := h hp
    exact ⟨b, off, e, hB, hlt, fun i hi => by rw [hc i hi]; simp [Is.part], hf⟩
  have HE : Hid (∀ w', Own w' B A n (Is.part k0 f n) → Own w' B A n (mk k0)) := Lib.hid fun w' ho hp => by
    obtain ⟨b, off, e, hB, hlt, hc, hf⟩ := ho hp
    exact ⟨b, off, e, hB, hlt, fun i hi => by rw [hc i hi]; simp [Is.part, hi], hf⟩
  have HA := Lib.hid hA
  clear h hA
  go_enter Try.func31, Try.ntmps31
  go_wp2_with fail
  go_loopw [1, 5] (fun kk i wr => ∃ j : Nat, j ≤ n ∧ i = .int .i64 j ∧ kk = .int .i64 (k0 + (j : Int)) ∧ Hid (But b w wr) ∧ Hid (Own wr B A n (Is.part k0 f j))) (fun _ i _ => n - (intOf i).toNat)
  case atStart => exact ⟨0, Nat.zero_le _, rfl, by simp, Lib.hid (But.refl _ _), HO⟩
  case round =>
    obtain ⟨j, hj, rfl, rfl, HB, hown⟩ := hrel
    by_cases hlt : j < n
    · obtain ⟨b1, off, rfl, hB, hbs, hc, hf⟩ := hown.out (by omega)
      obtain rfl : b1 = b := HA.out _ _ (by omega) rfl
      have x0 := hc j hlt
      have z0 := hf (off + j)
      have HN := Lib.hid (own_set (k0 := k0) (f := f) hB hbs hlt hc hf)
      have HM : Hid (mk k0 j = k0 + (j : Int)) := Lib.hid rfl
      clear hc hf hj
      generalize Is.part k0 f j j = old at x0
      go_wp2_with fail
      rw [HM.out] at HN
      have HQ := Lib.hid (HB.out.setCell (off + j) (.int .i64 (k0 + (j : Int))))
      go_roundw
      case rel => exact ⟨j + 1, by omega, by go_num, by go_num, HQ, HN⟩
      case measure => simp [intOf]; omega
    · obtain rfl : j = n := by omega
      have HF := Lib.hid (HE.out _ hown.out)
      go_wp2_with fail
      go_ret
      exact ⟨rfl, HF.out, HB.out⟩
/-- The numbers while row i is marked. -/
def dm (k0 : Int) (ms : Nat → Nat) (ds : Nat → Nat → Int) (i q : Nat) : Nat → Int := if q < i then mk (st k0 ms q) else ds q
theorem but_below' {B b : Nat} {w w' : World} (h : But b w w') (hb : B ≤ b) (hB : B ≤ w.heap.size) : Below B w w' := ⟨h.os, h.tape, h.output, h.size, fun k hk => h.block k (by omega) (by omega)⟩
theorem rows_mark {B : Nat} {A : Option Addr} {n : Nat} {As : Nat → Option Addr} {ms cs : Nat → Nat} {ds : Nat → Nat → Int} {k0 : Int} {i b : Nat} {w w' : World} (hi : i < n) (h : RowsO w B A n As ms cs (dm k0 ms ds i)) (hg : But b w w') (hb : ∀ b' o', 0 < ms i → As i = some ⟨b', o', none⟩ → b' = b) (hz : ms i = 0 → w.heap.size ≤ b) (ho : Own w' B (As i) (ms i) (mk (st k0 ms i))) (hm : 0 < ms i → ∃ o, As i = some ⟨b, o, none⟩) :
    RowsO w' B A n As ms cs (dm k0 ms ds (i + 1)) := by
  refine ⟨fun hn => ?_, fun j hj => ?_, h.apart, h.outer⟩
  · obtain ⟨g, off, e, h1, h2⟩ := h.out hn
    have hne : g ≠ b := by
      by_cases q : 0 < ms i
      · obtain ⟨o, e'⟩ := hm q
        exact h.outer i hi q b o g off e' e
      · have := hz (by omega); omega
    exact ⟨g, off, e, Nat.lt_of_lt_of_le h1 hg.size, fun j hj => (World.cell?_of_block (hg.block g h1 hne)).trans (h2 j hj)⟩
  · by_cases e : j = i
    · subst e
      have : dm k0 ms ds (j + 1) j = mk (st k0 ms j) := by unfold dm; rw [if_pos (by omega)]
      rw [this]
      exact ho
    · have : dm k0 ms ds (i + 1) j = dm k0 ms ds i j := by
        unfold dm
        by_cases q : j < i
        · rw [if_pos (by omega), if_pos q]
        · rw [if_neg (by omega), if_neg q]
      rw [this]
      refine own_but2 (h.inn j hj) hg fun b' o' hmj ej => ?_
      by_cases q : 0 < ms i
      · obtain ⟨o, e'⟩ := hm q
        exact h.apart i j hi hj (fun q => e q.symm) q hmj b o b' o' e' ej
      · obtain ⟨g, off, e1, _, h3, _⟩ := h.inn j hj hmj
        rw [ej] at e1
        cases e1
        have := hz (by omega)
        omega
set_option maxRecDepth 100000 in
theorem mark_ss (A : Option Addr) (n c : Nat) (As : Nat → Option Addr) (ms cs : Nat → Nat) (ds : Nat → Nat → Int) (k0 : Int) (hn : n ≤ 1048576) (hm : ∀ i, i < n → ms i ≤ 1048576) (hk : ∀ i, i ≤ n → 0 < st k0 ms i ∧ st k0 ms i ≤ 1048576) (B : Nat) (w : World) (hBw : B ≤ w.heap.size) (h : RowsO w B A n As ms cs ds) :
    Calls Try.prog 46 #[.slice A n c, .int .i64 k0] w fun e w' => e = .returned (.int .i64 (st k0 ms n)) ∧ RowsO w' B A n As ms cs (dm k0 ms ds n) ∧ Below B w w' := by
  have H : Hid (RowsO w B A n As ms cs (dm k0 ms ds 0)) := Lib.hid (by
    have : dm k0 ms ds 0 = ds := by funext q; unfold dm; rw [if_neg (Nat.not_lt_zero _)]
    rw [this]; exact h)
  have CE := Lib.hid (fun b i (hi : i < n) w a1 a2 => mark_but b (As i) (ms i) (cs i) (st k0 ms i) (dm k0 ms ds i i) (hm i hi) (Int.le_of_lt (hk i (Nat.le_of_lt hi)).1) (hk i (Nat.le_of_lt hi)).2 B w a1 a2)
  have HR := Lib.hid (fun b i (w w' : World) (hi : i < n) h1 h2 h3 h4 h5 h6 => rows_mark (B := B) (A := A) (As := As) (ms := ms) (cs := cs) (ds := ds) (k0 := k0) (i := i) (b := b) (w := w) (w' := w') hi h1 h2 h3 h4 h5 h6)
  have HK := Lib.hid hk
  have HS : Hid (∀ i, st k0 ms (i + 1) = st k0 ms i + (ms i : Int)) := Lib.hid fun i => rfl
  have HS0 : Hid (st k0 ms 0 = k0) := Lib.hid rfl
  clear h hk
  generalize dm k0 ms ds = E at *
  generalize st k0 ms = sg at *
  rw [← HS0.out]
  go_enter Try.func46, Try.ntmps46
  go_wp2_with fail
  go_loopw [1, 5] (fun kk i wr => ∃ j : Nat, j ≤ n ∧ i = .int .i64 (j : Int) ∧ kk = .int .i64 (sg j) ∧ Hid (Below B w wr) ∧ Hid (RowsO wr B A n As ms cs (E j))) (fun _ i _ => n - (intOf i).toNat)
  case atStart => exact ⟨0, Nat.zero_le _, rfl, rfl, Lib.hid (Below.refl _ _), H⟩
  case round =>
    obtain ⟨j, hj, rfl, rfl, HB, HO⟩ := hrel
    by_cases hlt : j < n
    · obtain ⟨b1, off1, rfl, hb1, hc1⟩ := HO.out.out (by omega)
      have x0 := hc1 j hlt
      have e0 : (0 : Int) ≤ (j : Int) := Int.natCast_nonneg _
      have e1 : (j : Int) < (n : Int) := by omega
      obtain ⟨g1, g2⟩ := HK.out (j + 1) (by omega)
      have HSj : Hid (mk (sg j) (ms j) = sg (j + 1)) := Lib.hid (by rw [HS.out]; rfl)
      have hzr := HB.out.size
      have CF : Hid (Calls Try.prog 31 #[.slice (As j) (ms j) (cs j), .int .i64 (sg j)] wr fun e w' => e = .returned (.int .i64 (sg (j + 1))) ∧ Below B w w' ∧ RowsO w' B (some ⟨b1, off1, none⟩) n As ms cs (E (j + 1))) := Lib.hid (by
        rw [← HSj.out]
        by_cases q : 0 < ms j
        · obtain ⟨b, o, e, hB, hlb, _⟩ := HO.out.inn j hlt q
          refine (CE.out b j hlt wr (fun b' o' _ e' => by rw [e] at e'; cases e'; rfl) (HO.out.inn j hlt)).mono fun e2 w' ⟨h1, h2, h3⟩ => ⟨h1, HB.out.trans (but_below' h3 hB (by omega)), HR.out b j wr w' hlt HO.out h3 (fun b' o' _ e' => by rw [e] at e'; cases e'; rfl) (fun z => absurd q (by omega)) h2 (fun _ => ⟨o, e⟩)⟩
        · refine (CE.out wr.heap.size j hlt wr (fun b' o' z _ => absurd z q) (HO.out.inn j hlt)).mono fun e2 w' ⟨h1, h2, h3⟩ => ⟨h1, HB.out.trans (but_below' h3 (by omega) (by omega)), HR.out wr.heap.size j wr w' hlt HO.out h3 (fun b' o' z _ => absurd z q) (fun _ => Nat.le_refl _) h2 (fun z => absurd z q)⟩)
      generalize hsn : sg (j + 1) = t at CF g1 g2
      clear hc1
      go_wp2_with fail
      refine CF.out.mono ?_
      rintro e w' ⟨rfl, hB2, hO2⟩
      have HB2 := Lib.hid hB2
      have HO2 := Lib.hid hO2
      clear hB2 hO2 CF
      go_wp2_with fail
      go_roundw
      case rel => exact ⟨j + 1, by omega, by go_num, by rw [hsn], HB2, HO2⟩
      case measure => simp [intOf]; omega
    · obtain rfl : j = n := by omega
      go_wp2_with fail
      go_ret
      exact ⟨rfl, HO.out, HB.out⟩
end Go.Proofs.Ytgclhkiiaclkgab.Ss2
