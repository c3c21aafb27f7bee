/- Rows of lasts: the law's comparison, its marks, and whether the marks are held. Their cells are read as six times as many values. -/
import Derived.Test.YtaoknbhpjnileabMtLib
import Derived.Test.YtaoknbhpjnileabLaLib
import Derived.Test.YtaoknbhpjnileabQbLib
import Derived.Test.YtaoknbhpjnileabGeLib
import Derived.OwnWalk
import Derived.RegionTactic
import Derived.Deep.Slices
namespace Go.Proofs.Ytaoknbhpjnileab.Ks
open Go.RowKit Ft Ge Qb La Mt

/-- A row of n values, below block B. -/
def Vals (w : World) (B : Nat) (A : Option Addr) (n : Nat) (V : Nat → Value) : Prop :=
  0 < n → ∃ b off, A = some ⟨b, off, none⟩ ∧ b < B ∧ ∀ i, i < n → w.cell? ⟨b, off + i, none⟩ = some (V i)
theorem Vals.below {w w' : World} {B B' n : Nat} {A : Option Addr} {V : Nat → Value} (h : Vals w B A n V) (hb : Below B' w w') (hB : B ≤ B') : Vals w' B A n V := fun hn => by
  obtain ⟨b, off, rfl, hlt, hc⟩ := h hn
  exact ⟨b, off, rfl, hlt, fun i hi => (hb.cell (p := ⟨b, off + i, none⟩) (by show b < B'; omega)).trans (hc i hi)⟩
theorem Vals.more {w : World} {B B' n : Nat} {A : Option Addr} {V : Nat → Value} (h : Vals w B A n V) (hB : B ≤ B') : Vals w B' A n V := fun hn => by
  obtain ⟨b, off, rfl, hlt, hc⟩ := h hn
  exact ⟨b, off, rfl, by omega, hc⟩
/-- A row of the call's own: from block B on, not frozen. -/
def OwnV (w : World) (B : Nat) (A : Option Addr) (n : Nat) (V : Nat → Value) : Prop :=
  0 < n → ∃ b off, A = some ⟨b, off, none⟩ ∧ B ≤ b ∧ b < w.heap.size ∧ (∀ i, i < n → w.cell? ⟨b, off + i, none⟩ = some (V i)) ∧ ∀ i, w.frozen? ⟨b, i, none⟩ = false
theorem OwnV.vals {w : World} {B n : Nat} {A : Option Addr} {V : Nat → Value} (h : OwnV w B A n V) : Vals w w.heap.size A n V := fun hn => by
  obtain ⟨b, off, rfl, _, hlt, hc, _⟩ := h hn
  exact ⟨b, off, rfl, hlt, hc⟩
theorem OwnV.below {w w' : World} {B n : Nat} {A : Option Addr} {V : Nat → Value} (h : OwnV w B A n V) (hb : Below w.heap.size w w') : OwnV w' B A n V := fun hn => by
  obtain ⟨b, off, rfl, hB, hlt, hc, hf⟩ := h hn
  exact ⟨b, off, rfl, hB, by have := hb.size; omega, fun i hi => (hb.cell (p := ⟨b, off + i, none⟩) hlt).trans (hc i hi), fun i => (hb.frozen (p := ⟨b, i, none⟩) hlt).trans (hf i)⟩
theorem OwnV.congr {w : World} {B n : Nat} {A : Option Addr} {V V' : Nat → Value} (h : OwnV w B A n V) (he : ∀ i, i < n → V i = V' i) : OwnV w B A n V' := fun hn => by
  obtain ⟨b, off, rfl, hB, hlt, hc, hf⟩ := h hn
  exact ⟨b, off, rfl, hB, hlt, fun i hi => by rw [← he i hi]; exact hc i hi, hf⟩
def upd (V : Nat → Value) (j : Nat) (v : Value) (i : Nat) : Value := if i = j then v else V i
theorem row_set {wr : World} {B n b off : Nat} {V : Nat → Value} (h : OwnV wr B (some ⟨b, off, none⟩) n V) (j : Nat) (hj : j < n) (v : Value) : OwnV (wr.setCell ⟨b, off + j, none⟩ v) B (some ⟨b, off, none⟩) n (upd V j v) := fun hn => by
  obtain ⟨b', off', e, hB, hlt, hc, hf⟩ := h hn
  cases e
  exact ⟨b, off, rfl, hB, by simpa using hlt, fun i hi => by
    by_cases e : i = j
    · subst e
      rw [World.cell?_setCell_same _ _ _ (hc i hi)]
      simp [upd]
    · rw [World.cell?_setCell_other _ _ _ _ (show (⟨b, off + j, none⟩ : Addr) ≠ ⟨b, off + i, none⟩ from fun q => by have := (Addr.mk.inj q).2.1; omega), hc i hi]
      simp [upd, e], fun i => (World.frozen?_setCell _ _ _ _).trans (hf i)⟩
/-- The cells of lasts with names S and numbers F. -/
def lv (S : Nat → ByteArray) (F : Nat → Nat → Int) (i : Nat) : Value := if i % 6 = 0 then .string (S (i / 6)) else .int .i64 (F (i / 6) (i % 6 - 1))
theorem lv_0 (S : Nat → ByteArray) (F : Nat → Nat → Int) (k : Nat) : lv S F (k * 6) = .string (S k) := by
  unfold lv
  rw [if_pos (by omega), show k * 6 / 6 = k by omega]
theorem lv_j (S : Nat → ByteArray) (F : Nat → Nat → Int) (k : Nat) {j : Nat} (hj : j < 5) : lv S F (k * 6 + (j + 1)) = .int .i64 (F k j) := by
  unfold lv
  rw [if_neg (by omega), show (k * 6 + (j + 1)) / 6 = k by omega, show (k * 6 + (j + 1)) % 6 - 1 = j by omega]
set_option maxRecDepth 100000 in
theorem eq_lasts (A1 A2 : Option Addr) (n c1 c2 : Nat) (S : Nat → ByteArray) (F : Nat → Nat → Int) (hn : n ≤ 1048576) (w : World) (h1 : Vals w w.heap.size A1 (n * 6) (lv S F)) (h2 : Vals w w.heap.size A2 (n * 6) (lv S F)) :
    Calls Try.prog 28 #[.slice A1 n c1, .slice A2 n c2] w fun e w' => e = .returned (.bool true) ∧ Below w.heap.size w w' := by
  have H1 := Lib.hid h1
  have H2 := Lib.hid h2
  clear h1 h2
  go_enter Try.func28, Try.ntmps28
  go_wp2_with fail
  go_loopw [5] (fun i wr => ∃ k : Nat, k ≤ n ∧ i = .int .i64 k ∧ Below w.heap.size w wr) (fun i _ => n - (intOf i).toNat)
  case atStart => exact ⟨0, Nat.zero_le _, rfl, Below.refl _ _⟩
  case round =>
    obtain ⟨k, hk, rfl, hbel⟩ := hrel
    have HB := Lib.hid hbel
    by_cases hlt : k < n
    · obtain ⟨b1, off1, rfl, hb1, hc1⟩ := (H1.out.below hbel (Nat.le_refl _)) (by omega)
      obtain ⟨b2, off2, rfl, hb2, hc2⟩ := (H2.out.below hbel (Nat.le_refl _)) (by omega)
      have x0 : wr.cell? ⟨b1, off1 + k * 6, none⟩ = some (.string (S k)) := (hc1 (k * 6) (by omega)).trans (congrArg some (lv_0 S F k))
      have x1 : wr.cell? ⟨b1, off1 + k * 6 + 1, none⟩ = some (.int .i64 (F k 0)) := (hc1 (k * 6 + 1) (by omega)).trans (congrArg some (lv_j S F k (j := 0) (by omega)))
      have x2 : wr.cell? ⟨b1, off1 + k * 6 + 2, none⟩ = some (.int .i64 (F k 1)) := (hc1 (k * 6 + 2) (by omega)).trans (congrArg some (lv_j S F k (j := 1) (by omega)))
      have x3 : wr.cell? ⟨b1, off1 + k * 6 + 3, none⟩ = some (.int .i64 (F k 2)) := (hc1 (k * 6 + 3) (by omega)).trans (congrArg some (lv_j S F k (j := 2) (by omega)))
      have x4 : wr.cell? ⟨b1, off1 + k * 6 + 4, none⟩ = some (.int .i64 (F k 3)) := (hc1 (k * 6 + 4) (by omega)).trans (congrArg some (lv_j S F k (j := 3) (by omega)))
      have x5 : wr.cell? ⟨b1, off1 + k * 6 + 5, none⟩ = some (.int .i64 (F k 4)) := (hc1 (k * 6 + 5) (by omega)).trans (congrArg some (lv_j S F k (j := 4) (by omega)))
      have y0 : wr.cell? ⟨b2, off2 + k * 6, none⟩ = some (.string (S k)) := (hc2 (k * 6) (by omega)).trans (congrArg some (lv_0 S F k))
      have y1 : wr.cell? ⟨b2, off2 + k * 6 + 1, none⟩ = some (.int .i64 (F k 0)) := (hc2 (k * 6 + 1) (by omega)).trans (congrArg some (lv_j S F k (j := 0) (by omega)))
      have y2 : wr.cell? ⟨b2, off2 + k * 6 + 2, none⟩ = some (.int .i64 (F k 1)) := (hc2 (k * 6 + 2) (by omega)).trans (congrArg some (lv_j S F k (j := 1) (by omega)))
      have y3 : wr.cell? ⟨b2, off2 + k * 6 + 3, none⟩ = some (.int .i64 (F k 2)) := (hc2 (k * 6 + 3) (by omega)).trans (congrArg some (lv_j S F k (j := 2) (by omega)))
      have y4 : wr.cell? ⟨b2, off2 + k * 6 + 4, none⟩ = some (.int .i64 (F k 3)) := (hc2 (k * 6 + 4) (by omega)).trans (congrArg some (lv_j S F k (j := 3) (by omega)))
      have y5 : wr.cell? ⟨b2, off2 + k * 6 + 5, none⟩ = some (.int .i64 (F k 4)) := (hc2 (k * 6 + 5) (by omega)).trans (congrArg some (lv_j S F k (j := 4) (by omega)))
      have EQ := Lib.hid (fun w => eq_last_same (S k) (F k) w)
      unfold laV at EQ
      generalize S k = s at x0 y0 EQ
      generalize F k 0 = f0, F k 1 = f1, F k 2 = f2, F k 3 = f3, F k 4 = f4 at x1 x2 x3 x4 x5 y1 y2 y3 y4 y5 EQ
      have e0 : (0 : Int) ≤ (k : Int) := Int.natCast_nonneg _
      have e1 : (k : Int) < (n : Int) := by omega
      clear hc1 hc2 hbel hk
      have x0 := bey_cell x0
      have x1 := bey_cell x1
      have x2 := bey_cell x2
      have x3 := bey_cell x3
      have x4 := bey_cell x4
      have x5 := bey_cell x5
      have y0 := bey_cell y0
      have y1 := bey_cell y1
      have y2 := bey_cell y2
      have y3 := bey_cell y3
      have y4 := bey_cell y4
      have y5 := bey_cell y5
      go_wp2_with fail
      refine wp_region_below (by kernel_rfl) (by kernel_rfl) ?_
      repeat (go_big_quiet_step (first | (go_at_call 65; exact bey_of _ (EQ.out _))))
      refine wpQuiet_nil ?_
      rintro _ ⟨pq, rfl⟩
      have HQ := Lib.hid (below_then HB.out pq.h)
      generalize pq.to = wq at HQ ⊢
      clear x0 x1 x2 x3 x4 x5 y0 y1 y2 y3 y4 y5
      go_wp2_with fail
      go_roundw
      case rel => exact ⟨k + 1, by omega, by go_num, HQ.out⟩
      case measure => simp [intOf]; omega
    · go_wp2_with fail
      go_ret
      exact ⟨rfl, HB.out⟩
/-- The marks from k0 on, six a last. -/
def mS (k0 : Int) (k : Nat) : ByteArray := mkT (k0 + 6 * (k : Int))
def mF (k0 : Int) (k j : Nat) : Int := k0 + 6 * (k : Int) + ((j : Int) + 1)
def mkv (k0 : Int) : Nat → Value := lv (mS k0) (mF k0)
def mix (k0 : Int) (V : Nat → Value) (j i : Nat) : Value := if i < j * 6 then mkv k0 i else V i
theorem six_set {wr : World} {B n b off j : Nat} {k0 : Int} {V : Nat → Value} (h : OwnV wr B (some ⟨b, off, none⟩) n (mix k0 V j)) (hj : j * 6 + 5 < n) :
    OwnV ((((((wr.setCell ⟨b, off + j * 6, none⟩ (.string (mS k0 j))).setCell ⟨b, off + j * 6 + 1, none⟩ (.int .i64 (k0 + 6 * (j : Int) + 1))).setCell ⟨b, off + j * 6 + 2, none⟩ (.int .i64 (k0 + 6 * (j : Int) + 1 + 1))).setCell ⟨b, off + j * 6 + 3, none⟩ (.int .i64 (k0 + 6 * (j : Int) + 1 + 1 + 1))).setCell ⟨b, off + j * 6 + 4, none⟩ (.int .i64 (k0 + 6 * (j : Int) + 1 + 1 + 1 + 1))).setCell ⟨b, off + j * 6 + 5, none⟩ (.int .i64 (k0 + 6 * (j : Int) + 1 + 1 + 1 + 1 + 1))) B (some ⟨b, off, none⟩) n (mix k0 V (j + 1)) := by
  have h1 := row_set h (j * 6) (by omega) (.string (mS k0 j))
  have h2 := row_set h1 (j * 6 + 1) (by omega) (.int .i64 (k0 + 6 * (j : Int) + 1))
  have h3 := row_set h2 (j * 6 + 2) (by omega) (.int .i64 (k0 + 6 * (j : Int) + 1 + 1))
  have h4 := row_set h3 (j * 6 + 3) (by omega) (.int .i64 (k0 + 6 * (j : Int) + 1 + 1 + 1))
  have h5 := row_set h4 (j * 6 + 4) (by omega) (.int .i64 (k0 + 6 * (j : Int) + 1 + 1 + 1 + 1))
  have h6 := row_set h5 (j * 6 + 5) (by omega) (.int .i64 (k0 + 6 * (j : Int) + 1 + 1 + 1 + 1 + 1))
  refine h6.congr fun i _ => ?_
  simp only [upd, mix]
  have R : i < j * 6 ∨ j * 6 + 6 ≤ i ∨ i = j * 6 ∨ i = j * 6 + 1 ∨ i = j * 6 + 2 ∨ i = j * 6 + 3 ∨ i = j * 6 + 4 ∨ i = j * 6 + 5 := by omega
  rcases R with h | h | rfl | rfl | rfl | rfl | rfl | rfl
  · rw [if_neg (by omega), if_neg (by omega), if_neg (by omega), if_neg (by omega), if_neg (by omega), if_neg (by omega), if_pos h, if_pos (by omega)]
  · rw [if_neg (by omega), if_neg (by omega), if_neg (by omega), if_neg (by omega), if_neg (by omega), if_neg (by omega), if_neg (by omega), if_neg (by omega)]
  · rw [if_neg (by omega), if_neg (by omega), if_neg (by omega), if_neg (by omega), if_neg (by omega), if_pos rfl, if_pos (by omega)]
    exact (lv_0 _ _ _).symm
  · rw [if_neg (by omega), if_neg (by omega), if_neg (by omega), if_neg (by omega), if_pos rfl, if_pos (by omega)]
    rw [show mkv k0 (j * 6 + 1) = .int .i64 (mF k0 j 0) from lv_j (mS k0) (mF k0) j (j := 0) (by omega)]
    first | rfl | (congr 1; done) | (congr 1; unfold mF; omega)
  · rw [if_neg (by omega), if_neg (by omega), if_neg (by omega), if_pos rfl, if_pos (by omega)]
    rw [show mkv k0 (j * 6 + 2) = .int .i64 (mF k0 j 1) from lv_j (mS k0) (mF k0) j (j := 1) (by omega)]
    first | rfl | (congr 1; done) | (congr 1; unfold mF; omega)
  · rw [if_neg (by omega), if_neg (by omega), if_pos rfl, if_pos (by omega)]
    rw [show mkv k0 (j * 6 + 3) = .int .i64 (mF k0 j 2) from lv_j (mS k0) (mF k0) j (j := 2) (by omega)]
    first | rfl | (congr 1; done) | (congr 1; unfold mF; omega)
  · rw [if_neg (by omega), if_pos rfl, if_pos (by omega)]
    rw [show mkv k0 (j * 6 + 4) = .int .i64 (mF k0 j 3) from lv_j (mS k0) (mF k0) j (j := 3) (by omega)]
    first | rfl | (congr 1; done) | (congr 1; unfold mF; omega)
  · rw [if_pos rfl, if_pos (by omega)]
    rw [show mkv k0 (j * 6 + 5) = .int .i64 (mF k0 j 4) from lv_j (mS k0) (mF k0) j (j := 4) (by omega)]
    first | rfl | (congr 1; done) | (congr 1; unfold mF; omega)
set_option maxHeartbeats 2000000 in
theorem mark_lasts (A : Option Addr) (n c : Nat) (k0 : Int) (V : Nat → Value) (hn : n ≤ 1048576) (h0 : 0 < k0) (h1 : k0 ≤ 1048576) (B : Nat) (w : World) (hBw : B ≤ w.heap.size) (h : OwnV w B A (n * 6) V) :
    Calls Try.prog 29 #[.slice A n c, .int .i64 k0] w fun e w' => e = .returned (.int .i64 (k0 + 6 * (n : Int))) ∧ OwnV w' B A (n * 6) (mkv k0) ∧ Below B w w' := by
  have HO : Hid (OwnV w B A (n * 6) (mix k0 V 0)) := Lib.hid (h.congr fun i _ => by simp [mix])
  have HE : Hid (∀ w', OwnV w' B A (n * 6) (mix k0 V n) → OwnV w' B A (n * 6) (mkv k0)) := Lib.hid fun w' ho => ho.congr fun i hi => by simp [mix, hi]
  have MT := Lib.hid fun (j : Nat) (hj : j < n) w => mark_text (k0 + 6 * (j : Int)) (by omega) (by omega) w
  clear h
  go_enter Try.func29, Try.ntmps29
  go_wp2_with fail
  go_loopw [1, 5] (fun kk i wr => ∃ j : Nat, j ≤ n ∧ i = .int .i64 j ∧ kk = .int .i64 (k0 + 6 * (j : Int)) ∧ Below B w wr ∧ Hid (OwnV wr B A (n * 6) (mix k0 V j))) (fun _ i _ => n - (intOf i).toNat)
  case atStart => exact ⟨0, Nat.zero_le _, rfl, by simp, Below.refl _ _, HO⟩
  case round =>
    obtain ⟨j, hj, rfl, rfl, hbel, hown⟩ := hrel
    have HB := Lib.hid hbel
    by_cases hlt : j < n
    · have M := Lib.hid (MT.out j hlt)
      have HOW := Lib.hid fun w' (hb : Below wr.heap.size wr w') => hown.out.below hb
      have hzr := HB.out.size
      have e0 : (0 : Int) ≤ (j : Int) := Int.natCast_nonneg _
      have e1 : (j : Int) < (n : Int) := by omega
      have e2 : (j : Int) < 1048576 := by omega
      clear hbel
      obtain ⟨b, off, rfl, hB, hbs, hc, hf⟩ := hown.out (by omega)
      clear hc hf
      go_wp2_with fail
      refine (M.out _).mono ?_
      rintro e w1 ⟨rfl, b1⟩
      have HB1 := Lib.hid (HB.out.trans (b1.mono (Nat.le_trans hBw hzr)))
      obtain ⟨b', off', e', hB', hbs', hc', hf'⟩ := (HOW.out w1 b1) (by omega)
      obtain ⟨rfl, rfl⟩ : b = b' ∧ off = off' := by simpa using e'
      have x0 := hc' (j * 6) (by omega)
      have x1 : w1.cell? ⟨b, off + j * 6 + 1, none⟩ = some _ := hc' (j * 6 + 1) (by omega)
      have x2 : w1.cell? ⟨b, off + j * 6 + 2, none⟩ = some _ := hc' (j * 6 + 2) (by omega)
      have x3 : w1.cell? ⟨b, off + j * 6 + 3, none⟩ = some _ := hc' (j * 6 + 3) (by omega)
      have x4 : w1.cell? ⟨b, off + j * 6 + 4, none⟩ = some _ := hc' (j * 6 + 4) (by omega)
      have x5 : w1.cell? ⟨b, off + j * 6 + 5, none⟩ = some _ := hc' (j * 6 + 5) (by omega)
      have z0 := hf' (off + j * 6)
      have z1 := hf' (off + j * 6 + 1)
      have z2 := hf' (off + j * 6 + 2)
      have z3 := hf' (off + j * 6 + 3)
      have z4 := hf' (off + j * 6 + 4)
      have z5 := hf' (off + j * 6 + 5)
      have HN := Lib.hid (six_set (j := j) (HOW.out w1 b1) (by omega))
      have HM : Hid (mS k0 j = mkT (k0 + 6 * (j : Int))) := Lib.hid rfl
      rw [HM.out] at HN
      clear hc' hf' b1 hj e' HOW M HM
      generalize mix k0 V j (j * 6) = o0 at x0
      generalize mix k0 V j (j * 6 + 1) = o1 at x1
      generalize mix k0 V j (j * 6 + 2) = o2 at x2
      generalize mix k0 V j (j * 6 + 3) = o3 at x3
      generalize mix k0 V j (j * 6 + 4) = o4 at x4
      generalize mix k0 V j (j * 6 + 5) = o5 at x5
      have HQ := Lib.hid ((((((HB1.out.setCell (p := ⟨b, off + j * 6, none⟩) hB (.string (mkT (k0 + 6 * (j : Int))))).setCell (p := ⟨b, off + j * 6 + 1, none⟩) hB (.int .i64 (k0 + 6 * (j : Int) + 1))).setCell (p := ⟨b, off + j * 6 + 2, none⟩) hB (.int .i64 (k0 + 6 * (j : Int) + 1 + 1))).setCell (p := ⟨b, off + j * 6 + 3, none⟩) hB (.int .i64 (k0 + 6 * (j : Int) + 1 + 1 + 1))).setCell (p := ⟨b, off + j * 6 + 4, none⟩) hB (.int .i64 (k0 + 6 * (j : Int) + 1 + 1 + 1 + 1))).setCell (p := ⟨b, off + j * 6 + 5, none⟩) hB (.int .i64 (k0 + 6 * (j : Int) + 1 + 1 + 1 + 1 + 1)))
      go_wp2_with fail
      go_roundw
      case rel => exact ⟨j + 1, by omega, by go_num, by go_num, HQ.out, HN⟩
      case measure => simp [intOf]; omega
    · obtain rfl : j = n := by omega
      have HF := Lib.hid (HE.out _ hown.out)
      go_wp2_with fail
      go_ret
      exact ⟨rfl, HF.out, HB.out⟩
theorem keep_cell {w w' : World} {g o : Nat} {v : Value} (hb : Below w.heap.size w w') (h : w.cell? ⟨g, o, none⟩ = some v) : w'.cell? ⟨g, o, none⟩ = some v := (hb.cell (p := ⟨g, o, none⟩) (World.block_lt_of_cell? w _ h)).trans h
set_option maxRecDepth 100000 in
set_option maxHeartbeats 2000000 in
theorem held_lasts (A : Option Addr) (n c : Nat) (k0 : Int) (hn : n ≤ 1048576) (h0 : 0 < k0) (h1 : k0 ≤ 1048576) (w : World) (h : Vals w w.heap.size A (n * 6) (mkv k0)) :
    Calls Try.prog 36 #[.slice A n c, .int .i64 k0] w fun e w' => e = .returned (.int .i64 (k0 + 6 * (n : Int))) ∧ Below w.heap.size w w' := by
  have H := Lib.hid h
  have MT := Lib.hid fun (j : Nat) (hj : j < n) w => mark_text (k0 + 6 * (j : Int)) (by omega) (by omega) w
  clear h
  go_enter Try.func36, Try.ntmps36
  go_wp2_with fail
  go_loopw [1, 5] (fun kk i wr => ∃ j : Nat, j ≤ n ∧ i = .int .i64 j ∧ kk = .int .i64 (k0 + 6 * (j : Int)) ∧ Hid (Below w.heap.size w wr)) (fun _ i _ => n - (intOf i).toNat)
  case atStart => exact ⟨0, Nat.zero_le _, rfl, by simp, Lib.hid (Below.refl _ _)⟩
  case round =>
    obtain ⟨j, hj, rfl, rfl, HB⟩ := hrel
    by_cases hlt : j < n
    · obtain ⟨b, off, rfl, hb, hc⟩ := (H.out.below HB.out (Nat.le_refl _)) (by omega)
      have x0 : wr.cell? ⟨b, off + j * 6, none⟩ = some (.string (mkT (k0 + 6 * (j : Int)))) := (hc (j * 6) (by omega)).trans (congrArg some (lv_0 (mS k0) (mF k0) j))
      have x1 : wr.cell? ⟨b, off + j * 6 + 1, none⟩ = some (.int .i64 (k0 + 6 * (j : Int) + 1)) := (hc (j * 6 + 1) (by omega)).trans (congrArg some ((lv_j (mS k0) (mF k0) j (j := 0) (by omega)).trans (by first | rfl | (congr 1; done) | (congr 1; unfold mF; omega))))
      have x2 : wr.cell? ⟨b, off + j * 6 + 2, none⟩ = some (.int .i64 (k0 + 6 * (j : Int) + 1 + 1)) := (hc (j * 6 + 2) (by omega)).trans (congrArg some ((lv_j (mS k0) (mF k0) j (j := 1) (by omega)).trans (by first | rfl | (congr 1; done) | (congr 1; unfold mF; omega))))
      have x3 : wr.cell? ⟨b, off + j * 6 + 3, none⟩ = some (.int .i64 (k0 + 6 * (j : Int) + 1 + 1 + 1)) := (hc (j * 6 + 3) (by omega)).trans (congrArg some ((lv_j (mS k0) (mF k0) j (j := 2) (by omega)).trans (by first | rfl | (congr 1; done) | (congr 1; unfold mF; omega))))
      have x4 : wr.cell? ⟨b, off + j * 6 + 4, none⟩ = some (.int .i64 (k0 + 6 * (j : Int) + 1 + 1 + 1 + 1)) := (hc (j * 6 + 4) (by omega)).trans (congrArg some ((lv_j (mS k0) (mF k0) j (j := 3) (by omega)).trans (by first | rfl | (congr 1; done) | (congr 1; unfold mF; omega))))
      have x5 : wr.cell? ⟨b, off + j * 6 + 5, none⟩ = some (.int .i64 (k0 + 6 * (j : Int) + 1 + 1 + 1 + 1 + 1)) := (hc (j * 6 + 5) (by omega)).trans (congrArg some ((lv_j (mS k0) (mF k0) j (j := 4) (by omega)).trans (by first | rfl | (congr 1; done) | (congr 1; unfold mF; omega))))
      have M := Lib.hid (MT.out j hlt)
      have e0 : (0 : Int) ≤ (j : Int) := Int.natCast_nonneg _
      have e1 : (j : Int) < (n : Int) := by omega
      have e2 : (j : Int) < 1048576 := by omega
      clear hc hj
      generalize mkT (k0 + 6 * (j : Int)) = t at x0 M
      have X1 := Lib.hid x1
      have X2 := Lib.hid x2
      have X3 := Lib.hid x3
      have X4 := Lib.hid x4
      have X5 := Lib.hid x5
      clear x1 x2 x3 x4 x5
      have x0 := bey_cell x0
      go_wp2_with fail
      refine wp_region_below (by kernel_rfl) (by kernel_rfl) ?_
      repeat (go_big_quiet_step (first | (go_at_call 66; exact bey_of _ (M.out _))))
      refine wpQuiet_nil ?_
      rintro _ ⟨pq, rfl⟩
      have HQ := Lib.hid (below_then HB.out pq.h)
      have x1 := keep_cell pq.h X1.out
      have x2 := keep_cell pq.h X2.out
      have x3 := keep_cell pq.h X3.out
      have x4 := keep_cell pq.h X4.out
      have x5 := keep_cell pq.h X5.out
      generalize pq.to = wq at HQ x1 x2 x3 x4 x5 ⊢
      clear x0 X1 X2 X3 X4 X5
      go_wp2_with fail
      go_roundw
      case rel => exact ⟨j + 1, by omega, by go_num, by go_num, HQ⟩
      case measure => simp [intOf]; omega
    · obtain rfl : j = n := by omega
      go_wp2_with fail
      go_ret
      exact ⟨rfl, HB.out⟩
/-- A new list of lasts, and a code. -/
def PairL (n : Nat) (S : Nat → ByteArray) (F : Nat → Nat → Int) (c : Int) (w : World) (e : Ending) (w' : World) : Prop :=
  ∃ A cap, e = .returned (.tuple #[.slice A n cap, .int .i64 c]) ∧ Hid (OwnV w' w.heap.size A (n * 6) (lv S F)) ∧ Below w.heap.size w w'
/-- The cells of the first k lasts. -/
def rowV (V : Nat → Value) (n : Nat) : List Value := (List.range n).map V
theorem row_get (V : Nat → Value) {n j : Nat} (h : j < n) : (rowV V n)[j]? = some (V j) := by simp [rowV, h]
theorem row_six (S : Nat → ByteArray) (F : Nat → Nat → Int) (k : Nat) : rowV (lv S F) ((k + 1) * 6) = rowV (lv S F) (k * 6) ++ [.string (S k), .int .i64 (F k 0), .int .i64 (F k 1), .int .i64 (F k 2), .int .i64 (F k 3), .int .i64 (F k 4)] := by
  unfold rowV
  rw [show (k + 1) * 6 = k * 6 + 1 + 1 + 1 + 1 + 1 + 1 by omega]
  simp only [List.range_succ, List.map_append, List.map_cons, List.map_nil, List.append_assoc, List.cons_append, List.nil_append]
  rw [lv_0, show lv S F (k * 6 + 1) = _ from lv_j S F k (j := 0) (by omega), show lv S F (k * 6 + 1 + 1) = _ from lv_j S F k (j := 1) (by omega), show lv S F (k * 6 + 1 + 1 + 1) = _ from lv_j S F k (j := 2) (by omega), show lv S F (k * 6 + 1 + 1 + 1 + 1) = _ from lv_j S F k (j := 3) (by omega), show lv S F (k * 6 + 1 + 1 + 1 + 1 + 1) = _ from lv_j S F k (j := 4) (by omega)]
theorem pair_of_row {n : Nat} {S : Nat → ByteArray} {F : Nat → Nat → Int} {w w' : World} {v : Value} (h : w'.ownsRow w.heap.size 33 6 v n (rowV (lv S F) (n * 6))) (hb : Below w.heap.size w w') : PairL n S F 0 w (.returned (.tuple #[v, .int .i64 0])) w' := by
  rcases h.2 with ⟨rfl, rfl⟩ | ⟨g, cap, cur, rfl, hbg, hh, _⟩
  · exact ⟨none, 0, rfl, Lib.hid fun h => absurd h (by omega), hb⟩
  · exact ⟨_, cap, rfl, Lib.hid fun _ => ⟨g, 0, rfl, hbg, lt_of_heap hh, fun i hi => by rw [Nat.zero_add]; exact (h.cellAt i (by omega)).trans (row_get _ hi), fun i => blk_free hh i⟩, hb⟩
theorem cells_new6 (w : World) (a b c d e f : Value) (t : TypeId) : ∀ j u, [a, b, c, d, e, f][j]? = some u → (w.alloc (.cells #[a, b, c, d, e, f] t)).cell? ((⟨w.heap.size, 0, none⟩ : Addr).add j) = some u := by
  intro j u hu
  rw [Addr.add_lit, Nat.zero_add, cell_of_row _ _ _ _ _ (0, 0) (heap_alloc_new _ _)]
  simpa using hu
theorem info_la : (Try.prog.info? 33).map (fun i => (i.zero, i.size, i.bytes)) = some (some (.agg #[.string ⟨#[]⟩, .int .i64 0, .int .i64 0, .int .i64 0, .int .i64 0, .int .i64 0]), 6, 56) := by kernel_rfl
end Go.Proofs.Ytaoknbhpjnileab.Ks
