/- Rows of lasts: the law's comparison, its marks, and whether the marks are held. Their cells are read as six times as many values. -/
import Derived.Test.YtaoknbhpjnileaaMtLib
import Derived.Test.YtaoknbhpjnileaaLaLib
import Derived.Test.YtaoknbhpjnileaaQbLib
import Derived.Test.YtaoknbhpjnileaaGeLib
import Derived.OwnWalk
import Derived.RegionTactic
import Derived.Deep.Slices
namespace Go.Proofs.Ytaoknbhpjnileaa.Ks
open Go.RowKit Ft Ge Qb La Mt

/-- A row of n values, below block B. -/
def Vals (w : World) (B : Nat) (A : Option Addr) (n : Nat) (V : Nat → Value) : Prop :=
  0 < n → ∃ b off, A = some ⟨b, off, none⟩ ∧ b < B ∧ ∀ i, i < n → w.cell? ⟨b, off + i, none⟩ = some (V i)
theorem Vals.below {w w' : World} {B B' n : Nat} {A : Option Addr} {V : Nat → Value} (h : Vals w B A n V) (hb : Below B' w w') (hB : B ≤ B') : Vals w' B A n V := fun hn => by
  obtain ⟨b, off, rfl, hlt, hc⟩ := h hn
  exact ⟨b, off, rfl, hlt, fun i hi => (hb.cell (p := ⟨b, off + i, none⟩) (by show b < B'; omega)).trans (hc i hi)⟩
theorem Vals.more {w : World} {B B' n : Nat} {A : Option Addr} {V : Nat → Value} (h : Vals w B A n V) (hB : B ≤ B') : Vals w B' A n V := fun hn => by
  obtain ⟨b, off, rfl, hlt, hc⟩ := h hn
  exact ⟨b, off, rfl, by omega, hc⟩
/-- A row of the call's own: from block B on, not frozen. -/
def OwnV (w : World) (B : Nat) (A : Option Addr) (n : Nat) (V : Nat → Value) : Prop :=
  0 < n → ∃ b off, A = some ⟨b, off, none⟩ ∧ B ≤ b ∧ b < w.heap.size ∧ (∀ i, i < n → w.cell? ⟨b, off + i, none⟩ = some (V i)) ∧ ∀ i, w.frozen? ⟨b, i, none⟩ = false
theorem OwnV.vals {w : World} {B n : Nat} {A : Option Addr} {V : Nat → Value} (h : OwnV w B A n V) : Vals w w.heap.size A n V := fun hn => by
  obtain ⟨b, off, rfl, _, hlt, hc, _⟩ := h hn
  exact ⟨b, off, rfl, hlt, hc⟩
theorem OwnV.below {w w' : World} {B n : Nat} {A : Option Addr} {V : Nat → Value} (h : OwnV w B A n V) (hb : Below w.heap.size w w') : OwnV w' B A n V := fun hn => by
  obtain ⟨b, off, rfl, hB, hlt, hc, hf⟩ := h hn
  exact ⟨b, off, rfl, hB, by have := hb.size; omega, fun i hi => (hb.cell (p := ⟨b, off + i, none⟩) hlt).trans (hc i hi), fun i => (hb.frozen (p := ⟨b, i, none⟩) hlt).trans (hf i)⟩
theorem OwnV.congr {w : World} {B n : Nat} {A : Option Addr} {V V' : Nat → Value} (h : OwnV w B A n V) (he : ∀ i, i < n → V i = V' i) : OwnV w B A n V' := fun hn => by
  obtain ⟨b, off, rfl, hB, hlt, hc, hf⟩ := h hn
  exact ⟨b, off, rfl, hB, hlt, fun i hi => by rw [← he i hi]; exact hc i hi, hf⟩
def upd (V : Nat → Value) (j : Nat) (v : Value) (i : Nat) : Value := if i = j then v else V i
theorem row_set {wr : World} {B n b off : Nat} {V : Nat → Value} (h : OwnV wr B (some ⟨b, off, none⟩) n V) (j : Nat) (hj : j < n) (v : Value) : OwnV (wr.setCell ⟨b, off + j, none⟩ v) B (some ⟨b, off, none⟩) n (upd V j v) := fun hn => by
  obtain ⟨b', off', e, hB, hlt, hc, hf⟩ := h hn
  cases e
  exact ⟨b, off, rfl, hB, by simpa using hlt, fun i hi => by
    by_cases e : i = j
    · subst e
      rw [World.cell?_setCell_same _ _ _ (hc i hi)]
      simp [upd]
    · rw [World.cell?_setCell_other _ _ _ _ (show (⟨b, off + j, none⟩ : Addr) ≠ ⟨b, off + i, none⟩ from fun q => by have := (Addr.mk.inj q).2.1; omega), hc i hi]
      simp [upd, e], fun i => (World.frozen?_setCell _ _ _ _).trans (hf i)⟩
/-- The cells of lasts with names S and numbers F. -/
def lv (S : Nat → ByteArray) (F : Nat → Nat → Int) (i : Nat) : Value := if i % 6 = 0 then .string (S (i / 6)) else .int .i64 (F (i / 6) (i % 6 - 1))
theorem lv_0 (S : Nat → ByteArray) (F : Nat → Nat → Int) (k : Nat) : lv S F (k * 6) = .string (S k) := by
  unfold lv
  rw [if_pos (by omega), show k * 6 / 6 = k by omega]
theorem lv_j (S : Nat → ByteArray) (F : Nat → Nat → Int) (k : Nat) {j : Nat} (hj : j < 5) : lv S F (k * 6 + (j + 1)) = .int .i64 (F k j) := by
  unfold lv
  rw [if_neg (by omega), show (k * 6 + (j + 1)) / 6 = k by omega, show (k * 6 + (j + 1)) % 6 - 1 = j by omega]
/-- The marks from k0 on, six a last. -/
def mS (k0 : Int) (k : Nat) : ByteArray := mkT (k0 + 6 * (k : Int))
def mF (k0 : Int) (k j : Nat) : Int := k0 + 6 * (k : Int) + ((j : Int) + 1)
def mkv (k0 : Int) : Nat → Value := lv (mS k0) (mF k0)
def mix (k0 : Int) (V : Nat → Value) (j i : Nat) : Value := if i < j * 6 then mkv k0 i else V i
theorem six_set {wr : World} {B n b off j : Nat} {k0 : Int} {V : Nat → Value} (h : OwnV wr B (some ⟨b, off, none⟩) n (mix k0 V j)) (hj : j * 6 + 5 < n) :
    OwnV ((((((wr.setCell ⟨b, off + j * 6, none⟩ (.string (mS k0 j))).setCell ⟨b, off + j * 6 + 1, none⟩ (.int .i64 (k0 + 6 * (j : Int) + 1))).setCell ⟨b, off + j * 6 + 2, none⟩ (.int .i64 (k0 + 6 * (j : Int) + 1 + 1))).setCell ⟨b, off + j * 6 + 3, none⟩ (.int .i64 (k0 + 6 * (j : Int) + 1 + 1 + 1))).setCell ⟨b, off + j * 6 + 4, none⟩ (.int .i64 (k0 + 6 * (j : Int) + 1 + 1 + 1 + 1))).setCell ⟨b, off + j * 6 + 5, none⟩ (.int .i64 (k0 + 6 * (j : Int) + 1 + 1 + 1 + 1 + 1))) B (some ⟨b, off, none⟩) n (mix k0 V (j + 1)) := by
  have h1 := row_set h (j * 6) (by omega) (.string (mS k0 j))
  have h2 := row_set h1 (j * 6 + 1) (by omega) (.int .i64 (k0 + 6 * (j : Int) + 1))
  have h3 := row_set h2 (j * 6 + 2) (by omega) (.int .i64 (k0 + 6 * (j : Int) + 1 + 1))
  have h4 := row_set h3 (j * 6 + 3) (by omega) (.int .i64 (k0 + 6 * (j : Int) + 1 + 1 + 1))
  have h5 := row_set h4 (j * 6 + 4) (by omega) (.int .i64 (k0 + 6 * (j : Int) + 1 + 1 + 1 + 1))
  have h6 := row_set h5 (j * 6 + 5) (by omega) (.int .i64 (k0 + 6 * (j : Int) + 1 + 1 + 1 + 1 + 1))
  refine h6.congr fun i _ => ?_
  simp only [upd, mix]
  have R : i < j * 6 ∨ j * 6 + 6 ≤ i ∨ i = j * 6 ∨ i = j * 6 + 1 ∨ i = j * 6 + 2 ∨ i = j * 6 + 3 ∨ i = j * 6 + 4 ∨ i = j * 6 + 5 := by omega
  rcases R with h | h | rfl | rfl | rfl | rfl | rfl | rfl
  · rw [if_neg (by omega), if_neg (by omega), if_neg (by omega), if_neg (by omega), if_neg (by omega), if_neg (by omega), if_pos h, if_pos (by omega)]
  · rw [if_neg (by omega), if_neg (by omega), if_neg (by omega), if_neg (by omega), if_neg (by omega), if_neg (by omega), if_neg (by omega), if_neg (by omega)]
  · rw [if_neg (by omega), if_neg (by omega), if_neg (by omega), if_neg (by omega), if_neg (by omega), if_pos rfl, if_pos (by omega)]
    exact (lv_0 _ _ _).symm
  · rw [if_neg (by omega), if_neg (by omega), if_neg (by omega), if_neg (by omega), if_pos rfl, if_pos (by omega)]
    rw [show mkv k0 (j * 6 + 1) = .int .i64 (mF k0 j 0) from lv_j (mS k0) (mF k0) j (j := 0) (by omega)]
    first | rfl | (congr 1; done) | (congr 1; unfold mF; omega)
  · rw [if_neg (by omega), if_neg (by omega), if_neg (by omega), if_pos rfl, if_pos (by omega)]
    rw [show mkv k0 (j * 6 + 2) = .int .i64 (mF k0 j 1) from lv_j (mS k0) (mF k0) j (j := 1) (by omega)]
    first | rfl | (congr 1; done) | (congr 1; unfold mF; omega)
  · rw [if_neg (by omega), if_neg (by omega), if_pos rfl, if_pos (by omega)]
    rw [show mkv k0 (j * 6 + 3) = .int .i64 (mF k0 j 2) from lv_j (mS k0) (mF k0) j (j := 2) (by omega)]
    first | rfl | (congr 1; done) | (congr 1; unfold mF; omega)
  · rw [if_neg (by omega), if_pos rfl, if_pos (by omega)]
    rw [show mkv k0 (j * 6 + 4) = .int .i64 (mF k0 j 3) from lv_j (mS k0) (mF k0) j (j := 3) (by omega)]
    first | rfl | (congr 1; done) | (congr 1; unfold mF; omega)
  · rw [if_pos rfl, if_pos (by omega)]
    rw [show mkv k0 (j * 6 + 5) = .int .i64 (mF k0 j 4) from lv_j (mS k0) (mF k0) j (j := 4) (by omega)]
    first | rfl | (congr 1; done) | (congr 1; unfold mF; omega)
theorem keep_cell {w w' : World} {g o : Nat} {v : Value} (hb : Below w.heap.size w w') (h : w.cell? ⟨g, o, none⟩ = some v) : w'.cell? ⟨g, o, none⟩ = some v := (hb.cell (p := ⟨g, o, none⟩) (World.block_lt_of_cell? w _ h)).trans h
/-- A new list of lasts, and a code. -/
def PairL (n : Nat) (S : Nat → ByteArray) (F : Nat → Nat → Int) (c : Int) (w : World) (e : Ending) (w' : World) : Prop :=
  ∃ A cap, e = .returned (.tuple #[.slice A n cap, .int .i64 c]) ∧ Hid (OwnV w' w.heap.size A (n * 6) (lv S F)) ∧ Below w.heap.size w w'
/-- The cells of the first k lasts. -/
def rowV (V : Nat → Value) (n : Nat) : List Value := (List.range n).map V
theorem row_get (V : Nat → Value) {n j : Nat} (h : j < n) : (rowV V n)[j]? = some (V j) := by simp [rowV, h]
theorem row_six (S : Nat → ByteArray) (F : Nat → Nat → Int) (k : Nat) : rowV (lv S F) ((k + 1) * 6) = rowV (lv S F) (k * 6) ++ [.string (S k), .int .i64 (F k 0), .int .i64 (F k 1), .int .i64 (F k 2), .int .i64 (F k 3), .int .i64 (F k 4)] := by
  unfold rowV
  rw [show (k + 1) * 6 = k * 6 + 1 + 1 + 1 + 1 + 1 + 1 by omega]
  simp only [List.range_succ, List.map_append, List.map_cons, List.map_nil, List.append_assoc, List.cons_append, List.nil_append]
  rw [lv_0, show lv S F (k * 6 + 1) = _ from lv_j S F k (j := 0) (by omega), show lv S F (k * 6 + 1 + 1) = _ from lv_j S F k (j := 1) (by omega), show lv S F (k * 6 + 1 + 1 + 1) = _ from lv_j S F k (j := 2) (by omega), show lv S F (k * 6 + 1 + 1 + 1 + 1) = _ from lv_j S F k (j := 3) (by omega), show lv S F (k * 6 + 1 + 1 + 1 + 1 + 1) = _ from lv_j S F k (j := 4) (by omega)]
theorem pair_of_row {n : Nat} {S : Nat → ByteArray} {F : Nat → Nat → Int} {w w' : World} {v : Value} (h : w'.ownsRow w.heap.size 33 6 v n (rowV (lv S F) (n * 6))) (hb : Below w.heap.size w w') : PairL n S F 0 w (.returned (.tuple #[v, .int .i64 0])) w' := by
  rcases h.2 with ⟨rfl, rfl⟩ | ⟨g, cap, cur, rfl, hbg, hh, _⟩
  · exact ⟨none, 0, rfl, Lib.hid fun h => absurd h (by omega), hb⟩
  · exact ⟨_, cap, rfl, Lib.hid fun _ => ⟨g, 0, rfl, hbg, lt_of_heap hh, fun i hi => by rw [Nat.zero_add]; exact (h.cellAt i (by omega)).trans (row_get _ hi), fun i => blk_free hh i⟩, hb⟩
theorem cells_new6 (w : World) (a b c d e f : Value) (t : TypeId) : ∀ j u, [a, b, c, d, e, f][j]? = some u → (w.alloc (.cells #[a, b, c, d, e, f] t)).cell? ((⟨w.heap.size, 0, none⟩ : Addr).add j) = some u := by
  intro j u hu
  rw [Addr.add_lit, Nat.zero_add, cell_of_row _ _ _ _ _ (0, 0) (heap_alloc_new _ _)]
  simpa using hu
theorem info_la : (Try.prog.info? 33).map (fun i => (i.zero, i.size, i.bytes)) = some (some (.agg #[.string ⟨#[]⟩, .int .i64 0, .int .i64 0, .int .i64 0, .int .i64 0, .int .i64 0]), 6, 56) := by kernel_rfl
end Go.Proofs.Ytaoknbhpjnileaa.Ks
