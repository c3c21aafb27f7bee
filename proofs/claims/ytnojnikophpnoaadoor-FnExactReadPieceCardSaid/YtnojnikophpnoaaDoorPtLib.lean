/- Patterns: how pieces and seams read in memory; the law's measure, copy and comparison of them. -/
import Derived.Test.YtnojnikophpnoaaDoorFsLib
import Derived.Test.YtnojnikophpnoaaDoorIsLib
import Derived.Test.YtnojnikophpnoaaDoorBwLib
import Derived.Test.YtnojnikophpnoaaDoorQbLib
import Derived.Test.YtnojnikophpnoaaDoorFiLib
import Derived.Deep.Slices
import Derived.Deep.Fields
import Derived.ChangeSame
namespace Go.Proofs.YtnojnikophpnoaaDoor.Pt
set_option linter.unusedVariables false
open Go.RowKit Go.ChangeShapes Go.WideShapes Go.Deep Ft Is Ge Qb Bw

theorem blk2 {w : World} {g : Nat} {t : TypeId} {c0 c1 : Value} (h : w.heap[g]? = some (.cells #[c0, c1] t (0, 0))) : w.cell? ⟨g, 0, none⟩ = some c0 ∧ w.cell? ⟨g, 1, none⟩ = some c1 :=
  ⟨cell_of_row _ _ _ _ _ _ h, cell_of_row _ _ _ _ _ _ h⟩
theorem blk3 {w : World} {g : Nat} {t : TypeId} {c0 c1 c2 : Value} (h : w.heap[g]? = some (.cells #[c0, c1, c2] t (0, 0))) : w.cell? ⟨g, 0, none⟩ = some c0 ∧ w.cell? ⟨g, 1, none⟩ = some c1 ∧ w.cell? ⟨g, 2, none⟩ = some c2 :=
  ⟨cell_of_row _ _ _ _ _ _ h, cell_of_row _ _ _ _ _ _ h, cell_of_row _ _ _ _ _ _ h⟩
/-- Pieces, to be read. -/
structure PcsR (w : World) (A : Option Addr) (n : Nat) (N : Nat → ByteArray) (As : Nat → Option Addr) (ms cs : Nat → Nat) (ds : Nat → Nat → Int) : Prop where
  out : 0 < n → ∃ b off, A = some ⟨b, off, none⟩ ∧ b < w.heap.size ∧ ∀ i, i < n → w.cell? ⟨b, off + i * 2, none⟩ = some (.string (N i)) ∧ w.cell? ⟨b, off + i * 2 + 1, none⟩ = some (.slice (As i) (ms i) (cs i))
  inn : ∀ i, i < n → Nums w w.heap.size (As i) (ms i) (ds i)
theorem PcsR.below {w w' : World} {A : Option Addr} {n : Nat} {N : Nat → ByteArray} {As : Nat → Option Addr} {ms cs : Nat → Nat} {ds : Nat → Nat → Int} (h : PcsR w A n N As ms cs ds) (hb : Below w.heap.size w w') : PcsR w' A n N As ms cs ds :=
  ⟨fun hn => by
    obtain ⟨b, off, e, h1, h2⟩ := h.out hn
    exact ⟨b, off, e, Nat.lt_of_lt_of_le h1 hb.size, fun i hi => ⟨(hb.cell (p := ⟨b, off + i * 2, none⟩) h1).trans (h2 i hi).1, (hb.cell (p := ⟨b, off + i * 2 + 1, none⟩) h1).trans (h2 i hi).2⟩⟩, fun i hi => ((h.inn i hi).below hb (Nat.le_refl _)).more hb.size⟩
def Pcs (w : World) (A : Option Addr) (n : Nat) (N : Nat → ByteArray) (ms : Nat → Nat) (ds : Nat → Nat → Int) : Prop := ∃ As cs, PcsR w A n N As ms cs ds
theorem Pcs.below {w w' : World} {A : Option Addr} {n : Nat} {N : Nat → ByteArray} {ms : Nat → Nat} {ds : Nat → Nat → Int} (h : Pcs w A n N ms ds) (hb : Below w.heap.size w w') : Pcs w' A n N ms ds := by
  obtain ⟨As, cs, h⟩ := h
  exact ⟨As, cs, h.below hb⟩
/-- A pattern, to be read: its pieces and its seams. -/
structure PatR (w : World) (A : Option Addr) (n : Nat) (N : Nat → ByteArray) (ms : Nat → Nat) (ds : Nat → Nat → Int) (SA : Option Addr) (k : Nat) (S : Nat → Int) : Prop where
  pcs : Pcs w A n N ms ds
  seams : Nums w w.heap.size SA (k * 4) S
theorem PatR.below {w w' : World} {A SA : Option Addr} {n k : Nat} {N : Nat → ByteArray} {ms : Nat → Nat} {ds : Nat → Nat → Int} {S : Nat → Int} (h : PatR w A n N ms ds SA k S) (hb : Below w.heap.size w w') : PatR w' A n N ms ds SA k S :=
  ⟨h.pcs.below hb, (h.seams.below hb (Nat.le_refl _)).more hb.size⟩
def sumN (f : Nat → Nat) : Nat → Nat
  | 0 => 0
  | k + 1 => sumN f k + f k
theorem le_sum {f : Nat → Nat} : ∀ {n i : Nat}, i < n → f i ≤ sumN f n
  | 0, _, h => absurd h (Nat.not_lt_zero _)
  | n + 1, i, h => by
    by_cases e : i = n
    · subst e; unfold sumN; omega
    · have := le_sum (f := f) (show i < n by omega)
      unfold sumN; omega
/-- The measure of a pattern. -/
def Small (n : Nat) (N : Nat → ByteArray) (ms : Nat → Nat) (k : Nat) : Prop := n + sumN (fun i => (N i).size + ms i) n + k ≤ 1048576
theorem Small.at {n k : Nat} {N : Nat → ByteArray} {ms : Nat → Nat} (h : Small n N ms k) : n ≤ 1048576 ∧ k ≤ 1048576 ∧ ∀ i, i < n → (N i).size ≤ 1048576 ∧ ms i ≤ 1048576 := by
  unfold Small at h
  refine ⟨by omega, by omega, fun i hi => ?_⟩
  have := le_sum (f := fun i => (N i).size + ms i) hi
  have : (N i).size + ms i ≤ sumN (fun i => (N i).size + ms i) n := this
  omega
theorem pcs_of_trod {H : Type} {enc : TypeId × Value → H} {P : Program} {w : World} {t e ts tz ti : TypeId} {fs : Array Field} {fuel : Nat} {cs : List Value} {x : DataW H × List MemPlace}
    (ht : P.underlying t = some (.slice e)) (he : P.underlying e = some (.struct fs)) (hone : oneCellFields P fs = true) (hC : P.cellsOf e = 2) (hfs : fs.size = 2) (h0 : ∀ f : Field, fs[0]? = some f → f.type = ts) (h1 : ∀ f : Field, fs[1]? = some f → f.type = tz)
    (hs : P.underlying ts = some .string) (hz : P.underlying tz = some (.slice ti)) (hu : P.underlying ti = some (.int .i64)) (hC1 : P.cellsOf ti = 1) (h : DataW.trod enc P w 0 (fun _ => true) true fuel t cs = some x) :
    ∃ A n c N ms ds, cs = [.slice A n c] ∧ n ≤ maxLen ∧ (∀ i, i < n → (N i).size ≤ maxLen ∧ ms i ≤ maxLen) ∧ Pcs w A n N ms ds := by
  rcases Go.Deep.open_slice ht h with ⟨rfl, _⟩ | ⟨a, len, cap, m, n', D, Pl, rfl, _, hl, hm, hmm, _, hi⟩
  · exact ⟨none, 0, 0, fun _ => ByteArray.empty, fun _ => 0, fun _ _ => 0, rfl, by simp [maxLen], fun i hi => by omega, fun _ => none, fun _ => 0, fun hn => by omega, fun i hi => by omega⟩
  · simp at hmm
    subst hmm
    have key : ∀ i, i < len → ∃ (s : ByteArray) (A : Option Addr) (m c : Nat) (f : Nat → Int), w.cell? (a.add (i * 2)) = some (.string s) ∧ w.cell? (a.add (i * 2 + 1)) = some (.slice A m c) ∧ s.size ≤ maxLen ∧ m ≤ maxLen ∧ Nums w w.heap.size A m f := by
      intro i hin
      obtain ⟨cs', hc, ht'⟩ := hi i (by omega)
      rw [hC] at hc
      obtain ⟨xs, m', _, _, hlen, hxl, hfld⟩ := DataW.trod_struct he ht'
      obtain ⟨_, hcl, hat⟩ := World.cells?_some hc
      have hj0 : 0 < fs.size := by omega
      have hj1 : 1 < fs.size := by omega
      have hf0 : fs[0]? = some (fs[0]'hj0) := Array.getElem?_eq_getElem hj0
      have hf1 : fs[1]? = some (fs[1]'hj1) := Array.getElem?_eq_getElem hj1
      obtain ⟨ho0, hk0⟩ := hone_of hone 0 _ hf0
      obtain ⟨ho1, hk1⟩ := hone_of hone 1 _ hf1
      have hx0 := hfld 0 _ hf0
      rw [ho0, hk0, h0 _ hf0, List.getElem?_eq_getElem (by omega)] at hx0
      have hx1 := hfld 1 _ hf1
      rw [ho1, hk1, h1 _ hf1, List.getElem?_eq_getElem (by omega)] at hx1
      obtain ⟨v, hv, _, hsz⟩ := DataW.trod_string hs hx0
      obtain ⟨A', m1, c1, f, hcs1, hm1, _, hN⟩ := Fi.nums_of_trod hz hu hC1 hx1
      refine ⟨v, A', m1, c1, f, ?_, ?_, hsz, hm1, hN⟩
      · have h2 := hat 0 (by omega)
        have h3 := congrArg (fun l : List Value => l[0]?) hv
        rw [show a.add (i * 2) = (a.add (i * 2)).add 0 by cases a; simp [Addr.add]]
        rw [h2]
        simpa using h3
      · have h2 := hat 1 (by omega)
        have h3 := congrArg (fun l : List Value => l[0]?) hcs1
        rw [← Go.Deep.add_add, h2]
        simpa using h3
    by_cases hn0 : 0 < len
    · obtain ⟨s, _, _, _, _, hv, _⟩ := key 0 hn0
      have hlt := World.block_lt_of_cell? w _ hv
      have hsp := World.cell?_spot hv
      obtain ⟨b, off, spot⟩ := a
      have hspot : spot = none := by simpa [Addr.add] using hsp
      subst hspot
      have key' : ∀ i, ∃ q : ByteArray × Option Addr × Nat × Nat × (Nat → Int), i < len → w.cell? ⟨b, off + i * 2, none⟩ = some (.string q.1) ∧ w.cell? ⟨b, off + i * 2 + 1, none⟩ = some (.slice q.2.1 q.2.2.1 q.2.2.2.1) ∧ q.1.size ≤ maxLen ∧ q.2.2.1 ≤ maxLen ∧ Nums w w.heap.size q.2.1 q.2.2.1 q.2.2.2.2 := fun i => by
        by_cases hin : i < len
        · obtain ⟨s, A, m, c, f, k1, k2, k3, k4, k5⟩ := key i hin
          rw [Ge.add_eq] at k1 k2
          exact ⟨(s, A, m, c, f), fun _ => ⟨k1, by rw [← Nat.add_assoc] at k2; exact k2, k3, k4, k5⟩⟩
        · exact ⟨(ByteArray.empty, none, 0, 0, fun _ => 0), fun h => absurd h hin⟩
      obtain ⟨q, hq⟩ := Classical.axiomOfChoice key'
      exact ⟨_, len, _, fun i => (q i).1, fun i => (q i).2.2.1, fun i => (q i).2.2.2.2, rfl, by omega, fun i hi => ⟨(hq i hi).2.2.1, (hq i hi).2.2.2.1⟩, fun i => (q i).2.1, fun i => (q i).2.2.2.1, fun _ => ⟨b, off, rfl, by simpa [Addr.add] using hlt, fun i hi => ⟨(hq i hi).1, (hq i hi).2.1⟩⟩, fun i hi => (hq i hi).2.2.2.2⟩
    · obtain rfl : len = 0 := by omega
      exact ⟨_, 0, _, fun _ => ByteArray.empty, fun _ => 0, fun _ _ => 0, rfl, by simp [maxLen], fun i hi => by omega, fun _ => none, fun _ => 0, fun hn => by omega, fun i hi => by omega⟩
theorem seams_of_trod {H : Type} {enc : TypeId × Value → H} {P : Program} {w : World} {t e u : TypeId} {fs : Array Field} {fuel : Nat} {cs : List Value} {x : DataW H × List MemPlace}
    (ht : P.underlying t = some (.slice e)) (he : P.underlying e = some (.struct fs)) (hone : oneCellFields P fs = true) (hC : P.cellsOf e = 4) (hfs : fs.size = 4) (hall : ∀ (j : Nat) (f : Field), fs[j]? = some f → f.type = u)
    (hu : P.underlying u = some (.int .i64)) (h : DataW.trod enc P w 0 (fun _ => true) true fuel t cs = some x) : ∃ A n c f, cs = [.slice A n c] ∧ n ≤ maxLen ∧ (∀ i, i < n * 4 → (Lit.int .i64 (f i)).wf = true) ∧ Nums w w.heap.size A (n * 4) f := by
  obtain ⟨A, n, c, rfl⟩ : ∃ A n c, cs = [.slice A n c] := by
    rcases Go.Deep.open_slice ht h with ⟨rfl, _⟩ | ⟨a, len, cap, m, n', D, Pl, rfl, _⟩
    · exact ⟨_, _, _, rfl⟩
    · exact ⟨_, _, _, rfl⟩
  obtain ⟨d, p⟩ := x
  obtain ⟨F, hF⟩ := Fs.ints_of_trod ht he hone hC (by decide) hfs hall hu (A := A) (n := n) (c := c) ⟨fuel, by simpa [Value.cells] using h⟩
  exact ⟨A, n, c, fun k => F (k / 4) (k % 4), rfl, hF.1, fun i hi => hF.2.1 (i / 4) (by omega) (i % 4) (by omega), fun hn => by
    obtain ⟨b, off, rfl, hb, hc⟩ := hF.2.2 (by omega)
    exact ⟨b, off, rfl, hb, fun i hi => by
      have := hc (i / 4) (by omega) (i % 4) (by omega)
      rw [show i / 4 * 4 + i % 4 = i by omega] at this
      exact this⟩⟩
abbrev pcV (s : ByteArray) (A : Option Addr) (m c : Nat) : Value := .agg #[.string s, .slice A m c]
abbrev paV (A : Option Addr) (n c : Nat) (SA : Option Addr) (k sc : Nat) (o : Int) : Value := .agg #[.slice A n c, .slice SA k sc, .int .i64 o]
/-- The law's measure. -/
theorem sz_ex (A : Option Addr) (n c : Nat) (l : Int) (h0 : 0 ≤ l) (h1 : l ≤ 1048576) (hm : n ≤ maxLen) (w : World) :
    Calls Tryd.prog 14 #[.slice A n c, .int .i64 l] w fun e w' => ∃ r : Int, e = .returned (.int .i64 r) ∧ -1 ≤ r ∧ r ≤ 1048576 ∧ (0 ≤ r → r + (n : Int) = l) ∧ Below w.heap.size w w' := by
  unfold maxLen at hm
  by_cases hb : l - n < 0
  · go_enter Tryd.func14, Tryd.ntmps14
    go_wp2_with fail
    go_ret
    exact ⟨-1, rfl, by omega, by omega, fun h => by omega, Below.refl _ _⟩
  · go_enter Tryd.func14, Tryd.ntmps14
    go_wp2_with fail
    go_ret
    exact ⟨l - n, rfl, by omega, by omega, fun _ => by omega, Below.refl _ _⟩
theorem sz_piece (s : ByteArray) (A : Option Addr) (m c : Nat) (l : Int) (h0 : 0 ≤ l) (h1 : l ≤ 1048576) (hs : s.size ≤ maxLen) (hm : m ≤ maxLen) (w : World) :
    Calls Tryd.prog 5 #[pcV s A m c, .int .i64 l] w fun e w' => ∃ r : Int, e = .returned (.int .i64 r) ∧ -1 ≤ r ∧ r ≤ 1048576 ∧ (0 ≤ r → r + ((s.size : Int) + (m : Int)) = l) ∧ Below w.heap.size w w' := by
  unfold pcV
  by_cases hb : l - s.size < 0
  · unfold maxLen at hs
    go_enter Tryd.func5, Tryd.ntmps5
    go_wp2_with fail
    go_ret
    exact ⟨-1, rfl, by omega, by omega, fun h => by omega, below_box _ _⟩
  · have C := Lib.hid (fun w => sz_ex A m c (l - s.size) (by omega) (by omega) hm w)
    unfold maxLen at hs
    have HB := Lib.hid (below_box w (.cells #[.string s, .slice A m c] 24))
    go_enter Tryd.func5, Tryd.ntmps5
    go_wp2_with fail
    refine (C.out _).mono ?_
    rintro e w1 ⟨r, rfl, hr0, hr1, hr2, b1⟩
    have HQ := Lib.hid (below_then HB.out b1)
    clear b1
    by_cases hr : r < 0
    · go_wp2_with fail
      go_ret
      exact ⟨-1, rfl, by omega, by omega, fun h => by omega, HQ.out⟩
    · have hq := hr2 (by omega)
      clear hr2
      go_wp2_with fail
      go_ret
      exact ⟨r, rfl, by omega, by omega, fun _ => by omega, HQ.out⟩
/-- The law's copy of a piece. -/
theorem to_piece (s : ByteArray) (A : Option Addr) (m c : Nat) (d : Nat → Int) (hm : m ≤ 1048576) (w : World) (hA : Nums w w.heap.size A m d) :
    Calls Tryd.prog 7 #[pcV s A m c] w fun e w' => ∃ g, e = .returned (pcV s (some ⟨g, 0, none⟩) m m) ∧ w.heap.size ≤ g ∧ Hid (At w' g m d) ∧ Below w.heap.size w w' := by
  have HA := Lib.hid hA
  clear hA
  unfold pcV
  go_enter Tryd.func7, Tryd.ntmps7
  go_wp2_with fail
  refine (Fi.to_ints A m c d hm _ ((HA.out.below (below3 w _ _ _) (Nat.le_refl _)).more (by simp; omega))).mono ?_
  rintro e w1 ⟨g, rfl, hg, HT, b1⟩
  obtain ⟨ka, kz, ko⟩ := three w (.cells #[.string s, .slice A m c] 24) (.cells #[.string ⟨#[]⟩, .slice none 0 0] 27) (.cells #[.string s, .slice none 0 0] 27)
  have KZ := Lib.hid (blk_keep b1 kz)
  have KO := Lib.hid (blk_keep b1 ko)
  have HB := Lib.hid (below_then (below3 w _ _ _) b1)
  have hg' : w.heap.size + 3 ≤ g := by simpa using hg
  have hz := lt_of_heap KO.out
  clear ka kz ko b1 hg
  obtain ⟨z0, z1⟩ := blk2 KZ.out
  obtain ⟨y0, y1⟩ := blk2 KO.out
  have fz := blk_free KZ.out
  have fo := blk_free KO.out
  have KF : Hid ((((w1.setCell ⟨w.heap.size + 1 + 1, 1, none⟩ (.slice (some ⟨g, 0, none⟩) m m)).setCell ⟨w.heap.size + 1, 0, none⟩ (.string s)).setCell ⟨w.heap.size + 1, 1, none⟩ (.slice (some ⟨g, 0, none⟩) m m)).heap[w.heap.size + 1]? = some (.cells #[.string s, .slice (some ⟨g, 0, none⟩) m m] 27 (0, 0))) :=
    Lib.hid (heap_set (heap_set ((Below.heap_setCell _ _ _ _ (by simp)).trans KZ.out) 0 _) 1 _)
  have HTF : Hid (At (((w1.setCell ⟨w.heap.size + 1 + 1, 1, none⟩ (.slice (some ⟨g, 0, none⟩) m m)).setCell ⟨w.heap.size + 1, 0, none⟩ (.string s)).setCell ⟨w.heap.size + 1, 1, none⟩ (.slice (some ⟨g, 0, none⟩) m m)) g m d) := Lib.hid (At.set (At.set (At.set HT.out (by omega)) (by omega)) (by omega))
  have HBF : Hid (Below w.heap.size w (((w1.setCell ⟨w.heap.size + 1 + 1, 1, none⟩ (.slice (some ⟨g, 0, none⟩) m m)).setCell ⟨w.heap.size + 1, 0, none⟩ (.string s)).setCell ⟨w.heap.size + 1, 1, none⟩ (.slice (some ⟨g, 0, none⟩) m m))) := Lib.hid (((HB.out.setCell (by simp; omega) _).setCell (by simp) _).setCell (by simp) _)
  go_wp2_with fail
  generalize ((w1.setCell ⟨w.heap.size + 1 + 1, 1, none⟩ (.slice (some ⟨g, 0, none⟩) m m)).setCell ⟨w.heap.size + 1, 0, none⟩ (.string s)).setCell ⟨w.heap.size + 1, 1, none⟩ (.slice (some ⟨g, 0, none⟩) m m) = wf at KF HTF HBF ⊢
  clear z0 z1 y0 y1 fz fo
  obtain ⟨z0, z1⟩ := blk2 KF.out
  exact bodyPost_ret (v := pcV s (some ⟨g, 0, none⟩) m m) (by simp [results, Tryd.results7, go_sem, z0, z1]) rfl ⟨g, rfl, by omega, HTF, HBF.out⟩
theorem eq_piece (s : ByteArray) (A1 A2 : Option Addr) (m c1 c2 : Nat) (d : Nat → Int) (hm : m ≤ 1048576) (w : World) (h1 : Nums w w.heap.size A1 m d) (h2 : Nums w w.heap.size A2 m d) :
    Calls Tryd.prog 9 #[pcV s A1 m c1, pcV s A2 m c2] w fun e w' => e = .returned (.bool true) ∧ Below w.heap.size w w' := by
  have H1 := Lib.hid h1
  have H2 := Lib.hid h2
  clear h1 h2
  unfold pcV
  go_enter Tryd.func9, Tryd.ntmps9
  go_wp2_with fail
  refine (eq_ints A1 A2 m c1 c2 d hm _ ((H1.out.below (below2 w _ _) (Nat.le_refl _)).more (by simp; omega)) ((H2.out.below (below2 w _ _) (Nat.le_refl _)).more (by simp; omega))).mono ?_
  rintro e w1 ⟨rfl, b1⟩
  have HB := Lib.hid (below_then (below2 w _ _) b1)
  clear b1
  go_wp2_with fail
  go_ret
  exact ⟨rfl, HB.out⟩
end Go.Proofs.YtnojnikophpnoaaDoor.Pt
