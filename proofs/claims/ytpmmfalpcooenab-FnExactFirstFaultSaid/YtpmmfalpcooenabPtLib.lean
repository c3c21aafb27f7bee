/- Patterns: how pieces and seams read in memory; the law's measure, copy and comparison of them. -/
import Derived.Test.YtpmmfalpcooenabFsLib
import Derived.Test.YtpmmfalpcooenabIsLib
import Derived.Test.YtpmmfalpcooenabBwLib
import Derived.Test.YtpmmfalpcooenabQbLib
import Derived.Test.YtpmmfalpcooenabFiLib
import Derived.Deep.Slices
import Derived.Deep.Fields
import Derived.ChangeSame
namespace Go.Proofs.Ytpmmfalpcooenab.Pt
set_option linter.unusedVariables false
open Go.RowKit Go.ChangeShapes Go.WideShapes Go.Deep Ft Is Ge Qb Bw

theorem blk2 {w : World} {g : Nat} {t : TypeId} {c0 c1 : Value} (h : w.heap[g]? = some (.cells #[c0, c1] t (0, 0))) : w.cell? ⟨g, 0, none⟩ = some c0 ∧ w.cell? ⟨g, 1, none⟩ = some c1 :=
  ⟨cell_of_row _ _ _ _ _ _ h, cell_of_row _ _ _ _ _ _ h⟩
theorem blk3 {w : World} {g : Nat} {t : TypeId} {c0 c1 c2 : Value} (h : w.heap[g]? = some (.cells #[c0, c1, c2] t (0, 0))) : w.cell? ⟨g, 0, none⟩ = some c0 ∧ w.cell? ⟨g, 1, none⟩ = some c1 ∧ w.cell? ⟨g, 2, none⟩ = some c2 :=
  ⟨cell_of_row _ _ _ _ _ _ h, cell_of_row _ _ _ _ _ _ h, cell_of_row _ _ _ _ _ _ h⟩
/-- Pieces, to be read. -/
structure PcsR (w : World) (A : Option Addr) (n : Nat) (N : Nat → ByteArray) (As : Nat → Option Addr) (ms cs : Nat → Nat) (ds : Nat → Nat → Int) : Prop where
  out : 0 < n → ∃ b off, A = some ⟨b, off, none⟩ ∧ b < w.heap.size ∧ ∀ i, i < n → w.cell? ⟨b, off + i * 2, none⟩ = some (.string (N i)) ∧ w.cell? ⟨b, off + i * 2 + 1, none⟩ = some (.slice (As i) (ms i) (cs i))
  inn : ∀ i, i < n → Nums w w.heap.size (As i) (ms i) (ds i)
theorem PcsR.below {w w' : World} {A : Option Addr} {n : Nat} {N : Nat → ByteArray} {As : Nat → Option Addr} {ms cs : Nat → Nat} {ds : Nat → Nat → Int} (h : PcsR w A n N As ms cs ds) (hb : Below w.heap.size w w') : PcsR w' A n N As ms cs ds :=
  ⟨fun hn => by
    obtain ⟨b, off, e, h1, h2⟩ := h.out hn
    exact ⟨b, off, e, Nat.lt_of_lt_of_le h1 hb.size, fun i hi => ⟨(hb.cell (p := ⟨b, off + i * 2, none⟩) h1).trans (h2 i hi).1, (hb.cell (p := ⟨b, off + i * 2 + 1, none⟩) h1).trans (h2 i hi).2⟩⟩, fun i hi => ((h.inn i hi).below hb (Nat.le_refl _)).more hb.size⟩
def Pcs (w : World) (A : Option Addr) (n : Nat) (N : Nat → ByteArray) (ms : Nat → Nat) (ds : Nat → Nat → Int) : Prop := ∃ As cs, PcsR w A n N As ms cs ds
theorem Pcs.below {w w' : World} {A : Option Addr} {n : Nat} {N : Nat → ByteArray} {ms : Nat → Nat} {ds : Nat → Nat → Int} (h : Pcs w A n N ms ds) (hb : Below w.heap.size w w') : Pcs w' A n N ms ds := by
  obtain ⟨As, cs, h⟩ := h
  exact ⟨As, cs, h.below hb⟩
/-- A pattern, to be read: its pieces and its seams. -/
structure PatR (w : World) (A : Option Addr) (n : Nat) (N : Nat → ByteArray) (ms : Nat → Nat) (ds : Nat → Nat → Int) (SA : Option Addr) (k : Nat) (S : Nat → Int) : Prop where
  pcs : Pcs w A n N ms ds
  seams : Nums w w.heap.size SA (k * 4) S
theorem PatR.below {w w' : World} {A SA : Option Addr} {n k : Nat} {N : Nat → ByteArray} {ms : Nat → Nat} {ds : Nat → Nat → Int} {S : Nat → Int} (h : PatR w A n N ms ds SA k S) (hb : Below w.heap.size w w') : PatR w' A n N ms ds SA k S :=
  ⟨h.pcs.below hb, (h.seams.below hb (Nat.le_refl _)).more hb.size⟩
def sumN (f : Nat → Nat) : Nat → Nat
  | 0 => 0
  | k + 1 => sumN f k + f k
theorem le_sum {f : Nat → Nat} : ∀ {n i : Nat}, i < n → f i ≤ sumN f n
  | 0, _, h => absurd h (Nat.not_lt_zero _)
  | n + 1, i, h => by
    by_cases e : i = n
    · subst e; unfold sumN; omega
    · have := le_sum (f := f) (show i < n by omega)
      unfold sumN; omega
/-- The measure of a pattern. -/
def Small (n : Nat) (N : Nat → ByteArray) (ms : Nat → Nat) (k : Nat) : Prop := n + sumN (fun i => (N i).size + ms i) n + k ≤ 1048576
theorem Small.at {n k : Nat} {N : Nat → ByteArray} {ms : Nat → Nat} (h : Small n N ms k) : n ≤ 1048576 ∧ k ≤ 1048576 ∧ ∀ i, i < n → (N i).size ≤ 1048576 ∧ ms i ≤ 1048576 := by
  unfold Small at h
  refine ⟨by omega, by omega, fun i hi => ?_⟩
  have := le_sum (f := fun i => (N i).size + ms i) hi
  have : (N i).size + ms i ≤ sumN (fun i => (N i).size + ms i) n := this
  omega
theorem pcs_of_trod {H : Type} {enc : TypeId × Value → H} {P : Program} {w : World} {t e ts tz ti : TypeId} {fs : Array Field} {fuel : Nat} {cs : List Value} {x : DataW H × List MemPlace}
    (ht : P.underlying t = some (.slice e)) (he : P.underlying e = some (.struct fs)) (hone : oneCellFields P fs = true) (hC : P.cellsOf e = 2) (hfs : fs.size = 2) (h0 : ∀ f : Field, fs[0]? = some f → f.type = ts) (h1 : ∀ f : Field, fs[1]? = some f → f.type = tz)
    (hs : P.underlying ts = some .string) (hz : P.underlying tz = some (.slice ti)) (hu : P.underlying ti = some (.int .i64)) (hC1 : P.cellsOf ti = 1) (h : DataW.trod enc P w 0 (fun _ => true) true fuel t cs = some x) :
    ∃ A n c N ms ds, cs = [.slice A n c] ∧ n ≤ maxLen ∧ (∀ i, i < n → (N i).size ≤ maxLen ∧ ms i ≤ maxLen) ∧ Pcs w A n N ms ds := by
  rcases Go.Deep.open_slice ht h with ⟨rfl, _⟩ | ⟨a, len, cap, m, n', D, Pl, rfl, _, hl, hm, hmm, _, hi⟩
  · exact ⟨none, 0, 0, fun _ => ByteArray.empty, fun _ => 0, fun _ _ => 0, rfl, by simp [maxLen], fun i hi => by omega, fun _ => none, fun _ => 0, fun hn => by omega, fun i hi => by omega⟩
  · simp at hmm
    subst hmm
    have key : ∀ i, i < len → ∃ (s : ByteArray) (A : Option Addr) (m c : Nat) (f : Nat → Int), w.cell? (a.add (i * 2)) = some (.string s) ∧ w.cell? (a.add (i * 2 + 1)) = some (.slice A m c) ∧ s.size ≤ maxLen ∧ m ≤ maxLen ∧ Nums w w.heap.size A m f := by
      intro i hin
      obtain ⟨cs', hc, ht'⟩ := hi i (by omega)
      rw [hC] at hc
      obtain ⟨xs, m', _, _, hlen, hxl, hfld⟩ := DataW.trod_struct he ht'
      obtain ⟨_, hcl, hat⟩ := World.cells?_some hc
      have hj0 : 0 < fs.size := by omega
      have hj1 : 1 < fs.size := by omega
      have hf0 : fs[0]? = some (fs[0]'hj0) := Array.getElem?_eq_getElem hj0
      have hf1 : fs[1]? = some (fs[1]'hj1) := Array.getElem?_eq_getElem hj1
      obtain ⟨ho0, hk0⟩ := hone_of hone 0 _ hf0
      obtain ⟨ho1, hk1⟩ := hone_of hone 1 _ hf1
      have hx0 := hfld 0 _ hf0
      rw [ho0, hk0, h0 _ hf0, List.getElem?_eq_getElem (by omega)] at hx0
      have hx1 := hfld 1 _ hf1
      rw [ho1, hk1, h1 _ hf1, List.getElem?_eq_getElem (by omega)] at hx1
      obtain ⟨v, hv, _, hsz⟩ := DataW.trod_string hs hx0
      obtain ⟨A', m1, c1, f, hcs1, hm1, _, hN⟩ := Fi.nums_of_trod hz hu hC1 hx1
      refine ⟨v, A', m1, c1, f, ?_, ?_, hsz, hm1, hN⟩
      · have h2 := hat 0 (by omega)
        have h3 := congrArg (fun l : List Value => l[0]?) hv
        rw [show a.add (i * 2) = (a.add (i * 2)).add 0 by cases a; simp [Addr.add]]
        rw [h2]
        simpa using h3
      · have h2 := hat 1 (by omega)
        have h3 := congrArg (fun l : List Value => l[0]?) hcs1
        rw [← Go.Deep.add_add, h2]
        simpa using h3
    by_cases hn0 : 0 < len
    · obtain ⟨s, _, _, _, _, hv, _⟩ := key 0 hn0
      have hlt := World.block_lt_of_cell? w _ hv
      have hsp := World.cell?_spot hv
      obtain ⟨b, off, spot⟩ := a
      have hspot : spot = none := by simpa [Addr.add] using hsp
      subst hspot
      have key' : ∀ i, ∃ q : ByteArray × Option Addr × Nat × Nat × (Nat → Int), i < len → w.cell? ⟨b, off + i * 2, none⟩ = some (.string q.1) ∧ w.cell? ⟨b, off + i * 2 + 1, none⟩ = some (.slice q.2.1 q.2.2.1 q.2.2.2.1) ∧ q.1.size ≤ maxLen ∧ q.2.2.1 ≤ maxLen ∧ Nums w w.heap.size q.2.1 q.2.2.1 q.2.2.2.2 := fun i => by
        by_cases hin : i < len
        · obtain ⟨s, A, m, c, f, k1, k2, k3, k4, k5⟩ := key i hin
          rw [Ge.add_eq] at k1 k2
          exact ⟨(s, A, m, c, f), fun _ => ⟨k1, by rw [← Nat.add_assoc] at k2; exact k2, k3, k4, k5⟩⟩
        · exact ⟨(ByteArray.empty, none, 0, 0, fun _ => 0), fun h => absurd h hin⟩
      obtain ⟨q, hq⟩ := Classical.axiomOfChoice key'
      exact ⟨_, len, _, fun i => (q i).1, fun i => (q i).2.2.1, fun i => (q i).2.2.2.2, rfl, by omega, fun i hi => ⟨(hq i hi).2.2.1, (hq i hi).2.2.2.1⟩, fun i => (q i).2.1, fun i => (q i).2.2.2.1, fun _ => ⟨b, off, rfl, by simpa [Addr.add] using hlt, fun i hi => ⟨(hq i hi).1, (hq i hi).2.1⟩⟩, fun i hi => (hq i hi).2.2.2.2⟩
    · obtain rfl : len = 0 := by omega
      exact ⟨_, 0, _, fun _ => ByteArray.empty, fun _ => 0, fun _ _ => 0, rfl, by simp [maxLen], fun i hi => by omega, fun _ => none, fun _ => 0, fun hn => by omega, fun i hi => by omega⟩
theorem seams_of_trod {H : Type} {enc : TypeId × Value → H} {P : Program} {w : World} {t e u : TypeId} {fs : Array Field} {fuel : Nat} {cs : List Value} {x : DataW H × List MemPlace}
    (ht : P.underlying t = some (.slice e)) (he : P.underlying e = some (.struct fs)) (hone : oneCellFields P fs = true) (hC : P.cellsOf e = 4) (hfs : fs.size = 4) (hall : ∀ (j : Nat) (f : Field), fs[j]? = some f → f.type = u)
    (hu : P.underlying u = some (.int .i64)) (h : DataW.trod enc P w 0 (fun _ => true) true fuel t cs = some x) : ∃ A n c f, cs = [.slice A n c] ∧ n ≤ maxLen ∧ (∀ i, i < n * 4 → (Lit.int .i64 (f i)).wf = true) ∧ Nums w w.heap.size A (n * 4) f := by
  obtain ⟨A, n, c, rfl⟩ : ∃ A n c, cs = [.slice A n c] := by
    rcases Go.Deep.open_slice ht h with ⟨rfl, _⟩ | ⟨a, len, cap, m, n', D, Pl, rfl, _⟩
    · exact ⟨_, _, _, rfl⟩
    · exact ⟨_, _, _, rfl⟩
  obtain ⟨d, p⟩ := x
  obtain ⟨F, hF⟩ := Fs.ints_of_trod ht he hone hC (by decide) hfs hall hu (A := A) (n := n) (c := c) ⟨fuel, by simpa [Value.cells] using h⟩
  exact ⟨A, n, c, fun k => F (k / 4) (k % 4), rfl, hF.1, fun i hi => hF.2.1 (i / 4) (by omega) (i % 4) (by omega), fun hn => by
    obtain ⟨b, off, rfl, hb, hc⟩ := hF.2.2 (by omega)
    exact ⟨b, off, rfl, hb, fun i hi => by
      have := hc (i / 4) (by omega) (i % 4) (by omega)
      rw [show i / 4 * 4 + i % 4 = i by omega] at this
      exact this⟩⟩
abbrev pcV (s : ByteArray) (A : Option Addr) (m c : Nat) : Value := .agg #[.string s, .slice A m c]
abbrev paV (A : Option Addr) (n c : Nat) (SA : Option Addr) (k sc : Nat) (o : Int) : Value := .agg #[.slice A n c, .slice SA k sc, .int .i64 o]
/-- The law's measure. -/
theorem sz_ex (A : Option Addr) (n c : Nat) (l : Int) (h0 : 0 ≤ l) (h1 : l ≤ 1048576) (hm : n ≤ maxLen) (w : World) :
    Calls Try.prog 156 #[.slice A n c, .int .i64 l] w fun e w' => ∃ r : Int, e = .returned (.int .i64 r) ∧ -1 ≤ r ∧ r ≤ 1048576 ∧ (0 ≤ r → r + (n : Int) = l) ∧ Below w.heap.size w w' := by
  unfold maxLen at hm
  by_cases hb : l - n < 0
  · go_enter Try.func156, Try.ntmps156
    go_wp2_with fail
    go_ret
    exact ⟨-1, rfl, by omega, by omega, fun h => by omega, Below.refl _ _⟩
  · go_enter Try.func156, Try.ntmps156
    go_wp2_with fail
    go_ret
    exact ⟨l - n, rfl, by omega, by omega, fun _ => by omega, Below.refl _ _⟩
theorem sz_piece (s : ByteArray) (A : Option Addr) (m c : Nat) (l : Int) (h0 : 0 ≤ l) (h1 : l ≤ 1048576) (hs : s.size ≤ maxLen) (hm : m ≤ maxLen) (w : World) :
    Calls Try.prog 130 #[pcV s A m c, .int .i64 l] w fun e w' => ∃ r : Int, e = .returned (.int .i64 r) ∧ -1 ≤ r ∧ r ≤ 1048576 ∧ (0 ≤ r → r + ((s.size : Int) + (m : Int)) = l) ∧ Below w.heap.size w w' := by
  unfold pcV
  by_cases hb : l - s.size < 0
  · unfold maxLen at hs
    go_enter Try.func130, Try.ntmps130
    go_wp2_with fail
    go_ret
    exact ⟨-1, rfl, by omega, by omega, fun h => by omega, below_box _ _⟩
  · have C := Lib.hid (fun w => sz_ex A m c (l - s.size) (by omega) (by omega) hm w)
    unfold maxLen at hs
    have HB := Lib.hid (below_box w (.cells #[.string s, .slice A m c] 158))
    go_enter Try.func130, Try.ntmps130
    go_wp2_with fail
    refine (C.out _).mono ?_
    rintro e w1 ⟨r, rfl, hr0, hr1, hr2, b1⟩
    have HQ := Lib.hid (below_then HB.out b1)
    clear b1
    by_cases hr : r < 0
    · go_wp2_with fail
      go_ret
      exact ⟨-1, rfl, by omega, by omega, fun h => by omega, HQ.out⟩
    · have hq := hr2 (by omega)
      clear hr2
      go_wp2_with fail
      go_ret
      exact ⟨r, rfl, by omega, by omega, fun _ => by omega, HQ.out⟩
theorem sz_pieces (A : Option Addr) (n c : Nat) (N : Nat → ByteArray) (ms : Nat → Nat) (ds : Nat → Nat → Int) (l : Int) (hl0 : 0 ≤ l) (hl : l ≤ 1048576) (hmx : n ≤ maxLen) (hz : ∀ i, i < n → (N i).size ≤ maxLen ∧ ms i ≤ maxLen) (w : World) (hA : Pcs w A n N ms ds) :
    Calls Try.prog 96 #[.slice A n c, .int .i64 l] w fun e w' => ∃ r : Int, e = .returned (.int .i64 r) ∧ -1 ≤ r ∧ r ≤ 1048576 ∧ (0 ≤ r → r + ((n : Int) + (sumN (fun i => (N i).size + ms i) n : Int)) = l) ∧ Below w.heap.size w w' := by
  have hm := hmx
  unfold maxLen at hm
  by_cases hbig : l < n
  · have h0 : l - n < 0 := by omega
    clear hA
    go_enter Try.func96, Try.ntmps96
    go_wp2_with fail
    go_ret
    exact ⟨-1, rfl, by omega, by omega, by omega, Below.refl _ _⟩
  have h0 : ¬ l - n < 0 := by omega
  obtain ⟨As, cs, hR⟩ := hA
  have HA := Lib.hid hR
  have HZ := Lib.hid hz
  have HS0 : Hid (sumN (fun i => (N i).size + ms i) 0 = 0) := Lib.hid rfl
  have HSS : Hid (∀ k, sumN (fun i => (N i).size + ms i) (k + 1) = sumN (fun i => (N i).size + ms i) k + ((N k).size + ms k)) := Lib.hid fun k => rfl
  clear hR hm hz
  generalize sumN (fun i => (N i).size + ms i) = SW at HS0 HSS ⊢
  have HE0 : Hid (l - (n : Int) + ((n : Int) + (SW 0 : Int)) = l) := Lib.hid (by rw [HS0.out]; omega)
  go_enter Try.func96, Try.ntmps96
  go_wp2_with fail
  go_loopw [1, 5] (fun s i wr => ∃ (k : Nat) (r : Int), k ≤ n ∧ i = .int .i64 k ∧ s = .int .i64 r ∧ 0 ≤ r ∧ r ≤ 1048576 ∧ Hid (r + ((n : Int) + (SW k : Int)) = l) ∧ Hid (Below w.heap.size w wr)) (fun _ i _ => n - (intOf i).toNat)
  case atStart => exact ⟨0, l - n, Nat.zero_le _, rfl, rfl, by omega, by omega, HE0, Lib.hid (Below.refl _ _)⟩
  case round =>
    obtain ⟨k, r, hk, rfl, rfl, hr0, hr1, HE, HB⟩ := hrel
    by_cases hlt : k < n
    · obtain ⟨b, off, rfl, hb, hc⟩ := (HA.out.below HB.out).out (by omega)
      obtain ⟨x0, x1⟩ := hc k hlt
      obtain ⟨z0, z1⟩ := HZ.out k hlt
      have C := Lib.hid (fun w => sz_piece (N k) (As k) (ms k) (cs k) r hr0 hr1 z0 z1 w)
      have HSk := Lib.hid (HSS.out k)
      have hk1 : k + 1 ≤ n := by omega
      clear hc z0 z1
      go_wp2_with fail
      refine (C.out _).mono ?_
      rintro e w1 ⟨r', rfl, hp, hq, hs, b1⟩
      have HQ := Lib.hid (below_then HB.out b1)
      clear b1 x0 x1
      by_cases hneg : r' < 0
      · clear hs
        go_wp2_with fail
        go_ret
        exact ⟨-1, rfl, by omega, by omega, by omega, HQ.out⟩
      · have HE2 : Hid (r' + ((n : Int) + (SW (k + 1) : Int)) = l) := Lib.hid (by have := hs (by omega); have := HE.out; rw [HSk.out]; omega)
        clear hs
        go_wp2_with fail
        go_roundw
        case rel => exact ⟨k + 1, r', hk1, by go_num, rfl, by omega, by omega, HE2, HQ⟩
        case measure => simp [intOf]; omega
    · obtain rfl : k = n := by omega
      go_wp2_with fail
      go_ret
      exact ⟨r, rfl, by omega, by omega, fun _ => HE.out, HB.out⟩
theorem sz_seams (A : Option Addr) (n c : Nat) (l : Int) (h0 : 0 ≤ l) (h1 : l ≤ 1048576) (hm : n ≤ maxLen) (w : World) :
    Calls Try.prog 97 #[.slice A n c, .int .i64 l] w fun e w' => ∃ r : Int, e = .returned (.int .i64 r) ∧ -1 ≤ r ∧ r ≤ 1048576 ∧ (0 ≤ r → r + (n : Int) = l) ∧ Below w.heap.size w w' := by
  unfold maxLen at hm
  by_cases hb : l - n < 0
  · go_enter Try.func97, Try.ntmps97
    go_wp2_with fail
    go_ret
    exact ⟨-1, rfl, by omega, by omega, fun h => by omega, Below.refl _ _⟩
  · go_enter Try.func97, Try.ntmps97
    go_wp2_with fail
    go_ret
    exact ⟨l - n, rfl, by omega, by omega, fun _ => by omega, Below.refl _ _⟩
theorem sz_pattern (A : Option Addr) (n c : Nat) (N : Nat → ByteArray) (ms : Nat → Nat) (ds : Nat → Nat → Int) (SA : Option Addr) (k sc : Nat) (S : Nat → Int) (o : Int) (l : Int) (hl0 : 0 ≤ l) (hl : l ≤ 1048576) (hmx : n ≤ maxLen) (hkx : k ≤ maxLen) (hz : ∀ i, i < n → (N i).size ≤ maxLen ∧ ms i ≤ maxLen) (w : World) (hA : PatR w A n N ms ds SA k S) :
    Calls Try.prog 50 #[paV A n c SA k sc o, .int .i64 l] w fun e w' => ∃ r : Int, e = .returned (.int .i64 r) ∧ -1 ≤ r ∧ r ≤ 1048576 ∧ (0 ≤ r → Small n N ms k) ∧ Below w.heap.size w w' := by
  have HB := Lib.hid (below_box w (.cells #[.slice A n c, .slice SA k sc, .int .i64 o] 72))
  have hk := Lib.hid (blk3 (heap_alloc_new w (.cells #[.slice A n c, .slice SA k sc, .int .i64 o] 72)))
  have KB := Lib.hid (heap_alloc_new w (.cells #[.slice A n c, .slice SA k sc, .int .i64 o] 72))
  have C := Lib.hid (sz_pieces A n c N ms ds l hl0 hl hmx hz _ (hA.pcs.below HB.out))
  have C2 := Lib.hid (fun l h0 h1 w => sz_seams SA k sc l h0 h1 hkx w)
  have HS : Hid (∀ r r2 : Int, r + ((n : Int) + (sumN (fun i => (N i).size + ms i) n : Int)) = l → r2 + (k : Int) = r → 0 ≤ r2 → Small n N ms k) := Lib.hid fun r r2 h1 h2 h3 => by unfold Small; omega
  clear hA hz hk
  generalize (sumN (fun i => (N i).size + ms i) n : Nat) = q at C HS
  unfold paV
  go_enter Try.func50, Try.ntmps50
  go_wp2_with fail
  refine C.out.mono ?_
  rintro e w1 ⟨r, rfl, hp, hq, hs, b1⟩
  have HB1 := Lib.hid (below_then HB.out b1)
  have K1 := Lib.hid (blk_keep b1 KB.out)
  obtain ⟨x0, x1, x2⟩ := blk3 K1.out
  clear b1 C
  by_cases hneg : r < 0
  · clear hs
    go_wp2_with fail
    go_ret
    exact ⟨-1, rfl, by omega, by omega, by omega, HB1.out⟩
  · have HR := Lib.hid (hs (by omega))
    have C3 := Lib.hid (fun w => C2.out r (by omega) hq w)
    clear hs C2
    go_wp2_with fail
    refine (C3.out _).mono ?_
    rintro e w2 ⟨r2, rfl, hp2, hq2, hs2, b2⟩
    have HB2 := Lib.hid (below_then HB1.out b2)
    clear b2 x0 x1 x2
    by_cases hneg2 : r2 < 0
    · clear hs2
      go_wp2_with fail
      go_ret
      exact ⟨-1, rfl, by omega, by omega, by omega, HB2.out⟩
    · have HF := Lib.hid (HS.out r r2 HR.out (hs2 (by omega)) (by omega))
      clear hs2
      go_wp2_with fail
      go_ret
      exact ⟨r2, rfl, by omega, by omega, fun _ => HF.out, HB2.out⟩
/-- The law's copy of a piece. -/
theorem to_piece (s : ByteArray) (A : Option Addr) (m c : Nat) (d : Nat → Int) (hm : m ≤ 1048576) (w : World) (hA : Nums w w.heap.size A m d) :
    Calls Try.prog 135 #[pcV s A m c] w fun e w' => ∃ g, e = .returned (pcV s (some ⟨g, 0, none⟩) m m) ∧ w.heap.size ≤ g ∧ Hid (At w' g m d) ∧ Below w.heap.size w w' := by
  have HA := Lib.hid hA
  clear hA
  unfold pcV
  go_enter Try.func135, Try.ntmps135
  go_wp2_with fail
  refine (Fi.to_ints A m c d hm _ ((HA.out.below (below3 w _ _ _) (Nat.le_refl _)).more (by simp; omega))).mono ?_
  rintro e w1 ⟨g, rfl, hg, HT, b1⟩
  obtain ⟨ka, kz, ko⟩ := three w (.cells #[.string s, .slice A m c] 158) (.cells #[.string ⟨#[]⟩, .slice none 0 0] 164) (.cells #[.string s, .slice none 0 0] 164)
  have KZ := Lib.hid (blk_keep b1 kz)
  have KO := Lib.hid (blk_keep b1 ko)
  have HB := Lib.hid (below_then (below3 w _ _ _) b1)
  have hg' : w.heap.size + 3 ≤ g := by simpa using hg
  have hz := lt_of_heap KO.out
  clear ka kz ko b1 hg
  obtain ⟨z0, z1⟩ := blk2 KZ.out
  obtain ⟨y0, y1⟩ := blk2 KO.out
  have fz := blk_free KZ.out
  have fo := blk_free KO.out
  have KF : Hid ((((w1.setCell ⟨w.heap.size + 1 + 1, 1, none⟩ (.slice (some ⟨g, 0, none⟩) m m)).setCell ⟨w.heap.size + 1, 0, none⟩ (.string s)).setCell ⟨w.heap.size + 1, 1, none⟩ (.slice (some ⟨g, 0, none⟩) m m)).heap[w.heap.size + 1]? = some (.cells #[.string s, .slice (some ⟨g, 0, none⟩) m m] 164 (0, 0))) :=
    Lib.hid (heap_set (heap_set ((Below.heap_setCell _ _ _ _ (by simp)).trans KZ.out) 0 _) 1 _)
  have HTF : Hid (At (((w1.setCell ⟨w.heap.size + 1 + 1, 1, none⟩ (.slice (some ⟨g, 0, none⟩) m m)).setCell ⟨w.heap.size + 1, 0, none⟩ (.string s)).setCell ⟨w.heap.size + 1, 1, none⟩ (.slice (some ⟨g, 0, none⟩) m m)) g m d) := Lib.hid (At.set (At.set (At.set HT.out (by omega)) (by omega)) (by omega))
  have HBF : Hid (Below w.heap.size w (((w1.setCell ⟨w.heap.size + 1 + 1, 1, none⟩ (.slice (some ⟨g, 0, none⟩) m m)).setCell ⟨w.heap.size + 1, 0, none⟩ (.string s)).setCell ⟨w.heap.size + 1, 1, none⟩ (.slice (some ⟨g, 0, none⟩) m m))) := Lib.hid (((HB.out.setCell (by simp; omega) _).setCell (by simp) _).setCell (by simp) _)
  go_wp2_with fail
  generalize ((w1.setCell ⟨w.heap.size + 1 + 1, 1, none⟩ (.slice (some ⟨g, 0, none⟩) m m)).setCell ⟨w.heap.size + 1, 0, none⟩ (.string s)).setCell ⟨w.heap.size + 1, 1, none⟩ (.slice (some ⟨g, 0, none⟩) m m) = wf at KF HTF HBF ⊢
  clear z0 z1 y0 y1 fz fo
  obtain ⟨z0, z1⟩ := blk2 KF.out
  exact bodyPost_ret (v := pcV s (some ⟨g, 0, none⟩) m m) (by simp [results, Try.results135, go_sem, z0, z1]) rfl ⟨g, rfl, by omega, HTF, HBF.out⟩
/-- What a copy of pieces has written so far. -/
structure Mid (w wr : World) (n k : Nat) (N : Nat → ByteArray) (ms : Nat → Nat) (ds : Nat → Nat → Int) (arr : Array Value) (G : Nat → Nat) : Prop where
  bel : Below w.heap.size w wr
  blk : wr.heap[w.heap.size]? = some (.cells arr 164 (0, 0))
  sz : arr.size = n * 2
  cel : ∀ i, i < k → arr[i * 2]? = some (.string (N i)) ∧ arr[i * 2 + 1]? = some (.slice (some ⟨G i, 0, none⟩) (ms i) (ms i))
  inn : ∀ i, i < k → At wr (G i) (ms i) (ds i) ∧ w.heap.size < G i
  apart : ∀ i j, i < j → j < k → G i < G j
theorem Mid.step {w wr w1 : World} {n k g : Nat} {N : Nat → ByteArray} {ms : Nat → Nat} {ds : Nat → Nat → Int} {arr : Array Value} {G : Nat → Nat} (h : Mid w wr n k N ms ds arr G) (hk : k < n) (hb : Below wr.heap.size wr w1) (hg : wr.heap.size ≤ g) (ha : At w1 g (ms k) (ds k)) :
    Mid w ((w1.setCell ⟨w.heap.size, k * 2, none⟩ (.string (N k))).setCell ⟨w.heap.size, k * 2 + 1, none⟩ (.slice (some ⟨g, 0, none⟩) (ms k) (ms k))) n (k + 1) N ms ds ((arr.setIfInBounds (k * 2) (.string (N k))).setIfInBounds (k * 2 + 1) (.slice (some ⟨g, 0, none⟩) (ms k) (ms k))) (fun i => if i = k then g else G i) := by
  have hlt := lt_of_heap h.blk
  have hs := h.sz
  refine ⟨((below_then h.bel hb).setCell (Nat.le_refl _) _).setCell (Nat.le_refl _) _, heap_set (heap_set (blk_keep hb h.blk) _ _) _ _, by simp [hs], fun i hi => ?_, fun i hi => ?_, fun i j hij hj => ?_⟩
  · simp only [Array.getElem?_setIfInBounds, Array.size_setIfInBounds]
    by_cases e : i = k
    · subst e
      simp only [if_true]
      refine ⟨by repeat (first | rw [if_pos (by omega)] | rw [if_neg (by omega)]), by repeat (first | rw [if_pos (by omega)] | rw [if_neg (by omega)])⟩
    · rw [if_neg e, if_neg (by omega), if_neg (by omega), if_neg (by omega), if_neg (by omega)]
      exact h.cel i (by omega)
  · by_cases e : i = k
    · subst e
      simp only [if_true]
      exact ⟨(ha.set (by omega)).set (by omega), by omega⟩
    · simp only [if_neg e]
      have := h.inn i (by omega)
      exact ⟨((this.1.below hb).set (by omega)).set (by omega), this.2⟩
  · by_cases e : j = k
    · subst e
      rw [if_neg (by omega), if_pos rfl]
      have := (h.inn i (by omega)).1.1
      omega
    · rw [if_neg (by omega), if_neg e]
      exact h.apart i j hij (by omega)
/-- Pieces of the call's own, from block lo on. -/
structure PcsO (w : World) (lo g n : Nat) (N : Nat → ByteArray) (ms : Nat → Nat) (ds : Nat → Nat → Int) (arr : Array Value) (G : Nat → Nat) : Prop where
  low : lo ≤ g
  blk : w.heap[g]? = some (.cells arr 164 (0, 0))
  sz : arr.size = n * 2
  cel : ∀ i, i < n → arr[i * 2]? = some (.string (N i)) ∧ arr[i * 2 + 1]? = some (.slice (some ⟨G i, 0, none⟩) (ms i) (ms i))
  inn : ∀ i, i < n → At w (G i) (ms i) (ds i) ∧ g < G i
  apart : ∀ i j, i < j → j < n → G i < G j
theorem PcsO.below {w w' : World} {lo g n : Nat} {N : Nat → ByteArray} {ms : Nat → Nat} {ds : Nat → Nat → Int} {arr : Array Value} {G : Nat → Nat} (h : PcsO w lo g n N ms ds arr G) (hb : Below w.heap.size w w') : PcsO w' lo g n N ms ds arr G :=
  ⟨h.low, blk_keep hb h.blk, h.sz, h.cel, fun i hi => ⟨(h.inn i hi).1.below hb, (h.inn i hi).2⟩, h.apart⟩
theorem PcsO.pcs {w : World} {lo g n : Nat} {N : Nat → ByteArray} {ms : Nat → Nat} {ds : Nat → Nat → Int} {arr : Array Value} {G : Nat → Nat} (h : PcsO w lo g n N ms ds arr G) : Pcs w (some ⟨g, 0, none⟩) n N ms ds :=
  ⟨fun i => some ⟨G i, 0, none⟩, ms, fun _ => ⟨g, 0, rfl, lt_of_heap h.blk, fun i hi => by
    rw [Nat.zero_add, cell_of_row _ _ _ _ _ _ h.blk, cell_of_row _ _ _ _ _ _ h.blk]
    exact h.cel i hi⟩, fun i hi => Fi.at_nums (h.inn i hi).1⟩
theorem info_pc : (Try.prog.info? 164).map (fun i => (i.zero, i.size, i.bytes)) = some (some (.agg #[.string ByteArray.empty, .slice none 0 0]), 2, 40) := by kernel_rfl
theorem to_pieces (A : Option Addr) (n c : Nat) (N : Nat → ByteArray) (ms : Nat → Nat) (ds : Nat → Nat → Int) (hn : n ≤ 1048576) (hm : ∀ i, i < n → ms i ≤ 1048576) (w : World) (hA : Pcs w A n N ms ds) :
    Calls Try.prog 100 #[.slice A n c] w fun e w' => ∃ g arr G, e = .returned (.slice (some ⟨g, 0, none⟩) n n) ∧ w.heap.size ≤ g ∧ Hid (PcsO w' w.heap.size g n N ms ds arr G) ∧ Below w.heap.size w w' := by
  obtain ⟨i0, hi, hz0, hz1, hz2⟩ := info_parts info_pc
  have hmk : (Instr.makeSlice 76 (.int .i64 (n : Int)) (.int .i64 (n : Int))).run Try.prog w = _ := run_make w _ _ i0 _ Try.underlying76 hi hz0 .i64 .i64 n n (by omega) (by omega) (by rw [hz2]; omega) (by omega)
  rw [hz1] at hmk
  simp only [Int.toNat_natCast] at hmk
  obtain ⟨As, cs, hR⟩ := hA
  have HA := Lib.hid hR
  have CT := Lib.hid (fun i (hi : i < n) w h => to_piece (N i) (As i) (ms i) (cs i) (ds i) (hm i hi) w h)
  clear hR hz0 hz1 hz2 hi
  go_enter Try.func100, Try.ntmps100
  go_wp2_with fail
  clear hmk
  go_loopw [4] (fun i wr => ∃ (k : Nat) (arr : Array Value) (G : Nat → Nat), k ≤ n ∧ i = .int .i64 k ∧ Hid (Mid w wr n k N ms ds arr G)) (fun i _ => n - (intOf i).toNat)
  case atStart => exact ⟨0, _, fun _ => 0, Nat.zero_le _, rfl, Lib.hid ⟨below_box _ _, heap_alloc_new _ _, size_madeCells _ _, fun i hi => by omega, fun i hi => by omega, fun i j _ hj => by omega⟩⟩
  case round =>
    obtain ⟨k, arr, G, hk, rfl, HM⟩ := hrel
    by_cases hlt : k < n
    · have HR := Lib.hid (HA.out.below HM.out.bel)
      obtain ⟨b, off, rfl, hb, hc⟩ := HR.out.out (by omega)
      obtain ⟨x0, x1⟩ := hc k hlt
      have C := Lib.hid (CT.out k hlt wr (HR.out.inn k hlt))
      have hk1 : k + 1 ≤ n := by omega
      have ST := Lib.hid (fun w1 g hb hg ha => HM.out.step (w1 := w1) (g := g) hlt hb hg ha)
      have hsz := HM.out.sz
      have OLD : Hid (∀ w1, Below wr.heap.size wr w1 → (∃ v0 v1, w1.cell? ⟨w.heap.size, k * 2, none⟩ = some v0 ∧ w1.cell? ⟨w.heap.size, k * 2 + 1, none⟩ = some v1) ∧ ∀ i, w1.frozen? ⟨w.heap.size, i, none⟩ = false) := Lib.hid fun w1 hb1 => by
        have hb2 := blk_keep hb1 HM.out.blk
        exact ⟨⟨arr[k * 2]'(by omega), arr[k * 2 + 1]'(by omega), by rw [cell_of_row _ _ _ _ _ _ hb2]; exact Array.getElem?_eq_getElem _, by rw [cell_of_row _ _ _ _ _ _ hb2]; exact Array.getElem?_eq_getElem _⟩, fun i => blk_free hb2 i⟩
      clear hc hsz HR
      generalize N k = s at x0 C ST
      generalize ms k = m at x1 C ST
      go_wp2_with fail
      refine C.out.mono ?_
      rintro e w1 ⟨g, rfl, hg, HT, b1⟩
      obtain ⟨⟨v0, v1, y0, y1⟩, hfr⟩ := OLD.out w1 b1
      have HN := Lib.hid (ST.out w1 g b1 hg HT.out)
      clear x0 x1 b1 OLD ST HT C
      go_wp2_with fail
      go_roundw
      case rel => exact ⟨k + 1, _, _, hk1, by go_num, HN⟩
      case measure => simp [intOf]; omega
    · obtain rfl : k = n := by omega
      have HF : Hid (PcsO wr w.heap.size w.heap.size k N ms ds arr G) := Lib.hid ⟨Nat.le_refl _, HM.out.blk, HM.out.sz, HM.out.cel, HM.out.inn, HM.out.apart⟩
      have HB := Lib.hid HM.out.bel
      go_wp2_with fail
      go_ret
      exact ⟨_, arr, G, rfl, Nat.le_refl _, HF, HB.out⟩
theorem eq_piece (s : ByteArray) (A1 A2 : Option Addr) (m c1 c2 : Nat) (d : Nat → Int) (hm : m ≤ 1048576) (w : World) (h1 : Nums w w.heap.size A1 m d) (h2 : Nums w w.heap.size A2 m d) :
    Calls Try.prog 147 #[pcV s A1 m c1, pcV s A2 m c2] w fun e w' => e = .returned (.bool true) ∧ Below w.heap.size w w' := by
  have H1 := Lib.hid h1
  have H2 := Lib.hid h2
  clear h1 h2
  unfold pcV
  go_enter Try.func147, Try.ntmps147
  go_wp2_with fail
  refine (eq_ints A1 A2 m c1 c2 d hm _ ((H1.out.below (below2 w _ _) (Nat.le_refl _)).more (by simp; omega)) ((H2.out.below (below2 w _ _) (Nat.le_refl _)).more (by simp; omega))).mono ?_
  rintro e w1 ⟨rfl, b1⟩
  have HB := Lib.hid (below_then (below2 w _ _) b1)
  clear b1
  go_wp2_with fail
  go_ret
  exact ⟨rfl, HB.out⟩
set_option maxRecDepth 100000 in
theorem eq_pieces (A1 A2 : Option Addr) (n c1 c2 : Nat) (N : Nat → ByteArray) (ms : Nat → Nat) (ds : Nat → Nat → Int) (hn : n ≤ 1048576) (hm : ∀ i, i < n → ms i ≤ 1048576) (w : World) (h1 : Pcs w A1 n N ms ds) (h2 : Pcs w A2 n N ms ds) :
    Calls Try.prog 106 #[.slice A1 n c1, .slice A2 n c2] w fun e w' => e = .returned (.bool true) ∧ Below w.heap.size w w' := by
  obtain ⟨As1, cs1, k1⟩ := h1
  obtain ⟨As2, cs2, k2⟩ := h2
  have H1 := Lib.hid k1
  have H2 := Lib.hid k2
  have CE := Lib.hid (fun i (hi : i < n) w a1 a2 => eq_piece (N i) (As1 i) (As2 i) (ms i) (cs1 i) (cs2 i) (ds i) (hm i hi) w a1 a2)
  clear k1 k2
  go_enter Try.func106, Try.ntmps106
  go_wp2_with fail
  go_loopw [5] (fun i wr => ∃ k : Nat, k ≤ n ∧ i = .int .i64 (k : Int) ∧ Hid (Below w.heap.size w wr)) (fun i _ => n - (intOf i).toNat)
  case atStart => exact ⟨0, Nat.zero_le _, rfl, Lib.hid (Below.refl _ _)⟩
  case round =>
    obtain ⟨k, hk, rfl, HB⟩ := hrel
    by_cases hlt : k < n
    · have HR1 := Lib.hid (H1.out.below HB.out)
      have HR2 := Lib.hid (H2.out.below HB.out)
      obtain ⟨b1, off1, rfl, hb1, hc1⟩ := HR1.out.out (by omega)
      obtain ⟨b2, off2, rfl, hb2, hc2⟩ := HR2.out.out (by omega)
      obtain ⟨x0, x1⟩ := hc1 k hlt
      obtain ⟨y0, y1⟩ := hc2 k hlt
      have x0 := bey_cell x0
      have x1 := bey_cell x1
      have y0 := bey_cell y0
      have y1 := bey_cell y1
      have HI1 := Lib.hid (HR1.out.inn k hlt)
      have HI2 := Lib.hid (HR2.out.inn k hlt)
      have CF := Lib.hid (fun z : Beyond wr => CE.out k hlt z.to ((HI1.out.below z.h (Nat.le_refl _)).more z.h.size) ((HI2.out.below z.h (Nat.le_refl _)).more z.h.size))
      have e0 : (0 : Int) ≤ (k : Int) := Int.natCast_nonneg _
      have e1 : (k : Int) < (n : Int) := by omega
      clear hc1 hc2 hb1 hb2 HR1 HR2 HI1 HI2
      go_wp2_with fail
      refine wp_region_below (by kernel_rfl) (by kernel_rfl) ?_
      repeat (go_big_quiet_step (first | (go_at_call 147; exact bey_of _ (CF.out _))))
      refine wpQuiet_nil ?_
      rintro _ ⟨pq, rfl⟩
      have HQ := Lib.hid (HB.out.trans (pq.h.mono HB.out.size))
      generalize pq.to = wq at HQ ⊢
      clear x0 x1 y0 y1 CF
      go_wp2_with fail
      go_roundw
      case rel => exact ⟨k + 1, by omega, by go_num, HQ⟩
      case measure => simp [intOf]; omega
    · go_wp2_with fail
      go_ret
      exact ⟨rfl, HB.out⟩
abbrev seV (a b c d : Int) : Value := .agg #[.int .i64 a, .int .i64 b, .int .i64 c, .int .i64 d]
theorem to_seam (a b c d : Int) (w : World) : Calls Try.prog 136 #[seV a b c d] w fun e w' => e = .returned (seV a b c d) ∧ Below w.heap.size w w' := by
  unfold seV
  go_enter Try.func136, Try.ntmps136
  go_wp2
  exact bodyPost_ret (v := .agg #[.int .i64 a, .int .i64 b, .int .i64 c, .int .i64 d]) (by simp [results, Try.results136, go_sem]) rfl ⟨rfl, by repeat (first | exact Below.refl _ _ | exact below_box _ _ | refine Below.setCell ?_ (by simp <;> omega) _ | refine Below.alloc ?_ (by simp <;> omega) _)⟩
theorem info_se : (Try.prog.info? 162).map (fun i => (i.zero, i.size, i.bytes)) = some (some (.agg #[.int .i64 0, .int .i64 0, .int .i64 0, .int .i64 0]), 4, 32) := by kernel_rfl
theorem arr_four {arr : Array Value} {n k : Nat} (hs : arr.size = n * 4) (hk : k < n) {f : Nat → Int} (h : ∀ i, i < k * 4 → arr[i]? = some (.int .i64 (f i))) :
    ∀ i, i < (k + 1) * 4 → ((((arr.setIfInBounds (k * 4) (.int .i64 (f (k * 4)))).setIfInBounds (k * 4 + 1) (.int .i64 (f (k * 4 + 1)))).setIfInBounds (k * 4 + 2) (.int .i64 (f (k * 4 + 2)))).setIfInBounds (k * 4 + 3) (.int .i64 (f (k * 4 + 3))))[i]? = some (.int .i64 (f i)) := by
  intro i hi
  simp only [Array.getElem?_setIfInBounds, Array.size_setIfInBounds]
  have R : i < k * 4 ∨ i = k * 4 ∨ i = k * 4 + 1 ∨ i = k * 4 + 2 ∨ i = k * 4 + 3 := by omega
  rcases R with e | rfl | rfl | rfl | rfl
  · rw [if_neg (by omega), if_neg (by omega), if_neg (by omega), if_neg (by omega)]
    exact h i e
  all_goals
    repeat (first | rw [if_pos (by omega)] | rw [if_neg (by omega)])
theorem to_seams (A : Option Addr) (n c : Nat) (f : Nat → Int) (hn : n ≤ 1048576) (w : World) (hA : Nums w w.heap.size A (n * 4) f) :
    Calls Try.prog 101 #[.slice A n c] w fun e w' => ∃ g, e = .returned (.slice (some ⟨g, 0, none⟩) n n) ∧ w.heap.size ≤ g ∧ Hid (At w' g (n * 4) f) ∧ Below w.heap.size w w' := by
  obtain ⟨i0, hi, hz0, hz1, hz2⟩ := info_parts info_se
  have hmk : (Instr.makeSlice 77 (.int .i64 (n : Int)) (.int .i64 (n : Int))).run Try.prog w = _ := run_make w _ _ i0 _ Try.underlying77 hi hz0 .i64 .i64 n n (by omega) (by omega) (by rw [hz2]; omega) (by omega)
  rw [hz1] at hmk
  simp only [Int.toNat_natCast] at hmk
  have HA := Lib.hid hA
  clear hA hz0 hz1 hz2 hi
  go_enter Try.func101, Try.ntmps101
  go_wp2_with fail
  clear hmk
  go_loopw [4] (fun i wr => ∃ (k : Nat) (arr : Array Value), k ≤ n ∧ i = .int .i64 k ∧ Hid (Below w.heap.size w wr) ∧ Hid (wr.heap[w.heap.size]? = some (.cells arr 162 (0, 0))) ∧ Hid (arr.size = n * 4) ∧ Hid (∀ i, i < k * 4 → arr[i]? = some (.int .i64 (f i)))) (fun i _ => n - (intOf i).toNat)
  case atStart => exact ⟨0, _, Nat.zero_le _, rfl, Lib.hid (below_box _ _), Lib.hid (heap_alloc_new _ _), Lib.hid (size_madeCells _ _), Lib.hid fun i hi => by omega⟩
  case round =>
    obtain ⟨k, arr, hk, rfl, HB, hblk, hsz, hall⟩ := hrel
    by_cases hlt : k < n
    · obtain ⟨b, off, rfl, hb, hc⟩ := HA.out (by omega)
      have x0 : wr.cell? ⟨b, off + k * 4, none⟩ = some (.int .i64 (f (k * 4))) := (HB.out.cell (p := ⟨b, off + k * 4, none⟩) hb).trans (hc (k * 4) (by omega))
      have x1 : wr.cell? ⟨b, off + k * 4 + 1, none⟩ = some (.int .i64 (f (k * 4 + 1))) := (HB.out.cell (p := ⟨b, off + (k * 4 + 1), none⟩) hb).trans (hc (k * 4 + 1) (by omega))
      have x2 : wr.cell? ⟨b, off + k * 4 + 2, none⟩ = some (.int .i64 (f (k * 4 + 2))) := (HB.out.cell (p := ⟨b, off + (k * 4 + 2), none⟩) hb).trans (hc (k * 4 + 2) (by omega))
      have x3 : wr.cell? ⟨b, off + k * 4 + 3, none⟩ = some (.int .i64 (f (k * 4 + 3))) := (HB.out.cell (p := ⟨b, off + (k * 4 + 3), none⟩) hb).trans (hc (k * 4 + 3) (by omega))
      have C := Lib.hid (fun w => to_seam (f (k * 4)) (f (k * 4 + 1)) (f (k * 4 + 2)) (f (k * 4 + 3)) w)
      have HN := Lib.hid (arr_four hsz.out hlt hall.out)
      generalize f (k * 4) = u0 at x0 C HN
      generalize f (k * 4 + 1) = u1 at x1 C HN
      generalize f (k * 4 + 2) = u2 at x2 C HN
      generalize f (k * 4 + 3) = u3 at x3 C HN
      have hk1 : k + 1 ≤ n := by omega
      clear hk hc
      go_wp2_with fail
      refine (C.out _).mono ?_
      rintro e w1 ⟨rfl, b1⟩
      have hblk1 := Lib.hid (blk_keep b1 hblk.out)
      have hb1 := Lib.hid (below_then HB.out b1)
      have hold : ∀ j, j < 4 → ∃ v, w1.cell? ⟨w.heap.size, k * 4 + j, none⟩ = some v := fun j hj => ⟨arr[k * 4 + j]'(by have := hsz.out; omega), by
        rw [cell_of_row _ _ _ _ _ _ hblk1.out]; exact Array.getElem?_eq_getElem _⟩
      obtain ⟨v0, y0⟩ := hold 0 (by omega)
      obtain ⟨v1, y1⟩ := hold 1 (by omega)
      obtain ⟨v2, y2⟩ := hold 2 (by omega)
      obtain ⟨v3, y3⟩ := hold 3 (by omega)
      simp only [Nat.add_zero] at y0
      have hfr : ∀ i, w1.frozen? ⟨w.heap.size, i, none⟩ = false := fun i => blk_free hblk1.out i
      clear hold x0 x1 x2 x3 b1
      go_wp2_with fail
      go_roundw
      case rel =>
        refine ⟨k + 1, _, hk1, by go_num, Lib.hid ?_, Lib.hid (heap_set (heap_set (heap_set (heap_set hblk1.out _ _) _ _) _ _) _ _), Lib.hid (by simp [hsz.out]), HN⟩
        exact (((hb1.out.setCell (Nat.le_refl _) _).setCell (Nat.le_refl _) _).setCell (Nat.le_refl _) _).setCell (Nat.le_refl _) _
      case measure => simp [intOf]; omega
    · obtain rfl : k = n := by omega
      have HT : Hid (At wr w.heap.size (k * 4) f) := Lib.hid ⟨lt_of_heap hblk.out, fun i hi => (cell_of_row _ _ _ _ _ _ hblk.out).trans (hall.out i hi), fun i => blk_free hblk.out i⟩
      go_wp2_with fail
      go_ret
      exact ⟨_, rfl, Nat.le_refl _, HT, HB.out⟩
theorem eq_seam (a b c d : Int) (w : World) : Calls Try.prog 148 #[seV a b c d, seV a b c d] w fun e w' => e = .returned (.bool true) ∧ Below w.heap.size w w' := by
  unfold seV
  go_enter Try.func148, Try.ntmps148
  go_wp2
  go_ret
  exact ⟨rfl, by repeat (first | exact Below.refl _ _ | exact below_box _ _ | refine Below.alloc ?_ (by simp <;> omega) _)⟩
theorem four_cells {w : World} {n b off : Nat} {f : Nat → Int} (hc : ∀ i, i < n * 4 → w.cell? ⟨b, off + i, none⟩ = some (.int .i64 (f i))) {k : Nat} (hk : k < n) :
    w.cell? ⟨b, off + k * 4, none⟩ = some (.int .i64 (f (k * 4))) ∧ w.cell? ⟨b, off + k * 4 + 1, none⟩ = some (.int .i64 (f (k * 4 + 1))) ∧ w.cell? ⟨b, off + k * 4 + 2, none⟩ = some (.int .i64 (f (k * 4 + 2))) ∧ w.cell? ⟨b, off + k * 4 + 3, none⟩ = some (.int .i64 (f (k * 4 + 3))) :=
  ⟨hc (k * 4) (by omega), hc (k * 4 + 1) (by omega), hc (k * 4 + 2) (by omega), hc (k * 4 + 3) (by omega)⟩
set_option maxRecDepth 100000 in
theorem eq_seams (A1 A2 : Option Addr) (n c1 c2 : Nat) (f : Nat → Int) (hn : n ≤ 1048576) (w : World) (h1 : Nums w w.heap.size A1 (n * 4) f) (h2 : Nums w w.heap.size A2 (n * 4) f) :
    Calls Try.prog 107 #[.slice A1 n c1, .slice A2 n c2] w fun e w' => e = .returned (.bool true) ∧ Below w.heap.size w w' := by
  have H1 := Lib.hid h1
  have H2 := Lib.hid h2
  clear h1 h2
  go_enter Try.func107, Try.ntmps107
  go_wp2_with fail
  go_loopw [5] (fun i wr => ∃ k : Nat, k ≤ n ∧ i = .int .i64 k ∧ Hid (Below w.heap.size w wr)) (fun i _ => n - (intOf i).toNat)
  case atStart => exact ⟨0, Nat.zero_le _, rfl, Lib.hid (Below.refl _ _)⟩
  case round =>
    obtain ⟨k, hk, rfl, HB⟩ := hrel
    by_cases hlt : k < n
    · obtain ⟨b1, off1, rfl, hb1, hc1⟩ := (H1.out.below HB.out (Nat.le_refl _)) (by omega)
      obtain ⟨b2, off2, rfl, hb2, hc2⟩ := (H2.out.below HB.out (Nat.le_refl _)) (by omega)
      obtain ⟨x0, x1, x2, x3⟩ := four_cells hc1 hlt
      obtain ⟨y0, y1, y2, y3⟩ := four_cells hc2 hlt
      have EQ := Lib.hid (fun w => eq_seam (f (k * 4)) (f (k * 4 + 1)) (f (k * 4 + 2)) (f (k * 4 + 3)) w)
      generalize f (k * 4) = u0 at x0 y0 EQ
      generalize f (k * 4 + 1) = u1 at x1 y1 EQ
      generalize f (k * 4 + 2) = u2 at x2 y2 EQ
      generalize f (k * 4 + 3) = u3 at x3 y3 EQ
      have e0 : (0 : Int) ≤ (k : Int) := Int.natCast_nonneg _
      have e1 : (k : Int) < (n : Int) := by omega
      clear hc1 hc2
      have x0 := bey_cell x0
      have x1 := bey_cell x1
      have x2 := bey_cell x2
      have x3 := bey_cell x3
      have y0 := bey_cell y0
      have y1 := bey_cell y1
      have y2 := bey_cell y2
      have y3 := bey_cell y3
      go_wp2_with fail
      refine wp_region_below (by kernel_rfl) (by kernel_rfl) ?_
      repeat (go_big_quiet_step (first | (go_at_call 148; exact bey_of _ (EQ.out _))))
      refine wpQuiet_nil ?_
      rintro _ ⟨pq, rfl⟩
      have HQ := Lib.hid (below_then HB.out pq.h)
      generalize pq.to = wq at HQ ⊢
      clear x0 x1 x2 x3 y0 y1 y2 y3
      go_wp2_with fail
      go_roundw
      case rel => exact ⟨k + 1, by omega, by go_num, HQ⟩
      case measure => simp [intOf]; omega
    · go_wp2_with fail
      go_ret
      exact ⟨rfl, HB.out⟩
theorem eq_pattern (A1 A2 SA1 SA2 : Option Addr) (n c1 c2 k sc1 sc2 : Nat) (N : Nat → ByteArray) (ms : Nat → Nat) (ds : Nat → Nat → Int) (S : Nat → Int) (o : Int) (hz : Small n N ms k) (w : World) (h1 : PatR w A1 n N ms ds SA1 k S) (h2 : PatR w A2 n N ms ds SA2 k S) :
    Calls Try.prog 54 #[paV A1 n c1 SA1 k sc1 o, paV A2 n c2 SA2 k sc2 o] w fun e w' => e = .returned (.bool true) ∧ Below w.heap.size w w' := by
  have H1 := Lib.hid h1
  have H2 := Lib.hid h2
  obtain ⟨hn, hk, hi⟩ := hz.at
  have n0 : (o != o) = false := by simp
  have HI := Lib.hid (fun i (hj : i < n) => (hi i hj).2)
  have C1 := Lib.hid (fun w h1 h2 => eq_pieces A1 A2 n c1 c2 N ms ds hn HI.out w h1 h2)
  have C2 := Lib.hid (fun w h1 h2 => eq_seams SA1 SA2 k sc1 sc2 S hk w h1 h2)
  obtain ⟨ka, kb⟩ := two w (.cells #[.slice A1 n c1, .slice SA1 k sc1, .int .i64 o] 79) (.cells #[.slice A2 n c2, .slice SA2 k sc2, .int .i64 o] 79)
  have KA := Lib.hid ka
  have KB := Lib.hid kb
  have HB := Lib.hid (below2 w (.cells #[.slice A1 n c1, .slice SA1 k sc1, .int .i64 o] 79) (.cells #[.slice A2 n c2, .slice SA2 k sc2, .int .i64 o] 79))
  clear h1 h2 hz hn hk hi ka kb HI
  unfold paV
  go_enter Try.func54, Try.ntmps54
  go_wp2_with fail
  refine (C1.out _ (H1.out.below HB.out).pcs (H2.out.below HB.out).pcs).mono ?_
  rintro e w1 ⟨rfl, b1⟩
  have HB1 := Lib.hid (below_then HB.out b1)
  have KA1 := Lib.hid (blk_keep b1 KA.out)
  have KB1 := Lib.hid (blk_keep b1 KB.out)
  clear b1 HB KA KB C1
  obtain ⟨x0, x1, x2⟩ := blk3 KA1.out
  obtain ⟨y0, y1, y2⟩ := blk3 KB1.out
  go_wp2_with fail
  refine (C2.out _ (H1.out.below HB1.out).seams (H2.out.below HB1.out).seams).mono ?_
  rintro e w2 ⟨rfl, b2⟩
  have HB2 := Lib.hid (below_then HB1.out b2)
  have KA2 := Lib.hid (blk_keep b2 KA1.out)
  have KB2 := Lib.hid (blk_keep b2 KB1.out)
  clear b2 HB1 KA1 KB1 C2 x0 x1 x2 y0 y1 y2
  obtain ⟨x0, x1, x2⟩ := blk3 KA2.out
  obtain ⟨y0, y1, y2⟩ := blk3 KB2.out
  go_wp2_with fail
  first
    | (go_ret; exact ⟨rfl, HB2.out⟩)
    | (go_region
       all_goals
         have HQ := Lib.hid HB2.out.drew
         go_wp2_with fail
         go_ret
         exact ⟨rfl, HQ.out⟩)
theorem PcsO.set {w : World} {lo g n b o : Nat} {N : Nat → ByteArray} {ms : Nat → Nat} {ds : Nat → Nat → Int} {arr : Array Value} {G : Nat → Nat} {u : Value} (h : PcsO w lo g n N ms ds arr G) (hb : b < lo) : PcsO (w.setCell ⟨b, o, none⟩ u) lo g n N ms ds arr G :=
  ⟨h.low, (Below.heap_setCell _ _ _ _ (by have := h.low; show g ≠ b; omega)).trans h.blk, h.sz, h.cel, fun i hi => ⟨(h.inn i hi).1.set (by have := h.low; have := (h.inn i hi).2; omega), (h.inn i hi).2⟩, h.apart⟩
/-- A pattern of the call's own, from block lo on. -/
structure PatO (w : World) (lo g n : Nat) (N : Nat → ByteArray) (ms : Nat → Nat) (ds : Nat → Nat → Int) (sg k : Nat) (S : Nat → Int) : Prop where
  pcs : ∃ arr G, PcsO w lo g n N ms ds arr G ∧ g < sg ∧ ∀ i, i < n → G i < sg
  seams : At w sg (k * 4) S
theorem PatO.below {w w' : World} {lo g n sg k : Nat} {N : Nat → ByteArray} {ms : Nat → Nat} {ds : Nat → Nat → Int} {S : Nat → Int} (h : PatO w lo g n N ms ds sg k S) (hb : Below w.heap.size w w') : PatO w' lo g n N ms ds sg k S := by
  obtain ⟨arr, G, h1, h2, h3⟩ := h.pcs
  exact ⟨⟨arr, G, h1.below hb, h2, h3⟩, h.seams.below hb⟩
theorem PatO.set {w : World} {lo g n sg k b o : Nat} {N : Nat → ByteArray} {ms : Nat → Nat} {ds : Nat → Nat → Int} {S : Nat → Int} {u : Value} (h : PatO w lo g n N ms ds sg k S) (hb : b < lo) : PatO (w.setCell ⟨b, o, none⟩ u) lo g n N ms ds sg k S := by
  obtain ⟨arr, G, h1, h2, h3⟩ := h.pcs
  exact ⟨⟨arr, G, h1.set hb, h2, h3⟩, h.seams.set (by have := h1.low; omega)⟩
theorem PatO.read {w : World} {lo g n sg k : Nat} {N : Nat → ByteArray} {ms : Nat → Nat} {ds : Nat → Nat → Int} {S : Nat → Int} (h : PatO w lo g n N ms ds sg k S) : PatR w (some ⟨g, 0, none⟩) n N ms ds (some ⟨sg, 0, none⟩) k S := by
  obtain ⟨arr, G, h1, h2, h3⟩ := h.pcs
  exact ⟨h1.pcs, Fi.at_nums h.seams⟩
theorem PcsO.low' {w : World} {lo lo' g n : Nat} {N : Nat → ByteArray} {ms : Nat → Nat} {ds : Nat → Nat → Int} {arr : Array Value} {G : Nat → Nat} (h : PcsO w lo g n N ms ds arr G) (hl : lo' ≤ lo) : PcsO w lo' g n N ms ds arr G :=
  ⟨Nat.le_trans hl h.low, h.blk, h.sz, h.cel, h.inn, h.apart⟩
theorem PatO.low' {w : World} {lo lo' g n sg k : Nat} {N : Nat → ByteArray} {ms : Nat → Nat} {ds : Nat → Nat → Int} {S : Nat → Int} (h : PatO w lo g n N ms ds sg k S) (hl : lo' ≤ lo) : PatO w lo' g n N ms ds sg k S := by
  obtain ⟨arr, G, h1, h2, h3⟩ := h.pcs
  exact ⟨⟨arr, G, h1.low' hl, h2, h3⟩, h.seams⟩
set_option maxRecDepth 100000 in
set_option maxHeartbeats 1000000 in
theorem to_pattern (A : Option Addr) (n c : Nat) (N : Nat → ByteArray) (ms : Nat → Nat) (ds : Nat → Nat → Int) (SA : Option Addr) (k sc : Nat) (S : Nat → Int) (o : Int) (hz : Small n N ms k) (w : World) (hA : PatR w A n N ms ds SA k S) :
    Calls Try.prog 52 #[paV A n c SA k sc o] w fun e w' => ∃ g sg, e = .returned (paV (some ⟨g, 0, none⟩) n n (some ⟨sg, 0, none⟩) k k o) ∧ w.heap.size ≤ g ∧ Hid (PatO w' w.heap.size g n N ms ds sg k S) ∧ Below w.heap.size w w' := by
  have HA := Lib.hid hA
  obtain ⟨hn, hk, hi⟩ := hz.at
  have HI := Lib.hid (fun i (hj : i < n) => (hi i hj).2)
  have C1 := Lib.hid (fun w h => to_pieces A n c N ms ds hn HI.out w h)
  have C2 := Lib.hid (fun w h => to_seams SA k sc S hk w h)
  obtain ⟨ka, kz, ko⟩ := three w (.cells #[.slice A n c, .slice SA k sc, .int .i64 o] 72) (.cells #[.slice none 0 0, .slice none 0 0, .int .i64 0] 79) (.cells #[.slice none 0 0, .slice none 0 0, .int .i64 0] 79)
  have KA := Lib.hid ka
  have KZ := Lib.hid kz
  have KO := Lib.hid ko
  have B3 := Lib.hid (below3 w (.cells #[.slice A n c, .slice SA k sc, .int .i64 o] 72) (.cells #[.slice none 0 0, .slice none 0 0, .int .i64 0] 79) (.cells #[.slice none 0 0, .slice none 0 0, .int .i64 0] 79))
  clear hA hz hn hk hi ka kz ko HI
  unfold paV
  go_enter Try.func52, Try.ntmps52
  go_wp2_with fail
  refine (C1.out _ (HA.out.below B3.out).pcs).mono ?_
  rintro e w1 ⟨g, arr, G, rfl, hg, HP, b1⟩
  have HB1 := Lib.hid (below_then B3.out b1)
  have KA1 := Lib.hid (blk_keep b1 KA.out)
  have KZ1 := Lib.hid (blk_keep b1 KZ.out)
  have KO1 := Lib.hid (blk_keep b1 KO.out)
  have hg3 : w.heap.size + 3 ≤ g := by simpa using hg
  have HP1 : Hid (PcsO w1 (w.heap.size + 3) g n N ms ds arr G) := Lib.hid (HP.out.low' (by simp))
  have lz := lt_of_heap KO1.out
  clear b1 C1 KA KZ KO B3 HP hg
  obtain ⟨x0, x1, x2⟩ := blk3 KA1.out
  obtain ⟨z0, z1, z2⟩ := blk3 KZ1.out
  obtain ⟨y0, y1, y2⟩ := blk3 KO1.out
  have fz := blk_free KZ1.out
  have fo := blk_free KO1.out
  have HBS : Hid (Below w.heap.size w (w1.setCell ⟨w.heap.size + 1 + 1, 0, none⟩ (.slice (some ⟨g, 0, none⟩) n n))) := Lib.hid (HB1.out.setCell (by simp; omega) _)
  have HPS : Hid (PcsO (w1.setCell ⟨w.heap.size + 1 + 1, 0, none⟩ (.slice (some ⟨g, 0, none⟩) n n)) (w.heap.size + 3) g n N ms ds arr G) := Lib.hid (HP1.out.set (by omega))
  have KAS : Hid ((w1.setCell ⟨w.heap.size + 1 + 1, 0, none⟩ (.slice (some ⟨g, 0, none⟩) n n)).heap[w.heap.size]? = some (.cells #[.slice A n c, .slice SA k sc, .int .i64 o] 72)) := Lib.hid ((Below.heap_setCell _ _ _ _ (by show w.heap.size ≠ w.heap.size + 1 + 1; omega)).trans KA1.out)
  have KZS : Hid ((w1.setCell ⟨w.heap.size + 1 + 1, 0, none⟩ (.slice (some ⟨g, 0, none⟩) n n)).heap[w.heap.size + 1]? = some (.cells #[.slice none 0 0, .slice none 0 0, .int .i64 0] 79)) := Lib.hid ((Below.heap_setCell _ _ _ _ (by simp)).trans KZ1.out)
  have KOS : Hid ((w1.setCell ⟨w.heap.size + 1 + 1, 0, none⟩ (.slice (some ⟨g, 0, none⟩) n n)).heap[w.heap.size + 1 + 1]? = some (.cells #[.slice (some ⟨g, 0, none⟩) n n, .slice none 0 0, .int .i64 0] 79)) := Lib.hid (heap_set KO1.out 0 _)
  go_wp2_with fail
  clear x0 x1 x2 y0 y1 y2 z0 z1 z2 fz fo
  generalize hw2 : w1.setCell ⟨w.heap.size + 1 + 1, 0, none⟩ (.slice (some ⟨g, 0, none⟩) n n) = w2 at HBS HPS KAS KZS KOS ⊢
  clear hw2 HB1 HP1 KA1 KZ1 KO1 lz
  refine (C2.out _ (HA.out.below HBS.out).seams).mono ?_
  rintro e w3 ⟨sg, rfl, hsg, HT, b3⟩
  have HB3 := Lib.hid (below_then HBS.out b3)
  have KA3 := Lib.hid (blk_keep b3 KAS.out)
  have KZ3 := Lib.hid (blk_keep b3 KZS.out)
  have KO3 := Lib.hid (blk_keep b3 KOS.out)
  have lz := lt_of_heap KO3.out
  have lz2 := lt_of_heap KOS.out
  have hgs := lt_of_heap HPS.out.blk
  have HPA : Hid (PatO w3 (w.heap.size + 3) g n N ms ds sg k S) := Lib.hid ⟨⟨arr, G, HPS.out.below b3, by omega, fun i hi => by have := (HPS.out.inn i hi).1.1; omega⟩, HT.out⟩
  clear b3 C2 KAS KZS KOS HBS HPS HT
  obtain ⟨x0, x1, x2⟩ := blk3 KA3.out
  obtain ⟨z0, z1, z2⟩ := blk3 KZ3.out
  obtain ⟨y0, y1, y2⟩ := blk3 KO3.out
  have fz := blk_free KZ3.out
  have fo := blk_free KO3.out
  have KF : Hid ((((((w3.setCell ⟨w.heap.size + 1 + 1, 1, none⟩ (.slice (some ⟨sg, 0, none⟩) k k)).setCell ⟨w.heap.size + 1 + 1, 2, none⟩ (.int .i64 o)).setCell ⟨w.heap.size + 1, 0, none⟩ (.slice (some ⟨g, 0, none⟩) n n)).setCell ⟨w.heap.size + 1, 1, none⟩ (.slice (some ⟨sg, 0, none⟩) k k)).setCell ⟨w.heap.size + 1, 2, none⟩ (.int .i64 o)).heap[w.heap.size + 1]? = some (.cells #[.slice (some ⟨g, 0, none⟩) n n, .slice (some ⟨sg, 0, none⟩) k k, .int .i64 o] 79 (0, 0))) :=
    Lib.hid (heap_set (heap_set (heap_set ((Below.heap_setCell _ _ _ _ (by simp)).trans ((Below.heap_setCell _ _ _ _ (by simp)).trans KZ3.out)) 0 _) 1 _) 2 _)
  have HPF : Hid (PatO (((((w3.setCell ⟨w.heap.size + 1 + 1, 1, none⟩ (.slice (some ⟨sg, 0, none⟩) k k)).setCell ⟨w.heap.size + 1 + 1, 2, none⟩ (.int .i64 o)).setCell ⟨w.heap.size + 1, 0, none⟩ (.slice (some ⟨g, 0, none⟩) n n)).setCell ⟨w.heap.size + 1, 1, none⟩ (.slice (some ⟨sg, 0, none⟩) k k)).setCell ⟨w.heap.size + 1, 2, none⟩ (.int .i64 o)) w.heap.size g n N ms ds sg k S) := Lib.hid ((((((HPA.out.set (by omega)).set (by omega)).set (by omega)).set (by omega)).set (by omega)).low' (by omega))
  have HBF : Hid (Below w.heap.size w (((((w3.setCell ⟨w.heap.size + 1 + 1, 1, none⟩ (.slice (some ⟨sg, 0, none⟩) k k)).setCell ⟨w.heap.size + 1 + 1, 2, none⟩ (.int .i64 o)).setCell ⟨w.heap.size + 1, 0, none⟩ (.slice (some ⟨g, 0, none⟩) n n)).setCell ⟨w.heap.size + 1, 1, none⟩ (.slice (some ⟨sg, 0, none⟩) k k)).setCell ⟨w.heap.size + 1, 2, none⟩ (.int .i64 o))) := Lib.hid (((((HB3.out.setCell (by simp; omega) _).setCell (by simp; omega) _).setCell (by simp) _).setCell (by simp) _).setCell (by simp) _)
  go_wp2_with fail
  generalize ((((w3.setCell ⟨w.heap.size + 1 + 1, 1, none⟩ (.slice (some ⟨sg, 0, none⟩) k k)).setCell ⟨w.heap.size + 1 + 1, 2, none⟩ (.int .i64 o)).setCell ⟨w.heap.size + 1, 0, none⟩ (.slice (some ⟨g, 0, none⟩) n n)).setCell ⟨w.heap.size + 1, 1, none⟩ (.slice (some ⟨sg, 0, none⟩) k k)).setCell ⟨w.heap.size + 1, 2, none⟩ (.int .i64 o) = wf at KF HPF HBF ⊢
  clear x0 x1 x2 y0 y1 y2 z0 z1 z2 fz fo
  obtain ⟨z0, z1, z2⟩ := blk3 KF.out
  exact bodyPost_ret (v := paV (some ⟨g, 0, none⟩) n n (some ⟨sg, 0, none⟩) k k o) (by simp [results, Try.results52, go_sem, z0, z1, z2]) rfl ⟨g, sg, rfl, by omega, HPF, HBF.out⟩
end Go.Proofs.Ytpmmfalpcooenab.Pt
