/- Lists of lasts: how they read in memory; the law's measure, copy and comparison of them. -/
import Derived.Test.YtaoknbhpjnileabLaLib
import Derived.Deep.Slices
import Derived.Deep.Fields
import Derived.ChangeSame
namespace Go.Proofs.Ytaoknbhpjnileab.Ll
open Go.RowKit Go.ChangeShapes Go.WideShapes Go.Deep Ft Ge Qb La

/-- A slice of n lasts with the names N and the numbers F, below block B. -/
def Lasts (w : World) (B : Nat) (A : Option Addr) (n : Nat) (N : Nat → ByteArray) (F : Nat → Nat → Int) : Prop :=
  n ≤ maxLen ∧ (∀ i, i < n → (N i).size ≤ maxLen) ∧
  (0 < n → ∃ b off, A = some ⟨b, off, none⟩ ∧ b < B ∧ ∀ i, i < n → w.cell? ⟨b, off + i * 6, none⟩ = some (.string (N i)) ∧ ∀ j, j < 5 → w.cell? ⟨b, off + i * 6 + (j + 1), none⟩ = some (.int .i64 (F i j)))
theorem Lasts.below {w w' : World} {B B' n : Nat} {A : Option Addr} {N : Nat → ByteArray} {F : Nat → Nat → Int} (h : Lasts w B A n N F) (hb : Below B' w w') (hB : B ≤ B') : Lasts w' B A n N F :=
  ⟨h.1, h.2.1, fun hn => by
    obtain ⟨b, off, rfl, hlt, hc⟩ := h.2.2 hn
    exact ⟨b, off, rfl, hlt, fun i hi => ⟨(hb.cell (p := ⟨b, off + i * 6, none⟩) (by show b < B'; omega)).trans (hc i hi).1, fun j hj => (hb.cell (p := ⟨b, off + i * 6 + (j + 1), none⟩) (by show b < B'; omega)).trans ((hc i hi).2 j hj)⟩⟩⟩
theorem Lasts.more {w : World} {B B' n : Nat} {A : Option Addr} {N : Nat → ByteArray} {F : Nat → Nat → Int} (h : Lasts w B A n N F) (hB : B ≤ B') : Lasts w B' A n N F :=
  ⟨h.1, h.2.1, fun hn => by
    obtain ⟨b, off, rfl, hlt, hc⟩ := h.2.2 hn
    exact ⟨b, off, rfl, by omega, hc⟩⟩
/-- The cells of element k, in the walk's spelling. -/
theorem Lasts.cells {w : World} {n b off : Nat} {N : Nat → ByteArray} {F : Nat → Nat → Int} (hc : ∀ i, i < n → w.cell? ⟨b, off + i * 6, none⟩ = some (.string (N i)) ∧ ∀ j, j < 5 → w.cell? ⟨b, off + i * 6 + (j + 1), none⟩ = some (.int .i64 (F i j))) {k : Nat} (hk : k < n) :
    w.cell? ⟨b, off + k * 6, none⟩ = some (.string (N k)) ∧ w.cell? ⟨b, off + k * 6 + 1, none⟩ = some (.int .i64 (F k 0)) ∧ w.cell? ⟨b, off + k * 6 + 2, none⟩ = some (.int .i64 (F k 1)) ∧ w.cell? ⟨b, off + k * 6 + 3, none⟩ = some (.int .i64 (F k 2)) ∧ w.cell? ⟨b, off + k * 6 + 4, none⟩ = some (.int .i64 (F k 3)) ∧ w.cell? ⟨b, off + k * 6 + 5, none⟩ = some (.int .i64 (F k 4)) :=
  ⟨(hc k hk).1, (hc k hk).2 0 (by omega), (hc k hk).2 1 (by omega), (hc k hk).2 2 (by omega), (hc k hk).2 3 (by omega), (hc k hk).2 4 (by omega)⟩

theorem lasts_of_trod {H : Type} {enc : TypeId × Value → H} {P : Program} {w : World} {t e ts ti : TypeId} {fs : Array Field} {n c : Nat} {A : Option Addr} {d : DataW H} {p : List MemPlace}
    (ht : P.underlying t = some (.slice e)) (he : P.underlying e = some (.struct fs)) (hone : oneCellFields P fs = true) (hC : P.cellsOf e = 6) (hfs : fs.size = 6) (h0 : ∀ f : Field, fs[0]? = some f → f.type = ts) (hall : ∀ (j : Nat) (f : Field), 0 < j → fs[j]? = some f → f.type = ti)
    (hs : P.underlying ts = some .string) (hu : P.underlying ti = some (.int .i64)) (h : DataW.Trod enc P w 0 (fun _ => true) true t (.slice A n c) d p) : ∃ N F, Lasts w w.heap.size A n N F := by
  obtain ⟨fuel, hf⟩ := h
  have hf' : DataW.trod enc P w 0 (fun _ => true) true fuel t [.slice A n c] = some (d, p) := by simpa [Value.cells] using hf
  rcases Go.Deep.open_slice ht hf' with ⟨hcs, _⟩ | ⟨a, len, cap, m, n', D, Pl, hcs, _, hl, hm, hmm, _, hi⟩
  · simp at hcs
    obtain ⟨_, rfl, _⟩ := hcs
    exact ⟨fun _ => ByteArray.empty, fun _ _ => 0, by simp [maxLen], fun i hi => by omega, fun h => by omega⟩
  · simp at hcs
    obtain ⟨rfl, rfl, rfl⟩ := hcs
    simp at hmm
    subst hmm
    have key : ∀ i, i < n → (∃ s : ByteArray, w.cell? (a.add (i * 6)) = some (.string s) ∧ s.size ≤ maxLen) ∧ ∀ j, j < 5 → ∃ v : Int, w.cell? (a.add (i * 6 + (j + 1))) = some (.int .i64 v) := by
      intro i hin
      obtain ⟨cs', hc, ht'⟩ := hi i (by omega)
      rw [hC] at hc
      obtain ⟨xs, m', _, _, hlen, hxl, hfld⟩ := DataW.trod_struct he ht'
      obtain ⟨_, hcl, hat⟩ := World.cells?_some hc
      refine ⟨?_, fun j hj => ?_⟩
      · have hjf : 0 < fs.size := by omega
        have hfj : fs[0]? = some (fs[0]'hjf) := Array.getElem?_eq_getElem hjf
        obtain ⟨ho, hk⟩ := hone_of hone 0 _ hfj
        have hx := hfld 0 _ hfj
        rw [ho, hk, h0 _ hfj, List.getElem?_eq_getElem (by omega)] at hx
        obtain ⟨v, hv, _, hsz⟩ := DataW.trod_string hs hx
        refine ⟨v, ?_, hsz⟩
        have h2 := hat 0 (by omega)
        have h3 := congrArg (fun l : List Value => l[0]?) hv
        rw [show a.add (i * 6) = (a.add (i * 6)).add 0 by cases a; simp [Addr.add]]
        rw [h2]
        simpa using h3
      · have hjf : j + 1 < fs.size := by omega
        have hfj : fs[j + 1]? = some (fs[j + 1]'hjf) := Array.getElem?_eq_getElem hjf
        obtain ⟨ho, hk⟩ := hone_of hone (j + 1) _ hfj
        have hx := hfld (j + 1) _ hfj
        rw [ho, hk, hall (j + 1) _ (by omega) hfj, List.getElem?_eq_getElem (by omega)] at hx
        obtain ⟨v, hv, _, _⟩ := DataW.trod_int hu hx
        refine ⟨v, ?_⟩
        rw [← Go.Deep.add_add, hat (j + 1) (by omega)]
        have := congrArg (fun l : List Value => l[0]?) hv
        simpa using this
    by_cases hn0 : 0 < n
    · obtain ⟨⟨s, hv, _⟩, _⟩ := key 0 hn0
      have hlt := World.block_lt_of_cell? w _ hv
      have hsp := World.cell?_spot hv
      obtain ⟨b, off, spot⟩ := a
      have hspot : spot = none := by simpa [Addr.add] using hsp
      subst hspot
      let N : Nat → ByteArray := fun i => match w.cell? ⟨b, off + i * 6, none⟩ with | some (.string s) => s | _ => ByteArray.empty
      let F : Nat → Nat → Int := fun i j => match w.cell? ⟨b, off + i * 6 + (j + 1), none⟩ with | some (.int .i64 v) => v | _ => 0
      have hN : ∀ i, i < n → w.cell? ⟨b, off + i * 6, none⟩ = some (.string (N i)) ∧ (N i).size ≤ maxLen := by
        intro i hin
        obtain ⟨⟨s, hv, hsz⟩, _⟩ := key i hin
        have hv' : w.cell? ⟨b, off + i * 6, none⟩ = some (.string s) := by rw [Ge.add_eq] at hv; exact hv
        have : N i = s := by simp [N, hv']
        rw [this]
        exact ⟨hv', hsz⟩
      have hF : ∀ i, i < n → ∀ j, j < 5 → w.cell? ⟨b, off + i * 6 + (j + 1), none⟩ = some (.int .i64 (F i j)) := by
        intro i hin j hj
        obtain ⟨v, hv⟩ := (key i hin).2 j hj
        have hv' : w.cell? ⟨b, off + i * 6 + (j + 1), none⟩ = some (.int .i64 v) := by rw [Ge.add_eq, ← Nat.add_assoc] at hv; exact hv
        have : F i j = v := by simp [F, hv']
        rw [this]
        exact hv'
      exact ⟨N, F, by omega, fun i hi => (hN i hi).2, fun _ => ⟨b, off, rfl, by simpa [Addr.add] using hlt, fun i hi => ⟨(hN i hi).1, hF i hi⟩⟩⟩
    · exact ⟨fun _ => ByteArray.empty, fun _ _ => 0, by omega, fun i hi => by omega, fun h => absurd h hn0⟩

theorem info_last : (Try.prog.info? 33).map (fun i => (i.zero, i.size, i.bytes)) = some (some (.agg #[.string ByteArray.empty, .int .i64 0, .int .i64 0, .int .i64 0, .int .i64 0, .int .i64 0]), 6, 56) := by kernel_rfl
/-- The cells of a row of lasts. -/
def Arr (arr : Array Value) (n k : Nat) (N : Nat → ByteArray) (F : Nat → Nat → Int) : Prop := arr.size = n * 6 ∧ ∀ i, i < k → arr[i * 6]? = some (.string (N i)) ∧ ∀ j, j < 5 → arr[i * 6 + (j + 1)]? = some (.int .i64 (F i j))
theorem arr_set {arr : Array Value} {n k : Nat} {N : Nat → ByteArray} {F : Nat → Nat → Int} (h : Arr arr n k N F) (hk : k < n) :
    Arr ((((((arr.setIfInBounds (k * 6) (.string (N k))).setIfInBounds (k * 6 + 1) (.int .i64 (F k 0))).setIfInBounds (k * 6 + 2) (.int .i64 (F k 1))).setIfInBounds (k * 6 + 3) (.int .i64 (F k 2))).setIfInBounds (k * 6 + 4) (.int .i64 (F k 3))).setIfInBounds (k * 6 + 5) (.int .i64 (F k 4))) n (k + 1) N F := by
  obtain ⟨hs, h⟩ := h
  refine ⟨by simpa using hs, fun i hi => ?_⟩
  simp only [Array.getElem?_setIfInBounds, Array.size_setIfInBounds]
  by_cases hik : i = k
  · subst hik
    refine ⟨by repeat (first | rw [if_pos (by omega)] | rw [if_neg (by omega)]), fun j hj => ?_⟩
    obtain rfl | rfl | rfl | rfl | rfl : j = 0 ∨ j = 1 ∨ j = 2 ∨ j = 3 ∨ j = 4 := by omega
    all_goals
      repeat (first | rw [if_pos (by omega)] | rw [if_neg (by omega)])
  · refine ⟨?_, fun j hj => ?_⟩
    · rw [if_neg (by omega), if_neg (by omega), if_neg (by omega), if_neg (by omega), if_neg (by omega), if_neg (by omega)]
      exact (h i (by omega)).1
    · rw [if_neg (by omega), if_neg (by omega), if_neg (by omega), if_neg (by omega), if_neg (by omega), if_neg (by omega)]
      exact (h i (by omega)).2 j hj
/-- What a copy leaves: a new row with the same lasts, and its block. -/
def Copied (w : World) (n : Nat) (N : Nat → ByteArray) (F : Nat → Nat → Int) (e : Ending) (w' : World) : Prop :=
  ∃ g arr, e = .returned (.slice (some ⟨g, 0, none⟩) n n) ∧ w.heap.size ≤ g ∧ Below w.heap.size w w' ∧ Hid (w'.heap[g]? = some (.cells arr 33 (0, 0))) ∧ Hid (Arr arr n n N F)
theorem lasts_of_copy {w w' : World} {B n g : Nat} {A : Option Addr} {N : Nat → ByteArray} {F : Nat → Nat → Int} {arr : Array Value} (h : Lasts w B A n N F) (hb : w'.heap[g]? = some (.cells arr 33 (0, 0))) (ha : Arr arr n n N F) : Lasts w' w'.heap.size (some ⟨g, 0, none⟩) n N F :=
  ⟨h.1, h.2.1, fun _ => ⟨g, 0, rfl, lt_of_heap hb, fun i hi => ⟨by rw [Nat.zero_add, cell_of_row _ _ _ _ _ _ hb]; exact (ha.2 i hi).1, fun j hj => by rw [Nat.zero_add, cell_of_row _ _ _ _ _ _ hb]; exact (ha.2 i hi).2 j hj⟩⟩⟩
theorem to_lasts (A : Option Addr) (n c : Nat) (N : Nat → ByteArray) (F : Nat → Nat → Int) (hn : n ≤ 1048576) (w : World) (hA : Lasts w w.heap.size A n N F) : Calls Try.prog 25 #[.slice A n c] w (Copied w n N F) := by
  obtain ⟨i0, hi, hz0, hz1, hz2⟩ := info_parts info_last
  have hmk : (Instr.makeSlice 47 (.int .i64 (n : Int)) (.int .i64 (n : Int))).run Try.prog w = _ := run_make w _ _ i0 _ Try.underlying47 hi hz0 .i64 .i64 n n (by omega) (by omega) (by rw [hz2]; omega) (by omega)
  rw [hz1] at hmk
  simp only [Int.toNat_natCast] at hmk
  have HA := Lib.hid hA
  clear hA hz0 hz1 hz2 hi
  go_enter Try.func25, Try.ntmps25
  go_wp2_with fail
  clear hmk
  go_loopw [4] (fun i wr => ∃ (k : Nat) (arr : Array Value), k ≤ n ∧ i = .int .i64 k ∧ Below w.heap.size w wr ∧ Hid (wr.heap[w.heap.size]? = some (.cells arr 33 (0, 0))) ∧ Hid (Arr arr n k N F)) (fun i _ => n - (intOf i).toNat)
  case atStart => exact ⟨0, _, Nat.zero_le _, rfl, below_box _ _, Lib.hid (heap_alloc_new _ _), Lib.hid ⟨size_madeCells _ _, fun i hi => by omega⟩⟩
  case round =>
    obtain ⟨k, arr, hk, rfl, hbel, hblk, harr⟩ := hrel
    by_cases hlt : k < n
    · obtain ⟨b, off, rfl, hb, hc⟩ := (HA.out.below hbel (Nat.le_refl _)).2.2 (by omega)
      obtain ⟨x0, x1, x2, x3, x4, x5⟩ := Lasts.cells hc hlt
      have C := Lib.hid (fun w => to_last (N k) (F k) w)
      have HB := Lib.hid hbel
      clear hbel hc hk
      go_wp2_with fail
      refine (C.out _).mono ?_
      rintro e w1 ⟨rfl, b1⟩
      have hblk1 := Lib.hid (blk_keep b1 hblk.out)
      have hb1 := Lib.hid (HB.out.trans (b1.mono HB.out.size))
      have hold : ∀ j, j < 6 → ∃ v, w1.cell? ⟨w.heap.size, k * 6 + j, none⟩ = some v := fun j hj => ⟨arr[k * 6 + j]'(by have := harr.out.1; omega), by
        rw [cell_of_row _ _ _ _ _ _ hblk1.out]; exact Array.getElem?_eq_getElem _⟩
      obtain ⟨v0, y0⟩ := hold 0 (by omega)
      obtain ⟨v1, y1⟩ := hold 1 (by omega)
      obtain ⟨v2, y2⟩ := hold 2 (by omega)
      obtain ⟨v3, y3⟩ := hold 3 (by omega)
      obtain ⟨v4, y4⟩ := hold 4 (by omega)
      obtain ⟨v5, y5⟩ := hold 5 (by omega)
      simp only [Nat.add_zero] at y0
      have hfr : ∀ i, w1.frozen? ⟨w.heap.size, i, none⟩ = false := fun i => blk_free hblk1.out i
      clear hold x0 x1 x2 x3 x4 x5 b1
      go_wp2_with fail
      have e6 := Lib.hid (arr_set harr.out hlt)
      go_roundw
      case rel =>
        refine ⟨k + 1, _, by omega, by go_num, ?_, Lib.hid (heap_set (heap_set (heap_set (heap_set (heap_set (heap_set hblk1.out _ _) _ _) _ _) _ _) _ _) _ _), e6⟩
        exact (((((hb1.out.setCell (Nat.le_refl _) _).setCell (Nat.le_refl _) _).setCell (Nat.le_refl _) _).setCell (Nat.le_refl _) _).setCell (Nat.le_refl _) _).setCell (Nat.le_refl _) _
      case measure => simp [intOf]; omega
    · obtain rfl : k = n := by omega
      have HF : Hid (Copied w k N F (.returned (.slice (some ⟨w.heap.size, 0, none⟩) k k)) wr) := Lib.hid ⟨_, _, rfl, Nat.le_refl _, hbel, hblk, harr⟩
      clear hbel
      go_wp2_with fail
      go_ret
      exact HF.out

/-- The law's measure of a list: less than nothing, or what is left, where the list is not long. -/
theorem sz_lasts (A : Option Addr) (n c : Nat) (N : Nat → ByteArray) (F : Nat → Nat → Int) (l : Int) (hl0 : 0 ≤ l) (hl : l ≤ 1048576) (w : World) (hA : Lasts w w.heap.size A n N F) :
    Calls Try.prog 23 #[.slice A n c, .int .i64 l] w fun e w' => ∃ r : Int, e = .returned (.int .i64 r) ∧ -1 ≤ r ∧ r ≤ 1048576 ∧ (0 ≤ r → n ≤ 1048576) ∧ Below w.heap.size w w' := by
  have hm := hA.1
  unfold maxLen at hm
  by_cases hbig : l < n
  · have h0 : l - n < 0 := by omega
    clear hA
    go_enter Try.func23, Try.ntmps23
    go_wp2_with fail
    go_ret
    exact ⟨-1, rfl, by omega, by omega, by omega, Below.refl _ _⟩
  have h0 : ¬ l - n < 0 := by omega
  have hn : n ≤ 1048576 := by omega
  have HA := Lib.hid hA
  clear hA hm
  go_enter Try.func23, Try.ntmps23
  go_wp2_with fail
  go_loopw [1, 5] (fun s i wr => ∃ (k : Nat) (r : Int), k ≤ n ∧ i = .int .i64 k ∧ s = .int .i64 r ∧ 0 ≤ r ∧ r ≤ 1048576 ∧ Below w.heap.size w wr) (fun _ i _ => n - (intOf i).toNat)
  case atStart => exact ⟨0, l - n, Nat.zero_le _, rfl, rfl, by omega, by omega, Below.refl _ _⟩
  case round =>
    obtain ⟨k, r, hk, rfl, rfl, hr0, hr1, hbel⟩ := hrel
    have HB := Lib.hid hbel
    by_cases hlt : k < n
    · obtain ⟨b, off, rfl, hb, hc⟩ := (HA.out.below hbel (Nat.le_refl _)).2.2 (by omega)
      obtain ⟨x0, x1, x2, x3, x4, x5⟩ := Lasts.cells hc hlt
      have hsz := HA.out.2.1 k hlt
      clear hbel hc hk
      by_cases hs : ((N k).size : Int) ≤ r
      · have C := Lib.hid (fun w => sz_last (N k) (F k) r hs hr1 w)
        have p1 : 0 ≤ r - ((N k).size : Int) := by omega
        have p2 : r - ((N k).size : Int) ≤ 1048576 := by omega
        have p3 : ¬ r - ((N k).size : Int) < 0 := by omega
        generalize r - ((N k).size : Int) = r' at C p1 p2 p3
        go_wp2_with fail
        refine (C.out _).mono ?_
        rintro e w1 ⟨rfl, b1⟩
        have HQ := Lib.hid (HB.out.trans (b1.mono HB.out.size))
        clear b1 x0 x1 x2 x3 x4 x5
        go_wp2_with fail
        go_roundw
        case rel => exact ⟨k + 1, r', by omega, by go_num, rfl, p1, p2, HQ.out⟩
        case measure => simp [intOf]; omega
      · have C := Lib.hid (fun w => sz_last_big (N k) (F k) r (by omega) hsz hr0 hr1 w)
        go_wp2_with fail
        refine (C.out _).mono ?_
        rintro e w1 ⟨rfl, b1⟩
        have HQ := Lib.hid (HB.out.trans (b1.mono HB.out.size))
        clear b1 x0 x1 x2 x3 x4 x5
        go_wp2_with fail
        go_ret
        exact ⟨-1, rfl, by omega, by omega, by omega, HQ.out⟩
    · go_wp2_with fail
      go_ret
      exact ⟨r, rfl, by omega, by omega, fun _ => hn, HB.out⟩

set_option maxRecDepth 100000 in
/-- Rows that hold the same lasts are equal. -/
theorem eq_lasts (A1 A2 : Option Addr) (n c1 c2 : Nat) (N : Nat → ByteArray) (F : Nat → Nat → Int) (hn : n ≤ 1048576) (w : World) (h1 : Lasts w w.heap.size A1 n N F) (h2 : Lasts w w.heap.size A2 n N F) :
    Calls Try.prog 28 #[.slice A1 n c1, .slice A2 n c2] w fun e w' => e = .returned (.bool true) ∧ Below w.heap.size w w' := by
  have H1 := Lib.hid h1
  have H2 := Lib.hid h2
  clear h1 h2
  go_enter Try.func28, Try.ntmps28
  go_wp2_with fail
  go_loopw [5] (fun i wr => ∃ k : Nat, k ≤ n ∧ i = .int .i64 k ∧ Below w.heap.size w wr) (fun i _ => n - (intOf i).toNat)
  case atStart => exact ⟨0, Nat.zero_le _, rfl, Below.refl _ _⟩
  case round =>
    obtain ⟨k, hk, rfl, hbel⟩ := hrel
    have HB := Lib.hid hbel
    by_cases hlt : k < n
    · obtain ⟨b1, off1, rfl, hb1, hc1⟩ := (H1.out.below hbel (Nat.le_refl _)).2.2 (by omega)
      obtain ⟨b2, off2, rfl, hb2, hc2⟩ := (H2.out.below hbel (Nat.le_refl _)).2.2 (by omega)
      obtain ⟨x0, x1, x2, x3, x4, x5⟩ := Lasts.cells hc1 hlt
      obtain ⟨y0, y1, y2, y3, y4, y5⟩ := Lasts.cells hc2 hlt
      have x0 := bey_cell x0
      have x1 := bey_cell x1
      have x2 := bey_cell x2
      have x3 := bey_cell x3
      have x4 := bey_cell x4
      have x5 := bey_cell x5
      have y0 := bey_cell y0
      have y1 := bey_cell y1
      have y2 := bey_cell y2
      have y3 := bey_cell y3
      have y4 := bey_cell y4
      have y5 := bey_cell y5
      have C := Lib.hid (fun w => eq_last_same (N k) (F k) w)
      have e0 : (0 : Int) ≤ (k : Int) := Int.natCast_nonneg _
      have e1 : (k : Int) < (n : Int) := by omega
      clear hc1 hc2 hbel hk
      go_wp2_with fail
      refine wp_region_below (by kernel_rfl) (by kernel_rfl) ?_
      repeat (go_big_quiet_step ((go_at_call 65; exact bey_of _ (C.out _))))
      refine wpQuiet_nil ?_
      rintro _ ⟨pq, rfl⟩
      have HQ := Lib.hid (HB.out.trans (pq.h.mono HB.out.size))
      generalize pq.to = wq at HQ ⊢
      clear x0 x1 x2 x3 x4 x5 y0 y1 y2 y3 y4 y5
      go_wp2_with fail
      go_roundw
      case rel => exact ⟨k + 1, by omega, by go_num, HQ.out⟩
      case measure => simp [intOf]; omega
    · go_wp2_with fail
      go_ret
      exact ⟨rfl, HB.out⟩
end Go.Proofs.Ytaoknbhpjnileab.Ll
