/- Lists of lasts: how they read in memory; the law's measure, copy and comparison of them. -/
import Derived.Test.YtaoknbhpjnileaaLaLib
import Derived.Deep.Slices
import Derived.Deep.Fields
import Derived.ChangeSame
namespace Go.Proofs.Ytaoknbhpjnileaa.Ll
open Go.RowKit Go.ChangeShapes Go.WideShapes Go.Deep Ft Ge Qb La

/-- A slice of n lasts with the names N and the numbers F, below block B. -/
def Lasts (w : World) (B : Nat) (A : Option Addr) (n : Nat) (N : Nat → ByteArray) (F : Nat → Nat → Int) : Prop :=
  n ≤ maxLen ∧ (∀ i, i < n → (N i).size ≤ maxLen) ∧
  (0 < n → ∃ b off, A = some ⟨b, off, none⟩ ∧ b < B ∧ ∀ i, i < n → w.cell? ⟨b, off + i * 6, none⟩ = some (.string (N i)) ∧ ∀ j, j < 5 → w.cell? ⟨b, off + i * 6 + (j + 1), none⟩ = some (.int .i64 (F i j)))
theorem Lasts.below {w w' : World} {B B' n : Nat} {A : Option Addr} {N : Nat → ByteArray} {F : Nat → Nat → Int} (h : Lasts w B A n N F) (hb : Below B' w w') (hB : B ≤ B') : Lasts w' B A n N F :=
  ⟨h.1, h.2.1, fun hn => by
    obtain ⟨b, off, rfl, hlt, hc⟩ := h.2.2 hn
    exact ⟨b, off, rfl, hlt, fun i hi => ⟨(hb.cell (p := ⟨b, off + i * 6, none⟩) (by show b < B'; omega)).trans (hc i hi).1, fun j hj => (hb.cell (p := ⟨b, off + i * 6 + (j + 1), none⟩) (by show b < B'; omega)).trans ((hc i hi).2 j hj)⟩⟩⟩
theorem Lasts.more {w : World} {B B' n : Nat} {A : Option Addr} {N : Nat → ByteArray} {F : Nat → Nat → Int} (h : Lasts w B A n N F) (hB : B ≤ B') : Lasts w B' A n N F :=
  ⟨h.1, h.2.1, fun hn => by
    obtain ⟨b, off, rfl, hlt, hc⟩ := h.2.2 hn
    exact ⟨b, off, rfl, by omega, hc⟩⟩
/-- The cells of element k, in the walk's spelling. -/
theorem Lasts.cells {w : World} {n b off : Nat} {N : Nat → ByteArray} {F : Nat → Nat → Int} (hc : ∀ i, i < n → w.cell? ⟨b, off + i * 6, none⟩ = some (.string (N i)) ∧ ∀ j, j < 5 → w.cell? ⟨b, off + i * 6 + (j + 1), none⟩ = some (.int .i64 (F i j))) {k : Nat} (hk : k < n) :
    w.cell? ⟨b, off + k * 6, none⟩ = some (.string (N k)) ∧ w.cell? ⟨b, off + k * 6 + 1, none⟩ = some (.int .i64 (F k 0)) ∧ w.cell? ⟨b, off + k * 6 + 2, none⟩ = some (.int .i64 (F k 1)) ∧ w.cell? ⟨b, off + k * 6 + 3, none⟩ = some (.int .i64 (F k 2)) ∧ w.cell? ⟨b, off + k * 6 + 4, none⟩ = some (.int .i64 (F k 3)) ∧ w.cell? ⟨b, off + k * 6 + 5, none⟩ = some (.int .i64 (F k 4)) :=
  ⟨(hc k hk).1, (hc k hk).2 0 (by omega), (hc k hk).2 1 (by omega), (hc k hk).2 2 (by omega), (hc k hk).2 3 (by omega), (hc k hk).2 4 (by omega)⟩

theorem lasts_of_trod {H : Type} {enc : TypeId × Value → H} {P : Program} {w : World} {t e ts ti : TypeId} {fs : Array Field} {n c : Nat} {A : Option Addr} {d : DataW H} {p : List MemPlace}
    (ht : P.underlying t = some (.slice e)) (he : P.underlying e = some (.struct fs)) (hone : oneCellFields P fs = true) (hC : P.cellsOf e = 6) (hfs : fs.size = 6) (h0 : ∀ f : Field, fs[0]? = some f → f.type = ts) (hall : ∀ (j : Nat) (f : Field), 0 < j → fs[j]? = some f → f.type = ti)
    (hs : P.underlying ts = some .string) (hu : P.underlying ti = some (.int .i64)) (h : DataW.Trod enc P w 0 (fun _ => true) true t (.slice A n c) d p) : ∃ N F, Lasts w w.heap.size A n N F := by
  obtain ⟨fuel, hf⟩ := h
  have hf' : DataW.trod enc P w 0 (fun _ => true) true fuel t [.slice A n c] = some (d, p) := by simpa [Value.cells] using hf
  rcases Go.Deep.open_slice ht hf' with ⟨hcs, _⟩ | ⟨a, len, cap, m, n', D, Pl, hcs, _, hl, hm, hmm, _, hi⟩
  · simp at hcs
    obtain ⟨_, rfl, _⟩ := hcs
    exact ⟨fun _ => ByteArray.empty, fun _ _ => 0, by simp [maxLen], fun i hi => by omega, fun h => by omega⟩
  · simp at hcs
    obtain ⟨rfl, rfl, rfl⟩ := hcs
    simp at hmm
    subst hmm
    have key : ∀ i, i < n → (∃ s : ByteArray, w.cell? (a.add (i * 6)) = some (.string s) ∧ s.size ≤ maxLen) ∧ ∀ j, j < 5 → ∃ v : Int, w.cell? (a.add (i * 6 + (j + 1))) = some (.int .i64 v) := by
      intro i hin
      obtain ⟨cs', hc, ht'⟩ := hi i (by omega)
      rw [hC] at hc
      obtain ⟨xs, m', _, _, hlen, hxl, hfld⟩ := DataW.trod_struct he ht'
      obtain ⟨_, hcl, hat⟩ := World.cells?_some hc
      refine ⟨?_, fun j hj => ?_⟩
      · have hjf : 0 < fs.size := by omega
        have hfj : fs[0]? = some (fs[0]'hjf) := Array.getElem?_eq_getElem hjf
        obtain ⟨ho, hk⟩ := hone_of hone 0 _ hfj
        have hx := hfld 0 _ hfj
        rw [ho, hk, h0 _ hfj, List.getElem?_eq_getElem (by omega)] at hx
        obtain ⟨v, hv, _, hsz⟩ := DataW.trod_string hs hx
        refine ⟨v, ?_, hsz⟩
        have h2 := hat 0 (by omega)
        have h3 := congrArg (fun l : List Value => l[0]?) hv
        rw [show a.add (i * 6) = (a.add (i * 6)).add 0 by cases a; simp [Addr.add]]
        rw [h2]
        simpa using h3
      · have hjf : j + 1 < fs.size := by omega
        have hfj : fs[j + 1]? = some (fs[j + 1]'hjf) := Array.getElem?_eq_getElem hjf
        obtain ⟨ho, hk⟩ := hone_of hone (j + 1) _ hfj
        have hx := hfld (j + 1) _ hfj
        rw [ho, hk, hall (j + 1) _ (by omega) hfj, List.getElem?_eq_getElem (by omega)] at hx
        obtain ⟨v, hv, _, _⟩ := DataW.trod_int hu hx
        refine ⟨v, ?_⟩
        rw [← Go.Deep.add_add, hat (j + 1) (by omega)]
        have := congrArg (fun l : List Value => l[0]?) hv
        simpa using this
    by_cases hn0 : 0 < n
    · obtain ⟨⟨s, hv, _⟩, _⟩ := key 0 hn0
      have hlt := World.block_lt_of_cell? w _ hv
      have hsp := World.cell?_spot hv
      obtain ⟨b, off, spot⟩ := a
      have hspot : spot = none := by simpa [Addr.add] using hsp
      subst hspot
      let N : Nat → ByteArray := fun i => match w.cell? ⟨b, off + i * 6, none⟩ with | some (.string s) => s | _ => ByteArray.empty
      let F : Nat → Nat → Int := fun i j => match w.cell? ⟨b, off + i * 6 + (j + 1), none⟩ with | some (.int .i64 v) => v | _ => 0
      have hN : ∀ i, i < n → w.cell? ⟨b, off + i * 6, none⟩ = some (.string (N i)) ∧ (N i).size ≤ maxLen := by
        intro i hin
        obtain ⟨⟨s, hv, hsz⟩, _⟩ := key i hin
        have hv' : w.cell? ⟨b, off + i * 6, none⟩ = some (.string s) := by rw [Ge.add_eq] at hv; exact hv
        have : N i = s := by simp [N, hv']
        rw [this]
        exact ⟨hv', hsz⟩
      have hF : ∀ i, i < n → ∀ j, j < 5 → w.cell? ⟨b, off + i * 6 + (j + 1), none⟩ = some (.int .i64 (F i j)) := by
        intro i hin j hj
        obtain ⟨v, hv⟩ := (key i hin).2 j hj
        have hv' : w.cell? ⟨b, off + i * 6 + (j + 1), none⟩ = some (.int .i64 v) := by rw [Ge.add_eq, ← Nat.add_assoc] at hv; exact hv
        have : F i j = v := by simp [F, hv']
        rw [this]
        exact hv'
      exact ⟨N, F, by omega, fun i hi => (hN i hi).2, fun _ => ⟨b, off, rfl, by simpa [Addr.add] using hlt, fun i hi => ⟨(hN i hi).1, hF i hi⟩⟩⟩
    · exact ⟨fun _ => ByteArray.empty, fun _ _ => 0, by omega, fun i hi => by omega, fun h => absurd h hn0⟩

theorem info_last : (Try.prog.info? 33).map (fun i => (i.zero, i.size, i.bytes)) = some (some (.agg #[.string ByteArray.empty, .int .i64 0, .int .i64 0, .int .i64 0, .int .i64 0, .int .i64 0]), 6, 56) := by kernel_rfl
/-- The cells of a row of lasts. -/
def Arr (arr : Array Value) (n k : Nat) (N : Nat → ByteArray) (F : Nat → Nat → Int) : Prop := arr.size = n * 6 ∧ ∀ i, i < k → arr[i * 6]? = some (.string (N i)) ∧ ∀ j, j < 5 → arr[i * 6 + (j + 1)]? = some (.int .i64 (F i j))
theorem arr_set {arr : Array Value} {n k : Nat} {N : Nat → ByteArray} {F : Nat → Nat → Int} (h : Arr arr n k N F) (hk : k < n) :
    Arr ((((((arr.setIfInBounds (k * 6) (.string (N k))).setIfInBounds (k * 6 + 1) (.int .i64 (F k 0))).setIfInBounds (k * 6 + 2) (.int .i64 (F k 1))).setIfInBounds (k * 6 + 3) (.int .i64 (F k 2))).setIfInBounds (k * 6 + 4) (.int .i64 (F k 3))).setIfInBounds (k * 6 + 5) (.int .i64 (F k 4))) n (k + 1) N F := by
  obtain ⟨hs, h⟩ := h
  refine ⟨by simpa using hs, fun i hi => ?_⟩
  simp only [Array.getElem?_setIfInBounds, Array.size_setIfInBounds]
  by_cases hik : i = k
  · subst hik
    refine ⟨by repeat (first | rw [if_pos (by omega)] | rw [if_neg (by omega)]), fun j hj => ?_⟩
    obtain rfl | rfl | rfl | rfl | rfl : j = 0 ∨ j = 1 ∨ j = 2 ∨ j = 3 ∨ j = 4 := by omega
    all_goals
      repeat (first | rw [if_pos (by omega)] | rw [if_neg (by omega)])
  · refine ⟨?_, fun j hj => ?_⟩
    · rw [if_neg (by omega), if_neg (by omega), if_neg (by omega), if_neg (by omega), if_neg (by omega), if_neg (by omega)]
      exact (h i (by omega)).1
    · rw [if_neg (by omega), if_neg (by omega), if_neg (by omega), if_neg (by omega), if_neg (by omega), if_neg (by omega)]
      exact (h i (by omega)).2 j hj
/-- What a copy leaves: a new row with the same lasts, and its block. -/
def Copied (w : World) (n : Nat) (N : Nat → ByteArray) (F : Nat → Nat → Int) (e : Ending) (w' : World) : Prop :=
  ∃ g arr, e = .returned (.slice (some ⟨g, 0, none⟩) n n) ∧ w.heap.size ≤ g ∧ Below w.heap.size w w' ∧ Hid (w'.heap[g]? = some (.cells arr 33 (0, 0))) ∧ Hid (Arr arr n n N F)
theorem lasts_of_copy {w w' : World} {B n g : Nat} {A : Option Addr} {N : Nat → ByteArray} {F : Nat → Nat → Int} {arr : Array Value} (h : Lasts w B A n N F) (hb : w'.heap[g]? = some (.cells arr 33 (0, 0))) (ha : Arr arr n n N F) : Lasts w' w'.heap.size (some ⟨g, 0, none⟩) n N F :=
  ⟨h.1, h.2.1, fun _ => ⟨g, 0, rfl, lt_of_heap hb, fun i hi => ⟨by rw [Nat.zero_add, cell_of_row _ _ _ _ _ _ hb]; exact (ha.2 i hi).1, fun j hj => by rw [Nat.zero_add, cell_of_row _ _ _ _ _ _ hb]; exact (ha.2 i hi).2 j hj⟩⟩⟩
end Go.Proofs.Ytaoknbhpjnileaa.Ll
