/- Slices of feet: how they read in memory; the law's measure, copy and comparison of them. -/
import Derived.Test.YtgclhkiiaclkgabFtLib
import Derived.Deep.Slices
import Derived.Deep.Fields
import Derived.ChangeSame
import Derived.Deep.RegionHeld3
import Derived.Deep.DeepFit
namespace Go.Proofs.Ytgclhkiiaclkgab.Fs
open Go.RowKit Go.ChangeShapes Go.WideShapes Go.Deep Ft

theorem lt_of_heap {w' : World} {g : Nat} {o : Obj} (h : w'.heap[g]? = some o) : g < w'.heap.size := (Array.getElem?_eq_some_iff.1 h).1
theorem heap_set {w : World} {g : Nat} {t : TypeId} {cs : Array Value} (h : w.heap[g]? = some (.cells cs t (0, 0))) (i : Nat) (u : Value) : (w.setCell ⟨g, i, none⟩ u).heap[g]? = some (.cells (cs.setIfInBounds i u) t (0, 0)) := by
  simp [World.setCell, Array.getElem?_modify, h]
theorem set4 {arr : Array Value} {n k : Nat} (hs : arr.size = n * 4) (hk : k < n) {F : Nat → Nat → Int} (h : ∀ i, i < k → ∀ j, j < 4 → arr[i * 4 + j]? = some (.int .i64 (F i j))) :
    ∀ i, i < k + 1 → ∀ j, j < 4 → ((((arr.setIfInBounds (k * 4) (.int .i64 (F k 0))).setIfInBounds (k * 4 + 1) (.int .i64 (F k 1))).setIfInBounds (k * 4 + 2) (.int .i64 (F k 2))).setIfInBounds (k * 4 + 3) (.int .i64 (F k 3)))[i * 4 + j]? = some (.int .i64 (F i j)) := by
  intro i hi j hj
  simp only [Array.getElem?_setIfInBounds, Array.size_setIfInBounds]
  by_cases hik : i = k
  · subst hik
    obtain rfl | rfl | rfl | rfl : j = 0 ∨ j = 1 ∨ j = 2 ∨ j = 3 := by omega
    all_goals
      repeat (first | rw [if_pos (by omega)] | rw [if_neg (by omega)])
  · rw [if_neg (by omega), if_neg (by omega), if_neg (by omega), if_neg (by omega)]
    exact h i (by omega) j hj

/-- A slice value of n elements of C integer cells each holds the numbers F i j, below block B. -/
def Ints (w : World) (B C : Nat) (A : Option Addr) (n : Nat) (F : Nat → Nat → Int) : Prop :=
  n ≤ maxLen ∧ (∀ i, i < n → ∀ j, j < C → (Lit.int .i64 (F i j)).wf = true) ∧
  (0 < n → ∃ b off, A = some ⟨b, off, none⟩ ∧ b < B ∧ ∀ i, i < n → ∀ j, j < C → w.cell? ⟨b, off + (i * C + j), none⟩ = some (.int .i64 (F i j)))

theorem add_eq (b off k : Nat) : (⟨b, off, none⟩ : Addr).add k = ⟨b, off + k, none⟩ := by
  unfold Addr.add
  split <;> simp_all
theorem ints_of_trod {H : Type} {enc : TypeId × Value → H} {P : Program} {w : World} {t e u : TypeId} {fs : Array Field} {C n c : Nat} {A : Option Addr} {d : DataW H} {p : List MemPlace}
    (ht : P.underlying t = some (.slice e)) (he : P.underlying e = some (.struct fs)) (hone : oneCellFields P fs = true) (hC : P.cellsOf e = C) (hC0 : 0 < C) (hfs : fs.size = C) (hall : ∀ (j : Nat) (f : Field), fs[j]? = some f → f.type = u)
    (hu : P.underlying u = some (.int .i64)) (h : DataW.Trod enc P w 0 (fun _ => true) true t (.slice A n c) d p) : ∃ F, Ints w w.heap.size C A n F := by
  obtain ⟨fuel, hf⟩ := h
  have hf' : DataW.trod enc P w 0 (fun _ => true) true fuel t [.slice A n c] = some (d, p) := by simpa [Value.cells] using hf
  rcases Go.Deep.open_slice ht hf' with ⟨hcs, _⟩ | ⟨a, len, cap, m, n', D, Pl, hcs, _, hl, hm, hmm, _, hi⟩
  · simp at hcs
    obtain ⟨_, rfl, _⟩ := hcs
    exact ⟨fun _ _ => 0, by simp [maxLen], fun i hi => by omega, fun h => by omega⟩
  · simp at hcs
    obtain ⟨rfl, rfl, rfl⟩ := hcs
    simp at hmm
    subst hmm
    have key : ∀ i, i < n → ∀ j, j < C → ∃ v : Int, w.cell? (a.add (i * C + j)) = some (.int .i64 v) ∧ (Lit.int .i64 v).wf = true := by
      intro i hin j hj
      obtain ⟨cs', hc, ht'⟩ := hi i (by omega)
      rw [hC] at hc
      obtain ⟨xs, m', _, _, hlen, hxl, hfld⟩ := DataW.trod_struct he ht'
      obtain ⟨_, hcl, hat⟩ := World.cells?_some hc
      have hjf : j < fs.size := by omega
      have hfj : fs[j]? = some (fs[j]'hjf) := Array.getElem?_eq_getElem hjf
      obtain ⟨ho, hk⟩ := hone_of hone j _ hfj
      have hx := hfld j _ hfj
      rw [ho, hk, hall j _ hfj, List.getElem?_eq_getElem (by omega)] at hx
      obtain ⟨v, hv, _, hwf⟩ := DataW.trod_int hu hx
      refine ⟨v, ?_, hwf⟩
      rw [← Go.Deep.add_add, hat j hj]
      have := congrArg (fun l : List Value => l[0]?) hv
      simpa using this
    by_cases h0 : 0 < n
    · obtain ⟨v, hv, _⟩ := key 0 h0 0 hC0
      have hlt := World.block_lt_of_cell? w _ hv
      have hsp := World.cell?_spot hv
      obtain ⟨b, off, spot⟩ := a
      have hspot : spot = none := by simpa [Addr.add] using hsp
      subst hspot
      let F : Nat → Nat → Int := fun i j => match w.cell? ⟨b, off + (i * C + j), none⟩ with | some (.int .i64 v) => v | _ => 0
      have hF : ∀ i, i < n → ∀ j, j < C → w.cell? ⟨b, off + (i * C + j), none⟩ = some (.int .i64 (F i j)) ∧ (Lit.int .i64 (F i j)).wf = true := by
        intro i hin j hj
        obtain ⟨v, hv, hwf⟩ := key i hin j hj
        have hv' : w.cell? ⟨b, off + (i * C + j), none⟩ = some (.int .i64 v) := by rw [add_eq] at hv; exact hv
        have : F i j = v := by simp [F, hv']
        rw [this]
        exact ⟨hv', hwf⟩
      exact ⟨F, by omega, fun i hi j hj => (hF i hi j hj).2, fun _ => ⟨b, off, rfl, by simpa [Addr.add] using hlt, fun i hi j hj => (hF i hi j hj).1⟩⟩
    · exact ⟨fun _ _ => 0, by omega, fun i hi => by omega, fun h => absurd h h0⟩

/-- What a copy leaves: a new row with the same numbers. -/
def Copied (w : World) (C n : Nat) (F : Nat → Nat → Int) (e : Ending) (w' : World) : Prop :=
  ∃ g, e = .returned (.slice (some ⟨g, 0, none⟩) n n) ∧ w.heap.size ≤ g ∧ g < w'.heap.size ∧ Below w.heap.size w w' ∧ ∀ i, i < n → ∀ j, j < C → w'.cell? ⟨g, i * C + j, none⟩ = some (.int .i64 (F i j))
/-- Two feet are equal. -/
def eq4 (a b : Nat → Int) : Bool := a 0 == b 0 && (a 1 == b 1 && (a 2 == b 2 && a 3 == b 3))
theorem Ints.below {w w' : World} {B B' C n : Nat} {A : Option Addr} {F : Nat → Nat → Int} (h : Ints w B C A n F) (hb : Below B' w w') (hB : B ≤ B') : Ints w' B C A n F :=
  ⟨h.1, h.2.1, fun hn => by
    obtain ⟨b, off, rfl, hlt, hc⟩ := h.2.2 hn
    exact ⟨b, off, rfl, hlt, fun i hi j hj => (hb.cell (p := ⟨b, off + (i * C + j), none⟩) (by show b < B'; omega)).trans (hc i hi j hj)⟩⟩
theorem Ints.more {w : World} {B B' C n : Nat} {A : Option Addr} {F : Nat → Nat → Int} (h : Ints w B C A n F) (hB : B ≤ B') : Ints w B' C A n F :=
  ⟨h.1, h.2.1, fun hn => by
    obtain ⟨b, off, rfl, hlt, hc⟩ := h.2.2 hn
    exact ⟨b, off, rfl, by omega, hc⟩⟩
/-- What was copied reads as its source. -/
theorem Ints.of_copy {w w' : World} {B C n g : Nat} {A : Option Addr} {F : Nat → Nat → Int} (h : Ints w B C A n F) (hg : g < w'.heap.size) (hc : ∀ i, i < n → ∀ j, j < C → w'.cell? ⟨g, i * C + j, none⟩ = some (.int .i64 (F i j))) : Ints w' w'.heap.size C (some ⟨g, 0, none⟩) n F :=
  ⟨h.1, h.2.1, fun _ => ⟨g, 0, rfl, hg, fun i hi j hj => by rw [Nat.zero_add]; exact hc i hi j hj⟩⟩
theorem eq4_self (a : Nat → Int) : eq4 a a = true := by simp [eq4]
/-- The cells of element k, in the walk's spelling. -/
theorem Ints.cells4 {w : World} {n b off : Nat} {F : Nat → Nat → Int} (hc : ∀ i, i < n → ∀ j, j < 4 → w.cell? ⟨b, off + (i * 4 + j), none⟩ = some (.int .i64 (F i j))) {k : Nat} (hk : k < n) :
    w.cell? ⟨b, off + k * 4, none⟩ = some (.int .i64 (F k 0)) ∧ w.cell? ⟨b, off + k * 4 + 1, none⟩ = some (.int .i64 (F k 1)) ∧ w.cell? ⟨b, off + k * 4 + 2, none⟩ = some (.int .i64 (F k 2)) ∧ w.cell? ⟨b, off + k * 4 + 3, none⟩ = some (.int .i64 (F k 3)) :=
  ⟨hc k hk 0 (by omega), hc k hk 1 (by omega), hc k hk 2 (by omega), hc k hk 3 (by omega)⟩

/-- What a function tells of something. -/
def Tells (P : Prop) (w : World) (e : Ending) (w' : World) : Prop := ∃ b : Bool, e = .returned (.bool b) ∧ (b = true ↔ P) ∧ Below w.heap.size w w'
theorem tells_yes {P : Prop} {w w' : World} (h : P) (hb : Below w.heap.size w w') : Tells P w (.returned (.bool true)) w' := ⟨true, rfl, by simp [h], hb⟩
theorem tells_no {P : Prop} {w w' : World} (h : ¬ P) (hb : Below w.heap.size w w') : Tells P w (.returned (.bool false)) w' := ⟨false, rfl, by simp [h], hb⟩
theorem tells_true {P : Prop} (h : P) {w w' : World} {e : Ending} (t : Tells P w e w') : e = .returned (.bool true) ∧ Below w.heap.size w w' := by
  obtain ⟨b, rfl, hb, hw⟩ := t
  cases b
  · exact absurd (hb.2 h) (by simp)
  · exact ⟨rfl, hw⟩
theorem tells_false {P : Prop} (h : ¬ P) {w w' : World} {e : Ending} (t : Tells P w e w') : e = .returned (.bool false) ∧ Below w.heap.size w w' := by
  obtain ⟨b, rfl, hb, hw⟩ := t
  cases b
  · exact ⟨rfl, hw⟩
  · exact absurd (hb.1 rfl) h
/-- Foot i of a list is valid. -/
def ftAt (F : Nat → Nat → Int) (i : Nat) : Bool := ftB (F i 0) (F i 1) (F i 2) (F i 3)
/-- A list of feet is valid. -/
def Okay (n : Nat) (F : Nat → Nat → Int) : Prop := n ≤ 30 ∧ ∀ i, i < n → ftAt F i = true
theorem not_okay {n : Nat} {F : Nat → Nat → Int} {k : Nat} (hk : k < n) (h : ftAt F k = false) : ¬ Okay n F := fun e => by rw [e.2 k hk] at h; cases h
theorem step_all {p : Nat → Bool} {k : Nat} (h : ∀ j, j < k → p j = true) (hk : p k = true) : ∀ j, j < k + 1 → p j = true := fun j hj => by
  by_cases e : j = k
  · rw [e]; exact hk
  · exact h j (by omega)

end Go.Proofs.Ytgclhkiiaclkgab.Fs
