/- Slices of texts, as a parameter of a law: how they read in memory; the law's measure, copy and marks of them. -/
import Derived.Test.YtongfgikkcieaaaTsLib
import Derived.Test.YtongfgikkcieaaaBwLib
import Derived.Test.YtongfgikkcieaaaQbLib
import Derived.Test.YtongfgikkcieaaaGeLib
namespace Go.Proofs.Ytongfgikkcieaaa.Tx
set_option linter.unusedVariables false
open Go.RowKit Go.ChangeShapes Go.WideShapes Go.Deep Ft Ge Qb Bw Ts

/-- A row of n texts f in block g, of the call's own. -/
def TAt (w : World) (g n : Nat) (f : Nat → ByteArray) : Prop := g < w.heap.size ∧ (∀ i, i < n → w.cell? ⟨g, i, none⟩ = some (.string (f i))) ∧ ∀ i, w.frozen? ⟨g, i, none⟩ = false
theorem TAt.below {w w' : World} {g n : Nat} {f : Nat → ByteArray} (h : TAt w g n f) (hb : Below w.heap.size w w') : TAt w' g n f :=
  ⟨Nat.lt_of_lt_of_le h.1 hb.size, fun i hi => (hb.cell (p := ⟨g, i, none⟩) h.1).trans (h.2.1 i hi), fun i => (hb.frozen (p := ⟨g, i, none⟩) h.1).trans (h.2.2 i)⟩
theorem TAt.texts {w : World} {g n : Nat} {f : Nat → ByteArray} (h : TAt w g n f) : Txts w w.heap.size (some ⟨g, 0, none⟩) n f := fun _ => ⟨g, 0, rfl, h.1, fun i hi => by rw [Nat.zero_add]; exact h.2.1 i hi⟩
theorem tat_but {g k n : Nat} {w w' : World} {f : Nat → ByteArray} (ho : TAt w k n f) (h : But g w w') (hg : k ≠ g) : TAt w' k n f :=
  ⟨Nat.lt_of_lt_of_le ho.1 h.size, fun i hi => h.cell hg (ho.2.1 i hi), fun i => (World.frozen?_of_block (a := ⟨k, i, none⟩) (h.block k ho.1 hg)).trans (ho.2.2 i)⟩
theorem txts_but {g B n : Nat} {w w' : World} {A : Option Addr} {f : Nat → ByteArray} (ho : Txts w B A n f) (h : But g w w') (hg : B ≤ g) : Txts w' B A n f := fun hn => by
  obtain ⟨b, off, rfl, hB, hc⟩ := ho hn
  exact ⟨b, off, rfl, hB, fun i hi => h.cell (by omega) (hc i hi)⟩
theorem ownt_but {g B n : Nat} {w w' : World} {A : Option Addr} {f : Nat → ByteArray} (ho : OwnT w B A n f) (h : But g w w') (hg : g < B) : OwnT w' B A n f := fun hn => by
  obtain ⟨b, off, rfl, hB, hlt, hc, hf⟩ := ho hn
  have hne : b ≠ g := by omega
  exact ⟨b, off, rfl, hB, Nat.lt_of_lt_of_le hlt h.size, fun i hi => h.cell hne (hc i hi), fun i => (World.frozen?_of_block (a := ⟨b, i, none⟩) (h.block b hlt hne)).trans (hf i)⟩
theorem ownt_later {w' : World} {B B' : Nat} {A : Option Addr} {n : Nat} {f : Nat → ByteArray} (h : OwnT w' B' A n f) (hs : B ≤ B') : OwnT w' B A n f := fun hp => by
  obtain ⟨b, off, e, h1, h2, h3, h4⟩ := h hp
  exact ⟨b, off, e, by omega, h2, h3, h4⟩
theorem texts_of_trod {H : Type} {enc : TypeId × Value → H} {P : Program} {w : World} {t e : TypeId} {n c : Nat} {A : Option Addr} {d : DataW H} {p : List MemPlace}
    (ht : P.underlying t = some (.slice e)) (he : P.underlying e = some .string) (hC : P.cellsOf e = 1) (h : DataW.Trod enc P w 0 (fun _ => true) true t (.slice A n c) d p) :
    ∃ f, n ≤ maxLen ∧ (∀ i, i < n → (f i).size ≤ maxLen) ∧ Txts w w.heap.size A n f := by
  obtain ⟨fuel, hf⟩ := h
  have hf' : DataW.trod enc P w 0 (fun _ => true) true fuel t [.slice A n c] = some (d, p) := by simpa [Value.cells] using hf
  rcases Go.Deep.open_slice ht hf' with ⟨hcs, _⟩ | ⟨a, len, cap, m, n', D, Pl, hcs, _, hl, hm, hmm, _, hi⟩
  · simp at hcs
    obtain ⟨_, rfl, _⟩ := hcs
    exact ⟨fun _ => ByteArray.empty, by simp [maxLen], fun i hi => by omega, fun h => by omega⟩
  · simp at hcs
    obtain ⟨rfl, rfl, rfl⟩ := hcs
    simp at hmm
    subst hmm
    have key : ∀ i, i < n → ∃ v : ByteArray, w.cell? (a.add i) = some (.string v) ∧ v.size ≤ maxLen := by
      intro i hin
      obtain ⟨cs', hc, ht'⟩ := hi i (by omega)
      rw [hC] at hc
      obtain ⟨v, hv, _, hsz⟩ := DataW.trod_string he ht'
      obtain ⟨_, hcl, hat⟩ := World.cells?_some hc
      refine ⟨v, ?_, hsz⟩
      have h2 := hat 0 (by omega)
      rw [hv] at h2
      have h3 : (a.add (i * 1)).add 0 = a.add i := by rw [Nat.mul_one]; cases a; simp [Addr.add]
      rw [h3] at h2
      simpa using h2
    by_cases h0 : 0 < n
    · obtain ⟨v, hv, _⟩ := key 0 h0
      have hlt := World.block_lt_of_cell? w _ hv
      have hsp := World.cell?_spot hv
      obtain ⟨b, off, spot⟩ := a
      have hspot : spot = none := by simpa [Addr.add] using hsp
      subst hspot
      let f : Nat → ByteArray := fun i => match w.cell? ⟨b, off + i, none⟩ with | some (.string v) => v | _ => ByteArray.empty
      have hF : ∀ i, i < n → w.cell? ⟨b, off + i, none⟩ = some (.string (f i)) ∧ (f i).size ≤ maxLen := by
        intro i hin
        obtain ⟨v, hv, hs⟩ := key i hin
        have hv' : w.cell? ⟨b, off + i, none⟩ = some (.string v) := by rw [Ge.add_eq] at hv; exact hv
        have : f i = v := by simp [f, hv']
        rw [this]
        exact ⟨hv', hs⟩
      exact ⟨f, by omega, fun i hi => (hF i hi).2, fun _ => ⟨b, off, rfl, by simpa [Addr.add] using hlt, fun i hi => (hF i hi).1⟩⟩
    · exact ⟨fun _ => ByteArray.empty, by omega, fun i hi => by omega, fun h => absurd h h0⟩
/-- The law's measure. -/
theorem sz_texts (A : Option Addr) (n c : Nat) (f : Nat → ByteArray) (l : Int) (h0 : 0 ≤ l) (h1 : l ≤ 1048576) (hm : n ≤ maxLen) (hz : ∀ i, i < n → (f i).size ≤ maxLen) (w : World) (hA : Txts w w.heap.size A n f) :
    Calls Try.prog 15 #[.slice A n c, .int .i64 l] w fun e w' => ∃ r : Int, e = .returned (.int .i64 r) ∧ -1 ≤ r ∧ r ≤ 1048576 ∧ (0 ≤ r → n ≤ 1048576 ∧ ∀ i, i < n → (f i).size ≤ 1048576) ∧ Below w.heap.size w w' := by
  unfold maxLen at hm
  by_cases hb : l - n < 0
  · clear hA hz
    go_enter Try.func15, Try.ntmps15
    go_wp2_with fail
    go_ret
    exact ⟨-1, rfl, by omega, by omega, fun h => by omega, Below.refl _ _⟩
  have HA := Lib.hid hA
  have HZ := Lib.hid hz
  clear hA hz
  go_enter Try.func15, Try.ntmps15
  go_wp2_with fail
  go_loopw [1, 5] (fun s i wr => ∃ (k : Nat) (r : Int), k ≤ n ∧ i = .int .i64 k ∧ s = .int .i64 r ∧ 0 ≤ r ∧ r ≤ 1048576 ∧ Hid (∀ j, j < k → (f j).size ≤ 1048576) ∧ Hid (Below w.heap.size w wr)) (fun _ i _ => n - (intOf i).toNat)
  case atStart => exact ⟨0, l - n, Nat.zero_le _, rfl, rfl, by omega, by omega, Lib.hid fun j hj => by omega, Lib.hid (Below.refl _ _)⟩
  case round =>
    obtain ⟨k, r, hk, rfl, rfl, hr0, hr1, HE, HB⟩ := hrel
    by_cases hlt : k < n
    · obtain ⟨b, off, rfl, hb', hc⟩ := (HA.out.below HB.out (Nat.le_refl _)) (by omega)
      have x0 := hc k hlt
      have z0 := HZ.out k hlt
      unfold maxLen at z0
      have hk1 : k + 1 ≤ n := by omega
      have e0 : (0 : Int) ≤ (k : Int) := Int.natCast_nonneg _
      have e1 : (k : Int) < (n : Int) := by omega
      clear hc
      by_cases hneg : r - (f k).size < 0
      · generalize f k = x at x0 z0 hneg
        go_wp2_with fail
        go_ret
        exact ⟨-1, rfl, by omega, by omega, by omega, HB.out⟩
      · have HE2 : Hid (∀ j, j < k + 1 → (f j).size ≤ 1048576) := Lib.hid fun j hj => by
          by_cases e : j = k
          · subst e; omega
          · exact HE.out j (by omega)
        generalize f k = x at x0 z0 hneg
        go_wp2_with fail
        go_roundw
        case rel => exact ⟨k + 1, r - x.size, hk1, by go_num, rfl, by omega, by omega, HE2, HB⟩
        case measure => simp [intOf]; omega
    · obtain rfl : k = n := by omega
      go_wp2_with fail
      go_ret
      exact ⟨r, rfl, by omega, by omega, fun _ => ⟨by omega, HE.out⟩, HB.out⟩
theorem info_str : (Try.prog.info? 9).map (fun i => (i.zero, i.size, i.bytes)) = some (some (.string ⟨#[]⟩), 1, 16) := by kernel_rfl
/-- The law's copy. -/
theorem to_texts (A : Option Addr) (n c : Nat) (f : Nat → ByteArray) (hn : n ≤ 1048576) (w : World) (hA : Txts w w.heap.size A n f) :
    Calls Try.prog 17 #[.slice A n c] w fun e w' => ∃ g, e = .returned (.slice (some ⟨g, 0, none⟩) n n) ∧ w.heap.size ≤ g ∧ Hid (TAt w' g n f) ∧ Below w.heap.size w w' := by
  obtain ⟨i0, hi, hz0, hz1, hz2⟩ := info_parts info_str
  have hmk : (Instr.makeSlice 22 (.int .i64 (n : Int)) (.int .i64 (n : Int))).run Try.prog w = _ := run_make w _ _ i0 _ Try.underlying22 hi hz0 .i64 .i64 n n (by omega) (by omega) (by rw [hz2]; omega) (by omega)
  rw [hz1] at hmk
  simp only [Int.toNat_natCast] at hmk
  have HA := Lib.hid hA
  clear hA hz0 hz1 hz2 hi
  go_enter Try.func17, Try.ntmps17
  go_wp2_with fail
  clear hmk
  go_loopw [4] (fun i wr => ∃ (k : Nat) (arr : Array Value), k ≤ n ∧ i = .int .i64 k ∧ Below w.heap.size w wr ∧ Hid (wr.heap[w.heap.size]? = some (.cells arr 9 (0, 0))) ∧ Hid (arr.size = n * 1) ∧ Hid (∀ i, i < k → arr[i]? = some (.string (f i)))) (fun i _ => n - (intOf i).toNat)
  case atStart => exact ⟨0, _, Nat.zero_le _, rfl, below_box _ _, Lib.hid (heap_alloc_new _ _), Lib.hid (by rw [size_madeCells, Nat.mul_one]), Lib.hid fun i hi => by omega⟩
  case round =>
    obtain ⟨k, arr, hk, rfl, hbel, hblk, hsz, hall⟩ := hrel
    have HB := Lib.hid hbel
    by_cases hlt : k < n
    · obtain ⟨b, off, rfl, hb, hc⟩ := HA.out (by omega)
      have x0 : wr.cell? ⟨b, off + k, none⟩ = some (.string (f k)) := (hbel.cell (p := ⟨b, off + k, none⟩) hb).trans (hc k hlt)
      have hsk : k < arr.size := by have := hsz.out; omega
      have y0 : wr.cell? ⟨w.heap.size, k, none⟩ = some (arr[k]'hsk) := by
        rw [cell_of_row _ _ _ _ _ _ hblk.out]
        exact Array.getElem?_eq_getElem _
      generalize arr[k]'hsk = old at y0
      have z0 : wr.frozen? ⟨w.heap.size, k, none⟩ = false := blk_free hblk.out k
      clear hbel hc hb hk
      go_wp2_with fail
      go_roundw
      case rel =>
        refine ⟨k + 1, _, by omega, by go_num, HB.out.setCell (p := ⟨w.heap.size, k, none⟩) (Nat.le_refl _) _, Lib.hid (heap_set hblk.out _ _), Lib.hid (by simp [hsz.out]), Lib.hid fun i hi => ?_⟩
        rw [Array.getElem?_setIfInBounds]
        by_cases e : k = i
        · subst e
          rw [if_pos rfl, if_pos hsk]
        · rw [if_neg e]
          exact hall.out i (by omega)
      case measure => simp [intOf]; omega
    · obtain rfl : k = n := by omega
      clear hbel
      go_wp2_with fail
      go_ret
      exact ⟨w.heap.size, rfl, Nat.le_refl _, Lib.hid ⟨lt_of_heap hblk.out, fun i hi => (cell_of_row _ _ _ _ _ _ hblk.out).trans (hall.out i hi), fun i => blk_free hblk.out i⟩, HB.out⟩
/-- The row part of which has been marked. -/
theorem tat_part {w : World} {g n j : Nat} {k0 : Int} {f : Nat → ByteArray} (h : TAt w g n (Ts.part k0 f j)) (hj : j < n) : TAt (w.setCell ⟨g, j, none⟩ (.string (Ts.mk k0 j))) g n (Ts.part k0 f (j + 1)) :=
  ⟨by simpa using h.1, fun i hi => by
    by_cases e : i = j
    · subst e
      rw [World.cell?_setCell_same _ _ _ (h.2.1 i hi)]
      simp [Ts.part]
    · rw [World.cell?_setCell_other _ _ _ _ (show (⟨g, j, none⟩ : Addr) ≠ ⟨g, i, none⟩ from fun q => by have := (Addr.mk.inj q).2.1; omega), h.2.1 i hi]
      have : Ts.part k0 f j i = Ts.part k0 f (j + 1) i := by
        unfold Ts.part
        by_cases h : i < j
        · rw [if_pos h, if_pos (by omega)]
        · rw [if_neg h, if_neg (by omega)]
      rw [this], fun i => (World.frozen?_setCell _ _ _ _).trans (h.2.2 i)⟩
/-- The law's marks in a copy. -/
theorem mark_tat (g n c : Nat) (k0 : Int) (f : Nat → ByteArray) (hn : n ≤ 1048576) (h0 : 0 < k0) (h1 : k0 ≤ 1000000000) (w : World) (h : TAt w g n f) :
    Calls Try.prog 31 #[.slice (some ⟨g, 0, none⟩) n c, .int .i64 k0] w fun e w' => e = .returned (.int .i64 (k0 + (n : Int))) ∧ But g w w' := by
  have HO : Hid (TAt w g n (Ts.part k0 f 0)) := Lib.hid ⟨h.1, fun i hi => by rw [h.2.1 i hi]; simp [Ts.part], h.2.2⟩
  have MT := Lib.hid fun (j : Nat) (hj : j < n) w => Mt.mark_text (k0 + (j : Int)) (by omega) (by omega) w
  clear h
  go_enter Try.func31, Try.ntmps31
  go_wp2_with fail
  go_loopw [1, 5] (fun kk i wr => ∃ j : Nat, j ≤ n ∧ i = .int .i64 j ∧ kk = .int .i64 (k0 + (j : Int)) ∧ But g w wr ∧ Hid (TAt wr g n (Ts.part k0 f j))) (fun _ i _ => n - (intOf i).toNat)
  case atStart => exact ⟨0, Nat.zero_le _, rfl, by simp, But.refl _ _, HO⟩
  case round =>
    obtain ⟨j, hj, rfl, rfl, hbut, hat⟩ := hrel
    have HB := Lib.hid hbut
    by_cases hlt : j < n
    · have M := Lib.hid (MT.out j hlt)
      have HOW := Lib.hid fun w' (hb : Below wr.heap.size wr w') => hat.out.below hb
      have e0 : (0 : Int) ≤ (j : Int) := Int.natCast_nonneg _
      have e1 : (j : Int) < (n : Int) := by omega
      clear hbut
      go_wp2_with fail
      refine (M.out _).mono ?_
      rintro e w1 ⟨rfl, b1⟩
      have HB1 := Lib.hid (HB.out.trans (But.of_below (g := g) b1))
      have HA1 := Lib.hid (HOW.out w1 b1)
      have x0 := HA1.out.2.1 j hlt
      have z0 := HA1.out.2.2 j
      have HN := Lib.hid (tat_part (k0 := k0) (f := f) HA1.out hlt)
      have HM : Hid (Ts.mk k0 j = Mt.mkT (k0 + (j : Int))) := Lib.hid rfl
      clear b1 hj HOW M
      generalize Ts.part k0 f j j = old at x0
      go_wp2_with fail
      rw [HM.out] at HN
      have HQ := Lib.hid (HB1.out.setCell j (.string (Mt.mkT (k0 + (j : Int)))))
      go_roundw
      case rel => exact ⟨j + 1, by omega, by go_num, by go_num, HQ.out, HN⟩
      case measure => simp [intOf]; omega
    · obtain rfl : j = n := by omega
      go_wp2_with fail
      go_ret
      exact ⟨rfl, HB.out⟩
/-- The first k of some texts, as cells. -/
def uptoT (g : Nat → ByteArray) (k : Nat) : List Value := (List.range k).map fun j => Value.string (g j)
theorem uptoT_snoc (g : Nat → ByteArray) (k : Nat) : uptoT g (k + 1) = uptoT g k ++ [.string (g k)] := by simp [uptoT, List.range_succ]
theorem uptoT_get (g : Nat → ByteArray) {k j : Nat} (h : j < k) : (uptoT g k)[j]? = some (.string (g j)) := by simp [uptoT, h]
theorem own_of_rowT {n : Nat} {g : Nat → ByteArray} {w' : World} {B : Nat} {v : Value} (h : w'.ownsRow B 9 1 v n (uptoT g n)) : ∃ A cap, v = .slice A n cap ∧ OwnT w' B A n g := by
  rcases h.2 with ⟨rfl, rfl⟩ | ⟨b, cap, cur, rfl, hbg, hh, _⟩
  · exact ⟨none, 0, rfl, fun h => absurd h (by omega)⟩
  · exact ⟨_, cap, rfl, fun _ => ⟨b, 0, rfl, hbg, lt_of_heap hh, fun i hi => by rw [Nat.zero_add]; exact (h.cellAt i (by omega)).trans (uptoT_get g hi), fun i => blk_free hh i⟩⟩
/-- A new list of texts, and a code. -/
def PairT (n : Nat) (g : Nat → ByteArray) (c : Int) (w : World) (e : Ending) (w' : World) : Prop := ∃ A cap, e = .returned (.tuple #[.slice A n cap, .int .i64 c]) ∧ Hid (OwnT w' w.heap.size A n g) ∧ Below w.heap.size w w'
theorem pairT_of_row {n : Nat} {g : Nat → ByteArray} {w w0 w' : World} {v : Value} (h : w'.ownsRow w0.heap.size 9 1 v n (uptoT g n)) (h0 : Below w.heap.size w w0) (hb : Below w0.heap.size w0 w') : PairT n g 0 w (.returned (.tuple #[v, .int .i64 0])) w' := by
  obtain ⟨A, cap, rfl, ho⟩ := own_of_rowT h
  exact ⟨A, cap, rfl, Lib.hid (ownt_later ho h0.size), below_then h0 hb⟩
theorem pairT_no {w w' : World} {c : Int} (hb : Below w.heap.size w w') (g : Nat → ByteArray) : PairT 0 g c w (.returned (.tuple #[.slice none 0 0, .int .i64 c])) w' := ⟨none, 0, rfl, Lib.hid fun h => absurd h (by omega), hb⟩
theorem rowT_zero (w : World) (g : Nat → ByteArray) : (w.alloc (.cells #[] 9)).ownsRow w.heap.size 9 1 (.slice (some ⟨w.heap.size, 0, none⟩) 0 0) 0 (uptoT g 0) :=
  ⟨rfl, .inr ⟨_, 0, _, rfl, Nat.le_refl _, heap_alloc_new _ _, by omega, by unfold maxLen; omega, rfl, rfl⟩⟩
end Go.Proofs.Ytongfgikkcieaaa.Tx
namespace Go.Proofs.Ytongfgikkcieaaa.Ts
theorem OwnT.nums {w : World} {B n : Nat} {A : Option Addr} {f : Nat → ByteArray} (h : OwnT w B A n f) : Txts w w.heap.size A n f := h.texts
end Go.Proofs.Ytongfgikkcieaaa.Ts
