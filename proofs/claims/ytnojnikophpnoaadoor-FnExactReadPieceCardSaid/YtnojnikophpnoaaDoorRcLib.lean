/- readSeparated: just q numbers of a text (q is at most 8), a blank between them. -/
import Derived.Test.YtnojnikophpnoaaDoorRhLib
import Derived.Test.YtnojnikophpnoaaDoorRgLib
import Derived.Test.YtnojnikophpnoaaDoorBwLib
namespace Go.Proofs.YtnojnikophpnoaaDoor.Rc
open Go.RowKit Ba Dc Ds Rn Rs Tb Ri St Rz Rf Rg
set_option linter.unusedVariables false

def bP (L : List UInt8) (j : Nat) : List UInt8 := (spl 32 L).getD j []
def bF (L : List UInt8) (j : Nat) : Int := rdN (bP L j)
theorem bP_len (L : List UInt8) (j : Nat) : (bP L j).length ≤ L.length := by
  unfold bP
  rw [List.getD_eq_getElem?_getD]
  cases h : (spl 32 L)[j]? with
  | none => simp
  | some p => exact part_len 32 L p (List.mem_of_getElem? h)
def MaxAt (w : World) : Prop := ∃ m : Int, w.cell? ⟨0, 0, none⟩ = some (.int .i64 m)
theorem MaxAt.below {w w' : World} (h : MaxAt w) (hb : Below w.heap.size w w') : MaxAt w' := by
  obtain ⟨m, hm⟩ := h
  exact ⟨m, (hb.cell (p := ⟨_, 0, none⟩) (World.block_lt_of_cell? w _ hm)).trans hm⟩
/-- What SplitN hands back of a text, q + 1 parts at most. -/
def prt (q : Nat) (s : ByteArray) : List ByteArray := Lib.splitB ⟨#[32]⟩ 0 (min (q + 1) (s.size + 1) - 1) s
theorem prt_len (q : Nat) (s : ByteArray) : (prt q s).length = min (min (q + 1) (s.size + 1) - 1 + 1) (spl 32 s.data.toList).length := by
  rw [← (Rh.split_k 32 _ s.data.toList).1, ← (Lib.splitB_data _ _ _ _ : (prt q s).map (·.data.toList) = Lib.splitK [32] 0 (min (q + 1) (s.size + 1) - 1) s.data.toList), List.length_map]; rfl
theorem prt_all (q : Nat) (hq : q ≤ 8) (s : ByteArray) : (prt q s).length = q ↔ (spl 32 s.data.toList).length = q := by
  have h1 := prt_len q s
  have h2 := spl_len 32 s.data.toList
  have h3 : s.data.toList.length = s.size := by simp
  omega
theorem prt_get {q : Nat} (hq : q ≤ 8) {s : ByteArray} (h : (prt q s).length = q) {j : Nat} (hj : j < q) : (prt q s)[j]? = some ⟨(bP s.data.toList j).toArray⟩ := by
  have h4 := (prt_all q hq s).1 h
  have h2 := spl_len 32 s.data.toList
  have h3 : s.data.toList.length = s.size := by simp
  have hd : (prt q s).map (·.data.toList) = Lib.splitK [32] 0 (min (q + 1) (s.size + 1) - 1) s.data.toList := Lib.splitB_data _ _ _ _
  rw [(Rh.split_k 32 _ s.data.toList).2 (by omega)] at hd
  have hg := congrArg (fun l : List (List UInt8) => l[j]?) hd
  simp only [List.getElem?_map] at hg
  rw [List.getElem?_eq_getElem (by omega : j < (prt q s).length), List.getElem?_eq_getElem (by omega : j < (spl 32 s.data.toList).length)] at hg
  simp only [Option.map_some, Option.some.injEq] at hg
  rw [List.getElem?_eq_getElem (by omega : j < (prt q s).length)]
  congr 1
  unfold bP
  rw [List.getD_eq_getElem?_getD, List.getElem?_eq_getElem (by omega : j < (spl 32 s.data.toList).length), Option.getD_some, ← hg]
theorem splitn_any (q : Nat) (hq : q ≤ 8) (s : ByteArray) (hs : s.size ≤ 1048576) (w : World) (hM : MaxAt w) :
    Calls Tryd.prog 42 #[.string s, .string ⟨#[32]⟩, .int .i64 ((q : Int) + 1)] w fun e w' => ∃ g cs cap, e = .returned (.slice (some ⟨g, 0, none⟩) (prt q s).length cap) ∧ w.heap.size ≤ g ∧ w'.heap[g]? = some (.cells cs 9 (0, 0)) ∧ (∀ j, j < (prt q s).length → cs[j]? = ((prt q s)[j]?).map Value.string) ∧ Below w.heap.size w w' := by
  obtain ⟨m, hm⟩ := hM
  have e1 : ((q : Int) + 1) = ((q + 1 : Nat) : Int) := by omega
  rw [e1]
  refine (Tryd.strings_SplitN s ⟨#[32]⟩ (q + 1) m w (by omega) hm (by decide) (by omega) (by omega)).mono ?_
  rintro e w' ⟨rfl, rfl⟩
  refine ⟨w.heap.size, _, _, rfl, Nat.le_refl _, blk_new _ _, fun j hj => ?_, below_box _ _⟩
  show (Lib.cellsOf (prt q s) _)[j]? = _
  unfold Lib.cellsOf
  rw [List.getElem?_toArray, List.getElem?_append_left (by simpa using hj), List.getElem?_map]
/-- The numbers of which k are read. -/
def ms (q : Nat) (F : Nat → Int) (k : Nat) : Array Value := ((List.range q).map fun j => Value.int .i64 (if j < k then F j else 0)).toArray
theorem ms_at (q : Nat) (F : Nat → Int) {k : Nat} (h : k < q) : (ms q F k)[k]? = some (.int .i64 0) := by simp [ms, h]
theorem ms_get (q : Nat) (F : Nat → Int) (k i : Nat) : (ms q F k)[i]? = if i < q then some (.int .i64 (if i < k then F i else 0)) else none := by
  by_cases h : i < q
  · rw [if_pos h]; simp [ms, h]
  · rw [if_neg h]; simp [ms, h]
theorem ms_size (q : Nat) (F : Nat → Int) (k : Nat) : (ms q F k).size = q := by simp [ms]
theorem ms_set (q : Nat) (F : Nat → Int) {k : Nat} (h : k < q) : (ms q F k).setIfInBounds k (.int .i64 (F k)) = ms q F (k + 1) := by
  apply Array.ext_getElem?
  intro i
  rw [Array.getElem?_setIfInBounds, ms_get, ms_get, ms_size]
  by_cases e : k = i
  · subst e; rw [if_pos rfl, if_pos h, if_pos h, if_pos (by omega)]
  · rw [if_neg e]
    by_cases e2 : i < q
    · rw [if_pos e2, if_pos e2]
      by_cases e1 : i < k
      · rw [if_pos e1, if_pos (by omega)]
      · rw [if_neg e1, if_neg (by omega)]
    · rw [if_neg e2, if_neg e2]
theorem ms_zero (q : Nat) (F : Nat → Int) : ms q F 0 = Go.madeCells #[.int .i64 0] q := by
  apply Array.ext'
  rw [Go.toList_madeCells_one]
  apply List.ext_getElem?
  intro i
  by_cases h : i < q <;> simp [ms, h]
theorem ms_full (q : Nat) (F : Nat → Int) {j : Nat} (h : j < q) : (ms q F q)[j]? = some (.int .i64 (F j)) := by simp [ms, h]
theorem heap_set {w : World} {g : Nat} {t : TypeId} {cs : Array Value} (h : w.heap[g]? = some (.cells cs t (0, 0))) (i : Nat) (u : Value) : (w.setCell ⟨g, i, none⟩ u).heap[g]? = some (.cells (cs.setIfInBounds i u) t (0, 0)) := by
  simp [World.setCell, Array.getElem?_modify, h]
theorem heap_other {w : World} {g b : Nat} {o : Obj} (h : w.heap[g]? = some o) (hn : b ≠ g) (i : Nat) (u : Value) : (w.setCell ⟨b, i, none⟩ u).heap[g]? = some o := by
  simp [World.setCell, Array.getElem?_modify, h, hn]
/-- A text of just q numbers. -/
def rsB (q : Nat) (L : List UInt8) : Bool := decide ((spl 32 L).length = q) && (List.range q).all fun j => rdB (bP L j)
theorem rs_len {q : Nat} {L : List UInt8} (h : ¬ (spl 32 L).length = q) : rsB q L = false := by unfold rsB; rw [decide_eq_false h]; rfl
theorem rs_rd {q : Nat} {L : List UInt8} {k : Nat} (hk : k < q) (h : rdB (bP L k) = false) : rsB q L = false := by
  unfold rsB
  rw [Bool.and_eq_false_iff]
  refine .inr ?_
  rw [List.all_eq_false]
  exact ⟨k, List.mem_range.2 hk, by simp [h]⟩
theorem rs_all {q : Nat} {L : List UInt8} (h : (spl 32 L).length = q) (hr : ∀ j, j < q → rdB (bP L j) = true) : rsB q L = true := by
  unfold rsB
  rw [decide_eq_true h, Bool.true_and, List.all_eq_true]
  exact fun j hj => hr j (List.mem_range.1 hj)

set_option maxRecDepth 100000 in
set_option maxHeartbeats 4000000 in
theorem slashed_any (q : Nat) (hq : q ≤ 8) (s : ByteArray) (hs : s.size ≤ 1048576) (g : Nat) (T : TypeId) (w0 w : World) (hV : Vars w0) (hM : MaxAt w) (h0 : Below w0.heap.size w0 w) (h0g : w0.heap.size ≤ g) (hk : w.heap[g]? = some (.cells (ms q (fun _ => 0) 0) T (0, 0))) :
    Calls Tryd.prog 25 #[.string s, .string ⟨#[32]⟩, .slice (some ⟨g, 0, none⟩) q q] w fun e w' => ∃ k, k ≤ q ∧ e = .returned (.bool (rsB q s.data.toList)) ∧ (rsB q s.data.toList = true → k = q) ∧ w'.heap[g]? = some (.cells (ms q (bF s.data.toList) k) T (0, 0)) ∧ Bw.But g w w' := by
  have SN := Lib.hid (splitn_any q hq s hs w hM)
  have P4 := Lib.hid (prt_all q hq s)
  have PG := Lib.hid fun h j hj => prt_get hq (s := s) h (j := j) hj
  have hsl : s.data.toList.length ≤ 1048576 := by simpa using hs
  clear hs hM
  generalize s.data.toList = L at P4 PG hsl ⊢
  have R : Hid (∀ (k : Nat) w, Vars w → Calls Tryd.prog 43 #[.string ⟨(bP L k).toArray⟩] w fun e w' => e = .returned (.tuple #[.int .i64 (bF L k), .bool (rdB (bP L k))]) ∧ Below w.heap.size w w') := Lib.hid fun (k : Nat) w hV => read_any ⟨(bP L k).toArray⟩ (by show (bP L k).length ≤ _; have := bP_len L k; omega) w hV
  have NL := Lib.hid fun h => rs_len (q := q) (L := L) h
  have NR := Lib.hid fun k hk h => rs_rd (q := q) (L := L) (k := k) hk h
  have YA := Lib.hid fun h4 h => rs_all (q := q) (L := L) h4 h
  clear hsl
  generalize bF L = F at R ⊢
  generalize bP L = p at R NR YA PG
  generalize rsB q L = b at NL NR YA ⊢
  generalize (spl 32 L).length = n at P4 NL YA
  generalize prt q s = ps at SN P4 PG
  have hgl := lt_of_heap hk
  have HV : Hid (∀ wr, Below g w wr → Vars wr) := Lib.hid fun wr hb => hV.below (h0.trans (hb.mono h0g))
  have HK := Lib.hid (show w.heap[g]? = some (.cells (ms q F 0) T (0, 0)) from by rw [ms_zero]; rw [ms_zero] at hk; exact hk)
  clear hV hk h0
  go_enter Tryd.func25, Tryd.ntmps25
  go_wp2_with fail
  refine SN.out.mono ?_
  rintro e w3 ⟨gp, cs, cap, rfl, hgp, kp, hcs, b3⟩
  have HB3 := Lib.hid (Bw.But.of_below (g := g) b3)
  have KM3 := Lib.hid (Ba.blk_keep b3 HK.out)
  have KP3 := Lib.hid kp
  have CS := Lib.hid hcs
  have hne : gp ≠ g := by omega
  clear SN kp hcs b3 HK
  by_cases h4 : ps.length = q
  · have CP : Hid (∀ j, j < q → cs[j]? = some (.string ⟨(p j).toArray⟩)) := Lib.hid fun j hj => by
      rw [CS.out j (by omega), PG.out h4 j hj]; rfl
    have hn := P4.out.1 h4
    have YA' := Lib.hid fun h => YA.out hn h
    rw [h4]
    clear CS PG P4 h4 NL YA hn
    go_wp2_with fail
    go_loopw [8, 9, 10, 11, 25] (fun _ _ _ _ i wr => ∃ k : Nat, k ≤ q ∧ i = .int .i64 (k : Int) ∧ Hid (Bw.But g w wr) ∧ Hid (wr.heap[g]? = some (.cells (ms q F k) T (0, 0))) ∧ Hid (wr.heap[gp]? = some (.cells cs 9 (0, 0))) ∧ Hid (∀ j, j < k → rdB (p j) = true)) (fun _ _ _ _ i _ => q - (RowKit.intOf i).toNat)
    case atStart => exact ⟨0, Nat.zero_le _, rfl, HB3, KM3, KP3, Lib.hid fun j hj => by omega⟩
    case round =>
      obtain ⟨k, hk, rfl, HB, KM, KP, HD⟩ := hrel
      by_cases hlt : k < q
      · have RK := Lib.hid fun w hV => R.out k w hV
        have NK := Lib.hid fun h => NR.out k hlt h
        have ck := (cell_of_row _ _ k _ _ _ KP.out).trans (CP.out k hlt)
        have e0 : (0 : Int) ≤ (k : Int) := Int.natCast_nonneg _
        have hk4 : (k : Int) < (q : Int) := by omega
        cases hok : rdB (p k)
        · have Z := Lib.hid (NK.out hok)
          rw [hok] at RK
          clear hok NK
          go_wp2_with fail
          refine (RK.out _ (HV.out _ (HB.out.below (Nat.le_refl _) (Nat.le_of_lt hgl)))).mono ?_
          rintro e w4 ⟨rfl, b4⟩
          have hz4 := lt_of_heap KM.out
          have HB4 := Lib.hid (HB.out.trans (Bw.But.of_below (g := g) b4))
          have KM4 := Lib.hid (Ba.blk_keep b4 KM.out)
          clear b4 ck
          go_wp2_with fail
          go_ret
          exact ⟨k, hk, (by rw [Z.out]; rfl), (fun h => by rw [Z.out] at h; cases h), KM4.out, HB4.out⟩
        · have HD' : Hid (∀ j, j < k + 1 → rdB (p j) = true) := Lib.hid fun j hj => by
            by_cases e : j = k
            · rw [e]; exact hok
            · exact HD.out j (by omega)
          rw [hok] at RK
          clear hok NK
          go_wp2_with fail
          refine (RK.out _ (HV.out _ (HB.out.below (Nat.le_refl _) (Nat.le_of_lt hgl)))).mono ?_
          rintro e w4 ⟨rfl, b4⟩
          have hz4 := lt_of_heap KM.out
          have HB4 := Lib.hid (HB.out.trans (Bw.But.of_below (g := g) b4))
          have KM4 := Lib.hid (Ba.blk_keep b4 KM.out)
          have KP4 := Lib.hid (Ba.blk_keep b4 KP.out)
          clear b4 ck
          have cm := (cell_of_row _ _ k _ _ _ KM4.out).trans (ms_at q F hlt)
          have hfr := blk_free KM4.out
          have hl4 := lt_of_heap KM4.out
          go_wp2_with fail
          have HB5 := Lib.hid (HB4.out.setCell k (.int .i64 (F k)))
          have KM5 := Lib.hid (heap_set KM4.out k (.int .i64 (F k)))
          have KP5 := Lib.hid (heap_other KP4.out (b := g) (Ne.symm hne) k (.int .i64 (F k)))
          rw [ms_set q F hlt] at KM5
          go_roundw
          case rel => exact ⟨k + 1, by omega, by go_num, HB5, KM5, KP5, HD'⟩
          case measure => simp [RowKit.intOf] <;> omega
      · have hkq : k = q := by omega
        have hkk : ¬ (k : Int) < (q : Int) := by omega
        have Z := Lib.hid (YA'.out fun j hj => HD.out j (by omega))
        clear hk hlt YA' HD NR R CP KP HV
        go_wp2_with fail
        go_ret
        exact ⟨q, Nat.le_refl _, (by rw [Z.out]; rfl), (fun _ => rfl), (by have h9 := KM.out; rw [hkq] at h9; exact h9), HB.out⟩
  · have Z := Lib.hid (NL.out fun h => h4 (P4.out.2 h))
    have hne' : ¬ (ps.length : Int) = (q : Int) := by omega
    clear NL NR YA R CS PG P4 KP3 HV
    go_wp2_with fail
    go_ret
    exact ⟨0, Nat.zero_le _, (by rw [Z.out]; rfl), (fun h => by rw [Z.out] at h; cases h), KM3.out, HB3.out⟩
end Go.Proofs.YtnojnikophpnoaaDoor.Rc
