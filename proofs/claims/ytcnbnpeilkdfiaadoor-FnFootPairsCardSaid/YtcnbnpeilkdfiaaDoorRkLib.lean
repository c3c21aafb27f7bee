/- readSeparated: just 4 numbers of a text, slashes between them. -/
import Derived.Test.YtcnbnpeilkdfiaaDoorRhLib
import Derived.Test.YtcnbnpeilkdfiaaDoorRgLib
namespace Go.Proofs.YtcnbnpeilkdfiaaDoor.Rk
open Go.RowKit Ba Dc Ds Rn Rs Tb Ri St Rz Rf Rg
set_option linter.unusedVariables false

def MaxAt (w : World) : Prop := ∃ m : Int, w.cell? ⟨4, 0, none⟩ = some (.int .i64 m)
theorem MaxAt.below {w w' : World} (h : MaxAt w) (hb : Below w.heap.size w w') : MaxAt w' := by
  obtain ⟨m, hm⟩ := h
  exact ⟨m, (hb.cell (p := ⟨_, 0, none⟩) (World.block_lt_of_cell? w _ hm)).trans hm⟩
/-- What SplitN hands back of a text, 5 parts at most. -/
def prt (s : ByteArray) : List ByteArray := Lib.splitB ⟨#[47]⟩ 0 (min 5 (s.size + 1) - 1) s
theorem prt_len (s : ByteArray) : (prt s).length = min (min 5 (s.size + 1) - 1 + 1) (spl 47 s.data.toList).length := by
  rw [← (Rh.split_k 47 _ s.data.toList).1, ← (Lib.splitB_data _ _ _ _ : (prt s).map (·.data.toList) = Lib.splitK [47] 0 (min 5 (s.size + 1) - 1) s.data.toList), List.length_map]; rfl
theorem prt_all (s : ByteArray) : (prt s).length = 4 ↔ (spl 47 s.data.toList).length = 4 := by
  have h1 := prt_len s
  have h2 := spl_len 47 s.data.toList
  have h3 : s.data.toList.length = s.size := by simp
  omega
theorem prt_get {s : ByteArray} (h : (prt s).length = 4) {j : Nat} (hj : j < 4) : (prt s)[j]? = some ⟨(rfP s.data.toList j).toArray⟩ := by
  have h4 := (prt_all s).1 h
  have h2 := spl_len 47 s.data.toList
  have h3 : s.data.toList.length = s.size := by simp
  have hd : (prt s).map (·.data.toList) = Lib.splitK [47] 0 (min 5 (s.size + 1) - 1) s.data.toList := Lib.splitB_data _ _ _ _
  rw [(Rh.split_k 47 _ s.data.toList).2 (by omega)] at hd
  have hg := congrArg (fun l : List (List UInt8) => l[j]?) hd
  simp only [List.getElem?_map] at hg
  rw [List.getElem?_eq_getElem (by omega : j < (prt s).length), List.getElem?_eq_getElem (by omega : j < (spl 47 s.data.toList).length)] at hg
  simp only [Option.map_some, Option.some.injEq] at hg
  rw [List.getElem?_eq_getElem (by omega : j < (prt s).length)]
  congr 1
  unfold rfP
  rw [List.getD_eq_getElem?_getD, List.getElem?_eq_getElem (by omega : j < (spl 47 s.data.toList).length), Option.getD_some, ← hg]
theorem splitn_any (s : ByteArray) (hs : s.size ≤ 1048576) (w : World) (hM : MaxAt w) :
    Calls Tryd.prog 62 #[.string s, .string ⟨#[47]⟩, .int .i64 5] w fun e w' => ∃ g cs cap, e = .returned (.slice (some ⟨g, 0, none⟩) (prt s).length cap) ∧ w.heap.size ≤ g ∧ w'.heap[g]? = some (.cells cs 9 (0, 0)) ∧ (∀ j, j < (prt s).length → cs[j]? = ((prt s)[j]?).map Value.string) ∧ Below w.heap.size w w' := by
  obtain ⟨m, hm⟩ := hM
  refine (Tryd.strings_SplitN s ⟨#[47]⟩ 5 m w (by omega) hm (by decide) (by omega) (by omega)).mono ?_
  rintro e w' ⟨rfl, rfl⟩
  refine ⟨w.heap.size, _, _, rfl, Nat.le_refl _, blk_new _ _, fun j hj => ?_, below_box _ _⟩
  show (Lib.cellsOf (prt s) _)[j]? = _
  unfold Lib.cellsOf
  rw [List.getElem?_toArray, List.getElem?_append_left (by simpa using hj), List.getElem?_map]
/-- The numbers of which k are read. -/
def ms (F : Nat → Int) (k : Nat) : Array Value := ((List.range 4).map fun j => Value.int .i64 (if j < k then F j else 0)).toArray
theorem ms_at (F : Nat → Int) {k : Nat} (h : k < 4) : (ms F k)[k]? = some (.int .i64 0) := by simp [ms, h]
theorem ms_set (F : Nat → Int) {k : Nat} (h : k < 4) : (ms F k).setIfInBounds k (.int .i64 (F k)) = ms F (k + 1) := by
  obtain rfl | rfl | rfl | rfl : k = 0 ∨ k = 1 ∨ k = 2 ∨ k = 3 := by omega
  all_goals rfl
theorem ms_zero (F : Nat → Int) : ms F 0 = #[.int .i64 0, .int .i64 0, .int .i64 0, .int .i64 0] := rfl
theorem ms_full (F : Nat → Int) : ms F 4 = #[.int .i64 (F 0), .int .i64 (F 1), .int .i64 (F 2), .int .i64 (F 3)] := rfl
theorem heap_set {w : World} {g : Nat} {t : TypeId} {cs : Array Value} (h : w.heap[g]? = some (.cells cs t (0, 0))) (i : Nat) (u : Value) : (w.setCell ⟨g, i, none⟩ u).heap[g]? = some (.cells (cs.setIfInBounds i u) t (0, 0)) := by
  simp [World.setCell, Array.getElem?_modify, h]
theorem heap_other {w : World} {g b : Nat} {o : Obj} (h : w.heap[g]? = some o) (hn : b ≠ g) (i : Nat) (u : Value) : (w.setCell ⟨b, i, none⟩ u).heap[g]? = some o := by
  simp [World.setCell, Array.getElem?_modify, h, hn]
/-- A text of just 4 numbers. -/
def rsB (L : List UInt8) : Bool := decide ((spl 47 L).length = 4) && (List.range 4).all fun j => rdB (rfP L j)
theorem rs_len {L : List UInt8} (h : ¬ (spl 47 L).length = 4) : rsB L = false := by unfold rsB; rw [decide_eq_false h]; rfl
theorem rs_rd {L : List UInt8} {k : Nat} (hk : k < 4) (h : rdB (rfP L k) = false) : rsB L = false := by
  unfold rsB
  rw [Bool.and_eq_false_iff]
  refine .inr ?_
  rw [List.all_eq_false]
  exact ⟨k, List.mem_range.2 hk, by simp [h]⟩
theorem rs_all {L : List UInt8} (h : (spl 47 L).length = 4) (hr : ∀ j, j < 4 → rdB (rfP L j) = true) : rsB L = true := by
  unfold rsB
  rw [decide_eq_true h, Bool.true_and, List.all_eq_true]
  exact fun j hj => hr j (List.mem_range.1 hj)

set_option maxRecDepth 100000 in
set_option maxHeartbeats 4000000 in
theorem slashed_any (s : ByteArray) (hs : s.size ≤ 1048576) (g : Nat) (T : TypeId) (w0 w : World) (hV : Vars w0) (hM : MaxAt w) (h0 : Below w0.heap.size w0 w) (h0g : w0.heap.size ≤ g) (hk : w.heap[g]? = some (.cells #[.int .i64 0, .int .i64 0, .int .i64 0, .int .i64 0] T (0, 0))) :
    Calls Tryd.prog 37 #[.string s, .string ⟨#[47]⟩, .slice (some ⟨g, 0, none⟩) 4 4] w fun e w' => ∃ k, k ≤ 4 ∧ e = .returned (.bool (rsB s.data.toList)) ∧ (rsB s.data.toList = true → k = 4) ∧ w'.heap[g]? = some (.cells (ms (rfF s.data.toList) k) T (0, 0)) ∧ Below g w w' := by
  have SN := Lib.hid (splitn_any s hs w hM)
  have P4 := Lib.hid (prt_all s)
  have PG := Lib.hid fun h j hj => prt_get (s := s) h (j := j) hj
  have hsl : s.data.toList.length ≤ 1048576 := by simpa using hs
  clear hs hM
  generalize s.data.toList = L at P4 PG hsl ⊢
  have R : Hid (∀ (k : Nat) w, Vars w → Calls Tryd.prog 63 #[.string ⟨(rfP L k).toArray⟩] w fun e w' => e = .returned (.tuple #[.int .i64 (rfF L k), .bool (rdB (rfP L k))]) ∧ Below w.heap.size w w') := Lib.hid fun (k : Nat) w hV => read_any ⟨(rfP L k).toArray⟩ (by show (rfP L k).length ≤ _; have := rfP_len L k; omega) w hV
  have NL := Lib.hid fun h => rs_len (L := L) h
  have NR := Lib.hid fun k hk h => rs_rd (L := L) (k := k) hk h
  have YA := Lib.hid fun h4 h => rs_all (L := L) h4 h
  clear hsl
  generalize rfF L = F at R ⊢
  generalize rfP L = p at R NR YA PG
  generalize rsB L = b at NL NR YA ⊢
  generalize (spl 47 L).length = n at P4 NL YA
  generalize prt s = ps at SN P4 PG
  have hgl := lt_of_heap hk
  have HV : Hid (∀ wr, Below g w wr → Vars wr) := Lib.hid fun wr hb => hV.below (h0.trans (hb.mono h0g))
  have HK := Lib.hid (show w.heap[g]? = some (.cells (ms F 0) T (0, 0)) from hk)
  clear hV hk h0
  go_enter Tryd.func37, Tryd.ntmps37
  go_wp2_with fail
  refine SN.out.mono ?_
  rintro e w3 ⟨gp, cs, cap, rfl, hgp, kp, hcs, b3⟩
  have HB3 := Lib.hid (b3.mono (Nat.le_of_lt hgl))
  have KM3 := Lib.hid (Ba.blk_keep b3 HK.out)
  have KP3 := Lib.hid kp
  have CS := Lib.hid hcs
  have hne : gp ≠ g := by omega
  clear SN kp hcs b3 HK
  by_cases h4 : ps.length = 4
  · have CP : Hid (∀ j, j < 4 → cs[j]? = some (.string ⟨(p j).toArray⟩)) := Lib.hid fun j hj => by
      rw [CS.out j (by omega), PG.out h4 j hj]; rfl
    have hn := P4.out.1 h4
    have YA' := Lib.hid fun h => YA.out hn h
    rw [h4]
    clear CS PG P4 h4 NL YA hn
    go_wp2_with fail
    go_loopw [8, 9, 10, 11, 25] (fun _ _ _ _ i wr => ∃ k : Nat, k ≤ 4 ∧ i = .int .i64 (k : Int) ∧ Hid (Below g w wr) ∧ Hid (wr.heap[g]? = some (.cells (ms F k) T (0, 0))) ∧ Hid (wr.heap[gp]? = some (.cells cs 9 (0, 0))) ∧ Hid (∀ j, j < k → rdB (p j) = true)) (fun _ _ _ _ i _ => 4 - (RowKit.intOf i).toNat)
    case atStart => exact ⟨0, Nat.zero_le _, rfl, HB3, KM3, KP3, Lib.hid fun j hj => by omega⟩
    case round =>
      obtain ⟨k, hk, rfl, HB, KM, KP, HD⟩ := hrel
      by_cases hlt : k < 4
      · have RK := Lib.hid fun w hV => R.out k w hV
        have NK := Lib.hid fun h => NR.out k hlt h
        have ck := (cell_of_row _ _ k _ _ _ KP.out).trans (CP.out k hlt)
        have e0 : (0 : Int) ≤ (k : Int) := Int.natCast_nonneg _
        have hk4 : (k : Int) < 4 := by omega
        cases hok : rdB (p k)
        · have Z := Lib.hid (NK.out hok)
          rw [hok] at RK
          clear hok NK
          go_wp2_with fail
          refine (RK.out _ (HV.out _ HB.out)).mono ?_
          rintro e w4 ⟨rfl, b4⟩
          have hz4 := lt_of_heap KM.out
          have HB4 := Lib.hid (HB.out.trans (b4.mono (Nat.le_of_lt hz4)))
          have KM4 := Lib.hid (Ba.blk_keep b4 KM.out)
          clear b4 ck
          go_wp2_with fail
          go_ret
          exact ⟨k, hk, (by rw [Z.out]; rfl), (fun h => by rw [Z.out] at h; cases h), KM4.out, HB4.out⟩
        · have HD' : Hid (∀ j, j < k + 1 → rdB (p j) = true) := Lib.hid fun j hj => by
            by_cases e : j = k
            · rw [e]; exact hok
            · exact HD.out j (by omega)
          rw [hok] at RK
          clear hok NK
          go_wp2_with fail
          refine (RK.out _ (HV.out _ HB.out)).mono ?_
          rintro e w4 ⟨rfl, b4⟩
          have hz4 := lt_of_heap KM.out
          have HB4 := Lib.hid (HB.out.trans (b4.mono (Nat.le_of_lt hz4)))
          have KM4 := Lib.hid (Ba.blk_keep b4 KM.out)
          have KP4 := Lib.hid (Ba.blk_keep b4 KP.out)
          clear b4 ck
          have cm := (cell_of_row _ _ k _ _ _ KM4.out).trans (ms_at F hlt)
          have hfr := blk_free KM4.out
          have hl4 := lt_of_heap KM4.out
          go_wp2_with fail
          have HB5 := Lib.hid (HB4.out.setCell (p := ⟨g, k, none⟩) (by simp) (.int .i64 (F k)))
          have KM5 := Lib.hid (heap_set KM4.out k (.int .i64 (F k)))
          have KP5 := Lib.hid (heap_other KP4.out (b := g) (Ne.symm hne) k (.int .i64 (F k)))
          rw [ms_set F hlt] at KM5
          go_roundw
          case rel => exact ⟨k + 1, by omega, by go_num, HB5, KM5, KP5, HD'⟩
          case measure => simp [RowKit.intOf] <;> omega
      · obtain rfl : k = 4 := by omega
        have Z := Lib.hid (YA'.out HD.out)
        clear hk hlt YA' HD NR R CP KP HV
        go_wp2_with fail
        go_ret
        exact ⟨4, Nat.le_refl _, (by rw [Z.out]; rfl), (fun _ => rfl), KM.out, HB.out⟩
  · have Z := Lib.hid (NL.out fun h => h4 (P4.out.2 h))
    have hne' : ¬ (ps.length : Int) = 4 := by omega
    clear NL NR YA R CS PG P4 KP3 HV
    go_wp2_with fail
    go_ret
    exact ⟨0, Nat.zero_le _, (by rw [Z.out]; rfl), (fun h => by rw [Z.out] at h; cases h), KM3.out, HB3.out⟩
end Go.Proofs.YtcnbnpeilkdfiaaDoor.Rk
