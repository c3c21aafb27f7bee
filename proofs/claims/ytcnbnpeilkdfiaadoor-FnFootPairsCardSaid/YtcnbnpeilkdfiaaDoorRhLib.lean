/- strings.SplitN at a text of one byte, against the parts. -/
import Derived.Test.YtcnbnpeilkdfiaaDoorSn
import Derived.Test.YtcnbnpeilkdfiaaDoorRfLib
import Derived.Lib.Split
import Derived.Lib.IndexLaws
import Derived.Lib.IndexBytes
namespace Go.Proofs.YtcnbnpeilkdfiaaDoor.Rh
open Go.RowKit St Rz Rf
set_option linter.unusedVariables false

theorem cut_at {c : UInt8} {L : List UInt8} {o : Nat} (h : L[o]? = some c) : L = L.take o ++ c :: L.drop (o + 1) := by
  obtain ⟨ho, hc⟩ := List.getElem?_eq_some_iff.1 h
  conv => lhs; rw [← List.take_append_drop o L, List.drop_eq_getElem_cons ho, hc]
theorem split_k (c : UInt8) (k : Nat) (L : List UInt8) : (Lib.splitK [c] 0 k L).length = min (k + 1) (spl c L).length ∧ ((spl c L).length ≤ k + 1 → Lib.splitK [c] 0 k L = spl c L) := by
  induction k generalizing L with
  | zero =>
    have hl := List.length_pos_iff.2 (spl_ne c L)
    refine ⟨by unfold Lib.splitK; simp; omega, fun h => ?_⟩
    unfold Lib.splitK
    match hs : spl c L, h with
    | [], _ => exact absurd hs (spl_ne c L)
    | [p], _ =>
      rcases spl_inv hs with ⟨_, rfl, _⟩ | ⟨r, _, _, hr⟩
      · rfl
      · exact absurd hr.symm (spl_ne _ _)
    | p :: q :: r, h => simp at h
  | succ k ih =>
    by_cases hi : Lib.index L [c] = -1
    · have hn : ∀ x ∈ L, x ≠ c := fun x hx e => by
        subst e
        obtain ⟨j, hj⟩ := List.mem_iff_getElem?.1 hx
        rw [Lib.index_one] at hi
        exact Lib.indexByte_none hi j hj
      rw [spl_none c L hn]
      unfold Lib.splitK
      rw [if_pos (beq_iff_eq.2 hi)]
      exact ⟨by simp, fun _ => rfl⟩
    · have hge := Lib.index_ge L [c]
      obtain ⟨o, ho⟩ : ∃ o : Nat, Lib.index L [c] = o := ⟨(Lib.index L [c]).toNat, by omega⟩
      have hb := ho
      rw [Lib.index_one] at hb
      obtain ⟨hc, hf⟩ := Lib.indexByte_some hb
      have hsp : spl c L = L.take o :: spl c (L.drop (o + 1)) := by
        conv => lhs; rw [cut_at hc]
        exact spl_hit c _ _ fun x hx e => by
          subst e
          obtain ⟨j, hj⟩ := List.mem_iff_getElem?.1 hx
          rw [List.getElem?_take] at hj
          split at hj
          · rename_i hlt; exact hf j hlt hj
          · cases hj
      obtain ⟨h1, h2⟩ := ih (L.drop (o + 1))
      have hk : Lib.splitK [c] 0 (k + 1) L = L.take o :: Lib.splitK [c] 0 k (L.drop (o + 1)) := by
        rw [Lib.splitK, if_neg (fun e => hi (beq_iff_eq.1 e)), ho]
        rfl
      rw [hk, hsp]
      refine ⟨by simp only [List.length_cons, h1]; omega, fun h => ?_⟩
      simp only [List.length_cons] at h
      rw [h2 (by omega)]
/-- What SplitN hands back of a text, five parts at most. -/
def prt (s : ByteArray) : List ByteArray := Lib.splitB ⟨#[47]⟩ 0 (min 5 (s.size + 1) - 1) s
theorem prt_data (s : ByteArray) : (prt s).map (·.data.toList) = Lib.splitK [47] 0 (min 5 (s.size + 1) - 1) s.data.toList := Lib.splitB_data _ _ _ _
theorem prt_len (s : ByteArray) : (prt s).length = min (min 5 (s.size + 1) - 1 + 1) (spl 47 s.data.toList).length := by
  rw [← (split_k 47 _ s.data.toList).1, ← prt_data, List.length_map]
theorem prt_four (s : ByteArray) : (prt s).length = 4 ↔ (spl 47 s.data.toList).length = 4 := by
  have h1 := prt_len s
  have h2 := spl_len 47 s.data.toList
  have h3 : s.data.toList.length = s.size := by simp
  omega
theorem prt_get {s : ByteArray} (h : (prt s).length = 4) {j : Nat} (hj : j < 4) : (prt s)[j]? = some ⟨(rfP s.data.toList j).toArray⟩ := by
  have h4 := (prt_four s).1 h
  have h2 := spl_len 47 s.data.toList
  have h3 : s.data.toList.length = s.size := by simp
  have hd := prt_data s
  rw [(split_k 47 _ s.data.toList).2 (by omega)] at hd
  have hg := congrArg (fun l : List (List UInt8) => l[j]?) hd
  simp only [List.getElem?_map] at hg
  rw [List.getElem?_eq_getElem (by omega : j < (prt s).length), List.getElem?_eq_getElem (by omega : j < (spl 47 s.data.toList).length)] at hg
  simp only [Option.map_some, Option.some.injEq] at hg
  rw [List.getElem?_eq_getElem (by omega : j < (prt s).length)]
  congr 1
  unfold rfP
  rw [List.getD_eq_getElem?_getD, List.getElem?_eq_getElem (by omega : j < (spl 47 s.data.toList).length), Option.getD_some, ← hg]
end Go.Proofs.YtcnbnpeilkdfiaaDoor.Rh
