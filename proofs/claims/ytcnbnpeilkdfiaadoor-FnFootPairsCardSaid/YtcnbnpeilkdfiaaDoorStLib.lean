/- Texts split at a byte: plain, and the spec's. -/
import Derived.Test.YtcnbnpeilkdfiaaDoorBaLib
import Derived.Deep.AppendLies
import Derived.Deep.RegionHeld3
import Derived.OwnWalk
import Derived.Below
import Derived.Lib.Hide
import Derived.Lib.IndexBytes
namespace Go.Proofs.YtcnbnpeilkdfiaaDoor.St
open Go.RowKit Ba
set_option linter.unusedVariables false

/-- The parts of a text between the bytes c. -/
def spl (c : UInt8) : List UInt8 → List (List UInt8)
  | [] => [[]]
  | x :: r => if x = c then [] :: spl c r else match spl c r with
    | p :: ps => (x :: p) :: ps
    | [] => [[x]]
theorem spl_ne (c : UInt8) (l : List UInt8) : spl c l ≠ [] := by
  cases l with
  | nil => simp [spl]
  | cons x r =>
    unfold spl
    split
    · simp
    · split <;> simp
theorem spl_hit (c : UInt8) (a r : List UInt8) (h : ∀ x ∈ a, x ≠ c) : spl c (a ++ c :: r) = a :: spl c r := by
  induction a with
  | nil => simp [spl]
  | cons x a ih =>
    have hx := h x (by simp)
    have ih' := ih fun y hy => h y (by simp [hy])
    rw [List.cons_append, spl, if_neg hx, ih']
theorem spl_none (c : UInt8) (a : List UInt8) (h : ∀ x ∈ a, x ≠ c) : spl c a = [a] := by
  induction a with
  | nil => simp [spl]
  | cons x a ih =>
    have hx := h x (by simp)
    have ih' := ih fun y hy => h y (by simp [hy])
    rw [spl, if_neg hx, ih']
theorem spl_len (c : UInt8) (l : List UInt8) : (spl c l).length ≤ l.length + 1 := by
  induction l with
  | nil => simp [spl]
  | cons x r ih =>
    unfold spl
    split
    · simpa using ih
    · split
      · rename_i p ps h
        rw [h] at ih
        simp at ih ⊢
        omega
      · simp
/-- The parts as values. -/
def strs (l : List (List UInt8)) : List Value := l.map fun p => .string ⟨p.toArray⟩
theorem strs_snoc (l : List (List UInt8)) (p : List UInt8) : strs (l ++ [p]) = strs l ++ [.string ⟨p.toArray⟩] := by simp [strs]
theorem strs_len (l : List (List UInt8)) : (strs l).length = l.length := by simp [strs]
theorem ext_eq (s : ByteArray) (j k : Nat) : s.extract j k = ⟨((s.data.toList.drop j).take (k - j)).toArray⟩ := by
  apply ByteArray.ext
  rw [ByteArray.data_extract]
  apply Array.ext'
  rw [Array.toList_extract, List.extract_eq_take_drop]
theorem row_below {w w' : World} {base : Nat} {e : TypeId} {size n : Nat} {v : Value} {xs : List Value} (h : w.ownsRow base e size v n xs) (hb : Below w.heap.size w w') : w'.ownsRow base e size v n xs :=
  ⟨h.1, by
    rcases h.2 with h0 | ⟨g, cap, cur, hv, hbg, hh, r⟩
    · exact .inl h0
    · exact .inr ⟨g, cap, cur, hv, hbg, (hb.block g (lt_of_heap hh)).trans hh, r⟩⟩
theorem cell_one (w : World) (v : Value) (t : TypeId) : ∀ j u, [v][j]? = some u → (w.alloc (.cells #[v] t)).cell? ⟨w.heap.size, j, none⟩ = some u := fun j u h => by
  rw [cell_of_row _ _ j _ _ (0, 0) (heap_alloc_new _ _)]
  cases j with
  | zero => simpa using h
  | succ j => simp at h
theorem info_str : (Tryd.prog.info? 9).map (fun i => (i.zero, i.size, i.bytes)) = some (some (.string ByteArray.empty), 1, 16) := by kernel_rfl
/-- Parts behind k bytes, from byte j on not yet taken. -/
theorem step_hit {c : UInt8} {L : List UInt8} {j k : Nat} (hj : j ≤ k) (hk : k < L.length) (hn : ∀ x ∈ (L.drop j).take (k - j), x ≠ c) (hc : L[k]? = some c) {out : List (List UInt8)} (h : spl c L = out ++ spl c (L.drop j)) :
    spl c L = (out ++ [(L.drop j).take (k - j)]) ++ spl c (L.drop (k + 1)) := by
  have e : L.drop j = (L.drop j).take (k - j) ++ c :: L.drop (k + 1) := by
    conv => lhs; rw [← List.take_append_drop (k - j) (L.drop j)]
    rw [List.drop_drop, show j + (k - j) = k by omega, List.drop_eq_getElem_cons hk, show L[k] = c by rw [List.getElem?_eq_getElem hk] at hc; exact Option.some.inj hc]
  rw [h, List.append_assoc]
  conv => lhs; rw [e, spl_hit _ _ _ hn]
  rfl
theorem step_miss {c : UInt8} {L : List UInt8} {j k : Nat} (hj : j ≤ k) (hk : k < L.length) (hn : ∀ x ∈ (L.drop j).take (k - j), x ≠ c) (hc : ¬ L[k]? = some c) : ∀ x ∈ (L.drop j).take (k + 1 - j), x ≠ c := by
  intro x hx
  rw [show k + 1 - j = (k - j) + 1 by omega, List.take_succ_eq_append_getElem (by simp; omega)] at hx
  rcases List.mem_append.1 hx with h | h
  · exact hn x h
  · simp at h
    rw [h]
    intro h'
    refine hc ?_
    rw [List.getElem?_eq_getElem hk]
    simpa [show j + (k - j) = k by omega] using h'
theorem step_end {c : UInt8} {L : List UInt8} {j k : Nat} (hk : L.length ≤ k) (hn : ∀ x ∈ (L.drop j).take (k - j), x ≠ c) {out : List (List UInt8)} (h : spl c L = out ++ spl c (L.drop j)) : spl c L = out ++ [L.drop j] := by
  rw [List.take_of_length_le (by simp; omega)] at hn
  rw [h, spl_none _ _ hn]

end Go.Proofs.YtcnbnpeilkdfiaaDoor.St
