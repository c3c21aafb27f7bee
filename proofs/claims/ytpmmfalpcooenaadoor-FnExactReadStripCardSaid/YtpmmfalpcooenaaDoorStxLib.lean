/- Numbers with a separator between them: the program's text of them. -/
import Derived.Test.YtpmmfalpcooenaaDoorTbLib
import Derived.Test.YtpmmfalpcooenaaDoorBuLib
import Derived.Lib.ItoaLen
namespace Go.Proofs.YtpmmfalpcooenaaDoor.Stx
open Go.RowKit Ba Go.Lib Dc Ds Tb Bu
set_option linter.unusedVariables false

theorem bu_keep {B b : Nat} {p : Value} {bs : List Value} {w w' : World} (h : At B b p bs w) (hb : Below w.heap.size w w') : At B b p bs w' := by
  obtain ⟨hB, v, hk, hown, hne⟩ := h
  refine ⟨hB, v, Ba.blk_keep hb hk, ⟨hown.1, ?_⟩, hne⟩
  rcases hown.2 with h0 | ⟨g, cap, cur, fz, hv, hbg, hh, r⟩
  · exact .inl h0
  · exact .inr ⟨g, cap, cur, fz, hv, hbg, Ba.blk_keep hb hh, r⟩
theorem cells_text (a t : List UInt8) : byteCells a ++ strCells ⟨t.toArray⟩ = byteCells (a ++ t) := by rw [byteCells_append]; rfl
/-- The first k numbers in decimal, a separator between them. -/
def tx (sp : List UInt8) (f : Nat → Int) : Nat → List UInt8
  | 0 => []
  | k + 1 => (if k = 0 then [] else tx sp f k ++ sp) ++ itoa (f k)
theorem dec_len (n : Int) (h0 : -20000 ≤ n) (h1 : n ≤ 20000) : (itoa n).length ≤ 21 := itoa_length_le n (by omega) (by omega)
theorem tx_len {sp : List UInt8} {f : Nat → Int} {n : Nat} (hsp : sp.length = 1) (h : ∀ k, k < n → -20000 ≤ f k ∧ f k ≤ 20000) : ∀ k, k ≤ n → (tx sp f k).length ≤ 22 * k
  | 0, _ => by simp [tx]
  | k + 1, hk => by
    have ih := tx_len hsp h k (by omega)
    have hd := dec_len (f k) (h k (by omega)).1 (h k (by omega)).2
    unfold tx
    split
    · simp; omega
    · simp; omega

end Go.Proofs.YtpmmfalpcooenaaDoor.Stx
