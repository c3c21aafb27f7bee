/- FootText: the spec's text. -/
import Derived.Test.YtcnbnpeilkdfiaaDoorTbLib
import Derived.Test.YtcnbnpeilkdfiaaDoorFtLib
import Derived.OpenShut
import Derived.Lib.ItoaLen
import Derived.Deep.RegionHeld3
import Derived.RegionTactic
namespace Go.Proofs.YtcnbnpeilkdfiaaDoor.Fx
open Go.RowKit Ba Go.Lib Dc Ds Tb
set_option linter.unusedVariables false

theorem keep_of {w2 w' : World} {g i : Nat} {v : Value} (hb : Below w2.heap.size w2 w') (hg : g < w2.heap.size) (h : w2.cell? ⟨g, i, none⟩ = some v) : w'.cell? ⟨g, i, none⟩ = some v := (hb.cell (p := ⟨g, i, none⟩) hg).trans h
/-- The text of a foot's measures. -/
def ftL (l b i h : Int) : List UInt8 := itoa l ++ [47] ++ itoa b ++ [47] ++ itoa i ++ [47] ++ itoa h
def ftT (l b i h : Int) : ByteArray := if Ft.ftB l b i h then ⟨(ftL l b i h).toArray⟩ else ⟨#[]⟩
theorem app_eq (a b : List UInt8) : (⟨a.toArray⟩ ++ ⟨b.toArray⟩ : ByteArray) = ⟨(a ++ b).toArray⟩ := by
  apply ByteArray.ext
  simp
theorem len_le (n : Int) (h0 : 500 ≤ n) (h1 : n ≤ 5000) : (itoa n).length ≤ 21 := itoa_length_le n (by omega) (by omega)
theorem ft_is {l b i h : Int} (r : Ft.ftB l b i h = true) : (500 ≤ l ∧ l ≤ 5000) ∧ (500 ≤ b ∧ b ≤ 5000) ∧ (500 ≤ i ∧ i ≤ 5000) ∧ (500 ≤ h ∧ h ≤ 5000) := by
  unfold Ft.ftB Ft.inB at r
  simpa using r
end Go.Proofs.YtcnbnpeilkdfiaaDoor.Fx
