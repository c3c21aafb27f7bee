/- ValidPattern: the program's. -/
import Derived.Test.YtpmmfalpcooenabZdLib
namespace Go.Proofs.Ytpmmfalpcooenab.Vq
set_option linter.unusedVariables false
open Go.RowKit Go.Maps Ft Is Ge Qb Pt Pv Za Mm Zb Zc Zd

/-- What the program's surfaceOf tells, with the slice taken apart. -/
theorem SfAt.cases {A : Option Addr} {n c : Nat} {N : Nat → ByteArray} {ms : Nat → Nat} {ds : Nat → Nat → Int} {Y : Option Addr} {k sc : Nat} {S : Nat → Int} {o : Int} {w w' : World} {e : Ending} (h : SfAt A n c N ms ds Y k sc S o w e w') :
    Below w.heap.size w w' ∧ ((tv (PatP n N ms ds k S o) = false ∧ e = .returned (.tuple #[sfZ, .bool false])) ∨ (tv (PatP n N ms ds k S o) = true ∧ ∃ ea el ec bm P g, e = .returned (.tuple #[sfV A n c Y k sc o (.slice ea el ec) bm, .bool true]) ∧ Hid (Surf w.heap.size n ms ds (plc ms n) (plc ms n) (mate S k) (.slice ea el ec) bm P g w'))) := by
  obtain ⟨hb, h⟩ := h
  refine ⟨hb, ?_⟩
  rcases h with ⟨h1, h2⟩ | ⟨h1, es, bm, P, g, h2, h3⟩
  · exact .inl ⟨tv_no h1, h2⟩
  · obtain ⟨ea, el, ec, rfl⟩ := own_slice h3.out.row
    exact .inr ⟨tv_yes h1, ea, el, ec, bm, P, g, h2, h3⟩
end Go.Proofs.Ytpmmfalpcooenab.Vq
