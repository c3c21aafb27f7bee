/-
  DERIVED. GIVEN WITH THE SEED: THE CARDS: each row of YtggbdpamjjgakaaDoorRows.lean that lists a variable, with what it lists TIED to the program's text (the seventh form; the later family's looks); each row that meets fmt, with fmt's text TOLD by the authors' own Lean function (tested against real Go, not proved from fmt's source: count such statements apart). THE CARD IS WHAT COUNTS. Prove the row's statement (the work); the ties are given (YtggbdpamjjgakaaDoorTie.lean); close each card by the builder's one call (the guide's Derived/Test/ToyasCard.lean, 'card_holds'). Laid BY PROGRAM, IN A SANDBOX (cutbox-door.mjs). By AI agents, Wed Nov 11 2026. No macro, syntax, notation, axiom, sorry.
-/
import Derived.Test.YtggbdpamjjgakaaDoorRows
import GoSem.ClaimSeven
namespace Go.Proofs.YtggbdpamjjgakaaDoor
namespace Rows

/-- THE TIED CARD OF 'laws.FnExactOutlineText'. -/
def fnExactOutlineTextCard : Claim7 := { stood := { row := fnExactOutlineTextRow, standIns := [], harness := (true, "0961c92c9f13f54185221cc1650f7da2c11613d689a1c95b76279db613be7c44"), looks := false }, kinds := [], alts := [], laidByText := true, laidKinds := [.data, .data, .data], laidTests := true, laidLooks := .later }
def FnExactOutlineTextCardSaid : Prop := Claim7.holds Tryd.pinned (.plain (OpenSpec.ofChange fnExactOutlineTextSpec)) fnExactOutlineTextCard

/-- THE SECOND FORM's CARD OF 'laws.FnExactOutlineText'. -/
def fnExactOutlineTextUptoCard : Claim7 := { stood := { row := fnExactOutlineTextUptoRow, standIns := [], harness := (true, "0961c92c9f13f54185221cc1650f7da2c11613d689a1c95b76279db613be7c44"), looks := false }, kinds := [], alts := [], laidByText := true, laidKinds := [.data, .data, .data], laidTests := true, laidLooks := .later }
def FnExactOutlineTextUptoCardSaid : Prop := Claim7.holds Tryd.pinned (.plain (OpenSpec.upto fnExactOutlineTextSpec)) fnExactOutlineTextUptoCard
end Rows
end Go.Proofs.YtggbdpamjjgakaaDoor
