/-
  DERIVED. GIVEN WITH THE SEED: THE CARDS: each row of YtcnbnpeilkdfiaaDoorRows.lean that lists a variable, with what it lists TIED to the program's text (the seventh form; the later family's looks); each row that meets fmt, with fmt's text TOLD by the authors' own Lean function (tested against real Go, not proved from fmt's source: count such statements apart). THE CARD IS WHAT COUNTS. Prove the row's statement (the work); the ties are given (YtcnbnpeilkdfiaaDoorTie.lean); close each card by the builder's one call (the guide's Derived/Test/ToyasCard.lean, 'card_holds'). Laid BY PROGRAM, IN A SANDBOX (cutbox-door.mjs). By AI agents, Wed Nov 11 2026. No macro, syntax, notation, axiom, sorry.
-/
import Derived.Test.YtcnbnpeilkdfiaaDoorRows
import GoSem.ClaimSeven
namespace Go.Proofs.YtcnbnpeilkdfiaaDoor
namespace Rows

/-- THE TIED CARD OF 'laws.FnFootPairs'. -/
def fnFootPairsCard : Claim7 := { stood := { row := fnFootPairsRow, standIns := [], harness := (true, "984b4fd4cde0b60d2bb8cfa6741e01dc6411ac13f2aec91989ea4a29d0eaf3ce"), looks := true }, kinds := [], alts := [], laidByText := true, laidKinds := [.data, .data, .data, .data, .sentinel, .sentinel, .pinned], laidTests := true, laidLooks := .later }
def FnFootPairsCardSaid : Prop := Claim7.holds Tryd.pinned (.plain (OpenSpec.ofChange fnFootPairsSpec)) fnFootPairsCard

/-- THE TIED CARD OF 'laws.FnNotches'. -/
def fnNotchesCard : Claim7 := { stood := { row := fnNotchesRow, standIns := [], harness := (true, "984b4fd4cde0b60d2bb8cfa6741e01dc6411ac13f2aec91989ea4a29d0eaf3ce"), looks := true }, kinds := [], alts := [], laidByText := true, laidKinds := [.handle, .sentinel, .sentinel, .sentinel], laidTests := true, laidLooks := .later }
def FnNotchesCardSaid : Prop := Claim7.holds Tryd.pinned (.plain (OpenSpec.ofChange fnNotchesSpec)) fnNotchesCard

/-- THE SECOND FORM's CARD OF 'laws.FnFootPairs'. -/
def fnFootPairsUptoCard : Claim7 := { stood := { row := fnFootPairsUptoRow, standIns := [], harness := (true, "984b4fd4cde0b60d2bb8cfa6741e01dc6411ac13f2aec91989ea4a29d0eaf3ce"), looks := true }, kinds := [], alts := [], laidByText := true, laidKinds := [.data, .data, .data, .data, .sentinel, .sentinel, .pinned], laidTests := true, laidLooks := .later }
def FnFootPairsUptoCardSaid : Prop := Claim7.holds Tryd.pinned (.plain (OpenSpec.upto fnFootPairsSpec)) fnFootPairsUptoCard

/-- THE SECOND FORM's CARD OF 'laws.FnNotches'. -/
def fnNotchesUptoCard : Claim7 := { stood := { row := fnNotchesUptoRow, standIns := [], harness := (true, "984b4fd4cde0b60d2bb8cfa6741e01dc6411ac13f2aec91989ea4a29d0eaf3ce"), looks := true }, kinds := [], alts := [], laidByText := true, laidKinds := [.handle, .sentinel, .sentinel, .sentinel], laidTests := true, laidLooks := .later }
def FnNotchesUptoCardSaid : Prop := Claim7.holds Tryd.pinned (.plain (OpenSpec.upto fnNotchesSpec)) fnNotchesUptoCard
end Rows
end Go.Proofs.YtcnbnpeilkdfiaaDoor
