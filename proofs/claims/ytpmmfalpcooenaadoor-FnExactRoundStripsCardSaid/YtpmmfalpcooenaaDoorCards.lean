/-
  DERIVED. GIVEN WITH THE SEED: THE CARDS: each row of YtpmmfalpcooenaaDoorRows.lean that lists a variable, with what it lists TIED to the program's text (the seventh form; the later family's looks); each row that meets fmt, with fmt's text TOLD by the authors' own Lean function (tested against real Go, not proved from fmt's source: count such statements apart). THE CARD IS WHAT COUNTS. Prove the row's statement (the work); the ties are given (YtpmmfalpcooenaaDoorTie.lean); close each card by the builder's one call (the guide's Derived/Test/ToyasCard.lean, 'card_holds'). Laid BY PROGRAM, IN A SANDBOX (cutbox-door.mjs). By AI agents, Wed Nov 11 2026. No macro, syntax, notation, axiom, sorry.
-/
import Derived.Test.YtpmmfalpcooenaaDoorRows
import GoSem.ClaimSeven
namespace Go.Proofs.YtpmmfalpcooenaaDoor
namespace Rows

/-- THE TIED CARD OF 'laws.FnExactValidStrips'. -/
def fnExactValidStripsCard : Claim7 := { stood := { row := fnExactValidStripsRow, standIns := [], harness := (true, "4578adaa979e7ce11ed998cfa8db482128bdfe83769be3beb7dba9f61eac1c7c"), looks := true }, kinds := [], alts := [], laidByText := true, laidKinds := [.sentinel, .sentinel], laidTests := true, laidLooks := .later }
def FnExactValidStripsCardSaid : Prop := Claim7.holds Tryd.pinned (.plain (OpenSpec.ofChange fnExactValidStripsSpec)) fnExactValidStripsCard

/-- THE TIED CARD OF 'laws.FnExactCutLengths'. -/
def fnExactCutLengthsCard : Claim7 := { stood := { row := fnExactCutLengthsRow, standIns := [], harness := (true, "4578adaa979e7ce11ed998cfa8db482128bdfe83769be3beb7dba9f61eac1c7c"), looks := true }, kinds := [], alts := [], laidByText := true, laidKinds := [.handle, .sentinel, .sentinel], laidTests := true, laidLooks := .later }
def FnExactCutLengthsCardSaid : Prop := Claim7.holds Tryd.pinned (.plain (OpenSpec.ofChange fnExactCutLengthsSpec)) fnExactCutLengthsCard

/-- THE TIED CARD OF 'laws.FnExactRoundStrips'. -/
def fnExactRoundStripsCard : Claim7 := { stood := { row := fnExactRoundStripsRow, standIns := [], harness := (true, "4578adaa979e7ce11ed998cfa8db482128bdfe83769be3beb7dba9f61eac1c7c"), looks := true }, kinds := [], alts := [], laidByText := true, laidKinds := [.handle, .sentinel, .sentinel], laidTests := true, laidLooks := .later }
def FnExactRoundStripsCardSaid : Prop := Claim7.holds Tryd.pinned (.plain (OpenSpec.ofChange fnExactRoundStripsSpec)) fnExactRoundStripsCard

/-- THE TIED CARD OF 'laws.FnExactAddAllow'. -/
def fnExactAddAllowCard : Claim7 := { stood := { row := fnExactAddAllowRow, standIns := [], harness := (true, "4578adaa979e7ce11ed998cfa8db482128bdfe83769be3beb7dba9f61eac1c7c"), looks := true }, kinds := [], alts := [], laidByText := true, laidKinds := [.handle, .sentinel, .sentinel], laidTests := true, laidLooks := .later }
def FnExactAddAllowCardSaid : Prop := Claim7.holds Tryd.pinned (.plain (OpenSpec.ofChange fnExactAddAllowSpec)) fnExactAddAllowCard

/-- THE TIED CARD OF 'laws.FnExactAllowArea'. -/
def fnExactAllowAreaCard : Claim7 := { stood := { row := fnExactAllowAreaRow, standIns := [], harness := (true, "4578adaa979e7ce11ed998cfa8db482128bdfe83769be3beb7dba9f61eac1c7c"), looks := true }, kinds := [], alts := [], laidByText := true, laidKinds := [.handle, .sentinel, .sentinel], laidTests := true, laidLooks := .later }
def FnExactAllowAreaCardSaid : Prop := Claim7.holds Tryd.pinned (.plain (OpenSpec.ofChange fnExactAllowAreaSpec)) fnExactAllowAreaCard

/-- THE TIED CARD OF 'laws.FnExactNotchesOf'. -/
def fnExactNotchesOfCard : Claim7 := { stood := { row := fnExactNotchesOfRow, standIns := [], harness := (true, "4578adaa979e7ce11ed998cfa8db482128bdfe83769be3beb7dba9f61eac1c7c"), looks := true }, kinds := [], alts := [], laidByText := true, laidKinds := [.handle, .sentinel, .sentinel, .sentinel], laidTests := true, laidLooks := .later }
def FnExactNotchesOfCardSaid : Prop := Claim7.holds Tryd.pinned (.plain (OpenSpec.ofChange fnExactNotchesOfSpec)) fnExactNotchesOfCard

/-- THE TIED CARD OF 'laws.FnExactNotchFault'. -/
def fnExactNotchFaultCard : Claim7 := { stood := { row := fnExactNotchFaultRow, standIns := [], harness := (true, "4578adaa979e7ce11ed998cfa8db482128bdfe83769be3beb7dba9f61eac1c7c"), looks := true }, kinds := [], alts := [], laidByText := true, laidKinds := [.handle, .sentinel, .sentinel, .sentinel], laidTests := true, laidLooks := .later }
def FnExactNotchFaultCardSaid : Prop := Claim7.holds Tryd.pinned (.plain (OpenSpec.ofChange fnExactNotchFaultSpec)) fnExactNotchFaultCard

/-- THE TIED CARD OF 'laws.FnExactEaseOf'. -/
def fnExactEaseOfCard : Claim7 := { stood := { row := fnExactEaseOfRow, standIns := [], harness := (true, "4578adaa979e7ce11ed998cfa8db482128bdfe83769be3beb7dba9f61eac1c7c"), looks := true }, kinds := [], alts := [], laidByText := true, laidKinds := [.handle, .sentinel, .sentinel, .sentinel], laidTests := true, laidLooks := .later }
def FnExactEaseOfCardSaid : Prop := Claim7.holds Tryd.pinned (.plain (OpenSpec.ofChange fnExactEaseOfSpec)) fnExactEaseOfCard

/-- THE TIED CARD OF 'laws.FnExactFoldLength'. -/
def fnExactFoldLengthCard : Claim7 := { stood := { row := fnExactFoldLengthRow, standIns := [], harness := (true, "4578adaa979e7ce11ed998cfa8db482128bdfe83769be3beb7dba9f61eac1c7c"), looks := true }, kinds := [], alts := [], laidByText := true, laidKinds := [.handle, .sentinel, .sentinel], laidTests := true, laidLooks := .later }
def FnExactFoldLengthCardSaid : Prop := Claim7.holds Tryd.pinned (.plain (OpenSpec.ofChange fnExactFoldLengthSpec)) fnExactFoldLengthCard

/-- THE TIED CARD OF 'laws.FnExactStripText'. -/
def fnExactStripTextCard : Claim7 := { stood := { row := fnExactStripTextRow, standIns := [], harness := (true, "4578adaa979e7ce11ed998cfa8db482128bdfe83769be3beb7dba9f61eac1c7c"), looks := true }, kinds := [], alts := [], laidByText := true, laidKinds := [.data, .data, .data, .data, .sentinel], laidTests := true, laidLooks := .later }
def FnExactStripTextCardSaid : Prop := Claim7.holds Tryd.pinned (.plain (OpenSpec.ofChange fnExactStripTextSpec)) fnExactStripTextCard

/-- THE TIED CARD OF 'laws.FnExactReadStrip'. -/
def fnExactReadStripCard : Claim7 := { stood := { row := fnExactReadStripRow, standIns := [], harness := (true, "4578adaa979e7ce11ed998cfa8db482128bdfe83769be3beb7dba9f61eac1c7c"), looks := true }, kinds := [], alts := [], laidByText := true, laidKinds := [.data, .data, .data, .sentinel, .sentinel, .data, .sentinel], laidTests := true, laidLooks := .later }
def FnExactReadStripCardSaid : Prop := Claim7.holds Tryd.pinned (.plain (OpenSpec.ofChange fnExactReadStripSpec)) fnExactReadStripCard

/-- THE SECOND FORM's CARD OF 'laws.FnExactValidStrips'. -/
def fnExactValidStripsUptoCard : Claim7 := { stood := { row := fnExactValidStripsUptoRow, standIns := [], harness := (true, "4578adaa979e7ce11ed998cfa8db482128bdfe83769be3beb7dba9f61eac1c7c"), looks := true }, kinds := [], alts := [], laidByText := true, laidKinds := [.sentinel, .sentinel], laidTests := true, laidLooks := .later }
def FnExactValidStripsUptoCardSaid : Prop := Claim7.holds Tryd.pinned (.plain (OpenSpec.upto fnExactValidStripsSpec)) fnExactValidStripsUptoCard

/-- THE SECOND FORM's CARD OF 'laws.FnExactCutLengths'. -/
def fnExactCutLengthsUptoCard : Claim7 := { stood := { row := fnExactCutLengthsUptoRow, standIns := [], harness := (true, "4578adaa979e7ce11ed998cfa8db482128bdfe83769be3beb7dba9f61eac1c7c"), looks := true }, kinds := [], alts := [], laidByText := true, laidKinds := [.handle, .sentinel, .sentinel], laidTests := true, laidLooks := .later }
def FnExactCutLengthsUptoCardSaid : Prop := Claim7.holds Tryd.pinned (.plain (OpenSpec.upto fnExactCutLengthsSpec)) fnExactCutLengthsUptoCard

/-- THE SECOND FORM's CARD OF 'laws.FnExactRoundStrips'. -/
def fnExactRoundStripsUptoCard : Claim7 := { stood := { row := fnExactRoundStripsUptoRow, standIns := [], harness := (true, "4578adaa979e7ce11ed998cfa8db482128bdfe83769be3beb7dba9f61eac1c7c"), looks := true }, kinds := [], alts := [], laidByText := true, laidKinds := [.handle, .sentinel, .sentinel], laidTests := true, laidLooks := .later }
def FnExactRoundStripsUptoCardSaid : Prop := Claim7.holds Tryd.pinned (.plain (OpenSpec.upto fnExactRoundStripsSpec)) fnExactRoundStripsUptoCard

/-- THE SECOND FORM's CARD OF 'laws.FnExactAddAllow'. -/
def fnExactAddAllowUptoCard : Claim7 := { stood := { row := fnExactAddAllowUptoRow, standIns := [], harness := (true, "4578adaa979e7ce11ed998cfa8db482128bdfe83769be3beb7dba9f61eac1c7c"), looks := true }, kinds := [], alts := [], laidByText := true, laidKinds := [.handle, .sentinel, .sentinel], laidTests := true, laidLooks := .later }
def FnExactAddAllowUptoCardSaid : Prop := Claim7.holds Tryd.pinned (.plain (OpenSpec.upto fnExactAddAllowSpec)) fnExactAddAllowUptoCard

/-- THE SECOND FORM's CARD OF 'laws.FnExactAllowArea'. -/
def fnExactAllowAreaUptoCard : Claim7 := { stood := { row := fnExactAllowAreaUptoRow, standIns := [], harness := (true, "4578adaa979e7ce11ed998cfa8db482128bdfe83769be3beb7dba9f61eac1c7c"), looks := true }, kinds := [], alts := [], laidByText := true, laidKinds := [.handle, .sentinel, .sentinel], laidTests := true, laidLooks := .later }
def FnExactAllowAreaUptoCardSaid : Prop := Claim7.holds Tryd.pinned (.plain (OpenSpec.upto fnExactAllowAreaSpec)) fnExactAllowAreaUptoCard

/-- THE SECOND FORM's CARD OF 'laws.FnExactNotchesOf'. -/
def fnExactNotchesOfUptoCard : Claim7 := { stood := { row := fnExactNotchesOfUptoRow, standIns := [], harness := (true, "4578adaa979e7ce11ed998cfa8db482128bdfe83769be3beb7dba9f61eac1c7c"), looks := true }, kinds := [], alts := [], laidByText := true, laidKinds := [.handle, .sentinel, .sentinel, .sentinel], laidTests := true, laidLooks := .later }
def FnExactNotchesOfUptoCardSaid : Prop := Claim7.holds Tryd.pinned (.plain (OpenSpec.upto fnExactNotchesOfSpec)) fnExactNotchesOfUptoCard

/-- THE SECOND FORM's CARD OF 'laws.FnExactNotchFault'. -/
def fnExactNotchFaultUptoCard : Claim7 := { stood := { row := fnExactNotchFaultUptoRow, standIns := [], harness := (true, "4578adaa979e7ce11ed998cfa8db482128bdfe83769be3beb7dba9f61eac1c7c"), looks := true }, kinds := [], alts := [], laidByText := true, laidKinds := [.handle, .sentinel, .sentinel, .sentinel], laidTests := true, laidLooks := .later }
def FnExactNotchFaultUptoCardSaid : Prop := Claim7.holds Tryd.pinned (.plain (OpenSpec.upto fnExactNotchFaultSpec)) fnExactNotchFaultUptoCard

/-- THE SECOND FORM's CARD OF 'laws.FnExactEaseOf'. -/
def fnExactEaseOfUptoCard : Claim7 := { stood := { row := fnExactEaseOfUptoRow, standIns := [], harness := (true, "4578adaa979e7ce11ed998cfa8db482128bdfe83769be3beb7dba9f61eac1c7c"), looks := true }, kinds := [], alts := [], laidByText := true, laidKinds := [.handle, .sentinel, .sentinel, .sentinel], laidTests := true, laidLooks := .later }
def FnExactEaseOfUptoCardSaid : Prop := Claim7.holds Tryd.pinned (.plain (OpenSpec.upto fnExactEaseOfSpec)) fnExactEaseOfUptoCard

/-- THE SECOND FORM's CARD OF 'laws.FnExactFoldLength'. -/
def fnExactFoldLengthUptoCard : Claim7 := { stood := { row := fnExactFoldLengthUptoRow, standIns := [], harness := (true, "4578adaa979e7ce11ed998cfa8db482128bdfe83769be3beb7dba9f61eac1c7c"), looks := true }, kinds := [], alts := [], laidByText := true, laidKinds := [.handle, .sentinel, .sentinel], laidTests := true, laidLooks := .later }
def FnExactFoldLengthUptoCardSaid : Prop := Claim7.holds Tryd.pinned (.plain (OpenSpec.upto fnExactFoldLengthSpec)) fnExactFoldLengthUptoCard

/-- THE SECOND FORM's CARD OF 'laws.FnExactStripText'. -/
def fnExactStripTextUptoCard : Claim7 := { stood := { row := fnExactStripTextUptoRow, standIns := [], harness := (true, "4578adaa979e7ce11ed998cfa8db482128bdfe83769be3beb7dba9f61eac1c7c"), looks := true }, kinds := [], alts := [], laidByText := true, laidKinds := [.data, .data, .data, .data, .sentinel], laidTests := true, laidLooks := .later }
def FnExactStripTextUptoCardSaid : Prop := Claim7.holds Tryd.pinned (.plain (OpenSpec.upto fnExactStripTextSpec)) fnExactStripTextUptoCard

/-- THE SECOND FORM's CARD OF 'laws.FnExactReadStrip'. -/
def fnExactReadStripUptoCard : Claim7 := { stood := { row := fnExactReadStripUptoRow, standIns := [], harness := (true, "4578adaa979e7ce11ed998cfa8db482128bdfe83769be3beb7dba9f61eac1c7c"), looks := true }, kinds := [], alts := [], laidByText := true, laidKinds := [.data, .data, .data, .sentinel, .sentinel, .data, .sentinel], laidTests := true, laidLooks := .later }
def FnExactReadStripUptoCardSaid : Prop := Claim7.holds Tryd.pinned (.plain (OpenSpec.upto fnExactReadStripSpec)) fnExactReadStripUptoCard
end Rows
end Go.Proofs.YtpmmfalpcooenaaDoor
