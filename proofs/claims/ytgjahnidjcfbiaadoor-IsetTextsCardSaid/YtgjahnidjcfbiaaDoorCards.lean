/-
  DERIVED. GIVEN WITH THE SEED: THE CARDS: each row of YtgjahnidjcfbiaaDoorRows.lean that lists a variable, with what it lists TIED to the program's text (the seventh form; the later family's looks); each row that meets fmt, with fmt's text TOLD by the authors' own Lean function (tested against real Go, not proved from fmt's source: count such statements apart). THE CARD IS WHAT COUNTS. Prove the row's statement (the work); the ties are given (YtgjahnidjcfbiaaDoorTie.lean); close each card by the builder's one call (the guide's Derived/Test/ToyasCard.lean, 'card_holds'). Laid BY PROGRAM, IN A SANDBOX (cutbox-door.mjs). By AI agents, Wed Nov 11 2026. No macro, syntax, notation, axiom, sorry.
-/
import Derived.Test.YtgjahnidjcfbiaaDoorRows
import GoSem.ClaimSeven
namespace Go.Proofs.YtgjahnidjcfbiaaDoor
namespace Rows

/-- THE TIED CARD OF 'almanaclaw06.IsetTexts'. -/
def isetTextsCard : Claim7 := { stood := { row := isetTextsRow, standIns := [], harness := (true, "99856ab99b5ce0784a0ad170aedea45316a6e2f47a18a6789e422e390fc36333"), looks := true }, kinds := [], alts := [], laidByText := true, laidKinds := [.data, .data, .data, .sentinel, .sentinel], laidTests := true, laidLooks := .later }
def IsetTextsCardSaid : Prop := Claim7.holds Tryd.pinned (.plain (OpenSpec.ofChange isetTextsSpec)) isetTextsCard

/-- THE TIED CARD OF 'almanaclaw06.IsetInstants'. -/
def isetInstantsCard : Claim7 := { stood := { row := isetInstantsRow, standIns := [], harness := (true, "99856ab99b5ce0784a0ad170aedea45316a6e2f47a18a6789e422e390fc36333"), looks := true }, kinds := [], alts := [], laidByText := true, laidKinds := [.data, .data, .data, .sentinel, .sentinel], laidTests := true, laidLooks := .later }
def IsetInstantsCardSaid : Prop := Claim7.holds Tryd.pinned (.plain (OpenSpec.ofChange isetInstantsSpec)) isetInstantsCard

/-- THE TIED CARD OF 'almanaclaw06.IsetAlgebra'. -/
def isetAlgebraCard : Claim7 := { stood := { row := isetAlgebraRow, standIns := [], harness := (true, "99856ab99b5ce0784a0ad170aedea45316a6e2f47a18a6789e422e390fc36333"), looks := true }, kinds := [], alts := [], laidByText := true, laidKinds := [.data, .data, .data, .sentinel, .sentinel], laidTests := true, laidLooks := .later }
def IsetAlgebraCardSaid : Prop := Claim7.holds Tryd.pinned (.plain (OpenSpec.ofChange isetAlgebraSpec)) isetAlgebraCard

/-- THE TIED CARD OF 'almanaclaw06.IsetOrder'. -/
def isetOrderCard : Claim7 := { stood := { row := isetOrderRow, standIns := [], harness := (true, "99856ab99b5ce0784a0ad170aedea45316a6e2f47a18a6789e422e390fc36333"), looks := true }, kinds := [], alts := [], laidByText := true, laidKinds := [.data, .data, .data, .sentinel, .sentinel], laidTests := true, laidLooks := .later }
def IsetOrderCardSaid : Prop := Claim7.holds Tryd.pinned (.plain (OpenSpec.ofChange isetOrderSpec)) isetOrderCard

/-- THE TIED CARD OF 'almanaclaw06.IsetBack'. -/
def isetBackCard : Claim7 := { stood := { row := isetBackRow, standIns := [], harness := (true, "99856ab99b5ce0784a0ad170aedea45316a6e2f47a18a6789e422e390fc36333"), looks := true }, kinds := [], alts := [], laidByText := true, laidKinds := [.data, .data, .data, .sentinel, .sentinel], laidTests := true, laidLooks := .later }
def IsetBackCardSaid : Prop := Claim7.holds Tryd.pinned (.plain (OpenSpec.ofChange isetBackSpec)) isetBackCard

/-- THE TIED CARD OF 'almanaclaw06.IsetParts'. -/
def isetPartsCard : Claim7 := { stood := { row := isetPartsRow, standIns := [], harness := (true, "99856ab99b5ce0784a0ad170aedea45316a6e2f47a18a6789e422e390fc36333"), looks := true }, kinds := [], alts := [], laidByText := true, laidKinds := [.data, .data, .data, .sentinel, .sentinel], laidTests := true, laidLooks := .later }
def IsetPartsCardSaid : Prop := Claim7.holds Tryd.pinned (.plain (OpenSpec.ofChange isetPartsSpec)) isetPartsCard

/-- THE TIED CARD OF 'almanaclaw06.IsetKnown'. -/
def isetKnownCard : Claim7 := { stood := { row := isetKnownRow, standIns := [], harness := (true, "99856ab99b5ce0784a0ad170aedea45316a6e2f47a18a6789e422e390fc36333"), looks := true }, kinds := [], alts := [], laidByText := true, laidKinds := [.data, .data, .data, .sentinel, .sentinel], laidTests := true, laidLooks := .later }
def IsetKnownCardSaid : Prop := Claim7.holds Tryd.pinned (.plain (OpenSpec.ofChange isetKnownSpec)) isetKnownCard

/-- THE SECOND FORM's CARD OF 'almanaclaw06.IsetTexts'. -/
def isetTextsUptoCard : Claim7 := { stood := { row := isetTextsUptoRow, standIns := [], harness := (true, "99856ab99b5ce0784a0ad170aedea45316a6e2f47a18a6789e422e390fc36333"), looks := true }, kinds := [], alts := [], laidByText := true, laidKinds := [.data, .data, .data, .sentinel, .sentinel], laidTests := true, laidLooks := .later }
def IsetTextsUptoCardSaid : Prop := Claim7.holds Tryd.pinned (.plain (OpenSpec.upto isetTextsSpec)) isetTextsUptoCard

/-- THE SECOND FORM's CARD OF 'almanaclaw06.IsetInstants'. -/
def isetInstantsUptoCard : Claim7 := { stood := { row := isetInstantsUptoRow, standIns := [], harness := (true, "99856ab99b5ce0784a0ad170aedea45316a6e2f47a18a6789e422e390fc36333"), looks := true }, kinds := [], alts := [], laidByText := true, laidKinds := [.data, .data, .data, .sentinel, .sentinel], laidTests := true, laidLooks := .later }
def IsetInstantsUptoCardSaid : Prop := Claim7.holds Tryd.pinned (.plain (OpenSpec.upto isetInstantsSpec)) isetInstantsUptoCard

/-- THE SECOND FORM's CARD OF 'almanaclaw06.IsetAlgebra'. -/
def isetAlgebraUptoCard : Claim7 := { stood := { row := isetAlgebraUptoRow, standIns := [], harness := (true, "99856ab99b5ce0784a0ad170aedea45316a6e2f47a18a6789e422e390fc36333"), looks := true }, kinds := [], alts := [], laidByText := true, laidKinds := [.data, .data, .data, .sentinel, .sentinel], laidTests := true, laidLooks := .later }
def IsetAlgebraUptoCardSaid : Prop := Claim7.holds Tryd.pinned (.plain (OpenSpec.upto isetAlgebraSpec)) isetAlgebraUptoCard

/-- THE SECOND FORM's CARD OF 'almanaclaw06.IsetOrder'. -/
def isetOrderUptoCard : Claim7 := { stood := { row := isetOrderUptoRow, standIns := [], harness := (true, "99856ab99b5ce0784a0ad170aedea45316a6e2f47a18a6789e422e390fc36333"), looks := true }, kinds := [], alts := [], laidByText := true, laidKinds := [.data, .data, .data, .sentinel, .sentinel], laidTests := true, laidLooks := .later }
def IsetOrderUptoCardSaid : Prop := Claim7.holds Tryd.pinned (.plain (OpenSpec.upto isetOrderSpec)) isetOrderUptoCard

/-- THE SECOND FORM's CARD OF 'almanaclaw06.IsetBack'. -/
def isetBackUptoCard : Claim7 := { stood := { row := isetBackUptoRow, standIns := [], harness := (true, "99856ab99b5ce0784a0ad170aedea45316a6e2f47a18a6789e422e390fc36333"), looks := true }, kinds := [], alts := [], laidByText := true, laidKinds := [.data, .data, .data, .sentinel, .sentinel], laidTests := true, laidLooks := .later }
def IsetBackUptoCardSaid : Prop := Claim7.holds Tryd.pinned (.plain (OpenSpec.upto isetBackSpec)) isetBackUptoCard

/-- THE SECOND FORM's CARD OF 'almanaclaw06.IsetParts'. -/
def isetPartsUptoCard : Claim7 := { stood := { row := isetPartsUptoRow, standIns := [], harness := (true, "99856ab99b5ce0784a0ad170aedea45316a6e2f47a18a6789e422e390fc36333"), looks := true }, kinds := [], alts := [], laidByText := true, laidKinds := [.data, .data, .data, .sentinel, .sentinel], laidTests := true, laidLooks := .later }
def IsetPartsUptoCardSaid : Prop := Claim7.holds Tryd.pinned (.plain (OpenSpec.upto isetPartsSpec)) isetPartsUptoCard

/-- THE SECOND FORM's CARD OF 'almanaclaw06.IsetKnown'. -/
def isetKnownUptoCard : Claim7 := { stood := { row := isetKnownUptoRow, standIns := [], harness := (true, "99856ab99b5ce0784a0ad170aedea45316a6e2f47a18a6789e422e390fc36333"), looks := true }, kinds := [], alts := [], laidByText := true, laidKinds := [.data, .data, .data, .sentinel, .sentinel], laidTests := true, laidLooks := .later }
def IsetKnownUptoCardSaid : Prop := Claim7.holds Tryd.pinned (.plain (OpenSpec.upto isetKnownSpec)) isetKnownUptoCard
end Rows
end Go.Proofs.YtgjahnidjcfbiaaDoor
