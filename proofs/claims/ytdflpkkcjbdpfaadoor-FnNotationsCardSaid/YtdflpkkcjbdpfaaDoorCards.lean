/-
  DERIVED. GIVEN WITH THE SEED: THE CARDS: each row of YtdflpkkcjbdpfaaDoorRows.lean that lists a variable, with what it lists TIED to the program's text (the seventh form; the later family's looks); each row that meets fmt, with fmt's text TOLD by the authors' own Lean function (tested against real Go, not proved from fmt's source: count such statements apart). THE CARD IS WHAT COUNTS. Prove the row's statement (the work); the ties are given (YtdflpkkcjbdpfaaDoorTie.lean); close each card by the builder's one call (the guide's Derived/Test/ToyasCard.lean, 'card_holds'). Laid BY PROGRAM, IN A SANDBOX (cutbox-door.mjs). By AI agents, Wed Nov 11 2026. No macro, syntax, notation, axiom, sorry.
-/
import Derived.Test.YtdflpkkcjbdpfaaDoorRows
import GoSem.ClaimSeven
namespace Go.Proofs.YtdflpkkcjbdpfaaDoor
namespace Rows

/-- THE TIED CARD OF 'laws.FnHalves'. -/
def fnHalvesCard : Claim7 := { stood := { row := fnHalvesRow, standIns := [], harness := (true, "4cffe2cc8645022ddda252d6871d32b842318f470313d7a3665906583c810c99"), looks := true }, kinds := [], alts := [], laidByText := true, laidKinds := [.data, .data, .data], laidTests := true, laidLooks := .later }
def FnHalvesCardSaid : Prop := Claim7.holds Tryd.pinned (.plain (OpenSpec.ofChange fnHalvesSpec)) fnHalvesCard

/-- THE TIED CARD OF 'laws.FnNotations'. -/
def fnNotationsCard : Claim7 := { stood := { row := fnNotationsRow, standIns := [], harness := (true, "4cffe2cc8645022ddda252d6871d32b842318f470313d7a3665906583c810c99"), looks := true }, kinds := [], alts := [], laidByText := true, laidKinds := [.data, .data, .data], laidTests := true, laidLooks := .later }
def FnNotationsCardSaid : Prop := Claim7.holds Tryd.pinned (.plain (OpenSpec.ofChange fnNotationsSpec)) fnNotationsCard

/-- THE SECOND FORM's CARD OF 'laws.FnHalves'. -/
def fnHalvesUptoCard : Claim7 := { stood := { row := fnHalvesUptoRow, standIns := [], harness := (true, "4cffe2cc8645022ddda252d6871d32b842318f470313d7a3665906583c810c99"), looks := true }, kinds := [], alts := [], laidByText := true, laidKinds := [.data, .data, .data], laidTests := true, laidLooks := .later }
def FnHalvesUptoCardSaid : Prop := Claim7.holds Tryd.pinned (.plain (OpenSpec.upto fnHalvesSpec)) fnHalvesUptoCard

/-- THE SECOND FORM's CARD OF 'laws.FnNotations'. -/
def fnNotationsUptoCard : Claim7 := { stood := { row := fnNotationsUptoRow, standIns := [], harness := (true, "4cffe2cc8645022ddda252d6871d32b842318f470313d7a3665906583c810c99"), looks := true }, kinds := [], alts := [], laidByText := true, laidKinds := [.data, .data, .data], laidTests := true, laidLooks := .later }
def FnNotationsUptoCardSaid : Prop := Claim7.holds Tryd.pinned (.plain (OpenSpec.upto fnNotationsSpec)) fnNotationsUptoCard
end Rows
end Go.Proofs.YtdflpkkcjbdpfaaDoor
