/-
  DERIVED. GIVEN WITH THE SEED: THE CARDS: each row of YtpnagaokmfaaiaaDoorRows.lean that lists a variable, with what it lists TIED to the program's text (the seventh form; the later family's looks); each row that meets fmt, with fmt's text TOLD by the authors' own Lean function (tested against real Go, not proved from fmt's source: count such statements apart). THE CARD IS WHAT COUNTS. Prove the row's statement (the work); the ties are given (YtpnagaokmfaaiaaDoorTie.lean); close each card by the builder's one call (the guide's Derived/Test/ToyasCard.lean, 'card_holds'). Laid BY PROGRAM, IN A SANDBOX (cutbox-door.mjs). By AI agents, Wed Nov 11 2026. No macro, syntax, notation, axiom, sorry.
-/
import Derived.Test.YtpnagaokmfaaiaaDoorRows
import GoSem.ClaimSeven
namespace Go.Proofs.YtpnagaokmfaaiaaDoor
namespace Rows

/-- THE TIED CARD OF 'laws.FnNotations'. -/
def fnNotationsCard : Claim7 := { stood := { row := fnNotationsRow, standIns := [], harness := (true, "b7d16252c0e3a8b869786186c7069c34dbb7f57ebb15101bf639c1ed8e7cb089"), looks := true }, kinds := [], alts := [], laidByText := true, laidKinds := [.data, .data, .data], laidTests := true, laidLooks := .later }
def FnNotationsCardSaid : Prop := Claim7.holds Tryd.pinned (.plain (OpenSpec.ofChange fnNotationsSpec)) fnNotationsCard

/-- THE TIED CARD OF 'laws.FnHalves'. -/
def fnHalvesCard : Claim7 := { stood := { row := fnHalvesRow, standIns := [], harness := (true, "b7d16252c0e3a8b869786186c7069c34dbb7f57ebb15101bf639c1ed8e7cb089"), looks := true }, kinds := [], alts := [], laidByText := true, laidKinds := [.data, .data, .data], laidTests := true, laidLooks := .later }
def FnHalvesCardSaid : Prop := Claim7.holds Tryd.pinned (.plain (OpenSpec.ofChange fnHalvesSpec)) fnHalvesCard

/-- THE TIED CARD OF 'laws.FnExactTidyChange'. -/
def fnExactTidyChangeCard : Claim7 := { stood := { row := fnExactTidyChangeRow, standIns := [], harness := (true, "b7d16252c0e3a8b869786186c7069c34dbb7f57ebb15101bf639c1ed8e7cb089"), looks := true }, kinds := [], alts := [], laidByText := true, laidKinds := [.data, .data, .data], laidTests := true, laidLooks := .later }
def FnExactTidyChangeCardSaid : Prop := Claim7.holds Tryd.pinned (.plain (OpenSpec.ofChange fnExactTidyChangeSpec)) fnExactTidyChangeCard

/-- THE TIED CARD OF 'laws.FnExactReadNotation'. -/
def fnExactReadNotationCard : Claim7 := { stood := { row := fnExactReadNotationRow, standIns := [], harness := (true, "b7d16252c0e3a8b869786186c7069c34dbb7f57ebb15101bf639c1ed8e7cb089"), looks := true }, kinds := [], alts := [], laidByText := true, laidKinds := [.data, .data, .data], laidTests := true, laidLooks := .later }
def FnExactReadNotationCardSaid : Prop := Claim7.holds Tryd.pinned (.plain (OpenSpec.ofChange fnExactReadNotationSpec)) fnExactReadNotationCard

/-- THE TIED CARD OF 'laws.FnExactCountChanges'. -/
def fnExactCountChangesCard : Claim7 := { stood := { row := fnExactCountChangesRow, standIns := [], harness := (true, "b7d16252c0e3a8b869786186c7069c34dbb7f57ebb15101bf639c1ed8e7cb089"), looks := true }, kinds := [], alts := [], laidByText := true, laidKinds := [.data, .data, .data], laidTests := true, laidLooks := .later }
def FnExactCountChangesCardSaid : Prop := Claim7.holds Tryd.pinned (.plain (OpenSpec.ofChange fnExactCountChangesSpec)) fnExactCountChangesCard

/-- THE SECOND FORM's CARD OF 'laws.FnNotations'. -/
def fnNotationsUptoCard : Claim7 := { stood := { row := fnNotationsUptoRow, standIns := [], harness := (true, "b7d16252c0e3a8b869786186c7069c34dbb7f57ebb15101bf639c1ed8e7cb089"), looks := true }, kinds := [], alts := [], laidByText := true, laidKinds := [.data, .data, .data], laidTests := true, laidLooks := .later }
def FnNotationsUptoCardSaid : Prop := Claim7.holds Tryd.pinned (.plain (OpenSpec.upto fnNotationsSpec)) fnNotationsUptoCard

/-- THE SECOND FORM's CARD OF 'laws.FnHalves'. -/
def fnHalvesUptoCard : Claim7 := { stood := { row := fnHalvesUptoRow, standIns := [], harness := (true, "b7d16252c0e3a8b869786186c7069c34dbb7f57ebb15101bf639c1ed8e7cb089"), looks := true }, kinds := [], alts := [], laidByText := true, laidKinds := [.data, .data, .data], laidTests := true, laidLooks := .later }
def FnHalvesUptoCardSaid : Prop := Claim7.holds Tryd.pinned (.plain (OpenSpec.upto fnHalvesSpec)) fnHalvesUptoCard

/-- THE SECOND FORM's CARD OF 'laws.FnExactTidyChange'. -/
def fnExactTidyChangeUptoCard : Claim7 := { stood := { row := fnExactTidyChangeUptoRow, standIns := [], harness := (true, "b7d16252c0e3a8b869786186c7069c34dbb7f57ebb15101bf639c1ed8e7cb089"), looks := true }, kinds := [], alts := [], laidByText := true, laidKinds := [.data, .data, .data], laidTests := true, laidLooks := .later }
def FnExactTidyChangeUptoCardSaid : Prop := Claim7.holds Tryd.pinned (.plain (OpenSpec.upto fnExactTidyChangeSpec)) fnExactTidyChangeUptoCard

/-- THE SECOND FORM's CARD OF 'laws.FnExactReadNotation'. -/
def fnExactReadNotationUptoCard : Claim7 := { stood := { row := fnExactReadNotationUptoRow, standIns := [], harness := (true, "b7d16252c0e3a8b869786186c7069c34dbb7f57ebb15101bf639c1ed8e7cb089"), looks := true }, kinds := [], alts := [], laidByText := true, laidKinds := [.data, .data, .data], laidTests := true, laidLooks := .later }
def FnExactReadNotationUptoCardSaid : Prop := Claim7.holds Tryd.pinned (.plain (OpenSpec.upto fnExactReadNotationSpec)) fnExactReadNotationUptoCard

/-- THE SECOND FORM's CARD OF 'laws.FnExactCountChanges'. -/
def fnExactCountChangesUptoCard : Claim7 := { stood := { row := fnExactCountChangesUptoRow, standIns := [], harness := (true, "b7d16252c0e3a8b869786186c7069c34dbb7f57ebb15101bf639c1ed8e7cb089"), looks := true }, kinds := [], alts := [], laidByText := true, laidKinds := [.data, .data, .data], laidTests := true, laidLooks := .later }
def FnExactCountChangesUptoCardSaid : Prop := Claim7.holds Tryd.pinned (.plain (OpenSpec.upto fnExactCountChangesSpec)) fnExactCountChangesUptoCard
end Rows
end Go.Proofs.YtpnagaokmfaaiaaDoor
