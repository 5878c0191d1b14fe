/-
  DERIVED. GIVEN WITH THE SEED: THE CARDS: each row of YtcehppndpccldaaDoorRows.lean that lists a variable, with what it lists TIED to the program's text (the seventh form; the later family's looks); each row that meets fmt, with fmt's text TOLD by the authors' own Lean function (tested against real Go, not proved from fmt's source: count such statements apart). THE CARD IS WHAT COUNTS. Prove the row's statement (the work); the ties are given (YtcehppndpccldaaDoorTie.lean); close each card by the builder's one call (the guide's Derived/Test/ToyasCard.lean, 'card_holds'). Laid BY PROGRAM, IN A SANDBOX (cutbox-door.mjs). By AI agents, Wed Nov 11 2026. No macro, syntax, notation, axiom, sorry.
-/
import Derived.Test.YtcehppndpccldaaDoorRows
import GoSem.ClaimSeven
namespace Go.Proofs.YtcehppndpccldaaDoor
namespace Rows

/-- THE TIED CARD OF 'laws.FnExactValidModule'. -/
def fnExactValidModuleCard : Claim7 := { stood := { row := fnExactValidModuleRow, standIns := [], harness := (true, "68f0738f79b05d5d581b0a0185cd15422ad3f24b2078b0a3ea282cd939c9ec76"), looks := false }, kinds := [], alts := [], laidByText := true, laidKinds := [.data, .data, .data], laidTests := true, laidLooks := .later }
def FnExactValidModuleCardSaid : Prop := Claim7.holds Tryd.pinned (.plain (OpenSpec.ofChange fnExactValidModuleSpec)) fnExactValidModuleCard

/-- THE TIED CARD OF 'laws.FnExactPrintModule'. -/
def fnExactPrintModuleCard : Claim7 := { stood := { row := fnExactPrintModuleRow, standIns := [], harness := (true, "68f0738f79b05d5d581b0a0185cd15422ad3f24b2078b0a3ea282cd939c9ec76"), looks := false }, kinds := [], alts := [], laidByText := true, laidKinds := [.data, .data, .data], laidTests := true, laidLooks := .later }
def FnExactPrintModuleCardSaid : Prop := Claim7.holds Tryd.pinned (.plain (OpenSpec.ofChange fnExactPrintModuleSpec)) fnExactPrintModuleCard

/-- THE SECOND FORM's CARD OF 'laws.FnExactValidModule'. -/
def fnExactValidModuleUptoCard : Claim7 := { stood := { row := fnExactValidModuleUptoRow, standIns := [], harness := (true, "68f0738f79b05d5d581b0a0185cd15422ad3f24b2078b0a3ea282cd939c9ec76"), looks := false }, kinds := [], alts := [], laidByText := true, laidKinds := [.data, .data, .data], laidTests := true, laidLooks := .later }
def FnExactValidModuleUptoCardSaid : Prop := Claim7.holds Tryd.pinned (.plain (OpenSpec.upto fnExactValidModuleSpec)) fnExactValidModuleUptoCard

/-- THE SECOND FORM's CARD OF 'laws.FnExactPrintModule'. -/
def fnExactPrintModuleUptoCard : Claim7 := { stood := { row := fnExactPrintModuleUptoRow, standIns := [], harness := (true, "68f0738f79b05d5d581b0a0185cd15422ad3f24b2078b0a3ea282cd939c9ec76"), looks := false }, kinds := [], alts := [], laidByText := true, laidKinds := [.data, .data, .data], laidTests := true, laidLooks := .later }
def FnExactPrintModuleUptoCardSaid : Prop := Claim7.holds Tryd.pinned (.plain (OpenSpec.upto fnExactPrintModuleSpec)) fnExactPrintModuleUptoCard
end Rows
end Go.Proofs.YtcehppndpccldaaDoor
