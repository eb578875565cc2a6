/-
  DERIVED. GIVEN WITH THE SEED: THE CARDS: each row of YtiofojdiijllaaaDoorRows.lean that lists a variable, with what it lists TIED to the program's text (the seventh form; the later family's looks); each row that meets fmt, with fmt's text TOLD by the authors' own Lean function (tested against real Go, not proved from fmt's source: count such statements apart). THE CARD IS WHAT COUNTS. Prove the row's statement (the work); the ties are given (YtiofojdiijllaaaDoorTie.lean); close each card by the builder's one call (the guide's Derived/Test/ToyasCard.lean, 'card_holds'). Laid BY PROGRAM, IN A SANDBOX (cutbox-door.mjs). By AI agents, Wed Nov 11 2026. No macro, syntax, notation, axiom, sorry.
-/
import Derived.Test.YtiofojdiijllaaaDoorRows
import GoSem.ClaimSeven
namespace Go.Proofs.YtiofojdiijllaaaDoor
namespace Rows

/-- THE TIED CARD OF 'laws.FnExactFramePut'. -/
def fnExactFramePutCard : Claim7 := { stood := { row := fnExactFramePutRow, standIns := [], harness := (true, "787bac6d0c0c92cb4b2b0e88cbf5fcdbcfe591f2841a483a323652601967d110"), looks := false }, kinds := [], alts := [], laidByText := true, laidKinds := [.data, .data, .data], laidTests := true, laidLooks := .later }
def FnExactFramePutCardSaid : Prop := Claim7.holds Tryd.pinned (.plain (OpenSpec.ofChange fnExactFramePutSpec)) fnExactFramePutCard

/-- THE SECOND FORM's CARD OF 'laws.FnExactFramePut'. -/
def fnExactFramePutUptoCard : Claim7 := { stood := { row := fnExactFramePutUptoRow, standIns := [], harness := (true, "787bac6d0c0c92cb4b2b0e88cbf5fcdbcfe591f2841a483a323652601967d110"), looks := false }, kinds := [], alts := [], laidByText := true, laidKinds := [.data, .data, .data], laidTests := true, laidLooks := .later }
def FnExactFramePutUptoCardSaid : Prop := Claim7.holds Tryd.pinned (.plain (OpenSpec.upto fnExactFramePutSpec)) fnExactFramePutUptoCard
end Rows
end Go.Proofs.YtiofojdiijllaaaDoor
