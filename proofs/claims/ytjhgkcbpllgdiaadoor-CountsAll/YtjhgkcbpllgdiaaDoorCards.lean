/-
  DERIVED. GIVEN WITH THE SEED: THE CARDS: each row of YtjhgkcbpllgdiaaDoorRows.lean that lists a variable, with what it lists TIED to the program's text (the seventh form; the later family's looks); each row that meets fmt, with fmt's text TOLD by the authors' own Lean function (tested against real Go, not proved from fmt's source: count such statements apart). THE CARD IS WHAT COUNTS. Prove the row's statement (the work); the ties are given (YtjhgkcbpllgdiaaDoorTie.lean); close each card by the builder's one call (the guide's Derived/Test/ToyasCard.lean, 'card_holds'). Laid BY PROGRAM, IN A SANDBOX (cutbox-door.mjs). By AI agents, Wed Nov 11 2026. No macro, syntax, notation, axiom, sorry.
-/
import Derived.Test.YtjhgkcbpllgdiaaDoorRows
import GoSem.ClaimSeven
namespace Go.Proofs.YtjhgkcbpllgdiaaDoor
namespace Rows

/-- THE TIED CARD OF 'palimpsestlaw10.CountsOne'. -/
def countsOneCard : Claim7 := { stood := { row := countsOneRow, standIns := [], harness := (true, "69187ef2c4f8cc0d1afbc468f5852437fa94b24bec607a728176bffa660743b0"), looks := false }, kinds := [], alts := [], laidByText := true, laidKinds := [.data], laidTests := true, laidLooks := .later }
def CountsOneCardSaid : Prop := Claim7.holds Tryd.pinned (.plain (OpenSpec.ofChange countsOneSpec)) countsOneCard

/-- THE TIED CARD OF 'palimpsestlaw10.CountsFree'. -/
def countsFreeCard : Claim7 := { stood := { row := countsFreeRow, standIns := [], harness := (true, "69187ef2c4f8cc0d1afbc468f5852437fa94b24bec607a728176bffa660743b0"), looks := false }, kinds := [], alts := [], laidByText := true, laidKinds := [.data], laidTests := true, laidLooks := .later }
def CountsFreeCardSaid : Prop := Claim7.holds Tryd.pinned (.plain (OpenSpec.ofChange countsFreeSpec)) countsFreeCard

/-- THE TIED CARD OF 'palimpsestlaw10.CountsAll'. -/
def countsAllCard : Claim7 := { stood := { row := countsAllRow, standIns := [], harness := (true, "69187ef2c4f8cc0d1afbc468f5852437fa94b24bec607a728176bffa660743b0"), looks := false }, kinds := [], alts := [], laidByText := true, laidKinds := [.data], laidTests := true, laidLooks := .later }
def CountsAllCardSaid : Prop := Claim7.holds Tryd.pinned (.plain (OpenSpec.ofChange countsAllSpec)) countsAllCard

/-- THE SECOND FORM's CARD OF 'palimpsestlaw10.CountsOne'. -/
def countsOneUptoCard : Claim7 := { stood := { row := countsOneUptoRow, standIns := [], harness := (true, "69187ef2c4f8cc0d1afbc468f5852437fa94b24bec607a728176bffa660743b0"), looks := false }, kinds := [], alts := [], laidByText := true, laidKinds := [.data], laidTests := true, laidLooks := .later }
def CountsOneUptoCardSaid : Prop := Claim7.holds Tryd.pinned (.plain (OpenSpec.upto countsOneSpec)) countsOneUptoCard

/-- THE SECOND FORM's CARD OF 'palimpsestlaw10.CountsFree'. -/
def countsFreeUptoCard : Claim7 := { stood := { row := countsFreeUptoRow, standIns := [], harness := (true, "69187ef2c4f8cc0d1afbc468f5852437fa94b24bec607a728176bffa660743b0"), looks := false }, kinds := [], alts := [], laidByText := true, laidKinds := [.data], laidTests := true, laidLooks := .later }
def CountsFreeUptoCardSaid : Prop := Claim7.holds Tryd.pinned (.plain (OpenSpec.upto countsFreeSpec)) countsFreeUptoCard

/-- THE SECOND FORM's CARD OF 'palimpsestlaw10.CountsAll'. -/
def countsAllUptoCard : Claim7 := { stood := { row := countsAllUptoRow, standIns := [], harness := (true, "69187ef2c4f8cc0d1afbc468f5852437fa94b24bec607a728176bffa660743b0"), looks := false }, kinds := [], alts := [], laidByText := true, laidKinds := [.data], laidTests := true, laidLooks := .later }
def CountsAllUptoCardSaid : Prop := Claim7.holds Tryd.pinned (.plain (OpenSpec.upto countsAllSpec)) countsAllUptoCard
end Rows
end Go.Proofs.YtjhgkcbpllgdiaaDoor
