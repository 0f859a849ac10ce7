/-
  NARROWER THAN 'FOR EVERY INPUT', by the rows' own cells (each row's printed sentence says how): CountsOne: laid · CountsFree: laid · CountsAll: laid.
  DERIVED. THE GIVEN ROWS OF THIS SEAT. 3 by the template 'for every input the law returns true; each argument reads behind the call as it read before'; 0 by the template 'total and deterministic' (their statements: YtjhgkcbpllgdiaaDoorTotals.lean).
  GIVEN WITH THE SEED: the statements are not yours to turn. If you find one false, say at which input.
  Laid BY PROGRAM, IN A SANDBOX (cutbox-rows.mjs): the forced cells as the released guide's own fill.sh prints them over the translation 9a7f6a2595fb00ff… (all of the seat's roots in one cut). By AI agents, Wed Nov 11 2026. No macro, syntax, notation, axiom, sorry.
-/
import Derived.Test.YtjhgkcbpllgdiaaDoorChecked
import GoSem.Claim
import GoSem.ClaimJoined
import GoSem.ClaimMapViews
import Derived.JoinedTies
import Derived.KernelRfl
namespace Go.Proofs.YtjhgkcbpllgdiaaDoor
/- THE CELL 'sum', in the pinned program and in every row, IS THE sha256 OF THE DUMP (.gsa) THAT YtjhgkcbpllgdiaaDoorProg.lean LOADS. Nothing in Lean hashes anything: it is a label: what it is worth is what the hold of that sum in a sandbox is worth. -/
noncomputable def Tryd.pinned : Pinned := { name := "ytjhgkcbpllgdiaadoor", sum := "9a7f6a2595fb00ffae9e5f0349b58f457c916229ed9dec396775aa0074d01c68", checked := Tryd.checked }
namespace Rows
def none {H : Type} : Left H := { results := [], args := [] }

/- WHAT THE LISTED PACKAGE-LEVEL VARIABLES READ AS WHEN THE CALL BEGINS. Each datum BY PROGRAM (the guide's laid-datum.mjs) off the statement by which the dump's own 'gosem.cut.vars' lays the variable. In a bare row this is a premise. The card (YtjhgkcbpllgdiaaDoorCards.lean) ties it to the program's text. -/
def laid_palimpsest_counts_widths {H : Type} : DataW H := .agg [.lit (.int .i64 1), .lit (.int .i64 2), .lit (.int .i64 4), .lit (.int .i64 8), .lit (.int .i64 16), .lit (.int .i64 32), .lit (.int .i64 64)]

/-- 'palimpsestlaw10.CountsOne': WHATEVER THE INPUT: true; the input reads as it did. -/
def countsOneSpec : ChangeSpec := { name := "countsOne", fn := fun _ => fun
  | [d1, d2, d3] => { results := [.lit (.bool true)], args := [d1, d2, d3] }
  | _ => none }
def countsOneRow : OpenClaim := { program := "ytjhgkcbpllgdiaadoor", sum := "9a7f6a2595fb00ffae9e5f0349b58f457c916229ed9dec396775aa0074d01c68", func := "palimpsest/palimpsestlaw10.CountsOne", spec := "countsOne", unfollowed := true, recurses := true, named := ["palimpsest/counts.widths"], apart := false, laid := [("palimpsest/counts.widths", laid_palimpsest_counts_widths)] }
def CountsOneSaid : Prop := countsOneRow.holds Tryd.pinned (OpenSpec.ofChange countsOneSpec)

/-- ITS FALSE NEIGHBOUR: 'it returns false'. Refute it at one input. -/
def countsOneWrong : ChangeSpec := { name := "countsOne", fn := fun _ => fun
  | [d1, d2, d3] => { results := [.lit (.bool false)], args := [d1, d2, d3] }
  | _ => none }
def CountsOneWrongFalsely : Prop := countsOneRow.holds Tryd.pinned (OpenSpec.ofChange countsOneWrong)

/-- 'palimpsestlaw10.CountsFree': WHATEVER THE INPUT: true; the input reads as it did. -/
def countsFreeSpec : ChangeSpec := { name := "countsFree", fn := fun _ => fun
  | [d1, d2, d3] => { results := [.lit (.bool true)], args := [d1, d2, d3] }
  | _ => none }
def countsFreeRow : OpenClaim := { program := "ytjhgkcbpllgdiaadoor", sum := "9a7f6a2595fb00ffae9e5f0349b58f457c916229ed9dec396775aa0074d01c68", func := "palimpsest/palimpsestlaw10.CountsFree", spec := "countsFree", unfollowed := true, recurses := true, named := ["palimpsest/counts.widths"], apart := false, laid := [("palimpsest/counts.widths", laid_palimpsest_counts_widths)] }
def CountsFreeSaid : Prop := countsFreeRow.holds Tryd.pinned (OpenSpec.ofChange countsFreeSpec)

/-- ITS FALSE NEIGHBOUR: 'it returns false'. Refute it at one input. -/
def countsFreeWrong : ChangeSpec := { name := "countsFree", fn := fun _ => fun
  | [d1, d2, d3] => { results := [.lit (.bool false)], args := [d1, d2, d3] }
  | _ => none }
def CountsFreeWrongFalsely : Prop := countsFreeRow.holds Tryd.pinned (OpenSpec.ofChange countsFreeWrong)

/-- 'palimpsestlaw10.CountsAll': WHATEVER THE INPUT: true; the input reads as it did. -/
def countsAllSpec : ChangeSpec := { name := "countsAll", fn := fun _ => fun
  | [d1, d2] => { results := [.lit (.bool true)], args := [d1, d2] }
  | _ => none }
def countsAllRow : OpenClaim := { program := "ytjhgkcbpllgdiaadoor", sum := "9a7f6a2595fb00ffae9e5f0349b58f457c916229ed9dec396775aa0074d01c68", func := "palimpsest/palimpsestlaw10.CountsAll", spec := "countsAll", unfollowed := true, recurses := true, named := ["palimpsest/counts.widths"], apart := false, laid := [("palimpsest/counts.widths", laid_palimpsest_counts_widths)] }
def CountsAllSaid : Prop := countsAllRow.holds Tryd.pinned (OpenSpec.ofChange countsAllSpec)

/-- ITS FALSE NEIGHBOUR: 'it returns false'. Refute it at one input. -/
def countsAllWrong : ChangeSpec := { name := "countsAll", fn := fun _ => fun
  | [d1, d2] => { results := [.lit (.bool false)], args := [d1, d2] }
  | _ => none }
def CountsAllWrongFalsely : Prop := countsAllRow.holds Tryd.pinned (OpenSpec.ofChange countsAllWrong)

/- THE SECOND FORM. 'bulk': how many values and letters a reading holds, each counted each time it is reached (what is shared counts as often as it is met; a slice's spare places count too). A statement '..UptoSaid' is the law's where the arguments, and the package variables that the reading takes, are together of bulk at most 1048576: NARROWER than '..Said'. Prove '..Said' where nothing that the law and all that it calls make is longer than what came in: it says more and counts as full. Else prove '..UptoSaid'. A law counts once. -/
mutual
def uptoBulk {H : Type} : DataW H → Nat
  | .lit (.string bytes) => bytes.length + 1
  | .lit _ => 1
  | .nil => 1
  | .ptr d => uptoBulk d + 1
  | .slice elems spare => uptoBulkAll elems + uptoBulkAll spare + 1
  | .agg parts => uptoBulkAll parts + 1
  | .iface _ d => uptoBulk d + 1
  | .map entries => uptoBulkEntries entries + 1
  | .held _ => 1
def uptoBulkAll {H : Type} : List (DataW H) → Nat
  | [] => 0
  | d :: r => uptoBulk d + uptoBulkAll r
def uptoBulkEntries {H : Type} : List (Lit × DataW H) → Nat
  | [] => 0
  | x :: r => uptoBulkEntry x + uptoBulkEntries r
def uptoBulkEntry {H : Type} : Lit × DataW H → Nat
  | (.string bytes, d) => bytes.length + uptoBulk d + 1
  | (_, d) => uptoBulk d + 1
 end
def uptoSmall : (H : Type) → List (DataW H) → Bool := fun _ ds => decide (uptoBulkAll ds ≤ 1048576)
def OpenSpec.upto (s : _root_.Go.ChangeSpec) : _root_.Go.OpenSpec := { _root_.Go.OpenSpec.ofChange s with cond := some uptoSmall }

/-- 'palimpsestlaw10.CountsOne', WHERE WHAT IT READS IS OF BULK AT MOST 1048576: true; the input reads as it did. -/
def countsOneUptoRow : OpenClaim := { program := "ytjhgkcbpllgdiaadoor", sum := "9a7f6a2595fb00ffae9e5f0349b58f457c916229ed9dec396775aa0074d01c68", func := "palimpsest/palimpsestlaw10.CountsOne", spec := "countsOne", unfollowed := true, recurses := true, named := ["palimpsest/counts.widths"], apart := false, laid := [("palimpsest/counts.widths", laid_palimpsest_counts_widths)], narrowed := true }
def CountsOneUptoSaid : Prop := countsOneUptoRow.holds Tryd.pinned (OpenSpec.upto countsOneSpec)

/-- 'palimpsestlaw10.CountsFree', WHERE WHAT IT READS IS OF BULK AT MOST 1048576: true; the input reads as it did. -/
def countsFreeUptoRow : OpenClaim := { program := "ytjhgkcbpllgdiaadoor", sum := "9a7f6a2595fb00ffae9e5f0349b58f457c916229ed9dec396775aa0074d01c68", func := "palimpsest/palimpsestlaw10.CountsFree", spec := "countsFree", unfollowed := true, recurses := true, named := ["palimpsest/counts.widths"], apart := false, laid := [("palimpsest/counts.widths", laid_palimpsest_counts_widths)], narrowed := true }
def CountsFreeUptoSaid : Prop := countsFreeUptoRow.holds Tryd.pinned (OpenSpec.upto countsFreeSpec)

/-- 'palimpsestlaw10.CountsAll', WHERE WHAT IT READS IS OF BULK AT MOST 1048576: true; the input reads as it did. -/
def countsAllUptoRow : OpenClaim := { program := "ytjhgkcbpllgdiaadoor", sum := "9a7f6a2595fb00ffae9e5f0349b58f457c916229ed9dec396775aa0074d01c68", func := "palimpsest/palimpsestlaw10.CountsAll", spec := "countsAll", unfollowed := true, recurses := true, named := ["palimpsest/counts.widths"], apart := false, laid := [("palimpsest/counts.widths", laid_palimpsest_counts_widths)], narrowed := true }
def CountsAllUptoSaid : Prop := countsAllUptoRow.holds Tryd.pinned (OpenSpec.upto countsAllSpec)

end Rows
end Go.Proofs.YtjhgkcbpllgdiaaDoor
