/-
  No cell of these rows narrows 'for every input' (looked for: loops, veiled, ifaces, maps, wideKeys, modest, calm, conditions, laid).
  DERIVED. THE GIVEN ROWS OF THIS SEAT. 5 by the template 'for every input the law returns true; each argument reads behind the call as it read before'; 0 by the template 'total and deterministic' (their statements: YtjjhkfhppoioiaaTotals.lean).
  GIVEN WITH THE SEED: the statements are not yours to turn. If you find one false, say at which input.
  Laid BY PROGRAM, IN A SANDBOX (cutbox-rows.mjs): the forced cells as the released guide's own fill.sh prints them over the translation 0b631326ddad65dd… (all of the seat's roots in one cut). By AI agents, Wed Nov 11 2026. No macro, syntax, notation, axiom, sorry.
-/
import Derived.Test.YtjjhkfhppoioiaaChecked
import GoSem.Claim
import GoSem.ClaimJoined
import GoSem.ClaimMapViews
import Derived.JoinedTies
import Derived.KernelRfl
namespace Go.Proofs.Ytjjhkfhppoioiaa
/- THE CELL 'sum', in the pinned program and in every row, IS THE sha256 OF THE DUMP (.gsa) THAT YtjjhkfhppoioiaaProg.lean LOADS. Nothing in Lean hashes anything: it is a label: what it is worth is what the hold of that sum in a sandbox is worth. -/
noncomputable def Try.pinned : Pinned := { name := "ytjjhkfhppoioiaa", sum := "0b631326ddad65dda206e75e3118bbbf93ad4d667fac0feadc305072b8507579", checked := Try.checked }
namespace Rows
def none {H : Type} : Left H := { results := [], args := [] }

/-- 'palimpsestlaw11.TablesSnaps': WHATEVER THE INPUT: true; the input reads as it did. -/
def tablesSnapsSpec : ChangeSpec := { name := "tablesSnaps", fn := fun _ => fun
  | [d1, d2] => { results := [.lit (.bool true)], args := [d1, d2] }
  | _ => none }
def tablesSnapsRow : OpenClaim := { program := "ytjjhkfhppoioiaa", sum := "0b631326ddad65dda206e75e3118bbbf93ad4d667fac0feadc305072b8507579", func := "palimpsest/palimpsestlaw11.TablesSnaps", spec := "tablesSnaps", inPlace := ["internal/bytealg.IndexByteString"], unfollowed := true, recurses := true, apart := false }
def TablesSnapsSaid : Prop := tablesSnapsRow.holds Try.pinned (OpenSpec.ofChange tablesSnapsSpec)

/-- ITS FALSE NEIGHBOUR: 'it returns false'. Refute it at one input. -/
def tablesSnapsWrong : ChangeSpec := { name := "tablesSnaps", fn := fun _ => fun
  | [d1, d2] => { results := [.lit (.bool false)], args := [d1, d2] }
  | _ => none }
def TablesSnapsWrongFalsely : Prop := tablesSnapsRow.holds Try.pinned (OpenSpec.ofChange tablesSnapsWrong)

/-- 'palimpsestlaw11.TablesRows': WHATEVER THE INPUT: true; the input reads as it did. -/
def tablesRowsSpec : ChangeSpec := { name := "tablesRows", fn := fun _ => fun
  | [d1, d2] => { results := [.lit (.bool true)], args := [d1, d2] }
  | _ => none }
def tablesRowsRow : OpenClaim := { program := "ytjjhkfhppoioiaa", sum := "0b631326ddad65dda206e75e3118bbbf93ad4d667fac0feadc305072b8507579", func := "palimpsest/palimpsestlaw11.TablesRows", spec := "tablesRows", inPlace := ["internal/bytealg.IndexByteString"], unfollowed := true, recurses := true, apart := false }
def TablesRowsSaid : Prop := tablesRowsRow.holds Try.pinned (OpenSpec.ofChange tablesRowsSpec)

/-- ITS FALSE NEIGHBOUR: 'it returns false'. Refute it at one input. -/
def tablesRowsWrong : ChangeSpec := { name := "tablesRows", fn := fun _ => fun
  | [d1, d2] => { results := [.lit (.bool false)], args := [d1, d2] }
  | _ => none }
def TablesRowsWrongFalsely : Prop := tablesRowsRow.holds Try.pinned (OpenSpec.ofChange tablesRowsWrong)

/-- 'palimpsestlaw11.TablesRead': WHATEVER THE INPUT: true; the input reads as it did. -/
def tablesReadSpec : ChangeSpec := { name := "tablesRead", fn := fun _ => fun
  | [d1, d2, d3] => { results := [.lit (.bool true)], args := [d1, d2, d3] }
  | _ => none }
def tablesReadRow : OpenClaim := { program := "ytjjhkfhppoioiaa", sum := "0b631326ddad65dda206e75e3118bbbf93ad4d667fac0feadc305072b8507579", func := "palimpsest/palimpsestlaw11.TablesRead", spec := "tablesRead", inPlace := ["internal/bytealg.IndexByteString"], unfollowed := true, recurses := true, apart := false }
def TablesReadSaid : Prop := tablesReadRow.holds Try.pinned (OpenSpec.ofChange tablesReadSpec)

/-- ITS FALSE NEIGHBOUR: 'it returns false'. Refute it at one input. -/
def tablesReadWrong : ChangeSpec := { name := "tablesRead", fn := fun _ => fun
  | [d1, d2, d3] => { results := [.lit (.bool false)], args := [d1, d2, d3] }
  | _ => none }
def TablesReadWrongFalsely : Prop := tablesReadRow.holds Try.pinned (OpenSpec.ofChange tablesReadWrong)

/-- 'palimpsestlaw11.TablesFind': WHATEVER THE INPUT: true; the input reads as it did. -/
def tablesFindSpec : ChangeSpec := { name := "tablesFind", fn := fun _ => fun
  | [d1, d2, d3] => { results := [.lit (.bool true)], args := [d1, d2, d3] }
  | _ => none }
def tablesFindRow : OpenClaim := { program := "ytjjhkfhppoioiaa", sum := "0b631326ddad65dda206e75e3118bbbf93ad4d667fac0feadc305072b8507579", func := "palimpsest/palimpsestlaw11.TablesFind", spec := "tablesFind", inPlace := ["internal/bytealg.IndexByteString"], unfollowed := true, recurses := true, apart := false }
def TablesFindSaid : Prop := tablesFindRow.holds Try.pinned (OpenSpec.ofChange tablesFindSpec)

/-- ITS FALSE NEIGHBOUR: 'it returns false'. Refute it at one input. -/
def tablesFindWrong : ChangeSpec := { name := "tablesFind", fn := fun _ => fun
  | [d1, d2, d3] => { results := [.lit (.bool false)], args := [d1, d2, d3] }
  | _ => none }
def TablesFindWrongFalsely : Prop := tablesFindRow.holds Try.pinned (OpenSpec.ofChange tablesFindWrong)

/-- 'palimpsestlaw11.TablesParts': WHATEVER THE INPUT: true; the input reads as it did. -/
def tablesPartsSpec : ChangeSpec := { name := "tablesParts", fn := fun _ => fun
  | [d1, d2, d3] => { results := [.lit (.bool true)], args := [d1, d2, d3] }
  | _ => none }
def tablesPartsRow : OpenClaim := { program := "ytjjhkfhppoioiaa", sum := "0b631326ddad65dda206e75e3118bbbf93ad4d667fac0feadc305072b8507579", func := "palimpsest/palimpsestlaw11.TablesParts", spec := "tablesParts", inPlace := ["internal/bytealg.IndexByteString"], unfollowed := true, recurses := true, apart := false }
def TablesPartsSaid : Prop := tablesPartsRow.holds Try.pinned (OpenSpec.ofChange tablesPartsSpec)

/-- ITS FALSE NEIGHBOUR: 'it returns false'. Refute it at one input. -/
def tablesPartsWrong : ChangeSpec := { name := "tablesParts", fn := fun _ => fun
  | [d1, d2, d3] => { results := [.lit (.bool false)], args := [d1, d2, d3] }
  | _ => none }
def TablesPartsWrongFalsely : Prop := tablesPartsRow.holds Try.pinned (OpenSpec.ofChange tablesPartsWrong)

/- THE SECOND FORM. 'bulk': how many values and letters a reading holds, each counted each time it is reached (what is shared counts as often as it is met; a slice's spare places count too). A statement '..UptoSaid' is the law's where the arguments, and the package variables that the reading takes, are together of bulk at most 1048576: NARROWER than '..Said'. Prove '..Said' where nothing that the law and all that it calls make is longer than what came in: it says more and counts as full. Else prove '..UptoSaid'. A law counts once. -/
mutual
def uptoBulk {H : Type} : DataW H → Nat
  | .lit (.string bytes) => bytes.length + 1
  | .lit _ => 1
  | .nil => 1
  | .ptr d => uptoBulk d + 1
  | .slice elems spare => uptoBulkAll elems + uptoBulkAll spare + 1
  | .agg parts => uptoBulkAll parts + 1
  | .iface _ d => uptoBulk d + 1
  | .map entries => uptoBulkEntries entries + 1
  | .held _ => 1
def uptoBulkAll {H : Type} : List (DataW H) → Nat
  | [] => 0
  | d :: r => uptoBulk d + uptoBulkAll r
def uptoBulkEntries {H : Type} : List (Lit × DataW H) → Nat
  | [] => 0
  | x :: r => uptoBulkEntry x + uptoBulkEntries r
def uptoBulkEntry {H : Type} : Lit × DataW H → Nat
  | (.string bytes, d) => bytes.length + uptoBulk d + 1
  | (_, d) => uptoBulk d + 1
 end
def uptoSmall : (H : Type) → List (DataW H) → Bool := fun _ ds => decide (uptoBulkAll ds ≤ 1048576)
def OpenSpec.upto (s : _root_.Go.ChangeSpec) : _root_.Go.OpenSpec := { _root_.Go.OpenSpec.ofChange s with cond := some uptoSmall }

/-- 'palimpsestlaw11.TablesSnaps', WHERE WHAT IT READS IS OF BULK AT MOST 1048576: true; the input reads as it did. -/
def tablesSnapsUptoRow : OpenClaim := { program := "ytjjhkfhppoioiaa", sum := "0b631326ddad65dda206e75e3118bbbf93ad4d667fac0feadc305072b8507579", func := "palimpsest/palimpsestlaw11.TablesSnaps", spec := "tablesSnaps", inPlace := ["internal/bytealg.IndexByteString"], unfollowed := true, recurses := true, apart := false, narrowed := true }
def TablesSnapsUptoSaid : Prop := tablesSnapsUptoRow.holds Try.pinned (OpenSpec.upto tablesSnapsSpec)

/-- 'palimpsestlaw11.TablesRows', WHERE WHAT IT READS IS OF BULK AT MOST 1048576: true; the input reads as it did. -/
def tablesRowsUptoRow : OpenClaim := { program := "ytjjhkfhppoioiaa", sum := "0b631326ddad65dda206e75e3118bbbf93ad4d667fac0feadc305072b8507579", func := "palimpsest/palimpsestlaw11.TablesRows", spec := "tablesRows", inPlace := ["internal/bytealg.IndexByteString"], unfollowed := true, recurses := true, apart := false, narrowed := true }
def TablesRowsUptoSaid : Prop := tablesRowsUptoRow.holds Try.pinned (OpenSpec.upto tablesRowsSpec)

/-- 'palimpsestlaw11.TablesRead', WHERE WHAT IT READS IS OF BULK AT MOST 1048576: true; the input reads as it did. -/
def tablesReadUptoRow : OpenClaim := { program := "ytjjhkfhppoioiaa", sum := "0b631326ddad65dda206e75e3118bbbf93ad4d667fac0feadc305072b8507579", func := "palimpsest/palimpsestlaw11.TablesRead", spec := "tablesRead", inPlace := ["internal/bytealg.IndexByteString"], unfollowed := true, recurses := true, apart := false, narrowed := true }
def TablesReadUptoSaid : Prop := tablesReadUptoRow.holds Try.pinned (OpenSpec.upto tablesReadSpec)

/-- 'palimpsestlaw11.TablesFind', WHERE WHAT IT READS IS OF BULK AT MOST 1048576: true; the input reads as it did. -/
def tablesFindUptoRow : OpenClaim := { program := "ytjjhkfhppoioiaa", sum := "0b631326ddad65dda206e75e3118bbbf93ad4d667fac0feadc305072b8507579", func := "palimpsest/palimpsestlaw11.TablesFind", spec := "tablesFind", inPlace := ["internal/bytealg.IndexByteString"], unfollowed := true, recurses := true, apart := false, narrowed := true }
def TablesFindUptoSaid : Prop := tablesFindUptoRow.holds Try.pinned (OpenSpec.upto tablesFindSpec)

/-- 'palimpsestlaw11.TablesParts', WHERE WHAT IT READS IS OF BULK AT MOST 1048576: true; the input reads as it did. -/
def tablesPartsUptoRow : OpenClaim := { program := "ytjjhkfhppoioiaa", sum := "0b631326ddad65dda206e75e3118bbbf93ad4d667fac0feadc305072b8507579", func := "palimpsest/palimpsestlaw11.TablesParts", spec := "tablesParts", inPlace := ["internal/bytealg.IndexByteString"], unfollowed := true, recurses := true, apart := false, narrowed := true }
def TablesPartsUptoSaid : Prop := tablesPartsUptoRow.holds Try.pinned (OpenSpec.upto tablesPartsSpec)

end Rows
end Go.Proofs.Ytjjhkfhppoioiaa
