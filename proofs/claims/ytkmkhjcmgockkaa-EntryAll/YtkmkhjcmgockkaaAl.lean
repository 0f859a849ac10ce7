/- The walk of EntryAll, whatever the table. -/
import Derived.Test.YtkmkhjcmgockkaaAw
import Derived.Test.YtkmkhjcmgockkaaAn
import Derived.Test.YtkmkhjcmgockkaaOp
namespace Go.Proofs.Ytkmkhjcmgockkaa
open Go.RowKit Go.Shelf
theorem alls_walk (ao : Option Addr) (len cap : Nat) (zs : List Int) (b lv : Int) (w : World) (hin : Inb w ao len cap zs) : Calls Try.prog 5 #[.slice ao len cap, .int .i64 b, .int .i64 lv] w fun r w' => r = .returned (.bool true) ∧ Kp (fun _ => False) w w' := by
  by_cases hl : 10000 < len
  · exact alls_long ao len cap b lv w hl
  · obtain ⟨h1, h2, h3, h4, h5, h6⟩ := hin
    subst h1
    exact alls_in ao cap zs b lv w (by omega) h2 h4 h5 h6
end Go.Proofs.Ytkmkhjcmgockkaa
