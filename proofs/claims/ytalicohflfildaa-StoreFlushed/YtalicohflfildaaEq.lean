/- bytes.Equal, of bytes that are the same. -/
import Derived.Test.YtalicohflfildaaFr
import Derived.Lib.SmallJoins
namespace Go.Proofs.Ytalicohflfildaa
open Go.RowKit

theorem cv {w : World} {ao : Option Addr} {len c : Nat} {xs : List Int} (hl : xs.length = len) (h : Src .u8 w ao xs) : (convert 36 9 (.slice ao len c)).run Try.prog w = .ok (.string (strOfNums xs)) w := by
  subst hl
  exact run_convert_rw w 36 9 5 Try.underlying36 Try.underlying5 Try.underlying9 ao _ c xs rfl h
set_option maxRecDepth 100000 in
set_option maxHeartbeats 400000 in
theorem equal_true (ao bo : Option Addr) (n c d : Nat) (xs : List Int) (w : World) (hx : Src .u8 w ao xs) (hy : Src .u8 w bo xs) (hn : xs.length = n) :
    Calls Try.prog 74 #[.slice ao n c, .slice bo n d] w fun e w' => e = .returned (.bool true) ∧ w' = w := by
  have c1 := cv (c := c) hn hx
  have c2 := cv (c := d) hn hy
  clear hx hy
  go_enter Try.func74, Try.ntmps74
  go_wp2
  go_ret
  exact ⟨rfl, rfl⟩
end Go.Proofs.Ytalicohflfildaa
