/- CountsOne's walk: all branches. -/
import Derived.Test.YtjhgkcbpllgdiaaDoorOa
import Derived.Test.YtjhgkcbpllgdiaaDoorOb
import Derived.Test.YtjhgkcbpllgdiaaDoorOd
import Derived.Test.YtjhgkcbpllgdiaaDoorOe
import Derived.Test.YtjhgkcbpllgdiaaDoorOf
import Derived.Test.YtjhgkcbpllgdiaaDoorOg
namespace Go.Proofs.YtjhgkcbpllgdiaaDoor
open Go.RowKit
set_option linter.unusedVariables false
theorem one_walk (ao : Option Addr) (cap : Nat) (zs : List Int) (o i x y : Int) (w : World) (hl : zs.length ≤ 9223372036854775807) (hz : Byt zs) (hw : Wd w) (hx : 0 ≤ x ∧ x < 18446744073709551616) (hy : -9223372036854775808 ≤ y ∧ y ≤ 9223372036854775807) (hnil : ao = none → cap = 0) (hs : Src .u8 w ao zs) : Calls Tryd.prog 3 #[.slice ao zs.length cap, .int .i64 o, .agg #[.int .i64 i, .int .u64 x, .int .i64 y]] w fun e w' => e = .returned (.bool true) ∧ Kp (fun _ => False) w w' := by
  by_cases hb : zs.length ≤ 3000
  case neg => exact one_big ao cap zs o i x y w hl hz hw hx hy hnil hs (by omega)
  by_cases ho : Ord o
  case neg => exact one_no ao cap zs o i x y w hl hz hw hx hy hnil hs hb ho
  obtain ⟨o, rfl⟩ : ∃ k : Nat, o = k := ⟨o.toNat, by unfold Ord at ho; omega⟩
  have ho7 : o < 7 := by unfold Ord at ho; omega
  by_cases hi : Has zs.length (2 ^ o) i
  case neg => exact one_rng ao cap zs o i x y w hl hz hw hx hy hnil hs hb ho7 hi
  obtain ⟨i, rfl⟩ : ∃ k : Nat, i = k := ⟨i.toNat, by unfold Has at hi; omega⟩
  have hi2 : i < 8 * zs.length / 2 ^ o := by unfold Has at hi; exact Int.ofNat_lt.1 hi.2
  have hpos : 0 < zs.length := by have := fits_of (pow_pos7 o) hi2; have := pow_pos7 o; omega
  obtain ⟨g, off, rfl, _⟩ := hs hpos
  by_cases hxm : x ≤ mst (2 ^ o)
  · by_cases hy0 : y < 0
    · by_cases hf : - y ≤ nb (sb zs (i * 2 ^ o) (2 ^ o) x) (i * 2 ^ o) (2 ^ o)
      · exact one_1nf g off cap o i zs x y w hl hz hw hx hy hs hb ho7 hi2 hxm ⟨hy0, hf⟩
      · exact one_1nn g off cap o i zs x y w hl hz hw hx hy hs hb ho7 hi2 hxm ⟨hy0, by omega⟩
    · by_cases hf : y ≤ mst (2 ^ o) - nb (sb zs (i * 2 ^ o) (2 ^ o) x) (i * 2 ^ o) (2 ^ o)
      · exact one_1pf g off cap o i zs x y w hl hz hw hx hy hs hb ho7 hi2 hxm ⟨by omega, hf⟩
      · exact one_1pn g off cap o i zs x y w hl hz hw hx hy hs hb ho7 hi2 hxm ⟨by omega, by omega⟩
  · by_cases hy0 : y < 0
    · by_cases hf : - y ≤ nb zs (i * 2 ^ o) (2 ^ o)
      · exact one_0nf g off cap o i zs x y w hl hz hw hx hy hs hb ho7 hi2 (by omega) ⟨hy0, hf⟩
      · exact one_0nn g off cap o i zs x y w hl hz hw hx hy hs hb ho7 hi2 (by omega) ⟨hy0, by omega⟩
    · by_cases hf : y ≤ mst (2 ^ o) - nb zs (i * 2 ^ o) (2 ^ o)
      · exact one_0pf g off cap o i zs x y w hl hz hw hx hy hs hb ho7 hi2 (by omega) ⟨by omega, hf⟩
      · exact one_0pn g off cap o i zs x y w hl hz hw hx hy hs hb ho7 hi2 (by omega) ⟨by omega, by omega⟩
end Go.Proofs.YtjhgkcbpllgdiaaDoor
