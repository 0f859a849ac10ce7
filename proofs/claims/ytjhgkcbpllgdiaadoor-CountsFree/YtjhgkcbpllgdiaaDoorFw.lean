/- CountsFree's walk. -/
import Derived.Test.YtjhgkcbpllgdiaaDoorFc
import Derived.Test.YtjhgkcbpllgdiaaDoorKn
namespace Go.Proofs.YtjhgkcbpllgdiaaDoor
open Go.RowKit
set_option linter.unusedVariables false
set_option maxHeartbeats 1000000 in
theorem free_walk (ao : Option Addr) (cap : Nat) (zs : List Int) (o F n : Int) (w : World) (hl : zs.length ≤ 9223372036854775807) (hz : Byt zs) (hw : Wd w) (hn2 : n ≤ 9223372036854775807) (hs : Src .u8 w ao zs) : Calls Tryd.prog 4 #[.slice ao zs.length cap, .int .i64 o, .agg #[.int .i64 F, .int .i64 n]] w fun e w' => e = .returned (.bool true) ∧ Kp (fun _ => False) w w' := by
  have HS := hid (St.new 42 w #[.int .i64 F, .int .i64 n])
  have HK : Hid (Kp (fun _ => False) w (w.alloc (.cells #[.int .i64 F, .int .i64 n] 42))) := (Kp.refl _ _).alloc _
  have W0 := hid hw
  have KN := hid (fun (X : World) (kx : Kp (fun _ => False) w X) => known_any X (hw.kp kx (fun x => x)))
  by_cases hb : zs.length ≤ 300
  · have h3 : ¬ (300 : Int) < (zs.length : Int) := by omega
    have FR := hid (fun (X : World) (kx : Kp (fun _ => False) w X) => free_all ao cap o F n zs X (by omega) hz (hw.kp kx (fun x => x)) hn2 (hs.kp0 kx))
    have RF := hid (fun (X : World) (kx : Kp (fun _ => False) w X) => rfree_all ao cap o F n zs X (by omega) hz hn2 (hs.kp0 kx))
    clear hs hw W0
    go_enter Tryd.func4, Tryd.ntmps4
    go_wp2_with fail
    refine (FR.out _ HK.out).mono ?_
    rintro e w1 ⟨X, E, rfl, fr, k1⟩
    have K1 := hid (HK.out.trans k1 (fun _ _ x => x))
    have S1 := HS.out.kp k1 (fun x => x)
    have c0 : w1.cell? ⟨w.heap.size, 0, none⟩ = some (.int .i64 F) := S1.cell 0
    have c1 : w1.cell? ⟨w.heap.size, 1, none⟩ = some (.int .i64 n) := S1.cell 1
    have F1 := hid fr
    clear fr k1 S1 FR
    go_wp2_with fail
    refine (RF.out _ K1.out).mono ?_
    rintro e w2 ⟨X', E', rfl, fr, rfl⟩
    obtain ⟨rfl, rfl⟩ := F1.out.one fr
    clear fr F1 RF c0 c1
    go_wp2_with fail
    refine (KN.out _ K1.out).mono ?_
    rintro e w3 ⟨rfl, k3⟩
    have K3 := hid (K1.out.trans k3 (fun _ _ x => x))
    clear k3
    go_wp2_with fail
    go_ret
    exact ⟨rfl, K3.out⟩
  · have h3 : (300 : Int) < (zs.length : Int) := by omega
    clear hs hw W0
    go_enter Tryd.func4, Tryd.ntmps4
    go_wp2_with fail
    refine (KN.out _ HK.out).mono ?_
    rintro e w3 ⟨rfl, k3⟩
    have K3 := hid (HK.out.trans k3 (fun _ _ x => x))
    clear k3
    go_wp2_with fail
    go_ret
    exact ⟨rfl, K3.out⟩
end Go.Proofs.YtjhgkcbpllgdiaaDoor
