/- Longest. -/
import Derived.Test.YtofmoggejfopiaaLg
namespace Go.Proofs.Ytofmoggejfopiaa
open Go.RowKit
set_option maxRecDepth 100000 in
set_option maxHeartbeats 1000000 in
theorem longest_none (ao : Option Addr) (N cap : Nat) (p : Int) (w : World) (hN : N ≤ 1048576) (hp : p < 0 ∨ (N : Int) ≤ p) :
    Calls Try.prog 10 #[.slice ao N cap, .int .i64 p] w fun e w' => e = .returned (.tuple #[tkv (0, 0), .bool false]) ∧ Below w.heap.size w w' := by
  have hgt : ¬ (1048576 : Int) < (N : Int) := by omega
  have HB : Hid (Below w.heap.size w (w.alloc (.cells #[.int .u8 0, .int .i64 0, .int .i64 0] 25))) := (Below.refl _ _).alloc (Nat.le_refl _) _
  rcases hp with hp | hp
  · go_enter Try.func10, Try.ntmps10
    go_wp2
    refine bodyPost_ret (v := .tuple #[tkv (0, 0), .bool false]) ?_ rfl ⟨rfl, HB.out⟩
    rw [results_cell_tmp (p := 4) (u := 5) (ty := 25) rfl]
    go_simp
    rfl
  · have hp0 : ¬ p < 0 := by omega
    go_enter Try.func10, Try.ntmps10
    go_wp2
    refine bodyPost_ret (v := .tuple #[tkv (0, 0), .bool false]) ?_ rfl ⟨rfl, HB.out⟩
    rw [results_cell_tmp (p := 4) (u := 5) (ty := 25) rfl]
    go_simp
    rfl
set_option maxRecDepth 100000 in
set_option maxHeartbeats 2000000 in
theorem longest_ok (zs : List Int) (ao : Option Addr) (cap p : Nat) (w : World) (hB : Byt zs) (hN : zs.length ≤ 1048576) (hc : zs.length ≤ cap) (hc2 : cap ≤ maxLen) (hS : Src .u8 w ao zs) (hp : p < zs.length) :
    Calls Try.prog 10 #[.slice ao zs.length cap, .int .i64 (p : Int)] w fun e w' => e = .returned (.tuple #[tkv (lng (bf zs) zs.length p), .bool (decide (0 < (lng (bf zs) zs.length p).1))]) ∧ Below w.heap.size w w' := by
  have hgt : ¬ (1048576 : Int) < (zs.length : Int) := by omega
  have hp0 : ¬ (p : Int) < 0 := by omega
  have hp1 : ¬ (zs.length : Int) ≤ (p : Int) := by omega
  have HB : Hid (Below w.heap.size w (w.alloc (.cells #[.int .u8 0, .int .i64 0, .int .i64 0] 25))) := (Below.refl _ _).alloc (Nat.le_refl _) _
  have HS : Hid (Src .u8 w ao zs) := hS
  have HBY : Hid (Byt zs) := hB
  have HC2 : Hid (cap ≤ maxLen) := hc2
  clear hB hS hc2
  go_enter Try.func10, Try.ntmps10
  go_wp2_with fail
  refine (longer_any zs (fun _ => 1) ao cap p 2 none 0 0 _ HBY.out (by omega) hc HC2.out (HS.out.below HB.out) (.inl fun _ => rfl) (.inl ⟨rfl, fun _ => rfl⟩) (by omega) (by omega) (by omega)).mono ?_
  rintro e w1 ⟨rfl, b1⟩
  rw [lngk_two]
  obtain ⟨⟨l, d⟩, hld⟩ : ∃ t, t = lng (bf zs) zs.length p := ⟨_, rfl⟩
  rw [← hld]
  dsimp only [tkv]
  have st1 : St 25 w1 w.heap.size #[.int .u8 0, .int .i64 0, .int .i64 0] := (St.new 25 w _).below b1 (by simp)
  have c0 : w1.cell? ⟨w.heap.size, 0, none⟩ = some (.int .u8 0) := st1.cell 0
  have c1 : w1.cell? ⟨w.heap.size, 1, none⟩ = some (.int .i64 0) := st1.cell 1
  have c2 : w1.cell? ⟨w.heap.size, 2, none⟩ = some (.int .i64 0) := st1.cell 2
  have f0 := st1.frozen 0
  have f1 := st1.frozen 1
  have f2 := st1.frozen 2
  have hlt := st1.lt
  have HB1 : Hid (Below w.heap.size w w1) := HB.out.trans (b1.mono HB.out.size)
  have HST : Hid (St 25 w1 w.heap.size #[.int .u8 0, .int .i64 0, .int .i64 0]) := st1
  have hl258 : l ≤ 100000 := by
    have h := lng_is (bf zs) zs.length p
    rw [← hld] at h
    rcases h with ⟨h, _⟩ | ⟨_, h, _⟩
    · dsimp only at h; omega
    · dsimp only at h; unfold mst at h; omega
  have HLD : Hid ((l, d) = lng (bf zs) zs.length p) := hld
  clear b1 st1 hld
  have S4 : St 25 (w1.alloc (.cells #[.int .u8 0, .int .i64 (l : Int), .int .i64 (d : Int)] 25)) w.heap.size #[.int .u8 0, .int .i64 0, .int .i64 0] := HST.out.kp ((Kp.refl (fun _ => False) w1).alloc _) (fun x => x)
  have S6 : St 25 (w1.alloc (.cells #[.int .u8 0, .int .i64 (l : Int), .int .i64 (d : Int)] 25)) w1.heap.size #[.int .u8 0, .int .i64 (l : Int), .int .i64 (d : Int)] := St.new 25 w1 _
  have BW : Below w.heap.size w (w1.alloc (.cells #[.int .u8 0, .int .i64 (l : Int), .int .i64 (d : Int)] 25)) := HB1.out.alloc HB1.out.size _
  have hne : ¬ w.heap.size = w1.heap.size := by omega
  have hne2 : ¬ w1.heap.size = w.heap.size := by omega
  go_wp2_with fail
  generalize w1.alloc (.cells #[.int .u8 0, .int .i64 (l : Int), .int .i64 (d : Int)] 25) = W at S4 S6 BW ⊢
  clear c0 c1 c2 f0 f1 f2 hlt HST HB1
  generalize w1.heap.size = g6 at S6 hne hne2 ⊢
  have x0 : W.cell? ⟨g6, 0, none⟩ = some (.int .u8 0) := S6.cell 0
  have x1 : W.cell? ⟨g6, 1, none⟩ = some (.int .i64 (l : Int)) := S6.cell 1
  have x2 : W.cell? ⟨g6, 2, none⟩ = some (.int .i64 (d : Int)) := S6.cell 2
  have y0 : W.cell? ⟨w.heap.size, 0, none⟩ = some (.int .u8 0) := S4.cell 0
  have y1 : W.cell? ⟨w.heap.size, 1, none⟩ = some (.int .i64 0) := S4.cell 1
  have y2 : W.cell? ⟨w.heap.size, 2, none⟩ = some (.int .i64 0) := S4.cell 2
  have f0 := S4.frozen 0
  have f1 := S4.frozen 1
  have f2 := S4.frozen 2
  have HBW : Hid (Below w.heap.size w W) := BW
  have HS4 : Hid (St 25 W w.heap.size #[.int .u8 0, .int .i64 0, .int .i64 0]) := S4
  clear S4 S6 BW
  go_region_held3 (fun w' => w'.cell? ⟨g6, 0, none⟩ = some (.int .u8 0) ∧ w'.cell? ⟨g6, 1, none⟩ = some (.int .i64 (l : Int)) ∧ w'.cell? ⟨g6, 2, none⟩ = some (.int .i64 (d : Int))) (first | (exact ⟨x0, x1, x2⟩) | go_keep) (fail)
  have hk : Kp (fun i => i = w.heap.size) W (((W.setCell ⟨w.heap.size, 0, none⟩ (.int .u8 0)).setCell ⟨w.heap.size, 1, none⟩ (.int .i64 (l : Int))).setCell ⟨w.heap.size, 2, none⟩ (.int .i64 (d : Int))) := ((kp_setCell W w.heap.size 0 _ (fun i => i = w.heap.size) rfl).trans (kp_setCell _ w.heap.size 1 _ (fun i => i = w.heap.size) rfl) (fun _ _ e => e)).trans (kp_setCell _ w.heap.size 2 _ (fun i => i = w.heap.size) rfl) (fun _ _ e => e)
  have HBX : Hid (Below w.heap.size w (((W.setCell ⟨w.heap.size, 0, none⟩ (.int .u8 0)).setCell ⟨w.heap.size, 1, none⟩ (.int .i64 (l : Int))).setCell ⟨w.heap.size, 2, none⟩ (.int .i64 (d : Int))).drew) := (HBW.out.trans (hk.below HBW.out.size (fun i e => by rw [e]; exact Nat.le_refl _))).drew
  clear hk
  go_wp2_with fail
  refine bodyPost_ret (v := .tuple #[.agg #[.int .u8 0, .int .i64 (l : Int), .int .i64 (d : Int)], .bool (decide (0 < l))]) ?_ rfl ⟨by rw [← HLD.out]; rfl, HBX.out⟩
  rw [results_cell_tmp (p := 4) (u := 5) (ty := 25) rfl]
  go_simp
end Go.Proofs.Ytofmoggejfopiaa
