/- Two trees as one: joined. -/
import Derived.Test.YthpocbpleffdpaaHg
import Derived.Deep.RegionHeld3
namespace Go.Proofs.Ythpocbpleffdpaa
open Go.RowKit

theorem apart_types {t u : TypeId} {w : World} {g : Nat} {cs ds : Array Value} (hne : t ≠ u) (h : St t w g cs) (k : St u w g ds) : False := by
  unfold St at h k
  rw [h] at k
  injection k with k
  injection k with _ k2
  exact hne k2

set_option maxHeartbeats 4000000 in
set_option maxRecDepth 100000 in
theorem joined_any (w : World) (Fb m a b ca cb : Nat) (xa ya za wa xb yb zb wb : Value) (hf : St 111 w Fb #[.int .i64 m]) (hm : m < 4611686018427387904) (ha : St 131 w a #[.int .u64 ca, xa, ya, za, wa]) (hb : St 131 w b #[.int .u64 cb, xb, yb, zb, wb]) (hs : ca + cb < 18446744073709551616) :
    Calls Try.prog 77 #[ptr Fb, ptr a, ptr b] w fun e w' => e = .returned (ptr w.heap.size) ∧ St 131 w' w.heap.size #[.int .u64 ((ca + cb : Nat) : Int), .int .i64 m, .int .i64 0, ptr a, ptr b] ∧ St 111 w' Fb #[.int .i64 ((m : Int) + 1)] ∧ Kp (fun k => k = Fb) w w' := by
  have HG : Hid (∀ W, Kp (fun _ => False) w W → W.heap.size = w.heap.size → Calls Try.prog 88 #[.pointer (some ⟨Fb, 0, none⟩), .agg #[.int .u64 ((ca : Int) + cb), .int .i64 0, .int .i64 0, .pointer (some ⟨a, 0, none⟩), .pointer (some ⟨b, 0, none⟩)]] W fun e w' => e = .returned (.pointer (some ⟨w.heap.size, 0, none⟩)) ∧ St 131 w' w.heap.size #[.int .u64 ((ca + cb : Nat) : Int), .int .i64 m, .int .i64 0, ptr a, ptr b] ∧ St 111 w' Fb #[.int .i64 ((m : Int) + 1)] ∧ Kp (fun k => k = Fb) w w') := by
    intro W k hz
    have := grown_any W Fb m (ca + cb) 0 (.int .i64 0) (some a) (some b) (hf.kp k (fun h => h)) hm ⟨0, rfl⟩
    rw [hz] at this
    exact this.mono (fun e w' h => ⟨h.1, h.2.1, h.2.2.1, (k.mono (G := fun k => k = Fb) (fun _ _ h => h.elim)).trans h.2.2.2 (fun _ _ h => h)⟩)
  have na : ¬ a = Fb := fun e => by subst e; exact apart_types (by decide) hf ha
  have nb : ¬ b = Fb := fun e => by subst e; exact apart_types (by decide) hf hb
  have a0 := ha.cell 0
  have b0 := hb.cell 0
  simp at a0 b0
  unfold ptr at *
  go_enter Try.func77, Try.ntmps77
  go_wp2
  refine wp_region_held_drew (S := fun w' => w'.cell? ⟨a, 0, none⟩ = some (.int .u64 ca) ∧ w'.cell? ⟨b, 0, none⟩ = some (.int .u64 cb)) (by kernel_rfl) ⟨a0, b0⟩ (fun h0 => ?_)
  refine wpAnyH_take (i := 0) (v := .pointer (some ⟨Fb, 0, none⟩)) rfl (by kernel_rfl) (by kernel_rfl) (by kernel_rfl) (fun _ _ _ h => h) (Or.inl ⟨by rfl, fun w hSw => by (try dsimp only at hSw); (try have hS1 := hSw.1); (try have hS2 := hSw.2); go_simp⟩) h0 ?_
  refine wpAnyH_take (i := 1) (v := .pointer (some ⟨a, 0, none⟩)) rfl (by kernel_rfl) (by kernel_rfl) (by kernel_rfl) (fun _ _ _ h => h) (Or.inl ⟨by rfl, fun w hSw => by (try dsimp only at hSw); (try have hS1 := hSw.1); (try have hS2 := hSw.2); go_simp⟩) h0 ?_
  refine wpAnyH_take (i := 2) (v := .pointer (some ⟨a, 0, none⟩)) rfl (by kernel_rfl) (by kernel_rfl) (by kernel_rfl) (fun _ _ _ h => h) (Or.inl ⟨by rfl, fun w hSw => by (try dsimp only at hSw); (try have hS1 := hSw.1); (try have hS2 := hSw.2); go_simp⟩) h0 ?_
  refine wpAnyH_take (i := 3) (v := .pointer (some ⟨a, 0, none⟩)) rfl (by kernel_rfl) (by kernel_rfl) (by kernel_rfl) (fun _ _ _ h => h) (Or.inl ⟨by rfl, fun w hSw => by (try dsimp only at hSw); (try have hS1 := hSw.1); (try have hS2 := hSw.2); go_simp⟩) h0 ?_
  refine wpAnyH_take (i := 4) (v := .int .u64 ca) rfl (by kernel_rfl) (by kernel_rfl) (by kernel_rfl) (fun _ _ _ h => h) (Or.inl ⟨by rfl, fun w hSw => by (try dsimp only at hSw); (try have hS1 := hSw.1); (try have hS2 := hSw.2); go_simp⟩) h0 ?_
  refine wpAnyH_take (i := 5) (v := .pointer (some ⟨b, 0, none⟩)) rfl (by kernel_rfl) (by kernel_rfl) (by kernel_rfl) (fun _ _ _ h => h) (Or.inl ⟨by rfl, fun w hSw => by (try dsimp only at hSw); (try have hS1 := hSw.1); (try have hS2 := hSw.2); go_simp⟩) h0 ?_
  refine wpAnyH_take (i := 6) (v := .pointer (some ⟨b, 0, none⟩)) rfl (by kernel_rfl) (by kernel_rfl) (by kernel_rfl) (fun _ _ _ h => h) (Or.inl ⟨by rfl, fun w hSw => by (try dsimp only at hSw); (try have hS1 := hSw.1); (try have hS2 := hSw.2); go_simp⟩) h0 ?_
  refine wpAnyH_take (i := 7) (v := .pointer (some ⟨b, 0, none⟩)) rfl (by kernel_rfl) (by kernel_rfl) (by kernel_rfl) (fun _ _ _ h => h) (Or.inl ⟨by rfl, fun w hSw => by (try dsimp only at hSw); (try have hS1 := hSw.1); (try have hS2 := hSw.2); go_simp⟩) h0 ?_
  refine wpAnyH_take (i := 8) (v := .int .u64 cb) rfl (by kernel_rfl) (by kernel_rfl) (by kernel_rfl) (fun _ _ _ h => h) (Or.inl ⟨by rfl, fun w hSw => by (try dsimp only at hSw); (try have hS1 := hSw.1); (try have hS2 := hSw.2); go_simp⟩) h0 ?_
  refine wpAnyH_take (i := 9) (v := .int .u64 ((ca : Int) + cb)) rfl (by kernel_rfl) (by kernel_rfl) (by kernel_rfl) (fun _ _ _ h => h) (Or.inl ⟨by rfl, fun w hSw => by (try dsimp only at hSw); (try have hS1 := hSw.1); (try have hS2 := hSw.2); go_simp; (simp only [IntKind.wrap, IntKind.bits, IntKind.signed]; simp; omega)⟩) h0 ?_
  refine wpAnyH_take (i := 10) (v := .pointer (some ⟨a, 0, none⟩)) rfl (by kernel_rfl) (by kernel_rfl) (by kernel_rfl) (fun _ _ _ h => h) (Or.inl ⟨by rfl, fun w hSw => by (try dsimp only at hSw); (try have hS1 := hSw.1); (try have hS2 := hSw.2); go_simp⟩) h0 ?_
  refine wpAnyH_take (i := 11) (v := .pointer (some ⟨b, 0, none⟩)) rfl (by kernel_rfl) (by kernel_rfl) (by kernel_rfl) (fun _ _ _ h => h) (Or.inl ⟨by rfl, fun w hSw => by (try dsimp only at hSw); (try have hS1 := hSw.1); (try have hS2 := hSw.2); go_simp⟩) h0 ?_
  refine wpAnyH_take (i := 12) (v := .agg #[.int .u64 ((ca : Int) + cb), .int .i64 0, .int .i64 0, .pointer (some ⟨a, 0, none⟩), .pointer (some ⟨b, 0, none⟩)]) rfl (by kernel_rfl) (by kernel_rfl) (by kernel_rfl) (fun _ _ _ h => h) (Or.inl ⟨by rfl, fun w hSw => by (try dsimp only at hSw); (try have hS1 := hSw.1); (try have hS2 := hSw.2); go_simp⟩) h0 ?_
  refine wpAnyH_ready (rs := [13]) (by kernel_rfl) (by simp) ?_
  refine AllReadyH.cons rfl (fun K hK => ?_) AllReadyH.nil
  go_simp
  refine (HG.out _ (drewN_kp (fun _ => False) w 1) rfl).mono ?_
  rintro _ w1 ⟨rfl, S1, F1, K1⟩
  go_wp2_with fail
  refine hK.out _ _ ⟨(ha.kp K1 na).cell 0, (hb.kp K1 nb).cell 0⟩ (fun h1 => ?_)
  clear hK K
  refine wpAnyH_take (i := 14) (v := .pointer (some ⟨w.heap.size, 0, none⟩)) rfl (by kernel_rfl) (by kernel_rfl) (by kernel_rfl) (fun _ _ _ h => h) (Or.inl ⟨by rfl, fun w hSw => by go_simp⟩) h1 ?_
  refine wpAnyH_done (by kernel_rfl) ?_ _
  go_wp2_with fail
  go_ret
  exact ⟨rfl, S1, F1, K1⟩
end Go.Proofs.Ythpocbpleffdpaa
