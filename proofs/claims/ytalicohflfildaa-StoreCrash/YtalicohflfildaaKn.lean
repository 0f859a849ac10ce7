/- known: two pieces, of which one lasts. -/
import Derived.Test.YtalicohflfildaaCa
import Derived.Test.YtalicohflfildaaWt
import Derived.Lib.SmallJoins
namespace Go.Proofs.Ytalicohflfildaa
open Go.RowKit

theorem nmd_a : nmd ⟨#[97]⟩ = true := by decide +kernel
theorem gwr_a : gwr 510 [119, 120, 121, 122] ⟨0, zero, []⟩ ((pcs 510 4).take (lft 0 0 4)) = ⟨514, zero, [(510, [119, 120]), (512, [121, 122])]⟩ := by rfl
theorem crl_a (a : Fa) : crl [(⟨#[97]⟩, a, ⟨514, zero, [(510, [119, 120]), (512, [121, 122])]⟩)] [0, 1] 0 (nms [(⟨#[97]⟩, a, ⟨514, zero, [(510, [119, 120]), (512, [121, 122])]⟩)]) = [(⟨#[97]⟩, ⟨514, ovs zero [(512, [121, 122])], []⟩)] := by
  have h : nms [(⟨#[97]⟩, a, ⟨514, zero, [(510, [119, 120]), (512, [121, 122])]⟩)] = [⟨#[97]⟩] := by
    unfold nms snm
    rw [List.map_cons, List.map_nil, List.mergeSort_singleton]
    rfl
  rw [h]
  simp [crl, crf, fget, pks, pkb, pck]
theorem rd_a : (List.range (rdn 514 510 9)).map (fun i => ovs (ovs zero [(512, [121, 122])]) [] (510 + i)) = [0, 0, 121, 122] := by decide +kernel
theorem rdn_a : rdn 514 510 9 = 4 := rfl
theorem pnd_a (a : Fa) : pnd [(⟨#[97]⟩, a, ⟨514, zero, [(510, [119, 120]), (512, [121, 122])]⟩)] = 2 := rfl
theorem str_a : strOfNums [0, 0, 121, 122] = ⟨#[0, 0, 121, 122]⟩ := by decide +kernel
set_option maxRecDepth 100000 in
set_option maxHeartbeats 4000000 in
theorem known_any (w : World) : Calls Try.prog 8 #[] w fun e w' => e = .returned (.bool true) ∧ Kp (fun _ => False) w w' := by
  go_enter Try.func8, Try.ntmps8
  go_wp2_with fail
  refine (new_none w).mono ?_
  rintro e w1 ⟨rfl, S1, k1⟩
  have HS1 : Hid (Sr (fun i => i < w.heap.size) w1 (w.heap.size + 1) w.heap.size (.slice none 0 0) 0 [] [] [] 0) := S1
  have K1 : Hid (Kp (fun _ => False) w w1) := k1
  clear S1 k1
  generalize hg : w.heap.size + 1 = g at HS1 ⊢
  generalize hfm : w.heap.size = fm at HS1
  have HG : Hid (w.heap.size + 1 = g ∧ w.heap.size = fm) := ⟨hg, hfm⟩
  clear hg hfm
  go_wp2_with fail
  refine (create_good _ w1 g fm _ 0 [] [] [] 0 HS1.out ⟨#[97]⟩ nmd_a rfl (by simp) (by omega) 0 rfl).mono ?_
  rintro e w2 ⟨rfl, fv, a, es, c, S2, ho2, hown2, k2⟩
  simp only [List.nil_append, List.tail_nil, Nat.zero_add] at S2
  have K2 : Hid (Kp (fun _ => False) w w2) := K1.out.trans k2 (fun i hi h => by have := HG.out; omega)
  have HS2 : Hid (Sr (fun i => i < fm) w2 g fm fv 1 [(⟨#[97]⟩, a, ⟨0, zero, []⟩)] [] es c) := S2
  have HO2 : Hid (∀ i, i ∈ a.own → w.heap.size ≤ i) := fun i hi => Nat.le_trans K1.out.size (hown2 i hi)
  clear S2 ho2 hown2 k2 HS1 K1
  have hcv := Joins.run_convert_bytes_const_at (P := Try.prog) w2 36 5 #[.int .u8 119, .int .u8 120, .int .u8 121, .int .u8 122] 4 4 w2.heap.size rfl Try.underlying36 Try.underlying5
  simp only [List.size_toArray, List.length_cons, List.length_nil, Nat.reduceAdd] at hcv
  have hsrc : Src .u8 (w2.alloc (.cells #[.int .u8 119, .int .u8 120, .int .u8 121, .int .u8 122] 5 (4, 5))) (some ⟨w2.heap.size, 0, none⟩) [119, 120, 121, 122] := by
    refine Src.mk fun i hi => ?_
    rw [Nat.zero_add, World.cell?_alloc_mark]
    have h10 : i < 4 := hi
    rcases (show i = 0 ∨ i = 1 ∨ i = 2 ∨ i = 3 by omega) with rfl | rfl | rfl | rfl <;> rfl
  have HSRC : Hid (Src .u8 (w2.alloc (.cells #[.int .u8 119, .int .u8 120, .int .u8 121, .int .u8 122] 5 (4, 5))) (some ⟨w2.heap.size, 0, none⟩) [119, 120, 121, 122]) := hsrc
  have kb : Kp (fun _ => False) w2 (w2.alloc (.cells #[.int .u8 119, .int .u8 120, .int .u8 121, .int .u8 122] 5 (4, 5))) := (Kp.refl _ _).alloc _
  have KB : Hid (Kp (fun _ => False) w2 (w2.alloc (.cells #[.int .u8 119, .int .u8 120, .int .u8 121, .int .u8 122] 5 (4, 5)))) := kb
  clear hsrc kb
  go_wp2_with fail
  generalize (w2.alloc (.cells #[.int .u8 119, .int .u8 120, .int .u8 121, .int .u8 122] 5 (4, 5))) = W3 at HSRC KB ⊢
  have S3 := HS2.out.kp KB.out (fun _ _ h => h) (fun _ _ h => h)
  have hol := HS2.out.lt
  refine (callsIn_wide.1 (write_go _ W3 g fm fv 1 [] [] [] es c ⟨#[97]⟩ a ⟨0, zero, []⟩ S3 (by simp [fget]) (by omega) 0 0 rfl 510 4 4 (some ⟨w2.heap.size, 0, none⟩) [119, 120, 121, 122] rfl (by omega) HSRC.out (by omega) (fun _ b off e hm => by cases e; have := hol _ hm; omega) (by simp))).mono ?_
  rw [gwr_a]
  rintro e w4 ⟨rfl, D4, fv4, a4, S4, -, wk4⟩
  simp only [List.nil_append, List.tail_nil] at S4
  have HS4 : Hid (Sr D4 w4 g fm fv4 2 [(⟨#[97]⟩, a4, ⟨514, zero, [(510, [119, 120]), (512, [121, 122])]⟩)] [] es c) := S4
  have K4 : Hid (Kp (fun _ => False) w w4) := (K2.out.trans KB.out (fun _ _ h => h)).trans wk4.k (fun i hi h => by
    rcases List.mem_cons.1 h with h | h
    · have := HG.out; omega
    · have := HO2.out i h; omega)
  rw [show ferr 0 = 0 from rfl]
  clear S4 wk4 S3 hol KB HSRC hcv HS2 K2 HO2
  go_wp2_with fail
  have hq4 : fget [((⟨#[97]⟩ : ByteArray), a4, (⟨514, zero, [(510, [119, 120]), (512, [121, 122])]⟩ : Gf))] ⟨#[97]⟩ = some (⟨#[97]⟩, a4, ⟨514, zero, [(510, [119, 120]), (512, [121, 122])]⟩) := by simp [fget]
  have hf4 := HS4.out.file_some ⟨#[97]⟩ nmd_a _ hq4
  have hr4 := HS4.out.fr (⟨#[97]⟩, a4, ⟨514, zero, [(510, [119, 120]), (512, [121, 122])]⟩) (by simp)
  dsimp only at hf4 hr4
  refine (size_some ⟨#[97]⟩ _ a4.fb 514 w4 hf4 (hr4.st.cell 0)).mono ?_
  rintro e w5 ⟨rfl, h⟩
  replace h := h.symm
  subst h
  clear hf4 hr4 hq4
  go_wp2_with fail
  have hsr : Src .i64 (w4.alloc (.cells #[.int .i64 0, .int .i64 1] 3)) (some ⟨w4.heap.size, 0, none⟩) [0, 1] := by
    refine Src.mk fun i hi => ?_
    rw [Nat.zero_add]
    have h10 : i < 2 := hi
    rcases (show i = 0 ∨ i = 1 by omega) with rfl | rfl
    · exact (St.new 3 w4 #[.int .i64 0, .int .i64 1]).cell 0
    · exact (St.new 3 w4 #[.int .i64 0, .int .i64 1]).cell 1
  have k5 : Kp (fun _ => False) w4 (w4.alloc (.cells #[.int .i64 0, .int .i64 1] 3)) := (Kp.refl _ _).alloc _
  have z5 : (w4.alloc (.cells #[.int .i64 0, .int .i64 1] 3)).heap.size = w4.heap.size + 1 := World.size_alloc _ _
  generalize w4.alloc (.cells #[.int .i64 0, .int .i64 1] 3) = W5 at hsr k5 z5 ⊢
  have S5 := HS4.out.kp k5 (fun _ _ h => h) (fun _ _ h => h)
  refine (crash_any D4 W5 g fm fv4 2 _ [] es c S5 (some ⟨w4.heap.size, 0, none⟩) [0, 1] 2 2 rfl (by omega) (by decide) hsr (fun _ b off e => by cases e; omega)).mono ?_
  rintro e w6 ⟨D6, g6, fm6, fs6, es6, c6, rfl, S6, ev6, -, -, -, k6⟩
  rw [crl_a] at ev6
  obtain ⟨a6, rfl⟩ : ∃ a6, fs6 = [(⟨#[97]⟩, a6, ⟨514, ovs zero [(512, [121, 122])], []⟩)] := by
    cases fs6 with
    | nil => exact absurd (congrArg List.length ev6) (by simp)
    | cons x t =>
      cases t with
      | nil =>
        obtain ⟨x1, x2, x3⟩ := x
        simp only [List.map_cons, List.map_nil, List.cons.injEq, Prod.mk.injEq, and_true] at ev6
        exact ⟨x2, by rw [ev6.1, ev6.2]⟩
      | cons y t => exact absurd (congrArg List.length ev6) (by simp)
  have HS6 : Hid (Sr D4 w6 g fm fv4 2 [(⟨#[97]⟩, a4, ⟨514, zero, [(510, [119, 120]), (512, [121, 122])]⟩)] [] es c) := S5.kp k6 (fun _ _ h => h) (fun _ _ h => h)
  have K6 : Hid (Kp (fun _ => False) w w6) := (K4.out.trans k5 (fun _ _ h => h)).trans k6 (fun _ _ h => h)
  have hf6 := S6.file_some ⟨#[97]⟩ nmd_a (⟨#[97]⟩, a6, ⟨514, ovs zero [(512, [121, 122])], []⟩) (by simp [fget])
  have hr6 := S6.fr (⟨#[97]⟩, a6, ⟨514, ovs zero [(512, [121, 122])], []⟩) (by simp)
  dsimp only at hf6 hr6
  have HF6 : Hid (Calls Try.prog 32 #[.pointer (some ⟨g6, 0, none⟩), .string ⟨#[97]⟩] w6 fun e w' => e = .returned (.tuple #[.pointer (some ⟨a6.fb, 0, none⟩), .int .i64 0]) ∧ w' = w6) := hf6
  have HR6 : Hid (Fr D6 w6 a6 514 (ovs zero [(512, [121, 122])]) []) := hr6
  clear S5 S6 ev6 k6 k5 z5 hsr HS4 K4 hf6 hr6
  go_wp2_with fail
  obtain ⟨fb6, lm6, om6, pv6⟩ := a6
  refine (read_some ⟨#[97]⟩ _ 510 9 D6 fb6 lm6 om6 pv6 514 _ [] w6 HF6.out HR6.out (by omega)).mono ?_
  rw [rd_a, rdn_a]
  rintro e w7 ⟨g7, rfl, hg7, rw7, b7⟩
  have k7 : Kp (fun _ => False) w6 w7 := Kp.of_below b7
  have HS7 : Hid (Sr D4 w7 g fm fv4 2 [(⟨#[97]⟩, a4, ⟨514, zero, [(510, [119, 120]), (512, [121, 122])]⟩)] [] es c) := HS6.out.kp k7 (fun _ _ h => h) (fun _ _ h => h)
  have K7 : Hid (Kp (fun _ => False) w w7) := K6.out.trans k7 (fun _ _ h => h)
  have HRW : Hid (Rw .u8 5 w7 g7 [0, 0, 121, 122]) := rw7
  clear rw7 b7 k7 hg7 HF6 HR6 HS6 K6
  go_wp2_with fail
  refine (pending_any D4 w7 g fm fv4 2 _ [] es c HS7.out).mono ?_
  rw [pnd_a]
  rintro e w8 ⟨rfl, k8⟩
  have rw8 := HRW.out.kp k8 (fun h => h)
  have hcv : (convert 36 9 (.slice (some ⟨g7, 0, none⟩) 4 4)).run Try.prog w8 = .ok (.string ⟨#[0, 0, 121, 122]⟩) w8 := by
    rw [← str_a]
    refine run_convert_rw w8 36 9 5 Try.underlying36 Try.underlying5 Try.underlying9 _ 4 4 [0, 0, 121, 122] rfl (fun _ => ⟨g7, 0, rfl, fun i hi => ?_⟩)
    rw [Nat.zero_add]
    exact rw8.cell i hi
  have K8 : Hid (Kp (fun _ => False) w w8) := K7.out.trans k8 (fun _ _ h => h)
  clear rw8 k8 HRW HS7 K7
  go_wp2
  go_ret
  exact ⟨rfl, K8.out⟩
end Go.Proofs.Ytalicohflfildaa
