/- head: what the package tells. -/
import Derived.Test.YtejdmnhdjeogaaaTb
namespace Go.Proofs.Ytejdmnhdjeogaaa
open Go.RowKit
set_option linter.unusedVariables false
set_option maxRecDepth 100000 in
set_option maxHeartbeats 2000000 in
theorem check_ok (h : Hd) (w : World) (wf : h.Wf) (m : May h) : Calls Try.prog 9 #[.agg h.cs] w fun e w' => e = .returned (.int .i64 0) ∧ Kp (fun _ => False) w w' := by
  have HB := hid (Hb.new w h)
  have HK : Hid (Kp (fun _ => False) w (w.alloc (.cells h.cs 24))) := (Kp.refl _ _).alloc _
  have MM := hid m
  have WF := hid wf
  clear m wf
  go_enter Try.func9, Try.ntmps9
  go_wp2_with (first | (refine wpList_load_hd rfl (.tmp 1) rfl _ rfl HB.out ?_) | (go_at_call 21; refine (may_true WF.out MM.out).mono ?_; rintro e w1 ⟨rfl, k1⟩) | (refine wpList_load_hd rfl (.tmp 1) rfl _ rfl (HB.out.kp k1 (fun x => x)) ?_))
  go_ret
  exact ⟨rfl, HK.out.trans k1 (fun _ _ x => x)⟩
set_option maxRecDepth 100000 in
set_option maxHeartbeats 2000000 in
theorem check_bad (h : Hd) (w : World) (wf : h.Wf) (hn : h.name.size ≤ 9223372036854775807) (m : ¬ May h) : Calls Try.prog 9 #[.agg h.cs] w fun e w' => e = .returned (.int .i64 2) ∧ Kp (fun _ => False) w w' := by
  have HB := hid (Hb.new w h)
  have HK : Hid (Kp (fun _ => False) w (w.alloc (.cells h.cs 24))) := (Kp.refl _ _).alloc _
  have MM := hid m
  have WF := hid wf
  clear m wf
  go_enter Try.func9, Try.ntmps9
  go_wp2_with (first | (refine wpList_load_hd rfl (.tmp 1) rfl _ rfl HB.out ?_) | (go_at_call 21; refine (may_false WF.out hn MM.out).mono ?_; rintro e w1 ⟨rfl, k1⟩))
  go_ret
  exact ⟨rfl, HK.out.trans k1 (fun _ _ x => x)⟩
set_option maxRecDepth 100000 in
set_option maxHeartbeats 2000000 in
theorem clusterE_ok (h : Hd) (w : World) (wf : h.Wf) (m : May h) : Calls Try.prog 10 #[.agg h.cs] w fun e w' => e = .returned (.int .i64 (clu h.bits)) ∧ Kp (fun _ => False) w w' := by
  have HB := hid (Hb.new w h)
  have HK : Hid (Kp (fun _ => False) w (w.alloc (.cells h.cs 24))) := (Kp.refl _ _).alloc _
  have MM := hid m
  have WF := hid wf
  clear m wf
  go_enter Try.func10, Try.ntmps10
  go_wp2_with (first | (refine wpList_load_hd rfl (.tmp 1) rfl _ rfl HB.out ?_) | (go_at_call 21; refine (may_true WF.out MM.out).mono ?_; rintro e w1 ⟨rfl, k1⟩) | (refine wpList_load_hd rfl (.tmp 1) rfl _ rfl (HB.out.kp k1 (fun x => x)) ?_) | (go_at_call 25; refine (cluster_any h _ MM.out.b9 MM.out.b16).mono ?_; rintro e w2 ⟨rfl, k2⟩))
  go_ret
  exact ⟨rfl, (HK.out.trans k1 (fun _ _ x => x)).trans k2 (fun _ _ x => x)⟩
set_option maxRecDepth 100000 in
set_option maxHeartbeats 2000000 in
theorem clusterE_bad (h : Hd) (w : World) (wf : h.Wf) (hn : h.name.size ≤ 9223372036854775807) (m : ¬ May h) : Calls Try.prog 10 #[.agg h.cs] w fun e w' => e = .returned (.int .i64 0) ∧ Kp (fun _ => False) w w' := by
  have HB := hid (Hb.new w h)
  have HK : Hid (Kp (fun _ => False) w (w.alloc (.cells h.cs 24))) := (Kp.refl _ _).alloc _
  have MM := hid m
  have WF := hid wf
  clear m wf
  go_enter Try.func10, Try.ntmps10
  go_wp2_with (first | (refine wpList_load_hd rfl (.tmp 1) rfl _ rfl HB.out ?_) | (go_at_call 21; refine (may_false WF.out hn MM.out).mono ?_; rintro e w1 ⟨rfl, k1⟩))
  go_ret
  exact ⟨rfl, HK.out.trans k1 (fun _ _ x => x)⟩
set_option maxRecDepth 100000 in
set_option maxHeartbeats 2000000 in
theorem entriesE_ok (h : Hd) (w : World) (wf : h.Wf) (m : May h) : Calls Try.prog 11 #[.agg h.cs] w fun e w' => e = .returned (.int .i64 (clu h.bits / 8)) ∧ Kp (fun _ => False) w w' := by
  have HB := hid (Hb.new w h)
  have HK : Hid (Kp (fun _ => False) w (w.alloc (.cells h.cs 24))) := (Kp.refl _ _).alloc _
  have MM := hid m
  have WF := hid wf
  clear m wf
  go_enter Try.func11, Try.ntmps11
  go_wp2_with (first | (refine wpList_load_hd rfl (.tmp 1) rfl _ rfl HB.out ?_) | (go_at_call 21; refine (may_true WF.out MM.out).mono ?_; rintro e w1 ⟨rfl, k1⟩) | (refine wpList_load_hd rfl (.tmp 1) rfl _ rfl (HB.out.kp k1 (fun x => x)) ?_) | (go_at_call 26; refine (entries_any h _ MM.out.b9 MM.out.b16).mono ?_; rintro e w2 ⟨rfl, k2⟩))
  go_ret
  exact ⟨rfl, (HK.out.trans k1 (fun _ _ x => x)).trans k2 (fun _ _ x => x)⟩
set_option maxRecDepth 100000 in
set_option maxHeartbeats 2000000 in
theorem entriesE_bad (h : Hd) (w : World) (wf : h.Wf) (hn : h.name.size ≤ 9223372036854775807) (m : ¬ May h) : Calls Try.prog 11 #[.agg h.cs] w fun e w' => e = .returned (.int .i64 0) ∧ Kp (fun _ => False) w w' := by
  have HB := hid (Hb.new w h)
  have HK : Hid (Kp (fun _ => False) w (w.alloc (.cells h.cs 24))) := (Kp.refl _ _).alloc _
  have MM := hid m
  have WF := hid wf
  clear m wf
  go_enter Try.func11, Try.ntmps11
  go_wp2_with (first | (refine wpList_load_hd rfl (.tmp 1) rfl _ rfl HB.out ?_) | (go_at_call 21; refine (may_false WF.out hn MM.out).mono ?_; rintro e w1 ⟨rfl, k1⟩))
  go_ret
  exact ⟨rfl, HK.out.trans k1 (fun _ _ x => x)⟩
set_option maxRecDepth 100000 in
set_option maxHeartbeats 2000000 in
theorem guestE_ok (h : Hd) (w : World) (wf : h.Wf) (m : May h) : Calls Try.prog 12 #[.agg h.cs] w fun e w' => e = .returned (.int .i64 (gst h)) ∧ Kp (fun _ => False) w w' := by
  have HB := hid (Hb.new w h)
  have HK : Hid (Kp (fun _ => False) w (w.alloc (.cells h.cs 24))) := (Kp.refl _ _).alloc _
  have MM := hid m
  have WF := hid wf
  clear m wf
  go_enter Try.func12, Try.ntmps12
  go_wp2_with (first | (refine wpList_load_hd rfl (.tmp 1) rfl _ rfl HB.out ?_) | (go_at_call 21; refine (may_true WF.out MM.out).mono ?_; rintro e w1 ⟨rfl, k1⟩) | (refine wpList_load_hd rfl (.tmp 1) rfl _ rfl (HB.out.kp k1 (fun x => x)) ?_) | (go_at_call 27; refine (guest_any h _ MM.out.b9 MM.out.b16 WF.out.size).mono ?_; rintro e w2 ⟨⟨y, rfl, hy, hy2⟩, k2⟩))
  go_ret
  rw [hy2 ⟨MM.out.s0, MM.out.s1⟩]
  exact ⟨rfl, (HK.out.trans k1 (fun _ _ x => x)).trans k2 (fun _ _ x => x)⟩
set_option maxRecDepth 100000 in
set_option maxHeartbeats 2000000 in
theorem guestE_bad (h : Hd) (w : World) (wf : h.Wf) (hn : h.name.size ≤ 9223372036854775807) (m : ¬ May h) : Calls Try.prog 12 #[.agg h.cs] w fun e w' => e = .returned (.int .i64 0) ∧ Kp (fun _ => False) w w' := by
  have HB := hid (Hb.new w h)
  have HK : Hid (Kp (fun _ => False) w (w.alloc (.cells h.cs 24))) := (Kp.refl _ _).alloc _
  have MM := hid m
  have WF := hid wf
  clear m wf
  go_enter Try.func12, Try.ntmps12
  go_wp2_with (first | (refine wpList_load_hd rfl (.tmp 1) rfl _ rfl HB.out ?_) | (go_at_call 21; refine (may_false WF.out hn MM.out).mono ?_; rintro e w1 ⟨rfl, k1⟩))
  go_ret
  exact ⟨rfl, HK.out.trans k1 (fun _ _ x => x)⟩
set_option maxRecDepth 100000 in
set_option maxHeartbeats 2000000 in
theorem tablesE_ok (h : Hd) (w : World) (wf : h.Wf) (m : May h) : Calls Try.prog 13 #[.agg h.cs] w fun e w' => e = .returned (.int .i64 (tbl h)) ∧ Kp (fun _ => False) w w' := by
  have HB := hid (Hb.new w h)
  have HK : Hid (Kp (fun _ => False) w (w.alloc (.cells h.cs 24))) := (Kp.refl _ _).alloc _
  have MM := hid m
  have WF := hid wf
  clear m wf
  go_enter Try.func13, Try.ntmps13
  go_wp2_with (first | (refine wpList_load_hd rfl (.tmp 1) rfl _ rfl HB.out ?_) | (go_at_call 21; refine (may_true WF.out MM.out).mono ?_; rintro e w1 ⟨rfl, k1⟩) | (refine wpList_load_hd rfl (.tmp 1) rfl _ rfl (HB.out.kp k1 (fun x => x)) ?_) | (go_at_call 28; refine (tables_any h _ MM.out.b9 MM.out.b16 WF.out.size).mono ?_; rintro e w2 ⟨⟨y, rfl, hy, hy2⟩, k2⟩))
  go_ret
  rw [hy2 ⟨MM.out.s0, MM.out.s1⟩]
  exact ⟨rfl, (HK.out.trans k1 (fun _ _ x => x)).trans k2 (fun _ _ x => x)⟩
set_option maxRecDepth 100000 in
set_option maxHeartbeats 2000000 in
theorem tablesE_bad (h : Hd) (w : World) (wf : h.Wf) (hn : h.name.size ≤ 9223372036854775807) (m : ¬ May h) : Calls Try.prog 13 #[.agg h.cs] w fun e w' => e = .returned (.int .i64 0) ∧ Kp (fun _ => False) w w' := by
  have HB := hid (Hb.new w h)
  have HK : Hid (Kp (fun _ => False) w (w.alloc (.cells h.cs 24))) := (Kp.refl _ _).alloc _
  have MM := hid m
  have WF := hid wf
  clear m wf
  go_enter Try.func13, Try.ntmps13
  go_wp2_with (first | (refine wpList_load_hd rfl (.tmp 1) rfl _ rfl HB.out ?_) | (go_at_call 21; refine (may_false WF.out hn MM.out).mono ?_; rintro e w1 ⟨rfl, k1⟩))
  go_ret
  exact ⟨rfl, HK.out.trans k1 (fun _ _ x => x)⟩
set_option maxRecDepth 100000 in
set_option maxHeartbeats 2000000 in
theorem bytes_ok (h : Hd) (w : World) (wf : h.Wf) (m : May h) : Calls Try.prog 7 #[.agg h.cs] w fun e w' => ∃ G, e = .returned (.tuple #[.slice (some ⟨G, 0, none⟩) 512 512, .int .i64 0]) ∧ w.heap.size ≤ G ∧ Rw 5 w' G (secL h) ∧ Kp (fun _ => False) w w' := by
  have HB := hid (Hb.new w h)
  have HK : Hid (Kp (fun _ => False) w (w.alloc (.cells h.cs 24))) := (Kp.refl _ _).alloc _
  have MM := hid m
  have WF := hid wf
  clear m wf
  go_enter Try.func7, Try.ntmps7
  go_wp2_with (first | (refine wpList_load_hd rfl (.tmp 1) rfl _ rfl HB.out ?_) | (go_at_call 21; refine (may_true WF.out MM.out).mono ?_; rintro e w1 ⟨rfl, k1⟩) | (refine wpList_load_hd rfl (.tmp 1) rfl _ rfl (HB.out.kp k1 (fun x => x)) ?_) | (go_at_call 22; refine (sector_any h _ MM.out WF.out.flags.1).mono ?_; rintro e w2 ⟨G, rfl, hG, r2, k2⟩))
  go_ret2
  exact ⟨G, rfl, Nat.le_trans (HK.out.trans k1 (fun _ _ x => x)).size hG, r2, (HK.out.trans k1 (fun _ _ x => x)).trans k2 (fun _ _ x => x)⟩
set_option maxRecDepth 100000 in
set_option maxHeartbeats 2000000 in
theorem bytes_bad (h : Hd) (w : World) (wf : h.Wf) (hn : h.name.size ≤ 9223372036854775807) (m : ¬ May h) : Calls Try.prog 7 #[.agg h.cs] w fun e w' => e = .returned (.tuple #[.slice none 0 0, .int .i64 2]) ∧ Kp (fun _ => False) w w' := by
  have HB := hid (Hb.new w h)
  have HK : Hid (Kp (fun _ => False) w (w.alloc (.cells h.cs 24))) := (Kp.refl _ _).alloc _
  have MM := hid m
  have WF := hid wf
  clear m wf
  go_enter Try.func7, Try.ntmps7
  go_wp2_with (first | (refine wpList_load_hd rfl (.tmp 1) rfl _ rfl HB.out ?_) | (go_at_call 21; refine (may_false WF.out hn MM.out).mono ?_; rintro e w1 ⟨rfl, k1⟩))
  go_ret2
  exact ⟨rfl, HK.out.trans k1 (fun _ _ x => x)⟩
end Go.Proofs.Ytejdmnhdjeogaaa
