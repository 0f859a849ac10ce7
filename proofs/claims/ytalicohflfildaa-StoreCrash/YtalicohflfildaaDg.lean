/- maps.DeleteFunc: the walk. -/
import Derived.Test.YtalicohflfildaaDf
namespace Go.Proofs.Ytalicohflfildaa
open Go.RowKit

set_option maxRecDepth 100000 in
set_option maxHeartbeats 2000000 in
theorem delf_any (m c Bx : Nat) (sz : Int) (es : List (Int × Value × Nat)) (w : World) (hm : Mp (Value.int .i64) w m es c) (hk : ∀ e ∈ es, ∃ k : Nat, e.1 = (k : Int) ∧ k ≤ 1000000) (hc : w.cell? ⟨Bx, 0, none⟩ = some (.int .i64 sz)) (hne : Bx ≠ m) :
    Calls Try.prog 77 #[.map (some m), .func (.func 78) #[] #[.pointer (some ⟨Bx, 0, none⟩)]] w fun e w' => e = .returned (.tuple #[]) ∧ Mp (Value.int .i64) w' m (es.filter (fun e => !pdl sz e)) c ∧ Kp (fun i => i = m) w w' := by
  have hrg := run_range_mp (P := Try.prog) Try.underlying67 hm
  have hml := hm.lt
  have hbl := block_lt_of_cell hc
  have HM : Hid (Mp (Value.int .i64) w m es c) := hm
  have HK : Hid (∀ e ∈ es, ∃ k : Nat, e.1 = (k : Int) ∧ k ≤ 1000000) := hk
  have HC : Hid (w.cell? ⟨Bx, 0, none⟩ = some (.int .i64 sz)) := hc
  clear hm hk hc
  go_enter Try.func77, Try.ntmps77
  go_wp2_with fail
  have H0 : Hid (Mj (w.alloc (.mapIter (some m) c #[] c)) w.heap.size m c []) := mj_new w m c
  have K0 : Hid (Kp (fun i => i = m) w (w.alloc (.mapIter (some m) c #[] c))) := (Kp.refl _ _).alloc _
  have M0 : Hid (Mp (Value.int .i64) (w.alloc (.mapIter (some m) c #[] c)) m (es.filter (dlf sz [])) c) := by
    have : es.filter (dlf sz []) = es := by rw [List.filter_eq_self]; intro x _; simp [dlf]
    rw [Hid, this]
    exact kp_mp (F := fun _ => False) HM.out ((Kp.refl _ _).alloc _) (fun h => h)
  clear hrg
  generalize hr : w.heap.size = r at H0 ⊢
  generalize w.alloc (.mapIter (some m) c #[] c) = W at H0 K0 M0 ⊢
  have HR : Hid (w.heap.size = r) := hr
  clear hr
  go_loopw [4, 5] (fun _ _ wr => ∃ bs : List Nat, Mj wr r m c bs ∧ bs.Nodup ∧ (∀ b ∈ bs, b ∈ es.map (·.2.2)) ∧ Mp (Value.int .i64) wr m (es.filter (dlf sz bs)) c ∧ Kp (fun i => i = m) w wr) (fun _ _ wr => es.length - itn wr r)
  case atStart => exact ⟨[], H0.out, List.nodup_nil, (fun b h => by cases h), M0.out, K0.out⟩
  case round =>
    clear H0 K0 M0
    obtain ⟨bs, hmj, hnd, hsub, hmp, hkp⟩ := hrel
    have hrm : r ≠ m := by have := HR.out; omega
    have hin := hmj.itn
    rcases hmj.next (P := Try.prog) hmp hrm 0 with ⟨hall, hrun⟩ | ⟨e, w2, he, hne2, hrun, hmj2, hk2, hent⟩
    · have HE : Hid (es.filter (dlf sz bs) = es.filter (fun e => !pdl sz e)) := dlf_end hall
      have HMP : Hid (Mp (Value.int .i64) wr m (es.filter (dlf sz bs)) c) := hmp
      have HKP : Hid (Kp (fun i => i = m) w wr) := hkp
      clear hall hmp hkp hmj hin hsub hnd
      go_wp2
      go_end0
      rw [← HE.out]
      exact ⟨rfl, HMP.out, HKP.out⟩
    · have hee : e ∈ es := (List.mem_filter.1 he).1
      obtain ⟨kk, hk1, hk2'⟩ := HK.out e hee
      have hk3 : Kp (fun i => i = m) w w2 := hkp.trans hk2 (fun i hi h => by have := HR.out; omega)
      have hc2 : w2.cell? ⟨Bx, 0, none⟩ = some (.int .i64 sz) := kp_cell hk3 HC.out hne
      have hmp2 : Mp (Value.int .i64) w2 m (es.filter (dlf sz bs)) c := kp_mp hmp hk2 (fun e => hrm e.symm)
      have hnd2 : (bs ++ [e.2.2]).Nodup := by
        rw [List.nodup_append]
        refine ⟨hnd, by simp, fun x hx y hy e1 => ?_⟩
        rw [List.mem_singleton.1 hy] at e1
        exact hne2 (e1 ▸ hx)
      have hsub2 : ∀ b ∈ bs ++ [e.2.2], b ∈ es.map (·.2.2) := by
        intro b hb
        rcases List.mem_append.1 hb with h1 | h1
        · exact hsub b h1
        · rw [List.mem_singleton.1 h1]; exact List.mem_map.2 ⟨e, hee, rfl⟩
      have hlen := nodup_len _ _ hnd2 hsub2
      rw [List.length_append, List.length_singleton, List.length_map] at hlen
      have HIN : Hid (itn wr r = bs.length) := hin
      have HX : Hid ((bs ++ [e.2.2]).Nodup ∧ ∀ b ∈ bs ++ [e.2.2], b ∈ es.map (·.2.2)) := ⟨hnd2, hsub2⟩
      have HJ2 : Hid (Mj w2 r m c (bs ++ [e.2.2])) := hmj2
      have HM2 : Hid (Mp (Value.int .i64) w2 m (es.filter (dlf sz bs)) c) := hmp2
      have HK3 : Hid (Kp (fun i => i = m) w w2) := hk3
      have HEE : Hid (e ∈ es) := hee
      have HE1 : Hid (e.1 = (kk : Int)) := hk1
      rw [hk1] at hrun hent
      clear hnd2 hsub2 hin hmj2 hmp2 hk3 hk2 hkp hmj hmp hnd hsub he hne2 hee hk1
      generalize e.2.1 = u at hrun hent
      have cc := cut1_any (kk : Int) sz u Bx w2 hc2 (by omega) (by omega)
      have HP : Hid (pdl sz e = decide (sz ≤ (kk : Int) * 512)) := by show _ = _; unfold pdl; rw [HE1.out]
      cases hd : decide (sz ≤ (kk : Int) * 512) with
      | true =>
        rw [hd] at cc
        have HP2 : Hid (pdl sz e = true) := HP.out.trans hd
        clear hd
        go_wp2_with (first | (go_at_call 78; refine cc.mono ?_; rintro e' w' ⟨rfl, h⟩; replace h := h.symm; subst h) | (at_delete; refine wpList_delete_mp rfl (.tmp 17) (.tmp 18) rfl (ky_int Try.underlying2) Try.underlying67 m c (es.filter (dlf sz bs)) rfl HM2.out (kk : Int) rfl ?_; intro w4 m4 g4; have k4 : Kp (fun i => i = m) w2 w4 := Kp.of_grown g4 (fun i e => by cases e; rfl)))
        rw [← HE1.out, dlf_del HM.out.2 HEE.out HP2.out] at m4
        have hmj4 := HJ2.out.kp k4 hrm
        have hin4 := hmj4.itn
        rw [List.length_append, List.length_singleton] at hin4
        go_roundw
        case rel => (repeat apply Exists.intro); exact ⟨⟨_, hmj4, HX.out.1, HX.out.2, m4, HK3.out.trans k4 (fun _ _ h => h)⟩, rfl⟩
        case measure => rw [HIN.out, hin4]; omega
      | false =>
        rw [hd] at cc
        have HP2 : Hid (pdl sz e = false) := HP.out.trans hd
        clear hd
        go_wp2_with (first | (go_at_call 78; refine cc.mono ?_; rintro e' w' ⟨rfl, h⟩; replace h := h.symm; subst h))
        have hin4 := HJ2.out.itn
        rw [List.length_append, List.length_singleton] at hin4
        go_roundw
        case rel => exact ⟨_, HJ2.out, HX.out.1, HX.out.2, by rw [← dlf_keep HM.out.2 HEE.out HP2.out]; exact HM2.out, HK3.out⟩
        case measure => rw [HIN.out, hin4]; omega
end Go.Proofs.Ytalicohflfildaa
