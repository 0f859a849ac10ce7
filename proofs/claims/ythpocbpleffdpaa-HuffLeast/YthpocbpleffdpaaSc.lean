/- spent (52), walked. -/
import Derived.Test.YthpocbpleffdpaaSb
namespace Go.Proofs.Ythpocbpleffdpaa
open Go.RowKit

set_option maxHeartbeats 4000000 in
set_option maxRecDepth 100000 in
theorem spent_any (w : World) (m : Nat) (hm : m ≤ 14) (ao : Option Addr) (cap : Nat) (zs : List Int) (hl : zs.length ≤ 320) (hz : ∀ z ∈ zs, 0 ≤ z ∧ z < 4294967296) (hs : Src .u32 w ao zs) (h0 : 1 < (lv zs zs.length).length) (hr : 2 * ((lv zs zs.length).length - 1) ≤ (Pm.row (Pm.base zs) m).length) :
    Calls Try.prog 52 #[.int .i64 ((m + 1 : Nat) : Int), .slice ao zs.length cap] w fun e w' => e = .returned (.slice (some ⟨w.heap.size, 0, none⟩) zs.length zs.length) ∧ Rw .i64 3 w' w.heap.size (spl zs m) ∧ Kp (fun _ => False) w w' := by
  have HS := hid hs
  have HZ := hid hz
  have hl2 : zs.length ≤ 1000000 := by omega
  have hlv : (lv zs zs.length).length ≤ 320 := Nat.le_trans (lv_len zs zs.length) hl
  have HE : Hid (spl zs m = (tkn (Pm.spS zs m).1 (2 * ((lv zs zs.length).length - 1)) ((Pm.spS zs m).2, List.replicate zs.length 0)).2) := rfl
  have HPR : Hid (∀ W, Kp (fun _ => False) w W → Calls Try.prog 49 #[.slice ao zs.length cap] W fun e w' => e = .returned (.int .i64 ((lv zs zs.length).length : Nat)) ∧ W = w') := fun W k => present_any W ao cap zs hl2 hz (hs.kp k (fun _ _ _ h => h))
  have HR := hid hr
  generalize hlen : (lv zs zs.length).length = nl at hlv h0 HE HPR HR
  clear hs hz hr hlen
  go_enter Try.func52, Try.ntmps52
  go_wp2_with (first
    | (at_make; refine wpList_make_rw 22 3 8 Try.underlying22 Try.info3p (by decide) rfl _ _ rfl zs.length rfl rfl (by omega) ?_; intro w1 hrow hb1; have HM := hid (Mk.mk hrow hb1); clear hrow hb1)
    | (go_at_call 72; refine (leaves_new hl2 HZ.out HS.out HM.out).mono ?_; rintro _ w3 ⟨v, L, rfl, HL0⟩; have HL := hid HL0; clear HL0)
    | (go_at_call 71; refine (pile_new hl2 HL.out).mono ?_; rintro _ w4 ⟨rfl, L4, R4⟩; have HQ := hid (Sq.start HM.out HL.out R4); clear R4))
  have HG : Hid (w.heap.size ≤ w.heap.size) := Nat.le_refl _
  clear HM HL
  generalize (w1.alloc (.cells #[.int .i64 0] 111)).heap.size = base0 at HQ
  generalize w1.heap.size = Fb at *
  generalize w3.heap.size = B0 at *
  go_loopw [7, 16] (fun pv iv wr => ∃ (t base B : Nat) (v : Value) (F : List Nd) (bs K L : List Nat), pv = ptr B ∧ iv = .int .i64 t ∧ t ≤ m ∧ Hid (Sq zs w wr base Fb B w.heap.size v F bs K L t)) (fun _ iv _ => m - (intOf iv).toNat)
  case atStart => exact ⟨0, base0, B0, v, _, L, _, L4, rfl, rfl, Nat.zero_le _, HQ.out⟩
  case round =>
    clear HQ
    obtain ⟨t, base, B, v, F, bs, K, L, rfl, rfl, ht, HQ⟩ := hrel
    have ht2 : t ≤ 20 := by omega
    by_cases htm : t < m
    · go_wp2_with (first
        | (go_at_call 72; refine (HQ.out.leaves hl ht2 ao cap HZ.out HS.out).mono ?_; rintro _ wb ⟨va, La, rfl, HL0⟩; have HL := hid HL0; clear HL0; have HPA := hid (HQ.out.pairs hl ht2 HZ.out HL.out))
        | (go_at_call 78; refine HPA.out.mono ?_; rintro _ wc ⟨v5, v', F2, bs2, K2, L2, N, rfl, HJ0, he⟩; have HJ := hid (And.intro HJ0 he); clear HJ0 he HPA; have HO := hid (HQ.out.owns HL.out HJ.out.1); obtain ⟨ao5, c5, rfl, hn5, hc5⟩ := own_parts HJ.out.1.own; have H5 := hid (And.intro hn5 hc5); clear hn5 hc5)
        | (at_builtin; refine wpList_append_any rfl (.tmp 19) (.tmp 21) 114 rfl _ 116 (.pointer none) 1 8 Try.underlying114 Try.info116b rfl (by decide) va La.length (La.map ptr) rfl HO.out.1 ao5 N.length c5 ((N.map fun k => bs2.getD k 0).map ptr) rfl H5.out.1 (by simp) H5.out.2 (fun u hu => by (obtain ⟨b, _, rfl⟩ := List.mem_map.1 hu; rfl)) (by have := HO.out.2.2; unfold maxLen; omega) (by have := HO.out.2.2; omega) HO.out.2.1 ?_; intro vd wd od kd _; have HP := hid (HQ.out.pile HL.out HJ.out.1 HJ.out.2 od kd); clear od kd)
        | (go_at_call 71; refine HP.out.mono ?_; rintro _ we ⟨rfl, L3, HS3⟩; have HS4 := hid HS3; clear HS3))
      exact ⟨⟨t + 1, _, _, vd, F2, bs2, _, L3, rfl, rfl, by omega, HS4.out⟩, by simp [intOf]; omega⟩
    · obtain rfl : t = m := by omega
      have HPW := hid (HPR.out _ HQ.out.kp)
      have HN := hid (HQ.out.then hl ht2 HZ.out HG.out (2 * (nl - 1)) HR.out)
      go_wp2_with (first
        | (go_at_call 49; refine HPW.out.mono ?_; rintro _ _ ⟨rfl, rfl⟩))
      have HT : Hid ((tkn (Pm.spS zs t).1 (2 * (nl - 1)) ((Pm.spS zs t).2, List.replicate zs.length 0)).2 = spl zs t) := HE.out.symm
      clear HQ HPW HPR HE HS HZ HR HG
      generalize tkn (Pm.spS zs t).1 (2 * (nl - 1)) ((Pm.spS zs t).2, List.replicate zs.length 0) = T at HT HN
      go_loopw [29] (fun iv wr => ∃ (j q : Nat) (v : Value) (K L : List Nat) (Z : List Int), iv = .int .i64 j ∧ j + q = 2 * (nl - 1) ∧ Hid (Sr zs.length w wr base Fb B w.heap.size v F bs K L Z q T)) (fun iv _ => 2 * (nl - 1) - (intOf iv).toNat)
      case atStart => exact ⟨0, 2 * (nl - 1), v, K, L, _, rfl, by omega, HN.out⟩
      case round =>
        clear HN
        obtain ⟨j, q, v, K, L, Z, rfl, hj, HN⟩ := hrel
        cases q with
        | zero =>
          go_wp2_with fail
          go_ret
          have e := HN.out.tk
          have e2 : Z = T.2 := by rw [← e]; rfl
          exact ⟨rfl, by rw [← HT.out, ← e2]; exact HN.out.row, HN.out.kp⟩
        | succ q =>
          have HL1 := hid HN.out.least
          go_wp2_with (first
            | (go_at_call 74; refine HL1.out.mono ?_; rintro _ wa ⟨rfl, va, La, hga⟩; have HTL := hid (HN.out.tally hga); clear hga HL1)
            | (go_at_call 79; refine HTL.out.mono ?_; rintro _ wb ⟨rfl, hsr⟩; have HSR := hid hsr; clear hsr HTL))
          exact ⟨⟨j + 1, q, va, _, La, _, rfl, by omega, HSR.out⟩, by simp [intOf]; omega⟩
end Go.Proofs.Ythpocbpleffdpaa
