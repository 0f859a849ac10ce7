/- plain: Huffman's lengths, of two symbols and more. -/
import Derived.Test.YthpocbpleffdpaaPq
namespace Go.Proofs.Ythpocbpleffdpaa
open Go.RowKit

theorem ps_end {w wr : World} {base Fb B G n : Nat} {v : Value} {F : List Nd} {bs K L : List Nat} {S : List Nd × List Nat} (h : Ps w wr base Fb B G n v F bs K L S) (h1 : ¬ 1 < K.length) : S = (F, K) := by
  have := h.js
  rw [show K.length - 1 = 0 by omega] at this
  exact this.symm
theorem two_ne {F : List Nd} {K : List Nat} (h1 : 1 < K.length) : K.erase (mn F K) ≠ [] := by
  obtain ⟨m1, _⟩ := mn_mem F (ne_nil_of (show 0 < K.length by omega))
  exact ne_nil_of (by rw [erase_len m1]; omega)
theorem short_of {F : List Nd} {K : List Nat} (h1 : 1 < K.length) : (F.length :: (K.erase (mn F K)).erase (mn F (K.erase (mn F K)))).length < K.length := by
  obtain ⟨m1, _⟩ := mn_mem F (ne_nil_of (show 0 < K.length by omega))
  obtain ⟨m2, _⟩ := mn_mem F (two_ne (F := F) h1)
  rw [List.length_cons, erase_len m2, erase_len m1]
  omega
theorem join_ps {w wr wb : World} {base Fb B G n : Nat} {v vb : Value} {F : List Nd} {bs K L Lb : List Nat} {S : List Nd × List Nat} (h : Ps w wr base Fb B G n v F bs K L S) (h1 : 1 < K.length) (gb : Gp wb base Fb B vb F bs ((K.erase (mn F K)).erase (mn F (K.erase (mn F K)))) Lb) :
    Calls Try.prog 77 #[ptr Fb, ptr (bs.getD (mn F K) 0), ptr (bs.getD (mn F (K.erase (mn F K))) 0)] wb fun e w' => e = .returned (ptr wb.heap.size) ∧ Gp w' base Fb B vb (F ++ [jnd F (mn F K) (mn F (K.erase (mn F K)))]) (bs ++ [wb.heap.size]) ((K.erase (mn F K)).erase (mn F (K.erase (mn F K)))) Lb ∧ Kp (fun k => k = Fb) wb w' := by
  obtain ⟨m1, _⟩ := mn_mem F (ne_nil_of h.one)
  obtain ⟨m2, _⟩ := mn_mem F (two_ne (F := F) h1)
  have c1 := cst_erase (F := F) m1
  have c2 := cst_erase (F := F) m2
  have hs := h.sum
  have hn := h.nums
  exact joined_gp wb base Fb B vb F bs _ Lb gb _ _ (h.gp.lt _ m1) (h.gp.lt _ (List.mem_of_mem_erase m2)) (by omega) (by omega)
theorem push_ps {w wr wa wb wc : World} {base Fb B G n : Nat} {v va vb : Value} {F : List Nd} {bs K L Lb : List Nat} {S : List Nd × List Nat} {x : Nd} {K2 : List Nat} (h : Ps w wr base Fb B G n v F bs K L S) (gb : Gp wb base Fb B vb F bs K2 Lb) (ka : Kp (fun k => k = B ∨ v.ownBlock = some k) wr wa) (kb : Kp (fun k => k = B ∨ va.ownBlock = some k) wa wb) (gc : Gp wc base Fb B vb (F ++ [x]) (bs ++ [wb.heap.size]) K2 Lb) (kc : Kp (fun k => k = Fb) wb wc) (hK2 : K2.length ≤ K.length) :
    Calls Try.prog 76 #[.iface 112 (ptr B), .iface 116 (ptr wb.heap.size)] wc fun e w' => e = .returned (.tuple #[]) ∧ ∃ v' L', Gp w' base Fb B v' (F ++ [x]) (bs ++ [wb.heap.size]) (F.length :: K2) L' ∧ Kp (fun k => k = B ∨ vb.ownBlock = some k) wc w' := by
  have hn := h.nums
  have hb := h.big.2.2.2
  have z1 := ka.size
  have z2 := kb.size
  have z3 := kc.size
  have e : (bs ++ [wb.heap.size]).getD F.length 0 = wb.heap.size := by rw [← gb.fo.len]; simp
  have := push_gp wc base Fb B vb (F ++ [x]) (bs ++ [wb.heap.size]) K2 Lb gc F.length (by simp) (by omega) (by omega)
  rw [e] at this
  exact this.mono (fun e w' y => ⟨y.1, by obtain ⟨v', L', g, _, k⟩ := y.2; exact ⟨v', L', g, k⟩⟩)

set_option maxHeartbeats 4000000 in
set_option maxRecDepth 100000 in
theorem plain_many (w : World) (ao : Option Addr) (cap : Nat) (zs : List Int) (hl : zs.length ≤ 1000000) (hz : ∀ z ∈ zs, 0 ≤ z ∧ z < 4294967296) (hs : Src .u32 w ao zs) (h0 : 1 < (lv zs zs.length).length) :
    Calls Try.prog 50 #[.slice ao zs.length cap] w fun e w' => e = .returned (.slice (some ⟨w.heap.size, 0, none⟩) zs.length zs.length) ∧ Rw .i64 3 w' w.heap.size (hzl zs) ∧ Kp (fun _ => False) w w' := by
  have HS := hid hs
  have HZ := hid hz
  have H0 := hid h0
  obtain ⟨S, hS⟩ : ∃ S, S = jns ((lv zs zs.length).length - 1) (lv zs zs.length, List.range (lv zs zs.length).length) := ⟨_, rfl⟩
  have HE : Hid (hzl zs = snk S.1 S.1.length (mn S.1 S.2) 0 (List.replicate zs.length 0)) := by
    unfold hzl
    rw [if_neg (by omega), if_neg (by omega), ← hS]
    exact rfl
  have HSS := hid hS
  have hlv : (lv zs zs.length).length ≤ 1000000 := Nat.le_trans (lv_len zs zs.length) hl
  generalize hlen : (lv zs zs.length).length = nl at hlv h0
  have HLN := hid hlen
  clear hs hz hS hlen
  go_enter Try.func50, Try.ntmps50
  go_wp2_with (first
    | (at_make; refine wpList_make_rw 22 3 8 Try.underlying22 Try.info3p (by decide) rfl _ _ rfl zs.length rfl rfl (by omega) ?_; intro w1 hrow hb1; have HM := hid (Mk.mk hrow hb1); clear hrow hb1)
    | (go_at_call 72; refine (leaves_new hl HZ.out HS.out HM.out).mono ?_; rintro _ w3 ⟨v, L, rfl, HL0⟩; have HL := hid HL0; clear HL0)
    | (go_at_call 71; refine (pile_new hl HL.out).mono ?_; rintro _ w4 ⟨rfl, L4, R4⟩; have HP := hid (Ps.begin hl HZ.out (Nat.lt_trans (by decide) H0.out) HM.out HL.out R4); clear R4; have HN : Hid (Calls Try.prog 73 #[ptr w3.heap.size] w4 fun e w' => e = .returned (.int .i64 nl) ∧ w4 = w') := (len_gp _ _ _ _ _ _ _ _ _ HP.out.gp).mono (fun _ _ e => ⟨by rw [e.1, List.length_range, HLN.out], e.2⟩))
    | (go_at_call 73; refine HN.out.mono ?_; rintro _ _ ⟨rfl, rfl⟩))
  have hB : w.heap.size ≤ w3.heap.size := HP.out.big.2.2.1
  have HPP : Hid (Ps w w4 (w1.alloc (.cells #[.int .i64 0] 111)).heap.size w1.heap.size w3.heap.size w.heap.size zs.length v (lv zs zs.length) L (List.range (lv zs zs.length).length) L4 S) := by rw [HSS.out]; exact HP.out
  clear HP HN HM HL HLN HSS H0 HZ HS
  generalize (w1.alloc (.cells #[.int .i64 0] 111)).heap.size = base at HPP
  generalize w1.heap.size = Fb at *
  generalize w3.heap.size = B at *
  generalize ((nl : Int) == 1) = bb
  go_loopw [] (fun wr => ∃ (v : Value) (F : List Nd) (bs K L : List Nat), Hid (Ps w wr base Fb B w.heap.size zs.length v F bs K L S)) (fun wr => pln B wr)
  case atStart => exact ⟨v, _, L, _, L4, HPP.out⟩
  case round =>
    clear HPP
    obtain ⟨v, F, bs, K, L, HP⟩ := hrel
    have hnum := HP.out.nums
    have hone := HP.out.one
    have hpl := hid HP.out.gp.pln
    have HN := hid (len_gp _ _ _ _ _ _ _ _ _ HP.out.gp)
    by_cases h1 : 1 < K.length
    · have HL1 := hid (least_gp _ _ _ _ _ _ _ _ _ HP.out.gp (ne_nil_of hone) (by omega))
      go_wp2_with (first
        | (go_at_call 73; refine HN.out.mono ?_; rintro _ _ ⟨rfl, rfl⟩)
        | (go_at_call 74; refine HL1.out.mono ?_; rintro _ wa ⟨rfl, va, La, ga, oa, ka⟩; have HA := hid (And.intro ga ka); clear ga ka oa HL1; have HL2 := hid (least_gp _ _ _ _ _ _ _ _ _ HA.out.1 (two_ne h1) (Nat.lt_of_le_of_lt (List.length_erase_le) (by omega))))
        | (go_at_call 74; refine HL2.out.mono ?_; rintro _ wb ⟨rfl, vb, Lb, gb, ob, kb⟩; have HB := hid (And.intro gb kb); clear gb kb ob HL2; have HJ := hid (join_ps HP.out h1 HB.out.1))
        | (go_at_call 77; refine HJ.out.mono ?_; rintro _ wc ⟨rfl, gc, kc⟩; have HC := hid (And.intro gc kc); clear gc kc HJ; have HU := hid (push_ps HP.out HB.out.1 HA.out.2 HB.out.2 HC.out.1 HC.out.2 (Nat.le_trans List.length_erase_le List.length_erase_le)))
        | (go_at_call 76; refine HU.out.mono ?_; rintro _ wd ⟨rfl, vd, Ld, gd, kd⟩; have HR := hid (HP.out.round h1 HA.out.1 HA.out.2 HB.out.1 HB.out.2 HC.out.1 HC.out.2 gd kd)))
      refine ⟨⟨vd, _, _, _, Ld, HR.out⟩, ?_⟩
      rw [hpl.out, HR.out.gp.pln]
      exact short_of h1
    · have HK := hid (ps_end HP.out h1)
      have HL1 := hid (least_ps HP.out hl (Nat.le_refl _))
      go_wp2_with (first
        | (go_at_call 73; refine HN.out.mono ?_; rintro _ _ ⟨rfl, rfl⟩)
        | (go_at_call 74; refine HL1.out.mono ?_; rintro _ w5 ⟨rfl, HQ0⟩; have HQ := hid HQ0; clear HQ0)
        | (go_at_call 75; refine (HQ.out 0 (by omega)).mono ?_; rintro _ w6 ⟨rfl, R6, K6⟩))
      go_ret
      exact ⟨rfl, by rw [HE.out, HK.out]; exact R6, K6⟩

/-- plain: Huffman's lengths, in a new row. -/
theorem plain_any (w : World) (ao : Option Addr) (cap : Nat) (zs : List Int) (hl : zs.length ≤ 1000000) (hz : ∀ z ∈ zs, 0 ≤ z ∧ z < 4294967296) (hs : Src .u32 w ao zs) :
    Calls Try.prog 50 #[.slice ao zs.length cap] w fun e w' => e = .returned (.slice (some ⟨w.heap.size, 0, none⟩) zs.length zs.length) ∧ Rw .i64 3 w' w.heap.size (hzl zs) ∧ Kp (fun _ => False) w w' := by
  by_cases h0 : (lv zs zs.length).length = 0
  · exact plain_none w ao cap zs hl hz hs h0
  · by_cases h1 : (lv zs zs.length).length = 1
    · exact plain_one w ao cap zs hl hz hs h1
    · exact plain_many w ao cap zs hl hz hs (by omega)
end Go.Proofs.Ythpocbpleffdpaa
