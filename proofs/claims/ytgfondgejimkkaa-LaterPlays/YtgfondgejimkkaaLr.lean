/- later: container/heap's Push and Remove over a line. -/
import Derived.Test.YtgfondgejimkkaaLt
import Derived.Test.YtgfondgejimkkaaLp
import Derived.Test.YtgfondgejimkkaaHq
namespace Go.Proofs.Ytgfondgejimkkaa
open Go.RowKit
set_option linter.unusedVariables false
/-- A line that is a heap. -/
def Hpd (c : Nat → Rn) (L : List Nat) : Prop := Hx (kf (key c) L) 0 L.length
set_option maxHeartbeats 4000000 in
set_option maxRecDepth 100000 in
theorem hpush_any (c : Nat → Rn) (w : World) (base B : Nat) (v : Value) (L : List Nat) (b s : Nat) (h : Ln c w base B v L) (hx : Hpd c L) (hb : Wt c w b s) (hm : Mayr (c b)) (hbL : b ∉ L) (hbase : base ≤ w.heap.size) (hL : L.length < 17592186044415) :
    Calls Try.prog 54 #[.iface 70 (ptr B), .iface 74 (ptr b)] w fun e w' => e = .returned (.tuple #[]) ∧ ∃ v' L', L'.Perm (b :: L) ∧ Ln c w' base B v' L' ∧ Hpd c L' ∧ (v'.ownBlock = v.ownBlock ∨ ∃ g, v'.ownBlock = some g ∧ w.heap.size ≤ g) ∧ Kp (fun k => k = B ∨ LnF v (b :: L) k) w w' := by
  have mN := find_len B
  have mP := find_push B
  have HP := hid (push_any c w base B v L b s h hb hm hbL hbase hL)
  have hu : Hid (Hu (kf (key c) (L ++ [b])) (L.length + 1) L.length) := Hu.of (hx.congr (fun k hk => by simp [kf, List.getD, List.getElem?_append_left hk]))
  have HF : Hid (∀ v1 w1, Pushed c w w1 base B b v v1 (L ++ [b]) → ∀ i, i < w.heap.size → LnF v1 (L ++ [b]) i → i = B ∨ LnF v (b :: L) i) := fun v1 w1 P1 i hi e => by
    rcases e with e | e
    · rcases P1.own with e1 | ⟨g, e1, hg⟩
      · exact .inr (.inl (e1 ▸ e))
      · rw [e1] at e
        obtain rfl : g = i := by simpa using e
        omega
    · exact .inr (.inr ((List.perm_append_singleton b L).mem_iff.1 e))
  clear h hb hm hx
  go_enter Try.func54, Try.ntmps54
  go_wp2_with (first
    | (go_at_call 110; refine HP.out.mono ?_; rintro _ w1 ⟨rfl, v1, P1⟩; have HN : Hid (Calls Try.prog 34 #[ptr B] w1 fun e w' => e = .returned (.int .i64 ((L.length : Int) + 1)) ∧ w1 = w') := (len_any c w1 base B v1 (L ++ [b]) P1.ln).mono (fun _ _ h => ⟨by rw [h.1]; simp, h.2.symm⟩); have HU := hid (up_any c w1 base B v1 (L ++ [b]) P1.ln (L.length + 1) L.length (by simp) (by omega) hu.out))
    | (go_at_call 34; refine HN.out.mono ?_; rintro _ _ ⟨rfl, rfl⟩)
    | (go_at_call 66; refine HU.out.mono ?_; rintro _ w2 ⟨rfl, L2, M2, P2, X2, K2⟩))
  go_end0
  refine ⟨rfl, v1, L2, M2.perm.trans (List.perm_append_singleton _ _), P2, ?_, P1.own, ?_⟩
  · unfold Hpd
    rw [M2.len, List.length_append]
    exact X2
  · refine (P1.kp.mono (G := fun k => k = B ∨ LnF v (b :: L) k) (fun k _ e => ?_)).trans K2 (fun i hi e => HF.out _ _ P1 i hi e)
    rcases e with e | e | e
    · exact .inl e
    · exact .inr (.inl e)
    · exact .inr (.inr (by simp [e]))
/-- What Remove leaves. -/
structure Rmd (c : Nat → Rn) (w w' : World) (base B : Nat) (v : Value) (L : List Nat) (b : Nat) : Prop where
  rest : ∃ v' M, (b :: M).Perm L ∧ Ln c w' base B v' M ∧ Hpd c M ∧ v'.ownBlock = v.ownBlock
  kp : Kp (fun k => k = B ∨ LnF v L k) w w'
  one : ∃ s, Wt c w' b s
set_option maxHeartbeats 4000000 in
set_option maxRecDepth 100000 in
theorem remove_any (c : Nat → Rn) (w : World) (base B : Nat) (v : Value) (L : List Nat) (h : Ln c w base B v L) (hx : Hpd c L) (i : Nat) (hi : i < L.length) (hL : L.length < 4611686018427387904) :
    Calls Try.prog 73 #[.iface 70 (ptr B), .int .i64 i] w fun e w' => e = .returned (.iface 74 (ptr (L.getD i 0))) ∧ Rmd c w w' base B v L (L.getD i 0) := by
  have mN := find_len B
  have mS := find_swap B
  have mP := find_pop B
  obtain ⟨n, hn⟩ : ∃ n, L.length = n + 1 := ⟨L.length - 1, by omega⟩
  have HN : Hid (Calls Try.prog 34 #[ptr B] w fun e w' => e = .returned (.int .i64 ((n : Int) + 1)) ∧ w = w') := (len_any c w base B v L h).mono (fun _ _ h => ⟨by rw [h.1, hn]; rfl, h.2.symm⟩)
  unfold Hpd at hx
  rw [hn] at hx
  by_cases hin : i = n
  · subst hin
    obtain ⟨N, hN, hNl, hNp⟩ := last_parts hn
    have HP := hid (pop_any c w base B v N (L.getD i 0) (hN ▸ h) (by omega))
    have HX : Hid (Hpd c N) := by
      unfold Hid Hpd
      rw [hNl]
      refine Hx.congr (g := kf (key c) L) (fun k h0 hk hl => hx k h0 (by omega) hl) (fun k hk => ?_)
      rw [kf_front (key c) N (L.getD i 0) k (by omega), ← hN]
    have HNP := hid hNp
    clear h hx hN hNp
    generalize L.getD i 0 = b at *
    go_enter Try.func73, Try.ntmps73
    go_wp2_with (first
      | (go_at_call 34; refine HN.out.mono ?_; rintro _ _ ⟨rfl, rfl⟩)
      | (go_at_call 109; refine HP.out.mono ?_; rintro _ w3 ⟨rfl, v3, P3, O3, K3, W3⟩))
    go_ret
    exact ⟨rfl, ⟨v3, N, HNP.out, P3, HX.out, O3⟩, K3.mono (fun k _ e => e.imp id (fun e => .inl e)), W3⟩
  · have hi2 : i < n := by omega
    have hl1 : (lsw L i n).length = n + 1 := by rw [lsw_length]; exact hn
    have hkf : kf (key c) (lsw L i n) = sw (kf (key c) L) i n := kf_lsw (key c) L i n (by omega) (by omega)
    have hp1 := lsw_perm L i n (by omega) (by omega)
    have HS := swap_at c w base B v L h L (List.Perm.refl _)
    have HFIN : Hid (∀ w3 L3, Ln c w3 base B v L3 → Mv n (lsw L i n) L3 → Hx (kf (key c) L3) 0 n → Kp (LnF v L) w w3 → Calls Try.prog 109 #[ptr B] w3 fun e w' => e = .returned (.iface 74 (ptr (L.getD i 0))) ∧ Rmd c w w' base B v L (L.getD i 0)) := fun w3 L3 hl3 m3 x3 k3 => by
      obtain ⟨N, rfl, hNl, hNp⟩ := rem_parts hn hi2 m3
      refine (pop_any c w3 base B v N _ hl3 (by omega)).mono ?_
      rintro e w4 ⟨rfl, v4, P4, O4, K4, W4⟩
      refine ⟨rfl, ⟨v4, N, hNp, P4, ?_, O4⟩, (k3.mono (fun _ _ e => .inr e)).trans K4 (fun k _ e => e.imp id (fun e => .inl e)), W4⟩
      unfold Hpd
      rw [hNl]
      exact x3.congr (fun k hk => kf_front (key c) N _ k (by omega))
    have HUP : Hid (∀ w2 L2, Ln c w2 base B v L2 → Mv n (lsw L i n) L2 → Hu (kf (key c) L2) n i → Kp (LnF v L) w w2 → Calls Try.prog 66 #[.iface 70 (ptr B), .int .i64 i] w2 fun e w' => e = .returned (.tuple #[]) ∧ ∃ L', Ln c w' base B v L' ∧ Mv n (lsw L i n) L' ∧ Hx (kf (key c) L') 0 n ∧ Kp (LnF v L) w w') := fun w2 L2 hl2 m2 u2 k2 => by
      have hlen : L2.length = n + 1 := m2.len.trans hl1
      refine (up_any c w2 base B v L2 hl2 n i (by omega) hi2 u2).mono ?_
      rintro e w3 ⟨rfl, L3, m3, hl3, x3, k3⟩
      exact ⟨rfl, L3, hl3, m2.trans m3, x3, k2.trans k3 (fun k _ e => LnF.perm (m2.perm.trans hp1) e)⟩
    obtain ⟨b, hb⟩ : ∃ b, L.getD i 0 = b := ⟨_, rfl⟩
    rw [hb] at HFIN ⊢
    clear hb
    by_cases hg : i = 0 ∨ kf (key c) L ((i - 1) / 2) ≤ kf (key c) L n
    · have HD : Hid (∀ W, Ln c W base B v (lsw L i n) → Calls Try.prog 84 #[.iface 70 (ptr B), .int .i64 i, .int .i64 n] W fun e w' => RB e ∧ ∃ L', Mv n (lsw L i n) L' ∧ Ln c w' base B v L' ∧ Hx (kf (key c) L') 0 n ∧ Kp (LnF v (lsw L i n)) W w') := fun W hW =>
        down_any c W base B v (lsw L i n) hW 0 i n (by omega) (by omega) (by omega) (by rw [hkf]; exact Hd.rem hx hi2 hg)
      have hn1 : ¬ (n : Int) = (i : Int) := by omega
      have HP1 := hid hp1
      clear hx hkf h hg hp1
      go_enter Try.func73, Try.ntmps73
      go_wp2_with (first
        | (go_at_call 34; refine HN.out.mono ?_; rintro _ _ ⟨rfl, rfl⟩)
        | (go_at_call 111; refine (HS.out _ (Kp.refl _ _) _ _ i n (by omega) (by omega) (by omega) (by omega) (by omega)).mono ?_; rintro _ w1 ⟨rfl, P1, K1⟩; have HK1 := hid K1; clear K1)
        | (go_at_call 84; refine (HD.out _ P1).mono ?_; rintro _ w2 ⟨⟨b0, rfl⟩, L2, M2, P2, X2, K2⟩; have HM := hid M2; have HL2 := hid P2; have HX2 := hid X2; have HK2 : Hid (Kp (LnF v L) w w2) := HK1.out.trans K2 (fun k _ e => LnF.perm HP1.out e); clear M2 P2 X2 K2 P1)
        | (go_at_call 66; refine (HUP.out w2 L2 HL2.out HM.out (Hu.ofx HX2.out hi2) HK2.out).mono ?_; rintro _ w3 ⟨rfl, L3, P3, M3, X3, K3⟩)
        | (go_at_call 109; refine (HFIN.out w3 L3 P3 M3 X3 K3).mono ?_; rintro _ w4 ⟨rfl, R4⟩)
        | (go_at_call 109; refine (HFIN.out w2 L2 HL2.out HM.out HX2.out HK2.out).mono ?_; rintro _ w4 ⟨rfl, R4⟩))
      all_goals go_ret
      all_goals exact ⟨rfl, R4⟩
    · have hi0 : 0 < i := by omega
      have hlt : kf (key c) L n < kf (key c) L ((i - 1) / 2) := by omega
      obtain ⟨u1, u2⟩ := Hu.rem hx hi2 hi0 hlt
      rw [← hkf] at u1 u2
      have HD : Hid (∀ W, Ln c W base B v (lsw L i n) → Calls Try.prog 84 #[.iface 70 (ptr B), .int .i64 i, .int .i64 n] W fun e w' => e = .returned (.bool false) ∧ Kp (fun _ => False) W w') := fun W hW =>
        down_stay c W base B v (lsw L i n) hW i n (by omega) hi2 (by omega) u2
      have HU1 := hid u1
      have hn1 : ¬ (n : Int) = (i : Int) := by omega
      clear hx hkf h hg hp1 u1 u2 hlt
      go_enter Try.func73, Try.ntmps73
      go_wp2_with (first
        | (go_at_call 34; refine HN.out.mono ?_; rintro _ _ ⟨rfl, rfl⟩)
        | (go_at_call 111; refine (HS.out _ (Kp.refl _ _) _ _ i n (by omega) (by omega) (by omega) (by omega) (by omega)).mono ?_; rintro _ w1 ⟨rfl, P1, K1⟩; have HK1 := hid K1; clear K1)
        | (go_at_call 84; refine (HD.out _ P1).mono ?_; rintro _ w2 ⟨rfl, K2⟩; have HL2 := hid (P1.kp0 K2); have HK2 : Hid (Kp (LnF v L) w w2) := HK1.out.trans K2 (fun k _ e => e.elim); clear K2 P1)
        | (go_at_call 66; refine (HUP.out w2 (lsw L i n) HL2.out (Mv.refl _ _) HU1.out HK2.out).mono ?_; rintro _ w3 ⟨rfl, L3, P3, M3, X3, K3⟩)
        | (go_at_call 109; refine (HFIN.out w3 L3 P3 M3 X3 K3).mono ?_; rintro _ w4 ⟨rfl, R4⟩))
      go_ret
      exact ⟨rfl, R4⟩
end Go.Proofs.Ytgfondgejimkkaa
