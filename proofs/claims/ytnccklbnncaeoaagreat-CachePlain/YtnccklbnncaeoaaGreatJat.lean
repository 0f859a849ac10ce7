import Derived.Test.YtnccklbnncaeoaaGreatJas
/- later: container/heap's Push and Remove over a line. -/
namespace Go.Proofs.YtnccklbnncaeoaaGreat
open Go.RowKit
set_option linter.unusedVariables false
/-- A line that is a heap. -/
def Hpd (c : Nat → Pc) (L : List Nat) : Prop := Hx (kf (key c) L) 0 L.length
set_option maxHeartbeats 4000000 in
set_option maxRecDepth 100000 in
theorem hpush_any (c : Nat → Pc) (w : World) (base B : Nat) (v : Value) (L : List Nat) (b s : Nat) (h : Ln c w base B v L) (hx : Hpd c L) (hb : Wt c w b s) (hm : Mayp (c b)) (hbL : b ∉ L) (hbase : base ≤ w.heap.size) (hL : L.length < 17592186044415) :
    Calls Tryz.prog 182 #[.iface 107 (ptr B), .iface 138 (ptr b)] w fun e w' => e = .returned (.tuple #[]) ∧ ∃ v' L', L'.Perm (b :: L) ∧ Ln c w' base B v' L' ∧ Hpd c L' ∧ (v'.ownBlock = v.ownBlock ∨ ∃ g, v'.ownBlock = some g ∧ w.heap.size ≤ g) ∧ Kp (fun k => k = B ∨ LnF v (b :: L) k) w w' := by
  have mN := find_len B
  have mP := find_push B
  have HP := hid (push_any c w base B v L b s h hb hm hbL hbase hL)
  have hu : Hid (Hu (kf (key c) (L ++ [b])) (L.length + 1) L.length) := Hu.of (hx.congr (fun k hk => by simp [kf, List.getD, List.getElem?_append_left hk]))
  have HF : Hid (∀ v1 w1, Pushed c w w1 base B b v v1 (L ++ [b]) → ∀ i, i < w.heap.size → LnF v1 (L ++ [b]) i → i = B ∨ LnF v (b :: L) i) := fun v1 w1 P1 i hi e => by
    rcases e with e | e
    · rcases P1.own with e1 | ⟨g, e1, hg⟩
      · exact .inr (.inl (e1 ▸ e))
      · rw [e1] at e
        obtain rfl : g = i := by simpa using e
        omega
    · exact .inr (.inr ((List.perm_append_singleton b L).mem_iff.1 e))
  clear h hb hm hx
  go_enter Tryz.func182, Tryz.ntmps182
  go_wp2_with (first
    | (go_at_call 244; refine HP.out.mono ?_; rintro _ w1 ⟨rfl, v1, P1⟩; have HN : Hid (Calls Tryz.prog 180 #[ptr B] w1 fun e w' => e = .returned (.int .i64 ((L.length : Int) + 1)) ∧ w1 = w') := (len_any c w1 base B v1 (L ++ [b]) P1.ln).mono (fun _ _ h => ⟨by rw [h.1]; simp, h.2.symm⟩); have HU := hid (up_any c w1 base B v1 (L ++ [b]) P1.ln (L.length + 1) L.length (by simp) (by omega) hu.out))
    | (go_at_call 180; refine HN.out.mono ?_; rintro _ _ ⟨rfl, rfl⟩)
    | (go_at_call 147; refine HU.out.mono ?_; rintro _ w2 ⟨rfl, L2, M2, P2, X2, K2⟩))
  go_end0
  refine ⟨rfl, v1, L2, M2.perm.trans (List.perm_append_singleton _ _), P2, ?_, P1.own, ?_⟩
  · unfold Hpd
    rw [M2.len, List.length_append]
    exact X2
  · refine (P1.kp.mono (G := fun k => k = B ∨ LnF v (b :: L) k) (fun k _ e => ?_)).trans K2 (fun i hi e => HF.out _ _ P1 i hi e)
    rcases e with e | e | e
    · exact .inl e
    · exact .inr (.inl e)
    · exact .inr (.inr (by simp [e]))
/-- What Remove leaves. -/
structure Rmd (c : Nat → Pc) (w w' : World) (base B : Nat) (v : Value) (L : List Nat) (b : Nat) : Prop where
  rest : ∃ v' M, (b :: M).Perm L ∧ Ln c w' base B v' M ∧ Hpd c M ∧ v'.ownBlock = v.ownBlock
  kp : Kp (fun k => k = B ∨ LnF v L k) w w'
  one : ∃ s, Wt c w' b s
set_option maxHeartbeats 4000000 in
set_option maxRecDepth 100000 in
theorem remove_any (c : Nat → Pc) (w : World) (base B : Nat) (v : Value) (L : List Nat) (h : Ln c w base B v L) (hx : Hpd c L) (i : Nat) (hi : i < L.length) (hL : L.length < 4611686018427387904) :
    Calls Tryz.prog 175 #[.iface 107 (ptr B), .int .i64 i] w fun e w' => e = .returned (.iface 138 (ptr (L.getD i 0))) ∧ Rmd c w w' base B v L (L.getD i 0) := by
  have mN := find_len B
  have mS := find_swap B
  have mP := find_pop B
  obtain ⟨n, hn⟩ : ∃ n, L.length = n + 1 := ⟨L.length - 1, by omega⟩
  have HN : Hid (Calls Tryz.prog 180 #[ptr B] w fun e w' => e = .returned (.int .i64 ((n : Int) + 1)) ∧ w = w') := (len_any c w base B v L h).mono (fun _ _ h => ⟨by rw [h.1, hn]; rfl, h.2.symm⟩)
  unfold Hpd at hx
  rw [hn] at hx
  by_cases hin : i = n
  · subst hin
    obtain ⟨N, hN, hNl, hNp⟩ := last_parts hn
    have HP := hid (pop_any c w base B v N (L.getD i 0) (hN ▸ h) (by omega))
    have HX : Hid (Hpd c N) := by
      unfold Hid Hpd
      rw [hNl]
      refine Hx.congr (g := kf (key c) L) (fun k h0 hk hl => hx k h0 (by omega) hl) (fun k hk => ?_)
      rw [kf_front (key c) N (L.getD i 0) k (by omega), ← hN]
    have HNP := hid hNp
    clear h hx hN hNp
    generalize L.getD i 0 = b at *
    go_enter Tryz.func175, Tryz.ntmps175
    go_wp2_with (first
      | (go_at_call 180; refine HN.out.mono ?_; rintro _ _ ⟨rfl, rfl⟩)
      | (go_at_call 243; refine HP.out.mono ?_; rintro _ w3 ⟨rfl, v3, P3, O3, K3, W3⟩))
    go_ret
    exact ⟨rfl, ⟨v3, N, HNP.out, P3, HX.out, O3⟩, K3.mono (fun k _ e => e.imp id (fun e => .inl e)), W3⟩
  · have hi2 : i < n := by omega
    have hl1 : (lsw L i n).length = n + 1 := by rw [lsw_length]; exact hn
    have hkf : kf (key c) (lsw L i n) = sw (kf (key c) L) i n := kf_lsw (key c) L i n (by omega) (by omega)
    have hp1 := lsw_perm L i n (by omega) (by omega)
    have HS := swap_at c w base B v L h L (List.Perm.refl _)
    have HFIN : Hid (∀ w3 L3, Ln c w3 base B v L3 → Mv n (lsw L i n) L3 → Hx (kf (key c) L3) 0 n → Kp (LnF v L) w w3 → Calls Tryz.prog 243 #[ptr B] w3 fun e w' => e = .returned (.iface 138 (ptr (L.getD i 0))) ∧ Rmd c w w' base B v L (L.getD i 0)) := fun w3 L3 hl3 m3 x3 k3 => by
      obtain ⟨N, rfl, hNl, hNp⟩ := rem_parts hn hi2 m3
      refine (pop_any c w3 base B v N _ hl3 (by omega)).mono ?_
      rintro e w4 ⟨rfl, v4, P4, O4, K4, W4⟩
      refine ⟨rfl, ⟨v4, N, hNp, P4, ?_, O4⟩, (k3.mono (fun _ _ e => .inr e)).trans K4 (fun k _ e => e.imp id (fun e => .inl e)), W4⟩
      unfold Hpd
      rw [hNl]
      exact x3.congr (fun k hk => kf_front (key c) N _ k (by omega))
    have HUP : Hid (∀ w2 L2, Ln c w2 base B v L2 → Mv n (lsw L i n) L2 → Hu (kf (key c) L2) n i → Kp (LnF v L) w w2 → Calls Tryz.prog 147 #[.iface 107 (ptr B), .int .i64 i] w2 fun e w' => e = .returned (.tuple #[]) ∧ ∃ L', Ln c w' base B v L' ∧ Mv n (lsw L i n) L' ∧ Hx (kf (key c) L') 0 n ∧ Kp (LnF v L) w w') := fun w2 L2 hl2 m2 u2 k2 => by
      have hlen : L2.length = n + 1 := m2.len.trans hl1
      refine (up_any c w2 base B v L2 hl2 n i (by omega) hi2 u2).mono ?_
      rintro e w3 ⟨rfl, L3, m3, hl3, x3, k3⟩
      exact ⟨rfl, L3, hl3, m2.trans m3, x3, k2.trans k3 (fun k _ e => LnF.perm (m2.perm.trans hp1) e)⟩
    obtain ⟨b, hb⟩ : ∃ b, L.getD i 0 = b := ⟨_, rfl⟩
    rw [hb] at HFIN ⊢
    clear hb
    by_cases hg : i = 0 ∨ kf (key c) L ((i - 1) / 2) ≤ kf (key c) L n
    · have HD : Hid (∀ W, Ln c W base B v (lsw L i n) → Calls Tryz.prog 146 #[.iface 107 (ptr B), .int .i64 i, .int .i64 n] W fun e w' => RB e ∧ ∃ L', Mv n (lsw L i n) L' ∧ Ln c w' base B v L' ∧ Hx (kf (key c) L') 0 n ∧ Kp (LnF v (lsw L i n)) W w') := fun W hW =>
        down_any c W base B v (lsw L i n) hW 0 i n (by omega) (by omega) (by omega) (by rw [hkf]; exact Hd.rem hx hi2 hg)
      have hn1 : ¬ (n : Int) = (i : Int) := by omega
      have HP1 := hid hp1
      clear hx hkf h hg hp1
      go_enter Tryz.func175, Tryz.ntmps175
      go_wp2_with (first
        | (go_at_call 180; refine HN.out.mono ?_; rintro _ _ ⟨rfl, rfl⟩)
        | (go_at_call 245; refine (HS.out _ (Kp.refl _ _) _ _ i n (by omega) (by omega) (by omega) (by omega) (by omega)).mono ?_; rintro _ w1 ⟨rfl, P1, K1⟩; have HK1 := hid K1; clear K1)
        | (go_at_call 146; refine (HD.out _ P1).mono ?_; rintro _ w2 ⟨⟨b0, rfl⟩, L2, M2, P2, X2, K2⟩; have HM := hid M2; have HL2 := hid P2; have HX2 := hid X2; have HK2 : Hid (Kp (LnF v L) w w2) := HK1.out.trans K2 (fun k _ e => LnF.perm HP1.out e); clear M2 P2 X2 K2 P1)
        | (go_at_call 147; refine (HUP.out w2 L2 HL2.out HM.out (Hu.ofx HX2.out hi2) HK2.out).mono ?_; rintro _ w3 ⟨rfl, L3, P3, M3, X3, K3⟩)
        | (go_at_call 243; refine (HFIN.out w3 L3 P3 M3 X3 K3).mono ?_; rintro _ w4 ⟨rfl, R4⟩)
        | (go_at_call 243; refine (HFIN.out w2 L2 HL2.out HM.out HX2.out HK2.out).mono ?_; rintro _ w4 ⟨rfl, R4⟩))
      all_goals go_ret
      all_goals exact ⟨rfl, R4⟩
    · have hi0 : 0 < i := by omega
      have hlt : kf (key c) L n < kf (key c) L ((i - 1) / 2) := by omega
      obtain ⟨u1, u2⟩ := Hu.rem hx hi2 hi0 hlt
      rw [← hkf] at u1 u2
      have HD : Hid (∀ W, Ln c W base B v (lsw L i n) → Calls Tryz.prog 146 #[.iface 107 (ptr B), .int .i64 i, .int .i64 n] W fun e w' => e = .returned (.bool false) ∧ Kp (fun _ => False) W w') := fun W hW =>
        down_stay c W base B v (lsw L i n) hW i n (by omega) hi2 (by omega) u2
      have HU1 := hid u1
      have hn1 : ¬ (n : Int) = (i : Int) := by omega
      clear hx hkf h hg hp1 u1 u2 hlt
      go_enter Tryz.func175, Tryz.ntmps175
      go_wp2_with (first
        | (go_at_call 180; refine HN.out.mono ?_; rintro _ _ ⟨rfl, rfl⟩)
        | (go_at_call 245; refine (HS.out _ (Kp.refl _ _) _ _ i n (by omega) (by omega) (by omega) (by omega) (by omega)).mono ?_; rintro _ w1 ⟨rfl, P1, K1⟩; have HK1 := hid K1; clear K1)
        | (go_at_call 146; refine (HD.out _ P1).mono ?_; rintro _ w2 ⟨rfl, K2⟩; have HL2 := hid (P1.kp0 K2); have HK2 : Hid (Kp (LnF v L) w w2) := HK1.out.trans K2 (fun k _ e => e.elim); clear K2 P1)
        | (go_at_call 147; refine (HUP.out w2 (lsw L i n) HL2.out (Mv.refl _ _) HU1.out HK2.out).mono ?_; rintro _ w3 ⟨rfl, L3, P3, M3, X3, K3⟩)
        | (go_at_call 243; refine (HFIN.out w3 L3 P3 M3 X3 K3).mono ?_; rintro _ w4 ⟨rfl, R4⟩))
      go_ret
      exact ⟨rfl, R4⟩
end Go.Proofs.YtnccklbnncaeoaaGreat
/- cache: container/heap's Fix over a line; add, drop, moved, first. -/
namespace Go.Proofs.YtnccklbnncaeoaaGreat
open Go.RowKit
set_option linter.unusedVariables false
theorem Hd.chg {g f : Nat → Nat} {n i : Nat} (h : Hx g 0 n) (e : ∀ k, k < n → k ≠ i → f k = g k) (hi : i < n) (hg : i = 0 ∨ f ((i - 1) / 2) ≤ f i) : Hd f 0 n i := by
  refine ⟨Nat.zero_le _, fun k h0 hk _ hp => ?_, fun k h0 hk hp hi0 _ => ?_⟩
  · by_cases hki : k = i
    · subst hki
      rcases hg with hg | hg
      · omega
      · exact hg
    · rw [e ((k - 1) / 2) (by omega) hp, e k hk hki]
      exact h k h0 hk (Nat.zero_le _)
  · have h1 := h k h0 hk (Nat.zero_le _)
    have h2 := h i hi0 hi (Nat.zero_le _)
    rw [e ((i - 1) / 2) (by omega) (by omega), e k hk (by omega)]
    rw [hp] at h1
    omega
theorem Hu.chg {g f : Nat → Nat} {n i : Nat} (h : Hx g 0 n) (e : ∀ k, k < n → k ≠ i → f k = g k) (hi : i < n) (hi0 : 0 < i) (hg : f i < f ((i - 1) / 2)) : Hu f n i ∧ ∀ k, 0 < k → k < n → (k - 1) / 2 = i → f i ≤ f k := by
  have h2 := h i hi0 hi (Nat.zero_le _)
  rw [e ((i - 1) / 2) (by omega) (by omega)] at hg
  have hc : ∀ k, 0 < k → k < n → (k - 1) / 2 = i → g ((i - 1) / 2) ≤ f k := by
    intro k h0 hk hp
    have h1 := h k h0 hk (Nat.zero_le _)
    rw [e k hk (by omega)]
    rw [hp] at h1
    omega
  refine ⟨⟨fun k h0 hk hki => ?_, fun k h0 hk hp _ => ?_⟩, fun k h0 hk hp => ?_⟩
  · by_cases hp : (k - 1) / 2 = i
    · have := hc k h0 hk hp
      rw [hp]; omega
    · rw [e ((k - 1) / 2) (by omega) hp, e k hk hki]
      exact h k h0 hk (Nat.zero_le _)
  · rw [e ((i - 1) / 2) (by omega) (by omega)]
    exact hc k h0 hk hp
  · have := hc k h0 hk hp
    omega
set_option maxHeartbeats 4000000 in
set_option maxRecDepth 100000 in
theorem fix_any (c : Nat → Pc) (w : World) (base B : Nat) (v : Value) (L : List Nat) (h : Ln c w base B v L) (g : Nat → Nat) (hx : Hx g 0 L.length) (i : Nat) (hi : i < L.length) (he : ∀ k, k < L.length → k ≠ i → kf (key c) L k = g k) (hL : L.length < 4611686018427387904) :
    Calls Tryz.prog 110 #[.iface 107 (ptr B), .int .i64 i] w fun e w' => e = .returned (.tuple #[]) ∧ ∃ L', L'.Perm L ∧ Ln c w' base B v L' ∧ Hpd c L' ∧ Kp (LnF v L) w w' := by
  have mN := find_len B
  have HN : Hid (Calls Tryz.prog 180 #[ptr B] w fun e w' => e = .returned (.int .i64 L.length) ∧ w = w') := (len_any c w base B v L h).mono (fun _ _ h => ⟨h.1, h.2.symm⟩)
  by_cases hg : i = 0 ∨ kf (key c) L ((i - 1) / 2) ≤ kf (key c) L i
  · have HD : Hid (Calls Tryz.prog 146 #[.iface 107 (ptr B), .int .i64 i, .int .i64 L.length] w fun e w' => RB e ∧ ∃ L', Mv L.length L L' ∧ Ln c w' base B v L' ∧ Hx (kf (key c) L') 0 L.length ∧ Kp (LnF v L) w w') := down_any c w base B v L h 0 i L.length (by omega) (by omega) (by omega) (Hd.chg hx he hi hg)
    have HUP : Hid (∀ w2 L2, Ln c w2 base B v L2 → Mv L.length L L2 → Hx (kf (key c) L2) 0 L.length → Kp (LnF v L) w w2 → Calls Tryz.prog 147 #[.iface 107 (ptr B), .int .i64 i] w2 fun e w' => e = .returned (.tuple #[]) ∧ ∃ L', L'.Perm L ∧ Ln c w' base B v L' ∧ Hpd c L' ∧ Kp (LnF v L) w w') := fun w2 L2 l2 m2 x2 k2 => by
      refine (up_any c w2 base B v L2 l2 L.length i (by rw [m2.len]; omega) hi (Hu.ofx x2 hi)).mono ?_
      rintro e w3 ⟨rfl, L3, m3, l3, x3, k3⟩
      refine ⟨rfl, L3, m3.perm.trans m2.perm, l3, ?_, k2.trans k3 (fun k _ e => LnF.perm m2.perm e)⟩
      unfold Hpd
      rw [m3.len, m2.len]
      exact x3
    clear h hx he hg
    go_enter Tryz.func110, Tryz.ntmps110
    go_wp2_with (first
      | (go_at_call 180; refine HN.out.mono ?_; rintro _ _ ⟨rfl, rfl⟩)
      | (go_at_call 146; refine HD.out.mono ?_; rintro _ w2 ⟨⟨b0, rfl⟩, L2, M2, P2, X2, K2⟩; have HM := hid M2; have HL2 := hid P2; have HX2 := hid X2; have HK2 := hid K2; clear M2 P2 X2 K2)
      | (go_at_call 147; refine (HUP.out w2 L2 HL2.out HM.out HX2.out HK2.out).mono ?_; rintro _ w3 ⟨rfl, R4⟩))
    · go_end0
      exact ⟨rfl, R4⟩
    · go_end0
      refine ⟨rfl, L2, HM.out.perm, HL2.out, ?_, HK2.out⟩
      unfold Hpd
      rw [HM.out.len]
      exact HX2.out
  · have hi0 : 0 < i := by omega
    have hlt : kf (key c) L i < kf (key c) L ((i - 1) / 2) := by omega
    obtain ⟨u1, u2⟩ := Hu.chg hx he hi hi0 hlt
    have HD : Hid (Calls Tryz.prog 146 #[.iface 107 (ptr B), .int .i64 i, .int .i64 L.length] w fun e w' => e = .returned (.bool false) ∧ Kp (fun _ => False) w w') := down_stay c w base B v L h i L.length (by omega) hi (by omega) u2
    have HUP : Hid (∀ w2, Kp (fun _ => False) w w2 → Calls Tryz.prog 147 #[.iface 107 (ptr B), .int .i64 i] w2 fun e w' => e = .returned (.tuple #[]) ∧ ∃ L', L'.Perm L ∧ Ln c w' base B v L' ∧ Hpd c L' ∧ Kp (LnF v L) w w') := fun w2 k2 => by
      refine (up_any c w2 base B v L (h.kp0 k2) L.length i (by omega) hi u1).mono ?_
      rintro e w3 ⟨rfl, L3, m3, l3, x3, k3⟩
      refine ⟨rfl, L3, m3.perm, l3, ?_, (k2.mono (fun _ _ h => h.elim)).trans k3 (fun _ _ e => e)⟩
      unfold Hpd
      rw [m3.len]
      exact x3
    clear h hx he hg u1 u2 hlt
    go_enter Tryz.func110, Tryz.ntmps110
    go_wp2_with (first
      | (go_at_call 180; refine HN.out.mono ?_; rintro _ _ ⟨rfl, rfl⟩)
      | (go_at_call 146; refine HD.out.mono ?_; rintro _ w2 ⟨rfl, K2⟩; have HK2 := hid K2; clear K2)
      | (go_at_call 147; refine (HUP.out w2 HK2.out).mono ?_; rintro _ w3 ⟨rfl, R4⟩))
    go_end0
    exact ⟨rfl, R4⟩
end Go.Proofs.YtnccklbnncaeoaaGreat
/- cache: moved, add, drop, first of the line, over a whole cache. -/
namespace Go.Proofs.YtnccklbnncaeoaaGreat
open Go.RowKit
set_option linter.unusedVariables false
set_option linter.unusedSimpArgs false
section
variable {S : ByteArray} {g bits room Q : Nat} {G : Gc} {w : World}
theorem Cm.wts (h : Cm S g bits room Q G w) {w' : World} {M : List Nat} (k : Kp (fun i => i = G.kl ∨ LnF G.lv M i) w w') (hM : ∀ a ∈ M, ∃ s, Wt G.c w' a s) : ∀ b ∈ G.B, ∃ s, Wt G.c w' b s := by
  intro b hb
  by_cases hm : b ∈ M
  · exact hM b hm
  · obtain ⟨s, hs⟩ := (h.pg b hb).wt
    refine ⟨s, hs.kp k ?_⟩
    rintro (e | e | e)
    · exact tag_ne hs.tag h.ln.st.tag (by decide) e
    · exact tag_ne (own_tag h.ln.own e) hs.tag (by decide) rfl
    · exact hm e
theorem Cm.fcl (h : Cm S g bits room Q G w) {M : List Nat} (hM : ∀ a ∈ M, a ∈ G.B) (i : Nat) (hi : i = G.kl ∨ LnF G.lv M i) : Fc Q G i := by
  rcases hi with rfl | hi | hi
  · exact .inr (.inl rfl)
  · exact .inr (.inr (.inr (.inl hi)))
  · exact .inr (.inr (.inr (.inr (.inr ⟨i, hM i hi, .inl rfl⟩))))
theorem Cm.lnb (h : Cm S g bits room Q G w) {M : List Nat} (hM : ∀ a ∈ M, a ∈ G.B) (i : Nat) (hi : i = G.kl ∨ LnF G.lv M i) : i = G.kl ∨ G.lv.ownBlock = some i ∨ i ∈ G.B := by
  rcases hi with rfl | hi | hi
  · exact .inl rfl
  · exact .inr (.inl hi)
  · exact .inr (.inr (hM i hi))
/-- What a change of the line leaves. -/
def Shf (S : ByteArray) (g bits room Q : Nat) (G : Gc) (M : List Nat) (w w' : World) : Prop := ∃ lv L, L.Perm M ∧ Hpd G.c L ∧ Cm S g bits room Q { G with lv := lv, L := L } w' ∧ Kp (Fc Q G) w w' ∧ ∀ i, Fc Q { G with lv := lv, L := L } i → Fc Q G i ∨ w.heap.size ≤ i
theorem fc_line {lv : Value} {L : List Nat} (ho : lv.ownBlock = G.lv.ownBlock ∨ ∃ i, lv.ownBlock = some i ∧ w.heap.size ≤ i) (i : Nat) (hi : Fc Q { G with lv := lv, L := L } i) : Fc Q G i ∨ w.heap.size ≤ i := by
  rcases hi with rfl | rfl | rfl | hi | hi | hi
  · exact .inl (.inl rfl)
  · exact .inl (.inr (.inl rfl))
  · exact .inl (.inr (.inr (.inl rfl)))
  · rcases ho with ho | ⟨j, ho, hj⟩
    · exact .inl (.inr (.inr (.inr (.inl (by rw [← ho]; exact hi)))))
    · change lv.ownBlock = some i at hi
      rw [ho] at hi
      simp only [Option.some.injEq] at hi
      exact .inr (by omega)
  · exact .inl (.inr (.inr (.inr (.inr (.inl hi)))))
  · exact .inl (.inr (.inr (.inr (.inr (.inr hi)))))
set_option maxHeartbeats 2000000 in
theorem moved_any (h : Cm S g bits room Q G w) (b : Nat) (hb : b ∈ G.L) (c0 : Nat → Pc) (hx : Hpd c0 G.L) (hc : ∀ a, a ≠ b → G.c a = c0 a) (hL : G.L.length < 4611686018427387904) :
    Calls Tryz.prog 63 #[ptr G.kl, ptr b] w fun e w' => e = .returned (.tuple #[]) ∧ Shf S g bits room Q G G.L w w' := by
  obtain ⟨i, hi, hgi⟩ := gn_of hb
  have ht := h.ln.tr i hi
  rw [hgi] at ht
  have HF : Hid (Calls Tryz.prog 110 #[.iface 107 (ptr G.kl), .int .i64 i] w fun e w' => e = .returned (.tuple #[]) ∧ Shf S g bits room Q G G.L w w') := by
    refine (fix_any G.c w 0 G.kl G.lv G.L h.ln (kf (key c0) G.L) hx i hi (fun k hk hki => ?_) hL).mono ?_
    · unfold kf key
      rw [hc _ (fun e => hki (h.ln.inj hk hi (e.trans hgi.symm)))]
    · rintro e w' ⟨rfl, L', hp, hl, hh, hk⟩
      have hLB : ∀ a ∈ G.L, a ∈ G.B := h.lb
      have hk2 := hk.mono (G := fun i => i = G.kl ∨ LnF G.lv G.L i) (fun _ _ h => .inr h)
      refine ⟨rfl, G.lv, L', hp, hh, h.line hl (hk2.mono (fun i _ => h.lnb hLB i)) (h.wts hk2 (fun a ha => hl.wt (hp.mem_iff.2 ha))) (fun a ha => hLB a (hp.mem_iff.1 ha)) (.inl rfl), hk2.mono (fun i _ => h.fcl hLB i), fc_line (.inl rfl)⟩
  have y5 := St.cell ht 5
  simp [Pc.cs] at y5
  clear h hx ht
  unfold ptr at *
  go_enter Tryz.func63, Tryz.ntmps63
  go_wp2_with (first | (go_at_call 110; refine HF.out.mono ?_; rintro _ w1 ⟨rfl, H1⟩))
  go_end0
  exact ⟨rfl, H1⟩
set_option maxHeartbeats 2000000 in
theorem add_any (h : Cm S g bits room Q G w) (b : Nat) (hb : b ∈ G.B) (hbL : b ∉ G.L) (hx : Hpd G.c G.L) (hm : Mayp (G.c b)) (hL : G.L.length < 17592186044415) :
    Calls Tryz.prog 145 #[ptr G.kl, ptr b] w fun e w' => e = .returned (.tuple #[]) ∧ Shf S g bits room Q G (b :: G.L) w w' := by
  obtain ⟨s, hs⟩ := (h.pg b hb).wt
  have HF : Hid (Calls Tryz.prog 182 #[.iface 107 (ptr G.kl), .iface 138 (ptr b)] w fun e w' => e = .returned (.tuple #[]) ∧ Shf S g bits room Q G (b :: G.L) w w') := by
    refine (hpush_any G.c w 0 G.kl G.lv G.L b s h.ln hx hs hm hbL (Nat.zero_le _) hL).mono ?_
    rintro e w' ⟨rfl, v', L', hp, hl, hh, ho, hk⟩
    have hLB : ∀ a ∈ b :: G.L, a ∈ G.B := fun a ha => by
      rcases List.mem_cons.1 ha with rfl | ha
      · exact hb
      · exact h.lb a ha
    exact ⟨rfl, v', L', hp, hh, h.line hl (hk.mono (fun i _ => h.lnb hLB i)) (h.wts hk (fun a ha => hl.wt (hp.mem_iff.2 ha))) (fun a ha => hLB a (hp.mem_iff.1 ha)) ho, hk.mono (fun i _ => h.fcl hLB i), fc_line ho⟩
  clear h hx hs
  unfold ptr at *
  go_enter Tryz.func145, Tryz.ntmps145
  go_wp2_with (first | (go_at_call 182; refine HF.out.mono ?_; rintro _ w1 ⟨rfl, H1⟩))
  go_end0
  exact ⟨rfl, H1⟩
set_option maxHeartbeats 2000000 in
theorem drop_any (h : Cm S g bits room Q G w) (b : Nat) (hb : b ∈ G.L) (hx : Hpd G.c G.L) (hL : G.L.length < 4611686018427387904) :
    Calls Tryz.prog 134 #[ptr G.kl, ptr b] w fun e w' => e = .returned (.tuple #[]) ∧ ∃ M, (b :: M).Perm G.L ∧ Shf S g bits room Q G M w w' := by
  obtain ⟨i, hi, hgi⟩ := gn_of hb
  have ht := h.ln.tr i hi
  rw [hgi] at ht
  have HF : Hid (Calls Tryz.prog 175 #[.iface 107 (ptr G.kl), .int .i64 i] w fun e w' => e = .returned (.iface 138 (ptr b)) ∧ ∃ M, (b :: M).Perm G.L ∧ Shf S g bits room Q G M w w') := by
    refine (remove_any G.c w 0 G.kl G.lv G.L h.ln hx i hi hL).mono ?_
    rw [hgi]
    rintro e w' ⟨rfl, ⟨v', M, hp, hl, hh, ho⟩, hk, h1⟩
    have hLB : ∀ a ∈ G.L, a ∈ G.B := h.lb
    refine ⟨rfl, M, hp, v', M, List.Perm.refl _, hh, h.line hl (hk.mono (fun i _ => h.lnb hLB i)) (h.wts hk (fun a ha => ?_)) (fun a ha => hLB a (hp.mem_iff.1 (List.mem_cons_of_mem _ ha))) (.inl ho), hk.mono (fun i _ => h.fcl hLB i), fc_line (.inl ho)⟩
    rcases List.mem_cons.1 (hp.mem_iff.2 ha) with rfl | ha
    · exact h1
    · exact hl.wt ha
  have y5 := St.cell ht 5
  simp [Pc.cs] at y5
  clear h hx ht
  unfold ptr at *
  go_enter Tryz.func134, Tryz.ntmps134
  go_wp2_with (first | (go_at_call 175; refine HF.out.mono ?_; rintro _ w1 ⟨rfl, H1⟩))
  go_end0
  exact ⟨rfl, H1⟩
set_option maxHeartbeats 2000000 in
theorem first_any (h : Cm S g bits room Q G w) (hl : 0 < G.L.length) :
    Calls Tryz.prog 181 #[ptr G.kl] w fun e w' => e = .returned (ptr (G.L.getD 0 0)) ∧ w' = w := by
  obtain ⟨r, cap, hv, hb, hgl, hc1, hc2, hcells, hfr⟩ := h.ln.row hl
  have h1 := h.ln.st.cell 0
  have c0 := hcells 0 hl
  rw [hv] at h1
  simp at h1
  clear h hcells hfr
  unfold maxLen at hc2
  generalize G.L.getD 0 0 = b0 at *
  unfold ptr at *
  go_enter Tryz.func181, Tryz.ntmps181
  go_wp2
  go_ret
  exact ⟨rfl, rfl⟩
end
end Go.Proofs.YtnccklbnncaeoaaGreat
/- cache: letGo, waitForNone. -/
namespace Go.Proofs.YtnccklbnncaeoaaGreat
open Go.RowKit
set_option linter.unusedVariables false
set_option linter.unusedSimpArgs false
section
variable {S : ByteArray} {g bits room Q : Nat} {G : Gc} {w : World}
/-- The blocks of one are those of another one. -/
theorem fc_same {H : Gc} (h1 : H.kl = G.kl) (h2 : H.pm = G.pm) (h3 : H.lv = G.lv) (h4 : H.pv = G.pv) (h5 : H.B = G.B) (h6 : ∀ b ∈ G.B, (H.c b).wm = (G.c b).wm ∧ (H.c b).rm = (G.c b).rm) (h7 : ∀ b ∈ G.B, ∀ i zs, H.y b = some (i, zs) → ∃ us, G.y b = some (i, us)) (i : Nat) (hi : Fc Q H i) : Fc Q G i := by
  unfold Fc at *
  rw [h1, h2, h3, h4, h5] at hi
  rcases hi with e | e | e | e | e | ⟨b, hb, e⟩
  · exact .inl e
  · exact .inr (.inl e)
  · exact .inr (.inr (.inl e))
  · exact .inr (.inr (.inr (.inl e)))
  · exact .inr (.inr (.inr (.inr (.inl e))))
  · refine .inr (.inr (.inr (.inr (.inr ⟨b, hb, ?_⟩))))
    rw [(h6 b hb).1, (h6 b hb).2] at e
    rcases e with e | e | e | ⟨zs, e⟩
    · exact .inl e
    · exact .inr (.inl e)
    · exact .inr (.inr (.inl e))
    · exact .inr (.inr (.inr (h7 b hb i zs e)))
theorem fc_forget {b i : Nat} (hi : Fc Q (gForget G b) i) : Fc Q G i := by
  unfold gForget at hi
  split at hi
  · exact hi
  · exact hi
theorem fc_settle {b i : Nat} (hi : Fc Q (gSettle G b) i) : Fc Q G i := fc_forget (G := { gS G b (G.R b) with R := upd G.R b [] }) hi
/-- What settle leaves. -/
def gSet (G : Gc) (b : Nat) : Gc := if (G.c b).di || (G.c b).pe then gForget G b else gSettle G b
theorem fc_set {b i : Nat} (hi : Fc Q (gSet G b) i) : Fc Q G i := by
  unfold gSet at hi
  split at hi
  · exact fc_forget hi
  · exact fc_settle hi
theorem set_any (h : Cm S g bits room Q G w) (b : Nat) (hb : b ∈ G.K) (hR : ∀ a ∈ G.R b, a ∈ G.K ∧ a ≠ b ∧ ∀ x ∈ G.W a, x ∈ G.K) :
    Calls Tryz.prog 122 #[ptr Q, ptr b] w fun e w' => e = .returned (.tuple #[]) ∧ Cm S g bits room Q (gSet G b) w' ∧ Kp (Fc Q G) w w' := by
  unfold gSet
  cases hu : ((G.c b).di || (G.c b).pe) with
  | true =>
    refine (settle_not h b hb hu).mono ?_
    rintro e w' ⟨rfl, h1, h2⟩
    exact ⟨rfl, h1, h2.mono (fun i _ e => .inr (.inr (.inl e)))⟩
  | false =>
    refine (settle_any h b hb hu hR).mono ?_
    rintro e w' ⟨rfl, h1, h2⟩
    refine ⟨rfl, h1, h2.mono (fun i _ e => ?_)⟩
    rcases e with e | e | ⟨a, ha, e⟩
    · exact .inr (.inr (.inl e))
    · exact .inr (.inr (.inr (.inr (.inr ⟨b, h.kb b hb, .inr (.inr (.inl e))⟩))))
    · exact .inr (.inr (.inr (.inr (.inr ⟨a, h.kb a (hR a ha).1, .inr (.inl e)⟩))))
theorem Hpd.congr {c d : Nat → Pc} {L : List Nat} (h : Hpd c L) (e : ∀ b ∈ L, key d b = key c b) : Hpd d L := by
  unfold Hpd at *
  exact Hx.congr h (fun k hk => e _ (gn_mem hk))
/-- Its bytes are let go of. -/
def gBare (G : Gc) (b : Nat) : Gc := { G with c := upd G.c b { G.c b with bv := .slice none 0 0, di := false }, y := upd G.y b none }
theorem Cm.pageF (h : Cm S g bits room Q G w) {b : Nat} (hb : b ∈ G.B) (i : Nat) (hi : i = b) : Fc Q G i := .inr (.inr (.inr (.inr (.inr ⟨b, hb, .inl hi⟩))))
theorem fc_bare {b i : Nat} (hi : Fc Q (gBare G b) i) : Fc Q G i := by
  refine fc_same (H := gBare G b) (G := G) rfl rfl rfl rfl rfl (fun a _ => ?_) (fun a _ j zs e => ?_) i hi
  · show (upd G.c b { G.c b with bv := .slice none 0 0, di := false } a).wm = (G.c a).wm ∧ (upd G.c b { G.c b with bv := .slice none 0 0, di := false } a).rm = (G.c a).rm
    unfold upd; split
    · rename_i e; rw [e]; exact ⟨rfl, rfl⟩
    · exact ⟨rfl, rfl⟩
  · change upd G.y b none a = some (j, zs) at e
    unfold upd at e
    split at e
    · cases e
    · exact ⟨zs, e⟩
set_option maxHeartbeats 4000000 in
set_option maxRecDepth 100000 in
theorem letgo_any (h : Cm S g bits room Q G w) (b : Nat) (hb : b ∈ G.K) (hbL : b ∈ G.L) (hx : Hpd G.c G.L) (hL : G.L.length < 4611686018427387904)
    (hR : ∀ a ∈ G.R b, a ∈ G.K ∧ a ≠ b ∧ ∀ x ∈ G.W a, x ∈ G.K) :
    Calls Tryz.prog 86 #[ptr Q, ptr b] w fun e w' => e = .returned (.tuple #[]) ∧ ∃ lv M, (b :: M).Perm G.L ∧ Hpd (gBare G b).c M ∧
      Cm S g bits room Q (gSet (gBare { G with lv := lv, L := M } b) b) w' ∧ Kp (Fc Q G) w w' ∧ ∀ i, Fc Q (gSet (gBare { G with lv := lv, L := M } b) b) i → Fc Q G i ∨ w.heap.size ≤ i := by
  have hbB := h.kb b hb
  have HD := hid (drop_any h b hbL hx hL)
  have z5 := h.st.cell 5
  simp at z5
  have HS : Hid (∀ w1 lv L, Cm S g bits room Q { G with lv := lv, L := L } w1 → b ∉ L → Cm S g bits room Q (gBare { G with lv := lv, L := L } b) ((w1.setCell ⟨b, 1, none⟩ (.slice none 0 0)).setCell ⟨b, 2, none⟩ (.bool false)) ∧ Kp (fun i => i = b) w1 ((w1.setCell ⟨b, 1, none⟩ (.slice none 0 0)).setCell ⟨b, 2, none⟩ (.bool false))) := fun w1 lv L h1 hn => by
    have hk : Kp (fun i => i = b) w1 ((w1.setCell ⟨b, 1, none⟩ (.slice none 0 0)).setCell ⟨b, 2, none⟩ (.bool false)) := (kp_setCell w1 b 1 _ (fun i => i = b) rfl).trans (kp_setCell _ b 2 _ (fun i => i = b) rfl) (fun _ _ h => h)
    refine ⟨Cm.page h1 (b := b) hbB (p := { G.c b with bv := .slice none 0 0, di := false }) (y := none) (fun s hs => ?_) hk rfl rfl rfl (fun e => absurd e hn) rfl (fun i zs e => by cases e), hk⟩
    have h2 : St 142 ((w1.setCell ⟨b, 1, none⟩ (.slice none 0 0)).setCell ⟨b, 2, none⟩ (.bool false)) b ((((G.c b).cs s).set! 1 (.slice none 0 0)).set! 2 (.bool false)) := (St.set hs 1 (.slice none 0 0)).set 2 (.bool false)
    simpa [Pc.cs] using h2
  have HST : Hid (∀ w2 lv L, Cm S g bits room Q (gBare { G with lv := lv, L := L } b) w2 → Calls Tryz.prog 122 #[ptr Q, ptr b] w2 fun e w' => e = .returned (.tuple #[]) ∧ Cm S g bits room Q (gSet (gBare { G with lv := lv, L := L } b) b) w' ∧ Kp (Fc Q (gBare { G with lv := lv, L := L } b)) w2 w') := fun w2 lv L h2 => set_any h2 b hb hR
  have HP : Hid (∀ a, a ≠ b → key (gBare G b).c a = key G.c a) := fun a ha => by
    unfold key
    rw [show (gBare G b).c a = G.c a from upd_other _ _ ha]
  have HND := hid h.ln.nodup
  have HW : Hid (∀ i, Fc Q G i → i < w.heap.size) := fun i hi => h.lt hi
  clear h hx
  unfold ptr at *
  go_enter Tryz.func86, Tryz.ntmps86
  go_wp2_with (first
    | (go_at_call 134
       refine HD.out.mono ?_
       rintro _ w1 ⟨rfl, M, hM, lv, L, hp, hh, hcm, hk, hfc⟩
       have hpb : (b :: L).Perm G.L := (hp.cons b).trans hM
       have hbn : b ∉ L := (List.nodup_cons.1 (hpb.nodup_iff.2 HND.out)).1
       obtain ⟨h2, hk2⟩ := HS.out w1 lv L hcm hbn
       obtain ⟨s, hs⟩ := (hcm.pg b hbB).wt
       have y1 : w1.cell? ⟨b, 1, none⟩ = some (G.c b).bv := St.cell hs 1
       have y2 : w1.cell? ⟨b, 2, none⟩ = some (.bool (G.c b).di) := St.cell hs 2
       have f1 : w1.frozen? ⟨b, 1, none⟩ = false := St.frozen hs 1
       have f2 : w1.frozen? ⟨b, 2, none⟩ = false := St.frozen hs 2
       have HH := hid h2
       have HK := hid hk
       have HK2 := hid hk2
       have HFC := hid hfc
       have HPB := hid hpb
       have HHH := hid hh
       have HBN := hid hbn
       clear hcm hk hk2 h2 hfc hpb hh hs hp hM hbn)
    | (go_at_call 122; refine (HST.out _ lv L HH.out).mono ?_; rintro _ w3 ⟨rfl, H3, H4⟩))
  go_end0
  refine ⟨rfl, lv, L, HPB.out, Hpd.congr HHH.out (fun a ha => HP.out a (fun e => HBN.out (e ▸ ha))), H3, (HK.out.trans (HK2.out.mono (G := Fc Q G) (fun i _ e => .inr (.inr (.inr (.inr (.inr ⟨b, hbB, .inl e⟩)))))) (fun _ _ h => h)).trans H4 (fun i hi e => ?_), fun i hi => ?_⟩
  · exact (HFC.out i (fc_bare e)).elim id (fun e => by omega)
  · exact HFC.out i (fc_bare (fc_set hi))
end
end Go.Proofs.YtnccklbnncaeoaaGreat
