/- A pile's Pop: slices.Delete of the last, and what comes back. -/
import Derived.Test.YthpocbpleffdpaaHt
import Derived.Shelf.SlGeneric
import Derived.Ground.SlgnProg
import Derived.Shelf.SlicesE.Delete
import Derived.Lib.OwnBridge
namespace Go.Proofs.Ythpocbpleffdpaa
open Go.RowKit Go.Shelf Go.Lib Go.Sort

shelf_lay_g SlLaysE.n45 Slgn 45 at Try 115 as Try.ldel

def adr (b : Nat) : Option Addr := some ⟨b, 0, none⟩
theorem map_adr (L : List Nat) : (L.map adr).map Value.pointer = L.map ptr := by rw [List.map_map]; rfl
theorem kp_putRow {α : Type} [Inhabited α] (enc : α → Value) (w : World) (g q : Nat) (d : Array α) : Kp (fun k => k = g) w (putRow enc (Sort.ahead w q) g 0 d) :=
  ⟨rfl, rfl, rfl, by simp [putRow, mapBlock, Sort.ahead], fun k _ hk => by simp [putRow, mapBlock, Sort.ahead, Array.getElem?_modify, show g ≠ k from fun e => hk e.symm]⟩

theorem Try.info116 : (Try.prog.info? 116).map (fun i => (i.zero, i.size, i.bytes)) = some (some (.pointer none), 1, 8) := by kernel_rfl
theorem delete_any (w : World) (base g cap b : Nat) (M : List Nat) (h : w.ownsRow base 116 1 (.slice (some ⟨g, 0, none⟩) (M.length + 1) cap) (M.length + 1) ((M ++ [b]).map ptr)) :
    Calls Try.prog 115 #[.slice (some ⟨g, 0, none⟩) (M.length + 1) cap, .int .i64 M.length, .int .i64 ((M.length : Int) + 1)] w fun e w' => e = .returned (.slice (some ⟨g, 0, none⟩) M.length cap) ∧ w'.ownsRow base 116 1 (.slice (some ⟨g, 0, none⟩) M.length cap) M.length (M.map ptr) ∧ Kp (fun k => k = g) w w' := by
  rw [← map_adr] at h
  obtain ⟨g', cap', e0, hb, hg, hn, hm, hl, hH⟩ := holds_of_ownsRow h (by simp)
  cases e0
  have hsz : ((M ++ [b]).map adr).toArray.size = M.length + 1 := by simp
  obtain ⟨i0, hi, _, hz1, _⟩ := info_parts Try.info116
  have hcon := AnyE.slices_Delete Try.ldel Value.pointer (fun _ => rfl) none (fun w => by kernel_rfl) i0 hi hz1 g 0 cap M.length (M.length + 1) ((M ++ [b]).map adr).toArray w hH (by rw [hsz]; exact hn) hm (by omega) (by rw [hsz]; omega)
  change Calls Try.prog 115 _ _ _ at hcon
  rw [hsz] at hcon
  refine Calls.mono hcon ?_
  rintro e w' ⟨rfl, q, rfl⟩
  have e1 : (M.length + 1 - (M.length + 1 - M.length)) = M.length := by omega
  have e2 : ((M ++ [b]).map adr).toArray.toList.take M.length ++ ((M ++ [b]).map adr).toArray.toList.drop (M.length + 1) ++ List.replicate (M.length + 1 - M.length) none = M.map adr ++ [none] := by
    rw [show M.length + 1 - M.length = 1 by omega]
    simp
  rw [e1, e2]
  have h2 := ownsRow_putRow (q := q) (k := M.length) (ys := M.map adr ++ [none]) h (by simp) (by omega)
  have e3 : List.take M.length (M.map adr ++ [none]) = M.map adr := by simp
  rw [e3, map_adr] at h2
  exact ⟨rfl, h2, kp_putRow _ _ _ _ _⟩

set_option maxHeartbeats 4000000 in
theorem pop_any (c : Nat → Nat) (w : World) (base B : Nat) (v fv : Value) (M : List Nat) (b : Nat) (h : Pil c w base B v fv (M ++ [b])) (hM : M.length < 4611686018427387904) :
    Calls Try.prog 112 #[ptr B] w fun e w' => e = .returned (.iface 116 (ptr b)) ∧ ∃ v', Pil c w' base B v' fv M ∧ v'.ownBlock = v.ownBlock ∧ Kp (fun k => k = B ∨ v.ownBlock = some k) w w' := by
  obtain ⟨g, cap, rfl, hb, hgl, hc1, hc2, hcells, hfr⟩ := h.row (by simp)
  have hl : (M ++ [b]).length = M.length + 1 := by simp
  rw [hl] at hc1 hcells h ⊢
  have hgn := h.ne g rfl
  have hst := h.st
  have h1 := h.st.cell 0
  have cb := hcells M.length (by omega)
  have fB := h.st.frozen 0
  rw [show (M ++ [b]).getD M.length 0 = b by simp] at cb
  simp at h1
  have HD := hid (delete_any w base g cap b M (by have := h.own; rw [hl] at this; exact this))
  unfold ptr at *
  go_enter Try.func112, Try.ntmps112
  go_wp2_with (first | (go_at_call 115; refine HD.out.mono ?_; rintro _ w2 ⟨rfl, O2, K2⟩; have S2 := hst.kp K2 (fun e => hgn.1 e.symm); have F2 := S2.frozen 0; have C2 := S2.cell 0; simp at C2))
  go_ret
  refine ⟨rfl, .slice (some ⟨g, 0, none⟩) M.length cap, ⟨by simpa using S2.set 0 _, ownsRow_setCell_other O2 (fun e => hgn.1 (by simpa [Value.ownBlock] using e)) _, fun x hx => ((h.tr x (by simp [hx])).kp K2 (fun e => hgn.2 (by simp [← e, hx]))).kp (kp_setCell w2 B 0 _ (fun k => k = B) rfl) (fun e => h.nb (by simp [← e, hx])), fun g' e => ?_, fun hm => h.nb (by simp [hm])⟩, rfl, ?_⟩
  · have e : g = g' := by simpa [Value.ownBlock] using e
    subst e
    exact ⟨hgn.1, fun hm => hgn.2 (by simp [hm])⟩
  · exact (K2.mono (G := fun k => k = B ∨ (Value.slice (some ⟨g, 0, none⟩) (M.length + 1) cap).ownBlock = some k) (fun i _ e => .inr (by rw [e]; rfl))).trans (kp_setCell w2 B 0 _ (fun k => k = B) rfl) (fun i _ e => .inl e)

/-- What heap.Pop gives: the least, and a heap of the others. -/
structure Popped (c : Nat → Nat) (w w' : World) (base B : Nat) (v f : Value) (L : List Nat) (b : Nat) : Prop where
  one : b ∈ L ∧ ∀ x ∈ L, c b ≤ c x
  rest : ∃ v' M, (b :: M).Perm L ∧ Pil c w' base B v' (fvo f) M ∧ Hx (kf c M) 0 M.length ∧ v'.ownBlock = v.ownBlock
  kp : Kp (fun k => k = B ∨ v.ownBlock = some k) w w'
theorem pop_parts {c : Nat → Nat} {L L2 : List Nat} {n : Nat} (hn : L.length = n + 1) (hx : Hx (kf c L) 0 L.length) (M2 : Mv n (lsw L 0 n) L2) : ∃ N b, L2 = N ++ [b] ∧ N.length = n ∧ Hid (b ∈ L ∧ (∀ x ∈ L, c b ≤ c x) ∧ (b :: N).Perm L) := by
  have hl : L2.length = n + 1 := (M2.len.trans (lsw_length L 0 n)).trans hn
  have hne : L2 ≠ [] := fun e => by rw [e] at hl; simp at hl
  have hp : L2.Perm L := M2.perm.trans (lsw_perm L 0 n (by omega) (by omega))
  have hb : L2.getD n 0 = L.getD 0 0 := by
    rw [M2.rest n (Nat.le_refl _), lsw_getD L 0 n (by omega) (by omega)]
    unfold sw
    by_cases h : n = 0
    · subst h; simp
    · simp [h]
  have e1 := List.dropLast_concat_getLast hne
  have e2 : L2.getLast hne = L.getD 0 0 := by
    rw [← hb, List.getLast_eq_getElem]
    simp [List.getD, hl]
  rw [e2] at e1
  refine ⟨L2.dropLast, L.getD 0 0, e1.symm, by simp [hl], by simp [List.getD, hn], fun x hxm => ?_, ?_⟩
  · obtain ⟨k, hk, rfl⟩ := List.mem_iff_getElem.1 hxm
    have := hx.least k hk
    rw [show L[k] = L.getD k 0 by simp [List.getD, hk]]
    exact this
  · refine List.Perm.trans ?_ hp
    refine List.Perm.trans (List.perm_append_singleton _ _).symm ?_
    rw [e1]
theorem kf_front (c : Nat → Nat) (N : List Nat) (b k : Nat) (hk : k < N.length) : kf c N k = kf c (N ++ [b]) k := by
  simp [kf, List.getD, List.getElem?_append_left hk]
set_option maxHeartbeats 4000000 in
set_option maxRecDepth 100000 in
theorem hpop_any (c : Nat → Nat) (w : World) (base B : Nat) (v f : Value) (L : List Nat) (h : Pil c w base B v (fvo f) L) (hx : Hx (kf c L) 0 L.length) (hL : L.length < 4611686018427387904) (h0 : 0 < L.length) :
    Calls Try.prog 89 #[.iface 112 (ptr B)] w fun e w' => ∃ b, e = .returned (.iface 116 (ptr b)) ∧ Popped c w w' base B v f L b := by
  have mN := find_len B
  have mS := find_swap B
  have mP := find_pop B
  obtain ⟨n, hn⟩ : ∃ n, L.length = n + 1 := ⟨L.length - 1, by omega⟩
  have HN : Hid (Calls Try.prog 73 #[ptr B] w fun e w' => e = .returned (.int .i64 ((n : Int) + 1)) ∧ w = w') := (len_any c w base B v (fvo f) L h).mono (fun _ _ h => ⟨by rw [h.1, hn]; rfl, h.2.symm⟩)
  have HS := swap_at c w base B v (fvo f) L h
  have HD : Hid (∀ W, Pil c W base B v (fvo f) (lsw L 0 n) → Calls Try.prog 92 #[.iface 112 (ptr B), .int .i64 0, .int .i64 n] W fun e w' => RB e ∧ ∃ L', Mv n (lsw L 0 n) L' ∧ Pil c w' base B v (fvo f) L' ∧ Hx (kf c L') 0 n ∧ Kp (fun k => v.ownBlock = some k) W w') := fun W hW =>
    down_any c W base B v f (lsw L 0 n) hW 0 0 n (by rw [lsw_length]; omega) (Nat.zero_le _) (by rw [lsw_length]; omega) (by rw [kf_lsw c L 0 n (by omega) (by omega)]; exact Hd.pop (by rw [← hn]; exact hx))
  go_enter Try.func89, Try.ntmps89
  go_wp2_with (first
    | (go_at_call 73; refine HN.out.mono ?_; rintro _ _ ⟨rfl, rfl⟩)
    | (go_at_call 114; refine (HS.out _ (Kp.refl _ _) _ _ 0 n (by omega) (by omega) (by omega) (by omega)).mono ?_; rintro _ w1 ⟨rfl, P1, K1⟩)
    | (go_at_call 92; refine (HD.out _ P1).mono ?_; rintro _ w2 ⟨⟨b0, rfl⟩, L2, M2, P2, X2, K2⟩; obtain ⟨N, b, rfl, hNl, HB⟩ := pop_parts hn hx M2; have HP := hid (pop_any c w2 base B v (fvo f) N b P2 (by omega)); have HX := hid X2; have HM := hid M2; have HK1 := hid K1; have HK2 := hid K2; clear X2 M2 K1 K2)
    | (go_at_call 112; refine HP.out.mono ?_; rintro _ w3 ⟨rfl, v3, P3, O3, K3⟩))
  go_ret
  refine ⟨b, rfl, ⟨HB.out.1, HB.out.2.1⟩, ⟨v3, N, HB.out.2.2, P3, ?_, O3⟩, ?_⟩
  · rw [hNl]
    exact HX.out.congr (fun k hk => kf_front c N b k (by omega))
  · exact ((HK1.out.trans HK2.out (fun _ _ h => h)).mono (G := fun k => k = B ∨ v.ownBlock = some k) (fun _ _ h => .inr h)).trans K3 (fun _ _ h => h)
end Go.Proofs.Ythpocbpleffdpaa
