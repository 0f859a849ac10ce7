/- later: within. -/
import Derived.Test.YtgfondgejimkkaaSh
namespace Go.Proofs.Ytgfondgejimkkaa
open Go.RowKit
set_option linter.unusedVariables false
set_option linter.unusedSimpArgs false
/-- A row of pointers of one's own. -/
def Ownp (w : World) (base : Nat) (v : Value) (D : List Nat) : Prop := w.ownsRow base 74 1 v D.length (D.map ptr)
theorem Ownp.nil (w : World) (base : Nat) : Ownp w base (.slice none 0 0) [] := World.ownsRow_nil w base 74 1
theorem Ownp.kp {F : Nat → Prop} {w w' : World} {base : Nat} {v : Value} {D : List Nat} (h : Ownp w base v D) (k : Kp F w w') (hg : ∀ g, v.ownBlock = some g → ¬ F g) : Ownp w' base v D := own_kp h k hg
theorem Ownp.src {w : World} {base : Nat} {v : Value} {D : List Nat} (h : Ownp w base v D) : ∃ ao cap, v = .slice ao D.length cap ∧ Srcp w ao D ∧ D.length ≤ cap ∧ cap ≤ maxLen ∧ (ao = none → cap = 0) ∧ (∀ b off, ao = some ⟨b, off, none⟩ → base ≤ b ∧ off = 0 ∧ v.ownBlock = some b) := by
  rcases h.2 with ⟨rfl, h0⟩ | ⟨g, cap, cur, rfl, hb, hc, h1, h2, h3, h4⟩
  · rw [h0]
    exact ⟨none, 0, rfl, fun hp => by omega, Nat.zero_le _, by unfold maxLen; omega, fun _ => rfl, fun b off e => by cases e⟩
  · refine ⟨some ⟨g, 0, none⟩, cap, rfl, fun hp => ⟨g, 0, rfl, (Array.getElem?_eq_some_iff.1 hc).1, fun j hj => ?_⟩, h1, h2, fun e => (by cases e), fun b off e => by cases e; exact ⟨hb, rfl, rfl⟩⟩
    have := h.cells (g := g) rfl j (ptr (D.getD j 0)) (by simp [List.getD, hj])
    rw [add_z] at this
    rw [Nat.zero_add]
    exact this
theorem Ownp.blk {w : World} {base g : Nat} {v : Value} {D : List Nat} (h : Ownp w base v D) (e : v.ownBlock = some g) : base ≤ g := by
  obtain ⟨cur, _, hb⟩ := ownb h e
  exact hb
/-- append of one pointer. -/
theorem wpList_append_p1 {w : World} {ops : Array Oper} {rest : List Oper} {o : Oper} {a : Act} {Q : Exit → Act → World → Prop} (hgd : o.guard = none) (s x : Operand) (ho : o.op = .call { callee := .builtin .append, args := #[s, x], argTypes := #[66, 66] }) (base : Nat) (v : Value) (D : List Nat) (b g : Nat) (hs : a.eval s = v) (hown : Ownp w base v D) (hx : a.eval x = .slice (some ⟨g, 0, none⟩) 1 1) (hb : St 74 w g #[ptr b]) (hlen : D.length < 1000000) (hbase : base ≤ w.heap.size)
    (h : ∀ v' w', Ownp w' base v' (D ++ [b]) → Kp (fun i => v.ownBlock = some i) w w' → (v'.ownBlock = v.ownBlock ∨ v'.ownBlock = some w.heap.size) → wpList Try.prog ops Q rest (a.put o.dst v') w') : wpList Try.prog ops Q (o :: rest) a w := by
  refine wpList_append_any hgd s x 66 ho base 74 (.pointer none) 1 8 Try.underlying66 Try.info74 rfl (by decide) v D.length (D.map ptr) hs hown (some ⟨g, 0, none⟩) 1 1 [ptr b] hx (fun e => by cases e) rfl (fun ad e j u hu => ?_) (fun u hu => by simp at hu; subst hu; rfl) (by unfold maxLen; omega) (by omega) hbase (fun v' w' h1 h2 h3 => h v' w' ?_ h2 h3)
  · cases e
    rw [add_z]
    exact (hb.cell j).trans (by simpa using hu)
  · unfold Ownp
    simpa using h1
set_option maxRecDepth 100000 in
set_option maxHeartbeats 8000000 in
theorem within_any (c : Nat → Rn) (w : World) (Q B mb me : Nat) (v : Value) (L : List Nat) (h : Lc c w Q B mb me v L) (ao : Option Addr) (n cap : Nat) (l : List Rn) (hl : l.length = n) (hn : n ≤ 1000000) (hcan : Can l) (hs : Srcr w ao l) :
    Calls Try.prog 45 #[ptr Q, .slice ao n cap] w fun e w' => ∃ v', e = .returned v' ∧ Ownp w' w.heap.size v' (L.filter (fun b => shr l (c b))) ∧ Kp (fun _ => False) w w' := by
  have c0 : w.cell? ⟨Q, 0, none⟩ = some (.pointer (some ⟨B, 0, none⟩)) := h.st.cell 0
  obtain ⟨lo, lcap, hv, _⟩ := h.ln.len
  have d0 : w.cell? ⟨B, 0, none⟩ = some (.slice lo L.length lcap) := by rw [← hv]; exact h.ln.st.cell 0
  have hL := h.len
  have HH := hid h
  have HSH : Hid (∀ U x, Kp (fun _ => False) w U → Mayr x → Calls Try.prog 61 #[.slice ao n cap, .agg x.cs] U fun e w' => e = .returned (.bool (shr l x)) ∧ Below U.heap.size U w') := fun U x hU hx => shares_any U ao n cap l x hl hn hcan hx (hs.kp hU (fun _ _ _ _ h => h))
  have HV := hid hv
  obtain ⟨N, hN⟩ : ∃ N, N = L.length := ⟨_, rfl⟩
  rw [← hN] at d0 hL
  have HN := hid hN
  clear h hs hcan hl hv hN
  unfold ptr
  go_enter Try.func45, Try.ntmps45
  go_wp2_with fail
  clear c0 d0
  go_loopw [5, 16] (fun o i wr => ∃ k : Nat, i = .int .i64 (k : Int) ∧ k ≤ N ∧ Hid (Ownp wr w.heap.size o ((L.take k).filter (fun b => shr l (c b)))) ∧ Hid (Kp (fun _ => False) w wr)) (fun _ i _ => N - (intOf i).toNat)
  case atStart => exact ⟨0, rfl, Nat.zero_le _, Ownp.nil _ _, Kp.refl _ _⟩
  case round =>
    obtain ⟨k, rfl, hk, HO, HK⟩ := hrel
    by_cases hlt : k < N
    · have hkL : k < L.length := by have := HN.out; omega
      have HLW := hid (HH.out.kp0 HK.out)
      obtain ⟨g, cp, hv2, _, _, _, _, hcells, _⟩ := HLW.out.ln.row (by omega)
      rw [HV.out] at hv2
      cases hv2
      have x0 := hcells k hkL
      have hwt := HLW.out.ln.tr k hkL
      have hmx := HH.out.ln.may _ (gn_mem hkL)
      have HTK := hid (take_snoc' hkL)
      generalize L.getD k 0 = b at *
      unfold ptr at x0
      have y0 : wr.cell? ⟨b, 0, none⟩ = some (.int .i64 (c b).a) := St.cell hwt 0
      have y1 : wr.cell? ⟨b, 1, none⟩ = some (.int .i64 (c b).n) := St.cell hwt 1
      have HCS : Hid (Calls Try.prog 61 #[.slice ao n cap, .agg #[.int .i64 (c b).a, .int .i64 (c b).n]] wr fun e w' => e = .returned (.bool (shr l (c b))) ∧ Below wr.heap.size wr w') := HSH.out wr (c b) HK.out hmx
      have HLN : Hid (((L.take k).filter (fun b => shr l (c b))).length ≤ 4096) := by
        show _ ≤ _
        have := List.length_filter_le (fun b => shr l (c b)) (L.take k)
        simp at this
        omega
      have hnx : (L.take (k + 1)).filter (fun b => shr l (c b)) = (L.take k).filter (fun b => shr l (c b)) ++ (if shr l (c b) = true then [b] else []) := by
        rw [HTK.out, List.filter_append]
        congr 1
        by_cases hb : shr l (c b) = true
        · simp [List.filter, hb]
        · simp [List.filter, hb]
      have hrn : L.length = N := HN.out.symm
      try rw [hrn]
      cases hsb : shr l (c b) with
      | true =>
        rw [hsb, if_pos rfl] at hnx
        rw [hsb] at HCS
        have HNX := hid hnx
        clear hcells hwt hmx hnx hsb hrn
        go_wp2_with (first | (go_at_call 61; refine HCS.out.mono ?_; rintro e w2 ⟨rfl, b2⟩; have K2 : Hid (Kp (fun _ => False) wr w2) := Kp.of_below b2; clear b2 x0 y0 y1) | (at_builtin; refine wpList_append_p1 rfl _ _ rfl w.heap.size u5 _ b w2.heap.size rfl ((HO.out.kp K2.out (fun _ _ h => h)).kp ((Kp.refl (fun _ => False) _).alloc _) (fun _ _ h => h)) rfl (St.new 74 w2 #[ptr b]) (by have := HLN.out; omega) (by rw [World.size_alloc]; have := HK.out.size; have := K2.out.size; omega) ?_; intro v3 w3 o3 k3 _; have O3 := hid o3; have K3 : Hid (Kp (fun _ => False) w w3) := (((HK.out.trans K2.out (fun _ _ h => h)).alloc _)).trans k3 (fun i hi e => by have := HO.out.blk e; omega); clear o3 k3))
        go_roundw
        case rel => exact ⟨k + 1, by go_num, hlt, by rw [HNX.out]; exact O3, K3⟩
        case measure => simp [intOf]; omega
      | false =>
        rw [hsb, if_neg (by simp), List.append_nil] at hnx
        rw [hsb] at HCS
        have HNX := hid hnx
        clear hcells hwt hmx hnx hsb hrn
        go_wp2_with (first | (go_at_call 61; refine HCS.out.mono ?_; rintro e w2 ⟨rfl, b2⟩; have K2 : Hid (Kp (fun _ => False) wr w2) := Kp.of_below b2; clear b2 x0 y0 y1))
        go_roundw
        case rel => exact ⟨k + 1, by go_num, hlt, by rw [HNX.out]; exact HO.out.kp K2.out (fun _ _ h => h), HK.out.trans K2.out (fun _ _ h => h)⟩
        case measure => simp [intOf]; omega
    · obtain rfl : k = N := by omega
      rw [List.take_of_length_le (by have := HN.out; omega)] at HO
      go_wp2_with fail
      go_ret
      exact ⟨_, rfl, HO.out, HK.out⟩
end Go.Proofs.Ytgfondgejimkkaa
