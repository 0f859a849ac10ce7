/- regions: begins, without. -/
import Derived.Test.YtopnfjgkgoeleaaPu
namespace Go.Proofs.Ytopnfjgkgoeleaa
open Go.RowKit
set_option linter.unusedVariables false
set_option linter.unusedSimpArgs false
/-- Does one begin there? -/
def bgn (L : List Rn) (p : Int) : Bool := decide (bey L p < L.length) && ((L.getD (bey L p) zRn).a == p)
set_option maxRecDepth 100000 in
set_option maxHeartbeats 4000000 in
theorem begins_any (L : List Rn) (ao : Option Addr) (n c : Nat) (p : Int) (w : World) (hn : n = L.length) (hc : n ≤ c) (hn2 : n ≤ 65536) (hS : Srcr w ao L) (hL : Srt L) :
    Calls Try.prog 52 #[.slice ao n c, .int .i64 p] w fun e w' => e = .returned (.tuple #[.int .i64 ((bey L p : Nat) : Int), .bool (bgn L p)]) ∧ Below w.heap.size w w' := by
  have HN := hid hn
  have HS := hid hS
  have HL := hid hL
  clear hn hS hL
  have HBY : Hid (Calls Try.prog 59 #[.slice ao n c, .int .i64 p] w fun e w' => e = .returned (.int .i64 ((bey L p : Nat) : Int)) ∧ Below w.heap.size w w') := beyond_any L ao n c p w HN.out hc (by omega) HS.out HL.out
  have hbn : bey L p ≤ n := by have := bey_le L p; have := HN.out; omega
  have HBG : Hid (bgn L p = (decide (bey L p < n) && ((L.getD (bey L p) zRn).a == p))) := by rw [HN.out]; rfl
  generalize bey L p = b at *
  by_cases hlt : b < n
  · have HX : Hid (bgn L p = ((L.getD b zRn).a == p)) := by show _ = _; rw [HBG.out]; simp [hlt]
    go_enter Try.func52, Try.ntmps52
    go_wp2_with (first | (go_at_call 59; refine HBY.out.mono ?_; rintro e w1 ⟨rfl, b1⟩))
    obtain ⟨gb, off, rfl, hgb, x0, x1, x2⟩ := (HS.out.below b1).at (i := b) (by have := HN.out; omega)
    have B1 := hid b1
    clear b1
    generalize (L.getD b zRn).a = ya at *
    go_quiet (fail)
    go_wp2_with fail
    go_ret2
    exact ⟨by rw [HX.out]; rfl, B1.out.trans ((drewN_kp (fun _ => False) w1 _).below B1.out.size (fun _ x => x.elim))⟩
  · have HX : Hid (bgn L p = false) := by show _ = _; rw [HBG.out]; simp [hlt]
    have hin : decide (b < n) = false := by simp; omega
    have hin2 : decide ((b : Int) < (n : Int)) = false := by simp; omega
    go_enter Try.func52, Try.ntmps52
    go_wp2_with (first | (go_at_call 59; refine HBY.out.mono ?_; rintro e w1 ⟨rfl, b1⟩))
    have B1 := hid b1
    clear b1
    go_quiet (fail)
    go_wp2_with fail
    go_ret2
    exact ⟨by rw [HX.out]; rfl, B1.out.trans ((drewN_kp (fun _ => False) w1 _).below B1.out.size (fun _ x => x.elim))⟩
theorem step_append_run {P : Program} {ops : Array Oper} {o : Oper} {a : Act} {w : World} {K : Act → World → Prop} {Q : Exit → Act → World → Prop} {E : Prop}
    (hg : o.guard = none) (s x : Operand) (t tn : TypeId) (hop : o.op = Op.call { callee := Callee.builtin Builtin.append, args := #[s, x], argTypes := #[t, tn] })
    (vs vx : Value) (hs : a.eval s = vs) (hx : a.eval x = vx) {v' : Value} {w' : World} (hr : (Builtin.append_ #[t, tn] o.type #[vs, vx]).run P w = .ok v' w') (hK : K (a.put o.dst v') w') :
    if Region.wanted o (yielded ops a.tmps) = true then Oper.wp P o a w K Q else E := by
  have hw : Region.wanted o (yielded ops a.tmps) = true := by simp [Region.wanted, hg]
  rw [if_pos hw]
  unfold Oper.wp
  simp [execOp, hop, resolve, invoke, builtin, hs, hx, hr, Result.andThen]
  exact hK
theorem enter31 (args : Array Value) (w : World) : (callFunc 31 args).run Try.prog w = .ok (.enter 31 args) w := by go_simp
/-- A call that leaves the world as it is, as one step. -/
theorem step_call2 {P : Program} {ops : Array Oper} {o : Oper} {a : Act} {w : World} {K : Act → World → Prop} {Q : Exit → Act → World → Prop} {E : Prop} (f : Nat)
    (hg : o.guard = none) (x y : Operand) (ts : Array TypeId) (hop : o.op = Op.call { callee := Callee.value (.func f), args := #[x, y], argTypes := ts })
    (vx vy v : Value) (hx : a.eval x = vx) (hy : a.eval y = vy) (eg : ∀ args w, (callFunc f args).run P w = .ok (.enter f args) w) (hc : Calls P f #[vx, vy] w fun e w' => e = .returned v ∧ w = w') (hK : K (a.put o.dst v) w) :
    if Region.wanted o (yielded ops a.tmps) = true then Oper.wp P o a w K Q else E := by
  have hw : Region.wanted o (yielded ops a.tmps) = true := by simp [Region.wanted, hg]
  rw [if_pos hw]
  unfold Oper.wp
  have he : (execOp a.eval o).run P w = .ok (.enter f #[vx, vy]) w := by
    have hf : a.eval (.func f) = .func (.func f) #[] #[] := rfl
    unfold execOp
    simp only [hop, resolve, hf, List.map_toArray, List.map_cons, List.map_nil, hx, hy]
    simp [invoke, go_sem, eg]
  rw [he]
  refine hc.mono ?_
  rintro e w' ⟨rfl, rfl⟩
  exact hK
/-- append of nothing. -/
theorem app_none (ad : Addr) (bo : Option Addr) (n cb ty : Nat) (w : World) : (Builtin.append_ #[73, 73] ty #[.slice (some ad) n n, .slice bo 0 cb]).run Try.prog w = .ok (.slice (some ad) n n) w := by
  obtain ⟨i0, hi0, hz0, hz1, hz2⟩ := info_parts Try.inf46
  have hl : ∀ (x : Addr), (loadCells x 0).run Try.prog w = .ok #[] w := fun x => by simpa using run_loadCells_list (P := Try.prog) w x [] (by simp)
  cases bo <;> simp [Builtin.append_, run_underlying Try.underlying73, sizeOf, typeInfo, hi0, Builtin.lenOf, Builtin.firstCells, storeCells, hl]
def wo (L : List Rn) (i : Nat) : List Rn := L.take i ++ L.drop (i + 1)
theorem wo_len {L : List Rn} {i : Nat} (h : i < L.length) : (wo L i).length = L.length - 1 := by simp [wo]; omega
theorem wo_srt {L : List Rn} (h : Srt L) (i : Nat) : Srt (wo L i) := by
  refine h.sub ?_
  unfold wo
  conv => rhs; rw [← List.take_append_drop i L]
  refine List.Sublist.append (List.Sublist.refl _) ?_
  rw [← List.drop_drop]
  exact List.drop_sublist 1 _
/-- What without leaves. -/
def WoR (L : List Rn) (i : Nat) (ao : Option Addr) (c : Nat) (w : World) (e : Ending) (w' : World) : Prop :=
  ∃ ao' c', e = .returned (.slice ao' (L.length - 1) c') ∧ Lst w' ao' c' (wo L i) ∧ Kp (fun _ => False) w w' ∧ Fro ao L.length c ao' (L.length - 1) c' w.heap.size
set_option maxRecDepth 100000 in
set_option maxHeartbeats 4000000 in
theorem without_any (L : List Rn) (ao : Option Addr) (n c i : Nat) (w : World) (hn : n = L.length) (hL : Lst w ao c L) (hl : L.length ≤ 65536) (hi : i < n) : Calls Try.prog 53 #[.slice ao n c, .int .i64 (i : Int)] w (WoR L i ao c w) := by
  obtain ⟨b, off, rfl, hb, hc⟩ := hL.1 (by omega)
  have hc1 := hL.2.1
  have hc2 := hL.2.2.1
  unfold maxLen at hc2
  have HCU : Hid (∀ W, Calls Try.prog 31 #[.slice (some ⟨b, off, none⟩) n c, .int .i64 (i : Int)] W fun e w' => (e = .returned (.slice (some ⟨b, off, none⟩) i i)) ∧ W = w') := fun W => cut_any _ n c i W (by omega) (by omega) hc2 (fun e => by cases e)
  have hti : (L.take i).length = i := by rw [List.length_take]; omega
  have hw1 : IntKind.i64.wrap ((i : Int) + 1) = ((i + 1 : Nat) : Int) := by rw [IntKind.wrap_i64]; omega
  have hz1 : (0 : Int) ≤ (i : Int) + 1 := by omega
  by_cases hlast : i + 1 = n
  · have HF : Hid (∀ W, Kp (fun _ => False) w W → WoR L i (some ⟨b, off, none⟩) c w (.returned (.slice (some ⟨b, off, none⟩) i i)) W) := fun W hk => by
      refine ⟨_, i, by rw [← hn, ← hlast]; rfl, ?_, hk, ?_⟩
      · have : wo L i = L.take i := by unfold wo; rw [List.drop_eq_nil_of_le (by omega), List.append_nil]
        rw [this]
        exact (hL.cut i (by omega)).kp hk (fun _ _ _ _ x => x)
      · rw [← hn, show n - 1 = i by omega]; exact Fro.cut _ _ _ _ _ (by have := hL.2.1; omega)
    have hap : ∀ (ty : Nat) (bo : Option Addr) (cb : Nat), (Builtin.append_ #[73, 73] ty #[.slice (some ⟨b, off, none⟩) i i, .slice bo 0 cb]).run Try.prog w.drew = .ok (.slice (some ⟨b, off, none⟩) i i) w.drew := fun ty bo cb => app_none ⟨b, off, none⟩ bo i cb ty w.drew
    have hz2 : i + 1 - (i + 1) = 0 := by omega
    have hkd : Hid (Kp (fun _ => False) w w.drew) := (Kp.refl _ _).drew
    subst hlast
    by_cases hcb : c = i + 1
    · subst hcb
      clear hn hL hl hc hti hb hc1 hc2
      go_enter Try.func53, Try.ntmps53
      go_wp2_with fail
      go_region_law (first | (refine step_append_run rfl _ _ 73 73 rfl _ _ (by simp [Act.eval, Act.put]) (by simp [Act.eval, Act.put]) (hap _ _ _) ?_) | (refine step_call2 31 rfl _ _ _ rfl _ _ _ (by simp [Act.eval, Act.put]) (by simp [Act.eval, Act.put]) enter31 (HCU.out _) ?_))
      go_wp2_with fail
      go_ret
      exact HF.out _ hkd.out
    · clear hn hL hl hc hti hb
      go_enter Try.func53, Try.ntmps53
      go_wp2_with fail
      go_region_law (first | (refine step_append_run rfl _ _ 73 73 rfl _ _ (by simp [Act.eval, Act.put]) (by simp [Act.eval, Act.put]) (hap _ _ _) ?_) | (refine step_call2 31 rfl _ _ _ rfl _ _ _ (by simp [Act.eval, Act.put]) (by simp [Act.eval, Act.put]) enter31 (HCU.out _) ?_))
      go_wp2_with fail
      go_ret
      exact HF.out _ hkd.out
  · have hcl := hL.cut i (by omega)
    have hdl : (L.drop (i + 1)).length = n - (i + 1) := by rw [List.length_drop, hn]
    have hsd : Srcr w.drew (some ⟨b, off + (i + 1) * 3, none⟩) (L.drop (i + 1)) := hL.1.drop (i + 1) (by omega)
    have hcd : Lst w.drew (some ⟨b, off, none⟩) i (L.take i) := hcl.kp (F := fun _ => False) (Kp.refl _ _).drew (fun _ _ _ _ x => x)
    obtain ⟨g, c', w', hr, h1, h2, h3⟩ := app_run (t2 := 73) (ty := 73) Try.underlying73 (L.take i) (L.drop (i + 1)) (some ⟨b, off, none⟩) (some ⟨b, off + (i + 1) * 3, none⟩) i (c - (i + 1)) w.drew hcd hsd (by rw [hti, hdl]; omega) (by omega)
    rw [hti, hdl] at hr
    have hsum : i + (n - (i + 1)) = n - 1 := by omega
    rw [hsum] at hr
    have hF : Hid (WoR L i (some ⟨b, off, none⟩) c w (.returned (.slice (some ⟨g, 0, none⟩) (n - 1) c')) w') := by
      refine ⟨_, c', by rw [hn], h1, ?_, ?_⟩
      · refine ((Kp.refl (fun _ => False) w).drew).trans h2 (fun k _ hk => ?_)
        rw [hti] at hk
        exact absurd hk.1 (by omega)
      · rw [hti] at h3
        rcases h3 with h3 | h3
        · exact absurd h3.1 (by omega)
        · intro k o e
          cases e
          exact Or.inl h3
    have hci : ¬ (c = i + 1) := by omega
    have hz3 : i + 1 ≤ n := by omega
    have hz4 : (i : Int) + 1 ≤ (n : Int) := by omega
    clear hn hL hl hc hti hb h1 h2 h3 hcl hdl hsd hcd
    go_enter Try.func53, Try.ntmps53
    go_wp2_with fail
    go_region_law (first | (refine step_append_run rfl _ _ 73 73 rfl _ _ (by simp [Act.eval, Act.put]) (by simp [Act.eval, Act.put]) hr ?_) | (refine step_call2 31 rfl _ _ _ rfl _ _ _ (by simp [Act.eval, Act.put]) (by simp [Act.eval, Act.put]) enter31 (HCU.out _) ?_))
    go_wp2_with fail
    go_ret
    exact hF.out
end Go.Proofs.Ytopnfjgkgoeleaa
