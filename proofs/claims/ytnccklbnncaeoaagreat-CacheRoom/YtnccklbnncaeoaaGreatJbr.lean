import Derived.Test.YtnccklbnncaeoaaGreatJbq
import Derived.Laws.StructEq
/- The statements' works: the walk. -/
namespace Go.Proofs.YtnccklbnncaeoaaGreat
open Go.RowKit
set_option linter.unusedVariables false
set_option linter.unusedSimpArgs false
/-- All that a cache and its store change is newer than w0. -/
structure Lo (w0 : World) (Q : Nat) (G : Gc) (F : Nat → Prop) (w : World) : Prop where
  fc : ∀ i, Fc Q G i → w0.heap.size ≤ i
  ff : ∀ i, F i → w0.heap.size ≤ i
  kp : Kp (fun _ => False) w0 w
theorem Lo.ch {w0 : World} {Q : Nat} {G G' : Gc} {F F' : Nat → Prop} {w w' : World} (h : Lo w0 Q G F w) (c : Cch Q G G' F F' w w') : Lo w0 Q G' F' w' :=
  ⟨fun i hi => (c.fc i hi).elim (h.fc i) (fun e => Nat.le_trans h.kp.size e), fun i hi => (c.ff i hi).elim (h.ff i) (fun e => Nat.le_trans h.kp.size e),
   h.kp.trans c.kp (fun i hi e => by
     rcases e with e | e
     · have := h.fc i e; omega
     · have := h.ff i e; omega)⟩
theorem Lo.kp0 {w0 : World} {Q : Nat} {G : Gc} {F : Nat → Prop} {w w' : World} (h : Lo w0 Q G F w) (k : Kp (fun _ => False) w w') : Lo w0 Q G F w' := ⟨h.fc, h.ff, h.kp.trans k (fun _ _ e => e)⟩
theorem Lo.new {w0 w1 : World} {S : ByteArray} {g bits room : Nat} {F : Nat → Prop} (hF : ∀ i, F i → w0.heap.size ≤ i) (k : Kp (fun _ => False) w0 w1) : Lo w0 (w1.heap.size + 2) (g0 w1.heap.size) F (wCache w1 S g bits room) := by
  refine ⟨fun i hi => ?_, hF, k.trans (cache_kp w1 S g bits room) (fun _ _ e => e)⟩
  have := k.size
  rcases cache_fc hi with e | e | e <;> omega
theorem eqlFun (f : Fn) (a b : Array Value) (w : World) : (binOp .eql 76 (.func f a b) .nilFunc).run Tryz.prog w = .ok (.bool false) w := by kernel_rfl
theorem src1 (w : World) (x : Int) : Src .u8 (w.alloc (.cells #[.int .u8 x] 5)) (some ⟨w.heap.size, 0, none⟩) [x] := Src.mk (fun j hj => by
  have h1 := (St.new 5 w #[.int .u8 x]).cell j
  have hj0 : j = 0 := by simpa using hj
  subst hj0
  rw [Nat.zero_add, h1]
  simp)
/-- A page that nothing is known of is written, one byte. -/
theorem cw1 {S : ByteArray} {g bits room Q N : Nat} {G : Gc} {q : Gf} {F : Nat → Prop} {w : World} (h : Cv S g bits room Q N G q [] F w) (k : Nat) (x : Int) (hk : k < 268435456 / 2 ^ bits) (ht : G.t < 1000000000000) (hN : N + mu G + 2 ≤ 9000) (hg : nget G.c G.K k = none) (hr : G.L.length < room) :
    Calls Tryz.prog 22 #[ptr Q, .int .i64 k, .int .i64 0, .slice (some ⟨w.heap.size, 0, none⟩) 1 1] (w.alloc (.cells #[.int .u8 x] 5)) fun e w' => e = .returned (.int .i64 0) ∧ ∃ G' F' b, Cv S g bits room Q N G' q [] F' w' ∧ Cch Q G G' F F' w w' ∧ WNew bits k G q b [x] G' := by
  have ka : Kp (fun _ => False) w (w.alloc (.cells #[.int .u8 x] 5)) := (Kp.refl _ _).alloc _
  have hp := Nat.two_pow_pos bits
  refine (cw_new (h.kp0 ka) k [x] (some ⟨w.heap.size, 0, none⟩) 1 1 rfl (by simp) (by show 1 ≤ 2 ^ bits; omega) hk (src1 w x) (fun r off e => ?_) ht hN hg hr).mono ?_
  · cases e
    exact ⟨fun hx => by have := h.cm.lt hx; omega, fun hx => by have := h.sw.lt hx; omega⟩
  · rintro e w' ⟨rfl, G', F', b, hv, hc, hw⟩
    exact ⟨rfl, G', F', b, hv, Cch.pre ka hc, hw⟩
set_option maxHeartbeats 16000000 in
set_option maxRecDepth 100000 in
theorem works_any (w : World) : Calls Tryz.prog 10 #[] w fun e w' => e = .returned (.bool true) ∧ Kp (fun _ => False) w w' := by
  have HF : Hid (Calls Tryz.prog 11 #[.int .i64 4096, .slice none 0 0] w fun e w' => ∃ g F, e = .returned (ptr g) ∧ Sw nmf g 2 F ⟨4096, zero, []⟩ [] w' ∧ (∀ i, F i → w.heap.size ≤ i) ∧ Kp (fun _ => False) w w') := file_nil 4096 (by omega) w
  have HNU := hid num_any
  go_enter Tryz.func10, Tryz.ntmps10
  go_wp2_with fail
  refine HF.out.mono ?_
  rintro _ w1 ⟨g, F, rfl, hs, hF0, kF0⟩
  have hlo := Lo.new (S := nmf) (g := g) (bits := 9) (room := 2) hF0 kF0
  have hv2 := cache_cv (bits := 9) (room := 2) hs (by omega) (by omega)
  have HNEW : Hid (Calls Tryz.prog 15 #[ptr g, .string nmf, .int .i64 9, .int .i64 2] w1 fun e w' => e = .returned (.tuple #[ptr (w1.heap.size + 2), .int .i64 0]) ∧ w' = wCache w1 nmf g 9 2) := new_good (bits := 9) (room := 2) hs (by omega) (by omega)
  obtain ⟨Q, hQ⟩ : ∃ Q, w1.heap.size + 2 = Q := ⟨_, rfl⟩
  obtain ⟨m, hm⟩ : ∃ m, w1.heap.size = m := ⟨_, rfl⟩
  rw [hQ, hm] at hv2 hlo
  rw [hQ] at HNEW
  have HV2 := hid hv2
  have HLO := hid hlo
  clear hs hv2 HF hm hF0 kF0 hlo
  unfold ptr at *
  go_wp2_with fail
  refine HNEW.out.mono ?_
  rintro _ w2 ⟨rfl, hw2⟩
  rw [← hw2] at HV2 HLO
  have HPG := hid (pages_any HV2.out)
  clear HNEW hw2
  unfold ptr at *
  go_wp2_with (first
    | (go_at_call 17; refine (HNU.out _ _).mono ?_; rintro e w' ⟨rfl, h⟩; replace h := h.symm; subst h))
  refine HPG.out.mono ?_
  rintro _ w3 ⟨k3, t, v, rfl, -, -, -⟩
  have HV3 := hid (HV2.out.kp0 k3)
  replace HLO := hid (HLO.out.kp0 k3)
  have hef := eqlFun (.func 131) #[] #[.pointer (some ⟨t, 0, none⟩)] w3
  clear HPG HV2 k3
  have HW1 := hid (cw1 HV3.out 0 1 (by decide) (by show 0 < _; decide) (by have := mu_len (g0 m); have e : (g0 m).L.length = 0 := rfl; omega) rfl (by show 0 < 2; decide))
  unfold ptr at *
  go_wp2_with fail
  refine HW1.out.mono ?_
  rintro _ w4 ⟨rfl, G1, F1, b0, hv4, hc4, h1⟩
  replace HLO := hid (HLO.out.ch hc4)
  clear hc4
  have HV4 := hid hv4
  have H1 := hid h1
  have HW2 := hid (cw1 hv4 1 2 (by decide) (by rw [h1.t]; show 0 + 1 < _; decide) (by have := mu_len G1; have := h1.len; have e : (g0 m).L.length = 0 := rfl; omega) (h1.ng (fun a ha => by cases ha) rfl (by decide)) (by have := h1.len; have e : (g0 m).L.length = 0 := rfl; omega))
  clear HW1 HV3 hv4 h1 hef
  unfold ptr at *
  go_wp2_with fail
  refine HW2.out.mono ?_
  rintro _ w5 ⟨rfl, G2, F2, b1, hv5, hc5, h2⟩
  replace HLO := hid (HLO.out.ch hc5)
  clear hc5
  have h2W := two_of hv5 H1.out h2
  have HTW := hid h2W
  have HV5 := hid hv5
  have HA1 := hid (after_any hv5 0 1)
  clear HW2 HV4 H1 h2 hv5
  unfold ptr at *
  go_wp2_with fail
  refine HA1.out.mono ?_
  intro e w6 ha
  obtain ⟨rfl, hv6, hc6⟩ := two_after1 HTW.out ha
  replace HLO := hid (HLO.out.ch hc6)
  clear hc6
  have HV6 := hid hv6
  have HA2 := hid (after_any hv6 1 0)
  clear HA1 hv6 ha
  unfold ptr at *
  go_wp2_with fail
  refine HA2.out.mono ?_
  intro e w7 ha
  obtain ⟨rfl, k7⟩ := two_after2 HTW.out ha
  have HV7 := hid (HV6.out.kp0 k7)
  replace HLO := hid (HLO.out.kp0 k7)
  have HB := hid (back_any HV7.out 0 (by rw [HTW.out.mu.2]; omega))
  clear HA2 HV6 k7 ha
  unfold ptr at *
  go_wp2_with fail
  refine HB.out.mono ?_
  intro e w8 hb
  unfold BaP at hb
  rw [if_pos (by decide)] at hb
  rw [show ((0 : Int).toNat) = 0 from rfl, HTW.out.kg] at hb
  obtain ⟨z, k, G4, q4, ft4, F4, rfl, hv8, hc8, ho, hmu, hd⟩ := hb
  replace HLO := hid (HLO.out.ch hc8)
  clear hc8
  obtain ⟨rfl, hrc, hf4⟩ := ho.ftn rfl
  change ft4 = [] at hf4
  subst hf4
  obtain ⟨c1, c2, c3, c4, hct, hsz⟩ := two_back HTW.out hrc HV7.out.cm.ln.nodup (fun a ha b hb => HV7.out.cm.ks.nin a (HV7.out.iv.ll a ha) b (HV7.out.iv.ll b hb)) (fun b hb i zs e => HV7.out.yl b (HV7.out.cm.lb b hb) i zs e) (fun i _ => rfl) (by simpa using hmu) (hd rfl b0 (by simp))
  have hlen : (rdz q4 512 1).length = 1 := by
    unfold rdz
    change 4096 ≤ q4.sz at hsz
    simp
    omega
  have hval : rdz q4 512 1 = [2] := by
    unfold rdz
    change 4096 ≤ q4.sz at hsz
    rw [show min 1 (q4.sz - 512) = 1 by omega]
    show [ovs q4.L q4.ps (512 + 0)] = [2]
    change ovs q4.L q4.ps 512 = 2 at hct
    rw [hct]
  have HV8 := hid hv8
  have HR : Hid (Calls Tryz.prog 31 #[ptr g, .string nmf, .int .i64 512, .int .i64 1] w8 (RdW w8 q4 512 1)) := read_w hv8.sw 512 1
  have HSZ : Hid (¬ q4.sz < 512) := by change 4096 ≤ q4.sz at hsz; show ¬ _; omega
  have HVAL := hid hval
  have HC1 := hid c1
  have HC2 := hid c2
  have HC3 := hid c3
  have HC4 := hid c4
  clear hv8 hrc ho hmu hd hct hsz hlen hval c1 c2 c3 c4 HB HV7 HTW HV5
  unfold ptr at *
  go_wp2_with fail
  refine HR.out.mono ?_
  rintro e w9 ⟨k9, ⟨hx, -⟩ | ⟨-, b, rfl, hb9, hr9⟩⟩
  · exact absurd hx HSZ.out
  rw [HVAL.out] at hr9 ⊢
  have HV9 := hid (HV8.out.kp0 k9)
  replace HLO := hid (HLO.out.kp0 k9)
  have HRR := hid hr9
  have HCO := hid (counts_any HV9.out)
  rw [HC1.out, HC2.out, HC3.out, HC4.out] at HCO
  clear HV8 HR hr9 k9
  unfold ptr at *
  simp only [List.length_singleton]
  go_wp2_with fail
  refine HCO.out.mono ?_
  rintro _ w10 ⟨rfl, k10⟩
  have ka : Kp (fun _ => False) w10 (w10.alloc (.cells #[.int .i64 0, .int .i64 2, .int .i64 2, .int .i64 1] 79)) := (Kp.refl _ _).alloc _
  have yb := ((HRR.out.kp k10 (fun h => h)).kp ka (fun h => h)).cell 0 (by decide)
  replace HLO := hid ((HLO.out.kp0 k10).kp0 ka)
  clear ka k10
  simp at yb
  clear HCO HV9
  go_wp2_with (first
    | (go_at_call 17; refine (HNU.out _ _).mono ?_; rintro e w' ⟨rfl, h⟩; replace h := h.symm; subst h))
  go_ret
  exact ⟨rfl, HLO.out.kp⟩
end Go.Proofs.YtnccklbnncaeoaaGreat
/- A row of a law's steps: what a script reads as; fits. -/
namespace Go.Proofs.YtnccklbnncaeoaaGreat
open Go.RowKit
set_option linter.unusedVariables false
set_option linter.unusedSimpArgs false
/-- A step of a script. -/
structure Stc where
  kind : Int
  at0 : Int
  n : Int
  page : Int
  oth : Int
  ba : Option Addr
  bl : Nat
  bc : Nat
def Stc.cells (t : Stc) : List Value := [.int .i64 t.kind, .int .i64 t.at0, .int .i64 t.n, .int .i64 t.page, .int .i64 t.oth, .slice t.ba t.bl t.bc]
def zsc : Stc := ⟨0, 0, 0, 0, 0, none, 0, 0⟩
def CSrc (w : World) (ao : Option Addr) (ts : List Stc) : Prop := 0 < ts.length → ∃ b off, ao = some ⟨b, off, none⟩ ∧ b < w.heap.size ∧ ∀ i, i < ts.length → ∀ j, j < 6 → w.cell? ⟨b, off + i * 6 + j, none⟩ = (ts.getD i zsc).cells[j]?
theorem kp_cellc {F : Nat → Prop} {w w' : World} (k : Kp F w w') {b o : Nat} (hb : b < w.heap.size) (hf : ¬ F b) : w'.cell? ⟨b, o, none⟩ = w.cell? ⟨b, o, none⟩ := by
  have := k.block b hb hf
  unfold World.cell?
  simp only [this]
theorem CSrc.nil (w : World) (ao : Option Addr) : CSrc w ao [] := fun h => absurd h (by simp)
theorem CSrc.kp {F : Nat → Prop} {w w' : World} {ao : Option Addr} {ts : List Stc} (h : CSrc w ao ts) (k : Kp F w w') (hf : ∀ b off, ao = some ⟨b, off, none⟩ → b < w.heap.size → ¬ F b) : CSrc w' ao ts := by
  intro hp
  obtain ⟨b, off, rfl, hb, hc⟩ := h hp
  exact ⟨b, off, rfl, Nat.lt_of_lt_of_le hb k.size, fun i hi j hj => by rw [← hc i hi j hj]; exact kp_cellc k hb (hf b off rfl hb)⟩
theorem CSrc.at {w : World} {ao : Option Addr} {ts : List Stc} (h : CSrc w ao ts) {k : Nat} (hk : k < ts.length) : ∃ b off, ao = some ⟨b, off, none⟩ ∧ b < w.heap.size ∧ w.cell? ⟨b, off + k * 6, none⟩ = some (.int .i64 (ts.getD k zsc).kind) ∧ w.cell? ⟨b, off + k * 6 + 1, none⟩ = some (.int .i64 (ts.getD k zsc).at0) ∧ w.cell? ⟨b, off + k * 6 + 2, none⟩ = some (.int .i64 (ts.getD k zsc).n) ∧ w.cell? ⟨b, off + k * 6 + 3, none⟩ = some (.int .i64 (ts.getD k zsc).page) ∧ w.cell? ⟨b, off + k * 6 + 4, none⟩ = some (.int .i64 (ts.getD k zsc).oth) ∧ w.cell? ⟨b, off + k * 6 + 5, none⟩ = some (.slice (ts.getD k zsc).ba (ts.getD k zsc).bl (ts.getD k zsc).bc) := by
  obtain ⟨b, off, e, hb, hc⟩ := h (by omega)
  exact ⟨b, off, e, hb, hc k hk 0 (by omega), hc k hk 1 (by omega), hc k hk 2 (by omega), hc k hk 3 (by omega), hc k hk 4 (by omega), hc k hk 5 (by omega)⟩
/-- What each step of a script is. -/
structure Swc (w : World) (t : Stc) : Prop where
  b : ∃ xs : List Int, xs.length = t.bl ∧ Src .u8 w t.ba xs
  bc : t.bl ≤ t.bc
  bm : t.bc ≤ maxLen
  bx : ∀ r off, t.ba = some ⟨r, off, none⟩ → 0 < t.bl → r < w.heap.size
  a : -9223372036854775808 ≤ t.at0 ∧ t.at0 ≤ 9223372036854775807
  n : -9223372036854775808 ≤ t.n ∧ t.n ≤ 9223372036854775807
  p : -9223372036854775808 ≤ t.page ∧ t.page ≤ 9223372036854775807
  o : -9223372036854775808 ≤ t.oth ∧ t.oth ≤ 9223372036854775807
theorem getD_memC (ts : List Stc) (k : Nat) (h : k < ts.length) : ts.getD k zsc ∈ ts := by
  rw [List.getD_eq_getElem?_getD, List.getElem?_eq_getElem h]
  exact List.getElem_mem h
/-- What fits tells. -/
def FitP (sz bt rm : Int) (N : Nat) (ts : List Stc) (w : World) (e : Ending) (w' : World) : Prop :=
  ∃ b, e = .returned (.bool b) ∧ (b = true → 0 ≤ sz ∧ sz ≤ 50000 ∧ 9 ≤ bt ∧ bt ≤ 12 ∧ 1 ≤ rm ∧ rm ≤ 20 ∧ N ≤ 60 ∧ ∀ t ∈ ts, t.page < 12 ∧ t.bl ≤ 5000) ∧ Kp (fun _ => False) w w'
set_option maxRecDepth 100000 in
set_option maxHeartbeats 8000000 in
theorem fits_any (sz bt rm : Int) (ts : List Stc) (ao : Option Addr) (N cap : Nat) (w : World) (hN : N = ts.length) (hS : CSrc w ao ts) :
    Calls Tryz.prog 27 #[.agg #[.int .i64 sz, .int .i64 bt, .int .i64 rm, .slice ao N cap]] w (FitP sz bt rm N ts w) := by
  have HN := hid hN
  have HS := hid hS
  have KB : Hid (Kp (fun _ => False) w (w.alloc (.cells #[.int .i64 sz, .int .i64 bt, .int .i64 rm, .slice ao N cap] 66))) := (Kp.refl _ _).alloc _
  have SB := St.new 66 w #[.int .i64 sz, .int .i64 bt, .int .i64 rm, .slice ao N cap]
  clear hN hS
  by_cases hout : sz < 0 ∨ 50000 < sz ∨ bt < 9 ∨ 12 < bt ∨ rm < 1 ∨ 20 < rm ∨ 60 < N
  · have hno : FitP sz bt rm N ts w (.returned (.bool false)) (w.alloc (.cells #[.int .i64 sz, .int .i64 bt, .int .i64 rm, .slice ao N cap] 66)) := ⟨false, rfl, (fun h => by cases h), KB.out⟩
    have HNO := hid hno
    clear hno SB KB
    have e7 : (60 : Int) < (N : Int) ↔ 60 < N := by omega
    by_cases h1 : sz < 0
    · go_enter Tryz.func27, Tryz.ntmps27
      go_wp2_with fail
      go_ret
      exact HNO.out
    by_cases h2 : 50000 < sz
    · go_enter Tryz.func27, Tryz.ntmps27
      go_wp2_with fail
      go_ret
      exact HNO.out
    by_cases h3 : bt < 9
    · go_enter Tryz.func27, Tryz.ntmps27
      go_wp2_with fail
      go_ret
      exact HNO.out
    by_cases h4 : 12 < bt
    · go_enter Tryz.func27, Tryz.ntmps27
      go_wp2_with fail
      go_ret
      exact HNO.out
    by_cases h5 : rm < 1
    · go_enter Tryz.func27, Tryz.ntmps27
      go_wp2_with fail
      go_ret
      exact HNO.out
    by_cases h6 : 20 < rm
    · go_enter Tryz.func27, Tryz.ntmps27
      go_wp2_with fail
      go_ret
      exact HNO.out
    by_cases h7 : 60 < N
    · have h7' := e7.2 h7
      go_enter Tryz.func27, Tryz.ntmps27
      go_wp2_with fail
      go_ret
      exact HNO.out
    omega
  · have h7' : ¬ (60 : Int) < (N : Int) := by omega
    have h1 : ¬ sz < 0 := by omega
    have h2 : ¬ 50000 < sz := by omega
    have h3 : ¬ bt < 9 := by omega
    have h4 : ¬ 12 < bt := by omega
    have h5 : ¬ rm < 1 := by omega
    have h6 : ¬ 20 < rm := by omega
    have h7 : N ≤ 60 := by omega
    clear hout
    go_enter Tryz.func27, Tryz.ntmps27
    go_wp2_with fail
    obtain ⟨X, hX⟩ : ∃ X, w.heap.size = X := ⟨_, rfl⟩
    obtain ⟨w1, hw1⟩ : ∃ w1, w.alloc (.cells #[.int .i64 sz, .int .i64 bt, .int .i64 rm, .slice ao N cap] 66) = w1 := ⟨_, rfl⟩
    rw [hw1] at KB SB
    rw [hX] at SB
    rw [hw1, hX]
    have z3 := SB.cell 3
    simp at z3
    have HS1 := hid (HS.out.kp KB.out (fun _ _ _ _ h => h))
    clear hw1 hX HS SB
    go_loopw [3] (fun iv wr => ∃ k : Nat, iv = .int .i64 k ∧ k ≤ N ∧ (∀ t ∈ ts.take k, t.page < 12 ∧ t.bl ≤ 5000) ∧ wr = w1) (fun iv _ => N - (intOf iv).toNat)
    case atStart => exact ⟨0, rfl, Nat.zero_le _, fun t ht => (by simp at ht), rfl⟩
    case round =>
      obtain ⟨k, rfl, hk, hbl, rfl⟩ := hrel
      have HBL := hid hbl
      clear hbl
      by_cases hlt : k < N
      · have hlt' : (k : Int) < (N : Int) := by omega
        have hlt2 : k < ts.length := by have := HN.out; omega
        obtain ⟨b, off, rfl, hb, y0, y1, y2, y3, y4, y5⟩ := HS1.out.at hlt2
        have HTK : Hid (ts.take (k + 1) = ts.take k ++ [ts.getD k zsc]) := by show _ = _; rw [List.getD_eq_getElem?_getD, List.getElem?_eq_getElem hlt2]; simp
        generalize ts.getD k zsc = t at *
        obtain ⟨kd, a0, n0, pg, ot, ba, bl, bc⟩ := t
        dsimp only at y0 y1 y2 y3 y4 y5
        have HBT : Hid (pg < 12 → bl ≤ 5000 → ∀ t ∈ ts.take (k + 1), t.page < 12 ∧ t.bl ≤ 5000) := by
          intro h h' t ht
          rw [HTK.out] at ht
          rcases List.mem_append.1 ht with h1 | h1
          · exact HBL.out t h1
          · rw [List.mem_singleton.1 h1]; exact ⟨h, h'⟩
        have HNO : Hid (FitP sz bt rm N ts w (.returned (.bool false)) wr) := ⟨false, rfl, (fun h => by cases h), KB.out⟩
        clear HTK HBL hb y0 y1 y2 y4
        by_cases hpg : pg < 12
        · by_cases hbl : bl ≤ 5000
          · have h9 : ¬ (5000 : Int) < (bl : Int) := by omega
            go_wp2_with fail
            exact ⟨⟨k + 1, by simp, by omega, HBT.out hpg hbl, trivial⟩, by simp [intOf]; omega⟩
          · have h9 : (5000 : Int) < (bl : Int) := by omega
            go_wp2_with fail
            go_ret
            exact HNO.out
        · have h8 : 12 ≤ pg := by omega
          go_wp2_with fail
          go_ret
          exact HNO.out
      · obtain rfl : k = N := by omega
        have hall : ∀ t ∈ ts, t.page < 12 ∧ t.bl ≤ 5000 := by
          have := HBL.out
          rw [HN.out, List.take_of_length_le (Nat.le_refl _)] at this
          exact this
        have HYES : Hid (FitP sz bt rm k ts w (.returned (.bool true)) wr) := ⟨true, rfl, (fun _ => ⟨by omega, by omega, by omega, by omega, by omega, by omega, by omega, hall⟩), KB.out⟩
        clear hall HBL
        go_wp2_with fail
        go_ret
        exact HYES.out
end Go.Proofs.YtnccklbnncaeoaaGreat
/- cache: one page that is kept, written back, flushed, let go. -/
namespace Go.Proofs.YtnccklbnncaeoaaGreat
open Go.RowKit
set_option linter.unusedVariables false
set_option linter.unusedSimpArgs false
/-- One page is known, and kept; nobody waits. -/
structure One (k : Nat) (G : Gc) (b i : Nat) (zs : List Int) (d p : Bool) : Prop where
  K : ∀ a ∈ G.K, a = b
  L : G.L = [b]
  g : nget G.c G.K k = some b
  n : (G.c b).n = k
  di : (G.c b).di = d
  pe : (G.c b).pe = p
  y : G.y b = some (i, zs)
  W : ∀ x, G.W x = []
section
variable {S : ByteArray} {g bits Q N k b i : Nat} {zs : List Int} {G G' : Gc} {q : Gf} {F : Nat → Prop} {w : World}
theorem One.kg {d p : Bool} (h : One k G b i zs d p) : kget G k = some b := by
  unfold kget
  rw [h.g]
  dsimp only
  rw [h.y]
  rfl
theorem One.mu {d p : Bool} (h : One k G b i zs d p) : YtnccklbnncaeoaaGreat.mu G = (if d then 1 else 0) ∧ dn G = (if d then 1 else 0) := by
  have h1 : dn G = (if d then 1 else 0) := by
    unfold dn
    rw [h.L]
    cases d <;> simp [h.di]
  have h2 : dw G = 0 := by
    unfold dw
    rw [h.L]
    simp [h.W]
  unfold YtnccklbnncaeoaaGreat.mu
  exact ⟨by omega, h1⟩
theorem one_new {m : Nat} {xs : List Int} (h : Cv S g bits 2 Q N G q [] F w) (h1 : WNew bits k (g0 m) q b xs G) : ∃ i, One k G b i (splice (ldz q bits k) 0 xs) true false := by
  obtain ⟨i, hi⟩ := h1.yb
  have hK : G.K = [b] := h1.K
  refine ⟨i, fun a ha => by rw [hK] at ha; simpa using ha, List.perm_singleton.1 h1.L, ?_, h1.n, h1.di, h1.pe, hi, fun x => by rw [h1.W]; rfl⟩
  rw [← h1.n]
  exact nget_of h.cm.ks.nin (by rw [hK]; simp)
theorem rc0 {bits : Nat} {X Y : Xt} (h : Rc bits 0 X Y) : Y = X := h
theorem rc1 {bits : Nat} {X Y : Xt} (h : Rc bits 1 X Y) : Mve bits X Y := by
  obtain ⟨Z, hr, hm⟩ := h
  have := rc0 hr
  rw [this] at hm
  exact hm
/-- It is written back. -/
theorem one_back {j : Nat} {q' : Gf} {p : Bool} (h : One k G b i zs true p) (hr : Rc bits j ⟨G, q, []⟩ ⟨G', q', []⟩) (hm : j + YtnccklbnncaeoaaGreat.mu G' ≤ YtnccklbnncaeoaaGreat.mu G) (hd : (G'.c b).di = false) : One k G' b i zs false true ∧ q' = gwr (k * 2 ^ bits) zs q (pcs (k * 2 ^ bits) zs.length) := by
  rw [h.mu.1] at hm
  simp only [if_true] at hm
  have hj : j = 1 := by
    rcases Nat.lt_or_ge j 1 with h1 | h1
    · obtain rfl : j = 0 := by omega
      have := congrArg Xt.G (rc0 hr)
      change G' = G at this
      rw [this, h.di] at hd
      cases hd
    · omega
  subst hj
  have hmv := rc1 hr
  generalize hX : (⟨G, q, []⟩ : Xt) = X at hmv
  generalize hY : (⟨G', q', []⟩ : Xt) = Y at hmv
  cases hmv using Mve.el with
  | fl hk kk =>
    rename_i G1
    subst hX
    have e1 := congrArg Xt.G hY
    change G' = G1 at e1
    subst e1
    have := (kk.les.c b).2.2.1
    change (G'.c b).di = (G.c b).di at this
    rw [hd, h.di] at this
    cases this
  | wr hk hbL hdi hW hyb kk =>
    rename_i G1 b1 i1 zs1
    subst hX
    have e1 := congrArg Xt.G hY
    have e2 := congrArg Xt.q hY
    change G' = G1 at e1
    subst e1
    change b1 ∈ G.L at hbL
    rw [h.L] at hbL
    obtain rfl : b1 = b := by simpa using hbL
    change G.y b1 = some (i1, zs1) at hyb
    rw [h.y] at hyb
    cases hyb
    change q' = qwr q [] ((G.c b1).n * 2 ^ bits) zs at e2
    rw [qwr_nil, h.n] at e2
    have hc := kk.c b1
    rw [if_pos rfl] at hc
    have hn : ∀ a, (G'.c a).n = (G.c a).n := fun a => (kk.stb.c a).1
    refine ⟨⟨fun a ha => h.K a (by have := kk.K; change G'.K = G.K at this; rw [← this]; exact ha), List.perm_singleton.1 (by have := kk.L; change G'.L.Perm G.L at this; rw [h.L] at this; exact this), ?_, by rw [hn]; exact h.n, hd, by rw [hc], by have := kk.y; change G'.y = G.y at this; rw [this]; exact h.y, fun x => by have := kk.W; change G'.W = G.W at this; rw [this]; exact h.W x⟩, e2⟩
    have e3 : G'.K = G.K := kk.K
    have hg := h.g
    unfold nget at hg ⊢
    rw [e3]
    simpa only [hn] using hg
/-- It is flushed. -/
theorem one_flush {p : Bool} (h : One k G b i zs false p) (hv : Iv G') (hl : Les G G') (hp : (G'.c b).pe = false) (hnin : Nin G'.c G'.K) : One k G' b i zs false false := by
  have hL : G'.L = [b] := by rw [hl.L]; exact h.L
  have hbK : b ∈ G'.K := hv.ll b (by rw [hL]; simp)
  have hn : (G'.c b).n = k := by rw [(hl.c b).1]; exact h.n
  refine ⟨fun a ha => h.K a (hl.K a ha), hL, by rw [← hn]; exact nget_of hnin hbK, hn, by rw [(hl.c b).2.2.1]; exact h.di, hp, by rw [hl.y]; exact h.y, fun x => ?_⟩
  exact nil_of_sub (hl.W x) (h.W x)
/-- It is changed. -/
theorem one_wr {room : Nat} {d p : Bool} {ft : List (Int × Int)} (hv : Cv S g bits room Q N G q ft F w) (h : One k G b i zs d p) (xs : List Int) (ao : Option Addr) (m cap : Nat) (hm : m = xs.length) (hx : xs ≠ []) (hxl : xs.length ≤ 2 ^ bits) (hk : k < 268435456 / 2 ^ bits) (hS : Src .u8 w ao xs) (hdis : ∀ r off, ao = some ⟨r, off, none⟩ → ¬ Fc Q G r ∧ ¬ F r) (ht : G.t < 1000000000000) (hN : N + YtnccklbnncaeoaaGreat.mu G + 2 ≤ 9000) :
    Calls Tryz.prog 22 #[ptr Q, .int .i64 k, .int .i64 0, .slice ao m cap] w fun e w' => e = .returned (.int .i64 0) ∧ ∃ G' F', Cv S g bits room Q N G' q ft F' w' ∧ Cch Q G G' F F' w w' ∧ One k G' b i (splice zs 0 xs) true p ∧ G'.t = G.t + 1 := by
  have hp := pow_le bits hv.bb
  have hm6 : m ≤ 4611686018427387904 := by rw [hm]; omega
  refine (cwrite_any hv (k : Int) 0 xs ao m cap hm hm6 hS hdis (by decide) ht hN).mono ?_
  intro e w' hw
  have hma := mayn_of hk
  have hwi : withn bits (0 : Int) (xs.length : Int) = true := withn_of (a := 0) (by omega)
  have hkg := h.kg
  cases hw using WrR.el with
  | bad h1 _ => rw [hma, hwi] at h1; cases h1
  | fail a1 a2 a3 a4 a5 a6 a7 a8 => rw [Int.toNat_natCast, hkg] at a3; cases a3
  | nil a1 a2 a3 a4 he a5 a6 => exact absurd he hx
  | ok a1 a2 hu hbL hy a6 hL hvv hc =>
    rename_i k1 b' i' zs' lv L H q1 ft1 F1
    rw [Int.toNat_natCast] at hu
    rcases hu with ⟨hk1, rfl, rfl, rfl, lv1, L1, hL1, rfl⟩ | ⟨hk1, _⟩
    · rw [hkg] at hk1
      cases hk1
      change G.y b = some (i', zs') at hy
      rw [h.y] at hy
      cases hy
      have hL' : L = [b] := List.perm_singleton.1 (by
        have := hL.trans (show L1.Perm G.L from hL1)
        rw [h.L] at this; exact this)
      have hn : ∀ a, (gWr (gUse { G with n1 := G.n1 + 1 } b lv1 L1) b i (splice zs (0 : Int).toNat xs) lv L).c a = (if a = b then { G.c b with tk := G.t + 1, di := true } else G.c a) := fun a => by
        show upd (upd G.c b { G.c b with tk := G.t + 1 }) b { (upd G.c b { G.c b with tk := G.t + 1 }) b with di := true } a = _
        by_cases e : a = b
        · subst e
          rw [upd_same, upd_same, if_pos rfl]
        · rw [upd_other _ _ e, upd_other _ _ e, if_neg e]
      refine ⟨rfl, _, F1, hvv, hc, ⟨h.K, hL', ?_, by rw [hn, if_pos rfl]; exact h.n, by rw [hn, if_pos rfl], by rw [hn, if_pos rfl]; exact h.pe, ?_, h.W⟩, rfl⟩
      · have hg := h.g
        have hnn : ∀ a, ((gWr (gUse { G with n1 := G.n1 + 1 } b lv1 L1) b i (splice zs (0 : Int).toNat xs) lv L).c a).n = (G.c a).n := fun a => by
          rw [hn]
          split
          · rename_i e; rw [e]
          · rfl
        unfold nget at hg ⊢
        simp only [hnn]
        exact hg
      · show upd _ b _ b = _
        rw [upd_same]
        rfl
    · rw [hkg] at hk1; cases hk1
/-- It is not kept any more, and nobody waits. -/
structure Gone (k : Nat) (G : Gc) : Prop where
  L : G.L = []
  g : kget G k = none
  s : ∀ a, nget G.c G.K k = some a → (G.c a).di = false ∧ (G.c a).pe = false ∧ G.W a = []
theorem forget_sub (G : Gc) (b : Nat) : (∀ a, a ∈ (gForget G b).K → a ∈ G.K) ∧ (∀ x a, a ∈ (gForget G b).W x → a ∈ G.W x) ∧ (gForget G b).y = G.y := by
  unfold gForget
  split
  · exact ⟨fun a ha => (List.mem_filter.1 ha).1, fun _ _ h => h, rfl⟩
  · exact ⟨fun _ h => h, fun _ _ h => h, rfl⟩
theorem set_sub (G : Gc) (b : Nat) : (∀ a, a ∈ (gSet G b).K → a ∈ G.K) ∧ (∀ x a, a ∈ (gSet G b).W x → a ∈ G.W x) ∧ (gSet G b).y = G.y := by
  unfold gSet
  split
  · exact forget_sub G b
  · obtain ⟨h1, h2, h3⟩ := forget_sub { gS G b (G.R b) with R := upd G.R b [] } b
    refine ⟨fun a ha => ?_, fun x a ha => ?_, h3⟩
    · have := h1 a ha
      exact (List.mem_filter.1 this).1
    · have h4 := h2 x a ha
      change a ∈ (if x ∈ G.R b then (G.W x).filter (fun x => decide (x ≠ b)) else G.W x) at h4
      split at h4
      · exact (List.mem_filter.1 h4).1
      · exact h4
theorem one_gone {d : Bool} {lv : Value} {M : List Nat} (h : One k G b i zs d false) (hM : (b :: M).Perm G.L) : Gone k (gLet (gWn G b) lv M b) := by
  rw [h.L] at hM
  have hM0 : M = [] := List.eq_nil_of_length_eq_zero (by have := hM.length_eq; simpa using this)
  obtain ⟨s1, s2, s3⟩ := set_sub (gBare { gWn G b with lv := lv, L := M } b) b
  have hc : ∀ a, (gLet (gWn G b) lv M b).c a = (gBare (gWn G b) b).c a := fun a => let_c (gWn G b) lv M b a
  refine ⟨(let_L _ _ _ _).trans hM0, ?_, fun a ha => ?_⟩
  · unfold kget
    split
    · rename_i a ha
      have hK := (nget_mem ha).1
      have hab := h.K a (s1 a hK)
      subst hab
      have hy : (gLet (gWn G a) lv M a).y a = none := by
        have : (gLet (gWn G a) lv M a).y = (gBare { gWn G a with lv := lv, L := M } a).y := s3
        rw [this]
        exact upd_same _ _ _
      rw [if_pos hy]
    · rfl
  · have hab := h.K a (s1 a (nget_mem ha).1)
    subst hab
    have hb := bare_c (gWn G a) a a
    refine ⟨by rw [hc, hb.2.2.2, if_pos rfl], by rw [hc, hb.2.1]; exact h.pe, nil_of_sub (s2 a) ?_⟩
    show upd G.W a [] a = []
    exact upd_same _ _ _
/-- It is read from the file. -/
theorem gone_read {n : Nat} (hv : Cv S g bits 2 Q N G q [] F w) (h : Gone k G) (hn : n ≤ 2 ^ bits) (hk : k < 268435456 / 2 ^ bits) (ht : G.t < 1000000000000) (hN : N + YtnccklbnncaeoaaGreat.mu G + 2 ≤ 9000) :
    Calls Tryz.prog 28 #[ptr Q, .int .i64 k, .int .i64 0, .int .i64 n] w fun e w' => ∃ v G' F', e = .returned (.tuple #[v, .int .i64 0]) ∧ OwnI .u8 5 w' w.heap.size v ((ldz q bits k).take n) ∧ Cch Q G G' F F' w w' := by
  have hp := pow_le bits hv.bb
  refine (read_any hv (k : Int) 0 (n : Int) (by decide) ht hN).mono ?_
  intro e w' hr
  have hma := mayn_of hk
  have hwi : withn bits (0 : Int) (n : Int) = true := withn_of (a := 0) (by omega)
  cases hr using RdR.el with
  | bad h1 _ => rw [hma, hwi] at h1; cases h1
  | fail a1 a2 a3 hz ho a6 a7 a8 => exact absurd (ho.ftn rfl).1 hz
  | ok a1 a2 hu hbL hy hown hno hvv hc =>
    rename_i k1 b i zs v H q1 ft1 F1
    rw [Int.toNat_natCast] at hu
    rcases hu with ⟨hk1, _⟩ | ⟨hk1, G1, hrm, s, G2, j, lv, L, hs, hj, hkn, hkp, hL, rfl⟩
    · rw [h.g] at hk1; cases hk1
    · rcases hrm with ⟨_, rfl, rfl, rfl, rfl⟩ | ⟨hnr, _⟩
      · have hyy : zs = ldz q1 bits k := by
          change upd _ b (some (j, ldz q1 bits k)) b = some (i, zs) at hy
          rw [upd_same] at hy
          cases hy
          rfl
        rw [hyy, show ((0 : Int).toNat) = 0 from rfl, List.drop_zero, Int.toNat_natCast] at hown
        exact ⟨v, _, F1, rfl, hown, hc⟩
      · exact absurd (by rw [h.L]; show 0 < 2; omega) hnr
end
end Go.Proofs.YtnccklbnncaeoaaGreat
/- CacheRoom: what each call keeps. -/
namespace Go.Proofs.YtnccklbnncaeoaaGreat
open Go.RowKit
set_option linter.unusedVariables false
set_option linter.unusedSimpArgs false
theorem set_cnt (G : Gc) (b : Nat) : (gSet G b).n1 = G.n1 ∧ (gSet G b).n2 = G.n2 ∧ (gSet G b).n3 = G.n3 := by
  unfold gSet
  split
  · exact ⟨(les_forget G b).n1, (les_forget G b).n2, (les_forget G b).n3⟩
  · exact ⟨(les_forget { gS G b (G.R b) with R := upd G.R b [] } b).n1, (les_forget { gS G b (G.R b) with R := upd G.R b [] } b).n2, (les_forget { gS G b (G.R b) with R := upd G.R b [] } b).n3⟩
theorem let_cnt (G : Gc) (lv : Value) (M : List Nat) (b : Nat) : (gLet G lv M b).n1 = G.n1 ∧ (gLet G lv M b).n2 = G.n2 ∧ (gLet G lv M b).n3 = G.n3 := set_cnt _ _
theorem let_W0 {G : Gc} {lv : Value} {M : List Nat} {b : Nat} (h : ∀ x, G.W x = []) (x : Nat) : (gLet G lv M b).W x = [] :=
  nil_of_sub (fun a ha => (set_sub (gBare { G with lv := lv, L := M } b) b).2.1 x a ha) (h x)
theorem mu_nil {G : Gc} (h : ∀ x, G.W x = []) : mu G = dn G := by
  unfold mu dw
  simp [h]
/-- How many of these are dirty. -/
theorem dn_eq {c d : Nat → Pc} {L : List Nat} (h : ∀ a ∈ L, (c a).di = (d a).di) : L.countP (fun b => (c b).di) = L.countP (fun b => (d b).di) := by
  apply List.countP_congr
  intro a ha
  rw [h a ha]
theorem let_dn {G : Gc} {lv : Value} {M : List Nat} {b : Nat} (hp : (b :: M).Perm G.L) (hd : (G.c b).di = false) : dn (gLet G lv M b) = dn G := by
  unfold dn
  rw [let_L, ← hp.countP_eq, List.countP_cons]
  rw [dn_eq (d := G.c) (fun a _ => ?_)]
  · simp [hd]
  · rw [let_c, (bare_c G b a).2.2.2]
    split
    · rename_i e; rw [e, hd]
    · rfl
/-- What holds between the calls: nobody waits; what was written back was written; who is kept was loaded. -/
structure Rm (writes : Nat) (G : Gc) : Prop where
  W : ∀ x, G.W x = []
  b : G.n3 + dn G ≤ writes
  l : G.L.length ≤ G.n2
  p : ∀ a ∈ G.L, (G.c a).n < 12
section
variable {S : ByteArray} {g bits room Q N s0 k1 k b wr : Nat} {G G1 H : Gc} {q q1 : Gf} {ft1 : List (Int × Int)} {F : Nat → Prop} {w : World}
theorem rm0 (m : Nat) : Rm 0 (g0 m) := ⟨fun _ => rfl, Nat.le_refl _, Nat.le_refl _, fun a ha => by cases ha⟩
theorem rm_room (h : Cv S g bits room Q N G q [] F w) (hR : Rm wr G) (hu : RmG bits room k1 G q [] G1 q1 ft1) : Rm wr G1 ∧ ft1 = [] ∧ k1 + mu G1 ≤ mu G ∧ G1.t = G.t ∧ G1.n3 + dn G1 = G.n3 + dn G := by
  rcases hu with ⟨_, rfl, rfl, rfl, rfl⟩ | ⟨_, G', ho, hm, hd, lv, M, hp, rfl⟩
  · exact ⟨hR, rfl, by omega, rfl, rfl⟩
  · obtain ⟨-, hrc, hf⟩ := ho.ftn rfl
    have hs := hrc.stb
    have hW' : ∀ x, G'.W x = [] := fun x => nil_of_sub (hs.W x) (hR.W x)
    have hdn := hrc.dn h.cm.ln.nodup
    change G'.n3 + dn G' = G.n3 + dn G at hdn
    obtain ⟨c1, c2, c3⟩ := let_cnt G' lv M (G.L.getD 0 0)
    have hl := let_dn (lv := lv) hp hd
    have hLn : M.length + 1 = G.L.length := by
      have h1 := hp.length_eq
      have h2 := hs.L.length_eq
      change G'.L.length = G.L.length at h2
      rw [List.length_cons] at h1
      omega
    have e2 : G'.n2 = G.n2 := hs.n2
    refine ⟨⟨fun x => let_W0 hW' x, ?_, ?_, fun a ha => ?_⟩, hf, ?_, (let_t _ _ _ _).trans hs.t, ?_⟩
    · rw [c3, hl, hdn]; exact hR.b
    · have := hR.l
      rw [let_L, c2, e2]; omega
    · rw [let_L] at ha
      rw [let_c, (bare_c G' (G.L.getD 0 0) a).1]
      have h1 : (G'.c a).n = (G.c a).n := (hs.c a).1
      rw [h1]
      exact hR.p a (hs.L.mem_iff.1 (hp.mem_iff.1 (List.mem_cons_of_mem _ ha)))
    · rw [mu_nil (fun x => let_W0 hW' x), hl, ← mu_nil hW']; exact hm
    · rw [c3, hl, hdn]
theorem use_rm (h : Cv S g bits room Q N G q [] F w) (hR : Rm wr G) (hu : UseG bits room s0 k1 k G q [] H q1 ft1 b) (hk : k < 12) : Rm wr H ∧ ft1 = [] ∧ k1 + mu H ≤ mu G ∧ H.t = G.t + 1 := by
  rcases hu with ⟨hg, rfl, rfl, rfl, lv, L, hL, rfl⟩ | ⟨hg, G1, hrm, s, G2, i, lv, L, hs, hi, hkn, hkp, hL, rfl⟩
  · have hc := use_c { G with n1 := G.n1 + 1 } b (G.t + 1)
    have hd : dn (gUse { G with n1 := G.n1 + 1 } b lv L) = dn G := by
      show L.countP (fun a => (upd G.c b { G.c b with tk := G.t + 1 } a).di) = _
      rw [dn_eq (d := G.c) (fun a _ => (hc a).2.1), hL.countP_eq]
      rfl
    refine ⟨⟨hR.W, ?_, ?_, fun a ha => ?_⟩, rfl, ?_, rfl⟩
    · rw [hd]; exact hR.b
    · show L.length ≤ G.n2
      rw [hL.length_eq]; exact hR.l
    · show (upd G.c b { G.c b with tk := G.t + 1 } a).n < 12
      rw [(hc a).1]; exact hR.p a (hL.mem_iff.1 ha)
    · have hWH : ∀ x, (gUse { G with n1 := G.n1 + 1 } b lv L).W x = [] := hR.W
      rw [mu_nil hWH, hd, ← mu_nil hR.W]; omega
  · obtain ⟨hR1, hf, hm, ht, hdn⟩ := rm_room h hR hrm
    have hLB : ∀ a ∈ G1.L, a ≠ b ∧ G2.c a = G1.c a := fun a ha => by
      have h1 : a ∈ G2.L := by rw [hkp.L]; exact ha
      have h2 : a ≠ b := fun e => hkp.bL (e ▸ h1)
      have h3 := ((hkp.iv.lk a).1 h1).1
      rcases hkp.B a h3 with h4 | h4
      · exact ⟨h2, hkp.c a h4⟩
      · exact absurd h4 h2
    have hW2 : ∀ x, G2.W x = [] := fun x => by
      rcases hkn with ⟨_, rfl⟩ | ⟨_, wm, rm, _, _, _, rfl⟩
      · exact hR1.W x
      · show upd G1.W b [] x = []
        unfold upd
        split
        · rfl
        · exact hR1.W x
    have hc := use_c (gBring G2 b i (ldz q1 bits k)) b (G2.t + 1)
    have hb1 : ∀ a, (upd G2.c b { G2.c b with bv := .slice (some ⟨i, 0, none⟩) (ldz q1 bits k).length (ldz q1 bits k).length } a).di = (G2.c a).di ∧ (upd G2.c b { G2.c b with bv := .slice (some ⟨i, 0, none⟩) (ldz q1 bits k).length (ldz q1 bits k).length } a).n = (G2.c a).n := fun a => by
      unfold upd
      split
      · rename_i e; rw [e]; exact ⟨rfl, rfl⟩
      · exact ⟨rfl, rfl⟩
    have hcd : ∀ a, ((gUse (gBring G2 b i (ldz q1 bits k)) b lv L).c a).di = (G2.c a).di := fun a => (hc a).2.1.trans (hb1 a).1
    have hcn : ∀ a, ((gUse (gBring G2 b i (ldz q1 bits k)) b lv L).c a).n = (G2.c a).n := fun a => (hc a).1.trans (hb1 a).2
    have hd : dn (gUse (gBring G2 b i (ldz q1 bits k)) b lv L) = dn G1 := by
      show L.countP (fun a => ((gUse (gBring G2 b i (ldz q1 bits k)) b lv L).c a).di) = G1.L.countP (fun a => (G1.c a).di)
      rw [dn_eq (d := G2.c) (fun a _ => hcd a), hL.countP_eq, List.countP_cons, hkp.di, dn_eq (d := G1.c) (fun a ha => by rw [(hLB a ha).2])]
      simp
    have hWH : ∀ x, (gUse (gBring G2 b i (ldz q1 bits k)) b lv L).W x = [] := hW2
    have e3 : (gUse (gBring G2 b i (ldz q1 bits k)) b lv L).n3 = G1.n3 := hkp.n3
    have e2 : (gUse (gBring G2 b i (ldz q1 bits k)) b lv L).n2 = G1.n2 + 1 := hkp.n2
    have et : (gUse (gBring G2 b i (ldz q1 bits k)) b lv L).t = G1.t + 1 := congrArg (· + 1) hkp.t
    refine ⟨⟨hWH, ?_, ?_, fun a ha => ?_⟩, hf, ?_, et.trans (by rw [ht])⟩
    · rw [e3, hd]; exact hR1.b
    · have := hR1.l
      show L.length ≤ _
      rw [e2, hL.length_eq, List.length_cons]; omega
    · rw [hcn a]
      rcases List.mem_cons.1 (hL.mem_iff.1 ha) with rfl | h1
      · rw [hkp.n]; exact hk
      · rw [(hLB a h1).2]; exact hR1.p a h1
    · rw [mu_nil hWH, hd, ← mu_nil hR1.W]; exact hm
theorem wr_rm {i : Nat} {zs : List Int} {lv : Value} {L : List Nat} (hR : Rm wr H) (hb : b ∈ H.L) (hnd : H.L.Nodup) (hL : L.Perm H.L) : Rm (wr + 1) (gWr H b i zs lv L) ∧ mu (gWr H b i zs lv L) ≤ mu H + 1 := by
  have hc := di_c H b true
  have hd : dn (gWr H b i zs lv L) ≤ dn H + 1 := by
    show L.countP (fun a => (upd H.c b { H.c b with di := true } a).di) ≤ _
    rw [hL.countP_eq]
    have hp : H.L.Perm (b :: H.L.erase b) := List.perm_cons_erase hb
    unfold dn
    rw [hp.countP_eq, hp.countP_eq, List.countP_cons, List.countP_cons]
    have hne : ∀ a ∈ H.L.erase b, a ≠ b := fun a ha e => by
      have := (hp.nodup_iff.1 hnd)
      rw [List.nodup_cons] at this
      exact this.1 (e ▸ ha)
    rw [dn_eq (c := upd H.c b { H.c b with di := true }) (d := H.c) (fun a ha => by rw [upd_other _ _ (hne a ha)])]
    split <;> split <;> omega
  have hWH : ∀ x, (gWr H b i zs lv L).W x = [] := hR.W
  refine ⟨⟨hWH, ?_, ?_, fun a ha => ?_⟩, ?_⟩
  · have h1 : (gWr H b i zs lv L).n3 = H.n3 := rfl
    have := hR.b
    rw [h1]; omega
  · show L.length ≤ H.n2
    rw [hL.length_eq]; exact hR.l
  · show (upd H.c b { H.c b with di := true } a).n < 12
    rw [(hc a).1]; exact hR.p a (hL.mem_iff.1 ha)
  · rw [mu_nil hWH, mu_nil hR.W]; exact hd
end
end Go.Proofs.YtnccklbnncaeoaaGreat
/- The statements' stands. -/
namespace Go.Proofs.YtnccklbnncaeoaaGreat
open Go.RowKit
set_option linter.unusedVariables false
set_option linter.unusedSimpArgs false
set_option maxRecDepth 100000 in
set_option maxHeartbeats 8000000 in
theorem stands_any {S : ByteArray} {g bits room Q N : Nat} {G : Gc} {q : Gf} {ft : List (Int × Int)} {F : Nat → Prop} {w : World} (h : Cv S g bits room Q N G q ft F w) (k : Nat) (d p : Bool) (hk : k < 268435456 / 2 ^ bits) (hs : ∀ b, nget G.c G.K k = some b → (G.c b).di = d ∧ (G.c b).pe = p ∧ G.W b = []) (hn : nget G.c G.K k = none → d = false ∧ p = false) :
    Calls Tryz.prog 37 #[ptr Q, .int .i64 k, .bool d, .bool p] w fun e w' => e = .returned (.bool true) ∧ Kp (fun _ => False) w w' := by
  have hst := state_any h k
  have HST : Hid (Calls Tryz.prog 35 #[ptr Q, .int .i64 k] w fun e w' => e = .returned (.tuple #[.agg #[.bool d, .bool p, .slice none 0 0], .int .i64 0]) ∧ Kp (fun _ => False) w w') := by
    refine hst.mono ?_
    rintro e w' ⟨hkp, h2⟩
    rw [if_pos (mayn_of hk), Int.toNat_natCast] at h2
    cases hg : nget G.c G.K k with
    | none =>
      rw [hg] at h2
      obtain ⟨rfl, rfl⟩ := hn hg
      exact ⟨h2, hkp⟩
    | some b =>
      rw [hg] at h2
      obtain ⟨h3, h4, h5⟩ := hs b hg
      obtain ⟨v, he, _, hv⟩ := h2
      rw [hv.2 h5, h3, h4] at he
      exact ⟨he, hkp⟩
  have HNU := hid num_any
  clear h hst hs hn
  unfold ptr at *
  cases d <;> cases p
  all_goals
    go_enter Tryz.func37, Tryz.ntmps37
    go_wp2_with fail
    refine HST.out.mono ?_
    rintro _ w1 ⟨rfl, k1⟩
    go_wp2_with (first
      | (go_at_call 17; refine (HNU.out _ _).mono ?_; rintro e w' ⟨rfl, h⟩; replace h := h.symm; subst h))
    go_ret
    exact ⟨rfl, k1.trans ((Kp.refl _ _).alloc _) (fun _ _ h => h)⟩
end Go.Proofs.YtnccklbnncaeoaaGreat
/- CacheStates: the walk. -/
namespace Go.Proofs.YtnccklbnncaeoaaGreat
open Go.RowKit
set_option linter.unusedVariables false
set_option linter.unusedSimpArgs false
theorem kbound {bits k : Nat} (hb : 9 ≤ bits ∧ bits ≤ 16) (hk : k ≤ 4095) : k < 268435456 / 2 ^ bits := by
  have hp := pow_le bits hb
  have : 268435456 / 65536 ≤ 268435456 / 2 ^ bits := Nat.div_le_div_left hp.2 (by omega)
  omega
theorem kp_bl {w w' : World} (k : Kp (fun _ => False) w w') : Below w.heap.size w w' := k.below (Nat.le_refl _) (fun _ h => h.elim)
set_option maxRecDepth 100000 in
set_option maxHeartbeats 8000000 in
theorem states_out (pg bt : Int) (ao : Option Addr) (m cap : Nat) (w : World) (hout : pg < 0 ∨ 20 < pg ∨ m < 1 ∨ 512 < m ∨ bt < 9 ∨ 16 < bt) :
    Calls Tryz.prog 8 #[.int .i64 pg, .slice ao m cap, .int .i64 bt] w fun e w' => e = .returned (.bool true) ∧ Kp (fun _ => False) w w' := by
  have HW := hid (works_any w)
  have e0 : (m : Int) < 1 ↔ m < 1 := by omega
  have e1 : (512 : Int) < m ↔ 512 < m := by omega
  by_cases h1 : pg < 0
  · go_enter Tryz.func8, Tryz.ntmps8
    go_wp2_with (first | (go_at_call 10; refine HW.out.mono ?_; rintro _ w1 ⟨rfl, k1⟩))
    go_ret
    exact ⟨rfl, k1⟩
  by_cases h2 : 20 < pg
  · go_enter Tryz.func8, Tryz.ntmps8
    go_wp2_with (first | (go_at_call 10; refine HW.out.mono ?_; rintro _ w1 ⟨rfl, k1⟩))
    go_ret
    exact ⟨rfl, k1⟩
  by_cases h3 : m < 1
  · have h3' : (m : Int) < 1 := e0.2 h3
    go_enter Tryz.func8, Tryz.ntmps8
    go_wp2_with (first | (go_at_call 10; refine HW.out.mono ?_; rintro _ w1 ⟨rfl, k1⟩))
    go_ret
    exact ⟨rfl, k1⟩
  have h3' : ¬ (m : Int) < 1 := fun h => h3 (e0.1 h)
  by_cases h4 : 512 < m
  · have h4' : (512 : Int) < m := e1.2 h4
    go_enter Tryz.func8, Tryz.ntmps8
    go_wp2_with (first | (go_at_call 10; refine HW.out.mono ?_; rintro _ w1 ⟨rfl, k1⟩))
    go_ret
    exact ⟨rfl, k1⟩
  have h4' : ¬ (512 : Int) < m := fun h => h4 (e1.1 h)
  by_cases h5 : bt < 9
  · go_enter Tryz.func8, Tryz.ntmps8
    go_wp2_with (first | (go_at_call 10; refine HW.out.mono ?_; rintro _ w1 ⟨rfl, k1⟩))
    go_ret
    exact ⟨rfl, k1⟩
  by_cases h6 : 16 < bt
  · go_enter Tryz.func8, Tryz.ntmps8
    go_wp2_with (first | (go_at_call 10; refine HW.out.mono ?_; rintro _ w1 ⟨rfl, k1⟩))
    go_ret
    exact ⟨rfl, k1⟩
  omega
theorem src_lt {w : World} {ao : Option Addr} {xs : List Int} (h : Src .u8 w ao xs) (hx : xs ≠ []) : ∀ r off, ao = some ⟨r, off, none⟩ → r < w.heap.size := fun r off e => by
  obtain ⟨b, o, e2, hc⟩ := h (List.length_pos_iff.2 hx)
  rw [e] at e2
  cases e2
  exact block_lt_of_cell (hc 0 (List.length_pos_iff.2 hx))
theorem cvt {w : World} {ao : Option Addr} {len c : Nat} {xs : List Int} (hl : xs.length = len) (h : Src .u8 w ao xs) : (convert 47 9 (.slice ao len c)).run Tryz.prog w = .ok (.string (strOfNums xs)) w := by
  subst hl
  exact run_convert_rw w 47 9 5 Tryz.underlying47 Tryz.underlying5 Tryz.underlying9 ao _ c xs rfl h
theorem back_ldz {bits k : Nat} {zs : List Int} {q2 q3 : Gf} (hz : zs.length = 2 ^ bits) (h2 : q2 = gwr (k * 2 ^ bits) zs ⟨100, zero, []⟩ (pcs (k * 2 ^ bits) zs.length)) (h3 : q3 = qfl q2 []) : ldz q3 bits k = zs ∧ 1 ≤ q2.ps.length := by
  have hp := Nat.two_pow_pos bits
  have hne : zs ≠ [] := fun e => by rw [e] at hz; simp at hz; omega
  obtain ⟨g1, g2⟩ := gwr_all (k * 2 ^ bits) zs ⟨100, zero, []⟩ hne
  rw [← h2] at g1 g2
  have hc : ∀ i, cont q3 i = if k * 2 ^ bits ≤ i ∧ i < k * 2 ^ bits + zs.length then zs.getD (i - k * 2 ^ bits) 0 else 0 := fun i => by
    rw [h3, cont_fl, g2]
    rfl
  have hs : q3.sz = max 100 (k * 2 ^ bits + zs.length) := by rw [h3, qfl_nil]; exact g1
  constructor
  · refine ext_getD (by rw [ldz_len, hz]) (fun j hj => ?_)
    rw [ldz_len] at hj
    rw [ldz_get (fun i hi => ?_) bits k j hj, hc, if_pos (by omega)]
    · congr 1; omega
    · rw [hc, if_neg (by omega)]
  · rw [h2, gwr_len]
    rw [pcs_step _ _ (by omega)]
    simp
theorem splice_take (L xs : List Int) : (splice L 0 xs).take xs.length = xs := by
  unfold splice
  simp
set_option maxRecDepth 100000 in
set_option maxHeartbeats 16000000 in
theorem states_in (k bits : Nat) (ao : Option Addr) (m cap : Nat) (xs : List Int) (w : World) (hk : k ≤ 20) (hm1 : 1 ≤ m) (hm2 : m ≤ 512) (hb : 9 ≤ bits ∧ bits ≤ 16) (hl : xs.length = m) (hcap : m ≤ cap) (hnil : ao = none → cap = 0) (hS : Src .u8 w ao xs) :
    Calls Tryz.prog 8 #[.int .i64 k, .slice ao m cap, .int .i64 bits] w fun e w' => e = .returned (.bool true) ∧ Kp (fun _ => False) w w' := by
  have hkb := kbound hb (k := k) (by omega)
  have hp := pow_le bits hb
  have hxn : xs ≠ [] := fun e => by rw [e] at hl; simp at hl; omega
  have hxl : xs.length ≤ 2 ^ bits := by omega
  have HF : Hid (Calls Tryz.prog 11 #[.int .i64 100, .slice none 0 0] w fun e w' => ∃ g F, e = .returned (ptr g) ∧ Sw nmf g 2 F ⟨100, zero, []⟩ [] w' ∧ (∀ i, F i → w.heap.size ≤ i) ∧ Kp (fun _ => False) w w') := file_nil 100 (by omega) w
  have HNU := hid num_any
  have c1 : ¬ (k : Int) < 0 := by omega
  have c2 : ¬ (20 : Int) < k := by omega
  have c3 : ¬ (m : Int) < 1 := by omega
  have c4 : ¬ (512 : Int) < m := by omega
  have c5 : ¬ (bits : Int) < 9 := by omega
  have c6 : ¬ (16 : Int) < bits := by omega
  have HS := hid hS
  have HSL := hid (src_lt hS hxn)
  have HXN := hid hxn
  have HXL := hid hxl
  have HL := hid hl
  have HKB := hid hkb
  have HBB := hid hb
  have HP := hid hp
  clear hS hxn hxl hkb hp hl hnil
  go_enter Tryz.func8, Tryz.ntmps8
  go_wp2_with fail
  refine HF.out.mono ?_
  rintro _ w1 ⟨g, F, rfl, hs, hF0, kF0⟩
  have hlo := Lo.new (S := nmf) (g := g) (bits := bits) (room := 2) hF0 kF0
  have hv2 := cache_cv (bits := bits) (room := 2) hs HBB.out (by omega)
  have HNEW : Hid (Calls Tryz.prog 15 #[ptr g, .string nmf, .int .i64 bits, .int .i64 2] w1 fun e w' => e = .returned (.tuple #[ptr (w1.heap.size + 2), .int .i64 0]) ∧ w' = wCache w1 nmf g bits 2) := new_good (bits := bits) (room := 2) hs HBB.out (by omega)
  obtain ⟨Q, hQ⟩ : ∃ Q, w1.heap.size + 2 = Q := ⟨_, rfl⟩
  obtain ⟨m0, hm0⟩ : ∃ m, w1.heap.size = m := ⟨_, rfl⟩
  rw [hQ, hm0] at hv2 hlo
  rw [hQ] at HNEW
  have HV2 := hid hv2
  have HLO := hid hlo
  clear hs hv2 HF hm0 hF0 kF0 hlo
  unfold ptr at *
  go_wp2_with fail
  refine HNEW.out.mono ?_
  rintro _ w2 ⟨rfl, hw2⟩
  rw [← hw2] at HV2 HLO
  clear hw2 HNEW
  have HW1 := hid (cw_new HV2.out k xs ao m cap HL.out.symm HXN.out HXL.out HKB.out (HS.out.kp HLO.out.kp (fun _ _ _ h => h)) (fun r off e => by
    have h1 := HSL.out r off e
    exact ⟨fun hx => by have := HLO.out.fc r hx; omega, fun hx => by have := HLO.out.ff r hx; omega⟩) (by show 0 < _; decide) (by have := mu_len (g0 m0); have e : (g0 m0).L.length = 0 := rfl; omega) rfl (by show 0 < 2; decide))
  unfold ptr at *
  go_wp2_with (first
    | (go_at_call 17; refine (HNU.out _ _).mono ?_; rintro e w' ⟨rfl, h⟩; replace h := h.symm; subst h))
  refine HW1.out.mono ?_
  rintro _ w3 ⟨rfl, G1, F1, b, hv3, hc3, hw3⟩
  obtain ⟨i, hone⟩ := one_new hv3 hw3
  have HT1 : Hid (G1.t = 1) := hw3.t
  replace HLO := hid (HLO.out.ch hc3)
  have HV3 := hid hv3
  have HO1 := hid hone
  have HST1 := hid (stands_any hv3 k true false HKB.out (fun b' hb' => by rw [hone.g] at hb'; cases hb'; exact ⟨hone.di, hone.pe, hone.W b⟩) (fun e => by rw [hone.g] at e; cases e))
  clear hv3 hc3 hw3 hone HV2 HW1
  unfold ptr at *
  go_wp2_with (first
    | (go_at_call 17; refine (HNU.out _ _).mono ?_; rintro e w' ⟨rfl, h⟩; replace h := h.symm; subst h))
  refine HST1.out.mono ?_
  rintro _ w4 ⟨rfl, k4⟩
  replace HLO := hid (HLO.out.kp0 k4)
  have HV4 := hid (HV3.out.kp0 k4)
  have HBK := hid (back_any HV4.out (k : Int) (by rw [HO1.out.mu.1]; simp))
  clear HST1 HV3 k4
  unfold ptr at *
  go_wp2_with fail
  refine HBK.out.mono ?_
  intro e w5 hb5
  unfold BaP at hb5
  rw [if_pos (mayn_of HKB.out), Int.toNat_natCast, HO1.out.kg] at hb5
  obtain ⟨z, j, G2, q2, ft2, F2, rfl, hv5, hc5, ho, hmu, hd⟩ := hb5
  obtain ⟨rfl, hrc, hf⟩ := ho.ftn rfl
  change ft2 = [] at hf
  subst hf
  have hmu2 : j + mu G2 ≤ mu G1 := by simpa using hmu
  obtain ⟨hone2, hq2⟩ := one_back HO1.out hrc hmu2 (hd rfl b (by simp))
  have hj : j ≤ 1 := by rw [HO1.out.mu.1] at hmu2; simp at hmu2; omega
  have hzl : (splice (ldz ⟨100, zero, []⟩ bits k) 0 xs).length = 2 ^ bits := by
    have := HXL.out
    have := ldz_len ⟨100, zero, []⟩ bits k
    unfold splice
    simp
    omega
  replace HLO := hid (HLO.out.ch hc5)
  have HV5 := hid hv5
  have HO2 := hid hone2
  have HT2 : Hid (G2.t = 1) := Eq.trans hrc.stb.t HT1.out
  have HJ := hid hj
  have HQ2 := hid hq2
  have HZL := hid hzl
  have HST2 := hid (stands_any hv5 k false true HKB.out (fun b' hb' => by rw [hone2.g] at hb'; cases hb'; exact ⟨hone2.di, hone2.pe, hone2.W b⟩) (fun e => by rw [hone2.g] at e; cases e))
  clear hv5 hc5 hone2 hj hq2 hzl hmu hmu2 hd hrc ho HBK HV4 HO1
  unfold ptr at *
  go_wp2_with (first
    | (go_at_call 17; refine (HNU.out _ _).mono ?_; rintro e w' ⟨rfl, h⟩; replace h := h.symm; subst h))
  refine HST2.out.mono ?_
  rintro _ w6 ⟨rfl, k6⟩
  replace HLO := hid (HLO.out.kp0 k6)
  have HV6 := hid (HV5.out.kp0 k6)
  have HPE := hid (pending_w HV6.out.sw)
  obtain ⟨pm, hpm⟩ : ∃ pm, q2.ps.length = pm + 1 := ⟨q2.ps.length - 1, by have := (back_ldz HZL.out HQ2.out rfl).2; omega⟩
  rw [hpm] at HPE
  have hpn : ¬ ((pm : Int) + 1 = 0) := by omega
  clear HST2 HV5 k6
  unfold ptr at *
  go_wp2_with fail
  refine HPE.out.mono ?_
  rintro _ w7 ⟨rfl, k7⟩
  replace HLO := hid (HLO.out.kp0 k7)
  have HV7 := hid (HV6.out.kp0 k7)
  have HFL := hid (flushall_any HV7.out (by rw [HO2.out.mu.1]; have := HJ.out; simp; omega))
  clear HPE HV6 k7
  unfold ptr at *
  go_wp2_with fail
  refine HFL.out.mono ?_
  rintro e w8 ⟨z, j2, G3, q3, ft3, F3, rfl, hv8, hc8, ho, hmu, hz⟩
  obtain ⟨rfl, hrc, hf⟩ := ho.ftn rfl
  change ft3 = [] at hf
  subst hf
  obtain ⟨hcl, hP, k1, G1', q1', ft1', hj2, hrc1, hmu1, -, -, hfl, hq3, hft⟩ := hz rfl
  rw [HO2.out.mu.1] at hmu1
  simp only [Bool.false_eq_true, if_false] at hmu1
  obtain rfl : k1 = 0 := by omega
  have hx := rc0 hrc1
  have hxG : G1' = G2 := congrArg Xt.G hx
  have hxq : q1' = q2 := congrArg Xt.q hx
  have hxf : ft1' = [] := congrArg Xt.ft hx
  subst hxG hxq hxf
  have hbB : b ∈ G3.B := by rw [hfl.les.B]; exact HV7.out.cm.lb b (by rw [HO2.out.L]; simp)
  have hone3 := one_flush HO2.out hv8.iv hfl.les (hcl b hbB).2 hv8.cm.ks.nin
  replace HLO := hid (HLO.out.ch hc8)
  have HV8 := hid hv8
  have HO3 := hid hone3
  have HT3 : Hid (G3.t = 1) := hfl.les.t.trans HT2.out
  have HJ2 : Hid (j2 = 1) := by show _ = _; omega
  have HLD := hid (back_ldz HZL.out HQ2.out hq3).1
  have hps : q3.ps.length = 0 := by rw [hq3, qfl_nil]; rfl
  have HPS := hid hps
  have HST3 := hid (stands_any hv8 k false false HKB.out (fun b' hb' => by rw [hone3.g] at hb'; cases hb'; exact ⟨hone3.di, hone3.pe, hone3.W b⟩) (fun e => by rw [hone3.g] at e; cases e))
  clear hv8 hc8 ho hmu hz hrc hcl hP hj2 hrc1 hmu1 hfl hq3 hft hx hbB hone3 hps HFL HV7 HO2 hpn HQ2
  unfold ptr at *
  go_wp2_with (first
    | (go_at_call 17; refine (HNU.out _ _).mono ?_; rintro e w' ⟨rfl, h⟩; replace h := h.symm; subst h))
  refine HST3.out.mono ?_
  rintro _ w9 ⟨rfl, k9⟩
  replace HLO := hid (HLO.out.kp0 k9)
  have HV9 := hid (HV8.out.kp0 k9)
  have HPE := hid (pending_w HV9.out.sw)
  rw [HPS.out] at HPE
  clear HST3 HV8 k9
  unfold ptr at *
  go_wp2_with fail
  refine HPE.out.mono ?_
  rintro _ w10 ⟨rfl, k10⟩
  replace HLO := hid (HLO.out.kp0 k10)
  have HV10 := hid (HV9.out.kp0 k10)
  obtain ⟨ab, aof, rfl⟩ : ∃ b o, ao = some ⟨b, o, none⟩ := by
    obtain ⟨b, o, e, _⟩ := HS.out (List.length_pos_iff.2 HXN.out)
    exact ⟨b, o, e⟩
  have hOW : OwnI .u8 5 (w10.alloc (.cells #[] 5)) w10.heap.size (.slice (some ⟨w10.heap.size, 0, none⟩) 0 0) [] := .inr ⟨w10.heap.size, 0, [], rfl, Nat.le_refl _, St.new 5 w10 #[], rfl, by unfold maxLen; omega⟩
  have hka : Kp (fun _ => False) w10 (w10.alloc (.cells #[] 5)) := (Kp.refl _ _).alloc _
  have HOW := hid hOW
  have HKA := hid hka
  have HSR := hid ((HS.out.kp HLO.out.kp (fun _ _ _ h => h)).kp hka (fun _ _ _ h => h))
  have HLB : Hid (([] : List Int).length + xs.length ≤ 17592186044416) := by
    have := HL.out
    show _ ≤ _
    simp
    omega
  clear HPE HV9 k10 hOW hka
  go_wp2_with (first | (at_builtin; refine wpList_append_i (κ := .u8) 47 5 1 Tryz.underlying47 Tryz.info5 (by decide) rfl (.tmp 104) (.tmp 105) rfl w10.heap.size (.slice (some ⟨w10.heap.size, 0, none⟩) 0 0) [] rfl HOW.out (some ⟨ab, aof, none⟩) m cap xs rfl HL.out (fun e => by cases e) HSR.out HLB.out HKA.out.size ?_; intro v' w11 p1 p2 p3 p4; rw [List.nil_append] at p1))
  obtain ⟨gb, cap2, tl, rfl, hgb, hrw, hlen2, hcap2⟩ : ∃ gb cap2 tl, v' = .slice (some ⟨gb, 0, none⟩) m cap2 ∧ w10.heap.size ≤ gb ∧ Rw .u8 5 w11 gb (xs ++ tl) ∧ (xs ++ tl).length = cap2 ∧ cap2 ≤ maxLen := by
    rcases p1 with ⟨_, e⟩ | ⟨gb, cap2, tl, e, h1, h2, h3, h4⟩
    · exact absurd e HXN.out
    · exact ⟨gb, cap2, tl, by rw [← HL.out]; exact e, h1, h2, h3, h4⟩
  have K11 : Kp (fun _ => False) w10 w11 := HKA.out.trans (Kp.of_grown p2 (F := fun j => j = w10.heap.size) (fun j e => by simp [Value.ownBlock] at e; exact e.symm)) (fun j hj e => by omega)
  have hw10 := HLO.out.kp.size
  replace HLO := hid (HLO.out.kp0 K11)
  have HV11 := hid (HV10.out.kp0 K11)
  have HRW : Hid (∃ ys, ys.length = m ∧ Rw .u8 5 w11 gb (ys ++ tl)) := ⟨xs, HL.out, hrw⟩
  have HGB : Hid (∀ i, (Fc Q G3 i ∨ F3 i) → i < gb) := fun i hi => by
    rcases hi with hi | hi
    · have := HV10.out.cm.lt hi; omega
    · have := HV10.out.sw.lt hi; omega
  have HGW : Hid (w.heap.size ≤ gb) := Nat.le_trans hw10 hgb
  clear p1 p2 p3 p4 hrw hlen2 HOW HSR HLB HKA K11 HV10 hcap
  unfold maxLen at hcap2
  go_wp2_with fail
  go_loopw [11] (fun vi wr => ∃ n : Nat, vi = .int .i64 n ∧ n ≤ m ∧ (∃ ys, ys.length = m ∧ Rw .u8 5 wr gb (ys ++ tl)) ∧ Kp (fun i => i = gb) w11 wr) (fun vi _ => m - (intOf vi).toNat)
  case atStart => exact ⟨0, rfl, Nat.zero_le _, HRW.out, Kp.refl _ _⟩
  case round =>
    obtain ⟨n, rfl, hn, ⟨ys, hy1, hy2⟩, hkp⟩ := hrel
    by_cases hlt : n < m
    · have hlt' : (n : Int) < (m : Int) := by omega
      have yc := hy2.cell n (by simp; omega)
      have yf := hy2.frozen n
      have HY1 := hid hy1
      have HY2 := hid hy2
      have HKP := hid hkp
      clear hy1 hy2 hkp
      go_wp2_with fail
      refine ⟨⟨n + 1, by simp, by omega, ⟨ys.set n ?E, ?A, ?B⟩, HKP.out.trans (kp_setCell wr gb n _ (fun i => i = gb) rfl) (fun _ _ h => h)⟩, by simp [intOf]; omega⟩
      case B =>
        rw [← List.set_append_left _ _ (by rw [HY1.out]; exact hlt)]
        exact HY2.out.set n _
      case A => rw [List.length_set]; exact HY1.out
    · obtain rfl : n = m := by omega
      have hloW := HLO.out
      have kW : Kp (fun i => i = gb) w11 wr := hkp
      have hvW : Cv nmf g bits 2 Q (2 + j + j2) G3 q3 [] F3 wr := HV11.out.kp kW (fun i hi e => by have := HGB.out i (.inl hi); omega) (fun i hi e => by have := HGB.out i (.inr hi); omega)
      have loW : Lo w Q G3 F3 wr := ⟨hloW.fc, hloW.ff, hloW.kp.trans kW (fun i hi e => by have := HGW.out; omega)⟩
      have hsrc : Src .u8 wr (some ⟨gb, 0, none⟩) ys := Src.mk (fun t ht => by
        rw [Nat.zero_add, hy2.cell t (by simp; omega)]
        congr 2
        simp [List.getD, List.getElem?_append_left ht, ht])
      have hyn : ys ≠ [] := fun e => by rw [e] at hy1; simp at hy1; omega
      have HV12 := hid hvW
      replace HLO := hid loW
      have hmu := HO3.out.mu.1
      have hyl : ys.length ≤ 2 ^ bits := by have := HXL.out; have := HL.out; omega
      have HW2 := hid (one_wr hvW HO3.out ys (some ⟨gb, 0, none⟩) n cap2 hy1.symm hyn hyl HKB.out hsrc (fun r off e => by
        cases e
        exact ⟨fun hx => by have := HGB.out gb (.inl hx); omega, fun hx => by have := HGB.out gb (.inr hx); omega⟩) (by rw [HT3.out]; decide) (by rw [hmu]; have := HJ.out; have := HJ2.out; simp; omega))
      clear hy1 hy2 hkp hloW kW hvW loW hsrc hyn hmu hyl HGB HGW HRW HV11
      unfold ptr at *
      go_wp2_with fail
      refine HW2.out.mono ?_
      rintro _ w13 ⟨rfl, G4, F4, hv13, hc13, hone4, ht4⟩
      have HT4 : Hid (G4.t = 2) := by show _ = _; rw [ht4, HT3.out]
      replace HLO := hid (HLO.out.ch hc13)
      have HV13 := hid hv13
      have HO4 := hid hone4
      have HD1 := hid (cdrop_any hv13 (k : Int))
      clear HW2 hv13 hc13 hone4 HV12 HO3
      unfold ptr at *
      go_wp2_with (first
        | (go_at_call 17; refine (HNU.out _ _).mono ?_; rintro e w' ⟨rfl, h⟩; replace h := h.symm; subst h))
      refine HD1.out.mono ?_
      intro e w14 hd
      unfold DrP at hd
      rw [if_pos (mayn_of HKB.out), Int.toNat_natCast, HO4.out.kg] at hd
      obtain ⟨rfl, lv, M, hM, hv14, hc14⟩ := hd
      have hgone := one_gone (lv := lv) HO4.out hM
      have HT5 : Hid ((gLet (gWn G4 b) lv M b).t = 2) := (let_t _ _ _ _).trans HT4.out
      generalize gLet (gWn G4 b) lv M b = G5 at hv14 hc14 hgone HT5
      replace HLO := hid (HLO.out.ch hc14)
      have HV14 := hid hv14
      have HGO := hid hgone
      have HD2 := hid (cdrop_any hv14 (k : Int))
      clear HD1 hv14 hc14 hgone HV13 HO4 hM
      unfold ptr at *
      go_wp2_with (first
        | (go_at_call 17; refine (HNU.out _ _).mono ?_; rintro e w' ⟨rfl, h⟩; replace h := h.symm; subst h))
      refine HD2.out.mono ?_
      intro e w15 hd
      unfold DrP at hd
      rw [if_pos (mayn_of HKB.out), Int.toNat_natCast, HGO.out.g] at hd
      obtain ⟨rfl, h15⟩ := hd
      replace h15 := h15.symm
      subst h15
      have HB2 := hid (back_any HV14.out (k : Int) (by have := mu_len G5; rw [HGO.out.L] at this; have := HJ.out; have := HJ2.out; simp at *; omega))
      clear HD2
      unfold ptr at *
      go_wp2_with (first
        | (go_at_call 17; refine (HNU.out _ _).mono ?_; rintro e w' ⟨rfl, h⟩; replace h := h.symm; subst h))
      refine HB2.out.mono ?_
      intro e w16 hd
      unfold BaP at hd
      rw [if_pos (mayn_of HKB.out), Int.toNat_natCast, HGO.out.g] at hd
      obtain ⟨rfl, h15⟩ := hd
      replace h15 := h15.symm
      subst h15
      have HST4 := hid (stands_any HV14.out k false false HKB.out (fun b' hb' => HGO.out.s b' hb') (fun _ => ⟨rfl, rfl⟩))
      clear HB2
      unfold ptr at *
      go_wp2_with (first
        | (go_at_call 17; refine (HNU.out _ _).mono ?_; rintro e w' ⟨rfl, h⟩; replace h := h.symm; subst h))
      refine HST4.out.mono ?_
      rintro _ w17 ⟨rfl, k17⟩
      replace HLO := hid (HLO.out.kp0 k17)
      have HV17 := hid (HV14.out.kp0 k17)
      have HRD := hid (gone_read HV17.out HGO.out (n := n) (by have := HXL.out; have := HL.out; omega) HKB.out (by rw [HT5.out]; decide) (by have := mu_len G5; rw [HGO.out.L] at this; have := HJ.out; have := HJ2.out; simp at *; omega))
      rw [HLD.out, ← HL.out, splice_take, HL.out] at HRD
      clear HST4 HV14 k17
      unfold ptr at *
      go_wp2_with fail
      refine HRD.out.mono ?_
      rintro _ w18 ⟨v, G6, F6, rfl, hown, hc18⟩
      replace HLO := hid (HLO.out.ch hc18)
      obtain ⟨g6, cap6, tl6, rfl, h6⟩ : ∃ g6 cap6 tl6, v = .slice (some ⟨g6, 0, none⟩) n cap6 ∧ Rw .u8 5 w18 g6 (xs ++ tl6) := by
        rcases hown with ⟨_, e⟩ | ⟨gb, cap2, tl, e, h1, h2, h3, h4⟩
        · exact absurd e HXN.out
        · exact ⟨gb, cap2, tl, by rw [← HL.out]; exact e, h2⟩
      have hs6 : Src .u8 w18 (some ⟨g6, 0, none⟩) xs := Src.mk (fun t ht => by
        rw [Nat.zero_add, h6.cell t (by simp; omega)]
        congr 2
        simp [List.getD, List.getElem?_append_left ht, ht])
      have hcv1 := cvt (c := cap6) HL.out hs6
      have hcv2 := cvt (c := cap) HL.out (HS.out.kp HLO.out.kp (fun _ _ _ h => h))
      have HWO := hid (works_any w18)
      clear hown hc18 h6 hs6 HRD HV17 HGO
      go_wp2_with (first
        | (go_at_call 17; refine (HNU.out _ _).mono ?_; rintro e w' ⟨rfl, h⟩; replace h := h.symm; subst h)
        | (go_at_call 10; refine HWO.out.mono ?_; rintro _ w19 ⟨rfl, k19⟩))
      go_ret
      exact ⟨rfl, HLO.out.kp.trans k19 (fun _ _ h => h)⟩
end Go.Proofs.YtnccklbnncaeoaaGreat
