import Derived.Test.YtnccklbnncaeoaaGreatJbp
import Derived.Test.YtnccklbnncaeoaaGreatJbg
import Derived.Test.YtnccklbnncaeoaaGreatJbk
import Derived.Laws.StructEq
/- The statements' works: the walk. -/
namespace Go.Proofs.YtnccklbnncaeoaaGreat
open Go.RowKit
set_option linter.unusedVariables false
set_option linter.unusedSimpArgs false
/-- All that a cache and its store change is newer than w0. -/
structure Lo (w0 : World) (Q : Nat) (G : Gc) (F : Nat → Prop) (w : World) : Prop where
  fc : ∀ i, Fc Q G i → w0.heap.size ≤ i
  ff : ∀ i, F i → w0.heap.size ≤ i
  kp : Kp (fun _ => False) w0 w
theorem Lo.ch {w0 : World} {Q : Nat} {G G' : Gc} {F F' : Nat → Prop} {w w' : World} (h : Lo w0 Q G F w) (c : Cch Q G G' F F' w w') : Lo w0 Q G' F' w' :=
  ⟨fun i hi => (c.fc i hi).elim (h.fc i) (fun e => Nat.le_trans h.kp.size e), fun i hi => (c.ff i hi).elim (h.ff i) (fun e => Nat.le_trans h.kp.size e),
   h.kp.trans c.kp (fun i hi e => by
     rcases e with e | e
     · have := h.fc i e; omega
     · have := h.ff i e; omega)⟩
theorem Lo.kp0 {w0 : World} {Q : Nat} {G : Gc} {F : Nat → Prop} {w w' : World} (h : Lo w0 Q G F w) (k : Kp (fun _ => False) w w') : Lo w0 Q G F w' := ⟨h.fc, h.ff, h.kp.trans k (fun _ _ e => e)⟩
theorem Lo.new {w0 w1 : World} {S : ByteArray} {g bits room : Nat} {F : Nat → Prop} (hF : ∀ i, F i → w0.heap.size ≤ i) (k : Kp (fun _ => False) w0 w1) : Lo w0 (w1.heap.size + 2) (g0 w1.heap.size) F (wCache w1 S g bits room) := by
  refine ⟨fun i hi => ?_, hF, k.trans (cache_kp w1 S g bits room) (fun _ _ e => e)⟩
  have := k.size
  rcases cache_fc hi with e | e | e <;> omega
theorem eqlFun (f : Fn) (a b : Array Value) (w : World) : (binOp .eql 76 (.func f a b) .nilFunc).run Tryz.prog w = .ok (.bool false) w := by kernel_rfl
theorem src1 (w : World) (x : Int) : Src .u8 (w.alloc (.cells #[.int .u8 x] 5)) (some ⟨w.heap.size, 0, none⟩) [x] := Src.mk (fun j hj => by
  have h1 := (St.new 5 w #[.int .u8 x]).cell j
  have hj0 : j = 0 := by simpa using hj
  subst hj0
  rw [Nat.zero_add, h1]
  simp)
/-- A page that nothing is known of is written, one byte. -/
theorem cw1 {S : ByteArray} {g bits room Q N : Nat} {G : Gc} {q : Gf} {F : Nat → Prop} {w : World} (h : Cv S g bits room Q N G q [] F w) (k : Nat) (x : Int) (hk : k < 268435456 / 2 ^ bits) (ht : G.t < 1000000000000) (hN : N + mu G + 2 ≤ 9000) (hg : nget G.c G.K k = none) (hr : G.L.length < room) :
    Calls Tryz.prog 22 #[ptr Q, .int .i64 k, .int .i64 0, .slice (some ⟨w.heap.size, 0, none⟩) 1 1] (w.alloc (.cells #[.int .u8 x] 5)) fun e w' => e = .returned (.int .i64 0) ∧ ∃ G' F' b, Cv S g bits room Q N G' q [] F' w' ∧ Cch Q G G' F F' w w' ∧ WNew bits k G q b [x] G' := by
  have ka : Kp (fun _ => False) w (w.alloc (.cells #[.int .u8 x] 5)) := (Kp.refl _ _).alloc _
  have hp := Nat.two_pow_pos bits
  refine (cw_new (h.kp0 ka) k [x] (some ⟨w.heap.size, 0, none⟩) 1 1 rfl (by simp) (by show 1 ≤ 2 ^ bits; omega) hk (src1 w x) (fun r off e => ?_) ht hN hg hr).mono ?_
  · cases e
    exact ⟨fun hx => by have := h.cm.lt hx; omega, fun hx => by have := h.sw.lt hx; omega⟩
  · rintro e w' ⟨rfl, G', F', b, hv, hc, hw⟩
    exact ⟨rfl, G', F', b, hv, Cch.pre ka hc, hw⟩
set_option maxHeartbeats 16000000 in
set_option maxRecDepth 100000 in
theorem works_any (w : World) : Calls Tryz.prog 10 #[] w fun e w' => e = .returned (.bool true) ∧ Kp (fun _ => False) w w' := by
  have HF : Hid (Calls Tryz.prog 11 #[.int .i64 4096, .slice none 0 0] w fun e w' => ∃ g F, e = .returned (ptr g) ∧ Sw nmf g 2 F ⟨4096, zero, []⟩ [] w' ∧ (∀ i, F i → w.heap.size ≤ i) ∧ Kp (fun _ => False) w w') := file_nil 4096 (by omega) w
  have HNU := hid num_any
  go_enter Tryz.func10, Tryz.ntmps10
  go_wp2_with fail
  refine HF.out.mono ?_
  rintro _ w1 ⟨g, F, rfl, hs, hF0, kF0⟩
  have hlo := Lo.new (S := nmf) (g := g) (bits := 9) (room := 2) hF0 kF0
  have hv2 := cache_cv (bits := 9) (room := 2) hs (by omega) (by omega)
  have HNEW : Hid (Calls Tryz.prog 15 #[ptr g, .string nmf, .int .i64 9, .int .i64 2] w1 fun e w' => e = .returned (.tuple #[ptr (w1.heap.size + 2), .int .i64 0]) ∧ w' = wCache w1 nmf g 9 2) := new_good (bits := 9) (room := 2) hs (by omega) (by omega)
  obtain ⟨Q, hQ⟩ : ∃ Q, w1.heap.size + 2 = Q := ⟨_, rfl⟩
  obtain ⟨m, hm⟩ : ∃ m, w1.heap.size = m := ⟨_, rfl⟩
  rw [hQ, hm] at hv2 hlo
  rw [hQ] at HNEW
  have HV2 := hid hv2
  have HLO := hid hlo
  clear hs hv2 HF hm hF0 kF0 hlo
  unfold ptr at *
  go_wp2_with fail
  refine HNEW.out.mono ?_
  rintro _ w2 ⟨rfl, hw2⟩
  rw [← hw2] at HV2 HLO
  have HPG := hid (pages_any HV2.out)
  clear HNEW hw2
  unfold ptr at *
  go_wp2_with (first
    | (go_at_call 17; refine (HNU.out _ _).mono ?_; rintro e w' ⟨rfl, h⟩; replace h := h.symm; subst h))
  refine HPG.out.mono ?_
  rintro _ w3 ⟨k3, t, v, rfl, -, -, -⟩
  have HV3 := hid (HV2.out.kp0 k3)
  replace HLO := hid (HLO.out.kp0 k3)
  have hef := eqlFun (.func 131) #[] #[.pointer (some ⟨t, 0, none⟩)] w3
  clear HPG HV2 k3
  have HW1 := hid (cw1 HV3.out 0 1 (by decide) (by show 0 < _; decide) (by have := mu_len (g0 m); have e : (g0 m).L.length = 0 := rfl; omega) rfl (by show 0 < 2; decide))
  unfold ptr at *
  go_wp2_with fail
  refine HW1.out.mono ?_
  rintro _ w4 ⟨rfl, G1, F1, b0, hv4, hc4, h1⟩
  replace HLO := hid (HLO.out.ch hc4)
  clear hc4
  have HV4 := hid hv4
  have H1 := hid h1
  have HW2 := hid (cw1 hv4 1 2 (by decide) (by rw [h1.t]; show 0 + 1 < _; decide) (by have := mu_len G1; have := h1.len; have e : (g0 m).L.length = 0 := rfl; omega) (h1.ng (fun a ha => by cases ha) rfl (by decide)) (by have := h1.len; have e : (g0 m).L.length = 0 := rfl; omega))
  clear HW1 HV3 hv4 h1 hef
  unfold ptr at *
  go_wp2_with fail
  refine HW2.out.mono ?_
  rintro _ w5 ⟨rfl, G2, F2, b1, hv5, hc5, h2⟩
  replace HLO := hid (HLO.out.ch hc5)
  clear hc5
  have h2W := two_of hv5 H1.out h2
  have HTW := hid h2W
  have HV5 := hid hv5
  have HA1 := hid (after_any hv5 0 1)
  clear HW2 HV4 H1 h2 hv5
  unfold ptr at *
  go_wp2_with fail
  refine HA1.out.mono ?_
  intro e w6 ha
  obtain ⟨rfl, hv6, hc6⟩ := two_after1 HTW.out ha
  replace HLO := hid (HLO.out.ch hc6)
  clear hc6
  have HV6 := hid hv6
  have HA2 := hid (after_any hv6 1 0)
  clear HA1 hv6 ha
  unfold ptr at *
  go_wp2_with fail
  refine HA2.out.mono ?_
  intro e w7 ha
  obtain ⟨rfl, k7⟩ := two_after2 HTW.out ha
  have HV7 := hid (HV6.out.kp0 k7)
  replace HLO := hid (HLO.out.kp0 k7)
  have HB := hid (back_any HV7.out 0 (by rw [HTW.out.mu.2]; omega))
  clear HA2 HV6 k7 ha
  unfold ptr at *
  go_wp2_with fail
  refine HB.out.mono ?_
  intro e w8 hb
  unfold BaP at hb
  rw [if_pos (by decide)] at hb
  rw [show ((0 : Int).toNat) = 0 from rfl, HTW.out.kg] at hb
  obtain ⟨z, k, G4, q4, ft4, F4, rfl, hv8, hc8, ho, hmu, hd⟩ := hb
  replace HLO := hid (HLO.out.ch hc8)
  clear hc8
  obtain ⟨rfl, hrc, hf4⟩ := ho.ftn rfl
  change ft4 = [] at hf4
  subst hf4
  obtain ⟨c1, c2, c3, c4, hct, hsz⟩ := two_back HTW.out hrc HV7.out.cm.ln.nodup (fun a ha b hb => HV7.out.cm.ks.nin a (HV7.out.iv.ll a ha) b (HV7.out.iv.ll b hb)) (fun b hb i zs e => HV7.out.yl b (HV7.out.cm.lb b hb) i zs e) (fun i _ => rfl) (by simpa using hmu) (hd rfl b0 (by simp))
  have hlen : (rdz q4 512 1).length = 1 := by
    unfold rdz
    change 4096 ≤ q4.sz at hsz
    simp
    omega
  have hval : rdz q4 512 1 = [2] := by
    unfold rdz
    change 4096 ≤ q4.sz at hsz
    rw [show min 1 (q4.sz - 512) = 1 by omega]
    show [ovs q4.L q4.ps (512 + 0)] = [2]
    change ovs q4.L q4.ps 512 = 2 at hct
    rw [hct]
  have HV8 := hid hv8
  have HR : Hid (Calls Tryz.prog 31 #[ptr g, .string nmf, .int .i64 512, .int .i64 1] w8 (RdW w8 q4 512 1)) := read_w hv8.sw 512 1
  have HSZ : Hid (¬ q4.sz < 512) := by change 4096 ≤ q4.sz at hsz; show ¬ _; omega
  have HVAL := hid hval
  have HC1 := hid c1
  have HC2 := hid c2
  have HC3 := hid c3
  have HC4 := hid c4
  clear hv8 hrc ho hmu hd hct hsz hlen hval c1 c2 c3 c4 HB HV7 HTW HV5
  unfold ptr at *
  go_wp2_with fail
  refine HR.out.mono ?_
  rintro e w9 ⟨k9, ⟨hx, -⟩ | ⟨-, b, rfl, hb9, hr9⟩⟩
  · exact absurd hx HSZ.out
  rw [HVAL.out] at hr9 ⊢
  have HV9 := hid (HV8.out.kp0 k9)
  replace HLO := hid (HLO.out.kp0 k9)
  have HRR := hid hr9
  have HCO := hid (counts_any HV9.out)
  rw [HC1.out, HC2.out, HC3.out, HC4.out] at HCO
  clear HV8 HR hr9 k9
  unfold ptr at *
  simp only [List.length_singleton]
  go_wp2_with fail
  refine HCO.out.mono ?_
  rintro _ w10 ⟨rfl, k10⟩
  have ka : Kp (fun _ => False) w10 (w10.alloc (.cells #[.int .i64 0, .int .i64 2, .int .i64 2, .int .i64 1] 79)) := (Kp.refl _ _).alloc _
  have yb := ((HRR.out.kp k10 (fun h => h)).kp ka (fun h => h)).cell 0 (by decide)
  replace HLO := hid ((HLO.out.kp0 k10).kp0 ka)
  clear ka k10
  simp at yb
  clear HCO HV9
  go_wp2_with (first
    | (go_at_call 17; refine (HNU.out _ _).mono ?_; rintro e w' ⟨rfl, h⟩; replace h := h.symm; subst h))
  go_ret
  exact ⟨rfl, HLO.out.kp⟩
end Go.Proofs.YtnccklbnncaeoaaGreat
/- A row of a law's steps: what a script reads as; fits. -/
namespace Go.Proofs.YtnccklbnncaeoaaGreat
open Go.RowKit
set_option linter.unusedVariables false
set_option linter.unusedSimpArgs false
/-- A step of a script. -/
structure Stc where
  kind : Int
  at0 : Int
  n : Int
  page : Int
  oth : Int
  ba : Option Addr
  bl : Nat
  bc : Nat
def Stc.cells (t : Stc) : List Value := [.int .i64 t.kind, .int .i64 t.at0, .int .i64 t.n, .int .i64 t.page, .int .i64 t.oth, .slice t.ba t.bl t.bc]
def zsc : Stc := ⟨0, 0, 0, 0, 0, none, 0, 0⟩
def CSrc (w : World) (ao : Option Addr) (ts : List Stc) : Prop := 0 < ts.length → ∃ b off, ao = some ⟨b, off, none⟩ ∧ b < w.heap.size ∧ ∀ i, i < ts.length → ∀ j, j < 6 → w.cell? ⟨b, off + i * 6 + j, none⟩ = (ts.getD i zsc).cells[j]?
theorem kp_cellc {F : Nat → Prop} {w w' : World} (k : Kp F w w') {b o : Nat} (hb : b < w.heap.size) (hf : ¬ F b) : w'.cell? ⟨b, o, none⟩ = w.cell? ⟨b, o, none⟩ := by
  have := k.block b hb hf
  unfold World.cell?
  simp only [this]
theorem CSrc.nil (w : World) (ao : Option Addr) : CSrc w ao [] := fun h => absurd h (by simp)
theorem CSrc.kp {F : Nat → Prop} {w w' : World} {ao : Option Addr} {ts : List Stc} (h : CSrc w ao ts) (k : Kp F w w') (hf : ∀ b off, ao = some ⟨b, off, none⟩ → b < w.heap.size → ¬ F b) : CSrc w' ao ts := by
  intro hp
  obtain ⟨b, off, rfl, hb, hc⟩ := h hp
  exact ⟨b, off, rfl, Nat.lt_of_lt_of_le hb k.size, fun i hi j hj => by rw [← hc i hi j hj]; exact kp_cellc k hb (hf b off rfl hb)⟩
theorem CSrc.at {w : World} {ao : Option Addr} {ts : List Stc} (h : CSrc w ao ts) {k : Nat} (hk : k < ts.length) : ∃ b off, ao = some ⟨b, off, none⟩ ∧ b < w.heap.size ∧ w.cell? ⟨b, off + k * 6, none⟩ = some (.int .i64 (ts.getD k zsc).kind) ∧ w.cell? ⟨b, off + k * 6 + 1, none⟩ = some (.int .i64 (ts.getD k zsc).at0) ∧ w.cell? ⟨b, off + k * 6 + 2, none⟩ = some (.int .i64 (ts.getD k zsc).n) ∧ w.cell? ⟨b, off + k * 6 + 3, none⟩ = some (.int .i64 (ts.getD k zsc).page) ∧ w.cell? ⟨b, off + k * 6 + 4, none⟩ = some (.int .i64 (ts.getD k zsc).oth) ∧ w.cell? ⟨b, off + k * 6 + 5, none⟩ = some (.slice (ts.getD k zsc).ba (ts.getD k zsc).bl (ts.getD k zsc).bc) := by
  obtain ⟨b, off, e, hb, hc⟩ := h (by omega)
  exact ⟨b, off, e, hb, hc k hk 0 (by omega), hc k hk 1 (by omega), hc k hk 2 (by omega), hc k hk 3 (by omega), hc k hk 4 (by omega), hc k hk 5 (by omega)⟩
/-- What each step of a script is. -/
structure Swc (w : World) (t : Stc) : Prop where
  b : ∃ xs : List Int, xs.length = t.bl ∧ Src .u8 w t.ba xs
  bc : t.bl ≤ t.bc
  bm : t.bc ≤ maxLen
  bx : ∀ r off, t.ba = some ⟨r, off, none⟩ → 0 < t.bl → r < w.heap.size
  a : -9223372036854775808 ≤ t.at0 ∧ t.at0 ≤ 9223372036854775807
  n : -9223372036854775808 ≤ t.n ∧ t.n ≤ 9223372036854775807
  p : -9223372036854775808 ≤ t.page ∧ t.page ≤ 9223372036854775807
  o : -9223372036854775808 ≤ t.oth ∧ t.oth ≤ 9223372036854775807
theorem getD_memC (ts : List Stc) (k : Nat) (h : k < ts.length) : ts.getD k zsc ∈ ts := by
  rw [List.getD_eq_getElem?_getD, List.getElem?_eq_getElem h]
  exact List.getElem_mem h
/-- What fits tells. -/
def FitP (sz bt rm : Int) (N : Nat) (ts : List Stc) (w : World) (e : Ending) (w' : World) : Prop :=
  ∃ b, e = .returned (.bool b) ∧ (b = true → 0 ≤ sz ∧ sz ≤ 50000 ∧ 9 ≤ bt ∧ bt ≤ 12 ∧ 1 ≤ rm ∧ rm ≤ 20 ∧ N ≤ 60 ∧ ∀ t ∈ ts, t.page < 12 ∧ t.bl ≤ 5000) ∧ Kp (fun _ => False) w w'
set_option maxRecDepth 100000 in
set_option maxHeartbeats 8000000 in
theorem fits_any (sz bt rm : Int) (ts : List Stc) (ao : Option Addr) (N cap : Nat) (w : World) (hN : N = ts.length) (hS : CSrc w ao ts) :
    Calls Tryz.prog 27 #[.agg #[.int .i64 sz, .int .i64 bt, .int .i64 rm, .slice ao N cap]] w (FitP sz bt rm N ts w) := by
  have HN := hid hN
  have HS := hid hS
  have KB : Hid (Kp (fun _ => False) w (w.alloc (.cells #[.int .i64 sz, .int .i64 bt, .int .i64 rm, .slice ao N cap] 66))) := (Kp.refl _ _).alloc _
  have SB := St.new 66 w #[.int .i64 sz, .int .i64 bt, .int .i64 rm, .slice ao N cap]
  clear hN hS
  by_cases hout : sz < 0 ∨ 50000 < sz ∨ bt < 9 ∨ 12 < bt ∨ rm < 1 ∨ 20 < rm ∨ 60 < N
  · have hno : FitP sz bt rm N ts w (.returned (.bool false)) (w.alloc (.cells #[.int .i64 sz, .int .i64 bt, .int .i64 rm, .slice ao N cap] 66)) := ⟨false, rfl, (fun h => by cases h), KB.out⟩
    have HNO := hid hno
    clear hno SB KB
    have e7 : (60 : Int) < (N : Int) ↔ 60 < N := by omega
    by_cases h1 : sz < 0
    · go_enter Tryz.func27, Tryz.ntmps27
      go_wp2_with fail
      go_ret
      exact HNO.out
    by_cases h2 : 50000 < sz
    · go_enter Tryz.func27, Tryz.ntmps27
      go_wp2_with fail
      go_ret
      exact HNO.out
    by_cases h3 : bt < 9
    · go_enter Tryz.func27, Tryz.ntmps27
      go_wp2_with fail
      go_ret
      exact HNO.out
    by_cases h4 : 12 < bt
    · go_enter Tryz.func27, Tryz.ntmps27
      go_wp2_with fail
      go_ret
      exact HNO.out
    by_cases h5 : rm < 1
    · go_enter Tryz.func27, Tryz.ntmps27
      go_wp2_with fail
      go_ret
      exact HNO.out
    by_cases h6 : 20 < rm
    · go_enter Tryz.func27, Tryz.ntmps27
      go_wp2_with fail
      go_ret
      exact HNO.out
    by_cases h7 : 60 < N
    · have h7' := e7.2 h7
      go_enter Tryz.func27, Tryz.ntmps27
      go_wp2_with fail
      go_ret
      exact HNO.out
    omega
  · have h7' : ¬ (60 : Int) < (N : Int) := by omega
    have h1 : ¬ sz < 0 := by omega
    have h2 : ¬ 50000 < sz := by omega
    have h3 : ¬ bt < 9 := by omega
    have h4 : ¬ 12 < bt := by omega
    have h5 : ¬ rm < 1 := by omega
    have h6 : ¬ 20 < rm := by omega
    have h7 : N ≤ 60 := by omega
    clear hout
    go_enter Tryz.func27, Tryz.ntmps27
    go_wp2_with fail
    obtain ⟨X, hX⟩ : ∃ X, w.heap.size = X := ⟨_, rfl⟩
    obtain ⟨w1, hw1⟩ : ∃ w1, w.alloc (.cells #[.int .i64 sz, .int .i64 bt, .int .i64 rm, .slice ao N cap] 66) = w1 := ⟨_, rfl⟩
    rw [hw1] at KB SB
    rw [hX] at SB
    rw [hw1, hX]
    have z3 := SB.cell 3
    simp at z3
    have HS1 := hid (HS.out.kp KB.out (fun _ _ _ _ h => h))
    clear hw1 hX HS SB
    go_loopw [3] (fun iv wr => ∃ k : Nat, iv = .int .i64 k ∧ k ≤ N ∧ (∀ t ∈ ts.take k, t.page < 12 ∧ t.bl ≤ 5000) ∧ wr = w1) (fun iv _ => N - (intOf iv).toNat)
    case atStart => exact ⟨0, rfl, Nat.zero_le _, fun t ht => (by simp at ht), rfl⟩
    case round =>
      obtain ⟨k, rfl, hk, hbl, rfl⟩ := hrel
      have HBL := hid hbl
      clear hbl
      by_cases hlt : k < N
      · have hlt' : (k : Int) < (N : Int) := by omega
        have hlt2 : k < ts.length := by have := HN.out; omega
        obtain ⟨b, off, rfl, hb, y0, y1, y2, y3, y4, y5⟩ := HS1.out.at hlt2
        have HTK : Hid (ts.take (k + 1) = ts.take k ++ [ts.getD k zsc]) := by show _ = _; rw [List.getD_eq_getElem?_getD, List.getElem?_eq_getElem hlt2]; simp
        generalize ts.getD k zsc = t at *
        obtain ⟨kd, a0, n0, pg, ot, ba, bl, bc⟩ := t
        dsimp only at y0 y1 y2 y3 y4 y5
        have HBT : Hid (pg < 12 → bl ≤ 5000 → ∀ t ∈ ts.take (k + 1), t.page < 12 ∧ t.bl ≤ 5000) := by
          intro h h' t ht
          rw [HTK.out] at ht
          rcases List.mem_append.1 ht with h1 | h1
          · exact HBL.out t h1
          · rw [List.mem_singleton.1 h1]; exact ⟨h, h'⟩
        have HNO : Hid (FitP sz bt rm N ts w (.returned (.bool false)) wr) := ⟨false, rfl, (fun h => by cases h), KB.out⟩
        clear HTK HBL hb y0 y1 y2 y4
        by_cases hpg : pg < 12
        · by_cases hbl : bl ≤ 5000
          · have h9 : ¬ (5000 : Int) < (bl : Int) := by omega
            go_wp2_with fail
            exact ⟨⟨k + 1, by simp, by omega, HBT.out hpg hbl, trivial⟩, by simp [intOf]; omega⟩
          · have h9 : (5000 : Int) < (bl : Int) := by omega
            go_wp2_with fail
            go_ret
            exact HNO.out
        · have h8 : 12 ≤ pg := by omega
          go_wp2_with fail
          go_ret
          exact HNO.out
      · obtain rfl : k = N := by omega
        have hall : ∀ t ∈ ts, t.page < 12 ∧ t.bl ≤ 5000 := by
          have := HBL.out
          rw [HN.out, List.take_of_length_le (Nat.le_refl _)] at this
          exact this
        have HYES : Hid (FitP sz bt rm k ts w (.returned (.bool true)) wr) := ⟨true, rfl, (fun _ => ⟨by omega, by omega, by omega, by omega, by omega, by omega, by omega, hall⟩), KB.out⟩
        clear hall HBL
        go_wp2_with fail
        go_ret
        exact HYES.out
end Go.Proofs.YtnccklbnncaeoaaGreat
/- cache: one page that is kept, written back, flushed, let go. -/
namespace Go.Proofs.YtnccklbnncaeoaaGreat
open Go.RowKit
set_option linter.unusedVariables false
set_option linter.unusedSimpArgs false
/-- One page is known, and kept; nobody waits. -/
structure One (k : Nat) (G : Gc) (b i : Nat) (zs : List Int) (d p : Bool) : Prop where
  K : ∀ a ∈ G.K, a = b
  L : G.L = [b]
  g : nget G.c G.K k = some b
  n : (G.c b).n = k
  di : (G.c b).di = d
  pe : (G.c b).pe = p
  y : G.y b = some (i, zs)
  W : ∀ x, G.W x = []
section
variable {S : ByteArray} {g bits Q N k b i : Nat} {zs : List Int} {G G' : Gc} {q : Gf} {F : Nat → Prop} {w : World}
theorem One.kg {d p : Bool} (h : One k G b i zs d p) : kget G k = some b := by
  unfold kget
  rw [h.g]
  dsimp only
  rw [h.y]
  rfl
theorem One.mu {d p : Bool} (h : One k G b i zs d p) : YtnccklbnncaeoaaGreat.mu G = (if d then 1 else 0) ∧ dn G = (if d then 1 else 0) := by
  have h1 : dn G = (if d then 1 else 0) := by
    unfold dn
    rw [h.L]
    cases d <;> simp [h.di]
  have h2 : dw G = 0 := by
    unfold dw
    rw [h.L]
    simp [h.W]
  unfold YtnccklbnncaeoaaGreat.mu
  exact ⟨by omega, h1⟩
theorem one_new {m : Nat} {xs : List Int} (h : Cv S g bits 2 Q N G q [] F w) (h1 : WNew bits k (g0 m) q b xs G) : ∃ i, One k G b i (splice (ldz q bits k) 0 xs) true false := by
  obtain ⟨i, hi⟩ := h1.yb
  have hK : G.K = [b] := h1.K
  refine ⟨i, fun a ha => by rw [hK] at ha; simpa using ha, List.perm_singleton.1 h1.L, ?_, h1.n, h1.di, h1.pe, hi, fun x => by rw [h1.W]; rfl⟩
  rw [← h1.n]
  exact nget_of h.cm.ks.nin (by rw [hK]; simp)
theorem rc0 {bits : Nat} {X Y : Xt} (h : Rc bits 0 X Y) : Y = X := h
theorem rc1 {bits : Nat} {X Y : Xt} (h : Rc bits 1 X Y) : Mve bits X Y := by
  obtain ⟨Z, hr, hm⟩ := h
  have := rc0 hr
  rw [this] at hm
  exact hm
/-- It is written back. -/
theorem one_back {j : Nat} {q' : Gf} {p : Bool} (h : One k G b i zs true p) (hr : Rc bits j ⟨G, q, []⟩ ⟨G', q', []⟩) (hm : j + YtnccklbnncaeoaaGreat.mu G' ≤ YtnccklbnncaeoaaGreat.mu G) (hd : (G'.c b).di = false) : One k G' b i zs false true ∧ q' = gwr (k * 2 ^ bits) zs q (pcs (k * 2 ^ bits) zs.length) := by
  rw [h.mu.1] at hm
  simp only [if_true] at hm
  have hj : j = 1 := by
    rcases Nat.lt_or_ge j 1 with h1 | h1
    · obtain rfl : j = 0 := by omega
      have := congrArg Xt.G (rc0 hr)
      change G' = G at this
      rw [this, h.di] at hd
      cases hd
    · omega
  subst hj
  have hmv := rc1 hr
  generalize hX : (⟨G, q, []⟩ : Xt) = X at hmv
  generalize hY : (⟨G', q', []⟩ : Xt) = Y at hmv
  cases hmv using Mve.el with
  | fl hk kk =>
    rename_i G1
    subst hX
    have e1 := congrArg Xt.G hY
    change G' = G1 at e1
    subst e1
    have := (kk.les.c b).2.2.1
    change (G'.c b).di = (G.c b).di at this
    rw [hd, h.di] at this
    cases this
  | wr hk hbL hdi hW hyb kk =>
    rename_i G1 b1 i1 zs1
    subst hX
    have e1 := congrArg Xt.G hY
    have e2 := congrArg Xt.q hY
    change G' = G1 at e1
    subst e1
    change b1 ∈ G.L at hbL
    rw [h.L] at hbL
    obtain rfl : b1 = b := by simpa using hbL
    change G.y b1 = some (i1, zs1) at hyb
    rw [h.y] at hyb
    cases hyb
    change q' = qwr q [] ((G.c b1).n * 2 ^ bits) zs at e2
    rw [qwr_nil, h.n] at e2
    have hc := kk.c b1
    rw [if_pos rfl] at hc
    have hn : ∀ a, (G'.c a).n = (G.c a).n := fun a => (kk.stb.c a).1
    refine ⟨⟨fun a ha => h.K a (by have := kk.K; change G'.K = G.K at this; rw [← this]; exact ha), List.perm_singleton.1 (by have := kk.L; change G'.L.Perm G.L at this; rw [h.L] at this; exact this), ?_, by rw [hn]; exact h.n, hd, by rw [hc], by have := kk.y; change G'.y = G.y at this; rw [this]; exact h.y, fun x => by have := kk.W; change G'.W = G.W at this; rw [this]; exact h.W x⟩, e2⟩
    have e3 : G'.K = G.K := kk.K
    have hg := h.g
    unfold nget at hg ⊢
    rw [e3]
    simpa only [hn] using hg
/-- It is flushed. -/
theorem one_flush {p : Bool} (h : One k G b i zs false p) (hv : Iv G') (hl : Les G G') (hp : (G'.c b).pe = false) (hnin : Nin G'.c G'.K) : One k G' b i zs false false := by
  have hL : G'.L = [b] := by rw [hl.L]; exact h.L
  have hbK : b ∈ G'.K := hv.ll b (by rw [hL]; simp)
  have hn : (G'.c b).n = k := by rw [(hl.c b).1]; exact h.n
  refine ⟨fun a ha => h.K a (hl.K a ha), hL, by rw [← hn]; exact nget_of hnin hbK, hn, by rw [(hl.c b).2.2.1]; exact h.di, hp, by rw [hl.y]; exact h.y, fun x => ?_⟩
  exact nil_of_sub (hl.W x) (h.W x)
/-- It is changed. -/
theorem one_wr {room : Nat} {d p : Bool} {ft : List (Int × Int)} (hv : Cv S g bits room Q N G q ft F w) (h : One k G b i zs d p) (xs : List Int) (ao : Option Addr) (m cap : Nat) (hm : m = xs.length) (hx : xs ≠ []) (hxl : xs.length ≤ 2 ^ bits) (hk : k < 268435456 / 2 ^ bits) (hS : Src .u8 w ao xs) (hdis : ∀ r off, ao = some ⟨r, off, none⟩ → ¬ Fc Q G r ∧ ¬ F r) (ht : G.t < 1000000000000) (hN : N + YtnccklbnncaeoaaGreat.mu G + 2 ≤ 9000) :
    Calls Tryz.prog 22 #[ptr Q, .int .i64 k, .int .i64 0, .slice ao m cap] w fun e w' => e = .returned (.int .i64 0) ∧ ∃ G' F', Cv S g bits room Q N G' q ft F' w' ∧ Cch Q G G' F F' w w' ∧ One k G' b i (splice zs 0 xs) true p ∧ G'.t = G.t + 1 := by
  have hp := pow_le bits hv.bb
  have hm6 : m ≤ 4611686018427387904 := by rw [hm]; omega
  refine (cwrite_any hv (k : Int) 0 xs ao m cap hm hm6 hS hdis (by decide) ht hN).mono ?_
  intro e w' hw
  have hma := mayn_of hk
  have hwi : withn bits (0 : Int) (xs.length : Int) = true := withn_of (a := 0) (by omega)
  have hkg := h.kg
  cases hw using WrR.el with
  | bad h1 _ => rw [hma, hwi] at h1; cases h1
  | fail a1 a2 a3 a4 a5 a6 a7 a8 => rw [Int.toNat_natCast, hkg] at a3; cases a3
  | nil a1 a2 a3 a4 he a5 a6 => exact absurd he hx
  | ok a1 a2 hu hbL hy a6 hL hvv hc =>
    rename_i k1 b' i' zs' lv L H q1 ft1 F1
    rw [Int.toNat_natCast] at hu
    rcases hu with ⟨hk1, rfl, rfl, rfl, lv1, L1, hL1, rfl⟩ | ⟨hk1, _⟩
    · rw [hkg] at hk1
      cases hk1
      change G.y b = some (i', zs') at hy
      rw [h.y] at hy
      cases hy
      have hL' : L = [b] := List.perm_singleton.1 (by
        have := hL.trans (show L1.Perm G.L from hL1)
        rw [h.L] at this; exact this)
      have hn : ∀ a, (gWr (gUse { G with n1 := G.n1 + 1 } b lv1 L1) b i (splice zs (0 : Int).toNat xs) lv L).c a = (if a = b then { G.c b with tk := G.t + 1, di := true } else G.c a) := fun a => by
        show upd (upd G.c b { G.c b with tk := G.t + 1 }) b { (upd G.c b { G.c b with tk := G.t + 1 }) b with di := true } a = _
        by_cases e : a = b
        · subst e
          rw [upd_same, upd_same, if_pos rfl]
        · rw [upd_other _ _ e, upd_other _ _ e, if_neg e]
      refine ⟨rfl, _, F1, hvv, hc, ⟨h.K, hL', ?_, by rw [hn, if_pos rfl]; exact h.n, by rw [hn, if_pos rfl], by rw [hn, if_pos rfl]; exact h.pe, ?_, h.W⟩, rfl⟩
      · have hg := h.g
        have hnn : ∀ a, ((gWr (gUse { G with n1 := G.n1 + 1 } b lv1 L1) b i (splice zs (0 : Int).toNat xs) lv L).c a).n = (G.c a).n := fun a => by
          rw [hn]
          split
          · rename_i e; rw [e]
          · rfl
        unfold nget at hg ⊢
        simp only [hnn]
        exact hg
      · show upd _ b _ b = _
        rw [upd_same]
        rfl
    · rw [hkg] at hk1; cases hk1
/-- It is not kept any more, and nobody waits. -/
structure Gone (k : Nat) (G : Gc) : Prop where
  L : G.L = []
  g : kget G k = none
  s : ∀ a, nget G.c G.K k = some a → (G.c a).di = false ∧ (G.c a).pe = false ∧ G.W a = []
theorem forget_sub (G : Gc) (b : Nat) : (∀ a, a ∈ (gForget G b).K → a ∈ G.K) ∧ (∀ x a, a ∈ (gForget G b).W x → a ∈ G.W x) ∧ (gForget G b).y = G.y := by
  unfold gForget
  split
  · exact ⟨fun a ha => (List.mem_filter.1 ha).1, fun _ _ h => h, rfl⟩
  · exact ⟨fun _ h => h, fun _ _ h => h, rfl⟩
theorem set_sub (G : Gc) (b : Nat) : (∀ a, a ∈ (gSet G b).K → a ∈ G.K) ∧ (∀ x a, a ∈ (gSet G b).W x → a ∈ G.W x) ∧ (gSet G b).y = G.y := by
  unfold gSet
  split
  · exact forget_sub G b
  · obtain ⟨h1, h2, h3⟩ := forget_sub { gS G b (G.R b) with R := upd G.R b [] } b
    refine ⟨fun a ha => ?_, fun x a ha => ?_, h3⟩
    · have := h1 a ha
      exact (List.mem_filter.1 this).1
    · have h4 := h2 x a ha
      change a ∈ (if x ∈ G.R b then (G.W x).filter (fun x => decide (x ≠ b)) else G.W x) at h4
      split at h4
      · exact (List.mem_filter.1 h4).1
      · exact h4
theorem one_gone {d : Bool} {lv : Value} {M : List Nat} (h : One k G b i zs d false) (hM : (b :: M).Perm G.L) : Gone k (gLet (gWn G b) lv M b) := by
  rw [h.L] at hM
  have hM0 : M = [] := List.eq_nil_of_length_eq_zero (by have := hM.length_eq; simpa using this)
  obtain ⟨s1, s2, s3⟩ := set_sub (gBare { gWn G b with lv := lv, L := M } b) b
  have hc : ∀ a, (gLet (gWn G b) lv M b).c a = (gBare (gWn G b) b).c a := fun a => let_c (gWn G b) lv M b a
  refine ⟨(let_L _ _ _ _).trans hM0, ?_, fun a ha => ?_⟩
  · unfold kget
    split
    · rename_i a ha
      have hK := (nget_mem ha).1
      have hab := h.K a (s1 a hK)
      subst hab
      have hy : (gLet (gWn G a) lv M a).y a = none := by
        have : (gLet (gWn G a) lv M a).y = (gBare { gWn G a with lv := lv, L := M } a).y := s3
        rw [this]
        exact upd_same _ _ _
      rw [if_pos hy]
    · rfl
  · have hab := h.K a (s1 a (nget_mem ha).1)
    subst hab
    have hb := bare_c (gWn G a) a a
    refine ⟨by rw [hc, hb.2.2.2, if_pos rfl], by rw [hc, hb.2.1]; exact h.pe, nil_of_sub (s2 a) ?_⟩
    show upd G.W a [] a = []
    exact upd_same _ _ _
/-- It is read from the file. -/
theorem gone_read {n : Nat} (hv : Cv S g bits 2 Q N G q [] F w) (h : Gone k G) (hn : n ≤ 2 ^ bits) (hk : k < 268435456 / 2 ^ bits) (ht : G.t < 1000000000000) (hN : N + YtnccklbnncaeoaaGreat.mu G + 2 ≤ 9000) :
    Calls Tryz.prog 28 #[ptr Q, .int .i64 k, .int .i64 0, .int .i64 n] w fun e w' => ∃ v G' F', e = .returned (.tuple #[v, .int .i64 0]) ∧ OwnI .u8 5 w' w.heap.size v ((ldz q bits k).take n) ∧ Cch Q G G' F F' w w' := by
  have hp := pow_le bits hv.bb
  refine (read_any hv (k : Int) 0 (n : Int) (by decide) ht hN).mono ?_
  intro e w' hr
  have hma := mayn_of hk
  have hwi : withn bits (0 : Int) (n : Int) = true := withn_of (a := 0) (by omega)
  cases hr using RdR.el with
  | bad h1 _ => rw [hma, hwi] at h1; cases h1
  | fail a1 a2 a3 hz ho a6 a7 a8 => exact absurd (ho.ftn rfl).1 hz
  | ok a1 a2 hu hbL hy hown hno hvv hc =>
    rename_i k1 b i zs v H q1 ft1 F1
    rw [Int.toNat_natCast] at hu
    rcases hu with ⟨hk1, _⟩ | ⟨hk1, G1, hrm, s, G2, j, lv, L, hs, hj, hkn, hkp, hL, rfl⟩
    · rw [h.g] at hk1; cases hk1
    · rcases hrm with ⟨_, rfl, rfl, rfl, rfl⟩ | ⟨hnr, _⟩
      · have hyy : zs = ldz q1 bits k := by
          change upd _ b (some (j, ldz q1 bits k)) b = some (i, zs) at hy
          rw [upd_same] at hy
          cases hy
          rfl
        rw [hyy, show ((0 : Int).toNat) = 0 from rfl, List.drop_zero, Int.toNat_natCast] at hown
        exact ⟨v, _, F1, rfl, hown, hc⟩
      · exact absurd (by rw [h.L]; show 0 < 2; omega) hnr
end
end Go.Proofs.YtnccklbnncaeoaaGreat
/- CacheRoom: what each call keeps. -/
namespace Go.Proofs.YtnccklbnncaeoaaGreat
open Go.RowKit
set_option linter.unusedVariables false
set_option linter.unusedSimpArgs false
theorem set_cnt (G : Gc) (b : Nat) : (gSet G b).n1 = G.n1 ∧ (gSet G b).n2 = G.n2 ∧ (gSet G b).n3 = G.n3 := by
  unfold gSet
  split
  · exact ⟨(les_forget G b).n1, (les_forget G b).n2, (les_forget G b).n3⟩
  · exact ⟨(les_forget { gS G b (G.R b) with R := upd G.R b [] } b).n1, (les_forget { gS G b (G.R b) with R := upd G.R b [] } b).n2, (les_forget { gS G b (G.R b) with R := upd G.R b [] } b).n3⟩
theorem let_cnt (G : Gc) (lv : Value) (M : List Nat) (b : Nat) : (gLet G lv M b).n1 = G.n1 ∧ (gLet G lv M b).n2 = G.n2 ∧ (gLet G lv M b).n3 = G.n3 := set_cnt _ _
theorem let_W0 {G : Gc} {lv : Value} {M : List Nat} {b : Nat} (h : ∀ x, G.W x = []) (x : Nat) : (gLet G lv M b).W x = [] :=
  nil_of_sub (fun a ha => (set_sub (gBare { G with lv := lv, L := M } b) b).2.1 x a ha) (h x)
theorem mu_nil {G : Gc} (h : ∀ x, G.W x = []) : mu G = dn G := by
  unfold mu dw
  simp [h]
/-- How many of these are dirty. -/
theorem dn_eq {c d : Nat → Pc} {L : List Nat} (h : ∀ a ∈ L, (c a).di = (d a).di) : L.countP (fun b => (c b).di) = L.countP (fun b => (d b).di) := by
  apply List.countP_congr
  intro a ha
  rw [h a ha]
theorem let_dn {G : Gc} {lv : Value} {M : List Nat} {b : Nat} (hp : (b :: M).Perm G.L) (hd : (G.c b).di = false) : dn (gLet G lv M b) = dn G := by
  unfold dn
  rw [let_L, ← hp.countP_eq, List.countP_cons]
  rw [dn_eq (d := G.c) (fun a _ => ?_)]
  · simp [hd]
  · rw [let_c, (bare_c G b a).2.2.2]
    split
    · rename_i e; rw [e, hd]
    · rfl
/-- What holds between the calls: nobody waits; what was written back was written; who is kept was loaded. -/
structure Rm (writes : Nat) (G : Gc) : Prop where
  W : ∀ x, G.W x = []
  b : G.n3 + dn G ≤ writes
  l : G.L.length ≤ G.n2
  p : ∀ a ∈ G.L, (G.c a).n < 12
section
variable {S : ByteArray} {g bits room Q N s0 k1 k b wr : Nat} {G G1 H : Gc} {q q1 : Gf} {ft1 : List (Int × Int)} {F : Nat → Prop} {w : World}
theorem rm0 (m : Nat) : Rm 0 (g0 m) := ⟨fun _ => rfl, Nat.le_refl _, Nat.le_refl _, fun a ha => by cases ha⟩
theorem rm_room (h : Cv S g bits room Q N G q [] F w) (hR : Rm wr G) (hu : RmG bits room k1 G q [] G1 q1 ft1) : Rm wr G1 ∧ ft1 = [] ∧ k1 + mu G1 ≤ mu G ∧ G1.t = G.t ∧ G1.n3 + dn G1 = G.n3 + dn G := by
  rcases hu with ⟨_, rfl, rfl, rfl, rfl⟩ | ⟨_, G', ho, hm, hd, lv, M, hp, rfl⟩
  · exact ⟨hR, rfl, by omega, rfl, rfl⟩
  · obtain ⟨-, hrc, hf⟩ := ho.ftn rfl
    have hs := hrc.stb
    have hW' : ∀ x, G'.W x = [] := fun x => nil_of_sub (hs.W x) (hR.W x)
    have hdn := hrc.dn h.cm.ln.nodup
    change G'.n3 + dn G' = G.n3 + dn G at hdn
    obtain ⟨c1, c2, c3⟩ := let_cnt G' lv M (G.L.getD 0 0)
    have hl := let_dn (lv := lv) hp hd
    have hLn : M.length + 1 = G.L.length := by
      have h1 := hp.length_eq
      have h2 := hs.L.length_eq
      change G'.L.length = G.L.length at h2
      rw [List.length_cons] at h1
      omega
    have e2 : G'.n2 = G.n2 := hs.n2
    refine ⟨⟨fun x => let_W0 hW' x, ?_, ?_, fun a ha => ?_⟩, hf, ?_, (let_t _ _ _ _).trans hs.t, ?_⟩
    · rw [c3, hl, hdn]; exact hR.b
    · have := hR.l
      rw [let_L, c2, e2]; omega
    · rw [let_L] at ha
      rw [let_c, (bare_c G' (G.L.getD 0 0) a).1]
      have h1 : (G'.c a).n = (G.c a).n := (hs.c a).1
      rw [h1]
      exact hR.p a (hs.L.mem_iff.1 (hp.mem_iff.1 (List.mem_cons_of_mem _ ha)))
    · rw [mu_nil (fun x => let_W0 hW' x), hl, ← mu_nil hW']; exact hm
    · rw [c3, hl, hdn]
theorem use_rm (h : Cv S g bits room Q N G q [] F w) (hR : Rm wr G) (hu : UseG bits room s0 k1 k G q [] H q1 ft1 b) (hk : k < 12) : Rm wr H ∧ ft1 = [] ∧ k1 + mu H ≤ mu G ∧ H.t = G.t + 1 := by
  rcases hu with ⟨hg, rfl, rfl, rfl, lv, L, hL, rfl⟩ | ⟨hg, G1, hrm, s, G2, i, lv, L, hs, hi, hkn, hkp, hL, rfl⟩
  · have hc := use_c { G with n1 := G.n1 + 1 } b (G.t + 1)
    have hd : dn (gUse { G with n1 := G.n1 + 1 } b lv L) = dn G := by
      show L.countP (fun a => (upd G.c b { G.c b with tk := G.t + 1 } a).di) = _
      rw [dn_eq (d := G.c) (fun a _ => (hc a).2.1), hL.countP_eq]
      rfl
    refine ⟨⟨hR.W, ?_, ?_, fun a ha => ?_⟩, rfl, ?_, rfl⟩
    · rw [hd]; exact hR.b
    · show L.length ≤ G.n2
      rw [hL.length_eq]; exact hR.l
    · show (upd G.c b { G.c b with tk := G.t + 1 } a).n < 12
      rw [(hc a).1]; exact hR.p a (hL.mem_iff.1 ha)
    · have hWH : ∀ x, (gUse { G with n1 := G.n1 + 1 } b lv L).W x = [] := hR.W
      rw [mu_nil hWH, hd, ← mu_nil hR.W]; omega
  · obtain ⟨hR1, hf, hm, ht, hdn⟩ := rm_room h hR hrm
    have hLB : ∀ a ∈ G1.L, a ≠ b ∧ G2.c a = G1.c a := fun a ha => by
      have h1 : a ∈ G2.L := by rw [hkp.L]; exact ha
      have h2 : a ≠ b := fun e => hkp.bL (e ▸ h1)
      have h3 := ((hkp.iv.lk a).1 h1).1
      rcases hkp.B a h3 with h4 | h4
      · exact ⟨h2, hkp.c a h4⟩
      · exact absurd h4 h2
    have hW2 : ∀ x, G2.W x = [] := fun x => by
      rcases hkn with ⟨_, rfl⟩ | ⟨_, wm, rm, _, _, _, rfl⟩
      · exact hR1.W x
      · show upd G1.W b [] x = []
        unfold upd
        split
        · rfl
        · exact hR1.W x
    have hc := use_c (gBring G2 b i (ldz q1 bits k)) b (G2.t + 1)
    have hb1 : ∀ a, (upd G2.c b { G2.c b with bv := .slice (some ⟨i, 0, none⟩) (ldz q1 bits k).length (ldz q1 bits k).length } a).di = (G2.c a).di ∧ (upd G2.c b { G2.c b with bv := .slice (some ⟨i, 0, none⟩) (ldz q1 bits k).length (ldz q1 bits k).length } a).n = (G2.c a).n := fun a => by
      unfold upd
      split
      · rename_i e; rw [e]; exact ⟨rfl, rfl⟩
      · exact ⟨rfl, rfl⟩
    have hcd : ∀ a, ((gUse (gBring G2 b i (ldz q1 bits k)) b lv L).c a).di = (G2.c a).di := fun a => (hc a).2.1.trans (hb1 a).1
    have hcn : ∀ a, ((gUse (gBring G2 b i (ldz q1 bits k)) b lv L).c a).n = (G2.c a).n := fun a => (hc a).1.trans (hb1 a).2
    have hd : dn (gUse (gBring G2 b i (ldz q1 bits k)) b lv L) = dn G1 := by
      show L.countP (fun a => ((gUse (gBring G2 b i (ldz q1 bits k)) b lv L).c a).di) = G1.L.countP (fun a => (G1.c a).di)
      rw [dn_eq (d := G2.c) (fun a _ => hcd a), hL.countP_eq, List.countP_cons, hkp.di, dn_eq (d := G1.c) (fun a ha => by rw [(hLB a ha).2])]
      simp
    have hWH : ∀ x, (gUse (gBring G2 b i (ldz q1 bits k)) b lv L).W x = [] := hW2
    have e3 : (gUse (gBring G2 b i (ldz q1 bits k)) b lv L).n3 = G1.n3 := hkp.n3
    have e2 : (gUse (gBring G2 b i (ldz q1 bits k)) b lv L).n2 = G1.n2 + 1 := hkp.n2
    have et : (gUse (gBring G2 b i (ldz q1 bits k)) b lv L).t = G1.t + 1 := congrArg (· + 1) hkp.t
    refine ⟨⟨hWH, ?_, ?_, fun a ha => ?_⟩, hf, ?_, et.trans (by rw [ht])⟩
    · rw [e3, hd]; exact hR1.b
    · have := hR1.l
      show L.length ≤ _
      rw [e2, hL.length_eq, List.length_cons]; omega
    · rw [hcn a]
      rcases List.mem_cons.1 (hL.mem_iff.1 ha) with rfl | h1
      · rw [hkp.n]; exact hk
      · rw [(hLB a h1).2]; exact hR1.p a h1
    · rw [mu_nil hWH, hd, ← mu_nil hR1.W]; exact hm
theorem wr_rm {i : Nat} {zs : List Int} {lv : Value} {L : List Nat} (hR : Rm wr H) (hb : b ∈ H.L) (hnd : H.L.Nodup) (hL : L.Perm H.L) : Rm (wr + 1) (gWr H b i zs lv L) ∧ mu (gWr H b i zs lv L) ≤ mu H + 1 := by
  have hc := di_c H b true
  have hd : dn (gWr H b i zs lv L) ≤ dn H + 1 := by
    show L.countP (fun a => (upd H.c b { H.c b with di := true } a).di) ≤ _
    rw [hL.countP_eq]
    have hp : H.L.Perm (b :: H.L.erase b) := List.perm_cons_erase hb
    unfold dn
    rw [hp.countP_eq, hp.countP_eq, List.countP_cons, List.countP_cons]
    have hne : ∀ a ∈ H.L.erase b, a ≠ b := fun a ha e => by
      have := (hp.nodup_iff.1 hnd)
      rw [List.nodup_cons] at this
      exact this.1 (e ▸ ha)
    rw [dn_eq (c := upd H.c b { H.c b with di := true }) (d := H.c) (fun a ha => by rw [upd_other _ _ (hne a ha)])]
    split <;> split <;> omega
  have hWH : ∀ x, (gWr H b i zs lv L).W x = [] := hR.W
  refine ⟨⟨hWH, ?_, ?_, fun a ha => ?_⟩, ?_⟩
  · have h1 : (gWr H b i zs lv L).n3 = H.n3 := rfl
    have := hR.b
    rw [h1]; omega
  · show L.length ≤ H.n2
    rw [hL.length_eq]; exact hR.l
  · show (upd H.c b { H.c b with di := true } a).n < 12
    rw [(hc a).1]; exact hR.p a (hL.mem_iff.1 ha)
  · rw [mu_nil hWH, mu_nil hR.W]; exact hd
end
end Go.Proofs.YtnccklbnncaeoaaGreat
/- CachePlain: what is read through the cache, move by move; plain mathematics. -/
namespace Go.Proofs.YtnccklbnncaeoaaGreat
open Go.RowKit
set_option linter.unusedVariables false
set_option linter.unusedSimpArgs false
/-- What is read through the cache is v: a page that is kept tells it, the file tells the rest. -/
structure Vw (bits M : Nat) (G : Gc) (q : Gf) (v : Nat → Int) : Prop where
  zb : Zb q
  cl : Cl bits G q
  kp : ∀ b ∈ G.L, ∀ i zs, G.y b = some (i, zs) → ∀ j, j < 2 ^ bits → zs.getD j 0 = v ((G.c b).n * 2 ^ bits + j)
  ot : ∀ p, (∀ b ∈ G.L, ¬ inP bits (G.c b).n p) → cont q p = v p
  sz : q.sz ≤ M
  pm : ∀ b ∈ G.L, ((G.c b).n + 1) * 2 ^ bits ≤ M
section
variable {bits M n : Nat} {G G' : Gc} {q q' : Gf} {v : Nat → Int}
theorem Vw.rc (h : Vw bits M G q v) (hr : Rc bits n ⟨G, q, []⟩ ⟨G', q', []⟩) (hn : Nin G.c G.L) (hy : ∀ b ∈ G.L, ∀ i zs, G.y b = some (i, zs) → zs.length = 2 ^ bits) : Vw bits M G' q' v := by
  have f := rc_cl hr rfl hn hy h.zb h.cl
  have s := hr.stb
  change Stb G G' at s
  refine ⟨f.zb, f.cl, fun b hb i zs e j hj => ?_, fun p hp => ?_, f.szb M h.sz h.pm, fun b hb => ?_⟩
  · rw [(s.c b).1]
    exact h.kp b (s.L.mem_iff.1 hb) i zs (by rw [← s.y]; exact e) j hj
  · have h1 := f.eq p (fun b hb hi => hp b (s.L.mem_iff.2 hb) (by rw [(s.c b).1]; exact hi))
    exact h1.trans (h.ot p (fun b hb hi => hp b (s.L.mem_iff.2 hb) (by rw [(s.c b).1]; exact hi)))
  · rw [(s.c b).1]; exact h.pm b (s.L.mem_iff.1 hb)
theorem set_y (G : Gc) (b : Nat) : (gSet G b).y = G.y := by
  unfold gSet
  split
  · exact (les_forget G b).y
  · exact (les_forget { gS G b (G.R b) with R := upd G.R b [] } b).y
theorem let_y (G : Gc) (lv : Value) (M : List Nat) (b a : Nat) : (gLet G lv M b).y a = if a = b then none else G.y a := by
  show (gSet (gBare { G with lv := lv, L := M } b) b).y a = _
  rw [set_y]
  exact bare_y { G with lv := lv, L := M } b a
theorem inP_to {bits n p : Nat} (h : inP bits n p) : ∃ j, j < 2 ^ bits ∧ p = n * 2 ^ bits + j := ⟨p - n * 2 ^ bits, by have := h.1; have := h.2; omega, by have := h.1; omega⟩
theorem Vw.lets {lv : Value} {L' : List Nat} {b : Nat} (h : Vw bits M G q v) (hp : (b :: L').Perm G.L) (hnd : G.L.Nodup) (hd : (G.c b).di = false) (hyb : ∃ i zs, G.y b = some (i, zs)) : Vw bits M (gLet G lv L' b) q v := by
  have hM : ∀ a ∈ L', a ∈ G.L ∧ a ≠ b := fun a ha => ⟨hp.mem_iff.1 (List.mem_cons_of_mem _ ha), fun e => by
    have := hp.nodup_iff.2 hnd
    exact (List.nodup_cons.1 this).1 (e ▸ ha)⟩
  have hbL : b ∈ G.L := hp.mem_iff.1 List.mem_cons_self
  have hn : ∀ a, ((gLet G lv L' b).c a).n = (G.c a).n := fun a => by rw [let_c]; exact (bare_c { G with lv := lv, L := L' } b a).1
  have hy : ∀ a, a ≠ b → (gLet G lv L' b).y a = G.y a := fun a ha => by rw [let_y, if_neg ha]
  refine ⟨h.zb, fun a ha hda i zs e j hj => ?_, fun a ha i zs e j hj => ?_, fun p hpp => ?_, h.sz, fun a ha => ?_⟩
  · rw [let_L] at ha
    obtain ⟨h1, h2⟩ := hM a ha
    rw [hn]
    refine h.cl a h1 ?_ i zs (by rw [← hy a h2]; exact e) j hj
    rw [let_c, (bare_c G b a).2.2.2, if_neg h2] at hda
    exact hda
  · rw [let_L] at ha
    obtain ⟨h1, h2⟩ := hM a ha
    rw [hn]
    exact h.kp a h1 i zs (by rw [← hy a h2]; exact e) j hj
  · by_cases hb : inP bits (G.c b).n p
    · obtain ⟨j, hj, rfl⟩ := inP_to hb
      obtain ⟨i, zs, e⟩ := hyb
      rw [← h.cl b hbL hd i zs e j hj]
      exact h.kp b hbL i zs e j hj
    · refine h.ot p (fun a ha hi => ?_)
      rcases List.mem_cons.1 (hp.mem_iff.2 ha) with rfl | h1
      · exact hb hi
      · exact hpp a (by rw [let_L]; exact h1) (by rw [hn]; exact hi)
  · rw [let_L] at ha
    rw [hn]; exact h.pm a (hM a ha).1
variable {S : ByteArray} {g room Q N s0 k1 k b : Nat} {G1 G2 H : Gc} {q1 : Gf} {ft1 : List (Int × Int)} {F : Nat → Prop} {w : World}
theorem Cv.ninL (h : Cv S g bits room Q N G q ft1 F w) : Nin G.c G.L := fun a ha b hb e => h.cm.ks.nin a (h.iv.ll a ha) b (h.iv.ll b hb) e
theorem Cv.ylL (h : Cv S g bits room Q N G q ft1 F w) : ∀ b ∈ G.L, ∀ i zs, G.y b = some (i, zs) → zs.length = 2 ^ bits := fun b hb => h.yl b (h.cm.lb b hb)
theorem Cv.yL (h : Cv S g bits room Q N G q ft1 F w) {b : Nat} (hb : b ∈ G.L) : ∃ i zs, G.y b = some (i, zs) := by
  have h1 := ((h.iv.lk b).1 hb).2
  cases e : G.y b with
  | none => exact absurd e h1
  | some x => exact ⟨x.1, x.2, rfl⟩
theorem Vw.mkroom (h : Vw bits M G q v) (hv : Cv S g bits room Q N G q [] F w) (hu : RmG bits room k1 G q [] G1 q1 ft1) : Vw bits M G1 q1 v ∧ ft1 = [] ∧ k1 ≤ 2 * room := by
  rcases hu with ⟨_, rfl, rfl, rfl, rfl⟩ | ⟨_, G', ho, hm, hd, lv, L', hp, rfl⟩
  · exact ⟨h, rfl, by omega⟩
  · obtain ⟨-, hrc, hf⟩ := ho.ftn rfl
    change ft1 = [] at hf
    subst hf
    have hs := hrc.stb
    change Stb G G' at hs
    have h1 := h.rc hrc hv.ninL hv.ylL
    have hnd : G'.L.Nodup := hs.L.nodup_iff.2 hv.cm.ln.nodup
    have hbL : G.L.getD 0 0 ∈ G.L := hs.L.mem_iff.1 (hp.mem_iff.1 List.mem_cons_self)
    refine ⟨h1.lets hp hnd hd ?_, rfl, ?_⟩
    · rw [hs.y]; exact hv.yL hbL
    · have := mu_len G
      have := hv.lr
      omega
theorem Vw.bring {s i : Nat} {lv : Value} {L : List Nat} (h : Vw bits M G1 q v) (hkp : KnP s { G1 with n2 := G1.n2 + 1 } k b G2) (hno : ∀ a ∈ G1.L, (G1.c a).n ≠ k) (hk : (k + 1) * 2 ^ bits ≤ M) (hL : L.Perm (b :: G1.L)) : Vw bits M (gUse (gBring G2 b i (ldz q bits k)) b lv L) q v := by
  have hLB : ∀ a ∈ G1.L, a ≠ b ∧ G2.c a = G1.c a ∧ G2.y a = G1.y a := fun a ha => by
    have h1 : a ∈ G2.L := by rw [hkp.L]; exact ha
    have h2 : a ≠ b := fun e => hkp.bL (e ▸ h1)
    have h3 := ((hkp.iv.lk a).1 h1).1
    rcases hkp.B a h3 with h4 | h4
    · exact ⟨h2, hkp.c a h4, hkp.ya a h4⟩
    · exact absurd h4 h2
  have hc := use_c (gBring G2 b i (ldz q bits k)) b (G2.t + 1)
  have hb1 : ∀ a, (upd G2.c b { G2.c b with bv := .slice (some ⟨i, 0, none⟩) (ldz q bits k).length (ldz q bits k).length } a).di = (G2.c a).di ∧ (upd G2.c b { G2.c b with bv := .slice (some ⟨i, 0, none⟩) (ldz q bits k).length (ldz q bits k).length } a).n = (G2.c a).n := fun a => by
    unfold upd
    split
    · rename_i e; rw [e]; exact ⟨rfl, rfl⟩
    · exact ⟨rfl, rfl⟩
  have hcd : ∀ a, ((gUse (gBring G2 b i (ldz q bits k)) b lv L).c a).di = (G2.c a).di := fun a => (hc a).2.1.trans (hb1 a).1
  have hcn : ∀ a, ((gUse (gBring G2 b i (ldz q bits k)) b lv L).c a).n = (G2.c a).n := fun a => (hc a).1.trans (hb1 a).2
  have hyy : ∀ a, (gUse (gBring G2 b i (ldz q bits k)) b lv L).y a = upd G2.y b (some (i, ldz q bits k)) a := fun a => rfl
  have hLL : ∀ a, a ∈ (gUse (gBring G2 b i (ldz q bits k)) b lv L).L → a = b ∨ a ∈ G1.L := fun a ha => List.mem_cons.1 (hL.mem_iff.1 ha)
  refine ⟨h.zb, fun a ha hda j us e o ho => ?_, fun a ha j us e o ho => ?_, fun p hp => ?_, h.sz, fun a ha => ?_⟩
  · rw [hcn]
    rw [hyy] at e
    rcases hLL a ha with rfl | h1
    · rw [upd_same] at e
      cases e
      rw [hkp.n]
      exact ldz_get h.zb bits k o ho
    · obtain ⟨h2, h3, h4⟩ := hLB a h1
      rw [upd_other _ _ h2, h4] at e
      rw [hcd, h3] at hda
      rw [h3]
      exact h.cl a h1 hda j us e o ho
  · rw [hcn]
    rw [hyy] at e
    rcases hLL a ha with rfl | h1
    · rw [upd_same] at e
      cases e
      rw [hkp.n, ldz_get h.zb bits k o ho]
      exact h.ot _ (fun c hc hi => hno c hc (inP_uniq hi (inP_off ho)))
    · obtain ⟨h2, h3, h4⟩ := hLB a h1
      rw [upd_other _ _ h2, h4] at e
      rw [h3]
      exact h.kp a h1 j us e o ho
  · refine h.ot p (fun a ha hi => hp a (hL.mem_iff.2 (List.mem_cons_of_mem _ ha)) ?_)
    rw [hcn, (hLB a ha).2.1]; exact hi
  · rw [hcn]
    rcases hLL a ha with rfl | h1
    · rw [hkp.n]; exact hk
    · rw [(hLB a h1).2.1]; exact h.pm a h1
theorem Vw.used {lv : Value} {L : List Nat} (h : Vw bits M G q v) (hL : L.Perm G.L) : Vw bits M (gUse { G with n1 := G.n1 + 1 } b lv L) q v := by
  have hc := use_c { G with n1 := G.n1 + 1 } b (G.t + 1)
  refine ⟨h.zb, fun a ha hda i zs e j hj => ?_, fun a ha i zs e j hj => ?_, fun p hp => ?_, h.sz, fun a ha => ?_⟩
  · show zs.getD j 0 = cont q ((upd G.c b { G.c b with tk := G.t + 1 } a).n * 2 ^ bits + j)
    rw [(hc a).1]
    exact h.cl a (hL.mem_iff.1 ha) ((hc a).2.1.symm.trans hda) i zs e j hj
  · show zs.getD j 0 = v ((upd G.c b { G.c b with tk := G.t + 1 } a).n * 2 ^ bits + j)
    rw [(hc a).1]
    exact h.kp a (hL.mem_iff.1 ha) i zs e j hj
  · refine h.ot p (fun a ha hi => hp a (hL.mem_iff.2 ha) ?_)
    show inP bits (upd G.c b { G.c b with tk := G.t + 1 } a).n p
    rw [(hc a).1]; exact hi
  · show ((upd G.c b { G.c b with tk := G.t + 1 } a).n + 1) * 2 ^ bits ≤ M
    rw [(hc a).1]; exact h.pm a (hL.mem_iff.1 ha)
theorem Vw.use (h : Vw bits M G q v) (hv : Cv S g bits room Q N G q [] F w) (hu : UseG bits room s0 k1 k G q [] H q1 ft1 b) (hk : (k + 1) * 2 ^ bits ≤ M) : Vw bits M H q1 v ∧ ft1 = [] ∧ k1 ≤ 2 * room ∧ H.t = G.t + 1 ∧ (H.c b).n = k ∧ (∀ i zs, H.y b = some (i, zs) → zs.length = 2 ^ bits) := by
  rcases hu with ⟨hg, rfl, rfl, rfl, lv, L, hL, rfl⟩ | ⟨hg, G1, hrm, s, G2, i, lv, L, hs, hi, hkn, hkp, hL, rfl⟩
  · refine ⟨h.used hL, rfl, by omega, rfl, ?_, fun i zs e => hv.ylL b (hv.kget_some hg).1 i zs e⟩
    show (upd G.c b { G.c b with tk := G.t + 1 } b).n = k
    rw [(use_c { G with n1 := G.n1 + 1 } b (G.t + 1) b).1]
    exact (hv.kget_some hg).2.2.2
  · obtain ⟨h1, hf, hk1⟩ := h.mkroom hv hrm
    have hno := hrm.no (hv.kget_none hg)
    have et : (gUse (gBring G2 b i (ldz q1 bits k)) b lv L).t = G1.t + 1 := congrArg (· + 1) hkp.t
    refine ⟨h1.bring hkp hno hk hL, hf, hk1, et.trans (by rw [hrm.t]), ?_, fun j zs e => ?_⟩
    rotate_left
    · change upd G2.y b (some (i, ldz q1 bits k)) b = some (j, zs) at e
      rw [upd_same] at e
      cases e
      exact ldz_len q1 bits k
    have hc := use_c (gBring G2 b i (ldz q1 bits k)) b (G2.t + 1) b
    refine hc.1.trans ?_
    show (upd G2.c b { G2.c b with bv := .slice (some ⟨i, 0, none⟩) (ldz q1 bits k).length (ldz q1 bits k).length } b).n = k
    rw [upd_same]
    exact hkp.n
/-- Bytes laid over others, from a place on. -/
def ovv (v : Nat → Int) (o : Nat) (xs : List Int) (p : Nat) : Int := if o ≤ p ∧ p < o + xs.length then xs.getD (p - o) 0 else v p
theorem Vw.wr {i a : Nat} {zs xs : List Int} {lv : Value} {L : List Nat} (h : Vw bits M H q v) (hn : Nin H.c H.L) (hb : b ∈ H.L) (hy : H.y b = some (i, zs)) (hzl : zs.length = 2 ^ bits) (ha : a + xs.length ≤ 2 ^ bits) (hL : L.Perm H.L) :
    Vw bits M (gWr H b i (splice zs a xs) lv L) q (ovv v ((H.c b).n * 2 ^ bits + a) xs) := by
  have hc := di_c H b true
  have hyy : ∀ c, (gWr H b i (splice zs a xs) lv L).y c = upd H.y b (some (i, splice zs a xs)) c := fun c => rfl
  have hcc : ∀ c, ((gWr H b i (splice zs a xs) lv L).c c).n = (H.c c).n := fun c => (hc c).1
  have hin : ∀ p, (H.c b).n * 2 ^ bits + a ≤ p ∧ p < (H.c b).n * 2 ^ bits + a + xs.length → inP bits (H.c b).n p := fun p hp => ⟨by omega, by omega⟩
  refine ⟨h.zb, fun c hcL hdc j us e o ho => ?_, fun c hcL j us e o ho => ?_, fun p hp => ?_, h.sz, fun c hcL => ?_⟩
  · have hcb : c ≠ b := fun e => by
      have h1 : (upd H.c b { H.c b with di := true } c).di = false := hdc
      rw [(hc c).2.2.2.2.2, if_pos e] at h1
      cases h1
    have h1 : (upd H.c b { H.c b with di := true } c).di = false := hdc
    rw [(hc c).2.2.2.2.2, if_neg hcb] at h1
    rw [hyy, upd_other _ _ hcb] at e
    rw [hcc]
    exact h.cl c (hL.mem_iff.1 hcL) h1 j us e o ho
  · rw [hcc]
    rw [hyy] at e
    by_cases hcb : c = b
    · subst hcb
      rw [upd_same] at e
      cases e
      rw [getD_splice _ _ _ _ (by omega)]
      unfold ovv
      by_cases h1 : a ≤ o ∧ o < a + xs.length
      · rw [if_pos h1, if_pos (by omega)]
        congr 1
        omega
      · rw [if_neg h1, if_neg (by omega)]
        exact h.kp c hb _ zs hy o ho
    · rw [upd_other _ _ hcb] at e
      unfold ovv
      rw [if_neg (fun h1 => hcb (hn c (hL.mem_iff.1 hcL) b hb (inP_uniq (inP_off ho) (hin _ h1))))]
      exact h.kp c (hL.mem_iff.1 hcL) j us e o ho
  · unfold ovv
    rw [if_neg (fun h1 => hp b (hL.mem_iff.2 hb) (by rw [hcc]; exact hin p h1))]
    exact h.ot p (fun c hcL hi => hp c (hL.mem_iff.2 hcL) (by rw [hcc]; exact hi))
  · rw [hcc]; exact h.pm c (hL.mem_iff.1 hcL)
theorem Vw.af {s a o : Nat} (h : Vw bits M G q v) (hfr : ∀ x ∈ G.L, x < s) (hk : KnG s G k a G2) : Vw bits M (gAf G2 a o) q v := by
  rcases hk with ⟨_, rfl⟩ | ⟨_, wm, rm, h1, _, _, rfl⟩
  · exact ⟨h.zb, h.cl, h.kp, h.ot, h.sz, h.pm⟩
  · have hne : ∀ x ∈ G.L, x ≠ a := fun x hx e => by have := hfr x hx; omega
    have hc : ∀ x ∈ G.L, upd G.c a (pc0 k wm rm) x = G.c x := fun x hx => upd_other _ _ (hne x hx)
    have hy : ∀ x ∈ G.L, upd G.y a none x = G.y x := fun x hx => upd_other _ _ (hne x hx)
    refine ⟨h.zb, fun x hx hd i zs e j hj => ?_, fun x hx i zs e j hj => ?_, fun p hp => h.ot p (fun x hx hi => hp x hx ?_), h.sz, fun x hx => ?_⟩
    · change (upd G.c a (pc0 k wm rm) x).di = false at hd
      change upd G.y a none x = some (i, zs) at e
      show zs.getD j 0 = cont q ((upd G.c a (pc0 k wm rm) x).n * 2 ^ bits + j)
      rw [hc x hx] at hd ⊢
      rw [hy x hx] at e
      exact h.cl x hx hd i zs e j hj
    · change upd G.y a none x = some (i, zs) at e
      show zs.getD j 0 = v ((upd G.c a (pc0 k wm rm) x).n * 2 ^ bits + j)
      rw [hc x hx]
      rw [hy x hx] at e
      exact h.kp x hx i zs e j hj
    · show inP bits (upd G.c a (pc0 k wm rm) x).n p
      rw [hc x hx]; exact hi
    · show ((upd G.c a (pc0 k wm rm) x).n + 1) * 2 ^ bits ≤ M
      rw [hc x hx]; exact h.pm x hx
/-- When no page is dirty, the file tells all. -/
theorem Vw.all (h : Vw bits M G q v) (hy : ∀ b ∈ G.L, ∃ i zs, G.y b = some (i, zs)) (hd : ∀ b ∈ G.L, (G.c b).di = false) (p : Nat) : cont q p = v p := by
  by_cases hp : ∃ b ∈ G.L, inP bits (G.c b).n p
  · obtain ⟨b, hb, hi⟩ := hp
    obtain ⟨j, hj, rfl⟩ := inP_to hi
    obtain ⟨i, zs, e⟩ := hy b hb
    rw [← h.cl b hb (hd b hb) i zs e j hj]
    exact h.kp b hb i zs e j hj
  · exact h.ot p (fun b hb hi => hp ⟨b, hb, hi⟩)
end
theorem ovv_splice (xs ys : List Int) (o : Nat) (h : o + ys.length ≤ xs.length) : ovv (fun p => xs.getD p 0) o ys = fun p => (splice xs o ys).getD p 0 := by
  funext p
  rw [getD_splice _ _ _ _ h]
  rfl
theorem vw_start {bits M sz m : Nat} (h : sz ≤ M) : Vw bits M (g0 m) ⟨sz, zero, []⟩ (fun _ => 0) :=
  ⟨fun _ _ => rfl, fun b hb => (by cases hb), fun b hb => (by cases hb), fun _ _ => rfl, h, fun b hb => (by cases hb)⟩
end Go.Proofs.YtnccklbnncaeoaaGreat
/- The statements' stands. -/
namespace Go.Proofs.YtnccklbnncaeoaaGreat
open Go.RowKit
set_option linter.unusedVariables false
set_option linter.unusedSimpArgs false
set_option maxRecDepth 100000 in
set_option maxHeartbeats 8000000 in
theorem stands_any {S : ByteArray} {g bits room Q N : Nat} {G : Gc} {q : Gf} {ft : List (Int × Int)} {F : Nat → Prop} {w : World} (h : Cv S g bits room Q N G q ft F w) (k : Nat) (d p : Bool) (hk : k < 268435456 / 2 ^ bits) (hs : ∀ b, nget G.c G.K k = some b → (G.c b).di = d ∧ (G.c b).pe = p ∧ G.W b = []) (hn : nget G.c G.K k = none → d = false ∧ p = false) :
    Calls Tryz.prog 37 #[ptr Q, .int .i64 k, .bool d, .bool p] w fun e w' => e = .returned (.bool true) ∧ Kp (fun _ => False) w w' := by
  have hst := state_any h k
  have HST : Hid (Calls Tryz.prog 35 #[ptr Q, .int .i64 k] w fun e w' => e = .returned (.tuple #[.agg #[.bool d, .bool p, .slice none 0 0], .int .i64 0]) ∧ Kp (fun _ => False) w w') := by
    refine hst.mono ?_
    rintro e w' ⟨hkp, h2⟩
    rw [if_pos (mayn_of hk), Int.toNat_natCast] at h2
    cases hg : nget G.c G.K k with
    | none =>
      rw [hg] at h2
      obtain ⟨rfl, rfl⟩ := hn hg
      exact ⟨h2, hkp⟩
    | some b =>
      rw [hg] at h2
      obtain ⟨h3, h4, h5⟩ := hs b hg
      obtain ⟨v, he, _, hv⟩ := h2
      rw [hv.2 h5, h3, h4] at he
      exact ⟨he, hkp⟩
  have HNU := hid num_any
  clear h hst hs hn
  unfold ptr at *
  cases d <;> cases p
  all_goals
    go_enter Tryz.func37, Tryz.ntmps37
    go_wp2_with fail
    refine HST.out.mono ?_
    rintro _ w1 ⟨rfl, k1⟩
    go_wp2_with (first
      | (go_at_call 17; refine (HNU.out _ _).mono ?_; rintro e w' ⟨rfl, h⟩; replace h := h.symm; subst h))
    go_ret
    exact ⟨rfl, k1.trans ((Kp.refl _ _).alloc _) (fun _ _ h => h)⟩
end Go.Proofs.YtnccklbnncaeoaaGreat
