/- regions: Ask, Of. -/
import Derived.Test.YtopnfjgkgoeleaaMa
import Derived.Test.YtopnfjgkgoeleaaIn
namespace Go.Proofs.Ytopnfjgkgoeleaa
open Go.RowKit
set_option linter.unusedVariables false
set_option linter.unusedSimpArgs false
/-- Regions that are there. -/
structure Rg (w : World) (B : Nat) (ao : Option Addr) (c : Nat) (L : List Rn) : Prop where
  rb : Rb w B (.slice ao L.length c)
  lst : Lst w ao c L
  srt : Srt L
  len : L.length ≤ 65536
theorem Rg.below {w w' : World} {B : Nat} {ao : Option Addr} {c : Nat} {L : List Rn} (h : Rg w B ao c L) (b : Below w.heap.size w w') : Rg w' B ao c L := ⟨St.below h.rb b (St.lt h.rb), h.lst.below b, h.srt, h.len⟩
theorem Rg.kp {F : Nat → Prop} {w w' : World} {B : Nat} {ao : Option Addr} {c : Nat} {L : List Rn} (h : Rg w B ao c L) (k : Kp F w w') (hB : ¬ F B) (hf : ∀ b off, ao = some ⟨b, off, none⟩ → b < w.heap.size → ¬ F b) : Rg w' B ao c L := ⟨St.kp h.rb k hB, h.lst.kp k hf, h.srt, h.len⟩
theorem Rg.over {w : World} {B : Nat} {ao : Option Addr} {c : Nat} {L : List Rn} (h : Rg w B ao c L) (p k : Int) (m : Int → Bool) (hp : I6 p) (hk : 0 ≤ k ∧ k ≤ 72057594037927936) (W : World) (hW : Below w.heap.size w W) : Calls Try.prog 46 #[.slice ao L.length c, .int .i64 p, .int .i64 k, .agg (mkA m)] W (OvR L p k m W) :=
  over_any L ao L.length c p k m W rfl h.lst.2.1 (by have := h.lst.2.2.1; unfold maxLen at this; omega) h.lst.2.2.2.1 h.len (h.below hW).lst.1 h.srt hp hk
/-- What Of answers. -/
def OfR (L : List Rn) (p : Int) (w : World) (e : Ending) (w' : World) : Prop := e = .returned (.tuple #[.agg (orz (ovr L p 1 mz)).cs, .bool (ovr L p 1 mz).isSome]) ∧ Below w.heap.size w w'
set_option maxRecDepth 100000 in
set_option maxHeartbeats 4000000 in
theorem of_any (w : World) (B : Nat) (ao : Option Addr) (c : Nat) (L : List Rn) (p : Int) (h : Rg w B ao c L) (hp : I6 p) : Calls Try.prog 24 #[.pointer (some ⟨B, 0, none⟩), .int .i64 p] w (OfR L p w) := by
  have HO := hid (h.over p 1 mz hp (by omega))
  have HNW : Hid (∀ W, Below w.heap.size w W → Calls Try.prog 33 #[.pointer (some ⟨B, 0, none⟩)] W fun e w' => e = .returned (.slice ao L.length c) ∧ W = w') := fun W hW => now_yes B _ W (h.below hW).rb
  obtain ⟨n, hn⟩ : ∃ n, n = L.length := ⟨_, rfl⟩
  rw [← hn] at HO HNW
  have HN := hid hn
  clear hn h
  obtain ⟨q, hq⟩ : ∃ q, q = w.heap.size := ⟨_, rfl⟩
  have b0 : Below w.heap.size w (w.alloc (.cells #[.int .i64 0, .int .i64 0, .int .i64 0] 46)) := (Below.refl _ _).alloc (Nat.le_refl _) _
  have r0 := Rn.B.new w zRn
  have z0 : (w.alloc (.cells #[.int .i64 0, .int .i64 0, .int .i64 0] 46)).heap.size = w.heap.size + 1 := World.size_alloc _ _
  change Rn.B (w.alloc (.cells #[.int .i64 0, .int .i64 0, .int .i64 0] 46)) w.heap.size zRn at r0
  obtain ⟨o, ho⟩ : ∃ o, o = ovr L p 1 mz := ⟨_, rfl⟩
  unfold OvR at HO
  unfold OfR
  rw [← ho] at HO ⊢
  clear ho
  go_enter Try.func24, Try.ntmps24
  generalize hC : Code.region 1 _ _ = C9
  go_wp2_with fail
  subst hC
  rw [← hq] at z0 r0 ⊢
  have HQ := hid hq
  clear hq
  generalize w.alloc (.cells #[.int .i64 0, .int .i64 0, .int .i64 0] 46) = W0 at *
  have B0 := hid b0
  clear b0
  go_wp2_with (first | (go_at_call 33; refine (HNW.out _ B0.out).mono ?_; rintro e w1 ⟨rfl, rfl⟩) | (go_at_call 46; refine (HO.out _ B0.out).mono ?_; rintro e w2 ⟨rfl, b2⟩; have r2 := r0.below b2 (by omega)) | (refine wpList_store_r rfl _ _ rfl _ rfl (e' := orz o) rfl r2 ?_; intro w3 s3 k3))
  refine bodyPost_ret (results_cell_tmp2 Try.results24 _ _ _ rfl rfl (Rn.B.load s3)) rfl ?_
  exact ⟨rfl, by rw [← HQ.out]; exact (B0.out.mono (Nat.le_of_eq HQ.out)).trans ((b2.mono (by omega)).trans (k3.below (by have := b2.size; omega) (fun i e => by omega)))⟩
theorem results_cell_tmp3 {P : Program} {fn : Func} {p u v : Tmp} {ty : TypeId} (h : fn.results = #[.cell p ty, .tmp u, .tmp v]) (tmps : Array Value) (w : World) (b : Nat) {x y z : Value} (hp : tmps.getD p undef = .pointer (some ⟨b, 0, none⟩)) (hu : tmps.getD u undef = y) (hv : tmps.getD v undef = z) (hl : (loadVar ty ⟨b, 0, none⟩).run P w = .ok x w) :
    (results fn tmps).run P w = .ok (.tuple #[x, y, z]) w := by
  have hp' : tmps[p]?.getD undef = .pointer (some ⟨b, 0, none⟩) := by simpa using hp
  have hu' : tmps[u]?.getD undef = y := by simpa using hu
  have hv' : tmps[v]?.getD undef = z := by simpa using hv
  simp [results, h, hp', hu', hv', asAddr, hl]
theorem bel_kp {B : Nat} {F : Nat → Prop} {w W W' : World} (b : Below B w W) (k : Kp F W W') (hB : B ≤ W.heap.size) (hf : ∀ i, F i → B ≤ i) : Below B w W' := b.trans (k.below hB hf)
def askB (K : List Int) (p k : Int) : Bool := allK K && lieb p k
def askO (L : List Rn) (K : List Int) (p k : Int) : Option Rn := if askB K p k = true then ovr L p k (mks K) else none
def askE (K : List Int) (p k : Int) : Int := if askB K p k = true then 0 else 2
/-- What Ask answers. -/
def AsR (L : List Rn) (K : List Int) (p k : Int) (w : World) (e : Ending) (w' : World) : Prop := e = .returned (.tuple #[.agg (orz (askO L K p k)).cs, .bool (askO L K p k).isSome, .int .i64 (askE K p k)]) ∧ Below w.heap.size w w'
set_option maxRecDepth 100000 in
set_option maxHeartbeats 4000000 in
theorem ask_any (w : World) (B : Nat) (ao bo : Option Addr) (c kn kc : Nat) (L : List Rn) (K : List Int) (p k : Int) (h : Rg w B ao c L) (hp : I6 p) (hk : I6 k) (hkn : kn = K.length) (hkc : kn ≤ kc) (hk6 : kn ≤ 1000000) (hS : Src .i64 w bo K) :
    Calls Try.prog 20 #[.pointer (some ⟨B, 0, none⟩), .int .i64 p, .int .i64 k, .slice bo kn kc] w (AsR L K p k w) := by
  have HO : Hid (0 ≤ k → k ≤ 72057594037927936 → ∀ W, Below w.heap.size w W → Calls Try.prog 46 #[.slice ao L.length c, .int .i64 p, .int .i64 k, .agg (mkA (mks K))] W (OvR L p k (mks K) W)) := fun h1 h2 W hW => h.over p k (mks K) hp ⟨h1, h2⟩ W hW
  have HNO : Hid (∀ W, Below w.heap.size w W → Calls Try.prog 30 #[.pointer (some ⟨B, 0, none⟩)] W fun e w' => e = .returned (.bool false) ∧ W = w') := fun W hW => none_yes B _ W (h.below hW).rb
  have HMK : Hid (∀ W, Below w.heap.size w W → Calls Try.prog 44 #[.slice bo kn kc] W (MkR K W)) := fun W hW => marked_any K bo kn kc W hkn hkc hk6 (hS.kp0 (Kp.of_below hW))
  have HLI : Hid (∀ W, Calls Try.prog 45 #[.int .i64 p, .int .i64 k] W fun x w' => x = .returned (.bool (lieb p k)) ∧ W = w') := fun W => lie_any p k W hp hk
  have HC1 : Hid (∀ W, Below w.heap.size w W → W.cell? ⟨B, 1, none⟩ = some (.slice ao L.length c)) := fun W hW => St.cell (h.below hW).rb 1
  have hBw := St.lt h.rb
  obtain ⟨n, hn⟩ : ∃ n, n = L.length := ⟨_, rfl⟩
  rw [← hn] at HO HC1
  have HN := hid hn
  clear hn h hS hkn
  obtain ⟨q, hq⟩ : ∃ q, q = w.heap.size := ⟨_, rfl⟩
  have b0 : Below w.heap.size w (w.alloc (.cells #[.int .i64 0, .int .i64 0, .int .i64 0] 46)) := (Below.refl _ _).alloc (Nat.le_refl _) _
  have r0 := Rn.B.new w zRn
  have z0 : (w.alloc (.cells #[.int .i64 0, .int .i64 0, .int .i64 0] 46)).heap.size = w.heap.size + 1 := World.size_alloc _ _
  change Rn.B (w.alloc (.cells #[.int .i64 0, .int .i64 0, .int .i64 0] 46)) w.heap.size zRn at r0
  cases hal : allK K with
  | false =>
    have HR : Hid (∀ W, AsR L K p k w (.returned (.tuple #[.agg zRn.cs, .bool false, .int .i64 2])) W ↔ Below w.heap.size w W) := fun W => by simp [AsR, askO, askE, askB, hal, orz]
    unfold MkR at HMK
    rw [hal] at HMK
    clear hal
    go_enter Try.func20, Try.ntmps20
    generalize hC : Code.region 1 _ _ = C9
    go_wp2_with fail
    subst hC
    rw [← hq] at z0 r0 ⊢
    have HQ := hid hq
    clear hq
    generalize w.alloc (.cells #[.int .i64 0, .int .i64 0, .int .i64 0] 46) = W0 at *
    have B0 := hid b0
    clear b0
    go_wp2_with (first | (go_at_call 30; refine (HNO.out _ B0.out).mono ?_; rintro e w1 ⟨rfl, rfl⟩) | (go_at_call 44; refine (HMK.out _ B0.out).mono ?_; rintro e w2 ⟨rfl, b2⟩; have r2 := r0.below b2 (by omega)) | (refine wpList_store_m rfl _ _ rfl _ rfl (m' := mz) rfl (St.new 92 w2 (mkA mz)) ?_; intro w3 s3 k3; have r3 := (r2.kp (F := fun _ => False) ((Kp.refl _ _).alloc _) (fun x => x)).kp k3 (by have := b2.size; omega)) | (refine wpList_store_r rfl _ _ rfl _ rfl (e' := zRn) rfl r3 ?_; intro w4 s4 k4))
    refine bodyPost_ret (results_cell_tmp3 Try.results20 _ _ _ rfl rfl rfl (Rn.B.load s4)) rfl ?_
    refine (HR.out _).2 ?_
    have bb : Below w.heap.size w w2 := B0.out.trans (b2.mono (by have := HQ.out; omega))
    have hs2 := b2.size
    exact bel_kp (bel_kp (bb.alloc bb.size _) k3 (by rw [World.size_alloc]; have := bb.size; omega) (fun i e => by have := bb.size; omega)) k4 (Nat.le_trans (Nat.le_trans bb.size (by rw [World.size_alloc]; omega)) k3.size) (fun i e => by have := HQ.out; omega)
  | true =>
    unfold MkR at HMK
    rw [hal] at HMK
    simp only [if_true] at HMK
    cases hli : lieb p k with
    | false =>
      have HR : Hid (∀ W, AsR L K p k w (.returned (.tuple #[.agg zRn.cs, .bool false, .int .i64 2])) W ↔ Below w.heap.size w W) := fun W => by simp [AsR, askO, askE, askB, hal, hli, orz]
      rw [hli] at HLI
      clear hal hli
      go_enter Try.func20, Try.ntmps20
      generalize hC : Code.region 1 _ _ = C9
      go_wp2_with fail
      subst hC
      rw [← hq] at z0 r0 ⊢
      have HQ := hid hq
      clear hq
      generalize w.alloc (.cells #[.int .i64 0, .int .i64 0, .int .i64 0] 46) = W0 at *
      have B0 := hid b0
      clear b0
      go_wp2_with (first | (go_at_call 30; refine (HNO.out _ B0.out).mono ?_; rintro e w1 ⟨rfl, rfl⟩) | (go_at_call 44; refine (HMK.out _ B0.out).mono ?_; rintro e w2 ⟨rfl, b2⟩; have r2 := r0.below b2 (by omega)) | (refine wpList_store_m rfl _ _ rfl _ rfl (m' := mks K) rfl (St.new 92 w2 (mkA mz)) ?_; intro w3 s3 k3; have r3 := (r2.kp (F := fun _ => False) ((Kp.refl _ _).alloc _) (fun x => x)).kp k3 (by have := b2.size; omega)) | (go_at_call 45; refine (HLI.out _).mono ?_; rintro e w9 ⟨rfl, rfl⟩) | (refine wpList_store_r rfl _ _ rfl _ rfl (e' := zRn) rfl r3 ?_; intro w4 s4 k4))
      refine bodyPost_ret (results_cell_tmp3 Try.results20 _ _ _ rfl rfl rfl (Rn.B.load s4)) rfl ?_
      refine (HR.out _).2 ?_
      have bb : Below w.heap.size w w2 := B0.out.trans (b2.mono (by have := HQ.out; omega))
      have hs2 := b2.size
      exact bel_kp (bel_kp (bb.alloc bb.size _) k3 (by rw [World.size_alloc]; have := bb.size; omega) (fun i e => by have := bb.size; omega)) k4 (Nat.le_trans (Nat.le_trans bb.size (by rw [World.size_alloc]; omega)) k3.size) (fun i e => by have := HQ.out; omega)
    | true =>
      have hk0 : 0 ≤ k ∧ k ≤ 72057594037927936 := by unfold lieb at hli; simp at hli; omega
      have HR : Hid (∀ W, AsR L K p k w (.returned (.tuple #[.agg (orz (ovr L p k (mks K))).cs, .bool (ovr L p k (mks K)).isSome, .int .i64 0])) W ↔ Below w.heap.size w W) := fun W => by simp [AsR, askO, askE, askB, hal, hli]
      rw [hli] at HLI
      have HO2 : Hid (∀ W, Below w.heap.size w W → Calls Try.prog 46 #[.slice ao n c, .int .i64 p, .int .i64 k, .agg (mkA (mks K))] W (OvR L p k (mks K) W)) := HO.out hk0.1 hk0.2
      unfold OvR at HO2
      generalize ovr L p k (mks K) = o at HO2 HR
      clear hal hli HO
      generalize mks K = mm at *
      go_enter Try.func20, Try.ntmps20
      generalize hC : Code.region 1 _ _ = C9
      go_wp2_with fail
      subst hC
      rw [← hq] at z0 r0 ⊢
      have HQ := hid hq
      clear hq
      generalize w.alloc (.cells #[.int .i64 0, .int .i64 0, .int .i64 0] 46) = W0 at *
      have B0 := hid b0
      clear b0
      go_wp2_with (first | (go_at_call 30; refine (HNO.out _ B0.out).mono ?_; rintro e w1 ⟨rfl, rfl⟩) | (go_at_call 44; refine (HMK.out _ B0.out).mono ?_; rintro e w2 ⟨rfl, b2⟩; have r2 := r0.below b2 (by omega)) | (refine wpList_store_m rfl _ _ rfl _ rfl (m' := mm) rfl (St.new 92 w2 (mkA mz)) ?_; intro w3 s3 k3; have r3 := (r2.kp (F := fun _ => False) ((Kp.refl _ _).alloc _) (fun x => x)).kp k3 (by have := b2.size; omega); have hs2 := b2.size; obtain ⟨q2, hq2⟩ : ∃ q2, q2 = w2.heap.size := ⟨_, rfl⟩; rw [← hq2] at s3 k3 hs2 ⊢; have HQ2 := hid hq2; clear hq2) | (go_at_call 45; refine (HLI.out _).mono ?_; rintro e w9 ⟨rfl, rfl⟩))

      have bb : Below w.heap.size w w2 := B0.out.trans (b2.mono (by have := HQ.out; omega))
      have hqw := HQ.out
      have hq22 := HQ2.out
      have b3 : Below w.heap.size w w3 := bel_kp (bb.alloc bb.size _) k3 (by rw [World.size_alloc]; have := bb.size; omega) (fun i e => by have := bb.size; omega)
      have B3 := hid b3
      have c1 := HC1.out w3 b3
      obtain ⟨ML, hML⟩ : ∃ ML : List Value, mkA mm = ML.toArray := ⟨(mkA mm).toList, by simp⟩
      have h92 : (Try.prog.info? 92).map (·.size) = some ML.length := by rw [Try.isz92]; have := congrArg Array.size hML; simp at this; rw [← this]; rfl
      have u92 := Try.underlying92
      rw [hML] at HO2
      have h32 : q2 < w3.heap.size := s3.lt
      have rg : ∀ U, St 92 U q2 (mkA mm) → U.rangeAt q2 0 ML := fun U h j v hv => by
        rw [Nat.zero_add, h.cell j, hML]
        simpa using hv
      have cc : (fun U : World => U.cell? ⟨B, 1, none⟩ = some (.slice ao n c) ∧ U.rangeAt q2 0 ML) w3.drew := ⟨c1, rg w3.drew s3⟩
      have R3 := hid r3
      have HKE : Hid (∀ U, Below w3.heap.size w3 U → (fun U : World => U.cell? ⟨B, 1, none⟩ = some (.slice ao n c) ∧ U.rangeAt q2 0 ML) U) := fun U hU => ⟨HC1.out U (B3.out.trans (hU.mono B3.out.size)), rg U (s3.below hU h32)⟩
      have hqw3 : q < w3.heap.size := r3.lt
      clear c1 k3 s3 r3 r2 b2 b3 bb hqw hq22 hs2 z0 hML rg
      have HFN : Hid (∀ U : World, Below w3.heap.size w3 U → Below w.heap.size w U) := fun U hU => B3.out.trans (hU.mono B3.out.size)
      have HDR : Hid (∀ U : World, Below w3.heap.size w3 U → Below w3.heap.size w3 U.drew) := fun U hU => ⟨hU.os, hU.tape, hU.output, hU.size, hU.block⟩
      have H0 : Hid (Below w3.heap.size w3 w3.drew) := ⟨rfl, rfl, rfl, Nat.le_refl _, fun _ _ => rfl⟩
      have HAL : Hid (∀ (U : World) (ob : Obj), Below w3.heap.size w3 U → Below w3.heap.size w3 (U.alloc ob)) := fun U ob h => h.alloc h.size ob
      have HTR : Hid (∀ U V : World, Below w3.heap.size w3 U → Below U.heap.size U V → Below w3.heap.size w3 V) := fun U V h k => h.trans (k.mono h.size)
      have HSC : Hid (∀ (U : World) (g i : Nat) (v : Value), Below w3.heap.size w3 U → w3.heap.size ≤ g → Below w3.heap.size w3 (U.setCell ⟨g, i, none⟩ v)) := fun U g i v h hg => bel_kp h (kp_setCell U g i v (fun k => k = g) rfl) h.size (fun k e => by omega)
      generalize orz o = x at HO2 HR
      generalize o.isSome = ob at HO2 HR
      obtain ⟨xk, xa, xn⟩ := x
      simp only [Rn.cs] at HO2 HR
      go_region_held3 (fun U : World => U.cell? ⟨B, 1, none⟩ = some (.slice ao n c) ∧ U.rangeAt q2 0 ML) (first | exact cc | exact cd | exact HKE.out _ (HAL.out _ _ H0.out) | exact HKE.out _ (HAL.out _ _ B5.out) | exact HKE.out _ (HSC.out _ _ _ _ (HSC.out _ _ _ _ (HSC.out _ _ _ _ B5.out (Nat.le_refl _)) (Nat.le_refl _)) (Nat.le_refl _))) (first | (go_at_call 46; refine (HO2.out _ (HFN.out _ (by first | exact H0.out | exact HAL.out _ _ H0.out))).mono ?_; rintro e w5 ⟨rfl, b5⟩; have B5 : Hid (Below w3.heap.size w3 w5) := HTR.out _ _ (by first | exact H0.out | exact HAL.out _ _ H0.out) b5; have cd := HKE.out w5 B5.out; try (have rN : Rn.B w5 w3.heap.size zRn := (Rn.B.new w3.drew zRn).below b5 (by simp); have y0 : w5.cell? ⟨w3.heap.size, 0, none⟩ = some (.int .i64 0) := rN.cell 0; have y1 : w5.cell? ⟨w3.heap.size, 1, none⟩ = some (.int .i64 0) := rN.cell 1; have y2 : w5.cell? ⟨w3.heap.size, 2, none⟩ = some (.int .i64 0) := rN.cell 2; have f0 := St.frozen rN 0; have f1 := St.frozen rN 1; have f2 := St.frozen rN 2); clear b5))
      · have sN := Rn.B.new w5 ⟨xk, xa, xn⟩
        change Rn.B (w5.alloc (.cells #[.int .i64 xk, .int .i64 xa, .int .i64 xn] 46)) w5.heap.size _ at sN
        have BX := HAL.out w5 (.cells #[.int .i64 xk, .int .i64 xa, .int .i64 xn] 46) B5.out
        have R8 := (R3.out.below BX (by omega))
        generalize hWX : w5.alloc (.cells #[.int .i64 xk, .int .i64 xa, .int .i64 xn] 46) = WX at *
        generalize hgx : w5.heap.size = gx at *
        clear hWX hgx
        go_wp2_with (first | (refine wpList_load_r rfl _ rfl _ rfl sN ?_) | (refine wpList_store_r rfl _ _ rfl _ rfl (e' := ⟨xk, xa, xn⟩) rfl R8 ?_; intro w7 s7 k7))
        refine bodyPost_ret (results_cell_tmp3 Try.results20 _ _ _ rfl rfl rfl (Rn.B.load s7)) rfl ?_
        exact (HR.out _).2 (bel_kp (HFN.out _ BX) k7 (by have := R8.lt; have := HQ.out; omega) (fun i e => by have := HQ.out; omega))
      · have sN : Rn.B (((w5.setCell ⟨w3.heap.size, 0, none⟩ (.int .i64 xk)).setCell ⟨w3.heap.size, 1, none⟩ (.int .i64 xa)).setCell ⟨w3.heap.size, 2, none⟩ (.int .i64 xn)) w3.heap.size ⟨xk, xa, xn⟩ := ((St.set rN 0 (.int .i64 xk)).set 1 (.int .i64 xa)).set 2 (.int .i64 xn)
        have BX := HSC.out _ _ 2 (.int .i64 xn) (HSC.out _ _ 1 (.int .i64 xa) (HSC.out _ _ 0 (.int .i64 xk) B5.out (Nat.le_refl _)) (Nat.le_refl _)) (Nat.le_refl _)
        have R8 := (R3.out.below BX (by omega))
        generalize hWX : ((w5.setCell ⟨w3.heap.size, 0, none⟩ (.int .i64 xk)).setCell ⟨w3.heap.size, 1, none⟩ (.int .i64 xa)).setCell ⟨w3.heap.size, 2, none⟩ (.int .i64 xn) = WX at *
        generalize hgx : w3.heap.size = gx at *
        clear hWX hgx
        go_wp2_with (first | (refine wpList_load_r rfl _ rfl _ rfl sN ?_) | (refine wpList_store_r rfl _ _ rfl _ rfl (e' := ⟨xk, xa, xn⟩) rfl R8 ?_; intro w7 s7 k7))
        refine bodyPost_ret (results_cell_tmp3 Try.results20 _ _ _ rfl rfl rfl (Rn.B.load s7)) rfl ?_
        exact (HR.out _).2 (bel_kp (HFN.out _ BX) k7 (by have := R8.lt; have := HQ.out; omega) (fun i e => by have := HQ.out; omega))
end Go.Proofs.Ytopnfjgkgoeleaa
