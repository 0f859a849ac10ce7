/- regions: over, marked. -/
import Derived.Test.YtopnfjgkgoeleaaNc
namespace Go.Proofs.Ytopnfjgkgoeleaa
open Go.RowKit
set_option linter.unusedVariables false
set_option linter.unusedSimpArgs false
/-- Marks, as an array. -/
def mkA (m : Int → Bool) : Array Value := #[.bool (m 0), .bool (m 1), .bool (m 2), .bool (m 3), .bool (m 4), .bool (m 5), .bool (m 6), .bool (m 7), .bool (m 8), .bool (m 9), .bool (m 10), .bool (m 11), .bool (m 12), .bool (m 13), .bool (m 14), .bool (m 15), .bool (m 16)]
theorem mkA_get (m : Int → Bool) (k : Nat) (hk : k < 17) : (mkA m)[k]? = some (.bool (m (k : Int))) := by
  unfold mkA
  rcases k with _ | _ | _ | _ | _ | _ | _ | _ | _ | _ | _ | _ | _ | _ | _ | _ | _ | k <;> first | rfl | omega
theorem ovr_zero (L : List Rn) (p : Int) (m : Int → Bool) : ovr L p 0 m = none := by simp [ovr]
theorem ovr_none {L : List Rn} {p k : Int} {m : Int → Bool} (h : ∀ j, j < L.length → p < (L.getD j zRn).e → (L.getD j zRn).a < p + k → m (L.getD j zRn).k = true) : ovr L p k m = none := by
  unfold ovr
  split
  · rfl
  · refine find_no (fun j hj => ?_)
    have := h j hj
    generalize L.getD j zRn = y at *
    by_cases h1 : p < y.e
    · by_cases h2 : y.a < p + k
      · simp [h1, h2, this h1 h2]
      · simp [h1, h2]
    · simp [h1]
theorem ovr_some {L : List Rn} {p k : Int} {m : Int → Bool} {i : Nat} (hk : k ≠ 0) (hi : i < L.length) (h1 : p < (L.getD i zRn).e) (h2 : (L.getD i zRn).a < p + k) (h3 : m (L.getD i zRn).k = false) (h : ∀ j, j < i → p < (L.getD j zRn).e → (L.getD j zRn).a < p + k → m (L.getD j zRn).k = true) : ovr L p k m = some (L.getD i zRn) := by
  unfold ovr
  rw [if_neg hk]
  refine find_at hi ?_ (fun j hj => ?_)
  · generalize L.getD i zRn = y at *
    simp [h1, h2, h3]
  have := h j hj
  generalize L.getD j zRn = y at *
  by_cases h1 : p < y.e
  · by_cases h2 : y.a < p + k
    · simp [h1, h2, this h1 h2]
    · simp [h1, h2]
  · simp [h1]
def OvR (L : List Rn) (p k : Int) (m : Int → Bool) (w : World) (e : Ending) (w' : World) : Prop := e = .returned (.tuple #[.agg (orz (ovr L p k m)).cs, .bool (ovr L p k m).isSome]) ∧ Below w.heap.size w w'
/-- What over's loop holds. -/
structure OvI (q : Nat) (m : Int → Bool) (w W : World) : Prop where
  mks : St 92 W q (mkA m)
  rz : Rn.B W (q + 1) zRn
  bl : Below q w W
theorem OvI.below {q : Nat} {m : Int → Bool} {w W W' : World} (h : OvI q m w W) (b : Below W.heap.size W W') (hq : q ≤ w.heap.size) : OvI q m w W' :=
  ⟨h.mks.below b h.mks.lt, h.rz.below b h.rz.lt, h.bl.trans (b.mono (by have := h.bl.size; omega))⟩
theorem OvI.fin {q : Nat} {m : Int → Bool} {w W W' : World} (h : OvI q m w W) (k : Kp (fun i => i = q + 1) W W') (hq : q = w.heap.size) : Below w.heap.size w W' := by
  rw [← hq]
  exact h.bl.trans (k.below (by have := h.mks.lt; omega) (fun i e => by omega))
theorem OvI.start (q : Nat) (m : Int → Bool) (w : World) (hq : q = w.heap.size) : OvI q m w ((w.alloc (.cells (mkA m) 92)).alloc (.cells zRn.cs 46)) := by
  have s1 : St 92 (w.alloc (.cells (mkA m) 92)) q (mkA m) := by rw [hq]; exact St.new 92 w _
  have z1 : (w.alloc (.cells (mkA m) 92)).heap.size = q + 1 := by rw [World.size_alloc, hq]
  have s2 := Rn.B.new (w.alloc (.cells (mkA m) 92)) zRn
  rw [z1] at s2
  exact ⟨s1.kp (F := fun _ => False) ((Kp.refl _ _).alloc _) (fun x => x), s2, by rw [hq]; exact ((Below.refl _ _).alloc (Nat.le_refl _) _).alloc (by rw [World.size_alloc]; omega) _⟩
set_option maxRecDepth 100000 in
set_option maxHeartbeats 4000000 in
theorem over_any (L : List Rn) (ao : Option Addr) (n c : Nat) (p k : Int) (m : Int → Bool) (w : World) (hn : n = L.length) (hc : n ≤ c) (hc63 : c ≤ 9223372036854775807) (hno : ao = none → c = 0) (hn2 : n ≤ 65536) (hS : Srcr w ao L) (hL : Srt L) (hp : I6 p) (hk : 0 ≤ k ∧ k ≤ 72057594037927936) :
    Calls Try.prog 46 #[.slice ao n c, .int .i64 p, .int .i64 k, .agg (mkA m)] w (OvR L p k m w) := by
  have HN := hid hn
  have HS := hid hS
  have HL := hid hL
  clear hn hS hL
  obtain ⟨q, hq⟩ : ∃ q, q = w.heap.size := ⟨_, rfl⟩
  have I0 : Hid (OvI q m w ((w.alloc (.cells (mkA m) 92)).alloc (.cells #[.int .i64 0, .int .i64 0, .int .i64 0] 46))) := OvI.start q m w hq
  have HBY : Hid (∀ W, Below w.heap.size w W → Calls Try.prog 59 #[.slice ao n c, .int .i64 p] W fun e w' => e = .returned (.int .i64 ((bey L p : Nat) : Int)) ∧ Below W.heap.size W w') := fun W hW => beyond_any L ao n c p W HN.out hc (by omega) (HS.out.below hW) HL.out
  obtain ⟨b, hb⟩ : ∃ b, b = bey L p := ⟨_, rfl⟩
  rw [← hb] at HBY
  have HB : Hid (IsB L p b) := by rw [hb]; exact bey_is HL.out p
  clear hb
  have hbn : b ≤ n := by have := HB.out.1; have := HN.out; omega
  have hms : (mkA m).size = 17 := rfl
  have hle : (17 : Nat) ≤ 17 := Nat.le_refl _
  have HF : Hid (∀ (o : Option Rn) (W W' : World), OvI q m w W → Kp (fun i => i = q + 1) W W' → ovr L p k m = o → OvR L p k m w (.returned (.tuple #[.agg (orz o).cs, .bool o.isSome])) W') := fun o W W' hI hk h1 => ⟨by rw [← h1], hI.fin hk hq⟩
  have z1 : (w.alloc (.cells (mkA m) 92)).heap.size = q + 1 := by rw [World.size_alloc, hq]
  have HQ := hid hq
  by_cases hk0 : k = 0
  · subst hk0
    go_enter Try.func46, Try.ntmps46
    generalize hC : Code.region 1 _ _ = C9
    go_wp2_with fail
    subst hC
    rw [← hq]
    clear hq z1
    generalize (w.alloc (.cells (mkA m) 92)).alloc (.cells #[.int .i64 0, .int .i64 0, .int .i64 0] 46) = W0 at I0 ⊢
    go_wp2_with (refine wpList_store_r rfl _ _ rfl _ rfl (e' := zRn) rfl I0.out.rz ?_; intro w2 s2 k2)
    refine bodyPost_ret (results_cell_tmp2 Try.results46 _ _ _ rfl rfl (Rn.B.load s2)) rfl ?_
    exact HF.out none _ _ I0.out k2 (ovr_zero _ _ _)
  · by_cases hbl : b < n
    · obtain ⟨gb, off, rfl, hgb, _⟩ := HS.out.at (i := 0) (by have := HN.out; omega)
      have hcb : ¬ (c = b) := by omega
      go_enter Try.func46, Try.ntmps46
      generalize hC : Code.region 1 _ _ = C9
      go_wp2_with fail
      subst hC
      rw [← hq]
      clear hq z1
      generalize (w.alloc (.cells (mkA m) 92)).alloc (.cells #[.int .i64 0, .int .i64 0, .int .i64 0] 46) = W0 at I0 ⊢
      go_wp2_with (first | (go_at_call 59; refine (HBY.out _ (by rw [← HQ.out]; exact I0.out.bl)).mono ?_; rintro e w1 ⟨rfl, b1⟩; have I1 := hid (I0.out.below b1 (Nat.le_of_eq HQ.out)); clear b1))
      go_loopw [21] (fun i wr => ∃ j : Nat, b + j ≤ n ∧ i = .int .i64 (j : Int) ∧ Hid (OvI q m w wr) ∧ Hid (∀ t, t < b + j → p < (L.getD t zRn).e → (L.getD t zRn).a < p + k → m (L.getD t zRn).k = true)) (fun i _ => n - (intOf i).toNat)
      case atStart => exact ⟨0, by omega, rfl, I1, fun t ht h1 => absurd (HB.out.2.1 t (by omega)) (by omega)⟩
      case round =>
        clear I0 I1
        obtain ⟨j, hj, rfl, HI, HJ⟩ := hrel
        by_cases hjn : j < n - b
        · obtain ⟨g2, o2, e2, _, x0, x1, x2⟩ := (HS.out.below (by rw [← HQ.out]; exact HI.out.bl)).at (i := b + j) (by have := HN.out; omega)
          cases e2
          have HM := HL.out.may (i := b + j) (by have := HN.out; omega)
          have HBB := HB.out.2.2 (b + j) (by omega) (by have := HN.out; omega)
          have HLT : Hid (∀ t, b + j < t → t < L.length → (L.getD (b + j) zRn).a < (L.getD t zRn).a) := fun t h1 h2 => by
            have h3 := HL.out.lt (i := b + j) h1 h2
            unfold Mayr at HM
            unfold Rn.e at h3
            omega
          have HOS : Hid ((L.getD (b + j) zRn).a < p + k → m (L.getD (b + j) zRn).k = false → ovr L p k m = some (L.getD (b + j) zRn)) := fun h1 h2 => ovr_some hk0 (by have := HN.out; omega) HBB h1 h2 HJ.out
          have HON : Hid (p + k ≤ (L.getD (b + j) zRn).a → ovr L p k m = none) := fun h1 => ovr_none (fun t ht g1 g2 => by
            by_cases h4 : t < b + j
            · exact HJ.out t h4 g1 g2
            · by_cases h5 : t = b + j
              · subst h5; omega
              · have := HLT.out t (by omega) ht; omega)
          have HNX : Hid (m (L.getD (b + j) zRn).k = true → ∀ t, t < b + (j + 1) → p < (L.getD t zRn).e → (L.getD t zRn).a < p + k → m (L.getD t zRn).k = true) := fun h1 t ht g1 g2 => by
            by_cases h4 : t < b + j
            · exact HJ.out t h4 g1 g2
            · obtain rfl : t = b + j := by omega
              exact h1
          obtain ⟨x, hx⟩ : ∃ x, x = L.getD (b + j) zRn := ⟨_, rfl⟩
          rw [← hx] at x0 x1 x2 HM HBB HOS HON HNX
          have HX := hid hx
          clear hx HLT
          unfold Mayr at HM
          unfold Rn.e at HBB
          obtain ⟨hm1, hm2, hm3, hm4, hm5⟩ := HM
          have hadd : off + b * 3 + j * 3 = off + (b + j) * 3 := by omega
          have hadd1 : off + b * 3 + j * 3 + 1 = off + (b + j) * 3 + 1 := by omega
          have hadd2 : off + b * 3 + j * 3 + 2 = off + (b + j) * 3 + 2 := by omega
          rw [← hadd] at x0
          rw [← hadd1] at x1
          rw [← hadd2] at x2
          clear hadd hadd1 hadd2
          obtain ⟨kk, hkk⟩ : ∃ kk : Nat, x.k = (kk : Int) := ⟨x.k.toNat, by omega⟩
          have hkk17 : kk < 17 := by omega
          have HKK := hid hkk
          clear hkk
          have hpk : -9223372036854775808 ≤ p + k ∧ p + k ≤ 9223372036854775807 := by unfold I6 at hp; omega
          obtain ⟨r, hr⟩ : ∃ r, r = wr.heap.size := ⟨_, rfl⟩
          have hbz : ∀ w2, Kp (fun i => i = wr.heap.size) (wr.alloc (.cells zRn.cs 46)) w2 → Below wr.heap.size wr w2 := fun w2 k2 => (((Below.refl _ wr).alloc (Nat.le_refl _) _)).trans (k2.below (by rw [World.size_alloc]; omega) (fun i e => by omega))
          have HBZ := hid hbz
          clear hbz
          by_cases hge : p + k ≤ x.a
          · go_wp2_with (first | (refine wpList_store_r rfl _ _ rfl _ rfl (e' := x) rfl (Rn.B.new wr zRn) ?_; intro w2 s2 k2; have I2 := hid (HI.out.below (HBZ.out w2 k2) (Nat.le_of_eq HQ.out)); rw [← hr] at s2 ⊢; have HR := hid hr; clear hr k2 x0 x1 x2 HI HBZ; have y0 : w2.cell? ⟨r, 0, none⟩ = some (.int .i64 x.k) := s2.cell 0; have y1 : w2.cell? ⟨r, 1, none⟩ = some (.int .i64 x.a) := s2.cell 1; have y2 : w2.cell? ⟨r, 2, none⟩ = some (.int .i64 x.n) := s2.cell 2) | (refine wpList_store_r rfl _ _ rfl _ rfl (e' := zRn) rfl I2.out.rz ?_; intro w3 s3 k3))
            refine bodyPost_ret (results_cell_tmp2 Try.results46 _ _ _ rfl rfl (Rn.B.load s3)) rfl ?_
            exact HF.out none _ _ I2.out k3 (HON.out hge)
          · cases hmk : m x.k with
            | false =>
              rw [HKK.out] at hmk
              go_wp2_with (first | (refine wpList_store_r rfl _ _ rfl _ rfl (e' := x) rfl (Rn.B.new wr zRn) ?_; intro w2 s2 k2; have I2 := hid (HI.out.below (HBZ.out w2 k2) (Nat.le_of_eq HQ.out)); rw [← hr] at s2 ⊢; have HR := hid hr; clear hr k2 x0 x1 x2 HI HBZ; have y0 : w2.cell? ⟨r, 0, none⟩ = some (.int .i64 x.k) := s2.cell 0; rw [HKK.out] at y0; have y1 : w2.cell? ⟨r, 1, none⟩ = some (.int .i64 x.a) := s2.cell 1; have y2 : w2.cell? ⟨r, 2, none⟩ = some (.int .i64 x.n) := s2.cell 2; have ym := I2.out.mks.cell kk; rw [mkA_get m kk hkk17, hmk] at ym) | (refine wpList_load_r rfl _ rfl _ rfl s2 ?_) | (refine wpList_store_r rfl _ _ rfl _ rfl (e' := x) rfl I2.out.rz ?_; intro w3 s3 k3))
              refine bodyPost_ret (results_cell_tmp2 Try.results46 _ _ _ rfl rfl (Rn.B.load s3)) rfl ?_
              exact HF.out (some x) _ _ I2.out k3 (HOS.out (by omega) (by rw [HKK.out]; exact hmk))
            | true =>
              have HMK := hid hmk
              rw [HKK.out] at hmk
              go_wp2_with (first | (refine wpList_store_r rfl _ _ rfl _ rfl (e' := x) rfl (Rn.B.new wr zRn) ?_; intro w2 s2 k2; have I2 := hid (HI.out.below (HBZ.out w2 k2) (Nat.le_of_eq HQ.out)); rw [← hr] at s2 ⊢; have HR := hid hr; clear hr k2 x0 x1 x2 HI HBZ; have y0 : w2.cell? ⟨r, 0, none⟩ = some (.int .i64 x.k) := s2.cell 0; rw [HKK.out] at y0; have y1 : w2.cell? ⟨r, 1, none⟩ = some (.int .i64 x.a) := s2.cell 1; have y2 : w2.cell? ⟨r, 2, none⟩ = some (.int .i64 x.n) := s2.cell 2; have ym := I2.out.mks.cell kk; rw [mkA_get m kk hkk17, hmk] at ym))
              go_roundw
              case rel => exact ⟨j + 1, by omega, by go_num, I2, HNX.out HMK.out⟩
              case measure => simp [intOf]; omega
        · obtain rfl : j = n - b := by omega
          have HON : Hid (ovr L p k m = none) := ovr_none (fun t ht => HJ.out t (by have := HN.out; omega))
          go_wp2_with (first | (refine wpList_store_r rfl _ _ rfl _ rfl (e' := zRn) rfl HI.out.rz ?_; intro w3 s3 k3))
          refine bodyPost_ret (results_cell_tmp2 Try.results46 _ _ _ rfl rfl (Rn.B.load s3)) rfl ?_
          exact HF.out none _ _ HI.out k3 HON.out
    · obtain rfl : b = n := by omega
      have HON : Hid (ovr L p k m = none) := ovr_none (fun t ht h1 => absurd (HB.out.2.1 t (by have := HN.out; omega)) (by omega))
      have hb1 : (b : Int) ≤ (b : Int) := Int.le_refl _
      cases ao with
      | none =>
        obtain rfl := hno rfl
        obtain rfl : b = 0 := by omega
        go_enter Try.func46, Try.ntmps46
        generalize hC : Code.region 1 _ _ = C9
        go_wp2_with fail
        subst hC
        rw [← hq]
        clear hq z1
        generalize (w.alloc (.cells (mkA m) 92)).alloc (.cells #[.int .i64 0, .int .i64 0, .int .i64 0] 46) = W0 at I0 ⊢
        go_wp2_with (first | (go_at_call 59; refine (HBY.out _ (by rw [← HQ.out]; exact I0.out.bl)).mono ?_; rintro e w1 ⟨rfl, b1⟩; have I1 := hid (I0.out.below b1 (Nat.le_of_eq HQ.out)); clear b1) | (refine wpList_store_r rfl _ _ rfl _ rfl (e' := zRn) rfl I1.out.rz ?_; intro w3 s3 k3))
        go_loopw [21] (fun i wr => i = .int .i64 0 ∧ Hid (OvI q m w wr)) (fun i _ => 0)
        case atStart => exact ⟨rfl, I1⟩
        case round =>
          obtain ⟨rfl, HI⟩ := hrel
          go_wp2_with (first | (refine wpList_store_r rfl _ _ rfl _ rfl (e' := zRn) rfl HI.out.rz ?_; intro w3 s3 k3))
          refine bodyPost_ret (results_cell_tmp2 Try.results46 _ _ _ rfl rfl (Rn.B.load s3)) rfl ?_
          exact HF.out none _ _ HI.out k3 HON.out
      | some ad =>
        by_cases hcb : c = b
        · subst hcb
          go_enter Try.func46, Try.ntmps46
          generalize hC : Code.region 1 _ _ = C9
          go_wp2_with fail
          subst hC
          rw [← hq]
          clear hq z1
          generalize (w.alloc (.cells (mkA m) 92)).alloc (.cells #[.int .i64 0, .int .i64 0, .int .i64 0] 46) = W0 at I0 ⊢
          go_wp2_with (first | (go_at_call 59; refine (HBY.out _ (by rw [← HQ.out]; exact I0.out.bl)).mono ?_; rintro e w1 ⟨rfl, b1⟩; have I1 := hid (I0.out.below b1 (Nat.le_of_eq HQ.out)); clear b1) | (refine wpList_store_r rfl _ _ rfl _ rfl (e' := zRn) rfl I1.out.rz ?_; intro w3 s3 k3))
          go_loopw [21] (fun i wr => i = .int .i64 0 ∧ Hid (OvI q m w wr)) (fun i _ => 0)
          case atStart => exact ⟨rfl, I1⟩
          case round =>
            obtain ⟨rfl, HI⟩ := hrel
            go_wp2_with (first | (refine wpList_store_r rfl _ _ rfl _ rfl (e' := zRn) rfl HI.out.rz ?_; intro w3 s3 k3))
            refine bodyPost_ret (results_cell_tmp2 Try.results46 _ _ _ rfl rfl (Rn.B.load s3)) rfl ?_
            exact HF.out none _ _ HI.out k3 HON.out
        · go_enter Try.func46, Try.ntmps46
          generalize hC : Code.region 1 _ _ = C9
          go_wp2_with fail
          subst hC
          rw [← hq]
          clear hq z1
          generalize (w.alloc (.cells (mkA m) 92)).alloc (.cells #[.int .i64 0, .int .i64 0, .int .i64 0] 46) = W0 at I0 ⊢
          go_wp2_with (first | (go_at_call 59; refine (HBY.out _ (by rw [← HQ.out]; exact I0.out.bl)).mono ?_; rintro e w1 ⟨rfl, b1⟩; have I1 := hid (I0.out.below b1 (Nat.le_of_eq HQ.out)); clear b1) | (refine wpList_store_r rfl _ _ rfl _ rfl (e' := zRn) rfl I1.out.rz ?_; intro w3 s3 k3))
          go_loopw [21] (fun i wr => i = .int .i64 0 ∧ Hid (OvI q m w wr)) (fun i _ => 0)
          case atStart => exact ⟨rfl, I1⟩
          case round =>
            obtain ⟨rfl, HI⟩ := hrel
            go_wp2_with (first | (refine wpList_store_r rfl _ _ rfl _ rfl (e' := zRn) rfl HI.out.rz ?_; intro w3 s3 k3))
            refine bodyPost_ret (results_cell_tmp2 Try.results46 _ _ _ rfl rfl (Rn.B.load s3)) rfl ?_
            exact HF.out none _ _ HI.out k3 HON.out
end Go.Proofs.Ytopnfjgkgoeleaa
