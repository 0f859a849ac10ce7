/- plain: Huffman's lengths. -/
import Derived.Test.YthpocbpleffdpaaPn
namespace Go.Proofs.Ythpocbpleffdpaa
open Go.RowKit

theorem Ps.round {w wr w1 w2 w3 w4 : World} {base Fb B G n : Nat} {v v1 v2 v4 : Value} {F : List Nd} {bs K L L1 L2 L4 : List Nat} {S : List Nd × List Nat} (h : Ps w wr base Fb B G n v F bs K L S) (h1 : 1 < K.length)
    (g1 : Gp w1 base Fb B v1 F bs (K.erase (mn F K)) L1) (k1 : Kp (fun k => k = B ∨ v.ownBlock = some k) wr w1)
    (g2 : Gp w2 base Fb B v2 F bs ((K.erase (mn F K)).erase (mn F (K.erase (mn F K)))) L2) (k2 : Kp (fun k => k = B ∨ v1.ownBlock = some k) w1 w2)
    (g3 : Gp w3 base Fb B v2 (F ++ [jnd F (mn F K) (mn F (K.erase (mn F K)))]) (bs ++ [w2.heap.size]) ((K.erase (mn F K)).erase (mn F (K.erase (mn F K)))) L2) (k3 : Kp (fun k => k = Fb) w2 w3)
    (g4 : Gp w4 base Fb B v4 (F ++ [jnd F (mn F K) (mn F (K.erase (mn F K)))]) (bs ++ [w2.heap.size]) (F.length :: (K.erase (mn F K)).erase (mn F (K.erase (mn F K)))) L4) (k4 : Kp (fun k => k = B ∨ v2.ownBlock = some k) w3 w4) :
    Ps w w4 base Fb B G n v4 (F ++ [jnd F (mn F K) (mn F (K.erase (mn F K)))]) (bs ++ [w2.heap.size]) (F.length :: (K.erase (mn F K)).erase (mn F (K.erase (mn F K)))) L4 S := by
  obtain ⟨m1, _⟩ := mn_mem F (ne_nil_of (show 0 < K.length by omega))
  have l1 := erase_len m1
  obtain ⟨m2, _⟩ := mn_mem F (ne_nil_of (show 0 < (K.erase (mn F K)).length by omega))
  have l2 := erase_len m2
  have c1 := cst_erase (F := F) m1
  have c2 := cst_erase (F := F) m2
  obtain ⟨r1, q1, b1⟩ := Ps.off h.gp h.row h.kp h.big k1
  obtain ⟨r2, q2, b2⟩ := Ps.off g1 r1 q1 ⟨h.big.1, h.big.2.1, h.big.2.2.1, b1⟩ k2
  have n2 := g2.notG r2
  have r3 := r2.kp k3 n2.2.2.1
  have q3 : Kp (fun _ => False) w w3 := q2.trans k3 (fun i hi e => by have := h.big.2.1; omega)
  obtain ⟨r4, q4, b4⟩ := Ps.off g3 r3 q3 ⟨h.big.1, h.big.2.1, h.big.2.2.1, Nat.le_trans b2 k3.size⟩ k4
  refine ⟨g4, r4, q4, ⟨h.big.1, h.big.2.1, h.big.2.2.1, b4⟩, by simp, ?_, ?_, ?_, sy_more h.sym⟩
  · rw [← h.js]
    obtain ⟨m, hm⟩ : ∃ m, K.length = m + 2 := ⟨K.length - 2, by omega⟩
    rw [show (F.length :: (K.erase (mn F K)).erase (mn F (K.erase (mn F K)))).length - 1 = m by simp; omega, show K.length - 1 = m + 1 by omega]
    rfl
  · have e1 : cst (F ++ [jnd F (mn F K) (mn F (K.erase (mn F K)))]) (F.length :: (K.erase (mn F K)).erase (mn F (K.erase (mn F K)))) = (F.getD (mn F K) nd0).1 + (F.getD (mn F (K.erase (mn F K))) nd0).1 + cst F ((K.erase (mn F K)).erase (mn F (K.erase (mn F K)))) := by
      rw [← cst_more (x := jnd F (mn F K) (mn F (K.erase (mn F K)))) g2.lt]
      simp [cst, jnd]
    have := h.sum
    omega
  · have := h.nums
    simp
    omega
/-- A pile's length, off the memory. -/
def pln (B : Nat) (w : World) : Nat := match w.cell? ⟨B, 0, none⟩ with
  | some (.slice _ n _) => n
  | _ => 0
theorem Gp.pln {w : World} {base Fb B : Nat} {v : Value} {F : List Nd} {bs K L : List Nat} (h : Gp w base Fb B v F bs K L) : Go.Proofs.Ythpocbpleffdpaa.pln B w = K.length := by
  have h1 := h.pil.st.cell 0
  obtain ⟨ao, cap, e, _⟩ := h.pil.len
  simp at h1
  unfold Go.Proofs.Ythpocbpleffdpaa.pln
  rw [h1, e]
  exact h.len
theorem len_gp (w : World) (base Fb B : Nat) (v : Value) (F : List Nd) (bs K L : List Nat) (h : Gp w base Fb B v F bs K L) : Calls Try.prog 73 #[ptr B] w fun e w' => e = .returned (.int .i64 K.length) ∧ w = w' :=
  (len_any (cF F bs) w base B v (fvo (ptr Fb)) L h.pil).mono (fun _ _ e => ⟨by rw [e.1, h.len], e.2.symm⟩)
theorem map_range (L : List Nat) : (List.range L.length).map (fun k => L.getD k 0) = L := by
  apply List.ext_getElem?
  intro i
  by_cases hi : i < L.length
  · simp [hi]
  · simp [hi]
/-- The beginning. -/
theorem Ps.start {w w2 w3 w4 : World} {Fb G : Nat} {zs : List Int} {v : Value} {L L' : List Nat} (h : Lvs w2 w3 Fb [] [] zs v zs.length L) (hp : L'.Perm L) (hP : Pil (cF (lv zs zs.length) L) w4 w2.heap.size w3.heap.size v (fvo (ptr Fb)) L') (hX : Hx (kf (cF (lv zs zs.length) L) L') 0 L'.length) (k4 : Kp (fun k => v.ownBlock = some k) w3 w4)
    (r2 : Rw .i64 3 w2 G (List.replicate zs.length 0)) (k2 : Kp (fun _ => False) w w2) (hFb : w.heap.size ≤ Fb) (hGF : G ≠ Fb) (hz : ∀ z ∈ zs, 0 ≤ z ∧ z < 4294967296) (hl : zs.length ≤ 1000000) (h0 : 0 < (lv zs zs.length).length) :
    Ps w w4 w2.heap.size Fb w3.heap.size G zs.length v (lv zs zs.length) L (List.range (lv zs zs.length).length) L' (jns ((lv zs zs.length).length - 1) (lv zs zs.length, List.range (lv zs zs.length).length)) := by
  have hfo : Fo w3 Fb (lv zs zs.length) L := by have := h.fo; simpa using this
  have hne := h.ne
  have hll := hfo.len
  have hlv := lv_len zs zs.length
  have g : Gp w4 w2.heap.size Fb w3.heap.size v (lv zs zs.length) L (List.range (lv zs zs.length).length) L' := by
    refine ⟨hfo.kp k4 (fun e => (hne _ e).1 rfl) (fun b hb e => (hne _ e).2 (by simpa using hb)), hP, hX, ?_, fun k hk => List.mem_range.1 hk⟩
    rw [← hll, map_range]
    exact hp
  have r3 := r2.kp h.kp hGF
  have hG := r2.lt
  have hol := fun x e => (h.own.lt x e).1
  have z2 := k2.size
  have z3 := h.kp.size
  have z4 := k4.size
  have hs := cst_le (K := List.range (lv zs zs.length).length) (co_lv hz)
  rw [List.length_range] at hs
  refine ⟨g, r3.kp k4 (fun e => by have := hol _ e; omega), ?_, ⟨z2, hFb, by omega, by omega⟩, by simpa using h0, by rw [List.length_range], by omega, by rw [List.length_range]; omega, sy_lv zs⟩
  exact (k2.trans h.kp (fun i hi e => by omega)).trans k4 (fun i hi e => by have := hol _ e; omega)

theorem Try.info3p : (Try.prog.info? 3).map (fun i => (i.zero, i.size, i.bytes)) = some (some (.int .i64 0), 1, 8) := by kernel_rfl
/-- What is made ahead of the leaves. -/
structure Mk (w w1 : World) (n : Nat) : Prop where
  row : Rw .i64 3 w1 w.heap.size (List.replicate n 0)
  bel : Below w.heap.size w w1
theorem leaves_new {w w1 : World} {ao : Option Addr} {cap : Nat} {zs : List Int} (hl : zs.length ≤ 1000000) (hz : ∀ z ∈ zs, 0 ≤ z ∧ z < 4294967296) (hs : Src .u32 w ao zs) (m : Mk w w1 zs.length) :
    Calls Try.prog 72 #[ptr w1.heap.size, .slice ao zs.length cap] (w1.alloc (.cells #[.int .i64 0] 111)) fun e w' => ∃ v L, e = .returned v ∧ Lvs (w1.alloc (.cells #[.int .i64 0] 111)) w' w1.heap.size [] [] zs v zs.length L := by
  have hG := m.row.lt
  have k1 : Kp (fun _ => False) w w1 := Kp.of_below m.bel
  refine leaves_any _ w1.heap.size [] [] ao cap zs hl (by simp) hz ((hs.kp k1 (fun _ _ _ h => h)).kp (Kp.alloc (Kp.refl (fun _ => False) w1) _) (fun _ _ _ h => h)) (fun b off e h0 => ?_) ?_
  · subst e
    obtain ⟨b', off', e, hc⟩ := hs h0
    cases e
    have := block_lt_of_cell (hc 0 h0)
    simp at this
    omega
  · exact ⟨St.new 111 w1 _, rfl, fun k hk => by simp at hk, fun k hk => by simp at hk, fun k p hk => by simp at hk, by simp⟩
theorem pile_new {w2 w3 : World} {Fb : Nat} {zs : List Int} {v : Value} {L : List Nat} (hl : zs.length ≤ 1000000) (h : Lvs w2 w3 Fb [] [] zs v zs.length L) :
    Calls Try.prog 71 #[ptr Fb, v] w3 fun e w' => e = .returned (ptr w3.heap.size) ∧ ∃ L', L'.Perm L ∧ Pil (cF (lv zs zs.length) L) w' w2.heap.size w3.heap.size v (fvo (ptr Fb)) L' ∧ Hx (kf (cF (lv zs zs.length) L) L') 0 L'.length ∧ Kp (fun k => v.ownBlock = some k) w3 w' := by
  have hfo : Fo w3 Fb (lv zs zs.length) L := by have := h.fo; simpa using this
  have hll := hfo.len
  have hlv := lv_len zs zs.length
  exact pile_any (cF (lv zs zs.length) L) w3 w2.heap.size Fb v L h.own (fun b hb => hfo.tk hb) (fun g e hm => (h.ne g e).2 (by simpa using hm)) (by omega)

theorem frame4 {w w1 w3 w4 : World} {zs : List Int} {v : Value} {L : List Nat} (m : Mk w w1 zs.length) (h : Lvs (w1.alloc (.cells #[.int .i64 0] 111)) w3 w1.heap.size [] [] zs v zs.length L) (k4 : Kp (fun k => v.ownBlock = some k) w3 w4) : Rw .i64 3 w4 w.heap.size (List.replicate zs.length 0) ∧ Kp (fun _ => False) w w4 := by
  have hG := m.row.lt
  have hol := fun x e => (h.own.lt x e).1
  have hsz : (w1.alloc (.cells #[.int .i64 0] 111)).heap.size = w1.heap.size + 1 := by simp
  have k2 : Kp (fun _ => False) w (w1.alloc (.cells #[.int .i64 0] 111)) := (Kp.of_below m.bel).alloc _
  refine ⟨((m.row.alloc _).kp h.kp (fun e => by omega)).kp k4 (fun e => by have := hol _ e; omega), ?_⟩
  exact (k2.trans h.kp (fun i hi e => by omega)).trans k4 (fun i hi e => by have := hol _ e; omega)
theorem Ps.begin {w w1 w3 w4 : World} {zs : List Int} {v : Value} {L L' : List Nat} (hl : zs.length ≤ 1000000) (hz : ∀ z ∈ zs, 0 ≤ z ∧ z < 4294967296) (h0 : 0 < (lv zs zs.length).length) (m : Mk w w1 zs.length) (h : Lvs (w1.alloc (.cells #[.int .i64 0] 111)) w3 w1.heap.size [] [] zs v zs.length L)
    (r : L'.Perm L ∧ Pil (cF (lv zs zs.length) L) w4 (w1.alloc (.cells #[.int .i64 0] 111)).heap.size w3.heap.size v (fvo (ptr w1.heap.size)) L' ∧ Hx (kf (cF (lv zs zs.length) L) L') 0 L'.length ∧ Kp (fun k => v.ownBlock = some k) w3 w4) :
    Ps w w4 (w1.alloc (.cells #[.int .i64 0] 111)).heap.size w1.heap.size w3.heap.size w.heap.size zs.length v (lv zs zs.length) L (List.range (lv zs zs.length).length) L' (jns ((lv zs zs.length).length - 1) (lv zs zs.length, List.range (lv zs zs.length).length)) := by
  have hG := m.row.lt
  exact Ps.start h r.1 r.2.1 r.2.2.1 r.2.2.2 (m.row.alloc _) ((Kp.of_below m.bel).alloc _) (by omega) (by omega) hz hl h0
/-- The least comes off, and sinks. -/
theorem least_ps {w wr : World} {base Fb B G n : Nat} {v : Value} {F : List Nd} {bs K L : List Nat} {S : List Nd × List Nat} (h : Ps w wr base Fb B G n v F bs K L S) (hn : n ≤ 1000000) (hG : w.heap.size ≤ G) :
    Calls Try.prog 74 #[ptr B] wr fun e w' => e = .returned (ptr (bs.getD (mn F K) 0)) ∧ ∀ d : Nat, d ≤ 1 → Calls Try.prog 75 #[ptr (bs.getD (mn F K) 0), .int .i64 d, .slice (some ⟨G, 0, none⟩) n n] w' fun e w'' => e = .returned (.tuple #[]) ∧ Rw .i64 3 w'' G (snk F F.length (mn F K) d (List.replicate n 0)) ∧ Kp (fun _ => False) w w'' := by
  have hs := h.nums
  obtain ⟨m1, _⟩ := mn_mem F (ne_nil_of h.one)
  have m2 := h.gp.lt _ m1
  refine (least_gp wr base Fb B v F bs K L h.gp (ne_nil_of h.one) (by omega)).mono ?_
  rintro e w' ⟨rfl, v', L', g', _, k1⟩
  obtain ⟨r1, q1, _⟩ := Ps.off h.gp h.row h.kp h.big k1
  refine ⟨rfl, fun d hd => ?_⟩
  have := sink_any F bs Fb G F.length (mn F K) d (List.replicate n 0) w' m2 m2 (by omega) g'.fo r1 (by rw [List.length_replicate]; exact h.sym) (by rw [List.length_replicate]; omega)
  rw [List.length_replicate] at this
  exact this.mono (fun e w'' x => ⟨x.1, x.2.1, q1.trans x.2.2 (fun i hi e => by omega)⟩)

set_option maxHeartbeats 4000000 in
set_option maxRecDepth 100000 in
theorem plain_none (w : World) (ao : Option Addr) (cap : Nat) (zs : List Int) (hl : zs.length ≤ 1000000) (hz : ∀ z ∈ zs, 0 ≤ z ∧ z < 4294967296) (hs : Src .u32 w ao zs) (h0 : (lv zs zs.length).length = 0) :
    Calls Try.prog 50 #[.slice ao zs.length cap] w fun e w' => e = .returned (.slice (some ⟨w.heap.size, 0, none⟩) zs.length zs.length) ∧ Rw .i64 3 w' w.heap.size (hzl zs) ∧ Kp (fun _ => False) w w' := by
  have HS := hid hs
  have HZ := hid hz
  have H0 := hid h0
  clear hs hz h0
  go_enter Try.func50, Try.ntmps50
  go_wp2_with (first
    | (at_make; refine wpList_make_rw 22 3 8 Try.underlying22 Try.info3p (by decide) rfl _ _ rfl zs.length rfl rfl (by omega) ?_; intro w1 hrow hb1; have HM := hid (Mk.mk hrow hb1); clear hrow hb1)
    | (go_at_call 72; refine (leaves_new hl HZ.out HS.out HM.out).mono ?_; rintro _ w3 ⟨v, L, rfl, HL0⟩; have HL := hid HL0; clear HL0)
    | (go_at_call 71; refine (pile_new hl HL.out).mono ?_; rintro _ w4 ⟨rfl, L4, R4⟩; have HR := hid R4; clear R4; have HN : Hid (Calls Try.prog 73 #[ptr w3.heap.size] w4 fun e w' => e = .returned (.int .i64 0) ∧ w4 = w') := (len_any _ w4 _ _ _ _ L4 HR.out.2.1).mono (fun _ _ e => ⟨by rw [e.1, HR.out.1.length_eq, (by have := HL.out.fo.len; simpa using this : L.length = (lv zs zs.length).length), H0.out]; rfl, e.2.symm⟩))
    | (go_at_call 73; refine HN.out.mono ?_; rintro _ _ ⟨rfl, rfl⟩))
  go_ret
  have hf := frame4 HM.out HL.out HR.out.2.2.2
  refine ⟨rfl, ?_, hf.2⟩
  unfold hzl
  rw [if_pos H0.out]
  exact hf.1

set_option maxHeartbeats 4000000 in
set_option maxRecDepth 100000 in
theorem plain_one (w : World) (ao : Option Addr) (cap : Nat) (zs : List Int) (hl : zs.length ≤ 1000000) (hz : ∀ z ∈ zs, 0 ≤ z ∧ z < 4294967296) (hs : Src .u32 w ao zs) (h0 : (lv zs zs.length).length = 1) :
    Calls Try.prog 50 #[.slice ao zs.length cap] w fun e w' => e = .returned (.slice (some ⟨w.heap.size, 0, none⟩) zs.length zs.length) ∧ Rw .i64 3 w' w.heap.size (hzl zs) ∧ Kp (fun _ => False) w w' := by
  have HS := hid hs
  have HZ := hid hz
  have H0 := hid h0
  have HE : Hid (hzl zs = snk (lv zs zs.length) (lv zs zs.length).length (mn (lv zs zs.length) (List.range (lv zs zs.length).length)) 1 (List.replicate zs.length 0)) := by
    unfold hzl
    rw [if_neg (by omega), if_pos h0]
    exact rfl
  clear hs hz h0
  go_enter Try.func50, Try.ntmps50
  go_wp2_with (first
    | (at_make; refine wpList_make_rw 22 3 8 Try.underlying22 Try.info3p (by decide) rfl _ _ rfl zs.length rfl rfl (by omega) ?_; intro w1 hrow hb1; have HM := hid (Mk.mk hrow hb1); clear hrow hb1)
    | (go_at_call 72; refine (leaves_new hl HZ.out HS.out HM.out).mono ?_; rintro _ w3 ⟨v, L, rfl, HL0⟩; have HL := hid HL0; clear HL0)
    | (go_at_call 71; refine (pile_new hl HL.out).mono ?_; rintro _ w4 ⟨rfl, L4, R4⟩; have HP := hid (Ps.begin hl HZ.out (by rw [H0.out]; decide) HM.out HL.out R4); clear R4; have HN : Hid (Calls Try.prog 73 #[ptr w3.heap.size] w4 fun e w' => e = .returned (.int .i64 1) ∧ w4 = w') := (len_gp _ _ _ _ _ _ _ _ _ HP.out.gp).mono (fun _ _ e => ⟨by rw [e.1, List.length_range, H0.out]; rfl, e.2⟩))
    | (go_at_call 73; refine HN.out.mono ?_; rintro _ _ ⟨rfl, rfl⟩)
    | (go_at_call 74; refine (least_ps HP.out hl (Nat.le_refl _)).mono ?_; rintro _ w5 ⟨rfl, HQ0⟩; have HQ := hid HQ0; clear HQ0)
    | (go_at_call 75; refine (HQ.out 1 (by omega)).mono ?_; rintro _ w6 ⟨rfl, R6, K6⟩))
  go_ret
  exact ⟨rfl, by rw [HE.out]; exact R6, K6⟩
end Go.Proofs.Ythpocbpleffdpaa
