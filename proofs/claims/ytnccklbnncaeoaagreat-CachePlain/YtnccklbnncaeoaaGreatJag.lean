import Derived.Test.YtnccklbnncaeoaaGreatJac
import Derived.Test.YtnccklbnncaeoaaGreatJad
import Derived.Test.YtnccklbnncaeoaaGreatJae
import Derived.Test.YtnccklbnncaeoaaGreatJaf
/- Bytes that never change (Bs), and a piece put over a sector (put). -/
namespace Go.Proofs.YtnccklbnncaeoaaGreat
open Go.RowKit

theorem Tryz.info5 : (Tryz.prog.info? 5).map (fun i => (i.zero, i.size, i.bytes)) = some (some (.int .u8 0), 1, 1) := by kernel_rfl
theorem info5s : (Tryz.prog.info? 5).map (·.size) = some 1 := by kernel_rfl
theorem hmix : Tryz.prog.follows .mixedOrders = true := by kernel_rfl
theorem drewN_kp (F : Nat → Prop) (w : World) (n : Nat) : Kp F w (w.drewN n) := by
  induction n generalizing w with
  | zero => exact Kp.refl _ _
  | succ n ih => exact (ih w).drew

/-- A struct's cells. -/
def St (t : TypeId) (w : World) (g : Nat) (cs : Array Value) : Prop := w.heap[g]? = some (.cells cs t (0, 0))
theorem St.cell {t : TypeId} {w : World} {g : Nat} {cs : Array Value} (h : St t w g cs) (i : Nat) : w.cell? ⟨g, i, none⟩ = cs[i]? := cell_of_row w g i _ t _ h
theorem St.frozen {t : TypeId} {w : World} {g : Nat} {cs : Array Value} (h : St t w g cs) (i : Nat) : w.frozen? ⟨g, i, none⟩ = false := frozen_of_row w g i _ t h
theorem St.lt {t : TypeId} {w : World} {g : Nat} {cs : Array Value} (h : St t w g cs) : g < w.heap.size := (Array.getElem?_eq_some_iff.1 h).1
theorem St.set {t : TypeId} {w : World} {g : Nat} {cs : Array Value} (h : St t w g cs) (i : Nat) (v : Value) : St t (w.setCell ⟨g, i, none⟩ v) g (cs.set! i v) := by
  unfold St
  rw [heap_setCell_same w g i _ t _ h]; simp
theorem St.kp {t : TypeId} {F : Nat → Prop} {w w' : World} {g : Nat} {cs : Array Value} (h : St t w g cs) (k : Kp F w w') (hf : ¬ F g) : St t w' g cs := by
  unfold St; rw [k.block g h.lt hf]; exact h
theorem St.below {t : TypeId} {w w' : World} {g B : Nat} {cs : Array Value} (h : St t w g cs) (k : Below B w w') (hg : g < B) : St t w' g cs := by
  unfold St; rw [k.block g hg]; exact h
theorem St.new (t : TypeId) (w : World) (cs : Array Value) : St t (w.alloc (.cells cs t)) w.heap.size cs := heap_alloc_new w _
theorem kp_setCell (w : World) (g i : Nat) (v : Value) (F : Nat → Prop) (hF : F g) : Kp F w (w.setCell ⟨g, i, none⟩ v) :=
  ⟨rfl, rfl, rfl, by simp, fun k _ hk => heap_setCell_other w ⟨g, i, none⟩ k v (fun e => hk (by rw [e]; exact hF))⟩
/-- A slice that reads as these bytes, in a block of which D holds. -/
def Bs (D : Nat → Prop) (w : World) (v : Value) (xs : List Int) : Prop :=
  ∃ g off cap, v = .slice (some ⟨g, off, none⟩) xs.length cap ∧ D g ∧ g < w.heap.size ∧ xs.length ≤ cap ∧ cap ≤ maxLen ∧ ∀ i, i < xs.length → w.cell? ⟨g, off + i, none⟩ = some (.int .u8 (xs.getD i 0))
theorem Bs.kp {D F : Nat → Prop} {w w' : World} {v : Value} {xs : List Int} (h : Bs D w v xs) (k : Kp F w w') (hd : ∀ i, D i → ¬ F i) : Bs D w' v xs := by
  obtain ⟨g, off, cap, rfl, hg, hl, h1, h2, hc⟩ := h
  refine ⟨g, off, cap, rfl, hg, Nat.lt_of_lt_of_le hl k.size, h1, h2, fun i hi => ?_⟩
  rw [← hc i hi]
  have hb := k.block g hl (hd g hg)
  unfold World.cell?
  simp only [hb]
theorem Bs.mono {D D' : Nat → Prop} {w : World} {v : Value} {xs : List Int} (h : Bs D w v xs) (hd : ∀ i, i < w.heap.size → D i → D' i) : Bs D' w v xs := by
  obtain ⟨g, off, cap, rfl, hg, hl, h1, h2, hc⟩ := h
  exact ⟨g, off, cap, rfl, hd g hl hg, hl, h1, h2, hc⟩
theorem kp_mp {κ : Type} {mk : κ → Value} {F : Nat → Prop} {w w' : World} {b c : Nat} {es : List (κ × Value × Nat)} (h : Mp mk w b es c) (k : Kp F w w') (hf : ¬ F b) : Mp mk w' b es c := h.of_block (k.block b h.lt hf)
theorem kp_cell {F : Nat → Prop} {w w' : World} {g i : Nat} {v : Value} (k : Kp F w w') (h : w.cell? ⟨g, i, none⟩ = some v) (hf : ¬ F g) : w'.cell? ⟨g, i, none⟩ = some v := by
  rw [← h]
  have hb := k.block g (block_lt_of_cell h) hf
  unfold World.cell?
  simp only [hb]
theorem kp_frozen {F : Nat → Prop} {w w' : World} {g i : Nat} (k : Kp F w w') (hl : g < w.heap.size) (hf : ¬ F g) : w'.frozen? ⟨g, i, none⟩ = w.frozen? ⟨g, i, none⟩ := by
  have hb := k.block g hl hf
  unfold World.frozen?
  simp only [hb]
set_option maxRecDepth 100000 in
set_option maxHeartbeats 1000000 in
/-- A whole sector. -/
theorem put_whole (m c p k : Nat) (es : List (Int × Value × Nat)) (ao : Option Addr) (cap : Nat) (w : World) (hm : Mp (Value.int .i64) w m es c) (hp : p = 512 * k) (hpb : p ≤ 1000000000000) :
    Calls Tryz.prog 161 #[.map (some m), .agg #[.int .i64 p, .slice ao 512 cap]] w fun e w' => e = .returned (.tuple #[]) ∧ Mp (Value.int .i64) w' m (mput es k (.slice ao 512 cap) c) (mclk es k c) ∧ Kp (fun i => i = m) w w' := by
  have hk : (p : Int) / 512 = (k : Int) := by omega
  have HM : Hid (Mp (Value.int .i64) (w.alloc (.cells #[.int .i64 p, .slice ao 512 cap] 215)) m es c) := kp_mp (F := fun _ => False) hm ((Kp.refl _ _).alloc _) (fun h => h)
  clear hm hp
  go_enter Tryz.func161, Tryz.ntmps161
  go_wp2_with (first | (at_mapUpdate; refine wpList_update_mp rfl _ _ _ rfl (ky_int Tryz.underlying2) Tryz.underlying161 m c es rfl HM.out (k : Int) rfl _ rfl ?_; intro w1 m1 g1))
  refine bodyPost_ret (results_none rfl _ _ _) rfl ?_
  exact ⟨rfl, m1, ((Kp.refl _ _).alloc _).trans (Kp.of_grown (F := fun i => i = m) g1 (fun i e => by cases e; rfl)) (fun _ _ h => h)⟩
theorem splice_all (L cs : List Int) (h : cs.length = L.length) : splice L 0 cs = cs := by
  unfold splice
  rw [List.take_zero, List.nil_append, Nat.zero_add, h, List.drop_length, List.append_nil]
set_option maxRecDepth 100000 in
set_option maxHeartbeats 2000000 in
/-- A part of a sector. -/
theorem put_part (D : Nat → Prop) (m c p k r n g off cap : Nat) (es : List (Int × Value × Nat)) (xs old : List Int) (w : World) (hm : Mp (Value.int .i64) w m es c) (hp : p = 512 * k + r) (hnx : n = xs.length) (hr : r + n ≤ 512) (hl : n < 512) (hl1 : 1 ≤ n) (hpb : p ≤ 1000000000000)
    (hgl : g < w.heap.size) (hcs : ∀ i, i < xs.length → w.cell? ⟨g, off + i, none⟩ = some (.int .u8 (xs.getD i 0))) (hol : old.length = 512) (ho : ∀ u, mget es k = some u → Bs D w u old) (hn : mget es k = none → old = List.replicate 512 0) :
    Calls Tryz.prog 161 #[.map (some m), .agg #[.int .i64 p, .slice (some ⟨g, off, none⟩) n cap]] w fun e w' => e = .returned (.tuple #[]) ∧ ∃ v', Mp (Value.int .i64) w' m (mput es k v' c) (mclk es k c) ∧ Bs (fun i => w.heap.size ≤ i) w' v' (splice old r xs) ∧ Kp (fun i => i = m) w w' := by
  have hk : (p : Int) / 512 = (k : Int) := by omega
  have hrr : (p : Int) % 512 = (r : Int) := by omega
  have hr5 : r < 512 := by omega
  have hmlt := hm.lt
  have HM0 : Hid (Mp (Value.int .i64) w m es c) := hm
  have hlb : ((n : Int) == 512) = false := beq_eq_false_iff_ne.2 (by omega)
  have HN : Hid (n = xs.length) := hnx
  obtain ⟨u, hu⟩ : ∃ u, u = (mget es (k : Int)).getD (.slice none 0 0) := ⟨_, rfl⟩
  have HU : Hid ((mget es (k : Int)).getD (.slice none 0 0) = u) := hu.symm
  obtain ⟨Z, hZ⟩ : ∃ Z : List Int, List.replicate 512 0 = Z := ⟨_, rfl⟩
  have HZ : Hid (List.replicate 512 (0 : Int) = Z) := hZ
  have HZL : Hid (Z.length = 512) := by show _ = _; rw [← hZ, List.length_replicate]
  have HC : Hid (∀ i, i < xs.length → w.cell? ⟨g, off + i, none⟩ = some (.int .u8 (xs.getD i 0))) := hcs
  have HOL : Hid (old.length = 512) := hol
  -- what is copied of the old sector
  obtain ⟨us, ul, uc, ua, HUS, HUE, HUL⟩ : ∃ (us : List Int) (ul uc : Nat) (ua : Option Addr), Hid (u = .slice ua ul uc ∧ us.length = Nat.min ul 512 ∧ (0 < us.length → ∃ g2 off2, ua = some ⟨g2, off2, none⟩ ∧ g2 < w.heap.size ∧ ∀ j, j < us.length → w.cell? ⟨g2, off2 + j, none⟩ = some (.int .u8 (us.getD j 0)))) ∧ Hid (splice Z 0 us = old) ∧ Hid (us.length ≤ 512) := by
    cases hq : mget es (k : Int) with
    | none =>
      refine ⟨[], 0, 0, none, ?_, ?_, ?_⟩
      · exact ⟨by rw [hu, hq]; rfl, rfl, fun h => absurd h (by simp)⟩
      · show _ = _; rw [hn hq, hZ]; simp [splice]
      · show _ ≤ _; simp
    | some u0 =>
      obtain ⟨g2, off2, cap2, h1, h2, h3, h4, h5, h6⟩ := ho u0 hq
      refine ⟨old, 512, cap2, some ⟨g2, off2, none⟩, ?_, ?_, ?_⟩
      · refine ⟨by rw [hu, hq, ← hol]; exact h1, by rw [hol]; rfl, fun _ => ⟨_, _, rfl, h3, h6⟩⟩
      · show _ = _; exact splice_all _ _ (by rw [hol, HZL.out])
      · show _ ≤ _; rw [hol]; exact Nat.le_refl _
  obtain ⟨rfl, hue1, hue2⟩ := HUS.out
  have HU1 : Hid (us.length = Nat.min ul 512) := hue1
  have HU2 : Hid (0 < us.length → ∃ g2 off2, ua = some ⟨g2, off2, none⟩ ∧ g2 < w.heap.size ∧ ∀ j, j < us.length → w.cell? ⟨g2, off2 + j, none⟩ = some (.int .u8 (us.getD j 0))) := hue2
  clear hm hp hnx hcs hol ho hn hu hZ hue1 hue2 HUS
  have HU3 : ∀ w1, Hid (Below w.heap.size w w1) → 0 < us.length → ∃ ad, ua = some ad ∧ ∀ j, j < us.length → w1.cell? (ad.add j) = some (.int .u8 (us.getD j 0)) := by
    intro w1 hb hp
    obtain ⟨g2, off2, e, h3, h4⟩ := HU2.out hp
    refine ⟨_, e, fun j hj => ?_⟩
    rw [add_o]
    exact (hb.out.cell (p := ⟨g2, off2 + j, none⟩) h3).trans (h4 j hj)
  have HST : Hid (St 215 (w.alloc (.cells #[.int .i64 p, .slice (some ⟨g, off, none⟩) n cap] 215)) w.heap.size #[.int .i64 p, .slice (some ⟨g, off, none⟩) n cap]) := St.new 215 w _
  go_enter Tryz.func161, Tryz.ntmps161
  go_wp2_with (first | (at_make; refine wpList_make_rw (κ := .u8) 47 5 1 Tryz.underlying47 Tryz.info5 (by decide) rfl _ _ rfl 512 rfl rfl (by omega) ?_; intro w1 r1 b1; rw [HZ.out, World.size_alloc] at r1; have B1 : Hid (Below w.heap.size w w1) := ((Below.refl _ w).alloc (Nat.le_refl _) _).trans (b1.mono (by simp)); have R1 : Hid (Rw .u8 5 w1 (w.heap.size + 1) Z) := r1; have S1 : Hid (St 215 w1 w.heap.size #[.int .i64 p, .slice (some ⟨g, off, none⟩) n cap]) := HST.out.below b1 (by simp); clear r1 b1) | (at_lookup; refine wpList_lookup_mp rfl _ _ rfl (ky_int Tryz.underlying2) Tryz.underlying161 (.slice none 0 0) (Tryz.zeroValue47 _) m c es rfl (kp_mp (F := fun _ => False) HM0.out (Kp.of_below B1.out) (fun h => h)) (k : Int) rfl _ HU.out ?_) | (refine wpList_copy_rw rfl (.tmp 18) (.tmp 21) 47 47 rfl 5 Tryz.underlying47 info5s _ _ _ _ _ _ rfl rfl (w.heap.size + 1) 0 5 Z us R1.out HU1.out (fun h => ⟨rfl, HU3 w1 B1 h⟩) (by rw [HZL.out, Nat.zero_add]; exact HUL.out) ?_; intro w2 r2 g2; rw [HUE.out] at r2; have R2 : Hid (Rw .u8 5 w2 (w.heap.size + 1) old) := r2; have B2 : Hid (Below w.heap.size w w2) := B1.out.grown g2 B1.out.size (fun j e => by cases e; omega); have S2 := S1.out.kp (F := fun i => i = w.heap.size + 1) (Kp.of_grown g2 (fun i e => by cases e; rfl)) (by omega); clear r2 g2 R1 B1))
  go_frame
  have c0 : w2.cell? ⟨w.heap.size, 0, none⟩ = some (.int .i64 p) := S2.cell 0
  have c1 : w2.cell? ⟨w.heap.size, 1, none⟩ = some (.slice (some ⟨g, off, none⟩) n cap) := S2.cell 1
  have hr6 : ¬ 512 = r := by omega
  clear S2 S1 HST
  refine wp_region_tail hmix (by kernel_rfl) ?_
  dsimp only [List.dropLast, List.getLast]
  repeat (gi_big_quiet_step (fail))
  refine wpQuietIn_nil ?_
  intro _ hw'
  obtain ⟨nq, hw2⟩ := hw'
  subst hw2
  refine wpListIn_copy_rw rfl (.tmp 27) (.tmp 29) 47 47 rfl 5 Tryz.underlying47 info5s _ _ _ _ _ _ rfl rfl (w.heap.size + 1) r 5 old xs (R2.out.kp (F := fun _ => False) (drewN_kp _ _ _) (fun h => h)) (by rw [← HN.out]; exact (Nat.min_eq_left (by omega)).symm) (fun _ => ⟨rfl, _, rfl, fun j hj => ?_⟩) (by rw [HOL.out, ← HN.out]; omega) ?_
  · rw [add_o]
    have hc := HC.out j hj
    exact kp_cell (F := fun _ => False) (drewN_kp _ _ _) ((B2.out.cell (p := ⟨g, off + j, none⟩) hgl).trans hc) (fun h => h)
  intro w3 r3 g3
  have K3 : Hid (Kp (fun i => i = w.heap.size + 1) w2 w3) := (drewN_kp _ _ _).trans (Kp.of_grown (F := fun i => i = w.heap.size + 1) g3 (fun i e => by cases e; rfl)) (fun _ _ h => h)
  have HM3 : Hid (Mp (Value.int .i64) w3 m es c) := kp_mp (kp_mp (F := fun _ => False) HM0.out (Kp.of_below B2.out) (fun h => h)) K3.out (by omega)
  have R3 : Hid (Rw .u8 5 w3 (w.heap.size + 1) (splice old r xs)) := r3
  clear r3 g3 c0 c1
  unfold wpListIn
  go_frame
  go_wp2_with (first | (at_mapUpdate; refine wpList_update_mp rfl _ _ _ rfl (ky_int Tryz.underlying2) Tryz.underlying161 m c es rfl HM3.out (k : Int) rfl (.slice (some ⟨w.heap.size + 1, 0, none⟩) 512 512) rfl ?_; intro w4 m4 g4))
  go_end0
  have hs : (splice old r xs).length = 512 := by rw [length_splice _ _ _ (by rw [HOL.out, ← HN.out]; omega), HOL.out]
  have hz := B2.out.size
  have R4 := R3.out.grown g4 (by intro e; cases e; omega)
  refine ⟨rfl, _, m4, ⟨w.heap.size + 1, 0, 512, by rw [hs], by omega, R4.lt, by rw [hs]; exact Nat.le_refl _, by unfold maxLen; omega, fun i hi => R4.cells i hi⟩, ?_⟩
  exact (((Kp.of_below B2.out).trans K3.out (fun i hi h => by omega)).trans (Kp.of_grown (F := fun i => i = m) g4 (fun i e => by cases e; rfl)) (fun i _ h => h))
/-- A piece put over its sector. -/
theorem put_any (D : Nat → Prop) (m c p k r : Nat) (es : List (Int × Value × Nat)) (xs old : List Int) (v : Value) (w : World) (hm : Mp (Value.int .i64) w m es c) (hp : p = 512 * k + r) (hr : r + xs.length ≤ 512) (hl1 : 1 ≤ xs.length) (hpb : p ≤ 1000000000000)
    (hv : Bs D w v xs) (hol : old.length = 512) (ho : ∀ u, mget es k = some u → Bs D w u old) (hn : mget es k = none → old = List.replicate 512 0) (hDm : ¬ D m) :
    Calls Tryz.prog 161 #[.map (some m), .agg #[.int .i64 p, v]] w fun e w' => e = .returned (.tuple #[]) ∧ ∃ v', Mp (Value.int .i64) w' m (mput es k v' c) (mclk es k c) ∧ Bs (fun i => D i ∨ w.heap.size ≤ i) w' v' (splice old r xs) ∧ Kp (fun i => i = m) w w' := by
  have hv' := hv
  obtain ⟨g, off, cap, rfl, hD, hgl, _, _, hcs⟩ := hv
  by_cases hl : xs.length = 512
  · have hr0 : r = 0 := by omega
    subst hr0
    rw [hl] at hv' ⊢
    refine (put_whole m c p k es (some ⟨g, off, none⟩) cap w hm (by omega) hpb).mono ?_
    rintro e w' ⟨rfl, h1, h2⟩
    refine ⟨rfl, _, h1, ?_, h2⟩
    rw [splice_all _ _ (by rw [hl, hol])]
    exact (hv'.kp h2 (fun i hi e => hDm (by rw [← e]; exact hi))).mono (fun i _ h => .inl h)
  · refine (put_part D m c p k r xs.length g off cap es xs old w hm hp rfl hr (by omega) hl1 hpb hgl hcs hol ho hn).mono ?_
    rintro e w' ⟨rfl, v', h1, h2, h3⟩
    exact ⟨rfl, v', h1, h2.mono (fun i _ h => .inr h), h3⟩
end Go.Proofs.YtnccklbnncaeoaaGreat
