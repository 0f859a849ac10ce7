/- cutPieces: the walk. -/
import Derived.Test.YtalicohflfildaaCq
namespace Go.Proofs.Ytalicohflfildaa
open Go.RowKit

theorem bs_take {D : Nat → Prop} {w : World} {g off n c : Nat} {xs : List Int} (h : Bs D w (.slice (some ⟨g, off, none⟩) n c) xs) (t : Nat) (ht : t ≤ xs.length) : Bs D w (.slice (some ⟨g, off, none⟩) t c) (xs.take t) := by
  obtain ⟨g2, off2, cap2, e, h1, h2, h3, h4, h5⟩ := h
  simp only [Value.slice.injEq, Option.some.injEq, Addr.mk.injEq, and_true] at e
  obtain ⟨⟨rfl, rfl⟩, rfl, rfl⟩ := e
  have hl : (xs.take t).length = t := by simp; omega
  refine ⟨g, off, c, by rw [hl], h1, h2, by omega, h4, fun i hi => ?_⟩
  rw [hl] at hi
  rw [h5 i (by omega)]
  simp only [List.getD_eq_getElem?_getD, List.getElem?_take, if_pos hi]
set_option maxRecDepth 100000 in
set_option maxHeartbeats 4000000 in
theorem cutp_any (D : Nat → Prop) (w : World) (pv : Value) (ps : List (Nat × List Int)) (vs0 : List Value) (hpr : Pr D w pv ps vs0) (sz : Nat) (hb : sz ≤ 268435456) (hpb : ∀ p ∈ ps, 1 ≤ p.2.length ∧ p.1 + p.2.length ≤ 268435456) (hnb : ps.length ≤ 1000000000) (hD : ∀ i, D i → i < w.heap.size) :
    Calls Try.prog 67 #[pv, .int .i64 sz] w fun e w' => ∃ v vs, e = .returned v ∧ CpI D w sz ps ps.length v vs w' := by
  obtain ⟨pao, pcap, hpv⟩ := ownsRow_shape hpr.row
  subst hpv
  have HPR : Hid (Pr D w (.slice pao ps.length pcap) ps vs0) := hpr
  have HPB : Hid (∀ p ∈ ps, 1 ≤ p.2.length ∧ p.1 + p.2.length ≤ 268435456) := hpb
  have HD : Hid (∀ i, D i → i < w.heap.size) := hD
  clear hpr hpb hD
  go_enter Try.func67, Try.ntmps67
  go_wp2_with fail
  go_loopw [5, 7, 8, 11] (fun v _ _ iv wr => ∃ (k : Nat) (vs : List Value), k ≤ ps.length ∧ iv = .int .i64 k ∧ CpI D w sz ps k v vs wr) (fun _ _ _ iv _ => ps.length - (intOf iv).toNat)
  case atStart => exact ⟨0, [], Nat.zero_le _, rfl, ⟨⟨rfl, (fun i hi => by simp [ctp] at hi), rfl, .inl ⟨rfl, rfl⟩⟩, ⟨rfl, .inl ⟨rfl, rfl⟩⟩, Kp.refl _ _⟩⟩
  case round =>
    obtain ⟨k, vs, hk, rfl, hI⟩ := hrel
    have HI : Hid (CpI D w sz ps k u5 vs wr) := hI
    clear hI
    by_cases hlt : k < ps.length
    · have hpw := HPR.out.kp HI.out.kp (fun _ _ h => h) (fun _ _ h => h)
      obtain ⟨g, off, cap', hpe, hgl, hgo, hcs⟩ := hpw.cells (by omega)
      obtain ⟨rfl, rfl⟩ : pao = some ⟨g, off, none⟩ ∧ pcap = cap' := by
        simp only [Value.slice.injEq] at hpe; exact ⟨hpe.1, hpe.2.2⟩
      obtain ⟨y0, y1⟩ := hcs k hlt
      have hbs := hpw.bs k hlt
      have hpb := HPB.out (ps.getD k (0, [])) (getD_mem2 ps k hlt)
      obtain ⟨⟨p, xs⟩, hpx⟩ : ∃ t, t = ps.getD k (0, []) := ⟨_, rfl⟩
      rw [← hpx] at y0 hbs hpb
      dsimp only at y0 hbs hpb
      obtain ⟨pvv, hpvv⟩ : ∃ t, t = vs0.getD k undef := ⟨_, rfl⟩
      rw [← hpvv] at y1 hbs
      obtain ⟨pg, po, pc, hpq, -, -, hxc, -⟩ := hbs.le
      subst hpq
      have HBS : Hid (Bs D wr (.slice (some ⟨pg, po, none⟩) xs.length pc) xs) := hbs
      have HPX : Hid ((p, xs) = ps.getD k (0, [])) := hpx
      obtain ⟨xl, hxl⟩ : ∃ x, x = xs.length := ⟨_, rfl⟩
      rw [← hxl] at HBS y1 hpb hxc
      have HXL : Hid (xl = xs.length) := hxl
      clear hcs hpe hgo hbs hpx hpvv hxl hpw
      have q0 : (wr.alloc (.cells #[.int .i64 p, .slice (some ⟨pg, po, none⟩) xl pc] 102)).cell? ⟨wr.heap.size, 0, none⟩ = some (.int .i64 p) := (St.new 102 wr #[.int .i64 p, .slice (some ⟨pg, po, none⟩) xl pc]).cell 0
      have q1 : (wr.alloc (.cells #[.int .i64 p, .slice (some ⟨pg, po, none⟩) xl pc] 102)).cell? ⟨wr.heap.size, 1, none⟩ = some (.slice (some ⟨pg, po, none⟩) xl pc) := (St.new 102 wr #[.int .i64 p, .slice (some ⟨pg, po, none⟩) xl pc]).cell 1
      have K1 : Hid (Kp (fun _ => False) wr (wr.alloc (.cells #[.int .i64 p, .slice (some ⟨pg, po, none⟩) xl pc] 102))) := (Kp.refl _ _).alloc _
      by_cases hsp : sz ≤ p
      · have HC : Hid (CpI D w sz ps (k + 1) u5 vs (wr.alloc (.cells #[.int .i64 p, .slice (some ⟨pg, po, none⟩) xl pc] 102))) := HI.out.skip hlt (by rw [← HPX.out]; exact hsp) K1.out
        have hspi : (sz : Int) ≤ (p : Int) := by omega
        go_wp2
        exact ⟨⟨k + 1, vs, hlt, rfl, HC.out⟩, by simp only [intOf]; omega⟩
      · have hspi : ¬ (sz : Int) ≤ (p : Int) := by omega
        obtain ⟨ao5, c5, hu5⟩ := ownsRow_shape HI.out.row
        subst hu5
        obtain ⟨t, ht⟩ : ∃ t, t = min xl (sz - p) := ⟨_, rfl⟩
        have hmin : min ((p : Int) + (xl : Int)) (sz : Int) = (p : Int) + (t : Int) := by rw [ht]; omega
        have hsub : (p : Int) + (t : Int) - (p : Int) = (t : Int) := by omega
        have htx : t ≤ xl := by omega
        have HT : Hid (t = min xl (sz - p)) := ht
        have hwt : IntKind.i64.wrap (t : Int) = (t : Int) := by rw [IntKind.wrap_i64]; omega
        have htc : ¬ pc < t := by omega
        have htc2 : t ≤ pc := by omega
        clear ht
        go_wp2_with fail
        generalize wr.alloc (.cells #[.int .i64 p, .slice (some ⟨pg, po, none⟩) xl pc] 102) = W1 at q0 q1 K1 ⊢
        refine wp_region_G (fun w' => w'.cell? ⟨wr.heap.size, 0, none⟩ = some (.int .i64 p) ∧ w'.cell? ⟨wr.heap.size, 1, none⟩ = some (.slice (some ⟨pg, po, none⟩) xl pc)) [] hmix ⟨q0, q1⟩ (fun h0 => ?_)
        refine wpAnyG_take (i := 0) (v := .agg #[.int .i64 p, .slice (some ⟨pg, po, none⟩) xl pc]) rfl (by kernel_rfl) (fun _ _ _ h => h) (Or.inl ⟨by rfl, fun w hSw => by (try dsimp only at hSw); go_simp⟩) h0 ?_
        refine wpAnyG_takeW (i := 2) (v := .int .i64 sz) rfl (by kernel_rfl) (fun _ _ _ h => h) (Or.inl ⟨by rfl, fun w _ => by go_simp⟩) ?_
        refine wpAnyG_takeW (i := 4) (v := .pointer (some ⟨wr.heap.size, 0, none⟩)) rfl (by kernel_rfl) (fun _ _ _ h => h) (Or.inl ⟨by rfl, fun w _ => by go_simp⟩) ?_
        refine wpAnyG_take (i := 5) (v := .int .i64 p) rfl (by kernel_rfl) (fun _ _ _ h => h) (Or.inl ⟨by rfl, fun w hSw => by (try dsimp only at hSw); go_simp⟩) h0 ?_
        refine wpAnyG_one (i := 1) (by kernel_rfl) rfl (fun K hK => ?_)
        go_simp
        refine (end_any (p : Int) (some ⟨pg, po, none⟩) xl pc _ (by omega) (by omega)).mono ?_
        rintro e w2 ⟨rfl, hw2⟩
        have k2 : Kp (fun _ => False) W1 w2 := by rw [hw2]; exact ((Kp.refl _ _).drew).alloc _
        clear hw2
        go_wp2_with fail
        refine hK.out _ _ (fun _ _ => ⟨kp_cell k2 q0 (fun h => h), kp_cell k2 q1 (fun h => h)⟩) ?_
        clear hK K
        refine wpAnyG_takeW (i := 3) (v := .int .i64 ((p : Int) + (t : Int))) rfl (by kernel_rfl) (fun _ _ _ h => h) (Or.inl ⟨by rfl, fun w _ => by go_simp⟩) ?_
        refine wpAnyG_takeW (i := 6) (v := .int .i64 (t : Int)) rfl (by kernel_rfl) (fun _ _ _ h => h) (Or.inl ⟨by rfl, fun w _ => by go_simp⟩) ?_
        refine wpAnyG_takeW (i := 7) (v := .int .i64 (t : Int)) rfl (by kernel_rfl) (fun _ _ _ h => h) (Or.inl ⟨by rfl, fun w _ => by go_simp⟩) ?_
        refine wpAnyG_done (by kernel_rfl) ?_ _
        have p0 : w2.cell? ⟨wr.heap.size, 0, none⟩ = some (.int .i64 p) := kp_cell k2 q0 (fun h => h)
        have p1 : w2.cell? ⟨wr.heap.size, 1, none⟩ = some (.slice (some ⟨pg, po, none⟩) xl pc) := kp_cell k2 q1 (fun h => h)
        have K2 : Hid (Kp (fun _ => False) wr w2) := K1.out.trans k2 (fun _ _ h => h)
        clear q0 q1 k2 h0 K1
        go_wp2_with fail
        refine wp_region_G (fun w' => w'.cell? ⟨wr.heap.size, 0, none⟩ = some (.int .i64 p) ∧ w'.cell? ⟨wr.heap.size, 1, none⟩ = some (.slice (some ⟨pg, po, none⟩) xl pc)) [9] hmix ⟨p0, p1⟩ (fun h0 => ?_)
        refine wpAnyG_takeW (i := 0) (v := .slice ao5 (ctp sz (ps.take k)).length c5) rfl (by kernel_rfl) (fun _ _ _ h => h) (Or.inl ⟨by rfl, fun w _ => by go_simp⟩) ?_
        refine wpAnyG_takeW (i := 1) (v := .pointer (some ⟨wr.heap.size, 0, none⟩)) rfl (by kernel_rfl) (fun _ _ _ h => h) (Or.inl ⟨by rfl, fun w _ => by go_simp⟩) ?_
        refine wpAnyG_take (i := 2) (v := .int .i64 p) rfl (by kernel_rfl) (fun _ _ _ h => h) (Or.inl ⟨by rfl, fun w hSw => by (try dsimp only at hSw); go_simp⟩) h0 ?_
        refine wpAnyG_takeW (i := 3) (v := .pointer (some ⟨wr.heap.size, 1, none⟩)) rfl (by kernel_rfl) (fun _ _ _ h => h) (Or.inl ⟨by rfl, fun w _ => by go_simp⟩) ?_
        refine wpAnyG_take (i := 4) (v := .slice (some ⟨pg, po, none⟩) xl pc) rfl (by kernel_rfl) (fun _ _ _ h => h) (Or.inl ⟨by rfl, fun w hSw => by (try dsimp only at hSw); go_simp⟩) h0 ?_
        refine wpAnyG_takeW (i := 5) (v := .int .i64 (t : Int)) rfl (by kernel_rfl) (fun _ _ _ h => h) (Or.inl ⟨by rfl, fun w _ => by go_simp⟩) ?_
        refine wpAnyG_takeW (i := 6) (v := .slice (some ⟨pg, po, none⟩) t pc) rfl (by kernel_rfl) (fun _ _ _ h => h) (Or.inl ⟨by rfl, fun w _ => by go_simp⟩) ?_
        refine wpAnyG_takeW (i := 7) (v := .agg #[.int .i64 p, .slice (some ⟨pg, po, none⟩) t pc]) rfl (by kernel_rfl) (fun _ _ _ h => h) (Or.inl ⟨by rfl, fun w _ => by go_simp⟩) ?_
        refine wpAnyG_one (i := 8) (by kernel_rfl) rfl (fun K hK => ?_)
        go_simp
        have st3 : St 102 (w2.alloc (.cells #[.int .i64 p, .slice (some ⟨pg, po, none⟩) t pc] 102)).drew w2.heap.size #[.int .i64 p, .slice (some ⟨pg, po, none⟩) t pc] := St.new 102 w2 _
        have k3 : Kp (fun _ => False) w2 (w2.alloc (.cells #[.int .i64 p, .slice (some ⟨pg, po, none⟩) t pc] 102)).drew := ((Kp.refl _ _).alloc _).drew
        generalize (w2.alloc (.cells #[.int .i64 p, .slice (some ⟨pg, po, none⟩) t pc] 102)).drew = W3 at st3 k3 ⊢
        refine hK.out _ _ (fun _ _ => ⟨kp_cell k3 p0 (fun h => h), kp_cell k3 p1 (fun h => h)⟩) ?_
        clear hK K h0
        refine wpAnyG_one (i := 9) (by kernel_rfl) rfl (fun K hK => ?_)
        have kx : Kp (fun _ => False) wr W3 := K2.out.trans k3 (fun _ _ h => h)
        have hrow3 : W3.ownsRow w.heap.size 102 2 (.slice ao5 (ctp sz (ps.take k)).length c5) (ctp sz (ps.take k)).length (pcl (ctp sz (ps.take k)) vs) := by
          refine ⟨HI.out.row.1, ?_⟩
          rcases HI.out.row.2 with h1 | ⟨gg, cap, cur, h1, h2, h3, h4⟩
          · exact .inl h1
          · exact .inr ⟨gg, cap, cur, h1, h2, (kx.block gg (Array.getElem?_eq_some_iff.1 h3).1 (fun h => h)).trans h3, h4⟩
        have hcl := ctp_len sz (ps.take k)
        rw [List.length_take] at hcl
        refine step_append_own rfl (.tmp 26) (.tmp 34) 68 rfl w.heap.size 102 (.agg #[.int .i64 0, .slice none 0 0]) 2 32 Try.underlying68 Try.info102 rfl (by decide) (.slice ao5 (ctp sz (ps.take k)).length c5) (ctp sz (ps.take k)).length (pcl (ctp sz (ps.take k)) vs) (by simp [Act.eval]) hrow3 ⟨w2.heap.size, 0, none⟩ 1 1 [.int .i64 p, .slice (some ⟨pg, po, none⟩) t pc] (by simp [Act.eval]) rfl (fun j u hj => ?_) (fun u hu => ?_) (by unfold maxLen; omega) (by omega) (Nat.le_trans HI.out.kp.size kx.size) ?_
        · rw [add_z, st3.cell]; simpa using hj
        · simp at hu; rcases hu with rfl | rfl <;> rfl
        intro v' w4 r4 g4 n4 l4
        have k4 : Kp (fun i => (Value.slice ao5 (ctp sz (ps.take k)).length c5).ownBlock = some i) W3 w4 := Kp.of_grown g4 (fun i e => e)
        have hbt : Bs D wr (.slice (some ⟨pg, po, none⟩) t pc) (xs.take (sz - p)) := by
          have h1 := bs_take HBS.out t (by rw [← HXL.out]; exact htx)
          have e2 : xs.take (sz - p) = xs.take t := by
            rw [HT.out, HXL.out]
            by_cases hh : xs.length ≤ sz - p
            · rw [Nat.min_eq_left hh, List.take_length, List.take_of_length_le hh]
            · rw [Nat.min_eq_right (by omega)]
          rw [e2]; exact h1
        have HC : Hid (CpI D w sz ps (k + 1) v' (vs ++ [.slice (some ⟨pg, po, none⟩) t pc]) w4) := HI.out.take hlt HPX.out hsp hbt kx k4 HD.out r4
        refine hK.out _ _ (fun h => absurd h (by decide)) ?_
        clear hK K
        try simp only [Act.put, List.setIfInBounds_toArray]
        refine wpAnyG_takeW (i := 10) (v := v') rfl (by kernel_rfl) (fun _ _ _ h => h) (Or.inl ⟨by rfl, fun w _ => by go_simp⟩) ?_
        refine wpAnyG_done (by kernel_rfl) ?_ _
        clear r4 g4 n4 l4 k4 hrow3 kx k3 st3 hbt p0 p1
        go_wp2
        exact ⟨⟨k + 1, _, hlt, rfl, HC.out⟩, by simp only [intOf]; omega⟩
    · obtain rfl : k = ps.length := by omega
      have hI := HI.out
      clear hlt
      go_wp2
      go_ret
      exact ⟨_, vs, rfl, hI⟩
end Go.Proofs.Ytalicohflfildaa
