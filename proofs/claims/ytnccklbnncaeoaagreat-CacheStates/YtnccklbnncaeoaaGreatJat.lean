import Derived.Test.YtnccklbnncaeoaaGreatJak
import Derived.Test.YtnccklbnncaeoaaGreatJae
import Derived.Test.YtnccklbnncaeoaaGreatJac
/- cutPieces: what is left of pieces below a size. -/
namespace Go.Proofs.YtnccklbnncaeoaaGreat
open Go.RowKit

def ctp (sz : Nat) : List (Nat × List Int) → List (Nat × List Int)
  | [] => []
  | p :: ps => if sz ≤ p.1 then ctp sz ps else (p.1, p.2.take (sz - p.1)) :: ctp sz ps
theorem ctp_snoc (sz : Nat) (l : List (Nat × List Int)) (p : Nat × List Int) : ctp sz (l ++ [p]) = ctp sz l ++ (if sz ≤ p.1 then [] else [(p.1, p.2.take (sz - p.1))]) := by
  induction l with
  | nil => simp only [List.nil_append, ctp]
  | cons q l ih =>
    simp only [List.cons_append, ctp]
    by_cases h : sz ≤ q.1
    · rw [if_pos h, if_pos h, ih]
    · rw [if_neg h, if_neg h, ih]; rfl
theorem ctp_len (sz : Nat) (l : List (Nat × List Int)) : (ctp sz l).length ≤ l.length := by
  induction l with
  | nil => simp [ctp]
  | cons q l ih =>
    unfold ctp
    split
    · simp; omega
    · simp; omega
/-- What the loop keeps. -/
structure CpI (D : Nat → Prop) (w : World) (sz : Nat) (ps : List (Nat × List Int)) (k : Nat) (v : Value) (vs : List Value) (W : World) : Prop where
  pr : Pr D W v (ctp sz (ps.take k)) vs
  row : W.ownsRow w.heap.size 215 2 v (ctp sz (ps.take k)).length (pcl (ctp sz (ps.take k)) vs)
  kp : Kp (fun _ => False) w W
theorem take_get (ps : List (Nat × List Int)) (k : Nat) (h : k < ps.length) : ps.take (k + 1) = ps.take k ++ [ps.getD k (0, [])] := by
  rw [List.take_add_one, List.getElem?_eq_getElem h, List.getD_eq_getElem?_getD, List.getElem?_eq_getElem h]
  rfl
theorem CpI.skip {D : Nat → Prop} {w : World} {sz : Nat} {ps : List (Nat × List Int)} {k : Nat} {v : Value} {vs : List Value} {W W' : World} (h : CpI D w sz ps k v vs W) (hk : k < ps.length) (hp : sz ≤ (ps.getD k (0, [])).1) (kk : Kp (fun _ => False) W W') : CpI D w sz ps (k + 1) v vs W' := by
  have e : ctp sz (ps.take (k + 1)) = ctp sz (ps.take k) := by rw [take_get ps k hk, ctp_snoc, if_pos hp, List.append_nil]
  refine ⟨by rw [e]; exact h.pr.kp kk (fun _ _ h => h) (fun _ _ h => h), ?_, h.kp.trans kk (fun _ _ h => h)⟩
  rw [e]
  refine ⟨h.row.1, ?_⟩
  rcases h.row.2 with h1 | ⟨g, cap, cur, h1, h2, h3, h4⟩
  · exact .inl h1
  · exact .inr ⟨g, cap, cur, h1, h2, (kk.block g (Array.getElem?_eq_some_iff.1 h3).1 (fun h => h)).trans h3, h4⟩
theorem CpI.take {D : Nat → Prop} {w : World} {sz : Nat} {ps : List (Nat × List Int)} {k : Nat} {v v' : Value} {vs : List Value} {W X W' : World} {u : Value} {p : Nat} {xs : List Int} (h : CpI D w sz ps k v vs W) (hk : k < ps.length) (hpx : (p, xs) = ps.getD k (0, [])) (hp : ¬ sz ≤ p) (hu : Bs D W u (xs.take (sz - p))) (kx : Kp (fun _ => False) W X) (kk : Kp (fun i => v.ownBlock = some i) X W') (hD : ∀ i, D i → i < w.heap.size) (hr : W'.ownsRow w.heap.size 215 2 v' ((ctp sz (ps.take k)).length + 1) (pcl (ctp sz (ps.take k)) vs ++ [.int .i64 p, u])) : CpI D w sz ps (k + 1) v' (vs ++ [u]) W' := by
  have e : ctp sz (ps.take (k + 1)) = ctp sz (ps.take k) ++ [(p, xs.take (sz - p))] := by rw [take_get ps k hk, ctp_snoc, ← hpx, if_neg hp]
  have hv : ∀ i, v.ownBlock = some i → w.heap.size ≤ i := by
    intro i hi
    rcases h.row.2 with ⟨h1, _⟩ | ⟨g, cap, cur, h1, h2, _⟩
    · rw [h1] at hi; cases hi
    · rw [h1] at hi
      have : g = i := by simpa [Value.ownBlock] using hi
      omega
  have hDv : ∀ i, D i → ¬ v.ownBlock = some i := fun i hi e => by have := hD i hi; have := hv i e; omega
  have hpcl : pcl (ctp sz (ps.take k) ++ [(p, xs.take (sz - p))]) (vs ++ [u]) = pcl (ctp sz (ps.take k)) vs ++ [.int .i64 p, u] := by
    rw [pcl_append _ _ _ _ h.pr.len]; rfl
  have hrow : W'.ownsRow w.heap.size 215 2 v' (ctp sz (ps.take (k + 1))).length (pcl (ctp sz (ps.take (k + 1))) (vs ++ [u])) := by
    rw [e, hpcl, List.length_append, List.length_singleton]; exact hr
  have hbs : ∀ i, i < (ctp sz (ps.take (k + 1))).length → Bs D W' ((vs ++ [u]).getD i undef) ((ctp sz (ps.take (k + 1))).getD i (0, [])).2 := by
    rw [e]
    intro i hi
    rw [List.length_append, List.length_singleton] at hi
    by_cases hil : i < (ctp sz (ps.take k)).length
    · have h1 := (h.pr.bs i hil).kp kx (fun _ _ h => h)
      have e1 : (vs ++ [u]).getD i undef = vs.getD i undef := by simp only [List.getD_eq_getElem?_getD]; rw [List.getElem?_append_left (by rw [h.pr.len]; exact hil)]
      have e2 : (ctp sz (ps.take k) ++ [(p, xs.take (sz - p))]).getD i (0, []) = (ctp sz (ps.take k)).getD i (0, []) := by simp only [List.getD_eq_getElem?_getD]; rw [List.getElem?_append_left hil]
      rw [e1, e2]
      exact h1.kp kk hDv
    · have hi2 : i = (ctp sz (ps.take k)).length := by omega
      have e1 : (vs ++ [u]).getD i undef = u := by simp only [List.getD_eq_getElem?_getD]; rw [hi2, ← h.pr.len]; simp
      have e2 : (ctp sz (ps.take k) ++ [(p, xs.take (sz - p))]).getD i (0, []) = (p, xs.take (sz - p)) := by simp only [List.getD_eq_getElem?_getD]; rw [hi2]; simp
      rw [e1, e2]
      exact (hu.kp kx (fun _ _ h => h)).kp kk hDv
  refine ⟨⟨by rw [e]; simp [h.pr.len], hbs, hrow.1, ?_⟩, hrow, (h.kp.trans kx (fun _ _ h => h)).trans kk (fun i hi e => by have := hv i e; omega)⟩
  rcases hrow.2 with h1 | ⟨g, cap, cur, h1, h2, h3⟩
  · exact .inl h1
  · exact .inr ⟨g, cap, cur, h1, Nat.zero_le _, h3⟩
end Go.Proofs.YtnccklbnncaeoaaGreat
/- cutPieces: the walk. -/
namespace Go.Proofs.YtnccklbnncaeoaaGreat
open Go.RowKit

theorem bs_take {D : Nat → Prop} {w : World} {g off n c : Nat} {xs : List Int} (h : Bs D w (.slice (some ⟨g, off, none⟩) n c) xs) (t : Nat) (ht : t ≤ xs.length) : Bs D w (.slice (some ⟨g, off, none⟩) t c) (xs.take t) := by
  obtain ⟨g2, off2, cap2, e, h1, h2, h3, h4, h5⟩ := h
  simp only [Value.slice.injEq, Option.some.injEq, Addr.mk.injEq, and_true] at e
  obtain ⟨⟨rfl, rfl⟩, rfl, rfl⟩ := e
  have hl : (xs.take t).length = t := by simp; omega
  refine ⟨g, off, c, by rw [hl], h1, h2, by omega, h4, fun i hi => ?_⟩
  rw [hl] at hi
  rw [h5 i (by omega)]
  simp only [List.getD_eq_getElem?_getD, List.getElem?_take, if_pos hi]
set_option maxRecDepth 100000 in
set_option maxHeartbeats 4000000 in
theorem cutp_any (D : Nat → Prop) (w : World) (pv : Value) (ps : List (Nat × List Int)) (vs0 : List Value) (hpr : Pr D w pv ps vs0) (sz : Nat) (hb : sz ≤ 268435456) (hpb : ∀ p ∈ ps, 1 ≤ p.2.length ∧ p.1 + p.2.length ≤ 268435456) (hnb : ps.length ≤ 1000000000) (hD : ∀ i, D i → i < w.heap.size) :
    Calls Tryz.prog 137 #[pv, .int .i64 sz] w fun e w' => ∃ v vs, e = .returned v ∧ CpI D w sz ps ps.length v vs w' := by
  obtain ⟨pao, pcap, hpv⟩ := ownsRow_shape hpr.row
  subst hpv
  have HPR : Hid (Pr D w (.slice pao ps.length pcap) ps vs0) := hpr
  have HPB : Hid (∀ p ∈ ps, 1 ≤ p.2.length ∧ p.1 + p.2.length ≤ 268435456) := hpb
  have HD : Hid (∀ i, D i → i < w.heap.size) := hD
  clear hpr hpb hD
  go_enter Tryz.func137, Tryz.ntmps137
  go_wp2_with fail
  go_loopw [5, 7, 8, 11] (fun v _ _ iv wr => ∃ (k : Nat) (vs : List Value), k ≤ ps.length ∧ iv = .int .i64 k ∧ CpI D w sz ps k v vs wr) (fun _ _ _ iv _ => ps.length - (intOf iv).toNat)
  case atStart => exact ⟨0, [], Nat.zero_le _, rfl, ⟨⟨rfl, (fun i hi => by simp [ctp] at hi), rfl, .inl ⟨rfl, rfl⟩⟩, ⟨rfl, .inl ⟨rfl, rfl⟩⟩, Kp.refl _ _⟩⟩
  case round =>
    obtain ⟨k, vs, hk, rfl, hI⟩ := hrel
    have HI : Hid (CpI D w sz ps k u5 vs wr) := hI
    clear hI
    by_cases hlt : k < ps.length
    · have hpw := HPR.out.kp HI.out.kp (fun _ _ h => h) (fun _ _ h => h)
      obtain ⟨g, off, cap', hpe, hgl, hgo, hcs⟩ := hpw.cells (by omega)
      obtain ⟨rfl, rfl⟩ : pao = some ⟨g, off, none⟩ ∧ pcap = cap' := by
        simp only [Value.slice.injEq] at hpe; exact ⟨hpe.1, hpe.2.2⟩
      obtain ⟨y0, y1⟩ := hcs k hlt
      have hbs := hpw.bs k hlt
      have hpb := HPB.out (ps.getD k (0, [])) (getD_mem2 ps k hlt)
      obtain ⟨⟨p, xs⟩, hpx⟩ : ∃ t, t = ps.getD k (0, []) := ⟨_, rfl⟩
      rw [← hpx] at y0 hbs hpb
      dsimp only at y0 hbs hpb
      obtain ⟨pvv, hpvv⟩ : ∃ t, t = vs0.getD k undef := ⟨_, rfl⟩
      rw [← hpvv] at y1 hbs
      obtain ⟨pg, po, pc, hpq, -, -, hxc, -⟩ := hbs.le
      subst hpq
      have HBS : Hid (Bs D wr (.slice (some ⟨pg, po, none⟩) xs.length pc) xs) := hbs
      have HPX : Hid ((p, xs) = ps.getD k (0, [])) := hpx
      obtain ⟨xl, hxl⟩ : ∃ x, x = xs.length := ⟨_, rfl⟩
      rw [← hxl] at HBS y1 hpb hxc
      have HXL : Hid (xl = xs.length) := hxl
      clear hcs hpe hgo hbs hpx hpvv hxl hpw
      have q0 : (wr.alloc (.cells #[.int .i64 p, .slice (some ⟨pg, po, none⟩) xl pc] 215)).cell? ⟨wr.heap.size, 0, none⟩ = some (.int .i64 p) := (St.new 215 wr #[.int .i64 p, .slice (some ⟨pg, po, none⟩) xl pc]).cell 0
      have q1 : (wr.alloc (.cells #[.int .i64 p, .slice (some ⟨pg, po, none⟩) xl pc] 215)).cell? ⟨wr.heap.size, 1, none⟩ = some (.slice (some ⟨pg, po, none⟩) xl pc) := (St.new 215 wr #[.int .i64 p, .slice (some ⟨pg, po, none⟩) xl pc]).cell 1
      have K1 : Hid (Kp (fun _ => False) wr (wr.alloc (.cells #[.int .i64 p, .slice (some ⟨pg, po, none⟩) xl pc] 215))) := (Kp.refl _ _).alloc _
      by_cases hsp : sz ≤ p
      · have HC : Hid (CpI D w sz ps (k + 1) u5 vs (wr.alloc (.cells #[.int .i64 p, .slice (some ⟨pg, po, none⟩) xl pc] 215))) := HI.out.skip hlt (by rw [← HPX.out]; exact hsp) K1.out
        have hspi : (sz : Int) ≤ (p : Int) := by omega
        go_wp2
        exact ⟨⟨k + 1, vs, hlt, rfl, HC.out⟩, by simp only [intOf]; omega⟩
      · have hspi : ¬ (sz : Int) ≤ (p : Int) := by omega
        obtain ⟨ao5, c5, hu5⟩ := ownsRow_shape HI.out.row
        subst hu5
        obtain ⟨t, ht⟩ : ∃ t, t = min xl (sz - p) := ⟨_, rfl⟩
        have hmin : min ((p : Int) + (xl : Int)) (sz : Int) = (p : Int) + (t : Int) := by rw [ht]; omega
        have hsub : (p : Int) + (t : Int) - (p : Int) = (t : Int) := by omega
        have htx : t ≤ xl := by omega
        have HT : Hid (t = min xl (sz - p)) := ht
        have hwt : IntKind.i64.wrap (t : Int) = (t : Int) := by rw [IntKind.wrap_i64]; omega
        have htc : ¬ pc < t := by omega
        have htc2 : t ≤ pc := by omega
        clear ht
        go_wp2_with fail
        generalize wr.alloc (.cells #[.int .i64 p, .slice (some ⟨pg, po, none⟩) xl pc] 215) = W1 at q0 q1 K1 ⊢
        refine wp_region_G (fun w' => w'.cell? ⟨wr.heap.size, 0, none⟩ = some (.int .i64 p) ∧ w'.cell? ⟨wr.heap.size, 1, none⟩ = some (.slice (some ⟨pg, po, none⟩) xl pc)) [] hmix ⟨q0, q1⟩ (fun h0 => ?_)
        refine wpAnyG_take (i := 0) (v := .agg #[.int .i64 p, .slice (some ⟨pg, po, none⟩) xl pc]) rfl (by kernel_rfl) (fun _ _ _ h => h) (Or.inl ⟨by rfl, fun w hSw => by (try dsimp only at hSw); go_simp⟩) h0 ?_
        refine wpAnyG_takeW (i := 2) (v := .int .i64 sz) rfl (by kernel_rfl) (fun _ _ _ h => h) (Or.inl ⟨by rfl, fun w _ => by go_simp⟩) ?_
        refine wpAnyG_takeW (i := 4) (v := .pointer (some ⟨wr.heap.size, 0, none⟩)) rfl (by kernel_rfl) (fun _ _ _ h => h) (Or.inl ⟨by rfl, fun w _ => by go_simp⟩) ?_
        refine wpAnyG_take (i := 5) (v := .int .i64 p) rfl (by kernel_rfl) (fun _ _ _ h => h) (Or.inl ⟨by rfl, fun w hSw => by (try dsimp only at hSw); go_simp⟩) h0 ?_
        refine wpAnyG_one (i := 1) (by kernel_rfl) rfl (fun K hK => ?_)
        go_simp
        refine (end_any (p : Int) (some ⟨pg, po, none⟩) xl pc _ (by omega) (by omega)).mono ?_
        rintro e w2 ⟨rfl, hw2⟩
        have k2 : Kp (fun _ => False) W1 w2 := by rw [hw2]; exact ((Kp.refl _ _).drew).alloc _
        clear hw2
        go_wp2_with fail
        refine hK.out _ _ (fun _ _ => ⟨kp_cell k2 q0 (fun h => h), kp_cell k2 q1 (fun h => h)⟩) ?_
        clear hK K
        refine wpAnyG_takeW (i := 3) (v := .int .i64 ((p : Int) + (t : Int))) rfl (by kernel_rfl) (fun _ _ _ h => h) (Or.inl ⟨by rfl, fun w _ => by go_simp⟩) ?_
        refine wpAnyG_takeW (i := 6) (v := .int .i64 (t : Int)) rfl (by kernel_rfl) (fun _ _ _ h => h) (Or.inl ⟨by rfl, fun w _ => by go_simp⟩) ?_
        refine wpAnyG_takeW (i := 7) (v := .int .i64 (t : Int)) rfl (by kernel_rfl) (fun _ _ _ h => h) (Or.inl ⟨by rfl, fun w _ => by go_simp⟩) ?_
        refine wpAnyG_done (by kernel_rfl) ?_ _
        have p0 : w2.cell? ⟨wr.heap.size, 0, none⟩ = some (.int .i64 p) := kp_cell k2 q0 (fun h => h)
        have p1 : w2.cell? ⟨wr.heap.size, 1, none⟩ = some (.slice (some ⟨pg, po, none⟩) xl pc) := kp_cell k2 q1 (fun h => h)
        have K2 : Hid (Kp (fun _ => False) wr w2) := K1.out.trans k2 (fun _ _ h => h)
        clear q0 q1 k2 h0 K1
        go_wp2_with fail
        refine wp_region_G (fun w' => w'.cell? ⟨wr.heap.size, 0, none⟩ = some (.int .i64 p) ∧ w'.cell? ⟨wr.heap.size, 1, none⟩ = some (.slice (some ⟨pg, po, none⟩) xl pc)) [9] hmix ⟨p0, p1⟩ (fun h0 => ?_)
        refine wpAnyG_takeW (i := 0) (v := .slice ao5 (ctp sz (ps.take k)).length c5) rfl (by kernel_rfl) (fun _ _ _ h => h) (Or.inl ⟨by rfl, fun w _ => by go_simp⟩) ?_
        refine wpAnyG_takeW (i := 1) (v := .pointer (some ⟨wr.heap.size, 0, none⟩)) rfl (by kernel_rfl) (fun _ _ _ h => h) (Or.inl ⟨by rfl, fun w _ => by go_simp⟩) ?_
        refine wpAnyG_take (i := 2) (v := .int .i64 p) rfl (by kernel_rfl) (fun _ _ _ h => h) (Or.inl ⟨by rfl, fun w hSw => by (try dsimp only at hSw); go_simp⟩) h0 ?_
        refine wpAnyG_takeW (i := 3) (v := .pointer (some ⟨wr.heap.size, 1, none⟩)) rfl (by kernel_rfl) (fun _ _ _ h => h) (Or.inl ⟨by rfl, fun w _ => by go_simp⟩) ?_
        refine wpAnyG_take (i := 4) (v := .slice (some ⟨pg, po, none⟩) xl pc) rfl (by kernel_rfl) (fun _ _ _ h => h) (Or.inl ⟨by rfl, fun w hSw => by (try dsimp only at hSw); go_simp⟩) h0 ?_
        refine wpAnyG_takeW (i := 5) (v := .int .i64 (t : Int)) rfl (by kernel_rfl) (fun _ _ _ h => h) (Or.inl ⟨by rfl, fun w _ => by go_simp⟩) ?_
        refine wpAnyG_takeW (i := 6) (v := .slice (some ⟨pg, po, none⟩) t pc) rfl (by kernel_rfl) (fun _ _ _ h => h) (Or.inl ⟨by rfl, fun w _ => by go_simp⟩) ?_
        refine wpAnyG_takeW (i := 7) (v := .agg #[.int .i64 p, .slice (some ⟨pg, po, none⟩) t pc]) rfl (by kernel_rfl) (fun _ _ _ h => h) (Or.inl ⟨by rfl, fun w _ => by go_simp⟩) ?_
        refine wpAnyG_one (i := 8) (by kernel_rfl) rfl (fun K hK => ?_)
        go_simp
        have st3 : St 215 (w2.alloc (.cells #[.int .i64 p, .slice (some ⟨pg, po, none⟩) t pc] 215)).drew w2.heap.size #[.int .i64 p, .slice (some ⟨pg, po, none⟩) t pc] := St.new 215 w2 _
        have k3 : Kp (fun _ => False) w2 (w2.alloc (.cells #[.int .i64 p, .slice (some ⟨pg, po, none⟩) t pc] 215)).drew := ((Kp.refl _ _).alloc _).drew
        generalize (w2.alloc (.cells #[.int .i64 p, .slice (some ⟨pg, po, none⟩) t pc] 215)).drew = W3 at st3 k3 ⊢
        refine hK.out _ _ (fun _ _ => ⟨kp_cell k3 p0 (fun h => h), kp_cell k3 p1 (fun h => h)⟩) ?_
        clear hK K h0
        refine wpAnyG_one (i := 9) (by kernel_rfl) rfl (fun K hK => ?_)
        have kx : Kp (fun _ => False) wr W3 := K2.out.trans k3 (fun _ _ h => h)
        have hrow3 : W3.ownsRow w.heap.size 215 2 (.slice ao5 (ctp sz (ps.take k)).length c5) (ctp sz (ps.take k)).length (pcl (ctp sz (ps.take k)) vs) := by
          refine ⟨HI.out.row.1, ?_⟩
          rcases HI.out.row.2 with h1 | ⟨gg, cap, cur, h1, h2, h3, h4⟩
          · exact .inl h1
          · exact .inr ⟨gg, cap, cur, h1, h2, (kx.block gg (Array.getElem?_eq_some_iff.1 h3).1 (fun h => h)).trans h3, h4⟩
        have hcl := ctp_len sz (ps.take k)
        rw [List.length_take] at hcl
        refine step_append_own rfl (.tmp 26) (.tmp 34) 162 rfl w.heap.size 215 (.agg #[.int .i64 0, .slice none 0 0]) 2 32 Tryz.underlying162 Tryz.info215 rfl (by decide) (.slice ao5 (ctp sz (ps.take k)).length c5) (ctp sz (ps.take k)).length (pcl (ctp sz (ps.take k)) vs) (by simp [Act.eval]) hrow3 ⟨w2.heap.size, 0, none⟩ 1 1 [.int .i64 p, .slice (some ⟨pg, po, none⟩) t pc] (by simp [Act.eval]) rfl (fun j u hj => ?_) (fun u hu => ?_) (by unfold maxLen; omega) (by omega) (Nat.le_trans HI.out.kp.size kx.size) ?_
        · rw [add_z, st3.cell]; simpa using hj
        · simp at hu; rcases hu with rfl | rfl <;> rfl
        intro v' w4 r4 g4 n4 l4
        have k4 : Kp (fun i => (Value.slice ao5 (ctp sz (ps.take k)).length c5).ownBlock = some i) W3 w4 := Kp.of_grown g4 (fun i e => e)
        have hbt : Bs D wr (.slice (some ⟨pg, po, none⟩) t pc) (xs.take (sz - p)) := by
          have h1 := bs_take HBS.out t (by rw [← HXL.out]; exact htx)
          have e2 : xs.take (sz - p) = xs.take t := by
            rw [HT.out, HXL.out]
            by_cases hh : xs.length ≤ sz - p
            · rw [Nat.min_eq_left hh, List.take_length, List.take_of_length_le hh]
            · rw [Nat.min_eq_right (by omega)]
          rw [e2]; exact h1
        have HC : Hid (CpI D w sz ps (k + 1) v' (vs ++ [.slice (some ⟨pg, po, none⟩) t pc]) w4) := HI.out.take hlt HPX.out hsp hbt kx k4 HD.out r4
        refine hK.out _ _ (fun h => absurd h (by decide)) ?_
        clear hK K
        try simp only [Act.put, List.setIfInBounds_toArray]
        refine wpAnyG_takeW (i := 10) (v := v') rfl (by kernel_rfl) (fun _ _ _ h => h) (Or.inl ⟨by rfl, fun w _ => by go_simp⟩) ?_
        refine wpAnyG_done (by kernel_rfl) ?_ _
        clear r4 g4 n4 l4 k4 hrow3 kx k3 st3 hbt p0 p1
        go_wp2
        exact ⟨⟨k + 1, _, hlt, rfl, HC.out⟩, by simp only [intOf]; omega⟩
    · obtain rfl : k = ps.length := by omega
      have hI := HI.out
      clear hlt
      go_wp2
      go_ret
      exact ⟨_, vs, rfl, hI⟩
end Go.Proofs.YtnccklbnncaeoaaGreat
/- maps.DeleteFunc: the walk. -/
namespace Go.Proofs.YtnccklbnncaeoaaGreat
open Go.RowKit

set_option maxRecDepth 100000 in
set_option maxHeartbeats 2000000 in
theorem delf_any (m c Bx : Nat) (sz : Int) (es : List (Int × Value × Nat)) (w : World) (hm : Mp (Value.int .i64) w m es c) (hk : ∀ e ∈ es, ∃ k : Nat, e.1 = (k : Int) ∧ k ≤ 1000000) (hc : w.cell? ⟨Bx, 0, none⟩ = some (.int .i64 sz)) (hne : Bx ≠ m) :
    Calls Tryz.prog 177 #[.map (some m), .func (.func 178) #[] #[.pointer (some ⟨Bx, 0, none⟩)]] w fun e w' => e = .returned (.tuple #[]) ∧ Mp (Value.int .i64) w' m (es.filter (fun e => !pdl sz e)) c ∧ Kp (fun i => i = m) w w' := by
  have hrg := run_range_mp (P := Tryz.prog) Tryz.underlying161 hm
  have hml := hm.lt
  have hbl := block_lt_of_cell hc
  have HM : Hid (Mp (Value.int .i64) w m es c) := hm
  have HK : Hid (∀ e ∈ es, ∃ k : Nat, e.1 = (k : Int) ∧ k ≤ 1000000) := hk
  have HC : Hid (w.cell? ⟨Bx, 0, none⟩ = some (.int .i64 sz)) := hc
  clear hm hk hc
  go_enter Tryz.func177, Tryz.ntmps177
  go_wp2_with fail
  have H0 : Hid (Mj (w.alloc (.mapIter (some m) c #[] c)) w.heap.size m c []) := mj_new w m c
  have K0 : Hid (Kp (fun i => i = m) w (w.alloc (.mapIter (some m) c #[] c))) := (Kp.refl _ _).alloc _
  have M0 : Hid (Mp (Value.int .i64) (w.alloc (.mapIter (some m) c #[] c)) m (es.filter (dlf sz [])) c) := by
    have : es.filter (dlf sz []) = es := by rw [List.filter_eq_self]; intro x _; simp [dlf]
    rw [Hid, this]
    exact kp_mp (F := fun _ => False) HM.out ((Kp.refl _ _).alloc _) (fun h => h)
  clear hrg
  generalize hr : w.heap.size = r at H0 ⊢
  generalize w.alloc (.mapIter (some m) c #[] c) = W at H0 K0 M0 ⊢
  have HR : Hid (w.heap.size = r) := hr
  clear hr
  go_loopw [4, 5] (fun _ _ wr => ∃ bs : List Nat, Mj wr r m c bs ∧ bs.Nodup ∧ (∀ b ∈ bs, b ∈ es.map (·.2.2)) ∧ Mp (Value.int .i64) wr m (es.filter (dlf sz bs)) c ∧ Kp (fun i => i = m) w wr) (fun _ _ wr => es.length - itn wr r)
  case atStart => exact ⟨[], H0.out, List.nodup_nil, (fun b h => by cases h), M0.out, K0.out⟩
  case round =>
    clear H0 K0 M0
    obtain ⟨bs, hmj, hnd, hsub, hmp, hkp⟩ := hrel
    have hrm : r ≠ m := by have := HR.out; omega
    have hin := hmj.itn
    rcases hmj.next (P := Tryz.prog) hmp hrm 0 with ⟨hall, hrun⟩ | ⟨e, w2, he, hne2, hrun, hmj2, hk2, hent⟩
    · have HE : Hid (es.filter (dlf sz bs) = es.filter (fun e => !pdl sz e)) := dlf_end hall
      have HMP : Hid (Mp (Value.int .i64) wr m (es.filter (dlf sz bs)) c) := hmp
      have HKP : Hid (Kp (fun i => i = m) w wr) := hkp
      clear hall hmp hkp hmj hin hsub hnd
      go_wp2
      go_end0
      rw [← HE.out]
      exact ⟨rfl, HMP.out, HKP.out⟩
    · have hee : e ∈ es := (List.mem_filter.1 he).1
      obtain ⟨kk, hk1, hk2'⟩ := HK.out e hee
      have hk3 : Kp (fun i => i = m) w w2 := hkp.trans hk2 (fun i hi h => by have := HR.out; omega)
      have hc2 : w2.cell? ⟨Bx, 0, none⟩ = some (.int .i64 sz) := kp_cell hk3 HC.out hne
      have hmp2 : Mp (Value.int .i64) w2 m (es.filter (dlf sz bs)) c := kp_mp hmp hk2 (fun e => hrm e.symm)
      have hnd2 : (bs ++ [e.2.2]).Nodup := by
        rw [List.nodup_append]
        refine ⟨hnd, by simp, fun x hx y hy e1 => ?_⟩
        rw [List.mem_singleton.1 hy] at e1
        exact hne2 (e1 ▸ hx)
      have hsub2 : ∀ b ∈ bs ++ [e.2.2], b ∈ es.map (·.2.2) := by
        intro b hb
        rcases List.mem_append.1 hb with h1 | h1
        · exact hsub b h1
        · rw [List.mem_singleton.1 h1]; exact List.mem_map.2 ⟨e, hee, rfl⟩
      have hlen := nodup_len _ _ hnd2 hsub2
      rw [List.length_append, List.length_singleton, List.length_map] at hlen
      have HIN : Hid (itn wr r = bs.length) := hin
      have HX : Hid ((bs ++ [e.2.2]).Nodup ∧ ∀ b ∈ bs ++ [e.2.2], b ∈ es.map (·.2.2)) := ⟨hnd2, hsub2⟩
      have HJ2 : Hid (Mj w2 r m c (bs ++ [e.2.2])) := hmj2
      have HM2 : Hid (Mp (Value.int .i64) w2 m (es.filter (dlf sz bs)) c) := hmp2
      have HK3 : Hid (Kp (fun i => i = m) w w2) := hk3
      have HEE : Hid (e ∈ es) := hee
      have HE1 : Hid (e.1 = (kk : Int)) := hk1
      rw [hk1] at hrun hent
      clear hnd2 hsub2 hin hmj2 hmp2 hk3 hk2 hkp hmj hmp hnd hsub he hne2 hee hk1
      generalize e.2.1 = u at hrun hent
      have cc := cut1_any (kk : Int) sz u Bx w2 hc2 (by omega) (by omega)
      have HP : Hid (pdl sz e = decide (sz ≤ (kk : Int) * 512)) := by show _ = _; unfold pdl; rw [HE1.out]
      cases hd : decide (sz ≤ (kk : Int) * 512) with
      | true =>
        rw [hd] at cc
        have HP2 : Hid (pdl sz e = true) := HP.out.trans hd
        clear hd
        go_wp2_with (first | (go_at_call 178; refine cc.mono ?_; rintro e' w' ⟨rfl, h⟩; replace h := h.symm; subst h) | (at_delete; refine wpList_delete_mp rfl (.tmp 17) (.tmp 18) rfl (ky_int Tryz.underlying2) Tryz.underlying161 m c (es.filter (dlf sz bs)) rfl HM2.out (kk : Int) rfl ?_; intro w4 m4 g4; have k4 : Kp (fun i => i = m) w2 w4 := Kp.of_grown g4 (fun i e => by cases e; rfl)))
        rw [← HE1.out, dlf_del HM.out.2 HEE.out HP2.out] at m4
        have hmj4 := HJ2.out.kp k4 hrm
        have hin4 := hmj4.itn
        rw [List.length_append, List.length_singleton] at hin4
        go_roundw
        case rel => (repeat apply Exists.intro); exact ⟨⟨_, hmj4, HX.out.1, HX.out.2, m4, HK3.out.trans k4 (fun _ _ h => h)⟩, rfl⟩
        case measure => rw [HIN.out, hin4]; omega
      | false =>
        rw [hd] at cc
        have HP2 : Hid (pdl sz e = false) := HP.out.trans hd
        clear hd
        go_wp2_with (first | (go_at_call 178; refine cc.mono ?_; rintro e' w' ⟨rfl, h⟩; replace h := h.symm; subst h))
        have hin4 := HJ2.out.itn
        rw [List.length_append, List.length_singleton] at hin4
        go_roundw
        case rel => exact ⟨_, HJ2.out, HX.out.1, HX.out.2, by rw [← dlf_keep HM.out.2 HEE.out HP2.out]; exact HM2.out, HK3.out⟩
        case measure => rw [HIN.out, hin4]; omega
end Go.Proofs.YtnccklbnncaeoaaGreat
/- sectors.cut: noughts from a size on. -/
namespace Go.Proofs.YtnccklbnncaeoaaGreat
open Go.RowKit

def cutf (n : Nat) (f : Nat → Int) : Nat → Int := fun i => if i < n then f i else 0
theorem cutf_zero (n : Nat) : cutf n zero = zero := by
  funext i
  unfold cutf zero
  split <;> rfl
theorem sec_cut_low {n k : Nat} {f : Nat → Int} (h : 512 * k + 512 ≤ n) : sec (cutf n f) k = sec f k := by
  rw [sec_ext]
  intro i hi
  unfold cutf
  rw [if_pos (by omega)]
theorem sec_cut_high {n k : Nat} {f g : Nat → Int} (h : n ≤ 512 * k) : sec (cutf n f) k = sec (cutf n g) k := by
  rw [sec_ext]
  intro i hi
  unfold cutf
  rw [if_neg (by omega), if_neg (by omega)]
theorem sec_cut_congr {n k : Nat} {f g : Nat → Int} (h : sec f k = sec g k) : sec (cutf n f) k = sec (cutf n g) k := by
  rw [sec_ext] at h ⊢
  intro i hi
  unfold cutf
  rw [h i hi]
theorem sec_at {f : Nat → Int} {k i : Nat} (h : i < 512) : (sec f k).getD i 0 = f (512 * k + i) := by
  unfold sec
  rw [List.getD_eq_getElem?_getD, List.getElem?_map, List.getElem?_range h]
  rfl
theorem sec_cut_mid {n : Nat} {f : Nat → Int} : splice (List.replicate 512 0) 0 ((sec f (n / 512)).take (n % 512)) = sec (cutf n f) (n / 512) := by
  have hl : ((sec f (n / 512)).take (n % 512)).length = n % 512 := by rw [List.length_take, sec_len]; omega
  have hr : 0 + ((sec f (n / 512)).take (n % 512)).length ≤ (List.replicate 512 (0 : Int)).length := by rw [hl, List.length_replicate]; omega
  have hs : (splice (List.replicate 512 0) 0 ((sec f (n / 512)).take (n % 512))).length = 512 := by rw [length_splice _ _ _ hr, List.length_replicate]
  refine ext_getD (by rw [hs, sec_len]) fun i hi => ?_
  rw [hs] at hi
  rw [getD_splice _ _ _ _ hr, sec_at hi, hl]
  unfold cutf
  by_cases h : i < n % 512
  · rw [if_pos ⟨Nat.zero_le _, by omega⟩, if_pos (by omega), Nat.sub_zero, ← sec_at (f := f) (k := n / 512) hi]
    simp only [List.getD_eq_getElem?_getD, List.getElem?_take, if_pos h]
  · rw [if_neg (by omega), if_neg (by omega)]
    rw [List.getD_eq_getElem?_getD, List.getElem?_replicate, if_pos hi]; rfl
theorem mget_cut (es : List (Int × Value × Nat)) (sz k : Int) : mget (es.filter (fun e => !pdl sz e)) k = if sz ≤ k * 512 then none else mget es k := by
  induction es with
  | nil => simp [mget]
  | cons e es ih =>
    by_cases hp : pdl sz e = true
    · rw [List.filter_cons_of_neg (by simp [hp]), ih]
      by_cases hk : k = e.1
      · have : sz ≤ k * 512 := by rw [hk]; simpa [pdl] using hp
        rw [if_pos this, if_pos this]
      · rw [show mget (e :: es) k = mget es k by unfold mget; rw [if_neg hk]; cases es <;> rfl]
    · rw [List.filter_cons_of_pos (by simpa using hp)]
      unfold mget
      by_cases hk : k = e.1
      · have : ¬ sz ≤ k * 512 := by rw [hk]; simpa [pdl] using hp
        rw [if_pos hk, if_pos hk, if_neg this]
      · rw [if_neg hk, if_neg hk]
        exact ih
/-- The map behind the cut: without a sector that the size lies in. -/
theorem sm_cut0 {D : Nat → Prop} {w W : World} {m c sz : Nat} {f d : Nat → Int} {es : List (Int × Value × Nat)} (h : Sm D w m f d es c) (hm : Mp (Value.int .i64) W m (es.filter (fun e => !pdl (sz : Int) e)) c) (k : Kp (fun i => i = m) w W) (hD : ∀ i, D i → ¬ i = m) (h0 : mget (es.filter (fun e => !pdl (sz : Int) e)) ((sz / 512 : Nat) : Int) = none) : Sm D W m (cutf sz f) (cutf sz d) (es.filter (fun e => !pdl (sz : Int) e)) c := by
  refine ⟨hm, fun e he => h.ks e (List.mem_filter.1 he).1, fun j u hu => ?_, fun j hj => ?_⟩
  · rw [mget_cut] at hu
    by_cases hs : (sz : Int) ≤ (j : Int) * 512
    · rw [if_pos hs] at hu; cases hu
    · rw [if_neg hs] at hu
      have hjk : j ≠ sz / 512 := fun e => by
        rw [← e, mget_cut, if_neg hs, hu] at h0; cases h0
      rw [sec_cut_low (by omega)]
      exact (h.so j u hu).kp k hD
  · rw [mget_cut] at hj
    by_cases hs : (sz : Int) ≤ (j : Int) * 512
    · exact sec_cut_high (by omega)
    · rw [if_neg hs] at hj
      exact sec_cut_congr (h.no j hj)
theorem sm_cut1 {D D' : Nat → Prop} {w W : World} {m c sz : Nat} {f d : Nat → Int} {es : List (Int × Value × Nat)} {v : Value} (h : Sm D w m f d es c) (hm : Mp (Value.int .i64) W m (mput (es.filter (fun e => !pdl (sz : Int) e)) ((sz / 512 : Nat) : Int) v c) (mclk (es.filter (fun e => !pdl (sz : Int) e)) ((sz / 512 : Nat) : Int) c)) (k : Kp (fun i => i = m) w W) (hD : ∀ i, D i → ¬ i = m) (hd : ∀ i, D i → D' i) (hv : Bs D' W v (sec (cutf sz f) (sz / 512))) (hsz : sz ≤ 268435456) : Sm D' W m (cutf sz f) (cutf sz d) (mput (es.filter (fun e => !pdl (sz : Int) e)) ((sz / 512 : Nat) : Int) v c) (mclk (es.filter (fun e => !pdl (sz : Int) e)) ((sz / 512 : Nat) : Int) c) := by
  refine ⟨hm, fun e he => ?_, fun j u hu => ?_, fun j hj => ?_⟩
  · rcases mem_mput he with h1 | h1
    · exact ⟨sz / 512, h1, by omega⟩
    · exact h.ks e (List.mem_filter.1 h1).1
  · rw [mget_put] at hu
    by_cases hjk : j = sz / 512
    · rw [if_pos (by rw [hjk])] at hu
      cases hu
      rw [hjk]; exact hv
    · rw [if_neg (by omega), mget_cut] at hu
      by_cases hs : (sz : Int) ≤ (j : Int) * 512
      · rw [if_pos hs] at hu; cases hu
      · rw [if_neg hs] at hu
        rw [sec_cut_low (by omega)]
        exact ((h.so j u hu).kp k hD).mono (fun i _ hi => hd i hi)
  · rw [mget_put] at hj
    by_cases hjk : j = sz / 512
    · rw [if_pos (by rw [hjk])] at hj; cases hj
    · rw [if_neg (by omega), mget_cut] at hj
      by_cases hs : (sz : Int) ≤ (j : Int) * 512
      · exact sec_cut_high (by omega)
      · rw [if_neg hs] at hj
        exact sec_cut_congr (h.no j hj)
end Go.Proofs.YtnccklbnncaeoaaGreat
/- sectors.cut: the walk. -/
namespace Go.Proofs.YtnccklbnncaeoaaGreat
open Go.RowKit

theorem lk67 {w w' : World} {m c : Nat} {es : List (Int × Value × Nat)} {k : Int} {v : Value} (h' : Mp (Value.int .i64) w' m es c) (h : Mp (Value.int .i64) w m es c) (hl : (Instr.lookup 161 (.map (some m)) (.int .i64 k) false).run Tryz.prog w = .ok v w) : (Instr.lookup 161 (.map (some m)) (.int .i64 k) false).run Tryz.prog w' = .ok v w' := by
  have h1 := run_lookup_mp (ky_int Tryz.underlying2) Tryz.underlying161 h (Tryz.zeroValue47 _) k
  have h2 := run_lookup_mp (ky_int Tryz.underlying2) Tryz.underlying161 h' (Tryz.zeroValue47 _) k
  rw [hl] at h1
  cases h1
  exact h2
set_option maxRecDepth 100000 in
set_option maxHeartbeats 2000000 in
theorem cut_any (D : Nat → Prop) (w : World) (m c sz : Nat) (f d : Nat → Int) (es : List (Int × Value × Nat)) (h : Sm D w m f d es c) (hb : sz ≤ 268435456) (hDm : ¬ D m) :
    Calls Tryz.prog 136 #[.map (some m), .int .i64 sz] w fun e w' => e = .returned (.tuple #[]) ∧ ∃ es' c', Sm (fun i => D i ∨ (w.heap.size ≤ i ∧ i < w'.heap.size)) w' m (cutf sz f) (cutf sz d) es' c' ∧ Kp (fun i => i = m) w w' ∧ ∀ j : Nat, j * 512 < sz → mget es (j : Int) ≠ none → mget es' (j : Int) ≠ none := by
  have hml := h.mp.lt
  have HSM : Hid (Sm D w m f d es c) := h
  have hD : ∀ i, D i → ¬ i = m := fun i hi e => hDm (e ▸ hi)
  have st := St.new 2 w #[.int .i64 sz]
  have k0 : Kp (fun _ => False) w (w.alloc (.cells #[.int .i64 sz] 2)) := (Kp.refl _ _).alloc _
  obtain ⟨e1, he1⟩ : ∃ e1, e1 = es.filter (fun e => !pdl (sz : Int) e) := ⟨_, rfl⟩
  have HE1 : Hid (e1 = es.filter (fun e => !pdl (sz : Int) e)) := he1
  have hq : (sz : Int) / 512 = ((sz / 512 : Nat) : Int) := by omega
  have hr : (sz : Int) % 512 = ((sz % 512 : Nat) : Int) := by omega
  have hr5 : sz % 512 < 512 := by omega
  obtain ⟨kq, hkq⟩ : ∃ kq, kq = sz / 512 := ⟨_, rfl⟩
  obtain ⟨kr, hkr⟩ : ∃ kr, kr = sz % 512 := ⟨_, rfl⟩
  rw [← hkq] at hq
  rw [← hkr] at hr hr5
  have HQ : Hid (kq = sz / 512 ∧ kr = sz % 512) := ⟨hkq, hkr⟩
  clear h hkq hkr he1
  go_enter Tryz.func136, Tryz.ntmps136
  go_wp2_with fail
  have hd := delf_any m c w.heap.size (sz : Int) es _ (kp_mp (F := fun _ => False) HSM.out.mp k0 (fun h => h)) HSM.out.ks (st.cell 0) (by omega)
  refine hd.mono ?_
  rintro e w1 ⟨rfl, m1, k1⟩
  rw [← HE1.out] at m1
  have K1 : Hid (Kp (fun i => i = m) w w1) := (k0.mono (G := fun i => i = m) (fun _ _ h => h.elim)).trans k1 (fun _ _ h => h)
  have M1 : Hid (Mp (Value.int .i64) w1 m e1 c) := m1
  have c0 : w1.cell? ⟨w.heap.size, 0, none⟩ = some (.int .i64 sz) := (st.kp k1 (by omega)).cell 0
  have ST1 : Hid (St 2 w1 w.heap.size #[.int .i64 sz]) := st.kp k1 (by omega)
  have hz1 : w.heap.size < w1.heap.size := ST1.out.lt
  clear hd m1 k1 st k0
  have hl1 : (Instr.lookup 161 (.map (some m)) (.int .i64 (kq : Int)) false).run Tryz.prog w1 = .ok ((mget e1 (kq : Int)).getD (.slice none 0 0)) w1 := run_lookup_mp (ky_int Tryz.underlying2) Tryz.underlying161 M1.out (Tryz.zeroValue47 _) (kq : Int)
  cases hg : mget e1 (kq : Int) with
  | none =>
    rw [hg] at hl1
    replace hl1 : (Instr.lookup 161 (.map (some m)) (.int .i64 (kq : Int)) false).run Tryz.prog w1 = .ok (.slice none 0 0) w1 := hl1
    have he : ∀ w : World, (binOp .eql 47 (.slice none 0 0) (.slice none 0 0)).run Tryz.prog w = .ok (.bool true) w := fun _ => rfl
    have HG : Hid (mget e1 (kq : Int) = none) := hg
    clear hg
    go_wp2
    refine bodyPost_ret (results_none rfl _ _ _) rfl ?_
    have hg0 := HG.out
    have hm1 := M1.out
    rw [HQ.out.1, HE1.out] at hg0
    rw [HE1.out] at hm1
    refine ⟨rfl, _, _, (sm_cut0 HSM.out hm1 K1.out hD hg0).mono (fun i _ hi => .inl hi), K1.out, fun j hj hne => ?_⟩
    rw [mget_cut, if_neg (by omega)]
    exact hne
  | some u =>
    have hlt : ¬ (sz : Int) ≤ (kq : Int) * 512 := fun hx => by
      rw [HE1.out, mget_cut, if_pos hx] at hg; cases hg
    have hbs := HSM.out.so kq u (by rw [HE1.out, mget_cut, if_neg hlt] at hg; exact hg)
    obtain ⟨ug, uo, uc, hue, hDu, hul, huc, hum, hucs⟩ := hbs.le
    rw [sec_len] at hue huc hucs
    subst hue
    rw [hg] at hl1
    replace hl1 : (Instr.lookup 161 (.map (some m)) (.int .i64 (kq : Int)) false).run Tryz.prog w1 = .ok (.slice (some ⟨ug, uo, none⟩) 512 uc) w1 := hl1
    have he : ∀ w : World, (binOp .eql 47 (.slice (some ⟨ug, uo, none⟩) 512 uc) (.slice none 0 0)).run Tryz.prog w = .ok (.bool false) w := fun _ => rfl
    have HCS : Hid (∀ i, i < 512 → w.cell? ⟨ug, uo + i, none⟩ = some (.int .u8 ((sec f kq).getD i 0))) := hucs
    have HDU : Hid (D ug) := hDu
    obtain ⟨Z, hZ⟩ : ∃ Z : List Int, List.replicate 512 0 = Z := ⟨_, rfl⟩
    have HZ : Hid (List.replicate 512 (0 : Int) = Z) := hZ
    clear hbs hucs hDu hg hZ
    have hux : kr ≤ uc := by omega
    have HL : Hid (((sec f kq).take kr).length = kr) := by show _ = _; rw [List.length_take, sec_len]; omega
    have HZL : Hid (Z.length = 512) := by show _ = _; rw [← HZ.out, List.length_replicate]
    have HCJ : Hid (∀ w2, Kp (fun _ => False) w1 w2 → ∀ j, j < ((sec f kq).take kr).length → w2.cell? (Addr.add ⟨ug, uo, none⟩ j) = some (.int .u8 (((sec f kq).take kr).getD j 0))) := by
      intro w2 k2 j hj
      rw [HL.out] at hj
      rw [add_o]
      have h1 := HCS.out j (by omega)
      have h2 : ((sec f kq).take kr).getD j 0 = (sec f kq).getD j 0 := by simp only [List.getD_eq_getElem?_getD, List.getElem?_take, if_pos hj]
      rw [h2]
      exact kp_cell k2 (kp_cell K1.out h1 (hD _ HDU.out)) (fun h => h)
    have HSP : Hid (splice Z 0 ((sec f kq).take kr) = sec (cutf sz f) kq) := by show _ = _; rw [← HZ.out, HQ.out.1, HQ.out.2]; exact sec_cut_mid
    go_wp2_with (first | (at_make; refine wpList_make_rw (κ := .u8) 47 5 1 Tryz.underlying47 Tryz.info5 (by decide) rfl _ _ rfl 512 rfl rfl (by omega) ?_; intro w2 r2 b2; rw [HZ.out] at r2; have R2 : Hid (Rw .u8 5 w2 w1.heap.size Z) := r2; have k2 : Kp (fun _ => False) w1 w2 := Kp.of_below b2; have K2 : Hid (Kp (fun _ => False) w1 w2) := k2; have M2 : Hid (Mp (Value.int .i64) w2 m e1 c) := kp_mp M1.out k2 (fun h => h); have c2 : w2.cell? ⟨w.heap.size, 0, none⟩ = some (.int .i64 sz) := kp_cell k2 c0 (fun h => h); have hl2 : (Instr.lookup 161 (.map (some m)) (.int .i64 (kq : Int)) false).run Tryz.prog w2 = .ok (.slice (some ⟨ug, uo, none⟩) 512 uc) w2 := lk67 M2.out M1.out hl1; clear r2 b2 k2) | (at_mapUpdate; refine wpList_update_mp rfl _ _ _ rfl (ky_int Tryz.underlying2) Tryz.underlying161 m c e1 rfl M3.out (kq : Int) rfl (.slice (some ⟨w1.heap.size, 0, none⟩) 512 512) rfl ?_; intro w4 m4 g4) | (refine wpList_copy_rw rfl (.tmp 16) (.tmp 22) 47 47 rfl 5 Tryz.underlying47 info5s _ _ _ _ _ _ rfl rfl w1.heap.size 0 5 Z ((sec f kq).take kr) R2.out (by rw [HL.out]; exact (Nat.min_eq_left (by omega)).symm) (fun _ => ⟨rfl, _, rfl, HCJ.out w2 K2.out⟩) (by rw [HL.out, HZL.out]; omega) ?_; intro w3 r3 g3; rw [HSP.out] at r3; have R3 : Hid (Rw .u8 5 w3 w1.heap.size (sec (cutf sz f) kq)) := r3; have k3 : Kp (fun i => i = w1.heap.size) w2 w3 := Kp.of_grown g3 (fun i e => by cases e; rfl); have K3 : Hid (Kp (fun i => i = w1.heap.size) w2 w3) := k3; have M3 : Hid (Mp (Value.int .i64) w3 m e1 c) := kp_mp M2.out k3 (by have := M1.out.lt; omega); clear r3 g3 k3))
    go_end0
    have hz2 := K2.out.size
    have hz3 := K3.out.size
    have hm1 := M1.out.lt
    have R4 := R3.out.grown g4 (by intro e; cases e; omega)
    have k4 : Kp (fun i => i = m) w3 w4 := Kp.of_grown g4 (fun i e => by cases e; rfl)
    have kA : Kp (fun i => i = m) w w4 := ((K1.out.trans K2.out (fun _ _ h => h.elim)).trans K3.out (fun i hi h => by omega)).trans k4 (fun _ _ h => h)
    rw [HE1.out, HQ.out.1] at m4
    rw [HQ.out.1] at R4
    have hv : Bs (fun i => D i ∨ (w.heap.size ≤ i ∧ i < w4.heap.size)) w4 (.slice (some ⟨w1.heap.size, 0, none⟩) 512 512) (sec (cutf sz f) (sz / 512)) := ⟨w1.heap.size, 0, 512, by rw [sec_len], .inr ⟨by omega, R4.lt⟩, R4.lt, by rw [sec_len]; exact Nat.le_refl _, by unfold maxLen; omega, fun i hi => R4.cells i hi⟩
    refine ⟨rfl, _, ⟨_, sm_cut1 HSM.out m4 kA hD (fun i hi => .inl hi) hv hb⟩, kA, fun j hj hne => ?_⟩
    rw [mget_put]
    split
    · exact fun h => by cases h
    · rw [mget_cut, if_neg (by omega)]; exact hne
end Go.Proofs.YtnccklbnncaeoaaGreat
