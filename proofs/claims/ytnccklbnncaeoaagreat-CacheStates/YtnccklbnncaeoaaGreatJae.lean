import Derived.Test.YtnccklbnncaeoaaGreatJad
import Derived.Test.YtnccklbnncaeoaaGreatJab
import Derived.WalkKit
/- A piece is written to a file. -/
namespace Go.Proofs.YtnccklbnncaeoaaGreat
open Go.RowKit

theorem cov_step {es es' : List (Int × Value × Nat)} {ps : List (Nat × List Int)} {p : Nat} {xs : List Int} (h : Cov es ps) (h1 : ∀ j, mget es j ≠ none → mget es' j ≠ none) (h2 : mget es' ((p / 512 : Nat) : Int) ≠ none) : Cov es' (ps ++ [(p, xs)]) := by
  intro q hq
  rcases List.mem_append.1 hq with h3 | h3
  · exact h1 _ (h q h3)
  · rw [List.mem_singleton.1 h3]; exact h2
theorem cov_put {es : List (Int × Value × Nat)} {k : Int} {v : Value} {c : Nat} {j : Int} (h : mget es j ≠ none) : mget (mput es k v c) j ≠ none := by
  rw [mget_put]; split
  · exact fun h => by cases h
  · exact h
theorem Tryz.info215 : (Tryz.prog.info? 215).map (fun i => (i.zero, i.size, i.bytes)) = some (some (.agg #[.int .i64 0, .slice none 0 0]), 2, 32) := by kernel_rfl
/-- append onto a row of one's own, as one step of a region that draws its order. -/
theorem step_append_own {P : Program} {ops : Array Oper} {o : Oper} {a : Act} {w : World} {K : Act → World → Prop} {Q : Exit → Act → World → Prop} {E : Prop} (hgd : o.guard = none) (s x : Operand) (t : TypeId)
    (ho : o.op = .call { callee := .builtin .append, args := #[s, x], argTypes := #[t, t] }) (base : Nat) (e : TypeId) (z : Value) (size bytes : Nat) (ht : P.underlying t = some (.slice e)) (hinfo : (P.info? e).map (fun i => (i.zero, i.size, i.bytes)) = some (some z, size, bytes)) (hzs : z.cells.size = size) (hsz : 0 < size)
    (v : Value) (n : Nat) (xs : List Value) (hs : a.eval s = v) (hown : w.ownsRow base e size v n xs)
    (ad : Addr) (m c : Nat) (news : List Value) (hx : a.eval x = .slice (some ad) m c) (hl : news.length = m * size) (hnews : ∀ j u, news[j]? = some u → w.cell? (ad.add j) = some u) (h1 : ∀ u ∈ news, u.oneCell' = true)
    (h63 : n + m ≤ maxLen) (hbytes : (n + m) * bytes ≤ 140737488355328) (hbase : base ≤ w.heap.size)
    (h : ∀ v' w', w'.ownsRow base e size v' (n + m) (xs ++ news) → w.grownBy w' v.ownBlock → (v' = .slice none 0 0 ↔ v = .slice none 0 0 ∧ m = 0) → (v'.ownBlock = v.ownBlock ∨ v'.ownBlock = some w.heap.size) → K (a.put o.dst v') w') :
    if Region.wanted o (yielded ops a.tmps) = true then Oper.wp P o a w K Q else E := by
  have hw : Region.wanted o (yielded ops a.tmps) = true := by simp [Region.wanted, hgd]
  rw [if_pos hw]
  obtain ⟨i0, hi, hz0, hz1, hz2⟩ := info_parts hinfo
  obtain ⟨v', w', hrun, r1, r2, r3, r4⟩ := run_append_own_at (P := P) w base t o.type e i0 z size bytes ht hi hz0 hz1 hz2 hzs hsz v n xs hown ad m c news hl hnews h1 h63 hbytes hbase
  unfold Oper.wp execOp
  simp only [ho, resolve, invoke, builtin, Sem.run_bind, Sem.run_pure, Result.andThen_ok, List.map_toArray, List.map_cons, List.map_nil, hs, hx, hrun]
  exact h v' w' r1 r2 r3 r4
theorem ownsRow_shape {w : World} {base n size : Nat} {e : TypeId} {v : Value} {xs : List Value} (h : w.ownsRow base e size v n xs) : ∃ ao c, v = .slice ao n c := by
  rcases h.2 with ⟨rfl, rfl⟩ | ⟨g, cap, cur, rfl, _⟩
  · exact ⟨_, _, rfl⟩
  · exact ⟨_, _, rfl⟩
set_option maxRecDepth 100000 in
set_option maxHeartbeats 2000000 in
theorem write_any (D : Nat → Prop) (a : Fa) (sz : Nat) (L : Nat → Int) (ps : List (Nat × List Int)) (p n cap : Nat) (ad : Addr) (xs : List Int) (w : World) (hf : Fr D w a sz L ps) (hS : Src .u8 w (some ad) xs) (hn : n = xs.length) (h1 : 1 ≤ n) (hr : p % 512 + n ≤ 512) (hb : p + n ≤ 268435456) (hnb : ps.length < 1000000000) :
    Calls Tryz.prog 150 #[.pointer (some ⟨a.fb, 0, none⟩), .int .i64 p, .slice (some ad) n cap] w fun e w' => e = .returned (.tuple #[]) ∧ ∃ a' : Fa, (a'.fb = a.fb ∧ a'.lm = a.lm ∧ a'.om = a.om) ∧ (∀ i, i ∈ a'.own → i ∈ a.own ∨ w.heap.size ≤ i) ∧
      Fr (fun i => D i ∨ (w.heap.size ≤ i ∧ i < w'.heap.size ∧ i ∉ a'.own)) w' a' (max sz (p + n)) L (ps ++ [(p, xs)]) ∧ Kp (fun i => i ∈ a.own) w w' := by
  have HF : Hid (Fr D w a sz L ps) := hf
  have HN : Hid (n = xs.length) := hn
  have HSR : Hid (Src .u8 w (some ad) xs) := hS
  have HLT : Hid (∀ i, i ∈ a.own → i < w.heap.size) := hf.lt
  obtain ⟨fb, lm, om, pv⟩ := a
  dsimp only at hf ⊢
  have hsb := hf.sb
  clear hf hn hS
  go_enter Tryz.func150, Tryz.ntmps150
  go_wp2_with (first | (go_at_call 77; refine (bclone_some xs ad n cap _ HN.out (by omega) h1 HSR.out).mono ?_; rintro e w1 ⟨g1, c1, rfl, hg1, bs1, b1⟩))
  have st2 := St.new 215 w1 #[.int .i64 p, .slice (some ⟨g1, 0, none⟩) n c1]
  have hz1 := b1.size
  have k12 : Kp (fun _ => False) w1 (w1.alloc (.cells #[.int .i64 p, .slice (some ⟨g1, 0, none⟩) n c1] 215)) := (Kp.refl _ _).alloc _
  have hz2 : w1.heap.size < (w1.alloc (.cells #[.int .i64 p, .slice (some ⟨g1, 0, none⟩) n c1] 215)).heap.size := by simp
  have bs2 := bs1.kp k12 (fun _ _ h => h)
  have k2 : Kp (fun _ => False) w (w1.alloc (.cells #[.int .i64 p, .slice (some ⟨g1, 0, none⟩) n c1] 215)) := (Kp.of_below b1).trans k12 (fun _ _ h => h)
  generalize w1.alloc (.cells #[.int .i64 p, .slice (some ⟨g1, 0, none⟩) n c1] 215) = W2 at st2 k12 hz2 bs2 k2 ⊢
  have F2 := HF.out.kp k2 (fun _ _ h => h) (fun _ _ h => h)
  have c3 : W2.cell? ⟨fb, 3, none⟩ = some pv := F2.st.cell 3
  have q0 : W2.cell? ⟨w1.heap.size, 0, none⟩ = some (.int .i64 p) := st2.cell 0
  have q1 : W2.cell? ⟨w1.heap.size, 1, none⟩ = some (.slice (some ⟨g1, 0, none⟩) n c1) := st2.cell 1
  have hfb : fb < w.heap.size := HLT.out fb (by rw [Fa.mem]; exact .inl rfl)
  obtain ⟨vs, hpr⟩ := F2.pc
  dsimp only at hpr
  obtain ⟨pao, pcp, hpv⟩ := ownsRow_shape hpr.row
  have HPR : Hid (Pr D W2 pv ps vs) := hpr
  have HF2 : Hid (Fr D W2 ⟨fb, lm, om, pv⟩ sz L ps) := F2
  have HST2 : Hid (St 215 W2 w1.heap.size #[.int .i64 p, .slice (some ⟨g1, 0, none⟩) n c1]) := st2
  have HBS2 : Hid (Bs (fun i => w.heap.size ≤ i) W2 (.slice (some ⟨g1, 0, none⟩) n c1) xs) := bs2
  have K2 : Hid (Kp (fun _ => False) w W2) := k2
  have hsz2 : w.heap.size ≤ W2.heap.size := k2.size
  clear st2 bs2 k2 k12 bs1 b1 F2 hpr
  subst hpv
  -- f.pieces = append(f.pieces, p)
  refine wp_region_G (fun w' => w'.cell? ⟨fb, 3, none⟩ = some (.slice pao ps.length pcp) ∧ w'.cell? ⟨w1.heap.size, 0, none⟩ = some (.int .i64 p) ∧ w'.cell? ⟨w1.heap.size, 1, none⟩ = some (.slice (some ⟨g1, 0, none⟩) n c1)) [7, 8, 9, 10] hmix ⟨c3, q0, q1⟩ (fun h0 => ?_)
  refine wpAnyG_takeW (i := 0) (v := .pointer (some ⟨fb, 0, none⟩)) rfl (by kernel_rfl) (fun _ _ _ h => h) (Or.inl ⟨by rfl, fun w _ => by go_simp⟩) ?_
  refine wpAnyG_take (i := 1) (v := .pointer (some ⟨fb, 0, none⟩)) rfl (by kernel_rfl) (fun _ _ _ h => h) (Or.inl ⟨by rfl, fun w hSw => by (try dsimp only at hSw); go_simp⟩) h0 ?_
  refine wpAnyG_take (i := 2) (v := .pointer (some ⟨fb, 0, none⟩)) rfl (by kernel_rfl) (fun _ _ _ h => h) (Or.inl ⟨by rfl, fun w hSw => by (try dsimp only at hSw); go_simp⟩) h0 ?_
  refine wpAnyG_take (i := 3) (v := .pointer (some ⟨fb, 3, none⟩)) rfl (by kernel_rfl) (fun _ _ _ h => h) (Or.inl ⟨by rfl, fun w hSw => by (try dsimp only at hSw); go_simp⟩) h0 ?_
  refine wpAnyG_take (i := 4) (v := .slice pao ps.length pcp) rfl (by kernel_rfl) (fun _ _ _ h => h) (Or.inl ⟨by rfl, fun w hSw => by (try dsimp only at hSw); go_simp⟩) h0 ?_
  refine wpAnyG_take (i := 5) (v := .agg #[.int .i64 p, .slice (some ⟨g1, 0, none⟩) n c1]) rfl (by kernel_rfl) (fun _ _ _ h => h) (Or.inl ⟨by rfl, fun w hSw => by (try dsimp only at hSw); go_simp⟩) h0 ?_
  refine wpAnyG_one (i := 6) (by kernel_rfl) rfl (fun K hK => ?_)
  go_simp
  have st3 : St 215 (W2.alloc (.cells #[.int .i64 p, .slice (some ⟨g1, 0, none⟩) n c1] 215)).drew W2.heap.size #[.int .i64 p, .slice (some ⟨g1, 0, none⟩) n c1] := St.new 215 W2 _
  have k3 : Kp (fun _ => False) W2 (W2.alloc (.cells #[.int .i64 p, .slice (some ⟨g1, 0, none⟩) n c1] 215)).drew := ((Kp.refl _ _).alloc _).drew
  have z3 : (W2.alloc (.cells #[.int .i64 p, .slice (some ⟨g1, 0, none⟩) n c1] 215)).drew.heap.size = W2.heap.size + 1 := World.size_alloc _ _
  generalize (W2.alloc (.cells #[.int .i64 p, .slice (some ⟨g1, 0, none⟩) n c1] 215)).drew = W3 at st3 k3 z3 ⊢
  refine hK.out _ _ (fun _ _ => ⟨kp_cell k3 c3 (fun h => h), kp_cell k3 q0 (fun h => h), kp_cell k3 q1 (fun h => h)⟩) ?_
  clear hK K h0
  refine wpAnyG_one (i := 7) (by kernel_rfl) rfl (fun K hK => ?_)
  have hpr3 := HPR.out.kp k3 (fun _ _ h => h) (fun _ _ h => h)
  have nb : ∀ b, (Value.slice pao ps.length pcp).ownBlock = some b → b < w.heap.size ∧ b ≠ fb ∧ b ≠ lm ∧ b ≠ om := fun b hb => ⟨HLT.out b (by rw [Fa.mem]; exact .inr (.inr (.inr hb))), HF2.out.fb_ne hb⟩
  refine step_append_own rfl (.tmp 16) (.tmp 18) 162 rfl 0 215 (.agg #[.int .i64 0, .slice none 0 0]) 2 32 Tryz.underlying162 Tryz.info215 rfl (by decide) (.slice pao ps.length pcp) ps.length (pcl ps vs) (by simp [Act.eval]) hpr3.row ⟨W2.heap.size, 0, none⟩ 1 1 [.int .i64 p, .slice (some ⟨g1, 0, none⟩) n c1] (by simp [Act.eval]) rfl (fun j u hj => ?_) (fun u hu => ?_) (by unfold maxLen; omega) (by omega) (Nat.zero_le _) ?_
  · rw [add_z, st3.cell]; simpa using hj
  · simp at hu; rcases hu with rfl | rfl <;> rfl
  intro v' w4 r4 g4 n4 l4
  have k4 : Kp (fun i => (Value.slice pao ps.length pcp).ownBlock = some i) W3 w4 := Kp.of_grown g4 (fun i e => e)
  have hz4 := k4.size
  obtain ⟨pa4, pc4, hv4⟩ := ownsRow_shape r4
  subst hv4
  refine hK.out _ _ (fun h => absurd h (by decide)) ?_
  clear hK K
  try simp only [Act.put, List.setIfInBounds_toArray]
  refine wpAnyG_takeW (i := 8) (v := .pointer (some ⟨fb, 0, none⟩)) rfl (by kernel_rfl) (fun _ _ _ h => h) (Or.inl ⟨by rfl, fun w _ => by go_simp⟩) ?_
  refine wpAnyG_takeW (i := 9) (v := .pointer (some ⟨fb, 3, none⟩)) rfl (by kernel_rfl) (fun _ _ _ h => h) (Or.inl ⟨by rfl, fun w _ => by go_simp⟩) ?_
  refine wpAnyG_one (i := 10) (by kernel_rfl) rfl (fun K hK => ?_)
  have st4 : St 164 w4 fb #[.int .i64 sz, .map (some lm), .map (some om), .slice pao ps.length pcp] := (HF2.out.st.kp k3 (fun h => h)).kp k4 (fun h => (nb _ h).2.1 rfl)
  have c34 : w4.cell? ⟨fb, 3, none⟩ = some (.slice pao ps.length pcp) := st4.cell 3
  have fz3 : w4.frozen? ⟨fb, 3, none⟩ = false := st4.frozen 3
  go_simp
  -- what there is now
  have st5 : St 164 (w4.setCell ⟨fb, 3, none⟩ (.slice pa4 (ps.length + 1) pc4)) fb #[.int .i64 sz, .map (some lm), .map (some om), .slice pa4 (ps.length + 1) pc4] := st4.set 3 _
  have k5 : Kp (fun i => i = fb) w4 (w4.setCell ⟨fb, 3, none⟩ (.slice pa4 (ps.length + 1) pc4)) := kp_setCell _ _ _ _ _ rfl
  generalize w4.setCell ⟨fb, 3, none⟩ (.slice pa4 (ps.length + 1) pc4) = W5 at st5 k5 ⊢
  refine hK.out _ _ (fun h => absurd h (by decide)) ?_
  clear hK K
  refine wpAnyG_done (by kernel_rfl) ?_ _
  have pr5 : Pr (fun i => D i ∨ (w.heap.size ≤ i ∧ (Value.slice pa4 (ps.length + 1) pc4).ownBlock ≠ some i)) W5 (.slice pa4 (ps.length + 1) pc4) (ps ++ [(p, xs)]) (vs ++ [.slice (some ⟨g1, 0, none⟩) n c1]) := by
    have hD : ∀ i, D i → ¬ (Value.slice pao ps.length pcp).ownBlock = some i := fun i hi h => HF2.out.nd i hi (by rw [Fa.mem]; exact .inr (.inr (.inr h)))
    have hD2 : ∀ i, D i → ¬ i = fb := fun i hi h => HF2.out.nd i hi (by rw [Fa.mem]; exact .inl h)
    refine ⟨by simp [HPR.out.len], fun i hi => ?_, ?_⟩
    · by_cases hlt : i < ps.length
      · have hb0 := (hpr3.bs i hlt).kp k4 hD
        have hb1 := hb0.kp k5 hD2
        have e1 : (vs ++ [Value.slice (some ⟨g1, 0, none⟩) n c1]).getD i undef = vs.getD i undef := by simp [List.getD, List.getElem?_append_left (show i < vs.length by rw [HPR.out.len]; exact hlt)]
        have e2 : (ps ++ [(p, xs)]).getD i (0, []) = ps.getD i (0, []) := by simp [List.getD, List.getElem?_append_left hlt]
        rw [e1, e2]
        exact hb1.mono (fun _ _ h => .inl h)
      · have hi2 : i = ps.length := by simp at hi; omega
        subst hi2
        have e1 : (vs ++ [Value.slice (some ⟨g1, 0, none⟩) n c1]).getD ps.length undef = .slice (some ⟨g1, 0, none⟩) n c1 := by rw [← HPR.out.len]; simp [List.getD]
        have e2 : (ps ++ [(p, xs)]).getD ps.length (0, []) = (p, xs) := by simp [List.getD]
        rw [e1, e2]
        have hb2 : Bs (fun i => w.heap.size ≤ i ∧ (Value.slice pa4 (ps.length + 1) pc4).ownBlock ≠ some i) W2 (.slice (some ⟨g1, 0, none⟩) n c1) xs := HBS2.out.mono (fun i hi h => ⟨h, fun e => by
          rcases l4 with h4 | h4
          · rw [h4] at e; have := (nb i e).1; omega
          · rw [h4] at e; cases e; omega⟩)
        have hb0 := (hb2.kp k3 (fun _ _ h => h)).kp k4 (fun i hi h => by have := (nb i h).1; omega)
        exact (hb0.kp k5 (fun i hi h => by omega)).mono (fun _ _ h => .inr h)
    · have hr5 : W5.ownsRow 0 215 2 (.slice pa4 (ps.length + 1) pc4) (ps.length + 1) (pcl ps vs ++ [.int .i64 p, .slice (some ⟨g1, 0, none⟩) n c1]) := by
        refine ⟨r4.1, ?_⟩
        rcases r4.2 with h | ⟨g, cap, cur, h1, h2, h3, h4⟩
        · exact .inl h
        · refine .inr ⟨g, cap, cur, h1, h2, ?_, h4⟩
          rw [k5.block g (Array.getElem?_eq_some_iff.1 h3).1 (fun e => ?_)]
          · exact h3
          · have := st4; unfold St at this; rw [← e, h3] at this; cases this
      rw [List.length_append, pcl_append _ _ _ _ HPR.out.len]
      exact hr5
  have HPR5 : Hid (Pr (fun i => D i ∨ (w.heap.size ≤ i ∧ (Value.slice pa4 (ps.length + 1) pc4).ownBlock ≠ some i)) W5 (.slice pa4 (ps.length + 1) pc4) (ps ++ [(p, xs)]) (vs ++ [.slice (some ⟨g1, 0, none⟩) n c1])) := pr5
  have HL4 : Hid (∀ b, (Value.slice pa4 (ps.length + 1) pc4).ownBlock = some b → (Value.slice pao ps.length pcp).ownBlock = some b ∨ w.heap.size ≤ b) := by
    intro b hb
    rcases l4 with h | h
    · exact .inl (h ▸ hb)
    · rw [h] at hb; cases hb; exact .inr (by omega)
  have K5 : Hid (Kp (fun i => i = fb ∨ (Value.slice pao ps.length pcp).ownBlock = some i) w W5) := (((K2.out.mono (G := fun i => i = fb ∨ (Value.slice pao ps.length pcp).ownBlock = some i) (fun _ _ h => h.elim)).trans k3 (fun _ _ h => h.elim)).trans k4 (fun _ _ h => .inr h)).trans k5 (fun _ _ h => .inl h)
  have HST5 : Hid (St 164 W5 fb #[.int .i64 sz, .map (some lm), .map (some om), .slice pa4 (ps.length + 1) pc4]) := st5
  have HQ5 : Hid (St 215 W5 w1.heap.size #[.int .i64 p, .slice (some ⟨g1, 0, none⟩) n c1]) := ((HST2.out.kp k3 (fun h => h)).kp k4 (fun h => by have := (nb _ h).1; omega)).kp k5 (by omega)
  have s5 : w.heap.size ≤ W5.heap.size := K5.out.size
  have c05 : W5.cell? ⟨fb, 0, none⟩ = some (.int .i64 sz) := st5.cell 0
  have q05 : W5.cell? ⟨w1.heap.size, 0, none⟩ = some (.int .i64 p) := HQ5.out.cell 0
  have q15 : W5.cell? ⟨w1.heap.size, 1, none⟩ = some (.slice (some ⟨g1, 0, none⟩) n c1) := HQ5.out.cell 1
  have NB : Hid (∀ b, (Value.slice pao ps.length pcp).ownBlock = some b → b < w.heap.size ∧ b ≠ fb ∧ b ≠ lm ∧ b ≠ om) := nb
  clear st3 k3 z3 hpr3 nb r4 g4 n4 l4 k4 hz4 st4 c34 fz3 st5 k5 pr5 c3 q0 q1
  obtain ⟨M, hM⟩ : ∃ M, M = max sz (p + n) := ⟨_, rfl⟩
  have HM : Hid (M = max sz (p + n)) := hM
  clear hM
  go_wp2_with fail
  -- f.size = max(f.size, p.end())
  refine wp_region_G (fun w' => w'.cell? ⟨fb, 0, none⟩ = some (.int .i64 sz) ∧ w'.cell? ⟨w1.heap.size, 0, none⟩ = some (.int .i64 p) ∧ w'.cell? ⟨w1.heap.size, 1, none⟩ = some (.slice (some ⟨g1, 0, none⟩) n c1)) [10] hmix ⟨c05, q05, q15⟩ (fun h0 => ?_)
  refine wpAnyG_takeW (i := 0) (v := .pointer (some ⟨fb, 0, none⟩)) rfl (by kernel_rfl) (fun _ _ _ h => h) (Or.inl ⟨by rfl, fun w _ => by go_simp⟩) ?_
  refine wpAnyG_takeW (i := 1) (v := .pointer (some ⟨fb, 0, none⟩)) rfl (by kernel_rfl) (fun _ _ _ h => h) (Or.inl ⟨by rfl, fun w _ => by go_simp⟩) ?_
  refine wpAnyG_takeW (i := 2) (v := .pointer (some ⟨fb, 0, none⟩)) rfl (by kernel_rfl) (fun _ _ _ h => h) (Or.inl ⟨by rfl, fun w _ => by go_simp⟩) ?_
  refine wpAnyG_takeW (i := 3) (v := .pointer (some ⟨fb, 0, none⟩)) rfl (by kernel_rfl) (fun _ _ _ h => h) (Or.inl ⟨by rfl, fun w _ => by go_simp⟩) ?_
  refine wpAnyG_take (i := 4) (v := .int .i64 sz) rfl (by kernel_rfl) (fun _ _ _ h => h) (Or.inl ⟨by rfl, fun w hSw => by (try dsimp only at hSw); go_simp⟩) h0 ?_
  refine wpAnyG_take (i := 5) (v := .agg #[.int .i64 p, .slice (some ⟨g1, 0, none⟩) n c1]) rfl (by kernel_rfl) (fun _ _ _ h => h) (Or.inl ⟨by rfl, fun w hSw => by (try dsimp only at hSw); go_simp⟩) h0 ?_
  refine wpAnyG_one (i := 6) (by kernel_rfl) rfl (fun K hK => ?_)
  go_simp
  refine (end_any p (some ⟨g1, 0, none⟩) n c1 _ (by omega) (by omega)).mono ?_
  rintro e w6 ⟨rfl, hw6⟩
  have k6 : Kp (fun _ => False) W5 w6 := by rw [hw6]; exact ((Kp.refl _ _).drew).alloc _
  clear hw6
  go_wp2_with fail
  refine hK.out _ _ (fun _ _ => ⟨kp_cell k6 c05 (fun h => h), kp_cell k6 q05 (fun h => h), kp_cell k6 q15 (fun h => h)⟩) ?_
  clear hK K
  have hMI : (if (sz : Int) < (p : Int) + (n : Int) then (p : Int) + (n : Int) else (sz : Int)) = (M : Int) := by rw [HM.out]; omega
  have hMI2 : (if (p : Int) + (n : Int) > (sz : Int) then (p : Int) + (n : Int) else (sz : Int)) = (M : Int) := by rw [HM.out]; omega
  refine wpAnyG_takeW (i := 7) (v := .int .i64 M) rfl (by kernel_rfl) (fun _ _ _ h => h) (Or.inl ⟨by rfl, fun w _ => by go_simp⟩) ?_
  refine wpAnyG_takeW (i := 8) (v := .pointer (some ⟨fb, 0, none⟩)) rfl (by kernel_rfl) (fun _ _ _ h => h) (Or.inl ⟨by rfl, fun w _ => by go_simp⟩) ?_
  refine wpAnyG_takeW (i := 9) (v := .pointer (some ⟨fb, 0, none⟩)) rfl (by kernel_rfl) (fun _ _ _ h => h) (Or.inl ⟨by rfl, fun w _ => by go_simp⟩) ?_
  refine wpAnyG_one (i := 10) (by kernel_rfl) rfl (fun K hK => ?_)
  have st6 : St 164 w6 fb #[.int .i64 sz, .map (some lm), .map (some om), .slice pa4 (ps.length + 1) pc4] := HST5.out.kp k6 (fun h => h)
  have c06 : w6.cell? ⟨fb, 0, none⟩ = some (.int .i64 sz) := st6.cell 0
  have fz0 : w6.frozen? ⟨fb, 0, none⟩ = false := st6.frozen 0
  go_simp
  have st7 : St 164 (w6.setCell ⟨fb, 0, none⟩ (.int .i64 M)) fb #[.int .i64 M, .map (some lm), .map (some om), .slice pa4 (ps.length + 1) pc4] := st6.set 0 _
  have k7 : Kp (fun i => i = fb) w6 (w6.setCell ⟨fb, 0, none⟩ (.int .i64 M)) := kp_setCell _ _ _ _ _ rfl
  generalize w6.setCell ⟨fb, 0, none⟩ (.int .i64 M) = W7 at st7 k7 ⊢
  refine hK.out _ _ (fun h => absurd h (by decide)) ?_
  clear hK K
  refine wpAnyG_done (by kernel_rfl) ?_ _
  have kk : Kp (fun i => i = fb) W5 W7 := (k6.mono (G := fun i => i = fb) (fun _ _ h => h.elim)).trans k7 (fun _ _ h => h)
  have K7 : Hid (Kp (fun i => i = fb ∨ (Value.slice pao ps.length pcp).ownBlock = some i) w W7) := K5.out.trans kk (fun _ _ h => .inl h)
  have nl := HF2.out.lm_ne
  have hne := HF2.out.ne
  dsimp only at nl hne
  have hlm : lm < w.heap.size := HLT.out lm (by rw [Fa.mem]; exact .inr (.inl rfl))
  have hom : om < w.heap.size := HLT.out om (by rw [Fa.mem]; exact .inr (.inr (.inl rfl)))
  have ND0 : ∀ i, D i → i ≠ fb ∧ i ≠ lm ∧ i ≠ om ∧ ¬ (Value.slice pao ps.length pcp).ownBlock = some i := fun i hi => by
    have := HF2.out.nd i hi
    rw [Fa.mem] at this
    exact ⟨fun h => this (.inl h), fun h => this (.inr (.inl h)), fun h => this (.inr (.inr (.inl h))), fun h => this (.inr (.inr (.inr h)))⟩
  obtain ⟨el, cl, hla⟩ := HF.out.la
  obtain ⟨eo, co, hov, hcv⟩ := HF.out.ov
  have HCV : Hid (Cov eo ps) := hcv
  clear hcv
  have HLA : Hid (Sm D W7 lm L zero el cl) := hla.kp K7.out (fun h => h.elim (fun h => nl.1 h) (fun h => (NB.out _ h).2.2.1 rfl)) (fun i hi h => h.elim (fun h => (ND0 i hi).1 h) (fun h => (ND0 i hi).2.2.2 h))
  have HOV : Hid (Sm D W7 om (ovs L ps) L eo co) := hov.kp K7.out (fun h => h.elim (fun h => nl.2 h) (fun h => (NB.out _ h).2.2.2 rfl)) (fun i hi h => h.elim (fun h => (ND0 i hi).1 h) (fun h => (ND0 i hi).2.2.2 h))
  have HST7 : Hid (St 164 W7 fb #[.int .i64 M, .map (some lm), .map (some om), .slice pa4 (ps.length + 1) pc4]) := st7
  have HQ7 : Hid (St 215 W7 w1.heap.size #[.int .i64 p, .slice (some ⟨g1, 0, none⟩) n c1]) := HQ5.out.kp kk (by omega)
  have nfb : (Value.slice pa4 (ps.length + 1) pc4).ownBlock ≠ some fb := fun h => by
    rcases HL4.out _ h with h | h
    · exact (NB.out _ h).2.1 rfl
    · omega
  have HPR7 : Hid (Pr (fun i => D i ∨ (w.heap.size ≤ i ∧ (Value.slice pa4 (ps.length + 1) pc4).ownBlock ≠ some i)) W7 (.slice pa4 (ps.length + 1) pc4) (ps ++ [(p, xs)]) (vs ++ [.slice (some ⟨g1, 0, none⟩) n c1])) := HPR5.out.kp kk (fun b hb h => nfb (h ▸ hb)) (fun i hi h => hi.elim (fun hi => (ND0 i hi).1 h) (fun hi => by have := hi.1; omega))
  have HBS7 : Hid (Bs (fun i => D i ∨ (w.heap.size ≤ i ∧ (Value.slice pa4 (ps.length + 1) pc4).ownBlock ≠ some i)) W7 (.slice (some ⟨g1, 0, none⟩) n c1) xs) := by
    have := HPR7.out.bs ps.length (by simp)
    have e1 : (vs ++ [Value.slice (some ⟨g1, 0, none⟩) n c1]).getD ps.length undef = .slice (some ⟨g1, 0, none⟩) n c1 := by rw [← HPR.out.len]; simp [List.getD]
    have e2 : (ps ++ [(p, xs)]).getD ps.length (0, []) = (p, xs) := by simp [List.getD]
    rw [e1, e2] at this
    exact this
  clear st6 st7 k6 k7 kk c06 fz0 hla hov c05 q05 q15 h0 hMI hMI2
  have t1 : W7.cell? ⟨fb, 1, none⟩ = some (.map (some lm)) := HST7.out.cell 1
  have t2 : W7.cell? ⟨fb, 2, none⟩ = some (.map (some om)) := HST7.out.cell 2
  obtain ⟨k, hkk⟩ : ∃ k, k = p / 512 := ⟨_, rfl⟩
  have HK : Hid (k = p / 512) := hkk
  have hk : (p : Int) / 512 = (k : Int) := by omega
  clear hkk
  have NDM : ¬ (D om ∨ (w.heap.size ≤ om ∧ (Value.slice pa4 (ps.length + 1) pc4).ownBlock ≠ some om)) := by
    rintro (h | h)
    · exact (ND0 _ h).2.2.1 rfl
    · have := h.1; omega
  cases hqo : mget eo (k : Int) with
  | some uo =>
    obtain ⟨go, oo, co', rfl, _⟩ := HOV.out.so k uo hqo
    have HQO : Hid (mget eo (k : Int) = some (.slice (some ⟨go, oo, none⟩) (sec (ovs L ps) k).length co')) := hqo
    rw [sec_len] at HQO
    clear hqo
    have he : ∀ w : World, (binOp .eql 47 (.slice (some ⟨go, oo, none⟩) 512 co') (.slice none 0 0)).run Tryz.prog w = .ok (.bool false) w := fun _ => rfl
    go_wp2_with (first | (at_lookup; refine wpList_lookup_mp rfl _ _ rfl (ky_int Tryz.underlying2) Tryz.underlying161 (.slice none 0 0) (Tryz.zeroValue47 _) om co eo rfl HOV.out.mp (k : Int) rfl (.slice (some ⟨go, oo, none⟩) 512 co') (by rw [HQO.out]; rfl) ?_))
    have HO8 : Hid (Sm (fun i => D i ∨ (w.heap.size ≤ i ∧ (Value.slice pa4 (ps.length + 1) pc4).ownBlock ≠ some i)) W7 om (ovs L ps) L eo co) := HOV.out.mono (fun _ _ h => .inl h)
    have HL8 : Hid (Sm (fun i => D i ∨ (w.heap.size ≤ i ∧ (Value.slice pa4 (ps.length + 1) pc4).ownBlock ≠ some i)) W7 lm L zero el cl) := HLA.out.mono (fun _ _ h => .inl h)
    have HST8 := HST7
    have HPR8 := HPR7
    have HBS8 := HBS7
    have K8 : Hid (Kp (fun i => i = fb ∨ i = om ∨ (Value.slice pao ps.length pcp).ownBlock = some i) w W7) := K7.out.mono (fun _ _ h => h.elim .inl (fun x => .inr (.inr x)))
    have q08 : W7.cell? ⟨w1.heap.size, 0, none⟩ = some (.int .i64 p) := HQ7.out.cell 0
    have q18 : W7.cell? ⟨w1.heap.size, 1, none⟩ = some (.slice (some ⟨g1, 0, none⟩) n c1) := HQ7.out.cell 1
    obtain ⟨W8, hW8⟩ : ∃ W8, W8 = W7 := ⟨_, rfl⟩
    rw [← hW8] at HO8 HL8 HST8 HPR8 HBS8 K8 t1 t2 q08 q18 ⊢
    clear hW8
    have hz8 : mget eo (k : Int) = none → sec (ovs L ps) k = sec zero k := fun h => by rw [HQO.out] at h; cases h
    refine wp_region_tail hmix (by kernel_rfl) ?_
    dsimp only [List.dropLast, List.getLast]
    repeat (gi_big_quiet_step (fail))
    refine wpQuietIn_nil ?_
    intro _ hw'
    obtain ⟨nq, hw2⟩ := hw'
    subst hw2
    have kq := drewN_kp (fun _ => False) W8 nq
    generalize W8.drewN nq = X8 at kq ⊢
    gi_wp2_with fail
    refine ⟨trivial, rfl, ?_⟩
    refine (callsIn_wide.2 ((HO8.out.kp kq (fun h => h) (fun _ _ h => h)).putp p xs (.slice (some ⟨g1, 0, none⟩) n c1) (by rw [← HN.out]; exact hr) (by rw [← HN.out]; exact h1) (by rw [← HN.out]; exact hb) (HBS8.out.kp kq (fun _ _ h => h)) NDM (by rw [← HK.out]; exact hz8))).mono ?_
    rintro e w9 ⟨rfl, es9, c9, sm9, k9, hm9, hp9⟩
    gi_wp2
    go_end0
    rw [← HM.out]
    exact ⟨rfl, write_fin D fb lm om _ _ sz M n p L ps xs _ w W8 X8 w9 _ _ es9 c9 HF.out HM.out HN.out h1 hr hb hnb HL4.out K8.out kq HL8.out HST8.out HPR8.out sm9 k9 (cov_step HCV.out hm9 hp9)⟩
  | none =>
    have HQO : Hid (mget eo (k : Int) = none) := hqo
    clear hqo
    cases hql : mget el (k : Int) with
    | none =>
      have HQL : Hid (mget el (k : Int) = none) := hql
      clear hql
      have he : ∀ w : World, (binOp .eql 47 (.slice none 0 0) (.slice none 0 0)).run Tryz.prog w = .ok (.bool true) w := fun _ => rfl
      have he2 : ∀ w : World, (binOp .neq 47 (.slice none 0 0) (.slice none 0 0)).run Tryz.prog w = .ok (.bool false) w := fun _ => rfl
      have hro : (Instr.lookup 161 (.map (some om)) (.int .i64 (k : Int)) false).run Tryz.prog W7 = .ok (.slice none 0 0) W7 := by have := run_lookup_mp (ky_int Tryz.underlying2) Tryz.underlying161 HOV.out.mp (Tryz.zeroValue47 _) (k : Int); rw [HQO.out] at this; exact this
      have hrl : (Instr.lookup 161 (.map (some lm)) (.int .i64 (k : Int)) false).run Tryz.prog W7 = .ok (.slice none 0 0) W7 := by have := run_lookup_mp (ky_int Tryz.underlying2) Tryz.underlying161 HLA.out.mp (Tryz.zeroValue47 _) (k : Int); rw [HQL.out] at this; exact this
      go_wp2_with fail
      have HO8 : Hid (Sm (fun i => D i ∨ (w.heap.size ≤ i ∧ (Value.slice pa4 (ps.length + 1) pc4).ownBlock ≠ some i)) W7 om (ovs L ps) L eo co) := HOV.out.mono (fun _ _ h => .inl h)
      have HL8 : Hid (Sm (fun i => D i ∨ (w.heap.size ≤ i ∧ (Value.slice pa4 (ps.length + 1) pc4).ownBlock ≠ some i)) W7 lm L zero el cl) := HLA.out.mono (fun _ _ h => .inl h)
      have HST8 := HST7
      have HPR8 := HPR7
      have HBS8 := HBS7
      have K8 : Hid (Kp (fun i => i = fb ∨ i = om ∨ (Value.slice pao ps.length pcp).ownBlock = some i) w W7) := K7.out.mono (fun _ _ h => h.elim .inl (fun x => .inr (.inr x)))
      have q08 : W7.cell? ⟨w1.heap.size, 0, none⟩ = some (.int .i64 p) := HQ7.out.cell 0
      have q18 : W7.cell? ⟨w1.heap.size, 1, none⟩ = some (.slice (some ⟨g1, 0, none⟩) n c1) := HQ7.out.cell 1
      obtain ⟨W8, hW8⟩ : ∃ W8, W8 = W7 := ⟨_, rfl⟩
      rw [← hW8] at HO8 HL8 HST8 HPR8 HBS8 K8 t1 t2 q08 q18 ⊢
      clear hW8
      have hz8 : mget eo (k : Int) = none → sec (ovs L ps) k = sec zero k := fun _ => by rw [HOV.out.no k HQO.out, HLA.out.no k HQL.out]
      refine wp_region_tail hmix (by kernel_rfl) ?_
      dsimp only [List.dropLast, List.getLast]
      repeat (gi_big_quiet_step (fail))
      refine wpQuietIn_nil ?_
      intro _ hw'
      obtain ⟨nq, hw2⟩ := hw'
      subst hw2
      have kq := drewN_kp (fun _ => False) W8 nq
      generalize W8.drewN nq = X8 at kq ⊢
      gi_wp2_with fail
      refine ⟨trivial, rfl, ?_⟩
      refine (callsIn_wide.2 ((HO8.out.kp kq (fun h => h) (fun _ _ h => h)).putp p xs (.slice (some ⟨g1, 0, none⟩) n c1) (by rw [← HN.out]; exact hr) (by rw [← HN.out]; exact h1) (by rw [← HN.out]; exact hb) (HBS8.out.kp kq (fun _ _ h => h)) NDM (by rw [← HK.out]; exact hz8))).mono ?_
      rintro e w9 ⟨rfl, es9, c9, sm9, k9, hm9, hp9⟩
      gi_wp2
      go_end0
      rw [← HM.out]
      exact ⟨rfl, write_fin D fb lm om _ _ sz M n p L ps xs _ w W8 X8 w9 _ _ es9 c9 HF.out HM.out HN.out h1 hr hb hnb HL4.out K8.out kq HL8.out HST8.out HPR8.out sm9 k9 (cov_step HCV.out hm9 hp9)⟩
    | some ul =>
      have hul := HLA.out.so k ul hql
      obtain ⟨gl, ol, cl', rfl, hul'⟩ := hul
      have HQL : Hid (mget el (k : Int) = some (.slice (some ⟨gl, ol, none⟩) (sec L k).length cl')) := hql
      rw [sec_len] at HQL
      have HUL : Hid (Bs D W7 (.slice (some ⟨gl, ol, none⟩) 512 cl') (sec L k)) := ⟨gl, ol, cl', by rw [sec_len], hul'⟩
      clear hql hul'
      have he : ∀ w : World, (binOp .eql 47 (.slice none 0 0) (.slice none 0 0)).run Tryz.prog w = .ok (.bool true) w := fun _ => rfl
      have he2 : ∀ w : World, (binOp .neq 47 (.slice (some ⟨gl, ol, none⟩) 512 cl') (.slice none 0 0)).run Tryz.prog w = .ok (.bool true) w := fun _ => rfl
      have hro : (Instr.lookup 161 (.map (some om)) (.int .i64 (k : Int)) false).run Tryz.prog W7 = .ok (.slice none 0 0) W7 := by have := run_lookup_mp (ky_int Tryz.underlying2) Tryz.underlying161 HOV.out.mp (Tryz.zeroValue47 _) (k : Int); rw [HQO.out] at this; exact this
      have hrl : (Instr.lookup 161 (.map (some lm)) (.int .i64 (k : Int)) false).run Tryz.prog W7 = .ok (.slice (some ⟨gl, ol, none⟩) 512 cl') W7 := by have := run_lookup_mp (ky_int Tryz.underlying2) Tryz.underlying161 HLA.out.mp (Tryz.zeroValue47 _) (k : Int); rw [HQL.out] at this; exact this
      go_wp2_with fail
      have hrl2 : ∀ nq, (Instr.lookup 161 (.map (some lm)) (.int .i64 (k : Int)) false).run Tryz.prog (W7.drewN nq) = .ok (.slice (some ⟨gl, ol, none⟩) 512 cl') (W7.drewN nq) := fun nq => by have := run_lookup_mp (ky_int Tryz.underlying2) Tryz.underlying161 (kp_mp HLA.out.mp (drewN_kp (fun _ => False) W7 nq) (fun h => h)) (Tryz.zeroValue47 _) (k : Int); rw [HQL.out] at this; exact this
      clear hro hrl
      refine wp_region_tail hmix (by kernel_rfl) ?_
      dsimp only [List.dropLast, List.getLast]
      repeat (gi_big_quiet_step (fail))
      refine wpQuietIn_nil ?_
      intro _ hw'
      obtain ⟨nq, hw2⟩ := hw'
      subst hw2
      clear hrl2
      have kq := drewN_kp (fun _ => False) W7 nq
      generalize W7.drewN nq = X7 at kq ⊢
      have HOX : Hid (Sm (fun i => D i ∨ (w.heap.size ≤ i ∧ (Value.slice pa4 (ps.length + 1) pc4).ownBlock ≠ some i)) X7 om (ovs L ps) L eo co) := (HOV.out.mono (fun _ _ h => .inl h)).kp kq (fun h => h) (fun _ _ h => h)
      gi_wp2_with (first | (gi_at_mapUpdate; refine wpListIn_update_mp rfl _ _ _ rfl (ky_int Tryz.underlying2) Tryz.underlying161 om co eo rfl HOX.out.mp (k : Int) rfl (.slice (some ⟨gl, ol, none⟩) 512 cl') rfl ?_; intro W8 m8 g8))
      have k78 : Kp (fun i => i = om) W7 W8 := (kq.mono (G := fun i => i = om) (fun _ _ h => h.elim)).trans (Kp.of_grown g8 (fun i e => by cases e; rfl)) (fun _ _ h => h)
      have kx8 : Kp (fun i => i = om) X7 W8 := Kp.of_grown g8 (fun i e => by cases e; rfl)
      have DMX : ∀ i, (D i ∨ (w.heap.size ≤ i ∧ (Value.slice pa4 (ps.length + 1) pc4).ownBlock ≠ some i)) → i ≠ om := fun i hi e => NDM (e ▸ hi)
      have pvom : (Value.slice pa4 (ps.length + 1) pc4).ownBlock ≠ some om := fun h => by
        rcases HL4.out _ h with h | h
        · exact (NB.out _ h).2.2.2 rfl
        · omega
      have HO8 : Hid (Sm (fun i => D i ∨ (w.heap.size ≤ i ∧ (Value.slice pa4 (ps.length + 1) pc4).ownBlock ≠ some i)) W8 om (ovs L ps) L (mput eo (k : Int) (.slice (some ⟨gl, ol, none⟩) 512 cl') co) (mclk eo (k : Int) co)) := HOX.out.lay m8 kx8 DMX (fun _ _ h => h) (by rw [HOV.out.no k HQO.out]; exact (HUL.out.mono (fun _ _ h => .inl h)).kp k78 DMX) (by have := HK.out; omega) (fun _ _ => rfl)
      have HL8 : Hid (Sm (fun i => D i ∨ (w.heap.size ≤ i ∧ (Value.slice pa4 (ps.length + 1) pc4).ownBlock ≠ some i)) W8 lm L zero el cl) := (HLA.out.mono (fun _ _ h => .inl h)).kp k78 hne DMX
      have HST8 : Hid (St 164 W8 fb #[.int .i64 M, .map (some lm), .map (some om), .slice pa4 (ps.length + 1) pc4]) := HST7.out.kp k78 (fun e => nl.2 e.symm)
      have HPR8 : Hid (Pr (fun i => D i ∨ (w.heap.size ≤ i ∧ (Value.slice pa4 (ps.length + 1) pc4).ownBlock ≠ some i)) W8 (.slice pa4 (ps.length + 1) pc4) (ps ++ [(p, xs)]) (vs ++ [.slice (some ⟨g1, 0, none⟩) n c1])) := HPR7.out.kp k78 (fun b hb e => pvom (e ▸ hb)) DMX
      have HBS8 : Hid (Bs (fun i => D i ∨ (w.heap.size ≤ i ∧ (Value.slice pa4 (ps.length + 1) pc4).ownBlock ≠ some i)) W8 (.slice (some ⟨g1, 0, none⟩) n c1) xs) := HBS7.out.kp k78 DMX
      have K8 : Hid (Kp (fun i => i = fb ∨ i = om ∨ (Value.slice pao ps.length pcp).ownBlock = some i) w W8) := (K7.out.mono (G := (fun i => i = fb ∨ i = om ∨ (Value.slice pao ps.length pcp).ownBlock = some i)) (fun _ _ h => h.elim .inl (fun x => .inr (.inr x)))).trans k78 (fun _ _ h => .inr (.inl h))
      have st8 := HQ7.out.kp k78 (by omega)
      have q08 : W8.cell? ⟨w1.heap.size, 0, none⟩ = some (.int .i64 p) := st8.cell 0
      have q18 : W8.cell? ⟨w1.heap.size, 1, none⟩ = some (.slice (some ⟨g1, 0, none⟩) n c1) := st8.cell 1
      have t28 : W8.cell? ⟨fb, 2, none⟩ = some (.map (some om)) := HST8.out.cell 2
      have hz8 : mget (mput eo (k : Int) (.slice (some ⟨gl, ol, none⟩) 512 cl') co) (k : Int) = none → sec (ovs L ps) k = sec zero k := fun h => by rw [mget_put, if_pos rfl] at h; cases h
      clear m8 g8 k78 kx8 st8 DMX
      go_frame
      refine wp_region_tail hmix (by kernel_rfl) ?_
      dsimp only [List.dropLast, List.getLast]
      repeat (gi_big_quiet_step (fail))
      refine wpQuietIn_nil ?_
      intro _ hw'
      obtain ⟨nq, hw2⟩ := hw'
      subst hw2
      have kq := drewN_kp (fun _ => False) W8 nq
      generalize W8.drewN nq = X8 at kq ⊢
      gi_wp2_with fail
      refine ⟨trivial, rfl, ?_⟩
      refine (callsIn_wide.2 ((HO8.out.kp kq (fun h => h) (fun _ _ h => h)).putp p xs (.slice (some ⟨g1, 0, none⟩) n c1) (by rw [← HN.out]; exact hr) (by rw [← HN.out]; exact h1) (by rw [← HN.out]; exact hb) (HBS8.out.kp kq (fun _ _ h => h)) NDM (by rw [← HK.out]; exact hz8))).mono ?_
      rintro e w9 ⟨rfl, es9, c9, sm9, k9, hm9, hp9⟩
      gi_wp2
      go_end0
      rw [← HM.out]
      exact ⟨rfl, write_fin D fb lm om _ _ sz M n p L ps xs _ w W8 X8 w9 _ _ es9 c9 HF.out HM.out HN.out h1 hr hb hnb HL4.out K8.out kq HL8.out HST8.out HPR8.out sm9 k9 (cov_step (fun q hq => cov_put (HCV.out q hq)) hm9 hp9)⟩
end Go.Proofs.YtnccklbnncaeoaaGreat
/- Pending. -/
namespace Go.Proofs.YtnccklbnncaeoaaGreat
open Go.RowKit

theorem nodup_len {α : Type} : ∀ (l m : List α), l.Nodup → (∀ x ∈ l, x ∈ m) → l.length ≤ m.length
  | [], _, _, _ => Nat.zero_le _
  | x :: l, m, hn, hs => by
    obtain ⟨m1, m2, rfl⟩ := List.append_of_mem (hs x (by simp))
    have h := nodup_len l (m1 ++ m2) (List.nodup_cons.1 hn).2 (fun y hy => by
      have := hs y (List.mem_cons_of_mem _ hy)
      rcases List.mem_append.1 this with h | h
      · exact List.mem_append.2 (.inl h)
      · rcases List.mem_cons.1 h with h | h
        · exact absurd (h ▸ hy) (List.nodup_cons.1 hn).1
        · exact List.mem_append.2 (.inr h))
    simp at h ⊢
    omega
/-- How many an iterator has handed out. -/
def itn (w : World) (r : Nat) : Nat := match w.heap[r]? with
  | some (.mapIter _ _ seen _) => seen.size
  | _ => 0
theorem Mi.itn {κ : Type} {w : World} {r bm c : Nat} {es ds : List (κ × Value × Nat)} (h : Mi w r bm c es ds) : itn w r = ds.length := by
  obtain ⟨s, h1, h2⟩ := h.it
  unfold YtnccklbnncaeoaaGreat.itn
  rw [h1]
  have := congrArg List.length h2
  simpa using this
theorem Mi.le {κ : Type} {w : World} {r bm c : Nat} {es ds : List (κ × Value × Nat)} (h : Mi w r bm c es ds) : ds.length ≤ es.length := nodup_len ds es h.nd h.sub
def plen (fs : List Fe) (s : ByteArray) : Nat := match fget fs s with
  | some f => f.2.2.ps.length
  | none => 0
def pnd (fs : List Fe) : Nat := (fs.map (fun f => f.2.2.ps.length)).sum
theorem fget_self {fs : List Fe} (hn : (fs.map (·.1)).Nodup) {f : Fe} (hf : f ∈ fs) : fget fs f.1 = some f := by
  induction fs with
  | nil => cases hf
  | cons x fs ih =>
    simp only [List.map_cons, List.nodup_cons] at hn
    unfold fget
    rcases List.mem_cons.1 hf with h | h
    · rw [if_pos (by rw [h]), h]
    · rw [if_neg (fun e => hn.1 (by rw [← e]; exact List.mem_map.2 ⟨f, h, rfl⟩)), ih hn.2 h]
theorem Sr.keys {D : Nat → Prop} {w : World} {g fm : Nat} {fv : Value} {steps : Nat} {fs : List Fe} {ft : List (Int × Int)} {es : List (ByteArray × Value × Nat)} {c : Nat} (h : Sr D w g fm fv steps fs ft es c) : es.map (·.1) = fs.map (·.1) ∧ (fs.map (·.1)).Nodup := by
  have h1 : es.map (·.1) = fs.map (·.1) := by
    have := congrArg (List.map (·.1)) h.ef
    simpa [List.map_map, Function.comp_def] using this
  exact ⟨h1, h1 ▸ h.mp.2.1⟩
theorem Sr.ent {D : Nat → Prop} {w : World} {g fm : Nat} {fv : Value} {steps : Nat} {fs : List Fe} {ft : List (Int × Int)} {es : List (ByteArray × Value × Nat)} {c : Nat} (h : Sr D w g fm fv steps fs ft es c) {e : ByteArray × Value × Nat} (he : e ∈ es) : ∃ f ∈ fs, e.1 = f.1 ∧ e.2.1 = fptr f := by
  have : (e.1, e.2.1) ∈ es.map (fun e => (e.1, e.2.1)) := List.mem_map.2 ⟨e, he, rfl⟩
  rw [h.ef] at this
  obtain ⟨f, hf, h2⟩ := List.mem_map.1 this
  simp only [Prod.mk.injEq] at h2
  exact ⟨f, hf, h2.1.symm, h2.2.symm⟩
def sumk (fs : List Fe) (ds : List (ByteArray × Value × Nat)) : Nat := (ds.map (fun e => plen fs e.1)).sum
theorem sumk_snoc (fs : List Fe) (ds : List (ByteArray × Value × Nat)) (e : ByteArray × Value × Nat) : sumk fs (ds ++ [e]) = sumk fs ds + plen fs e.1 := by simp [sumk]
theorem sumk_all {fs : List Fe} {ds es : List (ByteArray × Value × Nat)} (hp : ds.Perm es) (hk : es.map (·.1) = fs.map (·.1)) (hn : (fs.map (·.1)).Nodup) : sumk fs ds = pnd fs := by
  unfold sumk pnd
  rw [(hp.map _).sum_nat]
  rw [show (fun e : ByteArray × Value × Nat => plen fs e.1) = plen fs ∘ (·.1) from rfl, ← List.map_map, hk, List.map_map]
  congr 1
  refine List.map_congr_left (fun f hf => ?_)
  simp only [Function.comp, plen]
  rw [fget_self hn hf]
theorem sumk_le {fs : List Fe} {ds : List (ByteArray × Value × Nat)} {B : Nat} (h : ∀ f ∈ fs, f.2.2.ps.length ≤ B) : sumk fs ds ≤ ds.length * B := by
  induction ds with
  | nil => simp [sumk]
  | cons e ds ih =>
    have h1 : plen fs e.1 ≤ B := by
      unfold plen
      cases hq : fget fs e.1 with
      | none => exact Nat.zero_le _
      | some f => exact h f (fget_mem hq)
    have : sumk fs (e :: ds) = plen fs e.1 + sumk fs ds := by simp [sumk]
    rw [this, List.length_cons, Nat.add_mul]
    omega
set_option maxRecDepth 100000 in
set_option maxHeartbeats 2000000 in
theorem pending_any (D : Nat → Prop) (w : World) (g fm : Nat) (fv : Value) (steps : Nat) (fs : List Fe) (ft : List (Int × Int)) (es : List (ByteArray × Value × Nat)) (c : Nat) (hs : Sr D w g fm fv steps fs ft es c) :
    Calls Tryz.prog 29 #[.pointer (some ⟨g, 0, none⟩)] w fun e w' => e = .returned (.int .i64 (pnd fs)) ∧ Kp (fun _ => False) w w' := by
  have c0 : w.cell? ⟨g, 0, none⟩ = some (.map (some fm)) := hs.st.cell 0
  have hrg := run_range_mp (P := Tryz.prog) Tryz.underlying156 hs.mp
  have HS : Hid (Sr D w g fm fv steps fs ft es c) := hs
  clear hs
  go_enter Tryz.func29, Tryz.ntmps29
  go_wp2_with (first | (go_at_call 78; refine (none_live _ _ _ c0).mono ?_; rintro e w' ⟨rfl, h⟩; replace h := h.symm; subst h))
  have H0 : Hid (Mi (w.alloc (.mapIter (some fm) c #[] c)) w.heap.size fm c es []) := mi_new w fm c es
  have K0 : Hid (Kp (fun _ => False) w (w.alloc (.mapIter (some fm) c #[] c))) := (Kp.refl _ _).alloc _
  clear hrg c0
  generalize hr : w.heap.size = r at H0 ⊢
  generalize w.alloc (.mapIter (some fm) c #[] c) = W at H0 K0 ⊢
  have HR : Hid (w.heap.size = r) := hr
  clear hr
  go_loopw [3, 5] (fun nv _ wr => ∃ ds, nv = .int .i64 ((sumk fs ds : Nat) : Int) ∧ Mi wr r fm c es ds ∧ Kp (fun _ => False) w wr) (fun _ _ wr => es.length - itn wr r)
  case atStart => exact ⟨[], rfl, H0.out, K0.out⟩
  case round =>
    clear H0 K0
    obtain ⟨ds, rfl, hmi, hkp⟩ := hrel
    have hS := HS.out.kp hkp (fun _ _ h => h) (fun _ _ h => h)
    have hrm : r ≠ fm := by have := HS.out.mp.lt; have := HR.out; omega
    have hkk := HS.out.keys
    have hle := hmi.le
    have hel : es.length ≤ 256 := by
      have := congrArg List.length hkk.1
      have := HS.out.nf
      simp at *; omega
    have hsl : sumk fs ds ≤ 256 * 1000000000 := Nat.le_trans (sumk_le (B := 1000000000) (fun f hf => (HS.out.fr f hf).nb)) (Nat.mul_le_mul_right _ (by omega))
    have hin := hmi.itn
    rcases hmi.next (P := Tryz.prog) hS.mp hrm 0 with ⟨hp, hrun⟩ | ⟨e, w2, he, hne, hrun, hmi2, hk2, hent⟩
    · have hx := sumk_all hp hkk.1 hkk.2
      have HX : Hid (sumk fs ds = pnd fs) := hx
      have HKP : Hid (Kp (fun _ => False) w wr) := hkp
      clear hx hS hkk hmi hin hkp
      go_wp2
      go_ret
      rw [HX.out]
      exact ⟨rfl, HKP.out⟩
    · obtain ⟨f, hf, he1, he2⟩ := hS.ent he
      have hk3 : Kp (fun _ => False) w w2 := hkp.trans hk2 (fun i hi h => by have := HR.out; omega)
      have hfr := (HS.out.kp hk3 (fun _ _ h => h) (fun _ _ h => h)).fr f hf
      obtain ⟨vs, hpr⟩ := hfr.pc
      obtain ⟨pao, pcap, hpv⟩ := ownsRow_shape hpr.row
      have d3 : w2.cell? ⟨f.2.1.fb, 3, none⟩ = some (.slice pao f.2.2.ps.length pcap) := by rw [← hpv]; exact hfr.st.cell 3
      rw [he2] at hrun hent
      unfold fptr at hrun hent
      have hpl : plen fs e.1 = f.2.2.ps.length := by unfold plen; rw [he1, fget_self hkk.2 hf]
      have hin2 := hmi2.itn
      rw [List.length_append, List.length_singleton] at hin2
      have hle2 := hmi2.le
      rw [List.length_append, List.length_singleton] at hle2
      have hpb := hfr.nb
      have HSN : Hid (((sumk fs (ds ++ [e]) : Nat) : Int) = (sumk fs ds : Int) + (f.2.2.ps.length : Int)) := by show _ = _; rw [sumk_snoc, hpl]; omega
      have HM2 : Hid (Mi w2 r fm c es (ds ++ [e])) := hmi2
      have HK3 : Hid (Kp (fun _ => False) w w2) := hk3
      have HIN : Hid (itn wr r = ds.length) := hin
      have HIN2 : Hid (itn w2 r = ds.length + 1) := hin2
      clear hin hin2 hmi2 hk3 hk2 hkp hmi hpr hpv hfr hpl hS hkk he1 he2
      generalize f.2.2.ps.length = pl at *
      generalize f.2.1.fb = fb at *
      go_wp2
      exact ⟨⟨ds ++ [e], by rw [HSN.out], HM2.out, HK3.out⟩, by rw [HIN.out, HIN2.out]; omega⟩
end Go.Proofs.YtnccklbnncaeoaaGreat
/- maps.DeleteFunc, as sectors.cut calls it: a range over a map out of which entries are taken. -/
namespace Go.Proofs.YtnccklbnncaeoaaGreat
open Go.RowKit Go.ChangeMaps Go.MapKept

/-- The iterator at r over the map bm has handed out entries of these stamps. -/
structure Mj (w : World) (r bm c : Nat) (bs : List Nat) : Prop where
  it : ∃ seen : Array Nat, w.heap[r]? = some (.mapIter (some bm) c seen c) ∧ seen.toList = bs
theorem Mj.lt {w : World} {r bm c : Nat} {bs : List Nat} (h : Mj w r bm c bs) : r < w.heap.size := by
  obtain ⟨s, h1, _⟩ := h.it
  exact (Array.getElem?_eq_some_iff.1 h1).1
theorem Mj.kp {F : Nat → Prop} {w w' : World} {r bm c : Nat} {bs : List Nat} (h : Mj w r bm c bs) (k : Kp F w w') (hf : ¬ F r) : Mj w' r bm c bs := by
  have hl := h.lt
  obtain ⟨s, h1, h2⟩ := h.it
  exact ⟨⟨s, (k.block r hl hf).trans h1, h2⟩⟩
theorem Mj.itn {w : World} {r bm c : Nat} {bs : List Nat} (h : Mj w r bm c bs) : itn w r = bs.length := by
  obtain ⟨s, h1, h2⟩ := h.it
  unfold YtnccklbnncaeoaaGreat.itn
  rw [h1]
  have := congrArg List.length h2
  simpa using this
theorem mj_new (w : World) (bm c : Nat) : Mj (w.alloc (.mapIter (some bm) c #[] c)) w.heap.size bm c [] := ⟨⟨#[], Go.heap_alloc_new w _, rfl⟩⟩
theorem Mj.next {κ : Type} {P : Program} {mk : κ → Value} {w : World} {r bm c : Nat} {es : List (κ × Value × Nat)} {bs : List Nat} (h : Mj w r bm c bs) (hm : Mp mk w bm es c) (hne : r ≠ bm) (ty : TypeId) :
    ((∀ e ∈ es, e.2.2 ∈ bs) ∧ (Instr.next (.pointer (some ⟨r, 0, none⟩)) false ty).run P w = .ok (.tuple #[.bool false]) w) ∨
    ∃ e w', e ∈ es ∧ e.2.2 ∉ bs ∧ (Instr.next (.pointer (some ⟨r, 0, none⟩)) false ty).run P w = .ok (.tuple #[.bool true, mk e.1, e.2.1]) w' ∧ Mj w' r bm c (bs ++ [e.2.2]) ∧ Kp (fun i => i = r) w w' ∧ (Instr.entry (.pointer (some ⟨r, 0, none⟩))).run P w' = .ok (.tuple #[mk e.1, e.2.1]) w' := by
  obtain ⟨seen, h1, h2⟩ := h.it
  have hold : ∀ x ∈ ((es.map (ent mk)).toArray).toList, x.born < c := by
    intro x hx
    simp only [List.mem_map] at hx
    obtain ⟨e, he, rfl⟩ := hx
    exact hm.2.2.2 e he
  have hcon : ∀ b, seen.contains b = true ↔ b ∈ bs := by
    intro b
    rw [← h2, Array.mem_toList_iff, Array.contains_iff_mem]
  rcases run_next_at (P := P) w ty r bm c c seen _ c h1 hm.1 hold (Nat.le_refl _) with ⟨h0, hrun⟩ | ⟨e, he, w1, hal, hrun⟩
  · refine .inl ⟨fun a ha => ?_, hrun⟩
    have := all_seen _ seen h0 (ent mk a) (by simp; exact ⟨_, _, _, ha, rfl⟩)
    exact (hcon _).1 this
  · obtain ⟨hem, hes⟩ := mem_left he
    simp only [List.mem_map] at hem
    obtain ⟨a, ha, rfl⟩ := hem
    have hnd : a.2.2 ∉ bs := by
      intro h3
      have : seen.contains a.2.2 = true := (hcon _).2 h3
      rw [show (ent mk a).born = a.2.2 from rfl, this] at hes
      cases hes
    have hr1 : w1.heap[r]? = some (.mapIter (some bm) c seen c) := by rcases hal with rfl | rfl <;> exact h1
    have hb1 : w1.heap[bm]? = some (.map (es.map (ent mk)).toArray c) := by rcases hal with rfl | rfl <;> exact hm.1
    have hset := heap_set (o' := .mapIter (some bm) c (seen.push (ent mk a).born) c) hr1
    have hb' := (hset.2 bm (fun e1 => hne e1.symm)).trans hb1
    refine .inr ⟨a, _, ha, hnd, hrun, ⟨⟨_, hset.1, ?_⟩⟩, ?_, run_entry_at _ r bm c seen _ c (ent mk a) hset.1 hb' (by simp; exact ⟨_, _, _, ha, rfl⟩) ?_⟩
    · rw [Array.toList_push, h2]; simp [ent]
    · rcases hal with rfl | rfl <;> exact ⟨rfl, rfl, rfl, by simp [setBlock], fun i _ hi => hset.2 i hi⟩
    · have := hm.2.2.1
      simpa [List.map_map, Function.comp_def, ent] using this
/-- Is the sector from the size on? -/
def pdl (sz : Int) (e : Int × Value × Nat) : Bool := decide (sz ≤ e.1 * 512)
/-- What is left when these stamps have been met. -/
def dlf (sz : Int) (bs : List Nat) (e : Int × Value × Nat) : Bool := !(decide (e.2.2 ∈ bs) && pdl sz e)
theorem mdel_filter (es : List (Int × Value × Nat)) (k : Int) (hn : (es.map (·.1)).Nodup) : mdel es k = es.filter (fun e => decide (e.1 ≠ k)) := by
  induction es with
  | nil => rfl
  | cons e es ih =>
    simp only [List.map_cons, List.nodup_cons] at hn
    unfold mdel
    by_cases h : k = e.1
    · rw [if_pos h, List.filter_cons_of_neg (by simp [h])]
      symm
      rw [List.filter_eq_self]
      intro x hx
      simp only [decide_eq_true_eq]
      exact fun e1 => hn.1 (by rw [← h, ← e1]; exact List.mem_map.2 ⟨x, hx, rfl⟩)
    · rw [if_neg h, List.filter_cons_of_pos (by simpa using fun e1 => h e1.symm), ih hn.2]
theorem key_inj_mp {es : List (Int × Value × Nat)} {c : Nat} (h : Kok es c) {a b : Int × Value × Nat} (ha : a ∈ es) (hb : b ∈ es) (e : a.1 = b.1) : a = b := by
  have hn := h.1
  clear h
  induction es with
  | nil => cases ha
  | cons x es ih =>
    simp only [List.map_cons, List.nodup_cons, List.mem_map, not_exists, not_and] at hn
    rcases List.mem_cons.1 ha with h1 | h1 <;> rcases List.mem_cons.1 hb with h2 | h2
    · rw [h1, h2]
    · exact absurd (h1 ▸ e.symm) (hn.1 b h2)
    · exact absurd (h2 ▸ e) (hn.1 a h1)
    · exact ih h1 h2 hn.2
theorem dlf_del {es : List (Int × Value × Nat)} {c : Nat} {sz : Int} {bs : List Nat} (h : Kok es c) {e : Int × Value × Nat} (he : e ∈ es) (hp : pdl sz e = true) : mdel (es.filter (dlf sz bs)) e.1 = es.filter (dlf sz (bs ++ [e.2.2])) := by
  rw [mdel_filter _ _ (List.Nodup.sublist (List.Sublist.map _ List.filter_sublist) h.1), List.filter_filter]
  refine List.filter_congr (fun x hx => ?_)
  by_cases hxe : x = e
  · subst hxe
    simp [dlf, hp]
  · have h1 : x.1 ≠ e.1 := fun e1 => hxe (key_inj_mp h hx he e1)
    have h2 : x.2.2 ≠ e.2.2 := fun e1 => hxe (born_inj_mp h hx he e1)
    simp [dlf, h1, h2]
theorem dlf_keep {es : List (Int × Value × Nat)} {c : Nat} {sz : Int} {bs : List Nat} (h : Kok es c) {e : Int × Value × Nat} (he : e ∈ es) (hp : pdl sz e = false) : es.filter (dlf sz bs) = es.filter (dlf sz (bs ++ [e.2.2])) := by
  refine List.filter_congr (fun x hx => ?_)
  by_cases hxe : x = e
  · subst hxe
    simp [dlf, hp]
  · have h2 : x.2.2 ≠ e.2.2 := fun e1 => hxe (born_inj_mp h hx he e1)
    simp [dlf, h2]
theorem dlf_end {es : List (Int × Value × Nat)} {sz : Int} {bs : List Nat} (h : ∀ e ∈ es.filter (dlf sz bs), e.2.2 ∈ bs) : es.filter (dlf sz bs) = es.filter (fun e => !pdl sz e) := by
  refine List.filter_congr (fun x hx => ?_)
  by_cases hb : x.2.2 ∈ bs
  · simp [dlf, hb]
  · have : dlf sz bs x = false := by
      rw [Bool.eq_false_iff]
      intro h1
      exact hb (h x (List.mem_filter.2 ⟨hx, h1⟩))
    simp [dlf, hb] at this
set_option maxRecDepth 100000 in
theorem cut1_any (k sz : Int) (u : Value) (Bx : Nat) (w : World) (hc : w.cell? ⟨Bx, 0, none⟩ = some (.int .i64 sz)) (h0 : 0 ≤ k) (h1 : k ≤ 1000000) : Calls Tryz.prog 178 #[.int .i64 k, u, .pointer (some ⟨Bx, 0, none⟩)] w fun e w' => e = .returned (.bool (decide (sz ≤ k * 512))) ∧ w' = w := by
  have e1 : IntKind.i64.wrap (k * 512) = k * 512 := by rw [IntKind.wrap_i64]; omega
  go_enter Tryz.func178, Tryz.ntmps178
  go_wp2
  go_ret
  exact ⟨rfl, rfl⟩
end Go.Proofs.YtnccklbnncaeoaaGreat
/- Heaps, plain mathematics: places and keys; what down, up, Pop, Push and Init of container/heap keep. Rows as lists of blocks, and their swaps. -/
namespace Go.Proofs.YtnccklbnncaeoaaGreat

/-- Two places changed. -/
def sw {α : Type} (g : Nat → α) (i j : Nat) : Nat → α := fun k => if k = i then g j else if k = j then g i else g k
/-- From lo on, nobody is less than its parent. -/
def Hx (g : Nat → Nat) (lo n : Nat) : Prop := ∀ k, 0 < k → k < n → lo ≤ (k - 1) / 2 → g ((k - 1) / 2) ≤ g k
/-- The same but for the children of i. -/
def Hd (g : Nat → Nat) (lo n i : Nat) : Prop := lo ≤ i ∧ (∀ k, 0 < k → k < n → lo ≤ (k - 1) / 2 → (k - 1) / 2 ≠ i → g ((k - 1) / 2) ≤ g k) ∧ (∀ k, 0 < k → k < n → (k - 1) / 2 = i → 0 < i → lo ≤ (i - 1) / 2 → g ((i - 1) / 2) ≤ g k)
/-- The same but for j itself. -/
def Hu (g : Nat → Nat) (n j : Nat) : Prop := (∀ k, 0 < k → k < n → k ≠ j → g ((k - 1) / 2) ≤ g k) ∧ (∀ k, 0 < k → k < n → (k - 1) / 2 = j → 0 < j → g ((j - 1) / 2) ≤ g k)

theorem Hd.fin {g : Nat → Nat} {lo n i : Nat} (h : Hd g lo n i) (hc : ∀ k, 0 < k → k < n → (k - 1) / 2 = i → g i ≤ g k) : Hx g lo n := by
  intro k h0 hn hl
  by_cases e : (k - 1) / 2 = i
  · rw [e]; exact hc k h0 hn e
  · exact h.2.1 k h0 hn hl e

theorem Hd.step {g : Nat → Nat} {lo n i j : Nat} (h : Hd g lo n i) (hj : j = 2 * i + 1 ∨ j = 2 * i + 2) (hjn : j < n) (hlt : g j ≤ g i) (hc : ∀ k, 0 < k → k < n → (k - 1) / 2 = i → g j ≤ g k) : Hd (sw g i j) lo n j := by
  have hpj : (j - 1) / 2 = i := by omega
  refine ⟨by have := h.1; omega, fun k h0 hn hl hne => ?_, fun k h0 hn hp hj0 hl => ?_⟩
  · by_cases hpi : (k - 1) / 2 = i
    · unfold sw
      rw [if_pos hpi]
      by_cases hkj : k = j
      · rw [if_neg (by omega), if_pos hkj]; exact hlt
      · rw [if_neg (by omega), if_neg hkj]; exact hc k h0 hn hpi
    · have hkj : k ≠ j := fun e => hpi (by rw [e]; exact hpj)
      unfold sw
      rw [if_neg hpi, if_neg hne]
      by_cases hki : k = i
      · subst hki
        rw [if_pos rfl]
        exact h.2.2 j (by omega) hjn hpj h0 hl
      · rw [if_neg hki, if_neg hkj]
        exact h.2.1 k h0 hn hl hpi
  · have hl2 : lo ≤ (k - 1) / 2 := by have := h.1; omega
    have := h.2.1 k h0 hn hl2 (by omega)
    unfold sw
    rw [hpj, if_pos rfl, if_neg (by omega), if_neg (by omega), ← hp]
    exact this

theorem Hu.fin {g : Nat → Nat} {n j : Nat} (h : Hu g n j) (hc : j = 0 ∨ g ((j - 1) / 2) ≤ g j) : Hx g 0 n := by
  intro k h0 hn _
  by_cases e : k = j
  · subst e
    rcases hc with e | hc
    · omega
    · exact hc
  · exact h.1 k h0 hn e

theorem Hu.step {g : Nat → Nat} {n j : Nat} (h : Hu g n j) (h0 : 0 < j) (hjn : j < n) (hlt : g j ≤ g ((j - 1) / 2)) : Hu (sw g ((j - 1) / 2) j) n ((j - 1) / 2) := by
  refine ⟨fun k hk0 hn hne => ?_, fun k hk0 hn hp hp0 => ?_⟩
  · unfold sw
    rw [if_neg hne]
    by_cases hkj : k = j
    · rw [if_pos hkj, hkj, if_pos rfl]; exact hlt
    · rw [if_neg hkj]
      by_cases hpp : (k - 1) / 2 = (j - 1) / 2
      · rw [if_pos hpp]
        have := h.1 k hk0 hn hkj
        rw [hpp] at this
        omega
      · rw [if_neg hpp]
        by_cases hpj : (k - 1) / 2 = j
        · rw [if_pos hpj]
          exact h.2 k hk0 hn hpj h0
        · rw [if_neg hpj]
          exact h.1 k hk0 hn hkj
  · have hpp := h.1 ((j - 1) / 2) hp0 (by omega) (by omega)
    unfold sw
    rw [if_neg (by omega), if_neg (by omega), if_neg (by omega)]
    by_cases hkj : k = j
    · rw [if_pos hkj]; exact hpp
    · rw [if_neg hkj]
      have := h.1 k hk0 hn hkj
      rw [hp] at this
      omega

theorem Hu.of {g : Nat → Nat} {n : Nat} (h : Hx g 0 n) : Hu g (n + 1) n :=
  ⟨fun k h0 hn hne => h k h0 (by omega) (by omega), fun k h0 hn hp _ => by omega⟩
theorem Hd.pop {g : Nat → Nat} {n : Nat} (h : Hx g 0 (n + 1)) : Hd (sw g 0 n) 0 n 0 := by
  refine ⟨Nat.le_refl _, fun k h0 hn _ hne => ?_, fun k _ _ _ h0 _ => absurd h0 (by omega)⟩
  unfold sw
  rw [if_neg hne, if_neg (by omega), if_neg (by omega), if_neg (by omega)]
  exact h k h0 (by omega) (by omega)
theorem Hd.init {g : Nat → Nat} {n i : Nat} (h : Hx g (i + 1) n) : Hd g i n i :=
  ⟨Nat.le_refl _, fun k h0 hn hl hne => h k h0 hn (by omega), fun k _ _ _ h0 hl => by omega⟩
theorem Hx.last (g : Nat → Nat) {lo n : Nat} (h : n / 2 ≤ lo) : Hx g lo n := fun k h0 hn hl => by omega
theorem Hx.least {g : Nat → Nat} {n : Nat} (h : Hx g 0 n) : ∀ k, k < n → g 0 ≤ g k := by
  intro k
  induction k using Nat.strongRecOn with
  | ind k ih =>
    intro hk
    by_cases h0 : k = 0
    · rw [h0]; exact Nat.le_refl _
    · exact Nat.le_trans (ih ((k - 1) / 2) (by omega) (by omega)) (h k (by omega) hk (by omega))
theorem Hx.congr {g f : Nat → Nat} {lo n : Nat} (h : Hx g lo n) (e : ∀ k, k < n → f k = g k) : Hx f lo n := by
  intro k h0 hn hl
  rw [e k hn, e _ (by omega)]
  exact h k h0 hn hl
theorem Hd.congr {g f : Nat → Nat} {lo n i : Nat} (h : Hd g lo n i) (e : ∀ k, k < n → f k = g k) : Hd f lo n i :=
  ⟨h.1, fun k h0 hn hl hne => by rw [e k hn, e _ (by omega)]; exact h.2.1 k h0 hn hl hne, fun k h0 hn hp hi hl => by rw [e k hn, e _ (by omega)]; exact h.2.2 k h0 hn hp hi hl⟩

/-- A row with two places changed. -/
def lsw (L : List Nat) (i j : Nat) : List Nat := (L.set i (L.getD j 0)).set j (L.getD i 0)
theorem lsw_length (L : List Nat) (i j : Nat) : (lsw L i j).length = L.length := by simp [lsw]
theorem lsw_getD (L : List Nat) (i j : Nat) (hi : i < L.length) (hj : j < L.length) (k : Nat) : (lsw L i j).getD k 0 = sw (fun k => L.getD k 0) i j k := by
  unfold lsw sw
  simp only [List.getD, List.getElem?_set, List.length_set]
  by_cases h1 : j = k
  · subst h1
    simp [hj]
    by_cases h2 : j = i
    · subst h2; simp [hj]
    · simp [h2]
  · simp only [h1, if_false]
    by_cases h2 : i = k
    · subst h2; simp [hi]
    · simp [h2, Ne.symm h1, Ne.symm h2]
theorem lsw_perm (L : List Nat) (i j : Nat) (hi : i < L.length) (hj : j < L.length) : (lsw L i j).Perm L := by
  have h := List.set_set_perm (as := L) hi hj
  unfold lsw
  simpa [List.getD, hi, hj] using h
/-- The keys of a row's places. -/
def kf (c : Nat → Nat) (L : List Nat) : Nat → Nat := fun k => c (L.getD k 0)
theorem kf_lsw (c : Nat → Nat) (L : List Nat) (i j : Nat) (hi : i < L.length) (hj : j < L.length) : kf c (lsw L i j) = sw (kf c L) i j := by
  funext k
  unfold kf
  rw [lsw_getD L i j hi hj]
  unfold sw
  split
  · rfl
  · split <;> rfl
/-- What down and up leave: the same blocks, from n on in the same places. -/
structure Mv (n : Nat) (L L' : List Nat) : Prop where
  perm : L'.Perm L
  rest : ∀ k, n ≤ k → L'.getD k 0 = L.getD k 0
theorem Mv.refl (n : Nat) (L : List Nat) : Mv n L L := ⟨List.Perm.refl _, fun _ _ => rfl⟩
theorem Mv.len {n : Nat} {L L' : List Nat} (h : Mv n L L') : L'.length = L.length := h.perm.length_eq
theorem Mv.sw {n : Nat} {L L' : List Nat} (h : Mv n L L') {i j : Nat} (hi : i < n) (hj : j < n) (hn : n ≤ L.length) : Mv n L (lsw L' i j) := by
  have hl := h.len
  refine ⟨(lsw_perm L' i j (by omega) (by omega)).trans h.perm, fun k hk => ?_⟩
  rw [lsw_getD L' i j (by omega) (by omega), Go.Proofs.YtnccklbnncaeoaaGreat.sw, if_neg (by omega), if_neg (by omega)]
  exact h.rest k hk
theorem Mv.trans {n : Nat} {L M N : List Nat} (h : Mv n L M) (k : Mv n M N) : Mv n L N := ⟨k.perm.trans h.perm, fun i hi => (k.rest i hi).trans (h.rest i hi)⟩


theorem Hd.rem {g : Nat → Nat} {n i : Nat} (h : Hx g 0 (n + 1)) (hi : i < n) (hg : i = 0 ∨ g ((i - 1) / 2) ≤ g n) : Hd (sw g i n) 0 n i := by
  refine ⟨Nat.zero_le _, fun k h0 hn _ hne => ?_, fun k h0 hn hp hi0 _ => ?_⟩
  · unfold sw
    rw [if_neg hne, if_neg (by omega)]
    by_cases hk : k = i
    · rw [if_pos hk]
      rcases hg with e | hg
      · omega
      · rw [hk]; exact hg
    · rw [if_neg hk, if_neg (by omega)]
      exact h k h0 (by omega) (by omega)
  · unfold sw
    rw [if_neg (by omega), if_neg (by omega), if_neg (by omega), if_neg (by omega)]
    have h1 := h i hi0 (by omega) (by omega)
    have h2 := h k h0 (by omega) (by omega)
    rw [hp] at h2
    omega
theorem Hu.rem {g : Nat → Nat} {n i : Nat} (h : Hx g 0 (n + 1)) (hi : i < n) (h0 : 0 < i) (hg : g n < g ((i - 1) / 2)) : Hu (sw g i n) n i ∧ ∀ k, 0 < k → k < n → (k - 1) / 2 = i → sw g i n i ≤ sw g i n k := by
  have hpar := h i h0 (by omega) (by omega)
  have hch : ∀ k, 0 < k → k < n → (k - 1) / 2 = i → g ((i - 1) / 2) ≤ g k := fun k k0 kn kp => by
    have := h k k0 (by omega) (by omega)
    rw [kp] at this
    omega
  refine ⟨⟨fun k k0 kn kne => ?_, fun k k0 kn kp _ => ?_⟩, fun k k0 kn kp => ?_⟩
  · unfold sw
    rw [if_neg kne, if_neg (show ¬ k = n by omega)]
    by_cases e : (k - 1) / 2 = i
    · rw [if_pos e]
      have := hch k k0 kn e
      omega
    · rw [if_neg e, if_neg (by omega)]
      exact h k k0 (by omega) (by omega)
  · unfold sw
    rw [if_neg (by omega), if_neg (by omega), if_neg (by omega), if_neg (by omega)]
    exact hch k k0 kn kp
  · unfold sw
    rw [if_pos rfl, if_neg (by omega), if_neg (by omega)]
    have := hch k k0 kn kp
    omega
theorem Hu.ofx {g : Nat → Nat} {n i : Nat} (h : Hx g 0 n) (hi : i < n) : Hu g n i := by
  refine ⟨fun k h0 hn _ => h k h0 hn (by omega), fun k h0 hn hp hi0 => ?_⟩
  have h1 := h i hi0 hi (by omega)
  have h2 := h k h0 hn (by omega)
  rw [hp] at h2
  omega
/-- What is left when the last one is taken off. -/
theorem rem_parts {L L3 : List Nat} {n i : Nat} (hn : L.length = n + 1) (hi : i < n) (M3 : Mv n (lsw L i n) L3) : ∃ N, L3 = N ++ [L.getD i 0] ∧ N.length = n ∧ (L.getD i 0 :: N).Perm L := by
  have hl : L3.length = n + 1 := (M3.len.trans (lsw_length L i n)).trans hn
  have hne : L3 ≠ [] := fun e => by rw [e] at hl; simp at hl
  have hp : L3.Perm L := M3.perm.trans (lsw_perm L i n (by omega) (by omega))
  have hb : L3.getD n 0 = L.getD i 0 := by
    rw [M3.rest n (Nat.le_refl _), lsw_getD L i n (by omega) (by omega)]
    unfold sw
    rw [if_neg (by omega), if_pos rfl]
  have e1 := List.dropLast_concat_getLast hne
  have e2 : L3.getLast hne = L.getD i 0 := by
    rw [← hb, List.getLast_eq_getElem]
    simp [List.getD, hl]
  rw [e2] at e1
  refine ⟨L3.dropLast, e1.symm, by simp [hl], ?_⟩
  refine List.Perm.trans ?_ hp
  refine List.Perm.trans (List.perm_append_singleton _ _).symm ?_
  rw [e1]
theorem last_parts {L : List Nat} {n : Nat} (hn : L.length = n + 1) : ∃ N, L = N ++ [L.getD n 0] ∧ N.length = n ∧ (L.getD n 0 :: N).Perm L := by
  have hne : L ≠ [] := fun e => by rw [e] at hn; simp at hn
  have e1 := List.dropLast_concat_getLast hne
  have e2 : L.getLast hne = L.getD n 0 := by
    rw [List.getLast_eq_getElem]
    simp [List.getD, hn]
  rw [e2] at e1
  refine ⟨L.dropLast, e1.symm, by simp [hn], ?_⟩
  refine List.Perm.trans (List.perm_append_singleton _ _).symm ?_
  rw [e1]
theorem kf_front (c : Nat → Nat) (N : List Nat) (b k : Nat) (hk : k < N.length) : kf c N k = kf c (N ++ [b]) k := by
  simp [kf, List.getD, List.getElem?_append_left hk]
end Go.Proofs.YtnccklbnncaeoaaGreat
