import Derived.Test.YtnccklbnncaeoaaGreatJai
import Derived.Test.YtnccklbnncaeoaaGreatJan
/- A piece is written to a file. -/
namespace Go.Proofs.YtnccklbnncaeoaaGreat
open Go.RowKit

theorem cov_step {es es' : List (Int × Value × Nat)} {ps : List (Nat × List Int)} {p : Nat} {xs : List Int} (h : Cov es ps) (h1 : ∀ j, mget es j ≠ none → mget es' j ≠ none) (h2 : mget es' ((p / 512 : Nat) : Int) ≠ none) : Cov es' (ps ++ [(p, xs)]) := by
  intro q hq
  rcases List.mem_append.1 hq with h3 | h3
  · exact h1 _ (h q h3)
  · rw [List.mem_singleton.1 h3]; exact h2
theorem cov_put {es : List (Int × Value × Nat)} {k : Int} {v : Value} {c : Nat} {j : Int} (h : mget es j ≠ none) : mget (mput es k v c) j ≠ none := by
  rw [mget_put]; split
  · exact fun h => by cases h
  · exact h
theorem Tryz.info215 : (Tryz.prog.info? 215).map (fun i => (i.zero, i.size, i.bytes)) = some (some (.agg #[.int .i64 0, .slice none 0 0]), 2, 32) := by kernel_rfl
/-- append onto a row of one's own, as one step of a region that draws its order. -/
theorem step_append_own {P : Program} {ops : Array Oper} {o : Oper} {a : Act} {w : World} {K : Act → World → Prop} {Q : Exit → Act → World → Prop} {E : Prop} (hgd : o.guard = none) (s x : Operand) (t : TypeId)
    (ho : o.op = .call { callee := .builtin .append, args := #[s, x], argTypes := #[t, t] }) (base : Nat) (e : TypeId) (z : Value) (size bytes : Nat) (ht : P.underlying t = some (.slice e)) (hinfo : (P.info? e).map (fun i => (i.zero, i.size, i.bytes)) = some (some z, size, bytes)) (hzs : z.cells.size = size) (hsz : 0 < size)
    (v : Value) (n : Nat) (xs : List Value) (hs : a.eval s = v) (hown : w.ownsRow base e size v n xs)
    (ad : Addr) (m c : Nat) (news : List Value) (hx : a.eval x = .slice (some ad) m c) (hl : news.length = m * size) (hnews : ∀ j u, news[j]? = some u → w.cell? (ad.add j) = some u) (h1 : ∀ u ∈ news, u.oneCell' = true)
    (h63 : n + m ≤ maxLen) (hbytes : (n + m) * bytes ≤ 140737488355328) (hbase : base ≤ w.heap.size)
    (h : ∀ v' w', w'.ownsRow base e size v' (n + m) (xs ++ news) → w.grownBy w' v.ownBlock → (v' = .slice none 0 0 ↔ v = .slice none 0 0 ∧ m = 0) → (v'.ownBlock = v.ownBlock ∨ v'.ownBlock = some w.heap.size) → K (a.put o.dst v') w') :
    if Region.wanted o (yielded ops a.tmps) = true then Oper.wp P o a w K Q else E := by
  have hw : Region.wanted o (yielded ops a.tmps) = true := by simp [Region.wanted, hgd]
  rw [if_pos hw]
  obtain ⟨i0, hi, hz0, hz1, hz2⟩ := info_parts hinfo
  obtain ⟨v', w', hrun, r1, r2, r3, r4⟩ := run_append_own_at (P := P) w base t o.type e i0 z size bytes ht hi hz0 hz1 hz2 hzs hsz v n xs hown ad m c news hl hnews h1 h63 hbytes hbase
  unfold Oper.wp execOp
  simp only [ho, resolve, invoke, builtin, Sem.run_bind, Sem.run_pure, Result.andThen_ok, List.map_toArray, List.map_cons, List.map_nil, hs, hx, hrun]
  exact h v' w' r1 r2 r3 r4
theorem ownsRow_shape {w : World} {base n size : Nat} {e : TypeId} {v : Value} {xs : List Value} (h : w.ownsRow base e size v n xs) : ∃ ao c, v = .slice ao n c := by
  rcases h.2 with ⟨rfl, rfl⟩ | ⟨g, cap, cur, rfl, _⟩
  · exact ⟨_, _, rfl⟩
  · exact ⟨_, _, rfl⟩
set_option maxRecDepth 100000 in
set_option maxHeartbeats 2000000 in
theorem write_any (D : Nat → Prop) (a : Fa) (sz : Nat) (L : Nat → Int) (ps : List (Nat × List Int)) (p n cap : Nat) (ad : Addr) (xs : List Int) (w : World) (hf : Fr D w a sz L ps) (hS : Src .u8 w (some ad) xs) (hn : n = xs.length) (h1 : 1 ≤ n) (hr : p % 512 + n ≤ 512) (hb : p + n ≤ 268435456) (hnb : ps.length < 1000000000) :
    Calls Tryz.prog 150 #[.pointer (some ⟨a.fb, 0, none⟩), .int .i64 p, .slice (some ad) n cap] w fun e w' => e = .returned (.tuple #[]) ∧ ∃ a' : Fa, (a'.fb = a.fb ∧ a'.lm = a.lm ∧ a'.om = a.om) ∧ (∀ i, i ∈ a'.own → i ∈ a.own ∨ w.heap.size ≤ i) ∧
      Fr (fun i => D i ∨ (w.heap.size ≤ i ∧ i < w'.heap.size ∧ i ∉ a'.own)) w' a' (max sz (p + n)) L (ps ++ [(p, xs)]) ∧ Kp (fun i => i ∈ a.own) w w' := by
  have HF : Hid (Fr D w a sz L ps) := hf
  have HN : Hid (n = xs.length) := hn
  have HSR : Hid (Src .u8 w (some ad) xs) := hS
  have HLT : Hid (∀ i, i ∈ a.own → i < w.heap.size) := hf.lt
  obtain ⟨fb, lm, om, pv⟩ := a
  dsimp only at hf ⊢
  have hsb := hf.sb
  clear hf hn hS
  go_enter Tryz.func150, Tryz.ntmps150
  go_wp2_with (first | (go_at_call 77; refine (bclone_some xs ad n cap _ HN.out (by omega) h1 HSR.out).mono ?_; rintro e w1 ⟨g1, c1, rfl, hg1, bs1, b1⟩))
  have st2 := St.new 215 w1 #[.int .i64 p, .slice (some ⟨g1, 0, none⟩) n c1]
  have hz1 := b1.size
  have k12 : Kp (fun _ => False) w1 (w1.alloc (.cells #[.int .i64 p, .slice (some ⟨g1, 0, none⟩) n c1] 215)) := (Kp.refl _ _).alloc _
  have hz2 : w1.heap.size < (w1.alloc (.cells #[.int .i64 p, .slice (some ⟨g1, 0, none⟩) n c1] 215)).heap.size := by simp
  have bs2 := bs1.kp k12 (fun _ _ h => h)
  have k2 : Kp (fun _ => False) w (w1.alloc (.cells #[.int .i64 p, .slice (some ⟨g1, 0, none⟩) n c1] 215)) := (Kp.of_below b1).trans k12 (fun _ _ h => h)
  generalize w1.alloc (.cells #[.int .i64 p, .slice (some ⟨g1, 0, none⟩) n c1] 215) = W2 at st2 k12 hz2 bs2 k2 ⊢
  have F2 := HF.out.kp k2 (fun _ _ h => h) (fun _ _ h => h)
  have c3 : W2.cell? ⟨fb, 3, none⟩ = some pv := F2.st.cell 3
  have q0 : W2.cell? ⟨w1.heap.size, 0, none⟩ = some (.int .i64 p) := st2.cell 0
  have q1 : W2.cell? ⟨w1.heap.size, 1, none⟩ = some (.slice (some ⟨g1, 0, none⟩) n c1) := st2.cell 1
  have hfb : fb < w.heap.size := HLT.out fb (by rw [Fa.mem]; exact .inl rfl)
  obtain ⟨vs, hpr⟩ := F2.pc
  dsimp only at hpr
  obtain ⟨pao, pcp, hpv⟩ := ownsRow_shape hpr.row
  have HPR : Hid (Pr D W2 pv ps vs) := hpr
  have HF2 : Hid (Fr D W2 ⟨fb, lm, om, pv⟩ sz L ps) := F2
  have HST2 : Hid (St 215 W2 w1.heap.size #[.int .i64 p, .slice (some ⟨g1, 0, none⟩) n c1]) := st2
  have HBS2 : Hid (Bs (fun i => w.heap.size ≤ i) W2 (.slice (some ⟨g1, 0, none⟩) n c1) xs) := bs2
  have K2 : Hid (Kp (fun _ => False) w W2) := k2
  have hsz2 : w.heap.size ≤ W2.heap.size := k2.size
  clear st2 bs2 k2 k12 bs1 b1 F2 hpr
  subst hpv
  -- f.pieces = append(f.pieces, p)
  refine wp_region_G (fun w' => w'.cell? ⟨fb, 3, none⟩ = some (.slice pao ps.length pcp) ∧ w'.cell? ⟨w1.heap.size, 0, none⟩ = some (.int .i64 p) ∧ w'.cell? ⟨w1.heap.size, 1, none⟩ = some (.slice (some ⟨g1, 0, none⟩) n c1)) [7, 8, 9, 10] hmix ⟨c3, q0, q1⟩ (fun h0 => ?_)
  refine wpAnyG_takeW (i := 0) (v := .pointer (some ⟨fb, 0, none⟩)) rfl (by kernel_rfl) (fun _ _ _ h => h) (Or.inl ⟨by rfl, fun w _ => by go_simp⟩) ?_
  refine wpAnyG_take (i := 1) (v := .pointer (some ⟨fb, 0, none⟩)) rfl (by kernel_rfl) (fun _ _ _ h => h) (Or.inl ⟨by rfl, fun w hSw => by (try dsimp only at hSw); go_simp⟩) h0 ?_
  refine wpAnyG_take (i := 2) (v := .pointer (some ⟨fb, 0, none⟩)) rfl (by kernel_rfl) (fun _ _ _ h => h) (Or.inl ⟨by rfl, fun w hSw => by (try dsimp only at hSw); go_simp⟩) h0 ?_
  refine wpAnyG_take (i := 3) (v := .pointer (some ⟨fb, 3, none⟩)) rfl (by kernel_rfl) (fun _ _ _ h => h) (Or.inl ⟨by rfl, fun w hSw => by (try dsimp only at hSw); go_simp⟩) h0 ?_
  refine wpAnyG_take (i := 4) (v := .slice pao ps.length pcp) rfl (by kernel_rfl) (fun _ _ _ h => h) (Or.inl ⟨by rfl, fun w hSw => by (try dsimp only at hSw); go_simp⟩) h0 ?_
  refine wpAnyG_take (i := 5) (v := .agg #[.int .i64 p, .slice (some ⟨g1, 0, none⟩) n c1]) rfl (by kernel_rfl) (fun _ _ _ h => h) (Or.inl ⟨by rfl, fun w hSw => by (try dsimp only at hSw); go_simp⟩) h0 ?_
  refine wpAnyG_one (i := 6) (by kernel_rfl) rfl (fun K hK => ?_)
  go_simp
  have st3 : St 215 (W2.alloc (.cells #[.int .i64 p, .slice (some ⟨g1, 0, none⟩) n c1] 215)).drew W2.heap.size #[.int .i64 p, .slice (some ⟨g1, 0, none⟩) n c1] := St.new 215 W2 _
  have k3 : Kp (fun _ => False) W2 (W2.alloc (.cells #[.int .i64 p, .slice (some ⟨g1, 0, none⟩) n c1] 215)).drew := ((Kp.refl _ _).alloc _).drew
  have z3 : (W2.alloc (.cells #[.int .i64 p, .slice (some ⟨g1, 0, none⟩) n c1] 215)).drew.heap.size = W2.heap.size + 1 := World.size_alloc _ _
  generalize (W2.alloc (.cells #[.int .i64 p, .slice (some ⟨g1, 0, none⟩) n c1] 215)).drew = W3 at st3 k3 z3 ⊢
  refine hK.out _ _ (fun _ _ => ⟨kp_cell k3 c3 (fun h => h), kp_cell k3 q0 (fun h => h), kp_cell k3 q1 (fun h => h)⟩) ?_
  clear hK K h0
  refine wpAnyG_one (i := 7) (by kernel_rfl) rfl (fun K hK => ?_)
  have hpr3 := HPR.out.kp k3 (fun _ _ h => h) (fun _ _ h => h)
  have nb : ∀ b, (Value.slice pao ps.length pcp).ownBlock = some b → b < w.heap.size ∧ b ≠ fb ∧ b ≠ lm ∧ b ≠ om := fun b hb => ⟨HLT.out b (by rw [Fa.mem]; exact .inr (.inr (.inr hb))), HF2.out.fb_ne hb⟩
  refine step_append_own rfl (.tmp 16) (.tmp 18) 162 rfl 0 215 (.agg #[.int .i64 0, .slice none 0 0]) 2 32 Tryz.underlying162 Tryz.info215 rfl (by decide) (.slice pao ps.length pcp) ps.length (pcl ps vs) (by simp [Act.eval]) hpr3.row ⟨W2.heap.size, 0, none⟩ 1 1 [.int .i64 p, .slice (some ⟨g1, 0, none⟩) n c1] (by simp [Act.eval]) rfl (fun j u hj => ?_) (fun u hu => ?_) (by unfold maxLen; omega) (by omega) (Nat.zero_le _) ?_
  · rw [add_z, st3.cell]; simpa using hj
  · simp at hu; rcases hu with rfl | rfl <;> rfl
  intro v' w4 r4 g4 n4 l4
  have k4 : Kp (fun i => (Value.slice pao ps.length pcp).ownBlock = some i) W3 w4 := Kp.of_grown g4 (fun i e => e)
  have hz4 := k4.size
  obtain ⟨pa4, pc4, hv4⟩ := ownsRow_shape r4
  subst hv4
  refine hK.out _ _ (fun h => absurd h (by decide)) ?_
  clear hK K
  try simp only [Act.put, List.setIfInBounds_toArray]
  refine wpAnyG_takeW (i := 8) (v := .pointer (some ⟨fb, 0, none⟩)) rfl (by kernel_rfl) (fun _ _ _ h => h) (Or.inl ⟨by rfl, fun w _ => by go_simp⟩) ?_
  refine wpAnyG_takeW (i := 9) (v := .pointer (some ⟨fb, 3, none⟩)) rfl (by kernel_rfl) (fun _ _ _ h => h) (Or.inl ⟨by rfl, fun w _ => by go_simp⟩) ?_
  refine wpAnyG_one (i := 10) (by kernel_rfl) rfl (fun K hK => ?_)
  have st4 : St 164 w4 fb #[.int .i64 sz, .map (some lm), .map (some om), .slice pao ps.length pcp] := (HF2.out.st.kp k3 (fun h => h)).kp k4 (fun h => (nb _ h).2.1 rfl)
  have c34 : w4.cell? ⟨fb, 3, none⟩ = some (.slice pao ps.length pcp) := st4.cell 3
  have fz3 : w4.frozen? ⟨fb, 3, none⟩ = false := st4.frozen 3
  go_simp
  -- what there is now
  have st5 : St 164 (w4.setCell ⟨fb, 3, none⟩ (.slice pa4 (ps.length + 1) pc4)) fb #[.int .i64 sz, .map (some lm), .map (some om), .slice pa4 (ps.length + 1) pc4] := st4.set 3 _
  have k5 : Kp (fun i => i = fb) w4 (w4.setCell ⟨fb, 3, none⟩ (.slice pa4 (ps.length + 1) pc4)) := kp_setCell _ _ _ _ _ rfl
  generalize w4.setCell ⟨fb, 3, none⟩ (.slice pa4 (ps.length + 1) pc4) = W5 at st5 k5 ⊢
  refine hK.out _ _ (fun h => absurd h (by decide)) ?_
  clear hK K
  refine wpAnyG_done (by kernel_rfl) ?_ _
  have pr5 : Pr (fun i => D i ∨ (w.heap.size ≤ i ∧ (Value.slice pa4 (ps.length + 1) pc4).ownBlock ≠ some i)) W5 (.slice pa4 (ps.length + 1) pc4) (ps ++ [(p, xs)]) (vs ++ [.slice (some ⟨g1, 0, none⟩) n c1]) := by
    have hD : ∀ i, D i → ¬ (Value.slice pao ps.length pcp).ownBlock = some i := fun i hi h => HF2.out.nd i hi (by rw [Fa.mem]; exact .inr (.inr (.inr h)))
    have hD2 : ∀ i, D i → ¬ i = fb := fun i hi h => HF2.out.nd i hi (by rw [Fa.mem]; exact .inl h)
    refine ⟨by simp [HPR.out.len], fun i hi => ?_, ?_⟩
    · by_cases hlt : i < ps.length
      · have hb0 := (hpr3.bs i hlt).kp k4 hD
        have hb1 := hb0.kp k5 hD2
        have e1 : (vs ++ [Value.slice (some ⟨g1, 0, none⟩) n c1]).getD i undef = vs.getD i undef := by simp [List.getD, List.getElem?_append_left (show i < vs.length by rw [HPR.out.len]; exact hlt)]
        have e2 : (ps ++ [(p, xs)]).getD i (0, []) = ps.getD i (0, []) := by simp [List.getD, List.getElem?_append_left hlt]
        rw [e1, e2]
        exact hb1.mono (fun _ _ h => .inl h)
      · have hi2 : i = ps.length := by simp at hi; omega
        subst hi2
        have e1 : (vs ++ [Value.slice (some ⟨g1, 0, none⟩) n c1]).getD ps.length undef = .slice (some ⟨g1, 0, none⟩) n c1 := by rw [← HPR.out.len]; simp [List.getD]
        have e2 : (ps ++ [(p, xs)]).getD ps.length (0, []) = (p, xs) := by simp [List.getD]
        rw [e1, e2]
        have hb2 : Bs (fun i => w.heap.size ≤ i ∧ (Value.slice pa4 (ps.length + 1) pc4).ownBlock ≠ some i) W2 (.slice (some ⟨g1, 0, none⟩) n c1) xs := HBS2.out.mono (fun i hi h => ⟨h, fun e => by
          rcases l4 with h4 | h4
          · rw [h4] at e; have := (nb i e).1; omega
          · rw [h4] at e; cases e; omega⟩)
        have hb0 := (hb2.kp k3 (fun _ _ h => h)).kp k4 (fun i hi h => by have := (nb i h).1; omega)
        exact (hb0.kp k5 (fun i hi h => by omega)).mono (fun _ _ h => .inr h)
    · have hr5 : W5.ownsRow 0 215 2 (.slice pa4 (ps.length + 1) pc4) (ps.length + 1) (pcl ps vs ++ [.int .i64 p, .slice (some ⟨g1, 0, none⟩) n c1]) := by
        refine ⟨r4.1, ?_⟩
        rcases r4.2 with h | ⟨g, cap, cur, h1, h2, h3, h4⟩
        · exact .inl h
        · refine .inr ⟨g, cap, cur, h1, h2, ?_, h4⟩
          rw [k5.block g (Array.getElem?_eq_some_iff.1 h3).1 (fun e => ?_)]
          · exact h3
          · have := st4; unfold St at this; rw [← e, h3] at this; cases this
      rw [List.length_append, pcl_append _ _ _ _ HPR.out.len]
      exact hr5
  have HPR5 : Hid (Pr (fun i => D i ∨ (w.heap.size ≤ i ∧ (Value.slice pa4 (ps.length + 1) pc4).ownBlock ≠ some i)) W5 (.slice pa4 (ps.length + 1) pc4) (ps ++ [(p, xs)]) (vs ++ [.slice (some ⟨g1, 0, none⟩) n c1])) := pr5
  have HL4 : Hid (∀ b, (Value.slice pa4 (ps.length + 1) pc4).ownBlock = some b → (Value.slice pao ps.length pcp).ownBlock = some b ∨ w.heap.size ≤ b) := by
    intro b hb
    rcases l4 with h | h
    · exact .inl (h ▸ hb)
    · rw [h] at hb; cases hb; exact .inr (by omega)
  have K5 : Hid (Kp (fun i => i = fb ∨ (Value.slice pao ps.length pcp).ownBlock = some i) w W5) := (((K2.out.mono (G := fun i => i = fb ∨ (Value.slice pao ps.length pcp).ownBlock = some i) (fun _ _ h => h.elim)).trans k3 (fun _ _ h => h.elim)).trans k4 (fun _ _ h => .inr h)).trans k5 (fun _ _ h => .inl h)
  have HST5 : Hid (St 164 W5 fb #[.int .i64 sz, .map (some lm), .map (some om), .slice pa4 (ps.length + 1) pc4]) := st5
  have HQ5 : Hid (St 215 W5 w1.heap.size #[.int .i64 p, .slice (some ⟨g1, 0, none⟩) n c1]) := ((HST2.out.kp k3 (fun h => h)).kp k4 (fun h => by have := (nb _ h).1; omega)).kp k5 (by omega)
  have s5 : w.heap.size ≤ W5.heap.size := K5.out.size
  have c05 : W5.cell? ⟨fb, 0, none⟩ = some (.int .i64 sz) := st5.cell 0
  have q05 : W5.cell? ⟨w1.heap.size, 0, none⟩ = some (.int .i64 p) := HQ5.out.cell 0
  have q15 : W5.cell? ⟨w1.heap.size, 1, none⟩ = some (.slice (some ⟨g1, 0, none⟩) n c1) := HQ5.out.cell 1
  have NB : Hid (∀ b, (Value.slice pao ps.length pcp).ownBlock = some b → b < w.heap.size ∧ b ≠ fb ∧ b ≠ lm ∧ b ≠ om) := nb
  clear st3 k3 z3 hpr3 nb r4 g4 n4 l4 k4 hz4 st4 c34 fz3 st5 k5 pr5 c3 q0 q1
  obtain ⟨M, hM⟩ : ∃ M, M = max sz (p + n) := ⟨_, rfl⟩
  have HM : Hid (M = max sz (p + n)) := hM
  clear hM
  go_wp2_with fail
  -- f.size = max(f.size, p.end())
  refine wp_region_G (fun w' => w'.cell? ⟨fb, 0, none⟩ = some (.int .i64 sz) ∧ w'.cell? ⟨w1.heap.size, 0, none⟩ = some (.int .i64 p) ∧ w'.cell? ⟨w1.heap.size, 1, none⟩ = some (.slice (some ⟨g1, 0, none⟩) n c1)) [10] hmix ⟨c05, q05, q15⟩ (fun h0 => ?_)
  refine wpAnyG_takeW (i := 0) (v := .pointer (some ⟨fb, 0, none⟩)) rfl (by kernel_rfl) (fun _ _ _ h => h) (Or.inl ⟨by rfl, fun w _ => by go_simp⟩) ?_
  refine wpAnyG_takeW (i := 1) (v := .pointer (some ⟨fb, 0, none⟩)) rfl (by kernel_rfl) (fun _ _ _ h => h) (Or.inl ⟨by rfl, fun w _ => by go_simp⟩) ?_
  refine wpAnyG_takeW (i := 2) (v := .pointer (some ⟨fb, 0, none⟩)) rfl (by kernel_rfl) (fun _ _ _ h => h) (Or.inl ⟨by rfl, fun w _ => by go_simp⟩) ?_
  refine wpAnyG_takeW (i := 3) (v := .pointer (some ⟨fb, 0, none⟩)) rfl (by kernel_rfl) (fun _ _ _ h => h) (Or.inl ⟨by rfl, fun w _ => by go_simp⟩) ?_
  refine wpAnyG_take (i := 4) (v := .int .i64 sz) rfl (by kernel_rfl) (fun _ _ _ h => h) (Or.inl ⟨by rfl, fun w hSw => by (try dsimp only at hSw); go_simp⟩) h0 ?_
  refine wpAnyG_take (i := 5) (v := .agg #[.int .i64 p, .slice (some ⟨g1, 0, none⟩) n c1]) rfl (by kernel_rfl) (fun _ _ _ h => h) (Or.inl ⟨by rfl, fun w hSw => by (try dsimp only at hSw); go_simp⟩) h0 ?_
  refine wpAnyG_one (i := 6) (by kernel_rfl) rfl (fun K hK => ?_)
  go_simp
  refine (end_any p (some ⟨g1, 0, none⟩) n c1 _ (by omega) (by omega)).mono ?_
  rintro e w6 ⟨rfl, hw6⟩
  have k6 : Kp (fun _ => False) W5 w6 := by rw [hw6]; exact ((Kp.refl _ _).drew).alloc _
  clear hw6
  go_wp2_with fail
  refine hK.out _ _ (fun _ _ => ⟨kp_cell k6 c05 (fun h => h), kp_cell k6 q05 (fun h => h), kp_cell k6 q15 (fun h => h)⟩) ?_
  clear hK K
  have hMI : (if (sz : Int) < (p : Int) + (n : Int) then (p : Int) + (n : Int) else (sz : Int)) = (M : Int) := by rw [HM.out]; omega
  have hMI2 : (if (p : Int) + (n : Int) > (sz : Int) then (p : Int) + (n : Int) else (sz : Int)) = (M : Int) := by rw [HM.out]; omega
  refine wpAnyG_takeW (i := 7) (v := .int .i64 M) rfl (by kernel_rfl) (fun _ _ _ h => h) (Or.inl ⟨by rfl, fun w _ => by go_simp⟩) ?_
  refine wpAnyG_takeW (i := 8) (v := .pointer (some ⟨fb, 0, none⟩)) rfl (by kernel_rfl) (fun _ _ _ h => h) (Or.inl ⟨by rfl, fun w _ => by go_simp⟩) ?_
  refine wpAnyG_takeW (i := 9) (v := .pointer (some ⟨fb, 0, none⟩)) rfl (by kernel_rfl) (fun _ _ _ h => h) (Or.inl ⟨by rfl, fun w _ => by go_simp⟩) ?_
  refine wpAnyG_one (i := 10) (by kernel_rfl) rfl (fun K hK => ?_)
  have st6 : St 164 w6 fb #[.int .i64 sz, .map (some lm), .map (some om), .slice pa4 (ps.length + 1) pc4] := HST5.out.kp k6 (fun h => h)
  have c06 : w6.cell? ⟨fb, 0, none⟩ = some (.int .i64 sz) := st6.cell 0
  have fz0 : w6.frozen? ⟨fb, 0, none⟩ = false := st6.frozen 0
  go_simp
  have st7 : St 164 (w6.setCell ⟨fb, 0, none⟩ (.int .i64 M)) fb #[.int .i64 M, .map (some lm), .map (some om), .slice pa4 (ps.length + 1) pc4] := st6.set 0 _
  have k7 : Kp (fun i => i = fb) w6 (w6.setCell ⟨fb, 0, none⟩ (.int .i64 M)) := kp_setCell _ _ _ _ _ rfl
  generalize w6.setCell ⟨fb, 0, none⟩ (.int .i64 M) = W7 at st7 k7 ⊢
  refine hK.out _ _ (fun h => absurd h (by decide)) ?_
  clear hK K
  refine wpAnyG_done (by kernel_rfl) ?_ _
  have kk : Kp (fun i => i = fb) W5 W7 := (k6.mono (G := fun i => i = fb) (fun _ _ h => h.elim)).trans k7 (fun _ _ h => h)
  have K7 : Hid (Kp (fun i => i = fb ∨ (Value.slice pao ps.length pcp).ownBlock = some i) w W7) := K5.out.trans kk (fun _ _ h => .inl h)
  have nl := HF2.out.lm_ne
  have hne := HF2.out.ne
  dsimp only at nl hne
  have hlm : lm < w.heap.size := HLT.out lm (by rw [Fa.mem]; exact .inr (.inl rfl))
  have hom : om < w.heap.size := HLT.out om (by rw [Fa.mem]; exact .inr (.inr (.inl rfl)))
  have ND0 : ∀ i, D i → i ≠ fb ∧ i ≠ lm ∧ i ≠ om ∧ ¬ (Value.slice pao ps.length pcp).ownBlock = some i := fun i hi => by
    have := HF2.out.nd i hi
    rw [Fa.mem] at this
    exact ⟨fun h => this (.inl h), fun h => this (.inr (.inl h)), fun h => this (.inr (.inr (.inl h))), fun h => this (.inr (.inr (.inr h)))⟩
  obtain ⟨el, cl, hla⟩ := HF.out.la
  obtain ⟨eo, co, hov, hcv⟩ := HF.out.ov
  have HCV : Hid (Cov eo ps) := hcv
  clear hcv
  have HLA : Hid (Sm D W7 lm L zero el cl) := hla.kp K7.out (fun h => h.elim (fun h => nl.1 h) (fun h => (NB.out _ h).2.2.1 rfl)) (fun i hi h => h.elim (fun h => (ND0 i hi).1 h) (fun h => (ND0 i hi).2.2.2 h))
  have HOV : Hid (Sm D W7 om (ovs L ps) L eo co) := hov.kp K7.out (fun h => h.elim (fun h => nl.2 h) (fun h => (NB.out _ h).2.2.2 rfl)) (fun i hi h => h.elim (fun h => (ND0 i hi).1 h) (fun h => (ND0 i hi).2.2.2 h))
  have HST7 : Hid (St 164 W7 fb #[.int .i64 M, .map (some lm), .map (some om), .slice pa4 (ps.length + 1) pc4]) := st7
  have HQ7 : Hid (St 215 W7 w1.heap.size #[.int .i64 p, .slice (some ⟨g1, 0, none⟩) n c1]) := HQ5.out.kp kk (by omega)
  have nfb : (Value.slice pa4 (ps.length + 1) pc4).ownBlock ≠ some fb := fun h => by
    rcases HL4.out _ h with h | h
    · exact (NB.out _ h).2.1 rfl
    · omega
  have HPR7 : Hid (Pr (fun i => D i ∨ (w.heap.size ≤ i ∧ (Value.slice pa4 (ps.length + 1) pc4).ownBlock ≠ some i)) W7 (.slice pa4 (ps.length + 1) pc4) (ps ++ [(p, xs)]) (vs ++ [.slice (some ⟨g1, 0, none⟩) n c1])) := HPR5.out.kp kk (fun b hb h => nfb (h ▸ hb)) (fun i hi h => hi.elim (fun hi => (ND0 i hi).1 h) (fun hi => by have := hi.1; omega))
  have HBS7 : Hid (Bs (fun i => D i ∨ (w.heap.size ≤ i ∧ (Value.slice pa4 (ps.length + 1) pc4).ownBlock ≠ some i)) W7 (.slice (some ⟨g1, 0, none⟩) n c1) xs) := by
    have := HPR7.out.bs ps.length (by simp)
    have e1 : (vs ++ [Value.slice (some ⟨g1, 0, none⟩) n c1]).getD ps.length undef = .slice (some ⟨g1, 0, none⟩) n c1 := by rw [← HPR.out.len]; simp [List.getD]
    have e2 : (ps ++ [(p, xs)]).getD ps.length (0, []) = (p, xs) := by simp [List.getD]
    rw [e1, e2] at this
    exact this
  clear st6 st7 k6 k7 kk c06 fz0 hla hov c05 q05 q15 h0 hMI hMI2
  have t1 : W7.cell? ⟨fb, 1, none⟩ = some (.map (some lm)) := HST7.out.cell 1
  have t2 : W7.cell? ⟨fb, 2, none⟩ = some (.map (some om)) := HST7.out.cell 2
  obtain ⟨k, hkk⟩ : ∃ k, k = p / 512 := ⟨_, rfl⟩
  have HK : Hid (k = p / 512) := hkk
  have hk : (p : Int) / 512 = (k : Int) := by omega
  clear hkk
  have NDM : ¬ (D om ∨ (w.heap.size ≤ om ∧ (Value.slice pa4 (ps.length + 1) pc4).ownBlock ≠ some om)) := by
    rintro (h | h)
    · exact (ND0 _ h).2.2.1 rfl
    · have := h.1; omega
  cases hqo : mget eo (k : Int) with
  | some uo =>
    obtain ⟨go, oo, co', rfl, _⟩ := HOV.out.so k uo hqo
    have HQO : Hid (mget eo (k : Int) = some (.slice (some ⟨go, oo, none⟩) (sec (ovs L ps) k).length co')) := hqo
    rw [sec_len] at HQO
    clear hqo
    have he : ∀ w : World, (binOp .eql 47 (.slice (some ⟨go, oo, none⟩) 512 co') (.slice none 0 0)).run Tryz.prog w = .ok (.bool false) w := fun _ => rfl
    go_wp2_with (first | (at_lookup; refine wpList_lookup_mp rfl _ _ rfl (ky_int Tryz.underlying2) Tryz.underlying161 (.slice none 0 0) (Tryz.zeroValue47 _) om co eo rfl HOV.out.mp (k : Int) rfl (.slice (some ⟨go, oo, none⟩) 512 co') (by rw [HQO.out]; rfl) ?_))
    have HO8 : Hid (Sm (fun i => D i ∨ (w.heap.size ≤ i ∧ (Value.slice pa4 (ps.length + 1) pc4).ownBlock ≠ some i)) W7 om (ovs L ps) L eo co) := HOV.out.mono (fun _ _ h => .inl h)
    have HL8 : Hid (Sm (fun i => D i ∨ (w.heap.size ≤ i ∧ (Value.slice pa4 (ps.length + 1) pc4).ownBlock ≠ some i)) W7 lm L zero el cl) := HLA.out.mono (fun _ _ h => .inl h)
    have HST8 := HST7
    have HPR8 := HPR7
    have HBS8 := HBS7
    have K8 : Hid (Kp (fun i => i = fb ∨ i = om ∨ (Value.slice pao ps.length pcp).ownBlock = some i) w W7) := K7.out.mono (fun _ _ h => h.elim .inl (fun x => .inr (.inr x)))
    have q08 : W7.cell? ⟨w1.heap.size, 0, none⟩ = some (.int .i64 p) := HQ7.out.cell 0
    have q18 : W7.cell? ⟨w1.heap.size, 1, none⟩ = some (.slice (some ⟨g1, 0, none⟩) n c1) := HQ7.out.cell 1
    obtain ⟨W8, hW8⟩ : ∃ W8, W8 = W7 := ⟨_, rfl⟩
    rw [← hW8] at HO8 HL8 HST8 HPR8 HBS8 K8 t1 t2 q08 q18 ⊢
    clear hW8
    have hz8 : mget eo (k : Int) = none → sec (ovs L ps) k = sec zero k := fun h => by rw [HQO.out] at h; cases h
    refine wp_region_tail hmix (by kernel_rfl) ?_
    dsimp only [List.dropLast, List.getLast]
    repeat (gi_big_quiet_step (fail))
    refine wpQuietIn_nil ?_
    intro _ hw'
    obtain ⟨nq, hw2⟩ := hw'
    subst hw2
    have kq := drewN_kp (fun _ => False) W8 nq
    generalize W8.drewN nq = X8 at kq ⊢
    gi_wp2_with fail
    refine ⟨trivial, rfl, ?_⟩
    refine (callsIn_wide.2 ((HO8.out.kp kq (fun h => h) (fun _ _ h => h)).putp p xs (.slice (some ⟨g1, 0, none⟩) n c1) (by rw [← HN.out]; exact hr) (by rw [← HN.out]; exact h1) (by rw [← HN.out]; exact hb) (HBS8.out.kp kq (fun _ _ h => h)) NDM (by rw [← HK.out]; exact hz8))).mono ?_
    rintro e w9 ⟨rfl, es9, c9, sm9, k9, hm9, hp9⟩
    gi_wp2
    go_end0
    rw [← HM.out]
    exact ⟨rfl, write_fin D fb lm om _ _ sz M n p L ps xs _ w W8 X8 w9 _ _ es9 c9 HF.out HM.out HN.out h1 hr hb hnb HL4.out K8.out kq HL8.out HST8.out HPR8.out sm9 k9 (cov_step HCV.out hm9 hp9)⟩
  | none =>
    have HQO : Hid (mget eo (k : Int) = none) := hqo
    clear hqo
    cases hql : mget el (k : Int) with
    | none =>
      have HQL : Hid (mget el (k : Int) = none) := hql
      clear hql
      have he : ∀ w : World, (binOp .eql 47 (.slice none 0 0) (.slice none 0 0)).run Tryz.prog w = .ok (.bool true) w := fun _ => rfl
      have he2 : ∀ w : World, (binOp .neq 47 (.slice none 0 0) (.slice none 0 0)).run Tryz.prog w = .ok (.bool false) w := fun _ => rfl
      have hro : (Instr.lookup 161 (.map (some om)) (.int .i64 (k : Int)) false).run Tryz.prog W7 = .ok (.slice none 0 0) W7 := by have := run_lookup_mp (ky_int Tryz.underlying2) Tryz.underlying161 HOV.out.mp (Tryz.zeroValue47 _) (k : Int); rw [HQO.out] at this; exact this
      have hrl : (Instr.lookup 161 (.map (some lm)) (.int .i64 (k : Int)) false).run Tryz.prog W7 = .ok (.slice none 0 0) W7 := by have := run_lookup_mp (ky_int Tryz.underlying2) Tryz.underlying161 HLA.out.mp (Tryz.zeroValue47 _) (k : Int); rw [HQL.out] at this; exact this
      go_wp2_with fail
      have HO8 : Hid (Sm (fun i => D i ∨ (w.heap.size ≤ i ∧ (Value.slice pa4 (ps.length + 1) pc4).ownBlock ≠ some i)) W7 om (ovs L ps) L eo co) := HOV.out.mono (fun _ _ h => .inl h)
      have HL8 : Hid (Sm (fun i => D i ∨ (w.heap.size ≤ i ∧ (Value.slice pa4 (ps.length + 1) pc4).ownBlock ≠ some i)) W7 lm L zero el cl) := HLA.out.mono (fun _ _ h => .inl h)
      have HST8 := HST7
      have HPR8 := HPR7
      have HBS8 := HBS7
      have K8 : Hid (Kp (fun i => i = fb ∨ i = om ∨ (Value.slice pao ps.length pcp).ownBlock = some i) w W7) := K7.out.mono (fun _ _ h => h.elim .inl (fun x => .inr (.inr x)))
      have q08 : W7.cell? ⟨w1.heap.size, 0, none⟩ = some (.int .i64 p) := HQ7.out.cell 0
      have q18 : W7.cell? ⟨w1.heap.size, 1, none⟩ = some (.slice (some ⟨g1, 0, none⟩) n c1) := HQ7.out.cell 1
      obtain ⟨W8, hW8⟩ : ∃ W8, W8 = W7 := ⟨_, rfl⟩
      rw [← hW8] at HO8 HL8 HST8 HPR8 HBS8 K8 t1 t2 q08 q18 ⊢
      clear hW8
      have hz8 : mget eo (k : Int) = none → sec (ovs L ps) k = sec zero k := fun _ => by rw [HOV.out.no k HQO.out, HLA.out.no k HQL.out]
      refine wp_region_tail hmix (by kernel_rfl) ?_
      dsimp only [List.dropLast, List.getLast]
      repeat (gi_big_quiet_step (fail))
      refine wpQuietIn_nil ?_
      intro _ hw'
      obtain ⟨nq, hw2⟩ := hw'
      subst hw2
      have kq := drewN_kp (fun _ => False) W8 nq
      generalize W8.drewN nq = X8 at kq ⊢
      gi_wp2_with fail
      refine ⟨trivial, rfl, ?_⟩
      refine (callsIn_wide.2 ((HO8.out.kp kq (fun h => h) (fun _ _ h => h)).putp p xs (.slice (some ⟨g1, 0, none⟩) n c1) (by rw [← HN.out]; exact hr) (by rw [← HN.out]; exact h1) (by rw [← HN.out]; exact hb) (HBS8.out.kp kq (fun _ _ h => h)) NDM (by rw [← HK.out]; exact hz8))).mono ?_
      rintro e w9 ⟨rfl, es9, c9, sm9, k9, hm9, hp9⟩
      gi_wp2
      go_end0
      rw [← HM.out]
      exact ⟨rfl, write_fin D fb lm om _ _ sz M n p L ps xs _ w W8 X8 w9 _ _ es9 c9 HF.out HM.out HN.out h1 hr hb hnb HL4.out K8.out kq HL8.out HST8.out HPR8.out sm9 k9 (cov_step HCV.out hm9 hp9)⟩
    | some ul =>
      have hul := HLA.out.so k ul hql
      obtain ⟨gl, ol, cl', rfl, hul'⟩ := hul
      have HQL : Hid (mget el (k : Int) = some (.slice (some ⟨gl, ol, none⟩) (sec L k).length cl')) := hql
      rw [sec_len] at HQL
      have HUL : Hid (Bs D W7 (.slice (some ⟨gl, ol, none⟩) 512 cl') (sec L k)) := ⟨gl, ol, cl', by rw [sec_len], hul'⟩
      clear hql hul'
      have he : ∀ w : World, (binOp .eql 47 (.slice none 0 0) (.slice none 0 0)).run Tryz.prog w = .ok (.bool true) w := fun _ => rfl
      have he2 : ∀ w : World, (binOp .neq 47 (.slice (some ⟨gl, ol, none⟩) 512 cl') (.slice none 0 0)).run Tryz.prog w = .ok (.bool true) w := fun _ => rfl
      have hro : (Instr.lookup 161 (.map (some om)) (.int .i64 (k : Int)) false).run Tryz.prog W7 = .ok (.slice none 0 0) W7 := by have := run_lookup_mp (ky_int Tryz.underlying2) Tryz.underlying161 HOV.out.mp (Tryz.zeroValue47 _) (k : Int); rw [HQO.out] at this; exact this
      have hrl : (Instr.lookup 161 (.map (some lm)) (.int .i64 (k : Int)) false).run Tryz.prog W7 = .ok (.slice (some ⟨gl, ol, none⟩) 512 cl') W7 := by have := run_lookup_mp (ky_int Tryz.underlying2) Tryz.underlying161 HLA.out.mp (Tryz.zeroValue47 _) (k : Int); rw [HQL.out] at this; exact this
      go_wp2_with fail
      have hrl2 : ∀ nq, (Instr.lookup 161 (.map (some lm)) (.int .i64 (k : Int)) false).run Tryz.prog (W7.drewN nq) = .ok (.slice (some ⟨gl, ol, none⟩) 512 cl') (W7.drewN nq) := fun nq => by have := run_lookup_mp (ky_int Tryz.underlying2) Tryz.underlying161 (kp_mp HLA.out.mp (drewN_kp (fun _ => False) W7 nq) (fun h => h)) (Tryz.zeroValue47 _) (k : Int); rw [HQL.out] at this; exact this
      clear hro hrl
      refine wp_region_tail hmix (by kernel_rfl) ?_
      dsimp only [List.dropLast, List.getLast]
      repeat (gi_big_quiet_step (fail))
      refine wpQuietIn_nil ?_
      intro _ hw'
      obtain ⟨nq, hw2⟩ := hw'
      subst hw2
      clear hrl2
      have kq := drewN_kp (fun _ => False) W7 nq
      generalize W7.drewN nq = X7 at kq ⊢
      have HOX : Hid (Sm (fun i => D i ∨ (w.heap.size ≤ i ∧ (Value.slice pa4 (ps.length + 1) pc4).ownBlock ≠ some i)) X7 om (ovs L ps) L eo co) := (HOV.out.mono (fun _ _ h => .inl h)).kp kq (fun h => h) (fun _ _ h => h)
      gi_wp2_with (first | (gi_at_mapUpdate; refine wpListIn_update_mp rfl _ _ _ rfl (ky_int Tryz.underlying2) Tryz.underlying161 om co eo rfl HOX.out.mp (k : Int) rfl (.slice (some ⟨gl, ol, none⟩) 512 cl') rfl ?_; intro W8 m8 g8))
      have k78 : Kp (fun i => i = om) W7 W8 := (kq.mono (G := fun i => i = om) (fun _ _ h => h.elim)).trans (Kp.of_grown g8 (fun i e => by cases e; rfl)) (fun _ _ h => h)
      have kx8 : Kp (fun i => i = om) X7 W8 := Kp.of_grown g8 (fun i e => by cases e; rfl)
      have DMX : ∀ i, (D i ∨ (w.heap.size ≤ i ∧ (Value.slice pa4 (ps.length + 1) pc4).ownBlock ≠ some i)) → i ≠ om := fun i hi e => NDM (e ▸ hi)
      have pvom : (Value.slice pa4 (ps.length + 1) pc4).ownBlock ≠ some om := fun h => by
        rcases HL4.out _ h with h | h
        · exact (NB.out _ h).2.2.2 rfl
        · omega
      have HO8 : Hid (Sm (fun i => D i ∨ (w.heap.size ≤ i ∧ (Value.slice pa4 (ps.length + 1) pc4).ownBlock ≠ some i)) W8 om (ovs L ps) L (mput eo (k : Int) (.slice (some ⟨gl, ol, none⟩) 512 cl') co) (mclk eo (k : Int) co)) := HOX.out.lay m8 kx8 DMX (fun _ _ h => h) (by rw [HOV.out.no k HQO.out]; exact (HUL.out.mono (fun _ _ h => .inl h)).kp k78 DMX) (by have := HK.out; omega) (fun _ _ => rfl)
      have HL8 : Hid (Sm (fun i => D i ∨ (w.heap.size ≤ i ∧ (Value.slice pa4 (ps.length + 1) pc4).ownBlock ≠ some i)) W8 lm L zero el cl) := (HLA.out.mono (fun _ _ h => .inl h)).kp k78 hne DMX
      have HST8 : Hid (St 164 W8 fb #[.int .i64 M, .map (some lm), .map (some om), .slice pa4 (ps.length + 1) pc4]) := HST7.out.kp k78 (fun e => nl.2 e.symm)
      have HPR8 : Hid (Pr (fun i => D i ∨ (w.heap.size ≤ i ∧ (Value.slice pa4 (ps.length + 1) pc4).ownBlock ≠ some i)) W8 (.slice pa4 (ps.length + 1) pc4) (ps ++ [(p, xs)]) (vs ++ [.slice (some ⟨g1, 0, none⟩) n c1])) := HPR7.out.kp k78 (fun b hb e => pvom (e ▸ hb)) DMX
      have HBS8 : Hid (Bs (fun i => D i ∨ (w.heap.size ≤ i ∧ (Value.slice pa4 (ps.length + 1) pc4).ownBlock ≠ some i)) W8 (.slice (some ⟨g1, 0, none⟩) n c1) xs) := HBS7.out.kp k78 DMX
      have K8 : Hid (Kp (fun i => i = fb ∨ i = om ∨ (Value.slice pao ps.length pcp).ownBlock = some i) w W8) := (K7.out.mono (G := (fun i => i = fb ∨ i = om ∨ (Value.slice pao ps.length pcp).ownBlock = some i)) (fun _ _ h => h.elim .inl (fun x => .inr (.inr x)))).trans k78 (fun _ _ h => .inr (.inl h))
      have st8 := HQ7.out.kp k78 (by omega)
      have q08 : W8.cell? ⟨w1.heap.size, 0, none⟩ = some (.int .i64 p) := st8.cell 0
      have q18 : W8.cell? ⟨w1.heap.size, 1, none⟩ = some (.slice (some ⟨g1, 0, none⟩) n c1) := st8.cell 1
      have t28 : W8.cell? ⟨fb, 2, none⟩ = some (.map (some om)) := HST8.out.cell 2
      have hz8 : mget (mput eo (k : Int) (.slice (some ⟨gl, ol, none⟩) 512 cl') co) (k : Int) = none → sec (ovs L ps) k = sec zero k := fun h => by rw [mget_put, if_pos rfl] at h; cases h
      clear m8 g8 k78 kx8 st8 DMX
      go_frame
      refine wp_region_tail hmix (by kernel_rfl) ?_
      dsimp only [List.dropLast, List.getLast]
      repeat (gi_big_quiet_step (fail))
      refine wpQuietIn_nil ?_
      intro _ hw'
      obtain ⟨nq, hw2⟩ := hw'
      subst hw2
      have kq := drewN_kp (fun _ => False) W8 nq
      generalize W8.drewN nq = X8 at kq ⊢
      gi_wp2_with fail
      refine ⟨trivial, rfl, ?_⟩
      refine (callsIn_wide.2 ((HO8.out.kp kq (fun h => h) (fun _ _ h => h)).putp p xs (.slice (some ⟨g1, 0, none⟩) n c1) (by rw [← HN.out]; exact hr) (by rw [← HN.out]; exact h1) (by rw [← HN.out]; exact hb) (HBS8.out.kp kq (fun _ _ h => h)) NDM (by rw [← HK.out]; exact hz8))).mono ?_
      rintro e w9 ⟨rfl, es9, c9, sm9, k9, hm9, hp9⟩
      gi_wp2
      go_end0
      rw [← HM.out]
      exact ⟨rfl, write_fin D fb lm om _ _ sz M n p L ps xs _ w W8 X8 w9 _ _ es9 c9 HF.out HM.out HN.out h1 hr hb hnb HL4.out K8.out kq HL8.out HST8.out HPR8.out sm9 k9 (cov_step (fun q hq => cov_put (HCV.out q hq)) hm9 hp9)⟩
end Go.Proofs.YtnccklbnncaeoaaGreat
