/- What tokens tell: refused, told, Expand. -/
import Derived.Test.YtofmoggejfopiaaChk
import Derived.Test.YtofmoggejfopiaaEq
namespace Go.Proofs.Ytofmoggejfopiaa
open Go.RowKit

/-- All of the first k may be. -/
def okK (ts : List Tok) (k : Nat) : Prop := ∀ j, j < k → okT (ts.getD j zt) = true
theorem okK.succ {ts : List Tok} {k : Nat} (h : okK ts k) (h2 : okT (ts.getD k zt) = true) : okK ts (k + 1) := fun j hj => by
  by_cases e : j = k
  · rw [e]; exact h2
  · exact h j (by omega)
/-- What refused answers. -/
def refN (ts : List Tok) : Int := if ∀ t ∈ ts, okT t = true then (if 1048576 < ts.length then 3 else 0) else 2
theorem refN_bad {ts : List Tok} {k : Nat} (hk : k < ts.length) (h : okT (ts.getD k zt) = false) : refN ts = 2 := by
  unfold refN
  rw [if_neg]
  intro hh
  rw [getD_lt _ _ _ hk] at h
  have := hh _ (List.getElem_mem hk)
  rw [this] at h
  cases h
theorem refN_ok {ts : List Tok} (h : okK ts ts.length) : refN ts = if 1048576 < ts.length then 3 else 0 := by
  unfold refN
  rw [if_pos]
  intro t ht
  obtain ⟨i, hi, rfl⟩ := List.getElem_of_mem ht
  have := h i hi
  rwa [getD_lt _ _ _ hi] at this
set_option maxRecDepth 100000 in
set_option maxHeartbeats 2000000 in
theorem refused_any (ts : List Tok) (ao : Option Addr) (N cap : Nat) (w : World) (hNe : N = ts.length) (hN : N ≤ 100000000) (hS : TSrc w ao ts) :
    Calls Try.prog 38 #[.slice ao N cap] w fun e w' => e = .returned (.int .i64 (refN ts)) ∧ Below w.heap.size w w' := by
  have HNE : Hid (N = ts.length) := hNe
  have HS : Hid (TSrc w ao ts) := hS
  clear hNe hS
  go_enter Try.func38, Try.ntmps38
  go_wp2_with fail
  go_loopw [4, 5, 8] (fun _ _ u8 wr => ∃ k : Nat, k ≤ N ∧ u8 = .int .i64 (k : Int) ∧ okK ts k ∧ Below w.heap.size w wr) (fun _ _ u8 _ => N - (intOf u8).toNat)
  case atStart => exact ⟨0, Nat.zero_le _, rfl, fun j hj => absurd hj (by omega), Below.refl _ _⟩
  case round =>
    obtain ⟨k, hk, rfl, hok, hb⟩ := hrel
    have HOK : Hid (okK ts k) := hok
    have HBL : Hid (Below w.heap.size w wr) := hb
    clear hok hb
    by_cases hlt : k < N
    · obtain ⟨gb, off, rfl, hcs⟩ := (HS.out.below HBL.out) (by have := HNE.out; omega)
      obtain ⟨x0, x1, x2⟩ := hcs k (by have := HNE.out; omega)
      obtain ⟨⟨y, l, d⟩, ht⟩ : ∃ t, t = ts.getD k zt := ⟨_, rfl⟩
      rw [← ht] at x0 x1 x2
      dsimp only at x0 x1 x2
      have HT : Hid ((y, l, d) = ts.getD k zt) := ht
      clear hcs ht
      go_wp2_with fail
      refine (check_any y l d _).mono ?_
      rintro e w1 ⟨rfl, b1⟩
      have hb1 : Below w.heap.size w w1 := (HBL.out.alloc HBL.out.size (.cells #[.int .u8 y, .int .i64 l, .int .i64 d] 25)).trans (b1.mono (by have := HBL.out.size; simp; omega))
      have HB1 : Hid (Below w.heap.size w w1) := hb1
      clear b1 hb1
      by_cases hc : okT (y, l, d) = true
      · have hc2 : chkN (y, l, d) = 0 := by unfold chkN; rw [if_pos hc]
        rw [hc2]
        clear hc2
        go_wp2
        exact ⟨⟨k + 1, hlt, by simp, HOK.out.succ (by rw [← HT.out]; exact hc), HB1.out⟩, by simp [intOf]; omega⟩
      · have hc2 : chkN (y, l, d) = 2 := by unfold chkN; rw [if_neg hc]
        rw [hc2]
        clear hc2
        go_wp2
        go_ret
        exact ⟨ret_int (refN_bad (k := k) (by have := HNE.out; omega) (by rw [← HT.out]; simpa using hc)).symm, HB1.out⟩
    · obtain rfl : k = N := by omega
      have hr := refN_ok (by rw [← HNE.out]; exact HOK.out)
      rw [← HNE.out] at hr
      by_cases hbig : 1048576 < k
      · rw [if_pos hbig] at hr
        have HR : Hid (refN ts = 3) := hr
        have hb2 : (1048576 : Int) < (k : Int) := by omega
        clear hr
        go_wp2
        go_ret
        exact ⟨ret_int HR.out.symm, HBL.out⟩
      · rw [if_neg hbig] at hr
        have HR : Hid (refN ts = 0) := hr
        have hb2 : ¬ (1048576 : Int) < (k : Int) := by omega
        clear hr
        go_wp2
        go_ret
        exact ⟨ret_int HR.out.symm, HBL.out⟩

/-- n bytes more, each the one that stands d ahead. -/
def rep (xs : List Int) (d : Nat) : Nat → List Int
  | 0 => xs
  | n + 1 => rep xs d n ++ [(rep xs d n).getD ((rep xs d n).length - d) 0]
theorem rep_len (xs : List Int) (d n : Nat) : (rep xs d n).length = xs.length + n := by
  induction n with
  | zero => rfl
  | succ n ih => simp only [rep, List.length_append, ih, List.length_cons, List.length_nil]; omega
/-- What a token tells behind bytes. -/
def tell (b : List Int) (t : Tok) : List Int := if t.2.1 = 0 then b ++ [t.1] else rep b t.2.2.toNat t.2.1.toNat
theorem Try.info5 : (Try.prog.info? 5).map (fun i => (i.zero, i.size, i.bytes)) = some (some (.int .u8 0), 1, 1) := by kernel_rfl
theorem one_src (W : World) (x : Int) : Src .u8 (W.alloc (.cells #[.int .u8 x] 5)) (some ⟨W.heap.size, 0, none⟩) [x] := by
  refine Src.mk fun i hi => ?_
  have hi0 : i = 0 := by simp at hi; omega
  subst hi0
  exact (St.new 5 W #[.int .u8 x]).cell 0
set_option maxRecDepth 100000 in
set_option maxHeartbeats 2000000 in
theorem told_byte (v : Value) (xs : List Int) (base : Nat) (y d : Int) (w : World) (hx : xs.length ≤ 10000000000) (hown : OwnI .u8 5 w base v xs) (hbase : base ≤ w.heap.size) :
    Calls Try.prog 40 #[v, .agg #[.int .u8 y, .int .i64 0, .int .i64 d]] w fun e w' => ∃ v', e = .returned v' ∧ OwnI .u8 5 w' base v' (xs ++ [y]) ∧ Kp (fun i => v.ownBlock = some i) w w' ∧ ∀ b, v'.ownBlock = some b → v.ownBlock = some b ∨ w.heap.size ≤ b := by
  have HO : Hid (OwnI .u8 5 w base v xs) := hown
  clear hown
  go_enter Try.func40, Try.ntmps40
  go_wp2_with (first | (at_builtin; refine wpList_append_i (κ := .u8) 22 5 1 Try.underlying22 Try.info5 (by decide) rfl (.tmp 8) (.tmp 11) rfl base v xs rfl (HO.out.kp (((Kp.refl (fun _ => False) w).alloc (.cells #[.int .u8 y, .int .i64 0, .int .i64 d] 25)).alloc (.cells #[.int .u8 y] 5)) (fun _ _ x => x)) (some ⟨w.heap.size + 1, 0, none⟩) 1 1 [y] rfl rfl (fun e => by cases e) (by have := one_src (w.alloc (.cells #[.int .u8 y, .int .i64 0, .int .i64 d] 25)) y; rw [World.size_alloc] at this; exact this) (by simp; omega) (by simp; omega) ?_; intro v' w1 h1 h2 h3 h4))
  go_ret
  exact ⟨v', rfl, h1, (((Kp.refl _ w).alloc _).alloc _).trans (Kp.of_grown h2 (F := fun i => v.ownBlock = some i) (fun i e => e)) (fun _ _ e => e), fun b e => (h3 b e).imp id (fun h => by simp at h; omega)⟩
theorem rep_read {κ : IntKind} {ε : TypeId} {w : World} {base : Nat} {v : Value} {xs : List Int} (h : OwnI κ ε w base v xs) {n : Nat} (hn : n < xs.length) : ∃ g cap, v = .slice (some ⟨g, 0, none⟩) xs.length cap ∧ xs.length ≤ cap ∧ w.cell? ⟨g, n, none⟩ = some (.int κ (xs.getD n 0)) := by
  rcases h with ⟨_, rfl⟩ | ⟨g, cap, tl, rfl, _, hr, hc, _⟩
  · simp at hn
  · refine ⟨g, cap, rfl, by rw [← hc]; simp, ?_⟩
    rw [hr.cell n (by simp; omega)]
    simp [List.getD, List.getElem?_append_left hn]
set_option maxRecDepth 100000 in
set_option maxHeartbeats 2000000 in
theorem told_match (v : Value) (xs : List Int) (base : Nat) (y : Int) (l d : Nat) (w : World) (hx : xs.length ≤ 10000000000) (hown : OwnI .u8 5 w base v xs) (hbase : base ≤ w.heap.size) (hl : 0 < l) (hl2 : l ≤ 258) (hd : 1 ≤ d) (hd2 : d ≤ xs.length) :
    Calls Try.prog 40 #[v, .agg #[.int .u8 y, .int .i64 (l : Int), .int .i64 (d : Int)]] w fun e w' => ∃ v', e = .returned v' ∧ OwnI .u8 5 w' base v' (rep xs d l) ∧ Kp (fun i => v.ownBlock = some i) w w' ∧ ∀ b, v'.ownBlock = some b → v.ownBlock = some b ∨ w.heap.size ≤ b := by
  have HO : Hid (OwnI .u8 5 (w.alloc (.cells #[.int .u8 y, .int .i64 (l : Int), .int .i64 (d : Int)] 25)) base v xs) := hown.kp ((Kp.refl (fun _ => False) w).alloc _) (fun _ _ x => x)
  have hl1 : ((l : Int) == 0) = false := beq_eq_false_iff_ne.2 (by omega)
  have hst := St.new 25 w #[.int .u8 y, .int .i64 (l : Int), .int .i64 (d : Int)]
  have hlt : ∀ b, v.ownBlock = some b → b < w.heap.size := fun b e => (hown.lt b e).2
  have HLT : Hid (∀ b, v.ownBlock = some b → b < w.heap.size) := hlt
  have HST : Hid (St 25 (w.alloc (.cells #[.int .u8 y, .int .i64 (l : Int), .int .i64 (d : Int)] 25)) w.heap.size #[.int .u8 y, .int .i64 (l : Int), .int .i64 (d : Int)]) := hst
  have HK0 : Hid (Kp (fun i => v.ownBlock = some i) w (w.alloc (.cells #[.int .u8 y, .int .i64 (l : Int), .int .i64 (d : Int)] 25))) := (Kp.refl _ _).alloc _
  clear hown hst hlt
  go_enter Try.func40, Try.ntmps40
  go_wp2_with fail
  generalize w.alloc (.cells #[.int .u8 y, .int .i64 (l : Int), .int .i64 (d : Int)] 25) = W1 at HO HST HK0 ⊢
  go_loopw [0, 15] (fun u0 u15 wr => ∃ k : Nat, k ≤ l ∧ u15 = .int .i64 (k : Int) ∧ OwnI .u8 5 wr base u0 (rep xs d k) ∧ St 25 wr w.heap.size #[.int .u8 y, .int .i64 (l : Int), .int .i64 (d : Int)] ∧ Kp (fun i => v.ownBlock = some i) w wr ∧ ∀ b, u0.ownBlock = some b → v.ownBlock = some b ∨ w.heap.size < b) (fun _ u15 _ => l - (intOf u15).toNat)
  case atStart => exact ⟨0, Nat.zero_le _, rfl, HO.out, HST.out, HK0.out, fun b e => .inl e⟩
  case round =>
    clear HO HST HK0
    obtain ⟨k, hk, rfl, ho, hst, hkp, hbl⟩ := hrel
    have HO : Hid (OwnI .u8 5 wr base u0 (rep xs d k)) := ho
    have HST : Hid (St 25 wr w.heap.size #[.int .u8 y, .int .i64 (l : Int), .int .i64 (d : Int)]) := hst
    have HKP : Hid (Kp (fun i => v.ownBlock = some i) w wr) := hkp
    have HBL : Hid (∀ b, u0.ownBlock = some b → v.ownBlock = some b ∨ w.heap.size < b) := hbl
    have x2 : wr.cell? ⟨w.heap.size, 2, none⟩ = some (.int .i64 (d : Int)) := hst.cell 2
    have x1 : wr.cell? ⟨w.heap.size, 1, none⟩ = some (.int .i64 (l : Int)) := hst.cell 1
    clear ho hst hkp hbl
    by_cases hlt : k < l
    · have hlen := rep_len xs d k
      obtain ⟨n, hn⟩ : ∃ n, n = xs.length + k := ⟨_, rfl⟩
      obtain ⟨q, hq⟩ : ∃ q, q = n - d := ⟨_, rfl⟩
      obtain ⟨g, cap, hu, hcp, hcell⟩ := rep_read HO.out (n := q) (by rw [hlen]; omega)
      subst hu
      obtain ⟨z, hz⟩ : ∃ z, z = (rep xs d k).getD q 0 := ⟨_, rfl⟩
      rw [← hz] at hcell
      have HZ : Hid (rep xs d (k + 1) = rep xs d k ++ [z]) := by show _ = _; rw [hz, hq, hn, ← hlen]; rfl
      have e1 : IntKind.i64.wrap ((n : Int) - (d : Int)) = (q : Int) := by rw [IntKind.wrap_i64]; omega
      have hqn : q < n := by omega
      have hnb : n ≤ 20000000000 := by omega
      rw [hlen, ← hn]
      have HLEN : Hid ((rep xs d k).length = n) := by rw [hn]; exact hlen
      rw [hlen, ← hn] at HO HBL
      clear hlen hz hcp hq hn
      go_wp2_with (first | (at_builtin; refine wpList_append_i (κ := .u8) 22 5 1 Try.underlying22 Try.info5 (by decide) rfl (.tmp 17) (.tmp 26) rfl base (.slice (some ⟨g, 0, none⟩) n cap) (rep xs d k) rfl (HO.out.kp ((Kp.refl (fun _ => False) wr).alloc (.cells #[.int .u8 z] 5)) (fun _ _ x => x)) (some ⟨wr.heap.size, 0, none⟩) 1 1 [z] rfl rfl (fun e => by cases e) (one_src wr z) (by rw [HLEN.out]; simp; omega) (by have := HKP.out.size; simp; omega) ?_; intro v' w1 h1 h2 h3 h4))
      have k2 : Kp (fun i => i = g) wr w1 := ((Kp.refl _ wr).alloc _).trans (Kp.of_grown h2 (F := fun i => i = g) (fun i e => by simp [Value.ownBlock] at e; exact e.symm)) (fun _ _ e => e)
      have hg := HBL.out g (by simp [Value.ownBlock])
      have hgw : g ≠ w.heap.size := fun e => hg.elim (fun h => absurd (HLT.out g h) (by omega)) (fun h => by omega)
      rw [← HZ.out] at h1
      exact ⟨⟨k + 1, hlt, by simp, h1, HST.out.kp k2 hgw.symm, HKP.out.trans k2 (fun i hi e => by subst e; exact hg.elim id (fun h => by omega)), fun b e => (h3 b e).elim (fun h => HBL.out b h) (fun h => .inr (by have := HST.out.lt; simp at h; omega))⟩, by simp [intOf]; omega⟩
    · obtain rfl : k = l := by omega
      go_wp2
      go_ret
      exact ⟨u0, rfl, HO.out, HKP.out, fun b e => (HBL.out b e).imp id (fun h => by omega)⟩
/-- What the first k tokens tell, or the number of the first one that is refused, and why. -/
def stp (most : Int) (ts : List Tok) : Nat → Except (Nat × Int) (List Int)
  | 0 => .ok []
  | k + 1 => match stp most ts k with
    | .error e => .error e
    | .ok b => if (b.length : Int) < (ts.getD k zt).2.2 then .error (k, 140) else if most - (b.length : Int) < max 1 (ts.getD k zt).2.1 then .error (k, 141) else .ok (tell b (ts.getD k zt))
theorem stp_err {most : Int} {ts : List Tok} {k n : Nat} {e : Nat × Int} (h : stp most ts k = .error e) (hn : k ≤ n) : stp most ts n = .error e := by
  induction n with
  | zero => rw [show k = 0 by omega] at h; exact h
  | succ n ih =>
    by_cases hk : k = n + 1
    · rw [← hk]; exact h
    · unfold stp; rw [ih (by omega)]
theorem tell_len (b : List Int) (t : Tok) (h : okT t = true) : (tell b t).length ≤ b.length + 258 := by
  unfold tell
  split
  · simp
  · rw [rep_len]
    simp [okT] at h
    omega
theorem stp_len {most : Int} {ts : List Tok} {k : Nat} {b : List Int} (h : stp most ts k = .ok b) (hk : okK ts k) : b.length ≤ 258 * k := by
  induction k generalizing b with
  | zero => cases h; simp
  | succ k ih =>
    unfold stp at h
    cases hs : stp most ts k with
    | error e => rw [hs] at h; cases h
    | ok c =>
      rw [hs] at h
      dsimp only at h
      split at h
      · cases h
      · split at h
        · cases h
        · cases h
          have := ih hs (fun j hj => hk j (by omega))
          have := tell_len c (ts.getD k zt) (hk k (by omega))
          omega
/-- What Expand answers of tokens that may be. -/
def xpR (most : Int) (ts : List Tok) : List Int × Int × Int := match stp most ts ts.length with
  | .ok b => (b, (ts.length : Int), 0)
  | .error (k, c) => ([], (k : Int), c)
theorem TSrc.kp {F : Nat → Prop} {w w' : World} {ao : Option Addr} {ts : List Tok} (h : TSrc w ao ts) (k : Kp F w w') (hf : ∀ b off, ao = some ⟨b, off, none⟩ → ¬ F b) : TSrc w' ao ts := by
  intro hp
  obtain ⟨b, off, e, hc⟩ := h hp
  refine ⟨b, off, e, fun i hi => ?_⟩
  obtain ⟨h0, h1, h2⟩ := hc i hi
  have hb := k.block b (block_lt_of_cell h0) (hf b off e)
  refine ⟨?_, ?_, ?_⟩
  · rw [← h0]; unfold World.cell?; simp only [hb]
  · rw [← h1]; unfold World.cell?; simp only [hb]
  · rw [← h2]; unfold World.cell?; simp only [hb]
set_option maxRecDepth 100000 in
set_option maxHeartbeats 1500000 in
theorem expand_ok (ts : List Tok) (ao : Option Addr) (N cap : Nat) (most : Int) (w : World) (hNe : N = ts.length) (hN : N ≤ 1048576) (hm : 0 ≤ most) (hm2 : most ≤ 9223372036854775807) (hS : TSrc w ao ts) (hok : okK ts N) :
    Calls Try.prog 18 #[.int .i64 most, .slice ao N cap] w fun e w' => ∃ v, e = .returned (.tuple #[v, .int .i64 (xpR most ts).2.1, .int .i64 (xpR most ts).2.2]) ∧ OwnI .u8 5 w' w.heap.size v (xpR most ts).1 ∧ Below w.heap.size w w' := by
  have HNE : Hid (N = ts.length) := hNe
  have HS : Hid (TSrc w ao ts) := hS
  have HOK : Hid (okK ts N) := hok
  have hr : refN ts = 0 := by rw [refN_ok (by rw [← hNe]; exact hok), if_neg (by omega)]
  have HR : Hid (refN ts = 0) := hr
  clear hS hok hr hNe
  have hm1 : ¬ most < 0 := by omega
  go_enter Try.func18, Try.ntmps18
  go_wp2_with fail
  refine (refused_any ts ao N cap w HNE.out (by omega) HS.out).mono ?_
  rintro e w1 ⟨rfl, b1⟩
  rw [HR.out]
  have HB1 : Hid (Below w.heap.size w w1) := b1
  clear b1
  go_wp2_with fail
  go_loopw [8, 9, 10, 20] (fun u8 _ _ u20 wr => ∃ (k : Nat) (b : List Int), k ≤ N ∧ u20 = .int .i64 (k : Int) ∧ stp most ts k = .ok b ∧ OwnI .u8 5 wr w.heap.size u8 b ∧ Below w.heap.size w wr) (fun _ _ _ u20 _ => N - (intOf u20).toNat)
  case atStart => exact ⟨0, [], Nat.zero_le _, rfl, rfl, OwnI.nil _ _ _ _, HB1.out⟩
  case round =>
    clear HB1
    obtain ⟨k, b, hk, rfl, hs, ho, hb⟩ := hrel
    have HSP : Hid (stp most ts k = .ok b) := hs
    have HO : Hid (OwnI .u8 5 wr w.heap.size u8 b) := ho
    have HBL : Hid (Below w.heap.size w wr) := hb
    clear hs ho hb
    by_cases hlt : k < N
    · obtain ⟨gb, off, hao, hcs⟩ := (HS.out.below HBL.out) (by have := HNE.out; omega)
      subst hao
      obtain ⟨x0, x1, x2⟩ := hcs k (by have := HNE.out; omega)
      obtain ⟨⟨y, l, d⟩, ht⟩ : ∃ t, t = ts.getD k zt := ⟨_, rfl⟩
      rw [← ht] at x0 x1 x2
      dsimp only at x0 x1 x2
      have HT : Hid (ts.getD k zt = (y, l, d)) := ht.symm
      have hkt := HOK.out k hlt
      rw [HT.out] at hkt
      have hbl := stp_len HSP.out (fun j hj => HOK.out j (by omega))
      have hbl2 : b.length ≤ 300000000 := by omega
      have hsl : ∃ ab cb, u8 = .slice ab b.length cb := by
        rcases HO.out with ⟨rfl, rfl⟩ | ⟨g, cap, tl, rfl, _⟩
        · exact ⟨none, 0, rfl⟩
        · exact ⟨_, _, rfl⟩
      obtain ⟨ab, cb, hu8⟩ := hsl
      subst hu8
      clear hcs ht hbl
      by_cases hfar : (b.length : Int) < d
      · have HE : Hid (stp most ts N = .error (k, 140)) := stp_err (k := k + 1) (by unfold stp; rw [HSP.out, HT.out]; dsimp only; rw [if_pos hfar]) (by omega)
        go_wp2
        go_ret3
        have hx : xpR most ts = ([], (k : Int), 140) := by unfold xpR; rw [← HNE.out, HE.out]
        rw [hx]
        exact ⟨.slice none 0 0, rfl, OwnI.nil _ _ _ _, HBL.out.alloc HBL.out.size _⟩
      · have hfar2 : d ≤ (b.length : Int) := by omega
        have hkt2 : (l = 0 ∧ d = 0) ∨ (y = 0 ∧ (3 ≤ l ∧ l ≤ 258) ∧ (1 ≤ d ∧ d ≤ 32768)) := by simpa [okT] using hkt
        have hl0 : 0 ≤ l := by omega
        have hl258 : l ≤ 258 := by omega
        have e1 : IntKind.i64.wrap (most - (b.length : Int)) = most - (b.length : Int) := by rw [IntKind.wrap_i64]; omega
        have HKT : Hid ((l = 0 ∧ d = 0) ∨ (y = 0 ∧ (3 ≤ l ∧ l ≤ 258) ∧ (1 ≤ d ∧ d ≤ 32768))) := hkt2
        clear hkt hkt2
        go_wp2_with fail
        refine (size_any y l d _).mono ?_
        rintro e w2 ⟨rfl, b2⟩
        have hba : Below wr.heap.size wr (wr.alloc (.cells #[.int .u8 y, .int .i64 l, .int .i64 d] 25)) := (Below.refl _ _).alloc (Nat.le_refl _) _
        have st2 : St 25 w2 wr.heap.size #[.int .u8 y, .int .i64 l, .int .i64 d] := (St.new 25 wr _).below b2 (by simp)
        have hb2 : Below wr.heap.size wr w2 := hba.trans (b2.mono (by simp))
        have z0 : w2.cell? ⟨wr.heap.size, 0, none⟩ = some (.int .u8 y) := st2.cell 0
        have z1 : w2.cell? ⟨wr.heap.size, 1, none⟩ = some (.int .i64 l) := st2.cell 1
        have z2 : w2.cell? ⟨wr.heap.size, 2, none⟩ = some (.int .i64 d) := st2.cell 2
        have HB2 : Hid (Below w.heap.size w w2) := HBL.out.trans (hb2.mono HBL.out.size)
        have HO2 : Hid (OwnI .u8 5 w2 w.heap.size (.slice ab b.length cb) b) := HO.out.below hb2
        obtain ⟨sz, hsz⟩ : ∃ sz, sz = max 1 l := ⟨_, rfl⟩
        rw [← hsz]
        have HSZ : Hid (sz = max 1 l) := hsz
        have hsz1 : 1 ≤ sz := by omega
        have hsz2 : sz ≤ 258 := by omega
        clear b2 hba st2 hb2 hsz x0 x1 x2
        by_cases hlg : most - (b.length : Int) < sz
        · have HE : Hid (stp most ts N = .error (k, 141)) := stp_err (k := k + 1) (by unfold stp; rw [HSP.out, HT.out]; dsimp only; rw [if_neg (by omega), if_pos (by have := HSZ.out; omega)]) (by omega)
          go_wp2
          go_ret3
          have hx : xpR most ts = ([], (k : Int), 141) := by unfold xpR; rw [← HNE.out, HE.out]
          rw [hx]
          exact ⟨.slice none 0 0, rfl, OwnI.nil _ _ _ _, HB2.out⟩
        · have HSN : Hid (stp most ts (k + 1) = .ok (tell b (y, l, d))) := by show _ = _; unfold stp; rw [HSP.out, HT.out]; dsimp only; rw [if_neg (by omega), if_neg (by have := HSZ.out; omega)]
          have hlg2 : sz ≤ most - (b.length : Int) := by omega
          rcases HKT.out with ⟨hl, hd⟩ | ⟨hy, hll, hdd⟩
          · subst hl hd
            go_wp2_with fail
            refine (told_byte (.slice ab b.length cb) b w.heap.size y 0 w2 (by omega) HO2.out HB2.out.size).mono ?_
            rintro e w3 ⟨v', rfl, ho3, hk3, hb3⟩
            have hB3 : Below w.heap.size w w3 := HB2.out.trans (hk3.below HB2.out.size (fun i e => (HO2.out.lt i e).1))
            have HO3 : Hid (OwnI .u8 5 w3 w.heap.size v' (tell b (y, 0, 0))) := ho3
            have HB3 : Hid (Below w.heap.size w w3) := hB3
            clear ho3 hk3 hb3 hB3
            go_wp2
            exact ⟨⟨k + 1, _, hlt, by simp, HSN.out, HO3.out, HB3.out⟩, by simp [intOf]; omega⟩
          · subst hy
            obtain ⟨ln, rfl⟩ := Int.eq_ofNat_of_zero_le (show 0 ≤ l by omega)
            obtain ⟨dn, rfl⟩ := Int.eq_ofNat_of_zero_le (show 0 ≤ d by omega)
            clear HKT
            go_wp2_with fail
            refine (told_match (.slice ab b.length cb) b w.heap.size 0 ln dn w2 (by omega) HO2.out HB2.out.size (by omega) (by omega) (by omega) (by omega)).mono ?_
            rintro e w3 ⟨v', rfl, ho3, hk3, hb3⟩
            have hB3 : Below w.heap.size w w3 := HB2.out.trans (hk3.below HB2.out.size (fun i e => (HO2.out.lt i e).1))
            have HO3 : Hid (OwnI .u8 5 w3 w.heap.size v' (tell b (0, (ln : Int), (dn : Int)))) := by
              show OwnI _ _ _ _ _ _
              unfold tell
              rw [if_neg (by simp only; omega)]
              simpa using ho3
            have HB3 : Hid (Below w.heap.size w w3) := hB3
            clear ho3 hk3 hb3 hB3
            go_wp2
            exact ⟨⟨k + 1, _, hlt, by simp, HSN.out, HO3.out, HB3.out⟩, by simp [intOf]; omega⟩
    · obtain rfl : k = N := by omega
      go_wp2
      go_ret3
      have hx : xpR most ts = (b, (ts.length : Int), 0) := by unfold xpR; rw [← HNE.out, HSP.out]
      rw [hx]
      exact ⟨u8, by rw [← HNE.out]; rfl, HO.out, HBL.out⟩
set_option maxRecDepth 100000 in
set_option maxHeartbeats 1000000 in
theorem expand_neg (ao : Option Addr) (N cap : Nat) (most : Int) (w : World) (hm : most < 0) :
    Calls Try.prog 18 #[.int .i64 most, .slice ao N cap] w fun e w' => e = .returned (.tuple #[.slice none 0 0, .int .i64 0, .int .i64 2]) ∧ w' = w := by
  go_enter Try.func18, Try.ntmps18
  go_wp2
  go_ret3
  exact ⟨rfl, rfl⟩
set_option maxRecDepth 100000 in
set_option maxHeartbeats 1000000 in
theorem expand_bad (ts : List Tok) (ao : Option Addr) (N cap : Nat) (most c : Int) (w : World) (hNe : N = ts.length) (hN : N ≤ 100000000) (hm : 0 ≤ most) (hS : TSrc w ao ts) (hr : refN ts = c) (hc : c ≠ 0) :
    Calls Try.prog 18 #[.int .i64 most, .slice ao N cap] w fun e w' => e = .returned (.tuple #[.slice none 0 0, .int .i64 0, .int .i64 c]) ∧ Below w.heap.size w w' := by
  have HNE : Hid (N = ts.length) := hNe
  have HS : Hid (TSrc w ao ts) := hS
  have HR : Hid (refN ts = c) := hr
  have hc2 : (c != 0) = true := by rw [bne_iff_ne]; exact hc
  have hm1 : ¬ most < 0 := by omega
  clear hNe hS hr
  go_enter Try.func18, Try.ntmps18
  go_wp2_with fail
  refine (refused_any ts ao N cap w HNE.out hN HS.out).mono ?_
  rintro e w1 ⟨rfl, b1⟩
  rw [HR.out]
  go_wp2
  go_ret3
  exact ⟨rfl, b1⟩
end Go.Proofs.Ytofmoggejfopiaa
