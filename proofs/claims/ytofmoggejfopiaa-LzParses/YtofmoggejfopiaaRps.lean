/- The reference's Parse. -/
import Derived.Test.YtofmoggejfopiaaRlg
import Derived.Test.YtofmoggejfopiaaExW
namespace Go.Proofs.Ytofmoggejfopiaa
open Go.RowKit
theorem ps_byte {b : Nat → Int} {N k t1 t2 : Nat} {a : Bool} (h : lng b N (ps b N a k) = (t1, t2)) (hc : t1 = 0 ∨ (a = true ∧ t1 < (lng b N (ps b N a k + 1)).1)) : ps b N a (k + 1) = ps b N a k + 1 := by
  simp only [ps]
  unfold tk; rw [h]; simp only; rw [if_pos hc]; rfl
theorem ps_match {b : Nat → Int} {N k t1 t2 : Nat} {a : Bool} (h : lng b N (ps b N a k) = (t1, t2)) (hc : ¬ (t1 = 0 ∨ (a = true ∧ t1 < (lng b N (ps b N a k + 1)).1))) : ps b N a (k + 1) = ps b N a k + t1 := by
  simp only [ps]
  unfold tk; rw [h]; simp only; rw [if_neg hc]; simp only; omega
theorem row_set3 {X : World} {base k g : Nat} {v x y z : Value} {xs : List Value} (h : X.ownsRow base 25 3 v k xs) (hg : ∀ b, v.ownBlock = some b → b ≠ g) : (((X.setCell ⟨g, 0, none⟩ x).setCell ⟨g, 1, none⟩ y).setCell ⟨g, 2, none⟩ z).ownsRow base 25 3 v k xs :=
  ownsRow_kpt h (((kp_setCell X g 0 x (fun i => i = g) rfl).trans (kp_setCell _ g 1 y (fun i => i = g) rfl) (fun _ _ e => e)).trans (kp_setCell _ g 2 z (fun i => i = g) rfl) (fun _ _ e => e)) hg
theorem st_set3 {X : World} {g : Nat} {a b c x y z : Value} (h : St 25 X g #[a, b, c]) : St 25 (((X.setCell ⟨g, 0, none⟩ x).setCell ⟨g, 1, none⟩ y).setCell ⟨g, 2, none⟩ z) g #[x, y, z] :=
  ((h.set 0 x).set 1 y).set 2 z
theorem below_set3 {w X : World} {g : Nat} {x y z : Value} (h : Below w.heap.size w X) (hg : w.heap.size ≤ g) : Below w.heap.size w (((X.setCell ⟨g, 0, none⟩ x).setCell ⟨g, 1, none⟩ y).setCell ⟨g, 2, none⟩ z) :=
  h.trans ((((kp_setCell X g 0 x (fun i => i = g) rfl).trans (kp_setCell _ g 1 y (fun i => i = g) rfl) (fun _ _ e => e)).trans (kp_setCell _ g 2 z (fun i => i = g) rfl) (fun _ _ e => e)).below h.size (fun i e => by omega))
set_option maxRecDepth 100000 in
set_option maxHeartbeats 4000000 in
theorem rparse_any (zs : List Int) (ao : Option Addr) (N cap : Nat) (a : Bool) (w : World) (hNe : N = zs.length) (hN : N ≤ 3000) (hS : Src .u8 w ao zs) :
    Calls Try.prog 15 #[.slice ao N cap, .bool a] w fun e w' => ∃ v K, e = .returned v ∧ Many (bf zs) zs.length a K ∧ w'.ownsRow w.heap.size 25 3 v K (tcs (tks (bf zs) zs.length a K)) ∧ Below w.heap.size w w' := by
  have HNE : Hid (N = zs.length) := hNe
  have HS : Hid (Src .u8 w ao zs) := hS
  clear hNe hS
  go_enter Try.func15, Try.ntmps15
  go_wp2_with fail
  go_loopw [5, 6, 7, 8, 9, 10] (fun u5 u6 _ _ _ _ wr => ∃ k : Nat, u6 = .int .i64 ((ps (bf zs) zs.length a k : Nat) : Int) ∧ ps (bf zs) zs.length a k ≤ N ∧ wr.ownsRow w.heap.size 25 3 u5 k (tcs (tks (bf zs) zs.length a k)) ∧ Below w.heap.size w wr) (fun _ u6 _ _ _ _ _ => N - (intOf u6).toNat)
  case atStart => exact ⟨0, rfl, Nat.zero_le _, World.ownsRow_nil _ _ _ _, Below.refl _ _⟩
  case round =>
    obtain ⟨k, rfl, hpN, ho, hb⟩ := hrel
    have hkp := ps_ge (bf zs) zs.length a k
    obtain ⟨p, hp⟩ : ∃ x, x = ps (bf zs) zs.length a k := ⟨_, rfl⟩
    rw [← hp] at hpN hkp ⊢
    have HP : Hid (p = ps (bf zs) zs.length a k) := hp
    have HO : Hid (wr.ownsRow w.heap.size 25 3 u5 k (tcs (tks (bf zs) zs.length a k))) := ho
    have HBL : Hid (Below w.heap.size w wr) := hb
    clear ho hb hp
    by_cases hlt : p < N
    · obtain ⟨⟨t1, t2⟩, ht⟩ : ∃ t, lng (bf zs) zs.length p = t := ⟨_, rfl⟩
      have HT : Hid (lng (bf zs) zs.length p = (t1, t2)) := ht
      have ht258 : t1 ≤ 258 := by
        rcases lng_cases (bf zs) zs.length p with h | h
        · rw [HT.out] at h; cases h; omega
        · rw [HT.out] at h; have := h.2.1; unfold mst at this; simp at this; omega
      have ht3 : t1 = 0 ∨ (3 ≤ t1 ∧ p + t1 ≤ N) := by
        rcases lng_cases (bf zs) zs.length p with h | h
        · rw [HT.out] at h; cases h; exact .inl rfl
        · rw [HT.out] at h; have h1 := h.1; have h2 := h.2.1; unfold mst at h2; have := HNE.out; simp at h1 h2; omega
      have htt : t1 = 0 → t2 = 0 := fun h => by
        rcases lng_cases (bf zs) zs.length p with h' | h'
        · rw [HT.out] at h'; cases h'; rfl
        · rw [HT.out] at h'; have := h'.1; simp at this; omega
      obtain ⟨gb, off, hao, _⟩ := HS.out (by have := HNE.out; omega)
      subst hao
      obtain ⟨Y, hY⟩ : ∃ Y, Y = zs.getD p 0 := ⟨_, rfl⟩
      have HYB : Hid (Y = zs.getD p 0) := hY
      have HOL : Hid (∀ b, u5.ownBlock = some b → b < wr.heap.size) := fun b e => (HO.out.lt b e).2
      clear ht hY
      generalize hC8 : Code.region 8 _ _ = C8
      have HC8 : Hid (Code.region 8 _ _ = C8) := hC8
      clear hC8
      rcases ht3 with h0 | ⟨h3, hpt⟩
      · have h2 := htt h0
        subst h0 h2
        clear htt ht258
        go_wp2_with fail
        refine (rlongest_any zs (some ⟨gb, off, none⟩) N cap p _ rfl wr HNE.out (by omega) (HS.out.below HBL.out) (by omega) 0 0 HT.out false (by simp)).mono ?_
        rintro e w1 ⟨rfl, b1⟩
        have s7w : St 25 (w1.alloc (.cells #[.int .u8 0, .int .i64 (0 : Int), .int .i64 (0 : Int)] 25)) w1.heap.size #[.int .u8 0, .int .i64 (0 : Int), .int .i64 (0 : Int)] := St.new 25 w1 _
        have o7w : (w1.alloc (.cells #[.int .u8 0, .int .i64 (0 : Int), .int .i64 (0 : Int)] 25)).ownsRow w.heap.size 25 3 u5 k (tcs (tks (bf zs) zs.length a k)) := (ownsRow_kpt HO.out (Kp.of_below (F := fun _ => False) b1) (fun _ _ x => x)).alloc _
        have b7w : Below w.heap.size w (w1.alloc (.cells #[.int .u8 0, .int .i64 (0 : Int), .int .i64 (0 : Int)] 25)) := (HBL.out.trans (b1.mono HBL.out.size)).alloc (HBL.out.trans (b1.mono HBL.out.size)).size _
        have H7W : Hid (St 25 (w1.alloc (.cells #[.int .u8 0, .int .i64 (0 : Int), .int .i64 (0 : Int)] 25)) w1.heap.size #[.int .u8 0, .int .i64 (0 : Int), .int .i64 (0 : Int)]) := s7w
        have O7W : Hid ((w1.alloc (.cells #[.int .u8 0, .int .i64 (0 : Int), .int .i64 (0 : Int)] 25)).ownsRow w.heap.size 25 3 u5 k (tcs (tks (bf zs) zs.length a k))) := o7w
        have B7W : Hid (Below w.heap.size w (w1.alloc (.cells #[.int .u8 0, .int .i64 (0 : Int), .int .i64 (0 : Int)] 25))) := b7w
        have NG : Hid (∀ b, u5.ownBlock = some b → b ≠ w1.heap.size) := fun b e => by have := HOL.out b e; have := b1.size; omega
        have GW : Hid (w.heap.size ≤ w1.heap.size) := (HBL.out.trans (b1.mono HBL.out.size)).size
        clear b1 s7w o7w b7w
        go_wp2_with fail
        refine at_worldp (R := fun X => X.ownsRow w.heap.size 25 3 u5 k (tcs (tks (bf zs) zs.length a k)) ∧ Below w.heap.size w X ∧ St 25 X w1.heap.size #[.int .u8 0, .int .i64 (0 : Int), .int .i64 (0 : Int)]) ⟨O7W.out, B7W.out, H7W.out⟩ ?_
        rintro X ⟨oX, bX, sX⟩
        generalize w1.heap.size = g7 at NG GW sX ⊢
        try clear H7W O7W B7W
        have y8 : X.cell? ⟨gb, off + p, none⟩ = some (.int .u8 Y) := by rw [HYB.out]; exact (HS.out.below bX).at p (by have := HNE.out; omega)
        have x70 : X.cell? ⟨g7, 0, none⟩ = some (.int .u8 0) := sX.cell 0
        have x71 : X.cell? ⟨g7, 1, none⟩ = some (.int .i64 (0 : Int)) := sX.cell 1
        have x72 : X.cell? ⟨g7, 2, none⟩ = some (.int .i64 (0 : Int)) := sX.cell 2
        have v70 := sX.frozen 0
        have v71 := sX.frozen 1
        have v72 := sX.frozen 2
        have SX : Hid (St 25 X g7 #[.int .u8 0, .int .i64 (0 : Int), .int .i64 (0 : Int)]) := sX
        have OX : Hid (X.ownsRow w.heap.size 25 3 u5 k (tcs (tks (bf zs) zs.length a k))) := oX
        have BX : Hid (Below w.heap.size w X) := bX
        have HPS : Hid (ps (bf zs) zs.length a (k + 1) = p + 1) := by show _ = _; rw [HP.out]; exact ps_byte (t1 := 0) (t2 := 0) (by rw [← HP.out]; exact HT.out) (.inl rfl)
        have HTK : Hid (tks (bf zs) zs.length a (k + 1) = tks (bf zs) zs.length a k ++ [(Y, 0, 0)]) := by
          show tks (bf zs) zs.length a k ++ [tokAt (bf zs) zs.length a (ps (bf zs) zs.length a k)] = _
          rw [← HP.out, tokAt_byte HT.out (.inl rfl)]
          rw [HYB.out]; rfl
        clear oX bX sX HT
        rw [← HC8.out]
        go_wp2_with (first | (at_builtin; refine wpList_append_toks rfl (.tmp 53) (.tmp 55) rfl w.heap.size u5 k (tcs (tks (bf zs) zs.length a k)) rfl (World.ownsRow.alloc (row_set3 OX.out NG.out) _) (some ⟨X.heap.size, 0, none⟩) 1 1 [(Y, 0, 0)] rfl rfl (fun e => by cases e) (by have := tsrc_new (((X.setCell ⟨g7, 0, none⟩ (.int .u8 Y)).setCell ⟨g7, 1, none⟩ (.int .i64 0)).setCell ⟨g7, 2, none⟩ (.int .i64 0)) Y 0 0; simpa using this) (by omega) (by have := BX.out.size; simp; omega) ?_; intro v' w3 o3 k3; have s73 := (((show St 25 (((X.setCell ⟨g7, 0, none⟩ (.int .u8 Y)).setCell ⟨g7, 1, none⟩ (.int .i64 0)).setCell ⟨g7, 2, none⟩ (.int .i64 0)) g7 #[.int .u8 Y, .int .i64 0, .int .i64 0] from (st_set3 SX.out)).kp ((Kp.refl (fun _ => False) _).alloc (.cells #[.int .u8 Y, .int .i64 0, .int .i64 0] 25)) (fun x => x)).kp k3 (fun e => NG.out _ e rfl)); have c71 : w3.cell? ⟨g7, 1, none⟩ = some (.int .i64 0) := s73.cell 1; have B3 : Hid (Below w.heap.size w w3) := (Below.alloc (below_set3 BX.out GW.out) (Below.size (below_set3 BX.out GW.out)) (.cells #[.int .u8 Y, .int .i64 0, .int .i64 0] 25)).trans (k3.below (Below.alloc (below_set3 BX.out GW.out) (Below.size (below_set3 BX.out GW.out)) (.cells #[.int .u8 Y, .int .i64 0, .int .i64 0] 25)).size (fun i e => (OX.out.lt i e).1)); have O3 : Hid (w3.ownsRow w.heap.size 25 3 v' (k + 1) (tcs (tks (bf zs) zs.length a (k + 1)))) := (by rw [HTK.out, tcs_append]; exact o3); clear s73 o3 k3))
        exact ⟨⟨k + 1, by rw [HPS.out]; simp, by rw [HPS.out]; omega, O3.out, B3.out⟩, by simp [intOf]; omega⟩
      · have ht0 : ¬ (t1 = 0) := by omega
        have hl1 : (1 : Int) < (t1 : Int) := by omega
        clear htt
        cases a with
        | false =>
          go_wp2_with fail
          refine (rlongest_any zs (some ⟨gb, off, none⟩) N cap p _ rfl wr HNE.out (by omega) (HS.out.below HBL.out) (by omega) t1 t2 HT.out true (by simp; omega)).mono ?_
          rintro e w1 ⟨rfl, b1⟩
          have s7w : St 25 (w1.alloc (.cells #[.int .u8 0, .int .i64 (t1 : Int), .int .i64 (t2 : Int)] 25)) w1.heap.size #[.int .u8 0, .int .i64 (t1 : Int), .int .i64 (t2 : Int)] := St.new 25 w1 _
          have o7w : (w1.alloc (.cells #[.int .u8 0, .int .i64 (t1 : Int), .int .i64 (t2 : Int)] 25)).ownsRow w.heap.size 25 3 u5 k (tcs (tks (bf zs) zs.length false k)) := (ownsRow_kpt HO.out (Kp.of_below (F := fun _ => False) b1) (fun _ _ x => x)).alloc _
          have b7w : Below w.heap.size w (w1.alloc (.cells #[.int .u8 0, .int .i64 (t1 : Int), .int .i64 (t2 : Int)] 25)) := (HBL.out.trans (b1.mono HBL.out.size)).alloc (HBL.out.trans (b1.mono HBL.out.size)).size _
          have H7W : Hid (St 25 (w1.alloc (.cells #[.int .u8 0, .int .i64 (t1 : Int), .int .i64 (t2 : Int)] 25)) w1.heap.size #[.int .u8 0, .int .i64 (t1 : Int), .int .i64 (t2 : Int)]) := s7w
          have O7W : Hid ((w1.alloc (.cells #[.int .u8 0, .int .i64 (t1 : Int), .int .i64 (t2 : Int)] 25)).ownsRow w.heap.size 25 3 u5 k (tcs (tks (bf zs) zs.length false k))) := o7w
          have B7W : Hid (Below w.heap.size w (w1.alloc (.cells #[.int .u8 0, .int .i64 (t1 : Int), .int .i64 (t2 : Int)] 25))) := b7w
          have NG : Hid (∀ b, u5.ownBlock = some b → b ≠ w1.heap.size) := fun b e => by have := HOL.out b e; have := b1.size; omega
          have GW : Hid (w.heap.size ≤ w1.heap.size) := (HBL.out.trans (b1.mono HBL.out.size)).size
          clear b1 s7w o7w b7w
          go_wp2_with fail
          refine at_worldp (R := fun X => X.ownsRow w.heap.size 25 3 u5 k (tcs (tks (bf zs) zs.length false k)) ∧ Below w.heap.size w X ∧ St 25 X w1.heap.size #[.int .u8 0, .int .i64 (t1 : Int), .int .i64 (t2 : Int)]) ⟨O7W.out, B7W.out, H7W.out⟩ ?_
          rintro X ⟨oX, bX, sX⟩
          generalize w1.heap.size = g7 at NG GW sX ⊢
          try clear H7W O7W B7W
          have y8 : X.cell? ⟨gb, off + p, none⟩ = some (.int .u8 Y) := by rw [HYB.out]; exact (HS.out.below bX).at p (by have := HNE.out; omega)
          have x70 : X.cell? ⟨g7, 0, none⟩ = some (.int .u8 0) := sX.cell 0
          have x71 : X.cell? ⟨g7, 1, none⟩ = some (.int .i64 (t1 : Int)) := sX.cell 1
          have x72 : X.cell? ⟨g7, 2, none⟩ = some (.int .i64 (t2 : Int)) := sX.cell 2
          have v70 := sX.frozen 0
          have v71 := sX.frozen 1
          have v72 := sX.frozen 2
          have SX : Hid (St 25 X g7 #[.int .u8 0, .int .i64 (t1 : Int), .int .i64 (t2 : Int)]) := sX
          have OX : Hid (X.ownsRow w.heap.size 25 3 u5 k (tcs (tks (bf zs) zs.length false k))) := oX
          have BX : Hid (Below w.heap.size w X) := bX
          have HPS : Hid (ps (bf zs) zs.length false (k + 1) = p + t1) := by show _ = _; rw [HP.out]; exact ps_match (t1 := t1) (t2 := t2) (by rw [← HP.out]; exact HT.out) (by simp; omega)
          have HTK : Hid (tks (bf zs) zs.length false (k + 1) = tks (bf zs) zs.length false k ++ [(0, (t1 : Int), (t2 : Int))]) := by
            show tks (bf zs) zs.length false k ++ [tokAt (bf zs) zs.length false (ps (bf zs) zs.length false k)] = _
            rw [← HP.out, tokAt_match HT.out (by simp; omega)]
            try rfl
          clear oX bX sX HT
          rw [← HC8.out]
          go_wp2_with (first | (at_builtin; refine wpList_append_toks rfl (.tmp 53) (.tmp 55) rfl w.heap.size u5 k (tcs (tks (bf zs) zs.length false k)) rfl (World.ownsRow.alloc OX.out _) (some ⟨X.heap.size, 0, none⟩) 1 1 [(0, (t1 : Int), (t2 : Int))] rfl rfl (fun e => by cases e) (by have := tsrc_new X 0 (t1 : Int) (t2 : Int); simpa using this) (by omega) (by have := BX.out.size; simp; omega) ?_; intro v' w3 o3 k3; have s73 := (((show St 25 X g7 #[.int .u8 0, .int .i64 (t1 : Int), .int .i64 (t2 : Int)] from SX.out).kp ((Kp.refl (fun _ => False) _).alloc (.cells #[.int .u8 0, .int .i64 (t1 : Int), .int .i64 (t2 : Int)] 25)) (fun x => x)).kp k3 (fun e => NG.out _ e rfl)); have c71 : w3.cell? ⟨g7, 1, none⟩ = some (.int .i64 (t1 : Int)) := s73.cell 1; have B3 : Hid (Below w.heap.size w w3) := (Below.alloc BX.out (Below.size BX.out) (.cells #[.int .u8 0, .int .i64 (t1 : Int), .int .i64 (t2 : Int)] 25)).trans (k3.below (Below.alloc BX.out (Below.size BX.out) (.cells #[.int .u8 0, .int .i64 (t1 : Int), .int .i64 (t2 : Int)] 25)).size (fun i e => (OX.out.lt i e).1)); have O3 : Hid (w3.ownsRow w.heap.size 25 3 v' (k + 1) (tcs (tks (bf zs) zs.length false (k + 1)))) := (by rw [HTK.out, tcs_append]; exact o3); clear s73 o3 k3))
          exact ⟨⟨k + 1, by rw [HPS.out]; simp, by rw [HPS.out]; omega, O3.out, B3.out⟩, by simp [intOf]; omega⟩
        | true =>
          by_cases h258 : t1 < 258
          · have h258i : (t1 : Int) < 258 := by omega
            obtain ⟨⟨s1, s2⟩, hs⟩ : ∃ t, lng (bf zs) zs.length (p + 1) = t := ⟨_, rfl⟩
            have HSN : Hid (lng (bf zs) zs.length (p + 1) = (s1, s2)) := hs
            have hs258 : s1 ≤ 258 := by
              rcases lng_cases (bf zs) zs.length (p + 1) with h | h
              · rw [HSN.out] at h; cases h; omega
              · rw [HSN.out] at h; have := h.2.1; unfold mst at this; simp at this; omega
            have e1 : IntKind.i64.wrap ((p : Int) + 1) = ((p + 1 : Nat) : Int) := by rw [IntKind.wrap_i64]; omega
            clear hs
            go_wp2_with fail
            refine (rlongest_any zs (some ⟨gb, off, none⟩) N cap p _ rfl wr HNE.out (by omega) (HS.out.below HBL.out) (by omega) t1 t2 HT.out true (by simp; omega)).mono ?_
            rintro e w1 ⟨rfl, b1⟩
            have s7w : St 25 (w1.alloc (.cells #[.int .u8 0, .int .i64 (t1 : Int), .int .i64 (t2 : Int)] 25)) w1.heap.size #[.int .u8 0, .int .i64 (t1 : Int), .int .i64 (t2 : Int)] := St.new 25 w1 _
            have o7w : (w1.alloc (.cells #[.int .u8 0, .int .i64 (t1 : Int), .int .i64 (t2 : Int)] 25)).ownsRow w.heap.size 25 3 u5 k (tcs (tks (bf zs) zs.length true k)) := (ownsRow_kpt HO.out (Kp.of_below (F := fun _ => False) b1) (fun _ _ x => x)).alloc _
            have b7w : Below w.heap.size w (w1.alloc (.cells #[.int .u8 0, .int .i64 (t1 : Int), .int .i64 (t2 : Int)] 25)) := (HBL.out.trans (b1.mono HBL.out.size)).alloc (HBL.out.trans (b1.mono HBL.out.size)).size _
            have H7W : Hid (St 25 (w1.alloc (.cells #[.int .u8 0, .int .i64 (t1 : Int), .int .i64 (t2 : Int)] 25)) w1.heap.size #[.int .u8 0, .int .i64 (t1 : Int), .int .i64 (t2 : Int)]) := s7w
            have O7W : Hid ((w1.alloc (.cells #[.int .u8 0, .int .i64 (t1 : Int), .int .i64 (t2 : Int)] 25)).ownsRow w.heap.size 25 3 u5 k (tcs (tks (bf zs) zs.length true k))) := o7w
            have B7W : Hid (Below w.heap.size w (w1.alloc (.cells #[.int .u8 0, .int .i64 (t1 : Int), .int .i64 (t2 : Int)] 25))) := b7w
            have NG : Hid (∀ b, u5.ownBlock = some b → b ≠ w1.heap.size) := fun b e => by have := HOL.out b e; have := b1.size; omega
            have GW : Hid (w.heap.size ≤ w1.heap.size) := (HBL.out.trans (b1.mono HBL.out.size)).size
            clear b1 s7w o7w b7w
            have y71 : (w1.alloc (.cells #[.int .u8 0, .int .i64 (t1 : Int), .int .i64 (t2 : Int)] 25)).cell? ⟨w1.heap.size, 1, none⟩ = some (.int .i64 (t1 : Int)) := H7W.out.cell 1
            go_wp2_with fail
            by_cases hs0 : s1 = 0
            · have HS0 : Hid (s1 = 0) := hs0
              clear hs0
              refine (rlongest_any zs (some ⟨gb, off, none⟩) N cap (p + 1) _ (by simp) _ HNE.out (by omega) (HS.out.below B7W.out) (by omega) s1 s2 HSN.out false (by have := HS0.out; simp; omega)).mono ?_
              rintro e w2 ⟨rfl, b2⟩
              have S72 : Hid (St 25 (w2.alloc (.cells #[.int .u8 0, .int .i64 (s1 : Int), .int .i64 (s2 : Int)] 25)) w1.heap.size #[.int .u8 0, .int .i64 (t1 : Int), .int .i64 (t2 : Int)]) := (H7W.out.below b2 H7W.out.lt).kp ((Kp.refl (fun _ => False) _).alloc _) (fun x => x)
              have S92 : Hid (St 25 (w2.alloc (.cells #[.int .u8 0, .int .i64 (s1 : Int), .int .i64 (s2 : Int)] 25)) w2.heap.size #[.int .u8 0, .int .i64 (s1 : Int), .int .i64 (s2 : Int)]) := St.new 25 w2 _
              have O72 : Hid ((w2.alloc (.cells #[.int .u8 0, .int .i64 (s1 : Int), .int .i64 (s2 : Int)] 25)).ownsRow w.heap.size 25 3 u5 k (tcs (tks (bf zs) zs.length true k))) := (ownsRow_kpt O7W.out (Kp.of_below (F := fun _ => False) b2) (fun _ _ x => x)).alloc _
              have B72 : Hid (Below w.heap.size w (w2.alloc (.cells #[.int .u8 0, .int .i64 (s1 : Int), .int .i64 (s2 : Int)] 25))) := (B7W.out.trans (b2.mono B7W.out.size)).alloc (B7W.out.trans (b2.mono B7W.out.size)).size _
              have z71 : (w2.alloc (.cells #[.int .u8 0, .int .i64 (s1 : Int), .int .i64 (s2 : Int)] 25)).cell? ⟨w1.heap.size, 1, none⟩ = some (.int .i64 (t1 : Int)) := S72.out.cell 1
              have z91 : (w2.alloc (.cells #[.int .u8 0, .int .i64 (s1 : Int), .int .i64 (s2 : Int)] 25)).cell? ⟨w2.heap.size, 1, none⟩ = some (.int .i64 (s1 : Int)) := S92.out.cell 1
              clear b2 y71
              go_wp2_with fail
              clear z71 z91
              refine at_worldp (R := fun X => X.ownsRow w.heap.size 25 3 u5 k (tcs (tks (bf zs) zs.length true k)) ∧ Below w.heap.size w X ∧ St 25 X w1.heap.size #[.int .u8 0, .int .i64 (t1 : Int), .int .i64 (t2 : Int)]) ⟨O72.out, B72.out, S72.out⟩ ?_
              rintro X ⟨oX, bX, sX⟩
              clear S72 S92 O72 B72
              generalize w1.heap.size = g7 at NG GW sX ⊢
              try clear H7W O7W B7W
              have y8 : X.cell? ⟨gb, off + p, none⟩ = some (.int .u8 Y) := by rw [HYB.out]; exact (HS.out.below bX).at p (by have := HNE.out; omega)
              have x70 : X.cell? ⟨g7, 0, none⟩ = some (.int .u8 0) := sX.cell 0
              have x71 : X.cell? ⟨g7, 1, none⟩ = some (.int .i64 (t1 : Int)) := sX.cell 1
              have x72 : X.cell? ⟨g7, 2, none⟩ = some (.int .i64 (t2 : Int)) := sX.cell 2
              have v70 := sX.frozen 0
              have v71 := sX.frozen 1
              have v72 := sX.frozen 2
              have SX : Hid (St 25 X g7 #[.int .u8 0, .int .i64 (t1 : Int), .int .i64 (t2 : Int)]) := sX
              have OX : Hid (X.ownsRow w.heap.size 25 3 u5 k (tcs (tks (bf zs) zs.length true k))) := oX
              have BX : Hid (Below w.heap.size w X) := bX
              have HPS : Hid (ps (bf zs) zs.length true (k + 1) = p + t1) := by show _ = _; rw [HP.out]; exact ps_match (t1 := t1) (t2 := t2) (by rw [← HP.out]; exact HT.out) (by have := HS0.out; rw [← HP.out, HSN.out]; simp; omega)
              have HTK : Hid (tks (bf zs) zs.length true (k + 1) = tks (bf zs) zs.length true k ++ [(0, (t1 : Int), (t2 : Int))]) := by
                show tks (bf zs) zs.length true k ++ [tokAt (bf zs) zs.length true (ps (bf zs) zs.length true k)] = _
                rw [← HP.out, tokAt_match HT.out (by have := HS0.out; rw [HSN.out]; simp; omega)]
                try rfl
              clear oX bX sX HT
              rw [← HC8.out]
              go_wp2_with (first | (at_builtin; refine wpList_append_toks rfl (.tmp 53) (.tmp 55) rfl w.heap.size u5 k (tcs (tks (bf zs) zs.length true k)) rfl (World.ownsRow.alloc OX.out _) (some ⟨X.heap.size, 0, none⟩) 1 1 [(0, (t1 : Int), (t2 : Int))] rfl rfl (fun e => by cases e) (by have := tsrc_new X 0 (t1 : Int) (t2 : Int); simpa using this) (by omega) (by have := BX.out.size; simp; omega) ?_; intro v' w3 o3 k3; have s73 := (((show St 25 X g7 #[.int .u8 0, .int .i64 (t1 : Int), .int .i64 (t2 : Int)] from SX.out).kp ((Kp.refl (fun _ => False) _).alloc (.cells #[.int .u8 0, .int .i64 (t1 : Int), .int .i64 (t2 : Int)] 25)) (fun x => x)).kp k3 (fun e => NG.out _ e rfl)); have c71 : w3.cell? ⟨g7, 1, none⟩ = some (.int .i64 (t1 : Int)) := s73.cell 1; have B3 : Hid (Below w.heap.size w w3) := (Below.alloc BX.out (Below.size BX.out) (.cells #[.int .u8 0, .int .i64 (t1 : Int), .int .i64 (t2 : Int)] 25)).trans (k3.below (Below.alloc BX.out (Below.size BX.out) (.cells #[.int .u8 0, .int .i64 (t1 : Int), .int .i64 (t2 : Int)] 25)).size (fun i e => (OX.out.lt i e).1)); have O3 : Hid (w3.ownsRow w.heap.size 25 3 v' (k + 1) (tcs (tks (bf zs) zs.length true (k + 1)))) := (by rw [HTK.out, tcs_append]; exact o3); clear s73 o3 k3))
              exact ⟨⟨k + 1, by rw [HPS.out]; simp, by rw [HPS.out]; omega, O3.out, B3.out⟩, by simp [intOf]; omega⟩
            · by_cases hst : s1 ≤ t1
              · have hst2 : (s1 : Int) ≤ (t1 : Int) := by omega
                refine (rlongest_any zs (some ⟨gb, off, none⟩) N cap (p + 1) _ (by simp) _ HNE.out (by omega) (HS.out.below B7W.out) (by omega) s1 s2 HSN.out true (by simp; omega)).mono ?_
                rintro e w2 ⟨rfl, b2⟩
                have S72 : Hid (St 25 (w2.alloc (.cells #[.int .u8 0, .int .i64 (s1 : Int), .int .i64 (s2 : Int)] 25)) w1.heap.size #[.int .u8 0, .int .i64 (t1 : Int), .int .i64 (t2 : Int)]) := (H7W.out.below b2 H7W.out.lt).kp ((Kp.refl (fun _ => False) _).alloc _) (fun x => x)
                have S92 : Hid (St 25 (w2.alloc (.cells #[.int .u8 0, .int .i64 (s1 : Int), .int .i64 (s2 : Int)] 25)) w2.heap.size #[.int .u8 0, .int .i64 (s1 : Int), .int .i64 (s2 : Int)]) := St.new 25 w2 _
                have O72 : Hid ((w2.alloc (.cells #[.int .u8 0, .int .i64 (s1 : Int), .int .i64 (s2 : Int)] 25)).ownsRow w.heap.size 25 3 u5 k (tcs (tks (bf zs) zs.length true k))) := (ownsRow_kpt O7W.out (Kp.of_below (F := fun _ => False) b2) (fun _ _ x => x)).alloc _
                have B72 : Hid (Below w.heap.size w (w2.alloc (.cells #[.int .u8 0, .int .i64 (s1 : Int), .int .i64 (s2 : Int)] 25))) := (B7W.out.trans (b2.mono B7W.out.size)).alloc (B7W.out.trans (b2.mono B7W.out.size)).size _
                have z71 : (w2.alloc (.cells #[.int .u8 0, .int .i64 (s1 : Int), .int .i64 (s2 : Int)] 25)).cell? ⟨w1.heap.size, 1, none⟩ = some (.int .i64 (t1 : Int)) := S72.out.cell 1
                have z91 : (w2.alloc (.cells #[.int .u8 0, .int .i64 (s1 : Int), .int .i64 (s2 : Int)] 25)).cell? ⟨w2.heap.size, 1, none⟩ = some (.int .i64 (s1 : Int)) := S92.out.cell 1
                clear b2 y71
                go_wp2_with fail
                clear z71 z91
                refine at_worldp (R := fun X => X.ownsRow w.heap.size 25 3 u5 k (tcs (tks (bf zs) zs.length true k)) ∧ Below w.heap.size w X ∧ St 25 X w1.heap.size #[.int .u8 0, .int .i64 (t1 : Int), .int .i64 (t2 : Int)]) ⟨O72.out, B72.out, S72.out⟩ ?_
                rintro X ⟨oX, bX, sX⟩
                clear S72 S92 O72 B72
                generalize w1.heap.size = g7 at NG GW sX ⊢
                try clear H7W O7W B7W
                have y8 : X.cell? ⟨gb, off + p, none⟩ = some (.int .u8 Y) := by rw [HYB.out]; exact (HS.out.below bX).at p (by have := HNE.out; omega)
                have x70 : X.cell? ⟨g7, 0, none⟩ = some (.int .u8 0) := sX.cell 0
                have x71 : X.cell? ⟨g7, 1, none⟩ = some (.int .i64 (t1 : Int)) := sX.cell 1
                have x72 : X.cell? ⟨g7, 2, none⟩ = some (.int .i64 (t2 : Int)) := sX.cell 2
                have v70 := sX.frozen 0
                have v71 := sX.frozen 1
                have v72 := sX.frozen 2
                have SX : Hid (St 25 X g7 #[.int .u8 0, .int .i64 (t1 : Int), .int .i64 (t2 : Int)]) := sX
                have OX : Hid (X.ownsRow w.heap.size 25 3 u5 k (tcs (tks (bf zs) zs.length true k))) := oX
                have BX : Hid (Below w.heap.size w X) := bX
                have HPS : Hid (ps (bf zs) zs.length true (k + 1) = p + t1) := by show _ = _; rw [HP.out]; exact ps_match (t1 := t1) (t2 := t2) (by rw [← HP.out]; exact HT.out) (by rw [← HP.out, HSN.out]; simp; omega)
                have HTK : Hid (tks (bf zs) zs.length true (k + 1) = tks (bf zs) zs.length true k ++ [(0, (t1 : Int), (t2 : Int))]) := by
                  show tks (bf zs) zs.length true k ++ [tokAt (bf zs) zs.length true (ps (bf zs) zs.length true k)] = _
                  rw [← HP.out, tokAt_match HT.out (by rw [HSN.out]; simp; omega)]
                  try rfl
                clear oX bX sX HT
                rw [← HC8.out]
                go_wp2_with (first | (at_builtin; refine wpList_append_toks rfl (.tmp 53) (.tmp 55) rfl w.heap.size u5 k (tcs (tks (bf zs) zs.length true k)) rfl (World.ownsRow.alloc OX.out _) (some ⟨X.heap.size, 0, none⟩) 1 1 [(0, (t1 : Int), (t2 : Int))] rfl rfl (fun e => by cases e) (by have := tsrc_new X 0 (t1 : Int) (t2 : Int); simpa using this) (by omega) (by have := BX.out.size; simp; omega) ?_; intro v' w3 o3 k3; have s73 := (((show St 25 X g7 #[.int .u8 0, .int .i64 (t1 : Int), .int .i64 (t2 : Int)] from SX.out).kp ((Kp.refl (fun _ => False) _).alloc (.cells #[.int .u8 0, .int .i64 (t1 : Int), .int .i64 (t2 : Int)] 25)) (fun x => x)).kp k3 (fun e => NG.out _ e rfl)); have c71 : w3.cell? ⟨g7, 1, none⟩ = some (.int .i64 (t1 : Int)) := s73.cell 1; have B3 : Hid (Below w.heap.size w w3) := (Below.alloc BX.out (Below.size BX.out) (.cells #[.int .u8 0, .int .i64 (t1 : Int), .int .i64 (t2 : Int)] 25)).trans (k3.below (Below.alloc BX.out (Below.size BX.out) (.cells #[.int .u8 0, .int .i64 (t1 : Int), .int .i64 (t2 : Int)] 25)).size (fun i e => (OX.out.lt i e).1)); have O3 : Hid (w3.ownsRow w.heap.size 25 3 v' (k + 1) (tcs (tks (bf zs) zs.length true (k + 1)))) := (by rw [HTK.out, tcs_append]; exact o3); clear s73 o3 k3))
                exact ⟨⟨k + 1, by rw [HPS.out]; simp, by rw [HPS.out]; omega, O3.out, B3.out⟩, by simp [intOf]; omega⟩
              · have hst2 : ¬ (s1 : Int) ≤ (t1 : Int) := by omega
                refine (rlongest_any zs (some ⟨gb, off, none⟩) N cap (p + 1) _ (by simp) _ HNE.out (by omega) (HS.out.below B7W.out) (by omega) s1 s2 HSN.out true (by simp; omega)).mono ?_
                rintro e w2 ⟨rfl, b2⟩
                have S72 : Hid (St 25 (w2.alloc (.cells #[.int .u8 0, .int .i64 (s1 : Int), .int .i64 (s2 : Int)] 25)) w1.heap.size #[.int .u8 0, .int .i64 (t1 : Int), .int .i64 (t2 : Int)]) := (H7W.out.below b2 H7W.out.lt).kp ((Kp.refl (fun _ => False) _).alloc _) (fun x => x)
                have S92 : Hid (St 25 (w2.alloc (.cells #[.int .u8 0, .int .i64 (s1 : Int), .int .i64 (s2 : Int)] 25)) w2.heap.size #[.int .u8 0, .int .i64 (s1 : Int), .int .i64 (s2 : Int)]) := St.new 25 w2 _
                have O72 : Hid ((w2.alloc (.cells #[.int .u8 0, .int .i64 (s1 : Int), .int .i64 (s2 : Int)] 25)).ownsRow w.heap.size 25 3 u5 k (tcs (tks (bf zs) zs.length true k))) := (ownsRow_kpt O7W.out (Kp.of_below (F := fun _ => False) b2) (fun _ _ x => x)).alloc _
                have B72 : Hid (Below w.heap.size w (w2.alloc (.cells #[.int .u8 0, .int .i64 (s1 : Int), .int .i64 (s2 : Int)] 25))) := (B7W.out.trans (b2.mono B7W.out.size)).alloc (B7W.out.trans (b2.mono B7W.out.size)).size _
                have z71 : (w2.alloc (.cells #[.int .u8 0, .int .i64 (s1 : Int), .int .i64 (s2 : Int)] 25)).cell? ⟨w1.heap.size, 1, none⟩ = some (.int .i64 (t1 : Int)) := S72.out.cell 1
                have z91 : (w2.alloc (.cells #[.int .u8 0, .int .i64 (s1 : Int), .int .i64 (s2 : Int)] 25)).cell? ⟨w2.heap.size, 1, none⟩ = some (.int .i64 (s1 : Int)) := S92.out.cell 1
                clear b2 y71
                go_wp2_with fail
                clear z71 z91
                refine at_worldp (R := fun X => X.ownsRow w.heap.size 25 3 u5 k (tcs (tks (bf zs) zs.length true k)) ∧ Below w.heap.size w X ∧ St 25 X w1.heap.size #[.int .u8 0, .int .i64 (t1 : Int), .int .i64 (t2 : Int)]) ⟨O72.out, B72.out, S72.out⟩ ?_
                rintro X ⟨oX, bX, sX⟩
                clear S72 S92 O72 B72
                generalize w1.heap.size = g7 at NG GW sX ⊢
                try clear H7W O7W B7W
                have y8 : X.cell? ⟨gb, off + p, none⟩ = some (.int .u8 Y) := by rw [HYB.out]; exact (HS.out.below bX).at p (by have := HNE.out; omega)
                have x70 : X.cell? ⟨g7, 0, none⟩ = some (.int .u8 0) := sX.cell 0
                have x71 : X.cell? ⟨g7, 1, none⟩ = some (.int .i64 (t1 : Int)) := sX.cell 1
                have x72 : X.cell? ⟨g7, 2, none⟩ = some (.int .i64 (t2 : Int)) := sX.cell 2
                have v70 := sX.frozen 0
                have v71 := sX.frozen 1
                have v72 := sX.frozen 2
                have SX : Hid (St 25 X g7 #[.int .u8 0, .int .i64 (t1 : Int), .int .i64 (t2 : Int)]) := sX
                have OX : Hid (X.ownsRow w.heap.size 25 3 u5 k (tcs (tks (bf zs) zs.length true k))) := oX
                have BX : Hid (Below w.heap.size w X) := bX
                have HPS : Hid (ps (bf zs) zs.length true (k + 1) = p + 1) := by show _ = _; rw [HP.out]; exact ps_byte (t1 := t1) (t2 := t2) (by rw [← HP.out]; exact HT.out) (.inr ⟨rfl, by rw [← HP.out, HSN.out]; simp; omega⟩)
                have HTK : Hid (tks (bf zs) zs.length true (k + 1) = tks (bf zs) zs.length true k ++ [(Y, 0, 0)]) := by
                  show tks (bf zs) zs.length true k ++ [tokAt (bf zs) zs.length true (ps (bf zs) zs.length true k)] = _
                  rw [← HP.out, tokAt_byte HT.out (.inr ⟨rfl, by rw [HSN.out]; simp; omega⟩)]
                  rw [HYB.out]; rfl
                clear oX bX sX HT
                rw [← HC8.out]
                go_wp2_with (first | (at_builtin; refine wpList_append_toks rfl (.tmp 53) (.tmp 55) rfl w.heap.size u5 k (tcs (tks (bf zs) zs.length true k)) rfl (World.ownsRow.alloc (row_set3 OX.out NG.out) _) (some ⟨X.heap.size, 0, none⟩) 1 1 [(Y, 0, 0)] rfl rfl (fun e => by cases e) (by have := tsrc_new (((X.setCell ⟨g7, 0, none⟩ (.int .u8 Y)).setCell ⟨g7, 1, none⟩ (.int .i64 0)).setCell ⟨g7, 2, none⟩ (.int .i64 0)) Y 0 0; simpa using this) (by omega) (by have := BX.out.size; simp; omega) ?_; intro v' w3 o3 k3; have s73 := (((show St 25 (((X.setCell ⟨g7, 0, none⟩ (.int .u8 Y)).setCell ⟨g7, 1, none⟩ (.int .i64 0)).setCell ⟨g7, 2, none⟩ (.int .i64 0)) g7 #[.int .u8 Y, .int .i64 0, .int .i64 0] from (st_set3 SX.out)).kp ((Kp.refl (fun _ => False) _).alloc (.cells #[.int .u8 Y, .int .i64 0, .int .i64 0] 25)) (fun x => x)).kp k3 (fun e => NG.out _ e rfl)); have c71 : w3.cell? ⟨g7, 1, none⟩ = some (.int .i64 0) := s73.cell 1; have B3 : Hid (Below w.heap.size w w3) := (Below.alloc (below_set3 BX.out GW.out) (Below.size (below_set3 BX.out GW.out)) (.cells #[.int .u8 Y, .int .i64 0, .int .i64 0] 25)).trans (k3.below (Below.alloc (below_set3 BX.out GW.out) (Below.size (below_set3 BX.out GW.out)) (.cells #[.int .u8 Y, .int .i64 0, .int .i64 0] 25)).size (fun i e => (OX.out.lt i e).1)); have O3 : Hid (w3.ownsRow w.heap.size 25 3 v' (k + 1) (tcs (tks (bf zs) zs.length true (k + 1)))) := (by rw [HTK.out, tcs_append]; exact o3); clear s73 o3 k3))
                exact ⟨⟨k + 1, by rw [HPS.out]; simp, by rw [HPS.out]; omega, O3.out, B3.out⟩, by simp [intOf]; omega⟩
          · have h258i : ¬ (t1 : Int) < 258 := by omega
            go_wp2_with fail
            refine (rlongest_any zs (some ⟨gb, off, none⟩) N cap p _ rfl wr HNE.out (by omega) (HS.out.below HBL.out) (by omega) t1 t2 HT.out true (by simp; omega)).mono ?_
            rintro e w1 ⟨rfl, b1⟩
            have s7w : St 25 (w1.alloc (.cells #[.int .u8 0, .int .i64 (t1 : Int), .int .i64 (t2 : Int)] 25)) w1.heap.size #[.int .u8 0, .int .i64 (t1 : Int), .int .i64 (t2 : Int)] := St.new 25 w1 _
            have o7w : (w1.alloc (.cells #[.int .u8 0, .int .i64 (t1 : Int), .int .i64 (t2 : Int)] 25)).ownsRow w.heap.size 25 3 u5 k (tcs (tks (bf zs) zs.length true k)) := (ownsRow_kpt HO.out (Kp.of_below (F := fun _ => False) b1) (fun _ _ x => x)).alloc _
            have b7w : Below w.heap.size w (w1.alloc (.cells #[.int .u8 0, .int .i64 (t1 : Int), .int .i64 (t2 : Int)] 25)) := (HBL.out.trans (b1.mono HBL.out.size)).alloc (HBL.out.trans (b1.mono HBL.out.size)).size _
            have H7W : Hid (St 25 (w1.alloc (.cells #[.int .u8 0, .int .i64 (t1 : Int), .int .i64 (t2 : Int)] 25)) w1.heap.size #[.int .u8 0, .int .i64 (t1 : Int), .int .i64 (t2 : Int)]) := s7w
            have O7W : Hid ((w1.alloc (.cells #[.int .u8 0, .int .i64 (t1 : Int), .int .i64 (t2 : Int)] 25)).ownsRow w.heap.size 25 3 u5 k (tcs (tks (bf zs) zs.length true k))) := o7w
            have B7W : Hid (Below w.heap.size w (w1.alloc (.cells #[.int .u8 0, .int .i64 (t1 : Int), .int .i64 (t2 : Int)] 25))) := b7w
            have NG : Hid (∀ b, u5.ownBlock = some b → b ≠ w1.heap.size) := fun b e => by have := HOL.out b e; have := b1.size; omega
            have GW : Hid (w.heap.size ≤ w1.heap.size) := (HBL.out.trans (b1.mono HBL.out.size)).size
            clear b1 s7w o7w b7w
            have y71 : (w1.alloc (.cells #[.int .u8 0, .int .i64 (t1 : Int), .int .i64 (t2 : Int)] 25)).cell? ⟨w1.heap.size, 1, none⟩ = some (.int .i64 (t1 : Int)) := H7W.out.cell 1
            go_wp2_with fail
            clear y71
            refine at_worldp (R := fun X => X.ownsRow w.heap.size 25 3 u5 k (tcs (tks (bf zs) zs.length true k)) ∧ Below w.heap.size w X ∧ St 25 X w1.heap.size #[.int .u8 0, .int .i64 (t1 : Int), .int .i64 (t2 : Int)]) ⟨O7W.out, B7W.out, H7W.out⟩ ?_
            rintro X ⟨oX, bX, sX⟩
            have hs258 : (lng (bf zs) zs.length (p + 1)).1 ≤ 258 := by
              rcases lng_cases (bf zs) zs.length (p + 1) with h | h
              · rw [h]; simp
              · have := h.2.1; unfold mst at this; omega
            have HS258 : Hid ((lng (bf zs) zs.length (p + 1)).1 ≤ 258) := hs258
            clear hs258
            generalize w1.heap.size = g7 at NG GW sX ⊢
            try clear H7W O7W B7W
            have y8 : X.cell? ⟨gb, off + p, none⟩ = some (.int .u8 Y) := by rw [HYB.out]; exact (HS.out.below bX).at p (by have := HNE.out; omega)
            have x70 : X.cell? ⟨g7, 0, none⟩ = some (.int .u8 0) := sX.cell 0
            have x71 : X.cell? ⟨g7, 1, none⟩ = some (.int .i64 (t1 : Int)) := sX.cell 1
            have x72 : X.cell? ⟨g7, 2, none⟩ = some (.int .i64 (t2 : Int)) := sX.cell 2
            have v70 := sX.frozen 0
            have v71 := sX.frozen 1
            have v72 := sX.frozen 2
            have SX : Hid (St 25 X g7 #[.int .u8 0, .int .i64 (t1 : Int), .int .i64 (t2 : Int)]) := sX
            have OX : Hid (X.ownsRow w.heap.size 25 3 u5 k (tcs (tks (bf zs) zs.length true k))) := oX
            have BX : Hid (Below w.heap.size w X) := bX
            have HPS : Hid (ps (bf zs) zs.length true (k + 1) = p + t1) := by show _ = _; rw [HP.out]; exact ps_match (t1 := t1) (t2 := t2) (by rw [← HP.out]; exact HT.out) (by rw [← HP.out]; have := HS258.out; simp; omega)
            have HTK : Hid (tks (bf zs) zs.length true (k + 1) = tks (bf zs) zs.length true k ++ [(0, (t1 : Int), (t2 : Int))]) := by
              show tks (bf zs) zs.length true k ++ [tokAt (bf zs) zs.length true (ps (bf zs) zs.length true k)] = _
              rw [← HP.out, tokAt_match HT.out (by have := HS258.out; simp; omega)]
              try rfl
            clear oX bX sX HT
            rw [← HC8.out]
            go_wp2_with (first | (at_builtin; refine wpList_append_toks rfl (.tmp 53) (.tmp 55) rfl w.heap.size u5 k (tcs (tks (bf zs) zs.length true k)) rfl (World.ownsRow.alloc OX.out _) (some ⟨X.heap.size, 0, none⟩) 1 1 [(0, (t1 : Int), (t2 : Int))] rfl rfl (fun e => by cases e) (by have := tsrc_new X 0 (t1 : Int) (t2 : Int); simpa using this) (by omega) (by have := BX.out.size; simp; omega) ?_; intro v' w3 o3 k3; have s73 := (((show St 25 X g7 #[.int .u8 0, .int .i64 (t1 : Int), .int .i64 (t2 : Int)] from SX.out).kp ((Kp.refl (fun _ => False) _).alloc (.cells #[.int .u8 0, .int .i64 (t1 : Int), .int .i64 (t2 : Int)] 25)) (fun x => x)).kp k3 (fun e => NG.out _ e rfl)); have c71 : w3.cell? ⟨g7, 1, none⟩ = some (.int .i64 (t1 : Int)) := s73.cell 1; have B3 : Hid (Below w.heap.size w w3) := (Below.alloc BX.out (Below.size BX.out) (.cells #[.int .u8 0, .int .i64 (t1 : Int), .int .i64 (t2 : Int)] 25)).trans (k3.below (Below.alloc BX.out (Below.size BX.out) (.cells #[.int .u8 0, .int .i64 (t1 : Int), .int .i64 (t2 : Int)] 25)).size (fun i e => (OX.out.lt i e).1)); have O3 : Hid (w3.ownsRow w.heap.size 25 3 v' (k + 1) (tcs (tks (bf zs) zs.length true (k + 1)))) := (by rw [HTK.out, tcs_append]; exact o3); clear s73 o3 k3))
            exact ⟨⟨k + 1, by rw [HPS.out]; simp, by rw [HPS.out]; omega, O3.out, B3.out⟩, by simp [intOf]; omega⟩
    · obtain rfl : p = N := by omega
      go_wp2
      go_ret
      exact ⟨u5, k, rfl, by show ps _ _ _ _ = _; rw [← HP.out, HNE.out], HO.out, HBL.out⟩
end Go.Proofs.Ytofmoggejfopiaa
