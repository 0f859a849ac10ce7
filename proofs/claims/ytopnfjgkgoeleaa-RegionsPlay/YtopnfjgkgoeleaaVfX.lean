/- RegionsPlay: the law's gaps. -/
import Derived.Test.YtopnfjgkgoeleaaQc
import Derived.Test.YtopnfjgkgoeleaaVg
import Derived.Test.YtopnfjgkgoeleaaAc
import Derived.Test.YtopnfjgkgoeleaaVgX
namespace Go.Proofs.Ytopnfjgkgoeleaa
open Go.RowKit
set_option linter.unusedVariables false
set_option linter.unusedSimpArgs false
theorem Try.inf106 : (Try.prog.info? 106).map (fun i => (i.zero, i.size, i.bytes)) = some (some (.agg #[.int .i64 0, .int .i64 0]), 2, 16) := by kernel_rfl
def flg (l : List (Int × Int)) : List Value := l.flatMap (fun g => [.int .i64 g.1, .int .i64 g.2])
theorem flg_len (l : List (Int × Int)) : (flg l).length = l.length * 2 := by
  induction l with
  | nil => rfl
  | cons g l ih => simp only [flg, List.flatMap_cons, List.length_append, List.length_cons, List.length_nil] at *; omega
theorem flg_append (l m : List (Int × Int)) : flg (l ++ m) = flg l ++ flg m := by simp [flg]
/-- A row of runs of one's own. -/
def Owng (w : World) (base : Nat) (v : Value) (l : List (Int × Int)) : Prop := w.ownsRow base 106 2 v l.length (flg l)
theorem Owng.nil (w : World) (base : Nat) : Owng w base (.slice none 0 0) [] := World.ownsRow_nil w base 106 2
theorem own_appg {w : World} {base b : Nat} {v : Value} {l : List (Int × Int)} {g : Int × Int} {ty : TypeId} (h : Owng w base v l) (hb : St 106 w b #[.int .i64 g.1, .int .i64 g.2]) (hl : l.length ≤ 100000) (hbase : base ≤ w.heap.size) :
    ∃ v' w', (Builtin.append_ #[86, 86] ty #[v, .slice (some ⟨b, 0, none⟩) 1 1]).run Try.prog w = .ok v' w' ∧ Owng w' base v' (l ++ [g]) ∧ Kp (fun i => v.ownBlock = some i) w w' := by
  obtain ⟨i0, hi, hz0, hz1, hz2⟩ := info_parts Try.inf106
  obtain ⟨v', w', h1, h2, h3, h4, h5⟩ := run_append_own_at (P := Try.prog) w base 86 ty 106 i0 _ 2 16 Try.underlying86 hi hz0 hz1 hz2 rfl (by decide) v l.length (flg l) h ⟨b, 0, none⟩ 1 1 [.int .i64 g.1, .int .i64 g.2] rfl (fun j u hu => by rw [add_z, hb.cell j]; simpa using hu) (fun u hu => by simp at hu; rcases hu with rfl | rfl <;> rfl) (by unfold maxLen; omega) (by omega) hbase
  refine ⟨v', w', h1, ?_, Kp.of_grown h3 (fun i e => e)⟩
  unfold Owng
  rw [flg_append, List.length_append, List.length_singleton]
  simpa [flg] using h2
/-- What Gaps' loop holds. -/
structure GI (l : List Rn) (u : Int) (k : Nat) (at_ : Int) (acc : List (Int × Int)) : Prop where
  eq : acc ++ gps u at_ (l.drop k) = gps u 0 l
  lo : 0 ≤ at_ ∧ at_ ≤ 72057594037927936
  hi : ∀ j, k ≤ j → j < l.length → at_ ≤ (l.getD j zRn).a
  few : acc.length ≤ k
theorem GI.zero {l : List Rn} (h : Srt l) (u : Int) : GI l u 0 0 [] := ⟨by simp, by omega, fun j _ hj => (h.may hj).2.2.1, Nat.le_refl _⟩
theorem gps_done {l : List Rn} {u p : Int} {k : Nat} (hu : u ≤ p) (hi : ∀ j, k ≤ j → j < l.length → p ≤ (l.getD j zRn).a) : gps u p (l.drop k) = [] := by
  by_cases hk : k < l.length
  · have h1 := hi k (Nat.le_refl _) hk
    rw [gd hk] at h1
    rw [List.drop_eq_getElem_cons hk, gps_brk (by omega)]
    unfold gpl
    rw [if_neg (by omega)]
  · rw [List.drop_eq_nil_of_le (by omega), gps_nil]
    unfold gpl
    rw [if_neg (by omega)]
theorem GI.hi' {l : List Rn} (h : Srt l) {k : Nat} (hk : k < l.length) : ∀ j, k + 1 ≤ j → j < l.length → (l.getD k zRn).e ≤ (l.getD j zRn).a := fun j h1 h2 => h.lt (by omega) h2
theorem GI.brk {l : List Rn} (h : Srt l) {u : Int} {k : Nat} {at_ : Int} {acc : List (Int × Int)} (g : GI l u k at_ acc) (hk : k < l.length) (hu : u ≤ (l.getD k zRn).a) : GI l u (k + 1) (l.getD k zRn).e (acc ++ gpl u at_) := by
  have hm := h.may hk
  have he : u ≤ (l.getD k zRn).e := by unfold Mayr at hm; unfold Rn.e; omega
  refine ⟨?_, by unfold Mayr at hm; unfold Rn.e; omega, GI.hi' h hk, ?_⟩
  · rw [gps_done he (GI.hi' h hk), List.append_nil, ← g.eq, List.drop_eq_getElem_cons hk, gps_brk (by rw [← gd hk]; exact hu)]
  · have := g.few
    rw [List.length_append]
    unfold gpl
    split <;> simp <;> omega
theorem GI.tell {l : List Rn} (h : Srt l) {u : Int} {k : Nat} {at_ : Int} {acc : List (Int × Int)} (g : GI l u k at_ acc) (hk : k < l.length) (hu : ¬ u ≤ (l.getD k zRn).a) (ht : at_ < (l.getD k zRn).a) : GI l u (k + 1) (l.getD k zRn).e (acc ++ [(at_, (l.getD k zRn).a - at_)]) := by
  have hm := h.may hk
  refine ⟨?_, by unfold Mayr at hm; unfold Rn.e; omega, GI.hi' h hk, by have := g.few; simp; omega⟩
  have h1 : gps u at_ (l.drop k) = (at_, (l.getD k zRn).a - at_) :: gps u (l.getD k zRn).e (l.drop (k + 1)) := by
    rw [List.drop_eq_getElem_cons hk, ← gd hk, gps_tell hu ht]
  rw [← g.eq, h1, List.append_assoc]
  rfl
theorem GI.skip {l : List Rn} (h : Srt l) {u : Int} {k : Nat} {at_ : Int} {acc : List (Int × Int)} (g : GI l u k at_ acc) (hk : k < l.length) (hu : ¬ u ≤ (l.getD k zRn).a) (ht : ¬ at_ < (l.getD k zRn).a) : GI l u (k + 1) (l.getD k zRn).e acc := by
  have hm := h.may hk
  refine ⟨?_, by unfold Mayr at hm; unfold Rn.e; omega, GI.hi' h hk, by have := g.few; omega⟩
  rw [← g.eq, List.drop_eq_getElem_cons hk, ← gd hk, gps_skip hu ht]
theorem GI.end {l : List Rn} {u : Int} {at_ : Int} {acc : List (Int × Int)} (g : GI l u l.length at_ acc) : acc ++ gpl u at_ = gps u 0 l := by
  have h1 := g.eq
  rw [List.drop_length, gps_nil] at h1
  exact h1
end Go.Proofs.Ytopnfjgkgoeleaa

namespace Go.Proofs.Ytopnfjgkgoeleaa
open Go.RowKit
set_option linter.unusedVariables false
set_option linter.unusedSimpArgs false
theorem owng_blk {w : World} {base g : Nat} {v : Value} {l : List (Int × Int)} (h : Owng w base v l) (e : v.ownBlock = some g) : base ≤ g := by
  rcases h.2 with ⟨e0, _⟩ | ⟨g2, cap, cur, e0, h1, h2, _⟩
  · rw [e0] at e; cases e
  · rw [e0] at e
    cases e
    exact h1
set_option maxRecDepth 100000 in
set_option maxHeartbeats 16000000 in
theorem rgaps_any (w : World) (q : Nat) (l : List Rn) (u : Int) (hu6 : I6 u) (h : RL q w l) :
    Calls Try.prog 40 #[.pointer (some ⟨q, 0, none⟩), .int .i64 u] w fun e w' => ∃ v, e = .returned v ∧ Owng w' w.heap.size v (gps (mn u) 0 l) ∧ Kp (fun _ => False) w w' := by
  obtain ⟨ao, cap, hq, hs, ht, hc1, hc2, hz⟩ := h.mem
  have HQ := hid hq
  have HS := hid hs
  have HSR := hid h.srt
  have hl6 := h.len
  obtain ⟨n, hn⟩ : ∃ n, n = l.length := ⟨_, rfl⟩
  rw [← hn] at HQ hl6 hc1
  have HL := hid hn
  have hu1 : -9223372036854775808 ≤ mn u ∧ mn u ≤ 72057594037927936 := by unfold mn; unfold I6 at hu6; split <;> omega
  clear hn hq hs h ht hz
  unfold maxLen at hc2
  go_enter Try.func40, Try.ntmps40
  go_upto_region 1 with fail
  go_cut [1] from 9 to 10 (fun v wx => v = .int .i64 (mn u) ∧ wx = w)
  case first =>
    by_cases hu : 72057594037927936 < u
    · go_wp2_with fail
      go_meet
      case rel => exact ⟨by rw [show mn u = 72057594037927936 by unfold mn; rw [if_pos (by omega)]], rfl⟩
    · go_wp2_with fail
      go_meet
      case rel => exact ⟨by rw [show mn u = u by unfold mn; rw [if_neg (by omega)]], rfl⟩
  case rest =>
  obtain ⟨rfl, rfl⟩ := hcut
  obtain ⟨u1, hu1e⟩ : ∃ u1, u1 = mn u := ⟨_, rfl⟩
  rw [← hu1e] at hu1 ⊢
  have HU := hid hu1e
  clear hu6 hu1e
  go_wp2_with fail
  go_loopw [5, 6, 7] (fun v a i wr => ∃ (k : Nat) (at_ : Int) (acc : List (Int × Int)), i = .int .i64 (k : Int) ∧ a = .int .i64 at_ ∧ Hid (Kp (fun _ => False) wc wr) ∧ Hid (Owng wr wc.heap.size v acc) ∧ ((k ≤ n ∧ Hid (GI l u1 k at_ acc)) ∨ (k = n + 1 ∧ acc = gps u1 0 l))) (fun _ _ i _ => n + 1 - (intOf i).toNat)
  case atStart => exact ⟨0, 0, [], rfl, rfl, Kp.refl _ _, Owng.nil _ _, .inl ⟨Nat.zero_le _, GI.zero HSR.out u1⟩⟩
  case round =>
    obtain ⟨k, at_, acc, rfl, rfl, HK, HO, hor⟩ := hrel
    have zq : wr.cell? ⟨q, 0, none⟩ = some (.slice ao n cap) := (HQ.out.kp HK.out (fun h => h)).cell 0
    rcases hor with ⟨hk, HG⟩ | ⟨rfl, rfl⟩
    · by_cases hlt : k < n
      · have hkl : k < l.length := by have := HL.out; omega
        obtain ⟨gb, off, rfl, _, x0, x1, x2⟩ := (HS.out.kp HK.out (fun _ _ _ _ h => h)).at (i := k) hkl
        have hxm := HSR.out.may hkl
        have HB1 := hid (HG.out.brk HSR.out hkl)
        have HB2 := hid (HG.out.tell HSR.out hkl)
        have HB3 := hid (HG.out.skip HSR.out hkl)
        obtain ⟨x, hx⟩ : ∃ x, x = l.getD k zRn := ⟨_, rfl⟩
        have HXC : Hid (∀ U, Kp (fun _ => False) wc U → U.cell? ⟨gb, off + k * 3 + 1, none⟩ = some (.int .i64 x.a) ∧ U.cell? ⟨gb, off + k * 3 + 2, none⟩ = some (.int .i64 x.n)) := fun U ku => by
          obtain ⟨g2, o2, e2, _, _, y1, y2⟩ := (HS.out.kp ku (fun _ _ _ _ h => h)).at (i := k) hkl
          cases e2
          rw [hx]
          exact ⟨y1, y2⟩
        rw [← hx] at x0 x1 x2 hxm HB1 HB2 HB3
        unfold Mayr at hxm
        have w4 : IntKind.i64.wrap (x.a + x.n) = x.a + x.n := by rw [IntKind.wrap_i64]; omega
        have hk0 : (0 : Int) ≤ (k : Int) := by omega
        have hki : (k : Int) < (n : Int) := by omega
        have hkj : (k : Int) ≤ (n : Int) := by omega
        have hxe : x.e = x.a + x.n := rfl
        rw [hxe] at HB1 HB2 HB3
        clear hx hkl hxe
        by_cases hux : u1 ≤ x.a
        · by_cases hat : at_ < u1
          · skip
            have HNX := hid (HB1.out hux)
            rw [show gpl u1 at_ = [(at_, u1 - at_)] by unfold gpl; rw [if_pos hat]] at HNX
            have w5 : IntKind.i64.wrap (u1 - at_) = u1 - at_ := by rw [IntKind.wrap_i64]; have := HG.out.lo; omega
            have ka : Kp (fun _ => False) wr (wr.alloc (.cells #[.int .i64 at_, .int .i64 (u1 - at_)] 106)) := (Kp.refl _ _).alloc _
            obtain ⟨v9, w9, rr, o9, k9⟩ := own_appg (ty := 86) (g := (at_, u1 - at_)) (own_kp HO.out ka (fun _ _ h => h)) (St.new 106 wr #[.int .i64 at_, .int .i64 (u1 - at_)]) (by have := HG.out.few; omega) (Nat.le_trans HK.out.size ka.size)
            have K9 : Hid (Kp (fun _ => False) wc w9) := (HK.out.trans ka (fun _ _ h => h)).trans k9 (fun i hi e => by have := (owng_blk HO.out e); omega)
            have O9 := hid o9
            have yq9 : w9.cell? ⟨q, 0, none⟩ = some (.slice (some ⟨gb, off, none⟩) n cap) := (HQ.out.kp K9.out (fun h => h)).cell 0
            obtain ⟨z1, z2⟩ := HXC.out w9 K9.out
            clear o9 k9 ka
            go_wp2_with (at_builtin; refine Lib.wpList_append_run _ rfl _ _ _ _ rfl _ _ rfl rfl _ _ rr ?_; clear rr)
            go_quiet (fail)
            go_wp2_with fail
            go_roundw
            case rel => exact ⟨k + 1, x.a + x.n, acc ++ [(at_, u1 - at_)], by go_num, rfl, K9.out.trans (drewN_kp _ _ _) (fun _ _ h => h), own_kp O9.out (drewN_kp (fun _ => False) _ _) (fun _ _ h => h), .inl ⟨by omega, HNX⟩⟩
            case measure => first | (simp [intOf]; done) | (simp [intOf]; omega)
          · skip
            have HNX := hid (HB1.out hux)
            rw [show gpl u1 at_ = [] by unfold gpl; rw [if_neg hat], List.append_nil] at HNX
            go_wp2_with fail
            go_quiet (fail)
            go_wp2_with fail
            go_roundw
            case rel => exact ⟨k + 1, x.a + x.n, acc, by go_num, rfl, HK.out.trans (drewN_kp _ _ _) (fun _ _ h => h), own_kp HO.out (drewN_kp (fun _ => False) _ _) (fun _ _ h => h), .inl ⟨by omega, HNX⟩⟩
            case measure => first | (simp [intOf]; done) | (simp [intOf]; omega)
        · by_cases hat : at_ < x.a
          · skip
            have HNX := hid (HB2.out hux hat)
            have w5 : IntKind.i64.wrap (x.a - at_) = x.a - at_ := by rw [IntKind.wrap_i64]; have := HG.out.lo; omega
            have ka : Kp (fun _ => False) wr (wr.alloc (.cells #[.int .i64 at_, .int .i64 (x.a - at_)] 106)) := (Kp.refl _ _).alloc _
            obtain ⟨v9, w9, rr, o9, k9⟩ := own_appg (ty := 86) (g := (at_, x.a - at_)) (own_kp HO.out ka (fun _ _ h => h)) (St.new 106 wr #[.int .i64 at_, .int .i64 (x.a - at_)]) (by have := HG.out.few; omega) (Nat.le_trans HK.out.size ka.size)
            have K9 : Hid (Kp (fun _ => False) wc w9) := (HK.out.trans ka (fun _ _ h => h)).trans k9 (fun i hi e => by have := (owng_blk HO.out e); omega)
            have O9 := hid o9
            have yq9 : w9.cell? ⟨q, 0, none⟩ = some (.slice (some ⟨gb, off, none⟩) n cap) := (HQ.out.kp K9.out (fun h => h)).cell 0
            obtain ⟨z1, z2⟩ := HXC.out w9 K9.out
            clear o9 k9 ka
            go_wp2_with (at_builtin; refine Lib.wpList_append_run _ rfl _ _ _ _ rfl _ _ rfl rfl _ _ rr ?_; clear rr)
            go_quiet (fail)
            go_wp2_with fail
            go_roundw
            case rel => exact ⟨k + 1, x.a + x.n, acc ++ [(at_, x.a - at_)], by go_num, rfl, K9.out.trans (drewN_kp _ _ _) (fun _ _ h => h), own_kp O9.out (drewN_kp (fun _ => False) _ _) (fun _ _ h => h), .inl ⟨by omega, HNX⟩⟩
            case measure => first | (simp [intOf]; done) | (simp [intOf]; omega)
          · skip
            have HNX := hid (HB3.out hux hat)
            go_wp2_with fail
            go_quiet (fail)
            go_wp2_with fail
            go_roundw
            case rel => exact ⟨k + 1, x.a + x.n, acc, by go_num, rfl, HK.out.trans (drewN_kp _ _ _) (fun _ _ h => h), own_kp HO.out (drewN_kp (fun _ => False) _ _) (fun _ _ h => h), .inl ⟨by omega, HNX⟩⟩
            case measure => first | (simp [intOf]; done) | (simp [intOf]; omega)
      · obtain rfl : k = n := by omega
        have hki : ¬ (k : Int) < (k : Int) := by omega
        have hkj : (k : Int) ≤ (k : Int) := by omega
        have HGE : Hid (acc ++ gpl u1 at_ = gps u1 0 l) := by
          have h9 := HG.out
          rw [HL.out] at h9
          exact h9.end
        by_cases hat : at_ < u1
        · skip
          have HNX := HGE.out
          rw [show gpl u1 at_ = [(at_, u1 - at_)] by unfold gpl; rw [if_pos hat]] at HNX
          have w5 : IntKind.i64.wrap (u1 - at_) = u1 - at_ := by rw [IntKind.wrap_i64]; have := HG.out.lo; omega
          have HNX := hid HNX
          have ka : Kp (fun _ => False) wr (wr.alloc (.cells #[.int .i64 at_, .int .i64 (u1 - at_)] 106)) := (Kp.refl _ _).alloc _
          obtain ⟨v9, w9, rr, o9, k9⟩ := own_appg (ty := 86) (g := (at_, u1 - at_)) (own_kp HO.out ka (fun _ _ h => h)) (St.new 106 wr #[.int .i64 at_, .int .i64 (u1 - at_)]) (by have := HG.out.few; omega) (Nat.le_trans HK.out.size ka.size)
          have K9 : Hid (Kp (fun _ => False) wc w9) := (HK.out.trans ka (fun _ _ h => h)).trans k9 (fun i hi e => by have := (owng_blk HO.out e); omega)
          have O9 := hid o9
          have yq9 : w9.cell? ⟨q, 0, none⟩ = some (.slice ao k cap) := (HQ.out.kp K9.out (fun h => h)).cell 0
          clear o9 k9 ka
          go_wp2_with (at_builtin; refine Lib.wpList_append_run _ rfl _ _ _ _ rfl _ _ rfl rfl _ _ rr ?_; clear rr)
          go_roundw
          case rel => exact ⟨k + 1, at_, acc ++ [(at_, u1 - at_)], by go_num, rfl, K9, O9, .inr ⟨rfl, HNX.out⟩⟩
          case measure => first | (simp [intOf]; done) | (simp [intOf]; omega)
        · skip
          have HNX := HGE.out
          rw [show gpl u1 at_ = [] by unfold gpl; rw [if_neg hat], List.append_nil] at HNX
          have HNX := hid HNX
          go_wp2_with fail
          go_roundw
          case rel => exact ⟨k + 1, at_, acc, by go_num, rfl, HK, HO, .inr ⟨rfl, HNX.out⟩⟩
          case measure => first | (simp [intOf]; done) | (simp [intOf]; omega)
    · have hki : ¬ ((n + 1 : Nat) : Int) ≤ (n : Int) := by omega
      have hki2 : ¬ (n : Int) + 1 ≤ (n : Int) := by omega
      go_wp2_with fail
      go_ret
      exact ⟨_, rfl, by rw [← HU.out]; first | exact HO.out | (have h9 := HO.out; simpa using h9), HK.out⟩
end Go.Proofs.Ytopnfjgkgoeleaa

namespace Go.Proofs.Ytopnfjgkgoeleaa
open Go.RowKit Go.Shelf
attribute [local go_sem] Oper.semAt_some
set_option linter.unusedVariables false
set_option linter.unusedSimpArgs false
set_option maxRecDepth 100000 in
set_option maxHeartbeats 4000000 in
theorem gap_seq3 (n : Nat) (hn : 1 ≤ n) (bt bu : Nat) (ao : Option Addr) (c : Nat) (L : List Rn) (u : Int) (w : World) (hu : -9223372036854775808 ≤ u ∧ u ≤ 72057594037927936) (hl : L.length ≤ 65536) (hlc : L.length ≤ c) (hL : Srt L) (hs : Srcr w ao L) (s1 : St 73 w bt #[.slice ao L.length c]) (s2 : St 2 w bu #[.int .i64 u]) :
    SeqW Fence.wide n Try.prog 62 #[] #[.pointer (some ⟨bt, 0, none⟩), .pointer (some ⟨bu, 0, none⟩)] genc (fun ys Y => ys = gps u 0 L ∧ KR (ROg bt bu ao L) w Y) (fun pre Y => (∃ rest, pre ++ rest = gps u 0 L) ∧ KR (ROg bt bu ao L) w Y) (fun pre => ∃ rest, pre ++ rest = gps u 0 L) (ROg bt bu ao L) w := by
  intro l J Jx W hW hA hAx hY h0
  have S0 := hid (hs.below hW)
  have T1 := hid (s1.below hW s1.lt)
  have T2 := hid (s2.below hW s2.lt)
  have HL := hid hL
  have LB : Hid (∀ i, ROg bt bu ao L i → i < W.heap.size) := by
    rintro i (rfl | rfl | ⟨hp, off, e⟩)
    · exact Nat.lt_of_lt_of_le s1.lt hW.size
    · exact Nat.lt_of_lt_of_le s2.lt hW.size
    · obtain ⟨g, of2, e2, hb, _⟩ := S0.out hp
      rw [e] at e2
      cases e2
      exact hb
  have LW : Hid (∀ i, ROg bt bu ao L i → i < w.heap.size) := by
    rintro i (rfl | rfl | ⟨hp, off, e⟩)
    · exact s1.lt
    · exact s2.lt
    · obtain ⟨g, of2, e2, hb, _⟩ := hs hp
      rw [e] at e2
      cases e2
      exact hb
  have HKW : Hid (∀ Y, KR (ROg bt bu ao L) W Y → KR (ROg bt bu ao L) w Y) := fun Y h i hi => (h i hi).trans (hW.block i (LW.out i hi))
  clear hs s1 s2 hW hL
  obtain ⟨N, hN⟩ : ∃ N, N = L.length := ⟨_, rfl⟩
  have c0 : W.cell? ⟨bt, 0, none⟩ = some (.slice ao N c) := by rw [hN]; exact T1.out.cell 0
  have HY := hid hY
  rw [← hN] at hl hlc
  have HN := hid hN
  obtain ⟨GS, hGS⟩ : ∃ GS, GS = gps u 0 L := ⟨_, rfl⟩
  rw [← hGS] at HY
  have HGS := hid hGS
  clear hN hY hGS hAx
  have HYE : Hid (∀ (pre : List (Int × Int)) (g : Int × Int) (rest : List (Int × Int)) (O : Nat → Prop) (X : World), J pre O X → GS = pre ++ g :: rest → YieldAt Fence.wide (n - 1) Try.prog l #[.int .i64 g.1, .int .i64 g.2] X fun e W' => (e = .returned (.bool true) ∧ J (pre ++ [g]) O W' ∧ Kp (fun i => ¬ O i) X W') ∨ (e = .returned (.bool false) ∧ Jx (pre ++ [g]) O W' ∧ Kp (fun i => ¬ O i) X W')) := fun pre g rest O X hJ he => HY.out pre O g X hJ ⟨rest, by rw [he]; simp⟩
  refine callsIn_of_wp Try.func62 rfl trivial ?_ rfl
  simp only [Try.ntmps62, List.size_toArray, List.length_cons, List.length_nil, Nat.reduceAdd, Nat.reduceSub, Array.replicate_succ, Array.replicate_zero, List.push_toArray, List.append_toArray, List.nil_append, List.cons_append]
  gi_wp2_with fail
  gi_loopw [4, 9] (fun a i wr => ∃ (k : Nat) (p : Int) (pre : List (Int × Int)) (O : Nat → Prop), i = .int .i64 k ∧ a = .int .i64 p ∧ k ≤ N ∧ (0 ≤ p ∧ p ≤ 72057594037927936) ∧ Hid (GS = pre ++ gps u p (L.drop k)) ∧ Hid (J pre O wr) ∧ Hid (∀ i, ROg bt bu ao L i → O i) ∧ Hid (KR (ROg bt bu ao L) W wr)) (fun _ i _ => N - (intOf i).toNat)
  case atStart => exact ⟨0, 0, [], _, rfl, rfl, Nat.zero_le _, by omega, by rw [List.drop_zero]; exact HGS, h0, fun _ h => h, fun _ _ => rfl⟩
  case round =>
    clear c0
    obtain ⟨k, p, pre, O, rfl, rfl, hk, hp, HG, HJ, HOS, HKR⟩ := hrel
    have cu : wr.cell? ⟨bu, 0, none⟩ = some (.int .i64 u) := by
      have hb := HKR.out bu (Or.inr (Or.inl rfl))
      have h := T2.out.cell 0
      unfold World.cell? at h ⊢
      simp only [hb]
      exact h
    by_cases hlt : k < N
    · have hkl : k < L.length := by have := HN.out; omega
      have HMY := HL.out.may hkl
      have HDR : Hid (L.drop k = L.getD k zRn :: L.drop (k + 1)) := by
        show _ = _
        rw [List.drop_eq_getElem_cons hkl, ← gd hkl]
      rw [HDR.out] at HG
      obtain ⟨gb, off, rfl, hgb, x0, x1, x2⟩ := (srcr_blk S0.out (fun i off hp e => HKR.out i (Or.inr (Or.inr ⟨hp, off, e⟩)))).at (i := k) hkl
      clear HDR
      generalize L.getD k zRn = x at *
      have HEN : Hid (∀ W, Calls Try.prog 42 #[.agg x.cs] W fun e w' => e = .returned (.int .i64 x.e) ∧ Below W.heap.size W w') := fun W => end_any x W HMY
      unfold Mayr at HMY
      obtain ⟨hm1, hm2, hm3, hm4, hm5⟩ := HMY
      have hee : 0 ≤ x.e ∧ x.e ≤ 72057594037927936 := by unfold Rn.e; omega
      have HBU : Hid (bu < wr.heap.size) := kr_lt HKR.out (Or.inr (Or.inl rfl)) (LB.out bu (Or.inr (Or.inl rfl)))
      have HKR2 : Hid (∀ w2, Kp (fun _ => False) wr w2 → KR (ROg bt bu (some ⟨gb, off, none⟩) L) W w2) := fun w2 K2 i hi => (K2.block i (kr_lt HKR.out hi (LB.out i hi)) (fun x => x)).trans (HKR.out i hi)
      have HKR3 : Hid (∀ w2 w3, Kp (fun _ => False) wr w2 → Kp (fun i => ¬ (O i ∨ (wr.heap.size ≤ i ∧ i < w2.heap.size))) w2 w3 → KR (ROg bt bu (some ⟨gb, off, none⟩) L) w w3) := fun w2 w3 k2 k3 => HKW.out _ (fun i hi => (k3.block i (kr_lt (HKR2.out w2 k2) hi (LB.out i hi)) (fun x => x (Or.inl (HOS.out i hi)))).trans (HKR2.out w2 k2 i hi))
      by_cases hux : u ≤ x.a
      · rw [gps_brk hux] at HG
        unfold gpl at HG
        by_cases hpu : p < u
        · rw [if_pos hpu] at HG
          have hw1 : IntKind.i64.wrap (u - p) = u - p := by rw [IntKind.wrap_i64]; omega
          gi_wp2_with (first | (refine wpListIn_store_r (by rfl) (.tmp 6) (.tmp 12) rfl wr.heap.size rfl (e := zRn) (e' := x) rfl (Rn.B.new wr zRn) ?_; intro w2 b2 j2; have k2 : Kp (fun _ => False) wr w2 := ((Kp.refl (fun _ => False) wr).alloc _).trans j2 (fun i h1 h2 => by omega); have E2 := hid b2; have K2 := hid k2; have J2 := hid (hA _ O wr w2 HJ.out (k2.mono (fun _ _ x => x.elim))); have cu2 : w2.cell? ⟨bu, 0, none⟩ = some (.int .i64 u) := (by have hb := k2.block bu HBU.out (fun x => x); unfold World.cell? at cu ⊢; simp only [hb]; exact cu); have y1 : w2.cell? ⟨wr.heap.size, 1, none⟩ = some (.int .i64 x.a) := b2.cell 1; clear k2 j2 b2 x0 x1 x2 cu; obtain ⟨fn, tmps, assign, body, hy, hR⟩ := HYE.out pre (p, u - p) [] _ _ J2.out HG.out; dsimp only at hy; have HR := hid hR; clear hR))
          refine HR.out.mono ?_
          rintro ee w3 (⟨rfl, hJ3, hk3⟩ | ⟨rfl, hJx3, hk3⟩)
          · gi_wp2
            go_end0
            exact ⟨⟨_, rfl⟩, .inl ⟨_, _, ⟨by rw [← HGS.out, HG.out], HKR3.out w2 w3 K2.out hk3⟩, hJ3⟩⟩
          · gi_wp2
            go_end0
            exact ⟨⟨_, rfl⟩, .inr ⟨_, _, ⟨⟨[], by rw [← HGS.out, HG.out]; simp⟩, HKR3.out w2 w3 K2.out hk3⟩, hJx3⟩⟩
        · rw [if_neg hpu, List.append_nil] at HG
          gi_wp2_with (first | (refine wpListIn_store_r (by rfl) (.tmp 6) (.tmp 12) rfl wr.heap.size rfl (e := zRn) (e' := x) rfl (Rn.B.new wr zRn) ?_; intro w2 b2 j2; have k2 : Kp (fun _ => False) wr w2 := ((Kp.refl (fun _ => False) wr).alloc _).trans j2 (fun i h1 h2 => by omega); have E2 := hid b2; have K2 := hid k2; have J2 := hid (hA _ O wr w2 HJ.out (k2.mono (fun _ _ x => x.elim))); have cu2 : w2.cell? ⟨bu, 0, none⟩ = some (.int .i64 u) := (by have hb := k2.block bu HBU.out (fun x => x); unfold World.cell? at cu ⊢; simp only [hb]; exact cu); have y1 : w2.cell? ⟨wr.heap.size, 1, none⟩ = some (.int .i64 x.a) := b2.cell 1; clear k2 j2 b2 x0 x1 x2 cu))
          go_end0
          first | exact ⟨⟨_, rfl⟩, .inl ⟨_, _, ⟨rfl, HKW.out _ (HKR2.out w2 K2.out)⟩, by rw [← HGS.out, HG.out]; exact J2.out⟩⟩ | exact ⟨⟨_, rfl⟩, .inl ⟨_, ⟨rfl, HKW.out _ (HKR2.out w2 K2.out)⟩, _, by rw [← HGS.out, HG.out]; exact J2.out⟩⟩
      · by_cases hpx : p < x.a
        · rw [gps_tell hux hpx] at HG
          have hw1 : IntKind.i64.wrap (x.a - p) = x.a - p := by rw [IntKind.wrap_i64]; omega
          gi_wp2_with (first | (refine wpListIn_store_r (by rfl) (.tmp 6) (.tmp 12) rfl wr.heap.size rfl (e := zRn) (e' := x) rfl (Rn.B.new wr zRn) ?_; intro w2 b2 j2; have k2 : Kp (fun _ => False) wr w2 := ((Kp.refl (fun _ => False) wr).alloc _).trans j2 (fun i h1 h2 => by omega); have E2 := hid b2; have K2 := hid k2; have J2 := hid (hA _ O wr w2 HJ.out (k2.mono (fun _ _ x => x.elim))); have cu2 : w2.cell? ⟨bu, 0, none⟩ = some (.int .i64 u) := (by have hb := k2.block bu HBU.out (fun x => x); unfold World.cell? at cu ⊢; simp only [hb]; exact cu); have y1 : w2.cell? ⟨wr.heap.size, 1, none⟩ = some (.int .i64 x.a) := b2.cell 1; clear k2 j2 b2 x0 x1 x2 cu; obtain ⟨fn, tmps, assign, body, hy, hR⟩ := HYE.out pre (p, x.a - p) (gps u x.e (L.drop (k + 1))) _ _ J2.out HG.out; dsimp only at hy; have HR := hid hR; clear hR))
          have KR2 := hid (HKR2.out w2 K2.out)
          refine HR.out.mono ?_
          rintro ee w3 (⟨rfl, hJ3, hk3⟩ | ⟨rfl, hJx3, hk3⟩)
          · have KR3 : Hid (KR (ROg bt bu (some ⟨gb, off, none⟩) L) W w3) := fun i hi => (hk3.block i (kr_lt KR2.out hi (LB.out i hi)) (fun x => x (Or.inl (HOS.out i hi)))).trans (KR2.out i hi)
            have E3 := hid (E2.out.kp hk3 (fun h => h (Or.inr ⟨Nat.le_refl _, E2.out.lt⟩)))
            have HJ3 := hid hJ3
            clear hk3 hJ3
            gi_wp2_with (first | (refine wpListIn_load_r (by rfl) (.tmp 6) rfl wr.heap.size rfl E3.out ?_) | (refine ⟨trivial, ?_⟩; gi_at_call 42; refine (callsIn_wide.2 (HEN.out _)).mono ?_; rintro e w5 ⟨rfl, b5⟩; have B5 := hid b5; clear b5) | (gi_at_call 42; refine (callsIn_wide.2 (HEN.out _)).mono ?_; rintro e w5 ⟨rfl, b5⟩; have B5 := hid b5; clear b5))
            have J5 := hid (hA _ _ _ _ HJ3.out (Kp.of_below B5.out))
            have KR5 : Hid (KR (ROg bt bu (some ⟨gb, off, none⟩) L) W w5) := fun i hi => (B5.out.block i (kr_lt KR3.out hi (LB.out i hi))).trans (KR3.out i hi)
            go_roundw
            case rel => exact ⟨k + 1, x.e, pre ++ [(p, x.a - p)], _, by go_num, rfl, hlt, hee, (by show _ = _; rw [HG.out]; simp), J5, fun i hi => Or.inl (Or.inl (HOS.out i hi)), KR5⟩
            case measure => simp [intOf]; omega
          · gi_wp2
            refine bodyPost_ret (results_none rfl _ _ _) rfl ?_
            exact ⟨⟨_, rfl⟩, .inr ⟨_, _, ⟨⟨gps u x.e (L.drop (k + 1)), by rw [← HGS.out, HG.out]; simp⟩, HKR3.out w2 w3 K2.out hk3⟩, hJx3⟩⟩
        · rw [gps_skip hux hpx] at HG
          gi_wp2_with (first | (refine wpListIn_store_r (by rfl) (.tmp 6) (.tmp 12) rfl wr.heap.size rfl (e := zRn) (e' := x) rfl (Rn.B.new wr zRn) ?_; intro w2 b2 j2; have k2 : Kp (fun _ => False) wr w2 := ((Kp.refl (fun _ => False) wr).alloc _).trans j2 (fun i h1 h2 => by omega); have E2 := hid b2; have K2 := hid k2; have J2 := hid (hA _ O wr w2 HJ.out (k2.mono (fun _ _ x => x.elim))); have cu2 : w2.cell? ⟨bu, 0, none⟩ = some (.int .i64 u) := (by have hb := k2.block bu HBU.out (fun x => x); unfold World.cell? at cu ⊢; simp only [hb]; exact cu); have y1 : w2.cell? ⟨wr.heap.size, 1, none⟩ = some (.int .i64 x.a) := b2.cell 1; clear k2 j2 b2 x0 x1 x2 cu))
          rename_i hk _ _ _ _
          refine ⟨fun f hf => (by cases hf), hk _ _ ?_⟩
          clear hk
          gi_wp2_with (first | (refine wpListIn_load_r (by rfl) (.tmp 6) rfl wr.heap.size rfl E2.out ?_) | (refine ⟨trivial, ?_⟩; gi_at_call 42; refine (callsIn_wide.2 (HEN.out _)).mono ?_; rintro e w5 ⟨rfl, b5⟩; have B5 := hid b5; clear b5) | (gi_at_call 42; refine (callsIn_wide.2 (HEN.out _)).mono ?_; rintro e w5 ⟨rfl, b5⟩; have B5 := hid b5; clear b5))
          have KR2 := hid (HKR2.out w2 K2.out)
          have J5 := hid (hA _ _ _ _ J2.out (Kp.of_below B5.out))
          have KR5 : Hid (KR (ROg bt bu (some ⟨gb, off, none⟩) L) W w5) := fun i hi => (B5.out.block i (kr_lt KR2.out hi (LB.out i hi))).trans (KR2.out i hi)
          go_roundw
          case rel => exact ⟨k + 1, x.e, pre, _, by go_num, rfl, hlt, hee, HG, J5, fun i hi => Or.inl (Or.inl (HOS.out i hi)), KR5⟩
          case measure => simp [intOf]; omega
    · obtain rfl : k = N := by omega
      have HT : Hid (L.drop k = []) := List.drop_eq_nil_of_le (by have := HN.out; omega)
      rw [HT.out, gps_nil] at HG
      unfold gpl at HG
      by_cases hpu : p < u
      · rw [if_pos hpu] at HG
        obtain ⟨fn, tmps, assign, body, hy, hR⟩ := HYE.out pre (p, u - p) [] O wr HJ.out HG.out
        dsimp only at hy
        have HR := hid hR
        clear hR
        have hw1 : IntKind.i64.wrap (u - p) = u - p := by rw [IntKind.wrap_i64]; omega
        gi_wp2_with fail
        refine HR.out.mono ?_
        rintro ee w3 (⟨rfl, hJ3, hk3⟩ | ⟨rfl, hJx3, hk3⟩)
        · gi_wp2
          go_end0
          exact ⟨⟨_, rfl⟩, .inl ⟨_, _, ⟨by rw [← HGS.out, HG.out], HKW.out _ (fun i hi => (hk3.block i (kr_lt HKR.out hi (LB.out i hi)) (fun x => x (HOS.out i hi))).trans (HKR.out i hi))⟩, hJ3⟩⟩
        · gi_wp2
          go_end0
          exact ⟨⟨_, rfl⟩, .inr ⟨_, _, ⟨⟨[], by rw [← HGS.out, HG.out]; simp⟩, HKW.out _ (fun i hi => (hk3.block i (kr_lt HKR.out hi (LB.out i hi)) (fun x => x (HOS.out i hi))).trans (HKR.out i hi))⟩, hJx3⟩⟩
      · rw [if_neg hpu, List.append_nil] at HG
        gi_wp2_with fail
        go_end0
        first | exact ⟨⟨_, rfl⟩, .inl ⟨_, O, ⟨rfl, HKW.out _ HKR.out⟩, by rw [← HGS.out, HG.out]; exact HJ.out⟩⟩ | exact ⟨⟨_, rfl⟩, .inl ⟨_, ⟨rfl, HKW.out _ HKR.out⟩, O, by rw [← HGS.out, HG.out]; exact HJ.out⟩⟩
end Go.Proofs.Ytopnfjgkgoeleaa

namespace Go.Proofs.Ytopnfjgkgoeleaa
open Go.RowKit Go.Shelf
attribute [local go_sem] Oper.semAt_some
set_option linter.unusedVariables false
set_option linter.unusedSimpArgs false
/-- A row of runs that is read. -/
def Srcg (w : World) (ao : Option Addr) (l : List (Int × Int)) : Prop := 0 < l.length → ∃ b off, ao = some ⟨b, off, none⟩ ∧ b < w.heap.size ∧ ∀ i, i < l.length → w.cell? ⟨b, off + i * 2, none⟩ = some (.int .i64 (l.getD i (0, 0)).1) ∧ w.cell? ⟨b, off + i * 2 + 1, none⟩ = some (.int .i64 (l.getD i (0, 0)).2)
theorem Srcg.kp {F : Nat → Prop} {w w' : World} {ao : Option Addr} {l : List (Int × Int)} (h : Srcg w ao l) (k : Kp F w w') (hf : ∀ b off, ao = some ⟨b, off, none⟩ → b < w.heap.size → ¬ F b) : Srcg w' ao l := by
  intro hp
  obtain ⟨b, off, rfl, hb, hc⟩ := h hp
  exact ⟨b, off, rfl, Nat.lt_of_lt_of_le hb k.size, fun i hi => ⟨kp_cell k (hc i hi).1 (hf b off rfl hb), kp_cell k (hc i hi).2 (hf b off rfl hb)⟩⟩
theorem Srcg.at {w : World} {ao : Option Addr} {l : List (Int × Int)} (h : Srcg w ao l) {i : Nat} (hi : i < l.length) : ∃ b off, ao = some ⟨b, off, none⟩ ∧ b < w.heap.size ∧ w.cell? ⟨b, off + i * 2, none⟩ = some (.int .i64 (l.getD i (0, 0)).1) ∧ w.cell? ⟨b, off + i * 2 + 1, none⟩ = some (.int .i64 (l.getD i (0, 0)).2) := by
  obtain ⟨b, off, e, hb, hc⟩ := h (by omega)
  exact ⟨b, off, e, hb, hc i hi⟩
/-- Where the boxes lie. -/
structure Hb (w : World) (O0 : Nat → Prop) (T4 T5 T6 T7 B : Nat) (bo : Option Addr) (L : List (Int × Int)) : Prop where
  b4 : w.heap.size ≤ T4 ∧ T4 < B
  b5 : w.heap.size ≤ T5 ∧ T5 < B
  b6 : w.heap.size ≤ T6 ∧ T6 < B
  b7 : w.heap.size ≤ T7 ∧ T7 < B
  a4 : T4 ≠ T6 ∧ T4 ≠ T7
  a5 : T5 ≠ T6 ∧ T5 ≠ T7
  a6 : T6 ≠ T7
  o : ∀ i, O0 i → i < w.heap.size
  r : ∀ b off, bo = some ⟨b, off, none⟩ → 0 < L.length → b < w.heap.size ∧ ¬ O0 b
structure Hi8 (w : World) (O0 : Nat → Prop) (T4 T5 T6 T7 B : Nat) (bo : Option Addr) (cb : Nat) (L : List (Int × Int)) (leave : Int) (pre : List (Int × Int)) (O : Nat → Prop) (Z : World) : Prop where
  k : Kp O0 w Z
  s4 : St 86 Z T4 #[.slice bo L.length cb]
  s5 : St 3 Z T5 #[.int .i64 leave]
  s6 : St 4 Z T6 #[.bool false]
  s7 : St 3 Z T7 #[.int .i64 (pre.length : Int)]
  sb : Srcg Z bo L
  ow : ∀ i, O i → O0 i ∨ B + 1 < i
  lt : B + 1 < Z.heap.size
structure Hx (w : World) (O0 : Nat → Prop) (T6 B : Nat) (O : Nat → Prop) (Z : World) : Prop where
  k : Kp O0 w Z
  s6 : St 4 Z T6 #[.bool true]
  ow : ∀ i, O i → O0 i ∨ B + 1 < i
  lt : B + 1 < Z.heap.size
theorem Hb.wB {w : World} {O0 : Nat → Prop} {T4 T5 T6 T7 B : Nat} {bo : Option Addr} {L : List (Int × Int)} (h : Hb w O0 T4 T5 T6 T7 B bo L) : w.heap.size < B := by have := h.b4; omega
theorem srcg_kp2 {F : Nat → Prop} {w w' : World} {ao : Option Addr} {l : List (Int × Int)} (h : Srcg w ao l) (k : Kp F w w') (hf : ∀ b off, ao = some ⟨b, off, none⟩ → 0 < l.length → ¬ F b) : Srcg w' ao l := fun hp => h.kp k (fun b off e _ => hf b off e hp) hp
theorem Hi8.kp {w : World} {O0 G O : Nat → Prop} {T4 T5 T6 T7 B cb : Nat} {bo : Option Addr} {L pre : List (Int × Int)} {leave : Int} {Z Y : World} (b : Hb w O0 T4 T5 T6 T7 B bo L) (h : Hi8 w O0 T4 T5 T6 T7 B bo cb L leave pre O Z) (k : Kp G Z Y) (hg : ∀ i, i < Z.heap.size → G i → O i ∨ i = B ∨ i = B + 1) : Hi8 w O0 T4 T5 T6 T7 B bo cb L leave pre O Y := by
  have hw := b.wB
  have hz := h.lt
  have ni : ∀ T, w.heap.size ≤ T → T < B → ¬ G T := fun T h1 h2 g => by
    rcases hg T (by omega) g with o | e
    · rcases h.ow T o with a | a
      · have := b.o T a; omega
      · omega
    · omega
  refine ⟨h.k.trans k (fun i hi g => ?_), h.s4.kp k (ni _ b.b4.1 b.b4.2), h.s5.kp k (ni _ b.b5.1 b.b5.2), h.s6.kp k (ni _ b.b6.1 b.b6.2), h.s7.kp k (ni _ b.b7.1 b.b7.2), srcg_kp2 h.sb k (fun c off e hp g => ?_), h.ow, Nat.lt_of_lt_of_le h.lt k.size⟩
  · rcases hg i (by omega) g with o | e
    · rcases h.ow i o with a | a
      · exact a
      · omega
    · omega
  · have hr := b.r c off e hp
    rcases hg c (by omega) g with o | e
    · rcases h.ow c o with a | a
      · exact hr.2 a
      · omega
    · omega
theorem Hx.kp {w : World} {O0 G O : Nat → Prop} {T4 T5 T6 T7 B : Nat} {bo : Option Addr} {L : List (Int × Int)} {Z Y : World} (b : Hb w O0 T4 T5 T6 T7 B bo L) (h : Hx w O0 T6 B O Z) (k : Kp G Z Y) (hg : ∀ i, i < Z.heap.size → G i → O i ∨ i = B ∨ i = B + 1) : Hx w O0 T6 B O Y := by
  have hw := b.wB
  have hz := h.lt
  refine ⟨h.k.trans k (fun i hi g => ?_), h.s6.kp k (fun g => ?_), h.ow, Nat.lt_of_lt_of_le h.lt k.size⟩
  · rcases hg i (by omega) g with o | e
    · rcases h.ow i o with a | a
      · exact a
      · omega
    · omega
  · have h6 := b.b6
    rcases hg T6 (by omega) g with o | e
    · rcases h.ow T6 o with a | a
      · have := b.o T6 a; omega
      · omega
    · omega
theorem Hi8.abw {w : World} {O0 : Nat → Prop} {T4 T5 T6 T7 B cb : Nat} {bo : Option Addr} {L : List (Int × Int)} {leave : Int} (b : Hb w O0 T4 T5 T6 T7 B bo L) : AbW (Hi8 w O0 T4 T5 T6 T7 B bo cb L leave) := fun s O X Y h k => by
  have h1 := h.kp b k (fun i _ o => Or.inl o)
  exact ⟨h1.k, h1.s4, h1.s5, h1.s6, h1.s7, h1.sb, fun i hi => hi.elim (h.ow i) (fun e => Or.inr (by have := h.lt; omega)), h1.lt⟩
theorem Hx.abw {w : World} {O0 : Nat → Prop} {T4 T5 T6 T7 B : Nat} {bo : Option Addr} {L : List (Int × Int)} (b : Hb w O0 T4 T5 T6 T7 B bo L) (c : Code) : AbW (fun (_ : List (Int × Int)) O Z => c = .ret ∧ Hx w O0 T6 B O Z) := fun s O X Y h k => by
  have h1 := h.2.kp b k (fun i _ o => Or.inl o)
  exact ⟨h.1, h1.k, h1.s6, fun i hi => hi.elim (h.2.ow i) (fun e => Or.inr (by have := h.2.lt; omega)), h1.lt⟩
def g41 (T4 T5 T6 T7 : Nat) (a b : Int) (f : Nat → Value) : Array Value := #[f 0, f 1, f 2, f 3, .pointer (some ⟨T4, 0, none⟩), .pointer (some ⟨T5, 0, none⟩), .pointer (some ⟨T6, 0, none⟩), .pointer (some ⟨T7, 0, none⟩), .int .i64 a, .int .i64 b, f 10, f 11, f 12, f 13, f 14, f 15, f 16, f 17, f 18, f 19, f 20, f 21, f 22, f 23, f 24, f 25, f 26, f 27, f 28, f 29, f 30, f 31, f 32, f 33, f 34, f 35, f 36, f 37, f 38, f 39, f 40, f 41, f 42, f 43, f 44, f 45]
end Go.Proofs.Ytopnfjgkgoeleaa

namespace Go.Proofs.Ytopnfjgkgoeleaa
open Go.RowKit Go.Shelf
attribute [local go_sem] Oper.semAt_some
set_option linter.unusedVariables false
set_option linter.unusedSimpArgs false
theorem fin_bool41 {F : Fence} {m : Nat} {tmps : Array Value} {T6 : Nat} {w Z : World} (h4 : tmps.getD 6 undef = .pointer (some ⟨T6, 0, none⟩)) (s4 : St 4 Z T6 #[.bool true]) (b : Kp (fun _ => False) w Z) :
    LeavesInM F m Try.prog Try.f41 tmps (fun e w' => e = .returned (.bool true) ∧ Kp (fun _ => False) w w') [] .returning Z := by
  exact ⟨_, results_cell1 Try.results41 _ _ T6 h4 (load_bool4c (s4.cell 0)), rfl, b⟩
set_option maxRecDepth 100000 in
set_option maxHeartbeats 8000000 in
theorem gaps_val (w : World) (bt bu : Nat) (ao : Option Addr) (c : Nat) (R : List Rn) (u : Int) (hu : -9223372036854775808 ≤ u ∧ u ≤ 72057594037927936) (hl : R.length ≤ 65536) (hlc : R.length ≤ c) (hR : Srt R) (hs : Srcr w ao R) (s1 : St 73 w bt #[.slice ao R.length c]) (s2 : St 2 w bu #[.int .i64 u]) (L : List (Int × Int)) (hLe : L = gps u 0 R) (hL6 : L.length ≤ 65537) (bo : Option Addr) (cb : Nat) (sb : Srcg w bo L) (hbo : ∀ b off, bo = some ⟨b, off, none⟩ → 0 < L.length → ¬ ROg bt bu ao R b) (leave : Int) :
    Calls Try.prog 41 #[.func (.func 62) #[] #[.pointer (some ⟨bt, 0, none⟩), .pointer (some ⟨bu, 0, none⟩)], .slice bo L.length cb, .int .i64 leave] w fun e w' => e = .returned (.bool true) ∧ Kp (fun _ => False) w w' := by
  have LW : Hid (∀ i, ROg bt bu ao R i → i < w.heap.size) := by
    rintro i (rfl | rfl | ⟨hp, off, e⟩)
    · exact s1.lt
    · exact s2.lt
    · obtain ⟨g, of2, e2, hb, _⟩ := hs hp
      rw [e] at e2
      cases e2
      exact hb
  have SQ := hid (gap_seq3 19 (by omega) bt bu ao c R u w hu hl hlc hR hs s1 s2)
  rw [← hLe] at SQ
  clear hl hlc hu hLe
  have hl := hL6
  have HSB := hid sb
  have HBO := hid hbo
  have h56 := nf62 bt bu
  clear hs s1 s2 sb hbo hR hL6
  generalize hO0 : ROg bt bu ao R = O0 at *
  clear hO0
  refine (callsIn_wide (n := 20)).1 ?_
  refine callsIn_of_wp_marks Try.func41 rfl trivial ?_ rfl
  simp only [Try.ntmps41, List.size_toArray, List.length_cons, List.length_nil, Nat.reduceAdd, Nat.reduceSub, Array.replicate_succ, Array.replicate_zero, List.push_toArray, List.append_toArray, List.nil_append, List.cons_append]
  refine wpIn_wide.2 ?_
  generalize hQ : bodyPostM _ _ _ _ _ = QQ
  obtain ⟨N, hN⟩ : ∃ N, N = L.length := ⟨_, rfl⟩
  rw [← hN] at hl ⊢
  have HN := hid hN
  clear hN
  go_wp2_with fail
  have HX : Hid (St 86 ((((w.alloc (.cells #[.slice bo N cb] 86)).alloc (.cells #[.int .i64 leave] 3)).alloc (.cells #[.bool false] 4)).alloc (.cells #[.int .i64 0] 3)) w.heap.size #[.slice bo N cb] ∧ St 3 ((((w.alloc (.cells #[.slice bo N cb] 86)).alloc (.cells #[.int .i64 leave] 3)).alloc (.cells #[.bool false] 4)).alloc (.cells #[.int .i64 0] 3)) (w.heap.size + 1) #[.int .i64 leave] ∧ St 4 ((((w.alloc (.cells #[.slice bo N cb] 86)).alloc (.cells #[.int .i64 leave] 3)).alloc (.cells #[.bool false] 4)).alloc (.cells #[.int .i64 0] 3)) (w.heap.size + 2) #[.bool false] ∧ St 3 ((((w.alloc (.cells #[.slice bo N cb] 86)).alloc (.cells #[.int .i64 leave] 3)).alloc (.cells #[.bool false] 4)).alloc (.cells #[.int .i64 0] 3)) (w.heap.size + 3) #[.int .i64 0] ∧ Below w.heap.size w ((((w.alloc (.cells #[.slice bo N cb] 86)).alloc (.cells #[.int .i64 leave] 3)).alloc (.cells #[.bool false] 4)).alloc (.cells #[.int .i64 0] 3)) ∧ ((((w.alloc (.cells #[.slice bo N cb] 86)).alloc (.cells #[.int .i64 leave] 3)).alloc (.cells #[.bool false] 4)).alloc (.cells #[.int .i64 0] 3)).heap.size = w.heap.size + 4) := by
    have al : ∀ (U : World) (o : Obj), Kp (fun _ => False) U (U.alloc o) := fun U o => (Kp.refl _ _).alloc _
    have n4 := St.new 86 w #[.slice bo N cb]
    have n5 := St.new 3 (w.alloc (.cells #[.slice bo N cb] 86)) #[.int .i64 leave]
    have n6 := St.new 4 ((w.alloc (.cells #[.slice bo N cb] 86)).alloc (.cells #[.int .i64 leave] 3)) #[.bool false]
    have n7 := St.new 3 (((w.alloc (.cells #[.slice bo N cb] 86)).alloc (.cells #[.int .i64 leave] 3)).alloc (.cells #[.bool false] 4)) #[.int .i64 0]
    simp only [World.size_alloc, Nat.add_assoc, Nat.reduceAdd] at n5 n6 n7
    refine ⟨((n4.kp (al _ _) (fun h => h)).kp (al _ _) (fun h => h)).kp (al _ _) (fun h => h), (n5.kp (al _ _) (fun h => h)).kp (al _ _) (fun h => h), n6.kp (al _ _) (fun h => h), n7, ?_, by simp only [World.size_alloc]⟩
    exact ((((Kp.refl (fun _ => False) w).alloc _).alloc _).alloc _).alloc _ |>.below (Nat.le_refl _) (fun _ h => h.elim)
  simp only [World.size_alloc, Nat.add_assoc, Nat.reduceAdd]
  generalize (((w.alloc (.cells #[.slice bo N cb] 86)).alloc (.cells #[.int .i64 leave] 3)).alloc (.cells #[.bool false] 4)).alloc (.cells #[.int .i64 0] 3) = X at *
  obtain ⟨T, hT⟩ : ∃ T, T = w.heap.size := ⟨_, rfl⟩
  rw [← hT] at HX ⊢
  obtain ⟨x4, x5, x6, x7, xb, xs⟩ := HX.out
  have GB : Hb w O0 T (T + 1) (T + 2) (T + 3) X.heap.size bo L := ⟨by omega, by omega, by omega, by omega, by omega, by omega, by omega, LW.out, fun b off e hp => ⟨by
    obtain ⟨g, of2, e2, hb, _⟩ := HSB.out hp
    rw [e] at e2
    cases e2
    exact hb, HBO.out b off e hp⟩⟩
  rw [HN.out] at x4
  have HXB : Hid (Below w.heap.size w X) := by rw [hT] at xb; exact xb
  have HWX : Hid (w.heap.size < X.heap.size) := by show w.heap.size < X.heap.size; omega
  clear hT xs xb HX
  refine (wpIn_wide (n := 20)).1 ?_
  refine wpIn_rangeFunc_W rfl (by omega) (gf := 62) (pb := #[]) (lb := #[.pointer (some ⟨bt, 0, none⟩), .pointer (some ⟨bu, 0, none⟩)]) rfl trivial (enters_of Try.func62 (by kernel_rfl) rfl) SQ.out ?hS ?hSx (fun i hi => by have := LW.out i hi; have := HWX.out; omega) HXB.out (fun _ => rfl)
    (Hi8 w O0 T (T + 1) (T + 2) (T + 3) X.heap.size bo cb L leave) (fun c _ O Z => c = .ret ∧ Hx w O0 (T + 2) X.heap.size O Z) (Hi8.abw GB) (Hx.abw GB) ?hI2 ?hIx2 ?h0
    (fun x a' Z => ∃ f', a' = { tmps := g41 T (T + 1) (T + 2) (T + 3) x.1 x.2 f', defers := [] }) ?hAx ?assign ?body ?done ?stop
  case hS =>
    intro xs Z r o' hs hl
    exact ⟨hs.1, fun i hi => ((kp_putC Z (X.heap.size + 1) o').block i (kr_lt hs.2 hi (LW.out i hi)) (by have := LW.out i hi; have := HWX.out; omega)).trans (hs.2 i hi)⟩
  case hSx =>
    intro xs Z r o' hs hl
    exact ⟨hs.1, fun i hi => ((kp_putC Z (X.heap.size + 1) o').block i (kr_lt hs.2 hi (LW.out i hi)) (by have := LW.out i hi; have := HWX.out; omega)).trans (hs.2 i hi)⟩
  case hI2 => exact fun s O Z o' hi hlt => hi.kp GB (kp_putC Z _ o') (fun i _ e => Or.inr (Or.inr e))
  case hIx2 => exact fun c s O Z o' h hlt => ⟨h.1, h.2.kp GB (kp_putC Z _ o') (fun i _ e => Or.inr (Or.inr e))⟩
  case h0 =>
    intro r
    have ka : Kp (fun _ => False) X ((X.alloc (.deferred (some []))).alloc (.loop r)) := ((Kp.refl _ _).alloc _).alloc _
    have xb2 : Kp O0 w X := Kp.of_below HXB.out
    exact ⟨xb2.trans ka (fun _ _ h => h.elim), x4.kp ka (fun h => h), x5.kp ka (fun h => h), x6.kp ka (fun h => h), x7.kp ka (fun h => h), (HSB.out.kp (F := fun _ => False) (Kp.of_below HXB.out) (fun _ _ _ _ h => h)).kp ka (fun _ _ _ _ h => h), fun i hi => Or.inl hi, by simp only [World.size_alloc]; omega⟩
  case hAx =>
    rintro x a' Z o' h
    exact h
  case assign =>
    intro l' pre O x Z1 Kk hll hsz hi hK
    have HK := hid hK
    have HI := hid hi
    clear hK hi hll hsz
    obtain ⟨xa, xn⟩ := x
    gi_wp2_with fail
    exact HK.out _ _ (Kp.refl _ _) HI.out (act_of (by kernel_rfl) rfl)
  case body =>
    rintro l' pre O x a' Z hll hsz n1 n2 hi ⟨f', rfl⟩ ⟨rest, hsp⟩
    have hkl : pre.length < L.length := by rw [← hsp]; simp
    have hx : L.getD pre.length (0, 0) = x := by rw [← hsp]; simp [List.getD]
    obtain ⟨gb, off, hbe, _, y0, y1⟩ := hi.sb.at hkl
    rw [hx] at y0 y1
    have HI := hid hi
    have c4 : Z.cell? ⟨T, 0, none⟩ = some (.slice (some ⟨gb, off, none⟩) L.length cb) := by rw [← hbe]; exact hi.s4.cell 0
    have c5 : Z.cell? ⟨T + 1, 0, none⟩ = some (.int .i64 leave) := hi.s5.cell 0
    have c7 : Z.cell? ⟨T + 3, 0, none⟩ = some (.int .i64 (pre.length : Int)) := hi.s7.cell 0
    have HPL : Hid ((pre ++ [x]).length = pre.length + 1) := by show (pre ++ [x]).length = _; simp
    have HN1 := hid n1
    have HN2 := hid n2
    have HL4 : Hid (L.length ≤ 65537) := by rw [Hid, ← HN.out]; exact hl
    clear hx hsp hi hbe n1 n2
    obtain ⟨k, hk⟩ : ∃ k, k = pre.length := ⟨_, rfl⟩
    rw [← hk] at hkl y0 y1 c7 HPL
    have HKP := hid hk
    clear hk
    have hk4 : k < 65537 := by have := HL4.out; omega
    obtain ⟨xa, xn⟩ := x
    dsimp only at *
    obtain ⟨M, hM⟩ : ∃ M, M = L.length := ⟨_, rfl⟩
    rw [← hM] at c4 hkl
    clear hM
    have d1 : decide ((M : Int) ≤ (k : Int)) = false := by simp; omega
    have d2 : decide (M ≤ k) = false := by simp; omega
    unfold g41
    have KX : Hid (Kp (fun _ => False) Z Z) := Kp.refl _ _
    have IY := hid (HI.out.kp GB KX.out (fun _ _ h => h.elim))
    have c5' : Z.cell? ⟨T + 1, 0, none⟩ = some (.int .i64 leave) := IY.out.s5.cell 0
    have c7' : Z.cell? ⟨T + 3, 0, none⟩ = some (.int .i64 (k : Int)) := by rw [HKP.out]; exact IY.out.s7.cell 0
    have f7' := IY.out.s7.frozen 0
    have c6' : Z.cell? ⟨T + 2, 0, none⟩ = some (.bool false) := IY.out.s6.cell 0
    have f6' := IY.out.s6.frozen 0
    have kz := kp_setCell Z (T + 3) 0 (.int .i64 ((k : Int) + 1)) (fun i => i = T + 3) rfl
    have KZ := hid kz
    have S7 : Hid (St 3 (Z.setCell ⟨T + 3, 0, none⟩ (.int .i64 ((k : Int) + 1))) (T + 3) #[.int .i64 ((k : Int) + 1)]) := IY.out.s7.set 0 _
    have S5 : Hid (St 3 (Z.setCell ⟨T + 3, 0, none⟩ (.int .i64 ((k : Int) + 1))) (T + 1) #[.int .i64 leave]) := IY.out.s5.kp kz (by omega)
    have S6 : Hid (St 4 (Z.setCell ⟨T + 3, 0, none⟩ (.int .i64 ((k : Int) + 1))) (T + 2) #[.bool false]) := IY.out.s6.kp kz (by omega)
    have S4 : Hid (St 86 (Z.setCell ⟨T + 3, 0, none⟩ (.int .i64 ((k : Int) + 1))) T #[.slice bo L.length cb]) := IY.out.s4.kp kz (by omega)
    clear kz
    have n7 : Hid (¬ O (T + 3)) := fun o => (HI.out.ow _ o).elim (fun a => by have := GB.o _ a; have := GB.b7; omega) (fun a => by have := GB.b7; omega)
    have n6 : Hid (¬ O (T + 2)) := fun o => (HI.out.ow _ o).elim (fun a => by have := GB.o _ a; have := GB.b6; omega) (fun a => by have := GB.b6; omega)
    have KW : Hid (Kp (fun i => ¬ O i ∧ i ≠ X.heap.size ∧ i ≠ X.heap.size + 1) Z (Z.setCell ⟨T + 3, 0, none⟩ (.int .i64 ((k : Int) + 1)))) := (KX.out.mono (fun _ _ h => h.elim)).trans KZ.out (fun i _ e => by subst e; exact ⟨n7.out, by have := GB.b7; omega, by have := GB.b7; omega⟩)
    by_cases hle : (k : Int) + 1 = leave
    · have e1 : ((k : Int) + 1 == leave) = true := by simpa using hle
      clear hle
      gi_wp2_with fail
      have kz := kp_setCell (Z.setCell ⟨T + 3, 0, none⟩ (.int .i64 ((k : Int) + 1))) (T + 2) 0 (.bool true) (fun i => i = T + 2) rfl
      refine ⟨KW.out.trans kz (fun i _ e => by subst e; exact ⟨n6.out, by have := GB.b6; omega, by have := GB.b6; omega⟩), rfl, ((IY.out.k.trans KZ.out (fun i hi e => by have := GB.b7; omega)).trans kz (fun i hi e => by have := GB.b6; omega)), S6.out.set 0 _, IY.out.ow, Nat.lt_of_lt_of_le IY.out.lt (Nat.le_trans KZ.out.size kz.size)⟩
    · have e1 : ((k : Int) + 1 == leave) = false := by simpa using hle
      clear hle
      gi_wp2_with fail
      refine ⟨KW.out, IY.out.k.trans KZ.out (fun i hi e => by have := GB.b7; omega), S4.out, S5.out, S6.out, ?_, srcg_kp2 IY.out.sb KZ.out (fun c off e hp g => by have := GB.r c off e hp; have := GB.b7; omega), IY.out.ow, Nat.lt_of_lt_of_le IY.out.lt KZ.out.size⟩
      rw [HPL.out]
      exact S7.out
  case done =>
    rintro D xs O Z hD ⟨hS1, hKR⟩ hi hdd
    have c4 : Z.cell? ⟨T, 0, none⟩ = some (.slice bo N cb) := by rw [HN.out]; exact hi.s4.cell 0
    have c7 : Z.cell? ⟨T + 3, 0, none⟩ = some (.int .i64 (N : Int)) := by rw [HN.out, ← hS1]; exact hi.s7.cell 0
    have c6 : Z.cell? ⟨T + 2, 0, none⟩ = some (.bool false) := hi.s6.cell 0
    have f6 := hi.s6.frozen 0
    have HI := hid hi
    have HD := hid hD
    have HDD := hid hdd
    have HKR := hid hKR
    clear hi hD hdd hS1 hKR
    gi_wp2_with fail
    go_wp2_with fail
    subst hQ
    have hz := kp_setCell Z (T + 2) 0 (.bool true) (fun i => i = T + 2) rfl
    refine leaves_marksc D _ ?_ (fun w' k => fin_bool41 rfl ((HI.out.s6.set 0 _).kp k ?_) ?_)
    · rw [← HDD.out]; exact heap_setCell_other Z ⟨T + 2, 0, none⟩ D _ (by have := GB.b6; have := HD.out; show ¬ D = T + 2; omega)
    · have := GB.b6; have := HD.out; omega
    · exact ((kr_kp HI.out.k HKR.out).trans hz (fun i hi e => by have := GB.b6; omega)).trans k (fun i hi e => by have := HWX.out; have := HD.out; omega)
  case stop =>
    rintro D c pre O Z hD ⟨hS1, hKR⟩ ⟨hc, hx⟩ hdd
    subst hc
    gi_wp2
    subst hQ
    refine leaves_marksc D Z hdd (fun w' k => fin_bool41 rfl (hx.s6.kp k ?_) ?_)
    · have := GB.b6; omega
    · exact (kr_kp hx.k hKR).trans k (fun i hi e => by have := HWX.out; omega)
end Go.Proofs.Ytopnfjgkgoeleaa
