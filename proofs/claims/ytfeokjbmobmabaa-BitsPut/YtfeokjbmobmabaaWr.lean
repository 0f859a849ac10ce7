/- The writer in memory (Wr), and the contracts of what puts bits into it. -/
import Derived.Test.YtfeokjbmobmabaaTurn
import Derived.Deep.LoopGhost
import Derived.Deep.RegionLaw
import Derived.BigRegion
namespace Go.Proofs.Ytfeokjbmobmabaa
open Go.RowKit

/-- A block that holds a struct's fields. -/
def St (t : TypeId) (w : World) (g : Nat) (cs : Array Value) : Prop := w.heap[g]? = some (.cells cs t (0, 0))
theorem St.cell {t : TypeId} {w : World} {g : Nat} {cs : Array Value} (h : St t w g cs) (i : Nat) : w.cell? ⟨g, i, none⟩ = cs[i]? := cell_of_row w g i _ t _ h
theorem St.frozen {t : TypeId} {w : World} {g : Nat} {cs : Array Value} (h : St t w g cs) (i : Nat) : w.frozen? ⟨g, i, none⟩ = false := frozen_of_row w g i _ t h
theorem St.lt {t : TypeId} {w : World} {g : Nat} {cs : Array Value} (h : St t w g cs) : g < w.heap.size := (Array.getElem?_eq_some_iff.1 h).1
theorem St.set {t : TypeId} {w : World} {g : Nat} {cs : Array Value} (h : St t w g cs) (i : Nat) (v : Value) : St t (w.setCell ⟨g, i, none⟩ v) g (cs.set! i v) := by
  unfold St
  rw [heap_setCell_same w g i _ t _ h]; simp
theorem St.kp {t : TypeId} {F : Nat → Prop} {w w' : World} {g : Nat} {cs : Array Value} (h : St t w g cs) (k : Kp F w w') (hf : ¬ F g) : St t w' g cs := by
  unfold St; rw [k.block g h.lt hf]; exact h
theorem St.drew {t : TypeId} {w : World} {g : Nat} {cs : Array Value} (h : St t w g cs) : St t w.drew g cs := h
theorem kp_setCell (w : World) (g i : Nat) (v : Value) (F : Nat → Prop) (hF : F g) : Kp F w (w.setCell ⟨g, i, none⟩ v) :=
  ⟨rfl, rfl, rfl, by simp, fun k _ hk => heap_setCell_other w ⟨g, i, none⟩ k v (fun e => hk (by rw [e]; exact hF))⟩

/-- A writer behind its first k bytes: N bits that say v; 'sl' is its slice of whole bytes. -/
def WrK (w : World) (g : Nat) (sl : Value) (k N v : Nat) : Prop :=
  St 29 w g #[sl, .int .u64 ((v / 256 ^ k : Nat) : Int), .int .i64 ((N - 8 * k : Nat) : Int)] ∧ OwnI w 0 sl (dig 256 v k) ∧ sl.ownBlock ≠ some g
/-- A writer of N bits that say v. -/
def Wr (w : World) (g : Nat) (sl : Value) (N v : Nat) : Prop := v < 2 ^ N ∧ WrK w g sl (N / 8) N v

theorem or_wait (x y m n : Nat) (hy : y < 2 ^ m) (hx : x < 2 ^ n) (h : m + n ≤ 64) : bits .or .u64 (y : Int) (IntKind.u64.wrap ((x : Int) * 2 ^ m)) = ((y + x * 2 ^ m : Nat) : Int) := by
  have hp : 2 ^ m * 2 ^ n ≤ 18446744073709551616 := by
    rw [← Nat.pow_add]; exact Nat.pow_le_pow_right (n := 2) (by omega) h
  have h1 : x * 2 ^ m + 2 ^ m ≤ 2 ^ m * 2 ^ n := by
    rw [← Nat.succ_mul, Nat.mul_comm]; exact Nat.mul_le_mul_left _ hx
  have e : ((x : Int) * 2 ^ m) = ((x * 2 ^ m : Nat) : Int) := by rw [Int.natCast_mul, Int.natCast_pow]; rfl
  rw [e, IntKind.wrap_u64]
  have e2 : x * 2 ^ m ||| y = x * 2 ^ m + y := by rw [Nat.mul_comm]; exact (Nat.two_pow_add_eq_or_of_lt hy x).symm
  rw [Nat.add_comm, ← e2]
  generalize x * 2 ^ m = q at *
  rw [Int.emod_eq_of_lt (by omega) (by omega), u64_or_nat _ _ (by omega) (by omega), Nat.or_comm]
theorem put_num (v x N : Nat) : (v + x * 2 ^ N) / 256 ^ (N / 8) = v / 256 ^ (N / 8) + x * 2 ^ (N - 8 * (N / 8)) := by
  have e : x * 2 ^ N = x * 2 ^ (N - 8 * (N / 8)) * 256 ^ (N / 8) := by
    rw [pow_256, Nat.mul_assoc, ← Nat.pow_add, show N - 8 * (N / 8) + 8 * (N / 8) = N by omega]
  rw [e, Nat.add_mul_div_right _ _ (Nat.pow_pos (by omega))]
theorem put_dig (v x N : Nat) : dig 256 (v + x * 2 ^ N) (N / 8) = dig 256 v (N / 8) := by
  have e : x * 2 ^ N = x * 2 ^ (N - 8 * (N / 8)) * 256 ^ (N / 8) := by
    rw [pow_256, Nat.mul_assoc, ← Nat.pow_add, show N - 8 * (N / 8) + 8 * (N / 8) = N by omega]
  rw [← dig_mod 256 _ (N / 8) (N / 8) (Nat.le_refl _), e, Nat.add_mul_mod_self_right, dig_mod 256 v _ _ (Nat.le_refl _)]
theorem word_lt (v N : Nat) (hv : v < 2 ^ N) (k : Nat) (hk : 8 * k ≤ N) : v / 256 ^ k < 2 ^ (N - 8 * k) := by
  rw [Nat.div_lt_iff_lt_mul (Nat.pow_pos (by omega)), pow_256, ← Nat.pow_add, show N - 8 * k + 8 * k = N by omega]; exact hv
theorem OwnI.alloc {w : World} {base : Nat} {v : Value} {xs : List Int} (h : OwnI w base v xs) (o : Obj) : OwnI (w.alloc o) base v xs := h.kp ((Kp.refl (fun _ => False) w).alloc o) (fun _ _ e => e)
theorem OwnI.drew {w : World} {base : Nat} {v : Value} {xs : List Int} (h : OwnI w base v xs) : OwnI w.drew base v xs := h
theorem Kp.grown {F : Nat → Prop} {a b c : World} {row : Option Nat} (h : Kp F a b) (k : b.grownBy c row) (hg : ∀ i, i < a.heap.size → row = some i → F i) : Kp F a c :=
  ⟨k.os.trans h.os, k.tape.trans h.tape, k.output.trans h.output, Nat.le_trans h.size k.size, fun i hi hf => (k.block i (Nat.lt_of_lt_of_le hi h.size) (fun e => hf (hg i hi e.symm))).trans (h.block i hi hf)⟩
theorem Kp.setCell {F : Nat → Prop} {a b : World} (h : Kp F a b) (g i : Nat) (v : Value) (hF : F g) : Kp F a (b.setCell ⟨g, i, none⟩ v) := h.trans (kp_setCell b g i v F hF) (fun _ _ x => x)
theorem OwnI.some {w : World} {base : Nat} {v : Value} {xs : List Int} (h : OwnI w base v xs) (hp : 0 < xs.length) : ∃ g cap tl, v = .slice (Option.some ⟨g, 0, none⟩) xs.length cap ∧ base ≤ g ∧ Rw 5 w g (xs ++ tl) ∧ (xs ++ tl).length = cap ∧ cap ≤ maxLen := by
  rcases h with ⟨_, rfl⟩ | h
  · simp at hp
  · exact h
theorem len_snoc (b x k : Nat) (z : Int) : (dig b x k ++ [z]).length = k + 1 := by simp [dig_length]
/-- One byte handed on: the row has grown by it, and the word and the count are less by it. -/
theorem put_round (w w1 w2 : World) (g k N v z q : Nat) (ao : Option Addr) (cap : Nat) (sl : Value) (F : Nat → Prop) (b1 : Int) (hg : F g) (hz : z = v / 256 ^ k) (hq : q = N - 8 * k) (hr : 8 ≤ q)
    (hs : St 29 w1 g #[.slice ao k cap, .int .u64 z, .int .i64 q]) (hb : (Value.slice ao k cap).ownBlock ≠ some g) (hlt : ∀ b, (Value.slice ao k cap).ownBlock = some b → F b ∨ w.heap.size ≤ b)
    (K : Kp F w w1) (hb1 : b1 = ((z % 256 : Nat) : Int)) (ho : OwnI w2 0 sl (dig 256 v k ++ [b1])) (hgr : (w1.alloc (.cells #[.int .u8 b1] 5)).drew.grownBy w2 (Value.slice ao k cap).ownBlock)
    (hnew : ∀ b, sl.ownBlock = some b → (Value.slice ao k cap).ownBlock = some b ∨ w1.heap.size + 1 ≤ b) :
    St 29 w2 g #[.slice ao k cap, .int .u64 z, .int .i64 q] ∧ WrK (((w2.setCell ⟨g, 0, none⟩ sl).setCell ⟨g, 1, none⟩ (.int .u64 ((z : Int) / 256))).setCell ⟨g, 2, none⟩ (.int .i64 ((q : Int) - 8))) g sl (k + 1) N v ∧
      Kp F w (((w2.setCell ⟨g, 0, none⟩ sl).setCell ⟨g, 1, none⟩ (.int .u64 ((z : Int) / 256))).setCell ⟨g, 2, none⟩ (.int .i64 ((q : Int) - 8))) ∧ ∀ b, sl.ownBlock = some b → F b ∨ w.heap.size ≤ b := by
  have K1 : Kp (fun i => (Value.slice ao k cap).ownBlock = some i) w1 w2 := Kp.grown ((Kp.refl _ w1).alloc (.cells #[.int .u8 b1] 5)).drew hgr (fun _ _ e => e)
  have hs2 := hs.kp K1 hb
  have hne : sl.ownBlock ≠ some g := by
    intro e
    rcases hnew g e with h | h
    · exact hb h
    · have := hs.lt; omega
  refine ⟨hs2, ⟨?_, ?_, hne⟩, ?_, ?_⟩
  · have e1 : ((v / 256 ^ (k + 1) : Nat) : Int) = (z : Int) / 256 := by rw [Nat.pow_succ, ← Nat.div_div_eq_div_mul, ← hz]; omega
    have e2 : ((N - 8 * (k + 1) : Nat) : Int) = (q : Int) - 8 := by omega
    rw [e1, e2]
    have := ((hs2.set 0 sl).set 1 (.int .u64 ((z : Int) / 256))).set 2 (.int .i64 ((q : Int) - 8))
    simpa using this
  · rw [dig_snoc, ← hz, ← hb1]
    have hx : ∀ b, sl.ownBlock = some b → ¬ b = g := fun b hb2 e => hne (by rw [← e]; exact hb2)
    exact ((ho.kp (kp_setCell w2 g 0 _ (fun k => k = g) rfl) hx).kp (kp_setCell _ g 1 _ (fun k => k = g) rfl) hx).kp (kp_setCell _ g 2 _ (fun k => k = g) rfl) hx
  · have K2 : Kp F w w2 := K.trans K1 (by
      intro i hi e
      rcases hlt i e with h | h
      · exact h
      · omega)
    exact ((K2.setCell g 0 _ hg).setCell g 1 _ hg).setCell g 2 _ hg
  · intro b hb2
    rcases hnew b hb2 with h | h
    · exact hlt b h
    · have := K.size; exact .inr (by omega)
theorem OwnI.slice {w : World} {base : Nat} {v : Value} {xs : List Int} (h : OwnI w base v xs) : ∃ ao cap, v = .slice ao xs.length cap ∧ (ao = none → cap = 0) := by
  rcases h with ⟨rfl, rfl⟩ | ⟨g, cap, tl, rfl, _⟩
  · exact ⟨none, 0, rfl, fun _ => rfl⟩
  · exact ⟨_, cap, rfl, fun e => by cases e⟩

set_option maxHeartbeats 1000000 in
theorem put_walk (g : Nat) (sl : Value) (x n N v : Nat) (w : World) (hN : N ≤ 1000000000) (hn : n ≤ 57) (hx : x < 2 ^ n) (h : Wr w g sl N v) :
    Calls Try.prog 41 #[.pointer (some ⟨g, 0, none⟩), .int .u64 x, .int .i64 n] w fun e w' => e = .returned (.tuple #[]) ∧
      ∃ sl', Wr w' g sl' (N + n) (v + x * 2 ^ N) ∧ Kp (fun i => i = g ∨ sl.ownBlock = some i) w w' ∧ ∀ b, sl'.ownBlock = some b → sl.ownBlock = some b ∨ w.heap.size ≤ b := by
  obtain ⟨hv, hs, ho, hb⟩ := h
  have hvx : v + x * 2 ^ N < 2 ^ (N + n) := by
    rw [Nat.pow_add]
    have : x * 2 ^ N + 2 ^ N ≤ 2 ^ N * 2 ^ n := by rw [← Nat.succ_mul, Nat.mul_comm]; exact Nat.mul_le_mul_left _ hx
    omega
  obtain ⟨F, hF⟩ : ∃ F : Nat → Prop, F = fun i => i = g ∨ sl.ownBlock = some i := ⟨_, rfl⟩
  obtain ⟨N1, hN1⟩ : ∃ N1, N1 = N + n := ⟨_, rfl⟩
  obtain ⟨v1, hv1⟩ : ∃ v1, v1 = v + x * 2 ^ N := ⟨_, rfl⟩
  have hd := put_dig v x N
  have hw := put_num v x N
  have hwl := word_lt v N hv (N / 8) (by omega)
  rw [← hv1] at hd hw hvx ⊢
  rw [← hN1] at hvx ⊢
  rw [← hF]
  have hFg : F g := by rw [hF]; exact .inl rfl
  have hFb : ∀ b, sl.ownBlock = some b → F b ∨ w.heap.size ≤ b := by intro b h; rw [hF]; exact .inl (.inr h)
  have hFn : ∀ b, F b → b ≠ g → sl.ownBlock = some b := by
    intro b h hne
    rw [hF] at h
    exact h.resolve_left hne
  obtain ⟨y, hy⟩ : ∃ y, y = v / 256 ^ (N / 8) := ⟨_, rfl⟩
  obtain ⟨m, hm⟩ : ∃ m, m = N - 8 * (N / 8) := ⟨_, rfl⟩
  rw [← hy, ← hm] at hs hw hwl
  have c1 : w.cell? ⟨g, 1, none⟩ = some (.int .u64 y) := hs.cell 1
  have c2 : w.cell? ⟨g, 2, none⟩ = some (.int .i64 m) := hs.cell 2
  have f1 := hs.frozen 1
  have f2 := hs.frozen 2
  have hm8 : m < 8 := by omega
  have hor := or_wait x y m n hwl hx (by omega)
  have START : Hid (WrK ((w.setCell ⟨g, 1, none⟩ (.int .u64 ((y : Int) + (x : Int) * 2 ^ m))).setCell ⟨g, 2, none⟩ (.int .i64 ((m : Int) + n))) g sl (N / 8) N1 v1 ∧ Kp F w ((w.setCell ⟨g, 1, none⟩ (.int .u64 ((y : Int) + (x : Int) * 2 ^ m))).setCell ⟨g, 2, none⟩ (.int .i64 ((m : Int) + n)))) := by
    refine ⟨⟨?_, ?_, hb⟩, ((Kp.refl F w).setCell g 1 _ hFg).setCell g 2 _ hFg⟩
    · rw [hw, show ((N1 - 8 * (N / 8) : Nat) : Int) = (m : Int) + n by omega, show ((y + x * 2 ^ m : Nat) : Int) = (y : Int) + (x : Int) * 2 ^ m by rw [Int.natCast_add, Int.natCast_mul, Int.natCast_pow]; rfl]
      have := (hs.set 1 (.int .u64 ((y : Int) + (x : Int) * 2 ^ m))).set 2 (.int .i64 ((m : Int) + n))
      simpa using this
    · rw [hd]
      exact (ho.kp (kp_setCell w g 1 _ (fun k => k = g) rfl) (by intro b hb2 e; subst e; exact hb hb2)).kp (kp_setCell _ g 2 _ (fun k => k = g) rfl) (by intro b hb2 e; subst e; exact hb hb2)
  have HN : Hid (N / 8 ≤ N1 / 8) := by show _ ≤ _; omega
  have HN1 : Hid (N1 ≤ 1000000057) := by show _ ≤ _; omega
  have HV : Hid (v1 < 2 ^ N1) := hvx
  have HF : Hid (F g ∧ (∀ b, sl.ownBlock = some b → F b ∨ w.heap.size ≤ b) ∧ (∀ b, F b → b ≠ g → sl.ownBlock = some b)) := ⟨hFg, hFb, hFn⟩
  clear hv1 hd hw hwl hy hm hN1 ho hs hb hx hvx hF hFg hFb hFn
  go_enter Try.func41, Try.ntmps41
  go_wp2
  go_region
  go_wp2_with fail
  go_loopg [] (N1 / 8 - N / 8) (fun r wr => ∃ k sl1, k + r = N1 / 8 ∧ WrK wr g sl1 k N1 v1 ∧ Kp F w wr ∧ ∀ b, sl1.ownBlock = some b → F b ∨ w.heap.size ≤ b)
  case atStart => exact ⟨N / 8, sl, by have := HN.out; omega, START.out.1, START.out.2.drew, HF.out.2.1⟩
  case round =>
    clear START f1 f2 c1 c2
    obtain ⟨k, sl1, hk, ⟨hs, ho, hb⟩, hK, hlt⟩ := hrel
    have hN2 := HN1.out
    obtain ⟨ao, cap, rfl, hnil⟩ := ho.slice
    rw [dig_length] at hs ho hb hlt
    obtain ⟨z, hz⟩ : ∃ z, z = v1 / 256 ^ k := ⟨_, rfl⟩
    obtain ⟨q, hq⟩ : ∃ q, q = N1 - 8 * k := ⟨_, rfl⟩
    have HW : Hid (WrK wr g (.slice ao k cap) k N1 v1) := ⟨hs, ho, hb⟩
    rw [← hz, ← hq] at hs
    have c0 : wr.cell? ⟨g, 0, none⟩ = some (.slice ao k cap) := hs.cell 0
    have c1 : wr.cell? ⟨g, 1, none⟩ = some (.int .u64 z) := hs.cell 1
    have c2 : wr.cell? ⟨g, 2, none⟩ = some (.int .i64 q) := hs.cell 2
    have f0 := hs.frozen 0
    have f1 := hs.frozen 1
    have f2 := hs.frozen 2
    by_cases hr : q < 8
    · have HQ : Hid (q = N1 - 8 * k ∧ k + gk = N1 / 8) := ⟨hq, hk⟩
      clear hq hz hnil
      go_wp2
      go_end0
      obtain ⟨hq, hk⟩ := HQ.out
      obtain rfl : k = N1 / 8 := by omega
      refine ⟨rfl, _, ⟨HV.out, HW.out⟩, hK, fun b hb2 => ?_⟩
      rcases hlt b hb2 with h | h
      · exact .inl (HF.out.2.2 b h (fun e => hb (by rw [← e]; exact hb2)))
      · exact .inr h
    · have HQ : Hid (q = N1 - 8 * k ∧ k + gk = N1 / 8 ∧ z = v1 / 256 ^ k) := ⟨hq, hk, hz⟩
      have hk8 : 8 * k ≤ N1 := by omega
      have hq8 : q ≤ 1000000057 := by omega
      have hgl : g < wr.heap.size := hs.lt
      clear hq hz hk
      have HO : Hid (OwnI (wr.alloc (.cells #[.int .u8 (IntKind.u8.wrap z)] 5)).drew 0 (.slice ao k cap) (dig 256 v1 k)) := (ho.alloc _).drew
      have HS : Hid (Src (wr.alloc (.cells #[.int .u8 (IntKind.u8.wrap z)] 5)).drew (some ⟨wr.heap.size, 0, none⟩) [IntKind.u8.wrap z]) := (Rw.new 5 wr [IntKind.u8.wrap z]).src
      have HL : Hid ((dig 256 v1 k).length + [IntKind.u8.wrap (z : Int)].length ≤ 140737488355328) := by show _ ≤ _; rw [dig_length]; simp; omega
      have HB : Hid (IntKind.u8.wrap (z : Int) = ((z % 256 : Nat) : Int)) := by show _ = _; rw [IntKind.wrap_u8']; omega
      clear hnil
      go_wp2
      go_region_law (refine step_append_i rfl (.tmp 36) (.tmp 42) rfl 0 (.slice ao k cap) (dig 256 v1 k) (by simp [Act.eval]) HO.out (some ⟨wr.heap.size, 0, none⟩) 1 1 [IntKind.u8.wrap z] (by simp [Act.eval]) rfl (fun e => by cases e) HS.out HL.out (Nat.zero_le _) ?_; intro sl2 w2 o2 g2 n2; obtain ⟨s2, W2, K2, L2⟩ := put_round w wr w2 g k N1 v1 z q ao cap sl2 F _ HF.out.1 HQ.out.2.2 HQ.out.1 (Nat.le_of_not_lt hr) hs hb hlt hK HB.out o2 g2 (fun b hb2 => by simpa using n2 b hb2); obtain ⟨G2, c3, tl2, hsl, _⟩ := o2.some (by simp); rw [len_snoc] at hsl; subst hsl; clear o2 n2 g2; have d0 : w2.cell? ⟨g, 0, none⟩ = some (.slice ao k cap) := s2.cell 0; have d1 : w2.cell? ⟨g, 1, none⟩ = some (.int .u64 z) := s2.cell 1; have d2 : w2.cell? ⟨g, 2, none⟩ = some (.int .i64 q) := s2.cell 2; have e0 := s2.frozen 0; have e1 := s2.frozen 1; have e2 := s2.frozen 2)
      all_goals
        have W3 : Hid (_ ∧ _ ∧ _) := ⟨W2, K2, L2⟩
        clear W2 K2 L2
        go_wp2
        go_roundg (gk - 1)
        case measure => have := HQ.out; omega
        case rel => exact ⟨k + 1, _, by have := HQ.out; omega, W3.out.1, W3.out.2.1, W3.out.2.2⟩
end Go.Proofs.Ytfeokjbmobmabaa
