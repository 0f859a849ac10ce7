/- tables: taken, Read (Rn): what bytes are read as. -/
import Derived.Test.YtjjhkfhppoioiaaTkR
namespace Go.Proofs.Ytjjhkfhppoioiaa
open Go.RowKit
set_option linter.unusedVariables false
theorem i6of_i6r (x : Int) : I6 (i6of x) := by
  unfold I6 i6of
  rw [IntKind.wrap_i64]
  omega
theorem rd_i6r (st : Bool × List Int) (hb : Byt st.2) : (Rn.rd st).1.i6 := by
  have h1 := rnm1_bd st hb
  have h2 : (Rn.rd st).1.nm.size ≤ 9223372036854775807 := by
    show (strOfNums (rb (rnm 1 st).1.toNat (rnm 1 st).2).1).size ≤ _
    rw [nums_size]
    rcases rb_len (rnm 1 st).1.toNat (rnm 1 st).2 with h | h
    · rw [h]; omega
    · rw [h]; simp
  exact ⟨i6of_i6r _, i6of_i6r _, i6of_i6r _, i6of_i6r _, h2⟩
theorem rst_bytr (xs : List Int) (hb : Byt xs) : ∀ i, Byt (rst Rn.rd xs i).2
  | 0 => hb
  | i + 1 => by
    have h := rst_bytr xs hb i
    show Byt (Rn.rd (rst Rn.rd xs i)).2.2
    exact rb_bytr (rb_bytr (rb_bytr (rb_bytr (rb_bytr (rb_bytr h)))))
theorem thr_take_r (P : Nat) (b : Int) (xs : List Int) (n : Nat) (w0 w : World) (el : Nat → Rn) (hel : Rl (Rn.May b) zRn Rn.rd xs el) (hb : Bt b) (hby : Byt xs) (hn2 : n ≤ 64) (hw0 : w0.heap.size = P) (hbl : Below P w0 w) (hsz : w.heap.size = P + 4) (h : TJr P b (false, xs) [] w) :
    Calls Try.prog 51 #[.int .i64 (n : Int), .func (.func 56) #[] #[.pointer (some ⟨P, 0, none⟩), .pointer (some ⟨P + 3, 0, none⟩), .pointer (some ⟨P + 1, 0, none⟩), .pointer (some ⟨P + 2, 0, none⟩)], .func (.func 52) #[] #[]] w fun e w' => Below P w0 w' ∧ ((e = .returned (.bool true) ∧ (∀ i, i < n → Gd zRn Rn.nm el i) ∧ TJr P b (rst Rn.rd xs n) ((List.range n).map el) w') ∨ (e = .returned (.bool false) ∧ ¬ ∀ i, i < n → Gd zRn Rn.nm el i)) := by
  refine (thr_r_t n (by omega) _ _ _ _ P w0 w (fun i u => TJr P b (rst Rn.rd xs i) ((List.range i).map el) u) el (by omega) hbl h ?_ ?_)
  · intro i u u' hJ k
    rw [hsz] at k
    exact hJ.kp k
  · intro i u hi hs hJ hb2
    rw [hsz] at hs ⊢
    have hbi := rst_bytr xs hby i
    have no : ∀ e u', e = Ending.returned (.agg zRn.cs) ∧ Kp (fun i => i = P + 3) u u' → el i = zRn → e = .returned (.agg (el i).cs) ∧ u'.heap[P + 4]? = u.heap[P + 4]? ∧ u'.heap[P + 4 + 1]? = u.heap[P + 4 + 1]? ∧ u.heap.size ≤ u'.heap.size ∧ Below P w0 u' ∧ (el i ≠ zRn → TJr P b (rst Rn.rd xs (i + 1)) ((List.range (i + 1)).map el) u') := by
      rintro e u' ⟨rfl, k⟩ he
      exact ⟨by rw [he], k.block _ (by omega) (by omega), k.block _ (by omega) (by omega), k.size, hb2.trans (k.below (by omega) (fun g e => by omega)), fun hne => absurd he hne⟩
    rcases hel i with ⟨hs1, hm, he⟩ | ⟨hno, he⟩
    · refine (take1_ok_r P b (rst Rn.rd xs i) ((List.range i).map el) (i : Int) w0 u hb hbi hw0 hb2 (by omega) hJ (by simp; omega) (rd_i6r _ hbi) hs1 hm).mono ?_
      rintro e u' ⟨rfl, h1, h2, h3, h4, h5⟩
      refine ⟨by rw [he], h1, h2, h3, h4, fun _ => ?_⟩
      rw [← he] at h5
      rw [List.range_succ, List.map_append, List.map_singleton]
      exact h5
    · by_cases hs1 : (Rn.rd (rst Rn.rd xs i)).2.1 = false
      · refine (take1_no_r P b (rst Rn.rd xs i) ((List.range i).map el) (i : Int) w0 u hb hbi hw0 hb2 (by omega) hJ (rd_i6r _ hbi) hs1 (fun hm => hno ⟨hs1, hm⟩)).mono ?_
        exact fun e u' h => no e u' h he
      · refine (take1_short_r P b (rst Rn.rd xs i) ((List.range i).map el) (i : Int) w0 u hb hbi hw0 hb2 (by omega) hJ (by simpa using hs1)).mono ?_
        exact fun e u' h => no e u' h he
set_option maxRecDepth 100000 in
set_option maxHeartbeats 4000000 in
theorem taken_bad_r (b n : Int) (v : Value) (w : World) (hb : ¬ (Bt b ∧ 0 ≤ n)) :
    Calls Try.prog 30 #[.agg kcr, .int .i64 b, v, .int .i64 n] w fun e w' => e = .returned (.tuple #[.slice none 0 0, .int .i64 2]) ∧ Below w.heap.size w w' := by
  unfold kcr
  by_cases h1 : Bt b
  · have h2 : ¬ 0 ≤ n := fun h => hb ⟨h1, h⟩
    have h3 : n < 0 := by omega
    go_enter Try.func30, Try.ntmps30
    go_wp2_with (first | (go_at_call 35; refine (clustered_yes b _ h1).mono ?_; rintro e w' ⟨rfl, rfl⟩))
    go_ret2
    exact ⟨rfl, ((Below.refl _ _).alloc (Nat.le_refl _) _).alloc (by simp) _⟩
  · go_enter Try.func30, Try.ntmps30
    go_wp2_with (first | (go_at_call 35; refine (clustered_no b _ h1).mono ?_; rintro e w' ⟨rfl, rfl⟩))
    go_ret2
    exact ⟨rfl, ((Below.refl _ _).alloc (Nat.le_refl _) _).alloc (by simp) _⟩
set_option maxRecDepth 100000 in
set_option maxHeartbeats 4000000 in
theorem taken_long_r (b : Int) (n : Nat) (v : Value) (xs : List Int) (w : World) (hb : Bt b) (hn : 64 < n) (hS : Sl w v xs) :
    Calls Try.prog 30 #[.agg kcr, .int .i64 b, v, .int .i64 (n : Int)] w fun e w' => e = .returned (.tuple #[.slice none 0 0, .int .i64 210]) ∧ Below w.heap.size w w' := by
  obtain ⟨ao, cap, rfl, _⟩ := hS.src
  clear hS
  unfold kcr
  go_enter Try.func30, Try.ntmps30
  go_wp2_with (first | (go_at_call 35; refine (clustered_yes b _ hb).mono ?_; rintro e w' ⟨rfl, rfl⟩))
  go_ret2
  exact ⟨rfl, ((((Below.refl _ _).alloc (Nat.le_refl _) _).alloc (by simp) _).alloc (by simp; omega) _).alloc (by simp; omega) _⟩
set_option maxRecDepth 100000 in
set_option maxHeartbeats 4000000 in
theorem taken_r (b : Int) (n : Nat) (v : Value) (xs : List Int) (w : World) (hb : Bt b) (hn : n ≤ 64) (hby : Byt xs) (hS : Sl w v xs) :
    Calls Try.prog 30 #[.agg kcr, .int .i64 b, v, .int .i64 (n : Int)] w fun e w' => ∃ v' l er, e = .returned (.tuple #[v', .int .i64 er]) ∧ Red (Rn.May b) Rn.nm Rn.enc b xs n l er ∧ Ownr w' w.heap.size v' l ∧ Below w.heap.size w w' := by
  obtain ⟨el, hel⟩ := Rl.ex (Rn.May b) zRn Rn.rd xs
  obtain ⟨P, hP⟩ : ∃ P, P = w.heap.size := ⟨_, rfl⟩
  have HT := hid (fun W hbl hsz h => thr_take_r P b xs n w W el hel hb hby hn hP.symm hbl hsz h)
  have HG : Hid ((∀ i, i < n → Gd zRn Rn.nm el i) → (rst Rn.rd xs n).2 = [] → IsL (Rn.May b) Rn.nm Rn.enc xs n ((List.range n).map el)) := fun hg he => Rl.lst (fun xs ys e h1 h2 h3 => Rn.rd_inv h1 h2 h3) hby hel hn hg he
  have HK : Hid (∀ m, IsL (Rn.May b) Rn.nm Rn.enc xs n m → (∀ i, i < n → Gd zRn Rn.nm el i) ∧ (rst Rn.rd xs n).2 = []) := fun m hm => Rl.back (fun e ys h => Rn.rd_enc h ys) (Rn.zno b) hel hm
  have hvl := hS.lt
  obtain ⟨ao, cap, rfl, hs1, hs2⟩ := hS.src
  have HS := hid hS
  clear hS hel
  unfold kcr
  go_enter Try.func30, Try.ntmps30
  go_wp2_with (first | (go_at_call 35; refine (clustered_yes b _ hb).mono ?_; rintro e w' ⟨rfl, rfl⟩))
  have hW : ∀ W, W = ((((w.alloc (.cells kcr 74)).alloc (.cells #[.int .i64 b] 3)).alloc (.cells #[.slice none 0 0] 36)).alloc (.cells #[.slice ao xs.length cap, .bool false] 94)) → Below P w W ∧ W.heap.size = P + 4 ∧ TJr P b (false, xs) [] W := by
    rintro W rfl
    have z1 : (w.alloc (.cells kcr 74)).heap.size = P + 1 := by rw [World.size_alloc, hP]
    have s1 : St 74 (w.alloc (.cells kcr 74)) P kcr := by rw [hP]; exact St.new 74 w _
    have b1 : Below P w (w.alloc (.cells kcr 74)) := by rw [hP]; exact (Below.refl _ _).alloc (Nat.le_refl _) _
    generalize w.alloc (.cells kcr 74) = w1 at *
    have z2 : (w1.alloc (.cells #[.int .i64 b] 3)).heap.size = P + 2 := by rw [World.size_alloc, z1]
    have s2 : St 3 (w1.alloc (.cells #[.int .i64 b] 3)) (P + 1) #[.int .i64 b] := by rw [← z1]; exact St.new 3 w1 _
    have k2 : ∀ F, Kp F w1 (w1.alloc (.cells #[.int .i64 b] 3)) := fun F => (Kp.refl _ _).alloc _
    have b2 : Below P w (w1.alloc (.cells #[.int .i64 b] 3)) := b1.alloc (by omega) _
    generalize w1.alloc (.cells #[.int .i64 b] 3) = w2 at *
    have z3 : (w2.alloc (.cells #[.slice none 0 0] 36)).heap.size = P + 3 := by rw [World.size_alloc, z2]
    have s3 : St 36 (w2.alloc (.cells #[.slice none 0 0] 36)) (P + 2) #[.slice none 0 0] := by rw [← z2]; exact St.new 36 w2 _
    have k3 : ∀ F, Kp F w2 (w2.alloc (.cells #[.slice none 0 0] 36)) := fun F => (Kp.refl _ _).alloc _
    have b3 : Below P w (w2.alloc (.cells #[.slice none 0 0] 36)) := b2.alloc (by omega) _
    generalize w2.alloc (.cells #[.slice none 0 0] 36) = w3 at *
    have s4 : St 94 (w3.alloc (.cells #[.slice ao xs.length cap, .bool false] 94)) (P + 3) #[.slice ao xs.length cap, .bool false] := by rw [← z3]; exact St.new 94 w3 _
    have k4 : ∀ F, Kp F w3 (w3.alloc (.cells #[.slice ao xs.length cap, .bool false] 94)) := fun F => (Kp.refl _ _).alloc _
    have b4 : Below P w (w3.alloc (.cells #[.slice ao xs.length cap, .bool false] 94)) := b3.alloc (by omega) _
    refine ⟨b4, by rw [World.size_alloc, z3], ((s1.kp (k2 (fun _ => False)) (fun x => x)).kp (k3 (fun _ => False)) (fun x => x)).kp (k4 (fun _ => False)) (fun x => x), (s2.kp (k3 (fun _ => False)) (fun x => x)).kp (k4 (fun _ => False)) (fun x => x), ⟨_, s4, ?_, fun g e => by rw [hP]; exact hvl g e⟩, .slice none 0 0, s3.kp (k4 (fun _ => False)) (fun x => x), Ownr.nil _ _, by simp [Value.ownBlock], by simp [Value.ownBlock]⟩
    exact HS.out.below (by rw [← hP]; exact b4)
  obtain ⟨w1, w2, w3⟩ := hW _ rfl
  rw [← hP]
  refine (HT.out _ w1 w2 w3).mono ?_
  have hbz : Hid (Bt b) := hb
  rintro e w5 ⟨b5, ⟨rfl, hg, tj⟩ | ⟨rfl, hg⟩⟩
  · obtain ⟨v5, y1, y2, y3⟩ := tj.rd
    obtain ⟨ao5, cap5, rfl, _⟩ := y2.src
    have y4 := y1.cell 0
    change w5.cell? _ = some _ at y4
    obtain ⟨v6, q1, q2, _⟩ := tj.lv
    have y5 := q1.cell 0
    change w5.cell? _ = some v6 at y5
    have OW := hid q2
    have HGD := hid hg
    have B5 : Hid (Below w.heap.size w w5) := by rw [← hP]; exact b5
    have HP := hid hP
    obtain ⟨ys, hys⟩ : ∃ ys, ys = (rst Rn.rd xs n).2 := ⟨_, rfl⟩
    rw [← hys] at y4 HG HK
    clear tj w1 w2 w3 HT q1 q2 y1 y2 y3 hg hW b5 hP HS hs1 hs2 hvl hys
    by_cases hy0 : ys.length = 0
    · have hR : Hid (Red (Rn.May b) Rn.nm Rn.enc b xs n ((List.range n).map el) 0) := Or.inr (Or.inl ⟨hb, by omega, HG.out HGD.out (List.eq_nil_of_length_eq_zero hy0), rfl⟩)
      rw [hy0] at y4
      clear hy0
      go_wp2_with fail
      go_ret2
      exact ⟨v6, _, _, rfl, hR.out, ownsRow_mono OW.out (by have := HP.out; omega), B5.out⟩
    · have hR : Hid (Red (Rn.May b) Rn.nm Rn.enc b xs n [] 210) := Or.inr (Or.inr ⟨hb, by omega, fun m hm => hy0 (by rw [(HK.out m hm).2]; rfl), rfl, rfl⟩)
      have hy1 : 0 < ys.length := by omega
      generalize ys.length = N at y4 hy1
      clear hy0
      go_wp2_with fail
      go_ret2
      exact ⟨_, _, _, rfl, hR.out, Ownr.nil _ _, B5.out⟩
  · have hR : Hid (Red (Rn.May b) Rn.nm Rn.enc b xs n [] 210) := Or.inr (Or.inr ⟨hb, by omega, fun m hm => hg (HK.out m hm).1, rfl, rfl⟩)
    have B5 : Hid (Below w.heap.size w w5) := by rw [← hP]; exact b5
    clear w1 w2 w3 HT hW hg b5 HS HG HK hs1 hs2 hvl
    go_wp2_with fail
    go_ret2
    exact ⟨_, _, _, rfl, hR.out, Ownr.nil _ _, B5.out⟩
set_option maxRecDepth 100000 in
set_option maxHeartbeats 4000000 in
/-- ReadSnaps, ReadRows: whatever the bytes, the number and the width. -/
theorem Read_r (b n : Int) (v : Value) (xs : List Int) (w : World) (hby : Byt xs) (hS : Sl w v xs) :
    Calls Try.prog 16 #[.int .i64 b, v, .int .i64 n] w fun e w' => ∃ v' l er, e = .returned (.tuple #[v', .int .i64 er]) ∧ Red (Rn.May b) Rn.nm Rn.enc b xs n l er ∧ Ownr w' w.heap.size v' l ∧ Below w.heap.size w w' := by
  have HT : Hid (∀ W, Below w.heap.size w W → Calls Try.prog 30 #[.agg kcr, .int .i64 b, v, .int .i64 n] W fun e w' => ∃ v' l er, e = .returned (.tuple #[v', .int .i64 er]) ∧ Red (Rn.May b) Rn.nm Rn.enc b xs n l er ∧ Ownr w' w.heap.size v' l ∧ Below w.heap.size w w') := by
    intro W hW
    by_cases hb : Bt b ∧ 0 ≤ n
    · obtain ⟨hb1, hb2⟩ := hb
      obtain ⟨k, rfl⟩ := Int.eq_ofNat_of_zero_le hb2
      by_cases h64 : k ≤ 64
      · refine (taken_r b k v xs W hb1 h64 hby (hS.below hW)).mono ?_
        rintro e w' ⟨v', l, er, rfl, h1, h2, h3⟩
        exact ⟨v', l, er, rfl, h1, ownsRow_mono h2 hW.size, hW.trans (h3.mono hW.size)⟩
      · refine (taken_long_r b k v xs W hb1 (by omega) (hS.below hW)).mono ?_
        rintro e w' ⟨rfl, h3⟩
        exact ⟨_, [], 210, rfl, Or.inr (Or.inr ⟨hb1, hb2, fun m hm => by have := hm.2.1; have := hm.2.2.1; omega, rfl, rfl⟩), Ownr.nil _ _, hW.trans (h3.mono hW.size)⟩
    · refine (taken_bad_r b n v W hb).mono ?_
      rintro e w' ⟨rfl, h3⟩
      exact ⟨_, [], 2, rfl, Or.inl ⟨hb, rfl, rfl⟩, Ownr.nil _ _, hW.trans (h3.mono hW.size)⟩
  clear hS hby
  go_enter Try.func16, Try.ntmps16
  go_wp2_with (first | (go_at_call 28; refine (kind_r _).mono ?_; rintro e w1 ⟨rfl, b1⟩) | (go_at_call 30; refine (HT.out w1 b1).mono ?_; rintro e w2 ⟨v', l, er, rfl, h1, h2, h3⟩))
  go_ret2
  exact ⟨v', l, er, rfl, h1, h2, h3⟩
end Go.Proofs.Ytjjhkfhppoioiaa
