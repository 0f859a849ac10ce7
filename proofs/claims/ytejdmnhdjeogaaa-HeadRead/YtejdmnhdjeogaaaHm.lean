/- Plain mathematics of heads: a sector's bytes are read as the head that they are of. -/
import Derived.Test.YtejdmnhdjeogaaaHd
namespace Go.Proofs.Ytejdmnhdjeogaaa
open Go.RowKit
set_option linter.unusedVariables false

theorem nouB_rep (n : Nat) : nouB (List.replicate n 0) = true := by simp [nouB]
theorem nouB_eq {l : List Int} (h : nouB l = true) : l = List.replicate l.length 0 := by
  apply List.eq_replicate_iff.2
  refine ⟨rfl, fun b hb => ?_⟩
  have := List.all_eq_true.1 h b hb
  simpa using this
def txN (zs : List Int) : Nat := (val (seg zs 84 4)).toNat
theorem txN_val (zs : List Int) (hb : Byt zs) : ((txN zs : Nat) : Int) = val (seg zs 84 4) := Int.toNat_of_nonneg (val_bound _ (hb.seg _ _)).1
theorem txtE_ok84 (zs : List Int) (hl : 512 ≤ zs.length) : txtE zs.length 84 64 = 0 := by
  unfold txtE; rw [if_neg (by omega)]; exact inE_mk (by omega) (by omega)
theorem txtC_iff (zs : List Int) (hb : Byt zs) (hl : 512 ≤ zs.length) : txtC zs 84 64 = 0 ↔ txN zs ≤ 64 ∧ nouB (seg zs (88 + txN zs) (64 - txN zs)) = true := by
  have hN := txN_val zs hb
  unfold txtC
  rw [if_pos (txtE_ok84 zs hl)]
  show (if (64 : Int) < val (seg zs 84 4) then (110 : Int) else if nouB (seg zs (84 + 4 + txN zs) (64 - txN zs)) = true then 0 else 110) = 0 ↔ _
  rw [← hN]
  by_cases h : (64 : Int) < (txN zs : Int)
  · rw [if_pos h]; constructor
    · intro h; cases h
    · intro ⟨h1, _⟩; omega
  · rw [if_neg h]
    by_cases h2 : nouB (seg zs (84 + 4 + txN zs) (64 - txN zs)) = true
    · rw [if_pos h2]; exact ⟨fun _ => ⟨by omega, h2⟩, fun _ => rfl⟩
    · rw [if_neg h2]; constructor
      · intro h; cases h
      · intro ⟨_, h3⟩; exact absurd h3 h2
theorem txtS_eq (zs : List Int) (h : txtC zs 84 64 = 0) : txtS zs 84 64 = seg zs 88 (txN zs) := by
  unfold txtS; rw [if_pos h]; rfl

theorem byts_str (l : List Int) (h : Byt l) : byts (strOfNums l) = l := by
  unfold byts strOfNums
  simp only [List.map_map]
  conv => rhs; rw [← List.map_id l]
  apply List.map_congr_left
  intro z hz
  have := h z hz
  simp only [Function.comp, id]
  rw [UInt8.toNat_ofNat']
  omega
theorem str_size (l : List Int) : (strOfNums l).size = l.length := by
  unfold strOfNums; simp [ByteArray.size]

theorem seg_take (zs : List Int) (a n m : Nat) (h : a + n ≤ m) : seg (zs.take m) a n = seg zs a n := by
  unfold seg
  rw [List.drop_take, List.take_take, Nat.min_eq_left (by omega)]
theorem seg_mid (p x r : List Int) : seg (p ++ (x ++ r)) p.length x.length = x := by
  unfold seg; simp
theorem pre_more (h : Hd) {k : Nat} (hk : k ≤ 14) : ∃ r, pre h 14 = pre h k ++ r := by
  unfold pre
  refine ⟨((flds h).drop k).flatMap fb, ?_⟩
  rw [List.append_assoc, ← List.flatMap_append, List.take_append_drop]
  rfl
theorem seg_sec (h : Hd) {k : Nat} (hk : k < 14) : seg (secL h) (pos k) (wid k) = num (xk h k) (wid k) := by
  obtain ⟨r, hr⟩ := pre_more h (show k + 1 ≤ 14 by omega)
  rw [pre_step h hk] at hr
  have := seg_mid (pre h k) (num (xk h k) (wid k)) (r ++ (num h.name.size 4 ++ (byts h.name ++ List.replicate (424 - h.name.size) 0)))
  rw [pre_len h (by omega), num_length] at this
  unfold secL
  rw [hr]
  simpa [List.append_assoc] using this
theorem seg_num (h : Hd) : seg (secL h) 84 4 = num h.name.size 4 := by
  have := seg_mid (pre h 14) (num h.name.size 4) (byts h.name ++ List.replicate (424 - h.name.size) 0)
  rw [pre_len h (by omega), num_length] at this
  exact this
theorem seg_name (h : Hd) : seg (secL h) 88 h.name.size = byts h.name := by
  have := seg_mid (pre h 14 ++ num h.name.size 4) (byts h.name) (List.replicate (424 - h.name.size) 0)
  rw [List.length_append, pre_len h (by omega), num_length, byts_length] at this
  unfold secL
  rw [← List.append_assoc]
  exact this
theorem seg_rest (h : Hd) (a n : Nat) (ha : 88 + h.name.size ≤ a) (hn : a + n ≤ 512) (hl : h.name.size ≤ 64) : seg (secL h) a n = List.replicate n 0 := by
  have e : secL h = (pre h 14 ++ num h.name.size 4 ++ byts h.name) ++ List.replicate (424 - h.name.size) 0 := by simp [secL]
  have hlen : (pre h 14 ++ num h.name.size 4 ++ byts h.name).length = 88 + h.name.size := by
    rw [List.length_append, List.length_append, pre_len h (by omega), num_length, byts_length]; rfl
  rw [e]
  unfold seg
  rw [List.drop_append, List.drop_eq_nil_of_le (by omega), hlen]
  simp
  omega
theorem take_mark (h : Hd) : (secL h).take 4 = mk := by simp [secL, pre, mk]

theorem xk_small {h : Hd} (m : May h) (hf : 0 ≤ h.flags) {k : Nat} (hk : k < 14) : 0 ≤ xk h k ∧ xk h k ≤ 268435456 := by
  have a := m.b9; have b := m.b16; have c := m.flags; have d := m.s0; have e := m.s1; have f := m.n0; have g := m.n1; have i := m.o0; have j := m.o1; have k0 := m.c0; have l := m.c1
  have o := m.l1nn; have p := m.counts.1; have q := m.counts.2.1; have r := m.snaps.nn; have s := m.maps.nn
  rcases lt14 hk with rfl | rfl | rfl | rfl | rfl | rfl | rfl | rfl | rfl | rfl | rfl | rfl | rfl | rfl <;> simp [xk] <;> omega
theorem sgv_sec {h : Hd} (m : May h) (hf : 0 ≤ h.flags) {zs : List Int} (hz : zs.take 512 = secL h) {k : Nat} (hk : k < 14) : sgv zs k = xk h k := by
  have h1 := pos_le hk
  have h2 := xk_small m hf hk
  unfold sgv
  rw [← seg_take zs _ _ 512 (by omega), hz, seg_sec h hk, val_num_of_lt _ _ h2.1]
  rcases wid_cases hk with e | e <;> rw [e] <;> exact Int.lt_of_le_of_lt h2.2 (by decide)
theorem wrap_sm {x : Int} (h : 0 ≤ x ∧ x ≤ 268435456) : IntKind.i64.wrap x = x := by rw [IntKind.wrap_i64]; omega
/-- Bytes of a head that may be are read as it. -/
theorem sec_cnd {h : Hd} (m : May h) (hf : 0 ≤ h.flags) {zs : List Int} (hb : Byt zs) (hz : zs.take 512 = secL h) : Cnd zs ∧ rdH zs = h := by
  have hlen : 512 ≤ zs.length := by
    have := congrArg List.length hz
    rw [secL_length h m.long] at this
    simp at this; omega
  have hl := m.long
  have hN : txN zs = h.name.size := by
    unfold txN
    rw [← seg_take zs 84 4 512 (by omega), hz, seg_num h, val_num_of_lt _ _ (by omega) (Int.lt_of_le_of_lt (show ((h.name.size : Nat) : Int) ≤ 64 by omega) (by decide))]
    omega
  have hC : txtC zs 84 64 = 0 := by
    rw [txtC_iff zs hb hlen, hN]
    refine ⟨hl, ?_⟩
    rw [← seg_take zs _ _ 512 (by omega), hz, seg_rest h _ _ (by omega) (by omega) hl]
    exact nouB_rep _
  have hS : strOfNums (txtS zs 84 64) = h.name := by
    rw [txtS_eq zs hC, hN, ← seg_take zs _ _ 512 (by omega), hz, seg_name h, str_byts]
  have hR : rdH zs = h := by
    unfold rdH
    rw [hS]
    simp only [sgv_sec m hf hz (show (0 : Nat) < 14 by omega), sgv_sec m hf hz (show 1 < 14 by omega), sgv_sec m hf hz (show 2 < 14 by omega), sgv_sec m hf hz (show 3 < 14 by omega), sgv_sec m hf hz (show 4 < 14 by omega), sgv_sec m hf hz (show 5 < 14 by omega), sgv_sec m hf hz (show 6 < 14 by omega), sgv_sec m hf hz (show 7 < 14 by omega), sgv_sec m hf hz (show 8 < 14 by omega), sgv_sec m hf hz (show 9 < 14 by omega), sgv_sec m hf hz (show 10 < 14 by omega), sgv_sec m hf hz (show 11 < 14 by omega), sgv_sec m hf hz (show 12 < 14 by omega), sgv_sec m hf hz (show 13 < 14 by omega)]
    rw [wrap_sm (xk_small m hf (show (0 : Nat) < 14 by omega)), wrap_sm (xk_small m hf (show 2 < 14 by omega)), wrap_sm (xk_small m hf (show 3 < 14 by omega)), wrap_sm (xk_small m hf (show 4 < 14 by omega)), wrap_sm (xk_small m hf (show 5 < 14 by omega)), wrap_sm (xk_small m hf (show 6 < 14 by omega)), wrap_sm (xk_small m hf (show 7 < 14 by omega)), wrap_sm (xk_small m hf (show 8 < 14 by omega)), wrap_sm (xk_small m hf (show 9 < 14 by omega)), wrap_sm (xk_small m hf (show 10 < 14 by omega)), wrap_sm (xk_small m hf (show 11 < 14 by omega)), wrap_sm (xk_small m hf (show 12 < 14 by omega)), wrap_sm (xk_small m hf (show 13 < 14 by omega))]
    rfl
  refine ⟨⟨hlen, ?_, ?_, hC, hR ▸ m⟩, hR⟩
  · rw [← seg_take zs _ _ 512 (by omega), hz, seg_rest h _ _ (by omega) (by omega) hl]
    exact nouB_rep _
  · have : (zs.take 512).take 4 = mk := by rw [hz]; exact take_mark h
    rw [List.take_take] at this
    exact this
/-- What is read has just these bytes. -/
theorem cnd_sec {zs : List Int} (hb : Byt zs) (c : Cnd zs) : secL (rdH zs) = zs.take 512 := by
  have hlen := c.len
  have hw := rdH_wf zs hb hlen
  have hf := hw.flags.1
  have hN := (txtC_iff zs hb hlen).1 c.text
  have hname : (rdH zs).name = strOfNums (seg zs 88 (txN zs)) := by show strOfNums (txtS zs 84 64) = _; rw [txtS_eq zs c.text]
  have hsize : (rdH zs).name.size = txN zs := by rw [hname, str_size, seg_len _ _ _ (by omega)]
  have hx : ∀ k, k < 14 → xk (rdH zs) k = sgv zs k := by
    intro k hk
    have h1 := xk_small c.may hf hk
    have h2 := sgv_bound zs hb k hk hlen
    rcases lt14 hk with rfl | rfl | rfl | rfl | rfl | rfl | rfl | rfl | rfl | rfl | rfl | rfl | rfl | rfl <;> first | rfl | exact wrap_nn _ h2.1 h2.2 h1.1
  have hp : ∀ k, k ≤ 14 → pre (rdH zs) k = zs.take (pos k) := by
    intro k
    induction k with
    | zero => intro _; rw [show pos 0 = 4 from rfl, c.mark]; rfl
    | succ k ih =>
      intro hk
      have hpl := pos_le (show k < 14 by omega)
      rw [pre_step _ (show k < 14 by omega), ih (by omega), hx k (by omega), pos_step (show k < 14 by omega), List.take_add]
      congr 1
      have := num_val (seg zs (pos k) (wid k)) (hb.seg _ _)
      rw [seg_len _ _ _ (by omega)] at this
      exact this
  unfold secL
  rw [hp 14 (by omega), hsize, hname, byts_str _ (hb.seg _ _)]
  have h84 : num ((txN zs : Nat) : Int) 4 = seg zs 84 4 := by
    rw [txN_val zs hb]
    have := num_val (seg zs 84 4) (hb.seg _ _)
    rw [seg_len _ _ _ (by omega)] at this
    exact this
  have r1 := nouB_eq hN.2
  have r2 := nouB_eq c.nou
  rw [seg_len _ _ _ (by omega)] at r1 r2
  rw [h84, show 424 - txN zs = (64 - txN zs) + 360 by omega, ← List.replicate_append_replicate, ← r1, ← r2]
  rw [show pos 14 = 84 from rfl]
  have t : zs.take 512 = zs.take 84 ++ seg zs 84 428 := by rw [show 512 = 84 + 428 from rfl, List.take_add]; rfl
  rw [t, show 428 = 4 + (txN zs + ((64 - txN zs) + 360)) by omega, seg_split, seg_split, seg_split]
  have e1 : 84 + 4 + txN zs + (64 - txN zs) = 152 := by omega
  rw [e1]
/-- Two heads that may be have other bytes, unless they are the same. -/
theorem sec_inj {a b : Hd} (ma : May a) (mb : May b) (fa : 0 ≤ a.flags) (fb : 0 ≤ b.flags) (h : secL a = secL b) : a = b := by
  have la := secL_length a ma.long
  have h1 := sec_cnd ma fa (secL_byt a) (by rw [List.take_of_length_le (by omega)])
  have h2 := sec_cnd mb fb (secL_byt a) (by rw [List.take_of_length_le (by omega), h])
  exact h1.2.symm.trans h2.2

/-! The document's reading. -/
def rfn (x : Int) : Int := if 4611686018427387904 < x then -1 else x
def rfH (zs : List Int) : Hd where
  bits := rfn (sgv zs 0)
  flags := sgv zs 1
  size := rfn (sgv zs 2)
  l1 := rfn (sgv zs 3)
  l1len := rfn (sgv zs 4)
  order := rfn (sgv zs 5)
  counts := rfn (sgv zs 6)
  countslen := rfn (sgv zs 7)
  snaps := rfn (sgv zs 8)
  snapsat := rfn (sgv zs 9)
  snapslen := rfn (sgv zs 10)
  maps := rfn (sgv zs 11)
  mapsat := rfn (sgv zs 12)
  mapslen := rfn (sgv zs 13)
  name := strOfNums (seg zs 88 (txN zs))
theorem rfn_eq (x : Int) (h : 0 ≤ x ∧ x ≤ 268435456) : rfn x = x := by unfold rfn; rw [if_neg (by omega)]
theorem rfn_wrap (x : Int) (h0 : 0 ≤ x) (h1 : x < 18446744073709551616) (h : 0 ≤ IntKind.i64.wrap x ∧ IntKind.i64.wrap x ≤ 268435456) : rfn x = IntKind.i64.wrap x := by
  have := wrap_nn x h0 h1 h.1
  rw [this]
  exact rfn_eq x (this ▸ h)
theorem cnd_ref {zs : List Int} (hb : Byt zs) (c : Cnd zs) : txN zs ≤ 64 ∧ rfH zs = rdH zs := by
  have hlen := c.len
  have hf := (rdH_wf zs hb hlen).flags.1
  refine ⟨((txtC_iff zs hb hlen).1 c.text).1, ?_⟩
  have hx : ∀ k, k < 14 → k ≠ 1 → IntKind.i64.wrap (sgv zs k) = xk (rdH zs) k := by
    intro k hk h1
    rcases lt14 hk with rfl | rfl | rfl | rfl | rfl | rfl | rfl | rfl | rfl | rfl | rfl | rfl | rfl | rfl <;> first | rfl | exact absurd rfl h1
  have hr : ∀ k, k < 14 → k ≠ 1 → rfn (sgv zs k) = IntKind.i64.wrap (sgv zs k) := by
    intro k hk h1
    have h2 := sgv_bound zs hb k hk hlen
    exact rfn_wrap _ h2.1 h2.2 (by rw [hx k hk h1]; exact xk_small c.may hf hk)
  unfold rfH rdH
  rw [hr 0 (by omega) (by omega), hr 2 (by omega) (by omega), hr 3 (by omega) (by omega), hr 4 (by omega) (by omega), hr 5 (by omega) (by omega), hr 6 (by omega) (by omega), hr 7 (by omega) (by omega), hr 8 (by omega) (by omega), hr 9 (by omega) (by omega), hr 10 (by omega) (by omega), hr 11 (by omega) (by omega), hr 12 (by omega) (by omega), hr 13 (by omega) (by omega), txtS_eq zs c.text]
theorem ref_cnd {zs : List Int} (hb : Byt zs) (hl : 512 ≤ zs.length) (m : May (rfH zs)) (h : secL (rfH zs) = zs.take 512) : Cnd zs := (sec_cnd m (sgv_bound zs hb 1 (by omega) hl).1 hb h.symm).1
theorem rfH_wf (zs : List Int) (hb : Byt zs) (hl : 512 ≤ zs.length) : (rfH zs).Wf := by
  have h : ∀ k, k < 14 → I6 (rfn (sgv zs k)) := by
    intro k hk
    have := sgv_bound zs hb k hk hl
    unfold rfn I6
    split <;> omega
  constructor <;> first | exact h _ (by omega) | exact sgv_bound zs hb 1 (by omega) hl
end Go.Proofs.Ytejdmnhdjeogaaa
