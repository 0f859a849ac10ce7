/- Plain mathematics of heads: what a head may be, its sector's bytes, and what bytes say. -/
import Derived.Test.YtejdmnhdjeogaaaSetText
namespace Go.Proofs.Ytejdmnhdjeogaaa
open Go.RowKit

structure Hd where
  bits : Int
  flags : Int
  size : Int
  l1 : Int
  l1len : Int
  order : Int
  counts : Int
  countslen : Int
  snaps : Int
  snapsat : Int
  snapslen : Int
  maps : Int
  mapsat : Int
  mapslen : Int
  name : ByteArray

/-- A head's cells. -/
def Hd.cs (h : Hd) : Array Value := #[.int .i64 h.bits, .int .u64 h.flags, .int .i64 h.size, .int .i64 h.l1, .int .i64 h.l1len, .int .i64 h.order, .int .i64 h.counts, .int .i64 h.countslen, .int .i64 h.snaps, .int .i64 h.snapsat, .int .i64 h.snapslen, .int .i64 h.maps, .int .i64 h.mapsat, .int .i64 h.mapslen, .string h.name]
def I6 (x : Int) : Prop := -9223372036854775808 ≤ x ∧ x ≤ 9223372036854775807
/-- Its numbers are numbers of their kinds. -/
structure Hd.Wf (h : Hd) : Prop where
  bits : I6 h.bits
  flags : 0 ≤ h.flags ∧ h.flags < 18446744073709551616
  size : I6 h.size
  l1 : I6 h.l1
  l1len : I6 h.l1len
  order : I6 h.order
  counts : I6 h.counts
  countslen : I6 h.countslen
  snaps : I6 h.snaps
  snapsat : I6 h.snapsat
  snapslen : I6 h.snapslen
  maps : I6 h.maps
  mapsat : I6 h.mapsat
  mapslen : I6 h.mapslen
def clu (b : Int) : Int := 2 ^ b.toNat
def up (a b : Int) : Int := if a % b = 0 then a / b else a / b + 1
def gst (h : Hd) : Int := up h.size (clu h.bits)
def tbl (h : Hd) : Int := up (gst h) (clu h.bits / 8)
def Plc (c x : Int) : Prop := 0 < x ∧ x ≤ 268435456 ∧ x % c = 0
def Lst (c n x l : Int) : Prop := (n = 0 ∧ x = 0 ∧ l = 0) ∨ (0 < n ∧ n ≤ 64 ∧ Plc c x ∧ 1 ≤ l ∧ l ≤ 65536)
def Nn (s : ByteArray) : Prop := ∀ b ∈ s.data.toList, b ≠ 0
/-- A head that may be. -/
structure May (h : Hd) : Prop where
  b9 : 9 ≤ h.bits
  b16 : h.bits ≤ 16
  flags : h.flags ≤ 1
  s0 : 0 ≤ h.size
  s1 : h.size ≤ 67108864
  s5 : h.size % 512 = 0
  n0 : 0 ≤ h.l1len
  n1 : h.l1len ≤ 1048576
  n2 : tbl h ≤ h.l1len
  o0 : 0 ≤ h.order
  o1 : h.order ≤ 6
  c0 : 1 ≤ h.countslen
  c1 : h.countslen ≤ 65536
  l1 : (h.l1len = 0 ∧ h.l1 = 0) ∨ (0 < h.l1len ∧ Plc (clu h.bits) h.l1)
  counts : Plc (clu h.bits) h.counts
  snaps : Lst (clu h.bits) h.snaps h.snapsat h.snapslen
  maps : Lst (clu h.bits) h.maps h.mapsat h.mapslen
  nn : Nn h.name
  long : h.name.size ≤ 64

theorem clu_cases {b : Int} (h0 : 9 ≤ b) (h1 : b ≤ 16) : clu b = 512 ∨ clu b = 1024 ∨ clu b = 2048 ∨ clu b = 4096 ∨ clu b = 8192 ∨ clu b = 16384 ∨ clu b = 32768 ∨ clu b = 65536 := by
  have : b = 9 ∨ b = 10 ∨ b = 11 ∨ b = 12 ∨ b = 13 ∨ b = 14 ∨ b = 15 ∨ b = 16 := by omega
  rcases this with rfl | rfl | rfl | rfl | rfl | rfl | rfl | rfl <;> simp [clu]
theorem up_parts (a b : Int) (hb : 0 < b) : (a + b - 1) / b = up a b := by
  have h1 := Int.emod_add_mul_ediv a b
  have h2 := Int.emod_nonneg a (show b ≠ 0 by omega)
  have h3 := Int.emod_lt_of_pos a hb
  unfold up
  split
  · next h =>
    rw [show a + b - 1 = (b - 1) + b * (a / b) by omega, Int.add_mul_ediv_left _ _ (by omega), Int.ediv_eq_zero_of_lt (by omega) (by omega)]
    omega
  · next h =>
    rw [show a + b - 1 = (a % b - 1) + b * (a / b + 1) by rw [Int.mul_add]; omega, Int.add_mul_ediv_left _ _ (by omega), Int.ediv_eq_zero_of_lt (by omega) (by omega)]
    omega
theorem up_nn (a b : Int) (ha : 0 ≤ a) (hb : 0 < b) : 0 ≤ up a b := by
  have := Int.ediv_nonneg ha (show 0 ≤ b by omega)
  unfold up; split <;> omega
theorem up_le (a b : Int) (ha : 0 ≤ a) (hb : 0 < b) : up a b ≤ a := by
  rw [← up_parts a b hb]
  by_cases h : a = 0
  · subst h; rw [Int.ediv_eq_zero_of_lt (by omega) (by omega)]; omega
  · apply Int.le_of_lt_add_one
    apply Int.ediv_lt_of_lt_mul hb
    have : a * 1 ≤ a * b := Int.mul_le_mul_of_nonneg_left (by omega) ha
    rw [Int.add_mul]
    by_cases hb1 : b = 1
    · subst hb1; omega
    · have h2 : 1 * b ≤ a * b := Int.mul_le_mul_of_nonneg_right (by omega) (by omega)
      omega
theorem Lst.nn {c n x l : Int} (h : Lst c n x l) : 0 ≤ n ∧ 0 ≤ x ∧ 0 ≤ l ∧ n ≤ 64 ∧ x ≤ 268435456 ∧ l ≤ 65536 := by
  rcases h with ⟨rfl, rfl, rfl⟩ | ⟨h1, h2, ⟨h3, h4, _⟩, h5, h6⟩ <;> omega
theorem May.l1nn {h : Hd} (m : May h) : 0 ≤ h.l1 ∧ h.l1 ≤ 268435456 := by
  rcases m.l1 with ⟨_, e⟩ | ⟨_, e, e2, _⟩ <;> omega
theorem May.wf {h : Hd} (m : May h) (hf : 0 ≤ h.flags) : h.Wf := by
  have a := m.b9; have b := m.b16; have c := m.flags; have d := m.s0; have e := m.s1; have f := m.n0; have g := m.n1; have i := m.o0; have j := m.o1; have k := m.c0; have l := m.c1
  have o := m.l1nn; have p := m.counts.1; have q := m.counts.2.1; have r := m.snaps.nn; have s := m.maps.nn
  constructor <;> (try unfold I6) <;> omega

/-! The bytes. -/
def mk : List Int := [80, 65, 76, 49]
def flds (h : Hd) : List (Nat × Int) := [(4, h.bits), (8, h.flags), (8, h.size), (8, h.l1), (4, h.l1len), (4, h.order), (8, h.counts), (4, h.countslen), (4, h.snaps), (8, h.snapsat), (4, h.snapslen), (4, h.maps), (8, h.mapsat), (4, h.mapslen)]
def fb (p : Nat × Int) : List Int := num p.2 p.1
/-- The mark, and the first k numbers. -/
def pre (h : Hd) (k : Nat) : List Int := mk ++ ((flds h).take k).flatMap fb
def pos (k : Nat) : Nat := [4, 8, 16, 24, 32, 36, 40, 48, 52, 56, 64, 68, 72, 80, 84].getD k 0
def wid (k : Nat) : Nat := [4, 8, 8, 8, 4, 4, 8, 4, 4, 8, 4, 4, 8, 4].getD k 0
def xk (h : Hd) (k : Nat) : Int := [h.bits, h.flags, h.size, h.l1, h.l1len, h.order, h.counts, h.countslen, h.snaps, h.snapsat, h.snapslen, h.maps, h.mapsat, h.mapslen].getD k 0
theorem lt14 {k : Nat} (hk : k < 14) : k = 0 ∨ k = 1 ∨ k = 2 ∨ k = 3 ∨ k = 4 ∨ k = 5 ∨ k = 6 ∨ k = 7 ∨ k = 8 ∨ k = 9 ∨ k = 10 ∨ k = 11 ∨ k = 12 ∨ k = 13 := by omega
theorem pos_step {k : Nat} (hk : k < 14) : pos (k + 1) = pos k + wid k := by
  rcases lt14 hk with rfl | rfl | rfl | rfl | rfl | rfl | rfl | rfl | rfl | rfl | rfl | rfl | rfl | rfl <;> rfl
theorem pos_le {k : Nat} (hk : k < 14) : 4 ≤ pos k ∧ pos k + wid k ≤ 84 := by
  rcases lt14 hk with rfl | rfl | rfl | rfl | rfl | rfl | rfl | rfl | rfl | rfl | rfl | rfl | rfl | rfl <;> decide
theorem wid_cases {k : Nat} (hk : k < 14) : wid k = 4 ∨ wid k = 8 := by
  rcases lt14 hk with rfl | rfl | rfl | rfl | rfl | rfl | rfl | rfl | rfl | rfl | rfl | rfl | rfl | rfl <;> decide
theorem flds_get (h : Hd) {k : Nat} (hk : k < 14) : (flds h)[k]? = some (wid k, xk h k) := by
  rcases lt14 hk with rfl | rfl | rfl | rfl | rfl | rfl | rfl | rfl | rfl | rfl | rfl | rfl | rfl | rfl <;> rfl
theorem pre_step (h : Hd) {k : Nat} (hk : k < 14) : pre h (k + 1) = pre h k ++ num (xk h k) (wid k) := by
  unfold pre
  rw [List.take_add_one, flds_get h hk, List.append_assoc]
  simp [fb]
theorem pre_len (h : Hd) {k : Nat} (hk : k ≤ 14) : (pre h k).length = pos k := by
  induction k with
  | zero => rfl
  | succ k ih => rw [pre_step h hk, List.length_append, num_length, ih (by omega), pos_step hk]
def secL (h : Hd) : List Int := pre h 14 ++ (num h.name.size 4 ++ (byts h.name ++ List.replicate (424 - h.name.size) 0))
theorem secL_length (h : Hd) (hl : h.name.size ≤ 64) : (secL h).length = 512 := by
  simp [secL, pre_len h (Nat.le_refl 14), num_length, byts_length]
  have : pos 14 = 84 := rfl
  omega
theorem Byt.rep (n : Nat) : Byt (List.replicate n 0) := by
  intro z hz
  have := (List.mem_replicate.1 hz).2
  omega
theorem secL_byt (h : Hd) : Byt (secL h) := by
  have hp : ∀ k, k ≤ 14 → Byt (pre h k) := by
    intro k
    induction k with
    | zero => intro _ z hz; simp [pre, mk] at hz; rcases hz with rfl | rfl | rfl | rfl <;> decide
    | succ k ih => intro hk; rw [pre_step h hk]; exact (ih (by omega)).append (num_byt _ _)
  exact (hp 14 (Nat.le_refl _)).append ((num_byt _ _).append ((byts_byt _).append (Byt.rep _)))
/-- A number is put behind what stands. -/
theorem splice_fill (p x : List Int) (n : Nat) (_hx : x.length ≤ n) : splice (p ++ List.replicate n 0) p.length x = (p ++ x) ++ List.replicate (n - x.length) 0 := by
  simp [splice, List.drop_append, List.drop_replicate, List.drop_eq_nil_of_le]
theorem pre_splice (h : Hd) {k : Nat} (hk : k < 14) : splice (pre h k ++ List.replicate (512 - pos k) 0) (pos k) (num (xk h k) (wid k)) = pre h (k + 1) ++ List.replicate (512 - pos (k + 1)) 0 := by
  have h1 := pre_len h (show k ≤ 14 by omega)
  have h2 := pos_le hk
  have h3 := splice_fill (pre h k) (num (xk h k) (wid k)) (512 - pos k) (by rw [num_length]; omega)
  rw [h1, num_length] at h3
  rw [h3, pre_step h hk, pos_step hk, show 512 - pos k - wid k = 512 - (pos k + wid k) by omega]
theorem pre_text (h : Hd) (hl : h.name.size ≤ 64) : splice (pre h 14 ++ List.replicate (512 - pos 14) 0) 84 (fld 64 (byts h.name)) = secL h := by
  have h1 := pre_len h (Nat.le_refl 14)
  have h2 : pos 14 = 84 := rfl
  have h4 := byts_length h.name
  have h3 := splice_fill (pre h 14) (fld 64 (byts h.name)) (512 - pos 14) (by rw [fld_length _ _ (by omega)]; omega)
  rw [h1, h2, fld_length _ _ (by omega)] at h3
  rw [h2, h3]
  unfold secL fld
  rw [h4]
  simp only [List.append_assoc, List.replicate_append_replicate]
  rw [show 64 - h.name.size + (512 - 84 - (4 + 64)) = 424 - h.name.size by omega]

/-! Reading. -/
def seg (zs : List Int) (a n : Nat) : List Int := (zs.drop a).take n
theorem seg_split (zs : List Int) (a n m : Nat) : seg zs a (n + m) = seg zs a n ++ seg zs (a + n) m := by
  unfold seg; rw [List.take_add, List.drop_drop]
theorem seg_len (zs : List Int) (a n : Nat) (h : a + n ≤ zs.length) : (seg zs a n).length = n := by simp [seg]; omega
theorem Byt.seg {zs : List Int} (h : Byt zs) (a n : Nat) : Byt (seg zs a n) := (h.drop a).take n
theorem num_val (l : List Int) (h : Byt l) : num (val l) l.length = l := by
  induction l with
  | nil => rfl
  | cons b r ih =>
    have hb := h b (by simp)
    have hr : Byt r := fun z hz => h z (by simp [hz])
    show (b + 256 * val r) % 256 :: num ((b + 256 * val r) / 256) r.length = b :: r
    rw [show (b + 256 * val r) % 256 = b by omega, show (b + 256 * val r) / 256 = val r by omega, ih hr]
def sgv (zs : List Int) (k : Nat) : Int := val (seg zs (pos k) (wid k))
theorem sgv_bound (zs : List Int) (hb : Byt zs) (k : Nat) (hk : k < 14) (hl : 512 ≤ zs.length) : 0 ≤ sgv zs k ∧ sgv zs k < 18446744073709551616 := by
  have h1 := pos_le hk
  have h2 := val_bound (seg zs (pos k) (wid k)) (hb.seg _ _)
  rw [seg_len _ _ _ (by omega)] at h2
  unfold sgv
  refine ⟨h2.1, Int.lt_of_lt_of_le h2.2 ?_⟩
  rcases wid_cases hk with e | e <;> rw [e] <;> decide
/-- The head that bytes say, as the program reads it. -/
def rdH (zs : List Int) : Hd where
  bits := IntKind.i64.wrap (sgv zs 0)
  flags := sgv zs 1
  size := IntKind.i64.wrap (sgv zs 2)
  l1 := IntKind.i64.wrap (sgv zs 3)
  l1len := IntKind.i64.wrap (sgv zs 4)
  order := IntKind.i64.wrap (sgv zs 5)
  counts := IntKind.i64.wrap (sgv zs 6)
  countslen := IntKind.i64.wrap (sgv zs 7)
  snaps := IntKind.i64.wrap (sgv zs 8)
  snapsat := IntKind.i64.wrap (sgv zs 9)
  snapslen := IntKind.i64.wrap (sgv zs 10)
  maps := IntKind.i64.wrap (sgv zs 11)
  mapsat := IntKind.i64.wrap (sgv zs 12)
  mapslen := IntKind.i64.wrap (sgv zs 13)
  name := strOfNums (txtS zs 84 64)
structure Cnd (zs : List Int) : Prop where
  len : 512 ≤ zs.length
  nou : nouB (seg zs 152 360) = true
  mark : zs.take 4 = mk
  text : txtC zs 84 64 = 0
  may : May (rdH zs)
theorem wrap_nn (x : Int) (h0 : 0 ≤ x) (h1 : x < 18446744073709551616) (h : 0 ≤ IntKind.i64.wrap x) : IntKind.i64.wrap x = x := by
  rw [IntKind.wrap_i64] at h ⊢; omega
theorem I6.wrap (x : Int) : I6 (IntKind.i64.wrap x) := by unfold I6; rw [IntKind.wrap_i64]; omega
theorem rdH_wf (zs : List Int) (hb : Byt zs) (hl : 512 ≤ zs.length) : (rdH zs).Wf := by
  have := sgv_bound zs hb 1 (by omega) hl
  constructor <;> (try exact I6.wrap _)
  exact this
end Go.Proofs.Ytejdmnhdjeogaaa
