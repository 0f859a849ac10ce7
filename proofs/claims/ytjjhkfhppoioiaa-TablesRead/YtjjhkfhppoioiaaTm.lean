/- tables: plain mathematics: snapshots, bitmaps' rows, their bytes, lists of them. -/
import Derived.Test.YtjjhkfhppoioiaaLaws2
import Derived.Test.YtjjhkfhppoioiaaKb
namespace Go.Proofs.Ytjjhkfhppoioiaa
open Go.RowKit
set_option linter.unusedVariables false

def I6 (x : Int) : Prop := -9223372036854775808 ≤ x ∧ x ≤ 9223372036854775807
def clu (b : Int) : Int := 2 ^ b.toNat
def Bt (b : Int) : Prop := 9 ≤ b ∧ b ≤ 16
def Plc (c x : Int) : Prop := 0 < x ∧ x ≤ 268435456 ∧ x % c = 0
def Tells (e : Ending) (p : Prop) : Prop := (p ∧ e = .returned (.bool true)) ∨ (¬ p ∧ e = .returned (.bool false))
theorem clu_bd {b : Int} (h : Bt b) : 512 ≤ clu b ∧ clu b ≤ 65536 := by
  obtain ⟨h1, h2⟩ := h
  obtain ⟨n, rfl⟩ := Int.eq_ofNat_of_zero_le (show 0 ≤ b by omega)
  unfold clu
  rw [Int.toNat_natCast]
  have a1 : (2 : Int) ^ 9 ≤ 2 ^ n := by exact_mod_cast Nat.pow_le_pow_right (by omega) (show 9 ≤ n by omega)
  have a2 : (2 : Int) ^ n ≤ 2 ^ 16 := by exact_mod_cast Nat.pow_le_pow_right (by omega) (show n ≤ 16 by omega)
  exact ⟨a1, a2⟩

/-- A name that may be. -/
def Nm (s : ByteArray) : Prop := 1 ≤ s.size ∧ s.size ≤ 64 ∧ ∀ z ∈ byts s, z ≠ 0
/-- Something of so many parts lies at a place; what has none has no place. -/
def Lie (c most at_ ln : Int) : Prop := (ln = 0 ∧ at_ = 0) ∨ (0 < ln ∧ ln ≤ most ∧ Plc c at_)

structure Sn where
  nm : ByteArray
  a : Int
  b : Int
  c : Int
structure Rn where
  nm : ByteArray
  a : Int
  b : Int
  c : Int
  d : Int
def zSn : Sn := ⟨⟨#[]⟩, 0, 0, 0⟩
def zRn : Rn := ⟨⟨#[]⟩, 0, 0, 0, 0⟩
def Sn.cs (e : Sn) : Array Value := #[.string e.nm, .int .i64 e.a, .int .i64 e.b, .int .i64 e.c]
def Rn.cs (e : Rn) : Array Value := #[.string e.nm, .int .i64 e.a, .int .i64 e.b, .int .i64 e.c, .int .i64 e.d]
def Sn.cl (e : Sn) : List Value := [.string e.nm, .int .i64 e.a, .int .i64 e.b, .int .i64 e.c]
def Rn.cl (e : Rn) : List Value := [.string e.nm, .int .i64 e.a, .int .i64 e.b, .int .i64 e.c, .int .i64 e.d]
theorem Sn.ext' {x y : Sn} (h : x.nm = y.nm) (h1 : x.a = y.a) (h2 : x.b = y.b) (h3 : x.c = y.c) : x = y := by cases x; cases y; simp_all
theorem Rn.ext' {x y : Rn} (h : x.nm = y.nm) (h1 : x.a = y.a) (h2 : x.b = y.b) (h3 : x.c = y.c) (h4 : x.d = y.d) : x = y := by cases x; cases y; simp_all
/-- What numbers hold. -/
def Sn.i6 (e : Sn) : Prop := I6 e.a ∧ I6 e.b ∧ I6 e.c ∧ e.nm.size ≤ 9223372036854775807
def Rn.i6 (e : Rn) : Prop := I6 e.a ∧ I6 e.b ∧ I6 e.c ∧ I6 e.d ∧ e.nm.size ≤ 9223372036854775807

def Sn.May (b : Int) (e : Sn) : Prop := Nm e.nm ∧ Lie (clu b) 1048576 e.a e.b ∧ 0 ≤ e.c ∧ e.c ≤ 67108864 ∧ e.c % 512 = 0
def Rn.May (b : Int) (e : Rn) : Prop := Nm e.nm ∧ Lie (clu b) 16777216 e.c e.d ∧ 9 ≤ e.a ∧ e.a ≤ 31 ∧ 0 ≤ e.b ∧ e.b ≤ 3

def nmb (s : ByteArray) : List Int := (s.size : Int) :: byts s
def Sn.enc (e : Sn) : List Int := nmb e.nm ++ (num e.a 8 ++ (num e.b 4 ++ num e.c 8))
def Rn.enc (e : Rn) : List Int := nmb e.nm ++ (num e.a 1 ++ (num e.b 1 ++ (num e.c 8 ++ num e.d 4)))
theorem nmb_len (s : ByteArray) : (nmb s).length = 1 + s.size := by simp [nmb, byts_length]; omega
theorem Sn.enc_len (e : Sn) : e.enc.length = 21 + e.nm.size := by simp [Sn.enc, nmb_len, num_length]; omega
theorem Rn.enc_len (e : Rn) : e.enc.length = 15 + e.nm.size := by simp [Rn.enc, nmb_len, num_length]; omega

/-! Lists of such things. -/
section
variable {E : Type}
def Lst (may : E → Prop) (nm : E → ByteArray) (l : List E) : Prop := (∀ e ∈ l, may e) ∧ (l.map nm).Nodup
def encs (enc : E → List Int) (l : List E) : List Int := l.flatMap enc
theorem encs_nil (enc : E → List Int) : encs enc [] = [] := rfl
theorem encs_cons (enc : E → List Int) (e : E) (l : List E) : encs enc (e :: l) = enc e ++ encs enc l := by simp [encs]
theorem encs_append (enc : E → List Int) (l m : List E) : encs enc (l ++ m) = encs enc l ++ encs enc m := by simp [encs]
theorem encs_one (enc : E → List Int) (e : E) : encs enc [e] = enc e := by simp [encs]
/-- Bytes are parted in one way. -/
def Prs (may : E → Prop) (enc : E → List Int) : Prop := ∀ a b r s, may a → may b → enc a ++ r = enc b ++ s → a = b ∧ r = s
theorem encs_inj {may : E → Prop} {enc : E → List Int} (hp : Prs may enc) : ∀ (l m : List E) (r s : List Int), (∀ e ∈ l, may e) → (∀ e ∈ m, may e) → l.length = m.length → encs enc l ++ r = encs enc m ++ s → l = m ∧ r = s
  | [], [], r, s, _, _, _, h => ⟨rfl, by simpa [encs] using h⟩
  | [], _ :: _, _, _, _, _, h, _ => by simp at h
  | _ :: _, [], _, _, _, _, h, _ => by simp at h
  | a :: l, b :: m, r, s, h1, h2, h3, h => by
    rw [encs_cons, encs_cons, List.append_assoc, List.append_assoc] at h
    obtain ⟨rfl, h4⟩ := hp a b _ _ (h1 a (by simp)) (h2 b (by simp)) h
    obtain ⟨rfl, h5⟩ := encs_inj hp l m r s (fun e he => h1 e (by simp [he])) (fun e he => h2 e (by simp [he])) (by simpa using h3) h4
    exact ⟨rfl, h5⟩
/-- What a list is told as: its bytes and an error's number. -/
def Out (may : E → Prop) (nm : E → ByteArray) (enc : E → List Int) (b : Int) (l : List E) (bs : List Int) (er : Int) : Prop :=
  (¬ (Bt b ∧ Lst may nm l) ∧ bs = [] ∧ er = 2) ∨ (Bt b ∧ Lst may nm l ∧ 64 < l.length ∧ bs = [] ∧ er = 3) ∨ (Bt b ∧ Lst may nm l ∧ l.length ≤ 64 ∧ bs = encs enc l ∧ er = 0)
theorem Out.same {may : E → Prop} {nm : E → ByteArray} {enc : E → List Int} {b : Int} {l : List E} {bs bs' : List Int} {er er' : Int} (h : Out may nm enc b l bs er) (k : Out may nm enc b l bs' er') : bs = bs' ∧ er = er' := by
  rcases h with ⟨h1, rfl, rfl⟩ | ⟨h1, h2, h3, rfl, rfl⟩ | ⟨h1, h2, h3, rfl, rfl⟩ <;> rcases k with ⟨k1, rfl, rfl⟩ | ⟨k1, k2, k3, rfl, rfl⟩ | ⟨k1, k2, k3, rfl, rfl⟩ <;> first | exact ⟨rfl, rfl⟩ | exact absurd ⟨h1, h2⟩ k1 | exact absurd ⟨k1, k2⟩ h1 | omega
/-- Bytes are those of a list of n. -/
def IsL (may : E → Prop) (nm : E → ByteArray) (enc : E → List Int) (bs : List Int) (n : Int) (l : List E) : Prop := Lst may nm l ∧ (l.length : Int) = n ∧ l.length ≤ 64 ∧ bs = encs enc l
theorem IsL.same {may : E → Prop} {nm : E → ByteArray} {enc : E → List Int} (hp : Prs may enc) {bs : List Int} {n : Int} {l m : List E} (h : IsL may nm enc bs n l) (k : IsL may nm enc bs n m) : l = m :=
  (encs_inj hp l m [] [] h.1.1 k.1.1 (by have := h.2.1; have := k.2.1; omega) (by rw [List.append_nil, List.append_nil, ← h.2.2.2, ← k.2.2.2])).1
/-- What bytes are read as. -/
def Red (may : E → Prop) (nm : E → ByteArray) (enc : E → List Int) (b : Int) (bs : List Int) (n : Int) (l : List E) (er : Int) : Prop :=
  (¬ (Bt b ∧ 0 ≤ n) ∧ l = [] ∧ er = 2) ∨ (Bt b ∧ 0 ≤ n ∧ IsL may nm enc bs n l ∧ er = 0) ∨ (Bt b ∧ 0 ≤ n ∧ (∀ m, ¬ IsL may nm enc bs n m) ∧ l = [] ∧ er = 210)
/-- What was put is read. -/
theorem Red.back {may : E → Prop} {nm : E → ByteArray} {enc : E → List Int} (hp : Prs may enc) {b : Int} {l m : List E} {bs : List Int} {er : Int} (h : Out may nm enc b l bs 0) (k : Red may nm enc b bs l.length m er) : m = l ∧ er = 0 := by
  rcases h with ⟨_, _, h⟩ | ⟨_, _, _, _, h⟩ | ⟨h1, h2, h3, rfl, _⟩
  · cases h
  · cases h
  · have hi : IsL may nm enc (encs enc l) l.length l := ⟨h2, rfl, h3, rfl⟩
    rcases k with ⟨k1, _, _⟩ | ⟨_, _, k, rfl⟩ | ⟨_, _, k, _, _⟩
    · exact absurd ⟨h1, by omega⟩ k1
    · exact ⟨k.same hp hi, rfl⟩
    · exact absurd hi (k l)
/-- No beginning but all of it is a list of as many. -/
theorem Red.part {may : E → Prop} {nm : E → ByteArray} {enc : E → List Int} (hp : Prs may enc) {b : Int} {l m : List E} {bs : List Int} {er : Int} (h : Out may nm enc b l bs 0) {k : Nat} (hk : k < bs.length) (r : Red may nm enc b (bs.take k) l.length m er) : m = [] ∧ er = 210 := by
  rcases h with ⟨_, _, h⟩ | ⟨_, _, _, _, h⟩ | ⟨h1, h2, h3, rfl, _⟩
  · cases h
  · cases h
  · rcases r with ⟨k1, _, _⟩ | ⟨_, _, k, rfl⟩ | ⟨_, _, k, h, h'⟩
    · exact absurd ⟨h1, by omega⟩ k1
    · obtain ⟨k1, k2, k3, k4⟩ := k
      have := (encs_inj hp m l ((encs enc l).drop k) [] k1.1 h2.1 (by omega) (by rw [← k4, List.take_append_drop, List.append_nil])).2
      have : ((encs enc l).drop k).length = 0 := by rw [this]; rfl
      rw [List.length_drop] at this
      omega
    · exact ⟨h, h'⟩
theorem encs_ne {may : E → Prop} {enc : E → List Int} (hp : Prs may enc) (he : ∀ e, enc e ≠ []) : ∀ (l m : List E), (∀ e ∈ l, may e) → (∀ e ∈ m, may e) → encs enc l = encs enc m → l.length = m.length
  | [], [], _, _, _ => rfl
  | [], b :: m, _, _, h => by
    rw [encs_cons, encs_nil] at h
    exact absurd (List.append_eq_nil_iff.1 h.symm).1 (he b)
  | a :: l, [], _, _, h => by
    rw [encs_cons, encs_nil] at h
    exact absurd (List.append_eq_nil_iff.1 h).1 (he a)
  | a :: l, b :: m, h1, h2, h => by
    rw [encs_cons, encs_cons] at h
    obtain ⟨_, h4⟩ := hp a b _ _ (h1 a (by simp)) (h2 b (by simp)) h
    have := encs_ne hp he l m (fun e he => h1 e (by simp [he])) (fun e he => h2 e (by simp [he])) h4
    simp [this]
/-- Of other numbers they are none. -/
theorem Red.other {may : E → Prop} {nm : E → ByteArray} {enc : E → List Int} (hp : Prs may enc) (he : ∀ e, enc e ≠ []) {b : Int} {l m : List E} {bs : List Int} {er : Int} (h : Out may nm enc b l bs 0) {k : Int} (hk : 0 ≤ k) (hne : k ≠ l.length) (r : Red may nm enc b bs k m er) : m = [] ∧ er = 210 := by
  rcases h with ⟨_, _, h⟩ | ⟨_, _, _, _, h⟩ | ⟨h1, h2, h3, rfl, _⟩
  · cases h
  · cases h
  · rcases r with ⟨k1, _, _⟩ | ⟨_, _, k, rfl⟩ | ⟨_, _, k, h, h'⟩
    · exact absurd ⟨h1, hk⟩ k1
    · obtain ⟨k1, k2, k3, k4⟩ := k
      have := encs_ne hp he l m h2.1 k1.1 k4
      omega
    · exact ⟨h, h'⟩
end

/-! Names' and numbers' bytes are parted in one way. -/
theorem nmb_inj {s t : ByteArray} {r u : List Int} (h : nmb s ++ r = nmb t ++ u) : s = t ∧ r = u := by
  simp only [nmb, List.cons_append, List.cons.injEq] at h
  obtain ⟨h1, h2⟩ := h
  obtain ⟨h3, h4⟩ := List.append_inj h2 (by rw [byts_length, byts_length]; omega)
  exact ⟨by rw [← str_byts s, h3, str_byts], h4⟩
theorem num_inj {x y : Int} {n : Nat} {r u : List Int} (hx0 : 0 ≤ x) (hx : x < 256 ^ n) (hy0 : 0 ≤ y) (hy : y < 256 ^ n) (h : num x n ++ r = num y n ++ u) : x = y ∧ r = u := by
  obtain ⟨h1, h2⟩ := List.append_inj h (by rw [num_length, num_length])
  exact ⟨by rw [← val_num_of_lt x n hx0 hx, h1, val_num_of_lt y n hy0 hy], h2⟩
theorem Lie.bd {c m x n : Int} (h : Lie c m x n) (hm : m ≤ 16777216) : 0 ≤ x ∧ x ≤ 268435456 ∧ 0 ≤ n ∧ n ≤ 16777216 := by
  rcases h with ⟨rfl, rfl⟩ | ⟨h1, h2, h3, h4, _⟩ <;> omega
theorem p8 : (256 : Int) ^ 8 = 18446744073709551616 := by decide
theorem p4 : (256 : Int) ^ 4 = 4294967296 := by decide
theorem p1 : (256 : Int) ^ 1 = 256 := by decide
theorem Sn.bd {b : Int} {e : Sn} (h : e.May b) : (0 ≤ e.a ∧ e.a < 256 ^ 8) ∧ (0 ≤ e.b ∧ e.b < 256 ^ 4) ∧ (0 ≤ e.c ∧ e.c < 256 ^ 8) := by
  obtain ⟨_, h2, h3, h4, _⟩ := h
  have := h2.bd (by omega)
  rw [p8, p4]
  omega
theorem Rn.bd {b : Int} {e : Rn} (h : e.May b) : (0 ≤ e.a ∧ e.a < 256 ^ 1) ∧ (0 ≤ e.b ∧ e.b < 256 ^ 1) ∧ (0 ≤ e.c ∧ e.c < 256 ^ 8) ∧ (0 ≤ e.d ∧ e.d < 256 ^ 4) := by
  obtain ⟨_, h2, h3, h4, h5, h6⟩ := h
  have := h2.bd (by omega)
  rw [p8, p4, p1]
  omega
theorem Sn.prs (b : Int) : Prs (Sn.May b) Sn.enc := by
  intro x y r s hx hy h
  obtain ⟨⟨x1, x2⟩, ⟨x3, x4⟩, x5, x6⟩ := Sn.bd hx
  obtain ⟨⟨y1, y2⟩, ⟨y3, y4⟩, y5, y6⟩ := Sn.bd hy
  simp only [Sn.enc, List.append_assoc] at h
  obtain ⟨e0, h⟩ := nmb_inj h
  obtain ⟨e1, h⟩ := num_inj x1 x2 y1 y2 h
  obtain ⟨e2, h⟩ := num_inj x3 x4 y3 y4 h
  obtain ⟨e3, h⟩ := num_inj x5 x6 y5 y6 h
  exact ⟨Sn.ext' e0 e1 e2 e3, h⟩
theorem Rn.prs (b : Int) : Prs (Rn.May b) Rn.enc := by
  intro x y r s hx hy h
  obtain ⟨⟨x1, x2⟩, ⟨x3, x4⟩, ⟨x5, x6⟩, x7, x8⟩ := Rn.bd hx
  obtain ⟨⟨y1, y2⟩, ⟨y3, y4⟩, ⟨y5, y6⟩, y7, y8⟩ := Rn.bd hy
  simp only [Rn.enc, List.append_assoc] at h
  obtain ⟨e0, h⟩ := nmb_inj h
  obtain ⟨e1, h⟩ := num_inj x1 x2 y1 y2 h
  obtain ⟨e2, h⟩ := num_inj x3 x4 y3 y4 h
  obtain ⟨e3, h⟩ := num_inj x5 x6 y5 y6 h
  obtain ⟨e4, h⟩ := num_inj x7 x8 y7 y8 h
  exact ⟨Rn.ext' e0 e1 e2 e3 e4, h⟩
theorem Sn.enc_ne (e : Sn) : e.enc ≠ [] := fun h => by have := e.enc_len; rw [h] at this; simp at this; omega
theorem Rn.enc_ne (e : Rn) : e.enc ≠ [] := fun h => by have := e.enc_len; rw [h] at this; simp at this; omega
theorem Sn.zno (b : Int) : ¬ zSn.May b := fun h => by have := h.1.1; simp [zSn, ByteArray.size] at this
theorem Rn.zno (b : Int) : ¬ zRn.May b := fun h => by have := h.1.1; simp [zRn, ByteArray.size] at this
theorem nmb_byt {s : ByteArray} (h : s.size ≤ 64) : Byt (nmb s) := by
  intro z hz
  simp only [nmb, List.mem_cons] at hz
  rcases hz with rfl | hz
  · omega
  · exact byts_byt s z hz
theorem Sn.enc_byt {e : Sn} (h : e.nm.size ≤ 64) : Byt e.enc := (nmb_byt h).append ((num_byt _ _).append ((num_byt _ _).append (num_byt _ _)))
theorem Rn.enc_byt {e : Rn} (h : e.nm.size ≤ 64) : Byt e.enc := (nmb_byt h).append ((num_byt _ _).append ((num_byt _ _).append ((num_byt _ _).append (num_byt _ _))))

/-! Reading, as the program does it. -/
def rb (k : Nat) (st : Bool × List Int) : List Int × (Bool × List Int) := if st.1 = true ∨ st.2.length < k then ([], (true, st.2)) else (st.2.take k, (false, st.2.drop k))
def i6of (x : Int) : Int := IntKind.i64.wrap x
def rnm (k : Nat) (st : Bool × List Int) : Int × (Bool × List Int) := (i6of (val (rb k st).1), (rb k st).2)
def rtx (st : Bool × List Int) : ByteArray × (Bool × List Int) := (strOfNums (rb (rnm 1 st).1.toNat (rnm 1 st).2).1, (rb (rnm 1 st).1.toNat (rnm 1 st).2).2)
def Sn.rd (st : Bool × List Int) : Sn × (Bool × List Int) :=
  (⟨(rtx st).1, (rnm 8 (rtx st).2).1, (rnm 4 (rnm 8 (rtx st).2).2).1, (rnm 8 (rnm 4 (rnm 8 (rtx st).2).2).2).1⟩, (rnm 8 (rnm 4 (rnm 8 (rtx st).2).2).2).2)
def Rn.rd (st : Bool × List Int) : Rn × (Bool × List Int) :=
  (⟨(rtx st).1, (rnm 1 (rtx st).2).1, (rnm 1 (rnm 1 (rtx st).2).2).1, (rnm 8 (rnm 1 (rnm 1 (rtx st).2).2).2).1, (rnm 4 (rnm 8 (rnm 1 (rnm 1 (rtx st).2).2).2).2).1⟩, (rnm 4 (rnm 8 (rnm 1 (rnm 1 (rtx st).2).2).2).2).2)
theorem rb_ok {k : Nat} {xs : List Int} (h : k ≤ xs.length) : rb k (false, xs) = (xs.take k, (false, xs.drop k)) := by
  unfold rb; rw [if_neg (by simp; omega)]
theorem rb_app {k : Nat} {xs ys : List Int} (h : xs.length = k) : rb k (false, xs ++ ys) = (xs, (false, ys)) := by
  rw [rb_ok (by simp; omega), ← h, List.take_left, List.drop_left]
theorem rb_t {k : Nat} {xs : List Int} : rb k (true, xs) = ([], (true, xs)) := by unfold rb; rw [if_pos (Or.inl rfl)]
theorem rb_no {k : Nat} {st : Bool × List Int} (h : (rb k st).2.1 = false) : st.1 = false ∧ k ≤ st.2.length := by
  unfold rb at h
  split at h
  · cases h
  · rename_i hn
    constructor
    · cases hs : st.1 with
      | false => rfl
      | true => exact absurd (Or.inl hs) hn
    · by_cases hk : st.2.length < k
      · exact absurd (Or.inr hk) hn
      · omega
theorem i6of_id {x : Int} (h : I6 x) : i6of x = x := by
  unfold I6 at h
  unfold i6of
  rw [IntKind.wrap_i64]
  omega
theorem rnm_app {k : Nat} {x : Int} {ys : List Int} (h0 : 0 ≤ x) (h1 : x < 256 ^ k) (h2 : x ≤ 9223372036854775807) : rnm k (false, num x k ++ ys) = (x, (false, ys)) := by
  unfold rnm
  rw [rb_app (num_length x k), val_num_of_lt x k h0 h1, i6of_id ⟨by omega, h2⟩]
theorem rtx_app {s : ByteArray} {ys : List Int} (h : s.size ≤ 255) : rtx (false, nmb s ++ ys) = (s, (false, ys)) := by
  have h1 : nmb s ++ ys = num (s.size : Int) 1 ++ (byts s ++ ys) := by
    have : num (s.size : Int) 1 = [((s.size : Int) % 256)] := by simp [num]
    rw [this, Int.emod_eq_of_lt (by omega) (by omega)]
    simp [nmb]
  unfold rtx
  rw [h1, rnm_app (by omega) (by rw [p1]; omega) (by omega)]
  dsimp only
  rw [Int.toNat_natCast, rb_app (byts_length s), str_byts]
/-- What has a list's bytes is read so. -/
theorem Sn.rd_enc {b : Int} {e : Sn} (h : e.May b) (ys : List Int) : Sn.rd (false, e.enc ++ ys) = (e, (false, ys)) := by
  obtain ⟨⟨x1, x2⟩, ⟨x3, x4⟩, x5, x6⟩ := Sn.bd h
  have hn := h.1.2.1
  obtain ⟨_, h2, h3, h4, _⟩ := h
  have := h2.bd (by omega)
  unfold Sn.rd
  simp only [Sn.enc, List.append_assoc]
  rw [rtx_app (by omega)]
  dsimp only
  rw [rnm_app x1 x2 (by omega)]
  dsimp only
  rw [rnm_app x3 x4 (by omega)]
  dsimp only
  rw [rnm_app x5 x6 (by omega)]
theorem Rn.rd_enc {b : Int} {e : Rn} (h : e.May b) (ys : List Int) : Rn.rd (false, e.enc ++ ys) = (e, (false, ys)) := by
  obtain ⟨⟨x1, x2⟩, ⟨x3, x4⟩, ⟨x5, x6⟩, x7, x8⟩ := Rn.bd h
  have hn := h.1.2.1
  obtain ⟨_, h2, h3, h4, _⟩ := h
  have := h2.bd (by omega)
  unfold Rn.rd
  simp only [Rn.enc, List.append_assoc]
  rw [rtx_app (by omega)]
  dsimp only
  rw [rnm_app x1 x2 (by omega)]
  dsimp only
  rw [rnm_app x3 x4 (by omega)]
  dsimp only
  rw [rnm_app x5 x6 (by omega)]
  dsimp only
  rw [rnm_app x7 x8 (by omega)]
theorem num_val (l : List Int) (h : Byt l) : num (val l) l.length = l := by
  induction l with
  | nil => rfl
  | cons z l ih =>
    have hz := h z (by simp)
    have hl : Byt l := fun y hy => h y (by simp [hy])
    have := val_bound l hl
    simp only [val, List.length_cons, num]
    rw [show (z + 256 * val l) % 256 = z by omega, show (z + 256 * val l) / 256 = val l by omega, ih hl]
theorem rnm_inv {k : Nat} {st : Bool × List Int} {x : Int} {ys : List Int} (hb : Byt st.2) (hk : k ≤ 8) (h : rnm k st = (x, (false, ys))) : st.1 = false ∧ Byt ys ∧ (0 ≤ x → st.2 = num x k ++ ys) := by
  unfold rnm at h
  have h1 : (rb k st).2 = (false, ys) := by injection h
  obtain ⟨hs, hl⟩ := rb_no (st := st) (k := k) (by rw [h1])
  obtain ⟨s1, xs⟩ := st
  dsimp only at hs hl hb
  subst hs
  rw [rb_ok hl] at h h1
  dsimp only at h h1
  obtain ⟨_, h2⟩ : False = False ∧ xs.drop k = ys := ⟨rfl, by injection h1⟩
  have h3 : i6of (val (xs.take k)) = x := by injection h
  refine ⟨rfl, h2 ▸ hb.drop k, fun h0 => ?_⟩
  have hbt := hb.take k
  have hv := val_bound _ hbt
  have hlen : (xs.take k).length = k := by simp; omega
  have hpw := pow256_le hk
  rw [hlen] at hv
  rw [pow256_8] at hpw
  have hx : val (xs.take k) = x := by
    unfold i6of at h3
    rw [IntKind.wrap_i64] at h3
    omega
  have hn := num_val _ hbt
  rw [hlen, hx] at hn
  show xs = _
  rw [hn, ← h2, List.take_append_drop]
theorem rnm_st {k : Nat} {st : Bool × List Int} {x : Int} {s' : Bool} {ys : List Int} (h : rnm k st = (x, (s', ys))) : s' = false → st.1 = false := by
  rintro rfl
  unfold rnm at h
  have h1 : (rb k st).2 = (false, ys) := by injection h
  exact (rb_no (st := st) (k := k) (by rw [h1])).1
theorem nums_byts (l : List Int) (h : Byt l) : byts (strOfNums l) = l := by
  unfold byts strOfNums
  simp only [List.map_map]
  conv => rhs; rw [← List.map_id l]
  apply List.map_congr_left
  intro z hz
  have := h z hz
  simp
  omega
theorem nums_size (l : List Int) : (strOfNums l).size = l.length := by
  simp [strOfNums, ByteArray.size]
theorem rtx_inv {st : Bool × List Int} {s : ByteArray} {ys : List Int} (hb : Byt st.2) (h : rtx st = (s, (false, ys))) : st.1 = false ∧ Byt ys ∧ st.2 = nmb s ++ ys := by
  unfold rtx at h
  have h1 : (rb (rnm 1 st).1.toNat (rnm 1 st).2).2 = (false, ys) := by injection h
  obtain ⟨hs, hl⟩ := rb_no (st := (rnm 1 st).2) (k := (rnm 1 st).1.toNat) (by rw [h1])
  rcases hq : rnm 1 st with ⟨x, s1, xs⟩
  rw [hq] at h h1 hs hl
  dsimp only at h h1 hs hl
  subst hs
  obtain ⟨g1, g2, g3⟩ := rnm_inv hb (by omega) hq
  rw [rb_ok hl] at h h1
  dsimp only at h h1
  have h2 : xs.drop x.toNat = ys := by injection h1
  have h3 : strOfNums (xs.take x.toNat) = s := by injection h
  have hx0 : 0 ≤ x ∧ x ≤ 255 := by
    unfold rnm at hq
    have hv : i6of (val (rb 1 st).1) = x := by injection hq
    have hbt : Byt (rb 1 st).1 := by
      unfold rb
      split
      · intro z hz
        simp at hz
      · exact hb.take 1
    have hln : (rb 1 st).1.length ≤ 1 := by
      unfold rb
      split
      · simp
      · simp
        omega
    have hvb := val_bound _ hbt
    have hpw := pow256_le hln
    rw [p1] at hpw
    rw [i6of_id ⟨by omega, by omega⟩] at hv
    omega
  refine ⟨g1, h2 ▸ g2.drop _, ?_⟩
  rw [g3 hx0.1, ← h3]
  unfold nmb
  rw [nums_byts _ (g2.take _), nums_size, ← h2]
  have : num x 1 = [x % 256] := by simp [num]
  rw [this, Int.emod_eq_of_lt hx0.1 (by omega)]
  have hl2 : (xs.take x.toNat).length = x.toNat := by simp; omega
  rw [hl2, Int.toNat_of_nonneg hx0.1]
  simp
theorem Sn.rd_inv {b : Int} {xs ys : List Int} {e : Sn} (hb : Byt xs) (h : Sn.rd (false, xs) = (e, (false, ys))) (hm : e.May b) : xs = e.enc ++ ys ∧ Byt ys := by
  obtain ⟨⟨x1, x2⟩, ⟨x3, x4⟩, x5, x6⟩ := Sn.bd hm
  unfold Sn.rd at h
  rcases q1 : rtx (false, xs) with ⟨s, t1⟩
  rw [q1] at h
  dsimp only at h
  rcases q2 : rnm 8 t1 with ⟨a1, t2⟩
  rw [q2] at h
  dsimp only at h
  rcases q3 : rnm 4 t2 with ⟨a2, t3⟩
  rw [q3] at h
  dsimp only at h
  rcases q4 : rnm 8 t3 with ⟨a3, t4⟩
  rw [q4] at h
  dsimp only at h
  injection h with h h4
  subst h4
  subst h
  obtain ⟨u3, v3⟩ := t3
  obtain ⟨u2, v2⟩ := t2
  obtain ⟨u1, v1⟩ := t1
  have m4 := rnm_st q4
  have m3 := rnm_st q3
  have m2 := rnm_st q2
  obtain rfl : u3 = false := m4 rfl
  obtain rfl : u2 = false := m3 rfl
  obtain rfl : u1 = false := m2 rfl
  obtain ⟨_, b1, e1⟩ := rtx_inv hb q1
  obtain ⟨_, b2, e2⟩ := rnm_inv b1 (by omega) q2
  obtain ⟨_, b3, e3⟩ := rnm_inv b2 (by omega) q3
  obtain ⟨_, b4, e4⟩ := rnm_inv b3 (by omega) q4
  refine ⟨?_, b4⟩
  have e1 : xs = nmb s ++ v1 := e1
  have e2 : v1 = num a1 8 ++ v2 := e2 x1
  have e3 : v2 = num a2 4 ++ v3 := e3 x3
  have e4 : v3 = num a3 8 ++ ys := e4 x5
  rw [e1, e2, e3, e4]
  simp [Sn.enc]
theorem Rn.rd_inv {b : Int} {xs ys : List Int} {e : Rn} (hb : Byt xs) (h : Rn.rd (false, xs) = (e, (false, ys))) (hm : e.May b) : xs = e.enc ++ ys ∧ Byt ys := by
  obtain ⟨⟨x1, x2⟩, ⟨x3, x4⟩, ⟨x5, x6⟩, x7, x8⟩ := Rn.bd hm
  unfold Rn.rd at h
  rcases q1 : rtx (false, xs) with ⟨s, t1⟩
  rw [q1] at h
  dsimp only at h
  rcases q2 : rnm 1 t1 with ⟨a1, t2⟩
  rw [q2] at h
  dsimp only at h
  rcases q3 : rnm 1 t2 with ⟨a2, t3⟩
  rw [q3] at h
  dsimp only at h
  rcases q4 : rnm 8 t3 with ⟨a3, t4⟩
  rw [q4] at h
  dsimp only at h
  rcases q5 : rnm 4 t4 with ⟨a4, t5⟩
  rw [q5] at h
  dsimp only at h
  injection h with h h4
  subst h4
  subst h
  obtain ⟨u4, v4⟩ := t4
  obtain ⟨u3, v3⟩ := t3
  obtain ⟨u2, v2⟩ := t2
  obtain ⟨u1, v1⟩ := t1
  have m5 := rnm_st q5
  have m4 := rnm_st q4
  have m3 := rnm_st q3
  have m2 := rnm_st q2
  obtain rfl : u4 = false := m5 rfl
  obtain rfl : u3 = false := m4 rfl
  obtain rfl : u2 = false := m3 rfl
  obtain rfl : u1 = false := m2 rfl
  obtain ⟨_, b1, e1⟩ := rtx_inv hb q1
  obtain ⟨_, b2, e2⟩ := rnm_inv b1 (by omega) q2
  obtain ⟨_, b3, e3⟩ := rnm_inv b2 (by omega) q3
  obtain ⟨_, b4, e4⟩ := rnm_inv b3 (by omega) q4
  obtain ⟨_, b5, e5⟩ := rnm_inv b4 (by omega) q5
  refine ⟨?_, b5⟩
  have e1 : xs = nmb s ++ v1 := e1
  have e2 : v1 = num a1 1 ++ v2 := e2 x1
  have e3 : v2 = num a2 1 ++ v3 := e3 x3
  have e4 : v3 = num a3 8 ++ v4 := e4 x5
  have e5 : v4 = num a4 4 ++ ys := e5 x7
  rw [e1, e2, e3, e4, e5]
  simp [Rn.enc]
end Go.Proofs.Ytjjhkfhppoioiaa
