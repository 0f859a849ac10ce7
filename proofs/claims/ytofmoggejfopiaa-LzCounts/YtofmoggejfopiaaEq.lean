/- Bytes: as strings; bytes.Equal; what a part of a row reads as. -/
import Derived.Test.YtofmoggejfopiaaBase
namespace Go.Proofs.Ytofmoggejfopiaa
open Go.RowKit

/-- All are bytes. -/
def Byt (zs : List Int) : Prop := ∀ z ∈ zs, 0 ≤ z ∧ z ≤ 255
theorem Byt.take {zs : List Int} (h : Byt zs) (n : Nat) : Byt (zs.take n) := fun z hz => h z (List.mem_of_mem_take hz)
theorem Byt.drop {zs : List Int} (h : Byt zs) (n : Nat) : Byt (zs.drop n) := fun z hz => h z (List.mem_of_mem_drop hz)
theorem Byt.append {a b : List Int} (ha : Byt a) (hb : Byt b) : Byt (a ++ b) := fun z hz => (List.mem_append.1 hz).elim (ha z) (hb z)
theorem getD_lt {α : Type} (l : List α) (i : Nat) (d : α) (h : i < l.length) : l.getD i d = l[i] := by simp [List.getD, h]
theorem getD_ge {α : Type} (l : List α) (i : Nat) (d : α) (h : l.length ≤ i) : l.getD i d = d := by simp [List.getD, List.getElem?_eq_none h]
theorem Byt.get {zs : List Int} (h : Byt zs) (i : Nat) : 0 ≤ zs.getD i 0 ∧ zs.getD i 0 ≤ 255 := by
  by_cases hi : i < zs.length
  · rw [getD_lt _ _ _ hi]; exact h _ (List.getElem_mem hi)
  · rw [getD_ge _ _ _ (by omega)]; omega

theorem run_convert_rw {P : Program} (w : World) (src dst e : TypeId) (hs : P.underlying src = some (.slice e)) (he : P.underlying e = some (.int .u8)) (hd : P.underlying dst = some .string)
    (ao : Option Addr) (len cap : Nat) (xs : List Int) (hlen : xs.length = len) (hpos : 0 < len → ∃ b off, ao = some ⟨b, off, none⟩ ∧ ∀ i, i < len → w.cell? ⟨b, off + i, none⟩ = some (.int .u8 (xs.getD i 0))) :
    (convert src dst (.slice ao len cap)).run P w = .ok (.string (strOfNums xs)) w := by
  by_cases h0 : len = 0
  · subst h0
    obtain rfl : xs = [] := List.eq_nil_of_length_eq_zero hlen
    cases ao with
    | none => rw [run_convert_bytes_nil w src e hs he 0 cap dst hd]; rfl
    | some a =>
      rw [run_convert_bytes_string w src dst e _ 0 cap hs he hd, run_bytesToString w a 0 cap [] (by simp [loadCells, loadCellsFrom])]
      rfl
  · obtain ⟨b, off, rfl, hc⟩ := hpos (by omega)
    exact run_convert_bytes_arg w src e hs he b off len cap xs hlen hc dst hd
theorem cv {w : World} {ao : Option Addr} {len c : Nat} {xs : List Int} (hl : xs.length = len) (h : Src .u8 w ao xs) : (convert 22 9 (.slice ao len c)).run Try.prog w = .ok (.string (strOfNums xs)) w := by
  subst hl
  exact run_convert_rw w 22 9 5 Try.underlying22 Try.underlying5 Try.underlying9 ao _ c xs rfl h
theorem str_inj {xs ys : List Int} (hx : Byt xs) (hy : Byt ys) (h : (strOfNums xs).toList = (strOfNums ys).toList) : xs = ys := by
  have e : ∀ zs : List Int, (strOfNums zs).toList = zs.map (fun z => UInt8.ofNat z.toNat) := by
    intro zs
    simp [strOfNums]
  rw [e, e] at h
  clear e
  induction xs generalizing ys with
  | nil => cases ys with
    | nil => rfl
    | cons _ _ => simp at h
  | cons x xs ih => cases ys with
    | nil => simp at h
    | cons y ys =>
      simp only [List.map_cons, List.cons.injEq] at h
      have hx0 := hx x (by simp)
      have hy0 := hy y (by simp)
      have h1 := congrArg UInt8.toNat h.1
      simp only [UInt8.toNat_ofNat'] at h1
      have h2 : x = y := by omega
      rw [h2, ih (fun z hz => hx z (by simp [hz])) (fun z hz => hy z (by simp [hz])) h.2]
set_option maxRecDepth 100000 in
set_option maxHeartbeats 400000 in
theorem equal_any (ao bo : Option Addr) (n n' c d : Nat) (xs ys : List Int) (w : World) (hx : Src .u8 w ao xs) (hy : Src .u8 w bo ys) (hbx : Byt xs) (hby : Byt ys) (hn : xs.length = n) (hn' : ys.length = n') :
    Calls Try.prog 49 #[.slice ao n c, .slice bo n' d] w fun e w' => e = .returned (.bool (decide (xs = ys))) ∧ w' = w := by
  have c1 := cv (c := c) hn hx
  have c2 := cv (c := d) hn' hy
  have HE : Hid (((strOfNums xs).toList == (strOfNums ys).toList) = decide (xs = ys)) := by
    show _ = _
    by_cases h : xs = ys
    · subst h; simp
    · rw [decide_eq_false h]
      rw [beq_eq_false_iff_ne]
      exact fun e => h (str_inj hbx hby e)
  go_enter Try.func49, Try.ntmps49
  go_wp2
  go_ret
  exact ⟨ret_bool HE.out, rfl⟩
/-- The bytes, as a function. -/
def bf (zs : List Int) (i : Nat) : Int := zs.getD i 0
theorem part_eq {zs : List Int} {a c n : Nat} (ha : a + n ≤ zs.length) (hc : c + n ≤ zs.length) : (zs.drop a).take n = (zs.drop c).take n ↔ ∀ j, j < n → bf zs (a + j) = bf zs (c + j) := by
  constructor
  · intro h j hj
    have := congrArg (fun l => l.getD j 0) h
    simp [List.getD, hj] at this
    unfold bf
    simpa [List.getD] using this
  · intro h
    apply List.ext_getElem
    · simp; omega
    · intro j h1 h2
      have hj : j < n := by simp at h1; omega
      have := h j hj
      unfold bf at this
      rw [getD_lt _ _ _ (by omega), getD_lt _ _ _ (by omega)] at this
      simpa using this
theorem part_len {zs : List Int} {a n : Nat} (ha : a + n ≤ zs.length) : ((zs.drop a).take n).length = n := by simp; omega
theorem Src.part {κ : IntKind} {w : World} {b off : Nat} {zs : List Int} (h : Src κ w (some ⟨b, off, none⟩) zs) (a n : Nat) : Src κ w (some ⟨b, off + a, none⟩) ((zs.drop a).take n) := (h.drop a).take n
/-- The parts are the same just if there is a match. -/
theorem part_mt {zs : List Int} {p r n u : Nat} (hu : u = p - r) (hr : r ≤ p) (hp : p + n ≤ zs.length) : (zs.drop u).take n = (zs.drop p).take n ↔ Mt (bf zs) p r n := by
  rw [part_eq (by omega) hp]
  unfold Mt
  constructor
  · intro h j hj
    have := h j hj
    rwa [show u + j = p + j - r by omega] at this
  · intro h j hj
    have := h j hj
    rwa [show p + j - r = u + j by omega] at this
end Go.Proofs.Ytofmoggejfopiaa
