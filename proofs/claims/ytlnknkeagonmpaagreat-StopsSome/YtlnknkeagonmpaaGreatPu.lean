/- A row of writes: what it reads as; vast. -/
import Derived.Test.YtlnknkeagonmpaaGreatBo
namespace Go.Proofs.YtlnknkeagonmpaaGreat
open Go.RowKit

/-- A write, or a flush behind it. -/
structure Pu where
  name : ByteArray
  at0 : Int
  bv : Value
  fl : Bool
def Pu.cells (t : Pu) : List Value := [.string t.name, .int .i64 t.at0, t.bv, .bool t.fl]
def zpu : Pu := ⟨⟨#[]⟩, 0, .slice none 0 0, false⟩
def PuS (w : World) (ao : Option Addr) (ts : List Pu) : Prop := 0 < ts.length → ∃ b off, ao = some ⟨b, off, none⟩ ∧ b < w.heap.size ∧ ∀ i, i < ts.length → ∀ j, j < 4 → w.cell? ⟨b, off + i * 4 + j, none⟩ = (ts.getD i zpu).cells[j]?
theorem kp_cellq {F : Nat → Prop} {w w' : World} (k : Kp F w w') {b o : Nat} (hb : b < w.heap.size) (hf : ¬ F b) : w'.cell? ⟨b, o, none⟩ = w.cell? ⟨b, o, none⟩ := by
  have := k.block b hb hf
  unfold World.cell?
  simp only [this]
theorem PuS.nil (w : World) (ao : Option Addr) : PuS w ao [] := fun h => absurd h (by simp)
theorem PuS.kp {F : Nat → Prop} {w w' : World} {ao : Option Addr} {ts : List Pu} (h : PuS w ao ts) (k : Kp F w w') (hf : ∀ b, b < w.heap.size → ¬ F b) : PuS w' ao ts := by
  intro hp
  obtain ⟨b, off, rfl, hb, hc⟩ := h hp
  exact ⟨b, off, rfl, Nat.lt_of_lt_of_le hb k.size, fun i hi j hj => by rw [← hc i hi j hj]; exact kp_cellq k hb (hf b hb)⟩
/-- What each write is: bytes that lie below B, a name, a place. -/
structure Pwf (B : Nat) (w : World) (t : Pu) : Prop where
  bs : ∃ ao cap xs, t.bv = .slice ao (xs : List Int).length cap ∧ xs.length ≤ cap ∧ Src .u8 w ao xs ∧ cap ≤ maxLen ∧ (∀ b off, ao = some ⟨b, off, none⟩ → 0 < xs.length → b < B)
  nm : t.name.size ≤ maxLen
  at1 : -9223372036854775808 ≤ t.at0
  at2 : t.at0 ≤ 9223372036854775807
theorem Pwf.kp {B : Nat} {w w' : World} {t : Pu} (h : Pwf B w t) {F : Nat → Prop} (k : Kp F w w') (hf : ∀ b, b < B → ¬ F b) : Pwf B w' t := by
  obtain ⟨⟨ao, cap, xs, e, h1, h2, h3, h4⟩, h5, h6, h7⟩ := h
  refine ⟨⟨ao, cap, xs, e, h1, fun hp => ?_, h3, h4⟩, h5, h6, h7⟩
  obtain ⟨b, off, e2, hc⟩ := h2 hp
  exact ⟨b, off, e2, fun i hi => kp_cell k (hc i hi) (hf b (h4 b off e2 hp))⟩
def pulen (t : Pu) : Nat := match t.bv with
  | .slice _ n _ => n
  | _ => 0
theorem getD_memP (ts : List Pu) (k : Nat) (h : k < ts.length) : ts.getD k zpu ∈ ts := by
  rw [List.getD_eq_getElem?_getD, List.getElem?_eq_getElem h]
  exact List.getElem_mem h
theorem PuS.at {w : World} {ao : Option Addr} {ts : List Pu} (h : PuS w ao ts) {k : Nat} (hk : k < ts.length) : ∃ b off, ao = some ⟨b, off, none⟩ ∧ b < w.heap.size ∧ w.cell? ⟨b, off + k * 4, none⟩ = some (.string (ts.getD k zpu).name) ∧ w.cell? ⟨b, off + k * 4 + 1, none⟩ = some (.int .i64 (ts.getD k zpu).at0) ∧ w.cell? ⟨b, off + k * 4 + 2, none⟩ = some (ts.getD k zpu).bv ∧ w.cell? ⟨b, off + k * 4 + 3, none⟩ = some (.bool (ts.getD k zpu).fl) := by
  obtain ⟨b, off, e, hb, hc⟩ := h (by omega)
  exact ⟨b, off, e, hb, hc k hk 0 (by omega), hc k hk 1 (by omega), hc k hk 2 (by omega), hc k hk 3 (by omega)⟩
theorem take_getP (ts : List Pu) (k : Nat) (h : k < ts.length) : ts.take (k + 1) = ts.take k ++ [ts.getD k zpu] := by
  rw [List.take_add_one, List.getElem?_eq_getElem h, List.getD_eq_getElem?_getD, List.getElem?_eq_getElem h]
  rfl
/-- No more than is done here. -/
def few (ts : List Pu) : Prop := ts.length ≤ 60 ∧ ∀ t ∈ ts, t.at0 ≤ 20000 ∧ pulen t ≤ 40000
/-- What vast tells. -/
def VaP (ts : List Pu) (w : World) (e : Ending) (w' : World) : Prop := ∃ b, e = .returned (.bool b) ∧ (b = false → few ts) ∧ w' = w
set_option maxRecDepth 100000 in
set_option maxHeartbeats 4000000 in
theorem vast_any (B : Nat) (ts : List Pu) (ao : Option Addr) (cap : Nat) (w : World) (hS : PuS w ao ts) (hw : ∀ t ∈ ts, Pwf B w t) :
    Calls Tryz.prog 5 #[.slice ao ts.length cap] w fun e w' => VaP ts w e w' := by
  have HS := hid hS
  have HW := hid hw
  clear hS hw
  by_cases h60 : 60 < ts.length
  · have hi : (60 : Int) < (ts.length : Int) := by omega
    go_enter Tryz.func5, Tryz.ntmps5
    go_wp2
    go_ret
    exact ⟨true, rfl, (fun h => by cases h), rfl⟩
  · have hi : ¬ (60 : Int) < (ts.length : Int) := by omega
    go_enter Tryz.func5, Tryz.ntmps5
    go_wp2_with fail
    go_loop [3] (fun iv => ∃ k : Nat, k ≤ ts.length ∧ iv = .int .i64 k ∧ ∀ t ∈ ts.take k, t.at0 ≤ 20000 ∧ pulen t ≤ 40000) (fun iv => ts.length - (intOf iv).toNat)
    case atStart => exact ⟨0, Nat.zero_le _, rfl, fun t ht => (by simp at ht)⟩
    case round =>
      obtain ⟨k, hk, rfl, hbl⟩ := hrel
      have HBL := hid hbl
      clear hbl
      by_cases hlt : k < ts.length
      · have hli : (k : Int) < (ts.length : Int) := by omega
        obtain ⟨b, off, hao, hb, y0, y1, y2, y3⟩ := HS.out.at hlt
        obtain ⟨t, ht⟩ : ∃ t, t = ts.getD k zpu := ⟨_, rfl⟩
        have htm := HW.out _ (getD_memP ts k hlt)
        have HTK := hid (take_getP ts k hlt)
        rw [← ht] at y0 y1 y2 y3 htm HTK
        obtain ⟨nm, a0, bv, fl⟩ := t
        obtain ⟨⟨ba, bc, xs, e1, -, -, -, -⟩, -, -, -⟩ := htm
        dsimp only at e1 y0 y1 y2 y3
        subst e1 hao
        generalize xs.length = bl at *
        have HBT : Hid (a0 ≤ 20000 → bl ≤ 40000 → ∀ t ∈ ts.take (k + 1), t.at0 ≤ 20000 ∧ pulen t ≤ 40000) := by
          intro h h' t ht
          rw [HTK.out] at ht
          rcases List.mem_append.1 ht with h1 | h1
          · exact HBL.out t h1
          · rw [List.mem_singleton.1 h1]; exact ⟨h, h'⟩
        clear ht y0 y3 HTK
        by_cases ha : a0 ≤ 20000
        · by_cases hl : bl ≤ 40000
          · have h1 : ¬ (20000 : Int) < a0 := by omega
            have h2 : ¬ (40000 : Int) < (bl : Int) := by omega
            go_wp2
            exact ⟨⟨k + 1, hlt, rfl, HBT.out ha hl⟩, by simp only [intOf]; omega⟩
          · have h1 : ¬ (20000 : Int) < a0 := by omega
            have h2 : (40000 : Int) < (bl : Int) := by omega
            go_wp2
            go_ret
            exact ⟨true, rfl, (fun h => by cases h), rfl⟩
        · have h1 : (20000 : Int) < a0 := by omega
          go_wp2
          go_ret
          exact ⟨true, rfl, (fun h => by cases h), rfl⟩
      · have hli : ¬ (k : Int) < (ts.length : Int) := by omega
        go_wp2
        go_ret
        exact ⟨false, rfl, fun _ => ⟨by omega, fun t ht => HBL.out t (by rw [List.take_of_length_le (by omega)]; exact ht)⟩, rfl⟩
end Go.Proofs.YtlnknkeagonmpaaGreat
