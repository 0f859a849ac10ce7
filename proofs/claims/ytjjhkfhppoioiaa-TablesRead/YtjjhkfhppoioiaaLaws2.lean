/- Laws for the walk, whatever the program: copy out of a string, clear of a part of a row, append of a string's bytes and of noughts onto a row of one's own. -/
import Derived.Test.YtjjhkfhppoioiaaLaws
namespace Go.Proofs.Ytjjhkfhppoioiaa
open Go.RowKit

/-- A string's bytes as numbers. -/
def byts (s : ByteArray) : List Int := s.data.toList.map fun b => (b.toNat : Int)
theorem byts_length (s : ByteArray) : (byts s).length = s.size := by
  unfold byts; rw [List.length_map]; exact Array.length_toList
theorem byts_cells (s : ByteArray) : List.take s.size (s.data.toList.map fun b => Value.int .u8 (b.toNat : Int)) = (byts s).map (Value.int .u8) := by
  rw [List.take_of_length_le (by rw [List.length_map]; exact Nat.le_of_eq Array.length_toList)]
  unfold byts
  rw [List.map_map]
  rfl
theorem byts_byt (s : ByteArray) : Byt (byts s) := by
  intro z hz
  obtain ⟨b, _, rfl⟩ := List.mem_map.1 hz
  have := b.toNat_lt
  omega
theorem str_byts (s : ByteArray) : strOfNums (byts s) = s := by
  unfold strOfNums byts
  rw [List.map_map]
  have : (fun n : Int => UInt8.ofNat n.toNat) ∘ (fun b : UInt8 => (b.toNat : Int)) = id := by
    funext b; simp
  rw [this, List.map_id]
theorem run_copy_str {P : Program} (w : World) (dT sT ty elem : TypeId) (dp : Option Addr) (g o dLen dCap : Nat) (s : ByteArray) (L : List Int) (t : TypeId)
    (hu : P.underlying dT = some (.slice elem)) (hs : (P.info? elem).map (·.size) = some 1) (hg : Rw t w g L) (hn : s.size ≤ dLen) (hpos : 0 < s.size → dp = some ⟨g, o, none⟩) (hfit : o + s.size ≤ L.length) :
    ∃ w', (Builtin.copy_ #[dT, sT] ty #[.slice dp dLen dCap, .string s]).run P w = .ok (goInt s.size) w' ∧ Rw t w' g (splice L o (byts s)) ∧ w.grownBy w' (some g) := by
  cases hq : P.info? elem with
  | none => simp [hq] at hs
  | some i =>
    have hi : i.size = 1 := by simpa [hq] using hs
    have hmin : Nat.min s.size dLen = s.size := Nat.min_eq_left hn
    have hcells := byts_cells s
    by_cases h0 : s.size = 0
    · have hb : byts s = [] := List.eq_nil_of_length_eq_zero (by rw [byts_length]; exact h0)
      refine ⟨w, ?_, by rw [hb]; simpa [splice] using hg, grown_refl _ _⟩
      rw [hb] at hcells
      have hc2 : List.take s.size (s.data.toList.map fun b => Value.int .u8 (b.toNat : Int)) = [] := hcells
      cases dp <;> simp [Builtin.copy_, run_underlying hu, Builtin.lenOf, Builtin.firstCells, sizeOf, typeInfo, hq, hmin, hc2, storeCells]
    · have hd := hpos (by omega)
      subst hd
      have hst := run_storeCells_at P g o t ((byts s).map (Value.int .u8)) 0 _ w hg (by simp [byts_length]; omega) (ones _)
      refine ⟨_, ?_, hg.setRow (splice L o (byts s)), grown_setRow _ _⟩
      simp only [Nat.add_zero] at hst
      simp [Builtin.copy_, run_underlying hu, Builtin.lenOf, Builtin.firstCells, sizeOf, typeInfo, hq, hmin, hcells, hst]
      simp [splice, List.map_take, List.map_drop]

theorem zero_cells (n : Nat) : (Builtin.zeroCells #[.int .u8 0] n).toList = (List.replicate n (0 : Int)).map (Value.int .u8) := by
  apply List.ext_getElem?
  intro i
  by_cases hi : i < n
  · simp [Builtin.zeroCells, hi, Nat.mod_one]
  · simp [Builtin.zeroCells, hi]

theorem run_clear_rw {P : Program} (w : World) (dT ty elem : TypeId) (dp : Option Addr) (g o n c : Nat) (L : List Int) (t : TypeId) (i : TypeInfo)
    (hu : P.underlying dT = some (.slice elem)) (hi : P.info? elem = some i) (hz : i.zero = some (.int .u8 0)) (hg : Rw t w g L) (hpos : 0 < n → dp = some ⟨g, o, none⟩) (hfit : o + n ≤ L.length) :
    ∃ w', (Builtin.clear_ #[dT] ty #[.slice dp n c]).run P w = .ok (.tuple #[]) w' ∧ Rw t w' g (splice L o (List.replicate n 0)) ∧ w.grownBy w' (some g) := by
  by_cases h0 : n = 0
  · subst h0
    refine ⟨w, ?_, by simpa [splice] using hg, grown_refl _ _⟩
    cases dp <;> simp [Builtin.clear_, run_underlying hu]
  · have hd := hpos (by omega)
    subst hd
    have hst := run_storeCells_at P g o t ((List.replicate n (0 : Int)).map (Value.int .u8)) 0 _ w hg (by simp; omega) (ones _)
    refine ⟨_, ?_, hg.setRow (splice L o (List.replicate n 0)), grown_setRow _ _⟩
    simp only [Nat.add_zero] at hst
    have hzc := zero_cells n
    obtain ⟨m, rfl⟩ : ∃ m, n = m + 1 := ⟨n - 1, by omega⟩
    simp [Builtin.clear_, run_underlying hu, zeroValue, typeInfo, hi, hz, Value.cells]
    rw [hzc, hst]
    simp [splice, List.map_take, List.map_drop]

theorem wpList_copy_str {P : Program} {w : World} {ops : Array Oper} {rest : List Oper} {o : Oper} {a : Act} {Q : Exit → Act → World → Prop} (hgd : o.guard = none) (d s : Operand) (dT sT : TypeId)
    (ho : o.op = .call { callee := .builtin .copy, args := #[d, s], argTypes := #[dT, sT] }) (elem : TypeId) (hu : P.underlying dT = some (.slice elem)) (hsz : (P.info? elem).map (·.size) = some 1)
    (dp : Option Addr) (dLen dCap : Nat) (str : ByteArray) (hd : a.eval d = .slice dp dLen dCap) (hs : a.eval s = .string str)
    (g off : Nat) (t : TypeId) (L : List Int) (hg : Rw t w g L) (hn : str.size ≤ dLen) (hpos : 0 < str.size → dp = some ⟨g, off, none⟩) (hfit : off + str.size ≤ L.length)
    (h : ∀ w', Rw t w' g (splice L off (byts str)) → w.grownBy w' (some g) → wpList P ops Q rest (a.put o.dst (goInt str.size)) w') :
    wpList P ops Q (o :: rest) a w := by
  refine wpList_plain hgd fun K hK => ?_
  obtain ⟨w', hrun, h1, h2⟩ := run_copy_str (P := P) w dT sT o.type elem dp g off dLen dCap str L t hu hsz hg hn hpos hfit
  unfold Oper.wp
  simp [execOp, ho, resolve, invoke, builtin, hd, hs, hrun, Result.andThen]
  exact hK _ _ (h _ h1 h2)

theorem wpList_clear_rw {P : Program} {w : World} {ops : Array Oper} {rest : List Oper} {o : Oper} {a : Act} {Q : Exit → Act → World → Prop} (hgd : o.guard = none) (d : Operand) (dT : TypeId)
    (ho : o.op = .call { callee := .builtin .clear, args := #[d], argTypes := #[dT] }) (elem : TypeId) (i : TypeInfo) (hu : P.underlying dT = some (.slice elem)) (hi : P.info? elem = some i) (hz : i.zero = some (.int .u8 0))
    (dp : Option Addr) (n c : Nat) (hd : a.eval d = .slice dp n c)
    (g off : Nat) (t : TypeId) (L : List Int) (hg : Rw t w g L) (hpos : 0 < n → dp = some ⟨g, off, none⟩) (hfit : off + n ≤ L.length)
    (h : ∀ w', Rw t w' g (splice L off (List.replicate n 0)) → w.grownBy w' (some g) → wpList P ops Q rest (a.put o.dst (.tuple #[])) w') :
    wpList P ops Q (o :: rest) a w := by
  refine wpList_plain hgd fun K hK => ?_
  obtain ⟨w', hrun, h1, h2⟩ := run_clear_rw (P := P) w dT o.type elem dp g off n c L t i hu hi hz hg hpos hfit
  unfold Oper.wp
  simp [execOp, ho, resolve, invoke, builtin, hd, hrun, Result.andThen]
  exact hK _ _ (h _ h1 h2)
end Go.Proofs.Ytjjhkfhppoioiaa
