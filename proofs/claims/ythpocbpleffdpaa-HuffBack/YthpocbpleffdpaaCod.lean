/- The codes of lengths: as numbers, and the reference's Codes. -/
import Derived.Test.YthpocbpleffdpaaLent
namespace Go.Proofs.Ythpocbpleffdpaa
open Go.RowKit

/-- How many of the first i lengths are n. -/
def cnt (zs : List Int) (n : Nat) : Nat → Nat
  | 0 => 0
  | i + 1 => cnt zs n i + (if zs.getD i 0 = (n : Int) then 1 else 0)
theorem cnt_le (zs : List Int) (n i : Nat) : cnt zs n i ≤ i := by
  induction i with
  | zero => simp [cnt]
  | succ i ih => simp only [cnt]; split <;> omega
/-- The first code of the length n. -/
def fc (zs : List Int) : Nat → Nat
  | 0 => 0
  | n + 1 => 2 * (fc zs n + (if n = 0 then 0 else cnt zs n zs.length))
theorem fc_le (zs : List Int) (n : Nat) : fc zs n ≤ 2 ^ n * (2 * zs.length) - 2 * zs.length := by
  induction n with
  | zero => simp [fc]
  | succ n ih =>
    have := cnt_le zs n zs.length
    have hp : 1 ≤ 2 ^ n := Nat.one_le_two_pow
    have h2 : 2 * zs.length ≤ 2 ^ n * (2 * zs.length) := by
      have := Nat.mul_le_mul_right (2 * zs.length) hp
      omega
    simp only [fc, Nat.pow_succ]
    rw [show 2 ^ n * 2 * (2 * zs.length) = 2 * (2 ^ n * (2 * zs.length)) by rw [Nat.mul_comm (2 ^ n) 2, Nat.mul_assoc]]
    split <;> omega
theorem fc_small (zs : List Int) (n : Nat) (hn : n ≤ 16) (hl : zs.length ≤ 320) : fc zs n ≤ 50000000 := by
  have h1 := fc_le zs n
  have h2 : 2 ^ n ≤ 65536 := Nat.le_trans (Nat.pow_le_pow_right (by omega) hn) (by decide)
  have h3 : 2 ^ n * (2 * zs.length) ≤ 65536 * 640 := Nat.mul_le_mul h2 (by omega)
  omega
/-- The code of the symbol k. -/
def cd (zs : List Int) (k : Nat) : Int := ((fc zs (zs.getD k 0).toNat + cnt zs (zs.getD k 0).toNat k : Nat) : Int)
/-- The codes of the lengths below n, and of those of length n among the first i. -/
def pc (zs : List Int) (n i : Nat) : List Int := (List.range zs.length).map fun k => if 0 < zs.getD k 0 ∧ (zs.getD k 0 < (n : Int) ∨ (zs.getD k 0 = (n : Int) ∧ k < i)) then cd zs k else 0
theorem pc_length (zs : List Int) (n i : Nat) : (pc zs n i).length = zs.length := by simp [pc]
theorem pc_yes (zs : List Int) (n i : Nat) (h0 : 0 < n) (h : zs.getD i 0 = (n : Int)) : (pc zs n i).set i ((fc zs n + cnt zs n i : Nat) : Int) = pc zs n (i + 1) := by
  apply List.ext_getElem
  · simp [pc_length]
  · intro k h1 h2
    rw [pc_length] at h2
    by_cases hk : i = k
    · subst hk
      simp only [List.getElem_set_self]
      simp only [pc, List.getElem_map, List.getElem_range]
      rw [if_pos ⟨by omega, .inr ⟨h, by omega⟩⟩]
      unfold cd
      rw [h]
      simp
    · rw [List.getElem_set_ne hk]
      simp only [pc, List.getElem_map, List.getElem_range]
      have : (k < i) ↔ (k < i + 1) := by omega
      simp only [this]
theorem pc_no (zs : List Int) (n i : Nat) (h : zs.getD i 0 ≠ (n : Int)) : pc zs n i = pc zs n (i + 1) := by
  apply List.map_congr_left
  intro k _
  by_cases hk : i = k
  · subst hk
    have : (zs.getD i 0 < (n : Int) ∨ zs.getD i 0 = (n : Int) ∧ i < i) ↔ (zs.getD i 0 < (n : Int) ∨ zs.getD i 0 = (n : Int) ∧ i < i + 1) := by omega
    simp only [this]
  · have : (k < i) ↔ (k < i + 1) := by omega
    simp only [this]
theorem pc_next (zs : List Int) (n : Nat) : pc zs n zs.length = pc zs (n + 1) 0 := by
  apply List.map_congr_left
  intro k hk
  have hk2 : k < zs.length := List.mem_range.1 hk
  have : (zs.getD k 0 < (n : Int) ∨ zs.getD k 0 = (n : Int) ∧ k < zs.length) ↔ (zs.getD k 0 < ((n + 1 : Nat) : Int) ∨ zs.getD k 0 = ((n + 1 : Nat) : Int) ∧ k < 0) := by omega
  simp only [this]
theorem pc_start (zs : List Int) : pc zs 1 0 = List.replicate zs.length 0 := by
  apply List.ext_getElem
  · simp [pc]
  · intro k h1 h2
    simp only [pc, List.getElem_map, List.getElem_range, List.getElem_replicate]
    rw [if_neg (by omega)]
/-- The codes of lengths. -/
def codes (zs : List Int) : List Int := pc zs 16 0
theorem info35 : (Try.prog.info? 35).map (fun i => (i.zero, i.size, i.bytes)) = some (some (.int .u64 0), 1, 8) := by kernel_rfl
set_option maxRecDepth 100000 in
set_option maxHeartbeats 4000000 in
theorem rcodes_any (ao : Option Addr) (cap : Nat) (zs : List Int) (w : World) (hl : zs.length ≤ 320) (hs : Src .i64 w ao zs) :
    Calls Try.prog 17 #[.slice ao zs.length cap] w fun e w' => e = .returned (.slice (some ⟨w.heap.size, 0, none⟩) zs.length zs.length) ∧ Rw .u64 35 w' w.heap.size (codes zs) ∧ Below w.heap.size w w' := by
  have HS : Hid (Src .i64 w ao zs) := hs
  clear hs
  go_enter Try.func17, Try.ntmps17
  go_wp2_with (at_make; refine wpList_make_rw 27 35 8 Try.underlying27 info35 (by decide) rfl _ _ rfl zs.length rfl rfl (by omega) ?_; intro w1 hrow hb1)
  go_loopw [4, 5, 6] (fun cv nv _ wr => ∃ n : Nat, 1 ≤ n ∧ n ≤ 16 ∧ nv = .int .i64 n ∧ cv = .int .u64 ((fc zs (n - 1) + (if n = 1 then 0 else cnt zs (n - 1) zs.length) : Nat) : Int) ∧ Rw .u64 35 wr w.heap.size (pc zs n 0) ∧ Below w.heap.size w wr) (fun _ n _ _ => 17 - (intOf n).toNat)
  case atStart => exact ⟨1, by omega, by omega, rfl, by simp [fc], by rw [pc_start]; exact hrow, hb1⟩
  case round =>
    clear hrow hb1
    obtain ⟨n, h1n, hn16, rfl, rfl, hrow, hB⟩ := hrel
    by_cases hn : n ≤ 15
    · obtain ⟨c, hc⟩ : ∃ c, c = fc zs (n - 1) + (if n = 1 then 0 else cnt zs (n - 1) zs.length) := ⟨_, rfl⟩
      rw [← hc]
      obtain ⟨m, rfl⟩ : ∃ m, n = m + 1 := ⟨n - 1, by omega⟩
      have hfc : 2 * c = fc zs (m + 1) := by rw [hc]; simp [fc]
      have hsm := fc_small zs (m + 1) (by omega) hl
      have hwr : IntKind.u64.wrap (2 * (c : Int)) = ((fc zs (m + 1) : Nat) : Int) := by rw [show (2 * (c : Int)) = ((fc zs (m + 1) : Nat) : Int) by omega, IntKind.wrap_u64]; omega
      obtain ⟨f, hf⟩ : ∃ f, f = fc zs (m + 1) := ⟨_, rfl⟩
      rw [← hf] at hwr hsm
      have HF : Hid (f = fc zs (m + 1)) := hf
      have HR : Hid (Rw .u64 35 wr w.heap.size (pc zs (m + 1) 0) ∧ Below w.heap.size w wr) := ⟨hrow, hB⟩
      clear hc hfc hf hrow hB
      go_wp2_with fail
      go_loopw [4, 6] (fun cv iv wq => ∃ i k : Nat, i ≤ zs.length ∧ k ≤ i ∧ iv = .int .i64 i ∧ cv = .int .u64 ((f + k : Nat) : Int) ∧ Hid (k = cnt zs (m + 1) i) ∧ Rw .u64 35 wq w.heap.size (pc zs (m + 1) i) ∧ Below w.heap.size w wq) (fun _ i _ => zs.length - (intOf i).toNat)
      case atStart => exact ⟨0, 0, Nat.zero_le _, Nat.le_refl _, rfl, by simp, rfl, HR.out.1, HR.out.2⟩
      case round =>
        clear HR
        obtain ⟨i, k, hi, hki, rfl, rfl, HC, hrow, hB⟩ := hrel
        by_cases hil : i < zs.length
        · obtain ⟨b, off, rfl, hcs⟩ := (HS.out.below hB) (by omega)
          have ci := hcs i hil
          have hr := hrow.cell i (by rw [pc_length]; exact hil)
          have hfz := hrow.frozen i
          generalize (pc zs (m + 1) i).getD i 0 = old at hr
          have HZ : Hid (∀ z, z = zs.getD i 0 → (z = ((m + 1 : Nat) : Int) → (pc zs (m + 1) i).set i ((f + k : Nat) : Int) = pc zs (m + 1) (i + 1) ∧ k + 1 = cnt zs (m + 1) (i + 1)) ∧ (z ≠ ((m + 1 : Nat) : Int) → pc zs (m + 1) i = pc zs (m + 1) (i + 1) ∧ k = cnt zs (m + 1) (i + 1))) := by
            rintro z rfl
            refine ⟨fun h => ⟨?_, ?_⟩, fun h => ⟨pc_no zs (m + 1) i h, ?_⟩⟩
            · rw [HF.out, HC.out]; exact pc_yes zs (m + 1) i (by omega) h
            · rw [HC.out]; simp only [cnt]; rw [if_pos h]
            · rw [HC.out]; simp only [cnt]; rw [if_neg h]; rfl
          have HZ2 := HZ.out _ rfl
          generalize zs.getD i 0 = z at ci HZ2
          have HZ3 := HZ2
          have HZ4 : Hid ((z = ((m + 1 : Nat) : Int) → (pc zs (m + 1) i).set i ((f + k : Nat) : Int) = pc zs (m + 1) (i + 1) ∧ k + 1 = cnt zs (m + 1) (i + 1)) ∧ (z ≠ ((m + 1 : Nat) : Int) → pc zs (m + 1) i = pc zs (m + 1) (i + 1) ∧ k = cnt zs (m + 1) (i + 1))) := HZ3
          have HR : Hid (Rw .u64 35 wr w.heap.size (pc zs (m + 1) i) ∧ Below w.heap.size w wr) := ⟨hrow, hB⟩
          clear HZ HZ2 HZ3 hcs hrow hB HC
          by_cases hz : z = ((m + 1 : Nat) : Int)
          · have hzb : (z == ((m + 1 : Nat) : Int)) = true := by simpa using hz
            have hwk : IntKind.u64.wrap (((f + k : Nat) : Int) + 1) = ((f + (k + 1) : Nat) : Int) := by rw [IntKind.wrap_u64]; omega
            obtain ⟨hset, hcn⟩ := HZ4.out.1 hz
            have HST : Hid ((pc zs (m + 1) i).set i ((f + k : Nat) : Int) = pc zs (m + 1) (i + 1) ∧ k + 1 = cnt zs (m + 1) (i + 1)) := ⟨hset, hcn⟩
            clear hset hcn HZ4
            subst hz
            clear hzb
            go_wp2_with fail
            go_roundw
            case rel =>
              refine ⟨i + 1, k + 1, by omega, by omega, by go_num, by first | rfl | (congr 1; omega), HST.out.2, ?_, HR.out.2.setCell (p := ⟨w.heap.size, i, none⟩) (Nat.le_refl _) _⟩
              rw [← HST.out.1]
              exact HR.out.1.set i _
            case measure => simp [intOf]; omega
          · have hzb : (z == ((m + 1 : Nat) : Int)) = false := by simpa using hz
            have hzb2 : (z == (m : Int) + 1) = false := by simpa using hz
            obtain ⟨hset, hcn⟩ := HZ4.out.2 hz
            have HST : Hid (pc zs (m + 1) i = pc zs (m + 1) (i + 1) ∧ k = cnt zs (m + 1) (i + 1)) := ⟨hset, hcn⟩
            clear hset hcn HZ4
            go_wp2_with fail
            go_roundw
            case rel => exact ⟨i + 1, k, by omega, by omega, by go_num, rfl, HST.out.2, by rw [← HST.out.1]; exact HR.out.1, HR.out.2⟩
            case measure => simp [intOf]; omega
        · obtain rfl : i = zs.length := by omega
          have HR : Hid (Rw .u64 35 wr w.heap.size (pc zs (m + 1) zs.length) ∧ Below w.heap.size w wr) := ⟨hrow, hB⟩
          clear hrow hB
          go_wp2_with fail
          go_roundw
          case rel => exact ⟨m + 1 + 1, by omega, by omega, by go_num, by rw [HC.out, HF.out]; simp, by rw [← pc_next]; exact HR.out.1, HR.out.2⟩
          case measure => simp [intOf]; omega
    · obtain rfl : n = 16 := by omega
      have HR : Hid (Rw .u64 35 wr w.heap.size (codes zs) ∧ Below w.heap.size w wr) := ⟨hrow, hB⟩
      clear hrow hB
      generalize (fc zs (16 - 1) + (if 16 = 1 then 0 else cnt zs (16 - 1) zs.length)) = c
      go_wp2_with fail
      go_ret
      exact ⟨rfl, HR.out.1, HR.out.2⟩
end Go.Proofs.Ythpocbpleffdpaa
