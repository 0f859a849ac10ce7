/- The document's store: find, step, noughts, over, New. -/
import Derived.Test.YtlnknkeagonmpaaGreatRr
namespace Go.Proofs.YtlnknkeagonmpaaGreat
open Go.RowKit

theorem str_eq {a b : ByteArray} (h : (a.toList == b.toList) = true) : a = b := by
  rw [ByteArray.toList_eq, ByteArray.toList_eq] at h
  exact WideShapes.bytes_inj (by simpa using h)
def rnm (fs : List (Rf × Value)) (i : Nat) : ByteArray := (fs.getD i zrf).1.name
set_option maxRecDepth 100000 in
set_option maxHeartbeats 2000000 in
theorem rfind_bad (s : ByteArray) (v : Value) (w : World) (hs : s.size ≤ maxLen) (hn : nmd s = false) :
    Calls Tryz.prog 51 #[v, .string s] w fun e w' => e = .returned (.tuple #[.int .i64 0, .int .i64 2]) ∧ w' = w := by
  have HN : Hid (nmd s = false) := hn
  have HS : Hid (s.size ≤ maxLen) := hs
  clear hn hs
  go_enter Tryz.func51, Tryz.ntmps51
  go_wp2_with (first | (go_at_call 79; refine (named_any s _ HS.out).mono ?_; rintro _ _ ⟨rfl, rfl⟩; rw [HN.out]))
  go_ret2
  exact ⟨rfl, rfl⟩
set_option maxRecDepth 100000 in
set_option maxHeartbeats 2000000 in
theorem rfind_at (D : Nat → Prop) (w : World) (g : Nat) (fv : Value) (steps : Nat) (fs : List (Rf × Value)) (h : Rs D w g fv steps fs) (s : ByteArray) (hn : nmd s = true) (i : Nat) (hi : i < fs.length) (he : rnm fs i = s) (hb : ∀ j, j < i → rnm fs j ≠ s) :
    Calls Tryz.prog 51 #[.pointer (some ⟨g, 0, none⟩), .string s] w fun e w' => e = .returned (.tuple #[.int .i64 i, .int .i64 0]) ∧ w' = w := by
  have HR : Hid (Rs D w g fv steps fs) := h
  have HN : Hid (nmd s = true) := hn
  have HB : Hid (∀ j, j < i → rnm fs j ≠ s) := hb
  have HE : Hid (rnm fs i = s) := he
  have HS : Hid (s.size ≤ maxLen) := by have := nmd_ne hn; show _ ≤ _; unfold maxLen; omega
  obtain ⟨b, fc, hfv, hcs⟩ := h.cells (by omega)
  have c0 : w.cell? ⟨g, 0, none⟩ = some (.slice (some ⟨b, 0, none⟩) fs.length fc) := by rw [← hfv]; exact h.st.cell 0
  have HC : Hid (∀ i, i < fs.length → w.cell? ⟨b, 0 + i * 3, none⟩ = some (.string (fs.getD i zrf).1.name)) := fun i hi => (hcs i hi).1
  have hnf := h.nf
  clear h hn hb he hcs
  go_enter Tryz.func51, Tryz.ntmps51
  go_wp2_with (first | (go_at_call 79; refine (named_any s _ HS.out).mono ?_; rintro _ _ ⟨rfl, rfl⟩; rw [HN.out]))
  go_loop [7] (fun iv => ∃ k : Nat, k ≤ i ∧ iv = .int .i64 k) (fun iv => fs.length - (intOf iv).toNat)
  case atStart => exact ⟨0, Nat.zero_le _, rfl⟩
  case round =>
    obtain ⟨k, hk, rfl⟩ := hrel
    have hli : (k : Int) < (fs.length : Int) := by omega
    have y0 := HC.out k (by omega)
    rw [Nat.zero_add] at y0
    by_cases hlt : k < i
    · have hne : (fs.getD k zrf).1.name ≠ s := HB.out k hlt
      generalize (fs.getD k zrf).1.name = nm at *
      go_wp2
      · exfalso
        rename_i hq _
        exact hne (str_eq hq)
      · exact ⟨⟨k + 1, hlt, rfl⟩, by simp only [intOf]; omega⟩
    · obtain rfl : k = i := by omega
      have heq : (fs.getD k zrf).1.name = s := HE.out
      rw [heq] at y0
      go_wp2
      go_ret2
      exact ⟨rfl, rfl⟩
set_option maxRecDepth 100000 in
set_option maxHeartbeats 2000000 in
theorem rfind_none (D : Nat → Prop) (w : World) (g : Nat) (fv : Value) (steps : Nat) (fs : List (Rf × Value)) (h : Rs D w g fv steps fs) (s : ByteArray) (hn : nmd s = true) (hb : ∀ j, j < fs.length → rnm fs j ≠ s) :
    Calls Tryz.prog 51 #[.pointer (some ⟨g, 0, none⟩), .string s] w fun e w' => e = .returned (.tuple #[.int .i64 0, .int .i64 7]) ∧ w' = w := by
  have HR : Hid (Rs D w g fv steps fs) := h
  have HN : Hid (nmd s = true) := hn
  have HB : Hid (∀ j, j < fs.length → rnm fs j ≠ s) := hb
  have HS : Hid (s.size ≤ maxLen) := by have := nmd_ne hn; show _ ≤ _; unfold maxLen; omega
  obtain ⟨fa, fc, hfv⟩ := ownsRow_shape h.row
  have c0 : w.cell? ⟨g, 0, none⟩ = some (.slice fa fs.length fc) := by rw [← hfv]; exact h.st.cell 0
  have hnf := h.nf
  clear h hn hb
  go_enter Tryz.func51, Tryz.ntmps51
  go_wp2_with (first | (go_at_call 79; refine (named_any s _ HS.out).mono ?_; rintro _ _ ⟨rfl, rfl⟩; rw [HN.out]))
  go_loop [7] (fun iv => ∃ k : Nat, k ≤ fs.length ∧ iv = .int .i64 k) (fun iv => fs.length - (intOf iv).toNat)
  case atStart => exact ⟨0, Nat.zero_le _, rfl⟩
  case round =>
    obtain ⟨k, hk, rfl⟩ := hrel
    by_cases hlt : k < fs.length
    · have hli : (k : Int) < (fs.length : Int) := by omega
      obtain ⟨b, cap, hpe, hcs⟩ := HR.out.cells (by omega)
      rw [hfv] at hpe
      obtain ⟨rfl, rfl⟩ : fa = some ⟨b, 0, none⟩ ∧ fc = cap := by
        simp only [Value.slice.injEq] at hpe; exact ⟨hpe.1, hpe.2.2⟩
      have y0 := (hcs k hlt).1
      rw [Nat.zero_add] at y0
      have hne : (fs.getD k zrf).1.name ≠ s := HB.out k hlt
      clear hcs hpe
      generalize (fs.getD k zrf).1.name = nm at *
      go_wp2
      · exfalso
        rename_i hq _
        exact hne (str_eq hq)
      · exact ⟨⟨k + 1, hlt, rfl⟩, by simp only [intOf]; omega⟩
    · have hli : ¬ (k : Int) < (fs.length : Int) := by omega
      go_wp2
      go_ret2
      exact ⟨rfl, rfl⟩
set_option maxRecDepth 100000 in
set_option maxHeartbeats 1000000 in
theorem rstep_any (fv : Value) (g steps : Nat) (w : World) (hs : St 67 w g #[fv, .slice none 0 0, .int .i64 steps]) (hb : steps ≤ 1000000000) :
    Calls Tryz.prog 52 #[.pointer (some ⟨g, 0, none⟩)] w fun e w' => e = .returned (.tuple #[.int .i64 0, .int .i64 0]) ∧ w' = w.setCell ⟨g, 2, none⟩ (.int .i64 ((steps + 1 : Nat) : Int)) := by
  have hc2 : w.cell? ⟨g, 2, none⟩ = some (.int .i64 steps) := hs.cell 2
  have hc1 : w.cell? ⟨g, 1, none⟩ = some (.slice none 0 0) := hs.cell 1
  have hf2 := hs.frozen 2
  have hl := hs.lt
  clear hs
  go_enter Tryz.func52, Tryz.ntmps52
  go_wp2
  go_ret2
  exact ⟨rfl, rfl⟩
/-- So many noughts. -/
def nts (n : Nat) : ByteArray := strOfNums (List.replicate n 0)
theorem nts_size (n : Nat) : (nts n).size = n := by simp [nts, strOfNums, ByteArray.size]
set_option maxRecDepth 100000 in
set_option maxHeartbeats 1000000 in
theorem rnoughts_any (n : Int) (w : World) (hb : n ≤ 1000000000000) (hl : -9223372036854775808 ≤ n) :
    Calls Tryz.prog 53 #[.int .i64 n] w fun e w' => e = .returned (.string (nts n.toNat)) ∧ Kp (fun _ => False) w w' := by
  have HC : ∀ (W : World), Hid (Rw .u8 5 W w.heap.size (List.replicate n.toNat 0)) → (convert 39 9 (.slice (some ⟨w.heap.size, 0, none⟩) n.toNat n.toNat)).run Tryz.prog W = .ok (.string (nts n.toNat)) W := by
    intro W h
    have := run_convert_rw W 39 9 5 Tryz.underlying39 Tryz.underlying5 Tryz.underlying9 (some ⟨w.heap.size, 0, none⟩) n.toNat n.toNat (List.replicate n.toNat 0) (by simp) (fun _ => ⟨_, _, rfl, fun i hi => h.out.cells i (by simpa using hi)⟩)
    exact this
  go_enter Tryz.func53, Tryz.ntmps53
  go_wp2_with (first | (at_make; refine wpList_make_rw (κ := .u8) 39 5 1 Tryz.underlying39 Tryz.info5 (by decide) rfl _ _ rfl n.toNat (by show Value.int .i64 _ = Value.int .i64 _; congr 1; omega) (by show Value.int .i64 _ = Value.int .i64 _; congr 1; omega) (by omega) ?_; intro w2 r2 b2; have R2 : Hid (Rw .u8 5 w2 w.heap.size (List.replicate n.toNat 0)) := r2; have K2 : Hid (Kp (fun _ => False) w w2) := Kp.of_below b2; have hcv := HC w2 R2; clear r2 b2))
  go_ret
  exact ⟨rfl, K2.out⟩
/-- Bytes put over others at a place. -/
def ovb (b : ByteArray) (p : Nat) (x : ByteArray) : ByteArray := b.extract 0 p ++ x ++ b.extract (p + x.size) b.size
theorem ovb_size (b : ByteArray) (p : Nat) (x : ByteArray) (h : p + x.size ≤ b.size) : (ovb b p x).size = b.size := by
  simp [ovb, ByteArray.size_append, ByteArray.size_extract]
  omega
set_option maxRecDepth 100000 in
set_option maxHeartbeats 1000000 in
theorem rover_any (b x : ByteArray) (p : Nat) (w : World) (hb : b.size ≤ 1000000000000) (h : p + x.size ≤ b.size) :
    Calls Tryz.prog 41 #[.string b, .int .i64 p, .string x] w fun e w' => e = .returned (.string (ovb b p x)) ∧ Kp (fun _ => False) w w' := by
  have hm := hmix
  have h1 : (p : Int) + (x.size : Int) ≤ (b.size : Int) := by omega
  go_enter Tryz.func41, Tryz.ntmps41
  go_wp2_with fail
  go_quiet (fail)
  go_wp2_with fail
  go_ret
  exact ⟨rfl, drewN_kp _ w nq⟩
set_option maxRecDepth 100000 in
set_option maxHeartbeats 1000000 in
theorem rnew_any (w : World) :
    Calls Tryz.prog 23 #[.slice none 0 0] w fun e w' => e = .returned (.pointer (some ⟨w.heap.size, 0, none⟩)) ∧ w' = w.alloc (.cells #[.slice none 0 0, .slice none 0 0, .int .i64 0] 67) := by
  go_enter Tryz.func23, Tryz.ntmps23
  go_wp2_with fail
  go_ret
  exact ⟨rfl, rfl⟩
end Go.Proofs.YtlnknkeagonmpaaGreat
