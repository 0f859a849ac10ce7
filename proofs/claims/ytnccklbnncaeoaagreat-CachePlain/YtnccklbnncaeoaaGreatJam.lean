import Derived.Test.YtnccklbnncaeoaaGreatJaj
import Derived.Test.YtnccklbnncaeoaaGreatJal
/- A file is looked up; its size; its bytes. -/
namespace Go.Proofs.YtnccklbnncaeoaaGreat
open Go.RowKit

theorem ky9 : Ky Tryz.prog 9 .string Value.string := ky_str Tryz.underlying9
set_option maxRecDepth 100000 in
set_option maxHeartbeats 1000000 in
theorem file_nos (s : ByteArray) (v : Value) (w : World) (h : Nos w v) : Calls Tryz.prog 79 #[v, .string s] w fun e w' => e = .returned (.tuple #[.pointer none, .int .i64 1]) ∧ w' = w := by
  have H : Hid (Nos w v) := h
  clear h
  go_enter Tryz.func79, Tryz.ntmps79
  go_wp2_with (first | (go_at_call 87; refine (allowed_nos s v _ H.out).mono ?_; rintro e w' ⟨rfl, rfl⟩))
  go_ret2
  exact ⟨rfl, rfl⟩
set_option maxRecDepth 100000 in
set_option maxHeartbeats 1000000 in
theorem file_bad (s : ByteArray) (g m : Nat) (w : World) (hc : w.cell? ⟨g, 0, none⟩ = some (.map (some m))) (hs : s.size ≤ maxLen) (hn : nmd s = false) : Calls Tryz.prog 79 #[.pointer (some ⟨g, 0, none⟩), .string s] w fun e w' => e = .returned (.tuple #[.pointer none, .int .i64 2]) ∧ w' = w := by
  have HN : Hid (nmd s = false) := hn
  have hb : ((2 : Int) != 0) = true := rfl
  clear hn
  go_enter Tryz.func79, Tryz.ntmps79
  go_wp2_with (first | (go_at_call 87; refine (allowed_live s g m _ hc hs).mono ?_; rintro e w' ⟨rfl, rfl⟩; rw [HN.out]))
  go_ret2
  exact ⟨rfl, rfl⟩
set_option maxRecDepth 100000 in
set_option maxHeartbeats 1000000 in
theorem file_any (s : ByteArray) (g m c : Nat) (es : List (ByteArray × Value × Nat)) (w : World) (hc : w.cell? ⟨g, 0, none⟩ = some (.map (some m))) (hs : s.size ≤ maxLen) (hn : nmd s = true) (hm : Mp Value.string w m es c) (po : Option Addr) (hq : (mget es s).getD (.pointer none) = .pointer po) :
    Calls Tryz.prog 79 #[.pointer (some ⟨g, 0, none⟩), .string s] w fun e w' => e = .returned (.tuple #[.pointer po, .int .i64 (if po = none then 7 else 0)]) ∧ w' = w := by
  have HN : Hid (nmd s = true) := hn
  have HM : Hid (Mp Value.string w m es c) := hm
  have HQ : Hid ((mget es s).getD (.pointer none) = .pointer po) := hq
  clear hn hm hq
  cases po with
  | none =>
    go_enter Tryz.func79, Tryz.ntmps79
    go_wp2_with (first | (go_at_call 87; refine (allowed_live s g m _ hc hs).mono ?_; rintro e w' ⟨rfl, rfl⟩; rw [HN.out]) | (at_lookup; refine wpList_lookup_mp rfl _ _ rfl ky9 Tryz.underlying156 (.pointer none) (Tryz.zeroValue159 _) m c es rfl HM.out s rfl (.pointer none) HQ.out ?_))
    go_ret2
    exact ⟨rfl, rfl⟩
  | some ad =>
    go_enter Tryz.func79, Tryz.ntmps79
    go_wp2_with (first | (go_at_call 87; refine (allowed_live s g m _ hc hs).mono ?_; rintro e w' ⟨rfl, rfl⟩; rw [HN.out]) | (at_lookup; refine wpList_lookup_mp rfl _ _ rfl ky9 Tryz.underlying156 (.pointer none) (Tryz.zeroValue159 _) m c es rfl HM.out s rfl (.pointer (some ad)) HQ.out ?_))
    go_ret2
    exact ⟨rfl, rfl⟩
section
variable {D : Nat → Prop} {w : World} {g fm : Nat} {fv : Value} {steps : Nat} {fs : List Fe} {ft : List (Int × Int)} {es : List (ByteArray × Value × Nat)} {c : Nat}
theorem Sr.c0 (h : Sr D w g fm fv steps fs ft es c) : w.cell? ⟨g, 0, none⟩ = some (.map (some fm)) := h.st.cell 0
/-- There is no such file. -/
theorem Sr.file_none (h : Sr D w g fm fv steps fs ft es c) (s : ByteArray) (hn : nmd s = true) (hq : fget fs s = none) : Calls Tryz.prog 79 #[.pointer (some ⟨g, 0, none⟩), .string s] w fun e w' => e = .returned (.tuple #[.pointer none, .int .i64 7]) ∧ w' = w :=
  file_any s g fm c es w h.c0 (by have := (nmd_ne hn).2.1; unfold maxLen; omega) hn h.mp none (by rw [mget_fs h.ef, hq]; rfl)
theorem Sr.file_some (h : Sr D w g fm fv steps fs ft es c) (s : ByteArray) (hn : nmd s = true) (f : Fe) (hq : fget fs s = some f) : Calls Tryz.prog 79 #[.pointer (some ⟨g, 0, none⟩), .string s] w fun e w' => e = .returned (.tuple #[.pointer (some ⟨f.2.1.fb, 0, none⟩), .int .i64 0]) ∧ w' = w :=
  file_any s g fm c es w h.c0 (by have := (nmd_ne hn).2.1; unfold maxLen; omega) hn h.mp (some ⟨f.2.1.fb, 0, none⟩) (by rw [mget_fs h.ef, hq]; rfl)
end
set_option maxRecDepth 100000 in
set_option maxHeartbeats 1000000 in
theorem size_some (s : ByteArray) (v : Value) (fb sz : Nat) (w : World) (hf : Calls Tryz.prog 79 #[v, .string s] w fun e w' => e = .returned (.tuple #[.pointer (some ⟨fb, 0, none⟩), .int .i64 0]) ∧ w' = w) (hc : w.cell? ⟨fb, 0, none⟩ = some (.int .i64 sz)) :
    Calls Tryz.prog 30 #[v, .string s] w fun e w' => e = .returned (.tuple #[.int .i64 sz, .int .i64 0]) ∧ w' = w := by
  have HF : Hid (Calls Tryz.prog 79 #[v, .string s] w fun e w' => e = .returned (.tuple #[.pointer (some ⟨fb, 0, none⟩), .int .i64 0]) ∧ w' = w) := hf
  clear hf
  go_enter Tryz.func30, Tryz.ntmps30
  go_wp2_with (first | (go_at_call 79; refine HF.out.mono ?_; rintro e w' ⟨rfl, rfl⟩))
  go_ret2
  exact ⟨rfl, rfl⟩
set_option maxRecDepth 100000 in
set_option maxHeartbeats 1000000 in
theorem size_err (s : ByteArray) (v : Value) (e0 : Int) (w : World) (hf : Calls Tryz.prog 79 #[v, .string s] w fun e w' => e = .returned (.tuple #[.pointer none, .int .i64 e0]) ∧ w' = w) (he : e0 ≠ 0) :
    Calls Tryz.prog 30 #[v, .string s] w fun e w' => e = .returned (.tuple #[.int .i64 0, .int .i64 e0]) ∧ w' = w := by
  have HF : Hid (Calls Tryz.prog 79 #[v, .string s] w fun e w' => e = .returned (.tuple #[.pointer none, .int .i64 e0]) ∧ w' = w) := hf
  have hb : (e0 != 0) = true := by simpa using he
  clear hf
  go_enter Tryz.func30, Tryz.ntmps30
  go_wp2_with (first | (go_at_call 79; refine HF.out.mono ?_; rintro e w' ⟨rfl, rfl⟩))
  go_ret2
  exact ⟨rfl, rfl⟩
set_option maxRecDepth 100000 in
set_option maxHeartbeats 1000000 in
theorem read_err (s : ByteArray) (v : Value) (at0 n : Int) (e0 : Int) (w : World) (hf : Calls Tryz.prog 79 #[v, .string s] w fun e w' => e = .returned (.tuple #[.pointer none, .int .i64 e0]) ∧ w' = w) (he : e0 ≠ 0) :
    Calls Tryz.prog 31 #[v, .string s, .int .i64 at0, .int .i64 n] w fun e w' => e = .returned (.tuple #[.slice none 0 0, .int .i64 e0]) ∧ w' = w := by
  have HF : Hid (Calls Tryz.prog 79 #[v, .string s] w fun e w' => e = .returned (.tuple #[.pointer none, .int .i64 e0]) ∧ w' = w) := hf
  have hb : (e0 != 0) = true := by simpa using he
  clear hf
  go_enter Tryz.func31, Tryz.ntmps31
  go_wp2_with (first | (go_at_call 79; refine HF.out.mono ?_; rintro e w' ⟨rfl, rfl⟩))
  go_ret2
  exact ⟨rfl, rfl⟩
/-- How many bytes are read. -/
def rdn (sz p : Nat) (n : Nat) : Nat := min n (sz - p)
set_option maxRecDepth 100000 in
set_option maxHeartbeats 1000000 in
theorem read_some (s : ByteArray) (v : Value) (p n : Nat) (D : Nat → Prop) (fb lm om : Nat) (pv : Value) (sz : Nat) (L : Nat → Int) (ps : List (Nat × List Int)) (w : World) (hf : Calls Tryz.prog 79 #[v, .string s] w fun e w' => e = .returned (.tuple #[.pointer (some ⟨fb, 0, none⟩), .int .i64 0]) ∧ w' = w) (hr : Fr D w ⟨fb, lm, om, pv⟩ sz L ps) (hp : p ≤ sz) :
    Calls Tryz.prog 31 #[v, .string s, .int .i64 p, .int .i64 n] w fun e w' => ∃ g, e = .returned (.tuple #[.slice (some ⟨g, 0, none⟩) (rdn sz p n) (rdn sz p n), .int .i64 0]) ∧ w.heap.size ≤ g ∧ Rw .u8 5 w' g ((List.range (rdn sz p n)).map fun i => ovs L ps (p + i)) ∧ Below w.heap.size w w' := by
  have HF : Hid (Calls Tryz.prog 79 #[v, .string s] w fun e w' => e = .returned (.tuple #[.pointer (some ⟨fb, 0, none⟩), .int .i64 0]) ∧ w' = w) := hf
  have HR : Hid (Fr D w ⟨fb, lm, om, pv⟩ sz L ps) := hr
  have c0 : w.cell? ⟨fb, 0, none⟩ = some (.int .i64 sz) := hr.st.cell 0
  have hsb := hr.sb
  obtain ⟨m, hm⟩ : ∃ m, m = rdn sz p n := ⟨_, rfl⟩
  have hmm : m = min n (sz - p) := hm
  rw [← hm]
  have hsub : (sz : Int) - (p : Int) = ((sz - p : Nat) : Int) := by omega
  have hmin : (if ((sz - p : Nat) : Int) < (n : Int) then ((sz - p : Nat) : Int) else (n : Int)) = (m : Int) := by rw [hmm]; split <;> omega
  have hmin2 : min (n : Int) ((sz - p : Nat) : Int) = (m : Int) := by rw [hmm]; omega
  have hpm : p + m ≤ sz := by omega
  have b1 : decide ((p : Int) < 0) = false := by simp
  have b2 : decide ((sz : Int) < (p : Int)) = false := by simp; omega
  have b3 : decide ((n : Int) < 0) = false := by simp
  clear hf hr hm hmm
  go_enter Tryz.func31, Tryz.ntmps31
  go_wp2_with (first | (go_at_call 79; refine HF.out.mono ?_; rintro e w' ⟨rfl, rfl⟩) | (go_at_call 80; refine (callsIn_wide.1 (read_in Fence.wide 3 trivial trivial trivial rfl (Nat.le_refl _) D fb lm om pv sz L ps p m _ HR.out hpm)).mono ?_; rintro e w1 ⟨g, rfl, h1, h2, h3⟩))
  go_ret2
  exact ⟨g, rfl, h1, h2, h3⟩
end Go.Proofs.YtnccklbnncaeoaaGreat
