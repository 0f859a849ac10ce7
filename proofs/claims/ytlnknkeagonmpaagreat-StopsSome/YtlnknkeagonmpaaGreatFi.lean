/- A file is looked up; its size; its bytes. -/
import Derived.Test.YtlnknkeagonmpaaGreatSo
import Derived.Test.YtlnknkeagonmpaaGreatRe
namespace Go.Proofs.YtlnknkeagonmpaaGreat
open Go.RowKit

theorem ky9 : Ky Tryz.prog 9 .string Value.string := ky_str Tryz.underlying9
set_option maxRecDepth 100000 in
set_option maxHeartbeats 1000000 in
theorem file_nos (s : ByteArray) (v : Value) (w : World) (h : Nos w v) : Calls Tryz.prog 37 #[v, .string s] w fun e w' => e = .returned (.tuple #[.pointer none, .int .i64 1]) ∧ w' = w := by
  have H : Hid (Nos w v) := h
  clear h
  go_enter Tryz.func37, Tryz.ntmps37
  go_wp2_with (first | (go_at_call 33; refine (allowed_nos s v _ H.out).mono ?_; rintro e w' ⟨rfl, rfl⟩))
  go_ret2
  exact ⟨rfl, rfl⟩
set_option maxRecDepth 100000 in
set_option maxHeartbeats 1000000 in
theorem file_bad (s : ByteArray) (g m : Nat) (w : World) (hc : w.cell? ⟨g, 0, none⟩ = some (.map (some m))) (hs : s.size ≤ maxLen) (hn : nmd s = false) : Calls Tryz.prog 37 #[.pointer (some ⟨g, 0, none⟩), .string s] w fun e w' => e = .returned (.tuple #[.pointer none, .int .i64 2]) ∧ w' = w := by
  have HN : Hid (nmd s = false) := hn
  have hb : ((2 : Int) != 0) = true := rfl
  clear hn
  go_enter Tryz.func37, Tryz.ntmps37
  go_wp2_with (first | (go_at_call 33; refine (allowed_live s g m _ hc hs).mono ?_; rintro e w' ⟨rfl, rfl⟩; rw [HN.out]))
  go_ret2
  exact ⟨rfl, rfl⟩
set_option maxRecDepth 100000 in
set_option maxHeartbeats 1000000 in
theorem file_any (s : ByteArray) (g m c : Nat) (es : List (ByteArray × Value × Nat)) (w : World) (hc : w.cell? ⟨g, 0, none⟩ = some (.map (some m))) (hs : s.size ≤ maxLen) (hn : nmd s = true) (hm : Mp Value.string w m es c) (po : Option Addr) (hq : (mget es s).getD (.pointer none) = .pointer po) :
    Calls Tryz.prog 37 #[.pointer (some ⟨g, 0, none⟩), .string s] w fun e w' => e = .returned (.tuple #[.pointer po, .int .i64 (if po = none then 7 else 0)]) ∧ w' = w := by
  have HN : Hid (nmd s = true) := hn
  have HM : Hid (Mp Value.string w m es c) := hm
  have HQ : Hid ((mget es s).getD (.pointer none) = .pointer po) := hq
  clear hn hm hq
  cases po with
  | none =>
    go_enter Tryz.func37, Tryz.ntmps37
    go_wp2_with (first | (go_at_call 33; refine (allowed_live s g m _ hc hs).mono ?_; rintro e w' ⟨rfl, rfl⟩; rw [HN.out]) | (at_lookup; refine wpList_lookup_mp rfl _ _ rfl ky9 Tryz.underlying55 (.pointer none) (Tryz.zeroValue83 _) m c es rfl HM.out s rfl (.pointer none) HQ.out ?_))
    go_ret2
    exact ⟨rfl, rfl⟩
  | some ad =>
    go_enter Tryz.func37, Tryz.ntmps37
    go_wp2_with (first | (go_at_call 33; refine (allowed_live s g m _ hc hs).mono ?_; rintro e w' ⟨rfl, rfl⟩; rw [HN.out]) | (at_lookup; refine wpList_lookup_mp rfl _ _ rfl ky9 Tryz.underlying55 (.pointer none) (Tryz.zeroValue83 _) m c es rfl HM.out s rfl (.pointer (some ad)) HQ.out ?_))
    go_ret2
    exact ⟨rfl, rfl⟩
section
variable {D : Nat → Prop} {w : World} {g fm : Nat} {fv : Value} {steps : Nat} {fs : List Fe} {ft : List (Int × Int)} {es : List (ByteArray × Value × Nat)} {c : Nat}
theorem Sr.c0 (h : Sr D w g fm fv steps fs ft es c) : w.cell? ⟨g, 0, none⟩ = some (.map (some fm)) := h.st.cell 0
/-- There is no such file. -/
theorem Sr.file_none (h : Sr D w g fm fv steps fs ft es c) (s : ByteArray) (hn : nmd s = true) (hq : fget fs s = none) : Calls Tryz.prog 37 #[.pointer (some ⟨g, 0, none⟩), .string s] w fun e w' => e = .returned (.tuple #[.pointer none, .int .i64 7]) ∧ w' = w :=
  file_any s g fm c es w h.c0 (by have := (nmd_ne hn).2.1; unfold maxLen; omega) hn h.mp none (by rw [mget_fs h.ef, hq]; rfl)
theorem Sr.file_some (h : Sr D w g fm fv steps fs ft es c) (s : ByteArray) (hn : nmd s = true) (f : Fe) (hq : fget fs s = some f) : Calls Tryz.prog 37 #[.pointer (some ⟨g, 0, none⟩), .string s] w fun e w' => e = .returned (.tuple #[.pointer (some ⟨f.2.1.fb, 0, none⟩), .int .i64 0]) ∧ w' = w :=
  file_any s g fm c es w h.c0 (by have := (nmd_ne hn).2.1; unfold maxLen; omega) hn h.mp (some ⟨f.2.1.fb, 0, none⟩) (by rw [mget_fs h.ef, hq]; rfl)
end
/-- How many bytes are read. -/
def rdn (sz p : Nat) (n : Nat) : Nat := min n (sz - p)
end Go.Proofs.YtlnknkeagonmpaaGreat
