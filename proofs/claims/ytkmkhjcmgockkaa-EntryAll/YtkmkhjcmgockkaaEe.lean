/- entry: joined, parted; the document's Word. -/
import Derived.Test.YtkmkhjcmgockkaaEb
namespace Go.Proofs.Ytkmkhjcmgockkaa
open Go.RowKit
set_option linter.unusedVariables false
theorem wraps64 (n : Int) (h0 : 0 ≤ n) (h1 : n < 2 ^ 64) : IntKind.u64.wrap n = n := by
  rw [IntKind.wrap_u64]; have : (2 : Int) ^ 64 = 18446744073709551616 := by decide
  omega
theorem or_jn (i : Nat) (x y : Int) (hx0 : 0 ≤ x) (hx : x % 2 ^ i = 0) (hx1 : x < 18446744073709551616) (hy0 : 0 ≤ y) (hy : y < 2 ^ i) (hy1 : y < 18446744073709551616) : bits .or .u64 x y = x + y :=
  bits_join .u64 64 (by decide) wraps64 i x y hx0 hx (by have : (2 : Int) ^ 64 = 18446744073709551616 := by decide
                                                         omega) hy0 hy (by have : (2 : Int) ^ 64 = 18446744073709551616 := by decide
                                                                           omega)
theorem u64_and3 (x : Int) (h : U6 x) : bits .and .u64 x 3 = x % 4 := by
  unfold U6 at h
  rw [u64_and x 3 h.1 h.2 (by decide) (by decide)]
  have := Nat.and_two_pow_sub_one_eq_mod x.toNat 2
  simp at this
  show ((x.toNat &&& 3 : Nat) : Int) = _
  rw [this]
  omega
theorem u64_and14 (x : Int) (h : U6 x) : bits .and .u64 x 16383 = x % 16384 := by
  unfold U6 at h
  rw [u64_and x 16383 h.1 h.2 (by decide) (by decide)]
  have := Nat.and_two_pow_sub_one_eq_mod x.toNat 14
  simp at this
  show ((x.toNat &&& 16383 : Nat) : Int) = _
  rw [this]
  omega
theorem u64_not3 (x : Int) (h : U6 x) : bits .andNot .u64 x 3 = x - x % 4 := by
  unfold U6 at h
  rw [u64_andNot x 3 h.1 h.2 (by decide) (by decide)]
  have := nat_midmask 64 2 x.toNat (by decide)
  show ((x.toNat &&& 18446744073709551612 : Nat) : Int) = _
  have e : (2 : Nat) ^ 64 - 2 ^ 2 = 18446744073709551612 := by decide
  rw [e] at this
  rw [this]
  have e2 : (2 : Nat) ^ 64 = 18446744073709551616 := by decide
  omega
set_option maxHeartbeats 2000000 in
theorem joined_any (e : En) (b : Int) (w : World) (hb : Bt b) (m : MayE e b) : Calls Try.prog 23 #[.agg e.cs] w fun r w' => r = .returned (.int .u64 (wrd e)) ∧ Kp (fun _ => False) w w' := by
  have HB := hid (Eb.new w e)
  have HK : Hid (Kp (fun _ => False) w (w.alloc (.cells e.cs 24))) := (Kp.refl _ _).alloc _
  have e0 : (w.alloc (.cells e.cs 24)).cell? ⟨w.heap.size, 0, none⟩ = some (.int .i64 e.kind) := HB.out.cell 0
  have e1 : (w.alloc (.cells e.cs 24)).cell? ⟨w.heap.size, 1, none⟩ = some (.int .i64 e.place) := HB.out.cell 1
  have e2 : (w.alloc (.cells e.cs 24)).cell? ⟨w.heap.size, 2, none⟩ = some (.int .i64 e.len) := HB.out.cell 2
  have hs := may_small hb m
  obtain ⟨h1, h2, h3, h4, h5, h6⟩ := hs
  have u1 : IntKind.u64.wrap e.place = e.place := by rw [IntKind.wrap_u64]; omega
  have u2 : IntKind.u64.wrap e.len = e.len := by rw [IntKind.wrap_u64]; omega
  have u0 : IntKind.u64.wrap e.kind = e.kind := by rw [IntKind.wrap_u64]; omega
  by_cases k3 : e.kind = 3
  · have u3 : IntKind.u64.wrap (e.place * 65536) = e.place * 65536 := by rw [IntKind.wrap_u64]; omega
    have u4 : IntKind.u64.wrap (e.len * 4) = e.len * 4 := by rw [IntKind.wrap_u64]; omega
    have o1 : bits .or .u64 (e.place * 65536) (e.len * 4) = e.place * 65536 + e.len * 4 := or_jn 16 _ _ (by omega) (by omega) (by omega) (by omega) (by omega) (by omega)
    have o2 : bits .or .u64 (e.place * 65536 + e.len * 4) 3 = e.place * 65536 + e.len * 4 + 3 := or_jn 2 _ _ (by omega) (by omega) (by omega) (by omega) (by omega) (by omega)
    have HR : Hid (wrd e = e.place * 65536 + e.len * 4 + 3) := (by show wrd e = _; unfold wrd; rw [if_neg (by omega), k3]; omega)
    go_enter Try.func23, Try.ntmps23
    go_wp2_with fail
    go_ret
    exact ⟨by rw [HR.out]; rfl, HK.out⟩
  · have o2 : bits .or .u64 e.place e.kind = wrd e := by
      rcases m with ⟨a1, a2, a3⟩ | ⟨a1, a2, a3⟩ | ⟨a1, _⟩
      · rw [a2, or_jn 2 0 e.kind (by omega) (by omega) (by omega) (by omega) (by omega) (by omega)]
        unfold wrd; rw [if_neg (by omega), a2, a3]; omega
      · have := plc_4 hb a3
        rw [or_jn 2 _ _ (by omega) (by omega) (by omega) (by omega) (by omega) (by omega)]
        unfold wrd; rw [if_pos a1]; omega
      · exact absurd a1 k3
    go_enter Try.func23, Try.ntmps23
    go_wp2_with fail
    go_ret
    exact ⟨rfl, HK.out⟩
set_option maxHeartbeats 2000000 in
theorem parted_any (x : Int) (w : World) (hx : U6 x) : Calls Try.prog 25 #[.int .u64 x] w fun r w' => r = .returned (.agg (prt x).cs) ∧ Kp (fun _ => False) w w' := by
  have HB := hid (Eb.new w zE)
  have HK : Hid (Kp (fun _ => False) w (w.alloc (.cells zE.cs 24))) := (Kp.refl _ _).alloc _
  have a1 := u64_and3 x hx
  have a2 := u64_not3 x hx
  have hx' := hx
  unfold U6 at hx'
  have a3 := u64_and14 (x / 4) ⟨by omega, by omega⟩
  have i1 : IntKind.i64.wrap (x % 4) = x % 4 := by rw [IntKind.wrap_i64]; omega
  have i2 : IntKind.i64.wrap (x / 65536) = x / 65536 := by rw [IntKind.wrap_i64]; omega
  have i3 : IntKind.i64.wrap (x / 4 % 16384) = x / 4 % 16384 := by rw [IntKind.wrap_i64]; omega
  by_cases k3 : x % 4 = 3
  · have HR : Hid (prt x = ⟨3, x / 65536, x / 4 % 16384⟩) := (by show prt x = _; unfold prt; rw [if_pos k3])
    go_enter Try.func25, Try.ntmps25
    go_wp2_with (refine wpList_store_en rfl (.tmp 2) (.tmp 17) rfl w.heap.size rfl (e := zE) (e' := ⟨3, x / 65536, x / 4 % 16384⟩) rfl HB.out ?_; intro w2 b2 k2)
    refine bodyPost_ret (results_cell1 Try.results25 _ _ _ rfl b2.load) rfl ⟨by rw [HR.out], HK.out.trans k2 (fun i h1 h2 => by omega)⟩
  · have HR : Hid (prt x = ⟨x % 4, IntKind.i64.wrap (x - x % 4), 0⟩) := (by show prt x = _; unfold prt; rw [if_neg k3])
    obtain ⟨P, hP⟩ : ∃ P, P = IntKind.i64.wrap (x - x % 4) := ⟨_, rfl⟩
    have hP2 : wrap64 (x - x % 4) = P := by rw [hP, IntKind.wrap_i64]; unfold wrap64; omega
    rw [← hP] at HR
    clear hP
    go_enter Try.func25, Try.ntmps25
    go_wp2_with (refine wpList_store_en rfl (.tmp 2) (.tmp 22) rfl w.heap.size rfl (e := zE) (e' := ⟨x % 4, P, 0⟩) rfl HB.out ?_; intro w2 b2 k2)
    refine bodyPost_ret (results_cell1 Try.results25 _ _ _ rfl b2.load) rfl ⟨by rw [HR.out], HK.out.trans k2 (fun i h1 h2 => by omega)⟩
set_option maxHeartbeats 2000000 in
theorem rword_any (e : En) (w : World) (hs : 0 ≤ e.kind ∧ e.kind ≤ 3 ∧ 0 ≤ e.place ∧ e.place ≤ 268435456 ∧ 0 ≤ e.len ∧ e.len ≤ 16383) : Calls Try.prog 10 #[.agg e.cs] w fun r w' => r = .returned (.int .u64 (wrd e)) ∧ Kp (fun _ => False) w w' := by
  have HB := hid (Eb.new w e)
  have HK : Hid (Kp (fun _ => False) w (w.alloc (.cells e.cs 24))) := (Kp.refl _ _).alloc _
  have e0 : (w.alloc (.cells e.cs 24)).cell? ⟨w.heap.size, 0, none⟩ = some (.int .i64 e.kind) := HB.out.cell 0
  have e1 : (w.alloc (.cells e.cs 24)).cell? ⟨w.heap.size, 1, none⟩ = some (.int .i64 e.place) := HB.out.cell 1
  have e2 : (w.alloc (.cells e.cs 24)).cell? ⟨w.heap.size, 2, none⟩ = some (.int .i64 e.len) := HB.out.cell 2
  obtain ⟨h1, h2, h3, h4, h5, h6⟩ := hs
  have u1 : IntKind.u64.wrap e.place = e.place := by rw [IntKind.wrap_u64]; omega
  have u2 : IntKind.u64.wrap e.len = e.len := by rw [IntKind.wrap_u64]; omega
  have u0 : IntKind.u64.wrap e.kind = e.kind := by rw [IntKind.wrap_u64]; omega
  by_cases k2 : e.kind = 2
  · have HR : Hid (wrd e = e.place + 2) := (by show wrd e = _; unfold wrd; rw [if_pos k2])
    have u3 : IntKind.u64.wrap (e.place + 2) = e.place + 2 := by rw [IntKind.wrap_u64]; omega
    go_enter Try.func10, Try.ntmps10
    go_wp2_with fail
    go_ret
    exact ⟨by rw [HR.out]; rfl, HK.out⟩
  · have HR : Hid (wrd e = e.place * 65536 + 4 * e.len + e.kind) := (by show wrd e = _; unfold wrd; rw [if_neg k2])
    have u3 : IntKind.u64.wrap (e.place * 65536) = e.place * 65536 := by rw [IntKind.wrap_u64]; omega
    have u4 : IntKind.u64.wrap (4 * e.len) = 4 * e.len := by rw [IntKind.wrap_u64]; omega
    have u5 : IntKind.u64.wrap (e.place * 65536 + 4 * e.len) = e.place * 65536 + 4 * e.len := by rw [IntKind.wrap_u64]; omega
    have u6 : IntKind.u64.wrap (e.place * 65536 + 4 * e.len + e.kind) = e.place * 65536 + 4 * e.len + e.kind := by rw [IntKind.wrap_u64]; omega
    go_enter Try.func10, Try.ntmps10
    go_wp2_with fail
    go_ret
    exact ⟨by rw [HR.out]; rfl, HK.out⟩
end Go.Proofs.Ytkmkhjcmgockkaa
