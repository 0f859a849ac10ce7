/- head: the rules of a head hold just if it may be. -/
import Derived.Test.YtejdmnhdjeogaaaRr
import Derived.Lib.Strings
import Derived.Lib.Slices
import Derived.Lib.Walk
import Derived.Lib.Bytealg
namespace Go.Proofs.Ytejdmnhdjeogaaa
open Go.RowKit
set_option linter.unusedVariables false

set_option maxRecDepth 100000 in
set_option maxHeartbeats 1000000 in
theorem sl_IndexByte (s : ByteArray) (c : Int) (w : World) : Calls Try.prog 44 #[.string s, .int .u8 c] w fun e w' => e = .returned (.int .i64 (Lib.indexByte s.data.toList c.toNat.toUInt8)) ∧ w' = w := by
  go_enter Try.func44, Try.ntmps44
  go_wp2
  rw [run_callFunc_extern Try.func54 (by kernel_rfl) (by kernel_rfl) (by kernel_rfl) (e := Extern.BytealgIndexByte.indexByte) (by kernel_rfl), Lib.run_indexByteString]
  simp only [Result.andThen]
  rw [Oper.upon_value]
  go_wp2
  go_ret
  exact ⟨rfl, rfl⟩
set_option maxRecDepth 100000 in
set_option maxHeartbeats 1000000 in
theorem s_IndexByte (s : ByteArray) (c : Int) (w : World) : Calls Try.prog 34 #[.string s, .int .u8 c] w fun e w' => e = .returned (.int .i64 (Lib.indexByte s.data.toList c.toNat.toUInt8)) ∧ w' = w := by
  go_enter Try.func34, Try.ntmps34
  go_wp2_with (go_at_call 44; refine (sl_IndexByte _ _ _).mono ?_; rintro e w' ⟨rfl, rfl⟩)
  go_ret
  exact ⟨rfl, rfl⟩
theorem index_ge (l : List UInt8) (c : UInt8) : -1 ≤ Lib.indexByte l c := by
  induction l with
  | nil => simp [Lib.indexByte]
  | cons b r ih => simp only [Lib.indexByte]; split <;> (try split) <;> omega
theorem index_neg (l : List UInt8) (c : UInt8) : Lib.indexByte l c < 0 ↔ ∀ b ∈ l, b ≠ c := by
  induction l with
  | nil => simp [Lib.indexByte]
  | cons b r ih =>
    have hg := index_ge r c
    simp only [Lib.indexByte, List.forall_mem_cons, ← ih]
    by_cases h : b = c
    · simp [h]
    · have : (b == c) = false := by simpa using h
      simp only [this, Bool.false_eq_true, if_false, ne_eq, h, not_false_eq_true, true_and]
      by_cases h2 : Lib.indexByte r c = -1
      · simp [h2]
      · have h3 : (Lib.indexByte r c == -1) = false := by simpa using h2
        simp only [h3, Bool.false_eq_true, if_false]
        omega
def OkR (r : Int × Int × Int × Int) : Prop := r.2.1 ≤ r.1 ∧ r.1 ≤ r.2.2.1 ∧ r.1.tmod r.2.2.2 = 0
theorem tm1 (x : Int) : x.tmod 1 = 0 := by simp
theorem tmc (x c : Int) (h : 0 ≤ x) : x.tmod c = 0 ↔ x % c = 0 := by rw [Int.tmod_eq_emod_of_nonneg h]
theorem plc_ok {x c : Int} (hc : 0 < c) : OkR (x, c, 268435456, c) ↔ Plc c x := by
  unfold OkR Plc
  constructor
  · rintro ⟨h1, h2, h3⟩
    have h1 : c ≤ x := h1
    have h3 : x.tmod c = 0 := h3
    exact ⟨by omega, h2, (tmc x c (by omega)).1 h3⟩
  · rintro ⟨h1, h2, h3⟩
    refine ⟨?_, h2, (tmc x c (by omega)).2 h3⟩
    show c ≤ x
    exact Int.le_of_dvd h1 (Int.dvd_of_emod_eq_zero h3)
theorem one_ok {x l m : Int} : OkR (x, l, m, 1) ↔ l ≤ x ∧ x ≤ m := by
  unfold OkR
  constructor
  · rintro ⟨h1, h2, _⟩; exact ⟨h1, h2⟩
  · rintro ⟨h1, h2⟩; exact ⟨h1, h2, tm1 x⟩
theorem nu_ok {n x l m s l' m' s' : Int} (h : NU n l m s l' m' s') : OkR (x, l', m', s') ↔ (n = 0 ∧ x = 0) ∨ (n ≠ 0 ∧ OkR (x, l, m, s)) := by
  by_cases hn : n = 0
  · obtain ⟨rfl, rfl, rfl⟩ := h.1 hn
    rw [one_ok]
    constructor
    · intro h; exact Or.inl ⟨hn, by omega⟩
    · rintro (⟨_, h⟩ | ⟨h, _⟩)
      · omega
      · exact absurd hn h
  · obtain ⟨rfl, rfl, rfl⟩ := h.2 hn
    constructor
    · intro h; exact Or.inr ⟨hn, h⟩
    · rintro (⟨h, _⟩ | ⟨_, h⟩)
      · exact absurd h hn
      · exact h
theorem rls_may {h : Hd} (wf : h.Wf) (h9 : 9 ≤ h.bits) (h16 : h.bits ≤ 16) {rs : List (Int × Int × Int × Int)} (hr : Rls h rs) : ((∀ r ∈ rs, OkR r) ∧ Nn h.name) ↔ May h := by
  obtain ⟨t, l3, m3, s3, l8, m8, s8, l9, m9, s9, lb, mb, sb, lc, mc, sc, rfl, ht, ht2, N3, N8, N9, Nb, Nc⟩ := hr
  have hc := clu_bd h9 h16
  have hf := wf.flags
  simp only [List.forall_mem_cons, one_ok, plc_ok (show 0 < clu h.bits by omega), nu_ok N3, nu_ok N8, nu_ok N9, nu_ok Nb, nu_ok Nc]
  constructor
  · rintro ⟨⟨a0, a1, a2, a3, a4, a5, a6, a7, a8, a9, ab, ac, ad, ae, _⟩, nn⟩
    obtain ⟨z1, z2, z3⟩ := a1
    have z1 : (0 : Int) ≤ h.size := z1
    have z2 : h.size ≤ 67108864 := z2
    have z3 : h.size.tmod 512 = 0 := z3
    have htt := ht2 ⟨z1, z2⟩
    rw [IntKind.wrap_i64] at a0
    have tn : 0 ≤ tbl h := up_nn _ _ (up_nn _ _ z1 (by omega)) (by omega)
    exact { b9 := h9, b16 := h16, flags := by omega, s0 := z1, s1 := z2, s5 := (tmc _ _ z1).1 z3, n0 := by omega, n1 := a2.2, n2 := by omega, o0 := a4.1, o1 := a4.2, c0 := a6.1, c1 := a6.2,
            l1 := by rcases a3 with a | ⟨a, b⟩
                     · exact Or.inl a
                     · exact Or.inr ⟨by omega, b⟩,
            counts := a5,
            snaps := by
              rcases a8 with ⟨a, b⟩ | ⟨a, b⟩
              · rcases a9 with ⟨_, d⟩ | ⟨d, _⟩
                · exact Or.inl ⟨a, b, d⟩
                · exact absurd a d
              · rcases a9 with ⟨d, _⟩ | ⟨_, d⟩
                · exact absurd d a
                · exact Or.inr ⟨by omega, a7.2, b, d.1, d.2⟩,
            maps := by
              rcases ac with ⟨a, b⟩ | ⟨a, b⟩
              · rcases ad with ⟨_, d⟩ | ⟨d, _⟩
                · exact Or.inl ⟨a, b, d⟩
                · exact absurd a d
              · rcases ad with ⟨d, _⟩ | ⟨_, d⟩
                · exact absurd d a
                · exact Or.inr ⟨by omega, ab.2, b, d.1, d.2⟩,
            nn := nn, long := by omega }
  · intro m
    have htt := ht2 ⟨m.s0, m.s1⟩
    have hm := m.n2
    have hsn := m.snaps.nn
    have hmn := m.maps.nn
    have hlong := m.long
    have hfl := m.flags
    refine ⟨⟨?_, ⟨m.s0, m.s1, (tmc _ _ m.s0).2 m.s5⟩, ⟨by omega, m.n1⟩, ?_, ⟨m.o0, m.o1⟩, m.counts, ⟨m.c0, m.c1⟩, ⟨hsn.1, hsn.2.2.2.1⟩, ?_, ?_, ⟨hmn.1, hmn.2.2.2.1⟩, ?_, ?_, ⟨by omega, by omega⟩, fun _ h => by cases h⟩, m.nn⟩
    · rw [IntKind.wrap_i64]; omega
    · rcases m.l1 with a | ⟨a, b⟩
      · exact Or.inl a
      · exact Or.inr ⟨by omega, b⟩
    · rcases m.snaps with ⟨a, b, c⟩ | ⟨a, b, c, d, e⟩
      · exact Or.inl ⟨a, b⟩
      · exact Or.inr ⟨by omega, c⟩
    · rcases m.snaps with ⟨a, b, c⟩ | ⟨a, b, c, d, e⟩
      · exact Or.inl ⟨a, c⟩
      · exact Or.inr ⟨by omega, d, e⟩
    · rcases m.maps with ⟨a, b, c⟩ | ⟨a, b, c, d, e⟩
      · exact Or.inl ⟨a, b⟩
      · exact Or.inr ⟨by omega, c⟩
    · rcases m.maps with ⟨a, b, c⟩ | ⟨a, b, c, d, e⟩
      · exact Or.inl ⟨a, c⟩
      · exact Or.inr ⟨by omega, d, e⟩
theorem rcs_get : ∀ (rs : List (Int × Int × Int × Int)) (k : Nat), k < rs.length → (rcs rs)[4 * k]? = some (.int .i64 (rs.getD k (0, 0, 0, 1)).1) ∧ (rcs rs)[4 * k + 1]? = some (.int .i64 (rs.getD k (0, 0, 0, 1)).2.1) ∧ (rcs rs)[4 * k + 2]? = some (.int .i64 (rs.getD k (0, 0, 0, 1)).2.2.1) ∧ (rcs rs)[4 * k + 3]? = some (.int .i64 (rs.getD k (0, 0, 0, 1)).2.2.2)
  | [], k, h => absurd h (by simp)
  | r :: rs, 0, _ => ⟨rfl, rfl, rfl, rfl⟩
  | r :: rs, k + 1, h => by
    have := rcs_get rs k (by simpa using h)
    simp only [rcs, Nat.mul_add, List.getD_cons_succ]
    exact this
end Go.Proofs.Ytejdmnhdjeogaaa
