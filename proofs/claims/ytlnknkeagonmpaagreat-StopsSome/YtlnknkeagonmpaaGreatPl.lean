/- One step of a script without fates, whatever comes of it: the store goes on. -/
import Derived.Test.YtlnknkeagonmpaaGreatWe
import Derived.Test.YtlnknkeagonmpaaGreatWt
import Derived.Test.YtlnknkeagonmpaaGreatFg
import Derived.Test.YtlnknkeagonmpaaGreatNl
namespace Go.Proofs.YtlnknkeagonmpaaGreat
open Go.RowKit

/-- A store that came of at most K steps out of another one. -/
def Pl (D0 : Nat → Prop) (w0 : World) (own0 : List Nat) (g fm K : Nat) (w : World) : Prop :=
  ∃ D fv steps fs es c, Sr D w g fm fv steps fs [] es c ∧ steps ≤ K ∧ (∀ f ∈ fs, f.2.2.ps.length ≤ 3000 * K) ∧ Wk D0 w0 own0 w D (ownS g fm fv fs)
section
variable {D : Nat → Prop} {w : World} {g fm : Nat} {fv : Value} {steps : Nat} {fs : List Fe} {es : List (ByteArray × Value × Nat)} {c K : Nat}
theorem Sr.pl_same (h : Sr D w g fm fv steps fs [] es c) (hK : steps ≤ K) (hp : ∀ f ∈ fs, f.2.2.ps.length ≤ 3000 * K) {w' : World} (k : Kp (fun _ => False) w w') : Pl D w (ownS g fm fv fs) g fm (K + 1) w' :=
  ⟨D, fv, steps, fs, es, c, h.kp k (fun _ _ h => h) (fun _ _ h => h), by omega, fun f hf => by have := hp f hf; omega, (Wk.refl _ _ _).kp k⟩
theorem Wk.upd {D' : Nat → Prop} {W : World} {fv' : Value} {l r : List Fe} {s : ByteArray} {a a' : Fa} {q q' : Gf} (hf : fv'.ownBlock = fv.ownBlock) (k : Wk D w (g :: a.own) W D' (g :: a'.own)) : Wk D w (ownS g fm fv (l ++ (s, a, q) :: r)) W D' (ownS g fm fv' (l ++ (s, a', q') :: r)) := by
  have hin : ∀ i, i ∈ g :: a.own → i ∈ ownS g fm fv (l ++ (s, a, q) :: r) := by
    intro i hi
    rcases List.mem_cons.1 hi with rfl | h
    · exact mem_ownS.2 (.inl rfl)
    · exact mem_ownS.2 (.inr (.inr (.inr ⟨(s, a, q), by simp, h⟩)))
  refine ⟨k.k.mono (fun i _ hi => hin i hi), fun i hi => ?_, k.d, k.e⟩
  rcases mem_ownS.1 hi with h | h | h | ⟨f, hf', h⟩
  · exact .inl (mem_ownS.2 (.inl h))
  · exact .inl (mem_ownS.2 (.inr (.inl h)))
  · exact .inl (mem_ownS.2 (.inr (.inr (.inl (hf ▸ h)))))
  · rcases List.mem_append.1 hf' with h1 | h1
    · exact .inl (mem_ownS.2 (.inr (.inr (.inr ⟨f, by simp [h1], h⟩))))
    · rcases List.mem_cons.1 h1 with h1 | h1
      · subst h1
        exact (k.o i (List.mem_cons_of_mem _ h)).imp (hin i) id
      · exact .inl (mem_ownS.2 (.inr (.inr (.inr ⟨f, by simp [h1], h⟩))))
end
theorem write_pl (D : Nat → Prop) (w : World) (g fm : Nat) (fv : Value) (steps : Nat) (fs : List Fe) (es : List (ByteArray × Value × Nat)) (c K : Nat) (h : Sr D w g fm fv steps fs [] es c) (hK : steps ≤ K) (hKb : K ≤ 100000) (hp : ∀ f ∈ fs, f.2.2.ps.length ≤ 3000 * K) (s : ByteArray) (hs : s.size ≤ maxLen)
    (at0 : Int) (h2 : at0 ≤ 9223372036854775807) (m cap : Nat) (ao : Option Addr) (xs : List Int) (hm : m = xs.length) (hm3 : m ≤ 3000) (hcap : m ≤ cap) (hS : Src .u8 w ao xs) (hdis : 0 < m → ∀ b off, ao = some ⟨b, off, none⟩ → b ∉ ownS g fm fv fs) :
    Calls Tryz.prog 12 #[.pointer (some ⟨g, 0, none⟩), .string s, .int .i64 at0, .slice ao m cap] w fun e w' => (∃ z, e = .returned (.int .i64 z)) ∧ Pl D w (ownS g fm fv fs) g fm (K + 1) w' := by
  by_cases hn : nmd s = true
  · cases hq : fget fs s with
    | none =>
      refine (write_err s _ at0 _ ao m cap rfl 7 w (fun w1 k => (h.kp k (fun _ _ h => h) (fun _ _ h => h)).file_none s hn hq) (by omega)).mono ?_
      rintro e w' ⟨rfl, k⟩
      exact ⟨⟨_, rfl⟩, h.pl_same hK hp k⟩
    | some f =>
      by_cases h0 : at0 < 0
      · refine (write_rng s _ f.2.1.fb at0 ao m cap w (fun w1 k => (h.kp k (fun _ _ h => h) (fun _ _ h => h)).file_some s hn f hq) h0).mono ?_
        rintro e w' ⟨rfl, k⟩
        exact ⟨⟨_, rfl⟩, h.pl_same hK hp k⟩
      · by_cases h1 : 268435456 - at0 < (m : Int)
        · refine (write_full s _ f.2.1.fb at0 ao m cap w (fun w1 k => (h.kp k (fun _ _ h => h) (fun _ _ h => h)).file_some s hn f hq) (by omega) h2 h1).mono ?_
          rintro e w' ⟨rfl, k⟩
          exact ⟨⟨_, rfl⟩, h.pl_same hK hp k⟩
        · obtain ⟨p, rfl⟩ := Int.eq_ofNat_of_zero_le (show 0 ≤ at0 by omega)
          obtain ⟨l, r, rfl, rfl⟩ := fget_split hq
          obtain ⟨s, a, q⟩ := f
          have hpq := hp (s, a, q) (by simp)
          dsimp only at hpq hn
          refine (callsIn_wide.1 (write_go D w g fm fv steps l r [] es c s a q h hq (by omega) 0 0 rfl p m cap ao xs hm (by omega) hS hcap hdis (by omega))).mono ?_
          rintro e w' ⟨rfl, D', fv', a', h', ho, hk⟩
          refine ⟨⟨_, rfl⟩, D', fv', steps + 1, _, es, c, h', by omega, fun f hf => ?_, Wk.upd ho hk⟩
          rcases List.mem_append.1 hf with h3 | h3
          · have := hp f (by simp [h3]); omega
          · rcases List.mem_cons.1 h3 with h3 | h3
            · subst h3
              show (gwr p xs q _).ps.length ≤ _
              rw [gwr_len]
              have h4 := pcs_len m p
              have h5 := List.length_take_le (lft 0 0 m) (pcs p m)
              have h6 : ((pcs p m).take (lft 0 0 m)).length ≤ (pcs p m).length := by rw [List.length_take]; exact Nat.min_le_right _ _
              omega
            · have := hp f (by simp [h3]); omega
  · refine (write_err s _ at0 _ ao m cap rfl 2 w (fun w1 k => file_bad s g fm w1 (h.kp k (fun _ _ h => h) (fun _ _ h => h)).c0 hs (by simpa using hn)) (by omega)).mono ?_
    rintro e w' ⟨rfl, k⟩
    exact ⟨⟨_, rfl⟩, h.pl_same hK hp k⟩
theorem flush_pl (D : Nat → Prop) (w : World) (g fm : Nat) (fv : Value) (steps : Nat) (fs : List Fe) (es : List (ByteArray × Value × Nat)) (c K : Nat) (h : Sr D w g fm fv steps fs [] es c) (hK : steps ≤ K) (hKb : K ≤ 100000) (hp : ∀ f ∈ fs, f.2.2.ps.length ≤ 3000 * K) (s : ByteArray) (hs : s.size ≤ maxLen) :
    Calls Tryz.prog 26 #[.pointer (some ⟨g, 0, none⟩), .string s] w fun e w' => (∃ z, e = .returned (.int .i64 z)) ∧ Pl D w (ownS g fm fv fs) g fm (K + 1) w' := by
  by_cases hn : nmd s = true
  · cases hq : fget fs s with
    | none =>
      refine (flush_err s _ 7 w (h.file_none s hn hq) (by omega)).mono ?_
      rintro e w' ⟨rfl, rfl⟩
      exact ⟨⟨_, rfl⟩, h.pl_same hK hp (Kp.refl _ _)⟩
    | some f =>
      obtain ⟨l, r, rfl, rfl⟩ := fget_split hq
      obtain ⟨s, a, q⟩ := f
      refine (flush_go D w g fm fv steps l r [] es c s a q h hq (by omega) 0 0 rfl).mono ?_
      rintro e w' ⟨rfl, D', fv', a', h', ho, hk⟩
      refine ⟨⟨_, rfl⟩, D', fv', steps + 1, _, es, c, h', by omega, fun f hf => ?_, Wk.upd ho hk⟩
      rcases List.mem_append.1 hf with h3 | h3
      · have := hp f (by simp [h3]); omega
      · rcases List.mem_cons.1 h3 with h3 | h3
        · subst h3
          have := hp (s, a, q) (by simp)
          show (q.ps.drop _).length ≤ _
          rw [List.length_drop]
          dsimp only at this
          omega
        · have := hp f (by simp [h3]); omega
  · refine (flush_err s _ 2 w (file_bad s g fm w h.c0 hs (by simpa using hn)) (by omega)).mono ?_
    rintro e w' ⟨rfl, rfl⟩
    exact ⟨⟨_, rfl⟩, h.pl_same hK hp (Kp.refl _ _)⟩
theorem create_pl (D : Nat → Prop) (w : World) (g fm : Nat) (fv : Value) (steps : Nat) (fs : List Fe) (es : List (ByteArray × Value × Nat)) (c K : Nat) (h : Sr D w g fm fv steps fs [] es c) (hK : steps ≤ K) (hKb : K ≤ 100000) (hp : ∀ f ∈ fs, f.2.2.ps.length ≤ 3000 * K) (s : ByteArray) (hs : s.size ≤ maxLen) :
    Calls Tryz.prog 11 #[.pointer (some ⟨g, 0, none⟩), .string s] w fun e w' => (∃ z, e = .returned (.int .i64 z)) ∧ Pl D w (ownS g fm fv fs) g fm (K + 1) w' := by
  by_cases hn : nmd s = true
  · cases hq : fget fs s with
    | some f =>
      refine (create_there D w g fm fv steps fs [] es c h s hn f hq).mono ?_
      rintro e w' ⟨rfl, rfl⟩
      exact ⟨⟨_, rfl⟩, h.pl_same hK hp (Kp.refl _ _)⟩
    | none =>
      by_cases hl : fs.length = 256
      · refine (create_full D w g fm fv steps fs [] es c h s hn hq hl).mono ?_
        rintro e w' ⟨rfl, rfl⟩
        exact ⟨⟨_, rfl⟩, h.pl_same hK hp (Kp.refl _ _)⟩
      · have hnf := h.nf
        refine (create_good D w g fm fv steps fs [] es c h s hn hq (by omega) (by omega) 0 rfl).mono ?_
        rintro e w' ⟨rfl, fv', a, es', c', h', ho, ha, hk⟩
        refine ⟨⟨_, rfl⟩, D, fv', steps + 1, _, es', c', h', by omega, fun f hf => ?_, hk.mono (fun i _ hi => ?_), fun i hi => ?_, fun _ h => h, fun _ h => .inl h⟩
        · rcases List.mem_append.1 hf with h3 | h3
          · have := hp f h3; omega
          · rw [List.mem_singleton.1 h3]; exact Nat.zero_le _
        · rcases hi with hi | hi
          · exact mem_ownS.2 (.inl hi)
          · exact mem_ownS.2 (.inr (.inl hi))
        · rcases mem_ownS.1 hi with h1 | h1 | h1 | ⟨f, hf, h1⟩
          · exact .inl (mem_ownS.2 (.inl h1))
          · exact .inl (mem_ownS.2 (.inr (.inl h1)))
          · exact .inl (mem_ownS.2 (.inr (.inr (.inl (ho ▸ h1)))))
          · rcases List.mem_append.1 hf with h3 | h3
            · exact .inl (mem_ownS.2 (.inr (.inr (.inr ⟨f, h3, h1⟩))))
            · rw [List.mem_singleton.1 h3] at h1
              exact .inr (ha i h1)
  · refine (create_bad s _ 2 w (by have := allowed_live s g fm w h.c0 hs; rw [show nmd s = false by simpa using hn] at this; exact this) (by omega)).mono ?_
    rintro e w' ⟨rfl, rfl⟩
    exact ⟨⟨_, rfl⟩, h.pl_same hK hp (Kp.refl _ _)⟩
end Go.Proofs.YtlnknkeagonmpaaGreat
