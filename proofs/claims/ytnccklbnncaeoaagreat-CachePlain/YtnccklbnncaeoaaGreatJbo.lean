import Derived.Test.YtnccklbnncaeoaaGreatJbf
import Derived.Test.YtnccklbnncaeoaaGreatJaw
import Derived.Test.YtnccklbnncaeoaaGreatJbn
/- The statements' own num, file. -/
namespace Go.Proofs.YtnccklbnncaeoaaGreat
open Go.RowKit
set_option linter.unusedVariables false
set_option linter.unusedSimpArgs false
set_option maxHeartbeats 2000000 in
theorem num_any (z : Int) (w : World) : Calls Tryz.prog 17 #[.int .i64 z] w fun e w' => e = .returned (.int .i64 z) ∧ w' = w := by
  go_enter Tryz.func17, Tryz.ntmps17
  go_wp2
  go_ret
  exact ⟨rfl, rfl⟩
/-- The file's name. -/
def nmf : ByteArray := ⟨#[102]⟩
theorem nmf_ok : nmd nmf = true := by kernel_rfl
theorem Sr.weak {D : Nat → Prop} {w : World} {g fm : Nat} {fv : Value} {steps : Nat} {ft : List (Int × Int)} {es : List (ByteArray × Value × Nat)} {c : Nat} (h : Sr D w g fm fv steps [] ft es c) : Sr (fun _ => False) w g fm fv steps [] ft es c :=
  ⟨h.st, h.mp, h.ef, fun f hf => by (cases hf), fun f hf => by (cases hf), h.fa, h.nd, fun i hi => hi.elim, fun i hi => hi.elim, h.sb, h.nf⟩
theorem fv_nil {w : World} {fv : Value} (h : Fv w fv []) (ho : fv.ownBlock = none) : fv = .slice none 0 0 := by
  rcases h with ⟨h, _⟩ | h
  · exact h
  · obtain ⟨b, o, cap, cs, rfl, _⟩ := h
    cases ho
set_option maxRecDepth 100000 in
set_option maxHeartbeats 4000000 in
theorem file_nil (n : Nat) (hn : n ≤ 268435456) (w : World) :
    Calls Tryz.prog 11 #[.int .i64 n, .slice none 0 0] w fun e w' => ∃ g F, e = .returned (ptr g) ∧ Sw nmf g 2 F ⟨n, zero, []⟩ [] w' ∧ (∀ i, F i → w.heap.size ≤ i) ∧ Kp (fun _ => False) w w' := by
  have HN := hid (new_none w)
  obtain ⟨z, hz⟩ : ∃ z, w.heap.size = z := ⟨_, rfl⟩
  have HZ := hid hz
  have HNU := hid num_any
  have HC : Hid (∀ w1, Sr (fun _ => False) w1 (z + 1) z (.slice none 0 0) 0 [] [] [] 0 → Calls Tryz.prog 40 #[.pointer (some ⟨z + 1, 0, none⟩), .string nmf] w1 fun e w' => e = .returned (.int .i64 0) ∧ ∃ fv' a es' c', Sr (fun _ => False) w' (z + 1) z fv' (0 + 1) ([] ++ [(nmf, a, ⟨0, zero, []⟩)]) [] es' c' ∧ fv'.ownBlock = none ∧ (∀ i, i ∈ a.own → w1.heap.size ≤ i) ∧ Kp (fun i => i = z + 1 ∨ i = z) w1 w') := fun w1 h =>
    create_good (fun _ => False) w1 (z + 1) z (.slice none 0 0) 0 [] [] [] 0 h nmf nmf_ok rfl (by simp) (by omega) 0 rfl
  have HR : Hid (∀ w2 fv a es c, Sr (fun _ => False) w2 (z + 1) z fv 1 [(nmf, a, ⟨0, zero, []⟩)] [] es c → Calls Tryz.prog 41 #[.pointer (some ⟨z + 1, 0, none⟩), .string nmf, .int .i64 n] w2 fun e w' => e = .returned (.int .i64 0) ∧ ∃ D' fv' a', Sr D' w' (z + 1) z fv' 2 [(nmf, a', ⟨n, zero, []⟩)] [] es c ∧ fv'.ownBlock = fv.ownBlock ∧ Wk (fun _ => False) w2 ((z + 1) :: a.own) w' D' ((z + 1) :: a'.own)) := fun w2 fv a es c h => by
    have hh := resize_go (fun _ => False) w2 (z + 1) z fv 1 [] [] [] es c nmf a ⟨0, zero, []⟩ h (by simp [fget]) (by omega) 0 0 rfl n hn
    exact hh
  have HF : Hid (∀ w3, St 158 w3 (z + 1) #[.map (some z), .slice none 0 0, .int .i64 2] → Calls Tryz.prog 42 #[.pointer (some ⟨z + 1, 0, none⟩), .slice none 0 0] w3 fun e w' => e = .returned (.int .i64 0) ∧ St 158 w' (z + 1) #[.map (some z), .slice none 0 0, .int .i64 2] ∧ Kp (fun i => i = z + 1) w3 w') := fun w3 h => feed_none (z + 1) z 2 w3 h
  rw [hz] at HN
  clear hz
  go_enter Tryz.func11, Tryz.ntmps11
  go_wp2_with (first
    | (go_at_call 39; refine HN.out.mono ?_; rintro _ w1 ⟨rfl, h1, k1⟩; have H1 := hid h1.weak; have K1 := hid k1; clear h1 k1)
    | (go_at_call 17; refine (HNU.out _ _).mono ?_; rintro e w' ⟨rfl, h⟩; replace h := h.symm; subst h)
    | (go_at_call 40; refine (HC.out w1 H1.out).mono ?_; rintro _ w2 ⟨rfl, fv2, a2, es2, c2, h2, o2, n2, k2⟩; have H2 := hid h2; have O2 := hid o2; have N2 := hid n2; have K2 := hid k2; clear h2 o2 n2 k2))
  refine (HR.out w2 fv2 a2 es2 c2 H2.out).mono ?_
  rintro _ w3 ⟨rfl, D3, fv3, a3, h3, o3, k3⟩
  have hfv : fv3 = .slice none 0 0 := fv_nil h3.fa (o3.trans O2.out)
  subst hfv
  have H3 := hid h3
  have K3 := hid k3
  have HF3 := hid (HF.out w3 h3.st)
  clear h3 k3 o3
  go_wp2_with (first
    | (go_at_call 17; refine (HNU.out _ _).mono ?_; rintro e w' ⟨rfl, h⟩; replace h := h.symm; subst h)
    | (go_at_call 42; refine HF3.out.mono ?_; rintro _ w4 ⟨rfl, s4, k4⟩; have S4 := hid s4; have K4 := hid k4; clear s4 k4))
  go_ret
  have h3 := H3.out
  have k4 := K4.out
  have hg : ∀ i, i ∈ a3.own → ¬ i = z + 1 := fun i hi e => by
    have := h3.nd
    unfold ownS at this
    rw [List.nodup_cons] at this
    exact this.1 (by rw [← e]; simp [ownF, hi])
  have hS : Sr D3 w4 (z + 1) z (.slice none 0 0) 2 [(nmf, a3, ⟨n, zero, []⟩)] [] es2 c2 := by
    refine ⟨S4.out, kp_mp h3.mp k4 (by omega), h3.ef, fun f hf => (h3.fr f hf).kp k4 (fun i hi => ?_) (fun i hi e => ?_), h3.nm, .inl ⟨rfl, rfl⟩, h3.nd, h3.dn, fun i hi => Nat.lt_of_lt_of_le (h3.db i hi) k4.size, h3.sb, h3.nf⟩
    · rw [List.mem_singleton.1 hf] at hi
      exact hg i hi
    · exact h3.dn i hi (mem_ownS.2 (.inl e))
  have z0 := HZ.out
  have z1 := K1.out.size
  have z2 := K2.out.size
  have hlow : ∀ i, i ∈ (z + 1) :: a2.own → z ≤ i := fun i hi => by
    rcases List.mem_cons.1 hi with e | e
    · omega
    · have := N2.out i e; omega
  have hlow3 : ∀ i, i ∈ (z + 1) :: a3.own → z ≤ i := fun i hi => by
    rcases K3.out.o i hi with e | e
    · exact hlow i e
    · omega
  refine ⟨z + 1, fun i => D3 i ∨ i ∈ ownS (z + 1) z (.slice none 0 0) [(nmf, a3, ⟨n, zero, []⟩)], rfl, ⟨D3, z, _, 2, es2, c2, a3, hS, Nat.le_refl _, by simp, fun _ => Iff.rfl⟩, fun i hi => ?_, ?_⟩
  · rcases hi with hi | hi
    · rcases K3.out.e i hi with e | e
      · exact e.elim
      · omega
    · rcases mem_ownS.1 hi with e | e | e | ⟨f, hf, e⟩
      · omega
      · omega
      · cases e
      · rw [List.mem_singleton.1 hf] at e
        exact Nat.le_trans (Nat.le_of_eq z0) (hlow3 i (List.mem_cons_of_mem _ e))
  · exact ((K1.out.trans K2.out (fun i hi e => by omega)).trans K3.out.k (fun i hi e => by have := hlow i e; omega)).trans k4 (fun i hi e => by omega)
end Go.Proofs.YtnccklbnncaeoaaGreat
