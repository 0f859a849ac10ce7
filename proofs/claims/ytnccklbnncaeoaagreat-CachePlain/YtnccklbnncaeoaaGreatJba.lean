import Derived.Test.YtnccklbnncaeoaaGreatJar
import Derived.Test.YtnccklbnncaeoaaGreatJay
import Derived.Test.YtnccklbnncaeoaaGreatJaz
import Derived.Test.YtnccklbnncaeoaaGreatJal
import Derived.Test.YtnccklbnncaeoaaGreatJap
/- cache: the store beneath, said by its one file, its fates, its blocks. -/
namespace Go.Proofs.YtnccklbnncaeoaaGreat
open Go.RowKit
set_option linter.unusedVariables false
/-- The store at g with one file S, that is q; its fates are ft; it did at most N steps; its blocks are F. -/
def Sw (S : ByteArray) (g N : Nat) (F : Nat → Prop) (q : Gf) (ft : List (Int × Int)) (w : World) : Prop :=
  ∃ D fm fv steps es c a, Sr D w g fm fv steps [(S, a, q)] ft es c ∧ steps ≤ N ∧ q.ps.length ≤ 65536 * N ∧ ∀ i, F i ↔ (D i ∨ i ∈ ownS g fm fv [(S, a, q)])
theorem Sw.kp {S : ByteArray} {g N : Nat} {F X : Nat → Prop} {q : Gf} {ft : List (Int × Int)} {w w' : World} (h : Sw S g N F q ft w) (k : Kp X w w') (hf : ∀ i, F i → ¬ X i) : Sw S g N F q ft w' := by
  obtain ⟨D, fm, fv, steps, es, c, a, h1, h2, h3, h4⟩ := h
  exact ⟨D, fm, fv, steps, es, c, a, h1.kp k (fun i hi => hf i ((h4 i).2 (.inr hi))) (fun i hi => hf i ((h4 i).2 (.inl hi))), h2, h3, h4⟩
theorem Sw.kp0 {S : ByteArray} {g N : Nat} {F : Nat → Prop} {q : Gf} {ft : List (Int × Int)} {w w' : World} (h : Sw S g N F q ft w) (k : Kp (fun _ => False) w w') : Sw S g N F q ft w' := h.kp k (fun _ _ h => h)
theorem Sw.lt {S : ByteArray} {g N : Nat} {F : Nat → Prop} {q : Gf} {ft : List (Int × Int)} {w : World} (h : Sw S g N F q ft w) {i : Nat} (hi : F i) : i < w.heap.size := by
  obtain ⟨D, fm, fv, steps, es, c, a, h1, h2, h3, h4⟩ := h
  rcases (h4 i).1 hi with h | h
  · exact h1.db i h
  · exact h1.lt i h
theorem Sw.self {S : ByteArray} {g N : Nat} {F : Nat → Prop} {q : Gf} {ft : List (Int × Int)} {w : World} (h : Sw S g N F q ft w) : F g := by
  obtain ⟨D, fm, fv, steps, es, c, a, h1, h2, h3, h4⟩ := h
  exact (h4 g).2 (.inr (mem_ownS.2 (.inl rfl)))
theorem Sw.grow {S : ByteArray} {g N M : Nat} {F : Nat → Prop} {q : Gf} {ft : List (Int × Int)} {w : World} (h : Sw S g N F q ft w) (hM : N ≤ M) : Sw S g M F q ft w := by
  obtain ⟨D, fm, fv, steps, es, c, a, h1, h2, h3, h4⟩ := h
  exact ⟨D, fm, fv, steps, es, c, a, h1, by omega, by omega, h4⟩
theorem Sw.szb {S : ByteArray} {g N : Nat} {F : Nat → Prop} {q : Gf} {ft : List (Int × Int)} {w : World} (h : Sw S g N F q ft w) : q.sz ≤ 268435456 := by
  obtain ⟨D, fm, fv, steps, es, c, a, h1, h2, h3, h4⟩ := h
  exact (h1.fr (S, a, q) (by simp)).sb
theorem Sw.named {S : ByteArray} {g N : Nat} {F : Nat → Prop} {q : Gf} {ft : List (Int × Int)} {w : World} (h : Sw S g N F q ft w) : nmd S = true := by
  obtain ⟨D, fm, fv, steps, es, c, a, h1, h2, h3, h4⟩ := h
  exact h1.nm (S, a, q) (by simp)
theorem fget_one (S : ByteArray) (a : Fa) (q : Gf) : fget [(S, a, q)] S = some (S, a, q) := by simp [fget]
section
variable {S : ByteArray} {g N : Nat} {F : Nat → Prop} {q : Gf} {ft : List (Int × Int)} {w : World}
theorem size_w (h : Sw S g N F q ft w) : Calls Tryz.prog 30 #[ptr g, .string S] w fun e w' => e = .returned (.tuple #[.int .i64 q.sz, .int .i64 0]) ∧ w' = w := by
  have hn := h.named
  obtain ⟨D, fm, fv, steps, es, c, a, h1, h2, h3, h4⟩ := h
  exact size_some S _ a.fb q.sz w (h1.file_some S hn (S, a, q) (fget_one S a q)) ((h1.fr (S, a, q) (by simp)).st.cell 0)
set_option maxRecDepth 100000 in
set_option maxHeartbeats 1000000 in
theorem read_rng (s : ByteArray) (v : Value) (p n fb sz : Nat) (w : World) (hf : Calls Tryz.prog 79 #[v, .string s] w fun e w' => e = .returned (.tuple #[.pointer (some ⟨fb, 0, none⟩), .int .i64 0]) ∧ w' = w) (c0 : w.cell? ⟨fb, 0, none⟩ = some (.int .i64 sz)) (hp : sz < p) :
    Calls Tryz.prog 31 #[v, .string s, .int .i64 p, .int .i64 n] w fun e w' => e = .returned (.tuple #[.slice none 0 0, .int .i64 4]) ∧ w' = w := by
  have HF : Hid (Calls Tryz.prog 79 #[v, .string s] w fun e w' => e = .returned (.tuple #[.pointer (some ⟨fb, 0, none⟩), .int .i64 0]) ∧ w' = w) := hf
  have b1 : decide ((p : Int) < 0) = false := by simp
  have b2 : decide ((sz : Int) < (p : Int)) = true := by simp; omega
  clear hf
  go_enter Tryz.func31, Tryz.ntmps31
  go_wp2_with (first | (go_at_call 79; refine HF.out.mono ?_; rintro e w' ⟨rfl, rfl⟩))
  go_ret2
  exact ⟨rfl, rfl⟩
/-- What is read from p on, at most n bytes. -/
def rdz (q : Gf) (p n : Nat) : List Int := (List.range (min n (q.sz - p))).map fun i => ovs q.L q.ps (p + i)
def RdW (w : World) (q : Gf) (p n : Nat) (e : Ending) (w' : World) : Prop :=
  Kp (fun _ => False) w w' ∧ ((q.sz < p ∧ e = .returned (.tuple #[.slice none 0 0, .int .i64 4])) ∨
  (p ≤ q.sz ∧ ∃ b, e = .returned (.tuple #[.slice (some ⟨b, 0, none⟩) (rdz q p n).length (rdz q p n).length, .int .i64 0]) ∧ w.heap.size ≤ b ∧ Rw .u8 5 w' b (rdz q p n)))
theorem read_w (h : Sw S g N F q ft w) (p n : Nat) : Calls Tryz.prog 31 #[ptr g, .string S, .int .i64 p, .int .i64 n] w (RdW w q p n) := by
  have hn := h.named
  obtain ⟨D, fm, fv, steps, es, c, a, h1, h2, h3, h4⟩ := h
  have hfi := h1.file_some S hn (S, a, q) (fget_one S a q)
  have hfr := h1.fr (S, a, q) (by simp)
  by_cases hp : p ≤ q.sz
  · refine (read_some S _ p n D a.fb a.lm a.om a.pv q.sz q.L q.ps w hfi hfr hp).mono ?_
    rintro e w' ⟨b, rfl, hb, hr, hk⟩
    refine ⟨Kp.of_below hk, .inr ⟨hp, b, ?_, hb, hr⟩⟩
    simp [rdz, rdn]
  · refine (read_rng S _ p n a.fb q.sz w hfi (hfr.st.cell 0) (by omega)).mono ?_
    rintro e w' ⟨rfl, rfl⟩
    exact ⟨Kp.refl _ _, .inl ⟨by omega, rfl⟩⟩
/-- What a step leaves. -/
def Stp (S : ByteArray) (g N : Nat) (F : Nat → Prop) (q' : Gf) (ft' : List (Int × Int)) (w w' : World) : Prop := Kp F w w' ∧ ∃ F', Sw S g N F' q' ft' w' ∧ ∀ i, F' i → F i ∨ w.heap.size ≤ i
theorem stp_of {D D' : Nat → Prop} {W : World} {fm : Nat} {fv fv' : Value} {steps : Nat} {ft' : List (Int × Int)} {es es' : List (ByteArray × Value × Nat)} {c c' : Nat} {a a' : Fa} {q' : Gf} (h1 : Sr D w g fm fv steps [(S, a, q)] ft es c) (h2 : steps ≤ N) (h4 : ∀ i, F i ↔ (D i ∨ i ∈ ownS g fm fv [(S, a, q)])) (k1 : Sr D' W g fm fv' (steps + 1) [(S, a', q')] ft' es' c') (ho : fv'.ownBlock = fv.ownBlock) (hk : Wk D w (g :: a.own) W D' (g :: a'.own)) (hq : q'.ps.length ≤ 65536 * (N + 1)) : Stp S g (N + 1) F q' ft' w W := by
  have memo : ∀ i, i ∈ g :: a.own → F i := fun i hi => (h4 i).2 (.inr (by
    rcases List.mem_cons.1 hi with rfl | h
    · exact mem_ownS.2 (.inl rfl)
    · exact mem_ownS.2 (.inr (.inr (.inr ⟨(S, a, q), by simp, h⟩)))))
  refine ⟨hk.k.mono (fun i _ hi => memo i hi), fun i => D' i ∨ i ∈ ownS g fm fv' [(S, a', q')], ⟨D', fm, fv', steps + 1, es', c', a', k1, by omega, hq, fun _ => Iff.rfl⟩, fun i hi => ?_⟩
  rcases hi with hi | hi
  · exact (hk.e i hi).imp (fun h => (h4 i).2 (.inl h)) id
  · rcases mem_ownS.1 hi with h | h | h | ⟨f, hf, h⟩
    · exact .inl (memo i (by simp [h]))
    · exact .inl ((h4 i).2 (.inr (mem_ownS.2 (.inr (.inl h)))))
    · exact .inl ((h4 i).2 (.inr (mem_ownS.2 (.inr (.inr (.inl (ho ▸ h)))))))
    · rw [List.mem_singleton.1 hf] at h
      exact (hk.o i (List.mem_cons_of_mem _ h)).imp (memo i) id
theorem write_w (h : Sw S g N F q ft w) (hN : N ≤ 10000) (p m cap : Nat) (ao : Option Addr) (xs : List Int) (hm : m = xs.length) (hm6 : m ≤ 65536) (hb : p + m ≤ 268435456) (hS : Src .u8 w ao xs) (hcap : m ≤ cap) (hdis : ∀ b off, ao = some ⟨b, off, none⟩ → ¬ F b) :
    Calls Tryz.prog 115 #[ptr g, .string S, .int .i64 p, .slice ao m cap] w fun e w' => e = .returned (.int .i64 (ferr (ft.headD (0, 0)).1)) ∧ Stp S g (N + 1) F (gwr p xs q ((pcs p m).take (lft (ft.headD (0, 0)).1 (ft.headD (0, 0)).2 m))) ft.tail w w' := by
  obtain ⟨D, fm, fv, steps, es, c, a, h1, h2, h3, h4⟩ := h
  refine (callsIn_wide.1 (write_go D w g fm fv steps [] [] ft es c S a q h1 (fget_one S a q) (by omega) _ _ rfl p m cap ao xs hm hb hS hcap (fun _ b off e hx => hdis b off e ((h4 b).2 (.inr hx))) (by omega))).mono ?_
  rintro e w' ⟨rfl, D', fv', a', k1, ho, hk⟩
  refine ⟨rfl, stp_of h1 h2 h4 k1 ho hk ?_⟩
  rw [gwr_len]
  have h5 : ((pcs p m).take (lft (ft.headD (0, 0)).1 (ft.headD (0, 0)).2 m)).length ≤ (pcs p m).length := by rw [List.length_take]; exact Nat.min_le_right _ _
  have h6 := pcs_len m p
  omega
theorem flush_w (h : Sw S g N F q ft w) (hN : N ≤ 10000) :
    Calls Tryz.prog 121 #[ptr g, .string S] w fun e w' => e = .returned (.int .i64 (ferr (ft.headD (0, 0)).1)) ∧ Stp S g (N + 1) F (gfl q (lft (ft.headD (0, 0)).1 (ft.headD (0, 0)).2 q.ps.length)) ft.tail w w' := by
  obtain ⟨D, fm, fv, steps, es, c, a, h1, h2, h3, h4⟩ := h
  refine (flush_go D w g fm fv steps [] [] ft es c S a q h1 (fget_one S a q) (by omega) _ _ rfl).mono ?_
  rintro e w' ⟨rfl, D', fv', a', k1, ho, hk⟩
  refine ⟨rfl, stp_of h1 h2 h4 k1 ho hk ?_⟩
  show (q.ps.drop _).length ≤ _
  rw [List.length_drop]
  omega
theorem pending_w (h : Sw S g N F q ft w) : Calls Tryz.prog 29 #[ptr g] w fun e w' => e = .returned (.int .i64 q.ps.length) ∧ Kp (fun _ => False) w w' := by
  obtain ⟨D, fm, fv, steps, es, c, a, h1, h2, h3, h4⟩ := h
  refine (pending_any D w g fm fv steps [(S, a, q)] ft es c h1).mono ?_
  rintro e w' ⟨rfl, k⟩
  exact ⟨by simp [pnd], k⟩
end
end Go.Proofs.YtnccklbnncaeoaaGreat
