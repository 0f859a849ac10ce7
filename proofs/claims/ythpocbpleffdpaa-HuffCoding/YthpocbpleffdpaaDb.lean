/- HuffCoding: the law's goes, what its range holds. -/
import Derived.Test.YthpocbpleffdpaaDa
namespace Go.Proofs.Ythpocbpleffdpaa
open Go.RowKit Go.Shelf
set_option linter.unusedVariables false
set_option linter.unusedSimpArgs false
/-- Where the next one may stand. -/
def nx (pre : List (Nat × Int)) : Nat := match pre.getLast? with | none => 0 | some x => x.1 + 1
theorem nx_nil : nx [] = 0 := rfl
theorem nx_snoc (pre : List (Nat × Int)) (x : Nat × Int) : nx (pre ++ [x]) = x.1 + 1 := by unfold nx; simp
theorem nx_cds (zs : List Int) (k : Nat) : nx (am zs (cds zs k)) ≤ k ∧ ∀ j, nx (am zs (cds zs k)) ≤ j → j < k → zs.getD j 0 ≤ 0 := by
  induction k with
  | zero => exact ⟨Nat.le_refl _, fun j _ h => by omega⟩
  | succ k ih =>
    have hge : zs[k]?.getD 0 = zs.getD k 0 := by simp [List.getD]
    by_cases h : 0 < zs[k]?.getD 0
    · rw [cds_yes h, am_snoc, nx_snoc]
      exact ⟨Nat.le_refl _, fun j h1 h2 => by dsimp only at h1; omega⟩
    · rw [cds_no h]
      refine ⟨by omega, fun j h1 h2 => ?_⟩
      by_cases e : j = k
      · subst e; rw [← hge]; omega
      · exact ih.2 j h1 (by omega)
/-- Where the boxes lie. -/
structure Gb (w : World) (O0 : Nat → Prop) (T U B : Nat) (lo : Option Addr) (zs : List Int) : Prop where
  t : w.heap.size ≤ T
  u : T + 4 ≤ U
  b : U + 3 ≤ B
  o : ∀ i, O0 i → i < w.heap.size
  r : ∀ b off, lo = some ⟨b, off, none⟩ → 0 < zs.length → b < w.heap.size ∧ ¬ O0 b
structure Gi (w : World) (O0 : Nat → Prop) (T U B : Nat) (lo : Option Addr) (cb : Nat) (zs : List Int) (leave : Int) (at_ n : Nat) (O : Nat → Prop) (Z : World) : Prop where
  k : Kp O0 w Z
  s4 : Sc 22 Z T #[.slice lo zs.length cb]
  s5 : Sc 3 Z (T + 1) #[.int .i64 leave]
  s6 : Sc 4 Z (T + 2) #[.bool false]
  rc : Rw .u64 35 Z (T + 3) (codes zs)
  s7 : Sc 27 Z U #[.slice (some ⟨T + 3, 0, none⟩) zs.length zs.length]
  s8 : Sc 3 Z (U + 1) #[.int .i64 (at_ : Int)]
  s9 : Sc 3 Z (U + 2) #[.int .i64 (n : Int)]
  sb : Src .i64 Z lo zs
  ow : ∀ i, O i → O0 i ∨ B + 1 < i
  lt : B + 1 < Z.heap.size
structure Gx (w : World) (O0 : Nat → Prop) (T B : Nat) (O : Nat → Prop) (Z : World) : Prop where
  k : Kp O0 w Z
  s6 : Sc 4 Z (T + 2) #[.bool true]
  ow : ∀ i, O i → O0 i ∨ B + 1 < i
  lt : B + 1 < Z.heap.size
theorem src_kp2 {κ : IntKind} {F : Nat → Prop} {w w' : World} {ao : Option Addr} {l : List Int} (h : Src κ w ao l) (k : Kp F w w') (hf : ∀ b off, ao = some ⟨b, off, none⟩ → 0 < l.length → ¬ F b) : Src κ w' ao l := fun hp => h.kp k (fun b off e => hf b off e hp) hp
theorem Gi.kp {w : World} {O0 G O : Nat → Prop} {T U B cb at_ n : Nat} {lo : Option Addr} {zs : List Int} {leave : Int} {Z Y : World} (b : Gb w O0 T U B lo zs) (h : Gi w O0 T U B lo cb zs leave at_ n O Z) (k : Kp G Z Y) (hg : ∀ i, i < Z.heap.size → G i → O i ∨ i = B ∨ i = B + 1) : Gi w O0 T U B lo cb zs leave at_ n O Y := by
  have h1 := b.t
  have h2 := b.u
  have h3 := b.b
  have hz := h.lt
  have ni : ∀ T, w.heap.size ≤ T → T < B → ¬ G T := fun T h1 h2 g => by
    rcases hg T (by omega) g with o | e
    · rcases h.ow T o with a | a
      · have := b.o T a; omega
      · omega
    · omega
  refine ⟨h.k.trans k (fun i hi g => ?_), h.s4.kp k (ni _ (by omega) (by omega)), h.s5.kp k (ni _ (by omega) (by omega)), h.s6.kp k (ni _ (by omega) (by omega)), h.rc.kp k (ni _ (by omega) (by omega)), h.s7.kp k (ni _ (by omega) (by omega)), h.s8.kp k (ni _ (by omega) (by omega)), h.s9.kp k (ni _ (by omega) (by omega)), src_kp2 h.sb k (fun c off e hp g => ?_), h.ow, Nat.lt_of_lt_of_le h.lt k.size⟩
  · rcases hg i (by omega) g with o | e
    · rcases h.ow i o with a | a
      · exact a
      · omega
    · omega
  · have hr := b.r c off e hp
    rcases hg c (by omega) g with o | e
    · rcases h.ow c o with a | a
      · exact hr.2 a
      · omega
    · omega
/-- Where at, n or the answer is stored. -/
theorem Gi.at {w : World} {O0 O : Nat → Prop} {T U B cb at_ n : Nat} {lo : Option Addr} {zs : List Int} {leave : Int} {Z : World} (b : Gb w O0 T U B lo zs) (h : Gi w O0 T U B lo cb zs leave at_ n O Z) (x : Nat) : Gi w O0 T U B lo cb zs leave x n O (Z.setCell ⟨U + 1, 0, none⟩ (.int .i64 (x : Int))) := by
  have h1 := b.t
  have h2 := b.u
  have h3 := b.b
  have k := kp_setC Z (U + 1) 0 (.int .i64 (x : Int)) (fun i => i = U + 1) rfl
  exact ⟨h.k.trans k (fun i hi g => by omega), h.s4.kp k (by omega), h.s5.kp k (by omega), h.s6.kp k (by omega), h.rc.kp k (by omega), h.s7.kp k (by omega), h.s8.set 0 _, h.s9.kp k (by omega), src_kp2 h.sb k (fun c off e hp g => by have := b.r c off e hp; omega), h.ow, Nat.lt_of_lt_of_le h.lt k.size⟩
theorem Gi.num {w : World} {O0 O : Nat → Prop} {T U B cb at_ n : Nat} {lo : Option Addr} {zs : List Int} {leave : Int} {Z : World} (b : Gb w O0 T U B lo zs) (h : Gi w O0 T U B lo cb zs leave at_ n O Z) (x : Nat) : Gi w O0 T U B lo cb zs leave at_ x O (Z.setCell ⟨U + 2, 0, none⟩ (.int .i64 (x : Int))) := by
  have h1 := b.t
  have h2 := b.u
  have h3 := b.b
  have k := kp_setC Z (U + 2) 0 (.int .i64 (x : Int)) (fun i => i = U + 2) rfl
  exact ⟨h.k.trans k (fun i hi g => by omega), h.s4.kp k (by omega), h.s5.kp k (by omega), h.s6.kp k (by omega), h.rc.kp k (by omega), h.s7.kp k (by omega), h.s8.kp k (by omega), h.s9.set 0 _, src_kp2 h.sb k (fun c off e hp g => by have := b.r c off e hp; omega), h.ow, Nat.lt_of_lt_of_le h.lt k.size⟩
theorem Gi.yes {w : World} {O0 O : Nat → Prop} {T U B cb at_ n : Nat} {lo : Option Addr} {zs : List Int} {leave : Int} {Z : World} (b : Gb w O0 T U B lo zs) (h : Gi w O0 T U B lo cb zs leave at_ n O Z) : Gx w O0 T B O (Z.setCell ⟨T + 2, 0, none⟩ (.bool true)) := by
  have h1 := b.t
  have k := kp_setC Z (T + 2) 0 (.bool true) (fun i => i = T + 2) rfl
  exact ⟨h.k.trans k (fun i hi g => by omega), h.s6.set 0 _, h.ow, Nat.lt_of_lt_of_le h.lt k.size⟩
theorem Gx.kp {w : World} {O0 G O : Nat → Prop} {T U B : Nat} {lo : Option Addr} {zs : List Int} {Z Y : World} (b : Gb w O0 T U B lo zs) (h : Gx w O0 T B O Z) (k : Kp G Z Y) (hg : ∀ i, i < Z.heap.size → G i → O i ∨ i = B ∨ i = B + 1) : Gx w O0 T B O Y := by
  have h1 := b.t
  have h2 := b.u
  have h3 := b.b
  have hz := h.lt
  refine ⟨h.k.trans k (fun i hi g => ?_), h.s6.kp k (fun g => ?_), h.ow, Nat.lt_of_lt_of_le h.lt k.size⟩
  · rcases hg i (by omega) g with o | e
    · rcases h.ow i o with a | a
      · exact a
      · omega
    · omega
  · rcases hg (T + 2) (by omega) g with o | e
    · rcases h.ow _ o with a | a
      · have := b.o _ a; omega
      · omega
    · omega
theorem Gi.abw {w : World} {O0 : Nat → Prop} {T U B cb : Nat} {lo : Option Addr} {zs : List Int} {leave : Int} (b : Gb w O0 T U B lo zs) : AbW (fun (pre : List (Nat × Int)) O Z => Gi w O0 T U B lo cb zs leave (nx pre) pre.length O Z) := fun s O X Y h k => by
  have h1 := h.kp b k (fun i _ o => Or.inl o)
  exact ⟨h1.k, h1.s4, h1.s5, h1.s6, h1.rc, h1.s7, h1.s8, h1.s9, h1.sb, fun i hi => hi.elim (h.ow i) (fun e => Or.inr (by have := h.lt; omega)), h1.lt⟩
theorem Gx.abw {w : World} {O0 : Nat → Prop} {T U B : Nat} {lo : Option Addr} {zs : List Int} (b : Gb w O0 T U B lo zs) (c : Code) : AbW (fun (_ : List (Nat × Int)) O Z => c = .ret ∧ Gx w O0 T B O Z) := fun s O X Y h k => by
  have h1 := h.2.kp b k (fun i _ o => Or.inl o)
  exact ⟨h.1, h1.k, h1.s6, fun i hi => hi.elim (h.2.ow i) (fun e => Or.inr (by have := h.2.lt; omega)), h1.lt⟩
def g29 (T U : Nat) (x : Nat × Int) (f : Nat → Value) : Array Value := #[f 0, f 1, f 2, f 3, .pointer (some ⟨T, 0, none⟩), .pointer (some ⟨T + 1, 0, none⟩), .pointer (some ⟨T + 2, 0, none⟩), .pointer (some ⟨U, 0, none⟩), .pointer (some ⟨U + 1, 0, none⟩), .pointer (some ⟨U + 2, 0, none⟩), .int .i64 (x.1 : Int), .int .u64 x.2, f 12, f 13, f 14, f 15, f 16, f 17, f 18, f 19, f 20, f 21, f 22, f 23, f 24, f 25, f 26, f 27, f 28, f 29, f 30, f 31, f 32, f 33, f 34, f 35, f 36, f 37, f 38, f 39, f 40, f 41, f 42, f 43, f 44, f 45, f 46, f 47, f 48, f 49, f 50, f 51, f 52, f 53, f 54, f 55, f 56, f 57, f 58, f 59, f 60, f 61, f 62, f 63, f 64, f 65, f 66, f 67, f 68, f 69, f 70, f 71, f 72]
def atv (U : Nat) (w : World) : Nat := (intOf ((w.cell? ⟨U + 1, 0, none⟩).getD undef)).toNat
theorem Gi.atv {w : World} {O0 O : Nat → Prop} {T U B cb at_ n : Nat} {lo : Option Addr} {zs : List Int} {leave : Int} {Z : World} (h : Gi w O0 T U B lo cb zs leave at_ n O Z) : atv U Z = at_ := by
  unfold Ythpocbpleffdpaa.atv
  rw [h.s8.cell 0]
  simp [intOf]
def mrkg (D : Nat) : Deferred := { target := .collected D, args := #[] }
theorem leaves_g {F : Fence} {n : Nat} {fn : Func} {tmps : Array Value} {R : Ending → World → Prop} (D : Nat) (w : World) (hD : w.heap[D]? = some (.deferred (some [])))
    (fin : ∀ w', Kp (fun i => i = D) w w' → LeavesInM F n Try.prog fn tmps R [] .returning w') : LeavesInM F n Try.prog fn tmps R [mrkg D] .returning w :=
  ⟨by simp, .inl ⟨_, _, rfl, run_takeDeferred hD, fin _ (kp_putO w D (.deferred none))⟩⟩
theorem load_b4 {w : World} {g : Nat} {v : Bool} (h : w.cell? ⟨g, 0, none⟩ = some (.bool v)) : (loadVar 4 ⟨g, 0, none⟩).run Try.prog w = .ok (.bool v) w := by
  simp [go_sem, h]
theorem fin_b29 {F : Fence} {m : Nat} {tmps : Array Value} {T6 : Nat} {w Z : World} (h4 : tmps.getD 6 undef = .pointer (some ⟨T6, 0, none⟩)) (s4 : Sc 4 Z T6 #[.bool true]) (b : Kp (fun _ => False) w Z) :
    LeavesInM F m Try.prog Try.f29 tmps (fun e w' => e = .returned (.bool true) ∧ Kp (fun _ => False) w w') [] .returning Z := by
  exact ⟨_, results_cell1 Try.results29 _ _ T6 h4 (load_b4 (s4.cell 0)), rfl, b⟩
end Go.Proofs.Ythpocbpleffdpaa
