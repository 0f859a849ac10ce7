/- tables: known: a list of one, there and back. -/
import Derived.Test.YtjjhkfhppoioiaaTpS
import Derived.Test.YtjjhkfhppoioiaaTqS
import Derived.BigQuiet
namespace Go.Proofs.Ytjjhkfhppoioiaa
open Go.RowKit
set_option linter.unusedVariables false
def kx : Sn := ⟨⟨#[97]⟩, 1024, 1, 512⟩
theorem kx_may : kx.May 9 := by
  refine ⟨⟨by decide, by decide, by decide⟩, Or.inr ⟨by decide, by decide, by decide, by decide, by decide⟩, by decide, by decide, by decide⟩
theorem kx_enc : encs Sn.enc [kx] = [1, 97, 0, 4, 0, 0, 0, 0, 0, 0, 1, 0, 0, 0, 0, 2, 0, 0, 0, 0, 0, 0] := by decide
theorem kx_lst : Lst (Sn.May 9) Sn.nm [kx] := ⟨fun e he => by (simp at he; subst he; exact kx_may), by simp⟩
theorem kx_out {bs : List Int} {er : Int} (h : Out (Sn.May 9) Sn.nm Sn.enc 9 [kx] bs er) : bs = [1, 97, 0, 4, 0, 0, 0, 0, 0, 0, 1, 0, 0, 0, 0, 2, 0, 0, 0, 0, 0, 0] ∧ er = 0 := by
  have h2 : Out (Sn.May 9) Sn.nm Sn.enc 9 [kx] (encs Sn.enc [kx]) 0 := Or.inr (Or.inr ⟨⟨by omega, by omega⟩, kx_lst, by simp, rfl, rfl⟩)
  have := h.same h2
  rw [kx_enc] at this
  exact this
theorem kx_red {l : List Sn} {er : Int} (h : Red (Sn.May 9) Sn.nm Sn.enc 9 (encs Sn.enc [kx]) 1 l er) : l = [kx] ∧ er = 0 :=
  Red.back (Sn.prs 9) (Or.inr (Or.inr ⟨⟨by omega, by omega⟩, kx_lst, by simp, rfl, rfl⟩)) h
theorem kx_red2 {l : List Sn} {er : Int} (h : Red (Sn.May 9) Sn.nm Sn.enc 9 (encs Sn.enc [kx]) 2 l er) : l = [] ∧ er = 210 :=
  Red.other (Sn.prs 9) Sn.enc_ne (l := [kx]) (Or.inr (Or.inr ⟨⟨by omega, by omega⟩, kx_lst, by simp, rfl, rfl⟩)) (by omega) (by simp) h
theorem kx_byt : Byt (encs Sn.enc [kx]) := by
  rw [kx_enc]
  unfold Byt
  decide
theorem own_at {w : World} {base : Nat} {v : Value} {xs : List Int} (h : Own w base v xs) (hp : 0 < xs.length) : ∃ g cap, v = .slice (some ⟨g, 0, none⟩) xs.length cap ∧ base ≤ g ∧ g < w.heap.size ∧ xs.length ≤ cap ∧ ∀ i, i < xs.length → w.cell? ⟨g, i, none⟩ = some (.int .u8 (xs.getD i 0)) := by
  have h' := h.sl
  rcases h.2 with ⟨_, h0⟩ | ⟨g, cap, cur, rfl, hb, hc, h1, h2, h3, h4⟩
  · omega
  · rcases h' with ⟨e, _⟩ | ⟨g', off, cap', e, _, _, g3, g4⟩
    · cases e
    · cases e
      exact ⟨g, cap, rfl, hb, g3, h1, fun i hi => by have := g4 i hi; rwa [Nat.zero_add] at this⟩
theorem srcs_new (w : World) (e : Sn) : Srcs (w.alloc (.cells e.cs 25)) (some ⟨w.heap.size, 0, none⟩) [e] := by
  intro _
  refine ⟨w.heap.size, 0, rfl, by rw [World.size_alloc]; omega, fun j u hu => ?_⟩
  rw [Nat.zero_add, (St.new 25 w e.cs).cell j]
  have : fls [e] = e.cl := by simp [fls]
  rw [this] at hu
  rw [← hu]
  show (Sn.cs e)[j]? = _
  rw [← Array.getElem?_toList]
  rfl
set_option maxRecDepth 100000 in
set_option maxHeartbeats 4000000 in
theorem known_any (w : World) : Calls Try.prog 8 #[] w fun e w' => e = .returned (.bool true) ∧ Below w.heap.size w w' := by
  obtain ⟨P, hP⟩ : ∃ P, P = w.heap.size := ⟨_, rfl⟩
  have hi6 : ∀ e ∈ [kx], e.i6 := fun e he => by
    simp at he; subst he
    exact ⟨⟨by decide, by decide⟩, ⟨by decide, by decide⟩, ⟨by decide, by decide⟩, by decide⟩
  have S0 : Hid (Sn.B (w.alloc (.cells kx.cs 25)) P kx) := by rw [hP]; exact Sn.B.new w kx
  have HP := hid (fun W hS => Put_s 9 [kx] (some ⟨P + 1, 0, none⟩) 1 1 W rfl (by omega) (by omega) hS hi6)
  go_enter Try.func8, Try.ntmps8
  go_wp2_with fail
  obtain ⟨W, hW, z1, b1, s1⟩ : ∃ W, W = (w.alloc (.cells kx.cs 25)).alloc (.cells kx.cs 25) ∧ W.heap.size = P + 2 ∧ Below P w W ∧ Sn.B W P kx ∧ Srcs W (some ⟨P + 1, 0, none⟩) [kx] := by
    refine ⟨_, rfl, by rw [World.size_alloc, World.size_alloc, hP], ?_, S0.out.kp (F := fun _ => False) ((Kp.refl _ _).alloc _) (fun x => x), ?_⟩
    · rw [hP]; exact ((Below.refl _ _).alloc (Nat.le_refl _) _).alloc (by simp) _
    · have h := srcs_new (w.alloc (.cells kx.cs 25)) kx
      rw [World.size_alloc, ← hP] at h
      exact h
  rw [← hP]
  rw [show ((w.alloc (Obj.cells #[Value.string { data := #[97] }, Value.int IntKind.i64 1024, Value.int IntKind.i64 1, Value.int IntKind.i64 512] 25)).alloc (Obj.cells #[Value.string { data := #[97] }, Value.int IntKind.i64 1024, Value.int IntKind.i64 1, Value.int IntKind.i64 512] 25)) = W from hW.symm]
  obtain ⟨s1, s2⟩ := s1
  refine (HP.out W s2).mono ?_
  rintro e w2 ⟨v, bs, er, rfl, o1, o2, o3⟩
  obtain ⟨rfl, rfl⟩ := kx_out o1
  obtain ⟨g, cap, rfl, g1, g2, g3, g4⟩ := own_at o2 (by simp)
  have SL : Hid (Sl w2 (.slice (some ⟨g, 0, none⟩) 22 cap) (encs Sn.enc [kx])) := by
    show Sl _ _ _
    rw [kx_enc]
    exact o2.sl
  have x0 : Hid (∀ U, Below w2.heap.size w2 U → U.cell? ⟨g, 0, none⟩ = some (.int .u8 1) ∧ U.cell? ⟨g, 1, none⟩ = some (.int .u8 97)) := fun U h => ⟨by rw [h.cell g2]; exact g4 0 (by simp), by rw [h.cell g2]; exact g4 1 (by simp)⟩
  have B2 := hid (b1.trans (o3.mono (by omega)))
  have S2 := hid (s1.below o3 (by omega))
  have hz2 := o3.size
  have HR1 := hid (fun U n (hS : Sl U (.slice (some ⟨g, 0, none⟩) 22 cap) (encs Sn.enc [kx])) => Read_s 9 n (.slice (some ⟨g, 0, none⟩) 22 cap) (encs Sn.enc [kx]) U kx_byt hS)
  simp only [List.length_cons, List.length_nil, Nat.reduceAdd] at g3 ⊢
  have HPP := hid hP
  clear HP o1 o2 o3 s1 s2 b1 g4 hW S0 hi6 hP g1
  go_wp2_with fail
  refine (HR1.out w2 1 SL.out).mono ?_
  rintro e w3 ⟨v3, l3, er3, rfl, q1, q2, q3⟩
  obtain ⟨rfl, rfl⟩ := kx_red q1
  obtain ⟨ao3, cap3, rfl, c1, c2, c3, c4⟩ := q2.src
  obtain ⟨g3', off3, rfl, c5, y0, y1, y2, y3⟩ := c1.at (i := 0) (by simp)
  have B3 := hid (B2.out.trans (q3.mono (by have := B2.out.size; omega)))
  have SL3 := hid (SL.out.below q3)
  have S3 := hid (S2.out.below q3 S2.out.lt)
  have X3 := hid q3
  have hz3 := q3.size
  have Y3 : Hid (∀ U, Below w3.heap.size w3 U → U.cell? ⟨g3', off3, none⟩ = some (.string ⟨#[97]⟩) ∧ U.cell? ⟨g3', off3 + 1, none⟩ = some (.int .i64 1024) ∧ U.cell? ⟨g3', off3 + 2, none⟩ = some (.int .i64 1) ∧ U.cell? ⟨g3', off3 + 3, none⟩ = some (.int .i64 512)) := fun U h => ⟨by rw [h.cell c5]; simpa [kx] using y0, by rw [h.cell c5]; simpa [kx] using y1, by rw [h.cell c5]; simpa [kx] using y2, by rw [h.cell c5]; simpa [kx] using y3⟩
  simp only [List.length_cons, List.length_nil, Nat.reduceAdd] at c2 ⊢
  clear q1 q2 q3 c1 c3 c4 y0 y1 y2 y3 B2 SL S2
  go_wp2_with fail
  refine (HR1.out w3 2 SL3.out).mono ?_
  rintro e w4 ⟨v4, l4, er4, rfl, q1, q2, q3⟩
  obtain ⟨rfl, rfl⟩ := kx_red2 q1
  obtain ⟨ao4, cap4, rfl, _⟩ := q2.src
  have B4 := hid (B3.out.trans (q3.mono (by have := B3.out.size; omega)))
  have S4 := S3.out.below q3 S3.out.lt
  obtain ⟨x1, x2⟩ := x0.out w4 (X3.out.trans (q3.mono X3.out.size))
  obtain ⟨y0, y1, y2, y3⟩ := Y3.out w4 q3
  have z0 := S4.cell 0
  have z1 := S4.cell 1
  have z2 := S4.cell 2
  have z3 := S4.cell 3
  change w4.cell? _ = some (.string ⟨#[97]⟩) at z0
  change w4.cell? _ = some (.int .i64 1024) at z1
  change w4.cell? _ = some (.int .i64 1) at z2
  change w4.cell? _ = some (.int .i64 512) at z3
  simp only [List.length_nil] at *
  clear q1 q2 q3 X3 Y3 S4 S3 SL3 B3 x0 HR1
  go_wp2_with fail
  go_quiet (fail)
  go_wp2_with fail
  go_ret
  refine ⟨rfl, ?_⟩
  rw [← HPP.out]
  first
    | exact B4.out
    | exact B4.out.drew
    | exact B4.out.trans ((drewN_kp (fun _ => False) w4 _).below (by have := B4.out.size; have := HPP.out; omega) (fun _ x => x.elim))
end Go.Proofs.Ytjjhkfhppoioiaa
