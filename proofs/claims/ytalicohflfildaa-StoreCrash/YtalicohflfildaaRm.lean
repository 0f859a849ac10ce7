/- Remove, of a file that is there. -/
import Derived.Test.YtalicohflfildaaPn
import Derived.Test.YtalicohflfildaaCr
namespace Go.Proofs.Ytalicohflfildaa
open Go.RowKit

theorem mdel_map {s : ByteArray} {x : Fe} (hx : x.1 = s) : ∀ (l r : List Fe) (es : List (ByteArray × Value × Nat)), es.map (fun e => (e.1, e.2.1)) = (l ++ x :: r).map (fun f => (f.1, fptr f)) → s ∉ l.map (·.1) → (mdel es s).map (fun e => (e.1, e.2.1)) = (l ++ r).map (fun f => (f.1, fptr f))
  | l, r, [], h, _ => by simp at h
  | [], r, e :: es, h, _ => by
    simp only [List.nil_append, List.map_cons, List.cons.injEq, Prod.mk.injEq] at h
    unfold mdel
    rw [if_pos (by rw [h.1.1, hx])]
    exact h.2
  | y :: l, r, e :: es, h, hn => by
    simp only [List.cons_append, List.map_cons, List.cons.injEq, Prod.mk.injEq] at h
    simp only [List.map_cons, List.mem_cons, not_or] at hn
    unfold mdel
    rw [if_neg (by rw [h.1.1]; exact hn.1)]
    simp only [List.map_cons, List.cons_append]
    rw [mdel_map hx l r es h.2 hn.2, h.1.1, h.1.2]
/-- What is left of the files. -/
def rml (k0 : Int) (l r : List Fe) (x : Fe) : List Fe := if k0 = 0 then l ++ r else l ++ x :: r
theorem Sr.gone {D : Nat → Prop} {w W : World} {g fm : Nat} {fv : Value} {steps : Nat} {l r : List Fe} {s : ByteArray} {a : Fa} {q : Gf} {ft : List (Int × Int)} {es : List (ByteArray × Value × Nat)} {c : Nat} (h : Sr D w g fm fv steps (l ++ (s, a, q) :: r) ft es c) (hm : Mp Value.string W fm (mdel es s) c) (k : Kp (fun i => i = fm) w W) : Sr D W g fm fv steps (l ++ r) ft (mdel es s) c := by
  have hnd := h.nd
  have hkk := h.keys
  have hap : ∀ i, (i = g ∨ fv.ownBlock = some i ∨ ∃ f ∈ l ++ (s, a, q) :: r, i ∈ f.2.1.own) → ¬ i = fm := by
    intro i hi e
    subst e
    unfold ownS at hnd
    rw [List.nodup_cons, List.nodup_cons] at hnd
    rcases hi with rfl | hi | ⟨f, hf', hi⟩
    · exact hnd.1 (by simp)
    · exact hnd.2.1 (List.mem_append_left _ (by simpa using hi))
    · exact hnd.2.1 (List.mem_append_right _ (List.mem_flatMap.2 ⟨f, hf', hi⟩))
  have hsub : ∀ f, f ∈ l ++ r → f ∈ l ++ (s, a, q) :: r := fun f hf => by
    rcases List.mem_append.1 hf with h1 | h1
    · exact List.mem_append.2 (.inl h1)
    · exact List.mem_append.2 (.inr (List.mem_cons_of_mem _ h1))
  have hown : ∀ i, i ∈ ownS g fm fv (l ++ r) → i ∈ ownS g fm fv (l ++ (s, a, q) :: r) := fun i hi => by
    rcases mem_ownS.1 hi with h1 | h1 | h1 | ⟨f, hf, h1⟩
    · exact mem_ownS.2 (.inl h1)
    · exact mem_ownS.2 (.inr (.inl h1))
    · exact mem_ownS.2 (.inr (.inr (.inl h1)))
    · exact mem_ownS.2 (.inr (.inr (.inr ⟨f, hsub f hf, h1⟩)))
  have hsn : s ∉ l.map (·.1) := by
    have := hkk.2
    rw [List.map_append, List.map_cons, List.nodup_append] at this
    exact fun hx => this.2.2 s hx s (by simp) rfl
  refine ⟨h.st.kp k (hap g (.inl rfl)), hm, mdel_map rfl l r es h.ef hsn, fun f hf => (h.fr f (hsub f hf)).kp k (fun i hi => hap i (.inr (.inr ⟨f, hsub f hf, hi⟩))) (fun i hi e => h.dn i hi (mem_ownS.2 (.inr (.inl e)))), fun f hf => h.nm f (hsub f hf), h.fa.kp k (fun b hb => hap b (.inr (.inl hb))), ?_, fun i hi hm' => h.dn i hi (hown i hm'), fun i hi => Nat.lt_of_lt_of_le (h.db i hi) k.size, h.sb, ?_⟩
  · refine List.Nodup.sublist ?_ hnd
    unfold ownS
    refine List.Sublist.cons_cons _ (List.Sublist.cons_cons _ (List.Sublist.append (List.Sublist.refl _) ?_))
    rw [ownF_append, ownF_append]
    refine List.Sublist.append (List.Sublist.refl _) ?_
    unfold ownF
    rw [List.flatMap_cons]
    exact List.sublist_append_right _ _
  · have := h.nf
    simp at this ⊢
    omega
set_option maxRecDepth 100000 in
set_option maxHeartbeats 2000000 in
theorem remove_go (D : Nat → Prop) (w : World) (g fm : Nat) (fv : Value) (steps : Nat) (l r : List Fe) (ft : List (Int × Int)) (es : List (ByteArray × Value × Nat)) (c : Nat) (s : ByteArray) (a : Fa) (q : Gf) (h : Sr D w g fm fv steps (l ++ (s, a, q) :: r) ft es c) (hq : fget (l ++ (s, a, q) :: r) s = some (s, a, q)) (hsb : steps < 1000000000) (k0 n0 : Int) (hk : ft.headD (0, 0) = (k0, n0)) :
    Calls Try.prog 22 #[.pointer (some ⟨g, 0, none⟩), .string s] w fun e w' => e = .returned (.int .i64 (ferr k0)) ∧ ∃ fv' es', Sr D w' g fm fv' (steps + 1) (rml k0 l r (s, a, q)) ft.tail es' c ∧ fv'.ownBlock = fv.ownBlock ∧ Kp (fun i => i = g ∨ i = fm) w w' := by
  have hn : nmd s = true := h.nm (s, a, q) (by simp)
  have HFI : Hid (Calls Try.prog 32 #[.pointer (some ⟨g, 0, none⟩), .string s] w fun e w' => e = .returned (.tuple #[.pointer (some ⟨a.fb, 0, none⟩), .int .i64 0]) ∧ w' = w) := h.file_some s hn (s, a, q) hq
  have HS : Hid (Sr D w g fm fv steps (l ++ (s, a, q) :: r) ft es c) := h
  have HK : Hid (ft.headD (0, 0) = (k0, n0)) := hk
  clear h hq hk hn
  go_enter Try.func22, Try.ntmps22
  go_wp2_with fail
  refine HFI.out.mono ?_
  rintro e w1 ⟨rfl, hw1⟩
  replace hw1 := hw1.symm
  subst hw1
  go_wp2_with fail
  refine (step_any g _ fv steps ft _ HS.out.st (by have := HS.out.sb; omega) HS.out.fa HS.out.fvg).mono ?_
  rintro e w2 ⟨rfl, fv1, s2, f2, o2, k2⟩
  rw [HK.out]
  have S2 := HS.out.stepped s2 f2 o2 k2 hsb
  have HO2 : Hid (fv1.ownBlock = fv.ownBlock) := o2
  have K2 : Hid (Kp (fun i => i = g) w w2) := k2
  have tf := St.new 58 w2 #[.int .i64 k0, .int .i64 n0]
  have k3 : Kp (fun _ => False) w2 (w2.alloc (.cells #[.int .i64 k0, .int .i64 n0] 58)) := (Kp.refl _ _).alloc _
  have c0 : (w2.alloc (.cells #[.int .i64 k0, .int .i64 n0] 58)).cell? ⟨w2.heap.size, 0, none⟩ = some (.int .i64 k0) := tf.cell 0
  have c1 : (w2.alloc (.cells #[.int .i64 k0, .int .i64 n0] 58)).cell? ⟨w2.heap.size, 1, none⟩ = some (.int .i64 n0) := tf.cell 1
  have S3 := S2.kp k3 (fun _ _ h => h) (fun _ _ h => h)
  have HS3 : Hid (Sr D (w2.alloc (.cells #[.int .i64 k0, .int .i64 n0] 58)) g fm fv1 (steps + 1) (l ++ (s, a, q) :: r) ft.tail es c) := S3
  have HTF : Hid (St 58 (w2.alloc (.cells #[.int .i64 k0, .int .i64 n0] 58)) w2.heap.size #[.int .i64 k0, .int .i64 n0]) := tf
  have HTN : Hid (fm < w2.heap.size) := S2.mp.lt
  have K3 : Hid (Kp (fun i => i = g) w (w2.alloc (.cells #[.int .i64 k0, .int .i64 n0] 58))) := K2.out.trans k3 (fun _ _ h => h.elim)
  have cg : (w2.alloc (.cells #[.int .i64 k0, .int .i64 n0] 58)).cell? ⟨g, 0, none⟩ = some (.map (some fm)) := S3.c0
  clear s2 f2 o2 k2 S2 S3 tf k3
  by_cases hz : k0 = 0
  · subst hz
    have HM3 : Hid (Mp Value.string (w2.alloc (.cells #[.int .i64 0, .int .i64 n0] 58)) fm es c) := HS3.out.mp
    go_wp2_with (first | (at_delete; refine wpList_delete_mp rfl (.tmp 25) (.tmp 26) rfl ky9 Try.underlying52 fm c es rfl HM3.out s rfl ?_; intro w4 m4 g4; have k4 : Kp (fun i => i = fm) (w2.alloc (.cells #[.int .i64 0, .int .i64 n0] 58)) w4 := Kp.of_grown g4 (fun i e => by cases e; rfl); have tf4 := HTF.out.kp k4 (by have := HTN.out; omega); have d0 : w4.cell? ⟨w2.heap.size, 0, none⟩ = some (.int .i64 0) := tf4.cell 0; have d1 : w4.cell? ⟨w2.heap.size, 1, none⟩ = some (.int .i64 n0) := tf4.cell 1; have HS4 : Hid (Sr D w4 g fm fv1 (steps + 1) (l ++ r) ft.tail (mdel es s) c) := HS3.out.gone m4 k4; have K4 : Hid (Kp (fun i => i = g ∨ i = fm) w w4) := (K3.out.mono (G := fun i => i = g ∨ i = fm) (fun _ _ h => .inl h)).trans k4 (fun _ _ h => .inr h); clear tf4 k4 m4 g4) | (go_at_call 39; refine (came_f 0 n0 _).mono ?_; rintro e w5 ⟨rfl, b5⟩))
    have k5 : Kp (fun _ => False) w4 w5 := Kp.of_below b5
    go_ret
    rw [show rml 0 l r (s, a, q) = l ++ r from rfl]
    exact ⟨rfl, fv1, _, HS4.out.kp k5 (fun _ _ h => h) (fun _ _ h => h), HO2.out, K4.out.trans k5 (fun _ _ h => h.elim)⟩
  · have hzb : (k0 == 0) = false := by simpa using hz
    go_wp2_with (first | (go_at_call 39; refine (came_f k0 n0 _).mono ?_; rintro e w5 ⟨rfl, b5⟩))
    have k5 : Kp (fun _ => False) (w2.alloc (.cells #[.int .i64 k0, .int .i64 n0] 58)) w5 := Kp.of_below b5
    go_ret
    rw [show rml k0 l r (s, a, q) = l ++ (s, a, q) :: r from if_neg hz]
    exact ⟨rfl, fv1, _, HS3.out.kp k5 (fun _ _ h => h) (fun _ _ h => h), HO2.out, (K3.out.mono (G := fun i => i = g ∨ i = fm) (fun _ _ h => .inl h)).trans k5 (fun _ _ h => h.elim)⟩
end Go.Proofs.Ytalicohflfildaa
