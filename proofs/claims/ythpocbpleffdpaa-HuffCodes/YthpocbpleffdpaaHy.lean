/- A pile's Push, and container/heap's Push. -/
import Derived.Test.YthpocbpleffdpaaHt
namespace Go.Proofs.Ythpocbpleffdpaa
open Go.RowKit

/-- append onto a row of one's own of a slice that may be nil or not. -/
theorem wpList_append_any {P : Program} {w : World} {ops : Array Oper} {rest : List Oper} {o : Oper} {a : Act} {Q : Exit → Act → World → Prop} (hgd : o.guard = none) (s x : Operand) (t : TypeId)
    (ho : o.op = .call { callee := .builtin .append, args := #[s, x], argTypes := #[t, t] }) (base : Nat) (e : TypeId) (z : Value) (size bytes : Nat) (ht : P.underlying t = some (.slice e)) (hinfo : (P.info? e).map (fun i => (i.zero, i.size, i.bytes)) = some (some z, size, bytes)) (hzs : z.cells.size = size) (hsz : 0 < size)
    (v : Value) (n : Nat) (xs : List Value) (hs : a.eval s = v) (hown : w.ownsRow base e size v n xs)
    (ao : Option Addr) (m c : Nat) (news : List Value) (hx : a.eval x = .slice ao m c) (hnone : ao = none → m = 0 ∧ c = 0) (hl : news.length = m * size) (hnews : ∀ ad, ao = some ad → ∀ j u, news[j]? = some u → w.cell? (ad.add j) = some u) (h1 : ∀ u ∈ news, u.oneCell' = true)
    (h63 : n + m ≤ maxLen) (hbytes : (n + m) * bytes ≤ 140737488355328) (hbase : base ≤ w.heap.size)
    (h : ∀ v' w', w'.ownsRow base e size v' (n + m) (xs ++ news) → Kp (fun i => v.ownBlock = some i) w w' → (v'.ownBlock = v.ownBlock ∨ v'.ownBlock = some w.heap.size) → wpList P ops Q rest (a.put o.dst v') w') : wpList P ops Q (o :: rest) a w := by
  obtain ⟨i0, hi, hz0, hz1, hz2⟩ := info_parts hinfo
  cases ao with
  | none =>
    obtain ⟨hm0, hc⟩ := hnone rfl
    subst hm0 hc
    obtain rfl : news = [] := List.eq_nil_of_length_eq_zero (by simpa using hl)
    refine wpList_append_own_none hgd s x t ho base e i0 size ht hi v n xs hs hown hx (h v w ?_ (Kp.refl _ _) (.inl rfl))
    rw [Nat.add_zero, List.append_nil]
    exact hown
  | some ad =>
    refine wpList_append_own_at w hgd s x t ho base e i0 z size bytes ht hi hz0 hz1 hz2 hzs hsz v n xs hs hown ad m c news hx hl (hnews ad rfl) h1 h63 hbytes hbase ?_
    intro v' w' h2 h3 _ h4
    exact h v' w' h2 (Kp.of_grown h3 (fun i e => e.symm ▸ rfl)) h4
theorem Try.info116b : (Try.prog.info? 116).map (fun i => (i.zero, i.size, i.bytes)) = some (some (.pointer none), 1, 8) := by kernel_rfl

theorem is_tree (b : Nat) (w : World) : Sem.run Try.prog (Instr.typeAssert (.iface 116 (.pointer (some ⟨b, 0, none⟩))) 20 116 true) w = .ok (.tuple #[.pointer (some ⟨b, 0, none⟩), .bool true]) w := by kernel_rfl
/-- What a push leaves. -/
structure Pushed (c : Nat → Nat) (w w' : World) (base B : Nat) (v v' fv : Value) (L : List Nat) : Prop where
  pil : Pil c w' base B v' fv L
  own : v'.ownBlock = v.ownBlock ∨ ∃ g, v'.ownBlock = some g ∧ w.heap.size ≤ g
  kp : Kp (fun k => k = B ∨ v.ownBlock = some k) w w'

theorem own_slice {w : World} {base n : Nat} {v : Value} {xs : List Value} (h : w.ownsRow base 116 1 v (n + 1) xs) : ∃ g cap, v = .slice (some ⟨g, 0, none⟩) (n + 1) cap := by
  rcases h.2 with ⟨_, h0⟩ | ⟨g, cap, cur, rfl, _⟩
  · omega
  · exact ⟨g, cap, rfl⟩
theorem push_parts (c : Nat → Nat) (w w2 : World) (base B : Nat) (v v2 fv : Value) (L : List Nat) (b : Nat) (o : Obj) (h : Pil c w base B v fv L) (hb : Tk c w b) (hbB : b ≠ B) (hbv : ∀ g, v.ownBlock = some g → g ≠ b)
    (O2 : w2.ownsRow base 116 1 v2 (L.length + 1) (L.map ptr ++ [ptr b])) (K2 : Kp (fun i => v.ownBlock = some i) (w.alloc o) w2) (L2 : v2.ownBlock = v.ownBlock ∨ v2.ownBlock = some (w.alloc o).heap.size) : Pushed c w (w2.setCell ⟨B, 0, none⟩ v2) base B v v2 fv (L ++ [b]) := by
  have K3 : Kp (fun i => v.ownBlock = some i) w w2 := (Kp.alloc (Kp.refl (fun i => v.ownBlock = some i) w) o).trans K2 (fun _ _ h => h)
  have hsz : (w.alloc o).heap.size = w.heap.size + 1 := by simp
  have hBl := h.st.lt
  have hnx : ∀ x, x ∈ L ++ [b] → Tk c w x ∧ x ≠ B ∧ v.ownBlock ≠ some x := by
    intro x hx
    rcases List.mem_append.1 hx with hx | hx
    · exact ⟨h.tr x hx, fun e => h.nb (e ▸ hx), fun e => (h.ne x e).2 hx⟩
    · obtain rfl : x = b := by simpa using hx
      exact ⟨hb, hbB, fun e => hbv x e rfl⟩
  have hne2 : ∀ g, v2.ownBlock = some g → g ≠ B ∧ g ∉ L ++ [b] := by
    intro g e
    rcases L2 with e2 | e2
    · rw [e2] at e
      exact ⟨(h.ne g e).1, fun hm => (hnx g hm).2.2 e⟩
    · rw [e2, hsz] at e
      obtain rfl : w.heap.size + 1 = g := by simpa using e
      exact ⟨by omega, fun hm => by have := (hnx _ hm).1.lt; omega⟩
  have S2 := h.st.kp K3 (fun e => (h.ne _ e).1 rfl)
  refine ⟨⟨by simpa using S2.set 0 v2, ?_, fun x hx => ((hnx x hx).1.kp K3 (hnx x hx).2.2).kp (kp_setCell w2 B 0 v2 (fun k => k = B) rfl) (hnx x hx).2.1, hne2, fun hm => (hnx B hm).2.1 rfl⟩, ?_, ?_⟩
  · refine ownsRow_setCell_other ?_ (fun e => (hne2 B e).1 rfl) _
    simpa using O2
  · rcases L2 with e2 | e2
    · exact .inl e2
    · exact .inr ⟨_, e2, by omega⟩
  · exact (K3.mono (G := fun k => k = B ∨ v.ownBlock = some k) (fun _ _ h => .inr h)).trans (kp_setCell w2 B 0 v2 (fun k => k = B) rfl) (fun _ _ h => .inl h)

set_option maxHeartbeats 4000000 in
set_option maxRecDepth 100000 in
theorem push_any (c : Nat → Nat) (w : World) (base B : Nat) (v fv : Value) (L : List Nat) (b : Nat) (h : Pil c w base B v fv L) (hb : Tk c w b) (hbB : b ≠ B) (hbv : ∀ g, v.ownBlock = some g → g ≠ b) (hbase : base ≤ w.heap.size) (hL : L.length < 17592186044416) :
    Calls Try.prog 113 #[ptr B, .iface 116 (ptr b)] w fun e w' => e = .returned (.tuple #[]) ∧ ∃ v', Pushed c w w' base B v v' fv (L ++ [b]) := by
  have hst := h.st
  have h1 := h.st.cell 0
  simp at h1
  have hown := hid h.own
  have mT := is_tree b
  unfold ptr
  go_enter Try.func113, Try.ntmps113
  go_wp2_with (first
    | (at_builtin; refine wpList_append_any rfl (.tmp 16) (.tmp 18) 114 rfl base 116 (.pointer none) 1 8 Try.underlying114 Try.info116b rfl (by decide) v L.length (L.map ptr) rfl (hown.out.alloc _) (some ⟨w.heap.size, 0, none⟩) 1 1 [ptr b] (by first | rfl | simp [Act.eval]) (fun h => by cases h) rfl (fun ad e j u hu => by (cases e; rw [add_z]; exact ((St.new 116 w #[ptr b]).cell j).trans (by simpa using hu))) (fun u hu => by (simp at hu; subst hu; rfl)) (by unfold maxLen; omega) (by omega) (by simp; omega) ?_; intro v2 w2 O2 K2 L2; obtain ⟨g2, cap2, hv2⟩ := own_slice O2; subst hv2; have S2 := (hst.kp (Kp.alloc (Kp.refl (fun _ => False) w) _) (fun h => h)).kp K2 (fun e => (h.ne _ e).1 rfl); have C2 := S2.cell 0; have F2 := S2.frozen 0; simp at C2))
  go_end0
  refine ⟨rfl, _, push_parts c w w2 base B v _ fv L b _ h hb hbB hbv O2 K2 L2⟩

set_option maxHeartbeats 4000000 in
set_option maxRecDepth 100000 in
theorem hpush_any (c : Nat → Nat) (w : World) (base B : Nat) (v f : Value) (L : List Nat) (b : Nat) (h : Pil c w base B v (fvo f) L) (hx : Hx (kf c L) 0 L.length) (hb : Tk c w b) (hbB : b ≠ B) (hbv : ∀ g, v.ownBlock = some g → g ≠ b) (hbase : base ≤ w.heap.size) (hL : L.length < 17592186044416) :
    Calls Try.prog 76 #[.iface 112 (ptr B), .iface 116 (ptr b)] w fun e w' => e = .returned (.tuple #[]) ∧ ∃ v' L', L'.Perm (b :: L) ∧ Pushed c w w' base B v v' (fvo f) L' ∧ Hx (kf c L') 0 L'.length := by
  have mN := find_len B
  have mP := find_push B
  have HP := hid (push_any c w base B v (fvo f) L b h hb hbB hbv hbase hL)
  have hu : Hid (Hu (kf c (L ++ [b])) (L.length + 1) L.length) := Hu.of (hx.congr (fun k hk => by simp [kf, List.getD, List.getElem?_append_left hk]))
  go_enter Try.func76, Try.ntmps76
  go_wp2_with (first
    | (go_at_call 113; refine HP.out.mono ?_; rintro _ w1 ⟨rfl, v1, P1⟩; have HN : Hid (Calls Try.prog 73 #[ptr B] w1 fun e w' => e = .returned (.int .i64 ((L.length : Int) + 1)) ∧ w1 = w') := (len_any c w1 base B v1 (fvo f) (L ++ [b]) P1.pil).mono (fun _ _ h => ⟨by rw [h.1]; simp, h.2.symm⟩); have HU := hid (up_any c w1 base B v1 f (L ++ [b]) P1.pil L.length (by simp) (by rw [show (L ++ [b]).length = L.length + 1 by simp]; exact hu.out)))
    | (go_at_call 73; refine HN.out.mono ?_; rintro _ _ ⟨rfl, rfl⟩)
    | (go_at_call 90; refine HU.out.mono ?_; rintro _ w2 ⟨rfl, L2, M2, P2, X2, K2⟩))
  go_end0
  refine ⟨rfl, v1, L2, M2.perm.trans (List.perm_append_singleton _ _), ⟨P2, P1.own, P1.kp.trans K2 (fun i hi e => ?_)⟩, by rw [M2.len]; exact X2⟩
  rcases P1.own with e1 | ⟨g, e1, hg⟩
  · exact .inr (e1 ▸ e)
  · rw [e1] at e
    obtain rfl : g = i := by simpa using e
    omega
end Go.Proofs.Ythpocbpleffdpaa
