/- The document's with: a number into a row that rises. -/
import Derived.Test.YthpocbpleffdpaaNb
namespace Go.Proofs.Ythpocbpleffdpaa
open Go.RowKit
set_option linter.unusedVariables false
set_option linter.unusedSimpArgs false
set_option maxRecDepth 100000
def iL (L : List Nat) : List Int := L.map (fun v : Nat => (v : Int))
theorem iL_len (L : List Nat) : (iL L).length = L.length := by simp [iL]
theorem iL_get (L : List Nat) (i : Nat) : (iL L).getD i 0 = ((L.getD i 0 : Nat) : Int) := by
  unfold iL
  rw [List.getD_eq_getElem?_getD, List.getD_eq_getElem?_getD, List.getElem?_map]
  cases L[i]? <;> simp
/-- A row of numbers to be read. -/
def Rd35 (w : World) (ao : Option Addr) (c : Nat) (L : List Nat) : Prop := (ao = none ∧ L = [] ∧ c = 0) ∨ ∃ b off, ao = some ⟨b, off, none⟩ ∧ Src .u64 w ao (iL L) ∧ L.length ≤ c
theorem Rd35.kp {w w' : World} {ao : Option Addr} {c : Nat} {L : List Nat} (h : Rd35 w ao c L) (k : Kp (fun _ => False) w w') : Rd35 w' ao c L := by
  rcases h with h | ⟨b, off, e, h, hc⟩
  · exact .inl h
  · exact .inr ⟨b, off, e, h.kp k (fun _ _ _ x => x), hc⟩
theorem ins_at {x : Nat} : ∀ {L : List Nat} {k : Nat}, k ≤ L.length → (∀ j, j < k → L.getD j 0 ≤ x) → (∀ j, k ≤ j → j < L.length → x < L.getD j 0) → Pm.ins x L = L.take k ++ x :: L.drop k
  | [], k, hk, _, _ => by simp at hk; subst hk; rfl
  | a :: t, 0, hk, _, h2 => by
    have h3 := h2 0 (by omega) (by simp)
    simp at h3
    unfold Pm.ins
    rw [if_neg (by omega)]
    rfl
  | a :: t, k + 1, hk, h1, h2 => by
    have h3 := h1 0 (by omega)
    simp at h3
    unfold Pm.ins
    rw [if_pos h3, ins_at (k := k) (by simpa using hk) (fun j hj => by have := h1 (j + 1) (by omega); simpa using this) (fun j hj hl => by have := h2 (j + 1) (by omega) (by simpa using hl); simpa using this)]
    rfl
theorem srt_getD {L : List Nat} (h : Pm.Srt L) {i j : Nat} (hij : i ≤ j) (hj : j < L.length) : L.getD i 0 ≤ L.getD j 0 := by
  rw [List.getD_eq_getElem?_getD, List.getD_eq_getElem?_getD, List.getElem?_eq_getElem (by omega), List.getElem?_eq_getElem hj]
  rcases Nat.lt_or_ge i j with h1 | h1
  · exact List.pairwise_iff_getElem.1 h i j (by omega) hj h1
  · have : i = j := by omega
    subst this
    exact Nat.le_refl _
theorem iL_at {L : List Nat} {k x : Nat} (e : Pm.ins x L = L.take k ++ x :: L.drop k) : iL (Pm.ins x L) = (([] ++ (iL L).take k) ++ [(x : Int)]) ++ (iL L).drop k := by
  rw [e]
  unfold iL
  simp [List.map_take, List.map_drop]
theorem own_ne {w : World} {base : Nat} {v : Value} {xs : List Int} (h : OwnI .u64 35 w base v xs) (hx : xs ≠ []) : ∃ g c tl, v = .slice (some ⟨g, 0, none⟩) xs.length c ∧ base ≤ g ∧ Rw .u64 35 w g (xs ++ tl) ∧ xs.length ≤ c ∧ c ≤ maxLen := by
  rcases h with ⟨_, e⟩ | ⟨g, c, tl, e, hb, hr, hc, hm⟩
  · exact absurd e hx
  · exact ⟨g, c, tl, e, hb, hr, by rw [← hc, List.length_append]; omega, hm⟩
set_option maxHeartbeats 8000000 in
theorem with_some (b off cap n : Nat) (L : List Nat) (x : Nat) (w : World) (hn : n = L.length) (hl : n ≤ 1000000) (hcap : n ≤ cap) (hS : Pm.Srt L) (hs : Src .u64 w (some ⟨b, off, none⟩) (iL L)) :
    Calls Try.prog 53 #[.slice (some ⟨b, off, none⟩) n cap, .int .u64 (x : Int)] w fun e w' => ∃ g c tl, e = .returned (.slice (some ⟨g, 0, none⟩) (n + 1) c) ∧ w.heap.size ≤ g ∧ Rw .u64 35 w' g (iL (Pm.ins x L) ++ tl) ∧ n + 1 ≤ c ∧ c ≤ maxLen ∧ Below w.heap.size w w' := by
  have HS := hid hs
  have HN := hid hn
  have HSR := hid hS
  clear hs hn hS
  go_enter Try.func53, Try.ntmps53
  go_wp2_with fail
  go_loopw [5] (fun iv wr => ∃ k : Nat, k ≤ n ∧ iv = .int .i64 k ∧ w = wr ∧ Hid (∀ j, k ≤ j → j < L.length → x < L.getD j 0)) (fun i _ => (intOf i).toNat)
  case atStart => exact ⟨n, Nat.le_refl _, rfl, rfl, fun j h1 h2 => by have := HN.out; omega⟩
  case round =>
    obtain ⟨k, hk, rfl, rfl, HG⟩ := hrel
    by_cases hgo : 0 < k ∧ x < L.getD (k - 1) 0
    · obtain ⟨k, rfl⟩ : ∃ q, k = q + 1 := ⟨k - 1, by omega⟩
      have c1 := HS.out.at k (by rw [iL_len]; have := HN.out; omega)
      rw [iL_get] at c1
      have hx := hgo.2
      simp only [Nat.add_sub_cancel] at hx
      have HG2 : Hid (∀ j, k ≤ j → j < L.length → x < L.getD j 0) := fun j h1 h2 => by
        by_cases e : j = k
        · subst e; exact hx
        · exact HG.out j (by omega) h2
      generalize L.getD k 0 = y at *
      have hk1 : ((k + 1 : Nat) : Int) - 1 = (k : Int) := by omega
      clear hgo HG
      go_wp2_with fail
      go_roundw
      case rel => exact ⟨k, by omega, by go_num, by first | rfl | trivial, HG2.out⟩
      case measure => simp [intOf]
    · have HI : Hid (Pm.ins x L = L.take k ++ x :: L.drop k) := by
        refine ins_at (by have := HN.out; omega) (fun j hj => ?_) HG.out
        have h1 : ¬ x < L.getD (k - 1) 0 := fun h => hgo ⟨by omega, h⟩
        have h2 := srt_getD HSR.out (i := j) (j := k - 1) (by omega) (by have := HN.out; omega)
        omega
      have HIL : Hid (iL (Pm.ins x L) = (([] ++ (iL L).take k) ++ [(x : Int)]) ++ (iL L).drop k) := iL_at HI.out
      have S1 : Hid (Src .u64 w (some ⟨b, off, none⟩) ((iL L).take k)) := HS.out.take k
      have S2 : Hid (Src .u64 w (some (if cap = k then ⟨b, off, none⟩ else ⟨b, off + k, none⟩)) ((iL L).drop k)) := by
        by_cases e : cap = k
        · rw [if_pos e]
          have : (iL L).drop k = [] := List.drop_eq_nil_of_le (by rw [iL_len]; have := HN.out; omega)
          rw [Hid, this]
          exact Src.nil _ _ _
        · rw [if_neg e]
          exact HS.out.drop k
      have L1 : Hid (((iL L).take k).length = k) := by rw [Hid, List.length_take, iL_len]; have := HN.out; omega
      have L2 : Hid (((iL L).drop k).length = n - k) := by rw [Hid, List.length_drop, iL_len, HN.out]
      have B1 : Hid (([] : List Int).length + ((iL L).take k).length ≤ 17592186044416) := by have := L1.out; show _ ≤ _; rw [this]; simp only [List.length_nil]; omega
      have B2 : Hid (([] ++ (iL L).take k).length + [(x : Int)].length ≤ 17592186044416) := by have := L1.out; show _ ≤ _; simp only [List.length_append, List.length_nil, List.length_cons, this]; omega
      have B3 : Hid ((([] ++ (iL L).take k) ++ [(x : Int)]).length + ((iL L).drop k).length ≤ 17592186044416) := by have h1 := L1.out; have h2 := L2.out; show _ ≤ _; simp only [List.length_append, List.length_nil, List.length_cons, h1, h2]; omega
      have hkn : k ≤ cap := by omega
      generalize (iL L).take k = A at *
      generalize (iL L).drop k = D at *
      have HC : Hid (¬ (0 < k ∧ x < L.getD (k - 1) 0)) := hgo
      have hc0 : (∃ q y, k = q + 1 ∧ ¬ x < y ∧ w.cell? ⟨b, off + q, none⟩ = some (.int .u64 ((y : Nat) : Int))) ∨ k = 0 := by
        by_cases h0 : k = 0
        · exact .inr h0
        · left
          have c1 := HS.out.at (k - 1) (by rw [iL_len]; have := HN.out; omega)
          rw [iL_get] at c1
          exact ⟨k - 1, _, by omega, fun h => hgo ⟨by omega, h⟩, c1⟩
      clear hgo HG HI HSR HC
      have FIN : Hid (∀ v3 w3, OwnI .u64 35 w3 w.heap.size v3 ((([] ++ A) ++ [(x : Int)]) ++ D) → Below w.heap.size w w3 → ∃ g c tl, Ending.returned v3 = .returned (.slice (some ⟨g, 0, none⟩) (n + 1) c) ∧ w.heap.size ≤ g ∧ Rw .u64 35 w3 g (iL (Pm.ins x L) ++ tl) ∧ n + 1 ≤ c ∧ c ≤ maxLen ∧ Below w.heap.size w w3) := by
        intro v3 w3 o3 b3
        rw [← HIL.out] at o3
        obtain ⟨g, c, tl, rfl, h1, h2, h3, h4⟩ := own_ne o3 (fun e => by have := congrArg List.length e; rw [iL_len, (Pm.ins_perm _ _).length_eq] at this; simp at this)
        rw [iL_len, (Pm.ins_perm _ _).length_eq, List.length_cons, ← HN.out] at h3 ⊢
        exact ⟨g, c, tl, rfl, h1, h2, h3, h4, b3⟩
      clear HIL HN
      by_cases hck : cap = k
      · rw [if_pos hck] at S2
        obtain rfl : k = n := by omega
        subst hck
        rw [Nat.sub_self] at L2
        rcases hc0 with ⟨q, y, rfl, hy, cq⟩ | rfl
        · have hk1 : ((q + 1 : Nat) : Int) - 1 = (q : Int) := by omega
          have hyd : decide ((x : Int) < (y : Int)) = false := by simp; omega
          have hyd2 : decide (x < y) = false := by simp; omega
          go_wp2_with (first
        | (at_builtin; refine wpList_append_i 27 35 8 Try.underlying27 info35 (by decide) rfl (.tmp 22) (.tmp 25) rfl w.heap.size (.slice none 0 0) [] rfl (.inl ⟨rfl, rfl⟩) _ _ _ A rfl L1.out (fun e => by cases e) S1.out B1.out (Nat.le_refl _) ?_; intro v1 w1 o1 q1 n1 b1; have O1 := hid o1; have BB1 := hid b1; have S21 := hid (S2.out.below b1); clear o1 q1 n1 b1)
        | (at_builtin; refine wpList_append_i 27 35 8 Try.underlying27 info35 (by decide) rfl (.tmp 26) (.tmp 28) rfl w.heap.size v1 ([] ++ A) rfl (O1.out.below ((Below.refl _ _).alloc (Nat.le_refl _) _)) _ _ _ [(x : Int)] rfl rfl (fun e => by cases e) (row_src (tl := []) (Rw.new .u64 35 w1 [(x : Int)])) B2.out (by have := BB1.out.size; rw [World.size_alloc]; omega) ?_; intro v2 w2 o2 q2 n2 b2; have O2 := hid o2; have BB2 := hid ((BB1.out.alloc BB1.out.size _).trans b2); clear o2 q2 n2 b2)
        | (at_builtin; refine wpList_append_i 27 35 8 Try.underlying27 info35 (by decide) rfl (.tmp 30) (.tmp 33) rfl w.heap.size v2 (([] ++ A) ++ [(x : Int)]) rfl O2.out _ _ _ D rfl L2.out (fun e => by cases e) (S2.out.below BB2.out) B3.out BB2.out.size ?_; intro v3 w3 o3 q3 n3 b3; have O3 := hid o3; have BB3 := hid (BB2.out.trans b3); clear o3 q3 n3 b3))
          go_ret
          exact FIN.out _ _ O3.out BB3.out
        · go_wp2_with (first
        | (at_builtin; refine wpList_append_i 27 35 8 Try.underlying27 info35 (by decide) rfl (.tmp 22) (.tmp 25) rfl w.heap.size (.slice none 0 0) [] rfl (.inl ⟨rfl, rfl⟩) _ _ _ A rfl L1.out (fun e => by cases e) S1.out B1.out (Nat.le_refl _) ?_; intro v1 w1 o1 q1 n1 b1; have O1 := hid o1; have BB1 := hid b1; have S21 := hid (S2.out.below b1); clear o1 q1 n1 b1)
        | (at_builtin; refine wpList_append_i 27 35 8 Try.underlying27 info35 (by decide) rfl (.tmp 26) (.tmp 28) rfl w.heap.size v1 ([] ++ A) rfl (O1.out.below ((Below.refl _ _).alloc (Nat.le_refl _) _)) _ _ _ [(x : Int)] rfl rfl (fun e => by cases e) (row_src (tl := []) (Rw.new .u64 35 w1 [(x : Int)])) B2.out (by have := BB1.out.size; rw [World.size_alloc]; omega) ?_; intro v2 w2 o2 q2 n2 b2; have O2 := hid o2; have BB2 := hid ((BB1.out.alloc BB1.out.size _).trans b2); clear o2 q2 n2 b2)
        | (at_builtin; refine wpList_append_i 27 35 8 Try.underlying27 info35 (by decide) rfl (.tmp 30) (.tmp 33) rfl w.heap.size v2 (([] ++ A) ++ [(x : Int)]) rfl O2.out _ _ _ D rfl L2.out (fun e => by cases e) (S2.out.below BB2.out) B3.out BB2.out.size ?_; intro v3 w3 o3 q3 n3 b3; have O3 := hid o3; have BB3 := hid (BB2.out.trans b3); clear o3 q3 n3 b3))
          go_ret
          exact FIN.out _ _ O3.out BB3.out
      · rw [if_neg hck] at S2
        rcases hc0 with ⟨q, y, rfl, hy, cq⟩ | rfl
        · have hk1 : ((q + 1 : Nat) : Int) - 1 = (q : Int) := by omega
          have hyd : decide ((x : Int) < (y : Int)) = false := by simp; omega
          have hyd2 : decide (x < y) = false := by simp; omega
          go_wp2_with (first
        | (at_builtin; refine wpList_append_i 27 35 8 Try.underlying27 info35 (by decide) rfl (.tmp 22) (.tmp 25) rfl w.heap.size (.slice none 0 0) [] rfl (.inl ⟨rfl, rfl⟩) _ _ _ A rfl L1.out (fun e => by cases e) S1.out B1.out (Nat.le_refl _) ?_; intro v1 w1 o1 q1 n1 b1; have O1 := hid o1; have BB1 := hid b1; have S21 := hid (S2.out.below b1); clear o1 q1 n1 b1)
        | (at_builtin; refine wpList_append_i 27 35 8 Try.underlying27 info35 (by decide) rfl (.tmp 26) (.tmp 28) rfl w.heap.size v1 ([] ++ A) rfl (O1.out.below ((Below.refl _ _).alloc (Nat.le_refl _) _)) _ _ _ [(x : Int)] rfl rfl (fun e => by cases e) (row_src (tl := []) (Rw.new .u64 35 w1 [(x : Int)])) B2.out (by have := BB1.out.size; rw [World.size_alloc]; omega) ?_; intro v2 w2 o2 q2 n2 b2; have O2 := hid o2; have BB2 := hid ((BB1.out.alloc BB1.out.size _).trans b2); clear o2 q2 n2 b2)
        | (at_builtin; refine wpList_append_i 27 35 8 Try.underlying27 info35 (by decide) rfl (.tmp 30) (.tmp 33) rfl w.heap.size v2 (([] ++ A) ++ [(x : Int)]) rfl O2.out _ _ _ D rfl L2.out (fun e => by cases e) (S2.out.below BB2.out) B3.out BB2.out.size ?_; intro v3 w3 o3 q3 n3 b3; have O3 := hid o3; have BB3 := hid (BB2.out.trans b3); clear o3 q3 n3 b3))
          go_ret
          exact FIN.out _ _ O3.out BB3.out
        · go_wp2_with (first
        | (at_builtin; refine wpList_append_i 27 35 8 Try.underlying27 info35 (by decide) rfl (.tmp 22) (.tmp 25) rfl w.heap.size (.slice none 0 0) [] rfl (.inl ⟨rfl, rfl⟩) _ _ _ A rfl L1.out (fun e => by cases e) S1.out B1.out (Nat.le_refl _) ?_; intro v1 w1 o1 q1 n1 b1; have O1 := hid o1; have BB1 := hid b1; have S21 := hid (S2.out.below b1); clear o1 q1 n1 b1)
        | (at_builtin; refine wpList_append_i 27 35 8 Try.underlying27 info35 (by decide) rfl (.tmp 26) (.tmp 28) rfl w.heap.size v1 ([] ++ A) rfl (O1.out.below ((Below.refl _ _).alloc (Nat.le_refl _) _)) _ _ _ [(x : Int)] rfl rfl (fun e => by cases e) (row_src (tl := []) (Rw.new .u64 35 w1 [(x : Int)])) B2.out (by have := BB1.out.size; rw [World.size_alloc]; omega) ?_; intro v2 w2 o2 q2 n2 b2; have O2 := hid o2; have BB2 := hid ((BB1.out.alloc BB1.out.size _).trans b2); clear o2 q2 n2 b2)
        | (at_builtin; refine wpList_append_i 27 35 8 Try.underlying27 info35 (by decide) rfl (.tmp 30) (.tmp 33) rfl w.heap.size v2 (([] ++ A) ++ [(x : Int)]) rfl O2.out _ _ _ D rfl L2.out (fun e => by cases e) (S2.out.below BB2.out) B3.out BB2.out.size ?_; intro v3 w3 o3 q3 n3 b3; have O3 := hid o3; have BB3 := hid (BB2.out.trans b3); clear o3 q3 n3 b3))
          go_ret
          exact FIN.out _ _ O3.out BB3.out
set_option maxHeartbeats 8000000 in
theorem with_none (x : Nat) (w : World) : Calls Try.prog 53 #[.slice none 0 0, .int .u64 (x : Int)] w fun e w' => ∃ g c tl, e = .returned (.slice (some ⟨g, 0, none⟩) 1 c) ∧ w.heap.size ≤ g ∧ Rw .u64 35 w' g (iL [x] ++ tl) ∧ 1 ≤ c ∧ c ≤ maxLen ∧ Below w.heap.size w w' := by
  go_enter Try.func53, Try.ntmps53
  go_wp2_with fail
  go_loopw [5] (fun iv wr => iv = .int .i64 0 ∧ w = wr) (fun i _ => 0)
  case atStart => exact ⟨rfl, rfl⟩
  case round =>
    obtain ⟨rfl, rfl⟩ := hrel
    go_wp2_with (first
        | (at_builtin; refine wpList_append_i 27 35 8 Try.underlying27 info35 (by decide) rfl (.tmp 22) (.tmp 25) rfl w.heap.size (.slice none 0 0) [] rfl (.inl ⟨rfl, rfl⟩) _ _ _ [] rfl rfl (fun _ => rfl) (Src.nil _ _ _) (by decide) (Nat.le_refl _) ?_; intro v1 w1 o1 q1 n1 b1; have O1 := hid o1; have BB1 := hid b1; clear o1 q1 n1 b1)
        | (at_builtin; refine wpList_append_i 27 35 8 Try.underlying27 info35 (by decide) rfl (.tmp 26) (.tmp 28) rfl w.heap.size v1 ([] ++ ([] : List Int)) rfl (O1.out.below ((Below.refl _ _).alloc (Nat.le_refl _) _)) _ _ _ [(x : Int)] rfl rfl (fun e => by cases e) (row_src (tl := []) (Rw.new .u64 35 w1 [(x : Int)])) (by simp) (by have := BB1.out.size; rw [World.size_alloc]; omega) ?_; intro v2 w2 o2 q2 n2 b2; have O2 := hid o2; have BB2 := hid ((BB1.out.alloc BB1.out.size _).trans b2); clear o2 q2 n2 b2)
        | (at_builtin; refine wpList_append_i 27 35 8 Try.underlying27 info35 (by decide) rfl (.tmp 30) (.tmp 33) rfl w.heap.size v2 (([] ++ ([] : List Int)) ++ [(x : Int)]) rfl O2.out _ _ _ [] rfl rfl (fun _ => rfl) (Src.nil _ _ _) (by simp) BB2.out.size ?_; intro v3 w3 o3 q3 n3 b3; have O3 := hid o3; have BB3 := hid (BB2.out.trans b3); clear o3 q3 n3 b3))
    go_ret
    obtain ⟨g, c, tl, rfl, h1, h2, h3, h4⟩ := own_ne O3.out (by simp)
    exact ⟨g, c, tl, rfl, h1, h2, h3, h4, BB3.out⟩
theorem with_any (w : World) (ao : Option Addr) (c : Nat) (L : List Nat) (x : Nat) (hl : L.length ≤ 1000000) (hS : Pm.Srt L) (h : Rd35 w ao c L) :
    Calls Try.prog 53 #[.slice ao L.length c, .int .u64 (x : Int)] w fun e w' => ∃ a' c', e = .returned (.slice a' (Pm.ins x L).length c') ∧ Rd35 w' a' c' (Pm.ins x L) ∧ Kp (fun _ => False) w w' := by
  have e : (Pm.ins x L).length = L.length + 1 := by rw [(Pm.ins_perm _ _).length_eq]; rfl
  rw [e]
  rcases h with ⟨rfl, rfl, rfl⟩ | ⟨b, off, rfl, hs, hc⟩
  · refine (with_none x w).mono ?_
    rintro e w' ⟨g, c, tl, rfl, h1, h2, h3, h4, h5⟩
    exact ⟨some ⟨g, 0, none⟩, c, rfl, .inr ⟨g, 0, rfl, row_src h2, h3⟩, Kp.of_below h5⟩
  · refine (with_some b off c L.length L x w rfl hl hc hS hs).mono ?_
    rintro e' w' ⟨g, c, tl, rfl, h1, h2, h3, h4, h5⟩
    exact ⟨some ⟨g, 0, none⟩, c, rfl, .inr ⟨g, 0, rfl, row_src h2, by omega⟩, Kp.of_below h5⟩
end Go.Proofs.Ythpocbpleffdpaa
