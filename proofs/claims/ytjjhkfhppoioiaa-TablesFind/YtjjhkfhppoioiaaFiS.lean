/- tables: found (Sn): the first one of a name. -/
import Derived.Test.YtjjhkfhppoioiaaKdS
import Derived.BigQuiet
import Derived.Deep.RegionHeld3
namespace Go.Proofs.Ytjjhkfhppoioiaa
open Go.RowKit
set_option linter.unusedVariables false
/-- The place of the first one of a name. -/
def fsts (l : List Sn) (s : ByteArray) : Option Nat := l.findIdx? (fun e => e.nm.toList == s.toList)
def fixs (l : List Sn) (s : ByteArray) : Int := match fsts l s with | some k => (k : Int) | none => -1
def fiys (l : List Sn) (s : ByteArray) : Int := match fsts l s with | some k => (k : Int) | none => 0
def fibs (l : List Sn) (s : ByteArray) : Bool := (fsts l s).isSome
theorem fsts_some {l : List Sn} {s : ByteArray} {k : Nat} (hk : k < l.length) (h1 : ((l.getD k zSn).nm.toList == s.toList) = true) (h2 : ∀ j, j < k → ((l.getD j zSn).nm.toList == s.toList) = false) : fsts l s = some k := by
  unfold fsts
  rw [List.findIdx?_eq_some_iff_getElem]
  refine ⟨hk, ?_, fun j hj => ?_⟩
  · rwa [getD_lt l k zSn hk] at h1
  · have := h2 j hj
    rw [getD_lt l j zSn (by omega)] at this
    simpa using this
theorem fsts_none {l : List Sn} {s : ByteArray} (h2 : ∀ j, j < l.length → ((l.getD j zSn).nm.toList == s.toList) = false) : fsts l s = none := by
  unfold fsts
  rw [List.findIdx?_eq_none_iff]
  intro e he
  obtain ⟨j, hj, rfl⟩ := List.getElem_of_mem he
  have := h2 j hj
  rwa [getD_lt l j zSn hj] at this
set_option maxRecDepth 100000 in
set_option maxHeartbeats 4000000 in
theorem found1_s (P : Nat) (e : Sn) (s : ByteArray) (w : World) (hk : St 61 w P kcs) (hs : St 9 w (P + 1) #[.string s]) :
    Calls Try.prog 59 #[.agg e.cs, .pointer (some ⟨P, 0, none⟩), .pointer (some ⟨P + 1, 0, none⟩)] w fun x w' => x = .returned (.bool (e.nm.toList == s.toList)) ∧ Below w.heap.size w w' := by
  have hkl := hk.lt
  have hsl := hs.lt
  have kA : ∀ F, Kp F w (w.alloc (.cells e.cs 25)) := fun F => (Kp.refl _ _).alloc _
  have c1 := (hk.kp (kA (fun _ => False)) (fun x => x)).cell 1
  change (w.alloc (.cells e.cs 25)).cell? _ = some (.func (.func 38) #[] #[]) at c1
  have c2 := (hs.kp (kA (fun _ => False)) (fun x => x)).cell 0
  change (w.alloc (.cells e.cs 25)).cell? _ = some (.string s) at c2
  have b0 : Below w.heap.size w (w.alloc (.cells e.cs 25)) := (Below.refl _ _).alloc (Nat.le_refl _) _
  have z0 : (w.alloc (.cells e.cs 25)).heap.size = w.heap.size + 1 := World.size_alloc _ _
  have n0 := Sn.B.new w e
  have HN : Hid (∀ W, Calls Try.prog 38 #[.agg e.cs] W fun x w' => x = .returned (.string e.nm) ∧ Below W.heap.size W w') := fun W => name_s e W
  obtain ⟨nm, a, bb, c⟩ := e
  simp only [Sn.cs] at *
  obtain ⟨R, hR⟩ : ∃ R, R = w.heap.size := ⟨_, rfl⟩
  go_enter Try.func59, Try.ntmps59
  go_wp2_with fail
  rw [← hR] at z0 b0 hkl hsl n0 ⊢
  have HR := hid hR
  clear hR
  have x0 := n0.cell 0
  have x1 := n0.cell 1
  have x2 := n0.cell 2
  have x3 := n0.cell 3
  
  simp only [Sn.cs, List.getElem?_toArray, List.getElem?_cons_zero, List.getElem?_cons_succ] at x0 x1 x2 x3
  have HB0 := hid b0
  clear kA hk hs n0 b0
  generalize w.alloc (.cells #[.string nm, .int .i64 a, .int .i64 bb, .int .i64 c] 25) = W at *
  have cc : (fun U : World => U.cell? ⟨P, 1, none⟩ = some (.func (.func 38) #[] #[]) ∧ U.cell? ⟨P + 1, 0, none⟩ = some (.string s) ∧ U.cell? ⟨R, 0, none⟩ = some (.string nm) ∧ U.cell? ⟨R, 1, none⟩ = some (.int .i64 a) ∧ U.cell? ⟨R, 2, none⟩ = some (.int .i64 bb) ∧ U.cell? ⟨R, 3, none⟩ = some (.int .i64 c)) W.drew := ⟨c1, c2, x0, x1, x2, x3⟩
  have hkeep : ∀ U, Below W.heap.size W U → (fun U : World => U.cell? ⟨P, 1, none⟩ = some (.func (.func 38) #[] #[]) ∧ U.cell? ⟨P + 1, 0, none⟩ = some (.string s) ∧ U.cell? ⟨R, 0, none⟩ = some (.string nm) ∧ U.cell? ⟨R, 1, none⟩ = some (.int .i64 a) ∧ U.cell? ⟨R, 2, none⟩ = some (.int .i64 bb) ∧ U.cell? ⟨R, 3, none⟩ = some (.int .i64 c)) U := fun U h => ⟨by rw [h.cell (by show P < _; omega)]; exact c1, by rw [h.cell (by show P + 1 < _; omega)]; exact c2, by rw [h.cell (by show R < _; omega)]; exact x0, by rw [h.cell (by show R < _; omega)]; exact x1, by rw [h.cell (by show R < _; omega)]; exact x2, by rw [h.cell (by show R < _; omega)]; exact x3⟩
  have HKE := hid hkeep
  clear hkeep c1 c2 x0 x1 x2 x3
  go_region_held3 (fun U : World => U.cell? ⟨P, 1, none⟩ = some (.func (.func 38) #[] #[]) ∧ U.cell? ⟨P + 1, 0, none⟩ = some (.string s) ∧ U.cell? ⟨R, 0, none⟩ = some (.string nm) ∧ U.cell? ⟨R, 1, none⟩ = some (.int .i64 a) ∧ U.cell? ⟨R, 2, none⟩ = some (.int .i64 bb) ∧ U.cell? ⟨R, 3, none⟩ = some (.int .i64 c)) (first | exact cc | exact cd) (first | (go_at_call 38; refine (HN.out _).mono ?_; rintro x w1 ⟨rfl, b1⟩; have B1 : Hid (Below W.heap.size W w1) := ⟨b1.os, b1.tape, b1.output, b1.size, b1.block⟩; have cd := HKE.out w1 B1.out; clear b1))
  go_wp2_with fail
  go_ret
  exact ⟨rfl, by rw [← HR.out]; exact HB0.out.trans (B1.out.mono (by omega))⟩
set_option maxRecDepth 100000 in
set_option maxHeartbeats 4000000 in
theorem idx_s (P : Nat) (l : List Sn) (s : ByteArray) (ao : Option Addr) (n cap : Nat) (w : World) (hk : St 61 w P kcs) (hs : St 9 w (P + 1) #[.string s]) (hn : n = l.length) (hcap : n ≤ cap) (hnb : n ≤ 1000) (hS : Srcs w ao l) :
    Calls Try.prog 58 #[.slice ao n cap, .func (.func 59) #[] #[.pointer (some ⟨P, 0, none⟩), .pointer (some ⟨P + 1, 0, none⟩)]] w fun e w' => e = .returned (.int .i64 (fixs l s)) ∧ Below w.heap.size w w' := by
  have hkl := hk.lt
  have hsl := hs.lt
  have HC : Hid (∀ (e : Sn) (W : World), Below w.heap.size w W → Calls Try.prog 59 #[.agg e.cs, .pointer (some ⟨P, 0, none⟩), .pointer (some ⟨P + 1, 0, none⟩)] W fun x w' => x = .returned (.bool (e.nm.toList == s.toList)) ∧ Below W.heap.size W w') := fun e W h => found1_s P e s W (hk.below h hkl) (hs.below h hsl)
  have HN := hid hn
  have HS := hid hS
  clear hk hs hn hS
  go_enter Try.func58, Try.ntmps58
  go_wp2_with fail
  go_loopw [8] (fun i wr => ∃ k : Nat, k ≤ n ∧ i = .int .i64 (k : Int) ∧ Below w.heap.size w wr ∧ ∀ j, j < k → ((l.getD j zSn).nm.toList == s.toList) = false) (fun i _ => n - (intOf i).toNat)
  case atStart => exact ⟨0, Nat.zero_le _, rfl, Below.refl _ _, fun j hj => by omega⟩
  case round =>
    obtain ⟨k, hkn, rfl, hb, hj⟩ := hrel
    have HB := hid hb
    have HJ := hid hj
    clear hb hj
    by_cases hlt : k < n
    · obtain ⟨gb, off, rfl, hgb, x0, x1, x2, x3⟩ := (HS.out.below HB.out).at (i := k) (by have := HN.out; omega)
      have HC2 := hid (HC.out (l.getD k zSn) wr HB.out)
      have HL : Hid (∀ q, q = ((l.getD k zSn).nm.toList == s.toList) → (q = true → fsts l s = some k) ∧ (q = false → ∀ j, j < k + 1 → ((l.getD j zSn).nm.toList == s.toList) = false)) := by
        rintro q rfl
        refine ⟨fun h => fsts_some (by have := HN.out; omega) h HJ.out, fun h j hj => ?_⟩
        by_cases e : j = k
        · rw [e]; exact h
        · exact HJ.out j (by omega)
      obtain ⟨e, he⟩ : ∃ e, e = l.getD k zSn := ⟨_, rfl⟩
      rw [← he] at x0 x1 x2 x3 HC2 HL
      obtain ⟨q, hq⟩ : ∃ q, q = (e.nm.toList == s.toList) := ⟨_, rfl⟩
      rw [← hq] at HC2 HL
      obtain ⟨h1, h2⟩ := HL.out q rfl
      have H1 := hid h1
      have H2 := hid h2
      clear h1 h2 HL hq he
      obtain ⟨nm, a, bb, c⟩ := e
      simp only [Sn.cs] at x0 x1 x2 x3 HC2
      cases q with
      | true =>
        go_wp2_with (first | (go_at_call 59; refine HC2.out.mono ?_; rintro e w1 ⟨rfl, b1⟩))
        go_ret
        have h1 := H1.out (by trivial)
        refine ⟨?_, HB.out.trans (b1.mono HB.out.size)⟩
        unfold fixs
        rw [h1]
        rfl
      | false =>
        go_wp2_with (first | (go_at_call 59; refine HC2.out.mono ?_; rintro e w1 ⟨rfl, b1⟩))
        go_roundw
        case rel => exact ⟨k + 1, by omega, by go_num, HB.out.trans (b1.mono HB.out.size), H2.out (by trivial)⟩
        case measure => simp [intOf]; omega
    · have hkk : k = n := by omega
      have HE : Hid (fsts l s = none) := fsts_none (by rw [← HN.out, ← hkk]; exact HJ.out)
      clear hkk
      go_wp2_with fail
      go_ret
      refine ⟨?_, HB.out⟩
      unfold fixs
      rw [HE.out]
      rfl
set_option maxRecDepth 100000 in
set_option maxHeartbeats 4000000 in
theorem Find_s (l : List Sn) (s : ByteArray) (ao : Option Addr) (n cap : Nat) (w : World) (hn : n = l.length) (hcap : n ≤ cap) (hnb : n ≤ 1000) (hS : Srcs w ao l) :
    Calls Try.prog 19 #[.slice ao n cap, .string s] w fun e w' => e = .returned (.tuple #[.int .i64 (fiys l s), .bool (fibs l s)]) ∧ Below w.heap.size w w' := by
  have HT : Hid (∀ W, Below w.heap.size w W → Calls Try.prog 33 #[.agg kcs, .slice ao n cap, .string s] W fun e w' => e = .returned (.tuple #[.int .i64 (fiys l s), .bool (fibs l s)]) ∧ Below W.heap.size W w') := by
    intro W hW
    obtain ⟨P, hP⟩ : ∃ P, P = W.heap.size := ⟨_, rfl⟩
    have HI := hid (fun U (hU : Below W.heap.size W U) h1 h2 => idx_s P l s ao n cap U h1 h2 hn hcap hnb ((hS.below hW).below hU))
    have HN := hid hn
    clear hS hn
    unfold kcs
    go_enter Try.func33, Try.ntmps33
    go_wp2_with fail
    have s1 : ∀ U, U = (W.alloc (.cells kcs 61)).alloc (.cells #[.string s] 9) → St 61 U P kcs ∧ St 9 U (P + 1) #[.string s] ∧ Below W.heap.size W U := by
      rintro U rfl
      have z1 : (W.alloc (.cells kcs 61)).heap.size = P + 1 := by rw [World.size_alloc, hP]
      refine ⟨?_, ?_, ((Below.refl _ _).alloc (Nat.le_refl _) _).alloc (by simp) _⟩
      · have : St 61 (W.alloc (.cells kcs 61)) P kcs := by rw [hP]; exact St.new 61 W _
        exact this.kp (F := fun _ => False) ((Kp.refl _ _).alloc _) (fun x => x)
      · rw [← z1]; exact St.new 9 _ _
    obtain ⟨t1, t2, t3⟩ := s1 _ rfl
    have T3 : Hid (Below P W ((W.alloc (.cells kcs 61)).alloc (.cells #[.string s] 9))) := by rw [hP]; exact t3
    have HPW := hid hP
    rw [← hP]
    refine (HI.out _ t3 t1 t2).mono ?_
    clear t1 t2 t3 s1 HI hP
    unfold kcs at T3
    have hxy : (fixs l s = -1 ∧ fiys l s = 0 ∧ fibs l s = false) ∨ ∃ k : Nat, fixs l s = (k : Int) ∧ fiys l s = (k : Int) ∧ fibs l s = true ∧ k ≤ 1000 := by
      unfold fixs fiys fibs
      cases hf : fsts l s with
      | none => exact Or.inl ⟨rfl, rfl, rfl⟩
      | some k =>
        refine Or.inr ⟨k, rfl, rfl, rfl, ?_⟩
        have := (List.findIdx?_eq_some_iff_getElem.1 hf).1
        have := HN.out
        omega
    rcases hxy with ⟨e1, e2, e3⟩ | ⟨k, e1, e2, e3, hk⟩
    · rw [e1]
      have E2 := hid e2
      have E3 := hid e3
      clear e1 e2 e3
      rintro e w1 ⟨rfl, b1⟩
      have B1 := hid b1
      clear b1
      go_wp2_with fail
      go_ret2
      refine ⟨?_, by rw [← HPW.out]; exact T3.out.trans (B1.out.mono (Nat.le_trans (Nat.le_of_eq HPW.out) T3.out.size))⟩
      rw [E2.out, E3.out]
      rfl
    · rw [e1]
      have E2 := hid e2
      have E3 := hid e3
      clear e1 e2 e3
      rintro e w1 ⟨rfl, b1⟩
      have B1 := hid b1
      clear b1
      go_wp2_with fail
      go_ret2
      refine ⟨?_, by rw [← HPW.out]; exact T3.out.trans (B1.out.mono (Nat.le_trans (Nat.le_of_eq HPW.out) T3.out.size))⟩
      rw [E2.out, E3.out]
      rfl
  clear hS hn
  go_enter Try.func19, Try.ntmps19
  go_wp2_with (first | (go_at_call 22; refine (kind_s _).mono ?_; rintro e w1 ⟨rfl, b1⟩) | (go_at_call 33; refine (HT.out w1 b1).mono ?_; rintro e w2 ⟨rfl, b2⟩))
  go_ret2
  exact ⟨rfl, b1.trans (b2.mono b1.size)⟩
/-- What a search from the end has come to. -/
def Bks (l : List Sn) (s : ByteArray) (k : Nat) (at_ : Int) (yes : Bool) : Prop :=
  (yes = false ∧ at_ = 0 ∧ ∀ i, k ≤ i → i < l.length → ((l.getD i zSn).nm.toList == s.toList) = false) ∨
  ∃ i : Nat, yes = true ∧ at_ = (i : Int) ∧ k ≤ i ∧ i < l.length ∧ ((l.getD i zSn).nm.toList == s.toList) = true ∧ ∀ j, k ≤ j → j < i → ((l.getD j zSn).nm.toList == s.toList) = false
theorem Bks.start (l : List Sn) (s : ByteArray) : Bks l s l.length 0 false := Or.inl ⟨rfl, rfl, fun i h1 h2 => by omega⟩
theorem Bks.hit {l : List Sn} {s : ByteArray} {k : Nat} {at_ : Int} {yes : Bool} (h : Bks l s (k + 1) at_ yes) (hk : k < l.length) (hm : ((l.getD k zSn).nm.toList == s.toList) = true) : Bks l s k (k : Int) true := Or.inr ⟨k, rfl, rfl, Nat.le_refl _, hk, hm, fun j h1 h2 => by omega⟩
theorem Bks.miss {l : List Sn} {s : ByteArray} {k : Nat} {at_ : Int} {yes : Bool} (h : Bks l s (k + 1) at_ yes) (hm : ((l.getD k zSn).nm.toList == s.toList) = false) : Bks l s k at_ yes := by
  rcases h with ⟨h1, h2, h3⟩ | ⟨i, h1, h2, h3, h4, h5, h6⟩
  · refine Or.inl ⟨h1, h2, fun i hi hl => ?_⟩
    by_cases e : i = k
    · rw [e]; exact hm
    · exact h3 i (by omega) hl
  · refine Or.inr ⟨i, h1, h2, by omega, h4, h5, fun j hj hl => ?_⟩
    by_cases e : j = k
    · rw [e]; exact hm
    · exact h6 j (by omega) hl
theorem Bks.fin {l : List Sn} {s : ByteArray} {at_ : Int} {yes : Bool} (h : Bks l s 0 at_ yes) : fiys l s = at_ ∧ fibs l s = yes := by
  unfold fiys fibs
  rcases h with ⟨h1, h2, h3⟩ | ⟨i, h1, h2, h3, h4, h5, h6⟩
  · rw [fsts_none (fun j hj => h3 j (by omega) hj), h1, h2]
    exact ⟨rfl, rfl⟩
  · rw [fsts_some h4 h5 (fun j hj => h6 j (by omega) hj), h1, h2]
    exact ⟨rfl, rfl⟩
end Go.Proofs.Ytjjhkfhppoioiaa
