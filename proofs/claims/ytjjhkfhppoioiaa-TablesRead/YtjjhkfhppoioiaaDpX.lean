/-
  TablesRead answers true for any width, bytes and number, and leaves what was there as it was: no conditions.
  The walk lies in the texts that are imported; here the arguments are opened and read again.
-/
import Derived.Test.YtjjhkfhppoioiaaKb
import Derived.Test.YtjjhkfhppoioiaaRows
import Derived.WalkKit
import Derived.ProofKit
import Derived.OpenShut
import Derived.ShutString
import Derived.ChangeOld
import Derived.Below
import Derived.Deep.Slices
import Derived.Test.YtjjhkfhppoioiaaKn
import Derived.Test.YtjjhkfhppoioiaaTqR
import Derived.Test.YtjjhkfhppoioiaaRzSx
import Derived.Test.YtjjhkfhppoioiaaRzRx
namespace Go.Proofs.Ytjjhkfhppoioiaa
open Go.ChangeShapes Go.WideShapes Go.ChangeAt Go.RowKit
set_option linter.unusedVariables false
/-- A slice of integers that came in: nil, or a row of cells that hold these numbers. -/
def IsRow (k : IntKind) (w : World) (a : Option Addr) (len cap : Nat) (zs : List Int) : Prop :=
  (a = none ∧ len = 0 ∧ cap = 0 ∧ zs = []) ∨
  ∃ x, a = some x ∧ len ≤ cap ∧ cap ≤ maxLen ∧ zs.length = cap ∧ (∀ i, i < zs.length → w.cell? (x.add i) = some (.int k (zs.getD i 0))) ∧ ∀ n ∈ zs, (Lit.int k n).wf = true
theorem wf_byt {zs : List Int} (h : ∀ n ∈ zs, (Lit.int .u8 n).wf = true) : Byt zs := by
  intro z hz
  have := bounds_u8 (h z hz)
  omega
/-- Bytes that came in. -/
structure Inb (w : World) (ao : Option Addr) (n c : Nat) (zs : List Int) : Prop where
  len : zs.length = n
  cap : n ≤ c
  max : c ≤ maxLen
  nil : ao = none → c = 0
  byt : Byt zs
  src : Src w ao zs
theorem IsRow.inb {w : World} {a0 : Option Addr} {len0 cap0 : Nat} {z0 : List Int} (w0 : IsRow .u8 w a0 len0 cap0 z0) : ∃ zs, Inb w a0 len0 cap0 zs := by
  rcases w0 with ⟨rfl, rfl, rfl, rfl⟩ | ⟨x, rfl, hl, hm, hz, hcell, hwz⟩
  · exact ⟨[], ⟨rfl, Nat.le_refl _, by decide, fun _ => rfl, fun z hz => by simp at hz, Src.nil _ _⟩⟩
  · have hlen : (z0.take len0).length = len0 := by simp; omega
    refine ⟨z0.take len0, ⟨hlen, hl, hm, (fun e => by cases e), wf_byt fun n hn => hwz n (List.mem_of_mem_take hn), ?_⟩⟩
    intro hp
    obtain ⟨b, off, spot⟩ := x
    have hc := hcell 0 (by omega)
    have hspot : spot = none := by simpa [Addr.add] using World.cell?_spot hc
    subst hspot
    refine ⟨b, off, rfl, fun i hi => ?_⟩
    have hi2 := hcell i (by omega)
    rw [add_o] at hi2
    rw [hi2]
    have hi3 : i < len0 := by omega
    simp [List.getD, hi3]
end Go.Proofs.Ytjjhkfhppoioiaa

namespace Go.Proofs.Ytjjhkfhppoioiaa
open Go.RowKit
set_option linter.unusedVariables false
set_option maxRecDepth 100000 in
set_option maxHeartbeats 4000000 in
theorem read_long (bits n : Int) (ao : Option Addr) (N cap : Nat) (w : World) (h : 20000 < N) (hn : N ≤ 9223372036854775807) :
    Calls Try.prog 5 #[.int .i64 bits, .slice ao N cap, .int .i64 n] w fun e w' => e = .returned (.bool true) ∧ Below w.heap.size w w' := by
  go_enter Try.func5, Try.ntmps5
  go_wp2_with (first | (go_at_call 8; refine (known_any _).mono ?_; rintro e w1 ⟨rfl, b1⟩))
  go_ret
  exact ⟨rfl, b1⟩
theorem out_s {b : Int} {xs : List Int} {n : Nat} {l : List Sn} {er : Int} (hb : Bt b) (h : Red (Sn.May b) Sn.nm Sn.enc b xs (n : Int) l er) {v : Value} {ok : Bool} {w : World} {P : Nat} (h2 : (ok = true ∧ ∃ l, IsL (Sn.May b) Sn.nm Sn.enc xs n l ∧ Owns w P v l) ∨ (ok = false ∧ ∀ m, ¬ IsL (Sn.May b) Sn.nm Sn.enc xs n m)) : (ok = true ∧ er = 0 ∧ Owns w P v l) ∨ (ok = false ∧ er = 210 ∧ l = []) := by
  rcases h with ⟨hq, _⟩ | ⟨_, _, hi, rfl⟩ | ⟨_, _, hi, rfl, rfl⟩
  · exact absurd ⟨hb, by omega⟩ hq
  · rcases h2 with ⟨rfl, m, hm, ho⟩ | ⟨_, hno⟩
    · obtain rfl := hi.same (Sn.prs b) hm
      exact Or.inl ⟨rfl, rfl, ho⟩
    · exact absurd hi (hno l)
  · rcases h2 with ⟨rfl, m, hm, ho⟩ | ⟨rfl, _⟩
    · exact absurd hm (hi m)
    · exact Or.inr ⟨rfl, rfl, rfl⟩
theorem out_r {b : Int} {xs : List Int} {n : Nat} {l : List Rn} {er : Int} (hb : Bt b) (h : Red (Rn.May b) Rn.nm Rn.enc b xs (n : Int) l er) {v : Value} {ok : Bool} {w : World} {P : Nat} (h2 : (ok = true ∧ ∃ l, IsL (Rn.May b) Rn.nm Rn.enc xs n l ∧ Ownr w P v l) ∨ (ok = false ∧ ∀ m, ¬ IsL (Rn.May b) Rn.nm Rn.enc xs n m)) : (ok = true ∧ er = 0 ∧ Ownr w P v l) ∨ (ok = false ∧ er = 210 ∧ l = []) := by
  rcases h with ⟨hq, _⟩ | ⟨_, _, hi, rfl⟩ | ⟨_, _, hi, rfl, rfl⟩
  · exact absurd ⟨hb, by omega⟩ hq
  · rcases h2 with ⟨rfl, m, hm, ho⟩ | ⟨_, hno⟩
    · obtain rfl := hi.same (Rn.prs b) hm
      exact Or.inl ⟨rfl, rfl, ho⟩
    · exact absurd hi (hno l)
  · rcases h2 with ⟨rfl, m, hm, ho⟩ | ⟨rfl, _⟩
    · exact absurd hm (hi m)
    · exact Or.inr ⟨rfl, rfl, rfl⟩
theorem own_cap {w : World} {base : Nat} {v : Value} {xs : List Int} {g n cap : Nat} (h : Own w base v xs) (e : v = .slice (some ⟨g, 0, none⟩) n cap) : cap ≤ maxLen := by
  rcases h.2 with ⟨e2, _⟩ | ⟨g', cap', cur, e2, _, _, _, hm, _⟩
  · rw [e2] at e; cases e
  · rw [e2] at e; cases e; exact hm
theorem bad_l {E : Type} {may : E → Prop} {nm : E → ByteArray} {enc : E → List Int} {b n : Int} {xs : List Int} {l : List E} {er : Int} (hb : ¬ (Bt b ∧ 0 ≤ n)) (h : Red may nm enc b xs n l er) : l = [] ∧ er = 2 := by
  rcases h with ⟨_, h1, h2⟩ | ⟨h1, h2, _⟩ | ⟨h1, h2, _⟩
  · exact ⟨h1, h2⟩
  · exact absurd ⟨h1, h2⟩ hb
  · exact absurd ⟨h1, h2⟩ hb
theorem len_le_s {b n : Int} {xs : List Int} {l : List Sn} {er : Int} (h : Red (Sn.May b) Sn.nm Sn.enc b xs n l er) : l.length ≤ 64 := by
  rcases h with ⟨_, rfl, _⟩ | ⟨_, _, h, _⟩ | ⟨_, _, _, rfl, _⟩
  · simp
  · exact h.2.2.1
  · simp
theorem len_le_r {b n : Int} {xs : List Int} {l : List Rn} {er : Int} (h : Red (Rn.May b) Rn.nm Rn.enc b xs n l er) : l.length ≤ 64 := by
  rcases h with ⟨_, rfl, _⟩ | ⟨_, _, h, _⟩ | ⟨_, _, _, rfl, _⟩
  · simp
  · exact h.2.2.1
  · simp
set_option maxRecDepth 100000 in
set_option maxHeartbeats 16000000 in
theorem read_walk (bits n : Int) (ao : Option Addr) (N cap : Nat) (xs : List Int) (w : World) (hn6 : I6 n) (hN : N = xs.length) (hcap : N ≤ cap) (hcm : cap ≤ maxLen) (hno : ao = none → cap = 0) (hl : N ≤ 20000) (hby : Byt xs) (hS : Src w ao xs) :
    Calls Try.prog 5 #[.int .i64 bits, .slice ao N cap, .int .i64 n] w fun e w' => e = .returned (.bool true) ∧ Below w.heap.size w w' := by
  have HN := hid hN
  have HS := hid hS
  have HBY := hid hby
  have HNO : Hid (ao = none → N = 0 ∧ cap = 0) := fun e => ⟨by have := hno e; omega, hno e⟩
  unfold I6 at hn6
  clear hN hS hby hno
  go_enter Try.func5, Try.ntmps5
  go_wp2_with (first
    | (at_builtin; refine wpList_append_b rfl (.const (.slice none 0 0)) (.tmp 20) rfl w.heap.size (.slice none 0 0) [] rfl (Own.nil _ _) ao cap xs N HN.out rfl HNO.out HS.out (by simp; omega) (Nat.le_refl _) ?_; intro v1 w1 o1 b1; have O1 := hid o1; have B1 := hid b1; clear o1 b1)
    | (at_builtin; refine wpList_append_b rfl (.tmp 21) (.tmp 22) rfl w.heap.size v1 ([] ++ xs) rfl (ownsRow_kp (F := fun _ => False) O1.out ((Kp.refl _ _).alloc _) (fun _ _ x => x)) (some ⟨w1.heap.size, 0, none⟩) 1 [77] 1 rfl (by first | rfl | simp [Act.eval]) (fun e => by cases e) (Rw.src (Rw.new 5 w1 [77])) (by have := HN.out; simp; omega) (by rw [World.size_alloc]; have := B1.out.size; omega) ?_; intro v2 w2 o2 b2; rw [List.nil_append] at o2; have B2 := hid ((B1.out.alloc B1.out.size _).trans b2); obtain ⟨g, cap2, hv2, g1, g2, g3, g4⟩ := own_at o2 (by simp); have hcm2 : cap2 ≤ maxLen := (own_cap o2 hv2); have hlx : (xs ++ [77]).length = N + 1 := (by rw [List.length_append, ← HN.out]; rfl); rw [hlx] at hv2 g3; subst hv2; unfold maxLen at hcm2; have G4 := hid g4; clear o2 b2 O1 g4 hlx))
  have SL2 : Hid (Sl w2 (.slice (some ⟨g, 0, none⟩) N cap2) xs) := Or.inr ⟨g, 0, cap2, by rw [HN.out], by have := HN.out; omega, by unfold maxLen; omega, g2, fun i hi => by
    have := G4.out i (by simp; omega)
    rw [Nat.zero_add, this]
    simp [List.getD, List.getElem?_append_left hi]⟩
  have C77 : Hid (∀ U, Below w2.heap.size w2 U → U.cell? ⟨g, N, none⟩ = some (.int .u8 77)) := fun U h => by
    have := G4.out N (by simp; have := HN.out; omega)
    rw [h.cell g2, this]
    simp [List.getD, HN.out]
  clear G4 B1
  refine (Read_s bits n (.slice (some ⟨g, 0, none⟩) N cap2) xs w2 HBY.out SL2.out).mono ?_
  rintro e w3 ⟨v3, l3, er3, rfl, a1, a2, a3⟩
  have hl3 := len_le_s a1
  have M3 := hid a3
  have B3 := hid (B2.out.trans (a3.mono B2.out.size))
  have RS := hid a1
  obtain ⟨ao3, cap3, rfl, s3, c3, _⟩ := a2.src
  have S3 := hid s3
  obtain ⟨L3, hL3⟩ : ∃ L, L = l3.length := ⟨_, rfl⟩
  rw [← hL3] at c3 hl3 ⊢
  have HL3 := hid hL3
  clear a1 a2 a3 s3 hL3
  go_wp2_with fail
  refine (Read_r bits n (.slice (some ⟨g, 0, none⟩) N cap2) xs w3 HBY.out (SL2.out.below M3.out)).mono ?_
  rintro e w4 ⟨v4, l4, er4, rfl, a1, a2, a3⟩
  have hl4 := len_le_r a1
  have M4 := hid (M3.out.trans (a3.mono M3.out.size))
  have B4 := hid (B3.out.trans (a3.mono B3.out.size))
  have RR := hid a1
  obtain ⟨ao4, cap4, rfl, s4, c4, _⟩ := a2.src
  have S4 := hid s4
  have S3' := hid (S3.out.below a3)
  obtain ⟨L4, hL4⟩ : ∃ L, L = l4.length := ⟨_, rfl⟩
  rw [← hL4] at c4 hl4 ⊢
  have HL4 := hid hL4
  have c77 := C77.out w4 M4.out
  have SM : Hid (Src w4 (some ⟨g, 0, none⟩) xs) := by
    obtain ⟨ao', cap', e, h, _⟩ := (SL2.out.below M4.out).src
    cases e
    exact h
  have SB := hid (HS.out.below B4.out)
  have hst : ((strOfNums xs).toList == (strOfNums xs).toList) = true := by simp
  have hst2 : ((strOfNums xs).toList != (strOfNums xs).toList) = false := by simp
  clear a1 a2 a3 s4 hL4 S3 C77 SL2 B2 B3
  by_cases hbt : Bt bits ∧ 0 ≤ n
  · obtain ⟨hb, hn0⟩ := hbt
    obtain ⟨k, rfl⟩ := Int.eq_ofNat_of_zero_le hn0
    obtain ⟨hb1, hb2⟩ := hb
    have hb : Bt bits := ⟨hb1, hb2⟩
    have HBT := hid hb
    have HRS : Hid (∀ W, Below w.heap.size w W → Calls Try.prog 17 #[.int .i64 bits, .slice ao N cap, .int .i64 (k : Int)] W fun e w' => RdPs bits xs k W.heap.size e w' ∧ Below W.heap.size W w') := fun W h => rread_s bits k N cap xs ao W HBT.out (by omega) HN.out HBY.out hl hcap hcm (HS.out.below h)
    have HRR : Hid (∀ W, Below w.heap.size w W → Calls Try.prog 18 #[.int .i64 bits, .slice ao N cap, .int .i64 (k : Int)] W fun e w' => RdPr bits xs k W.heap.size e w' ∧ Below W.heap.size W w') := fun W h => rread_r bits k N cap xs ao W HBT.out (by omega) HN.out HBY.out hl hcap hcm (HS.out.below h)
    clear hb
    go_wp2_with (first
      | (refine wpList_convert_rw rfl (.tmp 41) 26 9 5 rfl Try.underlying26 Try.underlying5 Try.underlying9 (some ⟨g, 0, none⟩) N cap2 rfl xs HN.out.symm (fun hp => by (rw [HN.out] at hp ⊢; exact SM.out hp)) ?_)
      | (refine wpList_convert_rw rfl (.tmp 43) 26 9 5 rfl Try.underlying26 Try.underlying5 Try.underlying9 ao N cap rfl xs HN.out.symm (fun hp => by (rw [HN.out] at hp ⊢; exact SB.out hp)) ?_))
    refine (HRS.out w4 B4.out).mono ?_
    rintro e w5 ⟨⟨v5, ok5, rfl, h5⟩, b5⟩
    have O5 := hid (out_s HBT.out RS.out h5)
    have M5 := hid b5
    have B5 := hid (B4.out.trans (b5.mono B4.out.size))
    clear h5 b5
    go_wp2_with fail
    refine (HRR.out w5 B5.out).mono ?_
    rintro e w6 ⟨⟨v6, ok6, rfl, h6⟩, b6⟩
    have O6 := hid (out_r HBT.out RR.out h6)
    have M6 := hid (M5.out.trans (b6.mono M5.out.size))
    have N6 := hid b6
    have B6 := hid (B5.out.trans (b6.mono B5.out.size))
    clear h6 b6 HRS HRR SM SB RS RR c77
    rcases O5.out with ⟨rfl, rfl, o5⟩ | ⟨rfl, rfl, rfl⟩
    · obtain ⟨ao5, cap5, rfl, s5, d5, _⟩ := o5.src
      rw [← HL3.out] at d5 ⊢
      have Q5 : Hid (∀ U, Below w6.heap.size w6 U → Calls Try.prog 11 #[.slice ao3 L3 cap3, .slice ao5 L3 cap5] U fun e w' => e = .returned (.bool true) ∧ Below U.heap.size U w') := fun U h => same_s l3 ao3 ao5 L3 cap3 cap5 U HL3.out c3 d5 (by omega) ((S3'.out.below M6.out).below h) ((s5.below N6.out).below h)
      clear o5 s5
      rcases O6.out with ⟨rfl, rfl, o6⟩ | ⟨rfl, rfl, rfl⟩
      · obtain ⟨ao6, cap6, rfl, s6, d6, _⟩ := o6.src
        rw [← HL4.out] at d6 ⊢
        have Q6 : Hid (∀ U, Below w6.heap.size w6 U → Calls Try.prog 15 #[.slice ao4 L4 cap4, .slice ao6 L4 cap6] U fun e w' => e = .returned (.bool true) ∧ Below U.heap.size U w') := fun U h => same_r l4 ao4 ao6 L4 cap4 cap6 U HL4.out c4 d6 (by omega) ((S4.out.below M6.out).below h) (s6.below h)
        clear o6 s6
        go_wp2_with (first
          | (go_at_call 11; refine (Q5.out w6 (Below.refl _ _)).mono ?_; rintro e w7 ⟨rfl, b7⟩; have M7 := hid b7; have B7 := hid (B6.out.trans (b7.mono B6.out.size)); clear b7)
          | (go_at_call 15; refine (Q6.out w7 M7.out).mono ?_; rintro e w8 ⟨rfl, b8⟩; have B8 := hid (B7.out.trans (b8.mono B7.out.size)); clear b8)
          | (go_at_call 8; refine (known_any _).mono ?_; rintro e w9 ⟨rfl, b9⟩))
        go_ret
        exact ⟨rfl, B8.out.trans (b9.mono B8.out.size)⟩
      · have hl0 : L4 = 0 := HL4.out
        subst hl0
        go_wp2_with (first
          | (go_at_call 11; refine (Q5.out w6 (Below.refl _ _)).mono ?_; rintro e w7 ⟨rfl, b7⟩; have B7 := hid (B6.out.trans (b7.mono B6.out.size)); clear b7)
          | (go_at_call 8; refine (known_any _).mono ?_; rintro e w9 ⟨rfl, b9⟩))
        go_ret
        exact ⟨rfl, B7.out.trans (b9.mono B7.out.size)⟩
    · have hl0 : L3 = 0 := HL3.out
      subst hl0
      rcases O6.out with ⟨rfl, rfl, o6⟩ | ⟨rfl, rfl, rfl⟩
      · obtain ⟨ao6, cap6, rfl, s6, d6, _⟩ := o6.src
        rw [← HL4.out] at d6 ⊢
        have Q6 : Hid (∀ U, Below w6.heap.size w6 U → Calls Try.prog 15 #[.slice ao4 L4 cap4, .slice ao6 L4 cap6] U fun e w' => e = .returned (.bool true) ∧ Below U.heap.size U w') := fun U h => same_r l4 ao4 ao6 L4 cap4 cap6 U HL4.out c4 d6 (by omega) ((S4.out.below M6.out).below h) (s6.below h)
        clear o6 s6
        go_wp2_with (first
          | (go_at_call 15; refine (Q6.out w6 (Below.refl _ _)).mono ?_; rintro e w8 ⟨rfl, b8⟩; have B8 := hid (B6.out.trans (b8.mono B6.out.size)); clear b8)
          | (go_at_call 8; refine (known_any _).mono ?_; rintro e w9 ⟨rfl, b9⟩))
        go_ret
        exact ⟨rfl, B8.out.trans (b9.mono B8.out.size)⟩
      · have hl1 : L4 = 0 := HL4.out
        subst hl1
        go_wp2_with (first
          | (go_at_call 8; refine (known_any _).mono ?_; rintro e w9 ⟨rfl, b9⟩))
        go_ret
        exact ⟨rfl, B6.out.trans (b9.mono B6.out.size)⟩
  · obtain ⟨rfl, rfl⟩ := bad_l hbt RS.out
    obtain ⟨rfl, rfl⟩ := bad_l hbt RR.out
    have hl0 : L3 = 0 := HL3.out
    have hl1 : L4 = 0 := HL4.out
    subst hl0
    subst hl1
    have hcase : bits < 9 ∨ (9 ≤ bits ∧ 16 < bits) ∨ (9 ≤ bits ∧ bits ≤ 16 ∧ n < 0) := by
      unfold Bt at hbt
      omega
    clear hbt RS RR
    rcases hcase with h | ⟨h, h'⟩ | ⟨h, h', h''⟩
    all_goals
      go_wp2_with (first
        | (refine wpList_convert_rw rfl (.tmp 41) 26 9 5 rfl Try.underlying26 Try.underlying5 Try.underlying9 (some ⟨g, 0, none⟩) N cap2 rfl xs HN.out.symm (fun hp => by (rw [HN.out] at hp ⊢; exact SM.out hp)) ?_)
        | (refine wpList_convert_rw rfl (.tmp 43) 26 9 5 rfl Try.underlying26 Try.underlying5 Try.underlying9 ao N cap rfl xs HN.out.symm (fun hp => by (rw [HN.out] at hp ⊢; exact SB.out hp)) ?_)
        | (go_at_call 8; refine (known_any _).mono ?_; rintro e w9 ⟨rfl, b9⟩))
      go_ret
      exact ⟨rfl, B4.out.trans (b9.mono B4.out.size)⟩
theorem read_any (bits n : Int) (ao : Option Addr) (N cap : Nat) (xs : List Int) (w : World) (hn6 : I6 n) (hN : xs.length = N) (hcap : N ≤ cap) (hcm : cap ≤ maxLen) (hno : ao = none → cap = 0) (hby : Byt xs) (hS : Src w ao xs) :
    Calls Try.prog 5 #[.int .i64 bits, .slice ao N cap, .int .i64 n] w fun e w' => e = .returned (.bool true) ∧ Below w.heap.size w w' := by
  by_cases h : N ≤ 20000
  · exact read_walk bits n ao N cap xs w hn6 hN.symm hcap hcm hno h hby hS
  · exact read_long bits n ao N cap w (by omega) (by unfold maxLen at hcm; omega)
end Go.Proofs.Ytjjhkfhppoioiaa


namespace Go.Proofs.Ytjjhkfhppoioiaa.tablesRead
open Go.ChangeShapes Go.WideShapes Go.ChangeAt Go.RowKit
set_option linter.unusedVariables false

theorem own : ownKnob Try.prog.godebug = none := by kernel_rfl
theorem laidOut : laidOutB Try.prog = true := by kernel_rfl
/-! From the walk to the row. -/
set_option maxRecDepth 100000 in
theorem lifted (os : Os) (started : os.Started) (H : Type) (enc : TypeId × Value → H) :
    ReturnsInHanded {} Try.checked os 5 .any (Rows.tablesReadSpec.pre6 enc Try.prog Try.f5 Rows.tablesReadRow.domain false) (Rows.tablesReadSpec.post enc Try.prog Try.f5 false true false false) := by
  refine returnsInHanded_of_change (C := Try.checked) own started (by kernel_rfl) Try.func5
    (ChangeSpec.witness6 (enc := enc) (C := Try.checked) false ⟨#[], #[.int .i64 0, .slice none 0 0, .int .i64 0], []⟩ 8 (by kernel_rfl) (by kernel_rfl) (by kernel_rfl) (by kernel_rfl)) ?_
  intro W base args ds gs before hval0 hW hcnd _
  have hval : ∀ (j : Nat) t v, Try.f5.params[j]? = some t → args[j]? = some v → Value.okWide Try.prog W .any base t v := hval0
  have hW' := hW
  obtain ⟨p, q, hA0, hV, rfl, hfz, hnd⟩ := hW
  have hA : DataW.TrodAll enc Try.prog W 0 (fun _ => true) true Try.f5.params.toList args.toList ds p := hA0
  rw [Try.params5] at hA hval
  obtain ⟨v0, vs0, d0, ds0, p0, q0, hargs, rfl, rfl, h0, r0⟩ := trodAll_cons hA
  obtain ⟨v1, vs1, d1, ds1, p1, q1, rfl, rfl, rfl, h1, r1⟩ := trodAll_cons r0
  obtain ⟨v2, vs2, d2, ds2, p2, q2, rfl, rfl, rfl, h2, r2⟩ := trodAll_cons r1
  obtain ⟨rfl, rfl, rfl⟩ := trodAll_nil r2
  obtain rfl : args = #[v0, v1, v2] := by cases args; simp_all
  obtain ⟨rfl, rfl⟩ := trodVars_none hV
  obtain ⟨n0, rfl, rfl, rfl, w0⟩ := open_int Try.underlying3 (hval 0 3 v0 rfl rfl) h0
  have i0 : I6 n0 := bounds_i64 w0
  obtain ⟨a1, len1, cap1, rfl⟩ := okWide_slice Try.underlying26 (hval 1 26 v1 rfl rfl)
  have k1 := h1
  have lt1 : ∀ x ∈ p1, x.block < W.heap.size := by obtain ⟨m, hm⟩ := k1; exact DataW.trod_lt m _ _ _ hm
  obtain ⟨z1, w1⟩ : ∃ zs, IsRow .u8 W a1 len1 cap1 zs := by
    obtain ⟨fuel, hf⟩ := h1
    rcases open_ints Try.underlying26 Try.underlying5 (by kernel_rfl) hf with ⟨hcs, _⟩ | ⟨x, l, c, zs, hcs, _, hl, hm, hz, _, hcell, hwz⟩
    · simp [Value.cells] at hcs
      obtain ⟨rfl, rfl, rfl⟩ := hcs
      exact ⟨[], .inl ⟨rfl, rfl, rfl, rfl⟩⟩
    · simp [Value.cells] at hcs
      obtain ⟨rfl, rfl, rfl⟩ := hcs
      exact ⟨zs, .inr ⟨_, rfl, hl, hm, by simpa using hz, hcell, hwz⟩⟩
  obtain ⟨zs1, in1⟩ := w1.inb
  obtain ⟨n2, rfl, rfl, rfl, w2⟩ := open_int Try.underlying3 (hval 2 3 v2 rfl rfl) h2
  have i2 : I6 n2 := bounds_i64 w2
  clear hA0 hval0
  simp only [List.append_nil] at hW'
  refine (read_any n0 n2 a1 len1 cap1 zs1 W i2 in1.len in1.cap in1.max in1.nil in1.byt in1.src).mono fun e W' ⟨he, bel⟩ => ?_
  subst he
  exact ⟨_, rfl, _, _, _, [], _, [], hW', trodAll_mk1 (shut_bool Try.underlying4 _), (trodAll_cons_mk (shut_int Try.underlying3 w0) (trodAll_cons_mk (Below.trod laidOut (by kernel_rfl) (of_decide_eq_true (by kernel_rfl)) k1 bel lt1) (trodAll_cons_mk (shut_int Try.underlying3 w2) trodAll_mk0))), rfl, bel.frame _, fun h => by cases h⟩

theorem over : Rows.tablesReadRow.holds Try.pinned (OpenSpec.ofChange Rows.tablesReadSpec) :=
  OpenClaim.holds_of_wide 5 Try.f5 rfl rfl rfl rfl rfl rfl rfl ⟨rfl, rfl, rfl, rfl, rfl⟩ rfl rfl rfl rfl rfl (by kernel_rfl) Try.func5 (by kernel_rfl)
    (of_decide_eq_true (by kernel_rfl)) (by unfold Func.isWrapper; first | (rw [if_pos (by decide +kernel)]; kernel_rfl) | (rw [if_neg (by decide +kernel)]; exact ⟨rfl, rfl⟩))
    (fun os started H enc _ => lifted os started H enc)
end Go.Proofs.Ytjjhkfhppoioiaa.tablesRead
namespace Go.Proofs.Ytjjhkfhppoioiaa
/-- THE STATEMENT. -/
theorem tablesRead_holds : Rows.TablesReadSaid := tablesRead.over
#print axioms tablesRead_holds
end Go.Proofs.Ytjjhkfhppoioiaa
