/- HuffCoding: the law's walk, whole. -/
import Derived.Test.YthpocbpleffdpaaEe
import Derived.Test.YthpocbpleffdpaaLent
import Derived.Test.YthpocbpleffdpaaMay
namespace Go.Proofs.Ythpocbpleffdpaa
open Go.RowKit Go.Shelf
set_option linter.unusedVariables false
set_option linter.unusedSimpArgs false
set_option maxRecDepth 100000
def e9 (T1 G n c g : Nat) (f : Nat → Value) : Array Value := #[f 0, .pointer (some ⟨T1, 0, none⟩), f 2, .slice (some ⟨G, 0, none⟩) n c, .pointer (some ⟨g, 0, none⟩), .int .i64 0, f 6, f 7, f 8, f 9, f 10, f 11, f 12, f 13, f 14, f 15, f 16, f 17, f 18, f 19, f 20, f 21, f 22, f 23, f 24, f 25, f 26, f 27, f 28, f 29, f 30, f 31, f 32, f 33, f 34, f 35, f 36, f 37, f 38, f 39, f 40, f 41, f 42, f 43, f 44, f 45, f 46, f 47, f 48, f 49, f 50, f 51, f 52, f 53, f 54, f 55, f 56, f 57, f 58, f 59, f 60, f 61, f 62, f 63, f 64, f 65, f 66, f 67, f 68, f 69, f 70, f 71, f 72, f 73, f 74, f 75, f 76, f 77, f 78, f 79, f 80, f 81, f 82, f 83, f 84, f 85, f 86, f 87, f 88, f 89, f 90, f 91, f 92, f 93, f 94, f 95, f 96, f 97, f 98, f 99, f 100, f 101, f 102, f 103, f 104, f 105, f 106, f 107, f 108, f 109, f 110, f 111, f 112, f 113, f 114, f 115, f 116, f 117, f 118, f 119, f 120, f 121, f 122, f 123, f 124, f 125, f 126, f 127, f 128, f 129, f 130, f 131, f 132, f 133, f 134, f 135, f 136, f 137, f 138, f 139, f 140, f 141, f 142, f 143, f 144, f 145, f 146, f 147, f 148, f 149, f 150, f 151, f 152, f 153, f 154, f 155, f 156, f 157, f 158, f 159, f 160, f 161, f 162, f 163, f 164, f 165, f 166, f 167, f 168, f 169, f 170, f 171, f 172, f 173, f 174, f 175, f 176, f 177, f 178, f 179, f 180, f 181, f 182, f 183, f 184, f 185, f 186, f 187, f 188, f 189, f 190, f 191, f 192, f 193, f 194, f 195, f 196, f 197, f 198, f 199, f 200]
theorem src_kpw {κ : IntKind} {F : Nat → Prop} {w Z : World} {ao : Option Addr} {l : List Int} (h : Src κ w ao l) (k : Kp F w Z) (ho : ∀ i, i < w.heap.size → ¬ F i) : Src κ Z ao l := by
  intro hp
  obtain ⟨b, off, e, hc⟩ := h hp
  refine ⟨b, off, e, fun i hi => ?_⟩
  have := hc i hi
  exact kp_cellh k this (ho b (block_lt_of_cell this))
theorem rw_set {w : World} {G : Nat} {L : List Int} (h : Rw .i64 3 w G L) (i : Nat) (v : Int) : Rw .i64 3 (w.setCell ⟨G, i, none⟩ (.int .i64 v)) G (L.set i v) := h.set i v
set_option maxHeartbeats 8000000 in
theorem w9 (w X : World) (T1 G n c g : Nat) (f : Nat → Value) (hn : n ≤ 320) (hrow : ∃ L, Rw .i64 3 X G L ∧ n ≤ L.length)
    (HC : ∀ (A : Act) (Y : World), A.tmps = e13 T1 g (fun i => A.tmps.getD i undef) → A.defers = [] → Kp (fun i => i = G) X Y → c136.wp Try.prog (bodyPost Try.prog Try.f6 (fun e w' => e = .returned (.bool true) ∧ Kp (fun _ => False) w w')) A Y) :
    c96.wp Try.prog (bodyPost Try.prog Try.f6 (fun e w' => e = .returned (.bool true) ∧ Kp (fun _ => False) w w')) { tmps := e9 T1 G n c g f, defers := [] } X := by
  have HCC := hid HC
  have HR := hid hrow
  clear HC hrow
  unfold c96 e9
  generalize hQ : bodyPost _ _ _ = QQ
  go_wp2_with fail
  go_loopw [6] (fun iv wr => ∃ j : Nat, j ≤ n ∧ iv = .int .i64 (j : Int) ∧ Hid (Kp (fun i => i = G) X wr) ∧ Hid (∃ L, Rw .i64 3 wr G L ∧ n ≤ L.length)) (fun iv _ => n - (intOf iv).toNat)
  case atStart => exact ⟨0, by omega, rfl, Kp.refl _ _, HR⟩
  case round =>
    obtain ⟨j, hj, rfl, HK, HL⟩ := hrel
    by_cases hlt : j < n
    · obtain ⟨L, r, hl⟩ := HL.out
      have cj := r.cell j (by omega)
      have fj := r.frozen j
      have lj := r.lt
      have RR := hid r
      have HLL := hid hl
      clear r hl
      go_wp2_with fail
      go_roundw
      case rel =>
        exact ⟨j + 1, by omega, by go_num, HK.out.trans (kp_setC wr G j _ (fun i => i = G) rfl) (fun _ _ h => h), _, rw_set RR.out j 1, by rw [List.length_set]; exact HLL.out⟩
      case measure => simp [intOf]; omega
    · obtain rfl : j = n := by omega
      go_wp2_with fail
      subst hQ
      exact HCC.out _ wr (by kernel_rfl) rfl HK.out
set_option maxHeartbeats 8000000 in
theorem law6_ok (a0 a1 a2 : Option Addr) (c0 c1 c2 : Nat) (zs ss B : List Int) (skip leave : Int) (w : World) (hs0 : Src .i64 w a0 zs) (hn0 : a0 = none → c0 = 0) (hs1 : Src .i64 w a1 ss) (hs2 : Src .u8 w a2 B) (hB : Bz.Byt B) (h1 : ss.length ≤ 400) (h2 : B.length ≤ 400) (hm : may zs = 0) :
    Calls Try.prog 6 #[.agg #[.slice a0 zs.length c0, .slice a1 ss.length c1, .slice a2 B.length c2, .int .i64 skip, .int .i64 leave]] w fun e w' => e = .returned (.bool true) ∧ Kp (fun _ => False) w w' := by
  have hb : bad zs = 0 := by
    by_cases h : bad zs = 0
    · exact h
    · exact absurd (may_bad h ▸ hm) h
  obtain ⟨hw, hl⟩ := bad_zero hb
  have k0 : Kp (fun _ => False) w (w.alloc (.cells #[.slice a0 zs.length c0, .slice a1 ss.length c1, .slice a2 B.length c2, .int .i64 skip, .int .i64 leave] 52)) := (Kp.refl _ _).alloc _
  have ST : Hid (Sc 52 (w.alloc (.cells #[.slice a0 zs.length c0, .slice a1 ss.length c1, .slice a2 B.length c2, .int .i64 skip, .int .i64 leave] 52)) w.heap.size #[.slice a0 zs.length c0, .slice a1 ss.length c1, .slice a2 B.length c2, .int .i64 skip, .int .i64 leave]) := Sc.new 52 w _
  have K0 := hid k0
  obtain ⟨X0, hX0⟩ : ∃ X0, X0 = w.alloc (.cells #[.slice a0 zs.length c0, .slice a1 ss.length c1, .slice a2 B.length c2, .int .i64 skip, .int .i64 leave] 52) := ⟨_, rfl⟩
  rw [← hX0] at K0 ST
  have hX1 := hX0.symm
  have HLE := hid (lent_any a0 c0 zs X0 (by omega) (hs0.kp K0.out (fun _ _ _ x => x)) hn0)
  have HNW : Hid (∀ U G c tl, Rw .i64 3 U G (zs ++ (77 :: tl)) → Calls Try.prog 26 #[.slice (some ⟨G, 0, none⟩) zs.length c] U fun e w' => ∃ g la ca sa lc cc sc S, e = .returned (.tuple #[.pointer (some ⟨g, 0, none⟩), .int .i64 0]) ∧ Cd w' g la ca sa lc cc sc zs S ∧ (∀ i, Cdf g la ca sa i → U.heap.size ≤ i ∧ i < w'.heap.size) ∧ (∀ b off, la = some ⟨b, off, none⟩ → b ≠ g ∧ ∀ off', ca ≠ some ⟨b, off', none⟩) ∧ Below U.heap.size U w') := fun U G c tl h => new_ok ⟨G, 0, none⟩ c zs U (row_src h) hm hw hl
  have HKE : Hid (∀ U G c tl, zs.length + 1 ≤ c → Rw .i64 3 U G (zs ++ (77 :: tl)) → Src .i64 U a0 zs → Calls Try.prog 11 #[.slice (some ⟨G, 0, none⟩) zs.length c, .slice a0 zs.length c0] U fun e w' => e = .returned (.bool true) ∧ Below U.heap.size U w') := fun U G c tl h1 h2 h3 => kept_eq G c a0 c0 zs tl U (by omega) h1 h2 h3
  have HMY : Hid (∀ U, Src .i64 U a0 zs → Calls Try.prog 16 #[.slice a0 zs.length c0] U fun e w' => e = .returned (.int .i64 0) ∧ U = w') := fun U h => by
    have := may_any a0 c0 zs U (by omega) h
    rw [hm] at this
    exact this
  have HFIN : Hid (∀ (A : Act) (Y : World) (G c g : Nat) (la ca sa : Option Addr) (lc cc sc : Nat) (S : List Int), A.tmps = e9 w.heap.size G zs.length c g (fun i => A.tmps.getD i undef) → A.defers = [] → Kp (fun _ => False) X0 Y → X0.heap.size ≤ G → (∃ L, Rw .i64 3 Y G L ∧ zs.length ≤ L.length) → Cd Y g la ca sa lc cc sc zs S → (∀ i, Cdf g la ca sa i → G < i ∧ i < Y.heap.size) → (∀ b off, la = some ⟨b, off, none⟩ → b ≠ g ∧ ∀ off', ca ≠ some ⟨b, off', none⟩) → c96.wp Try.prog (bodyPost Try.prog Try.f6 (fun e w' => e = .returned (.bool true) ∧ Kp (fun _ => False) w w')) A Y) := by
    intro A Y G c g la ca sa lc cc sc S ht hd k hG hR hc hlt hdi
    obtain ⟨f, rfl⟩ := act_of ht hd
    refine w9 w Y w.heap.size G zs.length c g f hl hR (fun A Z ht hd kz => ?_)
    obtain ⟨f, rfl⟩ := act_of ht hd
    have hG1 : w.heap.size < G := Nat.lt_of_lt_of_le ST.out.lt hG
    have kw : Kp (fun i => i = G) w Z := ((K0.out.trans k (fun _ _ x => x)).mono (fun _ _ h => h.elim)).trans kz (fun _ _ h => h)
    have old : ∀ i, i < w.heap.size → ¬ i = G := fun i hi e => by omega
    refine w13 w Z w.heap.size g la ca sa a0 a1 a2 lc cc sc c0 c1 c2 zs S ss B skip leave f ⟨⟨kw.os, kw.tape, kw.output, kw.size, fun i hi _ => kw.block i hi (old i hi)⟩, hs0, fun i hi => by have := (hlt i hi).1; omega, (ST.out.kp k (fun h => h)).kp kz (by omega), ?_, ?_, ?_, ?_, fun i hi => Nat.lt_of_lt_of_le (hlt i hi).2 kz.size, hdi, hm, h1, h2, hB⟩
    · exact src_kpw hs0 kw old
    · exact src_kpw hs1 kw old
    · exact src_kpw hs2 kw old
    · exact hc.kpf kz (fun i hi e => by have := (hlt i hi).1; omega)
  have HS0 : Hid (∀ U, Kp (fun _ => False) X0 U → Src .i64 U a0 zs) := fun U k => (hs0.kp K0.out (fun _ _ _ x => x)).kp k (fun _ _ _ x => x)
  have HT0 : Hid (∀ U, Kp (fun _ => False) X0 U → U.cell? ⟨w.heap.size, 0, none⟩ = some (.slice a0 zs.length c0)) := fun U k => (ST.out.kp k (fun h => h)).cell 0
  have t0 := HT0.out X0 (Kp.refl _ _)
  have t1 : X0.cell? ⟨w.heap.size, 1, none⟩ = some (.slice a1 ss.length c1) := ST.out.cell 1
  have t2 : X0.cell? ⟨w.heap.size, 2, none⟩ = some (.slice a2 B.length c2) := ST.out.cell 2
  have hd1 : ¬ (400 : Int) < (ss.length : Int) := by omega
  have hd2 : ¬ (400 : Int) < (B.length : Int) := by omega
  have hd3 : decide ((400 : Int) < (ss.length : Int)) = false := by simp; omega
  have hd4 : decide ((400 : Int) < (B.length : Int)) = false := by simp; omega
  have hd5 : ¬ 400 < ss.length := by omega
  have hd6 : ¬ 400 < B.length := by omega
  clear hs0 hs1 hs2 hB hb hw k0 hn0 hX0 h1 h2
  generalize ss.length = m1 at *
  generalize B.length = m2 at *
  refine calls_of_wp (c := cA6) Try.func6 (by kernel_rfl) ?_
  simp only [Try.ntmps6, List.size_toArray, List.length_cons, List.length_nil, Nat.reduceAdd, Nat.reduceSub, Array.replicate_succ, Array.replicate_zero, List.push_toArray, List.append_toArray, List.nil_append, List.cons_append]
  unfold cA6
  generalize hQ : bodyPost _ _ _ = QQ
  generalize hC : Code.region 1 _ _ = C1
  go_wp2_with fail
  try simp only [hX1]
  subst hC
  go_wp2_with fail
  refine HLE.out.mono ?_
  rintro e w1 ⟨G, c, tl, rfl, hG, r1, hc1, hc2, b1⟩
  have R1 := hid r1
  have K1 : Hid (Kp (fun _ => False) X0 w1) := Kp.of_below b1
  have HG := hid hG
  have HC1 := hid hc1
  clear b1 r1 hG hc1 hc2 t1 t2
  go_wp2_with fail
  refine (HNW.out w1 G c tl R1.out).mono ?_
  rintro e w2 ⟨g, la, ca, sa, lc, cc, sc, S, rfl, hcd, hlt, hdi, b2⟩
  have CD := hid hcd
  have HLT : Hid (∀ i, Cdf g la ca sa i → G < i ∧ i < w2.heap.size) := fun i hi => by have := R1.out.lt; have := hlt i hi; exact ⟨by omega, by omega⟩
  have HDI := hid hdi
  have R2 := hid (R1.out.below b2 R1.out.lt)
  have K2 := hid (K1.out.trans (Kp.of_below b2) (fun _ _ x => x))
  have t0b := HT0.out w2 K2.out
  clear hcd hlt hdi b2 t0
  go_wp2_with fail
  refine (HKE.out w2 G c tl HC1.out R2.out (HS0.out w2 K2.out)).mono ?_
  rintro e w3 ⟨rfl, b3⟩
  have R3 := hid (R2.out.below b3 R2.out.lt)
  have k3 : Kp (fun _ => False) w2 w3 := Kp.of_below b3
  have K3 := hid (K2.out.trans k3 (fun _ _ x => x))
  have CD3 := hid (CD.out.ok k3)
  have HLT3 : Hid (∀ i, Cdf g la ca sa i → G < i ∧ i < w3.heap.size) := fun i hi => ⟨(HLT.out i hi).1, Nat.lt_of_lt_of_le (HLT.out i hi).2 k3.size⟩
  have t0c := HT0.out w3 K3.out
  clear b3 k3 t0b
  go_wp2_with fail
  refine (HMY.out w3 (HS0.out w3 K3.out)).mono ?_
  rintro e w4 ⟨rfl, rfl⟩
  go_wp2_with fail
  subst hQ
  exact HFIN.out _ w3 G c g la ca sa lc cc sc S (by kernel_rfl) rfl K3.out HG.out ⟨_, R3.out, by simp⟩ CD3.out HLT3.out HDI.out
end Go.Proofs.Ythpocbpleffdpaa
