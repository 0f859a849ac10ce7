/- Where pieces lie, as a row. -/
import Derived.Test.YtalicohflfildaaFi
import Derived.Test.YtalicohflfildaaWr
import Derived.Test.YtalicohflfildaaCd
import Derived.OwnWalk
namespace Go.Proofs.Ytalicohflfildaa
open Go.RowKit

def plc (ps : List (Nat × Nat)) : List Value := ps.flatMap (fun p => [.int .i64 (p.1 : Int), .int .i64 (p.2 : Int)])
def pln (ps : List (Nat × List Int)) : List (Nat × Nat) := ps.map (fun p => (p.1, p.2.length))
theorem plc_len (ps : List (Nat × Nat)) : (plc ps).length = ps.length * 2 := by
  induction ps with
  | nil => rfl
  | cons f ps ih =>
    have : plc (f :: ps) = [.int .i64 (f.1 : Int), .int .i64 (f.2 : Int)] ++ plc ps := rfl
    rw [this, List.length_append, ih]
    simp
    omega
theorem plc_append (a b : List (Nat × Nat)) : plc (a ++ b) = plc a ++ plc b := by simp [plc]
theorem plc_get (ps : List (Nat × Nat)) (i : Nat) (hi : i < ps.length) : (plc ps)[i * 2]? = some (.int .i64 ((ps.getD i (0, 0)).1 : Int)) ∧ (plc ps)[i * 2 + 1]? = some (.int .i64 ((ps.getD i (0, 0)).2 : Int)) := by
  induction ps generalizing i with
  | nil => simp at hi
  | cons f ps ih =>
    have h1 : plc (f :: ps) = .int .i64 (f.1 : Int) :: .int .i64 (f.2 : Int) :: plc ps := rfl
    rw [h1]
    cases i with
    | zero => exact ⟨rfl, rfl⟩
    | succ i =>
      have := ih i (by simp at hi; omega)
      rw [show (i + 1) * 2 = i * 2 + 1 + 1 by omega]
      simpa using this
theorem info44 : (Try.prog.info? 44).map (fun i => (i.zero, i.size, i.bytes)) = some (some (.agg #[.int .i64 0, .int .i64 0]), 2, 16) := by kernel_rfl
/-- What the loop keeps. -/
structure PcI (w : World) (ps : List (Nat × List Int)) (k : Nat) (v : Value) (W : World) : Prop where
  row : W.ownsRow w.heap.size 44 2 v k (plc (pln (ps.take k)))
  kp : Kp (fun _ => False) w W
theorem take_getP (ps : List (Nat × List Int)) (k : Nat) (h : k < ps.length) : ps.take (k + 1) = ps.take k ++ [ps.getD k (0, [])] := by
  rw [List.take_add_one, List.getElem?_eq_getElem h, List.getD_eq_getElem?_getD, List.getElem?_eq_getElem h]
  rfl
set_option maxRecDepth 100000 in
set_option maxHeartbeats 4000000 in
theorem places_any (D : Nat → Prop) (w : World) (a : Fa) (sz : Nat) (L : Nat → Int) (ps : List (Nat × List Int)) (hf : Fr D w a sz L ps) :
    Calls Try.prog 34 #[.pointer (some ⟨a.fb, 0, none⟩)] w fun e w' => ∃ v, e = .returned v ∧ PcI w ps ps.length v w' := by
  obtain ⟨i0, hi, hz0, hz1, hz2⟩ := info_parts info44
  obtain ⟨vs, hpr⟩ := hf.pc
  obtain ⟨pao, pcap, hpv⟩ := ownsRow_shape hpr.row
  have HST : Hid (St 70 w a.fb #[.int .i64 sz, .map (some a.lm), .map (some a.om), .slice pao ps.length pcap]) := by have := hf.st; rw [hpv] at this; exact this
  rw [hpv] at hpr
  have HPR : Hid (Pr D w (.slice pao ps.length pcap) ps vs) := hpr
  have hnb := hf.nb
  have HPB : Hid (∀ p ∈ ps, 1 ≤ p.2.length ∧ p.1 % 512 + p.2.length ≤ 512 ∧ p.1 + p.2.length ≤ sz) := hf.pb
  have hsb := hf.sb
  have c3 : w.cell? ⟨a.fb, 3, none⟩ = some (.slice pao ps.length pcap) := HST.out.cell 3
  clear hf hpr hpv
  generalize a.fb = fb at *
  generalize a.lm = lm at *
  generalize a.om = om at *
  have hmul : i0.bytes * ps.length ≤ 281474976710656 := by rw [hz2]; omega
  go_enter Try.func34, Try.ntmps34
  go_wp2_with (first | (at_make; refine wpList_make_own w rfl _ _ 82 rfl w.heap.size 44 i0 _ 2 Try.underlying82 hi hz0 hz1 .i64 .i64 (ps.length : Int) ps.length rfl rfl rfl hmul (by unfold maxLen; omega) (Nat.le_refl _) ?_; intro w1 o1 g1; have O1 : Hid (w1.ownsRow w.heap.size 44 2 (.slice (some ⟨w.heap.size, 0, none⟩) 0 ps.length) 0 []) := o1; have K1 : Hid (Kp (fun _ => False) w w1) := Kp.of_grown g1 (fun i e => by cases e); have d3 : w1.cell? ⟨fb, 3, none⟩ = some (.slice pao ps.length pcap) := (HST.out.kp K1.out (fun h => h)).cell 3; clear o1 g1))
  clear d3
  go_loopw [3, 5, 17] (fun v _ iv wr => ∃ k : Nat, k ≤ ps.length ∧ iv = .int .i64 k ∧ PcI w ps k v wr) (fun _ _ iv _ => ps.length - (intOf iv).toNat)
  case atStart => exact ⟨0, Nat.zero_le _, rfl, O1.out, K1.out⟩
  case round =>
    clear O1 K1
    obtain ⟨k, hk, rfl, hI⟩ := hrel
    have HI : Hid (PcI w ps k u3 wr) := hI
    clear hI
    by_cases hlt : k < ps.length
    · have hpw := HPR.out.kp HI.out.kp (fun _ _ h => h) (fun _ _ h => h)
      obtain ⟨g, off, cap', hpe, hgl, hgo, hcs⟩ := hpw.cells (by omega)
      obtain ⟨rfl, rfl⟩ : pao = some ⟨g, off, none⟩ ∧ pcap = cap' := by
        simp only [Value.slice.injEq] at hpe; exact ⟨hpe.1, hpe.2.2⟩
      obtain ⟨y0, y1⟩ := hcs k hlt
      have hbs := hpw.bs k hlt
      have hpb := HPB.out (ps.getD k (0, [])) (getD_mem2 ps k hlt)
      have HTK : Hid (pln (ps.take (k + 1)) = pln (ps.take k) ++ [((ps.getD k (0, [])).1, (ps.getD k (0, [])).2.length)]) := by show _ = _; rw [take_getP ps k hlt]; simp [pln]
      obtain ⟨⟨p, xs⟩, hpx⟩ : ∃ t, t = ps.getD k (0, []) := ⟨_, rfl⟩
      rw [← hpx] at y0 hbs hpb HTK
      dsimp only at y0 hbs hpb
      obtain ⟨pvv, hpvv⟩ : ∃ t, t = vs.getD k undef := ⟨_, rfl⟩
      rw [← hpvv] at y1 hbs
      obtain ⟨pg, po, pc, hpq, -, -, hxc, -⟩ := hbs.le
      subst hpq
      obtain ⟨xl, hxl⟩ : ∃ x, x = xs.length := ⟨_, rfl⟩
      have HTK2 : Hid (pln (ps.take (k + 1)) = pln (ps.take k) ++ [(p, xl)]) := by rw [hxl]; exact HTK.out
      rw [← hxl] at y1 hpb hxc
      clear hcs hpe hgo hbs hpx hpvv hxl hpw HTK
      have q0 : (wr.alloc (.cells #[.int .i64 p, .slice (some ⟨pg, po, none⟩) xl pc] 102)).cell? ⟨wr.heap.size, 0, none⟩ = some (.int .i64 p) := (St.new 102 wr #[.int .i64 p, .slice (some ⟨pg, po, none⟩) xl pc]).cell 0
      have q1 : (wr.alloc (.cells #[.int .i64 p, .slice (some ⟨pg, po, none⟩) xl pc] 102)).cell? ⟨wr.heap.size, 1, none⟩ = some (.slice (some ⟨pg, po, none⟩) xl pc) := (St.new 102 wr #[.int .i64 p, .slice (some ⟨pg, po, none⟩) xl pc]).cell 1
      obtain ⟨va, vc, hv⟩ := ownsRow_shape HI.out.row
      subst hv
      have HRO : Hid (((wr.alloc (.cells #[.int .i64 p, .slice (some ⟨pg, po, none⟩) xl pc] 102)).alloc (.cells #[.int .i64 p, .int .i64 xl] 44)).ownsRow w.heap.size 44 2 (.slice va k vc) k (plc (pln (ps.take k)))) := World.ownsRow.alloc (World.ownsRow.alloc HI.out.row _) _
      have HKA : Hid (Kp (fun _ => False) w ((wr.alloc (.cells #[.int .i64 p, .slice (some ⟨pg, po, none⟩) xl pc] 102)).alloc (.cells #[.int .i64 p, .int .i64 xl] 44))) := (HI.out.kp.alloc _).alloc _
      have HNC : Hid (∀ j u, [Value.int .i64 p, .int .i64 xl][j]? = some u → ((wr.alloc (.cells #[.int .i64 p, .slice (some ⟨pg, po, none⟩) xl pc] 102)).alloc (.cells #[.int .i64 p, .int .i64 xl] 44)).cell? ((⟨wr.heap.size + 1, 0, none⟩ : Addr).add j) = some u) := by
        intro j u hu
        have st := St.new 44 (wr.alloc (.cells #[.int .i64 p, .slice (some ⟨pg, po, none⟩) xl pc] 102)) #[.int .i64 p, .int .i64 xl]
        rw [World.size_alloc] at st
        rw [add_o, Nat.zero_add, st.cell]
        simpa using hu
      have HSZ : Hid (w.heap.size ≤ ((wr.alloc (.cells #[.int .i64 p, .slice (some ⟨pg, po, none⟩) xl pc] 102)).alloc (.cells #[.int .i64 p, .int .i64 xl] 44)).heap.size) := HKA.out.size
      clear HI
      go_wp2_with (first | (at_builtin; refine wpList_append_own _ rfl (.tmp 21) (.tmp 28) 82 rfl w.heap.size 44 i0 _ 2 16 Try.underlying82 hi hz0 hz1 hz2 rfl (by decide) (.slice va k vc) k (plc (pln (ps.take k))) rfl HRO.out ⟨wr.heap.size + 1, 0, none⟩ 1 1 [Value.int .i64 p, .int .i64 xl] rfl rfl HNC.out (by simp [Value.oneCell']) (by unfold maxLen; omega) (by omega) HSZ.out ?_; intro v' w' o3 g3 _; have HX : Hid (PcI w ps (k + 1) v' w') := (by refine ⟨?_, HKA.out.trans (Kp.of_grown (F := fun i => (Value.slice va k vc).ownBlock = some i) g3 (fun i e => e)) (fun i hi e => by have := (HRO.out.lt i e).1; omega)⟩; rw [HTK2.out, plc_append]; exact o3); clear o3 g3))
      exact ⟨⟨k + 1, hlt, rfl, HX.out⟩, by simp only [intOf]; omega⟩
    · have hnl : ¬ (k : Int) < (ps.length : Int) := by omega
      have hkN : k = ps.length := by omega
      subst hkN
      go_wp2
      go_ret
      exact ⟨u3, rfl, HI.out⟩
end Go.Proofs.Ytalicohflfildaa
