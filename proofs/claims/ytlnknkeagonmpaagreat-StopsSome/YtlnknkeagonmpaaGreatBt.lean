/- both: a store on which some writes were done, and the document's. -/
import Derived.Test.YtlnknkeagonmpaaGreatPu
namespace Go.Proofs.YtlnknkeagonmpaaGreat
open Go.RowKit

def mst (m : List (ByteArray × Nat)) (t : Pu) : List (ByteArray × Nat) :=
  if t.fl then mfl (mwr (mcr m t.name) t.name t.at0 (pulen t)) t.name else mwr (mcr m t.name) t.name t.at0 (pulen t)
/-- What writes leave: names, and how many pieces of each. -/
def mpl (ts : List Pu) : List (ByteArray × Nat) := ts.foldl mst []
theorem mpl_next (ts : List Pu) (k : Nat) (hk : k < ts.length) : mpl (ts.take (k + 1)) = mst (mpl (ts.take k)) (ts.getD k zpu) := by
  rw [take_getP ts k hk]
  unfold mpl
  rw [List.foldl_append]
  rfl
theorem bo_new {w w1 : World} (h : Sr (fun i => i < w.heap.size) w1 (w.heap.size + 1) w.heap.size (.slice none 0 0) 0 [] [] [] 0) (k : Kp (fun _ => False) w w1) :
    BoX w.heap.size 0 (w1.alloc (.cells #[.slice none 0 0, .slice none 0 0, .int .i64 0] 67)) (w.heap.size + 1) w.heap.size w1.heap.size [] := by
  have k2 : Kp (fun _ => False) w1 (w1.alloc (.cells #[.slice none 0 0, .slice none 0 0, .int .i64 0] 67)) := (Kp.refl _ _).alloc _
  have hz := k.size
  have hz2 := k2.size
  refine ⟨_, _, 0, [], [], 0, (fun _ => False), .slice none 0 0, 0, [], h.kp k2 (fun _ _ h => h) (fun _ _ h => h), ⟨St.new 67 w1 _, World.ownsRow_nil _ _ _ _, fun x hx => by simp at hx, by simp [Value.ownBlock], fun _ h => h.elim, fun _ h => h.elim, Nat.zero_le _, Nat.zero_le _, fun x hx => by simp at hx, fun x hx => by simp at hx, fun x hx => by simp at hx⟩, List.Perm.refl _, ⟨fun i hi => ?_, fun i hi => ⟨by omega, by simp [Value.ownBlock]⟩, hz, fun i e => by simp [Value.ownBlock] at e⟩, by omega, List.Perm.refl _, Nat.le_refl _, Nat.le_refl _, Nat.le_refl _, fun f hf => by simp at hf⟩
  have h1 := h.lt i hi
  rcases mem_ownS.1 hi with h2 | h2 | h2 | ⟨f, hf, _⟩
  · exact ⟨by omega, by omega, by simp [Value.ownBlock], fun h => h⟩
  · exact ⟨by omega, by omega, by simp [Value.ownBlock], fun h => h⟩
  · simp [Value.ownBlock] at h2
  · simp at hf
set_option maxRecDepth 100000 in
set_option maxHeartbeats 8000000 in
theorem both_any (ts : List Pu) (ao : Option Addr) (cap : Nat) (w : World) (hS : PuS w ao ts) (hw : ∀ t ∈ ts, Pwf w.heap.size w t) (hf : few ts) :
    Calls Tryz.prog 7 #[.slice ao ts.length cap] w fun e w' => ∃ g fm g', e = .returned (.tuple #[.pointer (some ⟨g, 0, none⟩), .pointer (some ⟨g', 0, none⟩)]) ∧ BoX w.heap.size 180 w' g fm g' (mpl ts) ∧ Kp (fun _ => False) w w' := by
  have HS := hid hS
  have HW := hid hw
  have HF := hid hf
  have hlen := hf.1
  clear hS hw hf
  go_enter Tryz.func7, Tryz.ntmps7
  go_wp2_with fail
  refine (new_none w).mono ?_
  rintro _ w1 ⟨rfl, hs1, k1⟩
  go_wp2_with fail
  refine (rnew_any w1).mono ?_
  rintro _ w2 ⟨rfl, hw2⟩
  have hB := bo_new hs1 k1
  have k2 : Kp (fun _ => False) w (w1.alloc (.cells #[.slice none 0 0, .slice none 0 0, .int .i64 0] 67)) := k1.alloc _
  rw [← hw2] at hB k2
  have HB0 := hid hB
  have HK0 := hid k2
  generalize w.heap.size + 1 = g at *
  generalize hg' : w1.heap.size = g' at *
  clear hs1 k1 hB k2 hw2
  go_wp2_with fail
  go_loopw [7] (fun iv wr => ∃ k : Nat, k ≤ ts.length ∧ iv = .int .i64 k ∧ BoX w.heap.size (3 * k) wr g w.heap.size g' (mpl (ts.take k)) ∧ Kp (fun _ => False) w wr) (fun iv _ => ts.length - (intOf iv).toNat)
  case atStart => exact ⟨0, Nat.zero_le _, rfl, HB0.out, HK0.out⟩
  case round =>
    clear HB0 HK0
    obtain ⟨k, hk, rfl, hbx, hkp⟩ := hrel
    have HBX := hid hbx
    have HKP := hid hkp
    clear hbx hkp
    by_cases hlt : k < ts.length
    · have hli : (k : Int) < (ts.length : Int) := by omega
      obtain ⟨b, off, hao, hb, _⟩ := HS.out.at hlt
      subst hao
      have HAT : ∀ W, Hid (Kp (fun _ => False) w W) → W.cell? ⟨b, off + k * 4, none⟩ = some (.string (ts.getD k zpu).name) ∧ W.cell? ⟨b, off + k * 4 + 1, none⟩ = some (.int .i64 (ts.getD k zpu).at0) ∧ W.cell? ⟨b, off + k * 4 + 2, none⟩ = some (ts.getD k zpu).bv ∧ W.cell? ⟨b, off + k * 4 + 3, none⟩ = some (.bool (ts.getD k zpu).fl) := by
        intro W hW
        obtain ⟨b', off', e, _, hc⟩ := (HS.out.kp hW.out (fun _ _ h => h)).at hlt
        cases e
        exact hc
      have HTK := hid (mpl_next ts k hlt)
      have HPW := hid (HW.out _ (getD_memP ts k hlt))
      have hfw := HF.out.2 _ (getD_memP ts k hlt)
      generalize ts.getD k zpu = t at *
      obtain ⟨nm, a0, bv, fl⟩ := t
      obtain ⟨ba, bc, xs, e1, hxc, hsx, _, hxb⟩ := HPW.out.bs
      have hnm := HPW.out.nm
      dsimp only at e1 hnm hfw HAT
      subst e1
      have hxl : xs.length ≤ 40000 := hfw.2
      have hal := hfw.1
      have HXB := hid hxb
      have HSX : ∀ W, Hid (Kp (fun _ => False) w W) → Src .u8 W ba xs := by
        intro W hW hp
        obtain ⟨b', off', e, hc⟩ := hsx hp
        exact ⟨b', off', e, fun i hi => kp_cell hW.out (hc i hi) (fun h => h)⟩
      generalize mpl (ts.take k) = mk at *
      clear hfw hxb HPW hsx
      obtain ⟨y0, -, -, -⟩ := HAT wr HKP
      go_wp2_with fail
      refine (create_two w.heap.size (3 * k) wr g w.heap.size g' mk HBX.out (by omega) nm hnm).mono ?_
      rintro _ w3 ⟨⟨z3, rfl⟩, k3, hc3⟩
      have K3 : Hid (Kp (fun _ => False) w w3) := HKP.out.trans k3 (fun i h1 h2 => by omega)
      have HC3 := hid hc3
      clear k3 hc3 y0
      obtain ⟨y0, -, -, -⟩ := HAT w3 K3
      go_wp2_with fail
      refine HC3.out.mono ?_
      rintro _ w4 ⟨⟨z4, rfl⟩, k4, hb4⟩
      have K4 : Hid (Kp (fun _ => False) w w4) := K3.out.trans k4 (fun i h1 h2 => by omega)
      have HB4 := hid hb4
      clear k4 hb4 y0 HC3 HBX K3
      obtain ⟨y0, y1, y2, -⟩ := HAT w4 K4
      go_wp2_with fail
      refine wp_region_tail hmix (by kernel_rfl) ?_
      dsimp only [List.dropLast, List.getLast]
      repeat (gi_big_quiet_step (fail))
      refine wpQuietIn_nil ?_
      intro _ hw'
      obtain ⟨nqa, hw2⟩ := hw'
      subst hw2
      have kqa := hid (drewN_kp (fun _ => False) w4 nqa)
      generalize w4.drewN nqa = X4 at *
      have KX4 : Hid (Kp (fun _ => False) w X4) := K4.out.trans kqa.out (fun _ _ h => h)
      clear y0 y1 y2
      gi_wp2_with fail
      refine ⟨trivial, rfl, ?_⟩
      refine (callsIn_wide.2 (write_two w.heap.size (3 * k + 1) X4 g w.heap.size g' (mcr mk nm) (HB4.out.kp kqa.out) (by omega) nm hnm a0 hal xs.length bc ba xs rfl hxl hxc (HSX X4 KX4) (fun h1 b off e => HXB.out b off e h1))).mono ?_
      rintro _ w5 ⟨⟨z5, rfl⟩, k5, hc5⟩
      have K5 : Hid (Kp (fun _ => False) w w5) := KX4.out.trans k5 (fun i h1 h2 => by omega)
      have HC5 := hid hc5
      clear k5 hc5 HB4 kqa K4 KX4
      obtain ⟨y0, y1, y2, y3⟩ := HAT w5 K5
      gi_wp2
      go_wp2_with fail
      refine wp_region_tail hmix (by kernel_rfl) ?_
      dsimp only [List.dropLast, List.getLast]
      repeat (gi_big_quiet_step (fail))
      refine wpQuietIn_nil ?_
      intro _ hw'
      obtain ⟨nqb, hw2⟩ := hw'
      subst hw2
      have kqb := hid (drewN_kp (fun _ => False) w5 nqb)
      generalize w5.drewN nqb = X5 at *
      have KX5 : Hid (Kp (fun _ => False) w X5) := K5.out.trans kqb.out (fun _ _ h => h)
      clear y0 y1 y2 y3
      gi_wp2_with fail
      refine ⟨trivial, rfl, ?_⟩
      refine (callsIn_wide.2 (HC5.out X5 kqb.out)).mono ?_
      rintro _ w6 ⟨⟨z6, rfl⟩, k6, hb6⟩
      have K6 : Hid (Kp (fun _ => False) w w6) := KX5.out.trans k6 (fun i h1 h2 => by omega)
      have HB6 := hid hb6
      clear k6 hb6 HC5 kqb K5 KX5
      obtain ⟨y0, -, -, y3⟩ := HAT w6 K6
      gi_wp2
      cases fl with
      | false =>
        go_wp2_with fail
        refine ⟨⟨k + 1, by omega, rfl, ?_, K6.out⟩, by simp only [intOf]; omega⟩
        rw [HTK.out]
        exact HB6.out.le (by omega)
      | true =>
        go_wp2_with fail
        refine (flush_two w.heap.size (3 * k + 1 + 1) w6 g w.heap.size g' _ HB6.out (by omega) nm hnm).mono ?_
        rintro _ w7 ⟨⟨z7, rfl⟩, k7, hc7⟩
        have K7 : Hid (Kp (fun _ => False) w w7) := K6.out.trans k7 (fun i h1 h2 => by omega)
        have HC7 := hid hc7
        clear k7 hc7 y0 y3
        obtain ⟨y0, -, -, -⟩ := HAT w7 K7
        go_wp2_with fail
        refine HC7.out.mono ?_
        rintro _ w8 ⟨⟨z8, rfl⟩, k8, hb8⟩
        have K8 : Hid (Kp (fun _ => False) w w8) := K7.out.trans k8 (fun i h1 h2 => by omega)
        have HB8 := hid hb8
        clear k8 hb8 y0 HC7
        go_wp2_with fail
        refine ⟨⟨k + 1, by omega, rfl, ?_, K8.out⟩, by simp only [intOf]; omega⟩
        rw [HTK.out]
        exact HB8.out.le (by omega)
    · obtain rfl : k = ts.length := by omega
      have hli : ¬ (ts.length : Int) < (ts.length : Int) := by omega
      go_wp2_with fail
      go_ret2
      rw [List.take_length] at HBX
      exact ⟨g, w.heap.size, g', rfl, HBX.out.le (by omega), HKP.out⟩
end Go.Proofs.YtlnknkeagonmpaaGreat
