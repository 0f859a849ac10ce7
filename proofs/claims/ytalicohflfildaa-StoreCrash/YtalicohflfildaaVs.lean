/- vast: is more asked than is done here? -/
import Derived.Test.YtalicohflfildaaTs
namespace Go.Proofs.Ytalicohflfildaa
open Go.RowKit

def blen (t : Stp) : Nat := match t.bv with
  | .slice _ n _ => n
  | _ => 0
theorem getD_memS (ts : List Stp) (k : Nat) (h : k < ts.length) : ts.getD k zst ∈ ts := by
  rw [List.getD_eq_getElem?_getD, List.getElem?_eq_getElem h]
  exact List.getElem_mem h
/-- What lies at a step's place. -/
theorem SSrc.at {w : World} {ao : Option Addr} {ts : List Stp} (h : SSrc w ao ts) {k : Nat} (hk : k < ts.length) : ∃ b off, ao = some ⟨b, off, none⟩ ∧ b < w.heap.size ∧ w.cell? ⟨b, off + k * 7, none⟩ = some (.int .i64 (ts.getD k zst).kind) ∧ w.cell? ⟨b, off + k * 7 + 1, none⟩ = some (.int .i64 (ts.getD k zst).n) ∧ w.cell? ⟨b, off + k * 7 + 2, none⟩ = some (.int .i64 (ts.getD k zst).at0) ∧ w.cell? ⟨b, off + k * 7 + 3, none⟩ = some (.string (ts.getD k zst).name) ∧ w.cell? ⟨b, off + k * 7 + 4, none⟩ = some (ts.getD k zst).bv ∧ w.cell? ⟨b, off + k * 7 + 5, none⟩ = some (ts.getD k zst).fv ∧ w.cell? ⟨b, off + k * 7 + 6, none⟩ = some (ts.getD k zst).pv := by
  obtain ⟨b, off, e, hb, hc⟩ := h (by omega)
  exact ⟨b, off, e, hb, hc k hk 0 (by omega), hc k hk 1 (by omega), hc k hk 2 (by omega), hc k hk 3 (by omega), hc k hk 4 (by omega), hc k hk 5 (by omega), hc k hk 6 (by omega)⟩
def flen (t : Stp) : Nat := match t.fv with
  | .slice _ n _ => n
  | _ => 0
/-- What vast tells. -/
def VsP (N : Nat) (ts : List Stp) (w : World) (e : Ending) (w' : World) : Prop := ∃ b, e = .returned (.bool b) ∧ (b = false → N ≤ 120 ∧ ∀ t ∈ ts, blen t ≤ 3000 ∧ flen t ≤ 60) ∧ Kp (fun _ => False) w w'
set_option maxRecDepth 100000 in
set_option maxHeartbeats 8000000 in
theorem vast_any (B : Nat) (ts : List Stp) (ao : Option Addr) (N cap : Nat) (w : World) (hN : N = ts.length) (hS : SSrc w ao ts) (hw : ∀ t ∈ ts, Swf B w t) :
    Calls Try.prog 6 #[.slice ao N cap] w fun e w' => VsP N ts w e w' := by
  have HN : Hid (N = ts.length) := hN
  have HS : Hid (SSrc w ao ts) := hS
  have HW : Hid (∀ t ∈ ts, Swf B w t) := hw
  clear hN hS hw
  by_cases h120 : 120 < N
  · have hi : (120 : Int) < (N : Int) := by omega
    go_enter Try.func6, Try.ntmps6
    go_wp2
    go_ret
    exact ⟨true, rfl, (fun h => by cases h), Kp.refl _ _⟩
  · have hi : ¬ (120 : Int) < (N : Int) := by omega
    go_enter Try.func6, Try.ntmps6
    go_wp2_with fail
    go_loopw [3, 4] (fun iv _ wr => ∃ k : Nat, k ≤ N ∧ iv = .int .i64 k ∧ (∀ t ∈ ts.take k, blen t ≤ 3000 ∧ flen t ≤ 60) ∧ Kp (fun _ => False) w wr) (fun iv _ _ => N - (intOf iv).toNat)
    case atStart => exact ⟨0, Nat.zero_le _, rfl, fun t ht => (by simp at ht), Kp.refl _ _⟩
    case round =>
      obtain ⟨k, hk, rfl, hbl, hkp⟩ := hrel
      have HBL : Hid (∀ t ∈ ts.take k, blen t ≤ 3000 ∧ flen t ≤ 60) := hbl
      have HKP : Hid (Kp (fun _ => False) w wr) := hkp
      clear hbl hkp
      by_cases hlt : k < N
      · have hlt2 : k < ts.length := by have := HN.out; omega
        obtain ⟨b, off, hao, hb, y0, y1, y2, y3, y4, y5, y6⟩ := (HS.out.kp HKP.out (fun _ _ _ _ h => h)).at hlt2
        obtain ⟨t, ht⟩ : ∃ t, t = ts.getD k zst := ⟨_, rfl⟩
        have htm := HW.out _ (getD_memS ts k hlt2)
        have HTK : Hid (ts.take (k + 1) = ts.take k ++ [ts.getD k zst]) := by show _ = _; rw [List.getD_eq_getElem?_getD, List.getElem?_eq_getElem hlt2]; simp
        rw [← ht] at y0 y1 y2 y3 y4 y5 y6 htm HTK
        obtain ⟨kd, n, a0, nm, bv, fv, pv⟩ := t
        obtain ⟨⟨ba, bc, xs, e1, -, -, -, -⟩, ⟨fa, fl, fc, e2, hfl⟩, ⟨pa, pl, pc, e3, hpl⟩, -, -, -⟩ := htm
        dsimp only at e1 e2 e3 y0 y1 y2 y3 y4 y5 y6
        subst e1 e2 e3 hao
        generalize xs.length = bl at *
        have HBT : Hid (bl ≤ 3000 → fl ≤ 60 → ∀ t ∈ ts.take (k + 1), blen t ≤ 3000 ∧ flen t ≤ 60) := by
          intro h h' t ht
          rw [HTK.out] at ht
          rcases List.mem_append.1 ht with h1 | h1
          · exact HBL.out t h1
          · rw [List.mem_singleton.1 h1]; exact ⟨h, h'⟩
        clear ht HTK HBL
        have Q := St.new 47 wr #[.int .i64 kd, .int .i64 n, .int .i64 a0, .string nm, .slice ba bl bc, .slice fa fl fc, .slice pa pl pc]
        have q0 := Q.cell 0
        have q1 := Q.cell 1
        have q2 := Q.cell 2
        have q4 := Q.cell 4
        have q5 := Q.cell 5
        have q6 := Q.cell 6
        simp only [List.getElem?_toArray, List.getElem?_cons_zero, List.getElem?_cons_succ] at q0 q1 q2 q4 q5 q6
        have KA : Hid (Kp (fun _ => False) w (wr.alloc (.cells #[.int .i64 kd, .int .i64 n, .int .i64 a0, .string nm, .slice ba bl bc, .slice fa fl fc, .slice pa pl pc] 47))) := HKP.out.alloc _
        clear Q
        by_cases hb3 : 3000 < bl
        · have b3 : (3000 : Int) < (bl : Int) := by omega
          go_wp2
          go_ret
          exact ⟨true, rfl, (fun h => by cases h), KA.out⟩
        · have b3 : ¬ (3000 : Int) < (bl : Int) := by omega
          by_cases hf6 : 60 < fl
          · have f6 : (60 : Int) < (fl : Int) := by omega
            go_wp2
            go_ret
            exact ⟨true, rfl, (fun h => by cases h), KA.out⟩
          · have f6 : ¬ (60 : Int) < (fl : Int) := by omega
            by_cases hp3 : 300 < pl
            · have p3 : (300 : Int) < (pl : Int) := by omega
              go_wp2
              go_ret
              exact ⟨true, rfl, (fun h => by cases h), KA.out⟩
            · have p3 : ¬ (300 : Int) < (pl : Int) := by omega
              by_cases k3 : kd = 3
              · subst k3
                by_cases hv : a0 ≤ 20000
                · have v1 : ¬ (20000 : Int) < a0 := by omega
                  go_wp2
                  exact ⟨⟨k + 1, hlt, rfl, HBT.out (by omega) (by omega), KA.out⟩, by simp only [intOf]; omega⟩
                · by_cases hv2 : a0 ≤ 268435456
                  · have v1 : (20000 : Int) < a0 := by omega
                    go_wp2
                    go_ret
                    exact ⟨true, rfl, (fun h => by cases h), KA.out⟩
                  · have v1 : (20000 : Int) < a0 := by omega
                    go_wp2
                    exact ⟨⟨k + 1, hlt, rfl, HBT.out (by omega) (by omega), KA.out⟩, by simp only [intOf]; omega⟩
              · by_cases k5 : kd = 5
                · subst k5
                  by_cases hv : n ≤ 20000
                  · have v1 : ¬ (20000 : Int) < n := by omega
                    go_wp2
                    exact ⟨⟨k + 1, hlt, rfl, HBT.out (by omega) (by omega), KA.out⟩, by simp only [intOf]; omega⟩
                  · by_cases hv2 : n ≤ 268435456
                    · have v1 : (20000 : Int) < n := by omega
                      go_wp2
                      go_ret
                      exact ⟨true, rfl, (fun h => by cases h), KA.out⟩
                    · have v1 : (20000 : Int) < n := by omega
                      go_wp2
                      exact ⟨⟨k + 1, hlt, rfl, HBT.out (by omega) (by omega), KA.out⟩, by simp only [intOf]; omega⟩
                · go_wp2
                  exact ⟨⟨k + 1, hlt, rfl, HBT.out (by omega) (by omega), KA.out⟩, by simp only [intOf]; omega⟩
      · have hnl : ¬ (k : Int) < (N : Int) := by omega
        have hkN : k = N := by omega
        have HF : Hid (∀ t ∈ ts, blen t ≤ 3000 ∧ flen t ≤ 60) := by
          have := HBL.out
          rw [List.take_of_length_le (by have := HN.out; omega)] at this
          exact this
        go_wp2
        go_ret
        exact ⟨false, rfl, fun _ => ⟨by omega, HF.out⟩, HKP.out⟩
end Go.Proofs.Ytalicohflfildaa
