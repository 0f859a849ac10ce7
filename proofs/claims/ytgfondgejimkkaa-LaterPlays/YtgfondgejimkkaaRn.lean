/- later: runs of those that wait; sort.Search; shares. -/
import Derived.Test.YtgfondgejimkkaaTn
import Derived.Test.YtgfondgejimkkaaCn
namespace Go.Proofs.Ytgfondgejimkkaa
open Go.RowKit
set_option linter.unusedVariables false
set_option linter.unusedSimpArgs false
theorem flr_cons (x : Rn) (l : List Rn) : flr (x :: l) = .int .i64 x.a :: .int .i64 x.n :: flr l := rfl
theorem flr_set (l : List Rn) (k : Nat) (x : Rn) (hk : k < l.length) : ((flr l).set (k * 2) (.int .i64 x.a)).set (k * 2 + 1) (.int .i64 x.n) = flr (l.set k x) := by
  induction l generalizing k with
  | nil => simp at hk
  | cons y l ih =>
    cases k with
    | zero => rfl
    | succ k =>
      rw [flr_cons, List.set_cons_succ, flr_cons, show (k + 1) * 2 = k * 2 + 1 + 1 by omega, List.set_cons_succ, List.set_cons_succ, List.set_cons_succ, List.set_cons_succ, ih k (by simpa using hk)]
theorem rep_flr (n : Nat) : (madeCells (Value.agg #[.int .i64 0, .int .i64 0]).cells (n * 2)).toList = flr (List.replicate n zRn) := by
  apply List.ext_getElem?
  intro t
  by_cases ht : t < n * 2
  · have hi : t / 2 < (List.replicate n zRn).length := by simp; omega
    have g := flr_get (List.replicate n zRn) (t / 2) (t % 2) hi (Nat.mod_lt _ (by omega))
    rw [show t / 2 * 2 + t % 2 = t by omega] at g
    rw [g]
    have hz : (List.replicate n zRn).getD (t / 2) zRn = zRn := by
      rw [gd hi]; simp
    rw [hz]
    have hm : t % 2 = 0 ∨ t % 2 = 1 := by omega
    rcases hm with e | e
    · rw [e]; simp [madeCells, Value.cells, ht, e, Rn.cl, zRn]
    · rw [e]; simp [madeCells, Value.cells, ht, e, Rn.cl, zRn]
  · rw [List.getElem?_eq_none (by simp [madeCells]; omega), List.getElem?_eq_none (by rw [flr_len]; simp; omega)]
/-- A row whole. -/
def Rwr (w : World) (g : Nat) (l : List Rn) : Prop := St 38 w g (flr l).toArray
theorem Rwr.set {w : World} {g k : Nat} {l : List Rn} (h : Rwr w g l) (x : Rn) (hk : k < l.length) : Rwr ((w.setCell ⟨g, k * 2, none⟩ (.int .i64 x.a)).setCell ⟨g, k * 2 + 1, none⟩ (.int .i64 x.n)) g (l.set k x) := by
  unfold Rwr
  have h1 := (St.set h (k * 2) (.int .i64 x.a)).set (k * 2 + 1) (.int .i64 x.n)
  rw [← flr_set l k x hk]
  simpa using h1
theorem Rwr.cells {w : World} {g k : Nat} {l : List Rn} (h : Rwr w g l) (hk : k < l.length) : w.cell? ⟨g, k * 2, none⟩ = some (.int .i64 (l.getD k zRn).a) ∧ w.cell? ⟨g, k * 2 + 1, none⟩ = some (.int .i64 (l.getD k zRn).n) ∧ (∀ i, w.frozen? ⟨g, i, none⟩ = false) := by
  refine ⟨?_, ?_, fun i => St.frozen h i⟩
  · rw [St.cell h, List.getElem?_toArray]
    exact flr_get l k 0 hk (by omega)
  · rw [St.cell h, List.getElem?_toArray]
    exact flr_get l k 1 hk (by omega)
theorem Rwr.own {w : World} {g base : Nat} {l : List Rn} (h : Rwr w g l) (hb : base ≤ g) (hl : l.length ≤ maxLen) : Ownr w base (.slice (some ⟨g, 0, none⟩) l.length l.length) l :=
  ⟨flr_len l, .inr ⟨g, l.length, (flr l).toArray, rfl, hb, h, Nat.le_refl _, hl, by simp [flr_len], by simp [List.take_of_length_le, flr_len]⟩⟩
theorem own_full {w : World} {base g n : Nat} {xs : List Value} (h : w.ownsRow base 38 2 (.slice (some ⟨g, 0, none⟩) n n) n xs) : St 38 w g xs.toArray := by
  rcases h.2 with ⟨e0, _⟩ | ⟨g', cap', cur, e0, hb, hg, hn, hm, hs, ht⟩
  · cases e0
  · cases e0
    unfold St
    rw [hg]
    congr 2
    apply Array.ext'
    rw [← ht, List.take_of_length_le (by simp [hs])]
theorem set_drop_rep (A : List Rn) (m : Nat) (x : Rn) : (A ++ List.replicate (m + 1) zRn).set A.length x = A ++ [x] ++ List.replicate m zRn := by
  rw [List.set_append_right _ _ (Nat.le_refl _), Nat.sub_self, List.replicate_succ, List.set_cons_zero, List.append_assoc]
  rfl
set_option maxRecDepth 100000 in
set_option maxHeartbeats 4000000 in
theorem runs_any (c : Nat → Rn) (w : World) (ao : Option Addr) (m cap : Nat) (D : List Nat) (hm : m = D.length) (hm6 : m ≤ 100000) (hS : Srcp w ao D) (hw : ∀ b ∈ D, ∃ s, Wt c w b s) :
    Calls Try.prog 43 #[.slice ao m cap] w fun e w' => ∃ g, e = .returned (.slice (some ⟨g, 0, none⟩) m m) ∧ w.heap.size ≤ g ∧ Rwr w' g (D.map c) ∧ Kp (fun _ => False) w w' := by
  obtain ⟨i0, hi, hz0, hz1, hz2⟩ := info_parts Try.inf38
  have HS := hid hS
  have HW := hid hw
  have HM := hid hm
  clear hS hw hm
  go_enter Try.func43, Try.ntmps43
  go_wp2_with (at_make; refine wpList_make_full w rfl _ _ 22 rfl w.heap.size 38 i0 _ 2 Try.underlying22 hi hz0 hz1 .i64 .i64 _ _ m rfl rfl rfl rfl (by rw [hz2]; omega) (by unfold maxLen; omega) (Nat.le_refl _) ?_; intro w1 o1 g1; have O1 := hid o1; have K1 : Hid (Kp (fun _ => False) w w1) := Kp.of_grown g1 (fun i e => by cases e); clear o1 g1)
  have R1 : Hid (Rwr w1 w.heap.size (List.replicate m zRn)) := by
    have := own_full O1.out
    rw [rep_flr] at this
    exact this
  obtain ⟨G, hG⟩ : ∃ G, G = w.heap.size := ⟨_, rfl⟩
  rw [← hG] at R1 ⊢
  have HG := hid hG
  clear O1 hG
  go_loopw [11] (fun i wr => ∃ k : Nat, i = .int .i64 (k : Int) ∧ k ≤ m ∧ Hid (Rwr wr G ((D.take k).map c ++ List.replicate (m - k) zRn)) ∧ Hid (Kp (fun _ => False) w wr)) (fun i _ => m - (intOf i).toNat)
  case atStart => exact ⟨0, rfl, Nat.zero_le _, by simpa using R1, K1⟩
  case round =>
    clear R1 K1
    obtain ⟨k, rfl, hk, HR, HK⟩ := hrel
    by_cases hlt : k < m
    · have hkD : k < D.length := by have := HM.out; omega
      obtain ⟨gb, off, rfl, hgb, hc⟩ := (HS.out.kp HK.out (fun _ _ _ _ h => h)) (by omega)
      have x0 := hc k hkD
      unfold ptr at x0
      obtain ⟨s, hs⟩ := HW.out (D.getD k 0) (gn_mem hkD)
      have hs2 := St.kp hs HK.out (fun h => h)
      have y0 : wr.cell? ⟨D.getD k 0, 0, none⟩ = some (.int .i64 (c (D.getD k 0)).a) := hs2.cell 0
      have y1 : wr.cell? ⟨D.getD k 0, 1, none⟩ = some (.int .i64 (c (D.getD k 0)).n) := hs2.cell 1
      have hlen : ((D.take k).map c).length = k := by simp; omega
      have hl2 : ((D.take k).map c ++ List.replicate (m - k) zRn).length = m := by simp; omega
      obtain ⟨z0, z1, zf⟩ := HR.out.cells (k := k) (by omega)
      have zf0 := zf (k * 2)
      have zf1 := zf (k * 2 + 1)
      have hgl := St.lt HR.out
      have HNX : Hid (Rwr ((wr.setCell ⟨G, k * 2, none⟩ (.int .i64 (c (D.getD k 0)).a)).setCell ⟨G, k * 2 + 1, none⟩ (.int .i64 (c (D.getD k 0)).n)) G ((D.take (k + 1)).map c ++ List.replicate (m - (k + 1)) zRn)) := by
        have h1 := HR.out.set (k := k) (c (D.getD k 0)) (by omega)
        have e : ((D.take k).map c ++ List.replicate (m - k) zRn).set k (c (D.getD k 0)) = (D.take (k + 1)).map c ++ List.replicate (m - (k + 1)) zRn := by
          rw [show m - k = (m - (k + 1)) + 1 by omega]
          have := set_drop_rep ((D.take k).map c) (m - (k + 1)) (c (D.getD k 0))
          rw [hlen] at this
          rw [this, take_snoc' hkD, List.map_append]
          rfl
        rw [e] at h1
        exact h1
      have w0 : (wr.setCell ⟨G, k * 2, none⟩ (.int .i64 (c (D.getD k 0)).a)).cell? ⟨G, k * 2 + 1, none⟩ = some (.int .i64 (((D.take k).map c ++ List.replicate (m - k) zRn).getD k zRn).n) := by
        rw [World.cell?_setCell_other _ _ _ _ (by simp)]; exact z1
      generalize (((D.take k).map c ++ List.replicate (m - k) zRn).getD k zRn) = zz at *
      generalize D.getD k 0 = b at *
      clear hc hs hs2 hlen hl2 zf
      go_wp2_with fail
      go_roundw
      case rel => exact ⟨k + 1, by go_num, hlt, HNX, HK.out.trans ((kp_setCell _ G _ _ (fun i => i = G) rfl).trans (kp_setCell _ G _ _ (fun i => i = G) rfl) (fun _ _ h => h)) (fun i hi e => by have := HG.out; omega)⟩
      case measure => simp [intOf]; omega
    · obtain rfl : k = m := by omega
      have HR2 : Hid (Rwr wr G (D.map c)) := by
        have := HR.out
        rw [List.take_of_length_le (by have := HM.out; omega), Nat.sub_self, List.replicate_zero, List.append_nil] at this
        exact this
      go_wp2_with fail
      go_ret
      exact ⟨G, rfl, by have := HG.out; omega, HR2.out, HK.out⟩
end Go.Proofs.Ytgfondgejimkkaa
