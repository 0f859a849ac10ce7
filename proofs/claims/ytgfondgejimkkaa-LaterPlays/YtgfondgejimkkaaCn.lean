/- later: slices.Grow, slices.Concat of rows of runs. -/
import Derived.Test.YtgfondgejimkkaaLp
import Derived.Test.YtgfondgejimkkaaNa
import Derived.Lib.AppendZeros
import Derived.Lib.AppendZerosOnto
namespace Go.Proofs.Ytgfondgejimkkaa
open Go.RowKit
set_option linter.unusedVariables false
set_option linter.unusedSimpArgs false
theorem Ownr.kp {F : Nat → Prop} {w w' : World} {base : Nat} {v : Value} {l : List Rn} (h : Ownr w base v l) (k : Kp F w w') (hg : ∀ g, v.ownBlock = some g → ¬ F g) : Ownr w' base v l := own_kp h k hg
theorem Ownr.blk {w : World} {base g : Nat} {v : Value} {l : List Rn} (h : Ownr w base v l) (e : v.ownBlock = some g) : base ≤ g ∧ g < w.heap.size ∧ ∃ cur, w.heap[g]? = some (.cells cur 38 (0, 0)) := by
  rcases h.2 with ⟨rfl, _⟩ | ⟨g', cap, cur, rfl, h1, h2, _⟩
  · simp [Value.ownBlock] at e
  · simp [Value.ownBlock] at e
    subst e
    exact ⟨h1, (Array.getElem?_eq_some_iff.1 h2).1, cur, h2⟩
set_option maxRecDepth 100000 in
set_option maxHeartbeats 4000000 in
theorem grow_any (n : Nat) (w : World) (hn : n ≤ 1000000) : Calls Try.prog 67 #[.slice none 0 0, .int .i64 (n : Int)] w fun e w' => ∃ v, e = .returned v ∧ Ownr w' w.heap.size v [] ∧ Kp (fun _ => False) w w' := by
  by_cases h0 : n = 0
  · subst h0
    go_enter Try.func67, Try.ntmps67
    go_wp2
    go_ret
    exact ⟨_, rfl, Ownr.nil _ _, Kp.refl _ _⟩
  · obtain ⟨i0, hi, hz0, hz1, hz2⟩ := info_parts Try.inf38
    have hr := Lib.run_append_nil_zeros w 22 3 22 38 i0 _ .i64 .i64 Try.underlying22 Try.underlying3 hi hz0 n (by omega) (by rw [hz1]; omega) (by omega) (by rw [hz2]; omega)
    have hc1 := grownCap_ge w n 0 38
    have hc2 := grownCap_le_maxLen w n 0 38 (by unfold maxLen; omega)
    have hO : Hid (Ownr (w.drew.alloc (.cells (Builtin.zeroCells (Value.agg #[.int .i64 0, .int .i64 0]).cells n ++ Builtin.zeroCells (Value.agg #[.int .i64 0, .int .i64 0]).cells (grownCap w n 0 38 - n)) 38)) w.heap.size (.slice (some ⟨w.heap.size, 0, none⟩) 0 (grownCap w n 0 38)) []) := by
      refine ⟨rfl, .inr ⟨w.heap.size, grownCap w n 0 38, _, rfl, Nat.le_refl _, heap_alloc_new _ _, Nat.zero_le _, hc2, ?_, by simp [flr]⟩⟩
      rw [Array.size_append, size_zeroCells, size_zeroCells]
      simp [Value.cells]
      omega
    have hK : Hid (Kp (fun _ => False) w (w.drew.alloc (.cells (Builtin.zeroCells (Value.agg #[.int .i64 0, .int .i64 0]).cells n ++ Builtin.zeroCells (Value.agg #[.int .i64 0, .int .i64 0]).cells (grownCap w n 0 38 - n)) 38))) := ((Kp.refl _ _).drew).alloc _
    generalize grownCap w n 0 38 = cp at *
    generalize w.drew.alloc (.cells (Builtin.zeroCells (Value.agg #[.int .i64 0, .int .i64 0]).cells n ++ Builtin.zeroCells (Value.agg #[.int .i64 0, .int .i64 0]).cells (cp - n)) 38) = W1 at *
    have hp : (0 : Int) < (n : Int) := by omega
    have hcm : cp ≤ 9223372036854775807 := by unfold maxLen at hc2; omega
    go_enter Try.func67, Try.ntmps67
    go_wp2_with (at_builtin; refine Lib.wpList_append_run _ rfl _ _ _ _ rfl _ _ rfl rfl _ _ hr ?_)
    go_ret
    exact ⟨_, rfl, hO.out, hK.out⟩
/-- append of a row that is read onto a row of one's own. -/
theorem wpList_append_rr {w : World} {ops : Array Oper} {rest : List Oper} {o : Oper} {a : Act} {Q : Exit → Act → World → Prop} (hgd : o.guard = none) (s x : Operand) (ho : o.op = .call { callee := .builtin .append, args := #[s, x], argTypes := #[22, 22] }) (base : Nat) (v : Value) (l : List Rn) (hs : a.eval s = v) (hown : Ownr w base v l)
    (ao : Option Addr) (m c : Nat) (M : List Rn) (hm : m = M.length) (hx : a.eval x = .slice ao m c) (hnone : ao = none → c = 0) (hS : Srcr w ao M) (hlen : l.length + m ≤ 1000000) (hbase : base ≤ w.heap.size)
    (h : ∀ v' w', Ownr w' base v' (l ++ M) → Kp (fun i => v.ownBlock = some i) w w' → (v'.ownBlock = v.ownBlock ∨ v'.ownBlock = some w.heap.size) → wpList Try.prog ops Q rest (a.put o.dst v') w') : wpList Try.prog ops Q (o :: rest) a w := by
  refine wpList_append_any hgd s x 22 ho base 38 _ 2 16 Try.underlying22 Try.inf38 rfl (by decide) v l.length (flr l) hs hown ao m c (flr M) hx (fun e => ⟨?_, hnone e⟩) (by rw [flr_len, hm]) hS.news (flr_one M) (by unfold maxLen; omega) (by omega) hbase (fun v' w' h1 h2 h3 => h v' w' ?_ h2 h3)
  · subst e
    by_cases h0 : M.length = 0
    · omega
    · obtain ⟨b, off, e, _⟩ := hS (by omega)
      cases e
  · unfold Ownr
    rw [flr_append, List.length_append, ← hm]
    exact h1
/-- Lists of runs, as a row of slices. -/
structure Sll where
  ao : Option Addr
  cap : Nat
  l : List Rn
def Sll.v (s : Sll) : Value := .slice s.ao s.l.length s.cap
def Sll.ok (w : World) (s : Sll) : Prop := Srcr w s.ao s.l ∧ (s.ao = none → s.cap = 0)
def cat (Ls : List Sll) : List Rn := Ls.flatMap Sll.l
def zSl : Sll := ⟨none, 0, []⟩
set_option maxRecDepth 100000 in
set_option maxHeartbeats 4000000 in
theorem concat_any (w : World) (g n cap : Nat) (Ls : List Sll) (hn : n = Ls.length) (hn2 : n ≤ 2) (hg : St 22 w g (Ls.map Sll.v).toArray) (hok : ∀ s ∈ Ls, s.ok w) (hlen : (cat Ls).length ≤ 1000000) :
    Calls Try.prog 57 #[.slice (some ⟨g, 0, none⟩) n cap] w fun e w' => ∃ v, e = .returned v ∧ Ownr w' w.heap.size v (cat Ls) ∧ Kp (fun _ => False) w w' := by
  have HG := hid hg
  have HOK := hid hok
  have HN := hid hn
  have HC : Hid (∀ U, Kp (fun _ => False) w U → ∀ i, i < n → U.cell? ⟨g, i, none⟩ = some (.slice (Ls.getD i zSl).ao (Ls.getD i zSl).l.length (Ls.getD i zSl).cap)) := fun U hU i hi => by
    rw [(HG.out.kp hU (fun h => h)).cell i]
    have : i < Ls.length := by omega
    simp [List.getD, this, Sll.v]
  have HCT : Hid (∀ i, i < n → cat (Ls.take (i + 1)) = cat (Ls.take i) ++ (Ls.getD i zSl).l) := fun i hi => by
    have : i < Ls.length := by omega
    rw [show Ls.take (i + 1) = Ls.take i ++ [Ls.getD i zSl] by rw [List.take_add_one]; simp [List.getD, this]]
    unfold cat
    rw [List.flatMap_append]
    simp
  have HPL : Hid (∀ i, (cat (Ls.take i)).length ≤ (cat Ls).length) := fun i => by
    have : cat Ls = cat (Ls.take i) ++ cat (Ls.drop i) := by
      unfold cat
      rw [← List.flatMap_append, List.take_append_drop]
    rw [this, List.length_append]
    omega
  have HGR := hid (grow_any (cat Ls).length w hlen)
  clear hg hok hn
  go_enter Try.func57, Try.ntmps57
  go_wp2_with fail
  go_loopw [3, 11] (fun a i wr => ∃ k : Nat, i = .int .i64 (k : Int) ∧ a = .int .i64 ((cat (Ls.take k)).length : Int) ∧ k ≤ n ∧ wr = w) (fun _ i _ => n - (intOf i).toNat)
  case atStart => exact ⟨0, rfl, by simp [cat], Nat.zero_le _, rfl⟩
  case round =>
    obtain ⟨k, rfl, rfl, hk, rfl⟩ := hrel
    by_cases hlt : k < n
    · have x0 := HC.out wr (Kp.refl _ _) k hlt
      have hl1 := HPL.out (k + 1)
      have HE := hid (HCT.out k hlt)
      have hl2 : (cat (Ls.take (k + 1))).length = (cat (Ls.take k)).length + (Ls.getD k zSl).l.length := by rw [HE.out, List.length_append]
      generalize (Ls.getD k zSl) = s at *
      obtain ⟨sa, sc, sl⟩ := s
      dsimp only at *
      have HL2 := hid hl2
      generalize (cat (Ls.take k)).length = N1 at *
      generalize sl.length = N2 at *
      have hw : IntKind.i64.wrap ((N1 : Int) + (N2 : Int)) = (N1 : Int) + (N2 : Int) := by rw [IntKind.wrap_i64]; omega
      clear hl2
      go_wp2_with fail
      go_roundw
      case rel => exact ⟨k + 1, by go_num, by rw [HL2.out]; go_num, hlt, by simp⟩
      case measure => simp [intOf]; omega
    · obtain rfl : k = n := by omega
      rw [show Ls.take k = Ls from List.take_of_length_le (by have := HN.out; omega)]
      go_wp2_with (first | (go_at_call 67; refine HGR.out.mono ?_; rintro e w1 ⟨v1, rfl, o1, k1⟩; have O1 := hid o1; have K1 := hid k1; clear o1 k1))
      obtain ⟨wm, hwm⟩ : ∃ wm, wm = wr := ⟨_, rfl⟩
      subst hwm
      go_loopw [6, 27] (fun a i wq => ∃ j : Nat, i = .int .i64 (j : Int) ∧ j ≤ k ∧ Hid (Ownr wq wm.heap.size a (cat (Ls.take j))) ∧ Hid (Kp (fun _ => False) wm wq)) (fun _ i _ => k - (intOf i).toNat)
      case atStart => exact ⟨0, rfl, Nat.zero_le _, by show Ownr _ _ _ _; simpa [cat] using O1.out, K1⟩
      case round =>
        clear O1 K1
        obtain ⟨j, rfl, hj, HO, HK⟩ := hrel
        by_cases hlt2 : j < k
        · have x0 := HC.out wr HK.out j hlt2
          have hl1 := HPL.out (j + 1)
          have HE := hid (HCT.out j hlt2)
          have hl2 : (cat (Ls.take (j + 1))).length = (cat (Ls.take j)).length + (Ls.getD j zSl).l.length := by rw [HE.out, List.length_append]
          have HSR : Hid ((Ls.getD j zSl).ok wr) := by
            have hjl : j < Ls.length := by have := HN.out; omega
            have := HOK.out (Ls.getD j zSl) (by simp [List.getD, hjl])
            exact ⟨this.1.kp HK.out (fun _ _ _ _ h => h), this.2⟩
          generalize (Ls.getD j zSl) = s at *
          obtain ⟨sa, sc, sl⟩ := s
          dsimp only at *
          have hsz := HK.out.size
          have HB : Hid (∀ g, u6.ownBlock = some g → wm.heap.size ≤ g) := fun g e => (HO.out.blk e).1
          go_wp2_with (at_builtin; refine wpList_append_rr rfl _ _ rfl wm.heap.size u6 (cat (Ls.take j)) rfl HO.out sa sl.length sc sl rfl rfl HSR.out.2 HSR.out.1 (by omega) hsz ?_; intro v2 w2 o2 k2 _; have O2 := hid o2; have K2 : Hid (Kp (fun _ => False) wm w2) := HK.out.trans k2 (fun i hi e => by have := HB.out i e; omega); clear o2 k2)
          go_roundw
          case rel => exact ⟨j + 1, by go_num, hlt2, by rw [HE.out]; exact O2.out, K2⟩
          case measure => simp [intOf]; omega
        · obtain rfl : j = k := by omega
          rw [show Ls.take j = Ls from List.take_of_length_le (by have := HN.out; omega)] at HO
          go_wp2_with fail
          go_ret
          exact ⟨_, rfl, HO.out, HK.out⟩
end Go.Proofs.Ytgfondgejimkkaa
