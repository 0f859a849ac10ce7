/- Contract of wire.Join: the fields' bytes, one behind the other, in memory of its own; nothing that was there turns. -/
import Derived.Test.YtjjhkfhppoioiaaKb
import Derived.Laws.MakeOwn
namespace Go.Proofs.Ytjjhkfhppoioiaa
open Go.RowKit

/-- The first k fields' bytes, one behind the other. -/
def cat (F : Nat → List Int) : Nat → List Int
  | 0 => []
  | k + 1 => cat F k ++ F k
theorem cat_le (F : Nat → List Int) (h : ∀ r, (F r).length ≤ 1000) (k : Nat) : (cat F k).length ≤ 1000 * k := by
  induction k with
  | zero => simp [cat]
  | succ k ih => have := h k; simp [cat]; omega
theorem cat_mono (F : Nat → List Int) {j k : Nat} (h : j ≤ k) : (cat F j).length ≤ (cat F k).length := by
  induction k with
  | zero => obtain rfl : j = 0 := by omega
            exact Nat.le_refl _
  | succ k ih =>
    by_cases e : j = k + 1
    · subst e; exact Nat.le_refl _
    · have := ih (by omega); simp [cat]; omega
theorem cat_byt (F : Nat → List Int) (h : ∀ r, Byt (F r)) (k : Nat) : Byt (cat F k) := by
  induction k with
  | zero => intro z hz; simp [cat] at hz
  | succ k ih => exact ih.append (h k)

/-- Fields that lie in memory: the row of slices, and each one's bytes. -/
def Flds (w : World) (b off len : Nat) (F : Nat → List Int) (A : Nat → Option Addr) (C : Nat → Nat) : Prop :=
  ∀ r, r < len → w.cell? ⟨b, off + r, none⟩ = some (.slice (A r) (F r).length (C r)) ∧ Src w (A r) (F r) ∧ (A r = none → C r = 0)
theorem Flds.below {w w' : World} {b off len : Nat} {F : Nat → List Int} {A : Nat → Option Addr} {C : Nat → Nat} (h : Flds w b off len F A C) (hb : Below w.heap.size w w') : Flds w' b off len F A C := by
  intro r hr
  obtain ⟨h1, h2, h3⟩ := h r hr
  have hlt := block_lt_of_cell h1
  exact ⟨by rw [← h1]; exact hb.cell hlt, h2.below hb, h3⟩

theorem made_cells (n : Nat) : madeCells #[.int .u8 0] n = ((List.replicate n (0 : Int)).map (Value.int .u8)).toArray := by
  apply Array.ext'
  apply List.ext_getElem?
  intro i
  by_cases hi : i < n
  · simp [madeCells, hi, Nat.mod_one]
  · simp [madeCells, hi]

theorem wpList_make_rw {w : World} {ops : Array Oper} {rest : List Oper} {o : Oper} {a : Act} {Q : Exit → Act → World → Prop} (hgd : o.guard = none) (l c : Operand) (ho : o.op = Op.makeSlice 26 l c)
    (n : Nat) (hl : a.eval l = .int .i64 n) (hc : a.eval c = .int .i64 n) (hn : n ≤ 140737488355328)
    (h : ∀ w', Rw 5 w' w.heap.size (List.replicate n 0) → Below w.heap.size w w' → wpList Try.prog ops Q rest (a.put o.dst (.slice (some ⟨w.heap.size, 0, none⟩) n n)) w') : wpList Try.prog ops Q (o :: rest) a w := by
  obtain ⟨i0, hi, hz0, hz1, hz2⟩ := info_parts Try.info5
  refine wpList_plain hgd fun K hK => ?_
  have hr := run_make (P := Try.prog) w 26 5 i0 (.int .u8 0) Try.underlying26 hi hz0 .i64 .i64 n n (by omega) (Int.le_refl _) (by rw [hz2]; omega) (by omega)
  rw [hz1, Int.toNat_natCast, Nat.mul_one, show (Value.int IntKind.u8 0).cells = #[.int .u8 0] from rfl, made_cells] at hr
  unfold Oper.wp
  simp only [execOp, ho, hl, hc, hr, Sem.run_bind, Sem.run_pure, Result.andThen_ok]
  exact hK _ _ (h _ (Rw.new 5 w _) ((Below.refl _ _).alloc (Nat.le_refl _) _))

theorem cat_splice (X Y : List Int) (T : Nat) : splice (X ++ List.replicate (T - X.length) 0) X.length Y = X ++ Y ++ List.replicate (T - (X ++ Y).length) 0 := by
  unfold splice
  rw [List.take_left, List.drop_append, List.drop_eq_nil_of_le (by omega), List.nil_append, List.drop_replicate]
  simp
  omega

set_option maxHeartbeats 1000000 in
theorem join_some (b off len cap : Nat) (F : Nat → List Int) (A : Nat → Option Addr) (C : Nat → Nat) (w : World) (hl : len ≤ 100) (hF : ∀ r, (F r).length ≤ 1000) (hw : Flds w b off len F A C) :
    Calls Try.prog 41 #[.slice (some ⟨b, off, none⟩) len cap] w fun e w' =>
      ∃ g, e = .returned (.slice (some ⟨g, 0, none⟩) (cat F len).length (cat F len).length) ∧ w.heap.size ≤ g ∧ Rw 5 w' g (cat F len) ∧ Below w.heap.size w w' := by
  go_enter Try.func41, Try.ntmps41
  go_wp2
  go_loop [3, 12] (fun t i => ∃ k : Nat, k ≤ len ∧ i = .int .i64 k ∧ t = .int .i64 (cat F k).length) (fun _ i => len - (intOf i).toNat)
  case atStart => exact ⟨0, Nat.zero_le _, rfl, rfl⟩
  case round =>
    obtain ⟨k, hk, rfl, rfl⟩ := hrel
    have hcl := cat_le F hF k
    by_cases hlt : k < len
    · have hcell := (hw k hlt).1
      have hfl := hF k
      have HS : Hid ((cat F (k + 1)).length = (cat F k).length + (F k).length) := by show _ = _; simp [cat]
      go_wp2
      go_round
      case rel => exact ⟨k + 1, by omega, by go_num, by rw [HS.out]; go_num⟩
      case measure => simp [intOf]; omega
    · obtain rfl : k = len := by omega
      go_wp2_with (at_make; refine wpList_make_rw rfl (.tmp 21) (.tmp 21) rfl (cat F k).length rfl rfl (by omega) ?_; intro w1 r1 b1)
      have hw1 := hw.below b1
      go_loopw [7, 25] (fun t i wr => ∃ j : Nat, j ≤ k ∧ i = .int .i64 j ∧ t = .int .i64 (cat F j).length ∧ Rw 5 wr w.heap.size (cat F j ++ List.replicate ((cat F k).length - (cat F j).length) 0) ∧ Below w.heap.size w wr) (fun _ i _ => k - (intOf i).toNat)
      case atStart => exact ⟨0, Nat.zero_le _, rfl, rfl, by simpa [cat] using r1, b1⟩
      case round =>
        clear r1
        obtain ⟨j, hj, rfl, rfl, r2, b2⟩ := hrel
        have hcj := cat_le F hF j
        by_cases hjk : j < k
        · have hwr := hw.below b2
          obtain ⟨hcell, hsrc, _⟩ := hwr j hjk
          have hfl := hF j
          have hm := cat_mono F (show j + 1 ≤ k by omega)
          have hc1 : (cat F (j + 1)).length = (cat F j).length + (F j).length := by simp [cat]
          have hle : (cat F j).length + (F j).length ≤ (cat F k).length := by omega
          have HS : Hid ((cat F (j + 1)).length = (cat F j).length + (F j).length) := hc1
          have HP : Hid (splice (cat F j ++ List.replicate ((cat F k).length - (cat F j).length) 0) (cat F j).length (F j) = cat F (j + 1) ++ List.replicate ((cat F k).length - (cat F (j + 1)).length) 0) := cat_splice _ _ _
          have HN : Hid ((F j).length = Nat.min (F j).length ((cat F k).length - (cat F j).length)) := (Nat.min_eq_left (by omega)).symm
          have HF : Hid ((cat F j).length + (F j).length ≤ (cat F j ++ List.replicate ((cat F k).length - (cat F j).length) 0).length) := by show _ ≤ _; simp; omega
          have HA : Hid (0 < (F j).length → ∃ ad, A j = some ad ∧ ∀ i, i < (F j).length → wr.cell? (ad.add i) = some (.int .u8 ((F j).getD i 0))) := by
            intro hp
            obtain ⟨b', off', e, hc⟩ := hsrc hp
            exact ⟨_, e, fun i hi => by rw [add_o]; exact hc i hi⟩
          clear hm hc1 hsrc
          by_cases hz : (cat F k).length ≤ (cat F j).length
          · have hz0 : (F j).length ≤ 0 := by omega
            have HN0 : Hid ((F j).length = Nat.min (F j).length 0) := by show _ = _; rw [show (F j).length = 0 by omega]; rfl
            go_wp2_with (refine wpList_copy_rw rfl (.tmp 32) (.tmp 33) 26 26 rfl 5 Try.underlying26 info5 _ _ _ _ _ _ rfl rfl w.heap.size (cat F j).length 5 _ (F j) r2 HN0.out (fun h => absurd h (by omega)) HF.out ?_; intro w3 r3 g3)
            go_roundw
            case rel => exact ⟨j + 1, by omega, by go_num, by rw [HS.out]; go_num, by rw [← HP.out]; exact r3, b2.trans (below_of_grown g3 _ b2.size (by intro i hi; cases hi; exact Nat.le_refl _))⟩
            case measure => simp [intOf]; omega
          · have hz1 : ¬ (cat F k).length = (cat F j).length := by omega
            go_wp2_with (refine wpList_copy_rw rfl (.tmp 32) (.tmp 33) 26 26 rfl 5 Try.underlying26 info5 _ _ _ _ _ _ rfl rfl w.heap.size (cat F j).length 5 _ (F j) r2 HN.out (fun h => ⟨rfl, HA.out h⟩) HF.out ?_; intro w3 r3 g3)
            go_roundw
            case rel => exact ⟨j + 1, by omega, by go_num, by rw [HS.out]; go_num, by rw [← HP.out]; exact r3, b2.trans (below_of_grown g3 _ b2.size (by intro i hi; cases hi; exact Nat.le_refl _))⟩
            case measure => simp [intOf]; omega
        · obtain rfl : j = k := by omega
          go_wp2
          go_ret
          exact ⟨w.heap.size, rfl, Nat.le_refl _, by simpa using r2, b2⟩

set_option maxHeartbeats 400000 in
theorem join_none (ao : Option Addr) (cap : Nat) (w : World) :
    Calls Try.prog 41 #[.slice ao 0 cap] w fun e w' => ∃ g, e = .returned (.slice (some ⟨g, 0, none⟩) 0 0) ∧ w.heap.size ≤ g ∧ Rw 5 w' g [] ∧ Below w.heap.size w w' := by
  go_enter Try.func41, Try.ntmps41
  go_wp2
  refine wp_loop_rounds 1 ?_
  rw [rounds_succ]
  go_wp2_with (at_make; refine wpList_make_rw rfl (.tmp 21) (.tmp 21) rfl 0 rfl rfl (by omega) ?_; intro w1 r1 b1)
  refine wp_loop_rounds 1 ?_
  rw [rounds_succ]
  go_wp2
  go_ret
  exact ⟨w.heap.size, rfl, Nat.le_refl _, r1, b1⟩

end Go.Proofs.Ytjjhkfhppoioiaa
