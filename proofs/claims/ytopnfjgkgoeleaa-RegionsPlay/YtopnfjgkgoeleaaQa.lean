/- RegionsPlay: the document's regions in memory; its Both, find, Same. -/
import Derived.Test.YtopnfjgkgoeleaaQm
import Derived.Test.YtopnfjgkgoeleaaSm
namespace Go.Proofs.Ytopnfjgkgoeleaa
open Go.RowKit
set_option linter.unusedVariables false
set_option linter.unusedSimpArgs false
/-- What a slice of regions may lie in. -/
def Tb (w : World) (ao : Option Addr) : Prop := ∀ b off sp, ao = some ⟨b, off, sp⟩ → sp = none ∧ ∃ cur, St 46 w b cur
theorem Tb.kp {F : Nat → Prop} {w w' : World} {ao : Option Addr} (h : Tb w ao) (k : Kp F w w') (hf : ∀ b off, ao = some ⟨b, off, none⟩ → ¬ F b) : Tb w' ao := fun b off sp e => by
  obtain ⟨h1, cur, hc⟩ := h b off sp e
  subst h1
  exact ⟨rfl, cur, hc.kp k (hf b off e)⟩
/-- The document's regions at q are l. -/
structure RL (q : Nat) (w : World) (l : List Rn) : Prop where
  mem : ∃ ao cap, St 29 w q #[.slice ao l.length cap] ∧ Srcr w ao l ∧ Tb w ao ∧ l.length ≤ cap ∧ cap ≤ maxLen ∧ (ao = none → cap = 0)
  srt : Srt l
  len : l.length ≤ 65536
/-- Its row lies not there. -/
def Rof (rq : Nat) (Z : World) (O : Nat → Prop) : Prop := ∀ b off n cap, Z.cell? ⟨rq, 0, none⟩ = some (.slice (some ⟨b, off, none⟩) n cap) → ¬ O b
theorem RL.kpo {q : Nat} {O : Nat → Prop} {w w' : World} {l : List Rn} (h : RL q w l) (k : Kp O w w') (hq : ¬ O q) (hr : Rof q w O) : RL q w' l := by
  obtain ⟨ao, cap, h1, h2, h3, h4⟩ := h.mem
  have hc : w.cell? ⟨q, 0, none⟩ = some (.slice ao l.length cap) := h1.cell 0
  have hn : ∀ b off, ao = some ⟨b, off, none⟩ → ¬ O b := fun b off e => hr b off _ _ (by rw [hc, e])
  exact ⟨⟨ao, cap, h1.kp k hq, h2.kp k (fun b off e _ => hn b off e), h3.kp k hn, h4⟩, h.srt, h.len⟩
theorem RL.kp {q : Nat} {w w' : World} {l : List Rn} (h : RL q w l) (k : Kp (fun _ => False) w w') : RL q w' l := h.kpo k (fun h => h) (fun _ _ _ _ _ h => h)
theorem RL.lt {q : Nat} {w : World} {l : List Rn} (h : RL q w l) : q < w.heap.size := by
  obtain ⟨ao, cap, h1, _⟩ := h.mem
  exact h1.lt
theorem RL.row_lt {q : Nat} {w : World} {l : List Rn} (h : RL q w l) {b off n cap : Nat} (hc : w.cell? ⟨q, 0, none⟩ = some (.slice (some ⟨b, off, none⟩) n cap)) : b < w.heap.size := by
  obtain ⟨ao, cap, h1, h2, h3, h4⟩ := h.mem
  have h5 : w.cell? ⟨q, 0, none⟩ = some (.slice ao l.length cap) := h1.cell 0
  rw [h5] at hc
  simp only [Option.some.injEq, Value.slice.injEq] at hc
  obtain ⟨_, cur, h6⟩ := h3 b off none hc.1
  exact h6.lt
set_option maxRecDepth 100000 in
set_option maxHeartbeats 4000000 in
theorem both_any (a n b m : Int) (w : World) (h1 : -72057594037927936 ≤ a ∧ a ≤ 72057594037927936) (h2 : 0 ≤ n ∧ n ≤ 72057594037927936) (h3 : 0 ≤ b ∧ b ≤ 72057594037927936) (h4 : 0 ≤ m ∧ m ≤ 72057594037927936) :
    Calls Try.prog 56 #[.int .i64 a, .int .i64 n, .int .i64 b, .int .i64 m] w fun e w' => e = .returned (.bool (bthb a n b m)) ∧ w = w' := by
  have w1 : IntKind.i64.wrap (b + m) = b + m := by rw [IntKind.wrap_i64]; omega
  have w2 : IntKind.i64.wrap (a + n) = a + n := by rw [IntKind.wrap_i64]; omega
  unfold bthb
  clear h1 h2 h3 h4
  by_cases e1 : a < b + m
  · by_cases e2 : b < a + n
    · by_cases e3 : 0 < n
      · by_cases e4 : 0 < m
        · go_enter Try.func56, Try.ntmps56
          go_wp2
          go_ret
          exact ⟨by simp [e1, e2, e3, e4], rfl⟩
        · go_enter Try.func56, Try.ntmps56
          go_wp2
          go_ret
          exact ⟨by simp [e1, e2, e3, e4], rfl⟩
      · go_enter Try.func56, Try.ntmps56
        go_wp2
        go_ret
        exact ⟨by simp [e1, e2]; intros; omega, rfl⟩
    · go_enter Try.func56, Try.ntmps56
      go_wp2
      go_ret
      exact ⟨by simp [e1]; intros; omega, rfl⟩
  · go_enter Try.func56, Try.ntmps56
    go_wp2
    go_ret
    exact ⟨by simp; intros; omega, rfl⟩
set_option maxRecDepth 100000 in
set_option maxHeartbeats 8000000 in
theorem rfind_any (w : World) (q : Nat) (l : List Rn) (p : Int) (h : RL q w l) :
    Calls Try.prog 55 #[.pointer (some ⟨q, 0, none⟩), .int .i64 p] w fun e w' => ((bgn l p = true ∧ e = .returned (.int .i64 ((bey l p : Nat) : Int))) ∨ (bgn l p = false ∧ e = .returned (.int .i64 (-1)))) ∧ Kp (fun _ => False) w w' := by
  obtain ⟨ao, cap, hq, hs, ht, hc1, hc2, hz⟩ := h.mem
  have HQ := hid hq
  have HS := hid hs
  have HSR := hid h.srt
  have hl6 := h.len
  obtain ⟨n, hn⟩ : ∃ n, n = l.length := ⟨_, rfl⟩
  rw [← hn] at HQ hl6 hc1
  have HL := hid hn
  clear hn hq hs h ht hz hc2
  go_enter Try.func55, Try.ntmps55
  go_wp2_with fail
  go_loopw [5] (fun i wr => ∃ (k : Nat), i = .int .i64 (k : Int) ∧ k ≤ n ∧ Hid (Kp (fun _ => False) w wr) ∧ Hid (∀ j, j < k → (l.getD j zRn).a ≠ p)) (fun i _ => n - (intOf i).toNat)
  case atStart => exact ⟨0, rfl, Nat.zero_le _, Kp.refl _ _, fun j hj => by omega⟩
  case round =>
    obtain ⟨k, rfl, hk, HK, HE⟩ := hrel
    have zq : wr.cell? ⟨q, 0, none⟩ = some (.slice ao n cap) := (HQ.out.kp HK.out (fun h => h)).cell 0
    by_cases hlt : k < n
    · have hkl : k < l.length := by have := HL.out; omega
      obtain ⟨gb, off, rfl, _, x0, x1, x2⟩ := (HS.out.kp HK.out (fun _ _ _ _ h => h)).at (i := k) hkl
      have HBA : Hid ((l.getD k zRn).a = p → bey l p = k ∧ bgn l p = true) := fun e => begins_at HSR.out hkl e
      have HEN : Hid ((l.getD k zRn).a ≠ p → ∀ j, j < k + 1 → (l.getD j zRn).a ≠ p) := fun e j hj => by
        by_cases hj2 : j < k
        · exact HE.out j hj2
        · obtain rfl : j = k := by omega
          exact e
      generalize (l.getD k zRn).a = ya at *
      by_cases he : ya = p
      · have e1 : (ya == p) = true := by simpa using he
        have HBB := hid (HBA.out he)
        clear he
        go_wp2_with fail
        go_ret
        exact ⟨.inl ⟨HBB.out.2, by rw [HBB.out.1]; rfl⟩, HK.out⟩
      · have e1 : (ya == p) = false := by simpa using he
        have HEE := hid (HEN.out he)
        clear he
        go_wp2_with fail
        go_roundw
        case rel => exact ⟨k + 1, by go_num, hlt, HK, HEE⟩
        case measure => simp [intOf]; omega
    · obtain rfl : k = n := by omega
      have hki : ¬ (k : Int) < (k : Int) := by omega
      go_wp2_with fail
      go_ret
      exact ⟨.inr ⟨begins_no (fun j hj => HE.out j (by have := HL.out; omega)), rfl⟩, HK.out⟩
theorem neq_r (h k : Rn) (w : World) : (binOp .neq 46 (.agg #[.int .i64 h.k, .int .i64 h.a, .int .i64 h.n]) (.agg #[.int .i64 k.k, .int .i64 k.a, .int .i64 k.n])).run Try.prog w = .ok (.bool (!Rn.eq h k)) w := by
  obtain ⟨b0, b1, b2⟩ := h
  obtain ⟨c0, c1, c2⟩ := k
  go_simp
  unfold Rn.eq
  dsimp only
  by_cases e0 : b0 = c0
  case neg => simp [e0]
  subst e0
  by_cases e1 : b1 = c1
  case neg => simp [e1]
  subst e1
  by_cases e2 : b2 = c2
  case neg => simp [e2]
  subst e2
  simp
end Go.Proofs.Ytopnfjgkgoeleaa
