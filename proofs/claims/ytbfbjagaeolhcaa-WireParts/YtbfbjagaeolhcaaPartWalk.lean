/- The walk of WireParts: it answers true, and nothing that was there has turned. -/
import Derived.Test.YtbfbjagaeolhcaaJoin
import Derived.Test.YtbfbjagaeolhcaaRefS
namespace Go.Proofs.Ytbfbjagaeolhcaa
open Go.RowKit

theorem row_zs2 {w : World} {G : Nat} {zs : List Int} (h : Rw 5 w G zs) : Src w (some ⟨G, 0, none⟩) zs := Src.mk fun i hi => by rw [Nat.zero_add]; exact h.cell i hi
theorem cv2 {w : World} {ao : Option Addr} {len c : Nat} {xs : List Int} (hl : xs.length = len) (h : Src w ao xs) : (convert 22 9 (.slice ao len c)).run Try.prog w = .ok (.string (strOfNums xs)) w := by
  subst hl
  exact run_convert_rw w 22 9 5 Try.underlying22 Try.underlying5 Try.underlying9 ao _ c xs rfl h
theorem cat_le2 (F : Nat → List Int) (k : Nat) (h : ∀ r, r < k → (F r).length ≤ 1000) : (cat F k).length ≤ 1000 * k := by
  induction k with
  | zero => simp [cat]
  | succ k ih => have := h k (by omega); have := ih (fun r hr => h r (by omega)); simp [cat]; omega

theorem le_more {F : Nat → List Int} {k : Nat} (h : ∀ r, r < k → (F r).length ≤ 1000) (h2 : (F k).length ≤ 1000) : ∀ r, r < k + 1 → (F r).length ≤ 1000 := by
  intro r hr
  by_cases e : r = k
  · subst e; exact h2
  · exact h r (by omega)

theorem nouB_succ (zs : List Int) (f k : Nat) (h : f + k < zs.length) : nouB ((zs.drop f).take (k + 1)) = (nouB ((zs.drop f).take k) && (zs.getD (f + k) 0 == 0)) := by
  have hg : (zs.drop f)[k]? = some (zs.getD (f + k) 0) := by rw [List.getElem?_drop]; simp [List.getD, h]
  rw [List.take_add_one, hg]
  simp [nouB]

set_option maxHeartbeats 400000 in
theorem parts_long (ao : Option Addr) (len cap : Nat) (f u : Int) (w : World) (h : 100 < len) :
    Calls Try.prog 5 #[.slice ao len cap, .int .i64 f, .int .i64 u] w fun e w' => e = .returned (.bool true) ∧ Below w.heap.size w w' := by
  go_enter Try.func5, Try.ntmps5
  go_wp2_with (go_at_call 6; refine (known_any _).mono ?_; rintro e w1 ⟨rfl, b1⟩)
  go_ret
  exact ⟨rfl, b1⟩

set_option maxRecDepth 100000 in
set_option maxHeartbeats 1000000 in
theorem parts_some (b off len cap : Nat) (F : Nat → List Int) (A : Nat → Option Addr) (C : Nat → Nat) (f u : Int) (w : World) (hl : len ≤ 100) (hF : ∀ r, len ≤ r → F r = []) (hw : Flds w b off len F A C) :
    Calls Try.prog 5 #[.slice (some ⟨b, off, none⟩) len cap, .int .i64 f, .int .i64 u] w fun e w' => e = .returned (.bool true) ∧ Below w.heap.size w w' := by
  go_enter Try.func5, Try.ntmps5
  go_wp2
  go_loopw [7, 8] (fun v i wr => ∃ k : Nat, k ≤ len ∧ i = .int .i64 k ∧ (∀ r, r < k → (F r).length ≤ 1000) ∧ Own wr w.heap.size v (cat F k) ∧ Below w.heap.size w wr) (fun _ i _ => len - (intOf i).toNat)
  case atStart => exact ⟨0, Nat.zero_le _, rfl, fun r hr => absurd hr (by omega), Own.nil _ _, Below.refl _ _⟩
  case round =>
    obtain ⟨k, hk, rfl, hF0, hown, hbel⟩ := hrel
    have hcl := cat_le2 F k hF0
    have HF0 : Hid (∀ r, r < k → (F r).length ≤ 1000) := hF0
    clear hF0
    by_cases hlt : k < len
    · obtain ⟨hcell, hsrc, hnil⟩ := hw.below hbel k hlt
      have HNIL : Hid (A k = none → C k = 0) := hnil
      clear hnil
      by_cases h1000 : 1000 < (F k).length
      · go_wp2_with (go_at_call 6; refine (known_any _).mono ?_; rintro e w1 ⟨rfl, b1⟩)
        go_ret
        exact ⟨rfl, hbel.trans (b1.mono hbel.size)⟩
      · go_wp2_with (at_builtin; refine wpList_append_rw rfl (.tmp 31) (.tmp 35) rfl w.heap.size _ (cat F k) rfl hown _ _ _ (F k) rfl rfl HNIL.out hsrc (by omega) hbel.size ?_; intro v1 w1 o1 q1 b1)
        go_roundw
        case rel => exact ⟨k + 1, by omega, by go_num, le_more HF0.out (by omega), o1, hbel.trans b1⟩
        case measure => simp [intOf]; omega
    · obtain rfl : k = len := by omega
      have hFa : ∀ r, (F r).length ≤ 1000 := by
        intro r
        by_cases hr : r < k
        · exact HF0.out r hr
        · rw [hF r (by omega)]; simp
      obtain ⟨aov, cv0, rfl, sv, _⟩ := hown.str
      have hwr := hw.below hbel
      go_wp2_with fail
      refine (join_some b off k cap F A C _ hl hFa hwr).mono ?_
      rintro e w1 ⟨g, rfl, hg, rg, b1⟩
      have B1 : Below w.heap.size w w1 := hbel.trans (b1.mono hbel.size)
      have cvb := cv2 (c := (cat F k).length) rfl (row_zs2 rg)
      have cva := cv2 (c := cv0) rfl (sv.below b1)
      have sv1 := sv.below b1
      go_wp2_with fail
      by_cases hbad : f < 0 ∨ u < f ∨ ((cat F k).length : Int) < u
      · refine (noughts_err _ _ _ f u _ hbad).mono ?_
        rintro e w' ⟨rfl, rfl⟩
        by_cases h1 : f < 0
        · clear hbad
          go_wp2_with (go_at_call 6; refine (known_any _).mono ?_; rintro e w2 ⟨rfl, b2⟩)
          go_ret
          exact ⟨rfl, B1.trans (b2.mono B1.size)⟩
        · by_cases h2 : u < f
          · clear hbad
            go_wp2_with (go_at_call 6; refine (known_any _).mono ?_; rintro e w2 ⟨rfl, b2⟩)
            go_ret
            exact ⟨rfl, B1.trans (b2.mono B1.size)⟩
          · have h3 : ((cat F k).length : Int) < u := by omega
            clear hbad
            go_wp2_with (go_at_call 6; refine (known_any _).mono ?_; rintro e w2 ⟨rfl, b2⟩)
            go_ret
            exact ⟨rfl, B1.trans (b2.mono B1.size)⟩
      · obtain ⟨fn, rfl⟩ := Int.eq_ofNat_of_zero_le (show 0 ≤ f by omega)
        obtain ⟨un, rfl⟩ := Int.eq_ofNat_of_zero_le (show 0 ≤ u by omega)
        have h1 : fn ≤ un := by omega
        have h2 : un ≤ (cat F k).length := by omega
        clear hbad
        refine (noughts_ok g 0 (cat F k).length (cat F k) fn un w1 (by omega) rg.cells h1 h2 (Nat.le_refl _)).mono ?_
        rintro e w' ⟨rfl, rfl⟩
        obtain ⟨B, hB⟩ : ∃ B, B = nouB (((cat F k).drop fn).take (un - fn)) := ⟨_, rfl⟩
        rw [← hB]
        have HB : Hid (B = nouB (((cat F k).drop fn).take (un - fn))) := hB
        clear hB
        have hd1 : decide ((fn : Int) < 0) = false := by simp
        have hd2 : decide (un < fn) = false := by simp; omega
        have hd3 : decide ((cat F k).length < un) = false := by simp; omega
        by_cases hfu : fn = un
        · subst hfu
          have hB1 : B = true := by rw [HB.out, Nat.sub_self]; rfl
          subst hB1
          go_wp2_with fail
          refine wp_loop_rounds 1 ?_
          rw [rounds_succ]
          go_wp2_with (go_at_call 6; refine (known_any _).mono ?_; rintro e w2 ⟨rfl, b2⟩)
          go_ret
          exact ⟨rfl, B1.trans (b2.mono B1.size)⟩
        · have hlt2 : fn < un := by omega
          obtain ⟨b2, off2, rfl, hc2⟩ := sv1 (by omega)
          clear hfu
          go_wp2_with fail
          go_loop [12, 13] (fun n i => ∃ j : Nat, j ≤ un - fn ∧ i = .int .i64 ((fn + j : Nat) : Int) ∧ n = .bool (nouB (((cat F k).drop fn).take j))) (fun _ i => un - (intOf i).toNat)
          case atStart => exact ⟨0, Nat.zero_le _, rfl, rfl⟩
          case round =>
            obtain ⟨j, hj, rfl, rfl⟩ := hrel
            by_cases hju : j < un - fn
            · have hcell2 := hc2 (fn + j) (by omega)
              have hs := nouB_succ (cat F k) fn j (by omega)
              obtain ⟨z, hz⟩ : ∃ z, z = (cat F k).getD (fn + j) 0 := ⟨_, rfl⟩
              rw [← hz] at hcell2 hs
              obtain ⟨N, hN⟩ : ∃ N, N = nouB (((cat F k).drop fn).take j) := ⟨_, rfl⟩
              rw [← hN] at hs ⊢
              have HS : Hid (nouB (((cat F k).drop fn).take (j + 1)) = (N && (z == 0))) := hs
              clear hs hz hN
              cases N
              · go_wp2
                go_round
                case rel => exact ⟨j + 1, by omega, by go_num, by rw [HS.out]; rfl⟩
                case measure => simp [intOf]; omega
              · go_wp2
                go_round
                case rel => exact ⟨j + 1, by omega, by go_num, by rw [HS.out]; simp⟩
                case measure => simp [intOf]; omega
            · obtain rfl : j = un - fn := by omega
              rw [← HB.out]
              go_wp2_with (go_at_call 6; refine (known_any _).mono ?_; rintro e w2 ⟨rfl, b2⟩)
              go_ret
              exact ⟨rfl, B1.trans (b2.mono B1.size)⟩

set_option maxRecDepth 100000 in
set_option maxHeartbeats 1000000 in
theorem parts_none (ao : Option Addr) (cap : Nat) (f u : Int) (w : World) :
    Calls Try.prog 5 #[.slice ao 0 cap, .int .i64 f, .int .i64 u] w fun e w' => e = .returned (.bool true) ∧ Below w.heap.size w w' := by
  have cvn : ∀ wx : World, (convert 22 9 (.slice none 0 0)).run Try.prog wx = .ok (.string (strOfNums [])) wx := fun wx => cv2 rfl (Src.nil _ _)
  go_enter Try.func5, Try.ntmps5
  go_wp2
  refine wp_loop_rounds 1 ?_
  rw [rounds_succ]
  go_wp2_with fail
  refine (join_none ao cap _).mono ?_
  rintro e w1 ⟨g, rfl, hg, rg, b1⟩
  have cvb : (convert 22 9 (.slice (some ⟨g, 0, none⟩) 0 0)).run Try.prog w1 = .ok (.string (strOfNums [])) w1 := cv2 rfl (Src.nil _ _)
  go_wp2_with fail
  by_cases hbad : f < 0 ∨ u < f ∨ ((0 : Nat) : Int) < u
  · refine (noughts_err _ _ _ f u _ hbad).mono ?_
    rintro e w' ⟨rfl, rfl⟩
    by_cases h1 : f < 0
    · clear hbad
      go_wp2_with (go_at_call 6; refine (known_any _).mono ?_; rintro e w2 ⟨rfl, b2⟩)
      go_ret
      exact ⟨rfl, b1.trans (b2.mono b1.size)⟩
    · by_cases h2 : u < f
      · clear hbad
        go_wp2_with (go_at_call 6; refine (known_any _).mono ?_; rintro e w2 ⟨rfl, b2⟩)
        go_ret
        exact ⟨rfl, b1.trans (b2.mono b1.size)⟩
      · have h3 : 0 < u := by omega
        clear hbad
        go_wp2_with (go_at_call 6; refine (known_any _).mono ?_; rintro e w2 ⟨rfl, b2⟩)
        go_ret
        exact ⟨rfl, b1.trans (b2.mono b1.size)⟩
  · obtain rfl : f = 0 := by omega
    obtain rfl : u = 0 := by omega
    clear hbad
    refine (noughts_ok g 0 0 [] 0 0 w1 (by decide) rg.cells (Nat.le_refl _) (Nat.le_refl _) (Nat.le_refl _)).mono ?_
    rintro e w' ⟨rfl, rfl⟩
    go_wp2_with fail
    refine wp_loop_rounds 1 ?_
    rw [rounds_succ]
    go_wp2_with (go_at_call 6; refine (known_any _).mono ?_; rintro e w2 ⟨rfl, b2⟩)
    go_ret
    exact ⟨rfl, b1.trans (b2.mono b1.size)⟩

end Go.Proofs.Ytbfbjagaeolhcaa
