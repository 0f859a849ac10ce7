/- tables: TablesFind: the walk. -/
import Derived.Test.YtjjhkfhppoioiaaKn
import Derived.Test.YtjjhkfhppoioiaaFiS
import Derived.Test.YtjjhkfhppoioiaaFiR
namespace Go.Proofs.Ytjjhkfhppoioiaa
open Go.RowKit
set_option linter.unusedVariables false
set_option maxRecDepth 100000 in
set_option maxHeartbeats 4000000 in
theorem find_long (ao bo : Option Addr) (n m cap dap : Nat) (s : ByteArray) (w : World) (hn : n ≤ 9223372036854775807) (hm : m ≤ 9223372036854775807) (h : 200 < n ∨ 200 < m) :
    Calls Try.prog 6 #[.slice ao n cap, .slice bo m dap, .string s] w fun e w' => e = .returned (.bool true) ∧ Below w.heap.size w w' := by
  by_cases h1 : 200 < n
  · go_enter Try.func6, Try.ntmps6
    go_wp2_with (first | (go_at_call 8; refine (known_any _).mono ?_; rintro e w1 ⟨rfl, b1⟩))
    go_ret
    exact ⟨rfl, b1⟩
  · have h2 : 200 < m := by omega
    go_enter Try.func6, Try.ntmps6
    go_wp2_with (first | (go_at_call 8; refine (known_any _).mono ?_; rintro e w1 ⟨rfl, b1⟩))
    go_ret
    exact ⟨rfl, b1⟩
set_option maxRecDepth 100000 in
set_option maxHeartbeats 8000000 in
theorem find_walk (ao bo : Option Addr) (n m cap dap : Nat) (l : List Sn) (r : List Rn) (s : ByteArray) (w : World) (hn : n = l.length) (hm : m = r.length) (hcap : n ≤ cap) (hdap : m ≤ dap) (h1 : n ≤ 200) (h2 : m ≤ 200) (hS : Srcs w ao l) (hR : Srcr w bo r) :
    Calls Try.prog 6 #[.slice ao n cap, .slice bo m dap, .string s] w fun e w' => e = .returned (.bool true) ∧ Below w.heap.size w w' := by
  have HF := hid (Find_s l s ao n cap w hn hcap (by omega) hS)
  have HG : Hid (∀ W, Below w.heap.size w W → Calls Try.prog 20 #[.slice bo m dap, .string s] W fun e w' => e = .returned (.tuple #[.int .i64 (fiyr r s), .bool (fibr r s)]) ∧ Below W.heap.size W w') := fun W hW => Find_r r s bo m dap W hm hdap (by omega) (hR.below hW)
  have HN := hid hn
  have HM := hid hm
  have HS := hid hS
  have HR := hid hR
  clear hn hm hS hR
  obtain ⟨x1, hx1⟩ : ∃ x, x = fiys l s := ⟨_, rfl⟩
  obtain ⟨x2, hx2⟩ : ∃ x, x = fibs l s := ⟨_, rfl⟩
  obtain ⟨y1, hy1⟩ : ∃ x, x = fiyr r s := ⟨_, rfl⟩
  obtain ⟨y2, hy2⟩ : ∃ x, x = fibr r s := ⟨_, rfl⟩
  rw [← hx1, ← hx2] at HF
  rw [← hy1, ← hy2] at HG
  have HX1 := hid hx1
  have HX2 := hid hx2
  have HY1 := hid hy1
  have HY2 := hid hy2
  clear hx1 hx2 hy1 hy2
  go_enter Try.func6, Try.ntmps6
  go_wp2_with (first | (go_at_call 19; refine HF.out.mono ?_; rintro e w1 ⟨rfl, b1⟩; have B1 := hid b1; clear b1) | (go_at_call 20; refine (HG.out w1 B1.out).mono ?_; rintro e w2 ⟨rfl, b2⟩; have B2 := hid (B1.out.trans (b2.mono B1.out.size)); clear b2))
  go_loopw [11, 12, 13] (fun a y i wr => ∃ (k : Nat) (at_ : Int) (yes : Bool), k ≤ n ∧ a = .int .i64 at_ ∧ y = .bool yes ∧ i = .int .i64 ((k : Int) - 1) ∧ Bks l s k at_ yes ∧ Below w.heap.size w wr) (fun _ _ i _ => (intOf i + 1).toNat)
  case atStart => exact ⟨n, 0, false, Nat.le_refl _, rfl, rfl, by go_num, by rw [HN.out]; exact Bks.start l s, B2.out⟩
  case round =>
    clear B1 B2 HF HG
    obtain ⟨k, at_, yes, hk, rfl, rfl, rfl, hb, hbl⟩ := hrel
    have HB := hid hb
    have HBL := hid hbl
    clear hb hbl
    cases k with
    | zero =>
      obtain ⟨f1, f2⟩ := HB.out.fin
      obtain rfl : x1 = at_ := by rw [HX1.out]; exact f1
      obtain rfl : x2 = yes := by rw [HX2.out]; exact f2
      clear f1 f2 HB
      have hxx : (x2 != x2) = false := by simp
      have hxx2 : (x2 == x2) = true := by simp
      go_wp2_with fail
      go_loopw [11, 12, 14] (fun a y i wr' => ∃ (k : Nat) (at_ : Int) (yes : Bool), k ≤ m ∧ a = .int .i64 at_ ∧ y = .bool yes ∧ i = .int .i64 ((k : Int) - 1) ∧ Bkr r s k at_ yes ∧ Below w.heap.size w wr') (fun _ _ i _ => (intOf i + 1).toNat)
      case atStart => exact ⟨m, 0, false, Nat.le_refl _, rfl, rfl, by go_num, by rw [HM.out]; exact Bkr.start r s, HBL.out⟩
      case round =>
        clear HBL HX1 HX2
        obtain ⟨k, at_, yes, hk, rfl, rfl, rfl, hb, hbl⟩ := hrel
        have HB := hid hb
        have HBL := hid hbl
        clear hb hbl
        cases k with
        | zero =>
          obtain ⟨f1, f2⟩ := HB.out.fin
          obtain rfl : y1 = at_ := by rw [HY1.out]; exact f1
          obtain rfl : y2 = yes := by rw [HY2.out]; exact f2
          clear f1 f2 HB
          have hyy : (y2 == y2) = true := by simp
          have hyy1 : (y1 == y1) = true := by simp
          go_wp2_with (first | (go_at_call 8; refine (known_any _).mono ?_; rintro e w5 ⟨rfl, b5⟩))
          go_ret
          exact ⟨rfl, HBL.out.trans (b5.mono HBL.out.size)⟩
        | succ k =>
          obtain ⟨gb, off, rfl, hgb, c0, _⟩ := (HR.out.below HBL.out).at (i := k) (by have := HM.out; omega)
          have hkk : ((k + 1 : Nat) : Int) - 1 = (k : Int) := by omega
          rw [hkk]
          have HL : Hid (k < r.length) := by have := HM.out; show _ < _; omega
          cases hq : ((r.getD k zRn).nm.toList == s.toList) with
          | true =>
            have HH := hid (HB.out.hit HL.out hq)
            generalize (r.getD k zRn).nm = q at *
            clear HB hkk
            go_wp2_with fail
            go_roundw
            case rel => exact ⟨k, _, _, by omega, rfl, rfl, by go_num, HH.out, HBL.out⟩
            case measure => (simp [intOf] <;> try omega)
          | false =>
            have HH := hid (HB.out.miss hq)
            generalize (r.getD k zRn).nm = q at *
            clear HB hkk
            go_wp2_with fail
            go_roundw
            case rel => exact ⟨k, _, _, by omega, rfl, rfl, by go_num, HH.out, HBL.out⟩
            case measure => (simp [intOf] <;> try omega)
    | succ k =>
      obtain ⟨gb, off, rfl, hgb, c0, _⟩ := (HS.out.below HBL.out).at (i := k) (by have := HN.out; omega)
      have hkk : ((k + 1 : Nat) : Int) - 1 = (k : Int) := by omega
      rw [hkk]
      have HL : Hid (k < l.length) := by have := HN.out; show _ < _; omega
      cases hq : ((l.getD k zSn).nm.toList == s.toList) with
      | true =>
        have HH := hid (HB.out.hit HL.out hq)
        generalize (l.getD k zSn).nm = q at *
        clear HB hkk
        go_wp2_with fail
        go_roundw
        case rel => exact ⟨k, _, _, by omega, rfl, rfl, by go_num, HH.out, HBL.out⟩
        case measure => (simp [intOf] <;> try omega)
      | false =>
        have HH := hid (HB.out.miss hq)
        generalize (l.getD k zSn).nm = q at *
        clear HB hkk
        go_wp2_with fail
        go_roundw
        case rel => exact ⟨k, _, _, by omega, rfl, rfl, by go_num, HH.out, HBL.out⟩
        case measure => (simp [intOf] <;> try omega)
theorem find_any (ao bo : Option Addr) (n m cap dap : Nat) (l : List Sn) (r : List Rn) (s : ByteArray) (w : World) (hn : n = l.length) (hm : m = r.length) (hcap : n ≤ cap) (hdap : m ≤ dap) (h1 : cap ≤ maxLen) (h2 : dap ≤ maxLen) (hS : Srcs w ao l) (hR : Srcr w bo r) :
    Calls Try.prog 6 #[.slice ao n cap, .slice bo m dap, .string s] w fun e w' => e = .returned (.bool true) ∧ Below w.heap.size w w' := by
  unfold maxLen at h1 h2
  by_cases h : n ≤ 200 ∧ m ≤ 200
  · exact find_walk ao bo n m cap dap l r s w hn hm hcap hdap h.1 h.2 hS hR
  · exact find_long ao bo n m cap dap s w (by omega) (by omega) (by omega)
end Go.Proofs.Ytjjhkfhppoioiaa
