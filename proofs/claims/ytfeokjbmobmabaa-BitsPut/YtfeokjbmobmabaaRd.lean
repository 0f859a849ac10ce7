/- The reader in memory (Rd), and the contracts of what moves its word: fill, drop, stand. -/
import Derived.Test.YtfeokjbmobmabaaWrG
namespace Go.Proofs.Ytfeokjbmobmabaa
open Go.RowKit

/-- A reader of the bytes B at the bit p, 'wait' bits of which wait in its word, those up to the byte 'next'. -/
structure RdX (w : World) (g : Nat) (ao : Option Addr) (cap : Nat) (B : List Int) (p next wait : Nat) : Prop where
  pos : p + wait = 8 * next
  nle : next ≤ B.length
  wle : wait ≤ 64
  blen : B.length ≤ 100000000
  byt : Byt B
  st : St 80 w g #[.slice ao B.length cap, .int .i64 (next : Int), .int .u64 ((und 256 B / 2 ^ p % 2 ^ wait : Nat) : Int), .int .i64 (wait : Int)]
  src : Src w ao B
  hcap : B.length ≤ cap
  hnil : ao = none → cap = 0
  apart : ∀ b off, ao = some ⟨b, off, none⟩ → b ≠ g
/-- A reader of the bytes B at the bit p. -/
def Rd (w : World) (g : Nat) (ao : Option Addr) (cap : Nat) (B : List Int) (p : Nat) : Prop := ∃ next wait, RdX w g ao cap B p next wait
theorem RdX.kp {F : Nat → Prop} {w w' : World} {g : Nat} {ao : Option Addr} {cap : Nat} {B : List Int} {p next wait : Nat} (h : RdX w g ao cap B p next wait) (k : Kp F w w') (hg : ¬ F g) (hb : ∀ b off, ao = some ⟨b, off, none⟩ → ¬ F b) : RdX w' g ao cap B p next wait :=
  ⟨h.pos, h.nle, h.wle, h.blen, h.byt, h.st.kp k hg, h.src.kp k hb, h.hcap, h.hnil, h.apart⟩
theorem Rd.kp {F : Nat → Prop} {w w' : World} {g : Nat} {ao : Option Addr} {cap : Nat} {B : List Int} {p : Nat} (h : Rd w g ao cap B p) (k : Kp F w w') (hg : ¬ F g) (hb : ∀ b off, ao = some ⟨b, off, none⟩ → ¬ F b) : Rd w' g ao cap B p := by
  obtain ⟨n, q, h⟩ := h
  exact ⟨n, q, h.kp k hg hb⟩
theorem Rd.ok {w w' : World} {g : Nat} {ao : Option Addr} {cap : Nat} {B : List Int} {p : Nat} (h : Rd w g ao cap B p) (k : Ok' w w') : Rd w' g ao cap B p := h.kp k (fun x => x) (fun _ _ _ x => x)
theorem RdX.ok {w w' : World} {g : Nat} {ao : Option Addr} {cap : Nat} {B : List Int} {p next wait : Nat} (h : RdX w g ao cap B p next wait) (k : Ok' w w') : RdX w' g ao cap B p next wait := h.kp k (fun x => x) (fun _ _ _ x => x)

theorem und_get (B : List Int) (h : Byt B) (i : Nat) (hi : i < B.length) : B.getD i 0 = ((und 256 B / 2 ^ (8 * i) % 256 : Nat) : Int) := by
  have e := dig_get 256 (und 256 B) B.length i hi
  rw [dig_und 256 B (byt_range h)] at e
  rw [e, pow_256]
theorem word_grow (V p wait next : Nat) (h : p + wait = 8 * next) : V / 2 ^ p % 2 ^ (wait + 8) = V / 2 ^ p % 2 ^ wait + (V / 2 ^ (8 * next) % 256) * 2 ^ wait := by
  rw [Nat.pow_add, Nat.mod_mul, Nat.div_div_eq_div_mul, ← Nat.pow_add, h, Nat.mul_comm (2 ^ wait)]
theorem und_small (B : List Int) (h : Byt B) (p : Nat) (hp : p ≤ 8 * B.length) : und 256 B / 2 ^ p < 2 ^ (8 * B.length - p) := by
  have := und_lt 256 B (byt_range h)
  rw [Nat.div_lt_iff_lt_mul (Nat.pow_pos (by omega)), ← Nat.pow_add, show 8 * B.length - p + p = 8 * B.length by omega, ← pow_256]
  exact this

/-- The word grown by a byte, in memory. -/
theorem fill_round (w w1 : World) (g : Nat) (ao : Option Addr) (cap : Nat) (B : List Int) (p next wait y z : Nat) (h : RdX w1 g ao cap B p next wait) (hn : next < B.length) (hw : wait ≤ 56)
    (hy : y = und 256 B / 2 ^ p % 2 ^ wait) (hz : (z : Int) = B.getD next 0) (K : Kp (fun i => i = g) w w1) :
    RdX (((w1.setCell ⟨g, 2, none⟩ (.int .u64 ((y : Int) + (z : Int) * 2 ^ wait))).setCell ⟨g, 3, none⟩ (.int .i64 ((wait : Int) + 8))).setCell ⟨g, 1, none⟩ (.int .i64 ((next : Int) + 1))) g ao cap B p (next + 1) (wait + 8) ∧
      Kp (fun i => i = g) w (((w1.setCell ⟨g, 2, none⟩ (.int .u64 ((y : Int) + (z : Int) * 2 ^ wait))).setCell ⟨g, 3, none⟩ (.int .i64 ((wait : Int) + 8))).setCell ⟨g, 1, none⟩ (.int .i64 ((next : Int) + 1))) := by
  have hz2 : z = und 256 B / 2 ^ (8 * next) % 256 := by have := und_get B h.byt next hn; omega
  have K1 : Kp (fun i => i = g) w1 (((w1.setCell ⟨g, 2, none⟩ (.int .u64 ((y : Int) + (z : Int) * 2 ^ wait))).setCell ⟨g, 3, none⟩ (.int .i64 ((wait : Int) + 8))).setCell ⟨g, 1, none⟩ (.int .i64 ((next : Int) + 1))) :=
    (((Kp.refl (fun i => i = g) w1).setCell (F := fun i => i = g) g 2 _ rfl).setCell (F := fun i => i = g) g 3 _ rfl).setCell (F := fun i => i = g) g 1 _ rfl
  refine ⟨⟨by have := h.pos; omega, by omega, by omega, h.blen, h.byt, ?_, h.src.kp K1 h.apart, h.hcap, h.hnil, h.apart⟩, K.trans K1 (fun _ _ x => x)⟩
  have s := ((h.st.set 2 (.int .u64 ((y : Int) + (z : Int) * 2 ^ wait))).set 3 (.int .i64 ((wait : Int) + 8))).set 1 (.int .i64 ((next : Int) + 1))
  rw [word_grow _ _ _ _ h.pos, ← hy, ← hz2, show ((y + z * 2 ^ wait : Nat) : Int) = (y : Int) + (z : Int) * 2 ^ wait by rw [Int.natCast_add, Int.natCast_mul, Int.natCast_pow]; rfl]
  simpa using s

set_option maxHeartbeats 1000000 in
theorem fill_walk (g : Nat) (ao : Option Addr) (cap : Nat) (B : List Int) (p next wait : Nat) (w : World) (h : RdX w g ao cap B p next wait) :
    Calls Try.prog 47 #[.pointer (some ⟨g, 0, none⟩)] w fun e w' => e = .returned (.tuple #[]) ∧ ∃ next' wait', RdX w' g ao cap B p next' wait' ∧ (57 ≤ wait' ∨ next' = B.length) ∧ Kp (fun i => i = g) w w' := by
  go_enter Try.func47, Try.ntmps47
  go_wp2_with fail
  go_loopg [] (B.length - next) (fun r wr => ∃ n1 q1, n1 + r = B.length ∧ RdX wr g ao cap B p n1 q1 ∧ Kp (fun i => i = g) w wr)
  case atStart => exact ⟨next, wait, by have := h.nle; omega, h, Kp.refl _ _⟩
  case round =>
    clear h
    obtain ⟨n1, q1, hr, h, K⟩ := hrel
    obtain ⟨y, hy⟩ : ∃ y, y = und 256 B / 2 ^ p % 2 ^ q1 := ⟨_, rfl⟩
    have hs := h.st
    rw [← hy] at hs
    have c0 : wr.cell? ⟨g, 0, none⟩ = some (.slice ao B.length cap) := hs.cell 0
    have c1 : wr.cell? ⟨g, 1, none⟩ = some (.int .i64 n1) := hs.cell 1
    have c2 : wr.cell? ⟨g, 2, none⟩ = some (.int .u64 y) := hs.cell 2
    have c3 : wr.cell? ⟨g, 3, none⟩ = some (.int .i64 q1) := hs.cell 3
    have f1 := hs.frozen 1
    have f2 := hs.frozen 2
    have f3 := hs.frozen 3
    have hbl := h.blen
    have hwl := h.wle
    by_cases hq : (q1 : Int) ≤ 56
    · by_cases hn : (n1 : Int) < (B.length : Int)
      · have hy2 : y < 2 ^ q1 := by rw [hy]; exact Nat.mod_lt _ (Nat.pow_pos (by omega))
        have hn2 : n1 < B.length := by omega
        have hbz := h.byt.get n1
        obtain ⟨z, hz⟩ : ∃ z : Nat, (z : Int) = B.getD n1 0 := ⟨(B.getD n1 0).toNat, by omega⟩
        obtain ⟨b, off, rfl, hcell⟩ := h.src (by omega)
        have cb := hcell n1 hn2
        rw [← hz] at cb
        have hor := or_wait z y q1 8 hy2 (by omega) (by omega)
        have hwz : IntKind.u64.wrap (z : Int) = (z : Int) := by rw [IntKind.wrap_u64]; omega
        have HR : Hid (n1 + gk = B.length) := hr
        have hgb : b ≠ g := h.apart b off rfl
        have HH : Hid (y = und 256 B / 2 ^ p % 2 ^ q1 ∧ (z : Int) = B.getD n1 0) := ⟨hy, hz⟩
        clear hz hy hs hcell hr hbz
        go_wp2
        go_quiet (fail)
        go_wp2
        have HG : Hid (_ ∧ _) := fill_round w (wr.drewN nq) g (some ⟨b, off, none⟩) cap B p n1 q1 y z (h.ok (drewN_kp _ wr nq)) hn2 (by omega) HH.out.1 HH.out.2 (K.trans (drewN_kp _ wr nq) (fun _ _ x => x))
        go_region
        all_goals
          go_wp2
          go_roundg (gk - 1)
          case measure => have := HR.out; omega
          case rel => exact ⟨n1 + 1, q1 + 8, by have := HR.out; omega, HG.out.1.kp ((Kp.refl (fun _ => False) _).drew) (fun x => x) (fun _ _ _ x => x), HG.out.2.drew⟩
      · have hn2 : n1 = B.length := by have := h.nle; omega
        clear hy hs
        go_wp2
        go_quiet (fail)
        go_wp2
        go_end0
        exact ⟨rfl, n1, q1, h.ok (drewN_kp _ wr _), .inr hn2, K.trans (drewN_kp _ wr _) (fun _ _ x => x)⟩
    · have hd : decide ((q1 : Int) ≤ 56) = false := by simpa using hq
      have hd2 : decide (q1 ≤ 56) = false := by simp; omega
      have hq2 : 57 ≤ q1 := by omega
      clear hy hs
      go_wp2
      go_quiet (fail)
      go_wp2
      go_end0
      exact ⟨rfl, n1, q1, h.ok (drewN_kp _ wr _), .inl hq2, K.trans (drewN_kp _ wr _) (fun _ _ x => x)⟩
end Go.Proofs.Ytfeokjbmobmabaa
