/- Trees are made: grown, joined; a pile of trees: pile, least. -/
import Derived.Test.YthpocbpleffdpaaHv
import Derived.Test.YthpocbpleffdpaaHw
import Derived.Test.YthpocbpleffdpaaHy
namespace Go.Proofs.Ythpocbpleffdpaa
open Go.RowKit

/-- A pointer or nil. -/
def pto (o : Option Nat) : Value := .pointer (o.map fun b => ⟨b, 0, none⟩)

set_option maxHeartbeats 4000000 in
set_option maxRecDepth 100000 in
theorem grown_any (w : World) (Fb m co sy : Nat) (x : Value) (l r : Option Nat) (hf : St 111 w Fb #[.int .i64 m]) (hm : m < 4611686018427387904) (hx : ∃ i, x = .int .i64 i) :
    Calls Try.prog 88 #[ptr Fb, .agg #[.int .u64 co, x, .int .i64 sy, pto l, pto r]] w fun e w' => e = .returned (ptr w.heap.size) ∧ St 131 w' w.heap.size #[.int .u64 co, .int .i64 m, .int .i64 sy, pto l, pto r] ∧ St 111 w' Fb #[.int .i64 ((m : Int) + 1)] ∧ Kp (fun k => k = Fb) w w' := by
  obtain ⟨xi, rfl⟩ := hx
  have hlt := hf.lt
  have c0 := hf.cell 0
  have f0 := hf.frozen 0
  simp at c0
  unfold pto ptr
  generalize (Option.map (fun b => (⟨b, 0, none⟩ : Addr)) l) = pl
  generalize (Option.map (fun b => (⟨b, 0, none⟩ : Addr)) r) = pr
  go_enter Try.func88, Try.ntmps88
  go_wp2
  go_ret
  refine ⟨rfl, ?_, ?_, (kp_setCell w Fb 0 _ (fun k => k = Fb) rfl).alloc _⟩
  · have := St.new 131 (w.setCell ⟨Fb, 0, none⟩ (.int .i64 ((m : Int) + 1))) #[.int .u64 co, .int .i64 m, .int .i64 sy, .pointer pl, .pointer pr]
    simpa using this
  · have := (hf.set 0 (.int .i64 ((m : Int) + 1))).kp (Kp.alloc (Kp.refl (fun _ => False) _) (.cells #[.int .u64 co, .int .i64 m, .int .i64 sy, .pointer pl, .pointer pr] 131)) (fun h => h)
    simpa using this

set_option maxHeartbeats 4000000 in
set_option maxRecDepth 100000 in
theorem least_any (c : Nat → Nat) (w : World) (base B : Nat) (v f : Value) (L : List Nat) (h : Pil c w base B v (fvo f) L) (hx : Hx (kf c L) 0 L.length) (hL : L.length < 4611686018427387904) (h0 : 0 < L.length) :
    Calls Try.prog 74 #[ptr B] w fun e w' => ∃ b, e = .returned (ptr b) ∧ Popped c w w' base B v f L b := by
  have HP := hid (hpop_any c w base B v f L h hx hL h0)
  have mT := is_tree
  go_enter Try.func74, Try.ntmps74
  go_wp2_with (first
    | (go_at_call 89; refine HP.out.mono ?_; rintro _ w1 ⟨b, rfl, P1⟩; unfold ptr))
  go_ret
  exact ⟨b, rfl, P1⟩

set_option maxHeartbeats 4000000 in
set_option maxRecDepth 100000 in
theorem pile_any (c : Nat → Nat) (w : World) (base Fb : Nat) (v : Value) (L : List Nat) (ho : w.ownsRow base 116 1 v L.length (L.map ptr)) (ht : ∀ b ∈ L, Tk c w b) (hg : ∀ g, v.ownBlock = some g → g ∉ L) (hL : L.length < 4611686018427387904) :
    Calls Try.prog 71 #[ptr Fb, v] w fun e w' => e = .returned (ptr w.heap.size) ∧ ∃ L', L'.Perm L ∧ Pil c w' base w.heap.size v (fvo (ptr Fb)) L' ∧ Hx (kf c L') 0 L'.length ∧ Kp (fun k => v.ownBlock = some k) w w' := by
  have P0 : Hid (Pil c (w.alloc (.cells #[v, fvo (ptr Fb)] 127)) base w.heap.size v (fvo (ptr Fb)) L) := ⟨St.new 127 w _, ho.alloc _, fun b hb => (ht b hb).kp (Kp.alloc (Kp.refl (fun _ => False) w) _) (fun h => h), fun g e => ⟨by have := (ho.lt g e).2; omega, hg g e⟩, fun hm => by have := (ht _ hm).lt; omega⟩
  have HI := hid (init_any c _ base w.heap.size v (ptr Fb) L P0.out hL)
  have hv : ∃ ao cap, v = .slice ao L.length cap := by obtain ⟨ao, cap, e, _⟩ := P0.out.len; exact ⟨ao, cap, e⟩
  obtain ⟨ao, cap, rfl⟩ := hv
  unfold fvo ptr at HI
  unfold ptr
  go_enter Try.func71, Try.ntmps71
  go_wp2_with (first
    | (go_at_call 87; refine HI.out.mono ?_; rintro _ w1 ⟨rfl, L1, M1, P1, X1, K1⟩))
  go_ret
  exact ⟨rfl, L1, M1, P1, by rw [M1.length_eq]; exact X1, (Kp.alloc (Kp.refl _ w) _).trans K1 (fun _ _ h => h)⟩
end Go.Proofs.Ythpocbpleffdpaa
