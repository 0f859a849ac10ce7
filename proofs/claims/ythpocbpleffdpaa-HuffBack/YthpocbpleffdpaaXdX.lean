/- present; Lengths of 15 bits at most, where Huffman's lengths are within. -/
import Derived.Test.YthpocbpleffdpaaXcX
import Derived.Deep.RegionHeld3
import Derived.Test.YthpocbpleffdpaaLen
namespace Go.Proofs.Ythpocbpleffdpaa
open Go.RowKit

theorem apart_types {t u : TypeId} {w : World} {g : Nat} {cs ds : Array Value} (hne : t ≠ u) (h : St t w g cs) (k : St u w g ds) : False := by
  unfold St at h k
  rw [h] at k
  injection k with k
  injection k with _ k2
  exact hne k2

set_option maxHeartbeats 4000000 in
set_option maxRecDepth 100000 in
theorem joined_any (w : World) (Fb m a b ca cb : Nat) (xa ya za wa xb yb zb wb : Value) (hf : St 111 w Fb #[.int .i64 m]) (hm : m < 4611686018427387904) (ha : St 131 w a #[.int .u64 ca, xa, ya, za, wa]) (hb : St 131 w b #[.int .u64 cb, xb, yb, zb, wb]) (hs : ca + cb < 18446744073709551616) :
    Calls Try.prog 77 #[ptr Fb, ptr a, ptr b] w fun e w' => e = .returned (ptr w.heap.size) ∧ St 131 w' w.heap.size #[.int .u64 ((ca + cb : Nat) : Int), .int .i64 m, .int .i64 0, ptr a, ptr b] ∧ St 111 w' Fb #[.int .i64 ((m : Int) + 1)] ∧ Kp (fun k => k = Fb) w w' := by
  have HG : Hid (∀ W, Kp (fun _ => False) w W → W.heap.size = w.heap.size → Calls Try.prog 88 #[.pointer (some ⟨Fb, 0, none⟩), .agg #[.int .u64 ((ca : Int) + cb), .int .i64 0, .int .i64 0, .pointer (some ⟨a, 0, none⟩), .pointer (some ⟨b, 0, none⟩)]] W fun e w' => e = .returned (.pointer (some ⟨w.heap.size, 0, none⟩)) ∧ St 131 w' w.heap.size #[.int .u64 ((ca + cb : Nat) : Int), .int .i64 m, .int .i64 0, ptr a, ptr b] ∧ St 111 w' Fb #[.int .i64 ((m : Int) + 1)] ∧ Kp (fun k => k = Fb) w w') := by
    intro W k hz
    have := grown_any W Fb m (ca + cb) 0 (.int .i64 0) (some a) (some b) (hf.kp k (fun h => h)) hm ⟨0, rfl⟩
    rw [hz] at this
    exact this.mono (fun e w' h => ⟨h.1, h.2.1, h.2.2.1, (k.mono (G := fun k => k = Fb) (fun _ _ h => h.elim)).trans h.2.2.2 (fun _ _ h => h)⟩)
  have na : ¬ a = Fb := fun e => by subst e; exact apart_types (by decide) hf ha
  have nb : ¬ b = Fb := fun e => by subst e; exact apart_types (by decide) hf hb
  have a0 := ha.cell 0
  have b0 := hb.cell 0
  simp at a0 b0
  unfold ptr at *
  go_enter Try.func77, Try.ntmps77
  go_wp2
  refine wp_region_held_drew (S := fun w' => w'.cell? ⟨a, 0, none⟩ = some (.int .u64 ca) ∧ w'.cell? ⟨b, 0, none⟩ = some (.int .u64 cb)) (by kernel_rfl) ⟨a0, b0⟩ (fun h0 => ?_)
  refine wpAnyH_take (i := 0) (v := .pointer (some ⟨Fb, 0, none⟩)) rfl (by kernel_rfl) (by kernel_rfl) (by kernel_rfl) (fun _ _ _ h => h) (Or.inl ⟨by rfl, fun w hSw => by (try dsimp only at hSw); (try have hS1 := hSw.1); (try have hS2 := hSw.2); go_simp⟩) h0 ?_
  refine wpAnyH_take (i := 1) (v := .pointer (some ⟨a, 0, none⟩)) rfl (by kernel_rfl) (by kernel_rfl) (by kernel_rfl) (fun _ _ _ h => h) (Or.inl ⟨by rfl, fun w hSw => by (try dsimp only at hSw); (try have hS1 := hSw.1); (try have hS2 := hSw.2); go_simp⟩) h0 ?_
  refine wpAnyH_take (i := 2) (v := .pointer (some ⟨a, 0, none⟩)) rfl (by kernel_rfl) (by kernel_rfl) (by kernel_rfl) (fun _ _ _ h => h) (Or.inl ⟨by rfl, fun w hSw => by (try dsimp only at hSw); (try have hS1 := hSw.1); (try have hS2 := hSw.2); go_simp⟩) h0 ?_
  refine wpAnyH_take (i := 3) (v := .pointer (some ⟨a, 0, none⟩)) rfl (by kernel_rfl) (by kernel_rfl) (by kernel_rfl) (fun _ _ _ h => h) (Or.inl ⟨by rfl, fun w hSw => by (try dsimp only at hSw); (try have hS1 := hSw.1); (try have hS2 := hSw.2); go_simp⟩) h0 ?_
  refine wpAnyH_take (i := 4) (v := .int .u64 ca) rfl (by kernel_rfl) (by kernel_rfl) (by kernel_rfl) (fun _ _ _ h => h) (Or.inl ⟨by rfl, fun w hSw => by (try dsimp only at hSw); (try have hS1 := hSw.1); (try have hS2 := hSw.2); go_simp⟩) h0 ?_
  refine wpAnyH_take (i := 5) (v := .pointer (some ⟨b, 0, none⟩)) rfl (by kernel_rfl) (by kernel_rfl) (by kernel_rfl) (fun _ _ _ h => h) (Or.inl ⟨by rfl, fun w hSw => by (try dsimp only at hSw); (try have hS1 := hSw.1); (try have hS2 := hSw.2); go_simp⟩) h0 ?_
  refine wpAnyH_take (i := 6) (v := .pointer (some ⟨b, 0, none⟩)) rfl (by kernel_rfl) (by kernel_rfl) (by kernel_rfl) (fun _ _ _ h => h) (Or.inl ⟨by rfl, fun w hSw => by (try dsimp only at hSw); (try have hS1 := hSw.1); (try have hS2 := hSw.2); go_simp⟩) h0 ?_
  refine wpAnyH_take (i := 7) (v := .pointer (some ⟨b, 0, none⟩)) rfl (by kernel_rfl) (by kernel_rfl) (by kernel_rfl) (fun _ _ _ h => h) (Or.inl ⟨by rfl, fun w hSw => by (try dsimp only at hSw); (try have hS1 := hSw.1); (try have hS2 := hSw.2); go_simp⟩) h0 ?_
  refine wpAnyH_take (i := 8) (v := .int .u64 cb) rfl (by kernel_rfl) (by kernel_rfl) (by kernel_rfl) (fun _ _ _ h => h) (Or.inl ⟨by rfl, fun w hSw => by (try dsimp only at hSw); (try have hS1 := hSw.1); (try have hS2 := hSw.2); go_simp⟩) h0 ?_
  refine wpAnyH_take (i := 9) (v := .int .u64 ((ca : Int) + cb)) rfl (by kernel_rfl) (by kernel_rfl) (by kernel_rfl) (fun _ _ _ h => h) (Or.inl ⟨by rfl, fun w hSw => by (try dsimp only at hSw); (try have hS1 := hSw.1); (try have hS2 := hSw.2); go_simp; (simp only [IntKind.wrap, IntKind.bits, IntKind.signed]; simp; omega)⟩) h0 ?_
  refine wpAnyH_take (i := 10) (v := .pointer (some ⟨a, 0, none⟩)) rfl (by kernel_rfl) (by kernel_rfl) (by kernel_rfl) (fun _ _ _ h => h) (Or.inl ⟨by rfl, fun w hSw => by (try dsimp only at hSw); (try have hS1 := hSw.1); (try have hS2 := hSw.2); go_simp⟩) h0 ?_
  refine wpAnyH_take (i := 11) (v := .pointer (some ⟨b, 0, none⟩)) rfl (by kernel_rfl) (by kernel_rfl) (by kernel_rfl) (fun _ _ _ h => h) (Or.inl ⟨by rfl, fun w hSw => by (try dsimp only at hSw); (try have hS1 := hSw.1); (try have hS2 := hSw.2); go_simp⟩) h0 ?_
  refine wpAnyH_take (i := 12) (v := .agg #[.int .u64 ((ca : Int) + cb), .int .i64 0, .int .i64 0, .pointer (some ⟨a, 0, none⟩), .pointer (some ⟨b, 0, none⟩)]) rfl (by kernel_rfl) (by kernel_rfl) (by kernel_rfl) (fun _ _ _ h => h) (Or.inl ⟨by rfl, fun w hSw => by (try dsimp only at hSw); (try have hS1 := hSw.1); (try have hS2 := hSw.2); go_simp⟩) h0 ?_
  refine wpAnyH_ready (rs := [13]) (by kernel_rfl) (by simp) ?_
  refine AllReadyH.cons rfl (fun K hK => ?_) AllReadyH.nil
  go_simp
  refine (HG.out _ (drewN_kp (fun _ => False) w 1) rfl).mono ?_
  rintro _ w1 ⟨rfl, S1, F1, K1⟩
  go_wp2_with fail
  refine hK.out _ _ ⟨(ha.kp K1 na).cell 0, (hb.kp K1 nb).cell 0⟩ (fun h1 => ?_)
  clear hK K
  refine wpAnyH_take (i := 14) (v := .pointer (some ⟨w.heap.size, 0, none⟩)) rfl (by kernel_rfl) (by kernel_rfl) (by kernel_rfl) (fun _ _ _ h => h) (Or.inl ⟨by rfl, fun w hSw => by go_simp⟩) h1 ?_
  refine wpAnyH_done (by kernel_rfl) ?_ _
  go_wp2_with fail
  go_ret
  exact ⟨rfl, S1, F1, K1⟩
end Go.Proofs.Ythpocbpleffdpaa

namespace Go.Proofs.Ythpocbpleffdpaa
open Go.RowKit

/-- A tree: what it costs, its symbol, its two parts (by the numbers under which they were made). -/
abbrev Nd := Nat × Nat × Option (Nat × Nat)
def nd0 : Nd := (0, 0, none)
/-- The forest in memory: its block, the trees made so far, their blocks. -/
structure Fo (w : World) (Fb : Nat) (F : List Nd) (bs : List Nat) : Prop where
  st : St 111 w Fb #[.int .i64 F.length]
  len : bs.length = F.length
  nd : ∀ k, k < F.length → St 131 w (bs.getD k 0) #[.int .u64 (F.getD k nd0).1, .int .i64 k, .int .i64 (F.getD k nd0).2.1, pto ((F.getD k nd0).2.2.map fun p => bs.getD p.1 0), pto ((F.getD k nd0).2.2.map fun p => bs.getD p.2 0)]
  co : ∀ k, k < F.length → (F.getD k nd0).1 < 18446744073709551616
  kid : ∀ k p, k < F.length → (F.getD k nd0).2.2 = some p → p.1 < k ∧ p.2 < k
  small : F.length < 4611686018427387904
theorem Fo.kp {G : Nat → Prop} {w w' : World} {Fb : Nat} {F : List Nd} {bs : List Nat} (h : Fo w Fb F bs) (k : Kp G w w') (h1 : ¬ G Fb) (h2 : ∀ b ∈ bs, ¬ G b) : Fo w' Fb F bs :=
  ⟨h.st.kp k h1, h.len, fun i hi => (h.nd i hi).kp k (h2 _ (by have := h.len; simp [List.getD, show i < bs.length by omega])), h.co, h.kid, h.small⟩
theorem Fo.inj {w : World} {Fb : Nat} {F : List Nd} {bs : List Nat} (h : Fo w Fb F bs) {i j : Nat} (hi : i < F.length) (hj : j < F.length) (e : bs.getD i 0 = bs.getD j 0) : i = j := by
  have h1 := h.nd i hi
  have h2 := h.nd j hj
  rw [e] at h1
  unfold St at h1 h2
  rw [h1] at h2
  injection h2 with h2
  injection h2 with h2 _
  have := congrArg (fun (a : Array Value) => a[1]?) h2
  simp at this
  omega
theorem Fo.mem {w : World} {Fb : Nat} {F : List Nd} {bs : List Nat} (h : Fo w Fb F bs) {b : Nat} (hb : b ∈ bs) : ∃ k, k < F.length ∧ b = bs.getD k 0 := by
  obtain ⟨k, hk, rfl⟩ := List.mem_iff_getElem.1 hb
  exact ⟨k, by have := h.len; omega, by simp [List.getD, hk]⟩
theorem Fo.lt {w : World} {Fb : Nat} {F : List Nd} {bs : List Nat} (h : Fo w Fb F bs) {b : Nat} (hb : b ∈ bs) : b < w.heap.size ∧ b ≠ Fb := by
  obtain ⟨k, hk, rfl⟩ := h.mem hb
  exact ⟨(h.nd k hk).lt, fun e => apart_types (by decide) (e ▸ h.nd k hk) h.st⟩
/-- The keys, off the list. -/
def cF (F : List Nd) (bs : List Nat) (b : Nat) : Nat := (F.getD (bs.idxOf b) nd0).1 * 9223372036854775808 + bs.idxOf b
theorem Fo.idx {w : World} {Fb : Nat} {F : List Nd} {bs : List Nat} (h : Fo w Fb F bs) {k : Nat} (hk : k < F.length) : bs.idxOf (bs.getD k 0) = k := by
  have hl := h.len
  have hm : bs.getD k 0 ∈ bs := by simp [List.getD, show k < bs.length by omega]
  have h1 := List.idxOf_lt_length_of_mem hm
  refine h.inj (by omega) hk ?_
  generalize bs.getD k 0 = b at h1 ⊢
  simp [List.getD, h1]
theorem Fo.tk {w : World} {Fb : Nat} {F : List Nd} {bs : List Nat} (h : Fo w Fb F bs) {b : Nat} (hb : b ∈ bs) : Tk (cF F bs) w b := by
  obtain ⟨k, hk, rfl⟩ := h.mem hb
  refine ⟨_, k, _, _, _, h.nd k hk, h.co k hk, by have := h.small; omega, ?_⟩
  unfold cF
  rw [h.idx hk]
theorem cF_more {F : List Nd} {bs : List Nat} (hl : bs.length = F.length) (x : Nd) (n : Nat) {b : Nat} (hb : b ∈ bs) : cF (F ++ [x]) (bs ++ [n]) b = cF F bs b := by
  have h1 := List.idxOf_lt_length_of_mem hb
  unfold cF
  rw [List.idxOf_append, if_pos hb]
  simp [List.getD, List.getElem?_append_left (show bs.idxOf b < F.length by omega)]
theorem Fo.grow {w w' : World} {Fb : Nat} {F : List Nd} {bs : List Nat} (h : Fo w Fb F bs) (x : Nd) (hx : x.1 < 18446744073709551616) (hk : ∀ p, x.2.2 = some p → p.1 < F.length ∧ p.2 < F.length) (hs : F.length + 1 < 4611686018427387904)
    (hn : St 131 w' w.heap.size #[.int .u64 x.1, .int .i64 F.length, .int .i64 x.2.1, pto (x.2.2.map fun p => bs.getD p.1 0), pto (x.2.2.map fun p => bs.getD p.2 0)]) (hf : St 111 w' Fb #[.int .i64 ((F.length : Int) + 1)]) (k : Kp (fun k => k = Fb) w w') : Fo w' Fb (F ++ [x]) (bs ++ [w.heap.size]) := by
  have hl := h.len
  have hgo : ∀ j, j < F.length → (F ++ [x]).getD j nd0 = F.getD j nd0 := fun j hj => by simp [List.getD, List.getElem?_append_left hj]
  have hbo : ∀ j, j < F.length → (bs ++ [w.heap.size]).getD j 0 = bs.getD j 0 := fun j hj => by simp [List.getD, List.getElem?_append_left (show j < bs.length by omega)]
  have hgn : (F ++ [x]).getD F.length nd0 = x := by simp
  have hbn : (bs ++ [w.heap.size]).getD F.length 0 = w.heap.size := by rw [← hl]; simp
  have hmap : ∀ (o : Option (Nat × Nat)), (∀ p, o = some p → p.1 < F.length ∧ p.2 < F.length) → (o.map fun p => (bs ++ [w.heap.size]).getD p.1 0) = (o.map fun p => bs.getD p.1 0) ∧ (o.map fun p => (bs ++ [w.heap.size]).getD p.2 0) = (o.map fun p => bs.getD p.2 0) := by
    intro o ho
    cases o with
    | none => exact ⟨rfl, rfl⟩
    | some p => exact ⟨by simp only [Option.map_some]; rw [hbo _ (ho p rfl).1], by simp only [Option.map_some]; rw [hbo _ (ho p rfl).2]⟩
  refine ⟨by simpa using hf, by simp [hl], fun j hj => ?_, fun j hj => ?_, fun j p hj e => ?_, by simpa using hs⟩
  · by_cases hj2 : j < F.length
    · rw [hgo j hj2, hbo j hj2]
      obtain ⟨e1, e2⟩ := hmap (F.getD j nd0).2.2 (fun p e => by have := h.kid j p hj2 e; omega)
      rw [e1, e2]
      exact (h.nd j hj2).kp k (fun e => (h.lt (b := bs.getD j 0) (by simp [List.getD, show j < bs.length by omega])).2 e)
    · obtain rfl : j = F.length := by simp at hj; omega
      rw [hgn, hbn]
      obtain ⟨e1, e2⟩ := hmap x.2.2 hk
      rw [e1, e2]
      exact hn
  · by_cases hj2 : j < F.length
    · rw [hgo j hj2]; exact h.co j hj2
    · obtain rfl : j = F.length := by simp at hj; omega
      rw [hgn]; exact hx
  · by_cases hj2 : j < F.length
    · rw [hgo j hj2] at e; exact h.kid j p hj2 e
    · obtain rfl : j = F.length := by simp at hj; omega
      rw [hgn] at e; exact hk p e
end Go.Proofs.Ythpocbpleffdpaa

namespace Go.Proofs.Ythpocbpleffdpaa
open Go.RowKit

/-- The leaves of the first i counts. -/
def lv (zs : List Int) (i : Nat) : List Nd := ((List.range i).filter (fun j => decide (0 < zs.getD j 0))).map (fun j => ((zs.getD j 0).toNat, j, none))
theorem lv_zero (zs : List Int) : lv zs 0 = [] := rfl
theorem lv_yes {zs : List Int} {i : Nat} (h : 0 < zs.getD i 0) : lv zs (i + 1) = lv zs i ++ [((zs.getD i 0).toNat, i, none)] := by
  simp only [lv, List.range_succ, List.filter_append, List.map_append]
  simp only [List.filter_cons, h, decide_true, if_true, List.filter_nil, List.map_cons, List.map_nil]
theorem lv_no {zs : List Int} {i : Nat} (h : ¬ 0 < zs.getD i 0) : lv zs (i + 1) = lv zs i := by
  simp only [lv, List.range_succ, List.filter_append, List.map_append]
  simp only [List.filter_cons, h, decide_false, if_false, List.filter_nil, List.map_nil, List.append_nil, Bool.false_eq_true]
theorem lv_len (zs : List Int) (i : Nat) : (lv zs i).length ≤ i := by
  have := List.length_filter_le (fun j => decide (0 < zs.getD j 0)) (List.range i)
  simpa [lv] using this

/-- What leaves holds while it goes. -/
structure Lvs (w wr : World) (Fb : Nat) (F : List Nd) (bs : List Nat) (zs : List Int) (v : Value) (i : Nat) (L : List Nat) : Prop where
  fo : Fo wr Fb (F ++ lv zs i) (bs ++ L)
  own : wr.ownsRow w.heap.size 116 1 v L.length (L.map ptr)
  kp : Kp (fun k => k = Fb) w wr
theorem Lvs.ne {w wr : World} {Fb : Nat} {F : List Nd} {bs : List Nat} {zs : List Int} {v : Value} {i : Nat} {L : List Nat} (h : Lvs w wr Fb F bs zs v i L) : ∀ g, v.ownBlock = some g → g ≠ Fb ∧ g ∉ bs ++ L := by
  intro g e
  rcases h.own.2 with ⟨rfl, _⟩ | ⟨g', cap, cur, rfl, _, h2, _⟩
  · simp [Value.ownBlock] at e
  · obtain rfl : g' = g := by simpa [Value.ownBlock] using e
    refine ⟨fun e => ?_, fun hm => ?_⟩
    · subst e
      exact apart_types (t := 116) (u := 111) (by decide) h2 h.fo.st
    · obtain ⟨k, hk, e⟩ := h.fo.mem hm
      subst e
      exact apart_types (t := 116) (u := 131) (by decide) h2 (h.fo.nd k hk)
theorem Lvs.more {w wr w1 w2 : World} {Fb : Nat} {F : List Nd} {bs : List Nat} {zs : List Int} {v v2 : Value} {i y : Nat} {L : List Nat} {o : Obj} (h : Lvs w wr Fb F bs zs v i L) (hy : zs.getD i 0 = (y : Int)) (hp : 0 < y) (hy2 : y < 4294967296) (hs : F.length + i + 1 < 4611686018427387904)
    (S1 : St 131 w1 wr.heap.size #[.int .u64 y, .int .i64 ((F ++ lv zs i).length : Nat), .int .i64 i, pto none, pto none]) (F1 : St 111 w1 Fb #[.int .i64 (((F ++ lv zs i).length : Nat) + 1 : Int)]) (K1 : Kp (fun k => k = Fb) wr w1)
    (O2 : w2.ownsRow w.heap.size 116 1 v2 (L.length + 1) (L.map ptr ++ [ptr wr.heap.size])) (K2 : Kp (fun k => v.ownBlock = some k) (w1.alloc o) w2) : Lvs w w2 Fb F bs zs v2 (i + 1) (L ++ [wr.heap.size]) := by
  have hll := lv_len zs i
  have e0 : 0 < zs.getD i 0 := by rw [hy]; omega
  have f1 : Fo w1 Fb ((F ++ lv zs i) ++ [(y, i, none)]) ((bs ++ L) ++ [wr.heap.size]) := h.fo.grow (y, i, none) (by simp; omega) (fun p e => by cases e) (by simp; omega) S1 F1 K1
  have e1 : F ++ lv zs (i + 1) = (F ++ lv zs i) ++ [(y, i, none)] := by rw [lv_yes e0, hy, Int.toNat_natCast, List.append_assoc]
  have K3 : Kp (fun k => v.ownBlock = some k) w1 w2 := (Kp.alloc (Kp.refl _ w1) o).trans K2 (fun _ _ h => h)
  have hlt : ∀ g, v.ownBlock = some g → w.heap.size ≤ g ∧ g < wr.heap.size := fun g e => h.own.lt g e
  refine ⟨?_, by simpa using O2, ?_⟩
  · rw [e1, ← List.append_assoc]
    refine f1.kp K3 (fun e => (h.ne _ e).1 rfl) (fun b hb e => ?_)
    rcases List.mem_append.1 hb with hb | hb
    · exact (h.ne _ e).2 hb
    · have := (hlt _ e).2
      simp at hb
      omega
  · exact (h.kp.trans K1 (fun _ _ h => h)).trans K3 (fun i hi e => by have := (hlt _ e).1; omega)

theorem own_kp {G : Nat → Prop} {w w' : World} {base e n : Nat} {v : Value} {xs : List Value} (h : w.ownsRow base e 1 v n xs) (k : Kp G w w') (hg : ∀ g, v.ownBlock = some g → ¬ G g) : w'.ownsRow base e 1 v n xs := by
  refine ⟨h.1, ?_⟩
  rcases h.2 with h0 | ⟨g, cap, cur, rfl, h1, h2, h3, h4, h5, h6⟩
  · exact .inl h0
  · exact .inr ⟨g, cap, cur, rfl, h1, by rw [k.block g (Array.getElem?_eq_some_iff.1 h2).1 (hg g rfl)]; exact h2, h3, h4, h5, h6⟩
set_option maxHeartbeats 4000000 in
set_option maxRecDepth 100000 in
theorem leaves_any (w : World) (Fb : Nat) (F : List Nd) (bs : List Nat) (ao : Option Addr) (cap : Nat) (zs : List Int) (hl : zs.length ≤ 1000000) (hF : F.length ≤ 1000000000) (hz : ∀ z ∈ zs, 0 ≤ z ∧ z < 4294967296) (hs : Src .u32 w ao zs) (hao : ∀ b off, ao = some ⟨b, off, none⟩ → 0 < zs.length → b ≠ Fb) (hf : Fo w Fb F bs) :
    Calls Try.prog 72 #[ptr Fb, .slice ao zs.length cap] w fun e w' => ∃ v L, e = .returned v ∧ Lvs w w' Fb F bs zs v zs.length L := by
  have HS := hid hs
  have HZ := hid hz
  clear hs hz
  unfold ptr
  go_enter Try.func72, Try.ntmps72
  go_wp2_with fail
  go_loopw [5, 10] (fun v5 iv wr => ∃ (i : Nat) (L : List Nat), iv = .int .i64 i ∧ i ≤ zs.length ∧ Hid (Lvs w wr Fb F bs zs v5 i L)) (fun _ i _ => zs.length - (intOf i).toNat)
  case atStart => exact ⟨0, [], rfl, Nat.zero_le _, by rw [lv_zero, List.append_nil, List.append_nil]; exact hf, World.ownsRow_nil _ _ _ _, Kp.refl _ _⟩
  case round =>
    obtain ⟨i, L, rfl, hi, HH⟩ := hrel
    by_cases hil : i < zs.length
    · obtain ⟨b, off, rfl, hc⟩ := (HS.out.kp HH.out.kp (fun b off e => hao b off e (by omega))) (by omega)
      have c := hc i hil
      have hzi := HZ.out (zs.getD i 0) (by simp [List.getD, hil])
      obtain ⟨y, hy⟩ : ∃ y : Nat, zs.getD i 0 = (y : Int) := ⟨(zs.getD i 0).toNat, by omega⟩
      rw [hy] at c hzi
      have HY := hid hy
      clear hy hc
      by_cases hp : 0 < y
      · have hsm := HH.out.fo.small
        have hbl := HH.out.kp.size
        have HG : Hid (Calls Try.prog 88 #[.pointer (some ⟨Fb, 0, none⟩), .agg #[.int .u64 y, .int .i64 0, .int .i64 i, .pointer none, .pointer none]] wr fun e w' => e = .returned (.pointer (some ⟨wr.heap.size, 0, none⟩)) ∧ St 131 w' wr.heap.size #[.int .u64 y, .int .i64 ((F ++ lv zs i).length : Nat), .int .i64 i, pto none, pto none] ∧ St 111 w' Fb #[.int .i64 (((F ++ lv zs i).length : Nat) + 1 : Int)] ∧ Kp (fun k => k = Fb) wr w') := grown_any wr Fb (F ++ lv zs i).length y i (.int .i64 0) none none HH.out.fo.st hsm ⟨0, rfl⟩
        have hLl : L.length ≤ 1000000 := by
          have h1 := HH.out.fo.len
          have h2 := lv_len zs i
          have h3 := hf.len
          simp at h1
          omega
        clear hsm
        go_wp2_with (first
          | (go_at_call 88; refine HG.out.mono ?_; rintro _ w1 ⟨rfl, S1, F1, K1⟩; have HO := hid (own_kp HH.out.own K1 (fun g e => (HH.out.ne g e).1)); have hz1 := K1.size; have R1 := hid (And.intro S1 (And.intro F1 K1)); clear S1 F1 K1)
          | (at_builtin; refine wpList_append_any rfl (.tmp 17) (.tmp 24) 114 rfl w.heap.size 116 (.pointer none) 1 8 Try.underlying114 Try.info116b rfl (by decide) u5 L.length (L.map ptr) rfl (HO.out.alloc _) (some ⟨w1.heap.size, 0, none⟩) 1 1 [ptr wr.heap.size] (by first | rfl | simp [Act.eval]) (fun h => by cases h) rfl (fun ad e j u hu => by (cases e; rw [add_z]; exact ((St.new 116 w1 #[ptr wr.heap.size]).cell j).trans (by simpa using hu))) (fun u hu => by (simp at hu; subst hu; rfl)) (by unfold maxLen; omega) (by omega) (by simp; omega) ?_; intro v2 w2 O2 K2 _; have HW := hid (HH.out.more HY.out hp (by omega) (by omega) R1.out.1 R1.out.2.1 R1.out.2.2 O2 K2); clear O2 K2))
        exact ⟨⟨i + 1, _, rfl, by omega, HW.out⟩, by simp [intOf]; omega⟩
      · go_wp2_with fail
        exact ⟨⟨i + 1, L, rfl, by omega, by rw [lv_no (by rw [HY.out]; omega)]; exact HH.out.fo, HH.out.own, HH.out.kp⟩, by simp [intOf]; omega⟩
    · obtain rfl : i = zs.length := by omega
      go_wp2_with fail
      go_ret
      exact ⟨_, L, rfl, HH.out⟩
end Go.Proofs.Ythpocbpleffdpaa

namespace Go.Proofs.Ythpocbpleffdpaa
open Go.RowKit

/-- The depths of a tree's symbols, laid into Z (the first number: enough for its height). -/
def snk (F : List Nd) : Nat → Nat → Nat → List Int → List Int
  | 0, _, _, Z => Z
  | n + 1, k, d, Z => match (F.getD k nd0).2.2 with
    | none => Z.set (F.getD k nd0).2.1 d
    | some p => snk F n p.2 (d + 1) (snk F n p.1 (d + 1) Z)
theorem snk_len (F : List Nd) : ∀ n k d Z, (snk F n k d Z).length = Z.length := by
  intro n
  induction n with
  | zero => intro k d Z; rfl
  | succ n ih =>
    intro k d Z
    unfold snk
    split
    · simp
    · rw [ih, ih]
theorem Rw.st {κ : IntKind} {t : TypeId} {w : World} {g : Nat} {L : List Int} (h : Rw κ t w g L) : St t w g (L.map (Value.int κ)).toArray := h

set_option maxHeartbeats 4000000 in
set_option maxRecDepth 100000 in
theorem sink_any (F : List Nd) (bs : List Nat) (Fb G : Nat) : ∀ (n k d : Nat) (Z : List Int) (w : World), k < n → k < F.length → d + n < 4611686018427387904 → Fo w Fb F bs → Rw .i64 3 w G Z → (∀ j, j < F.length → (F.getD j nd0).2.2 = none → (F.getD j nd0).2.1 < Z.length) → Z.length ≤ 1000000000 →
    Calls Try.prog 75 #[ptr (bs.getD k 0), .int .i64 d, .slice (some ⟨G, 0, none⟩) Z.length Z.length] w fun e w' => e = .returned (.tuple #[]) ∧ Rw .i64 3 w' G (snk F n k d Z) ∧ Kp (fun x => x = G) w w' := by
  intro n
  induction n with
  | zero => intro k d Z w h; omega
  | succ n ih =>
    intro k d Z w hkn hk hd hf hr hsy hZ
    have hn := hf.nd k hk
    have hGF : ¬ Fb = G := fun e => apart_types (by decide) (e ▸ hf.st) hr.st
    have hGb : ∀ b ∈ bs, ¬ b = G := fun b hb e => by
      obtain ⟨j, hj, rfl⟩ := hf.mem hb
      exact apart_types (by decide) (e ▸ hf.nd j hj) hr.st
    have hsk : snk F (n + 1) k d Z = match (F.getD k nd0).2.2 with | none => Z.set (F.getD k nd0).2.1 d | some p => snk F n p.2 (d + 1) (snk F n p.1 (d + 1) Z) := by rw [snk]
    rw [hsk]
    have hkid := hf.kid k
    have hsy1 := hsy k hk
    generalize hx : F.getD k nd0 = x at hn hkid hsy1 ⊢
    obtain ⟨co, sy, kd⟩ := x
    cases kd with
    | none =>
      have hs := hsy1 rfl
      have c2 := hn.cell 2
      have c3 := hn.cell 3
      have cz := hr.cell sy hs
      have fz := hr.frozen sy
      simp [pto] at c2 c3 hs cz
      have HR := hid hr
      clear hn hkid hsy1 hf hr hsk ih hx hsy
      unfold ptr
      simp only [List.getD_eq_getElem?_getD] at *
      generalize bs[k]?.getD 0 = a at *
      generalize Z[sy]?.getD 0 = zz at *
      go_enter Try.func75, Try.ntmps75
      go_wp2_with fail
      refine bodyPost_ret (results_none rfl _ _ _) rfl ?_
      exact ⟨rfl, HR.out.set sy d, kp_setCell w G sy _ (fun x => x = G) rfl⟩
    | some p =>
      obtain ⟨p1, p2⟩ := p
      obtain ⟨q1, q2⟩ := hkid (p1, p2) hk rfl
      have c3 := hn.cell 3
      have c4 := hn.cell 4
      simp [pto] at c3 c4
      have H1 : Hid (Calls Try.prog 75 #[.pointer (some ⟨bs.getD p1 0, 0, none⟩), .int .i64 ((d : Int) + 1), .slice (some ⟨G, 0, none⟩) Z.length Z.length] w fun e w' => e = .returned (.tuple #[]) ∧ Rw .i64 3 w' G (snk F n p1 (d + 1) Z) ∧ Kp (fun x => x = G) w w') := ih p1 (d + 1) Z w (by omega) (by omega) (by omega) hf hr hsy hZ
      have H2 : Hid (∀ w1, Rw .i64 3 w1 G (snk F n p1 (d + 1) Z) → Kp (fun x => x = G) w w1 → Calls Try.prog 75 #[.pointer (some ⟨bs.getD p2 0, 0, none⟩), .int .i64 ((d : Int) + 1), .slice (some ⟨G, 0, none⟩) Z.length Z.length] w1 fun e w' => e = .returned (.tuple #[]) ∧ Rw .i64 3 w' G (snk F n p2 (d + 1) (snk F n p1 (d + 1) Z)) ∧ Kp (fun x => x = G) w1 w') := by
        intro w1 r1 k1
        have := ih p2 (d + 1) (snk F n p1 (d + 1) Z) w1 (by omega) (by omega) (by omega) (hf.kp k1 hGF hGb) r1 (by rw [snk_len]; exact hsy) (by rw [snk_len]; exact hZ)
        rw [snk_len] at this
        exact this
      have HC : Hid (∀ w1, Kp (fun x => x = G) w w1 → w1.cell? ⟨bs.getD k 0, 4, none⟩ = some (.pointer (some ⟨bs.getD p2 0, 0, none⟩))) := fun w1 k1 => by
        have := (hn.kp k1 (hGb _ (by have := hf.len; simp [List.getD, show k < bs.length by omega]))).cell 4
        simpa [pto] using this
      simp only [List.getD_eq_getElem?_getD] at *
      clear hn hkid hsy1 hf hr hsk ih hx hsy
      unfold ptr
      generalize bs[k]?.getD 0 = a at *
      generalize bs[p1]?.getD 0 = b1 at *
      generalize bs[p2]?.getD 0 = b2 at *
      go_enter Try.func75, Try.ntmps75
      go_wp2_with (first
        | (go_at_call 75; refine H1.out.mono ?_; rintro _ w1 ⟨rfl, R1, K1⟩; have d4 := HC.out w1 K1; have HB := hid (H2.out w1 R1 K1); clear H1)
        | (go_at_call 75; refine HB.out.mono ?_; rintro _ w2 ⟨rfl, R2, K2⟩))
      go_end0
      exact ⟨rfl, R2, K1.trans K2 (fun _ _ h => h)⟩
end Go.Proofs.Ythpocbpleffdpaa

namespace Go.Proofs.Ythpocbpleffdpaa
open Go.RowKit

/-- A tree's key. -/
def ky (F : List Nd) (k : Nat) : Nat := (F.getD k nd0).1 * 9223372036854775808 + k
theorem ky_inj {F : List Nd} {a b : Nat} (ha : a < 9223372036854775808) (hb : b < 9223372036854775808) (e : ky F a = ky F b) : a = b := by
  unfold ky at e
  omega
/-- The least of some trees. -/
def mn (F : List Nd) : List Nat → Nat
  | [] => 0
  | a :: K => K.foldl (fun x y => if ky F y < ky F x then y else x) a
theorem foldl_min (F : List Nd) : ∀ (K : List Nat) (a : Nat), (K.foldl (fun x y => if ky F y < ky F x then y else x) a) ∈ a :: K ∧ ∀ x ∈ a :: K, ky F (K.foldl (fun x y => if ky F y < ky F x then y else x) a) ≤ ky F x := by
  intro K
  induction K with
  | nil => intro a; simp
  | cons b K ih =>
    intro a
    rw [List.foldl_cons]
    obtain ⟨h1, h2⟩ := ih (if ky F b < ky F a then b else a)
    refine ⟨?_, fun x hx => ?_⟩
    · rcases List.mem_cons.1 h1 with h | h
      · rw [h]; split <;> simp
      · exact List.mem_cons_of_mem _ (List.mem_cons_of_mem _ h)
    · have h3 := h2 _ (List.mem_cons_self)
      rcases List.mem_cons.1 hx with rfl | hx
      · refine Nat.le_trans h3 ?_
        split <;> omega
      · rcases List.mem_cons.1 hx with rfl | hx
        · refine Nat.le_trans h3 ?_
          split <;> omega
        · exact h2 x (List.mem_cons_of_mem _ hx)
theorem mn_mem (F : List Nd) {K : List Nat} (h : K ≠ []) : mn F K ∈ K ∧ ∀ x ∈ K, ky F (mn F K) ≤ ky F x := by
  cases K with
  | nil => exact absurd rfl h
  | cons a K => exact foldl_min F K a
theorem mn_eq {F : List Nd} {K : List Nat} {k : Nat} (hk : k ∈ K) (hlt : ∀ x ∈ K, x < 9223372036854775808) (hm : ∀ x ∈ K, ky F k ≤ ky F x) : k = mn F K := by
  obtain ⟨h1, h2⟩ := mn_mem F (K := K) (fun e => by rw [e] at hk; cases hk)
  exact ky_inj (hlt k hk) (hlt _ h1) (Nat.le_antisymm (hm _ h1) (h2 k hk))

/-- A pile of the trees of these numbers. -/
structure Gp (w : World) (base Fb B : Nat) (v : Value) (F : List Nd) (bs K L : List Nat) : Prop where
  fo : Fo w Fb F bs
  pil : Pil (cF F bs) w base B v (fvo (ptr Fb)) L
  hx : Hx (kf (cF F bs) L) 0 L.length
  perm : L.Perm (K.map fun k => bs.getD k 0)
  lt : ∀ k ∈ K, k < F.length
theorem Gp.cF {w : World} {base Fb B : Nat} {v : Value} {F : List Nd} {bs K L : List Nat} (h : Gp w base Fb B v F bs K L) {k : Nat} (hk : k < F.length) : Go.Proofs.Ythpocbpleffdpaa.cF F bs (bs.getD k 0) = ky F k := by
  unfold Go.Proofs.Ythpocbpleffdpaa.cF ky
  rw [h.fo.idx hk]
theorem Gp.len {w : World} {base Fb B : Nat} {v : Value} {F : List Nd} {bs K L : List Nat} (h : Gp w base Fb B v F bs K L) : L.length = K.length := by
  have := h.perm.length_eq
  simpa using this
theorem Gp.apart {w : World} {base Fb B : Nat} {v : Value} {F : List Nd} {bs K L : List Nat} (h : Gp w base Fb B v F bs K L) : (Fb ≠ B ∧ v.ownBlock ≠ some Fb) ∧ ∀ b ∈ bs, b ≠ B ∧ v.ownBlock ≠ some b := by
  have hB := h.pil.st
  have hF := h.fo.st
  have hg : ∀ g, v.ownBlock = some g → ∃ cs, St 116 w g cs := by
    intro g e
    rcases h.pil.own.2 with ⟨rfl, _⟩ | ⟨g', cap, cur, rfl, _, h2, _⟩
    · simp [Value.ownBlock] at e
    · obtain rfl : g' = g := by simpa [Value.ownBlock] using e
      exact ⟨cur, h2⟩
  refine ⟨⟨fun e => by subst e; exact apart_types (by decide) hF hB, fun e => by obtain ⟨cs, hc⟩ := hg _ e; exact apart_types (by decide) hF hc⟩, fun b hb => ?_⟩
  obtain ⟨k, hk, rfl⟩ := h.fo.mem hb
  have hk2 := h.fo.nd k hk
  exact ⟨fun e => apart_types (by decide) (e ▸ hk2) hB, fun e => by obtain ⟨cs, hc⟩ := hg _ e; exact apart_types (by decide) hk2 hc⟩
theorem Gp.sub {w : World} {base Fb B : Nat} {v : Value} {F : List Nd} {bs K L : List Nat} (h : Gp w base Fb B v F bs K L) {b : Nat} (hb : b ∈ L) : ∃ k, k ∈ K ∧ b = bs.getD k 0 ∧ b ∈ bs := by
  have := h.perm.mem_iff.1 hb
  obtain ⟨k, hk, rfl⟩ := List.mem_map.1 this
  exact ⟨k, hk, rfl, by have h1 := h.lt k hk; have h2 := h.fo.len; simp [List.getD, show k < bs.length by omega]⟩

theorem least_gp (w : World) (base Fb B : Nat) (v : Value) (F : List Nd) (bs K L : List Nat) (h : Gp w base Fb B v F bs K L) (hK : K ≠ []) (hs : K.length < 4611686018427387904) :
    Calls Try.prog 74 #[ptr B] w fun e w' => e = .returned (ptr (bs.getD (mn F K) 0)) ∧ ∃ v' L', Gp w' base Fb B v' F bs (K.erase (mn F K)) L' ∧ v'.ownBlock = v.ownBlock ∧ Kp (fun k => k = B ∨ v.ownBlock = some k) w w' := by
  have hl := h.len
  have hpos : 0 < L.length := by
    rw [hl]
    cases K with
    | nil => exact absurd rfl hK
    | cons a K => simp
  refine (least_any _ w base B v (ptr Fb) L h.pil h.hx (by omega) hpos).mono ?_
  rintro e w' ⟨b, rfl, hp⟩
  obtain ⟨k, hk, rfl, _⟩ := h.sub hp.one.1
  have hkm : k = mn F K := by
    refine mn_eq hk (fun x hx => by have h1 := h.lt x hx; have h2 := h.fo.small; omega) (fun x hx => ?_)
    have := hp.one.2 (bs.getD x 0) (h.perm.mem_iff.2 (List.mem_map.2 ⟨x, hx, rfl⟩))
    rw [h.cF (h.lt k hk), h.cF (h.lt x hx)] at this
    exact this
  subst hkm
  obtain ⟨v', M, hM, P1, X1, O1⟩ := hp.rest
  have ha := h.apart
  refine ⟨rfl, v', M, ⟨h.fo.kp hp.kp (fun e => e.elim ha.1.1 ha.1.2) (fun b hb e => e.elim (ha.2 b hb).1 (ha.2 b hb).2), P1, X1, ?_, fun x hx => h.lt x (List.mem_of_mem_erase hx)⟩, O1, hp.kp⟩
  have e1 := (List.perm_cons_erase hk).map (fun k => bs.getD k 0)
  rw [List.map_cons] at e1
  exact ((hM.trans h.perm).trans e1).cons_inv
end Go.Proofs.Ythpocbpleffdpaa

namespace Go.Proofs.Ythpocbpleffdpaa
open Go.RowKit

theorem Tk.congr {c c' : Nat → Nat} {w : World} {b : Nat} (h : Tk c w b) (e : c' b = c b) : Tk c' w b := by
  obtain ⟨co, ma, s, l, r, h1, h2, h3, h4⟩ := h
  exact ⟨co, ma, s, l, r, h1, h2, h3, e.trans h4⟩
theorem Pil.congr {c c' : Nat → Nat} {w : World} {base B : Nat} {v fv : Value} {L : List Nat} (h : Pil c w base B v fv L) (e : ∀ b ∈ L, c' b = c b) : Pil c' w base B v fv L :=
  ⟨h.st, h.own, fun b hb => (h.tr b hb).congr (e b hb), h.ne, h.nb⟩
theorem kf_congr {c c' : Nat → Nat} {L : List Nat} (e : ∀ b ∈ L, c' b = c b) (k : Nat) (hk : k < L.length) : kf c' L k = kf c L k := by
  unfold kf
  exact e _ (by simp [List.getD, hk])

/-- Two trees as one. -/
def jnd (F : List Nd) (a b : Nat) : Nd := ((F.getD a nd0).1 + (F.getD b nd0).1, 0, some (a, b))
theorem joined_gp (w : World) (base Fb B : Nat) (v : Value) (F : List Nd) (bs K L : List Nat) (h : Gp w base Fb B v F bs K L) (a b : Nat) (ha : a < F.length) (hb : b < F.length) (hs : (F.getD a nd0).1 + (F.getD b nd0).1 < 18446744073709551616) (hF : F.length + 1 < 4611686018427387904) :
    Calls Try.prog 77 #[ptr Fb, ptr (bs.getD a 0), ptr (bs.getD b 0)] w fun e w' => e = .returned (ptr w.heap.size) ∧ Gp w' base Fb B v (F ++ [jnd F a b]) (bs ++ [w.heap.size]) K L ∧ Kp (fun k => k = Fb) w w' := by
  refine (joined_any w Fb F.length (bs.getD a 0) (bs.getD b 0) _ _ _ _ _ _ _ _ _ _ h.fo.st (by omega) (h.fo.nd a ha) (h.fo.nd b hb) hs).mono ?_
  rintro e w' ⟨rfl, S1, F1, K1⟩
  have hap := h.apart
  have f1 := h.fo.grow (jnd F a b) hs (fun p e => by simp only [jnd, Option.some.injEq] at e; subst e; exact ⟨ha, hb⟩) hF S1 F1 K1
  have hce : ∀ x ∈ L, Go.Proofs.Ythpocbpleffdpaa.cF (F ++ [jnd F a b]) (bs ++ [w.heap.size]) x = Go.Proofs.Ythpocbpleffdpaa.cF F bs x := fun x hx => by
    obtain ⟨_, _, _, hm⟩ := h.sub hx
    exact cF_more h.fo.len _ _ hm
  have p1 : Pil (cF F bs) w' base B v (fvo (ptr Fb)) L := h.pil.kp K1 (fun e => hap.1.1 e.symm) (fun g e e2 => hap.1.2 (e2 ▸ e)) (fun x hx e => by obtain ⟨_, _, _, hm⟩ := h.sub hx; exact (h.fo.lt hm).2 e)
  refine ⟨rfl, ⟨f1, p1.congr hce, h.hx.congr (fun k hk => kf_congr hce k hk), ?_, fun k hk => by have := h.lt k hk; simp; omega⟩, K1⟩
  have hm : K.map (fun k => (bs ++ [w.heap.size]).getD k 0) = K.map (fun k => bs.getD k 0) := by
    refine List.map_congr_left fun k hk => ?_
    have h1 := h.lt k hk
    have h2 := h.fo.len
    simp [List.getD, List.getElem?_append_left (show k < bs.length by omega)]
  rw [hm]
  exact h.perm

theorem push_gp (w : World) (base Fb B : Nat) (v : Value) (F : List Nd) (bs K L : List Nat) (h : Gp w base Fb B v F bs K L) (k : Nat) (hk : k < F.length) (hbase : base ≤ w.heap.size) (hs : K.length < 17592186044416) :
    Calls Try.prog 76 #[.iface 112 (ptr B), .iface 116 (ptr (bs.getD k 0))] w fun e w' => e = .returned (.tuple #[]) ∧ ∃ v' L', Gp w' base Fb B v' F bs (k :: K) L' ∧ (v'.ownBlock = v.ownBlock ∨ ∃ g, v'.ownBlock = some g ∧ w.heap.size ≤ g) ∧ Kp (fun k => k = B ∨ v.ownBlock = some k) w w' := by
  have hl := h.len
  have hm : bs.getD k 0 ∈ bs := by have := h.fo.len; simp [List.getD, show k < bs.length by omega]
  have hap := h.apart
  refine (hpush_any (cF F bs) w base B v (ptr Fb) L (bs.getD k 0) h.pil h.hx (h.fo.tk hm) (hap.2 _ hm).1 (fun g e e2 => (hap.2 _ hm).2 (e2 ▸ e)) hbase (by omega)).mono ?_
  rintro e w' ⟨rfl, v', L', hp, hP, hX⟩
  refine ⟨rfl, v', L', ⟨h.fo.kp hP.kp (fun e => e.elim hap.1.1 hap.1.2) (fun b hb e => e.elim (hap.2 b hb).1 (hap.2 b hb).2), hP.pil, hX, ?_, fun x hx => ?_⟩, hP.own, hP.kp⟩
  · rw [List.map_cons]
    exact hp.trans (h.perm.cons _)
  · rcases List.mem_cons.1 hx with rfl | hx
    · exact hk
    · exact h.lt x hx
end Go.Proofs.Ythpocbpleffdpaa

namespace Go.Proofs.Ythpocbpleffdpaa
open Go.RowKit

/-- The two least as one. -/
def jn (S : List Nd × List Nat) : List Nd × List Nat :=
  (S.1 ++ [jnd S.1 (mn S.1 S.2) (mn S.1 (S.2.erase (mn S.1 S.2)))], S.1.length :: (S.2.erase (mn S.1 S.2)).erase (mn S.1 (S.2.erase (mn S.1 S.2))))
def jns : Nat → List Nd × List Nat → List Nd × List Nat
  | 0, S => S
  | n + 1, S => jns n (jn S)
/-- Huffman's lengths. -/
def hzl (zs : List Int) : List Int :=
  if (lv zs zs.length).length = 0 then List.replicate zs.length 0
  else if (lv zs zs.length).length = 1 then snk (lv zs zs.length) (lv zs zs.length).length (mn (lv zs zs.length) (List.range (lv zs zs.length).length)) 1 (List.replicate zs.length 0)
  else snk (jns ((lv zs zs.length).length - 1) (lv zs zs.length, List.range (lv zs zs.length).length)).1 (jns ((lv zs zs.length).length - 1) (lv zs zs.length, List.range (lv zs zs.length).length)).1.length (mn (jns ((lv zs zs.length).length - 1) (lv zs zs.length, List.range (lv zs zs.length).length)).1 (jns ((lv zs zs.length).length - 1) (lv zs zs.length, List.range (lv zs zs.length).length)).2) 0 (List.replicate zs.length 0)
/-- What some trees cost together. -/
def cst (F : List Nd) (K : List Nat) : Nat := (K.map fun k => (F.getD k nd0).1).sum
theorem cst_erase {F : List Nd} {K : List Nat} {a : Nat} (h : a ∈ K) : cst F K = (F.getD a nd0).1 + cst F (K.erase a) := by
  have := ((List.perm_cons_erase h).map (fun k => (F.getD k nd0).1)).sum_nat
  simpa [cst] using this
theorem getD_front {F : List Nd} {x : Nd} {k : Nat} (h : k < F.length) : (F ++ [x]).getD k nd0 = F.getD k nd0 := by simp [List.getD, List.getElem?_append_left h]
theorem cst_more {F : List Nd} {x : Nd} {K : List Nat} (h : ∀ k ∈ K, k < F.length) : cst (F ++ [x]) K = cst F K := by
  unfold cst
  congr 1
  exact List.map_congr_left fun k hk => by rw [getD_front (h k hk)]
theorem cst_le {F : List Nd} {K : List Nat} {m : Nat} (h : ∀ k, (F.getD k nd0).1 ≤ m) : cst F K ≤ K.length * m := by
  unfold cst
  induction K with
  | nil => simp
  | cons a K ih =>
    rw [List.map_cons, List.sum_cons, List.length_cons, Nat.add_mul, Nat.one_mul]
    have := h a
    omega
theorem erase_len {K : List Nat} {a : Nat} (h : a ∈ K) : (K.erase a).length = K.length - 1 := List.length_erase_of_mem h
theorem ne_nil_of {K : List Nat} (h : 0 < K.length) : K ≠ [] := fun e => by rw [e] at h; simp at h

/-- All symbols of a forest are below n. -/
def Sy (F : List Nd) (n : Nat) : Prop := ∀ j, j < F.length → (F.getD j nd0).2.2 = none → (F.getD j nd0).2.1 < n
theorem sy_more {F : List Nd} {n a b : Nat} (h : Sy F n) : Sy (F ++ [jnd F a b]) n := by
  intro j hj e
  by_cases hj2 : j < F.length
  · rw [getD_front hj2] at e ⊢
    exact h j hj2 e
  · obtain rfl : j = F.length := by simp at hj; omega
    simp [jnd] at e
theorem lv_at (zs : List Int) (n k : Nat) (hk : k < (lv zs n).length) : ∃ j, j < n ∧ (lv zs n).getD k nd0 = ((zs.getD j 0).toNat, j, none) := by
  have hm : (lv zs n).getD k nd0 ∈ lv zs n := by simp [List.getD, hk]
  unfold lv at hm
  obtain ⟨j, hj, e⟩ := List.mem_map.1 hm
  have := List.mem_range.1 (List.mem_filter.1 hj).1
  exact ⟨j, this, e.symm⟩
theorem sy_lv (zs : List Int) : Sy (lv zs zs.length) zs.length := by
  intro k hk _
  obtain ⟨j, hj, e⟩ := lv_at zs zs.length k hk
  rw [e]
  exact hj
theorem co_lv {zs : List Int} (hz : ∀ z ∈ zs, 0 ≤ z ∧ z < 4294967296) (k : Nat) : ((lv zs zs.length).getD k nd0).1 ≤ 4294967296 := by
  by_cases hk : k < (lv zs zs.length).length
  · obtain ⟨j, hj, e⟩ := lv_at zs zs.length k hk
    rw [e]
    have := hz (zs.getD j 0) (by simp [List.getD, hj])
    show (zs.getD j 0).toNat ≤ 4294967296
    omega
  · have : (lv zs zs.length).getD k nd0 = nd0 := by simp only [List.getD, List.getElem?_eq_none (Nat.le_of_not_lt hk), Option.getD_none]
    rw [this]
    simp [nd0]

/-- What plain's loop holds. -/
structure Ps (w wr : World) (base Fb B G n : Nat) (v : Value) (F : List Nd) (bs K L : List Nat) (S : List Nd × List Nat) : Prop where
  gp : Gp wr base Fb B v F bs K L
  row : Rw .i64 3 wr G (List.replicate n 0)
  kp : Kp (fun _ => False) w wr
  big : w.heap.size ≤ base ∧ w.heap.size ≤ Fb ∧ w.heap.size ≤ B ∧ base ≤ wr.heap.size
  one : 0 < K.length
  js : jns (K.length - 1) (F, K) = S
  sum : cst F K < 18446744073709551616
  nums : F.length + K.length ≤ 2000000
  sym : Sy F n
theorem Gp.notG {w : World} {base Fb B G : Nat} {v : Value} {F : List Nd} {bs K L : List Nat} {Z : List Int} (h : Gp w base Fb B v F bs K L) (r : Rw .i64 3 w G Z) : G ≠ B ∧ v.ownBlock ≠ some G ∧ G ≠ Fb ∧ G ∉ bs := by
  refine ⟨fun e => apart_types (t := 3) (u := 127) (by decide) r.st (e ▸ h.pil.st), fun e => ?_, fun e => apart_types (t := 3) (u := 111) (by decide) r.st (e ▸ h.fo.st), fun hm => ?_⟩
  · rcases h.pil.own.2 with ⟨rfl, _⟩ | ⟨g', cap, cur, rfl, _, h2, _⟩
    · simp [Value.ownBlock] at e
    · obtain rfl : g' = G := by simpa [Value.ownBlock] using e
      exact apart_types (t := 3) (u := 116) (by decide) r.st h2
  · obtain ⟨k, hk, e⟩ := h.fo.mem hm
    exact apart_types (t := 3) (u := 131) (by decide) r.st (e ▸ h.fo.nd k hk)
/-- The least comes off. -/
theorem Ps.off {w wr w1 : World} {base Fb B G n : Nat} {v : Value} {F : List Nd} {bs K L : List Nat} (g : Gp wr base Fb B v F bs K L) (r : Rw .i64 3 wr G (List.replicate n 0)) (k : Kp (fun _ => False) w wr) (b : w.heap.size ≤ base ∧ w.heap.size ≤ Fb ∧ w.heap.size ≤ B ∧ base ≤ wr.heap.size) (k1 : Kp (fun k => k = B ∨ v.ownBlock = some k) wr w1) : Rw .i64 3 w1 G (List.replicate n 0) ∧ Kp (fun _ => False) w w1 ∧ base ≤ w1.heap.size := by
  have hg := g.notG r
  have hlt := fun x e => (g.pil.own.lt x e).1
  refine ⟨r.kp k1 (fun e => e.elim hg.1 hg.2.1), k.trans k1 (fun i hi e => ?_), Nat.le_trans b.2.2.2 k1.size⟩
  rcases e with e | e
  · omega
  · have := hlt i e
    omega
end Go.Proofs.Ythpocbpleffdpaa

namespace Go.Proofs.Ythpocbpleffdpaa
open Go.RowKit

theorem Ps.round {w wr w1 w2 w3 w4 : World} {base Fb B G n : Nat} {v v1 v2 v4 : Value} {F : List Nd} {bs K L L1 L2 L4 : List Nat} {S : List Nd × List Nat} (h : Ps w wr base Fb B G n v F bs K L S) (h1 : 1 < K.length)
    (g1 : Gp w1 base Fb B v1 F bs (K.erase (mn F K)) L1) (k1 : Kp (fun k => k = B ∨ v.ownBlock = some k) wr w1)
    (g2 : Gp w2 base Fb B v2 F bs ((K.erase (mn F K)).erase (mn F (K.erase (mn F K)))) L2) (k2 : Kp (fun k => k = B ∨ v1.ownBlock = some k) w1 w2)
    (g3 : Gp w3 base Fb B v2 (F ++ [jnd F (mn F K) (mn F (K.erase (mn F K)))]) (bs ++ [w2.heap.size]) ((K.erase (mn F K)).erase (mn F (K.erase (mn F K)))) L2) (k3 : Kp (fun k => k = Fb) w2 w3)
    (g4 : Gp w4 base Fb B v4 (F ++ [jnd F (mn F K) (mn F (K.erase (mn F K)))]) (bs ++ [w2.heap.size]) (F.length :: (K.erase (mn F K)).erase (mn F (K.erase (mn F K)))) L4) (k4 : Kp (fun k => k = B ∨ v2.ownBlock = some k) w3 w4) :
    Ps w w4 base Fb B G n v4 (F ++ [jnd F (mn F K) (mn F (K.erase (mn F K)))]) (bs ++ [w2.heap.size]) (F.length :: (K.erase (mn F K)).erase (mn F (K.erase (mn F K)))) L4 S := by
  obtain ⟨m1, _⟩ := mn_mem F (ne_nil_of (show 0 < K.length by omega))
  have l1 := erase_len m1
  obtain ⟨m2, _⟩ := mn_mem F (ne_nil_of (show 0 < (K.erase (mn F K)).length by omega))
  have l2 := erase_len m2
  have c1 := cst_erase (F := F) m1
  have c2 := cst_erase (F := F) m2
  obtain ⟨r1, q1, b1⟩ := Ps.off h.gp h.row h.kp h.big k1
  obtain ⟨r2, q2, b2⟩ := Ps.off g1 r1 q1 ⟨h.big.1, h.big.2.1, h.big.2.2.1, b1⟩ k2
  have n2 := g2.notG r2
  have r3 := r2.kp k3 n2.2.2.1
  have q3 : Kp (fun _ => False) w w3 := q2.trans k3 (fun i hi e => by have := h.big.2.1; omega)
  obtain ⟨r4, q4, b4⟩ := Ps.off g3 r3 q3 ⟨h.big.1, h.big.2.1, h.big.2.2.1, Nat.le_trans b2 k3.size⟩ k4
  refine ⟨g4, r4, q4, ⟨h.big.1, h.big.2.1, h.big.2.2.1, b4⟩, by simp, ?_, ?_, ?_, sy_more h.sym⟩
  · rw [← h.js]
    obtain ⟨m, hm⟩ : ∃ m, K.length = m + 2 := ⟨K.length - 2, by omega⟩
    rw [show (F.length :: (K.erase (mn F K)).erase (mn F (K.erase (mn F K)))).length - 1 = m by simp; omega, show K.length - 1 = m + 1 by omega]
    rfl
  · have e1 : cst (F ++ [jnd F (mn F K) (mn F (K.erase (mn F K)))]) (F.length :: (K.erase (mn F K)).erase (mn F (K.erase (mn F K)))) = (F.getD (mn F K) nd0).1 + (F.getD (mn F (K.erase (mn F K))) nd0).1 + cst F ((K.erase (mn F K)).erase (mn F (K.erase (mn F K)))) := by
      rw [← cst_more (x := jnd F (mn F K) (mn F (K.erase (mn F K)))) g2.lt]
      simp [cst, jnd]
    have := h.sum
    omega
  · have := h.nums
    simp
    omega
/-- A pile's length, off the memory. -/
def pln (B : Nat) (w : World) : Nat := match w.cell? ⟨B, 0, none⟩ with
  | some (.slice _ n _) => n
  | _ => 0
theorem Gp.pln {w : World} {base Fb B : Nat} {v : Value} {F : List Nd} {bs K L : List Nat} (h : Gp w base Fb B v F bs K L) : Go.Proofs.Ythpocbpleffdpaa.pln B w = K.length := by
  have h1 := h.pil.st.cell 0
  obtain ⟨ao, cap, e, _⟩ := h.pil.len
  simp at h1
  unfold Go.Proofs.Ythpocbpleffdpaa.pln
  rw [h1, e]
  exact h.len
theorem len_gp (w : World) (base Fb B : Nat) (v : Value) (F : List Nd) (bs K L : List Nat) (h : Gp w base Fb B v F bs K L) : Calls Try.prog 73 #[ptr B] w fun e w' => e = .returned (.int .i64 K.length) ∧ w = w' :=
  (len_any (cF F bs) w base B v (fvo (ptr Fb)) L h.pil).mono (fun _ _ e => ⟨by rw [e.1, h.len], e.2.symm⟩)
theorem map_range (L : List Nat) : (List.range L.length).map (fun k => L.getD k 0) = L := by
  apply List.ext_getElem?
  intro i
  by_cases hi : i < L.length
  · simp [hi]
  · simp [hi]
/-- The beginning. -/
theorem Ps.start {w w2 w3 w4 : World} {Fb G : Nat} {zs : List Int} {v : Value} {L L' : List Nat} (h : Lvs w2 w3 Fb [] [] zs v zs.length L) (hp : L'.Perm L) (hP : Pil (cF (lv zs zs.length) L) w4 w2.heap.size w3.heap.size v (fvo (ptr Fb)) L') (hX : Hx (kf (cF (lv zs zs.length) L) L') 0 L'.length) (k4 : Kp (fun k => v.ownBlock = some k) w3 w4)
    (r2 : Rw .i64 3 w2 G (List.replicate zs.length 0)) (k2 : Kp (fun _ => False) w w2) (hFb : w.heap.size ≤ Fb) (hGF : G ≠ Fb) (hz : ∀ z ∈ zs, 0 ≤ z ∧ z < 4294967296) (hl : zs.length ≤ 1000000) (h0 : 0 < (lv zs zs.length).length) :
    Ps w w4 w2.heap.size Fb w3.heap.size G zs.length v (lv zs zs.length) L (List.range (lv zs zs.length).length) L' (jns ((lv zs zs.length).length - 1) (lv zs zs.length, List.range (lv zs zs.length).length)) := by
  have hfo : Fo w3 Fb (lv zs zs.length) L := by have := h.fo; simpa using this
  have hne := h.ne
  have hll := hfo.len
  have hlv := lv_len zs zs.length
  have g : Gp w4 w2.heap.size Fb w3.heap.size v (lv zs zs.length) L (List.range (lv zs zs.length).length) L' := by
    refine ⟨hfo.kp k4 (fun e => (hne _ e).1 rfl) (fun b hb e => (hne _ e).2 (by simpa using hb)), hP, hX, ?_, fun k hk => List.mem_range.1 hk⟩
    rw [← hll, map_range]
    exact hp
  have r3 := r2.kp h.kp hGF
  have hG := r2.lt
  have hol := fun x e => (h.own.lt x e).1
  have z2 := k2.size
  have z3 := h.kp.size
  have z4 := k4.size
  have hs := cst_le (K := List.range (lv zs zs.length).length) (co_lv hz)
  rw [List.length_range] at hs
  refine ⟨g, r3.kp k4 (fun e => by have := hol _ e; omega), ?_, ⟨z2, hFb, by omega, by omega⟩, by simpa using h0, by rw [List.length_range], by omega, by rw [List.length_range]; omega, sy_lv zs⟩
  exact (k2.trans h.kp (fun i hi e => by omega)).trans k4 (fun i hi e => by have := hol _ e; omega)

theorem Try.info3p : (Try.prog.info? 3).map (fun i => (i.zero, i.size, i.bytes)) = some (some (.int .i64 0), 1, 8) := by kernel_rfl
/-- What is made ahead of the leaves. -/
structure Mk (w w1 : World) (n : Nat) : Prop where
  row : Rw .i64 3 w1 w.heap.size (List.replicate n 0)
  bel : Below w.heap.size w w1
theorem leaves_new {w w1 : World} {ao : Option Addr} {cap : Nat} {zs : List Int} (hl : zs.length ≤ 1000000) (hz : ∀ z ∈ zs, 0 ≤ z ∧ z < 4294967296) (hs : Src .u32 w ao zs) (m : Mk w w1 zs.length) :
    Calls Try.prog 72 #[ptr w1.heap.size, .slice ao zs.length cap] (w1.alloc (.cells #[.int .i64 0] 111)) fun e w' => ∃ v L, e = .returned v ∧ Lvs (w1.alloc (.cells #[.int .i64 0] 111)) w' w1.heap.size [] [] zs v zs.length L := by
  have hG := m.row.lt
  have k1 : Kp (fun _ => False) w w1 := Kp.of_below m.bel
  refine leaves_any _ w1.heap.size [] [] ao cap zs hl (by simp) hz ((hs.kp k1 (fun _ _ _ h => h)).kp (Kp.alloc (Kp.refl (fun _ => False) w1) _) (fun _ _ _ h => h)) (fun b off e h0 => ?_) ?_
  · subst e
    obtain ⟨b', off', e, hc⟩ := hs h0
    cases e
    have := block_lt_of_cell (hc 0 h0)
    simp at this
    omega
  · exact ⟨St.new 111 w1 _, rfl, fun k hk => by simp at hk, fun k hk => by simp at hk, fun k p hk => by simp at hk, by simp⟩
theorem pile_new {w2 w3 : World} {Fb : Nat} {zs : List Int} {v : Value} {L : List Nat} (hl : zs.length ≤ 1000000) (h : Lvs w2 w3 Fb [] [] zs v zs.length L) :
    Calls Try.prog 71 #[ptr Fb, v] w3 fun e w' => e = .returned (ptr w3.heap.size) ∧ ∃ L', L'.Perm L ∧ Pil (cF (lv zs zs.length) L) w' w2.heap.size w3.heap.size v (fvo (ptr Fb)) L' ∧ Hx (kf (cF (lv zs zs.length) L) L') 0 L'.length ∧ Kp (fun k => v.ownBlock = some k) w3 w' := by
  have hfo : Fo w3 Fb (lv zs zs.length) L := by have := h.fo; simpa using this
  have hll := hfo.len
  have hlv := lv_len zs zs.length
  exact pile_any (cF (lv zs zs.length) L) w3 w2.heap.size Fb v L h.own (fun b hb => hfo.tk hb) (fun g e hm => (h.ne g e).2 (by simpa using hm)) (by omega)

theorem frame4 {w w1 w3 w4 : World} {zs : List Int} {v : Value} {L : List Nat} (m : Mk w w1 zs.length) (h : Lvs (w1.alloc (.cells #[.int .i64 0] 111)) w3 w1.heap.size [] [] zs v zs.length L) (k4 : Kp (fun k => v.ownBlock = some k) w3 w4) : Rw .i64 3 w4 w.heap.size (List.replicate zs.length 0) ∧ Kp (fun _ => False) w w4 := by
  have hG := m.row.lt
  have hol := fun x e => (h.own.lt x e).1
  have hsz : (w1.alloc (.cells #[.int .i64 0] 111)).heap.size = w1.heap.size + 1 := by simp
  have k2 : Kp (fun _ => False) w (w1.alloc (.cells #[.int .i64 0] 111)) := (Kp.of_below m.bel).alloc _
  refine ⟨((m.row.alloc _).kp h.kp (fun e => by omega)).kp k4 (fun e => by have := hol _ e; omega), ?_⟩
  exact (k2.trans h.kp (fun i hi e => by omega)).trans k4 (fun i hi e => by have := hol _ e; omega)
theorem Ps.begin {w w1 w3 w4 : World} {zs : List Int} {v : Value} {L L' : List Nat} (hl : zs.length ≤ 1000000) (hz : ∀ z ∈ zs, 0 ≤ z ∧ z < 4294967296) (h0 : 0 < (lv zs zs.length).length) (m : Mk w w1 zs.length) (h : Lvs (w1.alloc (.cells #[.int .i64 0] 111)) w3 w1.heap.size [] [] zs v zs.length L)
    (r : L'.Perm L ∧ Pil (cF (lv zs zs.length) L) w4 (w1.alloc (.cells #[.int .i64 0] 111)).heap.size w3.heap.size v (fvo (ptr w1.heap.size)) L' ∧ Hx (kf (cF (lv zs zs.length) L) L') 0 L'.length ∧ Kp (fun k => v.ownBlock = some k) w3 w4) :
    Ps w w4 (w1.alloc (.cells #[.int .i64 0] 111)).heap.size w1.heap.size w3.heap.size w.heap.size zs.length v (lv zs zs.length) L (List.range (lv zs zs.length).length) L' (jns ((lv zs zs.length).length - 1) (lv zs zs.length, List.range (lv zs zs.length).length)) := by
  have hG := m.row.lt
  exact Ps.start h r.1 r.2.1 r.2.2.1 r.2.2.2 (m.row.alloc _) ((Kp.of_below m.bel).alloc _) (by omega) (by omega) hz hl h0
/-- The least comes off, and sinks. -/
theorem least_ps {w wr : World} {base Fb B G n : Nat} {v : Value} {F : List Nd} {bs K L : List Nat} {S : List Nd × List Nat} (h : Ps w wr base Fb B G n v F bs K L S) (hn : n ≤ 1000000) (hG : w.heap.size ≤ G) :
    Calls Try.prog 74 #[ptr B] wr fun e w' => e = .returned (ptr (bs.getD (mn F K) 0)) ∧ ∀ d : Nat, d ≤ 1 → Calls Try.prog 75 #[ptr (bs.getD (mn F K) 0), .int .i64 d, .slice (some ⟨G, 0, none⟩) n n] w' fun e w'' => e = .returned (.tuple #[]) ∧ Rw .i64 3 w'' G (snk F F.length (mn F K) d (List.replicate n 0)) ∧ Kp (fun _ => False) w w'' := by
  have hs := h.nums
  obtain ⟨m1, _⟩ := mn_mem F (ne_nil_of h.one)
  have m2 := h.gp.lt _ m1
  refine (least_gp wr base Fb B v F bs K L h.gp (ne_nil_of h.one) (by omega)).mono ?_
  rintro e w' ⟨rfl, v', L', g', _, k1⟩
  obtain ⟨r1, q1, _⟩ := Ps.off h.gp h.row h.kp h.big k1
  refine ⟨rfl, fun d hd => ?_⟩
  have := sink_any F bs Fb G F.length (mn F K) d (List.replicate n 0) w' m2 m2 (by omega) g'.fo r1 (by rw [List.length_replicate]; exact h.sym) (by rw [List.length_replicate]; omega)
  rw [List.length_replicate] at this
  exact this.mono (fun e w'' x => ⟨x.1, x.2.1, q1.trans x.2.2 (fun i hi e => by omega)⟩)

set_option maxHeartbeats 4000000 in
set_option maxRecDepth 100000 in
theorem plain_none (w : World) (ao : Option Addr) (cap : Nat) (zs : List Int) (hl : zs.length ≤ 1000000) (hz : ∀ z ∈ zs, 0 ≤ z ∧ z < 4294967296) (hs : Src .u32 w ao zs) (h0 : (lv zs zs.length).length = 0) :
    Calls Try.prog 50 #[.slice ao zs.length cap] w fun e w' => e = .returned (.slice (some ⟨w.heap.size, 0, none⟩) zs.length zs.length) ∧ Rw .i64 3 w' w.heap.size (hzl zs) ∧ Kp (fun _ => False) w w' := by
  have HS := hid hs
  have HZ := hid hz
  have H0 := hid h0
  clear hs hz h0
  go_enter Try.func50, Try.ntmps50
  go_wp2_with (first
    | (at_make; refine wpList_make_rw 22 3 8 Try.underlying22 Try.info3p (by decide) rfl _ _ rfl zs.length rfl rfl (by omega) ?_; intro w1 hrow hb1; have HM := hid (Mk.mk hrow hb1); clear hrow hb1)
    | (go_at_call 72; refine (leaves_new hl HZ.out HS.out HM.out).mono ?_; rintro _ w3 ⟨v, L, rfl, HL0⟩; have HL := hid HL0; clear HL0)
    | (go_at_call 71; refine (pile_new hl HL.out).mono ?_; rintro _ w4 ⟨rfl, L4, R4⟩; have HR := hid R4; clear R4; have HN : Hid (Calls Try.prog 73 #[ptr w3.heap.size] w4 fun e w' => e = .returned (.int .i64 0) ∧ w4 = w') := (len_any _ w4 _ _ _ _ L4 HR.out.2.1).mono (fun _ _ e => ⟨by rw [e.1, HR.out.1.length_eq, (by have := HL.out.fo.len; simpa using this : L.length = (lv zs zs.length).length), H0.out]; rfl, e.2.symm⟩))
    | (go_at_call 73; refine HN.out.mono ?_; rintro _ _ ⟨rfl, rfl⟩))
  go_ret
  have hf := frame4 HM.out HL.out HR.out.2.2.2
  refine ⟨rfl, ?_, hf.2⟩
  unfold hzl
  rw [if_pos H0.out]
  exact hf.1

set_option maxHeartbeats 4000000 in
set_option maxRecDepth 100000 in
theorem plain_one (w : World) (ao : Option Addr) (cap : Nat) (zs : List Int) (hl : zs.length ≤ 1000000) (hz : ∀ z ∈ zs, 0 ≤ z ∧ z < 4294967296) (hs : Src .u32 w ao zs) (h0 : (lv zs zs.length).length = 1) :
    Calls Try.prog 50 #[.slice ao zs.length cap] w fun e w' => e = .returned (.slice (some ⟨w.heap.size, 0, none⟩) zs.length zs.length) ∧ Rw .i64 3 w' w.heap.size (hzl zs) ∧ Kp (fun _ => False) w w' := by
  have HS := hid hs
  have HZ := hid hz
  have H0 := hid h0
  have HE : Hid (hzl zs = snk (lv zs zs.length) (lv zs zs.length).length (mn (lv zs zs.length) (List.range (lv zs zs.length).length)) 1 (List.replicate zs.length 0)) := by
    unfold hzl
    rw [if_neg (by omega), if_pos h0]
    exact rfl
  clear hs hz h0
  go_enter Try.func50, Try.ntmps50
  go_wp2_with (first
    | (at_make; refine wpList_make_rw 22 3 8 Try.underlying22 Try.info3p (by decide) rfl _ _ rfl zs.length rfl rfl (by omega) ?_; intro w1 hrow hb1; have HM := hid (Mk.mk hrow hb1); clear hrow hb1)
    | (go_at_call 72; refine (leaves_new hl HZ.out HS.out HM.out).mono ?_; rintro _ w3 ⟨v, L, rfl, HL0⟩; have HL := hid HL0; clear HL0)
    | (go_at_call 71; refine (pile_new hl HL.out).mono ?_; rintro _ w4 ⟨rfl, L4, R4⟩; have HP := hid (Ps.begin hl HZ.out (by rw [H0.out]; decide) HM.out HL.out R4); clear R4; have HN : Hid (Calls Try.prog 73 #[ptr w3.heap.size] w4 fun e w' => e = .returned (.int .i64 1) ∧ w4 = w') := (len_gp _ _ _ _ _ _ _ _ _ HP.out.gp).mono (fun _ _ e => ⟨by rw [e.1, List.length_range, H0.out]; rfl, e.2⟩))
    | (go_at_call 73; refine HN.out.mono ?_; rintro _ _ ⟨rfl, rfl⟩)
    | (go_at_call 74; refine (least_ps HP.out hl (Nat.le_refl _)).mono ?_; rintro _ w5 ⟨rfl, HQ0⟩; have HQ := hid HQ0; clear HQ0)
    | (go_at_call 75; refine (HQ.out 1 (by omega)).mono ?_; rintro _ w6 ⟨rfl, R6, K6⟩))
  go_ret
  exact ⟨rfl, by rw [HE.out]; exact R6, K6⟩
end Go.Proofs.Ythpocbpleffdpaa

namespace Go.Proofs.Ythpocbpleffdpaa
open Go.RowKit

theorem ps_end {w wr : World} {base Fb B G n : Nat} {v : Value} {F : List Nd} {bs K L : List Nat} {S : List Nd × List Nat} (h : Ps w wr base Fb B G n v F bs K L S) (h1 : ¬ 1 < K.length) : S = (F, K) := by
  have := h.js
  rw [show K.length - 1 = 0 by omega] at this
  exact this.symm
theorem two_ne {F : List Nd} {K : List Nat} (h1 : 1 < K.length) : K.erase (mn F K) ≠ [] := by
  obtain ⟨m1, _⟩ := mn_mem F (ne_nil_of (show 0 < K.length by omega))
  exact ne_nil_of (by rw [erase_len m1]; omega)
theorem short_of {F : List Nd} {K : List Nat} (h1 : 1 < K.length) : (F.length :: (K.erase (mn F K)).erase (mn F (K.erase (mn F K)))).length < K.length := by
  obtain ⟨m1, _⟩ := mn_mem F (ne_nil_of (show 0 < K.length by omega))
  obtain ⟨m2, _⟩ := mn_mem F (two_ne (F := F) h1)
  rw [List.length_cons, erase_len m2, erase_len m1]
  omega
theorem join_ps {w wr wb : World} {base Fb B G n : Nat} {v vb : Value} {F : List Nd} {bs K L Lb : List Nat} {S : List Nd × List Nat} (h : Ps w wr base Fb B G n v F bs K L S) (h1 : 1 < K.length) (gb : Gp wb base Fb B vb F bs ((K.erase (mn F K)).erase (mn F (K.erase (mn F K)))) Lb) :
    Calls Try.prog 77 #[ptr Fb, ptr (bs.getD (mn F K) 0), ptr (bs.getD (mn F (K.erase (mn F K))) 0)] wb fun e w' => e = .returned (ptr wb.heap.size) ∧ Gp w' base Fb B vb (F ++ [jnd F (mn F K) (mn F (K.erase (mn F K)))]) (bs ++ [wb.heap.size]) ((K.erase (mn F K)).erase (mn F (K.erase (mn F K)))) Lb ∧ Kp (fun k => k = Fb) wb w' := by
  obtain ⟨m1, _⟩ := mn_mem F (ne_nil_of h.one)
  obtain ⟨m2, _⟩ := mn_mem F (two_ne (F := F) h1)
  have c1 := cst_erase (F := F) m1
  have c2 := cst_erase (F := F) m2
  have hs := h.sum
  have hn := h.nums
  exact joined_gp wb base Fb B vb F bs _ Lb gb _ _ (h.gp.lt _ m1) (h.gp.lt _ (List.mem_of_mem_erase m2)) (by omega) (by omega)
theorem push_ps {w wr wa wb wc : World} {base Fb B G n : Nat} {v va vb : Value} {F : List Nd} {bs K L Lb : List Nat} {S : List Nd × List Nat} {x : Nd} {K2 : List Nat} (h : Ps w wr base Fb B G n v F bs K L S) (gb : Gp wb base Fb B vb F bs K2 Lb) (ka : Kp (fun k => k = B ∨ v.ownBlock = some k) wr wa) (kb : Kp (fun k => k = B ∨ va.ownBlock = some k) wa wb) (gc : Gp wc base Fb B vb (F ++ [x]) (bs ++ [wb.heap.size]) K2 Lb) (kc : Kp (fun k => k = Fb) wb wc) (hK2 : K2.length ≤ K.length) :
    Calls Try.prog 76 #[.iface 112 (ptr B), .iface 116 (ptr wb.heap.size)] wc fun e w' => e = .returned (.tuple #[]) ∧ ∃ v' L', Gp w' base Fb B v' (F ++ [x]) (bs ++ [wb.heap.size]) (F.length :: K2) L' ∧ Kp (fun k => k = B ∨ vb.ownBlock = some k) wc w' := by
  have hn := h.nums
  have hb := h.big.2.2.2
  have z1 := ka.size
  have z2 := kb.size
  have z3 := kc.size
  have e : (bs ++ [wb.heap.size]).getD F.length 0 = wb.heap.size := by rw [← gb.fo.len]; simp
  have := push_gp wc base Fb B vb (F ++ [x]) (bs ++ [wb.heap.size]) K2 Lb gc F.length (by simp) (by omega) (by omega)
  rw [e] at this
  exact this.mono (fun e w' y => ⟨y.1, by obtain ⟨v', L', g, _, k⟩ := y.2; exact ⟨v', L', g, k⟩⟩)

set_option maxHeartbeats 4000000 in
set_option maxRecDepth 100000 in
theorem plain_many (w : World) (ao : Option Addr) (cap : Nat) (zs : List Int) (hl : zs.length ≤ 1000000) (hz : ∀ z ∈ zs, 0 ≤ z ∧ z < 4294967296) (hs : Src .u32 w ao zs) (h0 : 1 < (lv zs zs.length).length) :
    Calls Try.prog 50 #[.slice ao zs.length cap] w fun e w' => e = .returned (.slice (some ⟨w.heap.size, 0, none⟩) zs.length zs.length) ∧ Rw .i64 3 w' w.heap.size (hzl zs) ∧ Kp (fun _ => False) w w' := by
  have HS := hid hs
  have HZ := hid hz
  have H0 := hid h0
  obtain ⟨S, hS⟩ : ∃ S, S = jns ((lv zs zs.length).length - 1) (lv zs zs.length, List.range (lv zs zs.length).length) := ⟨_, rfl⟩
  have HE : Hid (hzl zs = snk S.1 S.1.length (mn S.1 S.2) 0 (List.replicate zs.length 0)) := by
    unfold hzl
    rw [if_neg (by omega), if_neg (by omega), ← hS]
    exact rfl
  have HSS := hid hS
  have hlv : (lv zs zs.length).length ≤ 1000000 := Nat.le_trans (lv_len zs zs.length) hl
  generalize hlen : (lv zs zs.length).length = nl at hlv h0
  have HLN := hid hlen
  clear hs hz hS hlen
  go_enter Try.func50, Try.ntmps50
  go_wp2_with (first
    | (at_make; refine wpList_make_rw 22 3 8 Try.underlying22 Try.info3p (by decide) rfl _ _ rfl zs.length rfl rfl (by omega) ?_; intro w1 hrow hb1; have HM := hid (Mk.mk hrow hb1); clear hrow hb1)
    | (go_at_call 72; refine (leaves_new hl HZ.out HS.out HM.out).mono ?_; rintro _ w3 ⟨v, L, rfl, HL0⟩; have HL := hid HL0; clear HL0)
    | (go_at_call 71; refine (pile_new hl HL.out).mono ?_; rintro _ w4 ⟨rfl, L4, R4⟩; have HP := hid (Ps.begin hl HZ.out (Nat.lt_trans (by decide) H0.out) HM.out HL.out R4); clear R4; have HN : Hid (Calls Try.prog 73 #[ptr w3.heap.size] w4 fun e w' => e = .returned (.int .i64 nl) ∧ w4 = w') := (len_gp _ _ _ _ _ _ _ _ _ HP.out.gp).mono (fun _ _ e => ⟨by rw [e.1, List.length_range, HLN.out], e.2⟩))
    | (go_at_call 73; refine HN.out.mono ?_; rintro _ _ ⟨rfl, rfl⟩))
  have hB : w.heap.size ≤ w3.heap.size := HP.out.big.2.2.1
  have HPP : Hid (Ps w w4 (w1.alloc (.cells #[.int .i64 0] 111)).heap.size w1.heap.size w3.heap.size w.heap.size zs.length v (lv zs zs.length) L (List.range (lv zs zs.length).length) L4 S) := by rw [HSS.out]; exact HP.out
  clear HP HN HM HL HLN HSS H0 HZ HS
  generalize (w1.alloc (.cells #[.int .i64 0] 111)).heap.size = base at HPP
  generalize w1.heap.size = Fb at *
  generalize w3.heap.size = B at *
  generalize ((nl : Int) == 1) = bb
  go_loopw [] (fun wr => ∃ (v : Value) (F : List Nd) (bs K L : List Nat), Hid (Ps w wr base Fb B w.heap.size zs.length v F bs K L S)) (fun wr => pln B wr)
  case atStart => exact ⟨v, _, L, _, L4, HPP.out⟩
  case round =>
    clear HPP
    obtain ⟨v, F, bs, K, L, HP⟩ := hrel
    have hnum := HP.out.nums
    have hone := HP.out.one
    have hpl := hid HP.out.gp.pln
    have HN := hid (len_gp _ _ _ _ _ _ _ _ _ HP.out.gp)
    by_cases h1 : 1 < K.length
    · have HL1 := hid (least_gp _ _ _ _ _ _ _ _ _ HP.out.gp (ne_nil_of hone) (by omega))
      go_wp2_with (first
        | (go_at_call 73; refine HN.out.mono ?_; rintro _ _ ⟨rfl, rfl⟩)
        | (go_at_call 74; refine HL1.out.mono ?_; rintro _ wa ⟨rfl, va, La, ga, oa, ka⟩; have HA := hid (And.intro ga ka); clear ga ka oa HL1; have HL2 := hid (least_gp _ _ _ _ _ _ _ _ _ HA.out.1 (two_ne h1) (Nat.lt_of_le_of_lt (List.length_erase_le) (by omega))))
        | (go_at_call 74; refine HL2.out.mono ?_; rintro _ wb ⟨rfl, vb, Lb, gb, ob, kb⟩; have HB := hid (And.intro gb kb); clear gb kb ob HL2; have HJ := hid (join_ps HP.out h1 HB.out.1))
        | (go_at_call 77; refine HJ.out.mono ?_; rintro _ wc ⟨rfl, gc, kc⟩; have HC := hid (And.intro gc kc); clear gc kc HJ; have HU := hid (push_ps HP.out HB.out.1 HA.out.2 HB.out.2 HC.out.1 HC.out.2 (Nat.le_trans List.length_erase_le List.length_erase_le)))
        | (go_at_call 76; refine HU.out.mono ?_; rintro _ wd ⟨rfl, vd, Ld, gd, kd⟩; have HR := hid (HP.out.round h1 HA.out.1 HA.out.2 HB.out.1 HB.out.2 HC.out.1 HC.out.2 gd kd)))
      refine ⟨⟨vd, _, _, _, Ld, HR.out⟩, ?_⟩
      rw [hpl.out, HR.out.gp.pln]
      exact short_of h1
    · have HK := hid (ps_end HP.out h1)
      have HL1 := hid (least_ps HP.out hl (Nat.le_refl _))
      go_wp2_with (first
        | (go_at_call 73; refine HN.out.mono ?_; rintro _ _ ⟨rfl, rfl⟩)
        | (go_at_call 74; refine HL1.out.mono ?_; rintro _ w5 ⟨rfl, HQ0⟩; have HQ := hid HQ0; clear HQ0)
        | (go_at_call 75; refine (HQ.out 0 (by omega)).mono ?_; rintro _ w6 ⟨rfl, R6, K6⟩))
      go_ret
      exact ⟨rfl, by rw [HE.out, HK.out]; exact R6, K6⟩

/-- plain: Huffman's lengths, in a new row. -/
theorem plain_any (w : World) (ao : Option Addr) (cap : Nat) (zs : List Int) (hl : zs.length ≤ 1000000) (hz : ∀ z ∈ zs, 0 ≤ z ∧ z < 4294967296) (hs : Src .u32 w ao zs) :
    Calls Try.prog 50 #[.slice ao zs.length cap] w fun e w' => e = .returned (.slice (some ⟨w.heap.size, 0, none⟩) zs.length zs.length) ∧ Rw .i64 3 w' w.heap.size (hzl zs) ∧ Kp (fun _ => False) w w' := by
  by_cases h0 : (lv zs zs.length).length = 0
  · exact plain_none w ao cap zs hl hz hs h0
  · by_cases h1 : (lv zs zs.length).length = 1
    · exact plain_one w ao cap zs hl hz hs h1
    · exact plain_many w ao cap zs hl hz hs (by omega)
end Go.Proofs.Ythpocbpleffdpaa

namespace Go.Proofs.Ythpocbpleffdpaa
open Go.RowKit

set_option maxHeartbeats 2000000 in
set_option maxRecDepth 100000 in
theorem present_any (w : World) (ao : Option Addr) (cap : Nat) (zs : List Int) (hl : zs.length ≤ 1000000) (hz : ∀ z ∈ zs, 0 ≤ z ∧ z < 4294967296) (hs : Src .u32 w ao zs) :
    Calls Try.prog 49 #[.slice ao zs.length cap] w fun e w' => e = .returned (.int .i64 ((lv zs zs.length).length : Nat)) ∧ w = w' := by
  have HS := hid hs
  have HZ := hid hz
  clear hs hz
  go_enter Try.func49, Try.ntmps49
  go_wp2_with fail
  go_loopw [3, 8] (fun sv iv wr => ∃ i m : Nat, i ≤ zs.length ∧ iv = .int .i64 i ∧ sv = .int .i64 m ∧ m ≤ i ∧ w = wr ∧ Hid (m = (lv zs i).length)) (fun _ i _ => zs.length - (intOf i).toNat)
  case atStart => exact ⟨0, 0, Nat.zero_le _, rfl, rfl, Nat.le_refl _, rfl, rfl⟩
  case round =>
    obtain ⟨i, m, hi, rfl, rfl, hmi, rfl, HM⟩ := hrel
    by_cases hil : i < zs.length
    · obtain ⟨b, off, rfl, hc⟩ := HS.out (by omega)
      have c := hc i hil
      have hzi := HZ.out (zs.getD i 0) (by simp [List.getD, hil])
      obtain ⟨y, hy⟩ : ∃ y : Nat, zs.getD i 0 = (y : Int) := ⟨(zs.getD i 0).toNat, by omega⟩
      rw [hy] at c hzi
      have HY := hid hy
      clear hy hc
      by_cases hp : 0 < y
      · have H1 : Hid (m + 1 = (lv zs (i + 1)).length) := by
          show m + 1 = _
          rw [lv_yes (by rw [HY.out]; omega), List.length_append, ← HM.out]
          rfl
        clear HM
        go_wp2_with fail
        exact ⟨⟨i + 1, m + 1, by omega, rfl, rfl, by omega, (by first | rfl | trivial), H1.out⟩, by simp [intOf]; omega⟩
      · have H1 : Hid (m = (lv zs (i + 1)).length) := by
          show m = _
          rw [lv_no (by rw [HY.out]; omega)]
          exact HM.out
        clear HM
        go_wp2_with fail
        exact ⟨⟨i + 1, m, by omega, rfl, rfl, by omega, (by first | rfl | trivial), H1.out⟩, by simp [intOf]; omega⟩
    · obtain rfl : i = zs.length := by omega
      go_wp2_with fail
      go_ret
      exact ⟨by rw [← HM.out]; rfl, rfl⟩

theorem hzl_len (zs : List Int) : (hzl zs).length = zs.length := by
  unfold hzl
  split
  · simp
  · split
    · rw [snk_len]; simp
    · rw [snk_len]; simp

set_option maxHeartbeats 2000000 in
set_option maxRecDepth 100000 in
theorem lengths_15 (w : World) (ao : Option Addr) (cap : Nat) (zs : List Int) (hl : zs.length ≤ 320) (hz : ∀ z ∈ zs, 0 ≤ z ∧ z < 4294967296) (hs : Src .u32 w ao zs) (hw : Wi 15 (hzl zs)) :
    Calls Try.prog 18 #[.int .i64 15, .slice ao zs.length cap] w fun e w' => e = .returned (.tuple #[.slice (some ⟨w.heap.size, 0, none⟩) zs.length zs.length, .int .i64 0]) ∧ Rw .i64 3 w' w.heap.size (hzl zs) ∧ Kp (fun _ => False) w w' := by
  have hlv : (lv zs zs.length).length ≤ 320 := Nat.le_trans (lv_len zs zs.length) hl
  have hsW := fun q => hs.kp (drewN_kp (fun _ => False) w q) (fun _ _ _ h => h)
  have HP : Hid (∀ q, Calls Try.prog 49 #[.slice ao zs.length cap] (w.drewN q) fun e w' => e = .returned (.int .i64 ((lv zs zs.length).length : Nat)) ∧ w.drewN q = w') := fun q => present_any (w.drewN q) ao cap zs (by omega) hz (hsW q)
  have HQ : Hid (∀ q, Calls Try.prog 50 #[.slice ao zs.length cap] (w.drewN q) fun e w' => e = .returned (.slice (some ⟨w.heap.size, 0, none⟩) zs.length zs.length) ∧ Rw .i64 3 w' w.heap.size (hzl zs) ∧ Kp (fun _ => False) w w') := fun q => by
    have e : (w.drewN q).heap.size = w.heap.size := by
      have h1 := drewN_kp (fun _ => False) w q
      induction q with
      | zero => rfl
      | succ q ih => exact ih (drewN_kp (fun _ => False) w q)
    have := plain_any (w.drewN q) ao cap zs (by omega) hz (hsW q)
    rw [e] at this
    exact this.mono (fun e w' h => ⟨h.1, h.2.1, (drewN_kp (fun _ => False) w q).trans h.2.2 (fun _ _ h => h)⟩)
  have HI : Hid (∀ W, Rw .i64 3 W w.heap.size (hzl zs) → Calls Try.prog 51 #[.slice (some ⟨w.heap.size, 0, none⟩) zs.length zs.length, .int .i64 15] W fun e w' => e = .returned (.bool true) ∧ W = w') := fun W hW => by
    have := within_any (some ⟨w.heap.size, 0, none⟩) zs.length (hzl zs) 15 W (by rw [hzl_len]; omega) hW.src
    rw [hzl_len, decide_eq_true hw] at this
    exact this
  clear hsW hs hw hz
  generalize (lv zs zs.length).length = m at *
  go_enter Try.func18, Try.ntmps18
  go_wp2_with fail
  go_quiet (first | (go_at_call 49; refine Calls.quiet_of_same ((HP.out _).mono (fun _ _ h => ⟨h.1, h.2.symm⟩))))
  go_wp2_with (first
    | (go_at_call 50; refine (HQ.out _).mono ?_; rintro _ w1 ⟨rfl, R1, K1⟩; have HR := hid (And.intro R1 K1); have HT := hid (HI.out w1 R1); clear R1 K1)
    | (go_at_call 51; refine HT.out.mono ?_; rintro _ _ ⟨rfl, rfl⟩))
  go_ret2
  exact ⟨rfl, HR.out.1, HR.out.2⟩

/-- Huffman's lengths at 5, 9, 1, 1. -/
theorem hzl_known : hzl [5, 9, 1, 1] = [2, 1, 3, 3] := by kernel_rfl
theorem wi_known : Wi 15 (hzl [5, 9, 1, 1]) := by
  rw [hzl_known]
  intro z hz
  simp at hz
  rcases hz with rfl | rfl | rfl <;> decide
end Go.Proofs.Ythpocbpleffdpaa
