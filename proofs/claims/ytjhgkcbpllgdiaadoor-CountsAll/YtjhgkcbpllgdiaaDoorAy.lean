/- What CountsAll's turns stand on. -/
import Derived.Test.YtjhgkcbpllgdiaaDoorAz
import Derived.Test.YtjhgkcbpllgdiaaDoorKn
namespace Go.Proofs.YtjhgkcbpllgdiaaDoor
open Go.RowKit Go.Shelf
attribute [local go_sem] Oper.semAt_some
set_option linter.unusedVariables false
theorem act_of {E : (Nat → Value) → Array Value} {a : Act} {ds : List Deferred} (ht : a.tmps = E (fun i => a.tmps.getD i undef)) (hd : a.defers = ds) : ∃ f, a = { tmps := E f, defers := ds } :=
  ⟨fun i => a.tmps.getD i undef, by cases a; simp only at ht hd; rw [hd, ← ht]⟩
theorem load_bool4 {w : World} {g : Nat} {v : Bool} (h : w.cell? ⟨g, 0, none⟩ = some (.bool v)) : (loadVar 4 ⟨g, 0, none⟩).run Tryd.prog w = .ok (.bool v) w := by
  simp [go_sem, h]
def cvn (W : World) (g : Nat) : Nat := (intOf ((W.cell? ⟨g, 0, none⟩).getD undef)).toNat
theorem cvn_of {W : World} {g k : Nat} (h : St 3 W g #[.int .i64 (k : Int)]) : cvn W g = k := by
  have hc : W.cell? ⟨g, 0, none⟩ = some (.int .i64 (k : Int)) := h.cell 0
  unfold cvn
  rw [hc]
  simp [intOf]
def eF (T2 T4 T5 T7 : Nat) (vall : Value) (f : Nat → Value) : Array Value := #[f 0, f 1, .pointer (some ⟨T2, 0, none⟩), f 3, .pointer (some ⟨T4, 0, none⟩), .pointer (some ⟨T5, 0, none⟩), f 6, .pointer (some ⟨T7, 0, none⟩), f 8, vall, f 10, f 11, f 12, f 13, f 14, f 15, f 16, f 17, f 18, f 19, f 20, f 21, f 22, f 23, f 24, f 25, f 26, f 27, f 28, f 29, f 30, f 31, f 32, f 33, f 34, f 35, f 36, f 37, f 38, f 39, f 40, f 41, f 42, f 43, f 44, f 45, f 46, f 47, f 48, f 49, f 50, f 51, f 52, f 53, f 54, f 55, f 56, f 57, f 58, f 59, f 60, f 61, f 62, f 63, f 64, f 65, f 66, f 67, f 68, f 69, f 70, f 71, f 72, f 73, f 74, f 75, f 76, f 77, f 78, f 79, f 80, f 81, f 82, f 83, f 84, f 85, f 86, f 87, f 88, f 89, f 90, f 91, f 92, f 93, f 94, f 95, f 96, f 97, f 98, f 99, f 100, f 101, f 102, f 103, f 104, f 105, f 106, f 107, f 108, f 109, f 110, f 111, f 112, f 113, f 114, f 115, f 116, f 117, f 118, f 119, f 120, f 121, f 122, f 123, f 124, f 125, f 126, f 127, f 128, f 129, f 130, f 131, f 132, f 133, f 134, f 135, f 136, f 137, f 138, f 139, f 140, f 141, f 142, f 143, f 144, f 145, f 146, f 147, f 148, f 149, f 150, f 151, f 152, f 153, f 154, f 155, f 156, f 157, f 158, f 159, f 160, f 161, f 162, f 163, f 164, f 165, f 166, f 167, f 168, f 169, f 170, f 171, f 172, f 173, f 174, f 175, f 176, f 177, f 178, f 179, f 180, f 181, f 182, f 183, f 184, f 185, f 186, f 187, f 188, f 189, f 190, f 191, f 192, f 193, f 194, f 195, f 196, f 197, f 198, f 199, f 200, f 201, f 202, f 203, f 204, f 205, f 206, f 207, f 208, f 209, f 210]
def eT (T2 T4 T5 T7 T21 T22 : Nat) (vall : Value) (f : Nat → Value) : Array Value := #[f 0, f 1, .pointer (some ⟨T2, 0, none⟩), f 3, .pointer (some ⟨T4, 0, none⟩), .pointer (some ⟨T5, 0, none⟩), f 6, .pointer (some ⟨T7, 0, none⟩), f 8, vall, f 10, f 11, f 12, f 13, f 14, f 15, f 16, f 17, f 18, f 19, f 20, .pointer (some ⟨T21, 0, none⟩), .pointer (some ⟨T22, 0, none⟩), f 23, f 24, f 25, f 26, f 27, f 28, f 29, f 30, f 31, f 32, f 33, f 34, f 35, f 36, f 37, f 38, f 39, f 40, f 41, f 42, f 43, f 44, f 45, f 46, f 47, f 48, f 49, f 50, f 51, f 52, f 53, f 54, f 55, f 56, f 57, f 58, f 59, f 60, f 61, f 62, f 63, f 64, f 65, f 66, f 67, f 68, f 69, f 70, f 71, f 72, f 73, f 74, f 75, f 76, f 77, f 78, f 79, f 80, f 81, f 82, f 83, f 84, f 85, f 86, f 87, f 88, f 89, f 90, f 91, f 92, f 93, f 94, f 95, f 96, f 97, f 98, f 99, f 100, f 101, f 102, f 103, f 104, f 105, f 106, f 107, f 108, f 109, f 110, f 111, f 112, f 113, f 114, f 115, f 116, f 117, f 118, f 119, f 120, f 121, f 122, f 123, f 124, f 125, f 126, f 127, f 128, f 129, f 130, f 131, f 132, f 133, f 134, f 135, f 136, f 137, f 138, f 139, f 140, f 141, f 142, f 143, f 144, f 145, f 146, f 147, f 148, f 149, f 150, f 151, f 152, f 153, f 154, f 155, f 156, f 157, f 158, f 159, f 160, f 161, f 162, f 163, f 164, f 165, f 166, f 167, f 168, f 169, f 170, f 171, f 172, f 173, f 174, f 175, f 176, f 177, f 178, f 179, f 180, f 181, f 182, f 183, f 184, f 185, f 186, f 187, f 188, f 189, f 190, f 191, f 192, f 193, f 194, f 195, f 196, f 197, f 198, f 199, f 200, f 201, f 202, f 203, f 204, f 205, f 206, f 207, f 208, f 209, f 210]
def eR (T2 T4 T5 T7 T21 T22 T23 T24 T25 : Nat) (vall : Value) (f : Nat → Value) : Array Value := #[f 0, f 1, .pointer (some ⟨T2, 0, none⟩), f 3, .pointer (some ⟨T4, 0, none⟩), .pointer (some ⟨T5, 0, none⟩), f 6, .pointer (some ⟨T7, 0, none⟩), f 8, vall, f 10, f 11, f 12, f 13, f 14, f 15, f 16, f 17, f 18, f 19, f 20, .pointer (some ⟨T21, 0, none⟩), .pointer (some ⟨T22, 0, none⟩), .pointer (some ⟨T23, 0, none⟩), .pointer (some ⟨T24, 0, none⟩), .pointer (some ⟨T25, 0, none⟩), f 26, f 27, f 28, f 29, f 30, f 31, f 32, f 33, f 34, f 35, f 36, f 37, f 38, f 39, f 40, f 41, f 42, f 43, f 44, f 45, f 46, f 47, f 48, f 49, f 50, f 51, f 52, f 53, f 54, f 55, f 56, f 57, f 58, f 59, f 60, f 61, f 62, f 63, f 64, f 65, f 66, f 67, f 68, f 69, f 70, f 71, f 72, f 73, f 74, f 75, f 76, f 77, f 78, f 79, f 80, f 81, f 82, f 83, f 84, f 85, f 86, f 87, f 88, f 89, f 90, f 91, f 92, f 93, f 94, f 95, f 96, f 97, f 98, f 99, f 100, f 101, f 102, f 103, f 104, f 105, f 106, f 107, f 108, f 109, f 110, f 111, f 112, f 113, f 114, f 115, f 116, f 117, f 118, f 119, f 120, f 121, f 122, f 123, f 124, f 125, f 126, f 127, f 128, f 129, f 130, f 131, f 132, f 133, f 134, f 135, f 136, f 137, f 138, f 139, f 140, f 141, f 142, f 143, f 144, f 145, f 146, f 147, f 148, f 149, f 150, f 151, f 152, f 153, f 154, f 155, f 156, f 157, f 158, f 159, f 160, f 161, f 162, f 163, f 164, f 165, f 166, f 167, f 168, f 169, f 170, f 171, f 172, f 173, f 174, f 175, f 176, f 177, f 178, f 179, f 180, f 181, f 182, f 183, f 184, f 185, f 186, f 187, f 188, f 189, f 190, f 191, f 192, f 193, f 194, f 195, f 196, f 197, f 198, f 199, f 200, f 201, f 202, f 203, f 204, f 205, f 206, f 207, f 208, f 209, f 210]
def eB (T2 T4 T5 T7 T21 T22 T23 T24 T25 : Nat) (vall : Value) (i : Nat) (x : Int) (f : Nat → Value) : Array Value := #[f 0, f 1, .pointer (some ⟨T2, 0, none⟩), f 3, .pointer (some ⟨T4, 0, none⟩), .pointer (some ⟨T5, 0, none⟩), f 6, .pointer (some ⟨T7, 0, none⟩), f 8, vall, f 10, f 11, f 12, f 13, f 14, f 15, f 16, f 17, f 18, f 19, f 20, .pointer (some ⟨T21, 0, none⟩), .pointer (some ⟨T22, 0, none⟩), .pointer (some ⟨T23, 0, none⟩), .pointer (some ⟨T24, 0, none⟩), .pointer (some ⟨T25, 0, none⟩), .int .i64 (i : Int), .int .u64 x, f 28, f 29, f 30, f 31, f 32, f 33, f 34, f 35, f 36, f 37, f 38, f 39, f 40, f 41, f 42, f 43, f 44, f 45, f 46, f 47, f 48, f 49, f 50, f 51, f 52, f 53, f 54, f 55, f 56, f 57, f 58, f 59, f 60, f 61, f 62, f 63, f 64, f 65, f 66, f 67, f 68, f 69, f 70, f 71, f 72, f 73, f 74, f 75, f 76, f 77, f 78, f 79, f 80, f 81, f 82, f 83, f 84, f 85, f 86, f 87, f 88, f 89, f 90, f 91, f 92, f 93, f 94, f 95, f 96, f 97, f 98, f 99, f 100, f 101, f 102, f 103, f 104, f 105, f 106, f 107, f 108, f 109, f 110, f 111, f 112, f 113, f 114, f 115, f 116, f 117, f 118, f 119, f 120, f 121, f 122, f 123, f 124, f 125, f 126, f 127, f 128, f 129, f 130, f 131, f 132, f 133, f 134, f 135, f 136, f 137, f 138, f 139, f 140, f 141, f 142, f 143, f 144, f 145, f 146, f 147, f 148, f 149, f 150, f 151, f 152, f 153, f 154, f 155, f 156, f 157, f 158, f 159, f 160, f 161, f 162, f 163, f 164, f 165, f 166, f 167, f 168, f 169, f 170, f 171, f 172, f 173, f 174, f 175, f 176, f 177, f 178, f 179, f 180, f 181, f 182, f 183, f 184, f 185, f 186, f 187, f 188, f 189, f 190, f 191, f 192, f 193, f 194, f 195, f 196, f 197, f 198, f 199, f 200, f 201, f 202, f 203, f 204, f 205, f 206, f 207, f 208, f 209, f 210]
/-- The boxes of CountsAll. -/
structure Bs (w X : World) (T2 T4 T5 T7 : Nat) (ao : Option Addr) (cap : Nat) (zs : List Int) (o lv : Int) : Prop where
  kp : Kp (fun _ => False) w X
  s2 : St 22 X T2 #[.slice ao zs.length cap]
  s4 : St 4 X T4 #[.bool false]
  s5 : St 3 X T5 #[.int .i64 o]
  s7 : St 3 X T7 #[.int .i64 lv]
  src : Src .u8 X ao zs
  wd : Wd X
  l4 : w.heap.size ≤ T4
theorem Bs.same {w X Y : World} {T2 T4 T5 T7 : Nat} {ao : Option Addr} {cap : Nat} {zs : List Int} {o lv : Int} (h : Bs w X T2 T4 T5 T7 ao cap zs o lv) (k : Kp (fun _ => False) X Y) : Bs w Y T2 T4 T5 T7 ao cap zs o lv :=
  ⟨h.kp.trans k (fun _ _ x => x), h.s2.kp k (fun x => x), h.s4.kp k (fun x => x), h.s5.kp k (fun x => x), h.s7.kp k (fun x => x), h.src.kp0 k, h.wd.kp k (fun x => x), h.l4⟩
theorem kp_up {X Y Z : World} {G : Nat → Prop} (h : Kp (fun _ => False) X Y) (k : Kp G Y Z) (hg : ∀ i, G i → X.heap.size ≤ i) : Kp (fun _ => False) X Z :=
  h.trans k (fun i h1 h2 => by have := hg i h2; omega)
/-- The boxes of one turn, over the world at its start. -/
structure TI (X : World) (T21 T22 T23 T24 T25 M t p q : Nat) (s : Bool) (Y : World) : Prop where
  kp : Kp (fun _ => False) X Y
  m : St 3 Y T21 #[.int .i64 (M : Int)]
  n : St 3 Y T22 #[.int .i64 (t : Int)]
  a : St 3 Y T23 #[.int .i64 (p : Int)]
  d : St 3 Y T24 #[.int .i64 (q : Int)]
  s : St 4 Y T25 #[.bool s]
  l3 : X.heap.size ≤ T23
  l4 : X.heap.size ≤ T24
  l5 : X.heap.size ≤ T25
  b1 : T21 < X.heap.size
  b2 : T22 < X.heap.size
  n1 : T23 ≠ T24
  n2 : T23 ≠ T25
  n3 : T24 ≠ T25
theorem TI.same {X : World} {T21 T22 T23 T24 T25 M t p q : Nat} {s : Bool} {Y Z : World} {G : Nat → Prop} (h : TI X T21 T22 T23 T24 T25 M t p q s Y) (k : Kp G Y Z) (g0 : ∀ i, G i → X.heap.size ≤ i) (g3 : ¬ G T23) (g4 : ¬ G T24) (g5 : ¬ G T25) : TI X T21 T22 T23 T24 T25 M t p q s Z :=
  ⟨kp_up h.kp k g0, h.m.kp k (fun x => by have := g0 _ x; have := h.b1; omega), h.n.kp k (fun x => by have := g0 _ x; have := h.b2; omega), h.a.kp k g3, h.d.kp k g4, h.s.kp k g5, h.l3, h.l4, h.l5, h.b1, h.b2, h.n1, h.n2, h.n3⟩
theorem TI.setA {X : World} {T21 T22 T23 T24 T25 M t p q p' : Nat} {s : Bool} {Y Z : World} (h : TI X T21 T22 T23 T24 T25 M t p q s Y) (k : Kp (fun i => i = T23) Y Z) (a : St 3 Z T23 #[.int .i64 (p' : Int)]) : TI X T21 T22 T23 T24 T25 M t p' q s Z := by
  have h1 := h.l3; have h2 := h.b1; have h3 := h.b2; have n1 := h.n1; have n2 := h.n2
  exact ⟨kp_up h.kp k (fun i e => by omega), h.m.kp k (by omega), h.n.kp k (by omega), a, h.d.kp k (by omega), h.s.kp k (by omega), h.l3, h.l4, h.l5, h.b1, h.b2, h.n1, h.n2, h.n3⟩
/-- The next one that is to come. -/
def atv (L : List Nat) : Nat := match L.getLast? with | none => 0 | some k => k + 1
theorem atv_nil : atv [] = 0 := rfl
theorem atv_snoc (L : List Nat) (k : Nat) : atv (L ++ [k]) = k + 1 := by simp [atv]
theorem nzs_gap (zs : List Int) (W : Nat) : ∀ j, atv (nzs zs W j) ≤ j ∧ ∀ k, atv (nzs zs W j) ≤ k → k < j → ct zs W k = 0 := by
  intro j
  induction j with
  | zero => exact ⟨Nat.le_refl _, fun k _ h => by omega⟩
  | succ j ih =>
    unfold nzs
    split
    · rename_i h0
      refine ⟨by omega, fun k h1 h2 => ?_⟩
      by_cases e : k = j
      · rw [e]; exact h0
      · exact ih.2 k h1 (by omega)
    · rw [atv_snoc]
      exact ⟨Nat.le_refl _, fun k h1 h2 => by omega⟩
theorem nzs_snoc {zs : List Int} {W : Nat} {L : List Nat} {i : Nat} : ∀ j, L ++ [i] = nzs zs W j → L = nzs zs W i := by
  intro j
  induction j with
  | zero => intro h; simp [nzs] at h
  | succ j ih =>
    rw [show nzs zs W (j + 1) = if ct zs W j = 0 then nzs zs W j else nzs zs W j ++ [j] from rfl]
    split
    · exact ih
    · intro h
      obtain ⟨h1, h2⟩ := List.append_inj' h rfl
      have : i = j := by simpa using h2
      rw [this]; exact h1
/-- The document's At, of a count that is there. -/
theorem rat_ct (ao : Option Addr) (cap o k : Nat) (zs : List Int) (X : World) (hl : zs.length ≤ 600) (hz : Byt zs) (ho : o < 7) (hk : k < 8 * zs.length / 2 ^ o) (hs : Src .u8 X ao zs) : Calls Tryd.prog 15 #[.slice ao zs.length cap, .int .i64 (o : Int), .int .i64 (k : Int)] X fun e w' => e = .returned (.int .u64 (ct zs (2 ^ o) k)) ∧ X = w' := by
  have hft := fits_of (pow_pos7 o) hk
  have hp := pow_pos7 o
  obtain ⟨g, off, rfl, _⟩ := hs (by omega)
  exact rat_ok g off cap o k zs X (by omega) hz ho hft hs
end Go.Proofs.YtjhgkcbpllgdiaaDoor
