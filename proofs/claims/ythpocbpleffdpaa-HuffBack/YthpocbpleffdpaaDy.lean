/- huff.byCode: mathematics, and what its range holds. -/
import Derived.Test.YthpocbpleffdpaaDk
import Derived.Test.YthpocbpleffdpaaCq
import Derived.Test.YthpocbpleffdpaaBy
namespace Go.Proofs.Ythpocbpleffdpaa
open Go.RowKit Go.Shelf
attribute [local go_sem] Oper.semAt_some
set_option linter.unusedVariables false
set_option linter.unusedSimpArgs false
def bor (A : List Int) (n : Nat) : List (Nat × Int) → List Int
  | [] => List.replicate n 0
  | x :: l => (bor A n l).set ((A.getD x.2.toNat 0).toNat + cn l.reverse x.2.toNat) (x.1 : Int)
/-- The symbols that came, laid by their codes, where A tells the first place of each length. -/
def bo (A : List Int) (n : Nat) (l : List (Nat × Int)) : List Int := bor A n l.reverse
theorem bo_nil (A : List Int) (n : Nat) : bo A n [] = List.replicate n 0 := rfl
theorem bo_snoc (A : List Int) (n : Nat) (l : List (Nat × Int)) (x : Nat × Int) : bo A n (l ++ [x]) = (bo A n l).set ((A.getD x.2.toNat 0).toNat + cn l x.2.toNat) (x.1 : Int) := by simp [bo, bor]
theorem bor_length (A : List Int) (n : Nat) (l : List (Nat × Int)) : (bor A n l).length = n := by
  induction l with
  | nil => simp [bor]
  | cons x l ih => simp [bor, ih]
theorem bo_length (A : List Int) (n : Nat) (l : List (Nat × Int)) : (bo A n l).length = n := bor_length _ _ _
theorem ac_pos {zs : List Int} {n m k j : Nat} (hn : 1 ≤ n) (hm : 1 ≤ m) (h1 : zs.getD k 0 = (n : Int)) (h2 : zs.getD j 0 = (m : Int)) (hkj : k < j) : ac zs (n - 1) + cnt zs n k ≠ ac zs (m - 1) + cnt zs m j := by
  have s : ∀ q, 1 ≤ q → ac zs q = ac zs (q - 1) + cnt zs q zs.length := fun q hq => by
    obtain ⟨r, rfl⟩ : ∃ r, q = r + 1 := ⟨q - 1, by omega⟩
    rfl
  by_cases e : n = m
  · subst e
    have := cnt_lt zs hkj h1
    omega
  · by_cases h : n < m
    · have a1 := cnt_lt zs (lt_len hn h1) h1
      have a2 := s n hn
      have a3 := ac_mono zs (show n ≤ m - 1 by omega)
      omega
    · have a1 := cnt_lt zs (lt_len hm h2) h2
      have a2 := s m hm
      have a3 := ac_mono zs (show m ≤ n - 1 by omega)
      omega
theorem bo_cds (zs A : List Int) (hw : Wi 15 zs) (hA : ∀ m, 1 ≤ m → m ≤ 15 → A.getD m 0 = (ac zs (m - 1) : Int)) : ∀ i, i ≤ zs.length → ∀ k n : Nat, k < i → 1 ≤ n → n ≤ 15 → zs.getD k 0 = (n : Int) → (bo A (ac zs 15) (cds zs i)).getD (ac zs (n - 1) + cnt zs n k) 0 = (k : Int)
  | 0, _, k, n, hk, _, _, _ => by omega
  | i + 1, hi, k, n, hk, hn, h15, e => by
    have ge : zs[i]?.getD 0 = zs.getD i 0 := by simp [List.getD]
    by_cases hz : 0 < zs.getD i 0
    · rw [cds_yes (by rw [ge]; exact hz), bo_snoc, ge]
      dsimp only
      have hz15 : zs.getD i 0 ≤ 15 := (hw (zs.getD i 0) (by rw [List.getD_eq_getElem?_getD, List.getElem?_eq_getElem (show i < zs.length by omega)]; exact List.getElem_mem _)).2
      obtain ⟨m, hm⟩ := Int.eq_ofNat_of_zero_le (show 0 ≤ zs.getD i 0 by omega)
      rw [hm, Int.toNat_natCast, hA m (by omega) (by omega), Int.toNat_natCast, cn_cds zs m (by omega) i]
      by_cases ek : k = i
      · subst ek
        obtain rfl : n = m := by omega
        rw [List.getD_eq_getElem?_getD, List.getElem?_set_self (by rw [bo_length]; exact ac_lt hn h15 e)]
        rfl
      · rw [List.getD_eq_getElem?_getD, List.getElem?_set_ne (fun h => ac_pos hn (by omega) e hm (by omega) h.symm), ← List.getD_eq_getElem?_getD]
        exact bo_cds zs A hw hA i (by omega) k n (by omega) hn h15 e
    · rw [cds_no (by rw [ge]; exact hz)]
      have : k ≠ i := fun h => by rw [h] at e; omega
      exact bo_cds zs A hw hA i (by omega) k n (by omega) hn h15 e
theorem bo_byc (zs A : List Int) (hw : Wi 15 zs) (hA : ∀ m, 1 ≤ m → m ≤ 15 → A.getD m 0 = (ac zs (m - 1) : Int)) : Byc zs (bo A (ac zs 15) (cds zs zs.length)) :=
  ⟨bo_length _ _ _, fun k n h1 h2 e => bo_cds zs A hw hA zs.length (Nat.le_refl _) k n (lt_len h1 e) h1 h2 e⟩
theorem ac_small (zs : List Int) (hl : zs.length ≤ 320) (n : Nat) (h : n ≤ 15) : ac zs n ≤ 4800 := by
  have h1 : ∀ m, ac zs m ≤ m * zs.length := fun m => by
    induction m with
    | zero => simp [ac]
    | succ m ih => have := cnt_le zs (m + 1) zs.length; simp only [ac]; rw [Nat.add_mul]; omega
  have h2 := h1 n
  have h3 := Nat.mul_le_mul h hl
  omega
theorem sL_ac (zs : List Int) (hl : zs.length ≤ 320) : ∀ k, 1 ≤ k → k ≤ 16 → ∀ m, m < k → (sL (cl (cds zs zs.length)) k).getD m 0 = ((if m = 0 then 0 else ac zs (m - 1) : Nat) : Int)
  | 0, h, _, _, _ => by omega
  | 1, _, _, m, hm => by
    obtain rfl : m = 0 := by omega
    simp [sL]
  | k + 2, _, hk, m, hm => by
    have ih := sL_ac zs hl (k + 1) (by omega) (by omega)
    show ((sL (cl (cds zs zs.length)) (k + 1)).set (k + 1) _).getD m 0 = _
    by_cases e : m = k + 1
    · subst e
      rw [List.getD_eq_getElem?_getD, List.getElem?_set_self (by rw [sL_len]; omega), Option.getD_some, ih k (by omega), cl_cds zs k (by omega), if_neg (show ¬ k + 1 = 0 by omega), show k + 1 - 1 = k by omega]
      have hb := ac_small zs hl k (by omega)
      have hc := cnt_le zs k zs.length
      by_cases h0 : k = 0
      · subst h0
        simp [ac, wrap64]
      · rw [if_neg h0, if_neg h0]
        have : ac zs k = ac zs (k - 1) + cnt zs k zs.length := by
          obtain ⟨r, rfl⟩ : ∃ r, k = r + 1 := ⟨k - 1, by omega⟩
          rfl
        rw [this]
        unfold wrap64
        omega
    · rw [List.getD_eq_getElem?_getD, List.getElem?_set_ne (by omega), ← List.getD_eq_getElem?_getD]
      exact ih m (by omega)
/-- Where the boxes of the range lie. -/
structure Yb (w X : World) (N C S6 : Nat) (ao : Option Addr) (zs : List Int) : Prop where
  n : w.heap.size ≤ N ∧ N < C
  c : C < S6
  x : X.heap.size = S6 + 2
  o : ∀ i, ROc (S6 + 1) ao zs i → i = S6 + 1 ∨ i < w.heap.size
/-- What it holds. -/
structure Yi (w X : World) (N C S6 : Nat) (ao : Option Addr) (zs A : List Int) (T : Nat) (pre : List (Nat × Int)) (O : Nat → Prop) (Z : World) : Prop where
  k : Kp (ROc (S6 + 1) ao zs) w Z
  rn : Rw .i64 77 Z N (nxl A pre)
  rc : Rw .i64 3 Z C (bo A T pre)
  c6 : Z.cell? ⟨S6, 0, none⟩ = some (.slice (some ⟨C, 0, none⟩) T T)
  ow : ∀ i, O i → ROc (S6 + 1) ao zs i ∨ S6 + 3 < i
  lt : S6 + 3 < Z.heap.size
theorem Yi.kp {w X : World} {N C S6 T : Nat} {ao : Option Addr} {zs A : List Int} {pre : List (Nat × Int)} {G O : Nat → Prop} {Z Y : World} (b : Yb w X N C S6 ao zs) (h : Yi w X N C S6 ao zs A T pre O Z) (k : Kp G Z Y) (hg : ∀ i, i < Z.heap.size → G i → O i ∨ i = S6 + 2 ∨ i = S6 + 3) : Yi w X N C S6 ao zs A T pre O Y := by
  have hn := b.n
  have hc := b.c
  have hlt := h.lt
  have ni : ∀ i, w.heap.size ≤ i → i ≤ S6 → ¬ G i := fun i h1 h2 e => by
    rcases hg i (by omega) e with e | e | e
    · rcases h.ow i e with e | e
      · rcases b.o i e with e | e <;> omega
      · omega
    · omega
    · omega
  refine ⟨h.k.trans k (fun i hi e => ?_), h.rn.kp k (ni N (by omega) (by omega)), h.rc.kp k (ni C (by omega) (by omega)), ?_, h.ow, Nat.lt_of_lt_of_le h.lt k.size⟩
  · have hZ := h.k.size
    rcases hg i (by omega) e with e | e | e
    · rcases h.ow i e with e | e
      · exact e
      · omega
    · omega
    · omega
  · have hb := k.block S6 (by omega) (ni S6 (by omega) (Nat.le_refl _))
    rw [← h.c6]
    exact kr_cell hb
theorem Yi.abw {w X : World} {N C S6 T : Nat} {ao : Option Addr} {zs A : List Int} (b : Yb w X N C S6 ao zs) : AbW (Yi w X N C S6 ao zs A T) := fun s O Z Y h k => by
  have h2 := h.kp b k (fun i hi e => .inl e)
  refine ⟨h2.k, h2.rn, h2.rc, h2.c6, fun i e => ?_, h2.lt⟩
  rcases e with e | e
  · exact h.ow i e
  · have := h.lt
    exact .inr (by omega)
theorem act_of {E : (Nat → Value) → Array Value} {a : Act} {ds : List Deferred} (ht : a.tmps = E (fun i => a.tmps.getD i undef)) (hd : a.defers = ds) : ∃ f, a = { tmps := E f, defers := ds } :=
  ⟨fun i => a.tmps.getD i undef, by cases a; simp only at ht hd; rw [hd, ← ht]⟩
theorem kr_kp {O0 : Nat → Prop} {w Z : World} (k : Kp O0 w Z) (h : ∀ i, i < w.heap.size → O0 i → Z.heap[i]? = w.heap[i]?) : Kp (fun _ => False) w Z := ⟨k.os, k.tape, k.output, k.size, fun i hi _ => by
  by_cases e : O0 i
  · exact h i hi e
  · exact k.block i hi e⟩
theorem kp_cellY {F : Nat → Prop} {w w' : World} {g i : Nat} {v : Value} (k : Kp F w w') (h : w.cell? ⟨g, i, none⟩ = some v) (hf : ¬ F g) : w'.cell? ⟨g, i, none⟩ = some v := by
  rw [← h]
  exact kr_cell (k.block g (block_lt_of_cell h) hf)
def g55 (N S6 : Nat) (x : Nat × Int) (f : Nat → Value) : Array Value := #[f 0, f 1, f 2, f 3, f 4, .pointer (some ⟨N, 0, none⟩), f 6, .pointer (some ⟨S6, 0, none⟩), .int .i64 (x.1 : Int), .int .i64 x.2, f 10, f 11, f 12, f 13, f 14, f 15, f 16, f 17, f 18, f 19, f 20, f 21, f 22, f 23, f 24, f 25, f 26, f 27, f 28, f 29, f 30, f 31, f 32, f 33, f 34, f 35, f 36, f 37, f 38, f 39, f 40, f 41, f 42, f 43, f 44, f 45, f 46]
set_option maxRecDepth 100000 in
set_option maxHeartbeats 8000000 in
theorem bycode_any (a : Option Addr) (cap : Nat) (zs : List Int) (w : World) (hs : Src .i64 w a zs) (hw : Wi 15 zs) (hl : zs.length ≤ 320) :
    Calls Try.prog 55 #[.slice a zs.length cap, .agg ((cl (cds zs zs.length)).map (Value.int .i64)).toArray] w fun e w' => ∃ g S, e = .returned (.slice (some ⟨g, 0, none⟩) S.length S.length) ∧ w.heap.size ≤ g ∧ Rw .i64 3 w' g S ∧ Byc zs S ∧ Below w.heap.size w w' := by
  have HS := hid hs
  have HW := hid hw
  have HLO : Hid (0 < zs.length → ∀ b off, a = some ⟨b, off, none⟩ → b < w.heap.size) := src_low hs
  clear hs hw
  refine (callsIn_wide (n := 3)).1 ?_
  refine callsIn_of_wp_marks Try.func55 rfl trivial ?_ rfl
  simp only [Try.ntmps55, List.size_toArray, List.length_cons, List.length_nil, Nat.reduceAdd, Nat.reduceSub, Array.replicate_succ, Array.replicate_zero, List.push_toArray, List.append_toArray, List.nil_append, List.cons_append]
  refine wpIn_wide.2 ?_
  generalize hQ : bodyPostM _ _ _ _ _ = QQ
  obtain ⟨M, hMM⟩ : ∃ M, M = cl (cds zs zs.length) := ⟨_, rfl⟩
  have hM : M.length = 16 := by rw [hMM]; exact cl_length _
  have HM15 : Hid (M.getD 15 0 = (cnt zs 15 zs.length : Int)) := by rw [hMM]; exact cl_cds zs 15 (by omega)
  have HSL : Hid (∀ m, m < 16 → (sL M 16).getD m 0 = ((if m = 0 then 0 else ac zs (m - 1) : Nat) : Int)) := by rw [hMM]; exact sL_ac zs hl 16 (by omega) (by omega)
  rw [← hMM]
  clear hMM
  go_wp2_with fail
  refine at_worldp (R := fun X => Rw .i64 77 X w.heap.size M ∧ Rw .i64 77 X (w.heap.size + 1) (List.replicate 16 0) ∧ Below w.heap.size w X) ⟨?_, ?_, ?_⟩ ?_
  · exact ((Rw.new .i64 77 w M).alloc _)
  · have := Rw.new .i64 77 (w.alloc (.cells (M.map (Value.int .i64)).toArray 77)) (List.replicate 16 0)
    rw [World.size_alloc] at this
    exact this
  · exact ((Below.refl _ w).alloc (Nat.le_refl _) _).alloc (by simp) _
  rintro X ⟨r1, r2, bX⟩
  have HX : Hid (Rw .i64 77 X w.heap.size M ∧ Rw .i64 77 X (w.heap.size + 1) (List.replicate 16 0) ∧ Below w.heap.size w X) := ⟨r1, r2, bX⟩
  clear r1 r2 bX
  go_loopw [6] (fun u4 wr => ∃ (k : Nat) (L : List Int), 1 ≤ k ∧ k ≤ 16 ∧ u4 = .int .i64 (k : Int) ∧ L = sL M k ∧ Rw .i64 77 wr w.heap.size M ∧ Rw .i64 77 wr (w.heap.size + 1) L ∧ Below w.heap.size w wr) (fun u4 _ => 16 - (intOf u4).toNat)
  case atStart => exact ⟨1, _, by omega, by omega, rfl, rfl, HX.out.1, HX.out.2.1, HX.out.2.2⟩
  case round =>
    clear HX
    obtain ⟨k, L, hk1, hk, rfl, hLe, r1, r3, hb⟩ := hrel
    have hL : L.length = 16 := by rw [hLe]; exact sL_len M k
    have HLE : Hid (L = sL M k) := hLe
    clear hLe
    by_cases hlt : k < 16
    · obtain ⟨q, hq⟩ : ∃ q, q = k - 1 := ⟨_, rfl⟩
      obtain ⟨x, hx⟩ : ∃ x, x = L.getD q 0 := ⟨_, rfl⟩
      obtain ⟨y, hy⟩ : ∃ y, y = M.getD q 0 := ⟨_, rfl⟩
      have c0 : wr.cell? ⟨w.heap.size + 1, q, none⟩ = some (.int .i64 x) := by rw [hx]; exact r3.cell q (by omega)
      have c1 : wr.cell? ⟨w.heap.size, q, none⟩ = some (.int .i64 y) := by rw [hy]; exact r1.cell q (by omega)
      have c2 : wr.cell? ⟨w.heap.size + 1, k, none⟩ = some (.int .i64 (L.getD k 0)) := r3.cell k (by omega)
      have f2 := r3.frozen k
      have e3 : IntKind.i64.wrap (q : Int) = (q : Int) := by rw [IntKind.wrap_i64]; omega
      have e2 : (k : Int) - 1 = (q : Int) := by omega
      have hq16 : (q : Int) < 16 := by omega
      have hq16' : q < 16 := by omega
      have hqk : k ≠ q := by omega
      have HXY : Hid (q = k - 1 ∧ x = L.getD q 0 ∧ y = M.getD q 0) := ⟨hq, hx, hy⟩
      have R1 : Hid (Rw .i64 77 wr w.heap.size M) := r1
      have R3 : Hid (Rw .i64 77 wr (w.heap.size + 1) L) := r3
      have HBW : Hid (Below w.heap.size w wr) := hb
      clear hq hx hy r1 r3 hb
      have hk3 : (wr.setCell ⟨w.heap.size + 1, k, none⟩ (.int .i64 (IntKind.i64.wrap (x + y)))).cell? ⟨w.heap.size + 1, q, none⟩ = some (.int .i64 x) := (World.cell?_setCell_other _ _ _ _ (by simp; try omega)).trans c0
      have hk4 : (wr.setCell ⟨w.heap.size + 1, k, none⟩ (.int .i64 (IntKind.i64.wrap (x + y)))).cell? ⟨w.heap.size, q, none⟩ = some (.int .i64 y) := (World.cell?_setCell_other _ _ _ _ (by simp)).trans c1
      go_wp2_with fail
      go_region_held3 (fun w' => w'.cell? ⟨w.heap.size + 1, q, none⟩ = some (.int .i64 x) ∧ w'.cell? ⟨w.heap.size, q, none⟩ = some (.int .i64 y)) (first | (exact ⟨c0, c1⟩) | (exact ⟨hk3, hk4⟩) | go_keep) (fail)
      go_wp2_with fail
      have kk : Kp (fun i => i = w.heap.size + 1) wr (wr.setCell ⟨w.heap.size + 1, k, none⟩ (.int .i64 (wrap64 (x + y)))).drew := (kp_set1 wr (w.heap.size + 1) k _).drew
      refine ⟨⟨k + 1, sL M (k + 1), by omega, by omega, by simp, rfl, R1.out.kp kk (by omega), ?_, HBW.out.trans (kk.below HBW.out.size (fun i e => by omega))⟩, by simp [intOf]; omega⟩
      have e : sL M (k + 1) = L.set k (wrap64 (x + y)) := by
        obtain ⟨k', rfl⟩ : ∃ k', k = k' + 1 := ⟨k - 1, by omega⟩
        have hq' : q = k' := by have := HXY.out.1; omega
        show (sL M (k' + 1)).set (k' + 1) _ = _
        rw [← HLE.out, HXY.out.2.1, HXY.out.2.2, hq']
      rw [e]
      exact (R3.out.set k _).drew
    · obtain rfl : k = 16 := by omega
      have HA : Hid (∀ m, m < 16 → L.getD m 0 = ((if m = 0 then 0 else ac zs (m - 1) : Nat) : Int)) := by rw [Hid, HLE.out]; exact HSL.out
      have R1 : Hid (Rw .i64 77 wr w.heap.size M) := r1
      have R3 : Hid (Rw .i64 77 wr (w.heap.size + 1) L) := r3
      have HBW : Hid (Below w.heap.size w wr) := hb
      obtain ⟨p14, hp14⟩ : ∃ p, p = ac zs 14 := ⟨_, rfl⟩
      obtain ⟨c15, hc15⟩ : ∃ p, p = cnt zs 15 zs.length := ⟨_, rfl⟩
      obtain ⟨T, hT⟩ : ∃ T, T = ac zs 15 := ⟨_, rfl⟩
      have hTs : T = p14 + c15 := by rw [hT, hp14, hc15]; rfl
      have hTb : T ≤ 4800 := by rw [hT]; exact ac_small zs hl 15 (by omega)
      have c0 : wr.cell? ⟨w.heap.size + 1, 15, none⟩ = some (.int .i64 (p14 : Int)) := by
        have := r3.cell 15 (by omega)
        rw [HA.out 15 (by omega), if_neg (by omega)] at this
        rw [hp14]
        exact this
      have c1 : wr.cell? ⟨w.heap.size, 15, none⟩ = some (.int .i64 (c15 : Int)) := by
        have := r1.cell 15 (by omega)
        rw [HM15.out] at this
        rw [hc15]
        exact this
      have hsum : IntKind.i64.wrap ((p14 : Int) + (c15 : Int)) = (T : Int) := by rw [IntKind.wrap_i64]; omega
      have hsum2 : (p14 : Int) + (c15 : Int) = (T : Int) := by omega
      have HT := hid hT
      clear r1 r3 hb hp14 hc15 hT hTs
      go_wp2_with (first
        | (at_make; refine wpList_make_rw 22 3 8 Try.underlying22 info3q (by decide) rfl (.tmp 29) (.tmp 29) rfl T rfl rfl (by omega) ?_; intro w5 r5 b5; have R5 := hid r5; have B5 := hid (HBW.out.trans (b5.mono HBW.out.size)); have R35 := hid (R3.out.below b5 R3.out.lt); clear r5 b5 c0 c1)
        | (go_at_call 48; refine (callsIn_wide.1 (coded_in Fence.wide 3 trivial rfl _ _ _ _)).mono ?_; rintro e w' ⟨rfl, rfl⟩))
      obtain ⟨N, hN⟩ : ∃ N, N = w.heap.size + 1 := ⟨_, rfl⟩
      obtain ⟨C, hC⟩ : ∃ C, C = wr.heap.size := ⟨_, rfl⟩
      obtain ⟨S6, hS6⟩ : ∃ C, C = w5.heap.size := ⟨_, rfl⟩
      have hNC : N < C := by rw [hN, hC]; exact R3.out.lt
      have hCS : C < S6 := by rw [hC, hS6]; exact R5.out.lt
      have hwN : w.heap.size ≤ N := by omega
      have n0 := cell_new_l w5 (.slice (some ⟨wr.heap.size, 0, none⟩) T T) 22
      have n1 := cell_new_l (w5.alloc (.cells #[.slice (some ⟨wr.heap.size, 0, none⟩) T T] 22)) (.slice a zs.length cap) 22
      rw [World.size_alloc] at n1
      have hB0 : Below w.heap.size w ((w5.alloc (.cells #[.slice (some ⟨wr.heap.size, 0, none⟩) T T] 22)).alloc (.cells #[.slice a zs.length cap] 22)) := (B5.out.alloc B5.out.size _).alloc (by rw [World.size_alloc]; have := B5.out.size; omega) _
      have rN := ((R35.out.alloc (.cells #[.slice (some ⟨wr.heap.size, 0, none⟩) T T] 22)).alloc (.cells #[.slice a zs.length cap] 22))
      have rC := ((R5.out.alloc (.cells #[.slice (some ⟨wr.heap.size, 0, none⟩) T T] 22)).alloc (.cells #[.slice a zs.length cap] 22))
      have c6 := cell_alloc_l (.cells #[.slice a zs.length cap] 22) n0.1
      have hsz : ((w5.alloc (.cells #[.slice (some ⟨wr.heap.size, 0, none⟩) T T] 22)).alloc (.cells #[.slice a zs.length cap] 22)).heap.size = S6 + 2 := by rw [World.size_alloc, World.size_alloc, hS6]
      rw [← hC] at *
      rw [← hN] at *
      rw [← hS6] at *
      generalize (w5.alloc (.cells #[.slice (some ⟨C, 0, none⟩) T T] 22)).alloc (.cells #[.slice a zs.length cap] 22) = W0 at hB0 rN rC c6 n1 hsz ⊢
      clear n0 R3 R35 R5 R1 B5 HBW hN hC hS6 HLE hM hk hk1 hlt HM15 HSL
      have hmix : Try.prog.follows .mixedOrders = true := by kernel_rfl
      have YB : Yb w W0 N C S6 a zs := ⟨⟨hwN, hNC⟩, hCS, hsz, fun i hi => by
        rcases hi with rfl | ⟨hp, off, e⟩
        · exact .inl rfl
        · exact .inr (HLO.out hp i off e)⟩
      have HAC : Hid (∀ m, 1 ≤ m → m ≤ 15 → L.getD m 0 = (ac zs (m - 1) : Int)) := fun m h1 h2 => by rw [HA.out m (by omega), if_neg (by omega)]
      have LW : Hid (∀ i, ROc (S6 + 1) a zs i → i < W0.heap.size) := fun i hi => by
        rcases YB.o i hi with e | e
        · omega
        · have := hB0.size; omega
      refine (wpIn_wide (n := 3)).1 ?_
      refine wpIn_rangeFunc_W rfl (by omega) (gf := 70) (pb := #[]) (lb := #[.pointer (some ⟨S6 + 1, 0, none⟩)]) rfl trivial (enters_of Try.func70 (by kernel_rfl) rfl)
        (coded_seq (3 - 1) (by omega) (S6 + 1) a cap zs W0 (by omega) (HS.out.below hB0) (fun hp b off e => by have := HLO.out hp b off e; have := hB0.size; omega) (by omega) n1.1) ?hS ?hSx (fun i hi => LW.out i hi) (Below.refl _ _) (fun _ => rfl)
        (Yi w W0 N C S6 a zs L T) (fun _ _ _ _ => False) (Yi.abw YB) (fun _ _ _ _ _ h _ => h) ?hI2 (fun _ _ _ _ _ h _ => h) ?h0
        (fun x a' Z => ∃ f', a' = { tmps := g55 N S6 x f', defers := [] }) (fun x a' X o' h => h) ?assign ?body ?done ?stop
      case hS =>
        intro xs Z r o' hs hl
        exact ⟨hs.1, fun i hi => ((kp_putO Z (W0.heap.size + 1) o').block i (kr_lt hs.2 hi (LW.out i hi)) (by have := LW.out i hi; omega)).trans (hs.2 i hi)⟩
      case hSx =>
        intro xs Z r o' hs hl
        exact ⟨hs.1, fun i hi => ((kp_putO Z (W0.heap.size + 1) o').block i (kr_lt hs.2 hi (LW.out i hi)) (by have := LW.out i hi; omega)).trans (hs.2 i hi)⟩
      case hI2 => exact fun s O Z o' hi hlt => hi.kp YB (kp_putO Z _ o') (fun i _ e => Or.inr (Or.inr (by omega)))
      case h0 =>
        intro r
        have ka : Kp (fun _ => False) W0 ((W0.alloc (.deferred (some []))).alloc (.loop r)) := ((Kp.refl _ _).alloc _).alloc _
        have xb2 : Kp (ROc (S6 + 1) a zs) w W0 := Kp.of_below hB0
        refine ⟨xb2.trans ka (fun _ _ h => h.elim), ?_, ?_, kp_cellY ka c6 (fun h => h), fun i hi => Or.inl hi, by simp only [World.size_alloc]; omega⟩
        · rw [nxl_nil L hL]; exact rN.kp ka (fun h => h)
        · rw [bo_nil]; exact rC.kp ka (fun h => h)
      case assign =>
        intro l' pre O x Z1 Kk hll hsz' hi hK
        obtain ⟨xk, xz⟩ := x
        gi_wp2
        refine hK _ _ (Kp.refl _ _) hi ?_
        exact act_of (by kernel_rfl) rfl
      case body =>
        rintro l' pre O ⟨i, z⟩ a' Z hll hsz' q1 q2 hi ⟨f', rfl⟩ ⟨k, x, hk, hpre, hx, hz⟩
        obtain ⟨e1, e2⟩ := List.append_inj' hpre rfl
        have e3 : ((i, z) : Nat × Int) = (k, zs.getD k 0) := by simpa [hx] using e2
        simp only [Prod.mk.injEq] at e3
        obtain ⟨rfl, rfl⟩ := e3
        subst e1
        have hz15 : zs.getD i 0 ≤ 15 := (HW.out (zs.getD i 0) (by rw [List.getD_eq_getElem?_getD, List.getElem?_eq_getElem hk]; exact List.getElem_mem _)).2
        obtain ⟨m, hm⟩ := Int.eq_ofNat_of_zero_le (show 0 ≤ zs.getD i 0 by omega)
        rw [hm] at hz hz15 ⊢
        have hm1 : 1 ≤ m := by omega
        have hm15 : m ≤ 15 := by omega
        obtain ⟨y, hy⟩ : ∃ y, y = ac zs (m - 1) + cnt zs m i := ⟨_, rfl⟩
        have hyT : y < T := by rw [hy, HT.out]; exact ac_lt hm1 hm15 hm
        have hnx : (nxl L (cds zs i)).getD m 0 = (y : Int) := by rw [nxl_get _ _ m hm15, HAC.out m hm1 hm15, cn_cds zs m hm1 i, hy]; push_cast; rfl
        have hc := hi.rn.cell m (by rw [nxl_length]; omega)
        rw [hnx] at hc
        have hf := hi.rn.frozen m
        have hd := hi.rc.cell y (by rw [bo_length]; exact hyT)
        have hdf := hi.rc.frozen y
        have hc6 := hi.c6
        have HQ1 : Hid ((nxl L (cds zs i)).set m ((y : Int) + 1) = nxl L (cds zs i ++ [(i, (m : Int))])) := by
          rw [Hid, ← nxl_snoc L (cds zs i) i m]
          rw [nxl_get _ _ m hm15] at hnx
          rw [hnx]
        have HQ2 : Hid ((bo L T (cds zs i)).set y (i : Int) = bo L T (cds zs i ++ [(i, (m : Int))])) := by
          rw [Hid, bo_snoc]
          dsimp only
          rw [Int.toNat_natCast, HAC.out m hm1 hm15, Int.toNat_natCast, cn_cds zs m hm1 i, ← hy]
        have HI := hid hi
        have hwi : IntKind.i64.wrap ((y : Int) + 1) = (y : Int) + 1 := by rw [IntKind.wrap_i64]; omega
        generalize (bo L T (cds zs i)).getD y 0 = old at hd
        have hyi : (y : Int) < (T : Int) := by omega
        have hmi : (m : Int) < 16 := by omega
        clear hx hpre e2 hi hy hnx HA HAC
        have hne1 : ¬ N = C := by omega
        have hne2 : ¬ C = N := by omega
        have hne3 : ¬ C = S6 := by omega
        have hne4 : ¬ N = S6 := by omega
        have nO : ∀ j, w.heap.size ≤ j → j ≤ S6 → ¬ O j := fun j h1 h2 e => by
          rcases HI.out.ow j e with e | e
          · rcases YB.o j e with e | e <;> omega
          · omega
        have FIN : Hid (Kp (fun i => ¬ O i ∧ i ≠ W0.heap.size ∧ i ≠ W0.heap.size + 1) Z ((Z.setCell ⟨C, y, none⟩ (.int .i64 (i : Int))).setCell ⟨N, m, none⟩ (.int .i64 ((y : Int) + 1))).drew ∧ Yi w W0 N C S6 a zs L T (cds zs i ++ [(i, (m : Int))]) O ((Z.setCell ⟨C, y, none⟩ (.int .i64 (i : Int))).setCell ⟨N, m, none⟩ (.int .i64 ((y : Int) + 1))).drew) := by
          have k1 : Kp (fun j => j = C ∨ j = N) Z ((Z.setCell ⟨C, y, none⟩ (.int .i64 (i : Int))).setCell ⟨N, m, none⟩ (.int .i64 ((y : Int) + 1))).drew := (((kp_set1 Z C y _).mono (fun _ _ e => .inl e)).trans (kp_set1 _ N m _) (fun _ _ e => .inr e)).drew
          refine ⟨k1.mono (fun j hj e => ?_), HI.out.k.trans k1 (fun j hj e => ?_), ?_, ?_, ?_, HI.out.ow, Nat.lt_of_lt_of_le HI.out.lt k1.size⟩
          · rcases e with rfl | rfl
            · exact ⟨nO _ (by omega) (by omega), by omega, by omega⟩
            · exact ⟨nO _ (by omega) (by omega), by omega, by omega⟩
          · omega
          · rw [← HQ1.out]
            exact ((HI.out.rn.of_block (heap_setCell_other Z ⟨C, y, none⟩ N _ hne1)).set m _).drew
          · rw [← HQ2.out]
            exact ((HI.out.rc.set y _).of_block (heap_setCell_other _ ⟨N, m, none⟩ C _ hne2)).drew
          · exact (ce_cell _ (show ¬ S6 = N by omega)).trans ((ce_cell _ (show ¬ S6 = C by omega)).trans HI.out.c6)
        dsimp only [g55]
        gi_wp2
        gi_region_o
        all_goals gi_wp2
        all_goals exact FIN.out
      case done =>
        rintro D xs O Z hD ⟨hS1, hKR⟩ hi hdd
        have c6 := hi.c6
        have HI := hid hi
        have HD := hid hD
        have HDD := hid hdd
        have HKR := hid hKR
        have HS1 := hid hS1
        clear hi hD hdd hS1 hKR
        gi_wp2
        go_wp2_with fail
        subst hQ
        have hk2 := kp_putO Z D (.deferred none)
        have hDC : ¬ C = D := by have := HD.out; omega
        have hkf : Kp (fun _ => False) w Z := kr_kp HI.out.k (fun i hi e => (HKR.out i e).trans (hB0.block i hi))
        have hb2 : Below w.heap.size w (Z.putObj D (.deferred none)) := (hkf.below (Nat.le_refl _) (fun _ h => h.elim)).trans (hk2.below hkf.size (fun i e => by have := HD.out; have := hB0.size; omega))
        refine ⟨by simp, .inl ⟨_, _, rfl, run_takeDeferred HDD.out, ?_⟩⟩
        have hrow := HI.out.rc
        rw [HS1.out] at hrow
        have hbl : (bo L T (cds zs zs.length)).length = T := bo_length _ _ _
        refine ⟨.slice (some ⟨C, 0, none⟩) T T, by simp [results, Try.results55], C, bo L T (cds zs zs.length), by rw [hbl], by omega, hrow.of_block (World.putObj_heap_other hDC), ?_, hb2⟩
        rw [HT.out]
        exact bo_byc zs L HW.out HAC.out
      case stop =>
        rintro D c pre O Z _ _ h _
        exact h.elim
end Go.Proofs.Ythpocbpleffdpaa
