/- Symbols of lengths and distances. -/
import Derived.Test.YtofmoggejfopiaaSpn
import Derived.BigQuiet
namespace Go.Proofs.Ytofmoggejfopiaa
open Go.RowKit
def lfs (i : Nat) : Int := LSP.getD (i * 2) 0
def lws (i : Nat) : Int := LSP.getD (i * 2 + 1) 0
def dfs (i : Nat) : Int := (dM 30).getD (i * 2) 0
def dws (i : Nat) : Int := (dM 30).getD (i * 2 + 1) 0
theorem LSP_len : LSP.length = 58 := by simp [LSP, lM_len]
theorem LSP_size : ((LSP.map (Value.int .i64)).toArray).size = 58 := by simp [LSP_len]
theorem dM_size : (((dM 30).map (Value.int .i64)).toArray).size = 60 := by simp [dM_len]
theorem map_at (M : List Int) (j : Nat) (h : j < M.length) : (M.map (Value.int .i64))[j]? = some (.int .i64 (M.getD j 0)) := by simp [List.getD, h]
theorem there_new (w : World) (cs : Array Value) (t : TypeId) (n : Nat) (hn : n ≤ cs.size) : (w.alloc (.cells cs t)).there w.heap.size 0 n := fun j hj => by
  rw [Nat.zero_add]
  refine ⟨?_, (St.new t w cs).frozen j⟩
  rw [(St.new t w cs).cell j, Array.getElem?_eq_getElem (by omega)]
  rfl
theorem lfs_eq {i : Nat} (h : i < 28) : lfs i = (lf i : Int) ∧ lws i = (lw i : Int) := by
  have : ∀ i : Fin 28, lfs i.1 = (lf i.1 : Int) ∧ lws i.1 = (lw i.1 : Int) := by decide +kernel
  exact this ⟨i, h⟩
theorem lfs_0 : lfs 0 = 3 := by decide +kernel
theorem dfs_0 : dfs 0 = 1 := by decide +kernel
theorem lfs_28 : lfs 28 = 258 ∧ lws 28 = 0 := by decide +kernel
theorem dfs_eq {i : Nat} (h : i < 30) : dfs i = (df i : Int) ∧ dws i = (dw i : Int) := by
  have : ∀ i : Fin 30, dfs i.1 = (df i.1 : Int) ∧ dws i.1 = (dw i.1 : Int) := by decide +kernel
  exact this ⟨i, h⟩
theorem lfs_le {i : Nat} (h : i < 29) : 3 ≤ lfs i ∧ lfs i ≤ 258 ∧ 0 ≤ lws i ∧ lws i ≤ 5 := by
  have : ∀ i : Fin 29, 3 ≤ lfs i.1 ∧ lfs i.1 ≤ 258 ∧ 0 ≤ lws i.1 ∧ lws i.1 ≤ 5 := by decide +kernel
  exact this ⟨i, h⟩
theorem dfs_le {i : Nat} (h : i < 30) : 1 ≤ dfs i ∧ dfs i ≤ 32768 ∧ 0 ≤ dws i ∧ dws i ≤ 13 := by
  have : ∀ i : Fin 30, 1 ≤ dfs i.1 ∧ dfs i.1 ≤ 32768 ∧ 0 ≤ dws i.1 ∧ dws i.1 ≤ 13 := by decide +kernel
  exact this ⟨i, h⟩

set_option maxRecDepth 100000 in
set_option maxHeartbeats 1000000 in
theorem length_bad (n : Int) (w : World) (h : ¬ (3 ≤ n ∧ n ≤ 258)) : Calls Try.prog 23 #[.int .i64 n] w fun e w' => e = .returned (.tuple #[.int .i64 0, .int .u64 0, .int .i64 0, .int .i64 2]) ∧ Below w.heap.size w w' := by
  have hd : decide (3 ≤ n ∧ n ≤ 258) = false := decide_eq_false h
  clear h
  go_enter Try.func23, Try.ntmps23
  go_wp2_with fail
  refine (isLength_any n w).mono ?_
  rintro e w' ⟨rfl, h⟩
  replace h := h.symm
  subst h
  rw [hd]
  go_wp2
  refine bodyPost_ret (v := .tuple #[.int .i64 0, .int .u64 0, .int .i64 0, .int .i64 2]) (by simp [results, Try.results23]) rfl ⟨rfl, Below.refl _ _⟩
set_option maxRecDepth 100000 in
set_option maxHeartbeats 2000000 in
theorem length_ok (n : Int) (w : World) (h : 3 ≤ n ∧ n ≤ 258) : Calls Try.prog 23 #[.int .i64 n] w fun e w' => ∃ i : Nat, e = .returned (.tuple #[.int .i64 (257 + (i : Int)), .int .u64 (n - lfs i), .int .i64 (lws i), .int .i64 0]) ∧ Ch lfs 29 n i ∧ Below w.heap.size w w' := by
  have hd : decide (3 ≤ n ∧ n ≤ 258) = true := decide_eq_true h
  obtain ⟨hlo, hhi⟩ := h
  go_enter Try.func23, Try.ntmps23
  go_wp2_with fail
  refine (isLength_any n w).mono ?_
  rintro e w' ⟨rfl, h⟩
  replace h := h.symm
  subst h
  rw [hd]
  clear hd
  go_wp2_with fail
  refine (lspans_any w).mono ?_
  rintro e w1 ⟨rfl, b1⟩
  have HB1 : Hid (Below w.heap.size w w1) := b1
  clear b1
  go_wp2_with (first | (refine wpList_store_mid rfl 81 (.tmp 6) (.tmp 11) rfl w1.heap.size 0 (LSP.map (Value.int .i64)).toArray rfl rfl (by rw [LSP_size]; exact there_new _ _ _ _ (by simp)) (by rw [LSP_size]; exact info81) (ints_one _) ?_; generalize hY : World.setCells _ _ _ _ = Y; have HRG : Hid (Y.rangeAt w1.heap.size 0 (LSP.map (Value.int .i64))) := (by rw [← hY]; exact World.rangeAt_setCells_same _ _ 0 _ (by have h := LSP_size; simp only [List.size_toArray] at h; rw [h]; exact there_new _ _ _ _ (by simp))); have HBX : Hid (Below w.heap.size w Y) := (by rw [← hY]; exact Below.trans (HB1.out.alloc HB1.out.size _) ((kp_setCells w1.heap.size _ 0 _).below (HB1.out.alloc HB1.out.size _).size (fun i e => by rw [e]; exact HB1.out.size))); clear hY))
  refine (holds_any w1.heap.size 29 lfs n _ (by omega) (by omega) ?hcell (by rw [lfs_0]; omega)).mono ?_
  case hcell =>
    intro i hi
    have := HRG.out (i * 2) _ (map_at LSP (i * 2) (by have h := LSP_size; simp only [List.size_toArray, List.length_map] at h; omega))
    rwa [Nat.zero_add] at this
  rintro e Z ⟨i, rfl, hch, h⟩
  subst h
  have hi := hch.1
  have c0 : Z.cell? ⟨w1.heap.size, i * 2, none⟩ = some (.int .i64 (lfs i)) := by
    have := HRG.out (i * 2) _ (map_at LSP (i * 2) (by have h := LSP_size; simp only [List.size_toArray, List.length_map] at h; omega))
    rwa [Nat.zero_add] at this
  have c1 : Z.cell? ⟨w1.heap.size, i * 2 + 1, none⟩ = some (.int .i64 (lws i)) := by
    have := HRG.out (i * 2 + 1) _ (map_at LSP (i * 2 + 1) (by have h := LSP_size; simp only [List.size_toArray, List.length_map] at h; omega))
    rwa [Nat.zero_add] at this
  have hle := lfs_le hi
  have hfn := hch.2.1
  have HCH : Hid (Ch lfs 29 n i) := hch
  obtain ⟨x, hx⟩ : ∃ x, x = lfs i := ⟨_, rfl⟩
  obtain ⟨y, hy⟩ : ∃ y, y = lws i := ⟨_, rfl⟩
  rw [← hx] at c0 hle hfn
  rw [← hy] at c1 hle
  have HXY : Hid (x = lfs i ∧ y = lws i) := ⟨hx, hy⟩
  have e1 : IntKind.i64.wrap (257 + (i : Int)) = 257 + (i : Int) := by rw [IntKind.wrap_i64]; omega
  have e2 : IntKind.i64.wrap (n - x) = n - x := by rw [IntKind.wrap_i64]; omega
  have e3 : IntKind.u64.wrap (n - x) = n - x := by rw [IntKind.wrap_u64]; omega
  clear hch hx hy HRG
  go_wp2_with fail
  go_quiet (fail)
  have HBZ : Hid (Below w.heap.size w (Z.drewN nq)) := HBX.out.trans ((drewN_kp (fun _ => False) _ _).below HBX.out.size (fun _ x => x.elim))
  go_wp2
  refine bodyPost_ret (v := .tuple #[.int .i64 (257 + (i : Int)), .int .u64 (n - x), .int .i64 y, .int .i64 0]) (by simp [results, Try.results23]) rfl ⟨i, by rw [← HXY.out.1, ← HXY.out.2], HCH.out, HBZ.out⟩

set_option maxRecDepth 100000 in
set_option maxHeartbeats 1000000 in
theorem distance_bad (n : Int) (w : World) (h : ¬ (1 ≤ n ∧ n ≤ 32768)) : Calls Try.prog 24 #[.int .i64 n] w fun e w' => e = .returned (.tuple #[.int .i64 0, .int .u64 0, .int .i64 0, .int .i64 2]) ∧ Below w.heap.size w w' := by
  have hd : decide (1 ≤ n ∧ n ≤ 32768) = false := decide_eq_false h
  clear h
  go_enter Try.func24, Try.ntmps24
  go_wp2_with fail
  refine (isDistance_any n w).mono ?_
  rintro e w' ⟨rfl, h⟩
  replace h := h.symm
  subst h
  rw [hd]
  go_wp2
  refine bodyPost_ret (v := .tuple #[.int .i64 0, .int .u64 0, .int .i64 0, .int .i64 2]) (by simp [results, Try.results24]) rfl ⟨rfl, Below.refl _ _⟩
set_option maxRecDepth 100000 in
set_option maxHeartbeats 2000000 in
theorem distance_ok (n : Int) (w : World) (h : 1 ≤ n ∧ n ≤ 32768) : Calls Try.prog 24 #[.int .i64 n] w fun e w' => ∃ i : Nat, e = .returned (.tuple #[.int .i64 ((i : Int)), .int .u64 (n - dfs i), .int .i64 (dws i), .int .i64 0]) ∧ Ch dfs 30 n i ∧ Below w.heap.size w w' := by
  have hd : decide (1 ≤ n ∧ n ≤ 32768) = true := decide_eq_true h
  obtain ⟨hlo, hhi⟩ := h
  go_enter Try.func24, Try.ntmps24
  go_wp2_with fail
  refine (isDistance_any n w).mono ?_
  rintro e w' ⟨rfl, h⟩
  replace h := h.symm
  subst h
  rw [hd]
  clear hd
  go_wp2_with fail
  refine (dspans_any w).mono ?_
  rintro e w1 ⟨rfl, b1⟩
  have HB1 : Hid (Below w.heap.size w w1) := b1
  clear b1
  go_wp2_with (first | (refine wpList_store_mid rfl 85 (.tmp 6) (.tmp 11) rfl w1.heap.size 0 ((dM 30).map (Value.int .i64)).toArray rfl rfl (by rw [dM_size]; exact there_new _ _ _ _ (by simp)) (by rw [dM_size]; exact info85) (ints_one _) ?_; generalize hY : World.setCells _ _ _ _ = Y; have HRG : Hid (Y.rangeAt w1.heap.size 0 ((dM 30).map (Value.int .i64))) := (by rw [← hY]; exact World.rangeAt_setCells_same _ _ 0 _ (by have h := dM_size; simp only [List.size_toArray] at h; rw [h]; exact there_new _ _ _ _ (by simp))); have HBX : Hid (Below w.heap.size w Y) := (by rw [← hY]; exact Below.trans (HB1.out.alloc HB1.out.size _) ((kp_setCells w1.heap.size _ 0 _).below (HB1.out.alloc HB1.out.size _).size (fun i e => by rw [e]; exact HB1.out.size))); clear hY))
  refine (holds_any w1.heap.size 30 dfs n _ (by omega) (by omega) ?hcell (by rw [dfs_0]; omega)).mono ?_
  case hcell =>
    intro i hi
    have := HRG.out (i * 2) _ (map_at (dM 30) (i * 2) (by have h := dM_size; simp only [List.size_toArray, List.length_map] at h; omega))
    rwa [Nat.zero_add] at this
  rintro e Z ⟨i, rfl, hch, h⟩
  subst h
  have hi := hch.1
  have c0 : Z.cell? ⟨w1.heap.size, i * 2, none⟩ = some (.int .i64 (dfs i)) := by
    have := HRG.out (i * 2) _ (map_at (dM 30) (i * 2) (by have h := dM_size; simp only [List.size_toArray, List.length_map] at h; omega))
    rwa [Nat.zero_add] at this
  have c1 : Z.cell? ⟨w1.heap.size, i * 2 + 1, none⟩ = some (.int .i64 (dws i)) := by
    have := HRG.out (i * 2 + 1) _ (map_at (dM 30) (i * 2 + 1) (by have h := dM_size; simp only [List.size_toArray, List.length_map] at h; omega))
    rwa [Nat.zero_add] at this
  have hle := dfs_le hi
  have hfn := hch.2.1
  have HCH : Hid (Ch dfs 30 n i) := hch
  obtain ⟨x, hx⟩ : ∃ x, x = dfs i := ⟨_, rfl⟩
  obtain ⟨y, hy⟩ : ∃ y, y = dws i := ⟨_, rfl⟩
  rw [← hx] at c0 hle hfn
  rw [← hy] at c1 hle
  have HXY : Hid (x = dfs i ∧ y = dws i) := ⟨hx, hy⟩
  have e1 : IntKind.i64.wrap (257 + (i : Int)) = 257 + (i : Int) := by rw [IntKind.wrap_i64]; omega
  have e2 : IntKind.i64.wrap (n - x) = n - x := by rw [IntKind.wrap_i64]; omega
  have e3 : IntKind.u64.wrap (n - x) = n - x := by rw [IntKind.wrap_u64]; omega
  clear hch hx hy HRG
  go_wp2_with fail
  go_quiet (fail)
  have HBZ : Hid (Below w.heap.size w (Z.drewN nq)) := HBX.out.trans ((drewN_kp (fun _ => False) _ _).below HBX.out.size (fun _ x => x.elim))
  go_wp2
  refine bodyPost_ret (v := .tuple #[.int .i64 ((i : Int)), .int .u64 (n - x), .int .i64 y, .int .i64 0]) (by simp [results, Try.results24]) rfl ⟨i, by rw [← HXY.out.1, ← HXY.out.2], HCH.out, HBZ.out⟩
theorem index_pair (t : TypeId) (n : Nat) (M : List Int) (i : Nat) (w : World) (h : Try.prog.underlying t = some (.array n 80)) (hl : M.length = n * 2) (hi : i < n) :
    (Instr.index t (.agg (M.map (Value.int .i64)).toArray) (.int .i64 (i : Int))).run Try.prog w = .ok (.agg #[.int .i64 (M.getD (i * 2) 0), .int .i64 (M.getD (i * 2 + 1) 0)]) w := by
  have h1 : i * 2 < (M.map (Value.int .i64)).length := by simp; omega
  have h2 : i * 2 + 1 < (M.map (Value.int .i64)).length := by simp; omega
  have e : (List.take 2 (List.drop (i * 2) (List.map (Value.int .i64) M))) = [.int .i64 (M.getD (i * 2) 0), .int .i64 (M.getD (i * 2 + 1) 0)] := by
    rw [List.drop_eq_getElem_cons h1, List.drop_eq_getElem_cons h2]
    rw [List.length_map] at h1 h2
    simp [List.getD, h1, h2]
  simp only [List.getD] at e
  simp [Instr.index, run_underlying h, asIntOf, hi, go_sem, e]

set_option maxRecDepth 100000 in
set_option maxHeartbeats 1000000 in
theorem oflength_bad (s : Int) (w : World) (h : s < 257 ∨ 286 ≤ s) : Calls Try.prog 25 #[.int .i64 s] w fun e w' => e = .returned (.tuple #[.int .i64 0, .int .i64 0, .int .i64 2]) ∧ Below w.heap.size w w' := by
  rcases h with h | h
  · go_enter Try.func25, Try.ntmps25
    go_wp2
    refine bodyPost_ret (v := .tuple #[.int .i64 0, .int .i64 0, .int .i64 2]) (by simp [results, Try.results25]) rfl ⟨rfl, Below.refl _ _⟩
  · have h1 : ¬ s < 257 := by omega
    go_enter Try.func25, Try.ntmps25
    go_wp2
    refine bodyPost_ret (v := .tuple #[.int .i64 0, .int .i64 0, .int .i64 2]) (by simp [results, Try.results25]) rfl ⟨rfl, Below.refl _ _⟩
set_option maxRecDepth 100000 in
set_option maxHeartbeats 2000000 in
theorem oflength_ok (i : Nat) (s : Int) (w : World) (hs : s = 257 + (i : Int)) (hi : i < 29) : Calls Try.prog 25 #[.int .i64 s] w fun e w' => e = .returned (.tuple #[.int .i64 (lfs i), .int .i64 (lws i), .int .i64 0]) ∧ Below w.heap.size w w' := by
  have h1 : ¬ s < 257 := by omega
  have h2 : ¬ 286 ≤ s := by omega
  obtain ⟨q, hq⟩ : ∃ q : Int, q = (i : Int) := ⟨_, rfl⟩
  have e1 : IntKind.i64.wrap (s - 257) = s - 257 := by rw [IntKind.wrap_i64]; omega
  have e2 : s - 257 = (i : Int) := by omega
  have hix : ∀ w : World, (Instr.index 81 (.agg (LSP.map (Value.int .i64)).toArray) (.int .i64 (i : Int))).run Try.prog w = .ok (.agg #[.int .i64 (lfs i), .int .i64 (lws i)]) w := fun w => by
    
    exact index_pair 81 29 LSP i w Try.underlying81 (by have h := LSP_size; simp only [List.size_toArray, List.length_map] at h; omega) hi
  obtain ⟨x, hx⟩ : ∃ x, x = lfs i := ⟨_, rfl⟩
  obtain ⟨y, hy⟩ : ∃ y, y = lws i := ⟨_, rfl⟩
  rw [← hx, ← hy] at hix ⊢
  clear hs hx hy hq q
  go_enter Try.func25, Try.ntmps25
  go_wp2_with fail
  refine (lspans_any w).mono ?_
  rintro e w1 ⟨rfl, b1⟩
  have c0 : (w1.alloc (.cells #[.int .i64 x, .int .i64 y] 80)).cell? ⟨w1.heap.size, 0, none⟩ = some (.int .i64 x) := (St.new 80 w1 _).cell 0
  have c1 : (w1.alloc (.cells #[.int .i64 x, .int .i64 y] 80)).cell? ⟨w1.heap.size, 1, none⟩ = some (.int .i64 y) := (St.new 80 w1 _).cell 1
  have HBA : Hid (Below w.heap.size w (w1.alloc (.cells #[.int .i64 x, .int .i64 y] 80))) := b1.alloc b1.size _
  clear b1
  go_wp2_with fail
  generalize w1.alloc (.cells #[.int .i64 x, .int .i64 y] 80) = Y at c0 c1 HBA ⊢
  go_quiet (fail)
  have HBZ : Hid (Below w.heap.size w (Y.drewN nq)) := HBA.out.trans ((drewN_kp (fun _ => False) _ _).below HBA.out.size (fun _ x => x.elim))
  go_wp2
  refine bodyPost_ret (v := .tuple #[.int .i64 x, .int .i64 y, .int .i64 0]) (by simp [results, Try.results25]) rfl ⟨rfl, HBZ.out⟩

set_option maxRecDepth 100000 in
set_option maxHeartbeats 1000000 in
theorem ofdistance_bad (s : Int) (w : World) (h : s < 0 ∨ 30 ≤ s) : Calls Try.prog 26 #[.int .i64 s] w fun e w' => e = .returned (.tuple #[.int .i64 0, .int .i64 0, .int .i64 2]) ∧ Below w.heap.size w w' := by
  rcases h with h | h
  · go_enter Try.func26, Try.ntmps26
    go_wp2
    refine bodyPost_ret (v := .tuple #[.int .i64 0, .int .i64 0, .int .i64 2]) (by simp [results, Try.results26]) rfl ⟨rfl, Below.refl _ _⟩
  · have h1 : ¬ s < 0 := by omega
    go_enter Try.func26, Try.ntmps26
    go_wp2
    refine bodyPost_ret (v := .tuple #[.int .i64 0, .int .i64 0, .int .i64 2]) (by simp [results, Try.results26]) rfl ⟨rfl, Below.refl _ _⟩
set_option maxRecDepth 100000 in
set_option maxHeartbeats 2000000 in
theorem ofdistance_ok (i : Nat) (s : Int) (w : World) (hs : s = (i : Int)) (hi : i < 30) : Calls Try.prog 26 #[.int .i64 s] w fun e w' => e = .returned (.tuple #[.int .i64 (dfs i), .int .i64 (dws i), .int .i64 0]) ∧ Below w.heap.size w w' := by
  have h1 : ¬ s < 0 := by omega
  have h2 : ¬ 30 ≤ s := by omega
  obtain ⟨q, hq⟩ : ∃ q : Int, q = (i : Int) := ⟨_, rfl⟩
  have hix : ∀ w : World, (Instr.index 85 (.agg ((dM 30).map (Value.int .i64)).toArray) (.int .i64 s)).run Try.prog w = .ok (.agg #[.int .i64 (dfs i), .int .i64 (dws i)]) w := fun w => by
    rw [hs]
    exact index_pair 85 30 (dM 30) i w Try.underlying85 (by have h := dM_size; simp only [List.size_toArray, List.length_map] at h; omega) hi
  obtain ⟨x, hx⟩ : ∃ x, x = dfs i := ⟨_, rfl⟩
  obtain ⟨y, hy⟩ : ∃ y, y = dws i := ⟨_, rfl⟩
  rw [← hx, ← hy] at hix ⊢
  clear hs hx hy hq q
  go_enter Try.func26, Try.ntmps26
  go_wp2_with fail
  refine (dspans_any w).mono ?_
  rintro e w1 ⟨rfl, b1⟩
  have c0 : (w1.alloc (.cells #[.int .i64 x, .int .i64 y] 80)).cell? ⟨w1.heap.size, 0, none⟩ = some (.int .i64 x) := (St.new 80 w1 _).cell 0
  have c1 : (w1.alloc (.cells #[.int .i64 x, .int .i64 y] 80)).cell? ⟨w1.heap.size, 1, none⟩ = some (.int .i64 y) := (St.new 80 w1 _).cell 1
  have HBA : Hid (Below w.heap.size w (w1.alloc (.cells #[.int .i64 x, .int .i64 y] 80))) := b1.alloc b1.size _
  clear b1
  go_wp2_with fail
  generalize w1.alloc (.cells #[.int .i64 x, .int .i64 y] 80) = Y at c0 c1 HBA ⊢
  go_quiet (fail)
  have HBZ : Hid (Below w.heap.size w (Y.drewN nq)) := HBA.out.trans ((drewN_kp (fun _ => False) _ _).below HBA.out.size (fun _ x => x.elim))
  go_wp2
  refine bodyPost_ret (v := .tuple #[.int .i64 x, .int .i64 y, .int .i64 0]) (by simp [results, Try.results26]) rfl ⟨rfl, HBZ.out⟩
end Go.Proofs.Ytofmoggejfopiaa
