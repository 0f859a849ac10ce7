/- LzCounts: how often each symbol comes. -/
import Derived.Test.YtofmoggejfopiaaCnp
import Derived.Test.YtofmoggejfopiaaExW
namespace Go.Proofs.Ytofmoggejfopiaa
open Go.RowKit
theorem cu_size (M : List Int) : (cu M).size = M.length := by simp [cu]
theorem cu_len (M : List Int) : (cu M).toList.length = M.length := by simp [cu]
theorem wpList_load_mid_g {P : Program} {ops : Array Oper} {rest : List Oper} {op : Oper} {a : Act} {w : World} {Q : Exit → Act → World → Prop} (hw : Region.wanted op (yielded ops a.tmps) = true) (ty : TypeId) (x : Operand) (ho : op.op = .load ty x)
    (b o : Nat) (hx : a.eval x = .pointer (some ⟨b, o, none⟩)) (cs : List Value) (d : TypeDesc) (hc : w.rangeAt b o cs)
    (hu : P.underlying ty = some d) (hd : d.isRow = true) (hi : (P.info? ty).map (·.size) = some cs.length)
    (h : wpList P ops Q rest (a.put op.dst (.agg cs.toArray)) w) : wpList P ops Q (op :: rest) a w :=
  wpList_step fun _ hK => by rw [if_pos hw]; exact wp_load_mid ty x ho b o hx cs d hc hu hd hi (hK _ _ h)
theorem zs60_len : zs60.length = 286 := List.length_replicate
theorem zs61_len : zs61.length = 30 := List.length_replicate
theorem cu_all (M : List Int) : (cu M).all (·.oneCell') = true := all_oneCell_toArray (cu_one M)
theorem eq60c (M : List Int) (hl : M.length = 286) (w : World) : (Op.equalIn 10000 60 (.agg (cu M)) (.agg (cu M))).run Try.prog w = .ok true w := eq60 M hl w
theorem eq61c (M : List Int) (hl : M.length = 30) (w : World) : (Op.equalIn 10000 61 (.agg (cu M)) (.agg (cu M))).run Try.prog w = .ok true w := eq61 M hl w
set_option maxRecDepth 100000 in
set_option maxHeartbeats 8000000 in
theorem counts_walk_ok (ts : List Tok) (ao : Option Addr) (N cap : Nat) (w : World) (hNe : N = ts.length) (hN : N ≤ 300) (hS : TSrc w ao ts) (hr : refN ts = 0) (hY : ∀ k, k < N → 0 ≤ (ts.getD k zt).1 ∧ (ts.getD k zt).1 ≤ 255) :
    Calls Try.prog 6 #[.slice ao N cap] w fun e w' => e = .returned (.bool true) ∧ Below w.heap.size w w' := by
  have hok : okK ts N := by rw [hNe]; exact okK_of_refN hr
  have HNE : Hid (N = ts.length) := hNe
  have HS : Hid (TSrc w ao ts) := hS
  have HOK : Hid (okK ts N) := hok
  have HR : Hid (refN ts = 0) := hr
  have HY : Hid (∀ k, k < N → 0 ≤ (ts.getD k zt).1 ∧ (ts.getD k zt).1 ≤ 255) := hY
  have hgt : ¬ (300 : Int) < (N : Int) := by omega
  obtain ⟨M1, h1⟩ : ∃ M, M = (cst ts N).1 := ⟨_, rfl⟩
  obtain ⟨M2, h2⟩ : ∃ M, M = (cst ts N).2 := ⟨_, rfl⟩
  have L1 : Hid (M1.length = 286) := by rw [h1]; exact (cst_len ts N).1
  have L2 : Hid (M2.length = 30) := by rw [h2]; exact (cst_len ts N).2
  have z60 := zero60
  have z61 := zero61
  have key1 := counts_ok ts ao N cap w hNe hN hS hr hok hY
  have key2 : ∀ W, Below w.heap.size w W → Calls Try.prog 32 #[.slice ao N cap] W fun e w' => e = .returned (.tuple #[.agg (cu M1), .agg (cu M2)]) ∧ Below W.heap.size W w' := fun W hb => by
    rw [h1, h2]; exact rcounts_any ts ao N cap W hNe hN (hS.below hb) hok hY
  rw [← h1, ← h2] at key1
  have K1 : Hid (Calls Try.prog 31 #[.slice ao N cap] w fun e w' => e = .returned (.tuple #[.agg (cu M1), .agg (cu M2), .int .i64 0]) ∧ Below w.heap.size w w') := key1
  have K2 : Hid (∀ W, Below w.heap.size w W → Calls Try.prog 32 #[.slice ao N cap] W fun e w' => e = .returned (.tuple #[.agg (cu M1), .agg (cu M2)]) ∧ Below W.heap.size W w') := key2
  have q60 := eq60c M1 L1.out
  have q61 := eq61c M2 L2.out
  have q60' := eq60 M1 L1.out
  have q61' := eq61 M2 L2.out
  clear hNe hS hok hr hY key1 key2 h1 h2
  go_enter Try.func6, Try.ntmps6
  go_wp2_with fail
  refine K1.out.mono ?_
  rintro e w1 ⟨rfl, b1⟩
  have B1 : Hid (Below w.heap.size w w1) := b1
  clear b1
  go_wp2_with (first | (refine wpList_store_mid rfl 60 (.tmp 3) (.tmp 15) rfl w1.heap.size 0 (cu M1) rfl rfl (by rw [cu_size, L1.out]; exact World.there_alloc (there_new _ _ _ _ (Nat.le_of_eq (by rw [cu_size, zs60_len]))) _) (by rw [cu_size, L1.out]; exact info60) (cu_all _) ?_; generalize hY6 : World.setCells _ _ _ _ = aY; have aRG3 : Hid (aY.rangeAt w1.heap.size 0 (M1.map (Value.int .u32))) := (by rw [← hY6]; exact World.rangeAt_setCells_same _ _ 0 _ (by (first | rw [cu_len, L1.out] | rw [List.length_map, L1.out]); exact World.there_alloc (there_new _ _ _ _ (Nat.le_of_eq (by rw [cu_size, zs60_len]))) _)); have aTH4 : Hid (aY.there (w1.heap.size + 1) 0 30) := (by rw [← hY6, ← World.size_alloc w1]; exact World.there_setCells (there_new _ _ _ _ (Nat.le_of_eq (by rw [cu_size, zs61_len]))) _ _ _); have aBY : Hid (Below w1.heap.size w1 aY) := (by rw [← hY6]; exact (((Below.refl w1.heap.size w1).alloc (Nat.le_refl _) _).alloc (by simp) _).trans ((kp_setCells w1.heap.size _ 0 _).below (by simp; omega) (fun i e => by omega))); clear hY6) | (refine wpList_store_mid rfl 61 (.tmp 4) (.tmp 16) rfl (w1.heap.size + 1) 0 (cu M2) rfl rfl (by rw [cu_size, L2.out]; exact aTH4.out) (by rw [cu_size, L2.out]; exact info61) (cu_all _) ?_; generalize hZ7 : World.setCells _ _ _ _ = aZ; have aRG4 : Hid (aZ.rangeAt (w1.heap.size + 1) 0 (M2.map (Value.int .u32))) := (by rw [← hZ7]; exact World.rangeAt_setCells_same _ _ 0 _ (by (first | rw [cu_len, L2.out] | rw [List.length_map, L2.out]); exact aTH4.out)); have aRG3' : Hid (aZ.rangeAt w1.heap.size 0 (M1.map (Value.int .u32))) := (by rw [← hZ7]; exact World.rangeAt_setCells_apart aRG3.out _ _ _ (.inl (by omega))); have aBZ : Hid (Below w1.heap.size w1 aZ) := (by rw [← hZ7]; exact aBY.out.trans ((kp_setCells (w1.heap.size + 1) _ 0 _).below aBY.out.size (fun i e => by omega))); clear hZ7 aRG3 aTH4 aBY))
  refine (checks_any ts ao N cap aZ HNE.out (by omega) (HS.out.below (B1.out.trans (aBZ.out.mono B1.out.size)))).mono ?_
  rintro e w2 ⟨rfl, b2⟩
  rw [HR.out]
  have B2 : Hid (Below w.heap.size w w2) := (B1.out.trans (aBZ.out.mono B1.out.size)).trans (b2.mono (B1.out.trans (aBZ.out.mono B1.out.size)).size)
  have X3 : Hid (w2.rangeAt w1.heap.size 0 (M1.map (Value.int .u32))) := rangeAt_kp aRG3'.out (Kp.of_below (F := fun _ => False) b2) (fun x => x)
  have X4 : Hid (w2.rangeAt (w1.heap.size + 1) 0 (M2.map (Value.int .u32))) := rangeAt_kp aRG4.out (Kp.of_below (F := fun _ => False) b2) (fun x => x)
  clear b2 aRG3' aRG4 aBZ B1
  go_wp2_with fail
  refine (K2.out w2 B2.out).mono ?_
  rintro e w3 ⟨rfl, b3⟩
  have B3 : Hid (Below w.heap.size w w3) := B2.out.trans (b3.mono B2.out.size)
  have Y3 : Hid (w3.rangeAt w1.heap.size 0 (M1.map (Value.int .u32))) := rangeAt_kp X3.out (Kp.of_below (F := fun _ => False) b3) (fun x => x)
  have Y4 : Hid (w3.rangeAt (w1.heap.size + 1) 0 (M2.map (Value.int .u32))) := rangeAt_kp X4.out (Kp.of_below (F := fun _ => False) b3) (fun x => x)
  clear b3 X3 X4 B2
  generalize w1.heap.size + 1 = g4 at Y4 ⊢
  generalize w1.heap.size = g3 at Y3 ⊢
  go_wp2_with (first | (refine wpList_store_mid rfl 60 (.tmp 6) (.tmp 40) rfl w3.heap.size 0 (cu M1) rfl rfl (by rw [cu_size, L1.out]; exact World.there_alloc (there_new _ _ _ _ (Nat.le_of_eq (by rw [cu_size, zs60_len]))) _) (by rw [cu_size, L1.out]; exact info60) (cu_all _) ?_; generalize hY6 : World.setCells _ _ _ _ = cY; have cRG3 : Hid (cY.rangeAt w3.heap.size 0 (M1.map (Value.int .u32))) := (by rw [← hY6]; exact World.rangeAt_setCells_same _ _ 0 _ (by (first | rw [cu_len, L1.out] | rw [List.length_map, L1.out]); exact World.there_alloc (there_new _ _ _ _ (Nat.le_of_eq (by rw [cu_size, zs60_len]))) _)); have cTH4 : Hid (cY.there (w3.heap.size + 1) 0 30) := (by rw [← hY6, ← World.size_alloc w3]; exact World.there_setCells (there_new _ _ _ _ (Nat.le_of_eq (by rw [cu_size, zs61_len]))) _ _ _); have cBY : Hid (Below w3.heap.size w3 cY) := (by rw [← hY6]; exact (((Below.refl w3.heap.size w3).alloc (Nat.le_refl _) _).alloc (by simp) _).trans ((kp_setCells w3.heap.size _ 0 _).below (by simp; omega) (fun i e => by omega))); clear hY6) | (refine wpList_store_mid rfl 61 (.tmp 7) (.tmp 41) rfl (w3.heap.size + 1) 0 (cu M2) rfl rfl (by rw [cu_size, L2.out]; exact cTH4.out) (by rw [cu_size, L2.out]; exact info61) (cu_all _) ?_; generalize hZ7 : World.setCells _ _ _ _ = cZ; have cRG4 : Hid (cZ.rangeAt (w3.heap.size + 1) 0 (M2.map (Value.int .u32))) := (by rw [← hZ7]; exact World.rangeAt_setCells_same _ _ 0 _ (by (first | rw [cu_len, L2.out] | rw [List.length_map, L2.out]); exact cTH4.out)); have cRG3' : Hid (cZ.rangeAt w3.heap.size 0 (M1.map (Value.int .u32))) := (by rw [← hZ7]; exact World.rangeAt_setCells_apart cRG3.out _ _ _ (.inl (by omega))); have cBZ : Hid (Below w3.heap.size w3 cZ) := (by rw [← hZ7]; exact cBY.out.trans ((kp_setCells (w3.heap.size + 1) _ 0 _).below cBY.out.size (fun i e => by omega))); clear hZ7 cRG3 cTH4 cBY; have V3 : Hid (cZ.rangeAt g3 0 (M1.map (Value.int .u32))) := rangeAt_kp Y3.out (Kp.of_below (F := fun _ => False) cBZ.out) (fun x => x); have V4 : Hid (cZ.rangeAt g4 0 (M2.map (Value.int .u32))) := rangeAt_kp Y4.out (Kp.of_below (F := fun _ => False) cBZ.out) (fun x => x)) | (refine wpList_load_mid rfl 60 (.tmp 3) rfl g3 0 rfl (M1.map (Value.int .u32)) _ V3.out Try.underlying60 rfl (by rw [List.length_map, L1.out]; exact info60) ?_) | (refine wpList_load_mid rfl 60 (.tmp 6) rfl w3.heap.size 0 rfl (M1.map (Value.int .u32)) _ cRG3'.out Try.underlying60 rfl (by rw [List.length_map, L1.out]; exact info60) ?_) | (refine wpList_load_mid_g (by rfl) 61 (.tmp 4) rfl g4 0 rfl (M2.map (Value.int .u32)) _ V4.out Try.underlying61 rfl (by rw [List.length_map, L2.out]; exact info61) ?_) | (refine wpList_load_mid_g (by rfl) 61 (.tmp 7) rfl (w3.heap.size + 1) 0 rfl (M2.map (Value.int .u32)) _ cRG4.out Try.underlying61 rfl (by rw [List.length_map, L2.out]; exact info61) ?_) | (go_at_call 14; refine (num_any _ _).mono ?_; rintro e w' ⟨rfl, h⟩; replace h := h.symm; subst h) | (go_at_call 9; refine (works_any _).mono ?_; rintro e w9 ⟨rfl, b9⟩))
  go_ret
  have hbz : Below w.heap.size w cZ := B3.out.trans (cBZ.out.mono B3.out.size)
  exact ⟨rfl, hbz.trans (b9.mono hbz.size)⟩
set_option maxRecDepth 100000 in
set_option maxHeartbeats 8000000 in
theorem counts_walk_bad (ts : List Tok) (ao : Option Addr) (N cap : Nat) (w : World) (hNe : N = ts.length) (hN : N ≤ 300) (hS : TSrc w ao ts) (hr : refN ts = 2) :
    Calls Try.prog 6 #[.slice ao N cap] w fun e w' => e = .returned (.bool true) ∧ Below w.heap.size w w' := by
  have HNE : Hid (N = ts.length) := hNe
  have HS : Hid (TSrc w ao ts) := hS
  have HR : Hid (refN ts = 2) := hr
  have hgt : ¬ (300 : Int) < (N : Int) := by omega
  have L1 : Hid (zs60.length = 286) := zs60_len
  have L2 : Hid (zs61.length = 30) := zs61_len
  have z60 := zero60
  have z61 := zero61
  have key1 := counts_bad ts ao N cap w hNe hN hS hr
  have K1 : Hid (Calls Try.prog 31 #[.slice ao N cap] w fun e w' => e = .returned (.tuple #[.agg (cu zs60), .agg (cu zs61), .int .i64 2]) ∧ Below w.heap.size w w') := key1
  have q60 : ∀ w : World, (Op.equalIn 10000 60 (.agg (zs60.map (Value.int .u32)).toArray) (.agg (cu zs60))).run Try.prog w = .ok true w := eq60 zs60 zs60_len
  have q61 : ∀ w : World, (Op.equalIn 10000 61 (.agg (zs61.map (Value.int .u32)).toArray) (.agg (cu zs61))).run Try.prog w = .ok true w := eq61 zs61 zs61_len
  clear hNe hS hr key1
  go_enter Try.func6, Try.ntmps6
  go_wp2_with fail
  refine K1.out.mono ?_
  rintro e w1 ⟨rfl, b1⟩
  have B1 : Hid (Below w.heap.size w w1) := b1
  clear b1
  go_wp2_with (first | (refine wpList_store_mid rfl 60 (.tmp 3) (.tmp 15) rfl w1.heap.size 0 (cu zs60) rfl rfl (by rw [cu_size, L1.out]; exact World.there_alloc (there_new _ _ _ _ (Nat.le_of_eq (by rw [cu_size, zs60_len]))) _) (by rw [cu_size, L1.out]; exact info60) (cu_all _) ?_; generalize hY6 : World.setCells _ _ _ _ = aY; have aRG3 : Hid (aY.rangeAt w1.heap.size 0 (zs60.map (Value.int .u32))) := (by rw [← hY6]; exact World.rangeAt_setCells_same _ _ 0 _ (by (first | rw [cu_len, L1.out] | rw [List.length_map, L1.out]); exact World.there_alloc (there_new _ _ _ _ (Nat.le_of_eq (by rw [cu_size, zs60_len]))) _)); have aTH4 : Hid (aY.there (w1.heap.size + 1) 0 30) := (by rw [← hY6, ← World.size_alloc w1]; exact World.there_setCells (there_new _ _ _ _ (Nat.le_of_eq (by rw [cu_size, zs61_len]))) _ _ _); have aBY : Hid (Below w1.heap.size w1 aY) := (by rw [← hY6]; exact (((Below.refl w1.heap.size w1).alloc (Nat.le_refl _) _).alloc (by simp) _).trans ((kp_setCells w1.heap.size _ 0 _).below (by simp; omega) (fun i e => by omega))); clear hY6) | (refine wpList_store_mid rfl 61 (.tmp 4) (.tmp 16) rfl (w1.heap.size + 1) 0 (cu zs61) rfl rfl (by rw [cu_size, L2.out]; exact aTH4.out) (by rw [cu_size, L2.out]; exact info61) (cu_all _) ?_; generalize hZ7 : World.setCells _ _ _ _ = aZ; have aRG4 : Hid (aZ.rangeAt (w1.heap.size + 1) 0 (zs61.map (Value.int .u32))) := (by rw [← hZ7]; exact World.rangeAt_setCells_same _ _ 0 _ (by (first | rw [cu_len, L2.out] | rw [List.length_map, L2.out]); exact aTH4.out)); have aRG3' : Hid (aZ.rangeAt w1.heap.size 0 (zs60.map (Value.int .u32))) := (by rw [← hZ7]; exact World.rangeAt_setCells_apart aRG3.out _ _ _ (.inl (by omega))); have aBZ : Hid (Below w1.heap.size w1 aZ) := (by rw [← hZ7]; exact aBY.out.trans ((kp_setCells (w1.heap.size + 1) _ 0 _).below aBY.out.size (fun i e => by omega))); clear hZ7 aRG3 aTH4 aBY))
  refine (checks_any ts ao N cap aZ HNE.out (by omega) (HS.out.below (B1.out.trans (aBZ.out.mono B1.out.size)))).mono ?_
  rintro e w2 ⟨rfl, b2⟩
  rw [HR.out]
  have B2 : Hid (Below w.heap.size w w2) := (B1.out.trans (aBZ.out.mono B1.out.size)).trans (b2.mono (B1.out.trans (aBZ.out.mono B1.out.size)).size)
  have X3 : Hid (w2.rangeAt w1.heap.size 0 (zs60.map (Value.int .u32))) := rangeAt_kp aRG3'.out (Kp.of_below (F := fun _ => False) b2) (fun x => x)
  have X4 : Hid (w2.rangeAt (w1.heap.size + 1) 0 (zs61.map (Value.int .u32))) := rangeAt_kp aRG4.out (Kp.of_below (F := fun _ => False) b2) (fun x => x)
  clear b2 aRG3' aRG4 aBZ B1
  go_wp2_with (first | (refine wpList_load_mid rfl 60 (.tmp 3) rfl w1.heap.size 0 rfl (zs60.map (Value.int .u32)) _ X3.out Try.underlying60 rfl (by rw [List.length_map, L1.out]; exact info60) ?_) | (refine wpList_load_mid_g (by rfl) 61 (.tmp 4) rfl (w1.heap.size + 1) 0 rfl (zs61.map (Value.int .u32)) _ X4.out Try.underlying61 rfl (by rw [List.length_map, L2.out]; exact info61) ?_) | (go_at_call 14; refine (num_any _ _).mono ?_; rintro e w' ⟨rfl, h⟩; replace h := h.symm; subst h) | (go_at_call 9; refine (works_any _).mono ?_; rintro e w9 ⟨rfl, b9⟩))
  go_ret
  exact ⟨rfl, B2.out.trans (b9.mono B2.out.size)⟩
set_option maxRecDepth 100000 in
set_option maxHeartbeats 1000000 in
theorem counts_long (ao : Option Addr) (N cap : Nat) (w : World) (hN : 300 < N) (hN2 : N ≤ maxLen) :
    Calls Try.prog 6 #[.slice ao N cap] w fun e w' => e = .returned (.bool true) ∧ Below w.heap.size w w' := by
  have hgt : (300 : Int) < (N : Int) := by omega
  have HN2 : Hid (N ≤ maxLen) := hN2
  clear hN2
  go_enter Try.func6, Try.ntmps6
  go_wp2_with (first | (go_at_call 9; refine (works_any _).mono ?_; rintro e w9 ⟨rfl, b9⟩))
  go_ret
  exact ⟨rfl, b9⟩
theorem counts_walk (ts : List Tok) (ao : Option Addr) (N cap : Nat) (w : World) (hNe : N = ts.length) (hN : N ≤ 300) (hS : TSrc w ao ts) (hY : ∀ k, k < N → 0 ≤ (ts.getD k zt).1 ∧ (ts.getD k zt).1 ≤ 255) :
    Calls Try.prog 6 #[.slice ao N cap] w fun e w' => e = .returned (.bool true) ∧ Below w.heap.size w w' := by
  by_cases hr : refN ts = 0
  · exact counts_walk_ok ts ao N cap w hNe hN hS hr hY
  · refine counts_walk_bad ts ao N cap w hNe hN hS ?_
    revert hr
    unfold refN
    split
    · rw [if_neg (by omega)]; intro h; exact absurd rfl h
    · intro _; rfl
end Go.Proofs.Ytofmoggejfopiaa
