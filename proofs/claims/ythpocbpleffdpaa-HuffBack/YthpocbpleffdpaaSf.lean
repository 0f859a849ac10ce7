/- HuffLeast: the law's walk, case by case. -/
import Derived.Test.YthpocbpleffdpaaXfX
namespace Go.Proofs.Ythpocbpleffdpaa
open Go.RowKit
set_option linter.unusedVariables false
set_option linter.unusedSimpArgs false
set_option maxRecDepth 100000

theorem bytes_le4 {b n : Nat} (hb : b ≤ 4) (hn : n ≤ 35184372088832) : n * b ≤ 140737488355328 := by
  have : n * b ≤ 35184372088832 * 4 := Nat.mul_le_mul hn hb
  omega
theorem run_append_r4 {P : Program} {κ : IntKind} {ε : TypeId} (w : World) (base : Nat) (t ty : TypeId) (i : TypeInfo) (ht : P.underlying t = some (.slice ε)) (hi : P.info? ε = some i) (hz : i.zero = some (.int κ 0)) (hsize : i.size = 1) (hby : i.bytes ≤ 4)
    (v : Value) (xs : List Int) (hown : OwnI κ ε w base v xs) (ao : Option Addr) (c : Nat) (news : List Int) (hn : ao = none → c = 0) (hsrc : Src κ w ao news)
    (hb : xs.length + news.length ≤ 35184372088832) (hbase : base ≤ w.heap.size) :
    ∃ v' w', (Builtin.append_ #[t, t] ty #[v, .slice ao news.length c]).run P w = .ok v' w' ∧ OwnI κ ε w' base v' (xs ++ news) ∧ w.grownBy w' v.ownBlock ∧ ∀ b, v'.ownBlock = some b → v.ownBlock = some b ∨ w.heap.size ≤ b := by
  have hsz : (P.info? ε).map (·.size) = some 1 := by rw [hi]; simp [hsize]
  cases ao with
  | none =>
    have hz0 : news.length = 0 := by
      by_cases h0 : 0 < news.length
      · obtain ⟨b, off, e, _⟩ := hsrc h0; cases e
      · omega
    obtain rfl : news = [] := List.eq_nil_of_length_eq_zero hz0
    obtain rfl : c = 0 := hn rfl
    refine ⟨v, w, ?_, by simpa using hown, grown_refl _ _, fun b hb => .inl hb⟩
    rcases hown with ⟨rfl, rfl⟩ | ⟨g, cap, tl, rfl, hbg, hr, h3, h4⟩
    · simp [Builtin.append_, run_underlying ht, sizeOf, typeInfo, hi, Builtin.lenOf, Builtin.firstCells]
    · have : xs.length ≤ cap := by rw [← h3]; simp
      simp [Builtin.append_, run_underlying ht, sizeOf, typeInfo, hi, Builtin.lenOf, Builtin.firstCells, this, storeCells]
  | some ad =>
    have hnews : ∀ j u, (news.map (Value.int κ))[j]? = some u → w.cell? (ad.add j) = some u := srcs (by
      intro j hj
      obtain ⟨b, off, e, hc⟩ := hsrc (by omega)
      cases e
      rw [add_o]
      exact hc j hj)
    rcases hown with ⟨rfl, rfl⟩ | ⟨g, cap, tl, rfl, hbg, hr, h3, h4⟩
    · by_cases hm : news.length = 0
      · obtain rfl : news = [] := List.eq_nil_of_length_eq_zero hm
        refine ⟨.slice none 0 0, w, ?_, OwnI.nil _ _ _ _, grown_refl _ _, fun b hb => by simp [Value.ownBlock] at hb⟩
        simp [Builtin.append_, run_underlying ht, sizeOf, typeInfo, hi, Builtin.lenOf, Builtin.firstCells, loadCells, loadCellsFrom]
      · have hr := run_append_nil (P := P) w t ty ε i (.int κ 0) ht hi hz ad news.length c (news.map (Value.int κ)) (by simp [hsize]) hnews (by omega) (by omega) (Nat.le_trans (bytes_le4 hby (by simp at hb; omega)) (by decide))
        have hge := grownCap_ge w news.length 0 ε
        refine ⟨_, _, hr, .inr ⟨w.heap.size, grownCap w news.length 0 ε, List.replicate (grownCap w news.length 0 ε - news.length) 0, by simp, hbase, ?_, by simp; omega, grownCap_le_maxLen w news.length 0 ε (by unfold maxLen; simp at hb; omega)⟩, ⟨rfl, rfl, rfl, by simp, fun k hk _ => Below.heap_alloc w.drew _ k hk⟩, fun b hb => .inr (by simp [Value.ownBlock] at hb; omega)⟩
        show (w.drew.alloc _).heap[w.heap.size]? = _
        rw [show w.heap.size = w.drew.heap.size from rfl, heap_alloc_new, show (Value.int κ 0).cells = #[.int κ 0] from rfl, arr_rest]
        rfl
    · by_cases hroom : xs.length + news.length ≤ cap
      · have hfit : xs.length * i.size + (news.map (Value.int κ)).length ≤ ((xs ++ tl).map (Value.int κ)).toArray.size := by simp [hsize]; simp at h3; omega
        have hrun := run_append_room (P := P) w t ty ε i ht hi g xs.length cap _ hr ad news.length c (news.map (Value.int κ)) (by simp [hsize]) hnews (ones _ _) hroom hfit
        refine ⟨_, _, hrun, .inr ⟨g, cap, tl.drop news.length, by simp, hbg, ?_, by simp at h3 ⊢; omega, h4⟩, ⟨rfl, rfl, rfl, by simp, fun k _ hk => setRow_other w g k _ (fun e => hk (by simp [Value.ownBlock, e]))⟩, fun b hb => .inl (by simpa [Value.ownBlock] using hb)⟩
        unfold Rw
        rw [setRow_heap w g _ _ ε _ hr]
        congr 2
        simp [hsize, List.drop_append]
      · have holds : ∀ j u, (xs.map (Value.int κ))[j]? = some u → w.cell? ((⟨g, 0, none⟩ : Addr).add j) = some u := srcs (by
          intro j hj
          rw [add_z, hr.cell j (by simp; omega)]
          simp [List.getD, List.getElem?_append_left hj])
        have hrun := run_append_grow (P := P) w t ty ε i (.int κ 0) ht hi hz ⟨g, 0, none⟩ xs.length cap (xs.map (Value.int κ)) (by simp [hsize]) holds ad news.length c (news.map (Value.int κ)) (by simp [hsize]) hnews (by omega) (by omega) (growslice_fits (by omega) (bytes_le4 hby (by omega)))
        have hge := grownCap_ge w (xs.length + news.length) cap ε
        refine ⟨_, _, hrun, .inr ⟨w.heap.size, grownCap w (xs.length + news.length) cap ε, List.replicate (grownCap w (xs.length + news.length) cap ε - (xs.length + news.length)) 0, by simp, hbase, ?_, by simp; omega, grownCap_le_maxLen w _ cap ε (by unfold maxLen; omega)⟩, ⟨rfl, rfl, rfl, by simp, fun k hk _ => Below.heap_alloc w.drew _ k hk⟩, fun b hb => .inr (by simp [Value.ownBlock] at hb; omega)⟩
        show (w.drew.alloc _).heap[w.heap.size]? = _
        rw [show w.heap.size = w.drew.heap.size from rfl, heap_alloc_new, show (Value.int κ 0).cells = #[.int κ 0] from rfl, show (List.map (Value.int κ) xs).toArray ++ (List.map (Value.int κ) news).toArray = (List.map (Value.int κ) (xs ++ news)).toArray from by simp, arr_rest]


/-- append onto a row of one's own that is known whole, as one step. -/
theorem wpList_append_4 {P : Program} {κ : IntKind} {w : World} {ops : Array Oper} {rest : List Oper} {o : Oper} {a : Act} {Q : Exit → Act → World → Prop} (T ε : TypeId) (bytes : Nat) (hT : P.underlying T = some (.slice ε)) (hinfo : (P.info? ε).map (fun i => (i.zero, i.size, i.bytes)) = some (some (.int κ 0), 1, bytes)) (hb4 : bytes ≤ 4) (hgd : o.guard = none) (s x : Operand)
    (ho : o.op = .call { callee := .builtin .append, args := #[s, x], argTypes := #[T, T] })
    (base : Nat) (v : Value) (xs : List Int) (hs : a.eval s = v) (hown : OwnI κ ε w base v xs)
    (ao : Option Addr) (m c : Nat) (news : List Int) (hx : a.eval x = .slice ao m c) (hl : news.length = m) (hn : ao = none → c = 0) (hsrc : Src κ w ao news)
    (hb : xs.length + news.length ≤ 35184372088832) (hbase : base ≤ w.heap.size)
    (h : ∀ v' w', OwnI κ ε w' base v' (xs ++ news) → w.grownBy w' v.ownBlock → (∀ b, v'.ownBlock = some b → v.ownBlock = some b ∨ w.heap.size ≤ b) → Below base w w' → wpList P ops Q rest (a.put o.dst v') w') : wpList P ops Q (o :: rest) a w := by
  obtain ⟨i0, hi, hz0, hz1, hz2⟩ := info_parts hinfo
  subst hl
  have hlt := hown.lt
  refine wpList_plain hgd fun K hK => ?_
  obtain ⟨v', w', hrun, h1, h2, h3⟩ := run_append_r4 (P := P) w base T o.type i0 hT hi hz0 hz1 (by omega) v xs hown ao c news hn hsrc hb hbase
  unfold Oper.wp execOp
  simp only [ho, resolve, invoke, builtin, Sem.run_bind, Sem.run_pure, Result.andThen_ok, List.map_toArray, List.map_cons, List.map_nil, hs, hx, hrun]
  exact hK _ _ (h v' w' h1 h2 h3 (below_of_grown h2 _ hbase fun q hq => (hlt q hq).1))


theorem info38 : (Try.prog.info? 38).map (fun i => (i.zero, i.size, i.bytes)) = some (some (.int .u32 0), 1, 4) := by kernel_rfl

set_option maxHeartbeats 8000000 in
theorem law4_low (w : World) (mz : Int) (hm : mz < 1) (ao : Option Addr) (cap : Nat) (zs : List Int) (hl : zs.length ≤ 35184372088000) (hs : Src .u32 w ao zs) (hnil : ao = none → cap = 0) :
    Calls Try.prog 4 #[.int .i64 mz, .slice ao zs.length cap] w fun e w' => e = .returned (.bool true) ∧ Kp (fun _ => False) w w' := by
  have HL : Hid (∀ (U : World) (a : Option Addr) (c : Nat), Src .u32 U a zs → Calls Try.prog 18 #[.int .i64 mz, .slice a zs.length c] U fun e w' => e = .returned (.tuple #[.slice none 0 0, .int .i64 2]) ∧ Kp (fun _ => False) U w') := fun U a c h => lengths_low U mz hm a c _
  have HNU := hid num_any
  have HWK := hid works_any
  have T1 : Hid (([] : List Int).length + zs.length ≤ 35184372088832) := by show _ ≤ _; simp; omega
  have T2 : Hid (([] ++ zs : List Int).length + ([7] : List Int).length ≤ 35184372088832) := by show _ ≤ _; simp; omega
  have HNIL : Hid (ao = none → cap = 0) := hnil
  have hsrc0 : Src .u32 (w.alloc (.cells #[] 38)) ao zs := hs.below ((Below.refl _ _).alloc (Nat.le_refl _) _)
  have HS := hid hs
  clear hnil hs
  go_enter Try.func4, Try.ntmps4
  go_wp2_with (first
    | (at_builtin; refine wpList_append_4 37 38 4 Try.underlying37 info38 (by decide) rfl (.tmp 9) (.tmp 10) rfl w.heap.size (.slice (some ⟨w.heap.size, 0, none⟩) 0 0) [] rfl (own_empty .u32 38 w) _ _ _ zs rfl rfl HNIL.out hsrc0 T1.out (by simp) ?_; intro v1 w1 o1 q1 n1 b1)
    | (at_builtin; refine wpList_append_4 37 38 4 Try.underlying37 info38 (by decide) rfl (.tmp 11) (.tmp 12) rfl w.heap.size v1 ([] ++ zs) rfl (o1.alloc _) _ _ _ [7] rfl rfl (fun e => by cases e) (row_src (tl := []) (Rw.new .u32 38 w1 [7])) T2.out (by have := b1.size; simp at this ⊢; omega) ?_; intro v2 w2 o2 q2 n2 b2; obtain ⟨G, c, tl, rfl, hG, hrow, hc1, hc2⟩ := own_form2 o2; have k2 : Below w.heap.size w w2 := (((Below.refl w.heap.size w).alloc (Nat.le_refl _) _).trans b1).alloc (by have := b1.size; simp at this ⊢; omega) _ |>.trans b2; have HR := hid hrow; have HK := hid (Kp.of_below (F := fun _ => False) k2); clear q1 n1 b1 q2 n2 b2 o1 o2 hrow k2 hsrc0)
    | (go_at_call 18; refine (HL.out w2 (some ⟨G, 0, none⟩) c (row_src HR.out)).mono ?_; rintro _ w3 ⟨rfl, k3⟩; have K3 := hid k3; clear k3))
  have HR3 : Hid (Rw .u32 38 w3 G (zs ++ (7 :: tl))) := HR.out.kp K3.out (fun h => h)
  have HK3 := hid (HK.out.trans K3.out (fun _ _ h => h))
  have hcc := hc1
  clear HR HK HNIL T1 T2 hG hc2 HL
  go_loopw [8] (fun iv wr => ∃ j : Nat, j ≤ zs.length ∧ iv = .int .i64 j ∧ Hid (Kp (fun _ => False) w3 wr)) (fun i _ => zs.length - (intOf i).toNat)
  case atStart => exact ⟨0, Nat.zero_le _, rfl, Kp.refl _ _⟩
  case round =>
    obtain ⟨j, hj, rfl, HB⟩ := hrel
    by_cases hjl : j < zs.length
    · obtain ⟨b', off', rfl, hc'⟩ := (HS.out.kp (HK3.out.trans HB.out (fun _ _ h => h)) (fun _ _ _ h => h)) (by omega)
      have e1 := (HR3.out.kp HB.out (fun h => h)).cell j (by simp; omega)
      have e2 := hc' j hjl
      have e3 : (zs ++ (7 :: tl)).getD j 0 = zs.getD j 0 := by simp [List.getD, List.getElem?_append_left hjl]
      rw [e3] at e1
      generalize zs.getD j 0 = z at e1 e2
      clear hc' e3
      go_wp2_with fail
      go_quiet (fail)
      go_wp2_with fail
      go_roundw
      case rel => exact ⟨j + 1, by omega, by go_num, HB.out.trans (drewN_kp _ _ _) (fun _ _ h => h)⟩
      case measure => simp [intOf]; omega
    · obtain rfl : j = zs.length := by omega
      have c7 : wr.cell? ⟨G, zs.length, none⟩ = some (.int .u32 7) := by
        rw [(HR3.out.kp HB.out (fun h => h)).cell zs.length (by simp)]
        simp [List.getD]
      have HKW := hid (HK3.out.trans HB.out (fun _ _ h => h))
      go_wp2_with (first
        | (go_at_call 13; refine (HNU.out _ _).mono ?_; rintro e w9 ⟨rfl, rfl⟩)
        | (go_at_call 14; refine (HWK.out _).mono ?_; rintro e w5 ⟨rfl, b5⟩))
      go_ret
      exact ⟨rfl, HKW.out.trans (Kp.of_below b5) (fun _ _ h => h)⟩

set_option maxHeartbeats 8000000 in
theorem law4_high (w : World) (mz : Int) (hm : 15 < mz) (ao : Option Addr) (cap : Nat) (zs : List Int) (hl : zs.length ≤ 35184372088000) (hs : Src .u32 w ao zs) (hnil : ao = none → cap = 0) :
    Calls Try.prog 4 #[.int .i64 mz, .slice ao zs.length cap] w fun e w' => e = .returned (.bool true) ∧ Kp (fun _ => False) w w' := by
  have HL : Hid (∀ (U : World) (a : Option Addr) (c : Nat), Src .u32 U a zs → Calls Try.prog 18 #[.int .i64 mz, .slice a zs.length c] U fun e w' => e = .returned (.tuple #[.slice none 0 0, .int .i64 2]) ∧ Kp (fun _ => False) U w') := fun U a c h => lengths_high U mz hm a c _
  have HNU := hid num_any
  have HWK := hid works_any
  have T1 : Hid (([] : List Int).length + zs.length ≤ 35184372088832) := by show _ ≤ _; simp; omega
  have T2 : Hid (([] ++ zs : List Int).length + ([7] : List Int).length ≤ 35184372088832) := by show _ ≤ _; simp; omega
  have HNIL : Hid (ao = none → cap = 0) := hnil
  have hsrc0 : Src .u32 (w.alloc (.cells #[] 38)) ao zs := hs.below ((Below.refl _ _).alloc (Nat.le_refl _) _)
  have HS := hid hs
  clear hnil hs
  go_enter Try.func4, Try.ntmps4
  go_wp2_with (first
    | (at_builtin; refine wpList_append_4 37 38 4 Try.underlying37 info38 (by decide) rfl (.tmp 9) (.tmp 10) rfl w.heap.size (.slice (some ⟨w.heap.size, 0, none⟩) 0 0) [] rfl (own_empty .u32 38 w) _ _ _ zs rfl rfl HNIL.out hsrc0 T1.out (by simp) ?_; intro v1 w1 o1 q1 n1 b1)
    | (at_builtin; refine wpList_append_4 37 38 4 Try.underlying37 info38 (by decide) rfl (.tmp 11) (.tmp 12) rfl w.heap.size v1 ([] ++ zs) rfl (o1.alloc _) _ _ _ [7] rfl rfl (fun e => by cases e) (row_src (tl := []) (Rw.new .u32 38 w1 [7])) T2.out (by have := b1.size; simp at this ⊢; omega) ?_; intro v2 w2 o2 q2 n2 b2; obtain ⟨G, c, tl, rfl, hG, hrow, hc1, hc2⟩ := own_form2 o2; have k2 : Below w.heap.size w w2 := (((Below.refl w.heap.size w).alloc (Nat.le_refl _) _).trans b1).alloc (by have := b1.size; simp at this ⊢; omega) _ |>.trans b2; have HR := hid hrow; have HK := hid (Kp.of_below (F := fun _ => False) k2); clear q1 n1 b1 q2 n2 b2 o1 o2 hrow k2 hsrc0)
    | (go_at_call 18; refine (HL.out w2 (some ⟨G, 0, none⟩) c (row_src HR.out)).mono ?_; rintro _ w3 ⟨rfl, k3⟩; have K3 := hid k3; clear k3))
  have HR3 : Hid (Rw .u32 38 w3 G (zs ++ (7 :: tl))) := HR.out.kp K3.out (fun h => h)
  have HK3 := hid (HK.out.trans K3.out (fun _ _ h => h))
  have hcc := hc1
  clear HR HK HNIL T1 T2 hG hc2 HL
  go_loopw [8] (fun iv wr => ∃ j : Nat, j ≤ zs.length ∧ iv = .int .i64 j ∧ Hid (Kp (fun _ => False) w3 wr)) (fun i _ => zs.length - (intOf i).toNat)
  case atStart => exact ⟨0, Nat.zero_le _, rfl, Kp.refl _ _⟩
  case round =>
    obtain ⟨j, hj, rfl, HB⟩ := hrel
    by_cases hjl : j < zs.length
    · obtain ⟨b', off', rfl, hc'⟩ := (HS.out.kp (HK3.out.trans HB.out (fun _ _ h => h)) (fun _ _ _ h => h)) (by omega)
      have e1 := (HR3.out.kp HB.out (fun h => h)).cell j (by simp; omega)
      have e2 := hc' j hjl
      have e3 : (zs ++ (7 :: tl)).getD j 0 = zs.getD j 0 := by simp [List.getD, List.getElem?_append_left hjl]
      rw [e3] at e1
      generalize zs.getD j 0 = z at e1 e2
      clear hc' e3
      go_wp2_with fail
      go_quiet (fail)
      go_wp2_with fail
      go_roundw
      case rel => exact ⟨j + 1, by omega, by go_num, HB.out.trans (drewN_kp _ _ _) (fun _ _ h => h)⟩
      case measure => simp [intOf]; omega
    · obtain rfl : j = zs.length := by omega
      have c7 : wr.cell? ⟨G, zs.length, none⟩ = some (.int .u32 7) := by
        rw [(HR3.out.kp HB.out (fun h => h)).cell zs.length (by simp)]
        simp [List.getD]
      have HKW := hid (HK3.out.trans HB.out (fun _ _ h => h))
      go_wp2_with (first
        | (go_at_call 13; refine (HNU.out _ _).mono ?_; rintro e w9 ⟨rfl, rfl⟩)
        | (go_at_call 14; refine (HWK.out _).mono ?_; rintro e w5 ⟨rfl, b5⟩))
      go_ret
      exact ⟨rfl, HKW.out.trans (Kp.of_below b5) (fun _ _ h => h)⟩

set_option maxHeartbeats 8000000 in
theorem law4_long (w : World) (mz : Int) (h1 : 1 ≤ mz) (h2 : mz ≤ 15) (ao : Option Addr) (cap : Nat) (zs : List Int) (hl : zs.length ≤ 35184372088000) (hg : 320 < zs.length) (hs : Src .u32 w ao zs) (hnil : ao = none → cap = 0) :
    Calls Try.prog 4 #[.int .i64 mz, .slice ao zs.length cap] w fun e w' => e = .returned (.bool true) ∧ Kp (fun _ => False) w w' := by
  have HL : Hid (∀ (U : World) (a : Option Addr) (c : Nat), Src .u32 U a zs → Calls Try.prog 18 #[.int .i64 mz, .slice a zs.length c] U fun e w' => e = .returned (.tuple #[.slice none 0 0, .int .i64 3]) ∧ Kp (fun _ => False) U w') := fun U a c h => lengths_long U mz h1 h2 a c _ hg (by omega)
  have HNU := hid num_any
  have HWK := hid works_any
  have T1 : Hid (([] : List Int).length + zs.length ≤ 35184372088832) := by show _ ≤ _; simp; omega
  have T2 : Hid (([] ++ zs : List Int).length + ([7] : List Int).length ≤ 35184372088832) := by show _ ≤ _; simp; omega
  have HNIL : Hid (ao = none → cap = 0) := hnil
  have hsrc0 : Src .u32 (w.alloc (.cells #[] 38)) ao zs := hs.below ((Below.refl _ _).alloc (Nat.le_refl _) _)
  have HS := hid hs
  clear hnil hs
  go_enter Try.func4, Try.ntmps4
  go_wp2_with (first
    | (at_builtin; refine wpList_append_4 37 38 4 Try.underlying37 info38 (by decide) rfl (.tmp 9) (.tmp 10) rfl w.heap.size (.slice (some ⟨w.heap.size, 0, none⟩) 0 0) [] rfl (own_empty .u32 38 w) _ _ _ zs rfl rfl HNIL.out hsrc0 T1.out (by simp) ?_; intro v1 w1 o1 q1 n1 b1)
    | (at_builtin; refine wpList_append_4 37 38 4 Try.underlying37 info38 (by decide) rfl (.tmp 11) (.tmp 12) rfl w.heap.size v1 ([] ++ zs) rfl (o1.alloc _) _ _ _ [7] rfl rfl (fun e => by cases e) (row_src (tl := []) (Rw.new .u32 38 w1 [7])) T2.out (by have := b1.size; simp at this ⊢; omega) ?_; intro v2 w2 o2 q2 n2 b2; obtain ⟨G, c, tl, rfl, hG, hrow, hc1, hc2⟩ := own_form2 o2; have k2 : Below w.heap.size w w2 := (((Below.refl w.heap.size w).alloc (Nat.le_refl _) _).trans b1).alloc (by have := b1.size; simp at this ⊢; omega) _ |>.trans b2; have HR := hid hrow; have HK := hid (Kp.of_below (F := fun _ => False) k2); clear q1 n1 b1 q2 n2 b2 o1 o2 hrow k2 hsrc0)
    | (go_at_call 18; refine (HL.out w2 (some ⟨G, 0, none⟩) c (row_src HR.out)).mono ?_; rintro _ w3 ⟨rfl, k3⟩; have K3 := hid k3; clear k3))
  have HR3 : Hid (Rw .u32 38 w3 G (zs ++ (7 :: tl))) := HR.out.kp K3.out (fun h => h)
  have HK3 := hid (HK.out.trans K3.out (fun _ _ h => h))
  have hcc := hc1
  clear HR HK HNIL T1 T2 hG hc2 HL
  go_loopw [8] (fun iv wr => ∃ j : Nat, j ≤ zs.length ∧ iv = .int .i64 j ∧ Hid (Kp (fun _ => False) w3 wr)) (fun i _ => zs.length - (intOf i).toNat)
  case atStart => exact ⟨0, Nat.zero_le _, rfl, Kp.refl _ _⟩
  case round =>
    obtain ⟨j, hj, rfl, HB⟩ := hrel
    by_cases hjl : j < zs.length
    · obtain ⟨b', off', rfl, hc'⟩ := (HS.out.kp (HK3.out.trans HB.out (fun _ _ h => h)) (fun _ _ _ h => h)) (by omega)
      have e1 := (HR3.out.kp HB.out (fun h => h)).cell j (by simp; omega)
      have e2 := hc' j hjl
      have e3 : (zs ++ (7 :: tl)).getD j 0 = zs.getD j 0 := by simp [List.getD, List.getElem?_append_left hjl]
      rw [e3] at e1
      generalize zs.getD j 0 = z at e1 e2
      clear hc' e3
      go_wp2_with fail
      go_quiet (fail)
      go_wp2_with fail
      go_roundw
      case rel => exact ⟨j + 1, by omega, by go_num, HB.out.trans (drewN_kp _ _ _) (fun _ _ h => h)⟩
      case measure => simp [intOf]; omega
    · obtain rfl : j = zs.length := by omega
      have c7 : wr.cell? ⟨G, zs.length, none⟩ = some (.int .u32 7) := by
        rw [(HR3.out.kp HB.out (fun h => h)).cell zs.length (by simp)]
        simp [List.getD]
      have HKW := hid (HK3.out.trans HB.out (fun _ _ h => h))
      go_wp2_with (first
        | (go_at_call 13; refine (HNU.out _ _).mono ?_; rintro e w9 ⟨rfl, rfl⟩)
        | (go_at_call 14; refine (HWK.out _).mono ?_; rintro e w5 ⟨rfl, b5⟩))
      go_ret
      exact ⟨rfl, HKW.out.trans (Kp.of_below b5) (fun _ _ h => h)⟩
end Go.Proofs.Ythpocbpleffdpaa
