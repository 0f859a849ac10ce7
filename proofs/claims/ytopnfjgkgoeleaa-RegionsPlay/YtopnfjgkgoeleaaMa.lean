/- regions: marked. -/
import Derived.Test.YtopnfjgkgoeleaaOv
namespace Go.Proofs.Ytopnfjgkgoeleaa
open Go.RowKit
set_option linter.unusedVariables false
set_option linter.unusedSimpArgs false
theorem Try.isz92 : (Try.prog.info? 92).map (·.size) = some 17 := by kernel_rfl
theorem mkA_one (m : Int → Bool) : (mkA m).all (·.oneCell') = true := by simp [mkA, Value.oneCell']
theorem mload {w : World} {g : Nat} {m : Int → Bool} (s : St 92 w g (mkA m)) : (loadVar 92 ⟨g, 0, none⟩).run Try.prog w = .ok (.agg (mkA m)) w :=
  run_loadVar_row w g 92 92 _ (0, 0) _ s Try.underlying92 rfl (by rw [Try.isz92]; rfl)
theorem wpList_load_m {ops : Array Oper} {rest : List Oper} {o : Oper} {a : Act} {w : World} {Q : Exit → Act → World → Prop} (hgd : o.guard = none) (x : Operand) (ho : o.op = .load 92 x) (g : Nat) (hx : a.eval x = .pointer (some ⟨g, 0, none⟩)) {m : Int → Bool} (s : St 92 w g (mkA m))
    (hk : wpList Try.prog ops Q rest (a.put o.dst (.agg (mkA m))) w) : wpList Try.prog ops Q (o :: rest) a w := wpList_plain hgd fun _ hK => wp_load_row 92 x ho g hx 92 (mkA m) (0, 0) _ s Try.underlying92 rfl (by rw [Try.isz92]; rfl) (hK _ _ hk)
theorem wpList_store_m {ops : Array Oper} {rest : List Oper} {o : Oper} {a : Act} {w : World} {Q : Exit → Act → World → Prop} (hgd : o.guard = none) (x y : Operand) (ho : o.op = .store 92 x y) (g : Nat) (hx : a.eval x = .pointer (some ⟨g, 0, none⟩)) {m m' : Int → Bool} (hy : a.eval y = .agg (mkA m')) (s : St 92 w g (mkA m))
    (hk : ∀ w', St 92 w' g (mkA m') → Kp (fun i => i = g) w w' → wpList Try.prog ops Q rest (a.put o.dst undef) w') : wpList Try.prog ops Q (o :: rest) a w :=
  wpList_store_row hgd 92 x y ho g (mkA m') hx hy 92 (mkA m) s (by rw [Try.isz92]; rfl) rfl (mkA_one m') (hk _ (setRow_heap w g _ _ 92 _ s) (kp_setRow w g _))
def mz : Int → Bool := fun _ => false
def mset (m : Int → Bool) (k : Int) : Int → Bool := fun j => m j || (j == k)
theorem mkA_set (m : Int → Bool) (k : Nat) (hk : k < 17) : (mkA m).set! k (.bool true) = mkA (mset m (k : Int)) := by
  unfold mkA mset
  rcases k with _ | _ | _ | _ | _ | _ | _ | _ | _ | _ | _ | _ | _ | _ | _ | _ | _ | k <;> first | (exfalso; omega) | simp
/-- The marks of kinds. -/
def mks (K : List Int) : Int → Bool := fun j => K.contains j
theorem mks_nil : mks [] = mz := by funext j; simp [mks, mz]
theorem mset_mks (K : List Int) (k : Int) : mset (mks K) k = mks (K ++ [k]) := by
  funext j
  simp only [mset, mks, List.contains_append, List.contains_cons, List.contains_nil, Bool.or_false]
def allK (K : List Int) : Bool := K.all mkb
/-- What marked leaves. -/
def MkR (K : List Int) (w : World) (e : Ending) (w' : World) : Prop := e = .returned (.tuple #[.agg (mkA (if allK K = true then mks K else mz)), .bool (allK K)]) ∧ Below w.heap.size w w'
structure MaI (q : Nat) (m : Int → Bool) (w W : World) : Prop where
  rz : St 92 W q (mkA mz)
  mk1 : St 92 W (q + 1) (mkA m)
  bl : Below q w W
set_option maxRecDepth 100000 in
set_option maxHeartbeats 4000000 in
theorem marked_any (K : List Int) (ao : Option Addr) (n c : Nat) (w : World) (hn : n = K.length) (hc : n ≤ c) (hn2 : n ≤ 1000000) (hS : Src .i64 w ao K) : Calls Try.prog 44 #[.slice ao n c] w (MkR K w) := by
  have HN := hid hn
  have HS := hid hS
  clear hn hS
  obtain ⟨q, hq⟩ : ∃ q, q = w.heap.size := ⟨_, rfl⟩
  have I0 : Hid (MaI q mz w ((w.alloc (.cells (mkA mz) 92)).alloc (.cells (mkA mz) 92))) := by
    have s1 : St 92 (w.alloc (.cells (mkA mz) 92)) q (mkA mz) := by rw [hq]; exact St.new 92 w _
    have z1 : (w.alloc (.cells (mkA mz) 92)).heap.size = q + 1 := by rw [World.size_alloc, hq]
    have s2 := St.new 92 (w.alloc (.cells (mkA mz) 92)) (mkA mz)
    rw [z1] at s2
    exact ⟨s1.kp (F := fun _ => False) ((Kp.refl _ _).alloc _) (fun x => x), s2, by rw [hq]; exact ((Below.refl _ _).alloc (Nat.le_refl _) _).alloc (by rw [World.size_alloc]; omega) _⟩
  have HQ := hid hq
  go_enter Try.func44, Try.ntmps44
  generalize hC : Code.region 2 _ _ = C9
  go_wp2_with fail
  subst hC
  rw [← hq]
  clear hq
  change Code.wp _ _ _ _ ((w.alloc (.cells (mkA mz) 92)).alloc (.cells (mkA mz) 92))
  generalize (w.alloc (.cells (mkA mz) 92)).alloc (.cells (mkA mz) 92) = W0 at I0 ⊢
  go_wp2_with fail
  go_loopw [9] (fun i wr => ∃ j : Nat, j ≤ n ∧ i = .int .i64 (j : Int) ∧ Hid (MaI q (mks (K.take j)) w wr) ∧ Hid (allK (K.take j) = true)) (fun i _ => n - (intOf i).toNat)
  case atStart => exact ⟨0, Nat.zero_le _, rfl, by rw [List.take_zero, mks_nil]; exact I0, rfl⟩
  case round =>
    clear I0
    obtain ⟨j, hj, rfl, HI, HJ⟩ := hrel
    by_cases hjn : j < n
    · have hjl : j < K.length := by have := HN.out; omega
      have HT : Hid (K.take (j + 1) = K.take j ++ [K.getD j 0]) := by
        show _ = _
        rw [List.take_add_one]
        simp [List.getD, List.getElem?_eq_getElem hjl]
      obtain ⟨gb, off, rfl, x0⟩ : ∃ b off, ao = some ⟨b, off, none⟩ ∧ wr.cell? ⟨b, off + j, none⟩ = some (.int .i64 (K.getD j 0)) := by
        obtain ⟨b, off, e, h⟩ := (HS.out.kp0 (Kp.of_below (by rw [← HQ.out]; exact HI.out.bl))) (by omega)
        exact ⟨b, off, e, h j hjl⟩
      have HKM : Hid (K.getD j 0 ∈ K) := by
        show _ ∈ _
        simp [List.getD, List.getElem?_eq_getElem hjl]
      generalize K.getD j 0 = kv at *
      cases hmk : mkb kv with
      | false =>
        have HA : Hid (allK K = false) := by
          show _ = _
          unfold allK
          rw [List.all_eq_false]
          exact ⟨kv, HKM.out, by simp [hmk]⟩
        go_wp2_with (first | (go_at_call 58; refine (mayKind_any _ _).mono ?_; rw [hmk]; rintro e w9 ⟨rfl, rfl⟩) | (refine wpList_store_m rfl _ _ rfl _ rfl (m' := mz) rfl HI.out.rz ?_; intro w3 s3 k3))
        refine bodyPost_ret (results_cell_tmp2 Try.results44 _ _ _ rfl rfl (mload s3)) rfl ?_
        refine ⟨by rw [HA.out]; rfl, ?_⟩
        rw [← HQ.out]
        exact HI.out.bl.trans (k3.below (Nat.le_of_lt HI.out.rz.lt) (fun i e => by omega))
      | true =>
        obtain ⟨kk, rfl⟩ : ∃ kk : Nat, kv = (kk : Int) := ⟨kv.toNat, by unfold mkb at hmk; simp at hmk; omega⟩
        have hk17 : kk < 17 := by unfold mkb at hmk; simp at hmk; omega
        have ym := HI.out.mk1.cell kk
        rw [mkA_get _ kk hk17] at ym
        have yf := HI.out.mk1.frozen kk
        have HNX : Hid (MaI q (mks (K.take (j + 1))) w (wr.setCell ⟨q + 1, kk, none⟩ (.bool true))) := by
          have s := HI.out.mk1.set kk (.bool true)
          rw [mkA_set _ kk hk17, mset_mks, ← HT.out] at s
          have k := kp_setCell wr (q + 1) kk (.bool true) (fun i => i = q + 1) rfl
          exact ⟨HI.out.rz.kp k (by omega), s, HI.out.bl.trans (k.below (Nat.le_of_lt HI.out.rz.lt) (fun i e => by omega))⟩
        have HJN : Hid (allK (K.take (j + 1)) = true) := by
          rw [HT.out]
          show _ = _
          unfold allK
          rw [List.all_append]
          have := HJ.out
          unfold allK at this
          simp [this, hmk]
        have HMK := hid hmk
        go_wp2_with (first | (go_at_call 58; refine (mayKind_any _ _).mono ?_; rw [HMK.out]; rintro e w9 ⟨rfl, rfl⟩))
        go_roundw
        case rel => exact ⟨j + 1, by omega, by go_num, HNX, HJN⟩
        case measure => simp [intOf]; omega
    · obtain rfl : j = n := by omega
      have HA : Hid (K.take j = K) := List.take_of_length_le (by have := HN.out; omega)
      rw [HA.out] at HI HJ
      go_wp2_with (first | (refine wpList_load_m rfl _ rfl _ rfl HI.out.mk1 ?_) | (refine wpList_store_m rfl _ _ rfl _ rfl (m' := mks K) rfl HI.out.rz ?_; intro w3 s3 k3))
      refine bodyPost_ret (results_cell_tmp2 Try.results44 _ _ _ rfl rfl (mload s3)) rfl ?_
      refine ⟨by rw [HJ.out]; rfl, ?_⟩
      rw [← HQ.out]
      exact HI.out.bl.trans (k3.below (Nat.le_of_lt HI.out.rz.lt) (fun i e => by omega))
end Go.Proofs.Ytopnfjgkgoeleaa
