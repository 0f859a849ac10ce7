/- Same, of stores whose files read the same and have no pieces. -/
import Derived.Test.YtalicohflfildaaSs
namespace Go.Proofs.Ytalicohflfildaa
open Go.RowKit

set_option maxRecDepth 100000 in
set_option maxHeartbeats 4000000 in
theorem same_any (D : Nat → Prop) (w : World) (g fm g' fm' : Nat) (fv fv' : Value) (st st' : Nat) (fs fs' : List Fe) (ft ft' : List (Int × Int)) (es es' : List (ByteArray × Value × Nat)) (c c' : Nat) (hs : Sr D w g fm fv st fs ft es c) (hs' : Sr D w g' fm' fv' st' fs' ft' es' c') (ht : Tw fs fs') :
    Calls Try.prog 16 #[.pointer (some ⟨g, 0, none⟩), .pointer (some ⟨g', 0, none⟩)] w fun e w' => e = .returned (.bool true) ∧ Kp (fun _ => False) w w' := by
  have c0 : w.cell? ⟨g, 0, none⟩ = some (.map (some fm)) := hs.st.cell 0
  have d0 : w.cell? ⟨g', 0, none⟩ = some (.map (some fm')) := hs'.st.cell 0
  have hl1 := run_len_mp (P := Try.prog) (T := 52) Try.underlying52 (kp_mp (F := fun _ => False) hs.mp (Kp.refl _ _).drew (fun h => h))
  have hl2 := run_len_mp (P := Try.prog) (T := 52) Try.underlying52 (kp_mp (F := fun _ => False) hs'.mp (Kp.refl _ _).drew (fun h => h))
  have e1 : es.length = fs.length := by have := congrArg List.length hs.keys.1; simpa using this
  have e2 : es'.length = fs.length := by have := congrArg List.length hs'.keys.1; rw [ht.1]; simpa using this
  have hrg := run_range_mp (P := Try.prog) Try.underlying52 hs.mp
  have HS : Hid (Sr D w g fm fv st fs ft es c) := hs
  have HS' : Hid (Sr D w g' fm' fv' st' fs' ft' es' c') := hs'
  have HT : Hid (Tw fs fs') := ht
  have HE1 : Hid (es.length = fs.length) := e1
  rw [e1] at hl1
  rw [e2] at hl2
  clear hs hs' ht e1 e2
  have hu := none_live g fm w c0
  have hv := none_live g' fm' w d0
  go_enter Try.func16, Try.ntmps16
  go_wp2_with fail
  refine hu.mono ?_
  rintro e w' ⟨rfl, h⟩
  replace h := h.symm
  subst h
  go_wp2_with fail
  refine hv.mono ?_
  rintro e w' ⟨rfl, h⟩
  replace h := h.symm
  subst h
  clear hu hv
  go_wp2_with fail
  have hmix : Try.prog.follows .mixedOrders = true := by kernel_rfl
  refine wp_region_G (fun w' => w'.cell? ⟨g, 0, none⟩ = some (.map (some fm)) ∧ w'.cell? ⟨g', 0, none⟩ = some (.map (some fm')) ∧ (∀ ty, (Builtin.len_ #[52] ty #[.map (some fm)]).run Try.prog w' = .ok (.int .i64 fs.length) w') ∧ ∀ ty, (Builtin.len_ #[52] ty #[.map (some fm')]).run Try.prog w' = .ok (.int .i64 fs.length) w') [] hmix ⟨c0, d0, hl1, hl2⟩ (fun h0 => ?_)
  refine wpAnyG_takeW (i := 0) (oi := { dst := some 20, op := Op.move (Operand.tmp 0), type := 28, pos := "crash.go:54", after := #[], guard := none }) (v := .pointer (some ⟨g, 0, none⟩)) rfl (by kernel_rfl) (fun _ _ _ h => h) (Or.inl ⟨by rfl, fun w _ => by go_simp⟩) ?_
  simp only [Act.put, List.setIfInBounds_toArray, List.set_cons_zero, List.set_cons_succ]
  refine wpAnyG_takeW (i := 1) (oi := { dst := some 21, op := Op.nilCheck (Operand.tmp 20), type := 0, pos := "crash.go:54", after := #[{ on := 0, ground := Ground.data }], guard := none }) (v := .pointer (some ⟨g, 0, none⟩)) rfl (by kernel_rfl) (fun _ _ _ h => h) (Or.inl ⟨by rfl, fun w _ => by go_simp⟩) ?_
  simp only [Act.put, List.setIfInBounds_toArray, List.set_cons_zero, List.set_cons_succ]
  refine wpAnyG_takeW (i := 2) (oi := { dst := some 22, op := Op.fieldAddr 54 (Operand.tmp 21) 0, type := 0, pos := "crash.go:54", after := #[{ on := 1, ground := Ground.data }], guard := none }) (v := .pointer (some ⟨g, 0, none⟩)) rfl (by kernel_rfl) (fun _ _ _ h => h) (Or.inl ⟨by rfl, fun w _ => by go_simp⟩) ?_
  simp only [Act.put, List.setIfInBounds_toArray, List.set_cons_zero, List.set_cons_succ]
  refine wpAnyG_take (i := 3) (oi := { dst := some 23, op := Op.load 52 (Operand.tmp 22), type := 52, pos := "crash.go:54", after := #[{ on := 2, ground := Ground.data }], guard := none }) (v := .map (some fm)) rfl (by kernel_rfl) (fun _ _ _ h => h) (Or.inl ⟨by rfl, fun w hSw => by (try dsimp only at hSw); go_simp⟩) h0 ?_
  simp only [Act.put, List.setIfInBounds_toArray, List.set_cons_zero, List.set_cons_succ]
  refine wpAnyG_take (i := 4) (oi := { dst := some 24, op := Op.call { callee := Callee.builtin Builtin.len, args := #[Operand.tmp 23], argTypes := #[52] }, type := 3, pos := "crash.go:54", after := #[{ on := 3, ground := Ground.data }], guard := none }) (v := .int .i64 fs.length) rfl (by kernel_rfl) (fun _ _ _ h => h) (Or.inl ⟨by rfl, fun w hSw => by (try dsimp only at hSw); go_simp⟩) h0 ?_
  simp only [Act.put, List.setIfInBounds_toArray, List.set_cons_zero, List.set_cons_succ]
  refine wpAnyG_takeW (i := 5) (oi := { dst := some 25, op := Op.move (Operand.tmp 1), type := 28, pos := "crash.go:54", after := #[], guard := none }) (v := .pointer (some ⟨g', 0, none⟩)) rfl (by kernel_rfl) (fun _ _ _ h => h) (Or.inl ⟨by rfl, fun w _ => by go_simp⟩) ?_
  simp only [Act.put, List.setIfInBounds_toArray, List.set_cons_zero, List.set_cons_succ]
  refine wpAnyG_takeW (i := 6) (oi := { dst := some 26, op := Op.nilCheck (Operand.tmp 25), type := 0, pos := "crash.go:54", after := #[{ on := 5, ground := Ground.data }], guard := none }) (v := .pointer (some ⟨g', 0, none⟩)) rfl (by kernel_rfl) (fun _ _ _ h => h) (Or.inl ⟨by rfl, fun w _ => by go_simp⟩) ?_
  simp only [Act.put, List.setIfInBounds_toArray, List.set_cons_zero, List.set_cons_succ]
  refine wpAnyG_takeW (i := 7) (oi := { dst := some 27, op := Op.fieldAddr 54 (Operand.tmp 26) 0, type := 0, pos := "crash.go:54", after := #[{ on := 6, ground := Ground.data }], guard := none }) (v := .pointer (some ⟨g', 0, none⟩)) rfl (by kernel_rfl) (fun _ _ _ h => h) (Or.inl ⟨by rfl, fun w _ => by go_simp⟩) ?_
  simp only [Act.put, List.setIfInBounds_toArray, List.set_cons_zero, List.set_cons_succ]
  refine wpAnyG_take (i := 8) (oi := { dst := some 28, op := Op.load 52 (Operand.tmp 27), type := 52, pos := "crash.go:54", after := #[{ on := 7, ground := Ground.data }], guard := none }) (v := .map (some fm')) rfl (by kernel_rfl) (fun _ _ _ h => h) (Or.inl ⟨by rfl, fun w hSw => by (try dsimp only at hSw); go_simp⟩) h0 ?_
  simp only [Act.put, List.setIfInBounds_toArray, List.set_cons_zero, List.set_cons_succ]
  refine wpAnyG_take (i := 9) (oi := { dst := some 29, op := Op.call { callee := Callee.builtin Builtin.len, args := #[Operand.tmp 28], argTypes := #[52] }, type := 3, pos := "crash.go:54", after := #[{ on := 8, ground := Ground.data }, { on := 4, ground := Ground.chain }], guard := none }) (v := .int .i64 fs.length) rfl (by kernel_rfl) (fun _ _ _ h => h) (Or.inl ⟨by rfl, fun w hSw => by (try dsimp only at hSw); go_simp⟩) h0 ?_
  simp only [Act.put, List.setIfInBounds_toArray, List.set_cons_zero, List.set_cons_succ]
  refine wpAnyG_takeW (i := 10) (oi := { dst := some 30, op := Op.binOp BinOp.neq 3 (Operand.tmp 24) (Operand.tmp 29) 3, type := 4, pos := "crash.go:54", after := #[{ on := 4, ground := Ground.data }, { on := 9, ground := Ground.data }], guard := none }) (v := .bool false) rfl (by kernel_rfl) (fun _ _ _ h => h) (Or.inl ⟨by rfl, fun w _ => by go_simp⟩) ?_
  simp only [Act.put, List.setIfInBounds_toArray, List.set_cons_zero, List.set_cons_succ]
  refine wpAnyG_done (by kernel_rfl) ?_ _
  have hrg2 := run_range_mp (P := Try.prog) Try.underlying52 (kp_mp (F := fun _ => False) HS.out.mp (Kp.refl _ _).drew (fun h => h))
  have c0' : w.drew.cell? ⟨g, 0, none⟩ = some (.map (some fm)) := c0
  clear hl1 hl2 hrg d0 h0
  generalize hWd : w.drew = wd at hrg2 c0' ⊢
  have KD : Hid (Kp (fun _ => False) w wd) := by rw [← hWd]; exact Kp.drew (Kp.refl _ _)
  have HZD : Hid (w.heap.size = wd.heap.size) := by rw [← hWd]; rfl
  clear hWd
  go_wp2_with fail
  have H0 : Hid (Mi (wd.alloc (.mapIter (some fm) c #[] c)) wd.heap.size fm c es []) := mi_new wd fm c es
  have K0 : Hid (Kp (fun _ => False) w (wd.alloc (.mapIter (some fm) c #[] c))) := KD.out.alloc _
  clear hrg2 c0 c0'
  generalize hr : wd.heap.size = r at H0 ⊢
  generalize wd.alloc (.mapIter (some fm) c #[] c) = W at H0 K0 ⊢
  have HR : Hid (w.heap.size = r) := by show _ = _; rw [HZD.out]; exact hr
  clear hr
  go_loopw [5, 6, 7] (fun _ _ _ wr => ∃ ds, Mi wr r fm c es ds ∧ Kp (fun _ => False) w wr) (fun _ _ _ wr => es.length - itn wr r)
  case atStart => exact ⟨[], H0.out, K0.out⟩
  case round =>
    clear H0 K0
    obtain ⟨ds, hmi, hkp⟩ := hrel
    have hS := HS.out.kp hkp (fun _ _ h => h) (fun _ _ h => h)
    have hrm : r ≠ fm := by have := HS.out.mp.lt; have := HR.out; omega
    have hkk := HS.out.keys
    have hle := hmi.le
    have hin := hmi.itn
    rcases hmi.next (P := Try.prog) hS.mp hrm 0 with ⟨hp, hrun⟩ | ⟨e, w2, he, hne, hrun, hmi2, hk2, hent⟩
    · have HKP : Hid (Kp (fun _ => False) w wr) := hkp
      clear hS hkk hmi hin hkp
      go_wp2
      go_ret
      exact ⟨rfl, HKP.out⟩
    · obtain ⟨f, hf, he1, he2⟩ := hS.ent he
      have hk3 : Kp (fun _ => False) w w2 := hkp.trans hk2 (fun i hi h => by have := HR.out; omega)
      have hS2 := HS.out.kp hk3 (fun _ _ h => h) (fun _ _ h => h)
      have hS2' := HS'.out.kp hk3 (fun _ _ h => h) (fun _ _ h => h)
      obtain ⟨hps, f', hf', hff⟩ := HT.out.2 f hf
      have d0 : w2.cell? ⟨g', 0, none⟩ = some (.map (some fm')) := hS2'.st.cell 0
      have hfr := hS2.fr f hf
      have hfr' := hS2'.fr f' (fget_mem hf')
      rw [hff] at hfr'
      rw [hps] at hfr hfr'
      rw [he2] at hrun hent
      rw [he1] at hrun hent
      unfold fptr at hrun hent
      have hmg : (mget es' f.1).getD (.pointer none) = .pointer (some ⟨f'.2.1.fb, 0, none⟩) := by rw [mget_fs hS2'.ef, hf']; rfl
      have hin2 := hmi2.itn
      rw [List.length_append, List.length_singleton] at hin2
      have hle2 := hmi2.le
      rw [List.length_append, List.length_singleton] at hle2
      have HM2 : Hid (Mi w2 r fm c es (ds ++ [e])) := hmi2
      have HK3 : Hid (Kp (fun _ => False) w w2) := hk3
      have HIN : Hid (itn wr r = ds.length) := hin
      have HIN2 : Hid (itn w2 r = ds.length + 1) := hin2
      have HMP : Hid (Mp Value.string w2 fm' es' c') := hS2'.mp
      have HMG : Hid ((mget es' f.1).getD (.pointer none) = .pointer (some ⟨f'.2.1.fb, 0, none⟩)) := hmg
      have HFS : Hid (Calls Try.prog 40 #[.pointer (some ⟨f.2.1.fb, 0, none⟩), .pointer (some ⟨f'.2.1.fb, 0, none⟩)] w2 fun e w' => e = .returned (.bool true) ∧ Kp (fun _ => False) w2 w') := fsame_any D w2 f.2.1 f'.2.1 _ _ hfr hfr'
      have HRS : Hid (w.heap.size = r) := HR.out
      clear hin hin2 hmi2 hk3 hk2 hkp hmi hS hkk he1 he2 hS2 hS2' hps hff hfr hfr' hmg
      have hrf : r < w2.heap.size := HM2.out.lt
      generalize f.2.1.fb = fb at *
      generalize f'.2.1.fb = fb' at *
      generalize f.1 = nm at *
      go_wp2_with (first | (at_lookup; refine wpList_lookup_mp rfl _ _ rfl ky9 Try.underlying52 (.pointer none) (Try.zeroValue65 _) fm' c' es' rfl HMP.out nm rfl (.pointer (some ⟨fb', 0, none⟩)) HMG.out ?_) | (go_at_call 40; refine HFS.out.mono ?_; rintro e4 w4 ⟨rfl, k4⟩; have K4 : Hid (Kp (fun _ => False) w2 w4) := k4; clear k4))
      have hm4 : Mi w4 r fm c es (ds ++ [e]) := HM2.out.kp K4.out (fun h => h)
      have hi4 := hm4.itn
      rw [List.length_append, List.length_singleton] at hi4
      exact ⟨⟨ds ++ [e], hm4, HK3.out.trans K4.out (fun _ _ h => h)⟩, by rw [HIN.out, hi4]; omega⟩
end Go.Proofs.Ytalicohflfildaa
