/- sectors: within and same, of sectors that read the same. -/
import Derived.Test.YtalicohflfildaaEq
import Derived.Test.YtalicohflfildaaPn
namespace Go.Proofs.Ytalicohflfildaa
open Go.RowKit

def zs512 : List Int := List.replicate 512 0
def ca512 : Array Value := (zs512.map (Value.int .u8)).toArray
theorem run_zero_of {P : Program} {t : TypeId} {v : Value} (h : (P.info? t).bind (·.zero) = some v) (w : World) : (zeroValue t).run P w = .ok v w := by
  cases hi : P.info? t with
  | none => rw [hi] at h; cases h
  | some i =>
    rw [hi] at h
    have h2 : i.zero = some v := h
    simp [zeroValue, typeInfo, hi, h2, go_sem]
theorem zero138 (w : World) : (zeroValue 138).run Try.prog w = .ok (.agg ca512) w := run_zero_of (by kernel_rfl) w
theorem Bs.src {D : Nat → Prop} {w : World} {v : Value} {xs : List Int} (h : Bs D w v xs) : ∃ g off cap, v = .slice (some ⟨g, off, none⟩) xs.length cap ∧ Src .u8 w (some ⟨g, off, none⟩) xs := by
  obtain ⟨g, off, cap, rfl, hg, hl, h1, h2, hc⟩ := h
  exact ⟨g, off, cap, rfl, fun _ => ⟨g, off, rfl, hc⟩⟩
set_option maxRecDepth 100000 in
set_option maxHeartbeats 2000000 in
theorem within_any (D : Nat → Prop) (w : World) (m m' : Nat) (L : Nat → Int) (es es' : List (Int × Value × Nat)) (c c' : Nat) (h : Sm D w m L zero es c) (h' : Sm D w m' L zero es' c') :
    Calls Try.prog 73 #[.map (some m), .map (some m')] w fun e w' => e = .returned (.bool true) ∧ Kp (fun _ => False) w w' := by
  have z138 := zero138
  have k0 : Kp (fun _ => False) w (w.alloc (.cells ca512 138)) := (Kp.refl _ _).alloc _
  have hrg := run_range_mp (P := Try.prog) Try.underlying67 (kp_mp h.mp k0 (fun h => h))
  have hrw : Rw .u8 138 (w.alloc (.cells ca512 138)) w.heap.size zs512 := heap_alloc_new w _
  have hsz : (w.alloc (.cells ca512 138)).heap.size = w.heap.size + 1 := World.size_alloc _ _
  have HH : Hid (Sm D w m L zero es c) := h
  have HH' : Hid (Sm D w m' L zero es' c') := h'
  have hml := h.mp.lt
  have hml' := h'.mp.lt
  have HK0 : Hid (Kp (fun _ => False) w (w.alloc (.cells ca512 138))) := k0
  have HRW : Hid (Rw .u8 138 (w.alloc (.cells ca512 138)) w.heap.size zs512) := hrw
  have HSZ : Hid ((w.alloc (.cells ca512 138)).heap.size = w.heap.size + 1) := hsz
  clear h h' k0 hrw hsz
  go_enter Try.func73, Try.ntmps73
  go_wp2_with fail
  have H0 : Hid (Mi ((w.alloc (.cells ca512 138)).alloc (.mapIter (some m) c #[] c)) (w.heap.size + 1) m c es []) := by
    have := mi_new (w.alloc (.cells ca512 138)) m c es
    rw [HSZ.out] at this
    exact this
  have K0 : Hid (Kp (fun _ => False) w ((w.alloc (.cells ca512 138)).alloc (.mapIter (some m) c #[] c))) := HK0.out.alloc _
  have R0 : Hid (Rw .u8 138 ((w.alloc (.cells ca512 138)).alloc (.mapIter (some m) c #[] c)) w.heap.size zs512) := HRW.out.kp (F := fun _ => False) ((Kp.refl _ _).alloc _) (fun h => h)
  have Z0 : Hid (((w.alloc (.cells ca512 138)).alloc (.mapIter (some m) c #[] c)).heap.size = w.heap.size + 2) := by show _ = _; rw [World.size_alloc, HSZ.out]
  clear hrg HRW HK0 z138
  generalize (w.alloc (.cells ca512 138)).alloc (.mapIter (some m) c #[] c) = W at H0 K0 R0 Z0 ⊢
  have HR : Hid (w.heap.size = w.heap.size ∧ W.heap.size = w.heap.size + 2) := ⟨rfl, Z0.out⟩
  go_loopw [6, 7, 8] (fun _ _ _ wr => ∃ ds, Mi wr (w.heap.size + 1) m c es ds ∧ Kp (fun _ => False) w wr ∧ Rw .u8 138 wr w.heap.size zs512) (fun _ _ _ wr => es.length - itn wr (w.heap.size + 1))
  case atStart => exact ⟨[], H0.out, K0.out, R0.out⟩
  case round =>
    clear H0 K0 R0 Z0
    obtain ⟨ds, hmi, hkp, hrw⟩ := hrel
    have hS := HH.out.kp hkp (fun h => h) (fun _ _ h => h)
    have hrm : w.heap.size + 1 ≠ m := by omega
    have hle := hmi.le
    have hin := hmi.itn
    rcases hmi.next (P := Try.prog) hS.mp hrm 0 with ⟨hp, hrun⟩ | ⟨e, w2, he, hne, hrun, hmi2, hk2, hent⟩
    · have HKP : Hid (Kp (fun _ => False) w wr) := hkp
      clear hS hmi hin hkp hrw
      go_wp2
      go_ret
      exact ⟨rfl, HKP.out⟩
    · have hk3 : Kp (fun _ => False) w w2 := hkp.trans hk2 (fun i hi h => by omega)
      have hrw2 : Rw .u8 138 w2 w.heap.size zs512 := hrw.kp hk2 (fun h => by omega)
      have hsm := HH.out.kp hk3 (fun h => h) (fun _ _ h => h)
      have hsm' := HH'.out.kp hk3 (fun h => h) (fun _ _ h => h)
      obtain ⟨kk, hkk, hkb⟩ := hsm.ks e he
      have hge := mget_mem hsm.mp.2.1 he
      rw [hkk] at hge hrun hent
      obtain ⟨g1, o1, c1, hu, hs1⟩ := (hsm.so kk _ hge).src
      rw [sec_len] at hu
      rw [hu] at hrun hent
      have hin2 := hmi2.itn
      rw [List.length_append, List.length_singleton] at hin2
      have hle2 := hmi2.le
      rw [List.length_append, List.length_singleton] at hle2
      have HM2 : Hid (Mi w2 (w.heap.size + 1) m c es (ds ++ [e])) := hmi2
      have HK3 : Hid (Kp (fun _ => False) w w2) := hk3
      have HR2 : Hid (Rw .u8 138 w2 w.heap.size zs512) := hrw2
      have HIN : Hid (itn wr (w.heap.size + 1) = ds.length) := hin
      have HIN2 : Hid (itn w2 (w.heap.size + 1) = ds.length + 1) := hin2
      have HS1 : Hid (Src .u8 w2 (some ⟨g1, o1, none⟩) (sec L kk)) := hs1
      have HMP : Hid (Mp (Value.int .i64) w2 m' es' c') := hsm'.mp
      cases hq : mget es' (kk : Int) with
      | none =>
        have hz : Src .u8 w2 (some ⟨w.heap.size, 0, none⟩) (sec L kk) := by
          rw [hsm'.no kk hq, sec_zero]
          exact hrw2.src
        have HZ : Hid (Src .u8 w2 (some ⟨w.heap.size, 0, none⟩) (sec L kk)) := hz
        have he0 : ∀ w : World, (binOp .eql 36 (.slice none 0 0) (.slice none 0 0)).run Try.prog w = .ok (.bool true) w := fun _ => rfl
        have HQ : Hid ((mget es' (kk : Int)).getD (.slice none 0 0) = .slice none 0 0) := by show _ = _; rw [hq]; rfl
        clear hin hin2 hmi2 hk3 hk2 hkp hmi hS hsm hsm' hge hu hs1 hz hrw hrw2 he hne hkk hq
        go_wp2_with (first | (at_lookup; refine wpList_lookup_mp rfl _ _ rfl (ky_int Try.underlying2) Try.underlying67 (.slice none 0 0) (Try.zeroValue36 _) m' c' es' rfl HMP.out (kk : Int) rfl (.slice none 0 0) HQ.out ?_) | (go_at_call 74; refine (equal_true _ _ 512 _ _ (sec L kk) w2 HS1.out HZ.out (sec_len _ _)).mono ?_; rintro e w' ⟨rfl, h⟩; replace h := h.symm; subst h))
        exact ⟨⟨ds ++ [e], HM2.out, HK3.out, HR2.out⟩, by rw [HIN.out, HIN2.out]; omega⟩
      | some u' =>
        obtain ⟨g2, o2, c2, hu2, hs2⟩ := (hsm'.so kk _ hq).src
        rw [sec_len] at hu2
        have HQ : Hid ((mget es' (kk : Int)).getD (.slice none 0 0) = .slice (some ⟨g2, o2, none⟩) 512 c2) := by show _ = _; rw [hq, hu2]; rfl
        have he0 : ∀ w : World, (binOp .eql 36 (.slice (some ⟨g2, o2, none⟩) 512 c2) (.slice none 0 0)).run Try.prog w = .ok (.bool false) w := fun _ => rfl
        have HS2 : Hid (Src .u8 w2 (some ⟨g2, o2, none⟩) (sec L kk)) := hs2
        clear hin hin2 hmi2 hk3 hk2 hkp hmi hS hsm hsm' hge hu hs1 hrw hrw2 he hne hkk hq hs2 hu2
        go_wp2_with (first | (at_lookup; refine wpList_lookup_mp rfl _ _ rfl (ky_int Try.underlying2) Try.underlying67 (.slice none 0 0) (Try.zeroValue36 _) m' c' es' rfl HMP.out (kk : Int) rfl (.slice (some ⟨g2, o2, none⟩) 512 c2) HQ.out ?_) | (go_at_call 74; refine (equal_true _ _ 512 _ _ (sec L kk) w2 HS1.out HS2.out (sec_len _ _)).mono ?_; rintro e w' ⟨rfl, h⟩; replace h := h.symm; subst h))
        exact ⟨⟨ds ++ [e], HM2.out, HK3.out, HR2.out⟩, by rw [HIN.out, HIN2.out]; omega⟩
end Go.Proofs.Ytalicohflfildaa
