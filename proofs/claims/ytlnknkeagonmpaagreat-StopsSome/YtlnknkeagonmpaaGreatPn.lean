/- Pending. -/
import Derived.Test.YtlnknkeagonmpaaGreatMr
import Derived.Test.YtlnknkeagonmpaaGreatFi
import Derived.Test.YtlnknkeagonmpaaGreatWr
namespace Go.Proofs.YtlnknkeagonmpaaGreat
open Go.RowKit

theorem nodup_len {α : Type} : ∀ (l m : List α), l.Nodup → (∀ x ∈ l, x ∈ m) → l.length ≤ m.length
  | [], _, _, _ => Nat.zero_le _
  | x :: l, m, hn, hs => by
    obtain ⟨m1, m2, rfl⟩ := List.append_of_mem (hs x (by simp))
    have h := nodup_len l (m1 ++ m2) (List.nodup_cons.1 hn).2 (fun y hy => by
      have := hs y (List.mem_cons_of_mem _ hy)
      rcases List.mem_append.1 this with h | h
      · exact List.mem_append.2 (.inl h)
      · rcases List.mem_cons.1 h with h | h
        · exact absurd (h ▸ hy) (List.nodup_cons.1 hn).1
        · exact List.mem_append.2 (.inr h))
    simp at h ⊢
    omega
/-- How many an iterator has handed out. -/
def itn (w : World) (r : Nat) : Nat := match w.heap[r]? with
  | some (.mapIter _ _ seen _) => seen.size
  | _ => 0
theorem Mi.itn {κ : Type} {w : World} {r bm c : Nat} {es ds : List (κ × Value × Nat)} (h : Mi w r bm c es ds) : itn w r = ds.length := by
  obtain ⟨s, h1, h2⟩ := h.it
  unfold YtlnknkeagonmpaaGreat.itn
  rw [h1]
  have := congrArg List.length h2
  simpa using this
theorem Mi.le {κ : Type} {w : World} {r bm c : Nat} {es ds : List (κ × Value × Nat)} (h : Mi w r bm c es ds) : ds.length ≤ es.length := nodup_len ds es h.nd h.sub
def plen (fs : List Fe) (s : ByteArray) : Nat := match fget fs s with
  | some f => f.2.2.ps.length
  | none => 0
def pnd (fs : List Fe) : Nat := (fs.map (fun f => f.2.2.ps.length)).sum
theorem fget_self {fs : List Fe} (hn : (fs.map (·.1)).Nodup) {f : Fe} (hf : f ∈ fs) : fget fs f.1 = some f := by
  induction fs with
  | nil => cases hf
  | cons x fs ih =>
    simp only [List.map_cons, List.nodup_cons] at hn
    unfold fget
    rcases List.mem_cons.1 hf with h | h
    · rw [if_pos (by rw [h]), h]
    · rw [if_neg (fun e => hn.1 (by rw [← e]; exact List.mem_map.2 ⟨f, h, rfl⟩)), ih hn.2 h]
theorem Sr.keys {D : Nat → Prop} {w : World} {g fm : Nat} {fv : Value} {steps : Nat} {fs : List Fe} {ft : List (Int × Int)} {es : List (ByteArray × Value × Nat)} {c : Nat} (h : Sr D w g fm fv steps fs ft es c) : es.map (·.1) = fs.map (·.1) ∧ (fs.map (·.1)).Nodup := by
  have h1 : es.map (·.1) = fs.map (·.1) := by
    have := congrArg (List.map (·.1)) h.ef
    simpa [List.map_map, Function.comp_def] using this
  exact ⟨h1, h1 ▸ h.mp.2.1⟩
theorem Sr.ent {D : Nat → Prop} {w : World} {g fm : Nat} {fv : Value} {steps : Nat} {fs : List Fe} {ft : List (Int × Int)} {es : List (ByteArray × Value × Nat)} {c : Nat} (h : Sr D w g fm fv steps fs ft es c) {e : ByteArray × Value × Nat} (he : e ∈ es) : ∃ f ∈ fs, e.1 = f.1 ∧ e.2.1 = fptr f := by
  have : (e.1, e.2.1) ∈ es.map (fun e => (e.1, e.2.1)) := List.mem_map.2 ⟨e, he, rfl⟩
  rw [h.ef] at this
  obtain ⟨f, hf, h2⟩ := List.mem_map.1 this
  simp only [Prod.mk.injEq] at h2
  exact ⟨f, hf, h2.1.symm, h2.2.symm⟩
def sumk (fs : List Fe) (ds : List (ByteArray × Value × Nat)) : Nat := (ds.map (fun e => plen fs e.1)).sum
theorem sumk_snoc (fs : List Fe) (ds : List (ByteArray × Value × Nat)) (e : ByteArray × Value × Nat) : sumk fs (ds ++ [e]) = sumk fs ds + plen fs e.1 := by simp [sumk]
theorem sumk_all {fs : List Fe} {ds es : List (ByteArray × Value × Nat)} (hp : ds.Perm es) (hk : es.map (·.1) = fs.map (·.1)) (hn : (fs.map (·.1)).Nodup) : sumk fs ds = pnd fs := by
  unfold sumk pnd
  rw [(hp.map _).sum_nat]
  rw [show (fun e : ByteArray × Value × Nat => plen fs e.1) = plen fs ∘ (·.1) from rfl, ← List.map_map, hk, List.map_map]
  congr 1
  refine List.map_congr_left (fun f hf => ?_)
  simp only [Function.comp, plen]
  rw [fget_self hn hf]
theorem sumk_le {fs : List Fe} {ds : List (ByteArray × Value × Nat)} {B : Nat} (h : ∀ f ∈ fs, f.2.2.ps.length ≤ B) : sumk fs ds ≤ ds.length * B := by
  induction ds with
  | nil => simp [sumk]
  | cons e ds ih =>
    have h1 : plen fs e.1 ≤ B := by
      unfold plen
      cases hq : fget fs e.1 with
      | none => exact Nat.zero_le _
      | some f => exact h f (fget_mem hq)
    have : sumk fs (e :: ds) = plen fs e.1 + sumk fs ds := by simp [sumk]
    rw [this, List.length_cons, Nat.add_mul]
    omega
set_option maxRecDepth 100000 in
set_option maxHeartbeats 2000000 in
theorem pending_any (D : Nat → Prop) (w : World) (g fm : Nat) (fv : Value) (steps : Nat) (fs : List Fe) (ft : List (Int × Int)) (es : List (ByteArray × Value × Nat)) (c : Nat) (hs : Sr D w g fm fv steps fs ft es c) :
    Calls Tryz.prog 43 #[.pointer (some ⟨g, 0, none⟩)] w fun e w' => e = .returned (.int .i64 (pnd fs)) ∧ Kp (fun _ => False) w w' := by
  have c0 : w.cell? ⟨g, 0, none⟩ = some (.map (some fm)) := hs.st.cell 0
  have hrg := run_range_mp (P := Tryz.prog) Tryz.underlying55 hs.mp
  have HS : Hid (Sr D w g fm fv steps fs ft es c) := hs
  clear hs
  go_enter Tryz.func43, Tryz.ntmps43
  go_wp2_with (first | (go_at_call 57; refine (none_live _ _ _ c0).mono ?_; rintro e w' ⟨rfl, h⟩; replace h := h.symm; subst h))
  have H0 : Hid (Mi (w.alloc (.mapIter (some fm) c #[] c)) w.heap.size fm c es []) := mi_new w fm c es
  have K0 : Hid (Kp (fun _ => False) w (w.alloc (.mapIter (some fm) c #[] c))) := (Kp.refl _ _).alloc _
  clear hrg c0
  generalize hr : w.heap.size = r at H0 ⊢
  generalize w.alloc (.mapIter (some fm) c #[] c) = W at H0 K0 ⊢
  have HR : Hid (w.heap.size = r) := hr
  clear hr
  go_loopw [3, 5] (fun nv _ wr => ∃ ds, nv = .int .i64 ((sumk fs ds : Nat) : Int) ∧ Mi wr r fm c es ds ∧ Kp (fun _ => False) w wr) (fun _ _ wr => es.length - itn wr r)
  case atStart => exact ⟨[], rfl, H0.out, K0.out⟩
  case round =>
    clear H0 K0
    obtain ⟨ds, rfl, hmi, hkp⟩ := hrel
    have hS := HS.out.kp hkp (fun _ _ h => h) (fun _ _ h => h)
    have hrm : r ≠ fm := by have := HS.out.mp.lt; have := HR.out; omega
    have hkk := HS.out.keys
    have hle := hmi.le
    have hel : es.length ≤ 256 := by
      have := congrArg List.length hkk.1
      have := HS.out.nf
      simp at *; omega
    have hsl : sumk fs ds ≤ 256 * 1000000000 := Nat.le_trans (sumk_le (B := 1000000000) (fun f hf => (HS.out.fr f hf).nb)) (Nat.mul_le_mul_right _ (by omega))
    have hin := hmi.itn
    rcases hmi.next (P := Tryz.prog) hS.mp hrm 0 with ⟨hp, hrun⟩ | ⟨e, w2, he, hne, hrun, hmi2, hk2, hent⟩
    · have hx := sumk_all hp hkk.1 hkk.2
      have HX : Hid (sumk fs ds = pnd fs) := hx
      have HKP : Hid (Kp (fun _ => False) w wr) := hkp
      clear hx hS hkk hmi hin hkp
      go_wp2
      go_ret
      rw [HX.out]
      exact ⟨rfl, HKP.out⟩
    · obtain ⟨f, hf, he1, he2⟩ := hS.ent he
      have hk3 : Kp (fun _ => False) w w2 := hkp.trans hk2 (fun i hi h => by have := HR.out; omega)
      have hfr := (HS.out.kp hk3 (fun _ _ h => h) (fun _ _ h => h)).fr f hf
      obtain ⟨vs, hpr⟩ := hfr.pc
      obtain ⟨pao, pcap, hpv⟩ := ownsRow_shape hpr.row
      have d3 : w2.cell? ⟨f.2.1.fb, 3, none⟩ = some (.slice pao f.2.2.ps.length pcap) := by rw [← hpv]; exact hfr.st.cell 3
      rw [he2] at hrun hent
      unfold fptr at hrun hent
      have hpl : plen fs e.1 = f.2.2.ps.length := by unfold plen; rw [he1, fget_self hkk.2 hf]
      have hin2 := hmi2.itn
      rw [List.length_append, List.length_singleton] at hin2
      have hle2 := hmi2.le
      rw [List.length_append, List.length_singleton] at hle2
      have hpb := hfr.nb
      have HSN : Hid (((sumk fs (ds ++ [e]) : Nat) : Int) = (sumk fs ds : Int) + (f.2.2.ps.length : Int)) := by show _ = _; rw [sumk_snoc, hpl]; omega
      have HM2 : Hid (Mi w2 r fm c es (ds ++ [e])) := hmi2
      have HK3 : Hid (Kp (fun _ => False) w w2) := hk3
      have HIN : Hid (itn wr r = ds.length) := hin
      have HIN2 : Hid (itn w2 r = ds.length + 1) := hin2
      clear hin hin2 hmi2 hk3 hk2 hkp hmi hpr hpv hfr hpl hS hkk he1 he2
      generalize f.2.2.ps.length = pl at *
      generalize f.2.1.fb = fb at *
      go_wp2
      exact ⟨⟨ds ++ [e], by rw [HSN.out], HM2.out, HK3.out⟩, by rw [HIN.out, HIN2.out]; omega⟩
end Go.Proofs.YtlnknkeagonmpaaGreat
