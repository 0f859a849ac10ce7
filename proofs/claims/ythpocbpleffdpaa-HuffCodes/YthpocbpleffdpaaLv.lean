/- The leaves: a tree of each symbol that comes at all. -/
import Derived.Test.YthpocbpleffdpaaFo
namespace Go.Proofs.Ythpocbpleffdpaa
open Go.RowKit

/-- The leaves of the first i counts. -/
def lv (zs : List Int) (i : Nat) : List Nd := ((List.range i).filter (fun j => decide (0 < zs.getD j 0))).map (fun j => ((zs.getD j 0).toNat, j, none))
theorem lv_zero (zs : List Int) : lv zs 0 = [] := rfl
theorem lv_yes {zs : List Int} {i : Nat} (h : 0 < zs.getD i 0) : lv zs (i + 1) = lv zs i ++ [((zs.getD i 0).toNat, i, none)] := by
  simp only [lv, List.range_succ, List.filter_append, List.map_append]
  simp only [List.filter_cons, h, decide_true, if_true, List.filter_nil, List.map_cons, List.map_nil]
theorem lv_no {zs : List Int} {i : Nat} (h : ¬ 0 < zs.getD i 0) : lv zs (i + 1) = lv zs i := by
  simp only [lv, List.range_succ, List.filter_append, List.map_append]
  simp only [List.filter_cons, h, decide_false, if_false, List.filter_nil, List.map_nil, List.append_nil, Bool.false_eq_true]
theorem lv_len (zs : List Int) (i : Nat) : (lv zs i).length ≤ i := by
  have := List.length_filter_le (fun j => decide (0 < zs.getD j 0)) (List.range i)
  simpa [lv] using this

/-- What leaves holds while it goes. -/
structure Lvs (w wr : World) (Fb : Nat) (F : List Nd) (bs : List Nat) (zs : List Int) (v : Value) (i : Nat) (L : List Nat) : Prop where
  fo : Fo wr Fb (F ++ lv zs i) (bs ++ L)
  own : wr.ownsRow w.heap.size 116 1 v L.length (L.map ptr)
  kp : Kp (fun k => k = Fb) w wr
theorem Lvs.ne {w wr : World} {Fb : Nat} {F : List Nd} {bs : List Nat} {zs : List Int} {v : Value} {i : Nat} {L : List Nat} (h : Lvs w wr Fb F bs zs v i L) : ∀ g, v.ownBlock = some g → g ≠ Fb ∧ g ∉ bs ++ L := by
  intro g e
  rcases h.own.2 with ⟨rfl, _⟩ | ⟨g', cap, cur, rfl, _, h2, _⟩
  · simp [Value.ownBlock] at e
  · obtain rfl : g' = g := by simpa [Value.ownBlock] using e
    refine ⟨fun e => ?_, fun hm => ?_⟩
    · subst e
      exact apart_types (t := 116) (u := 111) (by decide) h2 h.fo.st
    · obtain ⟨k, hk, e⟩ := h.fo.mem hm
      subst e
      exact apart_types (t := 116) (u := 131) (by decide) h2 (h.fo.nd k hk)
theorem Lvs.more {w wr w1 w2 : World} {Fb : Nat} {F : List Nd} {bs : List Nat} {zs : List Int} {v v2 : Value} {i y : Nat} {L : List Nat} {o : Obj} (h : Lvs w wr Fb F bs zs v i L) (hy : zs.getD i 0 = (y : Int)) (hp : 0 < y) (hy2 : y < 4294967296) (hs : F.length + i + 1 < 4611686018427387904)
    (S1 : St 131 w1 wr.heap.size #[.int .u64 y, .int .i64 ((F ++ lv zs i).length : Nat), .int .i64 i, pto none, pto none]) (F1 : St 111 w1 Fb #[.int .i64 (((F ++ lv zs i).length : Nat) + 1 : Int)]) (K1 : Kp (fun k => k = Fb) wr w1)
    (O2 : w2.ownsRow w.heap.size 116 1 v2 (L.length + 1) (L.map ptr ++ [ptr wr.heap.size])) (K2 : Kp (fun k => v.ownBlock = some k) (w1.alloc o) w2) : Lvs w w2 Fb F bs zs v2 (i + 1) (L ++ [wr.heap.size]) := by
  have hll := lv_len zs i
  have e0 : 0 < zs.getD i 0 := by rw [hy]; omega
  have f1 : Fo w1 Fb ((F ++ lv zs i) ++ [(y, i, none)]) ((bs ++ L) ++ [wr.heap.size]) := h.fo.grow (y, i, none) (by simp; omega) (fun p e => by cases e) (by simp; omega) S1 F1 K1
  have e1 : F ++ lv zs (i + 1) = (F ++ lv zs i) ++ [(y, i, none)] := by rw [lv_yes e0, hy, Int.toNat_natCast, List.append_assoc]
  have K3 : Kp (fun k => v.ownBlock = some k) w1 w2 := (Kp.alloc (Kp.refl _ w1) o).trans K2 (fun _ _ h => h)
  have hlt : ∀ g, v.ownBlock = some g → w.heap.size ≤ g ∧ g < wr.heap.size := fun g e => h.own.lt g e
  refine ⟨?_, by simpa using O2, ?_⟩
  · rw [e1, ← List.append_assoc]
    refine f1.kp K3 (fun e => (h.ne _ e).1 rfl) (fun b hb e => ?_)
    rcases List.mem_append.1 hb with hb | hb
    · exact (h.ne _ e).2 hb
    · have := (hlt _ e).2
      simp at hb
      omega
  · exact (h.kp.trans K1 (fun _ _ h => h)).trans K3 (fun i hi e => by have := (hlt _ e).1; omega)

theorem own_kp {G : Nat → Prop} {w w' : World} {base e n : Nat} {v : Value} {xs : List Value} (h : w.ownsRow base e 1 v n xs) (k : Kp G w w') (hg : ∀ g, v.ownBlock = some g → ¬ G g) : w'.ownsRow base e 1 v n xs := by
  refine ⟨h.1, ?_⟩
  rcases h.2 with h0 | ⟨g, cap, cur, rfl, h1, h2, h3, h4, h5, h6⟩
  · exact .inl h0
  · exact .inr ⟨g, cap, cur, rfl, h1, by rw [k.block g (Array.getElem?_eq_some_iff.1 h2).1 (hg g rfl)]; exact h2, h3, h4, h5, h6⟩
set_option maxHeartbeats 4000000 in
set_option maxRecDepth 100000 in
theorem leaves_any (w : World) (Fb : Nat) (F : List Nd) (bs : List Nat) (ao : Option Addr) (cap : Nat) (zs : List Int) (hl : zs.length ≤ 1000000) (hF : F.length ≤ 1000000000) (hz : ∀ z ∈ zs, 0 ≤ z ∧ z < 4294967296) (hs : Src .u32 w ao zs) (hao : ∀ b off, ao = some ⟨b, off, none⟩ → 0 < zs.length → b ≠ Fb) (hf : Fo w Fb F bs) :
    Calls Try.prog 72 #[ptr Fb, .slice ao zs.length cap] w fun e w' => ∃ v L, e = .returned v ∧ Lvs w w' Fb F bs zs v zs.length L := by
  have HS := hid hs
  have HZ := hid hz
  clear hs hz
  unfold ptr
  go_enter Try.func72, Try.ntmps72
  go_wp2_with fail
  go_loopw [5, 10] (fun v5 iv wr => ∃ (i : Nat) (L : List Nat), iv = .int .i64 i ∧ i ≤ zs.length ∧ Hid (Lvs w wr Fb F bs zs v5 i L)) (fun _ i _ => zs.length - (intOf i).toNat)
  case atStart => exact ⟨0, [], rfl, Nat.zero_le _, by rw [lv_zero, List.append_nil, List.append_nil]; exact hf, World.ownsRow_nil _ _ _ _, Kp.refl _ _⟩
  case round =>
    obtain ⟨i, L, rfl, hi, HH⟩ := hrel
    by_cases hil : i < zs.length
    · obtain ⟨b, off, rfl, hc⟩ := (HS.out.kp HH.out.kp (fun b off e => hao b off e (by omega))) (by omega)
      have c := hc i hil
      have hzi := HZ.out (zs.getD i 0) (by simp [List.getD, hil])
      obtain ⟨y, hy⟩ : ∃ y : Nat, zs.getD i 0 = (y : Int) := ⟨(zs.getD i 0).toNat, by omega⟩
      rw [hy] at c hzi
      have HY := hid hy
      clear hy hc
      by_cases hp : 0 < y
      · have hsm := HH.out.fo.small
        have hbl := HH.out.kp.size
        have HG : Hid (Calls Try.prog 88 #[.pointer (some ⟨Fb, 0, none⟩), .agg #[.int .u64 y, .int .i64 0, .int .i64 i, .pointer none, .pointer none]] wr fun e w' => e = .returned (.pointer (some ⟨wr.heap.size, 0, none⟩)) ∧ St 131 w' wr.heap.size #[.int .u64 y, .int .i64 ((F ++ lv zs i).length : Nat), .int .i64 i, pto none, pto none] ∧ St 111 w' Fb #[.int .i64 (((F ++ lv zs i).length : Nat) + 1 : Int)] ∧ Kp (fun k => k = Fb) wr w') := grown_any wr Fb (F ++ lv zs i).length y i (.int .i64 0) none none HH.out.fo.st hsm ⟨0, rfl⟩
        have hLl : L.length ≤ 1000000 := by
          have h1 := HH.out.fo.len
          have h2 := lv_len zs i
          have h3 := hf.len
          simp at h1
          omega
        clear hsm
        go_wp2_with (first
          | (go_at_call 88; refine HG.out.mono ?_; rintro _ w1 ⟨rfl, S1, F1, K1⟩; have HO := hid (own_kp HH.out.own K1 (fun g e => (HH.out.ne g e).1)); have hz1 := K1.size; have R1 := hid (And.intro S1 (And.intro F1 K1)); clear S1 F1 K1)
          | (at_builtin; refine wpList_append_any rfl (.tmp 17) (.tmp 24) 114 rfl w.heap.size 116 (.pointer none) 1 8 Try.underlying114 Try.info116b rfl (by decide) u5 L.length (L.map ptr) rfl (HO.out.alloc _) (some ⟨w1.heap.size, 0, none⟩) 1 1 [ptr wr.heap.size] (by first | rfl | simp [Act.eval]) (fun h => by cases h) rfl (fun ad e j u hu => by (cases e; rw [add_z]; exact ((St.new 116 w1 #[ptr wr.heap.size]).cell j).trans (by simpa using hu))) (fun u hu => by (simp at hu; subst hu; rfl)) (by unfold maxLen; omega) (by omega) (by simp; omega) ?_; intro v2 w2 O2 K2 _; have HW := hid (HH.out.more HY.out hp (by omega) (by omega) R1.out.1 R1.out.2.1 R1.out.2.2 O2 K2); clear O2 K2))
        exact ⟨⟨i + 1, _, rfl, by omega, HW.out⟩, by simp [intOf]; omega⟩
      · go_wp2_with fail
        exact ⟨⟨i + 1, L, rfl, by omega, by rw [lv_no (by rw [HY.out]; omega)]; exact HH.out.fo, HH.out.own, HH.out.kp⟩, by simp [intOf]; omega⟩
    · obtain rfl : i = zs.length := by omega
      go_wp2_with fail
      go_ret
      exact ⟨_, L, rfl, HH.out⟩
end Go.Proofs.Ythpocbpleffdpaa
