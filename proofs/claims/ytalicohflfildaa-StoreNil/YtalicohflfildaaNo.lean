/- nothing: what is asked of a nil store, or of a zero one. -/
import Derived.Test.YtalicohflfildaaNl
import Derived.Test.YtalicohflfildaaRe
import Derived.Test.YtalicohflfildaaOw
import Derived.RangeFuncNested
namespace Go.Proofs.Ytalicohflfildaa
open Go.RowKit

theorem Nos.kp {w w' : World} {v : Value} (h : Nos w v) (k : Kp (fun _ => False) w w') : Nos w' v := by
  rcases h with h | ⟨g, h1, h2⟩
  · exact .inl h
  · exact .inr ⟨g, h1, kp_cell k h2 (fun h => h)⟩
theorem results_cell1 {P : Program} {fn : Func} {p : Tmp} {ty : TypeId} (h : fn.results = #[.cell p ty]) (tmps : Array Value) (w : World) (b : Nat) {v : Value} (hp : tmps.getD p undef = .pointer (some ⟨b, 0, none⟩)) (hl : (loadVar ty ⟨b, 0, none⟩).run P w = .ok v w) :
    (results fn tmps).run P w = .ok v w := by
  have hp' : tmps[p]?.getD undef = .pointer (some ⟨b, 0, none⟩) := by simpa using hp
  simp [results, h, hp', asAddr, hl]
set_option maxRecDepth 100000 in
set_option maxHeartbeats 1000000 in
theorem pieces_stops0 (F : Fence) (n : Nat) (h35 : F.fn 35) (hro : F.round = none) (Bp : Nat) (w : World) (hc : w.cell? ⟨Bp, 0, none⟩ = some (.slice none 0 0)) :
    SeqStopsK F n Try.prog 35 #[.pointer (some ⟨Bp, 0, none⟩)] (fun _ : Unit => #[undef]) (fun _ _ => True) (fun xs => xs = []) (fun _ => False) 0 w := by
  intro l J Jx W hW _ _ hY h0
  have c0 : W.cell? ⟨Bp, 0, none⟩ = some (.slice none 0 0) := (hW.cell (block_lt_of_cell hc)).trans hc
  clear hY
  refine callsIn_of_wp Try.func35 rfl h35 ?_ hro
  simp only [Try.ntmps35, List.size_toArray, List.length_cons, List.length_nil, Nat.reduceAdd, Nat.reduceSub, Array.replicate_succ, Array.replicate_zero, List.push_toArray, List.append_toArray, List.nil_append, List.cons_append]
  gi_wp2
  gi_loopw [7] (fun i wr => i = .int .i64 0 ∧ wr = W) (fun _ _ => 0)
  case atStart => exact ⟨rfl, rfl⟩
  case round =>
    obtain ⟨rfl, rfl⟩ := hrel
    gi_wp2
    go_end0
    exact ⟨⟨_, rfl⟩, .inl ⟨[], rfl, h0⟩⟩
set_option maxRecDepth 100000 in
set_option maxHeartbeats 4000000 in
theorem nothing_in (v : Value) (s : ByteArray) (n : Int) (ao : Option Addr) (m cap : Nat) (w : World) (h : Nos w v) :
    CallsIn Fence.wide 6 Try.prog 17 #[v, .string s, .int .i64 n, .slice ao m cap] w fun e w' => e = .returned (.bool true) ∧ Kp (fun _ => False) w w' := by
    have k0 : Kp (fun _ => False) w (w.alloc (.cells #[.bool false] 4)) := (Kp.refl _ _).alloc _
    have H0 : Hid (Nos (w.alloc (.cells #[.bool false] 4)) v) := h.kp k0
    have ST0 : Hid (St 4 (w.alloc (.cells #[.bool false] 4)) w.heap.size #[.bool false]) := St.new 4 w _
    have K0 : Hid (Kp (fun _ => False) w (w.alloc (.cells #[.bool false] 4))) := k0
    have hmm := @run_makeMap Try.prog
    clear h k0
    refine callsIn_of_wp_marks Try.func17 rfl trivial ?_ rfl
    simp only [Try.ntmps17, List.size_toArray, List.length_cons, List.length_nil, Nat.reduceAdd, Nat.reduceSub, Array.replicate_succ, Array.replicate_zero, List.push_toArray, List.append_toArray, List.nil_append, List.cons_append]
    gi_wp2_with fail
    generalize w.alloc (.cells #[.bool false] 4) = W0 at H0 ST0 K0 ⊢
    gi_wp2_with fail
    refine ⟨trivial, (callsIn_wide.2 (read_err s v n n 1 _ (file_nos s v _ H0.out) (by decide))).mono ?_⟩
    rintro e w' ⟨rfl, hw'⟩
    replace hw' := hw'.symm
    subst hw'
    gi_wp2_with fail
    refine ⟨trivial, (callsIn_wide.2 (size_err s v 1 _ (file_nos s v _ H0.out) (by decide))).mono ?_⟩
    rintro e w' ⟨rfl, hw'⟩
    replace hw' := hw'.symm
    subst hw'
    gi_wp2_with fail
    refine ⟨trivial, (callsIn_wide.2 (crash_nos v _ _ H0.out)).mono ?_⟩
    rintro e w' ⟨rfl, hw'⟩
    replace hw' := hw'.symm
    subst hw'
    gi_wp2_with fail
    refine ⟨trivial, (callsIn_wide.2 (steps_nos v _ H0.out)).mono ?_⟩
    rintro e w' ⟨rfl, hw'⟩
    replace hw' := hw'.symm
    subst hw'
    gi_wp2_with fail
    refine ⟨trivial, (callsIn_wide.2 (pieces_err s v 1 _ (fun w1 k1 => file_nos s v w1 (H0.out.kp k1)) (by decide))).mono ?_⟩
    rintro e w' ⟨rfl, hw'⟩
    have k1 : Kp (fun _ => False) W0 w' := by rw [hw']; exact (Kp.refl _ _).alloc _
    have sp : St 82 w' W0.heap.size #[.slice none 0 0] := by rw [hw']; exact St.new 82 W0 _
    have hfe : ∀ w, (binOp .eql 40 (.func (.func 35) #[] #[.pointer (some ⟨W0.heap.size, 0, none⟩)]) .nilFunc).run Try.prog w = .ok (.bool false) w := fun _ => rfl
    have H1 : Hid (Nos w' v) := H0.out.kp k1
    have ST1 : Hid (St 4 w' w.heap.size #[.bool false]) := ST0.out.kp k1 (fun h => h)
    have K1 : Hid (Kp (fun _ => False) w w') := K0.out.trans k1 (fun _ _ h => h)
    have SP : Hid (St 82 w' W0.heap.size #[.slice none 0 0]) := sp
    clear hw' k1 sp H0 ST0 K0
    gi_wp2_with fail
    refine wpIn_rangeFunc_ownH rfl (by omega) (gf := 35) (lb := #[.pointer (some ⟨W0.heap.size, 0, none⟩)]) rfl trivial (enters_of Try.func35 (by kernel_rfl) rfl)
      (pieces_stops0 Fence.wide (6 - 1) trivial rfl W0.heap.size w' (SP.out.cell 0)) (fun _ _ => trivial) (fun _ _ _ _ _ _ _ _ => trivial) (Below.refl _ _) (fun _ => rfl)
      (fun _ W => Kp (fun _ => False) w' W) (fun _ _ _ => False)
      (fun pp A B row hs hg hr => hs.trans (turns_own hg hr).kp (fun i hi h => by omega)) (fun cc pp A B row hs hg hr => hs) (Kp.refl _ _) (fun _ _ _ => True) (fun _ _ _ _ _ _ _ _ _ => trivial)
      ?assign (fun l pre x a' W _ _ _ _ hl => absurd hl (Nat.not_lt_zero _)) ?done (fun D c pre W hD hs => hs.elim)
    case assign =>
      intro l pre x W K hi hK
      gi_wp2
      exact hK _ _ (KeepsFrom.refl _ _) trivial hi trivial
    rintro Dd xs W2 hD hxs hkp hKd
    have H2 : Hid (Nos W2 v) := H1.out.kp hkp
    have ST2 : Hid (St 4 W2 w.heap.size #[.bool false]) := ST1.out.kp hkp (fun h => h)
    have K2 : Hid (Kp (fun _ => False) w W2) := K1.out.trans hkp (fun _ _ h => h)
    have HD2 : Hid (W2.heap[Dd]? = some (.deferred (some []))) := hKd
    have hDl : w.heap.size < Dd := by have := ST1.out.lt; omega
    clear hkp hKd hxs hfe H1 ST1 K1 SP hD
    gi_wp2_with fail
    refine ⟨trivial, (callsIn_wide.2 (new_none _)).mono ?_⟩
    rintro e w3 ⟨rfl, S3, k3⟩
    have one : w3.cell? ⟨W2.heap.size + 1, 0, none⟩ = some (.map (some W2.heap.size)) := S3.c0
    have H3 : Hid (Nos w3 v) := H2.out.kp k3
    have ST3 : Hid (St 4 w3 w.heap.size #[.bool false]) := ST2.out.kp k3 (fun h => h)
    have K3 : Hid (Kp (fun _ => False) w w3) := K2.out.trans k3 (fun _ _ h => h)
    have HD3 : Hid (w3.heap[Dd]? = some (.deferred (some []))) := (k3.block Dd (Array.getElem?_eq_some_iff.1 HD2.out).1 (fun h => h)).trans HD2.out
    have ONE : Hid (w3.cell? ⟨W2.heap.size + 1, 0, none⟩ = some (.map (some W2.heap.size))) := one
    clear one S3 k3 H2 ST2 K2 HD2 hmm
    generalize W2.heap.size + 1 = g1 at ONE ⊢
    generalize W2.heap.size = m1 at ONE
    gi_wp2_with fail
    refine ⟨trivial, (callsIn_wide.2 (create_bad s v 1 _ (allowed_nos s v _ H3.out) (by decide))).mono ?_⟩
    rintro e w' ⟨rfl, hw'⟩
    replace hw' := hw'.symm
    subst hw'
    gi_wp2_with fail
    refine ⟨trivial, (callsIn_wide.2 (remove_err s v 1 _ (file_nos s v _ H3.out) (by decide))).mono ?_⟩
    rintro e w' ⟨rfl, hw'⟩
    replace hw' := hw'.symm
    subst hw'
    gi_wp2_with fail
    refine ⟨trivial, (callsIn_wide.2 (write_err s v n _ ao m cap rfl 1 _ (fun w1 k1 => file_nos s v w1 (H3.out.kp k1)) (by decide))).mono ?_⟩
    rintro e w4 ⟨rfl, k4⟩
    have H4 : Hid (Nos w4 v) := H3.out.kp k4
    have ST4 : Hid (St 4 w4 w.heap.size #[.bool false]) := ST3.out.kp k4 (fun h => h)
    have K4 : Hid (Kp (fun _ => False) w w4) := K3.out.trans k4 (fun _ _ h => h)
    have HD4 : Hid (w4.heap[Dd]? = some (.deferred (some []))) := (k4.block Dd (Array.getElem?_eq_some_iff.1 HD3.out).1 (fun h => h)).trans HD3.out
    have ONE4 : Hid (w4.cell? ⟨g1, 0, none⟩ = some (.map (some m1))) := kp_cell k4 ONE.out (fun h => h)
    clear k4 H3 ST3 K3 HD3 ONE
    gi_wp2_with fail
    refine ⟨trivial, (callsIn_wide.2 (flush_err s v 1 _ (file_nos s v _ H4.out) (by decide))).mono ?_⟩
    rintro e w' ⟨rfl, hw'⟩
    replace hw' := hw'.symm
    subst hw'
    gi_wp2_with fail
    refine ⟨trivial, (callsIn_wide.2 (resize_err s v n 1 _ (file_nos s v _ H4.out) (by decide))).mono ?_⟩
    rintro e w' ⟨rfl, hw'⟩
    replace hw' := hw'.symm
    subst hw'
    gi_wp2_with fail
    refine ⟨trivial, (callsIn_wide.2 (feed_nos v _ _ H4.out)).mono ?_⟩
    rintro e w' ⟨rfl, hw'⟩
    replace hw' := hw'.symm
    subst hw'
    gi_wp2_with fail
    refine ⟨trivial, (callsIn_wide.2 (names_nos v _ H4.out)).mono ?_⟩
    rintro e w' ⟨rfl, hw'⟩
    replace hw' := hw'.symm
    subst hw'
    gi_wp2_with fail
    refine ⟨trivial, (callsIn_wide.2 (pending_nos v _ H4.out)).mono ?_⟩
    rintro e w' ⟨rfl, hw'⟩
    replace hw' := hw'.symm
    subst hw'
    gi_wp2_with fail
    refine ⟨trivial, (callsIn_wide.2 (copy_nos v _ H4.out)).mono ?_⟩
    rintro e w' ⟨rfl, hw'⟩
    replace hw' := hw'.symm
    subst hw'
    gi_wp2_with fail
    refine ⟨trivial, (callsIn_wide.2 (same_nos v _ _ H4.out (.inl rfl))).mono ?_⟩
    rintro e w' ⟨rfl, hw'⟩
    replace hw' := hw'.symm
    subst hw'
    gi_wp2_with fail
    refine ⟨trivial, (callsIn_wide.2 (same_nl v g1 m1 _ H4.out ONE4.out)).mono ?_⟩
    rintro e w' ⟨rfl, hw'⟩
    replace hw' := hw'.symm
    subst hw'
    gi_wp2_with fail
    refine ⟨trivial, (callsIn_wide.2 (same_ln v g1 m1 _ H4.out ONE4.out)).mono ?_⟩
    rintro e w' ⟨rfl, hw'⟩
    replace hw' := hw'.symm
    subst hw'
    have fz := ST4.out.frozen 0
    have cz : w4.cell? ⟨w.heap.size, 0, none⟩ = some (.bool false) := ST4.out.cell 0
    gi_wp2
    have HK7 : (w4.setCell ⟨w.heap.size, 0, none⟩ (.bool true)).heap[Dd]? = some (.deferred (some [])) := (heap_setCell_other _ _ _ _ (by show Dd ≠ w.heap.size; omega)).trans HD4.out
    refine ⟨by simp, .inl ⟨_, _, rfl, run_takeDeferred HK7, ?_⟩⟩
    have kp := kp_put1 (w4.setCell ⟨w.heap.size, 0, none⟩ (.bool true)) Dd (.deferred none)
    have st : St 4 ((w4.setCell ⟨w.heap.size, 0, none⟩ (.bool true)).putObj Dd (.deferred none)) w.heap.size #[.bool true] := (ST4.out.set 0 (.bool true)).kp kp (by omega)
    have ct : ((w4.setCell ⟨w.heap.size, 0, none⟩ (.bool true)).putObj Dd (.deferred none)).cell? ⟨w.heap.size, 0, none⟩ = some (.bool true) := st.cell 0
    have hl : (loadVar 4 ⟨w.heap.size, 0, none⟩).run Try.prog ((w4.setCell ⟨w.heap.size, 0, none⟩ (.bool true)).putObj Dd (.deferred none)) = .ok (.bool true) ((w4.setCell ⟨w.heap.size, 0, none⟩ (.bool true)).putObj Dd (.deferred none)) := by go_simp
    have hDs := (Array.getElem?_eq_some_iff.1 HD4.out).1
    refine ⟨_, results_cell1 Try.results17 _ _ _ rfl hl, rfl, ?_⟩
    exact (K4.out.trans (kp_setCell w4 w.heap.size 0 (.bool true) (fun i => i = w.heap.size) rfl) (fun i hi h => by omega)).trans kp (fun i hi h => by omega)
theorem nothing_any (v : Value) (s : ByteArray) (n : Int) (ao : Option Addr) (m cap : Nat) (w : World) (h : Nos w v) :
    Calls Try.prog 17 #[v, .string s, .int .i64 n, .slice ao m cap] w fun e w' => e = .returned (.bool true) ∧ Kp (fun _ => False) w w' := callsIn_wide.1 (nothing_in v s n ao m cap w h)
end Go.Proofs.Ytalicohflfildaa
