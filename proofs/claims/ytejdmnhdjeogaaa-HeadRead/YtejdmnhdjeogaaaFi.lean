/- head: a head's numbers by method values: at, tell, keep. -/
import Derived.Test.YtejdmnhdjeogaaaSm
import Derived.Test.YtejdmnhdjeogaaaBr
import Derived.Laws.EntriesVeiled
namespace Go.Proofs.Ytejdmnhdjeogaaa
open Go.RowKit
set_option linter.unusedVariables false

/-- A method value of a number at a place. -/
def mv (f g i : Nat) : Value := .func (.func f) #[.agg #[.pointer (some ⟨g, i, none⟩)]] #[]
/-- A field's cells. -/
def fc (p wd : Int) (f g i : Nat) : Array Value := #[.int .i64 p, .int .i64 wd, mv f g i, mv (f + 1) g i]
theorem info60 : (Try.prog.info? 60).map (·.size) = some 4 := by kernel_rfl
theorem field_load {w : World} {G : Nat} {p wd : Int} {f g i : Nat} (h : St 60 w G (fc p wd f g i)) : (loadVar 60 ⟨G, 0, none⟩).run Try.prog w = .ok (.agg (fc p wd f g i)) w :=
  run_loadVar_row w G 60 60 _ (0, 0) _ h Try.underlying60 rfl (by rw [info60]; rfl)
set_option maxRecDepth 100000 in
set_option maxHeartbeats 2000000 in
theorem at_48 (p wd : Int) (g i : Nat) (w : World) : Calls Try.prog 48 #[.int .i64 p, .int .i64 wd, .pointer (some ⟨g, i, none⟩)] w fun e w' => e = .returned (.agg (fc p wd 55 g i)) ∧ Kp (fun _ => False) w w' := by
  go_enter Try.func48, Try.ntmps48
  go_wp2_with fail
  refine bodyPost_ret (results_cell1 Try.results48 _ _ _ rfl (field_load (p := p) (wd := wd) (f := 55) (g := g) (i := i) ?_)) rfl ?_
  · exact (St.new 60 w _).kp ((Kp.refl (fun _ => False) _).alloc _) (fun x => x)
  · exact ⟨rfl, ((Kp.refl _ _).alloc _).alloc _⟩
set_option maxRecDepth 100000 in
set_option maxHeartbeats 2000000 in
theorem tell_55 (g i : Nat) (x : Int) (w : World) (c : w.cell? ⟨g, i, none⟩ = some (.int .i64 x)) : Calls Try.prog 55 #[.agg #[.pointer (some ⟨g, i, none⟩)]] w fun e w' => e = .returned (.int .u64 (IntKind.u64.wrap x)) ∧ Kp (fun _ => False) w w' := by
  have hl := block_lt_of_cell c
  have c2 : (w.alloc (.cells #[.pointer (some ⟨g, i, none⟩)] 85)).cell? ⟨g, i, none⟩ = some (.int .i64 x) := kp_cell ((Kp.refl (fun _ => False) _).alloc _) c (fun x => x)
  go_enter Try.func55, Try.ntmps55
  go_wp2_with fail
  go_ret
  exact ⟨rfl, (Kp.refl _ _).alloc _⟩
set_option maxRecDepth 100000 in
set_option maxHeartbeats 2000000 in
theorem keep_56 (g i : Nat) (x : Int) (cs : Array Value) (w : World) (s : St 24 w g cs) (hi : i < cs.size) : Calls Try.prog 56 #[.agg #[.pointer (some ⟨g, i, none⟩)], .int .u64 x] w fun e w' => (∃ v, e = .returned v) ∧ St 24 w' g (cs.set! i (.int .i64 (IntKind.i64.wrap x))) ∧ Kp (fun j => j = g) w w' := by
  have hl := s.lt
  have HS := hid (s.kp ((Kp.refl (fun _ => False) w).alloc (.cells #[.pointer (some ⟨g, i, none⟩)] 85)) (fun x => x))
  have HKP : Hid (Kp (fun j => j = g) w (w.alloc (.cells #[.pointer (some ⟨g, i, none⟩)] 85))) := (Kp.refl _ _).alloc _
  have c1 := HS.out.cell i
  rw [Array.getElem?_eq_getElem hi] at c1
  have f1 := HS.out.frozen i
  have S0 := hid s
  clear s
  go_enter Try.func56, Try.ntmps56
  go_wp2_with fail
  refine ⟨rfl, .tuple #[], by simp [results, Try.results56], ⟨_, rfl⟩, ?_, ((kp_setCell _ _ _ _ (fun j => j = g) rfl).alloc _)⟩
  have e := (S0.out.set i (.int .i64 (wrap64 x))).kp ((Kp.refl (fun _ => False) _).alloc (.cells #[.pointer (some ⟨g, i, none⟩)] 85)) (fun x => x)
  rw [show IntKind.i64.wrap x = wrap64 x by rw [IntKind.wrap_i64]; unfold wrap64; omega]; exact e
set_option maxRecDepth 100000 in
set_option maxHeartbeats 2000000 in
theorem at_49 (p wd : Int) (g i : Nat) (w : World) : Calls Try.prog 49 #[.int .i64 p, .int .i64 wd, .pointer (some ⟨g, i, none⟩)] w fun e w' => e = .returned (.agg (fc p wd 57 g i)) ∧ Kp (fun _ => False) w w' := by
  go_enter Try.func49, Try.ntmps49
  go_wp2_with fail
  refine bodyPost_ret (results_cell1 Try.results49 _ _ _ rfl (field_load (p := p) (wd := wd) (f := 57) (g := g) (i := i) ?_)) rfl ?_
  · exact (St.new 60 w _).kp ((Kp.refl (fun _ => False) _).alloc _) (fun x => x)
  · exact ⟨rfl, ((Kp.refl _ _).alloc _).alloc _⟩
set_option maxRecDepth 100000 in
set_option maxHeartbeats 2000000 in
theorem tell_57 (g i : Nat) (x : Int) (w : World) (c : w.cell? ⟨g, i, none⟩ = some (.int .u64 x)) : Calls Try.prog 57 #[.agg #[.pointer (some ⟨g, i, none⟩)]] w fun e w' => e = .returned (.int .u64 (x)) ∧ Kp (fun _ => False) w w' := by
  have hl := block_lt_of_cell c
  have c2 : (w.alloc (.cells #[.pointer (some ⟨g, i, none⟩)] 87)).cell? ⟨g, i, none⟩ = some (.int .u64 x) := kp_cell ((Kp.refl (fun _ => False) _).alloc _) c (fun x => x)
  go_enter Try.func57, Try.ntmps57
  go_wp2_with fail
  go_ret
  exact ⟨rfl, (Kp.refl _ _).alloc _⟩
set_option maxRecDepth 100000 in
set_option maxHeartbeats 2000000 in
theorem keep_58 (g i : Nat) (x : Int) (cs : Array Value) (w : World) (s : St 24 w g cs) (hi : i < cs.size) : Calls Try.prog 58 #[.agg #[.pointer (some ⟨g, i, none⟩)], .int .u64 x] w fun e w' => (∃ v, e = .returned v) ∧ St 24 w' g (cs.set! i (.int .u64 (x))) ∧ Kp (fun j => j = g) w w' := by
  have hl := s.lt
  have HS := hid (s.kp ((Kp.refl (fun _ => False) w).alloc (.cells #[.pointer (some ⟨g, i, none⟩)] 87)) (fun x => x))
  have HKP : Hid (Kp (fun j => j = g) w (w.alloc (.cells #[.pointer (some ⟨g, i, none⟩)] 87))) := (Kp.refl _ _).alloc _
  have c1 := HS.out.cell i
  rw [Array.getElem?_eq_getElem hi] at c1
  have f1 := HS.out.frozen i
  have S0 := hid s
  clear s
  go_enter Try.func58, Try.ntmps58
  go_wp2_with fail
  refine ⟨rfl, .tuple #[], by simp [results, Try.results58], ⟨_, rfl⟩, ?_, ((kp_setCell _ _ _ _ (fun j => j = g) rfl).alloc _)⟩
  have e := (S0.out.set i (.int .u64 (x))).kp ((Kp.refl (fun _ => False) _).alloc (.cells #[.pointer (some ⟨g, i, none⟩)] 87)) (fun x => x)
  exact e
set_option maxRecDepth 100000 in
set_option maxHeartbeats 2000000 in
theorem at_50 (p wd : Int) (g i : Nat) (w : World) : Calls Try.prog 50 #[.int .i64 p, .int .i64 wd, .pointer (some ⟨g, i, none⟩)] w fun e w' => e = .returned (.agg (fc p wd 59 g i)) ∧ Kp (fun _ => False) w w' := by
  go_enter Try.func50, Try.ntmps50
  go_wp2_with fail
  refine bodyPost_ret (results_cell1 Try.results50 _ _ _ rfl (field_load (p := p) (wd := wd) (f := 59) (g := g) (i := i) ?_)) rfl ?_
  · exact (St.new 60 w _).kp ((Kp.refl (fun _ => False) _).alloc _) (fun x => x)
  · exact ⟨rfl, ((Kp.refl _ _).alloc _).alloc _⟩
set_option maxRecDepth 100000 in
set_option maxHeartbeats 2000000 in
theorem tell_59 (g i : Nat) (x : Int) (w : World) (c : w.cell? ⟨g, i, none⟩ = some (.int .i64 x)) : Calls Try.prog 59 #[.agg #[.pointer (some ⟨g, i, none⟩)]] w fun e w' => e = .returned (.int .u64 (IntKind.u64.wrap x)) ∧ Kp (fun _ => False) w w' := by
  have hl := block_lt_of_cell c
  have c2 : (w.alloc (.cells #[.pointer (some ⟨g, i, none⟩)] 89)).cell? ⟨g, i, none⟩ = some (.int .i64 x) := kp_cell ((Kp.refl (fun _ => False) _).alloc _) c (fun x => x)
  go_enter Try.func59, Try.ntmps59
  go_wp2_with fail
  go_ret
  exact ⟨rfl, (Kp.refl _ _).alloc _⟩
set_option maxRecDepth 100000 in
set_option maxHeartbeats 2000000 in
theorem keep_60 (g i : Nat) (x : Int) (cs : Array Value) (w : World) (s : St 24 w g cs) (hi : i < cs.size) : Calls Try.prog 60 #[.agg #[.pointer (some ⟨g, i, none⟩)], .int .u64 x] w fun e w' => (∃ v, e = .returned v) ∧ St 24 w' g (cs.set! i (.int .i64 (IntKind.i64.wrap x))) ∧ Kp (fun j => j = g) w w' := by
  have hl := s.lt
  have HS := hid (s.kp ((Kp.refl (fun _ => False) w).alloc (.cells #[.pointer (some ⟨g, i, none⟩)] 89)) (fun x => x))
  have HKP : Hid (Kp (fun j => j = g) w (w.alloc (.cells #[.pointer (some ⟨g, i, none⟩)] 89))) := (Kp.refl _ _).alloc _
  have c1 := HS.out.cell i
  rw [Array.getElem?_eq_getElem hi] at c1
  have f1 := HS.out.frozen i
  have S0 := hid s
  clear s
  go_enter Try.func60, Try.ntmps60
  go_wp2_with fail
  refine ⟨rfl, .tuple #[], by simp [results, Try.results60], ⟨_, rfl⟩, ?_, ((kp_setCell _ _ _ _ (fun j => j = g) rfl).alloc _)⟩
  have e := (S0.out.set i (.int .i64 (wrap64 x))).kp ((Kp.refl (fun _ => False) _).alloc (.cells #[.pointer (some ⟨g, i, none⟩)] 89)) (fun x => x)
  rw [show IntKind.i64.wrap x = wrap64 x by rw [IntKind.wrap_i64]; unfold wrap64; omega]; exact e
/-- Which methods a field has. -/
def tfn (k : Nat) : Nat := [55, 57, 59, 59, 55, 55, 59, 55, 55, 59, 55, 55, 59, 55].getD k 0
/-- The fields of a head in a block, one behind the other. -/
def fcl (g k : Nat) : List Value := [.int .i64 (pos k : Int), .int .i64 (wid k : Int), mv (tfn k) g k, mv (tfn k + 1) g k]
def fcs (g : Nat) : List Value := (List.range 14).flatMap (fcl g)
end Go.Proofs.Ytejdmnhdjeogaaa
