/- head: a head is taken off bytes. -/
import Derived.Test.YtejdmnhdjeogaaaSe
import Derived.Test.YtejdmnhdjeogaaaMy
namespace Go.Proofs.Ytejdmnhdjeogaaa
open Go.RowKit
set_option linter.unusedVariables false

/-- A slice of bytes that is there. -/
structure Bz (w : World) (g off n cap : Nat) (zs : List Int) : Prop where
  len : zs.length = n
  byt : Byt zs
  src : ∀ i, i < zs.length → w.cell? ⟨g, off + i, none⟩ = some (.int .u8 (zs.getD i 0))
  cap : n ≤ cap
  big : n ≤ 9223372036854775807
theorem Bz.kp {w w' : World} {g off n cap : Nat} {zs : List Int} (h : Bz w g off n cap zs) (k : Kp (fun _ => False) w w') : Bz w' g off n cap zs := ⟨h.len, h.byt, fun i hi => k.cell (h.src i hi), h.cap, h.big⟩
theorem nou_fld {w : World} {g off n cap : Nat} {zs : List Int} (h : Bz w g off n cap zs) (h5 : 512 ≤ n) : Calls Try.prog 41 #[.slice (some ⟨g, off, none⟩) n cap, .int .i64 152, .int .i64 512] w fun e w' => e = .returned (.tuple #[.bool (nouB (seg zs 152 360)), .int .i64 0]) ∧ w' = w := by
  obtain ⟨rfl, hb, hs, hc, hbig⟩ := h
  refine (noughts_ok g off cap zs 152 512 w hbig hs (by omega) h5 hc).mono ?_
  rintro e w' ⟨rfl, rfl⟩
  exact ⟨rfl, rfl⟩
theorem get_fld {w : World} {g off n cap : Nat} {zs : List Int} (h : Bz w g off n cap zs) (h5 : 512 ≤ n) {k : Nat} (hk : k < 14) : Calls Try.prog 42 #[.slice (some ⟨g, off, none⟩) n cap, .int .i64 (pos k : Int), .int .i64 (wid k : Int)] w fun e w' => e = .returned (.tuple #[.int .u64 (sgv zs k), .int .i64 0]) ∧ w' = w := by
  obtain ⟨rfl, hb, hs, hc, hbig⟩ := h
  have hp := pos_le hk
  have hw := wid_cases hk
  refine (get_ok g off cap zs (pos k) (wid k) w hbig hb hs (numE_mk (by omega) (by omega) (by omega) (by omega))).mono ?_
  rintro e w' ⟨rfl, rfl⟩
  exact ⟨rfl, rfl⟩
theorem txt_fld {w : World} {g off n cap : Nat} {zs : List Int} (h : Bz w g off n cap zs) : Calls Try.prog 43 #[.slice (some ⟨g, off, none⟩) n cap, .int .i64 84, .int .i64 64] w fun e w' => e = .returned (.tuple #[.string (strOfNums (txtS zs 84 64)), .int .i64 (txtC zs 84 64)]) ∧ w' = w := by
  obtain ⟨rfl, hb, hs, hc, hbig⟩ := h
  refine (textW_any g off cap zs 84 64 w hbig hb hs hc).mono ?_
  rintro e w' ⟨rfl, rfl⟩
  exact ⟨rfl, rfl⟩
theorem wpList_load_hd_g {ops : Array Oper} {rest : List Oper} {o : Oper} {a : Act} {w : World} {Q : Exit → Act → World → Prop} (hw : Region.wanted o (yielded ops a.tmps) = true) (x : Operand) (ho : o.op = .load 24 x) (g : Nat) (hx : a.eval x = .pointer (some ⟨g, 0, none⟩)) {h : Hd} (s : Hb w g h)
    (hk : wpList Try.prog ops Q rest (a.put o.dst (.agg h.cs)) w) : wpList Try.prog ops Q (o :: rest) a w := wpList_step fun _ hK => by rw [if_pos hw]; exact wp_load_hd x ho g hx s (hK _ _ hk)
/-- The zero head. -/
def zH : Hd := ⟨0, 0, 0, 0, 0, 0, 0, 0, 0, 0, 0, 0, 0, 0, ⟨#[]⟩⟩
def rdv (zs : List Int) (j : Nat) : Value := if j = 1 then .int .u64 (sgv zs j) else .int .i64 (IntKind.i64.wrap (sgv zs j))
def zv (j : Nat) : Value := if j = 1 then .int .u64 0 else .int .i64 0
/-- A head's cells, the first k of them read. -/
def hcs (zs : List Int) (k : Nat) : Array Value := ((List.range 14).map (fun j => if j < k then rdv zs j else zv j) ++ [Value.string ⟨#[]⟩]).toArray
theorem hcs_zero (zs : List Int) : hcs zs 0 = zH.cs := by rfl
theorem hcs_step (zs : List Int) {k : Nat} (hk : k < 14) : (hcs zs k).set! k (rdv zs k) = hcs zs (k + 1) := by
  rcases lt14 hk with rfl | rfl | rfl | rfl | rfl | rfl | rfl | rfl | rfl | rfl | rfl | rfl | rfl | rfl <;> rfl
theorem hcs_size (zs : List Int) (k : Nat) : (hcs zs k).size = 15 := by simp [hcs]
theorem hcs_end (zs : List Int) : (hcs zs 14).set! 14 (.string (strOfNums (txtS zs 84 64))) = (rdH zs).cs := by rfl
theorem keep_fld (zs : List Int) {k : Nat} (hk : k < 14) (g : Nat) (w : World) (s : St 24 w g (hcs zs k)) :
    Calls Try.prog (tfn k + 1) #[.agg #[.pointer (some ⟨g, k, none⟩)], .int .u64 (sgv zs k)] w fun e w' => (∃ v, e = .returned v) ∧ St 24 w' g (hcs zs (k + 1)) ∧ Kp (fun j => j = g) w w' := by
  have hz : k < (hcs zs k).size := by rw [hcs_size]; omega
  have hst := hcs_step zs hk
  rcases lt14 hk with rfl | rfl | rfl | rfl | rfl | rfl | rfl | rfl | rfl | rfl | rfl | rfl | rfl | rfl
  · have c := keep_56 g 0 (sgv zs 0) _ w s hz
    rw [show (hcs zs 0).set! 0 (Value.int .i64 (IntKind.i64.wrap (sgv zs 0))) = hcs zs (0 + 1) from hst] at c
    exact c
  · have c := keep_58 g 1 (sgv zs 1) _ w s hz
    rw [show (hcs zs 1).set! 1 (Value.int .u64 (sgv zs 1)) = hcs zs (1 + 1) from hst] at c
    exact c
  · have c := keep_60 g 2 (sgv zs 2) _ w s hz
    rw [show (hcs zs 2).set! 2 (Value.int .i64 (IntKind.i64.wrap (sgv zs 2))) = hcs zs (2 + 1) from hst] at c
    exact c
  · have c := keep_60 g 3 (sgv zs 3) _ w s hz
    rw [show (hcs zs 3).set! 3 (Value.int .i64 (IntKind.i64.wrap (sgv zs 3))) = hcs zs (3 + 1) from hst] at c
    exact c
  · have c := keep_56 g 4 (sgv zs 4) _ w s hz
    rw [show (hcs zs 4).set! 4 (Value.int .i64 (IntKind.i64.wrap (sgv zs 4))) = hcs zs (4 + 1) from hst] at c
    exact c
  · have c := keep_56 g 5 (sgv zs 5) _ w s hz
    rw [show (hcs zs 5).set! 5 (Value.int .i64 (IntKind.i64.wrap (sgv zs 5))) = hcs zs (5 + 1) from hst] at c
    exact c
  · have c := keep_60 g 6 (sgv zs 6) _ w s hz
    rw [show (hcs zs 6).set! 6 (Value.int .i64 (IntKind.i64.wrap (sgv zs 6))) = hcs zs (6 + 1) from hst] at c
    exact c
  · have c := keep_56 g 7 (sgv zs 7) _ w s hz
    rw [show (hcs zs 7).set! 7 (Value.int .i64 (IntKind.i64.wrap (sgv zs 7))) = hcs zs (7 + 1) from hst] at c
    exact c
  · have c := keep_56 g 8 (sgv zs 8) _ w s hz
    rw [show (hcs zs 8).set! 8 (Value.int .i64 (IntKind.i64.wrap (sgv zs 8))) = hcs zs (8 + 1) from hst] at c
    exact c
  · have c := keep_60 g 9 (sgv zs 9) _ w s hz
    rw [show (hcs zs 9).set! 9 (Value.int .i64 (IntKind.i64.wrap (sgv zs 9))) = hcs zs (9 + 1) from hst] at c
    exact c
  · have c := keep_56 g 10 (sgv zs 10) _ w s hz
    rw [show (hcs zs 10).set! 10 (Value.int .i64 (IntKind.i64.wrap (sgv zs 10))) = hcs zs (10 + 1) from hst] at c
    exact c
  · have c := keep_56 g 11 (sgv zs 11) _ w s hz
    rw [show (hcs zs 11).set! 11 (Value.int .i64 (IntKind.i64.wrap (sgv zs 11))) = hcs zs (11 + 1) from hst] at c
    exact c
  · have c := keep_60 g 12 (sgv zs 12) _ w s hz
    rw [show (hcs zs 12).set! 12 (Value.int .i64 (IntKind.i64.wrap (sgv zs 12))) = hcs zs (12 + 1) from hst] at c
    exact c
  · have c := keep_56 g 13 (sgv zs 13) _ w s hz
    rw [show (hcs zs 13).set! 13 (Value.int .i64 (IntKind.i64.wrap (sgv zs 13))) = hcs zs (13 + 1) from hst] at c
    exact c
set_option maxRecDepth 100000 in
set_option maxHeartbeats 2000000 in
theorem nou_call {w : World} {g off n cap Bb : Nat} {zs : List Int} (h : Bz w g off n cap zs) (h5 : 512 ≤ n) (s : St 26 w Bb #[.slice (some ⟨g, off, none⟩) n cap]) : Calls Try.prog 40 #[.int .i64 152, .int .i64 512, .pointer (some ⟨Bb, 0, none⟩)] w fun e w' => e = .returned (.bool (nouB (seg zs 152 360))) ∧ w' = w := by
  have c0 : w.cell? ⟨Bb, 0, none⟩ = some (.slice (some ⟨g, off, none⟩) n cap) := s.cell 0
  have HH := hid h
  clear h s
  go_enter Try.func40, Try.ntmps40
  go_wp2_with (go_at_call 41; refine (nou_fld HH.out h5).mono ?_; rintro e w' ⟨rfl, ew⟩)
  subst ew
  go_ret
  exact ⟨rfl, rfl⟩
set_option maxRecDepth 100000 in
set_option maxHeartbeats 2000000 in
theorem nou_short {w : World} {ao : Option Addr} {n cap Bb : Nat} (h5 : n < 512) (s : St 26 w Bb #[.slice ao n cap]) : Calls Try.prog 40 #[.int .i64 152, .int .i64 512, .pointer (some ⟨Bb, 0, none⟩)] w fun e w' => e = .returned (.bool false) ∧ w' = w := by
  have c0 : w.cell? ⟨Bb, 0, none⟩ = some (.slice ao n cap) := s.cell 0
  clear s
  go_enter Try.func40, Try.ntmps40
  go_wp2_with (go_at_call 41; refine (noughts_err ao n cap 152 512 w (by omega)).mono ?_; rintro e w' ⟨rfl, ew⟩)
  go_ret
  exact ⟨rfl, ew.symm⟩
set_option maxRecDepth 100000 in
set_option maxHeartbeats 2000000 in
theorem taken_short (ao : Option Addr) (n cap : Nat) (w : World) (h5 : n < 512) : Calls Try.prog 30 #[.slice ao n cap] w fun e w' => e = .returned (.agg zH.cs) ∧ Kp (fun _ => False) w w' := by
  have S0 : Hid (St 26 ((w.alloc (.cells #[.slice ao n cap] 26)).alloc (.cells zH.cs 24)) w.heap.size #[.slice ao n cap]) := (St.new 26 w _).kp ((Kp.refl (fun _ => False) _).alloc _) (fun x => x)
  have S1 : Hid (Hb ((w.alloc (.cells #[.slice ao n cap] 26)).alloc (.cells zH.cs 24)) (w.heap.size + 1) zH) := hid (by have e := Hb.new (w.alloc (.cells #[.slice ao n cap] 26)) zH; simpa using e)
  have K1 : Hid (Kp (fun _ => False) w ((w.alloc (.cells #[.slice ao n cap] 26)).alloc (.cells zH.cs 24))) := ((Kp.refl _ _).alloc _).alloc _
  go_enter Try.func30, Try.ntmps30
  go_wp2_with (first | (go_at_call 40; refine (nou_short h5 S0.out).mono ?_; rintro e w' ⟨rfl, ew⟩) | (refine wpList_store_hd rfl (.tmp 2) (.tmp 21) rfl (w.heap.size + 1) rfl (h := zH) (h' := zH) rfl S1.out ?_; intro w2 b2 k2))
  refine bodyPost_ret (results_cell1 Try.results30 _ _ _ rfl b2.load) rfl ⟨rfl, K1.out.trans k2 (fun i h1 h2 => by omega)⟩
theorem str_eq {a b : ByteArray} (h : (a.toList == b.toList) = true) : a = b := by
  rw [ByteArray.toList_eq, ByteArray.toList_eq] at h
  exact WideShapes.bytes_inj (by simpa using h)
theorem mark_iff {zs : List Int} (hb : Byt zs) : strOfNums (zs.take 4) = ⟨#[80, 65, 76, 49]⟩ ↔ zs.take 4 = mk := by
  constructor
  · intro h
    have e := congrArg byts h
    rw [byts_str _ (hb.take 4), mk_str] at e
    exact e
  · intro h; rw [h]; rfl
/-- What is taken off bytes. -/
def TkP (zs : List Int) (e : Ending) : Prop := (Cnd zs ∧ e = .returned (.agg (rdH zs).cs)) ∨ (¬ Cnd zs ∧ e = .returned (.agg zH.cs))
end Go.Proofs.Ytejdmnhdjeogaaa
