/- The walk of EntryTables. -/
import Derived.Test.YtkmkhjcmgockkaaEx
import Derived.Test.YtkmkhjcmgockkaaEw
import Derived.Test.YtkmkhjcmgockkaaOp
namespace Go.Proofs.Ytkmkhjcmgockkaa
open Go.RowKit
set_option linter.unusedVariables false
theorem own_form {w : World} {base : Nat} {v : Value} {zs : List Int} {z : Int} (h : OwnI w base v ([] ++ zs ++ [z])) :
    ∃ G c tl, v = .slice (some ⟨G, 0, none⟩) (zs.length + 1) c ∧ base ≤ G ∧ Rw 5 w G (zs ++ (z :: tl)) ∧ zs.length + 1 ≤ c ∧ c ≤ maxLen := by
  rcases h with ⟨_, h2⟩ | ⟨g, cap, tl, rfl, hb, hr, h3, h4⟩
  · simp at h2
  · exact ⟨g, cap, tl, by simp, hb, by simpa using hr, by simp at h3; omega, h4⟩
theorem row_zs {w : World} {g : Nat} {zs tl : List Int} (h : Rw 5 w g (zs ++ tl)) : ∀ i, i < zs.length → w.cell? ⟨g, 0 + i, none⟩ = some (.int .u8 (zs.getD i 0)) := fun i hi => by
  rw [Nat.zero_add, h.cell i (by rw [List.length_append]; omega)]
  simp only [List.getD]
  rw [List.getElem?_append_left hi]
theorem row_src {w : World} {G : Nat} {zs tl : List Int} (h : Rw 5 w G (zs ++ tl)) : Src w (some ⟨G, 0, none⟩) zs := Src.mk (row_zs h)
theorem row_at {w : World} {G : Nat} {zs tl : List Int} {z : Int} {len : Nat} (hl : zs.length = len) (h : Rw 5 w G (zs ++ z :: tl)) : w.cell? ⟨G, len, none⟩ = some (.int .u8 z) := by
  subst hl
  rw [h.cell zs.length (by simp)]
  simp [List.getD]
theorem cv {w : World} {ao : Option Addr} {len c : Nat} {xs : List Int} (hl : xs.length = len) (h : Src w ao xs) : (convert 39 9 (.slice ao len c)).run Try.prog w = .ok (.string (strOfNums xs)) w := by
  subst hl
  exact run_convert_rw w 39 9 5 Try.underlying39 Try.underlying5 Try.underlying9 ao _ c xs rfl h
theorem src_other {w w' : World} {ao : Option Addr} {zs : List Int} {G : Nat} (h : Src w ao zs) (k : Kp (fun j => j = G) w w') (hne : 0 < zs.length → ∀ b off, ao = some ⟨b, off, none⟩ → b ≠ G) : Src w' ao zs := by
  intro hp
  obtain ⟨b, off, e, hc⟩ := h hp
  exact ⟨b, off, e, fun i hi => kp_cell k (hc i hi) (hne hp b off e)⟩
theorem src_lt {w : World} {b off : Nat} {zs : List Int} (h : Src w (some ⟨b, off, none⟩) zs) (hp : 0 < zs.length) : b < w.heap.size := block_lt_of_cell (h.at 0 hp)
theorem put_get {zs : List Int} {i : Int} {e : En} {b : Int} {R : List Int} (h : PutR zs i e b R 0) : GetR R i b e 0 := by
  have hlen := putR_len h
  rcases h with ⟨_, _, h⟩ | ⟨_, _, _, _, h⟩ | ⟨hb, m, hh, rfl, _⟩
  · omega
  · omega
  · obtain ⟨k, rfl, hk⟩ := hs_nat hh
    have hw : wd (splice zs (8 * (k : Int).toNat) (num (wrd e) 8)) (k : Int).toNat = wrd e := by
      unfold wd
      rw [Int.toNat_natCast]
      have hr := splice_read zs (num (wrd e) 8) (8 * k) (by rw [num_length]; omega)
      rw [num_length] at hr
      rw [hr]
      have hu := wrd_u6 hb m
      exact val_num_of_lt _ _ hu.1 (by have e8 : (256 : Int) ^ 8 = 18446744073709551616 := by decide
                                       rw [e8]; exact hu.2)
    refine Or.inr (Or.inr (Or.inr ⟨hb, by rw [hlen]; exact hh, ?_, ?_, rfl⟩))
    · rw [hw, prt_wrd hb m]; exact m
    · rw [hw, prt_wrd hb m]
def pcs (e : En) (b : Int) : Array Value := #[.int .i64 e.kind, .int .i64 e.place, .int .i64 e.len, .int .i64 b]
theorem pcs_range {w : World} {g : Nat} {e : En} {b : Int} (h : St 41 w g (pcs e b)) : w.rangeAt g 0 e.cs.toList := by
  intro j v hv
  rw [Nat.zero_add, St.cell h j]
  match j, hv with
  | 0, hv => exact hv
  | 1, hv => exact hv
  | 2, hv => exact hv
  | j + 3, hv => simp [En.cs] at hv
theorem exec_load_pe {o : Oper} {a : Act} {w : World} {x : Operand} {g : Nat} {e : En} {b : Int} (ho : o.op = .load 24 x) (hx : a.eval x = .pointer (some ⟨g, 0, none⟩)) (s : St 41 w g (pcs e b)) :
    (execOp a.eval o).run Try.prog w = .ok (.value (.agg e.cs)) w := by
  unfold execOp
  simp only [ho, hx, Instr.loadAt, Instr.sureAddr, Sem.run_bind, Sem.run_pure, Result.andThen_ok, run_loadVar_mid w g 0 24 e.cs.toList _ (pcs_range s) Try.underlying24 rfl (by rw [info24]; rfl)]
def q4r1_0 : Oper := { dst := some 19, op := Go.Op.fieldAddr 41 (Go.Operand.tmp 5) 0, type := 0, pos := "law.go:45", after := #[], guard := none }
def q4r1_1 : Oper := { dst := some 20, op := Go.Op.load 24 (Go.Operand.tmp 19), type := 24, pos := "law.go:45", after := #[{ on := 0, ground := Go.Ground.data }], guard := none }
def q4r1_2 : Oper := { dst := some 21, op := Go.Op.fieldAddr 41 (Go.Operand.tmp 5) 1, type := 0, pos := "law.go:45", after := #[{ on := 5, ground := Go.Ground.gcOnly Go.Departure.lateStores }], guard := none }
def q4r1_3 : Oper := { dst := some 22, op := Go.Op.load 3 (Go.Operand.tmp 21), type := 3, pos := "law.go:45", after := #[{ on := 2, ground := Go.Ground.data }, { on := 5, ground := Go.Ground.gcOnly Go.Departure.lateStores }], guard := none }
def q4r1_4 : Oper := { dst := some 7, op := Go.Op.alloc 24, type := 0, pos := "law.go:45", after := #[], guard := none }
def q4r1_5 : Oper := { dst := none, op := Go.Op.store 24 (Go.Operand.tmp 7) (Go.Operand.tmp 20), type := 0, pos := "law.go:45", after := #[{ on := 4, ground := Go.Ground.data }, { on := 1, ground := Go.Ground.data }, { on := 0, ground := Go.Ground.phase }, { on := 1, ground := Go.Ground.phase }, { on := 2, ground := Go.Ground.textOnly Go.Departure.lateStores }, { on := 3, ground := Go.Ground.textOnly Go.Departure.lateStores }, { on := 4, ground := Go.Ground.phase }], guard := none }
def q4r1_6 : Oper := { dst := some 8, op := Go.Op.assign (Go.Operand.tmp 22), type := 3, pos := "law.go:45", after := #[{ on := 3, ground := Go.Ground.data }, { on := 5, ground := Go.Ground.chain }, { on := 0, ground := Go.Ground.phase }, { on := 1, ground := Go.Ground.phase }, { on := 2, ground := Go.Ground.phase }, { on := 3, ground := Go.Ground.phase }, { on := 4, ground := Go.Ground.phase }, { on := 5, ground := Go.Ground.phase }], guard := none }
def o4r1 : Array Oper := #[q4r1_0, q4r1_1, q4r1_2, q4r1_3, q4r1_4, q4r1_5, q4r1_6]
def p4r1_7 : List (Nat × Oper) := []
def p4r1_6 : List (Nat × Oper) := (0, q4r1_6) :: p4r1_7
def p4r1_5 : List (Nat × Oper) := (1, q4r1_5) :: p4r1_6
def p4r1_4 : List (Nat × Oper) := (1, q4r1_4) :: p4r1_5
def p4r1_3 : List (Nat × Oper) := (0, q4r1_3) :: p4r1_4
def p4r1_2 : List (Nat × Oper) := (0, q4r1_2) :: p4r1_3
def p4r1_1 : List (Nat × Oper) := (0, q4r1_1) :: p4r1_2
def p4r1_0 : List (Nat × Oper) := (0, q4r1_0) :: p4r1_1
def c4r1 : List (Nat × Nat) := [(0, 0), (0, 1), (0, 2), (0, 3), (1, 4), (1, 5), (0, 6)]
theorem b4r1 : (Region.noSelect o4r1 && (c4r1.length == o4r1.size) && planB o4r1 [] c4r1 (Array.replicate o4r1.size false)) = true := by kernel_rfl
theorem d4r1 : (c4r1.map fun p => (p.1, o4r1[p.2]?)) = (p4r1_0.map fun p => (p.1, some p.2)) := by kernel_rfl
set_option maxRecDepth 100000 in
set_option maxHeartbeats 8000000 in
theorem tables_walk (ao : Option Addr) (len cap : Nat) (zs : List Int) (i : Int) (e : En) (b : Int) (w : World) (hin : Inb w ao len cap zs) (wf : e.Wf) (wb : I6 b) : Calls Try.prog 4 #[.slice ao len cap, .int .i64 i, .agg #[.int .i64 e.kind, .int .i64 e.place, .int .i64 e.len, .int .i64 b]] w fun r w' => r = .returned (.bool true) ∧ Kp (fun _ => False) w w' := by
  change Calls Try.prog 4 #[.slice ao len cap, .int .i64 i, .agg (pcs e b)] w _
  have HS := hid (St.new 41 w (pcs e b))
  have HK : Hid (Kp (fun _ => False) w (w.alloc (.cells (pcs e b) 41))) := (Kp.refl _ _).alloc _
  have IN := hid hin
  have KN := hid known_any
  have WF := hid wf
  clear hin wf
  go_enter Try.func4, Try.ntmps4
  go_wp2_with fail
  generalize hW : w.alloc (.cells (pcs e b) 41) = W at *
  generalize hBB : w.heap.size = B at *
  have h0 : Kp (fun _ => False) W W.drew := (Kp.refl _ _).drew
  change (Code.region 1 o4r1 true).wp _ _ _ _
  refine wp_region_plan (fun w' => Kp (fun _ => False) W w') [] c4r1 p4r1_0 hmix b4r1 d4r1 (fun _ _ d _ _ h => by cases d <;> exact h) ?_
  refine plan_take (o := q4r1_0) (r := p4r1_1) ?va0 h0 (by rfl) ?hya0 ?resta0
  case hya0 => (intro w _; simp only [q4r1_0]; go_simp; try with_reducible rfl)
  try simp only [q4r1_0, Act.put, List.setIfInBounds_toArray, List.set_cons_zero, List.set_cons_succ]
  refine plan_take (o := q4r1_1) (r := p4r1_2) (.agg e.cs) h0 (by rfl) ?hya1 ?resta1
  case hya1 => exact fun w hSw => exec_load_pe rfl rfl (HS.out.kp hSw (fun x => x))
  try simp only [q4r1_1, Act.put, List.setIfInBounds_toArray, List.set_cons_zero, List.set_cons_succ]
  refine plan_take (o := q4r1_2) (r := p4r1_3) ?va2 h0 (by rfl) ?hya2 ?resta2
  case hya2 => (intro w _; simp only [q4r1_2]; go_simp; try with_reducible rfl)
  try simp only [q4r1_2, Act.put, List.setIfInBounds_toArray, List.set_cons_zero, List.set_cons_succ]
  refine plan_take (o := q4r1_3) (r := p4r1_4) (.int .i64 b) h0 (by rfl) ?hya3 ?resta3
  case hya3 => (intro w hSw; (try dsimp only at hSw); have y3 : w.cell? ⟨B, 3, none⟩ = some (.int .i64 b) := St.cell (HS.out.kp hSw (fun x => x)) 3; simp only [q4r1_3]; go_simp; try with_reducible rfl)
  try simp only [q4r1_3, Act.put, List.setIfInBounds_toArray, List.set_cons_zero, List.set_cons_succ]
  refine plan_act (o := q4r1_4) (r := p4r1_5) (fun K hK => ?_)
  simp only [q4r1_4]
  go_simp
  refine hK.out _ _ (fun h => h.alloc _) ?_
  have ha : Kp (fun _ => False) W (W.drew.alloc (.cells zE.cs 24)) := h0.alloc _
  clear hK K
  refine plan_act (o := q4r1_5) (r := p4r1_6) (fun K hK => ?_)
  rw [if_pos (by rfl)]
  refine wp_store_row 24 (.tmp 7) (.tmp 20) rfl W.heap.size e.cs rfl rfl 24 zE.cs (Eb.new W.drew zE) (by rw [info24]; rfl) rfl (cs_one _) ?_
  change K _ ((W.drew.alloc (.cells zE.cs 24)).setRow W.heap.size e.cs)
  have kx := kp_setRow (W.drew.alloc (.cells zE.cs 24)) W.heap.size e.cs
  have KX : Kp (fun _ => False) W ((W.drew.alloc (.cells zE.cs 24)).setRow W.heap.size e.cs) := ha.trans kx (fun i h1 h2 => by omega)
  have EX : Hid (Eb ((W.drew.alloc (.cells zE.cs 24)).setRow W.heap.size e.cs) W.heap.size e) := setRow_heap _ _ _ _ 24 _ (Eb.new W.drew zE)
  refine hK.out _ _ (fun h => KX) ?_
  clear hK K
  simp only [q4r1_5, Act.put]
  refine plan_take (o := q4r1_6) (r := p4r1_7) ?va6 KX (by rfl) ?hya6 ?resta6
  case hya6 => (intro w _; simp only [q4r1_6]; go_simp; try with_reducible rfl)
  try simp only [q4r1_6, Act.put, List.setIfInBounds_toArray, List.set_cons_zero, List.set_cons_succ]
  refine plan_done ?_
  generalize (W.drew.alloc (.cells zE.cs 24)).setRow W.heap.size e.cs = w0 at *
  have K0 := hid (HK.out.trans KX (fun _ _ x => x))
  have S0 := hid (IN.out.src.kp K0.out)
  have BW : Hid (B ≤ W.heap.size) := (by have h := HK.out.size; rw [hBB] at h; exact h)
  generalize W.heap.size = A at *
  clear HS HK h0 ha kx KX
  by_cases hbig : 10000 < len
  · go_wp2_with (go_at_call 12; refine (KN.out _).mono ?_; rintro r w1 ⟨rfl, k1⟩)
    go_ret
    exact ⟨rfl, K0.out.trans k1 (fun _ _ x => x)⟩
  have HLEN := hid IN.out.len
  have hl : zs.length ≤ 10000 := by have := HLEN.out; omega
  have HL : Hid (zs.length ≤ 1000000000000) := (by show _ ≤ _; omega)
  have HB := hid IN.out.byt
  have HNIL := hid IN.out.nil
  have HCAP : Hid (zs.length ≤ cap) := (by show _ ≤ _; rw [HLEN.out]; exact IN.out.cap)
  have T1 : Hid (([] : List Int).length + zs.length ≤ 140737488355328) := by show _ ≤ _; simp; omega
  have T2 : Hid (([] ++ zs : List Int).length + ([77] : List Int).length ≤ 140737488355328) := by show _ ≤ _; simp; omega
  obtain ⟨X1, erA, hg⟩ := getR_some zs i b
  obtain ⟨R, erB, hp⟩ := putR_some zs i e b
  have HG := hid hg
  have HP := hid hp
  have HRL := hid (putR_len hp)
  have HRB := hid (putR_byt HB.out hp)
  have NE : Hid ((!eqE X1 X1) = false) := (by show (!eqE X1 X1) = false; rw [eqE_self]; rfl)
  clear hg hp IN hbig
  have hll := HLEN.out
  subst hll
  go_wp2_with (first | (at_builtin; refine wpList_append_i rfl (.const (.slice none 0 0)) (.tmp 27) rfl w0.heap.size (.slice none 0 0) [] rfl (OwnI.nil _ _) _ _ _ zs rfl rfl HNIL.out S0.out T1.out (Nat.le_refl _) ?_; intro v1 w1 o1 q1 b1) | (at_builtin; refine wpList_append_i rfl (.tmp 28) (.tmp 29) rfl w0.heap.size v1 ([] ++ zs) rfl (o1.below ((Below.refl _ _).alloc (Nat.le_refl _) _)) _ _ _ [77] rfl rfl (fun e => by cases e) (row_src (tl := []) (Rw.new 5 w1 [77])) T2.out (Nat.le_trans b1.size (by simp)) ?_; intro v2 w2 o2 q2 b2; obtain ⟨G, c, tl, rfl, hG, hrow, hc1, hc2⟩ := own_form o2; have k2 := kp_below ((b1.alloc b1.size _).trans b2); have R2 := hid hrow; have HC1 : Hid (zs.length ≤ c) := Nat.le_of_succ_le hc1; have HGG := hid hG; clear o1 q1 b1 q2 b2 T1 T2 o2 hrow hG))
  have K2 := hid (K0.out.trans k2 (fun _ _ x => x))
  have S2 := hid (S0.out.kp k2)
  have E2 := hid (EX.out.kp k2 (fun x => x))
  refine (eget_any (some ⟨G, 0, none⟩) c zs i b w2 HL.out HB.out (row_src R2.out) HG.out).mono ?_
  rintro r w3 ⟨rfl, k3⟩
  have K3 := hid (K2.out.trans k3 (fun _ _ x => x))
  have S3 := hid (S2.out.kp k3)
  have E3 := hid (E2.out.kp k3 (fun x => x))
  have R3 := hid (R2.out.kp k3 (fun x => x))
  go_wp2_with (refine wpList_store_en rfl (.tmp 10) (.tmp 39) rfl w3.heap.size rfl (e := zE) (e' := X1) rfl (Eb.new w3 zE) ?_; intro w4 b4 j4)
  have k4 : Kp (fun _ => False) w3 w4 := ((Kp.refl (fun _ => False) w3).alloc _).trans j4 (fun i h1 h2 => by omega)
  have K4 := hid (K3.out.trans k4 (fun _ _ x => x))
  have S4 := hid (S3.out.kp k4)
  have E4 := hid (E3.out.kp k4 (fun x => x))
  have R4 := hid (R3.out.kp k4 (fun x => x))
  have X4 := hid b4
  generalize hq4 : w3.heap.size = Q4 at *
  refine (rget_any ao cap zs i b w4 HL.out HCAP.out HB.out S4.out HG.out).mono ?_
  rintro r w5 ⟨rfl, k5⟩
  have K5 := hid (K4.out.trans k5 (fun _ _ x => x))
  have S5 := hid (S4.out.kp k5)
  have E5 := hid (E4.out.kp k5 (fun x => x))
  have R5 := hid (R4.out.kp k5 (fun x => x))
  have X5 := hid (X4.out.kp k5 (fun x => x))
  go_wp2_with (first | (refine wpList_store_en rfl (.tmp 12) (.tmp 46) rfl w5.heap.size rfl (e := zE) (e' := X1) rfl (Eb.new w5 zE) ?_; intro w6 b6 j6; have k6 : Kp (fun _ => False) w5 w6 := ((Kp.refl (fun _ => False) w5).alloc _).trans j6 (fun i h1 h2 => by omega); have K6 := hid (K5.out.trans k6 (fun _ _ x => x)); have S6 := hid (S5.out.kp k6); have E6 := hid (E5.out.kp k6 (fun x => x)); have R6 := hid (R5.out.kp k6 (fun x => x)); have X6 := hid (X5.out.kp k6 (fun x => x)); have Y6 := hid b6; have cv1 := cv (c := c) rfl (row_src R6.out); have cv2 := cv (c := cap) rfl S6.out) | (refine wpList_load_en rfl (.tmp 10) rfl Q4 rfl X6.out ?_) | (refine wpList_load_en rfl (.tmp 12) rfl w5.heap.size rfl Y6.out ?_) | (refine wpList_ne_en rfl (.tmp 48) (.tmp 49) rfl (h := X1) (k := X1) rfl rfl NE.out ?_) | (refine wpList_load_en rfl (.tmp 7) rfl A rfl E6.out ?_))
  clear cv1 cv2 X6 Y6
  generalize hq6 : w5.heap.size = Q6 at *
  refine (rput_any ao cap zs i e b w6 HL.out HCAP.out S6.out WF.out HP.out).mono ?_
  rintro r w7 ⟨⟨ao7, c7, rfl, v7, hao⟩, k7⟩
  have K7 := hid (K6.out.trans k7 (fun _ _ x => x))
  have S7 := hid (S6.out.kp k7)
  have E7 := hid (E6.out.kp k7 (fun x => x))
  have R7 := hid (R6.out.kp k7 (fun x => x))
  have V7 := hid v7
  have HAO := hid hao
  clear v7 hao
  go_wp2_with (refine wpList_load_en rfl (.tmp 7) rfl A rfl E7.out ?_)
  refine (eput_any G c zs (77 :: tl) i e b w7 HL.out HC1.out R7.out WF.out HP.out).mono ?_
  rintro r w8 ⟨rfl, r8, k8⟩
  have HGl : Hid (G < w6.heap.size) := R6.out.lt
  have GE : Hid (w0.heap.size ≤ G) := HGG.out
  have LA : Hid (A < w0.heap.size) := EX.out.lt
  have GB : Hid (B ≤ G) := (by have h1 := GE.out; have h2 := LA.out; have h3 := BW.out; show _ ≤ _; omega)
  have K8 := hid (K7.out.trans k8 (fun j h1 h2 => by have h3 := GB.out; rw [hBB] at h1; omega))
  have E8 := hid (E7.out.kp k8 (by have h1 := GE.out; have h2 := LA.out; omega))
  have R8 := hid r8
  have hneG : 0 < R.length → ∀ b off, ao7 = some ⟨b, off, none⟩ → b ≠ G := (by
    intro hpos b off e7
    rcases HAO.out with h | h
    · subst h; subst e7; have h1 := src_lt S0.out (by rw [← HRL.out]; exact hpos); have h2 := GE.out; omega
    · have h1 := h b off e7; have h2 := HGl.out; omega)
  have V8 := hid (src_other V7.out k8 hneG)
  clear hneG k8 r8
  have cv1 := cv (c := c) HRL.out (row_src R8.out)
  have cv2 := cv (c := c7) HRL.out V8.out
  have ra := row_at HRL.out R8.out
  by_cases hE : erB = 0
  · subst hE
    have HPG := hid (put_get HP.out)
    go_wp2_with fail
    have EG : Hid (∀ w, Src w (some ⟨G, 0, none⟩) R → Calls Try.prog 14 #[.slice (some ⟨G, 0, none⟩) zs.length c, .int .i64 i, .int .i64 b] w fun r w' => r = .returned (.tuple #[.agg e.cs, .int .i64 0]) ∧ Kp (fun _ => False) w w') := fun w h => (by have hh := eget_any (some ⟨G, 0, none⟩) c R i b w (by rw [HRL.out]; exact HL.out) HRB.out h HPG.out; rw [HRL.out] at hh; exact hh)
    refine (EG.out w8 (row_src R8.out)).mono ?_
    rintro r w9 ⟨rfl, k9⟩
    have K9 := hid (K8.out.trans k9 (fun _ _ x => x))
    have E9 := hid (E8.out.kp k9 (fun x => x))
    go_wp2_with (first | (refine wpList_store_en rfl (.tmp 17) (.tmp 105) rfl w9.heap.size rfl (e := zE) (e' := e) rfl (Eb.new w9 zE) ?_; intro w10 b10 j10; have k10 : Kp (fun _ => False) w9 w10 := ((Kp.refl (fun _ => False) w9).alloc _).trans j10 (fun i h1 h2 => by omega); have K10 := hid (K9.out.trans k10 (fun _ _ x => x)); have E10 := hid (E9.out.kp k10 (fun x => x)); have Y10 := hid b10) | (refine wpList_load_en rfl (.tmp 17) rfl w9.heap.size rfl Y10.out ?_) | (refine wpList_load_en rfl (.tmp 7) rfl A rfl E10.out ?_) | (refine wpList_eq_en rfl (.tmp 107) (.tmp 108) rfl (h := e) (k := e) rfl rfl (eqE_self _) ?_) | (go_at_call 12; refine (KN.out _).mono ?_; rintro r w11 ⟨rfl, k11⟩))
    go_ret
    exact ⟨rfl, K10.out.trans k11 (fun _ _ x => x)⟩
  · go_wp2_with (go_at_call 12; refine (KN.out _).mono ?_; rintro r w9 ⟨rfl, k9⟩)
    go_ret
    exact ⟨rfl, K8.out.trans k9 (fun _ _ x => x)⟩
end Go.Proofs.Ytkmkhjcmgockkaa
