/- later: turn. -/
import Derived.Test.YtgfondgejimkkaaLd
namespace Go.Proofs.Ytgfondgejimkkaa
open Go.RowKit
set_option linter.unusedVariables false
set_option linter.unusedSimpArgs false
/-- Where a row of pointers is read. -/
def Srcp (w : World) (ao : Option Addr) (D : List Nat) : Prop := 0 < D.length → ∃ b off, ao = some ⟨b, off, none⟩ ∧ b < w.heap.size ∧ ∀ j, j < D.length → w.cell? ⟨b, off + j, none⟩ = some (ptr (D.getD j 0))
theorem Srcp.nil (w : World) (ao : Option Addr) : Srcp w ao [] := fun h => absurd h (by simp)
theorem Srcp.kp {F : Nat → Prop} {w w' : World} {ao : Option Addr} {D : List Nat} (h : Srcp w ao D) (k : Kp F w w') (hf : 0 < D.length → ∀ b off, ao = some ⟨b, off, none⟩ → ¬ F b) : Srcp w' ao D := by
  intro hp
  obtain ⟨b, off, rfl, hb, hc⟩ := h hp
  exact ⟨b, off, rfl, Nat.lt_of_lt_of_le hb k.size, fun j hj => kp_cell k (hc j hj) (hf hp b off rfl)⟩
theorem Srcr.kp1 {F : Nat → Prop} {w w' : World} {ao : Option Addr} {l : List Rn} (h : Srcr w ao l) (k : Kp F w w') (hf : 0 < l.length → ∀ b off, ao = some ⟨b, off, none⟩ → ¬ F b) : Srcr w' ao l := by
  intro hp
  obtain ⟨b, off, rfl, hb, hc⟩ := h hp
  exact ⟨b, off, rfl, Nat.lt_of_lt_of_le hb k.size, fun j u hu => kp_cell k (hc j u hu) (hf hp b off rfl)⟩
theorem Lc.off {c c2 : Nat → Rn} {w : World} {Q B mb me : Nat} {v : Value} {L : List Nat} {b s : Nat} (h : Lc c w Q B mb me v L) (hw : Wt c2 w b s) (hb : b ∉ L) : ¬ Fp Q B mb me v L b := by
  obtain ⟨eb, kb, m1, m2⟩ := h.bm
  obtain ⟨ee, ke, n1, n2⟩ := h.em
  rintro (rfl | rfl | rfl | rfl | e | e)
  · exact apart_types h.st hw (by decide)
  · exact apart_types h.ln.st hw (by decide)
  · exact map_cells m1.1 hw
  · exact map_cells n1.1 hw
  · obtain ⟨cur, hg, _⟩ := ownb h.ln.own e
    exact apart_types hg hw (by decide)
  · exact hb e
/-- Some that were taken off: they have their runs still. -/
def Gone (c : Nat → Rn) (w : World) (L D : List Nat) : Prop := ∀ b ∈ D, b < w.heap.size ∧ b ∉ L ∧ ∃ s, Wt c w b s
theorem Gone.kp {c c2 : Nat → Rn} {w w' : World} {Q B mb me : Nat} {v : Value} {L M D : List Nat} (g : Gone c w L D) (h : Lc c2 w Q B mb me v L) (k : Kp (Fp Q B mb me v L) w w') (hm : ∀ y ∈ M, y ∈ L ∨ w.heap.size ≤ y) : Gone c w' M D := fun b hb => by
  obtain ⟨h1, h2, s, h3⟩ := g b hb
  refine ⟨Nat.lt_of_lt_of_le h1 k.size, fun hm2 => ?_, s, h3.kp k (h.off h3 h2)⟩
  rcases hm b hm2 with h | h
  · exact h2 h
  · omega
theorem Gone.kp0 {c : Nat → Rn} {w w' : World} {L D : List Nat} (g : Gone c w L D) (k : Kp (fun _ => False) w w') : Gone c w' L D := fun b hb => by
  obtain ⟨h1, h2, s, h3⟩ := g b hb
  exact ⟨Nat.lt_of_lt_of_le h1 k.size, h2, s, h3.kp k (fun h => h)⟩
/-- What a change leaves: another one in the same place; its blocks are its old ones and new ones. -/
structure Tr (w : World) (F0 : Nat → Prop) (Q B mb me : Nat) (c : Nat → Rn) (v : Value) (L : List Nat) (w' : World) : Prop where
  lc : Lc c w' Q B mb me v L
  kp : Kp F0 w w'
  fp : ∀ k, Fp Q B mb me v L k → F0 k ∨ w.heap.size ≤ k
theorem Tr.drop {w : World} {F0 : Nat → Prop} {Q B mb me : Nat} {c : Nat → Rn} {v : Value} {L : List Nat} {w1 w' : World} {b : Nat} (h : Tr w F0 Q B mb me c v L w1) (d : Dr c w1 w' Q B mb me v L b) : ∃ v' M, Tr w F0 Q B mb me c v' M w' ∧ (b :: M).Perm L ∧ ∀ D, Gone c w1 L D → Gone c w' M (D ++ [b]) := by
  obtain ⟨⟨v', M, lc, pm, ow⟩, kp, one⟩ := d
  have hmo : ∀ D, Gone c w1 L D → Gone c w' M (D ++ [b]) := fun D g x hx => by
    rcases List.mem_append.1 hx with hx | hx
    · exact g.kp h.lc kp (fun y hy => .inl (pm.mem_iff.1 (by simp [hy]))) x hx
    · obtain rfl : x = b := by simpa using hx
      obtain ⟨s, hs⟩ := one
      have hnd : (x :: M).Nodup := pm.nodup_iff.2 h.lc.ln.nodup
      exact ⟨hs.lt, (List.nodup_cons.1 hnd).1, s, hs⟩
  refine ⟨v', M, ⟨lc, h.kp.trans kp (fun i hi hf => (h.fp i hf).elim id (fun hl => by omega)), fun k hk => ?_⟩, pm, hmo⟩
  rcases hk with e | e | e | e | e | e
  · exact h.fp k (.inl e)
  · exact h.fp k (.inr (.inl e))
  · exact h.fp k (.inr (.inr (.inl e)))
  · exact h.fp k (.inr (.inr (.inr (.inl e))))
  · exact h.fp k (.inr (.inr (.inr (.inr (.inl (ow ▸ e))))))
  · exact h.fp k (.inr (.inr (.inr (.inr (.inr (pm.mem_iff.1 (by simp [e])))))))
theorem Tr.add {w : World} {F0 : Nat → Prop} {Q B mb me : Nat} {c : Nat → Rn} {v : Value} {L : List Nat} {w1 w' : World} {x : Rn} (h : Tr w F0 Q B mb me c v L w1) (d : Ad c w1 w' Q B mb me v L x) : ∃ c' v' L', Tr w F0 Q B mb me c' v' L' w' ∧ (L'.map c').Perm (x :: L.map c) ∧ ∀ c0 D, Gone c0 w1 L D → Gone c0 w' L' D := by
  obtain ⟨⟨c', v', L', b, hc, lc, pm, hb, hl, ow⟩, kp⟩ := d
  have hs := h.kp.size
  refine ⟨c', v', L', ⟨lc, h.kp.trans kp (fun i hi hf => (h.fp i hf).elim id (fun hl => by omega)), fun k hk => ?_⟩, ?_, fun c0 D g => g.kp h.lc kp (fun y hy => ?_)⟩
  · rcases hk with e | e | e | e | e | e
    · exact h.fp k (.inl e)
    · exact h.fp k (.inr (.inl e))
    · exact h.fp k (.inr (.inr (.inl e)))
    · exact h.fp k (.inr (.inr (.inr (.inl e))))
    · rcases ow with ow | ⟨g, ow, hg⟩
      · exact h.fp k (.inr (.inr (.inr (.inr (.inl (ow ▸ e))))))
      · rw [ow] at e
        obtain rfl : g = k := by simpa using e
        exact .inr (by omega)
    · rcases List.mem_cons.1 (pm.mem_iff.1 e) with rfl | e
      · exact .inr (by omega)
      · exact h.fp k (.inr (.inr (.inr (.inr (.inr e)))))
  · refine (pm.map c').trans ?_
    rw [List.map_cons, hb]
    have : L.map c' = L.map c := map_congr (fun y hy => hc y (h.lc.lt (.inr (.inr (.inr (.inr (.inr hy)))))))
    rw [this]
  · rcases List.mem_cons.1 (pm.mem_iff.1 hy) with rfl | e
    · exact .inr (by omega)
    · exact .inl e
theorem Tr.same {w : World} {F0 : Nat → Prop} {Q B mb me : Nat} {c : Nat → Rn} {v : Value} {L : List Nat} {w1 w' : World} (h : Tr w F0 Q B mb me c v L w1) (k : Kp (fun _ => False) w1 w') : Tr w F0 Q B mb me c v L w' := ⟨h.lc.kp0 k, h.kp.trans k (fun _ _ x => x.elim), h.fp⟩
theorem Tr.start {w : World} {Q B mb me : Nat} {c : Nat → Rn} {v : Value} {L : List Nat} (h : Lc c w Q B mb me v L) : Tr w (Fp Q B mb me v L) Q B mb me c v L w := ⟨h, Kp.refl _ _, fun k hk => .inl hk⟩
/-- What turn leaves. -/
def TnR (w : World) (Q B mb me : Nat) (c : Nat → Rn) (v : Value) (L : List Nat) (N : List Rn) (e : Ending) (w' : World) : Prop :=
  (4096 < N.length ∧ e = .returned (.tuple #[.int .i64 0, .int .i64 6]) ∧ Kp (fun _ => False) w w') ∨ (N.length ≤ 4096 ∧ e = .returned (.tuple #[.int .i64 (sz N - sz (L.map c)), .int .i64 0]) ∧ ∃ c' v' L', Tr w (Fp Q B mb me v L) Q B mb me c' v' L' w' ∧ (L'.map c').Perm N)
def rst (L D : List Nat) : List Nat := L.filter (fun b => !D.contains b)
theorem rst_mem {L D : List Nat} {b : Nat} : b ∈ rst L D ↔ b ∈ L ∧ b ∉ D := by simp [rst]
theorem rst_perm {L D : List Nat} (hL : L.Nodup) (hD : D.Nodup) (hs : ∀ b ∈ D, b ∈ L) : L.Perm (D ++ rst L D) := by
  refine (List.perm_ext_iff_of_nodup hL (List.nodup_append.2 ⟨hD, hL.filter _, fun x hx y hy e => ?_⟩)).2 (fun a => ?_)
  · exact (rst_mem.1 hy).2 (e ▸ hx)
  · show _ ↔ a ∈ D ++ rst L D
    rw [List.mem_append, rst_mem]
    constructor
    · intro h
      by_cases ha : a ∈ D
      · exact .inl ha
      · exact .inr ⟨h, ha⟩
    · rintro (h | h)
      · exact hs a h
      · exact h.1
theorem take_snoc' {D : List Nat} {k : Nat} (h : k < D.length) : D.take (k + 1) = D.take k ++ [D.getD k 0] := by
  rw [List.take_add_one]
  simp [List.getD, List.getElem?_eq_getElem h]
theorem take_snocr {D : List Rn} {k : Nat} (h : k < D.length) : D.take (k + 1) = D.take k ++ [D.getD k zRn] := by
  rw [List.take_add_one]
  simp [List.getD, List.getElem?_eq_getElem h]
set_option maxRecDepth 100000 in
set_option maxHeartbeats 8000000 in
theorem turn_gone (c : Nat → Rn) (w : World) (Q B mb me : Nat) (v : Value) (L D : List Nat) (F : List Rn) (ao bo : Option Addr) (m dc n fc : Nat) (h : Lc c w Q B mb me v L) (hm : m = D.length) (hn : n = F.length) (hn2 : n ≤ 1000000) (hD : D.Nodup) (hs : ∀ b ∈ D, b ∈ L) (sD : Srcp w ao D) (sF : Srcr w bo F)
    (nD : 0 < D.length → ∀ b off, ao = some ⟨b, off, none⟩ → ¬ Fp Q B mb me v L b) (nF : 0 < F.length → ∀ b off, bo = some ⟨b, off, none⟩ → ¬ Fp Q B mb me v L b) (hap : Ap ((rst L D).map c ++ F)) :
    Calls Try.prog 47 #[ptr Q, .slice ao m dc, .slice bo n fc] w (fun e w' => TnR w Q B mb me c v L ((rst L D).map c ++ F) e w' ∧ (((rst L D).map c ++ F).length ≤ 4096 → ∀ b ∈ D, ∃ s, Wt c w' b s)) := by
  have hp := rst_perm h.ln.nodup hD hs
  have hl := hp.length_eq
  rw [List.length_append] at hl
  have hNl : ((rst L D).map c ++ F).length = (rst L D).length + F.length := by simp
  have h4 := h.len
  have c0 : w.cell? ⟨Q, 0, none⟩ = some (.pointer (some ⟨B, 0, none⟩)) := h.st.cell 0
  have c3 : w.cell? ⟨Q, 3, none⟩ = some (.int .i64 (sz (L.map c))) := h.st.cell 3
  have HLN : Hid (Calls Try.prog 34 #[.pointer (some ⟨B, 0, none⟩)] w fun e w' => e = .returned (.int .i64 L.length) ∧ w = w') := (len_any c w 0 B v L h.ln).mono fun e w' ⟨h1, h2⟩ => ⟨h1, h2.symm⟩
  unfold ptr
  by_cases hbig : 4096 < (rst L D).length + F.length
  · have hb1 : (4096 : Int) < (L.length : Int) - (m : Int) + (n : Int) := by omega
    have hw1 : IntKind.i64.wrap ((L.length : Int) - (m : Int)) = (L.length : Int) - (m : Int) := by rw [IntKind.wrap_i64]; omega
    have hw2 : IntKind.i64.wrap ((L.length : Int) - (m : Int) + (n : Int)) = (L.length : Int) - (m : Int) + (n : Int) := by rw [IntKind.wrap_i64]; omega
    have FIN : Hid (TnR w Q B mb me c v L ((rst L D).map c ++ F) (.returned (.tuple #[.int .i64 0, .int .i64 6])) w ∧ (((rst L D).map c ++ F).length ≤ 4096 → ∀ b ∈ D, ∃ s, Wt c w b s)) := ⟨.inl ⟨by rw [hNl]; exact hbig, rfl, Kp.refl _ _⟩, fun hle => by rw [hNl] at hle; omega⟩
    have hm6 : m ≤ 1000000 := by omega
    have hl6 : L.length ≤ 1000000 := by omega
    clear h hp hl hNl h4 sD sF nD nF hap hD hs hbig hm hn
    go_enter Try.func47, Try.ntmps47
    go_wp2_with (first | (go_at_call 34; refine HLN.out.mono ?_; rintro e w1 ⟨rfl, rfl⟩))
    go_ret2
    exact FIN.out
  · have hb1 : ¬ (4096 : Int) < (L.length : Int) - (m : Int) + (n : Int) := by omega
    have hw1 : IntKind.i64.wrap ((L.length : Int) - (m : Int)) = (L.length : Int) - (m : Int) := by rw [IntKind.wrap_i64]; omega
    have hw2 : IntKind.i64.wrap ((L.length : Int) - (m : Int) + (n : Int)) = (L.length : Int) - (m : Int) + (n : Int) := by rw [IntKind.wrap_i64]; omega
    have HNL : Hid ((rst L D).length + F.length ≤ 4096) := by show _ ≤ _; omega
    have T0 := hid (Tr.start h)
    have HLD := hid h.ln.nodup
    have HM := hid hm
    have HN := hid hn
    have SD := hid sD
    have SF := hid sF
    have ND := hid nD
    have NF := hid nF
    have HAP := hid hap
    have HND := hid hD
    have HS := hid hs
    have hm6 : m ≤ 1000000 := by omega
    have hz0 := ap_sz h.ap
    clear h hp hl hNl sD sF nD nF hap hD hs hbig hm hn
    go_enter Try.func47, Try.ntmps47
    go_wp2_with (first | (go_at_call 34; refine HLN.out.mono ?_; rintro e w1 ⟨rfl, rfl⟩))
    clear hb1 hw1 hw2 HLN c0 c3
    go_loopw [31] (fun i wr => ∃ (k : Nat) (v' : Value) (M : List Nat), i = .int .i64 (k : Int) ∧ k ≤ m ∧ Hid (Tr w (Fp Q B mb me v L) Q B mb me c v' M wr) ∧ Hid (∀ a, a ∈ M ↔ a ∈ L ∧ a ∉ D.take k) ∧ Hid (Gone c wr M (D.take k))) (fun i _ => m - (intOf i).toNat)
    case atStart => exact ⟨0, v, L, rfl, Nat.zero_le _, T0, fun a => by simp, fun a ha => by simp at ha⟩
    case round =>
      clear T0
      obtain ⟨k, v', M, rfl, hk, HT, HI, HG⟩ := hrel
      by_cases hlt : k < m
      · have hkD : k < D.length := by have := HM.out; omega
        obtain ⟨gb, off, rfl, hgb, hc⟩ := SD.out.kp HT.out.kp (ND.out) (by omega)
        have x0 := hc k hkD
        unfold ptr at x0
        have hbM : D.getD k 0 ∈ M := (HI.out _).2 ⟨HS.out _ (gn_mem hkD), fun hm => by
          obtain ⟨j, hj, e⟩ := List.getElem_of_mem hm
          have hj2 : j < k := by simp at hj; omega
          rw [List.getElem_take, gn hkD] at e
          exact (List.pairwise_iff_getElem.1 HND.out) j k (by omega) hkD hj2 e⟩
        have HDR := hid (drop_any c wr Q B mb me v' M (D.getD k 0) HT.out.lc hbM)
        have HTK := hid (take_snoc' hkD)
        have HNX : Hid (∀ M' : List Nat, (D.getD k 0 :: M').Perm M → ∀ a, a ∈ M' ↔ a ∈ L ∧ a ∉ D.take (k + 1)) := fun M' pm a => by
          have hnd : (D.getD k 0 :: M').Nodup := pm.nodup_iff.2 HT.out.lc.ln.nodup
          rw [HTK.out]
          constructor
          · intro ha
            have h1 := (HI.out a).1 (pm.mem_iff.1 (by simp [ha]))
            refine ⟨h1.1, fun hm => ?_⟩
            rcases List.mem_append.1 hm with hm | hm
            · exact h1.2 hm
            · simp only [List.mem_singleton] at hm
              exact (List.nodup_cons.1 hnd).1 (hm ▸ ha)
          · rintro ⟨h1, h2⟩
            have h3 := (HI.out a).2 ⟨h1, fun hm => h2 (List.mem_append_left _ hm)⟩
            rcases List.mem_cons.1 (pm.mem_iff.2 h3) with e | e
            · exact absurd (List.mem_append_right _ (by simp [e])) h2
            · exact e
        have HGN : Hid (∀ W M', Gone c W M' (D.take k ++ [D.getD k 0]) → Gone c W M' (D.take (k + 1))) := fun W M' hg => by rw [HTK.out]; exact hg
        generalize D.getD k 0 = b at *
        unfold ptr at HDR
        clear hc
        go_wp2_with (first | (go_at_call 63; refine HDR.out.mono ?_; rintro e w2 ⟨rfl, d2⟩; have D2 := hid d2; clear d2))
        go_roundw
        case rel =>
          obtain ⟨v2, M2, t2, p2, g2⟩ := HT.out.drop D2.out
          exact ⟨k + 1, v2, M2, by go_num, hlt, t2, HNX.out M2 p2, HGN.out _ _ (g2 _ HG.out)⟩
        case measure => simp [intOf]; omega
      · obtain rfl : k = m := by omega
        have HI2 : Hid (M.Perm (rst L D)) := (List.perm_ext_iff_of_nodup HT.out.lc.ln.nodup (HLD.out.filter _)).2 (fun a => by
          show _ ↔ a ∈ rst L D
          rw [HI.out a, rst_mem, List.take_of_length_le (by have := HM.out; omega)])
        have HG2 : Hid (Gone c wr M D) := by
          have := HG.out
          rw [List.take_of_length_le (by have := HM.out; omega)] at this
          exact this
        go_wp2_with fail
        obtain ⟨wm, hwm⟩ : ∃ wm, wm = wr := ⟨_, rfl⟩
        subst hwm
        go_loopw [41] (fun i wq => ∃ (j : Nat) (c' : Nat → Rn) (v2 : Value) (M2 : List Nat), i = .int .i64 (j : Int) ∧ j ≤ n ∧ Hid (Tr w (Fp Q B mb me v L) Q B mb me c' v2 M2 wq) ∧ Hid ((M2.map c').Perm ((rst L D).map c ++ F.take j)) ∧ Hid (Gone c wq M2 D)) (fun i _ => n - (intOf i).toNat)
        case atStart => exact ⟨0, c, v', M, rfl, Nat.zero_le _, HT, by rw [List.take_zero, List.append_nil]; exact HI2.out.map c, HG2⟩
        case round =>
          clear HT HI HI2 HG HG2
          obtain ⟨j, c', v2, M2, rfl, hj, HT, HI, HG⟩ := hrel
          by_cases hlt2 : j < n
          · have hjF : j < F.length := by have := HN.out; omega
            obtain ⟨gb, off, rfl, hgb, x0, x1⟩ := (SF.out.kp1 HT.out.kp NF.out).at (i := j) hjF
            have HTK := hid (take_snocr hjF)
            have hapj : Ap ((rst L D).map c ++ F.take (j + 1)) := HAP.out.sub (List.Sublist.append_left (List.take_sublist _ _) _)
            rw [HTK.out, ← List.append_assoc] at hapj
            have HMX : Hid (Mayr (F.getD j zRn)) := hapj.1 _ (by simp)
            have HAJ : Hid (∀ b ∈ M2, Aprt (F.getD j zRn) (c' b)) := fun b hb => by
              have hm : c' b ∈ (rst L D).map c ++ F.take j := HI.out.mem_iff.1 (List.mem_map_of_mem hb)
              exact ((List.pairwise_append.1 hapj.2).2.2 _ hm _ (by simp)).symm
            have HNX : Hid (∀ (c2 : Nat → Rn) (M3 : List Nat), (M3.map c2).Perm (F.getD j zRn :: M2.map c') → (M3.map c2).Perm ((rst L D).map c ++ F.take (j + 1))) := fun c2 M3 hp => by
              rw [HTK.out, ← List.append_assoc]
              exact hp.trans ((HI.out.cons _).trans (List.perm_append_singleton _ _).symm)
            have hl2 : M2.length < 4096 := by
              have h1 := HI.out.length_eq
              simp at h1
              have h2 := HNL.out
              have h3 := HN.out
              omega
            generalize F.getD j zRn = x at *
            obtain ⟨xa, xn⟩ := x
            dsimp only at x0 x1
            have HAD : Hid (∀ U, Kp (fun _ => False) wr U → Calls Try.prog 33 #[.pointer (some ⟨Q, 0, none⟩), .agg #[.int .i64 xa, .int .i64 xn]] U fun e w' => e = .returned (.tuple #[]) ∧ Ad c' U w' Q B mb me v2 M2 ⟨xa, xn⟩) := fun U hU => add_any c' U Q B mb me v2 M2 ⟨xa, xn⟩ (HT.out.lc.kp0 hU) HMX.out HAJ.out hl2
            clear hapj hl2
            go_wp2_with (first | (refine wpList_store_r rfl _ _ rfl _ rfl (e' := ⟨xa, xn⟩) rfl (Rn.B.new wr zRn) ?_; intro w3 s3 k3; have K3 : Hid (Kp (fun _ => False) wr w3) := ((Kp.refl (fun _ => False) wr).alloc _).trans k3 (fun i h1 h2 => by omega); have S3 := hid s3; clear s3 k3 x0 x1) | (refine wpList_load_r rfl _ rfl _ rfl S3.out ?_) | (go_at_call 33; refine (HAD.out _ K3.out).mono ?_; rintro e w4 ⟨rfl, d4⟩; have D4 := hid d4; clear d4))
            go_roundw
            case rel =>
              obtain ⟨c3, v3, M3, t3, p3, g3⟩ := (HT.out.same K3.out).add D4.out
              exact ⟨j + 1, c3, v3, M3, by go_num, hlt2, t3, HNX.out c3 M3 p3, g3 c D (HG.out.kp0 K3.out)⟩
            case measure => simp [intOf]; omega
          · obtain rfl : j = n := by omega
            rw [List.take_of_length_le (by have := HN.out; omega)] at HI
            have c3 : wr.cell? ⟨Q, 3, none⟩ = some (.int .i64 (sz (M2.map c'))) := HT.out.lc.st.cell 3
            have hz2 := ap_sz HT.out.lc.ap
            have HZ : Hid (sz (M2.map c') = sz ((rst L D).map c ++ F)) := sz_perm HI.out
            have hw : IntKind.i64.wrap (sz (M2.map c') - sz (L.map c)) = sz (M2.map c') - sz (L.map c) := by rw [IntKind.wrap_i64]; omega
            go_wp2_with fail
            go_ret2
            refine ⟨.inr ⟨by rw [List.length_append, List.length_map]; exact HNL.out, ?_, c', v2, M2, HT.out, HI.out⟩, fun _ b hb => (HG.out b hb).2.2⟩
            first
            | (rw [← HZ.out]; rfl)
            | (rw [← HZ.out]; simp [hw])
theorem turn_any (c : Nat → Rn) (w : World) (Q B mb me : Nat) (v : Value) (L D : List Nat) (F : List Rn) (ao bo : Option Addr) (m dc n fc : Nat) (h : Lc c w Q B mb me v L) (hm : m = D.length) (hn : n = F.length) (hn2 : n ≤ 1000000) (hD : D.Nodup) (hs : ∀ b ∈ D, b ∈ L) (sD : Srcp w ao D) (sF : Srcr w bo F)
    (nD : 0 < D.length → ∀ b off, ao = some ⟨b, off, none⟩ → ¬ Fp Q B mb me v L b) (nF : 0 < F.length → ∀ b off, bo = some ⟨b, off, none⟩ → ¬ Fp Q B mb me v L b) (hap : Ap ((rst L D).map c ++ F)) :
    Calls Try.prog 47 #[ptr Q, .slice ao m dc, .slice bo n fc] w (TnR w Q B mb me c v L ((rst L D).map c ++ F)) := (turn_gone c w Q B mb me v L D F ao bo m dc n fc h hm hn hn2 hD hs sD sF nD nF hap).mono fun _ _ h => h.1
end Go.Proofs.Ytgfondgejimkkaa
