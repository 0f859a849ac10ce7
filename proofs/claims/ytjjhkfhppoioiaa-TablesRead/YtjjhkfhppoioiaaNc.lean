/- tables: fields joined; a name's bytes, the program's and the document's. -/
import Derived.Test.YtjjhkfhppoioiaaNb
import Derived.Lib.ConvBytes
namespace Go.Proofs.Ytjjhkfhppoioiaa
open Go.RowKit
set_option linter.unusedVariables false

/-- A field: where it lies, its bytes, its capacity. -/
abbrev Fd := Option Addr × List Int × Nat
def Fd.v (f : Fd) : Value := .slice f.1 f.2.1.length f.2.2
def fcat (fs : List Fd) : List Int := fs.flatMap (·.2.1)
def zf : Fd := (none, [], 0)
theorem cat_take (fs : List Fd) (k : Nat) (h : k ≤ fs.length) : cat (fun r => (fs.getD r zf).2.1) k = fcat (fs.take k) := by
  induction k with
  | zero => rfl
  | succ k ih =>
    rw [cat, ih (by omega), List.take_succ_eq_append_getElem (by omega)]
    simp only [fcat, List.flatMap_append, List.flatMap_cons, List.flatMap_nil, List.append_nil]
    rw [getD_lt fs k zf (by omega)]
theorem joinL (fs : List Fd) (g cap : Nat) (w : World) (h0 : 0 < fs.length) (hl : fs.length ≤ 100) (hF : ∀ f ∈ fs, f.2.1.length ≤ 1000) (hs : St 26 w g (fs.map Fd.v).toArray) (hw : ∀ f ∈ fs, Src w f.1 f.2.1 ∧ (f.1 = none → f.2.2 = 0)) :
    Calls Try.prog 41 #[.slice (some ⟨g, 0, none⟩) fs.length cap] w fun e w' => ∃ g, e = .returned (.slice (some ⟨g, 0, none⟩) (fcat fs).length (fcat fs).length) ∧ w.heap.size ≤ g ∧ Rw 5 w' g (fcat fs) ∧ Below w.heap.size w w' := by
  have h := join_some g 0 fs.length cap (fun r => (fs.getD r zf).2.1) (fun r => (fs.getD r zf).1) (fun r => (fs.getD r zf).2.2) w hl (fun r => by
      by_cases hr : r < fs.length
      · exact hF _ (getD_in fs r zf hr)
      · show (fs.getD r zf).2.1.length ≤ 1000
        rw [getD_ge fs r zf (by omega)]; simp [zf]) (fun r hr => by
      refine ⟨?_, (hw _ (getD_in fs r zf hr)).1, (hw _ (getD_in fs r zf hr)).2⟩
      rw [Nat.zero_add, hs.cell r]
      simp [Fd.v, List.getD, hr])
  rw [cat_take fs fs.length (Nat.le_refl _), List.take_length] at h
  exact h
theorem joinC (fs : List Fd) (vs : Array Value) (n : Nat) (xs : List Int) (g cap : Nat) (w : World) (hn : n = fs.length) (hvs : vs = (fs.map Fd.v).toArray) (hx : xs = fcat fs) (h0 : 0 < n) (hl : n ≤ 100) (hF : ∀ f ∈ fs, f.2.1.length ≤ 1000) (hs : St 26 w g vs) (hw : ∀ f ∈ fs, Src w f.1 f.2.1 ∧ (f.1 = none → f.2.2 = 0)) :
    Calls Try.prog 41 #[.slice (some ⟨g, 0, none⟩) n cap] w fun e w' => ∃ g, e = .returned (.slice (some ⟨g, 0, none⟩) xs.length xs.length) ∧ w.heap.size ≤ g ∧ Rw 5 w' g xs ∧ Below w.heap.size w w' := by
  subst hn hvs hx
  exact joinL fs g cap w h0 hl hF hs hw
theorem nmb_cat (s : ByteArray) (h : s.size ≤ 255) {a b : Option Addr} {c d : Nat} : nmb s = fcat [(a, num (s.size : Int) 1, c), (b, byts s, d)] := by
  have : num (s.size : Int) 1 = [((s.size : Int) % 256)] := by simp [num]
  simp only [fcat, List.flatMap_cons, List.flatMap_nil, List.append_nil, this]
  rw [Int.emod_eq_of_lt (by omega) (by omega)]
  simp [nmb]
theorem Rw.src {w : World} {g : Nat} {L : List Int} (h : Rw 5 w g L) : Src w (some ⟨g, 0, none⟩) L := Src.mk h.cells
/-- []byte(s). -/
theorem bw_below (w : World) (s : ByteArray) : Below w.heap.size w (Lib.bytesWorld w 5 s) :=
  ⟨rfl, rfl, rfl, by rw [Lib.bytesWorld_size]; omega, fun k hk => Lib.bytesWorld_at_old w 5 s k hk⟩
theorem bw_src (w : World) (s : ByteArray) : Src (Lib.bytesWorld w 5 s) (some ⟨w.heap.size, 0, none⟩) (byts s) := Src.mk (fun i hi => by
  rw [byts_length] at hi
  rw [Nat.zero_add, Lib.bytesWorld_cell w 5 s i hi]
  have h2 : i < s.data.size := hi
  rw [getD_lt (byts s) i 0 (by rw [byts_length]; exact hi)]
  simp only [byts, List.getElem_map, Array.getElem_toList]
  rw [List.getD, Array.getElem?_toList, Array.getElem?_eq_getElem h2]
  rfl)
theorem wpList_conv_str {ops : Array Oper} {rest : List Oper} {o : Oper} {a : Act} {w : World} {Q : Exit → Act → World → Prop} (hgd : o.guard = none) (x : Operand) (ho : o.op = .convert 9 26 x) (s : ByteArray) (hx : a.eval x = .string s)
    (h : ∀ w' cap, Src w' (some ⟨w.heap.size, 0, none⟩) (byts s) → Below w.heap.size w w' → wpList Try.prog ops Q rest (a.put o.dst (.slice (some ⟨w.heap.size, 0, none⟩) s.size cap)) w') : wpList Try.prog ops Q (o :: rest) a w := by
  refine wpList_plain hgd fun K hK => ?_
  have hr := Lib.run_convert_string_bytes (P := Try.prog) w 9 26 5 s Try.underlying9 Try.underlying26 Try.underlying5
  unfold Oper.wp
  simp only [execOp, ho, hx, hr, Sem.run_bind, Sem.run_pure, Result.andThen_ok]
  exact hK _ _ (h _ _ (bw_src w s) (bw_below w s))
set_option maxHeartbeats 1000000 in
theorem text_ok (s : ByteArray) (w : World) (hs : s.size ≤ 255) :
    Calls Try.prog 42 #[.string s] w fun e w' => ∃ g, e = .returned (.slice (some ⟨g, 0, none⟩) (nmb s).length (nmb s).length) ∧ w.heap.size ≤ g ∧ Rw 5 w' g (nmb s) ∧ Below w.heap.size w w' := by
  have hn := hid (nmb_len s)
  have hu : (s.size : Int) < 256 ^ 1 := by rw [p1]; omega
  have HU := hid hu
  clear hu
  go_enter Try.func42, Try.ntmps42
  go_wp2_with (first
    | (go_at_call 43; refine (number_ok (s.size : Int) 1 _ (by omega) (by omega) (by omega) (by omega) HU.out).mono ?_; rintro e w1 ⟨rfl, r1, b1⟩; have R1 := hid r1; have B1 := hid b1; clear r1 b1)
    | (refine wpList_conv_str rfl (.tmp 6) rfl s rfl ?_; intro w2 c2 s2 b2; have S2 := hid s2; have B2 := hid b2; clear s2 b2)
    | fail)
  have HB : Hid (Below w.heap.size w w2) := B1.out.trans (B2.out.mono B1.out.size)
  have J := fun W (hW : W = w2.alloc (.cells #[.slice (some ⟨w.heap.size, 0, none⟩) 1 1, .slice (some ⟨w1.heap.size, 0, none⟩) s.size c2] 26)) => joinC [(some ⟨w.heap.size, 0, none⟩, num (s.size : Int) 1, 1), (some ⟨w1.heap.size, 0, none⟩, byts s, c2)] #[.slice (some ⟨w.heap.size, 0, none⟩) 1 1, .slice (some ⟨w1.heap.size, 0, none⟩) s.size c2] 2 (nmb s) w2.heap.size 2 W rfl (by simp [Fd.v, num_length, byts_length]) (nmb_cat s hs) (by omega) (by omega) (by simp [num_length, byts_length]; omega) (by rw [hW]; exact St.new 26 _ _) (by
    rw [hW]
    have hb : Below w2.heap.size w2 (w2.alloc (.cells #[.slice (some ⟨w.heap.size, 0, none⟩) 1 1, .slice (some ⟨w1.heap.size, 0, none⟩) s.size c2] 26)) := (Below.refl _ _).alloc (Nat.le_refl _) _
    intro f hf
    simp only [List.mem_cons, List.not_mem_nil, or_false] at hf
    rcases hf with rfl | rfl
    · exact ⟨(R1.out.src.below B2.out).below hb, fun e => by cases e⟩
    · exact ⟨S2.out.below hb, fun e => by cases e⟩)
  have HJ := hid J
  clear J
  go_wp2_with (first | (go_at_call 41; refine (HJ.out _ rfl).mono ?_; rintro e w3 ⟨g3, rfl, h3, r3, b3⟩; have R3 := hid r3; have H3 := hid h3; have B3 := hid b3; clear r3 h3 b3))
  go_ret
  have h3 := H3.out
  rw [World.size_alloc] at h3
  have h4 := HB.out.size
  exact ⟨g3, rfl, by omega, R3.out, (HB.out.alloc HB.out.size _).trans (B3.out.mono (by rw [World.size_alloc]; omega))⟩
theorem named_yes {s : ByteArray} (h : Nm s) (hs : s.size ≤ 9223372036854775807) (w : World) : Calls Try.prog 62 #[.string s] w fun e w' => e = .returned (.bool true) ∧ w = w' := by
  refine (named_any s w hs).mono ?_
  rintro e w' ⟨⟨_, rfl⟩ | ⟨q, _⟩, ew⟩
  · exact ⟨rfl, ew⟩
  · exact absurd h q
theorem named_no {s : ByteArray} (h : ¬ Nm s) (hs : s.size ≤ 9223372036854775807) (w : World) : Calls Try.prog 62 #[.string s] w fun e w' => e = .returned (.bool false) ∧ w = w' := by
  refine (named_any s w hs).mono ?_
  rintro e w' ⟨⟨q, _⟩ | ⟨_, rfl⟩, ew⟩
  · exact absurd q h
  · exact ⟨rfl, ew⟩
theorem lies_yes {x n most c : Int} (h : Lie c most x n) (hx : I6 x) (hc : 512 ≤ c ∧ c ≤ 65536) (w : World) : Calls Try.prog 63 #[.int .i64 x, .int .i64 n, .int .i64 most, .int .i64 c] w fun e w' => e = .returned (.bool true) ∧ w = w' := by
  refine (lies_any x n most c w hx hc).mono ?_
  rintro e w' ⟨⟨_, rfl⟩ | ⟨q, _⟩, ew⟩
  · exact ⟨rfl, ew⟩
  · exact absurd h q
theorem lies_no {x n most c : Int} (h : ¬ Lie c most x n) (hx : I6 x) (hc : 512 ≤ c ∧ c ≤ 65536) (w : World) : Calls Try.prog 63 #[.int .i64 x, .int .i64 n, .int .i64 most, .int .i64 c] w fun e w' => e = .returned (.bool false) ∧ w = w' := by
  refine (lies_any x n most c w hx hc).mono ?_
  rintro e w' ⟨⟨q, _⟩ | ⟨_, rfl⟩, ew⟩
  · exact absurd q h
  · exact ⟨rfl, ew⟩
end Go.Proofs.Ytjjhkfhppoioiaa
