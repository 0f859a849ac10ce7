/- Bytes as a string; a row of one's own with 77 behind it; what CountsOne keeps. -/
import Derived.Test.YtjhgkcbpllgdiaaDoorKn
import Derived.Test.YtjhgkcbpllgdiaaDoorRb
import Derived.Laws.BytesArg
namespace Go.Proofs.YtjhgkcbpllgdiaaDoor
open Go.RowKit
set_option linter.unusedVariables false
theorem run_convert_rw {P : Program} (w : World) (src dst e : TypeId) (hs : P.underlying src = some (.slice e)) (he : P.underlying e = some (.int .u8)) (hd : P.underlying dst = some .string)
    (ao : Option Addr) (len cap : Nat) (xs : List Int) (hlen : xs.length = len) (hpos : 0 < len → ∃ b off, ao = some ⟨b, off, none⟩ ∧ ∀ i, i < len → w.cell? ⟨b, off + i, none⟩ = some (.int .u8 (xs.getD i 0))) :
    (convert src dst (.slice ao len cap)).run P w = .ok (.string (strOfNums xs)) w := by
  by_cases h0 : len = 0
  · subst h0
    obtain rfl : xs = [] := List.eq_nil_of_length_eq_zero hlen
    cases ao with
    | none => rw [run_convert_bytes_nil w src e hs he 0 cap dst hd]; rfl
    | some a =>
      rw [run_convert_bytes_string w src dst e _ 0 cap hs he hd, run_bytesToString w a 0 cap [] (by simp [loadCells, loadCellsFrom])]
      rfl
  · obtain ⟨b, off, rfl, hc⟩ := hpos (by omega)
    exact run_convert_bytes_arg w src e hs he b off len cap xs hlen hc dst hd
theorem cv {w : World} {ao : Option Addr} {len c : Nat} {xs : List Int} (hl : xs.length = len) (h : Src .u8 w ao xs) : (convert 22 9 (.slice ao len c)).run Tryd.prog w = .ok (.string (strOfNums xs)) w := by
  subst hl
  exact run_convert_rw w 22 9 5 Tryd.underlying22 Tryd.underlying5 Tryd.underlying9 ao _ c xs rfl h
theorem own_form {w : World} {base : Nat} {v : Value} {zs : List Int} {z : Int} (h : OwnI .u8 5 w base v ([] ++ zs ++ [z])) :
    ∃ G c tl, v = .slice (some ⟨G, 0, none⟩) (zs.length + 1) c ∧ base ≤ G ∧ Rw .u8 5 w G (zs ++ (z :: tl)) ∧ zs.length + 1 ≤ c ∧ c ≤ maxLen := by
  rcases h with ⟨_, h2⟩ | ⟨g, cap, tl, rfl, hb, hr, h3, h4⟩
  · simp at h2
  · exact ⟨g, cap, tl, by simp, hb, by simpa using hr, by simp at h3; omega, h4⟩
theorem own_pos {w : World} {base : Nat} {v : Value} {zs : List Int} (h : OwnI .u8 5 w base v zs) (hp : 0 < zs.length) :
    ∃ G c tl, v = .slice (some ⟨G, 0, none⟩) zs.length c ∧ base ≤ G ∧ Rw .u8 5 w G (zs ++ tl) := by
  rcases h with ⟨_, h2⟩ | ⟨g, cap, tl, rfl, hb, hr, h3, h4⟩
  · rw [h2] at hp; simp at hp
  · exact ⟨g, cap, tl, rfl, hb, hr⟩
theorem row_at {w : World} {G : Nat} {zs tl : List Int} {z : Int} {len : Nat} (hl : zs.length = len) (h : Rw .u8 5 w G (zs ++ z :: tl)) : w.cell? ⟨G, len, none⟩ = some (.int .u8 z) := by
  subst hl
  rw [h.cell zs.length (by simp)]
  simp [List.getD]
/-- What CountsOne keeps: its own row, the bytes that came in. -/
structure OnI (w : World) (ao : Option Addr) (zs : List Int) (G : Nat) (ys tl : List Int) (X : World) : Prop where
  kp : Kp (fun _ => False) w X
  src : Src .u8 X ao zs
  row : Rw .u8 5 X G (ys ++ (77 :: tl))
  wd : Wd X
theorem OnI.same {w : World} {ao : Option Addr} {zs : List Int} {G : Nat} {ys tl : List Int} {X Y : World} (h : OnI w ao zs G ys tl X) (k : Kp (fun _ => False) X Y) : OnI w ao zs G ys tl Y :=
  ⟨h.kp.trans k (fun _ _ x => x), h.src.kp0 k, h.row.kp k (fun x => x), h.wd.kp k (fun x => x)⟩
theorem src_lt {w : World} {b off : Nat} {zs : List Int} (h : Src .u8 w (some ⟨b, off, none⟩) zs) (hp : 0 < zs.length) : b < w.heap.size := block_lt_of_cell (h.at 0 hp)
theorem src_kp {w w' : World} {ao : Option Addr} {zs : List Int} {G : Nat} (h : Src .u8 w ao zs) (k : Kp (fun j => j = G) w w') (hne : 0 < zs.length → ∀ b off, ao = some ⟨b, off, none⟩ → b ≠ G) : Src .u8 w' ao zs := by
  intro hp
  obtain ⟨b, off, e, hc⟩ := h hp
  exact ⟨b, off, e, fun i hi => kp_cell k (hc i hi) (hne hp b off e)⟩
theorem OnI.turn {w : World} {ao : Option Addr} {zs : List Int} {G : Nat} {ys zs' tl : List Int} {X Y : World} (h : OnI w ao zs G ys tl X) (s0 : Src .u8 w ao zs) (hg : w.heap.size ≤ G) (h0 : 0 < w.heap.size) (r : Rw .u8 5 Y G (zs' ++ (77 :: tl))) (k : Kp (fun i => i = G) X Y) : OnI w ao zs G zs' tl Y :=
  ⟨h.kp.trans k (fun i h1 h2 => by omega), src_kp h.src k (fun hp b off e => by subst e; have := src_lt s0 hp; omega), r, h.wd.kp k (fun e => by omega)⟩
end Go.Proofs.YtjhgkcbpllgdiaaDoor
