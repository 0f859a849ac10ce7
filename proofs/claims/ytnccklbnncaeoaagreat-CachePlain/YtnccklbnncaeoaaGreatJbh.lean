import Derived.Test.YtnccklbnncaeoaaGreatJam
import Derived.Sort.KeysCollected
import Derived.Maps.Range
import Derived.StringKeys
/- A map of ours (Mp) as the library's owned map. -/
namespace Go.Proofs.YtnccklbnncaeoaaGreat
open Go.RowKit Go.Maps Go.Sort
open Go.WideElems (Fit rd rg)
open Go.ChangeMaps Go.MapKept Go.WideShapes Go.WideMaps

/-- Whatever lies in the map: it reads as nothing. -/
def anyR (_ : Value) : Option (DataW Unit × List MemPlace) := some (.nil, [])
theorem rg_ent (e : ByteArray × Value × Nat) (h : e.1.size ≤ 64) : Go.WideElems.rd Tryz.prog 9 anyR (ent Value.string e) = some (.string e.1.data.toList, .nil) := by
  unfold Go.WideElems.rd ent
  rw [keyOf_string_mk Tryz.underlying9 (by unfold maxLen; omega)]
  rfl
theorem mp_owns {w : World} {b c : Nat} {es : List (ByteArray × Value × Nat)} (h : Mp Value.string w b es c) (hk : ∀ e ∈ es, e.1.size ≤ 64) (hl : es.length ≤ 256) : ∃ D0, w.ownsMap Tryz.prog 9 anyR b es.length D0 ∧ (strKeys D0).Perm (es.map (fun e => e.1.data.toList)) ∧ Maps.size D0 = es.length := by
  refine ⟨_, ⟨(es.map (ent Value.string)).toArray, c, h.1, ⟨by simp; unfold maxLen; omega, ⟨?_, ?_, ?_⟩, ?_⟩, by simp, rfl⟩, ?_, ?_⟩
  · intro x hx
    simp only [List.mem_map] at hx
    obtain ⟨e, he, rfl⟩ := hx
    exact h.2.2.2 e he
  · have := h.2.2.1
    simpa [List.map_map, Function.comp_def, ent] using this
  · have := h.2.1
    have h2 : (es.map (fun e => Value.string e.1)).Nodup := by
      rw [show (es.map (fun e => Value.string e.1)) = (es.map (·.1)).map Value.string by simp [List.map_map, Function.comp_def]]
      exact List.Pairwise.map _ (fun a b hab e => hab (by cases e; rfl)) this
    simpa [List.map_map, Function.comp_def, ent] using h2
  · intro x hx
    simp only [List.mem_map] at hx
    obtain ⟨e, he, rfl⟩ := hx
    exact ⟨_, rg_ent e (hk e he)⟩
  · unfold strKeys
    refine ((sorted_perm _).map _).trans ?_
    rw [List.map_map]
    refine List.Perm.of_eq ?_
    rw [List.map_map]
    refine List.map_congr_left (fun e he => ?_)
    simp only [Function.comp]
    unfold Go.WideElems.rg
    rw [rg_ent e (hk e he)]
    rfl
  · unfold Maps.size
    have := (sorted_perm ((es.map (ent Value.string)).map (Go.WideElems.rg Tryz.prog 9 anyR))).length_eq
    simpa using this
end Go.Proofs.YtnccklbnncaeoaaGreat
