/- What a crash leaves where there are no pieces: the same files. -/
import Derived.Test.YtalicohflfildaaCa
import Derived.Test.YtalicohflfildaaFg
namespace Go.Proofs.Ytalicohflfildaa
open Go.RowKit

/-- Each file of the one is a file of the other, and has no pieces. -/
def Tw (fs fs' : List Fe) : Prop := fs.length = fs'.length ∧ ∀ f ∈ fs, f.2.2.ps = [] ∧ ∃ f', fget fs' f.1 = some f' ∧ f'.2.2 = f.2.2
theorem crf_flat {fs : List Fe} (h : ∀ f ∈ fs, f.2.2.ps = []) (zs : List Int) (K : Nat) (s : ByteArray) : crf fs zs K s = crf fs [] 0 s := by
  unfold crf
  cases hq : fget fs s with
  | none => rfl
  | some f => simp only [h f (fget_mem hq), pks]
theorem crl_flat {fs : List Fe} (h : ∀ f ∈ fs, f.2.2.ps = []) (zs : List Int) (K : Nat) (l : List ByteArray) : crl fs zs K l = l.map (fun s => (s, crf fs [] 0 s)) := by
  induction l generalizing K with
  | nil => rfl
  | cons s l ih => simp only [crl, List.map_cons, ih, crf_flat h zs K s]
theorem tw_left {fs fa fb : List Fe} {l : List ByteArray} (ha : fa.map (fun f => (f.1, f.2.2)) = l.map (fun s => (s, crf fs [] 0 s))) (hb : fb.map (fun f => (f.1, f.2.2)) = l.map (fun s => (s, crf fs [] 0 s))) (hn : (fb.map (·.1)).Nodup) : Tw fa fb := by
  refine ⟨?_, fun f hf => ?_⟩
  · have h1 := congrArg List.length ha
    have h2 := congrArg List.length hb
    simp at h1 h2
    omega
  · have h1 : (f.1, f.2.2) ∈ fa.map (fun f => (f.1, f.2.2)) := List.mem_map.2 ⟨f, hf, rfl⟩
    have h2 := h1
    rw [ha] at h2
    obtain ⟨s, _, h3⟩ := List.mem_map.1 h2
    simp only [Prod.mk.injEq] at h3
    rw [ha, ← hb] at h1
    obtain ⟨f', hf', h4⟩ := List.mem_map.1 h1
    simp only [Prod.mk.injEq] at h4
    refine ⟨?_, f', ?_, h4.2⟩
    · rw [← h3.2]
      unfold crf
      split <;> rfl
    · rw [← h4.1]; exact fget_self hn hf'
theorem tw_old {fs fa : List Fe} {l : List ByteArray} (h : ∀ f ∈ fs, f.2.2.ps = []) (hl : l.Perm (fs.map (·.1))) (ha : fa.map (fun f => (f.1, f.2.2)) = l.map (fun s => (s, crf fs [] 0 s))) : Tw fa fs := by
  refine ⟨?_, fun f hf => ?_⟩
  · have h1 := congrArg List.length ha
    have h2 := hl.length_eq
    simp at h1 h2
    omega
  · have h1 : (f.1, f.2.2) ∈ fa.map (fun f => (f.1, f.2.2)) := List.mem_map.2 ⟨f, hf, rfl⟩
    rw [ha] at h1
    obtain ⟨s, hs, h3⟩ := List.mem_map.1 h1
    simp only [Prod.mk.injEq] at h3
    obtain ⟨x, hx⟩ := fget_some (fs := fs) (s := s) (hl.mem_iff.1 hs)
    have h5 := h x (fget_mem hx)
    have h6 : crf fs [] 0 s = x.2.2 := by
      unfold crf
      rw [hx]
      obtain ⟨n, a, ⟨sz, L, ps⟩⟩ := x
      simp only at h5
      subst h5
      rfl
    refine ⟨?_, x, ?_, ?_⟩
    · rw [← h3.2, h6]; exact h5
    · rw [← h3.1]; exact hx
    · rw [← h3.2, h6]
/-- A flush in the midst. -/
theorem gfl_all (q : Gf) : gfl q (lft 0 0 q.ps.length) = ⟨q.sz, ovs q.L q.ps, []⟩ := by
  unfold gfl lft
  rw [if_pos rfl, List.take_length, List.drop_length]
end Go.Proofs.Ytalicohflfildaa
