/- sectors.cut: noughts from a size on. -/
import Derived.Test.YtalicohflfildaaDg
import Derived.Test.YtalicohflfildaaFr
namespace Go.Proofs.Ytalicohflfildaa
open Go.RowKit

def cutf (n : Nat) (f : Nat → Int) : Nat → Int := fun i => if i < n then f i else 0
theorem cutf_zero (n : Nat) : cutf n zero = zero := by
  funext i
  unfold cutf zero
  split <;> rfl
theorem sec_cut_low {n k : Nat} {f : Nat → Int} (h : 512 * k + 512 ≤ n) : sec (cutf n f) k = sec f k := by
  rw [sec_ext]
  intro i hi
  unfold cutf
  rw [if_pos (by omega)]
theorem sec_cut_high {n k : Nat} {f g : Nat → Int} (h : n ≤ 512 * k) : sec (cutf n f) k = sec (cutf n g) k := by
  rw [sec_ext]
  intro i hi
  unfold cutf
  rw [if_neg (by omega), if_neg (by omega)]
theorem sec_cut_congr {n k : Nat} {f g : Nat → Int} (h : sec f k = sec g k) : sec (cutf n f) k = sec (cutf n g) k := by
  rw [sec_ext] at h ⊢
  intro i hi
  unfold cutf
  rw [h i hi]
theorem sec_at {f : Nat → Int} {k i : Nat} (h : i < 512) : (sec f k).getD i 0 = f (512 * k + i) := by
  unfold sec
  rw [List.getD_eq_getElem?_getD, List.getElem?_map, List.getElem?_range h]
  rfl
theorem sec_cut_mid {n : Nat} {f : Nat → Int} : splice (List.replicate 512 0) 0 ((sec f (n / 512)).take (n % 512)) = sec (cutf n f) (n / 512) := by
  have hl : ((sec f (n / 512)).take (n % 512)).length = n % 512 := by rw [List.length_take, sec_len]; omega
  have hr : 0 + ((sec f (n / 512)).take (n % 512)).length ≤ (List.replicate 512 (0 : Int)).length := by rw [hl, List.length_replicate]; omega
  have hs : (splice (List.replicate 512 0) 0 ((sec f (n / 512)).take (n % 512))).length = 512 := by rw [length_splice _ _ _ hr, List.length_replicate]
  refine ext_getD (by rw [hs, sec_len]) fun i hi => ?_
  rw [hs] at hi
  rw [getD_splice _ _ _ _ hr, sec_at hi, hl]
  unfold cutf
  by_cases h : i < n % 512
  · rw [if_pos ⟨Nat.zero_le _, by omega⟩, if_pos (by omega), Nat.sub_zero, ← sec_at (f := f) (k := n / 512) hi]
    simp only [List.getD_eq_getElem?_getD, List.getElem?_take, if_pos h]
  · rw [if_neg (by omega), if_neg (by omega)]
    rw [List.getD_eq_getElem?_getD, List.getElem?_replicate, if_pos hi]; rfl
theorem mget_cut (es : List (Int × Value × Nat)) (sz k : Int) : mget (es.filter (fun e => !pdl sz e)) k = if sz ≤ k * 512 then none else mget es k := by
  induction es with
  | nil => simp [mget]
  | cons e es ih =>
    by_cases hp : pdl sz e = true
    · rw [List.filter_cons_of_neg (by simp [hp]), ih]
      by_cases hk : k = e.1
      · have : sz ≤ k * 512 := by rw [hk]; simpa [pdl] using hp
        rw [if_pos this, if_pos this]
      · rw [show mget (e :: es) k = mget es k by unfold mget; rw [if_neg hk]; cases es <;> rfl]
    · rw [List.filter_cons_of_pos (by simpa using hp)]
      unfold mget
      by_cases hk : k = e.1
      · have : ¬ sz ≤ k * 512 := by rw [hk]; simpa [pdl] using hp
        rw [if_pos hk, if_pos hk, if_neg this]
      · rw [if_neg hk, if_neg hk]
        exact ih
/-- The map behind the cut: without a sector that the size lies in. -/
theorem sm_cut0 {D : Nat → Prop} {w W : World} {m c sz : Nat} {f d : Nat → Int} {es : List (Int × Value × Nat)} (h : Sm D w m f d es c) (hm : Mp (Value.int .i64) W m (es.filter (fun e => !pdl (sz : Int) e)) c) (k : Kp (fun i => i = m) w W) (hD : ∀ i, D i → ¬ i = m) (h0 : mget (es.filter (fun e => !pdl (sz : Int) e)) ((sz / 512 : Nat) : Int) = none) : Sm D W m (cutf sz f) (cutf sz d) (es.filter (fun e => !pdl (sz : Int) e)) c := by
  refine ⟨hm, fun e he => h.ks e (List.mem_filter.1 he).1, fun j u hu => ?_, fun j hj => ?_⟩
  · rw [mget_cut] at hu
    by_cases hs : (sz : Int) ≤ (j : Int) * 512
    · rw [if_pos hs] at hu; cases hu
    · rw [if_neg hs] at hu
      have hjk : j ≠ sz / 512 := fun e => by
        rw [← e, mget_cut, if_neg hs, hu] at h0; cases h0
      rw [sec_cut_low (by omega)]
      exact (h.so j u hu).kp k hD
  · rw [mget_cut] at hj
    by_cases hs : (sz : Int) ≤ (j : Int) * 512
    · exact sec_cut_high (by omega)
    · rw [if_neg hs] at hj
      exact sec_cut_congr (h.no j hj)
theorem sm_cut1 {D D' : Nat → Prop} {w W : World} {m c sz : Nat} {f d : Nat → Int} {es : List (Int × Value × Nat)} {v : Value} (h : Sm D w m f d es c) (hm : Mp (Value.int .i64) W m (mput (es.filter (fun e => !pdl (sz : Int) e)) ((sz / 512 : Nat) : Int) v c) (mclk (es.filter (fun e => !pdl (sz : Int) e)) ((sz / 512 : Nat) : Int) c)) (k : Kp (fun i => i = m) w W) (hD : ∀ i, D i → ¬ i = m) (hd : ∀ i, D i → D' i) (hv : Bs D' W v (sec (cutf sz f) (sz / 512))) (hsz : sz ≤ 268435456) : Sm D' W m (cutf sz f) (cutf sz d) (mput (es.filter (fun e => !pdl (sz : Int) e)) ((sz / 512 : Nat) : Int) v c) (mclk (es.filter (fun e => !pdl (sz : Int) e)) ((sz / 512 : Nat) : Int) c) := by
  refine ⟨hm, fun e he => ?_, fun j u hu => ?_, fun j hj => ?_⟩
  · rcases mem_mput he with h1 | h1
    · exact ⟨sz / 512, h1, by omega⟩
    · exact h.ks e (List.mem_filter.1 h1).1
  · rw [mget_put] at hu
    by_cases hjk : j = sz / 512
    · rw [if_pos (by rw [hjk])] at hu
      cases hu
      rw [hjk]; exact hv
    · rw [if_neg (by omega), mget_cut] at hu
      by_cases hs : (sz : Int) ≤ (j : Int) * 512
      · rw [if_pos hs] at hu; cases hu
      · rw [if_neg hs] at hu
        rw [sec_cut_low (by omega)]
        exact ((h.so j u hu).kp k hD).mono (fun i _ hi => hd i hi)
  · rw [mget_put] at hj
    by_cases hjk : j = sz / 512
    · rw [if_pos (by rw [hjk])] at hj; cases hj
    · rw [if_neg (by omega), mget_cut] at hj
      by_cases hs : (sz : Int) ≤ (j : Int) * 512
      · exact sec_cut_high (by omega)
      · rw [if_neg hs] at hj
        exact sec_cut_congr (h.no j hj)
end Go.Proofs.Ytalicohflfildaa
