/- The document's numbers at places. -/
import Derived.Test.YtejdmnhdjeogaaaTa
import Derived.Test.YtejdmnhdjeogaaaRefN
import Derived.Test.YtejdmnhdjeogaaaHm
namespace Go.Proofs.Ytejdmnhdjeogaaa
open Go.RowKit
set_option linter.unusedVariables false
set_option maxRecDepth 100000 in
set_option maxHeartbeats 1000000 in
theorem rn_4 (g off n cap : Nat) (zs : List Int) (w : World) (hz : Bz w g off n cap zs) (h5 : 512 ≤ n) : Calls Try.prog 32 #[.slice (some ⟨g, off, none⟩) n cap, .int .i64 4, .int .i64 4] w fun e w' => e = .returned (.int .i64 (rfn (val (seg zs 4 4)))) ∧ w = w' := by
  have hlen := hz.len
  have hcap := hz.cap
  have hc := hz.src
  have hb := hz.byt
  have hvb := val_bound (seg zs 4 4) (hb.seg _ _)
  have c2 : (8 : Int) ≤ (cap : Int) := by omega
  have hx1 : val (seg zs 4 4) < 18446744073709551616 := by rw [seg_len _ _ _ (by omega)] at hvb; exact Int.lt_of_lt_of_le hvb.2 (by decide)
  have hx0 := hvb.1
  have V := fun c => hid (value_seg g off c zs 4 4 w hb (by omega) (by omega) hc)
  obtain ⟨X, hX⟩ : ∃ X, X = val (seg zs 4 4) := ⟨_, rfl⟩
  have V2 : ∀ c, Hid (Calls Try.prog 33 #[.slice (some ⟨g, off + 4, none⟩) 4 c] w fun e w' => e = .returned (.int .u64 X) ∧ w = w') := by rw [hX]; exact V
  rw [← hX] at hx1 hx0 ⊢
  clear hX V hc hb hz hvb
  by_cases hbig : 4611686018427387904 < X
  · have hr : rfn X = -1 := by unfold rfn; rw [if_pos hbig]
    rw [hr]
    clear hr
    go_enter Try.func32, Try.ntmps32
    go_wp2_with (go_at_call 33; refine (V2 _).out.mono ?_; rintro e w' ⟨rfl, rfl⟩)
    go_ret
    exact ⟨rfl, rfl⟩
  · have hr : rfn X = X := by unfold rfn; rw [if_neg hbig]
    have hw : IntKind.i64.wrap X = X := by rw [IntKind.wrap_i64]; omega
    rw [hr]
    clear hr
    go_enter Try.func32, Try.ntmps32
    go_wp2_with (go_at_call 33; refine (V2 _).out.mono ?_; rintro e w' ⟨rfl, rfl⟩)
    go_ret
    exact ⟨rfl, rfl⟩
set_option maxRecDepth 100000 in
set_option maxHeartbeats 1000000 in
theorem rn_16 (g off n cap : Nat) (zs : List Int) (w : World) (hz : Bz w g off n cap zs) (h5 : 512 ≤ n) : Calls Try.prog 32 #[.slice (some ⟨g, off, none⟩) n cap, .int .i64 16, .int .i64 8] w fun e w' => e = .returned (.int .i64 (rfn (val (seg zs 16 8)))) ∧ w = w' := by
  have hlen := hz.len
  have hcap := hz.cap
  have hc := hz.src
  have hb := hz.byt
  have hvb := val_bound (seg zs 16 8) (hb.seg _ _)
  have c2 : (24 : Int) ≤ (cap : Int) := by omega
  have hx1 : val (seg zs 16 8) < 18446744073709551616 := by rw [seg_len _ _ _ (by omega)] at hvb; exact Int.lt_of_lt_of_le hvb.2 (by decide)
  have hx0 := hvb.1
  have V := fun c => hid (value_seg g off c zs 16 8 w hb (by omega) (by omega) hc)
  obtain ⟨X, hX⟩ : ∃ X, X = val (seg zs 16 8) := ⟨_, rfl⟩
  have V2 : ∀ c, Hid (Calls Try.prog 33 #[.slice (some ⟨g, off + 16, none⟩) 8 c] w fun e w' => e = .returned (.int .u64 X) ∧ w = w') := by rw [hX]; exact V
  rw [← hX] at hx1 hx0 ⊢
  clear hX V hc hb hz hvb
  by_cases hbig : 4611686018427387904 < X
  · have hr : rfn X = -1 := by unfold rfn; rw [if_pos hbig]
    rw [hr]
    clear hr
    go_enter Try.func32, Try.ntmps32
    go_wp2_with (go_at_call 33; refine (V2 _).out.mono ?_; rintro e w' ⟨rfl, rfl⟩)
    go_ret
    exact ⟨rfl, rfl⟩
  · have hr : rfn X = X := by unfold rfn; rw [if_neg hbig]
    have hw : IntKind.i64.wrap X = X := by rw [IntKind.wrap_i64]; omega
    rw [hr]
    clear hr
    go_enter Try.func32, Try.ntmps32
    go_wp2_with (go_at_call 33; refine (V2 _).out.mono ?_; rintro e w' ⟨rfl, rfl⟩)
    go_ret
    exact ⟨rfl, rfl⟩
set_option maxRecDepth 100000 in
set_option maxHeartbeats 1000000 in
theorem rn_24 (g off n cap : Nat) (zs : List Int) (w : World) (hz : Bz w g off n cap zs) (h5 : 512 ≤ n) : Calls Try.prog 32 #[.slice (some ⟨g, off, none⟩) n cap, .int .i64 24, .int .i64 8] w fun e w' => e = .returned (.int .i64 (rfn (val (seg zs 24 8)))) ∧ w = w' := by
  have hlen := hz.len
  have hcap := hz.cap
  have hc := hz.src
  have hb := hz.byt
  have hvb := val_bound (seg zs 24 8) (hb.seg _ _)
  have c2 : (32 : Int) ≤ (cap : Int) := by omega
  have hx1 : val (seg zs 24 8) < 18446744073709551616 := by rw [seg_len _ _ _ (by omega)] at hvb; exact Int.lt_of_lt_of_le hvb.2 (by decide)
  have hx0 := hvb.1
  have V := fun c => hid (value_seg g off c zs 24 8 w hb (by omega) (by omega) hc)
  obtain ⟨X, hX⟩ : ∃ X, X = val (seg zs 24 8) := ⟨_, rfl⟩
  have V2 : ∀ c, Hid (Calls Try.prog 33 #[.slice (some ⟨g, off + 24, none⟩) 8 c] w fun e w' => e = .returned (.int .u64 X) ∧ w = w') := by rw [hX]; exact V
  rw [← hX] at hx1 hx0 ⊢
  clear hX V hc hb hz hvb
  by_cases hbig : 4611686018427387904 < X
  · have hr : rfn X = -1 := by unfold rfn; rw [if_pos hbig]
    rw [hr]
    clear hr
    go_enter Try.func32, Try.ntmps32
    go_wp2_with (go_at_call 33; refine (V2 _).out.mono ?_; rintro e w' ⟨rfl, rfl⟩)
    go_ret
    exact ⟨rfl, rfl⟩
  · have hr : rfn X = X := by unfold rfn; rw [if_neg hbig]
    have hw : IntKind.i64.wrap X = X := by rw [IntKind.wrap_i64]; omega
    rw [hr]
    clear hr
    go_enter Try.func32, Try.ntmps32
    go_wp2_with (go_at_call 33; refine (V2 _).out.mono ?_; rintro e w' ⟨rfl, rfl⟩)
    go_ret
    exact ⟨rfl, rfl⟩
set_option maxRecDepth 100000 in
set_option maxHeartbeats 1000000 in
theorem rn_32 (g off n cap : Nat) (zs : List Int) (w : World) (hz : Bz w g off n cap zs) (h5 : 512 ≤ n) : Calls Try.prog 32 #[.slice (some ⟨g, off, none⟩) n cap, .int .i64 32, .int .i64 4] w fun e w' => e = .returned (.int .i64 (rfn (val (seg zs 32 4)))) ∧ w = w' := by
  have hlen := hz.len
  have hcap := hz.cap
  have hc := hz.src
  have hb := hz.byt
  have hvb := val_bound (seg zs 32 4) (hb.seg _ _)
  have c2 : (36 : Int) ≤ (cap : Int) := by omega
  have hx1 : val (seg zs 32 4) < 18446744073709551616 := by rw [seg_len _ _ _ (by omega)] at hvb; exact Int.lt_of_lt_of_le hvb.2 (by decide)
  have hx0 := hvb.1
  have V := fun c => hid (value_seg g off c zs 32 4 w hb (by omega) (by omega) hc)
  obtain ⟨X, hX⟩ : ∃ X, X = val (seg zs 32 4) := ⟨_, rfl⟩
  have V2 : ∀ c, Hid (Calls Try.prog 33 #[.slice (some ⟨g, off + 32, none⟩) 4 c] w fun e w' => e = .returned (.int .u64 X) ∧ w = w') := by rw [hX]; exact V
  rw [← hX] at hx1 hx0 ⊢
  clear hX V hc hb hz hvb
  by_cases hbig : 4611686018427387904 < X
  · have hr : rfn X = -1 := by unfold rfn; rw [if_pos hbig]
    rw [hr]
    clear hr
    go_enter Try.func32, Try.ntmps32
    go_wp2_with (go_at_call 33; refine (V2 _).out.mono ?_; rintro e w' ⟨rfl, rfl⟩)
    go_ret
    exact ⟨rfl, rfl⟩
  · have hr : rfn X = X := by unfold rfn; rw [if_neg hbig]
    have hw : IntKind.i64.wrap X = X := by rw [IntKind.wrap_i64]; omega
    rw [hr]
    clear hr
    go_enter Try.func32, Try.ntmps32
    go_wp2_with (go_at_call 33; refine (V2 _).out.mono ?_; rintro e w' ⟨rfl, rfl⟩)
    go_ret
    exact ⟨rfl, rfl⟩
set_option maxRecDepth 100000 in
set_option maxHeartbeats 1000000 in
theorem rn_36 (g off n cap : Nat) (zs : List Int) (w : World) (hz : Bz w g off n cap zs) (h5 : 512 ≤ n) : Calls Try.prog 32 #[.slice (some ⟨g, off, none⟩) n cap, .int .i64 36, .int .i64 4] w fun e w' => e = .returned (.int .i64 (rfn (val (seg zs 36 4)))) ∧ w = w' := by
  have hlen := hz.len
  have hcap := hz.cap
  have hc := hz.src
  have hb := hz.byt
  have hvb := val_bound (seg zs 36 4) (hb.seg _ _)
  have c2 : (40 : Int) ≤ (cap : Int) := by omega
  have hx1 : val (seg zs 36 4) < 18446744073709551616 := by rw [seg_len _ _ _ (by omega)] at hvb; exact Int.lt_of_lt_of_le hvb.2 (by decide)
  have hx0 := hvb.1
  have V := fun c => hid (value_seg g off c zs 36 4 w hb (by omega) (by omega) hc)
  obtain ⟨X, hX⟩ : ∃ X, X = val (seg zs 36 4) := ⟨_, rfl⟩
  have V2 : ∀ c, Hid (Calls Try.prog 33 #[.slice (some ⟨g, off + 36, none⟩) 4 c] w fun e w' => e = .returned (.int .u64 X) ∧ w = w') := by rw [hX]; exact V
  rw [← hX] at hx1 hx0 ⊢
  clear hX V hc hb hz hvb
  by_cases hbig : 4611686018427387904 < X
  · have hr : rfn X = -1 := by unfold rfn; rw [if_pos hbig]
    rw [hr]
    clear hr
    go_enter Try.func32, Try.ntmps32
    go_wp2_with (go_at_call 33; refine (V2 _).out.mono ?_; rintro e w' ⟨rfl, rfl⟩)
    go_ret
    exact ⟨rfl, rfl⟩
  · have hr : rfn X = X := by unfold rfn; rw [if_neg hbig]
    have hw : IntKind.i64.wrap X = X := by rw [IntKind.wrap_i64]; omega
    rw [hr]
    clear hr
    go_enter Try.func32, Try.ntmps32
    go_wp2_with (go_at_call 33; refine (V2 _).out.mono ?_; rintro e w' ⟨rfl, rfl⟩)
    go_ret
    exact ⟨rfl, rfl⟩
set_option maxRecDepth 100000 in
set_option maxHeartbeats 1000000 in
theorem rn_40 (g off n cap : Nat) (zs : List Int) (w : World) (hz : Bz w g off n cap zs) (h5 : 512 ≤ n) : Calls Try.prog 32 #[.slice (some ⟨g, off, none⟩) n cap, .int .i64 40, .int .i64 8] w fun e w' => e = .returned (.int .i64 (rfn (val (seg zs 40 8)))) ∧ w = w' := by
  have hlen := hz.len
  have hcap := hz.cap
  have hc := hz.src
  have hb := hz.byt
  have hvb := val_bound (seg zs 40 8) (hb.seg _ _)
  have c2 : (48 : Int) ≤ (cap : Int) := by omega
  have hx1 : val (seg zs 40 8) < 18446744073709551616 := by rw [seg_len _ _ _ (by omega)] at hvb; exact Int.lt_of_lt_of_le hvb.2 (by decide)
  have hx0 := hvb.1
  have V := fun c => hid (value_seg g off c zs 40 8 w hb (by omega) (by omega) hc)
  obtain ⟨X, hX⟩ : ∃ X, X = val (seg zs 40 8) := ⟨_, rfl⟩
  have V2 : ∀ c, Hid (Calls Try.prog 33 #[.slice (some ⟨g, off + 40, none⟩) 8 c] w fun e w' => e = .returned (.int .u64 X) ∧ w = w') := by rw [hX]; exact V
  rw [← hX] at hx1 hx0 ⊢
  clear hX V hc hb hz hvb
  by_cases hbig : 4611686018427387904 < X
  · have hr : rfn X = -1 := by unfold rfn; rw [if_pos hbig]
    rw [hr]
    clear hr
    go_enter Try.func32, Try.ntmps32
    go_wp2_with (go_at_call 33; refine (V2 _).out.mono ?_; rintro e w' ⟨rfl, rfl⟩)
    go_ret
    exact ⟨rfl, rfl⟩
  · have hr : rfn X = X := by unfold rfn; rw [if_neg hbig]
    have hw : IntKind.i64.wrap X = X := by rw [IntKind.wrap_i64]; omega
    rw [hr]
    clear hr
    go_enter Try.func32, Try.ntmps32
    go_wp2_with (go_at_call 33; refine (V2 _).out.mono ?_; rintro e w' ⟨rfl, rfl⟩)
    go_ret
    exact ⟨rfl, rfl⟩
set_option maxRecDepth 100000 in
set_option maxHeartbeats 1000000 in
theorem rn_48 (g off n cap : Nat) (zs : List Int) (w : World) (hz : Bz w g off n cap zs) (h5 : 512 ≤ n) : Calls Try.prog 32 #[.slice (some ⟨g, off, none⟩) n cap, .int .i64 48, .int .i64 4] w fun e w' => e = .returned (.int .i64 (rfn (val (seg zs 48 4)))) ∧ w = w' := by
  have hlen := hz.len
  have hcap := hz.cap
  have hc := hz.src
  have hb := hz.byt
  have hvb := val_bound (seg zs 48 4) (hb.seg _ _)
  have c2 : (52 : Int) ≤ (cap : Int) := by omega
  have hx1 : val (seg zs 48 4) < 18446744073709551616 := by rw [seg_len _ _ _ (by omega)] at hvb; exact Int.lt_of_lt_of_le hvb.2 (by decide)
  have hx0 := hvb.1
  have V := fun c => hid (value_seg g off c zs 48 4 w hb (by omega) (by omega) hc)
  obtain ⟨X, hX⟩ : ∃ X, X = val (seg zs 48 4) := ⟨_, rfl⟩
  have V2 : ∀ c, Hid (Calls Try.prog 33 #[.slice (some ⟨g, off + 48, none⟩) 4 c] w fun e w' => e = .returned (.int .u64 X) ∧ w = w') := by rw [hX]; exact V
  rw [← hX] at hx1 hx0 ⊢
  clear hX V hc hb hz hvb
  by_cases hbig : 4611686018427387904 < X
  · have hr : rfn X = -1 := by unfold rfn; rw [if_pos hbig]
    rw [hr]
    clear hr
    go_enter Try.func32, Try.ntmps32
    go_wp2_with (go_at_call 33; refine (V2 _).out.mono ?_; rintro e w' ⟨rfl, rfl⟩)
    go_ret
    exact ⟨rfl, rfl⟩
  · have hr : rfn X = X := by unfold rfn; rw [if_neg hbig]
    have hw : IntKind.i64.wrap X = X := by rw [IntKind.wrap_i64]; omega
    rw [hr]
    clear hr
    go_enter Try.func32, Try.ntmps32
    go_wp2_with (go_at_call 33; refine (V2 _).out.mono ?_; rintro e w' ⟨rfl, rfl⟩)
    go_ret
    exact ⟨rfl, rfl⟩
set_option maxRecDepth 100000 in
set_option maxHeartbeats 1000000 in
theorem rn_52 (g off n cap : Nat) (zs : List Int) (w : World) (hz : Bz w g off n cap zs) (h5 : 512 ≤ n) : Calls Try.prog 32 #[.slice (some ⟨g, off, none⟩) n cap, .int .i64 52, .int .i64 4] w fun e w' => e = .returned (.int .i64 (rfn (val (seg zs 52 4)))) ∧ w = w' := by
  have hlen := hz.len
  have hcap := hz.cap
  have hc := hz.src
  have hb := hz.byt
  have hvb := val_bound (seg zs 52 4) (hb.seg _ _)
  have c2 : (56 : Int) ≤ (cap : Int) := by omega
  have hx1 : val (seg zs 52 4) < 18446744073709551616 := by rw [seg_len _ _ _ (by omega)] at hvb; exact Int.lt_of_lt_of_le hvb.2 (by decide)
  have hx0 := hvb.1
  have V := fun c => hid (value_seg g off c zs 52 4 w hb (by omega) (by omega) hc)
  obtain ⟨X, hX⟩ : ∃ X, X = val (seg zs 52 4) := ⟨_, rfl⟩
  have V2 : ∀ c, Hid (Calls Try.prog 33 #[.slice (some ⟨g, off + 52, none⟩) 4 c] w fun e w' => e = .returned (.int .u64 X) ∧ w = w') := by rw [hX]; exact V
  rw [← hX] at hx1 hx0 ⊢
  clear hX V hc hb hz hvb
  by_cases hbig : 4611686018427387904 < X
  · have hr : rfn X = -1 := by unfold rfn; rw [if_pos hbig]
    rw [hr]
    clear hr
    go_enter Try.func32, Try.ntmps32
    go_wp2_with (go_at_call 33; refine (V2 _).out.mono ?_; rintro e w' ⟨rfl, rfl⟩)
    go_ret
    exact ⟨rfl, rfl⟩
  · have hr : rfn X = X := by unfold rfn; rw [if_neg hbig]
    have hw : IntKind.i64.wrap X = X := by rw [IntKind.wrap_i64]; omega
    rw [hr]
    clear hr
    go_enter Try.func32, Try.ntmps32
    go_wp2_with (go_at_call 33; refine (V2 _).out.mono ?_; rintro e w' ⟨rfl, rfl⟩)
    go_ret
    exact ⟨rfl, rfl⟩
set_option maxRecDepth 100000 in
set_option maxHeartbeats 1000000 in
theorem rn_56 (g off n cap : Nat) (zs : List Int) (w : World) (hz : Bz w g off n cap zs) (h5 : 512 ≤ n) : Calls Try.prog 32 #[.slice (some ⟨g, off, none⟩) n cap, .int .i64 56, .int .i64 8] w fun e w' => e = .returned (.int .i64 (rfn (val (seg zs 56 8)))) ∧ w = w' := by
  have hlen := hz.len
  have hcap := hz.cap
  have hc := hz.src
  have hb := hz.byt
  have hvb := val_bound (seg zs 56 8) (hb.seg _ _)
  have c2 : (64 : Int) ≤ (cap : Int) := by omega
  have hx1 : val (seg zs 56 8) < 18446744073709551616 := by rw [seg_len _ _ _ (by omega)] at hvb; exact Int.lt_of_lt_of_le hvb.2 (by decide)
  have hx0 := hvb.1
  have V := fun c => hid (value_seg g off c zs 56 8 w hb (by omega) (by omega) hc)
  obtain ⟨X, hX⟩ : ∃ X, X = val (seg zs 56 8) := ⟨_, rfl⟩
  have V2 : ∀ c, Hid (Calls Try.prog 33 #[.slice (some ⟨g, off + 56, none⟩) 8 c] w fun e w' => e = .returned (.int .u64 X) ∧ w = w') := by rw [hX]; exact V
  rw [← hX] at hx1 hx0 ⊢
  clear hX V hc hb hz hvb
  by_cases hbig : 4611686018427387904 < X
  · have hr : rfn X = -1 := by unfold rfn; rw [if_pos hbig]
    rw [hr]
    clear hr
    go_enter Try.func32, Try.ntmps32
    go_wp2_with (go_at_call 33; refine (V2 _).out.mono ?_; rintro e w' ⟨rfl, rfl⟩)
    go_ret
    exact ⟨rfl, rfl⟩
  · have hr : rfn X = X := by unfold rfn; rw [if_neg hbig]
    have hw : IntKind.i64.wrap X = X := by rw [IntKind.wrap_i64]; omega
    rw [hr]
    clear hr
    go_enter Try.func32, Try.ntmps32
    go_wp2_with (go_at_call 33; refine (V2 _).out.mono ?_; rintro e w' ⟨rfl, rfl⟩)
    go_ret
    exact ⟨rfl, rfl⟩
set_option maxRecDepth 100000 in
set_option maxHeartbeats 1000000 in
theorem rn_64 (g off n cap : Nat) (zs : List Int) (w : World) (hz : Bz w g off n cap zs) (h5 : 512 ≤ n) : Calls Try.prog 32 #[.slice (some ⟨g, off, none⟩) n cap, .int .i64 64, .int .i64 4] w fun e w' => e = .returned (.int .i64 (rfn (val (seg zs 64 4)))) ∧ w = w' := by
  have hlen := hz.len
  have hcap := hz.cap
  have hc := hz.src
  have hb := hz.byt
  have hvb := val_bound (seg zs 64 4) (hb.seg _ _)
  have c2 : (68 : Int) ≤ (cap : Int) := by omega
  have hx1 : val (seg zs 64 4) < 18446744073709551616 := by rw [seg_len _ _ _ (by omega)] at hvb; exact Int.lt_of_lt_of_le hvb.2 (by decide)
  have hx0 := hvb.1
  have V := fun c => hid (value_seg g off c zs 64 4 w hb (by omega) (by omega) hc)
  obtain ⟨X, hX⟩ : ∃ X, X = val (seg zs 64 4) := ⟨_, rfl⟩
  have V2 : ∀ c, Hid (Calls Try.prog 33 #[.slice (some ⟨g, off + 64, none⟩) 4 c] w fun e w' => e = .returned (.int .u64 X) ∧ w = w') := by rw [hX]; exact V
  rw [← hX] at hx1 hx0 ⊢
  clear hX V hc hb hz hvb
  by_cases hbig : 4611686018427387904 < X
  · have hr : rfn X = -1 := by unfold rfn; rw [if_pos hbig]
    rw [hr]
    clear hr
    go_enter Try.func32, Try.ntmps32
    go_wp2_with (go_at_call 33; refine (V2 _).out.mono ?_; rintro e w' ⟨rfl, rfl⟩)
    go_ret
    exact ⟨rfl, rfl⟩
  · have hr : rfn X = X := by unfold rfn; rw [if_neg hbig]
    have hw : IntKind.i64.wrap X = X := by rw [IntKind.wrap_i64]; omega
    rw [hr]
    clear hr
    go_enter Try.func32, Try.ntmps32
    go_wp2_with (go_at_call 33; refine (V2 _).out.mono ?_; rintro e w' ⟨rfl, rfl⟩)
    go_ret
    exact ⟨rfl, rfl⟩
set_option maxRecDepth 100000 in
set_option maxHeartbeats 1000000 in
theorem rn_68 (g off n cap : Nat) (zs : List Int) (w : World) (hz : Bz w g off n cap zs) (h5 : 512 ≤ n) : Calls Try.prog 32 #[.slice (some ⟨g, off, none⟩) n cap, .int .i64 68, .int .i64 4] w fun e w' => e = .returned (.int .i64 (rfn (val (seg zs 68 4)))) ∧ w = w' := by
  have hlen := hz.len
  have hcap := hz.cap
  have hc := hz.src
  have hb := hz.byt
  have hvb := val_bound (seg zs 68 4) (hb.seg _ _)
  have c2 : (72 : Int) ≤ (cap : Int) := by omega
  have hx1 : val (seg zs 68 4) < 18446744073709551616 := by rw [seg_len _ _ _ (by omega)] at hvb; exact Int.lt_of_lt_of_le hvb.2 (by decide)
  have hx0 := hvb.1
  have V := fun c => hid (value_seg g off c zs 68 4 w hb (by omega) (by omega) hc)
  obtain ⟨X, hX⟩ : ∃ X, X = val (seg zs 68 4) := ⟨_, rfl⟩
  have V2 : ∀ c, Hid (Calls Try.prog 33 #[.slice (some ⟨g, off + 68, none⟩) 4 c] w fun e w' => e = .returned (.int .u64 X) ∧ w = w') := by rw [hX]; exact V
  rw [← hX] at hx1 hx0 ⊢
  clear hX V hc hb hz hvb
  by_cases hbig : 4611686018427387904 < X
  · have hr : rfn X = -1 := by unfold rfn; rw [if_pos hbig]
    rw [hr]
    clear hr
    go_enter Try.func32, Try.ntmps32
    go_wp2_with (go_at_call 33; refine (V2 _).out.mono ?_; rintro e w' ⟨rfl, rfl⟩)
    go_ret
    exact ⟨rfl, rfl⟩
  · have hr : rfn X = X := by unfold rfn; rw [if_neg hbig]
    have hw : IntKind.i64.wrap X = X := by rw [IntKind.wrap_i64]; omega
    rw [hr]
    clear hr
    go_enter Try.func32, Try.ntmps32
    go_wp2_with (go_at_call 33; refine (V2 _).out.mono ?_; rintro e w' ⟨rfl, rfl⟩)
    go_ret
    exact ⟨rfl, rfl⟩
set_option maxRecDepth 100000 in
set_option maxHeartbeats 1000000 in
theorem rn_72 (g off n cap : Nat) (zs : List Int) (w : World) (hz : Bz w g off n cap zs) (h5 : 512 ≤ n) : Calls Try.prog 32 #[.slice (some ⟨g, off, none⟩) n cap, .int .i64 72, .int .i64 8] w fun e w' => e = .returned (.int .i64 (rfn (val (seg zs 72 8)))) ∧ w = w' := by
  have hlen := hz.len
  have hcap := hz.cap
  have hc := hz.src
  have hb := hz.byt
  have hvb := val_bound (seg zs 72 8) (hb.seg _ _)
  have c2 : (80 : Int) ≤ (cap : Int) := by omega
  have hx1 : val (seg zs 72 8) < 18446744073709551616 := by rw [seg_len _ _ _ (by omega)] at hvb; exact Int.lt_of_lt_of_le hvb.2 (by decide)
  have hx0 := hvb.1
  have V := fun c => hid (value_seg g off c zs 72 8 w hb (by omega) (by omega) hc)
  obtain ⟨X, hX⟩ : ∃ X, X = val (seg zs 72 8) := ⟨_, rfl⟩
  have V2 : ∀ c, Hid (Calls Try.prog 33 #[.slice (some ⟨g, off + 72, none⟩) 8 c] w fun e w' => e = .returned (.int .u64 X) ∧ w = w') := by rw [hX]; exact V
  rw [← hX] at hx1 hx0 ⊢
  clear hX V hc hb hz hvb
  by_cases hbig : 4611686018427387904 < X
  · have hr : rfn X = -1 := by unfold rfn; rw [if_pos hbig]
    rw [hr]
    clear hr
    go_enter Try.func32, Try.ntmps32
    go_wp2_with (go_at_call 33; refine (V2 _).out.mono ?_; rintro e w' ⟨rfl, rfl⟩)
    go_ret
    exact ⟨rfl, rfl⟩
  · have hr : rfn X = X := by unfold rfn; rw [if_neg hbig]
    have hw : IntKind.i64.wrap X = X := by rw [IntKind.wrap_i64]; omega
    rw [hr]
    clear hr
    go_enter Try.func32, Try.ntmps32
    go_wp2_with (go_at_call 33; refine (V2 _).out.mono ?_; rintro e w' ⟨rfl, rfl⟩)
    go_ret
    exact ⟨rfl, rfl⟩
set_option maxRecDepth 100000 in
set_option maxHeartbeats 1000000 in
theorem rn_80 (g off n cap : Nat) (zs : List Int) (w : World) (hz : Bz w g off n cap zs) (h5 : 512 ≤ n) : Calls Try.prog 32 #[.slice (some ⟨g, off, none⟩) n cap, .int .i64 80, .int .i64 4] w fun e w' => e = .returned (.int .i64 (rfn (val (seg zs 80 4)))) ∧ w = w' := by
  have hlen := hz.len
  have hcap := hz.cap
  have hc := hz.src
  have hb := hz.byt
  have hvb := val_bound (seg zs 80 4) (hb.seg _ _)
  have c2 : (84 : Int) ≤ (cap : Int) := by omega
  have hx1 : val (seg zs 80 4) < 18446744073709551616 := by rw [seg_len _ _ _ (by omega)] at hvb; exact Int.lt_of_lt_of_le hvb.2 (by decide)
  have hx0 := hvb.1
  have V := fun c => hid (value_seg g off c zs 80 4 w hb (by omega) (by omega) hc)
  obtain ⟨X, hX⟩ : ∃ X, X = val (seg zs 80 4) := ⟨_, rfl⟩
  have V2 : ∀ c, Hid (Calls Try.prog 33 #[.slice (some ⟨g, off + 80, none⟩) 4 c] w fun e w' => e = .returned (.int .u64 X) ∧ w = w') := by rw [hX]; exact V
  rw [← hX] at hx1 hx0 ⊢
  clear hX V hc hb hz hvb
  by_cases hbig : 4611686018427387904 < X
  · have hr : rfn X = -1 := by unfold rfn; rw [if_pos hbig]
    rw [hr]
    clear hr
    go_enter Try.func32, Try.ntmps32
    go_wp2_with (go_at_call 33; refine (V2 _).out.mono ?_; rintro e w' ⟨rfl, rfl⟩)
    go_ret
    exact ⟨rfl, rfl⟩
  · have hr : rfn X = X := by unfold rfn; rw [if_neg hbig]
    have hw : IntKind.i64.wrap X = X := by rw [IntKind.wrap_i64]; omega
    rw [hr]
    clear hr
    go_enter Try.func32, Try.ntmps32
    go_wp2_with (go_at_call 33; refine (V2 _).out.mono ?_; rintro e w' ⟨rfl, rfl⟩)
    go_ret
    exact ⟨rfl, rfl⟩
set_option maxRecDepth 100000 in
set_option maxHeartbeats 1000000 in
theorem rn_84 (g off n cap : Nat) (zs : List Int) (w : World) (hz : Bz w g off n cap zs) (h5 : 512 ≤ n) : Calls Try.prog 32 #[.slice (some ⟨g, off, none⟩) n cap, .int .i64 84, .int .i64 4] w fun e w' => e = .returned (.int .i64 (rfn (val (seg zs 84 4)))) ∧ w = w' := by
  have hlen := hz.len
  have hcap := hz.cap
  have hc := hz.src
  have hb := hz.byt
  have hvb := val_bound (seg zs 84 4) (hb.seg _ _)
  have c2 : (88 : Int) ≤ (cap : Int) := by omega
  have hx1 : val (seg zs 84 4) < 18446744073709551616 := by rw [seg_len _ _ _ (by omega)] at hvb; exact Int.lt_of_lt_of_le hvb.2 (by decide)
  have hx0 := hvb.1
  have V := fun c => hid (value_seg g off c zs 84 4 w hb (by omega) (by omega) hc)
  obtain ⟨X, hX⟩ : ∃ X, X = val (seg zs 84 4) := ⟨_, rfl⟩
  have V2 : ∀ c, Hid (Calls Try.prog 33 #[.slice (some ⟨g, off + 84, none⟩) 4 c] w fun e w' => e = .returned (.int .u64 X) ∧ w = w') := by rw [hX]; exact V
  rw [← hX] at hx1 hx0 ⊢
  clear hX V hc hb hz hvb
  by_cases hbig : 4611686018427387904 < X
  · have hr : rfn X = -1 := by unfold rfn; rw [if_pos hbig]
    rw [hr]
    clear hr
    go_enter Try.func32, Try.ntmps32
    go_wp2_with (go_at_call 33; refine (V2 _).out.mono ?_; rintro e w' ⟨rfl, rfl⟩)
    go_ret
    exact ⟨rfl, rfl⟩
  · have hr : rfn X = X := by unfold rfn; rw [if_neg hbig]
    have hw : IntKind.i64.wrap X = X := by rw [IntKind.wrap_i64]; omega
    rw [hr]
    clear hr
    go_enter Try.func32, Try.ntmps32
    go_wp2_with (go_at_call 33; refine (V2 _).out.mono ?_; rintro e w' ⟨rfl, rfl⟩)
    go_ret
    exact ⟨rfl, rfl⟩
theorem rn_v8 (g off n cap c : Nat) (zs : List Int) (w : World) (hz : Bz w g off n cap zs) (h5 : 512 ≤ n) : Calls Try.prog 33 #[.slice (some ⟨g, off + 8, none⟩) 8 c] w fun e w' => e = .returned (.int .u64 (val (seg zs 8 8))) ∧ w = w' :=
  value_seg g off c zs 8 8 w hz.byt (by omega) (by have := hz.len; omega) hz.src
end Go.Proofs.Ytejdmnhdjeogaaa
