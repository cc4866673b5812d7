/- ansi: the document's Put. -/
import Derived.Test.YtednedklkbjihaaDoorAnC
namespace Go.Proofs.YtednedklkbjihaaDoor
open Go.RowKit
set_option linter.unusedVariables false
set_option linter.unusedSimpArgs false

def moreI (n : Int) : Int := if 9999 < n then 9999 else n + 1
theorem numN_more (n : Int) : numN (moreI n) = numN (min n 9999 + 1) := by
  unfold numN moreI
  split <;> omega
theorem more_any (n : Int) (h : -9223372036854775808 ≤ n) (w : World) : Calls Tryd.prog 40 #[.int .i64 n] w fun e w' => e = .returned (.int .i64 (moreI n)) ∧ w = w' := by
  unfold moreI
  by_cases h1 : 9999 < n
  · have d1 : decide (9999 < n) = true := decide_eq_true h1
    rw [if_pos h1]
    go_enter Tryd.func40, Tryd.ntmps40
    go_wp2
    go_ret
    exact ⟨rfl, rfl⟩
  · have d1 : decide (9999 < n) = false := decide_eq_false h1
    have e1 : IntKind.i64.wrap (n + 1) = n + 1 := IntWalk.i64_in _ (by omega)
    have h2 : n ≤ 9999 := by omega
    rw [if_neg h1]
    go_enter Tryd.func40, Tryd.ntmps40
    go_wp2
    go_ret
    exact ⟨rfl, rfl⟩

section
variable {w : World} (a b : Int) (t : ByteArray)
set_option maxRecDepth 100000 in
set_option maxHeartbeats 2000000 in
theorem rput_1 : Calls Tryd.prog 18 #[opV 1 a b t] w fun e w' => e = .returned (.string t) ∧ Below w.heap.size w w' := by
  go_enter Tryd.func18, Tryd.ntmps18
  go_wp2
  go_ret
  exact ⟨rfl, (Below.refl _ _).alloc (Nat.le_refl _) _⟩
set_option maxRecDepth 100000 in
set_option maxHeartbeats 2000000 in
theorem rput_3 : Calls Tryd.prog 18 #[opV 3 a b t] w fun e w' => e = .returned (.string ⟨#[27, 91, 75]⟩) ∧ Below w.heap.size w w' := by
  go_enter Tryd.func18, Tryd.ntmps18
  go_wp2
  go_ret
  exact ⟨rfl, (Below.refl _ _).alloc (Nat.le_refl _) _⟩
set_option maxRecDepth 100000 in
set_option maxHeartbeats 2000000 in
theorem rput_4 : Calls Tryd.prog 18 #[opV 4 a b t] w fun e w' => e = .returned (.string ⟨#[27, 91, 50, 74]⟩) ∧ Below w.heap.size w w' := by
  go_enter Tryd.func18, Tryd.ntmps18
  go_wp2
  go_ret
  exact ⟨rfl, (Below.refl _ _).alloc (Nat.le_refl _) _⟩
set_option maxRecDepth 100000 in
set_option maxHeartbeats 2000000 in
theorem rput_5 : Calls Tryd.prog 18 #[opV 5 a b t] w fun e w' => e = .returned (.string ⟨#[7]⟩) ∧ Below w.heap.size w w' := by
  go_enter Tryd.func18, Tryd.ntmps18
  go_wp2
  go_ret
  exact ⟨rfl, (Below.refl _ _).alloc (Nat.le_refl _) _⟩
set_option maxRecDepth 100000 in
set_option maxHeartbeats 2000000 in
theorem rput_6 : Calls Tryd.prog 18 #[opV 6 a b t] w fun e w' => e = .returned (.string ⟨#[13]⟩) ∧ Below w.heap.size w w' := by
  go_enter Tryd.func18, Tryd.ntmps18
  go_wp2
  go_ret
  exact ⟨rfl, (Below.refl _ _).alloc (Nat.le_refl _) _⟩
set_option maxRecDepth 100000 in
set_option maxHeartbeats 2000000 in
theorem rput_7 : Calls Tryd.prog 18 #[opV 7 a b t] w fun e w' => e = .returned (.string ⟨#[10]⟩) ∧ Below w.heap.size w w' := by
  go_enter Tryd.func18, Tryd.ntmps18
  go_wp2
  go_ret
  exact ⟨rfl, (Below.refl _ _).alloc (Nat.le_refl _) _⟩
set_option maxRecDepth 100000 in
set_option maxHeartbeats 2000000 in
theorem rput_8 (ha : -9223372036854775808 ≤ a) (ha2 : a < 9223372036854775808) : Calls Tryd.prog 18 #[opV 8 a b t] w fun e w' => e = .returned (.string (byS a 67)) ∧ Below w.heap.size w w' := by
  have hx : (⟨#[67, 68, 65, 66]⟩ : ByteArray).extract 0 1 = ⟨#[67]⟩ := by decide +kernel
  by_cases h1 : a = 1
  · subst h1
    have e : byS 1 67 = ⟨#[27, 91]⟩ ++ ⟨#[67]⟩ := if_pos rfl
    rw [e]
    go_enter Tryd.func18, Tryd.ntmps18
    go_wp2
    go_ret
    exact ⟨rfl, (Below.refl _ _).alloc (Nat.le_refl _) _⟩
  · have e : byS a 67 = ⟨#[27, 91]⟩ ++ dig (numN a) ++ ⟨#[67]⟩ := if_neg h1
    rw [e]
    have d1 : (a == 1) = false := by simpa using h1
    have d2 : (a != 1) = true := by simpa using h1
    have C := Lib.hid (fun X => digits_any a ha2 ha X)
    have hs := dig_size a
    obtain ⟨D, hD⟩ : ∃ D, dig (numN a) = D := ⟨_, rfl⟩
    rw [hD] at C hs ⊢
    clear e h1 hD ha ha2
    go_enter Tryd.func18, Tryd.ntmps18
    go_wp2_with fail
    refine at_callsA (fun X => Below w.heap.size w X ∧ X.cell? ⟨w.heap.size, 0, none⟩ = some (.int .i64 8) ∧ w.heap.size < X.heap.size) ⟨(Below.refl _ _).alloc (Nat.le_refl _) _, by simp, by simp⟩ ?_
    rintro X ⟨hX, h0, hz⟩
    refine (C.out X).mono ?_
    rintro e w1 ⟨rfl, b1⟩
    have c1 := (b1.cell (p := ⟨w.heap.size, 0, none⟩) hz).trans h0
    have H1 := Lib.hid (hX.trans (b1.mono hX.size))
    clear b1 hX h0 hz
    go_wp2_with fail
    go_ret
    exact ⟨rfl, H1.out⟩
set_option maxRecDepth 100000 in
set_option maxHeartbeats 2000000 in
theorem rput_9 (ha : -9223372036854775808 ≤ a) (ha2 : a < 9223372036854775808) : Calls Tryd.prog 18 #[opV 9 a b t] w fun e w' => e = .returned (.string (byS a 68)) ∧ Below w.heap.size w w' := by
  have hx : (⟨#[67, 68, 65, 66]⟩ : ByteArray).extract 1 2 = ⟨#[68]⟩ := by decide +kernel
  by_cases h1 : a = 1
  · subst h1
    have e : byS 1 68 = ⟨#[27, 91]⟩ ++ ⟨#[68]⟩ := if_pos rfl
    rw [e]
    go_enter Tryd.func18, Tryd.ntmps18
    go_wp2
    go_ret
    exact ⟨rfl, (Below.refl _ _).alloc (Nat.le_refl _) _⟩
  · have e : byS a 68 = ⟨#[27, 91]⟩ ++ dig (numN a) ++ ⟨#[68]⟩ := if_neg h1
    rw [e]
    have d1 : (a == 1) = false := by simpa using h1
    have d2 : (a != 1) = true := by simpa using h1
    have C := Lib.hid (fun X => digits_any a ha2 ha X)
    have hs := dig_size a
    obtain ⟨D, hD⟩ : ∃ D, dig (numN a) = D := ⟨_, rfl⟩
    rw [hD] at C hs ⊢
    clear e h1 hD ha ha2
    go_enter Tryd.func18, Tryd.ntmps18
    go_wp2_with fail
    refine at_callsA (fun X => Below w.heap.size w X ∧ X.cell? ⟨w.heap.size, 0, none⟩ = some (.int .i64 9) ∧ w.heap.size < X.heap.size) ⟨(Below.refl _ _).alloc (Nat.le_refl _) _, by simp, by simp⟩ ?_
    rintro X ⟨hX, h0, hz⟩
    refine (C.out X).mono ?_
    rintro e w1 ⟨rfl, b1⟩
    have c1 := (b1.cell (p := ⟨w.heap.size, 0, none⟩) hz).trans h0
    have H1 := Lib.hid (hX.trans (b1.mono hX.size))
    clear b1 hX h0 hz
    go_wp2_with fail
    go_ret
    exact ⟨rfl, H1.out⟩
set_option maxRecDepth 100000 in
set_option maxHeartbeats 2000000 in
theorem rput_10 (ha : -9223372036854775808 ≤ a) (ha2 : a < 9223372036854775808) : Calls Tryd.prog 18 #[opV 10 a b t] w fun e w' => e = .returned (.string (byS a 65)) ∧ Below w.heap.size w w' := by
  have hx : (⟨#[67, 68, 65, 66]⟩ : ByteArray).extract 2 3 = ⟨#[65]⟩ := by decide +kernel
  by_cases h1 : a = 1
  · subst h1
    have e : byS 1 65 = ⟨#[27, 91]⟩ ++ ⟨#[65]⟩ := if_pos rfl
    rw [e]
    go_enter Tryd.func18, Tryd.ntmps18
    go_wp2
    go_ret
    exact ⟨rfl, (Below.refl _ _).alloc (Nat.le_refl _) _⟩
  · have e : byS a 65 = ⟨#[27, 91]⟩ ++ dig (numN a) ++ ⟨#[65]⟩ := if_neg h1
    rw [e]
    have d1 : (a == 1) = false := by simpa using h1
    have d2 : (a != 1) = true := by simpa using h1
    have C := Lib.hid (fun X => digits_any a ha2 ha X)
    have hs := dig_size a
    obtain ⟨D, hD⟩ : ∃ D, dig (numN a) = D := ⟨_, rfl⟩
    rw [hD] at C hs ⊢
    clear e h1 hD ha ha2
    go_enter Tryd.func18, Tryd.ntmps18
    go_wp2_with fail
    refine at_callsA (fun X => Below w.heap.size w X ∧ X.cell? ⟨w.heap.size, 0, none⟩ = some (.int .i64 10) ∧ w.heap.size < X.heap.size) ⟨(Below.refl _ _).alloc (Nat.le_refl _) _, by simp, by simp⟩ ?_
    rintro X ⟨hX, h0, hz⟩
    refine (C.out X).mono ?_
    rintro e w1 ⟨rfl, b1⟩
    have c1 := (b1.cell (p := ⟨w.heap.size, 0, none⟩) hz).trans h0
    have H1 := Lib.hid (hX.trans (b1.mono hX.size))
    clear b1 hX h0 hz
    go_wp2_with fail
    go_ret
    exact ⟨rfl, H1.out⟩
set_option maxRecDepth 100000 in
set_option maxHeartbeats 2000000 in
theorem rput_11 (ha : -9223372036854775808 ≤ a) (ha2 : a < 9223372036854775808) : Calls Tryd.prog 18 #[opV 11 a b t] w fun e w' => e = .returned (.string (byS a 66)) ∧ Below w.heap.size w w' := by
  have hx : (⟨#[67, 68, 65, 66]⟩ : ByteArray).extract 3 4 = ⟨#[66]⟩ := by decide +kernel
  by_cases h1 : a = 1
  · subst h1
    have e : byS 1 66 = ⟨#[27, 91]⟩ ++ ⟨#[66]⟩ := if_pos rfl
    rw [e]
    go_enter Tryd.func18, Tryd.ntmps18
    go_wp2
    go_ret
    exact ⟨rfl, (Below.refl _ _).alloc (Nat.le_refl _) _⟩
  · have e : byS a 66 = ⟨#[27, 91]⟩ ++ dig (numN a) ++ ⟨#[66]⟩ := if_neg h1
    rw [e]
    have d1 : (a == 1) = false := by simpa using h1
    have d2 : (a != 1) = true := by simpa using h1
    have C := Lib.hid (fun X => digits_any a ha2 ha X)
    have hs := dig_size a
    obtain ⟨D, hD⟩ : ∃ D, dig (numN a) = D := ⟨_, rfl⟩
    rw [hD] at C hs ⊢
    clear e h1 hD ha ha2
    go_enter Tryd.func18, Tryd.ntmps18
    go_wp2_with fail
    refine at_callsA (fun X => Below w.heap.size w X ∧ X.cell? ⟨w.heap.size, 0, none⟩ = some (.int .i64 11) ∧ w.heap.size < X.heap.size) ⟨(Below.refl _ _).alloc (Nat.le_refl _) _, by simp, by simp⟩ ?_
    rintro X ⟨hX, h0, hz⟩
    refine (C.out X).mono ?_
    rintro e w1 ⟨rfl, b1⟩
    have c1 := (b1.cell (p := ⟨w.heap.size, 0, none⟩) hz).trans h0
    have H1 := Lib.hid (hX.trans (b1.mono hX.size))
    clear b1 hX h0 hz
    go_wp2_with fail
    go_ret
    exact ⟨rfl, H1.out⟩
set_option maxRecDepth 100000 in
set_option maxHeartbeats 2000000 in
theorem rput_0 (k : Int) (h : ∀ j, 1 ≤ j → j ≤ 11 → k ≠ j) : Calls Tryd.prog 18 #[opV k a b t] w fun e w' => e = .returned (.string ⟨#[]⟩) ∧ Below w.heap.size w w' := by
  have d1 : (k == 1) = false := by simpa using h 1 (by omega) (by omega)
  have d2 : (k == 2) = false := by simpa using h 2 (by omega) (by omega)
  have d3 : (k == 3) = false := by simpa using h 3 (by omega) (by omega)
  have d4 : (k == 4) = false := by simpa using h 4 (by omega) (by omega)
  have d5 : (k == 5) = false := by simpa using h 5 (by omega) (by omega)
  have d6 : (k == 6) = false := by simpa using h 6 (by omega) (by omega)
  have d7 : (k == 7) = false := by simpa using h 7 (by omega) (by omega)
  have d8 : (k == 8) = false := by simpa using h 8 (by omega) (by omega)
  have d9 : (k == 9) = false := by simpa using h 9 (by omega) (by omega)
  have d10 : (k == 10) = false := by simpa using h 10 (by omega) (by omega)
  have d11 : (k == 11) = false := by simpa using h 11 (by omega) (by omega)
  clear h
  go_enter Tryd.func18, Tryd.ntmps18
  go_wp2
  go_ret
  exact ⟨rfl, (Below.refl _ _).alloc (Nat.le_refl _) _⟩
set_option maxRecDepth 100000 in
set_option maxHeartbeats 4000000 in
theorem rput_2 (ha : -9223372036854775808 ≤ a) (hb : -9223372036854775808 ≤ b) (ha2 : a < 9223372036854775808) (hb2 : b < 9223372036854775808) : Calls Tryd.prog 18 #[opV 2 a b t] w fun e w' => e = .returned (.string (moveS a b)) ∧ Below w.heap.size w w' := by
  have M1 := Lib.hid (fun X => more_any a ha X)
  have M2 := Lib.hid (fun X => more_any b hb X)
  have hm1 : moreI a < 9223372036854775808 ∧ -9223372036854775808 ≤ moreI a := by unfold moreI; split <;> omega
  have hm2 : moreI b < 9223372036854775808 ∧ -9223372036854775808 ≤ moreI b := by unfold moreI; split <;> omega
  have C1 := Lib.hid (fun X => digits_any (moreI a) hm1.1 hm1.2 X)
  have C2 := Lib.hid (fun X => digits_any (moreI b) hm2.1 hm2.2 X)
  have s1 := dig_size (min a 9999 + 1)
  have s2 := dig_size (min b 9999 + 1)
  unfold moveS
  rw [numN_more] at C1 C2
  obtain ⟨D1, hD1⟩ : ∃ D, dig (numN (min a 9999 + 1)) = D := ⟨_, rfl⟩
  obtain ⟨D2, hD2⟩ : ∃ D, dig (numN (min b 9999 + 1)) = D := ⟨_, rfl⟩
  rw [hD1] at C1 s1 ⊢
  rw [hD2] at C2 s2 ⊢
  obtain ⟨ma, hma⟩ : ∃ m, moreI a = m := ⟨_, rfl⟩
  obtain ⟨mb, hmb⟩ : ∃ m, moreI b = m := ⟨_, rfl⟩
  rw [hma] at M1 C1
  rw [hmb] at M2 C2
  have k1 := fun w => run_cat w ⟨#[27, 91]⟩ D1 (by rw [z1]; omega)
  have k2 := fun w => run_cat w (⟨#[27, 91]⟩ ++ D1) ⟨#[59]⟩ (by rw [size_cat, z1, z2]; omega)
  have k3 := fun w => run_cat w (⟨#[27, 91]⟩ ++ D1 ++ ⟨#[59]⟩) D2 (by rw [size_cat, size_cat, z1, z2]; omega)
  have k4 := fun w => run_cat w (⟨#[27, 91]⟩ ++ D1 ++ ⟨#[59]⟩ ++ D2) ⟨#[72]⟩ (by rw [size_cat, size_cat, size_cat, z1, z2, z2]; omega)
  clear hD1 hD2 ha hb ha2 hb2 hm1 hm2 hma hmb
  go_enter Tryd.func18, Tryd.ntmps18
  go_wp2_with fail
  refine at_world (fun X => (X.cell? ⟨w.heap.size, 1, none⟩ = some (.int .i64 a) ∧ X.cell? ⟨w.heap.size, 2, none⟩ = some (.int .i64 b)) ∧ Below w.heap.size w X ∧ w.heap.size < X.heap.size) ⟨⟨by simp, by simp⟩, (Below.refl _ _).alloc (Nat.le_refl _) _, by simp⟩ ?_
  rintro X ⟨⟨c1, c2⟩, hX, hz⟩
  have HS := Lib.hid (show ∀ Y, Below X.heap.size X Y → (Y.cell? ⟨w.heap.size, 1, none⟩ = some (.int .i64 a) ∧ Y.cell? ⟨w.heap.size, 2, none⟩ = some (.int .i64 b)) from fun Y hY => ⟨(hY.cell (p := ⟨w.heap.size, 1, none⟩) hz).trans c1, (hY.cell (p := ⟨w.heap.size, 2, none⟩) hz).trans c2⟩)
  have HX := Lib.hid hX
  have hD := (Below.refl X.heap.size X).drew
  clear hX
  go_region_held3 (fun Y => Y.cell? ⟨w.heap.size, 1, none⟩ = some (.int .i64 a) ∧ Y.cell? ⟨w.heap.size, 2, none⟩ = some (.int .i64 b))
    (first | assumption | exact HS.out _ (by assumption) | go_keep)
    (first
    | (go_at_call 40; (with_reducible refine (M1.out _).mono ?_); rintro e w3 ⟨rfl, rfl⟩)
    | (go_at_call 40; (with_reducible refine (M2.out _).mono ?_); rintro e w4 ⟨rfl, rfl⟩)
    | (go_at_call 39; (with_reducible refine (C1.out _).mono ?_); rintro e w5 ⟨rfl, hb5⟩; have hB5 := belowStepA (A := X) (by assumption) hb5; clear hb5)
    | (go_at_call 39; (with_reducible refine (C2.out _).mono ?_); rintro e w6 ⟨rfl, hb6⟩; have hB6 := belowStepA (A := X) (by assumption) hb6; clear hb6))
  all_goals
    clear HS k1 k2 k3 k4
    go_wp2_with fail
    go_ret
    exact ⟨rfl, belowStepA HX.out (by assumption)⟩
end
theorem rput_any {w : World} (k a b : Int) (t : ByteArray) (ha : -9223372036854775808 ≤ a) (hb : -9223372036854775808 ≤ b) (ha2 : a < 9223372036854775808) (hb2 : b < 9223372036854775808) : Calls Tryd.prog 18 #[opV k a b t] w fun e w' => e = .returned (.string (putS k a b t)) ∧ Below w.heap.size w w' := by
  by_cases h1 : k = 1
  · subst h1; exact rput_1 a b t
  by_cases h2 : k = 2
  · subst h2; exact rput_2 a b t ha hb ha2 hb2
  by_cases h3 : k = 3
  · subst h3; exact rput_3 a b t
  by_cases h4 : k = 4
  · subst h4; exact rput_4 a b t
  by_cases h5 : k = 5
  · subst h5; exact rput_5 a b t
  by_cases h6 : k = 6
  · subst h6; exact rput_6 a b t
  by_cases h7 : k = 7
  · subst h7; exact rput_7 a b t
  by_cases h8 : k = 8
  · subst h8; exact rput_8 a b t ha ha2
  by_cases h9 : k = 9
  · subst h9; exact rput_9 a b t ha ha2
  by_cases h10 : k = 10
  · subst h10; exact rput_10 a b t ha ha2
  by_cases h11 : k = 11
  · subst h11; exact rput_11 a b t ha ha2
  have e : putS k a b t = ⟨#[]⟩ := by unfold putS; simp [h1, h2, h3, h4, h5, h6, h7, h8, h9, h10, h11]
  rw [e]
  exact rput_0 a b t k fun j hj1 hj2 => by
    rintro rfl
    omega
end Go.Proofs.YtednedklkbjihaaDoor
