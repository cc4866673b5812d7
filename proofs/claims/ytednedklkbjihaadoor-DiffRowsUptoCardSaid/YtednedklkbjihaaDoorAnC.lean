/- ansi: Put where it is a move; all. -/
import Derived.Test.YtednedklkbjihaaDoorAnB
namespace Go.Proofs.YtednedklkbjihaaDoor
open Go.RowKit
set_option linter.unusedVariables false
set_option linter.unusedSimpArgs false

theorem belowStepA {A w w' : World} (h : Below A.heap.size A w) (k : Below w.heap.size w w') : Below A.heap.size A w' := h.trans (k.mono h.size)
theorem run_cat (w : World) (x y : ByteArray) (h : x.size + y.size ≤ 1000000) : (Op.stringOp .add x y).run Tryd.prog w = .ok (.string (x ++ y)) w := by
  simp [go_sem]
  omega
theorem size_cat (x y : ByteArray) : (x ++ y).size = x.size + y.size := ByteArray.size_append
set_option maxRecDepth 100000 in
set_option maxHeartbeats 4000000 in
theorem put_2 {w : World} (a b : Int) (t : ByteArray) (hT : TabW w.heap.size w) (ha : -9223372036854775808 ≤ a) (hb : -9223372036854775808 ≤ b) : Calls Tryd.prog 16 #[opV 2 a b t] w fun e w' => e = .returned (.string (moveS a b)) ∧ Below w.heap.size w w' := by
  have HT := Lib.hid hT
  have hst := store_fn w (opC 2 a b t)
  have hmf : ∀ (fn : Fn) (first cap : Array Value) (w : World), (Instr.makeFunc fn first cap).run Tryd.prog w = .ok (.func fn first cap) w := fun _ _ _ _ => rfl
  have e1 : IntKind.i64.wrap (min a 9999 + 1) = min a 9999 + 1 := IntWalk.i64_in _ (by omega)
  have e2 : IntKind.i64.wrap (min b 9999 + 1) = min b 9999 + 1 := IntWalk.i64_in _ (by omega)
  have C1 := Lib.hid (fun X (hX : Below w.heap.size w X) => number_any (HT.out.on hX) (min a 9999 + 1))
  have C2 := Lib.hid (fun X (hX : Below w.heap.size w X) => number_any (HT.out.on hX) (min b 9999 + 1))
  have s1 := dig_size (min a 9999 + 1)
  have s2 := dig_size (min b 9999 + 1)
  unfold moveS
  obtain ⟨D1, hD1⟩ : ∃ D, dig (numN (min a 9999 + 1)) = D := ⟨_, rfl⟩
  obtain ⟨D2, hD2⟩ : ∃ D, dig (numN (min b 9999 + 1)) = D := ⟨_, rfl⟩
  rw [hD1] at C1 s1 ⊢
  rw [hD2] at C2 s2 ⊢
  have c1 := cells_fn1 w 2 a b t
  have c3 := cells_fn2 w (opC 2 a b t)
  have c2 : ((w.alloc (.cells (opC 2 a b t) 51)).alloc (.cells #[fnV] 80)).cell? ⟨w.heap.size, 2, none⟩ = some (.int .i64 b) := by
    rw [World.cell?_alloc_past _ _ _ (by simp)]
    simp
  have hX0 : Below w.heap.size w ((w.alloc (.cells (opC 2 a b t) 51)).alloc (.cells #[fnV] 80)) := ((Below.refl _ _).alloc (Nat.le_refl _) _).alloc (by simp) _
  have hz0 : w.heap.size + 1 < ((w.alloc (.cells (opC 2 a b t) 51)).alloc (.cells #[fnV] 80)).heap.size := by simp
  have HX0 := Lib.hid (And.intro (And.intro c1 (And.intro c2 c3)) (And.intro hX0 hz0))
  clear hD1 hD2 hT ha hb c1 c2 c3 hX0 hz0
  go_enter Tryd.func16, Tryd.ntmps16
  go_wp2_with fail
  refine at_world (fun X => (X.cell? ⟨w.heap.size, 1, none⟩ = some (.int .i64 a) ∧ X.cell? ⟨w.heap.size, 2, none⟩ = some (.int .i64 b) ∧ X.cell? ⟨w.heap.size + 1, 0, none⟩ = some fnV) ∧ Below w.heap.size w X ∧ w.heap.size + 1 < X.heap.size) HX0.out ?_
  rintro X ⟨⟨c1, c2, c3⟩, hX, hz⟩
  have HS := Lib.hid (show ∀ Y, Below X.heap.size X Y → (Y.cell? ⟨w.heap.size, 1, none⟩ = some (.int .i64 a) ∧ Y.cell? ⟨w.heap.size, 2, none⟩ = some (.int .i64 b) ∧ Y.cell? ⟨w.heap.size + 1, 0, none⟩ = some fnV) from fun Y hY => ⟨(hY.cell (p := ⟨w.heap.size, 1, none⟩) (show w.heap.size < X.heap.size by omega)).trans c1, (hY.cell (p := ⟨w.heap.size, 2, none⟩) (show w.heap.size < X.heap.size by omega)).trans c2, (hY.cell (p := ⟨w.heap.size + 1, 0, none⟩) hz).trans c3⟩)
  have HX := Lib.hid hX
  have hD := (Below.refl X.heap.size X).drew
  have z1 : (⟨#[27, 91]⟩ : ByteArray).size = 2 := rfl
  have z2 : (⟨#[59]⟩ : ByteArray).size = 1 := rfl
  have z3 : (⟨#[72]⟩ : ByteArray).size = 1 := rfl
  have k1 := fun w => run_cat w ⟨#[27, 91]⟩ D1 (by omega)
  have k2 := fun w => run_cat w (⟨#[27, 91]⟩ ++ D1) ⟨#[59]⟩ (by rw [size_cat]; omega)
  have k3 := fun w => run_cat w (⟨#[27, 91]⟩ ++ D1 ++ ⟨#[59]⟩) D2 (by rw [size_cat, size_cat]; omega)
  have k4 := fun w => run_cat w (⟨#[27, 91]⟩ ++ D1 ++ ⟨#[59]⟩ ++ D2) ⟨#[72]⟩ (by rw [size_cat, size_cat, size_cat]; omega)
  clear HX0 hX hst z1 z2 z3
  go_region_held3 (fun Y => Y.cell? ⟨w.heap.size, 1, none⟩ = some (.int .i64 a) ∧ Y.cell? ⟨w.heap.size, 2, none⟩ = some (.int .i64 b) ∧ Y.cell? ⟨w.heap.size + 1, 0, none⟩ = some fnV)
    (first | exact HS.out _ (by assumption) | go_keep)
    (first
    | (go_at_call 36; (with_reducible refine (C1.out _ (belowStepA (A := w) HX.out (by assumption))).mono ?_); rintro e w3 ⟨rfl, hb3⟩; have hB3 := belowStepA (A := X) (by assumption) hb3; clear hb3)
    | (go_at_call 36; (with_reducible refine (C2.out _ (belowStepA (A := w) HX.out (by assumption))).mono ?_); rintro e w4 ⟨rfl, hb4⟩; have hB4 := belowStepA (A := X) (by assumption) hb4; clear hb4))
  all_goals
    clear HS hmf k1 k2 k3 k4
    go_wp2_with fail
    go_ret
    exact ⟨rfl, belowStepA HX.out (by assumption)⟩

theorem put_any {w : World} (k a b : Int) (t : ByteArray) (hT : TabW w.heap.size w) (ha : -9223372036854775808 ≤ a) (hb : -9223372036854775808 ≤ b) : Calls Tryd.prog 16 #[opV k a b t] w fun e w' => e = .returned (.string (putS k a b t)) ∧ Below w.heap.size w w' := by
  by_cases h1 : k = 1
  · subst h1; exact put_1 a b t
  by_cases h2 : k = 2
  · subst h2; exact put_2 a b t hT ha hb
  by_cases h3 : k = 3
  · subst h3; exact put_3 a b t
  by_cases h4 : k = 4
  · subst h4; exact put_4 a b t
  by_cases h5 : k = 5
  · subst h5; exact put_5 a b t
  by_cases h6 : k = 6
  · subst h6; exact put_6 a b t
  by_cases h7 : k = 7
  · subst h7; exact put_7 a b t
  by_cases h8 : k = 8
  · subst h8; exact put_8 a b t hT
  by_cases h9 : k = 9
  · subst h9; exact put_9 a b t hT
  by_cases h10 : k = 10
  · subst h10; exact put_10 a b t hT
  by_cases h11 : k = 11
  · subst h11; exact put_11 a b t hT
  have e : putS k a b t = ⟨#[]⟩ := by unfold putS; simp [h1, h2, h3, h4, h5, h6, h7, h8, h9, h10, h11]
  rw [e]
  exact put_0 a b t k fun j hj1 hj2 => by
    rintro rfl
    omega
theorem z1 : (⟨#[27, 91]⟩ : ByteArray).size = 2 := rfl
theorem z2 (c : UInt8) : (⟨#[c]⟩ : ByteArray).size = 1 := rfl
theorem z4 : (⟨#[27, 91, 75]⟩ : ByteArray).size = 3 := rfl
theorem z5 : (⟨#[27, 91, 50, 74]⟩ : ByteArray).size = 4 := rfl
theorem z9 : (⟨#[]⟩ : ByteArray).size = 0 := rfl
theorem byS_size (a : Int) (c : UInt8) : (byS a c).size ≤ 30 := by
  have := dig_size a
  unfold byS
  split
  · rw [size_cat, z1, z2]; omega
  · rw [size_cat, size_cat, z1, z2]; omega
theorem moveS_size (a b : Int) : (moveS a b).size ≤ 50 := by
  have d1 := dig_size (min a 9999 + 1)
  have d2 := dig_size (min b 9999 + 1)
  unfold moveS
  rw [size_cat, size_cat, size_cat, size_cat, z1, z2, z2]
  obtain ⟨x, hx⟩ : ∃ x, (dig (numN (min a 9999 + 1))).size = x := ⟨_, rfl⟩
  obtain ⟨y, hy⟩ : ∃ y, (dig (numN (min b 9999 + 1))).size = y := ⟨_, rfl⟩
  rw [hx] at d1 ⊢
  rw [hy] at d2 ⊢
  omega
theorem putS_size (k a b : Int) (t : ByteArray) : (putS k a b t).size ≤ t.size + 50 := by
  have hm := moveS_size a b
  have b1 := byS_size a 67
  have b2 := byS_size a 68
  have b3 := byS_size a 65
  have b4 := byS_size a 66
  unfold putS
  split
  · omega
  split
  · omega
  split
  · rw [z4]; omega
  split
  · rw [z5]; omega
  split
  · rw [z2]; omega
  split
  · rw [z2]; omega
  split
  · rw [z2]; omega
  split
  · omega
  split
  · omega
  split
  · omega
  split
  · omega
  · rw [z9]; omega
end Go.Proofs.YtednedklkbjihaaDoor
