/- ansi: Put, the program's. -/
import Derived.Test.YtednedklkbjihaaDoorAnA
import Derived.Lib.ItoaLen
namespace Go.Proofs.YtednedklkbjihaaDoor
open Go.RowKit
set_option linter.unusedVariables false
set_option linter.unusedSimpArgs false

theorem at_callsA {P : Program} {f : FuncId} {args : Array Value} {Q : Ending → World → Prop} {X : World} (F : World → Prop) (hF : F X) (h : ∀ X, F X → Calls P f args X Q) : Calls P f args X Q := h X hF
theorem dig_size (n : Int) : (dig (numN n)).size ≤ 20 := by
  have h := numN_le n
  show (Lib.decDigits (numN n)).toArray.size ≤ 20
  rw [List.size_toArray, Lib.decDigits_length]
  exact Lib.nDigits_le20 _ (by omega)
def byS (a : Int) (c : UInt8) : ByteArray := if a = 1 then ⟨#[27, 91]⟩ ++ ⟨#[c]⟩ else ⟨#[27, 91]⟩ ++ dig (numN a) ++ ⟨#[c]⟩
def moveS (a b : Int) : ByteArray := ⟨#[27, 91]⟩ ++ dig (numN (min a 9999 + 1)) ++ ⟨#[59]⟩ ++ dig (numN (min b 9999 + 1)) ++ ⟨#[72]⟩
/-- What is sent for one. -/
def putS (k a b : Int) (t : ByteArray) : ByteArray :=
  if k = 1 then t else if k = 2 then moveS a b else if k = 3 then ⟨#[27, 91, 75]⟩ else if k = 4 then ⟨#[27, 91, 50, 74]⟩ else if k = 5 then ⟨#[7]⟩ else if k = 6 then ⟨#[13]⟩ else if k = 7 then ⟨#[10]⟩
  else if k = 8 then byS a 67 else if k = 9 then byS a 68 else if k = 10 then byS a 65 else if k = 11 then byS a 66 else ⟨#[]⟩
abbrev opV (k a b : Int) (t : ByteArray) : Value := .agg #[.int .i64 k, .int .i64 a, .int .i64 b, .string t]
abbrev opC (k a b : Int) (t : ByteArray) : Array Value := #[.int .i64 k, .int .i64 a, .int .i64 b, .string t]
abbrev fnV : Value := .func (.func 36) #[] #[]

set_option maxRecDepth 100000 in
set_option maxHeartbeats 1000000 in
theorem by_any {B : Nat} {w : World} (hT : TabW B w) (b1 b2 : Nat) (a : Int) (c : UInt8) (h1 : w.cell? ⟨b1, 1, none⟩ = some (.int .i64 a)) (h2 : w.cell? ⟨b2, 0, none⟩ = some fnV) :
    Calls Tryd.prog 38 #[.string ⟨#[c]⟩, .pointer (some ⟨b1, 0, none⟩), .pointer (some ⟨b2, 0, none⟩)] w fun e w' => e = .returned (.string (byS a c)) ∧ Below w.heap.size w w' := by
  by_cases ha : a = 1
  · subst ha
    have e : byS 1 c = ⟨#[27, 91]⟩ ++ ⟨#[c]⟩ := if_pos rfl
    rw [e]
    go_enter Tryd.func38, Tryd.ntmps38
    go_wp2
    go_ret
    exact ⟨rfl, Below.refl _ _⟩
  · have e : byS a c = ⟨#[27, 91]⟩ ++ dig (numN a) ++ ⟨#[c]⟩ := if_neg ha
    rw [e]
    have d1 : (a == 1) = false := by simpa using ha
    have C := Lib.hid (number_any hT a)
    have hs := dig_size a
    obtain ⟨D, hD⟩ : ∃ D, dig (numN a) = D := ⟨_, rfl⟩
    rw [hD] at C hs ⊢
    clear e ha hD hT
    go_enter Tryd.func38, Tryd.ntmps38
    go_wp2_with fail
    refine C.out.mono ?_
    rintro e w1 ⟨rfl, b1⟩
    have H1 := Lib.hid b1
    clear b1
    go_wp2_with fail
    go_ret
    exact ⟨rfl, H1.out⟩

theorem store_fn (w : World) (cs : Array Value) : (store ⟨w.heap.size + 1, 0, none⟩ fnV).run Tryd.prog ((w.alloc (.cells cs 51)).alloc (.cells #[.nilFunc] 80)) = .ok () ((w.alloc (.cells cs 51)).alloc (.cells #[fnV] 80)) := by
  rw [run_store _ _ _ _ _ rfl]
  have hs : w.heap.size + 1 = (w.alloc (.cells cs 51)).heap.size := by simp
  have hc : ((w.alloc (.cells cs 51)).alloc (.cells #[.nilFunc] 80)).cell? ⟨w.heap.size + 1, 0, none⟩ = some .nilFunc := by rw [hs]; simp
  have hf : ((w.alloc (.cells cs 51)).alloc (.cells #[.nilFunc] 80)).frozen? ⟨w.heap.size + 1, 0, none⟩ = false := World.frozen?_alloc_at _ _ _ _ hs
  simp only [hc, hf]
  rw [World.setCell_alloc_at _ _ _ _ _ hs]
  rfl
theorem cells_fn1 (w : World) (k a b : Int) (t : ByteArray) : ((w.alloc (.cells (opC k a b t) 51)).alloc (.cells #[fnV] 80)).cell? ⟨w.heap.size, 1, none⟩ = some (.int .i64 a) := by
  rw [World.cell?_alloc_past _ _ _ (by simp)]
  simp
theorem cells_fn2 (w : World) (cs : Array Value) : ((w.alloc (.cells cs 51)).alloc (.cells #[fnV] 80)).cell? ⟨w.heap.size + 1, 0, none⟩ = some fnV := by
  have hs : w.heap.size + 1 = (w.alloc (.cells cs 51)).heap.size := by simp
  rw [hs]
  simp
section
variable {w : World} (a b : Int) (t : ByteArray)
set_option maxRecDepth 100000 in
set_option maxHeartbeats 2000000 in
theorem put_1 : Calls Tryd.prog 16 #[opV 1 a b t] w fun e w' => e = .returned (.string t) ∧ Below w.heap.size w w' := by
  have hst := store_fn w (opC 1 a b t)
  have hmf : ∀ (fn : Fn) (first cap : Array Value) (w : World), (Instr.makeFunc fn first cap).run Tryd.prog w = .ok (.func fn first cap) w := fun _ _ _ _ => rfl
  go_enter Tryd.func16, Tryd.ntmps16
  go_wp2
  go_ret
  exact ⟨rfl, ((Below.refl _ _).alloc (Nat.le_refl _) _).alloc (by simp) _⟩
set_option maxRecDepth 100000 in
set_option maxHeartbeats 2000000 in
theorem put_3 : Calls Tryd.prog 16 #[opV 3 a b t] w fun e w' => e = .returned (.string ⟨#[27, 91, 75]⟩) ∧ Below w.heap.size w w' := by
  have hst := store_fn w (opC 3 a b t)
  have hmf : ∀ (fn : Fn) (first cap : Array Value) (w : World), (Instr.makeFunc fn first cap).run Tryd.prog w = .ok (.func fn first cap) w := fun _ _ _ _ => rfl
  go_enter Tryd.func16, Tryd.ntmps16
  go_wp2
  go_ret
  exact ⟨rfl, ((Below.refl _ _).alloc (Nat.le_refl _) _).alloc (by simp) _⟩
set_option maxRecDepth 100000 in
set_option maxHeartbeats 2000000 in
theorem put_4 : Calls Tryd.prog 16 #[opV 4 a b t] w fun e w' => e = .returned (.string ⟨#[27, 91, 50, 74]⟩) ∧ Below w.heap.size w w' := by
  have hst := store_fn w (opC 4 a b t)
  have hmf : ∀ (fn : Fn) (first cap : Array Value) (w : World), (Instr.makeFunc fn first cap).run Tryd.prog w = .ok (.func fn first cap) w := fun _ _ _ _ => rfl
  go_enter Tryd.func16, Tryd.ntmps16
  go_wp2
  go_ret
  exact ⟨rfl, ((Below.refl _ _).alloc (Nat.le_refl _) _).alloc (by simp) _⟩
set_option maxRecDepth 100000 in
set_option maxHeartbeats 2000000 in
theorem put_5 : Calls Tryd.prog 16 #[opV 5 a b t] w fun e w' => e = .returned (.string ⟨#[7]⟩) ∧ Below w.heap.size w w' := by
  have hst := store_fn w (opC 5 a b t)
  have hmf : ∀ (fn : Fn) (first cap : Array Value) (w : World), (Instr.makeFunc fn first cap).run Tryd.prog w = .ok (.func fn first cap) w := fun _ _ _ _ => rfl
  go_enter Tryd.func16, Tryd.ntmps16
  go_wp2
  go_ret
  exact ⟨rfl, ((Below.refl _ _).alloc (Nat.le_refl _) _).alloc (by simp) _⟩
set_option maxRecDepth 100000 in
set_option maxHeartbeats 2000000 in
theorem put_6 : Calls Tryd.prog 16 #[opV 6 a b t] w fun e w' => e = .returned (.string ⟨#[13]⟩) ∧ Below w.heap.size w w' := by
  have hst := store_fn w (opC 6 a b t)
  have hmf : ∀ (fn : Fn) (first cap : Array Value) (w : World), (Instr.makeFunc fn first cap).run Tryd.prog w = .ok (.func fn first cap) w := fun _ _ _ _ => rfl
  go_enter Tryd.func16, Tryd.ntmps16
  go_wp2
  go_ret
  exact ⟨rfl, ((Below.refl _ _).alloc (Nat.le_refl _) _).alloc (by simp) _⟩
set_option maxRecDepth 100000 in
set_option maxHeartbeats 2000000 in
theorem put_7 : Calls Tryd.prog 16 #[opV 7 a b t] w fun e w' => e = .returned (.string ⟨#[10]⟩) ∧ Below w.heap.size w w' := by
  have hst := store_fn w (opC 7 a b t)
  have hmf : ∀ (fn : Fn) (first cap : Array Value) (w : World), (Instr.makeFunc fn first cap).run Tryd.prog w = .ok (.func fn first cap) w := fun _ _ _ _ => rfl
  go_enter Tryd.func16, Tryd.ntmps16
  go_wp2
  go_ret
  exact ⟨rfl, ((Below.refl _ _).alloc (Nat.le_refl _) _).alloc (by simp) _⟩
set_option maxRecDepth 100000 in
set_option maxHeartbeats 2000000 in
theorem put_8 (hT : TabW w.heap.size w) : Calls Tryd.prog 16 #[opV 8 a b t] w fun e w' => e = .returned (.string (byS a 67)) ∧ Below w.heap.size w w' := by
  have HT := Lib.hid hT
  clear hT
  have hst := store_fn w (opC 8 a b t)
  have hmf : ∀ (fn : Fn) (first cap : Array Value) (w : World), (Instr.makeFunc fn first cap).run Tryd.prog w = .ok (.func fn first cap) w := fun _ _ _ _ => rfl
  go_enter Tryd.func16, Tryd.ntmps16
  go_wp2_with fail
  refine at_callsA (fun X => Below w.heap.size w X ∧ X.cell? ⟨w.heap.size, 1, none⟩ = some (.int .i64 a) ∧ X.cell? ⟨w.heap.size + 1, 0, none⟩ = some fnV) ⟨((Below.refl _ _).alloc (Nat.le_refl _) _).alloc (by simp) _, cells_fn1 w 8 a b t, cells_fn2 w (opC 8 a b t)⟩ ?_
  rintro X ⟨hX, h1, h2⟩
  have HX := Lib.hid hX
  refine (by_any (HT.out.on hX) w.heap.size (w.heap.size + 1) a 67 h1 h2).mono ?_
  clear hX h1 h2
  rintro e w1 ⟨rfl, b1⟩
  have H1 := Lib.hid (HX.out.trans (b1.mono HX.out.size))
  clear b1
  go_wp2_with fail
  go_ret
  exact ⟨rfl, H1.out⟩
set_option maxRecDepth 100000 in
set_option maxHeartbeats 2000000 in
theorem put_9 (hT : TabW w.heap.size w) : Calls Tryd.prog 16 #[opV 9 a b t] w fun e w' => e = .returned (.string (byS a 68)) ∧ Below w.heap.size w w' := by
  have HT := Lib.hid hT
  clear hT
  have hst := store_fn w (opC 9 a b t)
  have hmf : ∀ (fn : Fn) (first cap : Array Value) (w : World), (Instr.makeFunc fn first cap).run Tryd.prog w = .ok (.func fn first cap) w := fun _ _ _ _ => rfl
  go_enter Tryd.func16, Tryd.ntmps16
  go_wp2_with fail
  refine at_callsA (fun X => Below w.heap.size w X ∧ X.cell? ⟨w.heap.size, 1, none⟩ = some (.int .i64 a) ∧ X.cell? ⟨w.heap.size + 1, 0, none⟩ = some fnV) ⟨((Below.refl _ _).alloc (Nat.le_refl _) _).alloc (by simp) _, cells_fn1 w 9 a b t, cells_fn2 w (opC 9 a b t)⟩ ?_
  rintro X ⟨hX, h1, h2⟩
  have HX := Lib.hid hX
  refine (by_any (HT.out.on hX) w.heap.size (w.heap.size + 1) a 68 h1 h2).mono ?_
  clear hX h1 h2
  rintro e w1 ⟨rfl, b1⟩
  have H1 := Lib.hid (HX.out.trans (b1.mono HX.out.size))
  clear b1
  go_wp2_with fail
  go_ret
  exact ⟨rfl, H1.out⟩
set_option maxRecDepth 100000 in
set_option maxHeartbeats 2000000 in
theorem put_10 (hT : TabW w.heap.size w) : Calls Tryd.prog 16 #[opV 10 a b t] w fun e w' => e = .returned (.string (byS a 65)) ∧ Below w.heap.size w w' := by
  have HT := Lib.hid hT
  clear hT
  have hst := store_fn w (opC 10 a b t)
  have hmf : ∀ (fn : Fn) (first cap : Array Value) (w : World), (Instr.makeFunc fn first cap).run Tryd.prog w = .ok (.func fn first cap) w := fun _ _ _ _ => rfl
  go_enter Tryd.func16, Tryd.ntmps16
  go_wp2_with fail
  refine at_callsA (fun X => Below w.heap.size w X ∧ X.cell? ⟨w.heap.size, 1, none⟩ = some (.int .i64 a) ∧ X.cell? ⟨w.heap.size + 1, 0, none⟩ = some fnV) ⟨((Below.refl _ _).alloc (Nat.le_refl _) _).alloc (by simp) _, cells_fn1 w 10 a b t, cells_fn2 w (opC 10 a b t)⟩ ?_
  rintro X ⟨hX, h1, h2⟩
  have HX := Lib.hid hX
  refine (by_any (HT.out.on hX) w.heap.size (w.heap.size + 1) a 65 h1 h2).mono ?_
  clear hX h1 h2
  rintro e w1 ⟨rfl, b1⟩
  have H1 := Lib.hid (HX.out.trans (b1.mono HX.out.size))
  clear b1
  go_wp2_with fail
  go_ret
  exact ⟨rfl, H1.out⟩
set_option maxRecDepth 100000 in
set_option maxHeartbeats 2000000 in
theorem put_11 (hT : TabW w.heap.size w) : Calls Tryd.prog 16 #[opV 11 a b t] w fun e w' => e = .returned (.string (byS a 66)) ∧ Below w.heap.size w w' := by
  have HT := Lib.hid hT
  clear hT
  have hst := store_fn w (opC 11 a b t)
  have hmf : ∀ (fn : Fn) (first cap : Array Value) (w : World), (Instr.makeFunc fn first cap).run Tryd.prog w = .ok (.func fn first cap) w := fun _ _ _ _ => rfl
  go_enter Tryd.func16, Tryd.ntmps16
  go_wp2_with fail
  refine at_callsA (fun X => Below w.heap.size w X ∧ X.cell? ⟨w.heap.size, 1, none⟩ = some (.int .i64 a) ∧ X.cell? ⟨w.heap.size + 1, 0, none⟩ = some fnV) ⟨((Below.refl _ _).alloc (Nat.le_refl _) _).alloc (by simp) _, cells_fn1 w 11 a b t, cells_fn2 w (opC 11 a b t)⟩ ?_
  rintro X ⟨hX, h1, h2⟩
  have HX := Lib.hid hX
  refine (by_any (HT.out.on hX) w.heap.size (w.heap.size + 1) a 66 h1 h2).mono ?_
  clear hX h1 h2
  rintro e w1 ⟨rfl, b1⟩
  have H1 := Lib.hid (HX.out.trans (b1.mono HX.out.size))
  clear b1
  go_wp2_with fail
  go_ret
  exact ⟨rfl, H1.out⟩
set_option maxRecDepth 100000 in
set_option maxHeartbeats 2000000 in
theorem put_0 (k : Int) (h : ∀ j, 1 ≤ j → j ≤ 11 → k ≠ j) : Calls Tryd.prog 16 #[opV k a b t] w fun e w' => e = .returned (.string ⟨#[]⟩) ∧ Below w.heap.size w w' := by
  have d1 : (k == 1) = false := by simpa using h 1 (by omega) (by omega)
  have d2 : (k == 2) = false := by simpa using h 2 (by omega) (by omega)
  have d3 : (k == 3) = false := by simpa using h 3 (by omega) (by omega)
  have d4 : (k == 4) = false := by simpa using h 4 (by omega) (by omega)
  have d5 : (k == 5) = false := by simpa using h 5 (by omega) (by omega)
  have d6 : (k == 6) = false := by simpa using h 6 (by omega) (by omega)
  have d7 : (k == 7) = false := by simpa using h 7 (by omega) (by omega)
  have d8 : (k == 8) = false := by simpa using h 8 (by omega) (by omega)
  have d9 : (k == 9) = false := by simpa using h 9 (by omega) (by omega)
  have d10 : (k == 10) = false := by simpa using h 10 (by omega) (by omega)
  have d11 : (k == 11) = false := by simpa using h 11 (by omega) (by omega)
  clear h
  have hst := store_fn w (opC k a b t)
  have hmf : ∀ (fn : Fn) (first cap : Array Value) (w : World), (Instr.makeFunc fn first cap).run Tryd.prog w = .ok (.func fn first cap) w := fun _ _ _ _ => rfl
  go_enter Tryd.func16, Tryd.ntmps16
  go_wp2
  go_ret
  exact ⟨rfl, ((Below.refl _ _).alloc (Nat.le_refl _) _).alloc (by simp) _⟩
end
end Go.Proofs.YtednedklkbjihaaDoor
