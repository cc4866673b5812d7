/- past: Len, At, Line. -/
import Derived.Test.YtmhjhndnbgabjaaPastC
namespace Go.Proofs.Ytmhjhndnbgabjaa
open Go.RowKit
set_option linter.unusedVariables false
set_option linter.unusedSimpArgs false

set_option maxHeartbeats 1000000 in
theorem len_any (A : Option Addr) (n c : Nat) (k : Int) (lv : Value) (w : World) : Calls Try.prog 16 #[.agg #[.slice A n c, .int .i64 k, lv]] w fun e w' => e = .returned (.int .i64 n) ∧ w' = w.alloc (.cells #[.slice A n c, .int .i64 k, lv] 26) := by
  go_enter Try.func16, Try.ntmps16
  go_wp2
  go_ret
  exact ⟨rfl, rfl⟩

set_option maxHeartbeats 1000000 in
theorem at_any (u lv : Value) (k : Int) (w : World) : Calls Try.prog 17 #[.agg #[u, .int .i64 k, lv]] w fun e w' => e = .returned (.int .i64 k) ∧ w' = w.alloc (.cells #[u, .int .i64 k, lv] 26) := by
  go_enter Try.func17, Try.ntmps17
  go_wp2
  go_ret
  exact ⟨rfl, rfl⟩

/-- The line that is so many back. -/
def lineM (M : List (List Int)) (k : Int) (s : List Int) (i : Int) (now : List Int) : Option (List Int) :=
  if i < 0 ∨ (M.length : Int) < i then none else if 0 < i then some (M.getD (M.length - i.toNat) []) else if 0 < k then some s else some now

/-- A line that is told, or that there is none. -/
def TellsLn (x : Option (List Int)) (w : World) (e : Ending) (w' : World) : Prop := ∃ A n c, e = .returned (.tuple #[.slice A n c, .bool x.isSome]) ∧ TxtS w' (fun b => w.heap.size ≤ b) (.slice A n c) (x.getD []) ∧ Below w.heap.size w w'

set_option maxHeartbeats 1000000 in
theorem line_below (u v lv : Value) (M : List (List Int)) (k i : Int) (w : World) (hL : Txts w u M) (hi : i < 0) :
    Calls Try.prog 24 #[.agg #[u, .int .i64 k, lv], .int .i64 i, v] w (TellsLn none w) := by
  obtain ⟨A, c, rfl, hc, hc2⟩ := hL.is
  have d0 : decide (i < 0) = true := by simpa using hi
  clear hL
  go_enter Try.func24, Try.ntmps24
  go_wp2
  go_ret2
  exact ⟨none, 0, 0, rfl, Sl.nil _ _ _, (Below.refl _ _).alloc (Nat.le_refl _) _⟩

set_option maxHeartbeats 1000000 in
theorem line_above (u v lv : Value) (M : List (List Int)) (k i : Int) (w : World) (hL : Txts w u M) (hi : (M.length : Int) < i) :
    Calls Try.prog 24 #[.agg #[u, .int .i64 k, lv], .int .i64 i, v] w (TellsLn none w) := by
  obtain ⟨A, c, rfl, hc, hc2⟩ := hL.is
  have d0 : decide (i < 0) = false := decide_eq_false (by omega)
  have d1 : decide ((M.length : Int) < i) = true := decide_eq_true (by omega)
  clear hL
  go_enter Try.func24, Try.ntmps24
  go_wp2
  go_ret2
  exact ⟨none, 0, 0, rfl, Sl.nil _ _ _, (Below.refl _ _).alloc (Nat.le_refl _) _⟩

set_option maxHeartbeats 1000000 in
theorem line_at (u v lv : Value) (M : List (List Int)) (k : Int) (i : Nat) (w : World) (hL : Txts w u M) (h0 : 0 < i) (hi : i ≤ M.length) (hlen : (M.getD (M.length - i) []).length ≤ 1000000) :
    Calls Try.prog 24 #[.agg #[u, .int .i64 k, lv], .int .i64 i, v] w (TellsLn (some (M.getD (M.length - i) [])) w) := by
  obtain ⟨A, c, rfl, hc, hc2⟩ := hL.is
  obtain ⟨b, o, Aj, nj, cj, rfl, hb, hcj, htj⟩ := hL.at_ (j := M.length - i) (by omega)
  obtain ⟨x, hx⟩ : ∃ x, M.getD (M.length - i) [] = x := ⟨_, rfl⟩
  rw [hx] at htj hlen ⊢
  have HT := Lib.hid htj
  have d0 : decide ((i : Int) < 0) = false := decide_eq_false (by omega)
  have d1 : decide ((M.length : Int) < (i : Int)) = false := decide_eq_false (by omega)
  have d2 : decide ((0 : Int) < (i : Int)) = true := decide_eq_true (by omega)
  have d3 : ((M.length : Int) - (i : Int)) = ((M.length - i : Nat) : Int) := by omega
  clear hL htj hx
  go_enter Try.func24, Try.ntmps24
  go_wp2_with (go_at_call 23; refine (clone_any _ _ _ (HT.out.any.later ((Below.refl _ _).alloc (Nat.le_refl _) _)) (by omega)).mono ?_; rintro e w1 ⟨A1, n1, c1, rfl, ht1, hb1⟩)
  go_ret2
  exact ⟨_, _, _, rfl, Sl.mono ht1 fun b hb => by simp [World.size_alloc] at hb; omega, ((Below.refl w.heap.size w).alloc (Nat.le_refl _) _).trans (hb1.mono (by simp [World.size_alloc]))⟩

set_option maxHeartbeats 1000000 in
theorem line_left (u v lv : Value) (M : List (List Int)) (s : List Int) (k : Int) (w : World) (hL : Txts w u M) (hs : Txt w lv s) (hk : 0 < k) (hlen : s.length ≤ 1000000) :
    Calls Try.prog 24 #[.agg #[u, .int .i64 k, lv], .int .i64 0, v] w (TellsLn (some s) w) := by
  obtain ⟨A, c, rfl, hc, hc2⟩ := hL.is
  obtain ⟨As, cs, rfl, _, _⟩ := Sl.is hs
  have HT := Lib.hid hs
  have d1 : decide ((M.length : Int) < 0) = false := decide_eq_false (by omega)
  have d2 : decide (0 < k) = true := decide_eq_true (by omega)
  clear hL hs
  go_enter Try.func24, Try.ntmps24
  go_wp2_with (go_at_call 23; refine (clone_any _ _ _ (HT.out.later ((Below.refl _ _).alloc (Nat.le_refl _) _)) (by omega)).mono ?_; rintro e w1 ⟨A1, n1, c1, rfl, ht1, hb1⟩)
  go_ret2
  exact ⟨_, _, _, rfl, Sl.mono ht1 fun b hb => by simp [World.size_alloc] at hb; omega, ((Below.refl w.heap.size w).alloc (Nat.le_refl _) _).trans (hb1.mono (by simp [World.size_alloc]))⟩

set_option maxHeartbeats 1000000 in
theorem line_now (u v lv : Value) (M : List (List Int)) (now : List Int) (k : Int) (w : World) (hL : Txts w u M) (hs : Txt w v now) (hk : ¬ 0 < k) (hlen : now.length ≤ 1000000) :
    Calls Try.prog 24 #[.agg #[u, .int .i64 k, lv], .int .i64 0, v] w (TellsLn (some now) w) := by
  obtain ⟨A, c, rfl, hc, hc2⟩ := hL.is
  obtain ⟨As, cs, rfl, _, _⟩ := Sl.is hs
  have HT := Lib.hid hs
  have d1 : decide ((M.length : Int) < 0) = false := decide_eq_false (by omega)
  have d2 : decide (0 < k) = false := decide_eq_false (by omega)
  clear hL hs
  go_enter Try.func24, Try.ntmps24
  go_wp2_with (go_at_call 23; refine (clone_any _ _ _ (HT.out.later ((Below.refl _ _).alloc (Nat.le_refl _) _)) (by omega)).mono ?_; rintro e w1 ⟨A1, n1, c1, rfl, ht1, hb1⟩)
  go_ret2
  exact ⟨_, _, _, rfl, Sl.mono ht1 fun b hb => by simp [World.size_alloc] at hb; omega, ((Below.refl w.heap.size w).alloc (Nat.le_refl _) _).trans (hb1.mono (by simp [World.size_alloc]))⟩

theorem line_any (u v lv : Value) (M : List (List Int)) (s now : List Int) (k i : Int) (w : World) (hL : Txts w u M) (hs : Txt w lv s) (hv : Txt w v now) (h1 : ∀ l ∈ M, l.length ≤ 1000000) (h2 : s.length ≤ 1000000) (h3 : now.length ≤ 1000000) :
    Calls Try.prog 24 #[.agg #[u, .int .i64 k, lv], .int .i64 i, v] w (TellsLn (lineM M k s i now) w) := by
  unfold lineM
  by_cases h : i < 0
  · rw [if_pos (.inl h)]; exact line_below u v lv M k i w hL h
  by_cases h' : (M.length : Int) < i
  · rw [if_pos (.inr h')]; exact line_above u v lv M k i w hL h'
  rw [if_neg (by omega)]
  by_cases hp : 0 < i
  · rw [if_pos hp]
    obtain ⟨n, rfl⟩ : ∃ n : Nat, i = n := ⟨i.toNat, by omega⟩
    refine line_at u v lv M k n w hL (by omega) (by omega) ?_
    rw [List.getD, List.getElem?_eq_getElem (by omega), Option.getD_some]
    exact h1 _ (List.getElem_mem _)
  · rw [if_neg hp]
    obtain rfl : i = 0 := by omega
    by_cases hk : 0 < k
    · rw [if_pos hk]; exact line_left u v lv M s k w hL hs hk h2
    · rw [if_neg hk]; exact line_now u v lv M now k w hL hv hk h3

end Go.Proofs.Ytmhjhndnbgabjaa
