/- past: the document's Line and Go. -/
import Derived.Test.YtmhjhndnbgabjaaPastF
namespace Go.Proofs.Ytmhjhndnbgabjaa
open Go.RowKit
set_option linter.unusedVariables false
set_option linter.unusedSimpArgs false

/-- The document's line that is so many back; its lines are newest first. -/
def lineL (L : List (List Int)) (k : Int) (s : List Int) (i : Int) (now : List Int) : Option (List Int) :=
  if i < 0 ∨ (L.length : Int) < i then none else if 0 < i then some (L.getD (i.toNat - 1) []) else if k = 0 then some now else some s

/-- A line that is told, where it stood; or that there is none. -/
def TellsAt (x : Option (List Int)) (S : Nat → Prop) (w : World) (e : Ending) (w' : World) : Prop := ∃ A n c, e = .returned (.tuple #[.slice A n c, .bool x.isSome]) ∧ TxtS w' S (.slice A n c) (x.getD []) ∧ Below w.heap.size w w'

set_option maxHeartbeats 1000000 in
theorem rline_below (u v lv : Value) (L : List (List Int)) (k i : Int) (S : Nat → Prop) (w : World) (hL : TxtsS w S u L) (hi : i < 0) :
    Calls Try.prog 25 #[.agg #[u, .int .i64 k, lv], .int .i64 i, v] w (TellsAt none S w) := by
  obtain ⟨A, c, rfl, hc, hc2⟩ := hL.is
  have d0 : decide (i < 0) = true := by simpa using hi
  clear hL
  go_enter Try.func25, Try.ntmps25
  go_wp2
  go_ret2
  exact ⟨none, 0, 0, rfl, Sl.nil _ _ _, (Below.refl _ _).alloc (Nat.le_refl _) _⟩

set_option maxHeartbeats 1000000 in
theorem rline_above (u v lv : Value) (L : List (List Int)) (k i : Int) (S : Nat → Prop) (w : World) (hL : TxtsS w S u L) (hi : (L.length : Int) < i) :
    Calls Try.prog 25 #[.agg #[u, .int .i64 k, lv], .int .i64 i, v] w (TellsAt none S w) := by
  obtain ⟨A, c, rfl, hc, hc2⟩ := hL.is
  have d0 : decide (i < 0) = false := decide_eq_false (by omega)
  have d1 : decide ((L.length : Int) < i) = true := decide_eq_true (by omega)
  clear hL
  go_enter Try.func25, Try.ntmps25
  go_wp2
  go_ret2
  exact ⟨none, 0, 0, rfl, Sl.nil _ _ _, (Below.refl _ _).alloc (Nat.le_refl _) _⟩

set_option maxHeartbeats 1000000 in
theorem rline_at (u v lv : Value) (L : List (List Int)) (k : Int) (i : Nat) (S : Nat → Prop) (w : World) (hL : TxtsS w S u L) (h0 : 0 < i) (hi : i ≤ L.length) :
    Calls Try.prog 25 #[.agg #[u, .int .i64 k, lv], .int .i64 i, v] w (TellsAt (some (L.getD (i - 1) [])) S w) := by
  obtain ⟨A, c, rfl, hc, hc2⟩ := hL.is
  obtain ⟨b, o, Aj, nj, cj, rfl, hb, hcj, htj⟩ := hL.at_ (j := i - 1) (by omega)
  obtain ⟨x, hx⟩ : ∃ x, L.getD (i - 1) [] = x := ⟨_, rfl⟩
  rw [hx] at htj ⊢
  have HT := Lib.hid htj
  have d0 : decide ((i : Int) < 0) = false := decide_eq_false (by omega)
  have d1 : decide ((L.length : Int) < (i : Int)) = false := decide_eq_false (by omega)
  have d2 : decide ((0 : Int) < (i : Int)) = true := decide_eq_true (by omega)
  have d3 : ((i : Int) - 1) = ((i - 1 : Nat) : Int) := by omega
  clear hL htj hx
  go_enter Try.func25, Try.ntmps25
  go_wp2
  go_ret2
  exact ⟨_, _, _, rfl, TxtS.later HT.out (below_one _ _), below_one _ _⟩

set_option maxHeartbeats 1000000 in
theorem rline_now (u v lv : Value) (L : List (List Int)) (now : List Int) (S : Nat → Prop) (w : World) (hL : TxtsS w S u L) (hv : TxtS w S v now) :
    Calls Try.prog 25 #[.agg #[u, .int .i64 0, lv], .int .i64 0, v] w (TellsAt (some now) S w) := by
  obtain ⟨A, c, rfl, hc, hc2⟩ := hL.is
  obtain ⟨As, cs, rfl, _, _⟩ := Sl.is hv
  have HT := Lib.hid hv
  have d1 : decide ((L.length : Int) < 0) = false := decide_eq_false (by omega)
  clear hL hv
  go_enter Try.func25, Try.ntmps25
  go_wp2
  go_ret2
  exact ⟨_, _, _, rfl, TxtS.later HT.out (below_one _ _), below_one _ _⟩

set_option maxHeartbeats 1000000 in
theorem rline_left (u v lv : Value) (L : List (List Int)) (s : List Int) (k : Int) (S : Nat → Prop) (w : World) (hL : TxtsS w S u L) (hs : TxtS w S lv s) (hk : k ≠ 0) :
    Calls Try.prog 25 #[.agg #[u, .int .i64 k, lv], .int .i64 0, v] w (TellsAt (some s) S w) := by
  obtain ⟨A, c, rfl, hc, hc2⟩ := hL.is
  obtain ⟨As, cs, rfl, _, _⟩ := Sl.is hs
  have HT := Lib.hid hs
  have d1 : decide ((L.length : Int) < 0) = false := decide_eq_false (by omega)
  have d2 : (k == 0) = false := by simpa using hk
  clear hL hs
  go_enter Try.func25, Try.ntmps25
  go_wp2
  go_ret2
  exact ⟨_, _, _, rfl, TxtS.later HT.out (below_one _ _), below_one _ _⟩

theorem rline_any (u v lv : Value) (L : List (List Int)) (s now : List Int) (k i : Int) (S : Nat → Prop) (w : World) (hL : TxtsS w S u L) (hs : TxtS w S lv s) (hv : TxtS w S v now) :
    Calls Try.prog 25 #[.agg #[u, .int .i64 k, lv], .int .i64 i, v] w (TellsAt (lineL L k s i now) S w) := by
  unfold lineL
  by_cases h : i < 0
  · rw [if_pos (.inl h)]; exact rline_below u v lv L k i S w hL h
  by_cases h' : (L.length : Int) < i
  · rw [if_pos (.inr h')]; exact rline_above u v lv L k i S w hL h'
  rw [if_neg (by omega)]
  by_cases hp : 0 < i
  · rw [if_pos hp]
    obtain ⟨n, rfl⟩ : ∃ n : Nat, i = n := ⟨i.toNat, by omega⟩
    exact rline_at u v lv L k n S w hL (by omega) (by omega)
  · rw [if_neg hp]
    obtain rfl : i = 0 := by omega
    by_cases hk : k = 0
    · subst hk
      rw [if_pos rfl]; exact rline_now u v lv L now S w hL hv
    · rw [if_neg hk]; exact rline_left u v lv L s k S w hL hs hk

end Go.Proofs.Ytmhjhndnbgabjaa
