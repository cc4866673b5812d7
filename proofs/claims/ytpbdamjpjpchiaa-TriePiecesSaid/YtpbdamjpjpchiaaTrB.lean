/- trie: few, made, the document's Get. -/
import Derived.Test.YtpbdamjpjpchiaaTrZ
namespace Go.Proofs.Ytpbdamjpjpchiaa
open Go.RowKit Go.Maps
set_option linter.unusedVariables false
set_option linter.unusedSimpArgs false

theorem few_any (A : Option Addr) (n c : Nat) (hc : n ≤ c) (W : World) : Calls Try.prog 8 #[.slice A n c] W (fun e w' => e = .returned (.slice A (min n 30) c) ∧ Below W.heap.size W w') := by
  rcases Nat.lt_or_ge 30 n with h | h
  · have d0 : decide ((30 : Int) < (n : Int)) = true := decide_eq_true (by omega)
    have h2 : min n 30 = 30 := by omega
    have h3 : 30 ≤ c := by omega
    have h4 : (30 : Int) ≤ (c : Int) := by omega
    rw [h2]
    go_enter Try.func8, Try.ntmps8
    go_wp2
    go_ret
    exact ⟨rfl, Below.refl _ _⟩
  · have d0 : decide ((30 : Int) < (n : Int)) = false := decide_eq_false (by omega)
    have h2 : min n 30 = n := by omega
    rw [h2]
    go_enter Try.func8, Try.ntmps8
    go_wp2
    go_ret
    exact ⟨rfl, Below.refl _ _⟩

theorem pget_drop {L : List (Pc Int)} {k : Nat} {x : Pc Int} (hx : L[k]? = some x) (r : Int) : pget (L.drop k) r = if x.f ≤ r ∧ r ≤ x.t then some x.v else pget (L.drop (k + 1)) r := by
  obtain ⟨hk, e⟩ := List.getElem?_eq_some_iff.1 hx
  rw [List.drop_eq_getElem_cons hk, e]
  exact pget_cons x _ r

set_option maxHeartbeats 4000000 in
set_option maxRecDepth 100000 in
theorem refget_any (A : Option Addr) (c : Nat) (L : List (Pc Int)) (z r : Int) (W : World) (hL : Li 3 encP W (fun _ => True) A L) (hn : L.length ≤ 100000) :
    Calls Try.prog 11 #[.slice A L.length c, .int .i64 z, .int .i64 r] W (fun e w' => e = .returned (.int .i64 (pval L z r)) ∧ Below W.heap.size W w') := by
  have HL := Lib.hid hL
  clear hL
  go_enter Try.func11, Try.ntmps11
  go_wp2
  go_loopw [7] (fun v wr => ∃ k : Nat, k ≤ L.length ∧ v = .int .i64 k ∧ wr = W ∧ Hid (pget L r = pget (L.drop k) r)) (fun v _ => L.length - (intOf v).toNat)
  case atStart => exact ⟨0, Nat.zero_le _, rfl, rfl, Lib.hid (by simp)⟩
  case round =>
    obtain ⟨k, hk, rfl, rfl, HK⟩ := hrel
    by_cases hlt : k < L.length
    · obtain ⟨x, b, o, hx, rfl, hbl, _, c0, c1, c2⟩ := HL.out.piece hlt
      have HX := Lib.hid (pget_drop hx r)
      clear hx
      have i1 : (k : Int) < (L.length : Int) := by omega
      have i2 : (0 : Int) ≤ (k : Int) := by omega
      by_cases h1 : x.f ≤ r
      · have d1 : decide (x.f ≤ r) = true := decide_eq_true h1
        by_cases h2 : r ≤ x.t
        · have d2 : decide (r ≤ x.t) = true := decide_eq_true h2
          have HV := Lib.hid (show pval L z r = x.v by unfold pval; rw [HK.out, HX.out, if_pos ⟨h1, h2⟩]; rfl)
          go_wp2
          go_ret
          exact ⟨congrArg (fun v => Ending.returned (.int .i64 v)) HV.out.symm, Below.refl _ _⟩
        · have d2 : decide (r ≤ x.t) = false := decide_eq_false h2
          go_wp2
          go_roundw
          case rel => exact ⟨k + 1, by omega, by go_num, by first | rfl | trivial, Lib.hid (by rw [HK.out, HX.out, if_neg (fun h => h2 h.2)])⟩
          case measure => simp [intOf]; omega
      · have d1 : decide (x.f ≤ r) = false := decide_eq_false h1
        go_wp2
        go_roundw
        case rel => exact ⟨k + 1, by omega, by go_num, by first | rfl | trivial, Lib.hid (by rw [HK.out, HX.out, if_neg (fun h => h1 h.1)])⟩
        case measure => simp [intOf]; omega
    · obtain rfl : k = L.length := by omega
      have HV := Lib.hid (show pval L z r = z by unfold pval; rw [HK.out, List.drop_length]; rfl)
      go_wp2
      go_ret
      exact ⟨congrArg (fun v => Ending.returned (.int .i64 v)) HV.out.symm, Below.refl _ _⟩
end Go.Proofs.Ytpbdamjpjpchiaa
