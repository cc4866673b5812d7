/- rows: the document's Find. -/
import Derived.Test.YtkcielidjlgedaaRw1
namespace Go.Proofs.Ytkcielidjlgedaa
open Go.RowKit
set_option linter.unusedVariables false
set_option linter.unusedSimpArgs false

def fIdx (L : List Row) (kind r : Int) : Nat := L.findIdx (Row.has kind r)
def findV (L : List Row) (kind r : Int) : Int := if 0 ≤ r ∧ r ≤ MS ∧ fIdx L kind r < L.length then (fIdx L kind r : Int) else -1
theorem fIdx_at {L : List Row} {kind r : Int} {k : Nat} {x : Row} (hx : L[k]? = some x) (h : Row.has kind r x = true) (hn : ∀ j y, j < k → L[j]? = some y → Row.has kind r y = false) : fIdx L kind r = k := by
  obtain ⟨hk, e⟩ := List.getElem?_eq_some_iff.1 hx
  unfold fIdx
  rw [List.findIdx_eq hk]
  exact ⟨by rw [e]; exact h, fun j hj => hn j _ hj (List.getElem?_eq_getElem (by omega))⟩
theorem fIdx_no {L : List Row} {kind r : Int} (hn : ∀ j y, j < L.length → L[j]? = some y → Row.has kind r y = false) : fIdx L kind r = L.length := by
  unfold fIdx
  rw [List.findIdx_eq_length]
  intro y hy
  obtain ⟨j, hj, e⟩ := List.getElem_of_mem hy
  exact hn j y hj (by rw [List.getElem?_eq_getElem hj, e])

set_option maxHeartbeats 4000000 in
theorem find_any (A : Option Addr) (c : Nat) (L : List Row) (kind r : Int) (w : World) (hL : Li 5 encR w (fun _ => True) A L) (hc : L.length ≤ c) (hn : L.length ≤ 100000) :
    Calls Try.prog 10 #[.slice A L.length c, .int .i64 kind, .int .i64 r] w fun e w' => e = .returned (.int .i64 (findV L kind r)) ∧ w = w' := by
  by_cases hr : 0 ≤ r ∧ r ≤ 1114111
  · obtain ⟨h1, h2⟩ := hr
    have g1 : decide (r < 0) = false := decide_eq_false (by omega)
    have g2 : decide ((1114111 : Int) < r) = false := decide_eq_false (by omega)
    have HL := Lib.hid hL
    have HV := Lib.hid (show (∀ (k : Nat) (x : Row), L[k]? = some x → Row.has kind r x = true → (∀ (j : Nat) (y : Row), j < k → L[j]? = some y → Row.has kind r y = false) → findV L kind r = k) ∧ ((∀ (j : Nat) (y : Row), j < L.length → L[j]? = some y → Row.has kind r y = false) → findV L kind r = -1) from
      ⟨fun k x a b d => by rw [findV, fIdx_at a b d, if_pos ⟨h1, h2, (List.getElem?_eq_some_iff.1 a).1⟩], fun a => by rw [findV, fIdx_no a, if_neg (by omega)]⟩)
    clear hL
    go_enter Try.func10, Try.ntmps10
    go_wp2
    go_loop [7] (fun i => ∃ k : Nat, k ≤ L.length ∧ i = .int .i64 k ∧ Hid (∀ (j : Nat) (y : Row), j < k → L[j]? = some y → Row.has kind r y = false)) (fun i => L.length - (intOf i).toNat)
    case atStart => exact ⟨0, Nat.zero_le _, rfl, fun j y h => absurd h (by omega)⟩
    case round =>
      obtain ⟨k, hk, rfl, HN⟩ := hrel
      by_cases hlt : k < L.length
      · obtain ⟨x, b, o, hx, rfl, hbl, _, c0, c1, c2, c3, c4⟩ := HL.out.row hlt
        have HX := Lib.hid hx
        have step : Row.has kind r x = false → ∀ (j : Nat) (y : Row), j < k + 1 → L[j]? = some y → Row.has kind r y = false := fun h j y hj hy => by
          by_cases e : j = k
          · subst e; rw [HX.out] at hy; injection hy with hy; subst hy; exact h
          · exact HN.out j y (by omega) hy
        have HS := Lib.hid step
        clear hx step c3 c4
        by_cases e1 : x.k = kind
        · have d1 : (x.k == kind) = true := by simpa using e1
          by_cases e2 : x.f ≤ r
          · by_cases e3 : r ≤ x.t
            · have HR := Lib.hid (HV.out.1 k x HX.out (by simp [Row.has, e1, e2, e3]) HN.out)
              have d2 : decide (x.f ≤ r) = true := decide_eq_true e2
              have d3 : decide (r ≤ x.t) = true := decide_eq_true e3
              clear e1
              go_wp2
              go_ret
              exact ⟨by rw [HR.out] <;> rfl, rfl⟩
            · have HR := Lib.hid (HS.out (by simp [Row.has]; omega))
              have d2 : decide (x.f ≤ r) = true := decide_eq_true e2
              have d3 : decide (r ≤ x.t) = false := decide_eq_false e3
              clear e1
              go_wp2
              go_round
              case rel => exact ⟨k + 1, by omega, by go_num, HR.out⟩
              case measure => simp [intOf]; omega
          · have HR := Lib.hid (HS.out (by simp [Row.has]; omega))
            have d2 : decide (x.f ≤ r) = false := decide_eq_false e2
            clear e1
            go_wp2
            go_round
            case rel => exact ⟨k + 1, by omega, by go_num, HR.out⟩
            case measure => simp [intOf]; omega
        · have HR := Lib.hid (HS.out (by simp [Row.has, e1]))
          have d1 : (x.k == kind) = false := by simpa using e1
          clear e1
          go_wp2
          go_round
          case rel => exact ⟨k + 1, by omega, by go_num, HR.out⟩
          case measure => simp [intOf]; omega
      · obtain rfl : k = L.length := by omega
        have HR := Lib.hid (HV.out.2 HN.out)
        clear hlt
        go_wp2
        go_ret
        exact ⟨by rw [HR.out] <;> rfl, rfl⟩
  · have HV := Lib.hid (show findV L kind r = -1 from by rw [findV, if_neg fun h => hr ⟨h.1, h.2.1⟩])
    have hr2 : r < 0 ∨ (0 ≤ r ∧ 1114111 < r) := by omega
    clear hL hr
    rcases hr2 with h | ⟨h, h'⟩
    all_goals
      go_enter Try.func10, Try.ntmps10
      go_wp2
      go_ret
      exact ⟨by rw [HV.out] <;> rfl, rfl⟩
end Go.Proofs.Ytkcielidjlgedaa
