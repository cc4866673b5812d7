/- rows: ofKind's walk. -/
import Derived.Test.YtkcielidjlgedaaRw1
namespace Go.Proofs.Ytkcielidjlgedaa
open Go.RowKit
set_option linter.unusedVariables false
set_option linter.unusedSimpArgs false

set_option maxHeartbeats 4000000 in
set_option maxRecDepth 100000 in
theorem ofKind_any (A : Option Addr) (c : Nat) (L : List Row) (kind : Int) (w : World) (hL : Li 5 encR w (fun _ => True) A L) (hc : L.length ≤ c) (hn : L.length ≤ 100000) :
    Calls Try.prog 17 #[.slice A L.length c, .int .i64 kind] w (TellsO 30 4 encS (ofK kind L) w) := by
  have HL := Lib.hid hL
  clear hL
  go_enter Try.func17, Try.ntmps17
  go_wp2
  go_loopw [5, 7, 8, 9, 12] (fun v _ _ _ i wr => ∃ k : Nat, ∃ Ao no co, k ≤ L.length ∧ i = .int .i64 k ∧ v = .slice Ao no co ∧ no ≤ k ∧ Hid (Grows w 30 4 encS Ao no co (ofK kind (L.take k)) wr)) (fun _ _ _ _ i _ => L.length - (intOf i).toNat)
  case atStart => exact ⟨0, none, 0, 0, Nat.zero_le _, rfl, rfl, Nat.le_refl _, Grows.start _ _ _⟩
  case round =>
    obtain ⟨k, Ao, no, co, hk, rfl, rfl, hno, HG⟩ := hrel
    by_cases hlt : k < L.length
    · obtain ⟨x, b, o, hx, rfl, hbl, _, c0, c1, c2, c3, c4⟩ := (HL.out.later HG.out.below).row hlt
      have HX := Lib.hid hx
      clear hx
      go_wp2
      refine at_world (fun X => Below wr.heap.size wr X ∧ Blk X wr.heap.size (encR x).toArray) ⟨(Below.refl _ _).alloc (Nat.le_refl _) _, blk_new _ _ _⟩ ?_
      rintro X ⟨hX, hB⟩
      have l0 : X.cell? ⟨wr.heap.size, 0, none⟩ = some (.int .i64 x.k) := hB.2.1 0
      have l1 : X.cell? ⟨wr.heap.size, 1, none⟩ = some (.int .i64 x.f) := hB.2.1 1
      have l2 : X.cell? ⟨wr.heap.size, 2, none⟩ = some (.int .i64 x.t) := hB.2.1 2
      have l3 : X.cell? ⟨wr.heap.size, 3, none⟩ = some (.int .i64 x.a) := hB.2.1 3
      have l4 : X.cell? ⟨wr.heap.size, 4, none⟩ = some (.int .i64 x.b) := hB.2.1 4
      have HW := Lib.hid (And.intro (HG.out.later hX) hX)
      clear hX hB HG c0 c1 c2 c3 c4
      have hz : w.heap.size ≤ X.heap.size := HW.out.1.below.size
      have HO := Lib.hid HW.out.1.own
      by_cases hk1 : x.k = kind
      · by_cases hft : max x.f 0 ≤ min x.t 1114111
        · have hcut : ofK kind (L.take (k + 1)) = ofK kind (L.take k) ++ [⟨max x.f 0, min x.t 1114111, x.a, x.b⟩] := by
            rw [take_snoc' HX.out, ofK_snoc, show cut1 kind x = some ⟨max x.f 0, min x.t MS, x.a, x.b⟩ from if_pos ⟨hk1, hft⟩]
            rfl
          have HC := Lib.hid hcut
          clear hcut
          go_quiet (fail)
          go_wp2_with (at_builtin; refine wpList_push span_elt (ownDrew HO.out _) (by simpa using hz) rfl rfl rfl rfl (by simp) rfl rfl (by unfold maxLen; omega) (by omega) ?_; intro A3 c3 w3 hp; have HP := Lib.hid hp; clear hp)
          go_roundw
          case rel => exact ⟨k + 1, _, _, _, by omega, by go_num, rfl, by omega, by rw [HC.out]; exact HW.out.1.push (selfDrew _ _) HP.out⟩
          case measure => simp [intOf]; omega
        · have hcut : ofK kind (L.take (k + 1)) = ofK kind (L.take k) := by
            rw [take_snoc' HX.out, ofK_snoc, show cut1 kind x = none from if_neg fun h => hft h.2]
            simp
          have HC := Lib.hid hcut
          clear hcut
          go_quiet (fail)
          go_wp2
          go_roundw
          case rel => exact ⟨k + 1, _, _, _, by omega, by go_num, rfl, by omega, by rw [HC.out]; exact HW.out.1.later (selfDrew _ _)⟩
          case measure => simp [intOf]; omega
      · have hcut : ofK kind (L.take (k + 1)) = ofK kind (L.take k) := by
          rw [take_snoc' HX.out, ofK_snoc, show cut1 kind x = none from if_neg fun h => hk1 h.1]
          simp
        have HC := Lib.hid hcut
        clear hcut
        go_quiet (fail)
        go_wp2
        go_roundw
        case rel => exact ⟨k + 1, _, _, _, by omega, by go_num, rfl, by omega, by rw [HC.out]; exact HW.out.1.later (selfDrew _ _)⟩
        case measure => simp [intOf]; omega
    · obtain rfl : k = L.length := by omega
      rw [List.take_length] at HG
      have HT := Lib.hid HG.out.tells
      clear HG hlt
      go_wp2
      go_ret
      exact HT.out
end Go.Proofs.Ytkcielidjlgedaa
