/- gap: the document's Slice. -/
import Derived.Test.YtganehhcnflgaaaGapU
namespace Go.Proofs.Ytganehhcnflgaaa
open Go.RowKit
set_option linter.unusedVariables false
set_option linter.unusedSimpArgs false

/-- What the document has told, k places on. -/
def sel (L : List Int) (X m k : Nat) : List Int := ((L.take k).drop X).take m
theorem sel_len (L : List Int) (X m k : Nat) : (sel L X m k).length ≤ L.length := by unfold sel; simp; omega
theorem sel_all (L : List Int) (X m : Nat) : sel L X m L.length = (L.drop X).take m := by unfold sel; rw [List.take_length]
theorem sel_yes {L : List Int} {X m k : Nat} (hk : k < L.length) (h1 : X ≤ k) (h2 : k < X + m) : sel L X m (k + 1) = sel L X m k ++ [L.getD k 0] ∧ (sel L X m k).length = k - X := by
  have hl : (sel L X m k).length = k - X := by unfold sel; simp; omega
  refine ⟨?_, hl⟩
  apply List.ext_getElem?
  intro j
  by_cases hj : j < k - X
  · rw [List.getElem?_append_left (by omega)]
    unfold sel
    rw [List.getElem?_take, List.getElem?_take, List.getElem?_drop, List.getElem?_drop, List.getElem?_take, List.getElem?_take, if_pos (by omega), if_pos (by omega), if_pos (by omega)]
    rw [if_pos (by omega)]
  · rw [List.getElem?_append_right (by omega), hl]
    unfold sel
    rw [List.getElem?_take, List.getElem?_drop, List.getElem?_take]
    by_cases e : j = k - X
    · subst e
      rw [if_pos (by omega), if_pos (by omega), show X + (k - X) = k by omega]
      simp [List.getD, hk]
    · have er : [L.getD k 0][j - (k - X)]? = none := List.getElem?_eq_none (by rw [List.length_singleton]; omega)
      rw [er]
      split
      · rw [if_neg (by omega)]
      · rfl
theorem sel_no {L : List Int} {X m k : Nat} (h : k < X ∨ X + m ≤ k) : sel L X m (k + 1) = sel L X m k := by
  apply List.ext_getElem?
  intro j
  unfold sel
  rw [List.getElem?_take, List.getElem?_take, List.getElem?_drop, List.getElem?_drop, List.getElem?_take, List.getElem?_take]
  by_cases hj : j < m
  · rw [if_pos hj, if_pos hj]
    by_cases hx : X + j < k
    · rw [if_pos (by omega), if_pos (by omega)]
    · rw [if_neg (by omega), if_neg (by omega)]
  · rw [if_neg hj, if_neg hj]

set_option maxHeartbeats 1000000 in
theorem refslice_any (A : Option Addr) (n c : Nat) (L : List Int) (x y Yi : Int) (X : Nat) (w : World) (S : Nat → Prop) (hA : IntS w S (.slice A n c) L) (hE : Ends x y n X Yi) (hl : n ≤ 1000000) :
    Calls Try.prog 14 #[.slice A n c, .int .i64 x, .int .i64 y] w (TellsI ((L.drop X).take (Yi - X).toNat) w) := by
  obtain ⟨rfl, ra, na, la, lc⟩ := Sl.parts hA
  obtain ⟨m, hm⟩ : ∃ m, (Yi - X).toNat = m := ⟨_, rfl⟩
  rw [hm, ← sel_all]
  have HA := Lib.hid ra
  have HE := Lib.hid (And.intro hE hm)
  clear hA ra hE hm na
  go_enter Try.func14, Try.ntmps14
  go_wp2
  go_loopw [7, 8] (fun v i wr => ∃ k : Nat, k ≤ L.length ∧ i = .int .i64 k ∧ ∃ A1 n1 c1, v = .slice A1 n1 c1 ∧ Hid ((sel L X m k).length = n1 ∧ wr.ownsRow w.heap.size 3 1 (.slice A1 n1 c1) n1 ((sel L X m k).map vI) ∧ Below w.heap.size w wr)) (fun _ i _ => L.length - (intOf i).toNat)
  case atStart => exact ⟨0, Nat.zero_le _, rfl, none, 0, 0, rfl, by simp [sel], by simpa [sel] using World.ownsRow_nil w w.heap.size 3 1, Below.refl _ _⟩
  case round =>
    obtain ⟨k, hk, rfl, A1, n1, c1, rfl, HR⟩ := hrel
    have hz := HR.out.2.2.size
    by_cases hlt : k < L.length
    · obtain ⟨b, o, rfl, _, hc⟩ := (HA.out.later HR.out.2.2) k (by omega)
      obtain ⟨z, hzf⟩ : ∃ z, L.getD k 0 = z := ⟨_, rfl⟩
      unfold liI vI at hc
      rw [hzf] at hc
      have HX := Lib.hid hzf
      clear hzf
      by_cases hin : X ≤ k ∧ k < X + m
      · have hE := HE.out
        unfold Ends at hE
        have d1 : decide (x ≤ (k : Int)) = true := by simp; omega
        have d2 : decide ((k : Int) < y) = true := by simp; omega
        have hs := Lib.hid (sel_yes hlt hin.1 hin.2)
        have hn1 : n1 ≤ 1000000 := by have := hs.out.2; have := HR.out.1; omega
        have hA1 : n1 + 1 ≤ maxLen := by unfold maxLen; omega
        have hA2 : (n1 + 1) * 8 ≤ 140737488355328 := by omega
        clear hE hin
        go_wp2_with (at_builtin; refine wpList_push eltI HR.out.2.1 (by simpa using hz) rfl rfl rfl rfl (by simp) rfl rfl hA1 hA2 ?_; intro A3 c3 w3 hp; have HP := Lib.hid hp; clear hp)
        go_roundw
        case rel =>
          have h := HP.out.own
          refine ⟨k + 1, by omega, by go_num, A3, n1 + 1, c3, rfl, by rw [hs.out.1]; have := HR.out.1; simp [this], ?_, HP.out.below HR.out.2.2 HR.out.2.1 (Nat.le_refl _)⟩
          rw [hs.out.1, List.map_append, HX.out]
          exact h
        case measure => simp [intOf]; omega
      · have hE := HE.out
        unfold Ends at hE
        have hs := Lib.hid (sel_no (L := L) (X := X) (m := m) (k := k) (by omega))
        by_cases h1 : x ≤ (k : Int)
        · have d1 : decide (x ≤ (k : Int)) = true := by simp; omega
          have d2 : decide ((k : Int) < y) = false := by simp; omega
          clear hE hin
          go_wp2
          go_roundw
          case rel => exact ⟨k + 1, by omega, by go_num, A1, n1, c1, rfl, by rw [hs.out]; exact HR.out.1, by rw [hs.out]; exact HR.out.2.1, HR.out.2.2⟩
          case measure => simp [intOf]; omega
        · have d1 : decide (x ≤ (k : Int)) = false := by simp; omega
          clear hE hin
          go_wp2
          go_roundw
          case rel => exact ⟨k + 1, by omega, by go_num, A1, n1, c1, rfl, by rw [hs.out]; exact HR.out.1, by rw [hs.out]; exact HR.out.2.1, HR.out.2.2⟩
          case measure => simp [intOf]; omega
    · obtain rfl : k = L.length := by omega
      go_wp2
      go_ret
      exact ⟨A1, n1, c1, rfl, int_own HR.out.1 HR.out.2.1, HR.out.2.2⟩
end Go.Proofs.Ytganehhcnflgaaa
