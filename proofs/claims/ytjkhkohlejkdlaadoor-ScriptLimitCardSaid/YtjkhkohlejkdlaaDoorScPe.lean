/- script: the document's Bare. -/
import Derived.Test.YtjkhkohlejkdlaaDoorScU
namespace Go.Proofs.YtjkhkohlejkdlaaDoor
open Go.RowKit
set_option linter.unusedVariables false
set_option linter.unusedSimpArgs false

theorem bare_snoc {L : List Evt} {k : Nat} {x : Evt} (h : L[k]? = some x) : (L.take (k + 1)).map bareE = (L.take k).map bareE ++ [bareE x] := by
  obtain ⟨hk, e⟩ := List.getElem?_eq_some_iff.1 h
  rw [List.take_succ_eq_append_getElem hk, e]
  simp
set_option maxRecDepth 100000 in
set_option maxHeartbeats 4000000 in
theorem bare_any (A : Option Addr) (c : Nat) (L : List Evt) (w : World) (hN5 : L.length ≤ 100000) (hL : LiV 4 encE w (fun _ => True) (.slice A L.length c) L) : Calls Tryd.prog 14 #[.slice A L.length c] w fun e w' => ∃ B d, e = .returned (.slice B L.length d) ∧ LiV 4 encE w' (fun b => w.heap.size ≤ b) (.slice B L.length d) (L.map bareE) ∧ Below w.heap.size w w' := by
  obtain ⟨N, hN⟩ : ∃ N, L.length = N := ⟨_, rfl⟩
  have HLi := Lib.hid hL.parts.2.1
  rw [hN] at hN5 ⊢
  have HN := Lib.hid hN
  clear hL hN
  go_enter Tryd.func14, Tryd.ntmps14
  go_wp2_with fail
  go_loopw [3, 4] (fun ov i wr => ∃ (k : Nat) (B : Option Addr) (d : Nat), k ≤ N ∧ i = .int .i64 (k : Nat) ∧ ov = .slice B k d ∧ Hid (wr.ownsRow w.heap.size 40 4 (.slice B k d) k (flatL encE ((L.take k).map bareE)) ∧ Below w.heap.size w wr)) (fun _ i _ => N - (intOf i).toNat)
  case atStart => exact ⟨0, none, 0, Nat.zero_le _, rfl, rfl, Lib.hid ⟨World.ownsRow_nil _ _ _ _, Below.refl _ _⟩⟩
  case round =>
    obtain ⟨k, B, d, hk, rfl, rfl, H1⟩ := hrel
    have hsW := H1.out.2.size
    by_cases hlt : k < N
    · have hki : (k : Int) < (N : Int) := by omega
      have hk0 : (0 : Int) ≤ (k : Int) := by omega
      have hkL : k < L.length := by rw [HN.out]; exact hlt
      obtain ⟨x, b, o, hx, rfl, hbl, c0, c1, c2, c3⟩ := (HLi.out.later H1.out.2).evt hkL
      have hne : b ≠ wr.heap.size := by omega
      have hne' : wr.heap.size ≠ b := fun e => hne e.symm
      have HS := Lib.hid (bare_snoc hx)
      obtain ⟨xk, xb, xr, xc⟩ := x
      dsimp only at c0 c1 c2 c3
      clear hx
      by_cases h1 : xk = 1
      · subst h1
        have hbe : bareE ⟨1, xb, xr, xc⟩ = ⟨1, xb, 0, 0⟩ := rfl
        rw [hbe] at HS
        have HO := Lib.hid (show (wr.alloc (.cells #[.int .i64 1, .int .u8 xb, .int .i64 0, .int .i64 0] 40)).ownsRow w.heap.size 40 4 (.slice B k d) k (flatL encE ((L.take k).map bareE)) ∧ Below w.heap.size w (wr.alloc (.cells #[.int .i64 1, .int .u8 xb, .int .i64 0, .int .i64 0] 40)) ∧ w.heap.size ≤ (wr.alloc (.cells #[.int .i64 1, .int .u8 xb, .int .i64 0, .int .i64 0] 40)).heap.size from ⟨H1.out.1.alloc _, H1.out.2.alloc hsW _, by simp; omega⟩)
        clear hbe
        go_wp2_with (at_builtin; refine wpList_push evt_elt HO.out.1 HO.out.2.2 rfl rfl rfl rfl (by simp) rfl rfl (by unfold maxLen; omega) (by omega) ?_; intro A3 c3' w3 hp; have HQ := Lib.hid (And.intro hp.own (hp.below HO.out.2.1 HO.out.1 (Nat.le_refl _))); clear hp)
        go_roundw
        case rel => exact ⟨k + 1, A3, c3', by omega, by go_num, rfl, Lib.hid ⟨by rw [HS.out, flatL_snoc]; exact HQ.out.1, HQ.out.2⟩⟩
        case measure => simp [intOf]; omega
      · by_cases h3 : xk = 3
        · subst h3
          have hbe : bareE ⟨3, xb, xr, xc⟩ = ⟨3, 0, xr, xc⟩ := rfl
          rw [hbe] at HS
          have HO := Lib.hid (show (wr.alloc (.cells #[.int .i64 3, .int .u8 0, .int .i64 xr, .int .i64 xc] 40)).ownsRow w.heap.size 40 4 (.slice B k d) k (flatL encE ((L.take k).map bareE)) ∧ Below w.heap.size w (wr.alloc (.cells #[.int .i64 3, .int .u8 0, .int .i64 xr, .int .i64 xc] 40)) ∧ w.heap.size ≤ (wr.alloc (.cells #[.int .i64 3, .int .u8 0, .int .i64 xr, .int .i64 xc] 40)).heap.size from ⟨H1.out.1.alloc _, H1.out.2.alloc hsW _, by simp; omega⟩)
          clear hbe
          go_wp2_with (at_builtin; refine wpList_push evt_elt HO.out.1 HO.out.2.2 rfl rfl rfl rfl (by simp) rfl rfl (by unfold maxLen; omega) (by omega) ?_; intro A3 c3' w3 hp; have HQ := Lib.hid (And.intro hp.own (hp.below HO.out.2.1 HO.out.1 (Nat.le_refl _))); clear hp)
          go_roundw
          case rel => exact ⟨k + 1, A3, c3', by omega, by go_num, rfl, Lib.hid ⟨by rw [HS.out, flatL_snoc]; exact HQ.out.1, HQ.out.2⟩⟩
          case measure => simp [intOf]; omega
        · have b1 : (xk == 1) = false := by simpa using h1
          have b3 : (xk == 3) = false := by simpa using h3
          have hbe : bareE ⟨xk, xb, xr, xc⟩ = ⟨xk, 0, 0, 0⟩ := by unfold bareE; rw [if_neg h1, if_neg h3, if_neg h3]
          rw [hbe] at HS
          have HO := Lib.hid (show (wr.alloc (.cells #[.int .i64 xk, .int .u8 0, .int .i64 0, .int .i64 0] 40)).ownsRow w.heap.size 40 4 (.slice B k d) k (flatL encE ((L.take k).map bareE)) ∧ Below w.heap.size w (wr.alloc (.cells #[.int .i64 xk, .int .u8 0, .int .i64 0, .int .i64 0] 40)) ∧ w.heap.size ≤ (wr.alloc (.cells #[.int .i64 xk, .int .u8 0, .int .i64 0, .int .i64 0] 40)).heap.size from ⟨H1.out.1.alloc _, H1.out.2.alloc hsW _, by simp; omega⟩)
          clear hbe h1 h3
          go_wp2_with (at_builtin; refine wpList_push evt_elt HO.out.1 HO.out.2.2 rfl rfl rfl rfl (by simp) rfl rfl (by unfold maxLen; omega) (by omega) ?_; intro A3 c3' w3 hp; have HQ := Lib.hid (And.intro hp.own (hp.below HO.out.2.1 HO.out.1 (Nat.le_refl _))); clear hp)
          go_roundw
          case rel => exact ⟨k + 1, A3, c3', by omega, by go_num, rfl, Lib.hid ⟨by rw [HS.out, flatL_snoc]; exact HQ.out.1, HQ.out.2⟩⟩
          case measure => simp [intOf]; omega
    · obtain rfl : k = N := by omega
      have hd : decide ((k : Int) < (k : Int)) = false := by simp
      have hlm : (L.map bareE).length = k := by rw [List.length_map]; exact HN.out
      have HE := Lib.hid (show (L.take k).map bareE = L.map bareE by rw [List.take_of_length_le (by rw [HN.out]; exact Nat.le_refl _)])
      have HV := Lib.hid (LiV.own encE_len (by decide) H1.out.1)
      go_wp2_with fail
      go_ret
      exact ⟨B, d, rfl, by have := HV.out; rw [HE.out] at this; exact this, H1.out.2⟩
end Go.Proofs.YtjkhkohlejkdlaaDoor
