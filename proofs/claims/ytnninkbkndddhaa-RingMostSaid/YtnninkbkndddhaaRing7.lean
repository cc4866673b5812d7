/- ring: RingMost's walk. -/
import Derived.Test.YtnninkbkndddhaaRing6
import Derived.Handy
namespace Go.Proofs.Ytnninkbkndddhaa
open Go.RowKit
set_option linter.unusedVariables false
set_option linter.unusedSimpArgs false

theorem and127 (n : Int) : ∃ m : Nat, m ≤ 127 ∧ bits .and .i64 n 127 = (m : Int) := by
  refine ⟨(BitVec.ofInt 64 n &&& BitVec.ofInt 64 127).toNat, ?_, ?_⟩
  · rw [BitVec.toNat_and]
    exact Nat.and_le_right
  · have h : (BitVec.ofInt 64 n &&& BitVec.ofInt 64 127).toNat ≤ 127 := by rw [BitVec.toNat_and]; exact Nat.and_le_right
    show IntKind.i64.wrap ((BitVec.ofInt 64 n &&& BitVec.ofInt 64 127).toNat : Int) = _
    exact IntWalk.i64_in _ (by omega)

set_option maxHeartbeats 4000000 in
set_option maxRecDepth 100000 in
theorem walk_RingMost (n : Int) (wn : (Lit.int .i64 n).wf = true) (w : World) : Calls Try.prog 3 #[.int .i64 n] w (Yes w) := by
  obtain ⟨m, hm, hbits⟩ := and127 n
  have V0 := Lib.hid (var_new w 24)
  go_enter Try.func3, Try.ntmps3
  go_wp2
  go_loopw [4] (fun i wr => ∃ k : Nat, k ≤ m ∧ i = .int .i64 k ∧ Hid (∃ A n c, Var w (.slice A n c) 0 (mostL k) wr)) (fun i _ => m - (intOf i).toNat)
  case atStart => exact ⟨0, Nat.zero_le _, rfl, ⟨none, 0, 0, V0.out⟩⟩
  case round =>
    obtain ⟨k, hk, rfl, HR⟩ := hrel
    obtain ⟨A, n, c, V⟩ := HR.out
    have V1 := Lib.hid V
    obtain ⟨y0, k0, j0⟩ := (show _ from V.blk)
    clear V HR
    by_cases hlt : k < m
    · have C1 := Lib.hid (add_any (.slice A n c) (.slice (some ⟨wr.heap.size, 0, none⟩) 1 1) (mostL k) [(k : Int)] 0 (Aft w.heap.size) (wr.alloc (.cells #[.int .i32 k] 21)) (V1.out.ts.later (below_one _ _)) (by rw [mostL_len]; omega) (txt_new _ _ _) (by simp))
      go_wp2_with fail
      (with_reducible refine C1.out.mono ?_)
      rintro e w1 ⟨A1, n1, c1, rfl, ht1, hb1⟩
      have T1 : Hid (TxtsS w1 (Aft w.heap.size) (.slice A1 n1 c1) (mostL (k + 1))) := Lib.hid (by rw [← mostL_succ]; exact ht1.mono fun b hb => aft_new (g := w.heap.size) (by simp only [World.size_alloc]; have := V1.out.blk.1; omega) hb)
      have V2 := Lib.hid ((V1.out.later (below_one _ _)).store (k' := 0) hb1 T1.out)
      have V3 := Lib.hid (V1.out.later (one_later hb1))
      clear y0 k0 j0 hb1 ht1
      obtain ⟨y1, k1, j1⟩ := (show _ from V3.out.blk)
      go_wp2
      go_roundw
      case rel => exact ⟨k + 1, by omega, by go_num, ⟨_, _, _, V2.out⟩⟩
      case measure => simp [intOf]; omega
    · obtain rfl : k = m := by omega
      have C1 := Lib.hid (all_any (.slice A n c) 0 (mostL k) wr V1.out.ts.any (by rw [mostL_len]; omega) (fun l hl => by
        obtain ⟨j, hj, e⟩ := List.getElem_of_mem hl
        rw [mostL_len] at hj
        have := mostL_at k j hj
        simp only [List.getD, List.getElem?_eq_getElem (show j < (mostL k).length by rw [mostL_len]; omega), Option.getD_some] at this
        rw [← e, this]
        simp))
      obtain ⟨q, hq, hq60, hqk⟩ : ∃ q : Nat, q = (mostL k).length ∧ q = min 60 k ∧ q ≤ 60 := ⟨_, rfl, mostL_len k, by rw [mostL_len]; omega⟩
      rcases Nat.lt_or_ge 60 k with h60 | h60
      · obtain rfl : q = 60 := by omega
        have d60 : decide ((60 : Int) < (k : Int)) = true := by simp; omega
        have HQ := Lib.hid hq
        clear hq hq60
        go_wp2_with fail
        (with_reducible refine C1.out.mono ?_)
        rintro e w1 ⟨A1, n1, c1, rfl, ht1, hb1⟩
        have e1 := ht1.len.symm
        rw [← HQ.out] at e1
        subst e1
        have S1 := Lib.hid (And.intro ht1 (V1.out.below.trans (hb1.mono V1.out.below.size)))
        clear ht1 hb1 y0 k0 j0 hbits
        go_wp2
        go_loopw [8] (fun i w2 => ∃ j : Nat, j ≤ 60 ∧ i = .int .i64 j ∧ Hid (Below w1.heap.size w1 w2)) (fun i _ => 60 - (intOf i).toNat)
        case atStart => exact ⟨0, Nat.zero_le _, rfl, Lib.hid (Below.refl _ _)⟩
        case round =>
          obtain ⟨j, hj, rfl, HB⟩ := hrel
          rename World => w2
          by_cases hjq : j < 60
          · obtain ⟨b, o, Aj, nj, cj, rfl, hbl, hcell, ht⟩ := S1.out.1.at_ (j := j) (by rw [← HQ.out]; exact hjq)
            have hcell' : w2.cell? ⟨b, o + j, none⟩ = some (.slice Aj nj cj) := (HB.out.cell (p := ⟨b, o + j, none⟩) hbl).trans hcell
            have htx : (mostL k).getD j [] = [(k : Int) - 1 - (j : Int)] := by rw [mostL_at k j (by omega)]; congr 1; omega
            rw [htx] at ht
            have C2 := Lib.hid (same_far (.slice Aj nj cj) (.slice (some ⟨w2.heap.size, 0, none⟩) 1 1) _ (w2.alloc (.cells #[.int .i32 ((k : Int) - 1 - (j : Int))] 21)) ((Txt.later ht HB.out).later (below_one _ _)) (txt_new _ _ _))
            clear ht htx hcell
            go_wp2_with fail
            (with_reducible refine C2.out.mono ?_)
            rintro e w3 ⟨rfl, hb3⟩
            have H3 := Lib.hid (HB.out.trans ((one_later hb3).mono HB.out.size))
            clear hb3
            go_wp2
            go_roundw
            case rel => exact ⟨j + 1, by omega, by go_num, H3⟩
            case measure => simp [intOf]; omega
          · obtain rfl : j = 60 := by omega
            go_wp2_with (go_at_call 9; refine (awake_yes _).mono ?_; rintro e w4 ⟨rfl, hb4⟩)
            go_ret
            have h2 := S1.out.2.trans (HB.out.mono S1.out.2.size)
            exact ⟨rfl, h2.trans (hb4.mono h2.size)⟩
      · obtain rfl : k = q := by omega
        have d60 : decide ((60 : Int) < (k : Int)) = false := by simp; omega
        have HQ := Lib.hid hq
        clear hq hq60
        go_wp2_with fail
        (with_reducible refine C1.out.mono ?_)
        rintro e w1 ⟨A1, n1, c1, rfl, ht1, hb1⟩
        have e1 := ht1.len.symm
        rw [← HQ.out] at e1
        subst e1
        have S1 := Lib.hid (And.intro ht1 (V1.out.below.trans (hb1.mono V1.out.below.size)))
        clear ht1 hb1 y0 k0 j0 hbits
        go_wp2
        go_loopw [8] (fun i w2 => ∃ j : Nat, j ≤ k ∧ i = .int .i64 j ∧ Hid (Below w1.heap.size w1 w2)) (fun i _ => k - (intOf i).toNat)
        case atStart => exact ⟨0, Nat.zero_le _, rfl, Lib.hid (Below.refl _ _)⟩
        case round =>
          obtain ⟨j, hj, rfl, HB⟩ := hrel
          rename World => w2
          by_cases hjq : j < k
          · obtain ⟨b, o, Aj, nj, cj, rfl, hbl, hcell, ht⟩ := S1.out.1.at_ (j := j) (by rw [← HQ.out]; exact hjq)
            have hcell' : w2.cell? ⟨b, o + j, none⟩ = some (.slice Aj nj cj) := (HB.out.cell (p := ⟨b, o + j, none⟩) hbl).trans hcell
            have htx : (mostL k).getD j [] = [(k : Int) - 1 - (j : Int)] := by rw [mostL_at k j (by omega)]; congr 1; omega
            rw [htx] at ht
            have C2 := Lib.hid (same_far (.slice Aj nj cj) (.slice (some ⟨w2.heap.size, 0, none⟩) 1 1) _ (w2.alloc (.cells #[.int .i32 ((k : Int) - 1 - (j : Int))] 21)) ((Txt.later ht HB.out).later (below_one _ _)) (txt_new _ _ _))
            clear ht htx hcell
            go_wp2_with fail
            (with_reducible refine C2.out.mono ?_)
            rintro e w3 ⟨rfl, hb3⟩
            have H3 := Lib.hid (HB.out.trans ((one_later hb3).mono HB.out.size))
            clear hb3
            go_wp2
            go_roundw
            case rel => exact ⟨j + 1, by omega, by go_num, H3⟩
            case measure => simp [intOf]; omega
          · obtain rfl : j = k := by omega
            go_wp2_with (go_at_call 9; refine (awake_yes _).mono ?_; rintro e w4 ⟨rfl, hb4⟩)
            go_ret
            have h2 := S1.out.2.trans (HB.out.mono S1.out.2.size)
            exact ⟨rfl, h2.trans (hb4.mono h2.size)⟩

end Go.Proofs.Ytnninkbkndddhaa
