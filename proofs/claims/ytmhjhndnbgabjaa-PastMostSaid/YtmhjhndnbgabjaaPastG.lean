/- past: PastMost's walk. -/
import Derived.Test.YtmhjhndnbgabjaaPastF
import Derived.Handy
namespace Go.Proofs.Ytmhjhndnbgabjaa
open Go.RowKit
set_option linter.unusedVariables false
set_option linter.unusedSimpArgs false

theorem andMask (n : Int) (m : Nat) (hm : m ≤ 1000) : ∃ r : Nat, r ≤ m ∧ bits .and .i64 n m = (r : Int) := by
  have e : (BitVec.ofInt 64 (m : Int)).toNat = m := by simp; omega
  have h : (BitVec.ofInt 64 n &&& BitVec.ofInt 64 (m : Int)).toNat ≤ m := by rw [BitVec.toNat_and, e]; exact Nat.and_le_right
  refine ⟨(BitVec.ofInt 64 n &&& BitVec.ofInt 64 (m : Int)).toNat, h, ?_⟩
  show IntKind.i64.wrap ((BitVec.ofInt 64 n &&& BitVec.ofInt 64 (m : Int)).toNat : Int) = _
  exact IntWalk.i64_in _ (by omega)

/-- The past behind k lines. -/
def mostP (k : Nat) : List (List Int) := ((List.range k).drop (k - 500)).map fun i : Nat => [(i : Int)]
theorem mostP_len (k : Nat) : (mostP k).length = min 500 k := by simp [mostP]; omega
theorem mostP_getD (k j : Nat) (hj : j < min 500 k) : (mostP k).getD j [] = [((k - 500 + j : Nat) : Int)] := by
  simp only [mostP, List.getD, List.getElem?_map, List.getElem?_drop]
  rw [List.getElem?_range (by omega)]
  rfl
theorem mostP_last (k : Nat) : (mostP (k + 1)).getLast? = some [(k : Int)] := by
  rw [List.getLast?_eq_getElem?, mostP_len]
  have h := mostP_getD (k + 1) (min 500 (k + 1) - 1) (by omega)
  have hl : min 500 (k + 1) - 1 < (mostP (k + 1)).length := by rw [mostP_len]; omega
  rw [List.getD, List.getElem?_eq_getElem hl, Option.getD_some] at h
  rw [List.getElem?_eq_getElem hl, h, show k + 1 - 500 + (min 500 (k + 1) - 1) = k by omega]
theorem mostP_again (k : Nat) : addM (mostP (k + 1)) [(k : Int)] = mostP (k + 1) := by
  unfold addM
  rw [if_pos (.inr (mostP_last k))]
theorem addM_nil (M : List (List Int)) : addM M [] = M := by simp [addM]
theorem mostP_succ (k : Nat) : addM (mostP k) [(k : Int)] = mostP (k + 1) := by
  unfold addM
  rw [if_neg]
  · rw [mostP_len]
    unfold mostP
    rw [← List.map_drop, List.drop_drop, List.range_succ, List.drop_append_of_le_length (by simp), List.map_append, show k - 500 + (min 500 k - 499) = k + 1 - 500 by omega]
    rfl
  · rintro (h | h)
    · cases h
    · cases k with
      | zero => simp [mostP] at h
      | succ k =>
        rw [mostP_last] at h
        injection h with h
        injection h with h _
        push_cast at h
        omega
theorem mostP_rev (k j : Nat) (hj : j < min 500 k) : (mostP k).reverse.getD j [] = [(k : Int) - 1 - (j : Int)] := by
  have hl := mostP_len k
  rw [List.getD, List.getElem?_reverse (by rw [hl]; exact hj), hl]
  have h := mostP_getD k (min 500 k - 1 - j) (by omega)
  rw [List.getD] at h
  rw [h, show ((k - 500 + (min 500 k - 1 - j) : Nat) : Int) = (k : Int) - 1 - (j : Int) by omega]
theorem mostP_mem (k : Nat) : ∀ l ∈ mostP k, l.length ≤ 1000000 := fun l hl => by
  obtain ⟨i, _, rfl⟩ := List.mem_map.1 hl
  simp

set_option maxHeartbeats 8000000 in
set_option maxRecDepth 100000 in
theorem walk_PastMost (n : Int) (wn : (Lit.int .i64 n).wf = true) (t : Int) (wt : (Lit.int .i64 t).wf = true) (w : World) : Calls Try.prog 5 #[.int .i64 n, .int .i64 t] w (Yes w) := by
  obtain ⟨m, hm, hbits⟩ : ∃ r : Nat, r ≤ 31 ∧ bits .and .i64 n 31 = (r : Int) := andMask n 31 (by omega)
  obtain ⟨r, hr, hbits2⟩ : ∃ r : Nat, r ≤ 3 ∧ bits .and .i64 t 3 = (r : Int) := andMask t 3 (by omega)
  have V0 := Lib.hid (varP_new w 26)
  obtain ⟨N, hN, hN2⟩ : ∃ N : Nat, (490 : Int) + (m : Int) = (N : Int) ∧ N ≤ 521 := ⟨490 + m, by omega, by omega⟩
  go_enter Try.func5, Try.ntmps5
  go_wp2
  clear hN hm hbits
  go_loopw [6] (fun i wr => ∃ k : Nat, k ≤ N ∧ i = .int .i64 k ∧ Hid (∃ A c B d, VarP w (.slice A (mostP k).length c) 0 (.slice B 0 d) (mostP k) [] wr)) (fun i _ => N - (intOf i).toNat)
  case atStart => exact ⟨0, Nat.zero_le _, rfl, ⟨none, 0, none, 0, V0.out⟩⟩
  case round =>
    obtain ⟨k, hk, rfl, HR⟩ := hrel
    obtain ⟨A, c, B, d, V⟩ := HR.out
    have V1 := Lib.hid V
    clear V HR
    by_cases hlt : k < N
    · have hwrap : IntKind.i32.wrap (k : Int) = (k : Int) := IntWalk.i32_in _ (by omega)
      rcases (show r = 1 ∨ r = 2 ∨ (r ≠ 1 ∧ r ≠ 2) by omega) with rfl | rfl | ⟨h1, h2⟩
      · obtain ⟨_, y, j⟩ := (show _ from V1.out.blk)
        have y0 := y 0
        have y1 := y 1
        have y2 := y 2
        have j0 := j 0
        have j1 := j 1
        have j2 := j 2
        clear y j
        go_wp2_with fail

        have C2 := Lib.hid (add_any (.slice A (mostP k).length c) (.slice (some ⟨wr.heap.size, 0, none⟩) 1 1) (.slice B 0 d) (mostP k) [(k : Int)] 0 (Aft w.heap.size) (wr.alloc (.cells #[.int .i32 k] 21)) (V1.out.later (below_one _ _)).ts (txt_new _ _ _) (by rw [mostP_len]; omega) (by simp))
        (with_reducible refine C2.out.mono ?_)
        rintro e w2 ⟨u2, v2, rfl, ht2, hs2, hb2⟩
        rw [mostP_succ] at ht2
        obtain ⟨A2, c2, rfl, _⟩ := ht2.is
        obtain ⟨B2, d2, es2, _⟩ := Sl.is hs2
        replace es2 : v2 = .slice B2 0 d2 := es2
        subst es2
        have hlt2 : w.heap.size < (wr.alloc (.cells #[.int .i32 k] 21)).heap.size := by have := V1.out.blk.1; simp only [World.size_alloc]; omega
        have V2 := Lib.hid (VarP.store (k' := 0) (V1.out.later (below_one _ _)) hb2 (ht2.mono fun b hb => aft_new (g := w.heap.size) hlt2 hb) (Sl.mono hs2 fun b hb => aft_new (g := w.heap.size) hlt2 hb))
        have U2 := Lib.hid (VarP.later (V1.out.later (below_one _ _)) hb2)
        clear ht2 hs2 hb2 hlt2
        clear y0 y1 y2 j0 j1 j2

        obtain ⟨_, y, j⟩ := (show _ from U2.out.blk)
        have y0 := y 0
        have y1 := y 1
        have y2 := y 2
        have j0 := j 0
        have j1 := j 1
        have j2 := j 2
        clear y j
        go_wp2_with fail

        obtain ⟨X2, hX2, hz2⟩ : ∃ X, put3 w2 w.heap.size (.slice A2 (mostP (k + 1)).length c2) (.int .i64 0) (.slice B2 0 d2) = X ∧ X.heap.size = w2.heap.size := ⟨_, rfl, by simp [put3]⟩
        rw [show ((w2.setCell ⟨w.heap.size, 0, none⟩ (.slice A2 (mostP (k + 1)).length c2)).setCell ⟨w.heap.size, 1, none⟩ (.int .i64 0)).setCell ⟨w.heap.size, 2, none⟩ (.slice B2 0 d2) = X2 from hX2]
        rw [hX2] at V2
        clear hX2
        rw [← hz2]
        clear hz2
        clear y0 y1 y2 j0 j1 j2

        have C3 := Lib.hid (add_any (.slice A2 (mostP (k + 1)).length c2) (.slice (some ⟨X2.heap.size, 0, none⟩) 1 1) (.slice B2 0 d2) (mostP (k + 1)) [(k : Int)] 0 (Aft w.heap.size) (X2.alloc (.cells #[.int .i32 k] 21)) (V2.out.later (below_one _ _)).ts (txt_new _ _ _) (by rw [mostP_len]; omega) (by simp))
        (with_reducible refine C3.out.mono ?_)
        rintro e w3 ⟨u3, v3, rfl, ht3, hs3, hb3⟩
        rw [mostP_again] at ht3
        obtain ⟨A3, c3, rfl, _⟩ := ht3.is
        obtain ⟨B3, d3, es3, _⟩ := Sl.is hs3
        replace es3 : v3 = .slice B3 0 d3 := es3
        subst es3
        have hlt3 : w.heap.size < (X2.alloc (.cells #[.int .i32 k] 21)).heap.size := by have := V2.out.blk.1; simp only [World.size_alloc]; omega
        have V3 := Lib.hid (VarP.store (k' := 0) (V2.out.later (below_one _ _)) hb3 (ht3.mono fun b hb => aft_new (g := w.heap.size) hlt3 hb) (Sl.mono hs3 fun b hb => aft_new (g := w.heap.size) hlt3 hb))
        have U3 := Lib.hid (VarP.later (V2.out.later (below_one _ _)) hb3)
        clear ht3 hs3 hb3 hlt3

        obtain ⟨_, y, j⟩ := (show _ from U3.out.blk)
        have y0 := y 0
        have y1 := y 1
        have y2 := y 2
        have j0 := j 0
        have j1 := j 1
        have j2 := j 2
        clear y j
        go_wp2

        go_roundw
        case rel => exact ⟨k + 1, by omega, by go_num, ⟨_, _, _, _, V3.out⟩⟩
        case measure => simp [intOf]; omega
      · obtain ⟨_, y, j⟩ := (show _ from V1.out.blk)
        have y0 := y 0
        have y1 := y 1
        have y2 := y 2
        have j0 := j 0
        have j1 := j 1
        have j2 := j 2
        clear y j
        go_wp2_with fail

        have C2 := Lib.hid (add_any (.slice A (mostP k).length c) (.slice (some ⟨wr.heap.size, 0, none⟩) 1 1) (.slice B 0 d) (mostP k) [(k : Int)] 0 (Aft w.heap.size) (wr.alloc (.cells #[.int .i32 k] 21)) (V1.out.later (below_one _ _)).ts (txt_new _ _ _) (by rw [mostP_len]; omega) (by simp))
        (with_reducible refine C2.out.mono ?_)
        rintro e w2 ⟨u2, v2, rfl, ht2, hs2, hb2⟩
        rw [mostP_succ] at ht2
        obtain ⟨A2, c2, rfl, _⟩ := ht2.is
        obtain ⟨B2, d2, es2, _⟩ := Sl.is hs2
        replace es2 : v2 = .slice B2 0 d2 := es2
        subst es2
        have hlt2 : w.heap.size < (wr.alloc (.cells #[.int .i32 k] 21)).heap.size := by have := V1.out.blk.1; simp only [World.size_alloc]; omega
        have V2 := Lib.hid (VarP.store (k' := 0) (V1.out.later (below_one _ _)) hb2 (ht2.mono fun b hb => aft_new (g := w.heap.size) hlt2 hb) (Sl.mono hs2 fun b hb => aft_new (g := w.heap.size) hlt2 hb))
        have U2 := Lib.hid (VarP.later (V1.out.later (below_one _ _)) hb2)
        clear ht2 hs2 hb2 hlt2
        clear y0 y1 y2 j0 j1 j2

        obtain ⟨_, y, j⟩ := (show _ from U2.out.blk)
        have y0 := y 0
        have y1 := y 1
        have y2 := y 2
        have j0 := j 0
        have j1 := j 1
        have j2 := j 2
        clear y j
        go_wp2_with fail

        obtain ⟨X2, hX2, hz2⟩ : ∃ X, put3 w2 w.heap.size (.slice A2 (mostP (k + 1)).length c2) (.int .i64 0) (.slice B2 0 d2) = X ∧ X.heap.size = w2.heap.size := ⟨_, rfl, by simp [put3]⟩
        rw [show ((w2.setCell ⟨w.heap.size, 0, none⟩ (.slice A2 (mostP (k + 1)).length c2)).setCell ⟨w.heap.size, 1, none⟩ (.int .i64 0)).setCell ⟨w.heap.size, 2, none⟩ (.slice B2 0 d2) = X2 from hX2]
        rw [hX2] at V2
        clear hX2
        clear hz2
        clear y0 y1 y2 j0 j1 j2

        have C3 := Lib.hid (add_any (.slice A2 (mostP (k + 1)).length c2) (.slice none 0 0) (.slice B2 0 d2) (mostP (k + 1)) ([] : List Int) 0 (Aft w.heap.size) X2 V2.out.ts (Sl.nil _ _ _) (by rw [mostP_len]; omega) (by simp))
        (with_reducible refine C3.out.mono ?_)
        rintro e w3 ⟨u3, v3, rfl, ht3, hs3, hb3⟩
        rw [addM_nil] at ht3
        obtain ⟨A3, c3, rfl, _⟩ := ht3.is
        obtain ⟨B3, d3, es3, _⟩ := Sl.is hs3
        replace es3 : v3 = .slice B3 0 d3 := es3
        subst es3
        have hlt3 : w.heap.size < X2.heap.size := by have := V2.out.blk.1; exact this
        have V3 := Lib.hid (VarP.store (k' := 0) V2.out hb3 (ht3.mono fun b hb => aft_new (g := w.heap.size) hlt3 hb) (Sl.mono hs3 fun b hb => aft_new (g := w.heap.size) hlt3 hb))
        have U3 := Lib.hid (VarP.later V2.out hb3)
        clear ht3 hs3 hb3 hlt3

        obtain ⟨_, y, j⟩ := (show _ from U3.out.blk)
        have y0 := y 0
        have y1 := y 1
        have y2 := y 2
        have j0 := j 0
        have j1 := j 1
        have j2 := j 2
        clear y j
        go_wp2

        go_roundw
        case rel => exact ⟨k + 1, by omega, by go_num, ⟨_, _, _, _, V3.out⟩⟩
        case measure => simp [intOf]; omega
      · have e1 : ((r : Int) == 1) = false := by simp; omega
        have e2 : ((r : Int) == 2) = false := by simp; omega

        obtain ⟨_, y, j⟩ := (show _ from V1.out.blk)
        have y0 := y 0
        have y1 := y 1
        have y2 := y 2
        have j0 := j 0
        have j1 := j 1
        have j2 := j 2
        clear y j
        go_wp2_with fail

        have C2 := Lib.hid (add_any (.slice A (mostP k).length c) (.slice (some ⟨wr.heap.size, 0, none⟩) 1 1) (.slice B 0 d) (mostP k) [(k : Int)] 0 (Aft w.heap.size) (wr.alloc (.cells #[.int .i32 k] 21)) (V1.out.later (below_one _ _)).ts (txt_new _ _ _) (by rw [mostP_len]; omega) (by simp))
        (with_reducible refine C2.out.mono ?_)
        rintro e w2 ⟨u2, v2, rfl, ht2, hs2, hb2⟩
        rw [mostP_succ] at ht2
        obtain ⟨A2, c2, rfl, _⟩ := ht2.is
        obtain ⟨B2, d2, es2, _⟩ := Sl.is hs2
        replace es2 : v2 = .slice B2 0 d2 := es2
        subst es2
        have hlt2 : w.heap.size < (wr.alloc (.cells #[.int .i32 k] 21)).heap.size := by have := V1.out.blk.1; simp only [World.size_alloc]; omega
        have V2 := Lib.hid (VarP.store (k' := 0) (V1.out.later (below_one _ _)) hb2 (ht2.mono fun b hb => aft_new (g := w.heap.size) hlt2 hb) (Sl.mono hs2 fun b hb => aft_new (g := w.heap.size) hlt2 hb))
        have U2 := Lib.hid (VarP.later (V1.out.later (below_one _ _)) hb2)
        clear ht2 hs2 hb2 hlt2
        clear y0 y1 y2 j0 j1 j2

        obtain ⟨_, y, j⟩ := (show _ from U2.out.blk)
        have y0 := y 0
        have y1 := y 1
        have y2 := y 2
        have j0 := j 0
        have j1 := j 1
        have j2 := j 2
        clear y j
        go_wp2_with fail

        go_roundw
        case rel => exact ⟨k + 1, by omega, by go_num, ⟨_, _, _, _, V2.out⟩⟩
        case measure => simp [intOf]; omega
    · obtain rfl : k = N := by omega
      clear hlt
      obtain ⟨q, hq, hqk⟩ : ∃ q : Nat, (mostP k).length = q ∧ q = min 500 k := ⟨_, rfl, mostP_len k⟩
      have C1 := Lib.hid (all_any A (mostP k).length c 0 (.slice B 0 d) (mostP k) wr V1.out.ts.any (by rw [mostP_len]; omega) (mostP_mem k))
      rw [hq] at V1 C1
      clear hr hbits2 hk
      rcases Nat.lt_or_ge 500 k with h500 | h500
      · obtain rfl : q = 500 := by omega
        have d500 : decide ((500 : Int) < (k : Int)) = true := decide_eq_true (by omega)
        have HQ := Lib.hid hq
        have HK := Lib.hid (And.intro h500 hqk)
        clear hq hqk h500

        obtain ⟨_, y, j⟩ := (show _ from V1.out.blk)
        have y0 := y 0
        have y1 := y 1
        have y2 := y 2
        have j0 := j 0
        have j1 := j 1
        have j2 := j 2
        clear y j
        go_wp2_with fail
        (with_reducible refine C1.out.mono ?_)
        rintro e w1 ⟨A1, n1, c1, rfl, ht1, hb1⟩
        obtain rfl : n1 = 500 := by have := ht1.len; rw [List.length_reverse, HQ.out] at this; exact this
        have S1 := Lib.hid (And.intro ht1 (V1.out.below.trans (hb1.mono V1.out.below.size)))
        have V2 := Lib.hid (V1.out.later hb1)
        clear ht1 hb1
        clear y0 y1 y2 j0 j1 j2

        obtain ⟨_, y, j⟩ := (show _ from V2.out.blk)
        have y0 := y 0
        have y1 := y 1
        have y2 := y 2
        have j0 := j 0
        have j1 := j 1
        have j2 := j 2
        clear y j
        go_wp2_with (go_at_call 16; refine (len_any _ _ _ _ _ _).mono ?_; rintro e w' ⟨rfl, rfl⟩)
        clear y0 y1 y2 j0 j1 j2
        go_loopw [9] (fun i w2 => ∃ j : Nat, j ≤ 500 ∧ i = .int .i64 j ∧ Hid (Below w1.heap.size w1 w2)) (fun i _ => 500 - (intOf i).toNat)
        case atStart => exact ⟨0, Nat.zero_le _, rfl, Lib.hid (below_one _ _)⟩
        case round =>
          obtain ⟨j, hj, rfl, HB⟩ := hrel
          rename World => w2
          by_cases hjq : j < 500
          · obtain ⟨b, o, Aj, nj, cj, rfl, hbl, hcell, ht⟩ := S1.out.1.at_ (j := j) (by rw [List.length_reverse, HQ.out]; exact hjq)
            have hcell' : w2.cell? ⟨b, o + j, none⟩ = some (.slice Aj nj cj) := (HB.out.cell (p := ⟨b, o + j, none⟩) hbl).trans hcell
            rw [mostP_rev k j (by have := HK.out; omega)] at ht
            have hwr : IntKind.i32.wrap ((k : Int) - 1 - (j : Int)) = (k : Int) - 1 - (j : Int) := IntWalk.i32_in _ (by omega)
            have C2 := Lib.hid (same_far (.slice Aj nj cj) (.slice (some ⟨w2.heap.size, 0, none⟩) 1 1) _ (w2.alloc (.cells #[.int .i32 ((k : Int) - 1 - (j : Int))] 21)) ((Txt.later ht.any HB.out).later (below_one _ _)) (txt_new _ _ _))
            clear ht hcell
            go_wp2_with fail
            (with_reducible refine C2.out.mono ?_)
            rintro e w3 ⟨rfl, hb3⟩
            have H3 := Lib.hid (HB.out.trans (((below_one _ _).trans (hb3.mono (below_one _ _).size)).mono HB.out.size))
            clear hb3
            go_wp2
            go_roundw
            case rel => exact ⟨j + 1, by omega, by go_num, H3⟩
            case measure => show 500 - ((j : Int) + 1).toNat < 500 - (j : Int).toNat; omega
          · obtain rfl : j = 500 := by omega
            go_wp2_with (go_at_call 15; refine (awake_yes _).mono ?_; rintro e w4 ⟨rfl, hb4⟩)
            go_ret
            have h2 := S1.out.2.trans (HB.out.mono S1.out.2.size)
            exact ⟨rfl, h2.trans (hb4.mono h2.size)⟩
      · obtain rfl : k = q := by omega
        have d500 : decide ((500 : Int) < (k : Int)) = false := decide_eq_false (by omega)
        have HQ := Lib.hid hq
        have HK := Lib.hid (And.intro h500 hqk)
        clear hq hqk h500

        obtain ⟨_, y, j⟩ := (show _ from V1.out.blk)
        have y0 := y 0
        have y1 := y 1
        have y2 := y 2
        have j0 := j 0
        have j1 := j 1
        have j2 := j 2
        clear y j
        go_wp2_with fail
        (with_reducible refine C1.out.mono ?_)
        rintro e w1 ⟨A1, n1, c1, rfl, ht1, hb1⟩
        obtain rfl : k = n1 := by have := ht1.len; rw [List.length_reverse, HQ.out] at this; exact this.symm
        have S1 := Lib.hid (And.intro ht1 (V1.out.below.trans (hb1.mono V1.out.below.size)))
        have V2 := Lib.hid (V1.out.later hb1)
        clear ht1 hb1
        clear y0 y1 y2 j0 j1 j2

        obtain ⟨_, y, j⟩ := (show _ from V2.out.blk)
        have y0 := y 0
        have y1 := y 1
        have y2 := y 2
        have j0 := j 0
        have j1 := j 1
        have j2 := j 2
        clear y j
        go_wp2_with (go_at_call 16; refine (len_any _ _ _ _ _ _).mono ?_; rintro e w' ⟨rfl, rfl⟩)
        clear y0 y1 y2 j0 j1 j2
        go_loopw [9] (fun i w2 => ∃ j : Nat, j ≤ k ∧ i = .int .i64 j ∧ Hid (Below w1.heap.size w1 w2)) (fun i _ => k - (intOf i).toNat)
        case atStart => exact ⟨0, Nat.zero_le _, rfl, Lib.hid (below_one _ _)⟩
        case round =>
          obtain ⟨j, hj, rfl, HB⟩ := hrel
          rename World => w2
          by_cases hjq : j < k
          · obtain ⟨b, o, Aj, nj, cj, rfl, hbl, hcell, ht⟩ := S1.out.1.at_ (j := j) (by rw [List.length_reverse, HQ.out]; exact hjq)
            have hcell' : w2.cell? ⟨b, o + j, none⟩ = some (.slice Aj nj cj) := (HB.out.cell (p := ⟨b, o + j, none⟩) hbl).trans hcell
            rw [mostP_rev k j (by have := HK.out; omega)] at ht
            have hwr : IntKind.i32.wrap ((k : Int) - 1 - (j : Int)) = (k : Int) - 1 - (j : Int) := IntWalk.i32_in _ (by omega)
            have C2 := Lib.hid (same_far (.slice Aj nj cj) (.slice (some ⟨w2.heap.size, 0, none⟩) 1 1) _ (w2.alloc (.cells #[.int .i32 ((k : Int) - 1 - (j : Int))] 21)) ((Txt.later ht.any HB.out).later (below_one _ _)) (txt_new _ _ _))
            clear ht hcell
            go_wp2_with fail
            (with_reducible refine C2.out.mono ?_)
            rintro e w3 ⟨rfl, hb3⟩
            have H3 := Lib.hid (HB.out.trans (((below_one _ _).trans (hb3.mono (below_one _ _).size)).mono HB.out.size))
            clear hb3
            go_wp2
            go_roundw
            case rel => exact ⟨j + 1, by omega, by go_num, H3⟩
            case measure => show k - ((j : Int) + 1).toNat < k - (j : Int).toNat; omega
          · obtain rfl : j = k := by omega
            go_wp2_with (go_at_call 15; refine (awake_yes _).mono ?_; rintro e w4 ⟨rfl, hb4⟩)
            go_ret
            have h2 := S1.out.2.trans (HB.out.mono S1.out.2.size)
            exact ⟨rfl, h2.trans (hb4.mono h2.size)⟩
end Go.Proofs.Ytmhjhndnbgabjaa
