/- store: StorePast's walk. -/
import Derived.Test.YtfnieoffgnnldaaDoorStQ
namespace Go.Proofs.YtfnieoffgnnldaaDoor
open Go.RowKit
set_option linter.unusedVariables false
set_option linter.unusedSimpArgs false

set_option maxRecDepth 100000 in
set_option maxHeartbeats 8000000 in
theorem walk_StorePast (W : World) (hM : MaxW W) (s : ByteArray) : Calls Tryd.prog 6 #[.string s] W (YesO W) := by
  have HM := Lib.hid hM
  clear hM
  by_cases hn : 600 < s.size
  · have hni : (600 : Int) < (s.size : Int) := by omega
    have hni2 : (600 : Int) ≤ (s.size : Int) := by omega
    obtain ⟨u, hu⟩ : ∃ u, s.extract 0 600 = u := ⟨_, rfl⟩
    have husz : u.size ≤ 600 := by rw [← hu, ByteArray.size_extract]; omega
    clear hn
    have C2 := Lib.hid (rRead_any u (by omega) W)
    have C3 := Lib.hid (fun X (hX : Below W.heap.size W X) => past_any u husz X (HM.out.later hX))
    obtain ⟨R, hR⟩ : ∃ R, rdL [] 0 (bts u) = R := ⟨_, rfl⟩
    have hRl : R.length ≤ 150 := by
      have := rdL_few (bts u) [] 0
      rw [hR, bts_length] at this
      simp at this
      omega
    have hRs : ∀ l ∈ R.map (·.1), l.length ≤ 600 := by
      intro l hl
      obtain ⟨x, hx, rfl⟩ := List.mem_map.1 hl
      have := rdL_short (bts u) [] 0 x (by rw [hR]; exact hx)
      rw [bts_length] at this
      simp at this
      omega
    rw [hR] at C2 C3
    have hln : R.length = (R.map (·.1)).length := by simp
    rw [hln] at C2 hRl
    obtain ⟨L, hL⟩ : ∃ L, R.map (·.1) = L := ⟨_, rfl⟩
    rw [hL] at C2 C3 hRl hRs
    have HPS := Lib.hid (And.intro (pastM_len L) (pastM_mem hRs))
    obtain ⟨z, hz⟩ : ∃ z, lastE R = z := ⟨_, rfl⟩
    rw [hz] at C2
    clear hR hln hL hRs hz husz
    go_enter Tryd.func6, Tryd.ntmps6
    go_wp2_with fail
    refine C2.out.mono ?_
    rintro e w1 ⟨Q, q, rfl, h1, b1⟩
    have H1 := Lib.hid (prI_start 40 h1 b1)
    have HB1 := Lib.hid b1
    clear h1 b1 C2
    dsimp only
    go_wp2_with fail
    go_loopw [6] (fun i wr => ∃ k : Nat, k ≤ L.length ∧ i = .int .i64 (k : Nat) ∧ Hid (∃ A c B d, PrI W w1.heap.size A c B d (pastM (L.take k)).reverse Q q L wr)) (fun i _ => L.length - (intOf i).toNat)
    case atStart => exact ⟨0, Nat.zero_le _, rfl, Lib.hid ⟨none, 0, none, 0, by rw [List.take_zero]; exact H1.out⟩⟩
    case round =>
      obtain ⟨k, hk, rfl, HI⟩ := hrel
      obtain ⟨A, c, B, d, hV⟩ := HI.out
      have V := Lib.hid hV
      clear HI hV
      have hMl : (pastM (L.take k)).length ≤ 150 := by have := pastM_len (L.take k); rw [List.length_take] at this; omega
      by_cases hlt : k < L.length
      · have hki : (k : Int) < (L.length : Int) := by omega
        have hk0 : (0 : Int) ≤ (k : Int) := by omega
        obtain ⟨b, o, As, ns, cs, rfl, hbl, hce, htx⟩ := V.out.ls.at_ hlt
        have HP := Lib.hid (show (pastM (L.take (k + 1))).reverse = addL (pastM (L.take k)).reverse (L.getD k []) by rw [take_succ_at hlt, pastM_snoc, addL_rev _ _ (by omega)])
        obtain ⟨l, hl⟩ : ∃ l, L.getD k [] = l := ⟨_, rfl⟩
        rw [hl] at htx HP
        have hMr : (pastM (L.take k)).reverse.length ≤ 150 := by rw [List.length_reverse]; exact hMl
        obtain ⟨M, hM⟩ : ∃ M, (pastM (L.take k)).reverse = M := ⟨_, rfl⟩
        rw [hM] at V HP hMr
        obtain ⟨N, hN⟩ : ∃ N, (pastM (L.take (k + 1))).reverse = N := ⟨_, rfl⟩
        have HN := Lib.hid hN
        rw [hN] at HP
        have HT := Lib.hid htx
        clear hM hl htx hMl hN
        have HS : Hid (∀ X, Below wr.heap.size wr X → (fun X => X.cell? ⟨w1.heap.size, 0, none⟩ = some (.slice A M.length c) ∧ X.cell? ⟨w1.heap.size, 1, none⟩ = some (.int .i64 0) ∧ X.cell? ⟨w1.heap.size, 2, none⟩ = some (.slice B 0 d) ∧ X.frozen? ⟨w1.heap.size, 0, none⟩ = false ∧ X.frozen? ⟨w1.heap.size, 1, none⟩ = false ∧ X.frozen? ⟨w1.heap.size, 2, none⟩ = false ∧ X.cell? ⟨b, o + k, none⟩ = some (.slice As ns cs)) X) := Lib.hid (by
          intro X hX
          have hB := V.out.blk.later hX V.out.blk.1
          exact ⟨hB.2.1 0, hB.2.1 1, hB.2.1 2, hB.2.2 0, hB.2.2 1, hB.2.2 2, (hX.cell (p := ⟨b, o + k, none⟩) hbl).trans hce⟩)
        clear hbl hce
        have hD := (Below.refl wr.heap.size wr).drew
        go_wp2_with fail
        obtain ⟨p0, p1, p2, f0, f1, f2, pe⟩ := HS.out _ hD
        go_region_with
          (go_at_call 20; refine (radd_any _ _ _ M l 0 (fun b => b ≠ w1.heap.size) _ (V.out.later hD).ts (by omega) (HT.out.later hD)).mono ?_; rintro e w3 ⟨u3, v3, rfl, ht3, hs3, hb3⟩; rw [← HP.out] at ht3; obtain ⟨A3, c3, rfl, _⟩ := ht3.is; obtain ⟨B3, d3, es, _⟩ := Sl.is hs3; replace es : v3 = .slice B3 0 d3 := es; subst es; have hB3 := hD.trans (hb3.mono hD.size); obtain ⟨g0, g1, g2, h0, h1, h2, _⟩ := HS.out _ hB3)
        all_goals
          have hlt3 : w1.heap.size < wr.drew.heap.size := V.out.blk.1
          have V2 := Lib.hid ((V.out.later hD).add (B' := B3) (d' := d3) hb3 (ht3.mono fun b hb => hb.elim (fun h' => by show b ≠ w1.heap.size; omega) id))
          clear g0 g1 g2 h0 h1 h2 p0 p1 p2 f0 f1 f2 pe hb3 ht3 hs3 hB3 hlt3
          go_wp2
          go_roundw
          case rel => exact ⟨k + 1, by omega, by go_num, Lib.hid ⟨A3, c3, B3, d3, by rw [HN.out]; exact V2.out⟩⟩
          case measure => simp [intOf]; omega
      · obtain rfl : k = L.length := by omega
        rw [List.take_length] at V hMl
        have C4 := Lib.hid (C3.out wr V.out.below)
        obtain ⟨M, hM⟩ : ∃ M, pastM L = M := ⟨_, rfl⟩
        rw [hM] at V hMl C4 HPS
        obtain ⟨N, hN⟩ : ∃ N, M.reverse = N := ⟨_, rfl⟩
        have HN := Lib.hid hN
        have hNl : N.length ≤ 150 := by rw [← hN, List.length_reverse]; exact hMl
        rw [hN] at V
        clear hM C3 hN
        have hd : decide ((L.length : Int) < (L.length : Int)) = false := by simp
        go_wp2_with fail
        refine C4.out.mono ?_
        rintro e w4 ⟨A4, c4, B4, d4, rfl, ht4, hb4⟩
        have V4 := Lib.hid (V.out.later hb4)
        have T4 := Lib.hid ht4
        clear ht4 hb4 C4 V hd
        obtain ⟨X5, hX5⟩ : ∃ X, w4.alloc (.cells #[.slice A4 M.length c4, .int .i64 0, .slice B4 0 d4] 43) = X := ⟨_, rfl⟩
        have hq5 : Blk X5 w4.heap.size #[.slice A4 M.length c4, .int .i64 0, .slice B4 0 d4] := by rw [← hX5]; exact blk_new w4 _ _
        have hb5 : Below w4.heap.size w4 X5 := by rw [← hX5]; exact below_one w4 _
        have HX5 := Lib.hid hX5
        clear hX5
        have Q5 := Lib.hid hq5
        have V5 := Lib.hid (V4.out.later hb5)
        have T5 := Lib.hid (T4.out.later hb5)
        clear hq5 hb5 V4 T4
        have HF : Hid (∀ X, Below X5.heap.size X5 X → (fun X => X.cell? ⟨w4.heap.size, 0, none⟩ = some (.slice A4 M.length c4) ∧ X.cell? ⟨w4.heap.size, 1, none⟩ = some (.int .i64 0) ∧ X.cell? ⟨w4.heap.size, 2, none⟩ = some (.slice B4 0 d4) ∧ X.cell? ⟨w1.heap.size, 0, none⟩ = some (.slice A N.length c)) X) := Lib.hid (by
          intro X hX
          have hB := Q5.out.later hX Q5.out.1
          have hC := V5.out.blk.later hX V5.out.blk.1
          exact ⟨hB.2.1 0, hB.2.1 1, hB.2.1 2, hC.2.1 0⟩)
        have hD := (Below.refl X5.heap.size X5).drew
        go_wp2_with fail
        rw [HX5.out]
        obtain ⟨p0, p1, p2, p3⟩ := HF.out _ hD
        go_region_with
          (first
          | (go_at_call 22; refine (all_any _ _ _ _ _ M _ (T5.out.later hD) (by omega) (fun l hl => Nat.le_trans (HPS.out.2 l hl) (by omega))).mono ?_; rintro e w6 ⟨A6, n6, c6, rfl, ht6, hb6⟩; rw [HN.out] at ht6; have hB6 := hD.trans (hb6.mono hD.size); obtain ⟨g0, g1, g2, g3⟩ := HF.out _ hB6)
          | (go_at_call 16; refine (sametexts_yes _ _ N _ ht6.any (V5.out.later hB6).ts.any (by omega)).mono ?_; rintro e w7 ⟨rfl, hb7⟩; have hB7 := hB6.trans (hb7.mono hB6.size); obtain ⟨k0, k1, k2, k3⟩ := HF.out _ hB7)
          | (go_at_call 23; refine (at_any _ _ _ _).mono ?_; rintro e w8 ⟨rfl, rfl⟩)
          | (go_at_call 13; refine (awake_yes _ (HM.out.later (V5.out.below.trans ((hB7.trans ((below_one _ _).mono hB7.size)).mono V5.out.below.size)))).mono ?_; rintro e w9 ⟨rfl, hb9⟩))
        all_goals
          go_wp2
          go_ret
          exact ⟨rfl, V5.out.below.trans ((hB7.trans ((below_one _ _).mono hB7.size)).mono V5.out.below.size) |>.trans (hb9.mono (V5.out.below.trans ((hB7.trans ((below_one _ _).mono hB7.size)).mono V5.out.below.size)).size)⟩
  · have hni : ¬ (600 : Int) < (s.size : Int) := by omega
    have husz : s.size ≤ 600 := by omega
    clear hn
    have C2 := Lib.hid (rRead_any s (by omega) W)
    have C3 := Lib.hid (fun X (hX : Below W.heap.size W X) => past_any s husz X (HM.out.later hX))
    obtain ⟨R, hR⟩ : ∃ R, rdL [] 0 (bts s) = R := ⟨_, rfl⟩
    have hRl : R.length ≤ 150 := by
      have := rdL_few (bts s) [] 0
      rw [hR, bts_length] at this
      simp at this
      omega
    have hRs : ∀ l ∈ R.map (·.1), l.length ≤ 600 := by
      intro l hl
      obtain ⟨x, hx, rfl⟩ := List.mem_map.1 hl
      have := rdL_short (bts s) [] 0 x (by rw [hR]; exact hx)
      rw [bts_length] at this
      simp at this
      omega
    rw [hR] at C2 C3
    have hln : R.length = (R.map (·.1)).length := by simp
    rw [hln] at C2 hRl
    obtain ⟨L, hL⟩ : ∃ L, R.map (·.1) = L := ⟨_, rfl⟩
    rw [hL] at C2 C3 hRl hRs
    have HPS := Lib.hid (And.intro (pastM_len L) (pastM_mem hRs))
    obtain ⟨z, hz⟩ : ∃ z, lastE R = z := ⟨_, rfl⟩
    rw [hz] at C2
    clear hR hln hL hRs hz husz
    go_enter Tryd.func6, Tryd.ntmps6
    go_wp2_with fail
    refine C2.out.mono ?_
    rintro e w1 ⟨Q, q, rfl, h1, b1⟩
    have H1 := Lib.hid (prI_start 40 h1 b1)
    have HB1 := Lib.hid b1
    clear h1 b1 C2
    dsimp only
    go_wp2_with fail
    go_loopw [6] (fun i wr => ∃ k : Nat, k ≤ L.length ∧ i = .int .i64 (k : Nat) ∧ Hid (∃ A c B d, PrI W w1.heap.size A c B d (pastM (L.take k)).reverse Q q L wr)) (fun i _ => L.length - (intOf i).toNat)
    case atStart => exact ⟨0, Nat.zero_le _, rfl, Lib.hid ⟨none, 0, none, 0, by rw [List.take_zero]; exact H1.out⟩⟩
    case round =>
      obtain ⟨k, hk, rfl, HI⟩ := hrel
      obtain ⟨A, c, B, d, hV⟩ := HI.out
      have V := Lib.hid hV
      clear HI hV
      have hMl : (pastM (L.take k)).length ≤ 150 := by have := pastM_len (L.take k); rw [List.length_take] at this; omega
      by_cases hlt : k < L.length
      · have hki : (k : Int) < (L.length : Int) := by omega
        have hk0 : (0 : Int) ≤ (k : Int) := by omega
        obtain ⟨b, o, As, ns, cs, rfl, hbl, hce, htx⟩ := V.out.ls.at_ hlt
        have HP := Lib.hid (show (pastM (L.take (k + 1))).reverse = addL (pastM (L.take k)).reverse (L.getD k []) by rw [take_succ_at hlt, pastM_snoc, addL_rev _ _ (by omega)])
        obtain ⟨l, hl⟩ : ∃ l, L.getD k [] = l := ⟨_, rfl⟩
        rw [hl] at htx HP
        have hMr : (pastM (L.take k)).reverse.length ≤ 150 := by rw [List.length_reverse]; exact hMl
        obtain ⟨M, hM⟩ : ∃ M, (pastM (L.take k)).reverse = M := ⟨_, rfl⟩
        rw [hM] at V HP hMr
        obtain ⟨N, hN⟩ : ∃ N, (pastM (L.take (k + 1))).reverse = N := ⟨_, rfl⟩
        have HN := Lib.hid hN
        rw [hN] at HP
        have HT := Lib.hid htx
        clear hM hl htx hMl hN
        have HS : Hid (∀ X, Below wr.heap.size wr X → (fun X => X.cell? ⟨w1.heap.size, 0, none⟩ = some (.slice A M.length c) ∧ X.cell? ⟨w1.heap.size, 1, none⟩ = some (.int .i64 0) ∧ X.cell? ⟨w1.heap.size, 2, none⟩ = some (.slice B 0 d) ∧ X.frozen? ⟨w1.heap.size, 0, none⟩ = false ∧ X.frozen? ⟨w1.heap.size, 1, none⟩ = false ∧ X.frozen? ⟨w1.heap.size, 2, none⟩ = false ∧ X.cell? ⟨b, o + k, none⟩ = some (.slice As ns cs)) X) := Lib.hid (by
          intro X hX
          have hB := V.out.blk.later hX V.out.blk.1
          exact ⟨hB.2.1 0, hB.2.1 1, hB.2.1 2, hB.2.2 0, hB.2.2 1, hB.2.2 2, (hX.cell (p := ⟨b, o + k, none⟩) hbl).trans hce⟩)
        clear hbl hce
        have hD := (Below.refl wr.heap.size wr).drew
        go_wp2_with fail
        obtain ⟨p0, p1, p2, f0, f1, f2, pe⟩ := HS.out _ hD
        go_region_with
          (go_at_call 20; refine (radd_any _ _ _ M l 0 (fun b => b ≠ w1.heap.size) _ (V.out.later hD).ts (by omega) (HT.out.later hD)).mono ?_; rintro e w3 ⟨u3, v3, rfl, ht3, hs3, hb3⟩; rw [← HP.out] at ht3; obtain ⟨A3, c3, rfl, _⟩ := ht3.is; obtain ⟨B3, d3, es, _⟩ := Sl.is hs3; replace es : v3 = .slice B3 0 d3 := es; subst es; have hB3 := hD.trans (hb3.mono hD.size); obtain ⟨g0, g1, g2, h0, h1, h2, _⟩ := HS.out _ hB3)
        all_goals
          have hlt3 : w1.heap.size < wr.drew.heap.size := V.out.blk.1
          have V2 := Lib.hid ((V.out.later hD).add (B' := B3) (d' := d3) hb3 (ht3.mono fun b hb => hb.elim (fun h' => by show b ≠ w1.heap.size; omega) id))
          clear g0 g1 g2 h0 h1 h2 p0 p1 p2 f0 f1 f2 pe hb3 ht3 hs3 hB3 hlt3
          go_wp2
          go_roundw
          case rel => exact ⟨k + 1, by omega, by go_num, Lib.hid ⟨A3, c3, B3, d3, by rw [HN.out]; exact V2.out⟩⟩
          case measure => simp [intOf]; omega
      · obtain rfl : k = L.length := by omega
        rw [List.take_length] at V hMl
        have C4 := Lib.hid (C3.out wr V.out.below)
        obtain ⟨M, hM⟩ : ∃ M, pastM L = M := ⟨_, rfl⟩
        rw [hM] at V hMl C4 HPS
        obtain ⟨N, hN⟩ : ∃ N, M.reverse = N := ⟨_, rfl⟩
        have HN := Lib.hid hN
        have hNl : N.length ≤ 150 := by rw [← hN, List.length_reverse]; exact hMl
        rw [hN] at V
        clear hM C3 hN
        have hd : decide ((L.length : Int) < (L.length : Int)) = false := by simp
        go_wp2_with fail
        refine C4.out.mono ?_
        rintro e w4 ⟨A4, c4, B4, d4, rfl, ht4, hb4⟩
        have V4 := Lib.hid (V.out.later hb4)
        have T4 := Lib.hid ht4
        clear ht4 hb4 C4 V hd
        obtain ⟨X5, hX5⟩ : ∃ X, w4.alloc (.cells #[.slice A4 M.length c4, .int .i64 0, .slice B4 0 d4] 43) = X := ⟨_, rfl⟩
        have hq5 : Blk X5 w4.heap.size #[.slice A4 M.length c4, .int .i64 0, .slice B4 0 d4] := by rw [← hX5]; exact blk_new w4 _ _
        have hb5 : Below w4.heap.size w4 X5 := by rw [← hX5]; exact below_one w4 _
        have HX5 := Lib.hid hX5
        clear hX5
        have Q5 := Lib.hid hq5
        have V5 := Lib.hid (V4.out.later hb5)
        have T5 := Lib.hid (T4.out.later hb5)
        clear hq5 hb5 V4 T4
        have HF : Hid (∀ X, Below X5.heap.size X5 X → (fun X => X.cell? ⟨w4.heap.size, 0, none⟩ = some (.slice A4 M.length c4) ∧ X.cell? ⟨w4.heap.size, 1, none⟩ = some (.int .i64 0) ∧ X.cell? ⟨w4.heap.size, 2, none⟩ = some (.slice B4 0 d4) ∧ X.cell? ⟨w1.heap.size, 0, none⟩ = some (.slice A N.length c)) X) := Lib.hid (by
          intro X hX
          have hB := Q5.out.later hX Q5.out.1
          have hC := V5.out.blk.later hX V5.out.blk.1
          exact ⟨hB.2.1 0, hB.2.1 1, hB.2.1 2, hC.2.1 0⟩)
        have hD := (Below.refl X5.heap.size X5).drew
        go_wp2_with fail
        rw [HX5.out]
        obtain ⟨p0, p1, p2, p3⟩ := HF.out _ hD
        go_region_with
          (first
          | (go_at_call 22; refine (all_any _ _ _ _ _ M _ (T5.out.later hD) (by omega) (fun l hl => Nat.le_trans (HPS.out.2 l hl) (by omega))).mono ?_; rintro e w6 ⟨A6, n6, c6, rfl, ht6, hb6⟩; rw [HN.out] at ht6; have hB6 := hD.trans (hb6.mono hD.size); obtain ⟨g0, g1, g2, g3⟩ := HF.out _ hB6)
          | (go_at_call 16; refine (sametexts_yes _ _ N _ ht6.any (V5.out.later hB6).ts.any (by omega)).mono ?_; rintro e w7 ⟨rfl, hb7⟩; have hB7 := hB6.trans (hb7.mono hB6.size); obtain ⟨k0, k1, k2, k3⟩ := HF.out _ hB7)
          | (go_at_call 23; refine (at_any _ _ _ _).mono ?_; rintro e w8 ⟨rfl, rfl⟩)
          | (go_at_call 13; refine (awake_yes _ (HM.out.later (V5.out.below.trans ((hB7.trans ((below_one _ _).mono hB7.size)).mono V5.out.below.size)))).mono ?_; rintro e w9 ⟨rfl, hb9⟩))
        all_goals
          go_wp2
          go_ret
          exact ⟨rfl, V5.out.below.trans ((hB7.trans ((below_one _ _).mono hB7.size)).mono V5.out.below.size) |>.trans (hb9.mono (V5.out.below.trans ((hB7.trans ((below_one _ _).mono hB7.size)).mono V5.out.below.size)).size)⟩
end Go.Proofs.YtfnieoffgnnldaaDoor
