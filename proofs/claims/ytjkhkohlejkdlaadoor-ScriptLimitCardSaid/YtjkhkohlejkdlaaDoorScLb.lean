/- script: ScriptLimit's walk. -/
import Derived.Test.YtjkhkohlejkdlaaDoorScLa
namespace Go.Proofs.YtjkhkohlejkdlaaDoor
open Go.RowKit
set_option linter.unusedVariables false
set_option linter.unusedSimpArgs false

theorem conv_zero {w w' : World} {n : Nat} (h : w'.ownsRow w.heap.size 5 1 (.slice (some ⟨w.heap.size, 0, none⟩) n n) n (madeCells (Value.int .u8 0).cells (n * 1)).toList) :
    ∃ Z : ByteArray, (convert 41 9 (.slice (some ⟨w.heap.size, 0, none⟩) n n)).run Tryd.prog w' = .ok (.string Z) w' ∧ Z.size = n := by
  have hr := run_convert_bytes_back (P := Tryd.prog) w' 41 9 5 ⟨w.heap.size, 0, none⟩ n (List.replicate n 0) Tryd.underlying41 Tryd.underlying5 Tryd.underlying9 (fun j hj => by
    rw [List.length_replicate] at hj
    rw [List.getElem_replicate]
    have hc := h.cells (g := w.heap.size) rfl j (.int .u8 0) (by
      show (madeCells #[Value.int .u8 0] (n * 1)).toList[j]? = _
      rw [Array.getElem?_toList]
      simp [madeCells, hj, Nat.mod_one])
    exact hc)
  rw [List.length_replicate] at hr
  exact ⟨_, hr, by show (List.replicate n (0 : UInt8)).toArray.size = n; simp⟩
set_option maxRecDepth 100000 in
set_option maxHeartbeats 8000000 in
theorem walk_ScriptLimit (W : World) (hT : TabW W.heap.size W) (z : Int) (w0 : (Lit.int .i64 z).wf = true) : Calls Tryd.prog 7 #[.int .i64 z] W (YesO W) := by
  have HT := Lib.hid hT
  have hb := low3_bits z
  have hk3 := low3_le z
  obtain ⟨kk, hkk⟩ : ∃ a, low3 z = a := ⟨_, rfl⟩
  rw [hkk] at hb hk3
  clear hT hkk w0
  go_enter Tryd.func7, Tryd.ntmps7
  go_wp2_with fail
  go_loopw [3, 4] (fun sv i wr => ∃ (j : Nat) (S : ByteArray), j ≤ 32 ∧ i = .int .i64 (j : Nat) ∧ sv = .string S ∧ S.size ≤ 64 ∧ Hid (S = ba (zL j)) ∧ W = wr) (fun _ i _ => 32 - (intOf i).toNat)
  case atStart => exact ⟨0, ⟨#[]⟩, by omega, rfl, rfl, by decide, Lib.hid rfl, rfl⟩
  case round =>
    obtain ⟨j, S, hj, rfl, rfl, hS, HS, rfl⟩ := hrel
    by_cases hlt : j < 32
    · have hji : (j : Int) < 32 := by omega
      have q0 := fun w => run_cat w S ⟨#[48, 48]⟩ (by have : (⟨#[48, 48]⟩ : ByteArray).size = 2 := rfl; omega)
      go_wp2_with fail
      go_roundw
      case rel =>
        have he : S ++ ⟨#[48, 48]⟩ = ba (zL (j + 1)) := by rw [zL_succ, ba_app, ← HS.out]; rfl
        exact ⟨j + 1, _, by omega, by go_num, rfl, by rw [he, ba_size, zL_len]; omega, Lib.hid he, trivial⟩
      case measure => simp [intOf]; omega
    · obtain rfl : j = 32 := by omega
      have z1 : (⟨#[98, 121, 116, 101, 115, 32]⟩ : ByteArray).size = 6 := rfl
      have z2 : (⟨#[10]⟩ : ByteArray).size = 1 := rfl
      have q0 := fun w => run_cat w ⟨#[98, 121, 116, 101, 115, 32]⟩ S (by omega)
      have q1 := fun w => run_cat w (⟨#[98, 121, 116, 101, 115, 32]⟩ ++ S) ⟨#[10]⟩ (by rw [size_cat]; omega)
      have HL := Lib.hid (show (⟨#[98, 121, 116, 101, 115, 32]⟩ ++ S ++ ⟨#[10]⟩ : ByteArray) = ba (rp (2 ^ 0)) by
        rw [HS.out, Nat.pow_zero, rp_one]
        unfold lnB
        rw [ba_app, ba_app]
        rfl)
      clear z1 z2 HS
      go_wp2_with fail
      clear q0 q1
      go_loopw [5, 6] (fun sv i wr => ∃ (j : Nat) (S : ByteArray), j ≤ 11 ∧ i = .int .i64 (j : Nat) ∧ sv = .string S ∧ S.size ≤ 145408 ∧ Hid (S = ba (rp (2 ^ j))) ∧ W = wr) (fun _ i _ => 11 - (intOf i).toNat)
      case atStart => exact ⟨0, _, by omega, rfl, rfl, by rw [HL.out, ba_size, rp_len]; decide, HL, rfl⟩
      case round =>
        clear HL hS
        obtain ⟨j, S, hj, rfl, rfl, hS, HS, rfl⟩ := hrel
        by_cases hlt : j < 11
        · have hji : (j : Int) < 11 := by omega
          have q0 := fun w => run_cat w S S (by omega)
          go_wp2_with fail
          go_roundw
          case rel =>
            have he : S ++ S = ba (rp (2 ^ (j + 1))) := by rw [Nat.pow_succ, Nat.mul_two, rp_add, ba_app, ← HS.out]
            have hp : 2 ^ (j + 1) ≤ 2 ^ 11 := Nat.pow_le_pow_right (by decide) (by omega)
            exact ⟨j + 1, _, by omega, by go_num, rfl, by rw [he, ba_size, rp_len]; omega, Lib.hid he, trivial⟩
          case measure => simp [intOf]; omega
        · obtain rfl : j = 11 := by omega
          have HS2 := Lib.hid (show S = ba (rp 2048 ++ tks 0) by rw [HS.out]; show ba (rp 2048) = ba (rp 2048 ++ []); rw [List.append_nil])
          clear HS
          go_wp2_with fail
          go_loopw [5, 7] (fun sv i wr => ∃ (j : Nat) (S : ByteArray), j ≤ kk ∧ i = .int .i64 (j : Nat) ∧ sv = .string S ∧ S.size ≤ 145508 ∧ Hid (S = ba (rp 2048 ++ tks j)) ∧ W = wr) (fun _ i _ => kk - (intOf i).toNat)
          case atStart => exact ⟨0, S, by omega, rfl, rfl, by omega, HS2, rfl⟩
          case round =>
            clear HS2 hS
            obtain ⟨j, S, hj, rfl, rfl, hS, HS, rfl⟩ := hrel
            by_cases hlt : j < kk
            · have hji : (j : Int) < (kk : Int) := by omega
              have q0 := fun w => run_cat w S ⟨#[116, 105, 99, 107, 10]⟩ (by have : (⟨#[116, 105, 99, 107, 10]⟩ : ByteArray).size = 5 := rfl; omega)
              go_wp2_with fail
              go_roundw
              case rel =>
                have he : S ++ ⟨#[116, 105, 99, 107, 10]⟩ = ba (rp 2048 ++ tks (j + 1)) := by rw [tks_snoc, ← List.append_assoc, ba_app (rp 2048 ++ tks j), ← HS.out]; rfl
                exact ⟨j + 1, _, by omega, by go_num, rfl, by rw [he, ba_size, List.length_append, rp_len, tks_len]; omega, Lib.hid he, trivial⟩
              case measure => simp [intOf]; omega
            · obtain rfl : j = kk := by omega
              have C1 := Lib.hid (parse_own S (by omega) W HT.out)
              have hSl : S.data.toList = rp 2048 ++ tks j := by rw [HS.out]; rfl
              rw [hSl] at C1
              have hd : decide ((j : Int) < (j : Int)) = false := by simp
              clear hSl HS
              by_cases h0 : j = 0
              · subst h0
                rw [limit_none] at C1
                obtain ⟨E, hE⟩ : ∃ E, List.replicate 65536 zE = E := ⟨_, rfl⟩
                have hEl : E.length = 65536 := by rw [← hE, List.length_replicate]
                have HEl := Lib.hid hEl
                obtain ⟨ps, hps⟩ := limit_print
                have HE := Lib.hid (show printS E = (ps, 0) ∧ (∀ x ∈ E ++ [⟨2, 0, 0, 0⟩], Byt x) ∧ printS (E ++ [⟨2, 0, 0, 0⟩]) = ([], 7) by
                  rw [← hE]
                  exact ⟨hps, limit_byt _, limit_over⟩)
                rw [hE] at C1
                clear hE hps hEl
                go_wp2_with fail
                refine C1.out.mono ?_
                rintro e w1 ⟨⟨A, c, rfl, hown, -⟩, b1⟩
                have H1 := Lib.hid (And.intro hown b1)
                clear hown b1 C1
                dsimp only at H1 ⊢
                have C2 := Lib.hid (print_any A c E w1 (tabW_next HT.out (Nat.le_refl _) H1.out.2) ((LiV.own encE_len (by decide) H1.out.1).mono fun _ _ => trivial) (fun x hx => HE.out.2.1 x (by simp [hx])))
                rw [HE.out.1] at C2
                rw [HEl.out] at C2 H1 ⊢
                go_wp2_with fail
                refine C2.out.mono ?_
                rintro e w2 ⟨rfl, b2⟩
                have H2 := Lib.hid (And.intro (own_later H1.out.1 b2) (below_next H1.out.2 b2))
                have hz2 := H2.out.2.size
                clear b2 C2 H1
                dsimp only
                go_wp2_with (at_builtin; refine wpList_push evt_elt H2.out.1 hz2 rfl rfl rfl rfl rfl rfl rfl (by unfold maxLen; omega) (by omega) ?_; intro A3 c3 w3 hp; have H3 := Lib.hid (And.intro hp.own (hp.below H2.out.2 H2.out.1 (Nat.le_refl _))); clear hp)
                have hL3 : LiV 4 encE w3 (fun _ => True) (.slice A3 65537 c3) (E ++ [⟨2, 0, 0, 0⟩]) := (LiV.own encE_len (by decide) (by rw [flatL_snoc]; exact H3.out.1)).mono fun _ _ => trivial
                have hl7 : (E ++ [(⟨2, 0, 0, 0⟩ : Evt)]).length = 65537 := by rw [List.length_append, HEl.out]; rfl
                have C4 := Lib.hid (print_any A3 c3 (E ++ [⟨2, 0, 0, 0⟩]) w3 (tabW_next HT.out (Nat.le_refl _) H3.out.2) (by rw [hl7]; exact hL3) HE.out.2.1)
                rw [hl7, HE.out.2.2] at C4
                clear hL3 hl7
                go_wp2_with fail
                refine C4.out.mono ?_
                rintro e wX ⟨rfl, b4⟩
                have HX := Lib.hid (below_next H3.out.2 b4)
                clear b4 C4 H3 H2 hz2
                dsimp only
                obtain ⟨i0, hi0, hz0, hs0, hb0⟩ := info_parts (P := Tryd.prog) (e := 5) (z := .int .u8 0) (size := 1) (bytes := 1) (by kernel_rfl)
                go_wp2_with (at_make; refine wpList_make_full wX rfl _ _ _ rfl wX.heap.size 5 i0 _ 1 Tryd.underlying41 hi0 hz0 hs0 .i64 .i64 _ _ 262145 rfl rfl rfl rfl (by rw [hb0]; omega) (by unfold maxLen; omega) (Nat.le_refl _) ?_; intro w10 hown hg; obtain ⟨Z, hZ, hZ2⟩ := conv_zero hown; have HO := Lib.hid (And.intro (HX.out.grown hg (by have := HX.out.size; omega) (fun k e => by cases e) : Below W.heap.size W w10) hZ2); clear hown hg hZ2)
                clear hi0 hz0 hs0 hb0
                have C11 := Lib.hid (parse_any Z (by have := HO.out.2; omega) w10 (tabW_next HT.out (Nat.le_refl _) HO.out.1))
                rw [show parseP Z.data.toList = ([], 0, 3) by unfold parseP; rw [if_pos (by rw [Array.length_toList]; have := HO.out.2; show _ < Z.size; omega)]] at C11
                go_wp2_with fail
                refine C11.out.mono ?_
                rintro e w11 ⟨⟨B11, d11, rfl, -, -⟩, b11⟩
                have H11 := Lib.hid (below_next HO.out.1 b11)
                clear b11 C11
                have C12 := Lib.hid (awake_yes w11 (tabW_next HT.out (Nat.le_refl _) H11.out))
                dsimp only [List.length_nil]
                go_wp2_with fail
                refine C12.out.mono ?_
                rintro e w12 ⟨rfl, b12⟩
                have H12 := Lib.hid (below_next H11.out b12)
                clear b12 C12
                go_wp2_with fail
                go_ret
                exact ⟨rfl, H12.out⟩
              · rw [limit_some j hk3 (by omega)] at C1
                have e0 : ((j : Int) == 0) = false := by rw [beq_eq_false_iff_ne]; omega
                go_wp2_with fail
                refine C1.out.mono ?_
                rintro e wX ⟨⟨A, c, rfl, -, -⟩, b1⟩
                have HX := Lib.hid b1
                clear b1 C1
                dsimp only [List.length_nil]
                obtain ⟨i0, hi0, hz0, hs0, hb0⟩ := info_parts (P := Tryd.prog) (e := 5) (z := .int .u8 0) (size := 1) (bytes := 1) (by kernel_rfl)
                go_wp2_with (at_make; refine wpList_make_full wX rfl _ _ _ rfl wX.heap.size 5 i0 _ 1 Tryd.underlying41 hi0 hz0 hs0 .i64 .i64 _ _ 262145 rfl rfl rfl rfl (by rw [hb0]; omega) (by unfold maxLen; omega) (Nat.le_refl _) ?_; intro w10 hown hg; obtain ⟨Z, hZ, hZ2⟩ := conv_zero hown; have HO := Lib.hid (And.intro (HX.out.grown hg (by have := HX.out.size; omega) (fun k e => by cases e) : Below W.heap.size W w10) hZ2); clear hown hg hZ2)
                clear hi0 hz0 hs0 hb0
                have C11 := Lib.hid (parse_any Z (by have := HO.out.2; omega) w10 (tabW_next HT.out (Nat.le_refl _) HO.out.1))
                rw [show parseP Z.data.toList = ([], 0, 3) by unfold parseP; rw [if_pos (by rw [Array.length_toList]; have := HO.out.2; show _ < Z.size; omega)]] at C11
                go_wp2_with fail
                refine C11.out.mono ?_
                rintro e w11 ⟨⟨B11, d11, rfl, -, -⟩, b11⟩
                have H11 := Lib.hid (below_next HO.out.1 b11)
                clear b11 C11
                have C12 := Lib.hid (awake_yes w11 (tabW_next HT.out (Nat.le_refl _) H11.out))
                dsimp only [List.length_nil]
                go_wp2_with fail
                refine C12.out.mono ?_
                rintro e w12 ⟨rfl, b12⟩
                have H12 := Lib.hid (below_next H11.out b12)
                clear b12 C12
                go_wp2_with fail
                go_ret
                exact ⟨rfl, H12.out⟩
end Go.Proofs.YtjkhkohlejkdlaaDoor
