/- ansi: AnsiPuts' walk. -/
import Derived.Test.YtednedklkbjihaaDoorAnN
namespace Go.Proofs.YtednedklkbjihaaDoor
open Go.RowKit
set_option linter.unusedVariables false
set_option linter.unusedSimpArgs false

theorem fit_snoc {M : Nat} {L : List Ob} {k : Nat} {x : Ob} (h : ∀ y ∈ L.take k, Fit M y) (hx : L[k]? = some x) (hf : Fit M x) : ∀ y ∈ L.take (k + 1), Fit M y := by
  rw [take_snoc' hx]
  intro y hy
  rcases List.mem_append.1 hy with hy | hy
  · exact h y hy
  · obtain rfl : y = x := by simpa using hy
    exact hf

set_option maxRecDepth 100000 in
set_option maxHeartbeats 8000000 in
theorem walk_AnsiPuts (W : World) (hT : TabW W.heap.size W) (A : Option Addr) (c : Nat) (L : List Ob) (hL : OpIn W A c L) :
    Calls Tryd.prog 4 #[.slice A L.length c] W (YesO W) := by
  have HT := Lib.hid hT
  have hNc := hL.le
  have hcm := hL.mx
  unfold maxLen at hcm
  have HL := Lib.hid hL
  obtain ⟨N, hN⟩ : ∃ N, L.length = N := ⟨_, rfl⟩
  have HN := Lib.hid hN
  rw [hN] at hNc ⊢
  clear hT hL hN
  go_enter Tryd.func4, Tryd.ntmps4
  go_wp2_with fail
  go_loopw [3, 4, 5] (fun sa sb i wr => ∃ (k : Nat) (Aa : Option Addr) (ca : Nat) (Bb : Option Addr) (db : Nat), k ≤ N ∧ k ≤ 60 ∧ i = .int .i64 k ∧ sa = .slice Aa k ca ∧ sb = .slice Bb k db ∧ Hid (Rows2 W Aa k ca (L.take k) Bb k db (L.take k) wr ∧ ∀ x ∈ L.take k, Fit 300 x)) (fun _ _ i _ => N - (intOf i).toNat)
  case atStart => exact ⟨0, none, 0, none, 0, Nat.zero_le _, by omega, rfl, rfl, rfl, Rows2.start W, fun x hx => by simp at hx⟩
  case round =>
    obtain ⟨k, Aa, ca, Bb, db, hk, hk60, rfl, rfl, rfl, HK⟩ := hrel
    by_cases hlt : k < N ∧ k < 60
    · obtain ⟨hkN, hk6⟩ := hlt
      have hkL : k < L.length := by rw [HN.out]; exact hkN
      have g1 : (k : Int) < (N : Int) := by omega
      have g2 : (k : Int) < 60 := by omega
      have g3 : (0 : Int) ≤ (k : Int) := by omega
      obtain ⟨x, b, o, hx, rfl, hb, _⟩ := HL.out.li.ob hkL
      obtain ⟨w1, w2⟩ := HL.out.ok x (List.mem_of_getElem? hx)
      have w1' := wf_i64 w1
      have w2' := wf_i64 w2
      have HW := Lib.hid (show ∀ X, Below W.heap.size W X → (fun X => X.cell? ⟨b, o + k * 4, none⟩ = some (.int .i64 x.k) ∧ X.cell? ⟨b, o + k * 4 + 1, none⟩ = some (.int .i64 x.a) ∧ X.cell? ⟨b, o + k * 4 + 2, none⟩ = some (.int .i64 x.b) ∧ X.cell? ⟨b, o + k * 4 + 3, none⟩ = some (.string x.t)) X from fun X hX => by
        obtain ⟨y, b1, o1, hy, e1, _, c0, c1, c2, c3⟩ := (HL.out.li.later hX).ob hkL
        rw [hx] at hy
        injection hy with hy
        injection e1 with e1
        injection e1 with e1 f1
        subst e1; subst f1; subst hy
        exact ⟨c0, c1, c2, c3⟩)
      obtain ⟨xk, xa, xb, xt⟩ := x
      dsimp only at HW w1' w2'
      have HS := Lib.hid (fun X (hX : Below wr.heap.size wr X) => HW.out X (belowStepA HK.out.1.below hX))
      have HX := Lib.hid hx
      obtain ⟨c0, c1, c2, c3⟩ := HS.out wr (Below.refl _ _)
      clear hx hb w1 w2
      by_cases hs : 300 < xt.size
      · have hs2 : (300 : Int) < (xt.size : Int) := by omega
        have C := Lib.hid (awake_yes wr (tabW_next HT.out (Nat.le_refl _) HK.out.1.below))
        clear hs
        go_wp2_with fail
        refine C.out.mono ?_
        rintro e w5 ⟨rfl, b5⟩
        have H5 := Lib.hid (belowStepA HK.out.1.below b5)
        clear b5
        go_wp2_with fail
        go_ret
        exact ⟨rfl, H5.out⟩
      · have hs2 : ¬ (300 : Int) < (xt.size : Int) := by omega
        have hfit : Fit 300 ⟨xk, xa, xb, xt⟩ := ⟨by show _ ≤ xa; omega, by show xa < _; omega, by show _ ≤ xb; omega, by show xb < _; omega, by show xt.size ≤ 300; omega⟩
        have HF := Lib.hid (fit_snoc HK.out.2 HX.out hfit)
        have HTK := Lib.hid (take_snoc' HX.out)
        have CP := Lib.hid (fun X (hX : Below wr.heap.size wr X) => put_any (w := X) xk xa xb xt (tabW_next HT.out (Nat.le_refl _) (belowStepA HK.out.1.below hX)) hfit.a0 hfit.b0)
        have CR := Lib.hid (fun X => rput_any (w := X) xk xa xb xt hfit.a0 hfit.b0 hfit.a1 hfit.b1)
        have hps := putS_size xk xa xb xt
        have hps2 : (putS xk xa xb xt).size ≤ 400 := by omega
        obtain ⟨T, hTT⟩ : ∃ T, putS xk xa xb xt = T := ⟨_, rfl⟩
        rw [hTT] at CP CR hps2
        clear hs hTT hps hfit w1' w2'
        have hK := Lib.hid (Below.refl wr.heap.size wr)
        go_wp2_with fail
        go_region_held3 (fun X => X.cell? ⟨b, o + k * 4, none⟩ = some (.int .i64 xk) ∧ X.cell? ⟨b, o + k * 4 + 1, none⟩ = some (.int .i64 xa) ∧ X.cell? ⟨b, o + k * 4 + 2, none⟩ = some (.int .i64 xb) ∧ X.cell? ⟨b, o + k * 4 + 3, none⟩ = some (.string xt))
          (first | exact HS.out _ (by assumption) | go_keep)
          (first
          | (go_at_call 17; refine (op_any _ _ _ _ _).mono ?_; rintro e w3 ⟨rfl, hb3⟩; have hB3 := belowStepA (A := wr) (by first | assumption | exact hK.out | exact hK.out.drew) hb3; clear hb3)
          | (go_at_call 16; refine (CP.out _ (by first | assumption | exact hK.out | exact hK.out.drew)).mono ?_; rintro e w4 ⟨rfl, hb4⟩; have hB4 := belowStepA (A := wr) (by first | assumption | exact hK.out | exact hK.out.drew) hb4; clear hb4)
          | (go_at_call 18; refine (CR.out _).mono ?_; rintro e w5 ⟨rfl, hb5⟩; have hB5 := belowStepA (A := wr) (by first | assumption | exact hK.out | exact hK.out.drew) hb5; clear hb5))
        have R5 := Lib.hid (HK.out.1.later hB5)
        obtain ⟨e0, e1, e2, e3⟩ := HS.out w5 hB5
        have hz0 := HK.out.1.below.size
        clear hB3 hB4 hB5 c0 c1 c2 c3 HS CP CR hK
        go_wp2_with fail
        refine (op_any _ _ _ _ _).mono ?_
        rintro e w6 ⟨rfl, b6⟩
        have R6 := Lib.hid (R5.out.later b6)
        have hz6 := R6.out.below.size
        clear R5 e0 e1 e2 e3 b6 hz0
        go_upto_region 11 with (at_builtin; refine wpList_push op_elt R6.out.a hz6 rfl rfl rfl rfl rfl rfl rfl (by unfold maxLen; omega) (by omega) ?_; intro A7 c7 w7 hp; have R7 := Lib.hid (R6.out.pushA (x := ⟨xk, xa, xb, xt⟩) hp); clear hp)
        clear R6 hz6
        obtain ⟨e0, e1, e2, e3⟩ := HW.out w7 R7.out.below
        have hz7 := R7.out.below.size
        go_wp2_with (at_builtin; refine wpList_push opR_elt R7.out.b hz7 rfl rfl rfl rfl rfl rfl rfl (by unfold maxLen; omega) (by omega) ?_; intro A8 c8 w8 hp; have R8 := Lib.hid (R7.out.pushB (x := ⟨xk, xa, xb, xt⟩) hp); clear hp)
        go_roundw
        case rel => exact ⟨k + 1, A7, c7, A8, c8, by omega, by omega, by go_num, rfl, rfl, by rw [HTK.out]; exact R8.out, HF.out⟩
        case measure => simp [intOf]; omega
    · have hex : N ≤ k ∨ (k < N ∧ 60 ≤ k) := by omega
      have hkl : (L.take k).length = k := by rw [List.length_take, HN.out]; omega
      have C1 := Lib.hid (all_any Aa ca (L.take k) wr ((Li.own encO_len (by omega) HK.out.1.a).mono fun _ _ => trivial) 300 HK.out.2 (by rw [hkl]; omega) (tabW_next HT.out (Nat.le_refl _) HK.out.1.below))
      have C2 := Lib.hid (fun X (hX : Below wr.heap.size wr X) => rall_any Bb db (L.take k) X (((Li.own encO_len (by omega) HK.out.1.b).later hX).mono fun _ _ => trivial) 300 HK.out.2 (by rw [hkl]; omega))
      have C3 := Lib.hid (fun X (hX : Below wr.heap.size wr X) => awake_yes X (tabW_next HT.out (Nat.le_refl _) (belowStepA HK.out.1.below hX)))
      have hB := Lib.hid HK.out.1.below
      rw [hkl] at C1 C2
      obtain ⟨T, hTT⟩ : ∃ T, allS (L.take k) = T := ⟨_, rfl⟩
      rw [hTT] at C1 C2
      have hts : T.size ≤ 100000000 := by
        have := allB_len HK.out.2
        rw [← hTT, allS_size]
        rw [hkl] at this
        omega
      clear hkl hTT hlt HK
      rcases hex with hx | ⟨hx, hx2⟩
      · obtain rfl : k = N := by omega
        clear hx
        go_wp2_with fail
        refine C1.out.mono ?_
        rintro e w8 ⟨rfl, b8⟩
        have H8 := Lib.hid b8
        clear b8 C1
        go_wp2_with fail
        refine (C2.out w8 H8.out).mono ?_
        rintro e w9 ⟨rfl, b9⟩
        have H9 := Lib.hid (belowStepA H8.out b9)
        clear b9 C2 H8
        go_wp2_with fail
        refine (C3.out w9 H9.out).mono ?_
        rintro e w10 ⟨rfl, b10⟩
        have H10 := Lib.hid (belowStepA (belowStepA hB.out H9.out) b10)
        clear b10 C3 H9
        go_wp2_with fail
        go_ret
        exact ⟨rfl, H10.out⟩
      · obtain rfl : k = 60 := by omega
        have g1 : ((60 : Nat) : Int) < (N : Int) := by omega
        clear hx2
        go_wp2_with fail
        refine C1.out.mono ?_
        rintro e w8 ⟨rfl, b8⟩
        have H8 := Lib.hid b8
        clear b8 C1
        go_wp2_with fail
        refine (C2.out w8 H8.out).mono ?_
        rintro e w9 ⟨rfl, b9⟩
        have H9 := Lib.hid (belowStepA H8.out b9)
        clear b9 C2 H8
        go_wp2_with fail
        refine (C3.out w9 H9.out).mono ?_
        rintro e w10 ⟨rfl, b10⟩
        have H10 := Lib.hid (belowStepA (belowStepA hB.out H9.out) b10)
        clear b10 C3 H9
        go_wp2_with fail
        go_ret
        exact ⟨rfl, H10.out⟩
end Go.Proofs.YtednedklkbjihaaDoor
