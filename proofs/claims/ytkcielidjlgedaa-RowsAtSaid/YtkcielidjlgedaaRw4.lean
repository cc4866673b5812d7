/- rows: joined. -/
import Derived.Test.YtkcielidjlgedaaRw1
namespace Go.Proofs.Ytkcielidjlgedaa
open Go.RowKit
set_option linter.unusedVariables false
set_option linter.unusedSimpArgs false

theorem jstep_no {D : List Span} {y x : Span} (h : ¬ (y.t + 1 = x.f ∧ y.a = x.a ∧ y.b = x.b)) : jstep (D ++ [y]) x = D ++ [y] ++ [x] := by
  unfold jstep
  simp only [List.getLast?_append, List.getLast?_singleton, Option.some_or]
  rw [if_neg h]
theorem jstep_yes {D : List Span} {y x : Span} (h : y.t + 1 = x.f ∧ y.a = x.a ∧ y.b = x.b) : jstep (D ++ [y]) x = D ++ [⟨y.f, x.t, y.a, y.b⟩] := by
  unfold jstep
  simp only [List.getLast?_append, List.getLast?_singleton, Option.some_or]
  rw [if_pos h]
  simp
theorem foldl_snoc {L : List Span} {k : Nat} {x : Span} (h : L[k]? = some x) : (L.take (k + 1)).foldl jstep [] = jstep ((L.take k).foldl jstep []) x := by
  rw [take_snoc' h, List.foldl_append]
  rfl
theorem flatS_snoc_get (D : List Span) (y : Span) (i : Nat) (u : Value) (h : (encS y)[i]? = some u) : (flatL encS (D ++ [y]))[D.length * 4 + i]? = some u :=
  flatL_get encS_len (D ++ [y]) D.length y i u (by simp) h
theorem flatS_set (D : List Span) (y : Span) (t : Int) : (flatL encS (D ++ [y])).set (D.length * 4 + 1) (.int .i64 t) = flatL encS (D ++ [⟨y.f, t, y.a, y.b⟩]) := by
  have hl := flatL_len encS_len D
  rw [flatL_snoc, flatL_snoc, List.set_append, if_neg (by omega), hl, show D.length * 4 + 1 - D.length * 4 = 1 by omega]
  rfl

structure JR (w : World) (L : List Span) (k : Nat) (Ao : Option Addr) (no co : Nat) (D : List Span) (X : World) : Prop where
  fold : (L.take k).foldl jstep [] = D
  ji : JI (L.take k) D 0 MS
  len : D.length = no
  grows : Grows w 30 4 encS Ao no co D X

set_option maxHeartbeats 4000000 in
set_option maxRecDepth 100000 in
theorem joined_any (A : Option Addr) (c : Nat) (L : List Span) (w : World) (hL : Li 4 encS w (fun _ => True) A L) (hc : L.length ≤ c) (hn : L.length ≤ 100000) (hR : Rise L) (hb : ∀ s ∈ L, 0 ≤ s.f ∧ s.t ≤ MS) :
    Calls Try.prog 24 #[.slice A L.length c] w (TellsO 30 4 encS (joinP L) w) := by
  have HL := Lib.hid hL
  have HR := Lib.hid hR
  have HB := Lib.hid hb
  clear hL hR hb
  go_enter Try.func24, Try.ntmps24
  go_wp2
  go_loopw [3, 5, 6, 9] (fun v _ _ i wr => ∃ k : Nat, ∃ Ao no co, k ≤ L.length ∧ i = .int .i64 k ∧ v = .slice Ao no co ∧ no ≤ k ∧ Hid (∃ D, JR w L k Ao no co D wr)) (fun _ _ _ i _ => L.length - (intOf i).toNat)
  case atStart => exact ⟨0, none, 0, 0, Nat.zero_le _, rfl, rfl, Nat.le_refl _, [], rfl, JI.start _ _, rfl, Grows.start _ _ _⟩
  case round =>
    obtain ⟨k, Ao, no, co, hk, rfl, rfl, hno, HG⟩ := hrel
    obtain ⟨D, hG⟩ := HG.out
    have HJ := Lib.hid hG
    clear HG hG
    by_cases hlt : k < L.length
    · obtain ⟨x, b, o, hx, rfl, hbl, _, c0, c1, c2, c3⟩ := (HL.out.later HJ.out.grows.below).span hlt
      have hxm : x ∈ L := List.mem_of_getElem? hx
      have xb1 := (HB.out x hxm).1
      have xb2 := HR.out.2 x hxm
      have xb3 : x.t ≤ 1114111 := (HB.out x hxm).2
      have hfold := foldl_snoc hx
      rw [HJ.out.fold] at hfold
      have hji : JI (L.take (k + 1)) (jstep D x) 0 MS := by
        rw [take_snoc' hx]
        refine HJ.out.ji.step xb2 xb1 xb3 fun y hy => ?_
        have hp := HR.out.1
        rw [← List.take_append_drop k L] at hp
        have hd : x ∈ L.drop k := by
          refine List.mem_of_getElem? (i := 0) ?_
          rw [List.getElem?_drop]; simpa using hx
        exact (List.pairwise_append.1 hp).2.2 y hy x hd
      have HX := Lib.hid (And.intro hfold hji)
      clear hx hxm hfold hji
      go_wp2
      refine at_world (fun X => Below wr.heap.size wr X ∧ Blk X wr.heap.size (encS x).toArray) ⟨(Below.refl _ _).alloc (Nat.le_refl _) _, blk_new _ _ _⟩ ?_
      rintro X ⟨hX, hB⟩
      have l0 : X.cell? ⟨wr.heap.size, 0, none⟩ = some (.int .i64 x.f) := hB.2.1 0
      have l1 : X.cell? ⟨wr.heap.size, 1, none⟩ = some (.int .i64 x.t) := hB.2.1 1
      have l2 : X.cell? ⟨wr.heap.size, 2, none⟩ = some (.int .i64 x.a) := hB.2.1 2
      have l3 : X.cell? ⟨wr.heap.size, 3, none⟩ = some (.int .i64 x.b) := hB.2.1 3
      have HW := Lib.hid (And.intro (HJ.out.grows.later hX) hX)
      have hz : w.heap.size ≤ X.heap.size := HW.out.1.below.size
      have HO := Lib.hid HW.out.1.own
      clear hX hB c0 c1 c2 c3
      rcases Nat.eq_zero_or_pos no with h0 | hpos
      · have hD : D = [] := List.eq_nil_of_length_eq_zero (by rw [HJ.out.len, h0])
        have HD := Lib.hid (show jstep D x = D ++ [x] by rw [hD]; rfl)
        clear hD
        have z0 := Lib.hid h0
        clear h0
        have g1 : ¬ (1 ≤ (no : Int)) := by have := z0.out; omega
        have g2 : decide ((0 : Int) ≤ (no : Int) - 1) = false := decide_eq_false (by have := z0.out; omega)
        have g3 : decide ((1 : Int) ≤ (no : Int)) = false := decide_eq_false (by have := z0.out; omega)
        go_quiet (fail)
        go_wp2_with (at_builtin; refine wpList_push span_elt (ownDrew HO.out _) (by simpa using hz) rfl rfl rfl rfl (by simp) rfl rfl (by unfold maxLen; omega) (by omega) ?_; intro A3 c3 w3 hp; have HP := Lib.hid hp; clear hp)
        go_roundw
        case rel => exact ⟨k + 1, _, _, _, by omega, by go_num, rfl, by omega, jstep D x, HX.out.1, HX.out.2, by rw [HD.out]; have := HJ.out.len; simp only [List.length_append, List.length_singleton] at this ⊢; omega, by rw [HD.out]; exact HW.out.1.push (selfDrew _ _) HP.out⟩
        case measure => simp [intOf]; omega
      · obtain ⟨g, cs, rfl, hgb, hBk, _, _, _, hcs⟩ := own_blk HO.out hpos
        obtain ⟨D', y, rfl⟩ : ∃ D' y, D = D' ++ [y] := by
          rcases List.eq_nil_or_concat D with h | ⟨S, y, h⟩
          · have := HJ.out.len; rw [h] at this; simp at this; omega
          · exact ⟨S, y, by rw [h, List.concat_eq_append]⟩
        have hD' : D'.length = no - 1 := by have := HJ.out.len; simp at this; omega
        have yb := HJ.out.ji.bd y (by simp)
        have yb1 := yb.1
        have yb2 : y.t ≤ 1114111 := yb.2
        have yb3 := HJ.out.ji.rise.2 y (by simp)
        have ow (i : Nat) (u : Value) (hu : (encS y)[i]? = some u) : X.cell? ⟨g, (no - 1) * 4 + i, none⟩ = some u := by
          rw [hBk.2.1]
          refine hcs _ _ ?_
          rw [← hD']
          exact flatS_snoc_get D' y i u hu
        have m1 := ow 1 _ rfl
        have m2 := ow 2 _ rfl
        have m3 := ow 3 _ rfl
        have mf := hBk.2.2 ((no - 1) * 4 + 1)
        have ml := hBk.1
        clear hcs ow yb hBk
        have g1 : (1 ≤ (no : Int)) := by omega
        have g2 : decide ((0 : Int) ≤ (no : Int) - 1) = true := decide_eq_true (by omega)
        have g3 : decide ((1 : Int) ≤ (no : Int)) = true := decide_eq_true (by omega)
        have g4 : (no : Int) - 1 < (no : Int) := by omega
        have g5 : ((no : Int) - 1).toNat = no - 1 := by omega
        by_cases e1 : y.t + 1 = x.f
        · have d1 : (y.t + 1 == x.f) = true := by simpa using e1
          by_cases e2 : y.a = x.a
          · have d2 : (y.a == x.a) = true := by simpa using e2
            by_cases e3 : y.b = x.b
            · have d3 : (y.b == x.b) = true := by simpa using e3
              have HD := Lib.hid (jstep_yes (D := D') ⟨e1, e2, e3⟩)
              clear e1 e2 e3
              have HS := Lib.hid (show ∀ q, ((X.drewN q).setCell ⟨g, (no - 1) * 4 + 1, none⟩ (.int .i64 x.t)).ownsRow w.heap.size 30 4 (.slice (some ⟨g, 0, none⟩) no co) no (flatL encS (D' ++ [⟨y.f, x.t, y.a, y.b⟩])) ∧ Below w.heap.size w ((X.drewN q).setCell ⟨g, (no - 1) * 4 + 1, none⟩ (.int .i64 x.t)) from by
                intro q
                have h := ((ownDrew HO.out q).stored ((no - 1) * 4 + 1) (.int .i64 x.t)).1
                rw [← hD', flatS_set] at h
                rw [← hD']
                exact ⟨h, (belDrew HW.out.1.below q).setCell hgb _⟩)
              go_quiet (fail)
              go_wp2
              go_roundw
              case rel => exact ⟨k + 1, _, _, _, by omega, by go_num, rfl, by omega, jstep _ x, HX.out.1, HX.out.2, by rw [HD.out]; have := HJ.out.len; simp only [List.length_append, List.length_singleton] at this ⊢; omega, by rw [HD.out]; exact ⟨(HS.out _).1, (HS.out _).2⟩⟩
              case measure => simp [intOf]; omega
            · have d3 : (y.b == x.b) = false := by simpa using e3
              have HD := Lib.hid (jstep_no (D := D') (y := y) (x := x) (fun h => e3 h.2.2))
              clear e1 e2 e3
              go_quiet (fail)
              go_wp2_with (at_builtin; refine wpList_push span_elt (ownDrew HO.out _) (by simpa using hz) rfl rfl rfl rfl (by simp) rfl rfl (by unfold maxLen; omega) (by omega) ?_; intro A3 c3 w3 hp; have HP := Lib.hid hp; clear hp)
              go_roundw
              case rel => exact ⟨k + 1, _, _, _, by omega, by go_num, rfl, by omega, jstep _ x, HX.out.1, HX.out.2, by rw [HD.out]; have := HJ.out.len; simp only [List.length_append, List.length_singleton] at this ⊢; omega, by rw [HD.out]; exact HW.out.1.push (selfDrew _ _) HP.out⟩
              case measure => simp [intOf]; omega
          · have d2 : (y.a == x.a) = false := by simpa using e2
            have HD := Lib.hid (jstep_no (D := D') (y := y) (x := x) (fun h => e2 h.2.1))
            clear e1 e2
            go_quiet (fail)
            go_wp2_with (at_builtin; refine wpList_push span_elt (ownDrew HO.out _) (by simpa using hz) rfl rfl rfl rfl (by simp) rfl rfl (by unfold maxLen; omega) (by omega) ?_; intro A3 c3 w3 hp; have HP := Lib.hid hp; clear hp)
            go_roundw
            case rel => exact ⟨k + 1, _, _, _, by omega, by go_num, rfl, by omega, jstep _ x, HX.out.1, HX.out.2, by rw [HD.out]; have := HJ.out.len; simp only [List.length_append, List.length_singleton] at this ⊢; omega, by rw [HD.out]; exact HW.out.1.push (selfDrew _ _) HP.out⟩
            case measure => simp [intOf]; omega
        · have d1 : (y.t + 1 == x.f) = false := by simpa using e1
          have HD := Lib.hid (jstep_no (D := D') (y := y) (x := x) (fun h => e1 h.1))
          clear e1
          go_quiet (fail)
          go_wp2_with (at_builtin; refine wpList_push span_elt (ownDrew HO.out _) (by simpa using hz) rfl rfl rfl rfl (by simp) rfl rfl (by unfold maxLen; omega) (by omega) ?_; intro A3 c3 w3 hp; have HP := Lib.hid hp; clear hp)
          go_roundw
          case rel => exact ⟨k + 1, _, _, _, by omega, by go_num, rfl, by omega, jstep _ x, HX.out.1, HX.out.2, by rw [HD.out]; have := HJ.out.len; simp only [List.length_append, List.length_singleton] at this ⊢; omega, by rw [HD.out]; exact HW.out.1.push (selfDrew _ _) HP.out⟩
          case measure => simp [intOf]; omega
    · obtain rfl : k = L.length := by omega
      have hD := HJ.out.fold
      rw [List.take_length] at hD
      have HT := Lib.hid (show TellsO 30 4 encS (joinP L) w (.returned (.slice Ao no co)) wr by unfold joinP; rw [hD]; exact HJ.out.grows.tells)
      clear HJ hD hlt
      go_wp2
      go_ret
      exact HT.out
end Go.Proofs.Ytkcielidjlgedaa
