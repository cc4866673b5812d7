/- trie: joined. -/
import Derived.Test.YtpbdamjpjpchiaaTrA
import Derived.Deep.QuietTactic
import Derived.BigQuiet
namespace Go.Proofs.Ytpbdamjpjpchiaa
open Go.RowKit
set_option linter.unusedVariables false
set_option linter.unusedSimpArgs false

theorem flatP_get (D : List (Pc Int)) (y : Pc Int) (i : Nat) (u : Value) (h : (encP y)[i]? = some u) : (flatL encP (D ++ [y]))[D.length * 3 + i]? = some u :=
  flatL_get encP_len (D ++ [y]) D.length y i u (by simp) h
theorem flatP_set (D : List (Pc Int)) (y : Pc Int) (t : Int) : (flatL encP (D ++ [y])).set (D.length * 3 + 1) (.int .i64 t) = flatL encP (D ++ [⟨y.f, t, y.v⟩]) := by
  have hl := flatL_len encP_len D
  rw [flatL_snoc, flatL_snoc, List.set_append, if_neg (by omega), hl, show D.length * 3 + 1 - D.length * 3 = 1 by omega]
  rfl

structure JR (w : World) (g : Int → Int) (lo hi : Int) (k : Nat) (Ao : Option Addr) (no co : Nat) (D : List (Pc Int)) (X : World) : Prop where
  ji : JI g lo hi D
  len : D.length = no
  grows : Grows w 34 3 encP Ao no co D X

theorem tile_at {lo hi : Int} {L : List (Pc Int)} {k : Nat} {x : Pc Int} (h : Tile lo hi L) (hx : L[k]? = some x) : Tile lo x.f (L.take k) ∧ x.f ≤ x.t ∧ Tile lo (x.t + 1) (L.take (k + 1)) := by
  have e := take_snoc' hx
  have h1 := h
  rw [← List.take_append_drop (k + 1) L, tile_append] at h1
  obtain ⟨m, h2, _⟩ := h1
  rw [e] at h2 ⊢
  obtain ⟨a, b, c⟩ := tile_snoc.1 h2
  exact ⟨a, b, tile_snoc.2 ⟨a, b, rfl⟩⟩
theorem tile_uniq {lo a b : Int} {L : List (Pc Int)} (h : Tile lo a L) (k : Tile lo b L) : a = b := by
  induction L generalizing lo with
  | nil => exact h.symm.trans k
  | cons p L ih => exact ih h.2.2 k.2.2

set_option maxHeartbeats 4000000 in
set_option maxRecDepth 100000 in
theorem joined_any (A : Option Addr) (c : Nat) (L : List (Pc Int)) (g : Int → Int) (m : Int) (w : World) (hL : Li 3 encP w (fun _ => True) A L) (hc : L.length ≤ c) (hn : L.length ≤ 100000) (hT : Tile 0 m L) (hV : Vals g L) (hm : m ≤ 100000000) :
    Calls Try.prog 38 #[.slice A L.length c] w (fun e w' => ∃ P, JI g 0 m P ∧ P.length ≤ L.length ∧ TellsO 34 3 encP P w e w') := by
  have HL := Lib.hid hL
  have HT := Lib.hid hT
  have HV := Lib.hid hV
  clear hL hT hV
  go_enter Try.func38, Try.ntmps38
  go_wp2
  go_loopw [3, 5, 6, 9] (fun v _ _ i wr => ∃ k : Nat, ∃ Ao no co, k ≤ L.length ∧ i = .int .i64 k ∧ v = .slice Ao no co ∧ no ≤ k ∧ Hid (∃ D hi, JR w g 0 hi k Ao no co D wr ∧ Tile 0 hi (L.take k))) (fun _ _ _ i _ => L.length - (intOf i).toNat)
  case atStart => exact ⟨0, none, 0, 0, Nat.zero_le _, rfl, rfl, Nat.le_refl _, [], 0, ⟨⟨rfl, (fun p hp => by cases hp), trivial⟩, rfl, Grows.start _ _ _⟩, rfl⟩
  case round =>
    obtain ⟨k, Ao, no, co, hk, rfl, rfl, hno, HG⟩ := hrel
    obtain ⟨D, hi, hG, hTk⟩ := HG.out
    by_cases hlt : k < L.length
    · obtain ⟨x, b, o, hx, rfl, hbl, _, c0, c1, c2⟩ := (HL.out.later hG.grows.below).piece hlt
      have hxm : x ∈ L := List.mem_of_getElem? hx
      obtain ⟨t1, t2, t3⟩ := tile_at HT.out hx
      have hhi : hi = x.f := tile_uniq hTk t1
      subst hhi
      have xb := tile_bd HT.out hxm
      have xb1 := xb.1
      have xb3 : x.t ≤ 100000000 := by omega
      have hji := hG.ji.step t2 (HV.out x hxm)
      have HX := Lib.hid (And.intro hji t3)
      have HJ := Lib.hid hG
      clear hx hxm hji hG HG hTk t1 t3 xb
      go_wp2
      refine at_world (fun X => Below wr.heap.size wr X ∧ Blk X wr.heap.size (encP x).toArray) ⟨(Below.refl _ _).alloc (Nat.le_refl _) _, blk_new _ _ _⟩ ?_
      rintro X ⟨hX, hB⟩
      have l0 : X.cell? ⟨wr.heap.size, 0, none⟩ = some (.int .i64 x.f) := hB.2.1 0
      have l1 : X.cell? ⟨wr.heap.size, 1, none⟩ = some (.int .i64 x.t) := hB.2.1 1
      have l2 : X.cell? ⟨wr.heap.size, 2, none⟩ = some (.int .i64 x.v) := hB.2.1 2
      have HW := Lib.hid (And.intro (HJ.out.grows.later hX) hX)
      have hz : w.heap.size ≤ X.heap.size := HW.out.1.below.size
      have HO := Lib.hid HW.out.1.own
      clear hX hB c0 c1 c2
      rcases Nat.eq_zero_or_pos no with h0 | hpos
      · have hD : D = [] := List.eq_nil_of_length_eq_zero (by rw [HJ.out.len, h0])
        have HD := Lib.hid (show jstep D x = D ++ [x] by rw [hD]; rfl)
        clear hD
        have z0 := Lib.hid h0
        clear h0
        have g1 : ¬ (1 ≤ (no : Int)) := by have := z0.out; omega
        have g2 : decide ((0 : Int) < (no : Int)) = false := decide_eq_false (by have := z0.out; omega)
        have g3 : decide (0 < no) = false := decide_eq_false (by have := z0.out; omega)
        go_quiet (fail)
        go_wp2_with (at_builtin; refine wpList_push piece_elt (ownDrew HO.out _) (by simpa using hz) rfl rfl rfl rfl (by simp) rfl rfl (by unfold maxLen; omega) (by omega) ?_; intro A3 c3 w3 hp; have HP := Lib.hid hp; clear hp)
        go_roundw
        case rel => exact ⟨k + 1, _, _, _, by omega, by go_num, rfl, by omega, jstep D x, _, ⟨HX.out.1, by rw [HD.out]; have := HJ.out.len; simp only [List.length_append, List.length_singleton] at this ⊢; omega, by rw [HD.out]; exact HW.out.1.push (selfDrew _ _) HP.out⟩, HX.out.2⟩
        case measure => simp [intOf]; omega
      · obtain ⟨g', cs, rfl, hgb, hBk, _, _, _, hcs⟩ := own_blk HO.out hpos
        obtain ⟨D', y, rfl⟩ : ∃ D' y, D = D' ++ [y] := by
          rcases List.eq_nil_or_concat D with h | ⟨S, y, h⟩
          · have := HJ.out.len; rw [h] at this; simp at this; omega
          · exact ⟨S, y, by rw [h, List.concat_eq_append]⟩
        have hD' : D'.length = no - 1 := by have := HJ.out.len; simp at this; omega
        have ow (i : Nat) (u : Value) (hu : (encP y)[i]? = some u) : X.cell? ⟨g', (no - 1) * 3 + i, none⟩ = some u := by
          rw [hBk.2.1]
          refine hcs _ _ ?_
          rw [← hD']
          exact flatP_get D' y i u hu
        have m1 := ow 1 _ rfl
        have m2 := ow 2 _ rfl
        have mf := hBk.2.2 ((no - 1) * 3 + 1)
        have ml := hBk.1
        clear hcs ow hBk
        have g1 : (1 ≤ (no : Int)) := by omega
        have g2 : decide ((0 : Int) < (no : Int)) = true := decide_eq_true (by omega)
        have g3 : decide (0 < no) = true := decide_eq_true (by omega)
        have g4 : (no : Int) - 1 < (no : Int) := by omega
        have g5 : ((no : Int) - 1).toNat = no - 1 := by omega
        have g6 : decide ((0 : Int) ≤ (no : Int) - 1) = true := decide_eq_true (by omega)
        by_cases e1 : y.v = x.v
        · have d1 : (y.v == x.v) = true := by simpa using e1
          have HD := Lib.hid (jstep_yes (D := D') e1)
          clear e1
          have HS := Lib.hid (show ∀ q, ((X.drewN q).setCell ⟨g', (no - 1) * 3 + 1, none⟩ (.int .i64 x.t)).ownsRow w.heap.size 34 3 (.slice (some ⟨g', 0, none⟩) no co) no (flatL encP (D' ++ [⟨y.f, x.t, y.v⟩])) ∧ Below w.heap.size w ((X.drewN q).setCell ⟨g', (no - 1) * 3 + 1, none⟩ (.int .i64 x.t)) from by
            intro q
            have h := ((ownDrew HO.out q).stored ((no - 1) * 3 + 1) (.int .i64 x.t)).1
            rw [← hD', flatP_set] at h
            rw [← hD']
            exact ⟨h, (belDrew HW.out.1.below q).setCell hgb _⟩)
          go_quiet (fail)
          go_wp2
          go_roundw
          case rel => exact ⟨k + 1, _, _, _, by omega, by go_num, rfl, by omega, jstep _ x, _, ⟨HX.out.1, by rw [HD.out]; have := HJ.out.len; simp only [List.length_append, List.length_singleton] at this ⊢; omega, by rw [HD.out]; exact ⟨(HS.out _).1, (HS.out _).2⟩⟩, HX.out.2⟩
          case measure => simp [intOf]; omega
        · have d1 : (y.v == x.v) = false := by simpa using e1
          have HD := Lib.hid (jstep_no (D := D') (y := y) (x := x) e1)
          clear e1
          go_quiet (fail)
          go_wp2_with (at_builtin; refine wpList_push piece_elt (ownDrew HO.out _) (by simpa using hz) rfl rfl rfl rfl (by simp) rfl rfl (by unfold maxLen; omega) (by omega) ?_; intro A3 c3 w3 hp; have HP := Lib.hid hp; clear hp)
          go_roundw
          case rel => exact ⟨k + 1, _, _, _, by omega, by go_num, rfl, by omega, jstep _ x, _, ⟨HX.out.1, by rw [HD.out]; have := HJ.out.len; simp only [List.length_append, List.length_singleton] at this ⊢; omega, by rw [HD.out]; exact HW.out.1.push (selfDrew _ _) HP.out⟩, HX.out.2⟩
          case measure => simp [intOf]; omega
    · obtain rfl : k = L.length := by omega
      have hhi : hi = m := tile_uniq hTk (by rw [List.take_length]; exact HT.out)
      subst hhi
      have HR := Lib.hid (show ∃ P, JI g 0 hi P ∧ P.length ≤ L.length ∧ TellsO 34 3 encP P w (.returned (.slice Ao no co)) wr from ⟨D, hG.ji, by rw [hG.len]; exact hno, hG.grows.tells⟩)
      clear hG HG hTk hlt
      go_wp2
      go_ret
      exact HR.out
end Go.Proofs.Ytpbdamjpjpchiaa
