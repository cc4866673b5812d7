/- utf: the document's decoding. -/
import Derived.Test.YtfnieoffgnnldaaDoorSuS
namespace Go.Proofs.YtfnieoffgnnldaaDoor
open Go.RowKit
set_option linter.unusedVariables false
set_option linter.unusedSimpArgs false

def RefD (w : World) (s : ByteArray) (k : Nat) (out : Value) (wr : World) : Prop :=
  ∃ ou : List Int, wr.ownsRow w.heap.size 21 1 out ou.length (ou.map (Value.int .i32)) ∧ ou.length ≤ k ∧ decF DS.zero (bts s) = ou ++ decF DS.zero ((bts s).drop k) ∧ Below w.heap.size w wr

set_option maxHeartbeats 4000000 in
theorem refdec_any (s : ByteArray) (w : World) (hsz : s.size ≤ 1000000000) :
    Calls Tryd.prog 47 #[.string s] w fun e w' => ∃ A c, e = .returned (.slice A (decD (bts s)).length c) ∧ Rd w' A (decD (bts s)).length (li (decD (bts s))) ∧ w'.ownsRow w.heap.size 21 1 (.slice A (decD (bts s)).length c) (decD (bts s)).length ((decD (bts s)).map (Value.int .i32)) ∧ Below w.heap.size w w' := by
  go_enter Tryd.func47, Tryd.ntmps47
  go_wp2
  go_loopw [3, 4] (fun out i wr => ∃ k : Nat, k ≤ s.size ∧ i = .int .i64 k ∧ RefD w s k out wr) (fun _ i _ => s.size - (intOf i).toNat)
  case atStart => exact ⟨0, Nat.zero_le _, rfl, [], World.ownsRow_nil _ _ _ _, Nat.le_refl _, rfl, Below.refl _ _⟩
  case round =>
    obtain ⟨k, hk, rfl, ou, hown, hou, hde, hbw⟩ := hrel
    by_cases hlt : k < s.size
    · obtain ⟨c, t, eL⟩ : ∃ c t, (bts s).drop k = c :: t := by
        match e : (bts s).drop k with
        | [] =>
          have := congrArg List.length e
          rw [List.length_drop, bts_length] at this
          simp at this; omega
        | a :: l => exact ⟨a, l, rfl⟩
      have HO := Lib.hid (And.intro hown (And.intro hde hbw))
      clear hown hde hbw
      have hle : k ≤ s.size := hk
      go_wp2_with fail
      refine (row_said _ _ (by rw [ByteArray.size_extract]; omega)).mono ?_
      rintro e w1 ⟨n, wh, rfl, hri, kq, rfl⟩
      rw [bts_tail, eL] at hri
      have hnl : n ≤ s.size - k := by
        have h1 := hri.1
        have h2 := congrArg List.length eL
        rw [List.length_drop, bts_length] at h2
        omega
      have hds := Lib.hid (dec_step c t n wh hri)
      have hw0 : wh = true → 0 < n := fun e => (hri.2.2.2.1 e).1
      have HR := Lib.hid hri
      clear hri
      have HX := Lib.hid (own_later HO.out.1 (below_drewN (Below.refl wr.heap.size wr) kq))
      have HB := Lib.hid (below_drewN HO.out.2.2 kq)
      cases wh
      · by_cases hn : n = 0
        · subst hn
          go_wp2_with (at_builtin; refine wpList_push eltI HX.out (by have := HB.out.size; omega) rfl rfl rfl rfl (by simp) rfl rfl (by unfold maxLen; omega) (by omega) ?_; intro A3 v3 w3 hp; have HP := Lib.hid hp; have hb3 : Below w.heap.size w w3 := hp.below HB.out HX.out (Nat.le_refl _); clear hp)
          go_roundw
          case rel =>
            refine ⟨k + 1, by omega, by go_num, ou ++ [65533], by simpa using HP.out.own, by simp; omega, ?_, hb3⟩
            rw [HO.out.2.1, eL, hds.out, ← List.drop_drop, eL]
            simp
          case measure => simp [intOf]; omega
        · have hz : decide (n = 0) = false := by simp [hn]
          have hz2 : ((n : Int) == 0) = false := by simp [hn]
          go_wp2_with (at_builtin; refine wpList_push eltI HX.out (by have := HB.out.size; omega) rfl rfl rfl rfl (by simp) rfl rfl (by unfold maxLen; omega) (by omega) ?_; intro A3 v3 w3 hp; have HP := Lib.hid hp; have hb3 : Below w.heap.size w w3 := hp.below HB.out HX.out (Nat.le_refl _); clear hp)
          go_roundw
          case rel =>
            refine ⟨k + n, by omega, by go_num, ou ++ [65533], by simpa using HP.out.own, by simp; omega, ?_, hb3⟩
            rw [HO.out.2.1, eL, hds.out, hz, ← List.drop_drop, eL]
            simp
          case measure => simp [intOf]; omega
      · have hn : 0 < n := hw0 rfl
        have hz : decide (n = 0) = false := by simp; omega
        have hz2 : ((n : Int) == 0) = false := by simp; omega
        have hsz' : (s.extract k (k + n)).size = n := by rw [ByteArray.size_extract]; omega
        have hV : bts (s.extract k (k + n)) = (c :: t).take n := by rw [bts_extract, eL, show k + n - k = n by omega]
        have hg : ∀ j, j < n → (bts (s.extract k (k + n))).getD j 0 = (c :: t).getD j 0 := fun j hj => by
          rw [hV]
          simp [List.getD, List.getElem?_take, hj]
        have HV := Lib.hid (fun w => value_any (s.extract k (k + n)) (by omega) (by rw [hsz', hg 0 hn]; exact (HR.out.2.2.2.1 rfl).2) (fun j hj => by rw [hsz'] at hj; rw [hg 0 hn, hg j hj]; exact (HR.out.2.1 j hj).2.2) w)
        rw [hV] at HV
        obtain ⟨x, hx⟩ : ∃ x, valI ((c :: t).take n) = x := ⟨_, rfl⟩
        rw [hx] at HV
        clear hsz' hV hg hw0
        go_wp2_with fail
        refine (HV.out _).mono ?_
        rintro e w2 ⟨rfl, rfl⟩
        go_wp2_with (at_builtin; refine wpList_push eltI HX.out (by have := HB.out.size; omega) rfl rfl rfl rfl (by simp) rfl rfl (by unfold maxLen; omega) (by omega) ?_; intro A3 v3 w3 hp; have HP := Lib.hid hp; have hb3 : Below w.heap.size w w3 := hp.below HB.out HX.out (Nat.le_refl _); clear hp)
        go_roundw
        case rel =>
          refine ⟨k + n, by omega, by go_num, ou ++ [x], by simpa using HP.out.own, by simp; omega, ?_, hb3⟩
          rw [HO.out.2.1, eL, hds.out, hz, hx.symm, ← List.drop_drop, eL]
          simp
        case measure => simp [intOf]; omega
    · obtain rfl : k = s.size := by omega
      have HO := Lib.hid (And.intro hown (And.intro hde hbw))
      clear hown hde hbw
      go_wp2_with fail
      go_ret
      have hD : decD (bts s) = ou := by
        rw [decD_is, HO.out.2.1, List.drop_of_length_le (by rw [bts_length]; exact Nat.le_refl _)]
        simp [decF, endD, DS.zero]
      have hx := HO.out.1
      obtain ⟨A, c, rfl⟩ := own_slice hx
      rw [hD]
      refine ⟨A, c, rfl, rd_own hx (fun j hj => ?_), hx, HO.out.2.2⟩
      rw [List.getElem?_map, List.getElem?_eq_getElem hj]
      simp [li, List.getD, List.getElem?_eq_getElem hj]
end Go.Proofs.YtfnieoffgnnldaaDoor
