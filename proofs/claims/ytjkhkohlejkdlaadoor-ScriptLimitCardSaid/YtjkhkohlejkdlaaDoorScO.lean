/- script: bytes that are written as two digits each. -/
import Derived.Test.YtjkhkohlejkdlaaDoorScN
namespace Go.Proofs.YtjkhkohlejkdlaaDoor
open Go.RowKit
set_option linter.unusedVariables false
set_option linter.unusedSimpArgs false

theorem or_fin : ∀ a b : Fin 16, bits .or .i64 ((a.val : Int) * 16) (b.val : Int) = 16 * (a.val : Int) + (b.val : Int) := by decide +kernel
theorem or_is {a b : Int} (h1 : 0 ≤ a) (h2 : a ≤ 15) (h3 : 0 ≤ b) (h4 : b ≤ 15) : bits .or .i64 (a * 16) b = 16 * a + b := by
  have := or_fin ⟨a.toNat, by omega⟩ ⟨b.toNat, by omega⟩
  rwa [show ((a.toNat : Nat) : Int) = a by omega, show ((b.toNat : Nat) : Int) = b by omega] at this
set_option maxHeartbeats 4000000 in
theorem bytesTwo (s : ByteArray) (h8 : 1 ≤ s.size) (h70 : s.size ≤ 64) (h2 : s.size % 2 = 0) (w : World) : Calls Tryd.prog 30 #[.string s] w fun e w' => LineOut w w' (hexE s.data.toList) e := by
  have hsz : s.data.toList.length = s.size := Array.length_toList
  obtain ⟨R, hR⟩ : ∃ R, hexE s.data.toList = R := ⟨_, rfl⟩
  have HR := Lib.hid (show (hexE (s.data.toList.drop 0)).map (([] : List Evt) ++ ·) = R by rw [← hR, List.drop_zero]; cases hexE s.data.toList <;> rfl)
  rw [hR]
  clear hR
  have d0 : ((s.size : Int) == 0) = false := by rw [beq_eq_false_iff_ne]; omega
  have d2 : ((s.size : Int).tmod 2) = 0 := by rw [Int.tmod_eq_emod_of_nonneg (by omega)]; omega
  have d3 : ¬ (64 : Int) < (s.size : Int) := by omega
  go_enter Tryd.func30, Tryd.ntmps30
  go_wp2
  go_loopw [4, 5] (fun o i wr => ∃ j k A c, j ≤ s.size ∧ 2 * k = j ∧ i = .int .i64 ((j : Nat) : Int) ∧ o = .slice A k c ∧ Hid (∃ done, (hexE (s.data.toList.drop j)).map (done ++ ·) = R ∧ done.length = k ∧ wr.ownsRow w.heap.size 40 4 (.slice A k c) k (flatL encE done) ∧ Below w.heap.size w wr)) (fun _ i _ => s.size - (intOf i).toNat)
  case atStart => exact ⟨0, 0, none, 0, by omega, rfl, rfl, rfl, Lib.hid ⟨[], HR.out, rfl, World.ownsRow_nil _ _ _ _, Below.refl _ _⟩⟩
  case round =>
    clear d0 d2 d3
    obtain ⟨j, k, A, c, hj, hjk, rfl, rfl, H⟩ := hrel
    obtain ⟨done, h1, h2', h3, h4⟩ := H.out
    have H1 := Lib.hid (And.intro h1 (And.intro h2' (And.intro h3 h4)))
    clear H h1 h2' h3 h4
    have hz := H1.out.2.2.2.size
    by_cases hlt : j < s.size
    · have hlt1 : j + 1 < s.size := by omega
      have hji : (j : Int) < (s.size : Int) := by omega
      have hj0 : (0 : Int) ≤ (j : Int) := by omega
      have hji1 : (j : Int) + 1 < (s.size : Int) := by omega
      have hj01 : (0 : Int) ≤ (j : Int) + 1 := by omega
      have hjn : ((j : Int) + 1).toNat = j + 1 := by omega
      have HS := Lib.hid (hexE_step (byte_at s hlt) (byte_at s hlt1) done)
      obtain ⟨x, hx⟩ : ∃ x, (s[j]'hlt).toNat = x := ⟨_, rfl⟩
      obtain ⟨y, hy⟩ : ∃ y, (s[j + 1]'hlt1).toNat = y := ⟨_, rfl⟩
      have hx2 : x < 256 := by rw [← hx]; exact byte_toNat_lt _
      have hy2 : y < 256 := by rw [← hy]; exact byte_toNat_lt _
      rw [hx, hy] at HS
      have CX := Lib.hid (fun (X : World) => digit_any x hx2 X)
      have CY := Lib.hid (fun (X : World) => digit_any y hy2 X)
      have hdx := dig_lo x
      have hdy := dig_lo y
      have hex := dig_hi x
      have hey := dig_hi y
      obtain ⟨a, ha⟩ : ∃ a, digP x = a := ⟨_, rfl⟩
      obtain ⟨b, hb⟩ : ∃ b, digP y = b := ⟨_, rfl⟩
      rw [ha] at HS CX hdx hex
      rw [hb] at HS CY hdy hey
      clear ha hb hx2 hy2
      go_wp2_with fail
      go_quiet ((go_at_call 41; first | with_reducible exact quiet_here (CX.out _) | with_reducible exact quiet_here (CY.out _)))
      clear CX CY hx hy hji1 hj01 hjn
      by_cases ha : a < 0
      · obtain rfl : R = none := by rw [← H1.out.1, HS.out, if_pos (.inl ha)]
        clear HS
        go_wp2
        go_ret2
        exact LineOut.no rfl (below_drewN H1.out.2.2.2 _)
      · by_cases hb : b < 0
        · obtain rfl : R = none := by rw [← H1.out.1, HS.out, if_pos (.inr hb)]
          clear HS
          go_wp2
          go_ret2
          exact LineOut.no rfl (below_drewN H1.out.2.2.2 _)
        · have HN := Lib.hid (show (hexE (s.data.toList.drop (j + 2))).map ((done ++ [⟨1, 16 * a + b, 0, 0⟩]) ++ ·) = R by
            rw [← H1.out.1, HS.out, if_neg (by omega)])
          have f1 : bits .or .i64 (a * 16) b = 16 * a + b := or_is (by omega) (by omega) (by omega) (by omega)
          have f3 : (16 * a + b) % 256 = 16 * a + b := by omega
          have f4 : IntKind.i64.wrap ((j : Int) + 2) = (j : Int) + 2 := IntWalk.i64_in _ (by omega)
          have HO := Lib.hid (show (wr.drewN nq).ownsRow w.heap.size 40 4 (.slice A k c) k (flatL encE done) from H1.out.2.2.1)
          have hz2 : w.heap.size ≤ (wr.drewN nq).heap.size := hz
          have HB := Lib.hid (below_drewN H1.out.2.2.2 nq)
          clear HS
          go_wp2_with (at_builtin; refine wpList_push evt_elt HO.out hz2 rfl rfl rfl rfl rfl rfl rfl (by unfold maxLen; omega) (by omega) ?_; intro A3 c3 w3 hp; have HQ := Lib.hid (And.intro hp.own (hp.below HB.out HO.out (Nat.le_refl _))); clear hp)
          go_roundw
          case rel => exact ⟨j + 2, k + 1, A3, c3, by omega, by omega, by go_num, rfl, Lib.hid ⟨done ++ [⟨1, 16 * a + b, 0, 0⟩], HN.out, by simp [H1.out.2.1], by rw [flatL_snoc]; exact HQ.out.1, HQ.out.2⟩⟩
          case measure => simp [intOf]; omega
    · obtain rfl : j = s.size := by omega
      have hd : decide ((s.size : Int) < (s.size : Int)) = false := by simp
      have HE := Lib.hid (show some done = R by rw [← H1.out.1]; exact (hexE_end (l := s.data.toList) (by omega) done).symm)
      go_wp2
      go_ret2
      exact LineOut.yes HE.out.symm H1.out.2.1.symm H1.out.2.2.1 H1.out.2.2.2
end Go.Proofs.YtjkhkohlejkdlaaDoor
