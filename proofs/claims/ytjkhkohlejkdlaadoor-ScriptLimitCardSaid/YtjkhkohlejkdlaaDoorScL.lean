/- script: the document's line. -/
import Derived.Test.YtjkhkohlejkdlaaDoorScK
namespace Go.Proofs.YtjkhkohlejkdlaaDoor
open Go.RowKit
set_option linter.unusedVariables false
set_option linter.unusedSimpArgs false

theorem LineOut.one' {w : World} {q : Nat} {o : Option (List Evt)} {x : Evt} (ho : o = some [x]) : LineOut w ((w.drewN q).alloc (.cells #[.int .i64 x.kind, .int .u8 x.byte, .int .i64 x.rows, .int .i64 x.cols] 40)) o (.returned (.tuple #[.slice (some ⟨w.heap.size, 0, none⟩) 1 1, .bool true])) :=
  LineOut.yes ho rfl (own_newN (w.drewN q) #[.int .i64 x.kind, .int .u8 x.byte, .int .i64 x.rows, .int .i64 x.cols] 40 4 1 rfl (by decide)) ((below_drewN (Below.refl _ _) q).alloc (Nat.le_refl _) _)
theorem ba_ext_list (s : ByteArray) (a b : Nat) : (s.extract a b).data.toList = (s.data.toList.drop a).take (b - a) := by
  rw [ByteArray.data_extract, Array.toList_extract]
theorem ext_size (s : ByteArray) (a b : Nat) (h : a ≤ b) (hb : b ≤ s.size) : (s.extract a b).size = b - a := by
  rw [ByteArray.size_extract]
  omega
theorem pre_len {l p : List UInt8} (h : preB l p = true) : p.length ≤ l.length := by
  unfold preB at h
  rw [Bool.and_eq_true] at h
  exact of_decide_eq_true h.1
set_option maxHeartbeats 4000000 in
theorem rline_size (s : ByteArray) (hs : s.size ≤ 1000000) (h00 : 0 < s.size) (h0 : (s[0]'h00).toNat ≠ 35) (ht : s.data.toList ≠ tickT) (hz : preB s.data.toList sizeT = true) (w : World) : Calls Tryd.prog 20 #[.string s] w fun e w' => LineOut w w' (sizeE (s.data.toList.drop 5)) e := by
  have hsz : s.data.toList.length = s.size := Array.length_toList
  have h5 : 5 ≤ s.size := by have := pre_len hz; rw [hsz] at this; exact this
  obtain ⟨r, hr⟩ : ∃ r, s.data.toList.drop 5 = r := ⟨_, rfl⟩
  have hrl : r.length = s.size - 5 := by rw [← hr, List.length_drop, hsz]
  obtain ⟨R, hR⟩ : ∃ R, sizeE r = R := ⟨_, rfl⟩
  rw [hr, hR]
  have HR := Lib.hid (And.intro hr hR)
  have HP := Lib.hid (show spc r = 0 + spc (s.data.toList.drop 5) by rw [hr]; omega)
  have hsp := spc_le r
  rw [hrl] at hsp
  obtain ⟨q, hq⟩ : ∃ q, spc r = q := ⟨_, rfl⟩
  rw [hq] at HP hsp
  have HQ := Lib.hid hq
  clear hr hR hq
  have C1 := Lib.hid (rbegins_any s ⟨#[115, 105, 122, 101, 32]⟩ (by omega) (by decide) w)
  have e1 : preB s.data.toList (ByteArray.mk #[115, 105, 122, 101, 32]).data.toList = true := hz
  rw [e1] at C1
  have e3 : (s.toList == [116, 105, 99, 107]) = false := by
    have := str_eq s tickT
    rw [decide_eq_false ht] at this
    exact this
  obtain ⟨e4, e5⟩ := str_some h00
  have d0 : (0 : Int) < (s.size : Int) := by omega
  have d1 : (((s[0]'h00).toNat : Int) == 35) = false := by simp; omega
  clear h0 ht hz e1
  go_enter Tryd.func20, Tryd.ntmps20
  go_wp2_with fail
  refine C1.out.mono ?_
  rintro e w1 ⟨rfl, rfl⟩
  clear C1
  go_wp2
  go_loopw [4] (fun i wr => ∃ j : Nat, j ≤ s.size ∧ 5 ≤ j ∧ i = .int .i64 ((j : Nat) : Int) ∧ Hid (5 + q = j + spc (s.data.toList.drop j)) ∧ w = wr) (fun i _ => s.size - (intOf i).toNat)
  case atStart => exact ⟨5, h5, Nat.le_refl _, rfl, Lib.hid (by have := HP.out; omega), rfl⟩
  case round =>
    clear e3 e4 e5 d0 d1 HP
    obtain ⟨j, hj, hj5, rfl, HJ, rfl⟩ := hrel
    by_cases hlt : j < s.size
    · have hji : (j : Int) < (s.size : Int) := by omega
      have hj0 : (0 : Int) ≤ (j : Int) := by omega
      have HB := Lib.hid (byte_at s hlt)
      by_cases h32 : (s[j]'hlt).toNat = 32
      · have e6 : (((s[j]'hlt).toNat : Int) != 32) = false := by simp; omega
        have hjq : j = 5 + q := by
          have := HJ.out
          rw [spc_yes HB.out h32] at this
          omega
        have e7 : ((j : Int) == (s.size : Int)) = false := by simp; omega
        have g1 : (5 : Int) ≤ (j : Int) := by omega
        have g2 : (j : Int) ≤ (s.size : Int) := by omega
        have g3 : (0 : Int) ≤ (j : Int) + 1 := by omega
        have g4 : (j : Int) + 1 ≤ (s.size : Int) := by omega
        have g5 : ((j : Int) + 1).toNat = j + 1 := by omega
        have hx : (s.extract 5 j).data.toList = r.take q := by rw [ba_ext_list, HR.out.1, show j - 5 = q by omega]
        have hy : (s.extract (j + 1) s.size).data.toList = r.drop (q + 1) := by
          rw [ba_ext_list, List.take_of_length_le (by simp), ← HR.out.1, List.drop_drop]
          congr 1
          omega
        have CX := Lib.hid (fun (X : World) => rnumber_any (s.extract 5 j) (by rw [ext_size _ _ _ (by omega) (by omega)]; omega) X)
        have CY := Lib.hid (fun (X : World) => rnumber_any (s.extract (j + 1) s.size) (by rw [ext_size _ _ _ (by omega) (by omega)]; omega) X)
        have HE := Lib.hid (show bothE (numO (r.take q)) (numO (r.drop (q + 1))) = R by
          rw [← HR.out.2]
          unfold sizeE
          rw [HQ.out, if_pos (by omega)])
        rw [hx] at CX
        rw [hy] at CY
        obtain ⟨a, ha⟩ : ∃ a, numO (r.take q) = a := ⟨_, rfl⟩
        obtain ⟨b, hb⟩ : ∃ b, numO (r.drop (q + 1)) = b := ⟨_, rfl⟩
        rw [ha] at CX HE
        rw [hb] at CY HE
        clear ha hb hx hy h32 hjq
        obtain ⟨y, hy⟩ : ∃ y, numI a = y := ⟨_, rfl⟩
        obtain ⟨z, hz⟩ : ∃ z, numI b = z := ⟨_, rfl⟩
        rw [hy] at CX
        rw [hz] at CY
        have HA := Lib.hid (And.intro hy hz)
        clear hy hz
        go_wp2_with fail
        go_quiet ((go_at_call 35; first | with_reducible exact quiet_here (CX.out _) | with_reducible exact quiet_here (CY.out _)))
        clear CX CY
        clear e6 e7 g1 g2 g3 g4 g5
        have HW := Lib.hid (below_drewN (Below.refl w.heap.size w) nq)
        have hbel : ∀ cs, Below w.heap.size w ((w.drewN nq).alloc cs) := fun cs => HW.out.alloc (Nat.le_refl _) cs
        have HB := Lib.hid hbel
        clear hbel
        rcases a with _ | n
        · obtain rfl : R = none := by rw [← HE.out]; cases b <;> rfl
          obtain rfl : y = -1 := HA.out.1.symm
          go_wp2
          go_ret2
          exact LineOut.no rfl (HB.out _)
        · obtain rfl : y = (n : Int) := HA.out.1.symm
          have d1 : (0 : Int) ≤ (n : Int) := by omega
          rcases b with _ | m
          · obtain rfl : R = none := by rw [← HE.out]; rfl
            obtain rfl : z = -1 := HA.out.2.symm
            go_wp2
            go_ret2
            exact LineOut.no rfl (HB.out _)
          · obtain rfl : z = (m : Int) := HA.out.2.symm
            obtain rfl : R = some [⟨3, 0, (n : Nat), (m : Nat)⟩] := by rw [← HE.out]; rfl
            have d2 : (0 : Int) ≤ (m : Int) := by omega
            have HO := Lib.hid (LineOut.one' (w := w) (q := nq) (x := ⟨3, 0, (n : Nat), (m : Nat)⟩) rfl)
            go_wp2
            go_ret2
            exact HO.out
      · have e6 : (((s[j]'hlt).toNat : Int) != 32) = true := by simp; omega
        have HN := Lib.hid (show 5 + q = j + 1 + spc (s.data.toList.drop (j + 1)) by
          have := HJ.out
          rw [spc_no HB.out h32] at this
          omega)
        clear h32
        go_wp2
        go_roundw
        case rel => exact ⟨j + 1, by omega, by omega, by go_num, HN, trivial⟩
        case measure => simp [intOf]; omega
    · obtain rfl : j = s.size := by omega
      have hd : decide ((s.size : Int) < (s.size : Int)) = false := by simp
      have hq5 : 5 + q = s.size := by
        have := HJ.out
        rw [List.drop_eq_nil_of_le (by omega)] at this
        exact this
      obtain rfl : R = none := by
        rw [← HR.out.2]
        unfold sizeE
        rw [HQ.out, if_neg (by omega)]
      have e7 : (((s.size : Nat) : Int) == (s.size : Int)) = true := by simp
      go_wp2
      go_ret2
      exact LineOut.no rfl (Below.refl _ _)
end Go.Proofs.YtjkhkohlejkdlaaDoor
