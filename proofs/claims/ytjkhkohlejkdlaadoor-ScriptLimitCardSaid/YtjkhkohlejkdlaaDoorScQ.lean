/- script: a line's events: the program. -/
import Derived.Test.YtjkhkohlejkdlaaDoorScP
namespace Go.Proofs.YtjkhkohlejkdlaaDoor
open Go.RowKit
set_option linter.unusedVariables false
set_option linter.unusedSimpArgs false

set_option maxHeartbeats 2000000 in
theorem pbytes_any (s : ByteArray) (hs : s.size ≤ 1000000) (w : World) : Calls Tryd.prog 30 #[.string s] w fun e w' => LineOut w w' (hexsE s.data.toList) e := by
  have hsz : s.data.toList.length = s.size := Array.length_toList
  by_cases hok : s.size = 0 ∨ 64 < s.size ∨ s.size % 2 ≠ 0
  · have hR : hexsE s.data.toList = none := by unfold hexsE; rw [hsz, if_pos hok]
    rw [hR]
    clear hR
    obtain ⟨m, hm⟩ : ∃ m : Int, (s.size : Int).tmod 2 = m := ⟨_, rfl⟩
    have hm2 : m = (s.size % 2 : Nat) := by rw [← hm, Int.tmod_eq_emod_of_nonneg (by omega)]; omega
    by_cases q0 : s.size = 0
    · have g0 : ((s.size : Int) == 0) = true := by rw [beq_iff_eq]; omega
      clear hok hm2 hm q0
      go_enter Tryd.func30, Tryd.ntmps30
      go_wp2
      go_ret2
      exact LineOut.no rfl (Below.refl _ _)
    · have g0 : ((s.size : Int) == 0) = false := by rw [beq_eq_false_iff_ne]; omega
      by_cases q1 : 64 < s.size
      · have g1 : (64 : Int) < (s.size : Int) := by omega
        clear hok hm2 hm q0
        go_enter Tryd.func30, Tryd.ntmps30
        go_wp2
        go_ret2
        exact LineOut.no rfl (Below.refl _ _)
      · have g1 : ¬ (64 : Int) < (s.size : Int) := by omega
        have g2 : (m == 0) = false := by rw [beq_eq_false_iff_ne]; omega
        clear hok hm2 q0
        go_enter Tryd.func30, Tryd.ntmps30
        go_wp2
        go_ret2
        exact LineOut.no rfl (Below.refl _ _)
  · have hR : hexsE s.data.toList = hexE s.data.toList := by unfold hexsE; rw [hsz, if_neg hok]
    rw [hR]
    exact bytesTwo s (by omega) (by omega) (by omega) w
theorem LineOut.at {w w1 w2 : World} {o : Option (List Evt)} {e : Ending} (h : LineOut w1 w2 o e) (hb : Below w.heap.size w w1) : LineOut w w2 o e := by
  obtain ⟨h1 | h1, h2⟩ := h
  · obtain ⟨L, A, c, h3, h4, h5⟩ := h1
    exact ⟨.inl ⟨L, A, c, h3, h4, h5.mono fun b h => Nat.le_trans hb.size h⟩, hb.trans (h2.mono hb.size)⟩
  · exact ⟨.inr h1, hb.trans (h2.mono hb.size)⟩
theorem below_next {w w1 w2 : World} (h1 : Below w.heap.size w w1) (h2 : Below w1.heap.size w1 w2) : Below w.heap.size w w2 := h1.trans (h2.mono h1.size)
theorem tabW_at {B : Nat} {w : World} (h : TabW B w) (hB : B ≤ w.heap.size) : TabW w.heap.size w := fun w' hb => h w' (hb.mono hB)
theorem tabW_next {B : Nat} {w w' : World} (h : TabW B w) (hB : B ≤ w.heap.size) (hb : Below B w w') : TabW w'.heap.size w' := tabW_at (h.on hb) (Nat.le_trans hB hb.size)
theorem pre_not {l : List UInt8} (h : preB l bytesT = true) : preB l sizeT = false := by
  rw [← pre_is] at h ⊢
  cases l with
  | nil => rfl
  | cons a t =>
    unfold Lib.hasPrefix bytesT at h
    unfold Lib.hasPrefix sizeT
    simp only [List.isPrefixOf, Bool.and_eq_true, beq_iff_eq] at h
    obtain ⟨rfl, -⟩ := h
    rfl
set_option maxHeartbeats 4000000 in
theorem events_size (s : ByteArray) (hs : s.size ≤ 1000000) (h00 : 0 < s.size) (h0 : (s[0]'h00).toNat ≠ 35) (ht : s.data.toList ≠ tickT) (hb : preB s.data.toList bytesT = false) (hz : preB s.data.toList sizeT = true) (w : World) (hT : TabW w.heap.size w) : Calls Tryd.prog 17 #[.string s] w fun e w' => LineOut w w' (sizeE (s.data.toList.drop 5)) e := by
  have hsz : s.data.toList.length = s.size := Array.length_toList
  obtain ⟨e4, e5⟩ := str_some h00
  have d0 : (0 : Int) < (s.size : Int) := by omega
  have d1 : (((s[0]'h00).toNat : Int) == 35) = false := by simp; omega
  have e3 : (s.toList == [116, 105, 99, 107]) = false := by
    have := str_eq s tickT
    rw [decide_eq_false ht] at this
    exact this
  have C1 := Lib.hid (cutpre_any s ⟨#[98, 121, 116, 101, 115, 32]⟩ w)
  have C2 := Lib.hid (cutpre_any s ⟨#[115, 105, 122, 101, 32]⟩ w)
  have e1 : preB s.data.toList (ByteArray.mk #[98, 121, 116, 101, 115, 32]).data.toList = false := hb
  have e2 : preB s.data.toList (ByteArray.mk #[115, 105, 122, 101, 32]).data.toList = true := hz
  rw [e1, if_neg (by simp)] at C1
  rw [e2, if_pos rfl] at C2
  rw [show (ByteArray.mk #[115, 105, 122, 101, 32]).data.toList.length = 5 from rfl] at C2
  obtain ⟨r, hr⟩ : ∃ r, s.data.toList.drop 5 = r := ⟨_, rfl⟩
  have hrl : r.length ≤ s.size := by rw [← hr, List.length_drop, hsz]; omega
  rw [hr] at C2 ⊢
  clear e1 e2 hr h0 ht hb hz hsz
  have C3 := Lib.hid (cut_any (ba r) (by rw [ba_size]; omega) w)
  rw [ba_list] at C3
  have hsp := spc_le r
  obtain ⟨R, hR⟩ : ∃ R, sizeE r = R := ⟨_, rfl⟩
  rw [hR]
  unfold sizeE at hR
  obtain ⟨q, hq⟩ : ∃ q, spc r = q := ⟨_, rfl⟩
  rw [hq] at C3 hsp hR
  clear hq
  have CX := Lib.hid (fun (X : World) (hT : TabW X.heap.size X) => number_any hT (ba (r.take q)) (by rw [ba_size, List.length_take]; omega))
  have CY := Lib.hid (fun (X : World) (hT : TabW X.heap.size X) => number_any hT (ba (r.drop (q + 1))) (by rw [ba_size, List.length_drop]; omega))
  rw [ba_list] at CX CY
  have HN := Lib.hid (show ¬ q < r.length → numO (r.drop (q + 1)) = none by
    intro h
    rw [List.drop_eq_nil_of_le (by omega)]
    rfl)
  obtain ⟨a, ha⟩ : ∃ a, numO (r.take q) = a := ⟨_, rfl⟩
  obtain ⟨b, hb⟩ : ∃ b, numO (r.drop (q + 1)) = b := ⟨_, rfl⟩
  rw [ha] at CX hR
  rw [hb] at CY hR HN
  have HR := Lib.hid (show bothE a b = R by
    by_cases h : q < r.length
    · rw [if_pos h] at hR; exact hR
    · rw [if_neg h] at hR
      have hbn := HN.out h
      rw [← hR, hbn]
      cases a <;> rfl)
  clear ha hb hR HN
  obtain ⟨bb, hbb⟩ : ∃ bb, decide (q < r.length) = bb := ⟨_, rfl⟩
  rw [hbb] at C3
  clear hbb hsp
  have HT := Lib.hid hT
  clear hT
  go_enter Tryd.func17, Tryd.ntmps17
  go_wp2_with fail
  refine C1.out.mono ?_
  rintro e w1 ⟨rfl, rfl⟩
  go_wp2_with fail
  refine C2.out.mono ?_
  rintro e w1 ⟨rfl, rfl⟩
  go_wp2_with fail
  refine C3.out.mono ?_
  rintro e w1 ⟨rfl, k1, hw1⟩
  have H1 := Lib.hid (show Below w.heap.size w w1 by rw [hw1]; exact below_drewN (Below.refl _ _) k1)
  clear hw1 C1 C2 C3
  have C4 := Lib.hid (CX.out w1 (tabW_next HT.out (Nat.le_refl _) H1.out))
  go_wp2_with fail
  refine C4.out.mono ?_
  rintro e w2 ⟨y, rfl, hy, hb2⟩
  have H2 := Lib.hid (below_next H1.out hb2)
  have HY := Lib.hid hy
  clear hb2 hy C4
  have C5 := Lib.hid (CY.out w2 (tabW_next HT.out (Nat.le_refl _) H2.out))
  go_wp2_with fail
  refine C5.out.mono ?_
  rintro e w3 ⟨z, rfl, hz, hb3⟩
  have H3 := Lib.hid (below_next H2.out hb3)
  have HZ := Lib.hid hz
  clear hb3 hz C5
  have HB := Lib.hid (show ∀ o, Below w.heap.size w (w3.alloc o) from fun o => H3.out.alloc H3.out.size o)
  rcases a with _ | n
  · obtain rfl : R = none := by rw [← HR.out]; cases b <;> rfl
    rw [show (none : Option Nat).isSome = false from rfl]
    go_wp2
    go_ret2
    exact LineOut.no rfl (HB.out _)
  · obtain rfl : y = (n : Int) := HY.out n rfl
    rw [show (some n).isSome = true from rfl]
    rcases b with _ | m
    · obtain rfl : R = none := by rw [← HR.out]; rfl
      rw [show (none : Option Nat).isSome = false from rfl]
      go_wp2
      go_ret2
      exact LineOut.no rfl (HB.out _)
    · obtain rfl : z = (m : Int) := HZ.out m rfl
      rw [show (some m).isSome = true from rfl]
      obtain rfl : R = some [⟨3, 0, (n : Nat), (m : Nat)⟩] := by rw [← HR.out]; rfl
      have HO := Lib.hid ((LineOut.one (w := w3) (x := ⟨3, 0, (n : Nat), (m : Nat)⟩) rfl).at H3.out)
      go_wp2
      go_ret2
      exact HO.out
set_option maxHeartbeats 4000000 in
theorem events_any (s : ByteArray) (hs : s.size ≤ 1000000) (w : World) (hT : TabW w.heap.size w) : Calls Tryd.prog 17 #[.string s] w fun e w' => LineOut w w' (lineE s.data.toList) e := by
  have hsz : s.data.toList.length = s.size := Array.length_toList
  by_cases h00 : 0 < s.size
  · have hne : s.data.toList ≠ [] := fun e => by rw [e] at hsz; simp at hsz; omega
    obtain ⟨e4, e5⟩ := str_some h00
    have d0 : (0 : Int) < (s.size : Int) := by omega
    by_cases h0 : (s[0]'h00).toNat = 35
    · have hR : lineE s.data.toList = some [] := by
        unfold lineE
        rw [if_pos (.inr (by rw [byte_is s h00]; exact h0))]
      rw [hR]
      have d1 : (((s[0]'h00).toNat : Int) == 35) = true := by simp; omega
      clear h0 hR hne
      go_enter Tryd.func17, Tryd.ntmps17
      go_wp2_with fail
      go_ret2
      exact LineOut.nil rfl (Below.refl _ _)
    · have hR0 : lineE s.data.toList = if s.data.toList = tickT then some [⟨2, 0, 0, 0⟩] else if preB s.data.toList sizeT then sizeE (s.data.toList.drop 5) else if preB s.data.toList bytesT then hexsE (s.data.toList.drop 6) else none := by
        unfold lineE
        rw [if_neg (by rw [byte_is s h00]; exact fun h => h.elim hne h0)]
      rw [hR0]
      clear hR0
      have d1 : (((s[0]'h00).toNat : Int) == 35) = false := by simp; omega
      by_cases ht : s.data.toList = tickT
      · rw [if_pos ht]
        have e3 : (s.toList == [116, 105, 99, 107]) = true := by
          have := str_eq s tickT
          rw [decide_eq_true ht] at this
          exact this
        have HO := Lib.hid (LineOut.one (w := w) (x := ⟨2, 0, 0, 0⟩) rfl)
        clear ht h0 hne hT
        go_enter Tryd.func17, Tryd.ntmps17
        go_wp2_with fail
        go_ret2
        exact HO.out
      · rw [if_neg ht]
        have e3 : (s.toList == [116, 105, 99, 107]) = false := by
          have := str_eq s tickT
          rw [decide_eq_false ht] at this
          exact this
        by_cases hb : preB s.data.toList bytesT = true
        · have hz : preB s.data.toList sizeT = false := pre_not hb
          rw [hz, if_neg (by simp), if_pos hb]
          have C1 := Lib.hid (cutpre_any s ⟨#[98, 121, 116, 101, 115, 32]⟩ w)
          have e1 : preB s.data.toList (ByteArray.mk #[98, 121, 116, 101, 115, 32]).data.toList = true := hb
          rw [e1, if_pos rfl] at C1
          rw [show (ByteArray.mk #[98, 121, 116, 101, 115, 32]).data.toList.length = 6 from rfl] at C1
          have C2 := Lib.hid (pbytes_any (ba (s.data.toList.drop 6)) (by rw [ba_size, List.length_drop]; omega) w)
          rw [ba_list] at C2
          clear e1 hz hb ht h0 hne hT
          go_enter Tryd.func17, Tryd.ntmps17
          go_wp2_with fail
          refine C1.out.mono ?_
          rintro e w1 ⟨rfl, rfl⟩
          go_wp2_with fail
          refine C2.out.mono ?_
          rintro e w2 ⟨⟨L, A2, c2, hL, rfl, hLi⟩ | ⟨hL, A2, n2, c2, rfl⟩, hb2⟩
          · have HO := Lib.hid (show LineOut w w2 (hexsE (s.data.toList.drop 6)) (.returned (.tuple #[.slice A2 L.length c2, .bool true])) from ⟨.inl ⟨L, A2, c2, hL, rfl, hLi⟩, hb2⟩)
            clear hL hLi hb2 C1 C2
            go_wp2
            go_ret2
            exact HO.out
          · have HO := Lib.hid (LineOut.no (A := A2) (n := n2) (c := c2) hL hb2)
            clear hL hb2 C1 C2
            go_wp2
            go_ret2
            exact HO.out
        · have hb' : preB s.data.toList bytesT = false := by simpa using hb
          by_cases hz : preB s.data.toList sizeT = true
          · rw [if_pos hz]
            exact events_size s hs h00 h0 ht hb' hz w hT
          · rw [if_neg hz, if_neg hb]
            have hz' : preB s.data.toList sizeT = false := by simpa using hz
            have C1 := Lib.hid (cutpre_any s ⟨#[98, 121, 116, 101, 115, 32]⟩ w)
            have C2 := Lib.hid (cutpre_any s ⟨#[115, 105, 122, 101, 32]⟩ w)
            have e1 : preB s.data.toList (ByteArray.mk #[98, 121, 116, 101, 115, 32]).data.toList = false := hb'
            have e2 : preB s.data.toList (ByteArray.mk #[115, 105, 122, 101, 32]).data.toList = false := hz'
            rw [e1, if_neg (by simp)] at C1
            rw [e2, if_neg (by simp)] at C2
            clear hz hz' hb hb' ht h0 hne e1 e2 hT
            go_enter Tryd.func17, Tryd.ntmps17
            go_wp2_with fail
            refine C1.out.mono ?_
            rintro e w1 ⟨rfl, rfl⟩
            go_wp2_with fail
            refine C2.out.mono ?_
            rintro e w1 ⟨rfl, rfl⟩
            go_wp2
            go_ret2
            exact LineOut.no rfl (Below.refl _ _)
  · have h0 : s.size = 0 := by omega
    have hR : lineE s.data.toList = some [] := by
      unfold lineE
      rw [if_pos (.inl (List.eq_nil_of_length_eq_zero (by omega)))]
    rw [hR]
    have e4 := str_none h0
    clear hR h0 h00 hT
    go_enter Tryd.func17, Tryd.ntmps17
    go_wp2_with fail
    go_ret2
    exact LineOut.nil rfl (Below.refl _ _)
end Go.Proofs.YtjkhkohlejkdlaaDoor
