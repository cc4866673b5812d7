/- store: the document's Read. -/
import Derived.Test.YtfnieoffgnnldaaDoorStL
import Derived.Test.YtfnieoffgnnldaaDoorStH
namespace Go.Proofs.YtfnieoffgnnldaaDoor
open Go.RowKit
set_option linter.unusedVariables false
set_option linter.unusedSimpArgs false

theorem lastE_snoc (R : List (List Int × Nat)) (x : List Int × Nat) : lastE (R ++ [x]) = x.2 := by
  unfold lastE
  simp [List.getD]
set_option maxRecDepth 100000 in
set_option maxHeartbeats 8000000 in
theorem rRead_any (s : ByteArray) (hs : s.size ≤ 10000) (w : World) : Calls Tryd.prog 15 #[.string s] w fun e w' => ∃ A c, e = .returned (.tuple #[.slice A (rdL [] 0 (bts s)).length c, .int .i64 (lastE (rdL [] 0 (bts s)) : Nat)]) ∧ Txts w' (.slice A (rdL [] 0 (bts s)).length c) ((rdL [] 0 (bts s)).map (·.1)) ∧ Below w.heap.size w w' := by
  obtain ⟨R, hR⟩ : ∃ R, rdL [] 0 (bts s) = R := ⟨_, rfl⟩
  have HR := Lib.hid (show ([] : List (List Int × Nat)) ++ rdL (part (bts s) 0 0) 0 ((bts s).drop 0) = R by rw [part_nil, List.drop_zero, List.nil_append]; exact hR)
  rw [hR]
  clear hR
  go_enter Tryd.func15, Tryd.ntmps15
  go_wp2_with fail
  go_loopw [4, 5, 6] (fun lv fv i wr => ∃ (k a n : Nat) (A : Option Addr) (c : Nat), k ≤ s.size ∧ a ≤ k ∧ n ≤ k ∧ i = .int .i64 (k : Nat) ∧ fv = .int .i64 (a : Nat) ∧ lv = .slice A n c ∧ Hid (∃ done, done ++ rdL (part (bts s) a k) k ((bts s).drop k) = R ∧ RdI w wr A n c (done.map (·.1)) none 0 0 [] ∧ lastE done = a)) (fun _ _ i _ => s.size - (intOf i).toNat)
  case atStart => exact ⟨0, 0, 0, none, 0, Nat.zero_le _, Nat.le_refl _, Nat.le_refl _, rfl, rfl, rfl, Lib.hid ⟨[], HR.out, RdI.start w, rfl⟩⟩
  case round =>
    obtain ⟨k, a, n, A, c, hk, hak, hnk, rfl, rfl, rfl, HI⟩ := hrel
    obtain ⟨done, i1, i2, i3⟩ := HI.out
    have H1 := Lib.hid (And.intro i1 i2)
    have HL := Lib.hid i3
    have hzw := i2.below.size
    clear HI i1 i2 i3
    by_cases hlt : k < s.size
    · have hki : (k : Int) < (s.size : Int) := by omega
      have hk0 : (0 : Int) ≤ (k : Int) := by omega
      have hb : (bts s)[k]? = some ((s[k]'hlt).toNat : Int) := by
        have h2 : k < (bts s).length := by rw [bts_length]; exact hlt
        rw [List.getElem?_eq_getElem h2, ← bts_at s hlt]
        simp [List.getD, h2]
      have HS := Lib.hid (And.intro (rd_step (cur := part (bts s) a k) (i := k) hb) (part_snoc hb hak))
      by_cases h10 : (s[k]'hlt).toNat = 10
      · have d10 : (((s[k]'hlt).toNat : Int) != 10) = false := by simp; omega
        have hS2 := HS.out.1
        rw [if_pos (by omega)] at hS2
        have hpt : bts (s.extract a k) = part (bts s) a k := bts_part s a k
        have C1 := Lib.hid (rline_any (s.extract a k) (by rw [ByteArray.size_extract]; omega) wr)
        rw [hpt] at C1
        obtain ⟨o, ho⟩ : ∃ o, linP (part (bts s) a k) = o := ⟨_, rfl⟩
        rw [ho] at C1 hS2
        have HS3 := Lib.hid hS2
        have g1 : (a : Int) ≤ (k : Int) := by omega
        have g2 : (k : Int) ≤ (s.size : Int) := by omega
        have g3 : (0 : Int) ≤ (a : Int) := by omega
        clear hb h10 hS2 hpt ho HS
        go_wp2_with fail
        refine C1.out.mono ?_
        rintro e w2 ⟨⟨l, Al, cl, ho, rfl, how, -⟩ | ⟨ho, A2, n2, c2, rfl⟩, hb2⟩
        · subst ho
          have H2 := Lib.hid (And.intro (H1.out.2.later hb2) (own_base how H1.out.2.below.size))
          have hz2 := H2.out.1.below.size
          have HN := Lib.hid (show (done ++ [(l, k + 1)]) ++ rdL (part (bts s) (k + 1) (k + 1)) (k + 1) ((bts s).drop (k + 1)) = R by
            rw [← H1.out.1, HS3.out, part_nil]
            simp)
          obtain ⟨vs, hvs⟩ := H2.out.1.vs
          have HV := Lib.hid hvs
          clear hvs how hb2 C1 HS3
          go_wp2_with (at_builtin; refine wpList_push eltT HV.out.1 hz2 rfl rfl rfl rfl rfl rfl rfl (by unfold maxLen; omega) (by omega) ?_; intro A5 c5 w5 hp; have H5 := Lib.hid (H2.out.1.pushA HV.out H2.out.2 hp); clear hp)
          go_roundw
          case rel => exact ⟨k + 1, k + 1, n + 1, A5, c5, by omega, Nat.le_refl _, by omega, by go_num, by go_num, rfl, Lib.hid ⟨done ++ [(l, k + 1)], HN.out, by rw [List.map_append]; exact H5.out, lastE_snoc _ _⟩⟩
          case measure => simp [intOf]; omega
        · subst ho
          have H2 := Lib.hid (H1.out.2.later hb2)
          have HE := Lib.hid (show done = R by rw [← H1.out.1, HS3.out, List.append_nil])
          clear hb2 C1 HS3
          go_wp2_with fail
          go_ret2
          have hn : n = R.length := by rw [← HE.out, ← H2.out.la, List.length_map]
          subst hn
          have h9 := H2.out
          have h8 := HL.out
          rw [HE.out] at h9 h8
          exact ⟨A, c, by rw [h8]; rfl, h9.txts, h9.below⟩
      · have d10 : (((s[k]'hlt).toNat : Int) != 10) = true := by simp; omega
        have hS2 := HS.out.1
        rw [if_neg (by omega)] at hS2
        have HN := Lib.hid (show done ++ rdL (part (bts s) a (k + 1)) (k + 1) ((bts s).drop (k + 1)) = R by rw [← H1.out.1, hS2, HS.out.2])
        clear hb h10 hS2 HS
        go_wp2_with fail
        go_roundw
        case rel => exact ⟨k + 1, a, n, A, c, by omega, by omega, by omega, by go_num, rfl, rfl, Lib.hid ⟨done, HN.out, H1.out.2, HL.out⟩⟩
        case measure => simp [intOf]; omega
    · obtain rfl : k = s.size := by omega
      have hd : decide ((s.size : Int) < (s.size : Int)) = false := by simp
      have HE := Lib.hid (show done = R by
        rw [← H1.out.1, List.drop_eq_nil_of_le (by rw [bts_length]; exact Nat.le_refl _)]
        exact (List.append_nil _).symm)
      go_wp2_with fail
      go_ret2
      have hn : n = R.length := by rw [← HE.out, ← H1.out.2.la, List.length_map]
      subst hn
      have h9 := H1.out.2
      have h8 := HL.out
      rw [HE.out] at h9 h8
      exact ⟨A, c, by rw [h8]; rfl, h9.txts, h9.below⟩
end Go.Proofs.YtfnieoffgnnldaaDoor
