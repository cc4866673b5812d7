/- script: what the library's Cut, CutPrefix and TrimSuffix tell. -/
import Derived.Test.YtjkhkohlejkdlaaDoorScO
import Derived.Shelf.Strings.Prefix
import Derived.Shelf.Strings.Search1
import Derived.Shelf.Small.Wraps
namespace Go.Proofs
open Go.Shelf
shelf_lay Lays.n217 Nm 217 at Tryd as YtjkhkohlejkdlaaDoor.litebL
shelf_lay Lays.n103 Nm 103 at Tryd as YtjkhkohlejkdlaaDoor.cutpL
shelf_lay Lays.n102 Nm 102 at Tryd as YtjkhkohlejkdlaaDoor.trimL
end Go.Proofs
namespace Go.Proofs.YtjkhkohlejkdlaaDoor
open Go.RowKit Go.Shelf
set_option linter.unusedVariables false
set_option linter.unusedSimpArgs false

/-- Where a text's first byte of a kind stands. -/
def fnd (c : UInt8) (l : List UInt8) : Nat := (l.takeWhile (fun x => decide (x.toNat ≠ c.toNat))).length
theorem fnd_spc (l : List UInt8) : fnd 32 l = spc l := rfl
theorem fnd_le (c : UInt8) (l : List UInt8) : fnd c l ≤ l.length := by
  unfold fnd
  exact (List.takeWhile_prefix _).length_le
theorem ib_fnd (c : UInt8) : ∀ l : List UInt8, Lib.indexByte l c = if fnd c l < l.length then (fnd c l : Int) else -1
  | [] => rfl
  | b :: t => by
    have ih := ib_fnd c t
    have hle := fnd_le c t
    show (if b == c then 0 else if Lib.indexByte t c == -1 then -1 else Lib.indexByte t c + 1) = _
    by_cases h : b = c
    · subst h
      have : fnd b (b :: t) = 0 := by unfold fnd; rw [List.takeWhile_cons_of_neg (by simp)]; rfl
      rw [if_pos (by simp), this, if_pos (by simp)]
      rfl
    · have hn : b.toNat ≠ c.toNat := fun e => h (UInt8.toNat_inj.1 e)
      have : fnd c (b :: t) = fnd c t + 1 := by unfold fnd; rw [List.takeWhile_cons_of_pos (by simpa using hn)]; rfl
      rw [if_neg (by simpa using h)]
      by_cases hl : fnd c t < t.length
      · have e1 : Lib.indexByte t c = (fnd c t : Int) := by rw [ih, if_pos hl]
        rw [e1, if_neg (by rw [beq_iff_eq]; omega), this, List.length_cons, if_pos (by omega)]
        rfl
      · have e1 : Lib.indexByte t c = -1 := by rw [ih, if_neg hl]
        rw [e1, if_pos (by decide), this, List.length_cons, if_neg (by omega)]
theorem pre_is (l p : List UInt8) : Lib.hasPrefix l p = preB l p := by
  unfold Lib.hasPrefix preB
  rw [Bool.eq_iff_iff, List.isPrefixOf_iff_prefix, Bool.and_eq_true, beq_iff_eq, decide_eq_true_eq]
  constructor
  · rintro ⟨t, rfl⟩
    exact ⟨by simp, by simp⟩
  · rintro ⟨h1, h2⟩
    exact ⟨l.drop p.length, by rw [← h2]; simp [h1]⟩
theorem cutpre_any (s p : ByteArray) (w : World) : Calls Tryd.prog 29 #[.string s, .string p] w fun e w' => e = .returned (.tuple #[.string (ba (if preB s.data.toList p.data.toList then s.data.toList.drop p.data.toList.length else s.data.toList)), .bool (preB s.data.toList p.data.toList)]) ∧ w = w' := by
  refine (Any.strings_CutPrefix cutpL s p w).mono ?_
  rintro e w' ⟨rfl, rfl⟩
  refine ⟨?_, rfl⟩
  unfold Lib.trimPrefix
  rw [pre_is]
  rfl
theorem trim_any (s p : ByteArray) (hs : s.size ≤ 1000000) (w : World) : Calls Tryd.prog 18 #[.string s, .string p] w fun e w' => e = .returned (.string (ba (Lib.trimSuffix s.data.toList p.data.toList))) ∧ w = w' := by
  refine (Any.strings_TrimSuffix trimL s p w (by omega)).mono ?_
  rintro e w' ⟨rfl, rfl⟩
  exact ⟨rfl, rfl⟩
theorem liteb_any (s : ByteArray) (c : UInt8) (w : World) : Calls Tryd.prog 39 #[.string s, .int .u8 (c.toNat : Int)] w fun e w' => e = .returned (.int .i64 (if fnd c s.data.toList < s.data.toList.length then (fnd c s.data.toList : Int) else -1)) ∧ w = w' := by
  refine (Any.stringslite_IndexByte litebL s c.toNat w).mono ?_
  rintro e w' ⟨rfl, rfl⟩
  refine ⟨?_, rfl⟩
  rw [show ((c.toNat : Int)).toNat.toUInt8 = c by simp, ib_fnd]
theorem idxb_any (s : ByteArray) (c : UInt8) (w : World) : Calls Tryd.prog 28 #[.string s, .int .u8 (c.toNat : Int)] w fun e w' => e = .returned (.int .i64 (if fnd c s.data.toList < s.data.toList.length then (fnd c s.data.toList : Int) else -1)) ∧ w = w' := by
  refine (Any.strings_IndexByte idxbL s c.toNat w).mono ?_
  rintro e w' ⟨rfl, rfl⟩
  refine ⟨?_, rfl⟩
  rw [show ((c.toNat : Int)).toNat.toUInt8 = c by simp, ib_fnd]
/-- Index at one space. -/
theorem index_any (s : ByteArray) (w : World) : Calls Tryd.prog 48 #[.string s, .string ⟨#[32]⟩] w fun e w' => e = .returned (.int .i64 (if spc s.data.toList < s.data.toList.length then (spc s.data.toList : Int) else -1)) ∧ w = w' := by
  have C := Lib.hid (liteb_any s 32 w)
  rw [fnd_spc] at C
  rw [show (((32 : UInt8).toNat : Nat) : Int) = 32 from rfl] at C
  by_cases h : s.data.toList = [32]
  · have e1 : ([32] == s.toList) = true := by rw [ByteArray.toList_eq, h]; rfl
    rw [h]
    clear C h
    go_enter Tryd.func48, Tryd.ntmps48
    go_wp2_with fail
    go_ret
    exact ⟨rfl, rfl⟩
  · have e1 : ([32] == s.toList) = false := by rw [ByteArray.toList_eq, beq_eq_false_iff_ne]; exact fun e => h e.symm
    obtain ⟨v, hv⟩ : ∃ v, (if spc s.data.toList < s.data.toList.length then (spc s.data.toList : Int) else -1) = v := ⟨_, rfl⟩
    rw [hv] at C ⊢
    clear hv h
    go_enter Tryd.func48, Tryd.ntmps48
    go_wp2_with fail
    refine C.out.mono ?_
    rintro e w1 ⟨rfl, rfl⟩
    go_wp2_with fail
    go_ret
    exact ⟨rfl, rfl⟩
theorem ba_all (s : ByteArray) : ba s.data.toList = s := rfl
set_option maxHeartbeats 1000000 in
theorem lcut_any (s : ByteArray) (hs : s.size ≤ 1000000) (w : World) : Calls Tryd.prog 42 #[.string s, .string ⟨#[32]⟩] w fun e w' => e = .returned (.tuple #[.string (ba (s.data.toList.take (spc s.data.toList))), .string (ba (s.data.toList.drop (spc s.data.toList + 1))), .bool (decide (spc s.data.toList < s.data.toList.length))]) ∧ ∃ k, w' = w.drewN k := by
  have hsz : s.data.toList.length = s.size := Array.length_toList
  have C := Lib.hid (index_any s w)
  have hle := spc_le s.data.toList
  have HX := Lib.hid (fun a b : Nat => ba_ext s a b)
  obtain ⟨q, hq⟩ : ∃ q, spc s.data.toList = q := ⟨_, rfl⟩
  rw [hq] at C hle ⊢
  rw [hsz] at C hle ⊢
  clear hq
  by_cases hlt : q < s.size
  · rw [if_pos hlt] at C
    rw [decide_eq_true hlt]
    have g0 : (0 : Int) ≤ (q : Int) := by omega
    have g1 : (q : Int) ≤ (s.size : Int) := by omega
    have g2 : (0 : Int) ≤ (q : Int) + 1 := by omega
    have g3 : (q : Int) + 1 ≤ (s.size : Int) := by omega
    have g4 : ((q : Int) + 1).toNat = q + 1 := by omega
    go_enter Tryd.func42, Tryd.ntmps42
    go_wp2_with fail
    refine C.out.mono ?_
    rintro e w1 ⟨rfl, rfl⟩
    clear C
    go_wp2
    go_quiet (fail)
    go_wp2
    go_ret3
    rw [HX.out, HX.out]
    have e9 : (List.drop (q + 1) s.data.toList).take (s.size - (q + 1)) = List.drop (q + 1) s.data.toList := List.take_of_length_le (by simp [hsz])
    rw [List.drop_zero, Nat.sub_zero, e9]
    exact ⟨rfl, _, rfl⟩
  · have hq2 : q = s.size := by omega
    rw [if_neg hlt] at C
    rw [decide_eq_false hlt, List.take_of_length_le (by omega), List.drop_eq_nil_of_le (by omega), ba_all]
    clear hlt hle hq2
    go_enter Tryd.func42, Tryd.ntmps42
    go_wp2_with fail
    refine C.out.mono ?_
    rintro e w1 ⟨rfl, rfl⟩
    clear C
    go_wp2
    go_ret3
    exact ⟨rfl, 0, rfl⟩
theorem cut_any (s : ByteArray) (hs : s.size ≤ 1000000) (w : World) : Calls Tryd.prog 31 #[.string s, .string ⟨#[32]⟩] w fun e w' => e = .returned (.tuple #[.string (ba (s.data.toList.take (spc s.data.toList))), .string (ba (s.data.toList.drop (spc s.data.toList + 1))), .bool (decide (spc s.data.toList < s.data.toList.length))]) ∧ ∃ k, w' = w.drewN k := by
  have C := Lib.hid (lcut_any s hs w)
  go_enter Tryd.func31, Tryd.ntmps31
  go_wp2_with fail
  refine C.out.mono ?_
  rintro e w1 ⟨rfl, k, rfl⟩
  go_wp2_with fail
  go_ret3
  exact ⟨rfl, k, rfl⟩
end Go.Proofs.YtjkhkohlejkdlaaDoor
