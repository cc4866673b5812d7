/- script: the document's number. -/
import Derived.Test.YtjkhkohlejkdlaaDoorScB
namespace Go.Proofs.YtjkhkohlejkdlaaDoor
open Go.RowKit
set_option linter.unusedVariables false
set_option linter.unusedSimpArgs false

/-- A text's number, behind a number; none: it is none. -/
def numL : Nat → List UInt8 → Option Nat
  | n, [] => some n
  | n, c :: t => if 48 ≤ c.toNat ∧ c.toNat ≤ 57 then numL (n * 10 + (c.toNat - 48)) t else none
def numO (l : List UInt8) : Option Nat := if l.length < 1 ∨ 4 < l.length ∨ ((l.getD 0 0).toNat = 48 ∧ 1 < l.length) then none else numL 0 l
def numI (o : Option Nat) : Int := match o with
  | some n => (n : Int)
  | none => -1
theorem numL_yes {l : List UInt8} {n j : Nat} {c : UInt8} (h : l[j]? = some c) (hc : 48 ≤ c.toNat ∧ c.toNat ≤ 57) : numL n (l.drop j) = numL (n * 10 + (c.toNat - 48)) (l.drop (j + 1)) := by
  obtain ⟨hj, e⟩ := List.getElem?_eq_some_iff.1 h
  rw [List.drop_eq_getElem_cons hj, e]
  show (if _ then _ else _) = _
  rw [if_pos hc]
theorem numL_no {l : List UInt8} {n j : Nat} {c : UInt8} (h : l[j]? = some c) (hc : ¬ (48 ≤ c.toNat ∧ c.toNat ≤ 57)) : numL n (l.drop j) = none := by
  obtain ⟨hj, e⟩ := List.getElem?_eq_some_iff.1 h
  rw [List.drop_eq_getElem_cons hj, e]
  show (if _ then _ else _) = _
  rw [if_neg hc]
theorem byte_at (s : ByteArray) {k : Nat} (h : k < s.size) : s.data.toList[k]? = some (s[k]'h) := by
  have h2 : k < s.data.toList.length := by rw [Array.length_toList]; exact h
  rw [List.getElem?_eq_getElem h2]
  rfl
set_option maxHeartbeats 2000000 in
theorem rnumber_any (s : ByteArray) (hs : s.size ≤ 1000000) (w : World) : Calls Tryd.prog 35 #[.string s] w fun e w' => e = .returned (.int .i64 (numI (numO s.data.toList))) ∧ w = w' := by
  have hsz : s.data.toList.length = s.size := Array.length_toList
  obtain ⟨R, hR⟩ : ∃ R, numO s.data.toList = R := ⟨_, rfl⟩
  rw [hR]
  by_cases h1 : s.size < 1
  · obtain rfl : R = none := by rw [← hR]; unfold numO; rw [if_pos (.inl (by omega))]
    have d1 : (s.size : Int) < 1 := by omega
    clear hR
    go_enter Tryd.func35, Tryd.ntmps35
    go_wp2
    go_ret
    exact ⟨rfl, rfl⟩
  · have d1 : ¬ (s.size : Int) < 1 := by omega
    by_cases h4 : 4 < s.size
    · obtain rfl : R = none := by rw [← hR]; unfold numO; rw [if_pos (.inr (.inl (by omega)))]
      have d2 : (4 : Int) < (s.size : Int) := by omega
      clear hR
      go_enter Tryd.func35, Tryd.ntmps35
      go_wp2
      go_ret
      exact ⟨rfl, rfl⟩
    · have d2 : ¬ (4 : Int) < (s.size : Int) := by omega
      have h0 : 0 < s.size := by omega
      have d0 : (0 : Int) < (s.size : Int) := by omega
      by_cases hz : (s[0]'h0).toNat = 48 ∧ 1 < s.size
      · obtain ⟨z1, z2⟩ := hz
        obtain rfl : R = none := by
          rw [← hR]; unfold numO
          rw [if_pos (.inr (.inr ⟨by rw [byte_is s h0]; exact z1, by omega⟩))]
        have d3 : (1 : Int) < (s.size : Int) := by omega
        have d4 : ((s[0]'h0).toNat : Int) = 48 := by omega
        have d5 : (((s[0]'h0).toNat : Int) == 48) = true := by simp [d4]
        clear hR
        go_enter Tryd.func35, Tryd.ntmps35
        go_wp2
        go_ret
        exact ⟨rfl, rfl⟩
      · have HR := Lib.hid (show numL 0 (s.data.toList.drop 0) = R by
          rw [← hR]; unfold numO
          rw [if_neg (by rw [hsz, byte_is s h0]; omega)]; rfl)
        have hor : (s[0]'h0).toNat ≠ 48 ∨ ((s[0]'h0).toNat = 48 ∧ ¬ 1 < s.size) := by omega
        clear hR hz
        go_enter Tryd.func35, Tryd.ntmps35
        go_upto_region 1 with fail
        go_cut [22] (fun x wx => x = .bool false ∧ w = wx)
        case first =>
          rcases hor with h | ⟨h, h2⟩
          · have d5 : (((s[0]'h0).toNat : Int) == 48) = false := by simp; omega
            go_wp2_with fail
            go_meet
            exact ⟨rfl, rfl⟩
          · have d5 : (((s[0]'h0).toNat : Int) == 48) = true := by simp; omega
            have d3 : ¬ (1 : Int) < (s.size : Int) := by omega
            go_wp2_with fail
            go_meet
            exact ⟨rfl, rfl⟩
        case rest =>
          obtain ⟨rfl, rfl⟩ := hcut
          clear hor
          go_wp2
          go_loopw [3, 4] (fun n i wr => ∃ j m : Nat, j ≤ s.size ∧ n = .int .i64 (m : Nat) ∧ i = .int .i64 (j : Nat) ∧ m + 1 ≤ 10 ^ j ∧ Hid (numL m (s.data.toList.drop j) = R) ∧ w = wr) (fun _ i _ => s.size - (intOf i).toNat)
          case atStart => exact ⟨0, 0, Nat.zero_le _, rfl, rfl, Nat.le_refl _, HR, rfl⟩
          case round =>
            obtain ⟨j, m, hj, rfl, rfl, hm, HJ, rfl⟩ := hrel
            by_cases hlt : j < s.size
            · have hji : (j : Int) < (s.size : Int) := by omega
              have hj0 : (0 : Int) ≤ (j : Int) := by omega
              have HB := Lib.hid (byte_at s hlt)
              have hj4 : 10 ^ j ≤ 10 ^ 3 := Nat.pow_le_pow_right (by decide) (by omega)
              have hm4 : m ≤ 999 := by omega
              have hpow : 10 ^ (j + 1) = 10 ^ j * 10 := Nat.pow_succ ..
              by_cases hd : 48 ≤ (s[j]'hlt).toNat ∧ (s[j]'hlt).toNat ≤ 57
              · have HN := Lib.hid (show numL (m * 10 + ((s[j]'hlt).toNat - 48)) (s.data.toList.drop (j + 1)) = R by rw [← numL_yes HB.out hd]; exact HJ.out)
                obtain ⟨e1, e2⟩ := hd
                obtain ⟨d, hd⟩ : ∃ d : Nat, (s[j]'hlt).toNat - 48 = d := ⟨_, rfl⟩
                have f1 : ¬ ((s[j]'hlt).toNat : Int) < 48 := by omega
                have f2 : ¬ (57 : Int) < ((s[j]'hlt).toNat : Int) := by omega
                have f3 : ((s[j]'hlt).toNat : Int) - 48 = (d : Int) := by omega
                have f4 : IntKind.u8.wrap (d : Int) = (d : Int) := IntWalk.u8_in _ (by omega)
                have f5 : IntKind.i64.wrap (d : Int) = (d : Int) := IntWalk.i64_in _ (by omega)
                rw [hd] at HN
                have hmul : m * 10 = 10 * m := Nat.mul_comm _ _
                clear e1 e2 hd
                go_wp2
                go_roundw
                case rel => exact ⟨j + 1, m * 10 + d, by omega, by go_num, by go_num, by omega, HN, trivial⟩
                case measure => simp [intOf]; omega
              · obtain rfl : R = none := by rw [← HJ.out]; exact numL_no HB.out hd
                by_cases e1 : (s[j]'hlt).toNat < 48
                · have f1 : ((s[j]'hlt).toNat : Int) < 48 := by omega
                  clear hd
                  go_wp2
                  go_ret
                  exact ⟨rfl, rfl⟩
                · have f1 : ¬ ((s[j]'hlt).toNat : Int) < 48 := by omega
                  have f2 : (57 : Int) < ((s[j]'hlt).toNat : Int) := by omega
                  clear hd
                  go_wp2
                  go_ret
                  exact ⟨rfl, rfl⟩
            · obtain rfl : j = s.size := by omega
              obtain rfl : R = some m := by rw [← HJ.out, List.drop_eq_nil_of_le (by omega)]; rfl
              have hd : decide ((s.size : Int) < (s.size : Int)) = false := by simp
              go_wp2
              go_ret
              exact ⟨rfl, rfl⟩
end Go.Proofs.YtjkhkohlejkdlaaDoor
