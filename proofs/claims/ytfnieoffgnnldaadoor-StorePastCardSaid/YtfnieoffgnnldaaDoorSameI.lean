/- Same of two texts. -/
import Derived.Test.YtfnieoffgnnldaaDoorSame
import Derived.Test.YtfnieoffgnnldaaDoorSlE
import Derived.Test.YtfnieoffgnnldaaDoorTxt
namespace Go.Proofs.YtfnieoffgnnldaaDoor
open Go.RowKit
set_option linter.unusedVariables false
set_option linter.unusedSimpArgs false

theorem agree_is (l m : List Int) (h : l.length = m.length) : agree (fun j => l.getD j 0) (fun j => m.getD j 0) l.length = decide (l = m) := by
  rw [Bool.eq_iff_iff, decide_eq_true_iff]
  unfold agree
  rw [List.all_eq_true]
  constructor
  · intro hh
    apply List.ext_getElem h
    intro i h1 h2
    have := hh i (List.mem_range.2 h1)
    simpa [List.getD, h1, h2] using this
  · rintro rfl j hj
    simp

set_option maxHeartbeats 1000000 in
theorem sameq_at (A B : Option Addr) (n c d : Nat) (p q : Nat → Int) (w : World) (hn : n ≤ 9223372036854775807) (hA : Rd w A n (iv p)) (hB : Rd w B n (iv q)) :
    Calls Tryd.prog 34 #[.slice A n c, .slice B n d] w fun e w' => e = .returned (.bool (agree p q n)) ∧ ∃ r, w' = w.drewN r := by
  have h1 : (((n : Int) == (n : Int))) = true := by simp
  have h2 : (((n : Int) != (n : Int))) = false := by simp
  go_enter Tryd.func34, Tryd.ntmps34
  go_wp2
  go_loopw [5] (fun i wr => ∃ k : Nat, k ≤ n ∧ i = .int .i64 k ∧ Hid (∀ j, j < k → p j = q j) ∧ ∃ r, wr = w.drewN r) (fun i _ => n - (intOf i).toNat)
  case atStart => exact ⟨0, Nat.zero_le _, rfl, fun j h => absurd h (by omega), 0, rfl⟩
  case round =>
    obtain ⟨k, hk, rfl, HE, r, rfl⟩ := hrel
    by_cases hlt : k < n
    · obtain ⟨a, i, rfl, _, ha⟩ := hA k hlt
      obtain ⟨b, j, rfl, _, hb⟩ := hB k hlt
      unfold iv at ha hb
      by_cases he : p k = q k
      · have h3 : ((p k == q k)) = true := by simp [he]
        have h4 : ((p k != q k)) = false := by simp [he]
        have H4 := Lib.hid he
        clear hA hB he
        go_wp2
        go_quiet (fail)
        go_wp2
        go_roundw
        case rel => exact ⟨k + 1, by omega, by go_num, fun j hj => (by by_cases e : j = k; (· subst e; exact H4.out); (· exact HE.out j (by omega))), _, rfl⟩
        case measure => simp [intOf]; omega
      · have h3 : ((p k == q k)) = false := by simp [he]
        have h4 : ((p k != q k)) = true := by simp [he]
        have hf : agree p q n = false := by
          rw [Bool.eq_false_iff]
          intro h
          exact he (by simpa using List.all_eq_true.1 h k (List.mem_range.2 hlt))
        have HF := Lib.hid hf
        clear hA hB hf
        go_wp2
        go_quiet (fail)
        go_wp2
        go_ret
        rw [HF.out]
        exact ⟨rfl, _, World.drewN_drewN _ _ _⟩
    · have ht : agree p q n = true := List.all_eq_true.2 fun j hj => by simpa using HE.out j (by have := List.mem_range.1 hj; omega)
      have HT := Lib.hid ht
      clear ht
      go_wp2
      go_ret
      rw [HT.out]
      exact ⟨rfl, _, rfl⟩

theorem same_is (u v : Value) (l m : List Int) (w : World) (hu : Txt w u l) (hv : Txt w v m) : Calls Tryd.prog 34 #[u, v] w fun e w' => e = .returned (.bool (decide (l = m))) ∧ ∃ k, w' = w.drewN k := by
  obtain ⟨A, c, rfl, hA, _, h1, h2, _⟩ := hu
  obtain ⟨B, d, rfl, hB, _, h3, h4, _⟩ := hv
  unfold maxLen at h2 h4
  by_cases h : l.length = m.length
  · rw [← agree_is l m h, ← h]
    exact sameq_at A B l.length c d (fun j => l.getD j 0) (fun j => m.getD j 0) w (by omega) hA (by rw [h]; exact hB)
  · rw [show decide (l = m) = false from decide_eq_false (fun e => h (by rw [e]))]
    exact (same_no A B l.length m.length c d w (by omega) (by omega) h).mono fun e w' hh => ⟨hh.1, 0, hh.2.symm⟩

end Go.Proofs.YtfnieoffgnnldaaDoor
