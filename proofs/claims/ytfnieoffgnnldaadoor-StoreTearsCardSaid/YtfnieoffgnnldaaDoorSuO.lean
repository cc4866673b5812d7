/- utf: the document's row at the beginning of bytes. -/
import Derived.Test.YtfnieoffgnnldaaDoorSuN
namespace Go.Proofs.YtfnieoffgnnldaaDoor
open Go.RowKit
set_option linter.unusedVariables false
set_option linter.unusedSimpArgs false

/-- The byte at place n goes on with the row. -/
def Cont (L : List Int) (n : Nat) : Prop := n < L.length ∧ (n : Int) < longI (L.getD 0 0) ∧ MayI (L.getD 0 0) n (L.getD n 0)

/-- What row tells of bytes. -/
def RowIs0 (L : List Int) (n : Nat) (wh : Bool) : Prop := n ≤ L.length ∧ (∀ j, j < n → Cont L j) ∧ ¬ Cont L n ∧ (wh = true ↔ 0 < n ∧ (n : Int) = longI (L.getD 0 0))
def RowSaid (L : List Int) (w : World) (e : Ending) (w' : World) : Prop :=
  ∃ (n : Nat) (wh : Bool), e = .returned (.tuple #[.int .i64 n, .bool wh]) ∧ RowIs0 L n wh ∧ ∃ k, w' = w.drewN k

theorem drewN_drewN (w : World) (a b : Nat) : ∃ k, (w.drewN a).drewN b = w.drewN k := by
  refine ⟨a + b, ?_⟩
  induction b with
  | zero => rfl
  | succ b ih => simp_all [World.drewN, Nat.add_assoc]

set_option maxHeartbeats 2000000 in
theorem row_said (s : ByteArray) (w : World) (hsz : s.size ≤ 1000000000) : Calls Tryd.prog 58 #[.string s] w (RowSaid (bts s) w) := by
  go_enter Tryd.func58, Tryd.ntmps58
  go_wp2
  go_loopw [4] (fun i wr => ∃ k : Nat, i = .int .i64 k ∧ k ≤ s.size ∧ (∀ j, j < k → Cont (bts s) j) ∧ ∃ q, wr = w.drewN q) (fun i _ => s.size - (intOf i).toNat)
  case atStart => exact ⟨0, rfl, Nat.zero_le _, fun j hj => absurd hj (by omega), 0, rfl⟩
  case round =>
    obtain ⟨k, rfl, hk, hc, q, rfl⟩ := hrel
    by_cases hlt : k < s.size
    · have h0 : 0 < s.size := by omega
      obtain ⟨r, hr, Hr⟩ := may_any s k hlt
      have HR := Lib.hid Hr
      have hc0 := bts_atN s 0 h0
      obtain ⟨c, hcc⟩ : ∃ c : Int, (s[0].toNat : Int) = c := ⟨_, rfl⟩
      rw [hcc] at hc0
      obtain ⟨lg, hlg⟩ : ∃ lg, decide ((k : Int) < longI c) = lg := ⟨_, rfl⟩
      have HC := Lib.hid (And.intro hc (And.intro hr hc0))
      clear Hr hr hc hc0
      cases lg
      · have HN := Lib.hid (show ¬ Cont (bts s) k from fun hh => by
          have h2 := hh.2.1
          rw [HC.out.2.2] at h2
          simp [h2] at hlg)
        go_wp2_with (first
          | (go_at_call 71; refine (long_any _ _).mono ?_; rintro e w1 ⟨rfl, rfl⟩)
          | (go_at_call 72; refine (HR.out _).mono ?_; rintro e w1 ⟨rfl, kq, rfl⟩))
        all_goals
          go_ret2
          refine ⟨k, _, rfl, ⟨by rw [bts_length]; exact hk, HC.out.1, HN.out, ?_⟩, _, rfl⟩
          rw [HC.out.2.2]
          simp
          try omega
      · cases r
        · have HN := Lib.hid (show ¬ Cont (bts s) k from fun hh => absurd (HC.out.2.1.2 hh.2.2) (by simp))
          go_wp2_with (first
            | (go_at_call 71; refine (long_any _ _).mono ?_; rintro e w1 ⟨rfl, rfl⟩)
            | (go_at_call 72; refine (HR.out _).mono ?_; rintro e w1 ⟨rfl, kq, rfl⟩))
          all_goals
            go_ret2
            refine ⟨k, _, rfl, ⟨by rw [bts_length]; exact hk, HC.out.1, HN.out, ?_⟩, _, rfl⟩
            rw [HC.out.2.2]
            simp
            try omega
        · have HN := Lib.hid (show Cont (bts s) k from ⟨by rw [bts_length]; exact hlt, by rw [HC.out.2.2]; simpa using hlg, HC.out.2.1.1 rfl⟩)
          go_wp2_with (first
            | (go_at_call 71; refine (long_any _ _).mono ?_; rintro e w1 ⟨rfl, rfl⟩)
            | (go_at_call 72; refine (HR.out _).mono ?_; rintro e w1 ⟨rfl, kq, rfl⟩))
          go_roundw
          case rel =>
            refine ⟨k + 1, by go_num, by omega, fun j hj => ?_, _, rfl⟩
            obtain hj | rfl : j < k ∨ j = k := by omega
            · exact HC.out.1 j hj
            · exact HN.out
          case measure => simp [intOf]; omega
    · obtain rfl : k = s.size := by omega
      have HC := Lib.hid hc
      clear hc
      have HN := Lib.hid (show ¬ Cont (bts s) s.size from fun hh => by
          have h2 := hh.1
          rw [bts_length] at h2
          omega)
      by_cases h0 : 0 < s.size
      · have hc0 := Lib.hid (bts_atN s 0 h0)
        obtain ⟨c, hcc⟩ : ∃ c : Int, (s[0].toNat : Int) = c := ⟨_, rfl⟩
        rw [hcc] at hc0
        go_wp2_with (go_at_call 71; refine (long_any _ _).mono ?_; rintro e w1 ⟨rfl, rfl⟩)
        go_ret2
        refine ⟨s.size, _, rfl, ⟨by rw [bts_length]; exact Nat.le_refl _, HC.out, HN.out, ?_⟩, _, rfl⟩
        rw [hc0.out]
        simp
        try omega
      · go_wp2_with (go_at_call 71; refine (long_any _ _).mono ?_; rintro e w1 ⟨rfl, rfl⟩)
        go_ret2
        refine ⟨s.size, _, rfl, ⟨by rw [bts_length]; exact Nat.le_refl _, HC.out, HN.out, ?_⟩, _, rfl⟩
        simp
        omega
end Go.Proofs.YtfnieoffgnnldaaDoor
