/- bind: the document's Look. -/
import Derived.Test.YtpdjkphjpjbhgaaDoorBindL
import Derived.Test.YtpdjkphjpjbhgaaDoorBindK
namespace Go.Proofs.YtpdjkphjpjbhgaaDoor
open Go.RowKit Go.Maps
set_option linter.unusedVariables false
set_option linter.unusedSimpArgs false

set_option maxHeartbeats 4000000 in
theorem reflook_any (A : Option Addr) (N c : Nat) (L : List (Stk × Int)) (w : World) (hN : L.length = N) (hr : OwnRd w A L) (hL : N ≤ 1000) (p : Bool) (k r : Int) (m : Bool) (hs : Wf (p, k, r, m)) :
    Calls Tryd.prog 11 #[.slice A N c, stk p k r m] w (Tells w (saidS L (p, k, r, m))) := by
  subst hN
  have hb0 := (Below.refl w.heap.size w).alloc (Nat.le_refl _) (.cells #[.bool p, .int .i64 k, .int .i32 r, .bool m] 31)
  have HR := Lib.hid (hr.later hb0)
  have HS := Lib.hid hs
  have H0 := Lib.hid hb0
  have HB0 := Lib.hid (blk_new w #[.bool p, .int .i64 k, .int .i32 r, .bool m] 31)
  obtain ⟨W0, hW0⟩ : ∃ W0, w.alloc (.cells #[.bool p, .int .i64 k, .int .i32 r, .bool m] 31) = W0 := ⟨_, rfl⟩
  rw [hW0] at HR H0 HB0
  have HW := Lib.hid hW0
  clear hr hs hb0 hW0
  go_enter Tryd.func11, Tryd.ntmps11
  go_wp2
  rw [HW.out]
  go_loopw [5] (fun i wr => ∃ n : Nat, n ≤ L.length ∧ i = .int .i64 ((n : Int) - 1) ∧ Hid (lastOf L (p, k, r, m) = lastOf (L.take n) (p, k, r, m)) ∧ Hid (Below W0.heap.size W0 wr)) (fun i _ => match i with | .int _ z => (z + 1).toNat | _ => 0)
  case atStart => exact ⟨L.length, Nat.le_refl _, by go_num, Lib.hid (by rw [List.take_length]), Lib.hid (Below.refl _ _)⟩
  case round =>
    obtain ⟨n, hn, rfl, HE, HB⟩ := hrel
    have HL := Lib.hid (H0.out.trans (HB.out.mono H0.out.size))
    obtain ⟨y, kk, j⟩ := (show Blk wr w.heap.size _ from HB0.out.later HB.out HB0.out.1)
    rcases n with _ | n
    · have hd : decide (((0 : Nat) : Int) - 1 ≥ 0) = false := by decide
      have C := Lib.hid (us_any (p, k, r, m) HS.out wr)
      have hlast : lastOf L (p, k, r, m) = none := by rw [HE.out]; rfl
      have HZ := Lib.hid hlast
      clear hlast hd
      rw [show ((0 : Nat) : Int) - 1 = -1 by rfl]
      go_wp2_with fail
      (with_reducible refine C.out.mono ?_)
      rintro e w2 ⟨rfl, hb2⟩
      go_wp2
      go_ret
      exact ⟨by unfold saidS; rw [HZ.out]; rfl, HL.out.trans (hb2.mono HL.out.size)⟩
    · obtain ⟨b, o, s, cm, rfl, hLn, hws, hwc, a0, a1, a2, a3, a4⟩ := HR.out.later HB.out n hn
      have hnl : n < L.length := hn
      obtain ⟨p', k', r', m'⟩ := s
      have hq := eql_ref p' k' r' m' p k r m
      have ht := lastOf_take hLn (p, k, r, m)
      have i0 : (0 : Int) ≤ (n : Int) := by omega
      have i1 : (n : Int) < (L.length : Int) := by omega
      rw [show (((n + 1 : Nat)) : Int) - 1 = (n : Int) by omega]
      by_cases he : (p', k', r', m') = (p, k, r, m)
      · obtain ⟨rfl, rfl, rfl, rfl⟩ : p' = p ∧ k' = k ∧ r' = r ∧ m' = m := by simpa using he
        simp only [and_self, decide_true] at hq
        rw [if_pos rfl] at ht
        have HZ := Lib.hid (HE.out.trans ht)
        clear ht he hLn hn
        go_wp2
        go_quiet (fail)
        go_wp2
        go_ret
        exact ⟨by unfold saidS; rw [HZ.out]; rfl, below_drewN HL.out _⟩
      · have hne : decide (p' = p ∧ k' = k ∧ r' = r ∧ m' = m) = false := decide_eq_false (fun ⟨h1, h2, h3, h4⟩ => he (by rw [h1, h2, h3, h4]))
        rw [hne] at hq
        rw [if_neg he] at ht
        have HZ := Lib.hid (HE.out.trans ht)
        clear ht he hLn hn hne
        go_wp2
        go_quiet (fail)
        go_wp2
        go_roundw
        case rel => exact ⟨n, by omega, by go_num, HZ, Lib.hid (below_drewN HB.out _)⟩
        case measure => simp
end Go.Proofs.YtpdjkphjpjbhgaaDoor
