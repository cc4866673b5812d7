/- grid: the law's Same. -/
import Derived.Test.YtmckoabhgjfiiaaGwI

namespace Go.Proofs.Ytmckoabhgjfiiaa

open Go.RowKit

set_option linter.unusedVariables false

set_option linter.unusedSimpArgs false

theorem lawsame_nil (w : World) : Calls Try.prog 11 #[.pointer none, .slice none 0 0] w fun e w' => e = .returned (.bool true) ∧ w = w' := by
  go_enter Try.func11, Try.ntmps11
  go_wp2_with (go_at_call 17; refine (size_nil _).mono ?_; rintro e w1 ⟨rfl, rfl⟩)
  go_loopw [7] (fun i wr => i = .int .i64 0 ∧ wr = w) (fun _ _ => 0)
  case atStart => exact ⟨rfl, rfl⟩
  case round =>
    obtain ⟨rfl, rfl⟩ := hrel
    go_wp2
    go_ret
    exact ⟨rfl, rfl⟩

set_option maxHeartbeats 2000000 in
set_option maxRecDepth 100000 in
theorem lawsame_any {w : World} {lo hi g cb C R n lo' hi' ob Co : Nat} {rb Cr : Nat → Nat} {F : Nat → Nat → Cl} (h : PG w lo hi g cb C R n F) (h' : RG w lo' hi' ob Co R n rb Cr F) :
    Calls Try.prog 11 #[ptr g, gv ob R Co] w fun e w' => e = .returned (.bool true) ∧ Below w.heap.size w w' := by
  have hR := h.r2
  have hR1 := h.r1
  have hn := h.n2
  have hcap := h'.cap
  have hcr := h'.caps 0 hR1
  have l0 := h'.out 0 hR1
  have S1 := Lib.hid (size_any h)
  have H := Lib.hid (And.intro h h')
  have e1 : (((R : Int) == (R : Int))) = true := by simp
  have e2 : (((R : Int) != (R : Int))) = false := by simp
  have e3 : (((n : Int) == (n : Int))) = true := by simp
  have e4 : (((n : Int) != (n : Int))) = false := by simp
  have e5 : (0 : Int) < (R : Int) := by omega
  clear h h'
  go_enter Try.func11, Try.ntmps11
  go_wp2_with fail
  refine S1.out.mono ?_
  rintro e w1 ⟨rfl, q, rfl⟩
  go_wp2_with fail
  clear l0 hcr e5
  go_loopw [7] (fun i wr => ∃ k : Nat, k ≤ R ∧ i = .int .i64 k ∧ Hid (Below w.heap.size w wr)) (fun i _ => R - (intOf i).toNat)
  case atStart => exact ⟨0, Nat.zero_le _, rfl, below_drewN (Below.refl _ _) q⟩
  case round =>
    obtain ⟨k, hk, rfl, HW⟩ := hrel
    by_cases hlt : k < R
    · have HK := Lib.hid (rowof_in (H.out.1.later HW.out) hlt)
      go_wp2_with fail
      refine HK.out.mono ?_
      rintro e w1 ⟨b, c, cs, rfl, hx⟩
      have HX := Lib.hid hx
      clear hx HK
      obtain ⟨cs2, b2, s2, i2⟩ := H.out.2.rows k hlt
      have hW1 := Lib.hid (HW.out.trans (HX.out.2.2.2.2.2.2.mono HW.out.size))
      have L1 := Lib.hid (H.out.2.out k hlt)
      have L2 := Lib.hid (And.intro b2 i2)
      obtain ⟨rk, hrk⟩ : ∃ rk, rb k = rk := ⟨_, rfl⟩
      obtain ⟨ck, hck⟩ : ∃ ck, Cr k = ck := ⟨_, rfl⟩
      rw [hrk, hck] at L1
      rw [hrk] at L2
      have hc1 := HX.out.2.2.2.2.1
      have hc2 := HX.out.2.2.2.2.2.1
      have hc3 := (H.out.2.caps k hlt)
      rw [hck] at hc3
      obtain ⟨G, hG⟩ : ∃ G, F k = G := ⟨_, rfl⟩
      have I1 := HX.out.2.2.2.1
      rw [hG] at I1 L2
      have HI := Lib.hid I1
      clear hrk hck hG b2 s2 i2 I1
      go_wp2_with fail
      go_loopw [9] (fun i wr => ∃ c : Nat, c ≤ n ∧ i = .int .i64 c ∧ ∃ q, wr = w1.drewN q) (fun i _ => n - (intOf i).toNat)
      case atStart => exact ⟨0, Nat.zero_le _, rfl, 0, rfl⟩
      case round =>
        obtain ⟨j, hj, rfl, q, rfl⟩ := hrel
        by_cases hlj : j < n
        · have l1 := ((hW1.out.cell (p := ⟨ob, k, none⟩) H.out.2.o0).trans L1.out)
          have l2 := (HX.out.2.1.2.1 _).trans (HI.out j hlj).1
          have l3 := (HX.out.2.1.2.1 _).trans (HI.out j hlj).2
          have l4 := ((L2.out.1.later hW1.out L2.out.1.1).2.1 _).trans (L2.out.2 j hlj).1
          have l5 := ((L2.out.1.later hW1.out L2.out.1.1).2.1 _).trans (L2.out.2 j hlj).2
          simp only [Nat.zero_add] at l2 l3 l4 l5
          obtain ⟨u, hu⟩ : ∃ u, G j = u := ⟨_, rfl⟩
          rw [hu] at l2 l3 l4 l5
          clear hu
          have d1 : (u.1.toList == u.1.toList) = true := by simp
          have d2 : (u.1.toList != u.1.toList) = false := by simp
          have d3 : (u.2 == u.2) = true := by simp
          have d4 : (u.2 != u.2) = false := by simp
          go_wp2_with fail
          go_quiet (fail)
          go_wp2_with fail
          go_roundw
          case rel => exact ⟨j + 1, by omega, by go_num, _, rfl⟩
          case measure => simp [intOf]; omega
        · obtain rfl : j = n := by omega
          go_wp2_with fail
          go_roundw
          case rel => exact ⟨k + 1, by omega, by go_num, below_drewN hW1.out q⟩
          case measure => simp [intOf]; omega
    · go_wp2_with fail
      go_ret
      exact ⟨rfl, HW.out⟩
end Go.Proofs.Ytmckoabhgjfiiaa
