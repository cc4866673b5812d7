/- grid: '==' on cells; Same. -/
import Derived.Test.YtednedklkbjihaaGdD

namespace Go.Proofs.Ytednedklkbjihaa

open Go.RowKit

set_option linter.unusedVariables false

set_option linter.unusedSimpArgs false

theorem eq_cl (a b : Cl) (w : World) : (Op.equalIn 10000 51 (clV a) (clV b)).run Try.prog w = .ok (decide (a = b)) w := by
  rw [show (10000 : Nat) = 9999 + 1 from rfl, run_equalIn_agg w 9999 51 _ _ (by kernel_rfl) (by kernel_rfl)]
  simp only [Program.fieldsOf, Try.underlying51]
  have u3 := Try.underlying3
  have u4 := Try.underlying9
  have a3 := Try.isAgg3
  have a4 := Try.isAgg9
  have z3 := Try.sizeOf3
  have z4 := Try.sizeOf9
  obtain ⟨s, n⟩ := a
  obtain ⟨s', n'⟩ := b
  go_simp
  have ht : s.toList = s'.toList ↔ s = s' := by rw [ByteArray.toList_eq, ByteArray.toList_eq]; exact ⟨WideShapes.bytes_inj, fun e => e ▸ rfl⟩
  by_cases h1 : s = s' <;> by_cases h2 : n = n' <;> simp [ht, h1, h2]
theorem eql_cl (a b : Cl) (w : World) : (Go.binOp .eql 51 (clV a) (clV b)).run Try.prog w = .ok (.bool (decide (a = b))) w := by
  rw [run_eql_struct, eq_cl]
  rfl
theorem neq_cl (a b : Cl) (w : World) : (Go.binOp .neq 51 (clV a) (clV b)).run Try.prog w = .ok (.bool (!decide (a = b))) w := by
  rw [run_neq_struct, eq_cl]
  rfl
theorem eq_clR (a b : Cl) (w : World) : (Op.equalIn 10000 55 (clV a) (clV b)).run Try.prog w = .ok (decide (a = b)) w := by
  rw [show (10000 : Nat) = 9999 + 1 from rfl, run_equalIn_agg w 9999 55 _ _ (by kernel_rfl) (by kernel_rfl)]
  simp only [Program.fieldsOf, Try.underlying55]
  have u3 := Try.underlying3
  have u4 := Try.underlying9
  have a3 := Try.isAgg3
  have a4 := Try.isAgg9
  have z3 := Try.sizeOf3
  have z4 := Try.sizeOf9
  obtain ⟨s, n⟩ := a
  obtain ⟨s', n'⟩ := b
  go_simp
  have ht : s.toList = s'.toList ↔ s = s' := by rw [ByteArray.toList_eq, ByteArray.toList_eq]; exact ⟨WideShapes.bytes_inj, fun e => e ▸ rfl⟩
  by_cases h1 : s = s' <;> by_cases h2 : n = n' <;> simp [ht, h1, h2]
theorem neq_clR (a b : Cl) (w : World) : (Go.binOp .neq 55 (clV a) (clV b)).run Try.prog w = .ok (.bool (!decide (a = b))) w := by
  rw [run_neq_struct, eq_clR]
  rfl

/-- Two rows, two grids, the same? -/
def agreeR (G H : Nat → Cl) (n : Nat) : Bool := (List.range n).all fun c => decide (G c = H c)
def agreeG (F H : Nat → Nat → Cl) (R n : Nat) : Bool := (List.range R).all fun r => agreeR (F r) (H r) n
theorem agreeR_yes {G H : Nat → Cl} {n : Nat} : agreeR G H n = true ↔ ∀ c, c < n → G c = H c := by simp [agreeR]
theorem agreeG_yes {F H : Nat → Nat → Cl} {R n : Nat} : agreeG F H R n = true ↔ ∀ r, r < R → agreeR (F r) (H r) n = true := by simp [agreeG]
theorem agreeR_no {G H : Nat → Cl} {n c : Nat} (hc : c < n) (h : G c ≠ H c) : agreeR G H n = false := by
  rw [Bool.eq_false_iff]; intro e; exact h (agreeR_yes.1 e c hc)
theorem agreeG_no {F H : Nat → Nat → Cl} {R n r : Nat} (hr : r < R) (h : agreeR (F r) (H r) n = false) : agreeG F H R n = false := by
  rw [Bool.eq_false_iff]; intro e; rw [agreeG_yes.1 e r hr] at h; cases h

theorem same_nil (w : World) : Calls Try.prog 7 #[.pointer none, .pointer none] w fun e w' => e = .returned (.bool true) ∧ ∃ q, w' = w.drewN q := by
  go_enter Try.func7, Try.ntmps7
  go_wp2_with (go_at_call 14; refine (size_nil _).mono ?_; rintro e w1 ⟨rfl, rfl⟩)
  go_loopw [32] (fun i wr => i = .int .i64 0 ∧ ∃ q, wr = w.drewN q) (fun _ _ => 0)
  case atStart => exact ⟨rfl, 0, rfl⟩
  case round =>
    obtain ⟨rfl, q, rfl⟩ := hrel
    go_wp2
    go_ret
    exact ⟨rfl, q, rfl⟩

theorem same_gnil {w : World} {lo hi g cb C R n : Nat} {F : Nat → Nat → Cl} (h : PG w lo hi g cb C R n F) : Calls Try.prog 7 #[ptr g, .pointer none] w fun e w' => e = .returned (.bool false) ∧ ∃ q, w' = w.drewN q := by
  have H := Lib.hid (size_any h)
  have hr := h.r1
  have d : (((0 : Int) != (R : Int))) = true := by simp; omega
  have d2 : (((0 : Int) == (R : Int))) = false := by simp; omega
  clear h
  go_enter Try.func7, Try.ntmps7
  go_wp2_with fail
  refine H.out.mono ?_
  rintro e w1 ⟨rfl, q, rfl⟩
  go_wp2_with fail
  refine (size_nil _).mono ?_
  rintro e w1 ⟨rfl, rfl⟩
  go_wp2
  go_ret
  exact ⟨rfl, _, rfl⟩

set_option maxHeartbeats 2000000 in
set_option maxRecDepth 100000 in
theorem same_any {w : World} {lo hi g cb C R n lo' hi' g' cb' C' : Nat} {F F' : Nat → Nat → Cl} (h : PG w lo hi g cb C R n F) (h' : PG w lo' hi' g' cb' C' R n F') :
    Calls Try.prog 7 #[ptr g, ptr g'] w fun e w' => e = .returned (.bool (agreeG F F' R n)) ∧ ∃ q, w' = w.drewN q := by
  have S1 := Lib.hid (size_any h)
  have S2 := Lib.hid (fun q => size_any (h'.drewN q))
  have R1 := Lib.hid (fun q r (hr : r < R) => row_in (h.drewN q) hr)
  have R2 := Lib.hid (fun q r (hr : r < R) => row_in (h'.drewN q) hr)
  have A1 := Lib.hid (fun r c (hr : r < R) (hc : c < n) => h.at_ hr hc)
  have A2 := Lib.hid (fun r c (hr : r < R) (hc : c < n) => h'.at_ hr hc)
  have hR := h.r2
  have hn := h.n2
  obtain ⟨B, hB⟩ : ∃ B, agreeG F F' R n = B := ⟨_, rfl⟩
  have HB := Lib.hid hB
  rw [hB]
  have e1 : (((R : Int) == (R : Int))) = true := by simp
  have e2 : (((R : Int) != (R : Int))) = false := by simp
  have e3 : (((n : Int) == (n : Int))) = true := by simp
  have e4 : (((n : Int) != (n : Int))) = false := by simp
  clear h h' hB
  go_enter Try.func7, Try.ntmps7
  go_wp2_with fail
  refine S1.out.mono ?_
  rintro e w1 ⟨rfl, q0, rfl⟩
  go_wp2_with fail
  refine (S2.out q0).mono ?_
  rintro e w1 ⟨rfl, q1, rfl⟩
  go_wp2_with fail
  go_loopw [32] (fun i wr => ∃ k : Nat, k ≤ R ∧ i = .int .i64 k ∧ Hid (∀ r, r < k → agreeR (F r) (F' r) n = true) ∧ ∃ q, wr = w.drewN q) (fun i _ => R - (intOf i).toNat)
  case atStart => exact ⟨0, Nat.zero_le _, rfl, fun r hr => absurd hr (by omega), _, rfl⟩
  case round =>
    obtain ⟨k, hk, rfl, HK, q, rfl⟩ := hrel
    by_cases hlt : k < R
    · obtain ⟨O, hO⟩ : ∃ O, k * n * 2 = O := ⟨_, rfl⟩
      obtain ⟨K, hK⟩ : ∃ K, C - k * n = K := ⟨_, rfl⟩
      obtain ⟨K', hK'⟩ : ∃ K', C' - k * n = K' := ⟨_, rfl⟩
      have C1 := Lib.hid (fun q => R1.out q k hlt)
      have C2 := Lib.hid (fun q => R2.out q k hlt)
      have A3 := Lib.hid (fun c (hc : c < n) => A1.out k c hlt hc)
      have A4 := Lib.hid (fun c (hc : c < n) => A2.out k c hlt hc)
      rw [hO] at A3 A4
      rw [hO, hK] at C1
      rw [hO, hK'] at C2
      clear hO hK hK'
      go_wp2_with fail
      refine (C1.out q).mono ?_
      rintro e w1 ⟨rfl, q2, rfl⟩
      go_wp2_with fail
      refine (C2.out (q + q2)).mono ?_
      rintro e w1 ⟨rfl, q3, rfl⟩
      go_wp2_with fail
      go_loopw [43] (fun i wr => ∃ c : Nat, c ≤ n ∧ i = .int .i64 c ∧ Hid (∀ j, j < c → F k j = F' k j) ∧ ∃ q, wr = w.drewN q) (fun i _ => n - (intOf i).toNat)
      case atStart => exact ⟨0, Nat.zero_le _, rfl, fun r hr => absurd hr (by omega), _, rfl⟩
      case round =>
        obtain ⟨c, hc, rfl, HC, q4, rfl⟩ := hrel
        by_cases hlc : c < n
        · obtain ⟨l1, l2⟩ := A3.out c hlc
          obtain ⟨l3, l4⟩ := A4.out c hlc
          obtain ⟨u, hu⟩ : ∃ u, F k c = u := ⟨_, rfl⟩
          obtain ⟨v, hv⟩ : ∃ v, F' k c = v := ⟨_, rfl⟩
          rw [hu] at l1 l2
          rw [hv] at l3 l4
          have HU := Lib.hid (And.intro hu hv)
          clear hu hv
          by_cases he : u = v
          · have hq := fun w => neq_cl u v w
            rw [decide_eq_true he] at hq
            simp only [clV, Bool.not_true] at hq
            have HE := Lib.hid he
            clear he
            go_wp2_with fail
            go_quiet (fail)
            go_wp2_with fail
            go_roundw
            case rel =>
              refine ⟨c + 1, by omega, by go_num, fun j hj => ?_, _, rfl⟩
              by_cases e : j = c
              · rw [e, HU.out.1, HU.out.2, HE.out]
              · exact HC.out j (by omega)
            case measure => simp [intOf]; omega
          · have hq := fun w => neq_cl u v w
            rw [decide_eq_false he] at hq
            simp only [clV, Bool.not_false] at hq
            have HE := Lib.hid he
            clear he
            go_wp2_with fail
            go_quiet (fail)
            go_wp2_with fail
            go_ret
            have : agreeG F F' R n = false := agreeG_no hlt (agreeR_no hlc (by rw [HU.out.1, HU.out.2]; exact HE.out))
            exact ⟨by rw [← HB.out, this]; rfl, q4 + nq, by simp⟩
        · obtain rfl : c = n := by omega
          go_wp2_with fail
          go_roundw
          case rel =>
            refine ⟨k + 1, by omega, by go_num, fun r hr => ?_, _, rfl⟩
            by_cases e : r = k
            · rw [e]; exact agreeR_yes.2 HC.out
            · exact HK.out r (by omega)
          case measure => simp [intOf]; omega
    · go_wp2
      go_ret
      obtain rfl : k = R := by omega
      exact ⟨by rw [← HB.out, agreeG_yes.2 HK.out]; rfl, q, rfl⟩
end Go.Proofs.Ytednedklkbjihaa
