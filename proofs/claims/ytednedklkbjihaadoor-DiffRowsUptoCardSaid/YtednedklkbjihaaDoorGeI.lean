/- grid: the document's Same; the law's Same. -/
import Derived.Test.YtednedklkbjihaaDoorGeH

namespace Go.Proofs.YtednedklkbjihaaDoor

open Go.RowKit

set_option linter.unusedVariables false

set_option linter.unusedSimpArgs false
set_option maxRecDepth 100000

theorem RG.drewN {w : World} {lo hi ob Co R n : Nat} {rb Cr : Nat → Nat} {F : Nat → Nat → Cl} (h : RG w lo hi ob Co R n rb Cr F) (q : Nat) : RG (w.drewN q) lo hi ob Co R n rb Cr F :=
  ⟨h.out, h.rows, h.wf, h.o0, h.o1, h.o2, h.b1, h.inj, h.r1, h.r2, h.n1, h.n2, h.cap, h.caps⟩

set_option maxHeartbeats 1000000 in
theorem samerow_any {w : World} {a b n Ca Cb : Nat} {csa csb : Array Value} {G G' : Nat → Cl} (hA : Blk w a csa) (iA : Is csa 0 n G) (hB : Blk w b csb) (iB : Is csb 0 n G') (hn : n ≤ 1000000) :
    Calls Tryd.prog 34 #[.slice (some ⟨a, 0, none⟩) n Ca, .slice (some ⟨b, 0, none⟩) n Cb] w fun e w' => e = .returned (.bool (agreeR G G' n)) ∧ ∃ q, w' = w.drewN q := by
  have A3 := Lib.hid (fun c (hc : c < n) => And.intro ((hA.2.1 _).trans (iA c hc).1) ((hA.2.1 _).trans (iA c hc).2))
  have A4 := Lib.hid (fun c (hc : c < n) => And.intro ((hB.2.1 _).trans (iB c hc).1) ((hB.2.1 _).trans (iB c hc).2))
  simp only [Nat.zero_add] at A3 A4
  have e1 : (((n : Int) == (n : Int))) = true := by simp
  have e2 : (((n : Int) != (n : Int))) = false := by simp
  obtain ⟨B, hB'⟩ : ∃ B, agreeR G G' n = B := ⟨_, rfl⟩
  have HB := Lib.hid hB'
  rw [hB']
  clear hA iA hB iB hB'
  go_enter Tryd.func34, Tryd.ntmps34
  go_wp2_with fail
  go_loopw [5] (fun i wr => ∃ c : Nat, c ≤ n ∧ i = .int .i64 c ∧ Hid (∀ j, j < c → G j = G' j) ∧ ∃ q, wr = w.drewN q) (fun i _ => n - (intOf i).toNat)
  case atStart => exact ⟨0, Nat.zero_le _, rfl, fun r hr => absurd hr (by omega), 0, rfl⟩
  case round =>
    obtain ⟨c, hc, rfl, HC, q4, rfl⟩ := hrel
    by_cases hlc : c < n
    · obtain ⟨l1, l2⟩ := A3.out c hlc
      obtain ⟨l3, l4⟩ := A4.out c hlc
      obtain ⟨u, hu⟩ : ∃ u, G c = u := ⟨_, rfl⟩
      obtain ⟨v, hv⟩ : ∃ v, G' c = v := ⟨_, rfl⟩
      rw [hu] at l1 l2
      rw [hv] at l3 l4
      have HU := Lib.hid (And.intro hu hv)
      clear hu hv
      by_cases he : u = v
      · have hq := fun w => neq_clR u v w
        rw [decide_eq_true he] at hq
        simp only [clV, Bool.not_true] at hq
        have HE := Lib.hid he
        clear he
        go_wp2_with fail
        go_quiet (fail)
        go_wp2_with fail
        go_roundw
        case rel =>
          refine ⟨c + 1, by omega, by go_num, fun j hj => ?_, _, rfl⟩
          by_cases e : j = c
          · rw [e, HU.out.1, HU.out.2, HE.out]
          · exact HC.out j (by omega)
        case measure => simp [intOf]; omega
      · have hq := fun w => neq_clR u v w
        rw [decide_eq_false he] at hq
        simp only [clV, Bool.not_false] at hq
        have HE := Lib.hid he
        clear he
        go_wp2_with fail
        go_quiet (fail)
        go_wp2_with fail
        go_ret
        have : agreeR G G' n = false := agreeR_no hlc (by rw [HU.out.1, HU.out.2]; exact HE.out)
        exact ⟨by rw [← HB.out, this]; rfl, q4 + nq, by simp⟩
    · obtain rfl : c = n := by omega
      go_wp2_with fail
      go_ret
      exact ⟨by rw [← HB.out, agreeR_yes.2 HC.out]; rfl, q4, rfl⟩

end Go.Proofs.YtednedklkbjihaaDoor
