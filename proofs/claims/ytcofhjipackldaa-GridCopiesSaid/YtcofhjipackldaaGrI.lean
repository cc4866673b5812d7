/- grid: the document's Same; the law's Same. -/
import Derived.Test.YtcofhjipackldaaGrH
namespace Go.Proofs.Ytcofhjipackldaa
open Go.RowKit
set_option linter.unusedVariables false
set_option linter.unusedSimpArgs false

theorem RG.drewN {w : World} {lo hi ob Co R n : Nat} {rb Cr : Nat → Nat} {F : Nat → Nat → Cl} (h : RG w lo hi ob Co R n rb Cr F) (q : Nat) : RG (w.drewN q) lo hi ob Co R n rb Cr F :=
  ⟨h.out, h.rows, h.wf, h.o0, h.o1, h.o2, h.b1, h.inj, h.r1, h.r2, h.n1, h.n2, h.cap, h.caps⟩

set_option maxHeartbeats 1000000 in
theorem samerow_any {w : World} {a b n Ca Cb : Nat} {csa csb : Array Value} {G G' : Nat → Cl} (hA : Blk w a csa) (iA : Is csa 0 n G) (hB : Blk w b csb) (iB : Is csb 0 n G') (hn : n ≤ 1000000) :
    Calls Try.prog 28 #[.slice (some ⟨a, 0, none⟩) n Ca, .slice (some ⟨b, 0, none⟩) n Cb] w fun e w' => e = .returned (.bool (agreeR G G' n)) ∧ ∃ q, w' = w.drewN q := by
  have A3 := Lib.hid (fun c (hc : c < n) => And.intro ((hA.2.1 _).trans (iA c hc).1) ((hA.2.1 _).trans (iA c hc).2))
  have A4 := Lib.hid (fun c (hc : c < n) => And.intro ((hB.2.1 _).trans (iB c hc).1) ((hB.2.1 _).trans (iB c hc).2))
  simp only [Nat.zero_add] at A3 A4
  have e1 : (((n : Int) == (n : Int))) = true := by simp
  have e2 : (((n : Int) != (n : Int))) = false := by simp
  obtain ⟨B, hB'⟩ : ∃ B, agreeR G G' n = B := ⟨_, rfl⟩
  have HB := Lib.hid hB'
  rw [hB']
  clear hA iA hB iB hB'
  go_enter Try.func28, Try.ntmps28
  go_wp2_with fail
  go_loopw [5] (fun i wr => ∃ c : Nat, c ≤ n ∧ i = .int .i64 c ∧ Hid (∀ j, j < c → G j = G' j) ∧ ∃ q, wr = w.drewN q) (fun i _ => n - (intOf i).toNat)
  case atStart => exact ⟨0, Nat.zero_le _, rfl, fun r hr => absurd hr (by omega), 0, rfl⟩
  case round =>
    obtain ⟨c, hc, rfl, HC, q4, rfl⟩ := hrel
    by_cases hlc : c < n
    · obtain ⟨l1, l2⟩ := A3.out c hlc
      obtain ⟨l3, l4⟩ := A4.out c hlc
      obtain ⟨u, hu⟩ : ∃ u, G c = u := ⟨_, rfl⟩
      obtain ⟨v, hv⟩ : ∃ v, G' c = v := ⟨_, rfl⟩
      rw [hu] at l1 l2
      rw [hv] at l3 l4
      have HU := Lib.hid (And.intro hu hv)
      clear hu hv
      by_cases he : u = v
      · have hq := fun w => neq_clR u v w
        rw [decide_eq_true he] at hq
        simp only [clV, Bool.not_true] at hq
        have HE := Lib.hid he
        clear he
        go_wp2_with fail
        go_quiet (fail)
        go_wp2_with fail
        go_roundw
        case rel =>
          refine ⟨c + 1, by omega, by go_num, fun j hj => ?_, _, rfl⟩
          by_cases e : j = c
          · rw [e, HU.out.1, HU.out.2, HE.out]
          · exact HC.out j (by omega)
        case measure => simp [intOf]; omega
      · have hq := fun w => neq_clR u v w
        rw [decide_eq_false he] at hq
        simp only [clV, Bool.not_false] at hq
        have HE := Lib.hid he
        clear he
        go_wp2_with fail
        go_quiet (fail)
        go_wp2_with fail
        go_ret
        have : agreeR G G' n = false := agreeR_no hlc (by rw [HU.out.1, HU.out.2]; exact HE.out)
        exact ⟨by rw [← HB.out, this]; rfl, q4 + nq, by simp⟩
    · obtain rfl : c = n := by omega
      go_wp2_with fail
      go_ret
      exact ⟨by rw [← HB.out, agreeR_yes.2 HC.out]; rfl, q4, rfl⟩

set_option maxHeartbeats 1000000 in
theorem sameR_any {w : World} {lo hi ob Co R n lo' hi' ob' Co' : Nat} {rb Cr rb' Cr' : Nat → Nat} {F F' : Nat → Nat → Cl} (h : RG w lo hi ob Co R n rb Cr F) (h' : RG w lo' hi' ob' Co' R n rb' Cr' F') :
    Calls Try.prog 21 #[gv ob R Co, gv ob' R Co'] w fun e w' => e = .returned (.bool (agreeG F F' R n)) ∧ ∃ q, w' = w.drewN q := by
  have HO := Lib.hid (And.intro h.out h'.out)
  have HS := Lib.hid (fun r (hr : r < R) => show ∀ q, Calls Try.prog 28 #[.slice (some ⟨rb r, 0, none⟩) n (Cr r), .slice (some ⟨rb' r, 0, none⟩) n (Cr' r)] (w.drewN q) (fun e w' => e = .returned (.bool (agreeR (F r) (F' r) n)) ∧ ∃ m, w' = (w.drewN q).drewN m) from fun q => by
    obtain ⟨cs, b, _, i⟩ := (h.drewN q).rows r hr
    obtain ⟨cs', b', _, i'⟩ := (h'.drewN q).rows r hr
    exact samerow_any b i b' i' (by have := h.n2; omega))
  have hcap := h.cap
  have hR := h.r2
  have hn := h.n2
  have e1 : (((R : Int) == (R : Int))) = true := by simp
  have e2 : (((R : Int) != (R : Int))) = false := by simp
  obtain ⟨B, hB'⟩ : ∃ B, agreeG F F' R n = B := ⟨_, rfl⟩
  have HB := Lib.hid hB'
  rw [hB']
  clear h h' hB'
  go_enter Try.func21, Try.ntmps21
  go_wp2_with fail
  go_loopw [5] (fun i wr => ∃ k : Nat, k ≤ R ∧ i = .int .i64 k ∧ Hid (∀ r, r < k → agreeR (F r) (F' r) n = true) ∧ ∃ q, wr = w.drewN q) (fun i _ => R - (intOf i).toNat)
  case atStart => exact ⟨0, Nat.zero_le _, rfl, fun r hr => absurd hr (by omega), 0, rfl⟩
  case round =>
    obtain ⟨k, hk, rfl, HK, q, hq⟩ := hrel
    have HQ := Lib.hid hq
    by_cases hlt : k < R
    · have l1 := HO.out.1 k hlt
      have l2 := HO.out.2 k hlt
      rw [← World.cell?_drewN (n := q), ← hq] at l1 l2
      clear hq
      obtain ⟨bb, hbb⟩ : ∃ bb, agreeR (F k) (F' k) n = bb := ⟨_, rfl⟩
      have C1 := Lib.hid (HS.out k hlt)
      rw [hbb] at C1
      have HBB := Lib.hid hbb
      clear hbb
      obtain ⟨r1, hr1⟩ : ∃ r1, rb k = r1 := ⟨_, rfl⟩
      obtain ⟨r2, hr2⟩ : ∃ r2, rb' k = r2 := ⟨_, rfl⟩
      obtain ⟨c1, hc1⟩ : ∃ c1, Cr k = c1 := ⟨_, rfl⟩
      obtain ⟨c2, hc2⟩ : ∃ c2, Cr' k = c2 := ⟨_, rfl⟩
      rw [hr1, hr2, hc1, hc2] at C1
      rw [hr1, hc1] at l1
      rw [hr2, hc2] at l2
      clear hr1 hr2 hc1 hc2
      have C2 : Hid (∀ m, Calls Try.prog 28 #[.slice (some ⟨r1, 0, none⟩) n c1, .slice (some ⟨r2, 0, none⟩) n c2] (wr.drewN m) fun e w'' => e = .returned (.bool bb) ∧ ∃ m, w'' = wr.drewN m) := Lib.hid (fun m => Calls.quiet_of (by have := C1.out (q + m); rw [HQ.out]; simpa using this))
      cases bb
      · go_wp2_with fail
        go_quiet ((go_at_call 28; exact C2.out _))
        go_wp2_with fail
        go_ret
        exact ⟨by rw [← HB.out, agreeG_no hlt HBB.out]; rfl, q + nq, by rw [HQ.out]; simp⟩
      · go_wp2_with fail
        go_quiet ((go_at_call 28; exact C2.out _))
        go_wp2_with fail
        go_roundw
        case rel =>
          refine ⟨k + 1, by omega, by go_num, fun r hr => ?_, q + nq, by rw [HQ.out]; simp⟩
          by_cases e : r = k
          · rw [e]; exact HBB.out
          · exact HK.out r (by omega)
        case measure => simp [intOf]; omega
    · obtain rfl : k = R := by omega
      clear hq
      go_wp2_with fail
      go_ret
      exact ⟨by rw [← HB.out, agreeG_yes.2 HK.out]; rfl, q, HQ.out⟩
end Go.Proofs.Ytcofhjipackldaa
