/- script: ScriptPrints' walk. -/
import Derived.Test.YtjkhkohlejkdlaaDoorScPf
namespace Go.Proofs.YtjkhkohlejkdlaaDoor
open Go.RowKit
set_option linter.unusedVariables false
set_option linter.unusedSimpArgs false

set_option maxRecDepth 100000 in
set_option maxHeartbeats 4000000 in
theorem walk_ScriptPrints (W : World) (hT : TabW W.heap.size W) (A : Option Addr) (c : Nat) (L : List Evt) (hL : EvIn W A c L) : Calls Tryd.prog 4 #[.slice A L.length c] W (YesO W) := by
  have HT := Lib.hid hT
  have hcap := hL.li.parts.2.2.2
  obtain ⟨N, hN⟩ : ∃ N, L.length = N := ⟨_, rfl⟩
  rw [hN] at hcap ⊢
  obtain ⟨hc1, hc2⟩ := hcap
  by_cases h : 500 < N
  · have hi : (500 : Int) < (N : Int) := by omega
    have hic : (500 : Int) ≤ (c : Int) := by omega
    obtain ⟨hE, hM⟩ := hL.first (n := 500) (by omega)
    obtain ⟨M, hMM⟩ : ∃ M, L.take 500 = M := ⟨_, rfl⟩
    rw [hMM] at hE hM
    have HE := Lib.hid hE
    have HMN := Lib.hid hM
    have C1 := Lib.hid (print_any A c M W hT hE.li hE.byt)
    rw [hM] at C1
    clear hL hT hE hMM hN
    go_enter Tryd.func4, Tryd.ntmps4
    go_wp2_with fail
    refine C1.out.mono ?_
    rintro e w1 ⟨rfl, b1⟩
    have H1 := Lib.hid b1
    clear b1 C1
    have C2 := Lib.hid (rprint_any A c M w1 (by rw [HMN.out]; omega) (HE.out.li.later H1.out) HE.out.byt)
    rw [HMN.out] at C2
    go_wp2_with fail
    refine C2.out.mono ?_
    rintro e w2 ⟨rfl, b2⟩
    have H2 := Lib.hid (below_next H1.out b2)
    clear b2 C2 H1
    have C3 := Lib.hid (awake_yes w2 (tabW_next HT.out (Nat.le_refl _) H2.out))
    obtain ⟨sl, sz⟩ := printS M
    dsimp only
    obtain ⟨S, hS⟩ : ∃ S, ba sl = S := ⟨_, rfl⟩
    rw [hS]
    clear hS
    have e1 : (S.toList == S.toList) = true := by simp
    have e2 : (sz == sz) = true := by simp
    go_wp2_with fail
    refine C3.out.mono ?_
    rintro e w3 ⟨rfl, b3⟩
    have H3 := Lib.hid (below_next H2.out b3)
    clear b3 C3
    go_wp2_with fail
    go_ret
    exact ⟨rfl, H3.out⟩
  · have hi : ¬ (500 : Int) < (N : Int) := by omega
    obtain ⟨M, hMM⟩ : ∃ M, L = M := ⟨_, rfl⟩
    subst hMM
    have C1 := Lib.hid (print_any A c L W hT hL.li hL.byt)
    have HE := Lib.hid hL
    have HMN := Lib.hid hN
    rw [hN] at C1
    clear hL hT hN
    go_enter Tryd.func4, Tryd.ntmps4
    go_wp2_with fail
    refine C1.out.mono ?_
    rintro e w1 ⟨rfl, b1⟩
    have H1 := Lib.hid b1
    clear b1 C1
    have C2 := Lib.hid (rprint_any A c L w1 (by rw [HMN.out]; omega) (HE.out.li.later H1.out) HE.out.byt)
    rw [HMN.out] at C2
    go_wp2_with fail
    refine C2.out.mono ?_
    rintro e w2 ⟨rfl, b2⟩
    have H2 := Lib.hid (below_next H1.out b2)
    clear b2 C2 H1
    have C3 := Lib.hid (awake_yes w2 (tabW_next HT.out (Nat.le_refl _) H2.out))
    obtain ⟨sl, sz⟩ := printS L
    dsimp only
    obtain ⟨S, hS⟩ : ∃ S, ba sl = S := ⟨_, rfl⟩
    rw [hS]
    clear hS
    have e1 : (S.toList == S.toList) = true := by simp
    have e2 : (sz == sz) = true := by simp
    go_wp2_with fail
    refine C3.out.mono ?_
    rintro e w3 ⟨rfl, b3⟩
    have H3 := Lib.hid (below_next H2.out b3)
    clear b3 C3
    go_wp2_with fail
    go_ret
    exact ⟨rfl, H3.out⟩
end Go.Proofs.YtjkhkohlejkdlaaDoor
