/- keys: slices.Reverse at bytes. -/
import Derived.Test.YtkkenabckhmkoaaKyK
namespace Go.Proofs.Ytkkenabckhmkoaa
open Go.RowKit
set_option linter.unusedVariables false
set_option linter.unusedSimpArgs false
set_option maxRecDepth 100000

/-- Where the element at j came from, once i pairs were exchanged. -/
def rvi (n i j : Nat) : Nat := if j < i ∨ n ≤ j + i then n - 1 - j else j
def RvB (W : World) (g n : Nat) (l : List Int) (i : Nat) (X : World) : Prop := ∃ cs : Array Value, Blk X g cs ∧ (∀ j, j < n → cs[j]? = some (.int .u8 (l.getD (rvi n i j) 0))) ∧ W.heap.size ≤ g ∧ Below W.heap.size W X
theorem RvB.step {W X : World} {g n i jn : Nat} {l : List Int} (h : RvB W g n l i X) (hj : i + jn + 1 = n) (hi : i < jn) : RvB W g n l (i + 1) ((X.setCell ⟨g, i, none⟩ (.int .u8 (l.getD jn 0))).setCell ⟨g, jn, none⟩ (.int .u8 (l.getD i 0))) := by
  obtain ⟨cs, hb, hc, hg, hW⟩ := h
  have hsz : jn < cs.size := (Array.getElem?_eq_some_iff.1 (hc jn (by omega))).1
  refine ⟨_, (hb.set_ i (by omega) _).set_ jn (by simp; omega) _, fun j hjn => ?_, hg, (hW.setCell (p := ⟨g, i, none⟩) hg _).setCell (p := ⟨g, jn, none⟩) hg _⟩
  rw [Array.getElem?_setIfInBounds, Array.getElem?_setIfInBounds]
  by_cases h1 : jn = j
  · subst h1
    rw [if_pos rfl, if_pos (by simp; omega)]
    have e : rvi n (i + 1) jn = i := by unfold rvi; rw [if_pos (by omega)]; omega
    rw [e]
  · rw [if_neg h1]
    by_cases h2 : i = j
    · subst h2
      rw [if_pos rfl, if_pos (by omega)]
      have e : rvi n (i + 1) i = jn := by unfold rvi; rw [if_pos (by omega)]; omega
      rw [e]
    · rw [if_neg h2, hc j hjn]
      have e : rvi n (i + 1) j = rvi n i j := by
        unfold rvi
        by_cases h3 : j < i ∨ n ≤ j + i
        · rw [if_pos h3, if_pos (by omega)]
        · rw [if_neg h3, if_neg (by omega)]
      rw [e]
theorem RvB.drew {W X : World} {g n i : Nat} {l : List Int} (h : RvB W g n l i X) : RvB W g n l i X.drew := by
  obtain ⟨cs, hb, hc, hg, hW⟩ := h
  exact ⟨cs, hb.drew, hc, hg, hW.drew⟩
theorem RvB.at_ {W X : World} {g n i j : Nat} {l : List Int} (h : RvB W g n l i X) (hj : j < n) (e : rvi n i j = j) : X.cell? ⟨g, j, none⟩ = some (.int .u8 (l.getD j 0)) ∧ X.frozen? ⟨g, j, none⟩ = false ∧ g < X.heap.size := by
  obtain ⟨cs, hb, hc, hg, hW⟩ := h
  have := hc j hj
  rw [e] at this
  exact ⟨(hb.2.1 j).trans this, hb.2.2 j, hb.1⟩
theorem RvB.done {W X : World} {g n i jn : Nat} {l : List Int} (h : RvB W g n l i X) (hn : n = l.length) (hj : i + jn + 1 = n) (hi : ¬ i < jn) : ∃ cs : Array Value, Blk X g cs ∧ (∀ j, j < n → cs[j]? = some (.int .u8 (l.reverse.getD j 0))) ∧ W.heap.size ≤ g ∧ Below W.heap.size W X := by
  obtain ⟨cs, hb, hc, hg, hW⟩ := h
  refine ⟨cs, hb, fun j hjn => ?_, hg, hW⟩
  rw [hc j hjn]
  have e : l.reverse.getD j 0 = l.getD (rvi n i j) 0 := by
    have e1 : rvi n i j = n - 1 - j := by
      unfold rvi
      by_cases h3 : j < i ∨ n ≤ j + i
      · rw [if_pos h3]
      · rw [if_neg h3]; omega
    rw [e1, List.getD_eq_getElem?_getD, List.getD_eq_getElem?_getD, List.getElem?_reverse (by omega), hn]
  rw [e]

set_option maxHeartbeats 4000000 in
theorem rev_any (g n c : Nat) (l : List Int) (W w : World) (h : RvB W g n l 0 w) (h0 : 0 < n) (hm : n ≤ 1000000) (hn : n = l.length) :
    Calls Try.prog 43 #[.slice (some ⟨g, 0, none⟩) n c] w fun e w' => e = .returned (.tuple #[]) ∧ ∃ cs : Array Value, Blk w' g cs ∧ (∀ j, j < n → cs[j]? = some (.int .u8 (l.reverse.getD j 0))) ∧ W.heap.size ≤ g ∧ Below W.heap.size W w' := by
  have V0 := Lib.hid h
  have HN := Lib.hid hn
  clear h hn
  go_enter Try.func43, Try.ntmps43
  go_wp2_with fail
  go_loopw [2, 3] (fun u v wr => ∃ i jn : Nat, i + jn + 1 = n ∧ u = .int .i64 i ∧ v = .int .i64 jn ∧ Hid (RvB W g n l i wr)) (fun _ v _ => (intOf v).toNat)
  case atStart => exact ⟨0, n - 1, by omega, rfl, by congr 1; omega, V0.out⟩
  case round =>
    obtain ⟨i, jn, hs, rfl, rfl, HG⟩ := hrel
    clear V0
    by_cases hlt : i < jn
    · obtain ⟨ci, fi, yg⟩ := HG.out.at_ (j := i) (by omega) (by unfold rvi; rw [if_neg (by omega)])
      obtain ⟨cj, fj, _⟩ := HG.out.at_ (j := jn) (by omega) (by unfold rvi; rw [if_neg (by omega)])
      obtain ⟨A, hA⟩ : ∃ A, l.getD i 0 = A := ⟨_, rfl⟩
      obtain ⟨B, hB⟩ : ∃ B, l.getD jn 0 = B := ⟨_, rfl⟩
      have HS := Lib.hid (HG.out.drew.step hs hlt)
      rw [hA] at ci HS
      rw [hB] at cj HS
      have g1 : (i : Int) < (jn : Int) := by omega
      have g2 : (0 : Int) ≤ (i : Int) := by omega
      have g3 : (0 : Int) ≤ (jn : Int) := by omega
      have g4 : (i : Int) < (n : Int) := by omega
      have g5 : (jn : Int) < (n : Int) := by omega
      clear hA hB
      go_wp2_with fail
      go_region
      go_wp2_with fail
      go_roundw
      case rel => exact ⟨i + 1, jn - 1, by omega, by go_num, by congr 1; omega, HS.out⟩
      case measure => simp [intOf]; omega
    · have g1 : ¬ (i : Int) < (jn : Int) := by omega
      have HD := Lib.hid (HG.out.done HN.out hs hlt)
      clear hs hlt
      go_wp2_with fail
      refine bodyPost_end (results_none rfl _ _ _) rfl ⟨rfl, HD.out⟩
end Go.Proofs.Ytkkenabckhmkoaa
