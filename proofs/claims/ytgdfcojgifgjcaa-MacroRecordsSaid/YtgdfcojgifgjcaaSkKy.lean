/- slices.* at []typebar/api.Key,typebar/api.Key. -/
import Derived.Test.YtgdfcojgifgjcaaLiC
import Derived.Handy
import Derived.Lib.AppendZerosOnto
namespace Go.Proofs.Ytgdfcojgifgjcaa
open Go.RowKit
set_option linter.unusedVariables false
set_option linter.unusedSimpArgs false
set_option maxRecDepth 100000

theorem ky_elt : Elt Try.prog 34 30 4 40 := elt_of Try.underlying34 (z := .agg #[.int .i64 0, .int .i32 0, .bool false, .slice none 0 0]) (by kernel_rfl) rfl (by decide)
theorem ky_info : (Try.prog.info? 30).map (fun i => (i.zero, i.size, i.bytes)) = some (some (.agg #[.int .i64 0, .int .i32 0, .bool false, .slice none 0 0]), 4, 40) := by kernel_rfl

/-- A row of no elements of the call's own. -/
def kyRoom (w : World) (e : Ending) (w' : World) : Prop := ∃ v, e = .returned v ∧ w'.ownsRow w.heap.size 30 4 v 0 [] ∧ (∃ A c, v = .slice A 0 c) ∧ Below w.heap.size w w'

set_option maxHeartbeats 1000000 in
theorem ky_grow (n : Int) (w : World) (n0 : 0 ≤ n) (n1 : n ≤ 1000000000) : Calls Try.prog 35 #[.slice none 0 0, .int .i64 n] w (kyRoom w) := by
  by_cases hn : 0 < n
  · obtain ⟨m, rfl⟩ := Int.eq_ofNat_of_zero_le n0
    have hm : 0 < m := by omega
    obtain ⟨i0, hi, hz0, hz1, hz2⟩ := info_parts ky_info
    have hold : (Builtin.firstCells i0.size 0 (.slice none 0 0)).run Try.prog w.drew = .ok ([] : List Value).toArray w.drew := run_firstCells_none w.drew i0.size 0 0 0
    have hrz := fun ty => Lib.run_append_grow_zeros (P := Try.prog) w 34 3 ty 30 i0 (.agg #[.int .i64 0, .int .i32 0, .bool false, .slice none 0 0]) .i64 .i64 Try.underlying34 Try.underlying3 hi hz0 none 0 0 [] hold m hm (by omega) (by omega) (by omega) (by rw [hz2]; omega) (growslice_fits (by omega) (by rw [hz2]; omega))
    have hcap := grownCap_ge w (0 + m) 0 30
    have hcap2 := grownCap_le_maxLen w (0 + m) 0 30 (by unfold maxLen; omega)
    obtain ⟨G, hG⟩ : ∃ G, grownCap w (0 + m) 0 30 = G := ⟨_, rfl⟩
    rw [hG] at hrz hcap hcap2
    have hsz : (([] : List Value).toArray ++ Builtin.zeroCells (.agg #[.int .i64 0, .int .i32 0, .bool false, .slice none 0 0] : Value).cells m ++ Builtin.zeroCells (.agg #[.int .i64 0, .int .i32 0, .bool false, .slice none 0 0] : Value).cells (G - (0 + m))).size = G * 4 := by
      simp [size_zeroCells, Value.cells]; omega
    obtain ⟨C, hC⟩ : ∃ C, (([] : List Value).toArray ++ Builtin.zeroCells (.agg #[.int .i64 0, .int .i32 0, .bool false, .slice none 0 0] : Value).cells m ++ Builtin.zeroCells (.agg #[.int .i64 0, .int .i32 0, .bool false, .slice none 0 0] : Value).cells (G - (0 + m))) = C := ⟨_, rfl⟩
    rw [hC] at hrz hsz
    simp only [Nat.zero_add] at hrz
    unfold maxLen at hcap2
    clear hold hG hC
    go_enter Try.func35, Try.ntmps35
    go_wp2_with (at_builtin; refine Lib.wpList_append_run _ rfl _ _ _ _ rfl _ _ rfl rfl _ _ (hrz _) ?_)
    go_ret
    refine ⟨_, rfl, ⟨by simp, .inr ⟨w.heap.size, G, C, rfl, Nat.le_refl _, heap_alloc_new w.drew _, by omega, by unfold maxLen; omega, hsz, by simp⟩⟩, ⟨_, _, rfl⟩, (Below.refl _ _).drew.alloc (Nat.le_refl _) _⟩
  · obtain rfl : n = 0 := by omega
    go_enter Try.func35, Try.ntmps35
    go_wp2
    go_ret
    exact ⟨_, rfl, World.ownsRow_nil _ _ _ _, ⟨_, _, rfl⟩, Below.refl _ _⟩

set_option maxHeartbeats 2000000 in
theorem ky_concat {α : Type} {enc : α → List Value} (hk : ∀ x, (enc x).length = 4) (hk1 : ∀ x, ∀ u ∈ enc x, u.oneCell' = true) (B : Option Addr) (d : Nat) (A : Nat → Option Addr) (c : Nat → Nat) (Ls : List (List α)) (w : World) (hkk : Ls.length ≤ 1000000) (hB : ∀ j L, Ls[j]? = some L → ∃ b o, B = some ⟨b, o, none⟩ ∧ b < w.heap.size ∧ w.cell? ⟨b, o + j, none⟩ = some (.slice (A j) L.length (c j))) (hm : Many 4 enc w A c Ls) (hs : Ls.flatten.length ≤ 100000000) :
    Calls Try.prog 27 #[.slice B Ls.length d] w (TellsO 30 4 enc Ls.flatten w) := by
  have HM := Lib.hid hm
  have HB := Lib.hid hB
  have HH := Lib.hid (fun j => Nat.le_trans (lenTo_le Ls j) hs)
  obtain ⟨k, hkl⟩ : ∃ k, Ls.length = k := ⟨_, rfl⟩
  have HK := Lib.hid hkl
  rw [hkl] at hkk ⊢
  clear hm hB hs hkl
  go_enter Try.func27, Try.ntmps27
  go_wp2
  go_loop [3, 5, 11] (fun t u i => ∃ j : Nat, j ≤ k ∧ i = .int .i64 j ∧ t = .int .i64 (lenTo Ls j)) (fun _ _ i => k - (intOf i).toNat)
  case atStart => exact ⟨0, Nat.zero_le _, rfl, by simp [lenTo]⟩
  case round =>
    obtain ⟨j, hj, rfl, rfl⟩ := hrel
    have hsj := HH.out j
    by_cases hlt : j < k
    · have hL := List.getElem?_eq_getElem (l := Ls) (i := j) (by rw [HK.out]; exact hlt)
      obtain ⟨L, eL⟩ : ∃ L, Ls[j]'(by rw [HK.out]; exact hlt) = L := ⟨_, rfl⟩
      rw [eL] at hL
      have hsj1 := HH.out (j + 1)
      have hnx : ((lenTo Ls (j + 1) : Nat) : Int) = (lenTo Ls j : Int) + (L.length : Int) := by rw [lenTo_succ hL]; omega
      have h0 : 0 ≤ (lenTo Ls j : Int) + (L.length : Int) := by omega
      have h1 : (lenTo Ls j : Int) + (L.length : Int) ≤ 100000000 := by omega
      have hneg : decide ((lenTo Ls j : Int) + (L.length : Int) < 0) = false := by simp; omega
      obtain ⟨b, o, rfl, hbl, hc⟩ := HB.out j L hL
      have HN := Lib.hid hnx
      clear hnx eL hL
      go_wp2
      go_round
      case rel => exact ⟨j + 1, by omega, by go_num, by rw [HN.out]⟩
      case measure => simp [intOf]; omega
    · obtain rfl : j = k := by omega
      go_wp2_with (go_at_call 35; refine (ky_grow _ _ (by omega) (by omega)).mono ?_; rintro e w1 ⟨v, rfl, hown, ⟨A1, c1, rfl⟩, hb1⟩)
      go_loopw [6, 8, 27] (fun v u i wr => ∃ q : Nat, q ≤ j ∧ i = .int .i64 q ∧ (∃ A c, v = .slice A (lenTo Ls q) c ∧ wr.ownsRow w.heap.size 30 4 (.slice A (lenTo Ls q) c) (lenTo Ls q) (flatL enc (Ls.take q).flatten)) ∧ Below w.heap.size w wr) (fun _ _ i _ => j - (intOf i).toNat)
      case atStart => exact ⟨0, Nat.zero_le _, rfl, ⟨_, _, rfl, by simpa [lenTo, flatL] using hown⟩, hb1⟩
      case round =>
        obtain ⟨q, hq, rfl, ⟨A2, c2, rfl, hown2⟩, hb2⟩ := hrel
        clear hown hb1
        by_cases hlq : q < j
        · have hL := List.getElem?_eq_getElem (l := Ls) (i := q) (by rw [HK.out]; exact hlq)
          obtain ⟨L, eL⟩ : ∃ L, Ls[q]'(by rw [HK.out]; exact hlq) = L := ⟨_, rfl⟩
          rw [eL] at hL
          have hsq := HH.out (q + 1)
          have hnq := lenTo_succ hL
          obtain ⟨b, o, rfl, hbl, hc⟩ := HB.out q L hL
          have hc2 : wr.cell? ⟨b, o + q, none⟩ = some (.slice (A q) L.length (c q)) := (hb2.cell (p := ⟨b, o + q, none⟩) hbl).trans hc
          have HR := Lib.hid ((HM.out.li q L hL).later hb2)
          have HQ := Lib.hid hnq
          have HF := Lib.hid (flat_succ hL)
          have hsq2 : lenTo Ls q + L.length ≤ 100000000 := by rw [← hnq]; exact hsq
          have HO := Lib.hid hown2
          have HB2 := Lib.hid hb2
          have hz := hb2.size
          clear hnq hsq hc hown2 hb2 hL eL
          go_wp2_with (at_builtin; refine wpList_li hk hk1 ky_elt HO.out hz rfl rfl rfl rfl HR.out (by unfold maxLen; omega) (by omega) ?_; intro A3 c3 w3 hp; have HP := Lib.hid (And.intro hp.own (hp.below HB2.out HO.out (Nat.le_refl _))); clear hp)
          go_roundw
          case rel => exact ⟨q + 1, by omega, by go_num, ⟨A3, c3, by rw [HQ.out], by rw [HQ.out, HF.out, flatL_append]; exact HP.out.1⟩, HP.out.2⟩
          case measure => simp [intOf]; omega
        · obtain rfl : q = j := by omega
          have hfin : (Ls.take q).flatten = Ls.flatten := by rw [← HK.out, List.take_length]
          rw [hfin] at hown2
          have HT := Lib.hid (show TellsO 30 4 enc Ls.flatten w (.returned (.slice A2 (lenTo Ls q) c2)) wr from ⟨_, _, _, rfl, hown2, hb2⟩)
          clear hown2 hb2 hfin
          go_wp2
          go_ret
          exact HT.out

end Go.Proofs.Ytgdfcojgifgjcaa
