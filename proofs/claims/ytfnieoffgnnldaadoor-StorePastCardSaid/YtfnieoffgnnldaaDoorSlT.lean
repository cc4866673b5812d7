/- slices.* at [][]rune,[]rune. -/
import Derived.Test.YtfnieoffgnnldaaDoorSlC
import Derived.Test.YtfnieoffgnnldaaDoorSlC
import Derived.Handy
import Derived.Lib.AppendZerosOnto
namespace Go.Proofs.YtfnieoffgnnldaaDoor
open Go.RowKit
set_option linter.unusedVariables false
set_option linter.unusedSimpArgs false

theorem slT_elt : Elt Tryd.prog 30 22 1 24 := elt_of Tryd.underlying30 (z := .slice none 0 0) (by kernel_rfl) rfl (by decide)

/-! ### Grow of nil -/
theorem slT_info : (Tryd.prog.info? 22).map (fun i => (i.zero, i.size, i.bytes)) = some (some (.slice none 0 0), 1, 24) := by kernel_rfl

/-- A row of no elements of the call's own. -/
def slTRoom (w : World) (e : Ending) (w' : World) : Prop := ∃ v, e = .returned v ∧ w'.ownsRow w.heap.size 22 1 v 0 [] ∧ (∃ A c, v = .slice A 0 c) ∧ Below w.heap.size w w'

set_option maxRecDepth 100000 in
set_option maxHeartbeats 1000000 in
theorem slT_grow (n : Int) (w : World) (n0 : 0 ≤ n) (n1 : n ≤ 4398046511104) : Calls Tryd.prog 61 #[.slice none 0 0, .int .i64 n] w (slTRoom w) := by
  by_cases hn : 0 < n
  · obtain ⟨m, rfl⟩ := Int.eq_ofNat_of_zero_le n0
    have hm : 0 < m := by omega
    obtain ⟨i0, hi, hz0, hz1, hz2⟩ := info_parts slT_info
    have hold : (Builtin.firstCells i0.size 0 (.slice none 0 0)).run Tryd.prog w.drew = .ok ([] : List Value).toArray w.drew := run_firstCells_none w.drew i0.size 0 0 0
    have hrz := fun ty => Lib.run_append_grow_zeros (P := Tryd.prog) w 30 3 ty 22 i0 (.slice none 0 0) .i64 .i64 Tryd.underlying30 Tryd.underlying3 hi hz0 none 0 0 [] hold m hm (by omega) (by omega) (by omega) (by rw [hz2]; omega) (growslice_fits (by omega) (by rw [hz2]; omega))
    have hcap := grownCap_ge w (0 + m) 0 22
    have hcap2 := grownCap_le_maxLen w (0 + m) 0 22 (by unfold maxLen; omega)
    obtain ⟨G, hG⟩ : ∃ G, grownCap w (0 + m) 0 22 = G := ⟨_, rfl⟩
    rw [hG] at hrz hcap hcap2
    have hsz : (([] : List Value).toArray ++ Builtin.zeroCells (.slice none 0 0 : Value).cells m ++ Builtin.zeroCells (.slice none 0 0 : Value).cells (G - (0 + m))).size = G * 1 := by
      simp [size_zeroCells, Value.cells]; omega
    obtain ⟨C, hC⟩ : ∃ C, (([] : List Value).toArray ++ Builtin.zeroCells (.slice none 0 0 : Value).cells m ++ Builtin.zeroCells (.slice none 0 0 : Value).cells (G - (0 + m))) = C := ⟨_, rfl⟩
    rw [hC] at hrz hsz
    simp only [Nat.zero_add] at hrz
    unfold maxLen at hcap2
    clear hold hG hC
    go_enter Tryd.func61, Tryd.ntmps61
    go_wp2_with (at_builtin; refine Lib.wpList_append_run _ rfl _ _ _ _ rfl _ _ rfl rfl _ _ (hrz _) ?_)
    go_ret
    refine ⟨_, rfl, ⟨by simp, .inr ⟨w.heap.size, G, C, rfl, Nat.le_refl _, heap_alloc_new w.drew _, by omega, by unfold maxLen; omega, hsz, by simp⟩⟩, ⟨_, _, rfl⟩, (Below.refl _ _).drew.alloc (Nat.le_refl _) _⟩
  · obtain rfl : n = 0 := by omega
    go_enter Tryd.func61, Tryd.ntmps61
    go_wp2
    go_ret
    exact ⟨_, rfl, World.ownsRow_nil _ _ _ _, ⟨_, _, rfl⟩, Below.refl _ _⟩

/-! ### Concat -/
/-- Slices of a list, each readable; the nil ones are empty. -/
structure slTMany (w : World) (k : Nat) (A : Nat → Option Addr) (n c : Nat → Nat) (f : Nat → Nat → Value) : Prop where
  rd : ∀ j, j < k → Rd w (A j) (n j) (f j)
  nil : ∀ j, j < k → A j = none → n j = 0 ∧ c j = 0
  one : ∀ j i, (f j i).oneCell' = true

/-- What Concat tells. -/
def slTCat (k : Nat) (n : Nat → Nat) (f : Nat → Nat → Value) (w : World) (e : Ending) (w' : World) : Prop :=
  ∃ A c, e = .returned (.slice A (sumTo n k) c) ∧ w'.ownsRow w.heap.size 22 1 (.slice A (sumTo n k) c) (sumTo n k) (catTo n f k) ∧ Below w.heap.size w w'

set_option maxHeartbeats 2000000 in
theorem slT_concat (B : Option Addr) (k d : Nat) (A : Nat → Option Addr) (n c : Nat → Nat) (f : Nat → Nat → Value) (w : World) (hk : k ≤ 1000000) (hB : Rd w B k (fun j => .slice (A j) (n j) (c j))) (hm : slTMany w k A n c f) (hs : sumTo n k ≤ 1099511627776) :
    Calls Tryd.prog 50 #[.slice B k d] w (slTCat k n f w) := by
  have HM := Lib.hid hm
  have HB := Lib.hid hB
  have HS : ∀ i, i ≤ k → sumTo n i ≤ 1099511627776 := fun i hi => Nat.le_trans (sumTo_mono n hi) hs
  have HH := Lib.hid HS
  clear hm hB HS
  go_enter Tryd.func50, Tryd.ntmps50
  go_wp2
  go_loop [3, 5, 11] (fun t u i => ∃ j : Nat, j ≤ k ∧ i = .int .i64 j ∧ t = .int .i64 (sumTo n j)) (fun _ _ i => k - (intOf i).toNat)
  case atStart => exact ⟨0, Nat.zero_le _, rfl, rfl⟩
  case round =>
    obtain ⟨j, hj, rfl, rfl⟩ := hrel
    have hsj := HH.out j hj
    by_cases hlt : j < k
    · have hsj1 := HH.out (j + 1) hlt
      have hnx : ((sumTo n (j + 1) : Nat) : Int) = (sumTo n j : Int) + (n j : Int) := by show (((sumTo n j + n j) : Nat) : Int) = _; omega
      have h0 : 0 ≤ (sumTo n j : Int) + (n j : Int) := by omega
      have h1 : (sumTo n j : Int) + (n j : Int) ≤ 1099511627776 := by omega
      have hneg : decide ((sumTo n j : Int) + (n j : Int) < 0) = false := by simp; omega
      obtain ⟨b, o, rfl, hbl, hc⟩ := HB.out j hlt
      have HN := Lib.hid hnx
      clear hnx
      go_wp2
      go_round
      case rel => exact ⟨j + 1, by omega, by go_num, by rw [HN.out]⟩
      case measure => simp [intOf]; omega
    · obtain rfl : j = k := by omega
      go_wp2_with (go_at_call 61; refine (slT_grow _ _ (by omega) (by omega)).mono ?_; rintro e w1 ⟨v, rfl, hown, ⟨A1, c1, rfl⟩, hb1⟩)
      go_loopw [6, 8, 27] (fun v u i wr => ∃ q : Nat, q ≤ j ∧ i = .int .i64 q ∧ (∃ A c, v = .slice A (sumTo n q) c ∧ wr.ownsRow w.heap.size 22 1 (.slice A (sumTo n q) c) (sumTo n q) (catTo n f q)) ∧ Below w.heap.size w wr) (fun _ _ i _ => j - (intOf i).toNat)
      case atStart => exact ⟨0, Nat.zero_le _, rfl, ⟨_, _, rfl, hown⟩, hb1⟩
      case round =>
        obtain ⟨q, hq, rfl, ⟨A2, c2, rfl, hown2⟩, hb2⟩ := hrel
        clear hown hb1
        by_cases hlq : q < j
        · have hsq := HH.out (q + 1) hlq
          have hnq : sumTo n (q + 1) = sumTo n q + n q := rfl
          obtain ⟨b, o, rfl, hbl, hc⟩ := HB.out q hlq
          have hc2 : wr.cell? ⟨b, o + q, none⟩ = some (.slice (A q) (n q) (c q)) := (hb2.cell (p := ⟨b, o + q, none⟩) hbl).trans hc
          have hrd := (HM.out.rd q hlq).later hb2
          have hnil := HM.out.nil q hlq
          have h1 : ∀ i, i < n q → (f q i).oneCell' = true := fun i _ => HM.out.one q i
          have HR := Lib.hid hrd
          have H1 := Lib.hid h1
          have HL := Lib.hid hnil
          have HQ := Lib.hid hnq
          have hsq2 : sumTo n q + n q ≤ 1099511627776 := by rw [← hnq]; exact hsq
          clear hrd h1 hnil hnq hsq hc
          go_wp2_with (at_builtin; refine wpList_cat slT_elt hown2 hb2.size rfl rfl rfl rfl HR.out HL.out H1.out (by unfold maxLen; omega) (by omega) ?_; intro A3 c3 w3 hp; have hown3 := hp.own; have hb3 := hp.below hb2 hown2 (Nat.le_refl _); clear hp)
          go_roundw
          case rel => exact ⟨q + 1, by omega, by go_num, ⟨_, _, rfl, hown3⟩, hb3⟩
          case measure => simp [intOf]; omega
        · obtain rfl : q = j := by omega
          go_wp2
          go_ret
          exact ⟨_, _, rfl, hown2, hb2⟩

end Go.Proofs.YtfnieoffgnnldaaDoor
