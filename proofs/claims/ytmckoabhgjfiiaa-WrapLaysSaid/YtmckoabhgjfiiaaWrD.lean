/- wrap: the document's Place; few; awake. -/
import Derived.Test.YtmckoabhgjfiiaaWrC
namespace Go.Proofs.Ytmckoabhgjfiiaa
open Go.RowKit
set_option linter.unusedVariables false
set_option linter.unusedSimpArgs false

theorem spot2_elt : Elt Try.prog 28 32 2 16 := elt_of Try.underlying28 (z := .agg #[.int .i64 0, .int .i64 0]) (by kernel_rfl) rfl (by decide)
theorem glyph_elt : Elt Try.prog 23 42 2 24 := elt_of Try.underlying23 (z := .agg #[.string ⟨#[]⟩, .int .i64 0]) (by kernel_rfl) rfl (by decide)
theorem glyph2_elt : Elt Try.prog 22 45 2 24 := elt_of Try.underlying22 (z := .agg #[.string ⟨#[]⟩, .int .i64 0]) (by kernel_rfl) rfl (by decide)

theorem spots_get {cols : Int} {L : List Gl} {k : Nat} (hk : k < L.length + 1) : (spots cols L)[k]? = some (spAt cols L k) := by
  simp [spots, hk]
theorem spots_take {cols : Int} {L : List Gl} {k : Nat} : (List.range (k + 1)).map (spAt cols L) = (List.range k).map (spAt cols L) ++ [spAt cols L k] := by rw [List.range_succ, List.map_append]; rfl

set_option maxHeartbeats 4000000 in
set_option maxRecDepth 100000 in
theorem rplace_any (A : Option Addr) (c : Nat) (L : List Gl) (cols : Int) (w : World) (hLi : Li 2 encG w (fun _ => True) A L) (hL : Thin L) (hlen : L.length ≤ 1000) (h63 : cols ≤ 9223372036854775807) :
    Calls Try.prog 9 #[.slice A L.length c, .int .i64 cols] w (TellsO 32 2 encP (placeP cols L) w) := by
  have HL := Lib.hid hLi
  clear hLi
  by_cases h2 : cols < 2
  · have d1 : decide (cols < 2) = true := decide_eq_true h2
    have hp : placeP cols L = [] := if_pos h2
    have HT := Lib.hid (show TellsO 32 2 encP (placeP cols L) w (.returned (.slice none 0 0)) w from ⟨_, _, _, rfl, by rw [hp]; exact World.ownsRow_nil _ _ _ _, Below.refl _ _⟩)
    clear hp
    go_enter Try.func9, Try.ntmps9
    go_wp2
    go_ret
    exact HT.out
  · have d1 : decide (cols < 2) = false := decide_eq_false h2
    have hp := Lib.hid (show placeP cols L = spots cols L from if_neg h2)
    go_enter Try.func9, Try.ntmps9
    go_wp2
    go_loopw [5, 6, 7, 8] (fun v r c i wr => ∃ (k : Nat) (s : Sp) (Ao : Option Addr) (co : Nat), k ≤ L.length ∧ i = .int .i64 k ∧ r = .int .i64 s.r ∧ c = .int .i64 s.c ∧ v = .slice Ao k co ∧ Hid (stAt cols L k = s ∧ Grows w 32 2 encP Ao k co ((List.range k).map (spAt cols L)) wr)) (fun _ _ _ i _ => L.length - (intOf i).toNat)
    case atStart => exact ⟨0, ⟨0, 0⟩, none, 0, Nat.zero_le _, rfl, rfl, rfl, rfl, Lib.hid ⟨rfl, Grows.start _ _ _⟩⟩
    case round =>
      obtain ⟨k, s, Ao, co, hk, rfl, rfl, rfl, rfl, HG⟩ := hrel
      have bd := stAt_bd (by omega) hL k hk
      rw [HG.out.1] at bd
      obtain ⟨b1, b2, b3, b4, b5, b6⟩ := bd
      have v2 : IntKind.i64.wrap (s.r + 1) = s.r + 1 := IntWalk.i64_in _ (by omega)
      have hz : w.heap.size ≤ wr.heap.size := HG.out.2.below.size
      by_cases hlt : k < L.length
      · obtain ⟨g, b, o, hg, rfl, hbl, _, c0, c1⟩ := HL.out.glyph hlt
        obtain ⟨hw1, hw2⟩ := hL g (List.mem_of_getElem? hg)
        have v1 : IntKind.i64.wrap (cols - s.c) = cols - s.c := IntWalk.i64_in _ (by omega)
        have i1 : (k : Int) < (L.length : Int) := by omega
        have i2 : (0 : Int) ≤ (k : Int) := by omega
        have c2 := (HG.out.2.below.cell (p := ⟨b, o + k * 2 + 1, none⟩) hbl).trans c1
        have C1 := Lib.hid c1
        have HST := Lib.hid (stAt_succ (cols := cols) hg)
        have HSA := Lib.hid (spAt_some (cols := cols) hg)
        clear hg c0 c1 b6
        by_cases hwr : cols - s.c < g.w
        · have d5 : decide (cols - s.c < g.w) = true := decide_eq_true hwr
          have HA := Lib.hid (show adv cols s g.w = ⟨s.r + 1, 0⟩ from if_pos hwr)
          go_wp2_with (at_builtin; refine wpList_push spot2_elt HG.out.2.own hz rfl rfl rfl rfl rfl rfl rfl (by unfold maxLen; omega) (by omega) ?_; intro A3 c3' w3 hp; have hb3 := hp.below HG.out.2.below HG.out.2.own (Nat.le_refl _); have c4 := (hb3.cell (p := ⟨b, o + k * 2 + 1, none⟩) hbl).trans C1.out; have HP := Lib.hid hp; clear hp hb3)
          go_roundw
          case rel => exact ⟨k + 1, ⟨s.r + 1, g.w⟩, _, _, by omega, by go_num, rfl, rfl, rfl, Lib.hid ⟨by rw [HST.out, HG.out.1]; unfold stp; rw [HA.out]; simp, by rw [spots_take, HSA.out, HG.out.1, HA.out]; exact HG.out.2.push (Below.refl _ _) HP.out⟩⟩
          case measure => simp [intOf]; omega
        · have d5 : decide (cols - s.c < g.w) = false := decide_eq_false hwr
          have HA := Lib.hid (show adv cols s g.w = s from if_neg hwr)
          go_wp2_with (at_builtin; refine wpList_push spot2_elt HG.out.2.own hz rfl rfl rfl rfl rfl rfl rfl (by unfold maxLen; omega) (by omega) ?_; intro A3 c3' w3 hp; have hb3 := hp.below HG.out.2.below HG.out.2.own (Nat.le_refl _); have c4 := (hb3.cell (p := ⟨b, o + k * 2 + 1, none⟩) hbl).trans C1.out; have HP := Lib.hid hp; clear hp hb3)
          go_roundw
          case rel => exact ⟨k + 1, ⟨s.r, s.c + g.w⟩, _, _, by omega, by go_num, rfl, rfl, rfl, Lib.hid ⟨by rw [HST.out, HG.out.1]; unfold stp; rw [HA.out], by rw [spots_take, HSA.out, HG.out.1, HA.out]; exact HG.out.2.push (Below.refl _ _) HP.out⟩⟩
          case measure => simp [intOf]; omega
      · obtain rfl : k = L.length := by omega
        have HE := Lib.hid (spAt_end cols L)
        clear b6 hlt
        by_cases hwr : cols ≤ s.c
        · have d5 : decide (cols ≤ s.c) = true := decide_eq_true hwr
          have HA := Lib.hid (show fin cols s = ⟨s.r + 1, 0⟩ from if_pos hwr)
          go_wp2_with (at_builtin; refine wpList_push spot2_elt HG.out.2.own hz rfl rfl rfl rfl rfl rfl rfl (by unfold maxLen; omega) (by omega) ?_; intro A3 c3' w3 hp; have HP := Lib.hid hp; clear hp)
          have HT := Lib.hid (show TellsO 32 2 encP (placeP cols L) w (.returned (.slice A3 (L.length + 1) c3')) w3 from by rw [hp.out]; unfold spots; rw [spots_take, HE.out, HG.out.1, HA.out]; exact (HG.out.2.push (Below.refl _ _) HP.out).tells)
          go_ret
          exact HT.out
        · have d5 : decide (cols ≤ s.c) = false := decide_eq_false hwr
          have HA := Lib.hid (show fin cols s = s from if_neg hwr)
          go_wp2_with (at_builtin; refine wpList_push spot2_elt HG.out.2.own hz rfl rfl rfl rfl rfl rfl rfl (by unfold maxLen; omega) (by omega) ?_; intro A3 c3' w3 hp; have HP := Lib.hid hp; clear hp)
          have HT := Lib.hid (show TellsO 32 2 encP (placeP cols L) w (.returned (.slice A3 (L.length + 1) c3')) w3 from by rw [hp.out]; unfold spots; rw [spots_take, HE.out, HG.out.1, HA.out]; exact (HG.out.2.push (Below.refl _ _) HP.out).tells)
          go_ret
          exact HT.out
end Go.Proofs.Ytmckoabhgjfiiaa
