/- gap: move. -/
import Derived.Test.YtganehhcnflgaaaGapB
namespace Go.Proofs.Ytganehhcnflgaaa
open Go.RowKit
set_option linter.unusedVariables false
set_option linter.unusedSimpArgs false
set_option maxHeartbeats 4000000 in
set_option maxRecDepth 100000 in
theorem move_left {w : World} {gb B0 : Nat} {A : Option Addr} {N C fr te a : Nat} {cur : List Int} (G : Gp w gb B0 A N C fr te cur) (ha : a < fr) :
    Calls Try.prog 15 #[ptr gb, .int .i64 a] w fun e w' => (∃ v, e = .returned v) ∧ (∃ cur', Gp w' gb B0 A N C a (a + (te - fr)) cur' ∧ held a (a + (te - fr)) cur' = held fr te cur) ∧ Chg (Mine gb A) w w' := by
  have HG := Lib.hid G
  obtain ⟨y0, k0, j0⟩ := (show Blk _ _ _ from G.blk)
  have h1 := G.ft
  have h2 := G.tn
  have h3 : N ≤ C := by have := G.mem.cap; have := G.len; omega
  have h5 := G.max
  clear G
  obtain ⟨W, hW⟩ : ∃ W, te - fr = W := ⟨_, rfl⟩
  obtain ⟨E, hE⟩ : ∃ E, a + W = E := ⟨_, rfl⟩
  obtain ⟨M, hM⟩ : ∃ M, min fr E = M := ⟨_, rfl⟩
  obtain ⟨AE, hAE⟩ : ∃ AA, (if C = E then A else Option.map (fun x => x.add E) A) = AA := ⟨_, rfl⟩
  obtain ⟨AA, hAA⟩ : ∃ AA, (if C = a then A else Option.map (fun x => x.add a) A) = AA := ⟨_, rfl⟩
  have eW : (te : Int) - (fr : Int) = (W : Int) := by omega
  have ewW : IntKind.i64.wrap (W : Int) = (W : Int) := IntWalk.i64_in _ (by omega)
  have eE : (a : Int) + (W : Int) = (E : Int) := by omega
  have ewE : IntKind.i64.wrap (E : Int) = (E : Int) := IntWalk.i64_in _ (by omega)
  have d0 : decide ((a : Int) < (fr : Int)) = true := by simp; omega
  have e0 : (0 : Int) ≤ (E : Int) := by omega
  have e1 : (E : Int) ≤ (te : Int) := by omega
  have e2 : (te : Int) ≤ (C : Int) := by omega
  have f0 : (0 : Int) ≤ (a : Int) := by omega
  have f1 : (a : Int) ≤ (fr : Int) := by omega
  have f2 : (fr : Int) ≤ (C : Int) := by omega
  have HS := Lib.hid (show te - E = fr - a ∧ a ≤ fr ∧ E + (fr - a) ≤ N ∧ (0 < fr - a → AE = A.map (·.add E) ∧ AA = A.map (·.add a)) ∧ a ≤ M ∧ M ≤ E ∧ M ≤ fr ∧ (0 < M - a → AA = A.map (·.add a)) from
    ⟨by omega, by omega, by omega, fun h => ⟨by rw [← hAE, if_neg (by omega)], by rw [← hAA, if_neg (by omega)]⟩, by omega, by omega, by omega, fun h => by rw [← hAA, if_neg (by omega)]⟩)
  have HW := Lib.hid hW
  have HE := Lib.hid hE
  obtain ⟨cs, hcs⟩ : ∃ cs, (cur.drop a).take (fr - a) = cs := ⟨_, rfl⟩
  have hcl : cs.length = fr - a := by rw [← hcs]; have := HG.out.len; simp; omega
  have HC := Lib.hid (And.intro hcs hcl)
  clear hcs hcl hW hE hM
  go_enter Try.func15, Try.ntmps15
  go_wp2
  go_quiet (fail)
  go_wp2
  refine at_world (fun X => Gp X gb B0 A N C fr te cur ∧ Chg (Mine gb A) w X) ⟨⟨HG.out.blk.drewN _, HG.out.mem, HG.out.len, HG.out.ft, HG.out.tn, HG.out.max, HG.out.ne⟩, (Chg.refl _ _).drewN _⟩ ?_
  rintro X ⟨GX, CX⟩
  have HX := Lib.hid (And.intro GX CX)
  clear y0 k0 j0
  obtain ⟨y1, k1, j1⟩ := (show Blk _ _ _ from GX.blk)
  clear GX CX
  go_still_tail 22, (by kernel_rfl)
  change wpList _ _ _ _ _ X.drew
  refine wpList_copy_mem (off := E) (cs := cs) (by rfl) (by rfl) Try.underlying22 sizeI (by rfl) (by rfl) HX.out.1.drew.mem ?_ ?_ ?_ ?_
  · rw [HC.out.2, HS.out.1]; exact (Nat.min_self _).symm
  · intro h
    rw [HC.out.2] at h
    have hh := HS.out.2.2.2.1 h
    refine ⟨hh.1, ?_⟩
    rw [hh.2, ← HC.out.1]
    exact HX.out.1.drew.mem.src a (fr - a) (by have := HG.out.len; have := HG.out.tn; omega) (by rw [HC.out.1, List.length_map, HC.out.2]; exact h)
  · rw [HC.out.2, HG.out.len]; exact HS.out.2.2.1
  intro w3 hL
  have B3 := HX.out.1.blk.drew.chg hL.out.2 HG.out.ne
  have HB3 := Lib.hid B3
  obtain ⟨y3, k3, j3⟩ := (show Blk _ _ _ from B3)
  clear B3 y1 k1 j1
  have hl3 : (splice cur E cs).length = N := (length_splice _ _ _ (by rw [HC.out.2, HG.out.len]; exact HS.out.2.2.1)).trans HG.out.len
  have GY : Gp ((w3.setCell ⟨gb, 1, none⟩ (.int .i64 a)).setCell ⟨gb, 2, none⟩ (.int .i64 E)) gb B0 A N C a E (splice cur E cs) :=
    Gp.set_ hL.out.1 (((Chg.refl (fun k => k = gb) w3).setCell gb 1 rfl _).setCell gb 2 rfl _) ((HB3.out.set_ 1 (by simp) _).set_ 2 (by simp) _) hl3 (by omega) (by omega) h5 HG.out.ne
  have CY : Chg (Mine gb A) w ((w3.setCell ⟨gb, 1, none⟩ (.int .i64 a)).setCell ⟨gb, 2, none⟩ (.int .i64 E)) :=
    ((HX.out.2.trans (hL.out.base.2.mono fun k _ hk => Or.inr hk)).setCell gb 1 (.inl rfl) _).setCell gb 2 (.inl rfl) _
  have hheld : held a E (splice cur E cs) = held fr te cur := by
    have := held_left (cur := cur) (fr := fr) (te := te) (a := a) (by omega) h1 (by rw [HG.out.len]; exact h2)
    rw [HW.out, HE.out, HC.out.1] at this
    exact this
  have HY := Lib.hid (And.intro GY (And.intro CY (And.intro hheld hl3)))
  clear hl3 GY CY hheld
  by_cases hm : E < fr
  · have hm1 : (E : Int) < (fr : Int) := by omega
    have hm2 : min fr E = E := by omega
    have f3 : (a : Int) ≤ (E : Int) := by omega
    have f4 : (E : Int) ≤ (C : Int) := by omega
    go_wp2
    obtain ⟨w5, hrun, hl⟩ := run_clear_mem (P := Try.prog) (t := 22) (ty := 0) (c := C - a) (off := a) (n := E - a) (dp := Option.map (fun x => x.add a) A) Try.underlying22 zeroI HY.out.1.mem (fun h => rfl) (by rw [HY.out.2.2.2]; omega)
    rw [hrun]
    have HL5 := Lib.hid hl
    clear hl hrun
    go_wp2
    refine bodyPost_end (results_none rfl _ _ _) rfl ⟨⟨_, rfl⟩, ?_, ?_⟩
    · rw [HW.out, HE.out]
      exact ⟨_, HY.out.1.cleared HL5.out (by omega), (held_clear (Nat.le_refl _) (by omega) (by rw [HY.out.2.2.2]; omega)).trans HY.out.2.2.1⟩
    · exact HY.out.2.1.trans (HL5.out.2.mono fun k _ hk => Or.inr hk)
  · have hm1 : (fr : Int) ≤ (E : Int) := by omega
    have hm2 : min fr E = fr := by omega
    go_wp2
    obtain ⟨w5, hrun, hl⟩ := run_clear_mem (P := Try.prog) (t := 22) (ty := 0) (c := C - a) (off := a) (n := fr - a) (dp := Option.map (fun x => x.add a) A) Try.underlying22 zeroI HY.out.1.mem (fun h => rfl) (by rw [HY.out.2.2.2]; omega)
    rw [hrun]
    have HL5 := Lib.hid hl
    clear hl hrun
    go_wp2
    refine bodyPost_end (results_none rfl _ _ _) rfl ⟨⟨_, rfl⟩, ?_, ?_⟩
    · rw [HW.out, HE.out]
      exact ⟨_, HY.out.1.cleared HL5.out (by omega), (held_clear (Nat.le_refl _) (by omega) (by rw [HY.out.2.2.2]; omega)).trans HY.out.2.2.1⟩
    · exact HY.out.2.1.trans (HL5.out.2.mono fun k _ hk => Or.inr hk)
end Go.Proofs.Ytganehhcnflgaaa
