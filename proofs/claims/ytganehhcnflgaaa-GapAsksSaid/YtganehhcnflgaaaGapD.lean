/- gap: move, to the right. -/
import Derived.Test.YtganehhcnflgaaaGapC
namespace Go.Proofs.Ytganehhcnflgaaa
open Go.RowKit
set_option linter.unusedVariables false
set_option linter.unusedSimpArgs false

set_option maxHeartbeats 4000000 in
set_option maxRecDepth 100000 in
theorem move_right {w : World} {gb B0 : Nat} {A : Option Addr} {N C fr te a : Nat} {cur : List Int} (G : Gp w gb B0 A N C fr te cur) (ha : fr ≤ a) (haN : a + (te - fr) ≤ N) :
    Calls Try.prog 15 #[ptr gb, .int .i64 a] w fun e w' => (∃ v, e = .returned v) ∧ (∃ cur', Gp w' gb B0 A N C a (a + (te - fr)) cur' ∧ held a (a + (te - fr)) cur' = held fr te cur) ∧ Chg (Mine gb A) w w' := by
  have HG := Lib.hid G
  obtain ⟨y0, k0, j0⟩ := (show Blk _ _ _ from G.blk)
  have h1 := G.ft
  have h2 := G.tn
  have h3 : N ≤ C := by have := G.mem.cap; have := G.len; omega
  have h5 := G.max
  clear G
  obtain ⟨W, hW⟩ : ∃ W, te - fr = W := ⟨_, rfl⟩
  obtain ⟨E, hE⟩ : ∃ E, a + W = E := ⟨_, rfl⟩
  obtain ⟨AE, hAE⟩ : ∃ AA, (if C = te then A else Option.map (fun x => x.add te) A) = AA := ⟨_, rfl⟩
  obtain ⟨AA, hAA⟩ : ∃ AA, (if C = fr then A else Option.map (fun x => x.add fr) A) = AA := ⟨_, rfl⟩
  have eW : (te : Int) - (fr : Int) = (W : Int) := by omega
  have ewW : IntKind.i64.wrap (W : Int) = (W : Int) := IntWalk.i64_in _ (by omega)
  have eE : (a : Int) + (W : Int) = (E : Int) := by omega
  have ewE : IntKind.i64.wrap (E : Int) = (E : Int) := IntWalk.i64_in _ (by omega)
  have eT : (fr : Int) + (W : Int) = (te : Int) := by omega
  have d0 : decide ((a : Int) < (fr : Int)) = false := by simp; omega
  have e0 : (0 : Int) ≤ (fr : Int) := by omega
  have e1 : (fr : Int) ≤ (a : Int) := by omega
  have e2 : (a : Int) ≤ (C : Int) := by omega
  have f0 : (0 : Int) ≤ (te : Int) := by omega
  have f1 : (te : Int) ≤ (E : Int) := by omega
  have f2 : (E : Int) ≤ (C : Int) := by omega
  have HS := Lib.hid (show E - te = a - fr ∧ fr + (a - fr) ≤ N ∧ te + (a - fr) ≤ N ∧ (0 < a - fr → AA = A.map (·.add fr) ∧ AE = A.map (·.add te)) from
    ⟨by omega, by omega, by omega, fun h => ⟨by rw [← hAA, if_neg (by omega)], by rw [← hAE, if_neg (by omega)]⟩⟩)
  have HW := Lib.hid hW
  have HE := Lib.hid hE
  have hEN : E ≤ N := by omega
  have haE : a ≤ E := by omega
  have htE : te ≤ E := by omega
  obtain ⟨cs, hcs⟩ : ∃ cs, (cur.drop te).take (a - fr) = cs := ⟨_, rfl⟩
  have hcl : cs.length = a - fr := by rw [← hcs]; have := HG.out.len; simp; omega
  have HC := Lib.hid (And.intro hcs hcl)
  clear hcs hcl hW hE haN
  go_enter Try.func15, Try.ntmps15
  go_wp2
  go_quiet (fail)
  go_wp2
  refine at_world (fun X => Gp X gb B0 A N C fr te cur ∧ Chg (Mine gb A) w X) ⟨HG.out.drewN _, (Chg.refl _ _).drewN _⟩ ?_
  rintro X ⟨GX, CX⟩
  have HX := Lib.hid (And.intro GX CX)
  clear y0 k0 j0
  obtain ⟨y1, k1, j1⟩ := (show Blk _ _ _ from GX.blk)
  clear GX CX
  go_still_tail 22, (by kernel_rfl)
  change wpList _ _ _ _ _ X.drew
  refine wpList_copy_mem (off := fr) (cs := cs) (by rfl) (by rfl) Try.underlying22 sizeI (by rfl) (by rfl) HX.out.1.drew.mem ?_ ?_ ?_ ?_
  · rw [HC.out.2, HS.out.1]; exact (Nat.min_self _).symm
  · intro h
    rw [HC.out.2] at h
    have hh := HS.out.2.2.2 h
    refine ⟨hh.1, ?_⟩
    rw [hh.2, ← HC.out.1]
    exact HX.out.1.drew.mem.src te (a - fr) (by rw [HG.out.len]; exact HS.out.2.2.1) (by rw [HC.out.1, List.length_map, HC.out.2]; exact h)
  · rw [HC.out.2, HG.out.len]; exact HS.out.2.1
  intro w3 hL
  have B3 := HX.out.1.blk.drew.chg hL.out.2 HG.out.ne
  have HB3 := Lib.hid B3
  obtain ⟨y3, k3, j3⟩ := (show Blk _ _ _ from B3)
  clear B3 y1 k1 j1
  have hl3 : (splice cur fr cs).length = N := (length_splice _ _ _ (by rw [HC.out.2, HG.out.len]; exact HS.out.2.1)).trans HG.out.len
  have GY : Gp ((w3.setCell ⟨gb, 1, none⟩ (.int .i64 a)).setCell ⟨gb, 2, none⟩ (.int .i64 E)) gb B0 A N C a E (splice cur fr cs) :=
    Gp.set_ hL.out.1 (((Chg.refl (fun k => k = gb) w3).setCell gb 1 rfl _).setCell gb 2 rfl _) ((HB3.out.set_ 1 (by simp) _).set_ 2 (by simp) _) hl3 haE hEN h5 HG.out.ne
  have CY : Chg (Mine gb A) w ((w3.setCell ⟨gb, 1, none⟩ (.int .i64 a)).setCell ⟨gb, 2, none⟩ (.int .i64 E)) :=
    ((HX.out.2.trans (hL.out.base.2.mono fun k _ hk => Or.inr hk)).setCell gb 1 (.inl rfl) _).setCell gb 2 (.inl rfl) _
  have hheld : held a E (splice cur fr cs) = held fr te cur := by
    have := held_right (cur := cur) (fr := fr) (te := te) (a := a) (by omega) h1 (by rw [HW.out, HE.out, HG.out.len]; exact hEN)
    rw [HW.out, HE.out, HC.out.1] at this
    exact this
  have HY := Lib.hid (And.intro GY (And.intro CY (And.intro hheld hl3)))
  clear hl3 GY CY hheld
  by_cases hm : te < a
  · have hm1 : (te : Int) < (a : Int) := by omega
    have f4 : (a : Int) ≤ (E : Int) := by omega
    have f5 : (0 : Int) ≤ (a : Int) := by omega
    have hm2 : max te a = a := by omega
    obtain ⟨AM, hAM⟩ : ∃ AA, (if C = a then A else Option.map (fun x => x.add a) A) = AA := ⟨_, rfl⟩
    go_wp2
    obtain ⟨w5, hrun, hl⟩ := run_clear_mem (P := Try.prog) (t := 22) (ty := 0) (c := C - a) (off := a) (n := E - a) (dp := AM) Try.underlying22 zeroI HY.out.1.mem (fun h => by rw [← hAM, if_neg (by omega)]) (by rw [HY.out.2.2.2]; omega)
    rw [hrun]
    have HL5 := Lib.hid hl
    clear hl hrun
    go_wp2
    refine bodyPost_end (results_none rfl _ _ _) rfl ⟨⟨_, rfl⟩, ?_, ?_⟩
    · rw [HW.out, HE.out]
      exact ⟨_, HY.out.1.cleared HL5.out (by omega), (held_clear (Nat.le_refl _) (by omega) (by rw [HY.out.2.2.2]; omega)).trans HY.out.2.2.1⟩
    · exact HY.out.2.1.trans (HL5.out.2.mono fun k _ hk => Or.inr hk)
  · have hm1 : (a : Int) ≤ (te : Int) := by omega
    have hm2 : max te a = te := by omega
    go_wp2
    obtain ⟨w5, hrun, hl⟩ := run_clear_mem (P := Try.prog) (t := 22) (ty := 0) (c := C - te) (off := te) (n := E - te) (dp := AE) Try.underlying22 zeroI HY.out.1.mem (fun h => by rw [← hAE, if_neg (by omega)]) (by rw [HY.out.2.2.2]; omega)
    rw [hrun]
    have HL5 := Lib.hid hl
    clear hl hrun
    go_wp2
    refine bodyPost_end (results_none rfl _ _ _) rfl ⟨⟨_, rfl⟩, ?_, ?_⟩
    · rw [HW.out, HE.out]
      exact ⟨_, HY.out.1.cleared HL5.out (by omega), (held_clear (by omega) (by omega) (by rw [HY.out.2.2.2]; omega)).trans HY.out.2.2.1⟩
    · exact HY.out.2.1.trans (HL5.out.2.mono fun k _ hk => Or.inr hk)

/-- What a list is behind a step of its own: the list L, the gap from a to E. -/
def Moved (w : World) (gb B0 : Nat) (A : Option Addr) (N C a E : Nat) (L : List Int) (e : Ending) (w' : World) : Prop := (∃ v, e = .returned v) ∧ (∃ cur', Gp w' gb B0 A N C a E cur' ∧ held a E cur' = L) ∧ Chg (Mine gb A) w w'
theorem move_any {w : World} {gb B0 : Nat} {A : Option Addr} {N C fr te a : Nat} {cur : List Int} (G : Gp w gb B0 A N C fr te cur) (haN : a + (te - fr) ≤ N) :
    Calls Try.prog 15 #[ptr gb, .int .i64 a] w (Moved w gb B0 A N C a (a + (te - fr)) (held fr te cur)) := by
  by_cases h : a < fr
  · exact move_left G h
  · exact move_right G (by omega) haN
end Go.Proofs.Ytganehhcnflgaaa
