/- gap: widen. -/
import Derived.Test.YtganehhcnflgaaaGapD
import Derived.Deep.OwnRows
namespace Go.Proofs.Ytganehhcnflgaaa
open Go.RowKit
set_option linter.unusedVariables false
set_option linter.unusedSimpArgs false

theorem infoI : (Try.prog.info? 3).map (fun i => (i.zero, i.size, i.bytes)) = some (some (.int .i64 0), 1, 8) := by kernel_rfl

theorem mem_made (w : World) (M B0 : Nat) (hB : B0 ≤ w.heap.size) : Mem (w.alloc (.cells (madeCells #[.int .i64 0] M) 3)) B0 (some ⟨w.heap.size, 0, none⟩) M (List.replicate M 0) := by
  refine .inr ⟨w.heap.size, [], rfl, hB, ?_, by simp⟩
  rw [heap_alloc_new]
  congr 2
  apply Array.ext'
  simp [madeCells]
  apply List.ext_getElem?
  intro j
  by_cases h : j < M
  · simp [h, Nat.mod_one, vI]
  · simp [h]

set_option maxHeartbeats 1000000 in
set_option maxRecDepth 100000 in
theorem widen_not {w : World} {gb B0 : Nat} {A : Option Addr} {N C fr te n : Nat} {cur : List Int} (G : Gp w gb B0 A N C fr te cur) (hn : n ≤ te - fr) :
    Calls Try.prog 17 #[ptr gb, .int .i64 n] w fun e w' => (∃ v, e = .returned v) ∧ ∃ q, w' = w.drewN q := by
  obtain ⟨y0, k0, j0⟩ := (show Blk _ _ _ from G.blk)
  have h1 := G.ft
  have h2 := G.tn
  have h5 := G.max
  have d0 : (n : Int) ≤ (te : Int) - (fr : Int) := by omega
  clear G
  go_enter Try.func17, Try.ntmps17
  go_wp2
  go_quiet (fail)
  go_wp2
  refine bodyPost_ret (results_none rfl _ _ _) rfl ⟨⟨_, rfl⟩, _, rfl⟩

set_option maxHeartbeats 4000000 in
set_option maxRecDepth 100000 in
theorem widen_yes {w : World} {gb B0 : Nat} {A : Option Addr} {N C fr te n : Nat} {cur : List Int} (G : Gp w gb B0 A N C fr te cur) (hn : te - fr < n) (hB : B0 ≤ w.heap.size) (hM : (held fr te cur).length + n + (held fr te cur).length / 2 ≤ 100000) :
    Calls Try.prog 17 #[ptr gb, .int .i64 n] w fun e w' => (∃ v, e = .returned v) ∧ (∃ N' te' b cur', Gp w' gb B0 (some ⟨b, 0, none⟩) N' N' fr te' cur' ∧ fr + n ≤ te' ∧ held fr te' cur' = held fr te cur ∧ w.heap.size ≤ b) ∧ Chg (Mine gb A) w w' := by
  have HG := Lib.hid G
  obtain ⟨y0, k0, j0⟩ := (show Blk _ _ _ from G.blk)
  have h1 := G.ft
  have h2 := G.tn
  have h3 : N ≤ C := by have := G.mem.cap; have := G.len; omega
  have h5 := G.max
  have hHl : (held fr te cur).length = N - (te - fr) := by rw [held_len h1 (by rw [G.len]; exact h2), G.len]
  obtain ⟨H, hH⟩ : ∃ H, (held fr te cur).length = H := ⟨_, rfl⟩
  rw [hH] at hM hHl
  have HH := Lib.hid hH
  clear G hH
  obtain ⟨D, hD⟩ : ∃ D, H / 2 = D := ⟨_, rfl⟩
  obtain ⟨M, hMM⟩ : ∃ M, H + n + D = M := ⟨_, rfl⟩
  obtain ⟨T, hT⟩ : ∃ T, M - (N - te) = T := ⟨_, rfl⟩
  rw [hD] at hM
  have d0 : (te : Int) - (fr : Int) < (n : Int) := by omega
  have m1 : (H : Int) + (n : Int) + (D : Int) = (M : Int) := by omega
  have hD1 : D ≤ 100000 := by omega
  have hD2 : (H : Int) / 2 = (D : Int) := by omega
  have hM1 : M ≤ 100000 := by omega
  have hH1 : H ≤ 100000 := by omega
  obtain ⟨R, hR⟩ : ∃ R, N - te = R := ⟨_, rfl⟩
  have r1 : (N : Int) - (te : Int) = (R : Int) := by omega
  have r2 : (M : Int) - (R : Int) = (T : Int) := by omega
  have r3 : IntKind.i64.wrap (R : Int) = (R : Int) := IntWalk.i64_in _ (by omega)
  have r4 : IntKind.i64.wrap (T : Int) = (T : Int) := IntWalk.i64_in _ (by omega)
  have f0 : (0 : Int) ≤ (fr : Int) := by omega
  have f1 : (fr : Int) ≤ (C : Int) := by omega
  have f2 : (0 : Int) ≤ (T : Int) := by omega
  have f3 : (T : Int) ≤ (M : Int) := by omega
  have f4 : (0 : Int) ≤ (te : Int) := by omega
  have f5 : (te : Int) ≤ (N : Int) := by omega
  have f6 : (N : Int) ≤ (C : Int) := by omega
  have f7 : (te : Int) ≤ (C : Int) := by omega
  have hTM : M - T = R ∧ N - te = R ∧ T + R = M ∧ fr + n ≤ T ∧ fr ≤ M := by omega
  have HTM := Lib.hid hTM
  clear hTM
  have hmk := run_make_row' (P := Try.prog) 22 3 (.int .i64 0) 8 Try.underlying22 infoI rfl .i64 .i64 M (by omega) (by omega)
  have HD := Lib.hid (And.intro hD (And.intro hMM (And.intro hT hHl)))
  clear hD hMM hT hHl hR
  obtain ⟨AE, hAE⟩ : ∃ AA, (if C = te then A else Option.map (fun x => x.add te) A) = AA := ⟨_, rfl⟩
  go_enter Try.func17, Try.ntmps17
  go_wp2
  go_quiet (fail)
  go_wp2_with fail
  have CL := Lib.hid (len_any (HG.out.drewN nq))
  rw [HH.out] at CL
  (with_reducible refine CL.out.mono ?_)
  rintro e w1 ⟨rfl, q1, rfl⟩
  clear CL
  refine at_world (fun X => Gp X gb B0 A N C fr te cur ∧ Chg (Mine gb A) w X) ⟨(HG.out.drewN _).drewN _, ((Chg.refl _ _).drewN _).drewN _⟩ ?_
  rintro X ⟨GX, CX⟩
  have HX := Lib.hid (And.intro GX CX)
  clear y0 k0 j0
  obtain ⟨y1, k1, j1⟩ := (show Blk _ _ _ from GX.blk)
  clear GX CX
  go_wp2
  have GY : Gp (X.alloc (.cells (madeCells #[.int .i64 0] M) 3)) gb B0 A N C fr te cur ∧ Chg (Mine gb A) w (X.alloc (.cells (madeCells #[.int .i64 0] M) 3)) := by
    have ca : Chg (fun _ => False) X (X.alloc (.cells (madeCells #[.int .i64 0] M) 3)) := ⟨rfl, rfl, rfl, by simp, fun k hk _ => by rw [heap_alloc_old _ _ hk]⟩
    exact ⟨⟨HX.out.1.blk.chg ca (fun h => h), HX.out.1.mem.chg ca (fun _ _ h => h), HX.out.1.len, h1, h2, h5, HX.out.1.ne⟩, HX.out.2.trans (ca.mono fun _ _ h => h.elim)⟩
  have MY := mem_made X M B0 (Nat.le_trans hB HX.out.2.size)
  have HY := Lib.hid (And.intro GY MY)
  clear GY MY
  have hxl : X.heap.size ≠ gb ∧ ¬ Own A X.heap.size := ⟨by omega, fun h => by have := (HX.out.1.mem.lt _ h).2; omega⟩
  have HXL := Lib.hid hxl
  clear hxl
  obtain ⟨AN, hAN⟩ : ∃ AN, some (⟨X.heap.size, 0, none⟩ : Addr) = AN := ⟨_, rfl⟩
  obtain ⟨AT, hAT⟩ : ∃ AT, (if M = T then AN else Option.map (fun x => x.add T) AN) = AT := ⟨_, rfl⟩
  refine at_world (fun Y => (Gp Y gb B0 A N C fr te cur ∧ Chg (Mine gb A) w Y) ∧ Mem Y B0 AN M (List.replicate M 0)) (hAN ▸ HY.out) ?_
  rintro Y GY
  have HYY := Lib.hid GY
  clear k1 j1 y1 HY
  obtain ⟨y2, k2, j2⟩ := (show Blk _ _ _ from GY.1.1.blk)
  clear GY
  rw [hAN]
  have HAN := Lib.hid hAN
  clear hAN hmk
  go_still_tail 10, (by kernel_rfl)
  change wpList _ _ _ _ _ Y.drew
  refine wpList_copy_mem (off := 0) (cs := cur.take fr) (A := AN) (C := M) (cur := List.replicate M 0) (B0 := B0) (by rfl) (by rfl) Try.underlying22 sizeI (by rfl) (by rfl) HYY.out.2 ?_ ?_ ?_ ?_
  · have e : (cur.take fr).length = fr := by rw [List.length_take]; have := HYY.out.1.1.len; omega
    rw [e]
    exact (Nat.min_eq_left HTM.out.2.2.2.2).symm
  · intro h
    refine ⟨by rw [← HAN.out]; rfl, ?_⟩
    have := HYY.out.1.1.drew.mem.src 0 fr (by have := HYY.out.1.1.len; omega) (by simpa using h)
    rw [List.drop_zero] at this
    obtain ⟨ad, e, hh⟩ := this
    refine ⟨ad, ?_, hh⟩
    rw [← e]
    cases A with
    | none => rfl
    | some ad => rfl
  · have := HTM.out.2.2.2.2; simp; omega
  intro w3 hL
  have hno : ¬ Own AN gb ∧ ∀ b, Own A b → ¬ Own AN b := by
    rw [← HAN.out]
    refine ⟨fun h => HXL.out.1 (by simpa [Own] using h), fun b hb h => HXL.out.2 ?_⟩
    have e : X.heap.size = b := by simpa [Own] using h
    rw [e]; exact hb
  have CZ : Chg (Own AN) Y w3 := hL.out.base.2
  have GZ : Gp w3 gb B0 A N C fr te cur := HYY.out.1.1.chg CZ hno.1 hno.2
  have hnew : ∀ j, j < w.heap.size → Own AN j → Mine gb A j := by
    intro j hj h
    rw [← HAN.out] at h
    have e : X.heap.size = j := by simpa [Own] using h
    have := HX.out.2.size
    omega
  have HZ := Lib.hid (And.intro (And.intro GZ (HYY.out.1.2.next CZ hnew)) (And.intro hL.out.1 (And.intro hno hnew)))
  clear hno CZ GZ hnew k2 j2 y2
  obtain ⟨y3, k3, j3⟩ := (show Blk _ _ _ from HZ.out.1.1.blk)
  go_wp2
  go_quiet (fail)
  go_wp2
  refine at_world (fun Z => (Gp Z gb B0 A N C fr te cur ∧ Chg (Mine gb A) w Z) ∧ Mem Z B0 AN M (splice (List.replicate M 0) 0 (cur.take fr))) ⟨⟨HZ.out.1.1.drewN _, HZ.out.1.2.drewN _⟩, HZ.out.2.1⟩ ?_
  rintro Z GZ
  have HZZ := Lib.hid GZ
  clear k3 j3 y3
  obtain ⟨y4, k4, j4⟩ := (show Blk _ _ _ from GZ.1.1.blk)
  clear GZ
  go_still_tail 12, (by kernel_rfl)
  change wpList _ _ _ _ _ Z.drew
  have l1 : (splice (List.replicate M (0 : Int)) 0 (cur.take fr)).length = M := (length_splice _ _ _ (by have := HTM.out.2.2.2.2; simp; omega)).trans (by simp)
  have l2 : (cur.drop te).length = R := by rw [List.length_drop, HG.out.len]; exact HTM.out.2.1
  have HL := Lib.hid (And.intro l1 l2)
  clear l1 l2
  refine wpList_copy_mem (off := T) (cs := cur.drop te) (A := AN) (C := M) (cur := splice (List.replicate M 0) 0 (cur.take fr)) (B0 := B0) (by rfl) (by rfl) Try.underlying22 sizeI (by rfl) (by rfl) HZZ.out.2 ?_ ?_ ?_ ?_
  · rw [HL.out.2, HTM.out.1, HTM.out.2.1]; exact (Nat.min_self _).symm
  · intro h
    rw [HL.out.2] at h
    have hh := HTM.out
    refine ⟨by rw [← hAT, if_neg (by omega)], ?_⟩
    have := HZZ.out.1.1.drew.mem.src te R (by rw [HG.out.len]; omega) (by rw [List.take_of_length_le (by rw [HL.out.2]; exact Nat.le_refl _), List.length_map, HL.out.2]; exact h)
    rw [List.take_of_length_le (by rw [HL.out.2]; exact Nat.le_refl _)] at this
    rw [← hAE, if_neg (by omega)]
    exact this
  · rw [HL.out.1, HL.out.2]; exact Nat.le_of_eq HTM.out.2.2.1
  intro w5 hL5
  have hno := HZ.out.2.2.1
  have CV : Chg (Own AN) Z w5 := hL5.out.base.2
  have GV : Gp w5 gb B0 A N C fr te cur := HZZ.out.1.1.chg CV hno.1 hno.2
  have HV := Lib.hid (And.intro GV (HZZ.out.1.2.next CV HZ.out.2.2.2))
  clear hno CV GV k4 j4 y4
  obtain ⟨y5, k5, j5⟩ := (show Blk _ _ _ from HV.out.1.blk)
  go_wp2
  refine bodyPost_end (results_none rfl _ _ _) rfl ⟨⟨_, rfl⟩, ⟨M, T, X.heap.size, splice (splice (List.replicate M 0) 0 (cur.take fr)) T (cur.drop te), ?_, HTM.out.2.2.2.1, ?_, HX.out.2.size⟩, ?_⟩
  · rw [HAN.out]
    exact Gp.set_ hL5.out.1 (((Chg.refl (fun k => k = gb) w5).setCell gb 0 rfl _).setCell gb 2 rfl _) ((HV.out.1.blk.set_ 0 (by simp) _).set_ 2 (by simp) _)
      ((length_splice _ _ _ (by rw [HL.out.1, HL.out.2]; exact Nat.le_of_eq HTM.out.2.2.1)).trans HL.out.1) (by have := HTM.out; omega) (by omega) hM1 HZ.out.2.2.1.1
  · exact held_wide h1 (by rw [HG.out.len]; exact h2) (by have := HTM.out; omega) (by rw [HG.out.len, HTM.out.2.1]; exact HTM.out.2.2.1)
  · exact (HV.out.2.setCell gb 0 (.inl rfl) _).setCell gb 2 (.inl rfl) _
end Go.Proofs.Ytganehhcnflgaaa
