/- 'typebar/typebarlaw10.SegSteps' returns true for every input, and each argument reads behind the call as it read before. No condition. -/
import Derived.Test.YtggapcfjcdafpaaGreatGb31
import Derived.Test.YtggapcfjcdafpaaGreatGb33
namespace Go.Proofs.YtggapcfjcdafpaaGreat
open Go.RowKit
set_option linter.unusedVariables false
set_option linter.unusedSimpArgs false

theorem same_state (s : SG.St) (w : World) : (Op.equalIn 10000 35 (vSt s) (vSt s)).run Tryz.prog w = .ok true w := by
  rw [show (10000 : Nat) = 9999 + 1 from rfl, run_equalIn_agg w 9999 35 _ _ (by kernel_rfl) (by kernel_rfl)]
  simp only [Program.fieldsOf, Tryz.underlying35]
  have u3 := Tryz.underlying3
  have a3 := Tryz.isAgg3
  have z3 := Tryz.sizeOf3
  have u4 := Tryz.underlying4
  have a4 := Tryz.isAgg4
  have z4 := Tryz.sizeOf4
  obtain ⟨s0, s1, s2, s3, s4, s5⟩ := s
  dsimp only [vSt]
  go_simp
theorem neq_state (a0 : Bool) (a1 a2 : Int) (a3 a4 a5 : Bool) (w : World) : (Go.binOp .neq 35 (.agg #[.bool a0, .int .i64 a1, .int .i64 a2, .bool a3, .bool a4, .bool a5]) (.agg #[.bool a0, .int .i64 a1, .int .i64 a2, .bool a3, .bool a4, .bool a5])).run Tryz.prog w = .ok (.bool false) w := by
  rw [run_neq_struct, show (Value.agg #[.bool a0, .int .i64 a1, .int .i64 a2, .bool a3, .bool a4, .bool a5]) = vSt ⟨a0, a1, a2, a3, a4, a5⟩ from rfl, same_state]
  rfl
theorem blk_far6 {w : World} {g g' : Nat} {cs : Array Value} (h : Blk w g cs) (hne : g' ≠ g) (u0 u1 u2 u3 u4 u5 : Value) : Blk ((((((w.setCell ⟨g', 0, none⟩ u0).setCell ⟨g', 1, none⟩ u1).setCell ⟨g', 2, none⟩ u2).setCell ⟨g', 3, none⟩ u3).setCell ⟨g', 4, none⟩ u4).setCell ⟨g', 5, none⟩ u5) g cs :=
  (((((h.far (p := ⟨g', 0, none⟩) hne u0).far (p := ⟨g', 1, none⟩) hne u1).far (p := ⟨g', 2, none⟩) hne u2).far (p := ⟨g', 3, none⟩) hne u3).far (p := ⟨g', 4, none⟩) hne u4).far (p := ⟨g', 5, none⟩) hne u5
/-- The law's two states. -/
structure TwoSt (W : World) (K : SG.Kinds) (l : List Int) (k : Nat) (X : World) : Prop where
  b0 : Blk X W.heap.size (encSt (SG.stOf K (l.take k).reverse)).toArray
  b1 : Blk X (W.heap.size + 1) (encSt (SG.stOf K (l.take k).reverse)).toArray
  be : Below W.heap.size W X
set_option maxHeartbeats 8000000 in
set_option maxRecDepth 100000 in
theorem walk_SegSteps (w : World) (A0 : Option Addr) (n0 c0 : Nat) (f0 : Nat → Int) (hA : Rd w A0 n0 (fun j => .int .i32 (f0 j))) (hle : n0 ≤ c0) (hmax : c0 ≤ maxLen) (hp : ∀ j, j < n0 → (Lit.int .i32 (f0 j)).wf = true) :
    Calls Tryz.prog 4 #[.slice A0 n0 c0] w (Yes w) := by
  obtain ⟨T, hG, hT, C0⟩ := rows_li w
  obtain ⟨l, hll, hL0, hSc⟩ := came_text hA hp 200
  have hlc : l.length ≤ c0 := by omega
  have hl2 : l.length ≤ 200 := by omega
  have HG := Lib.hid hG
  have C0 := Lib.hid C0
  have HK := Lib.hid (show (KT T).ok by rw [← hT]; exact kt_ok given_conj)
  have AW := Lib.hid (fun X => awake10_yes X)
  have HL := Lib.hid (And.intro hL0 hSc)
  have CF := fews_any A0 n0 c0 200 w hle (by unfold maxLen at hmax; omega) (by omega)
  rw [← hll] at CF
  have CF := Lib.hid CF
  have hcm : c0 ≤ 9223372036854775807 := by unfold maxLen at hmax; omega
  clear hG hA hp hT hL0 hSc hll hle hmax
  go_enter Tryz.func4, Tryz.ntmps4
  go_wp2_with fail
  refine CF.out.mono ?_
  rintro e w0 ⟨rfl, rfl⟩
  clear CF
  go_wp2_with fail
  refine C0.out.mono ?_
  rintro e w1 ⟨A, c, rfl, hL, hc, hm, hb1⟩
  have C1 := Lib.hid (build_tabs A c T w1 (hL.mono fun _ _ => trivial) hc HG.out)
  have L1 := Lib.hid (And.intro (hL.mono (S' := fun _ => True) fun _ _ => trivial) hb1)
  clear C0 hL hb1
  go_wp2_with fail
  refine C1.out.mono ?_
  rintro e w2 ⟨tp, rfl, hU, hb⟩
  have hT : T.length ≤ 100000 := by have := HG.out.len; omega
  have HU := Lib.hid hU
  have HR := Lib.hid (RT.mk (L1.out.1.later hb) hc hT (HL.out.1.later (L1.out.2.trans (hb.mono L1.out.2.size))) HL.out.2 (by omega))
  have H2 := Lib.hid (L1.out.2.trans (hb.mono L1.out.2.size))
  clear hU hb C1 L1
  go_upto_region 5 with fail
  refine at_world (fun X => TwoSt w2 (KT T) l 0 X) ⟨(blk_new _ _ _).alloc _, by have := blk_new (w2.alloc (.cells #[.bool false, .int .i64 0, .int .i64 0, .bool false, .bool false, .bool false] 35)) #[.bool false, .int .i64 0, .int .i64 0, .bool false, .bool false, .bool false] 35; rwa [World.size_alloc] at this, ((Below.refl _ _).alloc (Nat.le_refl _) _).alloc (by simp) _⟩ ?_
  rintro X0 h0
  have H0 := Lib.hid h0
  clear h0
  go_wp2
  go_loopw [7, 8, 9, 10, 11] (fun i _ _ _ _ wr => ∃ k : Nat, k ≤ l.length ∧ i = .int .i64 k ∧ Hid (TwoSt w2 (KT T) l k wr)) (fun i _ _ _ _ _ => l.length - (intOf i).toNat)
  case atStart => exact ⟨0, Nat.zero_le _, rfl, H0⟩
  case round =>
    obtain ⟨k, hk, rfl, H⟩ := hrel
    by_cases hlt : k < l.length
    · obtain ⟨b, o, rfl, hb, _, hcell⟩ := HR.out.txt.sc hlt
      have hcr := (H.out.be.cell (p := ⟨b, o + k, none⟩) hb).trans hcell
      obtain ⟨r, hr⟩ : ∃ r, l.getD k 0 = r := ⟨_, rfl⟩
      have hsc := HR.out.sc.at hlt
      rw [hr] at hcr hsc
      obtain ⟨s, hs⟩ : ∃ s, SG.stOf (KT T) (l.take k).reverse = s := ⟨_, rfl⟩
      have h5 := H.out.b0
      have h6 := H.out.b1
      rw [hs] at h5 h6
      have c1 := fun Z (hZ : Below wr.heap.size wr Z) => step_tab (HU.out.later (bStepS H.out.be hZ)) s r hsc.1 hsc.2
      obtain ⟨s', hs'⟩ : ∃ s', SG.nextS (KT T) s r = s' := ⟨_, rfl⟩
      obtain ⟨q, hq⟩ : ∃ q, SG.beginsS (KT T) s r = q := ⟨_, rfl⟩
      simp only [hs', hq] at c1
      have HN := Lib.hid (show SG.stOf (KT T) (l.take (k + 1)).reverse = s' by rw [SG.st_succ _ hlt, hs, hr, hs'])
      have HQ := Lib.hid (show SG.begAt (KT T) (l.take (k + 1)) k = q by
        unfold SG.begAt
        rw [← SG.begins_ok HK.out, List.take_take, Nat.min_eq_left (Nat.le_succ k), hs, show (l.take (k + 1)).getD k 0 = l.getD k 0 by simp [List.getD, List.getElem?_take], hr, hq])
      obtain ⟨a0, a1, a2, a3, a4, a5⟩ := s
      obtain ⟨n0, n1, n2, n3, n4, n5⟩ := s'
      dsimp only [vSt] at c1
      have C1 := Lib.hid c1
      have HB := Lib.hid (And.intro h5 h6)
      have HSS := Lib.hid (show ∀ Z, Below wr.heap.size wr Z → (fun Z => Z.cell? ⟨w2.heap.size, 0, none⟩ = some (.bool a0) ∧ Z.cell? ⟨w2.heap.size, 1, none⟩ = some (.int .i64 a1) ∧ Z.cell? ⟨w2.heap.size, 2, none⟩ = some (.int .i64 a2) ∧ Z.cell? ⟨w2.heap.size, 3, none⟩ = some (.bool a3) ∧ Z.cell? ⟨w2.heap.size, 4, none⟩ = some (.bool a4) ∧ Z.cell? ⟨w2.heap.size, 5, none⟩ = some (.bool a5) ∧ Z.cell? ⟨b, o + k, none⟩ = some (.int .i32 r)) Z from fun Z hZ => by
        have h := HB.out.1.later hZ HB.out.1.1
        exact ⟨h.2.1 0, h.2.1 1, h.2.1 2, h.2.1 3, h.2.1 4, h.2.1 5, (hZ.cell (p := ⟨b, o + k, none⟩) (Nat.lt_of_lt_of_le hb H.out.be.size)).trans hcr⟩)
      have hs0 := HSS.out wr (Below.refl _ _)
      have d4 : (k : Int) < (l.length : Int) := by omega
      have d5 : (0 : Int) ≤ (k : Int) := by omega
      clear c1 hs hs' hq hr h5 h6 hcell hsc
      go_wp2_with fail
      go_cut [8, 9] from 17 to 58 (fun sp sq wx => ∃ M : Nat, sp = .pointer (some ⟨M, 0, none⟩) ∧ sq = .bool q ∧ Hid (Below wr.heap.size wr wx ∧ Blk wx M #[.bool n0, .int .i64 n1, .int .i64 n2, .bool n3, .bool n4, .bool n5] ∧ wr.heap.size ≤ M))
      case first =>
        go_region_held3 (fun Z => Z.cell? ⟨w2.heap.size, 0, none⟩ = some (.bool a0) ∧ Z.cell? ⟨w2.heap.size, 1, none⟩ = some (.int .i64 a1) ∧ Z.cell? ⟨w2.heap.size, 2, none⟩ = some (.int .i64 a2) ∧ Z.cell? ⟨w2.heap.size, 3, none⟩ = some (.bool a3) ∧ Z.cell? ⟨w2.heap.size, 4, none⟩ = some (.bool a4) ∧ Z.cell? ⟨w2.heap.size, 5, none⟩ = some (.bool a5) ∧ Z.cell? ⟨b, o + k, none⟩ = some (.int .i32 r))
          (first | with_reducible exact HSS.out _ (bel_six B5.out (Nat.le_refl _) _ _ _ _ _ _) | with_reducible exact HSS.out _ (belowStep B5.out (belAlloc w5 _)) | with_reducible exact HSS.out _ B5.out | with_reducible exact HSS.out _ (belAlloc wr _).drew | with_reducible exact HSS.out _ (Below.refl _ _).drew)
          (first
          | (go_at_call 19; refine (C1.out (wr.alloc (.cells #[.bool false, .int .i64 0, .int .i64 0, .bool false, .bool false, .bool false] 35)).drew (belAlloc wr _).drew).mono ?_; rintro e w5 ⟨rfl, b5⟩; have B5 := Lib.hid (bStepS (A := wr) ((belAlloc wr (.cells #[.bool false, .int .i64 0, .int .i64 0, .bool false, .bool false, .bool false] 35)).drew) b5); have Q5 := Lib.hid ((show Blk (wr.alloc (.cells #[.bool false, .int .i64 0, .int .i64 0, .bool false, .bool false, .bool false] 35)).drew wr.heap.size #[.bool false, .int .i64 0, .int .i64 0, .bool false, .bool false, .bool false] from blk_new wr _ _).later b5 (by simp)); have q0 : w5.cell? ⟨wr.heap.size, 0, none⟩ = some (.bool false) := Q5.out.2.1 0; have q1 : w5.cell? ⟨wr.heap.size, 1, none⟩ = some (.int .i64 0) := Q5.out.2.1 1; have q2 : w5.cell? ⟨wr.heap.size, 2, none⟩ = some (.int .i64 0) := Q5.out.2.1 2; have q3 : w5.cell? ⟨wr.heap.size, 3, none⟩ = some (.bool false) := Q5.out.2.1 3; have q4 : w5.cell? ⟨wr.heap.size, 4, none⟩ = some (.bool false) := Q5.out.2.1 4; have q5 : w5.cell? ⟨wr.heap.size, 5, none⟩ = some (.bool false) := Q5.out.2.1 5; have j0 := Q5.out.2.2 0; have j1 := Q5.out.2.2 1; have j2 := Q5.out.2.2 2; have j3 := Q5.out.2.2 3; have j4 := Q5.out.2.2 4; have j5 := Q5.out.2.2 5; have yq := Q5.out.1; clear b5)
          | (go_at_call 19; refine (C1.out _ (by first | exact Below.refl _ _ | exact (Below.refl _ _).drew | exact selfDrew _ _)).mono ?_; rintro e w5 ⟨rfl, b5⟩; have B5 := Lib.hid (bStepS (A := wr) (by first | exact Below.refl _ _ | exact (Below.refl _ _).drew | exact selfDrew _ _) b5); clear b5))
        all_goals
          go_wp2_with fail
          go_meet
          first
          | with_reducible exact ⟨_, rfl, rfl, Lib.hid ⟨bStepS B5.out (belAlloc _ _), blk_new _ _ _, B5.out.size⟩⟩
          | with_reducible exact ⟨_, rfl, rfl, Lib.hid ⟨bel_six B5.out (Nat.le_refl _) _ _ _ _ _ _, blk_six Q5.out _ _ _ _ _ _, Nat.le_refl _⟩⟩
      case rest =>
        obtain ⟨M1, rfl, rfl, H8⟩ := hcut
        obtain ⟨wb, hwb⟩ : ∃ wb : World, wb = wc := ⟨_, rfl⟩
        subst hwb
        have HB2 := Lib.hid (HB.out.2.later H8.out.1 HB.out.2.1)
        have HSS2 := Lib.hid (show ∀ Z, Below wb.heap.size wb Z → (fun Z => Z.cell? ⟨w2.heap.size + 1, 0, none⟩ = some (.bool a0) ∧ Z.cell? ⟨w2.heap.size + 1, 1, none⟩ = some (.int .i64 a1) ∧ Z.cell? ⟨w2.heap.size + 1, 2, none⟩ = some (.int .i64 a2) ∧ Z.cell? ⟨w2.heap.size + 1, 3, none⟩ = some (.bool a3) ∧ Z.cell? ⟨w2.heap.size + 1, 4, none⟩ = some (.bool a4) ∧ Z.cell? ⟨w2.heap.size + 1, 5, none⟩ = some (.bool a5) ∧ Z.cell? ⟨b, o + k, none⟩ = some (.int .i32 r)) Z from fun Z hZ => by
          have h := HB2.out.later hZ HB2.out.1
          exact ⟨h.2.1 0, h.2.1 1, h.2.1 2, h.2.1 3, h.2.1 4, h.2.1 5, ((bStepS H8.out.1 hZ).cell (p := ⟨b, o + k, none⟩) (Nat.lt_of_lt_of_le hb H.out.be.size)).trans hcr⟩)
        have hs1 := HSS2.out wb (Below.refl _ _)
        have C2 := Lib.hid (fun Z (hZ : Below wb.heap.size wb Z) => C1.out Z (bStepS H8.out.1 hZ))
        clear hs0
        go_wp2_with fail
        go_cut [10, 11] from 17 to 58 (fun sp sq wx => ∃ M : Nat, sp = .pointer (some ⟨M, 0, none⟩) ∧ sq = .bool q ∧ Hid (Below wb.heap.size wb wx ∧ Blk wx M #[.bool n0, .int .i64 n1, .int .i64 n2, .bool n3, .bool n4, .bool n5] ∧ wb.heap.size ≤ M))
        case first =>
          go_region_held3 (fun Z => Z.cell? ⟨w2.heap.size + 1, 0, none⟩ = some (.bool a0) ∧ Z.cell? ⟨w2.heap.size + 1, 1, none⟩ = some (.int .i64 a1) ∧ Z.cell? ⟨w2.heap.size + 1, 2, none⟩ = some (.int .i64 a2) ∧ Z.cell? ⟨w2.heap.size + 1, 3, none⟩ = some (.bool a3) ∧ Z.cell? ⟨w2.heap.size + 1, 4, none⟩ = some (.bool a4) ∧ Z.cell? ⟨w2.heap.size + 1, 5, none⟩ = some (.bool a5) ∧ Z.cell? ⟨b, o + k, none⟩ = some (.int .i32 r))
            (first | with_reducible exact HSS2.out _ (bel_six B5.out (Nat.le_refl _) _ _ _ _ _ _) | with_reducible exact HSS2.out _ (belowStep B5.out (belAlloc w5 _)) | with_reducible exact HSS2.out _ B5.out | with_reducible exact HSS2.out _ (belAlloc wb _).drew | with_reducible exact HSS2.out _ (Below.refl _ _).drew)
            (first
            | (go_at_call 19; refine (C2.out (wb.alloc (.cells #[.bool false, .int .i64 0, .int .i64 0, .bool false, .bool false, .bool false] 35)).drew (belAlloc wb _).drew).mono ?_; rintro e w5 ⟨rfl, b5⟩; have B5 := Lib.hid (bStepS (A := wb) ((belAlloc wb (.cells #[.bool false, .int .i64 0, .int .i64 0, .bool false, .bool false, .bool false] 35)).drew) b5); have Q5 := Lib.hid ((show Blk (wb.alloc (.cells #[.bool false, .int .i64 0, .int .i64 0, .bool false, .bool false, .bool false] 35)).drew wb.heap.size #[.bool false, .int .i64 0, .int .i64 0, .bool false, .bool false, .bool false] from blk_new wb _ _).later b5 (by simp)); have q0 : w5.cell? ⟨wb.heap.size, 0, none⟩ = some (.bool false) := Q5.out.2.1 0; have q1 : w5.cell? ⟨wb.heap.size, 1, none⟩ = some (.int .i64 0) := Q5.out.2.1 1; have q2 : w5.cell? ⟨wb.heap.size, 2, none⟩ = some (.int .i64 0) := Q5.out.2.1 2; have q3 : w5.cell? ⟨wb.heap.size, 3, none⟩ = some (.bool false) := Q5.out.2.1 3; have q4 : w5.cell? ⟨wb.heap.size, 4, none⟩ = some (.bool false) := Q5.out.2.1 4; have q5 : w5.cell? ⟨wb.heap.size, 5, none⟩ = some (.bool false) := Q5.out.2.1 5; have j0 := Q5.out.2.2 0; have j1 := Q5.out.2.2 1; have j2 := Q5.out.2.2 2; have j3 := Q5.out.2.2 3; have j4 := Q5.out.2.2 4; have j5 := Q5.out.2.2 5; have yq := Q5.out.1; clear b5)
            | (go_at_call 19; refine (C2.out _ (by first | exact Below.refl _ _ | exact (Below.refl _ _).drew | exact selfDrew _ _)).mono ?_; rintro e w5 ⟨rfl, b5⟩; have B5 := Lib.hid (bStepS (A := wb) (by first | exact Below.refl _ _ | exact (Below.refl _ _).drew | exact selfDrew _ _) b5); clear b5))
          all_goals
            go_wp2_with fail
            go_meet
            first
            | with_reducible exact ⟨_, rfl, rfl, Lib.hid ⟨bStepS B5.out (belAlloc _ _), blk_new _ _ _, B5.out.size⟩⟩
            | with_reducible exact ⟨_, rfl, rfl, Lib.hid ⟨bel_six B5.out (Nat.le_refl _) _ _ _ _ _ _, blk_six Q5.out _ _ _ _ _ _, Nat.le_refl _⟩⟩
        case rest =>
          obtain ⟨M2, rfl, rfl, H9⟩ := hcut
          have HRk := Lib.hid (show RT wc A c T (some ⟨b, o, none⟩) (l.take (k + 1)) by
            have h := HR.out.later (bStepS (bStepS H.out.be H8.out.1) H9.out.1)
            exact ⟨h.rows, h.rc, h.rn, h.txt.take _, h.sc.take _, by have := h.ln; rw [List.length_take]; omega⟩)
          have CB := begins_any c0 HRk.out (by rw [List.length_take]; omega) k (by rw [List.length_take]; omega)
          rw [HQ.out, List.length_take, Nat.min_eq_left (show k + 1 ≤ l.length from hlt)] at CB
          have CB := Lib.hid CB
          have HZ9 := Lib.hid (show M2 ≠ w2.heap.size from by have h1 := HB2.out.1; have h2 := H9.out.2.2; omega)
          have HZ := Lib.hid (show Blk wc M1 #[.bool n0, .int .i64 n1, .int .i64 n2, .bool n3, .bool n4, .bool n5] ∧ Blk wc M2 #[.bool n0, .int .i64 n1, .int .i64 n2, .bool n3, .bool n4, .bool n5] ∧ Blk wc w2.heap.size #[.bool a0, .int .i64 a1, .int .i64 a2, .bool a3, .bool a4, .bool a5] ∧ Blk wc (w2.heap.size + 1) #[.bool a0, .int .i64 a1, .int .i64 a2, .bool a3, .bool a4, .bool a5] ∧ Below w2.heap.size w2 wc from
            ⟨H8.out.2.1.later H9.out.1 H8.out.2.1.1, H9.out.2.1, (HB.out.1.later H8.out.1 HB.out.1.1).later H9.out.1 (HB.out.1.later H8.out.1 HB.out.1.1).1, HB2.out.later H9.out.1 HB2.out.1, bStepS (bStepS H.out.be H8.out.1) H9.out.1⟩)
          have hne := fun X => neq_state n0 n1 n2 n3 n4 n5 X
          have e1 : (q != q) = false := by simp
          have g1 : (k : Int) + 1 ≤ (c0 : Int) := by omega
          have hkc : k + 1 ≤ c0 := by omega
          clear hs1 H8 H9 HB HB2 HSS HSS2 C1 C2 HRk hcr H H0
          go_wp2_with fail
          refine CB.out.mono ?_
          rintro e w6 ⟨rfl, m6, rfl⟩
          clear CB
          obtain ⟨Y, hY⟩ : ∃ Y, wc.drewN m6 = Y := ⟨_, rfl⟩
          have HY := Lib.hid (show Blk Y M1 #[.bool n0, .int .i64 n1, .int .i64 n2, .bool n3, .bool n4, .bool n5] ∧ Blk Y M2 #[.bool n0, .int .i64 n1, .int .i64 n2, .bool n3, .bool n4, .bool n5] ∧ Blk Y w2.heap.size #[.bool a0, .int .i64 a1, .int .i64 a2, .bool a3, .bool a4, .bool a5] ∧ Blk Y (w2.heap.size + 1) #[.bool a0, .int .i64 a1, .int .i64 a2, .bool a3, .bool a4, .bool a5] ∧ Below w2.heap.size w2 Y by rw [← hY]; exact ⟨HZ.out.1.later (selfDrew wc m6) HZ.out.1.1, HZ.out.2.1.later (selfDrew wc m6) HZ.out.2.1.1, HZ.out.2.2.1.later (selfDrew wc m6) HZ.out.2.2.1.1, HZ.out.2.2.2.1.later (selfDrew wc m6) HZ.out.2.2.2.1.1, bStepS HZ.out.2.2.2.2 (selfDrew wc m6)⟩)
          rw [hY]
          clear hY HZ
          have hM1 := HY.out.1
          have hM2 := HY.out.2.1
          have h5 := HY.out.2.2.1
          have h6 := HY.out.2.2.2.1
          have z0 : Y.cell? ⟨M1, 0, none⟩ = some (.bool n0) := hM1.2.1 0
          have z1 : Y.cell? ⟨M1, 1, none⟩ = some (.int .i64 n1) := hM1.2.1 1
          have z2 : Y.cell? ⟨M1, 2, none⟩ = some (.int .i64 n2) := hM1.2.1 2
          have z3 : Y.cell? ⟨M1, 3, none⟩ = some (.bool n3) := hM1.2.1 3
          have z4 : Y.cell? ⟨M1, 4, none⟩ = some (.bool n4) := hM1.2.1 4
          have z5 : Y.cell? ⟨M1, 5, none⟩ = some (.bool n5) := hM1.2.1 5
          have x0 : Y.cell? ⟨M2, 0, none⟩ = some (.bool n0) := hM2.2.1 0
          have x1 : Y.cell? ⟨M2, 1, none⟩ = some (.int .i64 n1) := hM2.2.1 1
          have x2 : Y.cell? ⟨M2, 2, none⟩ = some (.int .i64 n2) := hM2.2.1 2
          have x3 : Y.cell? ⟨M2, 3, none⟩ = some (.bool n3) := hM2.2.1 3
          have x4 : Y.cell? ⟨M2, 4, none⟩ = some (.bool n4) := hM2.2.1 4
          have x5 : Y.cell? ⟨M2, 5, none⟩ = some (.bool n5) := hM2.2.1 5
          have y0 : Y.cell? ⟨w2.heap.size, 0, none⟩ = some (.bool a0) := h5.2.1 0
          have y1 : Y.cell? ⟨w2.heap.size, 1, none⟩ = some (.int .i64 a1) := h5.2.1 1
          have y2 : Y.cell? ⟨w2.heap.size, 2, none⟩ = some (.int .i64 a2) := h5.2.1 2
          have y3 : Y.cell? ⟨w2.heap.size, 3, none⟩ = some (.bool a3) := h5.2.1 3
          have y4 : Y.cell? ⟨w2.heap.size, 4, none⟩ = some (.bool a4) := h5.2.1 4
          have y5 : Y.cell? ⟨w2.heap.size, 5, none⟩ = some (.bool a5) := h5.2.1 5
          have f0 := h5.2.2 0
          have f1 := h5.2.2 1
          have f2 := h5.2.2 2
          have f3 := h5.2.2 3
          have f4 := h5.2.2 4
          have f5 := h5.2.2 5
          have HE := Lib.hid (show Blk ((((((Y.setCell ⟨w2.heap.size, 0, none⟩ (.bool n0)).setCell ⟨w2.heap.size, 1, none⟩ (.int .i64 n1)).setCell ⟨w2.heap.size, 2, none⟩ (.int .i64 n2)).setCell ⟨w2.heap.size, 3, none⟩ (.bool n3)).setCell ⟨w2.heap.size, 4, none⟩ (.bool n4)).setCell ⟨w2.heap.size, 5, none⟩ (.bool n5)) M2 #[.bool n0, .int .i64 n1, .int .i64 n2, .bool n3, .bool n4, .bool n5] ∧ Blk ((((((Y.setCell ⟨w2.heap.size, 0, none⟩ (.bool n0)).setCell ⟨w2.heap.size, 1, none⟩ (.int .i64 n1)).setCell ⟨w2.heap.size, 2, none⟩ (.int .i64 n2)).setCell ⟨w2.heap.size, 3, none⟩ (.bool n3)).setCell ⟨w2.heap.size, 4, none⟩ (.bool n4)).setCell ⟨w2.heap.size, 5, none⟩ (.bool n5)) w2.heap.size #[.bool n0, .int .i64 n1, .int .i64 n2, .bool n3, .bool n4, .bool n5] ∧ Blk ((((((Y.setCell ⟨w2.heap.size, 0, none⟩ (.bool n0)).setCell ⟨w2.heap.size, 1, none⟩ (.int .i64 n1)).setCell ⟨w2.heap.size, 2, none⟩ (.int .i64 n2)).setCell ⟨w2.heap.size, 3, none⟩ (.bool n3)).setCell ⟨w2.heap.size, 4, none⟩ (.bool n4)).setCell ⟨w2.heap.size, 5, none⟩ (.bool n5)) (w2.heap.size + 1) #[.bool a0, .int .i64 a1, .int .i64 a2, .bool a3, .bool a4, .bool a5] ∧ Below w2.heap.size w2 ((((((Y.setCell ⟨w2.heap.size, 0, none⟩ (.bool n0)).setCell ⟨w2.heap.size, 1, none⟩ (.int .i64 n1)).setCell ⟨w2.heap.size, 2, none⟩ (.int .i64 n2)).setCell ⟨w2.heap.size, 3, none⟩ (.bool n3)).setCell ⟨w2.heap.size, 4, none⟩ (.bool n4)).setCell ⟨w2.heap.size, 5, none⟩ (.bool n5)) from
            ⟨blk_far6 hM2 (by have := HZ9.out; omega) _ _ _ _ _ _, blk_six h5 _ _ _ _ _ _, blk_far6 h6 (by omega) _ _ _ _ _ _, bel_six HY.out.2.2.2.2 (Nat.le_refl _) _ _ _ _ _ _⟩)
          clear hM1 hM2 h5 h6 HY HQ
          go_upto_region 13 with fail
          refine at_world (fun X => Blk X M2 #[.bool n0, .int .i64 n1, .int .i64 n2, .bool n3, .bool n4, .bool n5] ∧ Blk X w2.heap.size #[.bool n0, .int .i64 n1, .int .i64 n2, .bool n3, .bool n4, .bool n5] ∧ Blk X (w2.heap.size + 1) #[.bool a0, .int .i64 a1, .int .i64 a2, .bool a3, .bool a4, .bool a5] ∧ Below w2.heap.size w2 X) HE.out ?_
          intro Z hZ
          have HZ := Lib.hid hZ
          clear hZ HE z0 z1 z2 z3 z4 z5 x0 x1 x2 x3 x4 x5 y0 y1 y2 y3 y4 y5 f0 f1 f2 f3 f4 f5
          have hM2 := HZ.out.1
          have h6 := HZ.out.2.2.1
          have x0 : Z.cell? ⟨M2, 0, none⟩ = some (.bool n0) := hM2.2.1 0
          have x1 : Z.cell? ⟨M2, 1, none⟩ = some (.int .i64 n1) := hM2.2.1 1
          have x2 : Z.cell? ⟨M2, 2, none⟩ = some (.int .i64 n2) := hM2.2.1 2
          have x3 : Z.cell? ⟨M2, 3, none⟩ = some (.bool n3) := hM2.2.1 3
          have x4 : Z.cell? ⟨M2, 4, none⟩ = some (.bool n4) := hM2.2.1 4
          have x5 : Z.cell? ⟨M2, 5, none⟩ = some (.bool n5) := hM2.2.1 5
          have t0 : Z.cell? ⟨(w2.heap.size + 1), 0, none⟩ = some (.bool a0) := h6.2.1 0
          have t1 : Z.cell? ⟨(w2.heap.size + 1), 1, none⟩ = some (.int .i64 a1) := h6.2.1 1
          have t2 : Z.cell? ⟨(w2.heap.size + 1), 2, none⟩ = some (.int .i64 a2) := h6.2.1 2
          have t3 : Z.cell? ⟨(w2.heap.size + 1), 3, none⟩ = some (.bool a3) := h6.2.1 3
          have t4 : Z.cell? ⟨(w2.heap.size + 1), 4, none⟩ = some (.bool a4) := h6.2.1 4
          have t5 : Z.cell? ⟨(w2.heap.size + 1), 5, none⟩ = some (.bool a5) := h6.2.1 5
          have s0 := h6.2.2 0
          have s1 := h6.2.2 1
          have s2 := h6.2.2 2
          have s3 := h6.2.2 3
          have s4 := h6.2.2 4
          have s5 := h6.2.2 5
          have HE := Lib.hid (show TwoSt w2 (KT T) l (k + 1) ((((((Z.setCell ⟨(w2.heap.size + 1), 0, none⟩ (.bool n0)).setCell ⟨(w2.heap.size + 1), 1, none⟩ (.int .i64 n1)).setCell ⟨(w2.heap.size + 1), 2, none⟩ (.int .i64 n2)).setCell ⟨(w2.heap.size + 1), 3, none⟩ (.bool n3)).setCell ⟨(w2.heap.size + 1), 4, none⟩ (.bool n4)).setCell ⟨(w2.heap.size + 1), 5, none⟩ (.bool n5)) from
            ⟨by rw [HN.out]; exact blk_far6 HZ.out.2.1 (by omega) _ _ _ _ _ _, by rw [HN.out]; exact blk_six h6 _ _ _ _ _ _, bel_six HZ.out.2.2.2 (Nat.le_succ _) _ _ _ _ _ _⟩)
          clear hM2 h6 HZ HN
          go_wp2
          go_roundw
          case rel => exact ⟨k + 1, by omega, by go_num, HE.out⟩
          case measure => simp [intOf]; omega
    · obtain rfl : k = l.length := by omega
      have HE := Lib.hid (bStepS H2.out H.out.be)
      clear H H0 H2 HU HR
      go_wp2_with fail
      refine (AW.out _).mono ?_
      rintro e w6 ⟨rfl, hb⟩
      have U6 := Lib.hid (bStepS HE.out hb)
      clear hb HE
      go_wp2
      go_ret
      exact ⟨rfl, U6.out⟩
end Go.Proofs.YtggapcfjcdafpaaGreat

namespace Go.Proofs.YtggapcfjcdafpaaGreat.segSteps
open Go.ChangeShapes Go.WideShapes Go.ChangeAt Go.RowKit Go.WideMaps Go.WideElems
open Go.ChangeMaps (open_string)

theorem own : ownKnob Tryz.prog.godebug = none := by kernel_rfl
theorem laidOut : laidOutB Tryz.prog = true := by kernel_rfl

set_option linter.unusedVariables false in
set_option maxRecDepth 100000 in
theorem lifted (os : Os) (started : os.Started) (H : Type) (enc : TypeId × Value → H) :
    ReturnsInHanded {} Tryz.checked os 4 .any (Rows.segStepsSpec.pre6 enc Tryz.prog Tryz.f4 Rows.segStepsRow.domain false) (Rows.segStepsSpec.post enc Tryz.prog Tryz.f4 false true false false) := by
  refine returnsInHanded_of_change (C := Tryz.checked) own started (by kernel_rfl) Tryz.func4
    (ChangeSpec.witness6 (enc := enc) (C := Tryz.checked) false ⟨#[], #[.slice none 0 0], []⟩ 8 (by kernel_rfl) (by kernel_rfl) (by kernel_rfl) (by kernel_rfl)) ?_
  intro W base args ds gs before hval0 hW hcnd _
  have hval : ∀ (j : Nat) t v, Tryz.f4.params[j]? = some t → args[j]? = some v → Value.okWide Tryz.prog W .any base t v := hval0
  have hW' := hW
  obtain ⟨p, q, hA0, hV, rfl, hfz, hnd⟩ := hW
  have hA : DataW.TrodAll enc Tryz.prog W 0 (fun _ => true) true Tryz.f4.params.toList args.toList ds p := hA0
  rw [Tryz.params4] at hA hval
  obtain ⟨v0, vs0, d0, ds0, p0, q0, hargs, rfl, rfl, h0, r0⟩ := trodAll_cons hA
  obtain ⟨rfl, rfl, rfl⟩ := trodAll_nil r0
  obtain rfl : args = #[v0] := by cases args; simp_all
  obtain ⟨rfl, rfl⟩ := trodVars_none hV
  obtain ⟨A0, n0, c0, f0, C0, w0⟩ := arg_ints Tryz.underlying22 Tryz.underlying21 (by kernel_rfl) (hval 0 22 v0 rfl rfl) h0
  obtain rfl := C0.eq
  refine (walk_SegSteps W A0 n0 c0 f0 C0.rd C0.le C0.max w0).mono fun e W' ⟨he, hb⟩ => ?_
  subst he
  exact ⟨_, rfl, law_post hW' rfl rfl rfl rfl laidOut (by kernel_rfl) rfl Tryz.underlying4 hb⟩

theorem over : Rows.segStepsRow.holds Tryz.pinned (OpenSpec.ofChange Rows.segStepsSpec) :=
  OpenClaim.holds_of_wide 4 Tryz.f4 rfl rfl rfl rfl rfl rfl rfl ⟨rfl, rfl, rfl, rfl, rfl⟩ rfl rfl rfl rfl rfl (by kernel_rfl) Tryz.func4 (by kernel_rfl)
    (of_decide_eq_true (by kernel_rfl)) (by unfold Func.isWrapper; first | (rw [if_pos (by decide +kernel)]; kernel_rfl) | (rw [if_neg (by decide +kernel)]; exact ⟨rfl, rfl⟩))
    (fun os started H enc _ => lifted os started H enc)

theorem proved : Rows.SegStepsSaid := over
#print axioms proved
end Go.Proofs.YtggapcfjcdafpaaGreat.segSteps
