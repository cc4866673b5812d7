/- back: awake. -/
import Derived.Test.YtggapcfjcdafpaaGreatGb30
import Derived.Test.YtggapcfjcdafpaaGreatGb27
import Derived.Test.YtggapcfjcdafpaaGreatGb32
import Derived.WalkMore
import Derived.Test.YtggapcfjcdafpaaGreatGb31
namespace Go.Proofs.YtggapcfjcdafpaaGreat
open Go.RowKit
set_option linter.unusedVariables false
set_option linter.unusedSimpArgs false

theorem next_out (A : Option Addr) (n c : Nat) (tp : Nat) (a : Int) (w : World) (h : a < 0 ∨ (n : Int) ≤ a) :
    Calls Tryz.prog 24 #[.pointer (some ⟨tp, 0, none⟩), .slice A n c, .int .i64 a] w fun e w' => e = .returned (.int .i64 (n : Nat)) ∧ w = w' := by
  by_cases h0 : a < 0
  · have d0 : decide (a < 0) = true := by simpa using h0
    clear h h0
    go_enter Tryz.func24, Tryz.ntmps24
    go_wp2
    go_ret
    exact ⟨rfl, rfl⟩
  · have d0 : decide (a < 0) = false := by simpa using h0
    have d1 : decide ((n : Int) ≤ a) = true := by simp; omega
    clear h h0
    go_enter Tryz.func24, Tryz.ntmps24
    go_wp2
    go_ret
    exact ⟨rfl, rfl⟩
/-- Next's loop: the state lies in a block. -/
structure NSt (w : World) (K : SG.Kinds) (D : List Int) (g j : Nat) (X : World) : Prop where
  blk : Blk X g (encSt (SG.stOf K (D.take j).reverse)).toArray
  be : Below w.heap.size w X
  ge : w.heap.size ≤ g

set_option maxHeartbeats 8000000 in
set_option maxRecDepth 100000 in
theorem next_in {T : List RW.Row} {tp : Nat} (A : Option Addr) (c : Nat) (l : List Int) (w : World) (hT : Tabs T tp w) (hK : (KT T).ok) (hL : Li 1 encC w (fun _ => True) A l) (hsc : Sc l) (hc : l.length ≤ c) (hn : l.length ≤ 100000) (a : Nat) (ha : a < l.length) :
    Calls Tryz.prog 24 #[.pointer (some ⟨tp, 0, none⟩), .slice A l.length c, .int .i64 (a : Nat)] w fun e w' => e = .returned (.int .i64 ((a + SG.nextP (KT T) (l.drop a) 1 : Nat) : Int)) ∧ Below w.heap.size w w' := by
  obtain ⟨b, o, rfl, hb, _, hcell⟩ := hL.scs (by omega)
  have HT := Lib.hid hT
  have HC := Lib.hid hcell
  have HS := Lib.hid hsc
  have HK := Lib.hid hK
  clear hT hL
  obtain ⟨v, hv⟩ : ∃ v, SG.nextP (KT T) (l.drop a) 1 = v := ⟨_, rfl⟩
  rw [hv]
  have HV := Lib.hid hv
  obtain ⟨V, hVV⟩ : ∃ V, a + v = V := ⟨_, rfl⟩
  rw [hVV]
  have HVV := Lib.hid hVV
  clear hVV
  have hD : (l.drop a).length = l.length - a := by simp
  have HG := Lib.hid (show ∀ j, a + j < l.length → (l.drop a).getD j 0 = l.getD (a + j) 0 from fun j _ => by simp [List.getD])
  obtain ⟨D, hDD⟩ : ∃ D, l.drop a = D := ⟨_, rfl⟩
  rw [hDD] at HV HG hD
  have HD := Lib.hid hD
  have hca := hcell a ha
  have hsa := hsc.at ha
  obtain ⟨r, hr⟩ : ∃ r, l.getD a 0 = r := ⟨_, rfl⟩
  rw [hr] at hca hsa
  have HR := Lib.hid (show D.getD 0 0 = r by rw [HG.out 0 (by omega)]; exact hr)
  have C0 := step_tab HT.out SG.St.zero r hsa.1 hsa.2
  obtain ⟨s', hs'⟩ : ∃ s', SG.nextS (KT T) SG.St.zero r = s' := ⟨_, rfl⟩
  rw [hs'] at C0
  have H1 := Lib.hid (show SG.stOf (KT T) (D.take 1).reverse = s' by rw [SG.st_succ _ (by omega), HR.out]; exact hs')
  have d0 : decide ((a : Int) < 0) = false := by simp
  have d1 : decide ((l.length : Int) ≤ (a : Int)) = false := by simp; omega
  have d2 : (a : Int) < (l.length : Int) := by omega
  have d3 : (0 : Int) ≤ (a : Int) := by omega
  clear hv hDD hcell hsc hr hs' hsa hK hD
  obtain ⟨n0, n1, n2, n3, n4, n5⟩ := s'
  dsimp only [vSt, SG.St.zero] at C0
  have C0 := Lib.hid C0
  go_enter Tryz.func24, Tryz.ntmps24
  go_wp2_with fail
  refine C0.out.mono ?_
  rintro e w1 ⟨rfl, hb1⟩
  have hz := hb1.size
  have HB1 := Lib.hid hb1
  clear C0 hb1
  go_upto_region 4 with fail
  refine at_world (fun X => NSt w (KT T) D w1.heap.size 1 X) ⟨by rw [H1.out]; exact blk_new _ _ _, HB1.out.alloc (by omega) _, by omega⟩ ?_
  rintro X0 h0
  obtain ⟨g, hg⟩ : ∃ g, w1.heap.size = g := ⟨_, rfl⟩
  rw [hg] at h0 ⊢
  have H0 := Lib.hid h0
  clear h0 HB1 hg hz
  go_wp2
  go_loopw [9, 10, 11] (fun i _ _ wr => ∃ n : Nat, n ≤ l.length ∧ i = .int .i64 n ∧ Hid (∃ j, n = a + j ∧ SG.nextP (KT T) D j = v ∧ NSt w (KT T) D g j wr)) (fun i _ _ _ => l.length - (intOf i).toNat)
  case atStart => exact ⟨a + 1, by omega, by go_num, Lib.hid ⟨1, rfl, HV.out, H0.out⟩⟩
  case round =>
    obtain ⟨n, hn', rfl, HJ⟩ := hrel
    obtain ⟨j, hj, hk, h⟩ := HJ.out
    have H := Lib.hid h
    have HK' := Lib.hid hk
    have HJ := Lib.hid hj
    clear hj hk h
    by_cases hlt : n < l.length
    · have hcr := (H.out.be.cell (p := ⟨b, o + n, none⟩) hb).trans (HC.out n hlt)
      have hsr := HS.out.at hlt
      have hjD : j < D.length := by have := HD.out; have := HJ.out; omega
      obtain ⟨r, hr⟩ : ∃ r, l.getD n 0 = r := ⟨_, rfl⟩
      rw [hr] at hcr hsr
      have HR := Lib.hid (show D.getD j 0 = r by rw [HG.out j (by have := HJ.out; omega), ← HJ.out]; exact hr)
      obtain ⟨s, hs⟩ : ∃ s, SG.stOf (KT T) (D.take j).reverse = s := ⟨_, rfl⟩
      have hblk := H.out.blk
      rw [hs] at hblk
      have c1 := fun Z (hZ : Below wr.heap.size wr Z) => step_tab (HT.out.later (bStepS H.out.be hZ)) s r hsr.1 hsr.2
      obtain ⟨s', hs'⟩ : ∃ s', SG.nextS (KT T) s r = s' := ⟨_, rfl⟩
      obtain ⟨q, hq⟩ : ∃ q, SG.beginsS (KT T) s r = q := ⟨_, rfl⟩
      simp only [hs', hq] at c1
      have HN := Lib.hid (show SG.stOf (KT T) (D.take (j + 1)).reverse = s' by rw [SG.st_succ _ hjD, hs, HR.out, hs'])
      have HQ := Lib.hid (show SG.begAt (KT T) D j = q by unfold SG.begAt; rw [← SG.begins_ok HK.out, hs, HR.out, hq])
      obtain ⟨a0, a1, a2, a3, a4, a5⟩ := s
      obtain ⟨n0, n1, n2, n3, n4, n5⟩ := s'
      dsimp only [vSt] at c1
      have C1 := Lib.hid c1
      have HB := Lib.hid hblk
      have HSS := Lib.hid (show ∀ Z, Below wr.heap.size wr Z → (fun Z => Z.cell? ⟨g, 0, none⟩ = some (.bool a0) ∧ Z.cell? ⟨g, 1, none⟩ = some (.int .i64 a1) ∧ Z.cell? ⟨g, 2, none⟩ = some (.int .i64 a2) ∧ Z.cell? ⟨g, 3, none⟩ = some (.bool a3) ∧ Z.cell? ⟨g, 4, none⟩ = some (.bool a4) ∧ Z.cell? ⟨g, 5, none⟩ = some (.bool a5) ∧ Z.cell? ⟨b, o + n, none⟩ = some (.int .i32 r)) Z from fun Z hZ => by
        have h := HB.out.later hZ HB.out.1
        exact ⟨h.2.1 0, h.2.1 1, h.2.1 2, h.2.1 3, h.2.1 4, h.2.1 5, (hZ.cell (p := ⟨b, o + n, none⟩) (Nat.lt_of_lt_of_le hb H.out.be.size)).trans hcr⟩)
      have hs0 := HSS.out wr (Below.refl _ _)
      have d4 : (n : Int) < (l.length : Int) := by omega
      have d5 : (0 : Int) ≤ (n : Int) := by omega
      clear c1 hs hs' hq hr hblk hcr
      go_wp2_with fail
      go_region_held3 (fun Z => Z.cell? ⟨g, 0, none⟩ = some (.bool a0) ∧ Z.cell? ⟨g, 1, none⟩ = some (.int .i64 a1) ∧ Z.cell? ⟨g, 2, none⟩ = some (.int .i64 a2) ∧ Z.cell? ⟨g, 3, none⟩ = some (.bool a3) ∧ Z.cell? ⟨g, 4, none⟩ = some (.bool a4) ∧ Z.cell? ⟨g, 5, none⟩ = some (.bool a5) ∧ Z.cell? ⟨b, o + n, none⟩ = some (.int .i32 r))
        (first | with_reducible exact HSS.out _ (bel_six B5.out (Nat.le_refl _) _ _ _ _ _ _) | with_reducible exact HSS.out _ (belowStep B5.out (belAlloc w5 _)) | with_reducible exact HSS.out _ B5.out | with_reducible exact HSS.out _ (belAlloc wr _).drew | with_reducible exact HSS.out _ (Below.refl _ _).drew)
        (first
        | (go_at_call 19; refine (C1.out (wr.alloc (.cells #[.bool false, .int .i64 0, .int .i64 0, .bool false, .bool false, .bool false] 35)).drew (belAlloc wr _).drew).mono ?_; rintro e w5 ⟨rfl, b5⟩; have B5 := Lib.hid (bStepS (A := wr) ((belAlloc wr (.cells #[.bool false, .int .i64 0, .int .i64 0, .bool false, .bool false, .bool false] 35)).drew) b5); have Q5 := Lib.hid ((show Blk (wr.alloc (.cells #[.bool false, .int .i64 0, .int .i64 0, .bool false, .bool false, .bool false] 35)).drew wr.heap.size #[.bool false, .int .i64 0, .int .i64 0, .bool false, .bool false, .bool false] from blk_new wr _ _).later b5 (by simp)); have q0 : w5.cell? ⟨wr.heap.size, 0, none⟩ = some (.bool false) := Q5.out.2.1 0; have q1 : w5.cell? ⟨wr.heap.size, 1, none⟩ = some (.int .i64 0) := Q5.out.2.1 1; have q2 : w5.cell? ⟨wr.heap.size, 2, none⟩ = some (.int .i64 0) := Q5.out.2.1 2; have q3 : w5.cell? ⟨wr.heap.size, 3, none⟩ = some (.bool false) := Q5.out.2.1 3; have q4 : w5.cell? ⟨wr.heap.size, 4, none⟩ = some (.bool false) := Q5.out.2.1 4; have q5 : w5.cell? ⟨wr.heap.size, 5, none⟩ = some (.bool false) := Q5.out.2.1 5; have j0 := Q5.out.2.2 0; have j1 := Q5.out.2.2 1; have j2 := Q5.out.2.2 2; have j3 := Q5.out.2.2 3; have j4 := Q5.out.2.2 4; have j5 := Q5.out.2.2 5; have yq := Q5.out.1; clear b5)
        | (go_at_call 19; refine (C1.out _ (by first | exact Below.refl _ _ | exact (Below.refl _ _).drew | exact selfDrew _ _)).mono ?_; rintro e w5 ⟨rfl, b5⟩; have B5 := Lib.hid (bStepS (A := wr) (by first | exact Below.refl _ _ | exact (Below.refl _ _).drew | exact selfDrew _ _) b5); clear b5))
      all_goals
        first
        | with_reducible refine at_world (fun Z => Below wr.heap.size wr Z ∧ Blk Z w5.heap.size #[.bool n0, .int .i64 n1, .int .i64 n2, .bool n3, .bool n4, .bool n5]) ⟨bStepS B5.out (belAlloc _ _), blk_new _ _ _⟩ ?_
        | with_reducible refine at_world (fun Z => Below wr.heap.size wr Z ∧ Blk Z wr.heap.size #[.bool n0, .int .i64 n1, .int .i64 n2, .bool n3, .bool n4, .bool n5]) ⟨bel_six B5.out (Nat.le_refl _) _ _ _ _ _ _, blk_six Q5.out _ _ _ _ _ _⟩ ?_
        intro Z hZ
        have HZ := Lib.hid (And.intro hZ.1 (And.intro hZ.2 (HB.out.later hZ.1 HB.out.1)))
        clear hZ hs0
        cases q
        case true =>
          obtain rfl : V = n := by rw [← HVV.out, HJ.out, ← HK'.out, SG.nextP_yes hjD HQ.out]
          have HE := Lib.hid (bStepS H.out.be HZ.out.1)
          clear HK' HQ HN HJ HV HZ HB HVV
          go_wp2
          go_ret
          exact ⟨rfl, HE.out⟩
        case false =>
          have HV2 := Lib.hid (show SG.nextP (KT T) D (j + 1) = v by rw [← SG.nextP_no hjD HQ.out]; exact HK'.out)
          have hB := HZ.out.2.2
          have hN := HZ.out.2.1
          have z0 := hN.2.1 0
          have z1 := hN.2.1 1
          have z2 := hN.2.1 2
          have z3 := hN.2.1 3
          have z4 := hN.2.1 4
          have z5 := hN.2.1 5
          simp only [List.getElem?_toArray, List.getElem?_cons_zero, List.getElem?_cons_succ] at z0 z1 z2 z3 z4 z5
          have y0 : Z.cell? ⟨g, 0, none⟩ = some (.bool a0) := hB.2.1 0
          have y1 : Z.cell? ⟨g, 1, none⟩ = some (.int .i64 a1) := hB.2.1 1
          have y2 : Z.cell? ⟨g, 2, none⟩ = some (.int .i64 a2) := hB.2.1 2
          have y3 : Z.cell? ⟨g, 3, none⟩ = some (.bool a3) := hB.2.1 3
          have y4 : Z.cell? ⟨g, 4, none⟩ = some (.bool a4) := hB.2.1 4
          have y5 : Z.cell? ⟨g, 5, none⟩ = some (.bool a5) := hB.2.1 5
          have f0 := hB.2.2 0
          have f1 := hB.2.2 1
          have f2 := hB.2.2 2
          have f3 := hB.2.2 3
          have f4 := hB.2.2 4
          have f5 := hB.2.2 5
          have HE := Lib.hid (show NSt w (KT T) D g (j + 1) ((((((Z.setCell ⟨g, 0, none⟩ (.bool n0)).setCell ⟨g, 1, none⟩ (.int .i64 n1)).setCell ⟨g, 2, none⟩ (.int .i64 n2)).setCell ⟨g, 3, none⟩ (.bool n3)).setCell ⟨g, 4, none⟩ (.bool n4)).setCell ⟨g, 5, none⟩ (.bool n5)) from
            ⟨by rw [HN.out]; exact blk_six hB _ _ _ _ _ _, bel_six (bStepS H.out.be HZ.out.1) H.out.ge _ _ _ _ _ _, H.out.ge⟩)
          have HJ2 := Lib.hid (show n + 1 = a + (j + 1) by have := HJ.out; omega)
          clear hB hN HZ HB HQ HN HK' HJ
          go_wp2
          go_roundw
          case rel => exact ⟨n + 1, by omega, by go_num, Lib.hid ⟨j + 1, HJ2.out, HV2.out, HE.out⟩⟩
          case measure => simp [intOf]; omega
    · obtain rfl : V = l.length := by
        have h1 := HJ.out
        have h2 := HD.out
        have h3 := HK'.out
        rw [SG.nextP_end (by omega)] at h3
        rw [← HVV.out]
        omega
      have d4 : decide ((n : Int) < (l.length : Int)) = false := by simp; omega
      have HE := Lib.hid H.out.be
      clear HK' HJ HV H H0 HVV
      go_wp2
      go_ret
      exact ⟨rfl, HE.out⟩
end Go.Proofs.YtggapcfjcdafpaaGreat

namespace Go.Proofs.YtggapcfjcdafpaaGreat
open Go.RowKit
set_option linter.unusedVariables false
set_option linter.unusedSimpArgs false

set_option maxHeartbeats 8000000 in
set_option maxRecDepth 100000 in
theorem around_any {T : List RW.Row} {tp : Nat} (A : Option Addr) (c : Nat) (l : List Int) (w : World) (hT : Tabs T tp w) (hK : (KT T).tidy) (hL : Li 1 encC w (fun _ => True) A l) (hsc : Sc l) (hc : l.length ≤ c) (hn : l.length ≤ 100000) (a : Nat) (ha : a < l.length) :
    Calls Tryz.prog 60 #[.pointer (some ⟨tp, 0, none⟩), .slice A l.length c, .int .i64 (a : Nat)] w fun e w' => e = .returned (.tuple #[.int .i64 (floorP (KT T) l a : Nat), .int .i64 (SG.nextP (KT T) l (a + 1) : Nat)]) ∧ Below w.heap.size w w' := by
  obtain ⟨b, o, rfl, hb, _, hcell⟩ := hL.scs (by omega)
  have HT := Lib.hid hT
  have HC := Lib.hid hcell
  have HS := Lib.hid hsc
  have HK := Lib.hid hK
  clear hT hL hcell hsc hK
  obtain ⟨vf, hvf⟩ : ∃ v, floorP (KT T) l a = v := ⟨_, rfl⟩
  obtain ⟨vn, hvn⟩ : ∃ v, SG.nextP (KT T) l (a + 1) = v := ⟨_, rfl⟩
  rw [hvf, hvn]
  have HVF := Lib.hid hvf
  have HVN := Lib.hid hvn
  clear hvf hvn
  go_enter Tryz.func60, Tryz.ntmps60
  go_wp2
  go_step3
  go_wp2
  go_loopw [8] (fun i wr => ∃ k : Nat, k ≤ a ∧ i = .int .i64 k ∧ Hid (Below w.heap.size w wr)) (fun i _ => (intOf i).toNat)
  case atStart => exact ⟨a, Nat.le_refl _, rfl, Lib.hid (Below.refl _ _)⟩
  case round =>
    obtain ⟨k, hk, rfl, H⟩ := hrel
    go_wp2_with fail
    go_cut [30] from 15 to 32 (fun s30 wx => ∃ q : Bool, s30 = .bool q ∧ Hid (Below w.heap.size w wx ∧ (q = false → SG.begAt (KT T) l k = true) ∧ (q = true → 0 < k)))
    case first =>
      rcases k with _ | k
      · have d0 : decide ((0 : Int) < ((0 : Nat) : Int)) = false := by simp
        go_quiet (fail)
        go_wp2
        go_meet
        exact ⟨false, rfl, Lib.hid ⟨belDrew H.out _, fun _ => SG.begAt_zero _ _, fun h => by cases h⟩⟩
      · have hk1 : k + 1 < l.length := by omega
        have hc0 := (H.out.cell (p := ⟨b, o + k, none⟩) hb).trans (HC.out k (by omega))
        have hc1 := (H.out.cell (p := ⟨b, o + (k + 1), none⟩) hb).trans (HC.out (k + 1) hk1)
        have hs0 := HS.out.at (show k < l.length by omega)
        have hs1 := HS.out.at hk1
        have HQ := Lib.hid (fun h => known_at (K := KT T) hk1 h)
        obtain ⟨x, hx⟩ : ∃ x, l.getD k 0 = x := ⟨_, rfl⟩
        obtain ⟨y, hy⟩ : ∃ x, l.getD (k + 1) 0 = x := ⟨_, rfl⟩
        rw [hx] at hc0 hs0 HQ
        rw [hy] at hc1 hs1 HQ
        have c1 := fun Z (hZ : Below wr.heap.size wr Z) => known_any Z (HT.out.later (bStepS H.out hZ)) x y hs0.1 hs0.2 hs1.1 hs1.2
        obtain ⟨q, hq⟩ : ∃ q, SG.knownP (KT T) x y = q := ⟨_, rfl⟩
        rw [hq] at HQ
        simp only [hq] at c1
        have C1 := Lib.hid c1
        have hbw : b < wr.heap.size := Nat.lt_of_lt_of_le hb H.out.size
        have HSS := Lib.hid (show ∀ Z, Below wr.heap.size wr Z → (fun Z => Z.cell? ⟨b, o + k, none⟩ = some (.int .i32 x) ∧ Z.cell? ⟨b, o + (k + 1), none⟩ = some (.int .i32 y)) Z from fun Z hZ => ⟨(hZ.cell (p := ⟨b, o + k, none⟩) hbw).trans hc0, (hZ.cell (p := ⟨b, o + (k + 1), none⟩) hbw).trans hc1⟩)
        have d2 : (k : Int) + 1 < (l.length : Int) := by omega
        have d3 : (k : Int) < (l.length : Int) := by omega
        have d4 : (0 : Int) ≤ (k : Int) + 1 := by omega
        have d5 : (0 : Int) ≤ (k : Int) := by omega
        have d6 : IntKind.i64.wrap (k : Int) = (k : Int) := IntWalk.i64_in _ (by omega)
        clear hx hy hs0 hs1 c1 hq
        go_region_held3 (fun Z => Z.cell? ⟨b, o + k, none⟩ = some (.int .i32 x) ∧ Z.cell? ⟨b, o + (k + 1), none⟩ = some (.int .i32 y))
          (first | exact HSS.out _ (by first | assumption | exact B5.out | exact Below.refl _ _ | exact (Below.refl _ _).drew | exact selfDrew _ _) | go_keep)
          (first
          | (go_at_call 85; refine (C1.out _ (by first | exact Below.refl _ _ | exact (Below.refl _ _).drew | exact selfDrew _ _)).mono ?_; rintro e w5 ⟨rfl, b5⟩; have B5 := Lib.hid (bStepS (A := wr) (by first | exact Below.refl _ _ | exact (Below.refl _ _).drew | exact selfDrew _ _) b5); clear b5))
        go_wp2_with fail
        go_meet
        exact ⟨!q, rfl, Lib.hid ⟨bStepS H.out B5.out, fun h => HQ.out (by simpa using h), fun _ => by omega⟩⟩
    case rest =>
      obtain ⟨q, rfl, HX⟩ := hcut
      cases q
      case true =>
        have h0 := HX.out.2.2 rfl
        obtain ⟨k', rfl⟩ : ∃ k', k = k' + 1 := ⟨k - 1, by omega⟩
        go_wp2
        go_roundw
        case rel => exact ⟨k', by omega, by go_num, Lib.hid HX.out.1⟩
        case measure => simp [intOf]
      case false =>
        have H1 := Lib.hid (And.intro HX.out.1 (HX.out.2.1 rfl))
        clear HX H
        obtain ⟨wo, hwo⟩ : ∃ wo : World, wo = wr := ⟨_, rfl⟩
        subst hwo
        go_wp2
        go_step3
        go_wp2
        go_loopw [9, 10, 11, 12, 13] (fun f n _ _ _ wr => ∃ f' n' : Nat, f = .int .i64 f' ∧ n = .int .i64 n' ∧ n' ≤ l.length ∧ Hid (Below w.heap.size w wr ∧ (n' ≤ a → SG.begAt (KT T) l n' = true) ∧ (a < n' → vf = f' ∧ vn = n'))) (fun _ n _ _ _ _ => l.length - (intOf n).toNat)
        case atStart => exact ⟨k, k, rfl, rfl, by omega, Lib.hid ⟨H1.out.1, fun _ => H1.out.2, fun h => by omega⟩⟩
        case round =>
          obtain ⟨f', n, rfl, rfl, hnl, H⟩ := hrel
          by_cases hna : n ≤ a
          · have hnl2 : n < l.length := by omega
            have HB := Lib.hid (H.out.2.1 hna)
            have hcr := (H.out.1.cell (p := ⟨b, o + n, none⟩) hb).trans (HC.out n hnl2)
            have hsr := HS.out.at hnl2
            obtain ⟨r, hr⟩ : ∃ r, l.getD n 0 = r := ⟨_, rfl⟩
            rw [hr] at hcr hsr
            have c1 := fun Z (hZ : Below wr.heap.size wr Z) => step_tab (HT.out.later (bStepS H.out.1 hZ)) SG.St.zero r hsr.1 hsr.2
            obtain ⟨s', hs'⟩ : ∃ s', SG.nextS (KT T) SG.St.zero r = s' := ⟨_, rfl⟩
            simp only [hs'] at c1
            have HN := Lib.hid (show SG.stOf (KT T) (l.take (n + 1)).reverse = s' by rw [SG.st_succ _ hnl2, hr, SG.begins_last HK.out _ _ (by have := HB.out; unfold SG.begAt at this; rwa [hr] at this)]; exact hs')
            obtain ⟨n0, n1, n2, n3, n4, n5⟩ := s'
            dsimp only [vSt, SG.St.zero] at c1
            have C1 := Lib.hid c1
            have d0 : (n : Int) ≤ (a : Int) := by omega
            have d1 : (n : Int) < (l.length : Int) := by omega
            have d2 : (0 : Int) ≤ (n : Int) := by omega
            have hbw : b < wr.heap.size := Nat.lt_of_lt_of_le hb H.out.1.size
            clear c1 hs' hr hsr
            go_upto_region 7 with fail
            refine at_world (fun X => Below wr.heap.size wr X ∧ Blk X wr.heap.size #[.bool false, .int .i64 0, .int .i64 0, .bool false, .bool false, .bool false]) ⟨belAlloc _ _, blk_new _ _ _⟩ ?_
            intro X hX
            obtain ⟨g, hg⟩ : ∃ g, wr.heap.size = g := ⟨_, rfl⟩
            have hgw : w.heap.size ≤ g := by rw [← hg]; exact H.out.1.size
            have HX := Lib.hid (show Below w.heap.size w X ∧ Blk X g #[.bool false, .int .i64 0, .int .i64 0, .bool false, .bool false, .bool false] from ⟨bStepS H.out.1 (by exact hX.1), by rw [← hg]; exact hX.2⟩)
            have C7 := Lib.hid (fun Z (hZ : Below X.heap.size X Z) => C1.out Z (bStepS hX.1 hZ))
            have hcx := (hX.1.cell (p := ⟨b, o + n, none⟩) hbw).trans hcr
            have hbg : b < g := by rw [← hg]; exact hbw
            rw [hg]
            have q0 : X.cell? ⟨g, 0, none⟩ = some (.bool false) := HX.out.2.2.1 0
            have q1 : X.cell? ⟨g, 1, none⟩ = some (.int .i64 0) := HX.out.2.2.1 1
            have q2 : X.cell? ⟨g, 2, none⟩ = some (.int .i64 0) := HX.out.2.2.1 2
            have q3 : X.cell? ⟨g, 3, none⟩ = some (.bool false) := HX.out.2.2.1 3
            have q4 : X.cell? ⟨g, 4, none⟩ = some (.bool false) := HX.out.2.2.1 4
            have q5 : X.cell? ⟨g, 5, none⟩ = some (.bool false) := HX.out.2.2.1 5
            clear hX hg C1 hcr hbw
            go_cut [] from 35 to 66 (fun wx => Hid (Below w.heap.size w wx ∧ Blk wx g #[.bool n0, .int .i64 n1, .int .i64 n2, .bool n3, .bool n4, .bool n5]))
            case first =>
              go_region_with (go_at_call 19; refine (C7.out _ (by first | exact Below.refl _ _ | exact (Below.refl _ _).drew | exact selfDrew _ _)).mono ?_; rintro e w5 ⟨rfl, b5⟩; have B5 := Lib.hid (bStepS (A := X) (by first | exact Below.refl _ _ | exact (Below.refl _ _).drew | exact selfDrew _ _) b5); have Q5 := Lib.hid (HX.out.2.later B5.out HX.out.2.1); have x0 : w5.cell? ⟨g, 0, none⟩ = some (.bool false) := Q5.out.2.1 0; have x1 : w5.cell? ⟨g, 1, none⟩ = some (.int .i64 0) := Q5.out.2.1 1; have x2 : w5.cell? ⟨g, 2, none⟩ = some (.int .i64 0) := Q5.out.2.1 2; have x3 : w5.cell? ⟨g, 3, none⟩ = some (.bool false) := Q5.out.2.1 3; have x4 : w5.cell? ⟨g, 4, none⟩ = some (.bool false) := Q5.out.2.1 4; have x5 : w5.cell? ⟨g, 5, none⟩ = some (.bool false) := Q5.out.2.1 5; have j0 := Q5.out.2.2 0; have j1 := Q5.out.2.2 1; have j2 := Q5.out.2.2 2; have j3 := Q5.out.2.2 3; have j4 := Q5.out.2.2 4; have j5 := Q5.out.2.2 5; have yq := Q5.out.1; clear b5)
              all_goals
                go_wp2_with fail
                go_meet
                with_reducible exact Lib.hid ⟨bel_six (bStepS HX.out.1 B5.out) hgw _ _ _ _ _ _, blk_six Q5.out _ _ _ _ _ _⟩
            case rest =>
              have H7 := Lib.hid hcut.out
              clear hcut q0 q1 q2 q3 q4 q5 hcx HX C7
              obtain ⟨wo, hwo⟩ : ∃ wo : World, wo = wc := ⟨_, rfl⟩
              subst hwo
              go_wp2
              go_loopw [10, 12, 13] (fun m _ _ wr => ∃ m' : Nat, m = .int .i64 m' ∧ n ≤ m' ∧ m' < l.length ∧ Hid (Below w.heap.size w wr ∧ Blk wr g (encSt (SG.stOf (KT T) (l.take (m' + 1)).reverse)).toArray ∧ ∀ j, n < j → j ≤ m' → SG.begAt (KT T) l j = false)) (fun m _ _ _ => l.length - (intOf m).toNat)
              case atStart => exact ⟨n, rfl, Nat.le_refl _, hnl2, Lib.hid ⟨H7.out.1, by rw [HN.out]; exact H7.out.2, fun j h1 h2 => by omega⟩⟩
              case round =>
                obtain ⟨m, rfl, hnm, hml, HI⟩ := hrel
                obtain ⟨i, hi⟩ : ∃ i, m + 1 = i := ⟨_, rfl⟩
                have d6 : (m : Int) + 1 = (i : Int) := by omega
                have d7 : IntKind.i64.wrap (i : Int) = (i : Int) := IntWalk.i64_in _ (by omega)
                by_cases he : i = l.length
                · have d8 : ((i : Int) == (l.length : Int)) = true := by simp; omega
                  have HE := Lib.hid (show vf = n ∧ vn = i by
                    have h := around_end (K := KT T) HB.out hna (show a < i by omega) (by omega) (.inl he) fun j h1 h2 => HI.out.2.2 j h1 (by omega)
                    exact ⟨by rw [← HVF.out, h.1], by rw [← HVN.out, h.2]⟩)
                  have HW := Lib.hid HI.out.1
                  clear HI H7 hi he
                  go_wp2_with fail
                  obtain ⟨rfl, rfl⟩ := HE.out
                  rw [Exit.noGoto_ret]
                  go_ret2
                  exact ⟨rfl, HW.out⟩
                · have d8 : ((i : Int) == (l.length : Int)) = false := by simp; omega
                  have hil : i < l.length := by omega
                  have d9 : (i : Int) < (l.length : Int) := by omega
                  have d10 : (0 : Int) ≤ (i : Int) := by omega
                  have hbw : b < wr.heap.size := Nat.lt_of_lt_of_le hb HI.out.1.size
                  have hcr := (HI.out.1.cell (p := ⟨b, o + i, none⟩) hb).trans (HC.out i hil)
                  have hsr := HS.out.at hil
                  obtain ⟨r, hr⟩ : ∃ r, l.getD i 0 = r := ⟨_, rfl⟩
                  rw [hr] at hcr hsr
                  obtain ⟨s, hs⟩ : ∃ s, SG.stOf (KT T) (l.take (m + 1)).reverse = s := ⟨_, rfl⟩
                  have hblk := HI.out.2.1
                  rw [hs] at hblk
                  rw [hi] at hs
                  have c1 := fun Z (hZ : Below wr.heap.size wr Z) => step_tab (HT.out.later (bStepS HI.out.1 hZ)) s r hsr.1 hsr.2
                  obtain ⟨s', hs'⟩ : ∃ s', SG.nextS (KT T) s r = s' := ⟨_, rfl⟩
                  obtain ⟨q, hq⟩ : ∃ q, SG.beginsS (KT T) s r = q := ⟨_, rfl⟩
                  simp only [hs', hq] at c1
                  have HN2 := Lib.hid (show SG.stOf (KT T) (l.take (i + 1)).reverse = s' by rw [SG.st_succ _ hil, hs, hr, hs'])
                  have HQ := Lib.hid (show SG.begAt (KT T) l i = q by unfold SG.begAt; rw [← SG.begins_ok HK.out.ok, hs, hr, hq])
                  obtain ⟨a0, a1, a2, a3, a4, a5⟩ := s
                  obtain ⟨n0, n1, n2, n3, n4, n5⟩ := s'
                  dsimp only [vSt] at c1
                  have C1 := Lib.hid c1
                  have HBK := Lib.hid hblk
                  have HSS := Lib.hid (show ∀ Z, Below wr.heap.size wr Z → (fun Z => Z.cell? ⟨g, 0, none⟩ = some (.bool a0) ∧ Z.cell? ⟨g, 1, none⟩ = some (.int .i64 a1) ∧ Z.cell? ⟨g, 2, none⟩ = some (.int .i64 a2) ∧ Z.cell? ⟨g, 3, none⟩ = some (.bool a3) ∧ Z.cell? ⟨g, 4, none⟩ = some (.bool a4) ∧ Z.cell? ⟨g, 5, none⟩ = some (.bool a5) ∧ Z.cell? ⟨b, o + i, none⟩ = some (.int .i32 r)) Z from fun Z hZ => by
                    have h := HBK.out.later hZ HBK.out.1
                    exact ⟨h.2.1 0, h.2.1 1, h.2.1 2, h.2.1 3, h.2.1 4, h.2.1 5, (hZ.cell (p := ⟨b, o + i, none⟩) hbw).trans hcr⟩)
                  have hs0 := HSS.out wr (Below.refl _ _)
                  clear c1 hs hs' hq hr hblk hcr hsr
                  go_wp2_with fail
                  go_cut [12, 13] from 49 to 66 (fun sp sq wx => ∃ M : Nat, sp = .pointer (some ⟨M, 0, none⟩) ∧ sq = .bool q ∧ Hid (Below wr.heap.size wr wx ∧ Blk wx M #[.bool n0, .int .i64 n1, .int .i64 n2, .bool n3, .bool n4, .bool n5] ∧ wr.heap.size ≤ M))
                  case first =>
                    go_region_held3 (fun Z => Z.cell? ⟨g, 0, none⟩ = some (.bool a0) ∧ Z.cell? ⟨g, 1, none⟩ = some (.int .i64 a1) ∧ Z.cell? ⟨g, 2, none⟩ = some (.int .i64 a2) ∧ Z.cell? ⟨g, 3, none⟩ = some (.bool a3) ∧ Z.cell? ⟨g, 4, none⟩ = some (.bool a4) ∧ Z.cell? ⟨g, 5, none⟩ = some (.bool a5) ∧ Z.cell? ⟨b, o + i, none⟩ = some (.int .i32 r))
                      (first | with_reducible exact HSS.out _ (bel_six B5.out (Nat.le_refl _) _ _ _ _ _ _) | with_reducible exact HSS.out _ (belowStep B5.out (belAlloc w5 _)) | with_reducible exact HSS.out _ B5.out | with_reducible exact HSS.out _ (belAlloc wr _).drew | with_reducible exact HSS.out _ (Below.refl _ _).drew)
                      (first
                      | (go_at_call 19; refine (C1.out (wr.alloc (.cells #[.bool false, .int .i64 0, .int .i64 0, .bool false, .bool false, .bool false] 35)).drew (belAlloc wr _).drew).mono ?_; rintro e w5 ⟨rfl, b5⟩; have B5 := Lib.hid (bStepS (A := wr) ((belAlloc wr (.cells #[.bool false, .int .i64 0, .int .i64 0, .bool false, .bool false, .bool false] 35)).drew) b5); have Q5 := Lib.hid ((show Blk (wr.alloc (.cells #[.bool false, .int .i64 0, .int .i64 0, .bool false, .bool false, .bool false] 35)).drew wr.heap.size #[.bool false, .int .i64 0, .int .i64 0, .bool false, .bool false, .bool false] from blk_new wr _ _).later b5 (by simp)); have q0 : w5.cell? ⟨wr.heap.size, 0, none⟩ = some (.bool false) := Q5.out.2.1 0; have q1 : w5.cell? ⟨wr.heap.size, 1, none⟩ = some (.int .i64 0) := Q5.out.2.1 1; have q2 : w5.cell? ⟨wr.heap.size, 2, none⟩ = some (.int .i64 0) := Q5.out.2.1 2; have q3 : w5.cell? ⟨wr.heap.size, 3, none⟩ = some (.bool false) := Q5.out.2.1 3; have q4 : w5.cell? ⟨wr.heap.size, 4, none⟩ = some (.bool false) := Q5.out.2.1 4; have q5 : w5.cell? ⟨wr.heap.size, 5, none⟩ = some (.bool false) := Q5.out.2.1 5; have j0 := Q5.out.2.2 0; have j1 := Q5.out.2.2 1; have j2 := Q5.out.2.2 2; have j3 := Q5.out.2.2 3; have j4 := Q5.out.2.2 4; have j5 := Q5.out.2.2 5; have yq := Q5.out.1; clear b5)
                      | (go_at_call 19; refine (C1.out _ (by first | exact Below.refl _ _ | exact (Below.refl _ _).drew | exact selfDrew _ _)).mono ?_; rintro e w5 ⟨rfl, b5⟩; have B5 := Lib.hid (bStepS (A := wr) (by first | exact Below.refl _ _ | exact (Below.refl _ _).drew | exact selfDrew _ _) b5); clear b5))
                    all_goals
                      go_wp2_with fail
                      go_meet
                      first
                      | with_reducible exact ⟨_, rfl, rfl, Lib.hid ⟨bStepS B5.out (belAlloc _ _), blk_new _ _ _, B5.out.size⟩⟩
                      | with_reducible exact ⟨_, rfl, rfl, Lib.hid ⟨bel_six B5.out (Nat.le_refl _) _ _ _ _ _ _, blk_six Q5.out _ _ _ _ _ _, Nat.le_refl _⟩⟩
                  case rest =>
                    obtain ⟨M, rfl, rfl, HZ0⟩ := hcut
                    have HZ := Lib.hid (And.intro HZ0.out.1 (And.intro HZ0.out.2.1 (HBK.out.later HZ0.out.1 HBK.out.1)))
                    clear hs0 HZ0
                    cases q
                    case true =>
                      have HE := Lib.hid (And.intro (bStepS HI.out.1 HZ.out.1) (show a < i → vf = n ∧ vn = i from fun hai => by
                        have h := around_end (K := KT T) HB.out hna hai (by omega) (.inr HQ.out) fun j h1 h2 => HI.out.2.2 j h1 (by omega)
                        exact ⟨by rw [← HVF.out, h.1], by rw [← HVN.out, h.2]⟩))
                      have HQ2 := Lib.hid HQ.out
                      clear HI H7 HN2 HQ C1 HSS HBK HZ HN H
                      go_wp2
                      go_roundw
                      case rel => exact ⟨n, i, rfl, rfl, by omega, Lib.hid ⟨HE.out.1, fun _ => HQ2.out, HE.out.2⟩⟩
                      case measure => simp [intOf]; omega
                    case false =>
                      have hB := HZ.out.2.2
                      have hN := HZ.out.2.1
                      have z0 := hN.2.1 0
                      have z1 := hN.2.1 1
                      have z2 := hN.2.1 2
                      have z3 := hN.2.1 3
                      have z4 := hN.2.1 4
                      have z5 := hN.2.1 5
                      simp only [List.getElem?_toArray, List.getElem?_cons_zero, List.getElem?_cons_succ] at z0 z1 z2 z3 z4 z5
                      have y0 : wc.cell? ⟨g, 0, none⟩ = some (.bool a0) := hB.2.1 0
                      have y1 : wc.cell? ⟨g, 1, none⟩ = some (.int .i64 a1) := hB.2.1 1
                      have y2 : wc.cell? ⟨g, 2, none⟩ = some (.int .i64 a2) := hB.2.1 2
                      have y3 : wc.cell? ⟨g, 3, none⟩ = some (.bool a3) := hB.2.1 3
                      have y4 : wc.cell? ⟨g, 4, none⟩ = some (.bool a4) := hB.2.1 4
                      have y5 : wc.cell? ⟨g, 5, none⟩ = some (.bool a5) := hB.2.1 5
                      have f0 := hB.2.2 0
                      have f1 := hB.2.2 1
                      have f2 := hB.2.2 2
                      have f3 := hB.2.2 3
                      have f4 := hB.2.2 4
                      have f5 := hB.2.2 5
                      have HE := Lib.hid (show Below w.heap.size w ((((((wc.setCell ⟨g, 0, none⟩ (.bool n0)).setCell ⟨g, 1, none⟩ (.int .i64 n1)).setCell ⟨g, 2, none⟩ (.int .i64 n2)).setCell ⟨g, 3, none⟩ (.bool n3)).setCell ⟨g, 4, none⟩ (.bool n4)).setCell ⟨g, 5, none⟩ (.bool n5)) ∧ Blk ((((((wc.setCell ⟨g, 0, none⟩ (.bool n0)).setCell ⟨g, 1, none⟩ (.int .i64 n1)).setCell ⟨g, 2, none⟩ (.int .i64 n2)).setCell ⟨g, 3, none⟩ (.bool n3)).setCell ⟨g, 4, none⟩ (.bool n4)).setCell ⟨g, 5, none⟩ (.bool n5)) g (encSt (SG.stOf (KT T) (l.take (i + 1)).reverse)).toArray ∧ ∀ j, n < j → j ≤ i → SG.begAt (KT T) l j = false from
                        ⟨bel_six (bStepS HI.out.1 HZ.out.1) hgw _ _ _ _ _ _, by rw [HN2.out]; exact blk_six hB _ _ _ _ _ _, fun j h1 h2 => by
                          rcases Nat.lt_or_ge j i with h | h
                          · exact HI.out.2.2 j h1 (by omega)
                          · obtain rfl : j = i := by omega
                            exact HQ.out⟩)
                      clear hB hN HI H7 HN2 HQ C1 HSS HBK HZ
                      go_wp2
                      go_roundw
                      case rel => exact ⟨i, rfl, by omega, hil, Lib.hid HE.out⟩
                      case measure => simp [intOf]; omega
          · have hv := H.out.2.2 (by omega)
            have d0 : decide ((n : Int) ≤ (a : Int)) = false := by simp; omega
            obtain ⟨rfl, rfl⟩ := hv
            have HE := Lib.hid H.out.1
            clear H
            go_wp2
            (try rw [Exit.noGoto_ret])
            go_ret2
            exact ⟨rfl, HE.out⟩
end Go.Proofs.YtggapcfjcdafpaaGreat

namespace Go.Proofs.YtggapcfjcdafpaaGreat
open Go.RowKit
set_option linter.unusedVariables false
set_option linter.unusedSimpArgs false

/-- The first boundary behind a number. -/
def nextB (K : SG.Kinds) (l : List Int) (a : Int) : Nat := if a < 0 then 0 else if (l.length : Int) ≤ a then l.length else SG.nextP K l (a.toNat + 1)
theorem nextB_ceil (K : SG.Kinds) (l : List Int) {a : Int} (h : 0 < a) : nextB K l (a - 1) = SG.nextP K l a.toNat := by
  unfold nextB
  rw [if_neg (by omega)]
  by_cases h2 : (l.length : Int) ≤ a - 1
  · rw [if_pos h2, SG.nextP_end (by omega)]
  · rw [if_neg h2, show (a - 1).toNat + 1 = a.toNat by omega]
theorem floorI_min (K : SG.Kinds) (l : List Int) (a : Int) : floorI K l (min a l.length) = floorI K l a := by
  unfold floorI
  rw [Int.min_assoc, Int.min_self]
theorem floorI_le (K : SG.Kinds) (l : List Int) (a : Int) : floorI K l a ≤ l.length := by
  have := floorP_le K l (min a l.length).toNat
  unfold floorI
  omega
theorem nextB_le (K : SG.Kinds) (l : List Int) (a : Int) : nextB K l a ≤ l.length := by
  unfold nextB
  split
  · omega
  · split
    · exact Nat.le_refl _
    · exact SG.nextP_le _ _ _
/-- What the functions of a text want. -/
structure TT (w : World) (T : List RW.Row) (tp : Nat) (A : Option Addr) (c : Nat) (l : List Int) : Prop where
  tabs : Tabs T tp w
  tidy : (KT T).tidy
  txt : Li 1 encC w (fun _ => True) A l
  sc : Sc l
  cap : l.length ≤ c
  few : l.length ≤ 100000
theorem TT.later {w w' : World} {T : List RW.Row} {tp : Nat} {A : Option Addr} {c : Nat} {l : List Int} (h : TT w T tp A c l) (hb : Below w.heap.size w w') : TT w' T tp A c l := ⟨h.tabs.later hb, h.tidy, h.txt.later hb, h.sc, h.cap, h.few⟩
section
variable {w : World} {T : List RW.Row} {tp : Nat} {A : Option Addr} {c : Nat} {l : List Int}

set_option maxHeartbeats 4000000 in
theorem pfloor_any (h : TT w T tp A c l) (a : Int) : Calls Tryz.prog 26 #[.pointer (some ⟨tp, 0, none⟩), .slice A l.length c, .int .i64 a] w fun e w' => e = .returned (.int .i64 (floorI (KT T) l a : Nat)) ∧ Below w.heap.size w w' := by
  by_cases h0 : a ≤ 0
  · rw [floorI_low h0]
    have d0 : decide (a ≤ 0) = true := by simpa using h0
    clear h h0
    go_enter Tryz.func26, Tryz.ntmps26
    go_wp2
    go_ret
    exact ⟨rfl, Below.refl _ _⟩
  · have d0 : decide (a ≤ 0) = false := by simpa using h0
    by_cases h1 : (l.length : Int) ≤ a
    · rw [floorI_high h1]
      have d1 : decide ((l.length : Int) ≤ a) = true := by simpa using h1
      clear h h0 h1
      go_enter Tryz.func26, Tryz.ntmps26
      go_wp2
      go_ret
      exact ⟨rfl, Below.refl _ _⟩
    · have d1 : decide ((l.length : Int) ≤ a) = false := by simpa using h1
      obtain ⟨n, rfl⟩ : ∃ n : Nat, a = n := ⟨a.toNat, by omega⟩
      have C := around_any (T := T) (tp := tp) A c l w h.tabs h.tidy h.txt h.sc h.cap h.few n (by omega)
      rw [floorI_at (by omega)]
      obtain ⟨V, hV⟩ : ∃ V, floorP (KT T) l n = V := ⟨_, rfl⟩
      obtain ⟨U, hU⟩ : ∃ V, SG.nextP (KT T) l (n + 1) = V := ⟨_, rfl⟩
      rw [hV, hU] at C
      rw [hV]
      have C := Lib.hid C
      have x0 : decide (n = 0) = false := by simp; omega
      have x1 : decide (l.length ≤ n) = false := by simp; omega
      clear h h0 h1 hV hU
      go_enter Tryz.func26, Tryz.ntmps26
      go_wp2_with fail
      refine C.out.mono ?_
      rintro e w1 ⟨rfl, hb⟩
      have HB := Lib.hid hb
      clear hb C
      go_wp2
      go_ret
      exact ⟨rfl, HB.out⟩
set_option maxHeartbeats 4000000 in
theorem pnext_any (h : TT w T tp A c l) (a : Int) : Calls Tryz.prog 34 #[.pointer (some ⟨tp, 0, none⟩), .slice A l.length c, .int .i64 a] w fun e w' => e = .returned (.int .i64 (nextB (KT T) l a : Nat)) ∧ Below w.heap.size w w' := by
  unfold nextB
  by_cases h0 : a < 0
  · rw [if_pos h0]
    have d0 : decide (a < 0) = true := by simpa using h0
    clear h h0
    go_enter Tryz.func34, Tryz.ntmps34
    go_wp2
    go_ret
    exact ⟨rfl, Below.refl _ _⟩
  · rw [if_neg h0]
    have d0 : decide (a < 0) = false := by simpa using h0
    by_cases h1 : (l.length : Int) ≤ a
    · rw [if_pos h1]
      have d1 : decide ((l.length : Int) ≤ a) = true := by simpa using h1
      clear h h0 h1
      go_enter Tryz.func34, Tryz.ntmps34
      go_wp2
      go_ret
      exact ⟨rfl, Below.refl _ _⟩
    · rw [if_neg h1]
      have d1 : decide ((l.length : Int) ≤ a) = false := by simpa using h1
      obtain ⟨n, rfl⟩ : ∃ n : Nat, a = n := ⟨a.toNat, by omega⟩
      have C := around_any (T := T) (tp := tp) A c l w h.tabs h.tidy h.txt h.sc h.cap h.few n (by omega)
      rw [Int.toNat_natCast]
      obtain ⟨V, hV⟩ : ∃ V, floorP (KT T) l n = V := ⟨_, rfl⟩
      obtain ⟨U, hU⟩ : ∃ V, SG.nextP (KT T) l (n + 1) = V := ⟨_, rfl⟩
      rw [hV, hU] at C
      rw [hU]
      have C := Lib.hid C
      have x1 : decide (l.length ≤ n) = false := by simp; omega
      clear h h0 h1 hV hU
      go_enter Tryz.func34, Tryz.ntmps34
      go_wp2_with fail
      refine C.out.mono ?_
      rintro e w1 ⟨rfl, hb⟩
      have HB := Lib.hid hb
      clear hb C
      go_wp2
      go_ret
      exact ⟨rfl, HB.out⟩
set_option maxHeartbeats 4000000 in
theorem pceil_any (h : TT w T tp A c l) (a : Int) (ha : a ≤ 9223372036854775807) : Calls Tryz.prog 28 #[.pointer (some ⟨tp, 0, none⟩), .slice A l.length c, .int .i64 a] w fun e w' => e = .returned (.int .i64 (SG.nextP (KT T) l a.toNat : Nat)) ∧ Below w.heap.size w w' := by
  by_cases h0 : a ≤ 0
  · rw [show a.toNat = 0 by omega, nextP_zero]
    have d0 : decide (a ≤ 0) = true := by simpa using h0
    clear h h0
    go_enter Tryz.func28, Tryz.ntmps28
    go_wp2
    go_ret
    exact ⟨rfl, Below.refl _ _⟩
  · have d0 : decide (a ≤ 0) = false := by simpa using h0
    have C := pnext_any h (a - 1)
    rw [nextB_ceil _ _ (by omega)] at C
    obtain ⟨U, hU⟩ : ∃ V, SG.nextP (KT T) l a.toNat = V := ⟨_, rfl⟩
    rw [hU] at C ⊢
    have C := Lib.hid C
    have d1 : IntKind.i64.wrap (a - 1) = a - 1 := IntWalk.i64_in _ (by omega)
    clear h hU
    go_enter Tryz.func28, Tryz.ntmps28
    go_wp2_with fail
    refine C.out.mono ?_
    rintro e w1 ⟨rfl, hb⟩
    have HB := Lib.hid hb
    clear hb C
    go_wp2
    go_ret
    exact ⟨rfl, HB.out⟩
set_option maxHeartbeats 4000000 in
theorem pis_any (h : TT w T tp A c l) (a : Int) : Calls Tryz.prog 30 #[.pointer (some ⟨tp, 0, none⟩), .slice A l.length c, .int .i64 a] w fun e w' => e = .returned (.bool ((floorI (KT T) l a : Int) == a)) ∧ Below w.heap.size w w' := by
  have C := pfloor_any h a
  obtain ⟨U, hU⟩ : ∃ V, floorI (KT T) l a = V := ⟨_, rfl⟩
  rw [hU] at C ⊢
  have C := Lib.hid C
  clear h hU
  go_enter Tryz.func30, Tryz.ntmps30
  go_wp2_with fail
  refine C.out.mono ?_
  rintro e w1 ⟨rfl, hb⟩
  have HB := Lib.hid hb
  clear hb C
  go_wp2
  go_ret
  exact ⟨rfl, HB.out⟩
end
end Go.Proofs.YtggapcfjcdafpaaGreat

namespace Go.Proofs.YtggapcfjcdafpaaGreat
open Go.RowKit
set_option linter.unusedVariables false
set_option linter.unusedSimpArgs false
section
variable {w : World} {T : List RW.Row} {tp : Nat} {A : Option Addr} {c : Nat} {l : List Int}
set_option maxHeartbeats 4000000 in
set_option maxRecDepth 100000 in
theorem pprev_any (h : TT w T tp A c l) (a : Int) (ha : a ≤ 9223372036854775807) : Calls Tryz.prog 33 #[.pointer (some ⟨tp, 0, none⟩), .slice A l.length c, .int .i64 a] w fun e w' => e = .returned (.int .i64 (floorI (KT T) l (a - 1) : Nat)) ∧ Below w.heap.size w w' := by
  by_cases h0 : a ≤ 0
  · rw [floorI_low (by omega)]
    have d0 : decide (a ≤ 0) = true := by simpa using h0
    clear h h0
    go_enter Tryz.func33, Tryz.ntmps33
    go_wp2
    go_ret
    exact ⟨rfl, Below.refl _ _⟩
  · have d0 : decide (a ≤ 0) = false := by simpa using h0
    have C := pfloor_any h (min (a - 1) l.length)
    rw [floorI_min] at C
    obtain ⟨z, rfl⟩ : ∃ z, a = z + 1 := ⟨a - 1, by omega⟩
    rw [show z + 1 - 1 = z by omega] at C ⊢
    obtain ⟨U, hU⟩ : ∃ V, floorI (KT T) l z = V := ⟨_, rfl⟩
    rw [hU] at C ⊢
    have d1 : IntKind.i64.wrap z = z := IntWalk.i64_in _ (by omega)
    by_cases h1 : (l.length : Int) < z
    · rw [Int.min_eq_right (by omega)] at C
      have C9 := Lib.hid C
      clear C h hU h0 ha
      go_enter Tryz.func33, Tryz.ntmps33
      have hmin : ∀ (X : World), (Builtin.min_ #[3, 3] 3 #[.int .i64 z, .int .i64 (l.length : Int)]).run Tryz.prog X = .ok (.int .i64 (l.length : Int)) X := fun X => by rw [run_min_int2, if_pos h1]
      clear h1
      go_wp2_with fail
      refine C9.out.mono ?_
      rintro e w1 ⟨rfl, hb⟩
      have HB := Lib.hid hb
      clear hb C9
      go_wp2
      go_ret
      exact ⟨rfl, HB.out⟩
    · rw [Int.min_eq_left (by omega)] at C
      have C9 := Lib.hid C
      clear C h hU h0 ha
      go_enter Tryz.func33, Tryz.ntmps33
      have hmin : ∀ (X : World), (Builtin.min_ #[3, 3] 3 #[.int .i64 z, .int .i64 (l.length : Int)]).run Tryz.prog X = .ok (.int .i64 z) X := fun X => by rw [run_min_int2, if_neg h1]
      clear h1
      go_wp2_with fail
      refine C9.out.mono ?_
      rintro e w1 ⟨rfl, hb⟩
      have HB := Lib.hid hb
      clear hb C9
      go_wp2
      go_ret
      exact ⟨rfl, HB.out⟩
end
end Go.Proofs.YtggapcfjcdafpaaGreat

namespace Go.Proofs.YtggapcfjcdafpaaGreat
open Go.RowKit
set_option linter.unusedVariables false
set_option linter.unusedSimpArgs false

set_option maxRecDepth 100000 in
theorem ex11 : floorI (KT RW.rowsT) [97, 127462, 127463, 127464] 2 = 1 ∧ SG.nextP (KT RW.rowsT) [97, 127462, 127463, 127464] 2 = 3 ∧ SG.nextP (KT RW.rowsT) [97, 127462, 127463, 127464] 1 = 1 := by
  have b : SG.startsP (KT RW.rowsT) [97, 127462, 127463, 127464] = [0, 1, 3] := by decide +kernel
  have h1 : SG.begAt (KT RW.rowsT) [97, 127462, 127463, 127464] 1 = true := (SG.starts_mem (s := [97, 127462, 127463, 127464]) (p := 1) (by rw [b]; decide)).2
  have h3 : SG.begAt (KT RW.rowsT) [97, 127462, 127463, 127464] 3 = true := (SG.starts_mem (s := [97, 127462, 127463, 127464]) (p := 3) (by rw [b]; decide)).2
  have h2 : SG.begAt (KT RW.rowsT) [97, 127462, 127463, 127464] 2 = false := not_begins (by decide) (by rw [b]; decide)
  refine ⟨?_, ?_, SG.nextP_yes (by decide) h1⟩
  · have := around_end (K := KT RW.rowsT) (l := [97, 127462, 127463, 127464]) (f := 1) (n := 3) (a := 2) h1 (by decide) (by decide) (by decide) (.inr h3) (fun j a b => by obtain rfl : j = 2 := (by omega); exact h2)
    exact this.1
  · rw [SG.nextP_no (by decide) h2]
    exact SG.nextP_yes (by decide) h3
set_option maxHeartbeats 8000000 in
set_option maxRecDepth 100000 in
theorem awake11_yes (w : World) : Calls Tryz.prog 32 #[] w (Yes w) := by
  obtain ⟨T, hG, hT, C0⟩ := rows_li w
  have HG := Lib.hid hG
  have C0 := Lib.hid C0
  have HK := Lib.hid (show (KT T).tidy by rw [← hT]; exact rows_tidy)
  have HE := Lib.hid (show floorI (KT T) [97, 127462, 127463, 127464] 2 = 1 ∧ SG.nextP (KT T) [97, 127462, 127463, 127464] 2 = 3 ∧ SG.nextP (KT T) [97, 127462, 127463, 127464] 1 = 1 by rw [← hT]; exact ex11)
  clear hG hT
  go_enter Tryz.func32, Tryz.ntmps32
  go_wp2_with fail
  refine C0.out.mono ?_
  rintro e w1 ⟨A, c, rfl, hL, hc, hm, hb1⟩
  have C1 := Lib.hid (build_tabs A c T w1 (hL.mono fun _ _ => trivial) hc HG.out)
  have B1 := Lib.hid hb1
  clear C0 hL hb1
  go_wp2_with fail
  refine C1.out.mono ?_
  rintro e w2 ⟨tp, rfl, hU, hb2⟩
  have U0 := Lib.hid (And.intro hU (B1.out.trans (hb2.mono B1.out.size)))
  clear hU hb2 C1 B1
  go_upto_region 3 with fail
  refine at_world (fun X => TT X T tp (some ⟨w2.heap.size, 0, none⟩) 4 [97, 127462, 127463, 127464] ∧ Below w.heap.size w X) ⟨⟨U0.out.1.later (belAlloc _ _), HK.out, li_new1 _ _ _ _ rfl, (by intro x hx; simp at hx; omega), by decide, by decide⟩, bStepS U0.out.2 (belAlloc _ _)⟩ ?_
  rintro X0 hX
  have B0 := Lib.hid hX
  clear hX U0
  have D1 := Lib.hid (fun Z (hZ : TT Z T tp (some ⟨w2.heap.size, 0, none⟩) 4 [97, 127462, 127463, 127464]) => pfloor_any hZ 2)
  have D2 := Lib.hid (fun Z (hZ : TT Z T tp (some ⟨w2.heap.size, 0, none⟩) 4 [97, 127462, 127463, 127464]) => pprev_any hZ 3 (by decide))
  have D3 := Lib.hid (fun Z (hZ : TT Z T tp (some ⟨w2.heap.size, 0, none⟩) 4 [97, 127462, 127463, 127464]) => pceil_any hZ 2 (by decide))
  have D4 := Lib.hid (fun Z (hZ : TT Z T tp (some ⟨w2.heap.size, 0, none⟩) 4 [97, 127462, 127463, 127464]) => pnext_any hZ 0)
  simp only [HE.out.1, show (3 : Int) - 1 = 2 from rfl, show (2 : Int).toNat = 2 from rfl, HE.out.2.1, show nextB (KT T) [97, 127462, 127463, 127464] 0 = 1 from HE.out.2.2] at D1 D2 D3 D4
  go_wp2_with fail
  refine (D1.out _ B0.out.1).mono ?_
  rintro e v0 ⟨rfl, hb⟩
  have B1 := Lib.hid (And.intro (B0.out.1.later hb) (bStepS B0.out.2 hb))
  clear hb B0 D1
  go_wp2_with fail
  refine (D2.out _ B1.out.1).mono ?_
  rintro e v1 ⟨rfl, hb⟩
  have B2 := Lib.hid (And.intro (B1.out.1.later hb) (bStepS B1.out.2 hb))
  clear hb B1 D2
  go_wp2_with fail
  refine (D3.out _ B2.out.1).mono ?_
  rintro e v2 ⟨rfl, hb⟩
  have B3 := Lib.hid (And.intro (B2.out.1.later hb) (bStepS B2.out.2 hb))
  clear hb B2 D3
  go_wp2_with fail
  refine (D4.out _ B3.out.1).mono ?_
  rintro e v3 ⟨rfl, hb⟩
  have B4 := Lib.hid (And.intro (B3.out.1.later hb) (bStepS B3.out.2 hb))
  clear hb B3 D4
  go_wp2
  go_ret
  exact ⟨rfl, B4.out.2⟩
/-- What the laws have made when they begin: the rows, the tables, the text. -/
structure LB (w : World) (T : List RW.Row) (tp : Nat) (A : Option Addr) (c : Nat) (A0 : Option Addr) (c0 : Nat) (l : List Int) (X : World) : Prop where
  tt : TT X T tp A0 c0 l
  rt : RT X A c T A0 l
  be : Below w.heap.size w X
theorem LB.later {w X Y : World} {T : List RW.Row} {tp : Nat} {A : Option Addr} {c : Nat} {A0 : Option Addr} {c0 : Nat} {l : List Int} (h : LB w T tp A c A0 c0 l X) (hb : Below X.heap.size X Y) : LB w T tp A c A0 c0 l Y := ⟨h.tt.later hb, h.rt.later hb, bStepS h.be hb⟩
theorem LB.drewN {w X : World} {T : List RW.Row} {tp : Nat} {A : Option Addr} {c : Nat} {A0 : Option Addr} {c0 : Nat} {l : List Int} (h : LB w T tp A c A0 c0 l X) (m : Nat) : LB w T tp A c A0 c0 l (X.drewN m) := h.later (selfDrew X m)
end Go.Proofs.YtggapcfjcdafpaaGreat
