/- undo: sameGroup. -/
import Derived.Test.YtfmpldgeldocnaaUnV
namespace Go.Proofs.Ytfmpldgeldocnaa
open Go.RowKit
set_option linter.unusedVariables false
set_option linter.unusedSimpArgs false

set_option maxHeartbeats 4000000 in
set_option maxRecDepth 100000 in
theorem sg_is (E : Option Addr) (m d : Nat) (cur : Int) (F : Option Addr) (m' d' : Nat) (cur' : Int) (a : AG) (w : World) (h1 : GrIs w ⟨E, m, d, cur⟩ a) (h2 : GrIs w ⟨F, m', d', cur'⟩ a) (hl : a.eds.length ≤ 1000) :
    Calls Try.prog 14 #[.agg #[.slice E m d, .int .i64 cur], .agg #[.slice F m' d', .int .i64 cur']] w (Yes w) := by
  obtain ⟨c1, e1⟩ := h1
  obtain ⟨c2, e2⟩ := h2
  dsimp only at c1 c2 e1 e2
  subst c1; subst c2
  obtain ⟨E0, d0, q, hd1, _⟩ := e1.is
  injection q with q1 q2 q3
  subst q1; subst q2; subst q3
  obtain ⟨F0, d0', q, hd2, _⟩ := e2.is
  injection q with q1 q2 q3
  subst q1; subst q2; subst q3
  have H0 := Lib.hid (And.intro e1 e2)
  obtain ⟨N, hN⟩ : ∃ N, a.eds.length = N := ⟨_, rfl⟩
  have HN := Lib.hid hN
  rw [hN] at hl ⊢
  obtain ⟨W0, hW0⟩ : ∃ W0, (w.alloc (.cells #[.slice E N d, .int .i64 a.cur] 40)).alloc (.cells #[.slice F N d', .int .i64 a.cur] 47) = W0 := ⟨_, rfl⟩
  have HK := Lib.hid (show Blk W0 w.heap.size #[.slice E N d, .int .i64 a.cur] ∧ Blk W0 (w.heap.size + 1) #[.slice F N d', .int .i64 a.cur] ∧ Below w.heap.size w W0 from by
    subst hW0
    have := blk_new (w.alloc (.cells #[.slice E N d, .int .i64 a.cur] 40)) #[.slice F N d', .int .i64 a.cur] 47
    rw [World.size_alloc] at this
    exact ⟨(blk_new _ _ _).alloc _, this, belPush (belAlloc _ _) _⟩)
  rw [← hW0] at HK
  clear e1 e2 hd1 hd2 hN hW0
  clear W0
  go_enter Try.func14, Try.ntmps14
  go_wp2
  go_loopw [5] (fun i wr => ∃ k : Nat, k ≤ N ∧ i = .int .i64 k ∧ Hid (Blk wr w.heap.size #[.slice E N d, .int .i64 a.cur] ∧ Blk wr (w.heap.size + 1) #[.slice F N d', .int .i64 a.cur] ∧ Below w.heap.size w wr)) (fun i _ => N - (intOf i).toNat)
  case atStart => exact ⟨0, Nat.zero_le _, rfl, HK.out⟩
  case round =>
    obtain ⟨k, hk, rfl, HV⟩ := hrel
    obtain ⟨y0, k0, j0⟩ := (show _ from HV.out.1)
    obtain ⟨y1, k1, j1⟩ := (show _ from HV.out.2.1)
    by_cases hlt : k < N
    · have hkl : k < a.eds.length := by rw [HN.out]; exact hlt
      obtain ⟨e, he⟩ : ∃ e, a.eds[k]? = some e := ⟨_, List.getElem?_eq_getElem hkl⟩
      obtain ⟨b, o, hd, hEa, hbl, x0, x1, x2, hE1⟩ := (H0.out.1.later HV.out.2.2).at_ he
      obtain ⟨b', o', hd', hEb, hbl', z0, z1, z2, hE2⟩ := (H0.out.2.later HV.out.2.2).at_ he
      subst hEa
      subst hEb
      have HE := Lib.hid (And.intro (And.intro hE1.2.1 hE1.2.2) (And.intro hE2.2.1 hE2.2.2))
      have i0 : (0 : Int) ≤ (k : Int) := by omega
      have i1 : (k : Int) < (N : Int) := by omega
      clear hE1 hE2 he hkl
      have HS : Hid (∀ X, Below wr.heap.size wr X → (fun X => X.cell? ⟨w.heap.size, 0, none⟩ = some (.slice (some ⟨b, o, none⟩) N d) ∧ X.cell? ⟨w.heap.size + 1, 0, none⟩ = some (.slice (some ⟨b', o', none⟩) N d') ∧ X.cell? ⟨b, o + k * 3, none⟩ = some (.int .i64 e.at_) ∧ X.cell? ⟨b, o + k * 3 + 1, none⟩ = some (.slice hd.A hd.n hd.c) ∧ X.cell? ⟨b, o + k * 3 + 2, none⟩ = some (.slice hd.B hd.m hd.d) ∧ X.cell? ⟨b', o' + k * 3, none⟩ = some (.int .i64 e.at_) ∧ X.cell? ⟨b', o' + k * 3 + 1, none⟩ = some (.slice hd'.A hd'.n hd'.c) ∧ X.cell? ⟨b', o' + k * 3 + 2, none⟩ = some (.slice hd'.B hd'.m hd'.d) ∧ Below wr.heap.size wr X) X) := Lib.hid (by
        intro X hX
        have hB := HV.out.1.later hX HV.out.1.1
        have hC := HV.out.2.1.later hX HV.out.2.1.1
        have st (j : Nat) := hX.cell (p := ⟨b, j, none⟩) hbl
        have st' (j : Nat) := hX.cell (p := ⟨b', j, none⟩) hbl'
        exact ⟨hB.2.1 0, hC.2.1 0, (st _).trans x0, (st _).trans x1, (st _).trans x2, (st' _).trans z0, (st' _).trans z1, (st' _).trans z2, hX⟩)
      go_wp2_with fail
      go_region_held3 (fun X => X.cell? ⟨w.heap.size, 0, none⟩ = some (.slice (some ⟨b, o, none⟩) N d) ∧ X.cell? ⟨w.heap.size + 1, 0, none⟩ = some (.slice (some ⟨b', o', none⟩) N d') ∧ X.cell? ⟨b, o + k * 3, none⟩ = some (.int .i64 e.at_) ∧ X.cell? ⟨b, o + k * 3 + 1, none⟩ = some (.slice hd.A hd.n hd.c) ∧ X.cell? ⟨b, o + k * 3 + 2, none⟩ = some (.slice hd.B hd.m hd.d) ∧ X.cell? ⟨b', o' + k * 3, none⟩ = some (.int .i64 e.at_) ∧ X.cell? ⟨b', o' + k * 3 + 1, none⟩ = some (.slice hd'.A hd'.n hd'.c) ∧ X.cell? ⟨b', o' + k * 3 + 2, none⟩ = some (.slice hd'.B hd'.m hd'.d) ∧ Below wr.heap.size wr X)
        (first | exact HS.out _ (by repeat' (first | assumption | exact Below.refl _ _ | refine belPush ?_ _ | refine Below.drew ?_ | refine belDrew ?_ _ | refine Below.setCell ?_ (by simp) _)) | go_keep)
        (fail)
      all_goals
        have HF := Lib.hid (fun X (hX : Below wr.heap.size wr X) => And.intro (HV.out.1.later hX HV.out.1.1) (And.intro (HV.out.2.1.later hX HV.out.2.1.1) (bStep HV.out.2.2 hX)))
        clear y0 k0 j0 y1 k1 j1 x0 x1 x2 z0 z1 z2 HS
        go_wp2_with (first
          | (go_at_call 19; (with_reducible refine (same_is (.slice hd.A hd.n hd.c) (.slice hd'.A hd'.n hd'.c) e.old e.old _ (Txt.later HE.out.1.1 (by repeat' (first | assumption | exact Below.refl _ _ | refine belPush ?_ _ | refine Below.drew ?_ | refine belDrew ?_ _ | refine Below.setCell ?_ (by simp) _))) (Txt.later HE.out.2.1 (by repeat' (first | assumption | exact Below.refl _ _ | refine belPush ?_ _ | refine Below.drew ?_ | refine belDrew ?_ _ | refine Below.setCell ?_ (by simp) _)))).mono ?_); rintro e' w' ⟨he, q, rfl⟩; rw [decide_eq_true rfl] at he; subst he)
          | (go_at_call 19; (with_reducible refine (same_is (.slice hd.B hd.m hd.d) (.slice hd'.B hd'.m hd'.d) e.new e.new _ (Txt.later HE.out.1.2 (by repeat' (first | assumption | exact Below.refl _ _ | refine belPush ?_ _ | refine Below.drew ?_ | refine belDrew ?_ _ | refine Below.setCell ?_ (by simp) _))) (Txt.later HE.out.2.2 (by repeat' (first | assumption | exact Below.refl _ _ | refine belPush ?_ _ | refine Below.drew ?_ | refine belDrew ?_ _ | refine Below.setCell ?_ (by simp) _)))).mono ?_); rintro e' w' ⟨he, q2, rfl⟩; rw [decide_eq_true rfl] at he; subst he))
        go_roundw
        case rel => exact ⟨k + 1, by omega, by go_num, HF.out _ (by repeat' (first | assumption | exact Below.refl _ _ | refine belPush ?_ _ | refine Below.drew ?_ | refine belDrew ?_ _ | refine Below.setCell ?_ (by simp) _))⟩
        case measure => simp [intOf]; omega
    · have hx : k = N := by omega
      subst hx
      go_wp2
      go_ret
      exact ⟨rfl, HV.out.2.2⟩
end Go.Proofs.Ytfmpldgeldocnaa
