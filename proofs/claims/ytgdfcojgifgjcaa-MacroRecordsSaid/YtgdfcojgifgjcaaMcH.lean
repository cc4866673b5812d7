/- macro: expand, a name that is known and not open. -/
import Derived.Test.YtgdfcojgifgjcaaMcG
namespace Go.Proofs.Ytgdfcojgifgjcaa
open Go.RowKit Go.Maps
set_option linter.unusedVariables false
set_option linter.unusedSimpArgs false
set_option maxRecDepth 100000

theorem loopX_drop {g : Int → Nat → List Ky → Nat × Nat × List Ky} {M : List MSt} {k t : Nat} {ks : List Ky} {s : MSt} (h : M[k]? = some s) : loopX g (M.drop k) t ks = if t = 20000 then (7, t, ks) else
    if s.call then (if (g s.nm (t + 1) ks).1 = 0 then loopX g (M.drop (k + 1)) (g s.nm (t + 1) ks).2.1 (g s.nm (t + 1) ks).2.2 else g s.nm (t + 1) ks)
    else loopX g (M.drop (k + 1)) (t + 1) (ks ++ [s.key]) := by
  obtain ⟨hk, rfl⟩ := List.getElem?_eq_some_iff.1 h
  rw [List.drop_eq_getElem_cons hk]
  rfl
theorem loopX_end {g : Int → Nat → List Ky → Nat × Nat × List Ky} {M : List MSt} {t : Nat} {ks : List Ky} : loopX g (M.drop M.length) t ks = (0, t, ks) := by
  rw [List.drop_length]
  rfl
theorem key_newT (Y : World) (d : Kp) (ty : TypeId) : LiV 4 encK (Y.alloc (.cells #[.int .i64 d.k, .int .i32 d.r, .bool d.m, .slice d.A d.n d.c] ty)) (fun b => Y.heap.size ≤ b) (.slice (some ⟨Y.heap.size, 0, none⟩) 1 1) [d] :=
  ⟨_, 1, rfl, Li.new encK_len Y _ ty (by simp [flatL, encK]), (fun h => by cases h), Nat.le_refl _, by decide⟩
/-- What a round starts from. -/
def Rnd (W : World) (g bo B : Nat) (mb : Value) (op : List Int) (gf : Int → Nat → List Ky → Nat × Nat × List Ky) (M : List MSt) (R : Nat × Nat × List Ky) (k q t n : Nat) (ks : List Ky) (A : Option Addr) (c : Nat) (hs : List Kp) (X : World) : Prop :=
  Xp W g bo B mb op q t n ks A c hs X ∧ loopX gf (M.drop k) t ks = R

set_option maxHeartbeats 8000000 in
theorem expand_step {W : World} {g bo B nB : Nat} {mb : Value} {L : List (Int × Sv)} {F : Int → Option (List MSt)} (hB : BookF W mb nB L F) {op : List Int} {q t n : Nat} {ks : List Ky} {A : Option Addr} {c : Nat} {hs : List Kp} {nm : Int} {w : World} (hw : (Lit.int .i32 nm).wf = true)
    (h : Xp W g bo B mb op q t n ks A c hs w) (hq : q ≤ t) {M : List MSt} (hF : F nm = some M) (ho : nm ∉ op) (gf : Int → Nat → List Ky → Nat × Nat × List Ky)
    (IH : ∀ (nm' : Int) (t q n : Nat) (ks : List Ky) (A : Option Addr) (c : Nat) (hs : List Kp) (X : World), (Lit.int .i32 nm').wf = true → q ≤ t → Xp W g bo B mb (nm :: op) q t n ks A c hs X → Calls Try.prog 25 #[ptr g, .int .i32 nm'] X (ExPost W g bo B mb (nm :: op) (gf nm' t ks))) :
    Calls Try.prog 25 #[ptr g, .int .i32 nm] w (ExPost W g bo B mb op (loopX gf M t ks)) := by
  have V := Lib.hid h
  have hh := Lib.hid IH
  have q1 := book_look (hB.later h.below).1 hw
  obtain ⟨v2, q2⟩ := h.op_.look hw
  rw [decide_eq_false ho] at q2
  have hl : ∃ sv, lastB L nm = some sv := by
    cases e : lastB L nm with
    | none => have := (hB.2 nm).1 e; rw [hF] at this; cases this
    | some sv => exact ⟨sv, rfl⟩
  obtain ⟨sv, hl⟩ := hl
  rw [hl] at q1
  obtain ⟨v1, hv1⟩ : ∃ v1, svV sv = v1 := ⟨_, rfl⟩
  simp only [Option.getD_some, Option.isSome_some, hv1] at q1
  obtain ⟨M', hM', hM1, hst⟩ := (hB.2 nm).2 sv hl
  obtain rfl : M = M' := Option.some.inj (hF.symm.trans hM')
  rw [hv1] at hst
  obtain ⟨H, hH, hHM, hHs⟩ := hst
  obtain ⟨Al, cl, rfl, hN1, hN2⟩ := hH.is
  rw [hHM] at q1 hN1 hH
  obtain ⟨N, hN⟩ : ∃ N, M.length = N := ⟨_, rfl⟩
  have HM := Lib.hid (And.intro hH (And.intro hHM (And.intro hHs hN)))
  rw [hN] at q1 hN1 hM1
  obtain ⟨R, hR⟩ : ∃ R, loopX gf M t ks = R := ⟨_, rfl⟩
  rw [hR]
  have HR := Lib.hid hR
  have HO := Lib.hid ho
  obtain ⟨y1, k0, k1, k2, k3, j1⟩ := h.cells
  clear h hB hl hv1 IH hF hM' hH hHM hHs hN hR ho
  refine calls_of_wp_B Try.func25 rfl ?_
  simp only [Try.ntmps25, List.size_toArray, List.length_cons, List.length_nil, Nat.reduceAdd, Nat.reduceSub, Array.replicate_succ, Array.replicate_zero, List.push_toArray, List.append_toArray, List.nil_append, List.cons_append]
  go_wp2_with fail
  go_still_tail 9, (by kernel_rfl)
  change wpList _ _ _ _ _ w.drew
  obtain ⟨D, hD1, hD2⟩ := V.out.op_
  refine wpList_mapUpdate_own _ rfl _ _ _ 68 rfl 21 3 lawR Try.underlying68 elI bo q D rfl hD1.drew (by have := V.out.kt; unfold maxLen; omega) _ _ (.int .i32 nm) rfl rfl (key_r nm hw) (.agg []) [] rfl ?_
  intro w1 hown1 hgrow1
  have V1 := Lib.hid (V.out.mapped (OpenM.put hD1 hD2 hw hown1) ⟨hgrow1.os, hgrow1.tape, hgrow1.output, hgrow1.size, hgrow1.block⟩ (by omega))
  clear hown1 hgrow1 hD1 hD2 y1 k0 k1 k2 k3 j1 q1 q2
  obtain ⟨y1, k0, k1, k2, k3, j1⟩ := V1.out.cells
  go_wp2_with fail
  clear y1 k0 k1 k2 k3 j1
  go_loopw [50] (fun i wr => ∃ (k q' t' n' : Nat) (ks' : List Ky) (A' : Option Addr) (c' : Nat) (hs' : List Kp), k ≤ N ∧ i = .int .i64 (k : Nat) ∧ Hid (Rnd W g bo B mb (nm :: op) gf M R k q' t' n' ks' A' c' hs' wr)) (fun i _ => N - (intOf i).toNat)
  case atStart => exact ⟨0, _, _, _, _, _, _, _, Nat.zero_le _, rfl, V1.out, HR.out⟩
  case round =>
    obtain ⟨k, q', t', n', ks', A', c', hs', hk, rfl, HV⟩ := hrel
    have hkt := HV.out.1.kt
    obtain ⟨hkt0, hkt1, hkt2, hkt3⟩ := hkt
    have HKT := Lib.hid hkt0
    clear hkt0 V1 HR V
    have hdel := fun ty => HV.out.1.op_.drop HO.out hw ty
    by_cases hlt : k < N
    · obtain ⟨x, hx⟩ : ∃ x, H[k]? = some x := ⟨_, List.getElem?_eq_getElem (by have := HM.out.2.1; have := HM.out.2.2.2; omega)⟩
      obtain ⟨s, hs0, e1, e2, e3, e4, e5, e6, e7, e8⟩ := HM.out.2.2.1 k x hx
      obtain ⟨hg, hli, _⟩ := HM.out.1.parts
      obtain ⟨b, o, rfl, hbl, _, hcl⟩ := hli k x hx
      have hce : ∀ (i : Nat) (u : Value), (encS x)[i]? = some u → wr.cell? ⟨b, o + k * 6 + i, none⟩ = some u := fun i u hu => by
        rw [Nat.add_assoc]
        exact (HV.out.1.below.cell (p := ⟨b, o + (k * 6 + i), none⟩) hbl).trans (hcl i u hu)
      have l0 : wr.cell? ⟨b, o + k * 6, none⟩ = some (.int .i64 x.k) := hce 0 _ rfl
      have l1 : wr.cell? ⟨b, o + k * 6 + 1, none⟩ = some (.int .i32 x.r) := hce 1 _ rfl
      have l2 : wr.cell? ⟨b, o + k * 6 + 2, none⟩ = some (.bool x.m) := hce 2 _ rfl
      have l3 : wr.cell? ⟨b, o + k * 6 + 3, none⟩ = some (.slice x.A x.n x.c) := hce 3 _ rfl
      have l4 : wr.cell? ⟨b, o + k * 6 + 4, none⟩ = some (.bool x.call) := hce 4 _ rfl
      have l5 : wr.cell? ⟨b, o + k * 6 + 5, none⟩ = some (.int .i32 x.nm) := hce 5 _ rfl
      obtain ⟨xk, xr, xm, xA, xn, xc, xcall, xnm⟩ := x
      dsimp only at l0 l1 l2 l3 l4 l5 e1 e2 e3 e4 e5 e7
      have HS := Lib.hid (show M[k]? = some s ∧ xk = s.key.k ∧ xr = s.key.r ∧ xm = s.key.m ∧ xcall = s.call ∧ xnm = s.nm ∧ (Lit.int .i32 s.nm).wf = true ∧ Txt W (.slice xA xn xc) s.key.t ∧ s.key.t.length ≤ 1000000 from ⟨hs0, e1, e2, e3, e4, e5, e6, e7, e8⟩)
      have g1 : (k : Int) < (N : Int) := by omega
      have g2 : (0 : Int) ≤ (k : Int) := by omega
      clear hx hs0 e1 e2 e3 e4 e5 e6 e7 e8 hcl hce hli hg
      go_upto_region 12 with fail
      refine at_world (fun X => Rnd W g bo B mb (nm :: op) gf M R k q' t' n' ks' A' c' hs' X ∧ Blk X wr.heap.size #[.int .i64 xk, .int .i32 xr, .bool xm, .slice xA xn xc, .bool xcall, .int .i32 xnm] ∧ B ≤ wr.heap.size) ⟨⟨HV.out.1.later (belAlloc _ _), HV.out.2⟩, blk_new wr _ _, HV.out.1.lt.2.2.2.2.2⟩ ?_
      obtain ⟨sb, hsb⟩ : ∃ sb, wr.heap.size = sb := ⟨_, rfl⟩
      rw [hsb]
      intro X hX
      have VX := Lib.hid hX
      have HR := Lib.hid ((loopX_drop HS.out.1).symm.trans HV.out.2)
      clear hX HV l0 l1 l2 l3 l4 l5 hdel hsb
      obtain ⟨y1, k0, k1, k2, k3, j1⟩ := VX.out.1.1.cells
      by_cases ht : t' = 20000
      · have d1 : ((t' : Int) == 20000) = true := by rw [ht]; rfl
        obtain ⟨Y, hr, hO, hT⟩ := VX.out.1.1.op_.drop HO.out hw 0
        have hR : R = (7, t', ks') := by have := HR.out; rw [if_pos ht] at this; exact this.symm
        have HY := Lib.hid (And.intro hR (VX.out.1.1.mapped hO hT.grown (by omega)))
        clear ht hO hT hR
        go_wp2_with fail
        refine leavesB_del hr (leavesB_nil (v := .int .i64 7) (by simp [results, Try.results25, go_sem]) ⟨q', A', c', hs', by rw [HY.out.1]; rfl, by rw [HY.out.1]; have h := HY.out.2; rw [← HKT.out] at h; exact h⟩)
      · have ht2 : t' < 20000 := by omega
        have d1 : ((t' : Int) == 20000) = false := by simp; omega
        have HR2 := Lib.hid (show _ = R from (if_neg ht).symm.trans HR.out)
        clear ht HR
        go_upto_region 15 with fail
        refine at_world (fun Y => Xp W g bo B mb (nm :: op) q' (t' + 1) n' ks' A' c' hs' Y ∧ Blk Y sb #[.int .i64 xk, .int .i32 xr, .bool xm, .slice xA xn xc, .bool xcall, .int .i32 xnm] ∧ B ≤ sb) ⟨VX.out.1.1.taken ht2, VX.out.2.1.far (by have := VX.out.1.1.lt; have := VX.out.2.2; show g ≠ sb; omega) _, VX.out.2.2⟩ ?_
        intro Y hY
        have VY := Lib.hid hY
        clear hY VX k0 k1 k2 k3 y1 j1 d1
        obtain ⟨y1, k0, k1, k2, k3, j1⟩ := VY.out.1.cells
        obtain ⟨y2, m_, j2⟩ := VY.out.2.1
        have m0 : Y.cell? ⟨sb, 0, none⟩ = some (.int .i64 xk) := m_ 0
        have m1 : Y.cell? ⟨sb, 1, none⟩ = some (.int .i32 xr) := m_ 1
        have m2 : Y.cell? ⟨sb, 2, none⟩ = some (.bool xm) := m_ 2
        have m3 : Y.cell? ⟨sb, 3, none⟩ = some (.slice xA xn xc) := m_ 3
        have m4 : Y.cell? ⟨sb, 4, none⟩ = some (.bool xcall) := m_ 4
        have m5 : Y.cell? ⟨sb, 5, none⟩ = some (.int .i32 xnm) := m_ 5
        clear m_
        cases xcall
        · have HR3 := Lib.hid (show loopX gf (M.drop (k + 1)) (t' + 1) (ks' ++ [s.key]) = R from by
            have h := HR2.out
            rw [← HS.out.2.2.2.2.1] at h
            exact h)
          have C1 := Lib.hid (fun X (hX : Below Y.heap.size Y X) => keycopy_any xk xr xm xA xn xc s.key.t X ((HS.out.2.2.2.2.2.2.2.1.later VY.out.1.below).later hX) (by have := HS.out.2.2.2.2.2.2.2.2; omega))
          have HZ := Lib.hid (fun X (hX : Below Y.heap.size Y X) => VY.out.1.later hX)
          have hBY : B ≤ Y.heap.size := VY.out.1.lt.2.2.2.2.2
          have z5 := fun (X : World) (hX : Below Y.heap.size Y X) => Nat.le_trans hBY hX.size
          have HZ5 := Lib.hid z5
          clear HR2 hh z5
          go_wp2_with fail
          go_region_law (first
            | (go_simp; go_at_call 28; refine (C1.out _ (by first | exact Below.refl _ _ | exact (Below.refl _ _).drew | exact selfDrew _ _)).mono ?_; rintro e w5 ⟨A5, n5, c5, rfl, t5, b5⟩; have B5 := Lib.hid (belowStep (W := Y) (by first | exact Below.refl _ _ | exact (Below.refl _ _).drew | exact selfDrew _ _) b5); have V5 := Lib.hid (HZ.out _ B5.out); have HT5 := Lib.hid t5; have hz5 := HZ5.out _ B5.out; obtain ⟨y5, p0, p1, p2, p3, pj⟩ := V5.out.cells; clear t5 b5)
            | (refine step_li (M := [⟨xk, xr, xm, A5, n5, c5⟩]) encK_len encK_one key_elt (own_later V5.out.row (by first | exact belAlloc _ _ | exact (belAlloc _ _).drew)) (by simp [World.size_alloc]; omega) rfl rfl (by rfl) (by rfl) (key_newT w5 ⟨xk, xr, xm, A5, n5, c5⟩ 30) (by unfold maxLen; omega) (by omega) ?_; intro A6 c6 w6 hp; have V6 := Lib.hid (VY.out.1.push (l := s.key.t) (belowStep B5.out (belAlloc w5 _)) (TxtS.later HT5.out (belAlloc w5 _)) hp (by omega)); obtain ⟨y6, r_, rj⟩ := (show _ from VY.out.1.pushB (belowStep B5.out (belAlloc w5 _)) hp); have r3 : w6.cell? ⟨g, 3, none⟩ = some (.slice A' n' c') := r_ 3; clear r_ hp))
          all_goals
            clear y1 k0 k1 k2 k3 j1 y2 j2 m0 m1 m2 m3 m4 m5 y5 p0 p1 p2 p3 pj y6 rj r3 hz5
            go_wp2_with fail
            go_roundw
            case rel => exact ⟨k + 1, q', t' + 1, n' + 1, ks' ++ [s.key], A6, c6, hs' ++ [⟨xk, xr, xm, A5, n5, c5⟩], by omega, by go_num, by
              have h := V6.out
              rw [show (⟨xk, xr, xm, s.key.t⟩ : Ky) = s.key by rw [HS.out.2.1, HS.out.2.2.1, HS.out.2.2.2.1]] at h
              exact h, HR3.out⟩
            case measure => simp [intOf]; omega
        · obtain ⟨r, hr⟩ : ∃ r, gf xnm (t' + 1) ks' = r := ⟨_, rfl⟩
          have C1 := Lib.hid (hh.out xnm (t' + 1) q' n' ks' A' c' hs' Y (by rw [HS.out.2.2.2.2.2.1]; exact HS.out.2.2.2.2.2.2.1) (by omega) VY.out.1)
          rw [hr] at C1
          have HR3 := Lib.hid (show (if r.1 = 0 then loopX gf (M.drop (k + 1)) r.2.1 r.2.2 else r) = R from by
            have h := HR2.out
            rw [← HS.out.2.2.2.2.1, if_pos rfl, ← HS.out.2.2.2.2.2.1, hr] at h
            exact h)
          clear HR2 hr
          go_wp2_with fail
          refine C1.out.mono ?_
          rintro e w5 ⟨q5, A5, c5, hs5, rfl, h5⟩
          have V5 := Lib.hid h5
          clear h5 C1 y1 k0 k1 k2 k3 j1 y2 j2 m0 m1 m2 m3 m4 m5
          by_cases hr0 : r.1 = 0
          · have d1 : (((r.1 : Nat) : Int) != 0) = false := by simp [hr0]
            have HR4 := Lib.hid ((if_pos hr0).symm.trans HR3.out)
            clear hr0
            go_wp2_with fail
            go_roundw
            case rel => exact ⟨k + 1, _, _, _, _, _, _, _, by omega, by go_num, V5.out, HR4.out⟩
            case measure => simp [intOf]; omega
          · have d1 : (((r.1 : Nat) : Int) != 0) = true := by simp [hr0]
            obtain ⟨Z, hrz, hO, hT⟩ := V5.out.op_.drop HO.out hw 0
            have hR : R = r := by have := HR3.out; rw [if_neg hr0] at this; exact this.symm
            have HY := Lib.hid (And.intro hR (V5.out.mapped hO hT.grown V5.out.kt.2.2.2))
            clear hr0 hO hT hR
            go_wp2_with fail
            refine leavesB_del hrz (leavesB_nil (v := .int .i64 r.1) (by simp [results, Try.results25, go_sem]) ⟨_, _, _, _, by rw [HY.out.1], by rw [HY.out.1]; exact HY.out.2⟩)
    · obtain rfl : k = N := by omega
      obtain ⟨Y, hr, hO, hT⟩ := HV.out.1.op_.drop HO.out hw 0
      have hR : R = (0, t', ks') := by
        have h := HV.out.2
        rw [← HM.out.2.2.2, loopX_end] at h
        exact h.symm
      have HY := Lib.hid (And.intro hR (HV.out.1.mapped hO hT.grown (by omega)))
      clear hO hT hR hdel
      go_wp2_with fail
      refine leavesB_del hr (leavesB_nil (v := .int .i64 0) (by simp [results, Try.results25, go_sem]) ⟨q', A', c', hs', by rw [HY.out.1]; rfl, by rw [HY.out.1]; have h := HY.out.2; rw [← HKT.out] at h; exact h⟩)
end Go.Proofs.Ytgdfcojgifgjcaa
