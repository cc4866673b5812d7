/- 'typebar/typebarlaw11.BackPrev' returns true for every input, and each argument reads behind the call as it read before. No condition. -/
import Derived.Test.YtggapcfjcdafpaaGreatGb33
namespace Go.Proofs.YtggapcfjcdafpaaGreat
open Go.RowKit
set_option linter.unusedVariables false
set_option linter.unusedSimpArgs false

set_option maxHeartbeats 8000000 in
set_option maxRecDepth 100000 in
theorem walk_BackPrev (w : World) (A0 : Option Addr) (n0 c0 : Nat) (f0 : Nat → Int) (hA : Rd w A0 n0 (fun j => .int .i32 (f0 j))) (hle : n0 ≤ c0) (hmax : c0 ≤ maxLen) (hp : ∀ j, j < n0 → (Lit.int .i32 (f0 j)).wf = true) (a1 : Int) (w1 : (Lit.int .i64 a1).wf = true) :
    Calls Tryz.prog 9 #[.slice A0 n0 c0, .int .i64 a1] w (Yes w) := by
  obtain ⟨T, hG, hT, C0⟩ := rows_li w
  obtain ⟨l, hll, hL0, hSc⟩ := came_text hA hp 150
  have hlc : l.length ≤ c0 := by omega
  have hl2 : l.length ≤ 150 := by omega
  have HG := Lib.hid hG
  have C0 := Lib.hid C0
  have HK := Lib.hid (show (KT T).tidy by rw [← hT]; exact rows_tidy)
  have AW := Lib.hid (fun X => awake11_yes X)
  have HL := Lib.hid (And.intro hL0 hSc)
  have CF := fews_any A0 n0 c0 150 w hle (by unfold maxLen at hmax; omega) (by omega)
  rw [← hll] at CF
  have CF := Lib.hid CF
  have hw1 := wf_i64 w1
  clear hG hA hp hT hL0 hSc hll hle hmax w1
  go_enter Tryz.func9, Tryz.ntmps9
  go_wp2_with fail
  refine CF.out.mono ?_
  rintro e w0 ⟨rfl, rfl⟩
  clear CF
  go_wp2_with fail
  refine C0.out.mono ?_
  rintro e w1 ⟨A, c, rfl, hL, hc, hm, hb1⟩
  have C1 := Lib.hid (build_tabs A c T w1 (hL.mono fun _ _ => trivial) hc HG.out)
  have L1 := Lib.hid (And.intro (hL.mono (S' := fun _ => True) fun _ _ => trivial) hb1)
  clear C0 hL hb1
  go_wp2_with fail
  refine C1.out.mono ?_
  rintro e w2 ⟨tp, rfl, hU, hb⟩
  have hT : T.length ≤ 100000 := by have := HG.out.len; omega
  have B0 := Lib.hid (show LB w T tp A c A0 c0 l w2 by
    have h := HL.out.1.later (L1.out.2.trans (hb.mono L1.out.2.size))
    exact ⟨⟨hU, HK.out, h, HL.out.2, hlc, by omega⟩, ⟨L1.out.1.later hb, hc, hT, h, HL.out.2, by omega⟩, L1.out.2.trans (hb.mono L1.out.2.size)⟩)
  clear hU hb C1 L1 HL HG hT
  have F1 := Lib.hid (fun Z (hZ : LB w T tp A c A0 c0 l Z) => pprev_any hZ.tt a1 hw1.2)
  have F2 := Lib.hid (fun Z (hZ : LB w T tp A c A0 c0 l Z) => pnext_any hZ.tt a1)
  have R1 := Lib.hid (fun Z (hZ : LB w T tp A c A0 c0 l Z) (a : Int) h1 h2 => rfloor_any c0 hZ.rt hlc a h1 h2)
  have R2 := Lib.hid (fun Z (hZ : LB w T tp A c A0 c0 l Z) (a : Int) h1 h2 => rceil_any c0 hZ.rt hlc a h1 h2)
  have R0 := Lib.hid (fun Z (hZ : LB w T tp A c A0 c0 l Z) => rceil_any c0 hZ.rt hlc 0 (by decide) (by decide))
  simp only [show (0 : Int).toNat = 0 from rfl, nextP_zero] at R0
  obtain ⟨P, hP⟩ : ∃ V, floorI (KT T) l (a1 - 1) = V := ⟨_, rfl⟩
  obtain ⟨Q, hQ⟩ : ∃ V, nextB (KT T) l a1 = V := ⟨_, rfl⟩
  simp only [hP] at F1
  simp only [hQ] at F2
  have e1 : ((P : Int) == (P : Int)) = true := by simp
  have e2 : ((Q : Int) == (Q : Int)) = true := by simp
  by_cases p0 : 0 < a1
  · have d0 : decide (0 < a1) = true := by simpa using p0
    have G1 := R1.out
    obtain ⟨z, hz⟩ : ∃ z, a1 - 1 = z := ⟨_, rfl⟩
    have G1 := fun Z (hZ : LB w T tp A c A0 c0 l Z) => R1.out Z hZ (a1 - 1) (by omega) (by omega)
    have dz : IntKind.i64.wrap (a1 - 1) = z := by rw [← hz]; exact IntWalk.i64_in _ (by omega)
    rw [hz] at hP
    simp only [hz, hP] at G1
    have G1 := Lib.hid G1
    go_wp2_with fail
    refine (G1.out _ B0.out).mono ?_
    rintro e v1 ⟨rfl, m1, rfl⟩
    have B1 := Lib.hid (B0.out.drewN m1)
    try rw [World.drewN_drewN] at B1
    clear B0
    by_cases p1 : (l.length : Int) < a1
    · have d1 : decide ((l.length : Int) < a1) = true := by simpa using p1
      have d2 : decide (a1 < (l.length : Int)) = false := by simp; omega
      have hPl : P = l.length := by rw [← hP]; exact floorI_high (by omega)
      have hQl : Q = l.length := by rw [← hQ]; unfold nextB; rw [if_neg (by omega), if_pos (by omega)]
      rw [hPl] at F1 e1
      rw [hQl] at F2
      clear hz hP hQ hPl hQl p0 p1 R1 R2 R0 HK hw1 G1 e2 dz
      go_wp2_with fail
      refine (F1.out _ B1.out).mono ?_
      rintro e vp ⟨rfl, hb⟩
      have BP := Lib.hid (B1.out.later hb)
      clear B1 hb
      go_wp2_with fail
      refine (F2.out _ BP.out).mono ?_
      rintro e vq ⟨rfl, hb⟩
      have BQ := Lib.hid (BP.out.later hb)
      clear BP hb
      go_wp2_with fail
      refine (AW.out _).mono ?_
      rintro e w9 ⟨rfl, hb⟩
      have U9 := Lib.hid (bStepS BQ.out.be hb)
      clear hb BQ
      go_wp2
      go_ret
      exact ⟨rfl, U9.out⟩
    · have d1 : decide ((l.length : Int) < a1) = false := by simpa using p1
      by_cases p2 : a1 < (l.length : Int)
      · have d2 : decide (a1 < (l.length : Int)) = true := by simpa using p2
        have d3 : decide (0 ≤ a1) = true := by simp; omega
        obtain ⟨y, hy⟩ : ∃ z, a1 + 1 = z := ⟨_, rfl⟩
        have G2 := fun Z (hZ : LB w T tp A c A0 c0 l Z) => R2.out Z hZ (a1 + 1) (by omega) (by omega)
        have dy : IntKind.i64.wrap (a1 + 1) = y := by rw [← hy]; exact IntWalk.i64_in _ (by omega)
        have hQn : SG.nextP (KT T) l (a1 + 1).toNat = Q := by rw [← hQ]; unfold nextB; rw [if_neg (by omega), if_neg (by omega), show (a1 + 1).toNat = a1.toNat + 1 by omega]
        rw [hy] at hQn
        simp only [hy, hQn] at G2
        have G2 := Lib.hid G2
        clear hz hP hQ hQn hy p0 p1 p2 R1 R2 HK hw1 G1 dz
        go_wp2_with fail
        refine (R0.out _ B1.out).mono ?_
        rintro e v2 ⟨rfl, m2, rfl⟩
        have B2 := Lib.hid (B1.out.drewN m2)
        try rw [World.drewN_drewN] at B2
        clear B1
        go_wp2_with fail
        refine (G2.out _ B2.out).mono ?_
        rintro e v3 ⟨rfl, m3, rfl⟩
        have B3 := Lib.hid (B2.out.drewN m3)
        try rw [World.drewN_drewN] at B3
        clear B2
        go_wp2_with fail
        refine (F1.out _ B3.out).mono ?_
        rintro e vp ⟨rfl, hb⟩
        have BP := Lib.hid (B3.out.later hb)
        clear B3 hb
        go_wp2_with fail
        refine (F2.out _ BP.out).mono ?_
        rintro e vq ⟨rfl, hb⟩
        have BQ := Lib.hid (BP.out.later hb)
        clear BP hb
        go_wp2_with fail
        refine (AW.out _).mono ?_
        rintro e w9 ⟨rfl, hb⟩
        have U9 := Lib.hid (bStepS BQ.out.be hb)
        clear hb BQ
        go_wp2
        go_ret
        exact ⟨rfl, U9.out⟩
      · have d2 : decide (a1 < (l.length : Int)) = false := by simpa using p2
        have hQl : Q = l.length := by rw [← hQ]; unfold nextB; rw [if_neg (by omega), if_pos (by omega)]
        rw [hQl] at F2 e2
        clear hz hP hQ hQl p0 p1 p2 R1 R2 R0 HK hw1 G1 dz
        go_wp2_with fail
        refine (F1.out _ B1.out).mono ?_
        rintro e vp ⟨rfl, hb⟩
        have BP := Lib.hid (B1.out.later hb)
        clear B1 hb
        go_wp2_with fail
        refine (F2.out _ BP.out).mono ?_
        rintro e vq ⟨rfl, hb⟩
        have BQ := Lib.hid (BP.out.later hb)
        clear BP hb
        go_wp2_with fail
        refine (AW.out _).mono ?_
        rintro e w9 ⟨rfl, hb⟩
        have U9 := Lib.hid (bStepS BQ.out.be hb)
        clear hb BQ
        go_wp2
        go_ret
        exact ⟨rfl, U9.out⟩
  · have d0 : decide (0 < a1) = false := by simpa using p0
    have d1 : decide ((l.length : Int) < a1) = false := by simp; omega
    have hPz : P = 0 := by rw [← hP]; exact floorI_low (by omega)
    subst hPz
    by_cases p2 : a1 < (l.length : Int)
    · have d2 : decide (a1 < (l.length : Int)) = true := by simpa using p2
      by_cases p3 : 0 ≤ a1
      · obtain rfl : a1 = 0 := by omega
        have hQn : SG.nextP (KT T) l 1 = Q := by rw [← hQ]; unfold nextB; rw [if_neg (by omega), if_neg (by omega)]; rfl
        have G2 := fun Z (hZ : LB w T tp A c A0 c0 l Z) => R2.out Z hZ 1 (by omega) (by omega)
        simp only [show (1 : Int).toNat = 1 from rfl, hQn] at G2
        have G2 := Lib.hid G2
        clear hP hQ hQn p0 p3 R1 R2 HK hw1
        go_wp2_with fail
        refine (R0.out _ B0.out).mono ?_
        rintro e v2 ⟨rfl, m2, rfl⟩
        have B2 := Lib.hid (B0.out.drewN m2)
        try rw [World.drewN_drewN] at B2
        clear B0
        go_wp2_with fail
        refine (G2.out _ B2.out).mono ?_
        rintro e v3 ⟨rfl, m3, rfl⟩
        have B3 := Lib.hid (B2.out.drewN m3)
        try rw [World.drewN_drewN] at B3
        clear B2
        go_wp2_with fail
        refine (F1.out _ B3.out).mono ?_
        rintro e vp ⟨rfl, hb⟩
        have BP := Lib.hid (B3.out.later hb)
        clear B3 hb
        go_wp2_with fail
        refine (F2.out _ BP.out).mono ?_
        rintro e vq ⟨rfl, hb⟩
        have BQ := Lib.hid (BP.out.later hb)
        clear BP hb
        go_wp2_with fail
        refine (AW.out _).mono ?_
        rintro e w9 ⟨rfl, hb⟩
        have U9 := Lib.hid (bStepS BQ.out.be hb)
        clear hb BQ
        go_wp2
        go_ret
        exact ⟨rfl, U9.out⟩
      · have d3 : decide (0 ≤ a1) = false := by simpa using p3
        have hQz : Q = 0 := by rw [← hQ]; unfold nextB; rw [if_pos (by omega)]
        subst hQz
        clear hP hQ p0 p2 p3 R1 R2 HK hw1
        go_wp2_with fail
        refine (R0.out _ B0.out).mono ?_
        rintro e v2 ⟨rfl, m2, rfl⟩
        have B2 := Lib.hid (B0.out.drewN m2)
        try rw [World.drewN_drewN] at B2
        clear B0
        go_wp2_with fail
        refine (F1.out _ B2.out).mono ?_
        rintro e vp ⟨rfl, hb⟩
        have BP := Lib.hid (B2.out.later hb)
        clear B2 hb
        go_wp2_with fail
        refine (F2.out _ BP.out).mono ?_
        rintro e vq ⟨rfl, hb⟩
        have BQ := Lib.hid (BP.out.later hb)
        clear BP hb
        go_wp2_with fail
        refine (AW.out _).mono ?_
        rintro e w9 ⟨rfl, hb⟩
        have U9 := Lib.hid (bStepS BQ.out.be hb)
        clear hb BQ
        go_wp2
        go_ret
        exact ⟨rfl, U9.out⟩
    · have d2 : decide (a1 < (l.length : Int)) = false := by simpa using p2
      have hQl : Q = l.length := by rw [← hQ]; unfold nextB; rw [if_neg (by omega), if_pos (by omega)]
      rw [hQl] at F2 e2
      clear hP hQ hQl p0 p2 R1 R2 R0 HK hw1
      go_wp2_with fail
      refine (F1.out _ B0.out).mono ?_
      rintro e vp ⟨rfl, hb⟩
      have BP := Lib.hid (B0.out.later hb)
      clear B0 hb
      go_wp2_with fail
      refine (F2.out _ BP.out).mono ?_
      rintro e vq ⟨rfl, hb⟩
      have BQ := Lib.hid (BP.out.later hb)
      clear BP hb
      go_wp2_with fail
      refine (AW.out _).mono ?_
      rintro e w9 ⟨rfl, hb⟩
      have U9 := Lib.hid (bStepS BQ.out.be hb)
      clear hb BQ
      go_wp2
      go_ret
      exact ⟨rfl, U9.out⟩
end Go.Proofs.YtggapcfjcdafpaaGreat

namespace Go.Proofs.YtggapcfjcdafpaaGreat.backPrev
open Go.ChangeShapes Go.WideShapes Go.ChangeAt Go.RowKit Go.WideMaps Go.WideElems
open Go.ChangeMaps (open_string)

theorem own : ownKnob Tryz.prog.godebug = none := by kernel_rfl
theorem laidOut : laidOutB Tryz.prog = true := by kernel_rfl

set_option linter.unusedVariables false in
set_option maxRecDepth 100000 in
theorem lifted (os : Os) (started : os.Started) (H : Type) (enc : TypeId × Value → H) :
    ReturnsInHanded {} Tryz.checked os 9 .any (Rows.backPrevSpec.pre6 enc Tryz.prog Tryz.f9 Rows.backPrevRow.domain false) (Rows.backPrevSpec.post enc Tryz.prog Tryz.f9 false true false false) := by
  refine returnsInHanded_of_change (C := Tryz.checked) own started (by kernel_rfl) Tryz.func9
    (ChangeSpec.witness6 (enc := enc) (C := Tryz.checked) false ⟨#[], #[.slice none 0 0, .int .i64 0], []⟩ 8 (by kernel_rfl) (by kernel_rfl) (by kernel_rfl) (by kernel_rfl)) ?_
  intro W base args ds gs before hval0 hW hcnd _
  have hval : ∀ (j : Nat) t v, Tryz.f9.params[j]? = some t → args[j]? = some v → Value.okWide Tryz.prog W .any base t v := hval0
  have hW' := hW
  obtain ⟨p, q, hA0, hV, rfl, hfz, hnd⟩ := hW
  have hA : DataW.TrodAll enc Tryz.prog W 0 (fun _ => true) true Tryz.f9.params.toList args.toList ds p := hA0
  rw [Tryz.params9] at hA hval
  obtain ⟨v0, vs0, d0, ds0, p0, q0, hargs, rfl, rfl, h0, r0⟩ := trodAll_cons hA
  obtain ⟨v1, vs1, d1, ds1, p1, q1, rfl, rfl, rfl, h1, r1⟩ := trodAll_cons r0
  obtain ⟨rfl, rfl, rfl⟩ := trodAll_nil r1
  obtain rfl : args = #[v0, v1] := by cases args; simp_all
  obtain ⟨rfl, rfl⟩ := trodVars_none hV
  obtain ⟨A0, n0, c0, f0, C0, w0⟩ := arg_ints Tryz.underlying22 Tryz.underlying21 (by kernel_rfl) (hval 0 22 v0 rfl rfl) h0
  obtain rfl := C0.eq
  obtain ⟨a1, rfl, rfl, rfl, w1⟩ := open_int Tryz.underlying3 (hval 1 3 v1 rfl rfl) h1
  refine (walk_BackPrev W A0 n0 c0 f0 C0.rd C0.le C0.max w0 a1 w1).mono fun e W' ⟨he, hb⟩ => ?_
  subst he
  exact ⟨_, rfl, law_post hW' rfl rfl rfl rfl laidOut (by kernel_rfl) rfl Tryz.underlying4 hb⟩

theorem over : Rows.backPrevRow.holds Tryz.pinned (OpenSpec.ofChange Rows.backPrevSpec) :=
  OpenClaim.holds_of_wide 9 Tryz.f9 rfl rfl rfl rfl rfl rfl rfl ⟨rfl, rfl, rfl, rfl, rfl⟩ rfl rfl rfl rfl rfl (by kernel_rfl) Tryz.func9 (by kernel_rfl)
    (of_decide_eq_true (by kernel_rfl)) (by unfold Func.isWrapper; first | (rw [if_pos (by decide +kernel)]; kernel_rfl) | (rw [if_neg (by decide +kernel)]; exact ⟨rfl, rfl⟩))
    (fun os started H enc _ => lifted os started H enc)

theorem proved : Rows.BackPrevSaid := over
#print axioms proved
end Go.Proofs.YtggapcfjcdafpaaGreat.backPrev
