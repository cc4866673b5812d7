/- 'typebar/typebarlaw10.SegNext' returns true for every input, and each argument reads behind the call as it read before. No condition. -/
import Derived.Test.YtggapcfjcdafpaaGreatGb31
import Derived.Test.YtggapcfjcdafpaaGreatGb33
namespace Go.Proofs.YtggapcfjcdafpaaGreat
open Go.RowKit
set_option linter.unusedVariables false
set_option linter.unusedSimpArgs false

/-- What Next tells of any number. -/
def nextX (K : SG.Kinds) (l : List Int) (a : Int) : Nat := if a < 0 ∨ (l.length : Int) ≤ a then l.length else a.toNat + SG.nextP K (l.drop a.toNat) 1
set_option maxHeartbeats 8000000 in
set_option maxRecDepth 100000 in
theorem walk_SegNext (w : World) (A0 : Option Addr) (n0 c0 : Nat) (f0 : Nat → Int) (hA : Rd w A0 n0 (fun j => .int .i32 (f0 j))) (hle : n0 ≤ c0) (hmax : c0 ≤ maxLen) (hp : ∀ j, j < n0 → (Lit.int .i32 (f0 j)).wf = true) (a1 : Int) (w1 : (Lit.int .i64 a1).wf = true) :
    Calls Tryz.prog 6 #[.slice A0 n0 c0, .int .i64 a1] w (Yes w) := by
  obtain ⟨T, hG, hT, C0⟩ := rows_li w
  obtain ⟨l, hll, hL0, hSc⟩ := came_text hA hp 200
  have hlc : l.length ≤ c0 := by omega
  have hl2 : l.length ≤ 200 := by omega
  have HG := Lib.hid hG
  have C0 := Lib.hid C0
  have HK := Lib.hid (show (KT T).tidy by rw [← hT]; exact rows_tidy)
  have AW := Lib.hid (fun X => awake10_yes X)
  have HL := Lib.hid (And.intro hL0 hSc)
  have CF := fews_any A0 n0 c0 200 w hle (by unfold maxLen at hmax; omega) (by omega)
  rw [← hll] at CF
  have CF := Lib.hid CF
  have hw := wf_i64 w1
  have hcm : c0 ≤ 9223372036854775807 := by unfold maxLen at hmax; omega
  clear hG hA hp hT hL0 hSc hll hle hmax w1
  go_enter Tryz.func6, Tryz.ntmps6
  go_wp2_with fail
  refine CF.out.mono ?_
  rintro e w0 ⟨rfl, rfl⟩
  clear CF
  go_wp2_with fail
  refine C0.out.mono ?_
  rintro e w1 ⟨A, c, rfl, hL, hc, hm, hb1⟩
  have C1 := Lib.hid (build_tabs A c T w1 (hL.mono fun _ _ => trivial) hc HG.out)
  have L1 := Lib.hid (And.intro (hL.mono (S' := fun _ => True) fun _ _ => trivial) hb1)
  clear C0 hL hb1
  go_wp2_with fail
  refine C1.out.mono ?_
  rintro e w2 ⟨tp, rfl, hU, hb⟩
  have hT : T.length ≤ 100000 := by have := HG.out.len; omega
  have HR := Lib.hid (RT.mk (L1.out.1.later hb) hc hT (HL.out.1.later (L1.out.2.trans (hb.mono L1.out.2.size))) HL.out.2 (by omega))
  have H2 := Lib.hid (L1.out.2.trans (hb.mono L1.out.2.size))
  have HU := Lib.hid hU
  clear hU hb C1 L1
  by_cases hr : a1 < 0 ∨ (l.length : Int) ≤ a1
  · have CN := Lib.hid (next_out A0 l.length c0 tp a1 w2 hr)
    have d0 : (((l.length : Nat) : Int) == ((l.length : Nat) : Int)) = true := by simp
    go_wp2_with fail
    refine CN.out.mono ?_
    rintro e w3 ⟨rfl, rfl⟩
    clear CN
    by_cases hz : a1 < 0
    · have d1 : decide (a1 < 0) = true := by simpa using hz
      clear hr hz
      go_wp2_with fail
      refine (AW.out _).mono ?_
      rintro e w6 ⟨rfl, hb⟩
      have U6 := Lib.hid (H2.out.trans (hb.mono H2.out.size))
      clear hb H2
      go_wp2
      go_ret
      exact ⟨rfl, U6.out⟩
    · have d1 : decide (a1 < 0) = false := by simpa using hz
      have d2 : decide ((l.length : Int) ≤ a1) = true := by simp; omega
      clear hr hz
      go_wp2_with fail
      refine (AW.out _).mono ?_
      rintro e w6 ⟨rfl, hb⟩
      have U6 := Lib.hid (H2.out.trans (hb.mono H2.out.size))
      clear hb H2
      go_wp2
      go_ret
      exact ⟨rfl, U6.out⟩
  · obtain ⟨a, rfl⟩ : ∃ a : Nat, a1 = a := ⟨a1.toNat, by omega⟩
    have hal : a < l.length := by omega
    have CN := next_in (T := T) (tp := tp) A0 c0 l w2 HU.out HK.out.ok HR.out.txt HR.out.sc hlc (by omega) a hal
    obtain ⟨V, hV⟩ : ∃ V, a + SG.nextP (KT T) (l.drop a) 1 = V := ⟨_, rfl⟩
    rw [hV] at CN
    have CN := Lib.hid CN
    have d1 : decide ((a : Int) < 0) = false := by simp
    have d2 : decide ((l.length : Int) ≤ (a : Int)) = false := by simp; omega
    obtain ⟨q, hq⟩ : ∃ q, SG.begAt (KT T) l a = q := ⟨_, rfl⟩
    have HV := Lib.hid hV
    have HQ := Lib.hid hq
    clear hr hw hq hV
    go_wp2_with fail
    refine CN.out.mono ?_
    rintro e w3 ⟨rfl, hb3⟩
    have HR3 := Lib.hid (HR.out.later hb3)
    have H3 := Lib.hid (H2.out.trans (hb3.mono H2.out.size))
    clear hb3 CN HR H2 HU
    have CB := begins_any c0 HR3.out hlc a hal
    rw [HQ.out] at CB
    have CB := Lib.hid CB
    go_wp2_with fail
    refine CB.out.mono ?_
    rintro e w4 ⟨rfl, m4, rfl⟩
    clear CB
    cases q
    case true =>
      have CX := rnext_any c0 (HR3.out.later (selfDrew w3 m4)) hlc a (by omega)
      rw [show SG.nextP (KT T) l (a + 1) = V by rw [← HV.out, SG.nextP_drop HK.out hal HQ.out]] at CX
      have CX := Lib.hid CX
      have d3 : ((V : Int) == (V : Int)) = true := by simp
      clear HQ HV HK
      go_wp2_with fail
      refine CX.out.mono ?_
      rintro e w5 ⟨rfl, m5, rfl⟩
      clear CX
      go_wp2_with fail
      refine (AW.out _).mono ?_
      rintro e w6 ⟨rfl, hb⟩
      have U6 := Lib.hid ((belDrew H3.out (m4 + m5)).trans (hb.mono (belDrew H3.out (m4 + m5)).size))
      clear hb H3
      go_wp2
      go_ret
      exact ⟨rfl, U6.out⟩
    case false =>
      obtain ⟨b0, o0, rfl, hb0, _, _⟩ := HR3.out.txt.scs (show 0 < l.length by omega)
      have HRD : RT (w3.drewN m4) A c T (some ⟨b0, o0 + a, none⟩) (l.drop a) := by
        have h := HR3.out.later (selfDrew w3 m4)
        exact ⟨h.rows, h.rc, h.rn, li_drop h.txt a, h.sc.drop a, by have := h.ln; rw [List.length_drop]; omega⟩
      have CX := rnext_any (c0 - a) HRD (by rw [List.length_drop]; omega) 0 (by omega)
      obtain ⟨N, hN⟩ : ∃ N, SG.nextP (KT T) (l.drop a) 1 = N := ⟨_, rfl⟩
      rw [show (0 + 1) = 1 from rfl, hN, List.length_drop] at CX
      have hVN : V = a + N := by rw [← HV.out, hN]
      have hNle : N ≤ 200 := by
        have := SG.nextP_le (KT T) (l.drop a) 1
        rw [hN, List.length_drop] at this
        omega
      subst hVN
      have CX := Lib.hid CX
      have d3 : (((a + N : Nat) : Int) == (a : Int) + (N : Int)) = true := by simp
      have g1 : (a : Int) ≤ (l.length : Int) := by omega
      have g2 : (l.length : Int) ≤ (c0 : Int) := by omega
      have g3 : (a : Int) ≤ (c0 : Int) := by omega
      have g4 : a < c0 := by omega
      have g6 : (a : Int) < (c0 : Int) := by omega
      have g7 : (c0 : Int) ≠ (a : Int) := by omega
      have g8 : c0 ≠ a := by omega
      clear HQ HV HK hN HRD
      go_wp2_with fail
      refine CX.out.mono ?_
      rintro e w5 ⟨rfl, m5, rfl⟩
      clear CX
      go_wp2_with fail
      refine (AW.out _).mono ?_
      rintro e w6 ⟨rfl, hb⟩
      have U6 := Lib.hid ((belDrew H3.out (m4 + m5)).trans (hb.mono (belDrew H3.out (m4 + m5)).size))
      clear hb H3
      go_wp2
      go_ret
      exact ⟨rfl, U6.out⟩
end Go.Proofs.YtggapcfjcdafpaaGreat

namespace Go.Proofs.YtggapcfjcdafpaaGreat.segNext
open Go.ChangeShapes Go.WideShapes Go.ChangeAt Go.RowKit Go.WideMaps Go.WideElems
open Go.ChangeMaps (open_string)

theorem own : ownKnob Tryz.prog.godebug = none := by kernel_rfl
theorem laidOut : laidOutB Tryz.prog = true := by kernel_rfl

set_option linter.unusedVariables false in
set_option maxRecDepth 100000 in
theorem lifted (os : Os) (started : os.Started) (H : Type) (enc : TypeId × Value → H) :
    ReturnsInHanded {} Tryz.checked os 6 .any (Rows.segNextSpec.pre6 enc Tryz.prog Tryz.f6 Rows.segNextRow.domain false) (Rows.segNextSpec.post enc Tryz.prog Tryz.f6 false true false false) := by
  refine returnsInHanded_of_change (C := Tryz.checked) own started (by kernel_rfl) Tryz.func6
    (ChangeSpec.witness6 (enc := enc) (C := Tryz.checked) false ⟨#[], #[.slice none 0 0, .int .i64 0], []⟩ 8 (by kernel_rfl) (by kernel_rfl) (by kernel_rfl) (by kernel_rfl)) ?_
  intro W base args ds gs before hval0 hW hcnd _
  have hval : ∀ (j : Nat) t v, Tryz.f6.params[j]? = some t → args[j]? = some v → Value.okWide Tryz.prog W .any base t v := hval0
  have hW' := hW
  obtain ⟨p, q, hA0, hV, rfl, hfz, hnd⟩ := hW
  have hA : DataW.TrodAll enc Tryz.prog W 0 (fun _ => true) true Tryz.f6.params.toList args.toList ds p := hA0
  rw [Tryz.params6] at hA hval
  obtain ⟨v0, vs0, d0, ds0, p0, q0, hargs, rfl, rfl, h0, r0⟩ := trodAll_cons hA
  obtain ⟨v1, vs1, d1, ds1, p1, q1, rfl, rfl, rfl, h1, r1⟩ := trodAll_cons r0
  obtain ⟨rfl, rfl, rfl⟩ := trodAll_nil r1
  obtain rfl : args = #[v0, v1] := by cases args; simp_all
  obtain ⟨rfl, rfl⟩ := trodVars_none hV
  obtain ⟨A0, n0, c0, f0, C0, w0⟩ := arg_ints Tryz.underlying22 Tryz.underlying21 (by kernel_rfl) (hval 0 22 v0 rfl rfl) h0
  obtain rfl := C0.eq
  obtain ⟨a1, rfl, rfl, rfl, w1⟩ := open_int Tryz.underlying3 (hval 1 3 v1 rfl rfl) h1
  refine (walk_SegNext W A0 n0 c0 f0 C0.rd C0.le C0.max w0 a1 w1).mono fun e W' ⟨he, hb⟩ => ?_
  subst he
  exact ⟨_, rfl, law_post hW' rfl rfl rfl rfl laidOut (by kernel_rfl) rfl Tryz.underlying4 hb⟩

theorem over : Rows.segNextRow.holds Tryz.pinned (OpenSpec.ofChange Rows.segNextSpec) :=
  OpenClaim.holds_of_wide 6 Tryz.f6 rfl rfl rfl rfl rfl rfl rfl ⟨rfl, rfl, rfl, rfl, rfl⟩ rfl rfl rfl rfl rfl (by kernel_rfl) Tryz.func6 (by kernel_rfl)
    (of_decide_eq_true (by kernel_rfl)) (by unfold Func.isWrapper; first | (rw [if_pos (by decide +kernel)]; kernel_rfl) | (rw [if_neg (by decide +kernel)]; exact ⟨rfl, rfl⟩))
    (fun os started H enc _ => lifted os started H enc)

theorem proved : Rows.SegNextSaid := over
#print axioms proved
end Go.Proofs.YtggapcfjcdafpaaGreat.segNext
