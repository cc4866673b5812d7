/- 'typebar/typebarlaw11.BackFloors' returns true for every input, and each argument reads behind the call as it read before. No condition. -/
import Derived.Test.YtggapcfjcdafpaaGreatGb33
namespace Go.Proofs.YtggapcfjcdafpaaGreat
open Go.RowKit
set_option linter.unusedVariables false
set_option linter.unusedSimpArgs false

/-- What Is tells is what the rules tell. -/
def isZ (K : SG.Kinds) (l : List Int) (a : Int) : Bool := (floorI K l a : Int) == a
theorem isZ_out {K : SG.Kinds} {l : List Int} {a : Int} (h : a < 0 ∨ (l.length : Int) < a) : isZ K l a = false := by
  unfold isZ
  have := floorI_le K l a
  simp only [beq_eq_false_iff_ne, ne_eq]
  omega
theorem isZ_in {K : SG.Kinds} {l : List Int} {a : Nat} (h : a ≤ l.length) : isZ K l a = isP K l a := by
  unfold isZ
  rw [floorI_at h]
  have q := floorP_is K l a
  cases e : isP K l a with
  | true =>
    have := q.2 (.inr e)
    simp [this]
  | false =>
    have : ¬ floorP K l a = a := fun h' => by
      rcases q.1 h' with h1 | h1
      · subst h1; rw [isP_zero] at e; cases e
      · rw [e] at h1; cases h1
    simp only [beq_eq_false_iff_ne, ne_eq]
    omega
set_option maxHeartbeats 4000000 in
theorem ris_far {W : World} {A : Option Addr} {c : Nat} {T : List RW.Row} {A2 : Option Addr} {l : List Int} (c2 : Nat) (a : Int) (h : a < 0 ∨ (l.length : Int) < a) :
    Calls Tryz.prog 31 #[.slice A T.length c, .slice A2 l.length c2, .int .i64 a] W fun e w' => e = .returned (.bool (isZ (KT T) l a)) ∧ ∃ m, w' = W.drewN m := by
  rw [isZ_out h]
  by_cases h0 : a < 0
  · have d0 : decide (a < 0) = true := by simpa using h0
    clear h h0
    go_enter Tryz.func31, Tryz.ntmps31
    go_wp2
    go_ret
    exact ⟨rfl, 0, rfl⟩
  · have d0 : decide (a < 0) = false := by simpa using h0
    have d1 : decide ((l.length : Int) < a) = true := by simp; omega
    clear h h0
    go_enter Tryz.func31, Tryz.ntmps31
    go_wp2
    go_ret
    exact ⟨rfl, 0, rfl⟩
theorem ris_all {W : World} {A : Option Addr} {c : Nat} {T : List RW.Row} {A2 : Option Addr} {l : List Int} (c2 : Nat) (h : RT W A c T A2 l) (hc2 : l.length ≤ c2) (a : Int) :
    Calls Tryz.prog 31 #[.slice A T.length c, .slice A2 l.length c2, .int .i64 a] W fun e w' => e = .returned (.bool (isZ (KT T) l a)) ∧ ∃ m, w' = W.drewN m := by
  by_cases ha : a < 0 ∨ (l.length : Int) < a
  · exact ris_far c2 a ha
  · obtain ⟨n, rfl⟩ : ∃ n : Nat, a = n := ⟨a.toNat, by omega⟩
    rw [isZ_in (by omega)]
    exact ris_any c2 h hc2 n (by omega)
set_option maxHeartbeats 8000000 in
set_option maxRecDepth 100000 in
theorem walk_BackFloors (w : World) (A0 : Option Addr) (n0 c0 : Nat) (f0 : Nat → Int) (hA : Rd w A0 n0 (fun j => .int .i32 (f0 j))) (hle : n0 ≤ c0) (hmax : c0 ≤ maxLen) (hp : ∀ j, j < n0 → (Lit.int .i32 (f0 j)).wf = true) (a1 : Int) (w1 : (Lit.int .i64 a1).wf = true) :
    Calls Tryz.prog 8 #[.slice A0 n0 c0, .int .i64 a1] w (Yes w) := by
  obtain ⟨T, hG, hT, C0⟩ := rows_li w
  obtain ⟨l, hll, hL0, hSc⟩ := came_text hA hp 150
  have hlc : l.length ≤ c0 := by omega
  have hl2 : l.length ≤ 150 := by omega
  have HG := Lib.hid hG
  have C0 := Lib.hid C0
  have HK := Lib.hid (show (KT T).tidy by rw [← hT]; exact rows_tidy)
  have AW := Lib.hid (fun X => awake11_yes X)
  have HL := Lib.hid (And.intro hL0 hSc)
  have CF := fews_any A0 n0 c0 150 w hle (by unfold maxLen at hmax; omega) (by omega)
  rw [← hll] at CF
  have CF := Lib.hid CF
  have hw1 := wf_i64 w1
  clear hG hA hp hT hL0 hSc hll hle hmax w1
  go_enter Tryz.func8, Tryz.ntmps8
  go_wp2_with fail
  refine CF.out.mono ?_
  rintro e w0 ⟨rfl, rfl⟩
  clear CF
  go_wp2_with fail
  refine C0.out.mono ?_
  rintro e w1 ⟨A, c, rfl, hL, hc, hm, hb1⟩
  have C1 := Lib.hid (build_tabs A c T w1 (hL.mono fun _ _ => trivial) hc HG.out)
  have L1 := Lib.hid (And.intro (hL.mono (S' := fun _ => True) fun _ _ => trivial) hb1)
  clear C0 hL hb1
  go_wp2_with fail
  refine C1.out.mono ?_
  rintro e w2 ⟨tp, rfl, hU, hb⟩
  have hT : T.length ≤ 100000 := by have := HG.out.len; omega
  have B0 := Lib.hid (show LB w T tp A c A0 c0 l w2 by
    have h := HL.out.1.later (L1.out.2.trans (hb.mono L1.out.2.size))
    exact ⟨⟨hU, HK.out, h, HL.out.2, hlc, by omega⟩, ⟨L1.out.1.later hb, hc, hT, h, HL.out.2, by omega⟩, L1.out.2.trans (hb.mono L1.out.2.size)⟩)
  clear hU hb C1 L1 HL HG hT
  have F1 := Lib.hid (fun Z (hZ : LB w T tp A c A0 c0 l Z) => pfloor_any hZ.tt a1)
  have F2 := Lib.hid (fun Z (hZ : LB w T tp A c A0 c0 l Z) => rfloor_any c0 hZ.rt hlc a1 hw1.1 hw1.2)
  have F3 := Lib.hid (fun Z (hZ : LB w T tp A c A0 c0 l Z) => pceil_any hZ.tt a1 hw1.2)
  have F4 := Lib.hid (fun Z (hZ : LB w T tp A c A0 c0 l Z) => rceil_any c0 hZ.rt hlc a1 hw1.1 hw1.2)
  have F5 := Lib.hid (fun Z (hZ : LB w T tp A c A0 c0 l Z) => pis_any hZ.tt a1)
  have F6 := Lib.hid (fun Z (hZ : LB w T tp A c A0 c0 l Z) => ris_all c0 hZ.rt hlc a1)
  obtain ⟨V, hV⟩ : ∃ V, floorI (KT T) l a1 = V := ⟨_, rfl⟩
  obtain ⟨U, hU⟩ : ∃ V, SG.nextP (KT T) l a1.toNat = V := ⟨_, rfl⟩
  obtain ⟨q, hq⟩ : ∃ q, isZ (KT T) l a1 = q := ⟨_, rfl⟩
  have hq2 : ((floorI (KT T) l a1 : Int) == a1) = q := hq
  simp only [hq2, hq] at F5 F6
  simp only [hV] at F1 F2
  simp only [hU] at F3 F4
  have e1 : ((V : Int) == (V : Int)) = true := by simp
  have e2 : ((U : Int) == (U : Int)) = true := by simp
  have e3 : (q == q) = true := by simp
  clear hV hU hq hq2 HK hw1
  go_wp2_with fail
  refine (F1.out _ B0.out).mono ?_
  rintro e v1 ⟨rfl, hb⟩
  have B1 := Lib.hid (B0.out.later hb)
  clear B0 hb
  go_wp2_with fail
  refine (F2.out _ B1.out).mono ?_
  rintro e v2 ⟨rfl, m1, rfl⟩
  have B2 := Lib.hid (B1.out.drewN m1)
  try rw [World.drewN_drewN] at B2
  clear B1
  go_wp2_with fail
  refine (F3.out _ B2.out).mono ?_
  rintro e v3 ⟨rfl, hb⟩
  have B3 := Lib.hid (B2.out.later hb)
  clear B2 hb
  go_wp2_with fail
  refine (F4.out _ B3.out).mono ?_
  rintro e v4 ⟨rfl, m3, rfl⟩
  have B4 := Lib.hid (B3.out.drewN m3)
  try rw [World.drewN_drewN] at B4
  clear B3
  go_wp2_with fail
  refine (F5.out _ B4.out).mono ?_
  rintro e v5 ⟨rfl, hb⟩
  have B5 := Lib.hid (B4.out.later hb)
  clear B4 hb
  go_wp2_with fail
  refine (F6.out _ B5.out).mono ?_
  rintro e v6 ⟨rfl, m5, rfl⟩
  have B6 := Lib.hid (B5.out.drewN m5)
  try rw [World.drewN_drewN] at B6
  clear B5
  go_wp2_with fail
  refine (AW.out _).mono ?_
  rintro e w9 ⟨rfl, hb⟩
  have U9 := Lib.hid (bStepS B6.out.be hb)
  clear hb B6
  go_wp2
  go_ret
  exact ⟨rfl, U9.out⟩
end Go.Proofs.YtggapcfjcdafpaaGreat

namespace Go.Proofs.YtggapcfjcdafpaaGreat.backFloors
open Go.ChangeShapes Go.WideShapes Go.ChangeAt Go.RowKit Go.WideMaps Go.WideElems
open Go.ChangeMaps (open_string)

theorem own : ownKnob Tryz.prog.godebug = none := by kernel_rfl
theorem laidOut : laidOutB Tryz.prog = true := by kernel_rfl

set_option linter.unusedVariables false in
set_option maxRecDepth 100000 in
theorem lifted (os : Os) (started : os.Started) (H : Type) (enc : TypeId × Value → H) :
    ReturnsInHanded {} Tryz.checked os 8 .any (Rows.backFloorsSpec.pre6 enc Tryz.prog Tryz.f8 Rows.backFloorsRow.domain false) (Rows.backFloorsSpec.post enc Tryz.prog Tryz.f8 false true false false) := by
  refine returnsInHanded_of_change (C := Tryz.checked) own started (by kernel_rfl) Tryz.func8
    (ChangeSpec.witness6 (enc := enc) (C := Tryz.checked) false ⟨#[], #[.slice none 0 0, .int .i64 0], []⟩ 8 (by kernel_rfl) (by kernel_rfl) (by kernel_rfl) (by kernel_rfl)) ?_
  intro W base args ds gs before hval0 hW hcnd _
  have hval : ∀ (j : Nat) t v, Tryz.f8.params[j]? = some t → args[j]? = some v → Value.okWide Tryz.prog W .any base t v := hval0
  have hW' := hW
  obtain ⟨p, q, hA0, hV, rfl, hfz, hnd⟩ := hW
  have hA : DataW.TrodAll enc Tryz.prog W 0 (fun _ => true) true Tryz.f8.params.toList args.toList ds p := hA0
  rw [Tryz.params8] at hA hval
  obtain ⟨v0, vs0, d0, ds0, p0, q0, hargs, rfl, rfl, h0, r0⟩ := trodAll_cons hA
  obtain ⟨v1, vs1, d1, ds1, p1, q1, rfl, rfl, rfl, h1, r1⟩ := trodAll_cons r0
  obtain ⟨rfl, rfl, rfl⟩ := trodAll_nil r1
  obtain rfl : args = #[v0, v1] := by cases args; simp_all
  obtain ⟨rfl, rfl⟩ := trodVars_none hV
  obtain ⟨A0, n0, c0, f0, C0, w0⟩ := arg_ints Tryz.underlying22 Tryz.underlying21 (by kernel_rfl) (hval 0 22 v0 rfl rfl) h0
  obtain rfl := C0.eq
  obtain ⟨a1, rfl, rfl, rfl, w1⟩ := open_int Tryz.underlying3 (hval 1 3 v1 rfl rfl) h1
  refine (walk_BackFloors W A0 n0 c0 f0 C0.rd C0.le C0.max w0 a1 w1).mono fun e W' ⟨he, hb⟩ => ?_
  subst he
  exact ⟨_, rfl, law_post hW' rfl rfl rfl rfl laidOut (by kernel_rfl) rfl Tryz.underlying4 hb⟩

theorem over : Rows.backFloorsRow.holds Tryz.pinned (OpenSpec.ofChange Rows.backFloorsSpec) :=
  OpenClaim.holds_of_wide 8 Tryz.f8 rfl rfl rfl rfl rfl rfl rfl ⟨rfl, rfl, rfl, rfl, rfl⟩ rfl rfl rfl rfl rfl (by kernel_rfl) Tryz.func8 (by kernel_rfl)
    (of_decide_eq_true (by kernel_rfl)) (by unfold Func.isWrapper; first | (rw [if_pos (by decide +kernel)]; kernel_rfl) | (rw [if_neg (by decide +kernel)]; exact ⟨rfl, rfl⟩))
    (fun os started H enc _ => lifted os started H enc)

theorem proved : Rows.BackFloorsSaid := over
#print axioms proved
end Go.Proofs.YtggapcfjcdafpaaGreat.backFloors
