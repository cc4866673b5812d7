/- 'typebar/typebarlaw04.UcdTells' returns true for every input, and each argument reads behind the call as it read before. No condition. -/
import Derived.Test.YtaebnlmlklnbgaaGreatGz01
import Derived.Test.YtaebnlmlklnbgaaGreatGz25
import Derived.Test.YtaebnlmlklnbgaaGreatGz27
namespace Go.Proofs.YtaebnlmlklnbgaaGreat
open Go.ChangeShapes Go.WideShapes Go.ChangeAt Go.RowKit
set_option linter.unusedVariables false
set_option linter.unusedSimpArgs false

theorem wf_i32 {a : Int} (h : (Lit.int .i32 a).wf = true) : -2147483648 ≤ a ∧ a ≤ 2147483647 := by
  simp [Lit.wf, IntKind.min, IntKind.max, IntKind.bits, IntKind.signed] at h; omega
theorem wf_i64 {a : Int} (h : (Lit.int .i64 a).wf = true) : -9223372036854775808 ≤ a ∧ a ≤ 9223372036854775807 := by
  simp [Lit.wf, IntKind.min, IntKind.max, IntKind.bits, IntKind.signed] at h; omega
theorem wf_u8 {a : Int} (h : (Lit.int .u8 a).wf = true) : 0 ≤ a ∧ a ≤ 255 := by
  simp [Lit.wf, IntKind.min, IntKind.max, IntKind.bits, IntKind.signed] at h; omega

/-- What is known of a slice that came in: n places of one cell each. -/
structure Came (W : World) (v : Value) (A : Option Addr) (n c : Nat) (f : Nat → Value) : Prop where
  eq : v = .slice A n c
  rd : Rd W A n f
  le : n ≤ c
  max : c ≤ maxLen
  nil : A = none → n = 0 ∧ c = 0
  plain : ∀ a, A = some a → 0 < n → a.spot = none

theorem arg_ints {H : Type} {enc : TypeId × Value → H} {P : Program} {W : World} {base : Nat} {T E : TypeId} {k : IntKind} {r : Reach} {b0 : Nat} {v : Value} {d : DataW H} {p : List MemPlace} {spare : Nat → Bool} {held : Bool}
    (hT : P.underlying T = some (.slice E)) (hE : P.underlying E = some (.int k)) (hc : P.cellsOf E = 1) (hv : Value.okWide P W r b0 T v) (h : DataW.Trod enc P W base spare held T v d p) :
    ∃ A n c, ∃ f : Nat → Int, Came W v A n c (fun j => .int k (f j)) ∧ ∀ j, j < n → (Lit.int k (f j)).wf = true := by
  obtain ⟨a0, n, c, rfl⟩ := okWide_slice hT hv
  obtain ⟨fuel, hf⟩ := h
  rcases open_ints hT hE hc hf with ⟨hcs, _⟩ | ⟨a, len, cap, zs, hcs, _, hle, hmax, hlen, _, hcell, hwf⟩
  · simp [Value.cells] at hcs
    obtain ⟨rfl, rfl, rfl⟩ := hcs
    exact ⟨none, 0, 0, fun _ => 0, ⟨rfl, Rd.empty _ _ _, Nat.le_refl _, Nat.zero_le _, fun _ => ⟨rfl, rfl⟩, (fun a ha => by cases ha)⟩, fun j hj => absurd hj (by omega)⟩
  · simp [Value.cells] at hcs
    obtain ⟨rfl, rfl, rfl⟩ := hcs
    have hn : n ≤ zs.length := by rw [hlen]; split <;> omega
    refine ⟨some a, n, c, fun j => zs.getD j 0, ⟨rfl, ?_, hle, hmax, (fun e => by cases e), ?_⟩, fun j hj => ?_⟩
    · intro j hj
      obtain ⟨b, off, rfl, hc'⟩ := ints_at hcell (by omega)
      have := hc' j (by omega)
      exact ⟨b, off, rfl, World.block_lt_of_cell? _ _ this, this⟩
    · intro a' ha hp
      injection ha with ha
      subst ha
      obtain ⟨b, off, rfl, _⟩ := ints_at hcell (by omega)
      rfl
    · have hj' : j < zs.length := by omega
      show (Lit.int k (zs.getD j 0)).wf = true
      rw [show zs.getD j 0 = zs[j] by simp [List.getD, List.getElem?_eq_getElem hj']]
      exact hwf _ (List.getElem_mem hj')

end Go.Proofs.YtaebnlmlklnbgaaGreat

namespace Go.Proofs.YtaebnlmlklnbgaaGreat
open Go.RowKit
set_option linter.unusedVariables false
set_option linter.unusedSimpArgs false

set_option maxHeartbeats 8000000 in
set_option maxRecDepth 100000 in
theorem walk_UcdTells (w : World) (A0 : Option Addr) (n0 c0 : Nat) (f0 : Nat → Int) (hA : Rd w A0 n0 (fun j => .int .i32 (f0 j))) (hle : n0 ≤ c0) (hmax : c0 ≤ maxLen) (hp : ∀ j, j < n0 → (Lit.int .i32 (f0 j)).wf = true) :
    Calls Tryz.prog 3 #[.slice A0 n0 c0] w (Yes w) := by
  obtain ⟨T, hG, _, C0⟩ := rows_li w
  have HG := Lib.hid hG
  have C0 := Lib.hid C0
  have AW := Lib.hid (fun X => awake_yes X)
  have HA := Lib.hid hA
  have HP := Lib.hid hp
  unfold maxLen at hmax
  clear hG hA hp
  go_enter Tryz.func3, Tryz.ntmps3
  go_wp2_with fail
  refine C0.out.mono ?_
  rintro e w1 ⟨A, c, rfl, hL, hc, hm, hb1⟩
  have C1 := Lib.hid (build_tabs A c T w1 (hL.mono fun _ _ => trivial) hc HG.out)
  have L1 := Lib.hid (And.intro (hL.mono (S' := fun _ => True) fun _ _ => trivial) hb1)
  clear C0 hL hb1
  go_wp2_with fail
  refine C1.out.mono ?_
  rintro e w2 ⟨tp, rfl, hU, hb⟩
  have U2 := Lib.hid (And.intro hU (And.intro (L1.out.1.later hb) (L1.out.2.trans (hb.mono L1.out.2.size))))
  clear hU hb C1 L1
  have hT : T.length ≤ 100000 := by have := HG.out.len; omega
  go_wp2_with fail
  go_loopw [5, 6] (fun i _ wr => ∃ k : Nat, k ≤ n0 ∧ k ≤ 60 ∧ i = .int .i64 k ∧ Hid (Tabs T tp wr ∧ Li 5 RW.encR wr (fun _ => True) A T ∧ Below w.heap.size w wr)) (fun i _ _ => 60 - (intOf i).toNat)
  case atStart => exact ⟨0, by omega, by omega, rfl, U2.out⟩
  case round =>
    obtain ⟨k, hk, hk2, rfl, H⟩ := hrel
    by_cases h1 : k < n0
    · by_cases h2 : k < 60
      · obtain ⟨b0, o0, rfl, hb0, hcell⟩ := HA.out.all (by omega)
        have hcr := (H.out.2.2.cell (p := ⟨b0, o0 + k, none⟩) hb0).trans (hcell k h1)
        obtain ⟨r, hr⟩ : ∃ r, f0 k = r := ⟨_, rfl⟩
        rw [hr] at hcr
        have wr0 := HP.out k h1
        rw [hr] at wr0
        have WR := Lib.hid (wf_i32 wr0)
        clear hcell hr wr0
        have H0 := Lib.hid (And.intro H.out.1 H.out.2.1)
        have U0 := Lib.hid (And.intro (Below.refl wr.heap.size wr) H.out.2.2)
        have K0 := Lib.hid (fun (X : World) (hX : Below wr.heap.size wr X) => tclass (H0.out.1.later hX) r WR.out.1 WR.out.2)
        have Q0 := Lib.hid (fun (X : World) (hX : Below wr.heap.size wr X) => of_any A c T 1 r X (H0.out.2.later hX) hc hT WR.out.1 WR.out.2)
        have K1 := Lib.hid (fun (X : World) (hX : Below wr.heap.size wr X) => tbreak (H0.out.1.later hX) r WR.out.1 WR.out.2)
        have Q1 := Lib.hid (fun (X : World) (hX : Below wr.heap.size wr X) => rbreak_any A c T r X (H0.out.2.later hX) hc hT WR.out.1 WR.out.2)
        have K2 := Lib.hid (fun (X : World) (hX : Below wr.heap.size wr X) => tconj (H0.out.1.later hX) r WR.out.1 WR.out.2)
        have Q2 := Lib.hid (fun (X : World) (hX : Below wr.heap.size wr X) => rconj_any A c T r X (H0.out.2.later hX) hc hT WR.out.1 WR.out.2)
        have K3 := Lib.hid (fun (X : World) (hX : Below wr.heap.size wr X) => tpict (H0.out.1.later hX) r WR.out.1 WR.out.2)
        have Q3 := Lib.hid (fun (X : World) (hX : Below wr.heap.size wr X) => of_any A c T 5 r X (H0.out.2.later hX) hc hT WR.out.1 WR.out.2)
        have K4 := Lib.hid (fun (X : World) (hX : Below wr.heap.size wr X) => twide (H0.out.1.later hX) r WR.out.1 WR.out.2)
        have Q4 := Lib.hid (fun (X : World) (hX : Below wr.heap.size wr X) => of_any A c T 7 r X (H0.out.2.later hX) hc hT WR.out.1 WR.out.2)
        have K5 := Lib.hid (fun (X : World) (hX : Below wr.heap.size wr X) => tletter (H0.out.1.later hX) r WR.out.1 WR.out.2)
        have Q5 := Lib.hid (fun (X : World) (hX : Below wr.heap.size wr X) => of_any A c T 8 r X (H0.out.2.later hX) hc hT WR.out.1 WR.out.2)
        obtain ⟨c1, hc1⟩ : ∃ c1, at0 0 (vget 1 T) r = c1 := ⟨_, rfl⟩
        obtain ⟨c2, hc2⟩ : ∃ c2, breakB (vget 4 T) r = c2 := ⟨_, rfl⟩
        obtain ⟨c3, hc3⟩ : ∃ c3, conjB (vget 6 T) (vget 4 T) r = c3 := ⟨_, rfl⟩
        obtain ⟨c5, hc5⟩ : ∃ c5, at0 0 (vget 5 T) r = c5 := ⟨_, rfl⟩
        obtain ⟨c7, hc7⟩ : ∃ c7, at0 0 (vget 7 T) r = c7 := ⟨_, rfl⟩
        obtain ⟨c8, hc8⟩ : ∃ c8, at0 0 (vget 8 T) r = c8 := ⟨_, rfl⟩
        simp only [hc1] at K0 Q0
        simp only [hc2] at K1 Q1
        simp only [hc3] at K2 Q2
        simp only [hc5] at K3 Q3
        simp only [hc7] at K4 Q4
        simp only [hc8] at K5 Q5
        clear hc1 hc2 hc3 hc5 hc7 hc8
        have C := Lib.hid (K0.out wr U0.out.1)
        go_wp2_with fail
        refine C.out.mono ?_
        rintro e w3 ⟨rfl, hb⟩
        have U3 := Lib.hid (And.intro (U0.out.1.trans (hb.mono U0.out.1.size)) (U0.out.2.trans (hb.mono U0.out.2.size)))
        clear hb C
        have C := Lib.hid (Q0.out w3 U3.out.1)
        go_wp2_with fail
        refine C.out.mono ?_
        rintro e w4 ⟨rfl, rfl⟩
        clear C
        have C := Lib.hid (K1.out w3 U3.out.1)
        go_wp2_with fail
        refine C.out.mono ?_
        rintro e w5 ⟨rfl, hb⟩
        have U5 := Lib.hid (And.intro (U3.out.1.trans (hb.mono U3.out.1.size)) (U3.out.2.trans (hb.mono U3.out.2.size)))
        clear hb C
        have C := Lib.hid (Q1.out w5 U5.out.1)
        go_wp2_with fail
        refine C.out.mono ?_
        rintro e w6 ⟨rfl, rfl⟩
        clear C
        have C := Lib.hid (K2.out w5 U5.out.1)
        go_wp2_with fail
        refine C.out.mono ?_
        rintro e w7 ⟨rfl, hb⟩
        have U7 := Lib.hid (And.intro (U5.out.1.trans (hb.mono U5.out.1.size)) (U5.out.2.trans (hb.mono U5.out.2.size)))
        clear hb C
        have C := Lib.hid (Q2.out w7 U7.out.1)
        go_wp2_with fail
        refine C.out.mono ?_
        rintro e w8 ⟨rfl, rfl⟩
        clear C
        have C := Lib.hid (K3.out w7 U7.out.1)
        go_wp2_with fail
        refine C.out.mono ?_
        rintro e w9 ⟨rfl, hb⟩
        have U9 := Lib.hid (And.intro (U7.out.1.trans (hb.mono U7.out.1.size)) (U7.out.2.trans (hb.mono U7.out.2.size)))
        clear hb C
        have C := Lib.hid (Q3.out w9 U9.out.1)
        go_wp2_with fail
        refine C.out.mono ?_
        rintro e w10 ⟨rfl, rfl⟩
        clear C
        have C := Lib.hid (K4.out w9 U9.out.1)
        go_wp2_with fail
        refine C.out.mono ?_
        rintro e w11 ⟨rfl, hb⟩
        have U11 := Lib.hid (And.intro (U9.out.1.trans (hb.mono U9.out.1.size)) (U9.out.2.trans (hb.mono U9.out.2.size)))
        clear hb C
        have C := Lib.hid (Q4.out w11 U11.out.1)
        go_wp2_with fail
        refine C.out.mono ?_
        rintro e w12 ⟨rfl, rfl⟩
        clear C
        have C := Lib.hid (K5.out w11 U11.out.1)
        go_wp2_with fail
        refine C.out.mono ?_
        rintro e w13 ⟨rfl, hb⟩
        have U13 := Lib.hid (And.intro (U11.out.1.trans (hb.mono U11.out.1.size)) (U11.out.2.trans (hb.mono U11.out.2.size)))
        clear hb C
        have C := Lib.hid (Q5.out w13 U13.out.1)
        go_wp2_with fail
        refine C.out.mono ?_
        rintro e w14 ⟨rfl, rfl⟩
        clear C
        have HN := Lib.hid (show Tabs T tp w13 ∧ Li 5 RW.encR w13 (fun _ => True) A T ∧ Below w.heap.size w w13 from ⟨H0.out.1.later U13.out.1, H0.out.2.later U13.out.1, U13.out.2⟩)
        go_wp2
        go_roundw
        case rel => exact ⟨k + 1, by omega, by omega, by go_num, HN.out⟩
        case measure => simp [intOf]; omega
      · have C9 := Lib.hid (AW.out wr)
        have H9 := Lib.hid H.out.2.2
        clear H AW
        go_wp2_with fail
        refine C9.out.mono ?_
        rintro e w9 ⟨rfl, hb⟩
        have HE := Lib.hid (H9.out.trans (hb.mono H9.out.size))
        clear hb C9 H9
        go_wp2
        go_ret
        exact ⟨rfl, HE.out⟩
    · have C9 := Lib.hid (AW.out wr)
      have H9 := Lib.hid H.out.2.2
      clear H AW
      go_wp2_with fail
      refine C9.out.mono ?_
      rintro e w9 ⟨rfl, hb⟩
      have HE := Lib.hid (H9.out.trans (hb.mono H9.out.size))
      clear hb C9 H9
      go_wp2
      go_ret
      exact ⟨rfl, HE.out⟩
end Go.Proofs.YtaebnlmlklnbgaaGreat

namespace Go.Proofs.YtaebnlmlklnbgaaGreat.ucdTells
open Go.ChangeShapes Go.WideShapes Go.ChangeAt Go.RowKit Go.WideMaps Go.WideElems
open Go.ChangeMaps (open_string)

theorem own : ownKnob Tryz.prog.godebug = none := by kernel_rfl
theorem laidOut : laidOutB Tryz.prog = true := by kernel_rfl

set_option linter.unusedVariables false in
set_option maxRecDepth 100000 in
theorem lifted (os : Os) (started : os.Started) (H : Type) (enc : TypeId × Value → H) :
    ReturnsInHanded {} Tryz.checked os 3 .any (Rows.ucdTellsSpec.pre6 enc Tryz.prog Tryz.f3 Rows.ucdTellsRow.domain false) (Rows.ucdTellsSpec.post enc Tryz.prog Tryz.f3 false true false false) := by
  refine returnsInHanded_of_change (C := Tryz.checked) own started (by kernel_rfl) Tryz.func3
    (ChangeSpec.witness6 (enc := enc) (C := Tryz.checked) false ⟨#[], #[.slice none 0 0], []⟩ 8 (by kernel_rfl) (by kernel_rfl) (by kernel_rfl) (by kernel_rfl)) ?_
  intro W base args ds gs before hval0 hW hcnd _
  have hval : ∀ (j : Nat) t v, Tryz.f3.params[j]? = some t → args[j]? = some v → Value.okWide Tryz.prog W .any base t v := hval0
  have hW' := hW
  obtain ⟨p, q, hA0, hV, rfl, hfz, hnd⟩ := hW
  have hA : DataW.TrodAll enc Tryz.prog W 0 (fun _ => true) true Tryz.f3.params.toList args.toList ds p := hA0
  rw [Tryz.params3] at hA hval
  obtain ⟨v0, vs0, d0, ds0, p0, q0, hargs, rfl, rfl, h0, r0⟩ := trodAll_cons hA
  obtain ⟨rfl, rfl, rfl⟩ := trodAll_nil r0
  obtain rfl : args = #[v0] := by cases args; simp_all
  obtain ⟨rfl, rfl⟩ := trodVars_none hV
  obtain ⟨A0, n0, c0, f0, C0, w0⟩ := arg_ints Tryz.underlying22 Tryz.underlying21 (by kernel_rfl) (hval 0 22 v0 rfl rfl) h0
  obtain rfl := C0.eq
  refine (walk_UcdTells W A0 n0 c0 f0 C0.rd C0.le C0.max w0).mono fun e W' ⟨he, hb⟩ => ?_
  subst he
  exact ⟨_, rfl, law_post hW' rfl rfl rfl rfl laidOut (by kernel_rfl) rfl Tryz.underlying4 hb⟩

theorem over : Rows.ucdTellsRow.holds Tryz.pinned (OpenSpec.ofChange Rows.ucdTellsSpec) :=
  OpenClaim.holds_of_wide 3 Tryz.f3 rfl rfl rfl rfl rfl rfl rfl ⟨rfl, rfl, rfl, rfl, rfl⟩ rfl rfl rfl rfl rfl (by kernel_rfl) Tryz.func3 (by kernel_rfl)
    (of_decide_eq_true (by kernel_rfl)) (by unfold Func.isWrapper; first | (rw [if_pos (by decide +kernel)]; kernel_rfl) | (rw [if_neg (by decide +kernel)]; exact ⟨rfl, rfl⟩))
    (fun os started H enc _ => lifted os started H enc)

theorem proved : Rows.UcdTellsSaid := over
#print axioms proved
end Go.Proofs.YtaebnlmlklnbgaaGreat.ucdTells
