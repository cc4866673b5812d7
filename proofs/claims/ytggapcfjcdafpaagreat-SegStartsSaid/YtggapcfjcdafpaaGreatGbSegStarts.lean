/- 'typebar/typebarlaw10.SegStarts' returns true for every input, and each argument reads behind the call as it read before. No condition. -/
import Derived.Test.YtggapcfjcdafpaaGreatGb01
import Derived.Test.YtggapcfjcdafpaaGreatGb30
namespace Go.Proofs.YtggapcfjcdafpaaGreat
open Go.ChangeShapes Go.WideShapes Go.ChangeAt Go.RowKit
set_option linter.unusedVariables false
set_option linter.unusedSimpArgs false

theorem wf_i32 {a : Int} (h : (Lit.int .i32 a).wf = true) : -2147483648 ≤ a ∧ a ≤ 2147483647 := by
  simp [Lit.wf, IntKind.min, IntKind.max, IntKind.bits, IntKind.signed] at h; omega
theorem wf_i64 {a : Int} (h : (Lit.int .i64 a).wf = true) : -9223372036854775808 ≤ a ∧ a ≤ 9223372036854775807 := by
  simp [Lit.wf, IntKind.min, IntKind.max, IntKind.bits, IntKind.signed] at h; omega
theorem wf_u8 {a : Int} (h : (Lit.int .u8 a).wf = true) : 0 ≤ a ∧ a ≤ 255 := by
  simp [Lit.wf, IntKind.min, IntKind.max, IntKind.bits, IntKind.signed] at h; omega

/-- What is known of a slice that came in: n places of one cell each. -/
structure Came (W : World) (v : Value) (A : Option Addr) (n c : Nat) (f : Nat → Value) : Prop where
  eq : v = .slice A n c
  rd : Rd W A n f
  le : n ≤ c
  max : c ≤ maxLen
  nil : A = none → n = 0 ∧ c = 0
  plain : ∀ a, A = some a → 0 < n → a.spot = none

theorem arg_ints {H : Type} {enc : TypeId × Value → H} {P : Program} {W : World} {base : Nat} {T E : TypeId} {k : IntKind} {r : Reach} {b0 : Nat} {v : Value} {d : DataW H} {p : List MemPlace} {spare : Nat → Bool} {held : Bool}
    (hT : P.underlying T = some (.slice E)) (hE : P.underlying E = some (.int k)) (hc : P.cellsOf E = 1) (hv : Value.okWide P W r b0 T v) (h : DataW.Trod enc P W base spare held T v d p) :
    ∃ A n c, ∃ f : Nat → Int, Came W v A n c (fun j => .int k (f j)) ∧ ∀ j, j < n → (Lit.int k (f j)).wf = true := by
  obtain ⟨a0, n, c, rfl⟩ := okWide_slice hT hv
  obtain ⟨fuel, hf⟩ := h
  rcases open_ints hT hE hc hf with ⟨hcs, _⟩ | ⟨a, len, cap, zs, hcs, _, hle, hmax, hlen, _, hcell, hwf⟩
  · simp [Value.cells] at hcs
    obtain ⟨rfl, rfl, rfl⟩ := hcs
    exact ⟨none, 0, 0, fun _ => 0, ⟨rfl, Rd.empty _ _ _, Nat.le_refl _, Nat.zero_le _, fun _ => ⟨rfl, rfl⟩, (fun a ha => by cases ha)⟩, fun j hj => absurd hj (by omega)⟩
  · simp [Value.cells] at hcs
    obtain ⟨rfl, rfl, rfl⟩ := hcs
    have hn : n ≤ zs.length := by rw [hlen]; split <;> omega
    refine ⟨some a, n, c, fun j => zs.getD j 0, ⟨rfl, ?_, hle, hmax, (fun e => by cases e), ?_⟩, fun j hj => ?_⟩
    · intro j hj
      obtain ⟨b, off, rfl, hc'⟩ := ints_at hcell (by omega)
      have := hc' j (by omega)
      exact ⟨b, off, rfl, World.block_lt_of_cell? _ _ this, this⟩
    · intro a' ha hp
      injection ha with ha
      subst ha
      obtain ⟨b, off, rfl, _⟩ := ints_at hcell (by omega)
      rfl
    · have hj' : j < zs.length := by omega
      show (Lit.int k (zs.getD j 0)).wf = true
      rw [show zs.getD j 0 = zs[j] by simp [List.getD, List.getElem?_eq_getElem hj']]
      exact hwf _ (List.getElem_mem hj')

end Go.Proofs.YtggapcfjcdafpaaGreat

namespace Go.Proofs.YtggapcfjcdafpaaGreat
open Go.RowKit
set_option linter.unusedVariables false
set_option linter.unusedSimpArgs false

/-- The text that comes in, not too much of it. -/
theorem came_text {w : World} {A0 : Option Addr} {n0 : Nat} {f0 : Nat → Int} (hA : Rd w A0 n0 (fun j => .int .i32 (f0 j))) (hp : ∀ j, j < n0 → (Lit.int .i32 (f0 j)).wf = true) (k : Nat) : ∃ l : List Int, l.length = min n0 k ∧ Li 1 encC w (fun _ => True) A0 l ∧ Sc l := by
  refine ⟨(List.range (min n0 k)).map f0, by simp, li_of_rd fun j hj => hA j (by omega), ?_⟩
  intro x hx
  obtain ⟨j, hj, rfl⟩ := List.mem_map.1 hx
  have := List.mem_range.1 hj
  exact wf_i32 (hp j (by omega))
set_option maxHeartbeats 8000000 in
set_option maxRecDepth 100000 in
theorem walk_SegStarts (w : World) (A0 : Option Addr) (n0 c0 : Nat) (f0 : Nat → Int) (hA : Rd w A0 n0 (fun j => .int .i32 (f0 j))) (hle : n0 ≤ c0) (hmax : c0 ≤ maxLen) (hp : ∀ j, j < n0 → (Lit.int .i32 (f0 j)).wf = true) :
    Calls Tryz.prog 3 #[.slice A0 n0 c0] w (Yes w) := by
  obtain ⟨T, hG, hT, C0⟩ := rows_li w
  obtain ⟨l, hll, hL0, hSc⟩ := came_text hA hp 200
  have hlc : l.length ≤ c0 := by omega
  have hl2 : l.length ≤ 200 := by omega
  have HG := Lib.hid hG
  have C0 := Lib.hid C0
  have HK := Lib.hid (show (KT T).ok by rw [← hT]; exact kt_ok given_conj)
  have AW := Lib.hid (fun X => awake10_yes X)
  have HL := Lib.hid (And.intro hL0 hSc)
  have CF := fews_any A0 n0 c0 200 w hle (by unfold maxLen at hmax; omega) (by omega)
  rw [← hll] at CF
  have CF := Lib.hid CF
  clear hG hA hp hT hL0 hSc hll hle hmax
  go_enter Tryz.func3, Tryz.ntmps3
  go_wp2_with fail
  refine CF.out.mono ?_
  rintro e w0 ⟨rfl, rfl⟩
  clear CF
  go_wp2_with fail
  refine C0.out.mono ?_
  rintro e w1 ⟨A, c, rfl, hL, hc, hm, hb1⟩
  have C1 := Lib.hid (build_tabs A c T w1 (hL.mono fun _ _ => trivial) hc HG.out)
  have L1 := Lib.hid (And.intro (hL.mono (S' := fun _ => True) fun _ _ => trivial) hb1)
  clear C0 hL hb1
  go_wp2_with fail
  refine C1.out.mono ?_
  rintro e w2 ⟨tp, rfl, hU, hb⟩
  have U2 := Lib.hid (And.intro hU (And.intro (L1.out.1.later hb) (L1.out.2.trans (hb.mono L1.out.2.size))))
  clear hU hb C1 L1
  have hT : T.length ≤ 100000 := by have := HG.out.len; omega
  obtain ⟨M, hM⟩ : ∃ M, (SG.startsP (KT T) l).map natI = M := ⟨_, rfl⟩
  have HM := Lib.hid hM
  have C2 := Lib.hid (starts_any (T := T) (tp := tp) A0 c0 l w2 U2.out.1 HK.out (HL.out.1.later U2.out.2.2) HL.out.2 hlc (by omega))
  rw [hM] at C2
  clear hM
  go_wp2_with fail
  refine C2.out.mono ?_
  rintro e w3 ⟨A3, n3, c3, rfl, ho, hb⟩
  have hn3 := own_count encI_len1 (by decide) ho
  have hli := (LiV.own encI_len1 (by decide) ho).parts.2.1
  subst hn3
  have U3 := Lib.hid (And.intro (RT.mk (U2.out.2.1.later hb) hc hT (HL.out.1.later (U2.out.2.2.trans (hb.mono U2.out.2.2.size))) HL.out.2 (by omega)) (And.intro (U2.out.2.2.trans (hb.mono U2.out.2.2.size)) hli))
  clear C2 ho hb hli U2
  have C3 := Lib.hid (rstarts_any c0 U3.out.1 hlc)
  rw [HM.out] at C3
  go_wp2_with fail
  refine C3.out.mono ?_
  rintro e w4 ⟨A4, n4, c4, rfl, ho, hb⟩
  have hn4 := own_count encI_len1 (by decide) ho
  have hli := (LiV.own encI_len1 (by decide) ho).parts.2.1
  subst hn4
  have hs : M.length ≤ 100000 := by
    rw [← HM.out, List.length_map]
    have := List.length_filter_le (SG.begAt (KT T) l) (List.range l.length)
    rw [List.length_range] at this
    exact Nat.le_trans this (by omega)
  have C4 := Lib.hid (samei_yes A3 A4 c3 c4 M w4 _ _ hs (U3.out.2.2.later hb) hli)
  have U4 := Lib.hid (U3.out.2.1.trans (hb.mono U3.out.2.1.size))
  clear C3 ho hb hli U3 hs HM
  go_wp2_with fail
  refine C4.out.mono ?_
  rintro e w5 ⟨rfl, hb⟩
  have U5 := Lib.hid (U4.out.trans (hb.mono U4.out.size))
  clear C4 hb U4
  go_wp2_with fail
  refine (AW.out _).mono ?_
  rintro e w6 ⟨rfl, hb⟩
  have U6 := Lib.hid (U5.out.trans (hb.mono U5.out.size))
  clear hb U5
  go_wp2
  go_ret
  exact ⟨rfl, U6.out⟩
end Go.Proofs.YtggapcfjcdafpaaGreat

namespace Go.Proofs.YtggapcfjcdafpaaGreat.segStarts
open Go.ChangeShapes Go.WideShapes Go.ChangeAt Go.RowKit Go.WideMaps Go.WideElems
open Go.ChangeMaps (open_string)

theorem own : ownKnob Tryz.prog.godebug = none := by kernel_rfl
theorem laidOut : laidOutB Tryz.prog = true := by kernel_rfl

set_option linter.unusedVariables false in
set_option maxRecDepth 100000 in
theorem lifted (os : Os) (started : os.Started) (H : Type) (enc : TypeId × Value → H) :
    ReturnsInHanded {} Tryz.checked os 3 .any (Rows.segStartsSpec.pre6 enc Tryz.prog Tryz.f3 Rows.segStartsRow.domain false) (Rows.segStartsSpec.post enc Tryz.prog Tryz.f3 false true false false) := by
  refine returnsInHanded_of_change (C := Tryz.checked) own started (by kernel_rfl) Tryz.func3
    (ChangeSpec.witness6 (enc := enc) (C := Tryz.checked) false ⟨#[], #[.slice none 0 0], []⟩ 8 (by kernel_rfl) (by kernel_rfl) (by kernel_rfl) (by kernel_rfl)) ?_
  intro W base args ds gs before hval0 hW hcnd _
  have hval : ∀ (j : Nat) t v, Tryz.f3.params[j]? = some t → args[j]? = some v → Value.okWide Tryz.prog W .any base t v := hval0
  have hW' := hW
  obtain ⟨p, q, hA0, hV, rfl, hfz, hnd⟩ := hW
  have hA : DataW.TrodAll enc Tryz.prog W 0 (fun _ => true) true Tryz.f3.params.toList args.toList ds p := hA0
  rw [Tryz.params3] at hA hval
  obtain ⟨v0, vs0, d0, ds0, p0, q0, hargs, rfl, rfl, h0, r0⟩ := trodAll_cons hA
  obtain ⟨rfl, rfl, rfl⟩ := trodAll_nil r0
  obtain rfl : args = #[v0] := by cases args; simp_all
  obtain ⟨rfl, rfl⟩ := trodVars_none hV
  obtain ⟨A0, n0, c0, f0, C0, w0⟩ := arg_ints Tryz.underlying22 Tryz.underlying21 (by kernel_rfl) (hval 0 22 v0 rfl rfl) h0
  obtain rfl := C0.eq
  refine (walk_SegStarts W A0 n0 c0 f0 C0.rd C0.le C0.max w0).mono fun e W' ⟨he, hb⟩ => ?_
  subst he
  exact ⟨_, rfl, law_post hW' rfl rfl rfl rfl laidOut (by kernel_rfl) rfl Tryz.underlying4 hb⟩

theorem over : Rows.segStartsRow.holds Tryz.pinned (OpenSpec.ofChange Rows.segStartsSpec) :=
  OpenClaim.holds_of_wide 3 Tryz.f3 rfl rfl rfl rfl rfl rfl rfl ⟨rfl, rfl, rfl, rfl, rfl⟩ rfl rfl rfl rfl rfl (by kernel_rfl) Tryz.func3 (by kernel_rfl)
    (of_decide_eq_true (by kernel_rfl)) (by unfold Func.isWrapper; first | (rw [if_pos (by decide +kernel)]; kernel_rfl) | (rw [if_neg (by decide +kernel)]; exact ⟨rfl, rfl⟩))
    (fun os started H enc _ => lifted os started H enc)

theorem proved : Rows.SegStartsSaid := over
#print axioms proved
end Go.Proofs.YtggapcfjcdafpaaGreat.segStarts
