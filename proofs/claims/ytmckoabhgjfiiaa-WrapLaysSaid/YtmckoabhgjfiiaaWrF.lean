/- wrap: awake; what comes in. -/
import Derived.Test.YtmckoabhgjfiiaaWrE
import Derived.Test.YtmckoabhgjfiiaaArgS
import Derived.IntWalk
namespace Go.Proofs.Ytmckoabhgjfiiaa
open Go.RowKit
set_option linter.unusedVariables false
set_option linter.unusedSimpArgs false

/-- It returns true; what was there is as it was. -/
def YesL (w : World) (e : Ending) (w' : World) : Prop := e = .returned (.bool true) ∧ Below w.heap.size w w'
theorem belowS {A X Y : World} (h : Below A.heap.size A X) (hb : Below X.heap.size X Y) : Below A.heap.size A Y := h.trans (hb.mono h.size)

def exL : List Gl := [⟨⟨#[97]⟩, 1⟩, ⟨⟨#[98]⟩, 2⟩, ⟨⟨#[99]⟩, 2⟩, ⟨⟨#[100]⟩, 1⟩]
theorem exL_thin : Thin exL := by
  intro g hg
  simp [exL] at hg
  rcases hg with rfl | rfl | rfl | rfl <;> simp
theorem exL_place : placeP 4 exL = [⟨0, 0⟩, ⟨0, 1⟩, ⟨1, 0⟩, ⟨1, 2⟩, ⟨1, 3⟩] := by
  rw [placeP, if_neg (by decide)]
  simp [spots, exL, List.range_succ, spAt, stAt, stp, adv, fin]
abbrev pv (s : Sp) : Value := .agg #[.int .i64 s.r, .int .i64 s.c]
theorem eq_spot (a b : Sp) (w : World) : (Op.equalIn 10000 31 (pv a) (pv b)).run Try.prog w = .ok (decide (a = b)) w := by
  rw [show (10000 : Nat) = 9999 + 1 from rfl, run_equalIn_agg w 9999 31 _ _ (by kernel_rfl) (by kernel_rfl)]
  simp only [Program.fieldsOf, Try.underlying31]
  have u3 := Try.underlying3
  have a3 := Try.isAgg3
  have z3 := Try.sizeOf3
  obtain ⟨k, x⟩ := a
  obtain ⟨k', x'⟩ := b
  go_simp
  by_cases h1 : k = k' <;> by_cases h2 : x = x' <;> simp [h1, h2]
theorem eql_spot (a b : Sp) (w : World) : (Go.binOp .eql 31 (pv a) (pv b)).run Try.prog w = .ok (.bool (decide (a = b))) w := by
  rw [run_eql_struct, eq_spot]
  rfl
theorem neq_spot (a b : Sp) (w : World) : (Go.binOp .neq 31 (pv a) (pv b)).run Try.prog w = .ok (.bool (!decide (a = b))) w := by
  rw [run_neq_struct, eq_spot]
  rfl

set_option maxHeartbeats 4000000 in
set_option maxRecDepth 100000 in
theorem awake_yes (w : World) : Calls Try.prog 10 #[] w (YesL w) := by
  have q1 := eql_spot ⟨0, 1⟩ ⟨0, 1⟩
  have q2 := eql_spot ⟨1, 0⟩ ⟨1, 0⟩
  have q3 := eql_spot ⟨1, 3⟩ ⟨1, 3⟩
  simp only [decide_true] at q1 q2 q3
  go_enter Try.func10, Try.ntmps10
  go_wp2_with fail
  refine atCalls (fun X => Below w.heap.size w X ∧ Li 2 encG X (fun _ => True) (some ⟨w.heap.size, 0, none⟩) exL) ⟨(Below.refl _ _).alloc (Nat.le_refl _) _, (Li.new encG_len w _ _ rfl).mono fun _ _ => trivial⟩ ?_
  rintro X ⟨hX, hL⟩
  have C1 := Lib.hid (place_any (some ⟨w.heap.size, 0, none⟩) 4 exL 4 X hL exL_thin (by decide) (by decide) (by decide))
  have HX := Lib.hid hX
  clear hL hX
  refine C1.out.mono ?_
  rintro e w1 ⟨A, n, c, rfl, ho, hb⟩
  rw [exL_place] at ho
  obtain rfl : n = 5 := (own_count encP_len (by decide) ho).symm
  have hc := (LiV.own encP_len (by decide) ho).parts.2.2.2.1
  have hli := Li.own encP_len (by decide) ho
  obtain ⟨x, b, o, hx, rfl, _, _, c0, c1⟩ := hli.spot (j := 1) (by decide)
  obtain ⟨y, b', o', hy, e2, _, _, d0, d1⟩ := hli.spot (j := 2) (by decide)
  obtain ⟨z, b'', o'', hzz, e3, _, _, f0, f1⟩ := hli.spot (j := 4) (by decide)
  simp at hx hy hzz e2 e3
  obtain ⟨rfl, rfl⟩ := e2
  obtain ⟨rfl, rfl⟩ := e3
  subst hx; subst hy; subst hzz
  have HB := Lib.hid (belowS HX.out hb)
  clear ho hli hb C1
  go_wp2_with fail
  go_ret
  exact ⟨rfl, HB.out⟩

/-- Glyphs that came in. -/
structure GlIn (W : World) (A : Option Addr) (c : Nat) (L : List Gl) : Prop where
  li : Li 2 encG W (fun _ => True) A L
  le : L.length ≤ c
  mx : c ≤ maxLen
section
open Go.ChangeShapes Go.WideShapes Go.ChangeAt Go.Deep
variable {H : Type} {enc : TypeId × Value → H} {W : World} {base : Nat} {spare : Nat → Bool} {held : Bool}
theorem reads_str {T : TypeId} {v : Value} (hT : Try.prog.underlying T = some .string) (h : Reads enc Try.prog W base spare held T v) : ∃ x, v = .string x := by
  obtain ⟨fuel, y, hf⟩ := h
  obtain ⟨x, h1, _⟩ := DataW.trod_string hT hf
  simp only [List.cons.injEq, and_true] at h1
  exact ⟨x, h1⟩
theorem arg_glyphs {v : Value} {r : Reach} {b0 : Nat} {d : DataW H} {p : List MemPlace} (hv : Value.okWide Try.prog W r b0 22 v) (h : DataW.Trod enc Try.prog W base spare held 22 v d p) :
    ∃ A L c, v = .slice A (L : List Gl).length c ∧ GlIn W A c L := by
  obtain ⟨A, n, c, V, rfl, h0, h1, h2, hV⟩ := reads_structs Try.underlying22 Try.underlying45 (by kernel_rfl) (by kernel_rfl) (reads_arg Try.underlying22 hv h)
  have key : ∀ i, i < n → ∃ x : Gl, ∃ b o, A = some ⟨b, o, none⟩ ∧ b < W.heap.size ∧ ∀ (j : Nat) (u : Value), (encG x)[j]? = some u → W.cell? ⟨b, o + (i * 2 + j), none⟩ = some u := by
    intro i hi
    have f := hV i hi
    obtain ⟨⟨b, o, e, hb, k0⟩, r0⟩ := f 0 _ rfl
    obtain ⟨⟨_, _, e1, _, k1⟩, r1⟩ := f 1 _ rfl
    rw [e] at e1
    simp only [Option.some.injEq, Addr.mk.injEq, and_true] at e1
    obtain ⟨rfl, rfl⟩ := e1
    obtain ⟨x0, y0⟩ := reads_str Try.underlying9 r0
    obtain ⟨x1, y1, z1⟩ := reads_int Try.underlying3 r1
    rw [y0] at k0
    rw [y1] at k1
    refine ⟨⟨x0, x1⟩, b, o, e, hb, fun j u hu => ?_⟩
    match j, hu with
    | 0, hu => injection hu with hu; subst hu; exact k0
    | 1, hu => injection hu with hu; subst hu; exact k1
    | j + 2, hu => simp [encG] at hu
  haveI : Nonempty Gl := ⟨⟨ByteArray.empty, 0⟩⟩
  let F : Nat → Gl := fun i => Classical.epsilon fun x => ∃ b o, A = some ⟨b, o, none⟩ ∧ b < W.heap.size ∧ ∀ (j : Nat) (u : Value), (encG x)[j]? = some u → W.cell? ⟨b, o + (i * 2 + j), none⟩ = some u
  have hF : ∀ i, i < n → ∃ b o, A = some ⟨b, o, none⟩ ∧ b < W.heap.size ∧ ∀ (j : Nat) (u : Value), (encG (F i))[j]? = some u → W.cell? ⟨b, o + (i * 2 + j), none⟩ = some u := fun i hi => Classical.epsilon_spec (key i hi)
  refine ⟨A, (List.range n).map F, c, by simp, ⟨?_, by simpa using h1, h2⟩⟩
  intro j x hj
  have hjn : j < n := by have := (List.getElem?_eq_some_iff.1 hj).1; simpa using this
  simp [hjn] at hj
  subst hj
  obtain ⟨b, o, e, hb, hc⟩ := hF j hjn
  exact ⟨b, o, e, hb, trivial, hc⟩
end
end Go.Proofs.Ytmckoabhgjfiiaa
