/- macro: expand. -/
import Derived.Test.YtgdfcojgifgjcaaMcY
import Derived.StillTailTactics
namespace Go.Proofs.Ytgdfcojgifgjcaa
open Go.RowKit Go.Maps
set_option linter.unusedVariables false
set_option linter.unusedSimpArgs false
set_option maxRecDepth 100000

def ExPost (W : World) (g bo B : Nat) (mb : Value) (op : List Int) (r : Nat × Nat × List Ky) (e : Ending) (w' : World) : Prop := ∃ q A c hs, e = .returned (.int .i64 r.1) ∧ Xp W g bo B mb op q r.2.1 r.2.2.length r.2.2 A c hs w'
theorem leavesB_nil {P : Program} {fn : Func} {tmps : Array Value} {R : Ending → World → Prop} {w : World} {v : Value} (h : (results fn tmps).run P w = .ok v w) (hR : R (.returned v) w) : LeavesB P fn tmps R [] w := ⟨v, h, hR⟩
theorem leavesB_del {P : Program} {fn : Func} {tmps : Array Value} {R : Ending → World → Prop} {w Y : World} {ts : Array TypeId} {ty : TypeId} {cs : Array Bool} {args : Array Value} {r : Value} {ds : List Deferred} (hr : (Builtin.delete_ ts ty args).run P w = .ok r Y) (h : LeavesB P fn tmps R ds Y) :
    LeavesB P fn tmps R ({ target := .builtin .delete ts ty cs, args := args } :: ds) w := by
  refine ⟨_, _, _, _, r, Y, rfl, ?_, h⟩
  simp [invoke, builtin, hr, Result.andThen]

set_option maxHeartbeats 4000000 in
theorem expand_none {W : World} {g bo B nB : Nat} {mb : Value} {L : List (Int × Sv)} {F : Int → Option (List MSt)} (hB : BookF W mb nB L F) {op : List Int} {q t n : Nat} {ks : List Ky} {A : Option Addr} {c : Nat} {hs : List Kp} {nm : Int} {w : World} (hw : (Lit.int .i32 nm).wf = true)
    (h : Xp W g bo B mb op q t n ks A c hs w) (hF : F nm = none) : Calls Try.prog 25 #[ptr g, .int .i32 nm] w (ExPost W g bo B mb op (5, t, ks)) := by
  have V := Lib.hid h
  have q1 := book_look (hB.later h.below).1 hw
  have hl : lastB L nm = none := by
    cases e : lastB L nm with
    | none => rfl
    | some sv => obtain ⟨M, h1, _⟩ := (hB.2 nm).2 sv e; rw [hF] at h1; cases h1
  rw [hl] at q1
  obtain ⟨y1, k0, k1, k2, k3, j1⟩ := h.cells
  clear h hB
  refine calls_of_wp_B Try.func25 rfl ?_
  simp only [Try.ntmps25, List.size_toArray, List.length_cons, List.length_nil, Nat.reduceAdd, Nat.reduceSub, Array.replicate_succ, Array.replicate_zero, List.push_toArray, List.append_toArray, List.nil_append, List.cons_append]
  go_wp2_with fail
  exact leavesB_nil (by simp [results, Try.results25, go_sem]) ⟨q, A, c, hs, rfl, by have := V.out.kt.1; subst this; exact V.out⟩

set_option maxHeartbeats 4000000 in
theorem expand_open {W : World} {g bo B nB : Nat} {mb : Value} {L : List (Int × Sv)} {F : Int → Option (List MSt)} (hB : BookF W mb nB L F) {op : List Int} {q t n : Nat} {ks : List Ky} {A : Option Addr} {c : Nat} {hs : List Kp} {nm : Int} {w : World} (hw : (Lit.int .i32 nm).wf = true)
    (h : Xp W g bo B mb op q t n ks A c hs w) {M : List MSt} (hF : F nm = some M) (ho : nm ∈ op) : Calls Try.prog 25 #[ptr g, .int .i32 nm] w (ExPost W g bo B mb op (6, t, ks)) := by
  have V := Lib.hid h
  have q1 := book_look (hB.later h.below).1 hw
  obtain ⟨v2, q2⟩ := h.op_.look hw
  rw [decide_eq_true ho] at q2
  have hl : ∃ sv, lastB L nm = some sv := by
    cases e : lastB L nm with
    | none => have := (hB.2 nm).1 e; rw [hF] at this; cases this
    | some sv => exact ⟨sv, rfl⟩
  obtain ⟨sv, hl⟩ := hl
  rw [hl] at q1
  obtain ⟨v1, hv1⟩ : ∃ v1, svV sv = v1 := ⟨_, rfl⟩
  simp only [Option.getD_some, Option.isSome_some, hv1] at q1
  obtain ⟨y1, k0, k1, k2, k3, j1⟩ := h.cells
  clear h hB hl hv1
  refine calls_of_wp_B Try.func25 rfl ?_
  simp only [Try.ntmps25, List.size_toArray, List.length_cons, List.length_nil, Nat.reduceAdd, Nat.reduceSub, Array.replicate_succ, Array.replicate_zero, List.push_toArray, List.append_toArray, List.nil_append, List.cons_append]
  go_wp2_with fail
  exact leavesB_nil (by simp [results, Try.results25, go_sem]) ⟨q, A, c, hs, rfl, by have := V.out.kt.1; subst this; exact V.out⟩
end Go.Proofs.Ytgdfcojgifgjcaa
