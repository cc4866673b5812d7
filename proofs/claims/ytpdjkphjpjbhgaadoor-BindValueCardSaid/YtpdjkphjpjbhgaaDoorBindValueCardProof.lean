/- 'typebar/typebarlaw23.BindValue' returns true for every input, and each argument reads behind the call as it read before; the table of the controls is as the program's text lays it: the tied card. -/
import Derived.Test.YtpdjkphjpjbhgaaDoorBindX
import Derived.Test.YtpdjkphjpjbhgaaDoorBindP
import Derived.Test.YtpdjkphjpjbhgaaDoorBindQ
import Derived.Test.YtpdjkphjpjbhgaaDoorCards
import Derived.Test.YtpdjkphjpjbhgaaDoorTie
import Derived.SevenTiedAt
import Derived.Stop.Joined
namespace Go.Proofs.YtpdjkphjpjbhgaaDoor.bindValueCard
open Go.ChangeShapes Go.WideShapes Go.ChangeAt Go.RowKit Go.WideMaps Go.WideElems

theorem walk_BindValue (w : World) (hT : TabW w) (A : Option Addr) (N c : Nat) (L : List (Stk × Int)) (hN : L.length = N) (hr : OwnRd w A L) (hNc : N ≤ c) (p : Bool) (k r : Int) (m : Bool) (xc : Int) (hxc : (Lit.int .i64 xc).wf = true) (hs : Wf (p, k, r, m)) :
    Calls Tryd.prog 5 #[.slice A N c, .agg #[.bool p, .int .i64 k, .int .i32 r, .bool m, .int .i64 xc]] w (YesW w) := by
  by_cases h : N ≤ 40
  · exact walk_BindValue_few w hT A N c L hN hr hNc p k r m xc hxc hs h
  · exact walk_BindValue_many w hT A N c L hN hr hNc p k r m xc hxc hs (by omega)

theorem arg_own {H : Type} {enc : TypeId × Value → H} {W : World} {base : Nat} {spare : Nat → Bool} {held : Bool} {r : Reach} {b0 : Nat} {v : Value} {d : DataW H} {p : List MemPlace} (hv : Value.okWide Tryd.prog W r b0 38 v) (h : DataW.Trod enc Tryd.prog W base spare held 38 v d p) :
    ∃ (s : Stk) (c : Int), Wf s ∧ (Lit.int .i64 c).wf = true ∧ v = .agg #[.bool s.1, .int .i64 s.2.1, .int .i32 s.2.2.1, .bool s.2.2.2, .int .i64 c] := by
  obtain ⟨cs, rfl, hs⟩ := okWide_struct Tryd.underlying38 hv
  obtain ⟨fuel, hf⟩ := h
  have hf2 : DataW.trod enc Tryd.prog W base spare held fuel 38 cs.toList = some (d, p) := by simpa [Value.cells] using hf
  have hC : Tryd.prog.cellsOf 38 = 5 := by kernel_rfl
  obtain ⟨s, c, hw, hc, g0, g1, g2, g3, g4⟩ := trod_own hf2
  refine ⟨s, c, hw, hc, ?_⟩
  rw [hC] at hs
  congr 1
  apply Array.ext'
  apply List.ext_getElem?
  intro i
  have hl : cs.toList.length = 5 := by simpa using hs
  match i with
  | 0 => exact g0
  | 1 => exact g1
  | 2 => exact g2
  | 3 => exact g3
  | 4 => exact g4
  | i + 5 => rw [List.getElem?_eq_none (by omega), List.getElem?_eq_none (by simp)]

theorem own : ownKnob Tryd.prog.godebug = none := by kernel_rfl
theorem laidOut : laidOutB Tryd.prog = true := by kernel_rfl

set_option linter.unusedVariables false in
set_option maxRecDepth 100000 in
theorem lifted (os : Os) (started : os.Started) (H : Type) (enc : TypeId × Value → H) :
    ReturnsInHanded {} Tryd.checked os 5 .any (fun w args => (Rows.bindValueSpec.pre enc Tryd.prog Tryd.f5 [] false w args ∧ laidMetH Tryd.prog laidL w) ∧ sizedMet enc Tryd.prog Tryd.f5 (OpenSpec.ofChange Rows.bindValueSpec) false w args)
      (Rows.bindValueSpec.post enc Tryd.prog Tryd.f5 false true false false) := by
  refine returnsInHanded_of_change_and (C := Tryd.checked) (X := fun w _ => laidMetH Tryd.prog laidL w) (fun _ _ _ hh h => h.of_heap hh) own started (by kernel_rfl) Tryd.func5
    (ChangeSpec.witness_shaped (enc := enc) (C := Tryd.checked) (os := os) (X := fun w _ => laidMetH Tryd.prog laidL w) false (World.doorLaid Tryd.prog 14 os) #[.slice none 0 0, .agg #[.bool false, .int .i64 0, .int .i32 0, .bool false, .int .i64 0]] 8 rfl (World.shaped_of_RefB (by kernel_rfl) (by kernel_rfl)) (by kernel_rfl) (by kernel_rfl) (by kernel_rfl) (door_met os _)) ?_
  intro W base args ds gs before hval0 hW _ _ hL _
  have hval : ∀ (j : Nat) t v, Tryd.f5.params[j]? = some t → args[j]? = some v → Value.okWide Tryd.prog W .any base t v := hval0
  have hW' := hW
  obtain ⟨p, q, hA0, hV, rfl, hfz, hnd⟩ := hW
  have hA : DataW.TrodAll enc Tryd.prog W 0 (fun _ => true) true Tryd.f5.params.toList args.toList ds p := hA0
  rw [Tryd.params5] at hA hval
  obtain ⟨v0, vs0, d0, ds0, p0, q0, hargs, rfl, rfl, h0, r0⟩ := trodAll_cons hA
  obtain ⟨v1, vs1, d1, ds1, p1, q1, rfl, rfl, rfl, h1, r1⟩ := trodAll_cons r0
  obtain ⟨rfl, rfl, rfl⟩ := trodAll_nil r1
  obtain rfl : args = #[v0, v1] := by cases args; simp_all
  obtain ⟨rfl, rfl⟩ := trodVars_none hV
  obtain ⟨A, n, c, L, rfl, hLn, hrd, hnc⟩ := arg_owns (hval 0 30 v0 rfl rfl) h0
  obtain ⟨⟨p, k, r, m⟩, xc, hws, hxc, rfl⟩ := arg_own (hval 1 38 v1 rfl rfl) h1
  have hTab : TabW W := fun i hi => of_laid hL i hi
  refine (walk_BindValue W hTab A n c L hLn hrd hnc p k r m xc hxc hws).mono fun e W' ⟨he, hb⟩ => ?_
  subst he
  exact ⟨_, rfl, law_post hW' rfl rfl rfl rfl laidOut (by kernel_rfl) rfl Tryd.underlying4 hb⟩

theorem over : Rows.bindValueRow.holds Tryd.pinned (OpenSpec.ofChange Rows.bindValueSpec) :=
  OpenClaim.holds_of_wide 5 Tryd.f5 rfl rfl rfl rfl rfl rfl rfl ⟨rfl, rfl, rfl, rfl, rfl⟩ rfl rfl rfl rfl rfl (by kernel_rfl) Tryd.func5 (by kernel_rfl)
    (of_decide_eq_true (by kernel_rfl)) (by unfold Func.isWrapper; first | (rw [if_pos (by decide +kernel)]; kernel_rfl) | (rw [if_neg (by decide +kernel)]; exact ⟨rfl, rfl⟩))
    (fun os started H enc _ => lifted os started H enc)

theorem proved : Rows.BindValueCardSaid :=
  Claim7.holds_tied_plain_at .later [] [.data] true (true, "16cbc2dfc2d3d1f5ed8d21b59e8141c117fe8c056bb552338706c5312c6e365d") true
    over (fun _ h => by cases h) (by kernel_rfl) (fun _ h => by cases h) bindValue_row_tie rfl ⟨rfl, rfl⟩ (by kernel_rfl) rfl
    (fun f fn hf hfn => by
      obtain rfl : f = 5 := Option.some.inj ((show Tryd.prog.funcNamed "typebar/typebarlaw23.BindValue" = some 5 by kernel_rfl).symm.trans hf) |>.symm
      obtain rfl : fn = Tryd.f5 := (Option.some.inj (Tryd.func5.symm.trans hfn)).symm
      exact ⟨by kernel_rfl, fun j t ht => by
        rw [Tryd.params5] at ht
        have h3 : t = 30 ∨ t = 38 := by
          rcases j with _ | _ | j
          · exact .inl (by simpa using ht.symm)
          · exact .inr (by simpa using ht.symm)
          · simp at ht
        rcases h3 with rfl | rfl
        · exact (show Tryd.prog.wantsStandIn 30 = false by kernel_rfl)
        · exact (show Tryd.prog.wantsStandIn 38 = false by kernel_rfl)⟩)
    (by kernel_rfl)
#print axioms proved
end Go.Proofs.YtpdjkphjpjbhgaaDoor.bindValueCard
