/- 'typebar/typebarlaw32.DiffRows' returns true wherever what it reads is of bulk at most 1048576, and each argument reads behind the call as it read before; the table of the powers of ten is as the program's text lays it: the tied card. -/
import Derived.Test.YtednedklkbjihaaDoorAnW
import Derived.Test.YtednedklkbjihaaDoorDeK
import Derived.Test.YtednedklkbjihaaDoorDeL
import Derived.JoinedCond
import Derived.Test.YtednedklkbjihaaDoorCards
import Derived.Test.YtednedklkbjihaaDoorTie
import Derived.SevenTiedAt
import Derived.Stop.Joined
namespace Go.Proofs.YtednedklkbjihaaDoor.diffRowsUptoCard
open Go.ChangeShapes Go.WideShapes Go.ChangeAt Go.RowKit Go.WideMaps Go.WideElems

theorem own : ownKnob Tryd.prog.godebug = none := by kernel_rfl
theorem laidOut : laidOutB Tryd.prog = true := by kernel_rfl

/-- What the witness reads as. -/
abbrev wx (H : Type) : List (DataW H) × List (DataW H) × List MemPlace := ([.lit (.int .i64 0), .lit (.int .i64 0), .nil, .nil, .agg [.lit (.int .i64 0), .lit (.int .i64 0)], .lit (.bool false)], [], [])
abbrev sp : OpenSpec := Rows.OpenSpec.upto Rows.diffRowsSpec
set_option linter.unusedVariables false in
set_option maxRecDepth 100000 in
theorem lifted (os : Go.Os) (started : os.Started) (H : Type) (enc : TypeId × Value → H) (F : Stop.Interp) :
    ReturnsInHanded {} Tryd.checked os 3 .any (fun w args => (sp.pre enc Tryd.prog Tryd.f3 [] false w args ∧ laidMetH Tryd.prog laidL w) ∧ sizedMet enc Tryd.prog Tryd.f3 sp false w args)
      ((sp.at F).post enc Tryd.prog Tryd.f3 false true false false) := by
  refine returnsInHanded_of_calls (C := Tryd.checked) own started (by kernel_rfl) ?_ ?_
  · refine ⟨World.doorLaid Tryd.prog 24 os, fun _ _ => 0, ⟨#[], #[.int .i64 0, .int .i64 0, .slice none 0 0, .slice none 0 0, .agg #[.int .i64 0, .int .i64 0], .bool false], []⟩, rfl, World.shaped_of_RefB (by kernel_rfl) (by kernel_rfl), rfl, (Input.okWide_of_okWideB (by kernel_rfl)).2, ⟨⟨(OpenSpec.pre_some (s := sp) (k := Rows.uptoSmall) rfl [] false _ _).2 ⟨(wx H).1, (wx H).2.1, (wx H).2.2, DataW.Whole_of_whole (x := wx H) (fuel := 8) (by kernel_rfl), rfl, by kernel_rfl⟩, door_met os _⟩, sizedMet_of_sizedB (s := Rows.diffRowsSpec) (fuel := 8) (by kernel_rfl)⟩, ?_⟩
    simp only [Assume.holds]
    exact ⟨by simp, by simp, by simp, by simp, by simp⟩
  intro w tape i _ _ _ hok hpre _
  obtain ⟨_, _, _, fn', hfn', _, _, _, _, hval0⟩ := hok
  have e : fn' = Tryd.f3 := Option.some.inj (hfn'.symm.trans Tryd.func3)
  subst e
  obtain ⟨⟨hp, hx⟩, hz⟩ := hpre
  obtain ⟨ds, gs, before, hw, hc, hkk⟩ := (OpenSpec.pre_some (s := sp) (k := Rows.uptoSmall) rfl [] false _ _).1 hp
  have hW' := DataW.Whole.of_heap (w' := w.forCall tape i) (by rfl) hw
  have hL : laidMetH Tryd.prog laidL (w.forCall tape i) := hx.of_heap (by rfl)
  obtain ⟨W, hWW⟩ : ∃ W, w.forCall tape i = W := ⟨_, rfl⟩
  rw [hWW] at hW' hL hval0 ⊢
  have hb0 : Rows.uptoBulkAll (ds ++ gs) ≤ 1048576 := of_decide_eq_true hkk
  obtain ⟨ib, args, iv⟩ := i
  simp only at hW' hval0 ⊢
  suffices hS : Calls Tryd.prog 3 args W fun e W' => ∃ v, e = .returned v ∧ (sp.at F).post enc Tryd.prog Tryd.f3 false true false false W args v W' from hS.mono fun e W' ⟨v, he, hp⟩ => by
    subst he
    subst hWW
    exact ChangeSpec.post_blind hp
  clear hp hx hz hw hc hkk hWW
  have hval : ∀ (j : Nat) t v, Tryd.f3.params[j]? = some t → args[j]? = some v → Value.okWide Tryd.prog W .any _ t v := hval0
  have hW := hW'
  obtain ⟨p, q, hA0, hV, rfl, hfz, hnd⟩ := hW
  have hA : DataW.TrodAll enc Tryd.prog W 0 (fun _ => true) true Tryd.f3.params.toList args.toList ds p := hA0
  rw [Tryd.params3] at hA hval
  obtain ⟨v0, vs0, d0, ds0, p0, q0, hargs, rfl, rfl, h0, r0⟩ := trodAll_cons hA
  obtain ⟨v1, vs1, d1, ds1, p1, q1, rfl, rfl, rfl, h1, r1⟩ := trodAll_cons r0
  obtain ⟨v2, vs2, d2, ds2, p2, q2, rfl, rfl, rfl, h2, r2⟩ := trodAll_cons r1
  obtain ⟨v3, vs3, d3, ds3, p3, q3, rfl, rfl, rfl, h3, r3⟩ := trodAll_cons r2
  obtain ⟨v4, vs4, d4, ds4, p4, q4, rfl, rfl, rfl, h4, r4⟩ := trodAll_cons r3
  obtain ⟨v5, vs5, d5, ds5, p5, q5, rfl, rfl, rfl, h5, r5⟩ := trodAll_cons r4
  obtain ⟨rfl, rfl, rfl⟩ := trodAll_nil r5
  obtain rfl : args = #[v0, v1, v2, v3, v4, v5] := by cases args; simp_all
  have hb2 : Rows.uptoBulk d2 ≤ 1048576 := Nat.le_trans (bulk_mem (by simp)) hb0
  have hb3 : Rows.uptoBulk d3 ≤ 1048576 := Nat.le_trans (bulk_mem (by simp)) hb0
  obtain ⟨rfl, rfl⟩ := trodVars_none hV
  obtain ⟨A2, n2, c2, D2, rfl, hn2, hc2, hD2⟩ := arg_deedsB hb2 (hval 2 22 v2 rfl rfl) h2
  obtain ⟨A3, n3, c3, D3, rfl, hn3, hc3, hD3⟩ := arg_deedsB hb3 (hval 3 22 v3 rfl rfl) h3
  obtain ⟨x, y, rfl⟩ := arg_spot (hval 4 24 v4 rfl rfl) h4
  obtain ⟨a0, rfl, rfl, rfl, w0⟩ := open_int Tryd.underlying3 (hval 0 3 v0 rfl rfl) h0
  obtain ⟨a1, rfl, rfl, rfl, w1⟩ := open_int Tryd.underlying3 (hval 1 3 v1 rfl rfl) h1
  obtain ⟨kn, rfl, rfl, rfl⟩ := open_bool Tryd.underlying4 (hval 5 4 v5 rfl rfl) h5
  refine (walk_DiffRows W (tab_laid hL) a0 a1 A2 n2 c2 D2 hn2 hc2 (fun i hi => (hD2 i hi).1) (fun i hi => (hD2 i hi).2) A3 n3 c3 D3 hn3 hc3 (fun i hi => (hD3 i hi).1) (fun i hi => (hD3 i hi).2) x y kn).mono fun e W' ⟨he, hb⟩ => ?_
  subst he
  exact ⟨_, rfl, law_post hW' rfl rfl rfl rfl laidOut (by kernel_rfl) rfl Tryd.underlying4 hb⟩

theorem over : Rows.diffRowsUptoRow.holds Tryd.pinned (Rows.OpenSpec.upto Rows.diffRowsSpec) :=
  OpenClaim.holds_of_cond 3 Tryd.f3 rfl rfl rfl rfl rfl rfl rfl ⟨rfl, rfl, rfl, rfl, rfl⟩ rfl rfl rfl rfl rfl (by kernel_rfl) Tryd.func3 (by kernel_rfl)
    (of_decide_eq_true (by kernel_rfl)) (by unfold Func.isWrapper; first | (rw [if_pos (by decide +kernel)]; kernel_rfl) | (rw [if_neg (by decide +kernel)]; exact ⟨rfl, rfl⟩))
    (fun os started H enc _ F => lifted os started H enc F)

theorem proved : Rows.DiffRowsUptoCardSaid :=
  Claim7.holds_tied_plain_at .later [] [.data, .data, .data] true (true, "57ce0c632cb88432b41c2b0e38ca48878ec0f79a677161334344b65bfb72ab44") false
    over (fun _ h => by cases h) (by kernel_rfl) (fun _ h => by cases h) diffRowsUpto_row_tie rfl ⟨rfl, rfl⟩ (by kernel_rfl) rfl
    (fun f fn hf hfn => by
      obtain rfl : f = 3 := Option.some.inj ((show Tryd.prog.funcNamed "typebar/typebarlaw32.DiffRows" = some 3 by kernel_rfl).symm.trans hf) |>.symm
      obtain rfl : fn = Tryd.f3 := (Option.some.inj (Tryd.func3.symm.trans hfn)).symm
      exact ⟨by kernel_rfl, fun j t ht => by
        rw [Tryd.params3] at ht
        have h3 : t = 3 ∨ t = 22 ∨ t = 24 ∨ t = 4 := by
          rcases j with _ | _ | _ | _ | _ | _ | j
          · exact .inl (by simpa using ht.symm)
          · exact .inl (by simpa using ht.symm)
          · exact .inr (.inl (by simpa using ht.symm))
          · exact .inr (.inl (by simpa using ht.symm))
          · exact .inr (.inr (.inl (by simpa using ht.symm)))
          · exact .inr (.inr (.inr (by simpa using ht.symm)))
          · simp at ht
        rcases h3 with rfl | rfl | rfl | rfl
        · exact (show Tryd.prog.wantsStandIn 3 = false by kernel_rfl)
        · exact (show Tryd.prog.wantsStandIn 22 = false by kernel_rfl)
        · exact (show Tryd.prog.wantsStandIn 24 = false by kernel_rfl)
        · exact (show Tryd.prog.wantsStandIn 4 = false by kernel_rfl)⟩)
    (by kernel_rfl)
#print axioms proved
end Go.Proofs.YtednedklkbjihaaDoor.diffRowsUptoCard
