/- 'typebar/typebarlaw11.BackLong' returns true for every input, and each argument reads behind the call as it read before. No condition. -/
import Derived.Test.YtggapcfjcdafpaaGreatGb33
namespace Go.Proofs.YtggapcfjcdafpaaGreat
open Go.RowKit
set_option linter.unusedVariables false
set_option linter.unusedSimpArgs false
theorem rune_elt : Elt Tryz.prog 22 21 1 4 := elt_of Tryz.underlying22 (z := .int .i32 0) (by kernel_rfl) rfl (by decide)
def low63 (z : Int) : Nat := (BitVec.ofInt 64 z &&& BitVec.ofInt 64 63).toNat
theorem low63_le (z : Int) : low63 z ≤ 63 := by
  unfold low63
  rw [BitVec.toNat_and]
  exact Nat.le_trans Nat.and_le_right (by decide)
theorem low63_bits (z : Int) : bits .and .i64 z 63 = (low63 z : Int) := by
  have h := low63_le z
  show IntKind.i64.wrap ((BitVec.ofInt 64 z &&& BitVec.ofInt 64 63).toNat : Int) = _
  exact IntWalk.i64_in _ (by unfold low63 at h; omega)
/-- One scalar in memory, two. -/
theorem li_one {X : World} {g : Nat} {x : Int} (h : X.cell? ⟨g, 0, none⟩ = some (.int .i32 x)) : Li 1 encC X (fun _ => True) (some ⟨g, 0, none⟩) [x] := by
  intro j y hj
  match j, hj with
  | 0, hj =>
    injection hj with hj
    subst hj
    refine ⟨g, 0, rfl, World.block_lt_of_cell? X ⟨g, 0, none⟩ h, trivial, fun i u hu => ?_⟩
    match i, hu with
    | 0, hu => injection hu with hu; subst hu; exact h
    | i + 1, hu => simp [encC] at hu
  | j + 1, hj => simp at hj
theorem li_two {X : World} {g : Nat} {x y : Int} (h : X.cell? ⟨g, 0, none⟩ = some (.int .i32 x)) (h' : X.cell? ⟨g, 1, none⟩ = some (.int .i32 y)) : Li 1 encC X (fun _ => True) (some ⟨g, 0, none⟩) [x, y] := by
  intro j z hj
  match j, hj with
  | 0, hj =>
    injection hj with hj
    subst hj
    refine ⟨g, 0, rfl, World.block_lt_of_cell? X ⟨g, 0, none⟩ h, trivial, fun i u hu => ?_⟩
    match i, hu with
    | 0, hu => injection hu with hu; subst hu; exact h
    | i + 1, hu => simp [encC] at hu
  | 1, hj =>
    injection hj with hj
    subst hj
    refine ⟨g, 0, rfl, World.block_lt_of_cell? X ⟨g, 0, none⟩ h, trivial, fun i u hu => ?_⟩
    match i, hu with
    | 0, hu => injection hu with hu; subst hu; exact h'
    | i + 1, hu => simp [encC] at hu
  | j + 2, hj => simp at hj
/-- So many times the unit. -/
def reps (us : List Int) : Nat → List Int
  | 0 => []
  | k + 1 => reps us k ++ us
theorem reps_len (us : List Int) (k : Nat) : (reps us k).length = k * us.length := by
  induction k with
  | zero => simp [reps]
  | succ k ih => rw [reps, List.length_append, ih, Nat.succ_mul]
theorem reps_sc {us : List Int} (h : Sc us) (k : Nat) : Sc (reps us k) := by
  induction k with
  | zero => intro x hx; cases hx
  | succ k ih =>
    intro x hx
    rcases List.mem_append.1 hx with hx | hx
    · exact ih x hx
    · exact h x hx
theorem li_in {X : World} {g : Nat} {us : List Int} {cs : Array Value} {t : TypeId} (hg : g = X.heap.size) (hcs : cs.toList = flatL encC us) : Li 1 encC (X.alloc (.cells cs t)) (fun _ => True) (some ⟨g, 0, none⟩) us := by
  subst hg
  exact li_new1 X us cs t hcs
theorem liAl {X : World} {A : Option Addr} {us : List Int} {o : Obj} (h : Li 1 encC X (fun _ => True) A us) : Li 1 encC (X.alloc o) (fun _ => True) A us := h.later (belAlloc _ _)
theorem belAl {w X : World} {o : Obj} (h : Below w.heap.size w X) : Below w.heap.size w (X.alloc o) := bStepS h (belAlloc _ _)
theorem li_cells {w : World} {S : Nat → Prop} {b o : Nat} {L : List Int} (h : Li 1 encC w S (some ⟨b, o, none⟩) L) (j : Nat) (u : Value) (hj : (flatL encC L)[j]? = some u) : w.cell? ⟨b, o + j, none⟩ = some u := by
  rw [flatC, List.getElem?_map] at hj
  cases e : L[j]? with
  | none => rw [e] at hj; cases hj
  | some x =>
    rw [e] at hj
    injection hj with hj
    obtain ⟨b', o', e', _, _, hc⟩ := h j x e
    injection e' with e'
    injection e' with e1 e2
    subst e1; subst e2
    have := hc 0 _ rfl
    rw [Nat.mul_one, Nat.add_zero] at this
    rw [this, ← hj]
theorem flatC_one {L : List Int} : (flatL encC L).all Value.oneCell' = true := by
  rw [flatC]
  simp [Value.oneCell']
/-- The unit that is chosen, in memory. -/
structure Unit_ (w : World) (s : Value) (us : List Int) (X : World) : Prop where
  at_ : ∃ g, s = .slice (some ⟨g, 0, none⟩) us.length us.length ∧ Li 1 encC X (fun _ => True) (some ⟨g, 0, none⟩) us
  ln : 1 ≤ us.length ∧ us.length ≤ 2
  sc : Sc us
  be : Below w.heap.size w X
set_option maxHeartbeats 8000000 in
set_option maxRecDepth 100000 in
theorem walk_BackLong (a0 : Int) (w0 : (Lit.int .i64 a0).wf = true) (a1 : Int) (w1 : (Lit.int .i64 a1).wf = true) (a2 : Int) (w2 : (Lit.int .i64 a2).wf = true) (w : World) :
    Calls Tryz.prog 11 #[.int .i64 a0, .int .i64 a1, .int .i64 a2] w (Yes w) := by
  have hb := low63_bits a1
  have hN := low63_le a1
  obtain ⟨N, hNe⟩ : ∃ N, low63 a1 = N := ⟨_, rfl⟩
  rw [hNe] at hb hN
  have hw2 := wf_i64 w2
  have t0 := Int.tmod_lt_of_pos a0 (show (0 : Int) < 7 by omega)
  have t1 : -7 < a0.tmod 7 := Int.lt_tmod_of_pos a0 (show (0 : Int) < 7 by omega)
  obtain ⟨kk, hk1, hk2, hk⟩ : ∃ kk : Nat, (a0.tmod 7 + 7) % 7 = (kk : Int) ∧ a0.tmod 7 % 7 = (kk : Int) ∧ (kk = 0 ∨ kk = 1 ∨ kk = 2 ∨ kk = 3 ∨ kk = 4 ∨ kk = 5 ∨ kk = 6) := by
    exact ⟨((a0.tmod 7 + 7) % 7).toNat, by omega, by omega, by omega⟩
  clear hNe w0 w1 w2
  go_enter Tryz.func11, Tryz.ntmps11
  go_upto_region 2 with fail
  go_cut [7] (fun s7 wx => ∃ us, Hid (Unit_ w s7 us wx))
  case first =>
    rcases hk with rfl | rfl | rfl | rfl | rfl | rfl | rfl
    all_goals
      go_wp2_with fail
      go_meet
    · exact ⟨[127462], Lib.hid ⟨⟨_, rfl, by repeat (first | exact li_in (by simp) rfl | refine liAl ?_)⟩, by decide, by intro x hx; simp at hx; omega, by repeat (first | exact Below.refl _ _ | refine belAl ?_)⟩⟩
    · exact ⟨[2325, 2381], Lib.hid ⟨⟨_, rfl, by repeat (first | exact li_in (by simp) rfl | refine liAl ?_)⟩, by decide, by intro x hx; simp at hx; omega, by repeat (first | exact Below.refl _ _ | refine belAl ?_)⟩⟩
    · exact ⟨[128104, 8205], Lib.hid ⟨⟨_, rfl, by repeat (first | exact li_in (by simp) rfl | refine liAl ?_)⟩, by decide, by intro x hx; simp at hx; omega, by repeat (first | exact Below.refl _ _ | refine belAl ?_)⟩⟩
    · exact ⟨[128104, 127995], Lib.hid ⟨⟨_, rfl, by repeat (first | exact li_in (by simp) rfl | refine liAl ?_)⟩, by decide, by intro x hx; simp at hx; omega, by repeat (first | exact Below.refl _ _ | refine belAl ?_)⟩⟩
    · exact ⟨[4352], Lib.hid ⟨⟨_, rfl, by repeat (first | exact li_in (by simp) rfl | refine liAl ?_)⟩, by decide, by intro x hx; simp at hx; omega, by repeat (first | exact Below.refl _ _ | refine belAl ?_)⟩⟩
    · exact ⟨[1536], Lib.hid ⟨⟨_, rfl, by repeat (first | exact li_in (by simp) rfl | refine liAl ?_)⟩, by decide, by intro x hx; simp at hx; omega, by repeat (first | exact Below.refl _ _ | refine belAl ?_)⟩⟩
    · exact ⟨[769], Lib.hid ⟨⟨_, rfl, by repeat (first | exact li_in (by simp) rfl | refine liAl ?_)⟩, by decide, by intro x hx; simp at hx; omega, by repeat (first | exact Below.refl _ _ | refine belAl ?_)⟩⟩
  case rest =>
    obtain ⟨us, HU⟩ := hcut
    obtain ⟨g, rfl, hug⟩ := HU.out.at_
    obtain ⟨m, hm⟩ : ∃ m, us.length = m := ⟨_, rfl⟩
    have hm1 := HU.out.ln
    have hus := Li.sc hug (show 0 < us.length by omega)
    obtain ⟨r, hr⟩ : ∃ r, us.getD 0 0 = r := ⟨_, rfl⟩
    have HG := Lib.hid hug
    have hgw : g < wc.heap.size ∧ wc.cell? ⟨g, 0, none⟩ = some (.int .i32 r) := by
      obtain ⟨b', o', e', h1, _, h2⟩ := hus
      injection e' with e'
      injection e' with e1 e2
      subst e1; subst e2
      rw [hr] at h2
      exact ⟨h1, by simpa using h2⟩
    have HW := Lib.hid hgw
    have HM := Lib.hid hm
    have HR := Lib.hid hr
    rw [hm] at hm1 ⊢
    clear hus hug hgw hm hr t0 t1 hk1 hk2 hk
    obtain ⟨W, hW⟩ : ∃ W : World, W = wc := ⟨_, rfl⟩
    subst hW
    go_upto_region 4 with fail
    refine at_world (fun X => Grows W 21 1 encC (some ⟨W.heap.size, 0, none⟩) 1 1 [97] X) ⟨own_newN W #[.int .i32 97] 21 1 1 rfl (by decide), belAlloc _ _⟩ ?_
    rintro X0 h0
    have H0 := Lib.hid h0
    clear h0
    go_wp2
    go_loopw [8, 9] (fun v i wr => ∃ (k : Nat) (A : Option Addr) (n c : Nat), k ≤ N ∧ i = .int .i64 k ∧ v = .slice A n c ∧ n ≤ 1 + 2 * k ∧ Hid (Grows W 21 1 encC A n c ([97] ++ reps us k) wr)) (fun _ i _ => N - (intOf i).toNat)
    case atStart => exact ⟨0, _, 1, 1, Nat.zero_le _, rfl, rfl, by omega, H0⟩
    case round =>
      obtain ⟨k, A, n, c, hk, rfl, rfl, hn, H⟩ := hrel
      by_cases hlt : k < N
      · have d0 : (k : Int) < (N : Int) := by omega
        have HLU := Lib.hid (HG.out.later H.out.below)
        go_wp2_with (at_builtin; refine wpList_catN rune_elt H.out.own H.out.below.size rfl rfl rfl rfl (ys := flatL encC us) (by rw [flatL_len encC_len, HM.out]) (fun j u hj => by have := li_cells HLU.out j u hj; exact this) (fun u hu => List.all_eq_true.1 flatC_one u hu) (by unfold maxLen; omega) (by omega) ?_; intro A3 c3 w3 hp; have HP := Lib.hid (H.out.pushM (Below.refl _ _) rfl hp); clear hp)
        go_roundw
        case rel => exact ⟨k + 1, A3, n + m, c3, by omega, by go_num, rfl, by omega, Lib.hid (by have h := HP.out; rw [List.append_assoc] at h; exact h)⟩
        case measure => simp [intOf]; omega
      · obtain rfl : k = N := by omega
        have d0 : decide ((k : Int) < (k : Int)) = false := by simp
        have hcr := (H.out.below.cell (p := ⟨g, 0, none⟩) HW.out.1).trans HW.out.2
        have hbz := H.out.below.size
        have hm2 : (0 : Int) < (m : Int) := by omega
        clear hlt
        go_wp2_with (at_builtin; refine wpList_pushM rune_elt H.out.own hbz rfl rfl rfl rfl rfl (by simp) (by simp [Value.oneCell']) (by unfold maxLen; omega) (by omega) ?_; intro A3 c3 w3 hp; have HP := Lib.hid (H.out.pushM (M := [r]) (Below.refl _ _) rfl hp); clear hp)
        obtain ⟨F, hF⟩ : ∃ F, [97] ++ reps us k ++ [r] = F := ⟨_, rfl⟩
        have hp := HP.out
        rw [hF] at hp
        have hFl : F.length = n + 1 := own_count encC_len (by decide) hp.own
        have hfs : Sc F := by
          rw [← hF]
          intro x hx
          rcases List.mem_append.1 hx with hx | hx
          · rcases List.mem_append.1 hx with hx | hx
            · simp at hx; omega
            · exact reps_sc HU.out.sc k x hx
          · simp at hx
            subst hx
            have := HU.out.sc.at (show 0 < us.length by have := HM.out; omega)
            rw [HR.out] at this
            exact this
        have hlv := (LiV.own encC_len (by decide) hp.own).parts
        rw [← hFl] at hlv ⊢
        have HF := Lib.hid (And.intro (hlv.2.1.mono (S' := fun _ => True) fun _ _ => trivial) (And.intro hfs (bStepS HU.out.be hp.below)))
        have hfc := hlv.2.2.2.1
        have hf2 : F.length ≤ 200 := by omega
        clear hF hp hfs hlv HP H H0 hcr hFl HW HR HG HU HM
        obtain ⟨T, hG, hT, C0⟩ := rows_li w3
        have HG := Lib.hid hG
        have C0 := Lib.hid C0
        have HK := Lib.hid (show (KT T).tidy by rw [← hT]; exact rows_tidy)
        have AW := Lib.hid (fun X => awake11_yes X)
        clear hG hT
        go_wp2_with fail
        refine C0.out.mono ?_
        rintro e w4 ⟨A, c, rfl, hL, hc, hm, hb1⟩
        have C1 := Lib.hid (build_tabs A c T w4 (hL.mono fun _ _ => trivial) hc HG.out)
        have L1 := Lib.hid (And.intro (hL.mono (S' := fun _ => True) fun _ _ => trivial) hb1)
        clear C0 hL hb1
        go_wp2_with fail
        refine C1.out.mono ?_
        rintro e w5 ⟨tp, rfl, hU, hb⟩
        have hT : T.length ≤ 100000 := by have := HG.out.len; omega
        have B0 := Lib.hid (show LB w T tp A c A3 c3 F w5 by
          have h := HF.out.1.later (L1.out.2.trans (hb.mono L1.out.2.size))
          exact ⟨⟨hU, HK.out, h, HF.out.2.1, hfc, by omega⟩, ⟨L1.out.1.later hb, hc, hT, h, HF.out.2.1, by omega⟩, bStepS HF.out.2.2 (L1.out.2.trans (hb.mono L1.out.2.size))⟩)
        clear hU hb C1 L1 HG hT
        have F1 := Lib.hid (fun Z (hZ : LB w T tp A c A3 c3 F Z) => pfloor_any hZ.tt a2)
        have F2 := Lib.hid (fun Z (hZ : LB w T tp A c A3 c3 F Z) => rfloor_any c3 hZ.rt hfc a2 hw2.1 hw2.2)
        obtain ⟨V, hV⟩ : ∃ V, floorI (KT T) F a2 = V := ⟨_, rfl⟩
        simp only [hV] at F1 F2
        have e1 : ((V : Int) == (V : Int)) = true := by simp
        clear hV HK HF hw2
        go_wp2_with fail
        refine (F1.out _ B0.out).mono ?_
        rintro e v1 ⟨rfl, hb⟩
        have B1 := Lib.hid (B0.out.later hb)
        clear B0 hb
        go_wp2_with fail
        refine (F2.out _ B1.out).mono ?_
        rintro e v2 ⟨rfl, m1, rfl⟩
        have B2 := Lib.hid (B1.out.drewN m1)
        clear B1
        go_wp2_with fail
        refine (AW.out _).mono ?_
        rintro e w9 ⟨rfl, hb⟩
        have U9 := Lib.hid (bStepS B2.out.be hb)
        clear hb B2
        go_wp2
        go_ret
        exact ⟨rfl, U9.out⟩
end Go.Proofs.YtggapcfjcdafpaaGreat

namespace Go.Proofs.YtggapcfjcdafpaaGreat.backLong
open Go.ChangeShapes Go.WideShapes Go.ChangeAt Go.RowKit Go.WideMaps Go.WideElems
open Go.ChangeMaps (open_string)

theorem own : ownKnob Tryz.prog.godebug = none := by kernel_rfl
theorem laidOut : laidOutB Tryz.prog = true := by kernel_rfl

set_option linter.unusedVariables false in
set_option maxRecDepth 100000 in
theorem lifted (os : Os) (started : os.Started) (H : Type) (enc : TypeId × Value → H) :
    ReturnsInHanded {} Tryz.checked os 11 .any (Rows.backLongSpec.pre6 enc Tryz.prog Tryz.f11 Rows.backLongRow.domain false) (Rows.backLongSpec.post enc Tryz.prog Tryz.f11 false true false false) := by
  refine returnsInHanded_of_change (C := Tryz.checked) own started (by kernel_rfl) Tryz.func11
    (ChangeSpec.witness6 (enc := enc) (C := Tryz.checked) false ⟨#[], #[.int .i64 0, .int .i64 0, .int .i64 0], []⟩ 8 (by kernel_rfl) (by kernel_rfl) (by kernel_rfl) (by kernel_rfl)) ?_
  intro W base args ds gs before hval0 hW hcnd _
  have hval : ∀ (j : Nat) t v, Tryz.f11.params[j]? = some t → args[j]? = some v → Value.okWide Tryz.prog W .any base t v := hval0
  have hW' := hW
  obtain ⟨p, q, hA0, hV, rfl, hfz, hnd⟩ := hW
  have hA : DataW.TrodAll enc Tryz.prog W 0 (fun _ => true) true Tryz.f11.params.toList args.toList ds p := hA0
  rw [Tryz.params11] at hA hval
  obtain ⟨v0, vs0, d0, ds0, p0, q0, hargs, rfl, rfl, h0, r0⟩ := trodAll_cons hA
  obtain ⟨v1, vs1, d1, ds1, p1, q1, rfl, rfl, rfl, h1, r1⟩ := trodAll_cons r0
  obtain ⟨v2, vs2, d2, ds2, p2, q2, rfl, rfl, rfl, h2, r2⟩ := trodAll_cons r1
  obtain ⟨rfl, rfl, rfl⟩ := trodAll_nil r2
  obtain rfl : args = #[v0, v1, v2] := by cases args; simp_all
  obtain ⟨rfl, rfl⟩ := trodVars_none hV
  obtain ⟨a0, rfl, rfl, rfl, w0⟩ := open_int Tryz.underlying3 (hval 0 3 v0 rfl rfl) h0
  obtain ⟨a1, rfl, rfl, rfl, w1⟩ := open_int Tryz.underlying3 (hval 1 3 v1 rfl rfl) h1
  obtain ⟨a2, rfl, rfl, rfl, w2⟩ := open_int Tryz.underlying3 (hval 2 3 v2 rfl rfl) h2
  refine (walk_BackLong a0 w0 a1 w1 a2 w2 W).mono fun e W' ⟨he, hb⟩ => ?_
  subst he
  exact ⟨_, rfl, law_post hW' rfl rfl rfl rfl laidOut (by kernel_rfl) rfl Tryz.underlying4 hb⟩

theorem over : Rows.backLongRow.holds Tryz.pinned (OpenSpec.ofChange Rows.backLongSpec) :=
  OpenClaim.holds_of_wide 11 Tryz.f11 rfl rfl rfl rfl rfl rfl rfl ⟨rfl, rfl, rfl, rfl, rfl⟩ rfl rfl rfl rfl rfl (by kernel_rfl) Tryz.func11 (by kernel_rfl)
    (of_decide_eq_true (by kernel_rfl)) (by unfold Func.isWrapper; first | (rw [if_pos (by decide +kernel)]; kernel_rfl) | (rw [if_neg (by decide +kernel)]; exact ⟨rfl, rfl⟩))
    (fun os started H enc _ => lifted os started H enc)

theorem proved : Rows.BackLongSaid := over
#print axioms proved
end Go.Proofs.YtggapcfjcdafpaaGreat.backLong
