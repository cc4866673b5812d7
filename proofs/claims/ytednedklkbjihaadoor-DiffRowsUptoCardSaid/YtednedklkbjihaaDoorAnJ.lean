/- ansi: the document's Way, its walk. -/
import Derived.Test.YtednedklkbjihaaDoorAnI
import Derived.Deep.CutRange
namespace Go.Proofs.YtednedklkbjihaaDoor
open Go.RowKit
set_option linter.unusedVariables false
set_option linter.unusedSimpArgs false

/-- What the document's Way reads: from, to. -/
structure Rv (w : World) (a b c d : Int) (X : World) : Prop where
  below : Below w.heap.size w X
  f : Blk X w.heap.size #[.int .i64 a, .int .i64 b]
  t : Blk X (w.heap.size + 1) #[.int .i64 c, .int .i64 d]
theorem Rv.later {w X Y : World} {a b c d : Int} (h : Rv w a b c d X) (hb : Below X.heap.size X Y) : Rv w a b c d Y :=
  ⟨h.below.trans (hb.mono h.below.size), h.f.later hb h.f.1, h.t.later hb h.t.1⟩
theorem rv_start (w : World) (a b c d : Int) : Rv w a b c d ((w.alloc (.cells #[.int .i64 a, .int .i64 b] 24)).alloc (.cells #[.int .i64 c, .int .i64 d] 24)) := by
  refine ⟨belPush (belAlloc _ _) _, (blk_new w _ _).alloc _, ?_⟩
  have := blk_new (w.alloc (.cells #[.int .i64 a, .int .i64 b] 24)) #[.int .i64 c, .int .i64 d] 24
  simpa using this
abbrev GwR (X0 : World) (v : Value) (L : List Ob) (X : World) : Prop := ∃ A n c, v = .slice A n c ∧ n = L.length ∧ Grows X0 49 4 encO A n c L X
theorem gw_push {X0 X Z : World} {A A' : Option Addr} {n c c' : Nat} {L L' : List Ob} {k a : Int} (h : Grows X0 49 4 encO A n c L X) (hn : n = L.length) (hp : Pushed X Z X0.heap.size 49 4 (.slice A n c) (n + 1) (flatL encO L ++ [.int .i64 k, .int .i64 a, .int .i64 0, .string ⟨#[]⟩]) A' c') (hL : L ++ [⟨k, a, 0, ⟨#[]⟩⟩] = L') : GwR X0 (.slice A' (n + 1) c') L' Z := by
  subst hL
  exact ⟨_, _, _, rfl, by rw [List.length_append, hn]; rfl, h.push (x := ⟨k, a, 0, ⟨#[]⟩⟩) (Below.refl _ _) hp⟩
theorem gw_cat {X0 Z : World} {A' : Option Addr} {c' : Nat} {L : List Ob} {n : Nat} (hn : n = L.length) (hp : Pushed X0 Z X0.heap.size 49 4 (.slice none 0 0) (0 + n) ([] ++ flatL encO L) A' c') : Grows X0 49 4 encO A' n c' L Z := by
  have hq := hp.own
  rw [List.nil_append, Nat.zero_add] at hq
  exact ⟨hq, hp.below (Below.refl _ _) (World.ownsRow_nil _ _ _ _) (Nat.le_refl _)⟩
theorem GwR.li {X0 X : World} {A : Option Addr} {n c : Nat} {L : List Ob} (h : Grows X0 49 4 encO A n c L X) : LiV 4 encO X (fun b => X0.heap.size ≤ b) (.slice A n c) L := LiV.own encO_len (by omega) h.own
def oneL (b : Bool) (k n : Int) : List Ob := if b then [⟨k, n, 0, ⟨#[]⟩⟩] else []

theorem rall_at (A : Option Addr) (n c : Nat) (L : List Ob) (X : World) (S : Nat → Prop) (h : LiV 4 encO X S (.slice A n c) L) (hF : ∀ x ∈ L, Fit 0 x) (hl : L.length ≤ 10) : Calls Tryd.prog 20 #[.slice A n c] X fun e w' => e = .returned (.string (allS L)) ∧ Below X.heap.size X w' := by
  obtain ⟨rfl, hli, _⟩ := h.parts
  exact rall_any A c L X (hli.mono fun _ _ => trivial) 0 hF (by omega)
theorem way1_eq (c d : Int) : way1 c d = ((allB (moveL c d)).length : Int) := by
  unfold way1 tryS
  exact if_pos (Or.inl (by omega))
theorem way1L_eq (c d : Int) : way1L c d = moveL c d := by
  unfold way1L tryL
  exact if_pos (Or.inl (by omega))
theorem way2L_eq (a b c d : Int) : way2L a b c d = if (allB (goL a b c d)).length < (allB (moveL c d)).length then goL a b c d else moveL c d := by
  unfold way2L tryL
  rw [way1_eq, way1L_eq]
  by_cases h : (allB (goL a b c d)).length < (allB (moveL c d)).length
  · rw [if_pos h, if_pos (Or.inr (by omega))]
  · rw [if_neg h, if_neg (by omega)]
theorem way2_eq (a b c d : Int) : way2 a b c d = ((allB (way2L a b c d)).length : Int) := by
  rw [way2L_eq]
  unfold way2 tryS
  rw [way1_eq]
  by_cases h : (allB (goL a b c d)).length < (allB (moveL c d)).length
  · rw [if_pos h, if_pos (Or.inr (by omega))]
  · rw [if_neg h, if_neg (by omega)]
theorem way3L_eq (a b c d : Int) : way3L a b c d = if (allB (bkL a b c d)).length < (allB (way2L a b c d)).length then bkL a b c d else way2L a b c d := by
  unfold way3L tryL
  rw [way2_eq]
  by_cases h : (allB (bkL a b c d)).length < (allB (way2L a b c d)).length
  · rw [if_pos h, if_pos (Or.inr (by omega))]
  · rw [if_neg h, if_neg (by omega)]
theorem fit_len {M : List Ob} (hF : ∀ x ∈ M, Fit 0 x) (hl : M.length ≤ 10) : (allB M).length ≤ 1000000 := by
  have := allB_len hF
  have : M.length * (0 + 50) ≤ 10 * 50 := Nat.mul_le_mul_right _ hl
  omega
theorem rv_base {w X0 Y : World} {a b c d : Int} (h : Rv w a b c d X0) : w.heap.size ≤ X0.heap.size := h.below.size

set_option maxRecDepth 100000 in
set_option maxHeartbeats 8000000 in
theorem rway_any (a b c d : Int) (w : World) (a0 : 0 ≤ a) (a1 : a ≤ 100000) (b0 : 0 ≤ b) (b1 : b ≤ 100000) (c0 : 0 ≤ c) (c1 : c ≤ 100000) (d0 : 0 ≤ d) (d1 : d ≤ 100000) :
    Calls Tryd.prog 22 #[.agg #[.int .i64 a, .int .i64 b], .agg #[.int .i64 c, .int .i64 d]] w (TellsL 4 encO (wayL a b c d) w) := by
  have V0 := Lib.hid (rv_start w a b c d)
  have r0 : -1000000 ≤ c - a := by omega
  have r1 : c - a ≤ 1000000 := by omega
  have q0 : -1000000 ≤ d - b := by omega
  have q1 : d - b ≤ 1000000 := by omega
  have HF1 := Lib.hid (byL_fit (c - a) 11 10 r0 r1)
  have HF2 := Lib.hid (byL_fit (d - b) 8 9 q0 q1)
  have HM := Lib.hid (moveL_fit c d c0 c1 d0 d1)
  go_enter Tryd.func22, Tryd.ntmps22
  go_upto_region 2 with fail
  refine at_world (Rv w a b c d) V0.out ?_
  intro X0 hX0
  have V1 := Lib.hid hX0
  have VZ := Lib.hid (show ∀ X, Below X0.heap.size X0 X → Rv w a b c d X from fun X hb => hX0.later hb)
  clear hX0 V0
  obtain ⟨y1, k1, j1⟩ := (show _ from V1.out.t)
  obtain ⟨y2, k2, j2⟩ := (show _ from V1.out.f)
  go_upto_if 13 with fail
  have E1 := Lib.hid (show a < c → byL (c - a) 11 10 = [⟨11, c - a, 0, ⟨#[]⟩⟩] from fun h => if_pos (by omega))
  have E2 := Lib.hid (show c < a → byL (c - a) 11 10 = [⟨10, a - c, 0, ⟨#[]⟩⟩] from fun h => by rw [byL, if_neg (by omega), if_pos (by omega), Int.neg_sub])
  have E3 := Lib.hid (show ¬ a < c → ¬ c < a → byL (c - a) 11 10 = [] from fun h k => by rw [byL, if_neg (by omega), if_neg (by omega)])
  have F1 := Lib.hid (show b < d → byL (d - b) 8 9 = [⟨8, d - b, 0, ⟨#[]⟩⟩] from fun h => if_pos (by omega))
  have F2 := Lib.hid (show d < b → byL (d - b) 8 9 = [⟨9, b - d, 0, ⟨#[]⟩⟩] from fun h => by rw [byL, if_neg (by omega), if_pos (by omega), Int.neg_sub])
  have F3 := Lib.hid (show ¬ b < d → ¬ d < b → byL (d - b) 8 9 = [] from fun h k => by rw [byL, if_neg (by omega), if_neg (by omega)])
  obtain ⟨R, hR⟩ : ∃ R, byL (c - a) 11 10 = R := ⟨_, rfl⟩
  obtain ⟨Q, hQ⟩ : ∃ Q, byL (d - b) 8 9 = Q := ⟨_, rfl⟩
  rw [hR] at E1 E2 E3 HF1
  rw [hQ] at F1 F2 F3 HF2
  have HR := Lib.hid (And.intro hR hQ)
  clear hR hQ
  go_cut [5] (fun s5 wx => GwR X0 s5 (if a < c then R else []) wx)
  case first =>
    by_cases h : a < c
    · have hl := Lib.hid (show [⟨11, c - a, 0, ⟨#[]⟩⟩] = (if a < c then R else []) by rw [if_pos h, E1.out h])
      go_wp2_with (at_builtin; refine wpList_push opR_elt (World.ownsRow_nil _ _ _ _) (Nat.le_refl _) rfl rfl rfl rfl rfl rfl rfl (by unfold maxLen; omega) (by omega) ?_; intro A3 c3 w3 hp; have HP := Lib.hid hp; clear hp)
      go_meet
      exact gw_push (Grows.start X0 _ 4) rfl HP.out hl.out
    · have hl := Lib.hid (show (if a < c then R else []) = [] from if_neg h)
      go_wp2_with fail
      go_meet
      exact ⟨_, _, _, rfl, by rw [hl.out]; rfl, by rw [hl.out]; exact Grows.start X0 _ 4⟩
  case rest =>
    clear k1 j1 y1 k2 j2 y2 V1
    obtain ⟨A1, n1, c1', rfl, hn1, hG1⟩ := hcut
    have V2 := Lib.hid (And.intro hG1 (And.intro hn1 (VZ.out wc hG1.below)))
    have hz1 := hG1.below.size
    have hn1b : n1 ≤ 1 := by have := HF1.out.1; rw [hn1]; split <;> simp <;> omega
    clear hn1 hG1
    obtain ⟨y1, k1, j1⟩ := (show _ from V2.out.2.2.t)
    obtain ⟨y2, k2, j2⟩ := (show _ from V2.out.2.2.f)
    go_upto_if 27 with fail
    go_cut [5] (fun s5 wx => GwR X0 s5 R wx)
    case first =>
      by_cases h : c < a
      · have hl := Lib.hid (show (if a < c then R else []) = ([] : List Ob) from if_neg (by omega))
        have hl2 := Lib.hid (E2.out h)
        have h0 : n1 = 0 := by have := V2.out.2.1; rw [hl.out] at this; exact this
        subst h0
        go_wp2_with (at_builtin; refine wpList_push opR_elt V2.out.1.own hz1 rfl rfl rfl rfl rfl rfl rfl (by unfold maxLen; omega) (by omega) ?_; intro A3 c3 w3 hp; have HP := Lib.hid hp; clear hp)
        go_meet
        exact gw_push V2.out.1 V2.out.2.1 HP.out (by rw [hl.out, hl2.out]; rfl)
      · have hl := Lib.hid (show (if a < c then R else []) = R by
          by_cases h2 : a < c
          · exact if_pos h2
          · rw [if_neg h2, E3.out h2 h])
        go_wp2_with fail
        go_meet
        exact ⟨_, _, _, rfl, by rw [V2.out.2.1, hl.out], by have := V2.out.1; rw [hl.out] at this; exact this⟩
    case rest =>
      clear k1 j1 y1 k2 j2 y2 V2 hn1b hz1 E1 E2 E3
      obtain ⟨A2, n2, c2', rfl, hn2, hG2⟩ := hcut
      have V3 := Lib.hid (And.intro (VZ.out wc hG2.below) ((GwR.li hG2).mono (S' := fun _ => True) fun _ _ => trivial))
      have hn2b : n2 ≤ 1 := by rw [hn2]; exact HF1.out.1
      have HN2 := Lib.hid hn2
      clear VZ hn2 hG2
      obtain ⟨y1, k1, j1⟩ := (show _ from V3.out.1.t)
      obtain ⟨y2, k2, j2⟩ := (show _ from V3.out.1.f)
      go_upto_region 8 with fail
      refine at_world (fun X => Rv w a b c d X ∧ LiV 4 encO X (fun _ => True) (.slice A2 n2 c2') R ∧ LiV 4 encO X (fun q => w.heap.size ≤ q) (.slice (some ⟨wc.heap.size, 0, none⟩) 1 1) (moveL c d)) ⟨V3.out.1.later (belAlloc _ _), V3.out.2.later (belAlloc _ _), (op_newT wc 2 c d ⟨#[]⟩ 49 _ rfl).mono fun q hq => Nat.le_trans V3.out.1.below.size hq⟩ ?_
      intro Y0 hY0
      obtain ⟨B0, hB0⟩ : ∃ B, wc.heap.size = B := ⟨_, rfl⟩
      rw [hB0] at hY0 ⊢
      clear k1 j1 y1 k2 j2 y2 V3 hB0
      have V4 := Lib.hid hY0
      clear hY0
      obtain ⟨y1, k1, j1⟩ := (show _ from V4.out.1.t)
      obtain ⟨y2, k2, j2⟩ := (show _ from V4.out.1.f)
      have hmx : 0 + n2 ≤ maxLen := by unfold maxLen; omega
      have hmx2 : (0 + n2) * 40 ≤ 140737488355328 := by omega
      have VY := Lib.hid (show ∀ X, Below Y0.heap.size Y0 X → Rv w a b c d X ∧ LiV 4 encO X (fun _ => True) (.slice A2 n2 c2') R ∧ LiV 4 encO X (fun q => w.heap.size ≤ q) (.slice (some ⟨B0, 0, none⟩) 1 1) (moveL c d) from fun X hb => ⟨V4.out.1.later hb, V4.out.2.1.later hb, V4.out.2.2.later hb⟩)
      go_upto_region 9 with (at_builtin; refine wpList_li encO_len encO_one opR_elt (World.ownsRow_nil _ _ _ _) (Nat.le_refl Y0.heap.size) rfl rfl rfl rfl V4.out.2.1 hmx hmx2 ?_; intro A3 c3 w3 hp; have G5 := Lib.hid (gw_cat HN2.out hp); clear hp)
      clear k1 j1 y1 k2 j2 y2 V4 hmx hmx2
      have V5 := Lib.hid (VY.out w3 G5.out.below)
      obtain ⟨y1, k1, j1⟩ := (show _ from V5.out.1.t)
      obtain ⟨y2, k2, j2⟩ := (show _ from V5.out.1.f)
      have hz5 := G5.out.below.size
      go_upto_if 50 with fail
      go_cut [7] (fun s7 wx => GwR Y0 s7 (R ++ if b < d then Q else []) wx)
      case first =>
        by_cases h : b < d
        · have hl := Lib.hid (show R ++ [⟨8, d - b, 0, ⟨#[]⟩⟩] = (R ++ if b < d then Q else []) by rw [if_pos h, F1.out h])
          go_wp2_with (at_builtin; refine wpList_push opR_elt G5.out.own hz5 rfl rfl rfl rfl rfl rfl rfl (by unfold maxLen; omega) (by omega) ?_; intro A6 c6 w6 hp; have HP := Lib.hid hp; clear hp)
          go_meet
          exact gw_push G5.out HN2.out HP.out hl.out
        · have hl := Lib.hid (show (R ++ if b < d then Q else []) = R by rw [if_neg h, List.append_nil])
          go_wp2_with fail
          go_meet
          exact ⟨_, _, _, rfl, by rw [hl.out]; exact HN2.out, by rw [hl.out]; exact G5.out⟩
      case rest =>
        clear k1 j1 y1 k2 j2 y2 V5 G5 hz5
        obtain ⟨A6, n6, c6, rfl, hn6, hG6⟩ := hcut
        have V6 := Lib.hid (And.intro hG6 (And.intro hn6 (VY.out wc hG6.below)))
        have hz6 := hG6.below.size
        have hn6b : n6 ≤ 2 := by have := HF1.out.1; have := HF2.out.1; rw [hn6, List.length_append]; split <;> simp <;> omega
        clear hn6 hG6
        obtain ⟨y1, k1, j1⟩ := (show _ from V6.out.2.2.1.t)
        obtain ⟨y2, k2, j2⟩ := (show _ from V6.out.2.2.1.f)
        go_upto_if 64 with fail
        go_cut [7] (fun s7 wx => GwR Y0 s7 (R ++ Q) wx)
        case first =>
          by_cases h : d < b
          · have hl := Lib.hid (show (R ++ if b < d then Q else []) = R by rw [if_neg (by omega), List.append_nil])
            have hl2 := Lib.hid (show R ++ [⟨9, b - d, 0, ⟨#[]⟩⟩] = R ++ Q by rw [F2.out h])
            go_wp2_with (at_builtin; refine wpList_push opR_elt V6.out.1.own hz6 rfl rfl rfl rfl rfl rfl rfl (by unfold maxLen; omega) (by omega) ?_; intro A7 c7 w7 hp; have HP := Lib.hid hp; clear hp)
            go_meet
            exact gw_push V6.out.1 V6.out.2.1 HP.out (by rw [hl.out]; exact hl2.out)
          · have hl := Lib.hid (show (R ++ if b < d then Q else []) = R ++ Q by
              by_cases h2 : b < d
              · rw [if_pos h2]
              · rw [if_neg h2, F3.out h2 h])
            go_wp2_with fail
            go_meet
            exact ⟨_, _, _, rfl, by rw [V6.out.2.1, hl.out], by have := V6.out.1; rw [hl.out] at this; exact this⟩
        case rest =>
          clear k1 j1 y1 k2 j2 y2 V6 hz6 hn6b F1 F2 F3
          obtain ⟨A7, n7, c7, rfl, hn7, hG7⟩ := hcut
          have FQ := Lib.hid (And.intro (app_fit HF1.out.2 HF2.out.2) (show (R ++ Q).length ≤ 10 by have := HF1.out.1; have := HF2.out.1; rw [List.length_append]; omega))
          have FR := Lib.hid (And.intro (app_fit HF1.out.2 backL_fit) (show (R ++ backL).length ≤ 10 by have := HF1.out.1; rw [List.length_append]; show _ + 1 ≤ 10; omega))
          have L7 := Lib.hid (And.intro ((GwR.li hG7).mono (S' := fun q => w.heap.size ≤ q) fun q hq => Nat.le_trans (VY.out Y0 (Below.refl _ _)).1.below.size hq) (VY.out wc hG7.below))
          clear hn7 hG7 VY HN2
          have CA := Lib.hid (rall_at A7 n7 c7 (R ++ Q) wc _ L7.out.1 FQ.out.1 FQ.out.2)
          have g1 := allS_size (R ++ Q)
          have g2 := allS_size (moveL c d)
          have g3 := fit_len FQ.out.1 FQ.out.2
          have g4 := fit_len HM.out (show 1 ≤ 10 by omega)
          have HL2 := Lib.hid (show way2L a b c d = if (allS (R ++ Q)).size < (allS (moveL c d)).size then R ++ Q else moveL c d by rw [g1, g2, way2L_eq]; unfold goL; rw [HR.out.1, HR.out.2])
          have F2L := Lib.hid (show (∀ x ∈ way2L a b c d, Fit 0 x) ∧ (way2L a b c d).length ≤ 10 from by
            rw [HL2.out]
            split
            · exact FQ.out
            · exact ⟨HM.out, show 1 ≤ 10 by omega⟩)
          have CB := Lib.hid (fun X (h : LiV 4 encO X (fun q => w.heap.size ≤ q) (.slice (some ⟨B0, 0, none⟩) 1 1) (moveL c d)) => rall_at _ _ _ _ X _ h HM.out (show 1 ≤ 10 by omega))
          rw [← g1] at g3
          rw [← g2] at g4
          obtain ⟨T1, hT1⟩ : ∃ T, allS (R ++ Q) = T := ⟨_, rfl⟩
          obtain ⟨T2, hT2⟩ : ∃ T, allS (moveL c d) = T := ⟨_, rfl⟩
          rw [hT1] at g3 HL2 CA
          rw [hT2] at g4 HL2 CB
          clear g1 g2 hT1 hT2
          go_wp2_with fail
          refine CA.out.mono ?_
          rintro e w8 ⟨rfl, b8⟩
          have L8 := Lib.hid (And.intro (L7.out.1.later b8) (And.intro (L7.out.2.1.later b8) (And.intro (L7.out.2.2.1.later b8) (L7.out.2.2.2.later b8))))
          clear b8 L7 CA
          go_wp2_with fail
          refine (CB.out w8 L8.out.2.2.2).mono ?_
          rintro e w9 ⟨rfl, b9⟩
          have L9 := Lib.hid (And.intro (L8.out.1.later b9) (And.intro (L8.out.2.1.later b9) (And.intro (L8.out.2.2.1.later b9) (L8.out.2.2.2.later b9))))
          clear b9 L8 CB
          go_upto_if 80 with fail
          obtain ⟨L2, hL2⟩ : ∃ L, way2L a b c d = L := ⟨_, rfl⟩
          rw [hL2] at HL2 F2L
          go_cut [6] (fun s6 wx => wx = w9 ∧ ∃ A n c, s6 = .slice A n c ∧ LiV 4 encO w9 (fun q => w.heap.size ≤ q) s6 L2)
          case first =>
            clear hL2
            by_cases h : T1.size < T2.size
            · have hi : (T1.size : Int) < (T2.size : Int) := by omega
              have hl := Lib.hid (show R ++ Q = L2 by rw [HL2.out, if_pos h])
              go_wp2_with fail
              go_meet
              exact ⟨rfl, _, _, _, rfl, by rw [← hl.out]; exact L9.out.1⟩
            · have hi : ¬ (T1.size : Int) < (T2.size : Int) := by omega
              have hl := Lib.hid (show moveL c d = L2 by rw [HL2.out, if_neg h])
              go_wp2_with fail
              go_meet
              exact ⟨rfl, _, _, _, rfl, by rw [← hl.out]; exact L9.out.2.2.2⟩
          case rest =>
            obtain ⟨rfl, A8, n8, c8, rfl, h8⟩ := hcut
            have M1 := Lib.hid (And.intro h8 (And.intro L9.out.2.1 L9.out.2.2.1))
            have VM := Lib.hid (show ∀ X, Below wc.heap.size wc X → LiV 4 encO X (fun q => w.heap.size ≤ q) (.slice A8 n8 c8) L2 ∧ Rv w a b c d X from fun X hb => ⟨M1.out.1.later hb, M1.out.2.1.later hb⟩)
            have H2 := Lib.hid hL2
            have hz0 := L9.out.2.1.below.size
            have hrl := Lib.hid L9.out.2.2.1.parts.1
            clear h8 L9 HL2 hL2
            have hmx : 0 + n2 ≤ maxLen := by unfold maxLen; omega
            have hmx2 : (0 + n2) * 40 ≤ 140737488355328 := by omega
            go_upto_region 16 with (at_builtin; refine wpList_li encO_len encO_one opR_elt (World.ownsRow_nil _ _ _ _) (Nat.le_refl wc.heap.size) rfl rfl rfl rfl M1.out.2.2 hmx hmx2 ?_; intro A11 c11 w11 hp; have G11 := Lib.hid (gw_cat hrl.out hp); clear hp)
            clear hmx hmx2
            have hz11 := G11.out.below.size
            go_upto_region 17 with (at_builtin; refine wpList_push opR_elt G11.out.own hz11 rfl rfl rfl rfl rfl rfl rfl (by unfold maxLen; omega) (by omega) ?_; intro A12 c12 w12 hp; have G12 := Lib.hid (gw_push G11.out hrl.out hp (show R ++ [⟨6, 0, 0, ⟨#[]⟩⟩] = R ++ backL from rfl)); clear hp)
            obtain ⟨A13, n13, c13, e13, -, hG13⟩ := G12.out
            injection e13 with x1 x2 x3
            subst x1; subst x2; subst x3
            have hb13 := hG13.below
            have L12 := Lib.hid (And.intro ((GwR.li hG13).mono (S' := fun q => w.heap.size ≤ q) fun q hq => Nat.le_trans hz0 hq) (VM.out w12 hb13))
            clear hG13 hb13 G12 G11 hz11 VM M1
            obtain ⟨y1, k1, j1⟩ := (show _ from L12.out.2.2.t)
            by_cases hd : d = 0
            · have hdb : (d == 0) = true := by simpa using hd
              have hw : wayL a b c d = if (allB (R ++ backL)).length < (allB L2).length then R ++ backL else L2 := by
                have e : wayL a b c d = way3L a b c d := if_pos hd
                rw [e, way3L_eq, H2.out, bkL, HR.out.1]
              have CA := Lib.hid (rall_at A12 (n2 + 1) c12 (R ++ backL) w12 _ L12.out.1 FR.out.1 FR.out.2)
              have CB := Lib.hid (fun X (h : LiV 4 encO X (fun q => w.heap.size ≤ q) (.slice A8 n8 c8) L2) => rall_at _ _ _ _ X _ h F2L.out.1 F2L.out.2)
              have g1 := allS_size (R ++ backL)
              have g2 := allS_size L2
              have g3 := fit_len FR.out.1 FR.out.2
              have g4 := fit_len F2L.out.1 F2L.out.2
              rw [← g1] at g3 hw
              rw [← g2] at g4 hw
              have HWL := Lib.hid hw
              obtain ⟨T3, hT3⟩ : ∃ T, allS (R ++ backL) = T := ⟨_, rfl⟩
              obtain ⟨T4, hT4⟩ : ∃ T, allS L2 = T := ⟨_, rfl⟩
              rw [hT3] at g3 HWL CA
              rw [hT4] at g4 HWL CB
              clear g1 g2 hT3 hT4 hw hd H2
              go_wp2_with fail
              refine CA.out.mono ?_
              rintro e w14 ⟨rfl, b14⟩
              have L14 := Lib.hid (And.intro (L12.out.1.later b14) (And.intro (L12.out.2.1.later b14) (L12.out.2.2.later b14)))
              clear b14 L12 CA k1 j1 y1
              go_wp2_with fail
              refine (CB.out w14 L14.out.2.1).mono ?_
              rintro e w15 ⟨rfl, b15⟩
              have L15 := Lib.hid (And.intro (L14.out.1.later b15) (And.intro (L14.out.2.1.later b15) (L14.out.2.2.later b15)))
              clear b15 L14 CB
              by_cases h : T3.size < T4.size
              · have hi : (T3.size : Int) < (T4.size : Int) := by omega
                have hl := Lib.hid (show wayL a b c d = R ++ backL by rw [HWL.out, if_pos h])
                go_wp2_with fail
                go_ret
                exact ⟨_, _, _, rfl, by rw [hl.out]; exact L15.out.1, L15.out.2.2.below⟩
              · have hi : ¬ (T3.size : Int) < (T4.size : Int) := by omega
                have hl := Lib.hid (show wayL a b c d = L2 by rw [HWL.out, if_neg h])
                go_wp2_with fail
                go_ret
                exact ⟨_, _, _, rfl, by rw [hl.out]; exact L15.out.2.1, L15.out.2.2.below⟩
            · have hdb : (d == 0) = false := by simpa using hd
              have hl := Lib.hid (show wayL a b c d = L2 by rw [← H2.out]; exact if_neg hd)
              clear hd H2
              go_wp2_with fail
              go_ret
              exact ⟨_, _, _, rfl, by rw [hl.out]; exact L12.out.2.1, L12.out.2.2.below⟩
end Go.Proofs.YtednedklkbjihaaDoor
