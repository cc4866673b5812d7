/- undo: UndoPlays' walk. -/
import Derived.Test.YtfmpldgeldocnaaUnW
import Derived.Test.YtfmpldgeldocnaaUnX
import Derived.IntWalk
namespace Go.Proofs.Ytfmpldgeldocnaa
open Go.RowKit
set_option linter.unusedVariables false
set_option linter.unusedSimpArgs false
attribute [local go_sem ↓] Go.wp_at_zero Go.wp_at_succ

/-- Within a round: the deed's copy, the light edit, the stack and the document's groups. -/
structure PJ (w : World) (B0 B1 : Nat) (O : Option Addr) (on oc : Nat) (I : Option Addr) (im ic : Nat) (le : AE) (d : Dd) (A : Option Addr) (n c : Nat) (v : Value) (S S' : List AG) (X : World) : Prop where
  sv : SV w w.heap.size A n c S' X
  ref : Stk X v S
  ed : Blk X B1 #[.int .i64 le.at_, .slice O on oc, .slice I im ic]
  is : EdIs X ⟨le.at_, O, on, oc, I, im, ic⟩ le
  dd : Blk X B0 #[.int .i64 d.k, .int .i64 d.c, .int .i64 d.h.at_, .slice d.h.A d.h.n d.h.c, .slice d.h.B d.h.m d.h.d]
theorem pj_store {w X Y : World} {B0 B1 : Nat} {O : Option Addr} {on oc : Nat} {I : Option Addr} {im ic : Nat} {le : AE} {d : Dd} {A A' : Option Addr} {n c n' c' : Nat} {v : Value} {S T S' : List AG} (h : PJ w B0 B1 O on oc I im ic le d A n c v S T X) (hne : w.heap.size ≠ B1) (hne0 : w.heap.size ≠ B0)
    (hb : Below X.heap.size X Y) (hs : Stk Y (.slice A' n' c') S') : PJ w B0 B1 O on oc I im ic le d A' n' c' v S S' (Y.setCell ⟨w.heap.size, 0, none⟩ (.slice A' n' c')) := by
  have hB := h.sv.blk.later hb h.sv.blk.1
  exact ⟨h.sv.store (Nat.le_refl _) hb hs, (h.ref.later hb).shape hB (noTxt_slice _ _ _) (by simp) 0 _, (h.ed.later hb h.ed.1).far (by simpa using hne) _, (h.is.later hb).shape hB (noTxt_slice _ _ _) 0 _, (h.dd.later hb h.dd.1).far (by simpa using hne0) _⟩
theorem AI.drop {w X Y : World} {A A' : Option Addr} {n c n' c' : Nat} {v v' : Value} {S : List AG} {k : Nat} (h : AI w A n c v S k X) (hv : SV w w.heap.size A' n' c' S.dropLast Y) (hr : Stk Y v' S.dropLast) : AI w A' n' c' v' S.dropLast (k + 1) Y :=
  ⟨hv, hr, by have := h.len; rw [List.length_dropLast]; omega, fun g hg => ⟨(h.light g (List.dropLast_subset _ hg)).1, by have := (h.light g (List.dropLast_subset _ hg)).2; omega⟩⟩
theorem AI.later {w X Y : World} {A : Option Addr} {n c : Nat} {v : Value} {S : List AG} {k : Nat} (h : AI w A n c v S k X) (hb : Below X.heap.size X Y) : AI w A n c v S k Y :=
  ⟨h.sv.later hb, h.ref.later hb, h.len, h.light⟩

set_option maxHeartbeats 4000000 in
set_option maxRecDepth 100000 in
theorem walk_UndoPlays (w : World) (A : Option Addr) (n c : Nat) (D : Nat → Dd) (hn : n ≤ c) (hc : c ≤ maxLen) (hD : ∀ i, i < n → DeedAt w A i (D i)) :
    Calls Try.prog 3 #[.slice A n c] w (Yes w) := by
  have HD := Lib.hid hD
  unfold maxLen at hc
  clear hD
  have V0 := Lib.hid (show AI w none 0 0 (.slice none 0 0) [] 0 (w.alloc (.cells #[.slice none 0 0] 25)) from
    ⟨sv_new w _, Stk.nil _, Nat.le_refl _, fun g hg => by simp at hg⟩)
  go_enter Try.func3, Try.ntmps3
  go_wp2_with fail
  go_loopw [4, 5] (fun rv i wr => ∃ k : Nat, k ≤ n ∧ k ≤ 100 ∧ i = .int .i64 k ∧ ∃ An nn cn, rv = .slice An nn cn ∧ Hid (∃ As ns cs S, AI w As ns cs (.slice An nn cn) S k wr)) (fun _ i _ => n - (intOf i).toNat)
  case atStart => exact ⟨0, Nat.zero_le _, Nat.zero_le _, rfl, none, 0, 0, rfl, ⟨_, _, _, _, V0.out⟩⟩
  case round =>
    obtain ⟨k, hk, hk40, rfl, An, nn, cn, rfl, HB⟩ := hrel
    obtain ⟨As, ns, cs, S, V⟩ := HB.out
    have HV := Lib.hid V
    clear V HB V0
    by_cases hlt : k < n ∧ k < 100
    · obtain ⟨hkn, hk4⟩ := hlt
      have h4 : (k : Int) < 100 := by omega
      have hDk := (HD.out k hkn).later (HV.out.sv.below)
      obtain ⟨d, hd⟩ : ∃ d, D k = d := ⟨_, rfl⟩
      rw [hd] at hDk
      have HDk := Lib.hid hDk
      obtain ⟨b, o, rfl, hbl, x0, x1, x2, x3, x4, hE⟩ := hDk
      have HW1 := Lib.hid (show Below wr.heap.size wr (wr.alloc (.cells #[.int .i64 d.k, .int .i64 d.c, .int .i64 d.h.at_, .slice d.h.A d.h.n d.h.c, .slice d.h.B d.h.m d.h.d] 31)) ∧ Blk (wr.alloc (.cells #[.int .i64 d.k, .int .i64 d.c, .int .i64 d.h.at_, .slice d.h.A d.h.n d.h.c, .slice d.h.B d.h.m d.h.d] 31)) wr.heap.size #[.int .i64 d.k, .int .i64 d.c, .int .i64 d.h.at_, .slice d.h.A d.h.n d.h.c, .slice d.h.B d.h.m d.h.d] ∧ EdIs wr d.h d.e from ⟨belAlloc _ _, blk_new _ _ _, hE⟩)
      clear hE hd
      go_upto_region 7 with fail
      refine at_world (fun X => Below wr.heap.size wr X ∧ Blk X wr.heap.size #[.int .i64 d.k, .int .i64 d.c, .int .i64 d.h.at_, .slice d.h.A d.h.n d.h.c, .slice d.h.B d.h.m d.h.d] ∧ EdIs X d.h d.e) ⟨HW1.out.1, HW1.out.2.1, HW1.out.2.2.later HW1.out.1⟩ ?_
      rintro w1 hw1
      obtain ⟨y1, k1, j1⟩ := (show _ from hw1.2.1)
      have H1 := Lib.hid hw1
      obtain ⟨B0, hB0⟩ : ∃ B0, wr.heap.size = B0 := ⟨_, rfl⟩
      have HB0 := Lib.hid (And.intro hB0 (show w.heap.size ≠ B0 by have := HV.out.sv.blk.1; omega))
      rw [hB0] at y1 k1 j1 ⊢
      clear hw1 HW1 x0 x1 x2 x3 x4 hB0
      obtain ⟨kb, hkb⟩ : ∃ kb, decide (0 ≤ d.k ∧ d.k ≤ 2) = kb := ⟨_, rfl⟩
      have HKB := Lib.hid hkb
      clear hkb
      go_cut [6, 31] from 7 to 92 (fun s6 s31 wx => s6 = .pointer (some ⟨B0, 0, none⟩) ∧ s31 = .bool kb ∧ w1 = wx)
      case first =>
        by_cases hkk : 0 ≤ d.k ∧ d.k ≤ 2
        · obtain ⟨hk0, hk2⟩ := hkk
          have hkt : kb = true := by rw [← HKB.out]; exact decide_eq_true ⟨hk0, hk2⟩
          subst hkt
          go_wp2_with fail
          go_meet
          case rel => exact ⟨rfl, rfl, rfl⟩
        · have hkf : kb = false := by rw [← HKB.out]; exact decide_eq_false hkk
          subst hkf
          have hkk2 : d.k < 0 ∨ (0 ≤ d.k ∧ 2 < d.k) := by omega
          clear hkk
          rcases hkk2 with hk0 | ⟨hk0, hk2⟩
          all_goals
            try have hk3 : decide (d.k ≤ 2) = false := by simp; omega
            go_wp2_with fail
            go_meet
            case rel => exact ⟨rfl, rfl, rfl⟩
      obtain ⟨rfl, rfl, rfl⟩ := hcut
      go_upto_if 31 with fail
      go_cut [4] from 6 to 92 (fun s4 wx => ∃ Ar nr cr, s4 = .slice Ar nr cr ∧ Hid (∃ A7 n7 c7 S', AI w A7 n7 c7 (.slice Ar nr cr) S' (k + 1) wx))
      case first =>
        cases kb with
        | true =>
          obtain ⟨le, hle⟩ : ∃ le, lightE d.e = le := ⟨_, rfl⟩
          have hlen := lightE_le d.e
          have C1 := light_is _ _ _ _ _ _ _ _ _ (show EdIs w1 ⟨d.h.at_, d.h.A, d.h.n, d.h.c, d.h.B, d.h.m, d.h.d⟩ d.e from H1.out.2.2)
          rw [hle] at C1 hlen
          have C1 := Lib.hid C1
          have HLE := Lib.hid hlen
          clear hle hlen
          go_wp2_with fail
          (with_reducible refine C1.out.mono ?_)
          rintro e w2 ⟨O, on, oc, I, im, ic, rfl, hE1, hb1⟩
          have hb2 : Below w1.heap.size w1 (w2.alloc (.cells #[.int .i64 le.at_, .slice O on oc, .slice I im ic] 29)) := belPush hb1 _
          have HJ0 := Lib.hid (show PJ w B0 w2.heap.size O on oc I im ic le d As ns cs (.slice An nn cn) S S (w2.alloc (.cells #[.int .i64 le.at_, .slice O on oc, .slice I im ic] 29)) from
            ⟨(HV.out.sv.later H1.out.1).later hb2, (HV.out.ref.later H1.out.1).later hb2, blk_new w2 _ _, hE1.later (belAlloc _ _), by have := H1.out.2.1.later hb2 H1.out.2.1.1; rw [HB0.out.1] at this; exact this⟩)
          have HNE := Lib.hid (show w.heap.size ≠ w2.heap.size by have := HV.out.sv.blk.1; have := H1.out.1.size; have := hb1.size; omega)
          obtain ⟨B1, hB1⟩ : ∃ B1, w2.heap.size = B1 := ⟨_, rfl⟩
          clear C1 hE1 hb1 hb2 y1 k1 j1
          go_wp2_with fail
          rw [hB1] at HJ0 HNE
          clear hB1
          refine at_world (fun X => PJ w B0 B1 O on oc I im ic le d As ns cs (.slice An nn cn) S S X) HJ0.out ?_
          clear HJ0
          rintro w4 hJ
          have HJ := Lib.hid hJ
          clear hJ
          have hk02 := of_decide_eq_true HKB.out
          obtain ⟨hk0, hk2⟩ := hk02
          obtain ⟨jb, hjb⟩ : ∃ jb, decide (0 < d.k) = jb := ⟨_, rfl⟩
          have HS := Lib.hid (show ∀ X, Below w4.heap.size w4 X → X.cell? ⟨w.heap.size, 0, none⟩ = some (.slice As ns cs) ∧ X.frozen? ⟨w.heap.size, 0, none⟩ = false ∧ X.cell? ⟨B1, 0, none⟩ = some (.int .i64 le.at_) ∧ X.cell? ⟨B1, 1, none⟩ = some (.slice O on oc) ∧ X.cell? ⟨B1, 2, none⟩ = some (.slice I im ic) ∧ X.cell? ⟨B0, 0, none⟩ = some (.int .i64 d.k) ∧ X.cell? ⟨B0, 1, none⟩ = some (.int .i64 d.c) from by
            intro X hX
            have hB := HJ.out.sv.blk.later hX HJ.out.sv.blk.1
            have hC := HJ.out.ed.later hX HJ.out.ed.1
            have hD := HJ.out.dd.later hX HJ.out.dd.1
            exact ⟨hB.2.1 0, hB.2.2 0, hC.2.1 0, hC.2.1 1, hC.2.1 2, hD.2.1 0, hD.2.1 1⟩)
          go_cut [6, 7] from 8 to 92 (fun s6 s7 wx => s6 = .pointer (some ⟨B0, 0, none⟩) ∧ s7 = .pointer (some ⟨B1, 0, none⟩) ∧ Hid (∃ A7 n7 c7, PJ w B0 B1 O on oc I im ic le d A7 n7 c7 (.slice An nn cn) S (addS S le d.c jb) wx))
          case first =>
            have hDr := (Below.refl w4.heap.size w4).drew
            obtain ⟨p0, p1, p2, p3, p4, p5, p6⟩ := HS.out _ hDr
            go_region_with
              (first
              | (go_at_call 9; (with_reducible refine (edit_is _ _ _ _ _ _ _ _ _ (HJ.out.is.later hDr)).mono ?_); rintro e w6 ⟨rfl, hb6⟩; have hB6 := belowStep hDr hb6; obtain ⟨g0, g1, g2, g3, g4, g5, g6⟩ := HS.out _ hB6)
              | (go_at_call 8; (with_reducible refine (add_is As ns cs le.at_ O on oc I im ic d.c jb S le w6 (HJ.out.sv.st.later hB6) (HJ.out.is.later hB6) (by have := HV.out.len; omega) (fun g hg => by have := (HV.out.light g hg).2; omega)).mono ?_); rintro e w7 ⟨A7, n7, c7, rfl, hs7, hb7⟩; have hB7 := belowStep hB6 hb7; obtain ⟨i0, i1, i2, i3, i4, i5, i6⟩ := HS.out _ hB7))
            all_goals
              have V7 := Lib.hid (pj_store HJ.out HNE.out HB0.out.2 hB7 hs7)
              clear g0 g1 g2 g3 g4 g5 g6 p0 p1 p2 p3 p4 p5 p6 hb6 hb7 hB6 hs7 hB7
              go_wp2_with fail
              go_meet
              case rel => exact ⟨rfl, rfl, ⟨_, _, _, V7.out⟩⟩
          case rest =>
            obtain ⟨rfl, rfl, HC⟩ := hcut
            obtain ⟨A7, n7, c7, hJ7⟩ := HC.out
            have HJ7 := Lib.hid hJ7
            have hC := hJ7.ed.2.1
            have hD := hJ7.dd.2.1
            have p2 := hC 0
            have p3 := hC 1
            have p4 := hC 2
            have x0 := hD 0
            have x1 := hD 1
            clear hJ7 HC HS hC hD HJ
            have CR := Lib.hid (radd_is An nn cn le.at_ O on oc I im ic d.c jb S le wc HJ7.out.ref HJ7.out.is (by have := HV.out.len; omega) (fun g hg => by have := (HV.out.light g hg).2; omega))
            go_wp2_with fail
            (with_reducible refine CR.out.mono ?_)
            rintro e w8 ⟨A8, n8, c8, rfl, hs8, hb8⟩
            have HN := Lib.hid (HV.out.next HLE.out (HJ7.out.sv.later hb8) hs8)
            clear hs8 hb8 CR p2 p3 p4 x0 x1
            go_wp2_with fail
            go_meet
            case rel => exact ⟨A8, n8, c8, rfl, ⟨_, _, _, _, HN.out⟩⟩
        | false =>
          have HVL := Lib.hid (HV.out.later H1.out.1)
          obtain ⟨y2, k2, j2⟩ := (show _ from HVL.out.sv.blk)
          have CD := Lib.hid (drop_is As ns cs S w1 HVL.out.sv.st (by have := HV.out.len; omega))
          have hnn : nn = S.length := by
            obtain ⟨A', c', e, _⟩ := HVL.out.ref.is
            injection e
          have hcn : S.length ≤ cn := by
            obtain ⟨A', c', e, h, _⟩ := HVL.out.ref.is
            injection e with _ _ e3
            rw [e3]; exact h
          have hSl := HV.out.len
          have hSS : (nn = 0 ∧ Hid (S = [])) ∨ (∃ N, nn = N + 1 ∧ N + 1 ≤ cn ∧ N ≤ 1000 ∧ Hid (∃ T a, S = T ++ [a] ∧ T.length = N)) := by
            rcases List.eq_nil_or_concat S with h | ⟨T, a, h⟩
            · left; exact ⟨by rw [hnn, h]; rfl, Lib.hid h⟩
            · right
              rw [List.concat_eq_append] at h
              rw [h] at hcn hSl
              simp only [List.length_append, List.length_cons, List.length_nil] at hcn hSl
              exact ⟨T.length, by rw [hnn, h]; simp, by omega, by omega, Lib.hid ⟨T, a, h, rfl⟩⟩
          clear hnn hcn hSl
          skip
          all_goals
            rcases hSS with ⟨rfl, HE⟩ | ⟨N, rfl, hNc, hN1, HE⟩
            · go_wp2_with fail
              (with_reducible refine CD.out.mono ?_)
              rintro e w3 ⟨A3, n3, c3, rfl, hs3, hb3⟩
              have hB3 := HVL.out.sv.blk.later hb3 HVL.out.sv.blk.1
              have HN := Lib.hid (HVL.out.drop (HVL.out.sv.store (Nat.le_refl _) hb3 hs3) (v' := .slice An 0 cn) (by
                have h := (HVL.out.ref.later hb3).shape hB3 (noTxt_slice _ _ _) (by simp) 0 (.slice A3 n3 c3)
                have e : S.dropLast = S := by rw [HE.out]; rfl
                rw [e]
                exact h))
              obtain ⟨y3, k3, j3⟩ := (show _ from hB3)
              clear hs3 hb3 CD hB3 y1 k1 j1 y2 k2 j2
              go_wp2_with fail
              go_meet
              case rel => exact ⟨An, 0, cn, rfl, ⟨_, _, _, _, HN.out⟩⟩
            · have d0 : decide ((0 : Int) < (N : Int) + 1) = true := by simp
              have i1 : (N : Int) ≤ (cn : Int) := by omega
              go_wp2_with fail
              (with_reducible refine CD.out.mono ?_)
              rintro e w3 ⟨A3, n3, c3, rfl, hs3, hb3⟩
              have hB3 := HVL.out.sv.blk.later hb3 HVL.out.sv.blk.1
              have HN := Lib.hid (HVL.out.drop (HVL.out.sv.store (Nat.le_refl _) hb3 hs3) (v' := .slice An N cn) (by
                have h := (HVL.out.ref.later hb3).shape hB3 (noTxt_slice _ _ _) (by simp) 0 (.slice A3 n3 c3)
                obtain ⟨T, a, e, eN⟩ := HE.out
                rw [e, List.dropLast_concat]
                rw [e] at h
                have := h.take N (by simp; omega)
                rwa [List.take_left' eN] at this))
              obtain ⟨y3, k3, j3⟩ := (show _ from hB3)
              clear hs3 hb3 CD hB3 y1 k1 j1 y2 k2 j2
              go_wp2_with fail
              go_meet
              case rel => exact ⟨An, N, cn, rfl, ⟨_, _, _, _, HN.out⟩⟩
      case rest =>
        obtain ⟨Ar, nr, cr, rfl, HC⟩ := hcut
        obtain ⟨A7, n7, c7, S', hA⟩ := HC.out
        have HA := Lib.hid hA
        clear hA HC H1 HDk HV HB0 y1 k1 j1
        obtain ⟨y2, k2, j2⟩ := (show _ from HA.out.sv.blk)
        have CT := Lib.hid (last_is A7 n7 c7 S' wc HA.out.sv.st (by have := HA.out.len; omega) (fun a ha => by have := (HA.out.light a ha).2; omega))
        have hnr : nr = S'.length := by
          obtain ⟨A', c', e, _⟩ := HA.out.ref.is
          injection e
        have hcr : S'.length ≤ cr := by
          obtain ⟨A', c', e, h, _⟩ := HA.out.ref.is
          injection e with _ _ e3
          rw [e3]; exact h
        have hSS : (nr = 0 ∧ Hid (S' = [])) ∨ (∃ N, nr = N + 1 ∧ N + 1 ≤ cr ∧ N ≤ 1000 ∧ Hid (∃ T a, S' = T ++ [a] ∧ T.length = N)) := by
          rcases List.eq_nil_or_concat S' with h | ⟨T, a, h⟩
          · left; exact ⟨by rw [hnr, h]; rfl, Lib.hid h⟩
          · right
            rw [List.concat_eq_append] at h
            have hl := HA.out.len
            rw [h] at hcr hl
            simp only [List.length_append, List.length_cons, List.length_nil] at hcr hl
            exact ⟨T.length, by rw [hnr, h]; simp, by omega, by omega, Lib.hid ⟨T, a, h, rfl⟩⟩
        clear hnr hcr
        rcases hSS with ⟨rfl, HE⟩ | ⟨N, rfl, hNc, hN1, HE⟩
        · go_wp2_with fail
          (with_reducible refine CT.out.mono ?_)
          rintro e w3 ⟨Eg, mg, dg, xg, okg, rfl, hb3, hor⟩
          obtain rfl : okg = false := by
            rcases hor with ⟨_, h⟩ | ⟨T, a, h, _⟩
            · exact h
            · rw [HE.out] at h
              simp at h
          have HX := Lib.hid (show ∀ X, Below w3.heap.size w3 X → X.cell? ⟨w.heap.size, 0, none⟩ = some (.slice A7 n7 c7) ∧ Stk X (.slice A7 n7 c7) S' ∧ Below wc.heap.size wc X from fun X hX => ⟨(HA.out.sv.blk.later (belowStep hb3 hX) HA.out.sv.blk.1).2.1 0, HA.out.sv.st.later (belowStep hb3 hX), belowStep hb3 hX⟩)
          clear hb3 hor CT y2 k2 j2
          go_upto_region 15 with fail
          refine at_world (fun X => Below w3.heap.size w3 X) (by repeat' (first | assumption | exact Below.refl _ _ | refine belPush ?_ _ | refine Below.drew ?_ | refine Below.setCell ?_ (by simp) _)) ?_
          rintro w5 hw5
          have h5 := HX.out _ hw5
          have CL := Lib.hid (show ∀ X, Below w5.heap.size w5 X → Calls Try.prog 13 #[.agg #[.slice A7 n7 c7]] X (fun e w' => e = .returned (.int .i64 0) ∧ Below X.heap.size X w') from fun X hX => by
            have := len_is _ S' X (HX.out _ (belowStep hw5 hX)).2.1
            rw [HE.out] at this
            exact this)
          have HF := Lib.hid (show ∀ X, Below w5.heap.size w5 X → AI w A7 n7 c7 (.slice Ar 0 cr) S' (k + 1) X from fun X hX => HA.out.later (HX.out _ (belowStep hw5 hX)).2.2)
          have c0 := h5.1
          clear h5 hw5 HX
          have hDr := (Below.refl w5.heap.size w5).drew
          have c1 : w5.drew.cell? ⟨w.heap.size, 0, none⟩ = some (.slice A7 n7 c7) := c0
          clear c0
          refine wp_region_any (by kernel_rfl) ?_
          change wpAny _ _ _ _ _ _ _ (World.drew _)
          refine wpAny_take (i := 2) (oi := { dst := some 69, op := Go.Op.move (Go.Operand.tmp 4), type := 26, pos := "law.go:69", after := #[], guard := none }) (v := ?_) rfl (by kernel_rfl) (by kernel_rfl) (by kernel_rfl) (fun _ _ _ h => h) (Or.inl ⟨by rfl, ?_⟩) ?_
          rotate_left
          · intro Z; go_simp; try with_reducible rfl
          simp only [Act.put, List.setIfInBounds_toArray, List.set_cons_zero, List.set_cons_succ]
          refine wpAny_take (i := 3) (oi := { dst := some 70, op := Go.Op.call { callee := Go.Callee.builtin Go.Builtin.len, args := #[Go.Operand.tmp 69], argTypes := #[26] }, type := 3, pos := "law.go:69", after := #[{ on := 2, ground := Go.Ground.data }], guard := none }) (v := ?_) rfl (by kernel_rfl) (by kernel_rfl) (by kernel_rfl) (fun _ _ _ h => h) (Or.inl ⟨by rfl, ?_⟩) ?_
          rotate_left
          · intro Z; go_simp; try with_reducible rfl
          simp only [Act.put, List.setIfInBounds_toArray, List.set_cons_zero, List.set_cons_succ]
          refine wpAny_ready (rs := [0]) (by kernel_rfl) (by simp) ?_
          refine AllReady.cons (o := { dst := some 67, op := Go.Op.load 25 (Go.Operand.tmp 3), type := 25, pos := "law.go:69", after := #[], guard := none }) rfl (fun K hK => ?_) AllReady.nil
          go_simp; refine hK _ _ ?_; clear hK K
          refine wpAny_ready (rs := [1]) (by kernel_rfl) (by simp) ?_
          refine AllReady.cons (o := { dst := some 68, op := Go.Op.call { callee := Go.Callee.value (Go.Operand.func 13), args := #[Go.Operand.tmp 67], argTypes := #[25] }, type := 3, pos := "law.go:69", after := #[{ on := 0, ground := Go.Ground.data }], guard := none }) rfl (fun K hK => ?_) AllReady.nil
          rw [if_pos (by rfl)]; go_simp; go_at_call 13; (with_reducible refine (CL.out _ hDr).mono ?_); rintro e w6 ⟨rfl, hb6⟩; have hB6 := belowStep (W := w5) hDr hb6; dsimp only; refine hK _ _ ?_; clear hK K
          refine wpAny_take (i := 4) (oi := { dst := some 71, op := Go.Op.binOp Go.BinOp.neq 3 (Go.Operand.tmp 68) (Go.Operand.tmp 70) 3, type := 4, pos := "law.go:69", after := #[{ on := 1, ground := Go.Ground.data }, { on := 3, ground := Go.Ground.data }], guard := none }) (v := ?_) rfl (by kernel_rfl) (by kernel_rfl) (by kernel_rfl) (fun _ _ _ h => h) (Or.inl ⟨by rfl, ?_⟩) ?_
          rotate_left
          · intro Z; go_simp; try with_reducible rfl
          simp only [Act.put, List.setIfInBounds_toArray, List.set_cons_zero, List.set_cons_succ]
          refine wpAny_take (i := 5) (oi := { dst := some 72, op := Go.Op.move (Go.Operand.tmp 71), type := 4, pos := "law.go:69", after := #[{ on := 4, ground := Go.Ground.data }, { on := 1, ground := Go.Ground.chain }], guard := none }) (v := ?_) rfl (by kernel_rfl) (by kernel_rfl) (by kernel_rfl) (fun _ _ _ h => h) (Or.inl ⟨by rfl, ?_⟩) ?_
          rotate_left
          · intro Z; go_simp; try with_reducible rfl
          simp only [Act.put, List.setIfInBounds_toArray, List.set_cons_zero, List.set_cons_succ]
          refine wpAny_take (i := 6) (oi := { dst := some 73, op := Go.Op.move (Go.Operand.tmp 9), type := 4, pos := "law.go:69", after := #[{ on := 5, ground := Go.Ground.guard }], guard := some (5, false) }) (v := ?_) rfl (by kernel_rfl) (by kernel_rfl) (by kernel_rfl) (fun _ _ _ h => h) (Or.inl ⟨by rfl, ?_⟩) ?_
          rotate_left
          · intro Z; go_simp; try with_reducible rfl
          simp only [Act.put, List.setIfInBounds_toArray, List.set_cons_zero, List.set_cons_succ]
          refine wpAny_take (i := 7) (oi := { dst := some 74, op := Go.Op.move (Go.Operand.tmp 4), type := 26, pos := "law.go:69", after := #[{ on := 5, ground := Go.Ground.guard }], guard := some (5, false) }) (v := ?_) rfl (by kernel_rfl) (by kernel_rfl) (by kernel_rfl) (fun _ _ _ h => h) (Or.inl ⟨by rfl, ?_⟩) ?_
          rotate_left
          · intro Z; go_simp; try with_reducible rfl
          simp only [Act.put, List.setIfInBounds_toArray, List.set_cons_zero, List.set_cons_succ]
          refine wpAny_take (i := 8) (oi := { dst := some 75, op := Go.Op.call { callee := Go.Callee.builtin Go.Builtin.len, args := #[Go.Operand.tmp 74], argTypes := #[26] }, type := 3, pos := "law.go:69", after := #[{ on := 7, ground := Go.Ground.data }, { on := 5, ground := Go.Ground.guard }], guard := some (5, false) }) (v := ?_) rfl (by kernel_rfl) (by kernel_rfl) (by kernel_rfl) (fun _ _ _ h => h) (Or.inl ⟨by rfl, ?_⟩) ?_
          rotate_left
          · intro Z; go_simp; try with_reducible rfl
          simp only [Act.put, List.setIfInBounds_toArray, List.set_cons_zero, List.set_cons_succ]
          refine wpAny_take (i := 9) (oi := { dst := some 76, op := Go.Op.binOp Go.BinOp.gtr 3 (Go.Operand.tmp 75) (Go.Operand.const (Go.Value.int Go.IntKind.i64 0)) 3, type := 4, pos := "law.go:69", after := #[{ on := 8, ground := Go.Ground.data }, { on := 5, ground := Go.Ground.guard }], guard := some (5, false) }) (v := ?_) rfl (by kernel_rfl) (by kernel_rfl) (by kernel_rfl) (fun _ _ _ h => h) (Or.inl ⟨by rfl, ?_⟩) ?_
          rotate_left
          · intro Z; go_simp; try with_reducible rfl
          simp only [Act.put, List.setIfInBounds_toArray, List.set_cons_zero, List.set_cons_succ]
          refine wpAny_take (i := 10) (oi := { dst := some 77, op := Go.Op.binOp Go.BinOp.neq 4 (Go.Operand.tmp 73) (Go.Operand.tmp 76) 4, type := 4, pos := "law.go:69", after := #[{ on := 6, ground := Go.Ground.data }, { on := 9, ground := Go.Ground.data }, { on := 5, ground := Go.Ground.guard }], guard := some (5, false) }) (v := ?_) rfl (by kernel_rfl) (by kernel_rfl) (by kernel_rfl) (fun _ _ _ h => h) (Or.inl ⟨by rfl, ?_⟩) ?_
          rotate_left
          · intro Z; go_simp; try with_reducible rfl
          simp only [Act.put, List.setIfInBounds_toArray, List.set_cons_zero, List.set_cons_succ]
          refine wpAny_take (i := 11) (oi := { dst := some 78, op := Go.Op.pick (Go.Operand.tmp 72) (Go.Operand.const (Go.Value.bool true)) (Go.Operand.tmp 77), type := 4, pos := "law.go:69", after := #[{ on := 5, ground := Go.Ground.data }, { on := 10, ground := Go.Ground.data }], guard := none }) (v := ?_) rfl (by kernel_rfl) (by kernel_rfl) (by kernel_rfl) (fun _ _ _ h => h) (Or.inl ⟨by rfl, ?_⟩) ?_
          rotate_left
          · intro Z; go_simp; try with_reducible rfl
          simp only [Act.put, List.setIfInBounds_toArray, List.set_cons_zero, List.set_cons_succ]
          refine wpAny_take (i := 12) (oi := { dst := some 79, op := Go.Op.move (Go.Operand.tmp 78), type := 4, pos := "law.go:69", after := #[{ on := 11, ground := Go.Ground.data }, { on := 5, ground := Go.Ground.chain }], guard := none }) (v := ?_) rfl (by kernel_rfl) (by kernel_rfl) (by kernel_rfl) (fun _ _ _ h => h) (Or.inl ⟨by rfl, ?_⟩) ?_
          rotate_left
          · intro Z; go_simp; try with_reducible rfl
          simp only [Act.put, List.setIfInBounds_toArray, List.set_cons_zero, List.set_cons_succ]
          refine wpAny_take (i := 13) (oi := { dst := some 80, op := Go.Op.move (Go.Operand.tmp 9), type := 4, pos := "law.go:69", after := #[{ on := 12, ground := Go.Ground.guard }], guard := some (12, false) }) (v := ?_) rfl (by kernel_rfl) (by kernel_rfl) (by kernel_rfl) (fun _ _ _ h => h) (Or.inl ⟨by rfl, ?_⟩) ?_
          rotate_left
          · intro Z; go_simp; try with_reducible rfl
          simp only [Act.put, List.setIfInBounds_toArray, List.set_cons_zero, List.set_cons_succ]
          refine wpAny_take (i := 14) (oi := { dst := some 81, op := Go.Op.move (Go.Operand.tmp 80), type := 4, pos := "law.go:69", after := #[{ on := 13, ground := Go.Ground.data }, { on := 12, ground := Go.Ground.chain }, { on := 12, ground := Go.Ground.guard }], guard := some (12, false) }) (v := ?_) rfl (by kernel_rfl) (by kernel_rfl) (by kernel_rfl) (fun _ _ _ h => h) (Or.inl ⟨by rfl, ?_⟩) ?_
          rotate_left
          · intro Z; go_simp; try with_reducible rfl
          simp only [Act.put, List.setIfInBounds_toArray, List.set_cons_zero, List.set_cons_succ]
          refine wpAny_take (i := 15) (oi := { dst := some 82, op := Go.Op.load 40 (Go.Operand.tmp 8), type := 40, pos := "law.go:69", after := #[{ on := 14, ground := Go.Ground.guard }], guard := some (14, true) }) (v := undef) rfl (by kernel_rfl) (by kernel_rfl) (by kernel_rfl) (fun _ _ _ h => h) (Or.inr ⟨by rfl, rfl⟩) ?_
          simp only [Act.put, List.setIfInBounds_toArray, List.set_cons_zero, List.set_cons_succ]
          refine wpAny_take (i := 16) (oi := { dst := some 83, op := Go.Op.move (Go.Operand.tmp 4), type := 26, pos := "law.go:69", after := #[{ on := 14, ground := Go.Ground.guard }], guard := some (14, true) }) (v := undef) rfl (by kernel_rfl) (by kernel_rfl) (by kernel_rfl) (fun _ _ _ h => h) (Or.inr ⟨by rfl, rfl⟩) ?_
          simp only [Act.put, List.setIfInBounds_toArray, List.set_cons_zero, List.set_cons_succ]
          refine wpAny_take (i := 17) (oi := { dst := some 84, op := Go.Op.move (Go.Operand.tmp 4), type := 26, pos := "law.go:69", after := #[{ on := 14, ground := Go.Ground.guard }], guard := some (14, true) }) (v := undef) rfl (by kernel_rfl) (by kernel_rfl) (by kernel_rfl) (fun _ _ _ h => h) (Or.inr ⟨by rfl, rfl⟩) ?_
          simp only [Act.put, List.setIfInBounds_toArray, List.set_cons_zero, List.set_cons_succ]
          refine wpAny_take (i := 18) (oi := { dst := some 85, op := Go.Op.call { callee := Go.Callee.builtin Go.Builtin.len, args := #[Go.Operand.tmp 84], argTypes := #[26] }, type := 3, pos := "law.go:69", after := #[{ on := 17, ground := Go.Ground.data }, { on := 14, ground := Go.Ground.guard }], guard := some (14, true) }) (v := undef) rfl (by kernel_rfl) (by kernel_rfl) (by kernel_rfl) (fun _ _ _ h => h) (Or.inr ⟨by rfl, rfl⟩) ?_
          simp only [Act.put, List.setIfInBounds_toArray, List.set_cons_zero, List.set_cons_succ]
          refine wpAny_take (i := 19) (oi := { dst := some 86, op := Go.Op.binOp Go.BinOp.sub 3 (Go.Operand.tmp 85) (Go.Operand.const (Go.Value.int Go.IntKind.i64 1)) 3, type := 3, pos := "law.go:69", after := #[{ on := 18, ground := Go.Ground.data }, { on := 14, ground := Go.Ground.guard }], guard := some (14, true) }) (v := undef) rfl (by kernel_rfl) (by kernel_rfl) (by kernel_rfl) (fun _ _ _ h => h) (Or.inr ⟨by rfl, rfl⟩) ?_
          simp only [Act.put, List.setIfInBounds_toArray, List.set_cons_zero, List.set_cons_succ]
          refine wpAny_take (i := 20) (oi := { dst := some 87, op := Go.Op.indexAddr 26 (Go.Operand.tmp 83) (Go.Operand.tmp 86), type := 0, pos := "law.go:69", after := #[{ on := 16, ground := Go.Ground.data }, { on := 19, ground := Go.Ground.data }, { on := 14, ground := Go.Ground.guard }], guard := some (14, true) }) (v := undef) rfl (by kernel_rfl) (by kernel_rfl) (by kernel_rfl) (fun _ _ _ h => h) (Or.inr ⟨by rfl, rfl⟩) ?_
          simp only [Act.put, List.setIfInBounds_toArray, List.set_cons_zero, List.set_cons_succ]
          refine wpAny_take (i := 21) (oi := { dst := some 88, op := Go.Op.load 47 (Go.Operand.tmp 87), type := 47, pos := "law.go:69", after := #[{ on := 20, ground := Go.Ground.data }, { on := 14, ground := Go.Ground.guard }], guard := some (14, true) }) (v := undef) rfl (by kernel_rfl) (by kernel_rfl) (by kernel_rfl) (fun _ _ _ h => h) (Or.inr ⟨by rfl, rfl⟩) ?_
          simp only [Act.put, List.setIfInBounds_toArray, List.set_cons_zero, List.set_cons_succ]
          refine wpAny_take (i := 22) (oi := { dst := some 89, op := Go.Op.call { callee := Go.Callee.value (Go.Operand.func 14), args := #[Go.Operand.tmp 82, Go.Operand.tmp 88], argTypes := #[40, 47] }, type := 4, pos := "law.go:69", after := #[{ on := 15, ground := Go.Ground.data }, { on := 21, ground := Go.Ground.data }, { on := 14, ground := Go.Ground.chain }, { on := 14, ground := Go.Ground.guard }], guard := some (14, true) }) (v := undef) rfl (by kernel_rfl) (by kernel_rfl) (by kernel_rfl) (fun _ _ _ h => h) (Or.inr ⟨by rfl, rfl⟩) ?_
          simp only [Act.put, List.setIfInBounds_toArray, List.set_cons_zero, List.set_cons_succ]
          refine wpAny_take (i := 23) (oi := { dst := some 90, op := Go.Op.unOp Go.UnOp.not 4 (Go.Operand.tmp 89), type := 4, pos := "law.go:69", after := #[{ on := 22, ground := Go.Ground.data }, { on := 14, ground := Go.Ground.guard }], guard := some (14, true) }) (v := undef) rfl (by kernel_rfl) (by kernel_rfl) (by kernel_rfl) (fun _ _ _ h => h) (Or.inr ⟨by rfl, rfl⟩) ?_
          simp only [Act.put, List.setIfInBounds_toArray, List.set_cons_zero, List.set_cons_succ]
          refine wpAny_take (i := 24) (oi := { dst := some 91, op := Go.Op.pick (Go.Operand.tmp 81) (Go.Operand.tmp 90) (Go.Operand.const (Go.Value.bool false)), type := 4, pos := "law.go:69", after := #[{ on := 14, ground := Go.Ground.data }, { on := 23, ground := Go.Ground.data }, { on := 12, ground := Go.Ground.guard }], guard := some (12, false) }) (v := ?_) rfl (by kernel_rfl) (by kernel_rfl) (by kernel_rfl) (fun _ _ _ h => h) (Or.inl ⟨by rfl, ?_⟩) ?_
          rotate_left
          · intro Z; go_simp; try with_reducible rfl
          simp only [Act.put, List.setIfInBounds_toArray, List.set_cons_zero, List.set_cons_succ]
          refine wpAny_take (i := 25) (oi := { dst := some 92, op := Go.Op.pick (Go.Operand.tmp 79) (Go.Operand.const (Go.Value.bool true)) (Go.Operand.tmp 91), type := 4, pos := "law.go:69", after := #[{ on := 12, ground := Go.Ground.data }, { on := 24, ground := Go.Ground.data }], guard := none }) (v := ?_) rfl (by kernel_rfl) (by kernel_rfl) (by kernel_rfl) (fun _ _ _ h => h) (Or.inl ⟨by rfl, ?_⟩) ?_
          rotate_left
          · intro Z; go_simp; try with_reducible rfl
          simp only [Act.put, List.setIfInBounds_toArray, List.set_cons_zero, List.set_cons_succ]
          refine wpAny_done (by kernel_rfl) ?_ _
          clear CL hb6 c1
          go_wp2_with fail
          go_roundw
          case rel => exact ⟨k + 1, by omega, by omega, by go_num, Ar, 0, cr, rfl, ⟨_, _, _, _, HF.out _ hB6⟩⟩
          case measure => simp [intOf]; omega
        · have d0 : decide ((0 : Int) < (N : Int) + 1) = true := by simp
          go_wp2_with fail
          (with_reducible refine CT.out.mono ?_)
          rintro e w3 ⟨Eg, mg, dg, xg, okg, rfl, hb3, hor⟩
          obtain ⟨T, a, hSa, hTN⟩ := HE.out
          have hga : okg = true ∧ GrIs w3 ⟨Eg, mg, dg, xg⟩ a := by
            rcases hor with ⟨h, _⟩ | ⟨T', a', h, h2, h3⟩
            · rw [hSa] at h
              simp at h
            · rw [hSa] at h
              have := (List.append_inj' h rfl).2
              injection this with e1 _
              subst e1
              exact ⟨h2, h3⟩
          obtain ⟨rfl, hG⟩ := hga
          have hget : S'[N]? = some a := by rw [hSa, ← hTN]; simp
          have hma := (HA.out.light a (by rw [hSa]; simp)).2
          have hka := HA.out.len
          have HG := Lib.hid (And.intro hG (And.intro hget (And.intro hSa (And.intro hTN (show a.eds.length ≤ 1000 by omega)))))
          obtain ⟨br, or_, Er, mr, dr, rfl, hbr, r0, r1, hEr⟩ := (HA.out.ref.later hb3).at_ hget
          have HR := Lib.hid (And.intro hEr hbr)
          have HX := Lib.hid (show ∀ X, Below w3.heap.size w3 X → X.cell? ⟨w.heap.size, 0, none⟩ = some (.slice A7 n7 c7) ∧ Stk X (.slice A7 n7 c7) S' ∧ Below wc.heap.size wc X ∧ X.cell? ⟨br, or_ + N * 2, none⟩ = some (.slice Er mr dr) ∧ X.cell? ⟨br, or_ + N * 2 + 1, none⟩ = some (.int .i64 a.cur) from fun X hX => ⟨(HA.out.sv.blk.later (belowStep hb3 hX) HA.out.sv.blk.1).2.1 0, HA.out.sv.st.later (belowStep hb3 hX), belowStep hb3 hX, (hX.cell (p := ⟨br, or_ + N * 2, none⟩) hbr).trans r0, (hX.cell (p := ⟨br, or_ + N * 2 + 1, none⟩) hbr).trans r1⟩)
          clear hb3 hor CT y2 k2 j2 hG hget hSa hTN hma hka hbr r0 r1 hEr HE
          go_upto_region 15 with fail
          refine at_world (fun X => Below w3.heap.size w3 X ∧ Blk X w3.heap.size #[.slice Eg mg dg, .int .i64 xg]) ⟨(by repeat' (first | assumption | exact Below.refl _ _ | refine belPush ?_ _ | refine Below.drew ?_ | refine belDrew ?_ _ | refine Below.setCell ?_ (by simp) _)), blk_new _ _ _⟩ ?_
          rintro w5 ⟨hw5, hg5⟩
          have CL := Lib.hid (show ∀ X, Below w5.heap.size w5 X → Calls Try.prog 13 #[.agg #[.slice A7 n7 c7]] X (fun e w' => e = .returned (.int .i64 ((N : Int) + 1)) ∧ Below X.heap.size X w') from fun X hX => by
            have := len_is _ S' X (HX.out _ (belowStep hw5 hX)).2.1
            rw [HG.out.2.2.1, List.length_append, HG.out.2.2.2.1] at this
            exact this)
          have CG := Lib.hid (show ∀ X, Below w5.heap.size w5 X → Calls Try.prog 14 #[.agg #[.slice Eg mg dg, .int .i64 xg], .agg #[.slice Er mr dr, .int .i64 a.cur]] X (Yes X) from fun X hX =>
            sg_is Eg mg dg xg Er mr dr a.cur a X (HG.out.1.later (belowStep hw5 hX)) ⟨rfl, HR.out.1.later (belowStep hw5 hX)⟩ HG.out.2.2.2.2)
          have HF := Lib.hid (show ∀ X, Below w5.heap.size w5 X → AI w A7 n7 c7 (.slice (some ⟨br, or_, none⟩) (N + 1) cr) S' (k + 1) X from fun X hX => HA.out.later (HX.out _ (belowStep hw5 hX)).2.2.1)
          have HC := Lib.hid (show ∀ X, Below w5.heap.size w5 X → X.cell? ⟨w.heap.size, 0, none⟩ = some (.slice A7 n7 c7) ∧ X.cell? ⟨w3.heap.size, 0, none⟩ = some (.slice Eg mg dg) ∧ X.cell? ⟨w3.heap.size, 1, none⟩ = some (.int .i64 xg) ∧ X.cell? ⟨br, or_ + N * 2, none⟩ = some (.slice Er mr dr) ∧ X.cell? ⟨br, or_ + N * 2 + 1, none⟩ = some (.int .i64 a.cur) from fun X hX =>
            ⟨(HX.out _ (belowStep hw5 hX)).1, (hg5.later hX hg5.1).2.1 0, (hg5.later hX hg5.1).2.1 1, (HX.out _ (belowStep hw5 hX)).2.2.2.1, (HX.out _ (belowStep hw5 hX)).2.2.2.2⟩)
          clear hw5 hg5 HX
          have hDr := (Below.refl w5.heap.size w5).drew
          obtain ⟨p0, p1, p2, p3, p4⟩ := HC.out _ hDr
          have e3 : IntKind.i64.wrap (N : Int) = (N : Int) := IntWalk.i64_in _ (by omega)
          have e4 : (0 : Int) ≤ (N : Int) := by omega
          have e5 : (N : Int) < (N : Int) + 1 := by omega
          refine wp_region_any (by kernel_rfl) ?_
          change wpAny _ _ _ _ _ _ _ (World.drew _)
          refine wpAny_take (i := 2) (oi := { dst := some 69, op := Go.Op.move (Go.Operand.tmp 4), type := 26, pos := "law.go:69", after := #[], guard := none }) (v := ?_) rfl (by kernel_rfl) (by kernel_rfl) (by kernel_rfl) (fun _ _ _ h => h) (Or.inl ⟨by rfl, ?_⟩) ?_
          rotate_left
          · intro Z; go_simp; try with_reducible rfl
          simp only [Act.put, List.setIfInBounds_toArray, List.set_cons_zero, List.set_cons_succ]
          refine wpAny_take (i := 3) (oi := { dst := some 70, op := Go.Op.call { callee := Go.Callee.builtin Go.Builtin.len, args := #[Go.Operand.tmp 69], argTypes := #[26] }, type := 3, pos := "law.go:69", after := #[{ on := 2, ground := Go.Ground.data }], guard := none }) (v := ?_) rfl (by kernel_rfl) (by kernel_rfl) (by kernel_rfl) (fun _ _ _ h => h) (Or.inl ⟨by rfl, ?_⟩) ?_
          rotate_left
          · intro Z; go_simp; try with_reducible rfl
          simp only [Act.put, List.setIfInBounds_toArray, List.set_cons_zero, List.set_cons_succ]
          refine wpAny_ready (rs := [0]) (by kernel_rfl) (by simp) ?_
          refine AllReady.cons (o := { dst := some 67, op := Go.Op.load 25 (Go.Operand.tmp 3), type := 25, pos := "law.go:69", after := #[], guard := none }) rfl (fun K hK => ?_) AllReady.nil
          go_simp; refine hK _ _ ?_; clear hK K
          refine wpAny_ready (rs := [1]) (by kernel_rfl) (by simp) ?_
          refine AllReady.cons (o := { dst := some 68, op := Go.Op.call { callee := Go.Callee.value (Go.Operand.func 13), args := #[Go.Operand.tmp 67], argTypes := #[25] }, type := 3, pos := "law.go:69", after := #[{ on := 0, ground := Go.Ground.data }], guard := none }) rfl (fun K hK => ?_) AllReady.nil
          rw [if_pos (by rfl)]; go_simp; (first | (go_at_call 13; (with_reducible refine (CL.out _ hDr).mono ?_); rintro e w6 ⟨rfl, hb6⟩; have hB6 := belowStep (W := w5) hDr hb6; obtain ⟨g0, g1, g2, g3, g4⟩ := HC.out _ hB6) | (go_at_call 14; (with_reducible refine (CG.out _ hB6).mono ?_); rintro e w7 ⟨rfl, hb7⟩; have hB7 := belowStep (W := w5) hB6 hb7)); dsimp only; refine hK _ _ ?_; clear hK K
          refine wpAny_take (i := 4) (oi := { dst := some 71, op := Go.Op.binOp Go.BinOp.neq 3 (Go.Operand.tmp 68) (Go.Operand.tmp 70) 3, type := 4, pos := "law.go:69", after := #[{ on := 1, ground := Go.Ground.data }, { on := 3, ground := Go.Ground.data }], guard := none }) (v := ?_) rfl (by kernel_rfl) (by kernel_rfl) (by kernel_rfl) (fun _ _ _ h => h) (Or.inl ⟨by rfl, ?_⟩) ?_
          rotate_left
          · intro Z; go_simp; try with_reducible rfl
          simp only [Act.put, List.setIfInBounds_toArray, List.set_cons_zero, List.set_cons_succ]
          refine wpAny_take (i := 5) (oi := { dst := some 72, op := Go.Op.move (Go.Operand.tmp 71), type := 4, pos := "law.go:69", after := #[{ on := 4, ground := Go.Ground.data }, { on := 1, ground := Go.Ground.chain }], guard := none }) (v := ?_) rfl (by kernel_rfl) (by kernel_rfl) (by kernel_rfl) (fun _ _ _ h => h) (Or.inl ⟨by rfl, ?_⟩) ?_
          rotate_left
          · intro Z; go_simp; try with_reducible rfl
          simp only [Act.put, List.setIfInBounds_toArray, List.set_cons_zero, List.set_cons_succ]
          refine wpAny_take (i := 6) (oi := { dst := some 73, op := Go.Op.move (Go.Operand.tmp 9), type := 4, pos := "law.go:69", after := #[{ on := 5, ground := Go.Ground.guard }], guard := some (5, false) }) (v := ?_) rfl (by kernel_rfl) (by kernel_rfl) (by kernel_rfl) (fun _ _ _ h => h) (Or.inl ⟨by rfl, ?_⟩) ?_
          rotate_left
          · intro Z; go_simp; try with_reducible rfl
          simp only [Act.put, List.setIfInBounds_toArray, List.set_cons_zero, List.set_cons_succ]
          refine wpAny_take (i := 7) (oi := { dst := some 74, op := Go.Op.move (Go.Operand.tmp 4), type := 26, pos := "law.go:69", after := #[{ on := 5, ground := Go.Ground.guard }], guard := some (5, false) }) (v := ?_) rfl (by kernel_rfl) (by kernel_rfl) (by kernel_rfl) (fun _ _ _ h => h) (Or.inl ⟨by rfl, ?_⟩) ?_
          rotate_left
          · intro Z; go_simp; try with_reducible rfl
          simp only [Act.put, List.setIfInBounds_toArray, List.set_cons_zero, List.set_cons_succ]
          refine wpAny_take (i := 8) (oi := { dst := some 75, op := Go.Op.call { callee := Go.Callee.builtin Go.Builtin.len, args := #[Go.Operand.tmp 74], argTypes := #[26] }, type := 3, pos := "law.go:69", after := #[{ on := 7, ground := Go.Ground.data }, { on := 5, ground := Go.Ground.guard }], guard := some (5, false) }) (v := ?_) rfl (by kernel_rfl) (by kernel_rfl) (by kernel_rfl) (fun _ _ _ h => h) (Or.inl ⟨by rfl, ?_⟩) ?_
          rotate_left
          · intro Z; go_simp; try with_reducible rfl
          simp only [Act.put, List.setIfInBounds_toArray, List.set_cons_zero, List.set_cons_succ]
          refine wpAny_take (i := 9) (oi := { dst := some 76, op := Go.Op.binOp Go.BinOp.gtr 3 (Go.Operand.tmp 75) (Go.Operand.const (Go.Value.int Go.IntKind.i64 0)) 3, type := 4, pos := "law.go:69", after := #[{ on := 8, ground := Go.Ground.data }, { on := 5, ground := Go.Ground.guard }], guard := some (5, false) }) (v := ?_) rfl (by kernel_rfl) (by kernel_rfl) (by kernel_rfl) (fun _ _ _ h => h) (Or.inl ⟨by rfl, ?_⟩) ?_
          rotate_left
          · intro Z; go_simp; try with_reducible rfl
          simp only [Act.put, List.setIfInBounds_toArray, List.set_cons_zero, List.set_cons_succ]
          refine wpAny_take (i := 10) (oi := { dst := some 77, op := Go.Op.binOp Go.BinOp.neq 4 (Go.Operand.tmp 73) (Go.Operand.tmp 76) 4, type := 4, pos := "law.go:69", after := #[{ on := 6, ground := Go.Ground.data }, { on := 9, ground := Go.Ground.data }, { on := 5, ground := Go.Ground.guard }], guard := some (5, false) }) (v := ?_) rfl (by kernel_rfl) (by kernel_rfl) (by kernel_rfl) (fun _ _ _ h => h) (Or.inl ⟨by rfl, ?_⟩) ?_
          rotate_left
          · intro Z; go_simp; try with_reducible rfl
          simp only [Act.put, List.setIfInBounds_toArray, List.set_cons_zero, List.set_cons_succ]
          refine wpAny_take (i := 11) (oi := { dst := some 78, op := Go.Op.pick (Go.Operand.tmp 72) (Go.Operand.const (Go.Value.bool true)) (Go.Operand.tmp 77), type := 4, pos := "law.go:69", after := #[{ on := 5, ground := Go.Ground.data }, { on := 10, ground := Go.Ground.data }], guard := none }) (v := ?_) rfl (by kernel_rfl) (by kernel_rfl) (by kernel_rfl) (fun _ _ _ h => h) (Or.inl ⟨by rfl, ?_⟩) ?_
          rotate_left
          · intro Z; go_simp; try with_reducible rfl
          simp only [Act.put, List.setIfInBounds_toArray, List.set_cons_zero, List.set_cons_succ]
          refine wpAny_take (i := 12) (oi := { dst := some 79, op := Go.Op.move (Go.Operand.tmp 78), type := 4, pos := "law.go:69", after := #[{ on := 11, ground := Go.Ground.data }, { on := 5, ground := Go.Ground.chain }], guard := none }) (v := ?_) rfl (by kernel_rfl) (by kernel_rfl) (by kernel_rfl) (fun _ _ _ h => h) (Or.inl ⟨by rfl, ?_⟩) ?_
          rotate_left
          · intro Z; go_simp; try with_reducible rfl
          simp only [Act.put, List.setIfInBounds_toArray, List.set_cons_zero, List.set_cons_succ]
          refine wpAny_take (i := 13) (oi := { dst := some 80, op := Go.Op.move (Go.Operand.tmp 9), type := 4, pos := "law.go:69", after := #[{ on := 12, ground := Go.Ground.guard }], guard := some (12, false) }) (v := ?_) rfl (by kernel_rfl) (by kernel_rfl) (by kernel_rfl) (fun _ _ _ h => h) (Or.inl ⟨by rfl, ?_⟩) ?_
          rotate_left
          · intro Z; go_simp; try with_reducible rfl
          simp only [Act.put, List.setIfInBounds_toArray, List.set_cons_zero, List.set_cons_succ]
          refine wpAny_take (i := 14) (oi := { dst := some 81, op := Go.Op.move (Go.Operand.tmp 80), type := 4, pos := "law.go:69", after := #[{ on := 13, ground := Go.Ground.data }, { on := 12, ground := Go.Ground.chain }, { on := 12, ground := Go.Ground.guard }], guard := some (12, false) }) (v := ?_) rfl (by kernel_rfl) (by kernel_rfl) (by kernel_rfl) (fun _ _ _ h => h) (Or.inl ⟨by rfl, ?_⟩) ?_
          rotate_left
          · intro Z; go_simp; try with_reducible rfl
          simp only [Act.put, List.setIfInBounds_toArray, List.set_cons_zero, List.set_cons_succ]
          refine wpAny_take (i := 16) (oi := { dst := some 83, op := Go.Op.move (Go.Operand.tmp 4), type := 26, pos := "law.go:69", after := #[{ on := 14, ground := Go.Ground.guard }], guard := some (14, true) }) (v := ?_) rfl (by kernel_rfl) (by kernel_rfl) (by kernel_rfl) (fun _ _ _ h => h) (Or.inl ⟨by rfl, ?_⟩) ?_
          rotate_left
          · intro Z; go_simp; try with_reducible rfl
          simp only [Act.put, List.setIfInBounds_toArray, List.set_cons_zero, List.set_cons_succ]
          refine wpAny_take (i := 17) (oi := { dst := some 84, op := Go.Op.move (Go.Operand.tmp 4), type := 26, pos := "law.go:69", after := #[{ on := 14, ground := Go.Ground.guard }], guard := some (14, true) }) (v := ?_) rfl (by kernel_rfl) (by kernel_rfl) (by kernel_rfl) (fun _ _ _ h => h) (Or.inl ⟨by rfl, ?_⟩) ?_
          rotate_left
          · intro Z; go_simp; try with_reducible rfl
          simp only [Act.put, List.setIfInBounds_toArray, List.set_cons_zero, List.set_cons_succ]
          refine wpAny_take (i := 18) (oi := { dst := some 85, op := Go.Op.call { callee := Go.Callee.builtin Go.Builtin.len, args := #[Go.Operand.tmp 84], argTypes := #[26] }, type := 3, pos := "law.go:69", after := #[{ on := 17, ground := Go.Ground.data }, { on := 14, ground := Go.Ground.guard }], guard := some (14, true) }) (v := ?_) rfl (by kernel_rfl) (by kernel_rfl) (by kernel_rfl) (fun _ _ _ h => h) (Or.inl ⟨by rfl, ?_⟩) ?_
          rotate_left
          · intro Z; go_simp; try with_reducible rfl
          simp only [Act.put, List.setIfInBounds_toArray, List.set_cons_zero, List.set_cons_succ]
          refine wpAny_take (i := 19) (oi := { dst := some 86, op := Go.Op.binOp Go.BinOp.sub 3 (Go.Operand.tmp 85) (Go.Operand.const (Go.Value.int Go.IntKind.i64 1)) 3, type := 3, pos := "law.go:69", after := #[{ on := 18, ground := Go.Ground.data }, { on := 14, ground := Go.Ground.guard }], guard := some (14, true) }) (v := ?_) rfl (by kernel_rfl) (by kernel_rfl) (by kernel_rfl) (fun _ _ _ h => h) (Or.inl ⟨by rfl, ?_⟩) ?_
          rotate_left
          · intro Z; go_simp; try with_reducible rfl
          simp only [Act.put, List.setIfInBounds_toArray, List.set_cons_zero, List.set_cons_succ]
          refine wpAny_take (i := 20) (oi := { dst := some 87, op := Go.Op.indexAddr 26 (Go.Operand.tmp 83) (Go.Operand.tmp 86), type := 0, pos := "law.go:69", after := #[{ on := 16, ground := Go.Ground.data }, { on := 19, ground := Go.Ground.data }, { on := 14, ground := Go.Ground.guard }], guard := some (14, true) }) (v := ?_) rfl (by kernel_rfl) (by kernel_rfl) (by kernel_rfl) (fun _ _ _ h => h) (Or.inl ⟨by rfl, ?_⟩) ?_
          rotate_left
          · intro Z; go_simp; try with_reducible rfl
          simp only [Act.put, List.setIfInBounds_toArray, List.set_cons_zero, List.set_cons_succ]
          refine wpAny_ready (rs := [15, 21]) (by kernel_rfl) (by simp) ?_
          refine AllReady.cons (o := { dst := some 82, op := Go.Op.load 40 (Go.Operand.tmp 8), type := 40, pos := "law.go:69", after := #[{ on := 14, ground := Go.Ground.guard }], guard := some (14, true) }) rfl (fun K hK => ?_) (AllReady.cons (o := { dst := some 88, op := Go.Op.load 47 (Go.Operand.tmp 87), type := 47, pos := "law.go:69", after := #[{ on := 20, ground := Go.Ground.data }, { on := 14, ground := Go.Ground.guard }], guard := some (14, true) }) rfl (fun K hK => ?_) AllReady.nil)
          · go_simp; refine hK _ _ ?_; clear hK K
            refine wpAny_ready (rs := [21]) (by kernel_rfl) (by simp) ?_
            refine AllReady.cons (o := { dst := some 88, op := Go.Op.load 47 (Go.Operand.tmp 87), type := 47, pos := "law.go:69", after := #[{ on := 20, ground := Go.Ground.data }, { on := 14, ground := Go.Ground.guard }], guard := some (14, true) }) rfl (fun K hK => ?_) AllReady.nil
            go_simp; refine hK _ _ ?_; clear hK K
            refine wpAny_ready (rs := [22]) (by kernel_rfl) (by simp) ?_
            refine AllReady.cons (o := { dst := some 89, op := Go.Op.call { callee := Go.Callee.value (Go.Operand.func 14), args := #[Go.Operand.tmp 82, Go.Operand.tmp 88], argTypes := #[40, 47] }, type := 4, pos := "law.go:69", after := #[{ on := 15, ground := Go.Ground.data }, { on := 21, ground := Go.Ground.data }, { on := 14, ground := Go.Ground.chain }, { on := 14, ground := Go.Ground.guard }], guard := some (14, true) }) rfl (fun K hK => ?_) AllReady.nil
            rw [if_pos (by rfl)]; go_simp; (first | (go_at_call 13; (with_reducible refine (CL.out _ hDr).mono ?_); rintro e w6 ⟨rfl, hb6⟩; have hB6 := belowStep (W := w5) hDr hb6; obtain ⟨g0, g1, g2, g3, g4⟩ := HC.out _ hB6) | (go_at_call 14; (with_reducible refine (CG.out _ hB6).mono ?_); rintro e w7 ⟨rfl, hb7⟩; have hB7 := belowStep (W := w5) hB6 hb7)); dsimp only; refine hK _ _ ?_; clear hK K
            refine wpAny_take (i := 23) (oi := { dst := some 90, op := Go.Op.unOp Go.UnOp.not 4 (Go.Operand.tmp 89), type := 4, pos := "law.go:69", after := #[{ on := 22, ground := Go.Ground.data }, { on := 14, ground := Go.Ground.guard }], guard := some (14, true) }) (v := ?_) rfl (by kernel_rfl) (by kernel_rfl) (by kernel_rfl) (fun _ _ _ h => h) (Or.inl ⟨by rfl, ?_⟩) ?_
            rotate_left
            · intro Z; go_simp; try with_reducible rfl
            simp only [Act.put, List.setIfInBounds_toArray, List.set_cons_zero, List.set_cons_succ]
            refine wpAny_take (i := 24) (oi := { dst := some 91, op := Go.Op.pick (Go.Operand.tmp 81) (Go.Operand.tmp 90) (Go.Operand.const (Go.Value.bool false)), type := 4, pos := "law.go:69", after := #[{ on := 14, ground := Go.Ground.data }, { on := 23, ground := Go.Ground.data }, { on := 12, ground := Go.Ground.guard }], guard := some (12, false) }) (v := ?_) rfl (by kernel_rfl) (by kernel_rfl) (by kernel_rfl) (fun _ _ _ h => h) (Or.inl ⟨by rfl, ?_⟩) ?_
            rotate_left
            · intro Z; go_simp; try with_reducible rfl
            simp only [Act.put, List.setIfInBounds_toArray, List.set_cons_zero, List.set_cons_succ]
            refine wpAny_take (i := 25) (oi := { dst := some 92, op := Go.Op.pick (Go.Operand.tmp 79) (Go.Operand.const (Go.Value.bool true)) (Go.Operand.tmp 91), type := 4, pos := "law.go:69", after := #[{ on := 12, ground := Go.Ground.data }, { on := 24, ground := Go.Ground.data }], guard := none }) (v := ?_) rfl (by kernel_rfl) (by kernel_rfl) (by kernel_rfl) (fun _ _ _ h => h) (Or.inl ⟨by rfl, ?_⟩) ?_
            rotate_left
            · intro Z; go_simp; try with_reducible rfl
            simp only [Act.put, List.setIfInBounds_toArray, List.set_cons_zero, List.set_cons_succ]
            refine wpAny_done (by kernel_rfl) ?_ _
            have HZ := Lib.hid (HF.out _ hB7)
            clear CL CG hb6 hb7 hB7 p0 p1 p2 p3 p4 g0 g1 g2 g3 g4 HC e3
            go_wp2_with fail
            go_roundw
            case rel => exact ⟨k + 1, by omega, by omega, by go_num, _, _, cr, rfl, ⟨_, _, _, _, HZ.out⟩⟩
            case measure => simp [intOf]; omega
          · go_simp; refine hK _ _ ?_; clear hK K
            refine wpAny_ready (rs := [15]) (by kernel_rfl) (by simp) ?_
            refine AllReady.cons (o := { dst := some 82, op := Go.Op.load 40 (Go.Operand.tmp 8), type := 40, pos := "law.go:69", after := #[{ on := 14, ground := Go.Ground.guard }], guard := some (14, true) }) rfl (fun K hK => ?_) AllReady.nil
            go_simp; refine hK _ _ ?_; clear hK K
            refine wpAny_ready (rs := [22]) (by kernel_rfl) (by simp) ?_
            refine AllReady.cons (o := { dst := some 89, op := Go.Op.call { callee := Go.Callee.value (Go.Operand.func 14), args := #[Go.Operand.tmp 82, Go.Operand.tmp 88], argTypes := #[40, 47] }, type := 4, pos := "law.go:69", after := #[{ on := 15, ground := Go.Ground.data }, { on := 21, ground := Go.Ground.data }, { on := 14, ground := Go.Ground.chain }, { on := 14, ground := Go.Ground.guard }], guard := some (14, true) }) rfl (fun K hK => ?_) AllReady.nil
            rw [if_pos (by rfl)]; go_simp; (first | (go_at_call 13; (with_reducible refine (CL.out _ hDr).mono ?_); rintro e w6 ⟨rfl, hb6⟩; have hB6 := belowStep (W := w5) hDr hb6; obtain ⟨g0, g1, g2, g3, g4⟩ := HC.out _ hB6) | (go_at_call 14; (with_reducible refine (CG.out _ hB6).mono ?_); rintro e w7 ⟨rfl, hb7⟩; have hB7 := belowStep (W := w5) hB6 hb7)); dsimp only; refine hK _ _ ?_; clear hK K
            refine wpAny_take (i := 23) (oi := { dst := some 90, op := Go.Op.unOp Go.UnOp.not 4 (Go.Operand.tmp 89), type := 4, pos := "law.go:69", after := #[{ on := 22, ground := Go.Ground.data }, { on := 14, ground := Go.Ground.guard }], guard := some (14, true) }) (v := ?_) rfl (by kernel_rfl) (by kernel_rfl) (by kernel_rfl) (fun _ _ _ h => h) (Or.inl ⟨by rfl, ?_⟩) ?_
            rotate_left
            · intro Z; go_simp; try with_reducible rfl
            simp only [Act.put, List.setIfInBounds_toArray, List.set_cons_zero, List.set_cons_succ]
            refine wpAny_take (i := 24) (oi := { dst := some 91, op := Go.Op.pick (Go.Operand.tmp 81) (Go.Operand.tmp 90) (Go.Operand.const (Go.Value.bool false)), type := 4, pos := "law.go:69", after := #[{ on := 14, ground := Go.Ground.data }, { on := 23, ground := Go.Ground.data }, { on := 12, ground := Go.Ground.guard }], guard := some (12, false) }) (v := ?_) rfl (by kernel_rfl) (by kernel_rfl) (by kernel_rfl) (fun _ _ _ h => h) (Or.inl ⟨by rfl, ?_⟩) ?_
            rotate_left
            · intro Z; go_simp; try with_reducible rfl
            simp only [Act.put, List.setIfInBounds_toArray, List.set_cons_zero, List.set_cons_succ]
            refine wpAny_take (i := 25) (oi := { dst := some 92, op := Go.Op.pick (Go.Operand.tmp 79) (Go.Operand.const (Go.Value.bool true)) (Go.Operand.tmp 91), type := 4, pos := "law.go:69", after := #[{ on := 12, ground := Go.Ground.data }, { on := 24, ground := Go.Ground.data }], guard := none }) (v := ?_) rfl (by kernel_rfl) (by kernel_rfl) (by kernel_rfl) (fun _ _ _ h => h) (Or.inl ⟨by rfl, ?_⟩) ?_
            rotate_left
            · intro Z; go_simp; try with_reducible rfl
            simp only [Act.put, List.setIfInBounds_toArray, List.set_cons_zero, List.set_cons_succ]
            refine wpAny_done (by kernel_rfl) ?_ _
            have HZ := Lib.hid (HF.out _ hB7)
            clear CL CG hb6 hb7 hB7 p0 p1 p2 p3 p4 g0 g1 g2 g3 g4 HC e3
            go_wp2_with fail
            go_roundw
            case rel => exact ⟨k + 1, by omega, by omega, by go_num, _, _, cr, rfl, ⟨_, _, _, _, HZ.out⟩⟩
            case measure => simp [intOf]; omega
    · have hx : n ≤ k ∨ (k < n ∧ 100 ≤ k) := by omega
      clear hlt
      rcases hx with hx | ⟨hx, hx2⟩
      all_goals
        go_wp2_with fail
        (with_reducible refine (awake_yes _).mono ?_)
        rintro e w6 ⟨rfl, hb6⟩
        have H6 := Lib.hid (belowStep HV.out.sv.below hb6)
        clear hb6
        go_wp2
        go_ret
        exact ⟨rfl, H6.out⟩
end Go.Proofs.Ytfmpldgeldocnaa
