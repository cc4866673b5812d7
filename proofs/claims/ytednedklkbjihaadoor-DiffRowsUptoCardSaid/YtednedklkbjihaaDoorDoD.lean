/- diff: the document's Ops. -/
import Derived.Test.YtednedklkbjihaaDoorDoC
import Derived.Test.YtednedklkbjihaaDoorStepL
import Derived.StillTailTactics
namespace Go.Proofs.YtednedklkbjihaaDoor
open Go.RowKit
set_option linter.unusedVariables false
set_option linter.unusedSimpArgs false
set_option maxRecDepth 100000

theorem opsR_start (w : World) (E : TypeId) (a b : Int) : OpSt w E none 0 0 [] a b ((w.alloc (.cells #[.int .i64 a, .int .i64 b] 24)).alloc (.cells #[.int .i64 0, .int .i64 0] 24)) := by
  refine ⟨World.ownsRow_nil _ _ _ _, (blk_new w _ _).alloc _, ?_, belPush (belAlloc _ _) _⟩
  have := blk_new (w.alloc (.cells #[.int .i64 a, .int .i64 b] 24)) #[.int .i64 0, .int .i64 0] 24
  simpa using this

set_option maxHeartbeats 8000000 in
theorem rops_any (A : Option Addr) (c : Nat) (D : List Dr) (cols a b : Int) (kn : Bool) (w : World) (hD : Li 5 encD w (fun _ => True) A D) (hs : ∀ d ∈ D, Sm d) (hl : D.length ≤ 1000) (hc : D.length ≤ c) (hcm : c ≤ 9223372036854775807) (a0 : 0 ≤ a) (a1 : a ≤ 100000) (b0 : 0 ≤ b) (b1 : b ≤ 100000) :
    Calls Tryd.prog 13 #[.slice A D.length c, .int .i64 cols, .agg #[.int .i64 a, .int .i64 b], .bool kn] w fun e w' => ∃ A n c, e = .returned (.tuple #[.slice A n c, .agg #[.int .i64 (opsS cols ⟨[], a, b, kn⟩ D).a, .int .i64 (opsS cols ⟨[], a, b, kn⟩ D).b], .bool (opsS cols ⟨[], a, b, kn⟩ D).kn]) ∧ LiV 4 encO w' (fun q => w.heap.size ≤ q) (.slice A n c) (opsS cols ⟨[], a, b, kn⟩ D).L ∧ Below w.heap.size w w' := by
  have HD := Lib.hid (And.intro hD hs)
  have V0 := Lib.hid (opsR_start w 49 a b)
  obtain ⟨N, hN⟩ : ∃ N, D.length = N := ⟨_, rfl⟩
  have HN := Lib.hid hN
  rw [hN] at hl hc ⊢
  have S0 := Lib.hid (show SmO ⟨[], a, b, kn⟩ 0 from ⟨a0, a1, b0, b1, Nat.zero_le _⟩)
  clear hD hs hN
  go_enter Tryd.func13, Tryd.ntmps13
  go_upto_region 1 with fail
  refine at_world (OpSt w 49 none 0 0 [] a b) V0.out ?_
  intro X0 hX0
  have V1 := Lib.hid hX0
  clear hX0 V0
  go_wp2_with fail
  go_loopw [3, 11, 12] (fun skn out i wr => ∃ (k : Nat) (Ao : Option Addr) (co : Nat) (s : Os), k ≤ N ∧ i = .int .i64 k ∧ out = .slice Ao s.L.length co ∧ skn = .bool s.kn ∧ Hid (OpSt w 49 Ao s.L.length co s.L s.a s.b wr ∧ SmO s k ∧ s = opsS cols ⟨[], a, b, kn⟩ (D.take k))) (fun _ _ i _ => N - (intOf i).toNat)
  case atStart => exact ⟨0, none, 0, ⟨[], a, b, kn⟩, Nat.zero_le _, rfl, rfl, rfl, V1.out, S0.out, rfl⟩
  case round =>
    obtain ⟨k, Ao, co, s, hk, rfl, rfl, rfl, HK⟩ := hrel
    by_cases hlt : k < N
    · have hkD : k < D.length := by rw [HN.out]; exact hlt
      obtain ⟨d, bb, o, hd, rfl, hbl, c0, c1, c2, c3, c4⟩ := (HD.out.1.later HK.out.1.below).dr hkD
      obtain ⟨d1', d2', d3'⟩ := HD.out.2 d (List.mem_of_getElem? hd)
      have HSn := Lib.hid (opsS_snoc (cols := cols) (s := ⟨[], a, b, kn⟩) hd)
      obtain ⟨s1, s2, s3, s4, s5⟩ := HK.out.2.1
      have HSN := Lib.hid (HK.out.2.1.next (cols := cols) (d := d) ⟨d1', d2', d3'⟩)
      have g1 : (k : Int) < (N : Int) := by omega
      have g2 : (0 : Int) ≤ (k : Int) := by omega
      have HDD := Lib.hid hd
      clear hd hbl
      obtain ⟨L, sa, sb, sk⟩ := s
      obtain ⟨dr, df, dt, dx, de⟩ := d
      dsimp only at *
      obtain ⟨nL, hnL⟩ : ∃ n, L.length = n := ⟨_, rfl⟩
      rw [hnL] at HK s5 ⊢
      have HNL := Lib.hid hnL
      have HE := Lib.hid HK.out.2.2
      have V4 := Lib.hid HK.out.1
      have HR := Lib.hid (show ∀ X, Below w.heap.size w X → X.cell? ⟨bb, o + k * 5, none⟩ = some (.int .i64 dr) ∧ X.cell? ⟨bb, o + k * 5 + 1, none⟩ = some (.int .i64 df) ∧ X.cell? ⟨bb, o + k * 5 + 2, none⟩ = some (.int .i64 dt) ∧ X.cell? ⟨bb, o + k * 5 + 3, none⟩ = some (.string dx) ∧ X.cell? ⟨bb, o + k * 5 + 4, none⟩ = some (.bool de) from by
        intro X hX
        obtain ⟨d, b1, o1, hy, e1, _, c0, c1, c2, c3, c4⟩ := (HD.out.1.later hX).dr hkD
        rw [HDD.out] at hy
        injection hy with hy
        injection e1 with e1
        injection e1 with e1 f1
        subst e1; subst f1; subst hy
        exact ⟨c0, c1, c2, c3, c4⟩)
      clear HK hnL
      obtain ⟨y1, k1, j1⟩ := (show _ from V4.out.at_)
      have C1 := Lib.hid (fun X => rgo_any sk sa sb dr df X s1 s2 s3 s4 (by omega) (by omega) (by omega) (by omega))
      have hgl := goD_len (kn := sk) s1 s2 s3 s4 (c := (dr : Int)) (d := (df : Int)) (by omega) (by omega) (by omega) (by omega)
      obtain ⟨G, hG⟩ : ∃ G, goD sk sa sb dr df = G := ⟨_, rfl⟩
      rw [hG] at C1 hgl
      have HG := Lib.hid hG
      clear hG
      go_wp2_with fail
      have hz4 := V4.out.size
      obtain ⟨c0, c1, c2, c3, c4⟩ := HR.out _ V4.out.below
      have HS := Lib.hid (show ∀ X, Below wr.heap.size wr X → (fun X => X.cell? ⟨w.heap.size, 0, none⟩ = some (.int .i64 sa) ∧ X.cell? ⟨w.heap.size, 1, none⟩ = some (.int .i64 sb) ∧ X.cell? ⟨bb, o + k * 5, none⟩ = some (.int .i64 dr) ∧ X.cell? ⟨bb, o + k * 5 + 1, none⟩ = some (.int .i64 df)) X from fun X hX => by
        have h1 := (V4.out.later hX).at_
        obtain ⟨c0, c1, _⟩ := HR.out X (belowStepA V4.out.below hX)
        exact ⟨h1.2.1 0, h1.2.1 1, c0, c1⟩)
      have z0 := k1 0
      have z1 := k1 1
      simp only [List.getElem?_toArray] at z0 z1
      clear k1 j1 y1 c2 c3 c4
      go_region_held3 (fun X => X.cell? ⟨w.heap.size, 0, none⟩ = some (.int .i64 sa) ∧ X.cell? ⟨w.heap.size, 1, none⟩ = some (.int .i64 sb) ∧ X.cell? ⟨bb, o + k * 5, none⟩ = some (.int .i64 dr) ∧ X.cell? ⟨bb, o + k * 5 + 1, none⟩ = some (.int .i64 df))
        (first | exact HS.out _ (by first | assumption | exact B5.out) | exact ⟨V6.out.1.at_.2.1 0, V6.out.1.at_.2.1 1, (HR.out _ V6.out.1.below).1, (HR.out _ V6.out.1.below).2.1⟩ | go_keep)
        (first
        | (go_at_call 11; refine (C1.out _).mono ?_; rintro e w5 ⟨GA, gn, gc, rfl, hg5, b5⟩; have B5 := Lib.hid (belowStepA (A := wr) (by first | exact Below.refl _ _ | exact (Below.refl _ _).drew | exact selfDrew _ _) b5); have hgn : gn ≤ 10 := (by have := hg5.parts.1; omega); have V5 := Lib.hid (And.intro (V4.out.later B5.out) (And.intro hg5 hg5.parts.1)); have hz5 := V5.out.1.size; clear hg5 b5)
        | (refine step_li encO_len encO_one opR_elt V5.out.1.own hz5 rfl rfl (by rfl) (by rfl) V5.out.2.1 (by unfold maxLen; omega) (by omega) ?_; intro A6 c6 w6 hp; have V6 := Lib.hid (And.intro (V5.out.1.push hp) V5.out.2.2); clear hp)
        | (at_builtin; refine wpList_li encO_len encO_one opR_elt V5.out.1.own hz5 rfl rfl rfl rfl V5.out.2.1 (by unfold maxLen; omega) (by omega) ?_; intro A6 c6 w6 hp; have V6 := Lib.hid (And.intro (V5.out.1.push hp) V5.out.2.2); clear hp))
      clear HS z0 z1 c0 c1 B5 V4 C1 hz4 hz5 hgl
      have hk12 : nL ≤ 12000 := by omega
      have HN6 := Lib.hid (show nL + gn = (L ++ G).length by rw [List.length_append, HNL.out, V6.out.2])
      clear V5
      obtain ⟨c0, c1, c2, c3, c4⟩ := HR.out _ V6.out.1.below
      go_upto_if 40 with fail
      go_cut [11] from 13 to 76 (fun v wx => ∃ A7 n7 c7, v = .slice A7 n7 c7 ∧ n7 ≤ 12011 ∧ Hid (n7 = (L ++ G ++ txtL dx).length ∧ OpSt w 49 A7 n7 c7 (L ++ G ++ txtL dx) sa sb wx))
      case first =>
        have hz6 := V6.out.1.size
        cases hx : dx.toList.isEmpty
        · have e0 := Lib.hid (show txtL dx = [⟨1, 0, 0, dx⟩] from if_neg (by rw [hx]; decide))
          go_wp2_with (at_builtin; refine wpList_push opR_elt V6.out.1.own hz6 rfl rfl rfl rfl rfl rfl rfl (by unfold maxLen; omega) (by omega) ?_; intro A7 c7 w7 hp; have V7 := Lib.hid (V6.out.1.push (m := 1) (M := [⟨1, 0, 0, dx⟩]) hp); clear hp)
          go_meet
          exact ⟨A7, nL + gn + 1, c7, rfl, by omega, by rw [e0.out, List.length_append, HN6.out]; rfl, by rw [e0.out]; exact V7.out⟩
        · have e0 := Lib.hid (show txtL dx = [] from if_pos hx)
          go_wp2_with fail
          go_meet
          exact ⟨A6, nL + gn, c6, rfl, by omega, by rw [e0.out, List.append_nil]; exact HN6.out, by rw [e0.out, List.append_nil]; exact V6.out.1⟩
      case rest =>
        obtain ⟨A7, n7, c7, rfl, hn7, H7⟩ := hcut
        clear V6 c0 c1 c2 c3 c4 HN6
        have V7 := Lib.hid H7.out.2
        have HN7 := Lib.hid H7.out.1
        clear H7
        obtain ⟨c0, c1, c2, c3, c4⟩ := HR.out _ V7.out.below
        go_upto_if 54 with fail
        go_cut [11] from 13 to 76 (fun v wx => ∃ A8 n8 c8, v = .slice A8 n8 c8 ∧ Hid (n8 = (L ++ G ++ txtL dx ++ eraL de).length ∧ OpSt w 49 A8 n8 c8 (L ++ G ++ txtL dx ++ eraL de) sa sb wx))
        case first =>
          have hz7 := V7.out.size
          cases de
          · go_wp2_with fail
            go_meet
            exact ⟨A7, n7, c7, rfl, by rw [HN7.out]; simp [eraL], by have h := V7.out; simpa [eraL] using h⟩
          · go_wp2_with (at_builtin; refine wpList_push opR_elt V7.out.own hz7 rfl rfl rfl rfl rfl rfl rfl (by unfold maxLen; omega) (by omega) ?_; intro A8 c8 w8 hp; have V8 := Lib.hid (V7.out.push (m := 1) (M := [⟨3, 0, 0, ⟨#[]⟩⟩]) hp); clear hp)
            go_meet
            exact ⟨A8, n7 + 1, c8, rfl, by rw [HN7.out, List.length_append (bs := eraL true)]; rfl, V8.out⟩
        case rest =>
          obtain ⟨A8, n8, c8, rfl, H8⟩ := hcut
          clear V7 c0 c1 c2 c3 c4 HN7
          have V8 := Lib.hid H8.out.2
          have HN8 := Lib.hid H8.out.1
          clear H8
          obtain ⟨y1, k1, j1⟩ := (show _ from V8.out.at_)
          obtain ⟨c0, c1, c2, c3, c4⟩ := HR.out _ V8.out.below
          go_wp2_with fail
          go_region
          refine at_world (OpSt w 49 A8 n8 c8 (L ++ G ++ txtL dx ++ eraL de) dr dt) (V8.out.spot dr dt).drew ?_
          intro X9 hX9
          have V9 := Lib.hid hX9
          clear hX9 y1 k1 j1 c0 c1 c2 c3 c4 V8
          obtain ⟨c0, c1, c2, c3, c4⟩ := HR.out _ V9.out.below
          have HL9 := Lib.hid (show (opsNext cols ⟨L, sa, sb, sk⟩ ⟨dr, df, dt, dx, de⟩).L = L ++ G ++ txtL dx ++ eraL de by
            show L ++ goD sk sa sb dr df ++ txtL dx ++ eraL de = _
            rw [HG.out])
          go_wp2_with fail
          go_roundw
          case rel =>
            refine ⟨k + 1, A8, c8, opsNext cols ⟨L, sa, sb, sk⟩ ⟨dr, df, dt, dx, de⟩, by omega, by go_num, ?_, rfl, ?_⟩
            · rw [HL9.out, HN8.out]
            · refine ⟨?_, HSN.out, by rw [HSn.out, ← HE.out]⟩
              rw [HL9.out, ← HN8.out]
              exact V9.out
          case measure => simp [intOf]; omega
    · obtain rfl : k = N := by omega
      have hst := HK.out.2.2
      rw [← HN.out, List.take_length] at hst
      have HST := Lib.hid hst
      obtain ⟨y1, k1, j1⟩ := (show _ from HK.out.1.at_)
      obtain ⟨y2, k2, j2⟩ := (show _ from HK.out.1.res)
      clear hst
      go_wp2_with fail
      go_region
      refine at_world (Told w Ao s.L.length co s.L s.a s.b) (HK.out.1.told s.a s.b) ?_
      rintro X ⟨x0, x1, hX, hb⟩
      have HX := Lib.hid (And.intro hX hb)
      clear hX hb k1 j1 y1 k2 j2 y2
      go_wp2_with fail
      refine bodyPost_ret (v := .tuple #[.slice Ao s.L.length co, .agg #[.int .i64 s.a, .int .i64 s.b], .bool s.kn]) (by simp [results, Tryd.results13, go_sem, x0, x1]) rfl ⟨_, _, _, by rw [← HST.out], by rw [← HST.out]; exact HX.out.1, HX.out.2⟩
end Go.Proofs.YtednedklkbjihaaDoor
