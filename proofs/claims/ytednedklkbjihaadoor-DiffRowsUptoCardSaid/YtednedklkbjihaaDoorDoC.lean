/- diff: Ops. -/
import Derived.Test.YtednedklkbjihaaDoorDoB
namespace Go.Proofs.YtednedklkbjihaaDoor
open Go.RowKit
set_option linter.unusedVariables false
set_option linter.unusedSimpArgs false
set_option maxRecDepth 100000

theorem ops_start (w : World) (E : TypeId) (a b : Int) : OpSt w E none 0 0 [] a b ((w.alloc (.cells #[.int .i64 a, .int .i64 b] 39)).alloc (.cells #[.int .i64 0, .int .i64 0] 39)) := by
  refine ⟨World.ownsRow_nil _ _ _ _, (blk_new w _ _).alloc _, ?_, belPush (belAlloc _ _) _⟩
  have := blk_new (w.alloc (.cells #[.int .i64 a, .int .i64 b] 39)) #[.int .i64 0, .int .i64 0] 39
  simpa using this
/-- A round's own box, apart from the row. -/
structure OpX (w : World) (E : TypeId) (xb : Nat) (d : Dr) (A : Option Addr) (n c : Nat) (L : List Ob) (a b : Int) (X : World) : Prop where
  st : OpSt w E A n c L a b X
  x : Blk X xb (drC d)
  ne : some xb ≠ (Value.slice A n c).ownBlock
theorem OpX.later {w X Y : World} {E : TypeId} {xb : Nat} {d : Dr} {A : Option Addr} {n c : Nat} {L : List Ob} {a b : Int} (h : OpX w E xb d A n c L a b X) (hb : Below X.heap.size X Y) : OpX w E xb d A n c L a b Y := ⟨h.st.later hb, h.x.later hb h.x.1, h.ne⟩
theorem OpX.push {w X Z : World} {E : TypeId} {xb : Nat} {d : Dr} {A A' : Option Addr} {n c m c' : Nat} {L M : List Ob} {a b : Int} (h : OpX w E xb d A n c L a b X) (hp : Pushed X Z (w.heap.size + 2) E 4 (.slice A n c) (n + m) (flatL encO L ++ flatL encO M) A' c') : OpX w E xb d A' (n + m) c' (L ++ M) a b Z := by
  refine ⟨h.st.push hp, h.x.grown hp.grown h.ne, ?_⟩
  rcases hp.at_ with e | ⟨k, e, hk⟩
  · rw [e]; exact h.ne
  · rw [e]
    have := h.x.1
    intro e2
    injection e2 with e2
    omega

set_option maxHeartbeats 8000000 in
theorem ops_any (A : Option Addr) (c : Nat) (D : List Dr) (cols a b : Int) (kn : Bool) (w : World) (hW : TabW w.heap.size w) (hD : Li 5 encD w (fun _ => True) A D) (hs : ∀ d ∈ D, Sm d) (hl : D.length ≤ 1000) (hc : D.length ≤ c) (hcm : c ≤ 9223372036854775807) (a0 : 0 ≤ a) (a1 : a ≤ 100000) (b0 : 0 ≤ b) (b1 : b ≤ 100000) :
    Calls Tryd.prog 12 #[.slice A D.length c, .int .i64 cols, .agg #[.int .i64 a, .int .i64 b], .bool kn] w fun e w' => ∃ A n c, e = .returned (.tuple #[.slice A n c, .agg #[.int .i64 (opsS cols ⟨[], a, b, kn⟩ D).a, .int .i64 (opsS cols ⟨[], a, b, kn⟩ D).b], .bool (opsS cols ⟨[], a, b, kn⟩ D).kn]) ∧ LiV 4 encO w' (fun q => w.heap.size ≤ q) (.slice A n c) (opsS cols ⟨[], a, b, kn⟩ D).L ∧ Below w.heap.size w w' := by
  have HW := Lib.hid hW
  have HD := Lib.hid (And.intro hD hs)
  have V0 := Lib.hid (ops_start w 51 a b)
  obtain ⟨N, hN⟩ : ∃ N, D.length = N := ⟨_, rfl⟩
  have HN := Lib.hid hN
  rw [hN] at hl hc ⊢
  have S0 := Lib.hid (show SmO ⟨[], a, b, kn⟩ 0 from ⟨a0, a1, b0, b1, Nat.zero_le _⟩)
  clear hW hD hs hN
  go_enter Tryd.func12, Tryd.ntmps12
  go_upto_region 1 with fail
  refine at_world (OpSt w 51 none 0 0 [] a b) V0.out ?_
  intro X0 hX0
  have V1 := Lib.hid hX0
  clear hX0 V0
  go_wp2_with fail
  go_loopw [3, 11, 13, 16] (fun skn out s13 i wr => ∃ (k : Nat) (Ao : Option Addr) (co : Nat) (s : Os), k ≤ N ∧ i = .int .i64 k ∧ out = .slice Ao s.L.length co ∧ skn = .bool s.kn ∧ Hid (OpSt w 51 Ao s.L.length co s.L s.a s.b wr ∧ SmO s k ∧ s = opsS cols ⟨[], a, b, kn⟩ (D.take k))) (fun _ _ _ i _ => N - (intOf i).toNat)
  case atStart => exact ⟨0, none, 0, ⟨[], a, b, kn⟩, Nat.zero_le _, rfl, rfl, rfl, V1.out, S0.out, rfl⟩
  case round =>
    obtain ⟨k, Ao, co, s, hk, rfl, rfl, rfl, HK⟩ := hrel
    by_cases hlt : k < N
    · have hkD : k < D.length := by rw [HN.out]; exact hlt
      obtain ⟨d, bb, o, hd, rfl, hbl, c0, c1, c2, c3, c4⟩ := (HD.out.1.later HK.out.1.below).dr hkD
      obtain ⟨d1', d2', d3'⟩ := HD.out.2 d (List.mem_of_getElem? hd)
      have HSn := Lib.hid (opsS_snoc (cols := cols) (s := ⟨[], a, b, kn⟩) hd)
      obtain ⟨s1, s2, s3, s4, s5⟩ := HK.out.2.1
      have HSN := Lib.hid (HK.out.2.1.next (cols := cols) (d := d) ⟨d1', d2', d3'⟩)
      have g1 : (k : Int) < (N : Int) := by omega
      have g2 : (0 : Int) ≤ (k : Int) := by omega
      clear hd hbl
      obtain ⟨L, sa, sb, sk⟩ := s
      obtain ⟨dr, df, dt, dx, de⟩ := d
      dsimp only at *
      go_upto_region 5 with fail
      obtain ⟨nL, hnL⟩ : ∃ n, L.length = n := ⟨_, rfl⟩
      rw [hnL] at HK s5 ⊢
      have HNL := Lib.hid hnL
      have V3 := Lib.hid (show OpX w 51 wr.heap.size ⟨dr, df, dt, dx, de⟩ Ao nL co L sa sb (wr.alloc (.cells #[.int .i64 dr, .int .i64 df, .int .i64 dt, .string dx, .bool de] 34)) from
        ⟨HK.out.1.later (belAlloc _ _), blk_new _ _ _, fun e => by have := (HK.out.1.own.lt _ e.symm).2; omega⟩)
      have HE := Lib.hid HK.out.2.2
      refine at_world (fun X => OpX w 51 wr.heap.size ⟨dr, df, dt, dx, de⟩ Ao nL co L sa sb X) V3.out ?_
      intro X3 hX3
      obtain ⟨xb, hxb⟩ : ∃ b, wr.heap.size = b := ⟨_, rfl⟩
      rw [hxb] at hX3 ⊢
      have V4 := Lib.hid hX3
      clear V3 hX3 hxb HK hnL c0 c1 c2 c3 c4
      obtain ⟨y1, k1, j1⟩ := (show _ from V4.out.st.at_)
      obtain ⟨y2, k2, j2⟩ := (show _ from V4.out.x)
      have C1 := Lib.hid (go_any sk sa sb dr df X3 (tabW_next HW.out (Nat.le_refl _) V4.out.st.below) s1 s2 s3 s4 (by omega) (by omega) (by omega) (by omega))
      have hgl := goD_len (kn := sk) s1 s2 s3 s4 (c := (dr : Int)) (d := (df : Int)) (by omega) (by omega) (by omega) (by omega)
      obtain ⟨G, hG⟩ : ∃ G, goD sk sa sb dr df = G := ⟨_, rfl⟩
      rw [hG] at C1 hgl
      have HG := Lib.hid hG
      clear hG
      go_wp2_with fail
      refine C1.out.mono ?_
      rintro e w5 ⟨GA, gn, gc, rfl, hg5, b5⟩
      have hgn : gn ≤ 10 := by have := hg5.parts.1; omega
      have V5 := Lib.hid (And.intro (V4.out.later b5) hg5)
      have HGN := Lib.hid hg5.parts.1
      have hz5 := V5.out.1.st.size
      clear hg5 b5 V4 C1 k1 j1 y1 k2 j2 y2 hgl
      go_upto_region 6 with (at_builtin; refine wpList_li encO_len encO_one op_elt V5.out.1.st.own hz5 rfl rfl rfl rfl V5.out.2 (by unfold maxLen; omega) (by omega) ?_; intro A6 c6 w6 hp; have V6 := Lib.hid (V5.out.1.push hp); clear hp)
      clear V5 hz5
      obtain ⟨y2, k2, j2⟩ := (show _ from V6.out.x)
      go_upto_if 32 with fail
      have hk12 : nL ≤ 12000 := by omega
      have HN6 := Lib.hid (show nL + gn = (L ++ G).length by rw [List.length_append, HNL.out, HGN.out])
      go_cut [11] from 17 to 54 (fun v wx => ∃ A7 n7 c7, v = .slice A7 n7 c7 ∧ n7 ≤ 12011 ∧ Hid (n7 = (L ++ G ++ txtL dx).length ∧ OpX w 51 xb ⟨dr, df, dt, dx, de⟩ A7 n7 c7 (L ++ G ++ txtL dx) sa sb wx))
      case first =>
        have hz6 := V6.out.st.size
        cases hx : dx.toList.isEmpty
        · have e0 := Lib.hid (show txtL dx = [⟨1, 0, 0, dx⟩] from if_neg (by rw [hx]; decide))
          go_wp2_with (at_builtin; refine wpList_push op_elt V6.out.st.own hz6 rfl rfl rfl rfl rfl rfl rfl (by unfold maxLen; omega) (by omega) ?_; intro A7 c7 w7 hp; have V7 := Lib.hid (V6.out.push (m := 1) (M := [⟨1, 0, 0, dx⟩]) hp); clear hp)
          go_meet
          exact ⟨A7, nL + gn + 1, c7, rfl, by omega, by rw [e0.out, List.length_append, HN6.out]; rfl, by rw [e0.out]; exact V7.out⟩
        · have e0 := Lib.hid (show txtL dx = [] from if_pos hx)
          go_wp2_with fail
          go_meet
          exact ⟨A6, nL + gn, c6, rfl, by omega, by rw [e0.out, List.append_nil]; exact HN6.out, by rw [e0.out, List.append_nil]; exact V6.out⟩
      case rest =>
        obtain ⟨A7, n7, c7, rfl, hn7, H7⟩ := hcut
        clear V6 k2 j2 y2 HN6
        have V7 := Lib.hid H7.out.2
        have HN7 := Lib.hid H7.out.1
        clear H7
        obtain ⟨y2, k2, j2⟩ := (show _ from V7.out.x)
        go_upto_if 40 with fail
        go_cut [11] from 17 to 54 (fun v wx => ∃ A8 n8 c8, v = .slice A8 n8 c8 ∧ Hid (n8 = (L ++ G ++ txtL dx ++ eraL de).length ∧ OpX w 51 xb ⟨dr, df, dt, dx, de⟩ A8 n8 c8 (L ++ G ++ txtL dx ++ eraL de) sa sb wx))
        case first =>
          have hz7 := V7.out.st.size
          cases de
          · go_wp2_with fail
            go_meet
            exact ⟨A7, n7, c7, rfl, by rw [HN7.out]; simp [eraL], by have h := V7.out; simpa [eraL] using h⟩
          · go_wp2_with (at_builtin; refine wpList_push op_elt V7.out.st.own hz7 rfl rfl rfl rfl rfl rfl rfl (by unfold maxLen; omega) (by omega) ?_; intro A8 c8 w8 hp; have V8 := Lib.hid (V7.out.push (m := 1) (M := [⟨3, 0, 0, ⟨#[]⟩⟩]) hp); clear hp)
            go_meet
            exact ⟨A8, n7 + 1, c8, rfl, by rw [HN7.out, List.length_append (bs := eraL true)]; rfl, V8.out⟩
        case rest =>
          obtain ⟨A8, n8, c8, rfl, H8⟩ := hcut
          clear V7 k2 j2 y2 HN7
          have V8 := Lib.hid H8.out.2
          have HN8 := Lib.hid H8.out.1
          clear H8
          obtain ⟨y1, k1, j1⟩ := (show _ from V8.out.st.at_)
          obtain ⟨y2, k2, j2⟩ := (show _ from V8.out.x)
          go_wp2_with fail
          go_region
          have V9 := Lib.hid (V8.out.st.spot dr dt).drew
          have HL9 := Lib.hid (show (opsNext cols ⟨L, sa, sb, sk⟩ ⟨dr, df, dt, dx, de⟩).L = L ++ G ++ txtL dx ++ eraL de by
            show L ++ goD sk sa sb dr df ++ txtL dx ++ eraL de = _
            rw [HG.out])
          clear V8 k1 j1 y1 k2 j2 y2
          go_wp2_with fail
          go_roundw
          case rel =>
            refine ⟨k + 1, A8, c8, opsNext cols ⟨L, sa, sb, sk⟩ ⟨dr, df, dt, dx, de⟩, by omega, by go_num, ?_, rfl, ?_⟩
            · rw [HL9.out, HN8.out]
            · refine ⟨?_, HSN.out, by rw [HSn.out, ← HE.out]⟩
              rw [HL9.out, ← HN8.out]
              exact V9.out
          case measure => simp [intOf]; omega
    · obtain rfl : k = N := by omega
      have hst := HK.out.2.2
      rw [← HN.out, List.take_length] at hst
      have HST := Lib.hid hst
      obtain ⟨y1, k1, j1⟩ := (show _ from HK.out.1.at_)
      obtain ⟨y2, k2, j2⟩ := (show _ from HK.out.1.res)
      clear hst
      go_wp2_with fail
      go_region
      refine at_world (Told w Ao s.L.length co s.L s.a s.b) (HK.out.1.told s.a s.b) ?_
      rintro X ⟨x0, x1, hX, hb⟩
      have HX := Lib.hid (And.intro hX hb)
      clear hX hb k1 j1 y1 k2 j2 y2
      go_wp2_with fail
      refine bodyPost_ret (v := .tuple #[.slice Ao s.L.length co, .agg #[.int .i64 s.a, .int .i64 s.b], .bool s.kn]) (by simp [results, Tryd.results12, go_sem, x0, x1]) rfl ⟨_, _, _, by rw [← HST.out], by rw [← HST.out]; exact HX.out.1, HX.out.2⟩
end Go.Proofs.YtednedklkbjihaaDoor
