/- 'typebar/typebarlaw13.GlyphLines' returns true for every input, and each argument reads behind the call as it read before. No condition. -/
import Derived.Test.YtlopleeopnnoeaaGreatMy09
import Derived.Test.YtlopleeopnnoeaaGreatMb26
set_option linter.unusedVariables false
set_option linter.unusedSimpArgs false
namespace Go.Proofs.YtlopleeopnnoeaaGreat
open Go.RowKit
set_option maxHeartbeats 8000000 in
set_option maxRecDepth 100000 in
theorem walk_GlyphLines (w : World) (A0 : Option Addr) (n0 c0 : Nat) (f0 : Nat → Int) (hA : Rd w A0 n0 (fun j => .int .i32 (f0 j))) (hle : n0 ≤ c0) (hmax : c0 ≤ maxLen) (hp : ∀ j, j < n0 → (Lit.int .i32 (f0 j)).wf = true) (s0 : ByteArray) (ws : s0.size ≤ maxLen) :
    Calls Tryz.prog 5 #[.slice A0 n0 c0, .string s0] w (Yes w) := by
  obtain ⟨T, hG, hT, C0⟩ := rows_li w
  obtain ⟨l, hll, hL0, hSc⟩ := came_text hA hp 100
  have hlc : l.length ≤ c0 := by omega
  have hl2 : l.length ≤ 100 := by omega
  have HG := Lib.hid hG
  have C0 := Lib.hid C0
  have AW := Lib.hid (fun X => awake13_yes X)
  have HL := Lib.hid (And.intro hL0 hSc)
  have HK := Lib.hid (show (KT T).ok ∧ (KT T).tidy by rw [← hT]; exact ⟨kt_ok given_conj, rows_tidy⟩)
  have CF := fews_any A0 n0 c0 100 w hle (by unfold maxLen at hmax; omega) (by omega)
  rw [← hll] at CF
  have CF := Lib.hid CF
  have HM := Lib.hid hmax
  clear hG hA hp hT hL0 hSc hll hle hmax
  obtain ⟨s, hsz, hs⟩ : ∃ s : ByteArray, s.size ≤ 300 ∧ ((300 < s0.size ∧ s0.extract 0 300 = s) ∨ (s0.size ≤ 300 ∧ s0 = s)) := by
    rcases Nat.lt_or_ge 300 s0.size with h | h
    · exact ⟨_, by rw [ByteArray.size_extract]; omega, .inl ⟨h, rfl⟩⟩
    · exact ⟨_, h, .inr ⟨h, rfl⟩⟩
  have HSz := Lib.hid hsz
  rcases hs with ⟨h1, h2⟩ | ⟨h1, h2⟩
  all_goals
    first
      | (have d0 : decide ((300 : Int) < (s0.size : Int)) = true := by simp; omega
         have HE := Lib.hid h2
         clear h2 hsz)
      | (rw [h2]
         rw [h2] at h1
         have d0 : decide ((300 : Int) < (s.size : Int)) = false := by simp; omega
         have HE := Lib.hid (rfl : s0 = s0)
         clear h2 hsz)
  all_goals
    go_enter Tryz.func5, Tryz.ntmps5
    go_wp2_with fail
    refine CF.out.mono ?_
    rintro e w0 ⟨rfl, rfl⟩
    clear CF
    go_wp2_with fail
    first | rw [HE.out] | skip
    clear HE d0 h1
    refine C0.out.mono ?_
    rintro e w1 ⟨A, c, rfl, hL, hc, hm, hb1⟩
    have C1 := Lib.hid (build_tabs A c T w1 (hL.mono fun _ _ => trivial) hc HG.out)
    have L1 := Lib.hid (And.intro (hL.mono (S' := fun _ => True) fun _ _ => trivial) hb1)
    clear C0 hL hb1
    go_wp2_with fail
    refine C1.out.mono ?_
    rintro e w2 ⟨tp, rfl, hU, hb⟩
    have U2 := Lib.hid (And.intro hU (And.intro (L1.out.1.later hb) (L1.out.2.trans (hb.mono L1.out.2.size))))
    clear hU hb C1 L1
    have hT : T.length ≤ 100000 := by have := HG.out.len; omega
    have CL := Lib.hid (line_any (T := T) (tp := tp) c0 w2 U2.out.1 HK.out.1 HK.out.2 (HL.out.1.later U2.out.2.2) HL.out.2 hlc HM.out (by omega))
    have CR := Lib.hid (fun (X : World) (hX : Below w2.heap.size w2 X) => rline_any (T := T) (A := A) (c := c) c0 X (RT.mk (A2 := A0) (U2.out.2.1.later hX) hc hT (HL.out.1.later (bStepS U2.out.2.2 hX)) HL.out.2 (by omega)) hlc HM.out (by omega))
    have CP := Lib.hid (fun (X : World) (hX : Below w2.heap.size w2 X) => read_any' (T := T) (tp := tp) s X (by have := HSz.out; omega) (U2.out.1.later hX) HK.out.1 HK.out.2)
    have CQ := Lib.hid (fun (X : World) (hX : Below w2.heap.size w2 X) => rread_any' (T := T) (A := A) (c := c) s X (by have := HSz.out; omega) (U2.out.2.1.later hX) hc hT)
    have HB := Lib.hid U2.out.2.2
    have HQ1 := Lib.hid (show (lineG (KG T) (KT T) l).length ≤ 1000 by
      have := gls_le (KG T) (KT T) l (SG.startsP (KT T) l).length (Nat.le_refl _)
      have := fromP_le (K := KT T) (l := l) (SG.startsP (KT T) l).length
      unfold lineG
      omega)
    have HQ2 := Lib.hid (show (atsTo (KG T) (KT T) l (SG.startsP (KT T) l).length).length ≤ 1000 by
      have := starts_le (KT T) l
      unfold atsTo
      simp
      omega)
    have HQ3 := Lib.hid (show (readG (KG T) (KT T) (decD (bts s))).length ≤ 1000 by
      have h1 := starts_le (KT T) (decD (bts s))
      have h2 := dec_len s
      have h3 := HSz.out
      unfold readG
      rw [readTo_len (Nat.le_refl _)]
      omega)
    obtain ⟨D, hD⟩ : ∃ D, lineG (KG T) (KT T) l = D := ⟨_, rfl⟩
    obtain ⟨L, hLL⟩ : ∃ L, atsTo (KG T) (KT T) l (SG.startsP (KT T) l).length = L := ⟨_, rfl⟩
    obtain ⟨R, hR⟩ : ∃ R, readG (KG T) (KT T) (decD (bts s)) = R := ⟨_, rfl⟩
    rw [hD] at CL CR HQ1
    rw [hLL] at CL CR HQ2
    rw [hR] at CP CQ HQ3
    obtain ⟨N, hN⟩ : ∃ N, l.length = N := ⟨_, rfl⟩
    rw [hN] at CL CR ⊢
    clear U2 hD hLL hR hN hlc hl2 HL HK HM HSz
    go_wp2_with fail
    refine CL.out.mono ?_
    rintro e w3 ⟨A1, n1, c1, A2, n2, c2, rfl, h⟩
    have hn1 := own_count encG_len (by decide) h.own1
    have hn2 := own_count encI_len1 (by decide) h.own2
    have hl1 := (LiV.own encG_len (by decide) h.own1).parts.2.1
    have hl3 := (LiV.own encI_len1 (by decide) h.own2).parts.2.1
    subst hn1; subst hn2
    have B3 := Lib.hid (And.intro h.be (And.intro hl1 hl3))
    clear CL h hl1 hl3
    go_wp2_with fail
    refine (CR.out w3 B3.out.1).mono ?_
    rintro e w4 ⟨A3, n3, c3, A4, n4, c4, rfl, h⟩
    have hn1 := own_count encG_len (by decide) h.own1
    have hn2 := own_count encI_len1 (by decide) h.own2
    have hl1 := (LiV.own encG_len (by decide) h.own1).parts.2.1
    have hl3 := (LiV.own encI_len1 (by decide) h.own2).parts.2.1
    subst hn1; subst hn2
    have B4 := Lib.hid (bStepS B3.out.1 h.be)
    have CS := Lib.hid (samegl_yes A1 A3 c1 c3 D w4 _ _ (by have := HQ1.out; omega) (B3.out.2.1.later h.be) hl1)
    have CI := Lib.hid (fun (X : World) (hX : Below w4.heap.size w4 X) => samei_yes A2 A4 c2 c4 L X _ _ (by have := HQ2.out; omega) (B3.out.2.2.later (bStepS h.be hX)) (hl3.later hX))
    clear CR h hl1 hl3 B3
    go_wp2_with fail
    refine CS.out.mono ?_
    rintro e w5 ⟨rfl, hb⟩
    have B5 := Lib.hid hb
    clear CS hb
    go_wp2_with fail
    refine (CI.out w5 B5.out).mono ?_
    rintro e w6 ⟨rfl, hb⟩
    have B6 := Lib.hid (bStepS B4.out (bStepS B5.out hb))
    clear CI hb B5 B4
    go_wp2_with fail
    refine (CP.out w6 B6.out).mono ?_
    rintro e w7 ⟨A7, n7, c7, rfl, ho7, hb7⟩
    have hn7 := own_count encG_len (by decide) ho7
    have hli7 := (LiV.own encG_len (by decide) ho7).parts.2.1
    subst hn7
    have B7 := Lib.hid (And.intro (bStepS B6.out hb7) hli7)
    clear CP ho7 hb7 hli7 B6
    go_wp2_with fail
    refine (CQ.out w7 B7.out.1).mono ?_
    rintro e w8 ⟨A8, n8, c8, rfl, ho8, hb8⟩
    have hn8 := own_count encG_len (by decide) ho8
    have hli8 := (LiV.own encG_len (by decide) ho8).parts.2.1
    subst hn8
    have CS := Lib.hid (samegl_yes A7 A8 c7 c8 R w8 _ _ (by have := HQ3.out; omega) (B7.out.2.later hb8) hli8)
    have B8 := Lib.hid (bStepS B7.out.1 hb8)
    clear CQ ho8 hb8 hli8 B7
    go_wp2_with fail
    refine CS.out.mono ?_
    rintro e w9 ⟨rfl, hb⟩
    have B9 := Lib.hid (bStepS B8.out hb)
    clear CS hb B8
    go_wp2_with fail
    refine (AW.out _).mono ?_
    rintro e w10 ⟨rfl, hb⟩
    have U6 := Lib.hid (bStepS HB.out (bStepS B9.out hb))
    clear hb
    go_wp2
    go_ret
    exact ⟨rfl, U6.out⟩
end Go.Proofs.YtlopleeopnnoeaaGreat
namespace Go.Proofs.YtlopleeopnnoeaaGreat.glyphLines
open Go.ChangeShapes Go.WideShapes Go.ChangeAt Go.RowKit Go.WideMaps Go.WideElems
open Go.ChangeMaps (open_string)
theorem own:ownKnob Tryz.prog.godebug=none:=by kernel_rfl
theorem laidOut:laidOutB Tryz.prog=true:=by kernel_rfl
set_option linter.unusedVariables false in
set_option maxRecDepth 100000 in
theorem lifted (os:Os)(started:os.Started)(H:Type)(enc:TypeId × Value→H):
  ReturnsInHanded {} Tryz.checked os 5 .any (Rows.glyphLinesSpec.pre6 enc Tryz.prog Tryz.f5 Rows.glyphLinesRow.domain false) (Rows.glyphLinesSpec.post enc Tryz.prog Tryz.f5 false true false false):=by
 refine returnsInHanded_of_change (C:= Tryz.checked) own started (by kernel_rfl) Tryz.func5
  (ChangeSpec.witness6 (enc:=enc) (C:= Tryz.checked) false ⟨#[],#[.slice none 0 0,.string ByteArray.empty],[]⟩ 8 (by kernel_rfl) (by kernel_rfl) (by kernel_rfl) (by kernel_rfl)) ?_
 intro W base args ds gs before hval0 hW hcnd _
 have hval:∀ (j:Nat) t v,Tryz.f5.params[j]? =some t→args[j]? =some v→Value.okWide Tryz.prog W .any base t v:=hval0
 have hW':=hW
 obtain⟨p,q,hA0,hV,rfl,hfz,hnd⟩:=hW
 have hA:DataW.TrodAll enc Tryz.prog W 0 (fun _=>true) true Tryz.f5.params.toList args.toList ds p:=hA0
 rw [Tryz.params5]at hA hval
 obtain⟨v0,vs0,d0,ds0,p0,q0,hargs,rfl,rfl,h0,r0⟩:=trodAll_cons hA
 obtain⟨v1,vs1,d1,ds1,p1,q1,rfl,rfl,rfl,h1,r1⟩:=trodAll_cons r0
 obtain⟨rfl,rfl,rfl⟩:=trodAll_nil r1
 obtain rfl:args=#[v0,v1]:=by cases args;simp_all
 obtain⟨rfl,rfl⟩:=trodVars_none hV
 obtain⟨A0,n0,c0,f0,C0,w0⟩:=arg_ints Tryz.underlying22 Tryz.underlying21 (by kernel_rfl) (hval 0 22 v0 rfl rfl) h0
 obtain rfl:=C0.eq
 obtain⟨a1,rfl,rfl,rfl,w1⟩:=open_string Tryz.underlying9 (hval 1 9 v1 rfl rfl) h1
 refine(walk_GlyphLines W A0 n0 c0 f0 C0.rd C0.le C0.max w0 a1 w1).mono fun e W' ⟨he,hb⟩=> ?_
 subst he
 exact⟨_,rfl,law_post hW' rfl rfl rfl rfl laidOut (by kernel_rfl) rfl Tryz.underlying4 hb⟩
theorem over:Rows.glyphLinesRow.holds Tryz.pinned (OpenSpec.ofChange Rows.glyphLinesSpec):=
 OpenClaim.holds_of_wide 5 Tryz.f5 rfl rfl rfl rfl rfl rfl rfl ⟨rfl,rfl,rfl,rfl,rfl⟩ rfl rfl rfl rfl rfl (by kernel_rfl) Tryz.func5 (by kernel_rfl)
  (of_decide_eq_true (by kernel_rfl)) (by unfold Func.isWrapper;first|(rw [if_pos (by decide+kernel)];kernel_rfl)|(rw [if_neg (by decide+kernel)];exact⟨rfl,rfl⟩))
  (fun os started H enc _=>lifted os started H enc)
theorem proved:Rows.GlyphLinesSaid:=over
#print axioms proved
end Go.Proofs.YtlopleeopnnoeaaGreat.glyphLines
