/- 'typebar/typebarlaw13.GlyphShows' returns true for every input, and each argument reads behind the call as it read before. No condition. -/
import Derived.Test.YtlopleeopnnoeaaGreatMy05
import Derived.Test.YtlopleeopnnoeaaGreatMb26
set_option linter.unusedVariables false
set_option linter.unusedSimpArgs false
namespace Go.Proofs.YtlopleeopnnoeaaGreat
open Go.RowKit
theorem ofG_len (K:GY.Kw)(l:List Int):(GY.ofG K l).length≤2*l.length:=by
 unfold GY.ofG
 split
 ·simp
 ·split
  ·have:=lenC_le l l.length
   unfold lenC at this
   rwa [List.take_length]at this
  ·next h _=>
   have:=List.length_pos_iff.2 h
   simp
   omega
set_option maxHeartbeats 8000000 in
set_option maxRecDepth 100000 in
theorem walk_GlyphShows (w:World)(A0:Option Addr)(n0 c0:Nat)(f0:Nat→Int)(hA:Rd w A0 n0 (fun j=> .int .i32 (f0 j)))(hle:n0≤c0)(hmax:c0≤maxLen)(hp:∀j,j<n0→(Lit.int .i32 (f0 j)).wf=true):
  Calls Tryz.prog 3 #[.slice A0 n0 c0] w (Yes w):=by
 obtain⟨T,hG,hT,C0⟩:=rows_li w
 obtain⟨l,hll,hL0,hSc⟩:=came_text hA hp 60
 have hlc:l.length≤c0:=by omega
 have hl2:l.length≤60:=by omega
 have HG:=Lib.hid hG
 have C0:=Lib.hid C0
 have AW:=Lib.hid (fun X=>awake13_yes X)
 have HL:=Lib.hid (And.intro hL0 hSc)
 have CF:=fews_any A0 n0 c0 60 w hle (by unfold maxLen at hmax;omega) (by omega)
 rw [←hll]at CF
 have CF:=Lib.hid CF
 have HM:=Lib.hid hmax
 clear hG hA hp hT hL0 hSc hll hle hmax
 go_enter Tryz.func3,Tryz.ntmps3
 go_wp2_with fail
 refine CF.out.mono ?_
 rintro e w0 ⟨rfl,rfl⟩
 clear CF
 go_wp2_with fail
 refine C0.out.mono ?_
 rintro e w1 ⟨A,c,rfl,hL,hc,hm,hb1⟩
 have C1:=Lib.hid (build_tabs A c T w1 (hL.mono fun _ _=>trivial) hc HG.out)
 have L1:=Lib.hid (And.intro (hL.mono (S':=fun _=>True) fun _ _=>trivial) hb1)
 clear C0 hL hb1
 go_wp2_with fail
 refine C1.out.mono ?_
 rintro e w2 ⟨tp,rfl,hU,hb⟩
 have U2:=Lib.hid (And.intro hU (And.intro (L1.out.1.later hb) (L1.out.2.trans (hb.mono L1.out.2.size))))
 clear hU hb C1 L1
 have hT:T.length≤100000:=by have:=HG.out.len;omega
 obtain⟨R,hR⟩:∃R,GY.ofG (KG T) l=R:=⟨_,rfl⟩
 obtain⟨V,hV⟩:∃V,GY.widthG (KG T) l=V:=⟨_,rfl⟩
 have HN:=Lib.hid (show R.length≤1000000 by rw [←hR];have:=ofG_len (KG T) l;omega)
 have H2:=Lib.hid (And.intro U2.out.1 (And.intro (RT.mk (A2:=A0) U2.out.2.1 hc hT (HL.out.1.later U2.out.2.2) HL.out.2 (by omega)) U2.out.2.2))
 have COf:=Lib.hid (gof_any (T:=T) (tp:=tp) c0 w2 U2.out.1 (HL.out.1.later U2.out.2.2) HL.out.2 hlc HM.out (by omega))
 have CRo:=Lib.hid (fun(X:World) (hX:Below w2.heap.size w2 X)=>rof_any c0 X (H2.out.2.1.later hX) hlc HM.out (by omega))
 have CWi:=Lib.hid (fun(X:World) (hX:Below w2.heap.size w2 X)=>width_any (tp:=tp) c0 X (H2.out.1.later hX) (H2.out.2.1.later hX).txt HL.out.2 hlc HM.out (by omega))
 have CRw:=Lib.hid (fun(X:World) (hX:Below w2.heap.size w2 X)=>rwidth_any c0 X (H2.out.2.1.later hX) hlc)
 rw [hR]at COf CRo
 rw [hV]at CWi CRw
 obtain⟨N,hN⟩:∃N,l.length=N:=⟨_,rfl⟩
 rw [hN]at COf CRo CWi CRw ⊢
 have HB:=Lib.hid H2.out.2.2
 clear hR hV U2 H2 hN hlc hl2 HL
 go_wp2_with fail
 refine COf.out.mono ?_
 rintro e w3 ⟨A3,n3,c3,rfl,ho3,hb3⟩
 have hn3:=own_count encG_len (by decide) ho3
 have hli3:=(LiV.own encG_len (by decide) ho3).parts.2.1
 subst hn3
 have B3:=Lib.hid (And.intro hb3 hli3)
 clear COf ho3 hb3 hli3
 go_wp2_with fail
 refine(CRo.out w3 B3.out.1).mono ?_
 rintro e w4 ⟨A4,n4,c4,rfl,ho4,hb4⟩
 have hn4:=own_count encG_len (by decide) ho4
 have hli4:=(LiV.own encG_len (by decide) ho4).parts.2.1
 subst hn4
 have B4:=Lib.hid (bStepS B3.out.1 hb4)
 have CS:=Lib.hid (samegl_yes A3 A4 c3 c4 R w4 _ _ HN.out (B3.out.2.later hb4) hli4)
 clear CRo ho4 hb4 hli4 B3
 go_wp2_with fail
 refine CS.out.mono ?_
 rintro e w5 ⟨rfl,hb5⟩
 have B5:=Lib.hid (bStepS B4.out hb5)
 clear CS hb5 B4
 go_wp2_with fail
 refine(CWi.out w5 B5.out).mono ?_
 rintro e w6 ⟨rfl,hb6⟩
 have B6:=Lib.hid (bStepS B5.out hb6)
 clear CWi hb6 B5
 go_wp2_with fail
 refine(CRw.out w6 B6.out).mono ?_
 rintro e w7 ⟨rfl,rfl⟩
 clear CRw
 go_wp2_with fail
 refine(AW.out _).mono ?_
 rintro e w8 ⟨rfl,hb⟩
 have U6:=Lib.hid (bStepS HB.out (bStepS B6.out hb))
 clear hb
 go_wp2
 go_ret
 exact⟨rfl,U6.out⟩
end Go.Proofs.YtlopleeopnnoeaaGreat
namespace Go.Proofs.YtlopleeopnnoeaaGreat.glyphShows
open Go.ChangeShapes Go.WideShapes Go.ChangeAt Go.RowKit Go.WideMaps Go.WideElems
open Go.ChangeMaps (open_string)
theorem own:ownKnob Tryz.prog.godebug=none:=by kernel_rfl
theorem laidOut:laidOutB Tryz.prog=true:=by kernel_rfl
set_option linter.unusedVariables false in
set_option maxRecDepth 100000 in
theorem lifted (os:Os)(started:os.Started)(H:Type)(enc:TypeId × Value→H):
  ReturnsInHanded {} Tryz.checked os 3 .any (Rows.glyphShowsSpec.pre6 enc Tryz.prog Tryz.f3 Rows.glyphShowsRow.domain false) (Rows.glyphShowsSpec.post enc Tryz.prog Tryz.f3 false true false false):=by
 refine returnsInHanded_of_change (C:= Tryz.checked) own started (by kernel_rfl) Tryz.func3
  (ChangeSpec.witness6 (enc:=enc) (C:= Tryz.checked) false ⟨#[],#[.slice none 0 0],[]⟩ 8 (by kernel_rfl) (by kernel_rfl) (by kernel_rfl) (by kernel_rfl)) ?_
 intro W base args ds gs before hval0 hW hcnd _
 have hval:∀ (j:Nat) t v,Tryz.f3.params[j]? =some t→args[j]? =some v→Value.okWide Tryz.prog W .any base t v:=hval0
 have hW':=hW
 obtain⟨p,q,hA0,hV,rfl,hfz,hnd⟩:=hW
 have hA:DataW.TrodAll enc Tryz.prog W 0 (fun _=>true) true Tryz.f3.params.toList args.toList ds p:=hA0
 rw [Tryz.params3]at hA hval
 obtain⟨v0,vs0,d0,ds0,p0,q0,hargs,rfl,rfl,h0,r0⟩:=trodAll_cons hA
 obtain⟨rfl,rfl,rfl⟩:=trodAll_nil r0
 obtain rfl:args=#[v0]:=by cases args;simp_all
 obtain⟨rfl,rfl⟩:=trodVars_none hV
 obtain⟨A0,n0,c0,f0,C0,w0⟩:=arg_ints Tryz.underlying22 Tryz.underlying21 (by kernel_rfl) (hval 0 22 v0 rfl rfl) h0
 obtain rfl:=C0.eq
 refine(walk_GlyphShows W A0 n0 c0 f0 C0.rd C0.le C0.max w0).mono fun e W' ⟨he,hb⟩=> ?_
 subst he
 exact⟨_,rfl,law_post hW' rfl rfl rfl rfl laidOut (by kernel_rfl) rfl Tryz.underlying4 hb⟩
theorem over:Rows.glyphShowsRow.holds Tryz.pinned (OpenSpec.ofChange Rows.glyphShowsSpec):=
 OpenClaim.holds_of_wide 3 Tryz.f3 rfl rfl rfl rfl rfl rfl rfl ⟨rfl,rfl,rfl,rfl,rfl⟩ rfl rfl rfl rfl rfl (by kernel_rfl) Tryz.func3 (by kernel_rfl)
  (of_decide_eq_true (by kernel_rfl)) (by unfold Func.isWrapper;first|(rw [if_pos (by decide+kernel)];kernel_rfl)|(rw [if_neg (by decide+kernel)];exact⟨rfl,rfl⟩))
  (fun os started H enc _=>lifted os started H enc)
theorem proved:Rows.GlyphShowsSaid:=over
#print axioms proved
end Go.Proofs.YtlopleeopnnoeaaGreat.glyphShows
