/- 'typebar/typebarlaw13.GlyphWide' returns true for every input, and each argument reads behind the call as it read before. No condition. -/
import Derived.Test.YtlopleeopnnoeaaGreatMy07
import Derived.Test.YtlopleeopnnoeaaGreatMb26
import Derived.BigQuiet
set_option linter.unusedVariables false
set_option linter.unusedSimpArgs false
namespace Go.Proofs.YtlopleeopnnoeaaGreat
open Go.RowKit
theorem putS_ne (r:Int):putS r≠[]:=fun e=>by
 have:=(putS_range r).2.1
 rw [e]at this
 simp at this
theorem encU_ne {l:List Int}(h:l≠[]):encU l≠[]:=by
 cases l with
 |nil=>exact absurd rfl h
 |cons x l=>
  intro e
  have e2:putS x++encU l=[]:=e
  exact putS_ne x (List.append_eq_nil_iff.1 e2).1
theorem full_ne {K:GY.Kw}{l:List Int}(h:l≠[]):GY.fullC K l≠[]:=fun e=>h (by
 unfold GY.fullC at e
 exact(List.append_eq_nil_iff.1 (List.append_eq_nil_iff.1 e).1).2)
theorem of_good {K:GY.Kw}{l:List Int}{g:List Int × Int}(h:g∈GY.ofG K l):(g.2=1∨g.2=2)∧g.1≠[]:=by
 unfold GY.ofG at h
 split at h
 ·simp at h
 ·next h0=>
  split at h
  ·obtain⟨x,_,hx⟩:=List.mem_flatMap.1 h
   unfold GY.ctlG at hx
   split at hx
   ·simp only [List.mem_cons,List.not_mem_nil,or_false]at hx
    rcases hx with rfl|rfl
    ·exact⟨.inl rfl,by simp⟩
    ·exact⟨.inl rfl,putS_ne _⟩
   ·split at hx
    ·simp only [List.mem_cons,List.not_mem_nil,or_false]at hx
     rcases hx with rfl|rfl
     ·exact⟨.inl rfl,by simp⟩
     ·exact⟨.inl rfl,by simp⟩
    ·obtain rfl:=List.mem_singleton.1 hx
     exact⟨.inl rfl,putS_ne 65533⟩
  ·obtain rfl:=List.mem_singleton.1 h
   exact⟨GY.widthG_range _ _,encU_ne (full_ne h0)⟩
theorem gls_good {G:GY.Kw}{K:SG.Kinds}{l:List Int}{k:Nat}{g:List Int × Int}(h:g∈glsTo G K l k):(g.2=1∨g.2=2)∧g.1≠[]:=by
 obtain⟨c,_,hc⟩:=List.mem_flatMap.1 h
 exact of_good hc
theorem of_pos {K:GY.Kw}{l:List Int}(h:l≠[]):1≤(GY.ofG K l).length:=by
 unfold GY.ofG
 rw [if_neg h]
 split
 ·cases l with
  |nil=>exact absurd rfl h
  |cons x l=>
   rw [List.flatMap_cons,List.length_append]
   have:=(GY.ctlG_len x).2
   omega
 ·simp
theorem ats_get (G:GY.Kw)(K:SG.Kinds)(l:List Int){n j:Nat}(h:j≤n):(atsTo G K l n).getD j 0=((glsTo G K l j).length:Int):=by
 unfold atsTo
 simp [List.getD,show j<n+1 by omega]
theorem ats_len (G:GY.Kw)(K:SG.Kinds)(l:List Int)(n:Nat):(atsTo G K l n).length=n+1:=by unfold atsTo;simp
theorem gls_step {G:GY.Kw}{K:SG.Kinds}{l:List Int}{k:Nat}(h:k<(SG.startsP K l).length):(glsTo G K l k).length+1≤(glsTo G K l (k+1)).length∧(glsTo G K l (k+1)).length≤(glsTo G K l k).length+2*(clusP K l k).length:=by
 rw [glsTo_succ h,List.length_append]
 have h1:=ofG_len2 G (clusP K l k)
 have h2:=of_pos (K:=G) (l:=clusP K l k) (fun e=>by
  have:=clusP_len k h
  have:=(fromP_succ h).2
  rw [e]at*
  simp at*
  omega)
 omega
theorem str_ne {s:List Int}(h:s≠[]):(strOfNums s).toList≠[]:=by
 intro e
 have h1:(strOfNums s).size=s.length:=strOfNums_size s
 rw [ByteArray.toList_eq]at e
 have h2:(strOfNums s).size=0:=by
  show (strOfNums s).data.size=0
  rw [←Array.length_toList,e]
  rfl
 exact h (List.eq_nil_of_length_eq_zero (by omega))
set_option maxHeartbeats 8000000 in
set_option maxRecDepth 100000 in
theorem walk_GlyphWide (w:World)(A0:Option Addr)(n0 c0:Nat)(f0:Nat→Int)(hA:Rd w A0 n0 (fun j=> .int .i32 (f0 j)))(hle:n0≤c0)(hmax:c0≤maxLen)(hp:∀j,j<n0→(Lit.int .i32 (f0 j)).wf=true):
  Calls Tryz.prog 4 #[.slice A0 n0 c0] w (Yes w):=by
 obtain⟨T,hG,hT,C0⟩:=rows_li w
 obtain⟨l,hll,hL0,hSc⟩:=came_text hA hp 100
 have hlc:l.length≤c0:=by omega
 have hl2:l.length≤100:=by omega
 have HG:=Lib.hid hG
 have C0:=Lib.hid C0
 have AW:=Lib.hid (fun X=>awake13_yes X)
 have HL:=Lib.hid (And.intro hL0 hSc)
 have HK:=Lib.hid (show (KT T).ok∧(KT T).tidy by rw [←hT];exact⟨kt_ok given_conj,rows_tidy⟩)
 have CF:=fews_any A0 n0 c0 100 w hle (by unfold maxLen at hmax;omega) (by omega)
 rw [←hll]at CF
 have CF:=Lib.hid CF
 have HM:=Lib.hid hmax
 clear hG hA hp hT hL0 hSc hll hle hmax
 go_enter Tryz.func4,Tryz.ntmps4
 go_wp2_with fail
 refine CF.out.mono ?_
 rintro e w0 ⟨rfl,rfl⟩
 clear CF
 go_wp2_with fail
 refine C0.out.mono ?_
 rintro e w1 ⟨A,c,rfl,hL,hc,hm,hb1⟩
 have C1:=Lib.hid (build_tabs A c T w1 (hL.mono fun _ _=>trivial) hc HG.out)
 have L1:=Lib.hid (And.intro (hL.mono (S':=fun _=>True) fun _ _=>trivial) hb1)
 clear C0 hL hb1
 go_wp2_with fail
 refine C1.out.mono ?_
 rintro e w2 ⟨tp,rfl,hU,hb⟩
 have U2:=Lib.hid (And.intro hU (And.intro (L1.out.1.later hb) (L1.out.2.trans (hb.mono L1.out.2.size))))
 clear hU hb C1 L1
 have hT:T.length≤100000:=by have:=HG.out.len;omega
 have CL:=Lib.hid (line_any (T:=T) (tp:=tp) c0 w2 U2.out.1 HK.out.1 HK.out.2 (HL.out.1.later U2.out.2.2) HL.out.2 hlc HM.out (by omega))
 have CC:=Lib.hid (fun(X:World) (hX:Below w2.heap.size w2 X)=>rclusters_any (T:=T) (A:=A) (c:=c) c0 (RT.mk (A2:=A0) (U2.out.2.1.later hX) hc hT (HL.out.1.later (bStepS U2.out.2.2 hX)) HL.out.2 (by omega)) hlc HM.out)
 have HB:=Lib.hid U2.out.2.2
 obtain⟨NC,hNC⟩:∃NC,(SG.startsP (KT T) l).length=NC:=⟨_,rfl⟩
 have hnc:NC≤100:=by
  rw [←hNC]
  have:=List.length_filter_le (SG.begAt (KT T) l) (List.range l.length)
  rw [List.length_range]at this
  exact Nat.le_trans this hl2
 have HQ:=Lib.hid (show ∀k,k≤NC→(glsTo (KG T) (KT T) l k).length≤200 from fun k hk=>by
  have:=gls_le (KG T) (KT T) l k (by omega)
  have:=fromP_le (K:=KT T) (l:=l) k
  omega)
 have HS:=Lib.hid (show ∀k,k<NC→(glsTo (KG T) (KT T) l k).length+1≤(glsTo (KG T) (KT T) l (k+1)).length∧(glsTo (KG T) (KT T) l (k+1)).length≤(glsTo (KG T) (KT T) l k).length+2*(clusP (KT T) l k).length∧(clusP (KT T) l k).length≤100∧(clusL (KT T) l).getD k []=clusP (KT T) l k from fun k hk=>by
  subst hNC
  have h1:=gls_step (G:=KG T) hk
  exact⟨h1.1,h1.2,Nat.le_trans (clus_le hk) hl2,clusL_at hk⟩)
 have HCL:=Lib.hid (show (clusL (KT T) l).length=NC by rw [clusL_len];exact hNC)
 have HGd:=Lib.hid (fun g (h:g∈lineG (KG T) (KT T) l)=>gls_good h)
 have HLG:=Lib.hid (show lineG (KG T) (KT T) l=glsTo (KG T) (KT T) l NC by unfold lineG;rw [hNC])
 have HA:=Lib.hid (show (atsTo (KG T) (KT T) l NC).length=NC+1∧∀j,j≤NC→(atsTo (KG T) (KT T) l NC).getD j 0=((glsTo (KG T) (KT T) l j).length:Int)from⟨ats_len _ _ _ _,fun j hj=>ats_get _ _ _ hj⟩)
 have HZ0:=Lib.hid (show (glsTo (KG T) (KT T) l 0).length=0 from rfl)
 rw [hNC]at CL CC
 obtain⟨D,hD⟩:∃D,lineG (KG T) (KT T) l=D:=⟨_,rfl⟩
 obtain⟨L,hLL⟩:∃L,atsTo (KG T) (KT T) l NC=L:=⟨_,rfl⟩
 rw [hD]at CL HGd HLG
 rw [hLL]at CL HA
 obtain⟨N,hN⟩:∃N,l.length=N:=⟨_,rfl⟩
 rw [hN]at CL CC ⊢
 clear U2 hD hLL hN hNC hlc hl2 HL HK HM
 go_wp2_with fail
 refine CL.out.mono ?_
 rintro e w3 ⟨A1,n1,c1,A2,n2,c2,rfl,h⟩
 have hn1:=own_count encG_len (by decide) h.own1
 have hn2:=own_count encI_len1 (by decide) h.own2
 have hl1:=(LiV.own encG_len (by decide) h.own1).parts.2.1
 have hl3:=(LiV.own encI_len1 (by decide) h.own2).parts.2.1
 have B3:=Lib.hid (And.intro h.be (And.intro hl1 hl3))
 have HD:=Lib.hid (show D.length=n1 from hn1)
 have hn2':n2=NC+1:=by rw [←hn2];exact HA.out.1
 subst hn2'
 have hq1:n1≤200:=by rw [←hn1,HLG.out];exact HQ.out NC (Nat.le_refl _)
 clear CL h hn1 hn2 hl1 hl3
 go_wp2
 go_loopw [6] (fun i wr=>∃k:Nat,k≤n1∧i= .int .i64 k∧wr=w3) (fun i _=>n1 -(intOf i).toNat)
 case atStart=>exact⟨0,Nat.zero_le _,rfl,rfl⟩
 case round=>
  obtain⟨k,hk,rfl,rfl⟩:=hrel
  by_cases hlt:k<n1
  ·obtain⟨s,d,b,o,hx,rfl,hb,a0,a1⟩:=B3.out.2.1.gl (j:=k) (by rw [HD.out];exact hlt)
   have hg:=HGd.out _ (List.mem_of_getElem? hx)
   obtain⟨t,ht⟩:∃t,strOfNums s=t:=⟨_,rfl⟩
   have hne:=str_ne hg.2
   rw [ht]at a0 hne
   have e1:(t.toList==[])=false:=by simpa using hne
   have e2:t.toList.isEmpty=false:=by simpa using hne
   have hd:d=1∨d=2:=hg.1
   clear hx hg ht
   rcases hd with rfl|rfl
   all_goals
    go_wp2
    go_roundw
    case rel=>exact⟨k+1,by omega,by go_num,trivial⟩
    case measure=>simp [intOf];omega
  ·obtain rfl:k=n1:=by omega
   have CC1:=Lib.hid (CC.out wr B3.out.1)
   clear CC
   obtain⟨b2,o2,rfl,hb2,_,hcell⟩:=B3.out.2.2.ints (by rw [HA.out.1];omega)
   have z0:=hcell 0 (by rw [HA.out.1];omega)
   have zn:=hcell NC (by rw [HA.out.1];omega)
   rw [HA.out.2 0 (Nat.zero_le _),HZ0.out,Nat.add_zero]at z0
   rw [HA.out.2 NC (Nat.le_refl _),←HLG.out,HD.out]at zn
   have HCe:=Lib.hid (show ∀j,j≤NC→wr.cell? ⟨b2,o2+j,none⟩=some (.int .i64 ((glsTo (KG T) (KT T) l j).length:Int))from fun j hj=>by rw [hcell j (by rw [HA.out.1];omega),HA.out.2 j hj])
   clear hcell
   go_wp2_with fail
   refine CC1.out.mono ?_
   rintro e w4 ⟨Ac,cc,rfl,hT4,hb4⟩
   have y0:=(hb4.cell (p:=⟨b2,o2,none⟩) hb2).trans z0
   have yn:=(hb4.cell (p:=⟨b2,o2+NC,none⟩) hb2).trans zn
   have B4:=Lib.hid (And.intro hT4 (And.intro hb4 (bStepS B3.out.1 hb4)))
   clear CC1 hT4 hb4 z0 zn
   go_wp2
   go_loopw [8] (fun i wx=>∃k:Nat,k≤NC∧i= .int .i64 k∧∃r,wx=w4.drewN r) (fun i _=>NC -(intOf i).toNat)
   case atStart=>exact⟨0,Nat.zero_le _,rfl,0,rfl⟩
   case round=>
    obtain⟨j,hj,rfl,r,rfl⟩:=hrel
    by_cases hjl:j<NC
    ·have hs:=HS.out j hjl
     obtain⟨b5,o5,Aj,nj,cj,rfl,hb5,c5,htx⟩:=TxtsS.at_ B4.out.1 (j:=j) (by rw [HCL.out];exact hjl)
     rw [hs.2.2.2]at htx
     obtain⟨rfl,_,_,_⟩:=li_txt htx
     have q0:=(B4.out.2.1.cell (p:=⟨b2,o2+j,none⟩) hb2).trans (HCe.out j hj)
     have q1:=(B4.out.2.1.cell (p:=⟨b2,o2+(j+1),none⟩) hb2).trans (HCe.out (j+1) (by omega))
     have p0:=HQ.out j hj
     have p1:=HQ.out (j+1) (by omega)
     obtain⟨P0,hP0⟩:∃P,(glsTo (KG T) (KT T) l j).length=P:=⟨_,rfl⟩
     obtain⟨P1,hP1⟩:∃P,(glsTo (KG T) (KT T) l (j+1)).length=P:=⟨_,rfl⟩
     obtain⟨M,hM⟩:∃M,(clusP (KT T) l j).length=M:=⟨_,rfl⟩
     rw [hP0]at q0 p0 hs
     rw [hP1]at q1 p1 hs
     rw [hM]at hs c5
     have hs1:=hs.1
     have hs2:=hs.2.1
     have hs3:=hs.2.2.1
     have e0:IntKind.i64.wrap ((P1:Int) -(P0:Int))=(P1:Int) -(P0:Int):=by rw [IntKind.wrap_i64];omega
     have e3:IntKind.i64.wrap (2*(M:Int))=2*(M:Int):=by rw [IntKind.wrap_i64];omega
     have e4:IntKind.i64.wrap ((j:Int)+1)=(j:Int)+1:=by rw [IntKind.wrap_i64];omega
     have d1:decide ((P1:Int) -(P0:Int)<1)=false:=by simp;omega
     have d2:decide (2*(M:Int)<(P1:Int) -(P0:Int))=false:=by simp;omega
     clear hs htx hP0 hP1 hM y0 yn
     go_wp2_with fail
     go_quiet (fail)
     go_wp2
     go_roundw
     case rel=>exact⟨j+1,by omega,by go_num,_,rfl⟩
     case measure=>simp [intOf];omega
    ·obtain rfl:j=NC:=by omega
     go_wp2_with fail
     refine(AW.out _).mono ?_
     rintro e w8 ⟨rfl,hb⟩
     have U6:=Lib.hid (bStepS HB.out (bStepS (belDrew B4.out.2.2 r) hb))
     clear hb
     go_wp2
     go_ret
     exact⟨rfl,U6.out⟩
end Go.Proofs.YtlopleeopnnoeaaGreat
namespace Go.Proofs.YtlopleeopnnoeaaGreat.glyphWide
open Go.ChangeShapes Go.WideShapes Go.ChangeAt Go.RowKit Go.WideMaps Go.WideElems
open Go.ChangeMaps (open_string)
theorem own:ownKnob Tryz.prog.godebug=none:=by kernel_rfl
theorem laidOut:laidOutB Tryz.prog=true:=by kernel_rfl
set_option linter.unusedVariables false in
set_option maxRecDepth 100000 in
theorem lifted (os:Os)(started:os.Started)(H:Type)(enc:TypeId × Value→H):
  ReturnsInHanded {} Tryz.checked os 4 .any (Rows.glyphWideSpec.pre6 enc Tryz.prog Tryz.f4 Rows.glyphWideRow.domain false) (Rows.glyphWideSpec.post enc Tryz.prog Tryz.f4 false true false false):=by
 refine returnsInHanded_of_change (C:= Tryz.checked) own started (by kernel_rfl) Tryz.func4
  (ChangeSpec.witness6 (enc:=enc) (C:= Tryz.checked) false ⟨#[],#[.slice none 0 0],[]⟩ 8 (by kernel_rfl) (by kernel_rfl) (by kernel_rfl) (by kernel_rfl)) ?_
 intro W base args ds gs before hval0 hW hcnd _
 have hval:∀ (j:Nat) t v,Tryz.f4.params[j]? =some t→args[j]? =some v→Value.okWide Tryz.prog W .any base t v:=hval0
 have hW':=hW
 obtain⟨p,q,hA0,hV,rfl,hfz,hnd⟩:=hW
 have hA:DataW.TrodAll enc Tryz.prog W 0 (fun _=>true) true Tryz.f4.params.toList args.toList ds p:=hA0
 rw [Tryz.params4]at hA hval
 obtain⟨v0,vs0,d0,ds0,p0,q0,hargs,rfl,rfl,h0,r0⟩:=trodAll_cons hA
 obtain⟨rfl,rfl,rfl⟩:=trodAll_nil r0
 obtain rfl:args=#[v0]:=by cases args;simp_all
 obtain⟨rfl,rfl⟩:=trodVars_none hV
 obtain⟨A0,n0,c0,f0,C0,w0⟩:=arg_ints Tryz.underlying22 Tryz.underlying21 (by kernel_rfl) (hval 0 22 v0 rfl rfl) h0
 obtain rfl:=C0.eq
 refine(walk_GlyphWide W A0 n0 c0 f0 C0.rd C0.le C0.max w0).mono fun e W' ⟨he,hb⟩=> ?_
 subst he
 exact⟨_,rfl,law_post hW' rfl rfl rfl rfl laidOut (by kernel_rfl) rfl Tryz.underlying4 hb⟩
theorem over:Rows.glyphWideRow.holds Tryz.pinned (OpenSpec.ofChange Rows.glyphWideSpec):=
 OpenClaim.holds_of_wide 4 Tryz.f4 rfl rfl rfl rfl rfl rfl rfl ⟨rfl,rfl,rfl,rfl,rfl⟩ rfl rfl rfl rfl rfl (by kernel_rfl) Tryz.func4 (by kernel_rfl)
  (of_decide_eq_true (by kernel_rfl)) (by unfold Func.isWrapper;first|(rw [if_pos (by decide+kernel)];kernel_rfl)|(rw [if_neg (by decide+kernel)];exact⟨rfl,rfl⟩))
  (fun os started H enc _=>lifted os started H enc)
theorem proved:Rows.GlyphWideSaid:=over
#print axioms proved
end Go.Proofs.YtlopleeopnnoeaaGreat.glyphWide
