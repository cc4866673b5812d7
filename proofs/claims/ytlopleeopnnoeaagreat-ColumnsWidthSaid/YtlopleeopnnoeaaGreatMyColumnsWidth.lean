/- 'typebar/typebarlaw45.ColumnsWidth' returns true for every input, and each argument reads behind the call as it read before. No condition. -/
import Derived.Test.YtlopleeopnnoeaaGreatMy07
import Derived.Test.YtlopleeopnnoeaaGreatMb26
import Derived.BigQuiet
import Derived.Test.YtlopleeopnnoeaaGreatMb01
import Derived.IntWalk
import Derived.Handy
import Derived.Deep.OwnRows
set_option linter.unusedVariables false
set_option linter.unusedSimpArgs false
namespace Go.Proofs.YtlopleeopnnoeaaGreat
open Go.RowKit
theorem putS_ne (r:Int):putS r≠[]:=fun e=>by
 have:=(putS_range r).2.1
 rw [e]at this
 simp at this
theorem encU_ne {l:List Int}(h:l≠[]):encU l≠[]:=by
 cases l with
 |nil=>exact absurd rfl h
 |cons x l=>
  intro e
  have e2:putS x++encU l=[]:=e
  exact putS_ne x (List.append_eq_nil_iff.1 e2).1
theorem full_ne {K:GY.Kw}{l:List Int}(h:l≠[]):GY.fullC K l≠[]:=fun e=>h (by
 unfold GY.fullC at e
 exact(List.append_eq_nil_iff.1 (List.append_eq_nil_iff.1 e).1).2)
theorem of_good {K:GY.Kw}{l:List Int}{g:List Int × Int}(h:g∈GY.ofG K l):(g.2=1∨g.2=2)∧g.1≠[]:=by
 unfold GY.ofG at h
 split at h
 ·simp at h
 ·next h0=>
  split at h
  ·obtain⟨x,_,hx⟩:=List.mem_flatMap.1 h
   unfold GY.ctlG at hx
   split at hx
   ·simp only [List.mem_cons,List.not_mem_nil,or_false]at hx
    rcases hx with rfl|rfl
    ·exact⟨.inl rfl,by simp⟩
    ·exact⟨.inl rfl,putS_ne _⟩
   ·split at hx
    ·simp only [List.mem_cons,List.not_mem_nil,or_false]at hx
     rcases hx with rfl|rfl
     ·exact⟨.inl rfl,by simp⟩
     ·exact⟨.inl rfl,by simp⟩
    ·obtain rfl:=List.mem_singleton.1 hx
     exact⟨.inl rfl,putS_ne 65533⟩
  ·obtain rfl:=List.mem_singleton.1 h
   exact⟨GY.widthG_range _ _,encU_ne (full_ne h0)⟩
theorem gls_good {G:GY.Kw}{K:SG.Kinds}{l:List Int}{k:Nat}{g:List Int × Int}(h:g∈glsTo G K l k):(g.2=1∨g.2=2)∧g.1≠[]:=by
 obtain⟨c,_,hc⟩:=List.mem_flatMap.1 h
 exact of_good hc
theorem of_pos {K:GY.Kw}{l:List Int}(h:l≠[]):1≤(GY.ofG K l).length:=by
 unfold GY.ofG
 rw [if_neg h]
 split
 ·cases l with
  |nil=>exact absurd rfl h
  |cons x l=>
   rw [List.flatMap_cons,List.length_append]
   have:=(GY.ctlG_len x).2
   omega
 ·simp
theorem ats_get (G:GY.Kw)(K:SG.Kinds)(l:List Int){n j:Nat}(h:j≤n):(atsTo G K l n).getD j 0=((glsTo G K l j).length:Int):=by
 unfold atsTo
 simp [List.getD,show j<n+1 by omega]
theorem ats_len (G:GY.Kw)(K:SG.Kinds)(l:List Int)(n:Nat):(atsTo G K l n).length=n+1:=by unfold atsTo;simp
theorem gls_step {G:GY.Kw}{K:SG.Kinds}{l:List Int}{k:Nat}(h:k<(SG.startsP K l).length):(glsTo G K l k).length+1≤(glsTo G K l (k+1)).length∧(glsTo G K l (k+1)).length≤(glsTo G K l k).length+2*(clusP K l k).length:=by
 rw [glsTo_succ h,List.length_append]
 have h1:=ofG_len2 G (clusP K l k)
 have h2:=of_pos (K:=G) (l:=clusP K l k) (fun e=>by
  have:=clusP_len k h
  have:=(fromP_succ h).2
  rw [e]at*
  simp at*
  omega)
 omega
theorem str_ne {s:List Int}(h:s≠[]):(strOfNums s).toList≠[]:=by
 intro e
 have h1:(strOfNums s).size=s.length:=strOfNums_size s
 rw [ByteArray.toList_eq]at e
 have h2:(strOfNums s).size=0:=by
  show (strOfNums s).data.size=0
  rw [←Array.length_toList,e]
  rfl
 exact h (List.eq_nil_of_length_eq_zero (by omega))
set_option maxHeartbeats 8000000 in
set_option maxRecDepth 100000 in
theorem walk_GlyphWide (w:World)(A0:Option Addr)(n0 c0:Nat)(f0:Nat→Int)(hA:Rd w A0 n0 (fun j=> .int .i32 (f0 j)))(hle:n0≤c0)(hmax:c0≤maxLen)(hp:∀j,j<n0→(Lit.int .i32 (f0 j)).wf=true):
  Calls Tryz.prog 4 #[.slice A0 n0 c0] w (Yes w):=by
 obtain⟨T,hG,hT,C0⟩:=rows_li w
 obtain⟨l,hll,hL0,hSc⟩:=came_text hA hp 100
 have hlc:l.length≤c0:=by omega
 have hl2:l.length≤100:=by omega
 have HG:=Lib.hid hG
 have C0:=Lib.hid C0
 have AW:=Lib.hid (fun X=>awake13_yes X)
 have HL:=Lib.hid (And.intro hL0 hSc)
 have HK:=Lib.hid (show (KT T).ok∧(KT T).tidy by rw [←hT];exact⟨kt_ok given_conj,rows_tidy⟩)
 have CF:=fews_any A0 n0 c0 100 w hle (by unfold maxLen at hmax;omega) (by omega)
 rw [←hll]at CF
 have CF:=Lib.hid CF
 have HM:=Lib.hid hmax
 clear hG hA hp hT hL0 hSc hll hle hmax
 go_enter Tryz.func4,Tryz.ntmps4
 go_wp2_with fail
 refine CF.out.mono ?_
 rintro e w0 ⟨rfl,rfl⟩
 clear CF
 go_wp2_with fail
 refine C0.out.mono ?_
 rintro e w1 ⟨A,c,rfl,hL,hc,hm,hb1⟩
 have C1:=Lib.hid (build_tabs A c T w1 (hL.mono fun _ _=>trivial) hc HG.out)
 have L1:=Lib.hid (And.intro (hL.mono (S':=fun _=>True) fun _ _=>trivial) hb1)
 clear C0 hL hb1
 go_wp2_with fail
 refine C1.out.mono ?_
 rintro e w2 ⟨tp,rfl,hU,hb⟩
 have U2:=Lib.hid (And.intro hU (And.intro (L1.out.1.later hb) (L1.out.2.trans (hb.mono L1.out.2.size))))
 clear hU hb C1 L1
 have hT:T.length≤100000:=by have:=HG.out.len;omega
 have CL:=Lib.hid (line_any (T:=T) (tp:=tp) c0 w2 U2.out.1 HK.out.1 HK.out.2 (HL.out.1.later U2.out.2.2) HL.out.2 hlc HM.out (by omega))
 have CC:=Lib.hid (fun(X:World) (hX:Below w2.heap.size w2 X)=>rclusters_any (T:=T) (A:=A) (c:=c) c0 (RT.mk (A2:=A0) (U2.out.2.1.later hX) hc hT (HL.out.1.later (bStepS U2.out.2.2 hX)) HL.out.2 (by omega)) hlc HM.out)
 have HB:=Lib.hid U2.out.2.2
 obtain⟨NC,hNC⟩:∃NC,(SG.startsP (KT T) l).length=NC:=⟨_,rfl⟩
 have hnc:NC≤100:=by
  rw [←hNC]
  have:=List.length_filter_le (SG.begAt (KT T) l) (List.range l.length)
  rw [List.length_range]at this
  exact Nat.le_trans this hl2
 have HQ:=Lib.hid (show ∀k,k≤NC→(glsTo (KG T) (KT T) l k).length≤200 from fun k hk=>by
  have:=gls_le (KG T) (KT T) l k (by omega)
  have:=fromP_le (K:=KT T) (l:=l) k
  omega)
 have HS:=Lib.hid (show ∀k,k<NC→(glsTo (KG T) (KT T) l k).length+1≤(glsTo (KG T) (KT T) l (k+1)).length∧(glsTo (KG T) (KT T) l (k+1)).length≤(glsTo (KG T) (KT T) l k).length+2*(clusP (KT T) l k).length∧(clusP (KT T) l k).length≤100∧(clusL (KT T) l).getD k []=clusP (KT T) l k from fun k hk=>by
  subst hNC
  have h1:=gls_step (G:=KG T) hk
  exact⟨h1.1,h1.2,Nat.le_trans (clus_le hk) hl2,clusL_at hk⟩)
 have HCL:=Lib.hid (show (clusL (KT T) l).length=NC by rw [clusL_len];exact hNC)
 have HGd:=Lib.hid (fun g (h:g∈lineG (KG T) (KT T) l)=>gls_good h)
 have HLG:=Lib.hid (show lineG (KG T) (KT T) l=glsTo (KG T) (KT T) l NC by unfold lineG;rw [hNC])
 have HA:=Lib.hid (show (atsTo (KG T) (KT T) l NC).length=NC+1∧∀j,j≤NC→(atsTo (KG T) (KT T) l NC).getD j 0=((glsTo (KG T) (KT T) l j).length:Int)from⟨ats_len _ _ _ _,fun j hj=>ats_get _ _ _ hj⟩)
 have HZ0:=Lib.hid (show (glsTo (KG T) (KT T) l 0).length=0 from rfl)
 rw [hNC]at CL CC
 obtain⟨D,hD⟩:∃D,lineG (KG T) (KT T) l=D:=⟨_,rfl⟩
 obtain⟨L,hLL⟩:∃L,atsTo (KG T) (KT T) l NC=L:=⟨_,rfl⟩
 rw [hD]at CL HGd HLG
 rw [hLL]at CL HA
 obtain⟨N,hN⟩:∃N,l.length=N:=⟨_,rfl⟩
 rw [hN]at CL CC ⊢
 clear U2 hD hLL hN hNC hlc hl2 HL HK HM
 go_wp2_with fail
 refine CL.out.mono ?_
 rintro e w3 ⟨A1,n1,c1,A2,n2,c2,rfl,h⟩
 have hn1:=own_count encG_len (by decide) h.own1
 have hn2:=own_count encI_len1 (by decide) h.own2
 have hl1:=(LiV.own encG_len (by decide) h.own1).parts.2.1
 have hl3:=(LiV.own encI_len1 (by decide) h.own2).parts.2.1
 have B3:=Lib.hid (And.intro h.be (And.intro hl1 hl3))
 have HD:=Lib.hid (show D.length=n1 from hn1)
 have hn2':n2=NC+1:=by rw [←hn2];exact HA.out.1
 subst hn2'
 have hq1:n1≤200:=by rw [←hn1,HLG.out];exact HQ.out NC (Nat.le_refl _)
 clear CL h hn1 hn2 hl1 hl3
 go_wp2
 go_loopw [6] (fun i wr=>∃k:Nat,k≤n1∧i= .int .i64 k∧wr=w3) (fun i _=>n1 -(intOf i).toNat)
 case atStart=>exact⟨0,Nat.zero_le _,rfl,rfl⟩
 case round=>
  obtain⟨k,hk,rfl,rfl⟩:=hrel
  by_cases hlt:k<n1
  ·obtain⟨s,d,b,o,hx,rfl,hb,a0,a1⟩:=B3.out.2.1.gl (j:=k) (by rw [HD.out];exact hlt)
   have hg:=HGd.out _ (List.mem_of_getElem? hx)
   obtain⟨t,ht⟩:∃t,strOfNums s=t:=⟨_,rfl⟩
   have hne:=str_ne hg.2
   rw [ht]at a0 hne
   have e1:(t.toList==[])=false:=by simpa using hne
   have e2:t.toList.isEmpty=false:=by simpa using hne
   have hd:d=1∨d=2:=hg.1
   clear hx hg ht
   rcases hd with rfl|rfl
   all_goals
    go_wp2
    go_roundw
    case rel=>exact⟨k+1,by omega,by go_num,trivial⟩
    case measure=>simp [intOf];omega
  ·obtain rfl:k=n1:=by omega
   have CC1:=Lib.hid (CC.out wr B3.out.1)
   clear CC
   obtain⟨b2,o2,rfl,hb2,_,hcell⟩:=B3.out.2.2.ints (by rw [HA.out.1];omega)
   have z0:=hcell 0 (by rw [HA.out.1];omega)
   have zn:=hcell NC (by rw [HA.out.1];omega)
   rw [HA.out.2 0 (Nat.zero_le _),HZ0.out,Nat.add_zero]at z0
   rw [HA.out.2 NC (Nat.le_refl _),←HLG.out,HD.out]at zn
   have HCe:=Lib.hid (show ∀j,j≤NC→wr.cell? ⟨b2,o2+j,none⟩=some (.int .i64 ((glsTo (KG T) (KT T) l j).length:Int))from fun j hj=>by rw [hcell j (by rw [HA.out.1];omega),HA.out.2 j hj])
   clear hcell
   go_wp2_with fail
   refine CC1.out.mono ?_
   rintro e w4 ⟨Ac,cc,rfl,hT4,hb4⟩
   have y0:=(hb4.cell (p:=⟨b2,o2,none⟩) hb2).trans z0
   have yn:=(hb4.cell (p:=⟨b2,o2+NC,none⟩) hb2).trans zn
   have B4:=Lib.hid (And.intro hT4 (And.intro hb4 (bStepS B3.out.1 hb4)))
   clear CC1 hT4 hb4 z0 zn
   go_wp2
   go_loopw [8] (fun i wx=>∃k:Nat,k≤NC∧i= .int .i64 k∧∃r,wx=w4.drewN r) (fun i _=>NC -(intOf i).toNat)
   case atStart=>exact⟨0,Nat.zero_le _,rfl,0,rfl⟩
   case round=>
    obtain⟨j,hj,rfl,r,rfl⟩:=hrel
    by_cases hjl:j<NC
    ·have hs:=HS.out j hjl
     obtain⟨b5,o5,Aj,nj,cj,rfl,hb5,c5,htx⟩:=TxtsS.at_ B4.out.1 (j:=j) (by rw [HCL.out];exact hjl)
     rw [hs.2.2.2]at htx
     obtain⟨rfl,_,_,_⟩:=li_txt htx
     have q0:=(B4.out.2.1.cell (p:=⟨b2,o2+j,none⟩) hb2).trans (HCe.out j hj)
     have q1:=(B4.out.2.1.cell (p:=⟨b2,o2+(j+1),none⟩) hb2).trans (HCe.out (j+1) (by omega))
     have p0:=HQ.out j hj
     have p1:=HQ.out (j+1) (by omega)
     obtain⟨P0,hP0⟩:∃P,(glsTo (KG T) (KT T) l j).length=P:=⟨_,rfl⟩
     obtain⟨P1,hP1⟩:∃P,(glsTo (KG T) (KT T) l (j+1)).length=P:=⟨_,rfl⟩
     obtain⟨M,hM⟩:∃M,(clusP (KT T) l j).length=M:=⟨_,rfl⟩
     rw [hP0]at q0 p0 hs
     rw [hP1]at q1 p1 hs
     rw [hM]at hs c5
     have hs1:=hs.1
     have hs2:=hs.2.1
     have hs3:=hs.2.2.1
     have e0:IntKind.i64.wrap ((P1:Int) -(P0:Int))=(P1:Int) -(P0:Int):=by rw [IntKind.wrap_i64];omega
     have e3:IntKind.i64.wrap (2*(M:Int))=2*(M:Int):=by rw [IntKind.wrap_i64];omega
     have e4:IntKind.i64.wrap ((j:Int)+1)=(j:Int)+1:=by rw [IntKind.wrap_i64];omega
     have d1:decide ((P1:Int) -(P0:Int)<1)=false:=by simp;omega
     have d2:decide (2*(M:Int)<(P1:Int) -(P0:Int))=false:=by simp;omega
     clear hs htx hP0 hP1 hM y0 yn
     go_wp2_with fail
     go_quiet (fail)
     go_wp2
     go_roundw
     case rel=>exact⟨j+1,by omega,by go_num,_,rfl⟩
     case measure=>simp [intOf];omega
    ·obtain rfl:j=NC:=by omega
     go_wp2_with fail
     refine(AW.out _).mono ?_
     rintro e w8 ⟨rfl,hb⟩
     have U6:=Lib.hid (bStepS HB.out (bStepS (belDrew B4.out.2.2 r) hb))
     clear hb
     go_wp2
     go_ret
     exact⟨rfl,U6.out⟩
def cntR (r row i:Nat):Nat:=(i+r - 1 - row)/r
def cntC (r c i:Nat):Nat:=min (i - c*r) r
theorem div_at {r q m:Nat}(hm:m<r):(r*q+m)/r=q:=by
 rw [Nat.mul_add_div (by omega),Nat.div_eq_of_lt hm,Nat.add_zero]
theorem cntR_zero {r row:Nat}(h:row<r):cntR r row 0=0:=by
 unfold cntR
 exact Nat.div_eq_of_lt (by omega)
theorem cntR_hit {r row i:Nat}(h:row<r)(hi:i%r=row):cntR r row (i+1)=cntR r row i+1∧i=row+cntR r row i*r:=by
 have e:=Nat.div_add_mod i r
 rw [hi]at e
 obtain⟨q,hq⟩:∃q,i/r=q:=⟨_,rfl⟩
 rw [hq]at e
 have h1:cntR r row i=q:=by
  unfold cntR
  rw [show i+r - 1 - row=r*q+(r - 1)by omega]
  exact div_at (by omega)
 have h2:cntR r row (i+1)=q+1:=by
  unfold cntR
  rw [show i+1+r - 1 - row=r*(q+1)+0 by rw [Nat.mul_add];omega]
  exact div_at (by omega)
 rw [h1,h2]
 exact⟨rfl,by rw [Nat.mul_comm];omega⟩
theorem cntR_miss {r row i:Nat}(h:row<r)(hi:i%r≠row):cntR r row (i+1)=cntR r row i:=by
 have e:=Nat.div_add_mod i r
 have hm:i%r<r:=Nat.mod_lt _ (by omega)
 obtain⟨q,hq⟩:∃q,i/r=q:=⟨_,rfl⟩
 obtain⟨m,hmm⟩:∃m,i%r=m:=⟨_,rfl⟩
 rw [hq,hmm]at e
 rw [hmm]at hm hi
 unfold cntR
 rcases Nat.lt_or_gt_of_ne hi with hlt|hgt
 ·rw [show i+1+r - 1 - row=r*q+(m+r - row)by omega,show i+r - 1 - row=r*q+(m+r - 1 - row)by omega,div_at (by omega),div_at (by omega)]
 ·rw [show i+1+r - 1 - row=r*(q+1)+(m - row)by rw [Nat.mul_add];omega,show i+r - 1 - row=r*(q+1)+(m - 1 - row)by rw [Nat.mul_add];omega,div_at (by omega),div_at (by omega)]
theorem cntR_all {r row n:Nat}(h:row<r)(hn:row<n):cntR r row n=(n - 1 - row)/r+1:=by
 unfold cntR
 rw [show n+r - 1 - row=(n - 1 - row)+r by omega,Nat.add_div_right _ (by omega)]
theorem cntR_col {r at_:Nat}(h:0<r):cntR r (at_%r) at_=at_/r:=by
 have h1:=(cntR_hit (Nat.mod_lt at_ h) rfl).2
 have e:=Nat.div_add_mod at_ r
 have:r*cntR r (at_%r) at_=r*(at_/r):=by rw [Nat.mul_comm r (cntR r (at_%r) at_)];omega
 exact Nat.eq_of_mul_eq_mul_left h this
theorem cntR_mono {r row i j:Nat}(hij:i≤j):cntR r row i≤cntR r row j:=Nat.div_le_div_right (by omega)
theorem cntC_zero {r c:Nat}:cntC r c 0=0:=by unfold cntC;omega
theorem cntC_hit {r c i:Nat}(h:0<r)(hi:i/r=c):cntC r c (i+1)=cntC r c i+1∧i=c*r+cntC r c i:=by
 have e:=Nat.div_add_mod i r
 have hm:i%r<r:=Nat.mod_lt _ h
 rw [hi,Nat.mul_comm]at e
 unfold cntC
 omega
theorem cntC_miss {r c i:Nat}(h:0<r)(hi:i/r≠c):cntC r c (i+1)=cntC r c i:=by
 have h1:i<c*r∨c*r+r≤i:=by
  rcases Nat.lt_or_ge i (c*r)with hlt|hge
  ·exact .inl hlt
  ·refine .inr ?_
   rcases Nat.lt_or_ge i (c*r+r)with hlt|hge2
   ·exfalso
    apply hi
    have:i=r*c+(i - c*r):=by rw [Nat.mul_comm];omega
    rw [this]
    exact div_at (by omega)
   ·exact hge2
 unfold cntC
 omega
theorem map_grow (f:Nat→Nat)(k i:Nat)(h:i=f k):((List.range k).map f)++[i]=(List.range (k+1)).map f:=by
 rw [List.range_succ,List.map_append,h];rfl
theorem row_left {r n at_:Nat}(hr:0<r)(h:at_<n):
  (at_%r)+((at_/r+cntR r (at_%r) n - 1)%cntR r (at_%r) n)*r=if at_<r then (at_%r)+(n - 1 - at_%r)/r*r else at_ - r:=by
 have hm:=Nat.mod_lt at_ hr
 have hle:=Nat.mod_le at_ r
 have hK:=cntR_all hm (show at_%r<n by omega)
 have e:=Nat.div_add_mod at_ r
 have hcol:at_/r<cntR r (at_%r) n:=by
  have h1:=(cntR_hit hm rfl).1
  rw [cntR_col hr]at h1
  have:=cntR_mono (r:=r) (row:=at_%r) (show at_+1≤n by omega)
  omega
 by_cases hlt:at_<r
 ·rw [if_pos hlt,Nat.div_eq_of_lt hlt,hK]
  obtain⟨Q,hQ⟩:∃Q,(n - 1 - at_%r)/r=Q:=⟨_,rfl⟩
  rw [hQ,show 0+(Q+1) - 1=Q by omega,Nat.mod_eq_of_lt (show Q<Q+1 from Nat.lt_succ_self _)]
 ·rw [if_neg hlt]
  have hc:0<at_/r:=Nat.div_pos (by omega) hr
  rw [show at_/r+cntR r (at_%r) n - 1=(at_/r - 1)+cntR r (at_%r) n by omega,Nat.add_mod_right,Nat.mod_eq_of_lt (show at_/r - 1<cntR r (at_%r) n by omega),Nat.sub_mul,Nat.one_mul,Nat.mul_comm]
  have:r≤r*(at_/r):=Nat.le_mul_of_pos_right _ hc
  omega
theorem row_right {r n at_:Nat}(hr:0<r)(h:at_<n):
  (at_%r)+((at_/r+1)%cntR r (at_%r) n)*r=if n≤at_+r then at_%r else at_+r:=by
 have hm:=Nat.mod_lt at_ hr
 have hle:=Nat.mod_le at_ r
 have e:=Nat.div_add_mod at_ r
 have h1:=(cntR_hit hm rfl).1
 rw [cntR_col hr]at h1
 by_cases hlt:n≤at_+r
 ·rw [if_pos hlt]
  have hle2:=cntR_mono (r:=r) (row:=at_%r) hlt
  have hge:=cntR_mono (r:=r) (row:=at_%r) (show at_+1≤n by omega)
  have h3:cntR r (at_%r) (at_+r)=at_/r+1:=by
   have h4:=cntR_col (r:=r) (at_:=at_+r) hr
   rw [Nat.add_mod_right,Nat.add_div_right _ hr]at h4
   exact h4
  rw [show cntR r (at_%r) n=at_/r+1 by omega,Nat.mod_self,Nat.zero_mul,Nat.add_zero]
 ·rw [if_neg hlt]
  have h3:cntR r (at_%r) (at_+r)=at_/r+1:=by
   have h4:=cntR_col (r:=r) (at_:=at_+r) hr
   rw [Nat.add_mod_right,Nat.add_div_right _ hr]at h4
   exact h4
  have h5:=(cntR_hit hm (show (at_+r)%r=at_%r by rw [Nat.add_mod_right])).1
  have h6:=cntR_mono (r:=r) (row:=at_%r) (show at_+r+1≤n by omega)
  rw [Nat.mod_eq_of_lt (show at_/r+1<cntR r (at_%r) n by omega),Nat.add_mul,Nat.one_mul,Nat.mul_comm]
  omega
theorem col_len {r n at_:Nat}(hr:0<r)(h:at_<n):cntC r (at_/r) n=min (at_/r*r+r) n - at_/r*r∧cntC r (at_/r) at_=at_%r∧at_%r<cntC r (at_/r) n:=by
 have hm:=Nat.mod_lt at_ hr
 have e:=Nat.div_add_mod at_ r
 rw [Nat.mul_comm]at e
 unfold cntC
 omega
theorem col_up {r n at_:Nat}(hr:0<r)(h:at_<n):
  at_/r*r+((at_%r+cntC r (at_/r) n - 1)%cntC r (at_/r) n)=if at_%r=0 then min (at_/r*r+r) n - 1 else at_ - 1:=by
 have hm:=Nat.mod_lt at_ hr
 have e:=Nat.div_add_mod at_ r
 rw [Nat.mul_comm]at e
 obtain⟨h1,h2,h3⟩:=col_len hr h
 by_cases h0:at_%r=0
 ·rw [if_pos h0,h0,Nat.zero_add,Nat.mod_eq_of_lt (show cntC r (at_/r) n - 1<cntC r (at_/r) n by omega)]
  omega
 ·rw [if_neg h0,show at_%r+cntC r (at_/r) n - 1=(at_%r - 1)+cntC r (at_/r) n by omega,Nat.add_mod_right,Nat.mod_eq_of_lt (show at_%r - 1<cntC r (at_/r) n by omega)]
  omega
theorem col_down {r n at_:Nat}(hr:0<r)(h:at_<n):
  at_/r*r+((at_%r+1)%cntC r (at_/r) n)=if at_=min (at_/r*r+r) n - 1 then at_/r*r else at_+1:=by
 have hm:=Nat.mod_lt at_ hr
 have e:=Nat.div_add_mod at_ r
 rw [Nat.mul_comm]at e
 obtain⟨h1,h2,h3⟩:=col_len hr h
 by_cases h0:at_=min (at_/r*r+r) n - 1
 ·rw [if_pos h0,show at_%r+1=cntC r (at_/r) n by omega,Nat.mod_self,Nat.add_zero]
 ·rw [if_neg h0,Nat.mod_eq_of_lt (show at_%r+1<cntC r (at_/r) n by omega)]
  omega
theorem colI_elt:Elt Tryz.prog 37 3 1 8:=elt_of Tryz.underlying37 (z:= .int .i64 0) (by kernel_rfl) rfl (by decide)
def TellsP (x:Nat)(w:World)(e:Ending)(w':World):Prop:=e= .returned (.tuple #[.int .i64 x,.bool true])∧Below w.heap.size w w'
theorem own_drewN {w:World}{base n:Nat}{e:TypeId}{v:Value}{xs:List Value}(h:w.ownsRow base e 1 v n xs)(k:Nat):(w.drewN k).ownsRow base e 1 v n xs:=h
def rowL (r row i:Nat):List Nat:=(List.range (cntR r row i)).map fun k=>row+k*r
def RowAt (w:World)(v h:Value)(r row at_ i:Nat)(wr:World):Prop:=
 ∃ (A:Option Addr) (c q N:Nat),v= .slice A N c∧h= .int .i64 q∧Hid (N=cntR r row i∧wr.ownsRow w.heap.size 3 1 (.slice A N c) N ((rowL r row i).map fun x=>Value.int .i64 (x:Nat))∧q=(if i≤at_ then 0 else at_/r)∧Below w.heap.size w wr)
theorem rowL_push {r row k:Nat}(h:cntR r row (k+1)=cntR r row k+1∧k=row+cntR r row k*r):(rowL r row k).map (fun x=>Value.int .i64 (x:Nat))++[Value.int .i64 (k:Nat)]=(rowL r row (k+1)).map (fun x=>Value.int .i64 (x:Nat)):=by
 have e:=map_grow (fun j=>row+j*r) (cntR r row k) k h.2
 unfold rowL
 rw [h.1,←e,List.map_append]
 rfl
def colL (r c i:Nat):List Nat:=(List.range (cntC r c i)).map fun k=>c*r+k
def ColAt (w:World)(v h:Value)(r col at_ i:Nat)(wr:World):Prop:=
 ∃ (A:Option Addr) (c q N:Nat),v= .slice A N c∧h= .int .i64 q∧Hid (N=cntC r col i∧wr.ownsRow w.heap.size 3 1 (.slice A N c) N ((colL r col i).map fun x=>Value.int .i64 (x:Nat))∧q=(if i≤at_ then 0 else at_%r)∧Below w.heap.size w wr)
theorem colL_push {r c k:Nat}(h:cntC r c (k+1)=cntC r c k+1∧k=c*r+cntC r c k):(colL r c k).map (fun x=>Value.int .i64 (x:Nat))++[Value.int .i64 (k:Nat)]=(colL r c (k+1)).map (fun x=>Value.int .i64 (x:Nat)):=by
 have e:=map_grow (fun j=>c*r+j) (cntC r c k) k h.2
 unfold colL
 rw [h.1,←e,List.map_append]
 rfl
def stepTo (r n at_ way:Nat):Nat:=
 if way=0 then (if at_<r then at_%r+(n - 1 - at_%r)/r*r else at_ - r)
 else if way=1 then (if n≤at_+r then at_%r else at_+r)
 else if way=2 then (if at_%r=0 then min (at_/r*r+r) n - 1 else at_ - 1)
 else (if at_=min (at_/r*r+r) n - 1 then at_/r*r else at_+1)
theorem stepTo0 (r n at_:Nat):stepTo r n at_ 0=if at_<r then at_%r+(n - 1 - at_%r)/r*r else at_ - r:=rfl
theorem stepTo1 (r n at_:Nat):stepTo r n at_ 1=if n≤at_+r then at_%r else at_+r:=rfl
theorem stepTo2 (r n at_:Nat):stepTo r n at_ 2=if at_%r=0 then min (at_/r*r+r) n - 1 else at_ - 1:=rfl
theorem stepTo3 (r n at_:Nat):stepTo r n at_ 3=if at_=min (at_/r*r+r) n - 1 then at_/r*r else at_+1:=rfl
theorem stepTo_min {r n at_ way:Nat}(hr:0<r)(h:at_<n):stepTo (min r n) n at_ way=stepTo r n at_ way:=by
 rcases Nat.lt_or_ge r n with hlt|hge
 ·rw [Nat.min_eq_left (by omega)]
 ·rw [Nat.min_eq_right hge]
  have e1:at_%n=at_:=Nat.mod_eq_of_lt h
  have e2:at_%r=at_:=Nat.mod_eq_of_lt (by omega)
  have e3:at_/n=0:=Nat.div_eq_of_lt h
  have e4:at_/r=0:=Nat.div_eq_of_lt (by omega)
  have e5:(n - 1 - at_)/n=0:=Nat.div_eq_of_lt (by omega)
  have e6:(n - 1 - at_)/r=0:=Nat.div_eq_of_lt (by omega)
  unfold stepTo
  rw [e1,e2,e3,e4,e5,e6,if_pos h,if_pos (show at_<r by omega),if_pos (show n≤at_+n by omega),if_pos (show n≤at_+r by omega)]
  simp only [Nat.zero_mul,Nat.zero_add]
  rw [Nat.min_self,Nat.min_eq_right hge]
def backOf (way:Nat):Nat:=if way=0 then 1 else if way=1 then 0 else if way=2 then 3 else 2
theorem at_parts {r at_:Nat}(hr:0<r):∃q m x,at_%r=m∧at_/r=q∧q*r=x∧at_=x+m∧m<r:=by
 refine⟨at_/r,at_%r,at_/r*r,rfl,rfl,rfl,?_,Nat.mod_lt _ hr⟩
 have e:=Nat.div_add_mod at_ r
 rw [Nat.mul_comm]at e
 exact e.symm
theorem parts_of {r q m x at_:Nat}(hr:0<r)(hx:q*r=x)(ha:at_=x+m)(hm:m<r):at_%r=m∧at_/r=q:=by
 subst ha
 subst hx
 rw [Nat.mul_comm]
 exact⟨by rw [Nat.mul_add_mod,Nat.mod_eq_of_lt hm],div_at hm⟩
theorem step_in {r n at_ way:Nat}(hr:0<r)(h:at_<n):stepTo r n at_ way<n:=by
 obtain⟨q,m,x,e1,e2,e3,e4,e5⟩:=at_parts (r:=r) (at_:=at_) hr
 unfold stepTo
 rw [e1,e2,e3]
 by_cases h0:way=0
 ·rw [if_pos h0]
  by_cases h1:at_<r
  ·rw [if_pos h1]
   have:=Nat.div_mul_le_self (n - 1 - m) r
   omega
  ·rw [if_neg h1];omega
 ·rw [if_neg h0]
  by_cases h1:way=1
  ·rw [if_pos h1]
   by_cases h2:n≤at_+r
   ·rw [if_pos h2];omega
   ·rw [if_neg h2];omega
  ·rw [if_neg h1]
   by_cases h2:way=2
   ·rw [if_pos h2]
    by_cases h3:m=0
    ·rw [if_pos h3];omega
    ·rw [if_neg h3];omega
   ·rw [if_neg h2]
    by_cases h3:at_=min (x+r) n - 1
    ·rw [if_pos h3];omega
    ·rw [if_neg h3];omega
theorem step_back {r n at_ way:Nat}(hr:0<r)(h:at_<n)(hw:way<4):stepTo r n (stepTo r n at_ way) (backOf way)=at_:=by
 obtain⟨q,m,x,e1,e2,e3,e4,e5⟩:=at_parts (r:=r) (at_:=at_) hr
 obtain rfl|rfl|rfl|rfl:way=0∨way=1∨way=2∨way=3:=by omega
 ·rw [show backOf 0=1 from rfl,stepTo0,stepTo1,e1]
  by_cases h1:at_<r
  ·rw [if_pos h1]
   obtain⟨Q,hQ⟩:∃Q,(n - 1 - m)/r=Q:=⟨_,rfl⟩
   obtain⟨X,hX⟩:∃X,Q*r=X:=⟨_,rfl⟩
   have hd:=Nat.div_add_mod (n - 1 - m) r
   have hl:=Nat.mod_lt (n - 1 - m) hr
   rw [hQ,Nat.mul_comm,hX]at hd
   rw [hQ,hX]
   have hp:=parts_of (at_:=m+X) hr hX (Nat.add_comm _ _) e5
   have hx0:x=0:=by
    rcases Nat.eq_zero_or_pos q with hz|hz
    ·rw [←e3,hz,Nat.zero_mul]
    ·have:=Nat.le_mul_of_pos_left r hz;omega
   rw [if_pos (by omega),hp.1]
   omega
  ·rw [if_neg h1,if_neg (by omega)]
   omega
 ·rw [show backOf 1=0 from rfl,stepTo1,stepTo0,e1]
  by_cases h1:n≤at_+r
  ·rw [if_pos h1,if_pos e5,Nat.mod_eq_of_lt e5]
   have:(n - 1 - m)/r=q:=by
    have:n - 1 - m=r*q+(n - 1 - m - x):=by rw [Nat.mul_comm];omega
    rw [this]
    exact div_at (by omega)
   rw [this,e3]
   omega
  ·rw [if_neg h1,if_neg (by omega)]
   omega
 ·rw [show backOf 2=3 from rfl,stepTo2,stepTo3,e1,e2,e3]
  by_cases h1:m=0
  ·rw [if_pos h1]
   have hp:=parts_of (at_:=min (x+r) n - 1) (m:=min (x+r) n - 1 - x) hr e3 (by omega) (by omega)
   rw [hp.2,e3,if_pos rfl]
   omega
  ·rw [if_neg h1]
   have hp:=parts_of (at_:=at_ - 1) (m:=m - 1) hr e3 (by omega) (by omega)
   rw [hp.2,e3,if_neg (by omega)]
   omega
 ·rw [show backOf 3=2 from rfl,stepTo3,stepTo2,e2,e3]
  by_cases h1:at_=min (x+r) n - 1
  ·rw [if_pos h1]
   have hp:=parts_of (at_:=x) (m:=0) hr e3 rfl hr
   rw [hp.1,hp.2,e3,if_pos rfl]
   exact h1.symm
  ·rw [if_neg h1]
   have hp:=parts_of (at_:=at_+1) (m:=m+1) hr e3 (by omega) (by omega)
   rw [hp.1,if_neg (by omega)]
   omega
def Good (r n at_ way:Int):Prop:=¬(r<1∨n<1∨65536<n∨at_<0∨n≤at_∨way<0∨3<way)
def TellsNo (w:World)(e:Ending)(w':World):Prop:=e= .returned (.tuple #[.int .i64 0,.bool false])∧Below w.heap.size w w'
def nv (f:Nat→Nat)(j:Nat):Value:= .int .i64 ((f j:Nat):Int)
def sumN (f:Nat→Nat):Nat→Nat
 |0=>0
 |k+1=>sumN f k+f k
def totN (f:Nat→Nat)(k:Nat):Nat:=sumN f k+2*(k - 1)
theorem sumN_le {f:Nat→Nat}{n b:Nat}(h:∀j,j<n→f j≤b):∀k,k≤n→sumN f k≤k*b
 |0,_=>Nat.zero_le _
 |k+1,hk=>by
  have h1:=sumN_le h k (by omega)
  have h2:=h k (by omega)
  unfold sumN
  rw [Nat.add_mul,Nat.one_mul]
  omega
theorem sumN_small {f:Nat→Nat}{n:Nat}(h:∀j,j<n→f j≤1023)(hn:n≤60){k:Nat}(hk:k≤n):sumN f k≤61380:=by
 have:=sumN_le h k hk
 omega
theorem sumN_mono {f:Nat→Nat}:∀ {i k:Nat},i≤k→sumN f i≤sumN f k
 |i,0,h=>by rw [Nat.le_zero.1 h];exact Nat.le_refl _
 |i,k+1,h=>by
  rcases Nat.lt_or_ge i (k+1)with h1|h1
  ·exact Nat.le_trans (sumN_mono (Nat.le_of_lt_succ h1)) (Nat.le_add_right _ _)
  ·rw [Nat.le_antisymm h h1];exact Nat.le_refl _
theorem sumN_congr {f g:Nat→Nat}:∀ {n:Nat},(∀j,j<n→f j=g j)→sumN f n=sumN g n
 |0,_=>rfl
 |n+1,h=>by unfold sumN;rw [sumN_congr (fun j hj=>h j (by omega)),h n (by omega)]
set_option maxHeartbeats 400000 in
theorem plan_total (r:Int)(A:Option Addr)(n c:Nat)(f:Nat→Nat)(w:World)(hA:Rd w A n (nv f))(hf:∀j,j<n→f j≤1023)(hn:n≤60):
  Calls Tryz.prog 93 #[.agg #[.int .i64 r,.slice A n c]] w fun e w'=>e= .returned (.int .i64 (totN f n:Nat))∧Below w.heap.size w w':=by
 have HS:=Lib.hid (fun k (hk:k≤n)=>sumN_small hf hn hk)
 have HF:=Lib.hid hf
 have HA:=Lib.hid (hA.later ((Below.refl _ _).alloc (Nat.le_refl _) (.cells #[.int .i64 r,.slice A n c] 124)))
 clear hf hA
 obtain⟨m,hm⟩:∃m,n - 1=m:=⟨_,rfl⟩
 have hm2:m≤n:=by omega
 go_enter Tryz.func93,Tryz.ntmps93
 go_wp2
 all_goals
  refine at_world (fun X=>X=w.alloc (.cells #[.int .i64 r,.slice A n c] 124)) rfl ?_
  intro W1 hW1
  have HW:=Lib.hid hW1
  rw [←hW1]at HA
  clear hW1
  go_loopw [3,15] (fun a i wr=>∃k t:Nat,k≤n∧i= .int .i64 k∧a= .int .i64 t∧Hid (t=sumN f k+2*(n - 1))∧wr=W1) (fun _ i _=>n -(intOf i).toNat)
  case atStart=>exact⟨0,2*(n - 1),Nat.zero_le _,rfl,(by congr 1;omega),(show 2*(n - 1)=sumN f 0+2*(n - 1)by rw [show sumN f 0=0 from rfl];omega),rfl⟩
  case round=>
   obtain⟨k,t,hk,rfl,rfl,ht,rfl⟩:=hrel
   have hb:=HS.out k hk
   have htb:t≤61500:=by rw [ht.out];omega
   by_cases hlt:k<n
   ·obtain⟨b,o,rfl,_,hc⟩:=HA.out k hlt
    obtain⟨x,hx⟩:∃x,f k=x:=⟨_,rfl⟩
    have hxb:x≤1023:=by rw [←hx];exact HF.out k hlt
    unfold nv at hc
    rw [hx]at hc
    have HX:=Lib.hid hx
    clear hx hb
    go_wp2
    go_roundw
    case rel=>exact⟨k+1,t+x,by omega,by go_num,by go_num,(show t+x=sumN f (k+1)+2*(n - 1)by rw [ht.out,←HX.out,show sumN f (k+1)=sumN f k+f k from rfl];omega),trivial⟩
    case measure=>simp [intOf];omega
   ·obtain rfl:k=n:=by omega
    clear hb
    go_wp2
    go_ret
    exact⟨congrArg (fun z:Nat=>Ending.returned (.int .i64 (z:Int))) ht.out,by rw [HW.out];exact(Below.refl _ _).alloc (Nat.le_refl _) _⟩
def low (z:Int):Nat:=(BitVec.ofInt 64 z&&& BitVec.ofInt 64 1023).toNat
theorem low_le (z:Int):low z≤1023:=by unfold low;rw [BitVec.toNat_and];exact Nat.and_le_right
theorem low_bits (z:Int):bits .and .i64 z 1023=(low z:Int):=by
 have h:=low_le z
 show IntKind.i64.wrap ((BitVec.ofInt 64 z&&& BitVec.ofInt 64 1023).toNat:Int)=_
 exact IntWalk.i64_in _ (by unfold low at h;omega)
theorem map_push (f:Nat→Value)(k:Nat):(List.range k).map f++[f k]=(List.range (k+1)).map f:=by
 rw [List.range_succ,List.map_append];rfl
def RowIsC (w:World)(v:Value)(g:Nat→Nat)(k:Nat)(wr:World):Prop:=
 ∃ (A:Option Addr) (c:Nat),v= .slice A k c∧Hid (wr.ownsRow w.heap.size 3 1 (.slice A k c) k ((List.range k).map (nv g))∧Below w.heap.size w wr)
theorem RowIsC.rd {w wr:World}{A:Option Addr}{c k:Nat}{g:Nat→Nat}(h:wr.ownsRow w.heap.size 3 1 (.slice A k c) k ((List.range k).map (nv g))):Rd wr A k (nv g):=
 rd_own h fun j hj=>by simp [hj]
def mx (f:Nat→Nat)(a:Nat):Nat→Nat
 |0=>0
 |k+1=>max (mx f a k) (f (a+k))
theorem mx_le {f:Nat→Nat}{a b:Nat}:∀ {k:Nat},mx f a k≤b↔∀j,j<k→f (a+j)≤b
 |0=>⟨fun _ j hj=>absurd hj (by omega),fun _=>Nat.zero_le _⟩
 |k+1=>by
  unfold mx
  rw [Nat.max_le,mx_le]
  constructor
  ·rintro⟨h1,h2⟩ j hj
   rcases Nat.lt_or_ge j k with h|h
   ·exact h1 j h
   ·rw [show j=k by omega];exact h2
  ·intro h
   exact⟨fun j hj=>h j (by omega),h k (by omega)⟩
theorem mx_small {f:Nat→Nat}{n a k:Nat}(h:∀j,j<n→f j≤1023)(hk:a+k≤n):mx f a k≤1023:=mx_le.2 fun j hj=>h _ (by omega)
def colsN (n r:Nat):Nat:=(n+r - 1)/r
theorem lt_cols {n r i:Nat}(hr:0<r):i<colsN n r↔i*r<n:=by
 unfold colsN
 rw [←Nat.succ_le_iff,Nat.le_div_iff_mul_le hr,Nat.succ_mul]
 omega
theorem cols_le {n r:Nat}(hr:0<r):colsN n r≤n:=by
 rcases Nat.lt_or_ge n (colsN n r)with h|h
 ·have:=(lt_cols hr).1 h
  have:=Nat.le_mul_of_pos_right n hr
  omega
 ·exact h
def colW (f:Nat→Nat)(n r i:Nat):Nat:=mx f (i*r) (min r (n - i*r))
theorem mx_cut {f:Nat→Nat}{a p m:Nat}(h1:p≤m)(h2:m≤2*p):max (mx f a p) (mx f (a+m - p) p)=mx f a m:=by
 apply Nat.le_antisymm
 ·refine Nat.max_le.2 ⟨mx_le.2 fun j hj=>mx_le.1 (Nat.le_refl _) j (by omega),mx_le.2 fun j hj=> ?_⟩
  have:=(mx_le (f:=f) (a:=a) (k:=m)).1 (Nat.le_refl _) (m - p+j) (by omega)
  rw [show a+(m - p+j)=a+m - p+j by omega]at this
  exact this
 ·refine mx_le.2 fun j hj=> ?_
  rcases Nat.lt_or_ge j p with h|h
  ·exact Nat.le_trans ((mx_le (f:=f) (a:=a) (k:=p)).1 (Nat.le_refl _) j h) (Nat.le_max_left _ _)
  ·have:=(mx_le (f:=f) (a:=a+m - p) (k:=p)).1 (Nat.le_refl _) (j -(m - p)) (by omega)
   rw [show a+m - p+(j -(m - p))=a+j by omega]at this
   exact Nat.le_trans this (Nat.le_max_right _ _)
def TabAt (w:World)(A:Option Addr)(Lv n:Nat)(f:Nat→Nat):Prop:=
 ∀k,k<Lv→∃b o B C,A=some ⟨b,o,none⟩∧b<w.heap.size∧w.cell? ⟨b,o+k,none⟩=some (.slice B (n+1 - 2 ^ k) C)∧Rd w B (n+1 - 2 ^ k) (nv fun j=>mx f j (2 ^ k))
theorem TabAt.later {w w':World}{A:Option Addr}{Lv n:Nat}{f:Nat→Nat}(h:TabAt w A Lv n f)(hb:Below w.heap.size w w'):TabAt w' A Lv n f:=by
 intro k hk
 obtain⟨b,o,B,C,hA,hl,hc,hr⟩:=h k hk
 exact⟨b,o,B,C,hA,Nat.lt_of_lt_of_le hl hb.size,(hb.cell (p:=⟨b,o+k,none⟩) hl).trans hc,hr.later hb⟩
def Levels (Lv n:Nat):Prop:=∀k,k<Lv↔2 ^ k≤n
theorem TabAt.cells {w:World}{A:Option Addr}{Lv n k p:Nat}{f:Nat→Nat}(h:TabAt w A Lv n f)(hk:k<Lv)(hp:2 ^ k=p)(hn:p≤n):
  ∃b o b2 o2 C,A=some ⟨b,o,none⟩∧w.cell? ⟨b,o+k,none⟩=some (.slice (some ⟨b2,o2,none⟩) (n+1 - p) C)∧∀j,j<n+1 - p→w.cell? ⟨b2,o2+j,none⟩=some (.int .i64 (mx f j p:Nat)):=by
 obtain⟨b,o,B,C,hA,_,hc,hr⟩:=h k hk
 obtain⟨b2,o2,hB,_,hr⟩:=hr.all (by rw [hp];omega)
 refine⟨b,o,b2,o2,C,hA,?_,fun j hj=> ?_⟩
 ·rw [hc,hB,hp]
 ·have:=hr j (by rw [hp];exact hj)
  unfold nv at this
  rw [hp]at this
  exact this
set_option maxHeartbeats 1000000 in
set_option maxRecDepth 100000 in
theorem cof_any (A:Option Addr)(Lv c n fr m:Nat)(f:Nat→Nat)(w:World)(hT:TabAt w A Lv n f)(hL:Levels Lv n)(hm:0<m)(hm2:fr+m≤n)(hn:n≤60)(hf:∀j,j<n→f j≤1023):
  Calls Tryz.prog 179 #[.slice A Lv c,.int .i64 fr,.int .i64 ((fr+m:Nat):Int)] w fun e w'=>e= .returned (.int .i64 (mx f fr m:Nat))∧∃q,w'=w.drewN q:=by
 have HT:=Lib.hid (And.intro hT (And.intro hL hf))
 clear hT hL hf
 go_enter Tryz.func179,Tryz.ntmps179
 go_wp2
 go_loopw [7,8] (fun l i wr=>∃k p:Nat,l= .int .i64 k∧i= .int .i64 p∧0<p∧p≤m∧k≤p∧Hid (2 ^ k=p)∧Hid (wr=w)) (fun _ i _=>m -(intOf i).toNat)
 case atStart=>exact⟨0,1,rfl,rfl,by omega,hm,by omega,rfl,rfl⟩
 case round=>
  obtain⟨k,p,rfl,rfl,hp0,hpm,hkp,HP,HW⟩:=hrel
  obtain rfl:=HW.out
  by_cases h2:2*p≤m
  ·have d1:decide (2*p≤m)=true:=decide_eq_true h2
   go_wp2
   go_roundw
   case rel=>exact⟨k+1,2*p,by go_num,by go_num,by omega,h2,by omega,(show 2 ^ (k+1)=2*p by rw [Nat.pow_succ,HP.out,Nat.mul_comm]),Lib.hid trivial⟩
   case measure=>simp [intOf];omega
  ·have hkL:k<Lv:=(HT.out.2.1 k).2 (by rw [HP.out];omega)
   obtain⟨b,o,b2,o2,C,rfl,hc,hr⟩:=TabAt.cells HT.out.1 hkL HP.out (by omega)
   have c1:=hr fr (by omega)
   have c2:=hr (fr+m - p) (by omega)
   obtain⟨u,hu⟩:∃u,mx f fr p=u:=⟨_,rfl⟩
   obtain⟨v,hv⟩:∃v,mx f (fr+m - p) p=v:=⟨_,rfl⟩
   have HU:=Lib.hid (show max u v=mx f fr m by rw [←hu,←hv];exact mx_cut hpm (by omega))
   rw [hu]at c1
   rw [hv]at c2
   clear hr hu hv
   obtain⟨y,hy⟩:∃y,fr+m - p=y:=⟨_,rfl⟩
   rw [hy]at c2
   obtain⟨R,hR⟩:∃R,n+1 - p=R:=⟨_,rfl⟩
   rw [hR]at hc
   have hy1:((fr:Int)+(m:Int) -(p:Int))=(y:Int):=by omega
   have hfR:fr<R:=by omega
   have hyR:y<R:=by omega
   clear hy hR
   go_wp2
   go_region
   simp only [Exit.then]
   go_wp2
   all_goals
    go_ret
    refine⟨congrArg (fun z:Int=>Ending.returned (.int .i64 z)) ?_,_,rfl⟩
    rw [←HU.out]
    omega
theorem wst_elt:Elt Tryz.prog 191 37 1 24:=elt_of Tryz.underlying191 (z:= .slice none 0 0) (by kernel_rfl) rfl (by decide)
def Apart (v:Value)(B:Option Addr):Prop:=∀b o,B=some ⟨b,o,none⟩→v.ownBlock≠some b
theorem Rd.kept {w w':World}{row:Option Nat}{A:Option Addr}{n:Nat}{f:Nat→Value}(h:Rd w A n f)(hg:w.grownBy w' row)(hne:∀b o,A=some ⟨b,o,none⟩→row≠some b):Rd w' A n f:=by
 intro j hj
 obtain⟨b,o,e,hl,hc⟩:=h j hj
 exact⟨b,o,e,Nat.lt_of_lt_of_le hl hg.size,(World.cell?_of_block (a:=⟨b,o+j,none⟩) (hg.block b hl (fun e2=>hne b o e e2.symm))).trans hc⟩
def WTab (w:World)(v:Value)(k n:Nat)(f:Nat→Nat)(wr:World):Prop:=
 ∃ (A:Option Addr) (c:Nat) (xs:List Value),v= .slice A (k+1) c∧Hid (wr.ownsRow w.heap.size 37 1 (.slice A (k+1) c) (k+1) xs∧xs.length=k+1∧
  (∀i,i<k+1→∃B C,xs[i]? =some (.slice B (n+1 - 2 ^ i) C)∧Rd wr B (n+1 - 2 ^ i) (nv fun j=>mx f j (2 ^ i))∧Apart (.slice A (k+1) c) B)∧Below w.heap.size w wr)
theorem rd_list {w:World}{base:Nat}{e:TypeId}{A:Option Addr}{c n:Nat}{xs:List Value}{j:Nat}{x:Value}(h:w.ownsRow base e 1 (.slice A n c) n xs)(hl:xs.length=n)(hj:xs[j]? =some x):∃b o,A=some ⟨b,o,none⟩∧b<w.heap.size∧w.cell? ⟨b,o+j,none⟩=some x:=by
 have hjn:j<n:=by
  rcases Nat.lt_or_ge j n with h|h
  ·exact h
  ·rw [List.getElem?_eq_none (by omega)]at hj;cases hj
 have:=rd_own (f:=fun i=>xs.getD i (.bool false)) h (fun i hi=>by simp [List.getD,List.getElem?_eq_getElem (show i<xs.length by omega)]) j hjn
 simpa [List.getD,hj]using this
theorem WTab.tab {w wr:World}{A:Option Addr}{c k n:Nat}{f:Nat→Nat}{xs:List Value}(h:wr.ownsRow w.heap.size 37 1 (.slice A (k+1) c) (k+1) xs)(hl:xs.length=k+1)
  (hr:∀i,i<k+1→∃B C,xs[i]? =some (.slice B (n+1 - 2 ^ i) C)∧Rd wr B (n+1 - 2 ^ i) (nv fun j=>mx f j (2 ^ i))∧Apart (.slice A (k+1) c) B):TabAt wr A (k+1) n f:=by
 intro i hi
 obtain⟨B,C,hx,hrd,_⟩:=hr i hi
 obtain⟨b,o,hA,hb,hc⟩:=rd_list h hl hx
 exact⟨b,o,B,C,hA,hb,hc,hrd⟩
theorem WTab.push {w0 wr w3:World}{base g R n k p:Nat}{f:Nat→Nat}{A A3:Option Addr}{c c3:Nat}{xs:List Value}(hown:wr.ownsRow base 37 1 (.slice A (k+1) c) (k+1) xs)(hl:xs.length=k+1)
  (hr:∀i,i<k+1→∃B C,xs[i]? =some (.slice B (n+1 - 2 ^ i) C)∧Rd w0 B (n+1 - 2 ^ i) (nv fun j=>mx f j (2 ^ i))∧Apart (.slice A (k+1) c) B) (hb:Below w0.heap.size w0 wr) (h0:w0.heap.size=g) (hown0:∀b,(Value.slice A (k+1) c).ownBlock=some b→b<g)
  (hg:g<wr.heap.size) (hp:2 ^ k=p) (hR:R=n+1 - 2*p) (hrow:Rd wr (some ⟨g,0,none⟩) R (nv fun i=>mx f i (2*p))) (hn:∀i,i<k+1→2 ^ i≤n)
  (P:Pushed wr w3 base 37 1 (.slice A (k+1) c) (k+1+1) (xs++[.slice (some ⟨g,0,none⟩) R R]) A3 c3):
  ∀i,i<k+1+1→∃B C,(xs++[.slice (some ⟨g,0,none⟩) R R])[i]? =some (.slice B (n+1 - 2 ^ i) C)∧Rd w3 B (n+1 - 2 ^ i) (nv fun j=>mx f j (2 ^ i))∧Apart (.slice A3 (k+1+1) c3) B:=by
 intro i hi
 rcases Nat.lt_or_ge i (k+1)with h|h
 ·obtain⟨B,C,hx,hrd,hap⟩:=hr i h
  refine⟨B,C,by rw [List.getElem?_append_left (by omega)];exact hx,(hrd.later hb).kept P.grown hap,fun b o e1 e2=> ?_⟩
  rcases P.at_ with h3|⟨k3,h3,h4⟩
  ·exact hap b o e1 (h3▸e2)
  ·rw [h3]at e2
   injection e2 with e2
   obtain⟨b1,o1,e3,hlt,_⟩:=hrd 0 (by have:=hn i h;omega)
   rw [e1]at e3
   injection e3 with e3
   injection e3 with e3 _ _
   have:=hb.size
   omega
 ·obtain rfl:i=k+1:=by omega
  have e:2 ^ (k+1)=2*p:=by rw [Nat.pow_succ,hp,Nat.mul_comm]
  refine⟨some ⟨g,0,none⟩,R,?_,?_,fun b o e1 e2=> ?_⟩
  ·rw [e,←hR,List.getElem?_append_right (by omega),hl,Nat.sub_self];rfl
  ·rw [e,←hR]
   refine hrow.kept P.grown fun b o e1 e2=> ?_
   injection e1 with e1
   injection e1 with e1 _ _
   have:=hown0 b e2
   omega
  ·injection e1 with e1
   injection e1 with e1 _ _
   rcases P.at_ with h3|⟨k3,h3,h4⟩
   ·rw [h3]at e2
    have:=hown0 b e2
    omega
   ·rw [h3]at e2
    injection e2 with e2
    omega
def RowSet (w0:World)(g R p2:Nat)(f:Nat→Nat)(j:Nat)(wr:World):Prop:=
 ∃cs:Array Value,Blk wr g cs∧cs.size=R∧(∀i,i<j→cs[i]? =some (nv (fun i=>mx f i p2) i))∧Below w0.heap.size w0 wr∧w0.heap.size=g
theorem RowSet.set_ {w0 wr:World}{g R p2 j:Nat}{f:Nat→Nat}(h:RowSet w0 g R p2 f j wr)(hj:j<R){z:Value}(hz:z=nv (fun i=>mx f i p2) j):RowSet w0 g R p2 f (j+1) (wr.setCell ⟨g,j,none⟩ z):=by
 obtain⟨cs,hB,hs,hc,hb,hg⟩:=h
 refine⟨cs.setIfInBounds j z,hB.set_ j (by omega) z,by simp [hs],fun i hi=> ?_,hb.setCell (p:=⟨g,j,none⟩) (by simp [hg]) _,hg⟩
 rcases Nat.lt_or_ge i j with h1|h1
 ·rw [Array.getElem?_setIfInBounds,if_neg (by omega)];exact hc i h1
 ·obtain rfl:i=j:=by omega
  rw [Array.getElem?_setIfInBounds,if_pos rfl,if_pos (by omega),hz]
theorem RowSet.drewN {w0 wr:World}{g R p2 j:Nat}{f:Nat→Nat}(h:RowSet w0 g R p2 f j wr)(k:Nat):RowSet w0 g R p2 f j (wr.drewN k):=by
 obtain⟨cs,hB,hs,hc,hb,hg⟩:=h
 exact⟨cs,hB.drewN k,hs,hc,below_drewN hb k,hg⟩
theorem RowSet.start (w0:World)(R p2:Nat)(f:Nat→Nat)(cs:Array Value)(t:TypeId)(hs:cs.size=R):RowSet w0 w0.heap.size R p2 f 0 (w0.alloc (.cells cs t)):=
 ⟨cs,blk_new w0 cs t,hs,fun i hi=>absurd hi (by omega),(Below.refl _ _).alloc (Nat.le_refl _) _,rfl⟩
theorem rd_new_blk {w:World}{g n:Nat}{cs:Array Value}{f:Nat→Value}(h:Blk w g cs)(hf:∀j,j<n→cs[j]? =some (f j)):Rd w (some ⟨g,0,none⟩) n f:=by
 intro j hj
 exact⟨g,0,rfl,h.1,by rw [Nat.zero_add,h.2.1];exact hf j hj⟩
set_option maxHeartbeats 2000000 in
set_option maxRecDepth 100000 in
theorem widest_of (A:Option Addr)(n c:Nat)(f:Nat→Nat)(w:World)(hA:Rd w A n (nv f))(hf:∀j,j<n→f j≤1023)(h0:0<n)(hn:n≤60):
  Calls Tryz.prog 137 #[.slice A n c] w fun e w'=>∃A' Lv c',e= .returned (.slice A' Lv c')∧TabAt w' A' Lv n f∧Levels Lv n∧Lv≤60∧Below w.heap.size w w':=by
 have HA:=Lib.hid (And.intro hA hf)
 clear hA hf
 go_enter Tryz.func137,Tryz.ntmps137
 go_wp2
 go_loopw [3,4] (fun v i wr=>∃k p:Nat,i= .int .i64 p∧0<p∧p≤n∧k<p∧Hid (2 ^ k=p)∧WTab w v k n f wr) (fun _ i _=>n -(intOf i).toNat)
 case atStart=>
  refine⟨0,1,rfl,by omega,h0,by omega,rfl,_,_,[.slice A n c],rfl,own_new w #[.slice A n c] _ 1 rfl (by unfold maxLen;omega),rfl,?_,(Below.refl _ _).alloc (Nat.le_refl _) _⟩
  intro i hi
  obtain rfl:i=0:=by omega
  refine⟨A,c,by simp,(HA.out.1.later ((Below.refl _ _).alloc (Nat.le_refl _) _)).congr fun j hj=> ?_,fun b o e1 e2=> ?_⟩
  ·unfold nv
   simp [mx]
  ·obtain⟨b1,o1,e3,hl,_⟩:=HA.out.1 0 h0
   rw [e1]at e3
   injection e3 with e3
   injection e3 with e3 _ _
   simp [Value.ownBlock]at e2
   omega
 case round=>
  obtain⟨wo,hwo⟩:∃wo,wo=wr:=⟨_,rfl⟩
  subst hwo
  obtain⟨k,p,rfl,hp0,hpn,hkp,HP,A1,c1,xs,rfl,HR⟩:=hrel
  have hz:=HR.out.2.2.2.size
  by_cases h2:2*p≤n
  ·obtain⟨B,C,hx,hrd,_⟩:=HR.out.2.2.1 k (Nat.lt_succ_self _)
   obtain⟨b,o,rfl,_,hc⟩:=rd_list HR.out.1 HR.out.2.1 hx
   rw [HP.out]at hc hrd
   obtain⟨X,hX⟩:∃X,n+1 - p=X:=⟨_,rfl⟩
   obtain⟨R,hR⟩:∃R,X - p=R:=⟨_,rfl⟩
   have hXb:X≤60:=by omega
   rw [hX]at hc hrd
   have HB:=Lib.hid (And.intro hrd hx)
   have hRI:((X:Int) -(p:Int))=(R:Int):=by omega
   have hmk:=run_make_row' (P:= Tryz.prog) 37 3 (.int .i64 0) 8 Tryz.underlying37 (by kernel_rfl) rfl .i64 .i64 R (by omega) (by omega)
   have d1:decide (2*p≤n)=true:=decide_eq_true h2
   have d1':decide ((2:Int)*(p:Int)≤(n:Int))=true:=decide_eq_true (by omega)
   clear hrd hx
   go_wp2
   go_loopw [7,30] (fun _ i wr'=>∃j:Nat,j≤R∧i= .int .i64 j∧Hid (RowSet wo wo.heap.size R (2*p) f j wr')) (fun _ i _=>R -(intOf i).toNat)
   case atStart=>exact⟨0,Nat.zero_le _,rfl,RowSet.start wo R _ f _ _ (by simp [madeCells])⟩
   case round=>
    obtain⟨j,hj,rfl,HS⟩:=hrel
    have hS:=HS.out
    obtain⟨cs,hBk,hcs,hci,hbl,hg⟩:=hS
    by_cases hjR:j<R
    ·have hr2:=HB.out.1.later hbl
     obtain⟨b2,o2,rfl,_,hcc⟩:=hr2.all (by omega)
     have l1:wr.cell? ⟨b2,o2+j,none⟩=some (.int .i64 (mx f j p:Nat)):=hcc j (by omega)
     have l2:wr.cell? ⟨b2,o2+(j+p),none⟩=some (.int .i64 (mx f (j+p) p:Nat)):=hcc (j+p) (by omega)
     obtain⟨u,hu⟩:∃u,mx f j p=u:=⟨_,rfl⟩
     obtain⟨v,hv⟩:∃v,mx f (j+p) p=v:=⟨_,rfl⟩
     have HU:=Lib.hid (show max u v=mx f j (2*p)by rw [←hu,←hv,show j+p=j+2*p - p by omega];exact mx_cut (by omega) (Nat.le_refl _))
     rw [hu]at l1
     rw [hv]at l2
     clear hu hv hcc hr2
     have hold:wr.cell? ⟨wo.heap.size,j,none⟩=some cs[j]:=by rw [hBk.2.1];simp
     have hfr:=hBk.2.2 j
     obtain⟨old,ho⟩:∃old,cs[j]=old:=⟨_,rfl⟩
     rw [ho]at hold
     clear hBk hci hbl
     go_wp2
     go_region
     generalize hq:max (u:Int) (v:Int)=q
     refine at_world (RowSet wo wo.heap.size R (2*p) f (j+1)) ?_ ?_
     ·refine RowSet.drewN (RowSet.set_ HS.out hjR ?_) 1
      show Value.int .i64 q=Value.int .i64 ((mx f j (2*p):Nat):Int)
      rw [←hq,←HU.out]
      congr 1
      omega
     intro X1 hX1
     have HX1:=Lib.hid hX1
     clear hX1 hq
     go_wp2
     go_roundw
     case rel=>exact⟨j+1,by omega,by go_num,HX1.out⟩
     case measure=>simp [intOf];omega
    ·obtain rfl:j=R:=by omega
     have hz2:=hbl.size
     have HO:=Lib.hid (And.intro (own_later (HR.out.1) hbl) (And.intro hbl (rd_new_blk hBk (fun i hi=>hci i (by omega)))))
     have HN:=Lib.hid (fun A3 c3 w3=>WTab.push (A3:=A3) (c3:=c3) (w3:=w3) HO.out.1 HR.out.2.1 HR.out.2.2.1 hbl rfl (fun b hb=>(HR.out.1.lt b hb).2) hBk.1 HP.out (by omega) HO.out.2.2 (fun i hi=>Nat.le_trans (Nat.pow_le_pow_right (by omega) (Nat.le_of_lt_succ hi)) (by rw [HP.out];exact hpn)))
     have hA1:k+1+1≤maxLen:=by unfold maxLen;omega
     have hA2:(k+1+1)*24≤140737488355328:=by omega
     clear hBk hci hbl
     go_wp2_with (at_builtin;refine wpList_push wst_elt HO.out.1 (by omega) rfl rfl rfl rfl (by simp) rfl rfl hA1 hA2 ?_;intro A3 c3 w3 hp;have HP3:=Lib.hid hp;clear hp)
     go_roundw
     case rel=>
      exact⟨k+1,2*p,by go_num,by omega,h2,by omega,(show 2 ^ (k+1)=2*p by rw [Nat.pow_succ,HP.out,Nat.mul_comm]),A3,c3,_,rfl,HP3.out.own,by simp [HR.out.2.1],HN.out A3 c3 _ HP3.out,HP3.out.below (HR.out.2.2.2.trans (HO.out.2.1.mono HR.out.2.2.2.size)) HO.out.1 (Nat.le_refl _)⟩
     case measure=>simp [intOf];omega
  ·have hL:Levels (k+1) n:=by
    intro i
    constructor
    ·intro hi
     exact Nat.le_trans (Nat.pow_le_pow_right (by omega) (Nat.le_of_lt_succ hi)) (by rw [HP.out];exact hpn)
    ·intro hi
     rcases Nat.lt_or_ge i (k+1)with h|h
     ·exact h
     ·have:=Nat.pow_le_pow_right (n:=2) (by omega) h
      rw [Nat.pow_succ,HP.out]at this
      omega
   have HL:=Lib.hid hL
   have d1:decide (2*p≤n)=false:=decide_eq_false h2
   clear hL
   go_wp2
   go_ret
   exact⟨A1,k+1,c1,rfl,WTab.tab HR.out.1 HR.out.2.1 HR.out.2.2.1,HL.out,by omega,HR.out.2.2.2⟩
structure PlanVar (w:World)(r k:Nat)(W:Nat→Nat)(A:Option Addr)(c:Nat)(wr:World):Prop where
 res:Blk wr w.heap.size #[.int .i64 0,.slice none 0 0]
 var:Blk wr (w.heap.size+1) #[.int .i64 r,.slice A k c]
 own:wr.ownsRow (w.heap.size+1+1) 3 1 (.slice A k c) k ((List.range k).map (nv W))
 below:Below w.heap.size w wr
theorem PlanVar.start (w:World)(r:Nat)(W:Nat→Nat)(s t:TypeId):PlanVar w r 0 W none 0 ((w.alloc (.cells #[.int .i64 0,.slice none 0 0] s)).alloc (.cells #[.int .i64 r,.slice none 0 0] t)):=by
 refine⟨(blk_new w _ s).alloc _,?_,World.ownsRow_nil _ _ _ _,((Below.refl _ _).alloc (Nat.le_refl _) _).alloc (by simp [World.size_alloc]) _⟩
 have h:=blk_new (w.alloc (.cells #[.int .i64 0,.slice none 0 0] s)) #[.int .i64 r,.slice none 0 0] t
 rwa [World.size_alloc]at h
theorem PlanVar.push {w wr w3:World}{r k:Nat}{W:Nat→Nat}{A A3:Option Addr}{c c3 q:Nat}(h:PlanVar w r k W A c wr)
  (P:Pushed (wr.drewN q) w3 (w.heap.size+1+1) 3 1 (.slice A k c) (k+1) ((List.range k).map (nv W)++[nv W k]) A3 c3):
  PlanVar w r (k+1) W A3 c3 (w3.setCell ⟨w.heap.size+1,1,none⟩ (.slice A3 (k+1) c3)):=by
 have hne:∀g,g<w.heap.size+1+1→some g≠(Value.slice A k c).ownBlock:=fun g hg e=>by have:=(h.own.lt g e.symm).1;omega
 refine⟨((h.res.drewN q).grown P.grown (hne _ (by omega))).far (by simp) _,?_,?_,?_⟩
 ·exact((h.var.drewN q).grown P.grown (hne _ (by omega))).set_ 1 (by simp) _
 ·rw [←map_push]
  exact ownsRow_setCell_below P.own (a:=⟨w.heap.size+1,1,none⟩) (Nat.lt_succ_self _) _
 ·exact(P.below (below_drewN h.below q) (own_drewN h.own q) (by omega)).setCell (p:=⟨w.heap.size+1,1,none⟩) (by simp) _
theorem PlanVar.res3 {w wr w3:World}{r k n:Nat}{W:Nat→Nat}{A A3:Option Addr}{c c3 q:Nat}{xs:List Value}(h:PlanVar w r k W A c wr)
  (P:Pushed (wr.drewN q) w3 (w.heap.size+1+1) 3 1 (.slice A k c) n xs A3 c3):Blk w3 w.heap.size #[.int .i64 0,.slice none 0 0]:=
 (h.res.drewN q).grown P.grown fun e=>by have:=(h.own.lt _ e.symm).1;omega
theorem PlanVar.var3 {w wr w3:World}{r k n:Nat}{W:Nat→Nat}{A A3:Option Addr}{c c3 q:Nat}{xs:List Value}(h:PlanVar w r k W A c wr)
  (P:Pushed (wr.drewN q) w3 (w.heap.size+1+1) 3 1 (.slice A k c) n xs A3 c3):Blk w3 (w.heap.size+1) #[.int .i64 r,.slice A k c]:=
 (h.var.drewN q).grown P.grown fun e=>by have:=(h.own.lt _ e.symm).1;omega
theorem PlanVar.drewN {w wr:World}{r k:Nat}{W:Nat→Nat}{A:Option Addr}{c:Nat}(h:PlanVar w r k W A c wr)(q:Nat):PlanVar w r k W A c (wr.drewN q):=
 ⟨h.res.drewN q,h.var.drewN q,own_drewN h.own q,below_drewN h.below q⟩
def TellsPlan (f:Nat→Nat)(n r:Nat)(cols:Int)(w:World)(e:Ending)(w':World):Prop:=
 Below w.heap.size w w'∧((∃A c,e= .returned (.tuple #[.agg #[.int .i64 r,.slice A (colsN n r) c],.bool true])∧Rd w' A (colsN n r) (nv (colW f n r))∧(∀b o,A=some ⟨b,o,none⟩→w.heap.size≤b)∧(totN (colW f n r) (colsN n r):Int)≤cols)∨
  (e= .returned (.tuple #[.agg #[.int .i64 0,.slice none 0 0],.bool false])∧cols<(totN (colW f n r) (colsN n r):Int)))
theorem colW_small {f:Nat→Nat}{n r i:Nat}(hf:∀j,j<n→f j≤1023)(hi:i*r<n):colW f n r i≤1023:=mx_small hf (by omega)
theorem tot_mono {W:Nat→Nat}{k K:Nat}(h:k+1≤K):2*(k+1)+sumN W (k+1)≤totN W K+2:=by
 have:=sumN_mono (f:=W) h
 unfold totN
 omega
set_option maxHeartbeats 4000000 in
set_option maxRecDepth 100000 in
theorem plan_any (A:Option Addr)(Lv c n r:Nat)(cols:Int)(f:Nat→Nat)(w:World)(hT:TabAt w A Lv n f)(hL:Levels Lv n)(hr:0<r)(hrn:r≤n)(hn:n≤60)(hf:∀j,j<n→f j≤1023):
  Calls Tryz.prog 138 #[.slice A Lv c,.int .i64 r,.int .i64 cols] w (TellsPlan f n r cols w):=by
 obtain⟨K,hK⟩:∃K,colsN n r=K:=⟨_,rfl⟩
 have hK1:K≤n:=hK▸cols_le hr
 have HK:=Lib.hid (And.intro hK (fun i=>hK▸lt_cols (n:=n) (i:=i) hr))
 have HT:=Lib.hid (And.intro hT (And.intro hL hf))
 have HS:=Lib.hid (fun k (hk:k≤K)=>sumN_le (f:=colW f n r) (n:=K) (b:=1023) (fun j hj=>colW_small hf ((HK.out.2 j).1 hj)) k hk)
 have hLv:0<Lv:=(hL 0).2 (by simp;omega)
 clear hT hL hf hK
 go_enter Tryz.func138,Tryz.ntmps138
 go_wp2
 go_loopw [9,10,11] (fun t i _ wr=>∃k x s:Nat,k≤K∧x≤120∧i= .int .i64 x∧t= .int .i64 ((s:Int) - 2)∧s≤62000∧Hid (x=k*r∧s=2*k+sumN (colW f n r) k∧(0<k→(s:Int) - 2≤cols))∧Hid (∃A1 c1,PlanVar w r k (colW f n r) A1 c1 wr)) (fun _ i _ _=>n+r -(intOf i).toNat)
 case atStart=>exact⟨0,0,0,Nat.zero_le _,Nat.zero_le _,rfl,rfl,Nat.zero_le _,⟨(Nat.zero_mul _).symm,rfl,fun h=>absurd h (by omega)⟩,none,0,PlanVar.start w r _ _ _⟩
 case round=>
  obtain⟨k,x,s,hk,hx,rfl,rfl,hs,HX,HV⟩:=hrel
  obtain⟨A1,c1,V⟩:=HV.out
  have V1:=Lib.hid V
  obtain⟨y0,k0,j0⟩:=(show _ from V.res)
  obtain⟨y1,k1,j1⟩:=(show _ from V.var)
  obtain⟨b,o,b2,o2,C,rfl,hc,_⟩:=TabAt.cells (k:=0) (p:=1) (HT.out.1.later V.below) ((HT.out.2.1 0).2 (by simp;omega)) rfl (by omega)
  rw [show n+1 - 1=n by omega,Nat.add_zero]at hc
  clear V HV
  by_cases hlt:x<n
  ·have hkK:k<K:=(HK.out.2 k).2 (HX.out.1▸hlt)
   obtain⟨m,hm⟩:∃m,min r (n - x)=m:=⟨_,rfl⟩
   have hm1:0<m∧m≤r∧x+m≤n∧(n<x+r→x+m=n)∧(¬n<x+r→m=r):=by omega
   obtain⟨y,hy⟩:∃y,mx f x m=y:=⟨_,rfl⟩
   have hyw:y=colW f n r k:=by rw [←hy];unfold colW;rw [←HX.out.1,hm]
   have hyb:y≤1023:=by rw [←hy];exact mx_small HT.out.2.2 hm1.2.2.1
   have C1:=cof_any (some ⟨b,o,none⟩) Lv c n x m f wr (HT.out.1.later V1.out.below) HT.out.2.1 hm1.1 hm1.2.2.1 hn HT.out.2.2
   rw [hy]at C1
   have HN:=Lib.hid (show x+r=(k+1)*r by rw [Nat.succ_mul,HX.out.1])
   have HSY:=Lib.hid (show s+2+y=2*(k+1)+sumN (colW f n r) (k+1)by rw [HX.out.2.1,hyw,show sumN (colW f n r) (k+1)=sumN (colW f n r) k+colW f n r k from rfl];omega)
   have HYW:=Lib.hid hyw
   have hA1:k+1≤maxLen:=by unfold maxLen;omega
   have hA2:(k+1)*8≤140737488355328:=by omega
   clear hm hy hyw
   by_cases hnr:n<x+r
   ·have dm:(n:Int)<(x:Int)+(r:Int):=by omega
    rw [hm1.2.2.2.1 hnr]at C1
    have C1:=Lib.hid C1
    go_wp2_with fail
    rw [show min ((x:Int)+(r:Int)) (n:Int)=(n:Int)by omega]
    (with_reducible refine C1.out.mono ?_)
    rintro e w1 ⟨rfl,q,rfl⟩
    go_wp2_with (at_builtin;refine wpList_push colI_elt (own_drewN V1.out.own q) (Nat.succ_le_of_lt y1) rfl rfl rfl rfl (by simp) rfl rfl hA1 hA2 ?_;intro A3 c3 w3 hp;have HP:=Lib.hid hp;clear hp;obtain⟨z0,m0,n0⟩:=(show Blk _ _ _ from V1.out.res3 HP.out);obtain⟨z1,m1,n1⟩:=(show Blk _ _ _ from V1.out.var3 HP.out))
    ·rename_i hcc
     refine at_world (fun X=>X.cell? ⟨w.heap.size,0,none⟩=some (.int .i64 0)∧X.cell? ⟨w.heap.size,1,none⟩=some (.slice none 0 0)∧Below w.heap.size w X) ?_ ?_
     ·have V3:=PlanVar.push V1.out (by have h:=HP.out;rw [HYW.out]at h;exact h)
      have B3:=(V3.res.set_ 0 (by simp) (.int .i64 0)).set_ 1 (by simp) (.slice none 0 0)
      exact⟨B3.2.1 0,B3.2.1 1,(V3.below.setCell (p:=⟨w.heap.size,0,none⟩) (Nat.le_refl _) _).setCell (p:=⟨w.heap.size,1,none⟩) (Nat.le_refl _) _⟩
     rintro X ⟨x0,x1,hX⟩
     refine bodyPost_ret (v:= .tuple #[.agg #[.int .i64 0,.slice none 0 0],.bool false]) (by simp [results,Tryz.results138,go_sem,x0,x1]) rfl ⟨hX,.inr ⟨rfl,?_⟩⟩
     have h1:=tot_mono (W:=colW f n r) (show k+1≤K by omega)
     have h2:=HSY.out
     rw [HK.out.1]
     omega
    ·rename_i hcc
     have h3:=HS.out (k+1) (by omega)
     have h2:=HSY.out
     refine⟨⟨k+1,x+r,s+2+y,by omega,by omega,by go_num,(by congr 1;omega),by omega,⟨HN.out,HSY.out,fun _=>by omega⟩,A3,c3,PlanVar.push V1.out (by have h:=HP.out;rw [HYW.out]at h;exact h)⟩,?_⟩
     simp [intOf]
     omega
   ·have dm:¬(n:Int)<(x:Int)+(r:Int):=by omega
    rw [hm1.2.2.2.2 hnr]at C1
    have C1:=Lib.hid (show Calls _ _ #[_,_,.int .i64 ((x:Int)+(r:Int))] _ _ from C1)
    go_wp2_with fail
    rw [show min ((x:Int)+(r:Int)) (n:Int)=(x:Int)+(r:Int)by omega]
    (with_reducible refine C1.out.mono ?_)
    rintro e w1 ⟨rfl,q,rfl⟩
    go_wp2_with (at_builtin;refine wpList_push colI_elt (own_drewN V1.out.own q) (Nat.succ_le_of_lt y1) rfl rfl rfl rfl (by simp) rfl rfl hA1 hA2 ?_;intro A3 c3 w3 hp;have HP:=Lib.hid hp;clear hp;obtain⟨z0,m0,n0⟩:=(show Blk _ _ _ from V1.out.res3 HP.out);obtain⟨z1,m1,n1⟩:=(show Blk _ _ _ from V1.out.var3 HP.out))
    ·rename_i hcc
     refine at_world (fun X=>X.cell? ⟨w.heap.size,0,none⟩=some (.int .i64 0)∧X.cell? ⟨w.heap.size,1,none⟩=some (.slice none 0 0)∧Below w.heap.size w X) ?_ ?_
     ·have V3:=PlanVar.push V1.out (by have h:=HP.out;rw [HYW.out]at h;exact h)
      have B3:=(V3.res.set_ 0 (by simp) (.int .i64 0)).set_ 1 (by simp) (.slice none 0 0)
      exact⟨B3.2.1 0,B3.2.1 1,(V3.below.setCell (p:=⟨w.heap.size,0,none⟩) (Nat.le_refl _) _).setCell (p:=⟨w.heap.size,1,none⟩) (Nat.le_refl _) _⟩
     rintro X ⟨x0,x1,hX⟩
     refine bodyPost_ret (v:= .tuple #[.agg #[.int .i64 0,.slice none 0 0],.bool false]) (by simp [results,Tryz.results138,go_sem,x0,x1]) rfl ⟨hX,.inr ⟨rfl,?_⟩⟩
     have h1:=tot_mono (W:=colW f n r) (show k+1≤K by omega)
     have h2:=HSY.out
     rw [HK.out.1]
     omega
    ·rename_i hcc
     have h3:=HS.out (k+1) (by omega)
     have h2:=HSY.out
     refine⟨⟨k+1,x+r,s+2+y,by omega,by omega,by go_num,(by congr 1;omega),by omega,⟨HN.out,HSY.out,fun _=>by omega⟩,A3,c3,PlanVar.push V1.out (by have h:=HP.out;rw [HYW.out]at h;exact h)⟩,?_⟩
     simp [intOf]
     omega
  ·obtain rfl:k=K:=by
    rcases Nat.lt_or_ge k K with h|h
    ·have:=(HK.out.2 k).1 h
     rw [←HX.out.1]at this
     omega
    ·omega
   go_wp2
   refine at_world (fun X=>X.cell? ⟨w.heap.size,0,none⟩=some (.int .i64 r)∧X.cell? ⟨w.heap.size,1,none⟩=some (.slice A1 k c1)∧Rd X A1 k (nv (colW f n r))∧Below w.heap.size w X) ?_ ?_
   ·have B3:=(V1.out.res.set_ 0 (by simp) (.int .i64 r)).set_ 1 (by simp) (.slice A1 k c1)
    have O3:=ownsRow_setCell_below (ownsRow_setCell_below V1.out.own (a:=⟨w.heap.size,0,none⟩) (by simp only;omega) (.int .i64 r)) (a:=⟨w.heap.size,1,none⟩) (by simp only;omega) (.slice A1 k c1)
    exact⟨B3.2.1 0,B3.2.1 1,rd_own O3 (fun j hj=>by simp [hj]),(V1.out.below.setCell (p:=⟨w.heap.size,0,none⟩) (Nat.le_refl _) _).setCell (p:=⟨w.heap.size,1,none⟩) (Nat.le_refl _) _⟩
   rintro X ⟨x0,x1,hR,hX⟩
   refine bodyPost_ret (v:= .tuple #[.agg #[.int .i64 r,.slice A1 k c1],.bool true]) (by simp [results,Tryz.results138,go_sem,x0,x1]) rfl ⟨hX,.inl ⟨A1,c1,?_,?_,?_,?_⟩⟩
   ·rw [HK.out.1]
   ·rw [HK.out.1];exact hR
   ·intro b' o' e'
    subst e'
    have:=(V1.out.own.lt b' rfl).1
    omega
   ·rw [HK.out.1]
    have h2:=HX.out.2.1
    have h3:0<k:=(HK.out.2 0).2 (by omega)
    have h4:=HX.out.2.2 h3
    unfold totN
    omega
set_option maxHeartbeats 400000 in
theorem max_any (A:Option Addr)(n c:Nat)(f:Nat→Nat)(w:World)(hA:Rd w A n (nv f))(hf:∀j,j<n→f j≤1023)(h0:0<n)(hn:n≤60):
  Calls Tryz.prog 139 #[.slice A n c] w fun e w'=>e= .returned (.int .i64 (mx f 0 n:Nat))∧w=w':=by
 have HF:=Lib.hid hf
 have HA:=Lib.hid hA
 obtain⟨b,o,rfl,_,hc⟩:=hA 0 h0
 rw [Nat.add_zero]at hc
 obtain⟨u0,hu0⟩:∃u,f 0=u:=⟨_,rfl⟩
 unfold nv at hc
 rw [hu0]at hc
 have HU:=Lib.hid hu0
 have d0:¬(n:Int)<1:=by omega
 clear hA hf hu0
 go_enter Tryz.func139,Tryz.ntmps139
 go_wp2
 go_loopw [3,4] (fun a i wr=>∃k t:Nat,0<k∧k≤n∧i= .int .i64 k∧a= .int .i64 t∧Hid (t=mx f 0 k)∧Hid (wr=w)) (fun _ i _=>n -(intOf i).toNat)
 case atStart=>exact⟨1,u0,by omega,h0,rfl,rfl,(show u0=mx f 0 1 by rw [←HU.out];simp [mx]),rfl⟩
 case round=>
  obtain⟨k,t,hk0,hk,rfl,rfl,ht,hw⟩:=hrel
  obtain rfl:=hw.out
  by_cases hlt:k<n
  ·obtain⟨b',o',e,_,hc2⟩:=HA.out k hlt
   injection e with e
   injection e with e1 e2 _
   subst e1
   subst e2
   obtain⟨x,hx⟩:∃x,f k=x:=⟨_,rfl⟩
   unfold nv at hc2
   rw [hx]at hc2
   have HX:=Lib.hid (show mx f 0 (k+1)=max t x by rw [ht.out,←hx,show mx f 0 (k+1)=max (mx f 0 k) (f (0+k))from rfl,Nat.zero_add])
   clear hx
   by_cases htx:t<x
   ·have dx:(t:Int)<(x:Int):=by omega
    go_wp2
    go_roundw
    case rel=>exact⟨k+1,x,by omega,by omega,by go_num,(by first|rfl|(congr 1;omega)),(show x=mx f 0 (k+1)by rw [HX.out];omega),Lib.hid trivial⟩
    case measure=>simp [intOf];omega
   ·have dx:¬(t:Int)<(x:Int):=by omega
    go_wp2
    go_roundw
    case rel=>exact⟨k+1,t,by omega,by omega,by go_num,(by first|rfl|(congr 1;omega)),(show t=mx f 0 (k+1)by rw [HX.out];omega),Lib.hid trivial⟩
    case measure=>simp [intOf];omega
  ·obtain rfl:k=n:=by omega
   go_wp2
   go_ret
   exact⟨congrArg (fun z:Nat=>Ending.returned (.int .i64 (z:Int))) ht.out,rfl⟩
theorem Rd.far {w:World}{A:Option Addr}{n:Nat}{f:Nat→Value}(h:Rd w A n f){g i:Nat}(hne:∀b o,A=some ⟨b,o,none⟩→b≠g)(u:Value):Rd (w.setCell ⟨g,i,none⟩ u) A n f:=by
 intro j hj
 obtain⟨b,o,e,hl,hc⟩:=h j hj
 have hb:(w.setCell ⟨g,i,none⟩ u).heap[b]? =w.heap[b]? :=Below.heap_setCell w ⟨g,i,none⟩ u b (fun k=>hne b o e k)
 exact⟨b,o,e,by rw [World.size_setCell];exact hl,(World.cell?_of_block (a:=⟨b,o+j,none⟩) hb).trans hc⟩
def totP (f:Nat→Nat)(n r:Nat):Nat:=totN (colW f n r) (colsN n r)
structure FitIs (f:Nat→Nat)(n:Nat)(cols:Int)(R:Nat):Prop where
 pos:1≤R
 le:R≤n
 few:∀r,1≤r→r<R→cols<(totP f n r:Int)
 fits:R<n→(totP f n R:Int)≤cols
theorem FitIs.one {f:Nat→Nat}{n:Nat}{cols:Int}{R S:Nat}(h:FitIs f n cols R)(k:FitIs f n cols S):R=S:=by
 rcases Nat.lt_trichotomy R S with h1|h1|h1
 ·have:=k.few R h.pos h1
  have:=h.fits (by have:=k.le;omega)
  omega
 ·exact h1
 ·have:=h.few S k.pos h1
  have:=k.fits (by have:=h.le;omega)
  omega
theorem cols_one {n:Nat}(h:0<n):colsN n n=1:=by
 have h0:=(lt_cols (n:=n) (r:=n) (i:=0) h).2 (by omega)
 have h1:¬1<colsN n n:=fun h2=>by have:=(lt_cols (n:=n) (r:=n) (i:=1) h).1 h2;omega
 omega
def TellsFit (f:Nat→Nat)(n:Nat)(cols:Int)(w:World)(e:Ending)(w':World):Prop:=
 ∃R A c,e= .returned (.agg #[.int .i64 (R:Nat),.slice A (colsN n R) c])∧FitIs f n cols R∧Rd w' A (colsN n R) (nv (colW f n R))∧Below w.heap.size w w'
def FitVar (w w1:World)(f:Nat→Nat)(n r:Nat)(cols:Int)(wr:World):Prop:=
 Blk wr w.heap.size #[.int .i64 0,.slice none 0 0]∧Below w.heap.size w wr∧Below w1.heap.size w1 wr∧∀s,1≤s→s<r→cols<(totP f n s:Int)
theorem one_more {w w1:World}{cs:Array Value}{t:TypeId}(hb:Below (w.alloc (.cells cs t)).heap.size (w.alloc (.cells cs t)) w1):Blk w1 w.heap.size cs∧Below w.heap.size w w1:=
 ⟨(blk_new w cs t).later hb (blk_new w cs t).1,((Below.refl _ _).alloc (Nat.le_refl _) _).trans (hb.mono (by simp [World.size_alloc]))⟩
set_option maxHeartbeats 4000000 in
set_option maxRecDepth 100000 in
theorem fit_none (A:Option Addr)(c:Nat)(cols:Int)(w:World):
  Calls Tryz.prog 92 #[.slice A 0 c,.int .i64 cols] w fun e w'=>e= .returned (.agg #[.int .i64 0,.slice none 0 0])∧Below w.heap.size w w':=by
 go_enter Tryz.func92,Tryz.ntmps92
 go_wp2
 refine at_world (fun X=>X.cell? ⟨w.heap.size,0,none⟩=some (.int .i64 0)∧X.cell? ⟨w.heap.size,1,none⟩=some (.slice none 0 0)∧Below w.heap.size w X) ?_ ?_
 ·have B:=blk_new w #[.int .i64 0,.slice none 0 0] 124
  exact⟨B.2.1 0,B.2.1 1,(Below.refl _ _).alloc (Nat.le_refl _) _⟩
 rintro X ⟨x0,x1,hX⟩
 exact bodyPost_ret (v:= .agg #[.int .i64 0,.slice none 0 0]) (by simp [results,Tryz.results92,go_sem,x0,x1]) rfl ⟨rfl,hX⟩
set_option maxHeartbeats 4000000 in
set_option maxRecDepth 100000 in
theorem fit_some (A:Option Addr)(n c:Nat)(cols:Int)(f:Nat→Nat)(w:World)(hA:Rd w A n (nv f))(hf:∀j,j<n→f j≤1023)(h0:0<n)(hn:n≤60):
  Calls Tryz.prog 92 #[.slice A n c,.int .i64 cols] w (TellsFit f n cols w):=by
 have HA:=Lib.hid (And.intro hA hf)
 have C1:=Lib.hid (widest_of A n c f (w.alloc (.cells #[.int .i64 0,.slice none 0 0] 124)) (hA.later ((Below.refl _ _).alloc (Nat.le_refl _) _)) hf h0 hn)
 have d0:((n:Int)==0)=false:=by simp;omega
 clear hA hf
 go_enter Tryz.func92,Tryz.ntmps92
 go_wp2_with fail
 (with_reducible refine C1.out.mono ?_)
 rintro e w1 ⟨A1,Lv,c1,rfl,hT,hL,hLv,hb1⟩
 have H1:=Lib.hid (And.intro hT (And.intro hL (one_more hb1)))
 clear hT hL hb1
 go_wp2
 go_loopw [6,7,8] (fun i _ _ wr=>∃r:Nat,1≤r∧r≤n+1∧i= .int .i64 r∧Hid (FitVar w w1 f n r cols wr)) (fun i _ _ _=>n+1 -(intOf i).toNat)
 case atStart=>exact⟨1,Nat.le_refl _,by omega,rfl,H1.out.2.2.1,H1.out.2.2.2,Below.refl _ _,fun s h1 h2=>absurd h2 (by omega)⟩
 case round=>
  obtain⟨r,hr,hrn,rfl,HV⟩:=hrel
  obtain⟨y0,k0,j0⟩:=(show Blk _ _ _ from HV.out.1)
  by_cases hlt:r≤n
  ·have C2:=Lib.hid (plan_any A1 Lv c1 n r cols f wr (H1.out.1.later HV.out.2.2.1) H1.out.2.1 (by omega) hlt hn HA.out.2)
   go_wp2_with fail
   (with_reducible refine C2.out.mono ?_)
   rintro e w2 ⟨hb2,(⟨A2,c2,rfl,hR2,hA2,htot⟩|⟨rfl,htot⟩)⟩
   ·have H2:=Lib.hid (And.intro hb2 (And.intro hR2 (And.intro hA2 htot)))
    have B2:=Lib.hid ((show Blk _ _ _ from HV.out.1).later hb2 HV.out.1.1)
    obtain⟨z0,m0,n0⟩:=(show _ from B2.out)
    clear hb2 hR2 htot hA2 k0 j0
    go_wp2
    refine at_world (fun X=>X.cell? ⟨w.heap.size,0,none⟩=some (.int .i64 r)∧X.cell? ⟨w.heap.size,1,none⟩=some (.slice A2 (colsN n r) c2)∧Rd X A2 (colsN n r) (nv (colW f n r))∧Below w.heap.size w X) ?_ ?_
    ·have B3:=((B2.out.set_ 0 (by simp) (.int .i64 r)).set_ 1 (by simp) (.slice A2 (colsN n r) c2)).alloc (.cells #[.int .i64 r,.slice A2 (colsN n r) c2] 124)
     have hne:∀b o,A2=some ⟨b,o,none⟩→b≠w.heap.size:=fun b o e=>by have:=H2.out.2.2.1 b o e;omega
     have hbw:Below w.heap.size w w2:=HV.out.2.1.trans (H2.out.1.mono HV.out.2.1.size)
     exact⟨B3.2.1 0,B3.2.1 1,((H2.out.2.1.far hne _).far hne _).later ((Below.refl _ _).alloc (Nat.le_refl _) _),((hbw.setCell (p:=⟨w.heap.size,0,none⟩) (Nat.le_refl _) _).setCell (p:=⟨w.heap.size,1,none⟩) (Nat.le_refl _) _).alloc (by simp only [World.size_setCell];exact hbw.size) _⟩
    rintro X ⟨x0,x1,hR,hX⟩
    exact bodyPost_ret (v:= .agg #[.int .i64 r,.slice A2 (colsN n r) c2]) (by simp [results,Tryz.results92,go_sem,x0,x1]) rfl ⟨r,A2,c2,rfl,⟨hr,hlt,HV.out.2.2.2,fun _=>H2.out.2.2.2⟩,hR,hX⟩
   ·have H2:=Lib.hid (And.intro hb2 htot)
    clear hb2 htot y0 k0 j0
    go_wp2
    refine⟨⟨r+1,by omega,by omega,by go_num,?_⟩,by simp [intOf];omega⟩
    have hbw:Below w.heap.size w w2:=HV.out.2.1.trans (H2.out.1.mono HV.out.2.1.size)
    have hb1:Below w1.heap.size w1 w2:=HV.out.2.2.1.trans (H2.out.1.mono HV.out.2.2.1.size)
    exact⟨((show Blk _ _ _ from HV.out.1).later H2.out.1 HV.out.1.1).alloc _,hbw.alloc hbw.size _,hb1.alloc hb1.size _,fun s h1 h2=>by
     rcases Nat.lt_or_ge s r with h|h
     ·exact HV.out.2.2.2 s h1 h
     ·rw [show s=r by omega];exact H2.out.2⟩
  ·obtain rfl:r=n+1:=by omega
   have C3:=Lib.hid (max_any A n c f wr (HA.out.1.later HV.out.2.1) HA.out.2 h0 hn)
   go_wp2_with fail
   (with_reducible refine C3.out.mono ?_)
   rintro e w2 ⟨rfl,rfl⟩
   go_wp2
   refine at_world (fun X=>X.cell? ⟨w.heap.size,0,none⟩=some (.int .i64 n)∧X.cell? ⟨w.heap.size,1,none⟩=some (.slice (some ⟨wr.heap.size,0,none⟩) 1 1)∧Rd X (some ⟨wr.heap.size,0,none⟩) 1 (nv (colW f n n))∧Below w.heap.size w X) ?_ ?_
   ·have B3:=(((show Blk _ _ _ from HV.out.1).set_ 0 (by simp) (.int .i64 n)).set_ 1 (by simp) (.slice (some ⟨wr.heap.size,0,none⟩) 1 1)).alloc (.cells #[.int .i64 (mx f 0 n:Nat)] 3)
    have hN:=rd_new ((wr.setCell ⟨w.heap.size,0,none⟩ (.int .i64 n)).setCell ⟨w.heap.size,1,none⟩ (.slice (some ⟨wr.heap.size,0,none⟩) 1 1)) #[.int .i64 (mx f 0 n:Nat)] 3 1 (nv (colW f n n)) (fun j hj=>by
     obtain rfl:j=0:=by omega
     unfold nv colW
     simp)
    simp only [World.size_setCell]at hN
    exact⟨B3.2.1 0,B3.2.1 1,hN,((HV.out.2.1.setCell (p:=⟨w.heap.size,0,none⟩) (Nat.le_refl _) _).setCell (p:=⟨w.heap.size,1,none⟩) (Nat.le_refl _) _).alloc (by simp only [World.size_setCell];exact HV.out.2.1.size) _⟩
   rintro X ⟨x0,x1,hR,hX⟩
   have e1:=cols_one h0
   refine bodyPost_ret (v:= .agg #[.int .i64 n,.slice (some ⟨wr.heap.size,0,none⟩) 1 1]) (by simp [results,Tryz.results92,go_sem,x0,x1]) rfl ⟨n,_,_,by rw [e1],⟨h0,Nat.le_refl _,fun s h1 h2=>HV.out.2.2.2 s h1 (by omega),fun h=>absurd h (by omega)⟩,by rw [e1];exact hR,hX⟩
set_option maxHeartbeats 400000 in
theorem sameN (A B:Option Addr)(n c d:Nat)(f:Nat→Nat)(w:World)(hn:n≤60)(hA:Rd w A n (nv f))(hB:Rd w B n (nv f)):
  Calls Tryz.prog 27 #[.slice A n c,.slice B n d] w fun e w'=>e= .returned (.bool true)∧∃k,w'=w.drewN k:=by
 have h1:(((n:Int)==(n:Int)))=true:=by simp
 have h2:(((n:Int) != (n:Int)))=false:=by simp
 go_enter Tryz.func27,Tryz.ntmps27
 go_wp2
 go_loopw [5] (fun i wr=>∃k:Nat,k≤n∧i= .int .i64 k∧∃q,wr=w.drewN q) (fun i _=>n -(intOf i).toNat)
 case atStart=>exact⟨0,Nat.zero_le _,rfl,0,rfl⟩
 case round=>
  obtain⟨k,hk,rfl,q,rfl⟩:=hrel
  by_cases hlt:k<n
  ·obtain⟨a,i,rfl,_,ha⟩:=hA k hlt
   obtain⟨b,j,rfl,_,hb⟩:=hB k hlt
   have h3:((((f k:Nat):Int)==((f k:Nat):Int)))=true:=by simp
   have h4:((((f k:Nat):Int) != ((f k:Nat):Int)))=false:=by simp
   unfold nv at ha hb
   clear hA hB
   go_wp2
   go_quiet (fail)
   go_wp2
   go_roundw
   case rel=>exact⟨k+1,by omega,by go_num,_,rfl⟩
   case measure=>simp [intOf];omega
  ·go_wp2
   go_ret
   exact⟨rfl,_,rfl⟩
theorem ex_fit : FitIs (fun j => j + 1) 3 7 2 :=
  ⟨by decide, by decide, fun r h1 h2 => by obtain rfl : r = 1 := by omega
                                           decide, fun _ => by decide⟩
theorem one_cell {w w1:World}(hb:Below w.heap.size w w1)(cs:Array Value)(t:TypeId):Below w.heap.size w (w1.alloc (.cells cs t)):=hb.alloc hb.size _
set_option maxHeartbeats 2000000 in
set_option maxRecDepth 100000 in
theorem awake45_yes (w : World) : Calls Tryz.prog 46 #[] w fun e w' => e = .returned (.bool true) ∧ Below w.heap.size w w' := by
  have C1 := Lib.hid (fit_some (some ⟨w.heap.size, 0, none⟩) 3 3 7 (fun j => j + 1) (w.alloc (.cells #[.int .i64 1, .int .i64 2, .int .i64 3] 3))
    (rd_new w _ _ 3 _ (fun j hj => by obtain rfl | rfl | rfl : j = 0 ∨ j = 1 ∨ j = 2 := by omega
                                      all_goals rfl)) (fun j hj => by omega) (by omega) (by omega))
  go_enter Tryz.func46, Tryz.ntmps46
  go_wp2_with fail
  (with_reducible refine C1.out.mono ?_)
  rintro e w1 ⟨R, A1, c1, rfl, hF, hR, hb⟩
  obtain rfl : R = 2 := hF.one ex_fit
  obtain ⟨K, hK⟩ : ∃ K, colsN 3 2 = K := ⟨_, rfl⟩
  obtain rfl : K = 2 := by rw [← hK]; decide
  rw [hK] at hR ⊢
  have HR := Lib.hid (And.intro hR ((Below.refl _ _).alloc (Nat.le_refl _) _ |>.trans (hb.mono (by simp [World.size_alloc]))))
  clear hF hR hb
  have hW : ∀ j, j < 2 → colW (fun j => j + 1) 3 2 j ≤ 1023 := fun j hj => by
    obtain rfl | rfl : j = 0 ∨ j = 1 := by omega
    all_goals decide
  have C2 := Lib.hid (sameN A1 (some ⟨w1.heap.size + 1, 0, none⟩) 2 c1 2 (colW (fun j => j + 1) 3 2) ((w1.alloc (.cells #[.int .i64 2, .slice A1 2 c1] 124)).alloc (.cells #[.int .i64 2, .int .i64 3] 3)) (by omega)
    ((HR.out.1.later ((Below.refl _ _).alloc (Nat.le_refl _) _)).later ((Below.refl _ _).alloc (Nat.le_refl _) _))
    (by
      have h := rd_new (w1.alloc (.cells #[.int .i64 2, .slice A1 2 c1] 124)) #[.int .i64 2, .int .i64 3] 3 2 (nv (colW (fun j => j + 1) 3 2)) (fun j hj => by
        obtain rfl | rfl : j = 0 ∨ j = 1 := by omega
        all_goals rfl)
      rwa [World.size_alloc] at h))
  have B2 := (blk_new w1 #[.int .i64 2, .slice A1 2 c1] 124).alloc (.cells #[.int .i64 2, .int .i64 3] 3)
  obtain ⟨z0, m0, n0⟩ := (show Blk _ _ _ from B2)
  go_wp2_with fail
  (with_reducible refine C2.out.mono ?_)
  rintro e w2 ⟨rfl, q, rfl⟩
  have C3 := Lib.hid (plan_total 2 A1 2 c1 (colW (fun j => j + 1) 3 2) (((w1.alloc (.cells #[.int .i64 2, .slice A1 2 c1] 124)).alloc (.cells #[.int .i64 2, .int .i64 3] 3)).drewN q)
    (((HR.out.1.later ((Below.refl _ _).alloc (Nat.le_refl _) _)).later ((Below.refl _ _).alloc (Nat.le_refl _) _)).drewN q) hW (by omega))
  go_wp2_with fail
  (with_reducible refine C3.out.mono ?_)
  rintro e w3 ⟨rfl, hb3⟩
  have HB := Lib.hid (show Below w.heap.size w w3 from (below_drewN ((HR.out.2.alloc HR.out.2.size _).alloc (by simp only [World.size_alloc]; have := HR.out.2.size; omega) _) q).trans (hb3.mono (by have := HR.out.2.size; show w.heap.size ≤ ((w1.alloc _).alloc _).heap.size; simp only [World.size_alloc]; omega)))
  obtain ⟨t, ht⟩ : ∃ t, totN (colW (fun j => j + 1) 3 2) 2 = t := ⟨_, rfl⟩
  obtain rfl : t = 7 := by rw [← ht]; decide
  rw [ht]
  clear hb3
  go_wp2
  go_ret
  exact ⟨rfl, HB.out⟩
def sumW (D:List (List Int × Int)):Int:=(D.map (·.2)).foldr (· + ·) 0
def catT (D:List (List Int × Int)):List Int:=D.flatMap (·.1)
theorem sumW_snoc (D:List (List Int × Int))(g:List Int × Int):sumW (D++[g])=sumW D+g.2:=by
 unfold sumW
 induction D with
 |nil=>simp
 |cons x D ih=>simp only [List.cons_append,List.map_cons,List.foldr_cons]at ih ⊢;omega
theorem sumW_take {D:List (List Int × Int)}{k:Nat}{g:List Int × Int}(h:D[k]? =some g):sumW (D.take (k+1))=sumW (D.take k)+g.2:=by rw [take_snoc' h,sumW_snoc]
theorem sumW_rng {D:List (List Int × Int)}(h:∀g∈D,g.2=1∨g.2=2):0≤sumW D∧sumW D≤2*D.length:=by
 induction D with
 |nil=>simp [sumW]
 |cons x D ih=>
  have h1:=ih fun g hg=>h g (List.mem_cons_of_mem _ hg)
  have h2:=h x (by simp)
  unfold sumW at h1 ⊢
  simp only [List.map_cons,List.foldr_cons,List.length_cons]
  omega
set_option maxHeartbeats 8000000 in
set_option maxRecDepth 100000 in
theorem cwidth_any {T:List RW.Row}{tp:Nat}{A:Option Addr}{l:List Int}(c:Nat)(w:World)(hT:Tabs T tp w)(hK:(KT T).ok)(hKt:(KT T).tidy)(hL:Li 1 encC w (fun _=>True) A l)(hsc:Sc l)(hc:l.length≤c)(hm:c≤maxLen)(hn:l.length≤10000):
  Calls Tryz.prog 45 #[.pointer (some ⟨tp,0,none⟩),.slice A l.length c] w fun e w'=>e= .returned (.int .i64 (sumW (lineG (KG T) (KT T) l)))∧Below w.heap.size w w':=by
 have CL:=Lib.hid (line_any (T:=T) (tp:=tp) c w hT hK hKt hL hsc hc hm hn)
 have HQ:=Lib.hid (show (lineG (KG T) (KT T) l).length≤20000∧∀g∈lineG (KG T) (KT T) l,g.2=1∨g.2=2 from⟨by
  have:=gls_le (KG T) (KT T) l (SG.startsP (KT T) l).length (Nat.le_refl _)
  have:=fromP_le (K:=KT T) (l:=l) (SG.startsP (KT T) l).length
  unfold lineG
  omega,fun g hg=>(gls_good hg).1⟩)
 obtain⟨D,hD⟩:∃D,lineG (KG T) (KT T) l=D:=⟨_,rfl⟩
 rw [hD]at CL HQ ⊢
 obtain⟨N,hN⟩:∃N,l.length=N:=⟨_,rfl⟩
 rw [hN]at CL ⊢
 clear hT hK hKt hL hsc hD hN hc hn hm
 go_enter Tryz.func45,Tryz.ntmps45
 go_wp2_with fail
 refine CL.out.mono ?_
 rintro e w3 ⟨A1,n1,c1,A2,n2,c2,rfl,h⟩
 have hn1:=own_count encG_len (by decide) h.own1
 have hl1:=(LiV.own encG_len (by decide) h.own1).parts.2.1
 have B3:=Lib.hid (And.intro h.be hl1)
 have HD:=Lib.hid (show D.length=n1 from hn1)
 have HR:=Lib.hid (show ∀k,0≤sumW (D.take k)∧sumW (D.take k)≤40000 from fun k=>by
  have h1:=sumW_rng (D:=D.take k) (fun g hg=>HQ.out.2 g (List.mem_of_mem_take hg))
  have h2:=HQ.out.1
  have h3:=List.length_take_le k D
  have h4:(D.take k).length≤D.length:=by rw [List.length_take];omega
  omega)
 have hq:=HQ.out.1
 rw [HD.out]at hq
 have HZ:=Lib.hid (show sumW (D.take 0)=0 from rfl)
 have HT:=Lib.hid (show sumW D=sumW (D.take n1)by rw [←hn1,List.take_length])
 clear CL h hn1 hl1
 go_wp2
 go_loopw [7,18] (fun v i wr=>∃ (k:Nat) (q:Int),k≤n1∧i= .int .i64 k∧v= .int .i64 q∧Hid (sumW (D.take k)=q∧Below w3.heap.size w3 wr)) (fun _ i _=>n1 -(intOf i).toNat)
 case atStart=>exact⟨0,0,Nat.zero_le _,rfl,rfl,HZ.out,Below.refl _ _⟩
 case round=>
  obtain⟨k,q,hk,rfl,rfl,H⟩:=hrel
  by_cases hlt:k<n1
  ·obtain⟨s,d,b,o,hx,rfl,hb,a0,a1⟩:=(B3.out.2.later H.out.2).gl (j:=k) (by rw [HD.out];exact hlt)
   have hr1:=HR.out k
   have hr2:=HR.out (k+1)
   rw [sumW_take hx]at hr2
   rw [H.out.1]at hr1 hr2
   have HS:=Lib.hid (show sumW (D.take (k+1))=q+d by rw [sumW_take hx,H.out.1])
   obtain⟨t,ht⟩:∃t,strOfNums s=t:=⟨_,rfl⟩
   rw [ht]at a0
   have HB:=Lib.hid (And.intro H.out.2 hb)
   have e0:IntKind.i64.wrap (q+d)=q+d:=by rw [IntKind.wrap_i64];omega
   clear hx ht
   go_wp2
   go_roundw
   case rel=>exact⟨k+1,q+d,by omega,by go_num,rfl,HS.out,belPush HB.out.1 _⟩
   case measure=>simp [intOf];omega
  ·obtain rfl:k=n1:=by omega
   go_wp2
   go_ret
   exact⟨congrArg (fun x=>Ending.returned (.int .i64 x)) (H.out.1.symm.trans HT.out.symm),bStepS B3.out.1 H.out.2⟩
theorem of_small {K:GY.Kw}{l:List Int}{g:List Int × Int}(h:g∈GY.ofG K l):g.1.length≤4*(l.length+2):=by
 unfold GY.ofG at h
 split at h
 ·simp at h
 ·split at h
  ·obtain⟨x,_,hx⟩:=List.mem_flatMap.1 h
   unfold GY.ctlG at hx
   split at hx
   ·simp only [List.mem_cons,List.not_mem_nil,or_false]at hx
    rcases hx with rfl|rfl
    ·show 1≤_;omega
    ·have:=(putS_range (x+64)).2.2
     show (putS (x+64)).length≤_
     omega
   ·split at hx
    ·simp only [List.mem_cons,List.not_mem_nil,or_false]at hx
     rcases hx with rfl|rfl
     ·show 1≤_;omega
     ·show 1≤_;omega
    ·obtain rfl:=List.mem_singleton.1 hx
     have:=(putS_range 65533).2.2
     show (putS 65533).length≤_
     omega
  ·obtain rfl:=List.mem_singleton.1 h
   have h1:=encU_len (GY.fullC K l)
   have h2:=GY.fullC_len K l
   show (encU (GY.fullC K l)).length≤_
   omega
theorem line_small {G:GY.Kw}{K:SG.Kinds}{l:List Int}{g:List Int × Int}(h:g∈lineG G K l):g.1.length≤4*(l.length+2):=by
 obtain⟨c,hc,hg⟩:=List.mem_flatMap.1 h
 have hc2:=List.mem_of_mem_take hc
 unfold clusL at hc2
 obtain⟨k,hk,rfl⟩:=List.mem_map.1 hc2
 have h1:=of_small hg
 have h2:=clus_le (K:=K) (l:=l) (List.mem_range.1 hk)
 omega
theorem catT_take {D:List (List Int × Int)}{k:Nat}{g:List Int × Int}(h:D[k]? =some g):catT (D.take (k+1))=catT (D.take k)++g.1:=by
 unfold catT
 rw [take_snoc' h,List.flatMap_append]
 simp
theorem catT_len {D:List (List Int × Int)}{m:Nat}(h:∀g∈D,g.1.length≤m):(catT D).length≤D.length*m:=by
 induction D with
 |nil=>simp [catT]
 |cons x D ih=>
  have h1:=ih fun g hg=>h g (List.mem_cons_of_mem _ hg)
  have h2:=h x (by simp)
  unfold catT at h1 ⊢
  rw [List.flatMap_cons,List.length_append,List.length_cons,Nat.succ_mul]
  omega
set_option maxHeartbeats 8000000 in
set_option maxRecDepth 100000 in
theorem rcwidth_any {T:List RW.Row}{A A2:Option Addr}{l:List Int}{c:Nat}(c2:Nat)(w:World)(h:RT w A c T A2 l)(hc2:l.length≤c2)(hm:c2≤maxLen)(hn:l.length≤10000):
  Calls Tryz.prog 44 #[.slice A T.length c,.slice A2 l.length c2] w fun e w'=>e= .returned (.tuple #[.int .i64 (sumW (lineG (KG T) (KT T) l)),.string (strOfNums (catT (lineG (KG T) (KT T) l)))])∧Below w.heap.size w w':=by
 have CL:=Lib.hid (rline_any c2 w h hc2 hm hn)
 have HQ:=Lib.hid (show (lineG (KG T) (KT T) l).length≤20000∧(∀g∈lineG (KG T) (KT T) l,g.2=1∨g.2=2)∧∀g∈lineG (KG T) (KT T) l,g.1.length≤40008 from⟨by
  have:=gls_le (KG T) (KT T) l (SG.startsP (KT T) l).length (Nat.le_refl _)
  have:=fromP_le (K:=KT T) (l:=l) (SG.startsP (KT T) l).length
  unfold lineG
  omega,fun g hg=>(gls_good hg).1,fun g hg=>by have:=line_small hg;omega⟩)
 obtain⟨D,hD⟩:∃D,lineG (KG T) (KT T) l=D:=⟨_,rfl⟩
 rw [hD]at CL HQ ⊢
 obtain⟨N,hN⟩:∃N,l.length=N:=⟨_,rfl⟩
 rw [hN]at CL ⊢
 clear h hD hN hc2 hn hm
 go_enter Tryz.func44,Tryz.ntmps44
 go_wp2_with fail
 refine CL.out.mono ?_
 rintro e w3 ⟨A1,n1,c1,A2,n2,c2,rfl,h⟩
 have hn1:=own_count encG_len (by decide) h.own1
 have hl1:=(LiV.own encG_len (by decide) h.own1).parts.2.1
 have B3:=Lib.hid (And.intro h.be hl1)
 have HD:=Lib.hid (show D.length=n1 from hn1)
 have HR:=Lib.hid (show ∀k,0≤sumW (D.take k)∧sumW (D.take k)≤40000∧(catT (D.take k)).length≤1000000000 from fun k=>by
  have h1:=sumW_rng (D:=D.take k) (fun g hg=>HQ.out.2.1 g (List.mem_of_mem_take hg))
  have h2:=HQ.out.1
  have h4:(D.take k).length≤D.length:=by rw [List.length_take];omega
  have h5:=catT_len (D:=D.take k) (m:=40008) (fun g hg=>HQ.out.2.2 g (List.mem_of_mem_take hg))
  have h6:(D.take k).length*40008≤20000*40008:=Nat.mul_le_mul_right _ (by omega)
  omega)
 have hq:=HQ.out.1
 rw [HD.out]at hq
 have HZ:=Lib.hid (show sumW (D.take 0)=0 from rfl)
 have HT:=Lib.hid (show sumW D=sumW (D.take n1)∧catT D=catT (D.take n1)by rw [←hn1,List.take_length];exact⟨rfl,rfl⟩)
 clear CL h hn1 hl1
 go_wp2
 go_loopw [6,7,10] (fun v u i wr=>∃ (k:Nat) (q:Int) (x:ByteArray),k≤n1∧i= .int .i64 k∧v= .int .i64 q∧u= .string x∧wr=w3∧Hid (sumW (D.take k)=q∧strOfNums (catT (D.take k))=x)) (fun _ _ i _=>n1 -(intOf i).toNat)
 case atStart=>exact⟨0,0,⟨#[]⟩,Nat.zero_le _,rfl,rfl,rfl,rfl,HZ.out,rfl⟩
 case round=>
  obtain⟨k,q,x,hk,rfl,rfl,rfl,rfl,H⟩:=hrel
  by_cases hlt:k<n1
  ·obtain⟨s,d,b,o,hx,rfl,hb,a0,a1⟩:=B3.out.2.gl (j:=k) (by rw [HD.out];exact hlt)
   have hr1:=HR.out k
   have hr2:=HR.out (k+1)
   have hs1:(strOfNums (catT (D.take k))).size≤1000000000:=by rw [strOfNums_size];exact hr1.2.2
   have hs2:(strOfNums s).size≤40008:=by rw [strOfNums_size];exact HQ.out.2.2 _ (List.mem_of_getElem? hx)
   rw [sumW_take hx]at hr2
   rw [H.out.2]at hs1
   rw [H.out.1]at hr1 hr2
   have HS:=Lib.hid (show sumW (D.take (k+1))=q+d∧strOfNums (catT (D.take (k+1)))=x++strOfNums s by rw [sumW_take hx,catT_take hx,←str_append,H.out.1,H.out.2];exact⟨rfl,rfl⟩)
   obtain⟨t,ht⟩:∃t,strOfNums s=t:=⟨_,rfl⟩
   rw [ht]at a0 HS hs2
   have hl:=run_string_add_sum (P:= Tryz.prog) wr x t (by omega)
   have e0:IntKind.i64.wrap (q+d)=q+d:=by rw [IntKind.wrap_i64];omega
   clear hx ht hr1 hr2
   go_wp2
   go_roundw
   case rel=>exact⟨k+1,q+d,x++t,by omega,by go_num,rfl,rfl,trivial,HS⟩
   case measure=>simp [intOf];omega
  ·obtain rfl:k=n1:=by omega
   have E1:=Lib.hid (show q=sumW D∧x=strOfNums (catT D)from⟨H.out.1.symm.trans HT.out.1.symm,H.out.2.symm.trans (congrArg strOfNums HT.out.2.symm)⟩)
   go_wp2
   go_ret2
   refine⟨?_,B3.out.1⟩
   rw [←E1.out.1,←E1.out.2]
   rfl
set_option maxHeartbeats 8000000 in
set_option maxRecDepth 100000 in
theorem walk_ColumnsWidth (w:World)(A0:Option Addr)(n0 c0:Nat)(f0:Nat→Int)(hA:Rd w A0 n0 (fun j=> .int .i32 (f0 j)))(hle:n0≤c0)(hmax:c0≤maxLen)(hp:∀j,j<n0→(Lit.int .i32 (f0 j)).wf=true):
  Calls Tryz.prog 13 #[.slice A0 n0 c0] w (Yes w):=by
 obtain⟨T,hG,hT,C0⟩:=rows_li w
 obtain⟨l,hll,hL0,hSc⟩:=came_text hA hp 80
 have hlc:l.length≤c0:=by omega
 have hl2:l.length≤80:=by omega
 have HG:=Lib.hid hG
 have C0:=Lib.hid C0
 have AW:=Lib.hid (fun X=>awake45_yes X)
 have HL:=Lib.hid (And.intro hL0 hSc)
 have HK:=Lib.hid (show (KT T).ok∧(KT T).tidy by rw [←hT];exact⟨kt_ok given_conj,rows_tidy⟩)
 have CF:=fews_any A0 n0 c0 80 w hle (by unfold maxLen at hmax;omega) (by omega)
 rw [←hll]at CF
 have CF:=Lib.hid CF
 have HM:=Lib.hid hmax
 clear hG hA hp hT hL0 hSc hll hle hmax
 go_enter Tryz.func13,Tryz.ntmps13
 go_wp2_with fail
 refine CF.out.mono ?_
 rintro e w0 ⟨rfl,rfl⟩
 clear CF
 go_wp2_with fail
 refine C0.out.mono ?_
 rintro e w1 ⟨A,c,rfl,hL,hc,hm,hb1⟩
 have hT:T.length≤100000:=by have:=HG.out.len;omega
 have L1:=Lib.hid (And.intro (hL.mono (S':=fun _=>True) fun _ _=>trivial) hb1)
 have CR:=Lib.hid (rcwidth_any (T:=T) (A:=A) (c:=c) c0 w1 (RT.mk (A2:=A0) L1.out.1 hc hT (HL.out.1.later hb1) HL.out.2 (by omega)) hlc HM.out (by omega))
 have C1:=Lib.hid (fun(X:World) (hX:Below w1.heap.size w1 X)=>build_tabs A c T X (L1.out.1.later hX) hc HG.out)
 have CW:=Lib.hid (fun(X:World) (hX:Below w1.heap.size w1 X) (tp:Nat) (hU:Tabs T tp X)=>cwidth_any (T:=T) (tp:=tp) c0 X hU HK.out.1 HK.out.2 (HL.out.1.later (bStepS hb1 hX)) HL.out.2 hlc HM.out (by omega))
 obtain⟨D,hD⟩:∃D,lineG (KG T) (KT T) l=D:=⟨_,rfl⟩
 rw [hD]at CR CW
 obtain⟨q,hq⟩:∃q,sumW D=q:=⟨_,rfl⟩
 rw [hq]at CR CW
 obtain⟨x,hx⟩:∃x,strOfNums (catT D)=x:=⟨_,rfl⟩
 rw [hx]at CR
 obtain⟨N,hN⟩:∃N,l.length=N:=⟨_,rfl⟩
 rw [hN]at CR CW ⊢
 clear C0 hL hb1 hD hq hx hN hlc hl2 HL HK HM
 go_wp2_with fail
 refine CR.out.mono ?_
 rintro e w2 ⟨rfl,hb⟩
 have B2:=Lib.hid hb
 clear CR hb
 go_wp2_with fail
 refine(C1.out w2 B2.out).mono ?_
 rintro e w3 ⟨tp,rfl,hU,hb⟩
 have B3:=Lib.hid (bStepS B2.out hb)
 have CX:=Lib.hid (CW.out w3 B3.out tp hU)
 clear C1 CW hb hU B2
 go_wp2_with fail
 refine CX.out.mono ?_
 rintro e w4 ⟨rfl,hb⟩
 have B4:=Lib.hid (bStepS L1.out.2 (bStepS B3.out hb))
 clear CX hb B3
 go_wp2_with fail
 refine(AW.out _).mono ?_
 rintro e w8 ⟨rfl,hb⟩
 have U6:=Lib.hid (bStepS B4.out hb)
 clear hb
 go_wp2
 go_ret
 exact⟨rfl,U6.out⟩
end Go.Proofs.YtlopleeopnnoeaaGreat
namespace Go.Proofs.YtlopleeopnnoeaaGreat.columnsWidth
open Go.ChangeShapes Go.WideShapes Go.ChangeAt Go.RowKit Go.WideMaps Go.WideElems
open Go.ChangeMaps (open_string)
theorem own:ownKnob Tryz.prog.godebug=none:=by kernel_rfl
theorem laidOut:laidOutB Tryz.prog=true:=by kernel_rfl
set_option linter.unusedVariables false in
set_option maxRecDepth 100000 in
theorem lifted (os:Os)(started:os.Started)(H:Type)(enc:TypeId × Value→H):
  ReturnsInHanded {} Tryz.checked os 13 .any (Rows.columnsWidthSpec.pre6 enc Tryz.prog Tryz.f13 Rows.columnsWidthRow.domain false) (Rows.columnsWidthSpec.post enc Tryz.prog Tryz.f13 false true false false):=by
 refine returnsInHanded_of_change (C:= Tryz.checked) own started (by kernel_rfl) Tryz.func13
  (ChangeSpec.witness6 (enc:=enc) (C:= Tryz.checked) false ⟨#[],#[.slice none 0 0],[]⟩ 8 (by kernel_rfl) (by kernel_rfl) (by kernel_rfl) (by kernel_rfl)) ?_
 intro W base args ds gs before hval0 hW hcnd _
 have hval:∀ (j:Nat) t v,Tryz.f13.params[j]? =some t→args[j]? =some v→Value.okWide Tryz.prog W .any base t v:=hval0
 have hW':=hW
 obtain⟨p,q,hA0,hV,rfl,hfz,hnd⟩:=hW
 have hA:DataW.TrodAll enc Tryz.prog W 0 (fun _=>true) true Tryz.f13.params.toList args.toList ds p:=hA0
 rw [Tryz.params13]at hA hval
 obtain⟨v0,vs0,d0,ds0,p0,q0,hargs,rfl,rfl,h0,r0⟩:=trodAll_cons hA
 obtain⟨rfl,rfl,rfl⟩:=trodAll_nil r0
 obtain rfl:args=#[v0]:=by cases args;simp_all
 obtain⟨rfl,rfl⟩:=trodVars_none hV
 obtain⟨A0,n0,c0,f0,C0,w0⟩:=arg_ints Tryz.underlying22 Tryz.underlying21 (by kernel_rfl) (hval 0 22 v0 rfl rfl) h0
 obtain rfl:=C0.eq
 refine(walk_ColumnsWidth W A0 n0 c0 f0 C0.rd C0.le C0.max w0).mono fun e W' ⟨he,hb⟩=> ?_
 subst he
 exact⟨_,rfl,law_post hW' rfl rfl rfl rfl laidOut (by kernel_rfl) rfl Tryz.underlying4 hb⟩
theorem over:Rows.columnsWidthRow.holds Tryz.pinned (OpenSpec.ofChange Rows.columnsWidthSpec):=
 OpenClaim.holds_of_wide 13 Tryz.f13 rfl rfl rfl rfl rfl rfl rfl ⟨rfl,rfl,rfl,rfl,rfl⟩ rfl rfl rfl rfl rfl (by kernel_rfl) Tryz.func13 (by kernel_rfl)
  (of_decide_eq_true (by kernel_rfl)) (by unfold Func.isWrapper;first|(rw [if_pos (by decide+kernel)];kernel_rfl)|(rw [if_neg (by decide+kernel)];exact⟨rfl,rfl⟩))
  (fun os started H enc _=>lifted os started H enc)
theorem proved:Rows.ColumnsWidthSaid:=over
#print axioms proved
end Go.Proofs.YtlopleeopnnoeaaGreat.columnsWidth
