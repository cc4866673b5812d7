/- 'typebar/typebarlaw12.WordGoes' returns true for every input, and each argument reads behind the call as it read before. No condition. -/
import Derived.Test.YtlopleeopnnoeaaGreatMw02
import Derived.Test.YtlopleeopnnoeaaGreatMv01
import Derived.Deep.DeepCutAuto
import Derived.Deep.CutBlock
import Derived.Deep.CutRange
set_option linter.unusedVariables false
set_option linter.unusedSimpArgs false
namespace Go.Proofs.YtlopleeopnnoeaaGreat
open Go.RowKit
set_option maxHeartbeats 8000000 in
set_option maxRecDepth 100000 in
theorem walk_WordGoes (w:World)(A0:Option Addr)(n0 c0:Nat)(f0:Nat→Int)(hA:Rd w A0 n0 (fun j=> .int .i32 (f0 j)))(hle:n0≤c0)(hmax:c0≤maxLen)(hp:∀j,j<n0→(Lit.int .i32 (f0 j)).wf=true)(a1:Int)(w1:(Lit.int .i64 a1).wf=true):
  Calls Tryz.prog 9 #[.slice A0 n0 c0,.int .i64 a1] w (Yes w):=by
 obtain⟨ha1,ha2⟩:=wf_i64 w1
 clear w1
 obtain⟨T,hG,hT,C0⟩:=rows_li w
 obtain⟨l,hll,hL0,hSc⟩:=came_text hA hp 120
 have hlc:l.length≤c0:=by omega
 have hl2:l.length≤120:=by omega
 have HG:=Lib.hid hG
 have C0:=Lib.hid C0
 have AW:=Lib.hid (fun X=>awake12_yes X)
 have HL:=Lib.hid (And.intro hL0 hSc)
 have HK:=Lib.hid (show (KT T).ok∧(KT T).tidy by rw [←hT];exact⟨kt_ok given_conj,rows_tidy⟩)
 have CF:=fews_any A0 n0 c0 120 w hle (by unfold maxLen at hmax;omega) (by omega)
 rw [←hll]at CF
 have CF:=Lib.hid CF
 clear hG hA hp hT hL0 hSc hll hle hmax
 go_enter Tryz.func9,Tryz.ntmps9
 go_wp2_with fail
 refine CF.out.mono ?_
 rintro e w0 ⟨rfl,rfl⟩
 clear CF
 go_wp2_with fail
 refine C0.out.mono ?_
 rintro e w1 ⟨A,c,rfl,hL,hc,hm,hb1⟩
 have C1:=Lib.hid (build_tabs A c T w1 (hL.mono fun _ _=>trivial) hc HG.out)
 have L1:=Lib.hid (And.intro (hL.mono (S':=fun _=>True) fun _ _=>trivial) hb1)
 clear C0 hL hb1
 go_wp2_with fail
 refine C1.out.mono ?_
 rintro e w2 ⟨tp,rfl,hU,hb⟩
 have U2:=Lib.hid (And.intro hU (And.intro (L1.out.1.later hb) (L1.out.2.trans (hb.mono L1.out.2.size))))
 clear hU hb C1 L1
 have hT:T.length≤100000:=by have:=HG.out.len;omega
 have HTT:=Lib.hid (show TT w2 T tp A0 c0 l from⟨U2.out.1,HK.out.2,HL.out.1.later U2.out.2.2,HL.out.2,hlc,by omega⟩)
 have HRT:=Lib.hid (RT.mk (A2:=A0) (l:=l) U2.out.2.1 hc hT (HL.out.1.later U2.out.2.2) HL.out.2 (by omega))
 have HB:=Lib.hid U2.out.2.2
 have FA:=Lib.hid (fun(X:World) (hX:Below w2.heap.size w2 X)=>forward_any (HTT.out.later hX) HK.out.1 a1 ha2 _ rfl)
 have BA:=Lib.hid (fun(X:World) (hX:Below w2.heap.size w2 X)=>wback_any (HTT.out.later hX) HK.out.1 a1 _ rfl)
 have RF:=Lib.hid (fun(X:World) (hX:Below w2.heap.size w2 X) (a:Int) (u:Nat) hu hau V hV=>rforward_any (l:=l) c0 X (HRT.out.later hX) hlc a u hu hau V hV)
 have RB:=Lib.hid (fun(X:World) (hX:Below w2.heap.size w2 X) (a:Int) (E:Nat) hE hae V hV=>rback_any (l:=l) c0 X (HRT.out.later hX) hlc a E hE hae V hV)
 have IA:=Lib.hid (fun(n a:Nat) (ha:a≤l.length)=>ris_any c0 (HRT.out.later (selfDrew w2 n)) hlc a ha)
 have HU:=Lib.hid (WD.bnd_of (KT T) l a1.toNat)
 have HF:=Lib.hid (And.intro (WD.floorI_bnd (KT T) l a1) (And.intro (@SG.nextP_ge (KT T) l a1.toNat) (@SG.nextP_end (KT T) l a1.toNat)))
 have HS:=Lib.hid (fun(i:Nat) (h:i<l.length)=>And.intro (@SG.nextP_yes (KT T) l i h) (And.intro (@SG.nextP_no (KT T) l i h) (isP_lt (KT T) h)))
 obtain⟨u,hu⟩:∃u,SG.nextP (KT T) l a1.toNat=u:=⟨_,rfl⟩
 obtain⟨E,hE⟩:∃E,floorI (KT T) l a1=E:=⟨_,rfl⟩
 rw [hu]at FA HU
 rw [hE]at BA
 obtain⟨VF,hVF⟩:∃V,WD.fwd (KT T) (ltT T) l u=V:=⟨_,rfl⟩
 obtain⟨VB,hVB⟩:∃V,WD.back (KT T) (ltT T) l E=V:=⟨_,rfl⟩
 rw [hVF]at FA
 rw [hVB]at BA
 have RF:=Lib.hid (fun(X:World) (hX:Below w2.heap.size w2 X) (a:Int) hau=>RF.out X hX a u HU.out hau VF hVF)
 have RB:=Lib.hid (fun(X:World) (hX:Below w2.heap.size w2 X) (a:Int) hae=>RB.out X hX a E (by rw [←hE];exact HF.out.1.1) hae VB hVB)
 have HE:=Lib.hid (show floorI (KT T) l a1=E from hE)
 have HUU:=Lib.hid (show SG.nextP (KT T) l a1.toNat=u from hu)
 have hul:=HU.out.1
 obtain⟨N,hN⟩:∃N,l.length=N:=⟨_,rfl⟩
 have HN:=Lib.hid hN
 rw [hN]at FA BA IA RF RB hl2 hul ⊢
 clear U2 hlc HL HG HRT HTT hu hE hVF hVB hN
 obtain⟨s,hs,hs2⟩:∃s:Nat,a1.toNat=s∧(s:Int)≤9223372036854775807:=⟨_,rfl,by omega⟩
 go_upto_if 17 with fail
 go_cut [7] (fun v wx=>v= .int .i64 (s:Nat)∧wx=w2)
 case first=>
  by_cases hb:a1<0
  ·obtain rfl:s=0:=by omega
   go_wp2_with fail
   go_meet
   exact⟨rfl,rfl⟩
  ·obtain rfl:a1=s:=by omega
   have d0:decide ((s:Int)<0)=false:=by simp
   go_wp2_with fail
   go_meet
   exact⟨rfl,rfl⟩
 case rest=>
 obtain⟨rfl,hwc⟩:=hcut
 have hwc:=hwc.symm
 subst hwc
 go_upto_block 0 with fail
 go_cut [7] (fun v wx=>∃a:Int,v= .int .i64 a∧Hid (∀y:Nat,y≤N→(a<(y:Int)↔u<y))∧∃m,wx=w2.drewN m)
 case first=>
  go_wp2_with fail
  go_loopw [7] (fun v wx=>∃k:Nat,(k:Int)≤9223372036854775807∧v= .int .i64 k∧Hid (SG.nextP (KT T) l k=u)∧∃m,wx=w2.drewN m) (fun v _=>N -(intOf v).toNat)
  case atStart=>exact⟨s,hs2,rfl,Lib.hid (by rw [←hs];exact HUU.out),0,rfl⟩
  case round=>
   obtain⟨k,hk,rfl,HK,m,rfl⟩:=hrel
   by_cases hlt:k<N
   ·have C:=IA.out m k (by omega)
    have h3:=HS.out k (by rw [HN.out];exact hlt)
    rw [h3.2.2]at C
    obtain⟨q,hq⟩:∃q,SG.begAt (KT T) l k=q:=⟨_,rfl⟩
    rw [hq]at C
    have C:=Lib.hid C
    have HQ:=Lib.hid (And.intro hq h3)
    have g0:(k:Int)<(N:Int):=by omega
    clear hq h3
    go_wp2_with fail
    refine C.out.mono ?_
    rintro e w1 ⟨rfl,m2,rfl⟩
    clear C
    cases q
    case false=>
     have HN:=Lib.hid (show SG.nextP (KT T) l (k+1)=u by rw [←HQ.out.2.2.1 HQ.out.1];exact HK.out)
     clear HK HQ
     go_wp2
     go_roundw
     case rel=>exact⟨k+1,by omega,by go_num,HN,_,rfl⟩
     case measure=>simp [intOf];omega
    case true=>
     have hku:=Lib.hid (show u=k by rw [←HK.out];exact HQ.out.2.1 HQ.out.1)
     clear HK HQ
     go_wp2
     go_meet
     exact⟨k,rfl,Lib.hid fun y _=>by rw [hku.out];omega,_,rfl⟩
   ·have hku:=Lib.hid (show u=N by rw [←HK.out,SG.nextP_end (by rw [HN.out];omega),HN.out])
    have g0:decide ((k:Int)<(N:Int))=false:=by simp;omega
    clear HK
    go_wp2
    go_meet
    exact⟨k,rfl,Lib.hid fun y _=>by rw [hku.out];omega,_,rfl⟩
 case rest=>
 obtain⟨up,rfl,HUP,m,rfl⟩:=hcut
 clear HS HU HUU hs hs2 hul
 have hz:∃z:Int,z≤N∧ -9223372036854775808≤z∧(if (N:Int)<a1 then (N:Int)else a1)=z∧floorP (KT T) l z.toNat=E:=by
  refine⟨_,?_,?_,rfl,?_⟩
  ·split<;>omega
  ·split<;>omega
  ·rw [←HE.out]
   unfold floorI
   rw [HN.out]
   split
   ·rw [Int.min_eq_right (by omega)]
   ·rw [Int.min_eq_left (by omega)]
 obtain⟨z,hzN,hz2,hz3,hz4⟩:=hz
 have HZ:=Lib.hid hz4
 have HZ3:=Lib.hid hz3
 clear hz4 hz3 HE
 go_upto_if 34 with fail
 go_cut [8] (fun v wx=>v= .int .i64 z∧wx=w2.drewN m)
 case first=>
  have h3:=HZ3.out
  by_cases hb:(N:Int)<a1
  ·rw [if_pos hb]at h3
   subst h3
   go_wp2_with fail
   go_meet
   exact⟨rfl,rfl⟩
  ·rw [if_neg hb]at h3
   subst h3
   have d0:decide ((N:Int)<a1)=false:=by simpa using hb
   go_wp2_with fail
   go_meet
   exact⟨rfl,rfl⟩
 case rest=>
 obtain⟨rfl,hwc⟩:=hcut
 subst hwc
 clear HZ3
 go_upto_block 2 with fail
 go_cut [8] (fun v wx=>∃a:Int,v= .int .i64 a∧Hid (∀y:Nat,y<N→((y:Int)<a↔y<E))∧∃m,wx=w2.drewN m)
 case first=>
  go_wp2_with fail
  go_loopw [8] (fun v wx=>∃z:Int,z≤N∧ -9223372036854775808≤z∧v= .int .i64 z∧Hid (floorP (KT T) l z.toNat=E)∧∃m,wx=w2.drewN m) (fun v _=>(intOf v).toNat)
  case atStart=>exact⟨z,hzN,hz2,rfl,HZ,m,rfl⟩
  case round=>
   obtain⟨z,hz,hz2,rfl,HK,m,rfl⟩:=hrel
   by_cases h0:0<z
   ·obtain⟨k,rfl⟩:∃k:Nat,z=((k+1:Nat):Int):=⟨(z - 1).toNat,by omega⟩
    have C:=IA.out m (k+1) (by omega)
    have hK:=HK.out
    rw [Int.toNat_natCast,floorP]at hK
    obtain⟨q,hq⟩:∃q,isP (KT T) l (k+1)=q:=⟨_,rfl⟩
    rw [hq]at C hK
    have HK1:=Lib.hid hK
    have C:=Lib.hid C
    have g0:decide ((0:Int)<((k+1:Nat):Int))=true:=by simp
    clear hK hq HK h0
    go_wp2_with fail
    refine C.out.mono ?_
    rintro e w1 ⟨rfl,m2,rfl⟩
    clear C
    cases q
    case false=>
     go_wp2
     go_roundw
     case rel=>exact⟨k,by omega,by omega,by go_num,Lib.hid (by simpa using HK1.out),_,rfl⟩
     case measure=>simp [intOf]
    case true=>
     have hkE:=Lib.hid (show k+1=E by simpa using HK1.out)
     clear HK1
     go_wp2
     go_meet
     exact⟨((k+1:Nat):Int),rfl,Lib.hid fun y _=>by rw [←hkE.out];omega,_,rfl⟩
   ·have hE0:=Lib.hid (show 0=E by rw [←HK.out,show z.toNat=0 by omega];rfl)
    have g0:decide ((0:Int)<z)=false:=by simpa using h0
    clear HK
    go_wp2
    go_meet
    exact⟨z,rfl,Lib.hid fun y _=>by rw [←hE0.out];omega,_,rfl⟩
 case rest=>
 obtain⟨dn,rfl,HDN,m3,rfl⟩:=hcut
 have hbm:=Lib.hid (belDrew (Below.refl w2.heap.size w2) m3)
 have C:=Lib.hid (FA.out _ hbm.out)
 clear FA IA HZ hzN hz2
 go_wp2_with fail
 refine C.out.mono ?_
 rintro e w4 ⟨rfl,hb4⟩
 have H4:=Lib.hid (bStepS hbm.out hb4)
 have C1:=Lib.hid (RF.out _ H4.out up HUP.out)
 clear C hb4 hbm RF
 go_wp2_with fail
 refine C1.out.mono ?_
 rintro e w5 ⟨rfl,hb5⟩
 have H5:=Lib.hid (bStepS H4.out hb5)
 have e2:((VF:Int)==(VF:Int))=true:=by simp
 have C2:=Lib.hid (BA.out _ H5.out)
 clear C1 hb5 H4 BA
 go_wp2_with fail
 refine C2.out.mono ?_
 rintro e w6 ⟨rfl,hb6⟩
 have H6:=Lib.hid (bStepS H5.out hb6)
 have C3:=Lib.hid (RB.out _ H6.out dn HDN.out)
 clear C2 hb6 H5 RB
 go_wp2_with fail
 refine C3.out.mono ?_
 rintro e w7 ⟨rfl,hb7⟩
 have H7:=Lib.hid (bStepS H6.out hb7)
 have e3:((VB:Int)==(VB:Int))=true:=by simp
 clear C3 hb7 H6
 go_wp2_with fail
 refine(AW.out _).mono ?_
 rintro e w8 ⟨rfl,hb⟩
 have U6:=Lib.hid (bStepS HB.out (bStepS H7.out hb))
 clear hb
 go_wp2
 go_ret
 exact⟨rfl,U6.out⟩
end Go.Proofs.YtlopleeopnnoeaaGreat
namespace Go.Proofs.YtlopleeopnnoeaaGreat.wordGoes
open Go.ChangeShapes Go.WideShapes Go.ChangeAt Go.RowKit Go.WideMaps Go.WideElems
open Go.ChangeMaps (open_string)
theorem own:ownKnob Tryz.prog.godebug=none:=by kernel_rfl
theorem laidOut:laidOutB Tryz.prog=true:=by kernel_rfl
set_option linter.unusedVariables false in
set_option maxRecDepth 100000 in
theorem lifted (os:Os)(started:os.Started)(H:Type)(enc:TypeId × Value→H):
  ReturnsInHanded {} Tryz.checked os 9 .any (Rows.wordGoesSpec.pre6 enc Tryz.prog Tryz.f9 Rows.wordGoesRow.domain false) (Rows.wordGoesSpec.post enc Tryz.prog Tryz.f9 false true false false):=by
 refine returnsInHanded_of_change (C:= Tryz.checked) own started (by kernel_rfl) Tryz.func9
  (ChangeSpec.witness6 (enc:=enc) (C:= Tryz.checked) false ⟨#[],#[.slice none 0 0,.int .i64 0],[]⟩ 8 (by kernel_rfl) (by kernel_rfl) (by kernel_rfl) (by kernel_rfl)) ?_
 intro W base args ds gs before hval0 hW hcnd _
 have hval:∀ (j:Nat) t v,Tryz.f9.params[j]? =some t→args[j]? =some v→Value.okWide Tryz.prog W .any base t v:=hval0
 have hW':=hW
 obtain⟨p,q,hA0,hV,rfl,hfz,hnd⟩:=hW
 have hA:DataW.TrodAll enc Tryz.prog W 0 (fun _=>true) true Tryz.f9.params.toList args.toList ds p:=hA0
 rw [Tryz.params9]at hA hval
 obtain⟨v0,vs0,d0,ds0,p0,q0,hargs,rfl,rfl,h0,r0⟩:=trodAll_cons hA
 obtain⟨v1,vs1,d1,ds1,p1,q1,rfl,rfl,rfl,h1,r1⟩:=trodAll_cons r0
 obtain⟨rfl,rfl,rfl⟩:=trodAll_nil r1
 obtain rfl:args=#[v0,v1]:=by cases args;simp_all
 obtain⟨rfl,rfl⟩:=trodVars_none hV
 obtain⟨A0,n0,c0,f0,C0,w0⟩:=arg_ints Tryz.underlying22 Tryz.underlying21 (by kernel_rfl) (hval 0 22 v0 rfl rfl) h0
 obtain rfl:=C0.eq
 obtain⟨a1,rfl,rfl,rfl,w1⟩:=open_int Tryz.underlying3 (hval 1 3 v1 rfl rfl) h1
 refine(walk_WordGoes W A0 n0 c0 f0 C0.rd C0.le C0.max w0 a1 w1).mono fun e W' ⟨he,hb⟩=> ?_
 subst he
 exact⟨_,rfl,law_post hW' rfl rfl rfl rfl laidOut (by kernel_rfl) rfl Tryz.underlying4 hb⟩
theorem over:Rows.wordGoesRow.holds Tryz.pinned (OpenSpec.ofChange Rows.wordGoesSpec):=
 OpenClaim.holds_of_wide 9 Tryz.f9 rfl rfl rfl rfl rfl rfl rfl ⟨rfl,rfl,rfl,rfl,rfl⟩ rfl rfl rfl rfl rfl (by kernel_rfl) Tryz.func9 (by kernel_rfl)
  (of_decide_eq_true (by kernel_rfl)) (by unfold Func.isWrapper;first|(rw [if_pos (by decide+kernel)];kernel_rfl)|(rw [if_neg (by decide+kernel)];exact⟨rfl,rfl⟩))
  (fun os started H enc _=>lifted os started H enc)
theorem proved:Rows.WordGoesSaid:=over
#print axioms proved
end Go.Proofs.YtlopleeopnnoeaaGreat.wordGoes
