/- 'typebar/typebarlaw12.WordWalks' returns true for every input, and each argument reads behind the call as it read before. No condition. -/
import Derived.Test.YtlopleeopnnoeaaGreatMw02
import Derived.Test.YtlopleeopnnoeaaGreatMv01
set_option linter.unusedVariables false
set_option linter.unusedSimpArgs false
namespace Go.Proofs.YtlopleeopnnoeaaGreat
open Go.RowKit
set_option maxHeartbeats 8000000 in
set_option maxRecDepth 100000 in
theorem walk_WordWalks (w:World)(A0:Option Addr)(n0 c0:Nat)(f0:Nat→Int)(hA:Rd w A0 n0 (fun j=> .int .i32 (f0 j)))(hle:n0≤c0)(hmax:c0≤maxLen)(hp:∀j,j<n0→(Lit.int .i32 (f0 j)).wf=true):
  Calls Tryz.prog 10 #[.slice A0 n0 c0] w (Yes w):=by
 obtain⟨T,hG,hT,C0⟩:=rows_li w
 obtain⟨l,hll,hL0,hSc⟩:=came_text hA hp 100
 have hlc:l.length≤c0:=by omega
 have hl2:l.length≤100:=by omega
 have HG:=Lib.hid hG
 have C0:=Lib.hid C0
 have AW:=Lib.hid (fun X=>awake12_yes X)
 have HL:=Lib.hid (And.intro hL0 hSc)
 have HK:=Lib.hid (show (KT T).ok∧(KT T).tidy by rw [←hT];exact⟨kt_ok given_conj,rows_tidy⟩)
 have CF:=fews_any A0 n0 c0 100 w hle (by unfold maxLen at hmax;omega) (by omega)
 rw [←hll]at CF
 have CF:=Lib.hid CF
 clear hG hA hp hT hL0 hSc hll hle hmax
 go_enter Tryz.func10,Tryz.ntmps10
 go_wp2_with fail
 refine CF.out.mono ?_
 rintro e w0 ⟨rfl,rfl⟩
 clear CF
 go_wp2_with fail
 refine C0.out.mono ?_
 rintro e w1 ⟨A,c,rfl,hL,hc,hm,hb1⟩
 have C1:=Lib.hid (build_tabs A c T w1 (hL.mono fun _ _=>trivial) hc HG.out)
 have L1:=Lib.hid (And.intro (hL.mono (S':=fun _=>True) fun _ _=>trivial) hb1)
 clear C0 hL hb1
 go_wp2_with fail
 refine C1.out.mono ?_
 rintro e w2 ⟨tp,rfl,hU,hb⟩
 have U2:=Lib.hid (And.intro hU (And.intro (L1.out.1.later hb) (L1.out.2.trans (hb.mono L1.out.2.size))))
 clear hU hb C1 L1
 have hT:T.length≤100000:=by have:=HG.out.len;omega
 have HTT:=Lib.hid (show TT w2 T tp A0 c0 l from⟨U2.out.1,HK.out.2,HL.out.1.later U2.out.2.2,HL.out.2,hlc,by omega⟩)
 have HRT:=Lib.hid (RT.mk (A2:=A0) (l:=l) U2.out.2.1 hc hT (HL.out.1.later U2.out.2.2) HL.out.2 (by omega))
 have CR:=Lib.hid (rwords_any c0 w2 HRT.out hlc)
 have HB:=Lib.hid U2.out.2.2
 have HQ:=Lib.hid (show (WD.words (KT T) (ltT T) l).length≤100 from Nat.le_trans WD.words_len hl2)
 have FA:=Lib.hid (fun(X:World) (hX:Below w2.heap.size w2 X) (a V:Nat) (ha:a≤100) hV=>forward_any (HTT.out.later hX) HK.out.1 (a:Int) (by omega) V hV)
 have BA:=Lib.hid (fun(X:World) (hX:Below w2.heap.size w2 X) (a V:Nat) hV=>wback_any (HTT.out.later hX) HK.out.1 (a:Int) V hV)
 have IA:=Lib.hid (fun(X:World) (hX:Below w2.heap.size w2 X) (a:Nat) (ha:a≤l.length)=>ris_any c0 (HRT.out.later hX) hlc a ha)
 have UZ:=Lib.hid (WD.Up.zero (K:=KT T) (lt:=ltT T) (l:=l))
 have US:=Lib.hid (fun(i a:Nat) (x:Nat × Nat) h hx=>WD.Up.step (K:=KT T) (lt:=ltT T) (l:=l) (i:=i) (a:=a) (x:=x) h hx)
 have UF:=Lib.hid (fun(i a:Nat) h hi=>WD.Up.fin (K:=KT T) (lt:=ltT T) (l:=l) (i:=i) (a:=a) h hi)
 have DZ:=Lib.hid (WD.Dn.zero (K:=KT T) (lt:=ltT T) (l:=l))
 have DS:=Lib.hid (fun(i a:Nat) (x:Nat × Nat) h hx=>WD.Dn.step (K:=KT T) (lt:=ltT T) (l:=l) (i:=i) (a:=a) (x:=x) h hx)
 have DF:=Lib.hid (fun(a:Nat) h=>WD.Dn.fin (K:=KT T) (lt:=ltT T) (l:=l) (a:=a) h)
 obtain⟨L,hLL⟩:∃L,WD.words (KT T) (ltT T) l=L:=⟨_,rfl⟩
 rw [hLL]at CR HQ US UF DZ DS
 obtain⟨N,hN⟩:∃N,l.length=N:=⟨_,rfl⟩
 rw [hN]at CR FA BA IA UF DZ hl2 ⊢
 clear U2 hLL hlc HL HG HRT HTT
 go_wp2_with fail
 refine CR.out.mono ?_
 rintro e w3 ⟨A3,n3,c3,rfl,ho3,hb3⟩
 have hn3:=own_count encW_len (by decide) ho3
 have hli3:=(LiV.own encW_len (by decide) ho3).parts.2.1
 have B3:=Lib.hid (And.intro hb3 hli3)
 have HN:=Lib.hid (show L.length=n3 from hn3)
 have hq:=HQ.out
 rw [hn3]at hq
 clear CR ho3 hb3 hli3 hn3
 go_wp2
 go_loopw [6,7] (fun av i wx=>∃ (k a:Nat),k≤n3∧a≤N∧i= .int .i64 k∧av= .int .i64 a∧Hid (Below w3.heap.size w3 wx∧WD.Up (KT T) (ltT T) l k a)) (fun _ i _=>n3 -(intOf i).toNat)
 case atStart=>exact⟨0,0,Nat.zero_le _,Nat.zero_le _,rfl,rfl,Lib.hid ⟨Below.refl _ _,UZ.out⟩⟩
 case round=>
  obtain⟨k,a,hk,haN,rfl,rfl,H⟩:=hrel
  have b2:=Lib.hid (bStepS B3.out.1 H.out.1)
  by_cases hlt:k<n3
  ·obtain⟨x,y,hx⟩:∃x y:Nat,L[k]? =some (x,y):=⟨_,_,List.getElem?_eq_getElem (by rw [HN.out];exact hlt)⟩
   have hS:=US.out k a _ H.out.2 hx
   have C:=Lib.hid (FA.out _ b2.out a y (by omega) hS.1)
   have hy:=hS.2.bd.1
   have HI:=Lib.hid (WD.isP_own hS.2.bd)
   dsimp only at hy
   have HS:=Lib.hid hS.2
   rw [hN]at hy
   clear hS
   go_wp2_with fail
   refine C.out.mono ?_
   rintro e w5 ⟨rfl,hb5⟩
   have H5:=Lib.hid (bStepS H.out.1 hb5)
   clear C hb5 b2
   obtain⟨x',y',b,o,hx',rfl,_,a0,a1⟩:=(B3.out.2.later H5.out).wd (j:=k) (by rw [HN.out];exact hlt)
   rw [hx]at hx'
   injection hx' with hx'
   injection hx' with hx1 hx2
   subst hx1;subst hx2
   have IC:=Lib.hid (IA.out w5 (bStepS B3.out.1 H5.out) y hy)
   rw [HI.out]at IC
   have e2:((y:Int) != (y:Int))=false:=by simp
   clear hx a0
   go_wp2_with fail
   refine IC.out.mono ?_
   rintro e w6 ⟨rfl,r,rfl⟩
   have H6:=Lib.hid (belDrew H5.out r)
   clear IC a1
   go_wp2
   go_roundw
   case rel=>exact⟨k+1,y,by omega,hy,by go_num,rfl,Lib.hid ⟨H6.out,HS.out⟩⟩
   case measure=>simp [intOf];omega
  ·obtain rfl:k=n3:=by omega
   have C:=Lib.hid (FA.out _ b2.out a N (by omega) (UF.out _ _ H.out.2 (Nat.le_of_eq HN.out)))
   have e2:((N:Int) != (N:Int))=false:=by simp
   clear b2 UF US FA
   go_wp2_with fail
   refine C.out.mono ?_
   rintro e w5 ⟨rfl,hb5⟩
   have H5:=Lib.hid (bStepS H.out.1 hb5)
   have DZ:=Lib.hid (show WD.Dn (KT T) (ltT T) l k N by rw [←HN.out];exact DZ.out)
   clear C hb5 H
   go_wp2
   go_loopw [6,8] (fun av i wx=>∃ (j a:Nat),j≤k∧a≤N∧i= .int .i64 ((j:Int) - 1)∧av= .int .i64 a∧Hid (Below w3.heap.size w3 wx∧WD.Dn (KT T) (ltT T) l j a)) (fun _ i _=>(intOf i+1).toNat)
   case atStart=>exact⟨k,N,Nat.le_refl _,Nat.le_refl _,by go_num,rfl,Lib.hid ⟨H5.out,DZ.out⟩⟩
   case round=>
    obtain⟨j,a,hj,haN,rfl,rfl,H⟩:=hrel
    have b2:=Lib.hid (bStepS B3.out.1 H.out.1)
    rcases j with _|j
    ·have C:=Lib.hid (BA.out _ b2.out a 0 (DF.out a H.out.2))
     clear b2 DF DS BA
     go_wp2_with fail
     refine C.out.mono ?_
     rintro e w7 ⟨rfl,hb7⟩
     have H7:=Lib.hid (bStepS H.out.1 hb7)
     clear C hb7 H
     go_wp2_with fail
     refine(AW.out _).mono ?_
     rintro e w8 ⟨rfl,hb⟩
     have U6:=Lib.hid (bStepS HB.out (bStepS B3.out.1 (bStepS H7.out hb)))
     clear hb
     go_wp2
     go_ret
     exact⟨rfl,U6.out⟩
    ·have e0:((j+1:Nat):Int) - 1=(j:Int):=by omega
     rw [e0]
     have g0:(0:Int)≤(j:Int):=by omega
     have g1:(j:Int)<(k:Int):=by omega
     obtain⟨x,y,hx⟩:∃x y:Nat,L[j]? =some (x,y):=⟨_,_,List.getElem?_eq_getElem (by rw [HN.out];omega)⟩
     have hS:=DS.out j a _ H.out.2 hx
     have C:=Lib.hid (BA.out _ b2.out a x hS.1)
     have hy:=hS.2.bd.1
     have HI:=Lib.hid (WD.isP_own hS.2.bd)
     dsimp only at hy
     have HS:=Lib.hid hS.2
     rw [hN]at hy
     clear hS
     go_wp2_with fail
     refine C.out.mono ?_
     rintro e w6 ⟨rfl,hb6⟩
     have H6:=Lib.hid (bStepS H.out.1 hb6)
     clear C hb6 b2
     obtain⟨x',y',b,o,hx',rfl,_,a0,a1⟩:=(B3.out.2.later H6.out).wd (j:=j) (by rw [HN.out];omega)
     rw [hx]at hx'
     injection hx' with hx'
     injection hx' with hx1 hx2
     subst hx1;subst hx2
     have IC:=Lib.hid (IA.out w6 (bStepS B3.out.1 H6.out) x hy)
     rw [HI.out]at IC
     have e2:((x:Int) != (x:Int))=false:=by simp
     clear hx a1
     go_wp2_with fail
     refine IC.out.mono ?_
     rintro e w7 ⟨rfl,r,rfl⟩
     have H7:=Lib.hid (belDrew H6.out r)
     clear IC a0
     go_wp2
     go_roundw
     case rel=>exact⟨j,x,by omega,hy,by go_num,rfl,Lib.hid ⟨H7.out,HS.out⟩⟩
     case measure=>simp [intOf]
end Go.Proofs.YtlopleeopnnoeaaGreat
namespace Go.Proofs.YtlopleeopnnoeaaGreat.wordWalks
open Go.ChangeShapes Go.WideShapes Go.ChangeAt Go.RowKit Go.WideMaps Go.WideElems
open Go.ChangeMaps (open_string)
theorem own:ownKnob Tryz.prog.godebug=none:=by kernel_rfl
theorem laidOut:laidOutB Tryz.prog=true:=by kernel_rfl
set_option linter.unusedVariables false in
set_option maxRecDepth 100000 in
theorem lifted (os:Os)(started:os.Started)(H:Type)(enc:TypeId × Value→H):
  ReturnsInHanded {} Tryz.checked os 10 .any (Rows.wordWalksSpec.pre6 enc Tryz.prog Tryz.f10 Rows.wordWalksRow.domain false) (Rows.wordWalksSpec.post enc Tryz.prog Tryz.f10 false true false false):=by
 refine returnsInHanded_of_change (C:= Tryz.checked) own started (by kernel_rfl) Tryz.func10
  (ChangeSpec.witness6 (enc:=enc) (C:= Tryz.checked) false ⟨#[],#[.slice none 0 0],[]⟩ 8 (by kernel_rfl) (by kernel_rfl) (by kernel_rfl) (by kernel_rfl)) ?_
 intro W base args ds gs before hval0 hW hcnd _
 have hval:∀ (j:Nat) t v,Tryz.f10.params[j]? =some t→args[j]? =some v→Value.okWide Tryz.prog W .any base t v:=hval0
 have hW':=hW
 obtain⟨p,q,hA0,hV,rfl,hfz,hnd⟩:=hW
 have hA:DataW.TrodAll enc Tryz.prog W 0 (fun _=>true) true Tryz.f10.params.toList args.toList ds p:=hA0
 rw [Tryz.params10]at hA hval
 obtain⟨v0,vs0,d0,ds0,p0,q0,hargs,rfl,rfl,h0,r0⟩:=trodAll_cons hA
 obtain⟨rfl,rfl,rfl⟩:=trodAll_nil r0
 obtain rfl:args=#[v0]:=by cases args;simp_all
 obtain⟨rfl,rfl⟩:=trodVars_none hV
 obtain⟨A0,n0,c0,f0,C0,w0⟩:=arg_ints Tryz.underlying22 Tryz.underlying21 (by kernel_rfl) (hval 0 22 v0 rfl rfl) h0
 obtain rfl:=C0.eq
 refine(walk_WordWalks W A0 n0 c0 f0 C0.rd C0.le C0.max w0).mono fun e W' ⟨he,hb⟩=> ?_
 subst he
 exact⟨_,rfl,law_post hW' rfl rfl rfl rfl laidOut (by kernel_rfl) rfl Tryz.underlying4 hb⟩
theorem over:Rows.wordWalksRow.holds Tryz.pinned (OpenSpec.ofChange Rows.wordWalksSpec):=
 OpenClaim.holds_of_wide 10 Tryz.f10 rfl rfl rfl rfl rfl rfl rfl ⟨rfl,rfl,rfl,rfl,rfl⟩ rfl rfl rfl rfl rfl (by kernel_rfl) Tryz.func10 (by kernel_rfl)
  (of_decide_eq_true (by kernel_rfl)) (by unfold Func.isWrapper;first|(rw [if_pos (by decide+kernel)];kernel_rfl)|(rw [if_neg (by decide+kernel)];exact⟨rfl,rfl⟩))
  (fun os started H enc _=>lifted os started H enc)
theorem proved:Rows.WordWalksSaid:=over
#print axioms proved
end Go.Proofs.YtlopleeopnnoeaaGreat.wordWalks
