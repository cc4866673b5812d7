/- 'typebar/typebarlaw12.WordSplits' returns true for every input, and each argument reads behind the call as it read before. No condition. -/
import Derived.Test.YtlopleeopnnoeaaGreatMs11
import Derived.Test.YtlopleeopnnoeaaGreatMs10
import Derived.Test.YtlopleeopnnoeaaGreatMs04
import Derived.Test.YtlopleeopnnoeaaGreatMb26
import Derived.BigQuiet
set_option linter.unusedVariables false
set_option linter.unusedSimpArgs false
namespace Go.Proofs.YtlopleeopnnoeaaGreat
open Go.RowKit
theorem same_liv {w:World}{S1 S2:Nat→Prop}{A B:Option Addr}{n m c d:Nat}{l:List Int}(hA:LiV 1 encC w S1 (.slice A n c) l)(hB:LiV 1 encC w S2 (.slice B m d) l):
  Calls Tryz.prog 41 #[.slice A n c,.slice B m d] w fun e w'=>e= .returned (.bool true)∧∃k,w'=w.drewN k:=by
 obtain⟨rfl,hA1,_,h1,h2⟩:=hA.parts
 obtain⟨rfl,hB1,_,_,_⟩:=hB.parts
 refine same_yes A B l.length c d (fun j=>l.getD j 0) w (by omega) (fun j hj=> ?_) (fun j hj=> ?_)
 ·obtain⟨b,o,e,hb,_,hc⟩:=hA1.sc hj
  exact⟨b,o,e,hb,hc⟩
 ·obtain⟨b,o,e,hb,_,hc⟩:=hB1.sc hj
  exact⟨b,o,e,hb,hc⟩
theorem Li.tk {w:World}{S:Nat→Prop}{A:Option Addr}{D:List TA}(h:Li 3 encT w S A D){j:Nat}(hj:j<D.length):∃ (f t m d b o:Nat) (B:Option Addr),D[j]? =some ⟨f,t,B,m,d⟩∧A=some ⟨b,o,none⟩∧b<w.heap.size∧w.cell? ⟨b,o+j*3,none⟩=some (.int .i64 (f:Int))∧w.cell? ⟨b,o+j*3+1,none⟩=some (.int .i64 (t:Int))∧w.cell? ⟨b,o+j*3+2,none⟩=some (.slice B m d):=by
 obtain⟨b,o,e,hb,_,hc⟩:=h.at hj
 refine⟨D[j].f,D[j].t,D[j].n,D[j].c,b,o,D[j].A,by rw [List.getElem?_eq_getElem hj],e,hb,?_,?_,?_⟩
 ·have:=hc 0 _ rfl
  rwa [Nat.add_zero]at this
 ·have:=hc 1 _ rfl
  rwa [←Nat.add_assoc]at this
 ·have:=hc 2 _ rfl
  rwa [←Nat.add_assoc]at this
def TellsS2 (P:List WS.Tk)(z:Nat)(ok:Bool)(w:World)(e:Ending)(w':World):Prop:=∃ (A:Option Addr) (c:Nat) (D:List TA),e= .returned (.tuple #[.slice A P.length c,.int .i64 (z:Nat),.bool ok])∧Li 3 encT w' (fun _=>True) A D∧D.length=P.length∧(∀ (j:Nat) (x:TA) (p:WS.Tk),D[j]? =some x→P[j]? =some p→TkAs (fun _=>True) w' x p)∧Below w.heap.size w w'
def tkP (l:List Int):List WS.Tk:=(WS.spl l 0).1.getD []
def tkZ (l:List Int):Nat:=(WS.spl l 0).2
def tkO (l:List Int):Bool:=(WS.spl l 0).1.isSome
theorem tells_s2 {ty:TypeId}{l:List Int}{w w':World}{e:Ending}(h:TellsSp ty l w e w'):TellsS2 (tkP l) (tkZ l) (tkO l) w e w':=by
 obtain⟨hb,(⟨P,A,n,c,D,rfl,hs,hI,_⟩|⟨z,rfl,hs⟩)⟩:=h
 ·unfold tkP tkZ tkO
  rw [hs]
  have hn:=own_count encT_len (by decide) hI.row.own
  have hl:=hI.len
  refine⟨A,c,D,?_,(Li.own encT_len (by decide) hI.row.own).mono fun _ _=>trivial,hI.len,fun j x p h1 h2=> ?_,hb⟩
  ·show _=Ending.returned (.tuple #[.slice A P.length c,.int .i64 ((0:Nat):Int),.bool true])
   rw [←hl,hn]
   rfl
  ·obtain⟨h3,h4,h5⟩:=hI.txt j x p h1 h2
   exact⟨h3,h4,h5.mono fun _ _=>trivial⟩
 ·unfold tkP tkZ tkO
  rw [hs]
  exact⟨none,0,[],rfl,Li.nil _ _ _,rfl,fun j x p h1=>by simp at h1,hb⟩
theorem tkP_len {l:List Int}{ty:TypeId}{w w':World}{e:Ending}(h:TellsSp ty l w e w'):(tkP l).length≤l.length:=by
 obtain⟨hb,(⟨P,A,n,c,D,rfl,hs,hI,hn⟩|⟨z,rfl,hs⟩)⟩:=h
 ·have:=own_count encT_len (by decide) hI.row.own
  unfold tkP
  rw [hs]
  show P.length≤_
  rw [←hI.len]
  omega
 ·unfold tkP
  rw [hs]
  exact Nat.zero_le _
set_option maxHeartbeats 8000000 in
set_option maxRecDepth 100000 in
theorem walk_WordSplits (w:World)(A0:Option Addr)(n0 c0:Nat)(f0:Nat→Int)(hA:Rd w A0 n0 (fun j=> .int .i32 (f0 j)))(hle:n0≤c0)(hmax:c0≤maxLen)(hp:∀j,j<n0→(Lit.int .i32 (f0 j)).wf=true):
  Calls Tryz.prog 11 #[.slice A0 n0 c0] w (Yes w):=by
 obtain⟨l,hll,hL0,hSc⟩:=came_text hA hp 100
 have hlc:l.length≤c0:=by omega
 have hl2:l.length≤100:=by omega
 have AW:=Lib.hid (fun X=>awake12_yes X)
 have CF:=fews_any A0 n0 c0 100 w hle (by unfold maxLen at hmax;omega) (by omega)
 rw [←hll]at CF
 have CF:=Lib.hid CF
 have CS:=Lib.hid (split_any (c:=c0) hL0 (by omega))
 have CR:=Lib.hid (fun(X:World) (hX:Below w.heap.size w X)=>rsplit_any c0 (hL0.later hX) (by omega))
 have CQ:=Lib.hid (fun(X:World) (hX:Below w.heap.size w X)=>quote_any (c:=c0) X (hL0.later hX) (by omega) hlc hmax)
 have CRQ:=Lib.hid (fun(X:World) (hX:Below w.heap.size w X)=>rquote_any c0 X (hL0.later hX) (by omega) hlc hmax)
 obtain⟨N,hN⟩:∃N,l.length=N:=⟨_,rfl⟩
 have HN:=Lib.hid hN
 rw [hN]at CF CS CR CQ CRQ hl2
 clear hA hp hL0 hSc hll hle hmax hN hlc
 go_enter Tryz.func11,Tryz.ntmps11
 go_wp2_with fail
 refine CF.out.mono ?_
 rintro e w0 ⟨rfl,rfl⟩
 clear CF
 go_wp2_with fail
 refine CS.out.mono ?_
 rintro e w1 ht
 have hpl:=tkP_len ht
 have ht:=tells_s2 ht
 rw [HN.out]at hpl
 obtain⟨P,hP⟩:∃P,tkP l=P:=⟨_,rfl⟩
 obtain⟨z,hz⟩:∃z,tkZ l=z:=⟨_,rfl⟩
 obtain⟨ok,hok⟩:∃ok,tkO l=ok:=⟨_,rfl⟩
 rw [hP]at hpl
 rw [hP,hz,hok]at ht
 have HPZ:=Lib.hid (And.intro hP (And.intro hz hok))
 clear CS hP hz hok
 obtain⟨A1,c1,D1,rfl,hli1,hD1,htx1,hb1⟩:=ht
 have H1:=Lib.hid (And.intro hli1 (And.intro hD1 (And.intro htx1 hb1)))
 clear hli1 hD1 htx1 hb1
 obtain⟨n,hn⟩:∃n,P.length=n:=⟨_,rfl⟩
 have HPn:=Lib.hid hn
 rw [hn]at hpl ⊢
 clear hn
 go_wp2_with fail
 refine(CR.out w1 H1.out.2.2.2).mono ?_
 rintro e w2 ht
 have ht:=tells_s2 ht
 rw [HPZ.out.1,HPZ.out.2.1,HPZ.out.2.2]at ht
 obtain⟨A2,c2,D2,rfl,hli2,hD2,htx2,hb2⟩:=ht
 have H2:=Lib.hid (And.intro hli2 (And.intro hD2 (And.intro htx2 hb2)))
 rw [HPn.out]
 clear hli2 hD2 htx2 hb2 CR
 have e1:((z:Int) != (z:Int))=false:=by simp
 have e2:((n:Int) != (n:Int))=false:=by simp
 have e3:(ok != ok)=false:=by simp
 go_wp2
 go_loopw [9] (fun iv wx=>∃k:Nat,k≤n∧iv= .int .i64 k∧Hid (Below w2.heap.size w2 wx)) (fun iv _=>n -(intOf iv).toNat)
 case atStart=>exact⟨0,Nat.zero_le _,rfl,Lib.hid (Below.refl _ _)⟩
 case round=>
  obtain⟨k,hk,rfl,HW⟩:=hrel
  by_cases hlt:k<n
  ·obtain⟨f,t,m,d,b,o,B,hx,rfl,hbb,a0,a1,a2⟩:=((H1.out.1.later H2.out.2.2.2).later HW.out).tk (j:=k) (by rw [H1.out.2.1,HPn.out];exact hlt)
   obtain⟨f',t',m',d',b',o',B',hx',rfl,hbb',b0,b1,b2⟩:=(H2.out.1.later HW.out).tk (j:=k) (by rw [H2.out.2.1,HPn.out];exact hlt)
   obtain⟨p,hp⟩:∃p,P[k]? =some p:=⟨_,List.getElem?_eq_getElem (by rw [HPn.out];exact hlt)⟩
   obtain⟨h1,h2,h3⟩:=H1.out.2.2.1 k _ p hx hp
   obtain⟨h4,h5,h6⟩:=H2.out.2.2.1 k _ p hx' hp
   dsimp only at h1 h2 h3 h4 h5 h6
   obtain rfl:f'=f:=h4.trans h1.symm
   obtain rfl:t'=t:=h5.trans h2.symm
   have e4:((f':Int) != (f':Int))=false:=by simp
   have e5:((t':Int) != (t':Int))=false:=by simp
   have CSb:=Lib.hid (fun(q:Nat)=>show Calls Tryz.prog 41 #[.slice B m d,.slice B' m' d'] (wr.drewN q) fun e w''=>e= .returned (.bool true)∧∃m,w''=wr.drewN m from Calls.quiet_of (same_liv ((h3.later H2.out.2.2.2).later (bStepS HW.out (selfDrew wr q))) (h6.later (bStepS HW.out (selfDrew wr q)))))
   clear hx hx' hp h1 h2 h3 h4 h5 h6
   have g1:(k:Int)<(n:Int):=by omega
   go_wp2_with fail
   go_quiet ((go_at_call 41;exact CSb.out _))
   go_wp2_with fail
   go_roundw
   case rel=>exact⟨k+1,by omega,by go_num,Lib.hid (belDrew HW.out _)⟩
   case measure=>simp [intOf];omega
  ·obtain rfl:k=n:=by omega
   have dk:decide ((k:Int)<(k:Int))=false:=by simp
   have HB:=Lib.hid (bStepS (bStepS H1.out.2.2.2 H2.out.2.2.2) HW.out)
   have C:=Lib.hid (CQ.out _ HB.out)
   clear CQ
   go_wp2_with fail
   refine C.out.mono ?_
   rintro e w3 ⟨A3,n3,c3,rfl,hl3,hb3⟩
   have H3:=Lib.hid (And.intro hl3 (bStepS HB.out hb3))
   have C4:=Lib.hid (CRQ.out _ H3.out.2)
   clear C hl3 hb3 CRQ
   go_wp2_with fail
   refine C4.out.mono ?_
   rintro e w4 ⟨A4,n4,c4,rfl,hl4,hb4⟩
   have C5:=Lib.hid (same_liv (H3.out.1.later hb4) hl4)
   have H4:=Lib.hid (bStepS H3.out.2 hb4)
   clear C4 hl4 hb4
   go_wp2_with fail
   refine C5.out.mono ?_
   rintro e w5 ⟨rfl,r5,rfl⟩
   clear C5
   go_wp2_with fail
   refine(AW.out _).mono ?_
   rintro e w6 ⟨rfl,hb⟩
   have U6:=Lib.hid (bStepS (belDrew H4.out r5) hb)
   clear hb
   go_wp2
   go_ret
   exact⟨rfl,U6.out⟩
end Go.Proofs.YtlopleeopnnoeaaGreat
namespace Go.Proofs.YtlopleeopnnoeaaGreat.wordSplits
open Go.ChangeShapes Go.WideShapes Go.ChangeAt Go.RowKit Go.WideMaps Go.WideElems
open Go.ChangeMaps (open_string)
theorem own:ownKnob Tryz.prog.godebug=none:=by kernel_rfl
theorem laidOut:laidOutB Tryz.prog=true:=by kernel_rfl
set_option linter.unusedVariables false in
set_option maxRecDepth 100000 in
theorem lifted (os:Os)(started:os.Started)(H:Type)(enc:TypeId × Value→H):
  ReturnsInHanded {} Tryz.checked os 11 .any (Rows.wordSplitsSpec.pre6 enc Tryz.prog Tryz.f11 Rows.wordSplitsRow.domain false) (Rows.wordSplitsSpec.post enc Tryz.prog Tryz.f11 false true false false):=by
 refine returnsInHanded_of_change (C:= Tryz.checked) own started (by kernel_rfl) Tryz.func11
  (ChangeSpec.witness6 (enc:=enc) (C:= Tryz.checked) false ⟨#[],#[.slice none 0 0],[]⟩ 8 (by kernel_rfl) (by kernel_rfl) (by kernel_rfl) (by kernel_rfl)) ?_
 intro W base args ds gs before hval0 hW hcnd _
 have hval:∀ (j:Nat) t v,Tryz.f11.params[j]? =some t→args[j]? =some v→Value.okWide Tryz.prog W .any base t v:=hval0
 have hW':=hW
 obtain⟨p,q,hA0,hV,rfl,hfz,hnd⟩:=hW
 have hA:DataW.TrodAll enc Tryz.prog W 0 (fun _=>true) true Tryz.f11.params.toList args.toList ds p:=hA0
 rw [Tryz.params11]at hA hval
 obtain⟨v0,vs0,d0,ds0,p0,q0,hargs,rfl,rfl,h0,r0⟩:=trodAll_cons hA
 obtain⟨rfl,rfl,rfl⟩:=trodAll_nil r0
 obtain rfl:args=#[v0]:=by cases args;simp_all
 obtain⟨rfl,rfl⟩:=trodVars_none hV
 obtain⟨A0,n0,c0,f0,C0,w0⟩:=arg_ints Tryz.underlying22 Tryz.underlying21 (by kernel_rfl) (hval 0 22 v0 rfl rfl) h0
 obtain rfl:=C0.eq
 refine(walk_WordSplits W A0 n0 c0 f0 C0.rd C0.le C0.max w0).mono fun e W' ⟨he,hb⟩=> ?_
 subst he
 exact⟨_,rfl,law_post hW' rfl rfl rfl rfl laidOut (by kernel_rfl) rfl Tryz.underlying4 hb⟩
theorem over:Rows.wordSplitsRow.holds Tryz.pinned (OpenSpec.ofChange Rows.wordSplitsSpec):=
 OpenClaim.holds_of_wide 11 Tryz.f11 rfl rfl rfl rfl rfl rfl rfl ⟨rfl,rfl,rfl,rfl,rfl⟩ rfl rfl rfl rfl rfl (by kernel_rfl) Tryz.func11 (by kernel_rfl)
  (of_decide_eq_true (by kernel_rfl)) (by unfold Func.isWrapper;first|(rw [if_pos (by decide+kernel)];kernel_rfl)|(rw [if_neg (by decide+kernel)];exact⟨rfl,rfl⟩))
  (fun os started H enc _=>lifted os started H enc)
theorem proved:Rows.WordSplitsSaid:=over
#print axioms proved
end Go.Proofs.YtlopleeopnnoeaaGreat.wordSplits
