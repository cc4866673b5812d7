import Derived.Test.YtlopleeopnnoeaaGreatMs08
import Derived.Test.YtlopleeopnnoeaaGreatMs04
import Derived.Test.YtlopleeopnnoeaaGreatMb02
import Derived.Test.YtlopleeopnnoeaaGreatMs06
set_option linter.unusedVariables false
set_option linter.unusedSimpArgs false
namespace Go.Proofs.YtlopleeopnnoeaaGreat
open Go.RowKit
structure TA where
 f:Nat
 t:Nat
 A:Option Addr
 n:Nat
 c:Nat
def encT (x:TA):List Value:=[.int .i64 x.f,.int .i64 x.t,.slice x.A x.n x.c]
theorem encT_len (x:TA):(encT x).length=3:=rfl
theorem tok_elt:Elt Tryz.prog 60 67 3 40:=elt_of Tryz.underlying60 (z:= .agg #[.int .i64 0,.int .i64 0,.slice none 0 0]) (by kernel_rfl) rfl (by decide)
theorem tokR_elt:Elt Tryz.prog 63 68 3 40:=elt_of Tryz.underlying63 (z:= .agg #[.int .i64 0,.int .i64 0,.slice none 0 0]) (by kernel_rfl) rfl (by decide)
def TkAs (S:Nat→Prop)(X:World)(x:TA)(p:WS.Tk):Prop:=x.f=p.f∧x.t=p.t∧LiV 1 encC X S (.slice x.A x.n x.c) p.x
structure SpI (w:World)(ty:TypeId)(A:Option Addr)(n c:Nat)(D:List TA)(P:List WS.Tk)(X:World):Prop where
 row:Grows w ty 3 encT A n c D X
 len:D.length=P.length
 txt:∀ (j:Nat) (x:TA) (p:WS.Tk),D[j]? =some x→P[j]? =some p→TkAs (fun b=>w.heap.size≤b∧some b≠(Value.slice A n c).ownBlock) X x p
theorem SpI.start (w:World)(ty:TypeId):SpI w ty none 0 0 [] [] w:=⟨Grows.start _ _ _,rfl,fun j x p h=>by simp at h⟩
theorem SpI.later {w X Y:World}{ty:TypeId}{A:Option Addr}{n c:Nat}{D:List TA}{P:List WS.Tk}(h:SpI w ty A n c D P X)(hb:Below X.heap.size X Y):SpI w ty A n c D P Y:=
 ⟨h.row.later hb,h.len,fun j x p h1 h2=>⟨(h.txt j x p h1 h2).1,(h.txt j x p h1 h2).2.1,(h.txt j x p h1 h2).2.2.later hb⟩⟩
theorem SpI.push {w X Y Z:World}{ty:TypeId}{A A':Option Addr}{n c c':Nat}{D:List TA}{P:List WS.Tk}{x:TA}{p:WS.Tk}(h:SpI w ty A n c D P X)(hb:Below X.heap.size X Y)(hx:TkAs (fun b=>X.heap.size≤b) Y x p)(hp:Pushed Y Z w.heap.size ty 3 (.slice A n c) (n+1) (flatL encT D++encT x) A' c'):SpI w ty A' (n+1) c' (D++[x]) (P++[p]) Z:=by
 have hrow:=h.row.push hb hp
 have hold:∀b:Nat,some b≠(Value.slice A n c).ownBlock→b<Y.heap.size→some b≠(Value.slice A' (n+1) c').ownBlock:=fun b h1 h2 h3=>by
  rcases hp.at_ with e|⟨k,e,hk⟩
  ·rw [e]at h3;exact h1 h3
  ·rw [e]at h3;injection h3 with h3;omega
 have hwx:=h.row.below.size
 have hxs:=hb.size
 refine⟨hrow,by rw [List.length_append,List.length_append,h.len];rfl,fun j y q h1 h2=> ?_⟩
 rcases Nat.lt_or_ge j D.length with hj|hj
 ·rw [List.getElem?_append_left hj]at h1
  rw [List.getElem?_append_left (by rw [←h.len];exact hj)]at h2
  obtain⟨e1,e2,e3⟩:=h.txt j y q h1 h2
  refine⟨e1,e2,(((e3.later hb).old.grown hp.grown fun b hb2=>hb2.2.2).mono fun b hb2=>⟨hb2.2.1,hold b hb2.2.2 hb2.1⟩)⟩
 ·rw [List.getElem?_append_right hj]at h1
  rw [List.getElem?_append_right (by rw [←h.len];exact hj)]at h2
  have e0:j - D.length=0:=by
   have:=(List.getElem?_eq_some_iff.1 h1).1
   simp at this
   omega
  rw [e0]at h1
  rw [show j - P.length=0 by rw [←h.len];exact e0]at h2
  injection h1 with h1
  injection h2 with h2
  subst h1;subst h2
  have hne:∀b:Nat,X.heap.size≤b→some b≠(Value.slice A n c).ownBlock:=fun b hb2 he=>by
   have:=(h.row.own.lt b he.symm).2
   omega
  refine⟨hx.1,hx.2.1,((hx.2.2.old.grown hp.grown fun b hb2=>hne b hb2.2).mono fun b hb2=>⟨by omega,hold b (hne b hb2.2) hb2.1⟩)⟩
def TellsSp (ty:TypeId)(l:List Int)(w:World)(e:Ending)(w':World):Prop:=Below w.heap.size w w'∧((∃ (P:List WS.Tk) (A:Option Addr) (n c:Nat) (D:List TA),e= .returned (.tuple #[.slice A n c,.int .i64 0,.bool true])∧WS.spl l 0=(some P,0)∧SpI w ty A n c D P w'∧n≤l.length)∨(∃z:Nat,e= .returned (.tuple #[.slice none 0 0,.int .i64 (z:Nat),.bool false])∧WS.spl l 0=(none,z)))
set_option maxHeartbeats 8000000 in
set_option maxRecDepth 100000 in
theorem split_any {w:World}{A:Option Addr}{c:Nat}{l:List Int}(hL:Li 1 encC w (fun _=>True) A l)(hn:l.length≤100000):
  Calls Tryz.prog 39 #[.slice A l.length c] w (TellsSp 67 l w):=by
 have HL:=Lib.hid hL
 have HT:=Lib.hid (fun(X:World) (hX:Below w.heap.size w X) (k:Nat) (hk:k<l.length)=>token_any (c:=c) (hL.later hX) hn k hk)
 have HBl:=Lib.hid (fun X x=>blank_any X x)
 obtain⟨N,hN⟩:∃N,l.length=N:=⟨_,rfl⟩
 have HN:=Lib.hid hN
 unfold TellsSp
 rw [hN]at hn HT ⊢
 have H0:=Lib.hid (show SpI w 67 none 0 0 [] [] w∧WS.spl l 0=WS.preS [] (WS.spl l 0)from⟨SpI.start _ _,(WS.preS_nil _).symm⟩)
 clear hL hN
 go_enter Tryz.func39,Tryz.ntmps39
 go_wp2
 go_loopw [5,6,7,8] (fun ov iv _ _ wr=>∃ (k n1 c1:Nat) (A1:Option Addr) (D:List TA) (P:List WS.Tk),iv= .int .i64 k∧ov= .slice A1 n1 c1∧k≤N∧n1≤k∧Hid (SpI w 67 A1 n1 c1 D P wr∧WS.spl l 0=WS.preS P (WS.spl l k))) (fun _ iv _ _ _=>N -(intOf iv).toNat)
 case atStart=>exact⟨0,0,0,none,[],[],rfl,rfl,Nat.zero_le _,Nat.le_refl _,H0⟩
 case round=>
  obtain⟨k,n1,c1,A1,D,P,rfl,rfl,hk,hn1,H⟩:=hrel
  by_cases hlt:k<N
  ·obtain⟨b,o,rfl,hb,_,hcell⟩:=(HL.out.later H.out.1.row.below).scs (by rw [HN.out];omega)
   have kx:=hcell k (by rw [HN.out];exact hlt)
   obtain⟨x,hx⟩:∃x,l.getD k 0=x:=⟨_,rfl⟩
   rw [hx]at kx
   have HX:=Lib.hid hx
   have C:=Lib.hid (HBl.out wr x)
   obtain⟨q,hq⟩:∃q,WS.blank x=q:=⟨_,rfl⟩
   rw [hq]at C
   have HQ:=Lib.hid hq
   have C2:=Lib.hid (HT.out wr H.out.1.row.below k hlt)
   clear hq hx hcell H0
   go_wp2_with fail
   refine C.out.mono ?_
   rintro e w3 ⟨rfl,rfl⟩
   clear C
   cases q
   case true=>
    have H1:=Lib.hid (show WS.spl l 0=WS.preS P (WS.spl l (k+1))by rw [H.out.2,WS.spl_blank (by rw [HN.out];exact hlt) (by rw [HX.out];exact HQ.out)])
    clear C2 kx
    go_wp2
    go_roundw
    case rel=>exact⟨k+1,n1,c1,A1,D,P,by go_num,rfl,by omega,by omega,H.out.1,H1.out⟩
    case measure=>simp [intOf];omega
   case false=>
    have HXB:=Lib.hid (show WS.blank (l.getD k 0)=false by rw [HX.out];exact HQ.out)
    clear kx
    go_wp2_with fail
    refine C2.out.mono ?_
    rintro e w4 ⟨hb4,(⟨T,E,A2,n2,c2,rfl,ho2,hone⟩|⟨x',y',A2,n2,c2,rfl,hone⟩)⟩
    ·have hge:=WS.one_ge _ 0 k T E (Nat.le_refl _) (by rw [HN.out];exact hk) hone
     rw [HN.out]at hge
     have hE1:=hge.2.1
     have hE2:=hge.2.2.2 hlt (fun h=>by rw [HXB.out]at h;cases h.2)
     have H1:=Lib.hid (show WS.spl l 0=WS.preS (P++[⟨k,E,T⟩]) (WS.spl l E)by rw [H.out.2,WS.spl_good (by rw [HN.out];exact hlt) HXB.out hone,WS.preS_preS])
     have L4:=Lib.hid (LiV.own encC_len (by decide) ho2)
     have H4:=Lib.hid (And.intro H.out.1 hb4)
     have hz:=hb4.size
     have hz2:=H.out.1.row.below.size
     have hfar:some w4.heap.size≠(Value.slice A1 n1 c1).ownBlock:=fun he=>by
      have:=(H4.out.1.row.own.lt _ he.symm).2
      omega
     have HFar:=Lib.hid hfar
     clear hone ho2 hge hb4 C2 hfar
     go_wp2_with (at_builtin;refine wpList_push tok_elt (own_later H4.out.1.row.own (bStepS H4.out.2 (belAlloc _ _))) (by simp [World.size_alloc];omega) rfl rfl rfl rfl (by simp) rfl rfl (by unfold maxLen;omega) (by omega) ?_;intro A6 c6 w6 hp;have hB3:=(blk_new w4 #[.int .i64 k,.int .i64 E,.slice A2 n2 c2] 67).grown hp.grown HFar.out;have u1:w6.cell? ⟨w4.heap.size,1,none⟩=some (.int .i64 E):=hB3.2.1 1;have H6:=Lib.hid (H4.out.1.push (x:=⟨k,E,A2,n2,c2⟩) (p:=⟨k,E,T⟩) (bStepS H4.out.2 (belAlloc _ _)) ⟨rfl,rfl,L4.out.later (belAlloc _ _)⟩ hp);clear hp hB3)
     go_roundw
     case rel=>exact⟨E,n1+1,c6,A6,_,_,rfl,rfl,by omega,by omega,H6.out,H1.out⟩
     case measure=>simp [intOf];omega
    ·have H1:=Lib.hid (show WS.spl l 0=(none,k)by rw [H.out.2,WS.spl_bad (by rw [HN.out];exact hlt) HXB.out hone];rfl)
     have H4:=Lib.hid (bStepS H.out.1.row.below hb4)
     have H5:=Lib.hid (bStepS (bStepS H.out.1.row.below hb4) (belAlloc w4 (.cells #[.int .i64 x',.int .i64 y',.slice A2 n2 c2] 67)))
     clear hone hb4 C2
     go_wp2
     refine bodyPost_ret (v:= .tuple #[.slice none 0 0,.int .i64 k,.bool false]) (by simp [results,Tryz.results39,go_sem]) rfl ⟨H5.out,.inr ⟨k,rfl,H1.out⟩⟩
  ·obtain rfl:k=N:=by omega
   have H1:=Lib.hid (show WS.spl l 0=(some P,0)by rw [H.out.2,WS.spl_end (by rw [HN.out];exact Nat.le_refl _)];simp [WS.preS])
   clear H0
   go_wp2
   refine bodyPost_ret (v:= .tuple #[.slice A1 n1 c1,.int .i64 0,.bool true]) (by simp [results,Tryz.results39,go_sem]) rfl ⟨H.out.1.row.below,.inl ⟨P,A1,n1,c1,D,rfl,H1.out,H.out.1,hn1⟩⟩
namespace WS
def plain (x:Int):Bool:=(x==45||x==95||x==46||x==47)||(decide (97≤x)&&decide (x≤122)||decide (65≤x)&&decide (x≤90)||decide (48≤x)&&decide (x≤57))
def qt (x:Int):List Int:=if x=39 then [39,92,39,39]else [x]
def qts (l:List Int):List Int:=l.flatMap qt
def bare (l:List Int):Bool:= !l.isEmpty&&l.all plain
def quote (l:List Int):List Int:=if bare l=true then l else 39::(qts l++[39])
theorem qts_snoc (l:List Int)(x:Int):qts (l++[x])=qts l++qt x:=by
 unfold qts
 rw [List.flatMap_append]
 simp
theorem take_succ_getD {l:List Int}{k:Nat}(h:k<l.length):l.take (k+1)=l.take k++[l.getD k 0]:=by
 rw [take_snoc' (x:=l.getD k 0) (by simp [List.getD,h])]
theorem qts_take {l:List Int}{k:Nat}(h:k<l.length):qts (l.take (k+1))=qts (l.take k)++qt (l.getD k 0):=by
 rw [take_succ_getD h,qts_snoc]
theorem all_take {l:List Int}{k:Nat}(h:k<l.length):(l.take (k+1)).all plain=((l.take k).all plain&&plain (l.getD k 0)):=by
 rw [take_succ_getD h,List.all_append]
 simp
theorem all_bad {l:List Int}{k:Nat}(h:k<l.length)(hp:plain (l.getD k 0)=false):l.all plain=false:=by
 rw [List.all_eq_false]
 exact⟨l.getD k 0,by rw [show l.getD k 0=l[k]by simp [List.getD,h]];exact List.getElem_mem _,by rw [hp];decide⟩
end WS
set_option maxHeartbeats 4000000 in
theorem plain_any (w:World)(x:Int):Calls Tryz.prog 90 #[.int .i32 x] w fun e w'=>e= .returned (.bool (WS.plain x))∧w=w':=by
 have HP:=Lib.hid (show WS.plain x=((x==45||x==95||x==46||x==47)||(decide (97≤x)&&decide (x≤122)||decide (65≤x)&&decide (x≤90)||decide (48≤x)&&decide (x≤57)))from rfl)
 go_enter Tryz.func90,Tryz.ntmps90
 by_cases h1:x=45
 ·subst h1
  go_wp2
  go_ret
  exact⟨by rw [HP.out];rfl,rfl⟩
 by_cases h2:x=95
 ·subst h2
  go_wp2
  go_ret
  exact⟨by rw [HP.out];rfl,rfl⟩
 by_cases h3:x=46
 ·subst h3
  go_wp2
  go_ret
  exact⟨by rw [HP.out];rfl,rfl⟩
 by_cases h4:x=47
 ·subst h4
  go_wp2
  go_ret
  exact⟨by rw [HP.out];rfl,rfl⟩
 have d1:(x==45)=false:=by simpa using h1
 have d2:(x==95)=false:=by simpa using h2
 have d3:(x==46)=false:=by simpa using h3
 have d4:(x==47)=false:=by simpa using h4
 have HD:=Lib.hid (And.intro d1 (And.intro d2 (And.intro d3 d4)))
 clear h1 h2 h3 h4
 by_cases a1:(97:Int)≤x<;>by_cases a2:x≤122<;>by_cases a3:(65:Int)≤x<;>by_cases a4:x≤90<;>by_cases a5:(48:Int)≤x<;>by_cases a6:x≤57
 all_goals first|omega|skip
 all_goals
  have HE:=(show WS.plain x=(decide (97≤x)&&decide (x≤122)||decide (65≤x)&&decide (x≤90)||decide (48≤x)&&decide (x≤57))by rw [HP.out,HD.out.1,HD.out.2.1,HD.out.2.2.1,HD.out.2.2.2];rfl)
  simp only [a1,a2,a3,a4,a5,a6,decide_true,decide_false,Bool.and_true,Bool.and_false,Bool.or_true,Bool.or_false,Bool.true_and,Bool.false_and,Bool.true_or,Bool.false_or]at HE
  have HV:=Lib.hid HE
  clear HE
  go_wp2
  go_ret
  exact⟨by first|(rw [HV.out];done)|(rw [HV.out];simp [a1,a2,a3,a4,a5,a6])|(rw [HV.out];simp;omega),rfl⟩
set_option maxHeartbeats 4000000 in
theorem notplain_any (w:World)(x:Int):Calls Tryz.prog 89 #[.int .i32 x] w fun e w'=>e= .returned (.bool (!WS.plain x))∧w=w':=by
 have C:=plain_any w x
 obtain⟨q,hq⟩:∃q,WS.plain x=q:=⟨_,rfl⟩
 rw [hq]at C ⊢
 have C:=Lib.hid C
 clear hq
 go_enter Tryz.func89,Tryz.ntmps89
 go_wp2_with fail
 refine C.out.mono ?_
 rintro e w1 ⟨rfl,rfl⟩
 cases q
 all_goals
  go_wp2
  go_ret
  exact⟨rfl,rfl⟩
set_option maxHeartbeats 4000000 in
theorem indexq_any {A:Option Addr}{l:List Int}(c:Nat)(w:World)(hL:Li 1 encC w (fun _=>True) A l)(hn:l.length≤100000):
  Calls Tryz.prog 136 #[.slice A l.length c,.func (.func 89) #[] #[]] w fun e w'=>(∃i:Int,e= .returned (.int .i64 i)∧decide (0≤i)= !l.all WS.plain)∧w=w':=by
 have HL:=Lib.hid hL
 clear hL
 obtain⟨N,hN⟩:∃N,l.length=N:=⟨_,rfl⟩
 rw [hN]at hn ⊢
 have HN:=Lib.hid hN
 have HC:=Lib.hid (fun x=>notplain_any w x)
 clear hN
 go_enter Tryz.func136,Tryz.ntmps136
 go_wp2
 go_loopw [5,8] (fun _ i wr=>∃k:Nat,k≤N∧i= .int .i64 k∧wr=w∧Hid ((l.take k).all WS.plain=true)) (fun _ i _=>N -(intOf i).toNat)
 case atStart=>exact⟨0,Nat.zero_le _,rfl,rfl,Lib.hid (by simp)⟩
 case round=>
  obtain⟨k,hk,rfl,rfl,H⟩:=hrel
  by_cases hlt:k<N
  ·obtain⟨b,o,rfl,hb,_,hcell⟩:=HL.out.scs (by have:=HN.out;omega)
   have h0:=hcell k (by have:=HN.out;omega)
   obtain⟨x,hx⟩:∃x,l.getD k 0=x:=⟨_,rfl⟩
   rw [hx]at h0
   have HX:=Lib.hid hx
   have C:=HC.out x
   obtain⟨q,hq⟩:∃q,WS.plain x=q:=⟨_,rfl⟩
   rw [hq]at C
   have C:=Lib.hid C
   have HQ:=Lib.hid hq
   clear hcell hx hq
   go_wp2_with fail
   refine C.out.mono ?_
   rintro e w1 ⟨rfl,rfl⟩
   clear C
   cases q
   case false=>
    go_wp2
    go_ret
    refine⟨⟨k,rfl,?_⟩,rfl⟩
    rw [WS.all_bad (l:=l) (k:=k) (by rw [HN.out];exact hlt) (by rw [HX.out];exact HQ.out)]
    simp
   case true=>
    have H1:=Lib.hid (show (l.take (k+1)).all WS.plain=true by rw [WS.all_take (by rw [HN.out];exact hlt),H.out,HX.out,HQ.out];rfl)
    go_wp2
    go_roundw
    case rel=>exact⟨k+1,by omega,by go_num,trivial,H1⟩
    case measure=>simp [intOf];omega
  ·obtain rfl:k=N:=by omega
   go_wp2
   go_ret
   refine⟨⟨-1,rfl,?_⟩,rfl⟩
   have h:=H.out
   rw [←HN.out,List.take_length]at h
   rw [h]
   rfl
set_option maxHeartbeats 4000000 in
theorem containsq_any {A:Option Addr}{l:List Int}(c:Nat)(w:World)(hL:Li 1 encC w (fun _=>True) A l)(hn:l.length≤100000)(b:Bool)(hb:(!l.all WS.plain)=b):
  Calls Tryz.prog 88 #[.slice A l.length c,.func (.func 89) #[] #[]] w fun e w'=>e= .returned (.bool b)∧w=w':=by
 have C:=indexq_any c w hL hn
 rw [hb]at C
 have C:=Lib.hid C
 clear hb hL hn
 go_enter Tryz.func88,Tryz.ntmps88
 go_wp2_with fail
 refine C.out.mono ?_
 rintro e w1 ⟨⟨i,rfl,hi⟩,rfl⟩
 subst hi
 clear C
 go_wp2
 go_ret
 first|exact⟨rfl,rfl⟩|exact⟨by simp,rfl⟩
end Go.Proofs.YtlopleeopnnoeaaGreat
