import Derived.Test.YtlopleeopnnoeaaGreatMb13
import Derived.Test.YtlopleeopnnoeaaGreatMb17
import Derived.Test.YtlopleeopnnoeaaGreatMb07
import Derived.Test.YtlopleeopnnoeaaGreatMb02
import Derived.Test.YtlopleeopnnoeaaGreatMb14
import Derived.Test.YtlopleeopnnoeaaGreatMb03
import Derived.WalkKit
set_option linter.unusedVariables false
set_option linter.unusedSimpArgs false
namespace Go.Proofs.YtlopleeopnnoeaaGreat
open Go.RowKit
def IsK (g:Int→TK.V3)(t:Nat)(W:World):Prop:=∃base mb hd Bs Ix l,TK.BtI base g 1114112 t mb hd Bs Ix l W
def IsKx (lo hi:Nat)(g:Int→TK.V3)(t:Nat)(W:World):Prop:=∃base mb hd Bs Ix l,TK.BtI base g 1114112 t mb hd Bs Ix l W∧∀k,TK.OwH t mb hd k→lo≤k∧k<hi
theorem IsKx.is {lo hi:Nat}{g:Int→TK.V3}{t:Nat}{W:World}(h:IsKx lo hi g t W):IsK g t W:=by
 obtain⟨base,mb,hd,Bs,Ix,l,h,_⟩:=h
 exact⟨base,mb,hd,Bs,Ix,l,h⟩
theorem IsKx.kept {lo hi:Nat}{g:Int→TK.V3}{t:Nat}{W W':World}(h:IsKx lo hi g t W)(hs:W.heap.size≤W'.heap.size)(hk:∀k,lo≤k→k<hi→W'.heap[k]? =W.heap[k]?):IsKx lo hi g t W':=by
 obtain⟨base,mb,hd,Bs,Ix,l,h,hb⟩:=h
 exact⟨base,mb,hd,Bs,Ix,l,⟨h.tr.kept hs fun k hq=>hk k (hb k hq).1 (hb k hq).2,h.ix,h.is,h.mem⟩,hb⟩
theorem IsKx.later {lo hi:Nat}{g:Int→TK.V3}{t:Nat}{W W':World}(h:IsKx lo hi g t W)(hb:Below W.heap.size W W')(hh:hi≤W.heap.size):IsKx lo hi g t W':=h.kept hb.size fun k _ h2=>hb.block k (by omega)
theorem Built.iskx {g:Int→TK.V3}{w w':World}{e:Ending}(h:TK.Built g 1114112 w e w'):∃t,e= .returned (.pointer (some ⟨t,0,none⟩))∧IsKx w.heap.size w'.heap.size g t w'∧Below w.heap.size w w':=by
 obtain⟨tb,mb,hd,Bs,Ix,l,e1,hB,hb⟩:=h
 exact⟨tb,e1,⟨_,mb,hd,Bs,Ix,l,hB,fun k hk=>hB.tr.low k hk⟩,hb⟩
theorem val_flat {S:List RW.Span}{lo r:Int}(h:lo≤r)(hn:∀s∈S,(s.f≤lo∨r<s.f)∧(s.t+1≤lo∨r<s.t+1)):RW.val S r=RW.val S lo:=by
 unfold RW.val
 congr 1
 induction S with
 |nil=>rfl
 |cons x S ih=>
  have hx:=hn x (by simp)
  have e:RW.Span.has r x=RW.Span.has lo x:=by
   unfold RW.Span.has
   by_cases h1:x.f≤lo∧lo≤x.t
   ·rw [decide_eq_true (by omega:x.f≤r∧r≤x.t),decide_eq_true h1]
   ·rw [decide_eq_false (by omega:¬(x.f≤r∧r≤x.t)),decide_eq_false h1]
  rw [List.find?_cons,List.find?_cons,e,ih fun s hs=>hn s (by simp [hs])]
def says1 (S:List RW.Span)(r:Int):Bool:=((RW.val S r).map Prod.fst).getD 0==1
def tv (S5 S7 S8:List RW.Span)(r:Int):TK.V3:=(says1 S5 r,says1 S7 r,says1 S8 r)
def cutOf (S:List RW.Span):List Int:=S.flatMap fun s=>[s.f,s.t+1]
theorem cutOf_mem {S:List RW.Span}{s:RW.Span}(h:s∈S):s.f∈cutOf S∧s.t+1∈cutOf S:=
 ⟨List.mem_flatMap.2 ⟨s,h,by simp⟩,List.mem_flatMap.2 ⟨s,h,by simp⟩⟩
def cuts3 (S5 S7 S8:List RW.Span):List Int:=0::(cutOf S5++cutOf S7++cutOf S8)
theorem tv_flat {S5 S7 S8:List RW.Span}{lo r:Int}(h:lo≤r)(hn:∀c∈cuts3 S5 S7 S8,c≤lo∨r<c):tv S5 S7 S8 r=tv S5 S7 S8 lo:=by
 have k:∀S:List RW.Span,(∀c∈cutOf S,c≤lo∨r<c)→says1 S r=says1 S lo:=fun S hS=>by
  unfold says1
  rw [val_flat h fun s hs=>⟨hS _ (cutOf_mem hs).1,hS _ (cutOf_mem hs).2⟩]
 unfold tv
 rw [k S5 fun c hc=>hn c (by simp [cuts3,hc]),k S7 fun c hc=>hn c (by simp [cuts3,hc]),k S8 fun c hc=>hn c (by simp [cuts3,hc])]
theorem tv_between {S5 S7 S8:List RW.Span}{C:List Int}(hC:C.Pairwise (· < ·))(hm:∀c,c∈cuts3 S5 S7 S8→c∈C){i:Nat}(hi:i<C.length){r:Int}(h0:RW.cAt C i≤r)(h1:∀h:i+1<C.length,r<RW.cAt C (i+1)):tv S5 S7 S8 r=tv S5 S7 S8 (RW.cAt C i):=by
 refine tv_flat h0 fun c hc=> ?_
 obtain⟨j,hj,e⟩:=List.getElem_of_mem (hm c hc)
 have ec:RW.cAt C j=c:=by simp [RW.cAt,List.getD,hj,e]
 rcases Nat.lt_or_ge i j with h|h
 ·right
  have a:=h1 (by omega)
  have b:=RW.cAt_le hC (show i+1≤j from h) hj
  omega
 ·left
  have b:=RW.cAt_le hC h hi
  omega
theorem tv_step {S5 S7 S8:List RW.Span}{C:List Int}(hC:C.Pairwise (· < ·))(hm:∀c,c∈cuts3 S5 S7 S8→c∈C){i:Nat}(hi:i<C.length){hi':Int}(hlt:RW.cAt C i<hi')(h1:∀h:i+1<C.length,hi'≤RW.cAt C (i+1)){out:List (Pc TK.V3)}(h:JI (tv S5 S7 S8) 0 (RW.cAt C i) out):
  JI (tv S5 S7 S8) 0 hi' (jstep out ⟨RW.cAt C i,hi' - 1,tv S5 S7 S8 (RW.cAt C i)⟩):=by
 have:=JI.step (x:=⟨RW.cAt C i,hi' - 1,tv S5 S7 S8 (RW.cAt C i)⟩) h (by show RW.cAt C i≤hi' - 1;omega) fun r a b=>tv_between hC hm hi a fun hl=>by have:=h1 hl;have b:r≤hi' - 1:=b;omega
 simpa using this
def cutsT (S5 S7 S8:List RW.Span):List Int:=sortedOnce (cuts3 S5 S7 S8)
def Bd (S:List RW.Span):Prop:=∀s∈S,0≤s.f∧s.f≤s.t∧s.t≤1114111
theorem cutOf_bd {S:List RW.Span}(h:Bd S){c:Int}(hc:c∈cutOf S):0≤c∧c≤1114112:=by
 obtain⟨s,hs,hc⟩:=List.mem_flatMap.1 hc
 have:=h s hs
 simp at hc
 omega
theorem cuts3_bd {S5 S7 S8:List RW.Span}(h5:Bd S5)(h7:Bd S7)(h8:Bd S8){c:Int}(hc:c∈cuts3 S5 S7 S8):0≤c∧c≤1114112:=by
 simp only [cuts3,List.mem_cons,List.mem_append]at hc
 rcases hc with rfl|(hc|hc)|hc
 ·omega
 ·exact cutOf_bd h5 hc
 ·exact cutOf_bd h7 hc
 ·exact cutOf_bd h8 hc
theorem cutOf_len (S:List RW.Span):(cutOf S).length=2*S.length:=by
 induction S with
 |nil=>rfl
 |cons s S ih=>simp only [cutOf,List.flatMap_cons,List.length_append,List.length_cons,List.length_nil]at ih ⊢;omega
theorem cuts3_len (S5 S7 S8:List RW.Span):(cuts3 S5 S7 S8).length=1+2*(S5.length+S7.length+S8.length):=by
 simp only [cuts3,List.length_cons,List.length_append,cutOf_len]
 omega
theorem cutOf_snoc {S:List RW.Span}{k:Nat}{x:RW.Span}(h:S[k]? =some x):cutOf (S.take (k+1))=cutOf (S.take k)++[x.f,x.t+1]:=by
 rw [take_snoc' h,cutOf,List.flatMap_append]
 rfl
theorem cutsT_ok {S5 S7 S8:List RW.Span}(h5:Bd S5)(h7:Bd S7)(h8:Bd S8):(cutsT S5 S7 S8).Pairwise (· < ·)∧(∀c,c∈cuts3 S5 S7 S8↔c∈cutsT S5 S7 S8)∧0<(cutsT S5 S7 S8).length∧cAt (cutsT S5 S7 S8) 0=0∧(∀i,i<(cutsT S5 S7 S8).length→0≤cAt (cutsT S5 S7 S8) i∧cAt (cutsT S5 S7 S8) i≤1114112):=by
 have hm:∀c,c∈cuts3 S5 S7 S8↔c∈cutsT S5 S7 S8:=fun c=>(sortedOnce_mem).symm
 have hp:(cutsT S5 S7 S8).Pairwise (· < ·):=sortedOnce_lt _
 have h0:(0:Int)∈cutsT S5 S7 S8:=(hm 0).1 (by simp [cuts3])
 have hl:0<(cutsT S5 S7 S8).length:=List.length_pos_of_mem h0
 have hb:∀i,i<(cutsT S5 S7 S8).length→0≤cAt (cutsT S5 S7 S8) i∧cAt (cutsT S5 S7 S8) i≤1114112:=fun i hi=>cuts3_bd h5 h7 h8 ((hm _).2 (cAt_mem hi))
 refine⟨hp,hm,hl,?_,hb⟩
 obtain⟨j,hj,e⟩:=List.getElem_of_mem h0
 have ej:cAt (cutsT S5 S7 S8) j=0:=by simp [cAt,List.getD,hj,e]
 have:=cAt_le hp (Nat.zero_le j) hj
 have:=(hb 0 hl).1
 omega
theorem cAt_snoc {C:List Int}{x:Int}{i:Nat}(hi:i<C.length):cAt (C++[x]) i=cAt C i:=by
 simp [cAt,List.getD,List.getElem?_append_left hi]
theorem cAt_end (C:List Int)(x:Int):cAt (C++[x]) C.length=x:=by
 simp [cAt,List.getD]
theorem ji_val {g:Int→TK.V3}{z:TK.V3}{lo hi:Int}{P:List (Pc TK.V3)}(h:JI g lo hi P){r:Int}(h0:lo≤r)(h1:r<hi):pval P z r=g r:=by
 have t:=h.tile
 have v:=h.vals
 clear h
 induction P generalizing lo with
 |nil=>have:lo=hi:=t;omega
 |cons p P ih=>
  obtain⟨e,h2,h3⟩:=t
  unfold pval
  rw [pget_cons]
  by_cases hc:p.f≤r∧r≤p.t
  ·rw [if_pos hc]
   exact(v p (by simp) r hc.1 hc.2).symm
  ·rw [if_neg hc]
   exact ih (by omega) h3 (fun q hq=>v q (by simp [hq]))
theorem jstep_len {τ:Type} [DecidableEq τ] (out:List (Pc τ))(x:Pc τ):(jstep out x).length≤out.length+1:=by
 rcases List.eq_nil_or_concat out with rfl|⟨D,y,rfl⟩
 ·simp [jstep_nil]
 ·rw [List.concat_eq_append]
  by_cases e:y.v=x.v
  ·rw [jstep_yes e];simp
  ·rw [jstep_no e];simp
structure TQ (S5 S7 S8:List RW.Span)(C:List Int)(i:Nat)(out:List (Pc TK.V3)):Prop where
 len:out.length≤i
 ji:i<C.length→JI (tv S5 S7 S8) 0 (cAt C i) out
 fin:i=C.length→∀r,0≤r→r<1114112→pval out (false,false,false) r=tv S5 S7 S8 r
theorem TQ.start {S5 S7 S8:List RW.Span}{C:List Int}(hl:0<C.length)(h0:cAt C 0=0):TQ S5 S7 S8 C 0 []:=
 ⟨Nat.le_refl _,fun _=>⟨(by rw [h0];rfl),(fun p hp=>(by cases hp)),trivial⟩,fun h=>by omega⟩
theorem TQ.step {S5 S7 S8:List RW.Span}{C:List Int}{i:Nat}{out:List (Pc TK.V3)}(hC:C.Pairwise (· < ·))(hm:∀c,c∈cuts3 S5 S7 S8→c∈C)(hb:∀i,i<C.length→0≤cAt C i∧cAt C i≤1114112)(hi:i<C.length)(h:TQ S5 S7 S8 C i out):
  TQ S5 S7 S8 C (i+1) (jstep out ⟨cAt C i,cAt (C++[1114112]) (i+1) - 1,tv S5 S7 S8 (cAt C i)⟩):=by
 have hj:=h.ji hi
 refine⟨by have:=jstep_len out ⟨cAt C i,cAt (C++[1114112]) (i+1) - 1,tv S5 S7 S8 (cAt C i)⟩;have:=h.len;omega,fun h1=> ?_,fun h1 r r0 r1=> ?_⟩
 ·rw [cAt_snoc h1]
  exact tv_step hC hm hi (cAt_lt hC (Nat.lt_succ_self i) h1) (fun _=>Int.le_refl _) hj
 ·rw [h1,cAt_end]
  have b:=hb i hi
  rcases Int.lt_or_eq_of_le b.2 with hlt|heq
  ·exact ji_val (tv_step hC hm hi hlt (fun h=>by omega) hj) r0 r1
  ·rw [heq]
   rw [heq]at hj
   have e0:=ji_val (z:=(false,false,false)) hj r0 r1
   rw [←e0]
   rcases List.eq_nil_or_concat out with rfl|⟨D,y,rfl⟩
   ·rw [jstep_nil]
    unfold pval
    rw [pget_cons,if_neg (by dsimp only;omega)]
   ·rw [List.concat_eq_append]at hj e0 ⊢
    have ht:=(tile_snoc.1 hj.tile)
    by_cases e:y.v=tv S5 S7 S8 1114112
    ·rw [jstep_yes e]
     have ey:(⟨y.f,1114112 - 1,y.v⟩:Pc TK.V3)=y:=by
      have:y.t=1114112 - 1:=by omega
      rw [←this]
     rw [ey]
    ·rw [jstep_no e]
     unfold pval
     rw [pget_append]
     congr 1
     rw [pget_cons,if_neg (by dsimp only;omega)]
     simp [pget]
def outT (L:List RW.Row)(r:Int):Bool:=outB (vget 1 L) (vget 3 L) (pget2 L) r
structure CompS (L:List RW.Row)(l:TP.V2→Option Int)(c:Int→Int):Prop where
 yes:∀p r,l p=some r→p.2≠0∧(0≤r∧r≤1114111)∧pget2 L r=p∧outT L r=false∧∀q,0≤q→q<r→pget2 L q=p→outT L q=true
 no:∀p,l p=none→p.2=0∨∀q,0≤q→q≤1114111→pget2 L q=p→outT L q=true
 num:∀q,0<c q↔∃a,(l (a,q)).isSome=true
theorem pget2_in {L:List RW.Row}{S:List RW.Span}(h:RW.Good 2 L S){s:RW.Span}(hs:s∈S){r:Int}(h1:s.f≤r)(h2:r≤s.t):pget2 L r=prS s:=by
 have b:=h.bd s hs
 have e:=RW.rise_one h.rise hs h1 h2
 have hM:s.t≤1114111:=b.2
 rw [h.says r (by omega) (show r≤1114111 by omega)]at e
 unfold pget2
 rw [e]
 rfl
theorem pget2_of {L:List RW.Row}{S:List RW.Span}(h:RW.Good 2 L S){r:Int}(r0:0≤r)(r1:r≤1114111)(hn:(pget2 L r).2≠0):∃s∈S,prS s=pget2 L r∧s.f≤r∧r≤s.t:=by
 unfold pget2 at hn ⊢
 have e:=h.says r r0 r1
 cases hv:RW.rval 2 L r with
 |none=>rw [hv]at hn;exact absurd rfl hn
 |some p=>
  rw [hv]at e
  obtain⟨s,hs,h1,h2,e'⟩:=RW.val_some e
  refine⟨s,hs,?_,h1,h2⟩
  rw [←e']
  rfl
theorem compS_of {L:List RW.Row}{S:List RW.Span}(h:RW.Good 2 L S){o:Int→Bool}(ho:∀r,0≤r→r≤1114111→o r=outT L r){l:TP.V2→Option Int}{c:Int→Int}(hq:LQ o S l c):CompS L l c:=by
 have bd:∀s∈S,0≤s.f∧s.t≤1114111:=h.bd
 refine⟨fun p r e=> ?_,fun p e=> ?_,fun q=>(hq.num q).2.2⟩
 ·obtain⟨h1,h2,⟨s,hs,e',h3,h4⟩,h5⟩:=hq.yes p r e
  have b:=bd s hs
  refine⟨h1,by omega,(pget2_in h hs h3 h4).trans e',by rw [←ho r (by omega) (by omega)];exact h2,fun q q0 q1 eq=> ?_⟩
  obtain⟨t,ht,et,k1,k2⟩:=pget2_of h q0 (show q≤1114111 by omega) (by rw [eq];exact h1)
  rw [←ho q (by omega) (by omega)]
  exact h5 t ht (et.trans eq) q k1 k2 q1
 ·rcases hq.no p e with h1|h1
  ·exact .inl h1
  ·by_cases h0:p.2=0
   ·exact .inl h0
   ·refine .inr fun q q0 q1 eq=> ?_
    obtain⟨t,ht,et,k1,k2⟩:=pget2_of h q0 q1 (by rw [eq];exact h0)
    rw [←ho q (by omega) (by omega)]
    exact h1 t ht (et.trans eq) q k1 k2
structure UcdB (lo hi:Nat)(L:List RW.Row)(tp t0 t1 t2 t3 t4 t5 b6 b7:Nat)(W:World):Prop where
 blk:Blk W tp #[.pointer (some ⟨t0,0,none⟩),.pointer (some ⟨t1,0,none⟩),.pointer (some ⟨t2,0,none⟩),.pointer (some ⟨t3,0,none⟩),.pointer (some ⟨t4,0,none⟩),.pointer (some ⟨t5,0,none⟩),.map (some b6),.map (some b7)]
 bd:(lo≤tp∧tp<hi)∧(lo≤b6∧b6<hi)∧(lo≤b7∧b7<hi)
 h0:∃g,IsTx lo hi g t0 W∧∀r,0≤r→r≤1114111→g r=vget 1 L r
 h1:∃g,IsTx lo hi g t1 W∧∀r,0≤r→r≤1114111→g r=vget 4 L r
 h2:∃g,IsTx lo hi g t2 W∧∀r,0≤r→r≤1114111→g r=vget 6 L r
 h3:∃g,IsPx lo hi g t3 W∧∀r,0≤r→r≤1114111→g r=pget2 L r
 h4:∃g,IsTx lo hi g t4 W∧∀r,0≤r→r≤1114111→g r=vget 3 L r
 h5:∃g,IsKx lo hi g t5 W∧∀r,0≤r→r≤1114111→g r=(vget 5 L r==1,vget 7 L r==1,vget 8 L r==1)
 maps:∃n6 n7 l c,Mp W b6 n6 l∧Ms W b7 n7 c∧CompS L l c
def Ucd (lo hi:Nat)(L:List RW.Row)(tp:Nat)(W:World):Prop:=∃t0 t1 t2 t3 t4 t5 b6 b7,UcdB lo hi L tp t0 t1 t2 t3 t4 t5 b6 b7 W
theorem Ucd.kept {lo hi:Nat}{L:List RW.Row}{tp:Nat}{W W':World}(h:Ucd lo hi L tp W)(hs:W.heap.size≤W'.heap.size)(hk:∀k,lo≤k→k<hi→W'.heap[k]? =W.heap[k]?):Ucd lo hi L tp W':=by
 obtain⟨t0,t1,t2,t3,t4,t5,b6,b7,h⟩:=h
 obtain⟨b1,b2,b3⟩:=h.bd
 obtain⟨g0,e0,f0⟩:=h.h0
 obtain⟨g1,e1,f1⟩:=h.h1
 obtain⟨g2,e2,f2⟩:=h.h2
 obtain⟨g3,e3,f3⟩:=h.h3
 obtain⟨g4,e4,f4⟩:=h.h4
 obtain⟨g5,e5,f5⟩:=h.h5
 obtain⟨n6,n7,l,c,m6,m7,hc⟩:=h.maps
 exact⟨t0,t1,t2,t3,t4,t5,b6,b7,blk_at h.blk hs (hk _ b1.1 b1.2),h.bd,⟨g0,e0.kept hs hk,f0⟩,⟨g1,e1.kept hs hk,f1⟩,⟨g2,e2.kept hs hk,f2⟩,⟨g3,e3.kept hs hk,f3⟩,⟨g4,e4.kept hs hk,f4⟩,⟨g5,e5.kept hs hk,f5⟩,
  n6,n7,l,c,m6.at (hk _ b2.1 b2.2),m7.at (hk _ b3.1 b3.2),hc⟩
theorem Ucd.later {lo hi:Nat}{L:List RW.Row}{tp:Nat}{W W':World}(h:Ucd lo hi L tp W)(hb:Below hi W W'):Ucd lo hi L tp W':=h.kept hb.size fun k _ h2=>hb.block k h2
theorem at0_congr {τ:Type}{z:τ}{g g':Int→τ}(h:∀r,0≤r→r≤1114111→g r=g' r)(r:Int):at0 z g r=at0 z g' r:=by
 unfold at0
 by_cases hr:0≤r∧r<1114112
 ·rw [if_pos hr,if_pos hr,h r hr.1 (by omega)]
 ·rw [if_neg hr,if_neg hr]
theorem outB_congr {gc go gc' go':Int→Int}{gp gp':Int→TP.V2}(hc:∀r,0≤r→r≤1114111→gc r=gc' r)(ho:∀r,0≤r→r≤1114111→go r=go' r)(hp:∀r,0≤r→r≤1114111→gp r=gp' r)(r:Int):outB gc go gp r=outB gc' go' gp' r:=by
 unfold outB
 rw [at0_congr hp r,at0_congr ho r,at0_congr hc r,at0_congr hc]
theorem w32_bd (a:Int): -2147483648≤w32 a∧w32 a≤2147483647:=by
 have:=wf_wrap .i32 a
 simpa [Lit.wf,IntKind.min,IntKind.max,IntKind.signed,IntKind.bits]using this
theorem pget2_bd (L:List RW.Row)(r:Int): -2147483648≤(at0 (0,0) (pget2 L) r).1∧(at0 (0,0) (pget2 L) r).1≤2147483647:=by
 unfold at0 pget2
 split
 ·cases RW.rval 2 L r with
  |none=>exact⟨by decide,by decide⟩
  |some p=>exact w32_bd p.1
 ·exact⟨by decide,by decide⟩
section
variable {lo hi:Nat}{L:List RW.Row}{tp:Nat}{W:World}
theorem uclass (h:Ucd lo hi L tp W)(r:Int)(r0: -2147483648≤r)(r1:r≤2147483647):
  Calls Tryz.prog 160 #[.pointer (some ⟨tp,0,none⟩),.int .i32 r] W (fun e w'=>e= .returned (.int .i64 (at0 0 (vget 1 L) r))∧Below W.heap.size W w'):=by
 obtain⟨t0,t1,t2,t3,t4,t5,b6,b7,h⟩:=h
 obtain⟨g0,e0,f0⟩:=h.h0
 rw [←at0_congr f0 r]
 exact class_any (h.blk.2.1 0) e0.is r r0 r1
theorem upair (h:Ucd lo hi L tp W)(r:Int)(r0: -2147483648≤r)(r1:r≤2147483647):
  Calls Tryz.prog 159 #[.pointer (some ⟨tp,0,none⟩),.int .i32 r] W (fun e w'=>e= .returned (.tuple #[.int .i32 (at0 (0,0) (pget2 L) r).1,.int .i32 (at0 (0,0) (pget2 L) r).2,.bool (at0 (0,0) (pget2 L) r != (0,0))])∧Below W.heap.size W w'):=by
 obtain⟨t0,t1,t2,t3,t4,t5,b6,b7,h⟩:=h
 obtain⟨g3,e3,f3⟩:=h.h3
 have:=pair_any (h.blk.2.1 3) e3.is r r0 r1
 rwa [at0_congr f3 r]at this
theorem uout (h:Ucd lo hi L tp W)(r:Int)(r0: -2147483648≤r)(r1:r≤2147483647):
  Calls Tryz.prog 114 #[.pointer (some ⟨tp,0,none⟩),.int .i32 r] W (fun e w'=>e= .returned (.bool (outT L r))∧Below W.heap.size W w'):=by
 obtain⟨t0,t1,t2,t3,t4,t5,b6,b7,h⟩:=h
 obtain⟨g0,e0,f0⟩:=h.h0
 obtain⟨g3,e3,f3⟩:=h.h3
 obtain⟨g4,e4,f4⟩:=h.h4
 have:=out_any h.blk.1 (h.blk.2.1 0) (h.blk.2.1 3) (h.blk.2.1 4) e0.is e3.is e4.is (fun q=>by rw [at0_congr f3 q];exact pget2_bd L q) r r0 r1
 unfold outT
 rwa [outB_congr f0 f4 f3 r]at this
theorem Ucd.said (h:Ucd lo hi L tp W):∃l c b6 b7 n6 n7,CompS L l c∧∀W',Below hi W W'→W'.cell? ⟨tp,6,none⟩=some (.map (some b6))∧Mp W' b6 n6 l∧W'.cell? ⟨tp,7,none⟩=some (.map (some b7))∧Ms W' b7 n7 c:=by
 obtain⟨t0,t1,t2,t3,t4,t5,b6,b7,h⟩:=h
 obtain⟨n6,n7,l,c,m6,m7,hc⟩:=h.maps
 obtain⟨b1,b2,b3⟩:=h.bd
 refine⟨l,c,b6,b7,n6,n7,hc,fun W' hb=> ?_⟩
 have q:=blk_at h.blk hb.size (hb.block _ b1.2)
 exact⟨q.2.1 6,m6.at (hb.block _ b2.2),q.2.1 7,m7.at (hb.block _ b3.2)⟩
end
end Go.Proofs.YtlopleeopnnoeaaGreat
namespace Go.Proofs.YtlopleeopnnoeaaGreat.RW
open Go.RowKit
def rin (kind:Int)(L:List Row)(r:Int):Option (Int × Int):=if 0≤r∧r≤1114111 then rval kind L r else none
def aR (L:List Row)(kind r:Int):Int:=((rin kind L r).map Prod.fst).getD 0
def pairR (L:List Row)(r:Int):Int × Int × Bool:=match rin 2 L r with
 |none=>(0,0,false)
 |some p=>if p.1=0∧p.2=0 then (0,0,false)else (IntKind.i32.wrap p.1,IntKind.i32.wrap p.2,true)
theorem wrap_bd (a:Int): -2147483648≤IntKind.i32.wrap a∧IntKind.i32.wrap a≤2147483647:=by
 have:=wf_wrap .i32 a
 simpa [Lit.wf,IntKind.min,IntKind.max,IntKind.signed,IntKind.bits]using this
theorem pairR_bd (L:List Row)(r:Int): -2147483648≤(pairR L r).1∧(pairR L r).1≤2147483647:=by
 unfold pairR
 cases rin 2 L r with
 |none=>exact⟨by decide,by decide⟩
 |some p=>
  dsimp only
  split
  ·exact⟨by decide,by decide⟩
  ·exact wrap_bd p.1
def outR (L:List Row)(r:Int):Bool:=(pairR L r).2.2&&((pairR L r).2.1==0||aR L 3 r==1||aR L 1 r != 0||aR L 1 (pairR L r).1 != 0)
def secB (L:List Row)(r:Int)(x:Row):Bool:=x.k==2&&x.b==r&&r != 0&& !outR L (IntKind.i32.wrap x.f)
def secR (L:List Row)(r:Int):Bool:=L.any (secB L r)
theorem any_drop {α:Type}{p:α→Bool}{L:List α}{k:Nat}{x:α}(h:L[k]? =some x):(L.drop k).any p=(p x||(L.drop (k+1)).any p):=by
 obtain⟨hk,rfl⟩:=List.getElem?_eq_some_iff.1 h
 rw [List.drop_eq_getElem_cons hk,List.any_cons]
def fitB (L:List Row)(a b:Int)(x:Row):Bool:=
 x.k==2&&x.a==a&&x.b==b&&b != 0&&(pairR L (IntKind.i32.wrap x.f)).2.2&&(pairR L (IntKind.i32.wrap x.f)).1==a&&(pairR L (IntKind.i32.wrap x.f)).2.1==b&& !outR L (IntKind.i32.wrap x.f)
def cmpS (L:List Row)(a b:Int)(s:Int × Bool)(x:Row):Int × Bool:=if fitB L a b x=true∧(s.2=false∨IntKind.i32.wrap x.f<s.1)then (IntKind.i32.wrap x.f,true)else s
def compR (L:List Row)(a b:Int):Int × Bool:=L.foldl (cmpS L a b) (0,false)
theorem foldl_take {α β:Type}{f:β→α→β}{z:β}{L:List α}{k:Nat}{x:α}(h:L[k]? =some x):(L.take (k+1)).foldl f z=f ((L.take k).foldl f z) x:=by
 obtain⟨hk,rfl⟩:=List.getElem?_eq_some_iff.1 h
 rw [List.take_succ_eq_append_getElem hk,List.foldl_append]
 rfl
end Go.Proofs.YtlopleeopnnoeaaGreat.RW
namespace Go.Proofs.YtlopleeopnnoeaaGreat
open Go.RowKit
theorem aR_eq (L:List RW.Row)(k r:Int):RW.aR L k r=at0 0 (vget k L) r:=by
 unfold RW.aR RW.rin at0 vget
 by_cases h:0≤r∧r≤1114111
 ·rw [if_pos h,if_pos (by omega:0≤r∧r<1114112)]
 ·rw [if_neg h,if_neg (by omega:¬(0≤r∧r<1114112))]
  rfl
def oneB (L:List RW.Row):Bool:=L.all fun x=>x.k != 2||(decide (x.f=x.t∧0≤x.f∧x.f≤1114111∧ -2147483648≤x.a∧x.a≤2147483647∧ -2147483648≤x.b∧x.b≤2147483647)&&RW.rval 2 L x.f==some (x.a,x.b))
theorem one_of {L:List RW.Row}(h:oneB L=true){x:RW.Row}(hx:x∈L)(hk:x.k=2):(x.f=x.t∧0≤x.f∧x.f≤1114111∧ -2147483648≤x.a∧x.a≤2147483647∧ -2147483648≤x.b∧x.b≤2147483647)∧RW.rval 2 L x.f=some (x.a,x.b):=by
 have:=List.all_eq_true.1 h x hx
 simp only [hk,bne_self_eq_false,Bool.false_or,Bool.and_eq_true,decide_eq_true_eq,beq_iff_eq]at this
 exact this
theorem w32_id {a:Int}(h0: -2147483648≤a)(h1:a≤2147483647):w32 a=a:=IntWalk.i32_in _ (by omega)
theorem rval_row {L:List RW.Row}{k r:Int}{p:Int × Int}(h:RW.rval k L r=some p):∃x∈L,x.k=k∧x.f≤r∧r≤x.t∧(x.a,x.b)=p:=by
 unfold RW.rval at h
 cases hf:L.find? (RW.Row.has k r)with
 |none=>rw [hf]at h;cases h
 |some x=>
  rw [hf]at h
  have h1:=List.find?_some hf
  simp only [RW.Row.has,decide_eq_true_eq]at h1
  exact⟨x,List.mem_of_find?_eq_some hf,h1.1,h1.2.1,h1.2.2,Option.some.inj h⟩
theorem pairR_eq {L:List RW.Row}(h:oneB L=true)(r:Int):RW.pairR L r=((at0 (0,0) (pget2 L) r).1,(at0 (0,0) (pget2 L) r).2,at0 (0,0) (pget2 L) r != (0,0)):=by
 unfold RW.pairR RW.rin at0 pget2
 by_cases hr:0≤r∧r≤1114111
 ·rw [if_pos hr,if_pos (by omega:0≤r∧r<1114112)]
  cases hv:RW.rval 2 L r with
  |none=>rfl
  |some p=>
   obtain⟨x,hx,hk,_,_,rfl⟩:=rval_row hv
   obtain⟨⟨_,_,_,a0,a1,b0,b1⟩,_⟩:=one_of h hx hk
   dsimp only [Option.map_some,Option.getD_some]
   rw [show IntKind.i32.wrap x.a=x.a from w32_id a0 a1,show IntKind.i32.wrap x.b=x.b from w32_id b0 b1]
   by_cases hc:x.a=0∧x.b=0
   ·rw [if_pos hc,hc.1,hc.2];rfl
   ·rw [if_neg hc]
    have:((x.a,x.b) != ((0,0):Int × Int))=true:=by simpa using fun e=>fun e'=>hc ⟨e,e'⟩
    rw [w32_id a0 a1,w32_id b0 b1,this]
 ·rw [if_neg hr,if_neg (by omega:¬(0≤r∧r<1114112))]
  rfl
theorem outR_eq {L:List RW.Row}(h:oneB L=true)(r:Int):RW.outR L r=outT L r:=by
 unfold RW.outR outT outB
 rw [pairR_eq h]
 simp only [aR_eq]
theorem fold_least (F:RW.Row→Bool)(v:RW.Row→Int)(M:List RW.Row):∀k,k≤M.length→∀s,(M.take k).foldl (fun s x=>if F x=true∧(s.2=false∨v x<s.1)then (v x,true)else s) ((0,false):Int × Bool)=s→
  (s.2=false→s.1=0∧∀x∈M.take k,F x=false)∧(s.2=true→(∃x∈M.take k,F x=true∧v x=s.1)∧∀x∈M.take k,F x=true→s.1≤v x):=by
 intro k
 induction k with
 |zero=>
  intro _ s hs
  simp at hs
  subst hs
  exact⟨(fun _=>⟨rfl,(fun x hx=>(by simp at hx))⟩),(fun h=>(by cases h))⟩
 |succ k ih=>
  intro hk s hs
  have hx:M[k]? =some M[k]:=List.getElem?_eq_getElem (by omega)
  rw [RW.foldl_take hx]at hs
  obtain⟨s',hs'⟩:∃s',(M.take k).foldl (fun s x=>if F x=true∧(s.2=false∨v x<s.1)then (v x,true)else s) ((0,false):Int × Bool)=s':=⟨_,rfl⟩
  rw [hs']at hs
  obtain⟨i1,i2⟩:=ih (by omega) s' hs'
  rw [take_snoc' hx]
  clear hs'
  generalize M[k]=x at hs ⊢
  by_cases hc:F x=true∧(s'.2=false∨v x<s'.1)
  ·rw [if_pos hc]at hs
   subst hs
   refine⟨(fun h=>(by cases h)),fun _=>⟨⟨x,by simp,hc.1,rfl⟩,fun y hy hF=> ?_⟩⟩
   dsimp only
   rcases List.mem_append.1 hy with hy|hy
   ·rcases hc.2 with h|h
    ·rw [(i1 h).2 y hy]at hF;cases hF
    ·by_cases h2:s'.2=false
     ·rw [(i1 h2).2 y hy]at hF;cases hF
     ·have:=(i2 (by simpa using h2)).2 y hy hF
      omega
   ·simp at hy
    subst hy
    exact Int.le_refl _
  ·rw [if_neg hc]at hs
   subst hs
   refine⟨fun h=>⟨(i1 h).1,fun y hy=> ?_⟩,fun h=>⟨?_,fun y hy hF=> ?_⟩⟩
   ·rcases List.mem_append.1 hy with hy|hy
    ·exact(i1 h).2 y hy
    ·simp at hy
     subst hy
     cases e:F y with
     |false=>rfl
     |true=>exact absurd ⟨e,.inl h⟩ hc
   ·obtain⟨y,hy,h1⟩:=(i2 h).1
    exact⟨y,by simp [hy],h1⟩
   ·rcases List.mem_append.1 hy with hy|hy
    ·exact(i2 h).2 y hy hF
    ·simp at hy
     subst hy
     rcases Int.lt_or_le (v y) s'.1 with h1|h1
     ·exact absurd ⟨hF,.inr h1⟩ hc
     ·exact h1
theorem pget2_at {L:List RW.Row}{r:Int}(r0:0≤r)(r1:r≤1114111):at0 (0,0) (pget2 L) r=pget2 L r:=if_pos (by omega:0≤r∧r<1114112)
theorem fit_iff {L:List RW.Row}(h:oneB L=true){a b:Int}{x:RW.Row}(hx:x∈L):RW.fitB L a b x=true↔x.k=2∧b≠0∧pget2 L x.f=(a,b)∧outT L x.f=false:=by
 unfold RW.fitB
 rw [pairR_eq h,outR_eq h]
 constructor
 ·intro hf
  simp only [Bool.and_eq_true,beq_iff_eq,bne_iff_ne,Bool.not_eq_true']at hf
  obtain⟨⟨⟨⟨⟨⟨⟨f1,f2⟩,f3⟩,f4⟩,f5⟩,f6⟩,f7⟩,f8⟩:=hf
  obtain⟨⟨_,r0,r1,_⟩,_⟩:=one_of h hx f1
  rw [show IntKind.i32.wrap x.f=x.f from w32_id (by omega) (by omega)]at f6 f7 f8
  rw [pget2_at r0 r1]at f6 f7
  exact⟨f1,f4,Prod.ext f6 f7,f8⟩
 ·rintro⟨f1,f4,f5,f8⟩
  obtain⟨⟨_,r0,r1,a0,a1,b0,b1⟩,hv⟩:=one_of h hx f1
  rw [show IntKind.i32.wrap x.f=x.f from w32_id (by omega) (by omega),pget2_at r0 r1,f5]
  have e:pget2 L x.f=(x.a,x.b):=by
   unfold pget2
   rw [hv]
   show (w32 x.a,w32 x.b)=_
   rw [w32_id a0 a1,w32_id b0 b1]
  rw [e]at f5
  simp only [Prod.mk.injEq]at f5
  simp [f1,f4,f5.1,f5.2,f8]
theorem row_of {L:List RW.Row}(h:oneB L=true){r a b:Int}(r0:0≤r)(r1:r≤1114111)(hb:b≠0)(hp:pget2 L r=(a,b)):∃x∈L,x.k=2∧x.f=r∧x.b=b:=by
 unfold pget2 at hp
 cases hv:RW.rval 2 L r with
 |none=>rw [hv]at hp;simp at hp;exact absurd hp.2.symm hb
 |some p=>
  rw [hv]at hp
  obtain⟨x,hx,hk,h1,h2,rfl⟩:=rval_row hv
  obtain⟨⟨e,_,_,a0,a1,b0,b1⟩,_⟩:=one_of h hx hk
  dsimp only [Option.map_some,Option.getD_some]at hp
  rw [w32_id b0 b1]at hp
  exact⟨x,hx,hk,by omega,(Prod.mk.inj hp).2⟩
theorem compR_eq {L:List RW.Row}(h:oneB L=true){l:TP.V2→Option Int}{c:Int→Int}(hc:CompS L l c)(a b:Int):RW.compR L a b=((l (a,b)).getD 0,(l (a,b)).isSome):=by
 obtain⟨s,hs⟩:∃s,RW.compR L a b=s:=⟨_,rfl⟩
 have key:=fold_least (RW.fitB L a b) (fun x=>IntKind.i32.wrap x.f) L L.length (Nat.le_refl _) s (by rw [List.take_length];exact hs)
 rw [List.take_length]at key
 rw [hs]
 obtain⟨fd,ok⟩:=s
 dsimp only at key
 have fw:∀x∈L,RW.fitB L a b x=true→IntKind.i32.wrap x.f=x.f∧0≤x.f∧x.f≤1114111:=fun x hx hF=>by
  obtain⟨⟨_,r0,r1,_⟩,_⟩:=one_of h hx ((fit_iff h hx).1 hF).1
  exact⟨w32_id (by omega) (by omega),r0,r1⟩
 cases hl:l (a,b)with
 |none=>
  have hno:∀x∈L,RW.fitB L a b x=false:=fun x hx=>by
   cases e:RW.fitB L a b x with
   |false=>rfl
   |true=>
    obtain⟨f1,f2,f3,f4⟩:=(fit_iff h hx).1 e
    obtain⟨_,r0,r1⟩:=fw x hx e
    rcases hc.no _ hl with h0|h0
    ·exact absurd h0 f2
    ·rw [h0 x.f r0 r1 f3]at f4;cases f4
  cases ok
  case false=>rw [(key.1 rfl).1];rfl
  case true=>
   obtain⟨⟨x,hx,hF,_⟩,_⟩:=key.2 rfl
   rw [hno x hx]at hF;cases hF
 |some r=>
  obtain⟨h1,⟨r0,r1⟩,h3,h4,h5⟩:=hc.yes _ _ hl
  obtain⟨x,hx,hk,hxf,_⟩:=row_of h r0 r1 h1 h3
  have hF:RW.fitB L a b x=true:=(fit_iff h hx).2 ⟨hk,h1,by rw [hxf];exact h3,by rw [hxf];exact h4⟩
  cases ok
  case false=>rw [(key.1 rfl).2 x hx]at hF;cases hF
  case true=>
   obtain⟨⟨y,hy,hG,e⟩,hle⟩:=key.2 rfl
   have w1:=fw x hx hF
   have w2:=fw y hy hG
   have l1:=hle x hx hF
   rw [w1.1,hxf]at l1
   rw [w2.1]at e
   obtain⟨g1,g2,g3,g4⟩:=(fit_iff h hy).1 hG
   have:¬y.f<r:=fun hlt=>by rw [h5 y.f w2.2.1 hlt g3]at g4;cases g4
   have:fd=r:=by omega
   rw [this]
   rfl
theorem secR_eq {L:List RW.Row}(h:oneB L=true){l:TP.V2→Option Int}{c:Int→Int}(hc:CompS L l c)(r:Int):RW.secR L r=decide (0<c r):=by
 have key:RW.secR L r=true↔0<c r:=by
  rw [hc.num r]
  unfold RW.secR
  rw [List.any_eq_true]
  constructor
  ·rintro⟨x,hx,hs⟩
   unfold RW.secB at hs
   rw [outR_eq h]at hs
   simp only [Bool.and_eq_true,beq_iff_eq,bne_iff_ne,Bool.not_eq_true']at hs
   obtain⟨⟨⟨f1,f2⟩,f3⟩,f4⟩:=hs
   obtain⟨⟨_,r0,r1,a0,a1,b0,b1⟩,hv⟩:=one_of h hx f1
   rw [show IntKind.i32.wrap x.f=x.f from w32_id (by omega) (by omega)]at f4
   have e:pget2 L x.f=(x.a,r):=by
    unfold pget2
    rw [hv]
    show (w32 x.a,w32 x.b)=_
    rw [w32_id a0 a1,w32_id b0 b1,f2]
   refine⟨x.a,?_⟩
   cases hl:l (x.a,r)with
   |some q=>rfl
   |none=>
    rcases hc.no _ hl with h0|h0
    ·exact absurd h0 f3
    ·rw [h0 x.f r0 r1 e]at f4;cases f4
  ·rintro⟨a,ha⟩
   obtain⟨q,hq⟩:=Option.isSome_iff_exists.1 ha
   obtain⟨h1,⟨r0,r1⟩,h3,h4,_⟩:=hc.yes _ _ hq
   obtain⟨x,hx,hk,hxf,hxb⟩:=row_of h r0 r1 h1 h3
   refine⟨x,hx,?_⟩
   unfold RW.secB
   rw [outR_eq h,hxf,show IntKind.i32.wrap q=q from w32_id (by omega) (by omega),h4]
   have:r≠0:=h1
   simp [hk,hxb,this]
 by_cases h0:0<c r
 ·rw [key.2 h0,decide_eq_true h0]
 ·rw [decide_eq_false h0]
  cases e:RW.secR L r with
  |false=>rfl
  |true=>exact absurd (key.1 e) h0
end Go.Proofs.YtlopleeopnnoeaaGreat
