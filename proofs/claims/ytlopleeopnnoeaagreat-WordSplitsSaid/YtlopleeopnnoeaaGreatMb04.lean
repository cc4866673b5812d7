import Derived.Test.YtlopleeopnnoeaaGreatMb01
import Derived.RangeFuncOwn
import Derived.RangeFuncCalls
import Derived.RangeFuncLeaves
import Derived.Test.YtlopleeopnnoeaaGreatMb03
import Derived.RangeFuncBox
import Derived.Shelf.Abstract
import Derived.Shelf.RegionOpen
import Derived.OwnWalkIn
import Derived.TacticsInMore
import Derived.LoopNIn
import Derived.LoopIn
import Derived.IntWalk
import Derived.Sort.QuietThIn
import Derived.Sort.QuietLawsIn
import Derived.Sort.BigQuietIn
import Derived.Sort.CutIn
import Derived.Deep.MidRow
import Derived.RangeFuncNested
import Derived.Maps.Views
import Derived.Maps.OwnSet
import Derived.DeepKeys4
set_option linter.unusedVariables false
set_option linter.unusedSimpArgs false
namespace Go.Proofs.YtlopleeopnnoeaaGreat
open Go.RowKit
structure KeepO (O O':Nat→Prop)(A B:World):Prop where
 size:A.heap.size≤B.heap.size
 old:∀k,k<A.heap.size→¬O k→B.heap[k]? =A.heap[k]?
 new:∀k,O' k→O k∨A.heap.size≤k
 lt:∀k,O' k→k<B.heap.size
def BearsO {β:Type}(I:β→(Nat→Prop)→World→Prop)(b:Nat):Prop:=
 ∀ (s:β) (O:Nat→Prop) (A B:World) (row:Option Nat),I s O A→A.grownBy B row→(∀r,row=some r→b≤r∧¬O r)→I s O B
section
variable {F:Fence}{n:Nat}{P:Program}{α:Type}
def SeqOwn (F:Fence)(n:Nat)(P:Program)(g:Nat)(lb:Array Value)(encs:α→Array Value)(K:Nat→Prop)(S:List α→Prop)(N:List α→α→Prop)(w:World):Prop:=
 ∀ (l:Nat) (J:List α→(Nat→Prop)→World→Prop) (O:Nat→Prop) (W:World),Below w.heap.size w W→(∀k,O k→k<w.heap.size∧¬K k)→BearsO J W.heap.size→
  (∀ (pre:List α) (O:Nat→Prop) (x:α) (W1:World),J pre O W1→(∀k,O k→k<W1.heap.size)→N pre x→YieldAt F (n - 1) P l (encs x) W1 fun e W'=>
   e= .returned (.bool true)∧∃O',J (pre++[x]) O' W'∧KeepO O O' W1 W')→
  J [] O W→CallsIn F n P g (#[.func (.yield l) #[] #[]]++lb) W fun e W'=>(∃v,e= .returned v)∧∃xs O',S xs∧J xs O' W'
def endPost (I:List α→(Nat→Prop)→World→Prop)(xs:List α)(O:Nat→Prop)(W:World):Exit→Act→World→Prop
 | .normal,_,W'=>∃O',KeepO O O' W W'∧I xs O' W'
 |_,_,_=>False
theorem wpIn_rangeBox {g:Operand}{ps:Array Tmp}{assign body:Code}{Q:Exit→Act→World→Prop}{a:Act}{w:World}
  (hro:F.round=none) (h1:1≤n) {gf:Nat} {lb:Array Value} (hg:a.eval g= .func (.func gf) #[] lb) (hFg:F.fn gf) (eg:∀args w,(callFunc gf args).run P w= .ok (.enter gf args) w)
  {encs:α→Array Value} {K:Nat→Prop} {S:List α→Prop} {N:List α→α→Prop} (hseq:SeqOwn F (n - 1) P gf lb encs K S N w) (hps:∀x,(encs x).size=ps.size)
  (O0:Nat→Prop) (hO:∀k,O0 k→k<w.heap.size∧¬K k)
  (I:List α→(Nat→Prop)→World→Prop) (M:List α × α × Act→(Nat→Prop)→World→Prop) (hI:BearsO I w.heap.size) (hM:BearsO M w.heap.size) (h0:I [] O0 w)
  (hassign:∀ (l:Nat) (pre:List α) (O:Nat→Prop) (x:α) (W:World),I pre O W→(∀k,O k→k<W.heap.size)→N pre x→
   assign.wpIn (F.inRound l) (n - 1 - 1) P (Exit.then (fun a' W'=>W.grownBy W' none∧∃O1:Nat→Prop,(∀k,O1 k→O k∨W.heap.size≤k)∧(∀k,O1 k→k<W'.heap.size)∧M (pre,x,a') O1 W') (fun _ _ _=>False)) {tmps:=(ps.zip (encs x)).foldl (fun t (p,v)=>t.setIfInBounds p v) a.tmps,defers:=[]} W)
  (hbody:∀ (l:Nat) (pre:List α) (O:Nat→Prop) (x:α) (a':Act) (W:World),M (pre,x,a') O W→w.heap.size≤W.heap.size→(∀k,O k→k<W.heap.size)→body.wpIn (F.inRound l) (n - 1 - 1) P (endPost I (pre++[x]) O W) a' W)
  (hdone:∀ (xs:List α) (O:Nat→Prop) (W:World),S xs→I xs O W→W.heap[w.heap.size]? =some (.deferred (some []))→¬O w.heap.size→Q .normal {a with defers:={target:= .collected w.heap.size,args:=#[]}::a.defers} W):
  (Code.rangeFunc g ps assign body).wpIn F n P Q a w:=by
 refine wpIn_rangeFunc fun fn hfn=> ?_
 rw [hro]
 let R:LoopState→Loop:=fun st=>{state:=st,pending:=none,fn,tmps:=a.tmps,params:=ps,assign,body,defers:=w.heap.size}
 obtain⟨V,hV⟩:∃V,(w.alloc (.deferred (some []))).alloc (.loop (R .ready))=V:=⟨_,rfl⟩
 have vs:V.heap.size=w.heap.size+2:=by rw [←hV];simp
 have vd:V.heap[w.heap.size]? =some (.deferred (some [])):=by
  rw [←hV,Below.heap_alloc _ _ _ (by simp)]
  exact World.alloc_heap_new w _
 have vl:V.heap[w.heap.size+1]? =some (.loop (R .ready)):=by
  have:=World.alloc_heap_new (w.alloc (.deferred (some []))) (.loop (R .ready))
  rwa [World.size_alloc,hV]at this
 have vb:Below w.heap.size w V:=by
  rw [←hV]
  exact((Below.refl _ w).alloc (Nat.le_refl _) _).alloc (by simp) _
 have vI:I [] O0 V:=by
  rw [←hV]
  exact hI _ _ _ _ none (hI _ _ _ _ none h0 (World.grownBy_alloc _ _ _) (fun r e=>by cases e)) (World.grownBy_alloc _ _ _) (fun r e=>by cases e)
 have put:∀ {s:List α} {O:Nat→Prop} {A:World} (o:Obj),¬O (w.heap.size+1)→I s O A→I s O (A.putObj (w.heap.size+1) o):=fun o hn h=>hI _ _ _ _ (some (w.heap.size+1)) h (grownBy_putObj' _ _ _) (fun r e=>by cases e;exact⟨by omega,hn⟩)
 refine⟨w.heap.size+1,[{target:= .collected w.heap.size,args:=#[]}],V,{target:= .fn (.func gf) lb,args:=#[.func (.yield (w.heap.size+1)) #[] #[]]},V,gf,#[.func (.yield (w.heap.size+1)) #[] #[]]++lb,V,
  by rw [←hV];exact run_enterLoop_outer _ _ _ _ _,by simp only [resolve,hg];simp [go_sem],?_,by simp [invoke,go_sem,eg],fun _=>h1,?_⟩
 ·intro f' hf'
  simp [Target.leads]at hf'
  subst hf'
  exact hFg
 have round:=hseq (w.heap.size+1) (fun pre O W=>I pre O W∧W.heap[w.heap.size+1]? =some (.loop (R .ready))∧W.heap[w.heap.size]? =some (.deferred (some []))∧¬O (w.heap.size+1)∧¬O w.heap.size) O0 V vb hO
  (fun s O A B row ⟨i1,i2,i3,i4,i5⟩ hg' hr=>by
   have l1:=(Array.getElem?_eq_some_iff.1 i2).1
   rw [vs]at hr
   exact⟨hI _ _ _ _ _ i1 hg' (fun r e=>by have:=hr r e;exact⟨by omega,this.2⟩),(hg'.block _ l1 (fun e=>by have:=hr _ e.symm;omega)).trans i2,(hg'.block _ (by omega) (fun e=>by have:=hr _ e.symm;omega)).trans i3,i4,i5⟩)
  (fun pre O x W ⟨i1,i2,i3,i4,i5⟩ hlt hlen=>by
   have l1:=(Array.getElem?_eq_some_iff.1 i2).1
   have hy:=run_yield (P:=P) (args:=encs x) i2 (by exact hps x)
   refine⟨fn,_,assign,body,hy,roundIn_of_wpIn hfn (wpIn_mono (hassign _ pre O x W i1 hlt hlen) ?_)⟩
   rintro e a' W' hp
   cases e with
   |normal=>
    obtain⟨kp,O1,h1n,h1l,m⟩:=hp
    have j4:¬O1 (w.heap.size+1):=fun h=>by rcases h1n _ h with h|h;exact i4 h;omega
    have j5:¬O1 w.heap.size:=fun h=>by rcases h1n _ h with h|h;exact i5 h;omega
    have q2:W'.heap[w.heap.size+1]? =some (.loop (R .ready)):=(kp.block _ l1 (by simp)).trans i2
    have q3:W'.heap[w.heap.size]? =some (.deferred (some [])):=(kp.block _ (by omega) (by simp)).trans i3
    have l2:=(Array.getElem?_eq_some_iff.1 q2).1
    refine⟨_,run_beginRound q2 rfl,?_⟩
    obtain⟨Z,hZ⟩:∃Z,W'.putObj (w.heap.size+1) (.loop (R .busy))=Z:=⟨_,rfl⟩
    have zs:Z.heap.size=W'.heap.size:=by rw [←hZ];simp
    have zl:Z.heap[w.heap.size+1]? =some (.loop (R .busy)):=by rw [←hZ];exact World.putObj_heap_same l2
    have zo:∀k,k≠w.heap.size+1→Z.heap[k]? =W'.heap[k]? :=fun k hk=>by rw [←hZ];exact World.putObj_heap_other hk
    have zM:M (pre,x,a') O1 Z:=by rw [←hZ];exact hM (pre,x,a') O1 W' _ (some (w.heap.size+1)) m (grownBy_putObj' _ _ _) (fun r e=>by cases e;exact⟨by omega,j4⟩)
    show Code.wpIn (F.inRound _) _ P body _ a' (W'.putObj (w.heap.size+1) (.loop (R .busy)))
    rw [hZ]
    have ks:=kp.size
    refine wpIn_mono (hbody _ pre O1 x a' Z zM (by omega) (fun k hk=>by have:=h1l k hk;omega)) ?_
    rintro e a2 Y hp2
    cases e with
    |normal=>
     obtain⟨O',kq,iy⟩:=hp2
     have y2:Y.heap[w.heap.size+1]? =some (.loop (R .busy)):=(kq.old _ (by omega) j4).trans zl
     have ly:=(Array.getElem?_eq_some_iff.1 y2).1
     have n1:¬O' (w.heap.size+1):=fun h=>by rcases kq.new _ h with h|h;exact j4 h;omega
     have n2:¬O' w.heap.size:=fun h=>by rcases kq.new _ h with h|h;exact j5 h;omega
     refine⟨_,_,run_endRound none y2,rfl,O',⟨put _ n1 iy,World.putObj_heap_same ly,(World.putObj_heap_other (by omega)).trans ((kq.old _ (by omega) j5).trans ((zo _ (by omega)).trans q3)),n1,n2⟩,?_,fun k hk ho=> ?_,fun k hk=> ?_,fun k hk=> ?_⟩
     ·have:=kq.size;simp;omega
     ·by_cases e:k=w.heap.size+1
      ·subst e
       rw [i2]
       exact World.putObj_heap_same ly
      ·exact(World.putObj_heap_other e).trans ((kq.old k (by omega) (fun h=>by rcases h1n k h with h|h;exact ho h;omega)).trans ((zo k e).trans (kp.block k hk (by simp))))
     ·rcases kq.new k hk with h|h
      ·rcases h1n k h with h|h
       ·exact .inl h
       ·exact .inr h
      ·exact .inr (by omega)
     ·have:=kq.lt k hk;simpa using this
    |_=>exact hp2.elim
   |_=>exact hp.elim)
  ⟨vI,vl,vd,fun h=>by have:=(hO _ h).1;omega,fun h=>by have:=(hO _ h).1;omega⟩
 refine round.mono ?_
 rintro e Y ⟨⟨v,rfl⟩,xs,O',hS,i1,i2,i3,i4,i5⟩
 exact⟨none,_,run_endLoop (P:=P) i2 (by simp [R]),hdone xs O' _ hS (put _ i4 i1) ((World.putObj_heap_other (by omega)).trans i3) i5⟩
end
open Go.RowKit
attribute [local go_sem] Oper.semAt_some
abbrev encNum (a:Int)(k:Nat):Array Value:=#[.int .i64 (a+k)]
def upTo (N:Nat)(pre:List Nat)(x:Nat):Prop:=pre=List.range x∧x<N
def two (b1 b2:Nat)(k:Nat):Prop:=k=b1∨k=b2
structure NuI (J:List Nat→(Nat→Prop)→World→Prop)(b1 b2:Nat)(a:Int)(N:Nat)(k:Nat)(O:Nat→Prop)(X:World):Prop where
 j:J (List.range k) O X
 o:∀i,O i→i<X.heap.size∧¬two b1 b2 i
 lt1:b1<X.heap.size
 lt2:b2<X.heap.size
 c1:X.cell? ⟨b1,0,none⟩=some (.int .i64 a)
 c2:X.cell? ⟨b2,0,none⟩=some (.int .i64 (a+N))
theorem NuI.back {J:List Nat→(Nat→Prop)→World→Prop}{b1 b2:Nat}{a:Int}{N k:Nat}{O O':Nat→Prop}{X Y:World}(h:NuI J b1 b2 a N k O X)(hj:J (List.range (k+1)) O' Y)(hk:KeepO O O' X Y):NuI J b1 b2 a N (k+1) O' Y:=by
 have n1:¬O b1:=fun e=>(h.o _ e).2 (.inl rfl)
 have n2:¬O b2:=fun e=>(h.o _ e).2 (.inr rfl)
 refine⟨hj,fun i hi=>⟨hk.lt i hi,?_⟩,Nat.lt_of_lt_of_le h.lt1 hk.size,Nat.lt_of_lt_of_le h.lt2 hk.size,(World.cell?_of_block (a:=⟨b1,0,none⟩) (hk.old _ h.lt1 n1)).trans h.c1,(World.cell?_of_block (a:=⟨b2,0,none⟩) (hk.old _ h.lt2 n2)).trans h.c2⟩
 rcases hk.new i hi with h'|h'
 ·exact(h.o i h').2
 ·rintro(rfl|rfl)
  ·have:=h.lt1;omega
  ·have:=h.lt2;omega
set_option maxRecDepth 100000 in
set_option maxHeartbeats 4000000 in
theorem numbers1_in (F:Fence)(n:Nat)(hF:F.fn 158)(hro:F.round=none)(hn:1≤n)(l b1 b2:Nat)(a:Int)(N:Nat)(ha: -9000000000000000000≤a)(hN:a+N≤9000000000000000000)
  (J:List Nat→(Nat→Prop)→World→Prop) (O:Nat→Prop) (W:World) (h0:NuI J b1 b2 a N 0 O W)
  (hY:∀ (pre:List Nat) (O:Nat→Prop) (x:Nat) (W1:World),J pre O W1→(∀k,O k→k<W1.heap.size)→upTo N pre x→YieldAt F (n - 1) Tryz.prog l (encNum a x) W1 fun e W'=>
   e= .returned (.bool true)∧∃O',J (pre++[x]) O' W'∧KeepO O O' W1 W'):
  CallsIn F n Tryz.prog 158 #[.func (.yield l) #[] #[],.pointer (some ⟨b1,0,none⟩),.pointer (some ⟨b2,0,none⟩)] W fun e W'=>(∃v,e= .returned v)∧∃O',J (List.range N) O' W':=by
 refine callsIn_of_wp Tryz.func158 rfl hF ?_ hro
 simp only [Tryz.ntmps158,List.size_toArray,List.length_cons,List.length_nil,Nat.reduceAdd,Nat.reduceSub,Array.replicate_succ,Array.replicate_zero,List.push_toArray,List.append_toArray,List.nil_append,List.cons_append]
 have H0:=Lib.hid h0
 obtain⟨_,_,l1,l2,c1,c2⟩:=h0
 gi_wp2
 gi_loopw [4] (fun i wr=>∃ (k:Nat) (O:Nat→Prop),k≤N∧i= .int .i64 (a+(k:Int))∧Hid (NuI J b1 b2 a N k O wr)) (fun i _=>(a+N - intOf i).toNat)
 case atStart=>exact⟨0,O,Nat.zero_le _,by simp,H0.out⟩
 case round=>
  obtain⟨k,O,hk,rfl,HI⟩:=hrel
  have g1:=HI.out.lt1
  have g2:=HI.out.lt2
  have e1:=HI.out.c1
  have e2:=HI.out.c2
  by_cases hlt:k<N
  ·have d1:decide (a+(k:Int)<a+(N:Int))=true:=decide_eq_true (by omega)
   have v1:IntKind.i64.wrap (a+(k:Int)+1)=a+(k:Int)+1:=IntWalk.i64_in _ (by omega)
   obtain⟨fn,tmps,assign,body,hy,hR⟩:=hY (List.range k) O k wr HI.out.j (fun i hi=>(HI.out.o i hi).1) ⟨rfl,hlt⟩
   simp only [encNum]at hy
   gi_wp2
   refine hR.mono ?_
   rintro e W3 ⟨rfl,O',hJ3,hK3⟩
   rw [←List.range_succ]at hJ3
   have HB:=Lib.hid (HI.out.back hJ3 hK3)
   clear hJ3 hK3 hR hy
   gi_wp2
   go_roundw
   case rel=>exact⟨k+1,O',by omega,by congr 1;omega,HB.out⟩
   case measure=>simp [intOf];omega
  ·obtain rfl:k=N:=by omega
   have d1:decide (a+(k:Int)<a+(k:Int))=false:=decide_eq_false (by omega)
   gi_wp2
   go_end0
   exact⟨⟨_,rfl⟩,_,HI.out.j⟩
theorem numbers_seq (F:Fence)(n:Nat)(hF:F.fn 158)(hro:F.round=none)(hn:1≤n)(b1 b2:Nat)(a:Int)(N:Nat)(ha: -9000000000000000000≤a)(hN:a+N≤9000000000000000000)
  (w:World) (h1:b1<w.heap.size) (h2:b2<w.heap.size) (c1:w.cell? ⟨b1,0,none⟩=some (.int .i64 a)) (c2:w.cell? ⟨b2,0,none⟩=some (.int .i64 (a+N))):
  SeqOwn F n Tryz.prog 158 #[.pointer (some ⟨b1,0,none⟩),.pointer (some ⟨b2,0,none⟩)] (encNum a) (two b1 b2) (fun xs=>xs=List.range N) (upTo N) w:=by
 intro l J O W hW hO hJ hY hI
 refine(numbers1_in F n hF hro hn l b1 b2 a N ha hN J O W ⟨hI,fun i hi=>⟨Nat.lt_of_lt_of_le (hO i hi).1 hW.size,(hO i hi).2⟩,Nat.lt_of_lt_of_le h1 hW.size,Nat.lt_of_lt_of_le h2 hW.size,(hW.cell (p:=⟨b1,0,none⟩) h1).trans c1,(hW.cell (p:=⟨b2,0,none⟩) h2).trans c2⟩ hY).mono ?_
 rintro e W' ⟨he,O',hj⟩
 exact⟨he,_,O',rfl,hj⟩
set_option maxHeartbeats 1000000 in
theorem numbers_in (F:Fence)(n:Nat)(h5:F.fn 113)(hro:F.round=none)(a b:Int)(w:World):
  CallsIn F n Tryz.prog 113 #[.int .i64 a,.int .i64 b] w fun e w'=>e= .returned (.func (.func 158) #[] #[.pointer (some ⟨w.heap.size,0,none⟩),.pointer (some ⟨w.heap.size+1,0,none⟩)])∧w'=(w.alloc (.cells #[.int .i64 a] 3)).alloc (.cells #[.int .i64 b] 3):=by
 refine callsIn_of_wp Tryz.func113 rfl h5 ?_ hro
 simp only [Tryz.ntmps113,List.size_toArray,List.length_cons,List.length_nil,Nat.reduceAdd,Nat.reduceSub,Array.replicate_succ,Array.replicate_zero,List.push_toArray,List.append_toArray,List.nil_append,List.cons_append]
 gi_wp2
 go_ret
 exact⟨by simp,rfl⟩
open Go.RowKit Go.BigFrame
section
variable {F:Fence}{n:Nat}{P:Program}{ops:Array Oper}{Q:Exit→Act→World→Prop}{md:Region.Mode}{C:World→Prop}
theorem uponIn_round (l:Nat)(o:Oper)(a:Act)(next:Act→World→Prop)(r:Result Next)(h:o.uponIn F n P a next Q r):o.uponIn (F.inRound l) n P a next Q r:=h
theorem wpIn_round (l:Nat){o:Oper}{a:Act}{w:World}{K:Act→World→Prop}(hro:F.round=none)(hnd:∀c,o.op≠ .defer c)(h:o.wpIn F n P a w K Q):o.wpIn (F.inRound l) n P a w K Q:=by
 obtain⟨h1,h2⟩:=h
 refine⟨h1,?_⟩
 rw [hro]at h2
 rw [Fence.inRound_round,Oper.semAt_some l _ _ hnd]
 exact uponIn_round l o a K _ h2
theorem any_inRound (l:Nat)(hro:F.round=none)(hnd:∀ (i:Nat) (o:Oper),ops[i]? =some o→∀c,o.op≠ .defer c):∀ (fuel:Nat) (listed:Array Bool) (a:Act) (w:World),wpAnyIn F n P md ops Q fuel listed a w→wpAnyIn (F.inRound l) n P md ops Q fuel listed a w
 |0,_,_,_,h=>h
 |fuel+1,listed,a,w,h=>by
  refine⟨h.1,fun i hi=> ?_⟩
  have hx:=h.2 i hi
  unfold wpOpIn at hx ⊢
  cases ho:ops[i]? with
  |none=>
   rw [ho]at hx
   exact any_inRound l hro hnd fuel _ _ _ hx
  |some o=>
   rw [ho]at hx
   dsimp only at hx ⊢
   split at hx
   ·rename_i hw
    rw [if_pos hw]
    exact wpIn_round l hro (hnd i o ho) (Oper.wpIn_mono (fun a w h=>any_inRound l hro hnd fuel _ a w h) hx)
   ·rename_i hw
    rw [if_neg hw]
    exact⟨hx.1,any_inRound l hro hnd fuel _ _ _ hx.2⟩
theorem no_defer {L:List Oper}(hd:L.all (fun o=>match o.op with| .defer _=>false|_=>true)=true):∀ (i:Nat) (o:Oper),L.toArray[i]? =some o→∀c,o.op≠ .defer c:=by
 intro i o ho c hc
 have hm:o∈L:=by
  have:L[i]? =some o:=by simpa using ho
  exact List.mem_of_getElem? this
 have:=List.all_eq_true.1 hd o hm
 rw [hc]at this
 cases this
theorem region_round (C:World→Prop)(l:Nat){id:Nat}{L:List Oper}{a:Act}{w:World}(hro:F.round=none)(hm:P.follows .mixedOrders=true)(hB:Region.lexB .any L.toArray=true)(hd:L.all (fun o=>match o.op with| .defer _=>false|_=>true)=true)(hC:C w.drew)
  (h:wpQuietIn F n P L.toArray C (fun a'=>∀w',C w'→Q .normal a' w') L a):(Code.region id L.toArray true).wpIn (F.inRound l) n P Q a w:=by
 have hB':=hB
 simp only [Region.lexB,Bool.and_eq_true]at hB
 refine wpIn_region_any hm (any_inRound l hro ?_ _ _ _ _ (wpAnyIn_of_quiet (Q:=fun a'=>∀w',C w'→Q .normal a' w') hro (fun _ w' hw' h=>h w' hw') _ _ _ _ hC ?_))
 ·intro i o ho c hc
  have hm:o∈L:=by
   have:L[i]? =some o:=by simpa using ho
   exact List.mem_of_getElem? this
  have:=List.all_eq_true.1 hd o hm
  rw [hc]at this
  cases this
 ·have:=wpAnyQIn_lex (F:=F) (n:=n) (C:=C) (md:= .any) hB.1 L 0 (Array.replicate L.length false) a (by simp) (by simpa using hB.2) h
  simpa using this
end
section
variable {F:Fence}{n:Nat}{P:Program}{ops:Array Oper}{C:World→Prop}{Q:Act→Prop}{a:Act}{o:Oper}{rest:List Oper}
theorem qi_val {v:Value}(hn:∀c,o.op≠ .call c)(hw:Region.wanted o (yielded ops a.tmps)=true)(hr:∀w,C w→(execOp a.eval o).run P w= .ok (.value v) w)(h:wpQuietIn F n P ops C Q rest (a.put o.dst v)):wpQuietIn F n P ops C Q (o::rest) a:=by
 refine⟨askedIn_plain hn,?_⟩
 rw [if_pos hw]
 exact⟨v,fun w hC=>by unfold Oper.quietAtIn;rw [hr w hC];exact⟨rfl,rfl⟩,h⟩
theorem qi_call {v:Value}{f:FuncId}{args:Array Value}(ha:o.askedIn F P a C)(hw:Region.wanted o (yielded ops a.tmps)=true)(hr:∀w,C w→(execOp a.eval o).run P w= .ok (.enter f args) w)(hd:F.depth.isSome=true→1≤n)(hc:∀w,C w→CallsIn F (n - 1) P f args w fun e w'=>e= .returned v∧C w')
  (h:wpQuietIn F n P ops C Q rest (a.put o.dst v)):wpQuietIn F n P ops C Q (o::rest) a:=by
 refine⟨ha,?_⟩
 rw [if_pos hw]
 exact⟨v,fun w hC=>by unfold Oper.quietAtIn;rw [hr w hC];exact⟨rfl,hd,hc w hC⟩,h⟩
end
open Go.RowKit Go.BigFrame
attribute [local go_sem] Oper.semAt_some
theorem region_round_lit {F:Fence}{n:Nat}{P:Program}{L:List Oper}{Q:Exit→Act→World→Prop}(l:Nat){id:Nat}{a:Act}{w:World}(hro:F.round=none)(hm:P.follows .mixedOrders=true)(hB:Region.lexB .any L.toArray=true)(hd:L.all (fun o=>match o.op with| .defer _=>false|_=>true)=true)
  (h:wpQuietIn F n P L.toArray (fun w'=>∃m,w'=w.drewN m) (fun a'=>∀w',(∃m,w'=w.drewN m)→Q .normal a' w') L a):(Code.region id L.toArray true).wpIn (F.inRound l) n P Q a w:=
 region_round _ l hro hm hB hd ⟨1,rfl⟩ h
section
variable {lo m:Int}{P:List (Pc Int)}{g:Int→Int}
theorem tile_next (h:Tile lo m P){a:Nat}{x y:Pc Int}(hx:P[a]? =some x)(hy:P[a+1]? =some y):y.f=x.t+1:=by
 obtain⟨h1,_,_⟩:=tile_at h hy
 obtain⟨_,_,h2⟩:=tile_at h hx
 exact tile_uniq h1 h2
theorem tile_last (h:Tile lo m P){a:Nat}{x:Pc Int}(hx:P[a]? =some x)(ha:P.length≤a+1):x.t+1=m:=by
 obtain⟨_,_,h2⟩:=tile_at h hx
 rw [List.take_of_length_le ha]at h2
 exact tile_uniq h2 h
theorem tile_first (h:Tile lo m P){x:Pc Int}(hx:P[0]? =some x):x.f=lo:=by
 cases P with
 |nil=>cases hx
 |cons p P=>simp at hx;subst hx;exact h.1
def bval (g:Int→Int)(m first:Int)(i:Nat):Int:=g (min (first+i) (m - 1))
theorem bval_is (h:Tile lo m P)(hV:Vals g P){a i:Nat}{x:Pc Int}{first:Int}(hx:P[a]? =some x)(h1:x.f≤first+i)(h2:first+i≤x.t∨P.length≤a+1):bval g m first i=x.v:=by
 have hb:=tile_bd h (List.mem_of_getElem? hx)
 have hv:=hV x (List.mem_of_getElem? hx)
 unfold bval
 rcases h2 with h2|h2
 ·exact hv _ (by omega) (by omega)
 ·have:=tile_last h hx h2
  exact hv _ (by omega) (by omega)
def outC (g:Int→Int)(m first:Int)(k:Nat):List Value:=(List.range 128).map fun i=> .int .i64 (if i<k then bval g m first i else 0)
theorem outC_len (g:Int→Int)(m first:Int)(k:Nat):(outC g m first k).length=128:=by simp [outC]
theorem outC_set (g:Int→Int)(m first:Int)(k:Nat)(hk:k<128):(outC g m first k).set k (.int .i64 (bval g m first k))=outC g m first (k+1):=by
 apply List.ext_getElem
 ·simp [outC]
 ·intro i h1 h2
  simp only [outC,List.getElem_set,List.getElem_map,List.getElem_range]
  by_cases e:k=i
  ·subst e;rw [if_pos rfl,if_pos (Nat.lt_succ_self _)]
  ·rw [if_neg e]
   by_cases h:i<k
   ·rw [if_pos h,if_pos (by omega)]
   ·rw [if_neg h,if_neg (by omega)]
theorem outC_zero (g:Int→Int)(m first:Int):(outC g m first 0).toArray= Tryz.zeroCells203:=by
 unfold outC
 simp only [Nat.not_lt_zero,if_false]
 rfl
def blk (g:Int→Int)(m first:Int):List Int:=(List.range 128).map (bval g m first)
theorem outC_all (g:Int→Int)(m first:Int):outC g m first 128=(blk g m first).map (.int .i64):=by
 unfold outC blk
 rw [List.map_map]
 apply List.map_congr_left
 intro i hi
 rw [if_pos (List.mem_range.1 hi)]
 rfl
end
theorem grow_set (w:World)(g j:Nat)(u:Value):w.grownBy (w.setCell ⟨g,j,none⟩ u) (some g):=
 ⟨rfl,rfl,rfl,by simp,fun k _ hne=>Below.heap_setCell _ _ _ _ (by intro e;exact hne (by rw [e]))⟩
theorem Blk.same {w w':World}{b:Nat}{cs:Array Value}(h:Blk w b cs)(e:w'.heap[b]? =w.heap[b]?)(hs:w.heap.size≤w'.heap.size):Blk w' b cs:=
 ⟨Nat.lt_of_lt_of_le h.1 hs,fun j=>(World.cell?_of_block (a:=⟨b,j,none⟩) e).trans (h.2.1 j),fun j=>(World.frozen?_of_block (a:=⟨b,j,none⟩) e).trans (h.2.2 j)⟩
structure BlI (w:World)(A:Option Addr)(nn c:Nat)(first:Int)(j:Nat)(cs:List Value)(W:World):Prop where
 pcs:Boxed W w.heap.size 132 (.slice A nn c)
 fst:Boxed W (w.heap.size+1) 3 (.int .i64 first)
 res:Blk W (w.heap.size+1+1) Tryz.zeroCells203
 out:Blk W (w.heap.size+1+1+1) cs.toArray
 at_:Boxed W (w.heap.size+1+1+1+1) 3 (.int .i64 j)
 be:Below w.heap.size w W
section
variable {w W W':World}{A:Option Addr}{nn c:Nat}{first:Int}{j:Nat}{cs:List Value}
theorem BlI.grown (h:BlI w A nn c first j cs W){row:Option Nat}(hg:W.grownBy W' row)(hr:∀r,row=some r→w.heap.size+1+1+1+1<r):BlI w A nn c first j cs W':=by
 have n:∀k,k≤w.heap.size+1+1+1+1→some k≠row:=fun k hk e=>by have:=hr k e.symm;omega
 exact⟨Boxed.kept h.pcs hg (n _ (by omega)),Boxed.kept h.fst hg (n _ (by omega)),Blk.same h.res (hg.block _ h.res.1 (n _ (by omega))) hg.size,Blk.same h.out (hg.block _ h.out.1 (n _ (by omega))) hg.size,Boxed.kept h.at_ hg (n _ (by omega)),h.be.grown hg h.be.size (fun k e=>by have:=hr k e;omega)⟩
theorem BlI.drewN (h:BlI w A nn c first j cs W)(m:Nat):BlI w A nn c first j cs (W.drewN m):=
 h.grown (row:=none) ⟨rfl,rfl,rfl,Nat.le_refl _,fun _ _ _=>rfl⟩ (fun r e=>by cases e)
theorem BlI.next (h:BlI w A nn c first j cs W)(i:Nat):BlI w A nn c first i cs (W.setCell ⟨w.heap.size+1+1+1+1,0,none⟩ (.int .i64 i)):=
 ⟨Boxed.other h.pcs (by omega) _,Boxed.other h.fst (by omega) _,Blk.far h.res (by show w.heap.size+1+1+1+1≠_;omega) _,Blk.far h.out (by show w.heap.size+1+1+1+1≠_;omega) _,Boxed.set _ h.at_,h.be.setCell (p:=⟨w.heap.size+1+1+1+1,0,none⟩) (by simp;omega) _⟩
theorem BlI.put (h:BlI w A nn c first j cs W)(i:Nat)(hi:i<cs.length)(v:Value):BlI w A nn c first j (cs.set i v) (W.setCell ⟨w.heap.size+1+1+1,i,none⟩ v):=by
 have hg:=grow_set W (w.heap.size+1+1+1) i v
 have hs:=Blk.set_ h.out i (by simpa using hi) v
 exact⟨Boxed.kept h.pcs hg (by simp;omega),Boxed.kept h.fst hg (by simp),Blk.same h.res (hg.block _ h.res.1 (by simp)) hg.size,by simpa using hs,Boxed.kept h.at_ hg (by simp),h.be.setCell (p:=⟨w.heap.size+1+1+1,i,none⟩) (by simp;omega) _⟩
end
open Go.RowKit Go.BigFrame
attribute [local go_sem] Oper.semAt_some
theorem opIn_load_mid {F:Fence}{m:Nat}{P:Program}{o:Oper}{a:Act}{w:World}{K:Act→World→Prop}{Q:Exit→Act→World→Prop}(ty:TypeId)(x:Operand)(ho:o.op= .load ty x)
  (b off:Nat) (hx:a.eval x= .pointer (some ⟨b,off,none⟩)) (cs:List Value) (d:TypeDesc) (hc:w.rangeAt b off cs)
  (hu:P.underlying ty=some d) (hd:d.isRow=true) (hi:(P.info? ty).map (·.size)=some cs.length)
  (h:K (a.put o.dst (.agg cs.toArray)) w):Oper.wpIn F m P o a w K Q:=by
 unfold Oper.wpIn
 refine⟨by simp [Oper.about,ho],?_⟩
 rw [Oper.semAt_plain F _ _ (by rw [ho];intro c hc';cases hc')]
 simp only [execOp,ho,hx,run_loadAt_mid w b off ty cs d hc hu hd hi,Sem.run_bind,Sem.run_pure,Result.andThen_ok]
 exact h
theorem opIn_store_mid {F:Fence}{m:Nat}{P:Program}{o:Oper}{a:Act}{w:World}{K:Act→World→Prop}{Q:Exit→Act→World→Prop}(ty:TypeId)(x y:Operand)(ho:o.op= .store ty x y)
  (b off:Nat) (cells:Array Value) (hx:a.eval x= .pointer (some ⟨b,off,none⟩)) (hy:a.eval y= .agg cells)
  (ht:w.there b off cells.size) (hi:(P.info? ty).map (·.size)=some cells.size) (h1:cells.all (·.oneCell')=true)
  (h:K (a.put o.dst undef) (w.setCells b off cells.toList)):Oper.wpIn F m P o a w K Q:=by
 unfold Oper.wpIn
 refine⟨by simp [Oper.about,ho],?_⟩
 rw [Oper.semAt_plain F _ _ (by rw [ho];intro c hc';cases hc')]
 simp only [execOp,ho,hx,hy,run_storeAt_mid w b off ty cells ht hi h1,Sem.run_bind,Sem.run_pure,Result.andThen_ok]
 exact h
theorem outC_one (g:Int→Int)(m first:Int)(k:Nat):∀v∈outC g m first k,v.oneCell'=true:=by
 intro v hv
 unfold outC at hv
 obtain⟨i,_,rfl⟩:=List.mem_map.1 hv
 rfl
theorem grow_setCells (b:Nat):∀ (vs:List Value) (o:Nat) (w:World),w.grownBy (w.setCells b o vs) (some b)
 |[],o,w=>World.grownBy.refl _ _
 |v::r,o,w=>by
  rw [World.setCells]
  exact(grow_set w b o v).trans (grow_setCells b r (o+1) _)
theorem results_cell_mid {P:Program}{fn:Func}{p:Tmp}{ty:TypeId}(h:fn.results=#[.cell p ty])(tmps:Array Value)(w:World)(b o:Nat)(hp:tmps.getD p undef= .pointer (some ⟨b,o,none⟩))(cs:List Value)(d:TypeDesc)(hc:w.rangeAt b o cs)
  (hu:P.underlying ty=some d) (hd:d.isRow=true) (hi:(P.info? ty).map (·.size)=some cs.length):(results fn tmps).run P w= .ok (.agg cs.toArray) w:=by
 have hp':tmps[p]?.getD undef= .pointer (some ⟨b,o,none⟩):=by simpa using hp
 simp [results,h,hp',asAddr,run_loadVar_mid w b o ty cs d hc hu hd hi]
def atOf (w:World)(b:Nat):Nat:=(intOf ((w.cell? ⟨b,0,none⟩).getD undef)).toNat
def TellsB (g:Int→Int)(m first:Int)(w:World)(e:Ending)(w':World):Prop:=e= .returned (.agg ((blk g m first).map (.int .i64)).toArray)∧Below w.heap.size w w'
def BkI (w:World)(A:Option Addr)(c:Nat)(P:List (Pc Int))(g:Int→Int)(m first:Int)(pre:List Nat)(O:Nat→Prop)(W:World):Prop:=
 (∀k,O k↔(k=w.heap.size+1+1+1∨k=w.heap.size+1+1+1+1))∧∃j x,P[j]? =some x∧x.f≤first+pre.length∧BlI w A P.length c first j (outC g m first pre.length) W
def BkM (w:World)(A:Option Addr)(c:Nat)(P:List (Pc Int))(g:Int→Int)(m first:Int)(act:Nat→Act)(x:List Nat × Nat × Act)(O:Nat→Prop)(W:World):Prop:=
 BkI w A c P g m first x.1 O W∧upTo 128 x.1 x.2.1∧x.2.2=act x.2.1
theorem BkI.bears {w:World}{A:Option Addr}{c:Nat}{P:List (Pc Int)}{g:Int→Int}{m first:Int}{b:Nat}(hb:w.heap.size+1+1+1+1<b):BearsO (BkI w A c P g m first) b:=by
 rintro pre O A' B row ⟨h1,j,x,h2,h3,h4⟩ hg hr
 exact⟨h1,j,x,h2,h3,h4.grown hg fun r e=>by have:=(hr r e).1;omega⟩
theorem BkM.bears {w:World}{A:Option Addr}{c:Nat}{P:List (Pc Int)}{g:Int→Int}{m first:Int}{act:Nat→Act}{b:Nat}(hb:w.heap.size+1+1+1+1<b):BearsO (BkM w A c P g m first act) b:=by
 rintro⟨pre,x,a'⟩ O A' B row ⟨h,h2,h3⟩ hg hr
 exact⟨BkI.bears hb _ _ _ _ _ h hg hr,h2,h3⟩
theorem blk_round {w W wr:World}{A:Option Addr}{c j x:Nat}{P:List (Pc Int)}{g:Int→Int}{lo m first:Int}{y:Pc Int}{O:Nat→Prop}(hT:Tile lo m P)
  (hI:P[j]? =some y∧BlI w A P.length c first j (outC g m first x) wr∧wr.heap.size=W.heap.size∧∀k,k≠w.heap.size+1+1+1+1→wr.heap[k]? =W.heap[k]?) (hyf:y.f≤first+x)
  (hO:∀k,O k↔(k=w.heap.size+1+1+1∨k=w.heap.size+1+1+1+1)) (hs:wr.heap.size=W.heap.size) (hv:bval g m first x=y.v) (hx:x<128) (hlt:∀k,O k→k<W.heap.size) (nq:Nat):
  ∃O',KeepO O O' W ((wr.drewN nq).setCell ⟨w.heap.size+1+1+1,x,none⟩ (.int .i64 y.v))∧BkI w A c P g m first (List.range x++[x]) O' ((wr.drewN nq).setCell ⟨w.heap.size+1+1+1,x,none⟩ (.int .i64 y.v)):=by
 obtain⟨h1,h2,_,h4⟩:=hI
 refine⟨O,⟨by simp [hs],fun k hk ho=> ?_,fun k hk=> .inl hk,fun k hk=>by have:=hlt k hk;simp;omega⟩,hO,j,y,h1,by simp;omega,?_⟩
 ·have n1:k≠w.heap.size+1+1+1:=fun e=>ho ((hO k).2 (.inl e))
  have n2:k≠w.heap.size+1+1+1+1:=fun e=>ho ((hO k).2 (.inr e))
  exact(Below.heap_setCell _ _ _ _ n1).trans (h4 k n2)
 ·have:=(h2.drewN nq).put x (by rw [outC_len];exact hx) (.int .i64 (bval g m first x))
  rw [outC_set _ _ _ _ hx,hv]at this
  rw [←List.range_succ,List.length_range]
  exact this
set_option maxRecDepth 100000 in
set_option maxHeartbeats 4000000 in
theorem block_in (A : Option Addr) (c : Nat) (P : List (Pc Int)) (g : Int → Int) (lo m first : Int) (w : World) (hLi : Li 3 encP w (fun _ => True) A P) (hT : Tile lo m P) (hV : Vals g P) (hne : 0 < P.length) (hlen : P.length ≤ 100000) (hcl : P.length ≤ c) (hf0 : 0 ≤ first) (hf : lo ≤ first) (hm : first < m) (hm2 : m ≤ 10000000) :
    CallsIn Fence.wide 5 Tryz.prog 145 #[.slice A P.length c, .int .i64 first] w (TellsB g m first w) := by
  have hro : Fence.wide.round = none := rfl
  have h1 : 1 ≤ 5 := by omega
  obtain ⟨p0, b, o, hp0, rfl, hb, _⟩ := hLi.piece hne
  have HL := Lib.hid hLi
  have HP0 := Lib.hid hp0
  have HT := Lib.hid (And.intro hT hV)
  clear hLi hp0 hT hV
  refine callsIn_of_wp_marks Tryz.func145 rfl trivial ?_ hro
  simp only [Tryz.ntmps145, List.size_toArray, List.length_cons, List.length_nil, Nat.reduceAdd, Nat.reduceSub, Array.replicate_succ, Array.replicate_zero, List.push_toArray, List.append_toArray, List.nil_append, List.cons_append]
  gi_wp2_with fail
  refine ⟨trivial, ?_⟩
  refine (numbers_in Fence.wide 4 trivial hro _ _ _).mono ?_
  rintro e w' ⟨rfl, rfl⟩
  have q0 := Boxed.new w 132 (.slice (some ⟨b, o, none⟩) P.length c)
  have q1 := Boxed.new (w.alloc (.cells #[.slice (some ⟨b, o, none⟩) P.length c] 132)) 3 (.int .i64 first)
  have q2 := blk_new ((w.alloc (.cells #[.slice (some ⟨b, o, none⟩) P.length c] 132)).alloc (.cells #[.int .i64 first] 3)) Tryz.zeroCells203 203
  have q3 := blk_new (((w.alloc (.cells #[.slice (some ⟨b, o, none⟩) P.length c] 132)).alloc (.cells #[.int .i64 first] 3)).alloc (.cells Tryz.zeroCells203 203)) Tryz.zeroCells203 203
  have q4 := Boxed.new ((((w.alloc (.cells #[.slice (some ⟨b, o, none⟩) P.length c] 132)).alloc (.cells #[.int .i64 first] 3)).alloc (.cells Tryz.zeroCells203 203)).alloc (.cells Tryz.zeroCells203 203)) 3 (.int .i64 0)
  simp only [World.size_alloc] at q1 q2 q3 q4 ⊢
  obtain ⟨Y, hY⟩ : ∃ Y, (((((w.alloc (.cells #[.slice (some ⟨b, o, none⟩) P.length c] 132)).alloc (.cells #[.int .i64 first] 3)).alloc (.cells Tryz.zeroCells203 203)).alloc (.cells Tryz.zeroCells203 203)).alloc (.cells #[.int .i64 0] 3)) = Y := ⟨_, rfl⟩
  have hYs : Y.heap.size = w.heap.size + 1 + 1 + 1 + 1 + 1 := by rw [← hY]; simp
  have hYI : BlI w (some ⟨b, o, none⟩) P.length c first (0 : Nat) (outC g m first 0) Y := by
    rw [← hY]
    exact ⟨(((q0.alloc _).alloc _).alloc _).alloc _, ((q1.alloc _).alloc _).alloc _, (q2.alloc _).alloc _, by rw [outC_zero]; exact q3.alloc _, q4, belPush (belPush (belPush (belPush (belAlloc _ _) _) _) _) _⟩
  clear q0 q1 q2 q3 q4
  rw [hY]
  clear hY
  obtain ⟨X, hX⟩ : ∃ X, (Y.alloc (.cells #[.int .i64 0] 3)).alloc (.cells #[.int .i64 128] 3) = X := ⟨_, rfl⟩
  have hXs : X.heap.size = w.heap.size + 1 + 1 + 1 + 1 + 1 + 1 + 1 := by rw [← hX]; simp [hYs]
  have hXg : Y.grownBy X none := by rw [← hX]; exact (World.grownBy_alloc _ _ _).trans (World.grownBy_alloc _ _ _)
  have c1 : X.cell? ⟨w.heap.size + 1 + 1 + 1 + 1 + 1, 0, none⟩ = some (.int .i64 0) := by
    have := (Boxed.new Y 3 (.int .i64 0)).alloc (.cells #[.int .i64 128] 3)
    rw [hX, hYs] at this
    exact this.cell
  have c2 : X.cell? ⟨w.heap.size + 1 + 1 + 1 + 1 + 1 + 1, 0, none⟩ = some (.int .i64 128) := by
    have := Boxed.new (Y.alloc (.cells #[.int .i64 0] 3)) 3 (.int .i64 128)
    rw [hX, World.size_alloc, hYs] at this
    exact this.cell
  have hXI := hYI.grown hXg (fun r e => by cases e)
  rw [hX]
  clear hX hXg hYI hYs
  have HX := Lib.hid hXI
  have hbe := hXI.be.size
  clear hXI
  gi_wp2_with fail
  refine wpIn_rangeBox hro h1 (gf := 158) (lb := #[.pointer (some ⟨w.heap.size + 1 + 1 + 1 + 1 + 1, 0, none⟩), .pointer (some ⟨w.heap.size + 1 + 1 + 1 + 1 + 1 + 1, 0, none⟩)]) rfl trivial (enters_of Tryz.func158 (by kernel_rfl) rfl)
    (numbers_seq Fence.wide (5 - 1) trivial hro (by omega) (w.heap.size + 1 + 1 + 1 + 1 + 1) (w.heap.size + 1 + 1 + 1 + 1 + 1 + 1) 0 128 (by omega) (by omega) X (by omega) (by omega) c1 c2) (fun _ => rfl)
    (fun k => k = w.heap.size + 1 + 1 + 1 ∨ k = w.heap.size + 1 + 1 + 1 + 1) ?hO (BkI w (some ⟨b, o, none⟩) c P g m first) (BkM w (some ⟨b, o, none⟩) c P g m first fun x => { tmps := #[.slice (some ⟨b, o, none⟩) P.length c, .int .i64 first,
      .pointer (some ⟨w.heap.size, 0, none⟩), .pointer (some ⟨w.heap.size + 1, 0, none⟩), .pointer (some ⟨w.heap.size + 1 + 1, 0, none⟩), .pointer (some ⟨w.heap.size + 1 + 1 + 1, 0, none⟩), .pointer (some ⟨w.heap.size + 1 + 1 + 1 + 1, 0, none⟩), .int .i64 (x : Int),
      .func (.func 158) #[] #[.pointer (some ⟨w.heap.size + 1 + 1 + 1 + 1 + 1, 0, none⟩), .pointer (some ⟨w.heap.size + 1 + 1 + 1 + 1 + 1 + 1, 0, none⟩)], .int .i64 (x : Int),
      undef, undef, undef, undef, undef, undef, undef, undef, undef, undef, undef, undef, undef, undef, undef, undef, undef, undef, undef, undef, undef, undef, undef, undef, undef, undef], defers := [] })
    (BkI.bears (by omega)) (BkM.bears (by omega)) ?start ?assign ?body ?done
  case hO =>
    rintro k (rfl | rfl)
    · exact ⟨by omega, by rintro (h | h) <;> omega⟩
    · exact ⟨by omega, by rintro (h | h) <;> omega⟩
  case start => exact ⟨fun _ => Iff.rfl, 0, p0, HP0.out, by have := tile_first HT.out.1 HP0.out; simp; omega, HX.out⟩
  case assign =>
    rintro l pre O x W hI hO hN
    simp only [encNum, Int.zero_add]
    gi_wp2
    exact ⟨World.grownBy.refl _ _, O, fun k h => .inl h, hO, hI, hN, rfl⟩
  case body =>
    rintro l pre O x a' W ⟨⟨hO, j, y, hy, hyf, hI⟩, ⟨hpre, hx⟩, hact⟩ hWs hlt
    dsimp only at hI hpre hx hact hyf
    subst hact
    subst hpre
    rw [List.length_range] at hyf hI
    have HI0 := Lib.hid hI
    have HO := Lib.hid hO
    have HY := Lib.hid hy
    clear hI hO hy
    have hx2 : (x : Int) < 128 := by omega
    have hx3 : (0 : Int) ≤ (x : Int) := by omega
    gi_wp2_with fail
    gi_loopw [] (fun wr => ∃ j y, Hid (P[j]? = some y ∧ BlI w (some ⟨b, o, none⟩) P.length c first j (outC g m first x) wr ∧ wr.heap.size = W.heap.size ∧ ∀ k, k ≠ w.heap.size + 1 + 1 + 1 + 1 → wr.heap[k]? = W.heap[k]?) ∧ y.f ≤ first + x) (fun wr => P.length - atOf wr (w.heap.size + 1 + 1 + 1 + 1))
    case atStart => exact ⟨j, y, Lib.hid ⟨HY.out, HI0.out, rfl, fun _ _ => rfl⟩, hyf⟩
    case round =>
      clear hyf HI0 HY
      obtain ⟨j, y, HI, hyf⟩ := hrel
      have hj : j < P.length := (List.getElem?_eq_some_iff.1 HI.out.1).1
      have hsz := HI.out.2.2.1
      have e0 := Boxed.cell HI.out.2.1.pcs
      have e1 := Boxed.cell HI.out.2.1.fst
      have e4 := Boxed.cell HI.out.2.1.at_
      have f4 := Boxed.frozen HI.out.2.1.at_
      obtain ⟨y', b', o', hy', e, _, _, c0, c1', c2'⟩ := (HL.out.later HI.out.2.1.be).piece hj
      injection e with e
      injection e with e e'
      subst e; subst e'
      obtain rfl : y' = y := Option.some.inj (hy'.symm.trans HI.out.1)
      clear hy' c0
      have hat : atOf wr (w.heap.size + 1 + 1 + 1 + 1) = j := by unfold atOf; rw [e4]; rfl
      have hb2 : b < wr.heap.size := Nat.lt_of_lt_of_le hb HI.out.2.1.be.size
      have hbd := tile_bd HT.out.1 (List.mem_of_getElem? HI.out.1)
      have i0 : (0 : Int) ≤ (j : Int) := by omega
      have i1 : (j : Int) < (P.length : Int) := by omega
      have i2 : (j : Int) + 1 ≤ 100001 := by omega
      have i3 : first + (x : Int) ≤ 10000128 := by omega
      have i4 : 0 ≤ first + (x : Int) := by omega
      have v1 : IntKind.i64.wrap (first + (x : Int)) = first + (x : Int) := IntWalk.i64_in _ (by omega)
      have v2 : IntKind.i64.wrap ((j : Int) + 1) = (j : Int) + 1 := IntWalk.i64_in _ (by omega)
      by_cases hgt : y'.t < first + (x : Int)
      · have d1 : decide (y'.t < first + (x : Int)) = true := decide_eq_true hgt
        by_cases hmore : j + 1 < P.length
        · have d2 : decide ((j : Int) + 1 < (P.length : Int)) = true := decide_eq_true (by omega)
          gi_upto_region 5 with fail
          refine region_round_lit l rfl (by kernel_rfl) (by kernel_rfl) (by kernel_rfl) ?_
          repeat (gi_big_quiet_step (fail))
          refine wpQuietIn_nil ?_
          rintro _ ⟨nq, rfl⟩
          gi_wp2_with fail
          go_roundw
          case rel =>
            have hnx : P[j + 1]? = some P[j + 1] := List.getElem?_eq_getElem hmore
            have hn2 := tile_next HT.out.1 HI.out.1 hnx
            refine ⟨j + 1, _, Lib.hid ⟨hnx, (HI.out.2.1.drewN nq).next (j + 1), by simpa using hsz, fun k hk => (Below.heap_setCell _ _ _ _ hk).trans (HI.out.2.2.2 k hk)⟩, by omega⟩
          case measure =>
            rw [hat]
            have := Boxed.cell ((HI.out.2.1.drewN nq).next (j + 1)).at_
            have h2 : atOf ((wr.drewN nq).setCell ⟨w.heap.size + 1 + 1 + 1 + 1, 0, none⟩ (.int .i64 ((j + 1 : Nat) : Int))) (w.heap.size + 1 + 1 + 1 + 1) = j + 1 := by unfold atOf; rw [this]; rfl
            first | (rw [h2]; omega) | (have h3 := h2; push_cast at h3; rw [h3]; omega)
        · have d2 : decide ((j : Int) + 1 < (P.length : Int)) = false := decide_eq_false (by omega)
          have hy0 := outC_len g m first x
          have o3 : wr.cell? ⟨w.heap.size + 1 + 1 + 1, x, none⟩ = some (.int .i64 0) := by
            rw [HI.out.2.1.out.2.1 x]
            simp [outC, hx]
          have f3 := HI.out.2.1.out.2.2 x
          have HV := Lib.hid (bval_is HT.out.1 HT.out.2 HI.out.1 hyf (.inr (by omega)))
          gi_upto_region 5 with fail
          refine region_round_lit l rfl (by kernel_rfl) (by kernel_rfl) (by kernel_rfl) ?_
          repeat (gi_big_quiet_step (fail))
          refine wpQuietIn_nil ?_
          rintro _ ⟨nq, rfl⟩
          gi_wp2_with fail
          exact blk_round HT.out.1 HI.out hyf HO.out hsz HV.out hx (fun k hk => hlt k hk) nq
      · have d1 : decide (y'.t < first + (x : Int)) = false := decide_eq_false hgt
        have hy0 := outC_len g m first x
        have o3 : wr.cell? ⟨w.heap.size + 1 + 1 + 1, x, none⟩ = some (.int .i64 0) := by
          rw [HI.out.2.1.out.2.1 x]
          simp [outC, hx]
        have f3 := HI.out.2.1.out.2.2 x
        have HV := Lib.hid (bval_is HT.out.1 HT.out.2 HI.out.1 hyf (.inl (by omega)))
        gi_upto_region 5 with fail
        refine region_round_lit l rfl (by kernel_rfl) (by kernel_rfl) (by kernel_rfl) ?_
        repeat (gi_big_quiet_step (fail))
        refine wpQuietIn_nil ?_
        rintro _ ⟨nq, rfl⟩
        gi_wp2_with fail
        exact blk_round HT.out.1 HI.out hyf HO.out hsz HV.out hx (fun k hk => hlt k hk) nq
  case done =>
    rintro xs O W rfl ⟨hO, j, y, _, _, hI⟩ hK hn
    gi_upto_region 8 with fail
    have hlen128 := outC_len g m first 128
    rw [List.length_range] at hI
    have r3 : W.rangeAt (w.heap.size + 1 + 1 + 1) 0 (outC g m first 128) := fun i v hv => by
      rw [Nat.zero_add, hI.out.2.1 i]
      simpa using hv
    apply wpIn_region_lit
    refine wpListIn_plain rfl fun K2 hK2 => ?_
    refine opIn_load_mid 203 (Operand.tmp 5) rfl (w.heap.size + 1 + 1 + 1) 0 rfl (outC g m first 128) _ r3 Tryz.underlying203 rfl (by rw [hlen128]; kernel_rfl) ?_
    refine hK2 _ _ ?_
    clear hK2 K2
    refine wpListIn_plain rfl fun K2 hK2 => ?_
    refine opIn_store_mid 203 (Operand.tmp 4) (Operand.tmp 35) rfl (w.heap.size + 1 + 1) 0 (outC g m first 128).toArray rfl rfl ?there (by rw [List.size_toArray, hlen128]; kernel_rfl) ?one ?_
    case there =>
      intro i hi
      rw [List.size_toArray, hlen128] at hi
      rw [Nat.zero_add]
      exact ⟨by rw [hI.res.2.1 i, Array.getElem?_eq_getElem (by have : (Tryz.zeroCells203).size = 128 := by kernel_rfl
                                                                omega)]; rfl, hI.res.2.2 i⟩
    case one => exact all_oneCell_toArray (outC_one g m first 128)
    refine hK2 _ _ ?_
    clear hK2 K2
    apply wpListIn_nil
    have hth : W.there (w.heap.size + 1 + 1) 0 (outC g m first 128).length := by
      intro i hi
      rw [hlen128] at hi
      rw [Nat.zero_add]
      exact ⟨by rw [hI.res.2.1 i, Array.getElem?_eq_getElem (by have : (Tryz.zeroCells203).size = 128 := by kernel_rfl
                                                                omega)]; rfl, hI.res.2.2 i⟩
    have r4 := W.rangeAt_setCells_same (w.heap.size + 1 + 1) 0 (outC g m first 128) hth
    have hg4 := grow_setCells (w.heap.size + 1 + 1) (outC g m first 128) 0 W
    have hK4 := (hg4.block X.heap.size (Array.getElem?_eq_some_iff.1 hK).1 (by intro e; injection e with e; omega)).trans hK
    have hb4 := hI.be.grown hg4 hI.be.size (fun k e => by cases e; omega)
    obtain ⟨V, hV⟩ : ∃ V, W.setCells (w.heap.size + 1 + 1) 0 (outC g m first 128) = V := ⟨_, rfl⟩
    rw [hV] at r4 hg4 hK4 hb4
    have hg5 := grownBy_putObj' V X.heap.size (.deferred none)
    have r5 : (V.putObj X.heap.size (.deferred none)).rangeAt (w.heap.size + 1 + 1) 0 (outC g m first 128) := fun i v hv => (World.cell?_of_block (a := ⟨w.heap.size + 1 + 1, 0 + i, none⟩) (hg5.block _ (World.block_lt_of_cell? V _ (r4 i v hv)) (by intro e; injection e with e; have e' : w.heap.size + 1 + 1 = X.heap.size := e; omega))).trans (r4 i v hv)
    gi_wp2
    rw [hV]
    refine ⟨by simp, .inl ⟨_, _, rfl, run_takeDeferred hK4, ?_⟩⟩
    refine ⟨.agg (outC g m first 128).toArray, results_cell_mid rfl _ _ (w.heap.size + 1 + 1) 0 rfl _ _ r5 Tryz.underlying203 rfl (by rw [hlen128]; kernel_rfl), by rw [outC_all], ?_⟩
    exact hb4.grown hg5 hb4.size (fun k e => by cases e; omega)
theorem block_any (A:Option Addr)(c:Nat)(P:List (Pc Int))(g:Int→Int)(lo m first:Int)(w:World)(hLi:Li 3 encP w (fun _=>True) A P)(hT:Tile lo m P)(hV:Vals g P)(hne:0<P.length)(hlen:P.length≤100000)(hcl:P.length≤c)(hf0:0≤first)(hf:lo≤first)(hm:first<m)(hm2:m≤10000000):
  Calls Tryz.prog 145 #[.slice A P.length c,.int .i64 first] w (TellsB g m first w):=
 (callsIn_wide (n:=5)).1 (block_in A c P g lo m first w hLi hT hV hne hlen hcl hf0 hf hm hm2)
open Go.RowKit Go.Maps
def cellsB (B:List Int):List Value:=B.map (.int .i64)
abbrev bv (B:List Int):Value:= .agg (cellsB B).toArray
theorem cellsB_len (B:List Int):(cellsB B).length=B.length:=by simp [cellsB]
theorem cellsB_inj {A B:List Int}(h:cellsB A=cellsB B):A=B:=by
 induction A generalizing B with
 |nil=>cases B with
  |nil=>rfl
  |cons b B=>simp [cellsB]at h
 |cons a A ih=>cases B with
  |nil=>simp [cellsB]at h
  |cons b B=>
   simp only [cellsB,List.map_cons,List.cons.injEq,Value.int.injEq,true_and]at h
   rw [h.1,ih h.2]
theorem bv_inj {A B:List Int}(h:bv A=bv B):A=B:=by
 injection h with h
 have:=congrArg Array.toList h
 exact cellsB_inj (by simpa using this)
def WfB (B:List Int):Prop:=B.length=128∧∀x∈B,(Lit.int .i64 x).wf=true
theorem laidOutP:laidOutB Tryz.prog=true:=by kernel_rfl
theorem law:Keyed Tryz.prog 203:=Keyed.of_law (deep_law_laid laidOutP (m:=2) (by omega) (of_decide_eq_true (by kernel_rfl)) (by kernel_rfl) (by rw [Tryz.underlying203]))
theorem mapM_some {α β:Type}{f:α→Option β}:∀ (l:List α),(∀i∈l,∃y,f i=some y)→∃ys,l.mapM f=some ys
 |[],_=>⟨[],rfl⟩
 |a::l,h=>by
  obtain⟨y,hy⟩:=h a (by simp)
  obtain⟨ys,hys⟩:=mapM_some l fun i hi=>h i (by simp [hi])
  exact⟨y::ys,by simp [List.mapM_cons,hy,hys]⟩
theorem key_of (B:List Int)(h:WfB B):∃kl,keyOf Tryz.prog 203 (bv B)=some kl:=by
 obtain⟨h1,h2⟩:=h
 have hpos:0< Tryz.prog.types.size:=of_decide_eq_true (by kernel_rfl)
 obtain⟨d,hd⟩:∃d,Tryz.prog.types.size+1=d+1+1:=⟨Tryz.prog.types.size - 1,by omega⟩
 have kt: Tryz.prog.keyType 203=true:=by kernel_rfl
 have c1: Tryz.prog.cellsOf 3=1:=by kernel_rfl
 have c4: Tryz.prog.cellsOf 203=128:=by kernel_rfl
 have hl:(cellsB B).length=128:=by rw [cellsB_len,h1]
 obtain⟨ys,hys⟩:=mapM_some (f:=fun i=> Tryz.prog.keyLits (d+1) 3 (((cellsB B).drop (i*1)).take 1)) (List.range 128) (by
  intro i hi
  have hi:=List.mem_range.1 hi
  have hi2:i<B.length:=by omega
  have e:((cellsB B).drop (i*1)).take 1=[.int .i64 B[i]]:=by
   rw [Nat.mul_one,List.drop_eq_getElem_cons (by rw [hl];exact hi)]
   simp [cellsB]
  refine⟨[.int .i64 B[i]],?_⟩
  rw [e]
  unfold Program.keyLits
  rw [Tryz.underlying3]
  simp only [h2 _ (List.getElem_mem hi2),and_self,if_true])
 unfold keyOf
 rw [Tryz.underlying203,hd]
 have hf:(bv B).formed Tryz.prog 203=true:=by
  simp only [bv,Value.formed,Tryz.underlying203,c4,List.size_toArray,hl,BEq.rfl]
 simp only [kt,hf,Bool.and_self,if_true]
 have hk: Tryz.prog.keyLits (d+1+1) 203 (bv B).cells.toList=some ys.flatten:=by
  unfold Program.keyLits
  rw [Tryz.underlying203]
  simp only [bv,Value.cells,c1,c4,hl,if_true,hys,Option.map_some]
 rw [hk]
 exact⟨_,rfl⟩
noncomputable abbrev el:Value→Option (DataW Unit × List MemPlace):=plainElem Tryz.prog 21
def Kn (w:World)(b n:Nat)(l:List Int→Option Nat):Prop:=∃D,w.ownsMap Tryz.prog 203 el b n D∧
 ∀B kl,keyOf Tryz.prog 203 (bv B)=some kl→D.atKey kl (.lit (.int .i32 0))= .lit (.int .i32 ((l B).getD 0:Nat))∧Maps.has D kl=(l B).isSome
def also (l:List Int→Option Nat)(B:List Int)(i:Nat):List Int→Option Nat:=fun X=>if B=X then some i else l X
theorem Kn.kept {w w':World}{b n:Nat}{l:List Int→Option Nat}{row:Option Nat}(h:Kn w b n l)(hg:w.grownBy w' row)(hne:some b≠row):Kn w' b n l:=by
 obtain⟨D,h1,h2⟩:=h
 exact⟨D,h1.kept hg hne,h2⟩
theorem Kn.lt {w:World}{b n:Nat}{l:List Int→Option Nat}(h:Kn w b n l):b<w.heap.size:=h.choose_spec.1.lt
theorem Kn.later {w w':World}{b n B:Nat}{l:List Int→Option Nat}(h:Kn w b n l)(hb:Below B w w')(hB:b<B):Kn w' b n l:=by
 obtain⟨D,⟨es,clock,hh,F,hs,hD⟩,h2⟩:=h
 exact⟨D,⟨es,clock,(hb.block _ hB).trans hh,F,hs,hD⟩,h2⟩
theorem Kn.made (w:World):Kn (w.alloc (.map #[] 0)) w.heap.size 0 (fun _=>none):=
 ⟨_,World.ownsMap_made w _ _ _,fun B kl _=>⟨rfl,rfl⟩⟩
theorem Kn.put {w:World}{b n:Nat}{l:List Int→Option Nat}{D:DataW Unit}(hown:w.ownsMap Tryz.prog 203 el b n D)(h:∀B kl,keyOf Tryz.prog 203 (bv B)=some kl→D.atKey kl (.lit (.int .i32 0))= .lit (.int .i32 ((l B).getD 0:Nat))∧Maps.has D kl=(l B).isSome)
  {w':World} {B:List Int} {i:Nat} {kl:Lit} (hk:keyOf Tryz.prog 203 (bv B)=some kl) (hown':w'.ownsMap Tryz.prog 203 el b (n+1) (D.put kl (.lit (.int .i32 i)))):Kn w' b (n+1) (also l B i):=by
 have hm:=hown.isMap
 refine⟨_,hown',fun X kx hx=> ?_⟩
 unfold also
 by_cases e:B=X
 ·subst e
  rw [hk]at hx
  cases hx
  rw [if_pos rfl,atKey_put_same hm (law.key hk),has_put_same hm (law.key hk)]
  exact⟨rfl,rfl⟩
 ·have hne:kx≠kl:=fun he=>e (bv_inj (law.inj hk (he▸hx)))
  rw [if_neg e,atKey_put_other hne,has_put_other hne]
  exact h X kx hx
theorem zeroI32 (w:World):(zeroValue 21).run Tryz.prog w= .ok (.int .i32 0) w:=by kernel_rfl
theorem Kn.look {w:World}{b n:Nat}{l:List Int→Option Nat}(h:Kn w b n l){B:List Int}(hB:WfB B):
  (Instr.lookup 200 (.map (some b)) (bv B) true).run Tryz.prog w= .ok (.tuple #[.int .i32 ((l B).getD 0:Nat),.bool (l B).isSome]) w:=by
 obtain⟨D,h2,h3⟩:=h
 obtain⟨kl,hk⟩:=key_of B hB
 obtain⟨ha,hh⟩:=h3 B kl hk
 obtain⟨u,ps,hrun,hv⟩:=h2.look_ok law Tryz.underlying200 (zeroI32 _) (plainElem_int Tryz.underlying21 (by decide)) hk
 rw [ha]at hv
 obtain⟨c,rfl,hc,_⟩:=plainElem_int_inv Tryz.underlying21 hv
 simp only [Prod.mk.injEq,DataW.lit.injEq,Lit.int.injEq,true_and]at hc
 rw [hrun,hh,←hc.1]
theorem block_elt:Elt Tryz.prog 197 203 128 1024:=elt_of Tryz.underlying197 (z:= .agg Tryz.zeroCells203) (by kernel_rfl) (by kernel_rfl) (by decide)
theorem id_elt:Elt Tryz.prog 22 21 1 4:=elt_of Tryz.underlying22 (z:= .int .i32 0) (by kernel_rfl) rfl (by decide)
def encN (i:Nat):List Value:=[.int .i32 i]
theorem cellsB_one (B:List Int):∀v∈cellsB B,v.oneCell'=true:=by
 intro v hv
 obtain⟨i,_,rfl⟩:=List.mem_map.1 hv
 rfl
structure LOk (l:List Int→Option Nat)(Bs:List (List Int)):Prop where
 yes:∀B i,l B=some i→Bs[i]? =some B
 no:∀B,l B=none→B ∉ Bs
 nd:Bs.Nodup
theorem LOk.nil:LOk (fun _=>none) []:=⟨fun _ _ h=>(by cases h),fun _ _=>by simp,List.nodup_nil⟩
theorem LOk.also {l:List Int→Option Nat}{Bs:List (List Int)}(h:LOk l Bs){B:List Int}(hB:l B=none):LOk (also l B Bs.length) (Bs++[B]):=by
 refine⟨fun X i hX=> ?_,fun X hX=> ?_,?_⟩
 ·unfold Go.Proofs.YtlopleeopnnoeaaGreat.also at hX
  by_cases e:B=X
  ·rw [if_pos e]at hX
   cases hX
   simp [e]
  ·rw [if_neg e]at hX
   have:=h.yes X i hX
   have hl:=(List.getElem?_eq_some_iff.1 this).1
   rw [List.getElem?_append_left hl]
   exact this
 ·unfold Go.Proofs.YtlopleeopnnoeaaGreat.also at hX
  by_cases e:B=X
  ·rw [if_pos e]at hX;cases hX
  ·rw [if_neg e]at hX
   have:=h.no X hX
   simp only [List.mem_append,List.mem_singleton,not_or]
   exact⟨this,fun h=>e h.symm⟩
 ·rw [List.nodup_append]
  exact⟨h.nd,by simp,fun a ha b hb e=>by simp at hb;subst hb;subst e;exact h.no _ hB ha⟩
structure Tr (base:Nat)(tb mb:Nat)(m:Int)(A:Option Addr)(n c:Nat)(Bs:List (List Int))(A2:Option Addr)(n2 c2:Nat)(Ix:List Nat)(l:List Int→Option Nat)(W:World):Prop where
 cel:Blk W tb #[.int .i64 m,.slice A n c,.slice A2 n2 c2]
 bl:W.ownsRow base 203 128 (.slice A n c) n (flatL cellsB Bs)
 wh:W.ownsRow base 21 1 (.slice A2 n2 c2) n2 (flatL encN Ix)
 kn:Kn W mb Bs.length l
 ok:LOk l Bs
 wf:∀B∈Bs,WfB B
 len:n=Bs.length
 t0:base≤tb
 m0:base≤mb
 n1:∀g,(Value.slice A n c).ownBlock=some g→g≠tb
 n2':∀g,(Value.slice A2 n2 c2).ownBlock=some g→g≠tb
def Ow (tb mb:Nat)(A:Option Addr)(n c:Nat)(A2:Option Addr)(n2 c2:Nat)(k:Nat):Prop:=k=tb∨k=mb∨(Value.slice A n c).ownBlock=some k∨(Value.slice A2 n2 c2).ownBlock=some k
theorem row_heap {w:World}{base size n:Nat}{e:TypeId}{v:Value}{xs:List Value}{g:Nat}(h:w.ownsRow base e size v n xs)(hg:v.ownBlock=some g):∃cur,w.heap[g]? =some (.cells cur e (0,0)):=by
 obtain⟨_,⟨rfl,_⟩|⟨g',cap,cur,rfl,_,hh,_⟩⟩:=h
 ·cases hg
 ·injection hg with hg
  subst hg
  exact⟨cur,hh⟩
theorem Kn.heap {w:World}{b n:Nat}{l:List Int→Option Nat}(h:Kn w b n l):∃es clock,w.heap[b]? =some (.map es clock):=by
 obtain⟨D,⟨es,clock,hh,_⟩,_⟩:=h
 exact⟨es,clock,hh⟩
section
variable {base tb mb:Nat}{m:Int}{A A2:Option Addr}{n c n2 c2:Nat}{Bs:List (List Int)}{Ix:List Nat}{l:List Int→Option Nat}{W W':World}
theorem Tr.mt (h:Tr base tb mb m A n c Bs A2 n2 c2 Ix l W):mb≠tb:=by
 rintro rfl
 obtain⟨es,clock,e⟩:=h.kn.heap
 have:=h.cel.2.1 0
 simp [World.cell?,e]at this
theorem Tr.m1 (h:Tr base tb mb m A n c Bs A2 n2 c2 Ix l W):∀g,(Value.slice A n c).ownBlock=some g→g≠mb:=by
 rintro g hg rfl
 obtain⟨es,clock,e⟩:=h.kn.heap
 obtain⟨cur,e2⟩:=row_heap h.bl hg
 rw [e]at e2;cases e2
theorem Tr.m2 (h:Tr base tb mb m A n c Bs A2 n2 c2 Ix l W):∀g,(Value.slice A2 n2 c2).ownBlock=some g→g≠mb:=by
 rintro g hg rfl
 obtain⟨es,clock,e⟩:=h.kn.heap
 obtain⟨cur,e2⟩:=row_heap h.wh hg
 rw [e]at e2;cases e2
theorem Tr.n12 (h:Tr base tb mb m A n c Bs A2 n2 c2 Ix l W):∀g,(Value.slice A n c).ownBlock=some g→(Value.slice A2 n2 c2).ownBlock≠some g:=by
 intro g hg hg2
 obtain⟨cur,e⟩:=row_heap h.bl hg
 obtain⟨cur2,e2⟩:=row_heap h.wh hg2
 rw [e]at e2
 injection e2 with e2
 injection e2 with _ e2 _
 exact absurd e2 (by decide)
theorem Tr.low (h:Tr base tb mb m A n c Bs A2 n2 c2 Ix l W):∀k,Ow tb mb A n c A2 n2 c2 k→base≤k∧k<W.heap.size:=by
 rintro k (rfl|rfl|hk|hk)
 ·exact⟨h.t0,h.cel.1⟩
 ·exact⟨h.m0,h.kn.lt⟩
 ·exact h.bl.lt k hk
 ·exact h.wh.lt k hk
theorem Tr.kept (h:Tr base tb mb m A n c Bs A2 n2 c2 Ix l W)(hs:W.heap.size≤W'.heap.size)(hk:∀k,Ow tb mb A n c A2 n2 c2 k→W'.heap[k]? =W.heap[k]?):Tr base tb mb m A n c Bs A2 n2 c2 Ix l W':=by
 refine⟨?_,?_,?_,?_,h.ok,h.wf,h.len,h.t0,h.m0,h.n1,h.n2'⟩
 ·exact Blk.same h.cel (hk tb (.inl rfl)) hs
 ·obtain⟨e1,h1|⟨g,cap,cur,e2,h2,h3,h4⟩⟩:=h.bl
  ·exact⟨e1,.inl h1⟩
  ·exact⟨e1,.inr ⟨g,cap,cur,e2,h2,(hk g (.inr (.inr (.inl (by rw [e2];rfl))))).trans h3,h4⟩⟩
 ·obtain⟨e1,h1|⟨g,cap,cur,e2,h2,h3,h4⟩⟩:=h.wh
  ·exact⟨e1,.inl h1⟩
  ·exact⟨e1,.inr ⟨g,cap,cur,e2,h2,(hk g (.inr (.inr (.inr (by rw [e2];rfl))))).trans h3,h4⟩⟩
 ·obtain⟨D,⟨es,clock,hh,F,hs,hD⟩,h2⟩:=h.kn
  exact⟨D,⟨es,clock,(hk mb (.inr (.inl rfl))).trans hh,F,hs,hD⟩,h2⟩
theorem Tr.later (h:Tr base tb mb m A n c Bs A2 n2 c2 Ix l W)(hb:Below W.heap.size W W'):Tr base tb mb m A n c Bs A2 n2 c2 Ix l W':=h.kept hb.size fun k hk=>hb.block k (h.low k hk).2
end
end Go.Proofs.YtlopleeopnnoeaaGreat
