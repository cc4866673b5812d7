import Derived.Test.YtlopleeopnnoeaaGreatMb15
import Derived.Test.YtlopleeopnnoeaaGreatMb05
set_option linter.unusedVariables false
set_option linter.unusedSimpArgs false
namespace Go.Proofs.YtlopleeopnnoeaaGreat.TK
open Go.RowKit Go.Maps
theorem wp_pushN {P:Program}{w0 w:World}{cs:Array Value}{e':TypeId}{o:Oper}{a:Act}{K:Act→World→Prop}{Q:Exit→Act→World→Prop}{size bytes base n k:Nat}{t e:TypeId}{v:Value}{xs:List Value}{s x:Operand}
  (E:Elt P t e size bytes) (hown:w0.ownsRow base e size v n xs) (hbase:base≤w0.heap.size) (hgd:o.guard=none) (ho:o.op= .call {callee:= .builtin .append,args:=#[s,x],argTypes:=#[t,t]})
  (hs:a.eval s=v) (hx:a.eval x= .slice (some ⟨k,0,none⟩) 1 1) (hk:k=w0.heap.size) (hw:w=(w0.alloc (.cells cs e')).drew) (hcs:cs.size=size) (h1:cs.toList.all Value.oneCell'=true) (h63:n+1≤maxLen) (hbytes:(n+1)*bytes≤140737488355328)
  (h:∀A c w',Pushed w0 w' base e size v (n+1) (xs++cs.toList) A c→K (a.put o.dst (.slice A (n+1) c)) w'):o.wp P a w K Q:=by
 have:=step_pushN (ops:=#[]) (Ep:=False) (Q:=Q) E hown hbase hgd ho hs hx hk hw hcs h1 h63 hbytes h
 rwa [if_pos (by simp [Region.wanted,hgd])]at this
def S2 (bx tb ib i:Nat)(X:World):Prop:=Boxed X bx 86 (.pointer (some ⟨tb,0,none⟩))∧Boxed X ib 21 (.int .i32 i)
section
variable {bx tb ib i:Nat}{X Y:World}
theorem S2.drew (h:S2 bx tb ib i X):S2 bx tb ib i X.drew:=h
theorem S2.alloc (h:S2 bx tb ib i X)(o:Obj):S2 bx tb ib i (X.alloc o):=⟨Boxed.alloc h.1 o,Boxed.alloc h.2 o⟩
theorem S2.kept (h:S2 bx tb ib i X){row:Option Nat}(hg:X.grownBy Y row)(h1:some bx≠row)(h2:some ib≠row):S2 bx tb ib i Y:=⟨Boxed.kept h.1 hg h1,Boxed.kept h.2 hg h2⟩
theorem S2.set (h:S2 bx tb ib i X){g j:Nat}(h1:bx≠g)(h2:ib≠g)(u:Value):S2 bx tb ib i (X.setCell ⟨g,j,none⟩ u):=
 h.kept (grow_set X g j u) (fun e=>by injection e with e;exact h1 e) (fun e=>by injection e with e;exact h2 e)
theorem S2.same (h:S2 bx tb ib i X)(h1:Y.heap[bx]? =X.heap[bx]?)(h2:Y.heap[ib]? =X.heap[ib]?):S2 bx tb ib i Y:=⟨h1.trans h.1,h2.trans h.2⟩
end
section
variable {base tb mb:Nat}{m:Int}{A A2:Option Addr}{n c n2 c2 i:Nat}{Bs:List (List V3)}{Ix:List Nat}{l:List V3→Option Nat}{W w3:World}
theorem Tr.snoc {A':Option Addr}{c':Nat}(h:Tr base tb mb m A n c Bs A2 n2 c2 Ix l W)(hp:Pushed W w3 base 21 1 (.slice A2 n2 c2) (n2+1) (flatL encN Ix++(#[Value.int .i32 (i:Int)]:Array Value).toList) A' c'):
  Tr base tb mb m A n c Bs A' (n2+1) c' (Ix++[i]) l (w3.setCell ⟨tb,2,none⟩ (.slice A' (n2+1) c'))∧Turn (Ow tb mb A n c A2 n2 c2) W (w3.setCell ⟨tb,2,none⟩ (.slice A' (n2+1) c'))∧∀k,Ow tb mb A n c A' (n2+1) c' k→Ow tb mb A n c A2 n2 c2 k∨W.heap.size≤k:=by
 have hg:=hp.grown
 have hn1:∀g,(Value.slice A' (n2+1) c').ownBlock=some g→(Value.slice A2 n2 c2).ownBlock=some g∨W.heap.size≤g:=fun g e=>by
  rcases hp.at_ with e1|⟨q,e1,hq⟩
  ·exact .inl (e1▸e)
  ·rw [e1]at e
   injection e with e
   subst e
   exact .inr hq
 have hcl:=h.cel.1
 have hnt:∀g,(Value.slice A' (n2+1) c').ownBlock=some g→g≠tb:=fun g e=>by
  rcases hn1 g e with e1|e1
  ·exact h.n2' g e1
  ·omega
 have b3:=h.cel.grown hg (fun e=>h.n2' tb e.symm rfl)
 have b4:=b3.set_ 2 (by simp) (.slice A' (n2+1) c')
 refine⟨⟨by simpa using b4,?_,?_,?_,h.ok,h.wf,h.len,h.t0,h.m0,h.n1,hnt⟩,⟨hg.os,hg.tape,hg.output,by simpa using hg.size,fun k hk ho=> ?_⟩,?_⟩
 ·have:=keptRow h.bl hg (fun g e e'=>h.n12 g e e')
  exact keptRow this (grow_set w3 tb 2 (.slice A' (n2+1) c')) (fun g e e'=>by injection e' with e';exact h.n1 g e e'.symm)
 ·have:=keptRow hp.own (grow_set w3 tb 2 (.slice A' (n2+1) c')) (fun g e e'=>by injection e' with e';exact hnt g e e'.symm)
  rw [flatL_snoc]
  simpa [encN]using this
 ·have:=h.kn.kept hg (fun e=>h.m2 mb e.symm rfl)
  have:=this.kept (grow_set w3 tb 2 (.slice A' (n2+1) c')) (fun e=>by injection e with e;exact h.mt e)
  exact this
 ·rw [Below.heap_setCell _ _ _ _ (by show k≠tb;exact fun e=>ho (.inl e))]
  exact hg.block k hk (fun e=>ho (.inr (.inr (.inr e.symm))))
 ·rintro k (hk|hk|hk|hk)
  ·exact .inl (.inl hk)
  ·exact .inl (.inr (.inl hk))
  ·exact .inl (.inr (.inr (.inl hk)))
  ·rcases hn1 k hk with h'|h'
   ·exact .inl (.inr (.inr (.inr h')))
   ·exact .inr h'
end
def RgI (X:World)(base tb mb:Nat)(m:Int)(A:Option Addr)(n c:Nat)(Bs:List (List V3))(Ix:List Nat)(l:List V3→Option Nat)(bx ib i:Nat)(O0:Nat→Prop)(pre:List Nat)(O:Nat→Prop)(W:World):Prop:=
 ∃A2 n2 c2,Tr base tb mb m A n c Bs A2 n2 c2 (Ix++List.replicate pre.length i) l W∧S2 bx tb ib i W∧(∀k,O k↔Ow tb mb A n c A2 n2 c2 k)∧(∀k,O k→O0 k∨X.heap.size≤k)∧Turn O0 X W
def RgM (X:World)(base tb mb:Nat)(m:Int)(A:Option Addr)(n c:Nat)(Bs:List (List V3))(Ix:List Nat)(l:List V3→Option Nat)(bx ib i:Nat)(O0:Nat→Prop)(N:Nat)(act:Nat→Act)(x:List Nat × Nat × Act)(O:Nat→Prop)(W:World):Prop:=
 RgI X base tb mb m A n c Bs Ix l bx ib i O0 x.1 O W∧upTo N x.1 x.2.1∧x.2.2=act x.2.1
section
variable {X:World}{base tb mb:Nat}{m:Int}{A:Option Addr}{n c:Nat}{Bs:List (List V3)}{Ix:List Nat}{l:List V3→Option Nat}{bx ib i:Nat}{O0:Nat→Prop}{N:Nat}{act:Nat→Act}
theorem RgI.bears (h1:bx<X.heap.size)(h2:ib<X.heap.size):BearsO (RgI X base tb mb m A n c Bs Ix l bx ib i O0) X.heap.size:=by
 rintro pre O V B row ⟨A2,n2,c2,t,s,o,o2,u⟩ hg hr
 refine⟨A2,n2,c2,t.kept hg.size fun k hk=>hg.block k (t.low k hk).2 fun e=>(hr k e.symm).2 ((o k).2 hk),s.kept hg (fun e=>by have:=(hr _ e.symm).1;omega) (fun e=>by have:=(hr _ e.symm).1;omega),o,o2,⟨hg.os.trans u.os,hg.tape.trans u.tape,hg.output.trans u.output,Nat.le_trans u.size hg.size,fun k hk ho=>(hg.block k (Nat.lt_of_lt_of_le hk u.size) fun e=>by have:=(hr k e.symm).1;omega).trans (u.old k hk ho)⟩⟩
theorem RgM.bears (h1:bx<X.heap.size)(h2:ib<X.heap.size):BearsO (RgM X base tb mb m A n c Bs Ix l bx ib i O0 N act) X.heap.size:=by
 rintro⟨pre,x,a'⟩ O V B row ⟨h,h3,h4⟩ hg hr
 exact⟨RgI.bears h1 h2 _ _ _ _ _ h hg hr,h3,h4⟩
theorem RgI.step {W W':World}{pre:List Nat}{O:Nat→Prop}{x:Nat}{A2 A':Option Addr}{n2 c2 c':Nat}(t:Tr base tb mb m A n c Bs A2 n2 c2 (Ix++List.replicate pre.length i) l W)(o:∀k,O k↔Ow tb mb A n c A2 n2 c2 k)(o2:∀k,O k→O0 k∨X.heap.size≤k)(u:Turn O0 X W)
  (h:Tr base tb mb m A n c Bs A' (n2+1) c' (Ix++List.replicate pre.length i++[i]) l W'∧Turn (Ow tb mb A n c A2 n2 c2) W W'∧∀k,Ow tb mb A n c A' (n2+1) c' k→Ow tb mb A n c A2 n2 c2 k∨W.heap.size≤k) (hs:S2 bx tb ib i W'):
  ∃O',KeepO O O' W W'∧RgI X base tb mb m A n c Bs Ix l bx ib i O0 (pre++[x]) O' W':=by
 obtain⟨t',v,e⟩:=h
 refine⟨Ow tb mb A n c A' (n2+1) c',⟨v.size,fun k hk ho=>v.old k hk fun h=>ho ((o k).2 h),fun k hk=>(e k hk).imp (fun h=>(o k).2 h) id,fun k hk=>(t'.low k hk).2⟩,A',n2+1,c',?_,hs,fun k=>Iff.rfl,fun k hk=> ?_,?_⟩
 ·rw [List.length_append,List.length_singleton,List.replicate_succ',←List.append_assoc]
  exact t'
 ·rcases e k hk with h|h
  ·exact o2 k ((o k).2 h)
  ·exact .inr (Nat.le_trans u.size h)
 ·refine⟨v.os.trans u.os,v.tape.trans u.tape,v.output.trans u.output,Nat.le_trans u.size v.size,fun k hk ho=>(v.old k (Nat.lt_of_lt_of_le hk u.size) fun h=> ?_).trans (u.old k hk ho)⟩
  rcases o2 k ((o k).2 h)with h'|h'
  ·exact ho h'
  ·omega
end
end Go.Proofs.YtlopleeopnnoeaaGreat.TK
namespace Go.Proofs.YtlopleeopnnoeaaGreat.TK
open Go.RowKit Go.Maps
def cntB (m:Nat):Nat:=(m - 1)/128+1
def bk (g:Int→V3)(m j:Nat):List V3:=blk g m ((j*128:Nat):Int)
theorem bk_wf {g:Int→V3}(hg:∀r,WV (g r))(m j:Nat):WfB (bk g m j):=by
 refine⟨by simp [bk,blk],fun x hx=> ?_⟩
 unfold bk blk at hx
 obtain⟨i,_,rfl⟩:=List.mem_map.1 hx
 exact hg _
theorem cnt_lt {m k:Nat}(hm:1≤m):k<cntB m↔k*128≤m - 1:=by unfold cntB;omega
theorem bk_run {g:Int→V3}{P:List (Pc V3)}{m a k j:Nat}{x:Pc V3}(hm:1≤m)(hV:Vals g P)(hx:P[a]? =some x)(hf:x.f≤((k*128:Nat):Int))(hk:k<cntB m)(hkj:k≤j)(hb:x.t≤(m:Int) - 1)(he:x.t=(m:Int) - 1∨((j*128+127:Nat):Int)≤x.t):bk g m j=bk g m k:=by
 have hv:=hV x (List.mem_of_getElem? hx)
 have hk2:=(cnt_lt hm).1 hk
 have one:∀q,k≤q→q≤j→∀i∈List.range 128,bval g m ((q*128:Nat):Int) i=x.v:=by
  intro q h1 h2 i hi
  have hi:=List.mem_range.1 hi
  unfold bval
  refine hv _ ?_ ?_
  ·rcases he with he|he<;>omega
  ·rcases he with he|he<;>omega
 unfold bk blk
 apply List.map_congr_left
 intro i hi
 rw [one j hkj (Nat.le_refl _) i hi,one k (Nat.le_refl _) hkj i hi]
structure BL (w:World)(g:Int→V3)(m:Nat)(P:List (Pc V3))(pb:Nat)(pA:Option Addr)(bx tb mb k:Nat)(hd:Hd)(Bs:List (List V3))(Ix:List Nat)(l:List V3→Option Nat)(ds:List Deferred)(W:World):Prop where
 tr:TrH w.heap.size tb mb m hd Bs Ix l W
 box:Boxed W bx 86 (.pointer (some ⟨tb,0,none⟩))
 pcs:Li 5 encP W (fun b=>b=pb) pA P
 ap:∀q,OwH tb mb hd q→q≠bx∧q≠pb
 be:Below w.heap.size w W
 ix:Ix.length=k
 is:∀j,j<k→∃i,Ix[j]? =some i∧Bs[i]? =some (bk g m j)
 mem:∀B∈Bs,∃j,j<k∧B=bk g m j
 lb:Bs.length≤k
 df:∀d∈ds,∃r,d={target:= .collected r,args:=#[]}∧w.heap.size≤r∧W.heap[r]? =some (.deferred (some []))
 nd:ds.Nodup
theorem Tr.not_def {base tb mb:Nat}{m:Int}{A A2:Option Addr}{n c n2 c2:Nat}{Bs:List (List V3)}{Ix:List Nat}{l:List V3→Option Nat}{W:World}(h:Tr base tb mb m A n c Bs A2 n2 c2 Ix l W){k:Nat}{d:Option (List Deferred)}(hk:W.heap[k]? =some (.deferred d)):¬Ow tb mb A n c A2 n2 c2 k:=by
 rintro(rfl|rfl|h'|h')
 ·have:=h.cel.2.1 0
  simp [World.cell?,hk]at this
 ·obtain⟨es,clock,e⟩:=h.kn.heap
  rw [e]at hk;cases hk
 ·obtain⟨cur,e⟩:=row_heap h.bl h'
  rw [e]at hk;cases hk
 ·obtain⟨cur,e⟩:=row_heap h.wh h'
  rw [e]at hk;cases hk
structure BtI (base:Nat)(g:Int→V3)(m tb mb:Nat)(hd:Hd)(Bs:List (List V3))(Ix:List Nat)(l:List V3→Option Nat)(W:World):Prop where
 tr:TrH base tb mb m hd Bs Ix l W
 ix:Ix.length=cntB m
 is:∀j,j<cntB m→∃i,Ix[j]? =some i∧Bs[i]? =some (bk g m j)
 mem:∀B∈Bs,∃j,j<cntB m∧B=bk g m j
def Built (g:Int→V3)(m:Nat)(w:World)(e:Ending)(w':World):Prop:=∃tb mb hd Bs Ix l,e= .returned (.pointer (some ⟨tb,0,none⟩))∧BtI w.heap.size g m tb mb hd Bs Ix l w'∧Below w.heap.size w w'
theorem leaves_all {F:Fence}{n:Nat}{P:Program}{fn:Func}{tmps:Array Value}{R:Ending→World→Prop}{base:Nat}{Kp:Nat→Prop}:∀ (ds:List Deferred) (V:World),(∀d∈ds,∃r,d={target:= .collected r,args:=#[]}∧base≤r∧¬Kp r∧V.heap[r]? =some (.deferred (some [])))→ds.Nodup→
  (∀V',V.heap.size=V'.heap.size→(∀k,(k<base∨Kp k)→V'.heap[k]? =V.heap[k]?)→Below base V V'→LeavesInM F n P fn tmps R [] .returning V')→LeavesInM F n P fn tmps R ds .returning V
 |[],V,_,_,h=>h V rfl (fun _ _=>rfl) (Below.refl _ _)
 |d::ds,V,hd,hn,h=>by
  obtain⟨r,rfl,hr,hK,hh⟩:=hd d (by simp)
  have hg:=grownBy_putObj' V r (.deferred none)
  refine⟨by simp,.inl ⟨r,_,rfl,run_takeDeferred hh,?_⟩⟩
  refine leaves_all ds _ (fun d' hd'=> ?_) (List.nodup_cons.1 hn).2 fun V' h1 h2 h3=>h V' (by rw [←h1];simp) (fun k hk=>(h2 k hk).trans ?_) ((((Below.refl base V).grown hg (by have:=(Array.getElem?_eq_some_iff.1 hh).1;omega) (fun k e=>by cases e;exact hr))).trans h3)
  ·obtain⟨r',e',hr',hK',hh'⟩:=hd d' (by simp [hd'])
   refine⟨r',e',hr',hK',?_⟩
   have hne:r'≠r:=by
    rintro rfl
    subst e'
    exact(List.nodup_cons.1 hn).1 hd'
   exact(hg.block r' (Array.getElem?_eq_some_iff.1 hh').1 (by intro e;injection e with e;exact hne e)).trans hh'
  ·by_cases hlt:k<V.heap.size
   ·refine hg.block k hlt (fun e=> ?_)
    injection e with e
    subst e
    rcases hk with hk|hk
    ·omega
    ·exact hK hk
   ·rw [Array.getElem?_eq_none (by simp;omega),Array.getElem?_eq_none (by omega)]
structure MidI (base tb mb:Nat)(m:Int)(hd:Hd)(Bs:List (List V3))(Ix:List Nat)(B:List V3)(bx:Nat)(wr:World)(i ib:Nat)(hd':Hd)(Bs':List (List V3))(l':List V3→Option Nat)(W:World):Prop where
 tr:TrH base tb mb m hd' Bs' Ix l' W
 at_:Bs'[i]? =some B
 or_:Bs'=Bs∨Bs'=Bs++[B]
 tn:Turn (OwH tb mb hd) wr W
 how:∀k,OwH tb mb hd' k→OwH tb mb hd k∨wr.heap.size≤k
 s2:S2 bx tb ib i W
 nib:¬OwH tb mb hd' ib
 lib:wr.heap.size≤ib
section
variable {base tb mb:Nat}{m:Int}{hd hd':Hd}{Bs Bs':List (List V3)}{Ix:List Nat}{l l':List V3→Option Nat}{B:List V3}{bx i ib:Nat}{wr Z w6:World}
theorem mid_box (t:TrH base tb mb m hd Bs Ix l wr)(hbx:¬OwH tb mb hd bx)(hxl:bx<wr.heap.size)(hZ:Below wr.heap.size wr Z)(bZ:Boxed Z bx 86 (.pointer (some ⟨tb,0,none⟩)))(u:Turn (OwH tb mb hd) Z w6):Boxed w6 bx 86 (.pointer (some ⟨tb,0,none⟩)):=
 (u.old bx (Boxed.lt bZ) hbx).trans bZ
theorem mid_new (t:TrH base tb mb m hd Bs Ix l wr)(hbx:¬OwH tb mb hd bx)(hxl:bx<wr.heap.size)(hZ:Below wr.heap.size wr Z)(bZ:Boxed Z bx 86 (.pointer (some ⟨tb,0,none⟩)))
  (t6:TrH base tb mb m hd' Bs' Ix l' w6) (a6:Bs'[i]? =some B) (o6:Bs'=Bs∨Bs'=Bs++[B]) (u6:Turn (OwH tb mb hd) Z w6) (h6:∀k,OwH tb mb hd' k→OwH tb mb hd k∨Z.heap.size≤k):
  MidI base tb mb m hd Bs Ix B bx wr i w6.heap.size hd' Bs' l' (w6.alloc (.cells #[.int .i32 i] 21)):=by
 have b6:=mid_box t hbx hxl hZ bZ u6
 have u:=u6.later (fun k hk=>(t.low k hk).2) hZ
 refine⟨t6.later (belAlloc _ _),a6,o6,⟨u.os,u.tape,u.output,Nat.le_trans u.size (by simp),fun k hk ho=>((World.grownBy_alloc w6 _ none).block k (Nat.lt_of_lt_of_le hk u.size) (by simp)).trans (u.old k hk ho)⟩,fun k hk=>(h6 k hk).imp id (Nat.le_trans hZ.size),⟨Boxed.alloc b6 _,Boxed.new w6 _ _⟩,fun h=> ?_,u.size⟩
 have:=(t6.low _ h).2
 omega
theorem mid_old (t:TrH base tb mb m hd Bs Ix l wr)(hbx:¬OwH tb mb hd bx)(hxl:bx<wr.heap.size)(hZ:Below wr.heap.size wr Z)(bZ:Boxed Z bx 86 (.pointer (some ⟨tb,0,none⟩)))(iZ:Boxed Z ib 21 (.int .i32 0))(hib:wr.heap.size≤ib)
  (t6:TrH base tb mb m hd' Bs' Ix l' w6) (a6:Bs'[i]? =some B) (o6:Bs'=Bs∨Bs'=Bs++[B]) (u6:Turn (OwH tb mb hd) Z w6) (h6:∀k,OwH tb mb hd' k→OwH tb mb hd k∨Z.heap.size≤k):
  (w6.cell? ⟨ib,0,none⟩=some (.int .i32 0)∧w6.frozen? ⟨ib,0,none⟩=false∧ib<w6.heap.size)∧MidI base tb mb m hd Bs Ix B bx wr i ib hd' Bs' l' (w6.setCell ⟨ib,0,none⟩ (.int .i32 i)):=by
 have b6:=mid_box t hbx hxl hZ bZ u6
 have n6:¬OwH tb mb hd ib:=fun h=>by have:=(t.low _ h).2;omega
 have i6:Boxed w6 ib 21 (.int .i32 0):=(u6.old ib (Boxed.lt iZ) n6).trans iZ
 have u:=u6.later (fun k hk=>(t.low k hk).2) hZ
 have n6':¬OwH tb mb hd' ib:=fun h=>by
  rcases h6 _ h with h'|h'
  ·exact n6 h'
  ·have:=Boxed.lt iZ;omega
 have hg:=grow_set w6 ib 0 (.int .i32 i)
 refine⟨⟨Boxed.cell i6,Boxed.frozen i6,Boxed.lt i6⟩,⟨t6.kept hg.size fun k hk=>hg.block k (t6.low k hk).2 (fun e=>by injection e with e;exact n6' (e▸hk)),a6,o6,⟨hg.os.trans u.os,hg.tape.trans u.tape,hg.output.trans u.output,Nat.le_trans u.size hg.size,fun k hk ho=>(hg.block k (Nat.lt_of_lt_of_le hk u.size) (fun e=>by injection e with e;omega)).trans (u.old k hk ho)⟩,fun k hk=>(h6 k hk).imp id (Nat.le_trans hZ.size),⟨Boxed.other b6 (by omega) _,Boxed.set _ i6⟩,n6',hib⟩⟩
end
theorem _root_.Go.Proofs.YtlopleeopnnoeaaGreat.Li.droppedK {W:World}{S:Nat→Prop}{b:Nat}{P:List (Pc V3)}(h:Li 5 encP W S (some ⟨b,0,none⟩) P)(a:Nat):Li 5 encP W S (some ⟨b,a*5,none⟩) (P.drop a):=fun j x hj=>by
 rw [List.getElem?_drop]at hj
 obtain⟨b',o',e,hb,hS,hc⟩:=h (a+j) x hj
 injection e with e
 injection e with e e'
 subst e;subst e'
 exact⟨b,a*5,rfl,hb,hS,fun i u hu=>by have:=hc i u hu;rw [show a*5+(j*5+i)=0+((a+j)*5+i)by omega];exact this⟩
theorem _root_.Go.Proofs.YtlopleeopnnoeaaGreat.Tile.droppedK {lo hi:Int}{P:List (Pc V3)}(h:Tile lo hi P){a:Nat}{x:Pc V3}(hx:P[a]? =some x):Tile x.f hi (P.drop a):=by
 rw [←List.take_append_drop a P,tile_append]at h
 obtain⟨m,h1,h2⟩:=h
 have e:=(tile_at (L:=P) (k:=a) (lo:=lo) (hi:=hi) (by rw [←List.take_append_drop a P,tile_append];exact⟨m,h1,h2⟩) hx).1
 rw [tile_uniq e h1]
 exact h2
theorem _root_.Go.Proofs.YtlopleeopnnoeaaGreat.Vals.droppedK {g:Int→V3}{P:List (Pc V3)}(h:Vals g P)(a:Nat):Vals g (P.drop a):=fun p hp=>h p (List.mem_of_mem_drop hp)
section
variable {w wr W6 X W7:World}{g:Int→V3}{m:Nat}{P:List (Pc V3)}{pb:Nat}{pA:Option Addr}{bx tb mb k en i ib:Nat}{hd hd':Hd}{Bs Bs':List (List V3)}{Ix:List Nat}{l l':List V3→Option Nat}{ds:List Deferred}{A2:Option Addr}{n2 c2:Nat}
theorem BL.next (h:BL w g m P pb pA bx tb mb k hd Bs Ix l ds wr)(hpb:pb<wr.heap.size)(hM:MidI w.heap.size tb mb m hd Bs Ix (bk g m k) bx wr i ib hd' Bs' l' W6)(hX:Below W6.heap.size W6 X)
  (t:Tr w.heap.size tb mb m hd'.A hd'.n hd'.c Bs' A2 n2 c2 (Ix++List.replicate (en - k) i) l' W7) (u:Turn (OwH tb mb hd') X W7) (o2:∀q,Ow tb mb hd'.A hd'.n hd'.c A2 n2 c2 q→OwH tb mb hd' q∨X.heap.size≤q)
  (hK:W7.heap[X.heap.size]? =some (.deferred (some []))) (h1:k<en) (h2:∀j,k≤j→j<en→bk g m j=bk g m k):
  BL w g m P pb pA bx tb mb en ⟨hd'.A,hd'.n,hd'.c,A2,n2,c2⟩ Bs' (Ix++List.replicate (en - k) i) l' ({target:= .collected X.heap.size,args:=#[]}::ds) W7:=by
 have s1:=hM.tn.size
 have s2:=hX.size
 have hbx:=Boxed.lt h.box
 have hbe:=h.be.size
 have no:∀q,q<wr.heap.size→¬OwH tb mb hd q→¬OwH tb mb hd' q:=fun q hq hn hh=>by
  rcases hM.how q hh with h'|h'
  ·exact hn h'
  ·omega
 have keep:∀q,q<wr.heap.size→¬OwH tb mb hd q→W7.heap[q]? =wr.heap[q]? :=fun q hq hn=>
  (u.old q (by omega) (no q hq hn)).trans ((hX.block q (by omega)).trans (hM.tn.old q hq hn))
 have hix:=h.ix
 refine⟨t,(keep bx hbx fun hh=>(h.ap _ hh).1 rfl).trans h.box,h.pcs.turned (by have:=u.size;omega) (fun b hb hl=>by subst hb;exact keep b hl fun hh=>(h.ap _ hh).2 rfl),?_,?_,?_,?_,?_,?_,?_,?_⟩
 ·intro q hq
  rcases o2 q hq with h'|h'
  ·rcases hM.how q h' with h'|h'
   ·exact h.ap q h'
   ·exact⟨by omega,by omega⟩
  ·exact⟨by omega,by omega⟩
 ·have hb:=h.be
  have hu:=u.size
  exact⟨u.os.trans (hX.os.trans (hM.tn.os.trans hb.os)),u.tape.trans (hX.tape.trans (hM.tn.tape.trans hb.tape)),u.output.trans (hX.output.trans (hM.tn.output.trans hb.output)),by omega,fun q hq=>(keep q (by omega) fun hh=>by have:=(h.tr.low q hh).1;omega).trans (hb.block q hq)⟩
 ·simp [hix];omega
 ·intro j hj
  rcases Nat.lt_or_ge j k with hjk|hjk
  ·obtain⟨i',a1,a2⟩:=h.is j hjk
   refine⟨i',by rw [List.getElem?_append_left (by omega)];exact a1,?_⟩
   rcases hM.or_ with e|e
   ·rw [e];exact a2
   ·rw [e,List.getElem?_append_left (List.getElem?_eq_some_iff.1 a2).1];exact a2
  ·refine⟨i,?_,by rw [h2 j hjk hj];exact hM.at_⟩
   rw [List.getElem?_append_right (by omega),List.getElem?_replicate,if_pos (by omega)]
 ·intro B hB
  have old:B∈Bs→∃j,j<en∧B=bk g m j:=fun hb=>by
   obtain⟨j,a1,a2⟩:=h.mem B hb
   exact⟨j,by omega,a2⟩
  rcases hM.or_ with e|e
  ·exact old (e▸hB)
  ·rw [e]at hB
   rcases List.mem_append.1 hB with hB|hB
   ·exact old hB
   ·exact⟨k,h1,by simpa using hB⟩
 ·have:=h.lb
  rcases hM.or_ with e|e
  ·rw [e];omega
  ·rw [e];simp;omega
 ·intro d hd
  rcases List.mem_cons.1 hd with rfl|hd
  ·exact⟨_,rfl,by omega,hK⟩
  ·obtain⟨r,e,hr,hh⟩:=h.df d hd
   exact⟨r,e,hr,(keep r (Array.getElem?_eq_some_iff.1 hh).1 (h.tr.not_def hh)).trans hh⟩
 ·refine List.nodup_cons.2 ⟨fun hd=> ?_,h.nd⟩
  obtain⟨r,e,hr,hh⟩:=h.df _ hd
  injection e with e
  injection e with e
  have:=(Array.getElem?_eq_some_iff.1 hh).1
  omega
end
end Go.Proofs.YtlopleeopnnoeaaGreat.TK
