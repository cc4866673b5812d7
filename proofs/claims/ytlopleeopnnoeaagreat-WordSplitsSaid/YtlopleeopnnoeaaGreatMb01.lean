import Derived.Test.YtlopleeopnnoeaaGreatRows
import Derived.WalkKit
import Derived.ProofKit
import Derived.OpenShut
import Derived.WalkSmall
import Derived.WalkSpells
import Derived.WalkLawsBesides
import Derived.BigQuiet
import Derived.Deep.QuietTactic
import Derived.Deep.RegionHeld3
import Derived.Deep.DeepCutAuto
import Derived.Deep.LoopGhost
import Derived.Lib.Hide
import Derived.Laws.OwnMore
import Derived.Maps.AppendAt
import Derived.Laws.AppendOwnNone
import Derived.Outline
import Derived.Lib.OwnBridge
import Derived.Shelf.SlSortFuncK.RowK2
import Derived.Shelf.GgSortFunc.InsertionK
set_option linter.unusedVariables false
set_option linter.unusedSimpArgs false
namespace Go.Proofs.YtlopleeopnnoeaaGreat
open Go.RowKit
def Rd (w:World)(A:Option Addr)(n:Nat)(f:Nat→Value):Prop:=
 ∀j,j<n→∃b o,A=some ⟨b,o,none⟩∧b<w.heap.size∧w.cell? ⟨b,o+j,none⟩=some (f j)
theorem Rd.empty (w:World)(A:Option Addr)(f:Nat→Value):Rd w A 0 f:=fun _ h=>absurd h (by omega)
theorem Rd.later {w w':World}{A:Option Addr}{n:Nat}{f:Nat→Value}(h:Rd w A n f)(hb:Below w.heap.size w w'):Rd w' A n f:=by
 intro j hj
 obtain⟨b,o,e,hl,hc⟩:=h j hj
 exact⟨b,o,e,Nat.lt_of_lt_of_le hl hb.size,(hb.cell (p:=⟨b,o+j,none⟩) hl).trans hc⟩
theorem Rd.drewN {w:World}{A:Option Addr}{n:Nat}{f:Nat→Value}(h:Rd w A n f)(k:Nat):Rd (w.drewN k) A n f:=h
theorem Rd.congr {w:World}{A:Option Addr}{n:Nat}{f g:Nat→Value}(h:Rd w A n f)(e:∀j,j<n→f j=g j):Rd w A n g:=by
 intro j hj
 rw [←e j hj]
 exact h j hj
theorem Rd.all {w:World}{A:Option Addr}{n:Nat}{f:Nat→Value}(h:Rd w A n f)(hn:0<n):∃b o,A=some ⟨b,o,none⟩∧b<w.heap.size∧∀j,j<n→w.cell? ⟨b,o+j,none⟩=some (f j):=by
 obtain⟨b,o,rfl,hl,_⟩:=h 0 hn
 refine⟨b,o,rfl,hl,fun j hj=> ?_⟩
 obtain⟨b',o',e,_,hc⟩:=h j hj
 injection e with e
 injection e with e1 e2
 subst e1
 subst e2
 exact hc
theorem below_cell {w w1:World}(hb:Below w.heap.size w w1):(∀b o,b<w.heap.size→w1.cell? ⟨b,o,none⟩=w.cell? ⟨b,o,none⟩)∧(∀b o,b<w.heap.size→w1.frozen? ⟨b,o,none⟩=w.frozen? ⟨b,o,none⟩):=
 ⟨fun b o h=>hb.cell (p:=⟨b,o,none⟩) h,fun b o h=>hb.frozen (p:=⟨b,o,none⟩) h⟩
theorem rd_new (w:World)(cs:Array Value)(t:TypeId)(n:Nat)(f:Nat→Value)(h:∀j,j<n→cs[j]? =some (f j)):Rd (w.alloc (.cells cs t)) (some ⟨w.heap.size,0,none⟩) n f:=by
 intro j hj
 refine⟨_,_,rfl,by simp [World.size_alloc],?_⟩
 rw [Nat.zero_add,World.cell?_alloc_new]
 exact h j hj
theorem own_new (w:World)(cs:Array Value)(e:TypeId)(n:Nat)(hn:cs.size=n)(hm:n≤maxLen):(w.alloc (.cells cs e)).ownsRow w.heap.size e 1 (.slice (some ⟨w.heap.size,0,none⟩) n n) n cs.toList:=by
 subst hn
 exact⟨by simp,.inr ⟨w.heap.size,cs.size,cs,rfl,Nat.le_refl _,heap_alloc_new w _,Nat.le_refl _,hm,by simp,by rw [Nat.mul_one];exact List.take_of_length_le (by simp)⟩⟩
theorem rd_own {w:World}{base:Nat}{e:TypeId}{A:Option Addr}{c n:Nat}{xs:List Value}{f:Nat→Value}(h:w.ownsRow base e 1 (.slice A n c) n xs)(hf:∀j,j<n→xs[j]? =some (f j)):Rd w A n f:=by
 intro j hj
 rcases h.2 with⟨_,hx⟩|⟨g,cap,cur,hv,_⟩
 ·omega
 ·injection hv with hA _ _
  subst hA
  have hc:=h.cells (g:=g) rfl j _ (hf j hj)
  rw [Addr.add_lit]at hc
  exact⟨_,_,rfl,(h.lt g rfl).2,hc⟩
theorem own_slice {w:World}{base:Nat}{e:TypeId}{size n:Nat}{v:Value}{xs:List Value}(h:w.ownsRow base e size v n xs):∃A c,v= .slice A n c:=by
 rcases h.2 with⟨rfl,hx⟩|⟨g,cap,cur,rfl,_⟩
 ·subst hx
  exact⟨none,0,rfl⟩
 ·exact⟨_,_,rfl⟩
def Elt (P:Program)(t e:TypeId)(size bytes:Nat):Prop:=
 P.underlying t=some (.slice e)∧∃i z,P.info? e=some i∧i.zero=some z∧i.size=size∧i.bytes=bytes∧z.cells.size=size∧0<size
theorem elt_of {P:Program}{t e:TypeId}{size bytes:Nat}{z:Value}(h:P.underlying t=some (.slice e))(hi:(P.info? e).map (fun i=>(i.zero,i.size,i.bytes))=some (some z,size,bytes))(hz:z.cells.size=size)(hs:0<size):Elt P t e size bytes:=by
 obtain⟨i,h1,h2,h3,h4⟩:=info_parts hi
 exact⟨h,i,z,h1,h2,h3,h4,hz,hs⟩
structure Pushed (w0 w':World)(base:Nat)(e:TypeId)(size:Nat)(v:Value)(n:Nat)(xs:List Value)(A:Option Addr)(c:Nat):Prop where
 own:w'.ownsRow base e size (.slice A n c) n xs
 grown:w0.grownBy w' v.ownBlock
 at_:(Value.slice A n c).ownBlock=v.ownBlock∨∃k,(Value.slice A n c).ownBlock=some k∧w0.heap.size≤k
theorem wpList_push {P:Program}{w0:World}{cs:Array Value}{e':TypeId}{ops:Array Oper}{rest:List Oper}{o:Oper}{a:Act}{Q:Exit→Act→World→Prop}{size bytes base n k:Nat}{t e:TypeId}{v:Value}{xs:List Value}{s x:Operand}
  (E:Elt P t e size bytes) (hown:w0.ownsRow base e size v n xs) (hbase:base≤w0.heap.size) (hgd:o.guard=none) (ho:o.op= .call {callee:= .builtin .append,args:=#[s,x],argTypes:=#[t,t]})
  (hs:a.eval s=v) (hx:a.eval x= .slice (some ⟨k,0,none⟩) 1 1) (hk:k=w0.heap.size) (hcs:cs.size=size) (h1:cs.toList.all Value.oneCell'=true) (h63:n+1≤maxLen) (hbytes:(n+1)*bytes≤140737488355328)
  (h:∀A c w',Pushed w0 w' base e size v (n+1) (xs++cs.toList) A c→wpList P ops Q rest (a.put o.dst (.slice A (n+1) c)) w'):wpList P ops Q (o::rest) a (w0.alloc (.cells cs e')):=by
 obtain⟨ht,i,z,hi,hz,hsize,hby,hzs,hsz⟩:=E
 subst hk
 refine wpList_append_own_at (w0.alloc (.cells cs e')) hgd s x t ho base e i z size bytes ht hi hz hsize hby hzs hsz v n xs hs (hown.alloc _) ⟨w0.heap.size,0,none⟩ 1 1 cs.toList hx (by simp [hcs]) ?_ ?_ h63 hbytes (by rw [World.size_alloc];omega) ?_
 ·intro j u hj
  rw [Addr.add_lit,Nat.zero_add,World.cell?_alloc_new,←hj]
  simp
 ·intro u hu
  exact List.all_eq_true.1 h1 u hu
 ·intro v' w' hown' hg _ hat
  obtain⟨A,c,rfl⟩:=own_slice hown'
  refine h A c w' ⟨hown',(World.grownBy_alloc w0 _ _).trans hg,?_⟩
  rcases hat with e1|e1
  ·exact .inl e1
  ·exact .inr ⟨_,e1,by rw [World.size_alloc];omega⟩
theorem Pushed.below {W w0 w':World}{base:Nat}{e:TypeId}{size:Nat}{v:Value}{n m:Nat}{xs ys:List Value}{A:Option Addr}{c:Nat}(h:Pushed w0 w' base e size v n xs A c)
  (hb:Below W.heap.size W w0) (hown:w0.ownsRow base e size v m ys) (hB:W.heap.size≤base):Below W.heap.size W w':=
 hb.grown h.grown hb.size fun k hk=>Nat.le_trans hB (hown.lt k hk).1
theorem wpList_cat {P:Program}{w:World}{ops:Array Oper}{rest:List Oper}{o:Oper}{a:Act}{Q:Exit→Act→World→Prop}{bytes base n m c:Nat}{t e:TypeId}{v:Value}{xs:List Value}{s x:Operand}{A:Option Addr}{f:Nat→Value}
  (E:Elt P t e 1 bytes) (hown:w.ownsRow base e 1 v n xs) (hbase:base≤w.heap.size) (hgd:o.guard=none) (ho:o.op= .call {callee:= .builtin .append,args:=#[s,x],argTypes:=#[t,t]})
  (hs:a.eval s=v) (hx:a.eval x= .slice A m c) (hr:Rd w A m f) (hA:A=none→m=0∧c=0) (h1:∀j,j<m→(f j).oneCell'=true) (h63:n+m≤maxLen) (hbytes:(n+m)*bytes≤140737488355328)
  (h:∀A' c' w',Pushed w w' base e 1 v (n+m) (xs++(List.range m).map f) A' c'→wpList P ops Q rest (a.put o.dst (.slice A' (n+m) c')) w'):wpList P ops Q (o::rest) a w:=by
 obtain⟨ht,i,z,hi,hz,hsize,hby,hzs,hsz⟩:=E
 rcases A with _|ad
 ·obtain⟨rfl,rfl⟩:=hA rfl
  refine wpList_append_own_none hgd s x t ho base e i 1 ht hi v n xs hs hown hx ?_
  obtain⟨A',c',rfl⟩:=own_slice hown
  exact h A' c' w ⟨by simpa using hown,World.grownBy.refl w _,.inl rfl⟩
 ·refine wpList_append_own_at w hgd s x t ho base e i z 1 bytes ht hi hz hsize hby hzs hsz v n xs hs hown ad m c ((List.range m).map f) hx (by simp) ?_ ?_ h63 hbytes hbase ?_
  ·intro j u hj
   have hjm:j<m:=by
    rcases Nat.lt_or_ge j m with hlt|hge
    ·exact hlt
    ·rw [List.getElem?_eq_none (by simpa using hge)]at hj;cases hj
   obtain⟨b,off,e1,_,hc⟩:=hr j hjm
   injection e1 with e1
   subst e1
   rw [Addr.add_lit,hc,←hj]
   simp [hjm]
  ·intro u hu
   obtain⟨j,hj,rfl⟩:=List.mem_map.1 hu
   exact h1 j (List.mem_range.1 hj)
  ·intro v' w' hown' hg _ hat
   obtain⟨A',c',rfl⟩:=own_slice hown'
   refine h A' c' w' ⟨hown',hg,?_⟩
   rcases hat with e1|e1
   ·exact .inl e1
   ·exact .inr ⟨_,e1,Nat.le_refl _⟩
def Blk (w:World)(g:Nat)(cs:Array Value):Prop:=g<w.heap.size∧(∀j,w.cell? ⟨g,j,none⟩=cs[j]?)∧∀j,w.frozen? ⟨g,j,none⟩=false
theorem blk_new (w:World)(cs:Array Value)(t:TypeId):Blk (w.alloc (.cells cs t)) w.heap.size cs:=by
 refine⟨by simp [World.size_alloc],fun j=>World.cell?_alloc_new w cs t j,fun j=> ?_⟩
 rw [frozen?_alloc_cells]
 simp [World.frozen?]
theorem Blk.later {w w':World}{B g:Nat}{cs:Array Value}(h:Blk w g cs)(hb:Below B w w')(hg:g<B):Blk w' g cs:=
 ⟨Nat.lt_of_lt_of_le h.1 hb.size,fun j=>(hb.cell (p:=⟨g,j,none⟩) hg).trans (h.2.1 j),fun j=>(hb.frozen (p:=⟨g,j,none⟩) hg).trans (h.2.2 j)⟩
theorem Blk.alloc {w:World}{g:Nat}{cs:Array Value}(h:Blk w g cs)(o:Obj):Blk (w.alloc o) g cs:=h.later ((Below.refl _ _).alloc (Nat.le_refl _) o) h.1
theorem blk_three (w:World)(a b c:Array Value)(s t u:TypeId):Blk (((w.alloc (.cells a s)).alloc (.cells b t)).alloc (.cells c u)) w.heap.size a∧Blk (((w.alloc (.cells a s)).alloc (.cells b t)).alloc (.cells c u)) (w.heap.size+1) b∧Blk (((w.alloc (.cells a s)).alloc (.cells b t)).alloc (.cells c u)) (w.heap.size+1+1) c:=by
 refine⟨((blk_new w a s).alloc _).alloc _,?_,?_⟩
 ·have h:=(blk_new (w.alloc (.cells a s)) b t).alloc (.cells c u)
  rwa [World.size_alloc]at h
 ·have h:=blk_new ((w.alloc (.cells a s)).alloc (.cells b t)) c u
  rwa [World.size_alloc,World.size_alloc]at h
theorem grown_of_below {w w':World}(hb:Below w.heap.size w w'):w.grownBy w' none:=⟨hb.os,hb.tape,hb.output,hb.size,fun k hk _=>hb.block k hk⟩
theorem own_later {w w':World}{base:Nat}{e:TypeId}{size n:Nat}{v:Value}{xs:List Value}(h:w.ownsRow base e size v n xs)(hb:Below w.heap.size w w'):w'.ownsRow base e size v n xs:=
 h.kept (grown_of_below hb) (by cases hv:v.ownBlock with
  |none=>exact .inl rfl
  |some k=>exact .inr (by simp))
theorem Blk.grown {w w':World}{g:Nat}{cs:Array Value}{row:Option Nat}(h:Blk w g cs)(hg:w.grownBy w' row)(hne:some g≠row):Blk w' g cs:=
 ⟨Nat.lt_of_lt_of_le h.1 hg.size,fun j=>(World.cell?_of_block (a:=⟨g,j,none⟩) (hg.block g h.1 hne)).trans (h.2.1 j),fun j=>(World.frozen?_of_block (a:=⟨g,j,none⟩) (hg.block g h.1 hne)).trans (h.2.2 j)⟩
theorem at_world {P:World→Prop}{X:World}(F:World→Prop)(hF:F X)(h:∀X,F X→P X):P X:=h X hF
theorem Blk.drew {w:World}{g:Nat}{cs:Array Value}(h:Blk w g cs):Blk w.drew g cs:=h
theorem Blk.drewN {w:World}{g:Nat}{cs:Array Value}(h:Blk w g cs)(n:Nat):Blk (w.drewN n) g cs:=h
theorem Blk.far {w:World}{g:Nat}{cs:Array Value}(h:Blk w g cs){p:Addr}(hp:p.block≠g)(u:Value):Blk (w.setCell p u) g cs:=by
 have e:(w.setCell p u).heap[g]? =w.heap[g]? :=Below.heap_setCell w p u g (fun k=>hp k.symm)
 refine⟨by rw [World.size_setCell];exact h.1,fun j=> ?_,fun j=> ?_⟩
 ·exact(World.cell?_of_block (a:=⟨g,j,none⟩) e).trans (h.2.1 j)
 ·exact(World.frozen?_of_block (a:=⟨g,j,none⟩) e).trans (h.2.2 j)
theorem Blk.set_ {w:World}{g:Nat}{cs:Array Value}(h:Blk w g cs)(i:Nat)(hi:i<cs.size)(u:Value):Blk (w.setCell ⟨g,i,none⟩ u) g (cs.setIfInBounds i u):=by
 refine⟨by rw [World.size_setCell];exact h.1,fun j=> ?_,fun j=> ?_⟩
 ·by_cases hj:j=i
  ·subst hj
   rw [World.cell?_setCell_same (u:=cs[j]) _ _ _ (by rw [h.2.1];simp [hi])]
   simp [hi]
  ·rw [World.cell?_setCell_other _ _ _ _ (by intro e;injection e with _ e2;exact hj e2.symm),h.2.1]
   simp [Array.getElem?_setIfInBounds,Ne.symm hj]
 ·rw [World.frozen?_setCell,h.2.2]
theorem quiet_here {P:Program}{f:FuncId}{args:Array Value}{w:World}{n:Nat}{v:Value}(h:Calls P f args (w.drewN n) fun e w'=>e= .returned v∧w.drewN n=w'):Calls P f args (w.drewN n) fun e w''=>e= .returned v∧∃m,w''=w.drewN m:=
 h.mono fun _ _ hh=>⟨hh.1,n,hh.2.symm⟩
section
open Go.WideShapes Go.ChangeShapes
variable {H:Type}{enc:TypeId × Value→H}{P:Program}
theorem all_stay (hl:laidOutB P=true){W W':World}(hb:Below W.heap.size W W'):∀ {ts:List TypeId} {vs:List Value} {ds:List (DataW H)} {ps:List MemPlace},
  (ts.all fun t=>P.readableRec t&&decide (t<P.types.size))=true→DataW.TrodAll enc P W 0 (fun _=>true) true ts vs ds ps→(∀x∈ps,x.block<W.heap.size)→
  DataW.TrodAll enc P W' 0 (fun b=>decide (b<W.heap.size)) true ts vs ds ps
 |[],_,_,_,_,h,_=>by
  obtain⟨rfl,rfl,rfl⟩:=trodAll_nil h
  exact trodAll_mk0
 |t::ts,_,_,_,ht,h,hlt=>by
  obtain⟨v,vs1,d,ds1,a,b,rfl,rfl,rfl,h1,h2⟩:=trodAll_cons h
  simp only [List.all_cons,Bool.and_eq_true,decide_eq_true_eq]at ht
  exact trodAll_cons_mk (Below.trod hl ht.1.1 ht.1.2 h1 hb fun x hx=>hlt x (List.mem_append_left _ hx)) (all_stay hl hb ht.2 h2 fun x hx=>hlt x (List.mem_append_right _ hx))
theorem law_post {f:Func}{s:ChangeSpec}{W W':World}{args:Array Value}{ds:List (DataW H)}{before:List MemPlace}{tb:TypeId}
  (hW:DataW.Whole enc P f.params.toList s.vars false W args.toList ds [] before) (hv:s.vars=[]) (hres:(s.fn H (ds++[])).results=[.lit (.bool true)]) (hargs:(s.fn H (ds++[])).args=ds)
  (hvars:(s.fn H (ds++[])).vars=[]) (hl:laidOutB P=true) (hread:(f.params.toList.all fun t=>P.readableRec t&&decide (t<P.types.size))=true) (hr:f.resultTypes=#[tb]) (hb:P.underlying tb=some .bool)
  (hk:Below W.heap.size W W'):s.post enc P f false true false false W args (.bool true) W':=by
 have hlt:∀p∈before,p.block<W.heap.size:=fun p hp=>hW.lt p hp
 have hW0:=hW
 obtain⟨p,q,hA,hV,hpq,_,_⟩:=hW
 refine⟨ds,[],before,[],p,q,hW0,?_,?_,?_,World.keptBut_mono (fun x hx=>⟨hx,?_⟩) (hk.frame (· ∈before)),fun h=>by cases h⟩
 ·rw [hres,hr]
  exact trodAll_cons_mk (shut_bool hb true) trodAll_mk0
 ·rw [hargs]
  exact all_stay hl hk hread hA fun x hx=>hlt x (by rw [hpq];exact List.mem_append_left _ hx)
 ·rw [hvars]
  rw [hv]at hV ⊢
  obtain⟨_,rfl⟩:=trodVars_none hV
  rfl
 ·rw [hpq,List.mem_append]at hx
  exact Or.inr hx
end
open Go.RowKit
theorem wpList_catN {P:Program}{w:World}{ops:Array Oper}{rest:List Oper}{o:Oper}{a:Act}{Q:Exit→Act→World→Prop}{size bytes base n m c:Nat}{t e:TypeId}{v:Value}{xs ys:List Value}{s x:Operand}{b off:Nat}
  (E:Elt P t e size bytes) (hown:w.ownsRow base e size v n xs) (hbase:base≤w.heap.size) (hgd:o.guard=none) (ho:o.op= .call {callee:= .builtin .append,args:=#[s,x],argTypes:=#[t,t]})
  (hs:a.eval s=v) (hx:a.eval x= .slice (some ⟨b,off,none⟩) m c) (hl:ys.length=m*size) (hr:∀ (j:Nat) (u:Value),ys[j]? =some u→w.cell? ⟨b,off+j,none⟩=some u) (h1:∀u∈ys,u.oneCell'=true) (h63:n+m≤maxLen) (hbytes:(n+m)*bytes≤140737488355328)
  (h:∀A' c' w',Pushed w w' base e size v (n+m) (xs++ys) A' c'→wpList P ops Q rest (a.put o.dst (.slice A' (n+m) c')) w'):wpList P ops Q (o::rest) a w:=by
 obtain⟨ht,i,z,hi,hz,hsize,hby,hzs,hsz⟩:=E
 refine wpList_append_own_at w hgd s x t ho base e i z size bytes ht hi hz hsize hby hzs hsz v n xs hs hown ⟨b,off,none⟩ m c ys hx hl ?_ h1 h63 hbytes hbase ?_
 ·intro j u hj
  rw [Addr.add_lit]
  exact hr j u hj
 ·intro v' w' hown' hg _ hat
  obtain⟨A',c',rfl⟩:=own_slice hown'
  refine h A' c' w' ⟨hown',hg,?_⟩
  rcases hat with e1|e1
  ·exact .inl e1
  ·exact .inr ⟨_,e1,Nat.le_refl _⟩
theorem own_newN (w:World)(cs:Array Value)(e:TypeId)(size n:Nat)(hn:cs.size=n*size)(hm:n≤maxLen):(w.alloc (.cells cs e)).ownsRow w.heap.size e size (.slice (some ⟨w.heap.size,0,none⟩) n n) n cs.toList:=
 ⟨by simp [hn],.inr ⟨w.heap.size,n,cs,rfl,Nat.le_refl _,heap_alloc_new w _,Nat.le_refl _,hm,hn,by exact List.take_of_length_le (by simp [hn])⟩⟩
theorem blk_heap {w:World}{g:Nat}{cs:Array Value}{t:TypeId}(h:w.heap[g]? =some (.cells cs t (0,0))):Blk w g cs:=by
 refine⟨?_,fun j=> ?_,fun j=> ?_⟩
 ·rcases Nat.lt_or_ge g w.heap.size with hl|hl
  ·exact hl
  ·rw [Array.getElem?_eq_none hl]at h;cases h
 ·simp [World.cell?,h]
 ·simp [World.frozen?,h]
theorem own_blk {w:World}{base:Nat}{e:TypeId}{size n c:Nat}{A:Option Addr}{xs:List Value}(h:w.ownsRow base e size (.slice A n c) n xs)(hn:0<n):
  ∃g cs,A=some ⟨g,0,none⟩∧base≤g∧Blk w g cs∧n≤c∧c≤maxLen∧cs.size=c*size∧∀ (j:Nat) (u:Value),xs[j]? =some u→cs[j]? =some u:=by
 have hx:=h.1
 rcases h.2 with⟨hv,hx0⟩|⟨g,cap,cur,hv,hb,hh,h1,h2,h3,h4⟩
 ·injection hv with e1 e2 e3
  omega
 ·injection hv with e1 e2 e3
  subst e1;subst e3
  refine⟨g,cur,rfl,hb,blk_heap hh,h1,h2,h3,fun j u hj=> ?_⟩
  rw [←h4,List.getElem?_take]at hj
  split at hj
  ·simpa using hj
  ·cases hj
def flatL {α:Type}(enc:α→List Value)(L:List α):List Value:=L.flatMap enc
section
variable {α:Type}{enc:α→List Value}{k:Nat}
theorem flatL_snoc (L:List α)(x:α):flatL enc (L++[x])=flatL enc L++enc x:=by simp [flatL]
theorem flatL_append (L M:List α):flatL enc (L++M)=flatL enc L++flatL enc M:=by simp [flatL]
theorem flatL_len (hk:∀x,(enc x).length=k):∀L:List α,(flatL enc L).length=L.length*k
 |[]=>by simp [flatL]
 |x::L=>by
  have:=flatL_len hk L
  simp only [flatL,List.flatMap_cons,List.length_append,List.length_cons]at this ⊢
  rw [this,hk,Nat.add_mul,Nat.one_mul,Nat.add_comm]
theorem flatL_get (hk:∀x,(enc x).length=k):∀ (L:List α) (j:Nat) (x:α) (i:Nat) (u:Value),L[j]? =some x→(enc x)[i]? =some u→(flatL enc L)[j*k+i]? =some u
 |[],j,x,i,u,h,_=>by simp at h
 |y::L,0,x,i,u,h,hi=>by
  simp at h
  subst h
  have:i<(enc y).length:=(List.getElem?_eq_some_iff.1 hi).1
  simp only [flatL,List.flatMap_cons,Nat.zero_mul,Nat.zero_add]
  rw [List.getElem?_append_left this]
  exact hi
 |y::L,j+1,x,i,u,h,hi=>by
  have e:(j+1)*k+i=k+(j*k+i):=by rw [Nat.add_mul];omega
  simp only [flatL,List.flatMap_cons]
  rw [List.getElem?_append_right (by rw [hk];omega),hk,show (j+1)*k+i - k=j*k+i by omega]
  exact flatL_get hk L j x i u (by simpa using h) hi
def Li (k:Nat)(enc:α→List Value)(w:World)(S:Nat→Prop)(A:Option Addr)(L:List α):Prop:=
 ∀ (j:Nat) (x:α),L[j]? =some x→∃b o,A=some ⟨b,o,none⟩∧b<w.heap.size∧S b∧∀ (i:Nat) (u:Value),(enc x)[i]? =some u→w.cell? ⟨b,o+(j*k+i),none⟩=some u
variable {w w':World}{S S':Nat→Prop}{A:Option Addr}{L:List α}
theorem Li.nil (w:World)(S:Nat→Prop)(A:Option Addr):Li k enc w S A ([]:List α):=fun j x h=>by simp at h
theorem Li.later (h:Li k enc w S A L)(hb:Below w.heap.size w w'):Li k enc w' S A L:=by
 intro j x hj
 obtain⟨b,o,e,hl,hs,hc⟩:=h j x hj
 exact⟨b,o,e,Nat.lt_of_lt_of_le hl hb.size,hs,fun i u hu=>(hb.cell (p:=⟨b,o+(j*k+i),none⟩) hl).trans (hc i u hu)⟩
theorem Li.mono (h:Li k enc w S A L)(hs:∀b,S b→S' b):Li k enc w S' A L:=by
 intro j x hj
 obtain⟨b,o,e,hl,hS,hc⟩:=h j x hj
 exact⟨b,o,e,hl,hs b hS,hc⟩
theorem Li.old (h:Li k enc w S A L):Li k enc w (fun b=>b<w.heap.size∧S b) A L:=by
 intro j x hj
 obtain⟨b,o,e,hl,hS,hc⟩:=h j x hj
 exact⟨b,o,e,hl,⟨hl,hS⟩,hc⟩
theorem Li.grown {row:Option Nat}(h:Li k enc w S A L)(hg:w.grownBy w' row)(hS:∀b,S b→some b≠row):Li k enc w' S A L:=by
 intro j x hj
 obtain⟨b,o,e,hl,hs,hc⟩:=h j x hj
 exact⟨b,o,e,Nat.lt_of_lt_of_le hl hg.size,hs,fun i u hu=>(World.cell?_of_block (a:=⟨b,o+(j*k+i),none⟩) (hg.block b hl (hS b hs))).trans (hc i u hu)⟩
theorem Li.far (h:Li k enc w S A L){p:Addr}(hp:¬S p.block)(u:Value):Li k enc (w.setCell p u) S A L:=by
 intro j x hj
 obtain⟨b,o,e,hl,hs,hc⟩:=h j x hj
 have hne:p.block≠b:=fun e=>hp (e▸hs)
 have e1:(w.setCell p u).heap[b]? =w.heap[b]? :=Below.heap_setCell w p u b (fun k=>hne k.symm)
 exact⟨b,o,e,by rw [World.size_setCell];exact hl,hs,fun i v hv=>(World.cell?_of_block (a:=⟨b,o+(j*k+i),none⟩) e1).trans (hc i v hv)⟩
theorem Li.drewN (h:Li k enc w S A L)(n:Nat):Li k enc (w.drewN n) S A L:=h
theorem Li.take (h:Li k enc w S A L)(m:Nat):Li k enc w S A (L.take m):=by
 intro j x hj
 rw [List.getElem?_take]at hj
 split at hj
 ·exact h j x hj
 ·cases hj
theorem Li.drop {b o:Nat}(h:Li k enc w S (some ⟨b,o,none⟩) L)(m:Nat):Li k enc w S (some ⟨b,o+m*k,none⟩) (L.drop m):=by
 intro j x hj
 rw [List.getElem?_drop]at hj
 obtain⟨b',o',e,hl,hs,hc⟩:=h (m+j) x hj
 injection e with e
 injection e with e1 e2
 subst e1;subst e2
 refine⟨b,_,rfl,hl,hs,fun i u hu=> ?_⟩
 have:=hc i u hu
 rwa [show o+m*k+(j*k+i)=o+((m+j)*k+i)by rw [Nat.add_mul];omega]
theorem Li.own {base n c:Nat}{E:TypeId}(hk:∀x,(enc x).length=k)(hk0:0<k)(h:w.ownsRow base E k (.slice A n c) n (flatL enc L)):Li k enc w (fun b=>base≤b) A L:=by
 intro j x hj
 have hlt:j<L.length:=(List.getElem?_eq_some_iff.1 hj).1
 rcases h.2 with⟨hv,hx⟩|⟨g,cap,cur,hv,_⟩
 ·have hl:=h.1
  subst hx
  rw [flatL_len hk,Nat.zero_mul]at hl
  rcases Nat.mul_eq_zero.1 hl with hL|hL<;>omega
 ·injection hv with hA _ _
  subst hA
  refine⟨g,0,rfl,(h.lt g rfl).2,(h.lt g rfl).1,fun i u hu=> ?_⟩
  have:=h.cells (g:=g) rfl (j*k+i) u (flatL_get hk L j x i u hj hu)
  rwa [Addr.add_lit]at this
theorem own_count {base n:Nat}{E:TypeId}{v:Value}(hk:∀x,(enc x).length=k)(hk0:0<k)(h:w.ownsRow base E k v n (flatL enc L)):L.length=n:=by
 have:=h.1
 rw [flatL_len hk]at this
 exact Nat.eq_of_mul_eq_mul_right hk0 this
theorem Li.new (hk:∀x,(enc x).length=k)(w:World)(cs:Array Value)(t:TypeId)(hcs:cs.toList=flatL enc L):Li k enc (w.alloc (.cells cs t)) (fun b=>w.heap.size≤b) (some ⟨w.heap.size,0,none⟩) L:=by
 intro j x hj
 refine⟨w.heap.size,0,rfl,by simp,Nat.le_refl _,fun i u hu=> ?_⟩
 rw [Nat.zero_add,World.cell?_alloc_new,←Array.getElem?_toList,hcs]
 exact flatL_get hk L j x i u hj hu
def LiV (k:Nat)(enc:α→List Value)(w:World)(S:Nat→Prop)(v:Value)(L:List α):Prop:=
 ∃A c,v= .slice A L.length c∧Li k enc w S A L∧(A=none→L.length=0∧c=0)∧L.length≤c∧c≤maxLen
theorem LiV.later {v:Value}(h:LiV k enc w S v L)(hb:Below w.heap.size w w'):LiV k enc w' S v L:=by
 obtain⟨A,c,e,hl,hx⟩:=h
 exact⟨A,c,e,hl.later hb,hx⟩
theorem LiV.mono {v:Value}(h:LiV k enc w S v L)(hs:∀b,S b→S' b):LiV k enc w S' v L:=by
 obtain⟨A,c,e,hl,hx⟩:=h
 exact⟨A,c,e,hl.mono hs,hx⟩
theorem LiV.old {v:Value}(h:LiV k enc w S v L):LiV k enc w (fun b=>b<w.heap.size∧S b) v L:=by
 obtain⟨A,c,e,hl,hx⟩:=h
 exact⟨A,c,e,hl.old,hx⟩
theorem LiV.grown {v:Value}{row:Option Nat}(h:LiV k enc w S v L)(hg:w.grownBy w' row)(hS:∀b,S b→some b≠row):LiV k enc w' S v L:=by
 obtain⟨A,c,e,hl,hx⟩:=h
 exact⟨A,c,e,hl.grown hg hS,hx⟩
theorem LiV.far {v:Value}(h:LiV k enc w S v L){p:Addr}(hp:¬S p.block)(u:Value):LiV k enc (w.setCell p u) S v L:=by
 obtain⟨A,c,e,hl,hx⟩:=h
 exact⟨A,c,e,hl.far hp u,hx⟩
theorem LiV.nil (w:World)(S:Nat→Prop):LiV k enc w S (.slice none 0 0) ([]:List α):=⟨none,0,rfl,Li.nil _ _ _,fun _=>⟨rfl,rfl⟩,Nat.le_refl _,Nat.zero_le _⟩
theorem LiV.own {base n c:Nat}{E:TypeId}(hk:∀x,(enc x).length=k)(hk0:0<k)(h:w.ownsRow base E k (.slice A n c) n (flatL enc L)):LiV k enc w (fun b=>base≤b) (.slice A n c) L:=by
 have hl:=own_count hk hk0 h
 have h1:=Li.own hk hk0 h
 subst hl
 rcases h.2 with⟨hv,hx⟩|⟨g,cap,cur,hv,h2,h3,h4,h5,_⟩
 ·injection hv with e1 e2 e3
  subst e1;subst e3
  exact⟨none,0,rfl,h1,fun _=>⟨e2,rfl⟩,by omega,Nat.zero_le _⟩
 ·injection hv with e1 e2 e3
  subst e1;subst e3
  exact⟨_,_,rfl,h1,(fun h=>by cases h),h4,h5⟩
theorem LiV.parts {n c:Nat}(h:LiV k enc w S (.slice A n c) L):n=L.length∧Li k enc w S A L∧(A=none→L.length=0∧c=0)∧L.length≤c∧c≤9223372036854775807:=by
 obtain⟨A',c',e,hl,h1,h2,h3⟩:=h
 injection e with e1 e2 e3
 subst e1;subst e2;subst e3
 exact⟨rfl,hl,h1,h2,h3⟩
theorem LiV.is {v:Value}(h:LiV k enc w S v L):∃A c,v= .slice A L.length c∧L.length≤c∧c≤9223372036854775807:=by
 obtain⟨A,c,e,_,_,h1,h2⟩:=h
 exact⟨A,c,e,h1,h2⟩
theorem LiV.one {v:Value}(h:LiV k enc w S v L):v.oneCell'=true:=by
 obtain⟨A,c,rfl,_⟩:=h
 rfl
theorem LiV.take {n c:Nat}(h:LiV k enc w S (.slice A n c) L)(m:Nat)(hm:m≤L.length):LiV k enc w S (.slice A m c) (L.take m):=by
 obtain⟨rfl,hl,h1,h2,h3⟩:=h.parts
 have hlen:(L.take m).length=m:=by simp;omega
 exact⟨A,c,by rw [hlen],hl.take m,fun e=>⟨by have:=(h1 e).1;omega,(h1 e).2⟩,by omega,h3⟩
theorem Li.at (h:Li k enc w S A L){j:Nat}(hj:j<L.length):∃b o,A=some ⟨b,o,none⟩∧b<w.heap.size∧S b∧∀ (i:Nat) (u:Value),(enc L[j])[i]? =some u→w.cell? ⟨b,o+(j*k+i),none⟩=some u:=
 h j L[j] (List.getElem?_eq_getElem hj)
end
theorem wpList_pushM {P:Program}{w0:World}{cs:Array Value}{e':TypeId}{ops:Array Oper}{rest:List Oper}{o:Oper}{a:Act}{Q:Exit→Act→World→Prop}{size bytes base n m k:Nat}{t e:TypeId}{v:Value}{xs:List Value}{s x:Operand}
  (E:Elt P t e size bytes) (hown:w0.ownsRow base e size v n xs) (hbase:base≤w0.heap.size) (hgd:o.guard=none) (ho:o.op= .call {callee:= .builtin .append,args:=#[s,x],argTypes:=#[t,t]})
  (hs:a.eval s=v) (hx:a.eval x= .slice (some ⟨k,0,none⟩) m m) (hk:k=w0.heap.size) (hcs:cs.size=m*size) (h1:cs.toList.all Value.oneCell'=true) (h63:n+m≤maxLen) (hbytes:(n+m)*bytes≤140737488355328)
  (h:∀A c w',Pushed w0 w' base e size v (n+m) (xs++cs.toList) A c→wpList P ops Q rest (a.put o.dst (.slice A (n+m) c)) w'):wpList P ops Q (o::rest) a (w0.alloc (.cells cs e')):=by
 obtain⟨ht,i,z,hi,hz,hsize,hby,hzs,hsz⟩:=E
 subst hk
 refine wpList_append_own_at (w0.alloc (.cells cs e')) hgd s x t ho base e i z size bytes ht hi hz hsize hby hzs hsz v n xs hs (hown.alloc _) ⟨w0.heap.size,0,none⟩ m m cs.toList hx (by simp [hcs]) ?_ ?_ h63 hbytes (by rw [World.size_alloc];omega) ?_
 ·intro j u hj
  rw [Addr.add_lit,Nat.zero_add,World.cell?_alloc_new,←hj]
  simp
 ·intro u hu
  exact List.all_eq_true.1 h1 u hu
 ·intro v' w' hown' hg _ hat
  obtain⟨A,c,rfl⟩:=own_slice hown'
  refine h A c w' ⟨hown',(World.grownBy_alloc w0 _ _).trans hg,?_⟩
  rcases hat with e1|e1
  ·exact .inl e1
  ·exact .inr ⟨_,e1,by rw [World.size_alloc];omega⟩
theorem atCalls {P:Program}{f:Nat}{args:Array Value}{X:World}{Q:Ending→World→Prop}(F:World→Prop)(hF:F X)(h:∀X,F X→Calls P f args X Q):Calls P f args X Q:=h X hF
theorem ownLow {w:World}{base base' n size:Nat}{e:TypeId}{v:Value}{xs:List Value}(h:w.ownsRow base e size v n xs)(hb:base'≤base):w.ownsRow base' e size v n xs:=by
 refine⟨h.1,?_⟩
 rcases h.2 with h'|⟨g,cap,cur,h1,h2,h3⟩
 ·exact .inl h'
 ·exact .inr ⟨g,cap,cur,h1,Nat.le_trans hb h2,h3⟩
theorem ownDrew {w:World}{base n size:Nat}{e:TypeId}{v:Value}{xs:List Value}(h:w.ownsRow base e size v n xs)(k:Nat):(w.drewN k).ownsRow base e size v n xs:=h
theorem belDrew {B:Nat}{w v:World}(h:Below B w v)(q:Nat):Below B w (v.drewN q):=⟨h.os,h.tape,h.output,h.size,h.block⟩
theorem selfDrew (w:World)(q:Nat):Below w.heap.size w (w.drewN q):=belDrew (Below.refl _ _) q
def encI (x:Int):List Value:=[.int .i64 x]
theorem encI_len (x:Int):(encI x).length=1:=rfl
theorem flatI (L:List Int):flatL encI L=L.map (Value.int .i64):=by
 induction L with
 |nil=>rfl
 |cons x L ih=>simp only [flatL,List.flatMap_cons]at ih ⊢;rw [ih];rfl
theorem Li.int {w:World}{S:Nat→Prop}{A:Option Addr}{L:List Int}(h:Li 1 encI w S A L){j:Nat}(hj:j<L.length):∃b o,A=some ⟨b,o,none⟩∧b<w.heap.size∧S b∧w.cell? ⟨b,o+j,none⟩=some (.int .i64 (L.getD j 0)):=by
 obtain⟨b,o,e,hl,hs,hc⟩:=h.at hj
 refine⟨b,o,e,hl,hs,?_⟩
 have:=hc 0 _ rfl
 rw [Nat.mul_one,Nat.add_zero]at this
 rw [this]
 simp [List.getD,hj]
theorem belGrow (w:World)(os:Array Obj):Below w.heap.size w (Go.Sort.grow w os):=
 ⟨rfl,rfl,rfl,by simp,fun i hi=>Go.Sort.heap_grow_old w os hi⟩
theorem own_sorted {w0 X:World}{base n c q g:Nat}{E:TypeId}{zs ys:List Int}{os:Array Obj}(h:X.ownsRow base E 1 (.slice (some ⟨g,0,none⟩) n c) n (flatL encI zs))(hb:Below base w0 X)(hX:base≤X.heap.size)(hy:ys.length=n):
  (Go.Sort.grow (Go.Sort.putRow (Value.int .i64) (Go.Sort.ahead X q) g 0 ys.toArray) os).ownsRow base E 1 (.slice (some ⟨g,0,none⟩) n c) n (flatL encI ys)∧Below base w0 (Go.Sort.grow (Go.Sort.putRow (Value.int .i64) (Go.Sort.ahead X q) g 0 ys.toArray) os):=by
 rw [flatI]at h
 have hg:base≤g:=(h.lt g rfl).1
 have h1:=Go.Lib.ownsRow_putRow (enc:=Value.int .i64) (q:=q) h hy (Nat.le_refl n)
 have h2:=Go.Lib.below_putRow (enc:=Value.int .i64) (q:=q) (d:=ys.toArray) hb hg
 refine⟨?_,h2.trans ((belGrow _ os).mono (by simpa using hX))⟩
 rw [flatI]
 have h3:=own_later h1 (belGrow _ os)
 rwa [List.take_of_length_le (by omega)]at h3
theorem own_cut {w0 X:World}{base n c q g k:Nat}{E:TypeId}{zs ys:List Int}(h:X.ownsRow base E 1 (.slice (some ⟨g,0,none⟩) n c) n (flatL encI zs))(hb:Below base w0 X)(hy:ys.length=n)(hk:k≤n):
  (Go.Sort.putRow (Value.int .i64) (Go.Sort.ahead X q) g 0 ys.toArray).ownsRow base E 1 (.slice (some ⟨g,0,none⟩) k c) k (flatL encI (ys.take k))∧Below base w0 (Go.Sort.putRow (Value.int .i64) (Go.Sort.ahead X q) g 0 ys.toArray):=by
 rw [flatI]at h
 have hg:base≤g:=(h.lt g rfl).1
 refine⟨?_,Go.Lib.below_putRow (enc:=Value.int .i64) (q:=q) (d:=ys.toArray) hb hg⟩
 rw [flatI]
 exact Go.Lib.ownsRow_putRow (enc:=Value.int .i64) (q:=q) h hy hk
theorem holds_own {X:World}{base n c:Nat}{E:TypeId}{A:Option Addr}{zs:List Int}(h:X.ownsRow base E 1 (.slice A n c) n (flatL encI zs))(hn:0<n):
  ∃g,A=some ⟨g,0,none⟩∧base≤g∧g<X.heap.size∧n≤c∧c≤9223372036854775807∧Go.Sort.Holds (Value.int .i64) X g 0 zs.toArray:=by
 rw [flatI]at h
 obtain⟨g,cap,e,h1,h2,h3,h4,_,h5⟩:=Go.Lib.holds_of_ownsRow (enc:=Value.int .i64) h (fun e=>by injection e with _ e _;omega)
 injection e with e1 _ e2
 subst e1;subst e2
 exact⟨g,rfl,h1,h2,h3,h4,h5⟩
theorem Li.ints {w:World}{S:Nat→Prop}{A:Option Addr}{L:List Int}(h:Li 1 encI w S A L)(hn:0<L.length):∃b o,A=some ⟨b,o,none⟩∧b<w.heap.size∧S b∧∀j,j<L.length→w.cell? ⟨b,o+j,none⟩=some (.int .i64 (L.getD j 0)):=by
 obtain⟨b,o,e,hl,hs,_⟩:=h.int hn
 refine⟨b,o,e,hl,hs,fun j hj=> ?_⟩
 obtain⟨b',o',e',_,_,hc⟩:=h.int hj
 rw [e]at e'
 injection e' with e'
 injection e' with e1 e2
 subst e1;subst e2
 exact hc
theorem flatK_flatL {α:Type} [Inhabited α] {enc:α→List Value}{k:Nat}(hk:∀x,(enc x).length=k)(hk0:0<k)(L:List α)(t:Nat)(ht:t<L.length*k):(flatL enc L)[t]? =some (Go.Sort.flatK enc k L.toArray)[t]! :=by
 rw [Go.Sort.get_flatK _ _ _ _ (by simpa using ht)]
 have h1:t/k<L.length:=Nat.div_lt_of_lt_mul (by rwa [Nat.mul_comm]at ht)
 have h2:t%k<k:=Nat.mod_lt _ hk0
 have e:t=t/k*k+t%k:=by rw [Nat.mul_comm];exact(Nat.div_add_mod t k).symm
 have h3:(L.toArray)[t/k]! =L[t/k]:=by simp [h1]
 rw [h3]
 have h4:t%k<(enc L[t/k]).length:=by rw [hk];exact h2
 conv=>lhs;rw [e]
 rw [flatL_get hk L (t/k) L[t/k] (t%k) ((enc L[t/k])[t%k]) (List.getElem?_eq_getElem h1) (List.getElem?_eq_getElem h4)]
 simp [h4]
theorem holdsK_own {α:Type} [Inhabited α] {enc:α→List Value}{k:Nat}(hk:∀x,(enc x).length=k)(hk0:0<k){w:World}{base n c:Nat}{E:TypeId}{A:Option Addr}{L:List α}(h:w.ownsRow base E k (.slice A n c) n (flatL enc L))(hn:0<n):
  ∃g,A=some ⟨g,0,none⟩∧base≤g∧g<w.heap.size∧n≤c∧c≤9223372036854775807∧Go.Sort.HoldsK enc k w g 0 L.toArray:=by
 obtain⟨g,cs,rfl,hg,hB,h1,h2,h3,h4⟩:=own_blk h hn
 have hl:=own_count hk hk0 h
 refine⟨g,rfl,hg,hB.1,h1,h2,fun j hj=>⟨?_,hB.2.2 _⟩⟩
 have hj':j<L.length*k:=by simpa using hj
 rw [hB.2.1,Nat.zero_add]
 exact h4 j _ (flatK_flatL hk hk0 L j hj')
theorem li_holdsK {α:Type} [Inhabited α] {enc:α→List Value}{k:Nat}(hk:∀x,(enc x).length=k){w:World}{g o:Nat}{d:Array α}(h:Go.Sort.HoldsK enc k w g o d)(hg:g<w.heap.size):Li k enc w (fun b=>b=g) (some ⟨g,o,none⟩) d.toList:=by
 intro j x hj
 refine⟨g,o,rfl,hg,rfl,fun i u hu=> ?_⟩
 have hlt:j<d.size:=by simpa using (List.getElem?_eq_some_iff.1 hj).1
 have hi:i<(enc x).length:=(List.getElem?_eq_some_iff.1 hu).1
 have:=(h.cell hlt (by rw [hk]at hi;exact hi)).1
 rw [←Nat.add_assoc,this]
 have e1:d[j]! =x:=by
  have:=(List.getElem?_eq_some_iff.1 hj).2
  simpa [hlt]using this
 rw [e1]
 have e2:=(List.getElem?_eq_some_iff.1 hu).2
 simp [hi,e2]
theorem sorted_li {α:Type} [Inhabited α] {enc:α→List Value}{k:Nat}(hk:∀x,(enc x).length=k){w:World}{g o n:Nat}{d d':Array α}{os:Array Obj}(h:Go.Sort.HoldsK enc k w g o d)(hg:g<w.heap.size)(hs:d'.size=d.size):
  Li k enc (Go.Proofs.sortWorldK enc k w g o n d' os) (fun b=>b=g) (some ⟨g,o,none⟩) d'.toList:=by
 have h1:Go.Sort.HoldsK enc k (Go.Sort.putRowK enc k (Go.Sort.ahead w n) g o d') g o d':=Go.Sort.holdsK_putRowK enc k _ _ _ d d' h hs
 have hg1:g<(Go.Sort.putRowK enc k (Go.Sort.ahead w n) g o d').heap.size:=by rw [Go.Sort.size_putRowK];exact hg
 exact li_holdsK hk (Go.Sort.holdsK_grow enc k _ os _ _ _ hg1 h1) (by simp [Go.Proofs.sortWorldK];omega)
theorem sorted_below {α:Type} [Inhabited α] {enc:α→List Value}{k:Nat}{w0 w:World}{B g o n:Nat}{d':Array α}{os:Array Obj}(h:Below B w0 w)(hg:B≤g)(hB:B≤w.heap.size):Below B w0 (Go.Proofs.sortWorldK enc k w g o n d' os):=by
 refine h.trans ⟨rfl,rfl,rfl,by simp [Go.Proofs.sortWorldK,Go.Sort.size_putRowK],fun i hi=> ?_⟩
 show ((Go.Sort.putRowK enc k (Go.Sort.ahead w n) g o d').heap++os)[i]? =_
 rw [Array.getElem?_append_left (by rw [Go.Sort.size_putRowK];show i<w.heap.size;omega)]
 simp [Go.Sort.putRowK,Go.Sort.putRow,Go.Sort.mapBlock,Go.Sort.ahead,Array.getElem?_modify,show g≠i by omega]
end Go.Proofs.YtlopleeopnnoeaaGreat
