import Derived.Test.YtlopleeopnnoeaaGreatMs04
set_option linter.unusedVariables false
set_option linter.unusedSimpArgs false
namespace Go.Proofs.YtlopleeopnnoeaaGreat
open Go.RowKit
def liR (l:List Int)(j:Nat):Value:= .int .i32 (l.getD j 0)
def Sl (w:World)(S:Nat→Prop)(v:Value)(n:Nat)(f:Nat→Value):Prop:=
 ∃A c,v= .slice A n c∧Rd w A n f∧(A=none→n=0∧c=0)∧n≤c∧c≤maxLen∧∀a,A=some a→0<n→S a.block
theorem Sl.later {w w':World}{S:Nat→Prop}{v:Value}{n:Nat}{f:Nat→Value}(h:Sl w S v n f)(hb:Below w.heap.size w w'):Sl w' S v n f:=by
 obtain⟨A,c,e,hr,hx⟩:=h
 exact⟨A,c,e,hr.later hb,hx⟩
theorem Sl.mono {w:World}{S S':Nat→Prop}{v:Value}{n:Nat}{f:Nat→Value}(h:Sl w S v n f)(hs:∀b,S b→S' b):Sl w S' v n f:=by
 obtain⟨A,c,e,hr,h0,h1,h2,h3⟩:=h
 exact⟨A,c,e,hr,h0,h1,h2,fun a ha hn=>hs _ (h3 a ha hn)⟩
theorem Sl.old {w:World}{S:Nat→Prop}{v:Value}{n:Nat}{f:Nat→Value}(h:Sl w S v n f):Sl w (fun b=>b<w.heap.size∧S b) v n f:=by
 obtain⟨A,c,e,hr,h0,h1,h2,h3⟩:=h
 refine⟨A,c,e,hr,h0,h1,h2,fun a ha hn=> ?_⟩
 obtain⟨b,o,e1,hl,_⟩:=hr 0 hn
 rw [ha]at e1
 injection e1 with e1
 exact⟨by rw [e1];exact hl,h3 a ha hn⟩
theorem Sl.far {w:World}{S:Nat→Prop}{v:Value}{n:Nat}{f:Nat→Value}(h:Sl w S v n f){p:Addr}(hp:¬S p.block)(u:Value):Sl (w.setCell p u) S v n f:=by
 obtain⟨A,c,e,hr,h0,h1,h2,h3⟩:=h
 refine⟨A,c,e,fun j hj=> ?_,h0,h1,h2,h3⟩
 obtain⟨b,o,e1,hl,hc⟩:=hr j hj
 refine⟨b,o,e1,by rw [World.size_setCell];exact hl,?_⟩
 have hS:S b:=by have:=h3 _ e1 (by omega);exact this
 have hne:p.block≠b:=fun e=>hp (e▸hS)
 have e:(w.setCell p u).heap[b]? =w.heap[b]? :=Below.heap_setCell w p u b (fun k=>hne k.symm)
 exact(World.cell?_of_block (a:=⟨b,o+j,none⟩) e).trans hc
theorem Sl.drew {w:World}{S:Nat→Prop}{v:Value}{n:Nat}{f:Nat→Value}(h:Sl w S v n f):Sl w.drew S v n f:=h
theorem Sl.one {w:World}{S:Nat→Prop}{v:Value}{n:Nat}{f:Nat→Value}(h:Sl w S v n f):v.oneCell'=true:=by
 obtain⟨A,c,rfl,_⟩:=h
 rfl
theorem Sl.nil (w:World)(S:Nat→Prop)(f:Nat→Value):Sl w S (.slice none 0 0) 0 f:=⟨none,0,rfl,Rd.empty _ _ _,fun _=>⟨rfl,rfl⟩,Nat.le_refl _,Nat.zero_le _,fun a ha=>by cases ha⟩
theorem Sl.congr {w:World}{S:Nat→Prop}{v:Value}{n:Nat}{f g:Nat→Value}(h:Sl w S v n f)(e:∀j,j<n→f j=g j):Sl w S v n g:=by
 obtain⟨A,c,e1,hr,hx⟩:=h
 exact⟨A,c,e1,hr.congr e,hx⟩
theorem Sl.is {w:World}{S:Nat→Prop}{v:Value}{n:Nat}{f:Nat→Value}(h:Sl w S v n f):∃A c,v= .slice A n c∧n≤c∧c≤9223372036854775807:=by
 obtain⟨A,c,e,_,_,h1,h2,_⟩:=h
 exact⟨A,c,e,h1,h2⟩
theorem Sl.parts {w:World}{S:Nat→Prop}{A:Option Addr}{m n c:Nat}{f:Nat→Value}(h:Sl w S (.slice A m c) n f):m=n∧Rd w A n f∧(A=none→n=0∧c=0)∧n≤c∧c≤9223372036854775807:=by
 obtain⟨A',c',e,hr,h0,h1,h2,_⟩:=h
 injection e with e1 e2 e3
 subst e1;subst e2;subst e3
 exact⟨rfl,hr,h0,h1,h2⟩
theorem Sl.take {w:World}{S:Nat→Prop}{A:Option Addr}{n k c:Nat}{f:Nat→Value}(h:Sl w S (.slice A k c) n f)(m:Nat)(hm:m≤n):Sl w S (.slice A m c) m f:=by
 obtain⟨A',c',e,hr,h0,h1,h2,h3⟩:=h
 injection e with e1 e2 e3
 subst e1;subst e2;subst e3
 exact⟨A,c,rfl,fun j hj=>hr j (by omega),fun e=>⟨by have:=(h0 e).1;omega,(h0 e).2⟩,by omega,h2,fun a ha hn=>h3 a ha (by omega)⟩
theorem Sl.tail {w:World}{S:Nat→Prop}{b o k n c:Nat}{f:Nat→Value}(h:Sl w S (.slice (some ⟨b,o,none⟩) k c) n f)(m:Nat)(hm:m≤n):Sl w S (.slice (some ⟨b,o+m,none⟩) (n - m) (c - m)) (n - m) (fun j=>f (m+j)):=by
 obtain⟨A',c',e,hr,h0,h1,h2,h3⟩:=h
 injection e with e1 e2 e3
 subst e1;subst e2;subst e3
 unfold maxLen at*
 refine⟨_,_,rfl,fun j hj=> ?_,fun e=>(by cases e),by omega,by unfold maxLen;omega,fun a ha hn=> ?_⟩
 ·obtain⟨b',o',e1,hl,hc⟩:=hr (m+j) (by omega)
  injection e1 with e1
  injection e1 with e1 e2
  subst e1;subst e2
  exact⟨_,_,rfl,hl,by rw [Nat.add_assoc];exact hc⟩
 ·have:=h3 ⟨b,o,none⟩ rfl (by omega)
  injection ha with ha
  subst ha
  exact this
theorem sl_own {w:World}{base:Nat}{e:TypeId}{A:Option Addr}{n c:Nat}{xs:List Value}{f:Nat→Value}(h:w.ownsRow base e 1 (.slice A n c) n xs)(hf:∀j,j<n→xs[j]? =some (f j)):Sl w (fun b=>base≤b) (.slice A n c) n f:=by
 have hr:=rd_own h hf
 rcases h.2 with⟨hv,hx⟩|⟨g,cap,cur,hv,hb,hh,h1,h2,_⟩
 ·injection hv with e1 e2 e3
  subst e1;subst e2;subst e3
  exact⟨_,_,rfl,hr,fun _=>⟨rfl,rfl⟩,Nat.le_refl _,Nat.zero_le _,fun a ha=>by cases ha⟩
 ·injection hv with e1 e2 e3
  subst e1;subst e3
  exact⟨_,_,rfl,hr,(fun h=>by cases h),h1,h2,fun a ha hn=>by injection ha with ha;subst ha;exact hb⟩
def TxtS (w:World)(S:Nat→Prop)(v:Value)(l:List Int):Prop:=Sl w S v l.length (liR l)
abbrev Any:Nat→Prop:=fun _=>True
def Txt (w:World)(v:Value)(l:List Int):Prop:=TxtS w Any v l
theorem Txt.later {w w':World}{v:Value}{l:List Int}(h:Txt w v l)(hb:Below w.heap.size w w'):Txt w' v l:=Sl.later h hb
theorem TxtS.later {w w':World}{S:Nat→Prop}{v:Value}{l:List Int}(h:TxtS w S v l)(hb:Below w.heap.size w w'):TxtS w' S v l:=Sl.later h hb
theorem TxtS.any {w:World}{S:Nat→Prop}{v:Value}{l:List Int}(h:TxtS w S v l):Txt w v l:=Sl.mono h fun _ _=>trivial
theorem TxtS.old {w:World}{S:Nat→Prop}{v:Value}{l:List Int}(h:TxtS w S v l):TxtS w (fun b=>b<w.heap.size∧S b) v l:=Sl.old h
theorem Txt.nil (w:World):Txt w (.slice none 0 0) []:=Sl.nil _ _ _
theorem txt_own {w:World}{base n:Nat}{e:TypeId}{A:Option Addr}{c:Nat}{l:List Int}(hn:l.length=n)(h:w.ownsRow base e 1 (.slice A n c) n (l.map (Value.int .i32))):TxtS w (fun b=>base≤b) (.slice A n c) l:=by
 subst hn
 exact sl_own h fun j hj=>by simp [liR,List.getD,hj]
def TellsT (l:List Int)(w:World)(e:Ending)(w':World):Prop:=∃A n c,e= .returned (.slice A n c)∧TxtS w' (fun b=>w.heap.size≤b) (.slice A n c) l∧Below w.heap.size w w'
theorem liR_map (l:List Int):(List.range l.length).map (liR l)=l.map (Value.int .i32):=by
 apply List.ext_getElem
 ·simp
 ·intro i h1 h2
  simp at h2
  simp [liR,List.getD,h2]
def TxtsS (w:World)(S:Nat→Prop)(v:Value)(L:List (List Int)):Prop:=
 ∃vs:Nat→Value,Sl w S v L.length vs∧∀j,j<L.length→TxtS w S (vs j) (L.getD j [])
def Txts (w:World)(v:Value)(L:List (List Int)):Prop:=TxtsS w Any v L
theorem TxtsS.later {w w':World}{S:Nat→Prop}{v:Value}{L:List (List Int)}(h:TxtsS w S v L)(hb:Below w.heap.size w w'):TxtsS w' S v L:=by
 obtain⟨vs,h1,h2⟩:=h
 exact⟨vs,h1.later hb,fun j hj=>(h2 j hj).later hb⟩
theorem Txts.later {w w':World}{v:Value}{L:List (List Int)}(h:Txts w v L)(hb:Below w.heap.size w w'):Txts w' v L:=TxtsS.later h hb
theorem TxtsS.mono {w:World}{S S':Nat→Prop}{v:Value}{L:List (List Int)}(h:TxtsS w S v L)(hs:∀b,S b→S' b):TxtsS w S' v L:=by
 obtain⟨vs,h1,h2⟩:=h
 exact⟨vs,h1.mono hs,fun j hj=>Sl.mono (h2 j hj) hs⟩
theorem TxtsS.any {w:World}{S:Nat→Prop}{v:Value}{L:List (List Int)}(h:TxtsS w S v L):Txts w v L:=h.mono fun _ _=>trivial
theorem TxtsS.old {w:World}{S:Nat→Prop}{v:Value}{L:List (List Int)}(h:TxtsS w S v L):TxtsS w (fun b=>b<w.heap.size∧S b) v L:=by
 obtain⟨vs,h1,h2⟩:=h
 exact⟨vs,h1.old,fun j hj=>Sl.old (h2 j hj)⟩
theorem TxtsS.far {w:World}{S:Nat→Prop}{v:Value}{L:List (List Int)}(h:TxtsS w S v L){p:Addr}(hp:¬S p.block)(u:Value):TxtsS (w.setCell p u) S v L:=by
 obtain⟨vs,h1,h2⟩:=h
 exact⟨vs,h1.far hp u,fun j hj=>Sl.far (h2 j hj) hp u⟩
theorem Txts.nil (w:World)(S:Nat→Prop):TxtsS w S (.slice none 0 0) []:=⟨fun _=> .nilIface,Sl.nil _ _ _,fun j hj=>absurd hj (by simp)⟩
theorem TxtsS.is {w:World}{S:Nat→Prop}{v:Value}{L:List (List Int)}(h:TxtsS w S v L):∃A c,v= .slice A L.length c∧L.length≤c∧c≤9223372036854775807:=by
 obtain⟨vs,h1,h2⟩:=h
 exact h1.is
theorem TxtsS.take {w:World}{S:Nat→Prop}{A:Option Addr}{n c:Nat}{L:List (List Int)}(h:TxtsS w S (.slice A n c) L)(m:Nat)(hm:m≤L.length):TxtsS w S (.slice A m c) (L.take m):=by
 obtain⟨vs,h1,h2⟩:=h
 have hl:(L.take m).length=m:=by simp;omega
 refine⟨vs,by rw [hl];exact h1.take m hm,fun j hj=> ?_⟩
 rw [hl]at hj
 have:=h2 j (by omega)
 rwa [show (L.take m).getD j []=L.getD j []by simp [List.getD,List.getElem?_take,hj]]
theorem TxtsS.tail {w:World}{S:Nat→Prop}{b o k c:Nat}{L:List (List Int)}(h:TxtsS w S (.slice (some ⟨b,o,none⟩) k c) L)(m:Nat)(hm:m≤L.length):TxtsS w S (.slice (some ⟨b,o+m,none⟩) (L.length - m) (c - m)) (L.drop m):=by
 obtain⟨vs,h1,h2⟩:=h
 have hl:(L.drop m).length=L.length - m:=by simp
 refine⟨fun j=>vs (m+j),by rw [hl];exact h1.tail m hm,fun j hj=> ?_⟩
 rw [hl]at hj
 have:=h2 (m+j) (by omega)
 rwa [show (L.drop m).getD j []=L.getD (m+j) []by simp [List.getD]]
theorem TxtsS.at_ {w:World}{S:Nat→Prop}{A:Option Addr}{n c:Nat}{L:List (List Int)}(h:TxtsS w S (.slice A n c) L){j:Nat}(hj:j<L.length):
  ∃b o Aj nj cj,A=some ⟨b,o,none⟩∧b<w.heap.size∧w.cell? ⟨b,o+j,none⟩=some (.slice Aj nj cj)∧TxtS w S (.slice Aj nj cj) (L.getD j []):=by
 obtain⟨vs,h1,h2⟩:=h
 obtain⟨rfl,hr,_⟩:=h1.parts
 obtain⟨b,o,e,hl,hc⟩:=hr j hj
 have ht:=h2 j hj
 obtain⟨Aj,cj,ev,_⟩:=ht.is
 rw [ev]at hc ht
 exact⟨b,o,Aj,_,cj,e,hl,hc,ht⟩
theorem Txt.len {w:World}{S:Nat→Prop}{A:Option Addr}{n c:Nat}{l:List Int}(h:TxtS w S (.slice A n c) l):n=l.length:=(Sl.parts h).1
theorem txts_own {w:World}{base n:Nat}{e:TypeId}{A:Option Addr}{c:Nat}{xs:List Value}{L:List (List Int)}{S:Nat→Prop}(hn:L.length=n)(h:w.ownsRow base e 1 (.slice A n c) n xs)(hS:∀b,base≤b→S b)(ht:∀j,j<n→∃u,xs[j]? =some u∧TxtS w S u (L.getD j [])):TxtsS w S (.slice A n c) L:=by
 subst hn
 refine⟨fun j=>xs.getD j .nilIface,(sl_own h fun j hj=> ?_).mono hS,fun j hj=> ?_⟩
 ·obtain⟨u,hu,_⟩:=ht j hj
  simp [List.getD,hu]
 ·obtain⟨u,hu,ht⟩:=ht j hj
  simpa [List.getD,hu]using ht
theorem TxtsS.len {w:World}{S:Nat→Prop}{A:Option Addr}{n c:Nat}{L:List (List Int)}(h:TxtsS w S (.slice A n c) L):n=L.length:=by
 obtain⟨vs,h1,_⟩:=h
 exact h1.parts.1
theorem Sl.grown {w w':World}{S:Nat→Prop}{v:Value}{n:Nat}{f:Nat→Value}{row:Option Nat}(h:Sl w S v n f)(hg:w.grownBy w' row)(hS:∀b,S b→some b≠row):Sl w' S v n f:=by
 obtain⟨A,c,e,hr,h0,h1,h2,h3⟩:=h
 refine⟨A,c,e,fun j hj=> ?_,h0,h1,h2,h3⟩
 obtain⟨b,o,e1,hl,hc⟩:=hr j hj
 exact⟨b,o,e1,Nat.lt_of_lt_of_le hl hg.size,(World.cell?_of_block (a:=⟨b,o+j,none⟩) (hg.block b hl (hS b (h3 _ e1 (by omega))))).trans hc⟩
def OwnTs (base:Nat)(w:World)(v:Value)(xs:List Value)(k:Nat)(L:List (List Int)):Prop:=
 ∀j,j<k→∃u,xs[j]? =some u∧TxtS w (fun b=>base≤b∧some b≠v.ownBlock) u (L.getD j [])
theorem OwnTs.later {base:Nat}{w w':World}{v:Value}{xs:List Value}{k:Nat}{L:List (List Int)}(h:OwnTs base w v xs k L)(hb:Below w.heap.size w w'):OwnTs base w' v xs k L:=fun j hj=>by
 obtain⟨u,h1,h2⟩:=h j hj
 exact⟨u,h1,h2.later hb⟩
theorem OwnTs.push {base:Nat}{wr w1 w':World}{v u:Value}{xs:List Value}{k:Nat}{L:List (List Int)}{E:TypeId}{A:Option Addr}{c:Nat}(h:OwnTs base wr v xs k L)(hown:wr.ownsRow base E 1 v k xs)(hb:Below wr.heap.size wr w1)(hbase:base≤wr.heap.size)
  (hu:TxtS w1 (fun b=>wr.heap.size≤b) u (L.getD k [])) (hp:Pushed w1 w' base E 1 v (k+1) (xs++[u]) A c):OwnTs base w' (.slice A (k+1) c) (xs++[u]) (k+1) L:=by
 have hx:xs.length=k:=by have:=hown.1;omega
 have keep {S:Nat→Prop} {x:Value} {l:List Int} (hS:∀b,S b→base≤b∧some b≠v.ownBlock) (ht:TxtS w1 S x l):TxtS w' (fun b=>base≤b∧some b≠(Value.slice A (k+1) c).ownBlock) x l:=by
  refine Sl.mono (Sl.grown (Sl.old ht) hp.grown fun b hb=>(hS b hb.2).2) fun b hb=>⟨(hS b hb.2).1,fun e=> ?_⟩
  rcases hp.at_ with e1|⟨q,e1,hq⟩
  ·exact(hS b hb.2).2 (e.trans e1)
  ·rw [e1]at e
   injection e with e
   omega
 intro j hj
 by_cases hjk:j=k
 ·subst hjk
  refine⟨u,by rw [List.getElem?_append_right (by omega),hx];simp,keep (fun b hb=>⟨by omega,fun e=> ?_⟩) hu⟩
  have:=(hown.lt b e.symm).2
  omega
 ·obtain⟨u',h1,h2⟩:=h j (by omega)
  exact⟨u',by rw [List.getElem?_append_left (by omega)];exact h1,keep (fun b hb=>hb) (h2.later hb)⟩
end Go.Proofs.YtlopleeopnnoeaaGreat
