import Derived.Test.YtlopleeopnnoeaaGreatMb01
import Derived.Deep.RegionHeld3
import Derived.Deep.AppendLies
import Derived.Maps.AppendAt
import Derived.Laws.AppendOwnNone
import Derived.Test.YtlopleeopnnoeaaGreatMb02
set_option linter.unusedVariables false
set_option linter.unusedSimpArgs false
namespace Go.Proofs.YtlopleeopnnoeaaGreat
open Go.RowKit
theorem step_cat {P:Program}{w:World}{ops:Array Oper}{o:Oper}{a:Act}{K:Act→World→Prop}{Q:Exit→Act→World→Prop}{Ep:Prop}{bytes base n m c:Nat}{t e:TypeId}{v:Value}{xs:List Value}{s x:Operand}{A:Option Addr}{f:Nat→Value}
  (E:Elt P t e 1 bytes) (hown:w.ownsRow base e 1 v n xs) (hbase:base≤w.heap.size) (hgd:o.guard=none) (ho:o.op= .call {callee:= .builtin .append,args:=#[s,x],argTypes:=#[t,t]})
  (hs:a.eval s=v) (hx:a.eval x= .slice A m c) (hr:Rd w A m f) (hA:A=none→m=0∧c=0) (h1:∀j,j<m→(f j).oneCell'=true) (h63:n+m≤maxLen) (hbytes:(n+m)*bytes≤140737488355328)
  (h:∀A' c' w',Pushed w w' base e 1 v (n+m) (xs++(List.range m).map f) A' c'→K (a.put o.dst (.slice A' (n+m) c')) w'):if Region.wanted o (yielded ops a.tmps)=true then Oper.wp P o a w K Q else Ep:=by
 have hw:Region.wanted o (yielded ops a.tmps)=true:=by simp [Region.wanted,hgd]
 rw [if_pos hw]
 obtain⟨ht,i,z,hi,hz,hsize,hby,hzs,hsz⟩:=E
 rcases A with _|ad
 ·obtain⟨rfl,rfl⟩:=hA rfl
  have hrun:=run_append_owned_none (P:=P) (w:=w) base t o.type e i 1 ht hi v n xs hown
  obtain⟨A',c',rfl⟩:=own_slice hown
  unfold Oper.wp
  simp [execOp,ho,resolve,invoke,builtin,hs,hx,hrun,Result.andThen]
  exact h A' c' w ⟨by simpa using hown,World.grownBy.refl w _,.inl rfl⟩
 ·obtain⟨v',w',hrr,h2,h3,h4,h5⟩:=run_append_own_at (P:=P) w base t o.type e i z 1 bytes ht hi hz hsize hby hzs hsz v n xs hown ad m c ((List.range m).map f) (by simp) (by
   intro j u hj
   have hjm:j<m:=by
    rcases Nat.lt_or_ge j m with hlt|hge
    ·exact hlt
    ·rw [List.getElem?_eq_none (by simpa using hge)]at hj;cases hj
   obtain⟨b,off,e1,_,hc⟩:=hr j hjm
   injection e1 with e1
   subst e1
   rw [Addr.add_lit,hc,←hj]
   simp [hjm]) (by
   intro u hu
   obtain⟨j,hj,rfl⟩:=List.mem_map.1 hu
   exact h1 j (List.mem_range.1 hj)) h63 hbytes hbase
  obtain⟨A',c',rfl⟩:=own_slice h2
  unfold Oper.wp execOp
  simp only [ho,resolve,invoke,builtin,Sem.run_bind,Sem.run_pure,Result.andThen_ok,List.map_toArray,List.map_cons,List.map_nil,hs,hx,hrr]
  refine h A' c' w' ⟨h2,h3,?_⟩
  rcases h5 with e1|e1
  ·exact .inl e1
  ·exact .inr ⟨_,e1,Nat.le_refl _⟩
theorem step_push {P:Program}{w0 w:World}{e':TypeId}{ops:Array Oper}{o:Oper}{a:Act}{K:Act→World→Prop}{Q:Exit→Act→World→Prop}{Ep:Prop}{bytes base n k:Nat}{t e:TypeId}{v:Value}{xs:List Value}{s x:Operand}{u:Value}
  (E:Elt P t e 1 bytes) (hown:w0.ownsRow base e 1 v n xs) (hbase:base≤w0.heap.size) (hgd:o.guard=none) (ho:o.op= .call {callee:= .builtin .append,args:=#[s,x],argTypes:=#[t,t]})
  (hs:a.eval s=v) (hx:a.eval x= .slice (some ⟨k,0,none⟩) 1 1) (hk:k=w0.heap.size) (hw:w=(w0.alloc (.cells #[u] e')).drew) (h1:u.oneCell'=true) (h63:n+1≤maxLen) (hbytes:(n+1)*bytes≤140737488355328)
  (h:∀A c w',Pushed w0 w' base e 1 v (n+1) (xs++[u]) A c→K (a.put o.dst (.slice A (n+1) c)) w'):if Region.wanted o (yielded ops a.tmps)=true then Oper.wp P o a w K Q else Ep:=by
 subst hw;subst hk
 have hr:Rd (w0.alloc (.cells #[u] e')).drew (some ⟨w0.heap.size,0,none⟩) 1 (fun _=>u):=rd_new w0 _ e' 1 _ fun j hj=>(by obtain rfl:j=0:=(by omega);rfl)
 have hown':(w0.alloc (.cells #[u] e')).drew.ownsRow base e 1 v n xs:=own_later hown (((Below.refl _ _).alloc (Nat.le_refl _) _).drew)
 refine step_cat E hown' (by simp [World.size_alloc];omega) hgd ho hs hx hr (fun h=>by cases h) (fun _ _=>h1) h63 hbytes fun A c w' hp=> ?_
 have e1:(List.range 1).map (fun _=>u)=[u]:=rfl
 have ho:=hp.own
 rw [e1]at ho
 refine h A c w' ⟨ho,?_,?_⟩
 ·exact((World.grownBy_alloc w0 _ _).trans ⟨hp.grown.os,hp.grown.tape,hp.grown.output,hp.grown.size,hp.grown.block⟩)
 ·rcases hp.at_ with h1|⟨q,h1,h2⟩
  ·exact .inl h1
  ·exact .inr ⟨q,h1,by simp [World.size_alloc]at h2;omega⟩
theorem setCell_far {w:World}{g i h j:Nat}{u v:Value}(hne:g≠h)(hc:w.cell? ⟨h,j,none⟩=some v):(w.setCell ⟨g,i,none⟩ u).cell? ⟨h,j,none⟩=some v:=by
 rw [World.cell?_setCell_other]
 ·exact hc
 ·intro e
  injection e with e1
  first|exact hne e1|exact hne e1.symm
theorem flatL_inv {α:Type}{enc:α→List Value}{k:Nat}(hk:∀x,(enc x).length=k):∀ (L:List α) (j:Nat) (u:Value),(flatL enc L)[j]? =some u→∃q x i,L[q]? =some x∧(enc x)[i]? =some u∧j=q*k+i
 |[],j,u,h=>by simp [flatL]at h
 |y::L,j,u,h=>by
  simp only [flatL,List.flatMap_cons]at h
  rcases Nat.lt_or_ge j (enc y).length with hj|hj
  ·rw [List.getElem?_append_left hj]at h
   exact⟨0,y,j,rfl,h,by simp⟩
  ·rw [List.getElem?_append_right hj]at h
   obtain⟨q,x,i,h1,h2,h3⟩:=flatL_inv hk L _ u h
   refine⟨q+1,x,i,by simpa using h1,h2,?_⟩
   rw [hk]at h3 hj
   rw [Nat.add_mul]
   omega
theorem wpList_li {α:Type}{enc:α→List Value}{P:Program}{w:World}{ops:Array Oper}{rest:List Oper}{o:Oper}{a:Act}{Q:Exit→Act→World→Prop}{k bytes base n m c:Nat}{t e:TypeId}{v:Value}{xs:List Value}{s x:Operand}{A:Option Addr}{S:Nat→Prop}{M:List α}
  (hk:∀x,(enc x).length=k) (hk1:∀x,∀u∈enc x,u.oneCell'=true) (E:Elt P t e k bytes) (hown:w.ownsRow base e k v n xs) (hbase:base≤w.heap.size) (hgd:o.guard=none) (ho:o.op= .call {callee:= .builtin .append,args:=#[s,x],argTypes:=#[t,t]})
  (hs:a.eval s=v) (hx:a.eval x= .slice A m c) (hL:LiV k enc w S (.slice A m c) M) (h63:n+m≤maxLen) (hbytes:(n+m)*bytes≤140737488355328)
  (h:∀A' c' w',Pushed w w' base e k v (n+m) (xs++flatL enc M) A' c'→wpList P ops Q rest (a.put o.dst (.slice A' (n+m) c')) w'):wpList P ops Q (o::rest) a w:=by
 obtain⟨ht,i,z,hi,hz,hsize,hby,hzs,hsz⟩:=E
 obtain⟨rfl,hli,hnil,_,_⟩:=hL.parts
 rcases A with _|ad
 ·obtain⟨h0,rfl⟩:=hnil rfl
  obtain rfl:M=[]:=List.eq_nil_of_length_eq_zero h0
  refine wpList_append_own_none hgd s x t ho base e i k ht hi v n xs hs hown hx ?_
  obtain⟨A',c',rfl⟩:=own_slice hown
  exact h A' c' w ⟨by simpa [flatL]using hown,World.grownBy.refl w _,.inl rfl⟩
 ·refine wpList_append_own_at w hgd s x t ho base e i z k bytes ht hi hz hsize hby hzs hsz v n xs hs hown ad M.length c (flatL enc M) hx (flatL_len hk M) ?_ ?_ h63 hbytes hbase ?_
  ·intro j u hj
   obtain⟨q,y,i,h1,h2,rfl⟩:=flatL_inv hk M j u hj
   obtain⟨b,off,e1,_,_,hc⟩:=hli q y h1
   injection e1 with e1
   subst e1
   rw [Addr.add_lit]
   exact hc i u h2
  ·intro u hu
   obtain⟨y,_,hy⟩:=List.mem_flatMap.1 hu
   exact hk1 y u hy
  ·intro v' w' hown' hg _ hat
   obtain⟨A',c',rfl⟩:=own_slice hown'
   refine h A' c' w' ⟨hown',hg,?_⟩
   rcases hat with e1|e1
   ·exact .inl e1
   ·exact .inr ⟨_,e1,Nat.le_refl _⟩
def lenTo {α:Type}(Ls:List (List α))(j:Nat):Nat:=(Ls.take j).flatten.length
theorem lenTo_succ {α:Type}{Ls:List (List α)}{j:Nat}{L:List α}(h:Ls[j]? =some L):lenTo Ls (j+1)=lenTo Ls j+L.length:=by
 obtain⟨hj,e⟩:=List.getElem?_eq_some_iff.1 h
 unfold lenTo
 rw [List.take_succ_eq_append_getElem hj,e]
 simp
theorem flat_succ {α:Type}{Ls:List (List α)}{j:Nat}{L:List α}(h:Ls[j]? =some L):(Ls.take (j+1)).flatten=(Ls.take j).flatten++L:=by
 obtain⟨hj,e⟩:=List.getElem?_eq_some_iff.1 h
 rw [List.take_succ_eq_append_getElem hj,e]
 simp
theorem lenTo_le {α:Type}(Ls:List (List α))(j:Nat):lenTo Ls j≤Ls.flatten.length:=by
 unfold lenTo
 have h:Ls.flatten=(Ls.take j).flatten++(Ls.drop j).flatten:=by rw [←List.flatten_append,List.take_append_drop]
 rw [h,List.length_append]
 omega
structure Many {α:Type}(k:Nat)(enc:α→List Value)(w:World)(A:Nat→Option Addr)(c:Nat→Nat)(Ls:List (List α)):Prop where
 li:∀j L,Ls[j]? =some L→LiV k enc w (fun _=>True) (.slice (A j) L.length (c j)) L
end Go.Proofs.YtlopleeopnnoeaaGreat
