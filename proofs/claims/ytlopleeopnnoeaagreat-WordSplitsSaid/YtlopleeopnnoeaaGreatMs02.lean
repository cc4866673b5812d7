import Derived.Test.YtlopleeopnnoeaaGreatMb01
import Derived.Deep.RegionHeld3
import Derived.Deep.AppendLies
import Derived.Maps.AppendAt
import Derived.Laws.AppendOwnNone
import Derived.Test.YtlopleeopnnoeaaGreatMb02
import Derived.Test.YtlopleeopnnoeaaGreatMs01
set_option linter.unusedVariables false
set_option linter.unusedSimpArgs false
namespace Go.Proofs.YtlopleeopnnoeaaGreat
open Go.RowKit
theorem step_cat {P:Program}{w:World}{ops:Array Oper}{o:Oper}{a:Act}{K:Act→World→Prop}{Q:Exit→Act→World→Prop}{Ep:Prop}{bytes base n m c:Nat}{t e:TypeId}{v:Value}{xs:List Value}{s x:Operand}{A:Option Addr}{f:Nat→Value}
  (E:Elt P t e 1 bytes) (hown:w.ownsRow base e 1 v n xs) (hbase:base≤w.heap.size) (hgd:o.guard=none) (ho:o.op= .call {callee:= .builtin .append,args:=#[s,x],argTypes:=#[t,t]})
  (hs:a.eval s=v) (hx:a.eval x= .slice A m c) (hr:Rd w A m f) (hA:A=none→m=0∧c=0) (h1:∀j,j<m→(f j).oneCell'=true) (h63:n+m≤maxLen) (hbytes:(n+m)*bytes≤140737488355328)
  (h:∀A' c' w',Pushed w w' base e 1 v (n+m) (xs++(List.range m).map f) A' c'→K (a.put o.dst (.slice A' (n+m) c')) w'):if Region.wanted o (yielded ops a.tmps)=true then Oper.wp P o a w K Q else Ep:=by
 have hw:Region.wanted o (yielded ops a.tmps)=true:=by simp [Region.wanted,hgd]
 rw [if_pos hw]
 obtain⟨ht,i,z,hi,hz,hsize,hby,hzs,hsz⟩:=E
 rcases A with _|ad
 ·obtain⟨rfl,rfl⟩:=hA rfl
  have hrun:=run_append_owned_none (P:=P) (w:=w) base t o.type e i 1 ht hi v n xs hown
  obtain⟨A',c',rfl⟩:=own_slice hown
  unfold Oper.wp
  simp [execOp,ho,resolve,invoke,builtin,hs,hx,hrun,Result.andThen]
  exact h A' c' w ⟨by simpa using hown,World.grownBy.refl w _,.inl rfl⟩
 ·obtain⟨v',w',hrr,h2,h3,h4,h5⟩:=run_append_own_at (P:=P) w base t o.type e i z 1 bytes ht hi hz hsize hby hzs hsz v n xs hown ad m c ((List.range m).map f) (by simp) (by
   intro j u hj
   have hjm:j<m:=by
    rcases Nat.lt_or_ge j m with hlt|hge
    ·exact hlt
    ·rw [List.getElem?_eq_none (by simpa using hge)]at hj;cases hj
   obtain⟨b,off,e1,_,hc⟩:=hr j hjm
   injection e1 with e1
   subst e1
   rw [Addr.add_lit,hc,←hj]
   simp [hjm]) (by
   intro u hu
   obtain⟨j,hj,rfl⟩:=List.mem_map.1 hu
   exact h1 j (List.mem_range.1 hj)) h63 hbytes hbase
  obtain⟨A',c',rfl⟩:=own_slice h2
  unfold Oper.wp execOp
  simp only [ho,resolve,invoke,builtin,Sem.run_bind,Sem.run_pure,Result.andThen_ok,List.map_toArray,List.map_cons,List.map_nil,hs,hx,hrr]
  refine h A' c' w' ⟨h2,h3,?_⟩
  rcases h5 with e1|e1
  ·exact .inl e1
  ·exact .inr ⟨_,e1,Nat.le_refl _⟩
theorem step_push {P:Program}{w0 w:World}{e':TypeId}{ops:Array Oper}{o:Oper}{a:Act}{K:Act→World→Prop}{Q:Exit→Act→World→Prop}{Ep:Prop}{bytes base n k:Nat}{t e:TypeId}{v:Value}{xs:List Value}{s x:Operand}{u:Value}
  (E:Elt P t e 1 bytes) (hown:w0.ownsRow base e 1 v n xs) (hbase:base≤w0.heap.size) (hgd:o.guard=none) (ho:o.op= .call {callee:= .builtin .append,args:=#[s,x],argTypes:=#[t,t]})
  (hs:a.eval s=v) (hx:a.eval x= .slice (some ⟨k,0,none⟩) 1 1) (hk:k=w0.heap.size) (hw:w=(w0.alloc (.cells #[u] e')).drew) (h1:u.oneCell'=true) (h63:n+1≤maxLen) (hbytes:(n+1)*bytes≤140737488355328)
  (h:∀A c w',Pushed w0 w' base e 1 v (n+1) (xs++[u]) A c→K (a.put o.dst (.slice A (n+1) c)) w'):if Region.wanted o (yielded ops a.tmps)=true then Oper.wp P o a w K Q else Ep:=by
 subst hw;subst hk
 have hr:Rd (w0.alloc (.cells #[u] e')).drew (some ⟨w0.heap.size,0,none⟩) 1 (fun _=>u):=rd_new w0 _ e' 1 _ fun j hj=>(by obtain rfl:j=0:=(by omega);rfl)
 have hown':(w0.alloc (.cells #[u] e')).drew.ownsRow base e 1 v n xs:=own_later hown (((Below.refl _ _).alloc (Nat.le_refl _) _).drew)
 refine step_cat E hown' (by simp [World.size_alloc];omega) hgd ho hs hx hr (fun h=>by cases h) (fun _ _=>h1) h63 hbytes fun A c w' hp=> ?_
 have e1:(List.range 1).map (fun _=>u)=[u]:=rfl
 have ho:=hp.own
 rw [e1]at ho
 refine h A c w' ⟨ho,?_,?_⟩
 ·exact((World.grownBy_alloc w0 _ _).trans ⟨hp.grown.os,hp.grown.tape,hp.grown.output,hp.grown.size,hp.grown.block⟩)
 ·rcases hp.at_ with h1|⟨q,h1,h2⟩
  ·exact .inl h1
  ·exact .inr ⟨q,h1,by simp [World.size_alloc]at h2;omega⟩
theorem setCell_far {w:World}{g i h j:Nat}{u v:Value}(hne:g≠h)(hc:w.cell? ⟨h,j,none⟩=some v):(w.setCell ⟨g,i,none⟩ u).cell? ⟨h,j,none⟩=some v:=by
 rw [World.cell?_setCell_other]
 ·exact hc
 ·intro e
  injection e with e1
  first|exact hne e1|exact hne e1.symm
theorem flatL_inv {α:Type}{enc:α→List Value}{k:Nat}(hk:∀x,(enc x).length=k):∀ (L:List α) (j:Nat) (u:Value),(flatL enc L)[j]? =some u→∃q x i,L[q]? =some x∧(enc x)[i]? =some u∧j=q*k+i
 |[],j,u,h=>by simp [flatL]at h
 |y::L,j,u,h=>by
  simp only [flatL,List.flatMap_cons]at h
  rcases Nat.lt_or_ge j (enc y).length with hj|hj
  ·rw [List.getElem?_append_left hj]at h
   exact⟨0,y,j,rfl,h,by simp⟩
  ·rw [List.getElem?_append_right hj]at h
   obtain⟨q,x,i,h1,h2,h3⟩:=flatL_inv hk L _ u h
   refine⟨q+1,x,i,by simpa using h1,h2,?_⟩
   rw [hk]at h3 hj
   rw [Nat.add_mul]
   omega
theorem wpList_li {α:Type}{enc:α→List Value}{P:Program}{w:World}{ops:Array Oper}{rest:List Oper}{o:Oper}{a:Act}{Q:Exit→Act→World→Prop}{k bytes base n m c:Nat}{t e:TypeId}{v:Value}{xs:List Value}{s x:Operand}{A:Option Addr}{S:Nat→Prop}{M:List α}
  (hk:∀x,(enc x).length=k) (hk1:∀x,∀u∈enc x,u.oneCell'=true) (E:Elt P t e k bytes) (hown:w.ownsRow base e k v n xs) (hbase:base≤w.heap.size) (hgd:o.guard=none) (ho:o.op= .call {callee:= .builtin .append,args:=#[s,x],argTypes:=#[t,t]})
  (hs:a.eval s=v) (hx:a.eval x= .slice A m c) (hL:LiV k enc w S (.slice A m c) M) (h63:n+m≤maxLen) (hbytes:(n+m)*bytes≤140737488355328)
  (h:∀A' c' w',Pushed w w' base e k v (n+m) (xs++flatL enc M) A' c'→wpList P ops Q rest (a.put o.dst (.slice A' (n+m) c')) w'):wpList P ops Q (o::rest) a w:=by
 obtain⟨ht,i,z,hi,hz,hsize,hby,hzs,hsz⟩:=E
 obtain⟨rfl,hli,hnil,_,_⟩:=hL.parts
 rcases A with _|ad
 ·obtain⟨h0,rfl⟩:=hnil rfl
  obtain rfl:M=[]:=List.eq_nil_of_length_eq_zero h0
  refine wpList_append_own_none hgd s x t ho base e i k ht hi v n xs hs hown hx ?_
  obtain⟨A',c',rfl⟩:=own_slice hown
  exact h A' c' w ⟨by simpa [flatL]using hown,World.grownBy.refl w _,.inl rfl⟩
 ·refine wpList_append_own_at w hgd s x t ho base e i z k bytes ht hi hz hsize hby hzs hsz v n xs hs hown ad M.length c (flatL enc M) hx (flatL_len hk M) ?_ ?_ h63 hbytes hbase ?_
  ·intro j u hj
   obtain⟨q,y,i,h1,h2,rfl⟩:=flatL_inv hk M j u hj
   obtain⟨b,off,e1,_,_,hc⟩:=hli q y h1
   injection e1 with e1
   subst e1
   rw [Addr.add_lit]
   exact hc i u h2
  ·intro u hu
   obtain⟨y,_,hy⟩:=List.mem_flatMap.1 hu
   exact hk1 y u hy
  ·intro v' w' hown' hg _ hat
   obtain⟨A',c',rfl⟩:=own_slice hown'
   refine h A' c' w' ⟨hown',hg,?_⟩
   rcases hat with e1|e1
   ·exact .inl e1
   ·exact .inr ⟨_,e1,Nat.le_refl _⟩
def lenTo {α:Type}(Ls:List (List α))(j:Nat):Nat:=(Ls.take j).flatten.length
theorem lenTo_succ {α:Type}{Ls:List (List α)}{j:Nat}{L:List α}(h:Ls[j]? =some L):lenTo Ls (j+1)=lenTo Ls j+L.length:=by
 obtain⟨hj,e⟩:=List.getElem?_eq_some_iff.1 h
 unfold lenTo
 rw [List.take_succ_eq_append_getElem hj,e]
 simp
theorem flat_succ {α:Type}{Ls:List (List α)}{j:Nat}{L:List α}(h:Ls[j]? =some L):(Ls.take (j+1)).flatten=(Ls.take j).flatten++L:=by
 obtain⟨hj,e⟩:=List.getElem?_eq_some_iff.1 h
 rw [List.take_succ_eq_append_getElem hj,e]
 simp
theorem lenTo_le {α:Type}(Ls:List (List α))(j:Nat):lenTo Ls j≤Ls.flatten.length:=by
 unfold lenTo
 have h:Ls.flatten=(Ls.take j).flatten++(Ls.drop j).flatten:=by rw [←List.flatten_append,List.take_append_drop]
 rw [h,List.length_append]
 omega
structure Many {α:Type}(k:Nat)(enc:α→List Value)(w:World)(A:Nat→Option Addr)(c:Nat→Nat)(Ls:List (List α)):Prop where
 li:∀j L,Ls[j]? =some L→LiV k enc w (fun _=>True) (.slice (A j) L.length (c j)) L
theorem own_setCellK {w:World}{base:Nat}{e:TypeId}{size n:Nat}{v:Value}{xs:List Value}(h:w.ownsRow base e size v n xs)(g i:Nat)(u:Value)(hne:v.ownBlock≠some g):(w.setCell ⟨g,i,none⟩ u).ownsRow base e size v n xs:=
 h.kept (row:=some g) ⟨rfl,rfl,rfl,by simp [World.setCell],fun k _ hk=>Below.heap_setCell _ _ _ _ (fun e=>hk (by simp [e]))⟩ (.inr hne)
structure TkR (w:World)(a:Nat)(A:Option Addr)(n c:Nat)(T:List Int)(E:Nat)(X:World):Prop where
 res:Blk X w.heap.size #[.int .i64 0,.int .i64 0,.slice none 0 0]
 var:Blk X (w.heap.size+1) #[.int .i64 a,.int .i64 E,.slice A n c]
 own:X.ownsRow (w.heap.size+2) 21 1 (.slice A n c) n (flatL encC T)
 below:Below w.heap.size w X
section
variable {w:World}{a:Nat}{A:Option Addr}{n c:Nat}{T:List Int}{E:Nat}
theorem TkR.far {X:World}(R:TkR w a A n c T E X)(g:Nat)(hg:g<w.heap.size+2):some g≠(Value.slice A n c).ownBlock:=fun e=>by
 have:=(R.own.lt g e.symm).1
 omega
theorem TkR.start (w:World)(a:Nat)(s t:TypeId):TkR w a none 0 0 [] 0 ((w.alloc (.cells #[.int .i64 0,.int .i64 0,.slice none 0 0] s)).alloc (.cells #[.int .i64 a,.int .i64 0,.slice none 0 0] t)):=by
 refine⟨(blk_new w _ s).alloc _,?_,World.ownsRow_nil _ _ _ _,((Below.refl _ _).alloc (Nat.le_refl _) _).alloc (by simp [World.size_alloc]) _⟩
 have h:=blk_new (w.alloc (.cells #[.int .i64 0,.int .i64 0,.slice none 0 0] s)) #[.int .i64 a,.int .i64 0,.slice none 0 0] t
 rwa [World.size_alloc]at h
theorem TkR.later {X Y:World}(R:TkR w a A n c T E X)(hb:Below X.heap.size X Y):TkR w a A n c T E Y:=
 ⟨R.res.later hb R.res.1,R.var.later hb R.var.1,own_later R.own hb,R.below.trans (hb.mono R.below.size)⟩
theorem TkR.drew {X:World}(R:TkR w a A n c T E X):TkR w a A n c T E X.drew:=R.later (Below.refl _ _).drew
theorem TkR.next {X Y:World}{A3:Option Addr}{c3 m:Nat}{xs:List Value}{M:List Int}(R:TkR w a A n c T 0 X)(hx:xs=flatL encC M)(hp:Pushed X Y (w.heap.size+2) 21 1 (.slice A n c) (n+m) (flatL encC T++xs) A3 c3):TkR w a A3 (n+m) c3 (T++M) 0 (Y.setCell ⟨w.heap.size+1,2,none⟩ (.slice A3 (n+m) c3)):=by
 have ho:=hp.own
 rw [hx,←flatL_append]at ho
 have hne:(Value.slice A3 (n+m) c3).ownBlock≠some (w.heap.size+1):=fun e=>by
  have:=(ho.lt _ e).1
  omega
 refine⟨?_,?_,own_setCellK ho _ _ _ hne,?_⟩
 ·exact(R.res.grown hp.grown (R.far _ (by omega))).far (by show w.heap.size+1≠w.heap.size;omega) _
 ·exact(R.var.grown hp.grown (R.far _ (by omega))).set_ 2 (by simp) _
 ·exact(hp.below R.below R.own (by omega)).setCell (p:=⟨w.heap.size+1,2,none⟩) (by simp only;omega) _
structure TkF (w:World)(x y:Int)(A:Option Addr)(n c:Nat)(T:List Int)(X:World):Prop where
 res:Blk X w.heap.size #[.int .i64 x,.int .i64 y,.slice A n c]
 own:X.ownsRow w.heap.size 21 1 (.slice A n c) n (flatL encC T)
 below:Below w.heap.size w X
theorem TkR.fin {X:World}(R:TkR w a A n c T E X):TkF w a E A n c T (((X.setCell ⟨w.heap.size,0,none⟩ (.int .i64 a)).setCell ⟨w.heap.size,1,none⟩ (.int .i64 E)).setCell ⟨w.heap.size,2,none⟩ (.slice A n c)):=by
 have hne:(Value.slice A n c).ownBlock≠some w.heap.size:=fun e=>R.far _ (by omega) e.symm
 refine⟨((R.res.set_ 0 (by simp) _).set_ 1 (by simp) _).set_ 2 (by simp) _,?_,?_⟩
 ·exact ownLow (own_setCellK (own_setCellK (own_setCellK R.own _ _ _ hne) _ _ _ hne) _ _ _ hne) (by omega)
 ·exact((R.below.setCell (p:=⟨w.heap.size,0,none⟩) (Nat.le_refl _) _).setCell (p:=⟨w.heap.size,1,none⟩) (Nat.le_refl _) _).setCell (p:=⟨w.heap.size,2,none⟩) (Nat.le_refl _) _
theorem TkR.fin0 {X:World}(R:TkR w a A n c T E X):TkF w 0 0 none 0 0 [] (((X.setCell ⟨w.heap.size,0,none⟩ (.int .i64 0)).setCell ⟨w.heap.size,1,none⟩ (.int .i64 0)).setCell ⟨w.heap.size,2,none⟩ (.slice none 0 0)):=by
 refine⟨((R.res.set_ 0 (by simp) _).set_ 1 (by simp) _).set_ 2 (by simp) _,World.ownsRow_nil _ _ _ _,?_⟩
 exact((R.below.setCell (p:=⟨w.heap.size,0,none⟩) (Nat.le_refl _) _).setCell (p:=⟨w.heap.size,1,none⟩) (Nat.le_refl _) _).setCell (p:=⟨w.heap.size,2,none⟩) (Nat.le_refl _) _
theorem TkR.to {X:World}(R:TkR w a A n c T 0 X)(e:Nat):TkR w a A n c T e (X.setCell ⟨w.heap.size+1,1,none⟩ (.int .i64 e)):=by
 have hne:(Value.slice A n c).ownBlock≠some (w.heap.size+1):=fun h=>R.far _ (by omega) h.symm
 exact⟨R.res.far (by show w.heap.size+1≠w.heap.size;omega) _,R.var.set_ 1 (by simp) _,own_setCellK R.own _ _ _ hne,R.below.setCell (p:=⟨w.heap.size+1,1,none⟩) (by simp only;omega) _⟩
end
def TellsK (l:List Int)(a:Nat)(w:World)(e:Ending)(w':World):Prop:=Below w.heap.size w w'∧((∃ (T:List Int) (E:Nat) (A:Option Addr) (n c:Nat),e= .returned (.tuple #[.agg #[.int .i64 a,.int .i64 (E:Nat),.slice A n c],.bool true])∧w'.ownsRow w.heap.size 21 1 (.slice A n c) n (flatL encC T)∧WS.one l 0 a=some (T,E))∨(∃ (x y:Int) (A:Option Addr) (n c:Nat),e= .returned (.tuple #[.agg #[.int .i64 x,.int .i64 y,.slice A n c],.bool false])∧WS.one l 0 a=none))
open Go.RowKit
set_option maxHeartbeats 8000000 in
set_option maxRecDepth 100000 in
theorem token_any {w:World}{A:Option Addr}{c:Nat}{l:List Int}(hL:Li 1 encC w (fun _=>True) A l)(hn:l.length≤100000)(a:Nat)(ha:a<l.length):
  Calls Tryz.prog 86 #[.slice A l.length c,.int .i64 (a:Nat)] w (TellsK l a w):=by
 have HQ:=Lib.hid (fun(X:World) (hX:Below w.heap.size w X) (k:Nat) (hk:k<l.length) hs=>quoted_any (c:=c) (hL.later hX) hn k hk hs)
 obtain⟨b,o,rfl,hb,_,hcell⟩:=hL.scs (by omega)
 have HC:=Lib.hid (fun(X:World) (hX:Below w.heap.size w X) (j:Nat) (hj:j<l.length)=>(hX.cell (p:=⟨b,o+j,none⟩) hb).trans (hcell j hj))
 have HBl:=Lib.hid (fun X x=>blank_any X x)
 obtain⟨N,hN⟩:∃N,l.length=N:=⟨_,rfl⟩
 have HN:=Lib.hid hN
 rw [hN]at ha hn HC HQ ⊢
 clear hL hcell hN
 go_enter Tryz.func86,Tryz.ntmps86
 go_wp2
 refine at_world (TkR w a none 0 0 [] 0) (TkR.start w a _ _) ?_
 rintro X0 hR0
 have H0:=Lib.hid (show TkR w a none 0 0 [] 0 X0∧WS.one l 0 a=WS.pre [] (WS.one l 0 a)from⟨hR0,(WS.pre_nil _).symm⟩)
 clear hR0
 go_loopw [1,7,8,9] (fun av _ _ _ wr=>∃ (k n1 c1:Nat) (A1:Option Addr) (T:List Int),av= .int .i64 k∧a≤k∧k≤N∧n1≤k - a∧Hid (TkR w a A1 n1 c1 T 0 wr∧WS.one l 0 a=WS.pre T (WS.one l 0 k))) (fun av _ _ _ _=>N -(intOf av).toNat)
 case atStart=>exact⟨a,0,0,none,[],rfl,Nat.le_refl _,by omega,by omega,H0⟩
 case round=>
  obtain⟨k,n1,c1,A1,T,rfl,hk1,hk2,hn1,H⟩:=hrel
  obtain⟨y1,k1,j1⟩:=(show _ from H.out.1.var)
  obtain⟨y0,k0,j0⟩:=(show _ from H.out.1.res)
  by_cases hlt:k<N
  ·have kx:=HC.out wr H.out.1.below k hlt
   obtain⟨x,hx⟩:∃x,l.getD k 0=x:=⟨_,rfl⟩
   rw [hx]at kx
   have C:=Lib.hid (HBl.out wr x)
   have HX:=Lib.hid hx
   obtain⟨q,hq⟩:∃q,WS.blank x=q:=⟨_,rfl⟩
   rw [hq]at C
   have HQq:=Lib.hid hq
   clear hq hx H0
   go_wp2_with fail
   refine C.out.mono ?_
   rintro e w3 ⟨rfl,rfl⟩
   clear C
   cases q
   case true=>
    have H1:=Lib.hid (show WS.one l 0 a=some (T,k)by rw [H.out.2,WS.one_blank (by rw [HN.out];exact hlt) (by rw [HX.out];exact HQq.out),WS.pre_some,List.append_nil])
    go_wp2
    refine at_world (TkF w (a:Int) (k:Int) A1 n1 c1 T) ((H.out.1.to k).fin) ?_
    rintro X F
    have x0:X.cell? ⟨w.heap.size,0,none⟩=some (.int .i64 a):=F.res.2.1 0
    have x1:X.cell? ⟨w.heap.size,1,none⟩=some (.int .i64 k):=F.res.2.1 1
    have x2:X.cell? ⟨w.heap.size,2,none⟩=some (.slice A1 n1 c1):=F.res.2.1 2
    refine bodyPost_ret (v:= .tuple #[.agg #[.int .i64 a,.int .i64 k,.slice A1 n1 c1],.bool true]) (by simp [results,Tryz.results86,go_sem,x0,x1,x2]) rfl ⟨F.below,.inl ⟨T,k,A1,n1,c1,rfl,F.own,H1.out⟩⟩
   case false=>
    by_cases h92:x=92
    ·have e1:(x==92)=true:=by simpa using h92
     have H92:=Lib.hid h92
     clear h92
     by_cases hm:k+1=N
     ·have g1:(((k+1:Nat):Int)==(N:Int))=true:=by simp;omega
      have g2:((k:Int)+1==(N:Int))=true:=by simp;omega
      have H1:=Lib.hid (show WS.one l 0 a=none by rw [H.out.2,WS.one_cut (by rw [HN.out];exact hlt) (by rw [HX.out];exact H92.out) (by rw [HN.out];omega)];rfl)
      have HR9:=Lib.hid H.out.1
      go_wp2
      refine at_world (TkF w 0 0 none 0 0 []) (HR9.out.fin0) ?_
      rintro X F
      have x0:X.cell? ⟨w.heap.size,0,none⟩=some (.int .i64 0):=F.res.2.1 0
      have x1:X.cell? ⟨w.heap.size,1,none⟩=some (.int .i64 0):=F.res.2.1 1
      have x2:X.cell? ⟨w.heap.size,2,none⟩=some (.slice none 0 0):=F.res.2.1 2
      refine bodyPost_ret (v:= .tuple #[.agg #[.int .i64 0,.int .i64 0,.slice none 0 0],.bool false]) (by simp [results,Tryz.results86,go_sem,x0,x1,x2]) rfl ⟨F.below,.inr ⟨0,0,none,0,0,rfl,H1.out⟩⟩
     ·have g1:(((k+1:Nat):Int)==(N:Int))=false:=by simp;omega
      have g2:((k:Int)+1==(N:Int))=false:=by simp;omega
      have hlt2:k+1<N:=by omega
      have i0:(0:Int)≤(k:Int)+1:=by omega
      have i1:(k:Int)+1<(N:Int):=by omega
      have i2:((k:Int)+1).toNat=k+1:=by omega
      have iw:IntKind.i64.wrap ((k:Int)+1)=(k:Int)+1:=IntWalk.i64_in _ (by omega)
      have ik:(k:Int)<(N:Int):=by omega
      obtain⟨y,hy⟩:∃y,l.getD (k+1) 0=y:=⟨_,rfl⟩
      have ky:=HC.out wr H.out.1.below (k+1) hlt2
      rw [hy]at ky
      have H1:=Lib.hid (show WS.one l 0 k=WS.pre [y] (WS.one l 0 (k+2))by rw [←hy];exact WS.one_esc0 (by rw [HX.out];exact H92.out) (by rw [HN.out];exact hlt2))
      clear hy hm
      go_wp2
      go_region_law ((refine step_push slR_elt H.out.1.own (by have:=H.out.1.var.1;omega) (by rfl) (by rfl) (by rfl) (by rfl) (by simp) (by rfl) (by rfl) (by unfold maxLen;omega) (by omega) ?_;intro A3 c3 w3 hp;have hB3:=H.out.1.var.grown hp.grown (H.out.1.far _ (by omega));have u1:w3.cell? ⟨w.heap.size+1,2,none⟩=some (.slice A1 n1 c1):=hB3.2.1 2;have f1:w3.frozen? ⟨w.heap.size+1,2,none⟩=false:=hB3.2.2 2;have HP:=Lib.hid hp;clear hp hB3))
      all_goals
       have RN:=Lib.hid (H.out.1.next (M:=[y]) (by simp [flatL,encC]) HP.out)
       clear HP
       go_wp2
       go_roundw
       case rel=>exact⟨k+2,n1+1,_,_,T++[y],by go_num,by omega,by omega,by omega,by first|exact RN.out|exact RN.out.drew,by rw [H.out.2,H1.out,WS.pre_pre]⟩
       case measure=>simp [intOf];omega
    ·have e1:(x==92)=false:=by simpa using h92
     by_cases hs:x=34∨x=39
     ·have hsd:(x==39)=false∧(x==34)=true∨(x==39)=true:=by
       rcases hs with h|h
       ·left;subst h;exact⟨rfl,rfl⟩
       ·right;simp [h]
      have C2:=Lib.hid (HQ.out wr H.out.1.below k hlt (by rw [HX.out];exact hs))
      have HO:=Lib.hid (show WS.one l 0 k=WS.one l (l.getD k 0) (k+1)from WS.one_open (by rw [HN.out];exact hlt) (by rw [HX.out];exact hs))
      clear h92
      rcases hsd with⟨e2,e3⟩|e2
      all_goals
       go_wp2_with fail
       refine C2.out.mono ?_
       rintro e w4 ⟨hb4,(⟨T2,E2,A2,n2,c2,rfl,ho2,hone,hE1,hE2,hn2⟩|⟨rfl,hnone⟩)⟩
       ·have R4:=Lib.hid (H.out.1.later hb4)
        have L4:=Lib.hid (LiV.own encC_len (by decide) ho2)
        have H1:=Lib.hid (show WS.one l 0 a=WS.pre (T++T2) (WS.one l 0 E2)by rw [H.out.2,HO.out,hone,WS.pre_pre])
        obtain⟨y4,k4,j4⟩:=(show _ from R4.out.var)
        clear C2 hb4 ho2 hone y1 k1 j1 y0 k0 j0
        go_wp2_with (at_builtin;refine wpList_li encC_len encC_one slR_elt R4.out.own (by have:=R4.out.var.1;omega) rfl rfl rfl rfl L4.out (by unfold maxLen;omega) (by omega) ?_;intro A3 c3 w5 hp;have hB3:=R4.out.var.grown hp.grown (R4.out.far _ (by omega));have u1:w5.cell? ⟨w.heap.size+1,2,none⟩=some (.slice A1 n1 c1):=hB3.2.1 2;have f1:w5.frozen? ⟨w.heap.size+1,2,none⟩=false:=hB3.2.2 2;have RN:=Lib.hid (R4.out.next rfl hp);clear hp hB3)
        go_roundw
        case rel=>exact⟨E2,n1+n2,_,_,T++T2,rfl,by omega,by omega,by omega,RN.out,H1.out⟩
        case measure=>simp [intOf];omega
       ·have HR9:=Lib.hid (H.out.1.later hb4)
        have H1:=Lib.hid (show WS.one l 0 a=none by rw [H.out.2,HO.out,hnone];rfl)
        obtain⟨y4,k4,j4⟩:=(show _ from HR9.out.res)
        clear C2 hb4 hnone y1 k1 j1 y0 k0 j0
        go_wp2
        refine at_world (TkF w 0 0 none 0 0 []) (HR9.out.fin0) ?_
        rintro X F
        have x0:X.cell? ⟨w.heap.size,0,none⟩=some (.int .i64 0):=F.res.2.1 0
        have x1:X.cell? ⟨w.heap.size,1,none⟩=some (.int .i64 0):=F.res.2.1 1
        have x2:X.cell? ⟨w.heap.size,2,none⟩=some (.slice none 0 0):=F.res.2.1 2
        refine bodyPost_ret (v:= .tuple #[.agg #[.int .i64 0,.int .i64 0,.slice none 0 0],.bool false]) (by simp [results,Tryz.results86,go_sem,x0,x1,x2]) rfl ⟨F.below,.inr ⟨0,0,none,0,0,rfl,H1.out⟩⟩
     ·have e2:(x==34)=false:=by simp;omega
      have e3:(x==39)=false:=by simp;omega
      have H1:=Lib.hid (show WS.one l 0 k=WS.pre [x] (WS.one l 0 (k+1))by
       have h2:=HX.out
       rw [←h2]
       exact WS.one_plain (by rw [HN.out];exact hlt) (fun _=>⟨by rw [h2];exact HQq.out,by rw [h2];exact h92,by rw [h2];omega,by rw [h2];omega⟩) (.inr rfl) (fun h=>by cases h))
      have i0:(0:Int)≤(k:Int):=by omega
      have i1:(k:Int)<(N:Int):=by omega
      clear h92 hs
      go_wp2
      go_region_law ((refine step_push slR_elt H.out.1.own (by have:=H.out.1.var.1;omega) (by rfl) (by rfl) (by rfl) (by rfl) (by simp) (by rfl) (by rfl) (by unfold maxLen;omega) (by omega) ?_;intro A3 c3 w3 hp;have hB3:=H.out.1.var.grown hp.grown (H.out.1.far _ (by omega));have u1:w3.cell? ⟨w.heap.size+1,2,none⟩=some (.slice A1 n1 c1):=hB3.2.1 2;have f1:w3.frozen? ⟨w.heap.size+1,2,none⟩=false:=hB3.2.2 2;have HP:=Lib.hid hp;clear hp hB3))
      all_goals
       have RN:=Lib.hid (H.out.1.next (M:=[x]) (by simp [flatL,encC]) HP.out)
       clear HP
       go_wp2
       go_roundw
       case rel=>exact⟨k+1,n1+1,_,_,T++[x],by go_num,by omega,by omega,by omega,by first|exact RN.out|exact RN.out.drew,by rw [H.out.2,H1.out,WS.pre_pre]⟩
       case measure=>simp [intOf];omega
  ·obtain rfl:k=N:=by omega
   have H1:=Lib.hid (show WS.one l 0 a=some (T,k)by rw [H.out.2,WS.one_end (by rw [HN.out];exact Nat.le_refl _),if_pos rfl,WS.pre_some,HN.out,List.append_nil])
   have dk:decide ((k:Int)<(k:Int))=false:=by simp
   clear H0
   go_wp2
   refine at_world (TkF w (a:Int) (k:Int) A1 n1 c1 T) ((H.out.1.to k).fin) ?_
   rintro X F
   have x0:X.cell? ⟨w.heap.size,0,none⟩=some (.int .i64 a):=F.res.2.1 0
   have x1:X.cell? ⟨w.heap.size,1,none⟩=some (.int .i64 k):=F.res.2.1 1
   have x2:X.cell? ⟨w.heap.size,2,none⟩=some (.slice A1 n1 c1):=F.res.2.1 2
   refine bodyPost_ret (v:= .tuple #[.agg #[.int .i64 a,.int .i64 k,.slice A1 n1 c1],.bool true]) (by simp [results,Tryz.results86,go_sem,x0,x1,x2]) rfl ⟨F.below,.inl ⟨T,k,A1,n1,c1,rfl,F.own,H1.out⟩⟩
end Go.Proofs.YtlopleeopnnoeaaGreat
