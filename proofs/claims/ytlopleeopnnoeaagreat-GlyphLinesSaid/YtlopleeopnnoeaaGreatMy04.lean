import Derived.Test.YtlopleeopnnoeaaGreatMy03
import Derived.Test.YtlopleeopnnoeaaGreatMb02
import Derived.Laws.AppendOwnNone
import Derived.Lib.AppendZerosOnto
import Derived.Test.YtlopleeopnnoeaaGreatMy02
set_option linter.unusedVariables false
set_option linter.unusedSimpArgs false
namespace Go.Proofs.YtlopleeopnnoeaaGreat
open Go.RowKit
theorem upTo_li (l:List Int):upToU (fun j=>l.getD j 0) l.length=l:=by
 unfold upToU
 apply List.ext_getElem (by simp)
 intro j h1 h2
 simp [List.getD,h2]
theorem li_rd {w:World}{S:Nat→Prop}{A:Option Addr}{l:List Int}(h:Li 1 encC w S A l):Rd w A l.length (iv fun j=>l.getD j 0):=fun j hj=>by
 obtain⟨b,o,e,h1,_,h2⟩:=h.sc hj
 exact⟨b,o,e,h1,h2⟩
theorem enc_li {A:Option Addr}{l:List Int}(c:Nat)(w:World)(hL:Li 1 encC w (fun _=>True) A l)(hsc:Sc l)(hn:l.length≤1000000):
  Calls Tryz.prog 124 #[.slice A l.length c] w (TellsS (encU l) w):=by
 have:=enc_any A l.length c (fun j=>l.getD j 0) w hn (li_rd hL) (fun j hj=>hsc.at hj)
 rw [upTo_li]at this
 exact this
theorem encU_one (x:Int):encU [x]=putS x:=by
 show putS x++encU []=putS x
 simp [encU]
set_option maxHeartbeats 4000000 in
theorem whole_any {T:List RW.Row}{tp:Nat}{A:Option Addr}{l:List Int}(c:Nat)(w:World)(hT:Tabs T tp w)(hL:Li 1 encC w (fun _=>True) A l)(hsc:Sc l)(hc:l.length≤c)(hm:c≤maxLen)(hn:l.length≤100000):
  Calls Tryz.prog 76 #[.pointer (some ⟨tp,0,none⟩),.slice A l.length c] w fun e w'=>e= .returned (.agg #[.string (strOfNums (encU l)),.int .i64 (GY.widthG (KG T) l)])∧Below w.heap.size w w':=by
 have CE:=Lib.hid (fun(X:World) (hX:Below w.heap.size w X)=>enc_li c X (hL.later hX) hsc (by omega))
 have CW:=Lib.hid (fun(X:World) (hX:Below w.heap.size w X)=>width_any c X (hT.later hX) (hL.later hX) hsc hc hm hn)
 obtain⟨V,hV⟩:∃V,GY.widthG (KG T) l=V:=⟨_,rfl⟩
 rw [hV]at CW ⊢
 clear hV
 have K0:=blk_new w #[.string ⟨#[]⟩,.int .i64 0] 41
 by_cases h1:l.length=1
 ·obtain⟨x,rfl⟩:=List.length_eq_one_iff.1 h1
  rw [encU_one]
  obtain⟨b,o,rfl,hb,_,hcell⟩:=(hL.later (belAlloc w (.cells #[.string ⟨#[]⟩,.int .i64 0] 41))).scs (by simp)
  have h0:=hcell 0 (by simp)
  rw [Nat.add_zero]at h0
  have hr:=hsc.at (j:=0) (by simp)
  simp only [List.getD,List.getElem?_cons_zero,Option.getD_some]at h0 hr
  have hr0:=hr.1
  have hr1:=hr.2
  clear hcell hr hT hL hsc CE h1
  simp only [List.length_singleton]at CW hn hc ⊢
  go_enter Tryz.func76,Tryz.ntmps76
  go_wp2_with (first
   |(go_at_call 123;refine(put_any _ _ hr0 hr1).mono ?_;rintro e w1 ⟨rfl,hb1⟩;have K1:=Lib.hid (And.intro (K0.later hb1 K0.1) ((belAlloc w _).trans (hb1.mono (Nat.le_of_lt (by simp)))));clear hb1)
   |(go_at_call 21;refine(CW.out _ K1.out.2).mono ?_;rintro e w2 ⟨rfl,hb2⟩;have K2:=Lib.hid (And.intro (K1.out.1.later hb2 K1.out.1.1) (K1.out.2.trans (hb2.mono K1.out.2.size)));have c0:=K2.out.1.2.1 0;have c1:=K2.out.1.2.1 1;have f0:=K2.out.1.2.2 0;have f1:=K2.out.1.2.2 1;have z2:=K2.out.1.1;simp at c0 c1;clear hb2))
  refine at_world (fun Y=>Y.cell? ⟨w.heap.size,0,none⟩=some (.string (strOfNums (putS x)))∧Y.cell? ⟨w.heap.size,1,none⟩=some (.int .i64 V)∧Below w.heap.size w Y) ?_ ?_
  ·have B5:=(K2.out.1.set_ 0 (by simp) (.string (strOfNums (putS x)))).set_ 1 (by simp) (.int .i64 V)
   exact⟨B5.2.1 0,B5.2.1 1,(K2.out.2.setCell (p:=⟨w.heap.size,0,none⟩) (Nat.le_refl _) _).setCell (p:=⟨w.heap.size,1,none⟩) (Nat.le_refl _) _⟩
  rintro Y ⟨x0,x1,hY⟩
  exact bodyPost_ret (v:= .agg #[.string (strOfNums (putS x)),.int .i64 V]) (by simp [results,Tryz.results76,go_sem,x0,x1]) rfl ⟨rfl,hY⟩
 ·obtain⟨N,hN⟩:∃N,l.length=N:=⟨_,rfl⟩
  have d1:((N:Int)==1)=false:=by simp;omega
  rw [hN]at CE CW ⊢
  clear hT hL hsc h1 hN hn hc
  go_enter Tryz.func76,Tryz.ntmps76
  go_wp2_with (first
   |(go_at_call 124;refine(CE.out _ (belAlloc w _)).mono ?_;rintro e w1 ⟨rfl,hb1⟩;have K1:=Lib.hid (And.intro (K0.later hb1 K0.1) ((belAlloc w _).trans (hb1.mono (Nat.le_of_lt (by simp)))));clear hb1)
   |(go_at_call 21;refine(CW.out _ K1.out.2).mono ?_;rintro e w2 ⟨rfl,hb2⟩;have K2:=Lib.hid (And.intro (K1.out.1.later hb2 K1.out.1.1) (K1.out.2.trans (hb2.mono K1.out.2.size)));have c0:=K2.out.1.2.1 0;have c1:=K2.out.1.2.1 1;have f0:=K2.out.1.2.2 0;have f1:=K2.out.1.2.2 1;have z2:=K2.out.1.1;simp at c0 c1;clear hb2))
  refine at_world (fun Y=>Y.cell? ⟨w.heap.size,0,none⟩=some (.string (strOfNums (encU l)))∧Y.cell? ⟨w.heap.size,1,none⟩=some (.int .i64 V)∧Below w.heap.size w Y) ?_ ?_
  ·have B5:=(K2.out.1.set_ 0 (by simp) (.string (strOfNums (encU l)))).set_ 1 (by simp) (.int .i64 V)
   exact⟨B5.2.1 0,B5.2.1 1,(K2.out.2.setCell (p:=⟨w.heap.size,0,none⟩) (Nat.le_refl _) _).setCell (p:=⟨w.heap.size,1,none⟩) (Nat.le_refl _) _⟩
  rintro Y ⟨x0,x1,hY⟩
  exact bodyPost_ret (v:= .agg #[.string (strOfNums (encU l)),.int .i64 V]) (by simp [results,Tryz.results76,go_sem,x0,x1]) rfl ⟨rfl,hY⟩
theorem flatL_inv {α:Type}{enc:α→List Value}{k:Nat}(hk:∀x,(enc x).length=k):∀ (L:List α) (j:Nat) (u:Value),(flatL enc L)[j]? =some u→∃q x i,L[q]? =some x∧(enc x)[i]? =some u∧j=q*k+i
 |[],j,u,h=>by simp [flatL]at h
 |y::L,j,u,h=>by
  simp only [flatL,List.flatMap_cons]at h
  rcases Nat.lt_or_ge j (enc y).length with hj|hj
  ·rw [List.getElem?_append_left hj]at h
   exact⟨0,y,j,rfl,h,by simp⟩
  ·rw [List.getElem?_append_right hj]at h
   obtain⟨q,x,i,h1,h2,h3⟩:=flatL_inv hk L _ u h
   refine⟨q+1,x,i,by simpa using h1,h2,?_⟩
   rw [hk]at h3 hj
   rw [Nat.add_mul]
   omega
theorem wpList_li {α:Type}{enc:α→List Value}{P:Program}{w:World}{ops:Array Oper}{rest:List Oper}{o:Oper}{a:Act}{Q:Exit→Act→World→Prop}{k bytes base n m c:Nat}{t e:TypeId}{v:Value}{xs:List Value}{s x:Operand}{A:Option Addr}{S:Nat→Prop}{M:List α}
  (hk:∀x,(enc x).length=k) (hk1:∀x,∀u∈enc x,u.oneCell'=true) (E:Elt P t e k bytes) (hown:w.ownsRow base e k v n xs) (hbase:base≤w.heap.size) (hgd:o.guard=none) (ho:o.op= .call {callee:= .builtin .append,args:=#[s,x],argTypes:=#[t,t]})
  (hs:a.eval s=v) (hx:a.eval x= .slice A m c) (hL:LiV k enc w S (.slice A m c) M) (h63:n+m≤maxLen) (hbytes:(n+m)*bytes≤140737488355328)
  (h:∀A' c' w',Pushed w w' base e k v (n+m) (xs++flatL enc M) A' c'→wpList P ops Q rest (a.put o.dst (.slice A' (n+m) c')) w'):wpList P ops Q (o::rest) a w:=by
 obtain⟨ht,i,z,hi,hz,hsize,hby,hzs,hsz⟩:=E
 obtain⟨rfl,hli,hnil,_,_⟩:=hL.parts
 rcases A with _|ad
 ·obtain⟨h0,rfl⟩:=hnil rfl
  obtain rfl:M=[]:=List.eq_nil_of_length_eq_zero h0
  refine wpList_append_own_none hgd s x t ho base e i k ht hi v n xs hs hown hx ?_
  obtain⟨A',c',rfl⟩:=own_slice hown
  exact h A' c' w ⟨by simpa [flatL]using hown,World.grownBy.refl w _,.inl rfl⟩
 ·refine wpList_append_own_at w hgd s x t ho base e i z k bytes ht hi hz hsize hby hzs hsz v n xs hs hown ad M.length c (flatL enc M) hx (flatL_len hk M) ?_ ?_ h63 hbytes hbase ?_
  ·intro j u hj
   obtain⟨q,y,i,h1,h2,rfl⟩:=flatL_inv hk M j u hj
   obtain⟨b,off,e1,_,_,hc⟩:=hli q y h1
   injection e1 with e1
   subst e1
   rw [Addr.add_lit]
   exact hc i u h2
  ·intro u hu
   obtain⟨y,_,hy⟩:=List.mem_flatMap.1 hu
   exact hk1 y u hy
  ·intro v' w' hown' hg _ hat
   obtain⟨A',c',rfl⟩:=own_slice hown'
   refine h A' c' w' ⟨hown',hg,?_⟩
   rcases hat with e1|e1
   ·exact .inl e1
   ·exact .inr ⟨_,e1,Nat.le_refl _⟩
def lenTo {α:Type}(Ls:List (List α))(j:Nat):Nat:=(Ls.take j).flatten.length
theorem lenTo_succ {α:Type}{Ls:List (List α)}{j:Nat}{L:List α}(h:Ls[j]? =some L):lenTo Ls (j+1)=lenTo Ls j+L.length:=by
 obtain⟨hj,e⟩:=List.getElem?_eq_some_iff.1 h
 unfold lenTo
 rw [List.take_succ_eq_append_getElem hj,e]
 simp
theorem flat_succ {α:Type}{Ls:List (List α)}{j:Nat}{L:List α}(h:Ls[j]? =some L):(Ls.take (j+1)).flatten=(Ls.take j).flatten++L:=by
 obtain⟨hj,e⟩:=List.getElem?_eq_some_iff.1 h
 rw [List.take_succ_eq_append_getElem hj,e]
 simp
theorem lenTo_le {α:Type}(Ls:List (List α))(j:Nat):lenTo Ls j≤Ls.flatten.length:=by
 unfold lenTo
 have h:Ls.flatten=(Ls.take j).flatten++(Ls.drop j).flatten:=by rw [←List.flatten_append,List.take_append_drop]
 rw [h,List.length_append]
 omega
structure Many {α:Type}(k:Nat)(enc:α→List Value)(w:World)(A:Nat→Option Addr)(c:Nat→Nat)(Ls:List (List α)):Prop where
 li:∀j L,Ls[j]? =some L→LiV k enc w (fun _=>True) (.slice (A j) L.length (c j)) L
set_option maxHeartbeats 1000000 in
theorem wpList_full {P:Program}{w:World}{ops:Array Oper}{rest:List Oper}{o:Oper}{a:Act}{Q:Exit→Act→World→Prop}{k bytes n b off g:Nat}{t e:TypeId}{xs ys:List Value}{s x:Operand}
  (E:Elt P t e k bytes) (hgd:o.guard=none) (ho:o.op= .call {callee:= .builtin .append,args:=#[s,x],argTypes:=#[t,t]})
  (hs:a.eval s= .slice (some ⟨b,off,none⟩) n n) (hx:a.eval x= .slice (some ⟨g,0,none⟩) 1 1) (hl:xs.length=n*k) (hX:∀ (j:Nat) (u:Value),xs[j]? =some u→w.cell? ⟨b,off+j,none⟩=some u) (hyl:ys.length=k) (hY:∀ (j:Nat) (u:Value),ys[j]? =some u→w.cell? ⟨g,j,none⟩=some u)
  (h63:n+1≤1000000000) (hbytes:(n+1)*bytes≤140737488355328)
  (h:∀A' c' w',w'.ownsRow w.heap.size e k (.slice A' (n+1) c') (n+1) (xs++ys)→Below w.heap.size w w'→wpList P ops Q rest (a.put o.dst (.slice A' (n+1) c')) w'):wpList P ops Q (o::rest) a w:=by
 obtain⟨ht,i,z,hi,hz,hsize,hby,hzs,hsz⟩:=E
 have hr:=run_append_grow (P:=P) w t o.type e i z ht hi hz ⟨b,off,none⟩ n n xs (by rw [hl,hsize]) (fun j u hj=>by rw [Addr.add_lit];exact hX j u hj) ⟨g,0,none⟩ 1 1 ys (by rw [hyl,hsize];omega) (fun j u hj=>by rw [Addr.add_lit,Nat.zero_add];exact hY j u hj) (by omega) (by omega) (growslice_fits (by omega) (by rw [hby];omega))
 have hge:=grownCap_ge w (n+1) n e
 have hcm:grownCap w (n+1) n e≤maxLen:=grownCap_le_maxLen w (n+1) n e (by unfold maxLen;omega)
 generalize grownCap w (n+1) n e=G at hr hge hcm
 obtain⟨C,hC⟩:∃C,xs.toArray++ys.toArray++Builtin.zeroCells z.cells (G -(n+1))=C:=⟨_,rfl⟩
 rw [hC]at hr
 have hsz2:C.size=G*k:=by
  rw [←hC]
  simp [size_zeroCells,hzs,hl,hyl]
  rw [←Nat.succ_mul,←Nat.add_mul]
  congr 1
  omega
 refine Lib.wpList_append_run _ hgd s x t t ho _ _ hs hx _ _ hr ?_
 refine h _ _ _ ⟨by simp [hl,hyl,Nat.succ_mul],.inr ⟨w.heap.size,G,C,rfl,Nat.le_refl _,heap_alloc_new w.drew _,hge,hcm,hsz2,?_⟩⟩ ((Below.refl _ _).drew.alloc (Nat.le_refl _) _)
 rw [←hC]
 simp only [Array.toList_append,List.append_assoc]
 rw [show (n+1)*k=xs.length+ys.length by rw [hl,hyl,Nat.succ_mul],←List.append_assoc,←List.length_append]
 exact List.take_left
theorem encC_one (x:Int):∀u∈encC x,u.oneCell'=true:=by
 intro u hu
 obtain rfl:=List.mem_singleton.1 hu
 rfl
theorem scs_elt:Elt Tryz.prog 22 21 1 4:=elt_of Tryz.underlying22 (z:= .int .i32 0) (by kernel_rfl) rfl (by decide)
theorem Li.cells {w:World}{S:Nat→Prop}{A:Option Addr}{l:List Int}(h:Li 1 encC w S A l)(hn:0<l.length):∃b o,A=some ⟨b,o,none⟩∧b<w.heap.size∧S b∧∀ (j:Nat) (u:Value),(flatL encC l)[j]? =some u→w.cell? ⟨b,o+j,none⟩=some u:=by
 obtain⟨b,o,e,h1,h2,h3⟩:=h.scs hn
 refine⟨b,o,e,h1,h2,fun j u hj=> ?_⟩
 rw [flatC]at hj
 have hjl:j<l.length:=by have:=(List.getElem?_eq_some_iff.1 hj).1;simpa using this
 rw [h3 j hjl]
 simp [List.getElem?_map,hjl]at hj
 simp [List.getD,hjl,hj]
theorem of_ctl {K:GY.Kw}{l:List Int}(h0:l≠[])(h:GY.ctlB (K.br (l.getD 0 0))=true):GY.ofG K l=l.flatMap GY.ctlG:=by unfold GY.ofG;rw [if_neg h0,if_pos h]
theorem of_not {K:GY.Kw}{l:List Int}(h0:l≠[])(h:GY.ctlB (K.br (l.getD 0 0))=false):GY.ofG K l=[GY.wholeG K (GY.fullC K l)]:=by unfold GY.ofG;rw [if_neg h0,if_neg (by rw [h];decide)]
theorem full_of {K:GY.Kw}{l P Q:List Int}(hp:GY.preC K l=P)(hq:GY.sufC K l=Q):GY.fullC K l=P++l++Q:=by unfold GY.fullC;rw [hp,hq]
theorem Sc.app {a b:List Int}(ha:Sc a)(hb:Sc b):Sc (a++b):=fun x hx=>(List.mem_append.1 hx).elim (ha x) (hb x)
theorem getD_dot (l:List Int)(M:Nat):([9676]++l:List Int).getD (M+1) 0=l.getD M 0:=by simp [List.getD]
theorem sc_dot:Sc [9676]:=fun x hx=>by obtain rfl:=List.mem_singleton.1 hx;omega
theorem own_parts {w:World}{base n c:Nat}{E:TypeId}{A:Option Addr}{L:List Int}(h:w.ownsRow base E 1 (.slice A n c) n (flatL encC L)):L.length=n∧Li 1 encC w (fun b=>base≤b) A L∧L.length≤c∧c≤maxLen:=by
 have hn:=own_count encC_len (by decide) h
 have hp:=(LiV.own encC_len (by decide) h).parts
 exact⟨hn,hp.2.1,hp.2.2.2.1,by unfold maxLen;exact hp.2.2.2.2⟩
theorem liV_some {w:World}{S:Nat→Prop}{b o c:Nat}{l:List Int}(h:Li 1 encC w S (some ⟨b,o,none⟩) l)(hc:l.length≤c)(hm:c≤maxLen):LiV 1 encC w S (.slice (some ⟨b,o,none⟩) l.length c) l:=⟨_,_,rfl,h,(fun e=>by cases e),hc,by unfold maxLen at hm;exact hm⟩
theorem pushed_below {w X Y:World}{base n m c k:Nat}{E:TypeId}{xs ys:List Value}{v:Value}{A:Option Addr}(hb:Below w.heap.size w X)(hB:w.heap.size≤base)(hown:X.ownsRow base E k v m ys)(h:Pushed X Y base E k v n xs A c):Below w.heap.size w Y:=h.below hb hown hB
theorem li_at {w:World}{S:Nat→Prop}{b o:Nat}{l:List Int}(h:Li 1 encC w S (some ⟨b,o,none⟩) l)(hn:0<l.length):∀ (j:Nat) (u:Value),(flatL encC l)[j]? =some u→w.cell? ⟨b,o+j,none⟩=some u:=by
 obtain⟨b',o',e,_,_,h3⟩:=h.cells hn
 injection e with e
 injection e with e1 e2
 subst e1;subst e2
 exact h3
theorem whole_at {T:List RW.Row}{tp:Nat}{w X:World}{A3:Option Addr}{L:List Int}{N c3:Nat}{p:Nat→Prop}(H:∀ (X:World),Below w.heap.size w X→∀ (A3:Option Addr) (L:List Int) (c3:Nat),Li 1 encC X (fun _=>True) A3 L→Sc L→L.length≤c3→c3≤maxLen→L.length≤100000→Calls Tryz.prog 76 #[.pointer (some ⟨tp,0,none⟩),.slice A3 L.length c3] X fun e w'=>e= .returned (.agg #[.string (strOfNums (encU L)),.int .i64 (GY.widthG (KG T) L)])∧Below X.heap.size X w')
  (hX:Below w.heap.size w X) (h:L.length=N∧Li 1 encC X p A3 L∧L.length≤c3∧c3≤maxLen) (hs:Sc L) (hn:N≤100000):Calls Tryz.prog 76 #[.pointer (some ⟨tp,0,none⟩),.slice A3 N c3] X fun e w'=>e= .returned (.agg #[.string (strOfNums (encU L)),.int .i64 (GY.widthG (KG T) L)])∧Below X.heap.size X w':=by
 obtain⟨rfl,h1,h2,h3⟩:=h
 exact H X hX A3 L c3 (h1.mono fun _ _=>trivial) hs h2 h3 hn
set_option maxHeartbeats 8000000 in
set_option maxRecDepth 100000 in
theorem with_any {T:List RW.Row}{tp:Nat}{S:Nat→Prop}{A A2:Option Addr}{n cA base:Nat}{D:List (List Int × Int)}{l:List Int}(c2:Nat)(w:World)(hT:Tabs T tp w)(hO:w.ownsRow base 41 2 (.slice A n cA) n (flatL encG D))(hB:base≤w.heap.size)(hL:Li 1 encC w S A2 l)(hS:∀b,S b→some b≠(Value.slice A n cA).ownBlock)(hsc:Sc l)(hc:l.length≤c2)(hm:c2≤maxLen)(hn:l.length≤10000)(hq:n≤900000):
  Calls Tryz.prog 64 #[.slice A n cA,.pointer (some ⟨tp,0,none⟩),.slice A2 l.length c2] w fun e w'=>∃A' c',e= .returned (.slice A' (n+(GY.ofG (KG T) l).length) c')∧Pushed w w' base 41 2 (.slice A n cA) (n+(GY.ofG (KG T) l).length) (flatL encG (D++GY.ofG (KG T) l)) A' c':=by
 by_cases h0:l=[]
 ·subst h0
  have HP:=Lib.hid (show Pushed w w base 41 2 (.slice A n cA) (n+0) (flatL encG (D++[])) A cA by
   have:=Pushed.zero hO
   simpa using this)
  rw [show GY.ofG (KG T) []=[]from rfl]
  simp only [List.length_nil]
  clear hT hO hL hS hsc hn
  go_enter Tryz.func64,Tryz.ntmps64
  go_wp2
  go_ret
  exact⟨_,_,rfl,HP.out⟩
 obtain⟨M,hM⟩:∃M,l.length=M+1:=⟨l.length - 1,by have:=List.length_pos_iff.2 h0;omega⟩
 obtain⟨b,o,rfl,hb,hSb,hcell⟩:=hL.scs (by omega)
 have k0:=hcell 0 (by omega)
 rw [Nat.add_zero]at k0
 have kM:=hcell M (by omega)
 have hr0:=hsc.at (j:=0) (by omega)
 have hrM:=hsc.at (j:=M) (by omega)
 have HB0:=Lib.hid (fun(X:World) (hX:Below w.heap.size w X)=>gbrk (hT.later hX) (l.getD 0 0) hr0.1 hr0.2)
 have HBM:=Lib.hid (fun(X:World) (hX:Below w.heap.size w X)=>gbrk (hT.later hX) (l.getD M 0) hrM.1 hrM.2)
 have HO:=Lib.hid hO
 have HL:=Lib.hid (show Li 1 encC w (fun _=>True) (some ⟨b,o,none⟩) l from hL.mono fun _ _=>trivial)
 have HSC:=Lib.hid hsc
 have HCT:=Lib.hid (fun(X:World) (hX:Below w.heap.size w X)=>ctls_any c2 X (own_later hO hX) (Nat.le_trans hB hX.size) (hL.later hX) hS hsc (by omega))
 have HWh:=Lib.hid (fun(X:World) (hX:Below w.heap.size w X) (A3:Option Addr) (L:List Int) (c3:Nat) (hL3:Li 1 encC X (fun _=>True) A3 L) (hs:Sc L) (h1:L.length≤c3) (h2:c3≤maxLen) (h3:L.length≤100000)=>whole_any c3 X (hT.later hX) hL3 hs h1 h2 h3)
 have HPre:=Lib.hid (show GY.preC (KG T) l=if GY.extB ((KG T).br (l.getD 0 0))=true then [9676]else []from rfl)
 have HSuf:=Lib.hid (show GY.sufC (KG T) l=if (KG T).br (l.getD M 0)=7 then [9676]else []by unfold GY.sufC;rw [hM,Nat.add_sub_cancel])
 obtain⟨x0,hx0⟩:∃x,l.getD 0 0=x:=⟨_,rfl⟩
 obtain⟨xM,hxM⟩:∃x,l.getD M 0=x:=⟨_,rfl⟩
 have HXM:=Lib.hid hxM
 have HOF:=Lib.hid (And.intro (of_ctl (K:=KG T) h0) (of_not (K:=KG T) h0))
 rw [hx0]at HB0 HPre HOF k0
 rw [hxM]at HBM HSuf kM
 obtain⟨b0,hb0⟩:∃x,(KG T).br x0=x:=⟨_,rfl⟩
 obtain⟨bM,hbM⟩:∃x,(KG T).br xM=x:=⟨_,rfl⟩
 rw [hb0]at HB0 HPre HOF
 rw [hbM]at HBM HSuf
 have HM:=Lib.hid hM
 have HZ:=Lib.hid (show Pushed w w base 41 2 (.slice A n cA) n (flatL encG D) A cA from Pushed.zero hO)
 have HEnd:=Lib.hid (fun(L:List Int) (hF:GY.fullC (KG T) l=L) (Y Z:World) (A3:Option Addr) (c3:Nat) (hYb:Below w.heap.size w Y) (hp:Pushed Y Z base 41 2 (.slice A n cA) (n+1) (flatL encG D++[.string (strOfNums (encU L)),.int .i64 (GY.widthG (KG T) L)]) A3 c3)=>show Pushed w Z base 41 2 (.slice A n cA) (n+1) (flatL encG (D++[GY.wholeG (KG T) (GY.fullC (KG T) l)])) A3 c3 by
  have:=(Pushed.zero hO).step hYb hp
  rw [hF,flatL_append]
  exact this)
 rw [hM]at HCT hc hn ⊢
 unfold maxLen at hm
 clear hT hO hL hS hsc hcell hr0 hrM hx0 hxM hb0 hbM hM h0 hSb
 by_cases hct:GY.ctlB b0=true
 ·rw [HOF.out.1 hct]
  have hb3:b0=1∨b0=2∨b0=3:=by unfold GY.ctlB at hct;simp at hct;omega
  obtain⟨R,hR⟩:∃R,l.flatMap GY.ctlG=R:=⟨_,rfl⟩
  rw [hR]at HCT ⊢
  clear hct hR HOF HPre HSuf HEnd HWh HBM
  rcases hb3 with rfl|rfl|rfl
  all_goals
   go_enter Tryz.func64,Tryz.ntmps64
   go_wp2_with fail
   refine(HB0.out w (Below.refl _ _)).mono ?_
   rintro e w1 ⟨rfl,hb1⟩
   have C:=Lib.hid (HCT.out w1 hb1)
   have HB1:=Lib.hid hb1
   clear hb1 HCT HB0
   go_wp2_with fail
   refine C.out.mono ?_
   rintro e w2 ⟨A3,c3,rfl,hp⟩
   have HP:=Lib.hid (HZ.out.step HB1.out hp)
   clear hp
   go_wp2
   go_ret
   exact⟨_,_,rfl,HP.out⟩
 ·have hct2:GY.ctlB b0=false:=by simpa using hct
  rw [HOF.out.2 hct2]
  simp only [List.length_singleton]
  have n1:(b0==1)=false∧(b0==2)=false∧(b0==3)=false:=by unfold GY.ctlB at hct2;simpa [and_assoc]using hct2
  have n1a:=n1.1
  have n1b:=n1.2.1
  have n1c:=n1.2.2
  clear hct hct2 n1 HOF HCT HZ
  by_cases hex:GY.extB b0=true
  ·have HPr:=Lib.hid (show GY.preC (KG T) l=[9676]by rw [HPre.out,if_pos hex])
   have he:b0=4∨b0=5∨b0=8:=by unfold GY.extB at hex;simp at hex;omega
   clear hex n1a n1b n1c HPre
   rcases he with rfl|rfl|rfl
   all_goals
    go_enter Tryz.func64,Tryz.ntmps64
    go_wp2_with fail
    refine(HB0.out w (Below.refl _ _)).mono ?_
    rintro e w1 ⟨rfl,hb1⟩
    have HB1:=Lib.hid hb1
    have HLV:=Lib.hid (fun(o:Obj)=>liV_some ((HL.out.later hb1).later (belAlloc w1 o)) (by rw [HM.out];exact hc) (by unfold maxLen;exact hm))
    rw [HM.out]at HLV
    clear hb1 k0 kM
    by_cases h7:bM=7
    ·subst h7
     have HF:=Lib.hid (show GY.fullC (KG T) l=[9676]++l++[9676]from full_of HPr.out (by rw [HSuf.out,if_pos rfl]))
     go_wp2_with (first
      |(at_builtin;refine wpList_li encC_len encC_one scs_elt (own_new w1 _ _ 1 rfl (by decide)) (by simp) rfl rfl rfl rfl (HLV.out _) (by unfold maxLen;omega) (by omega) ?_;intro A3 c3 w2 hp;have HP2:=Lib.hid (And.intro (own_parts (L:=[9676]++l) (by rw [flatL_append];exact hp.own)) (pushed_below (w:=w1) (belAlloc w1 _) (Nat.le_refl _) (own_new w1 _ _ 1 rfl (by decide)) hp));clear hp;obtain⟨b3,o3,rfl,hb3,_,hcell3⟩:=HP2.out.1.2.1.scs (by rw [HP2.out.1.1];omega);have cM:=hcell3 (M+1) (by rw [HP2.out.1.1];omega);rw [getD_dot,HXM.out]at cM;have HBx:=Lib.hid (bStepS HB1.out HP2.out.2);have HNx:=Lib.hid (show ([9676]++l).length=1+(M+1)from HP2.out.1.1);have HLx:=Lib.hid (show Li 1 encC w2 (fun _=>True) (some ⟨b3,o3,none⟩) ([9676]++l)∧Sc ([9676]++l)∧([9676]++l).length≤c3∧c3≤maxLen from⟨HP2.out.1.2.1.mono fun _ _=>trivial,Sc.app sc_dot HSC.out,HP2.out.1.2.2⟩);have hc3:1+(M+1)≤c3:=HNx.out▸HLx.out.2.2.1;clear hcell3 HP2)
      |(go_at_call 71;refine(HBM.out _ HBx.out).mono ?_;rintro e w3 ⟨rfl,hb3⟩;have HB3:=Lib.hid (bStepS HBx.out hb3);have HL3:=Lib.hid (HLx.out.1.later hb3);clear hb3)
      |(at_builtin;refine wpList_full (n:=(1+(M+1))) (xs:=flatL encC ([9676]++l)) (ys:=[.int .i32 9676]) scs_elt rfl rfl rfl rfl (by rw [flatL_len encC_len,HNx.out]) (li_at (HL3.out.later (belAlloc _ _)) (by rw [HNx.out];omega)) rfl (fun j u hj=>(World.cell?_alloc_new _ _ _ _).trans (by simpa using hj)) (by omega) (by omega) ?_;intro A4 c4 w4 ho4 hb4;have HX4:=Lib.hid (own_parts (L:=([9676]++l)++[9676]) (by rw [flatL_append];exact ho4));have HB4:=Lib.hid (bStepS (belPush HB3.out _) hb4);clear ho4 hb4)
      |(go_at_call 76;refine(whole_at HWh.out HB4.out HX4.out (Sc.app HLx.out.2.1 sc_dot) (by omega)).mono ?_;rintro e w5 ⟨rfl,hb5⟩;have HB5:=Lib.hid (bStepS HB4.out hb5);have HO5:=Lib.hid (own_later HO.out HB5.out);have hz5:=Nat.le_trans hB HB5.out.size;clear hb5)
      |(at_builtin;refine wpList_push glyph_elt HO5.out hz5 rfl rfl rfl rfl (by simp) rfl rfl (by unfold maxLen;omega) (by omega) ?_;intro A6 c6 w6 hp;have HP:=Lib.hid (HEnd.out _ HF.out _ _ _ _ HB5.out hp);clear hp))
     go_ret
     exact⟨_,_,rfl,HP.out⟩
    ·have d7:(bM==7)=false:=by simpa using h7
     have HF:=Lib.hid (show GY.fullC (KG T) l=([9676]++l)from(full_of HPr.out (by rw [HSuf.out,if_neg h7])).trans (List.append_nil _))
     clear h7
     go_wp2_with (first
      |(at_builtin;refine wpList_li encC_len encC_one scs_elt (own_new w1 _ _ 1 rfl (by decide)) (by simp) rfl rfl rfl rfl (HLV.out _) (by unfold maxLen;omega) (by omega) ?_;intro A3 c3 w2 hp;have HP2:=Lib.hid (And.intro (own_parts (L:=[9676]++l) (by rw [flatL_append];exact hp.own)) (pushed_below (w:=w1) (belAlloc w1 _) (Nat.le_refl _) (own_new w1 _ _ 1 rfl (by decide)) hp));clear hp;obtain⟨b3,o3,rfl,hb3,_,hcell3⟩:=HP2.out.1.2.1.scs (by rw [HP2.out.1.1];omega);have cM:=hcell3 (M+1) (by rw [HP2.out.1.1];omega);rw [getD_dot,HXM.out]at cM;have HBx:=Lib.hid (bStepS HB1.out HP2.out.2);have HNx:=Lib.hid (show ([9676]++l).length=1+(M+1)from HP2.out.1.1);have HLx:=Lib.hid (show Li 1 encC w2 (fun _=>True) (some ⟨b3,o3,none⟩) ([9676]++l)∧Sc ([9676]++l)∧([9676]++l).length≤c3∧c3≤maxLen from⟨HP2.out.1.2.1.mono fun _ _=>trivial,Sc.app sc_dot HSC.out,HP2.out.1.2.2⟩);have hc3:1+(M+1)≤c3:=HNx.out▸HLx.out.2.2.1;clear hcell3 HP2)
      |(go_at_call 71;refine(HBM.out _ HBx.out).mono ?_;rintro e w3 ⟨rfl,hb3⟩;have HB4:=Lib.hid (bStepS HBx.out hb3);have HX4:=Lib.hid (And.intro HNx.out (And.intro (HLx.out.1.later hb3) HLx.out.2.2));clear hb3)
      |(go_at_call 76;refine(whole_at HWh.out HB4.out HX4.out HLx.out.2.1 (by omega)).mono ?_;rintro e w5 ⟨rfl,hb5⟩;have HB5:=Lib.hid (bStepS HB4.out hb5);have HO5:=Lib.hid (own_later HO.out HB5.out);have hz5:=Nat.le_trans hB HB5.out.size;clear hb5)
      |(at_builtin;refine wpList_push glyph_elt HO5.out hz5 rfl rfl rfl rfl (by simp) rfl rfl (by unfold maxLen;omega) (by omega) ?_;intro A6 c6 w6 hp;have HP:=Lib.hid (HEnd.out _ HF.out _ _ _ _ HB5.out hp);clear hp))
     go_ret
     exact⟨_,_,rfl,HP.out⟩
  ·have HPr:=Lib.hid (show GY.preC (KG T) l=[]by rw [HPre.out,if_neg hex])
   have he:(b0==4)=false∧(b0==5)=false∧(b0==8)=false:=by unfold GY.extB at hex;simpa [and_assoc]using hex
   have hea:=he.1
   have heb:=he.2.1
   have hec:=he.2.2
   clear hex he HPre
   go_enter Tryz.func64,Tryz.ntmps64
   go_wp2_with fail
   refine(HB0.out w (Below.refl _ _)).mono ?_
   rintro e w1 ⟨rfl,hb1⟩
   have HBx:=Lib.hid hb1
   have cM:=(hb1.cell (p:=⟨b,o+M,none⟩) hb).trans kM
   have HNx:=Lib.hid (show l.length=M+1 from HM.out)
   have HLx:=Lib.hid (show Li 1 encC w1 (fun _=>True) (some ⟨b,o,none⟩) l∧Sc l∧l.length≤c2∧c2≤maxLen from⟨HL.out.later hb1,HSC.out,by rw [HM.out];exact hc,by unfold maxLen;exact hm⟩)
   clear hb1 k0 kM
   by_cases h7:bM=7
   ·subst h7
    have HF:=Lib.hid (show GY.fullC (KG T) l=[]++l++[9676]from full_of HPr.out (by rw [HSuf.out,if_pos rfl]))
    go_wp2_with (first
     |(go_at_call 71;refine(HBM.out _ HBx.out).mono ?_;rintro e w3 ⟨rfl,hb3⟩;have HB3:=Lib.hid (bStepS HBx.out hb3);have HL3:=Lib.hid (HLx.out.1.later hb3);clear hb3)
     |(at_builtin;refine wpList_full (n:=(M+1)) (xs:=flatL encC l) (ys:=[.int .i32 9676]) scs_elt rfl rfl rfl rfl (by rw [flatL_len encC_len,HNx.out]) (li_at (HL3.out.later (belAlloc _ _)) (by rw [HNx.out];omega)) rfl (fun j u hj=>(World.cell?_alloc_new _ _ _ _).trans (by simpa using hj)) (by omega) (by omega) ?_;intro A4 c4 w4 ho4 hb4;have HX4:=Lib.hid (own_parts (L:=l++[9676]) (by rw [flatL_append];exact ho4));have HB4:=Lib.hid (bStepS (belPush HB3.out _) hb4);clear ho4 hb4)
     |(go_at_call 76;refine(whole_at HWh.out HB4.out HX4.out (Sc.app HLx.out.2.1 sc_dot) (by omega)).mono ?_;rintro e w5 ⟨rfl,hb5⟩;have HB5:=Lib.hid (bStepS HB4.out hb5);have HO5:=Lib.hid (own_later HO.out HB5.out);have hz5:=Nat.le_trans hB HB5.out.size;clear hb5)
     |(at_builtin;refine wpList_push glyph_elt HO5.out hz5 rfl rfl rfl rfl (by simp) rfl rfl (by unfold maxLen;omega) (by omega) ?_;intro A6 c6 w6 hp;have HP:=Lib.hid (HEnd.out _ HF.out _ _ _ _ HB5.out hp);clear hp))
    go_ret
    exact⟨_,_,rfl,HP.out⟩
   ·have d7:(bM==7)=false:=by simpa using h7
    have HF:=Lib.hid (show GY.fullC (KG T) l=l from(full_of HPr.out (by rw [HSuf.out,if_neg h7])).trans (List.append_nil _))
    clear h7
    go_wp2_with (first
     |(go_at_call 71;refine(HBM.out _ HBx.out).mono ?_;rintro e w3 ⟨rfl,hb3⟩;have HB4:=Lib.hid (bStepS HBx.out hb3);have HX4:=Lib.hid (And.intro HNx.out (And.intro (HLx.out.1.later hb3) HLx.out.2.2));clear hb3)
     |(go_at_call 76;refine(whole_at HWh.out HB4.out HX4.out HLx.out.2.1 (by omega)).mono ?_;rintro e w5 ⟨rfl,hb5⟩;have HB5:=Lib.hid (bStepS HB4.out hb5);have HO5:=Lib.hid (own_later HO.out HB5.out);have hz5:=Nat.le_trans hB HB5.out.size;clear hb5)
     |(at_builtin;refine wpList_push glyph_elt HO5.out hz5 rfl rfl rfl rfl (by simp) rfl rfl (by unfold maxLen;omega) (by omega) ?_;intro A6 c6 w6 hp;have HP:=Lib.hid (HEnd.out _ HF.out _ _ _ _ HB5.out hp);clear hp))
    go_ret
    exact⟨_,_,rfl,HP.out⟩
theorem rglyph_elt:Elt Tryz.prog 31 104 2 24:=elt_of Tryz.underlying31 (z:= .agg #[.string ⟨#[]⟩,.int .i64 0]) (by kernel_rfl) rfl (by decide)
theorem renc_li {A:Option Addr}{l:List Int}(c:Nat)(w:World)(hL:Li 1 encC w (fun _=>True) A l)(hsc:Sc l)(hn:l.length≤1000000):
  Calls Tryz.prog 67 #[.slice A l.length c] w (TellsS (encU l) w):=by
 have:=renc_any A l.length c (fun j=>l.getD j 0) w hn (li_rd hL) (fun j hj=>hsc.at hj)
 rw [upTo_li]at this
 exact this
theorem own_is {w:World}{base n c:Nat}{E:TypeId}{A:Option Addr}{L:List Int}{N:Nat}(h:w.ownsRow base E 1 (.slice A n c) n (flatL encC L))(hN:n=N):L.length=N∧Li 1 encC w (fun _=>True) A L∧N≤c:=by
 subst hN
 have:=own_parts h
 exact⟨this.1,this.2.1.mono fun _ _=>trivial,by have:=this.2.2.1;omega⟩
set_option maxHeartbeats 8000000 in
set_option maxRecDepth 100000 in
theorem rof_any {T:List RW.Row}{A A2:Option Addr}{l:List Int}{c:Nat}(c2:Nat)(w:World)(h:RT w A c T A2 l)(hc2:l.length≤c2)(hm:c2≤maxLen)(hn:l.length≤10000):
  Calls Tryz.prog 20 #[.slice A T.length c,.slice A2 l.length c2] w (TellsO 104 2 encG (GY.ofG (KG T) l) w):=by
 by_cases h0:l=[]
 ·subst h0
  rw [show GY.ofG (KG T) []=[]from rfl]
  clear h
  go_enter Tryz.func20,Tryz.ntmps20
  go_wp2
  go_ret
  exact⟨_,_,_,rfl,World.ownsRow_nil _ _ _ _,Below.refl _ _⟩
 obtain⟨M,hM⟩:∃M,l.length=M+1:=⟨l.length - 1,by have:=List.length_pos_iff.2 h0;omega⟩
 obtain⟨b,o,rfl,hb,_,hcell⟩:=h.txt.scs (by omega)
 have k0:=hcell 0 (by omega)
 rw [Nat.add_zero]at k0
 have kM:=hcell M (by omega)
 have HB0:=Lib.hid (h.br (j:=0) (by omega))
 have HBM:=Lib.hid (fun(X:World) (hX:Below w.heap.size w X)=>(h.later hX).br (j:=M) (by omega))
 have HR:=Lib.hid h
 have HLV:=Lib.hid (fun(X:World) (hX:Below w.heap.size w X)=>liV_some (h.txt.later hX) hc2 hm)
 rw [hM]at HLV
 have HPre:=Lib.hid (show GY.preC (KG T) l=if GY.extB ((KT T).br (l.getD 0 0))=true then [9676]else []from rfl)
 have HSuf:=Lib.hid (show GY.sufC (KG T) l=if (KT T).br (l.getD M 0)=7 then [9676]else []by unfold GY.sufC;rw [hM,Nat.add_sub_cancel];rfl)
 have HOF:=Lib.hid (show (GY.ctlB ((KT T).br (l.getD 0 0))=true→GY.ofG (KG T) l=l.flatMap GY.ctlG)∧(GY.ctlB ((KT T).br (l.getD 0 0))=false→GY.ofG (KG T) l=[GY.wholeG (KG T) (GY.fullC (KG T) l)])from And.intro (of_ctl (K:=KG T) h0) (of_not (K:=KG T) h0))
 have HW:=Lib.hid (fun(X:World) (hX:Below w.heap.size w X) (A3:Option Addr) (L:List Int) (N c3:Nat) (hL3:L.length=N∧Li 1 encC X (fun _=>True) A3 L∧N≤c3) (hs:Sc L) (h3:N≤20000)=>show Calls Tryz.prog 22 #[.slice (some ⟨b,o,none⟩) 0 0,.slice A3 N c3] X (fun _ _=>True)→True from fun _=>trivial)
 have HWw:=Lib.hid (fun(X:World) (hX:Below w.heap.size w X) (A3:Option Addr) (L:List Int) (N c3:Nat) (hL3:L.length=N∧Li 1 encC X (fun _=>True) A3 L∧N≤c3) (hs:Sc L) (h3:N≤20000)=>show Calls Tryz.prog 22 #[.slice A T.length c,.slice A3 N c3] X (fun e w'=>e= .returned (.int .i64 (GY.widthG (KG T) L))∧X=w')by
  obtain⟨rfl,h1,h2⟩:=hL3
  exact rwidth_any c3 X ⟨h.rows.later hX,h.rc,h.rn,h1,hs,by omega⟩ h2)
 have HEe:=Lib.hid (fun(X:World) (A3:Option Addr) (L:List Int) (N c3:Nat) (hL3:L.length=N∧Li 1 encC X (fun _=>True) A3 L∧N≤c3) (hs:Sc L) (h3:N≤20000)=>show Calls Tryz.prog 67 #[.slice A3 N c3] X (TellsS (encU L) X)by
  obtain⟨rfl,h1,h2⟩:=hL3
  exact renc_li c3 X h1 hs (by omega))
 have HSC:=Lib.hid h.sc
 clear HW
 have HEnd:=Lib.hid (fun(L:List Int) (hF:GY.fullC (KG T) l=L) (Y:World) (hY:Below w.heap.size w Y)=>show TellsO 104 2 encG [GY.wholeG (KG T) (GY.fullC (KG T) l)] w (.returned (.slice (some ⟨Y.heap.size,0,none⟩) 1 1)) (Y.alloc (.cells #[.string (strOfNums (encU L)),.int .i64 (GY.widthG (KG T) L)] 104))from
  ⟨_,_,_,rfl,by rw [hF];exact ownLow (own_newN Y #[.string (strOfNums (encU L)),.int .i64 (GY.widthG (KG T) L)] 104 2 1 rfl (by decide)) hY.size,belPush hY _⟩)
 obtain⟨x0,hx0⟩:∃x,l.getD 0 0=x:=⟨_,rfl⟩
 obtain⟨xM,hxM⟩:∃x,l.getD M 0=x:=⟨_,rfl⟩
 rw [hx0]at HB0 HPre HOF k0
 rw [hxM]at HBM HSuf kM
 obtain⟨b0,hb0⟩:∃x,(KT T).br x0=x:=⟨_,rfl⟩
 obtain⟨bM,hbM⟩:∃x,(KT T).br xM=x:=⟨_,rfl⟩
 rw [hb0]at HB0 HPre HOF
 rw [hbM]at HBM HSuf
 have HM:=Lib.hid hM
 have hcc:=hc2
 rw [hM]at hcc hn ⊢
 unfold maxLen at hm
 clear h hcell hx0 hxM hb0 hbM hM hc2 h0
 by_cases hct:GY.ctlB b0=true
 ·rw [HOF.out.1 hct]
  have hb3:b0=1∨b0=2∨b0=3:=by unfold GY.ctlB at hct;simp at hct;omega
  have HE:=Lib.hid (show l.flatMap GY.ctlG=(l.take (M+1)).flatMap GY.ctlG by rw [←HM.out,List.take_length])
  rw [HE.out]
  obtain⟨R,hR⟩:∃R,(l.take (M+1)).flatMap GY.ctlG=R:=⟨_,rfl⟩
  rw [hR]
  have HR9:=Lib.hid hR
  have HK:=Lib.hid (fun(k:Nat) (hk:k<M+1) (x:Int) (hx:l.getD k 0=x)=>show lenC l (k+1)=lenC l k+(GY.ctlG x).length∧(l.take (k+1)).flatMap GY.ctlG=(l.take k).flatMap GY.ctlG++GY.ctlG x by rw [←hx];exact⟨lenC_succ (by rw [HM.out];omega),ctl_succ (by rw [HM.out];omega)⟩)
  have H0:=Lib.hid (show Grows w 104 2 encG none 0 0 ((l.take 0).flatMap GY.ctlG) w from Grows.start _ _ _)
  clear hct hR HOF HPre HSuf HEnd HWw HEe HBM HLV HE
  rcases hb3 with rfl|rfl|rfl
  all_goals
   go_enter Tryz.func20,Tryz.ntmps20
   go_wp2_with fail
   refine HB0.out.mono ?_
   rintro e w1 ⟨rfl,rfl⟩
   clear HB0 k0 kM
   go_wp2
   go_loopw [6,7] (fun ov i wr=>∃ (k q:Nat) (Ao:Option Addr) (co:Nat),k≤M+1∧i= .int .i64 k∧ov= .slice Ao q co∧q≤2*k∧Hid (q=lenC l k∧Grows w 104 2 encG Ao q co ((l.take k).flatMap GY.ctlG) wr)) (fun _ i _=>M+1 -(intOf i).toNat)
   case atStart=>exact⟨0,0,none,0,Nat.zero_le _,rfl,rfl,by omega,⟨rfl,H0.out⟩⟩
   case round=>
    obtain⟨k,q,Ao,co,hk,rfl,rfl,hq,H⟩:=hrel
    by_cases hlt:k<M+1
    ·obtain⟨b',o',e',hb',_,hcell⟩:=((HR.out.later H.out.2.below).txt).scs (by rw [HM.out];omega)
     injection e' with e'
     injection e' with e1 e2
     subst e1;subst e2
     have hx0:=hcell k (by rw [HM.out];omega)
     have hr:=HSC.out.at (j:=k) (by rw [HM.out];omega)
     obtain⟨x,hx⟩:∃x,l.getD k 0=x:=⟨_,rfl⟩
     rw [hx]at hx0 hr
     have HX:=Lib.hid (HK.out k hlt x hx)
     have hr0:=hr.1
     have hr1:=hr.2
     have hz0:w.heap.size≤wr.heap.size:=H.out.2.below.size
     have HW:=Lib.hid (fun(ys:List Value) (m:Nat) (hy:ys=flatL encG (GY.ctlG x)) (hm:(GY.ctlG x).length=m) (Y Z:World) (A3:Option Addr) (c3:Nat) (hYb:Below wr.heap.size wr Y) (hp:Pushed Y Z w.heap.size 104 2 (.slice Ao q co) (q+m) (flatL encG ((l.take k).flatMap GY.ctlG)++ys) A3 c3)=>show q+m=lenC l (k+1)∧Grows w 104 2 encG A3 (q+m) c3 ((l.take (k+1)).flatMap GY.ctlG) Z by
      refine⟨by rw [HX.out.1,hm,H.out.1],?_⟩
      rw [HX.out.2]
      exact H.out.2.pushM hYb hy hp)
     clear hcell hx hr
     by_cases c1:0≤x
     ·by_cases c2:x<32
      ·have CP:=Lib.hid (fun X=>rput_any (x+64) X (by omega) (by omega))
       have HF:=Lib.hid (show [Value.string ⟨#[94]⟩,.int .i64 1,.string (strOfNums (putS (x+64))),.int .i64 1]=flatL encG (GY.ctlG x)∧(GY.ctlG x).length=2 by rw [ctl_lo c1 c2];exact⟨rfl,rfl⟩)
       have hw64:IntKind.i32.wrap (x+64)=x+64:=IntWalk.i32_in _ (by omega)
       go_wp2_with (first
        |(go_at_call 66;refine(CP.out _).mono ?_;rintro e w1 ⟨rfl,hb1⟩;have HB1:=Lib.hid hb1;have HO1:=Lib.hid (own_later H.out.2.own hb1);have hz1:=Nat.le_trans hz0 hb1.size;clear hb1)
        |(at_builtin;refine wpList_pushM (m:=2) rglyph_elt HO1.out hz1 rfl rfl rfl rfl (by simp) rfl rfl (by unfold maxLen;omega) (by omega) ?_;intro A6 c6 w6 hp;have HP:=Lib.hid hp;clear hp))
       go_roundw
       case rel=>exact⟨k+1,q+2,A6,c6,by omega,by go_num,rfl,by omega,HW.out _ 2 HF.out.1 HF.out.2 _ _ _ _ HB1.out HP.out⟩
       case measure=>simp [intOf];omega
      ·have d2:decide (x<32)=false:=by simp;omega
       by_cases c3:x=127
       ·subst c3
        have HF:=Lib.hid (show [Value.string ⟨#[94]⟩,.int .i64 1,.string ⟨#[63]⟩,.int .i64 1]=flatL encG (GY.ctlG 127)∧(GY.ctlG 127).length=2 from⟨rfl,rfl⟩)
        have HO1:=Lib.hid H.out.2.own
        go_wp2_with (at_builtin;refine wpList_pushM (m:=2) rglyph_elt HO1.out hz0 rfl rfl rfl rfl (by simp) rfl rfl (by unfold maxLen;omega) (by omega) ?_;intro A6 c6 w6 hp;have HP:=Lib.hid hp;clear hp)
        go_roundw
        case rel=>exact⟨k+1,q+2,A6,c6,by omega,by go_num,rfl,by omega,HW.out _ 2 HF.out.1 HF.out.2 _ _ _ _ (Below.refl _ _) HP.out⟩
        case measure=>simp [intOf];omega
       ·have d3:(x==127)=false:=by simpa using c3
        have CP:=Lib.hid (fun X=>rput_any 65533 X (by omega) (by omega))
        have HF:=Lib.hid (show [Value.string (strOfNums (putS 65533)),.int .i64 1]=flatL encG (GY.ctlG x)∧(GY.ctlG x).length=1 by rw [ctl_bad (by omega) (by omega)];exact⟨rfl,rfl⟩)
        go_wp2_with (first
         |(go_at_call 66;refine(CP.out _).mono ?_;rintro e w1 ⟨rfl,hb1⟩;have HB1:=Lib.hid hb1;have HO1:=Lib.hid (own_later H.out.2.own hb1);have hz1:=Nat.le_trans hz0 hb1.size;clear hb1)
         |(at_builtin;refine wpList_pushM (m:=1) rglyph_elt HO1.out hz1 rfl rfl rfl rfl (by simp) rfl rfl (by unfold maxLen;omega) (by omega) ?_;intro A6 c6 w6 hp;have HP:=Lib.hid hp;clear hp))
        go_roundw
        case rel=>exact⟨k+1,q+1,A6,c6,by omega,by go_num,rfl,by omega,HW.out _ 1 HF.out.1 HF.out.2 _ _ _ _ HB1.out HP.out⟩
        case measure=>simp [intOf];omega
     ·have d1:decide (0≤x)=false:=by simp;omega
      have d3:(x==127)=false:=by simp;omega
      have CP:=Lib.hid (fun X=>rput_any 65533 X (by omega) (by omega))
      have HF:=Lib.hid (show [Value.string (strOfNums (putS 65533)),.int .i64 1]=flatL encG (GY.ctlG x)∧(GY.ctlG x).length=1 by rw [ctl_bad (by omega) (by omega)];exact⟨rfl,rfl⟩)
      go_wp2_with (first
       |(go_at_call 66;refine(CP.out _).mono ?_;rintro e w1 ⟨rfl,hb1⟩;have HB1:=Lib.hid hb1;have HO1:=Lib.hid (own_later H.out.2.own hb1);have hz1:=Nat.le_trans hz0 hb1.size;clear hb1)
       |(at_builtin;refine wpList_pushM (m:=1) rglyph_elt HO1.out hz1 rfl rfl rfl rfl (by simp) rfl rfl (by unfold maxLen;omega) (by omega) ?_;intro A6 c6 w6 hp;have HP:=Lib.hid hp;clear hp))
      go_roundw
      case rel=>exact⟨k+1,q+1,A6,c6,by omega,by go_num,rfl,by omega,HW.out _ 1 HF.out.1 HF.out.2 _ _ _ _ HB1.out HP.out⟩
      case measure=>simp [intOf];omega
    ·obtain rfl:k=M+1:=by omega
     go_wp2
     go_ret
     rw [←HR9.out]
     exact⟨_,_,_,rfl,H.out.2.own,H.out.2.below⟩
 ·have hct2:GY.ctlB b0=false:=by simpa using hct
  rw [HOF.out.2 hct2]
  have n1:(b0==1)=false∧(b0==2)=false∧(b0==3)=false:=by unfold GY.ctlB at hct2;simpa [and_assoc]using hct2
  have n1a:=n1.1
  have n1b:=n1.2.1
  have n1c:=n1.2.2
  clear hct hct2 n1 HOF
  by_cases hex:GY.extB b0=true
  ·have HPr:=Lib.hid (show GY.preC (KG T) l=[9676]by rw [HPre.out,if_pos hex])
   have he:b0=4∨b0=5∨b0=8:=by unfold GY.extB at hex;simp at hex;omega
   clear hex n1a n1b n1c HPre
   rcases he with rfl|rfl|rfl
   all_goals
    go_enter Tryz.func20,Tryz.ntmps20
    go_wp2_with fail
    refine HB0.out.mono ?_
    rintro e w1 ⟨rfl,rfl⟩
    clear HB0 k0
    by_cases h7:bM=7
    ·subst h7
     have HF:=Lib.hid (show GY.fullC (KG T) l=(([9676]++l)++[9676])from full_of HPr.out (by rw [HSuf.out,if_pos rfl]))
     go_wp2_with (first
      |(at_builtin;refine wpList_push scs_elt (World.ownsRow_nil w w.heap.size _ _) (Nat.le_refl _) rfl rfl rfl rfl (by simp) rfl rfl (by decide) (by decide) ?_;intro A3 c3 w2 hp;have HP2:=Lib.hid (show Below w.heap.size w w2∧w2.ownsRow w.heap.size 21 1 (.slice A3 1 c3) 1 (flatL encC [9676])from⟨hp.below (Below.refl _ _) (World.ownsRow_nil w w.heap.size _ _) (Nat.le_refl _),hp.own⟩);have hz2:=HP2.out.1.size;clear hp)
      |(at_builtin;refine wpList_li encC_len encC_one scs_elt HP2.out.2 hz2 rfl rfl rfl rfl (HLV.out _ HP2.out.1) (by unfold maxLen;omega) (by omega) ?_;intro A4 c4 w3 hp;have HP3:=Lib.hid (show Below w.heap.size w w3∧w3.ownsRow w.heap.size 21 1 (.slice A4 (1+(M+1)) c4) (1+(M+1)) (flatL encC ([9676]++l))from⟨hp.below HP2.out.1 HP2.out.2 (Nat.le_refl _),by rw [flatL_append];exact hp.own⟩);have kM3:=(HP3.out.1.cell (p:=⟨b,o+M,none⟩) hb).trans kM;clear hp kM)
      |(go_at_call 65;refine(HBM.out _ HP3.out.1).mono ?_;rintro e w4 ⟨rfl,rfl⟩;have hz4:=HP3.out.1.size;clear HBM)
      |(at_builtin;refine wpList_push scs_elt HP3.out.2 hz4 rfl rfl rfl rfl (by simp) rfl rfl (by unfold maxLen;omega) (by omega) ?_;intro A5 c5 w5 hp;have HX4:=Lib.hid (show Below w.heap.size w w5∧(([9676]++l)++[9676]).length=((1+(M+1))+1)∧Li 1 encC w5 (fun _=>True) A5 (([9676]++l)++[9676])∧((1+(M+1))+1)≤c5 from⟨hp.below HP3.out.1 HP3.out.2 (Nat.le_refl _),own_is (L:=(([9676]++l)++[9676])) (by rw [flatL_append];exact hp.own) rfl⟩);clear hp)
      |(go_at_call 67;refine(HEe.out _ _ _ _ _ HX4.out.2 (Sc.app (Sc.app sc_dot HSC.out) sc_dot) (by omega)).mono ?_;rintro e w6 ⟨rfl,hb6⟩;have HB6:=Lib.hid (bStepS HX4.out.1 hb6);have HX6:=Lib.hid (And.intro HX4.out.2.1 (And.intro (HX4.out.2.2.1.later hb6) HX4.out.2.2.2));clear hb6)
      |(go_at_call 22;refine(HWw.out _ HB6.out _ _ _ _ HX6.out (Sc.app (Sc.app sc_dot HSC.out) sc_dot) (by omega)).mono ?_;rintro e w7 ⟨rfl,rfl⟩))
     go_ret
     exact HEnd.out _ HF.out _ HB6.out
    ·have d7:(bM==7)=false:=by simpa using h7
     have HF:=Lib.hid (show GY.fullC (KG T) l=([9676]++l)from(full_of HPr.out (by rw [HSuf.out,if_neg h7])).trans (List.append_nil _))
     clear h7
     go_wp2_with (first
      |(at_builtin;refine wpList_push scs_elt (World.ownsRow_nil w w.heap.size _ _) (Nat.le_refl _) rfl rfl rfl rfl (by simp) rfl rfl (by decide) (by decide) ?_;intro A3 c3 w2 hp;have HP2:=Lib.hid (show Below w.heap.size w w2∧w2.ownsRow w.heap.size 21 1 (.slice A3 1 c3) 1 (flatL encC [9676])from⟨hp.below (Below.refl _ _) (World.ownsRow_nil w w.heap.size _ _) (Nat.le_refl _),hp.own⟩);have hz2:=HP2.out.1.size;clear hp)
      |(at_builtin;refine wpList_li encC_len encC_one scs_elt HP2.out.2 hz2 rfl rfl rfl rfl (HLV.out _ HP2.out.1) (by unfold maxLen;omega) (by omega) ?_;intro A4 c4 w3 hp;have HP3:=Lib.hid (show Below w.heap.size w w3∧w3.ownsRow w.heap.size 21 1 (.slice A4 (1+(M+1)) c4) (1+(M+1)) (flatL encC ([9676]++l))from⟨hp.below HP2.out.1 HP2.out.2 (Nat.le_refl _),by rw [flatL_append];exact hp.own⟩);have kM3:=(HP3.out.1.cell (p:=⟨b,o+M,none⟩) hb).trans kM;clear hp kM)
      |(go_at_call 65;refine(HBM.out _ HP3.out.1).mono ?_;rintro e w4 ⟨rfl,rfl⟩;have hz4:=HP3.out.1.size;have HX4:=Lib.hid (And.intro HP3.out.1 (own_is HP3.out.2 rfl));clear HBM)
      |(go_at_call 67;refine(HEe.out _ _ _ _ _ HX4.out.2 (Sc.app sc_dot HSC.out) (by omega)).mono ?_;rintro e w6 ⟨rfl,hb6⟩;have HB6:=Lib.hid (bStepS HX4.out.1 hb6);have HX6:=Lib.hid (And.intro HX4.out.2.1 (And.intro (HX4.out.2.2.1.later hb6) HX4.out.2.2.2));clear hb6)
      |(go_at_call 22;refine(HWw.out _ HB6.out _ _ _ _ HX6.out (Sc.app sc_dot HSC.out) (by omega)).mono ?_;rintro e w7 ⟨rfl,rfl⟩))
     go_ret
     exact HEnd.out _ HF.out _ HB6.out
  ·have HPr:=Lib.hid (show GY.preC (KG T) l=[]by rw [HPre.out,if_neg hex])
   have he:(b0==4)=false∧(b0==5)=false∧(b0==8)=false:=by unfold GY.extB at hex;simpa [and_assoc]using hex
   have hea:=he.1
   have heb:=he.2.1
   have hec:=he.2.2
   clear hex he HPre
   go_enter Tryz.func20,Tryz.ntmps20
   go_wp2_with fail
   refine HB0.out.mono ?_
   rintro e w1 ⟨rfl,rfl⟩
   clear HB0 k0
   by_cases h7:bM=7
   ·subst h7
    have HF:=Lib.hid (show GY.fullC (KG T) l=(l++[9676])from full_of HPr.out (by rw [HSuf.out,if_pos rfl]))
    go_wp2_with (first
     |(at_builtin;refine wpList_li encC_len encC_one scs_elt (World.ownsRow_nil w w.heap.size _ _) (Nat.le_refl _) rfl rfl rfl rfl (HLV.out _ (Below.refl _ _)) (by unfold maxLen;omega) (by omega) ?_;intro A4 c4 w3 hp;simp only [Nat.zero_add]at hp ⊢;have HP3:=Lib.hid (show Below w.heap.size w w3∧w3.ownsRow w.heap.size 21 1 (.slice A4 (M+1) c4) (M+1) (flatL encC l)from⟨hp.below (Below.refl _ _) (World.ownsRow_nil w w.heap.size _ _) (Nat.le_refl _),hp.own⟩);have kM3:=(HP3.out.1.cell (p:=⟨b,o+M,none⟩) hb).trans kM;clear hp kM)
     |(go_at_call 65;refine(HBM.out _ HP3.out.1).mono ?_;rintro e w4 ⟨rfl,rfl⟩;have hz4:=HP3.out.1.size;clear HBM)
     |(at_builtin;refine wpList_push scs_elt HP3.out.2 hz4 rfl rfl rfl rfl (by simp) rfl rfl (by unfold maxLen;omega) (by omega) ?_;intro A5 c5 w5 hp;have HX4:=Lib.hid (show Below w.heap.size w w5∧(l++[9676]).length=((M+1)+1)∧Li 1 encC w5 (fun _=>True) A5 (l++[9676])∧((M+1)+1)≤c5 from⟨hp.below HP3.out.1 HP3.out.2 (Nat.le_refl _),own_is (L:=(l++[9676])) (by rw [flatL_append];exact hp.own) rfl⟩);clear hp)
     |(go_at_call 67;refine(HEe.out _ _ _ _ _ HX4.out.2 (Sc.app HSC.out sc_dot) (by omega)).mono ?_;rintro e w6 ⟨rfl,hb6⟩;have HB6:=Lib.hid (bStepS HX4.out.1 hb6);have HX6:=Lib.hid (And.intro HX4.out.2.1 (And.intro (HX4.out.2.2.1.later hb6) HX4.out.2.2.2));clear hb6)
     |(go_at_call 22;refine(HWw.out _ HB6.out _ _ _ _ HX6.out (Sc.app HSC.out sc_dot) (by omega)).mono ?_;rintro e w7 ⟨rfl,rfl⟩))
    go_ret
    exact HEnd.out _ HF.out _ HB6.out
   ·have d7:(bM==7)=false:=by simpa using h7
    have HF:=Lib.hid (show GY.fullC (KG T) l=l from(full_of HPr.out (by rw [HSuf.out,if_neg h7])).trans (List.append_nil _))
    clear h7
    go_wp2_with (first
     |(at_builtin;refine wpList_li encC_len encC_one scs_elt (World.ownsRow_nil w w.heap.size _ _) (Nat.le_refl _) rfl rfl rfl rfl (HLV.out _ (Below.refl _ _)) (by unfold maxLen;omega) (by omega) ?_;intro A4 c4 w3 hp;simp only [Nat.zero_add]at hp ⊢;have HP3:=Lib.hid (show Below w.heap.size w w3∧w3.ownsRow w.heap.size 21 1 (.slice A4 (M+1) c4) (M+1) (flatL encC l)from⟨hp.below (Below.refl _ _) (World.ownsRow_nil w w.heap.size _ _) (Nat.le_refl _),hp.own⟩);have kM3:=(HP3.out.1.cell (p:=⟨b,o+M,none⟩) hb).trans kM;clear hp kM)
     |(go_at_call 65;refine(HBM.out _ HP3.out.1).mono ?_;rintro e w4 ⟨rfl,rfl⟩;have hz4:=HP3.out.1.size;have HX4:=Lib.hid (And.intro HP3.out.1 (own_is HP3.out.2 rfl));clear HBM)
     |(go_at_call 67;refine(HEe.out _ _ _ _ _ HX4.out.2 HSC.out (by omega)).mono ?_;rintro e w6 ⟨rfl,hb6⟩;have HB6:=Lib.hid (bStepS HX4.out.1 hb6);have HX6:=Lib.hid (And.intro HX4.out.2.1 (And.intro (HX4.out.2.2.1.later hb6) HX4.out.2.2.2));clear hb6)
     |(go_at_call 22;refine(HWw.out _ HB6.out _ _ _ _ HX6.out HSC.out (by omega)).mono ?_;rintro e w7 ⟨rfl,rfl⟩))
    go_ret
    exact HEnd.out _ HF.out _ HB6.out
theorem Li.gl {w:World}{S:Nat→Prop}{A:Option Addr}{L:List (List Int × Int)}(h:Li 2 encG w S A L){j:Nat}(hj:j<L.length):∃ (s:List Int) (d:Int) (b o:Nat),L[j]? =some (s,d)∧A=some ⟨b,o,none⟩∧b<w.heap.size∧w.cell? ⟨b,o+j*2,none⟩=some (.string (strOfNums s))∧w.cell? ⟨b,o+j*2+1,none⟩=some (.int .i64 d):=by
 obtain⟨b,o,e,hb,_,hc⟩:=h.at hj
 refine⟨L[j].1,L[j].2,b,o,by rw [List.getElem?_eq_getElem hj],e,hb,?_,?_⟩
 ·have:=hc 0 _ rfl
  rwa [Nat.add_zero]at this
 ·have:=hc 1 _ rfl
  rwa [←Nat.add_assoc]at this
set_option maxHeartbeats 4000000 in
theorem samegl_yes (A B:Option Addr)(c d:Nat)(L:List (List Int × Int))(w:World)(S1 S2:Nat→Prop)(hn:L.length≤1000000)(hA:Li 2 encG w S1 A L)(hB:Li 2 encG w S2 B L):
  Calls Tryz.prog 18 #[.slice A L.length c,.slice B L.length d] w fun e w'=>e= .returned (.bool true)∧Below w.heap.size w w':=by
 have HA:=Lib.hid hA
 have HB:=Lib.hid hB
 obtain⟨n,hL⟩:∃n,L.length=n:=⟨_,rfl⟩
 rw [hL]at hn ⊢
 have HN:=Lib.hid hL
 clear hA hB hL
 have h2:(((n:Int) != (n:Int)))=false:=by simp
 go_enter Tryz.func18,Tryz.ntmps18
 go_wp2
 go_loopw [5] (fun i wr=>∃k:Nat,k≤n∧i= .int .i64 k∧∃r,wr=w.drewN r) (fun i _=>n -(intOf i).toNat)
 case atStart=>exact⟨0,Nat.zero_le _,rfl,0,rfl⟩
 case round=>
  obtain⟨k,hk,rfl,r,rfl⟩:=hrel
  by_cases hlt:k<n
  ·obtain⟨s,q,b,o,hx,rfl,_,a0,a1⟩:=HA.out.gl (by rw [HN.out];exact hlt)
   obtain⟨s',q',b',o',hx',rfl,_,b0,b1⟩:=HB.out.gl (by rw [HN.out];exact hlt)
   rw [hx]at hx'
   injection hx' with hx'
   injection hx' with hx1 hx2
   subst hx1;subst hx2
   obtain⟨t,ht⟩:∃t,strOfNums s=t:=⟨_,rfl⟩
   rw [ht]at a0 b0
   have e1:(t.toList==t.toList)=true:=by simp
   have e2:(q != q)=false:=by simp
   have e3:(t.toList != t.toList)=false:=by simp
   clear hx ht
   go_wp2
   go_quiet (fail)
   go_wp2
   go_roundw
   case rel=>exact⟨k+1,by omega,by go_num,_,rfl⟩
   case measure=>simp [intOf];omega
  ·obtain rfl:k=n:=by omega
   go_wp2
   go_ret
   exact⟨rfl,selfDrew _ _⟩
end Go.Proofs.YtlopleeopnnoeaaGreat
