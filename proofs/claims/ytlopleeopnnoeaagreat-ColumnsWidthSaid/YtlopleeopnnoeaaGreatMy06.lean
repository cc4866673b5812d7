import Derived.Test.YtlopleeopnnoeaaGreatMb01
import Derived.Handy
import Derived.Lib.AppendZerosOnto
import Derived.Test.YtlopleeopnnoeaaGreatMy05
import Derived.Test.YtlopleeopnnoeaaGreatMb26
import Derived.Test.YtlopleeopnnoeaaGreatMb27
import Derived.Test.YtlopleeopnnoeaaGreatMb02
set_option linter.unusedVariables false
set_option linter.unusedSimpArgs false
namespace Go.Proofs.YtlopleeopnnoeaaGreat
open Go.RowKit
def sumTo (n:Nat→Nat):Nat→Nat
 |0=>0
 |k+1=>sumTo n k+n k
def catTo (n:Nat→Nat)(f:Nat→Nat→Value):Nat→List Value
 |0=>[]
 |k+1=>catTo n f k++(List.range (n k)).map (f k)
theorem catTo_length (n:Nat→Nat)(f:Nat→Nat→Value):∀k,(catTo n f k).length=sumTo n k
 |0=>rfl
 |k+1=>by simp [catTo,sumTo,catTo_length n f k]
theorem sumTo_le (n:Nat→Nat)(k:Nat):∀d,sumTo n k≤sumTo n (k+d)
 |0=>Nat.le_refl _
 |d+1=>Nat.le_trans (sumTo_le n k d) (by show _≤sumTo n (k+d)+n (k+d);omega)
theorem sumTo_mono (n:Nat→Nat){k m:Nat}(h:k≤m):sumTo n k≤sumTo n m:=by
 obtain⟨d,rfl⟩:=Nat.le.dest h
 exact sumTo_le n k d
def agree (p q:Nat→Int)(n:Nat):Bool:=(List.range n).all fun j=>p j==q j
theorem slR_elt:Elt Tryz.prog 22 21 1 4:=elt_of Tryz.underlying22 (z:= .int .i32 0) (by kernel_rfl) rfl (by decide)
set_option maxHeartbeats 1000000 in
theorem clone_any (v:Value)(l:List Int)(w:World)(h:Txt w v l)(hl:l.length≤1000000000):Calls Tryz.prog 91 #[v] w (TellsT l w):=by
 obtain⟨A,c,rfl,hr,hnil,hc,hm,_⟩:=h
 rcases A with _|a
 ·obtain⟨h0,rfl⟩:=hnil rfl
  obtain rfl:l=[]:=List.eq_nil_of_length_eq_zero h0
  have hq:=Lib.run_eql_slice_nil (P:= Tryz.prog) w 22 21 none 0 0 0 0 Tryz.underlying22
  go_enter Tryz.func91,Tryz.ntmps91
  go_wp2
  go_ret
  exact⟨_,_,_,rfl,Sl.nil _ _ _,Below.refl _ _⟩
 ·have hq:=Lib.run_eql_slice_nil (P:= Tryz.prog) w 22 21 (some a) l.length c 0 0 Tryz.underlying22
  simp only [Option.isNone]at hq
  have HR:=Lib.hid hr
  have hown:=own_new w #[] 21 0 rfl (Nat.zero_le _)
  have HO:=Lib.hid hown
  clear hr hnil hown
  go_enter Tryz.func91,Tryz.ntmps91
  go_wp2_with (at_builtin;refine wpList_cat slR_elt HO.out (by simp [World.size_alloc]) rfl rfl rfl rfl (HR.out.later ((Below.refl _ _).alloc (Nat.le_refl _) _)) (fun h=>by cases h) (fun j _=>rfl) (by unfold maxLen;omega) (by omega) ?_;intro A3 c3 w3 hp;have HP:=Lib.hid hp;clear hp)
  go_ret
  have hx:=HP.out.own
  rw [liR_map]at hx
  refine⟨_,_,_,rfl,?_,?_⟩
  ·have:=txt_own (l:=l) (n:=0+l.length) (by simp) (by simpa using hx)
   rw [Nat.zero_add]at this
   exact this
  ·exact((Below.refl w.heap.size w).alloc (Nat.le_refl _) _).grown HP.out.grown (by simp [World.size_alloc]) (fun k hk=>(HO.out.lt k hk).1)
def fromP (K:SG.Kinds)(l:List Int)(k:Nat):Nat:=(SG.startsP K l).getD k l.length
def clusP (K:SG.Kinds)(l:List Int)(k:Nat):List Int:=(l.drop (fromP K l k)).take (fromP K l (k+1) - fromP K l k)
def clusL (K:SG.Kinds)(l:List Int):List (List Int):=(List.range (SG.startsP K l).length).map (clusP K l)
section
variable {K:SG.Kinds}{l:List Int}
theorem fromP_lt {k:Nat}(h:k<(SG.startsP K l).length):fromP K l k<l.length:=by
 unfold fromP
 have:(SG.startsP K l).getD k l.length=(SG.startsP K l)[k]:=by simp [List.getD,h]
 rw [this]
 exact(SG.starts_mem (List.getElem_mem h)).1
theorem fromP_end {k:Nat}(h:(SG.startsP K l).length≤k):fromP K l k=l.length:=by
 unfold fromP
 simp [List.getD,List.getElem?_eq_none h]
theorem fromP_le (k:Nat):fromP K l k≤l.length:=by
 rcases Nat.lt_or_ge k (SG.startsP K l).length with h|h
 ·exact Nat.le_of_lt (fromP_lt h)
 ·rw [fromP_end h];exact Nat.le_refl _
theorem fromP_succ {k:Nat}(h:k<(SG.startsP K l).length):SG.nextP K l (fromP K l k+1)=fromP K l (k+1)∧fromP K l k<fromP K l (k+1):=by
 have e:fromP K l k=(SG.startsP K l)[k]:=by unfold fromP;simp [List.getD,h]
 have e':SG.nextP K l (fromP K l k+1)=fromP K l (k+1):=by
  rw [e]
  rcases Nat.lt_or_ge (k+1) (SG.startsP K l).length with h1|h1
  ·rw [(starts_next h1).1]
   unfold fromP
   simp [List.getD,h1]
  ·rw [fromP_end h1]
   have hk:k=(SG.startsP K l).length - 1:=by omega
   have:=(starts_last (K:=K) (l:=l) (by omega)).1
   subst hk
   exact this
 refine⟨e',?_⟩
 rw [←e']
 exact SG.nextP_ge (show fromP K l k+1≤l.length from fromP_lt h)
theorem fromP_zero:fromP K l 0=0:=by
 rcases Nat.eq_zero_or_pos l.length with h|h
 ·have:SG.startsP K l=[]:=by unfold SG.startsP;rw [h];rfl
  unfold fromP
  rw [this,h];rfl
 ·obtain⟨q,hq⟩:=SG.starts_pos (K:=K) h
  unfold fromP
  rw [hq];rfl
theorem clusP_len (k:Nat)(h:k<(SG.startsP K l).length):(clusP K l k).length=fromP K l (k+1) - fromP K l k:=by
 unfold clusP
 have:=fromP_le (K:=K) (l:=l) (k+1)
 have:=fromP_succ h
 rw [List.length_take,List.length_drop]
 omega
theorem clusL_at {k:Nat}(h:k<(SG.startsP K l).length):(clusL K l).getD k []=clusP K l k:=by
 unfold clusL
 simp [List.getD,h]
end
theorem txt_part {w:World}{S:Nat→Prop}{b o c:Nat}{l:List Int}(h:Li 1 encC w S (some ⟨b,o,none⟩) l){p q:Nat}(hpq:p≤q)(hq:q≤l.length)(hc:l.length≤c)(hm:c≤maxLen):Txt w (.slice (some ⟨b,o+p,none⟩) (q - p) (c - p)) ((l.drop p).take (q - p)):=by
 have hl:((l.drop p).take (q - p)).length=q - p:=by rw [List.length_take,List.length_drop];omega
 unfold maxLen at hm
 refine⟨_,_,by rw [hl],fun j hj=> ?_,(fun e=>by cases e),by omega,by unfold maxLen;omega,fun _ _ _=>trivial⟩
 rw [hl]at hj
 obtain⟨b',o',e',h1,_,h2⟩:=h.sc (show p+j<l.length by omega)
 injection e' with e'
 injection e' with e1 e2
 subst e1;subst e2
 refine⟨_,_,rfl,h1,?_⟩
 rw [Nat.add_assoc,h2]
 unfold liR
 simp [List.getD,List.getElem?_take,hj]
theorem texts_elt:Elt Tryz.prog 42 22 1 24:=elt_of Tryz.underlying42 (z:= .slice none 0 0) (by kernel_rfl) rfl (by decide)
structure GC (W:World)(CL:List (List Int))(A:Option Addr)(n c:Nat)(X:World):Prop where
 own:∃xs,X.ownsRow W.heap.size 22 1 (.slice A n c) n xs∧OwnTs W.heap.size X (.slice A n c) xs n CL
 be:Below W.heap.size W X
theorem GC.push {W X Y Z:World}{CL:List (List Int)}{A A':Option Addr}{n c c':Nat}{xs:List Value}{u:Value}(h1:X.ownsRow W.heap.size 22 1 (.slice A n c) n xs)(h2:OwnTs W.heap.size X (.slice A n c) xs n CL)(hb:Below W.heap.size W X)(hXY:Below X.heap.size X Y)(hu:TxtS Y (fun b=>X.heap.size≤b) u (CL.getD n []))(hp:Pushed Y Z W.heap.size 22 1 (.slice A n c) (n+1) (xs++[u]) A' c'):GC W CL A' (n+1) c' Z:=
 ⟨⟨_,hp.own,OwnTs.push h2 h1 hXY hb.size hu hp⟩,hp.below (bStepS hb hXY) (own_later h1 hXY) (Nat.le_refl _)⟩
open Go.RowKit
theorem wpList_make_one {P:Program}(w:World){ops:Array Oper}{rest:List Oper}{o:Oper}{a:Act}{Q:Exit→Act→World→Prop}
  (hg:o.guard=none) (l c:Operand) (t:TypeId) (hop:o.op=Op.makeSlice t l c)
  (e:TypeId) (i:TypeInfo) (z:Value) (h1:P.underlying t=some (.slice e)) (h2:P.info? e=some i) (h3:i.zero=some z) (h4:i.size=1) (hz:z.cells=#[z])
  (kl kc:IntKind) (C:Int) (n:Nat) (hl:a.eval l= .int kl 1) (hc:a.eval c= .int kc C) (hC:C=(n:Int)) (hn:1≤n) (b2:i.bytes*n≤281474976710656) (b3:n≤maxLen)
  (hK:∀w',w'.ownsRow w.heap.size e 1 (.slice (some ⟨w.heap.size,0,none⟩) 1 n) 1 [z]→Below w.heap.size w w'→w'.heap.size=w.heap.size+1→wpList P ops Q rest (a.put o.dst (.slice (some ⟨w.heap.size,0,none⟩) 1 n)) w'):
  wpList P ops Q (o::rest) a w:=by
 refine wpList_plain hg fun K hK'=> ?_
 subst hC
 have hrun:=run_make (P:=P) w t e i z h1 h2 h3 kl kc 1 (n:Int) (by decide) (by omega) (by rw [←Int.natCast_mul];omega) (by unfold maxLen at b3;omega)
 rw [Int.toNat_natCast,h4,Nat.mul_one,hz]at hrun
 have hm:(madeCells #[z] n).toList.take (1*1)=[z]:=by
  obtain⟨m,rfl⟩:∃m,n=m+1:=⟨n - 1,by omega⟩
  apply List.ext_getElem?
  intro j
  rcases j with _|j
  ·simp [madeCells]
  ·simp
   omega
 have h:=hK (w.alloc (.cells (madeCells #[z] n) e)) ⟨rfl,.inr ⟨w.heap.size,n,madeCells #[z] n,rfl,Nat.le_refl _,heap_alloc_new w _,hn,b3,by simp [size_madeCells],hm⟩⟩ ((Below.refl _ _).alloc (Nat.le_refl _) _) (by simp)
 unfold Oper.wp
 simp only [hop,execOp,resolve,Sem.run_bind,Sem.run_pure,Result.andThen_ok,hl,hc]
 rw [show (1:Int).toNat=1 from rfl]at hrun
 simp only [hrun]
 exact hK' _ _ h
def glsTo (G:GY.Kw)(K:SG.Kinds)(l:List Int)(k:Nat):List (List Int × Int):=((clusL K l).take k).flatMap (GY.ofG G)
def lineG (G:GY.Kw)(K:SG.Kinds)(l:List Int):List (List Int × Int):=glsTo G K l (SG.startsP K l).length
def atsTo (G:GY.Kw)(K:SG.Kinds)(l:List Int)(k:Nat):List Int:=(List.range (k+1)).map fun j=>((glsTo G K l j).length:Int)
theorem clusL_len (K:SG.Kinds)(l:List Int):(clusL K l).length=(SG.startsP K l).length:=by unfold clusL;simp
theorem glsTo_succ {G:GY.Kw}{K:SG.Kinds}{l:List Int}{k:Nat}(hk:k<(SG.startsP K l).length):glsTo G K l (k+1)=glsTo G K l k++GY.ofG G (clusP K l k):=by
 unfold glsTo
 rw [take_snoc' (x:=clusP K l k) (by rw [←clusL_at hk];simp [List.getD,clusL_len,hk]),List.flatMap_append]
 simp
theorem atsTo_succ (G:GY.Kw)(K:SG.Kinds)(l:List Int)(k:Nat):atsTo G K l (k+1)=atsTo G K l k++[((glsTo G K l (k+1)).length:Int)]:=by
 unfold atsTo
 rw [List.range_succ,List.map_append]
 rfl
theorem ofG_len2 (K:GY.Kw)(l:List Int):(GY.ofG K l).length≤2*l.length:=by
 unfold GY.ofG
 split
 ·simp
 ·split
  ·have:=lenC_le l l.length
   unfold lenC at this
   rwa [List.take_length]at this
  ·next h _=>
   have:=List.length_pos_iff.2 h
   simp
   omega
theorem fromP_next {K:SG.Kinds}(hK:K.tidy){l:List Int}{k:Nat}(h:k<(SG.startsP K l).length):fromP K l k+SG.nextP K (l.drop (fromP K l k)) 1=fromP K l (k+1):=by
 rw [SG.nextP_drop hK (fromP_lt h) _ 1]
 ·exact(fromP_succ h).1
 ·have e:fromP K l k=(SG.startsP K l)[k]:=by unfold fromP;simp [List.getD,h]
  rw [e]
  exact(SG.starts_mem (List.getElem_mem h)).2
structure GTwo (E:TypeId)(w:World)(D:List (List Int × Int))(L:List Int)(A1:Option Addr)(n1 c1:Nat)(A2:Option Addr)(n2 c2:Nat)(X:World):Prop where
 own1:X.ownsRow w.heap.size E 2 (.slice A1 n1 c1) n1 (flatL encG D)
 own2:X.ownsRow w.heap.size 3 1 (.slice A2 n2 c2) n2 (flatL encI L)
 ne:∀g,(Value.slice A1 n1 c1).ownBlock=some g→(Value.slice A2 n2 c2).ownBlock≠some g
 be:Below w.heap.size w X
theorem ne_kept {v1 v2:Value}(ne:∀g,v1.ownBlock=some g→v2.ownBlock≠some g):v2.ownBlock=none∨v2.ownBlock≠v1.ownBlock:=by
 cases h:v2.ownBlock with
 |none=>exact .inl rfl
 |some q=>exact .inr fun e=>ne q e.symm h
theorem GTwo.left {E:TypeId}{w X Y Z:World}{D D':List (List Int × Int)}{L:List Int}{A1 A2 A:Option Addr}{n1 c1 n2 c2 n c:Nat}(h:GTwo E w D L A1 n1 c1 A2 n2 c2 X)(hb:Below X.heap.size X Y)(hp:Pushed Y Z w.heap.size E 2 (.slice A1 n1 c1) n (flatL encG D') A c):GTwo E w D' L A n c A2 n2 c2 Z:=by
 have o1:=own_later h.own1 hb
 have o2:=own_later h.own2 hb
 refine⟨hp.own,o2.kept hp.grown (ne_kept h.ne),?_,hp.below (bStepS h.be hb) o1 (Nat.le_refl _)⟩
 intro g hg e2
 rcases hp.at_ with e|⟨q,e,hq⟩
 ·rw [e]at hg;exact h.ne g hg e2
 ·rw [e]at hg
  obtain rfl:q=g:=by injection hg
  have:=(h.own2.lt q e2).2
  have:=hb.size
  omega
theorem GTwo.right {E:TypeId}{w X Y Z:World}{D:List (List Int × Int)}{L L':List Int}{A1 A2 A:Option Addr}{n1 c1 n2 c2 n c:Nat}(h:GTwo E w D L A1 n1 c1 A2 n2 c2 X)(hb:Below X.heap.size X Y)(hp:Pushed Y Z w.heap.size 3 1 (.slice A2 n2 c2) n (flatL encI L') A c):GTwo E w D L' A1 n1 c1 A n c Z:=by
 have o1:=own_later h.own1 hb
 have o2:=own_later h.own2 hb
 refine⟨o1.kept hp.grown (ne_kept fun g h2 h1=>h.ne g h1 h2),hp.own,?_,hp.below (bStepS h.be hb) o2 (Nat.le_refl _)⟩
 intro g hg e2
 rcases hp.at_ with e|⟨q,e,hq⟩
 ·rw [e]at e2;exact h.ne g hg e2
 ·rw [e]at e2
  obtain rfl:q=g:=by injection e2
  have:=(h.own1.lt q hg).2
  have:=hb.size
  omega
theorem GTwo.later {E:TypeId}{w X Y:World}{D:List (List Int × Int)}{L:List Int}{A1 A2:Option Addr}{n1 c1 n2 c2:Nat}(h:GTwo E w D L A1 n1 c1 A2 n2 c2 X)(hb:Below X.heap.size X Y):GTwo E w D L A1 n1 c1 A2 n2 c2 Y:=⟨own_later h.own1 hb,own_later h.own2 hb,h.ne,bStepS h.be hb⟩
theorem own_some {w:World}{base n c k:Nat}{E:TypeId}{A:Option Addr}{xs:List Value}(h:w.ownsRow base E k (.slice A n c) n xs)(hn:0<n):(Value.slice A n c).ownBlock≠none:=by
 obtain⟨g,cs,rfl,_⟩:=own_blk h hn
 simp [Value.ownBlock]
set_option maxHeartbeats 8000000 in
set_option maxRecDepth 100000 in
theorem line_any {T:List RW.Row}{tp:Nat}{A:Option Addr}{l:List Int}(c:Nat)(w:World)(hT:Tabs T tp w)(hK:(KT T).ok)(hKt:(KT T).tidy)(hL:Li 1 encC w (fun _=>True) A l)(hsc:Sc l)(hc:l.length≤c)(hm:c≤maxLen)(hn:l.length≤10000):
  Calls Tryz.prog 24 #[.pointer (some ⟨tp,0,none⟩),.slice A l.length c] w fun e w'=>∃A1 n1 c1 A2 n2 c2,e= .returned (.tuple #[.slice A1 n1 c1,.slice A2 n2 c2])∧GTwo 41 w (lineG (KG T) (KT T) l) (atsTo (KG T) (KT T) l (SG.startsP (KT T) l).length) A1 n1 c1 A2 n2 c2 w':=by
 have HT:=Lib.hid hT
 have HL:=Lib.hid (show Li 1 encC w (fun b=>b<w.heap.size) A l from hL.old.mono fun _ h=>h.1)
 have HX:=Lib.hid (fun(X:World) (hX:Below w.heap.size w X) (a:Nat) (ha:a<l.length)=>next_in A c l X (hT.later hX) hK (hL.later hX) hsc hc (by omega) a ha)
 have HSC:=Lib.hid hsc
 obtain⟨NC,hNC⟩:∃NC,(SG.startsP (KT T) l).length=NC:=⟨_,rfl⟩
 have HF:=Lib.hid (show ∀k,k<NC→fromP (KT T) l k<l.length∧fromP (KT T) l k<fromP (KT T) l (k+1)∧fromP (KT T) l (k+1)≤l.length∧fromP (KT T) l k+SG.nextP (KT T) (l.drop (fromP (KT T) l k)) 1=fromP (KT T) l (k+1)∧glsTo (KG T) (KT T) l (k+1)=glsTo (KG T) (KT T) l k++GY.ofG (KG T) (clusP (KT T) l k)from fun k hk=>by
  subst hNC
  exact⟨fromP_lt hk,(fromP_succ hk).2,fromP_le _,fromP_next hKt hk,glsTo_succ hk⟩)
 have HE:=Lib.hid (show fromP (KT T) l NC=l.length by rw [←hNC];exact fromP_end (Nat.le_refl _))
 have HZ:=Lib.hid (show fromP (KT T) l 0=0∧glsTo (KG T) (KT T) l 0=[]∧atsTo (KG T) (KT T) l 0=[0]from⟨fromP_zero,rfl,rfl⟩)
 have HNC:=Lib.hid (show NC≤l.length by
  rw [←hNC]
  have:=List.length_filter_le (SG.begAt (KT T) l) (List.range l.length)
  rw [List.length_range]at this
  exact this)
 unfold lineG
 rw [hNC]
 obtain⟨N,hN⟩:∃N,l.length=N:=⟨_,rfl⟩
 rw [hN]at hc hn HX HF HE HNC ⊢
 have HN:=Lib.hid hN
 have hnc:=HNC.out
 unfold maxLen at hm
 obtain⟨i0,hi0,hz0,hs0,hb0⟩:=info_parts (P:= Tryz.prog) (e:= 41) (z:= .agg #[.string ⟨#[]⟩,.int .i64 0]) (size:=2) (bytes:=24) (by kernel_rfl)
 obtain⟨i1,hi1,hz1,hs1,hb1⟩:=info_parts (P:= Tryz.prog) (e:= 3) (z:= .int .i64 0) (size:=1) (bytes:=8) (by kernel_rfl)
 clear hT hK hKt hL hsc hN hNC
 go_enter Tryz.func24,Tryz.ntmps24
 go_wp2_with (at_make;first
  |(refine wpList_make_own w rfl _ _ _ rfl w.heap.size 41 i0 _ 2 Tryz.underlying29 hi0 hz0 hs0 .i64 .i64 _ N rfl rfl rfl (by rw [hb0];omega) (by unfold maxLen;omega) (Nat.le_refl _) ?_;intro w1 hown hg;have H1:=Lib.hid (And.intro hown hg);have hw1:=hg.size;clear hown hg)
  |(refine wpList_make_one w1 rfl _ _ _ rfl 3 i1 _ Tryz.underlying37 hi1 hz1 hs1 rfl .i64 .i64 _ (N+1) rfl rfl (by omega) (by omega) (by rw [hb1];omega) (by unfold maxLen;omega) ?_;intro w2 hown hbe hsz;have H2:=Lib.hid (And.intro hown (And.intro hbe hsz));clear hown hbe hsz))
 have H0:=Lib.hid (show GTwo 41 w (glsTo (KG T) (KT T) l 0) (atsTo (KG T) (KT T) l 0) (some ⟨w.heap.size,0,none⟩) 0 N (some ⟨w1.heap.size,0,none⟩) 1 (N+1) w2 by
  rw [HZ.out.2.1,HZ.out.2.2]
  have o1:=own_later H1.out.1 H2.out.2.1
  have b1:Below w.heap.size w w1:=⟨H1.out.2.os,H1.out.2.tape,H1.out.2.output,H1.out.2.size,fun k hk=>H1.out.2.block k hk (by simp)⟩
  have hlt:=(H1.out.1.lt w.heap.size rfl).2
  exact⟨o1,ownLow H2.out.1 hw1,(fun g e e'=>by simp only [Value.ownBlock,Option.some.injEq]at e e';omega),bStepS b1 H2.out.2.1⟩)
 have HZ0:=Lib.hid HZ.out.1
 clear H1 H2 HZ
 obtain⟨a1,ha1⟩:∃a1,some (⟨w.heap.size,0,none⟩:Addr)=a1:=⟨_,rfl⟩
 obtain⟨a2,ha2⟩:∃a2,some (⟨w1.heap.size,0,none⟩:Addr)=a2:=⟨_,rfl⟩
 rw [ha1,ha2]at H0 ⊢
 clear ha1 ha2
 go_wp2
 go_loopw [6,7,8,9] (fun ov cv i _ wr=>∃ (k:Nat) (A1:Option Addr) (n1 c1:Nat) (A2:Option Addr) (c2 f:Nat),k≤NC∧i= .int .i64 f∧ov= .slice A1 n1 c1∧cv= .slice A2 (k+1) c2∧n1≤2*f∧f≤N∧Hid (fromP (KT T) l k=f∧GTwo 41 w (glsTo (KG T) (KT T) l k) (atsTo (KG T) (KT T) l k) A1 n1 c1 A2 (k+1) c2 wr)) (fun _ _ i _ _=>N -(intOf i).toNat)
 case atStart=>exact⟨0,a1,0,N,a2,N+1,0,Nat.zero_le _,rfl,rfl,rfl,by omega,by omega,HZ0.out,H0.out⟩
 case round=>
  obtain⟨k,A1,n1,c1,A2,cc2,f,hk,rfl,rfl,rfl,hn1,hf,H⟩:=hrel
  by_cases hlt:k<NC
  ·obtain⟨hf1,hf2,hf3,hf4,hf5⟩:=HF.out k hlt
   rw [H.out.1]at hf1 hf2 hf4
   obtain⟨t,ht⟩:∃t,fromP (KT T) l (k+1)=t:=⟨_,rfl⟩
   rw [ht]at hf2 hf3 hf4
   have CN:=Lib.hid (HX.out wr H.out.2.be f hf1)
   rw [hf4]at CN
   have hcl:clusP (KT T) l k=(l.drop f).take (t - f):=by unfold clusP;rw [H.out.1,ht]
   obtain⟨b,o,rfl,hb,_,_⟩:=HL.out.scs (by rw [HN.out];omega)
   have hpl:(clusP (KT T) l k).length=t - f:=by rw [hcl,List.length_take,List.length_drop,HN.out];omega
   have HP:=Lib.hid (show Li 1 encC w (fun b=>b<w.heap.size) (some ⟨b,o+f,none⟩) (clusP (KT T) l k)∧Sc (clusP (KT T) l k)∧True by
    rw [hcl]
    refine⟨?_,(HSC.out.drop f).take _,trivial⟩
    have:=(HL.out.drop f).take (t - f)
    rwa [Nat.mul_one]at this)
   obtain⟨P,hP⟩:∃P,clusP (KT T) l k=P:=⟨_,rfl⟩
   rw [hP]at HP hpl hf5
   have HG:=Lib.hid hf5
   have hgl:=ofG_len2 (KG T) P
   have HT1:=Lib.hid (And.intro ht hn1)
   clear hcl hP hf4 hf5 ht
   have g1:(f:Int)<(N:Int):=by omega
   have g2:(f:Int)≤(t:Int):=by omega
   have g3:(t:Int)≤(c:Int):=by omega
   have g4:f<c:=by omega
   have g6:(f:Int)<(c:Int):=by omega
   have g7:(c:Int)≠(f:Int):=by omega
   have g8:c≠f:=by omega
   have g9:(0:Int)≤(f:Int):=by omega
   go_wp2_with fail
   refine CN.out.mono ?_
   rintro e w3 ⟨rfl,hb3⟩
   have HO:=Lib.hid (And.intro (own_later H.out.2.own1 hb3) (Nat.le_trans H.out.2.be.size hb3.size))
   have CW:=Lib.hid (with_any (base:=w.heap.size) (c - f) w3 (HT.out.later (bStepS H.out.2.be hb3)) HO.out.1 HO.out.2 (HP.out.1.later (bStepS H.out.2.be hb3)) (fun q hq e=>by
    have:=(HO.out.1.lt q e.symm).1
    omega) HP.out.2.1 (by rw [hpl];omega) (by unfold maxLen;omega) (by rw [hpl];omega) (by omega))
   rw [hpl]at CW
   have HB3:=Lib.hid hb3
   obtain⟨R,hR⟩:∃R,GY.ofG (KG T) P=R:=⟨_,rfl⟩
   rw [hR]at CW HG hgl
   rw [hpl]at hgl
   have HRR:=Lib.hid hR
   clear CN hb3 hpl hR
   go_wp2_with fail
   refine CW.out.mono ?_
   rintro e w4 ⟨A3,c3,rfl,hp⟩
   have H4:=Lib.hid (H.out.2.left HB3.out hp)
   have hz4:=H4.out.be.size
   clear CW hp
   have HLn:=Lib.hid (show (glsTo (KG T) (KT T) l (k+1)).length=n1+R.length from by
    have h1:=own_count encG_len (by decide) H.out.2.own1
    rw [HG.out,List.length_append,h1])
   go_wp2_with (at_builtin;refine wpList_push int_elt H4.out.own2 hz4 rfl rfl rfl rfl (by simp) rfl rfl (by unfold maxLen;omega) (by omega) ?_;intro A6 c6 w6 hp;have H6:=Lib.hid (show GTwo 41 w (glsTo (KG T) (KT T) l (k+1)) (atsTo (KG T) (KT T) l (k+1)) A3 (n1+R.length) c3 A6 (k+1+1) c6 w6 from by
    rw [atsTo_succ,HLn.out,HG.out]
    exact H4.out.right (Below.refl _ _) (by rw [flatL_append];exact hp));clear hp)
   go_roundw
   case rel=>exact⟨k+1,A3,n1+R.length,c3,A6,c6,t,by omega,by go_num,rfl,rfl,by omega,by omega,HT1.out.1,H6.out⟩
   case measure=>simp [intOf];omega
  ·obtain rfl:k=NC:=by omega
   obtain rfl:f=N:=by rw [←H.out.1];exact HE.out
   go_wp2
   go_ret2
   exact⟨_,_,_,_,_,_,rfl,H.out.2⟩
end Go.Proofs.YtlopleeopnnoeaaGreat
