import Derived.Test.YtlopleeopnnoeaaGreatMb07
import Derived.Shelf.SlSorted.Search
import Derived.Shelf.Lay
import Derived.Ground.SlsoProg
import Derived.Test.YtlopleeopnnoeaaGreatMb18
import Derived.Test.YtlopleeopnnoeaaGreatMb09
import Derived.Test.YtlopleeopnnoeaaGreatMb17
import Derived.Test.YtlopleeopnnoeaaGreatMb03
import Derived.Test.YtlopleeopnnoeaaGreatMb13
set_option linter.unusedVariables false
set_option linter.unusedSimpArgs false
namespace Go.Proofs
open Go.Shelf
shelf_lay SlLaysO.n16 Slso 16 at Tryz as YtlopleeopnnoeaaGreat.searchF
end Go.Proofs
namespace Go.Proofs.YtlopleeopnnoeaaGreat.RW
open Go.RowKit Go.Shelf Go.Sort
def atP (S:List Span)(r:Int):Option Span:=S.find? (Span.has r)
def atV:Option Span→Value
 |some s=> .tuple #[.agg (encS s).toArray,.bool true]
 |none=> .tuple #[.agg #[.int .i64 0,.int .i64 0,.int .i64 0,.int .i64 0],.bool false]
def tAt (S:List Span)(i:Nat):Int:=((S[i]?).map Span.t).getD 0
def cntP (S:List Span)(r:Int):Nat:=(List.range S.length).countP fun i=> !decide (r≤tAt S i)
theorem rise_t {S:List Span}(h:Rise S){i j:Nat}(hij:i≤j)(hj:j<S.length):tAt S i≤tAt S j:=by
 rcases Nat.lt_or_eq_of_le hij with h1|rfl
 ·have h2:=List.pairwise_iff_getElem.1 h.1 i j (by omega) hj h1
  have h3:=h.2 S[j] (List.getElem_mem hj)
  simp [tAt,hj,show i<S.length by omega]
  omega
 ·exact Int.le_refl _
theorem count_range {n:Nat}{p:Nat→Bool}(hm:∀a b,a≤b→b<n→p a=true→p b=true):∀i,i<n→(i<(List.range n).countP (fun i=> !p i)↔p i=false):=by
 induction n with
 |zero=>intro i hi;omega
 |succ n ih=>
  have ih:=ih fun a b h1 h2 h3=>hm a b h1 (by omega) h3
  intro i hi
  rw [List.range_succ,List.countP_append]
  have hle:(List.range n).countP (fun i=> !p i)≤n:=by have:=List.countP_le_length (p:=fun i=> !p i) (l:=List.range n);simpa using this
  by_cases hp:p n=true
  ·have e:List.countP (fun i=> !p i) [n]=0:=by simp [hp]
   rw [e,Nat.add_zero]
   rcases Nat.lt_or_eq_of_le (Nat.le_of_lt_succ hi)with h|rfl
   ·exact ih i h
   ·constructor
    ·intro h;omega
    ·intro h;rw [hp]at h;cases h
  ·have hp':p n=false:=by simpa using hp
   have e:List.countP (fun i=> !p i) [n]=1:=by simp [hp']
   rw [e]
   have hall:∀a,a<n→p a=false:=fun a ha=>by
    cases h:p a with
    |false=>rfl
    |true=>exact absurd (hm a n (by omega) (by omega) h) (by simp [hp'])
   have hcn:(List.range n).countP (fun i=> !p i)=n:=by
    have:(List.range n).countP (fun i=> !p i)=(List.range n).length:=List.countP_eq_length.2 fun a ha=>by simp [hall a (List.mem_range.1 ha)]
    simpa using this
   rw [hcn]
   constructor
   ·intro _
    rcases Nat.lt_or_eq_of_le (Nat.le_of_lt_succ hi)with h|rfl
    ·exact hall i h
    ·exact hp'
   ·intro _;omega
theorem cnt_iff {S:List Span}(h:Rise S)(r:Int)(i:Nat)(hi:i<S.length):i<cntP S r↔tAt S i<r:=by
 have:=count_range (n:=S.length) (p:=fun i=>decide (r≤tAt S i)) (fun a b h1 h2 h3=>by have:=rise_t h h1 h2;simp at h3 ⊢;omega) i hi
 unfold cntP
 rw [this]
 simp
theorem cnt_le (S:List Span)(r:Int):cntP S r≤S.length:=by
 have:=List.countP_le_length (p:=fun i=> !decide (r≤tAt S i)) (l:=List.range S.length)
 simpa [cntP]using this
theorem at_some {S:List Span}(h:Rise S)(r:Int){x:Span}(hx:S[cntP S r]? =some x)(hf:x.f≤r):atP S r=some x:=by
 obtain⟨hlt,hxe⟩:=List.getElem?_eq_some_iff.1 hx
 have h1:¬tAt S (cntP S r)<r:=fun h'=>by have:=(cnt_iff h r _ hlt).2 h';omega
 have h2:tAt S (cntP S r)=x.t:=by simp [tAt,hx]
 unfold atP
 rw [List.find?_eq_some_iff_getElem]
 refine⟨by simp [Span.has];omega,cntP S r,hlt,hxe,fun j hj=> ?_⟩
 have h3:=(cnt_iff h r j (by omega)).1 hj
 simp [tAt,show j<S.length by omega]at h3
 simp [Span.has];omega
theorem at_none {S:List Span}(h:Rise S)(r:Int)(hn:∀x,S[cntP S r]? =some x→r<x.f):atP S r=none:=by
 unfold atP
 rw [List.find?_eq_none]
 intro s hs
 obtain⟨j,hj,hje⟩:=List.getElem_of_mem hs
 simp [Span.has]
 intro h1
 rcases Nat.lt_trichotomy j (cntP S r)with h'|h'|h'
 ·have h3:=(cnt_iff h r j hj).1 h'
  simp [tAt,hj,hje]at h3
  exact h3
 ·subst h'
  have:=hn s (by rw [List.getElem?_eq_getElem hj,hje])
  omega
 ·have hc:cntP S r<S.length:=by omega
  have h4:=hn _ (List.getElem?_eq_getElem hc)
  have h5:=List.pairwise_iff_getElem.1 h.1 (cntP S r) j hc hj h'
  have h6:=h.2 _ (List.getElem_mem hc)
  rw [hje]at h5
  omega
set_option maxHeartbeats 1000000 in
theorem at1_any (A:Option Addr)(c:Nat)(S:List Span)(r:Int)(p q i:Nat)(W:World)(hS:Li 4 encS W (fun _=>True) A S)(hp:W.cell? ⟨p,0,none⟩=some (.slice A S.length c))(hq:W.cell? ⟨q,0,none⟩=some (.int .i32 r))(hi:i<S.length)(hn:S.length≤2000000)(hr1: -2147483648≤r)(hr2:r≤2147483647):
  Calls Tryz.prog 148 #[.int .i64 i,.pointer (some ⟨p,0,none⟩),.pointer (some ⟨q,0,none⟩)] W fun e w'=>e= .returned (.bool (decide (r≤tAt S i)))∧∃n,w'=W.drewN n:=by
 obtain⟨x,b,o,hx,rfl,_,_,_,c1,_,_⟩:=hS.span hi
 have ht:tAt S i=x.t:=by simp [tAt,hx]
 rw [ht]
 have hi2:(i:Int)<(S.length:Int):=by omega
 have hi3:(0:Int)≤(i:Int):=by omega
 clear hS hx ht
 go_enter Tryz.func148,Tryz.ntmps148
 go_wp2
 go_quiet (fail)
 go_wp2
 go_ret
 exact⟨rfl,_,rfl⟩
set_option maxHeartbeats 4000000 in
theorem at_any (A:Option Addr)(c:Nat)(S:List Span)(r:Int)(w:World)(hS:Li 4 encS w (fun _=>True) A S)(hc:S.length≤c)(hc2:c≤9223372036854775807)(hn:S.length≤2000000)(hR:Rise S)(hr1: -2147483648≤r)(hr2:r≤2147483647):
  Calls Tryz.prog 100 #[.slice A S.length c,.int .i32 r] w fun e w'=>e= .returned (atV (atP S r))∧Below w.heap.size w w':=by
 have HS:=Lib.hid hS
 have HR:=Lib.hid hR
 have hcl:=cnt_le S r
 have HC:=Lib.hid (show (∀x,S[cntP S r]? =some x→x.f≤r→atP S r=some x)∧((∀x,S[cntP S r]? =some x→r<x.f)→atP S r=none)from⟨fun x h1 h2=>at_some hR r h1 h2,fun h=>at_none hR r h⟩)
 clear hS hR
 go_enter Tryz.func100,Tryz.ntmps100
 go_wp2_with fail
 refine atCalls (fun X=>Below w.heap.size w X∧Blk X w.heap.size #[.slice A S.length c]∧Blk X (w.heap.size+1) #[.int .i32 r]∧Blk X (w.heap.size+1+1) #[.int .i64 0,.int .i64 0,.int .i64 0,.int .i64 0]) ⟨(((Below.refl _ _).alloc (Nat.le_refl _) _).alloc (by simp) _).alloc (by simp;omega) _,(blk_three _ _ _ _ _ _ _).1,(blk_three _ _ _ _ _ _ _).2.1,(blk_three _ _ _ _ _ _ _).2.2⟩ ?_
 rintro X ⟨hX,b0,b1,b2⟩
 have HX:=Lib.hid (And.intro hX (And.intro b0 (And.intro b1 b2)))
 clear hX b0 b1 b2
 have eg:∀args w,(callFunc 148 args).run Tryz.prog w= .ok (.enter 148 args) w:=enters_of Tryz.func148 (by kernel_rfl) rfl
 have hs:=Any.sort_Search searchF 148 #[.pointer (some ⟨w.heap.size,0,none⟩),.pointer (some ⟨w.heap.size+1,0,none⟩)] S.length (fun i=>decide (r≤tAt S i)) X eg (by omega)
  (fun m os i hi=>by
   have hb:Below X.heap.size X (grow (X.drewN m) os):=(selfDrew X m).trans (belGrow (X.drewN m) os)
   have k0:=(HX.out.2.1.later hb HX.out.2.1.1).2.1 0
   have k1:=(HX.out.2.2.1.later hb HX.out.2.2.1.1).2.1 0
   refine(at1_any A c S r w.heap.size (w.heap.size+1) i (grow (X.drewN m) os) ((HS.out.later HX.out.1).later hb) k0 k1 hi hn hr1 hr2).mono ?_
   rintro e w' ⟨he,n,rfl⟩
   exact⟨he,n,#[],by rw [grow_empty]⟩)
  (fun a b h1 h2 h3=>by have:=rise_t HR.out h1 h2;simp at h3 ⊢;omega)
 change Calls Tryz.prog 94 #[.int .i64 S.length,.func (.func 148) #[] #[.pointer (some ⟨w.heap.size,0,none⟩),.pointer (some ⟨w.heap.size+1,0,none⟩)]] X _ at hs
 change Calls _ _ _ _ fun e w'=>e= .returned (.int .i64 (cntP S r:Nat))∧∃q os,w'=grow (X.drewN q) os at hs
 have H1:=Lib.hid hs
 clear hs
 refine H1.out.mono ?_
 rintro e w1 ⟨rfl,q,os,hw⟩
 have hb:Below X.heap.size X w1:=by rw [hw];exact(selfDrew X q).trans (belGrow (X.drewN q) os)
 have HY:=Lib.hid (show Below w.heap.size w w1∧Blk w1 w.heap.size #[.slice A S.length c]∧Blk w1 (w.heap.size+1) #[.int .i32 r]∧Blk w1 (w.heap.size+1+1) #[.int .i64 0,.int .i64 0,.int .i64 0,.int .i64 0]from
  ⟨HX.out.1.trans (hb.mono HX.out.1.size),HX.out.2.1.later hb HX.out.2.1.1,HX.out.2.2.1.later hb HX.out.2.2.1.1,HX.out.2.2.2.later hb HX.out.2.2.2.1⟩)
 clear hw hb H1 HX
 have z0:w1.cell? ⟨w.heap.size,0,none⟩=some (.slice A S.length c):=HY.out.2.1.2.1 0
 have z1:w1.cell? ⟨w.heap.size+1,0,none⟩=some (.int .i32 r):=HY.out.2.2.1.2.1 0
 have y0:w1.cell? ⟨w.heap.size+1+1,0,none⟩=some (.int .i64 0):=HY.out.2.2.2.2.1 0
 have y1:w1.cell? ⟨w.heap.size+1+1,1,none⟩=some (.int .i64 0):=HY.out.2.2.2.2.1 1
 have y2:w1.cell? ⟨w.heap.size+1+1,2,none⟩=some (.int .i64 0):=HY.out.2.2.2.2.1 2
 have y3:w1.cell? ⟨w.heap.size+1+1,3,none⟩=some (.int .i64 0):=HY.out.2.2.2.2.1 3
 have f0:=HY.out.2.2.2.2.2 0
 have f1:=HY.out.2.2.2.2.2 1
 have f2:=HY.out.2.2.2.2.2 2
 have f3:=HY.out.2.2.2.2.2 3
 have fl:=HY.out.2.2.2.1
 obtain⟨n,hne⟩:∃n,cntP S r=n:=⟨_,rfl⟩
 rw [hne]at HC hcl
 rw [hne]
 clear hne
 by_cases hlt:n<S.length
 ·obtain⟨x,b,o,hx,rfl,hbl,_,c0,c1,c2,c3⟩:=(HS.out.later HY.out.1).span hlt
  have g1:decide ((n:Int)<(S.length:Int))=true:=decide_eq_true (by omega)
  have g2:(n:Int)<(S.length:Int):=by omega
  have g3:(0:Int)≤(n:Int):=by omega
  by_cases hf:x.f≤r
  ·have HV:=Lib.hid (HC.out.1 x hx hf)
   have g4:decide (x.f≤r)=true:=decide_eq_true hf
   clear hx HC
   go_wp2_with fail
   go_quiet (fail)
   go_wp2_with fail
   refine bodyPost_ret (v:= .tuple #[.agg #[.int .i64 x.f,.int .i64 x.t,.int .i64 x.a,.int .i64 x.b],.bool true]) (by simp [results,Tryz.results100,go_sem,y0,y1,y2,y3,f0,f1,f2,f3,fl]) rfl ⟨by rw [HV.out];rfl,?_⟩
   exact((((belDrew HY.out.1 _).setCell (by simp;omega) _).setCell (by simp;omega) _).setCell (by simp;omega) _).setCell (by simp;omega) _
  ·have HV:=Lib.hid (HC.out.2 fun y hy=>by rw [hx]at hy;injection hy with hy;subst hy;omega)
   have g4:decide (x.f≤r)=false:=decide_eq_false hf
   clear hx HC
   go_wp2_with fail
   go_quiet (fail)
   go_wp2_with fail
   refine bodyPost_ret (v:= .tuple #[.agg #[.int .i64 0,.int .i64 0,.int .i64 0,.int .i64 0],.bool false]) (by simp [results,Tryz.results100,go_sem,y0,y1,y2,y3,f0,f1,f2,f3,fl]) rfl ⟨by rw [HV.out];rfl,?_⟩
   exact((((belDrew HY.out.1 _).setCell (by simp;omega) _).setCell (by simp;omega) _).setCell (by simp;omega) _).setCell (by simp;omega) _
 ·have HV:=Lib.hid (HC.out.2 fun y hy=>by have:=(List.getElem?_eq_some_iff.1 hy).1;omega)
  have g1:decide ((n:Int)<(S.length:Int))=false:=decide_eq_false (by omega)
  clear HC
  go_wp2_with fail
  go_quiet (fail)
  go_wp2_with fail
  refine bodyPost_ret (v:= .tuple #[.agg #[.int .i64 0,.int .i64 0,.int .i64 0,.int .i64 0],.bool false]) (by simp [results,Tryz.results100,go_sem,y0,y1,y2,y3,f0,f1,f2,f3,fl]) rfl ⟨by rw [HV.out];rfl,?_⟩
  exact((((belDrew HY.out.1 _).setCell (by simp;omega) _).setCell (by simp;omega) _).setCell (by simp;omega) _).setCell (by simp;omega) _
end Go.Proofs.YtlopleeopnnoeaaGreat.RW
namespace Go.Proofs.YtlopleeopnnoeaaGreat
open Go.RowKit
theorem bd_good {k:Int}{L:List RW.Row}{S:List RW.Span}(h:RW.Good k L S):Bd S:=fun s hs=>⟨(h.bd s hs).1,h.rise.2 s hs,(h.bd s hs).2⟩
structure TvS (X:World)(A:Option Addr)(c:Nat)(S:List RW.Span):Prop where
 li:Li 4 RW.encS X (fun _=>True) A S
 cap:S.length≤c∧c≤9223372036854775807
theorem TvS.of {X Y:World}{A:Option Addr}{n c:Nat}{S:List RW.Span}{P:Nat→Prop}(h:n=S.length∧Li 4 RW.encS X P A S∧(A=none→S.length=0∧c=0)∧S.length≤c∧c≤9223372036854775807)(hb:Below X.heap.size X Y):TvS Y A c S:=
 ⟨(h.2.1.mono fun _ _=>trivial).later hb,h.2.2.2⟩
theorem TvS.later {X Y:World}{A:Option Addr}{c:Nat}{S:List RW.Span}(h:TvS X A c S)(hb:Below X.heap.size X Y):TvS Y A c S:=⟨h.li.later hb,h.cap⟩
structure TvL (w X:World)(K:Nat)(A5:Option Addr)(c5:Nat)(S5:List RW.Span)(A7:Option Addr)(c7:Nat)(S7:List RW.Span)(A8:Option Addr)(c8:Nat)(S8:List RW.Span):Prop where
 be:Below w.heap.size w X
 lo:w.heap.size≤K
 blk:Blk X K #[.slice A5 S5.length c5,.slice A7 S7.length c7,.slice A8 S8.length c8]
 s5:TvS X A5 c5 S5
 s7:TvS X A7 c7 S7
 s8:TvS X A8 c8 S8
theorem TvL.later {w X Y:World}{K c5 c7 c8:Nat}{A5 A7 A8:Option Addr}{S5 S7 S8:List RW.Span}(h:TvL w X K A5 c5 S5 A7 c7 S7 A8 c8 S8)(hb:Below X.heap.size X Y)(hs:X.heap.size=K+1):TvL w Y K A5 c5 S5 A7 c7 S7 A8 c8 S8:=
 ⟨h.be.trans (hb.mono (by have:=h.lo;omega)),h.lo,h.blk.later hb (by omega),h.s5.later hb,h.s7.later hb,h.s8.later hb⟩
def cutK (S5 S7 S8:List RW.Span):Nat→List Int
 |0=>[0]
 |1=>0::cutOf S5
 |2=>0::(cutOf S5++cutOf S7)
 |_=>cuts3 S5 S7 S8
theorem TK.BtI.lower {base base' m tb mb:Nat}{g:Int→TK.V3}{hd:TK.Hd}{Bs:List (List TK.V3)}{Ix:List Nat}{l:List TK.V3→Option Nat}{W:World}(h:TK.BtI base g m tb mb hd Bs Ix l W)(hb:base'≤base):TK.BtI base' g m tb mb hd Bs Ix l W:=
 ⟨h.tr.lower hb,h.ix,h.is,h.mem⟩
theorem TK.Built.lower {g:Int→TK.V3}{w X w':World}{e:Ending}(h:TK.Built g 1114112 X e w')(hb:Below w.heap.size w X)(hz:w.heap.size≤X.heap.size):TK.Built g 1114112 w e w':=by
 obtain⟨tb,mb,hd,Bs,Ix,l,e1,hB,hb'⟩:=h
 exact⟨tb,mb,hd,Bs,Ix,l,e1,hB.lower hz,hb.trans (hb'.mono hz)⟩
def nowK (t:TK.V3)(k:Nat):Array Value:=#[.bool (if 0<k then t.1 else false),.bool (if 1<k then t.2.1 else false),.bool (if 2<k then t.2.2 else false)]
theorem atV_eq (o:Option RW.Span):RW.atV o= .tuple #[.agg #[.int .i64 (o.getD ⟨0,0,0,0⟩).f,.int .i64 (o.getD ⟨0,0,0,0⟩).t,.int .i64 (o.getD ⟨0,0,0,0⟩).a,.int .i64 (o.getD ⟨0,0,0,0⟩).b],.bool o.isSome]:=by
 cases o<;>rfl
theorem says1_at (T:List RW.Span)(r:Int):says1 T r=(((RW.atP T r).getD ⟨0,0,0,0⟩).a==1):=by
 unfold says1 RW.val RW.atP
 cases T.find? (RW.Span.has r)<;>rfl
theorem keepT {Y Z:World}{base n np cp c3 bc i N:Nat}{E:TypeId}{Ap A3:Option Addr}{xs:List Value}{u a b c:Value}{size:Nat}(hp:Pushed Y Z base E size (.slice Ap np cp) n xs A3 c3)(n1:some bc≠(Value.slice Ap np cp).ownBlock)(n2:some N≠(Value.slice Ap np cp).ownBlock)(hb:bc<Y.heap.size)(hN:N<Y.heap.size)
  (h0:Y.cell? ⟨bc,i,none⟩=some u) (h1:Y.cell? ⟨N,0,none⟩=some a) (h2:Y.cell? ⟨N,1,none⟩=some b) (h3:Y.cell? ⟨N,2,none⟩=some c):
  Z.cell? ⟨bc,i,none⟩=some u∧Z.cell? ⟨N,0,none⟩=some a∧Z.cell? ⟨N,1,none⟩=some b∧Z.cell? ⟨N,2,none⟩=some c:=by
 have k1:=hp.grown.block bc hb n1
 have k2:=hp.grown.block N hN n2
 exact⟨(World.cell?_of_block (a:=⟨bc,i,none⟩) k1).trans h0,(World.cell?_of_block (a:=⟨N,0,none⟩) k2).trans h1,(World.cell?_of_block (a:=⟨N,1,none⟩) k2).trans h2,(World.cell?_of_block (a:=⟨N,2,none⟩) k2).trans h3⟩
set_option maxHeartbeats 8000000 in
set_option maxRecDepth 100000 in
theorem truthsOf_any (A:Option Addr)(c:Nat)(L:List RW.Row)(w:World)(hL:Li 5 RW.encR w (fun _=>True) A L)(hc:L.length≤c)(hn:L.length≤500):
  Calls Tryz.prog 60 #[.slice A L.length c] w fun e w'=>∃S5 S7 S8 P,RW.Good 5 L S5∧RW.Good 7 L S7∧RW.Good 8 L S8∧(∀r,0≤r→r<1114112→pval P (false,false,false) r=tv S5 S7 S8 r)∧TK.Built (pval P (false,false,false)) 1114112 w e w':=by
 have C1:=Lib.hid (RW.of_any A c L 5 w hL hc (by omega))
 have HL:=Lib.hid hL
 clear hL
 go_enter Tryz.func60,Tryz.ntmps60
 go_wp2_with fail
 refine C1.out.mono ?_
 rintro e w1 ⟨S5,g5,A5,n5,c5,rfl,o5,b1⟩
 clear C1
 have l5:=own_count RW.encS_len (by decide) o5
 subst l5
 have C2:=Lib.hid (RW.of_any A c L 7 w1 (HL.out.later b1) hc (by omega))
 have H5:=Lib.hid (And.intro g5 (And.intro (LiV.own RW.encS_len (by decide) o5) b1))
 clear g5 o5 b1
 go_wp2_with fail
 refine C2.out.mono ?_
 rintro e w2 ⟨S7,g7,A7,n7,c7,rfl,o7,b2⟩
 clear C2
 have l7:=own_count RW.encS_len (by decide) o7
 subst l7
 have hz1:=H5.out.2.2.size
 have C3:=Lib.hid (RW.of_any A c L 8 w2 (HL.out.later (H5.out.2.2.trans (b2.mono hz1))) hc (by omega))
 have H7:=Lib.hid (And.intro g7 (And.intro (LiV.own RW.encS_len (by decide) o7) b2))
 clear g7 o7 b2
 go_wp2_with fail
 refine C3.out.mono ?_
 rintro e w3 ⟨S8,g8,A8,n8,c8,rfl,o8,b3⟩
 clear C3
 have l8:=own_count RW.encS_len (by decide) o8
 subst l8
 have hz2:=H7.out.2.2.size
 have H8:=Lib.hid (And.intro g8 (And.intro (LiV.own RW.encS_len (by decide) o8) b3))
 clear g8 o8 b3
 have hz3:=H8.out.2.2.size
 go_upto_region 2 with fail
 refine at_world (fun X=>TvL w X w3.heap.size A5 c5 S5 A7 c7 S7 A8 c8 S8∧X.heap.size=w3.heap.size+1) ⟨⟨H5.out.2.2.trans ((H7.out.2.2.mono hz1).trans ((H8.out.2.2.mono (by omega)).trans ((Below.refl _ _).alloc (by omega) _))),by omega,blk_new _ _ _,TvS.of (H5.out.2.1.parts) ?_,TvS.of H7.out.2.1.parts ?_,TvS.of H8.out.2.1.parts ?_⟩,World.size_alloc _ _⟩ ?_
 ·exact H7.out.2.2.trans ((H8.out.2.2.mono (by omega)).trans ((Below.refl _ _).alloc (by omega) _))
 ·exact H8.out.2.2.trans ((Below.refl _ _).alloc (by omega) _)
 ·exact(Below.refl _ _).alloc (by omega) _
 rintro X ⟨hT,hzX⟩
 have HT:=Lib.hid hT
 have HZ:=Lib.hid hzX
 have G5:=Lib.hid H5.out.1
 have G7:=Lib.hid H7.out.1
 have G8:=Lib.hid H8.out.1
 clear hT hzX H5 H7 H8 hz1 hz2 hz3 HL
 obtain⟨K,hK⟩:∃K,w3.heap.size=K:=⟨_,rfl⟩
 rw [hK]at HT HZ ⊢
 clear hK
 go_upto_region 3 with fail
 refine at_world (fun Y=>Grows X 3 1 encI (some ⟨X.heap.size,0,none⟩) 1 1 [0] Y) ⟨own_newN X #[.int .i64 0] 3 1 1 rfl (by unfold maxLen;omega),(Below.refl _ _).alloc (Nat.le_refl _) _⟩ ?_
 rintro Y hG
 have HG:=Lib.hid hG
 clear hG
 have TY:=Lib.hid (HT.out.later HG.out.below HZ.out)
 have l0:Y.cell? ⟨K,0,none⟩=some (.slice A5 S5.length c5):=TY.out.blk.2.1 0
 have l1:Y.cell? ⟨K,1,none⟩=some (.slice A7 S7.length c7):=TY.out.blk.2.1 1
 have l2:Y.cell? ⟨K,2,none⟩=some (.slice A8 S8.length c8):=TY.out.blk.2.1 2
 go_wp2
 go_loopw [4,6,8,27] (fun v _ _ i wr=>∃k:Nat,∃Ao no co,k≤3∧i= .int .i64 k∧v= .slice Ao no co∧no≤10000∧Hid (Grows X 3 1 encI Ao no co (cutK S5 S7 S8 k) wr)) (fun _ _ _ i _=>3 -(intOf i).toNat)
 case atStart=>exact⟨0,_,_,_,by omega,rfl,rfl,by omega,HG.out⟩
 case round=>
  obtain⟨k,Ao,no,co,hk,rfl,rfl,hno,HG⟩:=hrel
  by_cases hlt:k<3
  ·have hi:∃T AT cT,(∀Z,(Instr.index 136 (.agg #[.slice A5 S5.length c5,.slice A7 S7.length c7,.slice A8 S8.length c8]) (.int .i64 k)).run Tryz.prog Z= .ok (.slice AT T.length cT) Z)∧TvS X AT cT T∧Bd T∧T.length≤1000∧(cutK S5 S7 S8 k).length+2*T.length≤10000∧cutK S5 S7 S8 (k+1)=cutK S5 S7 S8 k++cutOf T:=by
    have e5:=G5.out.len
    have e7:=G7.out.len
    have e8:=G8.out.len
    match k,hlt with
    |0,_=>exact⟨S5,A5,c5,fun Z=>by kernel_rfl,HT.out.s5,bd_good G5.out,by omega,by simp [cutK];omega,rfl⟩
    |1,_=>exact⟨S7,A7,c7,fun Z=>by kernel_rfl,HT.out.s7,bd_good G7.out,by omega,by simp [cutK,cutOf_len];omega,rfl⟩
    |2,_=>exact⟨S8,A8,c8,fun Z=>by kernel_rfl,HT.out.s8,bd_good G8.out,by omega,by simp [cutK,cutOf_len];omega,by simp [cutK,cuts3]⟩
   obtain⟨T,AT,cT,h1,h2,h3,h4,h5,h6⟩:=hi
   have H2:=Lib.hid (And.intro h2 (And.intro h3 h6))
   clear h2 h3 h6
   have hnl:no+2*T.length≤10000:=by have:=own_count encI_len (by decide) HG.out.own;omega
   clear h5
   go_upto_region 7 with fail
   go_loopw [4,8,32] (fun v _ i wq=>∃j:Nat,∃Aq cq,j≤T.length∧i= .int .i64 j∧v= .slice Aq (no+2*j) cq∧Hid (Grows X 3 1 encI Aq (no+2*j) cq (cutK S5 S7 S8 k++cutOf (T.take j)) wq)) (fun _ _ i _=>T.length -(intOf i).toNat)
   case atStart=>exact⟨0,Ao,co,Nat.zero_le _,rfl,rfl,Lib.hid (by simpa [cutOf]using HG.out)⟩
   case round=>
    obtain⟨j,Aq,cq,hj,rfl,rfl,HQ⟩:=hrel
    by_cases hlj:j<T.length
    ·obtain⟨x,b,o,hx,rfl,hbl,_,q0,q1,q2,q3⟩:=(H2.out.1.li.later HQ.out.below).span hlj
     have hxm:x∈T:=List.mem_of_getElem? hx
     have xb1:=(H2.out.2.1 x hxm).1
     have xb2:=(H2.out.2.1 x hxm).2.1
     have xb3:x.t≤1114111:=(H2.out.2.1 x hxm).2.2
     have HX:=Lib.hid (cutOf_snoc hx)
     have hz:=HQ.out.below.size
     clear hx hxm h1 l0 l1 l2
     go_wp2_with (at_builtin;refine wpList_pushM RW.int_elt (HQ.out.own.alloc _) (by simp;omega) rfl rfl rfl rfl (by simp) rfl rfl (by unfold maxLen;omega) (by omega) ?_;intro A3 c3 w3 hp;have HP:=Lib.hid hp;clear hp)
     go_roundw
     case rel=>exact⟨_,_,_,⟨j+1,by omega,rfl,_,_,rfl,Lib.hid (by rw [HX.out,←List.append_assoc];exact HQ.out.pushM (M:=[x.f,x.t+1]) ((Below.refl _ _).alloc (Nat.le_refl _) _) rfl HP.out)⟩,rfl,rfl,by go_num⟩
     case measure=>simp [intOf];omega
    ·obtain rfl:j=T.length:=by omega
     rw [List.take_length]at HQ
     have H6:=H2.out.2.2
     clear h1 l0 l1 l2
     go_wp2_with fail
     go_roundw
     case rel=>exact⟨k+1,Aq,no+2*T.length,cq,by omega,by go_num,rfl,by omega,by rw [H6];exact HQ.out⟩
     case measure=>simp [intOf];omega
  ·obtain rfl:k=3:=by omega
   have hnl:1≤no:=by have:=own_count encI_len (by decide) HG.out.own;have hcl:=cuts3_len S5 S7 S8;rw [show cutK S5 S7 S8 3=cuts3 S5 S7 S8 from rfl]at this;omega
   have hcK:cutK S5 S7 S8 3=cuts3 S5 S7 S8:=rfl
   rw [hcK]at HG
   clear hcK hlt hk l0 l1 l2
   obtain⟨Cs,hCs⟩:∃Cs,cuts3 S5 S7 S8=Cs:=⟨_,rfl⟩
   rw [hCs]at HG
   have hCl:Cs.length=no:=by have:=own_count encI_len (by decide) HG.out.own;simpa using this
   obtain⟨g,rfl,hgb,hgs,hnc,hcm,hH⟩:=holds_own HG.out.own (by omega)
   have c1:=sort_ints g 0 co Cs wr hH hgs (by omega)
   rw [hCl]at c1
   have C1:=Lib.hid c1
   clear c1
   have hml:(Cs.mergeSort fun x y=>decide (x≤y)).length=no:=by rw [List.length_mergeSort,hCl]
   have hb:=HG.out.below.size
   have c2:∀Y n os,Y=Go.Sort.grow (Go.Sort.putRow (Value.int .i64) (Go.Sort.ahead wr n) g 0 (Cs.mergeSort fun x y=>decide (x≤y)).toArray) os→Calls Tryz.prog 99 #[.slice (some ⟨g,0,none⟩) no co] Y fun e w'=>e= .returned (.slice (some ⟨g,0,none⟩) (sortedOnce Cs).length co)∧Grows X 3 1 encI (some ⟨g,0,none⟩) (sortedOnce Cs).length co (sortedOnce Cs) w':=by
    intro Y n os hY
    have hs:=own_sorted (os:=os) (q:=n) HG.out.own HG.out.below hb hml
    rw [←hY]at hs
    obtain⟨g',e,_,h2,h3,h4,h5⟩:=holds_own hs.1 (by omega)
    injection e with e
    injection e with e
    subst e
    have:=compact_ints g 0 co _ Y h5 (by omega) (by omega)
    rw [hml]at this
    refine this.mono ?_
    rintro e w' ⟨rfl,q,rfl⟩
    have hc:=RW.cut_calls_out (q:=q) HG.out.own HG.out.below Y hY _ (by rw [hml])
    exact⟨rfl,⟨hc.1,hc.2⟩⟩
   have C2:=Lib.hid c2
   clear c2
   clear HG hH hml
   go_wp2_with fail
   refine C1.out.mono ?_
   rintro e w5 ⟨rfl,n5,os,hY⟩
   have C3:=Lib.hid (C2.out w5 n5 os hY)
   clear hY C2 C1
   go_wp2_with fail
   refine C3.out.mono ?_
   rintro e w6 ⟨rfl,hG6⟩
   have HC:=Lib.hid hCs
   clear hCl hCs C3
   have hso:=cutsT_ok (bd_good G5.out) (bd_good G7.out) (bd_good G8.out)
   have hsl:=sortedOnce_len Cs
   have hcl:=cuts3_len S5 S7 S8
   rw [HC.out]at hcl
   unfold cutsT at hso
   rw [HC.out]at hso
   have HM3:=Lib.hid (show ∀c,c∈cuts3 S5 S7 S8→c∈sortedOnce Cs from fun c hc=>(hso.2.1 c).1 (by rwa [HC.out]at hc))
   obtain⟨C,hCC⟩:∃C,sortedOnce Cs=C:=⟨_,rfl⟩
   rw [hCC]at hso hsl hG6 HM3 ⊢
   have e5:=G5.out.len
   have e7:=G7.out.len
   have e8:=G8.out.len
   have hCn:C.length≤10000:=by omega
   have hC1:1≤C.length:=hso.2.2.1
   have HO:=Lib.hid hso
   have HG:=Lib.hid hG6
   have hz6:=hG6.below.size
   clear hG6 hso hsl hcl hCC e5 e7 e8 HC hnl hno
   go_wp2_with (at_builtin;refine wpList_push RW.int_elt HG.out.own hz6 rfl rfl rfl rfl (by simp) rfl rfl (by unfold maxLen;omega) (by omega) ?_;intro A3 c3 w7 hp;have HP:=Lib.hid hp;have hcap:C.length+1≤c3:=RW.own_cap hp.own;have hcap2:(C.length:Int)≤(c3:Int):=(by omega);clear hp)
   have B7:=Lib.hid (show Below X.heap.size X w7 from HP.out.below HG.out.below HG.out.own (Nat.le_refl _))
   have O7:=Lib.hid (show w7.ownsRow X.heap.size 3 1 (.slice A3 (C.length+1) c3) (C.length+1) (flatL encI (C++[1114112]))from by rw [flatL_snoc];exact HP.out.own)
   have L7:=Lib.hid (Li.own encI_len (by decide) O7.out)
   clear O7 HG HP hz6 hgb hgs hnc hcm hb
   have hz7:=B7.out.size
   go_loopw [9,10,11,12,13,14,15,16,17,58] (fun v _ _ _ _ _ _ _ _ i wr=>∃k:Nat,∃Ap np cp,k≤C.length∧i= .int .i64 k∧v= .slice Ap np cp∧np≤k∧Hid (∃out,TQ S5 S7 S8 C k out∧Grows w7 145 5 TK.encP Ap np cp out wr)) (fun _ _ _ _ _ _ _ _ _ i _=>C.length -(intOf i).toNat)
   case atStart=>exact⟨0,none,0,0,Nat.zero_le _,rfl,rfl,Nat.le_refl _,[],TQ.start HO.out.2.2.1 HO.out.2.2.2.1,Grows.start _ _ _⟩
   case round=>
    obtain⟨i,Ap,np,cp,hi,rfl,rfl,hnp,HI⟩:=hrel
    obtain⟨out,hTQ,hGr⟩:=HI.out
    have hzr:=hGr.below.size
    by_cases hlt:i<C.length
    ·obtain⟨bc,oc,rfl,hbc,_,hcc⟩:=L7.out.ints (by simp)
     have hcc0:=(hGr.below.cell (p:=⟨bc,oc+i,none⟩) hbc).trans (hcc i (by simp;omega))
     have hcc1:=(hGr.below.cell (p:=⟨bc,oc+(i+1),none⟩) hbc).trans (hcc (i+1) (by simp;omega))
     have nb:=Lib.hid (show some bc≠(Value.slice Ap np cp).ownBlock∧some wr.heap.size≠(Value.slice Ap np cp).ownBlock from⟨fun e=>by have:=(hGr.own.lt bc e.symm).1;omega,fun e=>by have:=(hGr.own.lt _ e.symm).2;omega⟩)
     obtain⟨fr,hfr⟩:∃fr,cAt C i=fr:=⟨_,rfl⟩
     obtain⟨nx,hnx⟩:∃nx,cAt (C++[1114112]) (i+1)=nx:=⟨_,rfl⟩
     have efr:(C++[(1114112:Int)]).getD i 0=fr:=(cAt_snoc hlt).trans hfr
     have enx:(C++[(1114112:Int)]).getD (i+1) 0=nx:=hnx
     rw [efr]at hcc0
     rw [enx]at hcc1
     have hbd:0≤fr∧fr≤1114112:=by rw [←hfr];exact HO.out.2.2.2.2 i hlt
     have hbn:0≤nx∧nx≤1114112:=by
      rw [←hnx]
      by_cases h:i+1<C.length
      ·rw [cAt_snoc h];exact HO.out.2.2.2.2 (i+1) h
      ·rw [show i+1=C.length by omega,cAt_end];omega
     have hst:=hTQ.step HO.out.1 HM3.out HO.out.2.2.2.2 hlt
     rw [hfr,hnx]at hst
     have hlen:out.length=np:=by have:=own_count TK.encP_len (by decide) hGr.own;exact this
     have TW:=Lib.hid (HT.out.later (B7.out.trans (hGr.below.mono hz7)) HZ.out)
     have HR:=Lib.hid (And.intro hst (And.intro hGr hlen))
     have w32f:IntKind.i32.wrap fr=fr:=IntWalk.i32_in _ (by omega)
     have l0:wr.cell? ⟨K,0,none⟩=some (.slice A5 S5.length c5):=TW.out.blk.2.1 0
     have l1:wr.cell? ⟨K,1,none⟩=some (.slice A7 S7.length c7):=TW.out.blk.2.1 1
     have l2:wr.cell? ⟨K,2,none⟩=some (.slice A8 S8.length c8):=TW.out.blk.2.1 2
     have lK:=TW.out.blk.1
     clear hcc hTQ hGr hst hfr hnx efr enx hlen HI
     obtain⟨t3,ht3⟩:∃t3,tv S5 S7 S8 fr=t3:=⟨_,rfl⟩
     rw [ht3]at HR
     have HT3:=Lib.hid ht3
     clear ht3
     go_upto_region 20 with fail
     refine at_world (fun Z=>Below wr.heap.size wr Z∧Blk Z wr.heap.size (nowK t3 0)) ⟨(Below.refl _ _).alloc (Nat.le_refl _) _,blk_new _ _ _⟩ ?_
     rintro Z ⟨hZ,hBn⟩
     have HN:=Lib.hid (And.intro hZ hBn)
     clear hZ hBn
     obtain⟨N,hN⟩:∃N,wr.heap.size=N:=⟨_,rfl⟩
     rw [hN]at HN nb ⊢
     obtain⟨W0,hW0⟩:∃W0,W0=wr:=⟨_,rfl⟩
     subst hW0
     go_loopw [13,14,15,16,64] (fun _ _ _ _ i wq=>∃k:Nat,k≤3∧i= .int .i64 k∧Hid (Below N W0 wq∧Blk wq N (nowK t3 k))) (fun _ _ _ _ i _=>3 -(intOf i).toNat)
     case atStart=>exact⟨0,by omega,rfl,HN.out⟩
     case round=>
      obtain⟨k,hk,rfl,HQ⟩:=hrel
      by_cases hlk:k<3
      ·have hi2:∃T AT cT,(∀Z,(Instr.index 136 (.agg #[.slice A5 S5.length c5,.slice A7 S7.length c7,.slice A8 S8.length c8]) (.int .i64 k)).run Tryz.prog Z= .ok (.slice AT T.length cT) Z)∧TvS W0 AT cT T∧RW.Rise T∧T.length≤2000000∧nowK t3 (k+1)=(nowK t3 k).setIfInBounds k (.bool (says1 T fr)):=by
        have e5:=G5.out.len
        have e7:=G7.out.len
        have e8:=G8.out.len
        have e:=HT3.out
        subst e
        match k,hlk with
        |0,_=>exact⟨S5,A5,c5,fun Z=>by kernel_rfl,TW.out.s5,G5.out.rise,by omega,rfl⟩
        |1,_=>exact⟨S7,A7,c7,fun Z=>by kernel_rfl,TW.out.s7,G7.out.rise,by omega,rfl⟩
        |2,_=>exact⟨S8,A8,c8,fun Z=>by kernel_rfl,TW.out.s8,G8.out.rise,by omega,rfl⟩
       obtain⟨T,AT,cT,h1,h2,h3,h4,h5⟩:=hi2
       have c1:=RW.at_any AT cT T fr wr (h2.li.later (hN▸HQ.out.1)) h2.cap.1 h2.cap.2 h4 h3 (by omega) (by omega)
       rw [atV_eq]at c1
       rw [says1_at]at h5
       obtain⟨o,ho⟩:∃o,(RW.atP T fr).getD ⟨0,0,0,0⟩=o:=⟨_,rfl⟩
       obtain⟨ok,hok⟩:∃ok,(RW.atP T fr).isSome=ok:=⟨_,rfl⟩
       rw [ho,hok]at c1
       rw [ho]at h5
       have C1:=Lib.hid c1
       have H5:=Lib.hid h5
       clear c1 h2 h3 h4 h5 ho hok
       obtain⟨uk,huk⟩:∃uk,(nowK t3 k)[k]? =some uk:=⟨(nowK t3 k)[k]'(by show k<3;exact hlk),Array.getElem?_eq_getElem _⟩
       have k0:(k:Int)<3:=by omega
       have k1:(0:Int)≤(k:Int):=by omega
       go_wp2_with fail
       refine C1.out.mono ?_
       rintro e w8 ⟨rfl,hb8⟩
       have HB8:=Lib.hid (And.intro (HQ.out.1.trans (hb8.mono (by have:=HQ.out.2.1;omega))) (HQ.out.2.later hb8 HQ.out.2.1))
       have m0:w8.cell? ⟨N,k,none⟩=some uk:=(HB8.out.2.2.1 k).trans huk
       have m1:=HB8.out.2.2.2 k
       have m2:=HB8.out.2.1
       clear hb8 C1 HQ huk
       go_wp2
       go_roundw
       case rel=>exact⟨k+1,by omega,by go_num,(HB8.out.1.setCell (by simp) _).alloc (by simp only [World.size_setCell];have:=HB8.out.2.1;omega) _,by rw [H5.out];exact(HB8.out.2.set_ k (by show k<3;exact hlk) _).alloc _⟩
       case measure=>simp [intOf];omega
      ·obtain rfl:k=3:=by omega
       have HB3:=Lib.hid (show Below N W0 wr∧Blk wr N #[.bool t3.1,.bool t3.2.1,.bool t3.2.2]from⟨HQ.out.1,HQ.out.2⟩)
       clear HQ hlk hk HN l0 l1 l2 lK
       have h31:=HB3.out.2.2.1 0
       have h32:=HB3.out.2.2.1 1
       have h33:=HB3.out.2.2.1 2
       have HG2:=Lib.hid (HR.out.2.1.later (hN▸HB3.out.1:Below W0.heap.size W0 wr))
       have HJ:=Lib.hid (And.intro HR.out.1 HR.out.2.2)
       have hb0:=(HB3.out.1.cell (p:=⟨bc,oc+(i+1),none⟩) (by rw [←hN];exact Nat.lt_of_lt_of_le hbc hzr)).trans hcc1
       have hbk:bc<wr.heap.size:=by have:=HB3.out.1.size;omega
       have hNw:N<wr.heap.size:=HB3.out.2.1
       have hzw:w7.heap.size≤wr.heap.size:=by have:=HB3.out.1.size;omega
       have HO2:=Lib.hid HG2.out.own
       have HBk:=Lib.hid HB3.out.2
       clear HB3 HR HT3 hcc0 hcc1 w32f
       have i1:(0:Int)≤(i:Int)+1:=by omega
       have i2:(i:Int)+1<(C.length:Int)+1:=by omega
       have i3:((i:Int)+1).toNat=i+1:=by omega
       have i4:IntKind.i64.wrap ((i:Int)+1)=(i:Int)+1:=IntWalk.i64_in _ (by omega)
       have i5:IntKind.i64.wrap (nx - 1)=nx - 1:=IntWalk.i64_in _ (by omega)
       rcases Nat.eq_zero_or_pos np with h0|hpos
       ·have hD:out=[]:=List.eq_nil_of_length_eq_zero (by rw [HJ.out.2,h0])
        have HD:=Lib.hid (show jstep out ⟨fr,nx - 1,t3⟩=out++[⟨fr,nx - 1,t3⟩]by rw [hD];rfl)
        clear hD
        have z0:=Lib.hid h0
        clear h0
        have g1:¬(1≤(np:Int)):=by have:=z0.out;omega
        have g2:decide ((0:Int)<(np:Int))=false:=decide_eq_false (by have:=z0.out;omega)
        have g3:decide (0<np)=false:=decide_eq_false (by have:=z0.out;omega)
        go_upto_region 26 with fail
        go_quiet (fail)
        go_upto_region 28 with fail
        refine at_world (fun Y=>Below wr.heap.size wr Y) (selfDrew wr _) ?_
        intro Y hY
        have HY:=Lib.hid hY
        have y0:=(hY.cell (p:=⟨bc,oc+(i+1),none⟩) hbk).trans hb0
        have y1:=(hY.cell (p:=⟨N,0,none⟩) hNw).trans h31
        have y2:=(hY.cell (p:=⟨N,1,none⟩) hNw).trans h32
        have y3:=(hY.cell (p:=⟨N,2,none⟩) hNw).trans h33
        have HG3:=Lib.hid (HG2.out.later hY)
        have yN:N<Y.heap.size:=Nat.lt_of_lt_of_le hNw hY.size
        have yb:bc<Y.heap.size:=Nat.lt_of_lt_of_le hbk hY.size
        have yz:w7.heap.size≤Y.heap.size:=Nat.le_trans hzw hY.size
        clear hY
        have hA1:np+1≤maxLen:=by unfold maxLen;omega
        have hA2:(np+1)*24≤140737488355328:=by omega
        go_region_held3 (fun X=>X.cell? ⟨bc,oc+(i+1),none⟩=some (.int .i64 nx)∧X.cell? ⟨N,0,none⟩=some (.bool t3.1)∧X.cell? ⟨N,1,none⟩=some (.bool t3.2.1)∧X.cell? ⟨N,2,none⟩=some (.bool t3.2.2)) (first|go_keep|exact keepT hp nb.out.1 nb.out.2 yb yN y0 y1 y2 y3) ((refine step_pushN (cs:=#[.int .i64 fr,.int .i64 (nx - 1),.bool t3.1,.bool t3.2.1,.bool t3.2.2]) TK.piece_elt HG3.out.own yz (by rfl) (by rfl) (by rfl) (by rfl) (by rfl) (by rfl) (by rfl) (by rfl) hA1 hA2 ?_;intro A3 c3 w3 hp))
        have HE:=Lib.hid (show Grows w7 145 5 TK.encP A3 (np+1) c3 (jstep out ⟨fr,nx - 1,t3⟩) w3 from by
         rw [HD.out]
         exact HG3.out.push (Below.refl _ _) hp)
        clear hp
        go_wp2
        go_roundw
        case rel=>exact⟨i+1,A3,np+1,c3,by omega,by go_num,rfl,by omega,_,HJ.out.1,HE.out⟩
        case measure=>simp [intOf];omega
       ·obtain⟨g',cs,rfl,hgb,hBk,_,_,_,hcs⟩:=own_blk HO2.out hpos
        obtain⟨D',y,rfl⟩:∃D' y,out=D'++[y]:=by
         rcases List.eq_nil_or_concat out with h|⟨S,y,h⟩
         ·have:=HJ.out.2;rw [h]at this;simp at this;omega
         ·exact⟨S,y,by rw [h,List.concat_eq_append]⟩
        have hD':D'.length=np - 1:=by have:=HJ.out.2;simp at this;omega
        have ow (i:Nat) (u:Value) (hu:(TK.encP y)[i]? =some u):wr.cell? ⟨g',(np - 1)*5+i,none⟩=some u:=by
         rw [hBk.2.1]
         refine hcs _ _ ?_
         rw [←hD']
         exact TK.flatP_get D' y i u hu
        have m1:=ow 1 _ rfl
        have m2:=ow 2 _ rfl
        have m3:=ow 3 _ rfl
        have m4:=ow 4 _ rfl
        have mf:=hBk.2.2 ((np - 1)*5+1)
        have ml:=hBk.1
        clear hcs ow hBk
        have g1:(1≤(np:Int)):=by omega
        have g2:decide ((0:Int)<(np:Int))=true:=decide_eq_true (by omega)
        have g3:decide (0<np)=true:=decide_eq_true (by omega)
        have g4:(np:Int) - 1<(np:Int):=by omega
        have g5:((np:Int) - 1).toNat=np - 1:=by omega
        have g6:decide ((0:Int)≤(np:Int) - 1)=true:=decide_eq_true (by omega)
        by_cases e1:y.v=t3
        ·have d1:(y.v==t3)=true:=by simpa using e1
         have hq:∀w,(Go.binOp .eql 141 (.agg #[.bool y.v.1,.bool y.v.2.1,.bool y.v.2.2]) (.agg #[.bool t3.1,.bool t3.2.1,.bool t3.2.2])).run Tryz.prog w= .ok (.bool true) w:=fun w=>by rw [←d1];exact TK.eql_v3 _ _ w
         clear d1
         have HD:=Lib.hid (jstep_yes (D:=D') (x:=⟨fr,nx - 1,t3⟩) e1)
         clear e1
         have HS:=Lib.hid (show ∀q,Grows w7 145 5 TK.encP (some ⟨g',0,none⟩) np cp (jstep (D'++[y]) ⟨fr,nx - 1,t3⟩) ((wr.drewN q).setCell ⟨g',(np - 1)*5+1,none⟩ (.int .i64 (nx - 1)))from by
          intro q
          have h:=((ownDrew HO2.out q).stored ((np - 1)*5+1) (.int .i64 (nx - 1))).1
          rw [←hD',TK.flatP_set]at h
          rw [HD.out,←hD']
          exact⟨h,(belDrew HG2.out.below q).setCell hgb _⟩)
         go_upto_region 26 with fail
         go_quiet (fail)
         go_wp2
         go_roundw
         case rel=>exact⟨i+1,_,np,cp,by omega,by go_num,rfl,by omega,_,HJ.out.1,HS.out _⟩
         case measure=>simp [intOf];omega
        ·have d1:(y.v==t3)=false:=by simpa using e1
         have hq:∀w,(Go.binOp .eql 141 (.agg #[.bool y.v.1,.bool y.v.2.1,.bool y.v.2.2]) (.agg #[.bool t3.1,.bool t3.2.1,.bool t3.2.2])).run Tryz.prog w= .ok (.bool false) w:=fun w=>by rw [←d1];exact TK.eql_v3 _ _ w
         clear d1
         have HD:=Lib.hid (jstep_no (D:=D') (y:=y) (x:=⟨fr,nx - 1,t3⟩) e1)
         clear e1
         go_upto_region 26 with fail
         go_quiet (fail)
         go_upto_region 28 with fail
         refine at_world (fun Y=>Below wr.heap.size wr Y) (selfDrew wr _) ?_
         intro Y hY
         have HY:=Lib.hid hY
         have y0:=(hY.cell (p:=⟨bc,oc+(i+1),none⟩) hbk).trans hb0
         have y1:=(hY.cell (p:=⟨N,0,none⟩) hNw).trans h31
         have y2:=(hY.cell (p:=⟨N,1,none⟩) hNw).trans h32
         have y3:=(hY.cell (p:=⟨N,2,none⟩) hNw).trans h33
         have HG3:=Lib.hid (HG2.out.later hY)
         have yN:N<Y.heap.size:=Nat.lt_of_lt_of_le hNw hY.size
         have yb:bc<Y.heap.size:=Nat.lt_of_lt_of_le hbk hY.size
         have yz:w7.heap.size≤Y.heap.size:=Nat.le_trans hzw hY.size
         clear hY
         have hA1:np+1≤maxLen:=by unfold maxLen;omega
         have hA2:(np+1)*24≤140737488355328:=by omega
         go_region_held3 (fun X=>X.cell? ⟨bc,oc+(i+1),none⟩=some (.int .i64 nx)∧X.cell? ⟨N,0,none⟩=some (.bool t3.1)∧X.cell? ⟨N,1,none⟩=some (.bool t3.2.1)∧X.cell? ⟨N,2,none⟩=some (.bool t3.2.2)) (first|go_keep|exact keepT hp nb.out.1 nb.out.2 yb yN y0 y1 y2 y3) ((refine step_pushN (cs:=#[.int .i64 fr,.int .i64 (nx - 1),.bool t3.1,.bool t3.2.1,.bool t3.2.2]) TK.piece_elt HG3.out.own yz (by rfl) (by rfl) (by rfl) (by rfl) (by rfl) (by rfl) (by rfl) (by rfl) hA1 hA2 ?_;intro A3 c3 w3 hp))
         have HE:=Lib.hid (show Grows w7 145 5 TK.encP A3 (np+1) c3 (jstep (D'++[y]) ⟨fr,nx - 1,t3⟩) w3 from by
          rw [HD.out]
          exact HG3.out.push (Below.refl _ _) hp)
         clear hp
         go_wp2
         go_roundw
         case rel=>exact⟨i+1,A3,np+1,c3,by omega,by go_num,rfl,by omega,_,HJ.out.1,HE.out⟩
         case measure=>simp [intOf];omega
    ·obtain rfl:i=C.length:=by omega
     have HF:=Lib.hid (hTQ.fin rfl)
     have hlen:out.length=np:=own_count TK.encP_len (by decide) hGr.own
     have C9:=Lib.hid (TK.build_big 1114112 (false,false,false) Ap np cp out wr ((LiV.own TK.encP_len (by decide) hGr.own).mono (S':=fun _=>True) fun _ _=>trivial) (by omega) (by omega) (by omega) (fun _=>trivial))
     have HB9:=Lib.hid (hGr.below)
     clear hTQ hGr HI
     go_wp2_with fail
     refine C9.out.mono ?_
     rintro e w9 hB
     have HR:=Lib.hid (show TK.Built (pval out (false,false,false)) 1114112 w e w9 from hB.lower ((HT.out.be.trans ((B7.out.mono (by have:=HT.out.lo;have:=HZ.out;omega)).trans (HB9.out.mono (by have:=HT.out.lo;have:=HZ.out;omega))))) (by have:=HT.out.lo;have:=HZ.out;omega))
     obtain⟨tb,mb,hd,Bs,Ix,l,rfl,_⟩:=hB
     clear C9 HB9
     go_wp2
     go_ret
     exact⟨S5,S7,S8,out,G5.out,G7.out,G8.out,HF.out,HR.out⟩
open Go.RowKit Go.Maps
theorem IsTx.mono {lo hi lo' hi':Nat}{g:Int→Int}{t:Nat}{W:World}(h:IsTx lo hi g t W)(h1:lo'≤lo)(h2:hi≤hi'):IsTx lo' hi' g t W:=by
 obtain⟨base,mb,hd,Bs,Ix,l,h,hb⟩:=h
 exact⟨base,mb,hd,Bs,Ix,l,h,fun k hk=>⟨Nat.le_trans h1 (hb k hk).1,Nat.lt_of_lt_of_le (hb k hk).2 h2⟩⟩
theorem IsPx.mono {lo hi lo' hi':Nat}{g:Int→TP.V2}{t:Nat}{W:World}(h:IsPx lo hi g t W)(h1:lo'≤lo)(h2:hi≤hi'):IsPx lo' hi' g t W:=by
 obtain⟨base,mb,hd,Bs,Ix,l,h,hb⟩:=h
 exact⟨base,mb,hd,Bs,Ix,l,h,fun k hk=>⟨Nat.le_trans h1 (hb k hk).1,Nat.lt_of_lt_of_le (hb k hk).2 h2⟩⟩
theorem IsKx.mono {lo hi lo' hi':Nat}{g:Int→TK.V3}{t:Nat}{W:World}(h:IsKx lo hi g t W)(h1:lo'≤lo)(h2:hi≤hi'):IsKx lo' hi' g t W:=by
 obtain⟨base,mb,hd,Bs,Ix,l,h,hb⟩:=h
 exact⟨base,mb,hd,Bs,Ix,l,h,fun k hk=>⟨Nat.le_trans h1 (hb k hk).1,Nat.lt_of_lt_of_le (hb k hk).2 h2⟩⟩
theorem says1_good {k:Int}{L:List RW.Row}{S:List RW.Span}(h:RW.Good k L S){r:Int}(h0:0≤r)(h1:r≤1114111):says1 S r=(vget k L r==1):=by
 unfold says1 vget
 rw [h.says r h0 h1]
theorem tv_good {L:List RW.Row}{S5 S7 S8:List RW.Span}(h5:RW.Good 5 L S5)(h7:RW.Good 7 L S7)(h8:RW.Good 8 L S8){r:Int}(h0:0≤r)(h1:r≤1114111):tv S5 S7 S8 r=(vget 5 L r==1,vget 7 L r==1,vget 8 L r==1):=by
 unfold tv
 rw [says1_good h5 h0 h1,says1_good h7 h0 h1,says1_good h8 h0 h1]
def OneT (lo hi:Nat)(k:Int)(L:List RW.Row)(t:Nat)(W:World):Prop:=∃g,IsTx lo hi g t W∧∀r,0≤r→r≤1114111→g r=vget k L r
theorem one_table {k:Int}{L:List RW.Row}{S:List RW.Span}{w w':World}{e:Ending}(h:RW.Good k L S)(hB:Built (pval (S.map pcS) 0) 1114112 w e w'):∃t,e= .returned (.pointer (some ⟨t,0,none⟩))∧OneT w.heap.size w'.heap.size k L t w'∧Below w.heap.size w w':=by
 obtain⟨t,e1,hI,hb⟩:=hB.isx
 exact⟨t,e1,⟨_,hI,fun r h0 h1=>pval_good h h0 h1⟩,hb⟩
theorem OneT.later {lo hi:Nat}{k:Int}{L:List RW.Row}{t:Nat}{W W':World}(h:OneT lo hi k L t W)(hb:Below W.heap.size W W')(hh:hi≤W.heap.size):OneT lo hi k L t W':=by
 obtain⟨g,h1,h2⟩:=h
 exact⟨g,h1.later hb hh,h2⟩
theorem OneT.mono {lo hi lo' hi':Nat}{k:Int}{L:List RW.Row}{t:Nat}{W:World}(h:OneT lo hi k L t W)(h1:lo'≤lo)(h2:hi≤hi'):OneT lo' hi' k L t W:=by
 obtain⟨g,a,b⟩:=h
 exact⟨g,a.mono h1 h2,b⟩
theorem OneT.kept {lo hi:Nat}{k:Int}{L:List RW.Row}{t:Nat}{W W':World}(h:OneT lo hi k L t W)(hs:W.heap.size≤W'.heap.size)(hk:∀k,lo≤k→k<hi→W'.heap[k]? =W.heap[k]?):OneT lo hi k L t W':=by
 obtain⟨g,a,b⟩:=h
 exact⟨g,a.kept hs hk,b⟩
def OneK (lo hi:Nat)(L:List RW.Row)(t:Nat)(W:World):Prop:=∃g,IsKx lo hi g t W∧∀r,0≤r→r≤1114111→g r=(vget 5 L r==1,vget 7 L r==1,vget 8 L r==1)
theorem OneK.later {lo hi:Nat}{L:List RW.Row}{t:Nat}{W W':World}(h:OneK lo hi L t W)(hb:Below W.heap.size W W')(hh:hi≤W.heap.size):OneK lo hi L t W':=by
 obtain⟨g,h1,h2⟩:=h
 exact⟨g,h1.later hb hh,h2⟩
theorem OneK.mono {lo hi lo' hi':Nat}{L:List RW.Row}{t:Nat}{W:World}(h:OneK lo hi L t W)(h1:lo'≤lo)(h2:hi≤hi'):OneK lo' hi' L t W:=by
 obtain⟨g,a,b⟩:=h
 exact⟨g,a.mono h1 h2,b⟩
theorem OneK.kept {lo hi:Nat}{L:List RW.Row}{t:Nat}{W W':World}(h:OneK lo hi L t W)(hs:W.heap.size≤W'.heap.size)(hk:∀k,lo≤k→k<hi→W'.heap[k]? =W.heap[k]?):OneK lo hi L t W':=by
 obtain⟨g,a,b⟩:=h
 exact⟨g,a.kept hs hk,b⟩
structure Five (lo hi:Nat)(L:List RW.Row)(t0 t1 t2 t4 t5:Nat)(W:World):Prop where
 h0:OneT lo hi 1 L t0 W
 h1:OneT lo hi 4 L t1 W
 h2:OneT lo hi 6 L t2 W
 h4:OneT lo hi 3 L t4 W
 h5:OneK lo hi L t5 W
theorem Five.kept {lo hi:Nat}{L:List RW.Row}{t0 t1 t2 t4 t5:Nat}{W W':World}(h:Five lo hi L t0 t1 t2 t4 t5 W)(hs:W.heap.size≤W'.heap.size)(hk:∀k,lo≤k→k<hi→W'.heap[k]? =W.heap[k]?):Five lo hi L t0 t1 t2 t4 t5 W':=
 ⟨h.h0.kept hs hk,h.h1.kept hs hk,h.h2.kept hs hk,h.h4.kept hs hk,h.h5.kept hs hk⟩
abbrev tbls (t0 t1 t2 t4 t5 b:Nat)(v:Value):Array Value:=#[.pointer (some ⟨t0,0,none⟩),.pointer (some ⟨t1,0,none⟩),.pointer (some ⟨t2,0,none⟩),v,.pointer (some ⟨t4,0,none⟩),.pointer (some ⟨t5,0,none⟩),.map (some b),.map (some (b+1))]
structure Lrn (w:World)(b hi:Nat)(L:List RW.Row)(S:List RW.Span)(t0 t1 t2 t3 t4 t5:Nat)(A6:Option Addr)(k:Nat)(W:World):Prop where
 five:Five w.heap.size b L t0 t1 t2 t4 t5 W
 pair:∃g,IsPx (b+1+1+1) hi g t3 W∧∀r,0≤r→r≤1114111→g r=pget2 L r
 sp:Li 4 RW.encS W (fun q=>b+1+1+1≤q) A6 S
 blk:Blk W (b+1+1) (tbls t0 t1 t2 t4 t5 b (.pointer (some ⟨t3,0,none⟩)))
 m6:∃n,n≤k∧Mp W b n (lrun (outT L) (S.take k)).1
 m7:∃n,n≤k∧Ms W (b+1) n (lrun (outT L) (S.take k)).2
 be:Below w.heap.size w W
 lo:w.heap.size≤b
 hi:hi≤W.heap.size
theorem Lrn.start {w w5 X w8:World}{b:Nat}{L:List RW.Row}{S:List RW.Span}{t0 t1 t2 t3 t4 t5:Nat}{A6:Option Addr}{lo3:Nat}(hF:Five w.heap.size w5.heap.size L t0 t1 t2 t4 t5 w5)
  (hX:Below w5.heap.size w5 X∧Mp X b 0 (fun _=>none)∧Ms X (b+1) 0 (fun _=>0)∧Blk X (b+1+1) (tbls t0 t1 t2 t4 t5 b (.pointer none))) (hz:X.heap.size=b+1+1+1) (hb:w5.heap.size=b) (hlo:w.heap.size≤b) (be:Below w.heap.size w w5)
  (hS:RW.Good 2 L S) (hI:IsPx lo3 w8.heap.size (pval (S.map pcV) (0,0)) t3 w8) (hsp:Li 4 RW.encS w8 (fun q=>X.heap.size≤q) A6 S) (hB:Below X.heap.size X w8) (h3:True) (hl3:X.heap.size≤lo3):
  Blk w8 (b+1+1) (tbls t0 t1 t2 t4 t5 b (.pointer none))∧Lrn w b w8.heap.size L S t0 t1 t2 t3 t4 t5 A6 0 (w8.setCell ⟨b+1+1,3,none⟩ (.pointer (some ⟨t3,0,none⟩))):=by
 subst hb
 have hB1:Blk w8 (w5.heap.size+1+1) (tbls t0 t1 t2 t4 t5 w5.heap.size (.pointer none)):=hX.2.2.2.later hB (by omega)
 have hs:∀k,k≠w5.heap.size+1+1→(w8.setCell ⟨w5.heap.size+1+1,3,none⟩ (.pointer (some ⟨t3,0,none⟩))).heap[k]? =w8.heap[k]? :=fun k hk=>by simp [World.setCell,Array.getElem?_modify,show w5.heap.size+1+1≠k by omega]
 have hsz:(w8.setCell ⟨w5.heap.size+1+1,3,none⟩ (.pointer (some ⟨t3,0,none⟩))).heap.size=w8.heap.size:=World.size_setCell _ _ _
 have hb5:Below w5.heap.size w5 w8:=hX.1.trans (hB.mono (by omega))
 refine⟨hB1,⟨(hF.kept hb5.size fun k _ h2=>hb5.block k h2).kept (by omega) fun k _ h2=>hs k (by omega),⟨_,(hI.mono (by omega) (Nat.le_refl _)).kept (by omega) fun k h1 _=>hs k (by omega),fun r h0 h1=>pvalV_good hS h0 h1⟩,
  (hsp.mono fun q hq=>by omega).far (by simp) _,?_,⟨0,Nat.le_refl _,(hX.2.1.later hB (by omega)).at (hs _ (by omega))⟩,⟨0,Nat.le_refl _,(hX.2.2.1.later hB (by omega)).at (hs _ (by omega))⟩,?_,hlo,by omega⟩⟩
 ·exact hB1.set_ 3 (by show 3<8;omega) _
 ·exact(be.trans (hb5.mono hlo)).setCell (by simp;omega) _
theorem Lrn.later {w:World}{b hi:Nat}{L:List RW.Row}{S:List RW.Span}{t0 t1 t2 t3 t4 t5:Nat}{A6:Option Addr}{k:Nat}{W W':World}(h:Lrn w b hi L S t0 t1 t2 t3 t4 t5 A6 k W)(hb:Below W.heap.size W W'):Lrn w b hi L S t0 t1 t2 t3 t4 t5 A6 k W':=by
 obtain⟨n,hn,m6⟩:=h.m6
 obtain⟨n',hn',m7⟩:=h.m7
 obtain⟨g,hg,hr⟩:=h.pair
 have:=h.hi
 have:=m6.lt
 have:=h.blk.1
 exact⟨h.five.kept hb.size fun k _ h2=>hb.block k (by omega),⟨g,hg.later hb h.hi,hr⟩,h.sp.later hb,h.blk.later hb h.blk.1,⟨n,hn,m6.later hb m6.lt⟩,⟨n',hn',m7.later hb m7.lt⟩,h.be.trans (hb.mono h.be.size),h.lo,Nat.le_trans h.hi hb.size⟩
theorem lrn_call {w:World}{b hi:Nat}{L:List RW.Row}{S:List RW.Span}{t0 t1 t2 t3 t4 t5:Nat}{A6:Option Addr}{k:Nat}{W:World}(hS:RW.Good 2 L S)(h:Lrn w b hi L S t0 t1 t2 t3 t4 t5 A6 k W)(hk:k≤S.length){x:RW.Span}(hx:S[k]? =some x)(x0:0≤x.f)(x1:x.f≤x.t)(x2:x.t≤1114111)(hn:S.length≤1000):
  Calls Tryz.prog 63 #[.pointer (some ⟨b+1+1,0,none⟩),.agg #[.int .i64 x.f,.int .i64 x.t,.int .i64 x.a,.int .i64 x.b]] W fun e w'=>e= .returned (.tuple #[])∧Lrn w b hi L S t0 t1 t2 t3 t4 t5 A6 (k+1) w':=by
 obtain⟨n,hn6,m6⟩:=h.m6
 obtain⟨n',hn7,m7⟩:=h.m7
 obtain⟨g0,i0,e0⟩:=h.five.h0
 obtain⟨g4,i4,e4⟩:=h.five.h4
 obtain⟨g3,i3,e3⟩:=h.pair
 have ho:outB g0 g4 g3=outT L:=funext fun r=>outB_congr e0 e4 e3 r
 have hq:=lq_take (outT L) hS.rise k hk
 have hb:=h.blk
 have hM:maxLen=maxLen:=rfl
 have:=learn_any (x:=x) hb.1 (hb.2.1 0) (hb.2.1 3) (hb.2.1 4) (hb.2.1 6) (hb.2.1 7) i0.is i3.is i4.is (fun r=>by rw [at0_congr e3 r];exact pget2_bd L r) m6 m7 (by unfold maxLen;omega) (by unfold maxLen;omega) (by omega) (by omega) x0 x1 x2 (fun q=>by
  have h1:=hq.num q
  have h2:(S.take k).length≤1000:=by simp;omega
  exact⟨h1.1,by omega⟩)
 refine this.mono ?_
 rintro e w' ⟨e1,n6',n7',a6,a7,q6,q7,hT⟩
 rw [ho]at q6 q7
 have el:(lrun (outT L) (S.take (k+1)))=lst (outT L) ((lrun (outT L) (S.take k)).1,(lrun (outT L) (S.take k)).2) x:=lrun_snoc hx
 have hlt:∀q,q<b+1+1+1→q<W.heap.size:=fun q hq=>by have:=hb.1;omega
 have hlo:=h.lo
 have hhi:=h.hi
 refine⟨e1,⟨h.five.kept hT.size fun q _ h2=>hT.block q (hlt q (by omega)) (by omega) (by omega),⟨g3,i3.kept hT.size fun q h1 h2=>hT.block q (by omega) (by omega) (by omega),e3⟩,h.sp.two hT fun q hq=>⟨by omega,by omega⟩,
  blk_at hb hT.size (hT.block _ hb.1 (by omega) (by omega)),⟨n6',by omega,by rw [el];exact q6⟩,⟨n7',by omega,by rw [el];exact q7⟩,h.be.trans (hT.below h.be.size hlo (by omega)),hlo,Nat.le_trans hhi hT.size⟩⟩
theorem Lrn.done {w:World}{b hi:Nat}{L:List RW.Row}{S:List RW.Span}{t0 t1 t2 t3 t4 t5:Nat}{A6:Option Addr}{W:World}(h:Lrn w b hi L S t0 t1 t2 t3 t4 t5 A6 S.length W)(hS:RW.Good 2 L S):Ucd w.heap.size W.heap.size L (b+1+1) W∧Below w.heap.size w W:=by
 obtain⟨n,hn6,m6⟩:=h.m6
 obtain⟨n',hn7,m7⟩:=h.m7
 obtain⟨g3,i3,e3⟩:=h.pair
 have hb:=h.blk
 have hlo:=h.lo
 have hhi:=h.hi
 have hbs:=hb.1
 have m:∀ {k t},OneT w.heap.size b k L t W→OneT w.heap.size W.heap.size k L t W:=fun h=>h.mono (Nat.le_refl _) (by omega)
 rw [List.take_length]at m6 m7
 exact⟨⟨t0,t1,t2,t3,t4,t5,b,b+1,⟨hb,⟨⟨by omega,by omega⟩,⟨by omega,by omega⟩,⟨by omega,by omega⟩⟩,m h.five.h0,m h.five.h1,m h.five.h2,⟨g3,i3.mono (by omega) hhi,e3⟩,m h.five.h4,h.five.h5.mono (Nat.le_refl _) (by omega),⟨n,n',_,_,m6,m7,compS_of hS (fun r _ _=>rfl) (lq_all _ hS.rise)⟩⟩⟩,h.be⟩
set_option maxHeartbeats 8000000 in
set_option maxRecDepth 100000 in
theorem ucd_any (A:Option Addr)(c:Nat)(L:List RW.Row)(w:World)(hL:Li 5 RW.encR w (fun _=>True) A L)(hc:L.length≤c)(hn:L.length≤500)(hw:∀x∈L,(Lit.int .i64 x.a).wf=true):
    Calls Tryz.prog 17 #[.slice A L.length c] w fun e w'=>∃tp,e= .returned (.pointer (some ⟨tp,0,none⟩))∧Ucd w.heap.size w'.heap.size L tp w'∧Below w.heap.size w w':=by
  have CV:=Lib.hid (fun(X:World) (hX:Below w.heap.size w X) (k:Int)=>values_any A c L k X (hL.later hX) hc (by omega) hw)
  have CT:=Lib.hid (fun(X:World) (hX:Below w.heap.size w X)=>truthsOf_any A c L X (hL.later hX) hc hn)
  have CF:=Lib.hid (fun(X:World) (hX:Below w.heap.size w X) (k:Int)=>RW.of_any A c L k X (hL.later hX) hc (by omega))
  clear hL
  have C1:=Lib.hid (CV.out w (Below.refl _ _) 1)
  go_enter Tryz.func17,Tryz.ntmps17
  go_wp2_with fail
  refine C1.out.mono ?_
  rintro e w1 ⟨S,hS,hB⟩
  obtain⟨t0,rfl,I0,b1⟩:=one_table hS hB
  have z1:=b1.size
  have J0:=Lib.hid (And.intro I0 b1)
  clear hS hB I0 b1 C1
  have C2:=Lib.hid (CV.out w1 J0.out.2 4)
  go_wp2_with fail
  refine C2.out.mono ?_
  rintro e w2 ⟨S,hS,hB⟩
  obtain⟨t1,rfl,I1,b2⟩:=one_table hS hB
  have z2:=b2.size
  have J1:=Lib.hid (And.intro I1 (And.intro b2 (J0.out.2.trans (b2.mono z1))))
  clear hS hB I1 b2 C2
  have C3:=Lib.hid (CV.out w2 J1.out.2.2 6)
  go_wp2_with fail
  refine C3.out.mono ?_
  rintro e w3 ⟨S,hS,hB⟩
  obtain⟨t2,rfl,I2,b3⟩:=one_table hS hB
  have z3:=b3.size
  have J2:=Lib.hid (And.intro I2 (And.intro b3 (J1.out.2.2.trans (b3.mono (by omega)))))
  clear hS hB I2 b3 C3
  have C4:=Lib.hid (CV.out w3 J2.out.2.2 3)
  go_wp2_with fail
  refine C4.out.mono ?_
  rintro e w4 ⟨S,hS,hB⟩
  obtain⟨t4,rfl,I4,b4⟩:=one_table hS hB
  have z4:=b4.size
  have J4:=Lib.hid (And.intro I4 (And.intro b4 (J2.out.2.2.trans (b4.mono (by omega)))))
  clear hS hB I4 b4 C4
  have C5:=Lib.hid (CT.out w4 J4.out.2.2)
  go_wp2_with fail
  refine C5.out.mono ?_
  rintro e w5 ⟨S5,S7,S8,P,g5,g7,g8,hP,hB⟩
  obtain⟨t5,rfl,I5,b5⟩:=Built.iskx hB
  have z5:=b5.size
  have be5:=Lib.hid (J4.out.2.2.trans (b5.mono (by omega)))
  have HF:=Lib.hid (show Five w.heap.size w5.heap.size L t0 t1 t2 t4 t5 w5 from
    ⟨(((J0.out.1.later J1.out.2.1 (Nat.le_refl _)).later J2.out.2.1 (by omega)).later J4.out.2.1 (by omega)).later b5 (by omega) |>.mono (Nat.le_refl _) (by omega),
     ((J1.out.1.later J2.out.2.1 (Nat.le_refl _)).later J4.out.2.1 (by omega)).later b5 (by omega) |>.mono (by omega) (by omega),
     (J2.out.1.later J4.out.2.1 (Nat.le_refl _)).later b5 (by omega) |>.mono (by omega) (by omega),
     J4.out.1.later b5 (Nat.le_refl _) |>.mono (by omega) (by omega),
     ⟨_,I5.mono (by omega) (Nat.le_refl _),fun r h0 h1=>(hP r h0 (by omega)).trans (tv_good g5 g7 g8 h0 h1)⟩⟩)
  clear g5 g7 g8 hP hB I5 b5 C5 J0 J1 J2 J4 CV CT
  have hmm:= @run_makeMap Tryz.prog
  go_upto_region 2 with fail
  obtain⟨b,hb⟩:∃b,w5.heap.size=b:=⟨_,rfl⟩
  have m6:=(((Mp.made w5).later ((Below.refl _ _).alloc (Nat.le_refl _) (.map #[] 0)) (by simp)).later ((Below.refl _ _).alloc (Nat.le_refl _) (.cells #[.pointer (some ⟨t0,0,none⟩),.pointer (some ⟨t1,0,none⟩),.pointer (some ⟨t2,0,none⟩),.pointer none,.pointer (some ⟨t4,0,none⟩),.pointer (some ⟨t5,0,none⟩),.map (some w5.heap.size),.map (some (w5.heap.size+1))] 92)) (by simp;omega))
  have m7:=(Ms.made (w5.alloc (.map #[] 0))).later ((Below.refl _ _).alloc (Nat.le_refl _) (.cells #[.pointer (some ⟨t0,0,none⟩),.pointer (some ⟨t1,0,none⟩),.pointer (some ⟨t2,0,none⟩),.pointer none,.pointer (some ⟨t4,0,none⟩),.pointer (some ⟨t5,0,none⟩),.map (some w5.heap.size),.map (some (w5.heap.size+1))] 92)) (by simp)
  have bl:=blk_new ((w5.alloc (.map #[] 0)).alloc (.map #[] 0)) #[.pointer (some ⟨t0,0,none⟩),.pointer (some ⟨t1,0,none⟩),.pointer (some ⟨t2,0,none⟩),.pointer none,.pointer (some ⟨t4,0,none⟩),.pointer (some ⟨t5,0,none⟩),.map (some w5.heap.size),.map (some (w5.heap.size+1))] 92
  simp only [World.size_alloc,hb]at m6 m7 bl
  have hM:∃X,X=((w5.alloc (.map #[] 0)).alloc (.map #[] 0)).alloc (.cells #[.pointer (some ⟨t0,0,none⟩),.pointer (some ⟨t1,0,none⟩),.pointer (some ⟨t2,0,none⟩),.pointer none,.pointer (some ⟨t4,0,none⟩),.pointer (some ⟨t5,0,none⟩),.map (some b),.map (some (b+1))] 92)∧X.heap.size=b+1+1+1∧Below b w5 X:=⟨_,rfl,by simp [hb],by rw [←hb];exact(((Below.refl _ _).alloc (Nat.le_refl _) _).alloc (by simp) _).alloc (by simp;omega) _⟩
  obtain⟨X,eX,zX,bX⟩:=hM
  rw [←eX]at m6 m7 bl
  simp only [hb]
  rw [←eX]
  have HX:=Lib.hid (show Below w5.heap.size w5 X∧Mp X b 0 (fun _=>none)∧Ms X (b+1) 0 (fun _=>0)∧Blk X (b+1+1) #[.pointer (some ⟨t0,0,none⟩),.pointer (some ⟨t1,0,none⟩),.pointer (some ⟨t2,0,none⟩),.pointer none,.pointer (some ⟨t4,0,none⟩),.pointer (some ⟨t5,0,none⟩),.map (some b),.map (some (b+1))]from⟨hb▸bX,m6,m7,bl⟩)
  have HZ:=Lib.hid (And.intro zX hb)
  have z6:w.heap.size≤b:=by omega
  have HB6:=Lib.hid (be5.out.trans (HX.out.1.mono (by omega)))
  have C6:=Lib.hid (CF.out X HB6.out 2)
  clear eX bX m6 m7 bl zX hb CF hmm
  go_wp2_with fail
  refine C6.out.mono ?_
  rintro e w6 ⟨S,hS,A6,n6,c6,rfl,ho,hbo⟩
  have hl1:=own_count RW.encS_len (by decide) ho
  subst hl1
  have hsl:=hS.len
  have HS:=Lib.hid hS
  have H1:=Lib.hid (And.intro (LiV.own RW.encS_len (by decide) ho) hbo)
  have hz1:=hbo.size
  clear hS ho hbo C6
  go_wp2
  go_loopw [5,7,28] (fun v _ i wr=>∃k:Nat,∃Ao no co,k≤S.length∧i= .int .i64 k∧v= .slice Ao no co∧no=k∧Hid (Grows w6 101 4 TP.encP Ao no co ((S.take k).map pcV) wr)) (fun _ _ i _=>S.length -(intOf i).toNat)
  case atStart=>exact⟨0,none,0,0,Nat.zero_le _,rfl,rfl,rfl,Grows.start _ _ _⟩
  case round=>
    obtain⟨k,Ao,no,co,hk,rfl,rfl,rfl,HG⟩:=hrel
    by_cases hlt:no<S.length
    · obtain⟨x,b,o,hx,rfl,hbl,_,c0,c1,c2,c3⟩:=(H1.out.1.parts.2.1.later HG.out.below).span hlt
      have HX:=Lib.hid (show (S.take (no+1)).map pcV=(S.take no).map pcV++[pcV x]by rw [take_snoc' hx];simp)
      clear hx
      go_upto_region 7 with fail
      refine at_world (fun X=>Below wr.heap.size wr X∧Blk X wr.heap.size (RW.encS x).toArray) ⟨(Below.refl _ _).alloc (Nat.le_refl _) _,blk_new _ _ _⟩ ?_
      rintro X ⟨hX,hB⟩
      have l0:X.cell? ⟨wr.heap.size,0,none⟩=some (.int .i64 x.f):=hB.2.1 0
      have l1:X.cell? ⟨wr.heap.size,1,none⟩=some (.int .i64 x.t):=hB.2.1 1
      have l2:X.cell? ⟨wr.heap.size,2,none⟩=some (.int .i64 x.a):=hB.2.1 2
      have l3:X.cell? ⟨wr.heap.size,3,none⟩=some (.int .i64 x.b):=hB.2.1 3
      have HW:=Lib.hid (And.intro (HG.out.later hX) hX)
      clear hX hB HG c0 c1 c2 c3
      have hz:w6.heap.size≤X.heap.size:=HW.out.1.below.size
      have HO:=Lib.hid HW.out.1.own
      obtain⟨p1,hp1⟩:∃p1,IntKind.i32.wrap x.a=p1:=⟨_,rfl⟩
      obtain⟨p2,hp2⟩:∃p2,IntKind.i32.wrap x.b=p2:=⟨_,rfl⟩
      have HPc:=Lib.hid (show TP.encP (pcV x)=[.int .i64 x.f,.int .i64 x.t,.int .i32 p1,.int .i32 p2]by rw [←hp1,←hp2];rfl)
      go_wp2_with (at_builtin;refine wpList_push TP.piece_elt HO.out hz rfl rfl rfl rfl (by simp) rfl rfl (by unfold maxLen;omega) (by omega) ?_;intro A3 c3 w3 hp;have HP:=Lib.hid hp;clear hp)
      go_roundw
      case rel=>exact⟨no+1,_,_,_,by omega,by go_num,rfl,rfl,by rw [HX.out];exact HW.out.1.push (Below.refl _ _) (by rw [HPc.out];exact HP.out)⟩
      case measure=>simp [intOf];omega
    · obtain rfl:no=S.length:=by omega
      rw [List.take_length]at HG
      have C2:=Lib.hid (TP.build_big 1114112 (0,0) Ao S.length co (S.map pcV) wr (by have:=(LiV.own TP.encP_len (by decide) HG.out.own).mono (S':=fun _=>True) fun _ _=>trivial;exact this) (by rw [List.length_map];omega) (by omega) (by omega) (wfV S))
      have HG1:=Lib.hid HG.out.below
      clear HG
      go_wp2_with fail
      refine C2.out.mono ?_
      rintro e w8 hB
      obtain⟨t3,rfl,I3,b8⟩:=Built.ispx hB
      have B8:=Lib.hid (show Below X.heap.size X w8 from(H1.out.2.trans (HG1.out.mono hz1)).trans (b8.mono (Nat.le_trans hz1 HG1.out.size)))
      have hz8:=B8.out.size
      have L8:=Lib.hid (Lrn.start HF.out HX.out HZ.out.1 HZ.out.2 z6 be5.out HS.out I3 ((H1.out.1.parts.2.1.later HG1.out).later b8) B8.out trivial (Nat.le_trans hz1 HG1.out.size))
      have q3:=(L8.out.1.2.1 3)
      have q3f:=(L8.out.1.2.2 3)
      have q3l:=L8.out.1.1
      have hcs:=H1.out.1.parts.2.2.2
      clear I3 b8 hB C2 HG1 HX HF H1
      have HL8:=Lib.hid L8.out.2
      clear L8
      go_upto_region 10 with fail
      refine at_world (fun Y=>Lrn w b w8.heap.size L S t0 t1 t2 t3 t4 t5 A6 0 Y) HL8.out ?_
      rintro Y hY
      have HY:=Lib.hid hY
      clear hY HL8 q3 q3f q3l
      go_wp2
      go_loopw [9,56] (fun _ i wr=>∃k:Nat,k≤S.length∧i= .int .i64 k∧Hid (Lrn w b w8.heap.size L S t0 t1 t2 t3 t4 t5 A6 k wr)) (fun _ i _=>S.length -(intOf i).toNat)
      case atStart=>exact⟨0,Nat.zero_le _,rfl,HY.out⟩
      case round=>
        obtain⟨k,hk,rfl,HK⟩:=hrel
        by_cases hlt:k<S.length
        · obtain⟨x,b',o,hx,rfl,hbl,_,c0,c1,c2,c3⟩:=HK.out.sp.span hlt
          have hxm:x∈S:=List.mem_of_getElem? hx
          have HX:=Lib.hid hx
          have xr:=HS.out.rise.2 x hxm
          have xb:=HS.out.bd x hxm
          have xb1:=xb.1
          have xb2:x.t≤1114111:=xb.2
          clear hx hxm xb
          go_upto_region 13 with fail
          refine at_world (fun X=>Below wr.heap.size wr X∧Blk X wr.heap.size #[.int .i64 x.f,.int .i64 x.t,.int .i64 x.a,.int .i64 x.b]) ⟨(Below.refl _ _).alloc (Nat.le_refl _) _,blk_new _ _ _⟩ ?_
          rintro Z ⟨hZ,hB⟩
          have l0:Z.cell? ⟨wr.heap.size,0,none⟩=some (.int .i64 x.f):=hB.2.1 0
          have l1:Z.cell? ⟨wr.heap.size,1,none⟩=some (.int .i64 x.t):=hB.2.1 1
          have l2:Z.cell? ⟨wr.heap.size,2,none⟩=some (.int .i64 x.a):=hB.2.1 2
          have l3:Z.cell? ⟨wr.heap.size,3,none⟩=some (.int .i64 x.b):=hB.2.1 3
          have HW:=Lib.hid (HK.out.later hZ)
          have C1:=Lib.hid (lrn_call HS.out HW.out hk HX.out xb1 xr xb2 (by omega))
          clear hZ hB HK c0 c1 c2 c3
          go_wp2_with fail
          refine C1.out.mono ?_
          rintro e w9 ⟨rfl,hN⟩
          have HN:=Lib.hid hN
          clear hN C1
          go_wp2
          go_roundw
          case rel=>exact⟨k+1,by omega,by go_num,HN.out⟩
          case measure=>simp [intOf];omega
        · obtain rfl:k=S.length:=by omega
          have HE:=Lib.hid (HK.out.done HS.out)
          clear HK HY
          go_wp2
          go_ret
          exact⟨_,rfl,HE.out.1,HE.out.2⟩
end Go.Proofs.YtlopleeopnnoeaaGreat
