import Derived.Test.YtlopleeopnnoeaaGreatMb21
import Derived.Test.YtlopleeopnnoeaaGreatMb01
import Derived.Test.YtlopleeopnnoeaaGreatMb02
set_option linter.unusedVariables false
set_option linter.unusedSimpArgs false
namespace Go.Proofs.YtlopleeopnnoeaaGreat
open Go.RowKit
theorem getK_any {g:Int→TK.V3}{t:Nat}{W:World}(h:IsK g t W)(r:Int):
  Calls Tryz.prog 161 #[.pointer (some ⟨t,0,none⟩),.int .i64 r] W (fun e w'=>e= .returned (TK.vV (at0 (false,false,false) g r))∧Below W.heap.size W w'):=by
 obtain⟨base,mb,hd,Bs,Ix,l,h⟩:=h
 unfold at0
 by_cases hr:0≤r∧r<1114112
 ·rw [if_pos hr]
  have:=TK.get_any h (by omega) r.toNat (by omega)
  rw [show ((r.toNat:Nat):Int)=r by omega]at this
  exact this
 ·rw [if_neg hr]
  exact TK.get_out h r (by omega)
set_option maxHeartbeats 1000000 in
theorem has_any {g:Int→TK.V3}{tp t:Nat}{W:World}(k:W.cell? ⟨tp,5,none⟩=some (.pointer (some ⟨t,0,none⟩)))(h:IsK g t W)(r:Int)(h0: -2147483648≤r)(h1:r≤2147483647)(j:Int)(v:Bool)
  (hv:∀Z,(Instr.index 141 (TK.vV (at0 (false,false,false) g r)) (.int .i64 j)).run Tryz.prog Z= .ok (.bool v) Z):
  Calls Tryz.prog 116 #[.pointer (some ⟨tp,0,none⟩),.int .i32 r,.int .i64 j] W (fun e w'=>e= .returned (.bool v)∧Below W.heap.size W w'):=by
 have C:=Lib.hid (getK_any h r)
 obtain⟨x,hx⟩:∃x,at0 (false,false,false) g r=x:=⟨_,rfl⟩
 rw [hx]at C
 simp only [hx]at hv
 clear h hx
 go_enter Tryz.func116,Tryz.ntmps116
 go_wp2_with fail
 refine C.out.mono ?_
 rintro e w1 ⟨rfl,hb⟩
 go_wp2
 go_ret
 exact⟨rfl,hb⟩
theorem truth_at {L:List RW.Row}{g:Int→TK.V3}(h:∀r,0≤r→r≤1114111→g r=(vget 5 L r==1,vget 7 L r==1,vget 8 L r==1))(r:Int):at0 (false,false,false) g r=(at0 0 (vget 5 L) r==1,at0 0 (vget 7 L) r==1,at0 0 (vget 8 L) r==1):=by
 unfold at0
 by_cases hr:0≤r∧r<1114112
 ·simp only [if_pos hr]
  exact h r hr.1 (by omega)
 ·simp only [if_neg hr]
  rfl
def conjB (gj gb:Int→Int)(r:Int):Int:=if at0 0 gj r≠0 then at0 0 gj r else if (breakB gb r=4∨breakB gb r=5)∧r≠8204 then 3 else 0
section
variable {lo hi:Nat}{L:List RW.Row}{tp:Nat}{W:World}
set_option maxHeartbeats 1000000 in
theorem upict (h:Ucd lo hi L tp W)(r:Int)(r0: -2147483648≤r)(r1:r≤2147483647):
  Calls Tryz.prog 69 #[.pointer (some ⟨tp,0,none⟩),.int .i32 r] W (fun e w'=>e= .returned (.bool (at0 0 (vget 5 L) r==1))∧Below W.heap.size W w'):=by
 obtain⟨t0,t1,t2,t3,t4,t5,b6,b7,h⟩:=h
 obtain⟨g5,i5,e5⟩:=h.h5
 have C:=Lib.hid (has_any (h.blk.2.1 5) i5.is r r0 r1 0 (at0 0 (vget 5 L) r==1) (fun Z=>by rw [truth_at e5 r];kernel_rfl))
 clear h i5 e5
 go_enter Tryz.func69,Tryz.ntmps69
 go_wp2_with fail
 refine C.out.mono ?_
 rintro e w1 ⟨rfl,hb⟩
 go_wp2
 go_ret
 exact⟨rfl,hb⟩
set_option maxHeartbeats 4000000 in
theorem uconj (h:Ucd lo hi L tp W)(hh:hi≤W.heap.size)(r:Int)(r0: -2147483648≤r)(r1:r≤2147483647):
  Calls Tryz.prog 163 #[.pointer (some ⟨tp,0,none⟩),.int .i32 r] W (fun e w'=>e= .returned (.int .i64 (conjB (vget 6 L) (vget 4 L) r))∧Below W.heap.size W w'):=by
 have CB:=Lib.hid (fun(X:World) (hX:Below W.heap.size W X)=>ubreak (h.later (hX.mono hh)) r r0 r1)
 obtain⟨t0,t1,t2,t3,t4,t5,b6,b7,h⟩:=h
 obtain⟨g2,i2,e2⟩:=h.h2
 have c1:=getT_any i2.is r
 rw [at0_congr e2 r]at c1
 have k:=h.blk.2.1 2
 unfold conjB
 obtain⟨x,hx⟩:∃x,at0 0 (vget 6 L) r=x:=⟨_,rfl⟩
 obtain⟨b,hb⟩:∃b,breakB (vget 4 L) r=b:=⟨_,rfl⟩
 rw [hx]at c1 ⊢
 rw [hb]at CB ⊢
 have C:=Lib.hid c1
 have k:=(show W.cell? ⟨tp,2,none⟩=some (.pointer (some ⟨t2,0,none⟩))from k)
 clear h i2 e2 c1 hx hb
 by_cases e1:x=0
 ·subst e1
  rw [if_neg (by simp)]
  obtain⟨V,hV⟩:∃V,(if (b=4∨b=5)∧r≠8204 then (3:Int)else 0)=V:=⟨_,rfl⟩
  rw [hV]
  have HV:=Lib.hid hV
  clear hV
  go_enter Tryz.func163,Tryz.ntmps163
  go_wp2_with fail
  refine C.out.mono ?_
  rintro e w1 ⟨rfl,hb1⟩
  have C2:=Lib.hid (CB.out w1 hb1)
  go_wp2_with fail
  refine C2.out.mono ?_
  rintro e w2 ⟨rfl,hb2⟩
  have HB:=Lib.hid (hb1.trans (hb2.mono hb1.size))
  clear hb1 hb2 C2 CB C k
  by_cases e4:b=4
  ·subst e4
   by_cases e8:r=8204
   ·subst e8
    obtain rfl:0=V:=by rw [←HV.out,if_neg (by simp)]
    clear HV
    go_wp2
    go_ret
    exact⟨rfl,HB.out⟩
   ·have d8:(r != 8204)=true:=by simpa using e8
    obtain rfl:3=V:=by rw [←HV.out,if_pos ⟨.inl rfl,e8⟩]
    clear HV
    clear e8
    go_wp2
    go_ret
    exact⟨rfl,HB.out⟩
  ·have d4:(b==4)=false:=by simpa using e4
   by_cases e5:b=5
   ·subst e5
    by_cases e8:r=8204
    ·subst e8
     obtain rfl:0=V:=by rw [←HV.out,if_neg (by simp)]
     clear HV
     go_wp2
     go_ret
     exact⟨rfl,HB.out⟩
    ·have d8:(r != 8204)=true:=by simpa using e8
     obtain rfl:3=V:=by rw [←HV.out,if_pos ⟨.inr rfl,e8⟩]
     clear HV
     clear e8 e4 d4
     go_wp2
     go_ret
     exact⟨rfl,HB.out⟩
   ·have d5:(b==5)=false:=by simpa using e5
    obtain rfl:0=V:=by rw [←HV.out,if_neg (fun h=>h.1.elim e4 e5)]
    clear HV
    clear e4 e5
    go_wp2
    go_ret
    exact⟨rfl,HB.out⟩
 ·have d1:(x != 0)=true:=by simpa using e1
  rw [if_pos e1]
  clear e1
  go_enter Tryz.func163,Tryz.ntmps163
  go_wp2_with fail
  refine C.out.mono ?_
  rintro e w1 ⟨rfl,hb1⟩
  go_wp2
  go_ret
  exact⟨rfl,hb1⟩
end
set_option maxHeartbeats 4000000 in
theorem rbreak_any (A:Option Addr)(c:Nat)(L:List RW.Row)(r:Int)(w:World)(hL:Li 5 RW.encR w (fun _=>True) A L)(hc:L.length≤c)(hn:L.length≤100000)(r0: -2147483648≤r)(r1:r≤2147483647):
  Calls Tryz.prog 65 #[.slice A L.length c,.int .i32 r] w fun e w'=>e= .returned (.int .i64 (breakB (vget 4 L) r))∧w=w':=by
 have c1:=RW.ofR_any A c L 4 r w hL hc hn r0 r1
 rw [aR_eq]at c1
 unfold breakB
 obtain⟨y,hy⟩:∃y,at0 0 (vget 4 L) r=y:=⟨_,rfl⟩
 rw [hy]at c1 ⊢
 have C:=Lib.hid c1
 clear hy c1 hL
 by_cases a:44032≤r
 ·by_cases b:r≤55203
  ·rw [if_pos ⟨a,b⟩]
   have m1:(r - 44032).tmod 28=(r - 44032)%28:=Int.tmod_eq_emod_of_nonneg (by omega)
   have m2:IntKind.i32.wrap (r - 44032)=r - 44032:=IntWalk.i32_in _ (by omega)
   obtain⟨q,hq⟩:∃q,(r - 44032).tmod 28=q:=⟨_,rfl⟩
   have q0:0≤q∧q<28:=by omega
   have m3:IntKind.i32.wrap q=q:=IntWalk.i32_in _ (by omega)
   rw [hq]
   clear m1 C
   by_cases c:q=0
   ·subst c
    rw [if_pos rfl]
    go_enter Tryz.func65,Tryz.ntmps65
    go_wp2
    go_ret
    exact⟨rfl,rfl⟩
   ·rw [if_neg c]
    have c':(q==0)=false:=by simpa using c
    go_enter Tryz.func65,Tryz.ntmps65
    go_wp2
    go_ret
    exact⟨rfl,rfl⟩
  ·rw [if_neg (fun h=>b h.2)]
   go_enter Tryz.func65,Tryz.ntmps65
   go_wp2_with fail
   refine C.out.mono ?_
   rintro e w1 ⟨rfl,rfl⟩
   go_wp2
   go_ret
   exact⟨rfl,rfl⟩
 ·rw [if_neg (fun h=>a h.1)]
  go_enter Tryz.func65,Tryz.ntmps65
  go_wp2_with fail
  refine C.out.mono ?_
  rintro e w1 ⟨rfl,rfl⟩
  go_wp2
  go_ret
  exact⟨rfl,rfl⟩
set_option maxHeartbeats 4000000 in
theorem rconj_any (A:Option Addr)(c:Nat)(L:List RW.Row)(r:Int)(w:World)(hL:Li 5 RW.encR w (fun _=>True) A L)(hc:L.length≤c)(hn:L.length≤100000)(r0: -2147483648≤r)(r1:r≤2147483647):
  Calls Tryz.prog 177 #[.slice A L.length c,.int .i32 r] w fun e w'=>e= .returned (.int .i64 (conjB (vget 6 L) (vget 4 L) r))∧w=w':=by
 have c1:=RW.ofR_any A c L 6 r w hL hc hn r0 r1
 have cb:=rbreak_any A c L r w hL hc hn r0 r1
 rw [aR_eq]at c1
 unfold conjB
 obtain⟨x,hx⟩:∃x,at0 0 (vget 6 L) r=x:=⟨_,rfl⟩
 obtain⟨b,hb⟩:∃b,breakB (vget 4 L) r=b:=⟨_,rfl⟩
 rw [hx]at c1 ⊢
 rw [hb]at cb ⊢
 have C:=Lib.hid c1
 have CB:=Lib.hid cb
 clear c1 cb hx hb hL
 by_cases e1:x=0
 ·subst e1
  rw [if_neg (by simp)]
  obtain⟨V,hV⟩:∃V,(if (b=4∨b=5)∧r≠8204 then (3:Int)else 0)=V:=⟨_,rfl⟩
  rw [hV]
  have HV:=Lib.hid hV
  clear hV
  go_enter Tryz.func177,Tryz.ntmps177
  go_wp2_with fail
  refine C.out.mono ?_
  rintro e w1 ⟨rfl,rfl⟩
  go_wp2_with fail
  refine CB.out.mono ?_
  rintro e w2 ⟨rfl,rfl⟩
  clear CB C
  by_cases e4:b=4
  ·subst e4
   by_cases e8:r=8204
   ·subst e8
    obtain rfl:0=V:=by rw [←HV.out,if_neg (by simp)]
    clear HV
    go_wp2
    go_ret
    exact⟨rfl,rfl⟩
   ·have d8:(r != 8204)=true:=by simpa using e8
    obtain rfl:3=V:=by rw [←HV.out,if_pos ⟨.inl rfl,e8⟩]
    clear HV
    clear e8
    go_wp2
    go_ret
    exact⟨rfl,rfl⟩
  ·have d4:(b==4)=false:=by simpa using e4
   by_cases e5:b=5
   ·subst e5
    by_cases e8:r=8204
    ·subst e8
     obtain rfl:0=V:=by rw [←HV.out,if_neg (by simp)]
     clear HV
     go_wp2
     go_ret
     exact⟨rfl,rfl⟩
    ·have d8:(r != 8204)=true:=by simpa using e8
     obtain rfl:3=V:=by rw [←HV.out,if_pos ⟨.inr rfl,e8⟩]
     clear HV
     clear e8 e4 d4
     go_wp2
     go_ret
     exact⟨rfl,rfl⟩
   ·have d5:(b==5)=false:=by simpa using e5
    obtain rfl:0=V:=by rw [←HV.out,if_neg (fun h=>h.1.elim e4 e5)]
    clear HV
    clear e4 e5
    go_wp2
    go_ret
    exact⟨rfl,rfl⟩
 ·have d1:(x != 0)=true:=by simpa using e1
  rw [if_pos e1]
  clear e1
  go_enter Tryz.func177,Tryz.ntmps177
  go_wp2_with fail
  refine C.out.mono ?_
  rintro e w1 ⟨rfl,rfl⟩
  go_wp2
  go_ret
  exact⟨rfl,rfl⟩
open Go.RowKit
theorem of_any (A:Option Addr)(c:Nat)(L:List RW.Row)(k r:Int)(w:World)(hL:Li 5 RW.encR w (fun _=>True) A L)(hc:L.length≤c)(hn:L.length≤100000)(r0: -2147483648≤r)(r1:r≤2147483647):
  Calls Tryz.prog 72 #[.slice A L.length c,.int .i64 k,.int .i32 r] w fun e w'=>e= .returned (.int .i64 (at0 0 (vget k L) r))∧w=w':=by
 have:=RW.ofR_any A c L k r w hL hc hn r0 r1
 rwa [aR_eq]at this
section
variable {T:List RW.Row}{tp:Nat}{W:World}
theorem tpict (h:Tabs T tp W)(r:Int)(r0: -2147483648≤r)(r1:r≤2147483647):
  Calls Tryz.prog 69 #[.pointer (some ⟨tp,0,none⟩),.int .i32 r] W (fun e w'=>e= .returned (.bool (at0 0 (vget 5 T) r==1))∧Below W.heap.size W w'):=by
 obtain⟨lo,hi,_,h⟩:=h
 exact upict h r r0 r1
theorem tconj (h:Tabs T tp W)(r:Int)(r0: -2147483648≤r)(r1:r≤2147483647):
  Calls Tryz.prog 163 #[.pointer (some ⟨tp,0,none⟩),.int .i32 r] W (fun e w'=>e= .returned (.int .i64 (conjB (vget 6 T) (vget 4 T) r))∧Below W.heap.size W w'):=by
 obtain⟨lo,hi,hh,h⟩:=h
 exact uconj h hh r r0 r1
end
end Go.Proofs.YtlopleeopnnoeaaGreat
namespace Go.Proofs.YtlopleeopnnoeaaGreat.SG
open Go.RowKit
structure Kinds where
 br:Int→Int
 cj:Int→Int
 pc:Int→Bool
structure St where
 some:Bool
 last:Int
 conj:Int
 pict:Bool
 joined:Bool
 odd:Bool
def St.zero:St:=⟨false,0,0,false,false,false⟩
def behindC (c conj:Int):Int:=if conj=2 then 1 else if conj=1∧c≠0 then 2 else if conj=3 then c else 0
def controlB (b:Int):Bool:=b==3||b==1||b==2
def syllB (a b:Int):Bool:=
 if a=9 then b==9||b==10||b==12||b==13 else if a=12∨a=10 then b==10||b==11 else if a=13∨a=11 then b==11 else false
def rule (a now:Int)(cjd pcd fld:Bool):Bool:=
 if a=1∧now=2 then false else if controlB a||controlB now then true else if syllB a now then false
 else if now=4∨now=5∨now=8∨a=7 then false else !cjd&& !pcd&& !fld
def partsB (s:St)(now conj:Int)(pict:Bool):Bool:=rule s.last now (conj==2&&s.conj==2) (pict&&s.joined) (now==6&&s.odd)
def nextS (K:Kinds)(s:St)(r:Int):St:=
 ⟨true,K.br r,behindC s.conj (K.cj r),K.pc r||s.pict&&K.br r==4,s.pict&&K.br r==5,K.br r==6&& !s.odd⟩
def beginsS (K:Kinds)(s:St)(r:Int):Bool:= !s.some||partsB s (K.br r) (K.cj r) (K.pc r)
def stOf (K:Kinds):List Int→St
 |[]=>St.zero
 |x::p=>nextS K (stOf K p) x
def cjScan (K:Kinds):List Int→Bool→Bool
 |[],_=>false
 |x::p,lk=>if K.cj x=2 then lk else if K.cj x=0 then false else if K.cj x=1 then cjScan K p true else cjScan K p lk
def pcScan (K:Kinds):List Int→Bool
 |[]=>false
 |x::p=>if K.pc x=true then true else if K.br x≠4 then false else pcScan K p
def flags (K:Kinds):List Int→Nat
 |[]=>0
 |x::p=>if K.br x=6 then flags K p+1 else 0
def begins (K:Kinds)(p:List Int)(b:Int):Bool:=
 match p with
 |[]=>true
 |a::q=>rule (K.br a) (K.br b) (K.cj b==2&&cjScan K (a::q) false) (K.pc b&&K.br a==5&&pcScan K q) (K.br b==6&&flags K (a::q)%2==1)
theorem cjScan_cons (K:Kinds)(x:Int)(p:List Int)(lk:Bool):cjScan K (x::p) lk=if K.cj x=2 then lk else if K.cj x=0 then false else if K.cj x=1 then cjScan K p true else cjScan K p lk:=rfl
theorem pcScan_cons (K:Kinds)(x:Int)(p:List Int):pcScan K (x::p)=if K.pc x=true then true else if K.br x≠4 then false else pcScan K p:=rfl
theorem flags_cons (K:Kinds)(x:Int)(p:List Int):flags K (x::p)=if K.br x=6 then flags K p+1 else 0:=rfl
def Kinds.ok (K:Kinds):Prop:=∀r,K.cj r=0∨K.cj r=1∨K.cj r=2∨K.cj r=3
theorem conj_ok {K:Kinds}(hK:K.ok):∀p,((stOf K p).conj=0∨(stOf K p).conj=1∨(stOf K p).conj=2)∧cjScan K p false=((stOf K p).conj==2)∧cjScan K p true=((stOf K p).conj != 0):=by
 intro p
 induction p with
 |nil=>exact⟨.inl rfl,rfl,rfl⟩
 |cons x p ih=>
  obtain⟨h1,h2,h3⟩:=ih
  show (behindC (stOf K p).conj (K.cj x)=0∨behindC (stOf K p).conj (K.cj x)=1∨behindC (stOf K p).conj (K.cj x)=2)∧_=(behindC (stOf K p).conj (K.cj x)==2)∧_=(behindC (stOf K p).conj (K.cj x) != 0)
  generalize (stOf K p).conj=c at h1 h2 h3
  rw [cjScan_cons,cjScan_cons]
  unfold behindC
  rcases hK x with e|e|e|e<;>rw [e]
  ·simp
  ·rcases h1 with rfl|rfl|rfl<;>simp [h3]
  ·simp
  ·rcases h1 with rfl|rfl|rfl<;>simp [h2,h3]
theorem pict_ok (K:Kinds):∀p,(stOf K p).pict=pcScan K p:=by
 intro p
 induction p with
 |nil=>rfl
 |cons x p ih=>
  show (K.pc x||(stOf K p).pict&&K.br x==4)=_
  rw [ih,pcScan_cons]
  generalize pcScan K p=q
  cases K.pc x
  ·by_cases h:K.br x=4
   ·simp [h]
   ·simp [h]
  ·simp
theorem odd_ok (K:Kinds):∀p,(stOf K p).odd=(flags K p%2==1):=by
 intro p
 induction p with
 |nil=>rfl
 |cons x p ih=>
  show (K.br x==6&& !(stOf K p).odd)=_
  rw [ih,flags_cons]
  generalize flags K p=n
  by_cases h:K.br x=6
  ·rw [if_pos h]
   rcases Nat.mod_two_eq_zero_or_one n with e|e
   ·rw [e,show (n+1)%2=1 by omega];simp [h]
   ·rw [e,show (n+1)%2=0 by omega];simp [h]
  ·rw [if_neg h];simp [h]
theorem begins_ok {K:Kinds}(hK:K.ok)(p:List Int)(b:Int):beginsS K (stOf K p) b=begins K p b:=by
 cases p with
 |nil=>rfl
 |cons a q=>
  have h1:=(conj_ok hK (a::q)).2.1
  have h3:=odd_ok K (a::q)
  show (!true||rule (K.br a) (K.br b) (K.cj b==2&&(stOf K (a::q)).conj==2) (K.pc b&&((stOf K q).pict&&K.br a==5)) (K.br b==6&&(stOf K (a::q)).odd))=rule (K.br a) (K.br b) (K.cj b==2&&cjScan K (a::q) false) (K.pc b&&K.br a==5&&pcScan K q) (K.br b==6&&flags K (a::q)%2==1)
  rw [h1,←h3,pict_ok K q]
  cases K.pc b<;>cases K.br a==5<;>cases pcScan K q<;>simp
def begAt (K:Kinds)(s:List Int)(i:Nat):Bool:=begins K (s.take i).reverse (s.getD i 0)
def startsP (K:Kinds)(s:List Int):List Nat:=(List.range s.length).filter (begAt K s)
theorem take_rev_succ {s:List Int}{i:Nat}(h:i<s.length):(s.take (i+1)).reverse=s.getD i 0::(s.take i).reverse:=by
 rw [List.take_succ_eq_append_getElem h,List.reverse_append]
 simp [List.getD,h]
theorem st_succ (K:Kinds){s:List Int}{i:Nat}(h:i<s.length):stOf K (s.take (i+1)).reverse=nextS K (stOf K (s.take i).reverse) (s.getD i 0):=by
 rw [take_rev_succ h]
 rfl
def upToP (K:Kinds)(s:List Int)(i:Nat):List Nat:=(List.range i).filter (begAt K s)
theorem upTo_succ (K:Kinds)(s:List Int)(i:Nat):upToP K s (i+1)=upToP K s i++if begAt K s i=true then [i]else []:=by
 unfold upToP
 rw [List.range_succ,List.filter_append]
 congr 1
 by_cases h:begAt K s i=true
 ·rw [if_pos h,List.filter_cons_of_pos h];rfl
 ·rw [if_neg h,List.filter_cons_of_neg h];rfl
theorem upTo_all (K:Kinds)(s:List Int):upToP K s s.length=startsP K s:=rfl
end Go.Proofs.YtlopleeopnnoeaaGreat.SG
namespace Go.Proofs.YtlopleeopnnoeaaGreat
open Go.RowKit
def KT (T:List RW.Row):SG.Kinds:=⟨breakB (vget 4 T),conjB (vget 6 T) (vget 4 T),fun r=>at0 0 (vget 5 T) r==1⟩
def conjOk (T:List RW.Row):Bool:=T.all fun x=>x.k != 6||x.a==0||x.a==1||x.a==2||x.a==3
theorem kt_ok {T:List RW.Row}(h:conjOk T=true):(KT T).ok:=by
 intro r
 show conjB (vget 6 T) (vget 4 T) r=0∨conjB (vget 6 T) (vget 4 T) r=1∨conjB (vget 6 T) (vget 4 T) r=2∨conjB (vget 6 T) (vget 4 T) r=3
 have key:at0 0 (vget 6 T) r=0∨at0 0 (vget 6 T) r=1∨at0 0 (vget 6 T) r=2∨at0 0 (vget 6 T) r=3:=by
  unfold at0
  split
  ·unfold vget
   cases hv:RW.rval 6 T r with
   |none=>exact .inl rfl
   |some p=>
    obtain⟨x,hx,hk,_,_,rfl⟩:=rval_row hv
    have:=List.all_eq_true.1 h x hx
    simp [hk]at this
    show x.a=0∨x.a=1∨x.a=2∨x.a=3
    omega
  ·exact .inl rfl
 unfold conjB
 generalize at0 0 (vget 6 T) r=q at key ⊢
 by_cases hq:q=0
 ·rw [if_neg (by simpa using hq)]
  split
  ·exact .inr (.inr (.inr rfl))
  ·exact .inl rfl
 ·rw [if_pos hq]
  exact key
set_option maxRecDepth 100000 in
theorem given_conj:conjOk RW.rowsT=true:=by decide+kernel
end Go.Proofs.YtlopleeopnnoeaaGreat
namespace Go.Proofs.YtlopleeopnnoeaaGreat.SG
open Go.RowKit
structure Kinds.tidy (K:Kinds):Prop where
 ok:K.ok
 ext:∀r,K.cj r=1∨K.cj r=3→K.br r=4∨K.br r=5
 ctl:∀r,K.br r=1∨K.br r=2∨K.br r=3→K.cj r=0∧K.pc r=false
theorem begins_last {K:Kinds}(hK:K.tidy)(p:List Int)(b:Int)(h:begins K p b=true):nextS K (stOf K p) b=nextS K St.zero b:=by
 cases p with
 |nil=>rfl
 |cons a q=>
  rw [←begins_ok hK.ok]at h
  have hs:(stOf K (a::q)).some=true:=rfl
  have hl:(stOf K (a::q)).last=K.br a:=rfl
  unfold beginsS partsB rule at h
  rw [hs,hl]at h
  simp only [Bool.not_true,Bool.false_or]at h
  have hconj:(stOf K (a::q)).conj=behindC (stOf K q).conj (K.cj a):=rfl
  have hpict:(stOf K (a::q)).pict=(K.pc a||(stOf K q).pict&&K.br a==4):=rfl
  have hodd:(stOf K (a::q)).odd=(K.br a==6&& !(stOf K q).odd):=rfl
  by_cases hc:K.br a=1∨K.br a=2∨K.br a=3
  ·
   obtain⟨c1,c2⟩:=hK.ctl a hc
   have e1:(stOf K (a::q)).conj=0:=by rw [hconj,c1];rfl
   have e2:(stOf K (a::q)).pict=false:=by
    rw [hpict,c2]
    rcases hc with e|e|e<;>rw [e]<;>simp
   have e3:(stOf K (a::q)).odd=false:=by
    rw [hodd]
    rcases hc with e|e|e<;>rw [e]<;>simp
   unfold nextS
   rw [e1,e2,e3]
   rfl
  ·have hca:controlB (K.br a)=false:=by
    unfold controlB
    simp only [Bool.or_eq_false_iff,beq_eq_false_iff_ne,ne_eq]
    omega
   have h12:¬(K.br a=1∧K.br b=2):=fun e=>hc (.inl e.1)
   rw [if_neg h12,hca,Bool.false_or]at h
   by_cases hcb:controlB (K.br b)=true
   ·have hb:K.br b=1∨K.br b=2∨K.br b=3:=by
     unfold controlB at hcb
     simp only [Bool.or_eq_true,beq_iff_eq]at hcb
     omega
    obtain⟨d1,d2⟩:=hK.ctl b hb
    unfold nextS
    rw [d1,d2]
    rcases hb with e|e|e<;>rw [e]<;>simp [behindC,St.zero]
   ·have hcb':controlB (K.br b)=false:=by simpa using hcb
    rw [hcb']at h
    simp only [Bool.false_eq_true,if_false]at h
    by_cases hsy:syllB (K.br a) (K.br b)=true
    ·rw [if_pos hsy]at h;cases h
    ·rw [if_neg hsy]at h
     by_cases hx:K.br b=4∨K.br b=5∨K.br b=8∨K.br a=7
     ·rw [if_pos hx]at h;cases h
     ·rw [if_neg hx]at h
      rw [not_or,not_or,not_or]at hx
      simp only [Bool.and_eq_true,Bool.not_eq_true']at h
      obtain⟨⟨h1,h2⟩,h3⟩:=h
      have ecj:K.cj b=0∨K.cj b=2:=by
       rcases hK.ok b with e|e|e|e
       ·exact .inl e
       ·rcases hK.ext b (.inl e)with e'|e'
        ·exact absurd e' hx.1
        ·exact absurd e' hx.2.1
       ·exact .inr e
       ·rcases hK.ext b (.inr e)with e'|e'
        ·exact absurd e' hx.1
        ·exact absurd e' hx.2.1
      have b4:(K.br b==4)=false:=by simpa using hx.1
      have b5:(K.br b==5)=false:=by simpa using hx.2.1
      unfold nextS
      rw [b4,b5]
      have ec:behindC (stOf K (a::q)).conj (K.cj b)=behindC St.zero.conj (K.cj b):=by
       rcases ecj with e|e<;>rw [e]<;>rfl
      have eo:(K.br b==6&& !(stOf K (a::q)).odd)=(K.br b==6&& !St.zero.odd):=by
       by_cases h6:K.br b=6
       ·rw [h6]at h3 ⊢
        simp at h3
        rw [h3]
        rfl
       ·have:(K.br b==6)=false:=by simpa using h6
        rw [this]
        rfl
      rw [ec,eo]
      simp
theorem st_drop {K:Kinds}(hK:K.tidy){s:List Int}{k:Nat}(hk:k<s.length)(hb:begAt K s k=true):∀j,k+j<s.length→stOf K (s.take (k+j+1)).reverse=stOf K ((s.drop k).take (j+1)).reverse:=by
 intro j
 induction j with
 |zero=>
  intro _
  rw [Nat.add_zero,st_succ K hk,st_succ K (by simp;omega)]
  rw [show (s.drop k).getD 0 0=s.getD k 0 by simp [List.getD]]
  exact begins_last hK _ _ hb
 |succ j ih=>
  intro hj
  have hj':k+j+1<s.length:=by omega
  rw [show k+(j+1)+1=k+j+1+1 by omega,st_succ K hj',st_succ K (show j+1<(s.drop k).length by simp;omega),ih (by omega)]
  rw [show (s.drop k).getD (j+1) 0=s.getD (k+j+1) 0 by simp [List.getD,Nat.add_assoc]]
theorem begAt_drop {K:Kinds}(hK:K.tidy){s:List Int}{k:Nat}(hk:k<s.length)(hb:begAt K s k=true){j:Nat}(hj:k+j<s.length):begAt K (s.drop k) j=begAt K s (k+j):=by
 cases j with
 |zero=>
  rw [Nat.add_zero,hb]
  rfl
 |succ j=>
  unfold begAt
  rw [←begins_ok hK.ok,←begins_ok hK.ok]
  rw [show k+(j+1)=k+j+1 by omega,st_drop hK hk hb j (by omega)]
  rw [show (s.drop k).getD (j+1) 0=s.getD (k+j+1) 0 by simp [List.getD,Nat.add_assoc]]
theorem begAt_zero (K:Kinds)(s:List Int):begAt K s 0=true:=rfl
def nextP (K:Kinds)(s:List Int)(i:Nat):Nat:=if h:i<s.length then (if begAt K s i=true then i else nextP K s (i+1))else s.length
termination_by s.length - i
theorem nextP_end {K:Kinds}{s:List Int}{i:Nat}(h:s.length≤i):nextP K s i=s.length:=by
 rw [nextP,dif_neg (by omega)]
theorem nextP_yes {K:Kinds}{s:List Int}{i:Nat}(h:i<s.length)(hb:begAt K s i=true):nextP K s i=i:=by
 rw [nextP,dif_pos h,if_pos hb]
theorem nextP_no {K:Kinds}{s:List Int}{i:Nat}(h:i<s.length)(hb:begAt K s i=false):nextP K s i=nextP K s (i+1):=by
 rw [nextP,dif_pos h,if_neg (by rw [hb];exact Bool.false_ne_true)]
theorem nextP_le (K:Kinds)(s:List Int)(i:Nat):nextP K s i≤s.length:=by
 rcases Nat.lt_or_ge i s.length with h|h
 ·by_cases hb:begAt K s i=true
  ·rw [nextP_yes h hb];omega
  ·rw [nextP_no h (by simpa using hb)]
   exact nextP_le K s (i+1)
 ·rw [nextP_end h];exact Nat.le_refl _
termination_by s.length - i
theorem nextP_ge {K:Kinds}{s:List Int}{i:Nat}(hi:i≤s.length):i≤nextP K s i:=by
 rcases Nat.lt_or_ge i s.length with h|h
 ·by_cases hb:begAt K s i=true
  ·rw [nextP_yes h hb];exact Nat.le_refl _
  ·rw [nextP_no h (by simpa using hb)]
   exact Nat.le_of_succ_le (nextP_ge (show i+1≤s.length from h))
 ·rw [nextP_end h];omega
termination_by s.length - i
theorem nextP_drop {K:Kinds}(hK:K.tidy){s:List Int}{k:Nat}(hk:k<s.length)(hb:begAt K s k=true)(j:Nat):k+nextP K (s.drop k) j=nextP K s (k+j):=by
 rcases Nat.lt_or_ge (k+j) s.length with h|h
 ·have hd:j<(s.drop k).length:=by simp;omega
  by_cases hc:begAt K s (k+j)=true
  ·rw [nextP_yes h hc,nextP_yes hd (by rw [begAt_drop hK hk hb h];exact hc)]
  ·have hc':begAt K s (k+j)=false:=by simpa using hc
   rw [nextP_no h hc',nextP_no hd (by rw [begAt_drop hK hk hb h];exact hc'),nextP_drop hK hk hb (j+1)]
   rfl
 ·rw [nextP_end h,nextP_end (by simp;omega)]
  simp;omega
termination_by s.length -(k+j)
end Go.Proofs.YtlopleeopnnoeaaGreat.SG
namespace Go.Proofs.YtlopleeopnnoeaaGreat
open Go.RowKit
def encC (x:Int):List Value:=[.int .i32 x]
theorem encC_len (x:Int):(encC x).length=1:=rfl
theorem flatC (L:List Int):flatL encC L=L.map (Value.int .i32):=by
 induction L with
 |nil=>rfl
 |cons x L ih=>simp only [flatL,List.flatMap_cons]at ih ⊢;rw [ih];rfl
theorem Li.sc {w:World}{S:Nat→Prop}{A:Option Addr}{L:List Int}(h:Li 1 encC w S A L){j:Nat}(hj:j<L.length):∃b o,A=some ⟨b,o,none⟩∧b<w.heap.size∧S b∧w.cell? ⟨b,o+j,none⟩=some (.int .i32 (L.getD j 0)):=by
 obtain⟨b,o,e,hl,hs,hc⟩:=h.at hj
 refine⟨b,o,e,hl,hs,?_⟩
 have:=hc 0 _ rfl
 rw [Nat.mul_one,Nat.add_zero]at this
 rw [this]
 simp [List.getD,hj]
theorem Li.scs {w:World}{S:Nat→Prop}{A:Option Addr}{L:List Int}(h:Li 1 encC w S A L)(hn:0<L.length):∃b o,A=some ⟨b,o,none⟩∧b<w.heap.size∧S b∧∀j,j<L.length→w.cell? ⟨b,o+j,none⟩=some (.int .i32 (L.getD j 0)):=by
 obtain⟨b,o,e,hl,hs,_⟩:=h.sc hn
 refine⟨b,o,e,hl,hs,fun j hj=> ?_⟩
 obtain⟨b',o',e',_,_,hc⟩:=h.sc hj
 rw [e]at e'
 injection e' with e'
 injection e' with e1 e2
 subst e1;subst e2
 exact hc
theorem li_of_rd {w:World}{A:Option Addr}{n:Nat}{f:Nat→Int}(h:Rd w A n (fun j=> .int .i32 (f j))):Li 1 encC w (fun _=>True) A ((List.range n).map f):=by
 intro j x hj
 have hjn:j<n:=by have:=(List.getElem?_eq_some_iff.1 hj).1;simpa using this
 simp [hjn]at hj
 subst hj
 obtain⟨b,o,e,hl,hc⟩:=h j hjn
 refine⟨b,o,e,hl,trivial,fun i u hu=> ?_⟩
 match i,hu with
 |0,hu=>injection hu with hu;subst hu;rw [Nat.mul_one,Nat.add_zero];exact hc
 |i+1,hu=>simp [encC]at hu
def Sc (L:List Int):Prop:=∀x∈L,-2147483648≤x∧x≤2147483647
theorem Sc.take {L:List Int}(h:Sc L)(n:Nat):Sc (L.take n):=fun x hx=>h x (List.mem_of_mem_take hx)
theorem Sc.drop {L:List Int}(h:Sc L)(n:Nat):Sc (L.drop n):=fun x hx=>h x (List.mem_of_mem_drop hx)
theorem Sc.at {L:List Int}(h:Sc L){j:Nat}(hj:j<L.length): -2147483648≤L.getD j 0∧L.getD j 0≤2147483647:=by
 rw [show L.getD j 0=L[j]by simp [List.getD,hj]]
 exact h _ (List.getElem_mem hj)
def encSt (s:SG.St):List Value:=[.bool s.some,.int .i64 s.last,.int .i64 s.conj,.bool s.pict,.bool s.joined,.bool s.odd]
abbrev vSt (s:SG.St):Value:= .agg #[.bool s.some,.int .i64 s.last,.int .i64 s.conj,.bool s.pict,.bool s.joined,.bool s.odd]
theorem control_any (b:Int)(w:World):Calls Tryz.prog 201 #[.int .i64 b] w fun e w'=>e= .returned (.bool (SG.controlB b))∧w=w':=by
 by_cases e3:b=3
 ·subst e3
  go_enter Tryz.func201,Tryz.ntmps201
  go_wp2
  go_ret
  exact⟨rfl,rfl⟩
 ·have d3:(b==3)=false:=by simpa using e3
  by_cases e1:b=1
  ·subst e1
   go_enter Tryz.func201,Tryz.ntmps201
   go_wp2
   go_ret
   exact⟨rfl,rfl⟩
  ·have d1:(b==1)=false:=by simpa using e1
   by_cases e2:b=2
   ·subst e2
    go_enter Tryz.func201,Tryz.ntmps201
    go_wp2
    go_ret
    exact⟨rfl,rfl⟩
   ·have d2:(b==2)=false:=by simpa using e2
    obtain⟨V,hV⟩:∃V,SG.controlB b=V:=⟨_,rfl⟩
    have hf:SG.controlB b=false:=by unfold SG.controlB;rw [d3,d1,d2];rfl
    rw [hV]at hf ⊢
    subst hf
    clear hV e1 e2 e3
    go_enter Tryz.func201,Tryz.ntmps201
    go_wp2
    go_ret
    exact⟨rfl,rfl⟩
theorem hard_any (b:Int)(w:World):Calls Tryz.prog 128 #[.int .i64 b] w fun e w'=>e= .returned (.bool (SG.controlB b))∧w=w':=by
 by_cases e3:b=3
 ·subst e3
  go_enter Tryz.func128,Tryz.ntmps128
  go_wp2
  go_ret
  exact⟨rfl,rfl⟩
 ·have d3:(b==3)=false:=by simpa using e3
  by_cases e1:b=1
  ·subst e1
   go_enter Tryz.func128,Tryz.ntmps128
   go_wp2
   go_ret
   exact⟨rfl,rfl⟩
  ·have d1:(b==1)=false:=by simpa using e1
   by_cases e2:b=2
   ·subst e2
    go_enter Tryz.func128,Tryz.ntmps128
    go_wp2
    go_ret
    exact⟨rfl,rfl⟩
   ·have d2:(b==2)=false:=by simpa using e2
    obtain⟨V,hV⟩:∃V,SG.controlB b=V:=⟨_,rfl⟩
    have hf:SG.controlB b=false:=by unfold SG.controlB;rw [d3,d1,d2];rfl
    rw [hV]at hf ⊢
    subst hf
    clear hV e1 e2 e3
    go_enter Tryz.func128,Tryz.ntmps128
    go_wp2
    go_ret
    exact⟨rfl,rfl⟩
set_option maxHeartbeats 4000000 in
theorem syllable_any (a b:Int)(w:World):Calls Tryz.prog 202 #[.int .i64 a,.int .i64 b] w fun e w'=>e= .returned (.bool (SG.syllB a b))∧w=w':=by
 by_cases a9:a=9
 ·subst a9
  by_cases b9:b=9
  ·subst b9
   go_enter Tryz.func202,Tryz.ntmps202
   go_wp2
   go_ret
   exact⟨rfl,rfl⟩
  ·have c9:(b==9)=false:=by simpa using b9
   by_cases b10:b=10
   ·subst b10
    go_enter Tryz.func202,Tryz.ntmps202
    go_wp2
    go_ret
    exact⟨rfl,rfl⟩
   ·have c10:(b==10)=false:=by simpa using b10
    by_cases b12:b=12
    ·subst b12
     go_enter Tryz.func202,Tryz.ntmps202
     go_wp2
     go_ret
     exact⟨rfl,rfl⟩
    ·have c12:(b==12)=false:=by simpa using b12
     by_cases b13:b=13
     ·subst b13
      go_enter Tryz.func202,Tryz.ntmps202
      go_wp2
      go_ret
      exact⟨rfl,rfl⟩
     ·have c13:(b==13)=false:=by simpa using b13
      have hf:SG.syllB 9 b=false:=by unfold SG.syllB;simp [b9,b10,b12,b13]
      rw [hf]
      clear b9 b10 b12 b13
      go_enter Tryz.func202,Tryz.ntmps202
      go_wp2
      go_ret
      exact⟨rfl,rfl⟩
 ·have d9:(a==9)=false:=by simpa using a9
  by_cases a12:a=12
  ·subst a12
   by_cases b10:b=10
   ·subst b10
    go_enter Tryz.func202,Tryz.ntmps202
    go_wp2
    go_ret
    exact⟨rfl,rfl⟩
   ·have c10:(b==10)=false:=by simpa using b10
    by_cases b11:b=11
    ·subst b11
     go_enter Tryz.func202,Tryz.ntmps202
     go_wp2
     go_ret
     exact⟨rfl,rfl⟩
    ·have c11:(b==11)=false:=by simpa using b11
     have hf:SG.syllB 12 b=false:=by unfold SG.syllB;simp [b10,b11]
     rw [hf]
     clear b10 b11
     go_enter Tryz.func202,Tryz.ntmps202
     go_wp2
     go_ret
     exact⟨rfl,rfl⟩
  ·have d12:(a==12)=false:=by simpa using a12
   by_cases a10:a=10
   ·subst a10
    by_cases b10:b=10
    ·subst b10
     go_enter Tryz.func202,Tryz.ntmps202
     go_wp2
     go_ret
     exact⟨rfl,rfl⟩
    ·have c10:(b==10)=false:=by simpa using b10
     by_cases b11:b=11
     ·subst b11
      go_enter Tryz.func202,Tryz.ntmps202
      go_wp2
      go_ret
      exact⟨rfl,rfl⟩
     ·have c11:(b==11)=false:=by simpa using b11
      have hf:SG.syllB 10 b=false:=by unfold SG.syllB;simp [b10,b11]
      rw [hf]
      clear b10 b11
      go_enter Tryz.func202,Tryz.ntmps202
      go_wp2
      go_ret
      exact⟨rfl,rfl⟩
   ·have d10:(a==10)=false:=by simpa using a10
    by_cases a13:a=13
    ·subst a13
     by_cases b11:b=11
     ·subst b11
      go_enter Tryz.func202,Tryz.ntmps202
      go_wp2
      go_ret
      exact⟨rfl,rfl⟩
     ·have c11:(b==11)=false:=by simpa using b11
      have hf:SG.syllB 13 b=false:=by unfold SG.syllB;simp [b11]
      rw [hf]
      clear b11
      go_enter Tryz.func202,Tryz.ntmps202
      go_wp2
      go_ret
      exact⟨rfl,rfl⟩
    ·have d13:(a==13)=false:=by simpa using a13
     by_cases a11:a=11
     ·subst a11
      by_cases b11:b=11
      ·subst b11
       go_enter Tryz.func202,Tryz.ntmps202
       go_wp2
       go_ret
       exact⟨rfl,rfl⟩
      ·have c11:(b==11)=false:=by simpa using b11
       have hf:SG.syllB 11 b=false:=by unfold SG.syllB;simp [b11]
       rw [hf]
       clear b11
       go_enter Tryz.func202,Tryz.ntmps202
       go_wp2
       go_ret
       exact⟨rfl,rfl⟩
     ·have d11:(a==11)=false:=by simpa using a11
      have hf:SG.syllB a b=false:=by unfold SG.syllB;simp [a9,a12,a10,a13,a11]
      rw [hf]
      clear a9 a12 a10 a13 a11
      go_enter Tryz.func202,Tryz.ntmps202
      go_wp2
      go_ret
      exact⟨rfl,rfl⟩
set_option maxHeartbeats 4000000 in
theorem hangul_any (a b:Int)(w:World):Calls Tryz.prog 129 #[.int .i64 a,.int .i64 b] w fun e w'=>e= .returned (.bool (SG.syllB a b))∧w=w':=by
 by_cases a9:a=9
 ·subst a9
  by_cases b9:b=9
  ·subst b9
   go_enter Tryz.func129,Tryz.ntmps129
   go_wp2
   go_ret
   exact⟨rfl,rfl⟩
  ·have c9:(b==9)=false:=by simpa using b9
   by_cases b10:b=10
   ·subst b10
    go_enter Tryz.func129,Tryz.ntmps129
    go_wp2
    go_ret
    exact⟨rfl,rfl⟩
   ·have c10:(b==10)=false:=by simpa using b10
    by_cases b12:b=12
    ·subst b12
     go_enter Tryz.func129,Tryz.ntmps129
     go_wp2
     go_ret
     exact⟨rfl,rfl⟩
    ·have c12:(b==12)=false:=by simpa using b12
     by_cases b13:b=13
     ·subst b13
      go_enter Tryz.func129,Tryz.ntmps129
      go_wp2
      go_ret
      exact⟨rfl,rfl⟩
     ·have c13:(b==13)=false:=by simpa using b13
      have hf:SG.syllB 9 b=false:=by unfold SG.syllB;simp [b9,b10,b12,b13]
      rw [hf]
      clear b9 b10 b12 b13
      go_enter Tryz.func129,Tryz.ntmps129
      go_wp2
      go_ret
      exact⟨rfl,rfl⟩
 ·have d9:(a==9)=false:=by simpa using a9
  by_cases a12:a=12
  ·subst a12
   by_cases b10:b=10
   ·subst b10
    go_enter Tryz.func129,Tryz.ntmps129
    go_wp2
    go_ret
    exact⟨rfl,rfl⟩
   ·have c10:(b==10)=false:=by simpa using b10
    by_cases b11:b=11
    ·subst b11
     go_enter Tryz.func129,Tryz.ntmps129
     go_wp2
     go_ret
     exact⟨rfl,rfl⟩
    ·have c11:(b==11)=false:=by simpa using b11
     have hf:SG.syllB 12 b=false:=by unfold SG.syllB;simp [b10,b11]
     rw [hf]
     clear b10 b11
     go_enter Tryz.func129,Tryz.ntmps129
     go_wp2
     go_ret
     exact⟨rfl,rfl⟩
  ·have d12:(a==12)=false:=by simpa using a12
   by_cases a10:a=10
   ·subst a10
    by_cases b10:b=10
    ·subst b10
     go_enter Tryz.func129,Tryz.ntmps129
     go_wp2
     go_ret
     exact⟨rfl,rfl⟩
    ·have c10:(b==10)=false:=by simpa using b10
     by_cases b11:b=11
     ·subst b11
      go_enter Tryz.func129,Tryz.ntmps129
      go_wp2
      go_ret
      exact⟨rfl,rfl⟩
     ·have c11:(b==11)=false:=by simpa using b11
      have hf:SG.syllB 10 b=false:=by unfold SG.syllB;simp [b10,b11]
      rw [hf]
      clear b10 b11
      go_enter Tryz.func129,Tryz.ntmps129
      go_wp2
      go_ret
      exact⟨rfl,rfl⟩
   ·have d10:(a==10)=false:=by simpa using a10
    by_cases a13:a=13
    ·subst a13
     by_cases b11:b=11
     ·subst b11
      go_enter Tryz.func129,Tryz.ntmps129
      go_wp2
      go_ret
      exact⟨rfl,rfl⟩
     ·have c11:(b==11)=false:=by simpa using b11
      have hf:SG.syllB 13 b=false:=by unfold SG.syllB;simp [b11]
      rw [hf]
      clear b11
      go_enter Tryz.func129,Tryz.ntmps129
      go_wp2
      go_ret
      exact⟨rfl,rfl⟩
    ·have d13:(a==13)=false:=by simpa using a13
     by_cases a11:a=11
     ·subst a11
      by_cases b11:b=11
      ·subst b11
       go_enter Tryz.func129,Tryz.ntmps129
       go_wp2
       go_ret
       exact⟨rfl,rfl⟩
      ·have c11:(b==11)=false:=by simpa using b11
       have hf:SG.syllB 11 b=false:=by unfold SG.syllB;simp [b11]
       rw [hf]
       clear b11
       go_enter Tryz.func129,Tryz.ntmps129
       go_wp2
       go_ret
       exact⟨rfl,rfl⟩
     ·have d11:(a==11)=false:=by simpa using a11
      have hf:SG.syllB a b=false:=by unfold SG.syllB;simp [a9,a12,a10,a13,a11]
      rw [hf]
      clear a9 a12 a10 a13 a11
      go_enter Tryz.func129,Tryz.ntmps129
      go_wp2
      go_ret
      exact⟨rfl,rfl⟩
set_option maxHeartbeats 4000000 in
theorem behind_any (s:SG.St)(c:Int)(w:World):Calls Tryz.prog 164 #[vSt s,.int .i64 c] w fun e w'=>e= .returned (.int .i64 (SG.behindC s.conj c))∧Below w.heap.size w w':=by
 obtain⟨s0,s1,s2,s3,s4,s5⟩:=s
 dsimp only [vSt]
 by_cases e2:c=2
 ·subst e2
  go_enter Tryz.func164,Tryz.ntmps164
  go_wp2
  go_ret
  exact⟨rfl,(Below.refl _ _).alloc (Nat.le_refl _) _⟩
 ·have d2:(c==2)=false:=by simpa using e2
  by_cases e1:c=1
  ·subst e1
   by_cases z:s2=0
   ·subst z
    go_enter Tryz.func164,Tryz.ntmps164
    go_wp2
    go_ret
    exact⟨rfl,(Below.refl _ _).alloc (Nat.le_refl _) _⟩
   ·have z':(s2 != 0)=true:=by simpa using z
    have hf:SG.behindC s2 1=2:=by unfold SG.behindC;simp [z]
    rw [hf]
    clear z hf
    go_enter Tryz.func164,Tryz.ntmps164
    go_wp2
    go_ret
    exact⟨rfl,(Below.refl _ _).alloc (Nat.le_refl _) _⟩
  ·have d1:(c==1)=false:=by simpa using e1
   by_cases e3:c=3
   ·subst e3
    go_enter Tryz.func164,Tryz.ntmps164
    go_wp2
    go_ret
    exact⟨rfl,(Below.refl _ _).alloc (Nat.le_refl _) _⟩
   ·have d3:(c==3)=false:=by simpa using e3
    have hf:SG.behindC s2 c=0:=by unfold SG.behindC;simp [e1,e2,e3]
    rw [hf]
    clear e1 e2 e3 hf
    go_enter Tryz.func164,Tryz.ntmps164
    go_wp2
    go_ret
    exact⟨rfl,(Below.refl _ _).alloc (Nat.le_refl _) _⟩
structure RT (W:World)(A:Option Addr)(c:Nat)(T:List RW.Row)(A2:Option Addr)(l:List Int):Prop where
 rows:Li 5 RW.encR W (fun _=>True) A T
 rc:T.length≤c
 rn:T.length≤100000
 txt:Li 1 encC W (fun _=>True) A2 l
 sc:Sc l
 ln:l.length≤100000
theorem RT.later {W W':World}{A:Option Addr}{c:Nat}{T:List RW.Row}{A2:Option Addr}{l:List Int}(h:RT W A c T A2 l)(hb:Below W.heap.size W W'):RT W' A c T A2 l:=
 ⟨h.rows.later hb,h.rc,h.rn,h.txt.later hb,h.sc,h.ln⟩
section
variable {W:World}{A:Option Addr}{c:Nat}{T:List RW.Row}{A2:Option Addr}{l:List Int}
theorem RT.br (h:RT W A c T A2 l){j:Nat}(hj:j<l.length):Calls Tryz.prog 65 #[.slice A T.length c,.int .i32 (l.getD j 0)] W fun e w'=>e= .returned (.int .i64 ((KT T).br (l.getD j 0)))∧W=w':=
 rbreak_any A c T _ W h.rows h.rc h.rn (h.sc.at hj).1 (h.sc.at hj).2
theorem RT.cj (h:RT W A c T A2 l){j:Nat}(hj:j<l.length):Calls Tryz.prog 177 #[.slice A T.length c,.int .i32 (l.getD j 0)] W fun e w'=>e= .returned (.int .i64 ((KT T).cj (l.getD j 0)))∧W=w':=
 rconj_any A c T _ W h.rows h.rc h.rn (h.sc.at hj).1 (h.sc.at hj).2
theorem RT.pc (h:RT W A c T A2 l){j:Nat}(hj:j<l.length):Calls Tryz.prog 72 #[.slice A T.length c,.int .i64 5,.int .i32 (l.getD j 0)] W fun e w'=>e= .returned (.int .i64 (at0 0 (vget 5 T) (l.getD j 0)))∧W=w':=
 of_any A c T 5 _ W h.rows h.rc h.rn (h.sc.at hj).1 (h.sc.at hj).2
end
theorem back_z {z:Int}{m n:Nat}(hz:z=(m:Int) - 1)(hm:m≤n)(h0:0≤z):∃j,m=j+1∧z=(j:Int)∧j<n:=⟨m - 1,by omega,by omega,by omega⟩
set_option maxHeartbeats 4000000 in
theorem conjoined_any {W:World}{A:Option Addr}{c:Nat}{T:List RW.Row}{A2:Option Addr}{l:List Int}(c2:Nat)(h:RT W A c T A2 l)(hc2:l.length≤c2)(i:Nat)(hi:i<l.length):
  Calls Tryz.prog 130 #[.slice A T.length c,.slice A2 l.length c2,.int .i64 i] W fun e w'=>e= .returned (.bool ((KT T).cj (l.getD i 0)==2&&SG.cjScan (KT T) (l.take i).reverse false))∧W=w':=by
 obtain⟨b,o,rfl,hb,_,hcell⟩:=h.txt.scs (by omega)
 have HC:=Lib.hid hcell
 have hci:=hcell i hi
 have HJ:=Lib.hid (fun(j:Nat) (hj:j<l.length)=>h.cj hj)
 have C0:=Lib.hid (h.cj hi)
 have hln:=h.ln
 obtain⟨v,hv⟩:∃v,(KT T).cj (l.getD i 0)=v:=⟨_,rfl⟩
 obtain⟨r,hr⟩:∃r,l.getD i 0=r:=⟨_,rfl⟩
 rw [hv]at C0 ⊢
 rw [hr]at C0 hci
 have hi0:(i:Int)<(l.length:Int):=by omega
 have hi1:(0:Int)≤(i:Int):=by omega
 obtain⟨S,hS⟩:∃S,SG.cjScan (KT T) (l.take i).reverse false=S:=⟨_,rfl⟩
 rw [hS]
 have HS:=Lib.hid hS
 clear h hcell hv hr hS
 by_cases e2:v=2
 ·subst e2
  go_enter Tryz.func130,Tryz.ntmps130
  go_wp2_with fail
  refine C0.out.mono ?_
  rintro e w1 ⟨rfl,rfl⟩
  clear C0 hci
  go_wp2
  go_loop [7,8,9] (fun lk z _=>∃ (m:Nat) (q:Int) (x:Bool),m≤i∧lk= .bool x∧z= .int .i64 q∧Hid (q=(m:Int) - 1)∧Hid (S=SG.cjScan (KT T) (l.take m).reverse x)) (fun _ z _=>(intOf z+1).toNat)
  case atStart=>exact⟨i,(i:Int) - 1,false,Nat.le_refl _,rfl,by go_num,Lib.hid rfl,Lib.hid HS.out.symm⟩
  case round=>
   obtain⟨m,q,x,hm,rfl,rfl,HQ,HV⟩:=hrel
   by_cases h0:0≤q
   ·obtain⟨j,e1,e3,hj⟩:=back_z HQ.out hm h0
    have hjl:j<l.length:=by omega
    have hcj:=HC.out j hjl
    have C1:=Lib.hid (HJ.out j hjl)
    have hV:=HV.out
    rw [e1,SG.take_rev_succ hjl,SG.cjScan_cons]at hV
    obtain⟨v,hv⟩:∃v,(KT T).cj (l.getD j 0)=v:=⟨_,rfl⟩
    obtain⟨r',hr'⟩:∃r',l.getD j 0=r':=⟨_,rfl⟩
    rw [hv]at C1 hV
    rw [hr']at C1 hcj
    have HV1:=Lib.hid hV
    have HM:=Lib.hid e1
    subst e3
    have j0:(j:Int)<(l.length:Int):=by omega
    have j1:(0:Int)≤(j:Int):=by omega
    clear hV hv hr' e1 HV HQ h0 hm
    go_wp2_with fail
    refine C1.out.mono ?_
    rintro e w1 ⟨rfl,rfl⟩
    clear C1 hcj
    by_cases a2:v=2
    ·obtain rfl:S=x:=by rw [HV1.out,if_pos a2]
     subst a2
     clear HV1
     go_wp2
     go_ret
     exact⟨rfl,rfl⟩
    ·have d2:(v==2)=false:=by simpa using a2
     by_cases a0:v=0
     ·obtain rfl:S=false:=by rw [HV1.out,if_neg a2,if_pos a0]
      subst a0
      clear HV1 a2
      go_wp2
      go_ret
      exact⟨rfl,rfl⟩
     ·have d0:(v==0)=false:=by simpa using a0
      by_cases a1:v=1
      ·have HN:=Lib.hid (show S=SG.cjScan (KT T) (l.take j).reverse true by rw [HV1.out,if_neg a2,if_neg a0,if_pos a1])
       subst a1
       clear HV1 a2 a0
       go_wp2
       go_round
       case rel=>exact⟨j,(j:Int) - 1,true,by have:=HM.out;omega,rfl,by go_num,Lib.hid rfl,HN⟩
       case measure=>simp [intOf]
      ·have d1:(v==1)=false:=by simpa using a1
       have HN:=Lib.hid (show S=SG.cjScan (KT T) (l.take j).reverse x by rw [HV1.out,if_neg a2,if_neg a0,if_neg a1])
       clear HV1 a2 a0 a1
       go_wp2
       go_round
       case rel=>exact⟨j,(j:Int) - 1,x,by have:=HM.out;omega,rfl,by go_num,Lib.hid rfl,HN⟩
       case measure=>simp [intOf]
   ·obtain rfl:m=0:=by have:=HQ.out;omega
    obtain rfl:S=false:=HV.out
    clear HV HQ
    go_wp2
    go_ret
    exact⟨rfl,rfl⟩
 ·have d2:(v != 2)=true:=by simpa using e2
  have d3:(v==2)=false:=by simpa using e2
  rw [d3]
  clear e2 d3
  go_enter Tryz.func130,Tryz.ntmps130
  go_wp2_with fail
  refine C0.out.mono ?_
  rintro e w1 ⟨rfl,rfl⟩
  clear C0 hci
  go_wp2
  go_ret
  exact⟨rfl,rfl⟩
open Go.RowKit
theorem par_int (S:Nat):(((S:Int)%2==1):Bool)=((6:Int)==6&&S%2==1):=by
 have h:((6:Int)==6)=true:=rfl
 rw [h,Bool.true_and]
 rcases Nat.mod_two_eq_zero_or_one S with e|e
 ·rw [e,show (S:Int)%2=0 by omega];rfl
 ·rw [e,show (S:Int)%2=1 by omega];rfl
set_option maxHeartbeats 4000000 in
theorem flagged_any {W:World}{A:Option Addr}{c:Nat}{T:List RW.Row}{A2:Option Addr}{l:List Int}(c2:Nat)(h:RT W A c T A2 l)(hc2:l.length≤c2)(i:Nat)(hi:i<l.length):
  Calls Tryz.prog 132 #[.slice A T.length c,.slice A2 l.length c2,.int .i64 i] W fun e w'=>e= .returned (.bool ((KT T).br (l.getD i 0)==6&&SG.flags (KT T) (l.take i).reverse%2==1))∧W=w':=by
 obtain⟨b,o,rfl,hb,_,hcell⟩:=h.txt.scs (by omega)
 have HC:=Lib.hid hcell
 have hci:=hcell i hi
 have HJ:=Lib.hid (fun(j:Nat) (hj:j<l.length)=>h.br hj)
 have C0:=Lib.hid (h.br hi)
 have hln:=h.ln
 obtain⟨v,hv⟩:∃v,(KT T).br (l.getD i 0)=v:=⟨_,rfl⟩
 obtain⟨r,hr⟩:∃r,l.getD i 0=r:=⟨_,rfl⟩
 rw [hv]at C0 ⊢
 rw [hr]at C0 hci
 have hi0:(i:Int)<(l.length:Int):=by omega
 have hi1:(0:Int)≤(i:Int):=by omega
 obtain⟨S,hS⟩:∃S,SG.flags (KT T) (l.take i).reverse=S:=⟨_,rfl⟩
 rw [hS]
 have HS:=Lib.hid hS
 clear h hcell hv hr hS
 by_cases e2:v=6
 ·subst e2
  obtain⟨Z,hZ⟩:∃Z,((6:Int)==6&&S%2==1)=Z:=⟨_,rfl⟩
  rw [hZ]
  have HZ:=Lib.hid hZ
  clear hZ
  go_enter Tryz.func132,Tryz.ntmps132
  go_wp2_with fail
  refine C0.out.mono ?_
  rintro e w1 ⟨rfl,rfl⟩
  clear C0 hci
  go_wp2
  go_loop [7,8] (fun n z=>∃ (m x:Nat) (q:Int),m≤i∧x+m≤i∧n= .int .i64 x∧z= .int .i64 q∧Hid (q=(m:Int) - 1)∧Hid (S=SG.flags (KT T) (l.take m).reverse+x)) (fun _ z=>(intOf z+1).toNat)
  case atStart=>exact⟨i,0,(i:Int) - 1,Nat.le_refl _,by omega,rfl,by go_num,Lib.hid rfl,Lib.hid HS.out.symm⟩
  case round=>
   obtain⟨m,x,q,hm,hxm,rfl,rfl,HQ,HV⟩:=hrel
   by_cases h0:0≤q
   ·obtain⟨j,e1,e3,hj⟩:=back_z HQ.out hm h0
    have hjl:j<l.length:=by omega
    have hcj:=HC.out j hjl
    have C1:=Lib.hid (HJ.out j hjl)
    have hV:=HV.out
    rw [e1,SG.take_rev_succ hjl,SG.flags_cons]at hV
    obtain⟨v,hv⟩:∃v,(KT T).br (l.getD j 0)=v:=⟨_,rfl⟩
    obtain⟨r',hr'⟩:∃r',l.getD j 0=r':=⟨_,rfl⟩
    rw [hv]at C1 hV
    rw [hr']at C1 hcj
    have HV1:=Lib.hid hV
    have HM:=Lib.hid e1
    subst e3
    have j0:(j:Int)<(l.length:Int):=by omega
    have j1:(0:Int)≤(j:Int):=by omega
    clear hV hv hr' e1 HV HQ h0
    go_wp2_with fail
    refine C1.out.mono ?_
    rintro e w1 ⟨rfl,rfl⟩
    clear C1 hcj
    by_cases a2:v=6
    ·have HN:=Lib.hid (show S=SG.flags (KT T) (l.take j).reverse+(x+1)by rw [HV1.out,if_pos a2];omega)
     subst a2
     clear HV1
     go_wp2
     go_round
     case rel=>exact⟨j,x+1,(j:Int) - 1,by have:=HM.out;omega,by have:=HM.out;omega,by go_num,by go_num,Lib.hid rfl,HN⟩
     case measure=>simp [intOf]
    ·obtain rfl:S=x:=by rw [HV1.out,if_neg a2,Nat.zero_add]
     have d2:(v==6)=false:=by simpa using a2
     have hx0:(0:Int)≤(S:Int):=by omega
     clear HV1 HM
     go_wp2
     go_ret
     refine⟨?_,rfl⟩
     rw [←HZ.out]
     exact congrArg (fun x=>Ending.returned (.bool x)) (par_int S)
   ·obtain rfl:m=0:=by have:=HQ.out;omega
    obtain rfl:S=x:=by have:=HV.out;rw [this];exact Nat.zero_add x
    clear HV HQ
    go_wp2
    go_ret
    refine⟨?_,rfl⟩
    rw [←HZ.out]
    exact congrArg (fun x=>Ending.returned (.bool x)) (par_int S)
 ·have d2:(v != 6)=true:=by simpa using e2
  have d3:(v==6)=false:=by simpa using e2
  rw [d3]
  clear e2 d3
  go_enter Tryz.func132,Tryz.ntmps132
  go_wp2_with fail
  refine C0.out.mono ?_
  rintro e w1 ⟨rfl,rfl⟩
  clear C0 hci
  go_wp2
  go_ret
  exact⟨rfl,rfl⟩
set_option maxHeartbeats 4000000 in
theorem pictured_any {W:World}{A:Option Addr}{c:Nat}{T:List RW.Row}{A2:Option Addr}{l:List Int}(c2:Nat)(h:RT W A c T A2 l)(hc2:l.length≤c2)(i:Nat)(hi:i+1<l.length):
  Calls Tryz.prog 131 #[.slice A T.length c,.slice A2 l.length c2,.int .i64 ((i:Int)+1)] W fun e w'=>e= .returned (.bool ((KT T).pc (l.getD (i+1) 0)&&(KT T).br (l.getD i 0)==5&&SG.pcScan (KT T) (l.take i).reverse))∧W=w':=by
 obtain⟨b,o,rfl,hb,_,hcell⟩:=h.txt.scs (by omega)
 have HC:=Lib.hid hcell
 have hci:=hcell (i+1) hi
 have hcj:=hcell i (by omega)
 have HJ:=Lib.hid (fun(j:Nat) (hj:j<l.length)=>h.br hj)
 have HP:=Lib.hid (fun(j:Nat) (hj:j<l.length)=>h.pc hj)
 have C0:=Lib.hid (h.pc hi)
 have C1:=Lib.hid (h.br (show i<l.length by omega))
 have hln:=h.ln
 have hpc:(KT T).pc (l.getD (i+1) 0)=(at0 0 (vget 5 T) (l.getD (i+1) 0)==1):=rfl
 obtain⟨v,hv⟩:∃v,at0 0 (vget 5 T) (l.getD (i+1) 0)=v:=⟨_,rfl⟩
 obtain⟨u,hu⟩:∃u,(KT T).br (l.getD i 0)=u:=⟨_,rfl⟩
 obtain⟨r,hr⟩:∃r,l.getD (i+1) 0=r:=⟨_,rfl⟩
 obtain⟨r2,hr2⟩:∃r,l.getD i 0=r:=⟨_,rfl⟩
 rw [hpc,hv,hu]
 rw [hv,hr]at C0
 rw [hu,hr2]at C1
 rw [hr]at hci
 rw [hr2]at hcj
 have hi0:(i:Int)+1<(l.length:Int):=by omega
 have hi1:(0:Int)≤(i:Int)+1:=by omega
 have hi2:(i:Int)<(l.length:Int):=by omega
 have hi3:(0:Int)≤(i:Int):=by omega
 obtain⟨S,hS⟩:∃S,SG.pcScan (KT T) (l.take i).reverse=S:=⟨_,rfl⟩
 rw [hS]
 have HS:=Lib.hid hS
 clear h hcell hv hr hS hpc hu hr2
 by_cases e2:v=1
 ·subst e2
  by_cases e5:u=5
  ·subst e5
   go_enter Tryz.func131,Tryz.ntmps131
   go_wp2_with fail
   refine C0.out.mono ?_
   rintro e w1 ⟨rfl,rfl⟩
   clear C0 hci
   go_wp2_with fail
   refine C1.out.mono ?_
   rintro e w1 ⟨rfl,rfl⟩
   clear C1 hcj
   go_wp2
   go_loop [7] (fun z=>∃ (m:Nat) (q:Int),m≤i∧z= .int .i64 q∧Hid (q=(m:Int) - 1)∧Hid (S=SG.pcScan (KT T) (l.take m).reverse)) (fun z=>(intOf z+1).toNat)
   case atStart=>exact⟨i,(i:Int) - 1,Nat.le_refl _,by go_num,Lib.hid rfl,Lib.hid HS.out.symm⟩
   case round=>
    obtain⟨m,q,hm,rfl,HQ,HV⟩:=hrel
    by_cases h0:0≤q
    ·obtain⟨j,e1,e3,hj⟩:=back_z HQ.out hm h0
     have hjl:j<l.length:=by omega
     have hcj:=HC.out j hjl
     have C1:=Lib.hid (HP.out j hjl)
     have C2:=Lib.hid (HJ.out j hjl)
     have hV:=HV.out
     rw [e1,SG.take_rev_succ hjl,SG.pcScan_cons]at hV
     have hpc:(KT T).pc (l.getD j 0)=(at0 0 (vget 5 T) (l.getD j 0)==1):=rfl
     rw [hpc]at hV
     obtain⟨v,hv⟩:∃v,at0 0 (vget 5 T) (l.getD j 0)=v:=⟨_,rfl⟩
     obtain⟨u,hu⟩:∃v,(KT T).br (l.getD j 0)=v:=⟨_,rfl⟩
     obtain⟨r',hr'⟩:∃r',l.getD j 0=r':=⟨_,rfl⟩
     rw [hv]at C1
     rw [hu]at C2
     rw [hv,hu]at hV
     rw [hr']at C1 C2 hcj
     have HV1:=Lib.hid hV
     have HM:=Lib.hid e1
     subst e3
     have j0:(j:Int)<(l.length:Int):=by omega
     have j1:(0:Int)≤(j:Int):=by omega
     clear hV hv hr' e1 HV HQ h0 hm hpc hu
     go_wp2_with fail
     refine C1.out.mono ?_
     rintro e w1 ⟨rfl,rfl⟩
     clear C1
     by_cases a2:v=1
     ·obtain rfl:S=true:=by rw [HV1.out,if_pos (by simpa using a2)]
      subst a2
      clear HV1 C2 hcj
      go_wp2
      go_ret
      exact⟨rfl,rfl⟩
     ·have d2:(v==1)=false:=by simpa using a2
      go_wp2_with fail
      refine C2.out.mono ?_
      rintro e w1 ⟨rfl,rfl⟩
      clear C2 hcj
      by_cases a4:u=4
      ·have HN:=Lib.hid (show S=SG.pcScan (KT T) (l.take j).reverse by rw [HV1.out,if_neg (by simpa using a2),if_neg (by simpa using a4)])
       subst a4
       clear HV1 a2
       go_wp2
       go_round
       case rel=>exact⟨j,(j:Int) - 1,by have:=HM.out;omega,by go_num,Lib.hid rfl,HN⟩
       case measure=>simp [intOf]
      ·have d4:(u != 4)=true:=by simpa using a4
       obtain rfl:S=false:=by rw [HV1.out,if_neg (by simpa using a2),if_pos a4]
       clear HV1 a2 a4
       go_wp2
       go_ret
       exact⟨rfl,rfl⟩
    ·obtain rfl:m=0:=by have:=HQ.out;omega
     obtain rfl:S=false:=HV.out
     clear HV HQ
     go_wp2
     go_ret
     exact⟨rfl,rfl⟩
  ·have d2:(u != 5)=true:=by simpa using e5
   have d3:(u==5)=false:=by simpa using e5
   rw [d3]
   clear e5 d3
   go_enter Tryz.func131,Tryz.ntmps131
   go_wp2_with fail
   refine C0.out.mono ?_
   rintro e w1 ⟨rfl,rfl⟩
   clear C0 hci
   go_wp2_with fail
   refine C1.out.mono ?_
   rintro e w1 ⟨rfl,rfl⟩
   clear C1 hcj
   go_wp2
   go_ret
   exact⟨rfl,rfl⟩
 ·have d2:(v != 1)=true:=by simpa using e2
  have d3:(v==1)=false:=by simpa using e2
  rw [d3]
  clear e2 d3
  go_enter Tryz.func131,Tryz.ntmps131
  go_wp2_with fail
  refine C0.out.mono ?_
  rintro e w1 ⟨rfl,rfl⟩
  clear C0 C1 hci hcj
  go_wp2
  go_ret
  exact⟨rfl,rfl⟩
theorem begAt_succ (K:SG.Kinds){l:List Int}{k:Nat}(hk:k<l.length):SG.begAt K l (k+1)=SG.rule (K.br (l.getD k 0)) (K.br (l.getD (k+1) 0)) (K.cj (l.getD (k+1) 0)==2&&SG.cjScan K (l.take (k+1)).reverse false) (K.pc (l.getD (k+1) 0)&&K.br (l.getD k 0)==5&&SG.pcScan K (l.take k).reverse) (K.br (l.getD (k+1) 0)==6&&SG.flags K (l.take (k+1)).reverse%2==1):=by
 unfold SG.begAt
 rw [SG.take_rev_succ hk]
 rfl
theorem hard_is (a:Int)(p:Bool)(h:SG.controlB a=p)(X:World):Calls Tryz.prog 128 #[.int .i64 a] X fun e w'=>e= .returned (.bool p)∧X=w':=by
 subst h
 exact hard_any a X
theorem hangul_is (a b:Int)(p:Bool)(h:SG.syllB a b=p)(X:World):Calls Tryz.prog 129 #[.int .i64 a,.int .i64 b] X fun e w'=>e= .returned (.bool p)∧X=w':=by
 subst h
 exact hangul_any a b X
theorem ctrl_one:SG.controlB 1=true:=rfl
set_option maxHeartbeats 4000000 in
set_option maxRecDepth 100000 in
theorem begins_any {W:World}{A:Option Addr}{c:Nat}{T:List RW.Row}{A2:Option Addr}{l:List Int}(c2:Nat)(h:RT W A c T A2 l)(hc2:l.length≤c2)(i:Nat)(hi:i<l.length):
  Calls Tryz.prog 81 #[.slice A T.length c,.slice A2 l.length c2,.int .i64 i] W fun e w'=>e= .returned (.bool (SG.begAt (KT T) l i))∧∃m,w'=W.drewN m:=by
 rcases i with _|k
 ·rw [show SG.begAt (KT T) l 0=true from rfl,show ((0:Nat):Int)=0 from rfl]
  clear h
  go_enter Tryz.func81,Tryz.ntmps81
  go_wp2
  go_ret
  exact⟨rfl,0,rfl⟩
 ·rw [begAt_succ (KT T) (show k<l.length by omega)]
  have HJ:=Lib.hid (fun(n:Nat)=>conjoined_any c2 (h.later (selfDrew W n)) hc2 (k+1) hi)
  have HP:=Lib.hid (fun(n:Nat)=>pictured_any c2 (h.later (selfDrew W n)) hc2 k hi)
  have HF:=Lib.hid (fun(n:Nat)=>flagged_any c2 (h.later (selfDrew W n)) hc2 (k+1) hi)
  have C1:=Lib.hid (fun(n:Nat)=>(h.later (selfDrew W n)).br (show k<l.length by omega))
  have C2:=Lib.hid (fun(n:Nat)=>(h.later (selfDrew W n)).br hi)
  obtain⟨b,o,rfl,hb,_,hcell⟩:=h.txt.scs (by omega)
  have l0:=hcell k (by omega)
  have l1:=hcell (k+1) hi
  have hln:=h.ln
  clear h hcell
  obtain⟨z,hz⟩:∃z,((KT T).br (l.getD (k+1) 0)==6&&SG.flags (KT T) (l.take (k+1)).reverse%2==1)=z:=⟨_,rfl⟩
  obtain⟨y,hy⟩:∃z,((KT T).pc (l.getD (k+1) 0)&&(KT T).br (l.getD k 0)==5&&SG.pcScan (KT T) (l.take k).reverse)=z:=⟨_,rfl⟩
  obtain⟨x,hx⟩:∃z,((KT T).cj (l.getD (k+1) 0)==2&&SG.cjScan (KT T) (l.take (k+1)).reverse false)=z:=⟨_,rfl⟩
  rw [hx,hy,hz]
  rw [hx]at HJ
  rw [hy]at HP
  rw [hz]at HF
  obtain⟨a,ha⟩:∃a,(KT T).br (l.getD k 0)=a:=⟨_,rfl⟩
  obtain⟨nw,hnw⟩:∃a,(KT T).br (l.getD (k+1) 0)=a:=⟨_,rfl⟩
  obtain⟨r1,hr1⟩:∃a,l.getD k 0=a:=⟨_,rfl⟩
  obtain⟨r2,hr2⟩:∃a,l.getD (k+1) 0=a:=⟨_,rfl⟩
  rw [ha,hnw]
  rw [ha,hr1]at C1
  rw [hnw,hr2]at C2
  rw [hr1]at l0
  rw [hr2]at l1
  rw [show ((k+1:Nat):Int)=(k:Int)+1 from rfl]at HJ HF ⊢
  obtain⟨R,hR⟩:∃R,SG.rule a nw x y z=R:=⟨_,rfl⟩
  rw [hR]
  have HR:=Lib.hid hR
  clear hx hy hz ha hnw hr1 hr2 hR
  have g0:(k:Int)+1<(l.length:Int):=by omega
  have g1:(0:Int)≤(k:Int)+1:=by omega
  have g2:(k:Int)<(l.length:Int):=by omega
  have g3:(0:Int)≤(k:Int):=by omega
  have g4:((k:Int)+1==0)=false:=by simp;omega
  go_enter Tryz.func81,Tryz.ntmps81
  go_wp2_with fail
  go_quiet ((go_at_call 65;first|with_reducible exact quiet_here (C1.out _)|with_reducible exact quiet_here (C2.out _)))
  clear C1 C2 l0 l1
  by_cases a1:a=1
  ·subst a1
   have CA:=Lib.hid (fun X=>hard_is 1 true rfl X)
   by_cases n2:nw=2
   ·subst n2
    obtain rfl:R=false:=by rw [←HR.out];rfl
    clear HR HJ HP HF CA
    go_wp2
    go_ret
    exact⟨rfl,_,rfl⟩
   ·have d2:(nw==2)=false:=by simpa using n2
    obtain rfl:R=true:=by rw [←HR.out];simp [SG.rule,n2,ctrl_one]
    clear HR HJ HP HF n2
    go_wp2_with fail
    refine(CA.out _).mono ?_
    rintro e w1 ⟨rfl,rfl⟩
    clear CA
    go_wp2
    go_ret
    exact⟨rfl,_,rfl⟩
  ·have d1:(a==1)=false:=by simpa using a1
   obtain⟨p,hp⟩:∃p,SG.controlB a=p:=⟨_,rfl⟩
   have CA:=Lib.hid (fun X=>hard_is a p hp X)
   cases p
   case true=>
    obtain rfl:R=true:=by rw [←HR.out];simp [SG.rule,a1,hp]
    clear HR HJ HP HF a1 hp
    go_wp2_with fail
    refine(CA.out _).mono ?_
    rintro e w1 ⟨rfl,rfl⟩
    clear CA
    go_wp2
    go_ret
    exact⟨rfl,_,rfl⟩
   case false=>
    obtain⟨p,hp2⟩:∃p,SG.controlB nw=p:=⟨_,rfl⟩
    have CB:=Lib.hid (fun X=>hard_is nw p hp2 X)
    go_wp2_with fail
    refine(CA.out _).mono ?_
    rintro e w1 ⟨rfl,rfl⟩
    clear CA
    go_wp2_with fail
    refine(CB.out _).mono ?_
    rintro e w1 ⟨rfl,rfl⟩
    clear CB
    cases p
    case true=>
     obtain rfl:R=true:=by rw [←HR.out];simp [SG.rule,a1,hp2]
     clear HR HJ HP HF a1 hp hp2
     go_wp2
     go_ret
     exact⟨rfl,_,rfl⟩
    case false=>
     obtain⟨p,hp3⟩:∃p,SG.syllB a nw=p:=⟨_,rfl⟩
     have CS:=Lib.hid (fun X=>hangul_is a nw p hp3 X)
     have HR1:=Lib.hid (show R=if p=true then false else if nw=4∨nw=5∨nw=8∨a=7 then false else !x&& !y&& !z by rw [←HR.out];simp [SG.rule,a1,hp,hp2,hp3])
     clear HR hp hp2 hp3 a1
     go_wp2_with fail
     refine(CS.out _).mono ?_
     rintro e w1 ⟨rfl,rfl⟩
     clear CS
     cases p
     case true=>
      obtain rfl:R=false:=HR1.out
      clear HR1 HJ HP HF
      go_wp2
      go_ret
      exact⟨rfl,_,rfl⟩
     case false=>
      by_cases n4:nw=4
      ·obtain rfl:R=false:=by rw [HR1.out];simp [n4]
       subst n4
       clear HR1 HJ HP HF
       go_wp2
       go_ret
       exact⟨rfl,_,rfl⟩
      ·have d4:(nw==4)=false:=by simpa using n4
       by_cases n5:nw=5
       ·obtain rfl:R=false:=by rw [HR1.out];simp [n5]
        subst n5
        clear HR1 HJ HP HF
        go_wp2
        go_ret
        exact⟨rfl,_,rfl⟩
       ·have d5:(nw==5)=false:=by simpa using n5
        by_cases n8:nw=8
        ·obtain rfl:R=false:=by rw [HR1.out];simp [n8]
         subst n8
         clear HR1 HJ HP HF
         go_wp2
         go_ret
         exact⟨rfl,_,rfl⟩
        ·have d8:(nw==8)=false:=by simpa using n8
         by_cases a7:a=7
         ·obtain rfl:R=false:=by rw [HR1.out];simp [a7]
          subst a7
          clear HR1 HJ HP HF
          go_wp2
          go_ret
          exact⟨rfl,_,rfl⟩
         ·have d7:(a==7)=false:=by simpa using a7
          obtain rfl:R=(!x&& !y&& !z):=by rw [HR1.out];simp [n4,n5,n8,a7]
          clear HR1 n4 n5 n8 a7
          go_wp2_with fail
          refine(HJ.out _).mono ?_
          rintro e w1 ⟨rfl,rfl⟩
          clear HJ
          cases x
          case true=>
           clear HP HF
           go_wp2
           go_ret
           exact⟨rfl,_,rfl⟩
          case false=>
           go_wp2_with fail
           refine(HP.out _).mono ?_
           rintro e w1 ⟨rfl,rfl⟩
           clear HP
           cases y
           case true=>
            clear HF
            go_wp2
            go_ret
            exact⟨rfl,_,rfl⟩
           case false=>
            go_wp2_with fail
            refine(HF.out _).mono ?_
            rintro e w1 ⟨rfl,rfl⟩
            clear HF
            cases z<;> (go_wp2;go_ret;exact⟨rfl,_,rfl⟩)
end Go.Proofs.YtlopleeopnnoeaaGreat
