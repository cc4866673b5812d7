import Derived.Test.YtlopleeopnnoeaaGreatMy01
import Derived.Deep.RegionWith
import Derived.Laws.BytesArg
set_option linter.unusedVariables false
set_option linter.unusedSimpArgs false
namespace Go.Proofs.YtlopleeopnnoeaaGreat
open Go.RowKit
def runD (bs:List Int):DS × List Int:=bs.foldl (fun q b=>((stepD q.1 b).1,q.2++(stepD q.1 b).2)) (DS.zero,[])
theorem runD_snoc (bs:List Int)(b:Int):runD (bs++[b])=((stepD (runD bs).1 b).1,(runD bs).2++(stepD (runD bs).1 b).2):=by
 simp [runD,List.foldl_append]
theorem zero_ok:DS.zero.Ok:=⟨by simp [DS.zero],.inl ⟨rfl,rfl,rfl,rfl⟩⟩
theorem fold_ok (bs:List Int):∀ (q:DS × List Int),q.1.Ok→(∀b∈bs,0≤b∧b≤255)→(bs.foldl (fun q b=>((stepD q.1 b).1,q.2++(stepD q.1 b).2)) q).1.Ok:=by
 induction bs with
 |nil=>exact fun q h _=>h
 |cons b bs ih=>exact fun q h hb=>ih _ (stepD_ok _ _ h (hb b (by simp)).1 (hb b (by simp)).2) fun c hc=>hb c (by simp [hc])
theorem runD_ok (bs:List Int)(hb:∀b∈bs,0≤b∧b≤255):(runD bs).1.Ok:=fold_ok bs _ zero_ok hb
def bts (s:ByteArray):List Int:=s.data.toList.map fun c=>(c.toNat:Int)
theorem bts_length (s:ByteArray):(bts s).length=s.size:=by simp [bts]
theorem bts_take_succ (s:ByteArray)(k:Nat)(h:k<s.size):(bts s).take (k+1)=(bts s).take k++[(s[k].toNat:Int)]:=by
 have hl:k<(bts s).length:=by rw [bts_length];exact h
 rw [List.take_succ_eq_append_getElem hl]
 congr 1
 simp [bts]
 rfl
theorem bts_range (s:ByteArray):∀b∈bts s,0≤b∧b≤255:=by
 intro b hb
 obtain⟨c,_,rfl⟩:=List.mem_map.1 hb
 have:=c.toNat_lt
 omega
def endD (s:DS):List Int:=if s.n=0 then []else [65533]
def decD (bs:List Int):List Int:=(runD bs).2++endD (runD bs).1
theorem end_none (h0 h1 h2:Int)(w:World):Calls Tryz.prog 122 #[dcd h0 h1 h2 0] w fun e w'=>e= .returned (.slice none 0 0)∧Below w.heap.size w w':=by
 go_enter Tryz.func122,Tryz.ntmps122
 go_wp2
 go_ret
 exact⟨rfl,(Below.refl _ _).alloc (Nat.le_refl _) _⟩
theorem end_some (h0 h1 h2 n:Int)(hn:0<n)(w:World):Calls Tryz.prog 122 #[dcd h0 h1 h2 n] w fun e w'=>∃A,e= .returned (.slice (some A) 1 1)∧Rd w' (some A) 1 (li [65533])∧Below w.heap.size w w':=by
 have E:(n==0)=false:=by simp;omega
 go_enter Tryz.func122,Tryz.ntmps122
 go_wp2
 go_ret
 have h:=((Below.refl w.heap.size w).alloc (Nat.le_refl _) (.cells #[.int .u8 h0,.int .u8 h1,.int .u8 h2,.int .i64 n] 178))
 refine⟨_,rfl,?_,h.alloc h.size _⟩
 have hr:=rd_new (w.alloc (.cells #[.int .u8 h0,.int .u8 h1,.int .u8 h2,.int .i64 n] 178)) #[.int .i32 65533] 21 1 (li [65533]) (by intro j hj;obtain rfl:j=0:=(by omega);rfl)
 rw [World.size_alloc]at hr
 exact hr
theorem stepD_len (s:DS)(b:Int):(stepD s b).2.length≤2:=by
 have h:(beginD b).2.length≤1:=by
  unfold beginD
  split
  ·simp
  ·split<;>simp
 unfold stepD
 split
 ·omega
 ·split
  ·split
   ·simp
   ·split<;>simp
  ·simp;omega
theorem fold_len (bs:List Int):∀ (q:DS × List Int),(bs.foldl (fun q b=>((stepD q.1 b).1,q.2++(stepD q.1 b).2)) q).2.length≤q.2.length+2*bs.length:=by
 induction bs with
 |nil=>exact fun q=>by simp
 |cons b bs ih=>
  intro q
  have h1:=ih ((stepD q.1 b).1,q.2++(stepD q.1 b).2)
  have h2:=stepD_len q.1 b
  simp only [List.foldl_cons,List.length_cons]
  simp only [List.length_append]at h1
  omega
theorem runD_len (bs:List Int):(runD bs).2.length≤2*bs.length:=by
 have:=fold_len bs (DS.zero,[])
 simpa [runD]using this
theorem step_is (h0 h1 h2 m b:Int)(hs:DS.Ok ⟨h0,h1,h2,m⟩)(b0:0≤b)(b1:b≤255){x y z n:Int}{l:List Int}(e:stepD ⟨h0,h1,h2,m⟩ b=(⟨x,y,z,n⟩,l))(w:World):
  Calls Tryz.prog 121 #[dcd h0 h1 h2 m,.int .u8 b] w (StepIs x y z n l w):=by
 refine(ustep_any ⟨h0,h1,h2,m⟩ b hs b0 b1 w).mono fun en w' hh=> ?_
 obtain⟨p,q,k,hk,he,hl,hb⟩:=hh
 rw [e]at he hl
 refine⟨p,q,?_,hb⟩
 obtain rfl|rfl|rfl:k=0∨k=1∨k=2:=by omega
 ·exact .inl ⟨hl.symm,he⟩
 ·exact .inr (.inl ⟨hl.symm,he⟩)
 ·exact .inr (.inr ⟨hl.symm,he⟩)
def StepK (x y z n:Int)(l:List Int)(w:World)(e:Ending)(w':World):Prop:=
 ∃ (p q:Int) (k:Nat),e= .returned (.tuple #[.agg #[.int .u8 x,.int .u8 y,.int .u8 z,.int .i64 n],.agg #[.int .i32 p,.int .i32 q],.int .i64 k])∧Hid (k≤2∧[p,q].take k=l)∧Below w.heap.size w w'
theorem step_k (h0 h1 h2 m b:Int)(hs:DS.Ok ⟨h0,h1,h2,m⟩)(b0:0≤b)(b1:b≤255){x y z n:Int}{l:List Int}(e:stepD ⟨h0,h1,h2,m⟩ b=(⟨x,y,z,n⟩,l))(w:World):
  Calls Tryz.prog 121 #[dcd h0 h1 h2 m,.int .u8 b] w (StepK x y z n l w):=by
 refine(ustep_any ⟨h0,h1,h2,m⟩ b hs b0 b1 w).mono fun en w' hh=> ?_
 obtain⟨p,q,k,hk,he,hl,hb⟩:=hh
 rw [e]at he hl
 exact⟨p,q,k,he,⟨hk,hl⟩,hb⟩
theorem later_one {w w1:World}{a:Array Value}{s:TypeId}(hb:Below ((w.alloc (.cells a s)).drew).heap.size ((w.alloc (.cells a s)).drew) w1):Blk w1 w.heap.size a:=
 (blk_new w a s).drew.later hb (blk_new w a s).1
theorem later_two {w w1:World}{a b:Array Value}{s t:TypeId}(hb:Below (((w.alloc (.cells a s)).alloc (.cells b t)).drew).heap.size (((w.alloc (.cells a s)).alloc (.cells b t)).drew) w1):Blk w1 w.heap.size a∧Blk w1 (w.heap.size+1) b:=by
 have h1:=(blk_new w a s).alloc (.cells b t)
 have h2:=blk_new (w.alloc (.cells a s)) b t
 rw [World.size_alloc]at h2
 exact⟨h1.drew.later hb h1.1,h2.drew.later hb h2.1⟩
theorem cdr {W:World}{a:Addr}{v:Value}(h:W.cell? a=some v):W.drew.cell? a=some v:=h
def Stp (wr:World)(x y z n:Int)(l:List Int)(v6 v7 v8:Value)(wx:World):Prop:=
 ∃ (g2 g3:Nat) (p q:Int) (kk:Nat) (kz:Int),v6= .pointer (some ⟨g2,0,none⟩)∧v7= .pointer (some ⟨g3,0,none⟩)∧v8= .int .i64 kz∧Hid (kk≤2∧kz=kk∧[p,q].take kk=l)∧
  (wx.cell? ⟨g2,0,none⟩=some (.int .u8 x)∧wx.cell? ⟨g2,1,none⟩=some (.int .u8 y)∧wx.cell? ⟨g2,2,none⟩=some (.int .u8 z)∧wx.cell? ⟨g2,3,none⟩=some (.int .i64 n))∧
  (wx.cell? ⟨g3,0,none⟩=some (.int .i32 p)∧wx.cell? ⟨g3,1,none⟩=some (.int .i32 q))∧(wr.heap.size≤g2∧wr.heap.size≤g3∧g3<wx.heap.size∧g2<wx.heap.size)∧Below wr.heap.size wr wx
theorem below_from {wr W w1:World}(h0:Below wr.heap.size wr W)(h1:Below W.heap.size W w1):Below wr.heap.size wr w1:=h0.trans (h1.mono h0.size)
def Fed (w:World)(r:DS × List Int)(out:Value)(wr:World):Prop:=
 wr.ownsRow (w.heap.size+1) 21 1 out r.2.length (r.2.map (Value.int .i32))∧Blk wr w.heap.size #[.int .u8 r.1.h0,.int .u8 r.1.h1,.int .u8 r.1.h2,.int .i64 r.1.n]∧Below w.heap.size w wr
theorem fed_next {w w3:World}{r:DS × List Int}{l:List Int}{v:Value}{a b c d:Int}{e0 e1 e2 e3:Value}(hown:w3.ownsRow (w.heap.size+1) 21 1 v (r.2.length+l.length) (r.2.map (Value.int .i32)++l.map (Value.int .i32)))
  (hB:Blk w3 w.heap.size #[e0,e1,e2,e3]) (hb:Below w.heap.size w w3) {r':DS × List Int} (hr:r'=(⟨a,b,c,d⟩,r.2++l)):
  Fed w r' v ((((w3.setCell ⟨w.heap.size,0,none⟩ (.int .u8 a)).setCell ⟨w.heap.size,1,none⟩ (.int .u8 b)).setCell ⟨w.heap.size,2,none⟩ (.int .u8 c)).setCell ⟨w.heap.size,3,none⟩ (.int .i64 d)):=by
 subst hr
 refine⟨?_,(((hB.set_ 0 (by simp) _).set_ 1 (by simp) _).set_ 2 (by simp) _).set_ 3 (by simp) _,(((hb.setCell (Nat.le_refl _) _).setCell (Nat.le_refl _) _).setCell (Nat.le_refl _) _).setCell (Nat.le_refl _) _⟩
 have h:=ownsRow_setCell_below (ownsRow_setCell_below (ownsRow_setCell_below (ownsRow_setCell_below hown (a:=⟨w.heap.size,0,none⟩) (Nat.lt_succ_self _) (.int .u8 a)) (a:=⟨w.heap.size,1,none⟩) (Nat.lt_succ_self _) (.int .u8 b))
  (a:=⟨w.heap.size,2,none⟩) (Nat.lt_succ_self _) (.int .u8 c)) (a:=⟨w.heap.size,3,none⟩) (Nat.lt_succ_self _) (.int .i64 d)
 simpa [List.map_append]using h
theorem take_map (p q:Int)(kk:Nat)(hk:kk≤2):(List.range kk).map (fun j=>Value.int .i32 ([p,q].getD j 0))=([p,q].take kk).map (Value.int .i32):=by
 obtain rfl|rfl|rfl:kk=0∨kk=1∨kk=2:=by omega
 ·rfl
 ·rfl
 ·rfl
def decF (s:DS):List Int→List Int
 |[]=>endD s
 |b::l=>(stepD s b).2++decF (stepD s b).1 l
theorem decF_run (l:List Int):∀ (s:DS) (o:List Int),(l.foldl (fun q b=>((stepD q.1 b).1,q.2++(stepD q.1 b).2)) (s,o)).2++endD (l.foldl (fun q b=>((stepD q.1 b).1,q.2++(stepD q.1 b).2)) (s,o)).1=o++decF s l:=by
 induction l with
 |nil=>intro s o;rfl
 |cons b l ih=>
  intro s o
  rw [List.foldl_cons,ih]
  simp [decF]
theorem decD_is (l:List Int):decD l=decF DS.zero l:=by
 have h:=decF_run l DS.zero []
 simpa [decD,runD]using h
theorem stepD_zero (b:Int):stepD DS.zero b=beginD b:=by simp [stepD,DS.zero]
theorem decF_none {b:Int}{l:List Int}(h:rowN b=0):decF DS.zero (b::l)=65533::decF DS.zero l:=by
 simp only [decF,stepD_zero,beginD,if_pos h];rfl
theorem decF_one {b:Int}{l:List Int}(h:rowN b=1):decF DS.zero (b::l)=b::decF DS.zero l:=by
 simp only [decF,stepD_zero,beginD,h];rfl
theorem decF_begin {b:Int}{l:List Int}(h:2≤rowN b):decF DS.zero (b::l)=decF ⟨b,0,0,1⟩ l:=by
 have h0:¬rowN b=0:=by omega
 have h1:¬rowN b=1:=by omega
 simp only [decF,stepD_zero,beginD,if_neg h0,if_neg h1];rfl
theorem decF_stop {s:DS}{b:Int}{l:List Int}(h:¬s.n=0)(hg:¬goes s.h0 s.n b=true):decF s (b::l)=65533::decF DS.zero (b::l):=by
 simp only [decF,stepD_zero,stepD,if_neg h,if_neg hg];rfl
theorem decF_end {s:DS}(h:¬s.n=0):decF s []=65533::decF DS.zero []:=by
 simp [decF,endD,h,DS.zero]
theorem decF_whole {s:DS}{b:Int}{l:List Int}(h:¬s.n=0)(hg:goes s.h0 s.n b=true)(hr:rowN s.h0=s.n+1):decF s (b::l)=wholeD s b::decF DS.zero l:=by
 simp only [decF,stepD,if_neg h,if_pos hg,if_pos hr];rfl
theorem decF_two {c b:Int}{l:List Int}(hg:goes c 1 b=true)(hr:¬rowN c=2):decF ⟨c,0,0,1⟩ (b::l)=decF ⟨c,b,0,2⟩ l:=by
 have hr':¬rowN c=1+1:=hr
 simp only [decF,stepD,if_neg (show ¬(1:Int)=0 by omega),if_pos hg,if_neg hr',if_pos];rfl
theorem decF_three {c a b:Int}{l:List Int}(hg:goes c 2 b=true)(hr:¬rowN c=3):decF ⟨c,a,0,2⟩ (b::l)=decF ⟨c,a,b,3⟩ l:=by
 have hr':¬rowN c=2+1:=hr
 simp only [decF,stepD,if_neg (show ¬(2:Int)=0 by omega),if_pos hg,if_neg hr',if_neg (show ¬(2:Int)=1 by omega)];rfl
def longI (c:Int):Int:=if c<128 then 1 else if c<224 then 2 else if c<240 then 3 else 4
def MayI (c:Int)(i:Nat)(b:Int):Prop:=
 if i=0 then c<128∨(194≤c∧c≤244)
 else if i=1∧c=224 then 160≤b∧b≤191
 else if i=1∧c=237 then 128≤b∧b≤159
 else if i=1∧c=240 then 144≤b∧b≤191
 else if i=1∧c=244 then 128≤b∧b≤143
 else 128≤b∧b≤191
theorem may_zero {c b:Int}:MayI c 0 b↔rowN c≠0:=by
 simp only [MayI,rowN,if_pos]
 split<;> (try split)<;> (try split)<;> (try split)<;>omega
theorem long_is {c:Int}(h:rowN c≠0):longI c=rowN c:=by
 revert h
 simp only [longI,rowN]
 intro h
 by_cases h1:c<128
 ·simp [h1]
 ·by_cases h2:c<194∨244<c
  ·simp [h1,h2]at h
  ·simp only [h1,h2,if_false]
theorem rowN_two {c:Int}(h:2≤rowN c):194≤c∧c≤244:=by
 simp only [rowN]at h
 by_cases h1:c<128
 ·simp [h1]at h
 ·by_cases h2:c<194∨244<c
  ·simp [h1,h2]at h
  ·omega
theorem may_one {c b:Int}(h:2≤rowN c):MayI c 1 b↔goes c 1 b=true:=by
 have hc:=rowN_two h
 have hc':¬(c<194∨244<c):=by omega
 simp only [MayI,goes,rowLo,rowHi,if_neg hc']
 by_cases h1:c=224
 ·subst h1;simp
 ·by_cases h2:c=237
  ·subst h2;simp
  ·by_cases h3:c=240
   ·subst h3;simp
   ·by_cases h4:c=244
    ·subst h4;simp
    ·simp [h1,h2,h3,h4]
theorem may_more {c b:Int}{i:Nat}(h:2≤i)(m:Int)(hm:m=i):MayI c i b↔goes c m b=true:=by
 have h0:¬i=0:=by omega
 have h1:¬i=1:=by omega
 have h2:(1:Int)<m:=by omega
 simp [MayI,goes,h0,h1,h2]
def valI:List Int→Int
 |[c]=>c
 |[c,b]=>64*(c - 192)+b - 128
 |[c,b,d]=>64*(64*(c - 224)+b - 128)+d - 128
 |[c,b,d,e]=>64*(64*(64*(c - 240)+b - 128)+d - 128)+e - 128
 |_=>0
theorem may_cont {c b:Int}{i:Nat}(h:0<i)(hm:MayI c i b):128≤b∧b≤191:=by
 simp only [MayI,if_neg (show ¬i=0 by omega)]at hm
 split at hm
 ·omega
 ·split at hm
  ·omega
  ·split at hm
   ·omega
   ·split at hm<;>omega
theorem dec_row (c:Int)(t:List Int)(n:Nat)(hn0:0<n)(hL:n≤t.length+1)(hl:(n:Int)≤longI c)(hm:∀j,j<n→MayI c j ((c::t).getD j 0)):
  ((n:Int)=longI c→decF DS.zero (c::t)=valI ((c::t).take n)::decF DS.zero ((c::t).drop n))∧
  ((n:Int)<longI c→(n=t.length+1∨¬MayI c n ((c::t).getD n 0))→decF DS.zero (c::t)=65533::decF DS.zero ((c::t).drop n)):=by
 have hr:rowN c≠0:=may_zero.1 (hm 0 hn0)
 have hr4:=rowN_le c
 rw [long_is hr]at hl ⊢
 have h4:n≤4:=by omega
 obtain rfl|rfl|rfl|rfl:n=1∨n=2∨n=3∨n=4:=by omega
 ·refine⟨fun e=>decF_one e.symm,fun e hx=> ?_⟩
  have h2:2≤rowN c:=by simp at e;omega
  rw [decF_begin h2]
  cases t with
  |nil=>exact decF_end (by simp)
  |cons b t=>
   have hg:¬goes c 1 b=true:=fun h=>by
    rcases hx with hx|hx
    ·simp at hx
    ·exact hx ((may_one h2).2 (by simpa using h))
   exact decF_stop (by simp) hg
 ·have h2:2≤rowN c:=by simp at hl;omega
  cases t with
  |nil=>simp at hL
  |cons b t=>
   have m1:=hm 1 (by omega)
   have hg:goes c 1 b=true:=(may_one h2).1 (by simpa using m1)
   have hb:=may_cont (i:=1) (by decide) m1
   simp at hb
   rw [decF_begin h2]
   refine⟨fun e=> ?_,fun e hx=> ?_⟩
   ·rw [decF_whole (by simp) hg (by simpa using e.symm)]
    have e':rowN c=2:=by simpa using e.symm
    simp [valI,wholeD,leadOf,e']
    omega
   ·have h3:3≤rowN c:=by simp at e;omega
    rw [decF_two hg (by omega)]
    cases t with
    |nil=>exact decF_end (by simp)
    |cons d t=>
     have hg2:¬goes c 2 d=true:=fun h=>by
      rcases hx with hx|hx
      ·simp at hx
      ·exact hx ((may_more (i:=2) (by decide) 2 rfl).2 (by simpa using h))
     exact decF_stop (by simp) hg2
 ·have h3:3≤rowN c:=by simp at hl;omega
  have h2:2≤rowN c:=by omega
  match t,hL with
  |[],hL=>simp at hL
  |[b],hL=>simp at hL
  |b::d::t,hL=>
   have m1:=hm 1 (by omega)
   have m2:=hm 2 (by omega)
   have hg:goes c 1 b=true:=(may_one h2).1 (by simpa using m1)
   have hg2:goes c 2 d=true:=(may_more (i:=2) (by decide) 2 rfl).1 (by simpa using m2)
   have hb:=may_cont (i:=1) (by decide) m1
   have hd:=may_cont (i:=2) (by decide) m2
   simp at hb hd
   rw [decF_begin h2,decF_two hg (by omega)]
   refine⟨fun e=> ?_,fun e hx=> ?_⟩
   ·rw [decF_whole (by simp) hg2 (by simpa using e.symm)]
    have e':rowN c=3:=by simpa using e.symm
    simp [valI,wholeD,leadOf,e']
    omega
   ·have h4:4≤rowN c:=by simp at e;omega
    rw [decF_three hg2 (by omega)]
    cases t with
    |nil=>exact decF_end (by simp)
    |cons x t=>
     have hg3:¬goes c 3 x=true:=fun h=>by
      rcases hx with hx|hx
      ·simp at hx
      ·exact hx ((may_more (i:=3) (by decide) 3 rfl).2 (by simpa using h))
     exact decF_stop (by simp) hg3
 ·have h4':rowN c=4:=by simp at hl;omega
  have h2:2≤rowN c:=by omega
  match t,hL with
  |[],hL=>simp at hL
  |[b],hL=>simp at hL
  |[b,d],hL=>simp at hL
  |b::d::x::t,hL=>
   have m1:=hm 1 (by omega)
   have m2:=hm 2 (by omega)
   have m3:=hm 3 (by omega)
   have hg:goes c 1 b=true:=(may_one h2).1 (by simpa using m1)
   have hg2:goes c 2 d=true:=(may_more (i:=2) (by decide) 2 rfl).1 (by simpa using m2)
   have hg3:goes c 3 x=true:=(may_more (i:=3) (by decide) 3 rfl).1 (by simpa using m3)
   have hb:=may_cont (i:=1) (by decide) m1
   have hd:=may_cont (i:=2) (by decide) m2
   have hx:=may_cont (i:=3) (by decide) m3
   simp at hb hd hx
   rw [decF_begin h2,decF_two hg (by omega),decF_three hg2 (by omega)]
   refine⟨fun e=> ?_,fun e hx=> ?_⟩
   ·rw [decF_whole (by simp) hg3 (by simpa using h4')]
    simp [valI,wholeD,leadOf,h4']
    omega
   ·simp at e;omega
def okS (r:Int):Bool:=(decide (0≤r)&&decide (r<55296))||(decide (57343<r)&&decide (r≤1114111))
def scal (r:Int):Int:=if okS r=true then r else 65533
def putI (n:Int):List Int:=
 if n<128 then [n]else if n<2048 then [192+n/64,128+n%64]else if n<65536 then [224+n/4096,128+n/64%64,128+n%64]
 else [240+n/262144,128+n/4096%64,128+n/64%64,128+n%64]
def putS (r:Int):List Int:=putI (scal r)
def encU:List Int→List Int
 |[]=>[]
 |r::l=>putS r++encU l
theorem okS_iff (r:Int):okS r=true↔(0≤r∧r<55296)∨(57343<r∧r≤1114111):=by simp [okS]
theorem scal_rng (r:Int):(0≤scal r∧scal r<55296)∨(57343<scal r∧scal r≤1114111):=by
 unfold scal
 split
 ·exact(okS_iff r).1 ‹_›
 ·omega
theorem encI_append (a b:List Int):encU (a++b)=encU a++encU b:=by
 induction a with
 |nil=>rfl
 |cons x a ih=>simp [encU,ih]
theorem putI_range (n:Int)(h0:0≤n)(h1:n≤1114111):(∀b∈putI n,0≤b∧b≤255)∧1≤(putI n).length∧(putI n).length≤4:=by
 unfold putI
 split
 ·simp;omega
 ·split
  ·simp;omega
  ·split
   ·simp;omega
   ·simp;omega
theorem putS_range (r:Int):(∀b∈putS r,0≤b∧b≤255)∧1≤(putS r).length∧(putS r).length≤4:=by
 have h:=scal_rng r
 exact putI_range _ (by omega) (by omega)
theorem encI_range:∀ (l:List Int),∀b∈encU l,0≤b∧b≤255
 |[],b,h=>by simp [encU]at h
 |r::l,b,h=>by
  simp only [encU,List.mem_append]at h
  rcases h with h|h
  ·exact(putS_range r).1 b h
  ·exact encI_range l b h
theorem encU_len:∀ (l:List Int),(encU l).length≤4*l.length
 |[]=>by simp [encU]
 |r::l=>by
  have h1:=(putS_range r).2.2
  have h2:=encU_len l
  simp only [encU,List.length_append,List.length_cons]
  omega
theorem dec_put (n:Int)(h:(0≤n∧n<55296)∨(57343<n∧n≤1114111))(t:List Int):decF DS.zero (putI n++t)=n::decF DS.zero t:=by
 unfold putI
 split
 ·exact decF_one (by simp [rowN, *])
 ·split
  ·have hc:rowN (192+n/64)=2:=by
    unfold rowN;rw [if_neg (by omega),if_neg (by omega),if_pos (by omega)]
   have hl:longI (192+n/64)=2:=by rw [long_is (by omega),hc]
   have:=(dec_row (192+n/64) ((128+n%64)::t) 2 (by omega) (by simp) (by omega) (fun j hj=>by
    obtain rfl|rfl:j=0∨j=1:=by omega
    ·simp [MayI];omega
    ·simp only [MayI,List.getD_cons_succ,List.getD_cons_zero]
     rw [if_neg (by omega),if_neg (by omega),if_neg (by omega),if_neg (by omega),if_neg (by omega)]
     omega)).1 (by omega)
   simp only [List.cons_append,List.nil_append]
   rw [this]
   simp [valI]
   omega
  ·split
   ·have hc:rowN (224+n/4096)=3:=by
     unfold rowN;rw [if_neg (by omega),if_neg (by omega),if_neg (by omega),if_pos (by omega)]
    have hl:longI (224+n/4096)=3:=by rw [long_is (by omega),hc]
    have:=(dec_row (224+n/4096) ((128+n/64%64)::(128+n%64)::t) 3 (by omega) (by simp) (by omega) (fun j hj=>by
     obtain rfl|rfl|rfl:j=0∨j=1∨j=2:=by omega
     ·simp [MayI];omega
     ·simp only [MayI,List.getD_cons_succ,List.getD_cons_zero]
      rw [if_neg (by omega)]
      split
      ·omega
      ·split
       ·omega
       ·rw [if_neg (by omega),if_neg (by omega)]
        omega
     ·simp only [MayI,List.getD_cons_succ,List.getD_cons_zero]
      rw [if_neg (by omega),if_neg (by omega),if_neg (by omega),if_neg (by omega),if_neg (by omega)]
      omega)).1 (by omega)
    simp only [List.cons_append,List.nil_append]
    rw [this]
    simp [valI]
    omega
   ·have hc:rowN (240+n/262144)=4:=by
     unfold rowN;rw [if_neg (by omega),if_neg (by omega),if_neg (by omega),if_neg (by omega)]
    have hl:longI (240+n/262144)=4:=by rw [long_is (by omega),hc]
    have:=(dec_row (240+n/262144) ((128+n/4096%64)::(128+n/64%64)::(128+n%64)::t) 4 (by omega) (by simp) (by omega) (fun j hj=>by
     obtain rfl|rfl|rfl|rfl:j=0∨j=1∨j=2∨j=3:=by omega
     ·simp [MayI];omega
     ·simp only [MayI,List.getD_cons_succ,List.getD_cons_zero]
      rw [if_neg (by omega),if_neg (by omega),if_neg (by omega)]
      split
      ·omega
      ·split
       ·omega
       ·omega
     ·simp only [MayI,List.getD_cons_succ,List.getD_cons_zero]
      rw [if_neg (by omega),if_neg (by omega),if_neg (by omega),if_neg (by omega),if_neg (by omega)]
      omega
     ·simp only [MayI,List.getD_cons_succ,List.getD_cons_zero]
      rw [if_neg (by omega),if_neg (by omega),if_neg (by omega),if_neg (by omega),if_neg (by omega)]
      omega)).1 (by omega)
    simp only [List.cons_append,List.nil_append]
    rw [this]
    simp [valI]
    omega
theorem dec_enc (l:List Int):decD (encU l)=l.map scal:=by
 rw [decD_is]
 induction l with
 |nil=>simp [encU,decF,endD,DS.zero]
 |cons r l ih=>
  simp only [encU,List.map_cons]
  rw [putS,dec_put _ (scal_rng r),ih]
theorem row_far (c:Int)(t:List Int):∀ (d k:Nat),0<k→longI c - k≤d→(k:Int)≤longI c→k≤t.length+1→(∀j,j<k→MayI c j ((c::t).getD j 0))→
  ∃n,0<n∧n≤t.length+1∧(n:Int)≤longI c∧(∀j,j<n→MayI c j ((c::t).getD j 0))∧((n:Int)=longI c∨n=t.length+1∨¬MayI c n ((c::t).getD n 0))
 |0,k,h0,hd,hl,ht,hm=>⟨k,h0,ht,hl,hm,.inl (by omega)⟩
 |d+1,k,h0,hd,hl,ht,hm=>by
  by_cases h1:(k:Int)=longI c
  ·exact⟨k,h0,ht,hl,hm,.inl h1⟩
  ·by_cases h2:k=t.length+1
   ·exact⟨k,h0,ht,hl,hm,.inr (.inl h2)⟩
   ·by_cases h3:MayI c k ((c::t).getD k 0)
    ·exact row_far c t d (k+1) (by omega) (by omega) (by omega) (by omega) fun j hj=>by
      by_cases hjk:j=k
      ·subst hjk;exact h3
      ·exact hm j (by omega)
    ·exact⟨k,h0,ht,hl,hm,.inr (.inr h3)⟩
theorem putS_of {v:Int}{l:List Int}(h:(0≤v∧v<55296)∨(57343<v∧v≤1114111))(hp:putI v=l):putS v=l:=by
 unfold putS scal
 rw [if_pos ((okS_iff v).2 h)]
 exact hp
theorem enc_dec:∀ (m:Nat) (bs:List Int),bs.length≤m→(∀b∈bs,0≤b∧b≤255)→65533 ∉ decF DS.zero bs→encU (decF DS.zero bs)=bs
 |_,[],_,_,_=>by simp [decF,endD,DS.zero,encU]
 |0,c::t,hm,_,_=>by simp at hm
 |m+1,c::t,hm,hr,hb=>by
  have hc:=hr c (by simp)
  by_cases h0:rowN c=0
  ·rw [decF_none h0]at hb
   simp at hb
  ·by_cases h1:rowN c=1
   ·rw [decF_one h1]at hb ⊢
    have hc':c<128:=by
     unfold rowN at h1
     by_cases hlt:c<128
     ·exact hlt
     ·rw [if_neg hlt]at h1
      split at h1
      ·omega
      ·split at h1
       ·omega
       ·split at h1<;>omega
    have hp:putS c=[c]:=putS_of (by omega) (by unfold putI;rw [if_pos hc'])
    simp only [encU,hp]
    rw [enc_dec m t (by simp at hm;omega) (fun b hbm=>hr b (by simp [hbm])) (fun h=>hb (by simp [h]))]
    rfl
   ·have hr4:=rowN_le c
    have h2:2≤rowN c:=by
     unfold rowN at h0 h1 ⊢
     split at h0
     ·simp_all
     ·split at h0
      ·simp_all
      ·rw [if_neg ‹_›,if_neg ‹_›]
       split
       ·omega
       ·split<;>omega
    have hlong:=long_is h0
    obtain⟨n,n0,nL,nl,nm,nx⟩:=row_far c t 4 1 (by omega) (by omega) (by omega) (by omega) (fun j hj=>by
     obtain rfl:j=0:=by omega
     exact may_zero.2 h0)
    obtain⟨D1,D2⟩:=dec_row c t n n0 nL nl nm
    by_cases hn:(n:Int)=longI c
    ·have hd:=D1 hn
     rw [hd]at hb ⊢
     simp only [List.mem_cons,not_or]at hb
     have hrest:=enc_dec m ((c::t).drop n) (by simp at hm ⊢;omega) (fun b hbm=>hr b (List.mem_of_mem_drop hbm)) hb.2
     simp only [encU]
     rw [hrest]
     have hput:putS (valI ((c::t).take n))=(c::t).take n:=by
      have hR:=rowN_two h2
      have hcs:rowN c=if c<224 then 2 else if c<240 then 3 else 4:=by
       unfold rowN;rw [if_neg (by omega),if_neg (by omega)]
      rw [hlong]at hn
      obtain hn2|hn3|hn4:n=2∨n=3∨n=4:=by omega
      ·subst hn2
       match t,nL with
       |b::t,_=>
        have m1:=nm 1 (by omega)
        have b1:=may_cont (i:=1) (by decide) m1
        simp only [List.getD_cons_succ,List.getD_cons_zero]at b1
        have hc2:c<224:=by
         by_cases h:c<224
         ·exact h
         ·rw [hcs,if_neg h]at hn;split at hn<;>omega
        simp only [List.take_succ_cons,List.take_zero,valI]
        refine putS_of (by omega) ?_
        unfold putI
        rw [if_neg (by omega),if_pos (by omega)]
        congr 1
        ·omega
        ·congr 1;omega
      ·subst hn3
       match t,nL with
       |b::d::t,_=>
        have m1:=nm 1 (by omega)
        have m2:=nm 2 (by omega)
        have b1:=may_cont (i:=1) (by decide) m1
        have b2:=may_cont (i:=2) (by decide) m2
        simp only [List.getD_cons_succ,List.getD_cons_zero]at b1 b2 m1
        have hc2:224≤c∧c<240:=by
         by_cases h:c<224
         ·rw [hcs,if_pos h]at hn;omega
         ·rw [hcs,if_neg h]at hn;split at hn<;>omega
        have e1:c=224→160≤b:=fun e=>by
         subst e;simp [MayI]at m1;omega
        have e2:c=237→b≤159:=fun e=>by
         subst e;simp [MayI]at m1;omega
        simp only [List.take_succ_cons,List.take_zero,valI]
        refine putS_of (by omega) ?_
        unfold putI
        rw [if_neg (by omega),if_neg (by omega),if_pos (by omega)]
        congr 1
        ·omega
        ·congr 1
         ·omega
         ·congr 1;omega
       |[b],hL=>simp at hL
      ·subst hn4
       match t,nL with
       |b::d::x::t,_=>
        have m1:=nm 1 (by omega)
        have m2:=nm 2 (by omega)
        have m3:=nm 3 (by omega)
        have b1:=may_cont (i:=1) (by decide) m1
        have b2:=may_cont (i:=2) (by decide) m2
        have b3:=may_cont (i:=3) (by decide) m3
        simp only [List.getD_cons_succ,List.getD_cons_zero]at b1 b2 b3 m1
        have hc2:240≤c:=by
         by_cases h:c<224
         ·rw [hcs,if_pos h]at hn;omega
         ·rw [hcs,if_neg h]at hn;split at hn<;>omega
        have e1:c=240→144≤b:=fun e=>by
         subst e;simp [MayI]at m1;omega
        have e2:c=244→b≤143:=fun e=>by
         subst e;simp [MayI]at m1;omega
        simp only [List.take_succ_cons,List.take_zero,valI]
        refine putS_of (by omega) ?_
        unfold putI
        rw [if_neg (by omega),if_neg (by omega),if_neg (by omega)]
        congr 1
        ·omega
        ·congr 1
         ·omega
         ·congr 1
          ·omega
          ·congr 1;omega
       |[b],hL=>simp at hL
       |[b,d],hL=>simp at hL
     rw [hput,List.take_append_drop]
    ·have hd:=D2 (by omega) (by rcases nx with h|h|h;exact absurd h hn;exact .inl h;exact .inr h)
     rw [hd]at hb
     simp at hb
theorem str_bts (s:ByteArray):strOfNums (bts s)=s:=by
 have:(bts s).map (fun n=>UInt8.ofNat n.toNat)=s.data.toList:=by
  simp [bts,List.map_map]
  conv=>rhs;rw [←List.map_id s.data.toList]
  apply List.map_congr_left
  intro a _
  simp
 unfold strOfNums
 rw [this]
theorem bts_str (l:List Int)(h:∀b∈l,0≤b∧b≤255):bts (strOfNums l)=l:=by
 simp only [bts,strOfNums_data,List.map_map]
 conv=>rhs;rw [←List.map_id l]
 apply List.map_congr_left
 intro a ha
 have:=h a ha
 simp [UInt8.toNat_ofNat]
 omega
theorem valid_any (r:Int)(w:World):Calls Tryz.prog 141 #[.int .i32 r] w fun e w'=>e= .returned (.bool (okS r))∧w=w':=by
 have H (x y z t:Bool) (d1:decide (0≤r)=x) (d2:decide (r<55296)=y) (d3:decide (57343<r)=z) (d4:decide (r≤1114111)=t):
   Calls Tryz.prog 141 #[.int .i32 r] w fun e w'=>e= .returned (.bool ((x&&y)||(z&&t)))∧w=w':=by
  cases x<;>cases y<;>cases z<;>cases t
  all_goals
   go_enter Tryz.func141,Tryz.ntmps141
   go_wp2
   go_ret
   exact⟨rfl,rfl⟩
 exact H _ _ _ _ rfl rfl rfl rfl
theorem rvalid_any (r:Int)(w:World):Calls Tryz.prog 78 #[.int .i32 r] w fun e w'=>e= .returned (.bool (okS r))∧w=w':=by
 have H (x y z t:Bool) (d1:decide (0≤r)=x) (d2:decide (r<55296)=y) (d3:decide (57343<r)=z) (d4:decide (r≤1114111)=t):
   Calls Tryz.prog 78 #[.int .i32 r] w fun e w'=>e= .returned (.bool ((x&&y)||(z&&t)))∧w=w':=by
  cases x<;>cases y<;>cases z<;>cases t
  all_goals
   go_enter Tryz.func78,Tryz.ntmps78
   go_wp2
   go_ret
   exact⟨rfl,rfl⟩
 exact H _ _ _ _ rfl rfl rfl rfl
theorem size_no (r:Int)(w:World)(h:okS r=false):Calls Tryz.prog 140 #[.int .i32 r] w fun e w'=>e= .returned (.int .i64 3)∧w=w':=by
 have H:=Lib.hid (fun w=>valid_any r w)
 rw [h]at H
 clear h
 go_enter Tryz.func140,Tryz.ntmps140
 go_wp2_with (go_at_call 141;refine(H.out _).mono ?_;rintro e w' ⟨rfl,rfl⟩)
 go_ret
 exact⟨rfl,rfl⟩
theorem size_yes (r n:Int)(w:World)(h:okS r=true)(x y z:Bool)(d1:decide (r<128)=x)(d2:decide (r<2048)=y)(d3:decide (r<65536)=z)(hn:n=bif x then 1 else bif y then 2 else bif z then 3 else 4)(hc:(x&& !y)=false∧(y&& !z)=false):
  Calls Tryz.prog 140 #[.int .i32 r] w fun e w'=>e= .returned (.int .i64 n)∧w=w':=by
 have H:=Lib.hid (fun w=>valid_any r w)
 rw [h]at H
 clear h
 cases x<;>cases y<;>cases z<;>simp at hc<;>simp at hn<;>subst hn
 all_goals
  go_enter Tryz.func140,Tryz.ntmps140
  go_wp2_with (go_at_call 141;refine(H.out _).mono ?_;rintro e w' ⟨rfl,rfl⟩)
  go_ret
  exact⟨rfl,rfl⟩
theorem size_any (r:Int)(w:World):Calls Tryz.prog 140 #[.int .i32 r] w fun e w'=>e= .returned (.int .i64 (putS r).length)∧w=w':=by
 by_cases h:okS r=true
 ·refine size_yes r _ w h _ _ _ rfl rfl rfl ?_ ?_
  ·unfold putS scal putI
   rw [if_pos h]
   by_cases h1:r<128
   ·simp [h1]
   ·by_cases h2:r<2048
    ·simp [h1,h2]
    ·by_cases h3:r<65536
     ·simp [h1,h2,h3]
     ·simp [h1,h2,h3]
  ·refine⟨?_,?_⟩<;>rw [Bool.eq_false_iff]<;>simp<;>omega
 ·rw [Bool.not_eq_true]at h
  have e:((putS r).length:Int)=3:=by unfold putS scal;rw [if_neg (by simp [h])];rfl
  rw [e]
  exact size_no r w h
theorem conv_new (w:World)(cs:List Int)(n:Nat)(hn:cs.length=n)(C:Array Value)(hC:C=(cs.map (Value.int .u8)).toArray):
  (convert 167 9 (.slice (some ⟨w.heap.size,0,none⟩) n n)).run Tryz.prog (w.alloc (.cells C 5))= .ok (.string (strOfNums cs)) (w.alloc (.cells C 5)):=by
 subst hC
 refine run_convert_bytes_arg (P:= Tryz.prog) _ 167 5 Tryz.underlying167 Tryz.underlying5 w.heap.size 0 n n cs hn (fun i hi=> ?_) 9 Tryz.underlying9
 rw [Nat.zero_add,World.cell?_alloc_new]
 simp [List.getD,hn,hi]
section
variable (r:Int)(w:World)
set_option maxHeartbeats 1000000 in
theorem rput_no (h:okS r=false)(h0: -2147483648≤r)(h1:r≤2147483647):Calls Tryz.prog 66 #[.int .i32 r] w fun e w'=>e= .returned (.string (strOfNums [239,191,189]))∧Below w.heap.size w w':=by
 have H:=Lib.hid (fun w=>rvalid_any r w)
 rw [h]at H
 clear h
 have K:=conv_new w [239,191,189] 3 rfl #[.int .u8 239,.int .u8 191,.int .u8 189] rfl
 go_enter Tryz.func66,Tryz.ntmps66
 go_wp2_with (go_at_call 78;refine(H.out _).mono ?_;rintro e w' ⟨rfl,rfl⟩)
 go_ret
 exact⟨rfl,(Below.refl _ _).alloc (Nat.le_refl _) _⟩
set_option maxHeartbeats 1000000 in
theorem rput_one (h:okS r=true)(h0:0≤r)(h1:r<128):Calls Tryz.prog 66 #[.int .i32 r] w fun e w'=>e= .returned (.string (strOfNums [r]))∧Below w.heap.size w w':=by
 have H:=Lib.hid (fun w=>rvalid_any r w)
 rw [h]at H
 clear h
 have K:=conv_new w [r] 1 rfl #[.int .u8 r] rfl
 go_enter Tryz.func66,Tryz.ntmps66
 go_wp2_with (go_at_call 78;refine(H.out _).mono ?_;rintro e w' ⟨rfl,rfl⟩)
 go_ret
 exact⟨rfl,(Below.refl _ _).alloc (Nat.le_refl _) _⟩
set_option maxHeartbeats 1000000 in
theorem rput_two (h:okS r=true)(h0:128≤r)(h1:r<2048):Calls Tryz.prog 66 #[.int .i32 r] w fun e w'=>e= .returned (.string (strOfNums [192+r/64,128+r%64]))∧Below w.heap.size w w':=by
 have H:=Lib.hid (fun w=>rvalid_any r w)
 rw [h]at H
 clear h
 have K:=conv_new w [192+r/64,128+r%64] 2 rfl #[.int .u8 (192+r/64),.int .u8 (128+r%64)] rfl
 have d1:decide (r<128)=false:=by simp;omega
 go_enter Tryz.func66,Tryz.ntmps66
 go_wp2_with (go_at_call 78;refine(H.out _).mono ?_;rintro e w' ⟨rfl,rfl⟩)
 go_ret
 exact⟨rfl,(Below.refl _ _).alloc (Nat.le_refl _) _⟩
set_option maxHeartbeats 1000000 in
theorem rput_three (h:okS r=true)(h0:2048≤r)(h1:r<65536):Calls Tryz.prog 66 #[.int .i32 r] w fun e w'=>e= .returned (.string (strOfNums [224+r/4096,128+r/64%64,128+r%64]))∧Below w.heap.size w w':=by
 have H:=Lib.hid (fun w=>rvalid_any r w)
 rw [h]at H
 clear h
 have K:=conv_new w [224+r/4096,128+r/64%64,128+r%64] 3 rfl #[.int .u8 (224+r/4096),.int .u8 (128+r/64%64),.int .u8 (128+r%64)] rfl
 have d1:decide (r<128)=false:=by simp;omega
 have d2:decide (r<2048)=false:=by simp;omega
 go_enter Tryz.func66,Tryz.ntmps66
 go_wp2_with (go_at_call 78;refine(H.out _).mono ?_;rintro e w' ⟨rfl,rfl⟩)
 go_ret
 exact⟨rfl,(Below.refl _ _).alloc (Nat.le_refl _) _⟩
set_option maxHeartbeats 1000000 in
theorem rput_four (h:okS r=true)(h0:65536≤r)(h1:r≤1114111):Calls Tryz.prog 66 #[.int .i32 r] w fun e w'=>e= .returned (.string (strOfNums [240+r/262144,128+r/4096%64,128+r/64%64,128+r%64]))∧Below w.heap.size w w':=by
 have H:=Lib.hid (fun w=>rvalid_any r w)
 rw [h]at H
 clear h
 have K:=conv_new w [240+r/262144,128+r/4096%64,128+r/64%64,128+r%64] 4 rfl #[.int .u8 (240+r/262144),.int .u8 (128+r/4096%64),.int .u8 (128+r/64%64),.int .u8 (128+r%64)] rfl
 have d1:decide (r<128)=false:=by simp;omega
 have d2:decide (r<2048)=false:=by simp;omega
 have d3:decide (r<65536)=false:=by simp;omega
 go_enter Tryz.func66,Tryz.ntmps66
 go_wp2_with (go_at_call 78;refine(H.out _).mono ?_;rintro e w' ⟨rfl,rfl⟩)
 go_ret
 exact⟨rfl,(Below.refl _ _).alloc (Nat.le_refl _) _⟩
theorem rput_any (h0: -2147483648≤r)(h1:r≤2147483647):Calls Tryz.prog 66 #[.int .i32 r] w fun e w'=>e= .returned (.string (strOfNums (putS r)))∧Below w.heap.size w w':=by
 by_cases h:okS r=true
 ·have hr:=(okS_iff r).1 h
  unfold putS scal putI
  rw [if_pos h]
  by_cases c1:r<128
  ·rw [if_pos c1];exact rput_one r w h (by omega) c1
  ·rw [if_neg c1]
   by_cases c2:r<2048
   ·rw [if_pos c2];exact rput_two r w h (by omega) c2
   ·rw [if_neg c2]
    by_cases c3:r<65536
    ·rw [if_pos c3];exact rput_three r w h (by omega) c3
    ·rw [if_neg c3];exact rput_four r w h (by omega) (by omega)
 ·rw [Bool.not_eq_true]at h
  have e:putS r=[239,191,189]:=by unfold putS scal;rw [if_neg (by simp [h])];rfl
  rw [e]
  exact rput_no r w h h0 h1
end
open Go.RowKit
theorem or_tab_i32:(List.range 64).all (fun k=>bits .or .i32 128 (k:Int)==128+(k:Int))=true:=by kernel_rfl
theorem or128 (x:Int)(h0:0≤x)(h1:x<64):bits .or .i32 128 x=128+x:=by
 obtain⟨a,rfl⟩:=Int.eq_ofNat_of_zero_le h0
 exact beq_iff_eq.1 (List.all_eq_true.1 or_tab_i32 a (List.mem_range.2 (by omega)))
theorem or_tab_192:(List.range 32).all (fun k=>bits .or .u8 192 (k:Int)==192+(k:Int))=true:=by kernel_rfl
theorem or_tab_224:(List.range 16).all (fun k=>bits .or .u8 224 (k:Int)==224+(k:Int))=true:=by kernel_rfl
theorem or_tab_240:(List.range 8).all (fun k=>bits .or .u8 240 (k:Int)==240+(k:Int))=true:=by kernel_rfl
theorem or192 (x:Int)(h0:0≤x)(h1:x<32):bits .or .u8 192 x=192+x:=by
 obtain⟨a,rfl⟩:=Int.eq_ofNat_of_zero_le h0
 exact beq_iff_eq.1 (List.all_eq_true.1 or_tab_192 a (List.mem_range.2 (by omega)))
theorem or224 (x:Int)(h0:0≤x)(h1:x<16):bits .or .u8 224 x=224+x:=by
 obtain⟨a,rfl⟩:=Int.eq_ofNat_of_zero_le h0
 exact beq_iff_eq.1 (List.all_eq_true.1 or_tab_224 a (List.mem_range.2 (by omega)))
theorem or240 (x:Int)(h0:0≤x)(h1:x<8):bits .or .u8 240 x=240+x:=by
 obtain⟨a,rfl⟩:=Int.eq_ofNat_of_zero_le h0
 exact beq_iff_eq.1 (List.all_eq_true.1 or_tab_240 a (List.mem_range.2 (by omega)))
theorem and63 (x:Int)(h0:0≤x)(h1:x<2147483648):bits .and .i32 x 63=x%64:=by
 obtain⟨a,rfl⟩:=Int.eq_ofNat_of_zero_le h0
 show IntKind.i32.wrap ((BitVec.ofInt 32 (a:Int)&&& BitVec.ofInt 32 ((63:Nat):Int)).toNat:Int)=_
 rw [ofInt_i32 _ (by omega),ofInt_i32 _ (by omega),BitVec.toNat_and,BitVec.toNat_ofNat,BitVec.toNat_ofNat,Nat.mod_eq_of_lt (by omega),Nat.mod_eq_of_lt (by omega),show (63:Nat)=2 ^ 6 - 1 from rfl,Nat.and_two_pow_sub_one_eq_mod,IntKind.wrap_i32]
 omega
theorem size_is (r n:Int)(h:((putS r).length:Int)=n)(w:World):Calls Tryz.prog 140 #[.int .i32 r] w fun e w'=>e= .returned (.int .i64 n)∧w=w':=by
 subst h
 exact size_any r w
theorem lead_is (n v:Int)(hv:leadOf n=v)(h0:0≤n)(h1:n≤4)(w:World):Calls Tryz.prog 170 #[.int .i64 n] w fun e w'=>e= .returned (.int .u8 v)∧w=w':=by
 subst hv
 exact lead_any n w h0 h1
theorem conv_in (w:World)(cs:List Int)(n c:Nat)(T:TypeId)(hn:cs.length=n)(hc:n≤c)(C:Array Value)(hC:∀i,i<n→C[i]? =some (.int .u8 (cs.getD i 0))):
  (convert 167 9 (.slice (some ⟨w.heap.size,0,none⟩) n c)).run Tryz.prog (w.alloc (.cells C T))= .ok (.string (strOfNums cs)) (w.alloc (.cells C T)):=by
 refine run_convert_bytes_arg (P:= Tryz.prog) _ 167 5 Tryz.underlying167 Tryz.underlying5 w.heap.size 0 n c cs hn (fun i hi=> ?_) 9 Tryz.underlying9
 rw [Nat.zero_add,World.cell?_alloc_new]
 exact hC i hi
section
variable (r:Int)(w:World)
set_option maxHeartbeats 2000000 in
theorem put_two (h:okS r=true)(h0:128≤r)(h1:r<2048):Calls Tryz.prog 123 #[.int .i32 r] w fun e w'=>e= .returned (.string (strOfNums [192+r/64,128+r%64]))∧Below w.heap.size w w':=by
 have H:=Lib.hid (fun w=>valid_any r w)
 rw [h]at H
 have HS:=Lib.hid (size_is r 2 (by unfold putS scal putI;rw [if_pos h,if_neg (by omega),if_pos (by omega)];rfl))
 clear h
 have a1:=and63 r (by omega) (by omega)
 have b1:=or128 (r%64) (by omega) (by omega)
 have b2:=or192 (r/64) (by omega) (by omega)
 have K:=conv_in w [192+r/64,128+r%64] 2 4 227 rfl (by decide) #[.int .u8 (192+r/64),.int .u8 (128+r%64),.int .u8 0,.int .u8 0] (by intro i hi;match i,hi with|0,_=>rfl|1,_=>rfl)
 go_enter Tryz.func123,Tryz.ntmps123
 go_wp2_with (first|(go_at_call 141;refine(H.out _).mono ?_;rintro e w' ⟨rfl,rfl⟩)|(go_at_call 140;refine(HS.out _).mono ?_;rintro e w' ⟨rfl,rfl⟩))
 refine wp_loop_rounds 2 ?_
 rw [rounds_succ]
 go_wp2
 rw [rounds_succ]
 go_wp2_with (go_at_call 170;refine(lead_is 2 192 rfl (by omega) (by omega) _).mono ?_;rintro e w' ⟨rfl,rfl⟩)
 go_ret
 exact⟨rfl,(Below.refl _ _).alloc (Nat.le_refl _) _⟩
set_option maxHeartbeats 2000000 in
theorem put_three (h:okS r=true)(h0:2048≤r)(h1:r<65536):Calls Tryz.prog 123 #[.int .i32 r] w fun e w'=>e= .returned (.string (strOfNums [224+r/4096,128+r/64%64,128+r%64]))∧Below w.heap.size w w':=by
 have H:=Lib.hid (fun w=>valid_any r w)
 rw [h]at H
 have HS:=Lib.hid (size_is r 3 (by unfold putS scal putI;rw [if_pos h,if_neg (by omega),if_neg (by omega),if_pos (by omega)];rfl))
 clear h
 have a1:=and63 r (by omega) (by omega)
 have b1:=or128 (r%64) (by omega) (by omega)
 have a2:=and63 (r/64) (by omega) (by omega)
 have b2:=or128 (r/64%64) (by omega) (by omega)
 have d3:r/64/64=r/4096:=by omega
 have b3:=or224 (r/4096) (by omega) (by omega)
 have K:=conv_in w [224+r/4096,128+r/64%64,128+r%64] 3 4 227 rfl (by decide) #[.int .u8 (224+r/4096),.int .u8 (128+r/64%64),.int .u8 (128+r%64),.int .u8 0] (by intro i hi;match i,hi with|0,_=>rfl|1,_=>rfl|2,_=>rfl)
 go_enter Tryz.func123,Tryz.ntmps123
 go_wp2_with (first|(go_at_call 141;refine(H.out _).mono ?_;rintro e w' ⟨rfl,rfl⟩)|(go_at_call 140;refine(HS.out _).mono ?_;rintro e w' ⟨rfl,rfl⟩))
 refine wp_loop_rounds 3 ?_
 rw [rounds_succ]
 go_wp2
 rw [rounds_succ]
 go_wp2
 rw [rounds_succ]
 go_wp2_with (go_at_call 170;refine(lead_is 3 224 rfl (by omega) (by omega) _).mono ?_;rintro e w' ⟨rfl,rfl⟩)
 go_ret
 exact⟨rfl,(Below.refl _ _).alloc (Nat.le_refl _) _⟩
set_option maxHeartbeats 2000000 in
theorem put_four (h:okS r=true)(h0:65536≤r)(h1:r≤1114111):Calls Tryz.prog 123 #[.int .i32 r] w fun e w'=>e= .returned (.string (strOfNums [240+r/262144,128+r/4096%64,128+r/64%64,128+r%64]))∧Below w.heap.size w w':=by
 have H:=Lib.hid (fun w=>valid_any r w)
 rw [h]at H
 have HS:=Lib.hid (size_is r 4 (by unfold putS scal putI;rw [if_pos h,if_neg (by omega),if_neg (by omega),if_neg (by omega)];rfl))
 clear h
 have a1:=and63 r (by omega) (by omega)
 have b1:=or128 (r%64) (by omega) (by omega)
 have a2:=and63 (r/64) (by omega) (by omega)
 have b2:=or128 (r/64%64) (by omega) (by omega)
 have d3:r/64/64=r/4096:=by omega
 have a3:=and63 (r/4096) (by omega) (by omega)
 have b3:=or128 (r/4096%64) (by omega) (by omega)
 have d4:r/4096/64=r/262144:=by omega
 have b4:=or240 (r/262144) (by omega) (by omega)
 have K:=conv_in w [240+r/262144,128+r/4096%64,128+r/64%64,128+r%64] 4 4 227 rfl (by decide) #[.int .u8 (240+r/262144),.int .u8 (128+r/4096%64),.int .u8 (128+r/64%64),.int .u8 (128+r%64)] (by intro i hi;match i,hi with|0,_=>rfl|1,_=>rfl|2,_=>rfl|3,_=>rfl)
 go_enter Tryz.func123,Tryz.ntmps123
 go_wp2_with (first|(go_at_call 141;refine(H.out _).mono ?_;rintro e w' ⟨rfl,rfl⟩)|(go_at_call 140;refine(HS.out _).mono ?_;rintro e w' ⟨rfl,rfl⟩))
 refine wp_loop_rounds 4 ?_
 rw [rounds_succ]
 go_wp2
 rw [rounds_succ]
 go_wp2
 rw [rounds_succ]
 go_wp2
 rw [rounds_succ]
 go_wp2_with (go_at_call 170;refine(lead_is 4 240 rfl (by omega) (by omega) _).mono ?_;rintro e w' ⟨rfl,rfl⟩)
 go_ret
 exact⟨rfl,(Below.refl _ _).alloc (Nat.le_refl _) _⟩
set_option maxHeartbeats 2000000 in
theorem put_no (h:okS r=false):Calls Tryz.prog 123 #[.int .i32 r] w fun e w'=>e= .returned (.string (strOfNums [239,191,189]))∧Below w.heap.size w w':=by
 have H:=Lib.hid (fun w=>valid_any r w)
 rw [h]at H
 have HS:=Lib.hid (size_is 65533 3 (by decide))
 clear h
 have a1:bits .and .i32 65533 63=61:=by kernel_rfl
 have b1:bits .or .i32 128 61=189:=by kernel_rfl
 have a2:bits .and .i32 1023 63=63:=by kernel_rfl
 have b2:bits .or .i32 128 63=191:=by kernel_rfl
 have b3:bits .or .u8 224 15=239:=by kernel_rfl
 have K:=conv_in w [239,191,189] 3 4 227 rfl (by decide) #[.int .u8 239,.int .u8 191,.int .u8 189,.int .u8 0] (by intro i hi;match i,hi with|0,_=>rfl|1,_=>rfl|2,_=>rfl)
 go_enter Tryz.func123,Tryz.ntmps123
 go_wp2_with (first|(go_at_call 141;refine(H.out _).mono ?_;rintro e w' ⟨rfl,rfl⟩)|(go_at_call 140;refine(HS.out _).mono ?_;rintro e w' ⟨rfl,rfl⟩))
 refine wp_loop_rounds 3 ?_
 rw [rounds_succ]
 go_wp2
 rw [rounds_succ]
 go_wp2
 rw [rounds_succ]
 go_wp2_with (go_at_call 170;refine(lead_is 3 224 rfl (by omega) (by omega) _).mono ?_;rintro e w' ⟨rfl,rfl⟩)
 go_ret
 exact⟨rfl,(Below.refl _ _).alloc (Nat.le_refl _) _⟩
set_option maxHeartbeats 2000000 in
theorem put_one (h:okS r=true)(h0:0≤r)(h1:r<128):Calls Tryz.prog 123 #[.int .i32 r] w fun e w'=>e= .returned (.string (strOfNums [r]))∧Below w.heap.size w w':=by
 have H:=Lib.hid (fun w=>valid_any r w)
 rw [h]at H
 have HS:=Lib.hid (size_is r 1 (by unfold putS scal putI;rw [if_pos h,if_pos (by omega)];rfl))
 clear h
 have K:=run_convert_bytes_arg (P:= Tryz.prog) ((w.alloc (.cells #[.int .u8 r,.int .u8 0,.int .u8 0,.int .u8 0] 227)).alloc (.cells #[.int .u8 r] 5)) 167 5 Tryz.underlying167 Tryz.underlying5 w.heap.size 0 1 4 [r] rfl (fun i hi=>by
  obtain rfl:i=0:=by omega
  simp) 9 Tryz.underlying9
 go_enter Tryz.func123,Tryz.ntmps123
 go_wp2_with (first|(go_at_call 141;refine(H.out _).mono ?_;rintro e w' ⟨rfl,rfl⟩)|(go_at_call 140;refine(HS.out _).mono ?_;rintro e w' ⟨rfl,rfl⟩))
 go_ret
 exact⟨rfl,((Below.refl _ _).alloc (Nat.le_refl _) _).alloc (by simp [World.size_alloc]) _⟩
theorem put_any (h0: -2147483648≤r)(h1:r≤2147483647):Calls Tryz.prog 123 #[.int .i32 r] w fun e w'=>e= .returned (.string (strOfNums (putS r)))∧Below w.heap.size w w':=by
 by_cases h:okS r=true
 ·have hr:=(okS_iff r).1 h
  unfold putS scal putI
  rw [if_pos h]
  by_cases c1:r<128
  ·rw [if_pos c1];exact put_one r w h (by omega) c1
  ·rw [if_neg c1]
   by_cases c2:r<2048
   ·rw [if_pos c2];exact put_two r w h (by omega) c2
   ·rw [if_neg c2]
    by_cases c3:r<65536
    ·rw [if_pos c3];exact put_three r w h (by omega) c3
    ·rw [if_neg c3];exact put_four r w h (by omega) (by omega)
 ·rw [Bool.not_eq_true]at h
  have e:putS r=[239,191,189]:=by unfold putS scal;rw [if_neg (by simp [h])];rfl
  rw [e]
  exact put_no r w h
end
open Go.RowKit
def upToU (p:Nat→Int)(k:Nat):List Int:=(List.range k).map p
theorem upTo_succ (p:Nat→Int)(k:Nat):upToU p (k+1)=upToU p k++[p k]:=by simp [upToU,List.range_succ]
theorem enc_succ (p:Nat→Int)(k:Nat):encU (upToU p (k+1))=encU (upToU p k)++putS (p k):=by
 rw [upTo_succ,encI_append];simp [encU]
theorem upTo_len (p:Nat→Int)(k:Nat):(upToU p k).length=k:=by simp [upToU]
theorem str_append (a b:List Int):strOfNums a++strOfNums b=strOfNums (a++b):=by
 apply ByteArray.ext
 simp [strOfNums]
def TellsS (l:List Int)(w:World)(e:Ending)(w':World):Prop:=e= .returned (.string (strOfNums l))∧Below w.heap.size w w'
set_option maxHeartbeats 1000000 in
theorem renc_any (A:Option Addr)(n c:Nat)(p:Nat→Int)(w:World)(hn:n≤1000000)(hA:Rd w A n (iv p))(hp:∀j,j<n→ -2147483648≤p j∧p j≤2147483647):
  Calls Tryz.prog 67 #[.slice A n c] w (TellsS (encU (upToU p n)) w):=by
 have HA:=Lib.hid hA
 have HP:=Lib.hid hp
 clear hA hp
 go_enter Tryz.func67,Tryz.ntmps67
 go_wp2
 go_loopw [3,4] (fun s i wr=>∃k:Nat,k≤n∧i= .int .i64 k∧s= .string (strOfNums (encU (upToU p k)))∧Below w.heap.size w wr) (fun _ i _=>n -(intOf i).toNat)
 case atStart=>exact⟨0,Nat.zero_le _,rfl,rfl,Below.refl _ _⟩
 case round=>
  obtain⟨k,hk,rfl,rfl,hb⟩:=hrel
  by_cases hlt:k<n
  ·obtain⟨b,o,rfl,hbl,hc⟩:=HA.out.later hb k hlt
   unfold iv at hc
   have hrng:=HP.out k hlt
   have h0:=hrng.1
   have h1:=hrng.2
   have hl1:=encU_len (upToU p k)
   rw [upTo_len]at hl1
   have hl2:=(putS_range (p k)).2.2
   have HL:=Lib.hid (fun wx=>run_string_add_sum (P:= Tryz.prog) wx (strOfNums (encU (upToU p k))) (strOfNums (putS (p k))) (by rw [strOfNums_size,strOfNums_size];omega))
   have HB:=Lib.hid hb
   clear hrng hl1 hl2 hb
   go_wp2_with (go_at_call 66;refine(rput_any _ _ h0 h1).mono ?_;rintro e w1 ⟨rfl,hb1⟩;have hs:=HL.out w1)
   go_roundw
   case rel=>exact⟨k+1,by omega,by go_num,by rw [str_append,←enc_succ],HB.out.trans (hb1.mono HB.out.size)⟩
   case measure=>simp [intOf];omega
  ·obtain rfl:k=n:=by omega
   go_wp2
   go_ret
   exact⟨rfl,hb⟩
end Go.Proofs.YtlopleeopnnoeaaGreat
