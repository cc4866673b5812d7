import Derived.Test.YtlopleeopnnoeaaGreatMy03
import Derived.Test.YtlopleeopnnoeaaGreatMb22
import Derived.Test.YtlopleeopnnoeaaGreatMy02
set_option linter.unusedVariables false
set_option linter.unusedSimpArgs false
namespace Go.Proofs.YtlopleeopnnoeaaGreat
open Go.RowKit
theorem whole_rng (s:DS)(b:Int)(h:s.Ok)(h0:¬s.n=0):0≤wholeD s b∧wholeD s b<8388608:=by
 have hr:2≤rowN s.h0:=by
  rcases h.2 with h|h|h|h<;>omega
 obtain⟨r0,r1,_⟩:=row_bits s.h0 hr
 unfold wholeD
 split
 ·omega
 ·split<;>omega
theorem step_rng (s:DS)(b:Int)(h:s.Ok)(b0:0≤b)(b1:b≤255):∀x∈(stepD s b).2,0≤x∧x<8388608:=by
 have hb:∀x∈(beginD b).2,0≤x∧x<8388608:=by
  unfold beginD
  split
  ·simp
  ·split
   ·simp;omega
   ·simp
 unfold stepD
 split
 ·exact hb
 ·split
  ·split
   ·have:=whole_rng s b h ‹_›
    simp;omega
   ·split<;>simp
  ·intro x hx
   simp only [List.mem_cons]at hx
   rcases hx with rfl|hx
   ·omega
   ·exact hb x hx
theorem decF_rng:∀ (l:List Int) (s:DS),s.Ok→(∀b∈l,0≤b∧b≤255)→∀x∈decF s l,0≤x∧x<8388608
 |[],s,_,_,x,hx=>by
  simp only [decF,endD]at hx
  split at hx
  ·simp at hx
  ·simp at hx;omega
 |b::l,s,hs,hb,x,hx=>by
  simp only [decF,List.mem_append]at hx
  rcases hx with hx|hx
  ·exact step_rng s b hs (hb b (by simp)).1 (hb b (by simp)).2 x hx
  ·exact decF_rng l _ (stepD_ok s b hs (hb b (by simp)).1 (hb b (by simp)).2) (fun c hc=>hb c (by simp [hc])) x hx
theorem dec_rng (s:ByteArray)(j:Nat)(hj:j<(decD (bts s)).length): -2147483648≤(decD (bts s)).getD j 0∧(decD (bts s)).getD j 0≤2147483647:=by
 have h:=decF_rng (bts s) DS.zero zero_ok (bts_range s) ((decD (bts s)).getD j 0) (by
  rw [←decD_is]
  rw [show (decD (bts s)).getD j 0=(decD (bts s))[j]by simp [List.getD,List.getElem?_eq_getElem hj]]
  exact List.getElem_mem hj)
 omega
theorem dec_len (s:ByteArray):(decD (bts s)).length≤2*s.size+1:=by
 have h:=runD_len (bts s)
 rw [bts_length]at h
 simp only [decD,List.length_append,endD]
 split<;>simp<;>omega
theorem dec_sc (s:ByteArray):Sc (decD (bts s)):=fun x hx=>by
 obtain⟨j,hj,rfl⟩:=List.getElem_of_mem hx
 have:=dec_rng s j hj
 rwa [show (decD (bts s)).getD j 0=(decD (bts s))[j]by simp [List.getD,hj]]at this
theorem dec_li {s:ByteArray}{w:World}{A:Option Addr}(h:Rd w A (decD (bts s)).length (li (decD (bts s)))):Li 1 encC w (fun _=>True) A (decD (bts s)):=by
 have:=li_of_rd (f:=fun j=>(decD (bts s)).getD j 0) h
 rwa [show (List.range (decD (bts s)).length).map (fun j=>(decD (bts s)).getD j 0)=decD (bts s)from by
  apply List.ext_getElem (by simp)
  intro j h1 h2
  simp [List.getD,h2]]at this
set_option maxHeartbeats 16000000 in
theorem decode_any (s:ByteArray)(w:World)(hsz:s.size≤1000000000):
  Calls Tryz.prog 75 #[.string s] w fun e w'=>∃A c,e= .returned (.slice A (decD (bts s)).length c)∧Rd w' A (decD (bts s)).length (li (decD (bts s)))∧Below w.heap.size w w'∧(decD (bts s)).length≤c∧c≤9223372036854775807:=by
 go_enter Tryz.func75,Tryz.ntmps75
 go_wp2
 go_loopw [4,11] (fun out i wr=>∃k:Nat,k≤s.size∧i= .int .i64 k∧Fed w (runD ((bts s).take k)) out wr) (fun _ i _=>s.size -(intOf i).toNat)
 case atStart=>exact⟨0,Nat.zero_le _,rfl,World.ownsRow_nil _ _ _ _,blk_new _ _ _,(Below.refl _ _).alloc (Nat.le_refl _) _⟩
 case round=>
  obtain⟨k,hk,rfl,hown,hB,hbw⟩:=hrel
  have hok:=runD_ok ((bts s).take k) (fun b hb=>bts_range s b (List.mem_of_mem_take hb))
  have hlen:=runD_len ((bts s).take k)
  have htl:((bts s).take k).length≤k:=List.length_take_le _ _
  by_cases hlt:k<s.size
  ·have hb0:0≤(s[k].toNat:Int):=by omega
   have hb1:(s[k].toNat:Int)≤255:=by have:=s[k].toNat_lt;omega
   have hnx:=runD_snoc ((bts s).take k) (s[k].toNat:Int)
   rw [←bts_take_succ s k hlt]at hnx
   obtain⟨⟨⟨h0,h1,h2,m⟩,ou⟩,hru⟩:∃r,runD ((bts s).take k)=r:=⟨_,rfl⟩
   rw [hru]at hown hB hok hnx hlen
   obtain⟨⟨⟨x,y,z,n⟩,l⟩,hst⟩:∃r,stepD ⟨h0,h1,h2,m⟩ (s[k].toNat:Int)=r:=⟨_,rfl⟩
   simp only [hst]at hnx hown hB hlen
   have Hs:=Lib.hid (fun w=>step_k h0 h1 h2 m (s[k].toNat:Int) hok hb0 hb1 hst w)
   have Hn:=Lib.hid hnx
   clear hok hnx hru hst
   obtain⟨hz,kB,jB⟩:=(show _ from hB)
   go_wp2_with fail
   go_cut [6,7,8] (fun v6 v7 v8 wx=>Stp wr x y z n l v6 v7 v8 wx)
   case first=>
    have fz:∀j,wr.frozen? ⟨wr.heap.size,j,none⟩=false:=fun j=>by simp [World.frozen?]
    have fz1:∀j,wr.frozen? ⟨wr.heap.size+1,j,none⟩=false:=fun j=>by simp [World.frozen?]
    clear hown hbw hlen htl Hn
    go_region_with (go_at_call 121;refine(Hs.out _).mono ?_;rintro e w1 ⟨p,q,kk,rfl,hl,hb1⟩;obtain⟨gc,gf⟩:=below_cell hb1;have gz:=hb1.size;have gy2:wr.heap.size<wr.heap.size+1+1:=(by omega);have gy3:wr.heap.size+1<wr.heap.size+1+1:=(by omega);simp only [World.size_drew,World.size_alloc]at gz;(try have gy:wr.heap.size<w1.heap.size:=by omega);(try have gy1:wr.heap.size+1<w1.heap.size:=by omega);have n00:=gc (wr.heap.size) 0;have f00:=gf (wr.heap.size) 0;try simp [gy2,gy3]at n00;try simp [frozen?_alloc_cells,fz,fz1,gy2,gy3]at f00;have n01:=gc (wr.heap.size) 1;have f01:=gf (wr.heap.size) 1;try simp [gy2,gy3]at n01;try simp [frozen?_alloc_cells,fz,fz1,gy2,gy3]at f01;have n02:=gc (wr.heap.size) 2;have f02:=gf (wr.heap.size) 2;try simp [gy2,gy3]at n02;try simp [frozen?_alloc_cells,fz,fz1,gy2,gy3]at f02;have n03:=gc (wr.heap.size) 3;have f03:=gf (wr.heap.size) 3;try simp [gy2,gy3]at n03;try simp [frozen?_alloc_cells,fz,fz1,gy2,gy3]at f03;have n10:=gc (wr.heap.size+1) 0;have f10:=gf (wr.heap.size+1) 0;try simp [gy2,gy3]at n10;try simp [frozen?_alloc_cells,fz,fz1,gy2,gy3]at f10;have n11:=gc (wr.heap.size+1) 1;have f11:=gf (wr.heap.size+1) 1;try simp [gy2,gy3]at n11;try simp [frozen?_alloc_cells,fz,fz1,gy2,gy3]at f11;have n12:=gc (wr.heap.size+1) 2;have f12:=gf (wr.heap.size+1) 2;try simp [gy2,gy3]at n12;try simp [frozen?_alloc_cells,fz,fz1,gy2,gy3]at f12;have n13:=gc (wr.heap.size+1) 3;have f13:=gf (wr.heap.size+1) 3;try simp [gy2,gy3]at n13;try simp [frozen?_alloc_cells,fz,fz1,gy2,gy3]at f13;clear gc gf;have hbw1:Below wr.heap.size wr w1:=below_from (by go_grown) hb1;clear hb1)
    all_goals (go_wp2_with fail;go_meet;refine⟨_,_,p,q,kk,_,rfl,rfl,rfl,⟨hl.out.1,rfl,hl.out.2⟩,⟨?_,?_,?_,?_⟩,⟨?_,?_⟩,⟨?_,?_,?_,?_⟩,?_⟩<;>first|(simp;done)|(simp [*];done)|(simp;omega)|(go_grown;done)|(go_cell;done))
   case rest=>
    obtain⟨g2,g3,p,q,kk,kz,rfl,rfl,rfl,hl,⟨c0,c1,c2,c3⟩,⟨e0,e1⟩,⟨hg2,hg3,hg4,hg5⟩,hbx⟩:=hcut
    obtain⟨rfl,rfl⟩|⟨rfl,rfl⟩|⟨rfl,rfl⟩:(kk=0∧kz=0)∨(kk=1∧kz=1)∨(kk=2∧kz=2):=by have h1:=hl.out.1;have h2:=hl.out.2.1;omega
    ·obtain rfl:l=[]:=hl.out.2.2.symm
     have howc:=own_later hown hbx
     have hBx:=hB.later hbx hz
     have hbwc:Below w.heap.size w wc:=hbw.trans (hbx.mono hbw.size)
     have hsrc:Rd wc (some ⟨g3,0,none⟩) 0 (fun j=> .int .i32 ([p,q].getD j 0)):=by
      intro j hj
      refine⟨g3,0,rfl,hg4,?_⟩
      obtain rfl|rfl:j=0∨j=1:=by omega
      ·simpa using e0
      ·simpa using e1
     have HS:=Lib.hid hsrc
     have HX:=Lib.hid howc
     have HBx:=Lib.hid hBx
     have HC:=Lib.hid (And.intro (And.intro c0 c1) (And.intro c2 c3))
     have hlt4:∀g,u4.ownBlock=some g→g<wr.heap.size:=fun g h=>(hown.lt g h).2
     have HG:=Lib.hid hlt4
     clear howc hBx hsrc kB jB hB hown hlt4
     go_wp2_with (at_builtin;refine wpList_cat eltI HX.out (by have:=hbwc.size;have:=hbw.size;omega) rfl rfl rfl rfl HS.out (fun h=>by cases h) (fun j _=>rfl) (by unfold maxLen;omega) (by omega) ?_;intro A3 v3 w3 hp;have HP:=Lib.hid hp;have hne:some g2≠u4.ownBlock:=(fun e=>by have:=HG.out g2 e.symm;omega);have hne0:some w.heap.size≠u4.ownBlock:=(fun e=>by have:=(HX.out.lt _ e.symm).1;omega);have B3:=HBx.out.grown hp.grown hne0;have hb3:Below w.heap.size w w3:=hbwc.grown hp.grown hbwc.size (fun k hk=>by have:=(HX.out.lt k hk).1;omega);have D0:=hp.grown.cell HC.out.1.1 hne;have D1:=hp.grown.cell HC.out.1.2 hne;have D2:=hp.grown.cell HC.out.2.1 hne;have D3:=hp.grown.cell HC.out.2.2 hne;obtain⟨z3,k3,j3⟩:=(show _ from B3);clear hne hne0 hp c0 c1 c2 c3 e0 e1)
     go_roundw
     case rel=>exact⟨k+1,by omega,by go_num,fed_next (r:=(⟨h0,h1,h2,m⟩,ou)) (l:=[]) HP.out.own B3 hb3 Hn.out⟩
     case measure=>simp [intOf];omega
    ·obtain rfl:l=[p]:=hl.out.2.2.symm
     have howc:=own_later hown hbx
     have hBx:=hB.later hbx hz
     have hbwc:Below w.heap.size w wc:=hbw.trans (hbx.mono hbw.size)
     have hsrc:Rd wc (some ⟨g3,0,none⟩) 1 (fun j=> .int .i32 ([p,q].getD j 0)):=by
      intro j hj
      refine⟨g3,0,rfl,hg4,?_⟩
      obtain rfl|rfl:j=0∨j=1:=by omega
      ·simpa using e0
      ·simpa using e1
     have HS:=Lib.hid hsrc
     have HX:=Lib.hid howc
     have HBx:=Lib.hid hBx
     have HC:=Lib.hid (And.intro (And.intro c0 c1) (And.intro c2 c3))
     have hlt4:∀g,u4.ownBlock=some g→g<wr.heap.size:=fun g h=>(hown.lt g h).2
     have HG:=Lib.hid hlt4
     clear howc hBx hsrc kB jB hB hown hlt4
     go_wp2_with (at_builtin;refine wpList_cat eltI HX.out (by have:=hbwc.size;have:=hbw.size;omega) rfl rfl rfl rfl HS.out (fun h=>by cases h) (fun j _=>rfl) (by unfold maxLen;omega) (by omega) ?_;intro A3 v3 w3 hp;have HP:=Lib.hid hp;have hne:some g2≠u4.ownBlock:=(fun e=>by have:=HG.out g2 e.symm;omega);have hne0:some w.heap.size≠u4.ownBlock:=(fun e=>by have:=(HX.out.lt _ e.symm).1;omega);have B3:=HBx.out.grown hp.grown hne0;have hb3:Below w.heap.size w w3:=hbwc.grown hp.grown hbwc.size (fun k hk=>by have:=(HX.out.lt k hk).1;omega);have D0:=hp.grown.cell HC.out.1.1 hne;have D1:=hp.grown.cell HC.out.1.2 hne;have D2:=hp.grown.cell HC.out.2.1 hne;have D3:=hp.grown.cell HC.out.2.2 hne;obtain⟨z3,k3,j3⟩:=(show _ from B3);clear hne hne0 hp c0 c1 c2 c3 e0 e1)
     go_roundw
     case rel=>exact⟨k+1,by omega,by go_num,fed_next (r:=(⟨h0,h1,h2,m⟩,ou)) (l:=[p]) HP.out.own B3 hb3 Hn.out⟩
     case measure=>simp [intOf];omega
    ·obtain rfl:l=[p,q]:=hl.out.2.2.symm
     have howc:=own_later hown hbx
     have hBx:=hB.later hbx hz
     have hbwc:Below w.heap.size w wc:=hbw.trans (hbx.mono hbw.size)
     have hsrc:Rd wc (some ⟨g3,0,none⟩) 2 (fun j=> .int .i32 ([p,q].getD j 0)):=by
      intro j hj
      refine⟨g3,0,rfl,hg4,?_⟩
      obtain rfl|rfl:j=0∨j=1:=by omega
      ·simpa using e0
      ·simpa using e1
     have HS:=Lib.hid hsrc
     have HX:=Lib.hid howc
     have HBx:=Lib.hid hBx
     have HC:=Lib.hid (And.intro (And.intro c0 c1) (And.intro c2 c3))
     have hlt4:∀g,u4.ownBlock=some g→g<wr.heap.size:=fun g h=>(hown.lt g h).2
     have HG:=Lib.hid hlt4
     clear howc hBx hsrc kB jB hB hown hlt4
     go_wp2_with (at_builtin;refine wpList_cat eltI HX.out (by have:=hbwc.size;have:=hbw.size;omega) rfl rfl rfl rfl HS.out (fun h=>by cases h) (fun j _=>rfl) (by unfold maxLen;omega) (by omega) ?_;intro A3 v3 w3 hp;have HP:=Lib.hid hp;have hne:some g2≠u4.ownBlock:=(fun e=>by have:=HG.out g2 e.symm;omega);have hne0:some w.heap.size≠u4.ownBlock:=(fun e=>by have:=(HX.out.lt _ e.symm).1;omega);have B3:=HBx.out.grown hp.grown hne0;have hb3:Below w.heap.size w w3:=hbwc.grown hp.grown hbwc.size (fun k hk=>by have:=(HX.out.lt k hk).1;omega);have D0:=hp.grown.cell HC.out.1.1 hne;have D1:=hp.grown.cell HC.out.1.2 hne;have D2:=hp.grown.cell HC.out.2.1 hne;have D3:=hp.grown.cell HC.out.2.2 hne;obtain⟨z3,k3,j3⟩:=(show _ from B3);clear hne hne0 hp c0 c1 c2 c3 e0 e1)
     go_roundw
     case rel=>exact⟨k+1,by omega,by go_num,fed_next (r:=(⟨h0,h1,h2,m⟩,ou)) (l:=[p,q]) HP.out.own B3 hb3 Hn.out⟩
     case measure=>simp [intOf];omega
  ·obtain rfl:k=s.size:=by omega
   have htk:(bts s).take s.size=bts s:=List.take_of_length_le (by rw [bts_length];exact Nat.le_refl _)
   rw [htk]at hown hB hok hlen
   have hdec:decD (bts s)=(runD (bts s)).2++endD (runD (bts s)).1:=rfl
   obtain⟨⟨⟨h0,h1,h2,m⟩,ou⟩,hru⟩:∃r,runD (bts s)=r:=⟨_,rfl⟩
   rw [hru]at hown hB hok hlen hdec
   simp only at hown hB hlen hdec
   have HD:=Lib.hid hdec
   have hz:=hB.1
   obtain⟨_,kB,jB⟩:=(show _ from hB)
   have hm:0≤m:=by have:=hok.2;simp only at this;omega
   have hle:(bts s).length≤s.size:=by rw [bts_length];exact Nat.le_refl _
   clear hru hdec htk htl hok hB
   by_cases hm0:m=0
   ·subst hm0
    have hE:decD (bts s)=ou:=by rw [HD.out];simp [endD]
    have HE:=Lib.hid hE
    have HO:=Lib.hid hown
    clear hE hown
    go_wp2_with (first
     |(go_at_call 122;refine(end_none _ _ _ _).mono ?_;rintro e w1 ⟨rfl,hb1⟩)
     |(at_builtin;refine wpList_cat eltI (own_later HO.out hb1) (by have:=hb1.size;omega) rfl rfl rfl rfl (Rd.empty w1 none (fun _=> .int .i32 0)) (fun _=>⟨rfl,rfl⟩) (fun j hj=>absurd hj (by omega)) (by unfold maxLen;omega) (by omega) ?_;intro A3 v3 w3 hp))
    go_ret
    have hb3:=hp.grown
    refine⟨A3,v3,by rw [HE.out];rfl,?_,?_,?_⟩
    ·rw [HE.out]
     exact rd_own (by simpa using hp.own) (fun j hj=>by simp [li,hj])
    ·exact(hbw.trans (hb1.mono hbw.size)).grown hp.grown (Nat.le_trans hbw.size hb1.size) (fun k hk=>by have:=((own_later HO.out hb1).lt k hk).1;omega)
    ·rw [HE.out]
     have h9:=own_caps hp.own
     (try simp only [List.length_append,List.length_cons,List.length_nil]at h9)
     (try simp only [List.length_append,List.length_cons,List.length_nil])
     omega
   ·have hE:decD (bts s)=ou++[65533]:=by rw [HD.out];simp [endD,hm0]
    have HE:=Lib.hid hE
    have HO:=Lib.hid hown
    have hm1:0<m:=by omega
    clear hE hown hm0
    go_wp2_with (first
     |(go_at_call 122;refine(end_some _ _ _ _ hm1 _).mono ?_;rintro e w1 ⟨A1,rfl,hr1,hb1⟩;have HR1:=Lib.hid hr1;clear hr1)
     |(at_builtin;refine wpList_cat eltI (own_later HO.out hb1) (by have:=hb1.size;omega) rfl rfl rfl rfl HR1.out (fun h=>by cases h) (fun j _=>rfl) (by unfold maxLen;omega) (by omega) ?_;intro A3 v3 w3 hp))
    go_ret
    refine⟨A3,v3,by rw [HE.out,List.length_append];rfl,?_,?_,?_⟩
    ·rw [HE.out,List.length_append]
     refine rd_own hp.own (fun j hj=> ?_)
     have e1:(List.range 1).map (li [65533])=[Value.int .i32 65533]:=rfl
     rw [e1,show [Value.int .i32 65533]=[65533].map (Value.int .i32)from rfl,←List.map_append,List.getElem?_map]
     simp only [List.length_cons,List.length_nil]at hj
     rw [List.getElem?_eq_getElem (by simp;omega)]
     simp [li,List.getD,List.getElem?_eq_getElem (show j<(ou++[65533]).length by simp;omega)]
    ·exact(hbw.trans (hb1.mono hbw.size)).grown hp.grown (Nat.le_trans hbw.size hb1.size) (fun k hk=>by have:=((own_later HO.out hb1).lt k hk).1;omega)
    ·rw [HE.out]
     have h9:=own_caps hp.own
     (try simp only [List.length_append,List.length_cons,List.length_nil]at h9)
     (try simp only [List.length_append,List.length_cons,List.length_nil])
     omega
def Tells (v:Value)(w:World)(e:Ending)(w':World):Prop:=e= .returned v∧w=w'
def Told (v:Value)(w:World)(e:Ending)(w':World):Prop:=e= .returned v∧∃k,w'=w.drewN k
theorem long_any (c:Int)(w:World):Calls Tryz.prog 175 #[.int .u8 c] w (Tells (.int .i64 (longI c)) w):=by
 by_cases h1:c<128
 ·have E:=Lib.hid (show longI c=1 by simp [longI,h1])
  go_enter Tryz.func175,Tryz.ntmps175
  go_wp2
  go_ret
  rw [E.out];exact⟨rfl,rfl⟩
 ·by_cases h2:c<224
  ·have E:=Lib.hid (show longI c=2 by simp [longI,h1,h2])
   go_enter Tryz.func175,Tryz.ntmps175
   go_wp2
   go_ret
   rw [E.out];exact⟨rfl,rfl⟩
  ·by_cases h3:c<240
   ·have E:=Lib.hid (show longI c=3 by simp [longI,h1,h2,h3])
    go_enter Tryz.func175,Tryz.ntmps175
    go_wp2
    go_ret
    rw [E.out];exact⟨rfl,rfl⟩
   ·have E:=Lib.hid (show longI c=4 by simp [longI,h1,h2,h3])
    go_enter Tryz.func175,Tryz.ntmps175
    go_wp2
    go_ret
    rw [E.out];exact⟨rfl,rfl⟩
theorem may_first (s:ByteArray)(h:0<s.size)(c:Int)(hc:(s[0].toNat:Int)=c)(x1 x2 x3:Bool)(d1:decide (c<128)=x1)(d2:decide (194≤c)=x2)(d3:decide (c≤244)=x3)(w:World):
  Calls Tryz.prog 176 #[.string s,.int .i64 0] w (Told (.bool (x1||(x2&&x3))) w):=by
 cases x1<;>cases x2<;>cases x3
 all_goals
  go_enter Tryz.func176,Tryz.ntmps176
  go_wp2
  go_quiet (fail)
  go_wp2
  go_ret
  exact⟨rfl,_,rfl⟩
set_option maxHeartbeats 2000000 in
theorem may_later (s:ByteArray)(i:Nat)(h:i<s.size)(h0:0<s.size)(c b:Int)(hc:(s[0].toNat:Int)=c)(hb:(s[i].toNat:Int)=b)(y u1 u2 u3 u4 t1 t2:Bool)(lo hi:Int)
  (dz:((i:Int)==0)=false) (dy:((i:Int)==1)=y) (e1:(c==224)=u1) (e2:(c==237)=u2) (e3:(c==240)=u3) (e4:(c==244)=u4)
  (hx:(u1&&(u2||u3||u4))=false∧(u2&&(u3||u4))=false∧(u3&&u4)=false)
  (hlo:lo=bif y&&u1 then 160 else bif y&&u3 then 144 else 128) (hhi:hi=bif y&&u2 then 159 else bif y&&u4 then 143 else 191)
  (f1:decide (lo≤b)=t1) (f2:decide (b≤hi)=t2) (w:World):
  Calls Tryz.prog 176 #[.string s,.int .i64 i] w (Told (.bool (t1&&t2)) w):=by
 cases y<;>cases u1<;>cases u2<;>cases u3<;>cases u4<;>simp at hx<;>simp at hlo hhi<;>subst hlo<;>subst hhi<;>cases t1<;>cases t2
 all_goals
  go_enter Tryz.func176,Tryz.ntmps176
  go_wp2
  go_quiet (fail)
  go_wp2
  go_ret
  exact⟨rfl,_,rfl⟩
theorem bts_at (s:ByteArray)(i:Nat)(h:i<s.size):(bts s).getD i 0=(s[i].toNat:Int):=by
 have hl:i<s.data.toList.length:=by simpa using h
 simp only [bts,List.getD,List.getElem?_map]
 rw [List.getElem?_eq_getElem hl]
 rfl
theorem may_any (s:ByteArray)(i:Nat)(h:i<s.size):∃r:Bool,(r=true↔MayI ((bts s).getD 0 0) i ((bts s).getD i 0))∧∀w,Calls Tryz.prog 176 #[.string s,.int .i64 i] w (Told (.bool r) w):=by
 have h0:0<s.size:=by omega
 rw [bts_at s 0 h0,bts_at s i h]
 by_cases hi:i=0
 ·subst hi
  refine⟨_,?_,fun w=>may_first s h0 _ rfl _ _ _ rfl rfl rfl w⟩
  simp [MayI]
 ·refine⟨_,?_,fun w=>may_later s i h h0 _ _ rfl rfl _ _ _ _ _ _ _ _ _ (by simp;omega) rfl rfl rfl rfl rfl ?_ rfl rfl rfl rfl w⟩
  ·generalize (s[0].toNat:Int)=c
   generalize (s[i].toNat:Int)=b
   simp only [MayI,if_neg hi]
   by_cases h1:i=1
   ·subst h1
    by_cases g1:c=224
    ·subst g1;simp
    ·by_cases g2:c=237
     ·subst g2;simp
     ·by_cases g3:c=240
      ·subst g3;simp
      ·by_cases g4:c=244
       ·subst g4;simp
       ·simp [g1,g2,g3,g4,show (c==224)=false by simpa using g1,show (c==237)=false by simpa using g2,show (c==240)=false by simpa using g3,show (c==244)=false by simpa using g4]
   ·have hj:((i:Int)==1)=false:=by simp;omega
    simp [h1,hj]
  ·generalize (s[0].toNat:Int)=c
   simp only [Bool.and_eq_false_iff,Bool.or_eq_false_iff,beq_eq_false_iff_ne,ne_eq]
   refine⟨?_,?_,?_⟩<;>omega
def Cont (L:List Int)(n:Nat):Prop:=n<L.length∧(n:Int)<longI (L.getD 0 0)∧MayI (L.getD 0 0) n (L.getD n 0)
def RowIs0 (L:List Int)(n:Nat)(wh:Bool):Prop:=n≤L.length∧(∀j,j<n→Cont L j)∧¬Cont L n∧(wh=true↔0<n∧(n:Int)=longI (L.getD 0 0))
def RowSaid (L:List Int)(w:World)(e:Ending)(w':World):Prop:=
 ∃ (n:Nat) (wh:Bool),e= .returned (.tuple #[.int .i64 n,.bool wh])∧RowIs0 L n wh∧∃k,w'=w.drewN k
theorem drewN_drewN (w:World)(a b:Nat):∃k,(w.drewN a).drewN b=w.drewN k:=by
 refine⟨a+b,?_⟩
 induction b with
 |zero=>rfl
 |succ b ih=>simp_all [World.drewN,Nat.add_assoc]
set_option maxHeartbeats 2000000 in
theorem row_said (s:ByteArray)(w:World)(hsz:s.size≤1000000000):Calls Tryz.prog 125 #[.string s] w (RowSaid (bts s) w):=by
 go_enter Tryz.func125,Tryz.ntmps125
 go_wp2
 go_loopw [4] (fun i wr=>∃k:Nat,i= .int .i64 k∧k≤s.size∧(∀j,j<k→Cont (bts s) j)∧∃q,wr=w.drewN q) (fun i _=>s.size -(intOf i).toNat)
 case atStart=>exact⟨0,rfl,Nat.zero_le _,fun j hj=>absurd hj (by omega),0,rfl⟩
 case round=>
  obtain⟨k,rfl,hk,hc,q,rfl⟩:=hrel
  by_cases hlt:k<s.size
  ·have h0:0<s.size:=by omega
   obtain⟨r,hr,Hr⟩:=may_any s k hlt
   have HR:=Lib.hid Hr
   have hc0:=bts_at s 0 h0
   obtain⟨c,hcc⟩:∃c:Int,(s[0].toNat:Int)=c:=⟨_,rfl⟩
   rw [hcc]at hc0
   obtain⟨lg,hlg⟩:∃lg,decide ((k:Int)<longI c)=lg:=⟨_,rfl⟩
   have HC:=Lib.hid (And.intro hc (And.intro hr hc0))
   clear Hr hr hc hc0
   cases lg
   ·have HN:=Lib.hid (show ¬Cont (bts s) k from fun hh=>by
     have h2:=hh.2.1
     rw [HC.out.2.2]at h2
     simp [h2]at hlg)
    go_wp2_with (first
     |(go_at_call 175;refine(long_any _ _).mono ?_;rintro e w1 ⟨rfl,rfl⟩)
     |(go_at_call 176;refine(HR.out _).mono ?_;rintro e w1 ⟨rfl,kq,rfl⟩))
    all_goals
     go_ret2
     refine⟨k,_,rfl,⟨by rw [bts_length];exact hk,HC.out.1,HN.out,?_⟩,_,rfl⟩
     rw [HC.out.2.2]
     simp
     try omega
   ·cases r
    ·have HN:=Lib.hid (show ¬Cont (bts s) k from fun hh=>absurd (HC.out.2.1.2 hh.2.2) (by simp))
     go_wp2_with (first
      |(go_at_call 175;refine(long_any _ _).mono ?_;rintro e w1 ⟨rfl,rfl⟩)
      |(go_at_call 176;refine(HR.out _).mono ?_;rintro e w1 ⟨rfl,kq,rfl⟩))
     all_goals
      go_ret2
      refine⟨k,_,rfl,⟨by rw [bts_length];exact hk,HC.out.1,HN.out,?_⟩,_,rfl⟩
      rw [HC.out.2.2]
      simp
      try omega
    ·have HN:=Lib.hid (show Cont (bts s) k from⟨by rw [bts_length];exact hlt,by rw [HC.out.2.2];simpa using hlg,HC.out.2.1.1 rfl⟩)
     go_wp2_with (first
      |(go_at_call 175;refine(long_any _ _).mono ?_;rintro e w1 ⟨rfl,rfl⟩)
      |(go_at_call 176;refine(HR.out _).mono ?_;rintro e w1 ⟨rfl,kq,rfl⟩))
     go_roundw
     case rel=>
      refine⟨k+1,by go_num,by omega,fun j hj=> ?_,_,rfl⟩
      obtain hj|rfl:j<k∨j=k:=by omega
      ·exact HC.out.1 j hj
      ·exact HN.out
     case measure=>simp [intOf];omega
  ·obtain rfl:k=s.size:=by omega
   have HC:=Lib.hid hc
   clear hc
   have HN:=Lib.hid (show ¬Cont (bts s) s.size from fun hh=>by
     have h2:=hh.1
     rw [bts_length]at h2
     omega)
   by_cases h0:0<s.size
   ·have hc0:=Lib.hid (bts_at s 0 h0)
    obtain⟨c,hcc⟩:∃c:Int,(s[0].toNat:Int)=c:=⟨_,rfl⟩
    rw [hcc]at hc0
    go_wp2_with (go_at_call 175;refine(long_any _ _).mono ?_;rintro e w1 ⟨rfl,rfl⟩)
    go_ret2
    refine⟨s.size,_,rfl,⟨by rw [bts_length];exact Nat.le_refl _,HC.out,HN.out,?_⟩,_,rfl⟩
    rw [hc0.out]
    simp
    try omega
   ·go_wp2_with (go_at_call 175;refine(long_any _ _).mono ?_;rintro e w1 ⟨rfl,rfl⟩)
    go_ret2
    refine⟨s.size,_,rfl,⟨by rw [bts_length];exact Nat.le_refl _,HC.out,HN.out,?_⟩,_,rfl⟩
    simp
    omega
set_option maxHeartbeats 1000000 in
theorem value_1 (s:ByteArray)(hs:s.size=1)(h0:0<s.size)(c:Int)(hc:(s[0].toNat:Int)=c)(c0:0≤c)(c1:c<128)(w:World):
  Calls Tryz.prog 126 #[.string s] w (Tells (.int .i32 c) w):=by
 have hz:((s.size:Int)==1)=true:=by simp [hs]
 go_enter Tryz.func126,Tryz.ntmps126
 go_wp2
 go_ret
 exact⟨rfl,rfl⟩
set_option maxHeartbeats 2000000 in
theorem value_2 (s:ByteArray)(hs:s.size=2)(h0:0<s.size)(h1:1<s.size)(c b:Int)(hc:(s[0].toNat:Int)=c)(g1:(s[1].toNat:Int)=b)(c0:194≤c)(c1:c≤223)(b0:128≤b)(b1:b≤191)(w:World):
  Calls Tryz.prog 126 #[.string s] w (Tells (.int .i32 (64*(c - 192)+b - 128)) w):=by
 have hz1:((s.size:Int)==1)=false:=by simp [hs]
 have hz3:((s.size:Int)==3)=false:=by simp [hs]
 have hz4:((s.size:Int)==4)=false:=by simp [hs]
 go_enter Tryz.func126,Tryz.ntmps126
 go_wp2
 go_loopw [4,5] (fun v i wr=>∃ (k:Nat) (x:Int),i= .int .i64 k∧v= .int .i64 x∧((k=1∧x=c - 192)∨(k=2∧x=64*(c - 192)+b - 128))∧wr=w) (fun _ i _=>8 -(intOf i).toNat)
 case atStart=>exact⟨1,c - 192,rfl,rfl,Or.inl ⟨rfl,rfl⟩,rfl⟩
 case round=>
  obtain⟨k,x,rfl,rfl,hx,rfl⟩:=hrel
  rcases hx with⟨rfl,rfl⟩|⟨rfl,rfl⟩
  ·have hlt:((1:Nat):Int)<(s.size:Int):=by omega
   go_wp2
   go_roundw
   case rel=>exact⟨2,64*(c - 192)+b - 128,by go_num,by go_num,Or.inr (⟨rfl,by omega⟩),by trivial⟩
   case measure=>simp [intOf]
  ·have hlt:¬(((2:Nat):Int)<(s.size:Int)):=by omega
   go_wp2
   go_ret
   exact⟨by go_num,rfl⟩
set_option maxHeartbeats 2000000 in
theorem value_3 (s:ByteArray)(hs:s.size=3)(h0:0<s.size)(h1:1<s.size)(h2:2<s.size)(c b d:Int)(hc:(s[0].toNat:Int)=c)(g1:(s[1].toNat:Int)=b)(g2:(s[2].toNat:Int)=d)(c0:224≤c)(c1:c≤239)(b0:128≤b)(b1:b≤191)(d0:128≤d)(d1:d≤191)(w:World):
  Calls Tryz.prog 126 #[.string s] w (Tells (.int .i32 (64*(64*(c - 224)+b - 128)+d - 128)) w):=by
 have hz1:((s.size:Int)==1)=false:=by simp [hs]
 have hz3:((s.size:Int)==3)=true:=by simp [hs]
 have hz4:((s.size:Int)==4)=false:=by simp [hs]
 go_enter Tryz.func126,Tryz.ntmps126
 go_wp2
 go_loopw [4,5] (fun v i wr=>∃ (k:Nat) (x:Int),i= .int .i64 k∧v= .int .i64 x∧((k=1∧x=c - 224)∨(k=2∧x=64*(c - 224)+b - 128)∨(k=3∧x=64*(64*(c - 224)+b - 128)+d - 128))∧wr=w) (fun _ i _=>8 -(intOf i).toNat)
 case atStart=>exact⟨1,c - 224,rfl,rfl,Or.inl ⟨rfl,rfl⟩,rfl⟩
 case round=>
  obtain⟨k,x,rfl,rfl,hx,rfl⟩:=hrel
  rcases hx with⟨rfl,rfl⟩|⟨rfl,rfl⟩|⟨rfl,rfl⟩
  ·have hlt:((1:Nat):Int)<(s.size:Int):=by omega
   go_wp2
   go_roundw
   case rel=>exact⟨2,64*(c - 224)+b - 128,by go_num,by go_num,Or.inr (Or.inl ⟨rfl,by omega⟩),by trivial⟩
   case measure=>simp [intOf]
  ·have hlt:((2:Nat):Int)<(s.size:Int):=by omega
   go_wp2
   go_roundw
   case rel=>exact⟨3,64*(64*(c - 224)+b - 128)+d - 128,by go_num,by go_num,Or.inr (Or.inr (⟨rfl,by omega⟩)),by trivial⟩
   case measure=>simp [intOf]
  ·have hlt:¬(((3:Nat):Int)<(s.size:Int)):=by omega
   go_wp2
   go_ret
   exact⟨by go_num,rfl⟩
set_option maxHeartbeats 2000000 in
theorem value_4 (s:ByteArray)(hs:s.size=4)(h0:0<s.size)(h1:1<s.size)(h2:2<s.size)(h3:3<s.size)(c b d f:Int)(hc:(s[0].toNat:Int)=c)(g1:(s[1].toNat:Int)=b)(g2:(s[2].toNat:Int)=d)(g3:(s[3].toNat:Int)=f)(c0:240≤c)(c1:c≤244)(b0:128≤b)(b1:b≤191)(d0:128≤d)(d1:d≤191)(f0:128≤f)(f1:f≤191)(w:World):
  Calls Tryz.prog 126 #[.string s] w (Tells (.int .i32 (64*(64*(64*(c - 240)+b - 128)+d - 128)+f - 128)) w):=by
 have hz1:((s.size:Int)==1)=false:=by simp [hs]
 have hz3:((s.size:Int)==3)=false:=by simp [hs]
 have hz4:((s.size:Int)==4)=true:=by simp [hs]
 go_enter Tryz.func126,Tryz.ntmps126
 go_wp2
 go_loopw [4,5] (fun v i wr=>∃ (k:Nat) (x:Int),i= .int .i64 k∧v= .int .i64 x∧((k=1∧x=c - 240)∨(k=2∧x=64*(c - 240)+b - 128)∨(k=3∧x=64*(64*(c - 240)+b - 128)+d - 128)∨(k=4∧x=64*(64*(64*(c - 240)+b - 128)+d - 128)+f - 128))∧wr=w) (fun _ i _=>8 -(intOf i).toNat)
 case atStart=>exact⟨1,c - 240,rfl,rfl,Or.inl ⟨rfl,rfl⟩,rfl⟩
 case round=>
  obtain⟨k,x,rfl,rfl,hx,rfl⟩:=hrel
  rcases hx with⟨rfl,rfl⟩|⟨rfl,rfl⟩|⟨rfl,rfl⟩|⟨rfl,rfl⟩
  ·have hlt:((1:Nat):Int)<(s.size:Int):=by omega
   go_wp2
   go_roundw
   case rel=>exact⟨2,64*(c - 240)+b - 128,by go_num,by go_num,Or.inr (Or.inl ⟨rfl,by omega⟩),by trivial⟩
   case measure=>simp [intOf]
  ·have hlt:((2:Nat):Int)<(s.size:Int):=by omega
   go_wp2
   go_roundw
   case rel=>exact⟨3,64*(64*(c - 240)+b - 128)+d - 128,by go_num,by go_num,Or.inr (Or.inr (Or.inl ⟨rfl,by omega⟩)),by trivial⟩
   case measure=>simp [intOf]
  ·have hlt:((3:Nat):Int)<(s.size:Int):=by omega
   go_wp2
   go_roundw
   case rel=>exact⟨4,64*(64*(64*(c - 240)+b - 128)+d - 128)+f - 128,by go_num,by go_num,Or.inr (Or.inr (Or.inr (⟨rfl,by omega⟩))),by trivial⟩
   case measure=>simp [intOf]
  ·have hlt:¬(((4:Nat):Int)<(s.size:Int)):=by omega
   go_wp2
   go_ret
   exact⟨by go_num,rfl⟩
theorem bts_extract (s:ByteArray)(i j:Nat):bts (s.extract i j)=((bts s).drop i).take (j - i):=by
 simp [bts,ByteArray.data_extract,List.extract_eq_drop_take',List.map_drop,List.map_take]
theorem bts_tail (s:ByteArray)(i:Nat):bts (s.extract i s.size)=(bts s).drop i:=by
 rw [bts_extract,List.take_of_length_le]
 rw [List.length_drop,bts_length]
 exact Nat.le_refl _
theorem longI_pos (c:Int):1≤longI c∧longI c≤4:=by
 unfold longI
 split<;> (try split)<;> (try split)<;>omega
theorem dec_step (c:Int)(t:List Int)(n:Nat)(wh:Bool)(h:RowIs0 (c::t) n wh):
  decF DS.zero (c::t)=(bif wh then valI ((c::t).take n)else 65533)::decF DS.zero ((c::t).drop (bif decide (n=0)then 1 else n)):=by
 obtain⟨hn,hc,hx,hw⟩:=h
 have hp:=longI_pos c
 have hcz:(c::t).getD 0 0=c:=rfl
 rw [hcz]at hw
 by_cases h0:n=0
 ·subst h0
  have hwf:wh=false:=by
   cases wh
   ·rfl
   ·have:=(hw.1 rfl).1;omega
  subst hwf
  have hr:rowN c=0:=by
   by_cases hr:rowN c=0
   ·exact hr
   ·exact absurd ⟨by simp,by rw [hcz];simp;omega,by rw [hcz];exact may_zero.2 hr⟩ hx
  rw [decF_none hr]
  rfl
 ·have hl:(n:Int)≤longI c:=by
   have:=(hc (n - 1) (by omega)).2.1
   rw [hcz]at this
   omega
  have hd:=dec_row c t n (by omega) (by simpa using hn) hl (fun j hj=>by have:=(hc j hj).2.2;rwa [hcz]at this)
  have hz:decide (n=0)=false:=by simp [h0]
  rw [hz]
  cases wh
  ·refine hd.2 ?_ ?_
   ·have:¬(n:Int)=longI c:=fun e=>absurd (hw.2 ⟨by omega,e⟩) (by simp)
    omega
   ·by_cases he:n=t.length+1
    ·exact .inl he
    ·refine .inr fun hm=>hx ⟨by simp at hn ⊢;omega,?_,by rw [hcz];exact hm⟩
     rw [hcz]
     have:¬(n:Int)=longI c:=fun e=>absurd (hw.2 ⟨by omega,e⟩) (by simp)
     omega
  ·exact hd.1 (hw.1 rfl).2
theorem bts_1 (s:ByteArray)(h:s.size=1)(h0:0<s.size):bts s=[(s[0].toNat:Int)]:=by
 have hl:=bts_length s
 rw [h]at hl
 match e:bts s,hl with
 |[a],_=>have:=bts_at s 0 h0;rw [e]at this;simp at this;rw [this]
theorem bts_2 (s:ByteArray)(h:s.size=2)(h0:0<s.size)(h1:1<s.size):bts s=[(s[0].toNat:Int),(s[1].toNat:Int)]:=by
 have hl:=bts_length s
 rw [h]at hl
 match e:bts s,hl with
 |[a,b],_=>have x0:=bts_at s 0 h0;have x1:=bts_at s 1 h1;rw [e]at x0 x1;simp at x0 x1;rw [x0,x1]
theorem bts_3 (s:ByteArray)(h:s.size=3)(h0:0<s.size)(h1:1<s.size)(h2:2<s.size):bts s=[(s[0].toNat:Int),(s[1].toNat:Int),(s[2].toNat:Int)]:=by
 have hl:=bts_length s
 rw [h]at hl
 match e:bts s,hl with
 |[a,b,c],_=>have x0:=bts_at s 0 h0;have x1:=bts_at s 1 h1;have x2:=bts_at s 2 h2;rw [e]at x0 x1 x2;simp at x0 x1 x2;rw [x0,x1,x2]
theorem bts_4 (s:ByteArray)(h:s.size=4)(h0:0<s.size)(h1:1<s.size)(h2:2<s.size)(h3:3<s.size):bts s=[(s[0].toNat:Int),(s[1].toNat:Int),(s[2].toNat:Int),(s[3].toNat:Int)]:=by
 have hl:=bts_length s
 rw [h]at hl
 match e:bts s,hl with
 |[a,b,c,d],_=>have x0:=bts_at s 0 h0;have x1:=bts_at s 1 h1;have x2:=bts_at s 2 h2;have x3:=bts_at s 3 h3;rw [e]at x0 x1 x2 x3;simp at x0 x1 x2 x3;rw [x0,x1,x2,x3]
theorem value_any (s:ByteArray)(h0:0<s.size)(hl:(s.size:Int)=longI ((bts s).getD 0 0))(hm:∀j,j<s.size→MayI ((bts s).getD 0 0) j ((bts s).getD j 0))(w:World):
  Calls Tryz.prog 126 #[.string s] w (Tells (.int .i32 (valI (bts s))) w):=by
 have m0:=hm 0 h0
 rw [bts_at s 0 h0]at hl m0
 have m0:=may_zero.1 m0
 have hp:=longI_pos (s[0].toNat:Int)
 have hq:0≤(s[0].toNat:Int):=by omega
 have hl':=hl
 rw [long_is m0]at hl'
 obtain hs|hs|hs|hs:s.size=1∨s.size=2∨s.size=3∨s.size=4:=by omega
 ·rw [bts_1 s hs h0]
  refine value_1 s hs h0 _ rfl hq ?_ w
  rw [hs]at hl
  revert hl;unfold longI;split<;> (try split)<;> (try split)<;>omega
 ·have h1:1<s.size:=by omega
  have m1:=hm 1 h1
  rw [bts_at s 0 h0,bts_at s 1 h1]at m1
  have k1:=may_cont (by decide) m1
  have r:=rowN_two (c:=(s[0].toNat:Int)) (by omega)
  rw [bts_2 s hs h0 h1]
  refine value_2 s hs h0 h1 _ _ rfl rfl r.1 ?_ k1.1 k1.2 w
  rw [hs]at hl
  revert hl;unfold longI;split<;> (try split)<;> (try split)<;>omega
 ·have h1:1<s.size:=by omega
  have h2:2<s.size:=by omega
  have m1:=hm 1 h1
  have m2:=hm 2 h2
  rw [bts_at s 0 h0,bts_at s 1 h1]at m1
  rw [bts_at s 0 h0,bts_at s 2 h2]at m2
  have k1:=may_cont (by decide) m1
  have k2:=may_cont (by decide) m2
  rw [bts_3 s hs h0 h1 h2]
  rw [hs]at hl
  refine value_3 s hs h0 h1 h2 _ _ _ rfl rfl rfl ?_ ?_ k1.1 k1.2 k2.1 k2.2 w
  ·revert hl;unfold longI;split<;> (try split)<;> (try split)<;>omega
  ·revert hl;unfold longI;split<;> (try split)<;> (try split)<;>omega
 ·have h1:1<s.size:=by omega
  have h2:2<s.size:=by omega
  have h3:3<s.size:=by omega
  have m1:=hm 1 h1
  have m2:=hm 2 h2
  have m3:=hm 3 h3
  rw [bts_at s 0 h0,bts_at s 1 h1]at m1
  rw [bts_at s 0 h0,bts_at s 2 h2]at m2
  rw [bts_at s 0 h0,bts_at s 3 h3]at m3
  have k1:=may_cont (by decide) m1
  have k2:=may_cont (by decide) m2
  have k3:=may_cont (by decide) m3
  have r:=rowN_two (c:=(s[0].toNat:Int)) (by omega)
  rw [bts_4 s hs h0 h1 h2 h3]
  rw [hs]at hl
  refine value_4 s hs h0 h1 h2 h3 _ _ _ _ rfl rfl rfl rfl ?_ r.2 k1.1 k1.2 k2.1 k2.2 k3.1 k3.2 w
  revert hl;unfold longI;split<;> (try split)<;> (try split)<;>omega
def RefD (w:World)(s:ByteArray)(k:Nat)(out:Value)(wr:World):Prop:=
 ∃ou:List Int,wr.ownsRow w.heap.size 21 1 out ou.length (ou.map (Value.int .i32))∧ou.length≤k∧decF DS.zero (bts s)=ou++decF DS.zero ((bts s).drop k)∧Below w.heap.size w wr
set_option maxHeartbeats 4000000 in
theorem refdec_any (s:ByteArray)(w:World)(hsz:s.size≤1000000000):
  Calls Tryz.prog 77 #[.string s] w fun e w'=>∃A c,e= .returned (.slice A (decD (bts s)).length c)∧Rd w' A (decD (bts s)).length (li (decD (bts s)))∧Below w.heap.size w w'∧(decD (bts s)).length≤c∧c≤9223372036854775807:=by
 go_enter Tryz.func77,Tryz.ntmps77
 go_wp2
 go_loopw [3,4] (fun out i wr=>∃k:Nat,k≤s.size∧i= .int .i64 k∧RefD w s k out wr) (fun _ i _=>s.size -(intOf i).toNat)
 case atStart=>exact⟨0,Nat.zero_le _,rfl,[],World.ownsRow_nil _ _ _ _,Nat.le_refl _,rfl,Below.refl _ _⟩
 case round=>
  obtain⟨k,hk,rfl,ou,hown,hou,hde,hbw⟩:=hrel
  by_cases hlt:k<s.size
  ·obtain⟨c,t,eL⟩:∃c t,(bts s).drop k=c::t:=by
    match e:(bts s).drop k with
    |[]=>
     have:=congrArg List.length e
     rw [List.length_drop,bts_length]at this
     simp at this;omega
    |a::l=>exact⟨a,l,rfl⟩
   have HO:=Lib.hid (And.intro hown (And.intro hde hbw))
   clear hown hde hbw
   have hle:k≤s.size:=hk
   go_wp2_with fail
   refine(row_said _ _ (by rw [ByteArray.size_extract];omega)).mono ?_
   rintro e w1 ⟨n,wh,rfl,hri,kq,rfl⟩
   rw [bts_tail,eL]at hri
   have hnl:n≤s.size - k:=by
    have h1:=hri.1
    have h2:=congrArg List.length eL
    rw [List.length_drop,bts_length]at h2
    omega
   have hds:=Lib.hid (dec_step c t n wh hri)
   have hw0:wh=true→0<n:=fun e=>(hri.2.2.2.1 e).1
   have HR:=Lib.hid hri
   clear hri
   have HX:=Lib.hid (own_later HO.out.1 (below_drewN (Below.refl wr.heap.size wr) kq))
   have HB:=Lib.hid (below_drewN HO.out.2.2 kq)
   cases wh
   ·by_cases hn:n=0
    ·subst hn
     go_wp2_with (at_builtin;refine wpList_push eltI HX.out (by have:=HB.out.size;omega) rfl rfl rfl rfl (by simp) rfl rfl (by unfold maxLen;omega) (by omega) ?_;intro A3 v3 w3 hp;have HP:=Lib.hid hp;have hb3:Below w.heap.size w w3:=hp.below HB.out HX.out (Nat.le_refl _);clear hp)
     go_roundw
     case rel=>
      refine⟨k+1,by omega,by go_num,ou++[65533],by simpa using HP.out.own,by simp;omega,?_,hb3⟩
      rw [HO.out.2.1,eL,hds.out,←List.drop_drop,eL]
      simp
     case measure=>simp [intOf];omega
    ·have hz:decide (n=0)=false:=by simp [hn]
     have hz2:((n:Int)==0)=false:=by simp [hn]
     go_wp2_with (at_builtin;refine wpList_push eltI HX.out (by have:=HB.out.size;omega) rfl rfl rfl rfl (by simp) rfl rfl (by unfold maxLen;omega) (by omega) ?_;intro A3 v3 w3 hp;have HP:=Lib.hid hp;have hb3:Below w.heap.size w w3:=hp.below HB.out HX.out (Nat.le_refl _);clear hp)
     go_roundw
     case rel=>
      refine⟨k+n,by omega,by go_num,ou++[65533],by simpa using HP.out.own,by simp;omega,?_,hb3⟩
      rw [HO.out.2.1,eL,hds.out,hz,←List.drop_drop,eL]
      simp
     case measure=>simp [intOf];omega
   ·have hn:0<n:=hw0 rfl
    have hz:decide (n=0)=false:=by simp;omega
    have hz2:((n:Int)==0)=false:=by simp;omega
    have hsz':(s.extract k (k+n)).size=n:=by rw [ByteArray.size_extract];omega
    have hV:bts (s.extract k (k+n))=(c::t).take n:=by rw [bts_extract,eL,show k+n - k=n by omega]
    have hg:∀j,j<n→(bts (s.extract k (k+n))).getD j 0=(c::t).getD j 0:=fun j hj=>by
     rw [hV]
     simp [List.getD,List.getElem?_take,hj]
    have HV:=Lib.hid (fun w=>value_any (s.extract k (k+n)) (by omega) (by rw [hsz',hg 0 hn];exact(HR.out.2.2.2.1 rfl).2) (fun j hj=>by rw [hsz']at hj;rw [hg 0 hn,hg j hj];exact(HR.out.2.1 j hj).2.2) w)
    rw [hV]at HV
    obtain⟨x,hx⟩:∃x,valI ((c::t).take n)=x:=⟨_,rfl⟩
    rw [hx]at HV
    clear hsz' hV hg hw0
    go_wp2_with fail
    refine(HV.out _).mono ?_
    rintro e w2 ⟨rfl,rfl⟩
    go_wp2_with (at_builtin;refine wpList_push eltI HX.out (by have:=HB.out.size;omega) rfl rfl rfl rfl (by simp) rfl rfl (by unfold maxLen;omega) (by omega) ?_;intro A3 v3 w3 hp;have HP:=Lib.hid hp;have hb3:Below w.heap.size w w3:=hp.below HB.out HX.out (Nat.le_refl _);clear hp)
    go_roundw
    case rel=>
     refine⟨k+n,by omega,by go_num,ou++[x],by simpa using HP.out.own,by simp;omega,?_,hb3⟩
     rw [HO.out.2.1,eL,hds.out,hz,hx.symm,←List.drop_drop,eL]
     simp
    case measure=>simp [intOf];omega
  ·obtain rfl:k=s.size:=by omega
   have HO:=Lib.hid (And.intro hown (And.intro hde hbw))
   clear hown hde hbw
   go_wp2_with fail
   go_ret
   have hD:decD (bts s)=ou:=by
    rw [decD_is,HO.out.2.1,List.drop_of_length_le (by rw [bts_length];exact Nat.le_refl _)]
    simp [decF,endD,DS.zero]
   have hx:=HO.out.1
   obtain⟨A,c,rfl⟩:=own_slice hx
   rw [hD]
   refine⟨A,c,rfl,rd_own hx (fun j hj=> ?_),HO.out.2.2,own_caps hx⟩
   rw [List.getElem?_map,List.getElem?_eq_getElem hj]
   simp [li,List.getD,List.getElem?_eq_getElem hj]
end Go.Proofs.YtlopleeopnnoeaaGreat
