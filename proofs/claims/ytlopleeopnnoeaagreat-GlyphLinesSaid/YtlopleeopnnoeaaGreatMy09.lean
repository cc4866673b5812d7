import Derived.Test.YtlopleeopnnoeaaGreatMy04
import Derived.Deep.RegionHeld3
import Derived.Deep.AppendLies
import Derived.Test.YtlopleeopnnoeaaGreatMy07
import Derived.Test.YtlopleeopnnoeaaGreatMy08
set_option linter.unusedVariables false
set_option linter.unusedSimpArgs false
namespace Go.Proofs.YtlopleeopnnoeaaGreat
open Go.RowKit
theorem step_li {α:Type}{enc:α→List Value}{P:Program}{w:World}{ops:Array Oper}{o:Oper}{a:Act}{K:Act→World→Prop}{Q:Exit→Act→World→Prop}{Ep:Prop}{k bytes base n m c:Nat}{t e:TypeId}{v:Value}{xs:List Value}{s x:Operand}{A:Option Addr}{S:Nat→Prop}{M:List α}
  (hk:∀x,(enc x).length=k) (hk1:∀x,∀u∈enc x,u.oneCell'=true) (E:Elt P t e k bytes) (hown:w.ownsRow base e k v n xs) (hbase:base≤w.heap.size) (hgd:o.guard=none) (ho:o.op= .call {callee:= .builtin .append,args:=#[s,x],argTypes:=#[t,t]})
  (hs:a.eval s=v) (hx:a.eval x= .slice A m c) (hL:LiV k enc w S (.slice A m c) M) (h63:n+m≤maxLen) (hbytes:(n+m)*bytes≤140737488355328)
  (h:∀A' c' w',Pushed w w' base e k v (n+m) (xs++flatL enc M) A' c'→K (a.put o.dst (.slice A' (n+m) c')) w'):if Region.wanted o (yielded ops a.tmps)=true then Oper.wp P o a w K Q else Ep:=by
 have hw:Region.wanted o (yielded ops a.tmps)=true:=by simp [Region.wanted,hgd]
 rw [if_pos hw]
 obtain⟨ht,i,z,hi,hz,hsize,hby,hzs,hsz⟩:=E
 obtain⟨rfl,hli,hnil,_,_⟩:=hL.parts
 rcases A with _|ad
 ·obtain⟨h0,rfl⟩:=hnil rfl
  obtain rfl:M=[]:=List.eq_nil_of_length_eq_zero h0
  have hrun:=run_append_owned_none (P:=P) (w:=w) base t o.type e i k ht hi v n xs hown
  obtain⟨A',c',rfl⟩:=own_slice hown
  unfold Oper.wp
  simp [execOp,ho,resolve,invoke,builtin,hs,hx,hrun,Result.andThen]
  exact h A' c' w ⟨by simpa [flatL]using hown,World.grownBy.refl w _,.inl rfl⟩
 ·obtain⟨v',w',hrr,h2,h3,h4,h5⟩:=run_append_own_at (P:=P) w base t o.type e i z k bytes ht hi hz hsize hby hzs hsz v n xs hown ad M.length c (flatL enc M) (flatL_len hk M) (by
   intro j u hj
   obtain⟨q,y,i,h1,h2,rfl⟩:=flatL_inv hk M j u hj
   obtain⟨b,off,e1,_,_,hc⟩:=hli q y h1
   injection e1 with e1
   subst e1
   rw [Addr.add_lit]
   exact hc i u h2) (by
   intro u hu
   obtain⟨y,_,hy⟩:=List.mem_flatMap.1 hu
   exact hk1 y u hy) h63 hbytes hbase
  obtain⟨A',c',rfl⟩:=own_slice h2
  unfold Oper.wp execOp
  simp only [ho,resolve,invoke,builtin,Sem.run_bind,Sem.run_pure,Result.andThen_ok,List.map_toArray,List.map_cons,List.map_nil,hs,hx,hrr]
  refine h A' c' w' ⟨h2,h3,?_⟩
  rcases h5 with e1|e1
  ·exact .inl e1
  ·exact .inr ⟨_,e1,Nat.le_refl _⟩
def readTo (G:GY.Kw)(K:SG.Kinds)(l:List Int)(k:Nat):List (List Int × Int):=((clusL K l).take k).map (GY.wholeG G)
def readG (G:GY.Kw)(K:SG.Kinds)(l:List Int):List (List Int × Int):=readTo G K l (SG.startsP K l).length
theorem readTo_succ {G:GY.Kw}{K:SG.Kinds}{l:List Int}{k:Nat}(hk:k<(SG.startsP K l).length):readTo G K l (k+1)=readTo G K l k++[GY.wholeG G (clusP K l k)]:=by
 unfold readTo
 rw [take_snoc' (x:=clusP K l k) (by rw [←clusL_at hk];simp [List.getD,clusL_len,hk]),List.map_append]
 simp
theorem readTo_len {G:GY.Kw}{K:SG.Kinds}{l:List Int}{k:Nat}(hk:k≤(SG.startsP K l).length):(readTo G K l k).length=k:=by
 unfold readTo
 rw [List.length_map,List.length_take,clusL_len]
 omega
theorem starts_le (K:SG.Kinds)(l:List Int):(SG.startsP K l).length≤l.length:=by
 have:=List.length_filter_le (SG.begAt K l) (List.range l.length)
 rw [List.length_range]at this
 exact this
theorem gl_new (Y:World)(U:List Int)(V:Int)(ty:TypeId):LiV 2 encG (Y.alloc (.cells #[.string (strOfNums U),.int .i64 V] ty)) (fun _=>True) (.slice (some ⟨Y.heap.size,0,none⟩) 1 1) [(U,V)]:=
 ⟨_,1,rfl,(Li.new encG_len Y _ ty (by simp [flatL,encG])).mono fun _ _=>trivial,(fun h=>by cases h),Nat.le_refl _,by decide⟩
set_option maxHeartbeats 8000000 in
set_option maxRecDepth 100000 in
theorem read_any' {T:List RW.Row}{tp:Nat}(s:ByteArray)(w:World)(hs:s.size≤4000)(hT:Tabs T tp w)(hK:(KT T).ok)(hKt:(KT T).tidy):
  Calls Tryz.prog 28 #[.pointer (some ⟨tp,0,none⟩),.string s] w (TellsO 41 2 encG (readG (KG T) (KT T) (decD (bts s))) w):=by
 have CD:=Lib.hid (decode_any s w (by omega))
 have HD:=Lib.hid (show Sc (decD (bts s))∧(∀ (X:World) (A:Option Addr),Rd X A (decD (bts s)).length (li (decD (bts s)))→Li 1 encC X (fun _=>True) A (decD (bts s)))from⟨dec_sc s,fun X A h=>dec_li h⟩)
 have hn:=dec_len s
 obtain⟨l,hl⟩:∃l,decD (bts s)=l:=⟨_,rfl⟩
 rw [hl]at CD HD hn ⊢
 have HT:=Lib.hid hT
 obtain⟨NC,hNC⟩:∃NC,(SG.startsP (KT T) l).length=NC:=⟨_,rfl⟩
 have HF:=Lib.hid (show ∀k,k<NC→fromP (KT T) l k<l.length∧fromP (KT T) l k<fromP (KT T) l (k+1)∧fromP (KT T) l (k+1)≤l.length∧fromP (KT T) l k+SG.nextP (KT T) (l.drop (fromP (KT T) l k)) 1=fromP (KT T) l (k+1)∧readTo (KG T) (KT T) l (k+1)=readTo (KG T) (KT T) l k++[GY.wholeG (KG T) (clusP (KT T) l k)]from fun k hk=>by
  subst hNC
  exact⟨fromP_lt hk,(fromP_succ hk).2,fromP_le _,fromP_next hKt hk,readTo_succ hk⟩)
 have HE:=Lib.hid (show fromP (KT T) l NC=l.length by rw [←hNC];exact fromP_end (Nat.le_refl _))
 have HZ:=Lib.hid (show fromP (KT T) l 0=0∧readTo (KG T) (KT T) l 0=[]from⟨fromP_zero,rfl⟩)
 have HNC:=Lib.hid (show NC≤l.length by rw [←hNC];exact starts_le _ _)
 unfold readG
 rw [hNC]
 have HX:=Lib.hid (fun(X:World) (A:Option Addr) (c:Nat) (hTX:Tabs T tp X) (hLX:Li 1 encC X (fun _=>True) A l) (hc:l.length≤c) (a:Nat) (ha:a<l.length)=>next_in A c l X hTX hK hLX HD.out.1 hc (by omega) a ha)
 obtain⟨N,hN⟩:∃N,l.length=N:=⟨_,rfl⟩
 rw [hN]at hn CD HF HE HNC HX
 have HDl:=Lib.hid (show ∀ (X:World) (A:Option Addr),Rd X A N (li l)→Li 1 encC X (fun _=>True) A l by rw [←hN];exact HD.out.2)
 have HDs:=Lib.hid HD.out.1
 have HN:=Lib.hid hN
 have hnc:=HNC.out
 clear hT hK hKt hl hN hNC HD
 go_enter Tryz.func28,Tryz.ntmps28
 go_wp2_with fail
 refine CD.out.mono ?_
 rintro e w1 ⟨A,c,rfl,hrd,hb1,hc,hm⟩
 have H1:=Lib.hid (And.intro (HDl.out w1 A hrd) hb1)
 clear CD hrd hb1 HDl
 have H0:=Lib.hid (show Grows w1 41 2 encG none 0 0 (readTo (KG T) (KT T) l 0) w1 by rw [HZ.out.2];exact Grows.start _ _ _)
 have HZ0:=Lib.hid HZ.out.1
 clear HZ
 go_wp2
 go_loopw [6,7,8] (fun ov i _ wr=>∃ (k:Nat) (A1:Option Addr) (c1 f:Nat),k≤NC∧i= .int .i64 f∧ov= .slice A1 k c1∧f≤N∧Hid (fromP (KT T) l k=f∧Grows w1 41 2 encG A1 k c1 (readTo (KG T) (KT T) l k) wr)) (fun _ i _ _=>N -(intOf i).toNat)
 case atStart=>exact⟨0,none,0,0,Nat.zero_le _,rfl,rfl,by omega,HZ0.out,H0.out⟩
 case round=>
  obtain⟨k,A1,c1,f,hk,rfl,rfl,hf,H⟩:=hrel
  by_cases hlt:k<NC
  ·obtain⟨hf1,hf2,hf3,hf4,hf5⟩:=HF.out k hlt
   rw [H.out.1]at hf1 hf2 hf4
   obtain⟨t,ht⟩:∃t,fromP (KT T) l (k+1)=t:=⟨_,rfl⟩
   rw [ht]at hf2 hf3 hf4
   have HTr:=Lib.hid (HT.out.later (bStepS H1.out.2 H.out.2.below))
   have CN:=Lib.hid (HX.out wr A c HTr.out (H1.out.1.later H.out.2.below) hc f hf1)
   rw [hf4]at CN
   have hcl:clusP (KT T) l k=(l.drop f).take (t - f):=by unfold clusP;rw [H.out.1,ht]
   obtain⟨b,o,rfl,hb,_,_⟩:=H1.out.1.scs (by rw [HN.out];omega)
   have hpl:(clusP (KT T) l k).length=t - f:=by rw [hcl,List.length_take,List.length_drop,HN.out];omega
   have HP:=Lib.hid (show Li 1 encC w1 (fun _=>True) (some ⟨b,o+f,none⟩) (clusP (KT T) l k)∧Sc (clusP (KT T) l k)by
    rw [hcl]
    refine⟨?_,(HDs.out.drop f).take _⟩
    have:=(H1.out.1.drop f).take (t - f)
    rwa [Nat.mul_one]at this)
   obtain⟨P,hP⟩:∃P,clusP (KT T) l k=P:=⟨_,rfl⟩
   rw [hP]at HP hpl hf5
   have HG:=Lib.hid hf5
   have HT1:=Lib.hid ht
   clear hcl hP hf4 hf5 ht
   have g1:(f:Int)<(N:Int):=by omega
   have g2:(f:Int)≤(t:Int):=by omega
   have g3:(t:Int)≤(c:Int):=by omega
   have g4:f<c:=by omega
   have g6:(f:Int)<(c:Int):=by omega
   have g7:(c:Int)≠(f:Int):=by omega
   have g8:c≠f:=by omega
   have g9:(0:Int)≤(f:Int):=by omega
   go_wp2_with fail
   refine CN.out.mono ?_
   rintro e w3 ⟨rfl,hb3⟩
   have HB3:=Lib.hid (And.intro hb3 (bStepS H.out.2.below hb3))
   have CW:=Lib.hid (whole_any (c - f) w3 (HTr.out.later hb3) (HP.out.1.later HB3.out.2) HP.out.2 (by rw [hpl];omega) (by unfold maxLen;omega) (by rw [hpl];omega))
   rw [hpl]at CW
   clear CN hb3 hpl
   go_wp2_with fail
   refine CW.out.mono ?_
   rintro e w4 ⟨rfl,hb4⟩
   have H4:=Lib.hid (H.out.2.later (bStepS HB3.out.1 hb4))
   have hz4:=H4.out.below.size
   clear CW hb4
   go_wp2_with (at_builtin;refine wpList_push glyph_elt H4.out.own hz4 rfl rfl rfl rfl (by simp) rfl rfl (by unfold maxLen;omega) (by omega) ?_;intro A6 c6 w6 hp;have H6:=Lib.hid (show Grows w1 41 2 encG A6 (k+1) c6 (readTo (KG T) (KT T) l (k+1)) w6 from by
    rw [HG.out]
    exact H4.out.push (Below.refl _ _) hp);clear hp)
   go_roundw
   case rel=>exact⟨k+1,A6,c6,t,by omega,by go_num,rfl,by omega,HT1.out,H6.out⟩
   case measure=>simp [intOf];omega
  ·obtain rfl:k=NC:=by omega
   obtain rfl:f=N:=by rw [←H.out.1];exact HE.out
   go_wp2
   go_ret
   exact⟨_,_,_,rfl,ownLow H.out.2.own H1.out.2.size,bStepS H1.out.2 H.out.2.below⟩
set_option maxHeartbeats 8000000 in
set_option maxRecDepth 100000 in
theorem rread_any' {T:List RW.Row}{A:Option Addr}{c:Nat}(s:ByteArray)(w:World)(hs:s.size≤4000)(hR:Li 5 RW.encR w (fun _=>True) A T)(hc:T.length≤c)(hn:T.length≤100000):
  Calls Tryz.prog 29 #[.slice A T.length c,.string s] w (TellsO 104 2 encG (readG (KG T) (KT T) (decD (bts s))) w):=by
 have CD:=Lib.hid (refdec_any s w (by omega))
 have HD:=Lib.hid (show Sc (decD (bts s))∧(∀ (X:World) (A:Option Addr),Rd X A (decD (bts s)).length (li (decD (bts s)))→Li 1 encC X (fun _=>True) A (decD (bts s)))from⟨dec_sc s,fun X A h=>dec_li h⟩)
 have hl9:=dec_len s
 obtain⟨l,hl⟩:∃l,decD (bts s)=l:=⟨_,rfl⟩
 rw [hl]at CD HD hl9 ⊢
 have HR:=Lib.hid (fun(X:World) (hX:Below w.heap.size w X)=>hR.later hX)
 have HCl:=Lib.hid (fun(X:World) (hX:Below w.heap.size w X) (A2:Option Addr) (c2:Nat) (h2:Li 1 encC X (fun _=>True) A2 l) (hc2:l.length≤c2) (hm:c2≤maxLen)=>rclusters_any (T:=T) (A:=A) (c:=c) c2 ⟨hR.later hX,hc,hn,h2,HD.out.1,by omega⟩ hc2 hm)
 obtain⟨NC,hNC⟩:∃NC,(SG.startsP (KT T) l).length=NC:=⟨_,rfl⟩
 have HF:=Lib.hid (show ∀k,k<NC→readTo (KG T) (KT T) l (k+1)=readTo (KG T) (KT T) l k++[GY.wholeG (KG T) (clusP (KT T) l k)]∧(clusP (KT T) l k).length≤10000∧Sc (clusP (KT T) l k)∧(clusL (KT T) l).getD k []=clusP (KT T) l k∧k<(clusL (KT T) l).length from fun k hk=>by
  subst hNC
  exact⟨readTo_succ hk,Nat.le_trans (clus_le hk) (by omega),clus_sc HD.out.1 k,clusL_at hk,by rw [clusL_len];exact hk⟩)
 have hnc:NC≤10000:=by rw [←hNC];exact Nat.le_trans (starts_le _ _) (by omega)
 unfold readG
 rw [hNC]at HCl ⊢
 have HZ:=Lib.hid (show readTo (KG T) (KT T) l 0=[]from rfl)
 obtain⟨N,hN⟩:∃N,l.length=N:=⟨_,rfl⟩
 rw [hN]at CD HCl hl9
 have HDl:=Lib.hid (show ∀ (X:World) (A:Option Addr),Rd X A N (li l)→Li 1 encC X (fun _=>True) A l by rw [←hN];exact HD.out.2)
 clear hR hl hN hNC HD hl9
 go_enter Tryz.func29,Tryz.ntmps29
 go_wp2_with fail
 refine CD.out.mono ?_
 rintro e w1 ⟨A2,c2,rfl,hrd,hb1,hc2,hm2⟩
 have H1:=Lib.hid (And.intro (HDl.out w1 A2 hrd) hb1)
 clear CD hrd hb1 HDl
 go_wp2_with fail
 refine(HCl.out w1 H1.out.2 A2 c2 H1.out.1 hc2 (by unfold maxLen;exact hm2)).mono ?_
 rintro e w2 ⟨Ac,cc,rfl,hT,hb⟩
 have H2:=Lib.hid (And.intro hT (bStepS H1.out.2 hb))
 have H0:=Lib.hid (show Grows w2 104 2 encG none 0 0 (readTo (KG T) (KT T) l 0) w2 by rw [HZ.out];exact Grows.start _ _ _)
 clear HCl hT hb H1 HZ
 go_wp2
 go_loopw [5,7] (fun ov i wr=>∃ (k:Nat) (A1:Option Addr) (c1:Nat),k≤NC∧i= .int .i64 k∧ov= .slice A1 k c1∧Hid (Grows w2 104 2 encG A1 k c1 (readTo (KG T) (KT T) l k) wr)) (fun _ i _=>NC -(intOf i).toNat)
 case atStart=>exact⟨0,none,0,Nat.zero_le _,rfl,rfl,H0⟩
 case round=>
  obtain⟨k,A1,c1,hk,rfl,rfl,H⟩:=hrel
  by_cases hlt:k<NC
  ·have hf:=HF.out k hlt
   obtain⟨b,o,Aj,nj,cj,rfl,hbb,hcell,htx⟩:=TxtsS.at_ H2.out.1 hf.2.2.2.2
   rw [hf.2.2.2.1]at htx
   obtain⟨rfl,hli,hlc,hcm⟩:=li_txt htx
   have HG:=Lib.hid hf.1
   have HP:=Lib.hid (And.intro hli (And.intro hf.2.2.1 (And.intro hlc (And.intro hcm hf.2.1))))
   obtain⟨P,hP⟩:∃P,clusP (KT T) l k=P:=⟨_,rfl⟩
   rw [hP]at HP HG hcell
   have CE:=Lib.hid (fun(X:World) (hX:Below w2.heap.size w2 X)=>renc_li cj X (HP.out.1.later hX) HP.out.2.1 (by have:=HP.out.2.2.2.2;omega))
   have CW:=Lib.hid (fun(X:World) (hX:Below w2.heap.size w2 X)=>rwidth_any cj X ⟨HR.out X (bStepS H2.out.2 hX),hc,hn,HP.out.1.later hX,HP.out.2.1,by have:=HP.out.2.2.2.2;omega⟩ HP.out.2.2.1)
   have hBw:=H.out.below
   have HBw:=Lib.hid hBw
   obtain⟨M,hM⟩:∃M,P.length=M:=⟨_,rfl⟩
   rw [hM]at hcell CE CW
   obtain⟨V,hV⟩:∃V,GY.widthG (KG T) P=V:=⟨_,rfl⟩
   rw [hV]at CW
   obtain⟨U,hU⟩:∃U,encU P=U:=⟨_,rfl⟩
   rw [hU]at CE
   have HGe:=Lib.hid (show GY.wholeG (KG T) P=(U,V)by unfold GY.wholeG;rw [hU,hV])
   have HCe:=Lib.hid (show ∀X,Below wr.heap.size wr X→(fun X=>X.cell? ⟨b,o+k,none⟩=some (.slice Aj M cj)) X from fun X hX=>((bStepS hBw hX).cell (p:=⟨b,o+k,none⟩) hbb).trans hcell)
   have HC2:=Lib.hid (show ∀X,Below w2.heap.size w2 X→X.cell? ⟨b,o+k,none⟩=some (.slice Aj M cj)from fun X hX=>(hX.cell (p:=⟨b,o+k,none⟩) hbb).trans hcell)
   have hc0:=HCe.out wr (Below.refl _ _)
   dsimp only at hc0
   have g1:(k:Int)<(NC:Int):=by omega
   clear hf htx hli hlc hcm hP hM hV hU hcell HP hBw
   go_wp2_with fail
   go_region_held3 (fun X=>X.cell? ⟨b,o+k,none⟩=some (.slice Aj M cj))
    (first|exact HCe.out _ (by first|exact Below.refl _ _|exact(Below.refl _ _).drew|exact selfDrew _ _|exact B5.out)|exact HC2.out _ H6.out.below|go_keep)
    (first
    |(go_at_call 67;refine(CE.out _ (bStepS HBw.out (by first|exact Below.refl _ _|exact(Below.refl _ _).drew|exact selfDrew _ _))).mono ?_;rintro e w5 ⟨rfl,b5⟩;have B5:=Lib.hid (bStepS (A:=wr) (by first|exact Below.refl _ _|exact(Below.refl _ _).drew|exact selfDrew _ _) b5);have H5:=Lib.hid (H.out.later B5.out);have hz6:=Nat.le_trans H5.out.below.size (belAlloc w5 (.cells #[.string (strOfNums U),.int .i64 V] 104)).size;have HO5:=Lib.hid (own_later H5.out.own (belAlloc w5 (.cells #[.string (strOfNums U),.int .i64 V] 104)));clear b5)
    |(go_at_call 22;refine(CW.out _ (bStepS HBw.out (by first|exact B5.out|exact Below.refl _ _|exact(Below.refl _ _).drew|exact selfDrew _ _))).mono ?_;rintro e w6 ⟨rfl,rfl⟩)
    |(refine step_li encG_len encG_one rglyph_elt HO5.out hz6 rfl rfl (by rfl) (by rfl) (gl_new w5 U V _) (by unfold maxLen;omega) (by omega) ?_;intro A6 c6 w6 hp;have H6:=Lib.hid (show Grows w2 104 2 encG A6 (k+1) c6 (readTo (KG T) (KT T) l (k+1)) w6 from by
      rw [HG.out,HGe.out]
      exact H5.out.pushM (belAlloc _ _) rfl hp);clear hp))
   all_goals
    go_wp2
    go_roundw
    case rel=>exact⟨k+1,A6,c6,by omega,by go_num,rfl,H6⟩
    case measure=>simp [intOf];omega
  ·obtain rfl:k=NC:=by omega
   go_wp2
   go_ret
   exact⟨_,_,_,rfl,ownLow H.out.own H2.out.2.size,bStepS H2.out.2 H.out.below⟩
end Go.Proofs.YtlopleeopnnoeaaGreat
