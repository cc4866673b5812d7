import Derived.Test.YtlopleeopnnoeaaGreatMs03
import Derived.Test.YtlopleeopnnoeaaGreatMs04
import Derived.Test.YtlopleeopnnoeaaGreatMb01
set_option linter.unusedVariables false
set_option linter.unusedSimpArgs false
namespace Go.Proofs.YtlopleeopnnoeaaGreat
open Go.RowKit
set_option maxHeartbeats 8000000 in
set_option maxRecDepth 100000 in
theorem rsplit_any {w:World}{A:Option Addr}{l:List Int}(c:Nat)(hL:Li 1 encC w (fun _=>True) A l)(hn:l.length≤100000):
  Calls Tryz.prog 40 #[.slice A l.length c] w (TellsSp 68 l w):=by
 have HL:=Lib.hid hL
 have HT:=Lib.hid (fun(X:World) (hX:Below w.heap.size w X) (k:Nat) (hk:k<l.length)=>one_any c (hL.later hX) hn k hk)
 obtain⟨N,hN⟩:∃N,l.length=N:=⟨_,rfl⟩
 have HN:=Lib.hid hN
 unfold TellsSp
 rw [hN]at hn HT ⊢
 have H0:=Lib.hid (show SpI w 68 none 0 0 [] [] w∧WS.spl l 0=WS.preS [] (WS.spl l 0)from⟨SpI.start _ _,(WS.preS_nil _).symm⟩)
 clear hL hN
 go_enter Tryz.func40,Tryz.ntmps40
 go_wp2
 go_loopw [5,6,7,8] (fun ov iv _ _ wr=>∃ (k n1 c1:Nat) (A1:Option Addr) (D:List TA) (P:List WS.Tk),iv= .int .i64 k∧ov= .slice A1 n1 c1∧k≤N∧n1≤k∧Hid (SpI w 68 A1 n1 c1 D P wr∧WS.spl l 0=WS.preS P (WS.spl l k))) (fun _ iv _ _ _=>N -(intOf iv).toNat)
 case atStart=>exact⟨0,0,0,none,[],[],rfl,rfl,Nat.zero_le _,Nat.le_refl _,H0⟩
 case round=>
  obtain⟨k,n1,c1,A1,D,P,rfl,rfl,hk,hn1,H⟩:=hrel
  by_cases hlt:k<N
  ·obtain⟨b,o,rfl,hb,_,hcell⟩:=(HL.out.later H.out.1.row.below).scs (by rw [HN.out];omega)
   have kx:=hcell k (by rw [HN.out];exact hlt)
   obtain⟨x,hx⟩:∃x,l.getD k 0=x:=⟨_,rfl⟩
   rw [hx]at kx
   have HX:=Lib.hid hx
   obtain⟨q,hq⟩:∃q,WS.blank x=q:=⟨_,rfl⟩
   have HQ:=Lib.hid hq
   have C2:=Lib.hid (HT.out wr H.out.1.row.below k hlt)
   clear hx hcell H0
   cases q
   case true=>
    have H1:=Lib.hid (show WS.spl l 0=WS.preS P (WS.spl l (k+1))by rw [H.out.2,WS.spl_blank (by rw [HN.out];exact hlt) (by rw [HX.out];exact HQ.out)])
    clear C2
    unfold WS.blank at hq
    by_cases h32:x=32
    all_goals
     first
      |(have e1:(x==32)=true:=by simpa using h32)
      |skip
     first
      |(have e1:(x==32)=false:=by simpa using h32)
      |skip
     first
      |(have e2:(x==9)=true:=by simpa [h32]using hq)
      |skip
     clear hq h32
     go_wp2
     go_roundw
     case rel=>exact⟨k+1,n1,c1,A1,D,P,by go_num,rfl,by omega,by omega,H.out.1,H1.out⟩
     case measure=>simp [intOf];omega
   case false=>
    have HXB:=Lib.hid (show WS.blank (l.getD k 0)=false by rw [HX.out];exact HQ.out)
    have e12:(x==32)=false∧(x==9)=false:=by unfold WS.blank at hq;simpa using hq
    obtain⟨e1,e2⟩:=e12
    clear hq
    go_wp2_with fail
    refine C2.out.mono ?_
    rintro e w4 ⟨hb4,(⟨T,E,A2,n2,c2,rfl,ho2,hone⟩|⟨x',y',A2,n2,c2,rfl,hone⟩)⟩
    ·have hge:=WS.one_ge _ 0 k T E (Nat.le_refl _) (by rw [HN.out];exact hk) hone
     rw [HN.out]at hge
     have hE1:=hge.2.1
     have hE2:=hge.2.2.2 hlt (fun h=>by rw [HXB.out]at h;cases h.2)
     have H1:=Lib.hid (show WS.spl l 0=WS.preS (P++[⟨k,E,T⟩]) (WS.spl l E)by rw [H.out.2,WS.spl_good (by rw [HN.out];exact hlt) HXB.out hone,WS.preS_preS])
     have L4:=Lib.hid (LiV.own encC_len (by decide) ho2)
     have H4:=Lib.hid (And.intro H.out.1 hb4)
     have hz:=hb4.size
     have hz2:=H.out.1.row.below.size
     have hfar:some w4.heap.size≠(Value.slice A1 n1 c1).ownBlock:=fun he=>by
      have:=(H4.out.1.row.own.lt _ he.symm).2
      omega
     have HFar:=Lib.hid hfar
     clear hone ho2 hge hb4 C2 hfar
     go_wp2_with (at_builtin;refine wpList_push tokR_elt (own_later H4.out.1.row.own (bStepS H4.out.2 (belAlloc _ _))) (by simp [World.size_alloc];omega) rfl rfl rfl rfl (by simp) rfl rfl (by unfold maxLen;omega) (by omega) ?_;intro A6 c6 w6 hp;have hB3:=(blk_new w4 #[.int .i64 k,.int .i64 E,.slice A2 n2 c2] 68).grown hp.grown HFar.out;have u1:w6.cell? ⟨w4.heap.size,1,none⟩=some (.int .i64 E):=hB3.2.1 1;have H6:=Lib.hid (H4.out.1.push (x:=⟨k,E,A2,n2,c2⟩) (p:=⟨k,E,T⟩) (bStepS H4.out.2 (belAlloc _ _)) ⟨rfl,rfl,L4.out.later (belAlloc _ _)⟩ hp);clear hp hB3)
     go_roundw
     case rel=>exact⟨E,n1+1,c6,A6,_,_,rfl,rfl,by omega,by omega,H6.out,H1.out⟩
     case measure=>simp [intOf];omega
    ·have H1:=Lib.hid (show WS.spl l 0=(none,k)by rw [H.out.2,WS.spl_bad (by rw [HN.out];exact hlt) HXB.out hone];rfl)
     have H4:=Lib.hid (bStepS H.out.1.row.below hb4)
     have H5:=Lib.hid (bStepS (bStepS H.out.1.row.below hb4) (belAlloc w4 (.cells #[.int .i64 x',.int .i64 y',.slice A2 n2 c2] 68)))
     clear hone hb4 C2
     go_wp2
     refine bodyPost_ret (v:= .tuple #[.slice none 0 0,.int .i64 k,.bool false]) (by simp [results,Tryz.results40,go_sem]) rfl ⟨H5.out,.inr ⟨k,rfl,H1.out⟩⟩
  ·obtain rfl:k=N:=by omega
   have H1:=Lib.hid (show WS.spl l 0=(some P,0)by rw [H.out.2,WS.spl_end (by rw [HN.out];exact Nat.le_refl _)];simp [WS.preS])
   clear H0
   go_wp2
   refine bodyPost_ret (v:= .tuple #[.slice A1 n1 c1,.int .i64 0,.bool true]) (by simp [results,Tryz.results40,go_sem]) rfl ⟨H.out.1.row.below,.inl ⟨P,A1,n1,c1,D,rfl,H1.out,H.out.1,hn1⟩⟩
def iv (p:Nat→Int)(j:Nat):Value:= .int .i32 (p j)
set_option maxHeartbeats 400000 in
theorem same_no (A B:Option Addr)(n m c d:Nat)(w:World)(hn:n≤9223372036854775807)(hm:m≤9223372036854775807)(hne:n≠m):
  Calls Tryz.prog 41 #[.slice A n c,.slice B m d] w fun e w'=>e= .returned (.bool false)∧w=w':=by
 have h1:(((n:Int)==(m:Int)))=false:=by simp;omega
 have h2:(((n:Int) != (m:Int)))=true:=by simp;omega
 go_enter Tryz.func41,Tryz.ntmps41
 go_wp2
 go_ret
 exact⟨rfl,rfl⟩
set_option maxHeartbeats 400000 in
theorem same_yes (A B:Option Addr)(n c d:Nat)(p:Nat→Int)(w:World)(hn:n≤9223372036854775807)(hA:Rd w A n (iv p))(hB:Rd w B n (iv p)):
  Calls Tryz.prog 41 #[.slice A n c,.slice B n d] w fun e w'=>e= .returned (.bool true)∧∃k,w'=w.drewN k:=by
 have h1:(((n:Int)==(n:Int)))=true:=by simp
 have h2:(((n:Int) != (n:Int)))=false:=by simp
 go_enter Tryz.func41,Tryz.ntmps41
 go_wp2
 go_loopw [5] (fun i wr=>∃k:Nat,k≤n∧i= .int .i64 k∧∃q,wr=w.drewN q) (fun i _=>n -(intOf i).toNat)
 case atStart=>exact⟨0,Nat.zero_le _,rfl,0,rfl⟩
 case round=>
  obtain⟨k,hk,rfl,q,rfl⟩:=hrel
  by_cases hlt:k<n
  ·obtain⟨a,i,rfl,_,ha⟩:=hA k hlt
   obtain⟨b,j,rfl,_,hb⟩:=hB k hlt
   have h3:((p k==p k))=true:=by simp
   have h4:((p k != p k))=false:=by simp
   unfold iv at ha hb
   clear hA hB
   go_wp2
   go_quiet (fail)
   go_wp2
   go_roundw
   case rel=>exact⟨k+1,by omega,by go_num,_,rfl⟩
   case measure=>simp [intOf];omega
  ·go_wp2
   go_ret
   exact⟨rfl,_,rfl⟩
def liR (l:List Int)(j:Nat):Value:= .int .i32 (l.getD j 0)
def Sl (w:World)(S:Nat→Prop)(v:Value)(n:Nat)(f:Nat→Value):Prop:=
 ∃A c,v= .slice A n c∧Rd w A n f∧(A=none→n=0∧c=0)∧n≤c∧c≤maxLen∧∀a,A=some a→0<n→S a.block
theorem Sl.later {w w':World}{S:Nat→Prop}{v:Value}{n:Nat}{f:Nat→Value}(h:Sl w S v n f)(hb:Below w.heap.size w w'):Sl w' S v n f:=by
 obtain⟨A,c,e,hr,hx⟩:=h
 exact⟨A,c,e,hr.later hb,hx⟩
theorem Sl.mono {w:World}{S S':Nat→Prop}{v:Value}{n:Nat}{f:Nat→Value}(h:Sl w S v n f)(hs:∀b,S b→S' b):Sl w S' v n f:=by
 obtain⟨A,c,e,hr,h0,h1,h2,h3⟩:=h
 exact⟨A,c,e,hr,h0,h1,h2,fun a ha hn=>hs _ (h3 a ha hn)⟩
theorem Sl.old {w:World}{S:Nat→Prop}{v:Value}{n:Nat}{f:Nat→Value}(h:Sl w S v n f):Sl w (fun b=>b<w.heap.size∧S b) v n f:=by
 obtain⟨A,c,e,hr,h0,h1,h2,h3⟩:=h
 refine⟨A,c,e,hr,h0,h1,h2,fun a ha hn=> ?_⟩
 obtain⟨b,o,e1,hl,_⟩:=hr 0 hn
 rw [ha]at e1
 injection e1 with e1
 exact⟨by rw [e1];exact hl,h3 a ha hn⟩
theorem Sl.far {w:World}{S:Nat→Prop}{v:Value}{n:Nat}{f:Nat→Value}(h:Sl w S v n f){p:Addr}(hp:¬S p.block)(u:Value):Sl (w.setCell p u) S v n f:=by
 obtain⟨A,c,e,hr,h0,h1,h2,h3⟩:=h
 refine⟨A,c,e,fun j hj=> ?_,h0,h1,h2,h3⟩
 obtain⟨b,o,e1,hl,hc⟩:=hr j hj
 refine⟨b,o,e1,by rw [World.size_setCell];exact hl,?_⟩
 have hS:S b:=by have:=h3 _ e1 (by omega);exact this
 have hne:p.block≠b:=fun e=>hp (e▸hS)
 have e:(w.setCell p u).heap[b]? =w.heap[b]? :=Below.heap_setCell w p u b (fun k=>hne k.symm)
 exact(World.cell?_of_block (a:=⟨b,o+j,none⟩) e).trans hc
theorem Sl.drew {w:World}{S:Nat→Prop}{v:Value}{n:Nat}{f:Nat→Value}(h:Sl w S v n f):Sl w.drew S v n f:=h
theorem Sl.one {w:World}{S:Nat→Prop}{v:Value}{n:Nat}{f:Nat→Value}(h:Sl w S v n f):v.oneCell'=true:=by
 obtain⟨A,c,rfl,_⟩:=h
 rfl
theorem Sl.nil (w:World)(S:Nat→Prop)(f:Nat→Value):Sl w S (.slice none 0 0) 0 f:=⟨none,0,rfl,Rd.empty _ _ _,fun _=>⟨rfl,rfl⟩,Nat.le_refl _,Nat.zero_le _,fun a ha=>by cases ha⟩
theorem Sl.congr {w:World}{S:Nat→Prop}{v:Value}{n:Nat}{f g:Nat→Value}(h:Sl w S v n f)(e:∀j,j<n→f j=g j):Sl w S v n g:=by
 obtain⟨A,c,e1,hr,hx⟩:=h
 exact⟨A,c,e1,hr.congr e,hx⟩
theorem Sl.is {w:World}{S:Nat→Prop}{v:Value}{n:Nat}{f:Nat→Value}(h:Sl w S v n f):∃A c,v= .slice A n c∧n≤c∧c≤9223372036854775807:=by
 obtain⟨A,c,e,_,_,h1,h2,_⟩:=h
 exact⟨A,c,e,h1,h2⟩
theorem Sl.parts {w:World}{S:Nat→Prop}{A:Option Addr}{m n c:Nat}{f:Nat→Value}(h:Sl w S (.slice A m c) n f):m=n∧Rd w A n f∧(A=none→n=0∧c=0)∧n≤c∧c≤9223372036854775807:=by
 obtain⟨A',c',e,hr,h0,h1,h2,_⟩:=h
 injection e with e1 e2 e3
 subst e1;subst e2;subst e3
 exact⟨rfl,hr,h0,h1,h2⟩
theorem Sl.take {w:World}{S:Nat→Prop}{A:Option Addr}{n k c:Nat}{f:Nat→Value}(h:Sl w S (.slice A k c) n f)(m:Nat)(hm:m≤n):Sl w S (.slice A m c) m f:=by
 obtain⟨A',c',e,hr,h0,h1,h2,h3⟩:=h
 injection e with e1 e2 e3
 subst e1;subst e2;subst e3
 exact⟨A,c,rfl,fun j hj=>hr j (by omega),fun e=>⟨by have:=(h0 e).1;omega,(h0 e).2⟩,by omega,h2,fun a ha hn=>h3 a ha (by omega)⟩
theorem Sl.tail {w:World}{S:Nat→Prop}{b o k n c:Nat}{f:Nat→Value}(h:Sl w S (.slice (some ⟨b,o,none⟩) k c) n f)(m:Nat)(hm:m≤n):Sl w S (.slice (some ⟨b,o+m,none⟩) (n - m) (c - m)) (n - m) (fun j=>f (m+j)):=by
 obtain⟨A',c',e,hr,h0,h1,h2,h3⟩:=h
 injection e with e1 e2 e3
 subst e1;subst e2;subst e3
 unfold maxLen at*
 refine⟨_,_,rfl,fun j hj=> ?_,fun e=>(by cases e),by omega,by unfold maxLen;omega,fun a ha hn=> ?_⟩
 ·obtain⟨b',o',e1,hl,hc⟩:=hr (m+j) (by omega)
  injection e1 with e1
  injection e1 with e1 e2
  subst e1;subst e2
  exact⟨_,_,rfl,hl,by rw [Nat.add_assoc];exact hc⟩
 ·have:=h3 ⟨b,o,none⟩ rfl (by omega)
  injection ha with ha
  subst ha
  exact this
theorem sl_own {w:World}{base:Nat}{e:TypeId}{A:Option Addr}{n c:Nat}{xs:List Value}{f:Nat→Value}(h:w.ownsRow base e 1 (.slice A n c) n xs)(hf:∀j,j<n→xs[j]? =some (f j)):Sl w (fun b=>base≤b) (.slice A n c) n f:=by
 have hr:=rd_own h hf
 rcases h.2 with⟨hv,hx⟩|⟨g,cap,cur,hv,hb,hh,h1,h2,_⟩
 ·injection hv with e1 e2 e3
  subst e1;subst e2;subst e3
  exact⟨_,_,rfl,hr,fun _=>⟨rfl,rfl⟩,Nat.le_refl _,Nat.zero_le _,fun a ha=>by cases ha⟩
 ·injection hv with e1 e2 e3
  subst e1;subst e3
  exact⟨_,_,rfl,hr,(fun h=>by cases h),h1,h2,fun a ha hn=>by injection ha with ha;subst ha;exact hb⟩
def TxtS (w:World)(S:Nat→Prop)(v:Value)(l:List Int):Prop:=Sl w S v l.length (liR l)
abbrev Any:Nat→Prop:=fun _=>True
def Txt (w:World)(v:Value)(l:List Int):Prop:=TxtS w Any v l
theorem Txt.later {w w':World}{v:Value}{l:List Int}(h:Txt w v l)(hb:Below w.heap.size w w'):Txt w' v l:=Sl.later h hb
theorem TxtS.later {w w':World}{S:Nat→Prop}{v:Value}{l:List Int}(h:TxtS w S v l)(hb:Below w.heap.size w w'):TxtS w' S v l:=Sl.later h hb
theorem TxtS.any {w:World}{S:Nat→Prop}{v:Value}{l:List Int}(h:TxtS w S v l):Txt w v l:=Sl.mono h fun _ _=>trivial
theorem TxtS.old {w:World}{S:Nat→Prop}{v:Value}{l:List Int}(h:TxtS w S v l):TxtS w (fun b=>b<w.heap.size∧S b) v l:=Sl.old h
theorem Txt.nil (w:World):Txt w (.slice none 0 0) []:=Sl.nil _ _ _
theorem txt_own {w:World}{base n:Nat}{e:TypeId}{A:Option Addr}{c:Nat}{l:List Int}(hn:l.length=n)(h:w.ownsRow base e 1 (.slice A n c) n (l.map (Value.int .i32))):TxtS w (fun b=>base≤b) (.slice A n c) l:=by
 subst hn
 exact sl_own h fun j hj=>by simp [liR,List.getD,hj]
def TellsT (l:List Int)(w:World)(e:Ending)(w':World):Prop:=∃A n c,e= .returned (.slice A n c)∧TxtS w' (fun b=>w.heap.size≤b) (.slice A n c) l∧Below w.heap.size w w'
theorem liR_map (l:List Int):(List.range l.length).map (liR l)=l.map (Value.int .i32):=by
 apply List.ext_getElem
 ·simp
 ·intro i h1 h2
  simp at h2
  simp [liR,List.getD,h2]
def TxtsS (w:World)(S:Nat→Prop)(v:Value)(L:List (List Int)):Prop:=
 ∃vs:Nat→Value,Sl w S v L.length vs∧∀j,j<L.length→TxtS w S (vs j) (L.getD j [])
def Txts (w:World)(v:Value)(L:List (List Int)):Prop:=TxtsS w Any v L
theorem TxtsS.later {w w':World}{S:Nat→Prop}{v:Value}{L:List (List Int)}(h:TxtsS w S v L)(hb:Below w.heap.size w w'):TxtsS w' S v L:=by
 obtain⟨vs,h1,h2⟩:=h
 exact⟨vs,h1.later hb,fun j hj=>(h2 j hj).later hb⟩
theorem Txts.later {w w':World}{v:Value}{L:List (List Int)}(h:Txts w v L)(hb:Below w.heap.size w w'):Txts w' v L:=TxtsS.later h hb
theorem TxtsS.mono {w:World}{S S':Nat→Prop}{v:Value}{L:List (List Int)}(h:TxtsS w S v L)(hs:∀b,S b→S' b):TxtsS w S' v L:=by
 obtain⟨vs,h1,h2⟩:=h
 exact⟨vs,h1.mono hs,fun j hj=>Sl.mono (h2 j hj) hs⟩
theorem TxtsS.any {w:World}{S:Nat→Prop}{v:Value}{L:List (List Int)}(h:TxtsS w S v L):Txts w v L:=h.mono fun _ _=>trivial
theorem TxtsS.old {w:World}{S:Nat→Prop}{v:Value}{L:List (List Int)}(h:TxtsS w S v L):TxtsS w (fun b=>b<w.heap.size∧S b) v L:=by
 obtain⟨vs,h1,h2⟩:=h
 exact⟨vs,h1.old,fun j hj=>Sl.old (h2 j hj)⟩
theorem TxtsS.far {w:World}{S:Nat→Prop}{v:Value}{L:List (List Int)}(h:TxtsS w S v L){p:Addr}(hp:¬S p.block)(u:Value):TxtsS (w.setCell p u) S v L:=by
 obtain⟨vs,h1,h2⟩:=h
 exact⟨vs,h1.far hp u,fun j hj=>Sl.far (h2 j hj) hp u⟩
theorem Txts.nil (w:World)(S:Nat→Prop):TxtsS w S (.slice none 0 0) []:=⟨fun _=> .nilIface,Sl.nil _ _ _,fun j hj=>absurd hj (by simp)⟩
theorem TxtsS.is {w:World}{S:Nat→Prop}{v:Value}{L:List (List Int)}(h:TxtsS w S v L):∃A c,v= .slice A L.length c∧L.length≤c∧c≤9223372036854775807:=by
 obtain⟨vs,h1,h2⟩:=h
 exact h1.is
theorem TxtsS.take {w:World}{S:Nat→Prop}{A:Option Addr}{n c:Nat}{L:List (List Int)}(h:TxtsS w S (.slice A n c) L)(m:Nat)(hm:m≤L.length):TxtsS w S (.slice A m c) (L.take m):=by
 obtain⟨vs,h1,h2⟩:=h
 have hl:(L.take m).length=m:=by simp;omega
 refine⟨vs,by rw [hl];exact h1.take m hm,fun j hj=> ?_⟩
 rw [hl]at hj
 have:=h2 j (by omega)
 rwa [show (L.take m).getD j []=L.getD j []by simp [List.getD,List.getElem?_take,hj]]
theorem TxtsS.tail {w:World}{S:Nat→Prop}{b o k c:Nat}{L:List (List Int)}(h:TxtsS w S (.slice (some ⟨b,o,none⟩) k c) L)(m:Nat)(hm:m≤L.length):TxtsS w S (.slice (some ⟨b,o+m,none⟩) (L.length - m) (c - m)) (L.drop m):=by
 obtain⟨vs,h1,h2⟩:=h
 have hl:(L.drop m).length=L.length - m:=by simp
 refine⟨fun j=>vs (m+j),by rw [hl];exact h1.tail m hm,fun j hj=> ?_⟩
 rw [hl]at hj
 have:=h2 (m+j) (by omega)
 rwa [show (L.drop m).getD j []=L.getD (m+j) []by simp [List.getD]]
theorem TxtsS.at_ {w:World}{S:Nat→Prop}{A:Option Addr}{n c:Nat}{L:List (List Int)}(h:TxtsS w S (.slice A n c) L){j:Nat}(hj:j<L.length):
  ∃b o Aj nj cj,A=some ⟨b,o,none⟩∧b<w.heap.size∧w.cell? ⟨b,o+j,none⟩=some (.slice Aj nj cj)∧TxtS w S (.slice Aj nj cj) (L.getD j []):=by
 obtain⟨vs,h1,h2⟩:=h
 obtain⟨rfl,hr,_⟩:=h1.parts
 obtain⟨b,o,e,hl,hc⟩:=hr j hj
 have ht:=h2 j hj
 obtain⟨Aj,cj,ev,_⟩:=ht.is
 rw [ev]at hc ht
 exact⟨b,o,Aj,_,cj,e,hl,hc,ht⟩
theorem Txt.len {w:World}{S:Nat→Prop}{A:Option Addr}{n c:Nat}{l:List Int}(h:TxtS w S (.slice A n c) l):n=l.length:=(Sl.parts h).1
theorem txts_own {w:World}{base n:Nat}{e:TypeId}{A:Option Addr}{c:Nat}{xs:List Value}{L:List (List Int)}{S:Nat→Prop}(hn:L.length=n)(h:w.ownsRow base e 1 (.slice A n c) n xs)(hS:∀b,base≤b→S b)(ht:∀j,j<n→∃u,xs[j]? =some u∧TxtS w S u (L.getD j [])):TxtsS w S (.slice A n c) L:=by
 subst hn
 refine⟨fun j=>xs.getD j .nilIface,(sl_own h fun j hj=> ?_).mono hS,fun j hj=> ?_⟩
 ·obtain⟨u,hu,_⟩:=ht j hj
  simp [List.getD,hu]
 ·obtain⟨u,hu,ht⟩:=ht j hj
  simpa [List.getD,hu]using ht
theorem TxtsS.len {w:World}{S:Nat→Prop}{A:Option Addr}{n c:Nat}{L:List (List Int)}(h:TxtsS w S (.slice A n c) L):n=L.length:=by
 obtain⟨vs,h1,_⟩:=h
 exact h1.parts.1
theorem Sl.grown {w w':World}{S:Nat→Prop}{v:Value}{n:Nat}{f:Nat→Value}{row:Option Nat}(h:Sl w S v n f)(hg:w.grownBy w' row)(hS:∀b,S b→some b≠row):Sl w' S v n f:=by
 obtain⟨A,c,e,hr,h0,h1,h2,h3⟩:=h
 refine⟨A,c,e,fun j hj=> ?_,h0,h1,h2,h3⟩
 obtain⟨b,o,e1,hl,hc⟩:=hr j hj
 exact⟨b,o,e1,Nat.lt_of_lt_of_le hl hg.size,(World.cell?_of_block (a:=⟨b,o+j,none⟩) (hg.block b hl (hS b (h3 _ e1 (by omega))))).trans hc⟩
def OwnTs (base:Nat)(w:World)(v:Value)(xs:List Value)(k:Nat)(L:List (List Int)):Prop:=
 ∀j,j<k→∃u,xs[j]? =some u∧TxtS w (fun b=>base≤b∧some b≠v.ownBlock) u (L.getD j [])
theorem OwnTs.later {base:Nat}{w w':World}{v:Value}{xs:List Value}{k:Nat}{L:List (List Int)}(h:OwnTs base w v xs k L)(hb:Below w.heap.size w w'):OwnTs base w' v xs k L:=fun j hj=>by
 obtain⟨u,h1,h2⟩:=h j hj
 exact⟨u,h1,h2.later hb⟩
theorem OwnTs.push {base:Nat}{wr w1 w':World}{v u:Value}{xs:List Value}{k:Nat}{L:List (List Int)}{E:TypeId}{A:Option Addr}{c:Nat}(h:OwnTs base wr v xs k L)(hown:wr.ownsRow base E 1 v k xs)(hb:Below wr.heap.size wr w1)(hbase:base≤wr.heap.size)
  (hu:TxtS w1 (fun b=>wr.heap.size≤b) u (L.getD k [])) (hp:Pushed w1 w' base E 1 v (k+1) (xs++[u]) A c):OwnTs base w' (.slice A (k+1) c) (xs++[u]) (k+1) L:=by
 have hx:xs.length=k:=by have:=hown.1;omega
 have keep {S:Nat→Prop} {x:Value} {l:List Int} (hS:∀b,S b→base≤b∧some b≠v.ownBlock) (ht:TxtS w1 S x l):TxtS w' (fun b=>base≤b∧some b≠(Value.slice A (k+1) c).ownBlock) x l:=by
  refine Sl.mono (Sl.grown (Sl.old ht) hp.grown fun b hb=>(hS b hb.2).2) fun b hb=>⟨(hS b hb.2).1,fun e=> ?_⟩
  rcases hp.at_ with e1|⟨q,e1,hq⟩
  ·exact(hS b hb.2).2 (e.trans e1)
  ·rw [e1]at e
   injection e with e
   omega
 intro j hj
 by_cases hjk:j=k
 ·subst hjk
  refine⟨u,by rw [List.getElem?_append_right (by omega),hx];simp,keep (fun b hb=>⟨by omega,fun e=> ?_⟩) hu⟩
  have:=(hown.lt b e.symm).2
  omega
 ·obtain⟨u',h1,h2⟩:=h j (by omega)
  exact⟨u',by rw [List.getElem?_append_left (by omega)];exact h1,keep (fun b hb=>hb) (h2.later hb)⟩
end Go.Proofs.YtlopleeopnnoeaaGreat
