import Derived.Test.YtlopleeopnnoeaaGreatMb22
import Derived.Test.YtlopleeopnnoeaaGreatMb27
import Derived.Test.YtlopleeopnnoeaaGreatMb26
import Derived.Test.YtlopleeopnnoeaaGreatMb28
import Derived.ScopeJumps
import Derived.WalkMore
import Derived.Test.YtlopleeopnnoeaaGreatMb25
set_option linter.unusedVariables false
set_option linter.unusedSimpArgs false
namespace Go.Proofs.YtlopleeopnnoeaaGreat
open Go.RowKit
namespace WD
def firstF (p:Nat→Bool)(n:Nat):Nat→Nat→Nat
 |0,_=>n
 |f+1,i=>if i<n then (if p i=true then i else firstF p n f (i+1))else n
def first (p:Nat→Bool)(n i:Nat):Nat:=firstF p n (n - i) i
section
variable {p:Nat→Bool}{n i:Nat}
theorem first_end (h:n≤i):first p n i=n:=by unfold first;rw [show n - i=0 by omega];rfl
theorem first_yes (h:i<n)(hp:p i=true):first p n i=i:=by
 unfold first
 obtain⟨d,hd⟩:∃d,n - i=d+1:=⟨n - i - 1,by omega⟩
 rw [hd]
 simp [firstF,h,hp]
theorem first_no (h:i<n)(hp:p i=false):first p n i=first p n (i+1):=by
 unfold first
 obtain⟨d,hd⟩:∃d,n - i=d+1:=⟨n - i - 1,by omega⟩
 rw [hd,show n -(i+1)=d by omega]
 simp [firstF,h,hp]
theorem first_spec (hi:i≤n):i≤first p n i∧first p n i≤n∧(first p n i<n→p (first p n i)=true)∧∀j,i≤j→j<first p n i→p j=false:=by
 obtain⟨d,hd⟩:∃d,n - i=d:=⟨_,rfl⟩
 induction d generalizing i with
 |zero=>
  rw [first_end (by omega)]
  exact⟨by omega,Nat.le_refl _,fun h=>absurd h (by omega),fun j h1 h2=>absurd h2 (by omega)⟩
 |succ d ih=>
  cases hp:p i
  ·have:=ih (i:=i+1) (by omega) (by omega)
   rw [first_no (by omega) hp]
   refine⟨by omega,this.2.1,this.2.2.1,fun j h1 h2=> ?_⟩
   rcases Nat.eq_or_lt_of_le h1 with rfl|h3
   ·exact hp
   ·exact this.2.2.2 j h3 h2
  ·rw [first_yes (by omega) hp]
   exact⟨Nat.le_refl _,by omega,fun _=>hp,fun j h1 h2=>absurd h2 (by omega)⟩
theorem first_is {j:Nat}(hij:i≤j)(hj:j≤n)(hp:j<n→p j=true)(hq:∀k,i≤k→k<j→p k=false):first p n i=j:=by
 obtain⟨h1,h2,h3,h4⟩:=first_spec (p:=p) (n:=n) (i:=i) (by omega)
 rcases Nat.lt_trichotomy (first p n i) j with h|h|h
 ·have:=hq _ h1 h
  rw [h3 (by omega)]at this
  cases this
 ·exact h
 ·have:=h4 j hij h
  rw [hp (by omega)]at this
  cases this
theorem first_far {j:Nat}(hij:i≤j)(hj:j≤n)(hq:∀k,i≤k→k<j→p k=false):first p n i=first p n j:=by
 obtain⟨h1,h2,h3,h4⟩:=first_spec (p:=p) (n:=n) (i:=j) hj
 exact first_is (by omega) h2 h3 fun k hk1 hk2=>by
  rcases Nat.lt_or_ge k j with h|h
  ·exact hq k hk1 h
  ·exact h4 k h hk2
end
section
variable (K:SG.Kinds)(lt:Int→Bool)(l:List Int)
def let_ (j:Nat):Bool:=SG.begAt K l j&&lt (l.getD j 0)
def non (j:Nat):Bool:=SG.begAt K l j&& !lt (l.getD j 0)
def skip (a:Nat):Nat:=first (let_ K lt l) l.length a
def run (a:Nat):Nat:=first (non K lt l) l.length a
def prev (j:Nat):Bool:=decide (0<j)&&lt (l.getD (floorP K l (j - 1)) 0)
def beg (j:Nat):Bool:=let_ K lt l j&& !prev K lt l j
def words:List (Nat × Nat):=((List.range l.length).filter (beg K lt l)).map fun j=>(j,run K lt l j)
def lastF (f:Nat):Nat→Option Nat
 |0=>none
 |e+1=>if f≤e∧let_ K lt l e=true∧(e=f∨prev K lt l e=false)then some e else lastF f e
def back (e:Nat):Nat:=(lastF K lt l 0 e).getD 0
def fwd (a:Nat):Nat:=if skip K lt l a<l.length then run K lt l (skip K lt l a)else l.length
end
end WD
open Go.RowKit
def ltT (T:List RW.Row)(r:Int):Bool:=at0 0 (vget 8 T) r==1
theorem tletter {T:List RW.Row}{tp:Nat}{W:World}(h:Tabs T tp W)(r:Int)(r0: -2147483648≤r)(r1:r≤2147483647):
  Calls Tryz.prog 127 #[.pointer (some ⟨tp,0,none⟩),.int .i32 r] W (fun e w'=>e= .returned (.bool (ltT T r))∧Below W.heap.size W w'):=by
 obtain⟨lo,hi,_,h⟩:=h
 exact uletter h r r0 r1
namespace WD
theorem next_first (K:SG.Kinds)(l:List Int):∀ (d i:Nat),l.length - i=d→SG.nextP K l i=first (SG.begAt K l) l.length i:=by
 intro d
 induction d with
 |zero=>intro i h;rw [SG.nextP_end (by omega),first_end (by omega)]
 |succ d ih=>
  intro i h
  cases hb:SG.begAt K l i
  ·rw [SG.nextP_no (by omega) hb,first_no (by omega) hb]
   exact ih (i+1) (by omega)
  ·rw [SG.nextP_yes (by omega) hb,first_yes (by omega) hb]
def bnd (K:SG.Kinds)(l:List Int)(a:Nat):Prop:=a≤l.length∧(a<l.length→SG.begAt K l a=true)
section
variable {K:SG.Kinds}{lt:Int→Bool}{l:List Int}{a:Nat}
theorem bnd_next (h:a<l.length):bnd K l (SG.nextP K l (a+1))∧a<SG.nextP K l (a+1)∧∀j,a<j→j<SG.nextP K l (a+1)→SG.begAt K l j=false:=by
 rw [next_first K l _ _ rfl]
 obtain⟨h1,h2,h3,h4⟩:=first_spec (p:=SG.begAt K l) (n:=l.length) (i:=a+1) (by omega)
 exact⟨⟨h2,h3⟩,by omega,fun j hj1 hj2=>h4 j (by omega) hj2⟩
theorem skip_yes (h:a<l.length)(hb:SG.begAt K l a=true)(hl:lt (l.getD a 0)=true):skip K lt l a=a:=first_yes h (by unfold let_;rw [hb,hl];rfl)
theorem skip_no (h:a<l.length)(hl:lt (l.getD a 0)=false):skip K lt l a=skip K lt l (SG.nextP K l (a+1)):=by
 obtain⟨h1,h2,h3⟩:=bnd_next (K:=K) h
 refine first_far (by omega) h1.1 fun k hk1 hk2=> ?_
 rcases Nat.eq_or_lt_of_le hk1 with rfl|h4
 ·unfold let_;rw [hl,Bool.and_false]
 ·unfold let_;rw [h3 k h4 hk2];rfl
theorem skip_end (h:l.length≤a):skip K lt l a=l.length:=first_end h
theorem run_no (h:a<l.length)(hb:SG.begAt K l a=true)(hl:lt (l.getD a 0)=false):run K lt l a=a:=first_yes h (by unfold non;rw [hb,hl];rfl)
theorem run_yes (h:a<l.length)(hl:lt (l.getD a 0)=true):run K lt l a=run K lt l (SG.nextP K l (a+1)):=by
 obtain⟨h1,h2,h3⟩:=bnd_next (K:=K) h
 refine first_far (by omega) h1.1 fun k hk1 hk2=> ?_
 rcases Nat.eq_or_lt_of_le hk1 with rfl|h4
 ·unfold non;rw [hl,Bool.not_true,Bool.and_false]
 ·unfold non;rw [h3 k h4 hk2];rfl
theorem run_end (h:l.length≤a):run K lt l a=l.length:=first_end h
theorem bnd_len:bnd K l l.length:=⟨Nat.le_refl _,fun h=>absurd h (by omega)⟩
end
end WD
theorem pseg_next {w:World}{T:List RW.Row}{tp:Nat}{A:Option Addr}{c:Nat}{l:List Int}(h:TT w T tp A c l)(hok:(KT T).ok){a:Nat}(ha:a<l.length)(hb:SG.begAt (KT T) l a=true):
  Calls Tryz.prog 73 #[.pointer (some ⟨tp,0,none⟩),.slice A l.length c,.int .i64 (a:Nat)] w fun e w'=>e= .returned (.int .i64 ((SG.nextP (KT T) l (a+1):Nat):Int))∧Below w.heap.size w w':=by
 have:=next_in A c l w h.tabs hok h.txt h.sc h.cap h.few a ha
 rw [SG.nextP_drop h.tidy ha hb 1]at this
 exact this
set_option maxHeartbeats 8000000 in
set_option maxRecDepth 100000 in
theorem wnext_any {w:World}{T:List RW.Row}{tp:Nat}{A:Option Addr}{c:Nat}{l:List Int}(h:TT w T tp A c l)(hok:(KT T).ok)(a0:Nat)(hb0:WD.bnd (KT T) l a0)(F E:Int)(O:Bool)(hv:(if WD.skip (KT T) (ltT T) l a0<l.length then (((WD.skip (KT T) (ltT T) l a0:Nat):Int),((WD.run (KT T) (ltT T) l (WD.skip (KT T) (ltT T) l a0):Nat):Int),true)else (0,0,false))=(F,E,O)):
  Calls Tryz.prog 79 #[.pointer (some ⟨tp,0,none⟩),.slice A l.length c,.int .i64 (a0:Nat)] w fun e w'=>e= .returned (.tuple #[.int .i64 F,.int .i64 E,.bool O])∧Below w.heap.size w w':=by
 have HT:=Lib.hid h
 have HK:=Lib.hid hok
 obtain⟨S,hS⟩:∃S,WD.skip (KT T) (ltT T) l a0=S:=⟨_,rfl⟩
 rw [hS]at hv
 have HV:=Lib.hid hv
 obtain⟨N,hN⟩:∃N,l.length=N:=⟨_,rfl⟩
 have hfew:=h.few
 rw [hN]at HV hfew ⊢
 have HN:=Lib.hid hN
 have H0:=Lib.hid (And.intro hb0 hS)
 have h0n:a0≤N:=by rw [←hN];exact hb0.1
 clear h hok hv hS hN hb0
 go_enter Tryz.func79,Tryz.ntmps79
 go_wp2
 refine wp_scope_jumps 0 (fun a' w'=>∃ (f:Nat) (u10 u11 u12 u13 u14 u15 u16 u17 u18 u19 u20 u21 u22 u23 u24:Value),a'={tmps:=#[.pointer (some ⟨tp,0,none⟩),.slice A N c,.int .i64 f,undef,undef,undef,.int .i64 0,.int .i64 0,.bool false,undef,u10,u11,u12,u13,u14,u15,u16,u17,u18,u19,u20,u21,u22,u23,u24,undef,undef,undef,undef,undef,undef,undef,undef,undef,undef,undef,undef,undef,undef,undef,undef,undef,undef,undef],defers:=[]}∧f≤N∧Hid (Below w.heap.size w w'∧WD.bnd (KT T) l f∧WD.skip (KT T) (ltT T) l f=S)) (fun a' _=>N -(intOf (a'.tmps.getD 2 undef)).toNat) rfl ?_ ?_
 ·have H:=Lib.hid (show Below w.heap.size w w∧WD.bnd (KT T) l a0∧WD.skip (KT T) (ltT T) l a0=S from⟨Below.refl _ _,H0.out.1,H0.out.2⟩)
  obtain⟨f,hf⟩:∃f,a0=f:=⟨_,rfl⟩
  rw [hf]at H h0n ⊢
  clear hf H0
  go_wp2
  go_step3
  by_cases hlt:f<N
  ·obtain⟨b,o,rfl,hb,_,hcell⟩:=(HT.out.later H.out.1).txt.scs (by rw [HN.out];omega)
   have k0:=hcell f (by rw [HN.out];omega)
   have hr:=HT.out.sc.at (j:=f) (by rw [HN.out];omega)
   obtain⟨x,hx⟩:∃x,l.getD f 0=x:=⟨_,rfl⟩
   rw [hx]at k0 hr
   have HX:=Lib.hid hx
   have C:=Lib.hid (tletter (HT.out.later H.out.1).tabs x hr.1 hr.2)
   obtain⟨q,hq⟩:∃q,ltT T x=q:=⟨_,rfl⟩
   rw [hq]at C
   have HQ:=Lib.hid hq
   have hbg:=H.out.2.1.2 (by rw [HN.out];exact hlt)
   have CN:=Lib.hid (fun X (hX:Below w.heap.size w X)=>pseg_next (HT.out.later hX) HK.out (a:=f) (by rw [HN.out];exact hlt) hbg)
   have hnx:=WD.bnd_next (K:=KT T) (l:=l) (a:=f) (by rw [HN.out];exact hlt)
   obtain⟨g,hg⟩:∃g,SG.nextP (KT T) l (f+1)=g:=⟨_,rfl⟩
   rw [hg]at CN hnx
   rw [HN.out]at CN
   have HG:=Lib.hid (And.intro hg hnx)
   have hgN:g≤N:=by rw [←HN.out];exact hnx.1.1
   have hfg:=hnx.2.1
   have HBg:=Lib.hid hbg
   clear hcell hr hx hq hg hnx hbg
   go_wp2_with fail
   refine C.out.mono ?_
   rintro e w1 ⟨rfl,hb1⟩
   have H1:=Lib.hid (bStepS H.out.1 hb1)
   clear C hb1
   cases q
   ·have HSk:=Lib.hid (show WD.skip (KT T) (ltT T) l g=S by
     rw [←H.out.2.2,WD.skip_no (a:=f) (by rw [HN.out];exact hlt) (by rw [HX.out];exact HQ.out),HG.out.1])
    go_wp2_with fail
    refine(CN.out _ H1.out).mono ?_
    rintro e w2 ⟨rfl,hb2⟩
    have H2:=Lib.hid (And.intro (bStepS H1.out hb2) (And.intro HG.out.2.1 HSk.out))
    clear CN hb2
    go_wp2
    go_step3
    exact⟨rfl,⟨g,_,_,_,_,_,_,_,_,_,_,_,_,_,_,_,rfl,hgN,H2⟩⟩
   ·have HSk:=Lib.hid (show S=f by rw [←H.out.2.2,WD.skip_yes (by rw [HN.out];exact hlt) HBg.out (by rw [HX.out];exact HQ.out)])
    obtain rfl:=HSk.out
    obtain⟨R,hR⟩:∃R,WD.run (KT T) (ltT T) l S=R:=⟨_,rfl⟩
    have HR:=Lib.hid hR
    have HVV:=Lib.hid (show F=((S:Nat):Int)∧E=((R:Nat):Int)∧O=true by
     have:=HV.out
     rw [if_pos hlt,hR]at this
     simp only [Prod.mk.injEq]at this
     exact⟨this.1.symm,this.2.1.symm,this.2.2.symm⟩)
    obtain⟨rfl,rfl,rfl⟩:=HVV.out
    clear CN hR HV HVV
    have HL0:=Lib.hid (show Below w.heap.size w w1∧WD.bnd (KT T) l S∧WD.run (KT T) (ltT T) l S=R from⟨H1.out,H.out.2.1,HR.out⟩)
    clear H k0
    go_wp2
    go_loopw [2] (fun i wr=>∃g:Nat,i= .int .i64 g∧g≤N∧Hid (Below w.heap.size w wr∧WD.bnd (KT T) l g∧WD.run (KT T) (ltT T) l g=R)) (fun i _=>N -(intOf i).toNat)
    case atStart=>exact⟨S,rfl,by omega,HL0⟩
    case round=>
     obtain⟨p,rfl,hpN,HP⟩:=hrel
     by_cases hpl:p<N
     ·obtain⟨b',o',e',hb',_,hcell⟩:=(HT.out.later HP.out.1).txt.scs (by rw [HN.out];omega)
      injection e' with e'
      injection e' with e1 e2
      subst e1;subst e2
      have k0:=hcell p (by rw [HN.out];omega)
      have hr:=HT.out.sc.at (j:=p) (by rw [HN.out];omega)
      obtain⟨y,hy⟩:∃y,l.getD p 0=y:=⟨_,rfl⟩
      rw [hy]at k0 hr
      have HY:=Lib.hid hy
      have C:=Lib.hid (tletter (HT.out.later HP.out.1).tabs y hr.1 hr.2)
      obtain⟨q2,hq2⟩:∃q,ltT T y=q:=⟨_,rfl⟩
      rw [hq2]at C
      have HQ2:=Lib.hid hq2
      have hbg2:=HP.out.2.1.2 (by rw [HN.out];exact hpl)
      have CN:=Lib.hid (fun X (hX:Below w.heap.size w X)=>pseg_next (HT.out.later hX) HK.out (a:=p) (by rw [HN.out];exact hpl) hbg2)
      have hnx:=WD.bnd_next (K:=KT T) (l:=l) (a:=p) (by rw [HN.out];exact hpl)
      obtain⟨v,hv⟩:∃v,SG.nextP (KT T) l (p+1)=v:=⟨_,rfl⟩
      rw [hv]at CN hnx
      rw [HN.out]at CN
      have HW:=Lib.hid (And.intro hv hnx)
      have hvN:v≤N:=by rw [←HN.out];exact hnx.1.1
      have hpv:=hnx.2.1
      have HB2:=Lib.hid hbg2
      clear hcell hr hy hq2 hv hnx hbg2
      go_wp2_with fail
      refine C.out.mono ?_
      rintro e w3 ⟨rfl,hb3⟩
      have H3:=Lib.hid (bStepS HP.out.1 hb3)
      clear C hb3 k0
      cases q2
      ·obtain rfl:p=R:=by rw [←HP.out.2.2,WD.run_no (by rw [HN.out];exact hpl) HB2.out (by rw [HY.out];exact HQ2.out)]
       clear CN HP
       go_wp2
       simp only [Exit.jump]
       refine bodyPost_ret (v:= .tuple #[.int .i64 ((S:Nat):Int),.int .i64 ((p:Nat):Int),.bool true]) (by simp [results,Tryz.results79,go_sem]) rfl ⟨rfl,H3.out⟩
      ·have HRr:=Lib.hid (show WD.run (KT T) (ltT T) l v=R by rw [←HP.out.2.2,WD.run_yes (a:=p) (by rw [HN.out];exact hpl) (by rw [HY.out];exact HQ2.out),HW.out.1])
       go_wp2_with fail
       refine(CN.out _ H3.out).mono ?_
       rintro e w4 ⟨rfl,hb4⟩
       have H4:=Lib.hid (And.intro (bStepS H3.out hb4) (And.intro HW.out.2.1 HRr.out))
       clear CN hb4
       go_wp2
       go_roundw
       case rel=>exact⟨v,by go_num,hvN,H4⟩
       case measure=>simp [intOf];omega
     ·obtain rfl:p=N:=by omega
      have HPR:=Lib.hid (show p=R by rw [←HP.out.2.2,WD.run_end (by rw [HN.out];omega),HN.out])
      obtain rfl:=HPR.out
      have HP1:=Lib.hid HP.out.1
      have dp:decide ((p:Int)<(p:Int))=false:=by simp
      clear HP
      go_wp2
      simp only [Exit.jump]
      refine bodyPost_ret (v:= .tuple #[.int .i64 ((S:Nat):Int),.int .i64 ((p:Nat):Int),.bool true]) (by simp [results,Tryz.results79,go_sem]) rfl ⟨rfl,HP1.out⟩
  ·have hfe:f=N:=by omega
   have HS2:=Lib.hid (show F=0∧E=0∧O=false by
    have h1:=H.out.2.2
    rw [WD.skip_end (by rw [HN.out];omega),HN.out]at h1
    have:=HV.out
    rw [←h1,if_neg (by omega)]at this
    simp only [Prod.mk.injEq]at this
    exact⟨this.1.symm,this.2.1.symm,this.2.2.symm⟩)
   obtain⟨rfl,rfl,rfl⟩:=HS2.out
   have H1:=Lib.hid H.out.1
   have dp:decide ((N:Int)≤(f:Int))=true:=by simp;omega
   clear H HV HS2 hlt
   go_wp2
   simp only [Exit.jump]
   refine bodyPost_ret (v:= .tuple #[.int .i64 0,.int .i64 0,.bool false]) (by simp [results,Tryz.results79,go_sem]) rfl ⟨rfl,H1.out⟩
 ·rintro a' w' ⟨f,u10,u11,u12,u13,u14,u15,u16,u17,u18,u19,u20,u21,u22,u23,u24,rfl,hfN,H⟩
  clear H0 h0n
  by_cases hlt:f<N
  ·obtain⟨b,o,rfl,hb,_,hcell⟩:=(HT.out.later H.out.1).txt.scs (by rw [HN.out];omega)
   have k0:=hcell f (by rw [HN.out];omega)
   have hr:=HT.out.sc.at (j:=f) (by rw [HN.out];omega)
   obtain⟨x,hx⟩:∃x,l.getD f 0=x:=⟨_,rfl⟩
   rw [hx]at k0 hr
   have HX:=Lib.hid hx
   have C:=Lib.hid (tletter (HT.out.later H.out.1).tabs x hr.1 hr.2)
   obtain⟨q,hq⟩:∃q,ltT T x=q:=⟨_,rfl⟩
   rw [hq]at C
   have HQ:=Lib.hid hq
   have hbg:=H.out.2.1.2 (by rw [HN.out];exact hlt)
   have CN:=Lib.hid (fun X (hX:Below w.heap.size w X)=>pseg_next (HT.out.later hX) HK.out (a:=f) (by rw [HN.out];exact hlt) hbg)
   have hnx:=WD.bnd_next (K:=KT T) (l:=l) (a:=f) (by rw [HN.out];exact hlt)
   obtain⟨g,hg⟩:∃g,SG.nextP (KT T) l (f+1)=g:=⟨_,rfl⟩
   rw [hg]at CN hnx
   rw [HN.out]at CN
   have HG:=Lib.hid (And.intro hg hnx)
   have hgN:g≤N:=by rw [←HN.out];exact hnx.1.1
   have hfg:=hnx.2.1
   have HBg:=Lib.hid hbg
   clear hcell hr hx hq hg hnx hbg
   go_wp2_with fail
   refine C.out.mono ?_
   rintro e w1 ⟨rfl,hb1⟩
   have H1:=Lib.hid (bStepS H.out.1 hb1)
   clear C hb1
   cases q
   ·have HSk:=Lib.hid (show WD.skip (KT T) (ltT T) l g=S by
     rw [←H.out.2.2,WD.skip_no (a:=f) (by rw [HN.out];exact hlt) (by rw [HX.out];exact HQ.out),HG.out.1])
    go_wp2_with fail
    refine(CN.out _ H1.out).mono ?_
    rintro e w2 ⟨rfl,hb2⟩
    have H2:=Lib.hid (And.intro (bStepS H1.out hb2) (And.intro HG.out.2.1 HSk.out))
    clear CN hb2
    go_wp2
    go_step3
    exact⟨rfl,⟨⟨g,_,_,_,_,_,_,_,_,_,_,_,_,_,_,_,rfl,hgN,H2⟩,by simp [intOf];omega⟩⟩
   ·have HSk:=Lib.hid (show S=f by rw [←H.out.2.2,WD.skip_yes (by rw [HN.out];exact hlt) HBg.out (by rw [HX.out];exact HQ.out)])
    obtain rfl:=HSk.out
    obtain⟨R,hR⟩:∃R,WD.run (KT T) (ltT T) l S=R:=⟨_,rfl⟩
    have HR:=Lib.hid hR
    have HVV:=Lib.hid (show F=((S:Nat):Int)∧E=((R:Nat):Int)∧O=true by
     have:=HV.out
     rw [if_pos hlt,hR]at this
     simp only [Prod.mk.injEq]at this
     exact⟨this.1.symm,this.2.1.symm,this.2.2.symm⟩)
    obtain⟨rfl,rfl,rfl⟩:=HVV.out
    clear CN hR HV HVV
    have HL0:=Lib.hid (show Below w.heap.size w w1∧WD.bnd (KT T) l S∧WD.run (KT T) (ltT T) l S=R from⟨H1.out,H.out.2.1,HR.out⟩)
    clear H k0
    go_wp2
    go_loopw [2] (fun i wr=>∃g:Nat,i= .int .i64 g∧g≤N∧Hid (Below w.heap.size w wr∧WD.bnd (KT T) l g∧WD.run (KT T) (ltT T) l g=R)) (fun i _=>N -(intOf i).toNat)
    case atStart=>exact⟨S,rfl,by omega,HL0⟩
    case round=>
     obtain⟨p,rfl,hpN,HP⟩:=hrel
     by_cases hpl:p<N
     ·obtain⟨b',o',e',hb',_,hcell⟩:=(HT.out.later HP.out.1).txt.scs (by rw [HN.out];omega)
      injection e' with e'
      injection e' with e1 e2
      subst e1;subst e2
      have k0:=hcell p (by rw [HN.out];omega)
      have hr:=HT.out.sc.at (j:=p) (by rw [HN.out];omega)
      obtain⟨y,hy⟩:∃y,l.getD p 0=y:=⟨_,rfl⟩
      rw [hy]at k0 hr
      have HY:=Lib.hid hy
      have C:=Lib.hid (tletter (HT.out.later HP.out.1).tabs y hr.1 hr.2)
      obtain⟨q2,hq2⟩:∃q,ltT T y=q:=⟨_,rfl⟩
      rw [hq2]at C
      have HQ2:=Lib.hid hq2
      have hbg2:=HP.out.2.1.2 (by rw [HN.out];exact hpl)
      have CN:=Lib.hid (fun X (hX:Below w.heap.size w X)=>pseg_next (HT.out.later hX) HK.out (a:=p) (by rw [HN.out];exact hpl) hbg2)
      have hnx:=WD.bnd_next (K:=KT T) (l:=l) (a:=p) (by rw [HN.out];exact hpl)
      obtain⟨v,hv⟩:∃v,SG.nextP (KT T) l (p+1)=v:=⟨_,rfl⟩
      rw [hv]at CN hnx
      rw [HN.out]at CN
      have HW:=Lib.hid (And.intro hv hnx)
      have hvN:v≤N:=by rw [←HN.out];exact hnx.1.1
      have hpv:=hnx.2.1
      have HB2:=Lib.hid hbg2
      clear hcell hr hy hq2 hv hnx hbg2
      go_wp2_with fail
      refine C.out.mono ?_
      rintro e w3 ⟨rfl,hb3⟩
      have H3:=Lib.hid (bStepS HP.out.1 hb3)
      clear C hb3 k0
      cases q2
      ·obtain rfl:p=R:=by rw [←HP.out.2.2,WD.run_no (by rw [HN.out];exact hpl) HB2.out (by rw [HY.out];exact HQ2.out)]
       clear CN HP
       go_wp2
       simp only [Exit.jump]
       refine bodyPost_ret (v:= .tuple #[.int .i64 ((S:Nat):Int),.int .i64 ((p:Nat):Int),.bool true]) (by simp [results,Tryz.results79,go_sem]) rfl ⟨rfl,H3.out⟩
      ·have HRr:=Lib.hid (show WD.run (KT T) (ltT T) l v=R by rw [←HP.out.2.2,WD.run_yes (a:=p) (by rw [HN.out];exact hpl) (by rw [HY.out];exact HQ2.out),HW.out.1])
       go_wp2_with fail
       refine(CN.out _ H3.out).mono ?_
       rintro e w4 ⟨rfl,hb4⟩
       have H4:=Lib.hid (And.intro (bStepS H3.out hb4) (And.intro HW.out.2.1 HRr.out))
       clear CN hb4
       go_wp2
       go_roundw
       case rel=>exact⟨v,by go_num,hvN,H4⟩
       case measure=>simp [intOf];omega
     ·obtain rfl:p=N:=by omega
      have HPR:=Lib.hid (show p=R by rw [←HP.out.2.2,WD.run_end (by rw [HN.out];omega),HN.out])
      obtain rfl:=HPR.out
      have HP1:=Lib.hid HP.out.1
      have dp:decide ((p:Int)<(p:Int))=false:=by simp
      clear HP
      go_wp2
      simp only [Exit.jump]
      refine bodyPost_ret (v:= .tuple #[.int .i64 ((S:Nat):Int),.int .i64 ((p:Nat):Int),.bool true]) (by simp [results,Tryz.results79,go_sem]) rfl ⟨rfl,HP1.out⟩
  ·have hfe:f=N:=by omega
   have HS2:=Lib.hid (show F=0∧E=0∧O=false by
    have h1:=H.out.2.2
    rw [WD.skip_end (by rw [HN.out];omega),HN.out]at h1
    have:=HV.out
    rw [←h1,if_neg (by omega)]at this
    simp only [Prod.mk.injEq]at this
    exact⟨this.1.symm,this.2.1.symm,this.2.2.symm⟩)
   obtain⟨rfl,rfl,rfl⟩:=HS2.out
   have H1:=Lib.hid H.out.1
   have dp:decide ((N:Int)≤(f:Int))=true:=by simp;omega
   clear H HV HS2 hlt
   go_wp2
   simp only [Exit.jump]
   refine bodyPost_ret (v:= .tuple #[.int .i64 0,.int .i64 0,.bool false]) (by simp [results,Tryz.results79,go_sem]) rfl ⟨rfl,H1.out⟩
open Go.RowKit
namespace WD
section
variable {K:SG.Kinds}{lt:Int→Bool}{l:List Int}
theorem bnd_of (K:SG.Kinds)(l:List Int)(i:Nat):bnd K l (SG.nextP K l i):=by
 rcases Nat.lt_or_ge l.length i with h|h
 ·rw [SG.nextP_end (by omega)];exact bnd_len
 ·rw [next_first K l _ _ rfl]
  obtain⟨_,h2,h3,_⟩:=first_spec (p:=SG.begAt K l) (n:=l.length) (i:=i) h
  exact⟨h2,h3⟩
theorem floor_bnd (K:SG.Kinds)(l:List Int)(a:Nat)(ha:a≤l.length):bnd K l (floorP K l a):=by
 induction a with
 |zero=>exact⟨Nat.zero_le _,fun _=>rfl⟩
 |succ a ih=>
  unfold floorP
  by_cases h:isP K l (a+1)=true
  ·rw [if_pos h]
   exact⟨ha,fun h2=>by rw [←isP_lt K h2];exact h⟩
  ·rw [if_neg h];exact ih (by omega)
theorem floorI_bnd (K:SG.Kinds)(l:List Int)(a:Int):bnd K l (floorI K l a):=floor_bnd K l _ (by omega)
theorem next_to {a e:Nat}(ha:a<e)(he:bnd K l e):SG.nextP K l (a+1)≤e:=by
 rcases Nat.lt_or_ge e (SG.nextP K l (a+1))with h|h
 ·have hl:e<l.length:=Nat.lt_of_lt_of_le h (SG.nextP_le K l _)
  have h1:=(bnd_next (K:=K) (l:=l) (a:=a) (by omega)).2.2 e ha h
  rw [he.2 hl]at h1
  cases h1
 ·exact h
theorem lastF_skip {f a:Nat}:∀e,a+1≤e→(∀j,a<j→j<e→SG.begAt K l j=false)→lastF K lt l f e=lastF K lt l f (a+1):=by
 intro e
 induction e with
 |zero=>intro h;omega
 |succ e ih=>
  intro h hq
  rcases Nat.eq_or_lt_of_le h with h1|h1
  ·rw [←h1]
  ·have h2:=hq e (by omega) (by omega)
   rw [lastF,if_neg (by unfold let_;rw [h2];simp)]
   exact ih (by omega) fun j hj1 hj2=>hq j hj1 (by omega)
theorem lastF_low {f:Nat}:∀e,e≤f→lastF K lt l f e=none:=by
 intro e
 induction e with
 |zero=>intro _;rfl
 |succ e ih=>
  intro h
  rw [lastF,if_neg (by omega)]
  exact ih (by omega)
theorem prev_next {a:Nat}(h:a<l.length)(hb:SG.begAt K l a=true):prev K lt l (SG.nextP K l (a+1))=lt (l.getD a 0):=by
 obtain⟨h1,h2,h3⟩:=bnd_next (K:=K) h
 unfold prev
 rw [show decide (0<SG.nextP K l (a+1))=true by simp;omega,Bool.true_and]
 rw [floor_quiet hb (SG.nextP K l (a+1) - 1 - a) _ (by omega) (by have:=h1.1;omega) fun j hj1 hj2=>h3 j hj1 (by omega)]
theorem lastF_lt {f b:Nat}:∀e,lastF K lt l f e=some b→b<e∧f≤b:=by
 intro e
 induction e with
 |zero=>intro h;cases h
 |succ e ih=>
  intro h
  rw [lastF]at h
  split at h
  ·injection h with h;omega
  ·have:=ih h;omega
theorem lastF_all {f b:Nat}(hb:f<b):∀e,lastF K lt l f e=some b→lastF K lt l 0 e=some b:=by
 intro e
 induction e with
 |zero=>intro h;cases h
 |succ e ih=>
  intro h
  have hlt:=lastF_lt _ h
  rw [lastF]at h ⊢
  by_cases hc:f≤e∧let_ K lt l e=true∧(e=f∨prev K lt l e=false)
  ·rw [if_pos hc]at h
   injection h with h
   subst h
   rw [if_pos ⟨Nat.zero_le _,hc.2.1,hc.2.2.elim (fun h=>by omega) fun h=> .inr h⟩]
  ·rw [if_neg hc]at h
   have h2:=lastF_lt _ h
   rw [if_neg (fun hn=>hc ⟨by omega,hn.2.1,hn.2.2.elim (fun h=>by omega) fun h=> .inr h⟩)]
   exact ih h
end
def optI (o:Option Nat):Int:=match o with|none=> -1|some j=>j
end WD
set_option maxHeartbeats 4000000 in
theorem forward_any {w:World}{T:List RW.Row}{tp:Nat}{A:Option Addr}{c:Nat}{l:List Int}(h:TT w T tp A c l)(hok:(KT T).ok)(a:Int)(ha:a≤9223372036854775807)(V:Nat)(hV:WD.fwd (KT T) (ltT T) l (SG.nextP (KT T) l a.toNat)=V):
  Calls Tryz.prog 35 #[.pointer (some ⟨tp,0,none⟩),.slice A l.length c,.int .i64 a] w fun e w'=>e= .returned (.int .i64 (V:Nat))∧Below w.heap.size w w':=by
 have CC:=Lib.hid (pceil_any h a ha)
 have CN:=Lib.hid (fun(X:World) (hX:Below w.heap.size w X) (F E:Int) (O:Bool) hv=>wnext_any (h.later hX) hok (SG.nextP (KT T) l a.toNat) (WD.bnd_of _ _ _) F E O hv)
 obtain⟨g,hg⟩:∃g,SG.nextP (KT T) l a.toNat=g:=⟨_,rfl⟩
 rw [hg]at CC CN hV
 obtain⟨S,hS⟩:∃S,WD.skip (KT T) (ltT T) l g=S:=⟨_,rfl⟩
 obtain⟨R,hR⟩:∃R,WD.run (KT T) (ltT T) l S=R:=⟨_,rfl⟩
 unfold WD.fwd at hV
 rw [hS,hR]at hV
 rw [hS,hR]at CN
 obtain⟨N,hN⟩:∃N,l.length=N:=⟨_,rfl⟩
 rw [hN]at CC CN hV ⊢
 clear h hok hg hS hR hN
 by_cases hs:S<N
 ·rw [if_pos hs]at hV
  subst hV
  have CN2:=Lib.hid (fun(X:World) (hX:Below w.heap.size w X)=>CN.out X hX ((S:Nat):Int) ((R:Nat):Int) true (if_pos hs))
  clear CN
  go_enter Tryz.func35,Tryz.ntmps35
  go_wp2_with fail
  refine CC.out.mono ?_
  rintro e w1 ⟨rfl,hb1⟩
  have C2:=Lib.hid (CN2.out w1 hb1)
  have B1:=Lib.hid hb1
  clear CC hb1 CN2
  go_wp2_with fail
  refine C2.out.mono ?_
  rintro e w2 ⟨rfl,hb2⟩
  have B2:=Lib.hid (bStepS B1.out hb2)
  clear C2 hb2
  go_wp2
  go_ret
  exact⟨rfl,B2.out⟩
 ·rw [if_neg hs]at hV
  subst hV
  have CN2:=Lib.hid (fun(X:World) (hX:Below w.heap.size w X)=>CN.out X hX 0 0 false (if_neg hs))
  clear CN
  go_enter Tryz.func35,Tryz.ntmps35
  go_wp2_with fail
  refine CC.out.mono ?_
  rintro e w1 ⟨rfl,hb1⟩
  have C2:=Lib.hid (CN2.out w1 hb1)
  have B1:=Lib.hid hb1
  clear CC hb1 CN2
  go_wp2_with fail
  refine C2.out.mono ?_
  rintro e w2 ⟨rfl,hb2⟩
  have B2:=Lib.hid (bStepS B1.out hb2)
  clear C2 hb2
  go_wp2
  go_ret
  exact⟨rfl,B2.out⟩
set_option maxHeartbeats 4000000 in
theorem lastBegin_any {w:World}{T:List RW.Row}{tp:Nat}{A:Option Addr}{c:Nat}{l:List Int}(h:TT w T tp A c l)(hok:(KT T).ok)(f E:Nat)(hf:WD.bnd (KT T) l f)(hE:WD.bnd (KT T) l E)(hfE:f≤E)(V:Int)(hV:WD.optI (WD.lastF (KT T) (ltT T) l f E)=V):
  Calls Tryz.prog 84 #[.pointer (some ⟨tp,0,none⟩),.slice A l.length c,.int .i64 (f:Nat),.int .i64 (E:Nat)] w fun e w'=>e= .returned (.int .i64 V)∧Below w.heap.size w w':=by
 have HT:=Lib.hid h
 have HK:=Lib.hid hok
 have HE:=Lib.hid (And.intro hE hV)
 have hEn:=hE.1
 obtain⟨N,hN⟩:∃N,l.length=N:=⟨_,rfl⟩
 have hfew:=h.few
 rw [hN]at hfew hEn ⊢
 have HN:=Lib.hid hN
 have H0:=Lib.hid (show WD.bnd (KT T) l f∧WD.optI (WD.lastF (KT T) (ltT T) l f f)= -1 from⟨hf,by rw [WD.lastF_low _ (Nat.le_refl _)];rfl⟩)
 clear h hok hV hN hf hE
 go_enter Tryz.func84,Tryz.ntmps84
 go_wp2
 go_loopw [9,10,11,12] (fun bv iv av _ wr=>∃ (g:Nat) (b:Int) (i:Bool),av= .int .i64 g∧bv= .int .i64 b∧iv= .bool i∧f≤g∧g≤E∧Hid (Below w.heap.size w wr∧WD.bnd (KT T) l g∧WD.optI (WD.lastF (KT T) (ltT T) l f g)=b∧i=(decide (f<g)&&WD.prev (KT T) (ltT T) l g))) (fun _ _ a _ _=>E -(intOf a).toNat)
 case atStart=>exact⟨f,-1,false,rfl,rfl,rfl,Nat.le_refl _,hfE,Below.refl _ _,H0.out.1,H0.out.2,by simp⟩
 case round=>
  obtain⟨g,b,i,rfl,rfl,rfl,hfg,hgE,H⟩:=hrel
  by_cases hlt:g<E
  ·obtain⟨bb,o,rfl,hbb,_,hcell⟩:=(HT.out.later H.out.1).txt.scs (by rw [HN.out];omega)
   have k0:=hcell g (by rw [HN.out];omega)
   have hr:=HT.out.sc.at (j:=g) (by rw [HN.out];omega)
   obtain⟨y,hy⟩:∃y,l.getD g 0=y:=⟨_,rfl⟩
   rw [hy]at k0 hr
   have C:=Lib.hid (tletter (HT.out.later H.out.1).tabs y hr.1 hr.2)
   have hgl:g<l.length:=by rw [HN.out];omega
   have hbg:=H.out.2.1.2 hgl
   have CN:=Lib.hid (fun X (hX:Below w.heap.size w X)=>pseg_next (HT.out.later hX) HK.out (a:=g) hgl hbg)
   have hnx:=WD.bnd_next (K:=KT T) (l:=l) (a:=g) hgl
   have hto:=WD.next_to hlt HE.out.1
   have hpv:=WD.prev_next (K:=KT T) (lt:=ltT T) hgl hbg
   have hls:=WD.lastF_skip (K:=KT T) (lt:=ltT T) (l:=l) (f:=f) (a:=g) _ (by omega) hnx.2.2
   rw [hy]at hpv
   obtain⟨v,hv⟩:∃v,SG.nextP (KT T) l (g+1)=v:=⟨_,rfl⟩
   rw [hv]at CN hnx hto hpv hls
   rw [HN.out]at CN
   have hle:WD.let_ (KT T) (ltT T) l g=ltT T y:=by unfold WD.let_;rw [hbg,hy];rfl
   obtain⟨q,hq⟩:∃q,ltT T y=q:=⟨_,rfl⟩
   rw [hq]at C hpv hle
   have hgv:=hnx.2.1
   have HS:=Lib.hid (show WD.bnd (KT T) l v∧WD.optI (WD.lastF (KT T) (ltT T) l f v)=(if (q&& !i)=true then (g:Int)else b)∧q=(decide (f<v)&&WD.prev (KT T) (ltT T) l v)by
    refine⟨hnx.1,?_,by rw [hpv,show decide (f<v)=true by simp;omega,Bool.true_and]⟩
    rw [hls,WD.lastF,hle]
    have hi:=H.out.2.2.2
    rcases Nat.eq_or_lt_of_le hfg with e|e
    ·subst e
     rw [show decide (f<f)=false by simp,Bool.false_and]at hi
     subst hi
     cases q
     ·rw [if_neg (by simp)];exact H.out.2.2.1
     ·rw [if_pos ⟨Nat.le_refl _,rfl,.inl rfl⟩];rfl
    ·rw [show decide (f<g)=true by simpa using e,Bool.true_and]at hi
     subst hi
     cases q
     ·rw [if_neg (by simp)];exact H.out.2.2.1
     ·cases hp:WD.prev (KT T) (ltT T) l g
      ·rw [if_pos ⟨by omega,rfl,.inr rfl⟩];rfl
      ·rw [if_neg (fun h=>h.2.2.elim (fun h=>by omega) fun h=>by cases h)];exact H.out.2.2.1)
   clear hcell hr hy hv hnx hpv hls hle hq hbg
   go_wp2_with fail
   refine C.out.mono ?_
   rintro e w3 ⟨rfl,hb3⟩
   have H3:=Lib.hid (bStepS H.out.1 hb3)
   clear C hb3 k0
   cases q<;>cases i
   all_goals
    go_wp2_with fail
    refine(CN.out _ H3.out).mono ?_
    rintro e w4 ⟨rfl,hb4⟩
    have H4:=Lib.hid (bStepS H3.out hb4)
    clear CN hb4
    go_wp2
    go_roundw
    case rel=>exact⟨v,_,_,by go_num,rfl,rfl,by omega,hto,H4.out,HS.out.1,HS.out.2.1,HS.out.2.2⟩
    case measure=>simp [intOf];omega
  ·obtain rfl:g=E:=by omega
   obtain rfl:b=V:=by rw [←H.out.2.2.1];exact HE.out.2
   have dp:decide ((g:Int)<(g:Int))=false:=by simp
   go_wp2
   go_ret
   exact⟨rfl,H.out.1⟩
open Go.RowKit
namespace WD
theorem range_none {p:Nat→Bool}{a:Nat}:∀b,a≤b→(∀j,a≤j→j<b→p j=false)→(List.range b).filter p=(List.range a).filter p:=by
 intro b
 induction b with
 |zero=>intro h _;rw [show a=0 by omega]
 |succ b ih=>
  intro h hq
  rcases Nat.eq_or_lt_of_le h with h1|h1
  ·rw [h1]
  ·rw [List.range_succ,List.filter_append,List.filter_cons_of_neg (by rw [hq b (by omega) (by omega)];decide),List.filter_nil,List.append_nil]
   exact ih (by omega) fun j hj1 hj2=>hq j hj1 (by omega)
theorem range_one {p:Nat→Bool}{a s b:Nat}(h1:a≤s)(h2:s<b)(hp:p s=true)(hq:∀j,a≤j→j<b→j≠s→p j=false):(List.range b).filter p=(List.range a).filter p++[s]:=by
 rw [range_none (a:=s+1) b (by omega) fun j hj1 hj2=>hq j (by omega) hj2 (by omega),List.range_succ,List.filter_append,List.filter_cons_of_pos hp,List.filter_nil]
 rw [range_none (a:=a) s h1 fun j hj1 hj2=>hq j hj1 (by omega) (by omega)]
section
variable {K:SG.Kinds}{lt:Int→Bool}{l:List Int}
theorem floor_ge {a b:Nat}(hb:SG.begAt K l b=true):b≤a→a<l.length→b≤floorP K l a:=by
 induction a with
 |zero=>intro h _;omega
 |succ a ih=>
  intro h ha
  unfold floorP
  by_cases h1:isP K l (a+1)=true
  ·rw [if_pos h1];exact h
  ·rw [if_neg h1]
   rcases Nat.eq_or_lt_of_le h with h2|h2
   ·exfalso
    apply h1
    rw [isP_lt K ha,←h2]
    exact hb
   ·exact ih (by omega) (by omega)
theorem prev_of {j:Nat}(h0:0<j):prev K lt l j=lt (l.getD (floorP K l (j - 1)) 0):=by unfold prev;rw [show decide (0<j)=true by simpa using h0,Bool.true_and]
theorem floor_begs {a:Nat}(ha:a<l.length):SG.begAt K l (floorP K l a)=true:=(floor_bnd K l a (by omega)).2 (Nat.lt_of_le_of_lt (floorP_le K l a) ha)
theorem floor_up (a:Nat):floorP K l a≤a:=floorP_le K l a
def begs (K:SG.Kinds)(lt:Int→Bool)(l:List Int)(a:Nat):List Nat:=(List.range a).filter (beg K lt l)
def wordsTo (K:SG.Kinds)(lt:Int→Bool)(l:List Int)(a:Nat):List (Nat × Nat):=(begs K lt l a).map fun j=>(j,run K lt l j)
theorem wordsTo_zero:wordsTo K lt l 0=[]:=rfl
theorem wordsTo_all:wordsTo K lt l l.length=words K lt l:=rfl
def stop (K:SG.Kinds)(lt:Int→Bool)(l:List Int)(a:Nat):Prop:=bnd K l a∧(a=0∨(a<l.length→lt (l.getD a 0)=false))
theorem run_stop {s:Nat}(hs:s≤l.length):stop K lt l (run K lt l s):=by
 obtain⟨h1,h2,h3,h4⟩:=first_spec (p:=non K lt l) (n:=l.length) (i:=s) hs
 have h5:run K lt l s<l.length→non K lt l (run K lt l s)=true:=h3
 refine⟨⟨h2,fun h=> ?_⟩,.inr fun h=> ?_⟩
 ·have:=h5 h
  unfold non at this
  rw [Bool.and_eq_true]at this
  exact this.1
 ·have:=h5 h
  unfold non at this
  rw [Bool.and_eq_true]at this
  simpa using this.2
theorem let_false_of {j:Nat}(h:let_ K lt l j=false):beg K lt l j=false:=by unfold beg;rw [h];rfl
theorem words_step {a:Nat}(h:stop K lt l a)(hs:skip K lt l a<l.length):wordsTo K lt l (run K lt l (skip K lt l a))=wordsTo K lt l a++[(skip K lt l a,run K lt l (skip K lt l a))]∧skip K lt l a<run K lt l (skip K lt l a):=by
 obtain⟨h1,h2,h3,h4⟩:=first_spec (p:=let_ K lt l) (n:=l.length) (i:=a) h.1.1
 change a≤skip K lt l a at h1
 have hS:let_ K lt l (skip K lt l a)=true:=h3 hs
 have hSb:SG.begAt K l (skip K lt l a)=true:=(Bool.and_eq_true _ _▸ (show (SG.begAt K l (skip K lt l a)&&lt (l.getD (skip K lt l a) 0))=true from hS)).1
 have hSl:lt (l.getD (skip K lt l a) 0)=true:=(Bool.and_eq_true _ _▸ (show (SG.begAt K l (skip K lt l a)&&lt (l.getD (skip K lt l a) 0))=true from hS)).2
 have hno:∀j,a≤j→j<skip K lt l a→let_ K lt l j=false:=h4
 obtain⟨S,hSS⟩:∃S,skip K lt l a=S:=⟨_,rfl⟩
 rw [hSS]at hs hS hSb hSl hno h1 ⊢
 obtain⟨r1,r2,r3,r4⟩:=first_spec (p:=non K lt l) (n:=l.length) (i:=S) (by omega)
 change S≤run K lt l S at r1
 have rno:∀j,S≤j→j<run K lt l S→non K lt l j=false:=r4
 have hlt:S<run K lt l S:=by
  rw [run_yes hs hSl]
  obtain⟨b1,b2,_⟩:=bnd_next (K:=K) hs
  have:=(first_spec (p:=non K lt l) (n:=l.length) (i:=SG.nextP K l (S+1)) b1.1).1
  change _≤run K lt l _ at this
  omega
 have hbeg:beg K lt l S=true:=by
  unfold beg
  rw [hS,Bool.true_and]
  rcases Nat.eq_zero_or_pos S with h0|h0
  ·subst h0;rfl
  ·rw [prev_of h0]
   have hf:=floor_begs (K:=K) (l:=l) (a:=S - 1) (by omega)
   have hfl:=floor_up (K:=K) (l:=l) (S - 1)
   rcases Nat.eq_or_lt_of_le h1 with h5|h5
   ·exfalso
    rcases h.2 with h6|h6
    ·omega
    ·have:=h6 (by omega)
     rw [h5,hSl]at this
     cases this
   ·have ha:SG.begAt K l a=true:=h.1.2 (by omega)
    have hge:=floor_ge ha (a:=S - 1) (by omega) (by omega)
    have:=hno _ hge (by omega)
    unfold let_ at this
    rw [hf,Bool.true_and]at this
    rw [this]
    rfl
 refine⟨?_,hlt⟩
 unfold wordsTo begs
 rw [range_one h1 hlt hbeg fun j hj1 hj2 hne=> ?_,List.map_append]
 ·rfl
 ·rcases Nat.lt_or_ge j S with h5|h5
  ·exact let_false_of (hno j hj1 h5)
  ·unfold beg
   cases hl:let_ K lt l j
   ·rfl
   ·rw [Bool.true_and,prev_of (by omega)]
    have hf:=floor_begs (K:=K) (l:=l) (a:=j - 1) (by have:=r2;change run K lt l S≤_ at this;omega)
    have hge:=floor_ge hSb (a:=j - 1) (by omega) (by have:=r2;change run K lt l S≤_ at this;omega)
    have hfl:=floor_up (K:=K) (l:=l) (j - 1)
    have:=rno _ hge (by omega)
    unfold non at this
    rw [hf,Bool.true_and]at this
    simp only [Bool.not_eq_false']at this
    rw [this]
    rfl
theorem words_end {a:Nat}(h:stop K lt l a)(hs:l.length≤skip K lt l a):wordsTo K lt l a=words K lt l:=by
 obtain⟨h1,h2,h3,h4⟩:=first_spec (p:=let_ K lt l) (n:=l.length) (i:=a) h.1.1
 have hno:∀j,a≤j→j<skip K lt l a→let_ K lt l j=false:=h4
 rw [←wordsTo_all]
 unfold wordsTo begs
 rw [range_none (a:=a) l.length h.1.1 fun j hj1 hj2=>let_false_of (hno j hj1 (by omega))]
def refTo (K:SG.Kinds)(lt:Int→Bool)(l:List Int)(a:Nat):List (Nat × Nat):=(begs K lt l a).map fun j=>(j,min (run K lt l j) a)
def cont (K:SG.Kinds)(lt:Int→Bool)(l:List Int)(a:Nat):Prop:=prev K lt l a=true→∃j0 D,begs K lt l a=D++[j0]∧a≤run K lt l j0
theorem run_le {j a:Nat}(h:j≤a)(ha:a<l.length)(hn:non K lt l a=true):run K lt l j≤a:=by
 obtain⟨h1,h2,h3,h4⟩:=first_spec (p:=non K lt l) (n:=l.length) (i:=j) (by omega)
 change j≤run K lt l j at h1
 rcases Nat.lt_or_ge a (run K lt l j)with h5|h5
 ·have:=h4 a h h5
  rw [hn]at this
  cases this
 ·exact h5
theorem begs_lt {a j:Nat}(h:j∈begs K lt l a):j<a∧beg K lt l j=true:=by
 unfold begs at h
 rw [List.mem_filter,List.mem_range]at h
 exact h
theorem beg_begs {j:Nat}(h:beg K lt l j=true):SG.begAt K l j=true∧lt (l.getD j 0)=true∧prev K lt l j=false:=by
 unfold beg let_ at h
 simp only [Bool.and_eq_true,Bool.not_eq_true']at h
 exact⟨h.1.1,h.1.2,h.2⟩
theorem run_prev {j a:Nat}(h:j<a)(ha:a≤l.length)(hj:SG.begAt K l j=true)(hp:prev K lt l a=false):run K lt l j≤a:=by
 rw [prev_of (by omega)]at hp
 have hf:=floor_begs (K:=K) (l:=l) (a:=a - 1) (by omega)
 have hfl:=floor_up (K:=K) (l:=l) (a - 1)
 have hge:=floor_ge hj (a:=a - 1) (by omega) (by omega)
 have:=run_le (lt:=lt) hge (by omega) (show non K lt l (floorP K l (a - 1))=true by unfold non;rw [hf,hp];rfl)
 omega
theorem ref_congr {a b:Nat}(hab:a≤b){D:List Nat}(h:∀j∈D,run K lt l j≤a):D.map (fun j=>(j,min (run K lt l j) b))=D.map fun j=>(j,min (run K lt l j) a):=List.map_congr_left fun j hj=>by rw [Nat.min_eq_left (h j hj),Nat.min_eq_left (Nat.le_trans (h j hj) hab)]
theorem ref_no {a:Nat}(ha:a<l.length)(hb:SG.begAt K l a=true)(hl:lt (l.getD a 0)=false):refTo K lt l (SG.nextP K l (a+1))=refTo K lt l a∧cont K lt l (SG.nextP K l (a+1)):=by
 obtain⟨h1,h2,h3⟩:=bnd_next (K:=K) ha
 refine⟨?_,fun h=>by rw [prev_next ha hb,hl]at h;cases h⟩
 have he:begs K lt l (SG.nextP K l (a+1))=begs K lt l a:=range_none _ (by omega) fun j hj1 hj2=>by
  rcases Nat.eq_or_lt_of_le hj1 with rfl|h4
  ·exact let_false_of (by unfold let_;rw [hl,Bool.and_false])
  ·exact let_false_of (by unfold let_;rw [h3 j h4 hj2];rfl)
 unfold refTo
 rw [he]
 exact ref_congr (by omega) fun j hj=>run_le (Nat.le_of_lt (begs_lt hj).1) ha (by unfold non;rw [hb,hl];rfl)
theorem ref_new {a:Nat}(ha:a<l.length)(hb:SG.begAt K l a=true)(hl:lt (l.getD a 0)=true)(hp:prev K lt l a=false):refTo K lt l (SG.nextP K l (a+1))=refTo K lt l a++[(a,SG.nextP K l (a+1))]∧cont K lt l (SG.nextP K l (a+1))∧∀x∈refTo K lt l a,x.2=a→False:=by
 obtain⟨h1,h2,h3⟩:=bnd_next (K:=K) ha
 have he:begs K lt l (SG.nextP K l (a+1))=begs K lt l a++[a]:=range_one (Nat.le_refl _) h2 (by unfold beg let_;rw [hb,hl,hp];rfl) fun j hj1 hj2 hne=>let_false_of (by unfold let_;rw [h3 j (by omega) hj2];rfl)
 have hr:SG.nextP K l (a+1)≤run K lt l a:=by
  rw [run_yes ha hl]
  exact(first_spec (p:=non K lt l) (n:=l.length) (i:=SG.nextP K l (a+1)) h1.1).1
 have hrl:∀j∈begs K lt l a,run K lt l j≤a:=fun j hj=>run_prev (begs_lt hj).1 (by omega) (beg_begs (begs_lt hj).2).1 hp
 refine⟨?_,fun _=>⟨a,_,he,hr⟩,fun x hx e=> ?_⟩
 ·unfold refTo
  rw [he,List.map_append,ref_congr (a:=a) (by omega) hrl]
  simp [Nat.min_eq_right hr]
 ·unfold refTo at hx
  obtain⟨j,hj,rfl⟩:=List.mem_map.1 hx
  have h4:=begs_lt hj
  have h5:=beg_begs h4.2
  rw [Nat.min_eq_left (hrl j hj)]at e
  rw [prev_of (by omega)]at hp
  have hf:=floor_begs (K:=K) (l:=l) (a:=a - 1) (by omega)
  have hfl:=floor_up (K:=K) (l:=l) (a - 1)
  have hge:=floor_ge h5.1 (a:=a - 1) (by omega) (by omega)
  have:=run_le (lt:=lt) hge (by omega) (show non K lt l (floorP K l (a - 1))=true by unfold non;rw [hf,hp];rfl)
  have e2:run K lt l j=a:=e
  omega
theorem ref_on {a:Nat}(ha:a<l.length)(hb:SG.begAt K l a=true)(hl:lt (l.getD a 0)=true)(hp:prev K lt l a=true)(hc:cont K lt l a):∃D j0,refTo K lt l a=D++[(j0,a)]∧refTo K lt l (SG.nextP K l (a+1))=D++[(j0,SG.nextP K l (a+1))]∧cont K lt l (SG.nextP K l (a+1)):=by
 obtain⟨h1,h2,h3⟩:=bnd_next (K:=K) ha
 obtain⟨j0,D,hD,hj0⟩:=hc hp
 have he:begs K lt l (SG.nextP K l (a+1))=D++[j0]:=by
  rw [←hD]
  refine range_none _ (by omega) fun j hj1 hj2=> ?_
  rcases Nat.eq_or_lt_of_le hj1 with rfl|h4
  ·unfold beg;rw [hp,Bool.not_true,Bool.and_false]
  ·exact let_false_of (by unfold let_;rw [h3 j h4 hj2];rfl)
 have hm:j0∈begs K lt l a:=by rw [hD];simp
 have hj0a:=(begs_lt hm).1
 have hb0:=beg_begs (begs_lt hm).2
 have hr:SG.nextP K l (a+1)≤run K lt l j0:=by
  obtain⟨r1,r2,r3,r4⟩:=first_spec (p:=non K lt l) (n:=l.length) (i:=j0) (by omega)
  change run K lt l j0≤l.length at r2
  rcases Nat.lt_or_ge (run K lt l j0) (SG.nextP K l (a+1))with h5|h5
  ·have hn:non K lt l (run K lt l j0)=true:=r3 (by have:=h1.1;change run K lt l j0<_;omega)
   unfold non at hn
   rw [Bool.and_eq_true]at hn
   rcases Nat.eq_or_lt_of_le hj0 with e|e
   ·rw [←e,hl]at hn
    exact absurd hn.2 (by decide)
   ·rw [h3 _ e h5]at hn
    exact absurd hn.1 (by decide)
  ·exact h5
 have hsorted:∀j∈D,run K lt l j≤a:=fun j hj=>by
  have hjm:j∈begs K lt l a:=by rw [hD];exact List.mem_append_left _ hj
  have hb5:=beg_begs (begs_lt hjm).2
  have hlt:j<j0:=by
   have hs:(begs K lt l a).Pairwise (· < ·):=List.Pairwise.filter _ List.pairwise_lt_range
   rw [hD,List.pairwise_append]at hs
   exact hs.2.2 j hj j0 (by simp)
  have:=run_prev hlt (by omega) hb5.1 hb0.2.2
  omega
 refine⟨D.map fun j=>(j,min (run K lt l j) a),j0,?_,?_,fun _=>⟨j0,D,he,hr⟩⟩
 ·unfold refTo
  rw [hD,List.map_append]
  simp [Nat.min_eq_right hj0]
 ·unfold refTo
  rw [he,List.map_append,ref_congr (a:=a) (by omega) hsorted]
  simp [Nat.min_eq_right hr]
theorem ref_end:refTo K lt l l.length=words K lt l:=by
 unfold refTo words
 exact List.map_congr_left fun j hj=>by
  have h:=begs_lt hj
  rw [Nat.min_eq_left (show run K lt l j≤l.length from(first_spec (p:=non K lt l) (n:=l.length) (i:=j) (by omega)).2.1)]
theorem words_len:(words K lt l).length≤l.length:=by
 unfold words
 rw [List.length_map]
 have:=List.length_filter_le (beg K lt l) (List.range l.length)
 rwa [List.length_range]at this
end
end WD
open Go.RowKit
set_option maxHeartbeats 4000000 in
theorem wback_any {w:World}{T:List RW.Row}{tp:Nat}{A:Option Addr}{c:Nat}{l:List Int}(h:TT w T tp A c l)(hok:(KT T).ok)(a:Int)(V:Nat)(hV:WD.back (KT T) (ltT T) l (floorI (KT T) l a)=V):
  Calls Tryz.prog 37 #[.pointer (some ⟨tp,0,none⟩),.slice A l.length c,.int .i64 a] w fun e w'=>e= .returned (.int .i64 (V:Nat))∧Below w.heap.size w w':=by
 have CF:=Lib.hid (pfloor_any h a)
 have HT:=Lib.hid h
 have HK:=Lib.hid hok
 obtain⟨E,hE⟩:∃E,floorI (KT T) l a=E:=⟨_,rfl⟩
 have hEb:WD.bnd (KT T) l E:=by rw [←hE];exact WD.floorI_bnd _ _ _
 rw [hE]at CF hV
 have HEb:=Lib.hid (And.intro hEb hV)
 have hfew:=h.few
 have hEn:=hEb.1
 have CP:=Lib.hid (fun(X:World) (hX:Below w.heap.size w X) (a:Int)=>pfloor_any (h.later hX) a)
 have CL:=Lib.hid (fun(X:World) (hX:Below w.heap.size w X) (f:Nat) (hf:WD.bnd (KT T) l f) (hfE:f≤E) (V:Int) hv=>lastBegin_any (h.later hX) hok f E hf hEb hfE V hv)
 obtain⟨N,hN⟩:∃N,l.length=N:=⟨_,rfl⟩
 rw [hN]at CF CP CL hfew hEn ⊢
 clear h hok hE hEb hV hN
 go_enter Tryz.func37,Tryz.ntmps37
 go_wp2_with fail
 refine CF.out.mono ?_
 rintro e w1 ⟨rfl,hb1⟩
 have B1:=Lib.hid hb1
 clear CF hb1
 go_wp2
 go_loopw [8,9,10] (fun rv _ _ wr=>∃r:Nat,rv= .int .i64 r∧16≤r∧r≤2*E+16∧Hid (Below w.heap.size w wr)) (fun r _ _ _=>2*E+17 -(intOf r).toNat)
 case atStart=>exact⟨16,rfl,Nat.le_refl _,by omega,B1⟩
 case round=>
  obtain⟨r,rfl,hr1,hr2,H⟩:=hrel
  have C:=Lib.hid (CP.out wr H.out ((E:Int) -(r:Int)))
  have hlow:E≤r→floorI (KT T) l ((E:Int) -(r:Int))=0:=fun h=>floorI_low (by omega)
  have hfl:floorI (KT T) l ((E:Int) -(r:Int))≤E:=by
   have h1:=floorP_le (KT T) l (min ((E:Int) -(r:Int)) l.length).toNat
   unfold floorI
   omega
  have hfb:=WD.floorI_bnd (KT T) l ((E:Int) -(r:Int))
  obtain⟨f,hf⟩:∃f,floorI (KT T) l ((E:Int) -(r:Int))=f:=⟨_,rfl⟩
  rw [hf]at C hlow hfl hfb
  have e0:IntKind.i64.wrap ((E:Int) -(r:Int))=(E:Int) -(r:Int):=by rw [IntKind.wrap_i64];omega
  have HFb:=Lib.hid hfb
  obtain⟨b,hb⟩:∃b,WD.optI (WD.lastF (KT T) (ltT T) l f E)=b:=⟨_,rfl⟩
  have HBv:=Lib.hid hb
  have HLow:=Lib.hid hlow
  clear hf hfb hb hlow
  go_wp2_with fail
  refine C.out.mono ?_
  rintro e w2 ⟨rfl,hb2⟩
  have B2:=Lib.hid (bStepS H.out hb2)
  clear C hb2
  have C2:=Lib.hid (CL.out w2 B2.out f HFb.out hfl b HBv.out)
  go_wp2_with fail
  refine C2.out.mono ?_
  rintro e w3 ⟨rfl,hb3⟩
  have B3:=Lib.hid (bStepS B2.out hb3)
  clear C2 hb3
  by_cases h0:f=0
  ·subst h0
   have HM:=Lib.hid (show max b 0=((V:Nat):Int)by
    rw [←HBv.out,←HEb.out.2]
    unfold WD.back
    cases WD.lastF (KT T) (ltT T) l 0 E with
    |none=>rfl
    |some j=>show max ((j:Nat):Int) 0=((j:Nat):Int);omega)
   clear HBv HEb
   go_wp2
   go_ret
   exact⟨congrArg (fun x=>Ending.returned (.int .i64 x)) HM.out,B3.out⟩
  ·have d0:((f:Int)==0)=false:=by simp;omega
   by_cases hbf:(f:Int)<b
   ·have HM:=Lib.hid (show b=((V:Nat):Int)by
     have h1:=HBv.out
     rw [←HEb.out.2]
     unfold WD.back
     cases hq:WD.lastF (KT T) (ltT T) l f E with
     |none=>
      rw [hq]at h1
      have:(-1:Int)=b:=h1
      omega
     |some j=>
      rw [hq]at h1
      have h2:((j:Nat):Int)=b:=h1
      rw [WD.lastF_all (by omega) _ hq]
      exact h2.symm)
    clear HBv HEb h0
    go_wp2
    go_ret
    exact⟨congrArg (fun x=>Ending.returned (.int .i64 x)) HM.out,B3.out⟩
   ·have d1:decide ((f:Int)<b)=false:=by simpa using hbf
    have hrE:r<E:=by
     rcases Nat.lt_or_ge r E with h|h
     ·exact h
     ·exact absurd (HLow.out h) h0
    have e1:IntKind.i64.wrap ((r:Int)*2)=(r:Int)*2:=by rw [IntKind.wrap_i64];omega
    clear hbf h0
    go_wp2
    go_roundw
    case rel=>exact⟨r*2,by go_num,by omega,by omega,B3⟩
    case measure=>simp [intOf];omega
def abcd:List Int:=[97,98,44,32,99,100]
set_option maxRecDepth 100000 in
theorem wx_0:WD.fwd (KT RW.rowsT) (ltT RW.rowsT) abcd (SG.nextP (KT RW.rowsT) abcd 0)=2:=by decide+kernel
set_option maxRecDepth 100000 in
theorem wx_1:WD.fwd (KT RW.rowsT) (ltT RW.rowsT) abcd (SG.nextP (KT RW.rowsT) abcd 2)=6:=by decide+kernel
set_option maxRecDepth 100000 in
theorem wx_2:WD.back (KT RW.rowsT) (ltT RW.rowsT) abcd (floorI (KT RW.rowsT) abcd 6)=4:=by decide+kernel
set_option maxRecDepth 100000 in
theorem wx_3:WD.back (KT RW.rowsT) (ltT RW.rowsT) abcd (floorI (KT RW.rowsT) abcd 4)=0:=by decide+kernel
set_option maxHeartbeats 8000000 in
set_option maxRecDepth 100000 in
theorem awake12_yes (w:World):Calls Tryz.prog 33 #[] w fun e w'=>e= .returned (.bool true)∧Below w.heap.size w w':=by
 obtain⟨T,hG,hT,C0⟩:=rows_li w
 have HG:=Lib.hid hG
 have C0:=Lib.hid C0
 have HK:=Lib.hid (show (KT T).ok∧(KT T).tidy by rw [←hT];exact⟨kt_ok given_conj,rows_tidy⟩)
 have E0:=Lib.hid (show WD.fwd (KT T) (ltT T) abcd (SG.nextP (KT T) abcd (0:Int).toNat)=2 by rw [←hT];exact wx_0)
 have E1:=Lib.hid (show WD.fwd (KT T) (ltT T) abcd (SG.nextP (KT T) abcd (2:Int).toNat)=6 by rw [←hT];exact wx_1)
 have E2:=Lib.hid (show WD.back (KT T) (ltT T) abcd (floorI (KT T) abcd 6)=4 by rw [←hT];exact wx_2)
 have E3:=Lib.hid (show WD.back (KT T) (ltT T) abcd (floorI (KT T) abcd 4)=0 by rw [←hT];exact wx_3)
 clear hG hT
 go_enter Tryz.func33,Tryz.ntmps33
 go_wp2_with fail
 refine C0.out.mono ?_
 rintro e w1 ⟨A,c,rfl,hL,hc,hm,hb1⟩
 have C1:=Lib.hid (build_tabs A c T w1 (hL.mono fun _ _=>trivial) hc HG.out)
 have B1:=Lib.hid hb1
 clear C0 hL hb1
 go_wp2_with fail
 refine C1.out.mono ?_
 rintro e w2 ⟨tp,rfl,hU,hb2⟩
 have U0:=Lib.hid (And.intro hU (B1.out.trans (hb2.mono B1.out.size)))
 clear hU hb2 C1 B1
 go_wp2_with fail
 refine atCalls (fun X=>Below w.heap.size w X∧TT X T tp (some ⟨w2.heap.size,0,none⟩) 6 abcd) ⟨U0.out.2.alloc U0.out.2.size _,U0.out.1.later ((Below.refl _ _).alloc (Nat.le_refl _) _),HK.out.2,li_new1 _ _ _ _ rfl,(by intro x hx;simp [abcd]at hx;omega),by decide,by decide⟩ ?_
 rintro X0 hX
 have HX:=Lib.hid hX
 have CA:=Lib.hid (forward_any HX.out.2 HK.out.1 0 (by decide) 2 E0.out)
 have CB:=Lib.hid (fun(X:World) (hX:Below X0.heap.size X0 X)=>forward_any (HX.out.2.later hX) HK.out.1 2 (by decide) 6 E1.out)
 have CC:=Lib.hid (fun(X:World) (hX:Below X0.heap.size X0 X)=>wback_any (HX.out.2.later hX) HK.out.1 6 4 E2.out)
 have CD:=Lib.hid (fun(X:World) (hX:Below X0.heap.size X0 X)=>wback_any (HX.out.2.later hX) HK.out.1 4 0 E3.out)
 rw [show abcd.length=6 from rfl]at CA CB CC CD
 clear hX U0 E0 E1 E2 E3
 refine CA.out.mono ?_
 rintro e v0 ⟨rfl,hb⟩
 have V0:=Lib.hid hb
 clear hb CA
 go_wp2_with fail
 refine(CB.out v0 V0.out).mono ?_
 rintro e v1 ⟨rfl,hb⟩
 have V1:=Lib.hid (bStepS V0.out hb)
 clear hb CB V0
 go_wp2_with fail
 refine(CC.out v1 V1.out).mono ?_
 rintro e v2 ⟨rfl,hb⟩
 have V2:=Lib.hid (bStepS V1.out hb)
 clear hb CC V1
 go_wp2_with fail
 refine(CD.out v2 V2.out).mono ?_
 rintro e v3 ⟨rfl,hb⟩
 have V3:=Lib.hid (bStepS HX.out.1 (bStepS V2.out hb))
 clear hb CD V2
 go_wp2
 go_ret
 exact⟨rfl,V3.out⟩
end Go.Proofs.YtlopleeopnnoeaaGreat
