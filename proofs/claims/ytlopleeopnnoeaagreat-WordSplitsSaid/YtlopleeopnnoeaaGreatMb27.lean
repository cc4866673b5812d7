import Derived.Test.YtlopleeopnnoeaaGreatMb22
import Derived.Test.YtlopleeopnnoeaaGreatMb25
import Derived.Test.YtlopleeopnnoeaaGreatMb26
import Derived.WalkMore
set_option linter.unusedVariables false
set_option linter.unusedSimpArgs false
namespace Go.Proofs.YtlopleeopnnoeaaGreat.SG
open Go.RowKit
def knownP (K:Kinds)(a b:Int):Bool:=beginsS K (nextS K St.zero a) b&&(K.cj b != 2||K.cj a==0||K.cj a==2)&&(!K.pc b||K.br a != 5)
theorem rule_flag {a n:Int}{f g:Bool}(h:rule a n false false f=true)(hg:g=true→f=true):rule a n false false g=true:=by
 unfold rule at h ⊢
 by_cases h1:a=1∧n=2
 ·rw [if_pos h1]at h;cases h
 ·rw [if_neg h1]at h ⊢
  by_cases h2:(controlB a||controlB n)=true
  ·rw [if_pos h2]
  ·rw [if_neg h2]at h ⊢
   by_cases h3:syllB a n=true
   ·rw [if_pos h3]at h;cases h
   ·rw [if_neg h3]at h ⊢
    by_cases h4:n=4∨n=5∨n=8∨a=7
    ·rw [if_pos h4]at h;cases h
    ·rw [if_neg h4]at h ⊢
     cases f
     ·cases g
      ·rfl
      ·exact absurd (hg rfl) Bool.false_ne_true
     ·cases h
theorem known_begins {K:Kinds}{a b:Int}(p:List Int)(h:knownP K a b=true):begins K (a::p) b=true:=by
 unfold knownP at h
 simp only [Bool.and_eq_true]at h
 obtain⟨⟨h1,h2⟩,h3⟩:=h
 have e:beginsS K (nextS K St.zero a) b=rule (K.br a) (K.br b) (K.cj b==2&&behindC 0 (K.cj a)==2) (K.pc b&&(false&&K.br a==5)) (K.br b==6&&(K.br a==6&& !false)):=rfl
 have e0:(behindC 0 (K.cj a)==2)=false:=by
  unfold behindC
  split
  ·rfl
  ·split
   ·rename_i h;exact absurd rfl h.2
   ·split<;>rfl
 rw [e,e0]at h1
 simp only [Bool.and_false,Bool.false_and,Bool.not_false,Bool.and_true]at h1
 show rule (K.br a) (K.br b) (K.cj b==2&&cjScan K (a::p) false) (K.pc b&&K.br a==5&&pcScan K p) (K.br b==6&&flags K (a::p)%2==1)=true
 have c1:(K.cj b==2&&cjScan K (a::p) false)=false:=by
  by_cases hb:K.cj b=2
  ·have ha:K.cj a=0∨K.cj a=2:=by simpa [hb]using h2
   rw [cjScan_cons]
   rcases ha with e|e<;>simp [e]
  ·simp [hb]
 have c2:(K.pc b&&K.br a==5&&pcScan K p)=false:=by
  by_cases hb:K.pc b=true
  ·have ha:K.br a≠5:=by simpa [hb]using h3
   simp [ha]
  ·simp [hb]
 rw [c1,c2]
 refine rule_flag h1 fun hg=> ?_
 simp only [Bool.and_eq_true,beq_iff_eq]at hg
 rw [flags_cons]at hg
 by_cases ha:K.br a=6
 ·simp [ha,hg.1]
 ·rw [if_neg ha]at hg
  exact absurd hg.2 (by decide)
end Go.Proofs.YtlopleeopnnoeaaGreat.SG
namespace Go.Proofs.YtlopleeopnnoeaaGreat
open Go.RowKit
set_option maxHeartbeats 8000000 in
set_option maxRecDepth 100000 in
theorem known_any {T:List RW.Row}{tp:Nat}(w:World)(hT:Tabs T tp w)(a b:Int)(a0: -2147483648≤a)(a1:a≤2147483647)(b0: -2147483648≤b)(b1:b≤2147483647):
  Calls Tryz.prog 178 #[.pointer (some ⟨tp,0,none⟩),.int .i32 a,.int .i32 b] w fun e w'=>e= .returned (.bool (SG.knownP (KT T) a b))∧Below w.heap.size w w':=by
 have HT:=Lib.hid hT
 have C0:=step_tab hT SG.St.zero a a0 a1
 obtain⟨s',hs'⟩:∃s',SG.nextS (KT T) SG.St.zero a=s':=⟨_,rfl⟩
 rw [hs']at C0
 have c1:=fun X (hX:Below w.heap.size w X)=>step_tab (hT.later hX) s' b b0 b1
 obtain⟨q,hq⟩:∃q,SG.beginsS (KT T) s' b=q:=⟨_,rfl⟩
 obtain⟨s2,hs2⟩:∃s2,SG.nextS (KT T) s' b=s2:=⟨_,rfl⟩
 simp only [hq,hs2]at c1
 have ca:=fun X (hX:Below w.heap.size w X)=>tconj (hT.later hX) a a0 a1
 have cb:=fun X (hX:Below w.heap.size w X)=>tconj (hT.later hX) b b0 b1
 have cp:=fun X (hX:Below w.heap.size w X)=>tpict (hT.later hX) b b0 b1
 have cr:=fun X (hX:Below w.heap.size w X)=>tbreak (hT.later hX) a a0 a1
 obtain⟨R,hR⟩:∃R,SG.knownP (KT T) a b=R:=⟨_,rfl⟩
 rw [hR]
 unfold SG.knownP at hR
 rw [hs',hq]at hR
 obtain⟨x,hx⟩:∃x,(KT T).cj a=x:=⟨_,rfl⟩
 obtain⟨y,hy⟩:∃y,(KT T).cj b=y:=⟨_,rfl⟩
 obtain⟨z,hz⟩:∃z,(KT T).pc b=z:=⟨_,rfl⟩
 obtain⟨u,hu⟩:∃u,(KT T).br a=u:=⟨_,rfl⟩
 rw [hx,hy,hz,hu]at hR
 have hx2:conjB (vget 6 T) (vget 4 T) a=x:=hx
 have hy2:conjB (vget 6 T) (vget 4 T) b=y:=hy
 have hz2:(at0 0 (vget 5 T) b==1)=z:=hz
 have hu2:breakB (vget 4 T) a=u:=hu
 first|simp only [hx]at ca|simp only [hx2]at ca
 first|simp only [hy]at cb|simp only [hy2]at cb
 first|simp only [hz]at cp|simp only [hz2]at cp
 first|simp only [hu]at cr|simp only [hu2]at cr
 have HR:=Lib.hid hR
 obtain⟨n0,n1,n2,n3,n4,n5⟩:=s'
 obtain⟨m0,m1,m2,m3,m4,m5⟩:=s2
 dsimp only [vSt,SG.St.zero]at C0 c1
 have C0:=Lib.hid C0
 have C1:=Lib.hid c1
 have CA:=Lib.hid ca
 have CB:=Lib.hid cb
 have CP:=Lib.hid cp
 have CR:=Lib.hid cr
 clear c1 ca cb cp cr hs' hq hs2 hx hy hz hu hx2 hy2 hz2 hu2 hR hT
 go_enter Tryz.func178,Tryz.ntmps178
 go_wp2_with fail
 refine C0.out.mono ?_
 rintro e w1 ⟨rfl,hb1⟩
 have HB1:=Lib.hid hb1
 clear C0 hb1
 go_wp2_with fail
 refine atCalls (fun X=>Below w.heap.size w X) ((HB1.out).alloc HB1.out.size _) ?_
 intro X0 hX0
 have HX0:=Lib.hid hX0
 clear hX0
 refine(C1.out X0 HX0.out).mono ?_
 rintro e w2 ⟨rfl,hb2⟩
 have HB2:=Lib.hid (bStepS HX0.out hb2)
 clear C1 hb2 HX0 HB1
 go_upto_region 3 with fail
 refine at_world (fun X=>Below w.heap.size w X) ((HB2.out).alloc HB2.out.size _) ?_
 intro X0 hX0
 have HX0:=Lib.hid hX0
 clear hX0 HB2
 cases q
 case false=>
  obtain rfl:R=false:=by rw [←HR.out];rfl
  clear HR CA CB CP CR HT
  go_wp2
  go_ret
  exact⟨rfl,HX0.out⟩
 case true=>
  by_cases y2:y=2
  ·subst y2
   go_wp2_with fail
   refine(CB.out _ HX0.out).mono ?_
   rintro e w5 ⟨rfl,hb⟩
   have B1:=Lib.hid (bStepS HX0.out hb)
   clear hb HX0
   by_cases x0:x=0
   ·subst x0
    go_wp2_with fail
    refine(CA.out _ B1.out).mono ?_
    rintro e w6 ⟨rfl,hb⟩
    have B2:=Lib.hid (bStepS B1.out hb)
    clear hb B1
    cases z
    case false=>
     go_wp2_with fail
     refine(CP.out _ B2.out).mono ?_
     rintro e w8 ⟨rfl,hb⟩
     have BP:=Lib.hid (bStepS B2.out hb)
     clear hb B2
     obtain rfl:R=true:=by rw [←HR.out];simp
     clear HR HT CP CR
     go_wp2
     go_ret
     exact⟨rfl,BP.out⟩
    case true=>
     go_wp2_with fail
     refine(CP.out _ B2.out).mono ?_
     rintro e w8 ⟨rfl,hb⟩
     have BP:=Lib.hid (bStepS B2.out hb)
     clear hb B2
     by_cases u5:u=5
     ·subst u5
      go_wp2_with fail
      refine(CR.out _ BP.out).mono ?_
      rintro e w9 ⟨rfl,hb⟩
      have BR:=Lib.hid (bStepS BP.out hb)
      clear hb BP
      obtain rfl:R=false:=by rw [←HR.out];simp
      clear HR HT CP CR
      go_wp2
      go_ret
      exact⟨rfl,BR.out⟩
     ·have du:(u != 5)=true:=by simpa using u5
      go_wp2_with fail
      refine(CR.out _ BP.out).mono ?_
      rintro e w9 ⟨rfl,hb⟩
      have BR:=Lib.hid (bStepS BP.out hb)
      clear hb BP
      obtain rfl:R=true:=by rw [←HR.out];simp [du]
      clear HR HT CP CR
      go_wp2
      go_ret
      exact⟨rfl,BR.out⟩
   ·have dx:(x==0)=false:=by simpa using x0
    go_wp2_with fail
    refine(CA.out _ B1.out).mono ?_
    rintro e w6 ⟨rfl,hb⟩
    have B2:=Lib.hid (bStepS B1.out hb)
    clear hb B1
    by_cases x2:x=2
    ·subst x2
     go_wp2_with fail
     refine(CA.out _ B2.out).mono ?_
     rintro e w7 ⟨rfl,hb⟩
     have B3:=Lib.hid (bStepS B2.out hb)
     clear hb B2
     cases z
     case false=>
      go_wp2_with fail
      refine(CP.out _ B3.out).mono ?_
      rintro e w8 ⟨rfl,hb⟩
      have BP:=Lib.hid (bStepS B3.out hb)
      clear hb B3
      obtain rfl:R=true:=by rw [←HR.out];simp
      clear HR HT CP CR
      go_wp2
      go_ret
      exact⟨rfl,BP.out⟩
     case true=>
      go_wp2_with fail
      refine(CP.out _ B3.out).mono ?_
      rintro e w8 ⟨rfl,hb⟩
      have BP:=Lib.hid (bStepS B3.out hb)
      clear hb B3
      by_cases u5:u=5
      ·subst u5
       go_wp2_with fail
       refine(CR.out _ BP.out).mono ?_
       rintro e w9 ⟨rfl,hb⟩
       have BR:=Lib.hid (bStepS BP.out hb)
       clear hb BP
       obtain rfl:R=false:=by rw [←HR.out];simp
       clear HR HT CP CR
       go_wp2
       go_ret
       exact⟨rfl,BR.out⟩
      ·have du:(u != 5)=true:=by simpa using u5
       go_wp2_with fail
       refine(CR.out _ BP.out).mono ?_
       rintro e w9 ⟨rfl,hb⟩
       have BR:=Lib.hid (bStepS BP.out hb)
       clear hb BP
       obtain rfl:R=true:=by rw [←HR.out];simp [du]
       clear HR HT CP CR
       go_wp2
       go_ret
       exact⟨rfl,BR.out⟩
    ·have dx2:(x==2)=false:=by simpa using x2
     go_wp2_with fail
     refine(CA.out _ B2.out).mono ?_
     rintro e w7 ⟨rfl,hb⟩
     have B3:=Lib.hid (bStepS B2.out hb)
     clear hb B2
     obtain rfl:R=false:=by rw [←HR.out];simp [dx,dx2]
     clear HR HT CA CB CP CR
     go_wp2
     go_ret
     exact⟨rfl,B3.out⟩
  ·have dy:(y != 2)=true:=by simpa using y2
   go_wp2_with fail
   refine(CB.out _ HX0.out).mono ?_
   rintro e w5 ⟨rfl,hb⟩
   have B1:=Lib.hid (bStepS HX0.out hb)
   clear hb HX0
   cases z
   case false=>
    go_wp2_with fail
    refine(CP.out _ B1.out).mono ?_
    rintro e w8 ⟨rfl,hb⟩
    have BP:=Lib.hid (bStepS B1.out hb)
    clear hb B1
    obtain rfl:R=true:=by rw [←HR.out];simp [dy]
    clear HR HT CP CR
    go_wp2
    go_ret
    exact⟨rfl,BP.out⟩
   case true=>
    go_wp2_with fail
    refine(CP.out _ B1.out).mono ?_
    rintro e w8 ⟨rfl,hb⟩
    have BP:=Lib.hid (bStepS B1.out hb)
    clear hb B1
    by_cases u5:u=5
    ·subst u5
     go_wp2_with fail
     refine(CR.out _ BP.out).mono ?_
     rintro e w9 ⟨rfl,hb⟩
     have BR:=Lib.hid (bStepS BP.out hb)
     clear hb BP
     obtain rfl:R=false:=by rw [←HR.out];simp [dy]
     clear HR HT CP CR
     go_wp2
     go_ret
     exact⟨rfl,BR.out⟩
    ·have du:(u != 5)=true:=by simpa using u5
     go_wp2_with fail
     refine(CR.out _ BP.out).mono ?_
     rintro e w9 ⟨rfl,hb⟩
     have BR:=Lib.hid (bStepS BP.out hb)
     clear hb BP
     obtain rfl:R=true:=by rw [←HR.out];simp [dy,du]
     clear HR HT CP CR
     go_wp2
     go_ret
     exact⟨rfl,BR.out⟩
def isP (K:SG.Kinds)(l:List Int)(i:Nat):Bool:=i==l.length||SG.begAt K l i
set_option maxHeartbeats 4000000 in
theorem ris_any {W:World}{A:Option Addr}{c:Nat}{T:List RW.Row}{A2:Option Addr}{l:List Int}(c2:Nat)(h:RT W A c T A2 l)(hc2:l.length≤c2)(i:Nat)(hi:i≤l.length):
  Calls Tryz.prog 34 #[.slice A T.length c,.slice A2 l.length c2,.int .i64 i] W fun e w'=>e= .returned (.bool (isP (KT T) l i))∧∃m,w'=W.drewN m:=by
 have hln:=h.ln
 rcases Nat.lt_or_ge i l.length with hlt|hge
 ·have C:=begins_any c2 h hc2 i hlt
  obtain⟨q,hq⟩:∃q,SG.begAt (KT T) l i=q:=⟨_,rfl⟩
  rw [hq]at C
  have C:=Lib.hid C
  have e:isP (KT T) l i=q:=by
   unfold isP
   rw [hq,show (i==l.length)=false by simp;omega,Bool.false_or]
  rw [e]
  clear h e hq
  have d0:((i:Int)==(l.length:Int))=false:=by simp;omega
  have d1:decide ((l.length:Int)<(i:Int))=false:=by simp;omega
  have d2:decide ((i:Int)<0)=false:=by simp
  go_enter Tryz.func34,Tryz.ntmps34
  go_wp2_with fail
  refine C.out.mono ?_
  rintro e w1 ⟨rfl,m,rfl⟩
  clear C
  go_wp2
  go_ret
  exact⟨rfl,_,rfl⟩
 ·obtain rfl:i=l.length:=by omega
  rw [show isP (KT T) l l.length=true by unfold isP;simp]
  clear h hi hge
  have d0:((l.length:Int)==(l.length:Int))=true:=by simp
  have d1:decide ((l.length:Int)<(l.length:Int))=false:=by simp
  have d2:decide ((l.length:Int)<0)=false:=by simp
  go_enter Tryz.func34,Tryz.ntmps34
  go_wp2
  go_ret
  exact⟨rfl,0,rfl⟩
def floorP (K:SG.Kinds)(l:List Int):Nat→Nat
 |0=>0
 |n+1=>if isP K l (n+1)=true then n+1 else floorP K l n
def floorI (K:SG.Kinds)(l:List Int)(a:Int):Nat:=floorP K l (min a l.length).toNat
theorem isP_lt (K:SG.Kinds){l:List Int}{i:Nat}(h:i<l.length):isP K l i=SG.begAt K l i:=by
 unfold isP
 rw [show (i==l.length)=false by simp;omega,Bool.false_or]
theorem next_quiet {K:SG.Kinds}{l:List Int}{n:Nat}(hn:n≤l.length)(he:n=l.length∨SG.begAt K l n=true):∀ (d i:Nat),i+d=n→(∀j,i≤j→j<n→SG.begAt K l j=false)→SG.nextP K l i=n:=by
 intro d
 induction d with
 |zero=>
  intro i hi _
  obtain rfl:i=n:=by omega
  rcases Nat.lt_or_ge i l.length with h|h
  ·rcases he with e|e
   ·omega
   ·exact SG.nextP_yes h e
  ·rw [SG.nextP_end h];omega
 |succ d ih=>
  intro i hi hq
  rw [SG.nextP_no (by omega) (hq i (Nat.le_refl _) (by omega))]
  exact ih (i+1) (by omega) fun j h1 h2=>hq j (by omega) h2
theorem floor_quiet {K:SG.Kinds}{l:List Int}{f:Nat}(hb:SG.begAt K l f=true):∀ (d a:Nat),f+d=a→a<l.length→(∀j,f<j→j≤a→SG.begAt K l j=false)→floorP K l a=f:=by
 intro d
 induction d with
 |zero=>
  intro a ha hal _
  obtain rfl:f=a:=by omega
  cases f with
  |zero=>rfl
  |succ f=>rw [floorP,if_pos (by rw [isP_lt K hal];exact hb)]
 |succ d ih=>
  intro a ha hal hq
  obtain⟨a',rfl⟩:∃a',a=a'+1:=⟨a - 1,by omega⟩
  rw [floorP,if_neg (by rw [isP_lt K hal,hq (a'+1) (by omega) (Nat.le_refl _)];exact Bool.false_ne_true)]
  exact ih a' (by omega) (by omega) fun j h1 h2=>hq j h1 (by omega)
theorem around_end {K:SG.Kinds}{l:List Int}{f n a:Nat}(hb:SG.begAt K l f=true)(hfa:f≤a)(han:a<n)(hn:n≤l.length)(he:n=l.length∨SG.begAt K l n=true)(hq:∀j,f<j→j<n→SG.begAt K l j=false):floorP K l a=f∧SG.nextP K l (a+1)=n:=
 ⟨floor_quiet hb (a - f) a (by omega) (by omega) fun j h1 h2=>hq j h1 (by omega),next_quiet hn he (n -(a+1)) (a+1) (by omega) fun j h1 h2=>hq j (by omega) h2⟩
theorem known_at {K:SG.Kinds}{l:List Int}{i:Nat}(hi:i+1<l.length)(h:SG.knownP K (l.getD i 0) (l.getD (i+1) 0)=true):SG.begAt K l (i+1)=true:=by
 unfold SG.begAt
 rw [SG.take_rev_succ (by omega)]
 exact SG.known_begins _ h
theorem floorI_low {K:SG.Kinds}{l:List Int}{a:Int}(h:a≤0):floorI K l a=0:=by
 unfold floorI
 rw [show (min a (l.length:Int)).toNat=0 by omega]
 rfl
theorem floorP_len (K:SG.Kinds)(l:List Int):floorP K l l.length=l.length:=by
 cases h:l.length with
 |zero=>rfl
 |succ n=>rw [floorP,if_pos (by unfold isP;simp [h])]
theorem floorI_high {K:SG.Kinds}{l:List Int}{a:Int}(h:(l.length:Int)≤a):floorI K l a=l.length:=by
 unfold floorI
 rw [Int.min_eq_right h]
 exact floorP_len K l
theorem floorI_at {K:SG.Kinds}{l:List Int}{a:Nat}(h:a≤l.length):floorI K l a=floorP K l a:=by
 unfold floorI
 rw [Int.min_eq_left (by omega)]
 rfl
theorem floorP_le (K:SG.Kinds)(l:List Int):∀a,floorP K l a≤a:=by
 intro a
 induction a with
 |zero=>exact Nat.le_refl _
 |succ a ih=>
  rw [floorP]
  split
  ·exact Nat.le_refl _
  ·omega
theorem floorP_is (K:SG.Kinds)(l:List Int)(a:Nat):(floorP K l a=a)↔(a=0∨isP K l a=true):=by
 cases a with
 |zero=>exact⟨fun _=> .inl rfl,fun _=>rfl⟩
 |succ a=>
  rw [floorP]
  by_cases h:isP K l (a+1)=true
  ·rw [if_pos h];exact⟨fun _=> .inr h,fun _=>rfl⟩
  ·rw [if_neg h]
   have:=floorP_le K l a
   constructor
   ·intro e;omega
   ·intro e;rcases e with e|e
    ·omega
    ·exact absurd e h
theorem isP_zero (K:SG.Kinds)(l:List Int):isP K l 0=true:=by
 unfold isP
 rw [SG.begAt_zero,Bool.or_true]
theorem nextP_zero (K:SG.Kinds)(l:List Int):SG.nextP K l 0=0:=by
 rcases Nat.eq_zero_or_pos l.length with h|h
 ·rw [SG.nextP_end (by omega),h]
 ·exact SG.nextP_yes h (SG.begAt_zero K l)
theorem between {L:List Nat}(hs:L.Pairwise (· < ·)){i j:Nat}(hi:i+1<L.length)(h1:L[i]'(by omega)<j)(h2:j<L[i+1]):j ∉ L:=by
 intro hm
 obtain⟨k,hk,e⟩:=List.getElem_of_mem hm
 have hp:=List.pairwise_iff_getElem.1 hs
 rcases Nat.lt_trichotomy k i with h|h|h
 ·have:=hp k i hk (by omega) h;omega
 ·subst h;omega
 ·rcases Nat.lt_trichotomy k (i+1)with h'|h'|h'
  ·omega
  ·subst h';omega
  ·have:=hp (i+1) k hi hk h';omega
theorem beyond {L:List Nat}(hs:L.Pairwise (· < ·)){j:Nat}(hi:0<L.length)(h1:L[L.length - 1]'(by omega)<j):j ∉ L:=by
 intro hm
 obtain⟨k,hk,e⟩:=List.getElem_of_mem hm
 have hp:=List.pairwise_iff_getElem.1 hs
 rcases Nat.lt_or_ge k (L.length - 1)with h|h
 ·have:=hp k (L.length - 1) hk (by omega) h;omega
 ·have h3:k=L.length - 1:=by omega
  subst h3;omega
theorem not_begins {K:SG.Kinds}{l:List Int}{j:Nat}(hj:j<l.length)(h:j ∉ SG.startsP K l):SG.begAt K l j=false:=by
 cases e:SG.begAt K l j with
 |false=>rfl
 |true=>exact absurd (List.mem_filter.2 ⟨List.mem_range.2 hj,e⟩) h
theorem starts_next {K:SG.Kinds}{l:List Int}{i:Nat}(hi:i+1<(SG.startsP K l).length):SG.nextP K l ((SG.startsP K l)[i]'(by omega)+1)=(SG.startsP K l)[i+1]∧floorP K l ((SG.startsP K l)[i+1] - 1)=(SG.startsP K l)[i]'(by omega):=by
 have hs:=SG.starts_sorted K l
 have h0:=SG.starts_mem (List.getElem_mem (show i<(SG.startsP K l).length by omega))
 have h1:=SG.starts_mem (List.getElem_mem hi)
 have hlt:=List.pairwise_iff_getElem.1 hs i (i+1) (by omega) hi (by omega)
 have q:∀j,(SG.startsP K l)[i]'(by omega)<j→j<(SG.startsP K l)[i+1]→SG.begAt K l j=false:=fun j a b=>not_begins (by omega) (between hs hi a b)
 have:=around_end (a:=(SG.startsP K l)[i+1] - 1) h0.2 (by omega) (by omega) (by omega) (.inr h1.2) q
 exact⟨next_quiet (by omega) (.inr h1.2) _ _ (Nat.add_sub_cancel' hlt) fun j a b=>q j (by omega) b,this.1⟩
theorem starts_last {K:SG.Kinds}{l:List Int}(hi:0<(SG.startsP K l).length):SG.nextP K l ((SG.startsP K l)[(SG.startsP K l).length - 1]'(by omega)+1)=l.length∧floorP K l (l.length - 1)=(SG.startsP K l)[(SG.startsP K l).length - 1]'(by omega):=by
 have hs:=SG.starts_sorted K l
 have h0:=SG.starts_mem (List.getElem_mem (show (SG.startsP K l).length - 1<(SG.startsP K l).length by omega))
 have q:∀j,(SG.startsP K l)[(SG.startsP K l).length - 1]'(by omega)<j→j<l.length→SG.begAt K l j=false:=fun j a b=>not_begins b (beyond hs hi a)
 have:=around_end (a:=l.length - 1) h0.2 (by omega) (by omega) (by omega) (.inl rfl) q
 exact⟨next_quiet (by omega) (.inl rfl) (l.length -((SG.startsP K l)[(SG.startsP K l).length - 1]'(by omega)+1)) _ (by omega) fun j a b=>q j (by omega) b,this.1⟩
set_option maxHeartbeats 8000000 in
set_option maxRecDepth 100000 in
theorem around_any {T:List RW.Row}{tp:Nat}(A:Option Addr)(c:Nat)(l:List Int)(w:World)(hT:Tabs T tp w)(hK:(KT T).tidy)(hL:Li 1 encC w (fun _=>True) A l)(hsc:Sc l)(hc:l.length≤c)(hn:l.length≤100000)(a:Nat)(ha:a<l.length):
  Calls Tryz.prog 134 #[.pointer (some ⟨tp,0,none⟩),.slice A l.length c,.int .i64 (a:Nat)] w fun e w'=>e= .returned (.tuple #[.int .i64 (floorP (KT T) l a:Nat),.int .i64 (SG.nextP (KT T) l (a+1):Nat)])∧Below w.heap.size w w':=by
 obtain⟨b,o,rfl,hb,_,hcell⟩:=hL.scs (by omega)
 have HT:=Lib.hid hT
 have HC:=Lib.hid hcell
 have HS:=Lib.hid hsc
 have HK:=Lib.hid hK
 clear hT hL hcell hsc hK
 obtain⟨vf,hvf⟩:∃v,floorP (KT T) l a=v:=⟨_,rfl⟩
 obtain⟨vn,hvn⟩:∃v,SG.nextP (KT T) l (a+1)=v:=⟨_,rfl⟩
 rw [hvf,hvn]
 have HVF:=Lib.hid hvf
 have HVN:=Lib.hid hvn
 clear hvf hvn
 go_enter Tryz.func134,Tryz.ntmps134
 go_wp2
 go_step3
 go_wp2
 go_loopw [8] (fun i wr=>∃k:Nat,k≤a∧i= .int .i64 k∧Hid (Below w.heap.size w wr)) (fun i _=>(intOf i).toNat)
 case atStart=>exact⟨a,Nat.le_refl _,rfl,Lib.hid (Below.refl _ _)⟩
 case round=>
  obtain⟨k,hk,rfl,H⟩:=hrel
  go_wp2_with fail
  go_cut [30]from 15 to 32 (fun s30 wx=>∃q:Bool,s30= .bool q∧Hid (Below w.heap.size w wx∧(q=false→SG.begAt (KT T) l k=true)∧(q=true→0<k)))
  case first=>
   rcases k with _|k
   ·have d0:decide ((0:Int)<((0:Nat):Int))=false:=by simp
    go_quiet (fail)
    go_wp2
    go_meet
    exact⟨false,rfl,Lib.hid ⟨belDrew H.out _,fun _=>SG.begAt_zero _ _,fun h=>by cases h⟩⟩
   ·have hk1:k+1<l.length:=by omega
    have hc0:=(H.out.cell (p:=⟨b,o+k,none⟩) hb).trans (HC.out k (by omega))
    have hc1:=(H.out.cell (p:=⟨b,o+(k+1),none⟩) hb).trans (HC.out (k+1) hk1)
    have hs0:=HS.out.at (show k<l.length by omega)
    have hs1:=HS.out.at hk1
    have HQ:=Lib.hid (fun h=>known_at (K:=KT T) hk1 h)
    obtain⟨x,hx⟩:∃x,l.getD k 0=x:=⟨_,rfl⟩
    obtain⟨y,hy⟩:∃x,l.getD (k+1) 0=x:=⟨_,rfl⟩
    rw [hx]at hc0 hs0 HQ
    rw [hy]at hc1 hs1 HQ
    have c1:=fun Z (hZ:Below wr.heap.size wr Z)=>known_any Z (HT.out.later (bStepS H.out hZ)) x y hs0.1 hs0.2 hs1.1 hs1.2
    obtain⟨q,hq⟩:∃q,SG.knownP (KT T) x y=q:=⟨_,rfl⟩
    rw [hq]at HQ
    simp only [hq]at c1
    have C1:=Lib.hid c1
    have hbw:b<wr.heap.size:=Nat.lt_of_lt_of_le hb H.out.size
    have HSS:=Lib.hid (show ∀Z,Below wr.heap.size wr Z→(fun Z=>Z.cell? ⟨b,o+k,none⟩=some (.int .i32 x)∧Z.cell? ⟨b,o+(k+1),none⟩=some (.int .i32 y)) Z from fun Z hZ=>⟨(hZ.cell (p:=⟨b,o+k,none⟩) hbw).trans hc0,(hZ.cell (p:=⟨b,o+(k+1),none⟩) hbw).trans hc1⟩)
    have d2:(k:Int)+1<(l.length:Int):=by omega
    have d3:(k:Int)<(l.length:Int):=by omega
    have d4:(0:Int)≤(k:Int)+1:=by omega
    have d5:(0:Int)≤(k:Int):=by omega
    have d6:IntKind.i64.wrap (k:Int)=(k:Int):=IntWalk.i64_in _ (by omega)
    clear hx hy hs0 hs1 c1 hq
    go_region_held3 (fun Z=>Z.cell? ⟨b,o+k,none⟩=some (.int .i32 x)∧Z.cell? ⟨b,o+(k+1),none⟩=some (.int .i32 y))
     (first|exact HSS.out _ (by first|assumption|exact B5.out|exact Below.refl _ _|exact(Below.refl _ _).drew|exact selfDrew _ _)|go_keep)
     (first
     |(go_at_call 178;refine(C1.out _ (by first|exact Below.refl _ _|exact(Below.refl _ _).drew|exact selfDrew _ _)).mono ?_;rintro e w5 ⟨rfl,b5⟩;have B5:=Lib.hid (bStepS (A:=wr) (by first|exact Below.refl _ _|exact(Below.refl _ _).drew|exact selfDrew _ _) b5);clear b5))
    go_wp2_with fail
    go_meet
    exact⟨!q,rfl,Lib.hid ⟨bStepS H.out B5.out,fun h=>HQ.out (by simpa using h),fun _=>by omega⟩⟩
  case rest=>
   obtain⟨q,rfl,HX⟩:=hcut
   cases q
   case true=>
    have h0:=HX.out.2.2 rfl
    obtain⟨k',rfl⟩:∃k',k=k'+1:=⟨k - 1,by omega⟩
    go_wp2
    go_roundw
    case rel=>exact⟨k',by omega,by go_num,Lib.hid HX.out.1⟩
    case measure=>simp [intOf]
   case false=>
    have H1:=Lib.hid (And.intro HX.out.1 (HX.out.2.1 rfl))
    clear HX H
    obtain⟨wo,hwo⟩:∃wo:World,wo=wr:=⟨_,rfl⟩
    subst hwo
    go_wp2
    go_step3
    go_wp2
    go_loopw [9,10,11,12,13] (fun f n _ _ _ wr=>∃f' n':Nat,f= .int .i64 f'∧n= .int .i64 n'∧n'≤l.length∧Hid (Below w.heap.size w wr∧(n'≤a→SG.begAt (KT T) l n'=true)∧(a<n'→vf=f'∧vn=n'))) (fun _ n _ _ _ _=>l.length -(intOf n).toNat)
    case atStart=>exact⟨k,k,rfl,rfl,by omega,Lib.hid ⟨H1.out.1,fun _=>H1.out.2,fun h=>by omega⟩⟩
    case round=>
     obtain⟨f',n,rfl,rfl,hnl,H⟩:=hrel
     by_cases hna:n≤a
     ·have hnl2:n<l.length:=by omega
      have HB:=Lib.hid (H.out.2.1 hna)
      have hcr:=(H.out.1.cell (p:=⟨b,o+n,none⟩) hb).trans (HC.out n hnl2)
      have hsr:=HS.out.at hnl2
      obtain⟨r,hr⟩:∃r,l.getD n 0=r:=⟨_,rfl⟩
      rw [hr]at hcr hsr
      have c1:=fun Z (hZ:Below wr.heap.size wr Z)=>step_tab (HT.out.later (bStepS H.out.1 hZ)) SG.St.zero r hsr.1 hsr.2
      obtain⟨s',hs'⟩:∃s',SG.nextS (KT T) SG.St.zero r=s':=⟨_,rfl⟩
      simp only [hs']at c1
      have HN:=Lib.hid (show SG.stOf (KT T) (l.take (n+1)).reverse=s' by rw [SG.st_succ _ hnl2,hr,SG.begins_last HK.out _ _ (by have:=HB.out;unfold SG.begAt at this;rwa [hr]at this)];exact hs')
      obtain⟨n0,n1,n2,n3,n4,n5⟩:=s'
      dsimp only [vSt,SG.St.zero]at c1
      have C1:=Lib.hid c1
      have d0:(n:Int)≤(a:Int):=by omega
      have d1:(n:Int)<(l.length:Int):=by omega
      have d2:(0:Int)≤(n:Int):=by omega
      have hbw:b<wr.heap.size:=Nat.lt_of_lt_of_le hb H.out.1.size
      clear c1 hs' hr hsr
      go_upto_region 7 with fail
      refine at_world (fun X=>Below wr.heap.size wr X∧Blk X wr.heap.size #[.bool false,.int .i64 0,.int .i64 0,.bool false,.bool false,.bool false]) ⟨belAlloc _ _,blk_new _ _ _⟩ ?_
      intro X hX
      obtain⟨g,hg⟩:∃g,wr.heap.size=g:=⟨_,rfl⟩
      have hgw:w.heap.size≤g:=by rw [←hg];exact H.out.1.size
      have HX:=Lib.hid (show Below w.heap.size w X∧Blk X g #[.bool false,.int .i64 0,.int .i64 0,.bool false,.bool false,.bool false]from⟨bStepS H.out.1 (by exact hX.1),by rw [←hg];exact hX.2⟩)
      have C7:=Lib.hid (fun Z (hZ:Below X.heap.size X Z)=>C1.out Z (bStepS hX.1 hZ))
      have hcx:=(hX.1.cell (p:=⟨b,o+n,none⟩) hbw).trans hcr
      have hbg:b<g:=by rw [←hg];exact hbw
      rw [hg]
      have q0:X.cell? ⟨g,0,none⟩=some (.bool false):=HX.out.2.2.1 0
      have q1:X.cell? ⟨g,1,none⟩=some (.int .i64 0):=HX.out.2.2.1 1
      have q2:X.cell? ⟨g,2,none⟩=some (.int .i64 0):=HX.out.2.2.1 2
      have q3:X.cell? ⟨g,3,none⟩=some (.bool false):=HX.out.2.2.1 3
      have q4:X.cell? ⟨g,4,none⟩=some (.bool false):=HX.out.2.2.1 4
      have q5:X.cell? ⟨g,5,none⟩=some (.bool false):=HX.out.2.2.1 5
      clear hX hg C1 hcr hbw
      go_cut []from 35 to 66 (fun wx=>Hid (Below w.heap.size w wx∧Blk wx g #[.bool n0,.int .i64 n1,.int .i64 n2,.bool n3,.bool n4,.bool n5]))
      case first=>
       go_region_with (go_at_call 120;refine(C7.out _ (by first|exact Below.refl _ _|exact(Below.refl _ _).drew|exact selfDrew _ _)).mono ?_;rintro e w5 ⟨rfl,b5⟩;have B5:=Lib.hid (bStepS (A:=X) (by first|exact Below.refl _ _|exact(Below.refl _ _).drew|exact selfDrew _ _) b5);have Q5:=Lib.hid (HX.out.2.later B5.out HX.out.2.1);have x0:w5.cell? ⟨g,0,none⟩=some (.bool false):=Q5.out.2.1 0;have x1:w5.cell? ⟨g,1,none⟩=some (.int .i64 0):=Q5.out.2.1 1;have x2:w5.cell? ⟨g,2,none⟩=some (.int .i64 0):=Q5.out.2.1 2;have x3:w5.cell? ⟨g,3,none⟩=some (.bool false):=Q5.out.2.1 3;have x4:w5.cell? ⟨g,4,none⟩=some (.bool false):=Q5.out.2.1 4;have x5:w5.cell? ⟨g,5,none⟩=some (.bool false):=Q5.out.2.1 5;have j0:=Q5.out.2.2 0;have j1:=Q5.out.2.2 1;have j2:=Q5.out.2.2 2;have j3:=Q5.out.2.2 3;have j4:=Q5.out.2.2 4;have j5:=Q5.out.2.2 5;have yq:=Q5.out.1;clear b5)
       all_goals
        go_wp2_with fail
        go_meet
        with_reducible exact Lib.hid ⟨bel_six (bStepS HX.out.1 B5.out) hgw _ _ _ _ _ _,blk_six Q5.out _ _ _ _ _ _⟩
      case rest=>
       have H7:=Lib.hid hcut.out
       clear hcut q0 q1 q2 q3 q4 q5 hcx HX C7
       obtain⟨wo,hwo⟩:∃wo:World,wo=wc:=⟨_,rfl⟩
       subst hwo
       go_wp2
       go_loopw [10,12,13] (fun m _ _ wr=>∃m':Nat,m= .int .i64 m'∧n≤m'∧m'<l.length∧Hid (Below w.heap.size w wr∧Blk wr g (encSt (SG.stOf (KT T) (l.take (m'+1)).reverse)).toArray∧∀j,n<j→j≤m'→SG.begAt (KT T) l j=false)) (fun m _ _ _=>l.length -(intOf m).toNat)
       case atStart=>exact⟨n,rfl,Nat.le_refl _,hnl2,Lib.hid ⟨H7.out.1,by rw [HN.out];exact H7.out.2,fun j h1 h2=>by omega⟩⟩
       case round=>
        obtain⟨m,rfl,hnm,hml,HI⟩:=hrel
        obtain⟨i,hi⟩:∃i,m+1=i:=⟨_,rfl⟩
        have d6:(m:Int)+1=(i:Int):=by omega
        have d7:IntKind.i64.wrap (i:Int)=(i:Int):=IntWalk.i64_in _ (by omega)
        by_cases he:i=l.length
        ·have d8:((i:Int)==(l.length:Int))=true:=by simp;omega
         have HE:=Lib.hid (show vf=n∧vn=i by
          have h:=around_end (K:=KT T) HB.out hna (show a<i by omega) (by omega) (.inl he) fun j h1 h2=>HI.out.2.2 j h1 (by omega)
          exact⟨by rw [←HVF.out,h.1],by rw [←HVN.out,h.2]⟩)
         have HW:=Lib.hid HI.out.1
         clear HI H7 hi he
         go_wp2_with fail
         obtain⟨rfl,rfl⟩:=HE.out
         rw [Exit.noGoto_ret]
         go_ret2
         exact⟨rfl,HW.out⟩
        ·have d8:((i:Int)==(l.length:Int))=false:=by simp;omega
         have hil:i<l.length:=by omega
         have d9:(i:Int)<(l.length:Int):=by omega
         have d10:(0:Int)≤(i:Int):=by omega
         have hbw:b<wr.heap.size:=Nat.lt_of_lt_of_le hb HI.out.1.size
         have hcr:=(HI.out.1.cell (p:=⟨b,o+i,none⟩) hb).trans (HC.out i hil)
         have hsr:=HS.out.at hil
         obtain⟨r,hr⟩:∃r,l.getD i 0=r:=⟨_,rfl⟩
         rw [hr]at hcr hsr
         obtain⟨s,hs⟩:∃s,SG.stOf (KT T) (l.take (m+1)).reverse=s:=⟨_,rfl⟩
         have hblk:=HI.out.2.1
         rw [hs]at hblk
         rw [hi]at hs
         have c1:=fun Z (hZ:Below wr.heap.size wr Z)=>step_tab (HT.out.later (bStepS HI.out.1 hZ)) s r hsr.1 hsr.2
         obtain⟨s',hs'⟩:∃s',SG.nextS (KT T) s r=s':=⟨_,rfl⟩
         obtain⟨q,hq⟩:∃q,SG.beginsS (KT T) s r=q:=⟨_,rfl⟩
         simp only [hs',hq]at c1
         have HN2:=Lib.hid (show SG.stOf (KT T) (l.take (i+1)).reverse=s' by rw [SG.st_succ _ hil,hs,hr,hs'])
         have HQ:=Lib.hid (show SG.begAt (KT T) l i=q by unfold SG.begAt;rw [←SG.begins_ok HK.out.ok,hs,hr,hq])
         obtain⟨a0,a1,a2,a3,a4,a5⟩:=s
         obtain⟨n0,n1,n2,n3,n4,n5⟩:=s'
         dsimp only [vSt]at c1
         have C1:=Lib.hid c1
         have HBK:=Lib.hid hblk
         have HSS:=Lib.hid (show ∀Z,Below wr.heap.size wr Z→(fun Z=>Z.cell? ⟨g,0,none⟩=some (.bool a0)∧Z.cell? ⟨g,1,none⟩=some (.int .i64 a1)∧Z.cell? ⟨g,2,none⟩=some (.int .i64 a2)∧Z.cell? ⟨g,3,none⟩=some (.bool a3)∧Z.cell? ⟨g,4,none⟩=some (.bool a4)∧Z.cell? ⟨g,5,none⟩=some (.bool a5)∧Z.cell? ⟨b,o+i,none⟩=some (.int .i32 r)) Z from fun Z hZ=>by
          have h:=HBK.out.later hZ HBK.out.1
          exact⟨h.2.1 0,h.2.1 1,h.2.1 2,h.2.1 3,h.2.1 4,h.2.1 5,(hZ.cell (p:=⟨b,o+i,none⟩) hbw).trans hcr⟩)
         have hs0:=HSS.out wr (Below.refl _ _)
         clear c1 hs hs' hq hr hblk hcr hsr
         go_wp2_with fail
         go_cut [12,13]from 49 to 66 (fun sp sq wx=>∃M:Nat,sp= .pointer (some ⟨M,0,none⟩)∧sq= .bool q∧Hid (Below wr.heap.size wr wx∧Blk wx M #[.bool n0,.int .i64 n1,.int .i64 n2,.bool n3,.bool n4,.bool n5]∧wr.heap.size≤M))
         case first=>
          go_region_held3 (fun Z=>Z.cell? ⟨g,0,none⟩=some (.bool a0)∧Z.cell? ⟨g,1,none⟩=some (.int .i64 a1)∧Z.cell? ⟨g,2,none⟩=some (.int .i64 a2)∧Z.cell? ⟨g,3,none⟩=some (.bool a3)∧Z.cell? ⟨g,4,none⟩=some (.bool a4)∧Z.cell? ⟨g,5,none⟩=some (.bool a5)∧Z.cell? ⟨b,o+i,none⟩=some (.int .i32 r))
           (first|with_reducible exact HSS.out _ (bel_six B5.out (Nat.le_refl _) _ _ _ _ _ _)|with_reducible exact HSS.out _ (belowStep B5.out (belAlloc w5 _))|with_reducible exact HSS.out _ B5.out|with_reducible exact HSS.out _ (belAlloc wr _).drew|with_reducible exact HSS.out _ (Below.refl _ _).drew)
           (first
           |(go_at_call 120;refine(C1.out (wr.alloc (.cells #[.bool false,.int .i64 0,.int .i64 0,.bool false,.bool false,.bool false] 173)).drew (belAlloc wr _).drew).mono ?_;rintro e w5 ⟨rfl,b5⟩;have B5:=Lib.hid (bStepS (A:=wr) ((belAlloc wr (.cells #[.bool false,.int .i64 0,.int .i64 0,.bool false,.bool false,.bool false] 173)).drew) b5);have Q5:=Lib.hid ((show Blk (wr.alloc (.cells #[.bool false,.int .i64 0,.int .i64 0,.bool false,.bool false,.bool false] 173)).drew wr.heap.size #[.bool false,.int .i64 0,.int .i64 0,.bool false,.bool false,.bool false]from blk_new wr _ _).later b5 (by simp));have q0:w5.cell? ⟨wr.heap.size,0,none⟩=some (.bool false):=Q5.out.2.1 0;have q1:w5.cell? ⟨wr.heap.size,1,none⟩=some (.int .i64 0):=Q5.out.2.1 1;have q2:w5.cell? ⟨wr.heap.size,2,none⟩=some (.int .i64 0):=Q5.out.2.1 2;have q3:w5.cell? ⟨wr.heap.size,3,none⟩=some (.bool false):=Q5.out.2.1 3;have q4:w5.cell? ⟨wr.heap.size,4,none⟩=some (.bool false):=Q5.out.2.1 4;have q5:w5.cell? ⟨wr.heap.size,5,none⟩=some (.bool false):=Q5.out.2.1 5;have j0:=Q5.out.2.2 0;have j1:=Q5.out.2.2 1;have j2:=Q5.out.2.2 2;have j3:=Q5.out.2.2 3;have j4:=Q5.out.2.2 4;have j5:=Q5.out.2.2 5;have yq:=Q5.out.1;clear b5)
           |(go_at_call 120;refine(C1.out _ (by first|exact Below.refl _ _|exact(Below.refl _ _).drew|exact selfDrew _ _)).mono ?_;rintro e w5 ⟨rfl,b5⟩;have B5:=Lib.hid (bStepS (A:=wr) (by first|exact Below.refl _ _|exact(Below.refl _ _).drew|exact selfDrew _ _) b5);clear b5))
          all_goals
           go_wp2_with fail
           go_meet
           first
           |with_reducible exact⟨_,rfl,rfl,Lib.hid ⟨bStepS B5.out (belAlloc _ _),blk_new _ _ _,B5.out.size⟩⟩
           |with_reducible exact⟨_,rfl,rfl,Lib.hid ⟨bel_six B5.out (Nat.le_refl _) _ _ _ _ _ _,blk_six Q5.out _ _ _ _ _ _,Nat.le_refl _⟩⟩
         case rest=>
          obtain⟨M,rfl,rfl,HZ0⟩:=hcut
          have HZ:=Lib.hid (And.intro HZ0.out.1 (And.intro HZ0.out.2.1 (HBK.out.later HZ0.out.1 HBK.out.1)))
          clear hs0 HZ0
          cases q
          case true=>
           have HE:=Lib.hid (And.intro (bStepS HI.out.1 HZ.out.1) (show a<i→vf=n∧vn=i from fun hai=>by
            have h:=around_end (K:=KT T) HB.out hna hai (by omega) (.inr HQ.out) fun j h1 h2=>HI.out.2.2 j h1 (by omega)
            exact⟨by rw [←HVF.out,h.1],by rw [←HVN.out,h.2]⟩))
           have HQ2:=Lib.hid HQ.out
           clear HI H7 HN2 HQ C1 HSS HBK HZ HN H
           go_wp2
           go_roundw
           case rel=>exact⟨n,i,rfl,rfl,by omega,Lib.hid ⟨HE.out.1,fun _=>HQ2.out,HE.out.2⟩⟩
           case measure=>simp [intOf];omega
          case false=>
           have hB:=HZ.out.2.2
           have hN:=HZ.out.2.1
           have z0:=hN.2.1 0
           have z1:=hN.2.1 1
           have z2:=hN.2.1 2
           have z3:=hN.2.1 3
           have z4:=hN.2.1 4
           have z5:=hN.2.1 5
           simp only [List.getElem?_toArray,List.getElem?_cons_zero,List.getElem?_cons_succ]at z0 z1 z2 z3 z4 z5
           have y0:wc.cell? ⟨g,0,none⟩=some (.bool a0):=hB.2.1 0
           have y1:wc.cell? ⟨g,1,none⟩=some (.int .i64 a1):=hB.2.1 1
           have y2:wc.cell? ⟨g,2,none⟩=some (.int .i64 a2):=hB.2.1 2
           have y3:wc.cell? ⟨g,3,none⟩=some (.bool a3):=hB.2.1 3
           have y4:wc.cell? ⟨g,4,none⟩=some (.bool a4):=hB.2.1 4
           have y5:wc.cell? ⟨g,5,none⟩=some (.bool a5):=hB.2.1 5
           have f0:=hB.2.2 0
           have f1:=hB.2.2 1
           have f2:=hB.2.2 2
           have f3:=hB.2.2 3
           have f4:=hB.2.2 4
           have f5:=hB.2.2 5
           have HE:=Lib.hid (show Below w.heap.size w ((((((wc.setCell ⟨g,0,none⟩ (.bool n0)).setCell ⟨g,1,none⟩ (.int .i64 n1)).setCell ⟨g,2,none⟩ (.int .i64 n2)).setCell ⟨g,3,none⟩ (.bool n3)).setCell ⟨g,4,none⟩ (.bool n4)).setCell ⟨g,5,none⟩ (.bool n5))∧Blk ((((((wc.setCell ⟨g,0,none⟩ (.bool n0)).setCell ⟨g,1,none⟩ (.int .i64 n1)).setCell ⟨g,2,none⟩ (.int .i64 n2)).setCell ⟨g,3,none⟩ (.bool n3)).setCell ⟨g,4,none⟩ (.bool n4)).setCell ⟨g,5,none⟩ (.bool n5)) g (encSt (SG.stOf (KT T) (l.take (i+1)).reverse)).toArray∧∀j,n<j→j≤i→SG.begAt (KT T) l j=false from
            ⟨bel_six (bStepS HI.out.1 HZ.out.1) hgw _ _ _ _ _ _,by rw [HN2.out];exact blk_six hB _ _ _ _ _ _,fun j h1 h2=>by
             rcases Nat.lt_or_ge j i with h|h
             ·exact HI.out.2.2 j h1 (by omega)
             ·obtain rfl:j=i:=by omega
              exact HQ.out⟩)
           clear hB hN HI H7 HN2 HQ C1 HSS HBK HZ
           go_wp2
           go_roundw
           case rel=>exact⟨i,rfl,by omega,hil,Lib.hid HE.out⟩
           case measure=>simp [intOf];omega
     ·have hv:=H.out.2.2 (by omega)
      have d0:decide ((n:Int)≤(a:Int))=false:=by simp;omega
      obtain⟨rfl,rfl⟩:=hv
      have HE:=Lib.hid H.out.1
      clear H
      go_wp2
      (try rw [Exit.noGoto_ret])
      go_ret2
      exact⟨rfl,HE.out⟩
def nextB (K:SG.Kinds)(l:List Int)(a:Int):Nat:=if a<0 then 0 else if (l.length:Int)≤a then l.length else SG.nextP K l (a.toNat+1)
theorem nextB_ceil (K:SG.Kinds)(l:List Int){a:Int}(h:0<a):nextB K l (a - 1)=SG.nextP K l a.toNat:=by
 unfold nextB
 rw [if_neg (by omega)]
 by_cases h2:(l.length:Int)≤a - 1
 ·rw [if_pos h2,SG.nextP_end (by omega)]
 ·rw [if_neg h2,show (a - 1).toNat+1=a.toNat by omega]
theorem floorI_min (K:SG.Kinds)(l:List Int)(a:Int):floorI K l (min a l.length)=floorI K l a:=by
 unfold floorI
 rw [Int.min_assoc,Int.min_self]
theorem floorI_le (K:SG.Kinds)(l:List Int)(a:Int):floorI K l a≤l.length:=by
 have:=floorP_le K l (min a l.length).toNat
 unfold floorI
 omega
theorem nextB_le (K:SG.Kinds)(l:List Int)(a:Int):nextB K l a≤l.length:=by
 unfold nextB
 split
 ·omega
 ·split
  ·exact Nat.le_refl _
  ·exact SG.nextP_le _ _ _
structure TT (w:World)(T:List RW.Row)(tp:Nat)(A:Option Addr)(c:Nat)(l:List Int):Prop where
 tabs:Tabs T tp w
 tidy:(KT T).tidy
 txt:Li 1 encC w (fun _=>True) A l
 sc:Sc l
 cap:l.length≤c
 few:l.length≤100000
theorem TT.later {w w':World}{T:List RW.Row}{tp:Nat}{A:Option Addr}{c:Nat}{l:List Int}(h:TT w T tp A c l)(hb:Below w.heap.size w w'):TT w' T tp A c l:=⟨h.tabs.later hb,h.tidy,h.txt.later hb,h.sc,h.cap,h.few⟩
section
variable {w:World}{T:List RW.Row}{tp:Nat}{A:Option Addr}{c:Nat}{l:List Int}
set_option maxHeartbeats 4000000 in
theorem pfloor_any (h:TT w T tp A c l)(a:Int):Calls Tryz.prog 83 #[.pointer (some ⟨tp,0,none⟩),.slice A l.length c,.int .i64 a] w fun e w'=>e= .returned (.int .i64 (floorI (KT T) l a:Nat))∧Below w.heap.size w w':=by
 by_cases h0:a≤0
 ·rw [floorI_low h0]
  have d0:decide (a≤0)=true:=by simpa using h0
  clear h h0
  go_enter Tryz.func83,Tryz.ntmps83
  go_wp2
  go_ret
  exact⟨rfl,Below.refl _ _⟩
 ·have d0:decide (a≤0)=false:=by simpa using h0
  by_cases h1:(l.length:Int)≤a
  ·rw [floorI_high h1]
   have d1:decide ((l.length:Int)≤a)=true:=by simpa using h1
   clear h h0 h1
   go_enter Tryz.func83,Tryz.ntmps83
   go_wp2
   go_ret
   exact⟨rfl,Below.refl _ _⟩
  ·have d1:decide ((l.length:Int)≤a)=false:=by simpa using h1
   obtain⟨n,rfl⟩:∃n:Nat,a=n:=⟨a.toNat,by omega⟩
   have C:=around_any (T:=T) (tp:=tp) A c l w h.tabs h.tidy h.txt h.sc h.cap h.few n (by omega)
   rw [floorI_at (by omega)]
   obtain⟨V,hV⟩:∃V,floorP (KT T) l n=V:=⟨_,rfl⟩
   obtain⟨U,hU⟩:∃V,SG.nextP (KT T) l (n+1)=V:=⟨_,rfl⟩
   rw [hV,hU]at C
   rw [hV]
   have C:=Lib.hid C
   have x0:decide (n=0)=false:=by simp;omega
   have x1:decide (l.length≤n)=false:=by simp;omega
   clear h h0 h1 hV hU
   go_enter Tryz.func83,Tryz.ntmps83
   go_wp2_with fail
   refine C.out.mono ?_
   rintro e w1 ⟨rfl,hb⟩
   have HB:=Lib.hid hb
   clear hb C
   go_wp2
   go_ret
   exact⟨rfl,HB.out⟩
set_option maxHeartbeats 4000000 in
theorem pnext_any (h:TT w T tp A c l)(a:Int):Calls Tryz.prog 133 #[.pointer (some ⟨tp,0,none⟩),.slice A l.length c,.int .i64 a] w fun e w'=>e= .returned (.int .i64 (nextB (KT T) l a:Nat))∧Below w.heap.size w w':=by
 unfold nextB
 by_cases h0:a<0
 ·rw [if_pos h0]
  have d0:decide (a<0)=true:=by simpa using h0
  clear h h0
  go_enter Tryz.func133,Tryz.ntmps133
  go_wp2
  go_ret
  exact⟨rfl,Below.refl _ _⟩
 ·rw [if_neg h0]
  have d0:decide (a<0)=false:=by simpa using h0
  by_cases h1:(l.length:Int)≤a
  ·rw [if_pos h1]
   have d1:decide ((l.length:Int)≤a)=true:=by simpa using h1
   clear h h0 h1
   go_enter Tryz.func133,Tryz.ntmps133
   go_wp2
   go_ret
   exact⟨rfl,Below.refl _ _⟩
  ·rw [if_neg h1]
   have d1:decide ((l.length:Int)≤a)=false:=by simpa using h1
   obtain⟨n,rfl⟩:∃n:Nat,a=n:=⟨a.toNat,by omega⟩
   have C:=around_any (T:=T) (tp:=tp) A c l w h.tabs h.tidy h.txt h.sc h.cap h.few n (by omega)
   rw [Int.toNat_natCast]
   obtain⟨V,hV⟩:∃V,floorP (KT T) l n=V:=⟨_,rfl⟩
   obtain⟨U,hU⟩:∃V,SG.nextP (KT T) l (n+1)=V:=⟨_,rfl⟩
   rw [hV,hU]at C
   rw [hU]
   have C:=Lib.hid C
   have x1:decide (l.length≤n)=false:=by simp;omega
   clear h h0 h1 hV hU
   go_enter Tryz.func133,Tryz.ntmps133
   go_wp2_with fail
   refine C.out.mono ?_
   rintro e w1 ⟨rfl,hb⟩
   have HB:=Lib.hid hb
   clear hb C
   go_wp2
   go_ret
   exact⟨rfl,HB.out⟩
set_option maxHeartbeats 4000000 in
theorem pceil_any (h:TT w T tp A c l)(a:Int)(ha:a≤9223372036854775807):Calls Tryz.prog 82 #[.pointer (some ⟨tp,0,none⟩),.slice A l.length c,.int .i64 a] w fun e w'=>e= .returned (.int .i64 (SG.nextP (KT T) l a.toNat:Nat))∧Below w.heap.size w w':=by
 by_cases h0:a≤0
 ·rw [show a.toNat=0 by omega,nextP_zero]
  have d0:decide (a≤0)=true:=by simpa using h0
  clear h h0
  go_enter Tryz.func82,Tryz.ntmps82
  go_wp2
  go_ret
  exact⟨rfl,Below.refl _ _⟩
 ·have d0:decide (a≤0)=false:=by simpa using h0
  have C:=pnext_any h (a - 1)
  rw [nextB_ceil _ _ (by omega)]at C
  obtain⟨U,hU⟩:∃V,SG.nextP (KT T) l a.toNat=V:=⟨_,rfl⟩
  rw [hU]at C ⊢
  have C:=Lib.hid C
  have d1:IntKind.i64.wrap (a - 1)=a - 1:=IntWalk.i64_in _ (by omega)
  clear h hU
  go_enter Tryz.func82,Tryz.ntmps82
  go_wp2_with fail
  refine C.out.mono ?_
  rintro e w1 ⟨rfl,hb⟩
  have HB:=Lib.hid hb
  clear hb C
  go_wp2
  go_ret
  exact⟨rfl,HB.out⟩
end
open Go.RowKit
section
variable {w:World}{T:List RW.Row}{tp:Nat}{A:Option Addr}{c:Nat}{l:List Int}
end
open Go.RowKit
set_option maxRecDepth 100000 in
theorem ex11:floorI (KT RW.rowsT) [97,127462,127463,127464] 2=1∧SG.nextP (KT RW.rowsT) [97,127462,127463,127464] 2=3∧SG.nextP (KT RW.rowsT) [97,127462,127463,127464] 1=1:=by
 have b:SG.startsP (KT RW.rowsT) [97,127462,127463,127464]=[0,1,3]:=by decide+kernel
 have h1:SG.begAt (KT RW.rowsT) [97,127462,127463,127464] 1=true:=(SG.starts_mem (s:=[97,127462,127463,127464]) (p:=1) (by rw [b];decide)).2
 have h3:SG.begAt (KT RW.rowsT) [97,127462,127463,127464] 3=true:=(SG.starts_mem (s:=[97,127462,127463,127464]) (p:=3) (by rw [b];decide)).2
 have h2:SG.begAt (KT RW.rowsT) [97,127462,127463,127464] 2=false:=not_begins (by decide) (by rw [b];decide)
 refine⟨?_,?_,SG.nextP_yes (by decide) h1⟩
 ·have:=around_end (K:=KT RW.rowsT) (l:=[97,127462,127463,127464]) (f:=1) (n:=3) (a:=2) h1 (by decide) (by decide) (by decide) (.inr h3) (fun j a b=>by obtain rfl:j=2:=(by omega);exact h2)
  exact this.1
 ·rw [SG.nextP_no (by decide) h2]
  exact SG.nextP_yes (by decide) h3
structure LB (w:World)(T:List RW.Row)(tp:Nat)(A:Option Addr)(c:Nat)(A0:Option Addr)(c0:Nat)(l:List Int)(X:World):Prop where
 tt:TT X T tp A0 c0 l
 rt:RT X A c T A0 l
 be:Below w.heap.size w X
theorem LB.later {w X Y:World}{T:List RW.Row}{tp:Nat}{A:Option Addr}{c:Nat}{A0:Option Addr}{c0:Nat}{l:List Int}(h:LB w T tp A c A0 c0 l X)(hb:Below X.heap.size X Y):LB w T tp A c A0 c0 l Y:=⟨h.tt.later hb,h.rt.later hb,bStepS h.be hb⟩
theorem LB.drewN {w X:World}{T:List RW.Row}{tp:Nat}{A:Option Addr}{c:Nat}{A0:Option Addr}{c0:Nat}{l:List Int}(h:LB w T tp A c A0 c0 l X)(m:Nat):LB w T tp A c A0 c0 l (X.drewN m):=h.later (selfDrew X m)
end Go.Proofs.YtlopleeopnnoeaaGreat
