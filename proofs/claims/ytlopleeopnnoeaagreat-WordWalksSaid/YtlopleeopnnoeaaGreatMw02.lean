import Derived.Test.YtlopleeopnnoeaaGreatMw01
import Derived.Test.YtlopleeopnnoeaaGreatMb02
import Derived.Test.YtlopleeopnnoeaaGreatMb26
import Derived.Test.YtlopleeopnnoeaaGreatMy03
import Derived.BigQuiet
set_option linter.unusedVariables false
set_option linter.unusedSimpArgs false
namespace Go.Proofs.YtlopleeopnnoeaaGreat
open Go.RowKit
def encW (x:Nat × Nat):List Value:=[.int .i64 x.1,.int .i64 x.2]
theorem encW_len (x:Nat × Nat):(encW x).length=2:=rfl
theorem words_elt:Elt Tryz.prog 52 55 2 16:=elt_of Tryz.underlying52 (z:= .agg #[.int .i64 0,.int .i64 0]) (by kernel_rfl) rfl (by decide)
set_option maxHeartbeats 4000000 in
theorem pwords_any {w:World}{T:List RW.Row}{tp:Nat}{A:Option Addr}{c:Nat}{l:List Int}(h:TT w T tp A c l)(hok:(KT T).ok):
  Calls Tryz.prog 31 #[.pointer (some ⟨tp,0,none⟩),.slice A l.length c] w (TellsO 55 2 encW (WD.words (KT T) (ltT T) l) w):=by
 have HT:=Lib.hid h
 have CN:=Lib.hid (fun(X:World) (hX:Below w.heap.size w X) (a:Nat) (ha:WD.bnd (KT T) l a) (F E:Int) (O:Bool) hv=>wnext_any (h.later hX) hok a ha F E O hv)
 have HW:=Lib.hid (show ∀a,WD.stop (KT T) (ltT T) l a→(WD.skip (KT T) (ltT T) l a<l.length→WD.wordsTo (KT T) (ltT T) l (WD.run (KT T) (ltT T) l (WD.skip (KT T) (ltT T) l a))=WD.wordsTo (KT T) (ltT T) l a++[(WD.skip (KT T) (ltT T) l a,WD.run (KT T) (ltT T) l (WD.skip (KT T) (ltT T) l a))]∧WD.skip (KT T) (ltT T) l a<WD.run (KT T) (ltT T) l (WD.skip (KT T) (ltT T) l a)∧a≤WD.skip (KT T) (ltT T) l a∧WD.stop (KT T) (ltT T) l (WD.run (KT T) (ltT T) l (WD.skip (KT T) (ltT T) l a)))∧(l.length≤WD.skip (KT T) (ltT T) l a→WD.wordsTo (KT T) (ltT T) l a=WD.words (KT T) (ltT T) l)from fun a ha=>⟨fun hs=>⟨(WD.words_step ha hs).1,(WD.words_step ha hs).2,(WD.first_spec (p:=WD.let_ (KT T) (ltT T) l) (n:=l.length) (i:=a) ha.1.1).1,WD.run_stop (by omega)⟩,fun hs=>WD.words_end ha hs⟩)
 have HL:=Lib.hid (show ∀a,WD.stop (KT T) (ltT T) l a→(WD.wordsTo (KT T) (ltT T) l a).length≤a from fun a _=>by
  unfold WD.wordsTo WD.begs
  rw [List.length_map]
  have:=List.length_filter_le (WD.beg (KT T) (ltT T) l) (List.range a)
  rwa [List.length_range]at this)
 have hfew:=h.few
 obtain⟨N,hN⟩:∃N,l.length=N:=⟨_,rfl⟩
 rw [hN]at CN HW hfew ⊢
 have HN:=Lib.hid hN
 have H0:=Lib.hid (show Grows w 55 2 encW none 0 0 (WD.wordsTo (KT T) (ltT T) l 0) w∧WD.stop (KT T) (ltT T) l 0 from⟨Grows.start _ _ _,⟨⟨Nat.zero_le _,fun _=>rfl⟩,.inl rfl⟩⟩)
 clear h hok hN
 go_enter Tryz.func31,Tryz.ntmps31
 go_wp2
 go_loopw [5,6,7,8,9] (fun ov av _ _ _ wr=>∃ (a k:Nat) (A1:Option Addr) (c1:Nat),av= .int .i64 a∧ov= .slice A1 k c1∧a≤N∧k≤N∧Hid (Grows w 55 2 encW A1 k c1 (WD.wordsTo (KT T) (ltT T) l a) wr∧WD.stop (KT T) (ltT T) l a)) (fun _ a _ _ _ _=>N -(intOf a).toNat)
 case atStart=>exact⟨0,0,none,0,rfl,rfl,Nat.zero_le _,Nat.zero_le _,H0⟩
 case round=>
  obtain⟨a,k,A1,c1,rfl,rfl,haN,hkN,H⟩:=hrel
  have hw:=HW.out a H.out.2
  have C:=Lib.hid (fun(F E:Int) (O:Bool) hv=>CN.out wr H.out.1.below a H.out.2.1 F E O hv)
  obtain⟨S,hS⟩:∃S,WD.skip (KT T) (ltT T) l a=S:=⟨_,rfl⟩
  rw [hS]at hw C
  obtain⟨R,hR⟩:∃R,WD.run (KT T) (ltT T) l S=R:=⟨_,rfl⟩
  rw [hR]at hw C
  clear hS hR
  by_cases hs:S<N
  ·have C2:=Lib.hid (C.out ((S:Nat):Int) ((R:Nat):Int) true (if_pos hs))
   have HS:=Lib.hid (hw.1 hs)
   have hSR:=(hw.1 hs).2.1
   have haS:=(hw.1 hs).2.2.1
   have hRN:R≤N:=by rw [←HN.out];exact HS.out.2.2.2.1.1
   have hk9:=own_count encW_len (by decide) H.out.1.own
   have hk8:k+1≤N:=by
    have h1:=HL.out R HS.out.2.2.2
    rw [HS.out.1,List.length_append,hk9]at h1
    simp at h1
    omega
   clear hw C hk9
   go_wp2_with fail
   refine C2.out.mono ?_
   rintro e w2 ⟨rfl,hb2⟩
   have H2:=Lib.hid (H.out.1.later hb2)
   have hz2:=H2.out.below.size
   clear C2 hb2
   go_wp2_with (at_builtin;refine wpList_push words_elt H2.out.own hz2 rfl rfl rfl rfl (by simp) rfl rfl (by unfold maxLen;omega) (by omega) ?_;intro A6 c6 w6 hp;have H6:=Lib.hid (show Grows w 55 2 encW A6 (k+1) c6 (WD.wordsTo (KT T) (ltT T) l R) w6 from by
    rw [HS.out.1]
    exact H2.out.push (Below.refl _ _) hp);clear hp)
   go_roundw
   case rel=>exact⟨R,k+1,A6,c6,by go_num,rfl,hRN,hk8,H6.out,HS.out.2.2.2⟩
   case measure=>simp [intOf];omega
  ·have C2:=Lib.hid (C.out 0 0 false (if_neg hs))
   have HE:=Lib.hid (hw.2 (by omega))
   clear hw C
   go_wp2_with fail
   refine C2.out.mono ?_
   rintro e w2 ⟨rfl,hb2⟩
   have H2:=Lib.hid (H.out.1.later hb2)
   clear C2 hb2
   go_wp2
   go_ret
   exact⟨_,_,_,rfl,by rw [←HE.out];exact H2.out.own,H2.out.below⟩
theorem own_put {X:World}{base n c size:Nat}{E:TypeId}{A:Option Addr}{xs:List Value}(h:X.ownsRow base E size (.slice A n c) n xs)(j:Nat)(hj:j<n*size)(u:Value):∃g,A=some ⟨g,0,none⟩∧base≤g∧g<X.heap.size∧(X.setCell ⟨g,j,none⟩ u).ownsRow base E size (.slice A n c) n (xs.set j u)∧(∀ (i:Nat) (v:Value),xs[i]? =some v→X.cell? ⟨g,i,none⟩=some v)∧∀i,X.frozen? ⟨g,i,none⟩=false:=by
 have hx:=h.1
 have hn0:0<n:=by
  rcases Nat.eq_zero_or_pos n with h0|h0
  ·subst h0;simp at hj
  ·exact h0
 obtain⟨g,cs,rfl,hb,hB,_,_,hcs,hxc⟩:=own_blk h hn0
 refine⟨g,rfl,hb,hB.1,?_,fun i v hv=>(hB.2.1 i).trans (hxc i v hv),hB.2.2⟩
 rcases h.2 with⟨hv,_⟩|⟨g',cap,cur,hv,hb',hh,h1,h2,h3,h4⟩
 ·cases hv
 ·injection hv with e1 e2 e3
  injection e1 with e1
  injection e1 with e1
  subst e1;subst e3
  refine⟨by rw [List.length_set];exact hx,.inr ⟨g,c,cur.setIfInBounds j u,rfl,hb,heap_setCell_same X g j cur E u hh,h1,h2,by rw [Array.size_setIfInBounds];exact h3,?_⟩⟩
  rw [Array.toList_setIfInBounds,List.take_set,h4]
set_option maxHeartbeats 2000000 in
theorem rin_any {T:List RW.Row}{A A2:Option Addr}{l:List Int}{c:Nat}(c2:Nat)(w:World)(h:RT w A c T A2 l)(hc2:l.length≤c2)(a:Nat)(ha:a<l.length)(hb:SG.begAt (KT T) l a=true)(q:Bool)(hq:ltT T (l.getD a 0)=q):
  Calls Tryz.prog 80 #[.slice A T.length c,.slice A2 l.length c2,.int .i64 (a:Nat)] w fun e w'=>e= .returned (.bool q)∧∃m,w'=w.drewN m:=by
 have CB:=Lib.hid (begins_any c2 h hc2 a ha)
 rw [hb]at CB
 have C1:=Lib.hid (fun(n:Nat)=>(h.later (selfDrew w n)).is1 (j:=a) ha 8 q hq)
 have HC:=Lib.hid (fun(n:Nat)=>(h.later (selfDrew w n)).txt.scs (by omega))
 obtain⟨b,o,rfl,hbb,_,hcell⟩:=h.txt.scs (by omega)
 have k0:=hcell a ha
 obtain⟨x,hx⟩:∃x,l.getD a 0=x:=⟨_,rfl⟩
 rw [hx]at k0 C1
 have HK:=Lib.hid k0
 obtain⟨N,hN⟩:∃N,l.length=N:=⟨_,rfl⟩
 rw [hN]at CB ha ⊢
 clear h hcell hx hN hb hq hc2 k0 HC
 go_enter Tryz.func80,Tryz.ntmps80
 go_wp2_with fail
 refine CB.out.mono ?_
 rintro e w1 ⟨rfl,m,rfl⟩
 have k1:(w.drewN m).cell? ⟨b,o+a,none⟩=some (.int .i32 x):=HK.out
 obtain⟨W1,hW1⟩:∃W1,w.drewN m=W1:=⟨_,rfl⟩
 have C2:=Lib.hid (C1.out m)
 rw [hW1]at k1 C2 ⊢
 have HW1:=Lib.hid hW1
 clear CB C1 hW1
 go_wp2_with fail
 refine C2.out.mono ?_
 rintro e w2 ⟨⟨v,rfl,hv⟩,rfl⟩
 clear C2 k1
 cases q
 ·go_wp2
  go_ret
  exact⟨rfl,m,HW1.out.symm⟩
 ·obtain rfl:v=1:=by simpa using hv
  clear hv
  go_wp2
  go_ret
  exact⟨rfl,m,HW1.out.symm⟩
theorem flatW_set (D:List (Nat × Nat))(j0 a v:Nat):(flatL encW (D++[(j0,a)])).set (D.length*2+1) (.int .i64 (v:Int))=flatL encW (D++[(j0,v)]):=by
 rw [flatL_snoc,flatL_snoc]
 have hl:(flatL encW D).length=D.length*2:=flatL_len encW_len D
 rw [List.set_append_right _ _ (by omega),hl]
 congr 1
 rw [show D.length*2+1 - D.length*2=1 by omega]
 rfl
set_option maxHeartbeats 8000000 in
set_option maxRecDepth 100000 in
theorem rwords_any {T:List RW.Row}{A A2:Option Addr}{l:List Int}{c:Nat}(c2:Nat)(w:World)(h:RT w A c T A2 l)(hc2:l.length≤c2):
  Calls Tryz.prog 32 #[.slice A T.length c,.slice A2 l.length c2] w (TellsO 55 2 encW (WD.words (KT T) (ltT T) l) w):=by
 have HR:=Lib.hid h
 have hln:=h.ln
 have CI:=Lib.hid (fun(X:World) (hX:Below w.heap.size w X) (a:Nat) (ha:a<l.length) (hb:SG.begAt (KT T) l a=true) (q:Bool) hq=>rin_any c2 X (h.later hX) hc2 a ha hb q hq)
 have CX:=Lib.hid (fun(X:World) (hX:Below w.heap.size w X) (a:Nat) (ha:a≤1000000)=>rnext_any c2 (h.later hX) hc2 a ha)
 have HE:=Lib.hid (WD.ref_end (K:=KT T) (lt:=ltT T) (l:=l))
 have HLen:=Lib.hid (show ∀a,(WD.refTo (KT T) (ltT T) l a).length≤a from fun a=>by
  unfold WD.refTo WD.begs
  rw [List.length_map]
  have:=List.length_filter_le (WD.beg (KT T) (ltT T) l) (List.range a)
  rwa [List.length_range]at this)
 obtain⟨N,hN⟩:∃N,l.length=N:=⟨_,rfl⟩
 rw [hN]at CI CX HE hln ⊢
 have HN:=Lib.hid hN
 have H0:=Lib.hid (show Grows w 55 2 encW none 0 0 (WD.refTo (KT T) (ltT T) l 0) w∧WD.bnd (KT T) l 0∧WD.cont (KT T) (ltT T) l 0 from⟨Grows.start _ _ _,⟨Nat.zero_le _,fun _=>rfl⟩,fun h=>by cases h⟩)
 clear h hN hc2
 go_enter Tryz.func32,Tryz.ntmps32
 go_wp2
 go_loopw [5,6,7] (fun ov av _ wr=>∃ (a k:Nat) (A1:Option Addr) (c1:Nat),av= .int .i64 a∧ov= .slice A1 k c1∧a≤N∧k≤N∧Hid (Grows w 55 2 encW A1 k c1 (WD.refTo (KT T) (ltT T) l a) wr∧WD.bnd (KT T) l a∧WD.cont (KT T) (ltT T) l a)) (fun _ a _ _=>N -(intOf a).toNat)
 case atStart=>exact⟨0,0,none,0,rfl,rfl,Nat.zero_le _,Nat.zero_le _,H0⟩
 case round=>
  obtain⟨a,k,A1,c1,rfl,rfl,haN,hkN,H⟩:=hrel
  by_cases hlt:a<N
  ·have hal:a<l.length:=by rw [HN.out];exact hlt
   have hbg:=H.out.2.1.2 hal
   obtain⟨q,hq⟩:∃q,ltT T (l.getD a 0)=q:=⟨_,rfl⟩
   have C1:=Lib.hid (CI.out wr H.out.1.below a hlt hbg q hq)
   have hnx:=WD.bnd_next (K:=KT T) (l:=l) (a:=a) hal
   have CX2:=Lib.hid (fun(X:World) (hX:Below w.heap.size w X)=>CX.out X hX a (by omega))
   have HQ:=Lib.hid hq
   have hno:=fun h=>WD.ref_no (K:=KT T) (lt:=ltT T) hal hbg h
   have hnew:=fun h=>WD.ref_new (K:=KT T) (lt:=ltT T) hal hbg h
   have hon:=fun h h2=>WD.ref_on (K:=KT T) (lt:=ltT T) hal hbg h h2 H.out.2.2
   obtain⟨v,hv⟩:∃v,SG.nextP (KT T) l (a+1)=v:=⟨_,rfl⟩
   rw [hv]at CX2 hnx hno hnew hon
   have hvN:v≤N:=by rw [←HN.out];exact hnx.1.1
   have hav:=hnx.2.1
   have hk9:=own_count encW_len (by decide) H.out.1.own
   have HBv:=Lib.hid hnx.1
   clear hv hnx hbg hq CX
   go_wp2_with fail
   refine C1.out.mono ?_
   rintro e w1 ⟨rfl,m1,rfl⟩
   clear C1
   cases q
   ·have HNo:=Lib.hid (hno HQ.out)
    clear hno hnew hon
    have B1:=Lib.hid (belDrew H.out.1.below m1)
    go_wp2_with fail
    refine(CX2.out _ B1.out).mono ?_
    rintro e w2 ⟨rfl,m2,rfl⟩
    have H2:=Lib.hid (show Grows w 55 2 encW A1 k c1 (WD.refTo (KT T) (ltT T) l v) (wr.drewN (m1+m2))by
     rw [HNo.out.1]
     exact H.out.1.later (selfDrew wr _))
    clear CX2
    go_wp2
    go_roundw
    case rel=>exact⟨v,k,A1,c1,by go_num,rfl,hvN,hkN,H2.out,HBv.out,HNo.out.2⟩
    case measure=>simp [intOf];omega
   ·have B1:=Lib.hid (belDrew H.out.1.below m1)
    clear hno
    go_wp2_with fail
    refine(CX2.out _ B1.out).mono ?_
    rintro e w2 ⟨rfl,m2,rfl⟩
    obtain⟨W2,hW2⟩:∃W2,(wr.drewN m1).drewN m2=W2:=⟨_,rfl⟩
    rw [hW2]
    have G2:=Lib.hid (show Grows w 55 2 encW A1 k c1 (WD.refTo (KT T) (ltT T) l a) W2 by rw [←hW2];exact H.out.1.later (belDrew (selfDrew wr m1) m2))
    clear hW2 H
    cases hp:WD.prev (KT T) (ltT T) l a
    case true=>
     obtain⟨D,j0,h1,h2,h3⟩:=hon HQ.out hp
     obtain⟨L,hL⟩:∃L,D.length=L:=⟨_,rfl⟩
     have hk1:k=L+1:=by rw [←hk9,h1,←hL];simp
     subst hk1
     obtain⟨g,rfl,hg1,hg2,hown,hcell,hfz⟩:=own_put G2.out.own (L*2+1) (by omega) (.int .i64 (v:Int))
     have x0:W2.cell? ⟨g,L*2+1,none⟩=some (.int .i64 (a:Int)):=hcell _ _ (by
      rw [h1,flatL_snoc,List.getElem?_append_right (by rw [flatL_len encW_len,hL];omega),flatL_len encW_len,hL,show L*2+1 - L*2=1 by omega]
      rfl)
     have f0:=hfz (L*2+1)
     have G3:=Lib.hid (show Grows w 55 2 encW (some ⟨g,0,none⟩) (L+1) c1 (WD.refTo (KT T) (ltT T) l v) (W2.setCell ⟨g,L*2+1,none⟩ (.int .i64 (v:Int)))from⟨by
      rw [h1,←hL,flatW_set]at hown
      rw [h2,←hL]
      exact hown,G2.out.below.setCell (p:=⟨g,L*2+1,none⟩) hg1 _⟩)
     have H3:=Lib.hid h3
     clear h1 h2 h3 hp hL hown hcell hfz hnew hon hk9
     go_wp2_with fail
     refine(CX2.out _ G3.out.below).mono ?_
     rintro e w3 ⟨rfl,m3,rfl⟩
     have G4:=Lib.hid (G3.out.later (selfDrew _ m3))
     clear CX2
     go_wp2
     go_roundw
     case rel=>exact⟨v,L+1,_,c1,by go_num,rfl,hvN,hkN,G4.out,HBv.out,H3.out⟩
     case measure=>simp [intOf];omega
    case false=>
     obtain⟨h1,h2,h3⟩:=hnew HQ.out hp
     have HN1:=Lib.hid (And.intro h1 h2)
     have hz2:=G2.out.below.size
     have hk8:k+1≤N:=by
      have h5:=HLen.out v
      have h6:=HLen.out a
      rw [hk9]at h6
      omega
     rcases Nat.eq_zero_or_pos k with hk0|hk0
     ·have dk:decide ((0:Int)<(k:Int))=false:=by simp;omega
      have dk2:decide (0<k)=false:=by simp;omega
      have dk3:¬(0:Int)<(k:Int):=by omega
      clear h1 h2 h3 hp hnew hon hk9 hk0
      go_wp2_with (first
       |(at_builtin;refine wpList_push words_elt G2.out.own hz2 rfl rfl rfl rfl (by simp) rfl rfl (by unfold maxLen;omega) (by omega) ?_;intro A6 c6 w6 hp;have H6:=Lib.hid (show Grows w 55 2 encW A6 (k+1) c6 (WD.refTo (KT T) (ltT T) l v) w6 from by
         rw [HN1.out.1]
         exact G2.out.push (Below.refl _ _) hp);clear hp)
       |(go_at_call 74;refine(CX2.out _ H6.out.below).mono ?_;rintro e w7 ⟨rfl,m7,rfl⟩;have H7:=Lib.hid (H6.out.later (selfDrew _ m7))))
      go_roundw
      case rel=>exact⟨v,k+1,A6,c6,by go_num,rfl,hvN,hk8,H7.out,HBv.out,HN1.out.2⟩
      case measure=>simp [intOf];omega
     ·obtain⟨L,rfl⟩:∃L,k=L+1:=⟨k - 1,by omega⟩
      obtain⟨x,hx⟩:∃x,(WD.refTo (KT T) (ltT T) l a)[L]? =some x:=⟨_,List.getElem?_eq_getElem (by rw [hk9];omega)⟩
      have hne:x.2≠a:=fun e=>h3 x (List.mem_of_getElem? hx) e
      obtain⟨xa,xb⟩:=x
      dsimp only at hne
      obtain⟨g,rfl,hg1,hg2,_,hcell,_⟩:=own_put G2.out.own (L*2+1) (by omega) (.int .i64 (v:Int))
      have x0:W2.cell? ⟨g,L*2+1,none⟩=some (.int .i64 (xb:Int)):=hcell _ _ (flatL_get encW_len _ L _ 1 _ hx rfl)
      have dx:((xb:Int)==(a:Int))=false:=by simp;omega
      clear h1 h2 h3 hp hnew hon hk9 hk0 hx hne hcell
      go_wp2_with (first
       |(at_builtin;refine wpList_push words_elt G2.out.own hz2 rfl rfl rfl rfl (by simp) rfl rfl (by unfold maxLen;omega) (by omega) ?_;intro A6 c6 w6 hp;have H6:=Lib.hid (show Grows w 55 2 encW A6 (L+1+1) c6 (WD.refTo (KT T) (ltT T) l v) w6 from by
         rw [HN1.out.1]
         exact G2.out.push (Below.refl _ _) hp);clear hp)
       |(go_at_call 74;refine(CX2.out _ H6.out.below).mono ?_;rintro e w7 ⟨rfl,m7,rfl⟩;have H7:=Lib.hid (H6.out.later (selfDrew _ m7))))
      go_roundw
      case rel=>exact⟨v,L+1+1,A6,c6,by go_num,rfl,hvN,hk8,H7.out,HBv.out,HN1.out.2⟩
      case measure=>simp [intOf];omega
  ·obtain rfl:a=N:=by omega
   go_wp2
   go_ret
   exact⟨_,_,_,rfl,by rw [←HE.out];exact H.out.1.own,H.out.1.below⟩
theorem Li.wd {w:World}{S:Nat→Prop}{A:Option Addr}{L:List (Nat × Nat)}(h:Li 2 encW w S A L){j:Nat}(hj:j<L.length):∃ (x y b o:Nat),L[j]? =some (x,y)∧A=some ⟨b,o,none⟩∧b<w.heap.size∧w.cell? ⟨b,o+j*2,none⟩=some (.int .i64 (x:Int))∧w.cell? ⟨b,o+j*2+1,none⟩=some (.int .i64 (y:Int)):=by
 obtain⟨b,o,e,hb,_,hc⟩:=h.at hj
 refine⟨L[j].1,L[j].2,b,o,by rw [List.getElem?_eq_getElem hj],e,hb,?_,?_⟩
 ·have:=hc 0 _ rfl
  rwa [Nat.add_zero]at this
 ·have:=hc 1 _ rfl
  rwa [←Nat.add_assoc]at this
theorem eq_w2 (x y a b:Int)(w:World):(Op.equalIn 10000 55 (.agg #[.int .i64 x,.int .i64 y]) (.agg #[.int .i64 a,.int .i64 b])).run Tryz.prog w= .ok (x==a&&y==b) w:=by
 rw [show (10000:Nat)=9999+1 from rfl,Op.equalIn]
 have ua:= Tryz.underlying55
 have ub:= Tryz.underlying3
 simp only [Sem.run_bind,run_underlying ua,Result.andThen_ok]
 simp only [Std.Legacy.Range.forIn_eq_forIn_range',Std.Legacy.Range.size,Nat.sub_zero,Nat.add_sub_cancel,Nat.div_one,List.range'_succ,List.range'_zero,List.forIn_cons,List.forIn_nil]
 go_simp
 by_cases h1:x=a<;>by_cases h2:y=b<;>simp [h1,h2]
theorem neq_w2 (x y:Int)(w:World):(Go.binOp .neq 55 (.agg #[.int .i64 x,.int .i64 y]) (.agg #[.int .i64 x,.int .i64 y])).run Tryz.prog w= .ok (.bool false) w:=by
 rw [run_neq_struct,eq_w2]
 simp
set_option maxHeartbeats 8000000 in
set_option maxRecDepth 100000 in
theorem walk_WordWords (w:World)(A0:Option Addr)(n0 c0:Nat)(f0:Nat→Int)(hA:Rd w A0 n0 (fun j=> .int .i32 (f0 j)))(hle:n0≤c0)(hmax:c0≤maxLen)(hp:∀j,j<n0→(Lit.int .i32 (f0 j)).wf=true):
  Calls Tryz.prog 8 #[.slice A0 n0 c0] w (Yes w):=by
 obtain⟨T,hG,hT,C0⟩:=rows_li w
 obtain⟨l,hll,hL0,hSc⟩:=came_text hA hp 150
 have hlc:l.length≤c0:=by omega
 have hl2:l.length≤150:=by omega
 have HG:=Lib.hid hG
 have C0:=Lib.hid C0
 have AW:=Lib.hid (fun X=>awake12_yes X)
 have HL:=Lib.hid (And.intro hL0 hSc)
 have HK:=Lib.hid (show (KT T).ok∧(KT T).tidy by rw [←hT];exact⟨kt_ok given_conj,rows_tidy⟩)
 have CF:=fews_any A0 n0 c0 150 w hle (by unfold maxLen at hmax;omega) (by omega)
 rw [←hll]at CF
 have CF:=Lib.hid CF
 clear hG hA hp hT hL0 hSc hll hle hmax
 go_enter Tryz.func8,Tryz.ntmps8
 go_wp2_with fail
 refine CF.out.mono ?_
 rintro e w0 ⟨rfl,rfl⟩
 clear CF
 go_wp2_with fail
 refine C0.out.mono ?_
 rintro e w1 ⟨A,c,rfl,hL,hc,hm,hb1⟩
 have C1:=Lib.hid (build_tabs A c T w1 (hL.mono fun _ _=>trivial) hc HG.out)
 have L1:=Lib.hid (And.intro (hL.mono (S':=fun _=>True) fun _ _=>trivial) hb1)
 clear C0 hL hb1
 go_wp2_with fail
 refine C1.out.mono ?_
 rintro e w2 ⟨tp,rfl,hU,hb⟩
 have U2:=Lib.hid (And.intro hU (And.intro (L1.out.1.later hb) (L1.out.2.trans (hb.mono L1.out.2.size))))
 clear hU hb C1 L1
 have hT:T.length≤100000:=by have:=HG.out.len;omega
 have CW:=Lib.hid (pwords_any (T:=T) (tp:=tp) (A:=A0) (c:=c0) (l:=l) (w:=w2) ⟨U2.out.1,HK.out.2,HL.out.1.later U2.out.2.2,HL.out.2,hlc,by omega⟩ HK.out.1)
 have CR:=Lib.hid (fun(X:World) (hX:Below w2.heap.size w2 X)=>rwords_any (T:=T) (A:=A) (c:=c) c0 X (RT.mk (A2:=A0) (U2.out.2.1.later hX) hc hT (HL.out.1.later (bStepS U2.out.2.2 hX)) HL.out.2 (by omega)) hlc)
 have HB:=Lib.hid U2.out.2.2
 have HQ:=Lib.hid (show (WD.words (KT T) (ltT T) l).length≤150 from Nat.le_trans WD.words_len hl2)
 obtain⟨L,hLL⟩:∃L,WD.words (KT T) (ltT T) l=L:=⟨_,rfl⟩
 rw [hLL]at CW CR HQ
 obtain⟨N,hN⟩:∃N,l.length=N:=⟨_,rfl⟩
 rw [hN]at CW CR ⊢
 clear U2 hLL hN hlc hl2 HL HK
 go_wp2_with fail
 refine CW.out.mono ?_
 rintro e w3 ⟨A3,n3,c3,rfl,ho3,hb3⟩
 have hn3:=own_count encW_len (by decide) ho3
 have hli3:=(LiV.own encW_len (by decide) ho3).parts.2.1
 have B3:=Lib.hid (And.intro hb3 hli3)
 clear CW ho3 hb3 hli3
 go_wp2_with fail
 refine(CR.out w3 B3.out.1).mono ?_
 rintro e w4 ⟨A4,n4,c4,rfl,ho4,hb4⟩
 have hn4:=own_count encW_len (by decide) ho4
 have hli4:=(LiV.own encW_len (by decide) ho4).parts.2.1
 have B4:=Lib.hid (And.intro (bStepS B3.out.1 hb4) (And.intro (B3.out.2.later hb4) hli4))
 have hq:=HQ.out
 obtain rfl:n3=n4:=by rw [←hn3,hn4]
 have HN:=Lib.hid (show L.length=n3 from hn3)
 rw [hn3]at hq
 clear CR ho4 hb4 hli4 hn3 hn4 B3
 have h2:(((n3:Int) != (n3:Int)))=false:=by simp
 go_wp2
 go_loopw [6] (fun i wx=>∃k:Nat,k≤n3∧i= .int .i64 k∧∃r,wx=w4.drewN r) (fun i _=>n3 -(intOf i).toNat)
 case atStart=>exact⟨0,Nat.zero_le _,rfl,0,rfl⟩
 case round=>
  obtain⟨k,hk,rfl,r,rfl⟩:=hrel
  by_cases hlt:k<n3
  ·obtain⟨x,y,b,o,hx,rfl,_,a0,a1⟩:=B4.out.2.1.wd (j:=k) (by rw [HN.out];exact hlt)
   obtain⟨x',y',b',o',hx',rfl,_,b0,b1⟩:=B4.out.2.2.wd (j:=k) (by rw [HN.out];exact hlt)
   rw [hx]at hx'
   injection hx' with hx'
   injection hx' with hx1 hx2
   subst hx1;subst hx2
   have e2:((x:Int) != (x:Int))=false:=by simp
   have e3:((y:Int) != (y:Int))=false:=by simp
   have e4:((x:Int)==(x:Int))=true:=by simp
   have e5:((y:Int)==(y:Int))=true:=by simp
   have eN:=fun(X:World)=>neq_w2 (x:Int) (y:Int) X
   clear hx
   go_wp2
   go_quiet (fail)
   go_wp2
   go_roundw
   case rel=>exact⟨k+1,by omega,by go_num,_,rfl⟩
   case measure=>simp [intOf];omega
  ·obtain rfl:k=n3:=by omega
   go_wp2_with fail
   refine(AW.out _).mono ?_
   rintro e w8 ⟨rfl,hb⟩
   have U6:=Lib.hid (bStepS HB.out (bStepS (belDrew B4.out.1 r) hb))
   clear hb
   go_wp2
   go_ret
   exact⟨rfl,U6.out⟩
namespace WD
section
variable {K:SG.Kinds}{lt:Int→Bool}{l:List Int}
theorem run_gt {j:Nat}(hj:j<l.length)(hl:let_ K lt l j=true):j<run K lt l j:=by
 unfold let_ at hl
 rw [Bool.and_eq_true]at hl
 rw [run_yes hj hl.2]
 obtain⟨b1,b2,_⟩:=bnd_next (K:=K) hj
 have:=(first_spec (p:=non K lt l) (n:=l.length) (i:=SG.nextP K l (j+1)) b1.1).1
 change _≤run K lt l _ at this
 omega
theorem in_word:∀ (m k:Nat),k≤m→k<l.length→let_ K lt l k=true→∃b,b≤k∧beg K lt l b=true∧k<run K lt l b∧run K lt l b=run K lt l k:=by
 intro m
 induction m with
 |zero=>
  intro k hk hl h
  obtain rfl:k=0:=by omega
  exact⟨0,Nat.le_refl _,by unfold beg;rw [h];rfl,run_gt hl h,rfl⟩
 |succ m ih=>
  intro k hk hl h
  cases hp:prev K lt l k
  ·exact⟨k,Nat.le_refl _,by unfold beg;rw [h,hp];rfl,run_gt hl h,rfl⟩
  ·have h0:0<k:=by
    rcases Nat.eq_zero_or_pos k with e|e
    ·subst e;cases hp
    ·exact e
   rw [prev_of h0]at hp
   have hf:=floor_begs (K:=K) (l:=l) (a:=k - 1) (by omega)
   have hfl:=floor_up (K:=K) (l:=l) (k - 1)
   obtain⟨b,hb1,hb2,hb3,hb4⟩:=ih (floorP K l (k - 1)) (by omega) (by omega) (by unfold let_;rw [hf,hp];rfl)
   have e:run K lt l (floorP K l (k - 1))=run K lt l k:=by
    refine first_far (by omega) (by omega) fun i hi1 hi2=> ?_
    unfold non
    rcases Nat.eq_or_lt_of_le hi1 with e|e
    ·rw [←e,hp];simp
    ·cases hi:SG.begAt K l i
     ·rfl
     ·have:=floor_ge hi (a:=k - 1) (by omega) (by omega)
      omega
   exact⟨b,by omega,hb2,by rw [hb4,e];exact run_gt hl h,by rw [hb4,e]⟩
theorem words_at {i:Nat}{x:Nat × Nat}(h:(words K lt l)[i]? =some x):(begs K lt l l.length)[i]? =some x.1∧x.2=run K lt l x.1:=by
 unfold words at h
 rw [List.getElem?_map]at h
 obtain⟨j,hj,rfl⟩:=Option.map_eq_some_iff.1 h
 exact⟨hj,rfl⟩
theorem begs_sorted {a i j x y:Nat}(hi:(begs K lt l a)[i]? =some x)(hj:(begs K lt l a)[j]? =some y)(h:x<y):i<j:=by
 have hs:(begs K lt l a).Pairwise (· < ·):=List.Pairwise.filter _ List.pairwise_lt_range
 rcases Nat.lt_trichotomy i j with h1|h1|h1
 ·exact h1
 ·subst h1;rw [hi]at hj;injection hj with hj;omega
 ·have hil:=(List.getElem?_eq_some_iff.1 hi)
  have hjl:=(List.getElem?_eq_some_iff.1 hj)
  obtain⟨hil,rfl⟩:=hil
  obtain⟨hjl,rfl⟩:=hjl
  have:=List.pairwise_iff_getElem.1 hs j i hjl hil h1
  omega
theorem begs_mem {b:Nat}(hb:b<l.length)(h:beg K lt l b=true):∃i:Nat,(begs K lt l l.length)[i]? =some b:=List.mem_iff_getElem?.1 (by unfold begs;rw [List.mem_filter,List.mem_range];exact⟨hb,h⟩)
theorem fwd_is {u i:Nat}{x:Nat × Nat}(hu:bnd K l u)(hx:(words K lt l)[i]? =some x)(hbef:∀ (k:Nat) (y:Nat × Nat),k<i→(words K lt l)[k]? =some y→y.2≤u)(hgt:u<x.2):fwd K lt l u=x.2:=by
 obtain⟨h1,h2⟩:=words_at hx
 obtain⟨j,R⟩:=x
 dsimp only at h1 h2 hgt
 subst h2
 have hm:j∈begs K lt l l.length:=List.mem_of_getElem? h1
 have hjl:=(begs_lt hm).1
 have hjb:=beg_begs (begs_lt hm).2
 obtain⟨r1,r2,r3,r4⟩:=first_spec (p:=non K lt l) (n:=l.length) (i:=j) (by omega)
 change run K lt l j≤l.length at r2
 have rno:∀k,j≤k→k<run K lt l j→non K lt l k=false:=r4
 show fwd K lt l u=run K lt l j
 unfold fwd
 rcases Nat.lt_or_ge u j with h|h
 ·have hsk:skip K lt l u=j:=by
   refine first_is (by omega) (by omega) (fun _=>by unfold let_;rw [hjb.1,hjb.2.1];rfl) fun k hk1 hk2=> ?_
   cases hl:let_ K lt l k
   ·rfl
   ·obtain⟨b,hb1,hb2,hb3,_⟩:=in_word k k (Nat.le_refl _) (by omega) hl
    obtain⟨q,hq⟩:=begs_mem (by omega) hb2
    have hqi:=begs_sorted hq h1 (by omega)
    have:=hbef q (b,run K lt l b) hqi (by unfold words;rw [List.getElem?_map];unfold begs at hq;rw [hq];rfl)
    dsimp only at this
    omega
  rw [hsk,if_pos hjl]
 ·have hul:u<l.length:=by omega
  have hn:=rno u h hgt
  unfold non at hn
  rw [hu.2 hul,Bool.true_and]at hn
  simp only [Bool.not_eq_false']at hn
  rw [skip_yes hul (hu.2 hul) hn,if_pos hul]
  exact(first_far h (by omega) fun k hk1 hk2=>rno k hk1 (by omega)).symm
theorem fwd_none {u:Nat}(hu:bnd K l u)(hall:∀ (k:Nat) (y:Nat × Nat),(words K lt l)[k]? =some y→y.2≤u):fwd K lt l u=l.length:=by
 unfold fwd
 by_cases hs:skip K lt l u<l.length
 ·exfalso
  obtain⟨h1,h2,h3,h4⟩:=first_spec (p:=let_ K lt l) (n:=l.length) (i:=u) hu.1
  change u≤skip K lt l u at h1
  have hS:let_ K lt l (skip K lt l u)=true:=h3 hs
  obtain⟨b,hb1,hb2,hb3,_⟩:=in_word _ _ (Nat.le_refl _) hs hS
  obtain⟨q,hq⟩:=begs_mem (by omega) hb2
  have:=hall q (b,run K lt l b) (by unfold words;rw [List.getElem?_map];unfold begs at hq;rw [hq];rfl)
  dsimp only at this
  omega
 ·rw [if_neg hs]
theorem last_beg {e:Nat}:(let_ K lt l e=true∧(e=0∨prev K lt l e=false))↔beg K lt l e=true:=by
 unfold beg
 constructor
 ·rintro⟨h1,h2⟩
  rw [h1,Bool.true_and]
  rcases h2 with rfl|h2
  ·rfl
  ·rw [h2];rfl
 ·intro h
  rw [Bool.and_eq_true]at h
  exact⟨h.1,.inr (by simpa using h.2)⟩
theorem lastF_none:∀e,(∀j,j<e→beg K lt l j=false)→lastF K lt l 0 e=none:=by
 intro e
 induction e with
 |zero=>intro _;rfl
 |succ e ih=>
  intro h
  rw [lastF,if_neg (fun hn=>by
   have:=last_beg.1 hn.2
   rw [h e (by omega)]at this
   cases this)]
  exact ih fun j hj=>h j (by omega)
theorem lastF_some {b:Nat}(hb:beg K lt l b=true):∀e,b<e→(∀j,b<j→j<e→beg K lt l j=false)→lastF K lt l 0 e=some b:=by
 intro e
 induction e with
 |zero=>intro h;omega
 |succ e ih=>
  intro h hq
  rw [lastF]
  rcases Nat.eq_or_lt_of_le (show b≤e by omega)with h1|h1
  ·subst h1
   rw [if_pos ⟨Nat.zero_le _,last_beg.2 hb⟩]
  ·rw [if_neg (fun hn=>by
    have:=last_beg.1 hn.2
    rw [hq e h1 (by omega)]at this
    cases this)]
   exact ih h1 fun j hj1 hj2=>hq j hj1 (by omega)
theorem back_is {e i:Nat}{x:Nat × Nat}(he:e≤l.length)(hx:(words K lt l)[i]? =some x)(haft:∀ (k:Nat) (y:Nat × Nat),i<k→(words K lt l)[k]? =some y→e≤y.1)(hlt:x.1<e):back K lt l e=x.1:=by
 obtain⟨h1,_⟩:=words_at hx
 have hm:=List.mem_of_getElem? h1
 unfold back
 rw [lastF_some (begs_lt hm).2 e hlt fun j hj1 hj2=> ?_]
 ·rfl
 ·cases hb:beg K lt l j
  ·rfl
  ·obtain⟨q,hq⟩:=begs_mem (by omega) hb
   have hiq:=begs_sorted h1 hq hj1
   have:=haft q (j,run K lt l j) hiq (by unfold words;rw [List.getElem?_map];unfold begs at hq;rw [hq];rfl)
   dsimp only at this
   omega
theorem back_none {e:Nat}(he:e≤l.length)(hall:∀ (k:Nat) (y:Nat × Nat),(words K lt l)[k]? =some y→e≤y.1):back K lt l e=0:=by
 unfold back
 rw [lastF_none e fun j hj=> ?_]
 ·rfl
 ·cases hb:beg K lt l j
  ·rfl
  ·obtain⟨q,hq⟩:=begs_mem (by omega) hb
   have:=hall q (j,run K lt l j) (by unfold words;rw [List.getElem?_map];unfold begs at hq;rw [hq];rfl)
   dsimp only at this
   omega
end
end WD
open Go.RowKit
set_option maxHeartbeats 4000000 in
theorem rforward_any {T:List RW.Row}{A A2:Option Addr}{l:List Int}{c:Nat}(c2:Nat)(w:World)(h:RT w A c T A2 l)(hc2:l.length≤c2)(a:Int)(u:Nat)(hu:WD.bnd (KT T) l u)(hau:∀y:Nat,y≤l.length→(a<(y:Int)↔u<y))(V:Nat)(hV:WD.fwd (KT T) (ltT T) l u=V):
  Calls Tryz.prog 36 #[.slice A T.length c,.slice A2 l.length c2,.int .i64 a] w fun e w'=>e= .returned (.int .i64 (V:Nat))∧Below w.heap.size w w':=by
 have CW:=Lib.hid (rwords_any c2 w h hc2)
 have HF:=Lib.hid (fun(i:Nat) (x:Nat × Nat) hx hb hg=>(WD.fwd_is (K:=KT T) (lt:=ltT T) (l:=l) (u:=u) (i:=i) (x:=x) hu hx hb hg).symm.trans hV)
 have HNo:=Lib.hid (fun hall=>(WD.fwd_none (K:=KT T) (lt:=ltT T) (l:=l) (u:=u) hu hall).symm.trans hV)
 have HQ:=Lib.hid (show (WD.words (KT T) (ltT T) l).length≤100000∧∀ (i:Nat) (x:Nat × Nat),(WD.words (KT T) (ltT T) l)[i]? =some x→(a<(x.2:Int)↔u<x.2)from⟨Nat.le_trans WD.words_len h.ln,fun i x hx=>by
  obtain⟨h1,h2⟩:=WD.words_at hx
  have hm:=List.mem_of_getElem? h1
  have hj:=(WD.begs_lt hm).1
  refine hau _ ?_
  rw [h2]
  exact(WD.first_spec (p:=WD.non (KT T) (ltT T) l) (n:=l.length) (i:=x.1) (by omega)).2.1⟩)
 obtain⟨L,hL⟩:∃L,WD.words (KT T) (ltT T) l=L:=⟨_,rfl⟩
 rw [hL]at CW HF HNo HQ
 obtain⟨N,hN⟩:∃N,l.length=N:=⟨_,rfl⟩
 rw [hN]at CW HNo ⊢
 clear h hc2 hu hau hV hL hN
 go_enter Tryz.func36,Tryz.ntmps36
 go_wp2_with fail
 refine CW.out.mono ?_
 rintro e w3 ⟨A3,n3,c3,rfl,ho3,hb3⟩
 have hn3:=own_count encW_len (by decide) ho3
 have hli3:=(LiV.own encW_len (by decide) ho3).parts.2.1
 have B3:=Lib.hid (And.intro hb3 hli3)
 have HN:=Lib.hid (show L.length=n3 from hn3)
 have hq:=HQ.out.1
 rw [hn3]at hq
 clear CW ho3 hb3 hli3 hn3
 go_wp2
 go_loopw [8] (fun i wx=>∃k:Nat,k≤n3∧i= .int .i64 k∧wx=w3∧Hid (∀ (i:Nat) (x:Nat × Nat),i<k→L[i]? =some x→x.2≤u)) (fun i _=>n3 -(intOf i).toNat)
 case atStart=>exact⟨0,Nat.zero_le _,rfl,rfl,Lib.hid fun i x h=>absurd h (by omega)⟩
 case round=>
  obtain⟨k,hk,rfl,rfl,H⟩:=hrel
  by_cases hlt:k<n3
  ·obtain⟨x,y,b,o,hx,rfl,_,a0,a1⟩:=B3.out.2.wd (j:=k) (by rw [HN.out];exact hlt)
   have hiff:=HQ.out.2 k _ hx
   dsimp only at hiff
   by_cases hy:u<y
   ·have d1:a<(y:Int):=hiff.2 hy
    have HV:=Lib.hid (show y=V from HF.out k _ hx H.out hy)
    obtain rfl:=HV.out
    clear hiff hx hy H
    go_wp2
    go_ret
    exact⟨rfl,B3.out.1⟩
   ·have d1:decide (a<(y:Int))=false:=by simp;have:=fun h=>hy (hiff.1 h);omega
    have H2:=Lib.hid (show ∀ (i:Nat) (x:Nat × Nat),i<k+1→L[i]? =some x→x.2≤u from fun i z hi hz=>by
     rcases Nat.eq_or_lt_of_le (show i≤k by omega)with e|e
     ·subst e
      rw [hx]at hz
      injection hz with hz
      subst hz
      show y≤u
      omega
     ·exact H.out i z e hz)
    clear hiff hx hy H
    go_wp2
    go_roundw
    case rel=>exact⟨k+1,by omega,by go_num,trivial,H2⟩
    case measure=>simp [intOf];omega
  ·obtain rfl:k=n3:=by omega
   have HV:=Lib.hid (show N=V from HNo.out fun i x hx=>H.out i x (by have:=(List.getElem?_eq_some_iff.1 hx).1;rw [HN.out]at this;exact this) hx)
   obtain rfl:=HV.out
   clear H
   go_wp2
   go_ret
   exact⟨rfl,B3.out.1⟩
set_option maxHeartbeats 4000000 in
theorem rback_any {T:List RW.Row}{A A2:Option Addr}{l:List Int}{c:Nat}(c2:Nat)(w:World)(h:RT w A c T A2 l)(hc2:l.length≤c2)(a:Int)(E:Nat)(hE:E≤l.length)(hae:∀y:Nat,y<l.length→((y:Int)<a↔y<E))(V:Nat)(hV:WD.back (KT T) (ltT T) l E=V):
  Calls Tryz.prog 38 #[.slice A T.length c,.slice A2 l.length c2,.int .i64 a] w fun e w'=>e= .returned (.int .i64 (V:Nat))∧Below w.heap.size w w':=by
 have CW:=Lib.hid (rwords_any c2 w h hc2)
 have HF:=Lib.hid (fun(i:Nat) (x:Nat × Nat) hx hb hg=>(WD.back_is (K:=KT T) (lt:=ltT T) (l:=l) (e:=E) (i:=i) (x:=x) hE hx hb hg).symm.trans hV)
 have HNo:=Lib.hid (fun hall=>(WD.back_none (K:=KT T) (lt:=ltT T) (l:=l) (e:=E) hE hall).symm.trans hV)
 have HQ:=Lib.hid (show (WD.words (KT T) (ltT T) l).length≤100000∧∀ (i:Nat) (x:Nat × Nat),(WD.words (KT T) (ltT T) l)[i]? =some x→((x.1:Int)<a↔x.1<E)from⟨Nat.le_trans WD.words_len h.ln,fun i x hx=>by
  obtain⟨h1,h2⟩:=WD.words_at hx
  have hm:=List.mem_of_getElem? h1
  exact hae _ (WD.begs_lt hm).1⟩)
 obtain⟨L,hL⟩:∃L,WD.words (KT T) (ltT T) l=L:=⟨_,rfl⟩
 rw [hL]at CW HF HNo HQ
 obtain⟨N,hN⟩:∃N,l.length=N:=⟨_,rfl⟩
 rw [hN]at CW ⊢
 clear h hc2 hE hae hV hL hN
 go_enter Tryz.func38,Tryz.ntmps38
 go_wp2_with fail
 refine CW.out.mono ?_
 rintro e w3 ⟨A3,n3,c3,rfl,ho3,hb3⟩
 have hn3:=own_count encW_len (by decide) ho3
 have hli3:=(LiV.own encW_len (by decide) ho3).parts.2.1
 have B3:=Lib.hid (And.intro hb3 hli3)
 have HN:=Lib.hid (show L.length=n3 from hn3)
 have hq:=HQ.out.1
 rw [hn3]at hq
 clear CW ho3 hb3 hli3 hn3
 go_wp2
 go_loopw [8] (fun i wx=>∃k:Nat,k≤n3∧i= .int .i64 ((k:Int) - 1)∧wx=w3∧Hid (∀ (i:Nat) (x:Nat × Nat),k≤i→L[i]? =some x→E≤x.1)) (fun i _=>(intOf i+1).toNat)
 case atStart=>exact⟨n3,Nat.le_refl _,by go_num,rfl,Lib.hid fun i x h hx=>by have:=(List.getElem?_eq_some_iff.1 hx).1;rw [HN.out]at this;omega⟩
 case round=>
  obtain⟨k,hk,rfl,rfl,H⟩:=hrel
  rcases k with _|k
  ·have HV:=Lib.hid (show 0=V from HNo.out fun i x hx=>H.out i x (Nat.zero_le _) hx)
   obtain rfl:=HV.out
   clear H
   go_wp2
   go_ret
   exact⟨rfl,B3.out.1⟩
  ·obtain⟨x,y,b,o,hx,rfl,_,a0,a1⟩:=B3.out.2.wd (j:=k) (by rw [HN.out];omega)
   have hiff:=HQ.out.2 k _ hx
   dsimp only at hiff
   have e0:((k+1:Nat):Int) - 1=(k:Int):=by omega
   rw [e0]
   have g0:(0:Int)≤(k:Int):=by omega
   have g1:(k:Int)<(n3:Int):=by omega
   by_cases hy:x<E
   ·have d1:(x:Int)<a:=hiff.2 hy
    have HV:=Lib.hid (show x=V from HF.out k _ hx (fun i z hi hz=>H.out i z hi hz) hy)
    obtain rfl:=HV.out
    clear hiff hx hy H
    go_wp2
    go_ret
    exact⟨rfl,B3.out.1⟩
   ·have d1:decide ((x:Int)<a)=false:=by simp;have:=fun h=>hy (hiff.1 h);omega
    have H2:=Lib.hid (show ∀ (i:Nat) (x:Nat × Nat),k≤i→L[i]? =some x→E≤x.1 from fun i z hi hz=>by
     rcases Nat.eq_or_lt_of_le hi with e|e
     ·subst e
      rw [hx]at hz
      injection hz with hz
      subst hz
      show E≤x
      omega
     ·exact H.out i z e hz)
    clear hiff hx hy H
    go_wp2
    go_roundw
    case rel=>exact⟨k,by omega,by go_num,trivial,H2⟩
    case measure=>simp [intOf]
end Go.Proofs.YtlopleeopnnoeaaGreat
