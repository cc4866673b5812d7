import Derived.Test.YtlopleeopnnoeaaGreatMs09
import Derived.Deep.DeepCutAuto
import Derived.Deep.CutRange
set_option linter.unusedVariables false
set_option linter.unusedSimpArgs false
namespace Go.Proofs.YtlopleeopnnoeaaGreat
open Go.RowKit
theorem txt_li {w:World}{A:Option Addr}{c:Nat}{l:List Int}(h:Li 1 encC w (fun _=>True) A l)(h0:0<l.length)(hc:l.length≤c)(hm:c≤maxLen):Txt w (.slice A l.length c) l:=by
 refine⟨A,c,rfl,fun j hj=> ?_,fun e=> ?_,hc,hm,fun _ _ _=>trivial⟩
 ·obtain⟨b,o,e,hb,_,hcl⟩:=h.sc hj
  exact⟨b,o,e,hb,hcl⟩
 ·obtain⟨b,o,e2,_⟩:=h.sc (j:=0) h0
  rw [e]at e2;cases e2
theorem liv_txt {w:World}{S:Nat→Prop}{A:Option Addr}{n c:Nat}{l:List Int}(h0:0<l.length)(h:TxtS w S (.slice A n c) l):LiV 1 encC w (fun _=>True) (.slice A n c) l:=by
 obtain⟨e,h1,h2,h3⟩:=li_txt2 h
 subst e
 refine⟨A,c,rfl,h1,fun e=> ?_,h2,h3⟩
 obtain⟨b,o,e2,_⟩:=h1.sc (j:=0) h0
 rw [e]at e2;cases e2
def TellsQ (l:List Int)(w:World)(e:Ending)(w':World):Prop:=∃A n c,e= .returned (.slice A n c)∧LiV 1 encC w' (fun _=>True) (.slice A n c) (WS.quote l)∧Below w.heap.size w w'
theorem rune_new (w:World):Grows w 21 1 encC (some ⟨w.heap.size,0,none⟩) 1 1 [39] (w.alloc (.cells #[.int .i32 39] 21)):=⟨own_new w #[.int .i32 39] 21 1 rfl (by decide),(Below.refl _ _).alloc (Nat.le_refl _) _⟩
theorem tells_quote {l:List Int}{w X:World}{A:Option Addr}{n c:Nat}(hb:WS.bare l=false)(h:Grows w 21 1 encC A n c ([39]++WS.qts l++[39]) X):TellsQ l w (.returned (.slice A n c)) X:=by
 refine⟨A,n,c,rfl,?_,h.below⟩
 have:=(LiV.own encC_len (by decide) h.own).mono (S':=fun _=>True) fun _ _=>trivial
 unfold WS.quote
 rw [hb,if_neg (by decide)]
 simpa using this
set_option maxHeartbeats 8000000 in
set_option maxRecDepth 100000 in
theorem quote_any {A:Option Addr}{c:Nat}{l:List Int}(w:World)(hL:Li 1 encC w (fun _=>True) A l)(hn:l.length≤1000)(hc:l.length≤c)(hm:c≤maxLen):
  Calls Tryz.prog 42 #[.slice A l.length c] w (TellsQ l w):=by
 have CC:=Lib.hid (fun b hb=>containsq_any c w hL (by omega) b hb)
 have CL:=Lib.hid (fun(h0:0<l.length)=>clone_any _ l w (txt_li hL h0 hc hm) (by omega))
 have HL:=Lib.hid hL
 have HQ:=Lib.hid (fun(k:Nat) (h:k<l.length)=>WS.qts_take h)
 have HT:=Lib.hid (fun(X:World) A n c (hb:WS.bare l=false) h=>tells_quote (l:=l) (w:=w) (X:=X) (A:=A) (n:=n) (c:=c) hb h)
 obtain⟨N,hN⟩:∃N,l.length=N:=⟨_,rfl⟩
 have HN:=Lib.hid hN
 rw [hN]at CC CL HQ hn ⊢
 clear hL hc hm hN
 obtain⟨q,hq⟩:∃q,l.all WS.plain=q:=⟨_,rfl⟩
 have CC:=Lib.hid (CC.out (!q) (by rw [hq]))
 have HQQ:=Lib.hid hq
 clear hq
 go_enter Tryz.func42,Tryz.ntmps42
 by_cases hbr:0<N∧q=true
 ·obtain⟨h0,rfl⟩:=hbr
  have d0:(0:Int)<(N:Int):=by omega
  have CL:=Lib.hid (CL.out h0)
  have HB:=Lib.hid (show WS.quote l=l by unfold WS.quote WS.bare;rw [HQQ.out,if_pos];cases hl:l with|nil=>rw [←HN.out,hl]at h0;exact absurd h0 (by decide)|cons x t=>rfl)
  have hl0:=Lib.hid (show 0<l.length by rw [HN.out];exact h0)
  clear HT HQ h0
  go_wp2_with fail
  refine CC.out.mono ?_
  rintro e w1 ⟨rfl,rfl⟩
  clear CC
  go_wp2_with fail
  refine CL.out.mono ?_
  rintro e w2 ⟨A2,n2,c2,rfl,ht,hb⟩
  have H2:=Lib.hid (And.intro (liv_txt hl0.out ht) hb)
  clear ht hb
  go_wp2
  go_ret
  exact⟨A2,n2,c2,rfl,by rw [HB.out];exact H2.out.1,H2.out.2⟩
 ·have HB:=Lib.hid (show WS.bare l=false by
   unfold WS.bare
   rw [HQQ.out]
   cases q
   ·rw [Bool.and_false]
   ·have h0:N=0:=by
     rcases Nat.eq_zero_or_pos N with e|e
     ·exact e
     ·exact absurd ⟨e,rfl⟩ hbr
    rw [List.eq_nil_of_length_eq_zero (HN.out.trans h0)]
    rfl)
  have H0:=Lib.hid (rune_new w)
  clear CL
  go_upto_region 1 with fail
  go_cut [13] (fun v wx=>v= .bool false∧w=wx)
  case first=>
   by_cases h0:0<N
   ·obtain rfl:q=false:=by
     cases q
     ·rfl
     ·exact absurd ⟨h0,rfl⟩ hbr
    have d0:(0:Int)<(N:Int):=by omega
    go_wp2_with fail
    refine CC.out.mono ?_
    rintro e w1 ⟨rfl,rfl⟩
    go_wp2
    go_meet
    exact⟨rfl,rfl⟩
   ·have d0:decide ((0:Int)<(N:Int))=false:=by simp;omega
    go_wp2
    go_meet
    exact⟨rfl,rfl⟩
  case rest=>
  obtain⟨rfl,hwc⟩:=hcut
  subst hwc
  clear CC hbr
  go_wp2
  go_loopw [3,5,19] (fun ov _ iv wr=>∃ (k n1 c1:Nat) (A1:Option Addr),iv= .int .i64 k∧ov= .slice A1 n1 c1∧k≤N∧n1≤1+4*k∧Hid (Grows w 21 1 encC A1 n1 c1 ([39]++WS.qts (l.take k)) wr)) (fun _ _ iv _=>N -(intOf iv).toNat)
  case atStart=>exact⟨0,1,1,_,rfl,rfl,Nat.zero_le _,by omega,Lib.hid (by simpa [WS.qts]using H0.out)⟩
  case round=>
   obtain⟨k,n1,c1,A1,rfl,rfl,hk,hn1,H⟩:=hrel
   have hbz:=H.out.below.size
   by_cases hlt:k<N
   ·obtain⟨b,o,rfl,hb,_,hcell⟩:=(HL.out.later H.out.below).scs (by rw [HN.out];omega)
    have kx:=hcell k (by rw [HN.out];exact hlt)
    obtain⟨x,hx⟩:∃x,l.getD k 0=x:=⟨_,rfl⟩
    have h1:=HQ.out k hlt
    rw [hx]at kx h1
    clear hcell hx H0
    by_cases h39:x=39
    ·subst h39
     have H1:=Lib.hid (show [39]++WS.qts (l.take (k+1))=([39]++WS.qts (l.take k))++[39,92,39,39]by rw [h1,←List.append_assoc];rfl)
     clear h1
     go_wp2_with (at_builtin;refine wpList_pushM slR_elt H.out.own hbz rfl rfl rfl rfl rfl (by simp) (by simp [Value.oneCell']) (by unfold maxLen;omega) (by omega) ?_;intro A3 c3 w3 hp;have HP:=Lib.hid (H.out.pushM (M:=[39,92,39,39]) (Below.refl _ _) rfl hp);clear hp)
     go_roundw
     case rel=>exact⟨k+1,n1+4,c3,A3,by go_num,rfl,by omega,by omega,Lib.hid (by rw [H1.out];exact HP.out)⟩
     case measure=>simp [intOf];omega
    ·have e1:(x==39)=false:=by simpa using h39
     have H1:=Lib.hid (show [39]++WS.qts (l.take (k+1))=([39]++WS.qts (l.take k))++[x]by rw [h1,←List.append_assoc];unfold WS.qt;rw [if_neg h39])
     clear h1 h39
     go_wp2_with (at_builtin;refine wpList_push slR_elt H.out.own hbz rfl rfl rfl rfl (by simp) rfl rfl (by unfold maxLen;omega) (by omega) ?_;intro A3 c3 w3 hp;have HP:=Lib.hid (H.out.push (x:=x) (Below.refl _ _) hp);clear hp)
     go_roundw
     case rel=>exact⟨k+1,n1+1,c3,A3,by go_num,rfl,by omega,by omega,Lib.hid (by rw [H1.out];exact HP.out)⟩
     case measure=>simp [intOf];omega
   ·obtain rfl:k=N:=by omega
    have d0:decide ((k:Int)<(k:Int))=false:=by simp
    clear H0
    go_wp2_with (at_builtin;refine wpList_push slR_elt H.out.own hbz rfl rfl rfl rfl (by simp) rfl rfl (by unfold maxLen;omega) (by omega) ?_;intro A3 c3 w3 hp;have HP:=Lib.hid (H.out.push (x:=39) (Below.refl _ _) hp);clear hp)
    go_ret
    refine HT.out _ _ _ _ HB.out ?_
    have h:=HP.out
    rw [show l.take k=l by rw [←HN.out];exact List.take_length]at h
    exact h
theorem liv_li {w:World}{A:Option Addr}{c:Nat}{l:List Int}(h:Li 1 encC w (fun _=>True) A l)(h0:0<l.length)(hc:l.length≤c)(hm:c≤maxLen):LiV 1 encC w (fun _=>True) (.slice A l.length c) l:=by
 refine⟨A,c,rfl,h,fun e=> ?_,hc,hm⟩
 obtain⟨b,o,e2,_⟩:=h.sc (j:=0) h0
 rw [e]at e2;cases e2
theorem plain_iff (x:Int):WS.plain x=true↔((97≤x∧x≤122)∨(65≤x∧x≤90)∨(45≤x∧x≤57)∨x=95):=by
 unfold WS.plain
 simp only [Bool.or_eq_true,Bool.and_eq_true,decide_eq_true_eq,beq_iff_eq]
 omega
set_option maxHeartbeats 8000000 in
set_option maxRecDepth 100000 in
theorem rquote_any {A:Option Addr}{l:List Int}(c:Nat)(w:World)(hL:Li 1 encC w (fun _=>True) A l)(hn:l.length≤1000)(hc:l.length≤c)(hm:c≤maxLen):
  Calls Tryz.prog 43 #[.slice A l.length c] w (TellsQ l w):=by
 have HL:=Lib.hid hL
 have HV:=Lib.hid (fun(X:World) (hX:Below w.heap.size w X) (h0:0<l.length)=>liv_li (hL.later hX) h0 hc hm)
 have HQ:=Lib.hid (fun(k:Nat) (h:k<l.length)=>And.intro (WS.qts_take h) (WS.all_take h))
 have HT:=Lib.hid (fun(X:World) A n c (hb:WS.bare l=false) h=>tells_quote (l:=l) (w:=w) (X:=X) (A:=A) (n:=n) (c:=c) hb h)
 have HBr:=Lib.hid (show WS.bare l=(decide (0<l.length)&&l.all WS.plain)by unfold WS.bare;cases l<;>simp)
 obtain⟨N,hN⟩:∃N,l.length=N:=⟨_,rfl⟩
 have HN:=Lib.hid hN
 rw [hN]at HV HQ HBr hn ⊢
 have HG:=Lib.hid (Grows.start (enc:=encC) w 21 1)
 clear hL hc hm hN
 go_enter Tryz.func43,Tryz.ntmps43
 obtain⟨b0,hb0⟩:∃b0,decide (0<N)=b0:=⟨_,rfl⟩
 have d0:decide ((0:Int)<(N:Int))=b0:=by rw [←hb0];exact decide_eq_decide.2 (by omega)
 rw [hb0]at HBr
 have HB0:=Lib.hid hb0
 clear hb0
 go_wp2_with (at_builtin;refine wpList_push slR_elt HG.out.own (Nat.le_refl _) rfl rfl rfl rfl (by simp) rfl rfl (by unfold maxLen;omega) (by omega) ?_;intro A3 c3 w3 hp;have HP:=Lib.hid (HG.out.push (x:=39) (Below.refl _ _) hp);clear hp)
 go_loopw [3,4,5,6] (fun bv ov iv _ wr=>∃ (k n1 c1:Nat) (A1:Option Addr) (p:Bool),iv= .int .i64 k∧ov= .slice A1 n1 c1∧bv= .bool (b0&&p)∧k≤N∧n1≤1+4*k∧Hid (Grows w 21 1 encC A1 n1 c1 ([39]++WS.qts (l.take k)) wr∧(l.take k).all WS.plain=p)) (fun _ _ iv _ _=>N -(intOf iv).toNat)
 case atStart=>exact⟨0,1,c3,A3,true,rfl,rfl,by rw [Bool.and_true,←HB0.out],Nat.zero_le _,by omega,Lib.hid ⟨by simpa [WS.qts]using HP.out,by simp⟩⟩
 case round=>
  obtain⟨k,n1,c1,A1,p,rfl,rfl,rfl,hk,hn1,H⟩:=hrel
  have hbz:=H.out.1.below.size
  clear HP
  by_cases hlt:k<N
  ·obtain⟨b,o,rfl,hb,_,hcell⟩:=(HL.out.later H.out.1.below).scs (by rw [HN.out];omega)
   have kx:=hcell k (by rw [HN.out];exact hlt)
   obtain⟨x,hx⟩:∃x,l.getD k 0=x:=⟨_,rfl⟩
   have h1:=(HQ.out k hlt).1
   have h2:=(HQ.out k hlt).2
   rw [hx]at kx h1 h2
   rw [H.out.2]at h2
   have HP2:=Lib.hid h2
   have HP:=Lib.hid (show WS.plain x=((x==45||x==95||x==46||x==47)||(decide (97≤x)&&decide (x≤122)||decide (65≤x)&&decide (x≤90)||decide (48≤x)&&decide (x≤57)))from rfl)
   clear hcell hx h2 d0
   go_upto_region 8 with fail
   go_cut [49] (fun v wx=>v= .bool (!WS.plain x)∧wr=wx)
   case first=>
    by_cases a0:x=95
    ·subst a0
     clear h1 HP2
     go_wp2
     go_meet
     exact⟨by rw [show WS.plain 95=true from rfl];rfl,rfl⟩
    have d95:(x==95)=false:=by simpa using a0
    by_cases a1:(97:Int)≤x<;>by_cases a2:x≤122<;>by_cases a3:(65:Int)≤x<;>by_cases a4:x≤90<;>by_cases a5:(45:Int)≤x<;>by_cases a6:x≤57
    all_goals first|omega|skip
    all_goals
     have HV:Hid (∃q,WS.plain x=q∧(q=true↔((97≤x∧x≤122)∨(65≤x∧x≤90)∨(45≤x∧x≤57)∨x=95))):=Lib.hid ⟨_,rfl,plain_iff x⟩
     clear h1 HP2
     go_wp2
     go_meet
     refine⟨?_,rfl⟩
     obtain⟨q,hq1,hq2⟩:=HV.out
     rw [hq1]
     cases q
     ·first|rfl|(exfalso;have:=hq2.2 (by omega);cases this)
     ·first|rfl|(exfalso;have:=hq2.1 rfl;omega)
   case rest=>
   obtain⟨rfl,hwc⟩:=hcut
   subst hwc
   obtain⟨q,hq⟩:∃q,WS.plain x=q:=⟨_,rfl⟩
   rw [hq]at HP2
   have HQQ:=Lib.hid hq
   rw [hq]
   clear hq HP
   by_cases h39:x=39
   ·subst h39
    obtain rfl:q=false:=by rw [←HQQ.out];decide
    have H1:=Lib.hid (show [39]++WS.qts (l.take (k+1))=(([39]++WS.qts (l.take k))++[39,92])++[39]++[39]by rw [h1];simp [WS.qt])
    clear h1
    go_wp2_with (first
     |(at_builtin;refine wpList_push slR_elt HP4.out.own HP4.out.below.size rfl rfl rfl rfl (by simp) rfl rfl (by unfold maxLen;omega) (by omega) ?_;intro A5 c5 w5 hp;have HP5:=Lib.hid (HP4.out.push (x:=39) (Below.refl _ _) hp);clear hp)
     |(at_builtin;refine wpList_push slR_elt HP.out.own HP.out.below.size rfl rfl rfl rfl (by simp) rfl rfl (by unfold maxLen;omega) (by omega) ?_;intro A4 c4 w4 hp;have HP4:=Lib.hid (HP.out.push (x:=39) (Below.refl _ _) hp);clear hp)
     |(at_builtin;refine wpList_pushM slR_elt H.out.1.own hbz rfl rfl rfl rfl rfl (by simp) (by simp [Value.oneCell']) (by unfold maxLen;omega) (by omega) ?_;intro A3 c3 w3 hp;have HP:=Lib.hid (H.out.1.pushM (M:=[39,92]) (Below.refl _ _) rfl hp);clear hp))
    go_roundw
    case rel=>exact⟨k+1,n1+2+1+1,c5,A5,p&&false,by go_num,rfl,by simp,by omega,by omega,Lib.hid ⟨by rw [H1.out];exact HP5.out,HP2.out⟩⟩
    case measure=>simp [intOf];omega
   ·have e1:(x==39)=false:=by simpa using h39
    have H1:=Lib.hid (show [39]++WS.qts (l.take (k+1))=([39]++WS.qts (l.take k))++[x]by rw [h1,←List.append_assoc];unfold WS.qt;rw [if_neg h39])
    clear h1 h39
    cases q
    all_goals
     go_wp2_with (at_builtin;refine wpList_push slR_elt H.out.1.own hbz rfl rfl rfl rfl (by simp) rfl rfl (by unfold maxLen;omega) (by omega) ?_;intro A3 c3 w3 hp;have HP:=Lib.hid (H.out.1.push (x:=x) (Below.refl _ _) hp);clear hp)
     go_roundw
     case rel=>exact⟨k+1,n1+1,c3,A3,_,by go_num,rfl,by first|rfl|simp,by omega,by omega,Lib.hid ⟨by rw [H1.out];exact HP.out,HP2.out⟩⟩
     case measure=>simp [intOf];omega
  ·obtain rfl:k=N:=by omega
   have dk:decide ((k:Int)<(k:Int))=false:=by simp
   have hp:=H.out.2
   rw [show l.take k=l by rw [←HN.out];exact List.take_length]at hp
   have HB:=Lib.hid (show WS.bare l=(b0&&p)by rw [HBr.out,hp])
   have H2:=Lib.hid (show Grows w 21 1 encC A1 n1 c1 ([39]++WS.qts l) wr by
    have h:=H.out.1
    rwa [show l.take k=l by rw [←HN.out];exact List.take_length]at h)
   clear hp d0
   obtain⟨q,hq⟩:∃q,(b0&&p)=q:=⟨_,rfl⟩
   rw [hq]at HB
   have HQ0:=Lib.hid (show q=true→0<k from fun h=>by
    rw [h]at hq
    have:=HB0.out
    rw [(Bool.and_eq_true _ _▸hq:b0=true∧p=true).1]at this
    simpa using this)
   rw [hq]
   clear hq
   cases q
   case true=>
    have HVV:=Lib.hid (show LiV 1 encC wr (fun _=>True) (.slice A k c) (WS.quote l)by
     unfold WS.quote
     rw [HB.out,if_pos rfl]
     have h:=HV.out wr H2.out.below (HQ0.out rfl)
     exact h)
    go_wp2
    go_ret
    exact⟨A,k,c,rfl,HVV.out,H2.out.below⟩
   case false=>
    go_wp2_with (at_builtin;refine wpList_push slR_elt H2.out.own hbz rfl rfl rfl rfl (by simp) rfl rfl (by unfold maxLen;omega) (by omega) ?_;intro A3 c3 w3 hp;have HP:=Lib.hid (H2.out.push (x:=39) (Below.refl _ _) hp);clear hp)
    go_ret
    exact HT.out _ _ _ _ HB.out HP.out
end Go.Proofs.YtlopleeopnnoeaaGreat
