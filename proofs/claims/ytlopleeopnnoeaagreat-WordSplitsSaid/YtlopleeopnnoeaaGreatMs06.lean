import Derived.Test.YtlopleeopnnoeaaGreatMs05
import Derived.Test.YtlopleeopnnoeaaGreatMb22
import Derived.Test.YtlopleeopnnoeaaGreatMs01
import Derived.Test.YtlopleeopnnoeaaGreatMs02
import Derived.Test.YtlopleeopnnoeaaGreatMb02
import Derived.Deep.DeepCutAuto
import Derived.Deep.CutRange
set_option linter.unusedVariables false
set_option linter.unusedSimpArgs false
namespace Go.Proofs.YtlopleeopnnoeaaGreat
open Go.RowKit
theorem range_getD (l:List Int):(List.range l.length).map (fun j=>l.getD j 0)=l:=by
 refine List.ext_getElem? fun i=> ?_
 rw [List.getElem?_map]
 rcases Nat.lt_or_ge i l.length with h|h
 ·rw [List.getElem?_range h]
  simp [List.getD,h]
 ·rw [List.getElem?_eq_none (by simpa using h),List.getElem?_eq_none h]
  rfl
theorem li_txt2 {w:World}{S:Nat→Prop}{A:Option Addr}{n c:Nat}{l:List Int}(h:TxtS w S (.slice A n c) l):n=l.length∧Li 1 encC w (fun _=>True) A l∧l.length≤c∧c≤maxLen:=by
 obtain⟨e,hr,_,h2,h3⟩:=Sl.parts h
 have:=li_of_rd (f:=fun j=>l.getD j 0) hr
 rw [range_getD l]at this
 exact⟨e,this,h2,h3⟩
set_option maxHeartbeats 1000000 in
theorem clone_any (v:Value)(l:List Int)(w:World)(h:Txt w v l)(hl:l.length≤1000000000):Calls Tryz.prog 91 #[v] w (TellsT l w):=by
 obtain⟨A,c,rfl,hr,hnil,hc,hm,_⟩:=h
 rcases A with _|a
 ·obtain⟨h0,rfl⟩:=hnil rfl
  obtain rfl:l=[]:=List.eq_nil_of_length_eq_zero h0
  have hq:=Lib.run_eql_slice_nil (P:= Tryz.prog) w 22 21 none 0 0 0 0 Tryz.underlying22
  go_enter Tryz.func91,Tryz.ntmps91
  go_wp2
  go_ret
  exact⟨_,_,_,rfl,Sl.nil _ _ _,Below.refl _ _⟩
 ·have hq:=Lib.run_eql_slice_nil (P:= Tryz.prog) w 22 21 (some a) l.length c 0 0 Tryz.underlying22
  simp only [Option.isNone]at hq
  have HR:=Lib.hid hr
  have hown:=own_new w #[] 21 0 rfl (Nat.zero_le _)
  have HO:=Lib.hid hown
  clear hr hnil hown
  go_enter Tryz.func91,Tryz.ntmps91
  go_wp2_with (at_builtin;refine wpList_cat slR_elt HO.out (by simp [World.size_alloc]) rfl rfl rfl rfl (HR.out.later ((Below.refl _ _).alloc (Nat.le_refl _) _)) (fun h=>by cases h) (fun j _=>rfl) (by unfold maxLen;omega) (by omega) ?_;intro A3 c3 w3 hp;have HP:=Lib.hid hp;clear hp)
  go_ret
  have hx:=HP.out.own
  rw [liR_map]at hx
  refine⟨_,_,_,rfl,?_,?_⟩
  ·have:=txt_own (l:=l) (n:=0+l.length) (by simp) (by simpa using hx)
   rw [Nat.zero_add]at this
   exact this
  ·exact((Below.refl w.heap.size w).alloc (Nat.le_refl _) _).grown HP.out.grown (by simp [World.size_alloc]) (fun k hk=>(HO.out.lt k hk).1)
namespace WS
def plain (x:Int):Bool:=(x==45||x==95||x==46||x==47)||(decide (97≤x)&&decide (x≤122)||decide (65≤x)&&decide (x≤90)||decide (48≤x)&&decide (x≤57))
def qt (x:Int):List Int:=if x=39 then [39,92,39,39]else [x]
def qts (l:List Int):List Int:=l.flatMap qt
def bare (l:List Int):Bool:= !l.isEmpty&&l.all plain
def quote (l:List Int):List Int:=if bare l=true then l else 39::(qts l++[39])
theorem qts_snoc (l:List Int)(x:Int):qts (l++[x])=qts l++qt x:=by
 unfold qts
 rw [List.flatMap_append]
 simp
theorem take_succ_getD {l:List Int}{k:Nat}(h:k<l.length):l.take (k+1)=l.take k++[l.getD k 0]:=by
 rw [take_snoc' (x:=l.getD k 0) (by simp [List.getD,h])]
theorem qts_take {l:List Int}{k:Nat}(h:k<l.length):qts (l.take (k+1))=qts (l.take k)++qt (l.getD k 0):=by
 rw [take_succ_getD h,qts_snoc]
theorem all_take {l:List Int}{k:Nat}(h:k<l.length):(l.take (k+1)).all plain=((l.take k).all plain&&plain (l.getD k 0)):=by
 rw [take_succ_getD h,List.all_append]
 simp
theorem all_bad {l:List Int}{k:Nat}(h:k<l.length)(hp:plain (l.getD k 0)=false):l.all plain=false:=by
 rw [List.all_eq_false]
 exact⟨l.getD k 0,by rw [show l.getD k 0=l[k]by simp [List.getD,h]];exact List.getElem_mem _,by rw [hp];decide⟩
end WS
set_option maxHeartbeats 4000000 in
theorem plain_any (w:World)(x:Int):Calls Tryz.prog 90 #[.int .i32 x] w fun e w'=>e= .returned (.bool (WS.plain x))∧w=w':=by
 have HP:=Lib.hid (show WS.plain x=((x==45||x==95||x==46||x==47)||(decide (97≤x)&&decide (x≤122)||decide (65≤x)&&decide (x≤90)||decide (48≤x)&&decide (x≤57)))from rfl)
 go_enter Tryz.func90,Tryz.ntmps90
 by_cases h1:x=45
 ·subst h1
  go_wp2
  go_ret
  exact⟨by rw [HP.out];rfl,rfl⟩
 by_cases h2:x=95
 ·subst h2
  go_wp2
  go_ret
  exact⟨by rw [HP.out];rfl,rfl⟩
 by_cases h3:x=46
 ·subst h3
  go_wp2
  go_ret
  exact⟨by rw [HP.out];rfl,rfl⟩
 by_cases h4:x=47
 ·subst h4
  go_wp2
  go_ret
  exact⟨by rw [HP.out];rfl,rfl⟩
 have d1:(x==45)=false:=by simpa using h1
 have d2:(x==95)=false:=by simpa using h2
 have d3:(x==46)=false:=by simpa using h3
 have d4:(x==47)=false:=by simpa using h4
 have HD:=Lib.hid (And.intro d1 (And.intro d2 (And.intro d3 d4)))
 clear h1 h2 h3 h4
 by_cases a1:(97:Int)≤x<;>by_cases a2:x≤122<;>by_cases a3:(65:Int)≤x<;>by_cases a4:x≤90<;>by_cases a5:(48:Int)≤x<;>by_cases a6:x≤57
 all_goals first|omega|skip
 all_goals
  have HE:=(show WS.plain x=(decide (97≤x)&&decide (x≤122)||decide (65≤x)&&decide (x≤90)||decide (48≤x)&&decide (x≤57))by rw [HP.out,HD.out.1,HD.out.2.1,HD.out.2.2.1,HD.out.2.2.2];rfl)
  simp only [a1,a2,a3,a4,a5,a6,decide_true,decide_false,Bool.and_true,Bool.and_false,Bool.or_true,Bool.or_false,Bool.true_and,Bool.false_and,Bool.true_or,Bool.false_or]at HE
  have HV:=Lib.hid HE
  clear HE
  go_wp2
  go_ret
  exact⟨by first|(rw [HV.out];done)|(rw [HV.out];simp [a1,a2,a3,a4,a5,a6])|(rw [HV.out];simp;omega),rfl⟩
set_option maxHeartbeats 4000000 in
theorem notplain_any (w:World)(x:Int):Calls Tryz.prog 89 #[.int .i32 x] w fun e w'=>e= .returned (.bool (!WS.plain x))∧w=w':=by
 have C:=plain_any w x
 obtain⟨q,hq⟩:∃q,WS.plain x=q:=⟨_,rfl⟩
 rw [hq]at C ⊢
 have C:=Lib.hid C
 clear hq
 go_enter Tryz.func89,Tryz.ntmps89
 go_wp2_with fail
 refine C.out.mono ?_
 rintro e w1 ⟨rfl,rfl⟩
 cases q
 all_goals
  go_wp2
  go_ret
  exact⟨rfl,rfl⟩
set_option maxHeartbeats 4000000 in
theorem indexq_any {A:Option Addr}{l:List Int}(c:Nat)(w:World)(hL:Li 1 encC w (fun _=>True) A l)(hn:l.length≤100000):
  Calls Tryz.prog 136 #[.slice A l.length c,.func (.func 89) #[] #[]] w fun e w'=>(∃i:Int,e= .returned (.int .i64 i)∧decide (0≤i)= !l.all WS.plain)∧w=w':=by
 have HL:=Lib.hid hL
 clear hL
 obtain⟨N,hN⟩:∃N,l.length=N:=⟨_,rfl⟩
 rw [hN]at hn ⊢
 have HN:=Lib.hid hN
 have HC:=Lib.hid (fun x=>notplain_any w x)
 clear hN
 go_enter Tryz.func136,Tryz.ntmps136
 go_wp2
 go_loopw [5,8] (fun _ i wr=>∃k:Nat,k≤N∧i= .int .i64 k∧wr=w∧Hid ((l.take k).all WS.plain=true)) (fun _ i _=>N -(intOf i).toNat)
 case atStart=>exact⟨0,Nat.zero_le _,rfl,rfl,Lib.hid (by simp)⟩
 case round=>
  obtain⟨k,hk,rfl,rfl,H⟩:=hrel
  by_cases hlt:k<N
  ·obtain⟨b,o,rfl,hb,_,hcell⟩:=HL.out.scs (by have:=HN.out;omega)
   have h0:=hcell k (by have:=HN.out;omega)
   obtain⟨x,hx⟩:∃x,l.getD k 0=x:=⟨_,rfl⟩
   rw [hx]at h0
   have HX:=Lib.hid hx
   have C:=HC.out x
   obtain⟨q,hq⟩:∃q,WS.plain x=q:=⟨_,rfl⟩
   rw [hq]at C
   have C:=Lib.hid C
   have HQ:=Lib.hid hq
   clear hcell hx hq
   go_wp2_with fail
   refine C.out.mono ?_
   rintro e w1 ⟨rfl,rfl⟩
   clear C
   cases q
   case false=>
    go_wp2
    go_ret
    refine⟨⟨k,rfl,?_⟩,rfl⟩
    rw [WS.all_bad (l:=l) (k:=k) (by rw [HN.out];exact hlt) (by rw [HX.out];exact HQ.out)]
    simp
   case true=>
    have H1:=Lib.hid (show (l.take (k+1)).all WS.plain=true by rw [WS.all_take (by rw [HN.out];exact hlt),H.out,HX.out,HQ.out];rfl)
    go_wp2
    go_roundw
    case rel=>exact⟨k+1,by omega,by go_num,trivial,H1⟩
    case measure=>simp [intOf];omega
  ·obtain rfl:k=N:=by omega
   go_wp2
   go_ret
   refine⟨⟨-1,rfl,?_⟩,rfl⟩
   have h:=H.out
   rw [←HN.out,List.take_length]at h
   rw [h]
   rfl
set_option maxHeartbeats 4000000 in
theorem containsq_any {A:Option Addr}{l:List Int}(c:Nat)(w:World)(hL:Li 1 encC w (fun _=>True) A l)(hn:l.length≤100000)(b:Bool)(hb:(!l.all WS.plain)=b):
  Calls Tryz.prog 88 #[.slice A l.length c,.func (.func 89) #[] #[]] w fun e w'=>e= .returned (.bool b)∧w=w':=by
 have C:=indexq_any c w hL hn
 rw [hb]at C
 have C:=Lib.hid C
 clear hb hL hn
 go_enter Tryz.func88,Tryz.ntmps88
 go_wp2_with fail
 refine C.out.mono ?_
 rintro e w1 ⟨⟨i,rfl,hi⟩,rfl⟩
 subst hi
 clear C
 go_wp2
 go_ret
 first|exact⟨rfl,rfl⟩|exact⟨by simp,rfl⟩
open Go.RowKit
theorem txt_li {w:World}{A:Option Addr}{c:Nat}{l:List Int}(h:Li 1 encC w (fun _=>True) A l)(h0:0<l.length)(hc:l.length≤c)(hm:c≤maxLen):Txt w (.slice A l.length c) l:=by
 refine⟨A,c,rfl,fun j hj=> ?_,fun e=> ?_,hc,hm,fun _ _ _=>trivial⟩
 ·obtain⟨b,o,e,hb,_,hcl⟩:=h.sc hj
  exact⟨b,o,e,hb,hcl⟩
 ·obtain⟨b,o,e2,_⟩:=h.sc (j:=0) h0
  rw [e]at e2;cases e2
theorem liv_txt {w:World}{S:Nat→Prop}{A:Option Addr}{n c:Nat}{l:List Int}(h0:0<l.length)(h:TxtS w S (.slice A n c) l):LiV 1 encC w (fun _=>True) (.slice A n c) l:=by
 obtain⟨e,h1,h2,h3⟩:=li_txt2 h
 subst e
 refine⟨A,c,rfl,h1,fun e=> ?_,h2,h3⟩
 obtain⟨b,o,e2,_⟩:=h1.sc (j:=0) h0
 rw [e]at e2;cases e2
def TellsQ (l:List Int)(w:World)(e:Ending)(w':World):Prop:=∃A n c,e= .returned (.slice A n c)∧LiV 1 encC w' (fun _=>True) (.slice A n c) (WS.quote l)∧Below w.heap.size w w'
theorem rune_new (w:World):Grows w 21 1 encC (some ⟨w.heap.size,0,none⟩) 1 1 [39] (w.alloc (.cells #[.int .i32 39] 21)):=⟨own_new w #[.int .i32 39] 21 1 rfl (by decide),(Below.refl _ _).alloc (Nat.le_refl _) _⟩
theorem tells_quote {l:List Int}{w X:World}{A:Option Addr}{n c:Nat}(hb:WS.bare l=false)(h:Grows w 21 1 encC A n c ([39]++WS.qts l++[39]) X):TellsQ l w (.returned (.slice A n c)) X:=by
 refine⟨A,n,c,rfl,?_,h.below⟩
 have:=(LiV.own encC_len (by decide) h.own).mono (S':=fun _=>True) fun _ _=>trivial
 unfold WS.quote
 rw [hb,if_neg (by decide)]
 simpa using this
set_option maxHeartbeats 8000000 in
set_option maxRecDepth 100000 in
theorem quote_any {A:Option Addr}{c:Nat}{l:List Int}(w:World)(hL:Li 1 encC w (fun _=>True) A l)(hn:l.length≤1000)(hc:l.length≤c)(hm:c≤maxLen):
  Calls Tryz.prog 42 #[.slice A l.length c] w (TellsQ l w):=by
 have CC:=Lib.hid (fun b hb=>containsq_any c w hL (by omega) b hb)
 have CL:=Lib.hid (fun(h0:0<l.length)=>clone_any _ l w (txt_li hL h0 hc hm) (by omega))
 have HL:=Lib.hid hL
 have HQ:=Lib.hid (fun(k:Nat) (h:k<l.length)=>WS.qts_take h)
 have HT:=Lib.hid (fun(X:World) A n c (hb:WS.bare l=false) h=>tells_quote (l:=l) (w:=w) (X:=X) (A:=A) (n:=n) (c:=c) hb h)
 obtain⟨N,hN⟩:∃N,l.length=N:=⟨_,rfl⟩
 have HN:=Lib.hid hN
 rw [hN]at CC CL HQ hn ⊢
 clear hL hc hm hN
 obtain⟨q,hq⟩:∃q,l.all WS.plain=q:=⟨_,rfl⟩
 have CC:=Lib.hid (CC.out (!q) (by rw [hq]))
 have HQQ:=Lib.hid hq
 clear hq
 go_enter Tryz.func42,Tryz.ntmps42
 by_cases hbr:0<N∧q=true
 ·obtain⟨h0,rfl⟩:=hbr
  have d0:(0:Int)<(N:Int):=by omega
  have CL:=Lib.hid (CL.out h0)
  have HB:=Lib.hid (show WS.quote l=l by unfold WS.quote WS.bare;rw [HQQ.out,if_pos];cases hl:l with|nil=>rw [←HN.out,hl]at h0;exact absurd h0 (by decide)|cons x t=>rfl)
  have hl0:=Lib.hid (show 0<l.length by rw [HN.out];exact h0)
  clear HT HQ h0
  go_wp2_with fail
  refine CC.out.mono ?_
  rintro e w1 ⟨rfl,rfl⟩
  clear CC
  go_wp2_with fail
  refine CL.out.mono ?_
  rintro e w2 ⟨A2,n2,c2,rfl,ht,hb⟩
  have H2:=Lib.hid (And.intro (liv_txt hl0.out ht) hb)
  clear ht hb
  go_wp2
  go_ret
  exact⟨A2,n2,c2,rfl,by rw [HB.out];exact H2.out.1,H2.out.2⟩
 ·have HB:=Lib.hid (show WS.bare l=false by
   unfold WS.bare
   rw [HQQ.out]
   cases q
   ·rw [Bool.and_false]
   ·have h0:N=0:=by
     rcases Nat.eq_zero_or_pos N with e|e
     ·exact e
     ·exact absurd ⟨e,rfl⟩ hbr
    rw [List.eq_nil_of_length_eq_zero (HN.out.trans h0)]
    rfl)
  have H0:=Lib.hid (rune_new w)
  clear CL
  go_upto_region 1 with fail
  go_cut [13] (fun v wx=>v= .bool false∧w=wx)
  case first=>
   by_cases h0:0<N
   ·obtain rfl:q=false:=by
     cases q
     ·rfl
     ·exact absurd ⟨h0,rfl⟩ hbr
    have d0:(0:Int)<(N:Int):=by omega
    go_wp2_with fail
    refine CC.out.mono ?_
    rintro e w1 ⟨rfl,rfl⟩
    go_wp2
    go_meet
    exact⟨rfl,rfl⟩
   ·have d0:decide ((0:Int)<(N:Int))=false:=by simp;omega
    go_wp2
    go_meet
    exact⟨rfl,rfl⟩
  case rest=>
  obtain⟨rfl,hwc⟩:=hcut
  subst hwc
  clear CC hbr
  go_wp2
  go_loopw [3,5,19] (fun ov _ iv wr=>∃ (k n1 c1:Nat) (A1:Option Addr),iv= .int .i64 k∧ov= .slice A1 n1 c1∧k≤N∧n1≤1+4*k∧Hid (Grows w 21 1 encC A1 n1 c1 ([39]++WS.qts (l.take k)) wr)) (fun _ _ iv _=>N -(intOf iv).toNat)
  case atStart=>exact⟨0,1,1,_,rfl,rfl,Nat.zero_le _,by omega,Lib.hid (by simpa [WS.qts]using H0.out)⟩
  case round=>
   obtain⟨k,n1,c1,A1,rfl,rfl,hk,hn1,H⟩:=hrel
   have hbz:=H.out.below.size
   by_cases hlt:k<N
   ·obtain⟨b,o,rfl,hb,_,hcell⟩:=(HL.out.later H.out.below).scs (by rw [HN.out];omega)
    have kx:=hcell k (by rw [HN.out];exact hlt)
    obtain⟨x,hx⟩:∃x,l.getD k 0=x:=⟨_,rfl⟩
    have h1:=HQ.out k hlt
    rw [hx]at kx h1
    clear hcell hx H0
    by_cases h39:x=39
    ·subst h39
     have H1:=Lib.hid (show [39]++WS.qts (l.take (k+1))=([39]++WS.qts (l.take k))++[39,92,39,39]by rw [h1,←List.append_assoc];rfl)
     clear h1
     go_wp2_with (at_builtin;refine wpList_pushM slR_elt H.out.own hbz rfl rfl rfl rfl rfl (by simp) (by simp [Value.oneCell']) (by unfold maxLen;omega) (by omega) ?_;intro A3 c3 w3 hp;have HP:=Lib.hid (H.out.pushM (M:=[39,92,39,39]) (Below.refl _ _) rfl hp);clear hp)
     go_roundw
     case rel=>exact⟨k+1,n1+4,c3,A3,by go_num,rfl,by omega,by omega,Lib.hid (by rw [H1.out];exact HP.out)⟩
     case measure=>simp [intOf];omega
    ·have e1:(x==39)=false:=by simpa using h39
     have H1:=Lib.hid (show [39]++WS.qts (l.take (k+1))=([39]++WS.qts (l.take k))++[x]by rw [h1,←List.append_assoc];unfold WS.qt;rw [if_neg h39])
     clear h1 h39
     go_wp2_with (at_builtin;refine wpList_push slR_elt H.out.own hbz rfl rfl rfl rfl (by simp) rfl rfl (by unfold maxLen;omega) (by omega) ?_;intro A3 c3 w3 hp;have HP:=Lib.hid (H.out.push (x:=x) (Below.refl _ _) hp);clear hp)
     go_roundw
     case rel=>exact⟨k+1,n1+1,c3,A3,by go_num,rfl,by omega,by omega,Lib.hid (by rw [H1.out];exact HP.out)⟩
     case measure=>simp [intOf];omega
   ·obtain rfl:k=N:=by omega
    have d0:decide ((k:Int)<(k:Int))=false:=by simp
    clear H0
    go_wp2_with (at_builtin;refine wpList_push slR_elt H.out.own hbz rfl rfl rfl rfl (by simp) rfl rfl (by unfold maxLen;omega) (by omega) ?_;intro A3 c3 w3 hp;have HP:=Lib.hid (H.out.push (x:=39) (Below.refl _ _) hp);clear hp)
    go_ret
    refine HT.out _ _ _ _ HB.out ?_
    have h:=HP.out
    rw [show l.take k=l by rw [←HN.out];exact List.take_length]at h
    exact h
end Go.Proofs.YtlopleeopnnoeaaGreat
