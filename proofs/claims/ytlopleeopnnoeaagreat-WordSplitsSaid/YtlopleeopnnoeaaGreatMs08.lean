import Derived.Test.YtlopleeopnnoeaaGreatMs04
set_option linter.unusedVariables false
set_option linter.unusedSimpArgs false
namespace Go.Proofs.YtlopleeopnnoeaaGreat
open Go.RowKit
set_option maxHeartbeats 8000000 in
set_option maxRecDepth 100000 in
theorem token_any {w:World}{A:Option Addr}{c:Nat}{l:List Int}(hL:Li 1 encC w (fun _=>True) A l)(hn:l.length≤100000)(a:Nat)(ha:a<l.length):
  Calls Tryz.prog 86 #[.slice A l.length c,.int .i64 (a:Nat)] w (TellsK l a w):=by
 have HQ:=Lib.hid (fun(X:World) (hX:Below w.heap.size w X) (k:Nat) (hk:k<l.length) hs=>quoted_any (c:=c) (hL.later hX) hn k hk hs)
 obtain⟨b,o,rfl,hb,_,hcell⟩:=hL.scs (by omega)
 have HC:=Lib.hid (fun(X:World) (hX:Below w.heap.size w X) (j:Nat) (hj:j<l.length)=>(hX.cell (p:=⟨b,o+j,none⟩) hb).trans (hcell j hj))
 have HBl:=Lib.hid (fun X x=>blank_any X x)
 obtain⟨N,hN⟩:∃N,l.length=N:=⟨_,rfl⟩
 have HN:=Lib.hid hN
 rw [hN]at ha hn HC HQ ⊢
 clear hL hcell hN
 go_enter Tryz.func86,Tryz.ntmps86
 go_wp2
 refine at_world (TkR w a none 0 0 [] 0) (TkR.start w a _ _) ?_
 rintro X0 hR0
 have H0:=Lib.hid (show TkR w a none 0 0 [] 0 X0∧WS.one l 0 a=WS.pre [] (WS.one l 0 a)from⟨hR0,(WS.pre_nil _).symm⟩)
 clear hR0
 go_loopw [1,7,8,9] (fun av _ _ _ wr=>∃ (k n1 c1:Nat) (A1:Option Addr) (T:List Int),av= .int .i64 k∧a≤k∧k≤N∧n1≤k - a∧Hid (TkR w a A1 n1 c1 T 0 wr∧WS.one l 0 a=WS.pre T (WS.one l 0 k))) (fun av _ _ _ _=>N -(intOf av).toNat)
 case atStart=>exact⟨a,0,0,none,[],rfl,Nat.le_refl _,by omega,by omega,H0⟩
 case round=>
  obtain⟨k,n1,c1,A1,T,rfl,hk1,hk2,hn1,H⟩:=hrel
  obtain⟨y1,k1,j1⟩:=(show _ from H.out.1.var)
  obtain⟨y0,k0,j0⟩:=(show _ from H.out.1.res)
  by_cases hlt:k<N
  ·have kx:=HC.out wr H.out.1.below k hlt
   obtain⟨x,hx⟩:∃x,l.getD k 0=x:=⟨_,rfl⟩
   rw [hx]at kx
   have C:=Lib.hid (HBl.out wr x)
   have HX:=Lib.hid hx
   obtain⟨q,hq⟩:∃q,WS.blank x=q:=⟨_,rfl⟩
   rw [hq]at C
   have HQq:=Lib.hid hq
   clear hq hx H0
   go_wp2_with fail
   refine C.out.mono ?_
   rintro e w3 ⟨rfl,rfl⟩
   clear C
   cases q
   case true=>
    have H1:=Lib.hid (show WS.one l 0 a=some (T,k)by rw [H.out.2,WS.one_blank (by rw [HN.out];exact hlt) (by rw [HX.out];exact HQq.out),WS.pre_some,List.append_nil])
    go_wp2
    refine at_world (TkF w (a:Int) (k:Int) A1 n1 c1 T) ((H.out.1.to k).fin) ?_
    rintro X F
    have x0:X.cell? ⟨w.heap.size,0,none⟩=some (.int .i64 a):=F.res.2.1 0
    have x1:X.cell? ⟨w.heap.size,1,none⟩=some (.int .i64 k):=F.res.2.1 1
    have x2:X.cell? ⟨w.heap.size,2,none⟩=some (.slice A1 n1 c1):=F.res.2.1 2
    refine bodyPost_ret (v:= .tuple #[.agg #[.int .i64 a,.int .i64 k,.slice A1 n1 c1],.bool true]) (by simp [results,Tryz.results86,go_sem,x0,x1,x2]) rfl ⟨F.below,.inl ⟨T,k,A1,n1,c1,rfl,F.own,H1.out⟩⟩
   case false=>
    by_cases h92:x=92
    ·have e1:(x==92)=true:=by simpa using h92
     have H92:=Lib.hid h92
     clear h92
     by_cases hm:k+1=N
     ·have g1:(((k+1:Nat):Int)==(N:Int))=true:=by simp;omega
      have g2:((k:Int)+1==(N:Int))=true:=by simp;omega
      have H1:=Lib.hid (show WS.one l 0 a=none by rw [H.out.2,WS.one_cut (by rw [HN.out];exact hlt) (by rw [HX.out];exact H92.out) (by rw [HN.out];omega)];rfl)
      have HR9:=Lib.hid H.out.1
      go_wp2
      refine at_world (TkF w 0 0 none 0 0 []) (HR9.out.fin0) ?_
      rintro X F
      have x0:X.cell? ⟨w.heap.size,0,none⟩=some (.int .i64 0):=F.res.2.1 0
      have x1:X.cell? ⟨w.heap.size,1,none⟩=some (.int .i64 0):=F.res.2.1 1
      have x2:X.cell? ⟨w.heap.size,2,none⟩=some (.slice none 0 0):=F.res.2.1 2
      refine bodyPost_ret (v:= .tuple #[.agg #[.int .i64 0,.int .i64 0,.slice none 0 0],.bool false]) (by simp [results,Tryz.results86,go_sem,x0,x1,x2]) rfl ⟨F.below,.inr ⟨0,0,none,0,0,rfl,H1.out⟩⟩
     ·have g1:(((k+1:Nat):Int)==(N:Int))=false:=by simp;omega
      have g2:((k:Int)+1==(N:Int))=false:=by simp;omega
      have hlt2:k+1<N:=by omega
      have i0:(0:Int)≤(k:Int)+1:=by omega
      have i1:(k:Int)+1<(N:Int):=by omega
      have i2:((k:Int)+1).toNat=k+1:=by omega
      have iw:IntKind.i64.wrap ((k:Int)+1)=(k:Int)+1:=IntWalk.i64_in _ (by omega)
      have ik:(k:Int)<(N:Int):=by omega
      obtain⟨y,hy⟩:∃y,l.getD (k+1) 0=y:=⟨_,rfl⟩
      have ky:=HC.out wr H.out.1.below (k+1) hlt2
      rw [hy]at ky
      have H1:=Lib.hid (show WS.one l 0 k=WS.pre [y] (WS.one l 0 (k+2))by rw [←hy];exact WS.one_esc0 (by rw [HX.out];exact H92.out) (by rw [HN.out];exact hlt2))
      clear hy hm
      go_wp2
      go_region_law ((refine step_push slR_elt H.out.1.own (by have:=H.out.1.var.1;omega) (by rfl) (by rfl) (by rfl) (by rfl) (by simp) (by rfl) (by rfl) (by unfold maxLen;omega) (by omega) ?_;intro A3 c3 w3 hp;have hB3:=H.out.1.var.grown hp.grown (H.out.1.far _ (by omega));have u1:w3.cell? ⟨w.heap.size+1,2,none⟩=some (.slice A1 n1 c1):=hB3.2.1 2;have f1:w3.frozen? ⟨w.heap.size+1,2,none⟩=false:=hB3.2.2 2;have HP:=Lib.hid hp;clear hp hB3))
      all_goals
       have RN:=Lib.hid (H.out.1.next (M:=[y]) (by simp [flatL,encC]) HP.out)
       clear HP
       go_wp2
       go_roundw
       case rel=>exact⟨k+2,n1+1,_,_,T++[y],by go_num,by omega,by omega,by omega,by first|exact RN.out|exact RN.out.drew,by rw [H.out.2,H1.out,WS.pre_pre]⟩
       case measure=>simp [intOf];omega
    ·have e1:(x==92)=false:=by simpa using h92
     by_cases hs:x=34∨x=39
     ·have hsd:(x==39)=false∧(x==34)=true∨(x==39)=true:=by
       rcases hs with h|h
       ·left;subst h;exact⟨rfl,rfl⟩
       ·right;simp [h]
      have C2:=Lib.hid (HQ.out wr H.out.1.below k hlt (by rw [HX.out];exact hs))
      have HO:=Lib.hid (show WS.one l 0 k=WS.one l (l.getD k 0) (k+1)from WS.one_open (by rw [HN.out];exact hlt) (by rw [HX.out];exact hs))
      clear h92
      rcases hsd with⟨e2,e3⟩|e2
      all_goals
       go_wp2_with fail
       refine C2.out.mono ?_
       rintro e w4 ⟨hb4,(⟨T2,E2,A2,n2,c2,rfl,ho2,hone,hE1,hE2,hn2⟩|⟨rfl,hnone⟩)⟩
       ·have R4:=Lib.hid (H.out.1.later hb4)
        have L4:=Lib.hid (LiV.own encC_len (by decide) ho2)
        have H1:=Lib.hid (show WS.one l 0 a=WS.pre (T++T2) (WS.one l 0 E2)by rw [H.out.2,HO.out,hone,WS.pre_pre])
        obtain⟨y4,k4,j4⟩:=(show _ from R4.out.var)
        clear C2 hb4 ho2 hone y1 k1 j1 y0 k0 j0
        go_wp2_with (at_builtin;refine wpList_li encC_len encC_oneW slR_elt R4.out.own (by have:=R4.out.var.1;omega) rfl rfl rfl rfl L4.out (by unfold maxLen;omega) (by omega) ?_;intro A3 c3 w5 hp;have hB3:=R4.out.var.grown hp.grown (R4.out.far _ (by omega));have u1:w5.cell? ⟨w.heap.size+1,2,none⟩=some (.slice A1 n1 c1):=hB3.2.1 2;have f1:w5.frozen? ⟨w.heap.size+1,2,none⟩=false:=hB3.2.2 2;have RN:=Lib.hid (R4.out.next rfl hp);clear hp hB3)
        go_roundw
        case rel=>exact⟨E2,n1+n2,_,_,T++T2,rfl,by omega,by omega,by omega,RN.out,H1.out⟩
        case measure=>simp [intOf];omega
       ·have HR9:=Lib.hid (H.out.1.later hb4)
        have H1:=Lib.hid (show WS.one l 0 a=none by rw [H.out.2,HO.out,hnone];rfl)
        obtain⟨y4,k4,j4⟩:=(show _ from HR9.out.res)
        clear C2 hb4 hnone y1 k1 j1 y0 k0 j0
        go_wp2
        refine at_world (TkF w 0 0 none 0 0 []) (HR9.out.fin0) ?_
        rintro X F
        have x0:X.cell? ⟨w.heap.size,0,none⟩=some (.int .i64 0):=F.res.2.1 0
        have x1:X.cell? ⟨w.heap.size,1,none⟩=some (.int .i64 0):=F.res.2.1 1
        have x2:X.cell? ⟨w.heap.size,2,none⟩=some (.slice none 0 0):=F.res.2.1 2
        refine bodyPost_ret (v:= .tuple #[.agg #[.int .i64 0,.int .i64 0,.slice none 0 0],.bool false]) (by simp [results,Tryz.results86,go_sem,x0,x1,x2]) rfl ⟨F.below,.inr ⟨0,0,none,0,0,rfl,H1.out⟩⟩
     ·have e2:(x==34)=false:=by simp;omega
      have e3:(x==39)=false:=by simp;omega
      have H1:=Lib.hid (show WS.one l 0 k=WS.pre [x] (WS.one l 0 (k+1))by
       have h2:=HX.out
       rw [←h2]
       exact WS.one_plain (by rw [HN.out];exact hlt) (fun _=>⟨by rw [h2];exact HQq.out,by rw [h2];exact h92,by rw [h2];omega,by rw [h2];omega⟩) (.inr rfl) (fun h=>by cases h))
      have i0:(0:Int)≤(k:Int):=by omega
      have i1:(k:Int)<(N:Int):=by omega
      clear h92 hs
      go_wp2
      go_region_law ((refine step_push slR_elt H.out.1.own (by have:=H.out.1.var.1;omega) (by rfl) (by rfl) (by rfl) (by rfl) (by simp) (by rfl) (by rfl) (by unfold maxLen;omega) (by omega) ?_;intro A3 c3 w3 hp;have hB3:=H.out.1.var.grown hp.grown (H.out.1.far _ (by omega));have u1:w3.cell? ⟨w.heap.size+1,2,none⟩=some (.slice A1 n1 c1):=hB3.2.1 2;have f1:w3.frozen? ⟨w.heap.size+1,2,none⟩=false:=hB3.2.2 2;have HP:=Lib.hid hp;clear hp hB3))
      all_goals
       have RN:=Lib.hid (H.out.1.next (M:=[x]) (by simp [flatL,encC]) HP.out)
       clear HP
       go_wp2
       go_roundw
       case rel=>exact⟨k+1,n1+1,_,_,T++[x],by go_num,by omega,by omega,by omega,by first|exact RN.out|exact RN.out.drew,by rw [H.out.2,H1.out,WS.pre_pre]⟩
       case measure=>simp [intOf];omega
  ·obtain rfl:k=N:=by omega
   have H1:=Lib.hid (show WS.one l 0 a=some (T,k)by rw [H.out.2,WS.one_end (by rw [HN.out];exact Nat.le_refl _),if_pos rfl,WS.pre_some,HN.out,List.append_nil])
   have dk:decide ((k:Int)<(k:Int))=false:=by simp
   clear H0
   go_wp2
   refine at_world (TkF w (a:Int) (k:Int) A1 n1 c1 T) ((H.out.1.to k).fin) ?_
   rintro X F
   have x0:X.cell? ⟨w.heap.size,0,none⟩=some (.int .i64 a):=F.res.2.1 0
   have x1:X.cell? ⟨w.heap.size,1,none⟩=some (.int .i64 k):=F.res.2.1 1
   have x2:X.cell? ⟨w.heap.size,2,none⟩=some (.slice A1 n1 c1):=F.res.2.1 2
   refine bodyPost_ret (v:= .tuple #[.agg #[.int .i64 a,.int .i64 k,.slice A1 n1 c1],.bool true]) (by simp [results,Tryz.results86,go_sem,x0,x1,x2]) rfl ⟨F.below,.inl ⟨T,k,A1,n1,c1,rfl,F.own,H1.out⟩⟩
end Go.Proofs.YtlopleeopnnoeaaGreat
