import Derived.Test.YtlopleeopnnoeaaGreatMs04
set_option linter.unusedVariables false
set_option linter.unusedSimpArgs false
namespace Go.Proofs.YtlopleeopnnoeaaGreat
open Go.RowKit
set_option maxHeartbeats 8000000 in
set_option maxRecDepth 100000 in
theorem one_any {w:World}{A:Option Addr}{l:List Int}(c:Nat)(hL:Li 1 encC w (fun _=>True) A l)(hn:l.length≤100000)(a:Nat)(ha:a<l.length):
  Calls Tryz.prog 87 #[.slice A l.length c,.int .i64 (a:Nat)] w (TellsK l a w):=by
 obtain⟨b,o,rfl,hb,_,hcell⟩:=hL.scs (by omega)
 have HC:=Lib.hid (fun(X:World) (hX:Below w.heap.size w X) (j:Nat) (hj:j<l.length)=>(hX.cell (p:=⟨b,o+j,none⟩) hb).trans (hcell j hj))
 obtain⟨N,hN⟩:∃N,l.length=N:=⟨_,rfl⟩
 have HN:=Lib.hid hN
 rw [hN]at ha hn HC ⊢
 clear hL hcell hN
 go_enter Tryz.func87,Tryz.ntmps87
 go_wp2
 refine at_world (TkR w a none 0 0 [] 0) (TkR.start w a _ _) ?_
 rintro X0 hR0
 have H0:=Lib.hid (show TkR w a none 0 0 [] 0 X0∧WS.one l 0 a=WS.pre [] (WS.one l 0 a)from⟨hR0,(WS.pre_nil _).symm⟩)
 clear hR0
 go_loopw [7,8,9,10] (fun qv iv _ _ wr=>∃ (k n1 c1:Nat) (A1:Option Addr) (T:List Int) (q:Int),qv= .int .i32 q∧iv= .int .i64 k∧(q=0∨q=34∨q=39)∧a≤k∧k≤N∧n1≤k - a∧Hid (TkR w a A1 n1 c1 T 0 wr∧WS.one l 0 a=WS.pre T (WS.one l q k))) (fun _ iv _ _ _=>N -(intOf iv).toNat)
 case atStart=>exact⟨a,0,0,none,[],0,rfl,by go_num,.inl rfl,Nat.le_refl _,by omega,by omega,H0⟩
 case round=>
  obtain⟨k,n1,c1,A1,T,q,rfl,rfl,hq,hk1,hk2,hn1,H⟩:=hrel
  obtain⟨y1,k1,j1⟩:=(show _ from H.out.1.var)
  obtain⟨y0,k0,j0⟩:=(show _ from H.out.1.res)
  by_cases hlt:k<N
  ·have kx:=HC.out wr H.out.1.below k hlt
   obtain⟨x,hx⟩:∃x,l.getD k 0=x:=⟨_,rfl⟩
   rw [hx]at kx
   have HX:=Lib.hid hx
   have hlt':k<l.length:=by rw [HN.out];exact hlt
   have HLT:=Lib.hid hlt'
   have ky:k+1<N→wr.cell? ⟨b,o+(k+1),none⟩=some (.int .i32 (l.getD (k+1) 0)):=fun h=>HC.out wr H.out.1.below (k+1) h
   obtain⟨y,hy⟩:∃y,l.getD (k+1) 0=y:=⟨_,rfl⟩
   rw [hy]at ky
   have HY:=Lib.hid hy
   clear hy hx H0 hlt'
   rcases hq with rfl|rfl|rfl
   ·by_cases h32:x=32
    ·have ex_32:(x==32)=true:=by simpa using h32
     have H1:=Lib.hid (show WS.one l 0 a=some (T,k)by rw [H.out.2,WS.one_blank HLT.out (by rw [HX.out,h32];rfl),WS.pre_some,List.append_nil])
     clear h32 HY ky
     go_wp2
     refine at_world (TkF w (a:Int) (k:Int) A1 n1 c1 T) ((H.out.1.to k).fin) ?_
     rintro X F
     have x0:X.cell? ⟨w.heap.size,0,none⟩=some (.int .i64 a):=F.res.2.1 0
     have x1:X.cell? ⟨w.heap.size,1,none⟩=some (.int .i64 k):=F.res.2.1 1
     have x2:X.cell? ⟨w.heap.size,2,none⟩=some (.slice A1 n1 c1):=F.res.2.1 2
     refine bodyPost_ret (v:= .tuple #[.agg #[.int .i64 a,.int .i64 k,.slice A1 n1 c1],.bool true]) (by simp [results,Tryz.results87,go_sem,x0,x1,x2]) rfl ⟨F.below,.inl ⟨T,k,A1,n1,c1,rfl,F.own,H1.out⟩⟩
    ·by_cases h9:x=9
     ·have ex_32:(x==32)=false:=by simp;omega
      have ex_9:(x==9)=true:=by simpa using h9
      have H1:=Lib.hid (show WS.one l 0 a=some (T,k)by rw [H.out.2,WS.one_blank HLT.out (by rw [HX.out,h9];rfl),WS.pre_some,List.append_nil])
      clear h32 h9 HY ky
      go_wp2
      refine at_world (TkF w (a:Int) (k:Int) A1 n1 c1 T) ((H.out.1.to k).fin) ?_
      rintro X F
      have x0:X.cell? ⟨w.heap.size,0,none⟩=some (.int .i64 a):=F.res.2.1 0
      have x1:X.cell? ⟨w.heap.size,1,none⟩=some (.int .i64 k):=F.res.2.1 1
      have x2:X.cell? ⟨w.heap.size,2,none⟩=some (.slice A1 n1 c1):=F.res.2.1 2
      refine bodyPost_ret (v:= .tuple #[.agg #[.int .i64 a,.int .i64 k,.slice A1 n1 c1],.bool true]) (by simp [results,Tryz.results87,go_sem,x0,x1,x2]) rfl ⟨F.below,.inl ⟨T,k,A1,n1,c1,rfl,F.own,H1.out⟩⟩
     ·by_cases h92:x=92
      ·have ex_32:(x==32)=false:=by simp;omega
       have ex_9:(x==9)=false:=by simp;omega
       have ex_92:(x==92)=true:=by simpa using h92
       by_cases hm:k+1<N
       ·have H92:=Lib.hid h92
        have k2:=ky hm
        have dm:((k+1:Nat):Int)<(N:Int):=by omega
        have H1:=Lib.hid (show WS.one l 0 k=WS.pre [y] (WS.one l 0 (k+2))by rw [←HY.out];exact WS.one_esc0 (by rw [HX.out];exact H92.out) (by rw [HN.out];exact hm))
        clear h32 h9 h92 ky
        have i0:(0:Int)≤(k:Int)+1:=by omega
        have i1:(k:Int)+1<(N:Int):=by omega
        have i2:((k:Int)+1).toNat=k+1:=by omega
        have iw:IntKind.i64.wrap ((k:Int)+1)=(k:Int)+1:=IntWalk.i64_in _ (by omega)
        clear HY
        go_wp2
        go_region_law ((refine step_push slR_elt H.out.1.own (by have:=H.out.1.var.1;omega) (by rfl) (by rfl) (by rfl) (by rfl) (by simp) (by rfl) (by rfl) (by unfold maxLen;omega) (by omega) ?_;intro A3 c3 w3 hp;have hB3:=H.out.1.var.grown hp.grown (H.out.1.far _ (by omega));have u1:w3.cell? ⟨w.heap.size+1,2,none⟩=some (.slice A1 n1 c1):=hB3.2.1 2;have f1:w3.frozen? ⟨w.heap.size+1,2,none⟩=false:=hB3.2.2 2;have HP:=Lib.hid hp;clear hp hB3))
        all_goals
         have RN:=Lib.hid (H.out.1.next (M:=[y]) (by simp [flatL,encC]) HP.out)
         clear HP
         go_wp2
         go_roundw
         case rel=>exact⟨k+2,n1+1,_,_,T++[y],0,rfl,by go_num,by omega,by omega,by omega,by omega,by first|exact RN.out|exact RN.out.drew,by rw [H.out.2,H1.out,WS.pre_pre]⟩
         case measure=>simp [intOf];omega
       ·have dm:decide (((k+1:Nat):Int)<(N:Int))=false:=by simp;omega
        have dm2:decide ((k:Int)+1<(N:Int))=false:=by simp;omega
        have dm3:¬((k:Int)+1<(N:Int)):=by omega
        have dm4:(N:Int)≤(k:Int)+1:=by omega
        have H1:=Lib.hid (show WS.one l 0 a=none by rw [H.out.2,WS.one_cut HLT.out (by rw [HX.out];exact h92) (by rw [HN.out];omega)];rfl)
        clear h32 h9 h92 ky HY
        go_wp2
        refine at_world (TkF w (a:Int) ((0:Nat):Int) A1 n1 c1 T) (H.out.1.fin) ?_
        rintro X F
        have x0:X.cell? ⟨w.heap.size,0,none⟩=some (.int .i64 a):=F.res.2.1 0
        have x1:X.cell? ⟨w.heap.size,1,none⟩=some (.int .i64 0):=F.res.2.1 1
        have x2:X.cell? ⟨w.heap.size,2,none⟩=some (.slice A1 n1 c1):=F.res.2.1 2
        refine bodyPost_ret (v:= .tuple #[.agg #[.int .i64 a,.int .i64 0,.slice A1 n1 c1],.bool false]) (by simp [results,Tryz.results87,go_sem,x0,x1,x2]) rfl ⟨F.below,.inr ⟨_,_,_,_,_,rfl,H1.out⟩⟩
      ·by_cases h34:x=34
       ·have ex_32:(x==32)=false:=by simp;omega
        have ex_9:(x==9)=false:=by simp;omega
        have ex_92:(x==92)=false:=by simp;omega
        have ex_34:(x==34)=true:=by simpa using h34
        have H1:=Lib.hid (show WS.one l 0 k=WS.one l 34 (k+1)by
         have h3:=WS.one_open HLT.out (by rw [HX.out];omega)
         rw [HX.out,h34]at h3
         exact h3)
        have HQ9:=Lib.hid h34
        clear h32 h9 h92 h34
        by_cases hm:k+1<N
        ·have dm:((k+1:Nat):Int)<(N:Int):=by omega
         clear HY ky
         go_wp2
         go_roundw
         case rel=>exact⟨k+1,n1,_,_,T,34,by rw [HQ9.out],by go_num,by omega,by omega,by omega,by omega,H.out.1,by rw [H.out.2,H1.out]⟩
         case measure=>simp [intOf];omega
        ·have dm:decide (((k+1:Nat):Int)<(N:Int))=false:=by simp;omega
         clear HY ky
         go_wp2
         go_roundw
         case rel=>exact⟨k+1,n1,_,_,T,34,by rw [HQ9.out],by go_num,by omega,by omega,by omega,by omega,H.out.1,by rw [H.out.2,H1.out]⟩
         case measure=>simp [intOf];omega
       ·by_cases h39:x=39
        ·have ex_32:(x==32)=false:=by simp;omega
         have ex_9:(x==9)=false:=by simp;omega
         have ex_92:(x==92)=false:=by simp;omega
         have ex_34:(x==34)=false:=by simp;omega
         have ex_39:(x==39)=true:=by simpa using h39
         have H1:=Lib.hid (show WS.one l 0 k=WS.one l 39 (k+1)by
          have h3:=WS.one_open HLT.out (by rw [HX.out];omega)
          rw [HX.out,h39]at h3
          exact h3)
         have HQ9:=Lib.hid h39
         clear h32 h9 h92 h39 h34
         by_cases hm:k+1<N
         ·have dm:((k+1:Nat):Int)<(N:Int):=by omega
          clear HY ky
          go_wp2
          go_roundw
          case rel=>exact⟨k+1,n1,_,_,T,39,by rw [HQ9.out],by go_num,by omega,by omega,by omega,by omega,H.out.1,by rw [H.out.2,H1.out]⟩
          case measure=>simp [intOf];omega
         ·have dm:decide (((k+1:Nat):Int)<(N:Int))=false:=by simp;omega
          clear HY ky
          go_wp2
          go_roundw
          case rel=>exact⟨k+1,n1,_,_,T,39,by rw [HQ9.out],by go_num,by omega,by omega,by omega,by omega,H.out.1,by rw [H.out.2,H1.out]⟩
          case measure=>simp [intOf];omega
        ·have ex_32:(x==32)=false:=by simp;omega
         have ex_9:(x==9)=false:=by simp;omega
         have ex_92:(x==92)=false:=by simp;omega
         have ex_34:(x==34)=false:=by simp;omega
         have ex_39:(x==39)=false:=by simp;omega
         have H1:=Lib.hid (show WS.one l 0 k=WS.pre [x] (WS.one l 0 (k+1))by
          have h2:=HX.out
          rw [←h2]
          exact WS.one_plain HLT.out (fun _=>⟨by rw [h2];unfold WS.blank;rw [ex_32,ex_9];rfl,by rw [h2];exact h92,by rw [h2];exact h34,by rw [h2];exact h39⟩) (.inr rfl) (fun h=>by cases h))
         clear h32 h9 h92 h34 h39
         by_cases hm:k+1<N
         ·have dm:((k+1:Nat):Int)<(N:Int):=by omega
          clear HY ky
          go_wp2_with (at_builtin;refine wpList_push slR_elt H.out.1.own (by have:=H.out.1.var.1;omega) rfl rfl rfl rfl (by simp) rfl rfl (by unfold maxLen;omega) (by omega) ?_;intro A3 c3 w5 hp;have hB3:=H.out.1.var.grown hp.grown (H.out.1.far _ (by omega));have u1:w5.cell? ⟨w.heap.size+1,2,none⟩=some (.slice A1 n1 c1):=hB3.2.1 2;have f1:w5.frozen? ⟨w.heap.size+1,2,none⟩=false:=hB3.2.2 2;have RN:=Lib.hid (H.out.1.next (M:=[x]) (by simp [flatL,encC]) hp);clear hp hB3)
          go_roundw
          case rel=>exact⟨k+1,n1+1,_,_,T++[x],0,rfl,by go_num,by omega,by omega,by omega,by omega,RN.out,by rw [H.out.2,H1.out,WS.pre_pre]⟩
          case measure=>simp [intOf];omega
         ·have dm:decide (((k+1:Nat):Int)<(N:Int))=false:=by simp;omega
          clear HY ky
          go_wp2_with (at_builtin;refine wpList_push slR_elt H.out.1.own (by have:=H.out.1.var.1;omega) rfl rfl rfl rfl (by simp) rfl rfl (by unfold maxLen;omega) (by omega) ?_;intro A3 c3 w5 hp;have hB3:=H.out.1.var.grown hp.grown (H.out.1.far _ (by omega));have u1:w5.cell? ⟨w.heap.size+1,2,none⟩=some (.slice A1 n1 c1):=hB3.2.1 2;have f1:w5.frozen? ⟨w.heap.size+1,2,none⟩=false:=hB3.2.2 2;have RN:=Lib.hid (H.out.1.next (M:=[x]) (by simp [flatL,encC]) hp);clear hp hB3)
          go_roundw
          case rel=>exact⟨k+1,n1+1,_,_,T++[x],0,rfl,by go_num,by omega,by omega,by omega,by omega,RN.out,by rw [H.out.2,H1.out,WS.pre_pre]⟩
          case measure=>simp [intOf];omega
   ·by_cases hxq:x=34
    ·have ex_34:(x==34)=true:=by simpa using hxq
     have ex_92:(x==92)=false:=by simp;omega
     have H1:=Lib.hid (show WS.one l 34 k=WS.one l 0 (k+1)from WS.one_close HLT.out (by omega) (by rw [HX.out];exact hxq))
     clear hxq
     by_cases hm:k+1<N
     ·have dm:((k+1:Nat):Int)<(N:Int):=by omega
      clear HY ky
      go_wp2
      go_roundw
      case rel=>exact⟨k+1,n1,_,_,T,0,rfl,by go_num,by omega,by omega,by omega,by omega,H.out.1,by rw [H.out.2,H1.out]⟩
      case measure=>simp [intOf];omega
     ·have dm:decide (((k+1:Nat):Int)<(N:Int))=false:=by simp;omega
      clear HY ky
      go_wp2
      go_roundw
      case rel=>exact⟨k+1,n1,_,_,T,0,rfl,by go_num,by omega,by omega,by omega,by omega,H.out.1,by rw [H.out.2,H1.out]⟩
      case measure=>simp [intOf];omega
    ·by_cases h92:x=92
     ·have ex_34:(x==34)=false:=by simp;omega
      have ex_92:(x==92)=true:=by simpa using h92
      by_cases hm:k+1<N
      ·have k2:=ky hm
       have dm:((k+1:Nat):Int)<(N:Int):=by omega
       by_cases hy34:y=34
       ·have ey_34:(y==34)=true:=by simpa using hy34
        have H1:=Lib.hid (show WS.one l 34 k=WS.pre [y] (WS.one l 34 (k+2))by rw [←HY.out];exact WS.one_esc (by rw [HX.out];exact h92) (by rw [HN.out];exact hm) (by rw [HY.out];exact .inl hy34))
        clear hxq h92 hy34 ky
        have i0:(0:Int)≤(k:Int)+1:=by omega
        have i1:(k:Int)+1<(N:Int):=by omega
        have i2:((k:Int)+1).toNat=k+1:=by omega
        have iw:IntKind.i64.wrap ((k:Int)+1)=(k:Int)+1:=IntWalk.i64_in _ (by omega)
        clear HY
        go_wp2
        go_region_law ((refine step_push slR_elt H.out.1.own (by have:=H.out.1.var.1;omega) (by rfl) (by rfl) (by rfl) (by rfl) (by simp) (by rfl) (by rfl) (by unfold maxLen;omega) (by omega) ?_;intro A3 c3 w3 hp;have hB3:=H.out.1.var.grown hp.grown (H.out.1.far _ (by omega));have u1:w3.cell? ⟨w.heap.size+1,2,none⟩=some (.slice A1 n1 c1):=hB3.2.1 2;have f1:w3.frozen? ⟨w.heap.size+1,2,none⟩=false:=hB3.2.2 2;have HP:=Lib.hid hp;clear hp hB3))
        all_goals
         have RN:=Lib.hid (H.out.1.next (M:=[y]) (by simp [flatL,encC]) HP.out)
         clear HP
         go_wp2
         go_roundw
         case rel=>exact⟨k+2,n1+1,_,_,T++[y],34,rfl,by go_num,by omega,by omega,by omega,by omega,by first|exact RN.out|exact RN.out.drew,by rw [H.out.2,H1.out,WS.pre_pre]⟩
         case measure=>simp [intOf];omega
       ·have ey_34:(y==34)=false:=by simpa using hy34
        by_cases hy92:y=92
        ·have ey_92:(y==92)=true:=by simpa using hy92
         have H1:=Lib.hid (show WS.one l 34 k=WS.pre [y] (WS.one l 34 (k+2))by rw [←HY.out];exact WS.one_esc (by rw [HX.out];exact h92) (by rw [HN.out];exact hm) (by rw [HY.out];exact .inr hy92))
         clear hxq h92 hy34 hy92 ky
         have i0:(0:Int)≤(k:Int)+1:=by omega
         have i1:(k:Int)+1<(N:Int):=by omega
         have i2:((k:Int)+1).toNat=k+1:=by omega
         have iw:IntKind.i64.wrap ((k:Int)+1)=(k:Int)+1:=IntWalk.i64_in _ (by omega)
         clear HY
         go_wp2
         go_region_law ((refine step_push slR_elt H.out.1.own (by have:=H.out.1.var.1;omega) (by rfl) (by rfl) (by rfl) (by rfl) (by simp) (by rfl) (by rfl) (by unfold maxLen;omega) (by omega) ?_;intro A3 c3 w3 hp;have hB3:=H.out.1.var.grown hp.grown (H.out.1.far _ (by omega));have u1:w3.cell? ⟨w.heap.size+1,2,none⟩=some (.slice A1 n1 c1):=hB3.2.1 2;have f1:w3.frozen? ⟨w.heap.size+1,2,none⟩=false:=hB3.2.2 2;have HP:=Lib.hid hp;clear hp hB3))
         all_goals
          have RN:=Lib.hid (H.out.1.next (M:=[y]) (by simp [flatL,encC]) HP.out)
          clear HP
          go_wp2
          go_roundw
          case rel=>exact⟨k+2,n1+1,_,_,T++[y],34,rfl,by go_num,by omega,by omega,by omega,by omega,by first|exact RN.out|exact RN.out.drew,by rw [H.out.2,H1.out,WS.pre_pre]⟩
          case measure=>simp [intOf];omega
        ·have ey_92:(y==92)=false:=by simpa using hy92
         have H1:=Lib.hid (show WS.one l 34 k=WS.pre [x] (WS.one l 34 (k+1))by
          have h2:=HX.out
          have h3:=HY.out
          have h4:=HN.out
          rw [←h2]
          exact WS.one_plain HLT.out (fun h=>by cases h) (.inl (by rw [h2];exact hxq)) (fun h5 h6 h7=>by rw [h2]at h6;rw [h3];omega))
         clear hxq hy34 hy92 h92
         clear HY ky
         go_wp2_with (at_builtin;refine wpList_push slR_elt H.out.1.own (by have:=H.out.1.var.1;omega) rfl rfl rfl rfl (by simp) rfl rfl (by unfold maxLen;omega) (by omega) ?_;intro A3 c3 w5 hp;have hB3:=H.out.1.var.grown hp.grown (H.out.1.far _ (by omega));have u1:w5.cell? ⟨w.heap.size+1,2,none⟩=some (.slice A1 n1 c1):=hB3.2.1 2;have f1:w5.frozen? ⟨w.heap.size+1,2,none⟩=false:=hB3.2.2 2;have RN:=Lib.hid (H.out.1.next (M:=[x]) (by simp [flatL,encC]) hp);clear hp hB3)
         go_roundw
         case rel=>exact⟨k+1,n1+1,_,_,T++[x],34,rfl,by go_num,by omega,by omega,by omega,by omega,RN.out,by rw [H.out.2,H1.out,WS.pre_pre]⟩
         case measure=>simp [intOf];omega
      ·have dm:decide (((k+1:Nat):Int)<(N:Int))=false:=by simp;omega
       have H1:=Lib.hid (show WS.one l 34 k=WS.pre [x] (WS.one l 34 (k+1))by
        have h2:=HX.out
        have h3:=HY.out
        have h4:=HN.out
        rw [←h2]
        exact WS.one_plain HLT.out (fun h=>by cases h) (.inl (by rw [h2];exact hxq)) (fun h5 h6 h7=>by rw [h2]at h6;rw [h3];omega))
       clear hxq h92
       clear HY ky
       go_wp2_with (at_builtin;refine wpList_push slR_elt H.out.1.own (by have:=H.out.1.var.1;omega) rfl rfl rfl rfl (by simp) rfl rfl (by unfold maxLen;omega) (by omega) ?_;intro A3 c3 w5 hp;have hB3:=H.out.1.var.grown hp.grown (H.out.1.far _ (by omega));have u1:w5.cell? ⟨w.heap.size+1,2,none⟩=some (.slice A1 n1 c1):=hB3.2.1 2;have f1:w5.frozen? ⟨w.heap.size+1,2,none⟩=false:=hB3.2.2 2;have RN:=Lib.hid (H.out.1.next (M:=[x]) (by simp [flatL,encC]) hp);clear hp hB3)
       go_roundw
       case rel=>exact⟨k+1,n1+1,_,_,T++[x],34,rfl,by go_num,by omega,by omega,by omega,by omega,RN.out,by rw [H.out.2,H1.out,WS.pre_pre]⟩
       case measure=>simp [intOf];omega
     ·have ex_34:(x==34)=false:=by simp;omega
      have ex_92:(x==92)=false:=by simp;omega
      have H1:=Lib.hid (show WS.one l 34 k=WS.pre [x] (WS.one l 34 (k+1))by
       have h2:=HX.out
       have h3:=HY.out
       have h4:=HN.out
       rw [←h2]
       exact WS.one_plain HLT.out (fun h=>by cases h) (.inl (by rw [h2];exact hxq)) (fun h5 h6 h7=>by rw [h2]at h6;rw [h3];omega))
      clear hxq h92
      by_cases hm:k+1<N
      ·have dm:((k+1:Nat):Int)<(N:Int):=by omega
       clear HY ky
       go_wp2_with (at_builtin;refine wpList_push slR_elt H.out.1.own (by have:=H.out.1.var.1;omega) rfl rfl rfl rfl (by simp) rfl rfl (by unfold maxLen;omega) (by omega) ?_;intro A3 c3 w5 hp;have hB3:=H.out.1.var.grown hp.grown (H.out.1.far _ (by omega));have u1:w5.cell? ⟨w.heap.size+1,2,none⟩=some (.slice A1 n1 c1):=hB3.2.1 2;have f1:w5.frozen? ⟨w.heap.size+1,2,none⟩=false:=hB3.2.2 2;have RN:=Lib.hid (H.out.1.next (M:=[x]) (by simp [flatL,encC]) hp);clear hp hB3)
       go_roundw
       case rel=>exact⟨k+1,n1+1,_,_,T++[x],34,rfl,by go_num,by omega,by omega,by omega,by omega,RN.out,by rw [H.out.2,H1.out,WS.pre_pre]⟩
       case measure=>simp [intOf];omega
      ·have dm:decide (((k+1:Nat):Int)<(N:Int))=false:=by simp;omega
       clear HY ky
       go_wp2_with (at_builtin;refine wpList_push slR_elt H.out.1.own (by have:=H.out.1.var.1;omega) rfl rfl rfl rfl (by simp) rfl rfl (by unfold maxLen;omega) (by omega) ?_;intro A3 c3 w5 hp;have hB3:=H.out.1.var.grown hp.grown (H.out.1.far _ (by omega));have u1:w5.cell? ⟨w.heap.size+1,2,none⟩=some (.slice A1 n1 c1):=hB3.2.1 2;have f1:w5.frozen? ⟨w.heap.size+1,2,none⟩=false:=hB3.2.2 2;have RN:=Lib.hid (H.out.1.next (M:=[x]) (by simp [flatL,encC]) hp);clear hp hB3)
       go_roundw
       case rel=>exact⟨k+1,n1+1,_,_,T++[x],34,rfl,by go_num,by omega,by omega,by omega,by omega,RN.out,by rw [H.out.2,H1.out,WS.pre_pre]⟩
       case measure=>simp [intOf];omega
   ·by_cases hxq:x=39
    ·have ex_39:(x==39)=true:=by simpa using hxq
     have H1:=Lib.hid (show WS.one l 39 k=WS.one l 0 (k+1)from WS.one_close HLT.out (by omega) (by rw [HX.out];exact hxq))
     clear hxq
     by_cases hm:k+1<N
     ·have dm:((k+1:Nat):Int)<(N:Int):=by omega
      clear HY ky
      go_wp2
      go_roundw
      case rel=>exact⟨k+1,n1,_,_,T,0,rfl,by go_num,by omega,by omega,by omega,by omega,H.out.1,by rw [H.out.2,H1.out]⟩
      case measure=>simp [intOf];omega
     ·have dm:decide (((k+1:Nat):Int)<(N:Int))=false:=by simp;omega
      clear HY ky
      go_wp2
      go_roundw
      case rel=>exact⟨k+1,n1,_,_,T,0,rfl,by go_num,by omega,by omega,by omega,by omega,H.out.1,by rw [H.out.2,H1.out]⟩
      case measure=>simp [intOf];omega
    ·have ex_39:(x==39)=false:=by simp;omega
     have H1:=Lib.hid (show WS.one l 39 k=WS.pre [x] (WS.one l 39 (k+1))by
      have h2:=HX.out
      have h3:=HY.out
      have h4:=HN.out
      rw [←h2]
      exact WS.one_plain HLT.out (fun h=>by cases h) (.inl (by rw [h2];exact hxq)) (fun h5 h6 h7=>by rw [h2]at h6;rw [h3];omega))
     clear hxq
     by_cases hm:k+1<N
     ·have dm:((k+1:Nat):Int)<(N:Int):=by omega
      clear HY ky
      go_wp2_with (at_builtin;refine wpList_push slR_elt H.out.1.own (by have:=H.out.1.var.1;omega) rfl rfl rfl rfl (by simp) rfl rfl (by unfold maxLen;omega) (by omega) ?_;intro A3 c3 w5 hp;have hB3:=H.out.1.var.grown hp.grown (H.out.1.far _ (by omega));have u1:w5.cell? ⟨w.heap.size+1,2,none⟩=some (.slice A1 n1 c1):=hB3.2.1 2;have f1:w5.frozen? ⟨w.heap.size+1,2,none⟩=false:=hB3.2.2 2;have RN:=Lib.hid (H.out.1.next (M:=[x]) (by simp [flatL,encC]) hp);clear hp hB3)
      go_roundw
      case rel=>exact⟨k+1,n1+1,_,_,T++[x],39,rfl,by go_num,by omega,by omega,by omega,by omega,RN.out,by rw [H.out.2,H1.out,WS.pre_pre]⟩
      case measure=>simp [intOf];omega
     ·have dm:decide (((k+1:Nat):Int)<(N:Int))=false:=by simp;omega
      clear HY ky
      go_wp2_with (at_builtin;refine wpList_push slR_elt H.out.1.own (by have:=H.out.1.var.1;omega) rfl rfl rfl rfl (by simp) rfl rfl (by unfold maxLen;omega) (by omega) ?_;intro A3 c3 w5 hp;have hB3:=H.out.1.var.grown hp.grown (H.out.1.far _ (by omega));have u1:w5.cell? ⟨w.heap.size+1,2,none⟩=some (.slice A1 n1 c1):=hB3.2.1 2;have f1:w5.frozen? ⟨w.heap.size+1,2,none⟩=false:=hB3.2.2 2;have RN:=Lib.hid (H.out.1.next (M:=[x]) (by simp [flatL,encC]) hp);clear hp hB3)
      go_roundw
      case rel=>exact⟨k+1,n1+1,_,_,T++[x],39,rfl,by go_num,by omega,by omega,by omega,by omega,RN.out,by rw [H.out.2,H1.out,WS.pre_pre]⟩
      case measure=>simp [intOf];omega
  ·obtain rfl:k=N:=by omega
   have dk:decide ((k:Int)<(k:Int))=false:=by simp
   rcases hq with rfl|rfl|rfl
   ·have H1:=Lib.hid (show WS.one l 0 a=some (T,k)by rw [H.out.2,WS.one_end (by rw [HN.out];exact Nat.le_refl _),if_pos rfl,WS.pre_some,HN.out,List.append_nil])
    clear H0
    go_wp2
    refine at_world (TkF w (a:Int) (k:Int) A1 n1 c1 T) ((H.out.1.to k).fin) ?_
    rintro X F
    have x0:X.cell? ⟨w.heap.size,0,none⟩=some (.int .i64 a):=F.res.2.1 0
    have x1:X.cell? ⟨w.heap.size,1,none⟩=some (.int .i64 k):=F.res.2.1 1
    have x2:X.cell? ⟨w.heap.size,2,none⟩=some (.slice A1 n1 c1):=F.res.2.1 2
    refine bodyPost_ret (v:= .tuple #[.agg #[.int .i64 a,.int .i64 k,.slice A1 n1 c1],.bool true]) (by simp [results,Tryz.results87,go_sem,x0,x1,x2]) rfl ⟨F.below,.inl ⟨T,k,A1,n1,c1,rfl,F.own,H1.out⟩⟩
   all_goals
    have H1:=Lib.hid (show WS.one l 0 a=none by rw [H.out.2,WS.one_end (by rw [HN.out];exact Nat.le_refl _),if_neg (by decide)];rfl)
    clear H0
    go_wp2
    refine at_world (TkF w (a:Int) (k:Int) A1 n1 c1 T) ((H.out.1.to k).fin) ?_
    rintro X F
    have x0:X.cell? ⟨w.heap.size,0,none⟩=some (.int .i64 a):=F.res.2.1 0
    have x1:X.cell? ⟨w.heap.size,1,none⟩=some (.int .i64 k):=F.res.2.1 1
    have x2:X.cell? ⟨w.heap.size,2,none⟩=some (.slice A1 n1 c1):=F.res.2.1 2
    refine bodyPost_ret (v:= .tuple #[.agg #[.int .i64 a,.int .i64 k,.slice A1 n1 c1],.bool false]) (by simp [results,Tryz.results87,go_sem,x0,x1,x2]) rfl ⟨F.below,.inr ⟨_,_,_,_,_,rfl,H1.out⟩⟩
end Go.Proofs.YtlopleeopnnoeaaGreat
