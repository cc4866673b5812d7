import Derived.Test.YtlopleeopnnoeaaGreatMs09
import Derived.Test.YtlopleeopnnoeaaGreatMs07
set_option linter.unusedVariables false
set_option linter.unusedSimpArgs false
namespace Go.Proofs.YtlopleeopnnoeaaGreat
open Go.RowKit
set_option maxHeartbeats 8000000 in
set_option maxRecDepth 100000 in
theorem rsplit_any {w:World}{A:Option Addr}{l:List Int}(c:Nat)(hL:Li 1 encC w (fun _=>True) A l)(hn:l.length≤100000):
  Calls Tryz.prog 40 #[.slice A l.length c] w (TellsSp 68 l w):=by
 have HL:=Lib.hid hL
 have HT:=Lib.hid (fun(X:World) (hX:Below w.heap.size w X) (k:Nat) (hk:k<l.length)=>one_any c (hL.later hX) hn k hk)
 obtain⟨N,hN⟩:∃N,l.length=N:=⟨_,rfl⟩
 have HN:=Lib.hid hN
 unfold TellsSp
 rw [hN]at hn HT ⊢
 have H0:=Lib.hid (show SpI w 68 none 0 0 [] [] w∧WS.spl l 0=WS.preS [] (WS.spl l 0)from⟨SpI.start _ _,(WS.preS_nil _).symm⟩)
 clear hL hN
 go_enter Tryz.func40,Tryz.ntmps40
 go_wp2
 go_loopw [5,6,7,8] (fun ov iv _ _ wr=>∃ (k n1 c1:Nat) (A1:Option Addr) (D:List TA) (P:List WS.Tk),iv= .int .i64 k∧ov= .slice A1 n1 c1∧k≤N∧n1≤k∧Hid (SpI w 68 A1 n1 c1 D P wr∧WS.spl l 0=WS.preS P (WS.spl l k))) (fun _ iv _ _ _=>N -(intOf iv).toNat)
 case atStart=>exact⟨0,0,0,none,[],[],rfl,rfl,Nat.zero_le _,Nat.le_refl _,H0⟩
 case round=>
  obtain⟨k,n1,c1,A1,D,P,rfl,rfl,hk,hn1,H⟩:=hrel
  by_cases hlt:k<N
  ·obtain⟨b,o,rfl,hb,_,hcell⟩:=(HL.out.later H.out.1.row.below).scs (by rw [HN.out];omega)
   have kx:=hcell k (by rw [HN.out];exact hlt)
   obtain⟨x,hx⟩:∃x,l.getD k 0=x:=⟨_,rfl⟩
   rw [hx]at kx
   have HX:=Lib.hid hx
   obtain⟨q,hq⟩:∃q,WS.blank x=q:=⟨_,rfl⟩
   have HQ:=Lib.hid hq
   have C2:=Lib.hid (HT.out wr H.out.1.row.below k hlt)
   clear hx hcell H0
   cases q
   case true=>
    have H1:=Lib.hid (show WS.spl l 0=WS.preS P (WS.spl l (k+1))by rw [H.out.2,WS.spl_blank (by rw [HN.out];exact hlt) (by rw [HX.out];exact HQ.out)])
    clear C2
    unfold WS.blank at hq
    by_cases h32:x=32
    all_goals
     first
      |(have e1:(x==32)=true:=by simpa using h32)
      |skip
     first
      |(have e1:(x==32)=false:=by simpa using h32)
      |skip
     first
      |(have e2:(x==9)=true:=by simpa [h32]using hq)
      |skip
     clear hq h32
     go_wp2
     go_roundw
     case rel=>exact⟨k+1,n1,c1,A1,D,P,by go_num,rfl,by omega,by omega,H.out.1,H1.out⟩
     case measure=>simp [intOf];omega
   case false=>
    have HXB:=Lib.hid (show WS.blank (l.getD k 0)=false by rw [HX.out];exact HQ.out)
    have e12:(x==32)=false∧(x==9)=false:=by unfold WS.blank at hq;simpa using hq
    obtain⟨e1,e2⟩:=e12
    clear hq
    go_wp2_with fail
    refine C2.out.mono ?_
    rintro e w4 ⟨hb4,(⟨T,E,A2,n2,c2,rfl,ho2,hone⟩|⟨x',y',A2,n2,c2,rfl,hone⟩)⟩
    ·have hge:=WS.one_ge _ 0 k T E (Nat.le_refl _) (by rw [HN.out];exact hk) hone
     rw [HN.out]at hge
     have hE1:=hge.2.1
     have hE2:=hge.2.2.2 hlt (fun h=>by rw [HXB.out]at h;cases h.2)
     have H1:=Lib.hid (show WS.spl l 0=WS.preS (P++[⟨k,E,T⟩]) (WS.spl l E)by rw [H.out.2,WS.spl_good (by rw [HN.out];exact hlt) HXB.out hone,WS.preS_preS])
     have L4:=Lib.hid (LiV.own encC_len (by decide) ho2)
     have H4:=Lib.hid (And.intro H.out.1 hb4)
     have hz:=hb4.size
     have hz2:=H.out.1.row.below.size
     have hfar:some w4.heap.size≠(Value.slice A1 n1 c1).ownBlock:=fun he=>by
      have:=(H4.out.1.row.own.lt _ he.symm).2
      omega
     have HFar:=Lib.hid hfar
     clear hone ho2 hge hb4 C2 hfar
     go_wp2_with (at_builtin;refine wpList_push tokR_elt (own_later H4.out.1.row.own (bStepS H4.out.2 (belAlloc _ _))) (by simp [World.size_alloc];omega) rfl rfl rfl rfl (by simp) rfl rfl (by unfold maxLen;omega) (by omega) ?_;intro A6 c6 w6 hp;have hB3:=(blk_new w4 #[.int .i64 k,.int .i64 E,.slice A2 n2 c2] 68).grown hp.grown HFar.out;have u1:w6.cell? ⟨w4.heap.size,1,none⟩=some (.int .i64 E):=hB3.2.1 1;have H6:=Lib.hid (H4.out.1.push (x:=⟨k,E,A2,n2,c2⟩) (p:=⟨k,E,T⟩) (bStepS H4.out.2 (belAlloc _ _)) ⟨rfl,rfl,L4.out.later (belAlloc _ _)⟩ hp);clear hp hB3)
     go_roundw
     case rel=>exact⟨E,n1+1,c6,A6,_,_,rfl,rfl,by omega,by omega,H6.out,H1.out⟩
     case measure=>simp [intOf];omega
    ·have H1:=Lib.hid (show WS.spl l 0=(none,k)by rw [H.out.2,WS.spl_bad (by rw [HN.out];exact hlt) HXB.out hone];rfl)
     have H4:=Lib.hid (bStepS H.out.1.row.below hb4)
     have H5:=Lib.hid (bStepS (bStepS H.out.1.row.below hb4) (belAlloc w4 (.cells #[.int .i64 x',.int .i64 y',.slice A2 n2 c2] 68)))
     clear hone hb4 C2
     go_wp2
     refine bodyPost_ret (v:= .tuple #[.slice none 0 0,.int .i64 k,.bool false]) (by simp [results,Tryz.results40,go_sem]) rfl ⟨H5.out,.inr ⟨k,rfl,H1.out⟩⟩
  ·obtain rfl:k=N:=by omega
   have H1:=Lib.hid (show WS.spl l 0=(some P,0)by rw [H.out.2,WS.spl_end (by rw [HN.out];exact Nat.le_refl _)];simp [WS.preS])
   clear H0
   go_wp2
   refine bodyPost_ret (v:= .tuple #[.slice A1 n1 c1,.int .i64 0,.bool true]) (by simp [results,Tryz.results40,go_sem]) rfl ⟨H.out.1.row.below,.inl ⟨P,A1,n1,c1,D,rfl,H1.out,H.out.1,hn1⟩⟩
end Go.Proofs.YtlopleeopnnoeaaGreat
