import Derived.Test.YtlopleeopnnoeaaGreatMb01
import Derived.Handy
import Derived.Lib.AppendZerosOnto
import Derived.Test.YtlopleeopnnoeaaGreatMs01
import Derived.Test.YtlopleeopnnoeaaGreatMb22
import Derived.Test.YtlopleeopnnoeaaGreatMb02
import Derived.Test.YtlopleeopnnoeaaGreatMw01
set_option linter.unusedVariables false
set_option linter.unusedSimpArgs false
namespace Go.Proofs.YtlopleeopnnoeaaGreat
open Go.RowKit
def sumTo (n:Nat→Nat):Nat→Nat
 |0=>0
 |k+1=>sumTo n k+n k
def catTo (n:Nat→Nat)(f:Nat→Nat→Value):Nat→List Value
 |0=>[]
 |k+1=>catTo n f k++(List.range (n k)).map (f k)
theorem catTo_length (n:Nat→Nat)(f:Nat→Nat→Value):∀k,(catTo n f k).length=sumTo n k
 |0=>rfl
 |k+1=>by simp [catTo,sumTo,catTo_length n f k]
theorem sumTo_le (n:Nat→Nat)(k:Nat):∀d,sumTo n k≤sumTo n (k+d)
 |0=>Nat.le_refl _
 |d+1=>Nat.le_trans (sumTo_le n k d) (by show _≤sumTo n (k+d)+n (k+d);omega)
theorem sumTo_mono (n:Nat→Nat){k m:Nat}(h:k≤m):sumTo n k≤sumTo n m:=by
 obtain⟨d,rfl⟩:=Nat.le.dest h
 exact sumTo_le n k d
def agree (p q:Nat→Int)(n:Nat):Bool:=(List.range n).all fun j=>p j==q j
theorem slR_elt:Elt Tryz.prog 22 21 1 4:=elt_of Tryz.underlying22 (z:= .int .i32 0) (by kernel_rfl) rfl (by decide)
set_option maxHeartbeats 4000000 in
theorem blank_any (w:World)(x:Int):Calls Tryz.prog 85 #[.int .i32 x] w fun e w'=>e= .returned (.bool (WS.blank x))∧w=w':=by
 have HB:=Lib.hid (show WS.blank x=(x==32||x==9)from rfl)
 go_enter Tryz.func85,Tryz.ntmps85
 by_cases h1:x=32
 ·subst h1
  go_wp2
  go_ret
  exact⟨by rw [HB.out];rfl,rfl⟩
 ·have d1:(x==32)=false:=by simpa using h1
  go_wp2
  go_ret
  exact⟨by rw [HB.out,d1];rfl,rfl⟩
set_option maxHeartbeats 4000000 in
theorem quoted_any {w:World}{A:Option Addr}{c:Nat}{l:List Int}(hL:Li 1 encC w (fun _=>True) A l)(hn:l.length≤100000)(a:Nat)(ha:a<l.length)(hs:l.getD a 0=34∨l.getD a 0=39):
  Calls Tryz.prog 135 #[.slice A l.length c,.int .i64 (a:Nat)] w fun e w'=>Below w.heap.size w w'∧((∃ (T:List Int) (E:Nat) (A1:Option Addr) (n1 c1:Nat),e= .returned (.tuple #[.slice A1 n1 c1,.int .i64 (E:Nat),.bool true])∧w'.ownsRow w.heap.size 21 1 (.slice A1 n1 c1) n1 (flatL encC T)∧WS.one l (l.getD a 0) (a+1)=WS.pre T (WS.one l 0 E)∧a<E∧E≤l.length∧n1≤E - a)∨(e= .returned (.tuple #[.slice none 0 0,.int .i64 0,.bool false])∧WS.one l (l.getD a 0) (a+1)=none)):=by
 obtain⟨b,o,rfl,hb,_,hcell⟩:=hL.scs (by omega)
 have HC:=Lib.hid (fun(X:World) (hX:Below w.heap.size w X) (j:Nat) (hj:j<l.length)=>(hX.cell (p:=⟨b,o+j,none⟩) hb).trans (hcell j hj))
 have k0:=hcell a ha
 obtain⟨s,hsv⟩:∃s,l.getD a 0=s:=⟨_,rfl⟩
 rw [hsv]at hs k0 ⊢
 have HS:=Lib.hid hs
 obtain⟨N,hN⟩:∃N,l.length=N:=⟨_,rfl⟩
 have HN:=Lib.hid hN
 rw [hN]at ha hn HC ⊢
 have H0:=Lib.hid (show Grows w 21 1 encC none 0 0 ([]:List Int) w∧WS.one l s (a+1)=WS.pre [] (WS.one l s (a+1))from⟨Grows.start _ _ _,(WS.pre_nil _).symm⟩)
 clear hL hcell hsv hs hN
 go_enter Tryz.func135,Tryz.ntmps135
 go_wp2
 go_loopw [8,9] (fun tv iv wr=>∃ (k n1 c1:Nat) (A1:Option Addr) (T:List Int),iv= .int .i64 k∧tv= .slice A1 n1 c1∧a+1≤k∧k≤N∧n1≤k -(a+1)∧Hid (Grows w 21 1 encC A1 n1 c1 T wr∧WS.one l s (a+1)=WS.pre T (WS.one l s k))) (fun _ iv _=>N -(intOf iv).toNat)
 case atStart=>exact⟨a+1,0,0,none,[],by go_num,rfl,Nat.le_refl _,by omega,by omega,H0⟩
 case round=>
  obtain⟨k,n1,c1,A1,T,rfl,rfl,hk1,hk2,hn1,H⟩:=hrel
  by_cases hlt:k<N
  ·have k1:=HC.out wr H.out.1.below k hlt
   obtain⟨x,hx⟩:∃x,l.getD k 0=x:=⟨_,rfl⟩
   rw [hx]at k1
   have hz:=H.out.1.below.size
   by_cases hxs:x=s
   ·subst hxs
    have H1:=Lib.hid (show WS.one l x (a+1)=WS.pre T (WS.one l 0 (k+1))by rw [H.out.2,WS.one_close (by rw [HN.out];exact hlt) HS.out hx])
    clear hx H0
    go_wp2
    refine bodyPost_ret (v:= .tuple #[.slice A1 n1 c1,.int .i64 ((k+1:Nat):Int),.bool true]) (by simp [results,Tryz.results135,go_sem]) rfl ⟨H.out.1.below,.inl ⟨T,k+1,A1,n1,c1,rfl,H.out.1.own,H1.out,by omega,by omega,by omega⟩⟩
   ·have d1:(x==s)=false:=by simpa using hxs
    have hks:k+1<N→wr.cell? ⟨b,o+(k+1),none⟩=some (.int .i32 (l.getD (k+1) 0)):=fun h=>HC.out wr H.out.1.below (k+1) h
    obtain⟨y,hy⟩:∃y,l.getD (k+1) 0=y:=⟨_,rfl⟩
    rw [hy]at hks
    have HP:=Lib.hid (fun(h:¬(s=34∧x=92∧k+1<N∧(y=34∨y=92)))=>show WS.one l s k=WS.pre [x] (WS.one l s (k+1))by
     rw [←hx]
     refine WS.one_plain (by rw [HN.out];exact hlt) (fun h0=>by have:=HS.out;omega) (.inl (by rw [hx];exact hxs)) fun h1 h2 h3=> ?_
     rw [hx]at h2
     rw [HN.out]at h3
     rw [hy]
     exact⟨fun h4=>h ⟨h1,h2,h3,.inl h4⟩,fun h4=>h ⟨h1,h2,h3,.inr h4⟩⟩)
    have HE:=Lib.hid (fun(h1:s=34) (h2:x=92) (h3:k+1<N) (h4:y=34∨y=92)=>show WS.one l s k=WS.pre [y] (WS.one l s (k+2))by
     subst h1
     rw [←hy]
     exact WS.one_esc (by rw [hx];exact h2) (by rw [HN.out];exact h3) (by rw [hy];exact h4))
    clear hx hy H0
    by_cases h34:s=34
    ·subst h34
     by_cases h92:x=92
     ·have e0:(x==92)=true:=by simpa using h92
      have H92:=Lib.hid h92
      clear h92
      by_cases hm:k+1<N
      ·have k2:=hks hm
       have g1:((k+1:Nat):Int)<(N:Int):=by omega
       clear hks
       by_cases hy:y=34∨y=92
       ·have H1:=Lib.hid (HE.out rfl H92.out hm hy)
        clear HP HE
        by_cases h3:y=34
        ·have e1:(y==34)=true:=by simpa using h3
         clear h3 hy
         go_wp2_with (at_builtin;refine wpList_push slR_elt H.out.1.own hz rfl rfl rfl rfl (by simp) rfl rfl (by unfold maxLen;omega) (by omega) ?_;intro A6 c6 w6 hp;have H6:=Lib.hid (show Grows w 21 1 encC A6 (n1+1) c6 (T++[y]) w6 from H.out.1.push (Below.refl _ _) hp);clear hp)
         go_roundw
         case rel=>exact⟨k+2,n1+1,c6,A6,T++[y],by go_num,rfl,by omega,by omega,by omega,H6.out,by rw [H.out.2,H1.out,WS.pre_pre]⟩
         case measure=>simp [intOf];omega
        ·have e1:(y==34)=false:=by simpa using h3
         have e2:(y==92)=true:=by simp;omega
         clear h3 hy
         go_wp2_with (at_builtin;refine wpList_push slR_elt H.out.1.own hz rfl rfl rfl rfl (by simp) rfl rfl (by unfold maxLen;omega) (by omega) ?_;intro A6 c6 w6 hp;have H6:=Lib.hid (show Grows w 21 1 encC A6 (n1+1) c6 (T++[y]) w6 from H.out.1.push (Below.refl _ _) hp);clear hp)
         go_roundw
         case rel=>exact⟨k+2,n1+1,c6,A6,T++[y],by go_num,rfl,by omega,by omega,by omega,H6.out,by rw [H.out.2,H1.out,WS.pre_pre]⟩
         case measure=>simp [intOf];omega
       ·have H1:=Lib.hid (HP.out (by omega))
        have e1:(y==34)=false:=by simp;omega
        have e2:(y==92)=false:=by simp;omega
        clear HP HE hy
        go_wp2_with (at_builtin;refine wpList_push slR_elt H.out.1.own hz rfl rfl rfl rfl (by simp) rfl rfl (by unfold maxLen;omega) (by omega) ?_;intro A6 c6 w6 hp;have H6:=Lib.hid (show Grows w 21 1 encC A6 (n1+1) c6 (T++[x]) w6 from H.out.1.push (Below.refl _ _) hp);clear hp)
        go_roundw
        case rel=>exact⟨k+1,n1+1,c6,A6,T++[x],by go_num,rfl,by omega,by omega,by omega,H6.out,by rw [H.out.2,H1.out,WS.pre_pre]⟩
        case measure=>simp [intOf];omega
      ·have H1:=Lib.hid (HP.out (by omega))
       have g1:decide (((k+1:Nat):Int)<(N:Int))=false:=by simp;omega
       clear HP HE hks
       go_wp2_with (at_builtin;refine wpList_push slR_elt H.out.1.own hz rfl rfl rfl rfl (by simp) rfl rfl (by unfold maxLen;omega) (by omega) ?_;intro A6 c6 w6 hp;have H6:=Lib.hid (show Grows w 21 1 encC A6 (n1+1) c6 (T++[x]) w6 from H.out.1.push (Below.refl _ _) hp);clear hp)
       go_roundw
       case rel=>exact⟨k+1,n1+1,c6,A6,T++[x],by go_num,rfl,by omega,by omega,by omega,H6.out,by rw [H.out.2,H1.out,WS.pre_pre]⟩
       case measure=>simp [intOf];omega
     ·have H1:=Lib.hid (HP.out (by omega))
      have e1:(x==92)=false:=by simpa using h92
      clear HP HE hks
      go_wp2_with (at_builtin;refine wpList_push slR_elt H.out.1.own hz rfl rfl rfl rfl (by simp) rfl rfl (by unfold maxLen;omega) (by omega) ?_;intro A6 c6 w6 hp;have H6:=Lib.hid (show Grows w 21 1 encC A6 (n1+1) c6 (T++[x]) w6 from H.out.1.push (Below.refl _ _) hp);clear hp)
      go_roundw
      case rel=>exact⟨k+1,n1+1,c6,A6,T++[x],by go_num,rfl,by omega,by omega,by omega,H6.out,by rw [H.out.2,H1.out,WS.pre_pre]⟩
      case measure=>simp [intOf];omega
    ·have H1:=Lib.hid (HP.out (by omega))
     have e1:(s==34)=false:=by simpa using h34
     clear HP HE hks
     go_wp2_with (at_builtin;refine wpList_push slR_elt H.out.1.own hz rfl rfl rfl rfl (by simp) rfl rfl (by unfold maxLen;omega) (by omega) ?_;intro A6 c6 w6 hp;have H6:=Lib.hid (show Grows w 21 1 encC A6 (n1+1) c6 (T++[x]) w6 from H.out.1.push (Below.refl _ _) hp);clear hp)
     go_roundw
     case rel=>exact⟨k+1,n1+1,c6,A6,T++[x],by go_num,rfl,by omega,by omega,by omega,H6.out,by rw [H.out.2,H1.out,WS.pre_pre]⟩
     case measure=>simp [intOf];omega
  ·obtain rfl:k=N:=by omega
   have H1:=Lib.hid (show WS.one l s (a+1)=none by rw [H.out.2,WS.one_end (by rw [HN.out];exact Nat.le_refl _),if_neg (by have:=HS.out;omega)];rfl)
   clear H0
   go_wp2
   refine bodyPost_ret (v:= .tuple #[.slice none 0 0,.int .i64 0,.bool false]) (by simp [results,Tryz.results135,go_sem]) rfl ⟨H.out.1.below,.inr ⟨rfl,H1.out⟩⟩
end Go.Proofs.YtlopleeopnnoeaaGreat
