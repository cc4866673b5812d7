import Derived.Test.YtlopleeopnnoeaaGreatMy06
import Derived.BigQuiet
set_option linter.unusedVariables false
set_option linter.unusedSimpArgs false
namespace Go.Proofs.YtlopleeopnnoeaaGreat
open Go.RowKit
def partV (b o c:Nat)(K:SG.Kinds)(l:List Int)(k:Nat):Value:= .slice (some ⟨b,o+fromP K l k,none⟩) (fromP K l (k+1) - fromP K l k) (c - fromP K l k)
structure RC (W:World)(b o c:Nat)(K:SG.Kinds)(l:List Int)(A:Option Addr)(k co:Nat)(X:World):Prop where
 own:X.ownsRow W.heap.size 22 1 (.slice A k co) k ((List.range k).map (partV b o c K l))
 be:Below W.heap.size W X
theorem RC.push {W X Y:World}{b o c:Nat}{K:SG.Kinds}{l:List Int}{A A':Option Addr}{k co c':Nat}(h:RC W b o c K l A k co X)(hp:Pushed X Y W.heap.size 22 1 (.slice A k co) (k+1) ((List.range k).map (partV b o c K l)++[partV b o c K l k]) A' c'):RC W b o c K l A' (k+1) c' Y:=
 ⟨by rw [List.range_succ,List.map_append];exact hp.own,hp.below h.be h.own (Nat.le_refl _)⟩
set_option maxHeartbeats 8000000 in
set_option maxRecDepth 100000 in
theorem rclusters_any {W:World}{A:Option Addr}{c:Nat}{T:List RW.Row}{A2:Option Addr}{l:List Int}(c2:Nat)(h:RT W A c T A2 l)(hc2:l.length≤c2)(hm:c2≤maxLen):
  Calls Tryz.prog 25 #[.slice A T.length c,.slice A2 l.length c2] W fun e w'=>∃A' c',e= .returned (.slice A' (SG.startsP (KT T) l).length c')∧Txts w' (.slice A' (SG.startsP (KT T) l).length c') (clusL (KT T) l)∧Below W.heap.size W w':=by
 have hln:=h.ln
 have HR:=Lib.hid h
 obtain⟨N,hN⟩:∃N,(SG.startsP (KT T) l).length=N:=⟨_,rfl⟩
 have hNn:N≤100000:=by
  rw [←hN]
  have:=List.length_filter_le (SG.begAt (KT T) l) (List.range l.length)
  rw [List.length_range]at this
  exact Nat.le_trans this hln
 have HF:=Lib.hid (show ∀k,k<N→fromP (KT T) l k<l.length∧SG.nextP (KT T) l (fromP (KT T) l k+1)=fromP (KT T) l (k+1)∧fromP (KT T) l k<fromP (KT T) l (k+1)∧fromP (KT T) l (k+1)≤l.length from fun k hk=>by
  subst hN
  exact⟨fromP_lt hk,(fromP_succ hk).1,(fromP_succ hk).2,fromP_le _⟩)
 have HE:=Lib.hid (show fromP (KT T) l N=l.length by subst hN;exact fromP_end (Nat.le_refl _))
 have HCL:=Lib.hid (show (clusL (KT T) l).length=N∧∀k,k<N→(clusL (KT T) l).getD k []=clusP (KT T) l k by subst hN;exact⟨by unfold clusL;simp,fun k hk=>clusL_at hk⟩)
 rw [hN]
 unfold maxLen at hm
 rcases Nat.eq_zero_or_pos l.length with h0|h0
 ·have hN0:N=0:=by
   rcases Nat.eq_zero_or_pos N with h1|h1
   ·exact h1
   ·have:=(HF.out 0 h1).1;omega
  subst hN0
  have hz:clusL (KT T) l=[]:=List.eq_nil_of_length_eq_zero HCL.out.1
  rw [hz,h0]
  clear hN HF HE HCL HR h hz
  go_enter Tryz.func25,Tryz.ntmps25
  go_wp2
  go_loopw [5,6,7] (fun v i _ wr=>v= .slice none 0 0∧i= .int .i64 0∧wr=W) (fun _ _ _ _=>0)
  case atStart=>exact⟨rfl,rfl,rfl⟩
  case round=>
   obtain⟨rfl,rfl,rfl⟩:=hrel
   go_wp2
   go_ret
   exact⟨_,_,rfl,Txts.nil _ _,Below.refl _ _⟩
 ·obtain⟨b,o,rfl,hb,_,_⟩:=h.txt.scs h0
  have HZ:=Lib.hid (fromP_zero (K:=KT T) (l:=l))
  clear hN h
  go_enter Tryz.func25,Tryz.ntmps25
  go_wp2
  go_loopw [5,6,7] (fun v i _ wr=>∃ (k:Nat) (Ao:Option Addr) (co:Nat),k≤N∧i= .int .i64 (fromP (KT T) l k:Nat)∧v= .slice Ao k co∧Hid (RC W b o c2 (KT T) l Ao k co wr)) (fun _ i _ _=>l.length -(intOf i).toNat)
  case atStart=>exact⟨0,none,0,Nat.zero_le _,by rw [HZ.out];rfl,rfl,Lib.hid ⟨World.ownsRow_nil _ _ _ _,Below.refl _ _⟩⟩
  case round=>
   obtain⟨k,Ao,co,hk,rfl,rfl,H⟩:=hrel
   by_cases hlt:k<N
   ·have hf:=HF.out k hlt
    have CN:=rnext_any c2 (HR.out.later H.out.be) hc2 (fromP (KT T) l k) (by omega)
    rw [hf.2.1]at CN
    have HP0:=Lib.hid (show partV b o c2 (KT T) l k= .slice (some ⟨b,o+fromP (KT T) l k,none⟩) (fromP (KT T) l (k+1) - fromP (KT T) l k) (c2 - fromP (KT T) l k)from rfl)
    obtain⟨f,hff⟩:∃f,fromP (KT T) l k=f:=⟨_,rfl⟩
    obtain⟨t,htt⟩:∃t,fromP (KT T) l (k+1)=t:=⟨_,rfl⟩
    have HT:=Lib.hid htt
    rw [htt,hff]at CN HP0
    rw [hff,htt]at hf
    rw [hff]
    obtain⟨hf1,-,hf2,hf3⟩:=hf
    have CN:=Lib.hid CN
    have d0:(f:Int)<(l.length:Int):=by omega
    have d2:(f:Int)≤(t:Int):=by omega
    have d3:(t:Int)≤(c2:Int):=by omega
    have d4:(l.length:Int)≤(c2:Int):=by omega
    have g4:f<c2:=by omega
    have g6:(f:Int)<(c2:Int):=by omega
    have g7:(c2:Int)≠(f:Int):=by omega
    have g8:c2≠f:=by omega
    clear hff htt
    go_wp2_with fail
    refine CN.out.mono ?_
    rintro e w5 ⟨rfl,m5,rfl⟩
    have H5:=Lib.hid (show RC W b o c2 (KT T) l Ao k co (wr.drewN m5)from⟨ownDrew H.out.own m5,belDrew H.out.be m5⟩)
    have hz5:W.heap.size≤(wr.drewN m5).heap.size:=H5.out.be.size
    clear CN H
    go_wp2_with (at_builtin;refine wpList_push texts_elt H5.out.own hz5 rfl rfl rfl rfl (by simp) rfl rfl (by unfold maxLen;omega) (by omega) ?_;intro A6 c6 w6 hp;have HP:=Lib.hid (H5.out.push (by rw [HP0.out];exact hp));clear hp)
    go_roundw
    case rel=>exact⟨k+1,A6,c6,by omega,by rw [HT.out],rfl,HP⟩
    case measure=>simp [intOf];omega
   ·obtain rfl:k=N:=by omega
    have d0:decide (((l.length:Nat):Int)<((l.length:Nat):Int))=false:=by simp
    rw [HE.out]
    have HQ:=Lib.hid (show Txts wr (.slice Ao k co) (clusL (KT T) l)from
     txts_own (S:=Any) HCL.out.1 H.out.own (fun _ _=>trivial) fun j hj=>⟨partV b o c2 (KT T) l j,by simp [hj],by
      rw [HCL.out.2 j hj]
      have hf:=HF.out j hj
      exact txt_part (HR.out.later H.out.be).txt (by omega) hf.2.2.2 hc2 (by unfold maxLen;omega)⟩)
    have HB:=Lib.hid H.out.be
    clear H HR HCL HF HE HZ
    go_wp2
    go_ret
    exact⟨_,_,rfl,HQ.out,HB.out⟩
theorem same_txt (u v:Value)(l:List Int)(w:World)(hu:Txt w u l)(hv:Txt w v l):Calls Tryz.prog 41 #[u,v] w fun e w'=>e= .returned (.bool true)∧∃k,w'=w.drewN k:=by
 obtain⟨A,c,rfl,hA,_,h1,h2,_⟩:=hu
 obtain⟨B,d,rfl,hB,_⟩:=hv
 unfold maxLen at h2
 exact same_yes A B l.length c d (fun j=>l.getD j 0) w (by omega) hA hB
theorem li_txt {w:World}{S:Nat→Prop}{A:Option Addr}{n c:Nat}{l:List Int}(h:TxtS w S (.slice A n c) l):n=l.length∧Li 1 encC w (fun _=>True) A l∧l.length≤c∧c≤maxLen:=by
 obtain⟨e,hr,_,h2,h3⟩:=Sl.parts h
 have:=li_of_rd (f:=fun j=>l.getD j 0) hr
 rw [show (List.range l.length).map (fun j=>l.getD j 0)=l from upTo_li l]at this
 exact⟨e,this,h2,h3⟩
def ats0 (G:GY.Kw)(K:SG.Kinds)(l:List Int)(k:Nat):List Int:=(List.range k).map fun j=>((glsTo G K l j).length:Int)
theorem ats0_succ (G:GY.Kw)(K:SG.Kinds)(l:List Int)(k:Nat):ats0 G K l (k+1)=ats0 G K l k++[((glsTo G K l k).length:Int)]:=by
 unfold ats0
 rw [List.range_succ,List.map_append]
 rfl
theorem clus_le {K:SG.Kinds}{l:List Int}{k:Nat}(hk:k<(SG.startsP K l).length):(clusP K l k).length≤l.length:=by
 rw [clusP_len k hk]
 have:=fromP_le (K:=K) (l:=l) (k+1)
 omega
theorem clus_sc {K:SG.Kinds}{l:List Int}(h:Sc l)(k:Nat):Sc (clusP K l k):=(h.drop _).take _
theorem gls_le (G:GY.Kw)(K:SG.Kinds)(l:List Int)(k:Nat)(hk:k≤(SG.startsP K l).length):(glsTo G K l k).length≤2*fromP K l k:=by
 induction k with
 |zero=>simp [glsTo]
 |succ k ih=>
  have h:=ih (by omega)
  rw [glsTo_succ (by omega),List.length_append]
  have h2:=ofG_len2 G (clusP K l k)
  rw [clusP_len k (by omega)]at h2
  have:=fromP_succ (K:=K) (l:=l) (k:=k) (by omega)
  omega
theorem GTwo.low {E:TypeId}{w w1 X:World}{D:List (List Int × Int)}{L:List Int}{A1 A2:Option Addr}{n1 c1 n2 c2:Nat}(h:GTwo E w1 D L A1 n1 c1 A2 n2 c2 X)(hb:Below w.heap.size w w1):GTwo E w D L A1 n1 c1 A2 n2 c2 X:=⟨ownLow h.own1 hb.size,ownLow h.own2 hb.size,h.ne,bStepS hb h.be⟩
theorem GTwo.nil (E:TypeId)(w:World):GTwo E w [] [] none 0 0 none 0 0 w:=⟨World.ownsRow_nil _ _ _ _,World.ownsRow_nil _ _ _ _,(fun g e=>by cases e),Below.refl _ _⟩
set_option maxHeartbeats 8000000 in
set_option maxRecDepth 100000 in
theorem rline_any {T : List RW.Row} {A A2 : Option Addr} {l : List Int} {c : Nat} (c2 : Nat) (w : World) (h : RT w A c T A2 l) (hc2 : l.length ≤ c2) (hm : c2 ≤ maxLen) (hn : l.length ≤ 10000) :
    Calls Tryz.prog 26 #[.slice A T.length c, .slice A2 l.length c2] w fun e w' => ∃ A1 n1 c1 A2 n2 c2, e = .returned (.tuple #[.slice A1 n1 c1, .slice A2 n2 c2]) ∧ GTwo 104 w (lineG (KG T) (KT T) l) (atsTo (KG T) (KT T) l (SG.startsP (KT T) l).length) A1 n1 c1 A2 n2 c2 w' := by
  have CC := Lib.hid (rclusters_any c2 h hc2 hm)
  have HR := Lib.hid h
  obtain ⟨NC, hNC⟩ : ∃ NC, (SG.startsP (KT T) l).length = NC := ⟨_, rfl⟩
  have HF := Lib.hid (show ∀ k, k < NC → glsTo (KG T) (KT T) l (k + 1) = glsTo (KG T) (KT T) l k ++ GY.ofG (KG T) (clusP (KT T) l k) ∧ (clusP (KT T) l k).length ≤ l.length ∧ Sc (clusP (KT T) l k) ∧ (clusL (KT T) l).getD k [] = clusP (KT T) l k ∧ k < (clusL (KT T) l).length from fun k hk => by
    subst hNC
    exact ⟨glsTo_succ hk, clus_le hk, clus_sc h.sc k, clusL_at hk, by rw [clusL_len]; exact hk⟩)
  have HQ := Lib.hid (show ∀ k, k ≤ NC → (glsTo (KG T) (KT T) l k).length ≤ 20000 from fun k hk => by
    have := gls_le (KG T) (KT T) l k (by omega)
    have := fromP_le (K := KT T) (l := l) k
    omega)
  have HNC : NC ≤ 10000 := by
    rw [← hNC]
    have := List.length_filter_le (SG.begAt (KT T) l) (List.range l.length)
    rw [List.length_range] at this
    exact Nat.le_trans this hn
  have HZ := Lib.hid (show glsTo (KG T) (KT T) l 0 = [] ∧ ats0 (KG T) (KT T) l 0 = [] from ⟨rfl, rfl⟩)
  have HNl := Lib.hid hn
  unfold lineG
  rw [hNC] at CC ⊢
  rw [show atsTo (KG T) (KT T) l NC = ats0 (KG T) (KT T) l (NC + 1) from rfl]
  obtain ⟨N, hN⟩ : ∃ N, l.length = N := ⟨_, rfl⟩
  rw [hN] at CC HF HNl ⊢
  clear h hNC hc2 hm hN hn
  go_enter Tryz.func26, Tryz.ntmps26
  go_wp2_with fail
  refine CC.out.mono ?_
  rintro e w1 ⟨Ac, cc, rfl, hT, hb⟩
  have H1 := Lib.hid (And.intro hT hb)
  clear CC hT hb
  have HZ1 := Lib.hid (show GTwo 104 w1 (glsTo (KG T) (KT T) l 0) (ats0 (KG T) (KT T) l 0) none 0 0 none 0 0 w1 by rw [HZ.out.1, HZ.out.2]; exact GTwo.nil _ _)
  clear HZ
  go_wp2
  go_loopw [6, 7, 9] (fun ov av i wr => ∃ (k : Nat) (A1 : Option Addr) (n1 c1 : Nat) (A3 : Option Addr) (c3 : Nat), k ≤ NC ∧ i = .int .i64 k ∧ ov = .slice A1 n1 c1 ∧ av = .slice A3 k c3 ∧ n1 ≤ 20000 ∧ Hid (GTwo 104 w1 (glsTo (KG T) (KT T) l k) (ats0 (KG T) (KT T) l k) A1 n1 c1 A3 k c3 wr)) (fun _ _ i _ => NC - (intOf i).toNat)
  case atStart => exact ⟨0, none, 0, 0, none, 0, Nat.zero_le _, rfl, rfl, rfl, by omega, HZ1⟩
  case round =>
    obtain ⟨k, A1, n1, c1, A3, c3, hk, rfl, rfl, rfl, hn1, H⟩ := hrel
    have HLn := Lib.hid (show (glsTo (KG T) (KT T) l k).length = n1 from own_count encG_len (by decide) H.out.own1)
    have hz := H.out.be.size
    by_cases hlt : k < NC
    · have hf := HF.out k hlt
      obtain ⟨b, o, Aj, nj, cj, rfl, hbb, hcell, htx⟩ := TxtsS.at_ H1.out.1 hf.2.2.2.2
      rw [hf.2.2.2.1] at htx
      obtain ⟨rfl, hli, hlc, hcm⟩ := li_txt htx
      have HG := Lib.hid hf.1
      have HP := Lib.hid (And.intro hli (And.intro hf.2.2.1 (And.intro hlc (And.intro hcm hf.2.1))))
      have hq := HQ.out (k + 1) (by omega)
      have hgl : (glsTo (KG T) (KT T) l (k + 1)).length = n1 + (GY.ofG (KG T) (clusP (KT T) l k)).length := by rw [HG.out, List.length_append, HLn.out]
      obtain ⟨P, hP⟩ : ∃ P, clusP (KT T) l k = P := ⟨_, rfl⟩
      rw [hP] at HP HG hgl hcell
      have CO := Lib.hid (fun (X : World) (hX : Below w1.heap.size w1 X) => rof_any cj X ⟨HR.out.rows.later (bStepS H1.out.2 hX), HR.out.rc, HR.out.rn, HP.out.1.later hX, HP.out.2.1, by have := HP.out.2.2.2.2; have := HNl.out; omega⟩ HP.out.2.2.1 HP.out.2.2.2.1 (by have := HP.out.2.2.2.2; have := HNl.out; omega))
      obtain ⟨R, hR⟩ : ∃ R, GY.ofG (KG T) P = R := ⟨_, rfl⟩
      rw [hR] at HG hgl CO
      have hq2 : n1 + R.length ≤ 20000 := by omega
      have g1 : (k : Int) < (NC : Int) := by omega
      have hkb : b < w1.heap.size := hbb
      obtain ⟨M, hM⟩ : ∃ M, P.length = M := ⟨_, rfl⟩
      rw [hM] at hcell CO
      have HCe := Lib.hid hcell
      clear hf htx hli hlc hcm hP hR hgl hq hcell hM HP
      go_wp2_with (first
        | (at_builtin; refine wpList_push int_elt H.out.own2 hz rfl rfl rfl rfl (by simp) rfl rfl (by unfold maxLen; omega) (by omega) ?_; intro A6 c6 w6 hp; have H6 := Lib.hid (show GTwo 104 w1 (glsTo (KG T) (KT T) l k) (ats0 (KG T) (KT T) l (k + 1)) A1 n1 c1 A6 (k + 1) c6 w6 from by
            rw [ats0_succ, HLn.out]
            exact H.out.right (Below.refl _ _) (by rw [flatL_append]; exact hp)); have hc6 := (H6.out.be.cell (p := ⟨b, o + k, none⟩) hkb).trans HCe.out; clear hp)
        | (go_at_call 20; refine (CO.out _ H6.out.be).mono ?_; rintro e w7 ⟨A7, n7, c7, rfl, ho7, hb7⟩; have hn7 := own_count encG_len (by decide) ho7; have H7 := Lib.hid (And.intro (H6.out.later hb7) (LiV.own encG_len (by decide) ho7)); have hz7 := H7.out.1.be.size; subst hn7; clear ho7 hb7)
        | (at_builtin; refine wpList_li encG_len encG_one rglyph_elt H7.out.1.own1 hz7 rfl rfl rfl rfl H7.out.2 (by unfold maxLen; omega) (by omega) ?_; intro A8 c8 w8 hp; have H8 := Lib.hid (show GTwo 104 w1 (glsTo (KG T) (KT T) l (k + 1)) (ats0 (KG T) (KT T) l (k + 1)) A8 (n1 + R.length) c8 A6 (k + 1) c6 w8 from by
            rw [HG.out]
            exact H7.out.1.left (Below.refl _ _) (by rw [flatL_append]; exact hp)); clear hp))
      go_roundw
      case rel => exact ⟨k + 1, A8, n1 + R.length, c8, A6, c6, by omega, by go_num, rfl, rfl, hq2, H8⟩
      case measure => simp [intOf]; omega
    · obtain rfl : k = NC := by omega
      go_wp2_with (at_builtin; refine wpList_push int_elt H.out.own2 hz rfl rfl rfl rfl (by simp) rfl rfl (by unfold maxLen; omega) (by omega) ?_; intro A6 c6 w6 hp; have H6 := Lib.hid (show GTwo 104 w1 (glsTo (KG T) (KT T) l k) (ats0 (KG T) (KT T) l (k + 1)) A1 n1 c1 A6 (k + 1) c6 w6 from by
            rw [ats0_succ, HLn.out]
            exact H.out.right (Below.refl _ _) (by rw [flatL_append]; exact hp)); clear hp)
      go_ret2
      exact ⟨_, _, _, _, _, _, rfl, H6.out.low H1.out.2⟩
end Go.Proofs.YtlopleeopnnoeaaGreat
