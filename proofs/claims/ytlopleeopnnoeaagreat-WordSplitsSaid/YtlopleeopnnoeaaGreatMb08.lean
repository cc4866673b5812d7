import Derived.Test.YtlopleeopnnoeaaGreatMb07
import Derived.Test.YtlopleeopnnoeaaGreatMb03
import Derived.IntWalk
set_option linter.unusedVariables false
set_option linter.unusedSimpArgs false
namespace Go.Proofs.YtlopleeopnnoeaaGreat.RW
open Go.RowKit
def NxP (w:World)(g m k:Nat):Prop:=∃cs,Blk w g cs∧cs.size=m+1∧∀j,j<k→cs[j]? =some (.int .i64 ((j:Nat):Int))
theorem NxP.cellAny {w:World}{g m k:Nat}(h:NxP w g m k){j:Nat}(hj:j<m+1):∃u,w.cell? ⟨g,j,none⟩=some u:=by
 obtain⟨cs,hB,hs,_⟩:=h
 exact⟨cs[j],by rw [hB.2.1];simp [hs,hj]⟩
theorem NxP.set {w:World}{g m k:Nat}(h:NxP w g m k)(hk:k<m+1):NxP (w.setCell ⟨g,k,none⟩ (.int .i64 ((k:Nat):Int))) g m (k+1):=by
 obtain⟨cs,hB,hs,hc⟩:=h
 refine⟨_,hB.set_ k (by omega) _,by simp [hs],fun j hj=> ?_⟩
 by_cases e:k=j
 ·subst e
  simp [hs,hk]
 ·rw [Array.getElem?_setIfInBounds_ne e]
  exact hc j (by omega)
theorem NxP.done {w:World}{g m:Nat}(h:NxP w g m (m+1)):Nx w g (List.range (m+1)):=by
 obtain⟨cs,hB,hs,hc⟩:=h
 refine⟨cs,hB,fun j hj=> ?_⟩
 simp at hj
 rw [hc j (by omega)]
 simp [List.getD,show j<m+1 by omega]
theorem nextInv_start (m:Nat):NextInv (List.range (m+1)) (fun q=>q∈([]:List Nat)) m:=by
 refine⟨by simp,fun j hj=> ?_⟩
 have e:(List.range (m+1)).getD j 0=j:=by simp [List.getD,show j<m+1 by omega]
 rw [e]
 exact⟨Nat.le_refl _,hj,by simp,fun q a b=>by omega⟩
structure OM (w:World)(S:List Span)(C:List Int)(As:Option Addr)(Ac:Option Addr)(g:Nat)(N:List Nat)(Q:List Nat)(Ap:Option Addr)(np cp:Nat)(X:World):Prop where
 sp:Li 4 encS X (fun b=>b<g) As S
 cu:Li 1 encI X (fun b=>b<g) Ac C
 nx:Nx X g N
 ni:NextInv N (fun q=>q∈Q) C.length
 ow:X.ownsRow (g+1) 97 4 (.slice Ap np cp) np (flatL encS (Q.map (seg S C)))
 be:Below w.heap.size w X
 lo:w.heap.size≤g
 hi:g+1≤X.heap.size
theorem OM.later {w:World}{S:List Span}{C:List Int}{As Ac:Option Addr}{g:Nat}{N Q:List Nat}{Ap:Option Addr}{np cp:Nat}{X Y:World}(h:OM w S C As Ac g N Q Ap np cp X)(hb:Below X.heap.size X Y):OM w S C As Ac g N Q Ap np cp Y:=
 ⟨h.sp.later hb,h.cu.later hb,h.nx.later hb h.nx.lt,h.ni,own_later h.ow hb,h.be.trans (hb.mono h.be.size),h.lo,Nat.le_trans h.hi hb.size⟩
theorem OM.next {w:World}{S:List Span}{C:List Int}{As Ac:Option Addr}{g:Nat}{N N' Q:List Nat}{Ap:Option Addr}{np cp:Nat}{X Y:World}(h:OM w S C As Ac g N Q Ap np cp X)(hg:X.grownBy Y (some g))(hn:Nx Y g N')(hi:NextInv N' (fun q=>q∈Q) C.length):OM w S C As Ac g N' Q Ap np cp Y:=
 ⟨h.sp.grown hg fun b hb e=>by injection e with e;omega,h.cu.grown hg fun b hb e=>by injection e with e;omega,hn,hi,h.ow.kept hg (by
  cases hv:(Value.slice Ap np cp).ownBlock with
  |none=>exact .inl rfl
  |some k=>right;intro e;injection e with e;have:=(h.ow.lt k hv).1;omega),h.be.grown hg h.be.size fun k hk=>by injection hk with hk;rw [←hk];exact h.lo,h.lo,Nat.le_trans h.hi hg.size⟩
theorem OM.push {w:World}{S:List Span}{C:List Int}{As Ac:Option Addr}{g i:Nat}{N Q:List Nat}{Ap A':Option Addr}{np cp c':Nat}{X Y Z:World}{ys:List Value}(h:OM w S C As Ac g N Q Ap np cp X)(hb:Below X.heap.size X Y)
  (hp:Pushed Y Z (g+1) 97 4 (.slice Ap np cp) (np+1) (flatL encS (Q.map (seg S C))++ys) A' c') (hy:encS (seg S C i)=ys) (hi:i+1<C.length) (q:Nat):OM w S C As Ac g (N.set i (i+1)) (Q++[i]) A' (np+1) c' ((Z.drewN q).setCell ⟨g,i,none⟩ (.int .i64 ((i:Int)+1))):=by
 have h1:=h.later hb
 have hg0:Y.grownBy (Z.drewN q) (Value.slice Ap np cp).ownBlock:=⟨hp.grown.os,hp.grown.tape,hp.grown.output,hp.grown.size,hp.grown.block⟩
 have nb:∀b,b<g+1→some b≠(Value.slice Ap np cp).ownBlock:=fun b hb e=>by have:=(h1.ow.lt b e.symm).1;omega
 have hown:(Z.drewN q).ownsRow (g+1) 97 4 (.slice A' (np+1) c') (np+1) (flatL encS ((Q++[i]).map (seg S C))):=by
  rw [List.map_append,flatL_append]
  have:=ownDrew hp.own q
  rw [←hy]at this
  simpa [flatL]using this
 have hz:Below w.heap.size w (Z.drewN q):=h1.be.grown hg0 h1.be.size fun k hk=>by have:=(h1.ow.lt k hk).1;have:=h.lo;omega
 have hs:=grown_set (Z.drewN q) g i (.int .i64 ((i:Int)+1))
 refine⟨(h1.sp.grown hg0 fun b hb=>nb b (by omega)).grown hs fun b hb e=>by injection e with e;omega,(h1.cu.grown hg0 fun b hb=>nb b (by omega)).grown hs fun b hb e=>by injection e with e;omega,(h1.nx.grown hg0 (nb g (by omega))).set i (by rw [h.ni.1];omega) (i+1),h.ni.take (by omega) (by simp),hown.kept hs (by
  cases hv:(Value.slice A' (np+1) c').ownBlock with
  |none=>exact .inl rfl
  |some k=>right;intro e;injection e with e;have:=(hown.lt k hv).1;omega),hz.grown hs hz.size fun k hk=>by injection hk with hk;rw [←hk];exact h.lo,h.lo,?_⟩
 rw [World.size_setCell]
 exact Nat.le_trans h1.hi hg0.size
theorem own_cap {w:World}{base n c size:Nat}{e:TypeId}{A:Option Addr}{xs:List Value}(h:w.ownsRow base e size (.slice A n c) n xs):n≤c:=by
 rcases h.2 with⟨hv,hx⟩|⟨g,cap,cur,hv,_,_,h1,_⟩
 ·omega
 ·injection hv with _ _ e
  subst e
  exact h1
theorem of_keep {Y Z:World}{g b2 B n o2 i np cp c3:Nat}{E:TypeId}{Ap A3:Option Addr}{xs ys:List Value}{u v a b:Value}(hp:Pushed Y Z (g+1) E 4 (.slice Ap np cp) n xs A3 c3)(hown:Y.ownsRow (g+1) E 4 (.slice Ap np cp) np ys)(hb:b2<g)(hg:g+1≤Y.heap.size)(hB:B<Y.heap.size)(hne:some B≠(Value.slice Ap np cp).ownBlock)
  (h0:Y.cell? ⟨b2,o2+i,none⟩=some u) (h1:Y.cell? ⟨b2,o2+(i+1),none⟩=some v) (h2:Y.cell? ⟨B,2,none⟩=some a) (h3:Y.cell? ⟨B,3,none⟩=some b):
  Z.cell? ⟨b2,o2+i,none⟩=some u∧Z.cell? ⟨b2,o2+(i+1),none⟩=some v∧Z.cell? ⟨B,2,none⟩=some a∧Z.cell? ⟨B,3,none⟩=some b:=by
 have n1:some b2≠(Value.slice Ap np cp).ownBlock:=fun e=>by have:=(hown.lt b2 e.symm).1;omega
 have k1:=hp.grown.block b2 (by omega) n1
 have k2:=hp.grown.block B hB hne
 exact⟨(World.cell?_of_block (a:=⟨b2,o2+i,none⟩) k1).trans h0,(World.cell?_of_block (a:=⟨b2,o2+(i+1),none⟩) k1).trans h1,(World.cell?_of_block (a:=⟨B,2,none⟩) k2).trans h2,(World.cell?_of_block (a:=⟨B,3,none⟩) k2).trans h3⟩
theorem _root_.Go.Proofs.YtlopleeopnnoeaaGreat.Pushed.apart {Y Z:World}{base n np cp c3 B:Nat}{E:TypeId}{size:Nat}{Ap A3:Option Addr}{xs:List Value}(hp:Pushed Y Z base E size (.slice Ap np cp) n xs A3 c3)(hB:B<Y.heap.size)(hne:some B≠(Value.slice Ap np cp).ownBlock):some B≠(Value.slice A3 n c3).ownBlock:=by
 intro e
 rcases hp.at_ with h|⟨k,h,hk⟩
 ·exact hne (e.trans h)
 ·rw [h]at e
  injection e with e
  omega
set_option maxHeartbeats 4000000 in
set_option maxRecDepth 100000 in
theorem of_any (A:Option Addr)(c:Nat)(L:List Row)(kind:Int)(w:World)(hL:Li 5 encR w (fun _=>True) A L)(hc:L.length≤c)(hn:L.length≤10000):
  Calls Tryz.prog 61 #[.slice A L.length c,.int .i64 kind] w fun e w'=>∃S,Good kind L S∧TellsO 97 4 encS S w e w':=by
 have C1:=Lib.hid (ofKind_any A c L kind w hL hc (by omega))
 have h0:(ofK kind L).length≤10000:=Nat.le_trans (List.length_filterMap_le _ _) hn
 have hbd:∀s∈ofK kind L,0≤s.f∧s.f≤s.t∧s.t≤MS:=fun s hs=>ofK_bd hs
 obtain⟨S,hS⟩:∃S,ofK kind L=S:=⟨_,rfl⟩
 have HS:=Lib.hid hS
 rw [hS]at C1 h0 hbd
 have HB:=Lib.hid hbd
 clear hL hS hbd
 go_enter Tryz.func61,Tryz.ntmps61
 go_wp2_with fail
 refine C1.out.mono ?_
 rintro e w1 ⟨A1,n1,c1,rfl,ho,hb⟩
 have hl1:=own_count encS_len (by decide) ho
 subst hl1
 have H1:=Lib.hid (And.intro (LiV.own encS_len (by decide) ho) hb)
 clear ho hb C1
 have C2:=Lib.hid (cutsOf_any A1 c1 S w1 (H1.out.1.parts.2.1.mono fun _ _=>trivial) H1.out.1.parts.2.2.2.1 (by omega) HB.out)
 have hC:=Lib.hid (cuts_ok S)
 have hm:(cutsP S).length≤20000:=by have:=sortedOnce_len (ends S);rw [ends_len]at this;unfold cutsP;omega
 have hmL:(cutsP S).length≤2*L.length:=by
  have:=sortedOnce_len (ends S);rw [ends_len]at this
  have h1:S.length≤L.length:=by rw [←HS.out];exact List.length_filterMap_le _ _
  unfold cutsP;omega
 obtain⟨C,hCe⟩:∃C,cutsP S=C:=⟨_,rfl⟩
 rw [hCe]at C2 hC hm hmL
 have HmL:=Lib.hid hmL
 clear hmL
 clear hCe
 go_wp2_with fail
 refine C2.out.mono ?_
 rintro e w2 ⟨A2,n2,c2,rfl,ho,hb⟩
 have hl2:=own_count encI_len (by decide) ho
 subst hl2
 have H2:=Lib.hid (And.intro (LiV.own encI_len (by decide) ho) (And.intro (H1.out.1.old.later hb) (And.intro (H1.out.2.trans (hb.mono H1.out.2.size)) hb.size)))
 clear ho hb C2 H1
 obtain⟨i0,hi0,hz0,hs0,hb0⟩:=info_parts (P:= Tryz.prog) (e:= 3) (z:= .int .i64 0) (size:=1) (bytes:=8) (by kernel_rfl)
 go_wp2_with (at_make;refine wpList_make_full w2 rfl _ _ _ rfl w2.heap.size 3 i0 _ 1 Tryz.underlying37 hi0 hz0 hs0 .i64 .i64 _ _ (C.length+1) rfl rfl rfl rfl (by rw [hb0];omega) (by unfold maxLen;omega) (Nat.le_refl _) ?_;intro w3 hown hg;have HO:=Lib.hid (And.intro hown hg);clear hown hg)
 obtain⟨g',cs,e1,_,hBk,_,_,hsz,_⟩:=own_blk HO.out.1 (by omega)
 injection e1 with e1
 injection e1 with e1
 subst e1
 have hb2:Below w.heap.size w w3:=H2.out.2.2.1.grown HO.out.2 H2.out.2.2.1.size (fun k hk=>by cases hk)
 have hb3:Below w2.heap.size w2 w3:=(Below.refl _ _).grown HO.out.2 (Nat.le_refl _) (fun k hk=>by cases hk)
 have H3:=Lib.hid (show NxP w3 w2.heap.size C.length 0∧Li 4 encS w3 (fun b=>b<w2.heap.size) A1 S∧Li 1 encI w3 (fun b=>b<w2.heap.size) A2 C∧Below w.heap.size w w3∧w2.heap.size+1≤w3.heap.size from
  ⟨⟨cs,hBk,by omega,fun j hj=>absurd hj (by omega)⟩,(H2.out.2.1.parts.2.1.mono fun b hb=>by have:=H2.out.2.2.2;omega).later hb3,(H2.out.1.parts.2.1.old.mono fun b hb=>hb.1).later hb3,hb2,hBk.1⟩)
 have hg:=H2.out.2.2.1.size
 have hcap2:=H2.out.1.parts.2.2.2.1
 have hcap2':=H2.out.1.parts.2.2.2.2
 have hcap1:=H2.out.2.1.parts.2.2.2.1
 have hcap1':=H2.out.2.1.parts.2.2.2.2
 clear hBk hsz hb2 hb3 HO H2
 obtain⟨g,hge⟩:∃g,w2.heap.size=g:=⟨_,rfl⟩
 rw [hge]at H3 hg
 rw [hge]
 have hge:=Lib.hid hge
 go_loopw [8,28] (fun _ i wr=>∃k:Nat,k≤C.length+1∧i= .int .i64 k∧Hid (NxP wr g C.length k∧Li 4 encS wr (fun b=>b<g) A1 S∧Li 1 encI wr (fun b=>b<g) A2 C∧Below w.heap.size w wr∧g+1≤wr.heap.size)) (fun _ i _=>C.length+1 -(intOf i).toNat)
 case atStart=>exact⟨0,Nat.zero_le _,rfl,H3.out⟩
 case round=>
  obtain⟨k,hk,rfl,HN⟩:=hrel
  by_cases hlt:k<C.length+1
  ·obtain⟨u,hcu⟩:=HN.out.1.cellAny hlt
   have hfr:wr.frozen? ⟨g,k,none⟩=false:=by obtain⟨cs,hB,_⟩:=HN.out.1;exact hB.2.2 k
   have hgl:g<wr.heap.size:=HN.out.2.2.2.2
   have HY:=Lib.hid (show NxP (wr.setCell ⟨g,k,none⟩ (.int .i64 (k:Int))) g C.length (k+1)∧Li 4 encS (wr.setCell ⟨g,k,none⟩ (.int .i64 (k:Int))) (fun b=>b<g) A1 S∧Li 1 encI (wr.setCell ⟨g,k,none⟩ (.int .i64 (k:Int))) (fun b=>b<g) A2 C∧Below w.heap.size w (wr.setCell ⟨g,k,none⟩ (.int .i64 (k:Int)))∧g+1≤(wr.setCell ⟨g,k,none⟩ (.int .i64 (k:Int))).heap.size from
    ⟨HN.out.1.set hlt,HN.out.2.1.far (by simp) _,HN.out.2.2.1.far (by simp) _,HN.out.2.2.2.1.setCell hg _,by rw [World.size_setCell];exact HN.out.2.2.2.2⟩)
   clear HN
   go_wp2
   go_roundw
   case rel=>exact⟨k+1,by omega,by go_num,HY.out⟩
   case measure=>simp [intOf];omega
  ·obtain rfl:k=C.length+1:=by omega
   have HM:=Lib.hid (show OM w S C A1 A2 g (List.range (C.length+1)) [] none 0 0 wr from⟨HN.out.2.1,HN.out.2.2.1,HN.out.1.done,nextInv_start _,World.ownsRow_nil _ _ _ _,HN.out.2.2.2.1,hg,HN.out.2.2.2.2⟩)
   clear HN hlt H3
   go_wp2_with fail
   go_loopw [9,11,12,13,14,15,16,38] (fun v _ _ _ _ _ _ i wr=>∃ (j:Nat) (Ap:Option Addr) (np cp:Nat),j≤S.length∧i= .int .i64 j∧v= .slice Ap np cp∧Hid (∃N Q,OM w S C A1 A2 g N Q Ap np cp wr∧OQ C (S.take j) 0 0 Q)) (fun _ _ _ _ _ _ _ i _=>S.length -(intOf i).toNat)
   case atStart=>exact⟨0,none,0,0,Nat.zero_le _,rfl,rfl,_,[],HM.out,OQ.start C⟩
   case round=>
    obtain⟨j,Ap,np,cp,hj,rfl,rfl,HQ⟩:=hrel
    obtain⟨N,Q,hM,hQ⟩:=HQ.out
    have M1:=Lib.hid hM
    have Q1:=Lib.hid hQ
    clear hM hQ HQ HM
    by_cases hlt:j<S.length
    ·obtain⟨x,b,o,hx,rfl,hbl,_,c0,c1',c2',c3⟩:=M1.out.sp.span hlt
     have hxm:x∈S:=List.mem_of_getElem? hx
     have xb:=HB.out x hxm
     have xb1:=xb.1
     have xb2:=xb.2.1
     have xb3:x.t≤1114111:=xb.2.2
     have hf:=count_at hC.out.1 ((hC.out.2 x.f).2 ⟨x,hxm,.inl rfl⟩)
     have ht:=count_at hC.out.1 ((hC.out.2 (x.t+1)).2 ⟨x,hxm,.inr rfl⟩)
     obtain⟨fr,hfe⟩:∃fr,C.countP (fun c=>decide (c<x.f))=fr:=⟨_,rfl⟩
     obtain⟨tt,hte⟩:∃tt,C.countP (fun c=>decide (c<x.t+1))=tt:=⟨_,rfl⟩
     rw [hfe]at hf
     rw [hte]at ht
     have hf1:=hf.1
     have ht1:=ht.1
     have HF:=Lib.hid (And.intro hf (And.intro ht (And.intro hfe hte)))
     have HX:=Lib.hid hx
     clear hx hxm xb hf ht hfe hte
     go_wp2_with fail
     refine atCalls (fun X=>Below wr.heap.size wr X∧Blk X wr.heap.size (encS x).toArray) ⟨(Below.refl _ _).alloc (Nat.le_refl _) _,blk_new _ _ _⟩ ?_
     rintro X ⟨hX,hB⟩
     have l0:X.cell? ⟨wr.heap.size,0,none⟩=some (.int .i64 x.f):=hB.2.1 0
     have l1:X.cell? ⟨wr.heap.size,1,none⟩=some (.int .i64 x.t):=hB.2.1 1
     have KB:=Lib.hid hB
     have M2:=Lib.hid (M1.out.later hX)
     clear hX hB c0 c1' c2' c3
     obtain⟨b2,o2,rfl,hb2,_,hci⟩:=M2.out.cu.ints (by omega)
     have CI:=Lib.hid hci
     have hle:(C.take C.length).Pairwise (· ≤ ·):=by rw [List.take_length];exact hC.out.1.imp fun h=>Int.le_of_lt h
     have s1:=search_ints b2 o2 C.length c2 C x.f X (Nat.le_refl _) (by omega) CI.out hle
     have s2:=fun q=>search_ints b2 o2 C.length c2 C (x.t+1) (X.drewN q) (Nat.le_refl _) (by omega) CI.out hle
     rw [List.take_length,HF.out.2.2.1]at s1
     simp only [List.take_length,HF.out.2.2.2]at s2
     have S1:=Lib.hid s1
     have S2:=Lib.hid s2
     clear s1 s2 hle hci
     refine S1.out.mono ?_
     rintro e w4 ⟨rfl,q4,rfl⟩
     go_wp2_with fail
     refine(S2.out q4).mono ?_
     rintro e w5 ⟨rfl,q5,rfl⟩
     clear S1 S2
     go_wp2_with fail
     refine atCalls (fun Y=>OM w S C (some ⟨b,o,none⟩) (some ⟨b2,o2,none⟩) g N Q Ap np cp Y∧Blk Y wr.heap.size (encS x).toArray∧wr.heap.size<Y.heap.size) ⟨M2.out.later (selfDrew _ _),KB.out,KB.out.1⟩ ?_
     rintro Y ⟨hM,hB,hz⟩
     have hgr:=M1.out.hi
     have R1:=free_any g (C.length+1) C.length fr N (fun q=>q∈Q) Y hM.nx hM.ni (by omega) (by omega)
     have R2:=Lib.hid (R1.mono fun e w' (h:∃ (r:Nat) (N':List Nat),e= .returned (.int .i64 r)∧FreeAt (fun q=>q∈Q) C.length fr r∧NextInv N' (fun q=>q∈Q) C.length∧Nx w' g N'∧Y.grownBy w' (some g))=>
      (show ∃r:Nat,e= .returned (.int .i64 r)∧FreeAt (fun q=>q∈Q) C.length fr r∧(∃N',OM w S C (some ⟨b,o,none⟩) (some ⟨b2,o2,none⟩) g N' Q Ap np cp w')∧Blk w' wr.heap.size (encS x).toArray from by
       obtain⟨r,N',e1,e2,e3,e4,e5⟩:=h
       exact⟨r,e1,e2,⟨N',hM.next e5 e4 e3⟩,hB.grown e5 (fun e=>by injection e with e;omega)⟩))
     clear R1 hM hB M2 CI KB
     refine R2.out.mono ?_
     rintro e w6 ⟨r,rfl,hF,hM,hB⟩
     have G1:=Lib.hid (And.intro hF (And.intro hM hB))
     clear hF hM hB R2
     go_wp2_with fail
     have nb:some wr.heap.size≠(Value.slice Ap np cp).ownBlock:=fun e=>by have:=(M1.out.ow.lt _ e.symm).2;omega
     have NB:=Lib.hid nb
     clear nb
     obtain⟨B,hBe⟩:∃B,wr.heap.size=B:=⟨_,rfl⟩
     rw [hBe]at G1 hz hgr NB
     rw [hBe]
     clear hBe
     go_loopw [9,16] (fun v iv wq=>∃ (i:Nat) (Ap:Option Addr) (np cp:Nat),iv= .int .i64 i∧v= .slice Ap np cp∧fr≤i∧i≤C.length∧Hid (∃N Q,OM w S C (some ⟨b,o,none⟩) (some ⟨b2,o2,none⟩) g N Q Ap np cp wq∧OQ C (S.take j) fr tt Q∧i ∉ Q∧(∀q,fr≤q→q<i→q∈Q)∧Blk wq B (encS x).toArray∧some B≠(Value.slice Ap np cp).ownBlock)) (fun _ iv _=>C.length -(intOf iv).toNat)
     case atStart=>
      obtain⟨⟨f1,f2,f3,f4⟩,⟨N',hM⟩,hB⟩:=G1.out
      exact⟨r,Ap,np,cp,rfl,rfl,f1,f2,N',Q,hM,Q1.out.wide fr tt,f3,f4,hB,NB.out⟩
     case round=>
      obtain⟨i,Ap,np,cp,rfl,rfl,hi1,hi2,HI⟩:=hrel
      obtain⟨N',Q',hM,hQ,hni,hall,hB,hnb⟩:=HI.out
      by_cases hit:i<tt
      ·obtain⟨b',o',e',hb2',hb2lt,hc0⟩:=hM.cu.int (j:=i) (by omega)
       injection e' with e'
       injection e' with x1 x2
       subst x1;subst x2
       obtain⟨b',o',e',_,_,hc1⟩:=hM.cu.int (j:=i+1) (by omega)
       injection e' with e'
       injection e' with x1 x2
       subst x1;subst x2
       have m0:=(hC.out.2 _).1 (cAt_mem (show i<C.length by omega))
       have m1:=(hC.out.2 _).1 (cAt_mem (show i+1<C.length by omega))
       have hxf:x.f≤cAt C i:=by rw [←HF.out.1.2];exact cAt_le hC.out.1 hi1 (by omega)
       have hxt:cAt C i≤x.t:=by have:=cAt_lt hC.out.1 hit ht1;have:=HF.out.2.1.2;omega
       have hSx:S=S.take j++x::S.drop (j+1):=by
        have h1:=List.take_append_drop j S
        rw [List.drop_eq_getElem_cons hlt,(List.getElem?_eq_some_iff.1 HX.out).2]at h1
        exact h1.symm
       have hseg:=hQ.seg (R:=S.drop (j+1)) hni (by omega) hxf hxt
       rw [←hSx]at hseg
       obtain⟨u,hu⟩:∃u,C.getD i 0=u:=⟨_,rfl⟩
       obtain⟨v,hv⟩:∃v,C.getD (i+1) 0=v:=⟨_,rfl⟩
       unfold cAt at m0 m1 hseg hxf hxt
       rw [hu]at hc0 m0 hseg
       rw [hv]at hc1 m1 hseg
       have hvb:0≤v∧v≤1114112:=by
        obtain⟨s,hs,e⟩:=m1
        have:=HB.out s hs
        unfold MS at this
        omega
       have hv0:=hvb.1
       have hv1:=hvb.2
       have hi3:(i:Int)+1<(C.length:Int):=by omega
       have hi4:(i:Int)<(C.length:Int):=by omega
       have hi5:(0:Int)≤(i:Int):=by omega
       have l2:wr.cell? ⟨B,2,none⟩=some (.int .i64 x.a):=hB.2.1 2
       have l3:wr.cell? ⟨B,3,none⟩=some (.int .i64 x.b):=hB.2.1 3
       have hBl:=hB.1
       have hlen:Q'.length=np:=by have:=own_count encS_len (by decide) hM.ow;simpa using this
       have hnp:np≤C.length:=by rw [←hlen];exact hQ.len
       have HM:=Lib.hid (And.intro hM (And.intro hQ (And.intro hni (And.intro hall (And.intro hB (And.intro hseg hnb))))))
       have hca:=hM.cu
       clear hM hQ hni hall hB hnb hseg m0 m1 hvb hxf hxt hSx hu hv HI hlen hca
       have hA1:np+1≤maxLen:=by unfold maxLen;omega
       have hA2:(np+1)*32≤140737488355328:=by omega
       have hi6:(0:Int)≤(i:Int)+1:=by omega
       have hi7:((i:Int)+1).toNat=i+1:=by omega
       have hi8:IntKind.i64.wrap ((i:Int)+1)=(i:Int)+1:=IntWalk.i64_in _ (by omega)
       have hi9:IntKind.i64.wrap (v - 1)=v - 1:=IntWalk.i64_in _ (by omega)
       go_wp2_with fail
       go_region_held3 (fun X=>X.cell? ⟨b2,o2+i,none⟩=some (.int .i64 u)∧X.cell? ⟨b2,o2+(i+1),none⟩=some (.int .i64 v)∧X.cell? ⟨B,2,none⟩=some (.int .i64 x.a)∧X.cell? ⟨B,3,none⟩=some (.int .i64 x.b)) (first|go_keep|exact of_keep hp HM.out.1.ow hb2lt HM.out.1.hi hBl HM.out.2.2.2.2.2.2 hc0 hc1 l2 l3) ((refine step_pushN (cs:=#[.int .i64 u,.int .i64 (v - 1),.int .i64 x.a,.int .i64 x.b]) span_elt HM.out.1.ow HM.out.1.hi (by rfl) (by rfl) (by rfl) (by rfl) (by rfl) (by rfl) (by rfl) (by rfl) hA1 hA2 ?_;intro A3 c3 w3 hp))
       have nn:some g≠(Value.slice Ap np cp).ownBlock:=fun e=>by have:=(HM.out.1.ow.lt g e.symm).1;omega
       have n3:=HM.out.1.nx.grown hp.grown nn
       have n3f:=n3.free i
       have n3l:=n3.lt
       have n3c:=n3.cell (j:=i) (by rw [HM.out.1.ni.1];omega)
       have hB3:Blk w3 B (encS x).toArray:=HM.out.2.2.2.2.1.grown hp.grown HM.out.2.2.2.2.2.2
       have P3:=Lib.hid (show ∀q,OM w S C (some ⟨b,o,none⟩) (some ⟨b2,o2,none⟩) g (N'.set i (i+1)) (Q'++[i]) A3 (np+1) c3 ((w3.drewN q).setCell ⟨g,i,none⟩ (.int .i64 ((i:Int)+1)))∧Blk ((w3.drewN q).setCell ⟨g,i,none⟩ (.int .i64 ((i:Int)+1))) B (encS x).toArray∧some B≠(Value.slice A3 (np+1) c3).ownBlock from fun q=>
        ⟨HM.out.1.push (Below.refl _ _) hp (by rw [HM.out.2.2.2.2.2.1];rfl) (by omega) q,(hB3.drewN q).far (by simp;omega) _,hp.apart hBl HM.out.2.2.2.2.2.2⟩)
       clear hp n3 hB3 nn hi7 hi8 hi9
       go_wp2_with fail
       refine atCalls (fun Z=>OM w S C (some ⟨b,o,none⟩) (some ⟨b2,o2,none⟩) g (N'.set i (i+1)) (Q'++[i]) A3 (np+1) c3 Z∧Blk Z B (encS x).toArray∧some B≠(Value.slice A3 (np+1) c3).ownBlock) (P3.out 0) ?_
       rintro Z ⟨hM,hB,hnb⟩
       have R1:=free_any g (C.length+1) C.length i (N'.set i (i+1)) (fun q=>q∈Q'++[i]) Z hM.nx hM.ni (by omega) (by omega)
       have R2:=Lib.hid (R1.mono fun e w' (h:∃ (r:Nat) (N'':List Nat),e= .returned (.int .i64 r)∧FreeAt (fun q=>q∈Q'++[i]) C.length i r∧NextInv N'' (fun q=>q∈Q'++[i]) C.length∧Nx w' g N''∧Z.grownBy w' (some g))=>
        (show ∃r:Nat,e= .returned (.int .i64 r)∧i<r∧r≤C.length∧(∃N Q,OM w S C (some ⟨b,o,none⟩) (some ⟨b2,o2,none⟩) g N Q A3 (np+1) c3 w'∧OQ C (S.take j) fr tt Q∧r ∉ Q∧(∀q,fr≤q→q<r→q∈Q)∧Blk w' B (encS x).toArray∧some B≠(Value.slice A3 (np+1) c3).ownBlock)from by
         obtain⟨r,N'',e1,⟨e2,e3,e4,e5⟩,e6,e7,e8⟩:=h
         refine⟨r,e1,?_,e3,N'',Q'++[i],hM.next e8 e7 e6,HM.out.2.1.push HM.out.2.2.1 hi1 hit ht1,e4,fun q h1 h2=> ?_,hB.grown e8 (fun e=>by injection e with e;omega),hnb⟩
         ·rcases Nat.lt_or_eq_of_le e2 with h|h
          ·exact h
          ·subst h;exact absurd (by simp) e4
         ·rcases Nat.lt_or_ge q i with h|h
          ·exact List.mem_append_left _ (HM.out.2.2.2.1 q h1 h)
          ·exact e5 q h h2))
       clear R1 hM hB hnb P3
       refine R2.out.mono ?_
       rintro e w7 ⟨r,rfl,hr1,hr2,hR⟩
       have RR:=Lib.hid hR
       clear hR R2
       go_wp2_with fail
       go_roundw
       case rel=>exact⟨r,A3,np+1,c3,rfl,rfl,by omega,hr2,RR.out⟩
       case measure=>simp [intOf];omega
      ·have hD:OQ C (S.take (j+1)) 0 0 Q':=by
        rw [take_snoc' HX.out]
        exact hQ.done hC.out.1 ht1 hf1 HF.out.1.2 HF.out.2.1.2 fun q h1 h2=>hall q h1 (by omega)
       have HM:=Lib.hid (And.intro hM hD)
       clear hM hQ hni hall hB hnb hD HI G1
       go_wp2_with fail
       go_roundw
       case rel=>exact⟨j+1,Ap,np,cp,by omega,by go_num,rfl,N',Q',HM.out.1,HM.out.2⟩
       case measure=>simp [intOf];omega
    ·obtain rfl:j=S.length:=by omega
     rw [List.take_length]at Q1
     have hlen:Q.length=np:=by have:=own_count encS_len (by decide) M1.out.ow;simpa using this
     have hnp:np≤C.length:=by rw [←hlen];exact Q1.out.len
     have T1:=Lib.hid (sortSpans (g+1) np cp Ap (Q.map (seg S C)) wr wr M1.out.ow (Below.refl _ _) M1.out.hi (by omega))
     have hcap:=own_cap M1.out.ow
     go_wp2_with fail
     refine T1.out.mono ?_
     rintro e w8 ⟨rfl,d,hp,hs,hli,hbe,hsz⟩
     have hdl:d.length=np:=by rw [hp.length_eq];simpa using hlen
     obtain⟨Q',hQ',hs',rfl⟩:=segs_sorted hC.out.1 Q1.out hp (hs.imp fun h=>by omega)
     have hgood:=good_of (kind:=kind) (l:=L) (by rw [HS.out];exact hC.out) (by rw [HS.out];exact hQ') hs' (by have h1:=HmL.out;have h2:=hdl;rw [List.length_map]at h2;omega)
     rw [HS.out]at hgood
     have hb8:Below w.heap.size w w8:=M1.out.be.trans (hbe.mono (by have:=M1.out.lo;omega))
     have hR:=segs_rise hC.out (fun q hq=>((hQ' q).1 hq).1) hs'
     have hbd:∀s∈Q'.map (seg S C),0≤s.f∧s.t≤MS:=by
      intro s hs
      obtain⟨q,hq,rfl⟩:=List.mem_map.1 hs
      have hq1:=((hQ' q).1 hq).1
      obtain⟨s1,m1,e1⟩:=(hC.out.2 _).1 (cAt_mem (show q<C.length by omega))
      obtain⟨s2,m2,e2⟩:=(hC.out.2 _).1 (cAt_mem hq1)
      have b1:=HB.out s1 m1
      have b2:=HB.out s2 m2
      simp only [seg]
      omega
     have J1:=joined_any Ap cp (Q'.map (seg S C)) w8 (hli.mono fun _ _=>trivial) (by rw [hdl];exact hcap) (by omega) hR hbd
     rw [hdl]at J1
     have J2:=Lib.hid J1
     have HG:=Lib.hid (And.intro hgood hb8)
     clear J1 hgood hb8 hR hbd hs' hQ' hli hbe hp hs T1 hdl
     go_wp2_with fail
     refine J2.out.mono ?_
     rintro e w9 ⟨A9,n9,c9,rfl,ho,hb⟩
     have HE:=Lib.hid (show ∃S,Good kind L S∧TellsO 97 4 encS S w (.returned (.slice A9 n9 c9)) w9 from⟨_,HG.out.1,A9,n9,c9,rfl,ownLow ho HG.out.2.size,HG.out.2.trans (hb.mono HG.out.2.size)⟩)
     clear ho hb
     go_wp2_with fail
     go_ret
     exact HE.out
end Go.Proofs.YtlopleeopnnoeaaGreat.RW
