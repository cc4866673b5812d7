import Derived.Test.YtlopleeopnnoeaaGreatMb16
set_option linter.unusedVariables false
set_option linter.unusedSimpArgs false
namespace Go.Proofs.YtlopleeopnnoeaaGreat.TK
open Go.RowKit Go.Maps
attribute [local go_sem] Oper.semAt_some
def sl (a:Act)(i:Nat):Value:=a.tmps.getD i undef
theorem wpIn_loop_hid {F:Fence}{n:Nat}{P:Program}{Q:Exit→Act→World→Prop}{a:Act}{w:World}{c:Code}(I:Act→World→Prop)(μ:Act→World→Nat)(h₀:I a w)
  (round:∀ (J:Act→World→Prop) (a:Act) (w:World),I a w→Hid (∀a' w',I a' w'→μ a' w'<μ a w→J a' w')→c.wpIn F n P (Exit.then J Q) a w):(Code.loop c).wpIn F n P Q a w:=
 wpIn_loop I μ h₀ fun a w h=>round _ a w h (Lib.hid fun _ _ h1 h2=>⟨h1,h2⟩)
theorem tile_len {lo hi:Int}{P:List (Pc V3)}(h:Tile lo hi P):(P.length:Int)≤hi - lo:=by
 induction P generalizing lo with
 |nil=>have:lo=hi:=h;simp;omega
 |cons p P ih=>
  obtain⟨h1,h2,h3⟩:=h
  have:=ih h3
  simp
  omega
theorem Tr.lower {base base' tb mb:Nat}{m:Int}{A A2:Option Addr}{n c n2 c2:Nat}{Bs:List (List V3)}{Ix:List Nat}{l:List V3→Option Nat}{W:World}(h:Tr base tb mb m A n c Bs A2 n2 c2 Ix l W)(hb:base'≤base):Tr base' tb mb m A n c Bs A2 n2 c2 Ix l W:=
 ⟨h.cel,ownLow h.bl hb,ownLow h.wh hb,h.kn,h.ok,h.wf,h.len,Nat.le_trans hb h.t0,Nat.le_trans hb h.m0,h.n1,h.n2'⟩
theorem BL.start {w w4:World}{g:Int→V3}{m:Nat}{P:List (Pc V3)}{A:Option Addr}{n c:Nat}(hP:0<P.length)
  (hown:w4.ownsRow (w.heap.size+1+1+1) 145 5 (.slice A n c) n (flatL encP P))
  (hb:Below (w.heap.size+1+1+1) (((w.alloc (.cells #[.int .i64 m,.slice none 0 0,.slice none 0 0] 209)).alloc (.cells #[.pointer (some ⟨w.heap.size,0,none⟩)] 86)).alloc (.map #[] 0)) w4):
  n=P.length∧n≤c∧∃pb,A=some ⟨pb,0,none⟩∧BL w g m P pb A (w.heap.size+1) w.heap.size (w.heap.size+1+1) 0 ⟨none,0,0,none,0,0⟩ [] [] (fun _=>none) [] w4:=by
 have hlen:=own_count encP_len (by decide) hown
 have q0:=blk_new w #[.int .i64 m,.slice none 0 0,.slice none 0 0] 209
 have q1:=Boxed.new (w.alloc (.cells #[.int .i64 m,.slice none 0 0,.slice none 0 0] 209)) 86 (.pointer (some ⟨w.heap.size,0,none⟩))
 have q2:=Kn.made ((w.alloc (.cells #[.int .i64 m,.slice none 0 0,.slice none 0 0] 209)).alloc (.cells #[.pointer (some ⟨w.heap.size,0,none⟩)] 86))
 simp only [World.size_alloc]at q1 q2
 have hLi:=Li.own encP_len (by decide) hown
 obtain⟨pb,hA⟩:∃pb,A=some ⟨pb,0,none⟩:=by
  obtain⟨_,⟨e,e'⟩|⟨g',cap,cur,e,_⟩⟩:=hown
  ·omega
  ·injection e with e;exact⟨g',e⟩
 subst hA
 have hlt:=hown.lt pb rfl
 have hc:n≤c:=by
  obtain⟨_,⟨e,e'⟩|⟨g',cap,cur,e,_,_,h,_⟩⟩:=hown
  ·cases e
  ·injection e with _ _ e;omega
 refine⟨hlen.symm,hc,pb,rfl,⟨⟨?_,World.ownsRow_nil _ _ _ _,World.ownsRow_nil _ _ _ _,?_,LOk.nil,by simp,rfl,Nat.le_refl _,by omega,fun g e=>(by cases e),fun g e=>(by cases e)⟩,?_,?_,?_,?_,rfl,fun j hj=>(by omega),by simp,Nat.le_refl _,by simp,List.nodup_nil⟩⟩
 ·exact((q0.alloc _).alloc _).later hb (by omega)
 ·exact q2.later hb (by omega)
 ·exact(hb.block _ (by omega)).trans (q1.alloc _)
 ·intro j x hj
  obtain⟨b,o,e,hb',_,hcc⟩:=hLi j x hj
  exact⟨b,o,e,hb',(by injection e with e;injection e with e;exact e.symm),hcc⟩
 ·rintro q (h|h|h|h)
  ·omega
  ·omega
  ·cases h
  ·cases h
 ·exact(belPush (belPush (belAlloc _ _) _) _).trans (hb.mono (by omega))
set_option maxRecDepth 100000 in
set_option maxHeartbeats 8000000 in
theorem build_in (m:Nat)(z:V3)(A:Option Addr)(n c:Nat)(L:List (Pc V3))(w0:World)(hL:LiV 5 encP w0 (fun _=>True) (.slice A n c) L)(hn:L.length≤10000)(hm1:1≤m)(hm:m≤10000000)(hg:∀r,WV (pval L z r)):
  CallsIn Fence.wide 9 Tryz.prog 101 #[.int .i64 m,vV z,.slice A n c] w0 (Built (pval L z) m w0):=by
 have hro:Fence.wide.round=none:=rfl
 have h1:1≤9:=by omega
 have HL0:=Lib.hid hL
 have HG:=Lib.hid hg
 clear hL hg
 refine callsIn_of_wp_marks Tryz.func101 rfl trivial ?_ hro
 simp only [Tryz.ntmps101,List.size_toArray,List.length_cons,List.length_nil,Nat.reduceAdd,Nat.reduceSub,Array.replicate_succ,Array.replicate_zero,List.push_toArray,List.append_toArray,List.nil_append,List.cons_append]
 have d1:decide ((m:Int)<1)=false:=decide_eq_false (by omega)
 have d2:decide ((2147483647:Int)<(m:Int))=false:=decide_eq_false (by omega)
 have hmm:= @run_makeMap Tryz.prog
 have e1:IntKind.i64.wrap ((m:Int) - 1)=(m:Int) - 1:=IntWalk.i64_in _ (by omega)
 have e2:((m:Int) - 1).tdiv 128=((m - 1)/128:Nat):=by rw [Int.tdiv_eq_ediv_of_nonneg (by omega)];omega
 have e3:IntKind.i64.wrap (((m - 1)/128:Nat):Int)=(((m - 1)/128:Nat):Int):=IntWalk.i64_in _ (by omega)
 have e4:(((m - 1)/128:Nat):Int)+1=(cntB m:Nat):=by unfold cntB;omega
 have e5:IntKind.i64.wrap ((cntB m:Nat):Int)=((cntB m:Nat):Int):=IntWalk.i64_in _ (by unfold cntB;omega)
 gi_upto_region 1 with fail
 refine at_world (fun X=>Below w0.heap.size w0 X∧Blk X w0.heap.size (encV z).toArray) ⟨belAlloc _ _,blk_new _ _ _⟩ ?_
 intro w hw
 have HL:=Lib.hid (HL0.out.later hw.1)
 have HZ:=Lib.hid hw
 have hzl:w0.heap.size<w.heap.size:=hw.2.1
 have z0:w.cell? ⟨w0.heap.size,0,none⟩=some (.bool z.1):=hw.2.2.1 0
 have z1:w.cell? ⟨w0.heap.size,1,none⟩=some (.bool z.2.1):=hw.2.2.1 1
 have z2:w.cell? ⟨w0.heap.size,2,none⟩=some (.bool z.2.2):=hw.2.2.1 2
 have hzl1:w0.heap.size<w.heap.size+1:=by omega
 have hzl2:w0.heap.size<w.heap.size+1+1:=by omega
 clear hw HL0
 gi_wp2_with fail
 refine⟨trivial,?_⟩
 clear z0 z1 z2 hzl1 hzl2
 refine(callsIn_wide.2 (flat_any m z A n c L _ (HL.out.later (belPush (belPush (belAlloc _ _) _) _)) hn hm1 (by omega))).mono ?_
 rintro e w4 ⟨P,hF,hPl0,pA,pn,pc,rfl,hown,hb⟩
 simp only [World.size_alloc]at hown hb
 have hP:0<P.length:=by
  cases P with
  |nil=>have:=hF.tile;simp [Tile]at this;omega
  |cons p P=>simp
 obtain⟨rfl,hpc,pb,rfl,hBL⟩:=BL.start (g:=pval L z) hP hown hb
 have HB:=Lib.hid hBL
 have HF:=Lib.hid hF
 have hPl:P.length≤100000:=hPl0
 have e6:((m - 1:Nat):Int)/128+1=(cntB m:Nat):=by unfold cntB;omega
 clear hBL hown hb hF hmm
 gi_wp2_with fail
 refine wpIn_loop_hid (fun a' wr=>∃ (k at_:Nat) (hd:Hd) (Bs:List (List V3)) (Ix:List Nat) (l:List V3→Option Nat),a'={tmps:=#[.int .i64 (m:Int),vV z,.slice A n c,undef,.pointer (some ⟨w0.heap.size,0,none⟩),undef,.pointer none,.pointer (some ⟨w.heap.size+1,0,none⟩),.map (some (w.heap.size+1+1)),.slice (some ⟨pb,0,none⟩) P.length pc,.int .i64 (cntB m:Nat),.int .i64 (at_:Nat),.int .i64 (k:Nat),sl a' 13,sl a' 14,sl a' 15,sl a' 16,sl a' 17,sl a' 18,sl a' 19,sl a' 20,sl a' 21,sl a' 22,sl a' 23,sl a' 24,sl a' 25,sl a' 26,sl a' 27,sl a' 28,sl a' 29,sl a' 30,sl a' 31,sl a' 32,sl a' 33,sl a' 34,sl a' 35,sl a' 36,sl a' 37,sl a' 38,sl a' 39,sl a' 40,sl a' 41,sl a' 42,sl a' 43,sl a' 44,sl a' 45,sl a' 46,sl a' 47,sl a' 48,sl a' 49,sl a' 50,sl a' 51,sl a' 52,sl a' 53,sl a' 54,sl a' 55,sl a' 56,sl a' 57,sl a' 58,sl a' 59,sl a' 60,sl a' 61,sl a' 62,sl a' 63,sl a' 64,sl a' 65,sl a' 66,sl a' 67,sl a' 68,sl a' 69,sl a' 70,sl a' 71,sl a' 72,sl a' 73,sl a' 74,sl a' 75,sl a' 76,sl a' 77,sl a' 78,sl a' 79,sl a' 80,sl a' 81,sl a' 82,sl a' 83,sl a' 84,sl a' 85,sl a' 86,sl a' 87,sl a' 88,sl a' 89,sl a' 90,sl a' 91,sl a' 92],defers:=a'.defers}∧k≤cntB m∧(∃x,P[at_]? =some x∧x.f≤((k*128:Nat):Int))∧Hid (BL w (pval L z) m P pb (some ⟨pb,0,none⟩) (w.heap.size+1) w.heap.size (w.heap.size+1+1) k hd Bs Ix l a'.defers wr)) (fun a' _=>cntB m -(intOf (a'.tmps.getD 12 undef)).toNat) ?_ ?_
 ·have h0:P[0]? =some P[0]:=List.getElem?_eq_getElem hP
  exact⟨0,0,_,_,_,_,rfl,Nat.zero_le _,⟨_,h0,by have:=tile_first HF.out.tile h0;simp;omega⟩,HB.out⟩
 ·rintro J a0 wr ⟨k,at_,hd,Bs,Ix,l,ea,hk,⟨x,hx,hxf⟩,HI⟩ HJ0
  have HJ:=Lib.hid (show ∀a' w',_→_<cntB m - k→J a' w' from fun a' w' h1 h2=>HJ0.out a' w' h1 (by rw [ea];exact h2))
  clear HJ0
  rw [ea]
  clear ea
  generalize a0.defers=ds at HI ⊢
  clear HB
  by_cases hlt:k<cntB m
  ·have hk2:=(cnt_lt hm1).1 hlt
   have g1:decide ((k:Int)<((cntB m:Nat):Int))=true:=decide_eq_true (by omega)
   have v1:IntKind.i64.wrap ((k:Int)*128)=(k:Int)*128:=IntWalk.i64_in _ (by omega)
   have HX:=Lib.hid (And.intro hx hxf)
   clear hx hxf
   gi_wp2_with fail
   gi_loopw [11] (fun v W'=>∃a:Nat,v= .int .i64 a∧W'=wr∧Hid (∃y,P[a]? =some y∧y.f≤((k*128:Nat):Int))) (fun v _=>P.length -(intOf v).toNat)
   case atStart=>exact⟨at_,rfl,rfl,Lib.hid ⟨_,HX.out⟩⟩
   case round=>
    obtain⟨a,rfl,rfl,HA⟩:=hrel
    obtain⟨y,hy,hyf⟩:=HA.out
    clear HA HX
    have ha:a<P.length:=(List.getElem?_eq_some_iff.1 hy).1
    obtain⟨y',b',o',hy',e,hpb,_,_,c1',c2'⟩:=HI.out.pcs.pieceK ha
    injection e with e
    injection e with e e'
    subst e;subst e'
    obtain rfl:y'=y:=Option.some.inj (hy'.symm.trans hy)
    clear hy'
    rw [Nat.zero_add]at c1' c2'
    have hbd:=tile_bd HF.out.tile (List.mem_of_getElem? hy)
    have i0:(0:Int)≤(a:Int):=by omega
    have i1:(a:Int)<(P.length:Int):=by omega
    have i2:IntKind.i64.wrap ((a:Int)+1)=(a:Int)+1:=IntWalk.i64_in _ (by omega)
    by_cases hty:y'.t<(k:Int)*128
    ·have g2:decide (y'.t<(k:Int)*128)=true:=decide_eq_true hty
     have hmore:a+1<P.length:=by
      rcases Nat.lt_or_ge (a+1) P.length with h|h
      ·exact h
      ·have:=tile_last HF.out.tile hy h;omega
     have hnx:P[a+1]? =some P[a+1]:=List.getElem?_eq_getElem hmore
     have hn2:=tile_next HF.out.tile hy hnx
     have HN:=Lib.hid (show ∃y,P[a+1]? =some y∧y.f≤((k*128:Nat):Int)from⟨_,hnx,by omega⟩)
     clear hnx hn2 hy
     gi_wp2_with fail
     go_roundw
     case rel=>exact⟨a+1,by first|rfl|simp,by first|rfl|trivial,HN⟩
     case measure=>simp [intOf];omega
    ·have g2:decide (y'.t<(k:Int)*128)=false:=decide_eq_false hty
     have HY:=Lib.hid hy
     clear hy
     gi_upto_region 13 with fail
     rename_i K18 h18 K14 h14
     have tail:∀ (en:Nat) (v14 v34 v35 v36 v37 v38 v39 v40 v41 v42 v43 v44 v45 v46 v47 v48 v49 v50 v51 v52 v53 v54 v55 v56 v57 v58 v59 v60 v61 v62 v63 v64 v65 v66 v67:Value),(k<en∧en≤cntB m∧∀j,k≤j→j<en→bk (pval L z) m j=bk (pval L z) m k)→K18 {tmps:=#[.int .i64 (m:Int),vV z,.slice A n c,undef,.pointer (some ⟨w0.heap.size,0,none⟩),undef,.pointer none,.pointer (some ⟨w.heap.size+1,0,none⟩),.map (some (w.heap.size+1+1)),.slice (some ⟨pb,0,none⟩) P.length pc,.int .i64 (cntB m:Nat),.int .i64 (a:Nat),.int .i64 (k:Nat),.int .i64 (en:Nat),v14,sl a0 15,sl a0 16,sl a0 17,sl a0 18,sl a0 19,sl a0 20,sl a0 21,sl a0 22,sl a0 23,sl a0 24,sl a0 25,sl a0 26,sl a0 27,sl a0 28,sl a0 29,sl a0 30,sl a0 31,sl a0 32,sl a0 33,v34,v35,v36,v37,v38,v39,v40,v41,v42,v43,v44,v45,v46,v47,v48,v49,v50,v51,v52,v53,v54,v55,v56,v57,v58,v59,v60,v61,v62,v63,v64,v65,v66,v67,sl a0 68,sl a0 69,sl a0 70,sl a0 71,sl a0 72,sl a0 73,sl a0 74,sl a0 75,sl a0 76,sl a0 77,sl a0 78,sl a0 79,sl a0 80,sl a0 81,sl a0 82,sl a0 83,sl a0 84,sl a0 85,sl a0 86,sl a0 87,sl a0 88,sl a0 89,sl a0 90,sl a0 91,sl a0 92],defers:=ds} wr:=by
      rintro en v14 v34 v35 v36 v37 v38 v39 v40 v41 v42 v43 v44 v45 v46 v47 v48 v49 v50 v51 v52 v53 v54 v55 v56 v57 v58 v59 v60 v61 v62 v63 v64 v65 v66 v67 ⟨he1,he2,he3⟩
      have HE:=Lib.hid he3
      clear he3
      refine h18 _ _ ?_
      clear h18 h14
      dsimp only
      have hap:=HI.out.ap
      have hnx:¬OwH w.heap.size (w.heap.size+1+1) hd (w.heap.size+1):=fun h=>(hap _ h).1 rfl
      have hxl:=Boxed.lt HI.out.box
      have hlb:=HI.out.lb
      have hcb:cntB m≤100000:=by unfold cntB;omega
      have hcast:((k*128:Nat):Int)=(k:Int)*128:=by simp
      have HBk:=Lib.hid (show ∀Z,Below wr.heap.size wr Z→Calls Tryz.prog 151 #[.slice (some ⟨pb,a*5,none⟩) (P.length - a) (pc - a),.int .i64 ((k:Int)*128)] Z (fun e w'=>e= .returned (bv (bk (pval L z) m k))∧Below Z.heap.size Z w')from fun Z hZ=>by
       have:=block_any (some ⟨pb,a*5,none⟩) (pc - a) (P.drop a) (pval L z) y'.f m ((k:Int)*128) Z (((HI.out.pcs.mono (fun _ _=>trivial)).droppedK a).later hZ) (HF.out.tile.droppedK HY.out) (HF.out.vals.droppedK a) (by rw [List.length_drop];omega) (by rw [List.length_drop];omega) (by rw [List.length_drop];omega) (by omega) (by omega) (by omega) (by omega)
       rw [List.length_drop]at this
       refine this.mono ?_
       rintro e w' ⟨rfl,hb⟩
       exact⟨by unfold bk;rw [hcast];rfl,hb⟩)
      have HIn:=Lib.hid (show ∀Z,Below wr.heap.size wr Z→Calls Tryz.prog 150 #[.pointer (some ⟨w.heap.size,0,none⟩),.map (some (w.heap.size+1+1)),bv (bk (pval L z) m k)] Z (Interned w.heap.size w.heap.size (w.heap.size+1+1) m hd Bs Ix (bk (pval L z) m k) Z)from fun Z hZ=>intern_any (HI.out.tr.later hZ) _ (bk_wf HG.out m k) (by omega))
      clear hap
      have s1:a≤P.length:=by omega
      have s2:¬pc=a:=by omega
      gi_upto_region 18 with fail
      refine wpIn_wide.2 ?_
      rename_i K19 h19
      have mid:∀ (i ib:Nat) (hd':Hd) (Bs':List (List V3)) (l':List V3→Option Nat) (W6:World) (v68 v69 v70 v71 v72 v73 v74 v75 v76:Value),MidI w.heap.size w.heap.size (w.heap.size+1+1) m hd Bs Ix (bk (pval L z) m k) (w.heap.size+1) wr i ib hd' Bs' l' W6→K19 {tmps:=#[.int .i64 (m:Int),vV z,.slice A n c,undef,.pointer (some ⟨w0.heap.size,0,none⟩),undef,.pointer none,.pointer (some ⟨w.heap.size+1,0,none⟩),.map (some (w.heap.size+1+1)),.slice (some ⟨pb,0,none⟩) P.length pc,.int .i64 (cntB m:Nat),.int .i64 (a:Nat),.int .i64 (k:Nat),.int .i64 (en:Nat),v14,.pointer (some ⟨ib,0,none⟩),sl a0 16,sl a0 17,sl a0 18,sl a0 19,sl a0 20,sl a0 21,sl a0 22,sl a0 23,sl a0 24,sl a0 25,sl a0 26,sl a0 27,sl a0 28,sl a0 29,sl a0 30,sl a0 31,sl a0 32,sl a0 33,v34,v35,v36,v37,v38,v39,v40,v41,v42,v43,v44,v45,v46,v47,v48,v49,v50,v51,v52,v53,v54,v55,v56,v57,v58,v59,v60,v61,v62,v63,v64,v65,v66,v67,v68,v69,v70,v71,v72,v73,v74,v75,v76,sl a0 77,sl a0 78,sl a0 79,sl a0 80,sl a0 81,sl a0 82,sl a0 83,sl a0 84,sl a0 85,sl a0 86,sl a0 87,sl a0 88,sl a0 89,sl a0 90,sl a0 91,sl a0 92],defers:=ds} W6:=by
       intro i ib hd' Bs' l' W6 v68 v69 v70 v71 v72 v73 v74 v75 v76 hM
       have HM:=Lib.hid hM
       clear hM
       refine h19 _ _ ?_
       clear h19
       dsimp only
       have hw6:=HM.out.tr
       have q1:=Boxed.new W6 3 (.int .i64 (k:Nat))
       have q2:=Boxed.new (W6.alloc (.cells #[.int .i64 (k:Nat)] 3)) 3 (.int .i64 (en:Nat))
       rw [World.size_alloc]at q2
       obtain⟨X,hX⟩:∃X,(W6.alloc (.cells #[.int .i64 (k:Nat)] 3)).alloc (.cells #[.int .i64 (en:Nat)] 3)=X:=⟨_,rfl⟩
       have hXs:X.heap.size=W6.heap.size+1+1:=by rw [←hX];simp
       have hXb:Below W6.heap.size W6 X:=by rw [←hX];exact belPush (belAlloc _ _) _
       have hXS:S2 (w.heap.size+1) w.heap.size ib i X:=by rw [←hX];exact(HM.out.s2.alloc _).alloc _
       have cc1:X.cell? ⟨W6.heap.size,0,none⟩=some (.int .i64 (k:Nat)):=by rw [←hX];exact Boxed.cell (Boxed.alloc q1 _)
       have cc2:X.cell? ⟨W6.heap.size+1,0,none⟩=some (.int .i64 ((k:Nat)+((en - k:Nat):Int))):=by rw [←hX,show ((k:Nat):Int)+((en - k:Nat):Int)=(en:Nat)by omega];exact Boxed.cell q2
       clear q1 q2
       gi_wp2_with fail
       refine⟨trivial,?_⟩
       refine(numbers_in Fence.wide 8 trivial hro _ _ _).mono ?_
       rintro e wn ⟨rfl,rfl⟩
       rw [hX]
       clear hX
       have hnb:¬OwH w.heap.size (w.heap.size+1+1) hd' (w.heap.size+1):=fun h=>by
        rcases HM.out.how _ h with h'|h'
        ·exact hnx h'
        ·omega
       have htn:=HM.out.tn.size
       have hib:=Boxed.lt HM.out.s2.2
       gi_wp2_with fail
       refine wpIn_rangeBox hro h1 (gf:= 158) (lb:=#[.pointer (some ⟨W6.heap.size,0,none⟩),.pointer (some ⟨W6.heap.size+1,0,none⟩)]) rfl trivial (enters_of Tryz.func158 (by kernel_rfl) rfl)
        (numbers_seq Fence.wide (9 - 1) trivial hro (by omega) W6.heap.size (W6.heap.size+1) k (en - k) (by omega) (by omega) X (by omega) (by omega) cc1 cc2) (fun _=>rfl)
        (OwH w.heap.size (w.heap.size+1+1) hd') ?hO (RgI X w.heap.size w.heap.size (w.heap.size+1+1) m hd'.A hd'.n hd'.c Bs' Ix l' (w.heap.size+1) ib i (OwH w.heap.size (w.heap.size+1+1) hd'))
        (RgM X w.heap.size w.heap.size (w.heap.size+1+1) m hd'.A hd'.n hd'.c Bs' Ix l' (w.heap.size+1) ib i (OwH w.heap.size (w.heap.size+1+1) hd') (en - k) fun x=>{tmps:=#[.int .i64 (m:Int),vV z,.slice A n c,undef,.pointer (some ⟨w0.heap.size,0,none⟩),undef,.pointer none,.pointer (some ⟨w.heap.size+1,0,none⟩),.map (some (w.heap.size+1+1)),.slice (some ⟨pb,0,none⟩) P.length pc,.int .i64 (cntB m:Nat),.int .i64 (a:Nat),.int .i64 (k:Nat),.int .i64 (en:Nat),v14,.pointer (some ⟨ib,0,none⟩),sl a0 16,sl a0 17,sl a0 18,sl a0 19,sl a0 20,sl a0 21,sl a0 22,sl a0 23,sl a0 24,sl a0 25,sl a0 26,sl a0 27,sl a0 28,sl a0 29,sl a0 30,sl a0 31,sl a0 32,sl a0 33,v34,v35,v36,v37,v38,v39,v40,v41,v42,v43,v44,v45,v46,v47,v48,v49,v50,v51,v52,v53,v54,v55,v56,v57,v58,v59,v60,v61,v62,v63,v64,v65,v66,v67,v68,v69,v70,v71,v72,v73,v74,v75,v76,.int .i64 (k:Nat),.int .i64 (en:Nat),.func (.func 158) #[] #[.pointer (some ⟨W6.heap.size,0,none⟩),.pointer (some ⟨W6.heap.size+1,0,none⟩)],.int .i64 ((k:Int)+(x:Int)),sl a0 81,sl a0 82,sl a0 83,sl a0 84,sl a0 85,sl a0 86,sl a0 87,sl a0 88,sl a0 89,sl a0 90,sl a0 91,sl a0 92],defers:=[]})
        (RgI.bears (by omega) (by omega)) (RgM.bears (by omega) (by omega)) ?start ?assign ?body ?done
       case hO=>
        intro q hq
        have:=(hw6.low q hq).2
        exact⟨by omega,by rintro(h|h)<;>omega⟩
       case start=>exact⟨hd'.A2,hd'.n2,hd'.c2,by simpa using hw6.later hXb,hXS,fun _=>Iff.rfl,fun _ h=> .inl h,⟨rfl,rfl,rfl,Nat.le_refl _,fun _ _ _=>rfl⟩⟩
       case assign=>
        rintro lp pre O x W hI hO hN
        simp only [encNum]
        gi_wp2
        refine⟨World.grownBy.refl _ _,O,fun q h=> .inl h,hO,hI,hN,?_⟩
        dsimp only
        go_simp
       case body=>
        rintro lp pre O x a' W ⟨⟨A2,n2,c2,t,s,o,o2,u⟩,⟨hpre,hx⟩,hact⟩ hWs hlt7
        dsimp only at t s o o2 u hpre hx hact
        subst hact
        have hol:∀q,¬OwH w.heap.size (w.heap.size+1+1) hd' q→q<X.heap.size→¬O q:=fun q h1 h2 h=>by
         rcases o2 q h with h'|h'
         ·exact h1 h'
         ·omega
        have hbo:¬Ow w.heap.size (w.heap.size+1+1) hd'.A hd'.n hd'.c A2 n2 c2 (w.heap.size+1):=fun h=>hol _ hnb (by omega) ((o _).2 h)
        have hio:¬Ow w.heap.size (w.heap.size+1+1) hd'.A hd'.n hd'.c A2 n2 c2 ib:=fun h=>hol _ HM.out.nib (by omega) ((o _).2 h)
        have hnn:=own_count (enc:=encN) (fun _=>rfl) (Nat.zero_lt_one) t.wh
        have hixk:=HI.out.ix
        rw [List.length_append,List.length_replicate,hixk,hpre,List.length_range]at hnn
        have HT:=Lib.hid t
        have HSg:=Lib.hid s
        have HO:=Lib.hid (And.intro o (And.intro o2 u))
        have hbsz:w.heap.size≤W.heap.size:=Nat.le_trans t.t0 (Nat.le_of_lt t.cel.1)
        obtain⟨y0,k0,j0⟩:=(show Blk _ _ _ from t.cel)
        have k2:W.drew.cell? ⟨w.heap.size,2,none⟩=some (.slice A2 n2 c2):=k0 2
        have k3:W.cell? ⟨w.heap.size,2,none⟩=some (.slice A2 n2 c2):=k0 2
        have y0d:w.heap.size<W.drew.heap.size:=y0
        clear t s o o2 u k0 hol hpre j0
        gi_upto_region 20 with fail
        refine wpIn_region_any (by kernel_rfl) (any_inRound lp rfl (no_defer (by kernel_rfl)) _ _ _ _ (anyIn_of (by rintro⟨a,w,h⟩;exact h) _ _ _ _ (wpAny_of_held (S:=S2 (w.heap.size+1) w.heap.size ib i) _ _ _ _ ?_)))
        change wpAnyH _ _ _ _ _ _ _ _ (World.drew _)
        refine wpAnyH_take (i:=0) (oi:=⟨some 81,.load 86 (.tmp 7),86,"trie.go:60",#[],none⟩) (v:= ?_) rfl (by kernel_rfl) (by kernel_rfl) (by kernel_rfl) (fun _ _ _ h=>h) (Or.inl ⟨by rfl,?_⟩) (by first|exact HSg.out.drew|exact HSg.out.alloc _|exact(HSg.out.alloc _).drew|exact HS3.out|exact HS3.out.set (fun e=>hbo (.inl e)) (fun e=>hio (.inl e)) _) ?_
        rotate_left
        ·intro Z hZ;obtain⟨z1,z2⟩:=hZ;have z1:=Boxed.cell z1;have z2:=Boxed.cell z2;go_simp;try with_reducible rfl
        simp only [Act.put,List.setIfInBounds_toArray,List.set_cons_zero,List.set_cons_succ]
        refine wpAnyH_take (i:=1) (oi:=⟨some 82,.load 86 (.tmp 7),86,"trie.go:60",#[],none⟩) (v:= ?_) rfl (by kernel_rfl) (by kernel_rfl) (by kernel_rfl) (fun _ _ _ h=>h) (Or.inl ⟨by rfl,?_⟩) (by first|exact HSg.out.drew|exact HSg.out.alloc _|exact(HSg.out.alloc _).drew|exact HS3.out|exact HS3.out.set (fun e=>hbo (.inl e)) (fun e=>hio (.inl e)) _) ?_
        rotate_left
        ·intro Z hZ;obtain⟨z1,z2⟩:=hZ;have z1:=Boxed.cell z1;have z2:=Boxed.cell z2;go_simp;try with_reducible rfl
        simp only [Act.put,List.setIfInBounds_toArray,List.set_cons_zero,List.set_cons_succ]
        refine wpAnyH_take (i:=2) (oi:=⟨some 83,.nilCheck (.tmp 82),0,"trie.go:60",#[⟨1,.data⟩],none⟩) (v:= ?_) rfl (by kernel_rfl) (by kernel_rfl) (by kernel_rfl) (fun _ _ _ h=>h) (Or.inl ⟨by rfl,?_⟩) (by first|exact HSg.out.drew|exact HSg.out.alloc _|exact(HSg.out.alloc _).drew|exact HS3.out|exact HS3.out.set (fun e=>hbo (.inl e)) (fun e=>hio (.inl e)) _) ?_
        rotate_left
        ·intro Z hZ;clear hZ;go_simp;try with_reducible rfl
        simp only [Act.put,List.setIfInBounds_toArray,List.set_cons_zero,List.set_cons_succ]
        refine wpAnyH_take (i:=3) (oi:=⟨some 84,.fieldAddr 209 (.tmp 83) 2,0,"trie.go:60",#[⟨2,.data⟩],none⟩) (v:= ?_) rfl (by kernel_rfl) (by kernel_rfl) (by kernel_rfl) (fun _ _ _ h=>h) (Or.inl ⟨by rfl,?_⟩) (by first|exact HSg.out.drew|exact HSg.out.alloc _|exact(HSg.out.alloc _).drew|exact HS3.out|exact HS3.out.set (fun e=>hbo (.inl e)) (fun e=>hio (.inl e)) _) ?_
        rotate_left
        ·intro Z hZ;clear hZ;go_simp;try with_reducible rfl
        simp only [Act.put,List.setIfInBounds_toArray,List.set_cons_zero,List.set_cons_succ]
        refine wpAnyH_take (i:=5) (oi:=⟨some 86,.load 21 (.tmp 15),21,"trie.go:60",#[],none⟩) (v:= ?_) rfl (by kernel_rfl) (by kernel_rfl) (by kernel_rfl) (fun _ _ _ h=>h) (Or.inl ⟨by rfl,?_⟩) (by first|exact HSg.out.drew|exact HSg.out.alloc _|exact(HSg.out.alloc _).drew|exact HS3.out|exact HS3.out.set (fun e=>hbo (.inl e)) (fun e=>hio (.inl e)) _) ?_
        rotate_left
        ·intro Z hZ;obtain⟨z1,z2⟩:=hZ;have z1:=Boxed.cell z1;have z2:=Boxed.cell z2;go_simp;try with_reducible rfl
        simp only [Act.put,List.setIfInBounds_toArray,List.set_cons_zero,List.set_cons_succ]
        refine wpAnyH_all (rs:=[4,6]) (by kernel_rfl) (by simp) (List.forall_mem_cons.2 ⟨wpOp_some (o:=⟨some 85,.load 22 (.tmp 84),22,"trie.go:60",#[⟨3,.data⟩],none⟩) rfl (by rfl) (fun J hJ=> ?_),(List.forall_mem_cons.2 ⟨wpOp_some (o:=⟨some 87,.buildSlice 22 1 #[(0,.tmp 86)],22,"trie.go:60",#[⟨5,.data⟩],none⟩) rfl (by rfl) (fun J hJ=> ?_),(by simp)⟩)⟩)
        ·go_simp;refine hJ _ _ ⟨by first|exact HSg.out.drew|exact HSg.out.alloc _|exact(HSg.out.alloc _).drew|exact HS3.out|exact HS3.out.set (fun e=>hbo (.inl e)) (fun e=>hio (.inl e)) _,?_⟩;clear hJ J
         refine wpAnyH_all (rs:=[6]) (by kernel_rfl) (by simp) (List.forall_mem_cons.2 ⟨wpOp_some (o:=⟨some 87,.buildSlice 22 1 #[(0,.tmp 86)],22,"trie.go:60",#[⟨5,.data⟩],none⟩) rfl (by rfl) (fun J hJ=> ?_),(by simp)⟩)
         go_simp;refine hJ _ _ ⟨by first|exact HSg.out.drew|exact HSg.out.alloc _|exact(HSg.out.alloc _).drew|exact HS3.out|exact HS3.out.set (fun e=>hbo (.inl e)) (fun e=>hio (.inl e)) _,?_⟩;clear hJ J
         refine wpAnyH_all (rs:=[7]) (by kernel_rfl) (by simp) (List.forall_mem_cons.2 ⟨wpOp_some (o:={dst:=some 88,op:=Go.Op.call {callee:=Go.Callee.builtin Go.Builtin.append,args:=#[Go.Operand.tmp 85,Go.Operand.tmp 87],argTypes:=#[22,22]},type:= 22,pos:= "trie.go:60",after:=#[⟨4,.data⟩,⟨6,.data⟩],guard:=none}) rfl (by rfl) (fun J hJ=> ?_),(by simp)⟩)
         refine wp_pushN (w0:=W) (cs:=#[.int .i32 i]) id_elt HT.out.wh hbsz rfl rfl rfl rfl rfl rfl rfl rfl (by unfold maxLen;omega) (by omega) ?_;intro A3 c3 w3 hp;have HE3:=Lib.hid (HT.out.snoc hp);have hb3:=HT.out.cel.grown hp.grown (fun e=>HT.out.n2' _ e.symm rfl);have z0:=hb3.1;have z1:w3.cell? ⟨w.heap.size,2,none⟩=some (.slice A2 n2 c2):=hb3.2.1 2;have z2:w3.frozen? ⟨w.heap.size,2,none⟩=false:=hb3.2.2 2;have HS3:=Lib.hid (HSg.out.kept hp.grown (fun e=>hbo (.inr (.inr (.inr e.symm)))) (fun e=>hio (.inr (.inr (.inr e.symm)))));clear hp hb3 k2 k3 y0d;simp only [Act.put,List.setIfInBounds_toArray,List.set_cons_zero,List.set_cons_succ];refine hJ _ _ ⟨by first|exact HSg.out.drew|exact HSg.out.alloc _|exact(HSg.out.alloc _).drew|exact HS3.out|exact HS3.out.set (fun e=>hbo (.inl e)) (fun e=>hio (.inl e)) _,?_⟩;clear hJ J
         refine wpAnyH_take (i:=8) (oi:=⟨some 89,.nilCheck (.tmp 81),0,"trie.go:60",#[⟨0,.data⟩,⟨0,.phase⟩,⟨1,.phase⟩,⟨2,.phase⟩,⟨3,.phase⟩,⟨4,.phase⟩,⟨5,.phase⟩,⟨6,.phase⟩,⟨7,.phase⟩],none⟩) (v:= ?_) rfl (by kernel_rfl) (by kernel_rfl) (by kernel_rfl) (fun _ _ _ h=>h) (Or.inl ⟨by rfl,?_⟩) (by first|exact HSg.out.drew|exact HSg.out.alloc _|exact(HSg.out.alloc _).drew|exact HS3.out|exact HS3.out.set (fun e=>hbo (.inl e)) (fun e=>hio (.inl e)) _) ?_
         rotate_left
         ·intro Z hZ;clear hZ;go_simp;try with_reducible rfl
         simp only [Act.put,List.setIfInBounds_toArray,List.set_cons_zero,List.set_cons_succ]
         refine wpAnyH_take (i:=9) (oi:=⟨some 90,.fieldAddr 209 (.tmp 89) 2,0,"trie.go:60",#[⟨8,.data⟩,⟨0,.phase⟩,⟨1,.phase⟩,⟨2,.phase⟩,⟨3,.phase⟩,⟨4,.phase⟩,⟨5,.phase⟩,⟨6,.phase⟩,⟨7,.phase⟩],none⟩) (v:= ?_) rfl (by kernel_rfl) (by kernel_rfl) (by kernel_rfl) (fun _ _ _ h=>h) (Or.inl ⟨by rfl,?_⟩) (by first|exact HSg.out.drew|exact HSg.out.alloc _|exact(HSg.out.alloc _).drew|exact HS3.out|exact HS3.out.set (fun e=>hbo (.inl e)) (fun e=>hio (.inl e)) _) ?_
         rotate_left
         ·intro Z hZ;clear hZ;go_simp;try with_reducible rfl
         simp only [Act.put,List.setIfInBounds_toArray,List.set_cons_zero,List.set_cons_succ]
         refine wpAnyH_all (rs:=[10]) (by kernel_rfl) (by simp) (List.forall_mem_cons.2 ⟨wpOp_some (o:=⟨none,.store 22 (.tmp 90) (.tmp 88),0,"trie.go:60",#[⟨9,.data⟩,⟨7,.data⟩,⟨7,.chain⟩,⟨0,.phase⟩,⟨1,.phase⟩,⟨2,.phase⟩,⟨3,.phase⟩,⟨4,.phase⟩,⟨5,.phase⟩,⟨6,.phase⟩,⟨7,.phase⟩],none⟩) rfl (by rfl) (fun J hJ=> ?_),(by simp)⟩)
         go_simp;refine hJ _ _ ⟨by first|exact HSg.out.drew|exact HSg.out.alloc _|exact(HSg.out.alloc _).drew|exact HS3.out|exact HS3.out.set (fun e=>hbo (.inl e)) (fun e=>hio (.inl e)) _,?_⟩;clear hJ J
         refine wpAnyH_done (by kernel_rfl) ?_ _
         exact RgI.step HT.out HO.out.1 HO.out.2.1 HO.out.2.2 HE3.out (HS3.out.set (fun e=>hbo (.inl e)) (fun e=>hio (.inl e)) _)
        ·go_simp;refine hJ _ _ ⟨by first|exact HSg.out.drew|exact HSg.out.alloc _|exact(HSg.out.alloc _).drew|exact HS3.out|exact HS3.out.set (fun e=>hbo (.inl e)) (fun e=>hio (.inl e)) _,?_⟩;clear hJ J
         refine wpAnyH_all (rs:=[4]) (by kernel_rfl) (by simp) (List.forall_mem_cons.2 ⟨wpOp_some (o:=⟨some 85,.load 22 (.tmp 84),22,"trie.go:60",#[⟨3,.data⟩],none⟩) rfl (by rfl) (fun J hJ=> ?_),(by simp)⟩)
         go_simp;refine hJ _ _ ⟨by first|exact HSg.out.drew|exact HSg.out.alloc _|exact(HSg.out.alloc _).drew|exact HS3.out|exact HS3.out.set (fun e=>hbo (.inl e)) (fun e=>hio (.inl e)) _,?_⟩;clear hJ J
         refine wpAnyH_all (rs:=[7]) (by kernel_rfl) (by simp) (List.forall_mem_cons.2 ⟨wpOp_some (o:={dst:=some 88,op:=Go.Op.call {callee:=Go.Callee.builtin Go.Builtin.append,args:=#[Go.Operand.tmp 85,Go.Operand.tmp 87],argTypes:=#[22,22]},type:= 22,pos:= "trie.go:60",after:=#[⟨4,.data⟩,⟨6,.data⟩],guard:=none}) rfl (by rfl) (fun J hJ=> ?_),(by simp)⟩)
         refine wp_pushN (w0:=W) (cs:=#[.int .i32 i]) id_elt HT.out.wh hbsz rfl rfl rfl rfl rfl rfl rfl rfl (by unfold maxLen;omega) (by omega) ?_;intro A3 c3 w3 hp;have HE3:=Lib.hid (HT.out.snoc hp);have hb3:=HT.out.cel.grown hp.grown (fun e=>HT.out.n2' _ e.symm rfl);have z0:=hb3.1;have z1:w3.cell? ⟨w.heap.size,2,none⟩=some (.slice A2 n2 c2):=hb3.2.1 2;have z2:w3.frozen? ⟨w.heap.size,2,none⟩=false:=hb3.2.2 2;have HS3:=Lib.hid (HSg.out.kept hp.grown (fun e=>hbo (.inr (.inr (.inr e.symm)))) (fun e=>hio (.inr (.inr (.inr e.symm)))));clear hp hb3 k2 k3 y0d;simp only [Act.put,List.setIfInBounds_toArray,List.set_cons_zero,List.set_cons_succ];refine hJ _ _ ⟨by first|exact HSg.out.drew|exact HSg.out.alloc _|exact(HSg.out.alloc _).drew|exact HS3.out|exact HS3.out.set (fun e=>hbo (.inl e)) (fun e=>hio (.inl e)) _,?_⟩;clear hJ J
         refine wpAnyH_take (i:=8) (oi:=⟨some 89,.nilCheck (.tmp 81),0,"trie.go:60",#[⟨0,.data⟩,⟨0,.phase⟩,⟨1,.phase⟩,⟨2,.phase⟩,⟨3,.phase⟩,⟨4,.phase⟩,⟨5,.phase⟩,⟨6,.phase⟩,⟨7,.phase⟩],none⟩) (v:= ?_) rfl (by kernel_rfl) (by kernel_rfl) (by kernel_rfl) (fun _ _ _ h=>h) (Or.inl ⟨by rfl,?_⟩) (by first|exact HSg.out.drew|exact HSg.out.alloc _|exact(HSg.out.alloc _).drew|exact HS3.out|exact HS3.out.set (fun e=>hbo (.inl e)) (fun e=>hio (.inl e)) _) ?_
         rotate_left
         ·intro Z hZ;clear hZ;go_simp;try with_reducible rfl
         simp only [Act.put,List.setIfInBounds_toArray,List.set_cons_zero,List.set_cons_succ]
         refine wpAnyH_take (i:=9) (oi:=⟨some 90,.fieldAddr 209 (.tmp 89) 2,0,"trie.go:60",#[⟨8,.data⟩,⟨0,.phase⟩,⟨1,.phase⟩,⟨2,.phase⟩,⟨3,.phase⟩,⟨4,.phase⟩,⟨5,.phase⟩,⟨6,.phase⟩,⟨7,.phase⟩],none⟩) (v:= ?_) rfl (by kernel_rfl) (by kernel_rfl) (by kernel_rfl) (fun _ _ _ h=>h) (Or.inl ⟨by rfl,?_⟩) (by first|exact HSg.out.drew|exact HSg.out.alloc _|exact(HSg.out.alloc _).drew|exact HS3.out|exact HS3.out.set (fun e=>hbo (.inl e)) (fun e=>hio (.inl e)) _) ?_
         rotate_left
         ·intro Z hZ;clear hZ;go_simp;try with_reducible rfl
         simp only [Act.put,List.setIfInBounds_toArray,List.set_cons_zero,List.set_cons_succ]
         refine wpAnyH_all (rs:=[10]) (by kernel_rfl) (by simp) (List.forall_mem_cons.2 ⟨wpOp_some (o:=⟨none,.store 22 (.tmp 90) (.tmp 88),0,"trie.go:60",#[⟨9,.data⟩,⟨7,.data⟩,⟨7,.chain⟩,⟨0,.phase⟩,⟨1,.phase⟩,⟨2,.phase⟩,⟨3,.phase⟩,⟨4,.phase⟩,⟨5,.phase⟩,⟨6,.phase⟩,⟨7,.phase⟩],none⟩) rfl (by rfl) (fun J hJ=> ?_),(by simp)⟩)
         go_simp;refine hJ _ _ ⟨by first|exact HSg.out.drew|exact HSg.out.alloc _|exact(HSg.out.alloc _).drew|exact HS3.out|exact HS3.out.set (fun e=>hbo (.inl e)) (fun e=>hio (.inl e)) _,?_⟩;clear hJ J
         refine wpAnyH_done (by kernel_rfl) ?_ _
         exact RgI.step HT.out HO.out.1 HO.out.2.1 HO.out.2.2 HE3.out (HS3.out.set (fun e=>hbo (.inl e)) (fun e=>hio (.inl e)) _)
       case done=>
        rintro xs O W7 rfl ⟨A2,n2,c2,t,s,o,o2,u⟩ hK hn
        rw [List.length_range]at t
        have HN:=Lib.hid (HI.out.next hpb HM.out hXb t u (fun q hq=>o2 q ((o q).2 hq)) hK he1 HE.out)
        clear t s o o2 u hK hn
        gi_wp2_with fail
        refine HJ.out _ _ ⟨en,a,_,_,_,_,rfl,he2,⟨y',HY.out,by omega⟩,HN.out⟩ ?_
        simp [intOf]
        omega
      dsimp only at mid
      clear h19
      refine wp_region_noPanic ?_
      refine wp_region_held (S:=fun X=>Boxed X (w.heap.size+1) 86 (.pointer (some ⟨w.heap.size,0,none⟩))) (by kernel_rfl) ?_
      change wpAnyH _ _ _ _ _ _ _ _ (World.drew _)
      refine wpAnyH_take (i:=0) (oi:=⟨some 68,.load 86 (.tmp 7),86,"trie.go:58",#[],none⟩) (v:= ?_) rfl (by kernel_rfl) (by kernel_rfl) (by kernel_rfl) (fun _ _ _ h=>h) (Or.inl ⟨by rfl,?_⟩) (by first|exact HI.out.box|exact Boxed.alloc HI.out.box _|exact Bx5.out|exact Boxed.alloc Bx5.out _|exact Bx6.out|exact HM.out.s2.1|exact Boxed.alloc Bx6.out _) ?_
      rotate_left
      ·intro Z hZ;have z1:=Boxed.cell hZ;go_simp;try with_reducible rfl
      simp only [Act.put,List.setIfInBounds_toArray,List.set_cons_zero,List.set_cons_succ]
      refine wpAnyH_take (i:=1) (oi:=⟨some 69,.move (.tmp 8),210,"trie.go:58",#[],none⟩) (v:= ?_) rfl (by kernel_rfl) (by kernel_rfl) (by kernel_rfl) (fun _ _ _ h=>h) (Or.inl ⟨by rfl,?_⟩) (by first|exact HI.out.box|exact Boxed.alloc HI.out.box _|exact Bx5.out|exact Boxed.alloc Bx5.out _|exact Bx6.out|exact HM.out.s2.1|exact Boxed.alloc Bx6.out _) ?_
      rotate_left
      ·intro Z hZ;clear hZ;go_simp;try with_reducible rfl
      simp only [Act.put,List.setIfInBounds_toArray,List.set_cons_zero,List.set_cons_succ]
      refine wpAnyH_take (i:=2) (oi:=⟨some 70,.move (.tmp 9),139,"trie.go:58",#[],none⟩) (v:= ?_) rfl (by kernel_rfl) (by kernel_rfl) (by kernel_rfl) (fun _ _ _ h=>h) (Or.inl ⟨by rfl,?_⟩) (by first|exact HI.out.box|exact Boxed.alloc HI.out.box _|exact Bx5.out|exact Boxed.alloc Bx5.out _|exact Bx6.out|exact HM.out.s2.1|exact Boxed.alloc Bx6.out _) ?_
      rotate_left
      ·intro Z hZ;clear hZ;go_simp;try with_reducible rfl
      simp only [Act.put,List.setIfInBounds_toArray,List.set_cons_zero,List.set_cons_succ]
      refine wpAnyH_take (i:=3) (oi:=⟨some 71,.move (.tmp 11),3,"trie.go:58",#[],none⟩) (v:= ?_) rfl (by kernel_rfl) (by kernel_rfl) (by kernel_rfl) (fun _ _ _ h=>h) (Or.inl ⟨by rfl,?_⟩) (by first|exact HI.out.box|exact Boxed.alloc HI.out.box _|exact Bx5.out|exact Boxed.alloc Bx5.out _|exact Bx6.out|exact HM.out.s2.1|exact Boxed.alloc Bx6.out _) ?_
      rotate_left
      ·intro Z hZ;clear hZ;go_simp;try with_reducible rfl
      simp only [Act.put,List.setIfInBounds_toArray,List.set_cons_zero,List.set_cons_succ]
      refine wpAnyH_take (i:=4) (oi:=⟨some 72,.slice 139 (.tmp 70) (some (.tmp 71)) none none,139,"trie.go:58",#[⟨2,.data⟩,⟨3,.data⟩],none⟩) (v:= ?_) rfl (by kernel_rfl) (by kernel_rfl) (by kernel_rfl) (fun _ _ _ h=>h) (Or.inl ⟨by rfl,?_⟩) (by first|exact HI.out.box|exact Boxed.alloc HI.out.box _|exact Bx5.out|exact Boxed.alloc Bx5.out _|exact Bx6.out|exact HM.out.s2.1|exact Boxed.alloc Bx6.out _) ?_
      rotate_left
      ·intro Z hZ;clear hZ;go_simp;try with_reducible rfl
      simp only [Act.put,List.setIfInBounds_toArray,List.set_cons_zero,List.set_cons_succ]
      refine wpAnyH_take (i:=5) (oi:=⟨some 73,.move (.tmp 12),3,"trie.go:58",#[],none⟩) (v:= ?_) rfl (by kernel_rfl) (by kernel_rfl) (by kernel_rfl) (fun _ _ _ h=>h) (Or.inl ⟨by rfl,?_⟩) (by first|exact HI.out.box|exact Boxed.alloc HI.out.box _|exact Bx5.out|exact Boxed.alloc Bx5.out _|exact Bx6.out|exact HM.out.s2.1|exact Boxed.alloc Bx6.out _) ?_
      rotate_left
      ·intro Z hZ;clear hZ;go_simp;try with_reducible rfl
      simp only [Act.put,List.setIfInBounds_toArray,List.set_cons_zero,List.set_cons_succ]
      refine wpAnyH_take (i:=6) (oi:=⟨some 74,.binOp Go.BinOp.mul 3 (.tmp 73) (.const (Go.Value.int Go.IntKind.i64 128)) 3,3,"trie.go:58",#[⟨5,.data⟩],none⟩) (v:= ?_) rfl (by kernel_rfl) (by kernel_rfl) (by kernel_rfl) (fun _ _ _ h=>h) (Or.inl ⟨by rfl,?_⟩) (by first|exact HI.out.box|exact Boxed.alloc HI.out.box _|exact Bx5.out|exact Boxed.alloc Bx5.out _|exact Bx6.out|exact HM.out.s2.1|exact Boxed.alloc Bx6.out _) ?_
      rotate_left
      ·intro Z hZ;clear hZ;go_simp;try with_reducible rfl
      simp only [Act.put,List.setIfInBounds_toArray,List.set_cons_zero,List.set_cons_succ]
      refine wpAnyH_all (rs:=[7,9]) (by kernel_rfl) (by simp) (List.forall_mem_cons.2 ⟨wpOp_some (o:={dst:=some 75,op:=Go.Op.call {callee:=Go.Callee.value (Go.Operand.func 151),args:=#[Go.Operand.tmp 72,Go.Operand.tmp 74],argTypes:=#[139,3]},type:= 213,pos:= "trie.go:58",after:=#[⟨4,.data⟩,⟨6,.data⟩],guard:=none}) rfl (by rfl) (fun J hJ=> ?_),(List.forall_mem_cons.2 ⟨wpOp_some (o:=⟨some 15,.alloc 21,0,"trie.go:58",#[],none⟩) rfl (by rfl) (fun J hJ=> ?_),(by simp)⟩)⟩)
      ·go_simp;(with_reducible refine(HBk.out _ ((Below.refl _ _).drew)).mono ?_);rintro e w5 ⟨rfl,hb5⟩;have H5:=Lib.hid (show Below wr.heap.size wr w5 from(Below.refl wr.heap.size wr).drew.trans hb5);have Bx5:=Lib.hid (show Boxed w5 (w.heap.size+1) 86 (.pointer (some ⟨w.heap.size,0,none⟩))from(hb5.block _ (Boxed.lt HI.out.box)).trans HI.out.box);clear hb5;dsimp only;refine hJ _ _ ⟨by first|exact HI.out.box|exact Boxed.alloc HI.out.box _|exact Bx5.out|exact Boxed.alloc Bx5.out _|exact Bx6.out|exact HM.out.s2.1|exact Boxed.alloc Bx6.out _,?_⟩;clear hJ J
       refine wpAnyH_all (rs:=[8,9]) (by kernel_rfl) (by simp) (List.forall_mem_cons.2 ⟨wpOp_some (o:={dst:=some 76,op:=Go.Op.call {callee:=Go.Callee.value (Go.Operand.func 150),args:=#[Go.Operand.tmp 68,Go.Operand.tmp 69,Go.Operand.tmp 75],argTypes:=#[86,210,213]},type:= 21,pos:= "trie.go:58",after:=#[⟨0,.data⟩,⟨1,.data⟩,⟨7,.data⟩,⟨7,.chain⟩],guard:=none}) rfl (by rfl) (fun J hJ=> ?_),(List.forall_mem_cons.2 ⟨wpOp_some (o:=⟨some 15,.alloc 21,0,"trie.go:58",#[],none⟩) rfl (by rfl) (fun J hJ=> ?_),(by simp)⟩)⟩)
       ·go_simp;(with_reducible refine(HIn.out _ (H5.out)).mono ?_);rintro e w6 ⟨i,hd',Bs',l',rfl,t6,a6,o6,u6,h6,r1,r2,r3⟩;have Bx6:=Lib.hid (mid_box HI.out.tr hnx hxl (H5.out) (Bx5.out) u6);have HM:=Lib.hid (mid_new HI.out.tr hnx hxl H5.out Bx5.out t6 a6 o6 u6 h6);clear t6 a6 o6 u6 h6 r1 r2 r3;dsimp only;refine hJ _ _ ⟨by first|exact HI.out.box|exact Boxed.alloc HI.out.box _|exact Bx5.out|exact Boxed.alloc Bx5.out _|exact Bx6.out|exact HM.out.s2.1|exact Boxed.alloc Bx6.out _,?_⟩;clear hJ J
        refine wpAnyH_all (rs:=[9]) (by kernel_rfl) (by simp) (List.forall_mem_cons.2 ⟨wpOp_some (o:=⟨some 15,.alloc 21,0,"trie.go:58",#[],none⟩) rfl (by rfl) (fun J hJ=> ?_),(by simp)⟩)
        go_simp;refine hJ _ _ ⟨by first|exact HI.out.box|exact Boxed.alloc HI.out.box _|exact Bx5.out|exact Boxed.alloc Bx5.out _|exact Bx6.out|exact HM.out.s2.1|exact Boxed.alloc Bx6.out _,?_⟩;clear hJ J
        refine wpAnyH_all (rs:=[10]) (by kernel_rfl) (by simp) (List.forall_mem_cons.2 ⟨wpOp_some (o:=⟨none,.store 21 (.tmp 15) (.tmp 76),0,"trie.go:58",#[⟨9,.data⟩,⟨8,.data⟩,⟨8,.chain⟩,⟨0,.phase⟩,⟨1,.phase⟩,⟨2,.phase⟩,⟨3,.phase⟩,⟨4,.phase⟩,⟨5,.phase⟩,⟨6,.phase⟩,⟨7,.phase⟩,⟨8,.phase⟩,⟨9,.phase⟩],none⟩) rfl (by rfl) (fun J hJ=> ?_),(by simp)⟩)
        go_simp;refine hJ _ _ ⟨by first|exact HI.out.box|exact Boxed.alloc HI.out.box _|exact Bx5.out|exact Boxed.alloc Bx5.out _|exact Bx6.out|exact HM.out.s2.1|exact Boxed.alloc Bx6.out _,?_⟩;clear hJ J
        refine wpAnyH_done (by kernel_rfl) ?_ _
        exact mid _ _ _ _ _ _ _ _ _ _ _ _ _ _ _ HM.out
       ·go_simp;refine hJ _ _ ⟨by first|exact HI.out.box|exact Boxed.alloc HI.out.box _|exact Bx5.out|exact Boxed.alloc Bx5.out _|exact Bx6.out|exact HM.out.s2.1|exact Boxed.alloc Bx6.out _,?_⟩;clear hJ J
        refine wpAnyH_all (rs:=[8]) (by kernel_rfl) (by simp) (List.forall_mem_cons.2 ⟨wpOp_some (o:={dst:=some 76,op:=Go.Op.call {callee:=Go.Callee.value (Go.Operand.func 150),args:=#[Go.Operand.tmp 68,Go.Operand.tmp 69,Go.Operand.tmp 75],argTypes:=#[86,210,213]},type:= 21,pos:= "trie.go:58",after:=#[⟨0,.data⟩,⟨1,.data⟩,⟨7,.data⟩,⟨7,.chain⟩],guard:=none}) rfl (by rfl) (fun J hJ=> ?_),(by simp)⟩)
        go_simp;(with_reducible refine(HIn.out _ (belPush H5.out _)).mono ?_);rintro e w6 ⟨i,hd',Bs',l',rfl,t6,a6,o6,u6,h6,r1,r2,r3⟩;have Bx6:=Lib.hid (mid_box HI.out.tr hnx hxl (belPush H5.out _) (Boxed.alloc Bx5.out _) u6);have HM:=Lib.hid (mid_old HI.out.tr hnx hxl (belPush H5.out _) (Boxed.alloc Bx5.out _) (Boxed.new w5 _ _) H5.out.size t6 a6 o6 u6 h6);clear t6 a6 o6 u6 h6 r1 r2 r3;obtain⟨⟨z1,z2,z3⟩,hM⟩:=HM.out;have HM:=Lib.hid hM;clear hM;dsimp only;refine hJ _ _ ⟨by first|exact HI.out.box|exact Boxed.alloc HI.out.box _|exact Bx5.out|exact Boxed.alloc Bx5.out _|exact Bx6.out|exact HM.out.s2.1|exact Boxed.alloc Bx6.out _,?_⟩;clear hJ J
        refine wpAnyH_all (rs:=[10]) (by kernel_rfl) (by simp) (List.forall_mem_cons.2 ⟨wpOp_some (o:=⟨none,.store 21 (.tmp 15) (.tmp 76),0,"trie.go:58",#[⟨9,.data⟩,⟨8,.data⟩,⟨8,.chain⟩,⟨0,.phase⟩,⟨1,.phase⟩,⟨2,.phase⟩,⟨3,.phase⟩,⟨4,.phase⟩,⟨5,.phase⟩,⟨6,.phase⟩,⟨7,.phase⟩,⟨8,.phase⟩,⟨9,.phase⟩],none⟩) rfl (by rfl) (fun J hJ=> ?_),(by simp)⟩)
        go_simp;refine hJ _ _ ⟨by first|exact HI.out.box|exact Boxed.alloc HI.out.box _|exact Bx5.out|exact Boxed.alloc Bx5.out _|exact Bx6.out|exact HM.out.s2.1|exact Boxed.alloc Bx6.out _,?_⟩;clear hJ J
        refine wpAnyH_done (by kernel_rfl) ?_ _
        exact mid _ _ _ _ _ _ _ _ _ _ _ _ _ _ _ HM.out
      ·go_simp;refine hJ _ _ ⟨by first|exact HI.out.box|exact Boxed.alloc HI.out.box _|exact Bx5.out|exact Boxed.alloc Bx5.out _|exact Bx6.out|exact HM.out.s2.1|exact Boxed.alloc Bx6.out _,?_⟩;clear hJ J
       refine wpAnyH_all (rs:=[7]) (by kernel_rfl) (by simp) (List.forall_mem_cons.2 ⟨wpOp_some (o:={dst:=some 75,op:=Go.Op.call {callee:=Go.Callee.value (Go.Operand.func 151),args:=#[Go.Operand.tmp 72,Go.Operand.tmp 74],argTypes:=#[139,3]},type:= 213,pos:= "trie.go:58",after:=#[⟨4,.data⟩,⟨6,.data⟩],guard:=none}) rfl (by rfl) (fun J hJ=> ?_),(by simp)⟩)
       go_simp;(with_reducible refine(HBk.out _ (belAlloc _ _).drew).mono ?_);rintro e w5 ⟨rfl,hb5⟩;have H5:=Lib.hid (show Below wr.heap.size wr w5 from(belAlloc wr _).drew.trans (hb5.mono (by simp)));have Bx5:=Lib.hid (show Boxed w5 (w.heap.size+1) 86 (.pointer (some ⟨w.heap.size,0,none⟩))from(hb5.block _ (Boxed.lt (Boxed.alloc HI.out.box _))).trans (Boxed.alloc HI.out.box _));have Ib5:=Lib.hid (show Boxed w5 wr.heap.size 21 (.int .i32 0)from(hb5.block _ (Boxed.lt (Boxed.new wr _ _))).trans (Boxed.new wr _ _));clear hb5;dsimp only;refine hJ _ _ ⟨by first|exact HI.out.box|exact Boxed.alloc HI.out.box _|exact Bx5.out|exact Boxed.alloc Bx5.out _|exact Bx6.out|exact HM.out.s2.1|exact Boxed.alloc Bx6.out _,?_⟩;clear hJ J
       refine wpAnyH_all (rs:=[8]) (by kernel_rfl) (by simp) (List.forall_mem_cons.2 ⟨wpOp_some (o:={dst:=some 76,op:=Go.Op.call {callee:=Go.Callee.value (Go.Operand.func 150),args:=#[Go.Operand.tmp 68,Go.Operand.tmp 69,Go.Operand.tmp 75],argTypes:=#[86,210,213]},type:= 21,pos:= "trie.go:58",after:=#[⟨0,.data⟩,⟨1,.data⟩,⟨7,.data⟩,⟨7,.chain⟩],guard:=none}) rfl (by rfl) (fun J hJ=> ?_),(by simp)⟩)
       go_simp;(with_reducible refine(HIn.out _ (H5.out)).mono ?_);rintro e w6 ⟨i,hd',Bs',l',rfl,t6,a6,o6,u6,h6,r1,r2,r3⟩;have Bx6:=Lib.hid (mid_box HI.out.tr hnx hxl (H5.out) (Bx5.out) u6);have HM:=Lib.hid (mid_old HI.out.tr hnx hxl H5.out Bx5.out Ib5.out (Nat.le_refl _) t6 a6 o6 u6 h6);clear t6 a6 o6 u6 h6 r1 r2 r3;obtain⟨⟨z1,z2,z3⟩,hM⟩:=HM.out;have HM:=Lib.hid hM;clear hM;dsimp only;refine hJ _ _ ⟨by first|exact HI.out.box|exact Boxed.alloc HI.out.box _|exact Bx5.out|exact Boxed.alloc Bx5.out _|exact Bx6.out|exact HM.out.s2.1|exact Boxed.alloc Bx6.out _,?_⟩;clear hJ J
       refine wpAnyH_all (rs:=[10]) (by kernel_rfl) (by simp) (List.forall_mem_cons.2 ⟨wpOp_some (o:=⟨none,.store 21 (.tmp 15) (.tmp 76),0,"trie.go:58",#[⟨9,.data⟩,⟨8,.data⟩,⟨8,.chain⟩,⟨0,.phase⟩,⟨1,.phase⟩,⟨2,.phase⟩,⟨3,.phase⟩,⟨4,.phase⟩,⟨5,.phase⟩,⟨6,.phase⟩,⟨7,.phase⟩,⟨8,.phase⟩,⟨9,.phase⟩],none⟩) rfl (by rfl) (fun J hJ=> ?_),(by simp)⟩)
       go_simp;refine hJ _ _ ⟨by first|exact HI.out.box|exact Boxed.alloc HI.out.box _|exact Bx5.out|exact Boxed.alloc Bx5.out _|exact Bx6.out|exact HM.out.s2.1|exact Boxed.alloc Bx6.out _,?_⟩;clear hJ J
       refine wpAnyH_done (by kernel_rfl) ?_ _
       exact mid _ _ _ _ _ _ _ _ _ _ _ _ _ _ _ HM.out
     clear h18
     dsimp only at tail
     have hv:=HF.out.vals
     have p1:IntKind.i64.wrap ((k:Int)+1)=(k:Int)+1:=IntWalk.i64_in _ (by omega)
     have p2:IntKind.i64.wrap ((k:Int)*128+128)=(k:Int)*128+128:=IntWalk.i64_in _ (by omega)
     have p3:IntKind.i64.wrap ((k:Int)*128+128 - 1)=(k:Int)*128+128 - 1:=IntWalk.i64_in _ (by omega)
     have HV:=Lib.hid hv
     clear hv
     by_cases q1:y'.t=(m:Int) - 1
     ·have f1:(y'.t==(m:Int) - 1)=true:=by simpa using q1
      have HQ:=Lib.hid q1
      clear q1
      gi_wp2_with fail
      exact fun j h1 h2=>bk_run hm1 HV.out HY.out hyf hlt h1 (by omega) (.inl HQ.out)
     ·have f1:(y'.t==(m:Int) - 1)=false:=by simpa using q1
      by_cases q2:(k:Int)*128+128 - 1≤y'.t
      ·have f2:decide ((k:Int)*128+128 - 1≤y'.t)=true:=decide_eq_true q2
       obtain⟨T,hT⟩:∃T:Nat,y'.t+1=(T:Int):=⟨(y'.t+1).toNat,by omega⟩
       have f3:IntKind.i64.wrap (y'.t+1)=(T:Int):=by rw [hT];exact IntWalk.i64_in _ (by omega)
       have f4:(T:Int).tdiv 128=((T/128:Nat):Int):=by rw [Int.tdiv_eq_ediv_of_nonneg (by omega)];omega
       have f5:IntKind.i64.wrap ((T/128:Nat):Int)=((T/128:Nat):Int):=IntWalk.i64_in _ (by omega)
       have f6:k<T/128:=by omega
       have f7:T/128≤cntB m:=by unfold cntB;omega
       have HQ:=Lib.hid (And.intro hT q1)
       clear q1 hT
       gi_wp2_with fail
       exact fun j h1 h2=>bk_run hm1 HV.out HY.out hyf hlt h1 (by omega) (.inr (by have:=HQ.out.1;omega))
      ·have f2:decide ((k:Int)*128+128 - 1≤y'.t)=false:=decide_eq_false q2
       clear q1
       gi_wp2_with fail
       exact⟨hlt,fun j h1 h2=>by rw [show j=k by omega]⟩
  ·obtain rfl:k=cntB m:=by omega
   have g1:decide (((cntB m:Nat):Int)<((cntB m:Nat):Int))=false:=decide_eq_false (by omega)
   have e7:=Boxed.cell HI.out.box
   clear hx hxf HJ
   gi_wp2_with fail
   refine leaves_all (base:=w.heap.size) (Kp:=OwH w.heap.size (w.heap.size+1+1) hd) ds wr (fun d hd'=> ?_) HI.out.nd fun V hV1 hV2 hV3=> ?_
   ·obtain⟨r,e,hr,hh⟩:=HI.out.df d hd'
    exact⟨r,e,hr,HI.out.tr.not_def hh,hh⟩
   ·refine⟨_,results_tmp rfl _ _ _,?_⟩
    exact⟨_,_,hd,Bs,Ix,l,rfl,⟨(HI.out.tr.kept (Nat.le_of_eq hV1) fun q hq=>hV2 q (.inr hq)).lower HZ.out.1.size,HI.out.ix,HI.out.is,HI.out.mem⟩,HZ.out.1.trans ((HI.out.be.trans hV3).mono HZ.out.1.size)⟩
theorem build_big (m:Nat)(z:V3)(A:Option Addr)(n c:Nat)(L:List (Pc V3))(w:World)(hL:LiV 5 encP w (fun _=>True) (.slice A n c) L)(hn:L.length≤10000)(hm1:1≤m)(hm:m≤10000000)(hg:∀r,WV (pval L z r)):
  Calls Tryz.prog 101 #[.int .i64 m,vV z,.slice A n c] w (Built (pval L z) m w):=
 (callsIn_wide (n:=9)).1 (build_in m z A n c L w hL hn hm1 hm hg)
theorem build_any (m:Nat)(z:V3)(A:Option Addr)(n c:Nat)(L:List (Pc V3))(w:World)(hL:LiV 5 encP w (fun _=>True) (.slice A n c) L)(hn:L.length≤10000)(hm1:1≤m)(hm:m≤100000)(hg:∀r,WV (pval L z r)):
  Calls Tryz.prog 101 #[.int .i64 m,vV z,.slice A n c] w (Built (pval L z) m w):=
 build_big m z A n c L w hL hn hm1 (by omega) hg
end Go.Proofs.YtlopleeopnnoeaaGreat.TK
