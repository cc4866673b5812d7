import Derived.Test.YtlopleeopnnoeaaGreatMb18
import Derived.Test.YtlopleeopnnoeaaGreatMb19
import Derived.Test.YtlopleeopnnoeaaGreatMb20
import Derived.Test.YtlopleeopnnoeaaGreatMb13
import Derived.Test.YtlopleeopnnoeaaGreatMb17
import Derived.Test.YtlopleeopnnoeaaGreatMb07
set_option linter.unusedVariables false
set_option linter.unusedSimpArgs false
namespace Go.Proofs.YtlopleeopnnoeaaGreat
open Go.RowKit
structure Given (T:List RW.Row):Prop where
 len:T.length≤500
 wf:∀x∈T,(Lit.int .i64 x.a).wf=true
 one:oneB T=true
 cls:at0 0 (vget 1 T) 769=230
 pair:at0 (0,0) (pget2 T) 233=(101,769)
 comp:RW.compR T 101 769=(233,true)
 out:outT T 8491=true
 brk:breakB (vget 4 T) 44032=12
set_option maxRecDepth 100000 in
theorem given:Given RW.rowsT:=by
 have hw:(RW.rowsT.all fun x=>(Lit.int .i64 x.a).wf)=true:=by decide+kernel
 exact⟨by decide+kernel,fun x hx=>List.all_eq_true.1 hw x hx,by decide+kernel,by decide+kernel,by decide+kernel,by decide+kernel,by decide+kernel,by decide+kernel⟩
theorem rows_li (w:World):∃T,Given T∧RW.rowsT=T∧Calls Tryz.prog 16 #[] w fun e w'=>∃A c,e= .returned (.slice A T.length c)∧Li 5 RW.encR w' (fun b=>w.heap.size≤b) A T∧T.length≤c∧c≤9223372036854775807∧Below w.heap.size w w':=by
 refine⟨_,given,rfl,(RW.rows_any w).mono ?_⟩
 rintro e w' ⟨A,n,c,rfl,ho,hb⟩
 have hn:=own_count RW.encR_len (by decide) ho
 have hl:=(LiV.own RW.encR_len (by decide) ho).parts
 subst hn
 exact⟨A,c,rfl,hl.2.1,hl.2.2.2.1,hl.2.2.2.2,hb⟩
def Tabs (T:List RW.Row)(tp:Nat)(W:World):Prop:=∃lo hi,hi≤W.heap.size∧Ucd lo hi T tp W
theorem Tabs.later {T:List RW.Row}{tp:Nat}{W W':World}(h:Tabs T tp W)(hb:Below W.heap.size W W'):Tabs T tp W':=by
 obtain⟨lo,hi,h1,h2⟩:=h
 exact⟨lo,hi,Nat.le_trans h1 hb.size,h2.later (hb.mono h1)⟩
section
variable {T:List RW.Row}{tp:Nat}{W:World}
theorem tclass (h:Tabs T tp W)(r:Int)(r0: -2147483648≤r)(r1:r≤2147483647):
  Calls Tryz.prog 160 #[.pointer (some ⟨tp,0,none⟩),.int .i32 r] W (fun e w'=>e= .returned (.int .i64 (at0 0 (vget 1 T) r))∧Below W.heap.size W w'):=by
 obtain⟨lo,hi,_,h⟩:=h
 exact uclass h r r0 r1
theorem tpair (h:Tabs T tp W)(r:Int)(r0: -2147483648≤r)(r1:r≤2147483647):
  Calls Tryz.prog 159 #[.pointer (some ⟨tp,0,none⟩),.int .i32 r] W (fun e w'=>e= .returned (.tuple #[.int .i32 (at0 (0,0) (pget2 T) r).1,.int .i32 (at0 (0,0) (pget2 T) r).2,.bool (at0 (0,0) (pget2 T) r != (0,0))])∧Below W.heap.size W w'):=by
 obtain⟨lo,hi,_,h⟩:=h
 exact upair h r r0 r1
theorem tout (h:Tabs T tp W)(r:Int)(r0: -2147483648≤r)(r1:r≤2147483647):
  Calls Tryz.prog 114 #[.pointer (some ⟨tp,0,none⟩),.int .i32 r] W (fun e w'=>e= .returned (.bool (outT T r))∧Below W.heap.size W w'):=by
 obtain⟨lo,hi,_,h⟩:=h
 exact uout h r r0 r1
end
theorem Tabs.said {T:List RW.Row}{tp:Nat}{W:World}(h:Tabs T tp W):∃l c b6 b7 n6 n7,CompS T l c∧W.cell? ⟨tp,6,none⟩=some (.map (some b6))∧Mp W b6 n6 l∧W.cell? ⟨tp,7,none⟩=some (.map (some b7))∧Ms W b7 n7 c:=by
 obtain⟨lo,hi,_,h⟩:=h
 obtain⟨l,c,b6,b7,n6,n7,hc,h⟩:=h.said
 exact⟨l,c,b6,b7,n6,n7,hc,h W (Below.refl _ _)⟩
theorem build_tabs (A:Option Addr)(c:Nat)(T:List RW.Row)(w:World)(hL:Li 5 RW.encR w (fun _=>True) A T)(hc:T.length≤c)(hG:Given T):
  Calls Tryz.prog 17 #[.slice A T.length c] w fun e w'=>∃tp,e= .returned (.pointer (some ⟨tp,0,none⟩))∧Tabs T tp w'∧Below w.heap.size w w':=by
 refine(ucd_any A c T w hL hc hG.len hG.wf).mono ?_
 rintro e w' ⟨tp,e1,hU,hb⟩
 exact⟨tp,e1,⟨_,_,Nat.le_refl _,hU⟩,hb⟩
open Go.RowKit
set_option maxHeartbeats 4000000 in
theorem break_any {g:Int→Int}{tp t:Nat}{W:World}(k:W.cell? ⟨tp,1,none⟩=some (.pointer (some ⟨t,0,none⟩)))(h:IsT g t W)(r:Int)(h0: -2147483648≤r)(h1:r≤2147483647):
  Calls Tryz.prog 71 #[.pointer (some ⟨tp,0,none⟩),.int .i32 r] W (fun e w'=>e= .returned (.int .i64 (breakB g r))∧Below W.heap.size W w'):=by
 have C:=Lib.hid (getT_any h r)
 clear h
 unfold breakB
 obtain⟨y,hy⟩:∃y,at0 0 g r=y:=⟨_,rfl⟩
 rw [hy]at C ⊢
 clear hy
 by_cases a:44032≤r
 ·by_cases b:r≤55203
  ·rw [if_pos ⟨a,b⟩]
   have m1:(r - 44032).tmod 28=(r - 44032)%28:=Int.tmod_eq_emod_of_nonneg (by omega)
   have m2:IntKind.i32.wrap (r - 44032)=r - 44032:=IntWalk.i32_in _ (by omega)
   obtain⟨q,hq⟩:∃q,(r - 44032).tmod 28=q:=⟨_,rfl⟩
   have q0:0≤q∧q<28:=by omega
   have m3:IntKind.i32.wrap q=q:=IntWalk.i32_in _ (by omega)
   rw [hq]
   clear m1 C
   by_cases c:q=0
   ·subst c
    rw [if_pos rfl]
    go_enter Tryz.func71,Tryz.ntmps71
    go_wp2
    go_ret
    exact⟨rfl,Below.refl _ _⟩
   ·rw [if_neg c]
    have c':(q==0)=false:=by simpa using c
    go_enter Tryz.func71,Tryz.ntmps71
    go_wp2
    go_ret
    exact⟨rfl,Below.refl _ _⟩
  ·rw [if_neg (fun h=>b h.2)]
   go_enter Tryz.func71,Tryz.ntmps71
   go_wp2_with fail
   refine C.out.mono ?_
   rintro e w1 ⟨rfl,hb⟩
   go_wp2
   go_ret
   exact⟨rfl,hb⟩
 ·rw [if_neg (fun h=>a h.1)]
  go_enter Tryz.func71,Tryz.ntmps71
  go_wp2_with fail
  refine C.out.mono ?_
  rintro e w1 ⟨rfl,hb⟩
  go_wp2
  go_ret
  exact⟨rfl,hb⟩
theorem ubreak {lo hi:Nat}{L:List RW.Row}{tp:Nat}{W:World}(h:Ucd lo hi L tp W)(r:Int)(r0: -2147483648≤r)(r1:r≤2147483647):
  Calls Tryz.prog 71 #[.pointer (some ⟨tp,0,none⟩),.int .i32 r] W (fun e w'=>e= .returned (.int .i64 (breakB (vget 4 L) r))∧Below W.heap.size W w'):=by
 obtain⟨t0,t1,t2,t3,t4,t5,b6,b7,h⟩:=h
 obtain⟨g1,e1,f1⟩:=h.h1
 have:=break_any (h.blk.2.1 1) e1.is r r0 r1
 unfold breakB at this ⊢
 rwa [at0_congr f1 r]at this
theorem tbreak {T:List RW.Row}{tp:Nat}{W:World}(h:Tabs T tp W)(r:Int)(r0: -2147483648≤r)(r1:r≤2147483647):
  Calls Tryz.prog 71 #[.pointer (some ⟨tp,0,none⟩),.int .i32 r] W (fun e w'=>e= .returned (.int .i64 (breakB (vget 4 T) r))∧Below W.heap.size W w'):=by
 obtain⟨lo,hi,_,h⟩:=h
 exact ubreak h r r0 r1
end Go.Proofs.YtlopleeopnnoeaaGreat
namespace Go.Proofs.YtlopleeopnnoeaaGreat.TK
open Go.RowKit Go.Maps
theorem row_cell {w:World}{base size n c g:Nat}{e:TypeId}{xs:List Value}(h:w.ownsRow base e size (.slice (some ⟨g,0,none⟩) n c) n xs){j:Nat}{u:Value}(hj:xs[j]? =some u):w.cell? ⟨g,j,none⟩=some u:=by
 obtain⟨h1,⟨h2,_⟩|⟨g',cap,cur,e1,_,hh,_,_,_,ht⟩⟩:=h
 ·cases h2
 ·injection e1 with e1
  injection e1 with e1
  injection e1 with e1
  subst e1
  rw [←ht]at hj
  have hl:j<n*size:=by
   have:=(List.getElem?_eq_some_iff.1 hj).1
   simp at this;omega
  rw [List.getElem?_take_of_lt hl]at hj
  simp [World.cell?,hh]
  simpa using hj
theorem row_at {w:World}{base size n c:Nat}{e:TypeId}{A:Option Addr}{xs:List Value}(h:w.ownsRow base e size (.slice A n c) n xs)(hn:0<n):∃g,A=some ⟨g,0,none⟩∧g<w.heap.size:=by
 have hl:=h.lt
 obtain⟨h1,⟨h2,h3⟩|⟨g',cap,cur,e1,_,hh,_⟩⟩:=h
 ·omega
 ·injection e1 with e1
  subst e1
  exact⟨g',rfl,(Array.getElem?_eq_some_iff.1 hh).1⟩
theorem flatB_get:∀ (Bs:List (List V3)) (i r:Nat) (B:List V3) (x:V3),(∀B∈Bs,B.length=128)→Bs[i]? =some B→B[r]? =some x→∀ (q:Nat) (u:Value),(encV x)[q]? =some u→(flatL cellsB Bs)[i*384+r*3+q]? =some u
 |[],_,_,_,_,_,h,_=>by simp at h
 |C::Bs,0,r,B,x,hl,h,hr=>by
  intro q u hu
  simp only [List.getElem?_cons_zero,Option.some.injEq]at h
  subst h
  have hlt:=(List.getElem?_eq_some_iff.1 hr).1
  have hq:q<3:=(List.getElem?_eq_some_iff.1 hu).1
  have:flatL cellsB (C::Bs)=cellsB C++flatL cellsB Bs:=by simp [flatL]
  rw [this,Nat.zero_mul,Nat.zero_add,List.getElem?_append_left (by rw [cellsB_len];omega)]
  exact flatL_get encV_len C r x q u hr hu
 |C::Bs,i+1,r,B,x,hl,h,hr=>by
  intro q u hu
  have hC:=hl C (by simp)
  have:flatL cellsB (C::Bs)=cellsB C++flatL cellsB Bs:=by simp [flatL]
  rw [this,List.getElem?_append_right (by rw [cellsB_len,hC];omega),cellsB_len,hC,show (i+1)*384+r*3+q - 128*3=i*384+r*3+q by omega]
  exact flatB_get Bs i r B x (fun B hB=>hl B (by simp [hB])) (by simpa using h) hr q u hu
theorem bk_at (g:Int→V3){m i:Nat}(hi:i<m):(bk g m (i/128))[i%128]? =some (g i):=by
 unfold bk blk
 rw [List.getElem?_map,List.getElem?_range (Nat.mod_lt _ (by omega))]
 simp only [Option.map_some,bval]
 congr 2
 omega
def VAt (w:World)(v:V3)(Z:World):Prop:=Z.cell? ⟨w.heap.size,0,none⟩=some (.bool v.1)∧Z.cell? ⟨w.heap.size,1,none⟩=some (.bool v.2.1)∧Z.cell? ⟨w.heap.size,2,none⟩=some (.bool v.2.2)∧Below w.heap.size w Z
theorem vAt_put' {w X:World}(hb:Below w.heap.size w X){a b c:Value}(hB:Blk X w.heap.size #[a,b,c])(v:V3):VAt w v (((X.setCell ⟨w.heap.size,0,none⟩ (.bool v.1)).setCell ⟨w.heap.size,1,none⟩ (.bool v.2.1)).setCell ⟨w.heap.size,2,none⟩ (.bool v.2.2)):=by
 have h1:=hB.set_ 0 (by simp) (.bool v.1)
 have h2:=h1.set_ 1 (by simp) (.bool v.2.1)
 have h3:=h2.set_ 2 (by simp) (.bool v.2.2)
 exact⟨h3.2.1 0,h3.2.1 1,h3.2.1 2,((hb.setCell (p:=⟨w.heap.size,0,none⟩) (Nat.le_refl _) _).setCell (p:=⟨w.heap.size,1,none⟩) (Nat.le_refl _) _).setCell (p:=⟨w.heap.size,2,none⟩) (Nat.le_refl _) _⟩
theorem vAt_put {w X:World}(hb:Below w.heap.size w X){a b c:Value}(hB:Blk X w.heap.size #[a,b,c])(v:V3):VAt w v ((((X.setCell ⟨w.heap.size,0,none⟩ (.bool v.1)).setCell ⟨w.heap.size,1,none⟩ (.bool v.2.1)).setCell ⟨w.heap.size,2,none⟩ (.bool v.2.2)).drew):=
 have h:=vAt_put' hb hB v
 ⟨h.1,h.2.1,h.2.2.1,h.2.2.2.drew⟩
section
variable {base m tb mb:Nat}{g:Int→V3}{hd:Hd}{Bs:List (List V3)}{Ix:List Nat}{l:List V3→Option Nat}{W:World}
set_option maxHeartbeats 4000000 in
set_option maxRecDepth 100000 in
theorem get_any (h:BtI base g m tb mb hd Bs Ix l W)(hm:m≤10000000)(i:Nat)(hi:i<m):
  Calls Tryz.prog 161 #[.pointer (some ⟨tb,0,none⟩),.int .i64 (i:Nat)] W (fun e w'=>e= .returned (vV (g i))∧Below W.heap.size W w'):=by
 have hq:i/128<cntB m:=by unfold cntB;omega
 obtain⟨q,hq1,hq2⟩:=h.is (i/128) hq
 obtain⟨tr,hix,_,_⟩:=h
 obtain⟨A,n,c,A2,n2,c2⟩:=hd
 have hn2:=own_count (enc:=encN) (fun _=>rfl) (Nat.zero_lt_one) tr.wh
 have hn:=tr.len
 dsimp only at hn2 hn
 have hql:=(List.getElem?_eq_some_iff.1 hq2).1
 have hq1l:=(List.getElem?_eq_some_iff.1 hq1).1
 obtain⟨g1,rfl,l1⟩:=row_at tr.bl (by show 0<n;omega)
 obtain⟨g2,rfl,l2⟩:=row_at tr.wh (by show 0<n2;omega)
 have c2':W.cell? ⟨g2,i/128,none⟩=some (.int .i32 (q:Nat)):=row_cell tr.wh (by
  have:=flatL_get (enc:=encN) (k:=1) (fun _=>rfl) Ix (i/128) q 0 _ hq1 rfl
  simpa using this)
 have hfb:=flatB_get Bs q (i%128) _ _ (fun B hB=>(tr.wf B hB).1) hq2 (bk_at g hi)
 have c1':W.cell? ⟨g1,q*384+i%128*3,none⟩=some (.bool (g i).1):=row_cell tr.bl (hfb 0 _ rfl)
 have c3':W.cell? ⟨g1,q*384+i%128*3+1,none⟩=some (.bool (g i).2.1):=row_cell tr.bl (hfb 1 _ rfl)
 have c4':W.cell? ⟨g1,q*384+i%128*3+2,none⟩=some (.bool (g i).2.2):=row_cell tr.bl (hfb 2 _ rfl)
 clear hfb
 obtain⟨y0,k0,j0⟩:=(show Blk _ _ _ from tr.cel)
 have k1:W.cell? ⟨tb,0,none⟩=some (.int .i64 (m:Nat)):=k0 0
 have k2:W.cell? ⟨tb,1,none⟩=some (.slice (some ⟨g1,0,none⟩) n c):=k0 1
 have k3:W.cell? ⟨tb,2,none⟩=some (.slice (some ⟨g2,0,none⟩) n2 c2):=k0 2
 have f1:decide (((i:Nat):Int)<0)=false:=decide_eq_false (by omega)
 have f2:decide (((m:Nat):Int)≤((i:Nat):Int))=false:=decide_eq_false (by omega)
 have f3:((i:Nat):Int).tdiv 128=((i/128:Nat):Int):=by rw [Int.tdiv_eq_ediv_of_nonneg (by omega)];omega
 have f4:((i:Nat):Int).tmod 128=((i%128:Nat):Int):=by rw [Int.tmod_eq_emod_of_nonneg (by omega)];omega
 have f5:IntKind.i64.wrap ((i/128:Nat):Int)=((i/128:Nat):Int):=IntWalk.i64_in _ (by omega)
 have f6:IntKind.i64.wrap ((i%128:Nat):Int)=((i%128:Nat):Int):=IntWalk.i64_in _ (by omega)
 obtain⟨a,ha⟩:∃a,i/128=a:=⟨_,rfl⟩
 obtain⟨b,hb⟩:∃b,i%128=b:=⟨_,rfl⟩
 rw [ha]at c2' f3 f5 hq1l
 rw [hb]at c1' c3' c4' f4 f6
 have b1:b<128:=by omega
 have r1:(0:Int)≤(a:Nat):=by omega
 have r2:((a:Nat):Int)<(n2:Nat):=by omega
 have r3:(0:Int)≤(b:Nat):=by omega
 have r4:((b:Nat):Int)<128:=by omega
 have r5:(0:Int)≤(q:Nat):=by omega
 have r6:((q:Nat):Int)<(n:Nat):=by omega
 clear k0 j0 hq1 hq2 tr ha hb hq hix
 have V0:=Lib.hid (And.intro (belAlloc W (.cells #[.bool false,.bool false,.bool false] 141)) (blk_new W #[.bool false,.bool false,.bool false] 141))
 go_enter Tryz.func161,Tryz.ntmps161
 go_upto_region 1 with fail
 refine at_world (fun X=>Below W.heap.size W X∧Blk X W.heap.size #[.bool false,.bool false,.bool false]) V0.out ?_
 intro X hX
 obtain⟨hb,hB⟩:=hX
 clear V0
 have d1:=(hb.cell (p:=⟨g2,a,none⟩) l2).trans c2'
 have d2:=(hb.cell (p:=⟨g1,q*384+b*3,none⟩) l1).trans c1'
 have d3:=(hb.cell (p:=⟨g1,q*384+b*3+1,none⟩) l1).trans c3'
 have d7:=(hb.cell (p:=⟨g1,q*384+b*3+2,none⟩) l1).trans c4'
 have d4:=(hb.cell (p:=⟨tb,0,none⟩) y0).trans k1
 have d5:=(hb.cell (p:=⟨tb,1,none⟩) y0).trans k2
 have d6:=(hb.cell (p:=⟨tb,2,none⟩) y0).trans k3
 clear c1' c2' c3' c4' k1 k2 k3
 obtain⟨yB,kB,jB⟩:=hB
 have e0:X.cell? ⟨W.heap.size,0,none⟩=some (.bool false):=kB 0
 have e1:X.cell? ⟨W.heap.size,1,none⟩=some (.bool false):=kB 1
 have e9:X.cell? ⟨W.heap.size,2,none⟩=some (.bool false):=kB 2
 have jB0:=jB 0
 have jB1:=jB 1
 have jB2:=jB 2
 go_upto_region 4 with fail
 go_region
 go_wp2_with fail
 refine at_world (VAt W (g i)) (vAt_put hb ⟨yB,kB,jB⟩ (g i)) ?_
 rintro Z ⟨x0,x1,x2,hbz⟩
 clear hb d1 d2 d3 d4 d5 d6 d7 e0 e1 e9 jB0 jB1 jB2 jB kB
 refine bodyPost_ret (v:=vV (g i)) (by simp [results,Tryz.results161,go_sem,x0,x1,x2,vV]) rfl ⟨rfl,hbz⟩
theorem get_out (h:BtI base g m tb mb hd Bs Ix l W)(i:Int)(hi:i<0∨(m:Int)≤i):
  Calls Tryz.prog 161 #[.pointer (some ⟨tb,0,none⟩),.int .i64 i] W (fun e w'=>e= .returned (vV (false,false,false))∧Below W.heap.size W w'):=by
 obtain⟨y0,k0,j0⟩:=(show Blk _ _ _ from h.tr.cel)
 have k1:W.cell? ⟨tb,0,none⟩=some (.int .i64 (m:Nat)):=k0 0
 clear h k0 j0
 have V0:=Lib.hid (And.intro (belAlloc W (.cells #[.bool false,.bool false,.bool false] 141)) (blk_new W #[.bool false,.bool false,.bool false] 141))
 by_cases h1:i<0
 ·have f1:decide (i<0)=true:=decide_eq_true h1
  clear hi h1
  go_enter Tryz.func161,Tryz.ntmps161
  go_upto_region 1 with fail
  refine at_world (fun X=>Below W.heap.size W X∧Blk X W.heap.size #[.bool false,.bool false,.bool false]) V0.out ?_
  intro X hX
  obtain⟨hb,hB⟩:=hX
  clear V0
  have d4:=(hb.cell (p:=⟨tb,0,none⟩) y0).trans k1
  clear k1
  obtain⟨yB,kB,jB⟩:=hB
  go_upto_region 3 with fail
  refine at_world (fun Y=>Below W.heap.size W Y∧Blk Y W.heap.size #[.bool false,.bool false,.bool false]∧Y.cell? ⟨X.heap.size,0,none⟩=some (.bool false)∧Y.cell? ⟨X.heap.size,1,none⟩=some (.bool false)∧Y.cell? ⟨X.heap.size,2,none⟩=some (.bool false)) ⟨hb.alloc (Nat.le_of_lt yB) _,Blk.alloc ⟨yB,kB,jB⟩ _,(blk_new X #[.bool false,.bool false,.bool false] 141).2.1 0,(blk_new X #[.bool false,.bool false,.bool false] 141).2.1 1,(blk_new X #[.bool false,.bool false,.bool false] 141).2.1 2⟩ ?_
  rintro Y ⟨hby,⟨yC,kC,jC⟩,e2,e3,e4⟩
  have e0:Y.cell? ⟨W.heap.size,0,none⟩=some (.bool false):=kC 0
  have e1:Y.cell? ⟨W.heap.size,1,none⟩=some (.bool false):=kC 1
  have e9:Y.cell? ⟨W.heap.size,2,none⟩=some (.bool false):=kC 2
  have jB0:=jC 0
  have jB1:=jC 1
  have jB2:=jC 2
  clear hb
  go_wp2_with fail
  refine at_world (VAt W (false,false,false)) (vAt_put' hby ⟨yC,kC,jC⟩ (false,false,false)) ?_
  rintro Z ⟨x0,x1,x2,hbz⟩
  clear hby kC jC e0 e1 e9 e2 e3 e4 jB0 jB1 jB2 jB kB
  refine bodyPost_ret (v:=vV (false,false,false)) (by simp [results,Tryz.results161,go_sem,x0,x1,x2,vV]) rfl ⟨rfl,hbz⟩
 ·have f1:decide (i<0)=false:=decide_eq_false h1
  have f2:decide ((m:Int)≤i)=true:=decide_eq_true (by omega)
  clear hi h1
  go_enter Tryz.func161,Tryz.ntmps161
  go_upto_region 1 with fail
  refine at_world (fun X=>Below W.heap.size W X∧Blk X W.heap.size #[.bool false,.bool false,.bool false]) V0.out ?_
  intro X hX
  obtain⟨hb,hB⟩:=hX
  clear V0
  have d4:=(hb.cell (p:=⟨tb,0,none⟩) y0).trans k1
  clear k1
  obtain⟨yB,kB,jB⟩:=hB
  go_upto_region 3 with fail
  refine at_world (fun Y=>Below W.heap.size W Y∧Blk Y W.heap.size #[.bool false,.bool false,.bool false]∧Y.cell? ⟨X.heap.size,0,none⟩=some (.bool false)∧Y.cell? ⟨X.heap.size,1,none⟩=some (.bool false)∧Y.cell? ⟨X.heap.size,2,none⟩=some (.bool false)) ⟨hb.alloc (Nat.le_of_lt yB) _,Blk.alloc ⟨yB,kB,jB⟩ _,(blk_new X #[.bool false,.bool false,.bool false] 141).2.1 0,(blk_new X #[.bool false,.bool false,.bool false] 141).2.1 1,(blk_new X #[.bool false,.bool false,.bool false] 141).2.1 2⟩ ?_
  rintro Y ⟨hby,⟨yC,kC,jC⟩,e2,e3,e4⟩
  have e0:Y.cell? ⟨W.heap.size,0,none⟩=some (.bool false):=kC 0
  have e1:Y.cell? ⟨W.heap.size,1,none⟩=some (.bool false):=kC 1
  have e9:Y.cell? ⟨W.heap.size,2,none⟩=some (.bool false):=kC 2
  have jB0:=jC 0
  have jB1:=jC 1
  have jB2:=jC 2
  clear hb
  go_wp2_with fail
  refine at_world (VAt W (false,false,false)) (vAt_put' hby ⟨yC,kC,jC⟩ (false,false,false)) ?_
  rintro Z ⟨x0,x1,x2,hbz⟩
  clear hby kC jC e0 e1 e9 e2 e3 e4 jB0 jB1 jB2 jB kB
  refine bodyPost_ret (v:=vV (false,false,false)) (by simp [results,Tryz.results161,go_sem,x0,x1,x2,vV]) rfl ⟨rfl,hbz⟩
end
end Go.Proofs.YtlopleeopnnoeaaGreat.TK
namespace Go.Proofs.YtlopleeopnnoeaaGreat.RW
open Go.RowKit
def fIdx (L:List Row)(kind r:Int):Nat:=L.findIdx (Row.has kind r)
def findV (L:List Row)(kind r:Int):Int:=if 0≤r∧r≤MS∧fIdx L kind r<L.length then (fIdx L kind r:Int)else -1
theorem fIdx_at {L:List Row}{kind r:Int}{k:Nat}{x:Row}(hx:L[k]? =some x)(h:Row.has kind r x=true)(hn:∀j y,j<k→L[j]? =some y→Row.has kind r y=false):fIdx L kind r=k:=by
 obtain⟨hk,e⟩:=List.getElem?_eq_some_iff.1 hx
 unfold fIdx
 rw [List.findIdx_eq hk]
 exact⟨by rw [e];exact h,fun j hj=>hn j _ hj (List.getElem?_eq_getElem (by omega))⟩
theorem fIdx_no {L:List Row}{kind r:Int}(hn:∀j y,j<L.length→L[j]? =some y→Row.has kind r y=false):fIdx L kind r=L.length:=by
 unfold fIdx
 rw [List.findIdx_eq_length]
 intro y hy
 obtain⟨j,hj,e⟩:=List.getElem_of_mem hy
 exact hn j y hj (by rw [List.getElem?_eq_getElem hj,e])
set_option maxHeartbeats 4000000 in
theorem find_any (A:Option Addr)(c:Nat)(L:List Row)(kind r:Int)(w:World)(hL:Li 5 encR w (fun _=>True) A L)(hc:L.length≤c)(hn:L.length≤100000):
  Calls Tryz.prog 162 #[.slice A L.length c,.int .i64 kind,.int .i64 r] w fun e w'=>e= .returned (.int .i64 (findV L kind r))∧w=w':=by
 by_cases hr:0≤r∧r≤1114111
 ·obtain⟨h1,h2⟩:=hr
  have g1:decide (r<0)=false:=decide_eq_false (by omega)
  have g2:decide ((1114111:Int)<r)=false:=decide_eq_false (by omega)
  have HL:=Lib.hid hL
  have HV:=Lib.hid (show (∀ (k:Nat) (x:Row),L[k]? =some x→Row.has kind r x=true→(∀ (j:Nat) (y:Row),j<k→L[j]? =some y→Row.has kind r y=false)→findV L kind r=k)∧((∀ (j:Nat) (y:Row),j<L.length→L[j]? =some y→Row.has kind r y=false)→findV L kind r= -1)from
   ⟨fun k x a b d=>by rw [findV,fIdx_at a b d,if_pos ⟨h1,h2,(List.getElem?_eq_some_iff.1 a).1⟩],fun a=>by rw [findV,fIdx_no a,if_neg (by omega)]⟩)
  clear hL
  go_enter Tryz.func162,Tryz.ntmps162
  go_wp2
  go_loop [7] (fun i=>∃k:Nat,k≤L.length∧i= .int .i64 k∧Hid (∀ (j:Nat) (y:Row),j<k→L[j]? =some y→Row.has kind r y=false)) (fun i=>L.length -(intOf i).toNat)
  case atStart=>exact⟨0,Nat.zero_le _,rfl,fun j y h=>absurd h (by omega)⟩
  case round=>
   obtain⟨k,hk,rfl,HN⟩:=hrel
   by_cases hlt:k<L.length
   ·obtain⟨x,b,o,hx,rfl,hbl,_,c0,c1,c2,c3,c4⟩:=HL.out.row hlt
    have HX:=Lib.hid hx
    have step:Row.has kind r x=false→∀ (j:Nat) (y:Row),j<k+1→L[j]? =some y→Row.has kind r y=false:=fun h j y hj hy=>by
     by_cases e:j=k
     ·subst e;rw [HX.out]at hy;injection hy with hy;subst hy;exact h
     ·exact HN.out j y (by omega) hy
    have HS:=Lib.hid step
    clear hx step c3 c4
    by_cases e1:x.k=kind
    ·have d1:(x.k==kind)=true:=by simpa using e1
     by_cases e2:x.f≤r
     ·by_cases e3:r≤x.t
      ·have HR:=Lib.hid (HV.out.1 k x HX.out (by simp [Row.has,e1,e2,e3]) HN.out)
       have d2:decide (x.f≤r)=true:=decide_eq_true e2
       have d3:decide (r≤x.t)=true:=decide_eq_true e3
       clear e1
       go_wp2
       go_ret
       exact⟨by rw [HR.out]<;>rfl,rfl⟩
      ·have HR:=Lib.hid (HS.out (by simp [Row.has];omega))
       have d2:decide (x.f≤r)=true:=decide_eq_true e2
       have d3:decide (r≤x.t)=false:=decide_eq_false e3
       clear e1
       go_wp2
       go_round
       case rel=>exact⟨k+1,by omega,by go_num,HR.out⟩
       case measure=>simp [intOf];omega
     ·have HR:=Lib.hid (HS.out (by simp [Row.has];omega))
      have d2:decide (x.f≤r)=false:=decide_eq_false e2
      clear e1
      go_wp2
      go_round
      case rel=>exact⟨k+1,by omega,by go_num,HR.out⟩
      case measure=>simp [intOf];omega
    ·have HR:=Lib.hid (HS.out (by simp [Row.has,e1]))
     have d1:(x.k==kind)=false:=by simpa using e1
     clear e1
     go_wp2
     go_round
     case rel=>exact⟨k+1,by omega,by go_num,HR.out⟩
     case measure=>simp [intOf];omega
   ·obtain rfl:k=L.length:=by omega
    have HR:=Lib.hid (HV.out.2 HN.out)
    clear hlt
    go_wp2
    go_ret
    exact⟨by rw [HR.out]<;>rfl,rfl⟩
 ·have HV:=Lib.hid (show findV L kind r= -1 from by rw [findV,if_neg fun h=>hr ⟨h.1,h.2.1⟩])
  have hr2:r<0∨(0≤r∧1114111<r):=by omega
  clear hL hr
  rcases hr2 with h|⟨h,h'⟩
  all_goals
   go_enter Tryz.func162,Tryz.ntmps162
   go_wp2
   go_ret
   exact⟨by rw [HV.out]<;>rfl,rfl⟩
end Go.Proofs.YtlopleeopnnoeaaGreat.RW
namespace Go.Proofs.YtlopleeopnnoeaaGreat.RW
open Go.RowKit
theorem find_idx {α:Type}(p:α→Bool):∀L:List α,L.find? p=L[L.findIdx p]?
 |[]=>rfl
 |x::L=>by
  rw [List.findIdx_cons]
  by_cases h:p x=true
  ·rw [List.find?_cons_of_pos h,h];rfl
  ·have h':p x=false:=by simpa using h
   rw [List.find?_cons_of_neg h,find_idx p L,h']
   rfl
theorem findV_rin (L:List Row)(kind r:Int):(findV L kind r= -1∧rin kind L r=none)∨∃ (k:Nat) (x:Row),findV L kind r=(k:Int)∧L[k]? =some x∧rin kind L r=some (x.a,x.b):=by
 unfold findV rin rval
 by_cases h:0≤r∧r≤1114111
 ·rw [if_pos h,find_idx]
  by_cases hk:fIdx L kind r<L.length
  ·right
   refine⟨fIdx L kind r,L[fIdx L kind r],?_,List.getElem?_eq_getElem hk,?_⟩
   ·rw [if_pos ⟨h.1,h.2,hk⟩]
   ·rw [show L[List.findIdx (Row.has kind r) L]? =some L[fIdx L kind r]from List.getElem?_eq_getElem hk]
    rfl
  ·left
   refine⟨if_neg fun h'=>hk h'.2.2,?_⟩
   rw [show L[List.findIdx (Row.has kind r) L]? =none from List.getElem?_eq_none (by unfold fIdx at hk;omega)]
   rfl
 ·left
  exact⟨if_neg fun h'=>h ⟨h'.1,h'.2.1⟩,if_neg h⟩
set_option maxHeartbeats 4000000 in
theorem a_any (A:Option Addr)(c:Nat)(L:List Row)(kind r:Int)(w:World)(hL:Li 5 encR w (fun _=>True) A L)(hc:L.length≤c)(hn:L.length≤100000):
  Calls Tryz.prog 119 #[.slice A L.length c,.int .i64 kind,.int .i64 r] w fun e w'=>e= .returned (.int .i64 (aR L kind r))∧w=w':=by
 have C:=Lib.hid (find_any A c L kind r w hL hc hn)
 unfold aR
 rcases findV_rin L kind r with⟨h1,h2⟩|⟨k,x,h1,hx,h2⟩
 ·rw [h1]at C
  rw [h2]
  clear hL h1 h2
  go_enter Tryz.func119,Tryz.ntmps119
  go_wp2_with fail
  refine C.out.mono ?_
  rintro e w1 ⟨rfl,rfl⟩
  go_wp2
  go_ret
  exact⟨rfl,rfl⟩
 ·rw [h1]at C
  rw [h2]
  have hlt:k<L.length:=(List.getElem?_eq_some_iff.1 hx).1
  obtain⟨x',b,o,hx',rfl,hbl,_,c0,c1,c2,c3,c4⟩:=hL.row hlt
  obtain rfl:x=x':=Option.some.inj (hx.symm.trans hx')
  clear hL h1 h2 hx hx' c0 c1 c2 c4
  have g0:decide ((k:Int)<0)=false:=decide_eq_false (by omega)
  have g1:(0:Int)≤(k:Int):=by omega
  have g2:(k:Int)<(L.length:Int):=by omega
  go_enter Tryz.func119,Tryz.ntmps119
  go_wp2_with fail
  refine C.out.mono ?_
  rintro e w1 ⟨rfl,rfl⟩
  go_wp2
  go_ret
  exact⟨rfl,rfl⟩
set_option maxHeartbeats 1000000 in
theorem ofR_any (A:Option Addr)(c:Nat)(L:List Row)(kind r:Int)(w:World)(hL:Li 5 encR w (fun _=>True) A L)(hc:L.length≤c)(hn:L.length≤100000)(r0: -2147483648≤r)(r1:r≤2147483647):
  Calls Tryz.prog 72 #[.slice A L.length c,.int .i64 kind,.int .i32 r] w fun e w'=>e= .returned (.int .i64 (aR L kind r))∧w=w':=by
 have C:=Lib.hid (a_any A c L kind r w hL hc hn)
 clear hL
 go_enter Tryz.func72,Tryz.ntmps72
 go_wp2_with fail
 refine C.out.mono ?_
 rintro e w1 ⟨rfl,rfl⟩
 go_wp2
 go_ret
 exact⟨rfl,rfl⟩
end Go.Proofs.YtlopleeopnnoeaaGreat.RW
