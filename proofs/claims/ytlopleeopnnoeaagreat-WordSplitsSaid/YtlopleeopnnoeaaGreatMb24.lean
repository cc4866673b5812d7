import Derived.Test.YtlopleeopnnoeaaGreatMb23
import Derived.Test.YtlopleeopnnoeaaGreatMb05
set_option linter.unusedVariables false
set_option linter.unusedSimpArgs false
namespace Go.Proofs.YtlopleeopnnoeaaGreat
open Go.RowKit
theorem bStepS {A X Y:World}(h:Below A.heap.size A X)(h':Below X.heap.size X Y):Below A.heap.size A Y:=h.trans (h'.mono h.size)
theorem blk_six {w:World}{g:Nat}{a b c d e f:Value}(h:Blk w g #[a,b,c,d,e,f])(u0 u1 u2 u3 u4 u5:Value):Blk ((((((w.setCell ⟨g,0,none⟩ u0).setCell ⟨g,1,none⟩ u1).setCell ⟨g,2,none⟩ u2).setCell ⟨g,3,none⟩ u3).setCell ⟨g,4,none⟩ u4).setCell ⟨g,5,none⟩ u5) g #[u0,u1,u2,u3,u4,u5]:=by
 have q:=((((((h.set_ 0 (by simp) u0).set_ 1 (by simp) u1).set_ 2 (by simp) u2).set_ 3 (by simp) u3).set_ 4 (by simp) u4).set_ 5 (by simp) u5)
 have e6:(((((#[a,b,c,d,e,f].setIfInBounds 0 u0).setIfInBounds 1 u1).setIfInBounds 2 u2).setIfInBounds 3 u3).setIfInBounds 4 u4).setIfInBounds 5 u5=#[u0,u1,u2,u3,u4,u5]:=by simp
 rwa [e6]at q
theorem bel_six {B:Nat}{w X:World}(h:Below B w X){g:Nat}(hg:B≤g)(u0 u1 u2 u3 u4 u5:Value):Below B w ((((((X.setCell ⟨g,0,none⟩ u0).setCell ⟨g,1,none⟩ u1).setCell ⟨g,2,none⟩ u2).setCell ⟨g,3,none⟩ u3).setCell ⟨g,4,none⟩ u4).setCell ⟨g,5,none⟩ u5):=
 (((((h.setCell (p:=⟨g,0,none⟩) hg _).setCell (p:=⟨g,1,none⟩) hg _).setCell (p:=⟨g,2,none⟩) hg _).setCell (p:=⟨g,3,none⟩) hg _).setCell (p:=⟨g,4,none⟩) hg _).setCell (p:=⟨g,5,none⟩) hg _
set_option maxHeartbeats 8000000 in
set_option maxRecDepth 100000 in
theorem step_any (s:SG.St)(t:Value)(r br cj:Int)(pc:Bool)(w:World)
  (CB:Hid (∀X,Below w.heap.size w X→Calls Tryz.prog 71 #[t,.int .i32 r] X (fun e w'=>e= .returned (.int .i64 br)∧Below X.heap.size X w')))
  (CC:Hid (∀X,Below w.heap.size w X→Calls Tryz.prog 163 #[t,.int .i32 r] X (fun e w'=>e= .returned (.int .i64 cj)∧Below X.heap.size X w')))
  (CP:Hid (∀X,Below w.heap.size w X→Calls Tryz.prog 69 #[t,.int .i32 r] X (fun e w'=>e= .returned (.bool pc)∧Below X.heap.size X w'))):
  Calls Tryz.prog 120 #[vSt s,t,.int .i32 r] w fun e w'=>e= .returned (.tuple #[vSt ⟨true,br,SG.behindC s.conj cj,pc||s.pict&&br==4,s.pict&&br==5,br==6&& !s.odd⟩,.bool (!s.some||SG.partsB s br cj pc)])∧Below w.heap.size w w':=by
 obtain⟨s0,s1,s2,s3,s4,s5⟩:=s
 dsimp only [vSt]
 obtain⟨V,hV⟩:∃V,SG.partsB ⟨s0,s1,s2,s3,s4,s5⟩ br cj pc=V:=⟨_,rfl⟩
 obtain⟨bc,hbc⟩:∃bc,SG.behindC s2 cj=bc:=⟨_,rfl⟩
 rw [hV,hbc]
 have CV:=Lib.hid (fun X=>parts_any ⟨s0,s1,s2,s3,s4,s5⟩ br cj pc X)
 have CH:=Lib.hid (fun X=>behind_any ⟨s0,s1,s2,s3,s4,s5⟩ cj X)
 simp only [hV]at CV
 simp only [hbc]at CH
 clear hV hbc
 obtain⟨q4,hq4⟩:∃q,(br==4)=q:=⟨_,rfl⟩
 obtain⟨q5,hq5⟩:∃q,(br==5)=q:=⟨_,rfl⟩
 obtain⟨q6,hq6⟩:∃q,(br==6)=q:=⟨_,rfl⟩
 rw [hq4,hq5,hq6]
 go_enter Tryz.func120,Tryz.ntmps120
 go_wp2_with fail
 refine atCalls (fun X=>Below w.heap.size w X∧Blk X w.heap.size #[.bool s0,.int .i64 s1,.int .i64 s2,.bool s3,.bool s4,.bool s5]∧Blk X (w.heap.size+1) #[.bool false,.int .i64 0,.int .i64 0,.bool false,.bool false,.bool false]) ⟨((Below.refl _ _).alloc (Nat.le_refl _) _).alloc (by simp) _,(blk_new w _ _).alloc _,by have:=blk_new (w.alloc (.cells #[.bool s0,.int .i64 s1,.int .i64 s2,.bool s3,.bool s4,.bool s5] 173)) #[.bool false,.int .i64 0,.int .i64 0,.bool false,.bool false,.bool false] 173;rwa [World.size_alloc]at this⟩ ?_
 rintro X ⟨hX,B1,B2⟩
 have HX:=Lib.hid (And.intro hX (And.intro B1 B2))
 clear hX B1 B2
 refine(CB.out X HX.out.1).mono ?_
 rintro e w1 ⟨rfl,hb⟩
 have H1:=Lib.hid (And.intro (bStepS HX.out.1 hb) (And.intro (HX.out.2.1.later hb HX.out.2.1.1) (HX.out.2.2.later hb HX.out.2.2.1)))
 clear hb HX
 go_wp2_with fail
 refine(CC.out w1 H1.out.1).mono ?_
 rintro e w2 ⟨rfl,hb⟩
 have H2:=Lib.hid (And.intro (bStepS H1.out.1 hb) (And.intro (H1.out.2.1.later hb H1.out.2.1.1) (H1.out.2.2.later hb H1.out.2.2.1)))
 clear hb H1
 go_wp2_with fail
 refine(CP.out w2 H2.out.1).mono ?_
 rintro e w3 ⟨rfl,hb⟩
 have H3:=Lib.hid (And.intro (bStepS H2.out.1 hb) (And.intro (H2.out.2.1.later hb H2.out.2.1.1) (H2.out.2.2.later hb H2.out.2.2.1)))
 clear hb H2
 go_upto_region 2 with fail
 obtain⟨B,hB⟩:∃B,w.heap.size=B:=⟨_,rfl⟩
 simp only [hB]at H3 CB CC CP ⊢
 have HS:=Lib.hid (fun(Z:World) (hZ:Below w3.heap.size w3 Z)=>(show Z.cell? ⟨B,0,none⟩=some (.bool s0)∧Z.cell? ⟨B,1,none⟩=some (.int .i64 s1)∧Z.cell? ⟨B,2,none⟩=some (.int .i64 s2)∧Z.cell? ⟨B,3,none⟩=some (.bool s3)∧Z.cell? ⟨B,4,none⟩=some (.bool s4)∧Z.cell? ⟨B,5,none⟩=some (.bool s5)from have b:=H3.out.2.1.later hZ H3.out.2.1.1;⟨b.2.1 0,b.2.1 1,b.2.1 2,b.2.1 3,b.2.1 4,b.2.1 5⟩))
 go_cut [11]from 21 to 47 (fun s11 wx=>∃N,s11= .pointer (some ⟨N,0,none⟩)∧Hid (Below B w wx∧Blk wx N #[.bool true,.int .i64 br,.int .i64 bc,.bool (pc||s3&&q4),.bool (s3&&q5),.bool (q6&& !s5)]∧Blk wx (B+1) #[.bool false,.int .i64 0,.int .i64 0,.bool false,.bool false,.bool false]∧Blk wx B #[.bool s0,.int .i64 s1,.int .i64 s2,.bool s3,.bool s4,.bool s5]∧B+1<N))
 case first=>
  rename_i J7 K7 hJ7 hK7
  refine wp_region_noPanic ?_
  refine wp_region_held (S:=fun Z=>Z.cell? ⟨B,0,none⟩=some (.bool s0)∧Z.cell? ⟨B,1,none⟩=some (.int .i64 s1)∧Z.cell? ⟨B,2,none⟩=some (.int .i64 s2)∧Z.cell? ⟨B,3,none⟩=some (.bool s3)∧Z.cell? ⟨B,4,none⟩=some (.bool s4)∧Z.cell? ⟨B,5,none⟩=some (.bool s5)) (by kernel_rfl) ?_
  change wpAnyH _ _ _ _ _ _ _ _ (World.drew _)
  refine wpAnyH_take (i:=0) (oi:=⟨some 21,.move (.tmp 8),3,"seg.go:31",#[],none⟩) (v:= .int .i64 br) rfl (by kernel_rfl) (by kernel_rfl) (by kernel_rfl) (fun _ _ _ h=>h) ?_ (by exact HS.out _ (Below.refl _ _).drew) ?_
  ·(first|exact Or.inr ⟨by rfl,by rfl⟩|(refine Or.inl ⟨by rfl,?_⟩;intro Z hZ;obtain⟨z0,z1,z2,z3,z4,z5⟩:=hZ;go_simp;try rfl))
  simp only [Act.put,List.setIfInBounds_toArray,List.set_cons_zero,List.set_cons_succ]
  refine wpAnyH_take (i:=1) (oi:=⟨some 22,.load 173 (.tmp 3),173,"seg.go:31",#[],none⟩) (v:= .agg #[.bool s0,.int .i64 s1,.int .i64 s2,.bool s3,.bool s4,.bool s5]) rfl (by kernel_rfl) (by kernel_rfl) (by kernel_rfl) (fun _ _ _ h=>h) ?_ (by exact HS.out _ (Below.refl _ _).drew) ?_
  ·(first|exact Or.inr ⟨by rfl,by rfl⟩|(refine Or.inl ⟨by rfl,?_⟩;intro Z hZ;obtain⟨z0,z1,z2,z3,z4,z5⟩:=hZ;go_simp;try rfl))
  simp only [Act.put,List.setIfInBounds_toArray,List.set_cons_zero,List.set_cons_succ]
  refine wpAnyH_take (i:=2) (oi:=⟨some 23,.move (.tmp 9),3,"seg.go:31",#[],none⟩) (v:= .int .i64 cj) rfl (by kernel_rfl) (by kernel_rfl) (by kernel_rfl) (fun _ _ _ h=>h) ?_ (by exact HS.out _ (Below.refl _ _).drew) ?_
  ·(first|exact Or.inr ⟨by rfl,by rfl⟩|(refine Or.inl ⟨by rfl,?_⟩;intro Z hZ;obtain⟨z0,z1,z2,z3,z4,z5⟩:=hZ;go_simp;try rfl))
  simp only [Act.put,List.setIfInBounds_toArray,List.set_cons_zero,List.set_cons_succ]
  refine wpAnyH_take (i:=4) (oi:=⟨some 25,.move (.tmp 10),4,"seg.go:31",#[],none⟩) (v:= .bool pc) rfl (by kernel_rfl) (by kernel_rfl) (by kernel_rfl) (fun _ _ _ h=>h) ?_ (by exact HS.out _ (Below.refl _ _).drew) ?_
  ·(first|exact Or.inr ⟨by rfl,by rfl⟩|(refine Or.inl ⟨by rfl,?_⟩;intro Z hZ;obtain⟨z0,z1,z2,z3,z4,z5⟩:=hZ;go_simp;try rfl))
  simp only [Act.put,List.setIfInBounds_toArray,List.set_cons_zero,List.set_cons_succ]
  refine wpAnyH_take (i:=13) (oi:=⟨some 34,.fieldAddr 173 (.tmp 3) 3,0,"seg.go:31",#[],none⟩) (v:= .pointer (some ⟨B,3,none⟩)) rfl (by kernel_rfl) (by kernel_rfl) (by kernel_rfl) (fun _ _ _ h=>h) ?_ (by exact HS.out _ (Below.refl _ _).drew) ?_
  ·(first|exact Or.inr ⟨by rfl,by rfl⟩|(refine Or.inl ⟨by rfl,?_⟩;intro Z hZ;obtain⟨z0,z1,z2,z3,z4,z5⟩:=hZ;go_simp;try rfl))
  simp only [Act.put,List.setIfInBounds_toArray,List.set_cons_zero,List.set_cons_succ]
  refine wpAnyH_take (i:=14) (oi:=⟨some 35,.load 4 (.tmp 34),4,"seg.go:31",#[⟨13,.data⟩],none⟩) (v:= .bool s3) rfl (by kernel_rfl) (by kernel_rfl) (by kernel_rfl) (fun _ _ _ h=>h) ?_ (by exact HS.out _ (Below.refl _ _).drew) ?_
  ·(first|exact Or.inr ⟨by rfl,by rfl⟩|(refine Or.inl ⟨by rfl,?_⟩;intro Z hZ;obtain⟨z0,z1,z2,z3,z4,z5⟩:=hZ;go_simp;try rfl))
  simp only [Act.put,List.setIfInBounds_toArray,List.set_cons_zero,List.set_cons_succ]
  refine wpAnyH_take (i:=19) (oi:=⟨some 40,.move (.tmp 8),3,"seg.go:31",#[],none⟩) (v:= .int .i64 br) rfl (by kernel_rfl) (by kernel_rfl) (by kernel_rfl) (fun _ _ _ h=>h) ?_ (by exact HS.out _ (Below.refl _ _).drew) ?_
  ·(first|exact Or.inr ⟨by rfl,by rfl⟩|(refine Or.inl ⟨by rfl,?_⟩;intro Z hZ;obtain⟨z0,z1,z2,z3,z4,z5⟩:=hZ;go_simp;try rfl))
  simp only [Act.put,List.setIfInBounds_toArray,List.set_cons_zero,List.set_cons_succ]
  refine wpAnyH_take (i:=20) (oi:=⟨some 41,.binOp Go.BinOp.eql 3 (.tmp 40) (.const (Go.Value.int Go.IntKind.i64 6)) 3,4,"seg.go:31",#[⟨19,.data⟩],none⟩) (v:= .bool q6) rfl (by kernel_rfl) (by kernel_rfl) (by kernel_rfl) (fun _ _ _ h=>h) ?_ (by exact HS.out _ (Below.refl _ _).drew) ?_
  ·(first|exact Or.inr ⟨by rfl,by rfl⟩|(refine Or.inl ⟨by rfl,?_⟩;intro Z hZ;obtain⟨z0,z1,z2,z3,z4,z5⟩:=hZ;go_simp;try rfl))
  simp only [Act.put,List.setIfInBounds_toArray,List.set_cons_zero,List.set_cons_succ]
  refine wpAnyH_all (rs:=[3,27]) (by kernel_rfl) (by simp) (List.forall_mem_cons.2 ⟨wpOp_some (o:={dst:=some 24,op:=Go.Op.call {callee:=Go.Callee.value (Go.Operand.func 164),args:=#[Go.Operand.tmp 22,Go.Operand.tmp 23],argTypes:=#[173,3]},type:= 3,pos:= "seg.go:34",after:=#[⟨1,.data⟩,⟨2,.data⟩],guard:=none}) rfl (by rfl) (fun J hJ=> ?_),(List.forall_mem_cons.2 ⟨wpOp_some (o:=⟨some 11,.alloc 173,0,"seg.go:31",#[],none⟩) rfl (by rfl) (fun J hJ=> ?_),(by simp)⟩)⟩)
  ·go_simp;go_at_call 164;refine(CH.out _).mono ?_;rintro e w5 ⟨rfl,hb5⟩;have hB5:=bStepS (A:=w3) ((Below.refl _ _).drew) hb5;clear hb5;dsimp only;refine hJ _ _ ⟨by exact HS.out _ hB5,?_⟩;clear hJ J
   try simp only [Act.put,List.setIfInBounds_toArray,List.set_cons_zero,List.set_cons_succ]
   refine wpAnyH_take (i:=5) (oi:=⟨some 26,.move (.tmp 25),4,"seg.go:31",#[⟨4,.data⟩,⟨3,.chain⟩],none⟩) (v:= .bool pc) rfl (by kernel_rfl) (by kernel_rfl) (by kernel_rfl) (fun _ _ _ h=>h) ?_ (by exact HS.out _ hB5) ?_
   ·(first|exact Or.inr ⟨by rfl,by rfl⟩|(refine Or.inl ⟨by rfl,?_⟩;intro Z hZ;obtain⟨z0,z1,z2,z3,z4,z5⟩:=hZ;go_simp;try rfl))
   simp only [Act.put,List.setIfInBounds_toArray,List.set_cons_zero,List.set_cons_succ]
   refine wpAnyH_take (i:=6) (oi:=⟨some 27,.fieldAddr 173 (.tmp 3) 3,0,"seg.go:31",#[⟨5,.guard⟩],some (5,false)⟩) (v:=if pc=true then undef else .pointer (some ⟨B,3,none⟩)) rfl (by kernel_rfl) (by kernel_rfl) (by kernel_rfl) (fun _ _ _ h=>h) ?_ (by exact HS.out _ hB5) ?_
   ·cases pc<;> (first|exact Or.inr ⟨by rfl,by rfl⟩|(refine Or.inl ⟨by rfl,?_⟩;intro Z hZ;obtain⟨z0,z1,z2,z3,z4,z5⟩:=hZ;go_simp;try rfl))
   simp only [Act.put,List.setIfInBounds_toArray,List.set_cons_zero,List.set_cons_succ]
   refine wpAnyH_take (i:=7) (oi:=⟨some 28,.load 4 (.tmp 27),4,"seg.go:31",#[⟨6,.data⟩,⟨5,.guard⟩],some (5,false)⟩) (v:=if pc=true then undef else .bool s3) rfl (by kernel_rfl) (by kernel_rfl) (by kernel_rfl) (fun _ _ _ h=>h) ?_ (by exact HS.out _ hB5) ?_
   ·cases pc<;> (first|exact Or.inr ⟨by rfl,by rfl⟩|(refine Or.inl ⟨by rfl,?_⟩;intro Z hZ;obtain⟨z0,z1,z2,z3,z4,z5⟩:=hZ;go_simp;try rfl))
   simp only [Act.put,List.setIfInBounds_toArray,List.set_cons_zero,List.set_cons_succ]
   refine wpAnyH_take (i:=8) (oi:=⟨some 29,.move (.tmp 28),4,"seg.go:31",#[⟨7,.data⟩,⟨5,.chain⟩,⟨5,.guard⟩],some (5,false)⟩) (v:=if pc=true then undef else .bool s3) rfl (by kernel_rfl) (by kernel_rfl) (by kernel_rfl) (fun _ _ _ h=>h) ?_ (by exact HS.out _ hB5) ?_
   ·cases pc<;> (first|exact Or.inr ⟨by rfl,by rfl⟩|(refine Or.inl ⟨by rfl,?_⟩;intro Z hZ;obtain⟨z0,z1,z2,z3,z4,z5⟩:=hZ;go_simp;try rfl))
   simp only [Act.put,List.setIfInBounds_toArray,List.set_cons_zero,List.set_cons_succ]
   refine wpAnyH_take (i:=9) (oi:=⟨some 30,.move (.tmp 8),3,"seg.go:31",#[⟨8,.guard⟩],some (8,true)⟩) (v:=if pc=true then undef else if s3=true then .int .i64 br else undef) rfl (by kernel_rfl) (by kernel_rfl) (by kernel_rfl) (fun _ _ _ h=>h) ?_ (by exact HS.out _ hB5) ?_
   ·cases pc<;>cases s3<;> (first|exact Or.inr ⟨by rfl,by rfl⟩|(refine Or.inl ⟨by rfl,?_⟩;intro Z hZ;obtain⟨z0,z1,z2,z3,z4,z5⟩:=hZ;go_simp;try rfl))
   simp only [Act.put,List.setIfInBounds_toArray,List.set_cons_zero,List.set_cons_succ]
   refine wpAnyH_take (i:=10) (oi:=⟨some 31,.binOp Go.BinOp.eql 3 (.tmp 30) (.const (Go.Value.int Go.IntKind.i64 4)) 3,4,"seg.go:31",#[⟨9,.data⟩,⟨8,.guard⟩],some (8,true)⟩) (v:=if pc=true then undef else if s3=true then .bool q4 else undef) rfl (by kernel_rfl) (by kernel_rfl) (by kernel_rfl) (fun _ _ _ h=>h) ?_ (by exact HS.out _ hB5) ?_
   ·cases pc<;>cases s3<;> (first|exact Or.inr ⟨by rfl,by rfl⟩|(refine Or.inl ⟨by rfl,?_⟩;intro Z hZ;obtain⟨z0,z1,z2,z3,z4,z5⟩:=hZ;go_simp;try rfl))
   simp only [Act.put,List.setIfInBounds_toArray,List.set_cons_zero,List.set_cons_succ]
   refine wpAnyH_take (i:=11) (oi:=⟨some 32,.pick (.tmp 29) (.tmp 31) (.const (Go.Value.bool false)),4,"seg.go:31",#[⟨8,.data⟩,⟨10,.data⟩,⟨5,.guard⟩],some (5,false)⟩) (v:=if pc=true then undef else .bool (s3&&q4)) rfl (by kernel_rfl) (by kernel_rfl) (by kernel_rfl) (fun _ _ _ h=>h) ?_ (by exact HS.out _ hB5) ?_
   ·cases pc<;>cases s3<;> (first|exact Or.inr ⟨by rfl,by rfl⟩|(refine Or.inl ⟨by rfl,?_⟩;intro Z hZ;obtain⟨z0,z1,z2,z3,z4,z5⟩:=hZ;go_simp;try rfl))
   simp only [Act.put,List.setIfInBounds_toArray,List.set_cons_zero,List.set_cons_succ]
   refine wpAnyH_take (i:=12) (oi:=⟨some 33,.pick (.tmp 26) (.const (Go.Value.bool true)) (.tmp 32),4,"seg.go:31",#[⟨5,.data⟩,⟨11,.data⟩],none⟩) (v:= .bool (pc||s3&&q4)) rfl (by kernel_rfl) (by kernel_rfl) (by kernel_rfl) (fun _ _ _ h=>h) ?_ (by exact HS.out _ hB5) ?_
   ·cases pc<;>cases s3<;> (first|exact Or.inr ⟨by rfl,by rfl⟩|(refine Or.inl ⟨by rfl,?_⟩;intro Z hZ;obtain⟨z0,z1,z2,z3,z4,z5⟩:=hZ;go_simp;try rfl))
   simp only [Act.put,List.setIfInBounds_toArray,List.set_cons_zero,List.set_cons_succ]
   refine wpAnyH_take (i:=15) (oi:=⟨some 36,.move (.tmp 35),4,"seg.go:31",#[⟨14,.data⟩,⟨8,.chain⟩],none⟩) (v:= .bool s3) rfl (by kernel_rfl) (by kernel_rfl) (by kernel_rfl) (fun _ _ _ h=>h) ?_ (by exact HS.out _ hB5) ?_
   ·(first|exact Or.inr ⟨by rfl,by rfl⟩|(refine Or.inl ⟨by rfl,?_⟩;intro Z hZ;obtain⟨z0,z1,z2,z3,z4,z5⟩:=hZ;go_simp;try rfl))
   simp only [Act.put,List.setIfInBounds_toArray,List.set_cons_zero,List.set_cons_succ]
   refine wpAnyH_take (i:=16) (oi:=⟨some 37,.move (.tmp 8),3,"seg.go:31",#[⟨15,.guard⟩],some (15,true)⟩) (v:=if s3=true then .int .i64 br else undef) rfl (by kernel_rfl) (by kernel_rfl) (by kernel_rfl) (fun _ _ _ h=>h) ?_ (by exact HS.out _ hB5) ?_
   ·cases s3<;> (first|exact Or.inr ⟨by rfl,by rfl⟩|(refine Or.inl ⟨by rfl,?_⟩;intro Z hZ;obtain⟨z0,z1,z2,z3,z4,z5⟩:=hZ;go_simp;try rfl))
   simp only [Act.put,List.setIfInBounds_toArray,List.set_cons_zero,List.set_cons_succ]
   refine wpAnyH_take (i:=17) (oi:=⟨some 38,.binOp Go.BinOp.eql 3 (.tmp 37) (.const (Go.Value.int Go.IntKind.i64 5)) 3,4,"seg.go:31",#[⟨16,.data⟩,⟨15,.guard⟩],some (15,true)⟩) (v:=if s3=true then .bool q5 else undef) rfl (by kernel_rfl) (by kernel_rfl) (by kernel_rfl) (fun _ _ _ h=>h) ?_ (by exact HS.out _ hB5) ?_
   ·cases s3<;> (first|exact Or.inr ⟨by rfl,by rfl⟩|(refine Or.inl ⟨by rfl,?_⟩;intro Z hZ;obtain⟨z0,z1,z2,z3,z4,z5⟩:=hZ;go_simp;try rfl))
   simp only [Act.put,List.setIfInBounds_toArray,List.set_cons_zero,List.set_cons_succ]
   refine wpAnyH_take (i:=18) (oi:=⟨some 39,.pick (.tmp 36) (.tmp 38) (.const (Go.Value.bool false)),4,"seg.go:31",#[⟨15,.data⟩,⟨17,.data⟩],none⟩) (v:= .bool (s3&&q5)) rfl (by kernel_rfl) (by kernel_rfl) (by kernel_rfl) (fun _ _ _ h=>h) ?_ (by exact HS.out _ hB5) ?_
   ·cases s3<;> (first|exact Or.inr ⟨by rfl,by rfl⟩|(refine Or.inl ⟨by rfl,?_⟩;intro Z hZ;obtain⟨z0,z1,z2,z3,z4,z5⟩:=hZ;go_simp;try rfl))
   simp only [Act.put,List.setIfInBounds_toArray,List.set_cons_zero,List.set_cons_succ]
   refine wpAnyH_take (i:=21) (oi:=⟨some 42,.move (.tmp 41),4,"seg.go:31",#[⟨20,.data⟩,⟨15,.chain⟩],none⟩) (v:= .bool q6) rfl (by kernel_rfl) (by kernel_rfl) (by kernel_rfl) (fun _ _ _ h=>h) ?_ (by exact HS.out _ hB5) ?_
   ·(first|exact Or.inr ⟨by rfl,by rfl⟩|(refine Or.inl ⟨by rfl,?_⟩;intro Z hZ;obtain⟨z0,z1,z2,z3,z4,z5⟩:=hZ;go_simp;try rfl))
   simp only [Act.put,List.setIfInBounds_toArray,List.set_cons_zero,List.set_cons_succ]
   refine wpAnyH_take (i:=22) (oi:=⟨some 43,.fieldAddr 173 (.tmp 3) 5,0,"seg.go:31",#[⟨21,.guard⟩],some (21,true)⟩) (v:=if q6=true then .pointer (some ⟨B,5,none⟩)else undef) rfl (by kernel_rfl) (by kernel_rfl) (by kernel_rfl) (fun _ _ _ h=>h) ?_ (by exact HS.out _ hB5) ?_
   ·cases q6<;> (first|exact Or.inr ⟨by rfl,by rfl⟩|(refine Or.inl ⟨by rfl,?_⟩;intro Z hZ;obtain⟨z0,z1,z2,z3,z4,z5⟩:=hZ;go_simp;try rfl))
   simp only [Act.put,List.setIfInBounds_toArray,List.set_cons_zero,List.set_cons_succ]
   refine wpAnyH_take (i:=23) (oi:=⟨some 44,.load 4 (.tmp 43),4,"seg.go:31",#[⟨22,.data⟩,⟨21,.guard⟩],some (21,true)⟩) (v:=if q6=true then .bool s5 else undef) rfl (by kernel_rfl) (by kernel_rfl) (by kernel_rfl) (fun _ _ _ h=>h) ?_ (by exact HS.out _ hB5) ?_
   ·cases q6<;> (first|exact Or.inr ⟨by rfl,by rfl⟩|(refine Or.inl ⟨by rfl,?_⟩;intro Z hZ;obtain⟨z0,z1,z2,z3,z4,z5⟩:=hZ;go_simp;try rfl))
   simp only [Act.put,List.setIfInBounds_toArray,List.set_cons_zero,List.set_cons_succ]
   refine wpAnyH_take (i:=24) (oi:=⟨some 45,.unOp Go.UnOp.not 4 (.tmp 44),4,"seg.go:31",#[⟨23,.data⟩,⟨21,.guard⟩],some (21,true)⟩) (v:=if q6=true then .bool (!s5)else undef) rfl (by kernel_rfl) (by kernel_rfl) (by kernel_rfl) (fun _ _ _ h=>h) ?_ (by exact HS.out _ hB5) ?_
   ·cases q6<;> (first|exact Or.inr ⟨by rfl,by rfl⟩|(refine Or.inl ⟨by rfl,?_⟩;intro Z hZ;obtain⟨z0,z1,z2,z3,z4,z5⟩:=hZ;go_simp;try rfl))
   simp only [Act.put,List.setIfInBounds_toArray,List.set_cons_zero,List.set_cons_succ]
   refine wpAnyH_take (i:=25) (oi:=⟨some 46,.pick (.tmp 42) (.tmp 45) (.const (Go.Value.bool false)),4,"seg.go:31",#[⟨21,.data⟩,⟨24,.data⟩],none⟩) (v:= .bool (q6&& !s5)) rfl (by kernel_rfl) (by kernel_rfl) (by kernel_rfl) (fun _ _ _ h=>h) ?_ (by exact HS.out _ hB5) ?_
   ·cases q6<;> (first|exact Or.inr ⟨by rfl,by rfl⟩|(refine Or.inl ⟨by rfl,?_⟩;intro Z hZ;obtain⟨z0,z1,z2,z3,z4,z5⟩:=hZ;go_simp;try rfl))
   simp only [Act.put,List.setIfInBounds_toArray,List.set_cons_zero,List.set_cons_succ]
   refine wpAnyH_take (i:=26) (oi:=⟨some 47,.build 173 #[(0,.const (Go.Value.bool true)),(1,.tmp 21),(2,.tmp 24),(3,.tmp 33),(4,.tmp 39),(5,.tmp 46)],173,"seg.go:31",#[⟨0,.data⟩,⟨3,.data⟩,⟨12,.data⟩,⟨18,.data⟩,⟨25,.data⟩],none⟩) (v:= .agg #[.bool true,.int .i64 br,.int .i64 bc,.bool (pc||s3&&q4),.bool (s3&&q5),.bool (q6&& !s5)]) rfl (by kernel_rfl) (by kernel_rfl) (by kernel_rfl) (fun _ _ _ h=>h) ?_ (by exact HS.out _ hB5) ?_
   ·(first|exact Or.inr ⟨by rfl,by rfl⟩|(refine Or.inl ⟨by rfl,?_⟩;intro Z hZ;obtain⟨z0,z1,z2,z3,z4,z5⟩:=hZ;go_simp;try rfl))
   simp only [Act.put,List.setIfInBounds_toArray,List.set_cons_zero,List.set_cons_succ]
   refine wpAnyH_all (rs:=[27]) (by kernel_rfl) (by simp) (List.forall_mem_cons.2 ⟨wpOp_some (o:=⟨some 11,.alloc 173,0,"seg.go:31",#[],none⟩) rfl (by rfl) (fun J hJ=> ?_),(by simp)⟩)
   go_simp;refine hJ _ _ ⟨by exact HS.out _ (hB5.alloc hB5.size _),?_⟩;clear hJ J
   try simp only [Act.put,List.setIfInBounds_toArray,List.set_cons_zero,List.set_cons_succ]
   refine wpAnyH_all (rs:=[28]) (by kernel_rfl) (by simp) (List.forall_mem_cons.2 ⟨wpOp_some (o:=⟨none,.store 173 (.tmp 11) (.tmp 47),0,"seg.go:31",#[⟨27,.data⟩,⟨26,.data⟩,⟨21,.chain⟩,⟨0,.phase⟩,⟨1,.phase⟩,⟨2,.phase⟩,⟨3,.phase⟩,⟨4,.phase⟩,⟨5,.phase⟩,⟨6,.phase⟩,⟨7,.phase⟩,⟨8,.phase⟩,⟨9,.phase⟩,⟨10,.phase⟩,⟨11,.phase⟩,⟨12,.phase⟩,⟨13,.phase⟩,⟨14,.phase⟩,⟨15,.phase⟩,⟨16,.phase⟩,⟨17,.phase⟩,⟨18,.phase⟩,⟨19,.phase⟩,⟨20,.phase⟩,⟨21,.phase⟩,⟨22,.phase⟩,⟨23,.phase⟩,⟨24,.phase⟩,⟨25,.phase⟩,⟨26,.phase⟩,⟨27,.phase⟩],none⟩) rfl (by rfl) (fun J hJ=> ?_),(by simp)⟩)
   go_simp;refine hJ _ _ ⟨by exact HS.out _ (hB5.alloc hB5.size _),?_⟩;clear hJ J
   try simp only [Act.put,List.setIfInBounds_toArray,List.set_cons_zero,List.set_cons_succ]
   refine wpAnyH_done (by kernel_rfl) ?_ _
   refine at_world (fun Y=>Below w3.heap.size w3 Y∧Blk Y (w5.heap.size) #[.bool true,.int .i64 br,.int .i64 bc,.bool (pc||s3&&q4),.bool (s3&&q5),.bool (q6&& !s5)]∧B+1<w5.heap.size) ⟨hB5.alloc hB5.size _,blk_new _ _ _,by have:=hB5.size;have:=H3.out.2.2.1;omega⟩ ?_
   rintro Y hR
   have HR:=Lib.hid (show Below B w Y∧Blk Y (w5.heap.size) #[.bool true,.int .i64 br,.int .i64 bc,.bool (pc||s3&&q4),.bool (s3&&q5),.bool (q6&& !s5)]∧Blk Y (B+1) #[.bool false,.int .i64 0,.int .i64 0,.bool false,.bool false,.bool false]∧Blk Y B #[.bool s0,.int .i64 s1,.int .i64 s2,.bool s3,.bool s4,.bool s5]∧B+1<(w5.heap.size)from⟨H3.out.1.trans (hR.1.mono (by have:=H3.out.1.size;omega)),hR.2.1,H3.out.2.2.later hR.1 H3.out.2.2.1,H3.out.2.1.later hR.1 H3.out.2.1.1,hR.2.2⟩)
   clear hR
   change K7 _ _
   refine hK7 _ _ (Met.intro (hJ7 _ _ ?_))
   repeat apply Exists.intro
   refine⟨?rel,rfl⟩
   case rel=>exact⟨_,rfl,HR.out⟩
  ·go_simp;refine hJ _ _ ⟨by exact HS.out _ ((Below.refl _ _).drew.alloc (Nat.le_refl _) _),?_⟩;clear hJ J
   try simp only [Act.put,List.setIfInBounds_toArray,List.set_cons_zero,List.set_cons_succ]
   refine wpAnyH_all (rs:=[3]) (by kernel_rfl) (by simp) (List.forall_mem_cons.2 ⟨wpOp_some (o:={dst:=some 24,op:=Go.Op.call {callee:=Go.Callee.value (Go.Operand.func 164),args:=#[Go.Operand.tmp 22,Go.Operand.tmp 23],argTypes:=#[173,3]},type:= 3,pos:= "seg.go:34",after:=#[⟨1,.data⟩,⟨2,.data⟩],guard:=none}) rfl (by rfl) (fun J hJ=> ?_),(by simp)⟩)
   go_simp;go_at_call 164;refine(CH.out _).mono ?_;rintro e w5 ⟨rfl,hb5⟩;have hB5:=bStepS (A:=w3) ((Below.refl _ _).drew.alloc (Nat.le_refl _) _) hb5;have nB:Blk w5 w3.heap.size #[.bool false,.int .i64 0,.int .i64 0,.bool false,.bool false,.bool false]:=((blk_new w3.drew #[.bool false,.int .i64 0,.int .i64 0,.bool false,.bool false,.bool false] 173).later hb5 (by simp));clear hb5;dsimp only;refine hJ _ _ ⟨by exact HS.out _ hB5,?_⟩;clear hJ J
   try simp only [Act.put,List.setIfInBounds_toArray,List.set_cons_zero,List.set_cons_succ]
   refine wpAnyH_take (i:=5) (oi:=⟨some 26,.move (.tmp 25),4,"seg.go:31",#[⟨4,.data⟩,⟨3,.chain⟩],none⟩) (v:= .bool pc) rfl (by kernel_rfl) (by kernel_rfl) (by kernel_rfl) (fun _ _ _ h=>h) ?_ (by exact HS.out _ hB5) ?_
   ·(first|exact Or.inr ⟨by rfl,by rfl⟩|(refine Or.inl ⟨by rfl,?_⟩;intro Z hZ;obtain⟨z0,z1,z2,z3,z4,z5⟩:=hZ;go_simp;try rfl))
   simp only [Act.put,List.setIfInBounds_toArray,List.set_cons_zero,List.set_cons_succ]
   refine wpAnyH_take (i:=6) (oi:=⟨some 27,.fieldAddr 173 (.tmp 3) 3,0,"seg.go:31",#[⟨5,.guard⟩],some (5,false)⟩) (v:=if pc=true then undef else .pointer (some ⟨B,3,none⟩)) rfl (by kernel_rfl) (by kernel_rfl) (by kernel_rfl) (fun _ _ _ h=>h) ?_ (by exact HS.out _ hB5) ?_
   ·cases pc<;> (first|exact Or.inr ⟨by rfl,by rfl⟩|(refine Or.inl ⟨by rfl,?_⟩;intro Z hZ;obtain⟨z0,z1,z2,z3,z4,z5⟩:=hZ;go_simp;try rfl))
   simp only [Act.put,List.setIfInBounds_toArray,List.set_cons_zero,List.set_cons_succ]
   refine wpAnyH_take (i:=7) (oi:=⟨some 28,.load 4 (.tmp 27),4,"seg.go:31",#[⟨6,.data⟩,⟨5,.guard⟩],some (5,false)⟩) (v:=if pc=true then undef else .bool s3) rfl (by kernel_rfl) (by kernel_rfl) (by kernel_rfl) (fun _ _ _ h=>h) ?_ (by exact HS.out _ hB5) ?_
   ·cases pc<;> (first|exact Or.inr ⟨by rfl,by rfl⟩|(refine Or.inl ⟨by rfl,?_⟩;intro Z hZ;obtain⟨z0,z1,z2,z3,z4,z5⟩:=hZ;go_simp;try rfl))
   simp only [Act.put,List.setIfInBounds_toArray,List.set_cons_zero,List.set_cons_succ]
   refine wpAnyH_take (i:=8) (oi:=⟨some 29,.move (.tmp 28),4,"seg.go:31",#[⟨7,.data⟩,⟨5,.chain⟩,⟨5,.guard⟩],some (5,false)⟩) (v:=if pc=true then undef else .bool s3) rfl (by kernel_rfl) (by kernel_rfl) (by kernel_rfl) (fun _ _ _ h=>h) ?_ (by exact HS.out _ hB5) ?_
   ·cases pc<;> (first|exact Or.inr ⟨by rfl,by rfl⟩|(refine Or.inl ⟨by rfl,?_⟩;intro Z hZ;obtain⟨z0,z1,z2,z3,z4,z5⟩:=hZ;go_simp;try rfl))
   simp only [Act.put,List.setIfInBounds_toArray,List.set_cons_zero,List.set_cons_succ]
   refine wpAnyH_take (i:=9) (oi:=⟨some 30,.move (.tmp 8),3,"seg.go:31",#[⟨8,.guard⟩],some (8,true)⟩) (v:=if pc=true then undef else if s3=true then .int .i64 br else undef) rfl (by kernel_rfl) (by kernel_rfl) (by kernel_rfl) (fun _ _ _ h=>h) ?_ (by exact HS.out _ hB5) ?_
   ·cases pc<;>cases s3<;> (first|exact Or.inr ⟨by rfl,by rfl⟩|(refine Or.inl ⟨by rfl,?_⟩;intro Z hZ;obtain⟨z0,z1,z2,z3,z4,z5⟩:=hZ;go_simp;try rfl))
   simp only [Act.put,List.setIfInBounds_toArray,List.set_cons_zero,List.set_cons_succ]
   refine wpAnyH_take (i:=10) (oi:=⟨some 31,.binOp Go.BinOp.eql 3 (.tmp 30) (.const (Go.Value.int Go.IntKind.i64 4)) 3,4,"seg.go:31",#[⟨9,.data⟩,⟨8,.guard⟩],some (8,true)⟩) (v:=if pc=true then undef else if s3=true then .bool q4 else undef) rfl (by kernel_rfl) (by kernel_rfl) (by kernel_rfl) (fun _ _ _ h=>h) ?_ (by exact HS.out _ hB5) ?_
   ·cases pc<;>cases s3<;> (first|exact Or.inr ⟨by rfl,by rfl⟩|(refine Or.inl ⟨by rfl,?_⟩;intro Z hZ;obtain⟨z0,z1,z2,z3,z4,z5⟩:=hZ;go_simp;try rfl))
   simp only [Act.put,List.setIfInBounds_toArray,List.set_cons_zero,List.set_cons_succ]
   refine wpAnyH_take (i:=11) (oi:=⟨some 32,.pick (.tmp 29) (.tmp 31) (.const (Go.Value.bool false)),4,"seg.go:31",#[⟨8,.data⟩,⟨10,.data⟩,⟨5,.guard⟩],some (5,false)⟩) (v:=if pc=true then undef else .bool (s3&&q4)) rfl (by kernel_rfl) (by kernel_rfl) (by kernel_rfl) (fun _ _ _ h=>h) ?_ (by exact HS.out _ hB5) ?_
   ·cases pc<;>cases s3<;> (first|exact Or.inr ⟨by rfl,by rfl⟩|(refine Or.inl ⟨by rfl,?_⟩;intro Z hZ;obtain⟨z0,z1,z2,z3,z4,z5⟩:=hZ;go_simp;try rfl))
   simp only [Act.put,List.setIfInBounds_toArray,List.set_cons_zero,List.set_cons_succ]
   refine wpAnyH_take (i:=12) (oi:=⟨some 33,.pick (.tmp 26) (.const (Go.Value.bool true)) (.tmp 32),4,"seg.go:31",#[⟨5,.data⟩,⟨11,.data⟩],none⟩) (v:= .bool (pc||s3&&q4)) rfl (by kernel_rfl) (by kernel_rfl) (by kernel_rfl) (fun _ _ _ h=>h) ?_ (by exact HS.out _ hB5) ?_
   ·cases pc<;>cases s3<;> (first|exact Or.inr ⟨by rfl,by rfl⟩|(refine Or.inl ⟨by rfl,?_⟩;intro Z hZ;obtain⟨z0,z1,z2,z3,z4,z5⟩:=hZ;go_simp;try rfl))
   simp only [Act.put,List.setIfInBounds_toArray,List.set_cons_zero,List.set_cons_succ]
   refine wpAnyH_take (i:=15) (oi:=⟨some 36,.move (.tmp 35),4,"seg.go:31",#[⟨14,.data⟩,⟨8,.chain⟩],none⟩) (v:= .bool s3) rfl (by kernel_rfl) (by kernel_rfl) (by kernel_rfl) (fun _ _ _ h=>h) ?_ (by exact HS.out _ hB5) ?_
   ·(first|exact Or.inr ⟨by rfl,by rfl⟩|(refine Or.inl ⟨by rfl,?_⟩;intro Z hZ;obtain⟨z0,z1,z2,z3,z4,z5⟩:=hZ;go_simp;try rfl))
   simp only [Act.put,List.setIfInBounds_toArray,List.set_cons_zero,List.set_cons_succ]
   refine wpAnyH_take (i:=16) (oi:=⟨some 37,.move (.tmp 8),3,"seg.go:31",#[⟨15,.guard⟩],some (15,true)⟩) (v:=if s3=true then .int .i64 br else undef) rfl (by kernel_rfl) (by kernel_rfl) (by kernel_rfl) (fun _ _ _ h=>h) ?_ (by exact HS.out _ hB5) ?_
   ·cases s3<;> (first|exact Or.inr ⟨by rfl,by rfl⟩|(refine Or.inl ⟨by rfl,?_⟩;intro Z hZ;obtain⟨z0,z1,z2,z3,z4,z5⟩:=hZ;go_simp;try rfl))
   simp only [Act.put,List.setIfInBounds_toArray,List.set_cons_zero,List.set_cons_succ]
   refine wpAnyH_take (i:=17) (oi:=⟨some 38,.binOp Go.BinOp.eql 3 (.tmp 37) (.const (Go.Value.int Go.IntKind.i64 5)) 3,4,"seg.go:31",#[⟨16,.data⟩,⟨15,.guard⟩],some (15,true)⟩) (v:=if s3=true then .bool q5 else undef) rfl (by kernel_rfl) (by kernel_rfl) (by kernel_rfl) (fun _ _ _ h=>h) ?_ (by exact HS.out _ hB5) ?_
   ·cases s3<;> (first|exact Or.inr ⟨by rfl,by rfl⟩|(refine Or.inl ⟨by rfl,?_⟩;intro Z hZ;obtain⟨z0,z1,z2,z3,z4,z5⟩:=hZ;go_simp;try rfl))
   simp only [Act.put,List.setIfInBounds_toArray,List.set_cons_zero,List.set_cons_succ]
   refine wpAnyH_take (i:=18) (oi:=⟨some 39,.pick (.tmp 36) (.tmp 38) (.const (Go.Value.bool false)),4,"seg.go:31",#[⟨15,.data⟩,⟨17,.data⟩],none⟩) (v:= .bool (s3&&q5)) rfl (by kernel_rfl) (by kernel_rfl) (by kernel_rfl) (fun _ _ _ h=>h) ?_ (by exact HS.out _ hB5) ?_
   ·cases s3<;> (first|exact Or.inr ⟨by rfl,by rfl⟩|(refine Or.inl ⟨by rfl,?_⟩;intro Z hZ;obtain⟨z0,z1,z2,z3,z4,z5⟩:=hZ;go_simp;try rfl))
   simp only [Act.put,List.setIfInBounds_toArray,List.set_cons_zero,List.set_cons_succ]
   refine wpAnyH_take (i:=21) (oi:=⟨some 42,.move (.tmp 41),4,"seg.go:31",#[⟨20,.data⟩,⟨15,.chain⟩],none⟩) (v:= .bool q6) rfl (by kernel_rfl) (by kernel_rfl) (by kernel_rfl) (fun _ _ _ h=>h) ?_ (by exact HS.out _ hB5) ?_
   ·(first|exact Or.inr ⟨by rfl,by rfl⟩|(refine Or.inl ⟨by rfl,?_⟩;intro Z hZ;obtain⟨z0,z1,z2,z3,z4,z5⟩:=hZ;go_simp;try rfl))
   simp only [Act.put,List.setIfInBounds_toArray,List.set_cons_zero,List.set_cons_succ]
   refine wpAnyH_take (i:=22) (oi:=⟨some 43,.fieldAddr 173 (.tmp 3) 5,0,"seg.go:31",#[⟨21,.guard⟩],some (21,true)⟩) (v:=if q6=true then .pointer (some ⟨B,5,none⟩)else undef) rfl (by kernel_rfl) (by kernel_rfl) (by kernel_rfl) (fun _ _ _ h=>h) ?_ (by exact HS.out _ hB5) ?_
   ·cases q6<;> (first|exact Or.inr ⟨by rfl,by rfl⟩|(refine Or.inl ⟨by rfl,?_⟩;intro Z hZ;obtain⟨z0,z1,z2,z3,z4,z5⟩:=hZ;go_simp;try rfl))
   simp only [Act.put,List.setIfInBounds_toArray,List.set_cons_zero,List.set_cons_succ]
   refine wpAnyH_take (i:=23) (oi:=⟨some 44,.load 4 (.tmp 43),4,"seg.go:31",#[⟨22,.data⟩,⟨21,.guard⟩],some (21,true)⟩) (v:=if q6=true then .bool s5 else undef) rfl (by kernel_rfl) (by kernel_rfl) (by kernel_rfl) (fun _ _ _ h=>h) ?_ (by exact HS.out _ hB5) ?_
   ·cases q6<;> (first|exact Or.inr ⟨by rfl,by rfl⟩|(refine Or.inl ⟨by rfl,?_⟩;intro Z hZ;obtain⟨z0,z1,z2,z3,z4,z5⟩:=hZ;go_simp;try rfl))
   simp only [Act.put,List.setIfInBounds_toArray,List.set_cons_zero,List.set_cons_succ]
   refine wpAnyH_take (i:=24) (oi:=⟨some 45,.unOp Go.UnOp.not 4 (.tmp 44),4,"seg.go:31",#[⟨23,.data⟩,⟨21,.guard⟩],some (21,true)⟩) (v:=if q6=true then .bool (!s5)else undef) rfl (by kernel_rfl) (by kernel_rfl) (by kernel_rfl) (fun _ _ _ h=>h) ?_ (by exact HS.out _ hB5) ?_
   ·cases q6<;> (first|exact Or.inr ⟨by rfl,by rfl⟩|(refine Or.inl ⟨by rfl,?_⟩;intro Z hZ;obtain⟨z0,z1,z2,z3,z4,z5⟩:=hZ;go_simp;try rfl))
   simp only [Act.put,List.setIfInBounds_toArray,List.set_cons_zero,List.set_cons_succ]
   refine wpAnyH_take (i:=25) (oi:=⟨some 46,.pick (.tmp 42) (.tmp 45) (.const (Go.Value.bool false)),4,"seg.go:31",#[⟨21,.data⟩,⟨24,.data⟩],none⟩) (v:= .bool (q6&& !s5)) rfl (by kernel_rfl) (by kernel_rfl) (by kernel_rfl) (fun _ _ _ h=>h) ?_ (by exact HS.out _ hB5) ?_
   ·cases q6<;> (first|exact Or.inr ⟨by rfl,by rfl⟩|(refine Or.inl ⟨by rfl,?_⟩;intro Z hZ;obtain⟨z0,z1,z2,z3,z4,z5⟩:=hZ;go_simp;try rfl))
   simp only [Act.put,List.setIfInBounds_toArray,List.set_cons_zero,List.set_cons_succ]
   refine wpAnyH_take (i:=26) (oi:=⟨some 47,.build 173 #[(0,.const (Go.Value.bool true)),(1,.tmp 21),(2,.tmp 24),(3,.tmp 33),(4,.tmp 39),(5,.tmp 46)],173,"seg.go:31",#[⟨0,.data⟩,⟨3,.data⟩,⟨12,.data⟩,⟨18,.data⟩,⟨25,.data⟩],none⟩) (v:= .agg #[.bool true,.int .i64 br,.int .i64 bc,.bool (pc||s3&&q4),.bool (s3&&q5),.bool (q6&& !s5)]) rfl (by kernel_rfl) (by kernel_rfl) (by kernel_rfl) (fun _ _ _ h=>h) ?_ (by exact HS.out _ hB5) ?_
   ·(first|exact Or.inr ⟨by rfl,by rfl⟩|(refine Or.inl ⟨by rfl,?_⟩;intro Z hZ;obtain⟨z0,z1,z2,z3,z4,z5⟩:=hZ;go_simp;try rfl))
   simp only [Act.put,List.setIfInBounds_toArray,List.set_cons_zero,List.set_cons_succ]
   refine wpAnyH_all (rs:=[28]) (by kernel_rfl) (by simp) (List.forall_mem_cons.2 ⟨wpOp_some (o:=⟨none,.store 173 (.tmp 11) (.tmp 47),0,"seg.go:31",#[⟨27,.data⟩,⟨26,.data⟩,⟨21,.chain⟩,⟨0,.phase⟩,⟨1,.phase⟩,⟨2,.phase⟩,⟨3,.phase⟩,⟨4,.phase⟩,⟨5,.phase⟩,⟨6,.phase⟩,⟨7,.phase⟩,⟨8,.phase⟩,⟨9,.phase⟩,⟨10,.phase⟩,⟨11,.phase⟩,⟨12,.phase⟩,⟨13,.phase⟩,⟨14,.phase⟩,⟨15,.phase⟩,⟨16,.phase⟩,⟨17,.phase⟩,⟨18,.phase⟩,⟨19,.phase⟩,⟨20,.phase⟩,⟨21,.phase⟩,⟨22,.phase⟩,⟨23,.phase⟩,⟨24,.phase⟩,⟨25,.phase⟩,⟨26,.phase⟩,⟨27,.phase⟩],none⟩) rfl (by rfl) (fun J hJ=> ?_),(by simp)⟩)
   have n0:=nB.2.1 0;have n1:=nB.2.1 1;have n2:=nB.2.1 2;have n3:=nB.2.1 3;have n4:=nB.2.1 4;have n5:=nB.2.1 5;have m0:=nB.2.2 0;have m1:=nB.2.2 1;have m2:=nB.2.2 2;have m3:=nB.2.2 3;have m4:=nB.2.2 4;have m5:=nB.2.2 5;have ml:=nB.1;go_simp;refine hJ _ _ ⟨by exact HS.out _ (bel_six hB5 (Nat.le_refl _) (.bool true) (.int .i64 br) (.int .i64 bc) (.bool (pc||s3&&q4)) (.bool (s3&&q5)) (.bool (q6&& !s5))),?_⟩;clear hJ J
   try simp only [Act.put,List.setIfInBounds_toArray,List.set_cons_zero,List.set_cons_succ]
   refine wpAnyH_done (by kernel_rfl) ?_ _
   refine at_world (fun Y=>Below w3.heap.size w3 Y∧Blk Y (w3.heap.size) #[.bool true,.int .i64 br,.int .i64 bc,.bool (pc||s3&&q4),.bool (s3&&q5),.bool (q6&& !s5)]∧B+1<w3.heap.size) ⟨bel_six hB5 (Nat.le_refl _) (.bool true) (.int .i64 br) (.int .i64 bc) (.bool (pc||s3&&q4)) (.bool (s3&&q5)) (.bool (q6&& !s5)),blk_six nB (.bool true) (.int .i64 br) (.int .i64 bc) (.bool (pc||s3&&q4)) (.bool (s3&&q5)) (.bool (q6&& !s5)),H3.out.2.2.1⟩ ?_
   rintro Y hR
   have HR:=Lib.hid (show Below B w Y∧Blk Y (w3.heap.size) #[.bool true,.int .i64 br,.int .i64 bc,.bool (pc||s3&&q4),.bool (s3&&q5),.bool (q6&& !s5)]∧Blk Y (B+1) #[.bool false,.int .i64 0,.int .i64 0,.bool false,.bool false,.bool false]∧Blk Y B #[.bool s0,.int .i64 s1,.int .i64 s2,.bool s3,.bool s4,.bool s5]∧B+1<(w3.heap.size)from⟨H3.out.1.trans (hR.1.mono (by have:=H3.out.1.size;omega)),hR.2.1,H3.out.2.2.later hR.1 H3.out.2.2.1,H3.out.2.1.later hR.1 H3.out.2.1.1,hR.2.2⟩)
   clear hR
   change K7 _ _
   refine hK7 _ _ (Met.intro (hJ7 _ _ ?_))
   repeat apply Exists.intro
   refine⟨?rel,rfl⟩
   case rel=>exact⟨_,rfl,HR.out⟩
 case rest=>
  obtain⟨N,rfl,HR⟩:=hcut
  clear HS CB CC CP CH H3 hq4 hq5 hq6
  obtain⟨Y,hY⟩:∃Y,Y=wc:=⟨_,rfl⟩
  subst hY
  go_upto_region 3 with fail
  rename_i hK9
  cases s0
  case false=>
   have HS3:=Lib.hid (fun(Z:World) (hZ:Below Y.heap.size Y Z)=>(show (Z.cell? ⟨B,0,none⟩=some (.bool false)∧Z.cell? ⟨B,1,none⟩=some (.int .i64 s1)∧Z.cell? ⟨B,2,none⟩=some (.int .i64 s2)∧Z.cell? ⟨B,3,none⟩=some (.bool s3)∧Z.cell? ⟨B,4,none⟩=some (.bool s4)∧Z.cell? ⟨B,5,none⟩=some (.bool s5))∧Z.cell? ⟨N,0,none⟩=some (.bool true)∧Z.cell? ⟨N,1,none⟩=some (.int .i64 br)∧Z.cell? ⟨N,2,none⟩=some (.int .i64 bc)∧Z.cell? ⟨N,3,none⟩=some (.bool (pc||s3&&q4))∧Z.cell? ⟨N,4,none⟩=some (.bool (s3&&q5))∧Z.cell? ⟨N,5,none⟩=some (.bool (q6&& !s5))from have a:=HR.out.2.2.2.1.later hZ HR.out.2.2.2.1.1;have b:=HR.out.2.1.later hZ HR.out.2.1.1;⟨⟨a.2.1 0,a.2.1 1,a.2.1 2,a.2.1 3,a.2.1 4,a.2.1 5⟩,b.2.1 0,b.2.1 1,b.2.1 2,b.2.1 3,b.2.1 4,b.2.1 5⟩))
   have HS4:=Lib.hid (fun(Z:World) (hZ:Below Y.heap.size Y Z) (u0 u1 u2 u3 u4 u5:Value)=>(show ((((((((Z.setCell ⟨B+1,0,none⟩ u0).setCell ⟨B+1,1,none⟩ u1).setCell ⟨B+1,2,none⟩ u2).setCell ⟨B+1,3,none⟩ u3).setCell ⟨B+1,4,none⟩ u4).setCell ⟨B+1,5,none⟩ u5)).drew.cell? ⟨B,0,none⟩=some (.bool false)∧(((((((Z.setCell ⟨B+1,0,none⟩ u0).setCell ⟨B+1,1,none⟩ u1).setCell ⟨B+1,2,none⟩ u2).setCell ⟨B+1,3,none⟩ u3).setCell ⟨B+1,4,none⟩ u4).setCell ⟨B+1,5,none⟩ u5)).drew.cell? ⟨B,1,none⟩=some (.int .i64 s1)∧(((((((Z.setCell ⟨B+1,0,none⟩ u0).setCell ⟨B+1,1,none⟩ u1).setCell ⟨B+1,2,none⟩ u2).setCell ⟨B+1,3,none⟩ u3).setCell ⟨B+1,4,none⟩ u4).setCell ⟨B+1,5,none⟩ u5)).drew.cell? ⟨B,2,none⟩=some (.int .i64 s2)∧(((((((Z.setCell ⟨B+1,0,none⟩ u0).setCell ⟨B+1,1,none⟩ u1).setCell ⟨B+1,2,none⟩ u2).setCell ⟨B+1,3,none⟩ u3).setCell ⟨B+1,4,none⟩ u4).setCell ⟨B+1,5,none⟩ u5)).drew.cell? ⟨B,3,none⟩=some (.bool s3)∧(((((((Z.setCell ⟨B+1,0,none⟩ u0).setCell ⟨B+1,1,none⟩ u1).setCell ⟨B+1,2,none⟩ u2).setCell ⟨B+1,3,none⟩ u3).setCell ⟨B+1,4,none⟩ u4).setCell ⟨B+1,5,none⟩ u5)).drew.cell? ⟨B,4,none⟩=some (.bool s4)∧(((((((Z.setCell ⟨B+1,0,none⟩ u0).setCell ⟨B+1,1,none⟩ u1).setCell ⟨B+1,2,none⟩ u2).setCell ⟨B+1,3,none⟩ u3).setCell ⟨B+1,4,none⟩ u4).setCell ⟨B+1,5,none⟩ u5)).drew.cell? ⟨B,5,none⟩=some (.bool s5))∧(((((((Z.setCell ⟨B+1,0,none⟩ u0).setCell ⟨B+1,1,none⟩ u1).setCell ⟨B+1,2,none⟩ u2).setCell ⟨B+1,3,none⟩ u3).setCell ⟨B+1,4,none⟩ u4).setCell ⟨B+1,5,none⟩ u5)).drew.cell? ⟨N,0,none⟩=some (.bool true)∧(((((((Z.setCell ⟨B+1,0,none⟩ u0).setCell ⟨B+1,1,none⟩ u1).setCell ⟨B+1,2,none⟩ u2).setCell ⟨B+1,3,none⟩ u3).setCell ⟨B+1,4,none⟩ u4).setCell ⟨B+1,5,none⟩ u5)).drew.cell? ⟨N,1,none⟩=some (.int .i64 br)∧(((((((Z.setCell ⟨B+1,0,none⟩ u0).setCell ⟨B+1,1,none⟩ u1).setCell ⟨B+1,2,none⟩ u2).setCell ⟨B+1,3,none⟩ u3).setCell ⟨B+1,4,none⟩ u4).setCell ⟨B+1,5,none⟩ u5)).drew.cell? ⟨N,2,none⟩=some (.int .i64 bc)∧(((((((Z.setCell ⟨B+1,0,none⟩ u0).setCell ⟨B+1,1,none⟩ u1).setCell ⟨B+1,2,none⟩ u2).setCell ⟨B+1,3,none⟩ u3).setCell ⟨B+1,4,none⟩ u4).setCell ⟨B+1,5,none⟩ u5)).drew.cell? ⟨N,3,none⟩=some (.bool (pc||s3&&q4))∧(((((((Z.setCell ⟨B+1,0,none⟩ u0).setCell ⟨B+1,1,none⟩ u1).setCell ⟨B+1,2,none⟩ u2).setCell ⟨B+1,3,none⟩ u3).setCell ⟨B+1,4,none⟩ u4).setCell ⟨B+1,5,none⟩ u5)).drew.cell? ⟨N,4,none⟩=some (.bool (s3&&q5))∧(((((((Z.setCell ⟨B+1,0,none⟩ u0).setCell ⟨B+1,1,none⟩ u1).setCell ⟨B+1,2,none⟩ u2).setCell ⟨B+1,3,none⟩ u3).setCell ⟨B+1,4,none⟩ u4).setCell ⟨B+1,5,none⟩ u5)).drew.cell? ⟨N,5,none⟩=some (.bool (q6&& !s5))from have a:=((((((HR.out.2.2.2.1.later hZ HR.out.2.2.2.1.1).far (p:=⟨B+1,0,none⟩) (by simp) u0).far (p:=⟨B+1,1,none⟩) (by simp) u1).far (p:=⟨B+1,2,none⟩) (by simp) u2).far (p:=⟨B+1,3,none⟩) (by simp) u3).far (p:=⟨B+1,4,none⟩) (by simp) u4).far (p:=⟨B+1,5,none⟩) (by simp) u5;have a:=a.drew;have nn:B+1≠N:=(by have:=HR.out.2.2.2.2;omega);have b:=((((((HR.out.2.1.later hZ HR.out.2.1.1).far (p:=⟨B+1,0,none⟩) nn u0).far (p:=⟨B+1,1,none⟩) nn u1).far (p:=⟨B+1,2,none⟩) nn u2).far (p:=⟨B+1,3,none⟩) nn u3).far (p:=⟨B+1,4,none⟩) nn u4).far (p:=⟨B+1,5,none⟩) nn u5;have b:=b.drew;⟨⟨a.2.1 0,a.2.1 1,a.2.1 2,a.2.1 3,a.2.1 4,a.2.1 5⟩,b.2.1 0,b.2.1 1,b.2.1 2,b.2.1 3,b.2.1 4,b.2.1 5⟩))
   refine wp_region_noPanic ?_
   refine wp_region_held (S:=fun Z=>(Z.cell? ⟨B,0,none⟩=some (.bool false)∧Z.cell? ⟨B,1,none⟩=some (.int .i64 s1)∧Z.cell? ⟨B,2,none⟩=some (.int .i64 s2)∧Z.cell? ⟨B,3,none⟩=some (.bool s3)∧Z.cell? ⟨B,4,none⟩=some (.bool s4)∧Z.cell? ⟨B,5,none⟩=some (.bool s5))∧Z.cell? ⟨N,0,none⟩=some (.bool true)∧Z.cell? ⟨N,1,none⟩=some (.int .i64 br)∧Z.cell? ⟨N,2,none⟩=some (.int .i64 bc)∧Z.cell? ⟨N,3,none⟩=some (.bool (pc||s3&&q4))∧Z.cell? ⟨N,4,none⟩=some (.bool (s3&&q5))∧Z.cell? ⟨N,5,none⟩=some (.bool (q6&& !s5))) (by kernel_rfl) ?_
   change wpAnyH _ _ _ _ _ _ _ _ (World.drew _)
   refine wpAnyH_take (i:=0) (oi:=⟨some 48,.load 173 (.tmp 11),173,"seg.go:39",#[],none⟩) (v:= .agg #[.bool true,.int .i64 br,.int .i64 bc,.bool (pc||s3&&q4),.bool (s3&&q5),.bool (q6&& !s5)]) rfl (by kernel_rfl) (by kernel_rfl) (by kernel_rfl) (fun _ _ _ h=>h) ?_ (by exact HS3.out _ (Below.refl _ _).drew) ?_
   ·(first|exact Or.inr ⟨by rfl,by rfl⟩|(refine Or.inl ⟨by rfl,?_⟩;intro Z hZ;obtain⟨⟨z0,z1,z2,z3,z4,z5⟩,y0,y1,y2,y3,y4,y5⟩:=hZ;go_simp;try rfl))
   simp only [Act.put,List.setIfInBounds_toArray,List.set_cons_zero,List.set_cons_succ]
   refine wpAnyH_take (i:=1) (oi:=⟨some 49,.fieldAddr 173 (.tmp 3) 0,0,"seg.go:39",#[],none⟩) (v:= .pointer (some ⟨B,0,none⟩)) rfl (by kernel_rfl) (by kernel_rfl) (by kernel_rfl) (fun _ _ _ h=>h) ?_ (by exact HS3.out _ (Below.refl _ _).drew) ?_
   ·(first|exact Or.inr ⟨by rfl,by rfl⟩|(refine Or.inl ⟨by rfl,?_⟩;intro Z hZ;obtain⟨⟨z0,z1,z2,z3,z4,z5⟩,y0,y1,y2,y3,y4,y5⟩:=hZ;go_simp;try rfl))
   simp only [Act.put,List.setIfInBounds_toArray,List.set_cons_zero,List.set_cons_succ]
   refine wpAnyH_take (i:=2) (oi:=⟨some 50,.load 4 (.tmp 49),4,"seg.go:39",#[⟨1,.data⟩],none⟩) (v:= .bool false) rfl (by kernel_rfl) (by kernel_rfl) (by kernel_rfl) (fun _ _ _ h=>h) ?_ (by exact HS3.out _ (Below.refl _ _).drew) ?_
   ·(first|exact Or.inr ⟨by rfl,by rfl⟩|(refine Or.inl ⟨by rfl,?_⟩;intro Z hZ;obtain⟨⟨z0,z1,z2,z3,z4,z5⟩,y0,y1,y2,y3,y4,y5⟩:=hZ;go_simp;try rfl))
   simp only [Act.put,List.setIfInBounds_toArray,List.set_cons_zero,List.set_cons_succ]
   refine wpAnyH_take (i:=3) (oi:=⟨some 51,.unOp Go.UnOp.not 4 (.tmp 50),4,"seg.go:39",#[⟨2,.data⟩],none⟩) (v:= .bool (!false)) rfl (by kernel_rfl) (by kernel_rfl) (by kernel_rfl) (fun _ _ _ h=>h) ?_ (by exact HS3.out _ (Below.refl _ _).drew) ?_
   ·(first|exact Or.inr ⟨by rfl,by rfl⟩|(refine Or.inl ⟨by rfl,?_⟩;intro Z hZ;obtain⟨⟨z0,z1,z2,z3,z4,z5⟩,y0,y1,y2,y3,y4,y5⟩:=hZ;go_simp;try rfl))
   simp only [Act.put,List.setIfInBounds_toArray,List.set_cons_zero,List.set_cons_succ]
   refine wpAnyH_take (i:=4) (oi:=⟨some 52,.move (.tmp 51),4,"seg.go:39",#[⟨3,.data⟩],none⟩) (v:= .bool (!false)) rfl (by kernel_rfl) (by kernel_rfl) (by kernel_rfl) (fun _ _ _ h=>h) ?_ (by exact HS3.out _ (Below.refl _ _).drew) ?_
   ·(first|exact Or.inr ⟨by rfl,by rfl⟩|(refine Or.inl ⟨by rfl,?_⟩;intro Z hZ;obtain⟨⟨z0,z1,z2,z3,z4,z5⟩,y0,y1,y2,y3,y4,y5⟩:=hZ;go_simp;try rfl))
   simp only [Act.put,List.setIfInBounds_toArray,List.set_cons_zero,List.set_cons_succ]
   refine wpAnyH_take (i:=5) (oi:=⟨some 53,.load 173 (.tmp 3),173,"seg.go:39",#[⟨4,.guard⟩],some (4,false)⟩) (v:=undef) rfl (by kernel_rfl) (by kernel_rfl) (by kernel_rfl) (fun _ _ _ h=>h) ?_ (by exact HS3.out _ (Below.refl _ _).drew) ?_
   ·(first|exact Or.inr ⟨by rfl,by rfl⟩|(refine Or.inl ⟨by rfl,?_⟩;intro Z hZ;obtain⟨⟨z0,z1,z2,z3,z4,z5⟩,y0,y1,y2,y3,y4,y5⟩:=hZ;go_simp;try rfl))
   simp only [Act.put,List.setIfInBounds_toArray,List.set_cons_zero,List.set_cons_succ]
   refine wpAnyH_take (i:=6) (oi:=⟨some 54,.move (.tmp 8),3,"seg.go:39",#[⟨4,.guard⟩],some (4,false)⟩) (v:=undef) rfl (by kernel_rfl) (by kernel_rfl) (by kernel_rfl) (fun _ _ _ h=>h) ?_ (by exact HS3.out _ (Below.refl _ _).drew) ?_
   ·(first|exact Or.inr ⟨by rfl,by rfl⟩|(refine Or.inl ⟨by rfl,?_⟩;intro Z hZ;obtain⟨⟨z0,z1,z2,z3,z4,z5⟩,y0,y1,y2,y3,y4,y5⟩:=hZ;go_simp;try rfl))
   simp only [Act.put,List.setIfInBounds_toArray,List.set_cons_zero,List.set_cons_succ]
   refine wpAnyH_take (i:=7) (oi:=⟨some 55,.move (.tmp 9),3,"seg.go:39",#[⟨4,.guard⟩],some (4,false)⟩) (v:=undef) rfl (by kernel_rfl) (by kernel_rfl) (by kernel_rfl) (fun _ _ _ h=>h) ?_ (by exact HS3.out _ (Below.refl _ _).drew) ?_
   ·(first|exact Or.inr ⟨by rfl,by rfl⟩|(refine Or.inl ⟨by rfl,?_⟩;intro Z hZ;obtain⟨⟨z0,z1,z2,z3,z4,z5⟩,y0,y1,y2,y3,y4,y5⟩:=hZ;go_simp;try rfl))
   simp only [Act.put,List.setIfInBounds_toArray,List.set_cons_zero,List.set_cons_succ]
   refine wpAnyH_take (i:=8) (oi:=⟨some 56,.move (.tmp 10),4,"seg.go:39",#[⟨4,.guard⟩],some (4,false)⟩) (v:=undef) rfl (by kernel_rfl) (by kernel_rfl) (by kernel_rfl) (fun _ _ _ h=>h) ?_ (by exact HS3.out _ (Below.refl _ _).drew) ?_
   ·(first|exact Or.inr ⟨by rfl,by rfl⟩|(refine Or.inl ⟨by rfl,?_⟩;intro Z hZ;obtain⟨⟨z0,z1,z2,z3,z4,z5⟩,y0,y1,y2,y3,y4,y5⟩:=hZ;go_simp;try rfl))
   simp only [Act.put,List.setIfInBounds_toArray,List.set_cons_zero,List.set_cons_succ]
   refine wpAnyH_take (i:=9) (oi:={dst:=some 57,op:=Go.Op.call {callee:=Go.Callee.value (Go.Operand.func 165),args:=#[Go.Operand.tmp 53,Go.Operand.tmp 54,Go.Operand.tmp 55,Go.Operand.tmp 56],argTypes:=#[173,3,3,4]},type:= 4,pos:= "seg.go:39",after:=#[⟨5,.data⟩,⟨6,.data⟩,⟨7,.data⟩,⟨8,.data⟩,⟨4,.chain⟩,⟨4,.guard⟩],guard:=some (4,false)}) (v:=undef) rfl (by kernel_rfl) (by kernel_rfl) (by kernel_rfl) (fun _ _ _ h=>h) ?_ (by exact HS3.out _ (Below.refl _ _).drew) ?_
   ·(first|exact Or.inr ⟨by rfl,by rfl⟩|(refine Or.inl ⟨by rfl,?_⟩;intro Z hZ;obtain⟨⟨z0,z1,z2,z3,z4,z5⟩,y0,y1,y2,y3,y4,y5⟩:=hZ;go_simp;try rfl))
   simp only [Act.put,List.setIfInBounds_toArray,List.set_cons_zero,List.set_cons_succ]
   refine wpAnyH_take (i:=10) (oi:=⟨some 58,.pick (.tmp 52) (.const (Go.Value.bool true)) (.tmp 57),4,"seg.go:39",#[⟨4,.data⟩,⟨9,.data⟩,{on:=11,ground:=Go.Ground.gcOnly Go.Departure.lateStores}],none⟩) (v:= .bool true) rfl (by kernel_rfl) (by kernel_rfl) (by kernel_rfl) (fun _ _ _ h=>h) ?_ (by exact HS3.out _ (Below.refl _ _).drew) ?_
   ·(first|exact Or.inr ⟨by rfl,by rfl⟩|(refine Or.inl ⟨by rfl,?_⟩;intro Z hZ;obtain⟨⟨z0,z1,z2,z3,z4,z5⟩,y0,y1,y2,y3,y4,y5⟩:=hZ;go_simp;try rfl))
   simp only [Act.put,List.setIfInBounds_toArray,List.set_cons_zero,List.set_cons_succ]
   refine wpAnyH_all (rs:=[11]) (by kernel_rfl) (by simp) (List.forall_mem_cons.2 ⟨wpOp_some (o:=⟨none,.store 173 (.tmp 6) (.tmp 48),0,"seg.go:39",#[⟨0,.data⟩,⟨9,.chain⟩,⟨0,.phase⟩,{on:=1,ground:=Go.Ground.textOnly Go.Departure.lateStores},{on:=2,ground:=Go.Ground.textOnly Go.Departure.lateStores},{on:=3,ground:=Go.Ground.textOnly Go.Departure.lateStores},{on:=4,ground:=Go.Ground.textOnly Go.Departure.lateStores},{on:=5,ground:=Go.Ground.textOnly Go.Departure.lateStores},{on:=6,ground:=Go.Ground.textOnly Go.Departure.lateStores},{on:=7,ground:=Go.Ground.textOnly Go.Departure.lateStores},{on:=8,ground:=Go.Ground.textOnly Go.Departure.lateStores},{on:=9,ground:=Go.Ground.textOnly Go.Departure.lateStoresUnsure},{on:=10,ground:=Go.Ground.textOnly Go.Departure.lateStores}],none⟩) rfl (by rfl) (fun J hJ=> ?_),(by simp)⟩)
   have rB:=HR.out.2.2.1;have r0:=rB.2.1 0;have r1:=rB.2.1 1;have r2:=rB.2.1 2;have r3:=rB.2.1 3;have r4:=rB.2.1 4;have r5:=rB.2.1 5;have u0:=rB.2.2 0;have u1:=rB.2.2 1;have u2:=rB.2.2 2;have u3:=rB.2.2 3;have u4:=rB.2.2 4;have u5:=rB.2.2 5;have rl:=rB.1;have hW:=Below.refl Y.heap.size Y;go_simp;refine hJ _ _ ⟨by exact HS4.out _ hW (.bool true) (.int .i64 br) (.int .i64 bc) (.bool (pc||s3&&q4)) (.bool (s3&&q5)) (.bool (q6&& !s5)),?_⟩;clear hJ J
   try simp only [Act.put,List.setIfInBounds_toArray,List.set_cons_zero,List.set_cons_succ]
   refine wpAnyH_take (i:=12) (oi:=⟨some 7,.assign (.tmp 58),4,"seg.go:39",#[⟨10,.data⟩,⟨11,.chain⟩,⟨0,.phase⟩,⟨1,.phase⟩,⟨2,.phase⟩,⟨3,.phase⟩,⟨4,.phase⟩,⟨5,.phase⟩,⟨6,.phase⟩,⟨7,.phase⟩,⟨8,.phase⟩,⟨9,.phase⟩,⟨10,.phase⟩,⟨11,.phase⟩],none⟩) (v:= .bool true) rfl (by kernel_rfl) (by kernel_rfl) (by kernel_rfl) (fun _ _ _ h=>h) ?_ (by exact HS4.out _ hW (.bool true) (.int .i64 br) (.int .i64 bc) (.bool (pc||s3&&q4)) (.bool (s3&&q5)) (.bool (q6&& !s5))) ?_
   ·(first|exact Or.inr ⟨by rfl,by rfl⟩|(refine Or.inl ⟨by rfl,?_⟩;intro Z hZ;obtain⟨⟨z0,z1,z2,z3,z4,z5⟩,y0,y1,y2,y3,y4,y5⟩:=hZ;go_simp;try rfl))
   simp only [Act.put,List.setIfInBounds_toArray,List.set_cons_zero,List.set_cons_succ]
   refine wpAnyH_done (by kernel_rfl) ?_ _
   have hBW:=HR.out.1.trans (hW.mono (by have:=HR.out.1.size;omega))
   refine at_world (fun Z=>Below B w Z∧Blk Z (B+1) #[.bool true,.int .i64 br,.int .i64 bc,.bool (pc||s3&&q4),.bool (s3&&q5),.bool (q6&& !s5)]) ⟨Below.drew (bel_six hBW (Nat.le_succ _) (.bool true) (.int .i64 br) (.int .i64 bc) (.bool (pc||s3&&q4)) (.bool (s3&&q5)) (.bool (q6&& !s5))),Blk.drew (blk_six rB (.bool true) (.int .i64 br) (.int .i64 bc) (.bool (pc||s3&&q4)) (.bool (s3&&q5)) (.bool (q6&& !s5)))⟩ ?_
   rintro Z ⟨hZ,bZ⟩
   have HZ:=Lib.hid hZ
   have y0:Z.cell? ⟨B+1,0,none⟩=some (.bool true):=bZ.2.1 0
   have y1:Z.cell? ⟨B+1,1,none⟩=some (.int .i64 br):=bZ.2.1 1
   have y2:Z.cell? ⟨B+1,2,none⟩=some (.int .i64 bc):=bZ.2.1 2
   have y3:Z.cell? ⟨B+1,3,none⟩=some (.bool (pc||s3&&q4)):=bZ.2.1 3
   have y4:Z.cell? ⟨B+1,4,none⟩=some (.bool (s3&&q5)):=bZ.2.1 4
   have y5:Z.cell? ⟨B+1,5,none⟩=some (.bool (q6&& !s5)):=bZ.2.1 5
   have f0:=bZ.2.2 0
   have f1:=bZ.2.2 1
   have f2:=bZ.2.2 2
   have f3:=bZ.2.2 3
   have f4:=bZ.2.2 4
   have f5:=bZ.2.2 5
   have fl:=bZ.1
   clear hBW hW rB r0 r1 r2 r3 r4 r5 u0 u1 u2 u3 u4 u5 rl hZ bZ HS3 HS4 HR CV
   refine hK9 _ _ ?_
   go_wp2
   refine bodyPost_ret (v:= .tuple #[.agg #[.bool true,.int .i64 br,.int .i64 bc,.bool (pc||s3&&q4),.bool (s3&&q5),.bool (q6&& !s5)],.bool true]) (by simp [results,Tryz.results120,go_sem,y0,y1,y2,y3,y4,y5,f0,f1,f2,f3,f4,f5,fl]) rfl ⟨rfl,?_⟩
   rw [hB]
   exact HZ.out
  case true=>
   have HS3:=Lib.hid (fun(Z:World) (hZ:Below Y.heap.size Y Z)=>(show (Z.cell? ⟨B,0,none⟩=some (.bool true)∧Z.cell? ⟨B,1,none⟩=some (.int .i64 s1)∧Z.cell? ⟨B,2,none⟩=some (.int .i64 s2)∧Z.cell? ⟨B,3,none⟩=some (.bool s3)∧Z.cell? ⟨B,4,none⟩=some (.bool s4)∧Z.cell? ⟨B,5,none⟩=some (.bool s5))∧Z.cell? ⟨N,0,none⟩=some (.bool true)∧Z.cell? ⟨N,1,none⟩=some (.int .i64 br)∧Z.cell? ⟨N,2,none⟩=some (.int .i64 bc)∧Z.cell? ⟨N,3,none⟩=some (.bool (pc||s3&&q4))∧Z.cell? ⟨N,4,none⟩=some (.bool (s3&&q5))∧Z.cell? ⟨N,5,none⟩=some (.bool (q6&& !s5))from have a:=HR.out.2.2.2.1.later hZ HR.out.2.2.2.1.1;have b:=HR.out.2.1.later hZ HR.out.2.1.1;⟨⟨a.2.1 0,a.2.1 1,a.2.1 2,a.2.1 3,a.2.1 4,a.2.1 5⟩,b.2.1 0,b.2.1 1,b.2.1 2,b.2.1 3,b.2.1 4,b.2.1 5⟩))
   have HS4:=Lib.hid (fun(Z:World) (hZ:Below Y.heap.size Y Z) (u0 u1 u2 u3 u4 u5:Value)=>(show (((((((Z.setCell ⟨B+1,0,none⟩ u0).setCell ⟨B+1,1,none⟩ u1).setCell ⟨B+1,2,none⟩ u2).setCell ⟨B+1,3,none⟩ u3).setCell ⟨B+1,4,none⟩ u4).setCell ⟨B+1,5,none⟩ u5).cell? ⟨B,0,none⟩=some (.bool true)∧((((((Z.setCell ⟨B+1,0,none⟩ u0).setCell ⟨B+1,1,none⟩ u1).setCell ⟨B+1,2,none⟩ u2).setCell ⟨B+1,3,none⟩ u3).setCell ⟨B+1,4,none⟩ u4).setCell ⟨B+1,5,none⟩ u5).cell? ⟨B,1,none⟩=some (.int .i64 s1)∧((((((Z.setCell ⟨B+1,0,none⟩ u0).setCell ⟨B+1,1,none⟩ u1).setCell ⟨B+1,2,none⟩ u2).setCell ⟨B+1,3,none⟩ u3).setCell ⟨B+1,4,none⟩ u4).setCell ⟨B+1,5,none⟩ u5).cell? ⟨B,2,none⟩=some (.int .i64 s2)∧((((((Z.setCell ⟨B+1,0,none⟩ u0).setCell ⟨B+1,1,none⟩ u1).setCell ⟨B+1,2,none⟩ u2).setCell ⟨B+1,3,none⟩ u3).setCell ⟨B+1,4,none⟩ u4).setCell ⟨B+1,5,none⟩ u5).cell? ⟨B,3,none⟩=some (.bool s3)∧((((((Z.setCell ⟨B+1,0,none⟩ u0).setCell ⟨B+1,1,none⟩ u1).setCell ⟨B+1,2,none⟩ u2).setCell ⟨B+1,3,none⟩ u3).setCell ⟨B+1,4,none⟩ u4).setCell ⟨B+1,5,none⟩ u5).cell? ⟨B,4,none⟩=some (.bool s4)∧((((((Z.setCell ⟨B+1,0,none⟩ u0).setCell ⟨B+1,1,none⟩ u1).setCell ⟨B+1,2,none⟩ u2).setCell ⟨B+1,3,none⟩ u3).setCell ⟨B+1,4,none⟩ u4).setCell ⟨B+1,5,none⟩ u5).cell? ⟨B,5,none⟩=some (.bool s5))∧((((((Z.setCell ⟨B+1,0,none⟩ u0).setCell ⟨B+1,1,none⟩ u1).setCell ⟨B+1,2,none⟩ u2).setCell ⟨B+1,3,none⟩ u3).setCell ⟨B+1,4,none⟩ u4).setCell ⟨B+1,5,none⟩ u5).cell? ⟨N,0,none⟩=some (.bool true)∧((((((Z.setCell ⟨B+1,0,none⟩ u0).setCell ⟨B+1,1,none⟩ u1).setCell ⟨B+1,2,none⟩ u2).setCell ⟨B+1,3,none⟩ u3).setCell ⟨B+1,4,none⟩ u4).setCell ⟨B+1,5,none⟩ u5).cell? ⟨N,1,none⟩=some (.int .i64 br)∧((((((Z.setCell ⟨B+1,0,none⟩ u0).setCell ⟨B+1,1,none⟩ u1).setCell ⟨B+1,2,none⟩ u2).setCell ⟨B+1,3,none⟩ u3).setCell ⟨B+1,4,none⟩ u4).setCell ⟨B+1,5,none⟩ u5).cell? ⟨N,2,none⟩=some (.int .i64 bc)∧((((((Z.setCell ⟨B+1,0,none⟩ u0).setCell ⟨B+1,1,none⟩ u1).setCell ⟨B+1,2,none⟩ u2).setCell ⟨B+1,3,none⟩ u3).setCell ⟨B+1,4,none⟩ u4).setCell ⟨B+1,5,none⟩ u5).cell? ⟨N,3,none⟩=some (.bool (pc||s3&&q4))∧((((((Z.setCell ⟨B+1,0,none⟩ u0).setCell ⟨B+1,1,none⟩ u1).setCell ⟨B+1,2,none⟩ u2).setCell ⟨B+1,3,none⟩ u3).setCell ⟨B+1,4,none⟩ u4).setCell ⟨B+1,5,none⟩ u5).cell? ⟨N,4,none⟩=some (.bool (s3&&q5))∧((((((Z.setCell ⟨B+1,0,none⟩ u0).setCell ⟨B+1,1,none⟩ u1).setCell ⟨B+1,2,none⟩ u2).setCell ⟨B+1,3,none⟩ u3).setCell ⟨B+1,4,none⟩ u4).setCell ⟨B+1,5,none⟩ u5).cell? ⟨N,5,none⟩=some (.bool (q6&& !s5))from have a:=((((((HR.out.2.2.2.1.later hZ HR.out.2.2.2.1.1).far (p:=⟨B+1,0,none⟩) (by simp) u0).far (p:=⟨B+1,1,none⟩) (by simp) u1).far (p:=⟨B+1,2,none⟩) (by simp) u2).far (p:=⟨B+1,3,none⟩) (by simp) u3).far (p:=⟨B+1,4,none⟩) (by simp) u4).far (p:=⟨B+1,5,none⟩) (by simp) u5;have nn:B+1≠N:=(by have:=HR.out.2.2.2.2;omega);have b:=((((((HR.out.2.1.later hZ HR.out.2.1.1).far (p:=⟨B+1,0,none⟩) nn u0).far (p:=⟨B+1,1,none⟩) nn u1).far (p:=⟨B+1,2,none⟩) nn u2).far (p:=⟨B+1,3,none⟩) nn u3).far (p:=⟨B+1,4,none⟩) nn u4).far (p:=⟨B+1,5,none⟩) nn u5;⟨⟨a.2.1 0,a.2.1 1,a.2.1 2,a.2.1 3,a.2.1 4,a.2.1 5⟩,b.2.1 0,b.2.1 1,b.2.1 2,b.2.1 3,b.2.1 4,b.2.1 5⟩))
   refine wp_region_noPanic ?_
   refine wp_region_held (S:=fun Z=>(Z.cell? ⟨B,0,none⟩=some (.bool true)∧Z.cell? ⟨B,1,none⟩=some (.int .i64 s1)∧Z.cell? ⟨B,2,none⟩=some (.int .i64 s2)∧Z.cell? ⟨B,3,none⟩=some (.bool s3)∧Z.cell? ⟨B,4,none⟩=some (.bool s4)∧Z.cell? ⟨B,5,none⟩=some (.bool s5))∧Z.cell? ⟨N,0,none⟩=some (.bool true)∧Z.cell? ⟨N,1,none⟩=some (.int .i64 br)∧Z.cell? ⟨N,2,none⟩=some (.int .i64 bc)∧Z.cell? ⟨N,3,none⟩=some (.bool (pc||s3&&q4))∧Z.cell? ⟨N,4,none⟩=some (.bool (s3&&q5))∧Z.cell? ⟨N,5,none⟩=some (.bool (q6&& !s5))) (by kernel_rfl) ?_
   change wpAnyH _ _ _ _ _ _ _ _ (World.drew _)
   refine wpAnyH_take (i:=0) (oi:=⟨some 48,.load 173 (.tmp 11),173,"seg.go:39",#[],none⟩) (v:= .agg #[.bool true,.int .i64 br,.int .i64 bc,.bool (pc||s3&&q4),.bool (s3&&q5),.bool (q6&& !s5)]) rfl (by kernel_rfl) (by kernel_rfl) (by kernel_rfl) (fun _ _ _ h=>h) ?_ (by exact HS3.out _ (Below.refl _ _).drew) ?_
   ·(first|exact Or.inr ⟨by rfl,by rfl⟩|(refine Or.inl ⟨by rfl,?_⟩;intro Z hZ;obtain⟨⟨z0,z1,z2,z3,z4,z5⟩,y0,y1,y2,y3,y4,y5⟩:=hZ;go_simp;try rfl))
   simp only [Act.put,List.setIfInBounds_toArray,List.set_cons_zero,List.set_cons_succ]
   refine wpAnyH_take (i:=1) (oi:=⟨some 49,.fieldAddr 173 (.tmp 3) 0,0,"seg.go:39",#[],none⟩) (v:= .pointer (some ⟨B,0,none⟩)) rfl (by kernel_rfl) (by kernel_rfl) (by kernel_rfl) (fun _ _ _ h=>h) ?_ (by exact HS3.out _ (Below.refl _ _).drew) ?_
   ·(first|exact Or.inr ⟨by rfl,by rfl⟩|(refine Or.inl ⟨by rfl,?_⟩;intro Z hZ;obtain⟨⟨z0,z1,z2,z3,z4,z5⟩,y0,y1,y2,y3,y4,y5⟩:=hZ;go_simp;try rfl))
   simp only [Act.put,List.setIfInBounds_toArray,List.set_cons_zero,List.set_cons_succ]
   refine wpAnyH_take (i:=2) (oi:=⟨some 50,.load 4 (.tmp 49),4,"seg.go:39",#[⟨1,.data⟩],none⟩) (v:= .bool true) rfl (by kernel_rfl) (by kernel_rfl) (by kernel_rfl) (fun _ _ _ h=>h) ?_ (by exact HS3.out _ (Below.refl _ _).drew) ?_
   ·(first|exact Or.inr ⟨by rfl,by rfl⟩|(refine Or.inl ⟨by rfl,?_⟩;intro Z hZ;obtain⟨⟨z0,z1,z2,z3,z4,z5⟩,y0,y1,y2,y3,y4,y5⟩:=hZ;go_simp;try rfl))
   simp only [Act.put,List.setIfInBounds_toArray,List.set_cons_zero,List.set_cons_succ]
   refine wpAnyH_take (i:=3) (oi:=⟨some 51,.unOp Go.UnOp.not 4 (.tmp 50),4,"seg.go:39",#[⟨2,.data⟩],none⟩) (v:= .bool (!true)) rfl (by kernel_rfl) (by kernel_rfl) (by kernel_rfl) (fun _ _ _ h=>h) ?_ (by exact HS3.out _ (Below.refl _ _).drew) ?_
   ·(first|exact Or.inr ⟨by rfl,by rfl⟩|(refine Or.inl ⟨by rfl,?_⟩;intro Z hZ;obtain⟨⟨z0,z1,z2,z3,z4,z5⟩,y0,y1,y2,y3,y4,y5⟩:=hZ;go_simp;try rfl))
   simp only [Act.put,List.setIfInBounds_toArray,List.set_cons_zero,List.set_cons_succ]
   refine wpAnyH_take (i:=4) (oi:=⟨some 52,.move (.tmp 51),4,"seg.go:39",#[⟨3,.data⟩],none⟩) (v:= .bool (!true)) rfl (by kernel_rfl) (by kernel_rfl) (by kernel_rfl) (fun _ _ _ h=>h) ?_ (by exact HS3.out _ (Below.refl _ _).drew) ?_
   ·(first|exact Or.inr ⟨by rfl,by rfl⟩|(refine Or.inl ⟨by rfl,?_⟩;intro Z hZ;obtain⟨⟨z0,z1,z2,z3,z4,z5⟩,y0,y1,y2,y3,y4,y5⟩:=hZ;go_simp;try rfl))
   simp only [Act.put,List.setIfInBounds_toArray,List.set_cons_zero,List.set_cons_succ]
   refine wpAnyH_take (i:=5) (oi:=⟨some 53,.load 173 (.tmp 3),173,"seg.go:39",#[⟨4,.guard⟩],some (4,false)⟩) (v:= .agg #[.bool true,.int .i64 s1,.int .i64 s2,.bool s3,.bool s4,.bool s5]) rfl (by kernel_rfl) (by kernel_rfl) (by kernel_rfl) (fun _ _ _ h=>h) ?_ (by exact HS3.out _ (Below.refl _ _).drew) ?_
   ·(first|exact Or.inr ⟨by rfl,by rfl⟩|(refine Or.inl ⟨by rfl,?_⟩;intro Z hZ;obtain⟨⟨z0,z1,z2,z3,z4,z5⟩,y0,y1,y2,y3,y4,y5⟩:=hZ;go_simp;try rfl))
   simp only [Act.put,List.setIfInBounds_toArray,List.set_cons_zero,List.set_cons_succ]
   refine wpAnyH_take (i:=6) (oi:=⟨some 54,.move (.tmp 8),3,"seg.go:39",#[⟨4,.guard⟩],some (4,false)⟩) (v:= .int .i64 br) rfl (by kernel_rfl) (by kernel_rfl) (by kernel_rfl) (fun _ _ _ h=>h) ?_ (by exact HS3.out _ (Below.refl _ _).drew) ?_
   ·(first|exact Or.inr ⟨by rfl,by rfl⟩|(refine Or.inl ⟨by rfl,?_⟩;intro Z hZ;obtain⟨⟨z0,z1,z2,z3,z4,z5⟩,y0,y1,y2,y3,y4,y5⟩:=hZ;go_simp;try rfl))
   simp only [Act.put,List.setIfInBounds_toArray,List.set_cons_zero,List.set_cons_succ]
   refine wpAnyH_take (i:=7) (oi:=⟨some 55,.move (.tmp 9),3,"seg.go:39",#[⟨4,.guard⟩],some (4,false)⟩) (v:= .int .i64 cj) rfl (by kernel_rfl) (by kernel_rfl) (by kernel_rfl) (fun _ _ _ h=>h) ?_ (by exact HS3.out _ (Below.refl _ _).drew) ?_
   ·(first|exact Or.inr ⟨by rfl,by rfl⟩|(refine Or.inl ⟨by rfl,?_⟩;intro Z hZ;obtain⟨⟨z0,z1,z2,z3,z4,z5⟩,y0,y1,y2,y3,y4,y5⟩:=hZ;go_simp;try rfl))
   simp only [Act.put,List.setIfInBounds_toArray,List.set_cons_zero,List.set_cons_succ]
   refine wpAnyH_take (i:=8) (oi:=⟨some 56,.move (.tmp 10),4,"seg.go:39",#[⟨4,.guard⟩],some (4,false)⟩) (v:= .bool pc) rfl (by kernel_rfl) (by kernel_rfl) (by kernel_rfl) (fun _ _ _ h=>h) ?_ (by exact HS3.out _ (Below.refl _ _).drew) ?_
   ·(first|exact Or.inr ⟨by rfl,by rfl⟩|(refine Or.inl ⟨by rfl,?_⟩;intro Z hZ;obtain⟨⟨z0,z1,z2,z3,z4,z5⟩,y0,y1,y2,y3,y4,y5⟩:=hZ;go_simp;try rfl))
   simp only [Act.put,List.setIfInBounds_toArray,List.set_cons_zero,List.set_cons_succ]
   refine wpAnyH_all (rs:=[9]) (by kernel_rfl) (by simp) (List.forall_mem_cons.2 ⟨wpOp_some (o:={dst:=some 57,op:=Go.Op.call {callee:=Go.Callee.value (Go.Operand.func 165),args:=#[Go.Operand.tmp 53,Go.Operand.tmp 54,Go.Operand.tmp 55,Go.Operand.tmp 56],argTypes:=#[173,3,3,4]},type:= 4,pos:= "seg.go:39",after:=#[⟨5,.data⟩,⟨6,.data⟩,⟨7,.data⟩,⟨8,.data⟩,⟨4,.chain⟩,⟨4,.guard⟩],guard:=some (4,false)}) rfl (by rfl) (fun J hJ=> ?_),(by simp)⟩)
   go_simp;go_at_call 165;refine(CV.out _).mono ?_;rintro e w6 ⟨rfl,hb6⟩;have hB6:=bStepS (A:=Y) (Below.refl _ _).drew hb6;clear hb6;dsimp only;refine hJ _ _ ⟨by exact HS3.out _ hB6,?_⟩;clear hJ J
   try simp only [Act.put,List.setIfInBounds_toArray,List.set_cons_zero,List.set_cons_succ]
   refine wpAnyH_take (i:=10) (oi:=⟨some 58,.pick (.tmp 52) (.const (Go.Value.bool true)) (.tmp 57),4,"seg.go:39",#[⟨4,.data⟩,⟨9,.data⟩,{on:=11,ground:=Go.Ground.gcOnly Go.Departure.lateStores}],none⟩) (v:= .bool V) rfl (by kernel_rfl) (by kernel_rfl) (by kernel_rfl) (fun _ _ _ h=>h) ?_ (by exact HS3.out _ hB6) ?_
   ·(first|exact Or.inr ⟨by rfl,by rfl⟩|(refine Or.inl ⟨by rfl,?_⟩;intro Z hZ;obtain⟨⟨z0,z1,z2,z3,z4,z5⟩,y0,y1,y2,y3,y4,y5⟩:=hZ;go_simp;try rfl))
   simp only [Act.put,List.setIfInBounds_toArray,List.set_cons_zero,List.set_cons_succ]
   refine wpAnyH_all (rs:=[11]) (by kernel_rfl) (by simp) (List.forall_mem_cons.2 ⟨wpOp_some (o:=⟨none,.store 173 (.tmp 6) (.tmp 48),0,"seg.go:39",#[⟨0,.data⟩,⟨9,.chain⟩,⟨0,.phase⟩,{on:=1,ground:=Go.Ground.textOnly Go.Departure.lateStores},{on:=2,ground:=Go.Ground.textOnly Go.Departure.lateStores},{on:=3,ground:=Go.Ground.textOnly Go.Departure.lateStores},{on:=4,ground:=Go.Ground.textOnly Go.Departure.lateStores},{on:=5,ground:=Go.Ground.textOnly Go.Departure.lateStores},{on:=6,ground:=Go.Ground.textOnly Go.Departure.lateStores},{on:=7,ground:=Go.Ground.textOnly Go.Departure.lateStores},{on:=8,ground:=Go.Ground.textOnly Go.Departure.lateStores},{on:=9,ground:=Go.Ground.textOnly Go.Departure.lateStoresUnsure},{on:=10,ground:=Go.Ground.textOnly Go.Departure.lateStores}],none⟩) rfl (by rfl) (fun J hJ=> ?_),(by simp)⟩)
   have rB:=HR.out.2.2.1.later hB6 HR.out.2.2.1.1;have r0:=rB.2.1 0;have r1:=rB.2.1 1;have r2:=rB.2.1 2;have r3:=rB.2.1 3;have r4:=rB.2.1 4;have r5:=rB.2.1 5;have u0:=rB.2.2 0;have u1:=rB.2.2 1;have u2:=rB.2.2 2;have u3:=rB.2.2 3;have u4:=rB.2.2 4;have u5:=rB.2.2 5;have rl:=rB.1;have hW:=hB6;go_simp;refine hJ _ _ ⟨by exact HS4.out _ hW (.bool true) (.int .i64 br) (.int .i64 bc) (.bool (pc||s3&&q4)) (.bool (s3&&q5)) (.bool (q6&& !s5)),?_⟩;clear hJ J
   try simp only [Act.put,List.setIfInBounds_toArray,List.set_cons_zero,List.set_cons_succ]
   refine wpAnyH_take (i:=12) (oi:=⟨some 7,.assign (.tmp 58),4,"seg.go:39",#[⟨10,.data⟩,⟨11,.chain⟩,⟨0,.phase⟩,⟨1,.phase⟩,⟨2,.phase⟩,⟨3,.phase⟩,⟨4,.phase⟩,⟨5,.phase⟩,⟨6,.phase⟩,⟨7,.phase⟩,⟨8,.phase⟩,⟨9,.phase⟩,⟨10,.phase⟩,⟨11,.phase⟩],none⟩) (v:= .bool V) rfl (by kernel_rfl) (by kernel_rfl) (by kernel_rfl) (fun _ _ _ h=>h) ?_ (by exact HS4.out _ hW (.bool true) (.int .i64 br) (.int .i64 bc) (.bool (pc||s3&&q4)) (.bool (s3&&q5)) (.bool (q6&& !s5))) ?_
   ·(first|exact Or.inr ⟨by rfl,by rfl⟩|(refine Or.inl ⟨by rfl,?_⟩;intro Z hZ;obtain⟨⟨z0,z1,z2,z3,z4,z5⟩,y0,y1,y2,y3,y4,y5⟩:=hZ;go_simp;try rfl))
   simp only [Act.put,List.setIfInBounds_toArray,List.set_cons_zero,List.set_cons_succ]
   refine wpAnyH_done (by kernel_rfl) ?_ _
   have hBW:=HR.out.1.trans (hW.mono (by have:=HR.out.1.size;omega))
   refine at_world (fun Z=>Below B w Z∧Blk Z (B+1) #[.bool true,.int .i64 br,.int .i64 bc,.bool (pc||s3&&q4),.bool (s3&&q5),.bool (q6&& !s5)]) ⟨bel_six hBW (Nat.le_succ _) (.bool true) (.int .i64 br) (.int .i64 bc) (.bool (pc||s3&&q4)) (.bool (s3&&q5)) (.bool (q6&& !s5)),blk_six rB (.bool true) (.int .i64 br) (.int .i64 bc) (.bool (pc||s3&&q4)) (.bool (s3&&q5)) (.bool (q6&& !s5))⟩ ?_
   rintro Z ⟨hZ,bZ⟩
   have HZ:=Lib.hid hZ
   have y0:Z.cell? ⟨B+1,0,none⟩=some (.bool true):=bZ.2.1 0
   have y1:Z.cell? ⟨B+1,1,none⟩=some (.int .i64 br):=bZ.2.1 1
   have y2:Z.cell? ⟨B+1,2,none⟩=some (.int .i64 bc):=bZ.2.1 2
   have y3:Z.cell? ⟨B+1,3,none⟩=some (.bool (pc||s3&&q4)):=bZ.2.1 3
   have y4:Z.cell? ⟨B+1,4,none⟩=some (.bool (s3&&q5)):=bZ.2.1 4
   have y5:Z.cell? ⟨B+1,5,none⟩=some (.bool (q6&& !s5)):=bZ.2.1 5
   have f0:=bZ.2.2 0
   have f1:=bZ.2.2 1
   have f2:=bZ.2.2 2
   have f3:=bZ.2.2 3
   have f4:=bZ.2.2 4
   have f5:=bZ.2.2 5
   have fl:=bZ.1
   clear hBW hW rB r0 r1 r2 r3 r4 r5 u0 u1 u2 u3 u4 u5 rl hZ bZ HS3 HS4 HR CV hB6
   refine hK9 _ _ ?_
   go_wp2
   refine bodyPost_ret (v:= .tuple #[.agg #[.bool true,.int .i64 br,.int .i64 bc,.bool (pc||s3&&q4),.bool (s3&&q5),.bool (q6&& !s5)],.bool V]) (by simp [results,Tryz.results120,go_sem,y0,y1,y2,y3,y4,y5,f0,f1,f2,f3,f4,f5,fl]) rfl ⟨rfl,?_⟩
   rw [hB]
   exact HZ.out
end Go.Proofs.YtlopleeopnnoeaaGreat
