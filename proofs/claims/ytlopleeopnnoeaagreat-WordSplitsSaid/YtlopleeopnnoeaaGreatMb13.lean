import Derived.Test.YtlopleeopnnoeaaGreatMb09
import Derived.Test.YtlopleeopnnoeaaGreatMb12
import Derived.Test.YtlopleeopnnoeaaGreatMb10
import Derived.Test.YtlopleeopnnoeaaGreatMb02
set_option linter.unusedVariables false
set_option linter.unusedSimpArgs false
namespace Go.Proofs.YtlopleeopnnoeaaGreat
open Go.RowKit
def IsT (g:Int→Int)(t:Nat)(W:World):Prop:=∃base mb hd Bs Ix l,BtI base g 1114112 t mb hd Bs Ix l W
def IsP (g:Int→TP.V2)(t:Nat)(W:World):Prop:=∃base mb hd Bs Ix l,TP.BtI base g 1114112 t mb hd Bs Ix l W
def at0 {τ:Type}(z:τ)(g:Int→τ)(r:Int):τ:=if 0≤r∧r<1114112 then g r else z
theorem getT_any {g:Int→Int}{t:Nat}{W:World}(h:IsT g t W)(r:Int):
  Calls Tryz.prog 118 #[.pointer (some ⟨t,0,none⟩),.int .i64 r] W (fun e w'=>e= .returned (.int .i64 (at0 0 g r))∧Below W.heap.size W w'):=by
 obtain⟨base,mb,hd,Bs,Ix,l,h⟩:=h
 unfold at0
 by_cases hr:0≤r∧r<1114112
 ·rw [if_pos hr]
  have:=get_any h (by omega) r.toNat (by omega)
  rw [show ((r.toNat:Nat):Int)=r by omega]at this
  exact this
 ·rw [if_neg hr]
  exact get_out h r (by omega)
theorem getP_any {g:Int→TP.V2}{t:Nat}{W:World}(h:IsP g t W)(r:Int):
  Calls Tryz.prog 200 #[.pointer (some ⟨t,0,none⟩),.int .i64 r] W (fun e w'=>e= .returned (TP.vV (at0 (0,0) g r))∧Below W.heap.size W w'):=by
 obtain⟨base,mb,hd,Bs,Ix,l,h⟩:=h
 unfold at0
 by_cases hr:0≤r∧r<1114112
 ·rw [if_pos hr]
  have:=TP.get_any h (by omega) r.toNat (by omega)
  rw [show ((r.toNat:Nat):Int)=r by omega]at this
  exact this
 ·rw [if_neg hr]
  exact TP.get_out h r (by omega)
set_option maxHeartbeats 1000000 in
theorem class_any {g:Int→Int}{tp t:Nat}{W:World}(k:W.cell? ⟨tp,0,none⟩=some (.pointer (some ⟨t,0,none⟩)))(h:IsT g t W)(r:Int)(h0: -2147483648≤r)(h1:r≤2147483647):
  Calls Tryz.prog 160 #[.pointer (some ⟨tp,0,none⟩),.int .i32 r] W (fun e w'=>e= .returned (.int .i64 (at0 0 g r))∧Below W.heap.size W w'):=by
 have C:=Lib.hid (getT_any h r)
 clear h
 go_enter Tryz.func160,Tryz.ntmps160
 go_wp2_with fail
 refine C.out.mono ?_
 rintro e w1 ⟨rfl,hb⟩
 go_wp2
 go_ret
 exact⟨rfl,hb⟩
set_option maxHeartbeats 2000000 in
theorem pair_any {g:Int→TP.V2}{tp t:Nat}{W:World}(k:W.cell? ⟨tp,3,none⟩=some (.pointer (some ⟨t,0,none⟩)))(h:IsP g t W)(r:Int)(h0: -2147483648≤r)(h1:r≤2147483647):
  Calls Tryz.prog 159 #[.pointer (some ⟨tp,0,none⟩),.int .i32 r] W (fun e w'=>e= .returned (.tuple #[.int .i32 (at0 (0,0) g r).1,.int .i32 (at0 (0,0) g r).2,.bool (at0 (0,0) g r != (0,0))])∧Below W.heap.size W w'):=by
 have C:=Lib.hid (getP_any h r)
 clear h
 obtain⟨x,hx⟩:∃x,at0 (0,0) g r=x:=⟨_,rfl⟩
 rw [hx]at C ⊢
 clear hx
 have HN:∀w,(Go.binOp .neq 99 (.agg #[.int .i32 x.1,.int .i32 x.2]) (.agg #[.int .i32 0,.int .i32 0])).run Tryz.prog w= .ok (.bool (x != (0,0))) w:=by
  intro w
  rw [run_neq_struct,show (Value.agg #[.int .i32 x.1,.int .i32 x.2])=TP.vV x from rfl,show (Value.agg #[.int .i32 0,.int .i32 0])=TP.vV (0,0)from rfl,TP.eq_v2]
  rfl
 go_enter Tryz.func159,Tryz.ntmps159
 go_wp2_with fail
 refine C.out.mono ?_
 rintro e w1 ⟨rfl,hb⟩
 go_upto_region 4 with fail
 refine at_world (fun X=>Below w1.heap.size w1 X∧Blk X w1.heap.size (TP.encV x).toArray) ⟨(Below.refl _ _).alloc (Nat.le_refl _) _,blk_new _ _ _⟩ ?_
 rintro X ⟨hX,hB⟩
 have l0:X.cell? ⟨w1.heap.size,0,none⟩=some (.int .i32 x.1):=hB.2.1 0
 have l1:X.cell? ⟨w1.heap.size,1,none⟩=some (.int .i32 x.2):=hB.2.1 1
 have HW:=Lib.hid (hb.trans (hX.mono hb.size))
 clear hb hX hB C
 go_quiet (fail)
 go_wp2
 refine bodyPost_ret (v:= .tuple #[.int .i32 x.1,.int .i32 x.2,.bool (x != (0,0))]) (by simp [results,Tryz.results159,go_sem]) rfl ⟨rfl,below_drewN HW.out _⟩
theorem IsT.later {g:Int→Int}{t:Nat}{W W':World}(h:IsT g t W)(hb:Below W.heap.size W W'):IsT g t W':=by
 obtain⟨base,mb,hd,Bs,Ix,l,h⟩:=h
 exact⟨base,mb,hd,Bs,Ix,l,⟨h.tr.later hb,h.ix,h.is,h.mem⟩⟩
theorem IsP.later {g:Int→TP.V2}{t:Nat}{W W':World}(h:IsP g t W)(hb:Below W.heap.size W W'):IsP g t W':=by
 obtain⟨base,mb,hd,Bs,Ix,l,h⟩:=h
 exact⟨base,mb,hd,Bs,Ix,l,⟨h.tr.later hb,h.ix,h.is,h.mem⟩⟩
def breakB (g:Int→Int)(r:Int):Int:=if 44032≤r∧r≤55203 then (if (r - 44032).tmod 28=0 then 12 else 13)else at0 0 g r
def outB (gc go:Int→Int)(gp:Int→TP.V2)(r:Int):Bool:=at0 (0,0) gp r != (0,0)&&((at0 (0,0) gp r).2==0||at0 0 go r==1||at0 0 gc r != 0||at0 0 gc (at0 (0,0) gp r).1 != 0)
set_option maxHeartbeats 4000000 in
theorem out_any {gc go:Int→Int}{gp:Int→TP.V2}{tp t0 t3 t4:Nat}{W:World}(lt:tp<W.heap.size)(k0:W.cell? ⟨tp,0,none⟩=some (.pointer (some ⟨t0,0,none⟩)))(k3:W.cell? ⟨tp,3,none⟩=some (.pointer (some ⟨t3,0,none⟩)))(k4:W.cell? ⟨tp,4,none⟩=some (.pointer (some ⟨t4,0,none⟩)))
  (h0:IsT gc t0 W) (h3:IsP gp t3 W) (h4:IsT go t4 W) (hw:∀r,-2147483648≤(at0 (0,0) gp r).1∧(at0 (0,0) gp r).1≤2147483647) (r:Int) (r0: -2147483648≤r) (r1:r≤2147483647):
  Calls Tryz.prog 114 #[.pointer (some ⟨tp,0,none⟩),.int .i32 r] W (fun e w'=>e= .returned (.bool (outB gc go gp r))∧Below W.heap.size W w'):=by
 have hwr:=hw r
 have CP:=Lib.hid (pair_any k3 h3 r r0 r1)
 have CC:=Lib.hid (fun(X:World) (hX:Below W.heap.size W X) (q:Int) (q0: -2147483648≤q) (q1:q≤2147483647)=>class_any (W:=X) ((hX.cell lt).trans k0) (h0.later hX) q q0 q1)
 have CO:=Lib.hid (fun(X:World) (hX:Below W.heap.size W X)=>getT_any (h4.later hX) r)
 have K4:=Lib.hid (fun(X:World) (hX:Below W.heap.size W X)=>(hX.cell (p:=⟨tp,4,none⟩) lt).trans k4)
 unfold outB
 obtain⟨x,hx⟩:∃x,at0 (0,0) gp r=x:=⟨_,rfl⟩
 obtain⟨o,ho⟩:∃o,at0 0 go r=o:=⟨_,rfl⟩
 obtain⟨c,hc⟩:∃c,at0 0 gc r=c:=⟨_,rfl⟩
 obtain⟨d,hd⟩:∃d,at0 0 gc x.1=d:=⟨_,rfl⟩
 rw [hx]at CP hwr ⊢
 rw [ho]at CO ⊢
 rw [hc,hd]
 have HC:=Lib.hid hc
 have HD:=Lib.hid hd
 clear hx ho hc hd h0 h3 h4 k0 k3 k4 hw
 obtain⟨x1,x2⟩:=x
 dsimp only at hwr CP HD ⊢
 obtain⟨ok,hok⟩:∃ok,((x1,x2) != ((0,0):TP.V2))=ok:=⟨_,rfl⟩
 rw [hok]at CP ⊢
 clear hok
 go_enter Tryz.func114,Tryz.ntmps114
 go_wp2_with fail
 refine CP.out.mono ?_
 rintro e w1 ⟨rfl,hb1⟩
 cases ok
 case false=>
  go_wp2_with fail
  go_ret
  exact⟨rfl,hb1⟩
 case true=>
  have k4:=K4.out w1 hb1
  by_cases e2:x2=0
  ·subst e2
   go_wp2_with fail
   go_ret
   exact⟨by simp,hb1⟩
  ·have d2:(x2==0)=false:=by simpa using e2
   have E2:=Lib.hid d2
   have C4:=Lib.hid (CO.out w1 hb1)
   go_wp2_with fail
   refine C4.out.mono ?_
   rintro e w2 ⟨rfl,hb2⟩
   have hb2:=hb1.trans (hb2.mono hb1.size)
   clear C4 k4
   by_cases e3:o=1
   ·subst e3
    go_wp2_with fail
    go_ret
    exact⟨by simp,hb2⟩
   ·have d3:(o==1)=false:=by simpa using e3
    have E3:=Lib.hid d3
    have C5:=Lib.hid (CC.out w2 hb2 r r0 r1)
    go_wp2_with fail
    refine C5.out.mono ?_
    rintro e w3 ⟨rfl,hb3⟩
    have hb3:=hb2.trans (hb3.mono hb2.size)
    rw [HC.out]
    clear C5
    by_cases e4:c=0
    ·subst e4
     have C6:=Lib.hid (CC.out w3 hb3 x1 hwr.1 hwr.2)
     go_wp2_with fail
     refine C6.out.mono ?_
     rintro e w4 ⟨rfl,hb4⟩
     have hb4:=hb3.trans (hb4.mono hb3.size)
     rw [HD.out]
     go_wp2_with fail
     go_ret
     exact⟨by simp [E2.out,E3.out],hb4⟩
    ·have d4:(c != 0)=true:=by simpa using e4
     go_wp2_with fail
     go_ret
     exact⟨by simp [d4],hb3⟩
abbrev w32 (a:Int):Int:=IntKind.i32.wrap a
def pcV (s:RW.Span):Pc TP.V2:=⟨s.f,s.t,(w32 s.a,w32 s.b)⟩
theorem pget_pcV (S:List RW.Span)(r:Int):pget (S.map pcV) r=(RW.val S r).map fun p=>(w32 p.1,w32 p.2):=by
 induction S with
 |nil=>rfl
 |cons x S ih=>
  rw [List.map_cons,pget_cons,ih]
  unfold RW.val
  by_cases h:x.f≤r∧r≤x.t
  ·rw [List.find?_cons_of_pos (by simpa [RW.Span.has]using h),if_pos (show (pcV x).f≤r∧r≤(pcV x).t from h)];rfl
  ·rw [List.find?_cons_of_neg (by simpa [RW.Span.has]using h),if_neg (show ¬((pcV x).f≤r∧r≤(pcV x).t)from h)]
def pget2 (L:List RW.Row)(r:Int):TP.V2:=((RW.rval 2 L r).map fun p=>(w32 p.1,w32 p.2)).getD (0,0)
theorem pvalV_good {L:List RW.Row}{S:List RW.Span}(h:RW.Good 2 L S){r:Int}(h0:0≤r)(h1:r≤RW.MS):pval (S.map pcV) (0,0) r=pget2 L r:=by
 unfold pval pget2
 rw [pget_pcV,h.says r h0 h1]
theorem wfV (S:List RW.Span)(r:Int):TP.WV (pval (S.map pcV) (0,0) r):=by
 unfold pval
 rw [pget_pcV]
 cases RW.val S r with
 |none=>exact⟨rfl,rfl⟩
 |some p=>exact⟨wf_wrap .i32 p.1,wf_wrap .i32 p.2⟩
open Go.RowKit Go.Maps
theorem lawP:Keyed Tryz.prog 99:=Keyed.of_law (deep_law_laid TP.laidOutP (m:=3) (by omega) (of_decide_eq_true (by kernel_rfl)) (by kernel_rfl) (by rw [Tryz.underlying99]))
theorem keyP (x:TP.V2)(h:TP.WV x):∃kl,keyOf Tryz.prog 99 (TP.vV x)=some kl:=by
 have hpos:2< Tryz.prog.types.size:=of_decide_eq_true (by kernel_rfl)
 obtain⟨d,hd⟩:∃d,Tryz.prog.types.size+1=d+1+1:=⟨Tryz.prog.types.size - 1,by omega⟩
 have kt: Tryz.prog.keyType 99=true:=by kernel_rfl
 have c2: Tryz.prog.cellsOf 99=2:=by kernel_rfl
 obtain⟨y,hy⟩:=TP.key_in x h d
 unfold keyOf
 rw [Tryz.underlying99,hd]
 have hf:(TP.vV x).formed Tryz.prog 99=true:=by
  simp [TP.vV,Value.formed,Tryz.underlying99,c2]
 simp only [kt,hf,Bool.and_self,if_true]
 rw [show (TP.vV x).cells.toList=TP.encV x from rfl,hy]
 exact⟨_,rfl⟩
theorem vV_inj {x y:TP.V2}(h:TP.vV x=TP.vV y):x=y:=by
 injection h with h
 have:=congrArg Array.toList h
 simp only [List.cons.injEq,Value.int.injEq,true_and,and_true]at this
 exact Prod.ext this.1 this.2
def Mp (w:World)(b n:Nat)(l:TP.V2→Option Int):Prop:=∃D,w.ownsMap Tryz.prog 99 TP.el b n D∧
 ∀x kl,keyOf Tryz.prog 99 (TP.vV x)=some kl→D.atKey kl (.lit (.int .i32 0))= .lit (.int .i32 ((l x).getD 0))∧Maps.has D kl=(l x).isSome
def alsoP (l:TP.V2→Option Int)(x:TP.V2)(i:Int):TP.V2→Option Int:=fun y=>if x=y then some i else l y
theorem Mp.kept {w w':World}{b n:Nat}{l:TP.V2→Option Int}{row:Option Nat}(h:Mp w b n l)(hg:w.grownBy w' row)(hne:some b≠row):Mp w' b n l:=by
 obtain⟨D,h1,h2⟩:=h
 exact⟨D,h1.kept hg hne,h2⟩
theorem Mp.lt {w:World}{b n:Nat}{l:TP.V2→Option Int}(h:Mp w b n l):b<w.heap.size:=h.choose_spec.1.lt
theorem Mp.later {w w':World}{b n B:Nat}{l:TP.V2→Option Int}(h:Mp w b n l)(hb:Below B w w')(hB:b<B):Mp w' b n l:=by
 obtain⟨D,⟨es,clock,hh,F,hs,hD⟩,h2⟩:=h
 exact⟨D,⟨es,clock,(hb.block _ hB).trans hh,F,hs,hD⟩,h2⟩
theorem Mp.made (w:World):Mp (w.alloc (.map #[] 0)) w.heap.size 0 (fun _=>none):=
 ⟨_,World.ownsMap_made w _ _ _,fun B kl _=>⟨rfl,rfl⟩⟩
theorem Mp.put {w:World}{b n:Nat}{l:TP.V2→Option Int}{D:DataW Unit}(hown:w.ownsMap Tryz.prog 99 TP.el b n D)(h:∀x kl,keyOf Tryz.prog 99 (TP.vV x)=some kl→D.atKey kl (.lit (.int .i32 0))= .lit (.int .i32 ((l x).getD 0))∧Maps.has D kl=(l x).isSome)
  {w':World} {n':Nat} {x:TP.V2} {i:Int} {kl:Lit} (hk:keyOf Tryz.prog 99 (TP.vV x)=some kl) (hown':w'.ownsMap Tryz.prog 99 TP.el b n' (D.put kl (.lit (.int .i32 i)))):Mp w' b n' (alsoP l x i):=by
 have hm:=hown.isMap
 refine⟨_,hown',fun X kx hx=> ?_⟩
 unfold alsoP
 by_cases e:x=X
 ·subst e
  rw [hk]at hx
  cases hx
  rw [if_pos rfl,atKey_put_same hm (lawP.key hk),has_put_same hm (lawP.key hk)]
  exact⟨rfl,rfl⟩
 ·have hne:kx≠kl:=fun he=>e (vV_inj (lawP.inj hk (he▸hx)))
  rw [if_neg e,atKey_put_other hne,has_put_other hne]
  exact h X kx hx
theorem Mp.look {w:World}{b n:Nat}{l:TP.V2→Option Int}(h:Mp w b n l){x:TP.V2}(hx:TP.WV x):
  (Instr.lookup 88 (.map (some b)) (TP.vV x) true).run Tryz.prog w= .ok (.tuple #[.int .i32 ((l x).getD 0),.bool (l x).isSome]) w:=by
 obtain⟨D,h2,h3⟩:=h
 obtain⟨kl,hk⟩:=keyP x hx
 obtain⟨ha,hh⟩:=h3 x kl hk
 obtain⟨u,ps,hrun,hv⟩:=h2.look_ok lawP Tryz.underlying88 (TP.zeroI32 _) (plainElem_int Tryz.underlying21 (by decide)) hk
 rw [ha]at hv
 obtain⟨c,rfl,hc,_⟩:=plainElem_int_inv Tryz.underlying21 hv
 simp only [Prod.mk.injEq,DataW.lit.injEq,Lit.int.injEq,true_and]at hc
 rw [hrun,hh,←hc.1]
theorem lawR:Keyed Tryz.prog 21:=int_keyed Tryz.underlying21
theorem key_r (r:Int)(h:(Lit.int .i32 r).wf=true):keyOf Tryz.prog 21 (.int .i32 r)=some (.int .i32 r):=keyOf_int_mk Tryz.underlying21 h
theorem zeroI64 (w:World):(zeroValue 3).run Tryz.prog w= .ok (.int .i64 0) w:=by kernel_rfl
noncomputable abbrev elN:Value→Option (DataW Unit × List MemPlace):=plainElem Tryz.prog 3
def Ms (w:World)(b n:Nat)(c:Int→Int):Prop:=∃D,w.ownsMap Tryz.prog 21 elN b n D∧∀r kl,keyOf Tryz.prog 21 (.int .i32 r)=some kl→D.atKey kl (.lit (.int .i64 0))= .lit (.int .i64 (c r))
def alsoN (c:Int→Int)(r v:Int):Int→Int:=fun q=>if r=q then v else c q
theorem Ms.kept {w w':World}{b n:Nat}{c:Int→Int}{row:Option Nat}(h:Ms w b n c)(hg:w.grownBy w' row)(hne:some b≠row):Ms w' b n c:=by
 obtain⟨D,h1,h2⟩:=h
 exact⟨D,h1.kept hg hne,h2⟩
theorem Ms.lt {w:World}{b n:Nat}{c:Int→Int}(h:Ms w b n c):b<w.heap.size:=h.choose_spec.1.lt
theorem Ms.later {w w':World}{b n B:Nat}{c:Int→Int}(h:Ms w b n c)(hb:Below B w w')(hB:b<B):Ms w' b n c:=by
 obtain⟨D,⟨es,clock,hh,F,hs,hD⟩,h2⟩:=h
 exact⟨D,⟨es,clock,(hb.block _ hB).trans hh,F,hs,hD⟩,h2⟩
theorem Ms.made (w:World):Ms (w.alloc (.map #[] 0)) w.heap.size 0 (fun _=>0):=⟨_,World.ownsMap_made w _ _ _,fun _ _ _=>rfl⟩
theorem Ms.look {w:World}{b n:Nat}{c:Int→Int}(h:Ms w b n c){r:Int}(hr:(Lit.int .i32 r).wf=true):
  (Instr.lookup 89 (.map (some b)) (.int .i32 r) false).run Tryz.prog w= .ok (.int .i64 (c r)) w∧(Lit.int .i64 (c r)).wf=true:=by
 obtain⟨D,h1,h2⟩:=h
 obtain⟨v,hrun,hat,hw⟩:=h1.lookup_int lawR Tryz.underlying89 Tryz.underlying3 (zeroI64 _) (key_r r hr)
 rw [h2 r _ (key_r r hr)]at hat
 injection hat with hat
 injection hat with _ hat
 subst hat
 exact⟨hrun,hw⟩
theorem Ms.set {w:World}{b n:Nat}{c:Int→Int}(h:Ms w b n c)(hn:n<maxLen){r v:Int}(hr:(Lit.int .i32 r).wf=true)(hv:(Lit.int .i64 v).wf=true):
  ∃w',(Instr.mapUpdate 89 (.map (some b)) (.int .i32 r) (.int .i64 v)).run Tryz.prog w= .ok () w'∧Ms w' b (n+1) (alsoN c r v)∧w.grownBy w' (some b):=by
 obtain⟨D,h1,h2⟩:=h
 have hk:=key_r r hr
 obtain⟨w',hrun,ho,hg⟩:=h1.update lawR Tryz.underlying89 hn hk (plainElem_int Tryz.underlying3 hv)
 refine⟨w',hrun,⟨_,ho,fun q kl hq=> ?_⟩,hg⟩
 have hm:=h1.isMap
 unfold alsoN
 by_cases e:r=q
 ·subst e
  obtain rfl:Lit.int .i32 r=kl:=Option.some.inj (hk.symm.trans hq)
  rw [if_pos rfl,atKey_put_same hm (lawR.key hk)]
 ·have hne:kl≠ .int .i32 r:=fun e'=>e (by
   have:=lawR.inj hk (e'▸hq)
   simpa using this)
  rw [if_neg e,atKey_put_other hne]
  exact h2 q kl hq
theorem Mp.set {w:World}{b n:Nat}{l:TP.V2→Option Int}(h:Mp w b n l)(hn:n<maxLen){x:TP.V2}(hx:TP.WV x){r:Int}(hr:(Lit.int .i32 r).wf=true):
  ∃w',(Instr.mapUpdate 88 (.map (some b)) (TP.vV x) (.int .i32 r)).run Tryz.prog w= .ok () w'∧Mp w' b (n+1) (alsoP l x r)∧w.grownBy w' (some b):=by
 obtain⟨D,h1,h2⟩:=h
 obtain⟨kl,hk⟩:=keyP x hx
 obtain⟨w',hrun,ho,hg⟩:=h1.update lawP Tryz.underlying88 hn hk (plainElem_int Tryz.underlying21 hr)
 exact⟨w',hrun,Mp.put h1 h2 hk ho,hg⟩
def prS (s:RW.Span):TP.V2:=(w32 s.a,w32 s.b)
def firstIn (o:Int→Bool)(f t:Int):Option Int:=((List.range (t+1 - f).toNat).map fun k:Nat=>f+(k:Int)).find? fun r=> !o r
theorem firstIn_some {o:Int→Bool}{f t:Int}{k:Nat}(h:f+(k:Int)≤t)(hn:∀j:Nat,j<k→o (f+(j:Int))=true)(hk:o (f+(k:Int))=false):firstIn o f t=some (f+(k:Int)):=by
 unfold firstIn
 rw [List.find?_eq_some_iff_getElem]
 refine⟨by simp [hk],k,by simp;omega,by simp,fun j hj=> ?_⟩
 simp [hn j hj]
theorem firstIn_none {o:Int→Bool}{f t:Int}(hn:∀j:Nat,f+(j:Int)≤t→o (f+(j:Int))=true):firstIn o f t=none:=by
 unfold firstIn
 rw [List.find?_eq_none]
 intro r hr
 obtain⟨j,hj,rfl⟩:=List.mem_map.1 hr
 have:=List.mem_range.1 hj
 simp [hn j (by omega)]
theorem firstIn_is {o:Int→Bool}{f t r:Int}(h:firstIn o f t=some r):f≤r∧r≤t∧o r=false∧∀q,f≤q→q<r→o q=true:=by
 unfold firstIn at h
 rw [List.find?_eq_some_iff_getElem]at h
 obtain⟨h1,k,hk,e,h2⟩:=h
 simp at hk e
 refine⟨by omega,by omega,by simpa using h1,fun q q1 q2=> ?_⟩
 have:=h2 (q - f).toNat (by omega)
 simp at this
 rwa [show f+max (q - f) 0=q by omega]at this
theorem firstIn_no {o:Int→Bool}{f t:Int}(h:firstIn o f t=none):∀q,f≤q→q≤t→o q=true:=by
 intro q q1 q2
 unfold firstIn at h
 rw [List.find?_eq_none]at h
 have:=h q (List.mem_map.2 ⟨(q - f).toNat,List.mem_range.2 (by omega),by omega⟩)
 simpa using this
def lst (o:Int→Bool)(st:(TP.V2→Option Int) × (Int→Int))(x:RW.Span):(TP.V2→Option Int) × (Int→Int):=
 if (st.1 (prS x)).isSome=true∨(prS x).2=0 then st else match firstIn o x.f x.t with
 |none=>st
 |some r=>(alsoP st.1 (prS x) r,alsoN st.2 (prS x).2 (st.2 (prS x).2+1))
def lrun (o:Int→Bool)(S:List RW.Span):(TP.V2→Option Int) × (Int→Int):=S.foldl (lst o) (fun _=>none,fun _=>0)
theorem lrun_snoc {o:Int→Bool}{S:List RW.Span}{k:Nat}{x:RW.Span}(h:S[k]? =some x):lrun o (S.take (k+1))=lst o (lrun o (S.take k)) x:=by
 rw [take_snoc' h,lrun,List.foldl_append]
 rfl
structure LQ (o:Int→Bool)(S:List RW.Span)(l:TP.V2→Option Int)(c:Int→Int):Prop where
 yes:∀p r,l p=some r→p.2≠0∧o r=false∧(∃s∈S,prS s=p∧s.f≤r∧r≤s.t)∧∀s∈S,prS s=p→∀q,s.f≤q→q≤s.t→q<r→o q=true
 no:∀p,l p=none→p.2=0∨∀s∈S,prS s=p→∀q,s.f≤q→q≤s.t→o q=true
 num:∀q,0≤c q∧c q≤S.length∧(0<c q↔∃a,(l (a,q)).isSome=true)
theorem LQ.start (o:Int→Bool):LQ o [] (fun _=>Option.none) (fun _=>0):=
 ⟨(fun p r h=>(by cases h)),(fun p _=> .inr fun s hs=>(by cases hs)),fun q=>⟨Int.le_refl _,(by simp),(by simp)⟩⟩
theorem LQ.step {o:Int→Bool}{S:List RW.Span}{x:RW.Span}{st:(TP.V2→Option Int) × (Int→Int)}(hr:∀s∈S,s.t<x.f)(h:LQ o S st.1 st.2):LQ o (S++[x]) (lst o st x).1 (lst o st x).2:=by
 obtain⟨l,c⟩:=st
 unfold lst
 dsimp only at h ⊢
 by_cases hc:(l (prS x)).isSome=true∨(prS x).2=0
 ·rw [if_pos hc]
  dsimp only
  refine⟨fun p r e=> ?_,fun p e=> ?_,fun q=> ?_⟩
  ·obtain⟨h1,h2,⟨s,hs,h3⟩,h4⟩:=h.yes p r e
   refine⟨h1,h2,⟨s,by simp [hs],h3⟩,fun t ht e' q q1 q2 q3=> ?_⟩
   rcases List.mem_append.1 ht with ht|ht
   ·exact h4 t ht e' q q1 q2 q3
   ·simp at ht
    subst ht
    have:=hr s hs
    omega
  ·rcases h.no p e with h1|h1
   ·exact .inl h1
   ·by_cases h0:p.2=0
    ·exact .inl h0
    ·refine .inr fun t ht e'=> ?_
     rcases List.mem_append.1 ht with ht|ht
     ·exact h1 t ht e'
     ·simp at ht
      subst ht
      rcases hc with hc|hc
      ·rw [e',e]at hc;cases hc
      ·rw [e']at hc;exact absurd hc h0
  ·have:=h.num q
   exact⟨this.1,by simp;omega,this.2.2⟩
 ·rw [if_neg hc]
  rw [not_or]at hc
  have hn:l (prS x)=none:=by
   cases e:l (prS x)with
   |none=>rfl
   |some r=>rw [e]at hc;exact absurd rfl hc.1
  have hall:∀s∈S,prS s=prS x→∀q,s.f≤q→q≤s.t→o q=true:=by
   rcases h.no _ hn with h1|h1
   ·exact absurd h1 hc.2
   ·exact h1
  cases hf:firstIn o x.f x.t with
  |none=>
   dsimp only
   have hx:=firstIn_no hf
   refine⟨fun p r e=> ?_,fun p e=> ?_,fun q=> ?_⟩
   ·obtain⟨h1,h2,⟨s,hs,h3⟩,h4⟩:=h.yes p r e
    refine⟨h1,h2,⟨s,by simp [hs],h3⟩,fun t ht e' q q1 q2 q3=> ?_⟩
    rcases List.mem_append.1 ht with ht|ht
    ·exact h4 t ht e' q q1 q2 q3
    ·simp at ht
     subst ht
     exact hx q q1 q2
   ·rcases h.no p e with h1|h1
    ·exact .inl h1
    ·refine .inr fun t ht e'=> ?_
     rcases List.mem_append.1 ht with ht|ht
     ·exact h1 t ht e'
     ·simp at ht
      subst ht
      exact hx
   ·have:=h.num q
    exact⟨this.1,by simp;omega,this.2.2⟩
  |some r=>
   dsimp only
   obtain⟨f1,f2,f3,f4⟩:=firstIn_is hf
   refine⟨fun p r' e=> ?_,fun p e=> ?_,fun q=> ?_⟩
   ·unfold alsoP at e
    by_cases ep:prS x=p
    ·rw [if_pos ep]at e
     obtain rfl:r=r':=Option.some.inj e
     subst ep
     refine⟨hc.2,f3,⟨x,by simp,rfl,f1,f2⟩,fun t ht e' q q1 q2 q3=> ?_⟩
     rcases List.mem_append.1 ht with ht|ht
     ·exact hall t ht e' q q1 q2
     ·simp at ht
      subst ht
      exact f4 q q1 q3
    ·rw [if_neg ep]at e
     obtain⟨h1,h2,⟨s,hs,h3⟩,h4⟩:=h.yes p r' e
     refine⟨h1,h2,⟨s,by simp [hs],h3⟩,fun t ht e' q q1 q2 q3=> ?_⟩
     rcases List.mem_append.1 ht with ht|ht
     ·exact h4 t ht e' q q1 q2 q3
     ·simp at ht
      subst ht
      exact absurd e' ep
   ·unfold alsoP at e
    by_cases ep:prS x=p
    ·rw [if_pos ep]at e;cases e
    ·rw [if_neg ep]at e
     rcases h.no p e with h1|h1
     ·exact .inl h1
     ·refine .inr fun t ht e'=> ?_
      rcases List.mem_append.1 ht with ht|ht
      ·exact h1 t ht e'
      ·simp at ht
       subst ht
       exact absurd e' ep
   ·have hq:=h.num q
    unfold alsoN
    by_cases eq:(prS x).2=q
    ·subst eq
     rw [if_pos rfl]
     refine⟨by omega,by simp;omega,fun _=>⟨(prS x).1,by unfold alsoP;rw [if_pos rfl];rfl⟩,fun _=>by omega⟩
    ·rw [if_neg eq]
     refine⟨hq.1,by simp;omega,hq.2.2.trans ⟨fun⟨a,ha⟩=>⟨a,?_⟩,fun⟨a,ha⟩=>⟨a,?_⟩⟩⟩
     ·unfold alsoP
      rw [if_neg (fun e=>eq (by rw [e]))]
      exact ha
     ·unfold alsoP at ha
      rwa [if_neg (fun e=>eq (by rw [e]))]at ha
theorem lq_take (o:Int→Bool){S:List RW.Span}(hR:RW.Rise S):∀k,k≤S.length→LQ o (S.take k) (lrun o (S.take k)).1 (lrun o (S.take k)).2:=by
 intro k
 induction k with
 |zero=>intro _;exact LQ.start o
 |succ k ih=>
  intro hk
  have hx:S[k]? =some S[k]:=List.getElem?_eq_getElem (by omega)
  rw [lrun_snoc hx,take_snoc' hx]
  refine LQ.step (fun s hs=> ?_) (ih (by omega))
  obtain⟨j,hj,e⟩:=List.getElem_of_mem hs
  have hj':j<k:=by simp at hj;omega
  have:=List.pairwise_iff_getElem.1 hR.1 j k (by omega) (by omega) hj'
  rw [List.getElem_take]at e
  rw [e]at this
  exact this
theorem lq_all (o:Int→Bool){S:List RW.Span}(hR:RW.Rise S):LQ o S (lrun o S).1 (lrun o S).2:=by
 have:=lq_take o hR S.length (Nat.le_refl _)
 rwa [List.take_length]at this
structure Two2 (b6 b7:Nat)(W W':World):Prop where
 os:W'.os=W.os
 tape:W'.tape=W.tape
 output:W'.output=W.output
 size:W.heap.size≤W'.heap.size
 block:∀k,k<W.heap.size→k≠b6→k≠b7→W'.heap[k]? =W.heap[k]?
section
variable {b6 b7:Nat}{W W1 W2:World}
theorem Two2.of (h:Below W.heap.size W W1):Two2 b6 b7 W W1:=⟨h.os,h.tape,h.output,h.size,fun k hk _ _=>h.block k hk⟩
theorem Two2.trans (h:Two2 b6 b7 W W1)(h':Two2 b6 b7 W1 W2):Two2 b6 b7 W W2:=
 ⟨h'.os.trans h.os,h'.tape.trans h.tape,h'.output.trans h.output,Nat.le_trans h.size h'.size,fun k hk a b=>(h'.block k (Nat.lt_of_lt_of_le hk h.size) a b).trans (h.block k hk a b)⟩
theorem Two2.six (h:W.grownBy W1 (some b6)):Two2 b6 b7 W W1:=⟨h.os,h.tape,h.output,h.size,fun k hk a _=>h.block k hk fun e=>a (by injection e)⟩
theorem Two2.seven (h:W.grownBy W1 (some b7)):Two2 b6 b7 W W1:=⟨h.os,h.tape,h.output,h.size,fun k hk _ a=>h.block k hk fun e=>a (by injection e)⟩
theorem Two2.below {B:Nat}(h:Two2 b6 b7 W W1)(hB:B≤W.heap.size)(h6:B≤b6)(h7:B≤b7):Below B W W1:=
 ⟨h.os,h.tape,h.output,h.size,fun k hk=>h.block k (by omega) (by omega) (by omega)⟩
theorem Li.two {α:Type}{enc:α→List Value}{k:Nat}{S:Nat→Prop}{A:Option Addr}{L:List α}(h:Li k enc W S A L)(hg:Two2 b6 b7 W W1)(hS:∀b,S b→b≠b6∧b≠b7):Li k enc W1 S A L:=by
 intro j x hj
 obtain⟨b,o,e,hl,hs,hc⟩:=h j x hj
 exact⟨b,o,e,Nat.lt_of_lt_of_le hl hg.size,hs,fun i u hu=>(World.cell?_of_block (a:=⟨b,o+(j*k+i),none⟩) (hg.block b hl (hS b hs).1 (hS b hs).2)).trans (hc i u hu)⟩
end
theorem Mp.at {w w':World}{b n:Nat}{l:TP.V2→Option Int}(h:Mp w b n l)(hb:w'.heap[b]? =w.heap[b]?):Mp w' b n l:=by
 obtain⟨D,⟨es,clock,hh,F,hs,hD⟩,h2⟩:=h
 exact⟨D,⟨es,clock,hb.trans hh,F,hs,hD⟩,h2⟩
theorem Ms.at {w w':World}{b n:Nat}{c:Int→Int}(h:Ms w b n c)(hb:w'.heap[b]? =w.heap[b]?):Ms w' b n c:=by
 obtain⟨D,⟨es,clock,hh,F,hs,hD⟩,h2⟩:=h
 exact⟨D,⟨es,clock,hb.trans hh,F,hs,hD⟩,h2⟩
theorem blk_at {w w':World}{b:Nat}{cs:Array Value}(h:Blk w b cs)(hs:w.heap.size≤w'.heap.size)(hb:w'.heap[b]? =w.heap[b]?):Blk w' b cs:=
 ⟨Nat.lt_of_lt_of_le h.1 hs,fun j=>(World.cell?_of_block (a:=⟨b,j,none⟩) hb).trans (h.2.1 j),fun j=>(World.frozen?_of_block (a:=⟨b,j,none⟩) hb).trans (h.2.2 j)⟩
set_option maxHeartbeats 4000000 in
theorem learn_any {gc go:Int→Int}{gp:Int→TP.V2}{tp t0 t3 t4 b6 b7 n6 n7:Nat}{l:TP.V2→Option Int}{c:Int→Int}{W:World}(lt:tp<W.heap.size)
  (k0:W.cell? ⟨tp,0,none⟩=some (.pointer (some ⟨t0,0,none⟩))) (k3:W.cell? ⟨tp,3,none⟩=some (.pointer (some ⟨t3,0,none⟩))) (k4:W.cell? ⟨tp,4,none⟩=some (.pointer (some ⟨t4,0,none⟩))) (k6:W.cell? ⟨tp,6,none⟩=some (.map (some b6))) (k7:W.cell? ⟨tp,7,none⟩=some (.map (some b7)))
  (h0:IsT gc t0 W) (h3:IsP gp t3 W) (h4:IsT go t4 W) (hw:∀r,-2147483648≤(at0 (0,0) gp r).1∧(at0 (0,0) gp r).1≤2147483647) (m6:Mp W b6 n6 l) (m7:Ms W b7 n7 c) (hn6:n6<maxLen) (hn7:n7<maxLen) (hne:b6≠b7) (htp:tp≠b6) (x:RW.Span) (x0:0≤x.f) (x1:x.f≤x.t) (x2:x.t≤1114111) (hc:∀q,0≤c q∧c q≤100000):
  Calls Tryz.prog 63 #[.pointer (some ⟨tp,0,none⟩),.agg #[.int .i64 x.f,.int .i64 x.t,.int .i64 x.a,.int .i64 x.b]] W fun e w'=>e= .returned (.tuple #[])∧∃n6' n7',n6'≤n6+1∧n7'≤n7+1∧Mp w' b6 n6' (lst (outB gc go gp) (l,c) x).1∧Ms w' b7 n7' (lst (outB gc go gp) (l,c) x).2∧Two2 b6 b7 W w':=by
 have CO:=Lib.hid (fun(X:World) (hX:Below W.heap.size W X) (q:Int) (q0: -2147483648≤q) (q1:q≤2147483647)=>out_any (W:=X) (Nat.lt_of_lt_of_le lt hX.size) ((hX.cell lt).trans k0) ((hX.cell lt).trans k3) ((hX.cell lt).trans k4) (h0.later hX) (h3.later hX) (h4.later hX) hw q q0 q1)
 have K:=Lib.hid (fun(X:World) (hX:Below W.heap.size W X)=>And.intro ((hX.cell (p:=⟨tp,6,none⟩) lt).trans k6) ((hX.cell (p:=⟨tp,7,none⟩) lt).trans k7))
 have M:=Lib.hid (fun(X:World) (hX:Below W.heap.size W X)=>And.intro (m6.later hX m6.lt) (m7.later hX m7.lt))
 obtain⟨o,ho⟩:∃o,outB gc go gp=o:=⟨_,rfl⟩
 simp only [ho]at CO ⊢
 have hlt6:=m6.lt
 have hlt7:=m7.lt
 clear h0 h3 h4 k0 k3 k4 k6 k7 hw m6 m7 ho
 obtain⟨p1,hp1⟩:∃p1,w32 x.a=p1:=⟨_,rfl⟩
 obtain⟨p2,hp2⟩:∃p2,w32 x.b=p2:=⟨_,rfl⟩
 have WF:=Lib.hid (show TP.WV (p1,p2)∧(Lit.int .i32 p2).wf=true from⟨⟨hp1▸wf_wrap .i32 x.a,hp2▸wf_wrap .i32 x.b⟩,hp2▸wf_wrap .i32 x.b⟩)
 have hpr:prS x=(p1,p2):=by unfold prS;rw [hp1,hp2]
 have E1:=Lib.hid (show (l (p1,p2)).isSome=true∨p2=0→lst o (l,c) x=(l,c)from fun h=>by unfold lst;rw [hpr];exact if_pos h)
 have E2:=Lib.hid (show ¬((l (p1,p2)).isSome=true∨p2=0)→(∀j:Nat,x.f+(j:Int)≤x.t→o (x.f+(j:Int))=true)→lst o (l,c) x=(l,c)from fun h hj=>by unfold lst;rw [hpr,if_neg h,firstIn_none hj])
 have E3:=Lib.hid (show ∀k:Nat,¬((l (p1,p2)).isSome=true∨p2=0)→x.f+(k:Int)≤x.t→(∀j:Nat,j<k→o (x.f+(j:Int))=true)→o (x.f+(k:Int))=false→lst o (l,c) x=(alsoP l (p1,p2) (x.f+(k:Int)),alsoN c p2 (c p2+1))from fun k h h1 h2 h3=>by unfold lst;rw [hpr,if_neg h,firstIn_some h1 h2 h3])
 have hcp:=hc p2
 obtain⟨y,hy⟩:∃y,lst o (l,c) x=y:=⟨_,rfl⟩
 rw [hy]at E1 E2 ⊢
 simp only [hy]at E3
 clear hy hpr hc
 obtain⟨xf,xt,xa,xb⟩:=x
 dsimp only at x0 x1 x2 hp1 hp2 E2 E3 ⊢
 unfold w32 at hp1 hp2
 have f1:IntKind.i32.wrap xf=xf:=IntWalk.i32_in _ (by omega)
 have f2:IntKind.i32.wrap xt=xt:=IntWalk.i32_in _ (by omega)
 go_enter Tryz.func63,Tryz.ntmps63
 go_upto_region 2 with fail
 refine at_world (fun X=>Below W.heap.size W X∧Blk X W.heap.size #[.int .i64 xf,.int .i64 xt,.int .i64 xa,.int .i64 xb]∧Blk X (W.heap.size+1) #[.int .i32 p1,.int .i32 p2]) ⟨((Below.refl _ _).alloc (Nat.le_refl _) _).alloc (by simp) _,(blk_new W _ _).alloc _,by have:=blk_new (W.alloc (.cells #[.int .i64 xf,.int .i64 xt,.int .i64 xa,.int .i64 xb] 97)) #[.int .i32 p1,.int .i32 p2] 99;rwa [World.size_alloc]at this⟩ ?_
 rintro X ⟨hX,B1,B2⟩
 have HX:=Lib.hid (And.intro hX (And.intro B1 B2))
 clear hX B1 B2 hp1 hp2
 have hz:=HX.out.1.size
 have j6:=(K.out X HX.out.1).1
 have d0:X.cell? ⟨W.heap.size+1,0,none⟩=some (.int .i32 p1):=HX.out.2.2.2.1 0
 have d1:X.cell? ⟨W.heap.size+1,1,none⟩=some (.int .i32 p2):=HX.out.2.2.2.1 1
 have HL:∀q,(Instr.lookup 88 (.map (some b6)) (.agg #[.int .i32 p1,.int .i32 p2]) true).run Tryz.prog (X.drewN q)= .ok (.tuple #[.int .i32 ((l (p1,p2)).getD 0),.bool (l (p1,p2)).isSome]) (X.drewN q):=fun q=>by
  have e:=(M.out (X.drewN q) (belDrew HX.out.1 q)).1.look WF.out.1
  dsimp only [TP.vV]at e
  exact e
 go_quiet (fail)
 refine at_world (fun Y=>Below W.heap.size W Y∧Blk Y W.heap.size #[.int .i64 xf,.int .i64 xt,.int .i64 xa,.int .i64 xb]∧Blk Y (W.heap.size+1) #[.int .i32 p1,.int .i32 p2]) ⟨belDrew HX.out.1 _,HX.out.2.1,HX.out.2.2⟩ ?_
 clear HX hz j6 d0 d1 HL
 rintro X ⟨hX,B1,B2⟩
 have HX:=Lib.hid (And.intro hX (And.intro B1 B2))
 clear hX B1 B2
 have hz:=HX.out.1.size
 have s0:X.cell? ⟨W.heap.size,0,none⟩=some (.int .i64 xf):=HX.out.2.1.2.1 0
 have d1:X.cell? ⟨W.heap.size+1,1,none⟩=some (.int .i32 p2):=HX.out.2.2.2.1 1
 have stay:y=(l,c)→∀Z,Below W.heap.size W Z→∃n6' n7',n6'≤n6+1∧n7'≤n7+1∧Mp Z b6 n6' y.fst∧Ms Z b7 n7' y.snd∧Two2 b6 b7 W Z:=fun hy Z hZ=>by
  subst hy
  exact⟨n6,n7,Nat.le_succ _,Nat.le_succ _,(M.out Z hZ).1,(M.out Z hZ).2,Two2.of hZ⟩
 have ST:=Lib.hid stay
 clear stay
 cases hl:l (p1,p2)with
 |some r0=>
  have HE:=Lib.hid (ST.out (E1.out (.inl (by rw [hl];rfl))) X HX.out.1)
  clear hl E1 E2 E3 ST M K CO
  dsimp only [Option.getD_some,Option.isSome_some]
  go_wp2
  exact bodyPost_ret (v:= .tuple #[]) (by simp [results,Tryz.results63,go_sem]) rfl ⟨rfl,HE.out⟩
 |none=>
  dsimp only [Option.getD_none,Option.isSome_none]
  by_cases h2:p2=0
  ·have HE:=Lib.hid (ST.out (E1.out (.inr h2)) X HX.out.1)
   subst h2
   clear hl E1 E2 E3 ST M K CO
   go_wp2
   exact bodyPost_ret (v:= .tuple #[]) (by simp [results,Tryz.results63,go_sem]) rfl ⟨rfl,HE.out⟩
  ·have h2':(p2==0)=false:=by simpa using h2
   have hno:¬((l (p1,p2)).isSome=true∨p2=0):=by rw [hl];simpa using h2
   have E2':=Lib.hid (E2.out hno)
   have E3':=Lib.hid (fun k=>E3.out k hno)
   clear hl E1 E2 E3 hno h2
   go_wp2
   go_loopw [7] (fun v wr=>∃k:Nat,xf+(k:Int)≤xt+1∧v= .int .i32 (xf+(k:Int))∧Hid (Below W.heap.size W wr∧Blk wr W.heap.size #[.int .i64 xf,.int .i64 xt,.int .i64 xa,.int .i64 xb]∧Blk wr (W.heap.size+1) #[.int .i32 p1,.int .i32 p2]∧∀j:Nat,j<k→o (xf+(j:Int))=true)) (fun v _=>(xt+1 - intOf v).toNat)
   case atStart=>exact⟨0,by omega,by simp,HX.out.1,HX.out.2.1,HX.out.2.2,fun j hj=>by omega⟩
   case round=>
    obtain⟨k,hk,rfl,H⟩:=hrel
    obtain⟨r,hr⟩:∃r,xf+(k:Int)=r:=⟨_,rfl⟩
    have E4:=Lib.hid (E3'.out k)
    rw [hr]at E4 hk ⊢
    have HR:=Lib.hid hr
    clear hr
    have z1:wr.cell? ⟨W.heap.size,1,none⟩=some (.int .i64 xt):=H.out.2.1.2.1 1
    by_cases hle:r≤xt
    ·have C1:=Lib.hid (CO.out wr H.out.1 r (by have:=HR.out;omega) (by omega))
     go_wp2_with fail
     refine C1.out.mono ?_
     rintro e w1 ⟨rfl,hb⟩
     have HB:=Lib.hid (show Below W.heap.size W w1∧Blk w1 W.heap.size #[.int .i64 xf,.int .i64 xt,.int .i64 xa,.int .i64 xb]∧Blk w1 (W.heap.size+1) #[.int .i32 p1,.int .i32 p2]from⟨H.out.1.trans (hb.mono H.out.1.size),H.out.2.1.later hb H.out.2.1.1,H.out.2.2.1.later hb H.out.2.2.1.1⟩)
     clear hb C1
     obtain⟨q,hq⟩:∃q,o r=q:=⟨_,rfl⟩
     rw [hq]
     cases q
     case true=>
      have HS:=Lib.hid (show ∀j:Nat,j<k+1→o (xf+(j:Int))=true from fun j hj=>by
       by_cases e:j=k
       ·subst e;rw [HR.out];exact hq
       ·exact H.out.2.2.2 j (by omega))
      have HR':=Lib.hid (show xf+((k+1:Nat):Int)=r+1 by have:=HR.out;omega)
      have g1:IntKind.i32.wrap (r+1)=r+1:=IntWalk.i32_in _ (by have:=HR.out;omega)
      clear hq H E4
      go_wp2
      go_roundw
      case rel=>exact⟨k+1,by rw [HR'.out];omega,by rw [HR'.out],HB.out.1,HB.out.2.1,HB.out.2.2,HS.out⟩
      case measure=>simp [intOf];omega
     case false=>
      have EY:=Lib.hid (E4.out hle H.out.2.2.2 hq)
      clear hq H E4 E2' E3' ST
      have hzz:=HB.out.1.size
      have j6:=(K.out w1 HB.out.1).1
      have y0:w1.cell? ⟨W.heap.size+1,0,none⟩=some (.int .i32 p1):=HB.out.2.2.2.1 0
      have y1:w1.cell? ⟨W.heap.size+1,1,none⟩=some (.int .i32 p2):=HB.out.2.2.2.1 1
      obtain⟨X6,h6,m6,g6⟩:=(M.out w1.drew ⟨HB.out.1.os,HB.out.1.tape,HB.out.1.output,HB.out.1.size,HB.out.1.block⟩).1.set hn6 WF.out.1 (r:=r) (by simp [Lit.wf,IntKind.min,IntKind.max,IntKind.signed,IntKind.bits];have:=HR.out;omega)
      dsimp only [TP.vV]at h6
      have G6:=Lib.hid (And.intro m6 g6)
      clear m6 g6
      go_upto_region 8 with fail
      go_region
      refine at_world (fun Y=>Mp Y b6 (n6+1) (alsoP l (p1,p2) r)∧w1.grownBy Y (some b6)) ⟨G6.out.1,⟨G6.out.2.os,G6.out.2.tape,G6.out.2.output,G6.out.2.size,G6.out.2.block⟩⟩ ?_
      clear h6 G6 j6 y0 y1 z1
      rintro Y ⟨m6,g6⟩
      have HY:=Lib.hid (And.intro m6 g6)
      clear m6 g6
      have k7:=(K.out w1 HB.out.1).2
      have tlt:tp<w1.heap.size:=Nat.lt_of_lt_of_le lt hzz
      have lt7:b7<w1.heap.size:=Nat.lt_of_lt_of_le hlt7 hzz
      have j7:Y.cell? ⟨tp,7,none⟩=some (.map (some b7)):=(World.cell?_of_block (a:=⟨tp,7,none⟩) (HY.out.2.block tp tlt fun e=>htp (by injection e))).trans k7
      have y1:Y.cell? ⟨W.heap.size+1,1,none⟩=some (.int .i32 p2):=(HB.out.2.2.grown HY.out.2 (fun e=>by injection e with e;omega)).2.1 1
      have m7:=(M.out w1 HB.out.1).2.at (HY.out.2.block b7 lt7 fun e=>hne (by injection e with e;exact e.symm))
      have HL7:=((m7.at (w':=Y.drew) rfl).look WF.out.2).1
      have c0:=(m7.look WF.out.2).2
      have g1:IntKind.i64.wrap (c p2+1)=c p2+1:=IntWalk.i64_in _ (by omega)
      obtain⟨X7,h7,m7',g7⟩:=(m7.at (w':=Y.drew) rfl).set hn7 WF.out.2 (v:=c p2+1) (by simp [Lit.wf,IntKind.min,IntKind.max,IntKind.signed,IntKind.bits];omega)
      have G7:=Lib.hid (And.intro m7' g7)
      clear m7' g7 m7 c0 k7
      go_wp2_with fail
      go_region
      refine at_world (fun Z=>Ms Z b7 (n7+1) (alsoN c p2 (c p2+1))∧Y.grownBy Z (some b7)) ⟨G7.out.1,⟨G7.out.2.os,G7.out.2.tape,G7.out.2.output,G7.out.2.size,G7.out.2.block⟩⟩ ?_
      rintro Z ⟨m7,g7⟩
      have HE:=Lib.hid (show ∃n6' n7',n6'≤n6+1∧n7'≤n7+1∧Mp Z b6 n6' y.fst∧Ms Z b7 n7' y.snd∧Two2 b6 b7 W Z from by
       rw [EY.out]
       exact⟨n6+1,n7+1,Nat.le_refl _,Nat.le_refl _,HY.out.1.kept g7 (fun e=>hne (by injection e)),m7,((Two2.of HB.out.1).trans (Two2.six HY.out.2)).trans (Two2.seven g7)⟩)
      clear m7 g7 G7 h7 HY EY j7 y1 HL7 HB M K CO
      go_wp2
      exact bodyPost_ret (v:= .tuple #[]) (by simp [results,Tryz.results63,go_sem]) rfl ⟨rfl,HE.out⟩
    ·have HE:=Lib.hid (ST.out (E2'.out fun j hj=>H.out.2.2.2 j (by have:=HR.out;omega)) wr H.out.1)
     clear E2' E3' E4 ST H HR M K CO
     go_wp2
     refine bodyPost_end (results_none rfl _ _ _) rfl ?_
     obtain⟨a,b,h1,h2,h3⟩:=HE.out
     exact⟨rfl,a,h1,b,h2,h3⟩
open Go.RowKit
def IsTx (lo hi:Nat)(g:Int→Int)(t:Nat)(W:World):Prop:=∃base mb hd Bs Ix l,BtI base g 1114112 t mb hd Bs Ix l W∧∀k,OwH t mb hd k→lo≤k∧k<hi
theorem IsTx.is {lo hi:Nat}{g:Int→Int}{t:Nat}{W:World}(h:IsTx lo hi g t W):IsT g t W:=by
 obtain⟨base,mb,hd,Bs,Ix,l,h,_⟩:=h
 exact⟨base,mb,hd,Bs,Ix,l,h⟩
theorem IsTx.kept {lo hi:Nat}{g:Int→Int}{t:Nat}{W W':World}(h:IsTx lo hi g t W)(hs:W.heap.size≤W'.heap.size)(hk:∀k,lo≤k→k<hi→W'.heap[k]? =W.heap[k]?):IsTx lo hi g t W':=by
 obtain⟨base,mb,hd,Bs,Ix,l,h,hb⟩:=h
 exact⟨base,mb,hd,Bs,Ix,l,⟨h.tr.kept hs fun k hq=>hk k (hb k hq).1 (hb k hq).2,h.ix,h.is,h.mem⟩,hb⟩
theorem IsTx.later {lo hi:Nat}{g:Int→Int}{t:Nat}{W W':World}(h:IsTx lo hi g t W)(hb:Below W.heap.size W W')(hh:hi≤W.heap.size):IsTx lo hi g t W':=h.kept hb.size fun k _ h2=>hb.block k (by omega)
theorem Built.isx {g:Int→Int}{w w':World}{e:Ending}(h:Built g 1114112 w e w'):∃t,e= .returned (.pointer (some ⟨t,0,none⟩))∧IsTx w.heap.size w'.heap.size g t w'∧Below w.heap.size w w':=by
 obtain⟨tb,mb,hd,Bs,Ix,l,e1,hB,hb⟩:=h
 exact⟨tb,e1,⟨_,mb,hd,Bs,Ix,l,hB,fun k hk=>hB.tr.low k hk⟩,hb⟩
def IsPx (lo hi:Nat)(g:Int→TP.V2)(t:Nat)(W:World):Prop:=∃base mb hd Bs Ix l,TP.BtI base g 1114112 t mb hd Bs Ix l W∧∀k,TP.OwH t mb hd k→lo≤k∧k<hi
theorem IsPx.is {lo hi:Nat}{g:Int→TP.V2}{t:Nat}{W:World}(h:IsPx lo hi g t W):IsP g t W:=by
 obtain⟨base,mb,hd,Bs,Ix,l,h,_⟩:=h
 exact⟨base,mb,hd,Bs,Ix,l,h⟩
theorem IsPx.kept {lo hi:Nat}{g:Int→TP.V2}{t:Nat}{W W':World}(h:IsPx lo hi g t W)(hs:W.heap.size≤W'.heap.size)(hk:∀k,lo≤k→k<hi→W'.heap[k]? =W.heap[k]?):IsPx lo hi g t W':=by
 obtain⟨base,mb,hd,Bs,Ix,l,h,hb⟩:=h
 exact⟨base,mb,hd,Bs,Ix,l,⟨h.tr.kept hs fun k hq=>hk k (hb k hq).1 (hb k hq).2,h.ix,h.is,h.mem⟩,hb⟩
theorem IsPx.later {lo hi:Nat}{g:Int→TP.V2}{t:Nat}{W W':World}(h:IsPx lo hi g t W)(hb:Below W.heap.size W W')(hh:hi≤W.heap.size):IsPx lo hi g t W':=h.kept hb.size fun k _ h2=>hb.block k (by omega)
theorem Built.ispx {g:Int→TP.V2}{w w':World}{e:Ending}(h:TP.Built g 1114112 w e w'):∃t,e= .returned (.pointer (some ⟨t,0,none⟩))∧IsPx w.heap.size w'.heap.size g t w'∧Below w.heap.size w w':=by
 obtain⟨tb,mb,hd,Bs,Ix,l,e1,hB,hb⟩:=h
 exact⟨tb,e1,⟨_,mb,hd,Bs,Ix,l,hB,fun k hk=>hB.tr.low k hk⟩,hb⟩
end Go.Proofs.YtlopleeopnnoeaaGreat
