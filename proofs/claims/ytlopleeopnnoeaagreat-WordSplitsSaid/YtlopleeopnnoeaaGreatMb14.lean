import Derived.Test.YtlopleeopnnoeaaGreatMb02
import Derived.Deep.QuietTactic
import Derived.BigQuiet
import Derived.Test.YtlopleeopnnoeaaGreatMb03
import Derived.Sort.OwnSortedInts
import Derived.IntWalk
import Derived.Deep.CutRange
import Derived.StillTailTactics
import Derived.Test.YtlopleeopnnoeaaGreatMb04
import Derived.Sort.BigQuietIn
import Derived.Sort.CutIn
import Derived.Deep.MidRow
import Derived.RangeFuncNested
set_option linter.unusedVariables false
set_option linter.unusedSimpArgs false
namespace Go.Proofs.YtlopleeopnnoeaaGreat.TK
open Go.RowKit
abbrev V3:=Bool × Bool × Bool
abbrev vV (x:V3):Value:= .agg #[.bool x.1,.bool x.2.1,.bool x.2.2]
def encV (x:V3):List Value:=[.bool x.1,.bool x.2.1,.bool x.2.2]
theorem encV_len (x:V3):(encV x).length=3:=rfl
def encP (p:Pc V3):List Value:=[.int .i64 p.f,.int .i64 p.t,.bool p.v.1,.bool p.v.2.1,.bool p.v.2.2]
theorem encP_len (p:Pc V3):(encP p).length=5:=rfl
theorem encP_one (p:Pc V3):∀u∈encP p,u.oneCell'=true:=by
 intro u hu
 simp only [encP,List.mem_cons,List.mem_nil_iff,or_false]at hu
 rcases hu with rfl|rfl|rfl|rfl|rfl<;>rfl
theorem piece_elt:Elt Tryz.prog 139 145 5 24:=elt_of Tryz.underlying139 (z:= .agg #[.int .i64 0,.int .i64 0,.bool false,.bool false,.bool false]) (by kernel_rfl) rfl (by decide)
theorem _root_.Go.Proofs.YtlopleeopnnoeaaGreat.Li.pieceK {w:World}{S:Nat→Prop}{A:Option Addr}{L:List (Pc V3)}(h:Li 5 encP w S A L){j:Nat}(hj:j<L.length):∃x b o,L[j]? =some x∧A=some ⟨b,o,none⟩∧b<w.heap.size∧S b∧
  w.cell? ⟨b,o+j*5,none⟩=some (.int .i64 x.f)∧w.cell? ⟨b,o+j*5+1,none⟩=some (.int .i64 x.t)∧w.cell? ⟨b,o+j*5+2,none⟩=some (.bool x.v.1)∧w.cell? ⟨b,o+j*5+3,none⟩=some (.bool x.v.2.1)∧w.cell? ⟨b,o+j*5+4,none⟩=some (.bool x.v.2.2):=by
 obtain⟨b,o,e,hl,hs,hc⟩:=h.at hj
 exact⟨L[j],b,o,List.getElem?_eq_getElem hj,e,hl,hs,hc 0 _ rfl,by have:=hc 1 _ rfl;rwa [←Nat.add_assoc]at this,by have:=hc 2 _ rfl;rwa [←Nat.add_assoc]at this,by have:=hc 3 _ rfl;rwa [←Nat.add_assoc]at this,by have:=hc 4 _ rfl;rwa [←Nat.add_assoc]at this⟩
theorem eq_v3 (x y:V3)(w:World):(Op.equalIn 10000 141 (vV x) (vV y)).run Tryz.prog w= .ok (x==y) w:=by
 rw [show (10000:Nat)=9999+1 from rfl,Op.equalIn]
 have ua:= Tryz.underlying141
 have ub:= Tryz.underlying4
 simp only [Sem.run_bind,run_underlying ua,Result.andThen_ok]
 simp only [Std.Legacy.Range.forIn_eq_forIn_range',Std.Legacy.Range.size,Nat.sub_zero,Nat.add_sub_cancel,Nat.div_one,List.range'_succ,List.range'_zero,List.forIn_cons,List.forIn_nil]
 go_simp
 obtain⟨a,b,c⟩:=x
 obtain⟨d,e,f⟩:=y
 by_cases h1:a=d<;>by_cases h2:b=e<;>by_cases h3:c=f<;>simp [h1,h2,h3]
theorem eql_v3 (x y:V3)(w:World):(Go.binOp .eql 141 (vV x) (vV y)).run Tryz.prog w= .ok (.bool (x==y)) w:=by
 rw [run_eql_struct,eq_v3]
 rfl
end Go.Proofs.YtlopleeopnnoeaaGreat.TK
namespace Go.Proofs.YtlopleeopnnoeaaGreat.TK
open Go.RowKit
theorem flatP_get (D:List (Pc V3))(y:Pc V3)(i:Nat)(u:Value)(h:(encP y)[i]? =some u):(flatL encP (D++[y]))[D.length*5+i]? =some u:=
 flatL_get encP_len (D++[y]) D.length y i u (by simp) h
theorem flatP_set (D:List (Pc V3))(y:Pc V3)(t:Int):(flatL encP (D++[y])).set (D.length*5+1) (.int .i64 t)=flatL encP (D++[⟨y.f,t,y.v⟩]):=by
 have hl:=flatL_len encP_len D
 rw [flatL_snoc,flatL_snoc,List.set_append,if_neg (by omega),hl,show D.length*5+1 - D.length*5=1 by omega]
 rfl
structure JR (w:World)(g:Int→V3)(lo hi:Int)(k:Nat)(Ao:Option Addr)(no co:Nat)(D:List (Pc V3))(X:World):Prop where
 ji:JI g lo hi D
 len:D.length=no
 grows:Grows w 145 5 encP Ao no co D X
theorem tile_at {lo hi:Int}{L:List (Pc V3)}{k:Nat}{x:Pc V3}(h:Tile lo hi L)(hx:L[k]? =some x):Tile lo x.f (L.take k)∧x.f≤x.t∧Tile lo (x.t+1) (L.take (k+1)):=by
 have e:=take_snoc' hx
 have h1:=h
 rw [←List.take_append_drop (k+1) L,tile_append]at h1
 obtain⟨m,h2,_⟩:=h1
 rw [e]at h2 ⊢
 obtain⟨a,b,c⟩:=tile_snoc.1 h2
 exact⟨a,b,tile_snoc.2 ⟨a,b,rfl⟩⟩
theorem tile_uniq {lo a b:Int}{L:List (Pc V3)}(h:Tile lo a L)(k:Tile lo b L):a=b:=by
 induction L generalizing lo with
 |nil=>exact h.symm.trans k
 |cons p L ih=>exact ih h.2.2 k.2.2
set_option maxHeartbeats 4000000 in
set_option maxRecDepth 100000 in
theorem joined_any (A:Option Addr)(c:Nat)(L:List (Pc V3))(g:Int→V3)(m:Int)(w:World)(hL:Li 5 encP w (fun _=>True) A L)(hc:L.length≤c)(hn:L.length≤100000)(hT:Tile 0 m L)(hV:Vals g L)(hm:m≤100000000):
  Calls Tryz.prog 191 #[.slice A L.length c] w (fun e w'=>∃P,JI g 0 m P∧P.length≤L.length∧TellsO 145 5 encP P w e w'):=by
 have HL:=Lib.hid hL
 have HT:=Lib.hid hT
 have HV:=Lib.hid hV
 clear hL hT hV
 go_enter Tryz.func191,Tryz.ntmps191
 go_wp2
 go_loopw [3,5,6,9] (fun v _ _ i wr=>∃k:Nat,∃Ao no co,k≤L.length∧i= .int .i64 k∧v= .slice Ao no co∧no≤k∧Hid (∃D hi,JR w g 0 hi k Ao no co D wr∧Tile 0 hi (L.take k))) (fun _ _ _ i _=>L.length -(intOf i).toNat)
 case atStart=>exact⟨0,none,0,0,Nat.zero_le _,rfl,rfl,Nat.le_refl _,[],0,⟨⟨rfl,(fun p hp=>by cases hp),trivial⟩,rfl,Grows.start _ _ _⟩,rfl⟩
 case round=>
  obtain⟨k,Ao,no,co,hk,rfl,rfl,hno,HG⟩:=hrel
  obtain⟨D,hi,hG,hTk⟩:=HG.out
  by_cases hlt:k<L.length
  ·obtain⟨x,b,o,hx,rfl,hbl,_,c0,c1,c2,c3,c4⟩:=(HL.out.later hG.grows.below).pieceK hlt
   have hxm:x∈L:=List.mem_of_getElem? hx
   obtain⟨t1,t2,t3⟩:=tile_at HT.out hx
   have hhi:hi=x.f:=tile_uniq hTk t1
   subst hhi
   have xb:=tile_bd HT.out hxm
   have xb1:=xb.1
   have xb3:x.t≤100000000:=by omega
   have hji:=hG.ji.step t2 (HV.out x hxm)
   have HX:=Lib.hid (And.intro hji t3)
   have HJ:=Lib.hid hG
   clear hx hxm hji hG HG hTk t1 t3 xb
   go_wp2
   refine at_world (fun X=>Below wr.heap.size wr X∧Blk X wr.heap.size (encP x).toArray) ⟨(Below.refl _ _).alloc (Nat.le_refl _) _,blk_new _ _ _⟩ ?_
   rintro X ⟨hX,hB⟩
   have l0:X.cell? ⟨wr.heap.size,0,none⟩=some (.int .i64 x.f):=hB.2.1 0
   have l1:X.cell? ⟨wr.heap.size,1,none⟩=some (.int .i64 x.t):=hB.2.1 1
   have l2:X.cell? ⟨wr.heap.size,2,none⟩=some (.bool x.v.1):=hB.2.1 2
   have l3:X.cell? ⟨wr.heap.size,3,none⟩=some (.bool x.v.2.1):=hB.2.1 3
   have l4:X.cell? ⟨wr.heap.size,4,none⟩=some (.bool x.v.2.2):=hB.2.1 4
   have HW:=Lib.hid (And.intro (HJ.out.grows.later hX) hX)
   have hz:w.heap.size≤X.heap.size:=HW.out.1.below.size
   have HO:=Lib.hid HW.out.1.own
   clear hX hB c0 c1 c2 c3 c4
   rcases Nat.eq_zero_or_pos no with h0|hpos
   ·have hD:D=[]:=List.eq_nil_of_length_eq_zero (by rw [HJ.out.len,h0])
    have HD:=Lib.hid (show jstep D x=D++[x]by rw [hD];rfl)
    clear hD
    have z0:=Lib.hid h0
    clear h0
    have g1:¬(1≤(no:Int)):=by have:=z0.out;omega
    have g2:decide ((0:Int)<(no:Int))=false:=decide_eq_false (by have:=z0.out;omega)
    have g3:decide (0<no)=false:=decide_eq_false (by have:=z0.out;omega)
    go_quiet (fail)
    go_wp2_with (at_builtin;refine wpList_push piece_elt (ownDrew HO.out _) (by simpa using hz) rfl rfl rfl rfl (by simp) rfl rfl (by unfold maxLen;omega) (by omega) ?_;intro A3 c3 w3 hp;have HP:=Lib.hid hp;clear hp)
    go_roundw
    case rel=>exact⟨k+1,_,_,_,by omega,by go_num,rfl,by omega,jstep D x,_,⟨HX.out.1,by rw [HD.out];have:=HJ.out.len;simp only [List.length_append,List.length_singleton]at this ⊢;omega,by rw [HD.out];exact HW.out.1.push (selfDrew _ _) HP.out⟩,HX.out.2⟩
    case measure=>simp [intOf];omega
   ·obtain⟨g',cs,rfl,hgb,hBk,_,_,_,hcs⟩:=own_blk HO.out hpos
    obtain⟨D',y,rfl⟩:∃D' y,D=D'++[y]:=by
     rcases List.eq_nil_or_concat D with h|⟨S,y,h⟩
     ·have:=HJ.out.len;rw [h]at this;simp at this;omega
     ·exact⟨S,y,by rw [h,List.concat_eq_append]⟩
    have hD':D'.length=no - 1:=by have:=HJ.out.len;simp at this;omega
    have ow (i:Nat) (u:Value) (hu:(encP y)[i]? =some u):X.cell? ⟨g',(no - 1)*5+i,none⟩=some u:=by
     rw [hBk.2.1]
     refine hcs _ _ ?_
     rw [←hD']
     exact flatP_get D' y i u hu
    have m1:=ow 1 _ rfl
    have m2:=ow 2 _ rfl
    have m3:=ow 3 _ rfl
    have m4:=ow 4 _ rfl
    have mf:=hBk.2.2 ((no - 1)*5+1)
    have ml:=hBk.1
    clear hcs ow hBk
    have g1:(1≤(no:Int)):=by omega
    have g2:decide ((0:Int)<(no:Int))=true:=decide_eq_true (by omega)
    have g3:decide (0<no)=true:=decide_eq_true (by omega)
    have g4:(no:Int) - 1<(no:Int):=by omega
    have g5:((no:Int) - 1).toNat=no - 1:=by omega
    have g6:decide ((0:Int)≤(no:Int) - 1)=true:=decide_eq_true (by omega)
    by_cases e1:y.v=x.v
    ·have d1:(y.v==x.v)=true:=by simpa using e1
     have hq:∀w,(Go.binOp .eql 141 (.agg #[.bool y.v.1,.bool y.v.2.1,.bool y.v.2.2]) (.agg #[.bool x.v.1,.bool x.v.2.1,.bool x.v.2.2])).run Tryz.prog w= .ok (.bool true) w:=fun w=>by rw [←d1];exact eql_v3 _ _ w
     clear d1
     have HD:=Lib.hid (jstep_yes (D:=D') e1)
     clear e1
     have HS:=Lib.hid (show ∀q,((X.drewN q).setCell ⟨g',(no - 1)*5+1,none⟩ (.int .i64 x.t)).ownsRow w.heap.size 145 5 (.slice (some ⟨g',0,none⟩) no co) no (flatL encP (D'++[⟨y.f,x.t,y.v⟩]))∧Below w.heap.size w ((X.drewN q).setCell ⟨g',(no - 1)*5+1,none⟩ (.int .i64 x.t))from by
      intro q
      have h:=((ownDrew HO.out q).stored ((no - 1)*5+1) (.int .i64 x.t)).1
      rw [←hD',flatP_set]at h
      rw [←hD']
      exact⟨h,(belDrew HW.out.1.below q).setCell hgb _⟩)
     go_quiet (fail)
     go_wp2
     go_roundw
     case rel=>exact⟨k+1,_,_,_,by omega,by go_num,rfl,by omega,jstep _ x,_,⟨HX.out.1,by rw [HD.out];have:=HJ.out.len;simp only [List.length_append,List.length_singleton]at this ⊢;omega,by rw [HD.out];exact⟨(HS.out _).1,(HS.out _).2⟩⟩,HX.out.2⟩
     case measure=>simp [intOf];omega
    ·have d1:(y.v==x.v)=false:=by simpa using e1
     have hq:∀w,(Go.binOp .eql 141 (.agg #[.bool y.v.1,.bool y.v.2.1,.bool y.v.2.2]) (.agg #[.bool x.v.1,.bool x.v.2.1,.bool x.v.2.2])).run Tryz.prog w= .ok (.bool false) w:=fun w=>by rw [←d1];exact eql_v3 _ _ w
     clear d1
     have HD:=Lib.hid (jstep_no (D:=D') (y:=y) (x:=x) e1)
     clear e1
     go_quiet (fail)
     go_wp2_with (at_builtin;refine wpList_push piece_elt (ownDrew HO.out _) (by simpa using hz) rfl rfl rfl rfl (by simp) rfl rfl (by unfold maxLen;omega) (by omega) ?_;intro A3 c3 w3 hp;have HP:=Lib.hid hp;clear hp)
     go_roundw
     case rel=>exact⟨k+1,_,_,_,by omega,by go_num,rfl,by omega,jstep _ x,_,⟨HX.out.1,by rw [HD.out];have:=HJ.out.len;simp only [List.length_append,List.length_singleton]at this ⊢;omega,by rw [HD.out];exact HW.out.1.push (selfDrew _ _) HP.out⟩,HX.out.2⟩
     case measure=>simp [intOf];omega
  ·obtain rfl:k=L.length:=by omega
   have hhi:hi=m:=tile_uniq hTk (by rw [List.take_length];exact HT.out)
   subst hhi
   have HR:=Lib.hid (show ∃P,JI g 0 hi P∧P.length≤L.length∧TellsO 145 5 encP P w (.returned (.slice Ao no co)) wr from⟨D,hG.ji,by rw [hG.len];exact hno,hG.grows.tells⟩)
   clear hG HG hTk hlt
   go_wp2
   go_ret
   exact HR.out
end Go.Proofs.YtlopleeopnnoeaaGreat.TK
namespace Go.Proofs.YtlopleeopnnoeaaGreat.TK
open Go.RowKit
structure Two (w:World)(Ac:Option Addr)(nc cc:Nat)(Cs:List Int)(Af:Option Addr)(nf cf:Nat)(F:List (Pc V3))(X:World):Prop where
 cu:X.ownsRow w.heap.size 3 1 (.slice Ac nc cc) nc (flatL encI Cs)
 fi:X.ownsRow w.heap.size 145 5 (.slice Af nf cf) nf (flatL encP F)
 ap:∀b,(Value.slice Ac nc cc).ownBlock=some b→(Value.slice Af nf cf).ownBlock≠some b
 be:Below w.heap.size w X
theorem keptRow {X Y:World}{base n size:Nat}{E:TypeId}{v:Value}{xs:List Value}{row:Option Nat}(h:X.ownsRow base E size v n xs)(hg:X.grownBy Y row)(hne:∀b,v.ownBlock=some b→row≠some b):Y.ownsRow base E size v n xs:=
 h.kept hg (by
  cases hv:v.ownBlock with
  |none=>exact .inl rfl
  |some k=>right;exact fun e=>hne k hv e.symm)
theorem Two.later {w X Y:World}{Ac Af:Option Addr}{nc cc nf cf:Nat}{Cs:List Int}{F:List (Pc V3)}(h:Two w Ac nc cc Cs Af nf cf F X)(hb:Below X.heap.size X Y):Two w Ac nc cc Cs Af nf cf F Y:=
 ⟨own_later h.cu hb,own_later h.fi hb,h.ap,h.be.trans (hb.mono h.be.size)⟩
theorem Two.pushF {w X Y:World}{Ac Af A':Option Addr}{nc cc nf cf c':Nat}{Cs:List Int}{F:List (Pc V3)}{p:Pc V3}{ys:List Value}(h:Two w Ac nc cc Cs Af nf cf F X)(hp:Pushed X Y w.heap.size 145 5 (.slice Af nf cf) (nf+1) (flatL encP F++ys) A' c')(hy:ys=encP p):
  Two w Ac nc cc Cs A' (nf+1) c' (F++[p]) Y:=by
 subst hy
 refine⟨keptRow h.cu hp.grown h.ap,by rw [flatL_snoc];exact hp.own,fun b hb e=> ?_,hp.below h.be h.fi (Nat.le_refl _)⟩
 rcases hp.at_ with e1|⟨q,e1,hq⟩
 ·exact h.ap b hb (e1.symm.trans e)
 ·rw [e1]at e
  injection e with e
  have:=(h.cu.lt b hb).2
  omega
theorem Two.pushC {w X Y:World}{Ac Af A':Option Addr}{nc cc nf cf c' m:Nat}{Cs M:List Int}{F:List (Pc V3)}{ys:List Value}(h:Two w Ac nc cc Cs Af nf cf F X)(hp:Pushed X Y w.heap.size 3 1 (.slice Ac nc cc) (nc+m) (flatL encI Cs++ys) A' c')(hy:ys=flatL encI M):
  Two w A' (nc+m) c' (Cs++M) Af nf cf F Y:=by
 subst hy
 refine⟨by rw [flatL_append];exact hp.own,keptRow h.fi hp.grown fun b hb e=>h.ap b e hb,fun b hb e=> ?_,hp.below h.be h.cu (Nat.le_refl _)⟩
 rcases hp.at_ with e1|⟨q,e1,hq⟩
 ·exact h.ap b (e1.symm.trans hb) e
 ·rw [e1]at hb
  injection hb with hb
  have:=(h.fi.lt b e).2
  omega
theorem Two.far {w X:World}{Ac Af:Option Addr}{nc cc nf cf:Nat}{Cs:List Int}{F:List (Pc V3)}(h:Two w Ac nc cc Cs Af nf cf F X):some X.heap.size≠(Value.slice Af nf cf).ownBlock∧some X.heap.size≠(Value.slice Ac nc cc).ownBlock:=
 ⟨fun e=>by have:=(h.fi.lt _ e.symm).2;omega,fun e=>by have:=(h.cu.lt _ e.symm).2;omega⟩
def endsP (F:List (Pc V3)):List Int:=F.flatMap fun p=>[p.f,p.t+1]
def cutsP (m:Int)(F:List (Pc V3)):List Int:=sortedOnce ([0,m]++endsP F)
theorem cutsP_ok (m:Int)(L:List (Pc V3))(z:V3):Cuts (fitz m L z) (cutsP m (fits m L)):=by
 refine⟨sortedOnce_lt _,fun c=> ?_⟩
 unfold cutsP
 rw [sortedOnce_mem]
 simp only [endsP,fitz,List.mem_append,List.mem_flatMap,List.mem_cons,List.mem_nil_iff,or_false]
 constructor
 ·rintro((h|h)|⟨p,hp,h⟩)
  ·exact⟨⟨0,m - 1,z⟩,.inr rfl,.inl h⟩
  ·exact⟨⟨0,m - 1,z⟩,.inr rfl,.inr (by dsimp only;omega)⟩
  ·exact⟨p,.inl hp,h⟩
 ·rintro⟨s,(hs|rfl),h⟩
  ·exact .inr ⟨s,hs,h⟩
  ·left
   dsimp only at h
   omega
theorem endsP_len (F:List (Pc V3)):(endsP F).length=2*F.length:=by
 induction F with
 |nil=>rfl
 |cons p F ih=>simp only [endsP,List.flatMap_cons,List.length_append,List.length_cons,List.length_nil]at ih ⊢;omega
theorem endsP_snoc (F:List (Pc V3))(p:Pc V3):endsP (F++[p])=endsP F++[p.f,p.t+1]:=by
 simp [endsP]
theorem cut_calls_out {w X:World}{no co n q g:Nat}{E:TypeId}{zs:List Int}{os:Array Obj}(h:X.ownsRow w.heap.size E 1 (.slice (some ⟨g,0,none⟩) no co) no (flatL encI zs))(hb:Below w.heap.size w X)
  (Y:World) (hY:Y=Go.Sort.grow (Go.Sort.putRow (Value.int .i64) (Go.Sort.ahead X n) g 0 (zs.mergeSort fun x y=>decide (x≤y)).toArray) os) (Z:World) (hZ:Z=Go.Sort.putRow (Value.int .i64) (Go.Sort.ahead Y q) g 0 (sortedOnce zs++List.replicate ((zs.mergeSort fun x y=>decide (x≤y)).length -(sortedOnce zs).length) 0).toArray):
  Z.ownsRow w.heap.size E 1 (.slice (some ⟨g,0,none⟩) (sortedOnce zs).length co) (sortedOnce zs).length (flatL encI (sortedOnce zs))∧Below w.heap.size w Z:=by
 have hl:=own_count encI_len (by decide) h
 have hm:(zs.mergeSort fun x y=>decide (x≤y)).length=no:=by rw [List.length_mergeSort];exact hl
 have hk:=sortedOnce_len zs
 obtain⟨h1,h2⟩:=own_sorted (os:=os) (q:=n) h hb hb.size hm
 rw [←hY]at h1 h2
 have hc:=own_cut (q:=q) (k:=(sortedOnce zs).length) h1 h2 (ys:=sortedOnce zs++List.replicate ((zs.mergeSort fun x y=>decide (x≤y)).length -(sortedOnce zs).length) 0) (by simp;omega) (by omega)
 rw [←hZ]at hc
 rwa [List.take_left']at hc
 rfl
theorem Two.sorted {w X:World}{g nc cc nf cf n q:Nat}{Af:Option Addr}{Cs:List Int}{F:List (Pc V3)}{os:Array Obj}(h:Two w (some ⟨g,0,none⟩) nc cc Cs Af nf cf F X)(hnc:0<nc)(Y:World)(hY:Y=Go.Sort.grow (Go.Sort.putRow (Value.int .i64) (Go.Sort.ahead X n) g 0 (Cs.mergeSort fun x y=>decide (x≤y)).toArray) os)(Z:World)(hZ:Z=Go.Sort.putRow (Value.int .i64) (Go.Sort.ahead Y q) g 0 (sortedOnce Cs++List.replicate ((Cs.mergeSort fun x y=>decide (x≤y)).length -(sortedOnce Cs).length) 0).toArray):
  Two w (some ⟨g,0,none⟩) (sortedOnce Cs).length cc (sortedOnce Cs) Af nf cf F Z:=by
 obtain⟨c1,c2⟩:=cut_calls_out h.cu h.be Y hY Z hZ
 have hg1:X.grownBy Y (some g):=by rw [hY];exact Go.grownBy_sortedI _
 have hg2:Y.grownBy Z (some g):=by
  have:=Go.grownBy_sortedI (w:=Y) (g:=g) (n:=q) (os:=#[]) (sortedOnce Cs++List.replicate ((Cs.mergeSort fun x y=>decide (x≤y)).length -(sortedOnce Cs).length) 0).toArray
  rwa [Go.Sort.grow_empty,←hZ]at this
 have hob:∀k,(Value.slice (some ⟨g,0,none⟩) k cc).ownBlock=some g:=fun _=>rfl
 have hne:∀b,(Value.slice Af nf cf).ownBlock=some b→some g≠some b:=fun b hb e=>h.ap g (hob _) (by rw [hb,e])
 exact⟨c1,keptRow (keptRow h.fi hg1 hne) hg2 hne,fun b hb e=>h.ap b hb e,c2⟩
end Go.Proofs.YtlopleeopnnoeaaGreat.TK
namespace Go.Proofs.YtlopleeopnnoeaaGreat.TK
open Go.RowKit
theorem NextInv.congr {N:List Nat}{T T':Nat→Prop}{m:Nat}(h:NextInv N T m)(e:∀q,T q↔T' q):NextInv N T' m:=
 ⟨h.1,fun j hj=>by
  obtain⟨h1,h2,h3,h4⟩:=h.2 j hj
  exact⟨h1,h2,by rw [h3,e],fun q a b=>(e q).1 (h4 q a b)⟩⟩
def NxP (w:World)(g m k:Nat):Prop:=∃cs,Blk w g cs∧cs.size=m+1∧∀j,j<k→cs[j]? =some (.int .i64 ((j:Nat):Int))
theorem NxP.cellAny {w:World}{g m k:Nat}(h:NxP w g m k){j:Nat}(hj:j<m+1):∃u,w.cell? ⟨g,j,none⟩=some u:=by
 obtain⟨cs,hB,hs,_⟩:=h
 exact⟨cs[j],by rw [hB.2.1];simp [hs,hj]⟩
theorem NxP.set {w:World}{g m k:Nat}(h:NxP w g m k)(hk:k<m+1):NxP (w.setCell ⟨g,k,none⟩ (.int .i64 ((k:Nat):Int))) g m (k+1):=by
 obtain⟨cs,hB,hs,hc⟩:=h
 refine⟨_,hB.set_ k (by omega) _,by simp [hs],fun j hj=> ?_⟩
 by_cases e:k=j
 ·subst e
  simp [hs,hk]
 ·rw [Array.getElem?_setIfInBounds_ne e]
  exact hc j (by omega)
theorem NxP.done {w:World}{g m:Nat}(h:NxP w g m (m+1)):Nx w g (List.range (m+1)):=by
 obtain⟨cs,hB,hs,hc⟩:=h
 refine⟨cs,hB,fun j hj=> ?_⟩
 simp at hj
 rw [hc j (by omega)]
 simp [List.getD,show j<m+1 by omega]
theorem nextInv_start (m:Nat):NextInv (List.range (m+1)) (fun _=>False) m:=by
 refine⟨by simp,fun j hj=> ?_⟩
 have e:(List.range (m+1)).getD j 0=j:=by simp [List.getD,show j<m+1 by omega]
 rw [e]
 exact⟨Nat.le_refl _,hj,by simp,fun q a b=>by omega⟩
def Outs (w:World)(g mm:Nat)(s:Nat→Pc V3)(T:Nat→Prop):Prop:=∃cs,Blk w g cs∧cs.size=mm*5∧∀i,T i→i<mm→∀ (j:Nat) (u:Value),(encP (s i))[j]? =some u→cs[i*5+j]? =some u
theorem Outs.congr {w:World}{g mm:Nat}{s:Nat→Pc V3}{T T':Nat→Prop}(h:Outs w g mm s T)(e:∀q,T' q→T q):Outs w g mm s T':=by
 obtain⟨cs,hB,hs,hc⟩:=h
 exact⟨cs,hB,hs,fun i hi=>hc i (e i hi)⟩
theorem Outs.later {w w':World}{g B mm:Nat}{s:Nat→Pc V3}{T:Nat→Prop}(h:Outs w g mm s T)(hb:Below B w w')(hg:g<B):Outs w' g mm s T:=by
 obtain⟨cs,hB,hx⟩:=h
 exact⟨cs,hB.later hb hg,hx⟩
theorem Outs.grown {w w':World}{g mm:Nat}{row:Option Nat}{s:Nat→Pc V3}{T:Nat→Prop}(h:Outs w g mm s T)(hg:w.grownBy w' row)(hne:some g≠row):Outs w' g mm s T:=by
 obtain⟨cs,hB,hx⟩:=h
 exact⟨cs,hB.grown hg hne,hx⟩
theorem Outs.lt {w:World}{g mm:Nat}{s:Nat→Pc V3}{T:Nat→Prop}(h:Outs w g mm s T):g<w.heap.size:=by
 obtain⟨cs,hB,_⟩:=h
 exact hB.1
theorem Outs.cells {w:World}{g mm:Nat}{s:Nat→Pc V3}{T:Nat→Prop}(h:Outs w g mm s T){i:Nat}(hi:i<mm):∃a b c d e,w.cell? ⟨g,i*5,none⟩=some a∧w.cell? ⟨g,i*5+1,none⟩=some b∧w.cell? ⟨g,i*5+2,none⟩=some c∧w.cell? ⟨g,i*5+3,none⟩=some d∧w.cell? ⟨g,i*5+4,none⟩=some e∧w.frozen? ⟨g,i*5,none⟩=false∧w.frozen? ⟨g,i*5+1,none⟩=false∧w.frozen? ⟨g,i*5+2,none⟩=false∧w.frozen? ⟨g,i*5+3,none⟩=false∧w.frozen? ⟨g,i*5+4,none⟩=false:=by
 obtain⟨cs,hB,hs,_⟩:=h
 have k (j:Nat) (hj:j<5):w.cell? ⟨g,i*5+j,none⟩=some (cs[i*5+j]'(by omega)):=by rw [hB.2.1];exact Array.getElem?_eq_getElem _
 exact⟨_,_,_,_,_,k 0 (by omega),k 1 (by omega),k 2 (by omega),k 3 (by omega),k 4 (by omega),hB.2.2 _,hB.2.2 _,hB.2.2 _,hB.2.2 _,hB.2.2 _⟩
theorem Outs.put {w:World}{g mm:Nat}{s:Nat→Pc V3}{T:Nat→Prop}(h:Outs w g mm s T){i:Nat}(hi:i<mm)(T':Nat→Prop)(hT:∀q,T' q→T q∨q=i):
  Outs (((((w.setCell ⟨g,i*5,none⟩ (.int .i64 (s i).f)).setCell ⟨g,i*5+1,none⟩ (.int .i64 (s i).t)).setCell ⟨g,i*5+2,none⟩ (.bool (s i).v.1)).setCell ⟨g,i*5+3,none⟩ (.bool (s i).v.2.1)).setCell ⟨g,i*5+4,none⟩ (.bool (s i).v.2.2)) g mm s T':=by
 obtain⟨cs,hB,hs,hc⟩:=h
 refine⟨_,((((hB.set_ (i*5) (by omega) _).set_ (i*5+1) (by simp;omega) _).set_ (i*5+2) (by simp;omega) _).set_ (i*5+3) (by simp;omega) _).set_ (i*5+4) (by simp;omega) _,by simp [hs],fun q hq hqm j u hu=> ?_⟩
 have hj:j<5:=by
  obtain⟨h,_⟩:=List.getElem?_eq_some_iff.1 hu
  rw [encP_len]at h
  exact h
 by_cases e:q=i
 ·subst e
  match j,hj with
  |0,_=>
   simp only [encP,List.getElem?_cons_zero,Option.some.injEq]at hu
   subst hu
   show (_:Array Value)[q*5]? =_
   rw [Array.getElem?_setIfInBounds_ne (by omega),Array.getElem?_setIfInBounds_ne (by omega),Array.getElem?_setIfInBounds_ne (by omega),Array.getElem?_setIfInBounds_ne (by omega),Array.getElem?_setIfInBounds_self_of_lt (by omega)]
  |1,_=>
   simp only [encP,List.getElem?_cons_succ,List.getElem?_cons_zero,Option.some.injEq]at hu
   subst hu
   rw [Array.getElem?_setIfInBounds_ne (by omega),Array.getElem?_setIfInBounds_ne (by omega),Array.getElem?_setIfInBounds_ne (by omega),Array.getElem?_setIfInBounds_self_of_lt (by simp;omega)]
  |2,_=>
   simp only [encP,List.getElem?_cons_succ,List.getElem?_cons_zero,Option.some.injEq]at hu
   subst hu
   rw [Array.getElem?_setIfInBounds_ne (by omega),Array.getElem?_setIfInBounds_ne (by omega),Array.getElem?_setIfInBounds_self_of_lt (by simp;omega)]
  |3,_=>
   simp only [encP,List.getElem?_cons_succ,List.getElem?_cons_zero,Option.some.injEq]at hu
   subst hu
   rw [Array.getElem?_setIfInBounds_ne (by omega),Array.getElem?_setIfInBounds_self_of_lt (by simp;omega)]
  |4,_=>
   simp only [encP,List.getElem?_cons_succ,List.getElem?_cons_zero,Option.some.injEq]at hu
   subst hu
   rw [Array.getElem?_setIfInBounds_self_of_lt (by simp;omega)]
 ·rcases hT q hq with h|h
  ·rw [Array.getElem?_setIfInBounds_ne (by omega),Array.getElem?_setIfInBounds_ne (by omega),Array.getElem?_setIfInBounds_ne (by omega),Array.getElem?_setIfInBounds_ne (by omega),Array.getElem?_setIfInBounds_ne (by omega)]
   exact hc q h hqm j u hu
  ·exact absurd h e
theorem Outs.all {w:World}{g mm:Nat}{s:Nat→Pc V3}{T:Nat→Prop}(h:Outs w g mm s T)(hT:∀i,i<mm→T i):Li 5 encP w (fun _=>True) (some ⟨g,0,none⟩) ((List.range mm).map s):=by
 obtain⟨cs,hB,hs,hc⟩:=h
 intro j x hj
 rw [List.getElem?_map]at hj
 have hjm:j<mm:=by
  rcases Nat.lt_or_ge j mm with h|h
  ·exact h
  ·rw [List.getElem?_eq_none (by simpa using h)]at hj;cases hj
 rw [List.getElem?_range hjm]at hj
 simp only [Option.map_some,Option.some.injEq]at hj
 subst hj
 exact⟨g,0,rfl,hB.1,trivial,fun i u hu=>by rw [hB.2.1,Nat.zero_add];exact hc j (hT j hjm) hjm i u hu⟩
structure FM (w:World)(S:List (Pc V3))(z:V3)(C:List Int)(As Ac:Option Addr)(gO gN mm:Nat)(N:List Nat)(T:Nat→Prop)(X:World):Prop where
 sp:Li 5 encP X (fun b=>b<gO) As S
 cu:Li 1 encI X (fun b=>b<gO) Ac C
 out:Outs X gO mm (seg S z C) T
 nx:Nx X gN N
 ni:NextInv N T mm
 be:Below w.heap.size w X
 lo:w.heap.size≤gO
 lt:gO<gN
 hi:gN<X.heap.size
section
variable {w:World}{S:List (Pc V3)}{z:V3}{C:List Int}{As Ac:Option Addr}{gO gN mm:Nat}{N N':List Nat}{T T':Nat→Prop}{X Y:World}
theorem FM.later (h:FM w S z C As Ac gO gN mm N T X)(hb:Below X.heap.size X Y):FM w S z C As Ac gO gN mm N T Y:=
 ⟨h.sp.later hb,h.cu.later hb,h.out.later hb h.out.lt,h.nx.later hb h.nx.lt,h.ni,h.be.trans (hb.mono h.be.size),h.lo,h.lt,Nat.lt_of_lt_of_le h.hi hb.size⟩
theorem FM.congr (h:FM w S z C As Ac gO gN mm N T X)(e:∀q,T q↔T' q):FM w S z C As Ac gO gN mm N T' X:=
 ⟨h.sp,h.cu,h.out.congr fun q hq=>(e q).2 hq,h.nx,h.ni.congr e,h.be,h.lo,h.lt,h.hi⟩
theorem FM.freed (h:FM w S z C As Ac gO gN mm N T X)(hn:Nx Y gN N')(hi:NextInv N' T mm)(hg:X.grownBy Y (some gN)):FM w S z C As Ac gO gN mm N' T Y:=
 ⟨h.sp.grown hg fun b hb e=>by injection e with e;have:=h.lt;omega,h.cu.grown hg fun b hb e=>by injection e with e;have:=h.lt;omega,h.out.grown hg (fun e=>by injection e with e;have:=h.lt;omega),hn,hi,h.be.grown hg h.be.size fun k hk=>by injection hk with hk;have:=h.lo;have:=h.lt;omega,h.lo,h.lt,Nat.lt_of_lt_of_le h.hi hg.size⟩
theorem FM.put (h:FM w S z C As Ac gO gN mm N T X){i:Nat}(hi:i<mm)(hT:∀q,T' q↔T q∨q=i)(q:Nat):
  FM w S z C As Ac gO gN mm (N.set i (i+1)) T' ((((((((X.drewN q).setCell ⟨gO,i*5,none⟩ (.int .i64 (seg S z C i).f)).setCell ⟨gO,i*5+1,none⟩ (.int .i64 (seg S z C i).t)).setCell ⟨gO,i*5+2,none⟩ (.bool (seg S z C i).v.1)).setCell ⟨gO,i*5+3,none⟩ (.bool (seg S z C i).v.2.1)).setCell ⟨gO,i*5+4,none⟩ (.bool (seg S z C i).v.2.2))).setCell ⟨gN,i,none⟩ (.int .i64 ((i+1:Nat):Int))):=by
 have h1:=h.later (selfDrew X q)
 have lt:=h.lt
 have lo:=h.lo
 have n0:∀j:Nat,(⟨gO,j,none⟩:Addr).block=gO:=fun _=>rfl
 refine⟨(((((h1.sp.far (by simp) _).far (by simp) _).far (by simp) _).far (by simp) _).far (by simp) _).far (by simp;omega) _,(((((h1.cu.far (by simp) _).far (by simp) _).far (by simp) _).far (by simp) _).far (by simp) _).far (by simp;omega) _,?_,?_,h.ni.take (by omega) hT,?_,lo,lt,by simp only [World.size_setCell];exact h1.hi⟩
 ·obtain⟨cs,hB,hx⟩:=h1.out.put hi T' (fun q hq=>(hT q).1 hq)
  exact⟨cs,hB.far (by simp;omega) _,hx⟩
 ·have hn:Nx ((((((X.drewN q).setCell ⟨gO,i*5,none⟩ (.int .i64 (seg S z C i).f)).setCell ⟨gO,i*5+1,none⟩ (.int .i64 (seg S z C i).t)).setCell ⟨gO,i*5+2,none⟩ (.bool (seg S z C i).v.1)).setCell ⟨gO,i*5+3,none⟩ (.bool (seg S z C i).v.2.1)).setCell ⟨gO,i*5+4,none⟩ (.bool (seg S z C i).v.2.2)) gN N:=by
   obtain⟨cs,hB,hc⟩:=h1.nx
   exact⟨cs,((((hB.far (by simp;omega) _).far (by simp;omega) _).far (by simp;omega) _).far (by simp;omega) _).far (by simp;omega) _,hc⟩
  exact hn.set i (by rw [h.ni.1];omega) (i+1)
 ·exact(((((h1.be.setCell (by simpa using lo) _).setCell (by simpa using lo) _).setCell (by simpa using lo) _).setCell (by simpa using lo) _).setCell (by simpa using lo) _).setCell (by simp;omega) _
end
def Tk (S:List (Pc V3))(C:List Int)(mm j:Nat)(i:Nat):Prop:=i<mm∧(pget (S.take j) (cAt C i)).isSome
theorem tk_zero (S:List (Pc V3))(C:List Int)(mm i:Nat):Tk S C mm 0 i↔False:=by simp [Tk,pget]
theorem tk_succ {S:List (Pc V3)}{C:List Int}{mm j fr tt:Nat}{x:Pc V3}(hx:S[j]? =some x)(hC:C.Pairwise (· < ·))(hl:C.length=mm+1)(hf:fr<C.length∧cAt C fr=x.f)(ht:tt<C.length∧cAt C tt=x.t+1)(i:Nat):
  Tk S C mm (j+1) i↔Tk S C mm j i∨(fr≤i∧i<tt):=by
 unfold Tk
 rw [take_snoc' hx,pget_append,pget_cons]
 have key:i<mm→((x.f≤cAt C i∧cAt C i≤x.t)↔(fr≤i∧i<tt)):=fun hi=>by
  constructor
  ·rintro⟨h1,h2⟩
   refine⟨?_,?_⟩
   ·rcases Nat.lt_or_ge i fr with h|h
    ·have:=cAt_lt hC h hf.1;omega
    ·exact h
   ·rcases Nat.lt_or_ge i tt with h|h
    ·exact h
    ·have:=cAt_le hC h (by omega);omega
  ·rintro⟨h1,h2⟩
   have a:=cAt_le hC h1 (show i<C.length by omega)
   have b:=cAt_lt hC h2 ht.1
   omega
 constructor
 ·rintro⟨hi,h⟩
  cases hp:pget (S.take j) (cAt C i)with
  |some v=>left;exact⟨hi,rfl⟩
  |none=>
   right
   rw [hp]at h
   by_cases hc:x.f≤cAt C i∧cAt C i≤x.t
   ·exact(key hi).1 hc
   ·rw [if_neg hc]at h
    simp [pget]at h
 ·rintro(⟨hi,h⟩|h)
  ·refine⟨hi,?_⟩
   cases hp:pget (S.take j) (cAt C i)with
   |some v=>rfl
   |none=>rw [hp]at h;cases h
  ·have hi:i<mm:=by omega
   refine⟨hi,?_⟩
   rw [if_pos ((key hi).2 h)]
   cases pget (S.take j) (cAt C i)<;>rfl
theorem seg_now {S:List (Pc V3)}{z:V3}{C:List Int}{mm j fr tt i:Nat}{x:Pc V3}(hx:S[j]? =some x)(hC:C.Pairwise (· < ·))(hl:C.length=mm+1)(hf:fr<C.length∧cAt C fr=x.f)(ht:tt<C.length∧cAt C tt=x.t+1)(h1:fr≤i)(h2:i<tt)(hn:¬Tk S C mm j i):(seg S z C i).v=x.v:=by
 have hi:i<mm:=by omega
 have a:=cAt_le hC h1 (show i<C.length by omega)
 have b:=cAt_lt hC h2 ht.1
 have e:S=S.take j++x::S.drop (j+1):=by
  have h:=List.take_append_drop j S
  obtain⟨hj,e⟩:=List.getElem?_eq_some_iff.1 hx
  rw [List.drop_eq_getElem_cons hj,e]at h
  exact h.symm
 have hp:pget (S.take j) (cAt C i)=none:=by
  cases hp:pget (S.take j) (cAt C i)with
  |none=>rfl
  |some v=>exact absurd ⟨hi,by rw [hp];rfl⟩ hn
 simp only [seg]
 rw [e,pget_append,hp,pget_cons,if_pos ⟨by omega,by omega⟩]
 rfl
end Go.Proofs.YtlopleeopnnoeaaGreat.TK
namespace Go.Proofs.YtlopleeopnnoeaaGreat.TK
open Go.RowKit
theorem sc_drew (w:World)(a:Addr)(u:Value):(w.setCell a u).drew=w.drew.setCell a u:=rfl
theorem drew_one (w:World):w.drew=w.drewN 1:=rfl
set_option maxHeartbeats 8000000 in
set_option maxRecDepth 100000 in
theorem flat_any (m:Nat)(z:V3)(A:Option Addr)(n c:Nat)(L:List (Pc V3))(w0:World)(hL:LiV 5 encP w0 (fun _=>True) (.slice A n c) L)(hn:L.length≤10000)(hm1:1≤m)(hm:m≤10000000):
  Calls Tryz.prog 149 #[.int .i64 m,vV z,.slice A n c] w0 (fun e w'=>∃P,Flat m L z P∧P.length≤100000∧TellsO 145 5 encP P w0 e w'):=by
 obtain⟨rfl,hLi,_⟩:=hL.parts
 have HL0:=Lib.hid hLi
 clear hL hLi
 go_enter Tryz.func149,Tryz.ntmps149
 go_upto_region 1 with fail
 refine at_world (fun X=>Below w0.heap.size w0 X∧Blk X w0.heap.size (encV z).toArray) ⟨belAlloc _ _,blk_new _ _ _⟩ ?_
 intro w hw
 have HL:=Lib.hid (HL0.out.later hw.1)
 have HZ:=Lib.hid hw
 have T0:=Lib.hid (show Two w (some ⟨w.heap.size,0,none⟩) 2 2 [0,(m:Int)] none 0 0 [] (w.alloc (.cells #[.int .i64 0,.int .i64 m] 3))from
  ⟨by have:=own_newN w #[.int .i64 0,.int .i64 m] 3 1 2 rfl (by unfold maxLen;omega);exact this,World.ownsRow_nil _ _ _ _,fun b _ e=>(by cases e),(Below.refl _ _).alloc (Nat.le_refl _) _⟩)
 clear hw HL0
 go_wp2
 go_loopw [7,8,10,25] (fun cv fv _ i wr=>∃k:Nat,∃Ac nc cc Af nf cf,k≤L.length∧i= .int .i64 k∧cv= .slice Ac nc cc∧fv= .slice Af nf cf∧nf≤k∧nc≤2*k+2∧Hid (Two w Ac nc cc ([0,(m:Int)]++endsP (fits m (L.take k))) Af nf cf (fits m (L.take k)) wr)) (fun _ _ _ i _=>L.length -(intOf i).toNat)
 case atStart=>exact⟨0,_,2,2,none,0,0,Nat.zero_le _,rfl,rfl,rfl,Nat.le_refl _,Nat.le_refl _,T0.out⟩
 case round=>
  obtain⟨k,Ac,nc,cc,Af,nf,cf,hk,rfl,rfl,rfl,hnf,hnc,HT⟩:=hrel
  by_cases hlt:k<L.length
  ·obtain⟨x,b,o,hx,rfl,hbl,_,c0,c1,c2,c3,c4⟩:=(HL.out.later HT.out.be).pieceK hlt
   have HX:=Lib.hid (fits_snoc (m:=(m:Int)) hx)
   clear hx
   have TB:=Lib.hid (HT.out.later (X:=wr) (Y:=wr.alloc (.cells #[.int .i64 (max x.f 0),.int .i64 (min x.t ((m:Int) - 1)),.bool x.v.1,.bool x.v.2.1,.bool x.v.2.2] 145)) (belAlloc _ _))
   have hz:=HT.out.be.size
   by_cases hft:max x.f 0≤min x.t ((m:Int) - 1)
   ·have HC:=Lib.hid (show fits (m:Int) (L.take (k+1))=fits (m:Int) (L.take k)++[⟨max x.f 0,min x.t ((m:Int) - 1),x.v⟩]by rw [HX.out,show clip (m:Int) x=some ⟨max x.f 0,min x.t ((m:Int) - 1),x.v⟩from if_pos hft];rfl)
    have hb1:0≤min x.t ((m:Int) - 1):=by omega
    have hb2:min x.t ((m:Int) - 1)≤10000000:=by omega
    have HB:=Lib.hid (And.intro (blk_new wr #[.int .i64 (max x.f 0),.int .i64 (min x.t ((m:Int) - 1)),.bool x.v.1,.bool x.v.2.1,.bool x.v.2.2] 145) HT.out.far.1)
    go_wp2_with (at_builtin;first
     |(refine wpList_push piece_elt TB.out.fi (by simp;omega) rfl rfl rfl rfl (by simp) rfl rfl (by unfold maxLen;omega) (by omega) ?_;intro A3 c3 w3 hp;have H3:=Lib.hid (TB.out.pushF (p:=⟨max x.f 0,min x.t ((m:Int) - 1),x.v⟩) hp rfl);obtain⟨y3,k3,j3⟩:=(show _ from HB.out.1.grown hp.grown HB.out.2);have hz3:=hp.grown.size;simp only [World.size_alloc]at hz3;clear hp)
     |(refine wpList_pushM int_elt H3.out.cu (by omega) rfl rfl rfl rfl (by simp) rfl rfl (by unfold maxLen;omega) (by omega) ?_;intro A4 c4 w4 hp;have H4:=Lib.hid (H3.out.pushC (M:=[max x.f 0,min x.t ((m:Int) - 1)+1]) hp rfl);clear hp))
    go_roundw
    case rel=>exact⟨k+1,_,_,_,_,_,_,by omega,by go_num,rfl,rfl,by omega,by omega,by rw [HC.out,endsP_snoc,←List.append_assoc];exact H4.out⟩
    case measure=>simp [intOf];omega
   ·have HC:=Lib.hid (show fits (m:Int) (L.take (k+1))=fits (m:Int) (L.take k)by rw [HX.out,show clip (m:Int) x=none from if_neg hft];simp)
    go_wp2_with fail
    go_roundw
    case rel=>exact⟨k+1,_,_,_,_,_,_,by omega,by go_num,rfl,rfl,by omega,by omega,by rw [HC.out];exact TB.out⟩
    case measure=>simp [intOf];omega
  ·obtain rfl:k=L.length:=by omega
   rw [List.take_length]at HT
   have hlF:=own_count encP_len (by decide) HT.out.fi
   have hlC:=own_count encI_len (by decide) HT.out.cu
   rw [List.length_append,endsP_len,hlF]at hlC
   have hlC2:2+2*nf=nc:=hlC
   have hz:=HT.out.be.size
   have z0:wr.cell? ⟨w0.heap.size,0,none⟩=some (.bool z.1):=(HT.out.be.cell (p:=⟨w0.heap.size,0,none⟩) HZ.out.2.1).trans (HZ.out.2.2.1 0)
   have z1:wr.cell? ⟨w0.heap.size,1,none⟩=some (.bool z.2.1):=(HT.out.be.cell (p:=⟨w0.heap.size,1,none⟩) HZ.out.2.1).trans (HZ.out.2.2.1 1)
   have z2:wr.cell? ⟨w0.heap.size,2,none⟩=some (.bool z.2.2):=(HT.out.be.cell (p:=⟨w0.heap.size,2,none⟩) HZ.out.2.1).trans (HZ.out.2.2.1 2)
   go_wp2_with (at_builtin;(refine wpList_push piece_elt HT.out.fi hz rfl rfl rfl rfl (by simp) rfl rfl (by unfold maxLen;omega) (by omega) ?_;intro A3 c3 w3 hp;have H3:=Lib.hid (HT.out.pushF (p:=⟨0,(m:Int) - 1,z⟩) hp rfl);clear hp))
   clear z0 z1 z2
   obtain⟨g,rfl,hgb,hgs,hnc',hcm,hH⟩:=holds_own H3.out.cu (by omega)
   obtain⟨Cs,hCs⟩:∃Cs,[0,(m:Int)]++endsP (fits (m:Int) L)=Cs:=⟨_,rfl⟩
   have hcl:Cs.length=nc:=by rw [←hCs,List.length_append,endsP_len,hlF];exact hlC2
   have hcut:sortedOnce Cs=cutsP m (fits (m:Int) L):=by rw [←hCs];rfl
   rw [hCs]at hH H3
   have c1:=sort_ints g 0 cc Cs w3 hH hgs (by omega)
   rw [hcl]at c1
   have C1:=Lib.hid c1
   clear c1
   have C2:=Lib.hid (show ∀Y n os,Y=Go.Sort.grow (Go.Sort.putRow (Value.int .i64) (Go.Sort.ahead w3 n) g 0 (Cs.mergeSort fun x y=>decide (x≤y)).toArray) os→Calls Tryz.prog 99 #[.slice (some ⟨g,0,none⟩) nc cc] Y fun e w'=>e= .returned (.slice (some ⟨g,0,none⟩) (sortedOnce Cs).length cc)∧Two w (some ⟨g,0,none⟩) (sortedOnce Cs).length cc (sortedOnce Cs) A3 (nf+1) c3 (fits (m:Int) L++[⟨0,(m:Int) - 1,z⟩]) w' from by
    intro Y n os hY
    have hml:(Cs.mergeSort fun x y=>decide (x≤y)).length=nc:=by rw [List.length_mergeSort,hcl]
    have hs:=own_sorted (os:=os) (q:=n) H3.out.cu H3.out.be H3.out.be.size hml
    rw [←hY]at hs
    obtain⟨g',e,_,h2,h3,h4,h5⟩:=holds_own hs.1 (by omega)
    injection e with e
    injection e with e
    subst e
    have:=compact_ints g 0 cc _ Y h5 (by omega) (by omega)
    rw [hml]at this
    refine this.mono ?_
    rintro e w' ⟨rfl,q,rfl⟩
    exact⟨rfl,H3.out.sorted (q:=q) (by omega) Y hY _ (by rw [hml];rfl)⟩)
   have HC:=Lib.hid (And.intro (cutsP_ok m L z) hcut)
   have hcb:(sortedOnce Cs).length≤30000:=by have:=sortedOnce_len Cs;have:=fits_len (m:Int) L;omega
   clear H3 hH hlC hlC2 hlF hcut hCs hgs hcl
   obtain⟨C,hCe⟩:∃C,sortedOnce Cs=C:=⟨_,rfl⟩
   rw [hCe]at C2 HC hcb
   clear hCe
   go_wp2_with fail
   refine C1.out.mono ?_
   rintro e w4 ⟨rfl,n,os,hY⟩
   have C3:=Lib.hid (C2.out w4 n os hY)
   clear hY C2 C1
   go_wp2_with fail
   refine C3.out.mono ?_
   rintro e w5 ⟨rfl,hT⟩
   have H5:=Lib.hid hT
   clear hT C3
   obtain⟨S,hS⟩:∃S,fitz (m:Int) L z=S:=⟨_,rfl⟩
   have hCC:Cuts S C:=by rw [←hS,HC.out.2];exact HC.out.1
   have hE:=cuts_ends (m:=(m:Int)) (L:=L) (z:=z) (C:=C) (by rw [hS];exact hCC) (by omega)
   obtain⟨mm,hmm⟩:∃mm,C.length=mm+1:=⟨C.length - 1,by omega⟩
   have hmm1:1≤mm:=by omega
   have hSl:S.length=nf+1:=by have:=own_count encP_len (by decide) H5.out.fi;rw [←hS];exact this
   have h5:=H5.out.fi
   rw [show fits (m:Int) L++[(⟨0,(m:Int) - 1,z⟩:Pc V3)]=S from hS]at h5
   have H5a:=Lib.hid (And.intro H5.out.cu (And.intro h5 H5.out.be))
   rw [hmm]at hcb H5a hE
   have HQ:=Lib.hid (And.intro hCC (And.intro hE (And.intro hS (And.intro hSl hmm))))
   clear h5 H5 hCC hE hSl HC HT
   rw [hmm]
   clear hmm hS
   obtain⟨i0,hi0,hz0,hs0,hb0⟩:=info_parts (P:= Tryz.prog) (e:= 145) (z:= .agg #[.int .i64 0,.int .i64 0,.bool false,.bool false,.bool false]) (size:=5) (bytes:=24) (by kernel_rfl)
   obtain⟨i1,hi1,hz1,hs1,hb1⟩:=info_parts (P:= Tryz.prog) (e:= 3) (z:= .int .i64 0) (size:=1) (bytes:=8) (by kernel_rfl)
   go_wp2_with (at_make;first
    |(refine wpList_make_full w5 rfl _ _ _ rfl w5.heap.size 145 i0 _ 5 Tryz.underlying139 hi0 hz0 hs0 .i64 .i64 _ _ mm rfl rfl rfl rfl (by rw [hb0];omega) (by unfold maxLen;omega) (Nat.le_refl _) ?_;intro w6 hown hg;have H6:=Lib.hid (And.intro hown hg);clear hown hg)
    |(refine wpList_make_full w6 rfl _ _ _ rfl w6.heap.size 3 i1 _ 1 Tryz.underlying37 hi1 hz1 hs1 .i64 .i64 _ _ (mm+1) rfl rfl rfl rfl (by rw [hb1];omega) (by unfold maxLen;omega) (Nat.le_refl _) ?_;intro w7 hown hg;have H7:=Lib.hid (And.intro hown hg);clear hown hg))
   obtain⟨g6,cs6,e1,_,hB6,_,_,hsz6,_⟩:=own_blk H6.out.1 (by omega)
   injection e1 with e1
   injection e1 with e1
   subst e1
   obtain⟨g7,cs7,e1,_,hB7,_,_,hsz7,_⟩:=own_blk H7.out.1 (by omega)
   injection e1 with e1
   injection e1 with e1
   subst e1
   have b56:Below w5.heap.size w5 w6:=(Below.refl _ _).grown H6.out.2 (Nat.le_refl _) (fun k hk=>by cases hk)
   have b67:Below w6.heap.size w6 w7:=(Below.refl _ _).grown H7.out.2 (Nat.le_refl _) (fun k hk=>by cases hk)
   have b57:Below w5.heap.size w5 w7:=b56.trans (b67.mono b56.size)
   have H8:=Lib.hid (show NxP w7 w6.heap.size mm 0∧Li 5 encP w7 (fun b=>b<w5.heap.size) A3 S∧Li 1 encI w7 (fun b=>b<w5.heap.size) (some ⟨g,0,none⟩) C∧Outs w7 w5.heap.size mm (seg S z C) (fun _=>False)∧Below w.heap.size w w7∧w6.heap.size<w7.heap.size from
    ⟨⟨cs7,hB7,by omega,fun j hj=>absurd hj (by omega)⟩,((LiV.own encP_len (by decide) H5a.out.2.1).parts.2.1.old.mono fun b hb=>hb.1).later b57,((LiV.own encI_len (by decide) H5a.out.1).parts.2.1.old.mono fun b hb=>hb.1).later b57,⟨cs6,hB6.later b67 hB6.1,hsz6,fun i h=>h.elim⟩,H5a.out.2.2.trans (b57.mono H5a.out.2.2.size),hB7.1⟩)
   have hlo:=H5a.out.2.2.size
   have hOw:=hB6.1
   have hgcap:=(LiV.own encI_len (by decide) H5a.out.1).parts.2.2.2
   have hscap:=(LiV.own encP_len (by decide) H5a.out.2.1).parts.2.2.2
   have hccap1:=hgcap.1
   have hccap2:=hgcap.2
   have hscap1:=hscap.1
   have hscap2:=hscap.2
   clear hgcap hscap
   rw [HQ.out.2.2.2.2]at hccap1
   rw [HQ.out.2.2.2.1]at hscap1
   clear hB6 hB7 hsz6 hsz7 b56 b67 b57 H6 H7 H5a hi0 hz0 hs0 hb0 hi1 hz1 hs1 hb1
   obtain⟨gO,hgO⟩:∃gO,w5.heap.size=gO:=⟨_,rfl⟩
   obtain⟨gN,hgN⟩:∃gN,w6.heap.size=gN:=⟨_,rfl⟩
   rw [hgO]at H8 hlo hOw ⊢
   rw [hgN]at H8 hOw ⊢
   clear hgO hgN
   go_loopw [13,77] (fun _ i wr=>∃k:Nat,k≤mm+1∧i= .int .i64 k∧Hid (NxP wr gN mm k∧Li 5 encP wr (fun b=>b<gO) A3 S∧Li 1 encI wr (fun b=>b<gO) (some ⟨g,0,none⟩) C∧Outs wr gO mm (seg S z C) (fun _=>False)∧Below w.heap.size w wr∧gN<wr.heap.size)) (fun _ i _=>mm+1 -(intOf i).toNat)
   case atStart=>exact⟨0,Nat.zero_le _,rfl,H8.out⟩
   case round=>
    obtain⟨k,hk,rfl,HN⟩:=hrel
    by_cases hlt:k<mm+1
    ·obtain⟨u,hcu⟩:=HN.out.1.cellAny hlt
     have hfr:wr.frozen? ⟨gN,k,none⟩=false:=by obtain⟨cs,hB,_⟩:=HN.out.1;exact hB.2.2 k
     have hgl:gN<wr.heap.size:=HN.out.2.2.2.2.2
     have HY:=Lib.hid (show NxP (wr.setCell ⟨gN,k,none⟩ (.int .i64 (k:Int))) gN mm (k+1)∧Li 5 encP (wr.setCell ⟨gN,k,none⟩ (.int .i64 (k:Int))) (fun b=>b<gO) A3 S∧Li 1 encI (wr.setCell ⟨gN,k,none⟩ (.int .i64 (k:Int))) (fun b=>b<gO) (some ⟨g,0,none⟩) C∧Outs (wr.setCell ⟨gN,k,none⟩ (.int .i64 (k:Int))) gO mm (seg S z C) (fun _=>False)∧Below w.heap.size w (wr.setCell ⟨gN,k,none⟩ (.int .i64 (k:Int)))∧gN<(wr.setCell ⟨gN,k,none⟩ (.int .i64 (k:Int))).heap.size from
      ⟨HN.out.1.set hlt,HN.out.2.1.far (by simp;omega) _,HN.out.2.2.1.far (by simp;omega) _,(by obtain⟨cs,hB,hx⟩:=HN.out.2.2.2.1;exact⟨cs,hB.far (by simp;omega) _,hx⟩),HN.out.2.2.2.2.1.setCell (by simp;omega) _,by rw [World.size_setCell];exact HN.out.2.2.2.2.2⟩)
     clear HN
     go_wp2
     go_roundw
     case rel=>exact⟨k+1,by omega,by go_num,HY.out⟩
     case measure=>simp [intOf];omega
    ·obtain rfl:k=mm+1:=by omega
     have HM:=Lib.hid (show FM w S z C A3 (some ⟨g,0,none⟩) gO gN mm (List.range (mm+1)) (Tk S C mm 0) wr from(FM.congr (T:=fun _=>False) ⟨HN.out.2.1,HN.out.2.2.1,HN.out.2.2.2.1,HN.out.1.done,nextInv_start _,HN.out.2.2.2.2.1,hlo,hOw,HN.out.2.2.2.2.2⟩ fun q=>(tk_zero S C mm q).symm))
     clear HN hlt H8
     go_wp2_with fail
     go_loopw [15,16,17,18,19,20,87] (fun _ _ _ _ _ _ i wr=>∃j:Nat,j≤nf+1∧i= .int .i64 j∧Hid (∃N,FM w S z C A3 (some ⟨g,0,none⟩) gO gN mm N (Tk S C mm j) wr)) (fun _ _ _ _ _ _ i _=>nf+1 -(intOf i).toNat)
     case atStart=>exact⟨0,Nat.zero_le _,rfl,⟨_,HM.out⟩⟩
     case round=>
      obtain⟨j,hj,rfl,HJ⟩:=hrel
      obtain⟨N,hM⟩:=HJ.out
      have M1:=Lib.hid hM
      clear hM HJ HM
      by_cases hlt:j<nf+1
      ·obtain⟨x,b,o,hx,rfl,hbl,_,c0,c1,c2,c3,c4⟩:=M1.out.sp.pieceK (show j<S.length by rw [HQ.out.2.2.2.1];exact hlt)
       have hxm:x∈S:=List.mem_of_getElem? hx
       have xb:=fitz_bd (m:=(m:Int)) (by omega) (show x∈fitz (m:Int) L z by rw [HQ.out.2.2.1];exact hxm)
       have xb1:=xb.1
       have xb2:=xb.2.1
       have xb3:=xb.2.2
       have hf:=count_at HQ.out.1.1 ((HQ.out.1.2 x.f).2 ⟨x,hxm,.inl rfl⟩)
       have ht:=count_at HQ.out.1.1 ((HQ.out.1.2 (x.t+1)).2 ⟨x,hxm,.inr rfl⟩)
       obtain⟨fr,hfe⟩:∃fr,C.countP (fun c=>decide (c<x.f))=fr:=⟨_,rfl⟩
       obtain⟨tt,hte⟩:∃tt,C.countP (fun c=>decide (c<x.t+1))=tt:=⟨_,rfl⟩
       rw [hfe]at hf
       rw [hte]at ht
       have hf1:fr≤mm:=by have:=hf.1;rw [HQ.out.2.2.2.2]at this;omega
       have ht1:tt≤mm:=by have:=ht.1;rw [HQ.out.2.2.2.2]at this;omega
       have HF:=Lib.hid (And.intro hf (And.intro ht (And.intro hfe hte)))
       have HX:=Lib.hid hx
       clear hx hxm xb hf ht hfe hte
       go_wp2_with fail
       refine atCalls (fun X=>Below wr.heap.size wr X∧Blk X wr.heap.size (encP x).toArray) ⟨(Below.refl _ _).alloc (Nat.le_refl _) _,blk_new _ _ _⟩ ?_
       rintro X ⟨hX,hB⟩
       have l0:X.cell? ⟨wr.heap.size,0,none⟩=some (.int .i64 x.f):=hB.2.1 0
       have l1:X.cell? ⟨wr.heap.size,1,none⟩=some (.int .i64 x.t):=hB.2.1 1
       have KB:=Lib.hid hB
       have M2:=Lib.hid (M1.out.later hX)
       clear hX hB c0 c1 c2 c3 c4
       obtain⟨b2,o2,e2,hb2,_,hci⟩:=M2.out.cu.ints (by rw [HQ.out.2.2.2.2];omega)
       injection e2 with e2
       injection e2 with e3 e4
       subst e3;subst e4
       have hle:(C.take (mm+1)).Pairwise (· ≤ ·):=by rw [←HQ.out.2.2.2.2,List.take_length];exact HQ.out.1.1.imp fun h=>Int.le_of_lt h
       have s1:=search_ints g 0 (mm+1) cc C x.f X (Nat.le_of_eq HQ.out.2.2.2.2.symm) (by omega) hci hle
       have s2:=fun q=>search_ints g 0 (mm+1) cc C (x.t+1) (X.drewN q) (Nat.le_of_eq HQ.out.2.2.2.2.symm) (by omega) hci hle
       have htake:C.take (mm+1)=C:=by rw [←HQ.out.2.2.2.2,List.take_length]
       rw [htake,HF.out.2.2.1]at s1
       simp only [htake,HF.out.2.2.2]at s2
       have S1:=Lib.hid s1
       have S2:=Lib.hid s2
       clear s1 s2 hle hci htake
       refine S1.out.mono ?_
       rintro e w8 ⟨rfl,q4,rfl⟩
       go_wp2_with fail
       refine(S2.out q4).mono ?_
       rintro e w9 ⟨rfl,q5,rfl⟩
       clear S1 S2
       go_wp2_with fail
       refine atCalls (fun Y=>FM w S z C (some ⟨b,o,none⟩) (some ⟨g,0,none⟩) gO gN mm N (Tk S C mm j) Y∧Blk Y wr.heap.size (encP x).toArray) ⟨M2.out.later (selfDrew _ _),KB.out⟩ ?_
       rintro Y ⟨hM,hB⟩
       have hwr:gN<wr.heap.size:=M1.out.hi
       have R1:=free_any gN (mm+1) mm fr N (Tk S C mm j) Y hM.nx hM.ni hf1 (by omega)
       have R2:=Lib.hid (R1.mono fun e w' (h:∃ (r:Nat) (N':List Nat),e= .returned (.int .i64 r)∧FreeAt (Tk S C mm j) mm fr r∧NextInv N' (Tk S C mm j) mm∧Nx w' gN N'∧Y.grownBy w' (some gN))=>
        (show ∃r:Nat,e= .returned (.int .i64 r)∧fr≤r∧r≤mm∧Hid (∃N',FM w S z C (some ⟨b,o,none⟩) (some ⟨g,0,none⟩) gO gN mm N' (fun q=>Tk S C mm j q∨(fr≤q∧q<r∧q<tt)) w'∧¬Tk S C mm j r∧(∀q,fr≤q→q<r→Tk S C mm j q∨(fr≤q∧q<r∧q<tt))∧Blk w' wr.heap.size (encP x).toArray)from by
         obtain⟨r,N',e1,⟨f1,f2,f3,f4⟩,e3,e4,e5⟩:=h
         exact⟨r,e1,f1,f2,⟨N',(hM.freed e4 e3 e5).congr (fun q=>⟨.inl,fun h=>h.elim id fun h=>f4 q h.1 h.2.1⟩),f3,fun q a b=> .inl (f4 q a b),hB.grown e5 (fun e=>by injection e with e;omega)⟩⟩))
       clear R1 hM hB M2 KB
       refine R2.out.mono ?_
       rintro e w10 ⟨r,rfl,hr1,hr2,HR⟩
       clear R2
       obtain⟨B,hBe⟩:∃B,wr.heap.size=B:=⟨_,rfl⟩
       rw [hBe]at HR hwr
       go_wp2_with fail
       clear hBe l0 l1
       go_loopw [20] (fun iv wq=>∃i:Nat,iv= .int .i64 i∧fr≤i∧i≤mm∧Hid (∃N',FM w S z C (some ⟨b,o,none⟩) (some ⟨g,0,none⟩) gO gN mm N' (fun q=>Tk S C mm j q∨(fr≤q∧q<i∧q<tt)) wq∧¬Tk S C mm j i∧(∀q,fr≤q→q<i→Tk S C mm j q∨(fr≤q∧q<i∧q<tt))∧Blk wq B (encP x).toArray)) (fun iv _=>mm -(intOf iv).toNat)
       case atStart=>exact⟨r,rfl,hr1,hr2,HR.out⟩
       case round=>
        obtain⟨i,rfl,hi1,hi2,HI⟩:=hrel
        obtain⟨N',hM,hni,hall,hB⟩:=HI.out
        have HM:=Lib.hid (And.intro hM (And.intro hni (And.intro hall hB)))
        clear hM hni hall hB HI HR
        by_cases hit:i<tt
        ·have hClen:=HQ.out.2.2.2.2
         obtain⟨b2,o2,e2,hb2,_,hc0⟩:=HM.out.1.cu.int (j:=i) (by omega)
         injection e2 with e2
         injection e2 with e3 e4
         subst e3;subst e4
         obtain⟨b2,o2,e2,_,_,hc1⟩:=HM.out.1.cu.int (j:=i+1) (by omega)
         injection e2 with e2
         injection e2 with e3 e4
         subst e3;subst e4
         have hTk:¬Tk S C mm j i:=HM.out.2.1
         have hsv:=seg_now (z:=z) HX.out HQ.out.1.1 hClen HF.out.1 HF.out.2.1 hi1 hit hTk
         obtain⟨u,hu⟩:∃u,C.getD i 0=u:=⟨_,rfl⟩
         obtain⟨v,hv⟩:∃v,C.getD (i+1) 0=v:=⟨_,rfl⟩
         have hcb:∀q,q≤mm→0≤cAt C q∧cAt C q≤m:=fun q hq=>by
          have a:=cAt_le HQ.out.1.1 (Nat.zero_le q) (show q<C.length by omega)
          have b:=cAt_le HQ.out.1.1 hq (show mm<C.length by omega)
          have c1:=HQ.out.2.1.2.1
          have c2:=HQ.out.2.1.2.2
          simp only [Nat.add_sub_cancel]at c2
          omega
         have hub:=hcb i (by omega)
         have hvb:=hcb (i+1) (by omega)
         have hP:=HM.out.1.put (i:=i) (by omega) (T':=fun q=>(Tk S C mm j q∨(fr≤q∧q<i∧q<tt))∨q=i) (fun q=>Iff.rfl) 1
         have es1:(seg S z C i).f=u:=hu
         have es2:(seg S z C i).t=v - 1:=by rw [←hv];rfl
         rw [es1,es2,hsv,show ((i+1:Nat):Int)=(i:Int)+1 by omega]at hP
         unfold cAt at hub hvb
         rw [hu]at hc0 hub
         rw [hv]at hc1 hvb
         rw [Nat.zero_add]at hc0 hc1
         have hu0:=hub.1
         have hu1:=hub.2
         have hv0:=hvb.1
         have hv1:=hvb.2
         obtain⟨a0,a1,a2,a3,a4,g0,g1,g2,g3,g4,f0,f1,f2,f3,f4⟩:=HM.out.1.out.cells (i:=i) (by omega)
         have ob:=HM.out.1.out.lt
         have nb:=HM.out.1.nx.lt
         have ltb:=HM.out.1.lt
         have n3c:=HM.out.1.nx.cell (j:=i) (by rw [HM.out.1.ni.1];omega)
         have n3f:=HM.out.1.nx.free i
         have lB:=HM.out.2.2.2
         have l2:wr.cell? ⟨B,2,none⟩=some (.bool x.v.1):=lB.2.1 2
         have l3:wr.cell? ⟨B,3,none⟩=some (.bool x.v.2.1):=lB.2.1 3
         have l4:wr.cell? ⟨B,4,none⟩=some (.bool x.v.2.2):=lB.2.1 4
         have lBl:=lB.1
         have hlo':=HM.out.1.lo
         have hNe:gO≠gN:=by omega
         have hi3:(i:Int)+1<(mm:Int)+1:=by omega
         have hi4:(i:Int)<(mm:Int)+1:=by omega
         have hi4':(i:Int)<(mm:Int):=by omega
         have hi5:(0:Int)≤(i:Int):=by omega
         have hi6:(0:Int)≤(i:Int)+1:=by omega
         have hi7:((i:Int)+1).toNat=i+1:=by omega
         have HP:=Lib.hid (And.intro hP ((((((lB.drewN 1).far (p:=⟨gO,i*5,none⟩) (by simp;omega) (.int .i64 u)).far (p:=⟨gO,i*5+1,none⟩) (by simp;omega) (.int .i64 (v - 1))).far (p:=⟨gO,i*5+2,none⟩) (by simp;omega) (.bool x.v.1)).far (p:=⟨gO,i*5+3,none⟩) (by simp;omega) (.bool x.v.2.1)).far (p:=⟨gO,i*5+4,none⟩) (by simp;omega) (.bool x.v.2.2) |>.far (p:=⟨gN,i,none⟩) (by simp;omega) (.int .i64 ((i:Int)+1))))
         have hi8:IntKind.i64.wrap ((i:Int)+1)=(i:Int)+1:=IntWalk.i64_in _ (by omega)
         have hi9:IntKind.i64.wrap (v - 1)=v - 1:=IntWalk.i64_in _ (by omega)
         clear hP hTk hsv hu hv hcb hub hvb es1 es2 lB hClen
         go_wp2_with fail
         go_still_tail 16,(by kernel_rfl)
         change wpList _ _ _ _ _ wr.drew
         clear hi8 hi9 hi7
         go_wp2_with fail
         rw [sc_drew,sc_drew,sc_drew,sc_drew,sc_drew,sc_drew,drew_one]
         refine atCalls (fun Z=>FM w S z C (some ⟨b,o,none⟩) (some ⟨g,0,none⟩) gO gN mm (N'.set i (i+1)) (fun q=>(Tk S C mm j q∨(fr≤q∧q<i∧q<tt))∨q=i) Z∧Blk Z B (encP x).toArray) HP.out ?_
         rintro Z ⟨hM,hB⟩
         have R1:=free_any gN (mm+1) mm i (N'.set i (i+1)) (fun q=>(Tk S C mm j q∨(fr≤q∧q<i∧q<tt))∨q=i) Z hM.nx hM.ni (by omega) (by omega)
         have R2:=Lib.hid (R1.mono fun e w' (h:∃ (r:Nat) (N'':List Nat),e= .returned (.int .i64 r)∧FreeAt (fun q=>(Tk S C mm j q∨(fr≤q∧q<i∧q<tt))∨q=i) mm i r∧NextInv N'' (fun q=>(Tk S C mm j q∨(fr≤q∧q<i∧q<tt))∨q=i) mm∧Nx w' gN N''∧Z.grownBy w' (some gN))=>
          (show ∃r:Nat,e= .returned (.int .i64 r)∧i<r∧r≤mm∧Hid (∃N',FM w S z C (some ⟨b,o,none⟩) (some ⟨g,0,none⟩) gO gN mm N' (fun q=>Tk S C mm j q∨(fr≤q∧q<r∧q<tt)) w'∧¬Tk S C mm j r∧(∀q,fr≤q→q<r→Tk S C mm j q∨(fr≤q∧q<r∧q<tt))∧Blk w' B (encP x).toArray)from by
           obtain⟨r,N'',e1,⟨f1,f2,f3,f4⟩,e3,e4,e5⟩:=h
           have hir:i<r:=by
            rcases Nat.lt_or_eq_of_le f1 with h|h
            ·exact h
            ·exact absurd (.inr h.symm) f3
           have hall2:∀q,fr≤q→q<r→Tk S C mm j q∨(fr≤q∧q<r∧q<tt):=fun q a b=>by
            rcases Nat.lt_or_ge q i with h|h
            ·rcases HM.out.2.2.1 q a h with h'|h'
             ·exact .inl h'
             ·exact .inr ⟨a,b,h'.2.2⟩
            ·rcases f4 q h b with(h'|h')|h'
             ·exact .inl h'
             ·exact .inr ⟨a,b,h'.2.2⟩
             ·exact .inr ⟨a,b,by omega⟩
           refine⟨r,e1,hir,f2,⟨N'',(hM.freed e4 e3 e5).congr (fun q=>⟨?_,?_⟩),fun h=>f3 (.inl (.inl h)),hall2,hB.grown e5 (fun e=>by injection e with e;omega)⟩⟩
           ·rintro((h|h)|h)
            ·exact .inl h
            ·exact .inr ⟨h.1,by omega,h.2.2⟩
            ·exact .inr ⟨by omega,by omega,by omega⟩
           ·rintro(h|h)
            ·exact .inl (.inl h)
            ·rcases Nat.lt_or_ge q i with h'|h'
             ·exact .inl (.inr ⟨h.1,h',h.2.2⟩)
             ·exact f4 q h' h.2.1))
         clear R1 hM hB HP HM
         refine R2.out.mono ?_
         rintro e w11 ⟨r',rfl,hr3,hr4,hR⟩
         clear R2
         go_wp2_with fail
         go_roundw
         case rel=>exact⟨r',rfl,by omega,hr4,hR⟩
         case measure=>simp [intOf];omega
        ·have hD:=HM.out.1.congr (T':=Tk S C mm (j+1)) (fun q=>by
          rw [tk_succ HX.out HQ.out.1.1 HQ.out.2.2.2.2 HF.out.1 HF.out.2.1]
          exact⟨fun h=>h.elim .inl fun h=> .inr ⟨h.1,h.2.2⟩,fun h=>h.elim .inl fun h=> .inr ⟨h.1,by omega,h.2⟩⟩)
         have HD:=Lib.hid hD
         clear hD HM
         go_wp2_with fail
         go_roundw
         case rel=>exact⟨j+1,by omega,by go_num,⟨N',HD.out⟩⟩
         case measure=>simp [intOf];omega
      ·obtain rfl:j=nf+1:=by omega
       have hmmC:=HQ.out.2.2.2.2
       have hcin:∀q,q<mm→0≤cAt C q∧cAt C q<m:=fun q hq=>by
        have a:=cAt_le HQ.out.1.1 (Nat.zero_le q) (show q<C.length by omega)
        have b:=cAt_lt HQ.out.1.1 hq (show mm<C.length by omega)
        have c1:=HQ.out.2.1.2.1
        have c2:=HQ.out.2.1.2.2
        simp only [Nat.add_sub_cancel]at c2
        omega
       have hallT:∀q,q<mm→Tk S C mm (nf+1) q:=fun q hq=>⟨hq,by
        rw [List.take_of_length_le (by rw [HQ.out.2.2.2.1];omega),←HQ.out.2.2.1,pget_fitz (m:Int) L z _ (hcin q hq).1 (hcin q hq).2]
        rfl⟩
       have hLi:=M1.out.out.all hallT
       have hseg:((List.range mm).map (seg S z C)).length=mm:=by simp
       have hT:Tile 0 (m:Int) ((List.range mm).map (seg S z C)):=by
        have:=segs_tile (S:=S) (z:=z) HQ.out.1.1 mm (by omega)
        have c1:=HQ.out.2.1.2.1
        have c2:=HQ.out.2.1.2.2
        simp only [Nat.add_sub_cancel]at c2
        rwa [c1,c2]at this
       have hV:Vals (pval L z) ((List.range mm).map (seg S z C)):=by
        intro p hp r h1 h2
        obtain⟨q,hq,rfl⟩:=List.mem_map.1 hp
        have hq':=List.mem_range.1 hq
        have:=segs_vals (m:=(m:Int)) (L:=L) (z:=z) (C:=C) (by rw [HQ.out.2.2.1];exact HQ.out.1) (by omega) (q:=q) (by omega) r
        rw [HQ.out.2.2.1]at this
        exact this h1 h2
       have J:=joined_any (some ⟨gO,0,none⟩) mm ((List.range mm).map (seg S z C)) (pval L z) m wr hLi (by omega) (by omega) hT hV (by omega)
       rw [hseg]at J
       have HJ:=Lib.hid J
       have HBe:=Lib.hid M1.out.be
       clear J hLi hT hV hallT hcin hseg M1 hmmC
       go_wp2_with fail
       refine HJ.out.mono ?_
       rintro e w9 ⟨P,hP,hPl,A9,n9,c9,rfl,ho,hb⟩
       have HE:=Lib.hid (show ∃P,Flat (m:Int) L z P∧P.length≤100000∧TellsO 145 5 encP P w0 (.returned (.slice A9 n9 c9)) w9 from⟨P,⟨hP.tile,hP.vals,hP.apt⟩,by omega,A9,n9,c9,rfl,ownLow ho (Nat.le_trans HZ.out.1.size HBe.out.size),HZ.out.1.trans ((HBe.out.trans (hb.mono HBe.out.size)).mono HZ.out.1.size)⟩)
       clear ho hb hP HJ
       go_wp2_with fail
       go_ret
       exact HE.out
end Go.Proofs.YtlopleeopnnoeaaGreat.TK
namespace Go.Proofs.YtlopleeopnnoeaaGreat.TK
open Go.RowKit Go.BigFrame
attribute [local go_sem] Oper.semAt_some
theorem region_round_lit {F:Fence}{n:Nat}{P:Program}{L:List Oper}{Q:Exit→Act→World→Prop}(l:Nat){id:Nat}{a:Act}{w:World}(hro:F.round=none)(hm:P.follows .mixedOrders=true)(hB:Region.lexB .any L.toArray=true)(hd:L.all (fun o=>match o.op with| .defer _=>false|_=>true)=true)
  (h:wpQuietIn F n P L.toArray (fun w'=>∃m,w'=w.drewN m) (fun a'=>∀w',(∃m,w'=w.drewN m)→Q .normal a' w') L a):(Code.region id L.toArray true).wpIn (F.inRound l) n P Q a w:=
 region_round _ l hro hm hB hd ⟨1,rfl⟩ h
section
variable {lo m:Int}{P:List (Pc V3)}{g:Int→V3}
theorem tile_next (h:Tile lo m P){a:Nat}{x y:Pc V3}(hx:P[a]? =some x)(hy:P[a+1]? =some y):y.f=x.t+1:=by
 obtain⟨h1,_,_⟩:=tile_at h hy
 obtain⟨_,_,h2⟩:=tile_at h hx
 exact tile_uniq h1 h2
theorem tile_last (h:Tile lo m P){a:Nat}{x:Pc V3}(hx:P[a]? =some x)(ha:P.length≤a+1):x.t+1=m:=by
 obtain⟨_,_,h2⟩:=tile_at h hx
 rw [List.take_of_length_le ha]at h2
 exact tile_uniq h2 h
theorem tile_first (h:Tile lo m P){x:Pc V3}(hx:P[0]? =some x):x.f=lo:=by
 cases P with
 |nil=>cases hx
 |cons p P=>simp at hx;subst hx;exact h.1
def bval (g:Int→V3)(m first:Int)(i:Nat):V3:=g (min (first+i) (m - 1))
theorem bval_is (h:Tile lo m P)(hV:Vals g P){a i:Nat}{x:Pc V3}{first:Int}(hx:P[a]? =some x)(h1:x.f≤first+i)(h2:first+i≤x.t∨P.length≤a+1):bval g m first i=x.v:=by
 have hb:=tile_bd h (List.mem_of_getElem? hx)
 have hv:=hV x (List.mem_of_getElem? hx)
 unfold bval
 rcases h2 with h2|h2
 ·exact hv _ (by omega) (by omega)
 ·have:=tile_last h hx h2
  exact hv _ (by omega) (by omega)
theorem flatV_set:∀ (L:List V3) (k:Nat) (x:V3),k<L.length→(((flatL encV L).set (k*3) (.bool x.1)).set (k*3+1) (.bool x.2.1)).set (k*3+2) (.bool x.2.2)=flatL encV (L.set k x)
 |[],k,x,h=>by simp at h
 |a::L,0,x,h=>rfl
 |a::L,k+1,x,h=>by
  have ih:=flatV_set L k x (by simpa using h)
  have e:∀M:List V3,flatL encV (a::M)= .bool a.1:: .bool a.2.1:: .bool a.2.2::flatL encV M:=fun _=>rfl
  rw [List.set_cons_succ,e,e,←ih,show (k+1)*3=k*3+1+1+1 by omega]
  simp only [List.set_cons_succ]
def outV (g:Int→V3)(m first:Int)(k:Nat):List V3:=(List.range 128).map fun i=>if i<k then bval g m first i else (false,false,false)
theorem outV_len (g:Int→V3)(m first:Int)(k:Nat):(outV g m first k).length=128:=by simp [outV]
def outC (g:Int→V3)(m first:Int)(k:Nat):List Value:=flatL encV (outV g m first k)
theorem outC_len (g:Int→V3)(m first:Int)(k:Nat):(outC g m first k).length=384:=by
 unfold outC
 rw [flatL_len encV_len,outV_len]
theorem outV_set (g:Int→V3)(m first:Int)(k:Nat)(hk:k<128):(outV g m first k).set k (bval g m first k)=outV g m first (k+1):=by
 apply List.ext_getElem
 ·simp [outV]
 ·intro i h1 h2
  simp only [outV,List.getElem_set,List.getElem_map,List.getElem_range]
  by_cases e:k=i
  ·subst e;rw [if_pos rfl,if_pos (Nat.lt_succ_self _)]
  ·rw [if_neg e]
   by_cases h:i<k
   ·rw [if_pos h,if_pos (by omega)]
   ·rw [if_neg h,if_neg (by omega)]
theorem outC_set (g:Int→V3)(m first:Int)(k:Nat)(hk:k<128):(((outC g m first k).set (k*3) (.bool (bval g m first k).1)).set (k*3+1) (.bool (bval g m first k).2.1)).set (k*3+2) (.bool (bval g m first k).2.2)=outC g m first (k+1):=by
 unfold outC
 rw [flatV_set _ _ _ (by rw [outV_len];exact hk),outV_set _ _ _ _ hk]
set_option maxRecDepth 100000 in
theorem outC_zero (g:Int→V3)(m first:Int):(outC g m first 0).toArray= Tryz.zeroCells213:=by
 unfold outC outV
 simp only [Nat.not_lt_zero,if_false]
 rfl
def blk (g:Int→V3)(m first:Int):List V3:=(List.range 128).map (bval g m first)
theorem outC_all (g:Int→V3)(m first:Int):outC g m first 128=flatL encV (blk g m first):=by
 have e:outV g m first 128=blk g m first:=by
  unfold outV blk
  apply List.map_congr_left
  intro i hi
  rw [if_pos (List.mem_range.1 hi)]
 unfold outC
 rw [e]
theorem outC_at (g:Int→V3)(m first:Int)(k i:Nat)(hi:i<384):∃u,(outC g m first k)[i]? =some u:=⟨_,List.getElem?_eq_getElem (by rw [outC_len];exact hi)⟩
end
theorem grow_set (w:World)(g j:Nat)(u:Value):w.grownBy (w.setCell ⟨g,j,none⟩ u) (some g):=
 ⟨rfl,rfl,rfl,by simp,fun k _ hne=>Below.heap_setCell _ _ _ _ (by intro e;exact hne (by rw [e]))⟩
structure BlI (w:World)(A:Option Addr)(nn c:Nat)(first:Int)(j:Nat)(cs:List Value)(W:World):Prop where
 pcs:Boxed W w.heap.size 139 (.slice A nn c)
 fst:Boxed W (w.heap.size+1) 3 (.int .i64 first)
 res:Blk W (w.heap.size+1+1) Tryz.zeroCells213
 out:Blk W (w.heap.size+1+1+1) cs.toArray
 at_:Boxed W (w.heap.size+1+1+1+1) 3 (.int .i64 j)
 be:Below w.heap.size w W
section
variable {w W W':World}{A:Option Addr}{nn c:Nat}{first:Int}{j:Nat}{cs:List Value}
theorem BlI.grown (h:BlI w A nn c first j cs W){row:Option Nat}(hg:W.grownBy W' row)(hr:∀r,row=some r→w.heap.size+1+1+1+1<r):BlI w A nn c first j cs W':=by
 have n:∀k,k≤w.heap.size+1+1+1+1→some k≠row:=fun k hk e=>by have:=hr k e.symm;omega
 exact⟨Boxed.kept h.pcs hg (n _ (by omega)),Boxed.kept h.fst hg (n _ (by omega)),Blk.same h.res (hg.block _ h.res.1 (n _ (by omega))) hg.size,Blk.same h.out (hg.block _ h.out.1 (n _ (by omega))) hg.size,Boxed.kept h.at_ hg (n _ (by omega)),h.be.grown hg h.be.size (fun k e=>by have:=hr k e;omega)⟩
theorem BlI.drewN (h:BlI w A nn c first j cs W)(m:Nat):BlI w A nn c first j cs (W.drewN m):=
 h.grown (row:=none) ⟨rfl,rfl,rfl,Nat.le_refl _,fun _ _ _=>rfl⟩ (fun r e=>by cases e)
theorem BlI.next (h:BlI w A nn c first j cs W)(i:Nat):BlI w A nn c first i cs (W.setCell ⟨w.heap.size+1+1+1+1,0,none⟩ (.int .i64 i)):=
 ⟨Boxed.other h.pcs (by omega) _,Boxed.other h.fst (by omega) _,Blk.far h.res (by show w.heap.size+1+1+1+1≠_;omega) _,Blk.far h.out (by show w.heap.size+1+1+1+1≠_;omega) _,Boxed.set _ h.at_,h.be.setCell (p:=⟨w.heap.size+1+1+1+1,0,none⟩) (by simp;omega) _⟩
theorem BlI.put (h:BlI w A nn c first j cs W)(i:Nat)(hi:i<cs.length)(v:Value):BlI w A nn c first j (cs.set i v) (W.setCell ⟨w.heap.size+1+1+1,i,none⟩ v):=by
 have hg:=grow_set W (w.heap.size+1+1+1) i v
 have hs:=Blk.set_ h.out i (by simpa using hi) v
 exact⟨Boxed.kept h.pcs hg (by simp;omega),Boxed.kept h.fst hg (by simp),Blk.same h.res (hg.block _ h.res.1 (by simp)) hg.size,by simpa using hs,Boxed.kept h.at_ hg (by simp),h.be.setCell (p:=⟨w.heap.size+1+1+1,i,none⟩) (by simp;omega) _⟩
end
end Go.Proofs.YtlopleeopnnoeaaGreat.TK
