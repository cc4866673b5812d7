import Derived.Lib.SlicesCompact
import Derived.Test.YtlopleeopnnoeaaGreatMb01
import Derived.Shelf.Lay
import Derived.Shelf.SlGeneric
import Derived.Shelf.SortG.Plain
import Derived.Shelf.SortG.SortNone
import Derived.Shelf.SlicesG.CompactI
import Derived.Shelf.SlicesG.SearchI
import Derived.Ground.SlgnProg
import Derived.Deep.RegionHeld3
import Derived.Deep.AppendLies
import Derived.Maps.AppendAt
import Derived.Test.YtlopleeopnnoeaaGreatMb02
import Derived.Sort.OwnSortedInts
import Derived.IntWalk
import Derived.Deep.CutRange
import Derived.StillTailTactics
set_option linter.unusedVariables false
set_option linter.unusedSimpArgs false
namespace Go.Proofs.YtlopleeopnnoeaaGreat
theorem compact_mem {zs:List Int}{x:Int}:x∈Go.Lib.compact zs↔x∈zs:=by
 unfold Go.Lib.compact Go.Lib.compactUpTo
 constructor
 ·intro h
  obtain⟨j,hj,rfl⟩:=List.mem_map.1 h
  have hlt:=List.mem_range.1 (List.mem_filter.1 hj).1
  simp only [List.getElem!_toArray]
  rw [List.getElem!_eq_getElem?_getD,List.getElem?_eq_getElem hlt]
  exact List.getElem_mem hlt
 ·intro h
  obtain⟨j,hj,hx⟩:=List.getElem_of_mem h
  have key:∀j,(hj:j<zs.length)→zs[j]=x→∃i,i<zs.length∧zs.toArray[i]! =x∧Go.Lib.keeps zs.toArray i=true:=by
   intro j
   induction j with
   |zero=>
    intro hj hx
    exact⟨0,hj,by simp [hj,hx],by simp [Go.Lib.keeps]⟩
   |succ j ih=>
    intro hj hx
    by_cases e:zs[j]=x
    ·exact ih (by omega) e
    ·refine⟨j+1,hj,by simp [hj,hx],?_⟩
     simp only [Go.Lib.keeps,Nat.add_sub_cancel,decide_eq_true_eq]
     right
     simp [hj,show j<zs.length by omega,hx,Ne.symm e]
  obtain⟨i,hi,e,hk⟩:=key j hj hx
  exact List.mem_map.2 ⟨i,List.mem_filter.2 ⟨List.mem_range.2 hi,hk⟩,e⟩
theorem compact_lt {zs:List Int}(h:zs.Pairwise (· ≤ ·)):(Go.Lib.compact zs).Pairwise (· < ·):=by
 unfold Go.Lib.compact Go.Lib.compactUpTo
 rw [List.pairwise_map]
 have hr:(List.range zs.length).Pairwise (· < ·):=List.pairwise_lt_range
 refine List.Pairwise.imp_of_mem ?_ (hr.filter _)
 intro a b ha hb hab
 have hb1:=List.mem_range.1 (List.mem_filter.1 hb).1
 have hb2:=(List.mem_filter.1 hb).2
 simp only [Go.Lib.keeps,decide_eq_true_eq]at hb2
 have hp:=List.pairwise_iff_getElem.1 h
 have e (i:Nat) (hi:i<zs.length):zs.toArray[i]! =zs[i]:=by simp [hi]
 rw [e a (by omega),e b hb1]at*
 rcases hb2 with h0|hne
 ·omega
 ·rw [e (b - 1) (by omega)]at hne
  have h1:zs[b - 1]≤zs[b]:=hp (b - 1) b (by omega) hb1 (by omega)
  have h2:zs[a]≤zs[b - 1]:=by
   rcases Nat.lt_or_eq_of_le (show a≤b - 1 by omega)with h|h
   ·exact hp a (b - 1) (by omega) (by omega) h
   ·subst h;exact Int.le_refl _
  omega
theorem compact_len (zs:List Int):(Go.Lib.compact zs).length≤zs.length:=by
 unfold Go.Lib.compact Go.Lib.compactUpTo
 rw [List.length_map]
 have:=List.length_filter_le (Go.Lib.keeps zs.toArray) (List.range zs.length)
 simpa using this
theorem sorted_ints (zs:List Int):(zs.mergeSort fun x y=>decide (x≤y)).Pairwise (· ≤ ·):=by
 have h:=List.pairwise_mergeSort (le:=fun x y:Int=>decide (x≤y)) (fun a b c h1 h2=>by simp at*;omega) (fun a b=>by simp;omega) zs
 exact h.imp fun h=>by simpa using h
def sortedOnce (zs:List Int):List Int:=Go.Lib.compact (zs.mergeSort fun x y=>decide (x≤y))
theorem sortedOnce_lt (zs:List Int):(sortedOnce zs).Pairwise (· < ·):=compact_lt (sorted_ints zs)
theorem sortedOnce_mem {zs:List Int}{x:Int}:x∈sortedOnce zs↔x∈zs:=by
 unfold sortedOnce
 rw [compact_mem]
 exact(List.mergeSort_perm zs _).mem_iff
theorem sortedOnce_len (zs:List Int):(sortedOnce zs).length≤zs.length:=by
 have:=compact_len (zs.mergeSort fun x y=>decide (x≤y))
 rwa [List.length_mergeSort]at this
end Go.Proofs.YtlopleeopnnoeaaGreat
namespace Go.Proofs
open Go.Shelf
shelf_lay_g SlLaysN.n53 Slgn 53 at Tryz 98 as YtlopleeopnnoeaaGreat.sortI
shelf_lay_g SlLaysN.n43 Slgn 43 at Tryz 99 as YtlopleeopnnoeaaGreat.compactI
shelf_lay_g SlLaysN.n49 Slgn 49 at Tryz 104 as YtlopleeopnnoeaaGreat.searchI
end Go.Proofs
namespace Go.Proofs.YtlopleeopnnoeaaGreat
open Go.RowKit Go.Shelf Go.Sort
theorem sort_ints (blk off cap:Nat)(zs:List Int)(w:World)(hH:Holds (Value.int .i64) w blk off zs.toArray)(hblk:blk<w.heap.size)(hsz:zs.length<4611686018427387904):
  Calls Tryz.prog 98 #[.slice (some ⟨blk,off,none⟩) zs.length cap] w fun e w'=>e= .returned (.tuple #[])∧∃n os,w'=grow (putRow (Value.int .i64) (Sort.ahead w n) blk off (zs.mergeSort fun x y=>decide (x≤y)).toArray) os:=
 AnyG.slices_Sort_int sortI blk off cap zs w hH hblk hsz
theorem sort_none (p:Option Addr)(cap:Nat)(w:World):Calls Tryz.prog 98 #[.slice p 0 cap] w fun e w'=>e= .returned (.tuple #[])∧w'=w:=
 AnyG.slices_Sort_int_none sortI p cap w
theorem compact_ints (blk off cap:Nat)(zs:List Int)(w:World)(hH:Holds (Value.int .i64) w blk off zs.toArray)(hsz:zs.length≤9223372036854775807)(hcap:zs.length≤cap):
  Calls Tryz.prog 99 #[.slice (some ⟨blk,off,none⟩) zs.length cap] w fun e w'=>e= .returned (.slice (some ⟨blk,off,none⟩) (Lib.compact zs).length cap)∧∃q,w'=putRow (Value.int .i64) (Sort.ahead w q) blk off (Lib.compact zs++List.replicate (zs.length -(Lib.compact zs).length) 0).toArray:=
 AnyG.slices_Compact_int compactI blk off cap zs w hH hsz hcap
theorem compact_none (p:Option Addr)(cap:Nat)(w:World):Calls Tryz.prog 99 #[.slice p 0 cap] w fun e w'=>e= .returned (.slice p 0 cap)∧w'=w:=
 AnyG.slices_Compact_int_empty compactI p cap w
theorem search_ints (b off n c:Nat)(zs:List Int)(x:Int)(w:World)(hz:n≤zs.length)(hbig:n<4611686018427387904)(hc:∀j,j<zs.length→w.cell? ⟨b,off+j,none⟩=some (.int .i64 (zs.getD j 0)))(hs:(zs.take n).Pairwise (· ≤ ·)):
  Calls Tryz.prog 104 #[.slice (some ⟨b,off,none⟩) n c,.int .i64 x] w fun e w'=>e= .returned (.tuple #[.int .i64 ((zs.take n).countP (· <x):Nat),.bool ((zs.take n).contains x)])∧∃q,w'=w.drewN q:=
 AnyG.slices_BinarySearch_int searchI b off n c zs x w hz hbig hc hs
open Go.RowKit
theorem step_pushN {P:Program}{w0 w:World}{cs:Array Value}{e':TypeId}{ops:Array Oper}{o:Oper}{a:Act}{K:Act→World→Prop}{Q:Exit→Act→World→Prop}{Ep:Prop}{size bytes base n k:Nat}{t e:TypeId}{v:Value}{xs:List Value}{s x:Operand}
  (E:Elt P t e size bytes) (hown:w0.ownsRow base e size v n xs) (hbase:base≤w0.heap.size) (hgd:o.guard=none) (ho:o.op= .call {callee:= .builtin .append,args:=#[s,x],argTypes:=#[t,t]})
  (hs:a.eval s=v) (hx:a.eval x= .slice (some ⟨k,0,none⟩) 1 1) (hk:k=w0.heap.size) (hw:w=(w0.alloc (.cells cs e')).drew) (hcs:cs.size=size) (h1:cs.toList.all Value.oneCell'=true) (h63:n+1≤maxLen) (hbytes:(n+1)*bytes≤140737488355328)
  (h:∀A c w',Pushed w0 w' base e size v (n+1) (xs++cs.toList) A c→K (a.put o.dst (.slice A (n+1) c)) w'):if Region.wanted o (yielded ops a.tmps)=true then Oper.wp P o a w K Q else Ep:=by
 have hwd:Region.wanted o (yielded ops a.tmps)=true:=by simp [Region.wanted,hgd]
 rw [if_pos hwd]
 subst hw;subst hk
 obtain⟨ht,i,z,hi,hz,hsize,hby,hzs,hsz⟩:=E
 have hown':(w0.alloc (.cells cs e')).drew.ownsRow base e size v n xs:=own_later hown (((Below.refl _ _).alloc (Nat.le_refl _) _).drew)
 obtain⟨v',w',hrr,h2,h3,h4,h5⟩:=run_append_own_at (P:=P) (w:=(w0.alloc (.cells cs e')).drew) base t o.type e i z size bytes ht hi hz hsize hby hzs hsz v n xs hown' ⟨w0.heap.size,0,none⟩ 1 1 cs.toList (by simp [hcs]) (by
  intro j u hj
  rw [Addr.add_lit,Nat.zero_add]
  show (w0.alloc (.cells cs e')).cell? _=_
  rw [World.cell?_alloc_new,←hj]
  simp) (fun u hu=>List.all_eq_true.1 h1 u hu) h63 hbytes (by simp [World.size_alloc];omega)
 obtain⟨A',c',rfl⟩:=own_slice h2
 unfold Oper.wp execOp
 simp only [ho,resolve,invoke,builtin,Sem.run_bind,Sem.run_pure,Result.andThen_ok,List.map_toArray,List.map_cons,List.map_nil,hs,hx,hrr]
 refine h A' c' w' ⟨h2,?_,?_⟩
 ·exact(World.grownBy_alloc w0 _ _).trans ⟨h3.os,h3.tape,h3.output,h3.size,h3.block⟩
 ·rcases h5 with e1|e1
  ·exact .inl e1
  ·exact .inr ⟨_,e1,by simp [World.size_alloc]⟩
structure Two (w:World)(Ac:Option Addr)(nc cc:Nat)(Cs:List Int)(Af:Option Addr)(nf cf:Nat)(F:List (Pc Int))(X:World):Prop where
 cu:X.ownsRow w.heap.size 3 1 (.slice Ac nc cc) nc (flatL encI Cs)
 fi:X.ownsRow w.heap.size 134 3 (.slice Af nf cf) nf (flatL encP F)
 ap:∀b,(Value.slice Ac nc cc).ownBlock=some b→(Value.slice Af nf cf).ownBlock≠some b
 be:Below w.heap.size w X
theorem keptRow {X Y:World}{base n size:Nat}{E:TypeId}{v:Value}{xs:List Value}{row:Option Nat}(h:X.ownsRow base E size v n xs)(hg:X.grownBy Y row)(hne:∀b,v.ownBlock=some b→row≠some b):Y.ownsRow base E size v n xs:=
 h.kept hg (by
  cases hv:v.ownBlock with
  |none=>exact .inl rfl
  |some k=>right;exact fun e=>hne k hv e.symm)
theorem Two.later {w X Y:World}{Ac Af:Option Addr}{nc cc nf cf:Nat}{Cs:List Int}{F:List (Pc Int)}(h:Two w Ac nc cc Cs Af nf cf F X)(hb:Below X.heap.size X Y):Two w Ac nc cc Cs Af nf cf F Y:=
 ⟨own_later h.cu hb,own_later h.fi hb,h.ap,h.be.trans (hb.mono h.be.size)⟩
theorem Two.pushF {w X Y:World}{Ac Af A':Option Addr}{nc cc nf cf c':Nat}{Cs:List Int}{F:List (Pc Int)}{p:Pc Int}{ys:List Value}(h:Two w Ac nc cc Cs Af nf cf F X)(hp:Pushed X Y w.heap.size 134 3 (.slice Af nf cf) (nf+1) (flatL encP F++ys) A' c')(hy:ys=encP p):
  Two w Ac nc cc Cs A' (nf+1) c' (F++[p]) Y:=by
 subst hy
 refine⟨keptRow h.cu hp.grown h.ap,by rw [flatL_snoc];exact hp.own,fun b hb e=> ?_,hp.below h.be h.fi (Nat.le_refl _)⟩
 rcases hp.at_ with e1|⟨q,e1,hq⟩
 ·exact h.ap b hb (e1.symm.trans e)
 ·rw [e1]at e
  injection e with e
  have:=(h.cu.lt b hb).2
  omega
theorem Two.pushC {w X Y:World}{Ac Af A':Option Addr}{nc cc nf cf c' m:Nat}{Cs M:List Int}{F:List (Pc Int)}{ys:List Value}(h:Two w Ac nc cc Cs Af nf cf F X)(hp:Pushed X Y w.heap.size 3 1 (.slice Ac nc cc) (nc+m) (flatL encI Cs++ys) A' c')(hy:ys=flatL encI M):
  Two w A' (nc+m) c' (Cs++M) Af nf cf F Y:=by
 subst hy
 refine⟨by rw [flatL_append];exact hp.own,keptRow h.fi hp.grown fun b hb e=>h.ap b e hb,fun b hb e=> ?_,hp.below h.be h.cu (Nat.le_refl _)⟩
 rcases hp.at_ with e1|⟨q,e1,hq⟩
 ·exact h.ap b (e1.symm.trans hb) e
 ·rw [e1]at hb
  injection hb with hb
  have:=(h.fi.lt b e).2
  omega
theorem Two.far {w X:World}{Ac Af:Option Addr}{nc cc nf cf:Nat}{Cs:List Int}{F:List (Pc Int)}(h:Two w Ac nc cc Cs Af nf cf F X):some X.heap.size≠(Value.slice Af nf cf).ownBlock∧some X.heap.size≠(Value.slice Ac nc cc).ownBlock:=
 ⟨fun e=>by have:=(h.fi.lt _ e.symm).2;omega,fun e=>by have:=(h.cu.lt _ e.symm).2;omega⟩
def endsP (F:List (Pc Int)):List Int:=F.flatMap fun p=>[p.f,p.t+1]
def cutsP (m:Int)(F:List (Pc Int)):List Int:=sortedOnce ([0,m]++endsP F)
theorem cutsP_ok (m:Int)(L:List (Pc Int))(z:Int):Cuts (fitz m L z) (cutsP m (fits m L)):=by
 refine⟨sortedOnce_lt _,fun c=> ?_⟩
 unfold cutsP
 rw [sortedOnce_mem]
 simp only [endsP,fitz,List.mem_append,List.mem_flatMap,List.mem_cons,List.mem_nil_iff,or_false]
 constructor
 ·rintro((h|h)|⟨p,hp,h⟩)
  ·exact⟨⟨0,m - 1,z⟩,.inr rfl,.inl h⟩
  ·exact⟨⟨0,m - 1,z⟩,.inr rfl,.inr (by dsimp only;omega)⟩
  ·exact⟨p,.inl hp,h⟩
 ·rintro⟨s,(hs|rfl),h⟩
  ·exact .inr ⟨s,hs,h⟩
  ·left
   dsimp only at h
   omega
theorem endsP_len (F:List (Pc Int)):(endsP F).length=2*F.length:=by
 induction F with
 |nil=>rfl
 |cons p F ih=>simp only [endsP,List.flatMap_cons,List.length_append,List.length_cons,List.length_nil]at ih ⊢;omega
theorem endsP_snoc (F:List (Pc Int))(p:Pc Int):endsP (F++[p])=endsP F++[p.f,p.t+1]:=by
 simp [endsP]
theorem cut_calls_out {w X:World}{no co n q g:Nat}{E:TypeId}{zs:List Int}{os:Array Obj}(h:X.ownsRow w.heap.size E 1 (.slice (some ⟨g,0,none⟩) no co) no (flatL encI zs))(hb:Below w.heap.size w X)
  (Y:World) (hY:Y=Go.Sort.grow (Go.Sort.putRow (Value.int .i64) (Go.Sort.ahead X n) g 0 (zs.mergeSort fun x y=>decide (x≤y)).toArray) os) (Z:World) (hZ:Z=Go.Sort.putRow (Value.int .i64) (Go.Sort.ahead Y q) g 0 (sortedOnce zs++List.replicate ((zs.mergeSort fun x y=>decide (x≤y)).length -(sortedOnce zs).length) 0).toArray):
  Z.ownsRow w.heap.size E 1 (.slice (some ⟨g,0,none⟩) (sortedOnce zs).length co) (sortedOnce zs).length (flatL encI (sortedOnce zs))∧Below w.heap.size w Z:=by
 have hl:=own_count encI_len (by decide) h
 have hm:(zs.mergeSort fun x y=>decide (x≤y)).length=no:=by rw [List.length_mergeSort];exact hl
 have hk:=sortedOnce_len zs
 obtain⟨h1,h2⟩:=own_sorted (os:=os) (q:=n) h hb hb.size hm
 rw [←hY]at h1 h2
 have hc:=own_cut (q:=q) (k:=(sortedOnce zs).length) h1 h2 (ys:=sortedOnce zs++List.replicate ((zs.mergeSort fun x y=>decide (x≤y)).length -(sortedOnce zs).length) 0) (by simp;omega) (by omega)
 rw [←hZ]at hc
 rwa [List.take_left']at hc
 rfl
theorem Two.sorted {w X:World}{g nc cc nf cf n q:Nat}{Af:Option Addr}{Cs:List Int}{F:List (Pc Int)}{os:Array Obj}(h:Two w (some ⟨g,0,none⟩) nc cc Cs Af nf cf F X)(hnc:0<nc)(Y:World)(hY:Y=Go.Sort.grow (Go.Sort.putRow (Value.int .i64) (Go.Sort.ahead X n) g 0 (Cs.mergeSort fun x y=>decide (x≤y)).toArray) os)(Z:World)(hZ:Z=Go.Sort.putRow (Value.int .i64) (Go.Sort.ahead Y q) g 0 (sortedOnce Cs++List.replicate ((Cs.mergeSort fun x y=>decide (x≤y)).length -(sortedOnce Cs).length) 0).toArray):
  Two w (some ⟨g,0,none⟩) (sortedOnce Cs).length cc (sortedOnce Cs) Af nf cf F Z:=by
 obtain⟨c1,c2⟩:=cut_calls_out h.cu h.be Y hY Z hZ
 have hg1:X.grownBy Y (some g):=by rw [hY];exact Go.grownBy_sortedI _
 have hg2:Y.grownBy Z (some g):=by
  have:=Go.grownBy_sortedI (w:=Y) (g:=g) (n:=q) (os:=#[]) (sortedOnce Cs++List.replicate ((Cs.mergeSort fun x y=>decide (x≤y)).length -(sortedOnce Cs).length) 0).toArray
  rwa [Go.Sort.grow_empty,←hZ]at this
 have hob:∀k,(Value.slice (some ⟨g,0,none⟩) k cc).ownBlock=some g:=fun _=>rfl
 have hne:∀b,(Value.slice Af nf cf).ownBlock=some b→some g≠some b:=fun b hb e=>h.ap g (hob _) (by rw [hb,e])
 exact⟨c1,keptRow (keptRow h.fi hg1 hne) hg2 hne,fun b hb e=>h.ap b hb e,c2⟩
theorem NextInv.congr {N:List Nat}{T T':Nat→Prop}{m:Nat}(h:NextInv N T m)(e:∀q,T q↔T' q):NextInv N T' m:=
 ⟨h.1,fun j hj=>by
  obtain⟨h1,h2,h3,h4⟩:=h.2 j hj
  exact⟨h1,h2,by rw [h3,e],fun q a b=>(e q).1 (h4 q a b)⟩⟩
def NxP (w:World)(g m k:Nat):Prop:=∃cs,Blk w g cs∧cs.size=m+1∧∀j,j<k→cs[j]? =some (.int .i64 ((j:Nat):Int))
theorem NxP.cellAny {w:World}{g m k:Nat}(h:NxP w g m k){j:Nat}(hj:j<m+1):∃u,w.cell? ⟨g,j,none⟩=some u:=by
 obtain⟨cs,hB,hs,_⟩:=h
 exact⟨cs[j],by rw [hB.2.1];simp [hs,hj]⟩
theorem NxP.set {w:World}{g m k:Nat}(h:NxP w g m k)(hk:k<m+1):NxP (w.setCell ⟨g,k,none⟩ (.int .i64 ((k:Nat):Int))) g m (k+1):=by
 obtain⟨cs,hB,hs,hc⟩:=h
 refine⟨_,hB.set_ k (by omega) _,by simp [hs],fun j hj=> ?_⟩
 by_cases e:k=j
 ·subst e
  simp [hs,hk]
 ·rw [Array.getElem?_setIfInBounds_ne e]
  exact hc j (by omega)
theorem NxP.done {w:World}{g m:Nat}(h:NxP w g m (m+1)):Nx w g (List.range (m+1)):=by
 obtain⟨cs,hB,hs,hc⟩:=h
 refine⟨cs,hB,fun j hj=> ?_⟩
 simp at hj
 rw [hc j (by omega)]
 simp [List.getD,show j<m+1 by omega]
theorem nextInv_start (m:Nat):NextInv (List.range (m+1)) (fun _=>False) m:=by
 refine⟨by simp,fun j hj=> ?_⟩
 have e:(List.range (m+1)).getD j 0=j:=by simp [List.getD,show j<m+1 by omega]
 rw [e]
 exact⟨Nat.le_refl _,hj,by simp,fun q a b=>by omega⟩
def Outs (w:World)(g mm:Nat)(s:Nat→Pc Int)(T:Nat→Prop):Prop:=∃cs,Blk w g cs∧cs.size=mm*3∧∀i,T i→i<mm→∀ (j:Nat) (u:Value),(encP (s i))[j]? =some u→cs[i*3+j]? =some u
theorem Outs.congr {w:World}{g mm:Nat}{s:Nat→Pc Int}{T T':Nat→Prop}(h:Outs w g mm s T)(e:∀q,T' q→T q):Outs w g mm s T':=by
 obtain⟨cs,hB,hs,hc⟩:=h
 exact⟨cs,hB,hs,fun i hi=>hc i (e i hi)⟩
theorem Outs.later {w w':World}{g B mm:Nat}{s:Nat→Pc Int}{T:Nat→Prop}(h:Outs w g mm s T)(hb:Below B w w')(hg:g<B):Outs w' g mm s T:=by
 obtain⟨cs,hB,hx⟩:=h
 exact⟨cs,hB.later hb hg,hx⟩
theorem Outs.grown {w w':World}{g mm:Nat}{row:Option Nat}{s:Nat→Pc Int}{T:Nat→Prop}(h:Outs w g mm s T)(hg:w.grownBy w' row)(hne:some g≠row):Outs w' g mm s T:=by
 obtain⟨cs,hB,hx⟩:=h
 exact⟨cs,hB.grown hg hne,hx⟩
theorem Outs.lt {w:World}{g mm:Nat}{s:Nat→Pc Int}{T:Nat→Prop}(h:Outs w g mm s T):g<w.heap.size:=by
 obtain⟨cs,hB,_⟩:=h
 exact hB.1
theorem Outs.cells {w:World}{g mm:Nat}{s:Nat→Pc Int}{T:Nat→Prop}(h:Outs w g mm s T){i:Nat}(hi:i<mm):∃a b c,w.cell? ⟨g,i*3,none⟩=some a∧w.cell? ⟨g,i*3+1,none⟩=some b∧w.cell? ⟨g,i*3+2,none⟩=some c∧w.frozen? ⟨g,i*3,none⟩=false∧w.frozen? ⟨g,i*3+1,none⟩=false∧w.frozen? ⟨g,i*3+2,none⟩=false:=by
 obtain⟨cs,hB,hs,_⟩:=h
 have k (j:Nat) (hj:j<3):w.cell? ⟨g,i*3+j,none⟩=some (cs[i*3+j]'(by omega)):=by rw [hB.2.1];exact Array.getElem?_eq_getElem _
 exact⟨_,_,_,k 0 (by omega),k 1 (by omega),k 2 (by omega),hB.2.2 _,hB.2.2 _,hB.2.2 _⟩
theorem Outs.put {w:World}{g mm:Nat}{s:Nat→Pc Int}{T:Nat→Prop}(h:Outs w g mm s T){i:Nat}(hi:i<mm)(T':Nat→Prop)(hT:∀q,T' q→T q∨q=i):
  Outs (((w.setCell ⟨g,i*3,none⟩ (.int .i64 (s i).f)).setCell ⟨g,i*3+1,none⟩ (.int .i64 (s i).t)).setCell ⟨g,i*3+2,none⟩ (.int .i64 (s i).v)) g mm s T':=by
 obtain⟨cs,hB,hs,hc⟩:=h
 refine⟨_,((hB.set_ (i*3) (by omega) _).set_ (i*3+1) (by simp;omega) _).set_ (i*3+2) (by simp;omega) _,by simp [hs],fun q hq hqm j u hu=> ?_⟩
 have hj:j<3:=by
  obtain⟨h,_⟩:=List.getElem?_eq_some_iff.1 hu
  rw [encP_len]at h
  exact h
 by_cases e:q=i
 ·subst e
  match j,hj with
  |0,_=>
   simp only [encP,List.getElem?_cons_zero,Option.some.injEq]at hu
   subst hu
   show (_:Array Value)[q*3]? =_
   rw [Array.getElem?_setIfInBounds_ne (by omega),Array.getElem?_setIfInBounds_ne (by omega),Array.getElem?_setIfInBounds_self_of_lt (by omega)]
  |1,_=>
   simp only [encP,List.getElem?_cons_succ,List.getElem?_cons_zero,Option.some.injEq]at hu
   subst hu
   rw [Array.getElem?_setIfInBounds_ne (by omega),Array.getElem?_setIfInBounds_self_of_lt (by simp;omega)]
  |2,_=>
   simp only [encP,List.getElem?_cons_succ,List.getElem?_cons_zero,Option.some.injEq]at hu
   subst hu
   rw [Array.getElem?_setIfInBounds_self_of_lt (by simp;omega)]
 ·rcases hT q hq with h|h
  ·rw [Array.getElem?_setIfInBounds_ne (by omega),Array.getElem?_setIfInBounds_ne (by omega),Array.getElem?_setIfInBounds_ne (by omega)]
   exact hc q h hqm j u hu
  ·exact absurd h e
theorem Outs.all {w:World}{g mm:Nat}{s:Nat→Pc Int}{T:Nat→Prop}(h:Outs w g mm s T)(hT:∀i,i<mm→T i):Li 3 encP w (fun _=>True) (some ⟨g,0,none⟩) ((List.range mm).map s):=by
 obtain⟨cs,hB,hs,hc⟩:=h
 intro j x hj
 rw [List.getElem?_map]at hj
 have hjm:j<mm:=by
  rcases Nat.lt_or_ge j mm with h|h
  ·exact h
  ·rw [List.getElem?_eq_none (by simpa using h)]at hj;cases hj
 rw [List.getElem?_range hjm]at hj
 simp only [Option.map_some,Option.some.injEq]at hj
 subst hj
 exact⟨g,0,rfl,hB.1,trivial,fun i u hu=>by rw [hB.2.1,Nat.zero_add];exact hc j (hT j hjm) hjm i u hu⟩
structure FM (w:World)(S:List (Pc Int))(z:Int)(C:List Int)(As Ac:Option Addr)(gO gN mm:Nat)(N:List Nat)(T:Nat→Prop)(X:World):Prop where
 sp:Li 3 encP X (fun b=>b<gO) As S
 cu:Li 1 encI X (fun b=>b<gO) Ac C
 out:Outs X gO mm (seg S z C) T
 nx:Nx X gN N
 ni:NextInv N T mm
 be:Below w.heap.size w X
 lo:w.heap.size≤gO
 lt:gO<gN
 hi:gN<X.heap.size
section
variable {w:World}{S:List (Pc Int)}{z:Int}{C:List Int}{As Ac:Option Addr}{gO gN mm:Nat}{N N':List Nat}{T T':Nat→Prop}{X Y:World}
theorem FM.later (h:FM w S z C As Ac gO gN mm N T X)(hb:Below X.heap.size X Y):FM w S z C As Ac gO gN mm N T Y:=
 ⟨h.sp.later hb,h.cu.later hb,h.out.later hb h.out.lt,h.nx.later hb h.nx.lt,h.ni,h.be.trans (hb.mono h.be.size),h.lo,h.lt,Nat.lt_of_lt_of_le h.hi hb.size⟩
theorem FM.congr (h:FM w S z C As Ac gO gN mm N T X)(e:∀q,T q↔T' q):FM w S z C As Ac gO gN mm N T' X:=
 ⟨h.sp,h.cu,h.out.congr fun q hq=>(e q).2 hq,h.nx,h.ni.congr e,h.be,h.lo,h.lt,h.hi⟩
theorem FM.freed (h:FM w S z C As Ac gO gN mm N T X)(hn:Nx Y gN N')(hi:NextInv N' T mm)(hg:X.grownBy Y (some gN)):FM w S z C As Ac gO gN mm N' T Y:=
 ⟨h.sp.grown hg fun b hb e=>by injection e with e;have:=h.lt;omega,h.cu.grown hg fun b hb e=>by injection e with e;have:=h.lt;omega,h.out.grown hg (fun e=>by injection e with e;have:=h.lt;omega),hn,hi,h.be.grown hg h.be.size fun k hk=>by injection hk with hk;have:=h.lo;have:=h.lt;omega,h.lo,h.lt,Nat.lt_of_lt_of_le h.hi hg.size⟩
theorem FM.put (h:FM w S z C As Ac gO gN mm N T X){i:Nat}(hi:i<mm)(hT:∀q,T' q↔T q∨q=i)(q:Nat):
  FM w S z C As Ac gO gN mm (N.set i (i+1)) T' ((((((X.drewN q).setCell ⟨gO,i*3,none⟩ (.int .i64 (seg S z C i).f)).setCell ⟨gO,i*3+1,none⟩ (.int .i64 (seg S z C i).t)).setCell ⟨gO,i*3+2,none⟩ (.int .i64 (seg S z C i).v))).setCell ⟨gN,i,none⟩ (.int .i64 ((i+1:Nat):Int))):=by
 have h1:=h.later (selfDrew X q)
 have lt:=h.lt
 have lo:=h.lo
 have n0:∀j:Nat,(⟨gO,j,none⟩:Addr).block=gO:=fun _=>rfl
 refine⟨(((h1.sp.far (by simp) _).far (by simp) _).far (by simp) _).far (by simp;omega) _,(((h1.cu.far (by simp) _).far (by simp) _).far (by simp) _).far (by simp;omega) _,?_,?_,h.ni.take (by omega) hT,?_,lo,lt,by simp only [World.size_setCell];exact h1.hi⟩
 ·obtain⟨cs,hB,hx⟩:=h1.out.put hi T' (fun q hq=>(hT q).1 hq)
  exact⟨cs,hB.far (by simp;omega) _,hx⟩
 ·have hn:Nx ((((X.drewN q).setCell ⟨gO,i*3,none⟩ (.int .i64 (seg S z C i).f)).setCell ⟨gO,i*3+1,none⟩ (.int .i64 (seg S z C i).t)).setCell ⟨gO,i*3+2,none⟩ (.int .i64 (seg S z C i).v)) gN N:=by
   obtain⟨cs,hB,hc⟩:=h1.nx
   exact⟨cs,((hB.far (by simp;omega) _).far (by simp;omega) _).far (by simp;omega) _,hc⟩
  exact hn.set i (by rw [h.ni.1];omega) (i+1)
 ·exact(((h1.be.setCell (by simpa using lo) _).setCell (by simpa using lo) _).setCell (by simpa using lo) _).setCell (by simp;omega) _
end
def Tk (S:List (Pc Int))(C:List Int)(mm j:Nat)(i:Nat):Prop:=i<mm∧(pget (S.take j) (cAt C i)).isSome
theorem tk_zero (S:List (Pc Int))(C:List Int)(mm i:Nat):Tk S C mm 0 i↔False:=by simp [Tk,pget]
theorem tk_succ {S:List (Pc Int)}{C:List Int}{mm j fr tt:Nat}{x:Pc Int}(hx:S[j]? =some x)(hC:C.Pairwise (· < ·))(hl:C.length=mm+1)(hf:fr<C.length∧cAt C fr=x.f)(ht:tt<C.length∧cAt C tt=x.t+1)(i:Nat):
  Tk S C mm (j+1) i↔Tk S C mm j i∨(fr≤i∧i<tt):=by
 unfold Tk
 rw [take_snoc' hx,pget_append,pget_cons]
 have key:i<mm→((x.f≤cAt C i∧cAt C i≤x.t)↔(fr≤i∧i<tt)):=fun hi=>by
  constructor
  ·rintro⟨h1,h2⟩
   refine⟨?_,?_⟩
   ·rcases Nat.lt_or_ge i fr with h|h
    ·have:=cAt_lt hC h hf.1;omega
    ·exact h
   ·rcases Nat.lt_or_ge i tt with h|h
    ·exact h
    ·have:=cAt_le hC h (by omega);omega
  ·rintro⟨h1,h2⟩
   have a:=cAt_le hC h1 (show i<C.length by omega)
   have b:=cAt_lt hC h2 ht.1
   omega
 constructor
 ·rintro⟨hi,h⟩
  cases hp:pget (S.take j) (cAt C i)with
  |some v=>left;exact⟨hi,rfl⟩
  |none=>
   right
   rw [hp]at h
   by_cases hc:x.f≤cAt C i∧cAt C i≤x.t
   ·exact(key hi).1 hc
   ·rw [if_neg hc]at h
    simp [pget]at h
 ·rintro(⟨hi,h⟩|h)
  ·refine⟨hi,?_⟩
   cases hp:pget (S.take j) (cAt C i)with
   |some v=>rfl
   |none=>rw [hp]at h;cases h
  ·have hi:i<mm:=by omega
   refine⟨hi,?_⟩
   rw [if_pos ((key hi).2 h)]
   cases pget (S.take j) (cAt C i)<;>rfl
theorem seg_now {S:List (Pc Int)}{z:Int}{C:List Int}{mm j fr tt i:Nat}{x:Pc Int}(hx:S[j]? =some x)(hC:C.Pairwise (· < ·))(hl:C.length=mm+1)(hf:fr<C.length∧cAt C fr=x.f)(ht:tt<C.length∧cAt C tt=x.t+1)(h1:fr≤i)(h2:i<tt)(hn:¬Tk S C mm j i):(seg S z C i).v=x.v:=by
 have hi:i<mm:=by omega
 have a:=cAt_le hC h1 (show i<C.length by omega)
 have b:=cAt_lt hC h2 ht.1
 have e:S=S.take j++x::S.drop (j+1):=by
  have h:=List.take_append_drop j S
  obtain⟨hj,e⟩:=List.getElem?_eq_some_iff.1 hx
  rw [List.drop_eq_getElem_cons hj,e]at h
  exact h.symm
 have hp:pget (S.take j) (cAt C i)=none:=by
  cases hp:pget (S.take j) (cAt C i)with
  |none=>rfl
  |some v=>exact absurd ⟨hi,by rw [hp];rfl⟩ hn
 simp only [seg]
 rw [e,pget_append,hp,pget_cons,if_pos ⟨by omega,by omega⟩]
 rfl
open Go.RowKit
set_option maxHeartbeats 8000000 in
set_option maxRecDepth 100000 in
theorem flat_big (m:Nat)(z:Int)(A:Option Addr)(n c:Nat)(L:List (Pc Int))(w:World)(hL:LiV 3 encP w (fun _=>True) (.slice A n c) L)(hn:L.length≤10000)(hm1:1≤m)(hm:m≤10000000):
  Calls Tryz.prog 143 #[.int .i64 m,.int .i64 z,.slice A n c] w (fun e w'=>∃P,Flat m L z P∧P.length≤100000∧TellsO 134 3 encP P w e w'):=by
 obtain⟨rfl,hLi,_⟩:=hL.parts
 have HL:=Lib.hid hLi
 have T0:=Lib.hid (show Two w (some ⟨w.heap.size,0,none⟩) 2 2 [0,(m:Int)] none 0 0 [] (w.alloc (.cells #[.int .i64 0,.int .i64 m] 3))from
  ⟨by have:=own_newN w #[.int .i64 0,.int .i64 m] 3 1 2 rfl (by unfold maxLen;omega);exact this,World.ownsRow_nil _ _ _ _,fun b _ e=>(by cases e),(Below.refl _ _).alloc (Nat.le_refl _) _⟩)
 clear hL hLi
 go_enter Tryz.func143,Tryz.ntmps143
 go_wp2
 go_loopw [7,8,10,25] (fun cv fv _ i wr=>∃k:Nat,∃Ac nc cc Af nf cf,k≤L.length∧i= .int .i64 k∧cv= .slice Ac nc cc∧fv= .slice Af nf cf∧nf≤k∧nc≤2*k+2∧Hid (Two w Ac nc cc ([0,(m:Int)]++endsP (fits m (L.take k))) Af nf cf (fits m (L.take k)) wr)) (fun _ _ _ i _=>L.length -(intOf i).toNat)
 case atStart=>exact⟨0,_,2,2,none,0,0,Nat.zero_le _,rfl,rfl,rfl,Nat.le_refl _,Nat.le_refl _,T0.out⟩
 case round=>
  obtain⟨k,Ac,nc,cc,Af,nf,cf,hk,rfl,rfl,rfl,hnf,hnc,HT⟩:=hrel
  by_cases hlt:k<L.length
  ·obtain⟨x,b,o,hx,rfl,hbl,_,c0,c1,c2⟩:=(HL.out.later HT.out.be).piece hlt
   have HX:=Lib.hid (fits_snoc (m:=(m:Int)) hx)
   clear hx
   have TB:=Lib.hid (HT.out.later (X:=wr) (Y:=wr.alloc (.cells #[.int .i64 (max x.f 0),.int .i64 (min x.t ((m:Int) - 1)),.int .i64 x.v] 134)) (belAlloc _ _))
   have hz:=HT.out.be.size
   by_cases hft:max x.f 0≤min x.t ((m:Int) - 1)
   ·have HC:=Lib.hid (show fits (m:Int) (L.take (k+1))=fits (m:Int) (L.take k)++[⟨max x.f 0,min x.t ((m:Int) - 1),x.v⟩]by rw [HX.out,show clip (m:Int) x=some ⟨max x.f 0,min x.t ((m:Int) - 1),x.v⟩from if_pos hft];rfl)
    have hb1:0≤min x.t ((m:Int) - 1):=by omega
    have hb2:min x.t ((m:Int) - 1)≤10000000:=by omega
    have HB:=Lib.hid (And.intro (blk_new wr #[.int .i64 (max x.f 0),.int .i64 (min x.t ((m:Int) - 1)),.int .i64 x.v] 134) HT.out.far.1)
    go_wp2_with (at_builtin;first
     |(refine wpList_push piece_elt TB.out.fi (by simp;omega) rfl rfl rfl rfl (by simp) rfl rfl (by unfold maxLen;omega) (by omega) ?_;intro A3 c3 w3 hp;have H3:=Lib.hid (TB.out.pushF (p:=⟨max x.f 0,min x.t ((m:Int) - 1),x.v⟩) hp rfl);obtain⟨y3,k3,j3⟩:=(show _ from HB.out.1.grown hp.grown HB.out.2);have hz3:=hp.grown.size;simp only [World.size_alloc]at hz3;clear hp)
     |(refine wpList_pushM int_elt H3.out.cu (by omega) rfl rfl rfl rfl (by simp) rfl rfl (by unfold maxLen;omega) (by omega) ?_;intro A4 c4 w4 hp;have H4:=Lib.hid (H3.out.pushC (M:=[max x.f 0,min x.t ((m:Int) - 1)+1]) hp rfl);clear hp))
    go_roundw
    case rel=>exact⟨k+1,_,_,_,_,_,_,by omega,by go_num,rfl,rfl,by omega,by omega,by rw [HC.out,endsP_snoc,←List.append_assoc];exact H4.out⟩
    case measure=>simp [intOf];omega
   ·have HC:=Lib.hid (show fits (m:Int) (L.take (k+1))=fits (m:Int) (L.take k)by rw [HX.out,show clip (m:Int) x=none from if_neg hft];simp)
    go_wp2_with fail
    go_roundw
    case rel=>exact⟨k+1,_,_,_,_,_,_,by omega,by go_num,rfl,rfl,by omega,by omega,by rw [HC.out];exact TB.out⟩
    case measure=>simp [intOf];omega
  ·obtain rfl:k=L.length:=by omega
   rw [List.take_length]at HT
   have hlF:=own_count encP_len (by decide) HT.out.fi
   have hlC:=own_count encI_len (by decide) HT.out.cu
   rw [List.length_append,endsP_len,hlF]at hlC
   have hlC2:2+2*nf=nc:=hlC
   have hz:=HT.out.be.size
   go_wp2_with (at_builtin;(refine wpList_push piece_elt HT.out.fi hz rfl rfl rfl rfl (by simp) rfl rfl (by unfold maxLen;omega) (by omega) ?_;intro A3 c3 w3 hp;have H3:=Lib.hid (HT.out.pushF (p:=⟨0,(m:Int) - 1,z⟩) hp rfl);clear hp))
   obtain⟨g,rfl,hgb,hgs,hnc',hcm,hH⟩:=holds_own H3.out.cu (by omega)
   obtain⟨Cs,hCs⟩:∃Cs,[0,(m:Int)]++endsP (fits (m:Int) L)=Cs:=⟨_,rfl⟩
   have hcl:Cs.length=nc:=by rw [←hCs,List.length_append,endsP_len,hlF];exact hlC2
   have hcut:sortedOnce Cs=cutsP m (fits (m:Int) L):=by rw [←hCs];rfl
   rw [hCs]at hH H3
   have c1:=sort_ints g 0 cc Cs w3 hH hgs (by omega)
   rw [hcl]at c1
   have C1:=Lib.hid c1
   clear c1
   have C2:=Lib.hid (show ∀Y n os,Y=Go.Sort.grow (Go.Sort.putRow (Value.int .i64) (Go.Sort.ahead w3 n) g 0 (Cs.mergeSort fun x y=>decide (x≤y)).toArray) os→Calls Tryz.prog 99 #[.slice (some ⟨g,0,none⟩) nc cc] Y fun e w'=>e= .returned (.slice (some ⟨g,0,none⟩) (sortedOnce Cs).length cc)∧Two w (some ⟨g,0,none⟩) (sortedOnce Cs).length cc (sortedOnce Cs) A3 (nf+1) c3 (fits (m:Int) L++[⟨0,(m:Int) - 1,z⟩]) w' from by
    intro Y n os hY
    have hml:(Cs.mergeSort fun x y=>decide (x≤y)).length=nc:=by rw [List.length_mergeSort,hcl]
    have hs:=own_sorted (os:=os) (q:=n) H3.out.cu H3.out.be H3.out.be.size hml
    rw [←hY]at hs
    obtain⟨g',e,_,h2,h3,h4,h5⟩:=holds_own hs.1 (by omega)
    injection e with e
    injection e with e
    subst e
    have:=compact_ints g 0 cc _ Y h5 (by omega) (by omega)
    rw [hml]at this
    refine this.mono ?_
    rintro e w' ⟨rfl,q,rfl⟩
    exact⟨rfl,H3.out.sorted (q:=q) (by omega) Y hY _ (by rw [hml];rfl)⟩)
   have HC:=Lib.hid (And.intro (cutsP_ok m L z) hcut)
   have hcb:(sortedOnce Cs).length≤30000:=by have:=sortedOnce_len Cs;have:=fits_len (m:Int) L;omega
   clear H3 hH hlC hlC2 hlF hcut hCs hgs hcl
   obtain⟨C,hCe⟩:∃C,sortedOnce Cs=C:=⟨_,rfl⟩
   rw [hCe]at C2 HC hcb
   clear hCe
   go_wp2_with fail
   refine C1.out.mono ?_
   rintro e w4 ⟨rfl,n,os,hY⟩
   have C3:=Lib.hid (C2.out w4 n os hY)
   clear hY C2 C1
   go_wp2_with fail
   refine C3.out.mono ?_
   rintro e w5 ⟨rfl,hT⟩
   have H5:=Lib.hid hT
   clear hT C3
   obtain⟨S,hS⟩:∃S,fitz (m:Int) L z=S:=⟨_,rfl⟩
   have hCC:Cuts S C:=by rw [←hS,HC.out.2];exact HC.out.1
   have hE:=cuts_ends (m:=(m:Int)) (L:=L) (z:=z) (C:=C) (by rw [hS];exact hCC) (by omega)
   obtain⟨mm,hmm⟩:∃mm,C.length=mm+1:=⟨C.length - 1,by omega⟩
   have hmm1:1≤mm:=by omega
   have hSl:S.length=nf+1:=by have:=own_count encP_len (by decide) H5.out.fi;rw [←hS];exact this
   have h5:=H5.out.fi
   rw [show fits (m:Int) L++[(⟨0,(m:Int) - 1,z⟩:Pc Int)]=S from hS]at h5
   have H5a:=Lib.hid (And.intro H5.out.cu (And.intro h5 H5.out.be))
   rw [hmm]at hcb H5a hE
   have HQ:=Lib.hid (And.intro hCC (And.intro hE (And.intro hS (And.intro hSl hmm))))
   clear h5 H5 hCC hE hSl HC HT
   rw [hmm]
   clear hmm hS
   obtain⟨i0,hi0,hz0,hs0,hb0⟩:=info_parts (P:= Tryz.prog) (e:= 134) (z:= .agg #[.int .i64 0,.int .i64 0,.int .i64 0]) (size:=3) (bytes:=24) (by kernel_rfl)
   obtain⟨i1,hi1,hz1,hs1,hb1⟩:=info_parts (P:= Tryz.prog) (e:= 3) (z:= .int .i64 0) (size:=1) (bytes:=8) (by kernel_rfl)
   go_wp2_with (at_make;first
    |(refine wpList_make_full w5 rfl _ _ _ rfl w5.heap.size 134 i0 _ 3 Tryz.underlying132 hi0 hz0 hs0 .i64 .i64 _ _ mm rfl rfl rfl rfl (by rw [hb0];omega) (by unfold maxLen;omega) (Nat.le_refl _) ?_;intro w6 hown hg;have H6:=Lib.hid (And.intro hown hg);clear hown hg)
    |(refine wpList_make_full w6 rfl _ _ _ rfl w6.heap.size 3 i1 _ 1 Tryz.underlying37 hi1 hz1 hs1 .i64 .i64 _ _ (mm+1) rfl rfl rfl rfl (by rw [hb1];omega) (by unfold maxLen;omega) (Nat.le_refl _) ?_;intro w7 hown hg;have H7:=Lib.hid (And.intro hown hg);clear hown hg))
   obtain⟨g6,cs6,e1,_,hB6,_,_,hsz6,_⟩:=own_blk H6.out.1 (by omega)
   injection e1 with e1
   injection e1 with e1
   subst e1
   obtain⟨g7,cs7,e1,_,hB7,_,_,hsz7,_⟩:=own_blk H7.out.1 (by omega)
   injection e1 with e1
   injection e1 with e1
   subst e1
   have b56:Below w5.heap.size w5 w6:=(Below.refl _ _).grown H6.out.2 (Nat.le_refl _) (fun k hk=>by cases hk)
   have b67:Below w6.heap.size w6 w7:=(Below.refl _ _).grown H7.out.2 (Nat.le_refl _) (fun k hk=>by cases hk)
   have b57:Below w5.heap.size w5 w7:=b56.trans (b67.mono b56.size)
   have H8:=Lib.hid (show NxP w7 w6.heap.size mm 0∧Li 3 encP w7 (fun b=>b<w5.heap.size) A3 S∧Li 1 encI w7 (fun b=>b<w5.heap.size) (some ⟨g,0,none⟩) C∧Outs w7 w5.heap.size mm (seg S z C) (fun _=>False)∧Below w.heap.size w w7∧w6.heap.size<w7.heap.size from
    ⟨⟨cs7,hB7,by omega,fun j hj=>absurd hj (by omega)⟩,((LiV.own encP_len (by decide) H5a.out.2.1).parts.2.1.old.mono fun b hb=>hb.1).later b57,((LiV.own encI_len (by decide) H5a.out.1).parts.2.1.old.mono fun b hb=>hb.1).later b57,⟨cs6,hB6.later b67 hB6.1,hsz6,fun i h=>h.elim⟩,H5a.out.2.2.trans (b57.mono H5a.out.2.2.size),hB7.1⟩)
   have hlo:=H5a.out.2.2.size
   have hOw:=hB6.1
   have hgcap:=(LiV.own encI_len (by decide) H5a.out.1).parts.2.2.2
   have hscap:=(LiV.own encP_len (by decide) H5a.out.2.1).parts.2.2.2
   have hccap1:=hgcap.1
   have hccap2:=hgcap.2
   have hscap1:=hscap.1
   have hscap2:=hscap.2
   clear hgcap hscap
   rw [HQ.out.2.2.2.2]at hccap1
   rw [HQ.out.2.2.2.1]at hscap1
   clear hB6 hB7 hsz6 hsz7 b56 b67 b57 H6 H7 H5a hi0 hz0 hs0 hb0 hi1 hz1 hs1 hb1
   obtain⟨gO,hgO⟩:∃gO,w5.heap.size=gO:=⟨_,rfl⟩
   obtain⟨gN,hgN⟩:∃gN,w6.heap.size=gN:=⟨_,rfl⟩
   rw [hgO]at H8 hlo hOw ⊢
   rw [hgN]at H8 hOw ⊢
   clear hgO hgN
   go_loopw [13,77] (fun _ i wr=>∃k:Nat,k≤mm+1∧i= .int .i64 k∧Hid (NxP wr gN mm k∧Li 3 encP wr (fun b=>b<gO) A3 S∧Li 1 encI wr (fun b=>b<gO) (some ⟨g,0,none⟩) C∧Outs wr gO mm (seg S z C) (fun _=>False)∧Below w.heap.size w wr∧gN<wr.heap.size)) (fun _ i _=>mm+1 -(intOf i).toNat)
   case atStart=>exact⟨0,Nat.zero_le _,rfl,H8.out⟩
   case round=>
    obtain⟨k,hk,rfl,HN⟩:=hrel
    by_cases hlt:k<mm+1
    ·obtain⟨u,hcu⟩:=HN.out.1.cellAny hlt
     have hfr:wr.frozen? ⟨gN,k,none⟩=false:=by obtain⟨cs,hB,_⟩:=HN.out.1;exact hB.2.2 k
     have hgl:gN<wr.heap.size:=HN.out.2.2.2.2.2
     have HY:=Lib.hid (show NxP (wr.setCell ⟨gN,k,none⟩ (.int .i64 (k:Int))) gN mm (k+1)∧Li 3 encP (wr.setCell ⟨gN,k,none⟩ (.int .i64 (k:Int))) (fun b=>b<gO) A3 S∧Li 1 encI (wr.setCell ⟨gN,k,none⟩ (.int .i64 (k:Int))) (fun b=>b<gO) (some ⟨g,0,none⟩) C∧Outs (wr.setCell ⟨gN,k,none⟩ (.int .i64 (k:Int))) gO mm (seg S z C) (fun _=>False)∧Below w.heap.size w (wr.setCell ⟨gN,k,none⟩ (.int .i64 (k:Int)))∧gN<(wr.setCell ⟨gN,k,none⟩ (.int .i64 (k:Int))).heap.size from
      ⟨HN.out.1.set hlt,HN.out.2.1.far (by simp;omega) _,HN.out.2.2.1.far (by simp;omega) _,(by obtain⟨cs,hB,hx⟩:=HN.out.2.2.2.1;exact⟨cs,hB.far (by simp;omega) _,hx⟩),HN.out.2.2.2.2.1.setCell (by simp;omega) _,by rw [World.size_setCell];exact HN.out.2.2.2.2.2⟩)
     clear HN
     go_wp2
     go_roundw
     case rel=>exact⟨k+1,by omega,by go_num,HY.out⟩
     case measure=>simp [intOf];omega
    ·obtain rfl:k=mm+1:=by omega
     have HM:=Lib.hid (show FM w S z C A3 (some ⟨g,0,none⟩) gO gN mm (List.range (mm+1)) (Tk S C mm 0) wr from(FM.congr (T:=fun _=>False) ⟨HN.out.2.1,HN.out.2.2.1,HN.out.2.2.2.1,HN.out.1.done,nextInv_start _,HN.out.2.2.2.2.1,hlo,hOw,HN.out.2.2.2.2.2⟩ fun q=>(tk_zero S C mm q).symm))
     clear HN hlt H8
     go_wp2_with fail
     go_loopw [15,16,17,18,19,20,87] (fun _ _ _ _ _ _ i wr=>∃j:Nat,j≤nf+1∧i= .int .i64 j∧Hid (∃N,FM w S z C A3 (some ⟨g,0,none⟩) gO gN mm N (Tk S C mm j) wr)) (fun _ _ _ _ _ _ i _=>nf+1 -(intOf i).toNat)
     case atStart=>exact⟨0,Nat.zero_le _,rfl,⟨_,HM.out⟩⟩
     case round=>
      obtain⟨j,hj,rfl,HJ⟩:=hrel
      obtain⟨N,hM⟩:=HJ.out
      have M1:=Lib.hid hM
      clear hM HJ HM
      by_cases hlt:j<nf+1
      ·obtain⟨x,b,o,hx,rfl,hbl,_,c0,c1,c2⟩:=M1.out.sp.piece (show j<S.length by rw [HQ.out.2.2.2.1];exact hlt)
       have hxm:x∈S:=List.mem_of_getElem? hx
       have xb:=fitz_bd (m:=(m:Int)) (by omega) (show x∈fitz (m:Int) L z by rw [HQ.out.2.2.1];exact hxm)
       have xb1:=xb.1
       have xb2:=xb.2.1
       have xb3:=xb.2.2
       have hf:=count_at HQ.out.1.1 ((HQ.out.1.2 x.f).2 ⟨x,hxm,.inl rfl⟩)
       have ht:=count_at HQ.out.1.1 ((HQ.out.1.2 (x.t+1)).2 ⟨x,hxm,.inr rfl⟩)
       obtain⟨fr,hfe⟩:∃fr,C.countP (fun c=>decide (c<x.f))=fr:=⟨_,rfl⟩
       obtain⟨tt,hte⟩:∃tt,C.countP (fun c=>decide (c<x.t+1))=tt:=⟨_,rfl⟩
       rw [hfe]at hf
       rw [hte]at ht
       have hf1:fr≤mm:=by have:=hf.1;rw [HQ.out.2.2.2.2]at this;omega
       have ht1:tt≤mm:=by have:=ht.1;rw [HQ.out.2.2.2.2]at this;omega
       have HF:=Lib.hid (And.intro hf (And.intro ht (And.intro hfe hte)))
       have HX:=Lib.hid hx
       clear hx hxm xb hf ht hfe hte
       go_wp2_with fail
       refine atCalls (fun X=>Below wr.heap.size wr X∧Blk X wr.heap.size (encP x).toArray) ⟨(Below.refl _ _).alloc (Nat.le_refl _) _,blk_new _ _ _⟩ ?_
       rintro X ⟨hX,hB⟩
       have l0:X.cell? ⟨wr.heap.size,0,none⟩=some (.int .i64 x.f):=hB.2.1 0
       have l1:X.cell? ⟨wr.heap.size,1,none⟩=some (.int .i64 x.t):=hB.2.1 1
       have KB:=Lib.hid hB
       have M2:=Lib.hid (M1.out.later hX)
       clear hX hB c0 c1 c2
       obtain⟨b2,o2,e2,hb2,_,hci⟩:=M2.out.cu.ints (by rw [HQ.out.2.2.2.2];omega)
       injection e2 with e2
       injection e2 with e3 e4
       subst e3;subst e4
       have hle:(C.take (mm+1)).Pairwise (· ≤ ·):=by rw [←HQ.out.2.2.2.2,List.take_length];exact HQ.out.1.1.imp fun h=>Int.le_of_lt h
       have s1:=search_ints g 0 (mm+1) cc C x.f X (Nat.le_of_eq HQ.out.2.2.2.2.symm) (by omega) hci hle
       have s2:=fun q=>search_ints g 0 (mm+1) cc C (x.t+1) (X.drewN q) (Nat.le_of_eq HQ.out.2.2.2.2.symm) (by omega) hci hle
       have htake:C.take (mm+1)=C:=by rw [←HQ.out.2.2.2.2,List.take_length]
       rw [htake,HF.out.2.2.1]at s1
       simp only [htake,HF.out.2.2.2]at s2
       have S1:=Lib.hid s1
       have S2:=Lib.hid s2
       clear s1 s2 hle hci htake
       refine S1.out.mono ?_
       rintro e w8 ⟨rfl,q4,rfl⟩
       go_wp2_with fail
       refine(S2.out q4).mono ?_
       rintro e w9 ⟨rfl,q5,rfl⟩
       clear S1 S2
       go_wp2_with fail
       refine atCalls (fun Y=>FM w S z C (some ⟨b,o,none⟩) (some ⟨g,0,none⟩) gO gN mm N (Tk S C mm j) Y∧Blk Y wr.heap.size (encP x).toArray) ⟨M2.out.later (selfDrew _ _),KB.out⟩ ?_
       rintro Y ⟨hM,hB⟩
       have hwr:gN<wr.heap.size:=M1.out.hi
       have R1:=free_any gN (mm+1) mm fr N (Tk S C mm j) Y hM.nx hM.ni hf1 (by omega)
       have R2:=Lib.hid (R1.mono fun e w' (h:∃ (r:Nat) (N':List Nat),e= .returned (.int .i64 r)∧FreeAt (Tk S C mm j) mm fr r∧NextInv N' (Tk S C mm j) mm∧Nx w' gN N'∧Y.grownBy w' (some gN))=>
        (show ∃r:Nat,e= .returned (.int .i64 r)∧fr≤r∧r≤mm∧Hid (∃N',FM w S z C (some ⟨b,o,none⟩) (some ⟨g,0,none⟩) gO gN mm N' (fun q=>Tk S C mm j q∨(fr≤q∧q<r∧q<tt)) w'∧¬Tk S C mm j r∧(∀q,fr≤q→q<r→Tk S C mm j q∨(fr≤q∧q<r∧q<tt))∧Blk w' wr.heap.size (encP x).toArray)from by
         obtain⟨r,N',e1,⟨f1,f2,f3,f4⟩,e3,e4,e5⟩:=h
         exact⟨r,e1,f1,f2,⟨N',(hM.freed e4 e3 e5).congr (fun q=>⟨.inl,fun h=>h.elim id fun h=>f4 q h.1 h.2.1⟩),f3,fun q a b=> .inl (f4 q a b),hB.grown e5 (fun e=>by injection e with e;omega)⟩⟩))
       clear R1 hM hB M2 KB
       refine R2.out.mono ?_
       rintro e w10 ⟨r,rfl,hr1,hr2,HR⟩
       clear R2
       obtain⟨B,hBe⟩:∃B,wr.heap.size=B:=⟨_,rfl⟩
       rw [hBe]at HR hwr
       go_wp2_with fail
       clear hBe l0 l1
       go_loopw [20] (fun iv wq=>∃i:Nat,iv= .int .i64 i∧fr≤i∧i≤mm∧Hid (∃N',FM w S z C (some ⟨b,o,none⟩) (some ⟨g,0,none⟩) gO gN mm N' (fun q=>Tk S C mm j q∨(fr≤q∧q<i∧q<tt)) wq∧¬Tk S C mm j i∧(∀q,fr≤q→q<i→Tk S C mm j q∨(fr≤q∧q<i∧q<tt))∧Blk wq B (encP x).toArray)) (fun iv _=>mm -(intOf iv).toNat)
       case atStart=>exact⟨r,rfl,hr1,hr2,HR.out⟩
       case round=>
        obtain⟨i,rfl,hi1,hi2,HI⟩:=hrel
        obtain⟨N',hM,hni,hall,hB⟩:=HI.out
        have HM:=Lib.hid (And.intro hM (And.intro hni (And.intro hall hB)))
        clear hM hni hall hB HI HR
        by_cases hit:i<tt
        ·have hClen:=HQ.out.2.2.2.2
         obtain⟨b2,o2,e2,hb2,_,hc0⟩:=HM.out.1.cu.int (j:=i) (by omega)
         injection e2 with e2
         injection e2 with e3 e4
         subst e3;subst e4
         obtain⟨b2,o2,e2,_,_,hc1⟩:=HM.out.1.cu.int (j:=i+1) (by omega)
         injection e2 with e2
         injection e2 with e3 e4
         subst e3;subst e4
         have hTk:¬Tk S C mm j i:=HM.out.2.1
         have hsv:=seg_now (z:=z) HX.out HQ.out.1.1 hClen HF.out.1 HF.out.2.1 hi1 hit hTk
         obtain⟨u,hu⟩:∃u,C.getD i 0=u:=⟨_,rfl⟩
         obtain⟨v,hv⟩:∃v,C.getD (i+1) 0=v:=⟨_,rfl⟩
         have hcb:∀q,q≤mm→0≤cAt C q∧cAt C q≤m:=fun q hq=>by
          have a:=cAt_le HQ.out.1.1 (Nat.zero_le q) (show q<C.length by omega)
          have b:=cAt_le HQ.out.1.1 hq (show mm<C.length by omega)
          have c1:=HQ.out.2.1.2.1
          have c2:=HQ.out.2.1.2.2
          simp only [Nat.add_sub_cancel]at c2
          omega
         have hub:=hcb i (by omega)
         have hvb:=hcb (i+1) (by omega)
         have hP:=HM.out.1.put (i:=i) (by omega) (T':=fun q=>(Tk S C mm j q∨(fr≤q∧q<i∧q<tt))∨q=i) (fun q=>Iff.rfl) 1
         have es1:(seg S z C i).f=u:=hu
         have es2:(seg S z C i).t=v - 1:=by rw [←hv];rfl
         rw [es1,es2,hsv,show ((i+1:Nat):Int)=(i:Int)+1 by omega]at hP
         unfold cAt at hub hvb
         rw [hu]at hc0 hub
         rw [hv]at hc1 hvb
         rw [Nat.zero_add]at hc0 hc1
         have hu0:=hub.1
         have hu1:=hub.2
         have hv0:=hvb.1
         have hv1:=hvb.2
         obtain⟨a0,a1,a2,g0,g1,g2,f0,f1,f2⟩:=HM.out.1.out.cells (i:=i) (by omega)
         have ob:=HM.out.1.out.lt
         have nb:=HM.out.1.nx.lt
         have ltb:=HM.out.1.lt
         have n3c:=HM.out.1.nx.cell (j:=i) (by rw [HM.out.1.ni.1];omega)
         have n3f:=HM.out.1.nx.free i
         have lB:=HM.out.2.2.2
         have l2:wr.cell? ⟨B,2,none⟩=some (.int .i64 x.v):=lB.2.1 2
         have lBl:=lB.1
         have hlo':=HM.out.1.lo
         have hNe:gO≠gN:=by omega
         have hi3:(i:Int)+1<(mm:Int)+1:=by omega
         have hi4:(i:Int)<(mm:Int)+1:=by omega
         have hi4':(i:Int)<(mm:Int):=by omega
         have hi5:(0:Int)≤(i:Int):=by omega
         have hi6:(0:Int)≤(i:Int)+1:=by omega
         have hi7:((i:Int)+1).toNat=i+1:=by omega
         have HP:=Lib.hid (And.intro hP ((((lB.drewN 1).far (p:=⟨gO,i*3,none⟩) (by simp;omega) (.int .i64 u)).far (p:=⟨gO,i*3+1,none⟩) (by simp;omega) (.int .i64 (v - 1))).far (p:=⟨gO,i*3+2,none⟩) (by simp;omega) (.int .i64 x.v) |>.far (p:=⟨gN,i,none⟩) (by simp;omega) (.int .i64 ((i:Int)+1))))
         have hi8:IntKind.i64.wrap ((i:Int)+1)=(i:Int)+1:=IntWalk.i64_in _ (by omega)
         have hi9:IntKind.i64.wrap (v - 1)=v - 1:=IntWalk.i64_in _ (by omega)
         clear hP hTk hsv hu hv hcb hub hvb es1 es2 lB hClen
         go_wp2_with fail
         go_still_tail 16,(by kernel_rfl)
         change wpList _ _ _ _ _ wr.drew
         clear hi8 hi9 hi7
         go_wp2_with fail
         refine atCalls (fun Z=>FM w S z C (some ⟨b,o,none⟩) (some ⟨g,0,none⟩) gO gN mm (N'.set i (i+1)) (fun q=>(Tk S C mm j q∨(fr≤q∧q<i∧q<tt))∨q=i) Z∧Blk Z B (encP x).toArray) HP.out ?_
         rintro Z ⟨hM,hB⟩
         have R1:=free_any gN (mm+1) mm i (N'.set i (i+1)) (fun q=>(Tk S C mm j q∨(fr≤q∧q<i∧q<tt))∨q=i) Z hM.nx hM.ni (by omega) (by omega)
         have R2:=Lib.hid (R1.mono fun e w' (h:∃ (r:Nat) (N'':List Nat),e= .returned (.int .i64 r)∧FreeAt (fun q=>(Tk S C mm j q∨(fr≤q∧q<i∧q<tt))∨q=i) mm i r∧NextInv N'' (fun q=>(Tk S C mm j q∨(fr≤q∧q<i∧q<tt))∨q=i) mm∧Nx w' gN N''∧Z.grownBy w' (some gN))=>
          (show ∃r:Nat,e= .returned (.int .i64 r)∧i<r∧r≤mm∧Hid (∃N',FM w S z C (some ⟨b,o,none⟩) (some ⟨g,0,none⟩) gO gN mm N' (fun q=>Tk S C mm j q∨(fr≤q∧q<r∧q<tt)) w'∧¬Tk S C mm j r∧(∀q,fr≤q→q<r→Tk S C mm j q∨(fr≤q∧q<r∧q<tt))∧Blk w' B (encP x).toArray)from by
           obtain⟨r,N'',e1,⟨f1,f2,f3,f4⟩,e3,e4,e5⟩:=h
           have hir:i<r:=by
            rcases Nat.lt_or_eq_of_le f1 with h|h
            ·exact h
            ·exact absurd (.inr h.symm) f3
           have hall2:∀q,fr≤q→q<r→Tk S C mm j q∨(fr≤q∧q<r∧q<tt):=fun q a b=>by
            rcases Nat.lt_or_ge q i with h|h
            ·rcases HM.out.2.2.1 q a h with h'|h'
             ·exact .inl h'
             ·exact .inr ⟨a,b,h'.2.2⟩
            ·rcases f4 q h b with(h'|h')|h'
             ·exact .inl h'
             ·exact .inr ⟨a,b,h'.2.2⟩
             ·exact .inr ⟨a,b,by omega⟩
           refine⟨r,e1,hir,f2,⟨N'',(hM.freed e4 e3 e5).congr (fun q=>⟨?_,?_⟩),fun h=>f3 (.inl (.inl h)),hall2,hB.grown e5 (fun e=>by injection e with e;omega)⟩⟩
           ·rintro((h|h)|h)
            ·exact .inl h
            ·exact .inr ⟨h.1,by omega,h.2.2⟩
            ·exact .inr ⟨by omega,by omega,by omega⟩
           ·rintro(h|h)
            ·exact .inl (.inl h)
            ·rcases Nat.lt_or_ge q i with h'|h'
             ·exact .inl (.inr ⟨h.1,h',h.2.2⟩)
             ·exact f4 q h' h.2.1))
         clear R1 hM hB HP HM
         refine R2.out.mono ?_
         rintro e w11 ⟨r',rfl,hr3,hr4,hR⟩
         clear R2
         go_wp2_with fail
         go_roundw
         case rel=>exact⟨r',rfl,by omega,hr4,hR⟩
         case measure=>simp [intOf];omega
        ·have hD:=HM.out.1.congr (T':=Tk S C mm (j+1)) (fun q=>by
          rw [tk_succ HX.out HQ.out.1.1 HQ.out.2.2.2.2 HF.out.1 HF.out.2.1]
          exact⟨fun h=>h.elim .inl fun h=> .inr ⟨h.1,h.2.2⟩,fun h=>h.elim .inl fun h=> .inr ⟨h.1,by omega,h.2⟩⟩)
         have HD:=Lib.hid hD
         clear hD HM
         go_wp2_with fail
         go_roundw
         case rel=>exact⟨j+1,by omega,by go_num,⟨N',HD.out⟩⟩
         case measure=>simp [intOf];omega
      ·obtain rfl:j=nf+1:=by omega
       have hmmC:=HQ.out.2.2.2.2
       have hcin:∀q,q<mm→0≤cAt C q∧cAt C q<m:=fun q hq=>by
        have a:=cAt_le HQ.out.1.1 (Nat.zero_le q) (show q<C.length by omega)
        have b:=cAt_lt HQ.out.1.1 hq (show mm<C.length by omega)
        have c1:=HQ.out.2.1.2.1
        have c2:=HQ.out.2.1.2.2
        simp only [Nat.add_sub_cancel]at c2
        omega
       have hallT:∀q,q<mm→Tk S C mm (nf+1) q:=fun q hq=>⟨hq,by
        rw [List.take_of_length_le (by rw [HQ.out.2.2.2.1];omega),←HQ.out.2.2.1,pget_fitz (m:Int) L z _ (hcin q hq).1 (hcin q hq).2]
        rfl⟩
       have hLi:=M1.out.out.all hallT
       have hseg:((List.range mm).map (seg S z C)).length=mm:=by simp
       have hT:Tile 0 (m:Int) ((List.range mm).map (seg S z C)):=by
        have:=segs_tile (S:=S) (z:=z) HQ.out.1.1 mm (by omega)
        have c1:=HQ.out.2.1.2.1
        have c2:=HQ.out.2.1.2.2
        simp only [Nat.add_sub_cancel]at c2
        rwa [c1,c2]at this
       have hV:Vals (pval L z) ((List.range mm).map (seg S z C)):=by
        intro p hp r h1 h2
        obtain⟨q,hq,rfl⟩:=List.mem_map.1 hp
        have hq':=List.mem_range.1 hq
        have:=segs_vals (m:=(m:Int)) (L:=L) (z:=z) (C:=C) (by rw [HQ.out.2.2.1];exact HQ.out.1) (by omega) (q:=q) (by omega) r
        rw [HQ.out.2.2.1]at this
        exact this h1 h2
       have J:=joined_any (some ⟨gO,0,none⟩) mm ((List.range mm).map (seg S z C)) (pval L z) m wr hLi (by omega) (by omega) hT hV (by omega)
       rw [hseg]at J
       have HJ:=Lib.hid J
       have HBe:=Lib.hid M1.out.be
       clear J hLi hT hV hallT hcin hseg M1 hmmC
       go_wp2_with fail
       refine HJ.out.mono ?_
       rintro e w9 ⟨P,hP,hPl,A9,n9,c9,rfl,ho,hb⟩
       have HE:=Lib.hid (show ∃P,Flat (m:Int) L z P∧P.length≤100000∧TellsO 134 3 encP P w (.returned (.slice A9 n9 c9)) w9 from⟨P,⟨hP.tile,hP.vals,hP.apt⟩,by omega,A9,n9,c9,rfl,ownLow ho HBe.out.size,HBe.out.trans (hb.mono HBe.out.size)⟩)
       clear ho hb hP HJ
       go_wp2_with fail
       go_ret
       exact HE.out
theorem flat_any (m:Nat)(z:Int)(A:Option Addr)(n c:Nat)(L:List (Pc Int))(w:World)(hL:LiV 3 encP w (fun _=>True) (.slice A n c) L)(hn:L.length≤10000)(hm1:1≤m)(hm:m≤10000000):
  Calls Tryz.prog 143 #[.int .i64 m,.int .i64 z,.slice A n c] w (fun e w'=>∃P,Flat m L z P∧TellsO 134 3 encP P w e w'):=
 (flat_big m z A n c L w hL hn hm1 hm).mono fun e w' ⟨P,h1,_,h2⟩=>⟨P,h1,h2⟩
end Go.Proofs.YtlopleeopnnoeaaGreat
