import Derived.Test.YtlopleeopnnoeaaGreatMb01
import Derived.Deep.QuietTactic
import Derived.BigQuiet
set_option linter.unusedVariables false
set_option linter.unusedSimpArgs false
namespace Go.Proofs.YtlopleeopnnoeaaGreat
open Go.RowKit
def TellsL {α:Type}(k:Nat)(enc:α→List Value)(L:List α)(w:World)(e:Ending)(w':World):Prop:=∃A n c,e= .returned (.slice A n c)∧LiV k enc w' (fun b=>w.heap.size≤b) (.slice A n c) L∧Below w.heap.size w w'
def TellsO {α:Type}(E:TypeId)(k:Nat)(enc:α→List Value)(L:List α)(w:World)(e:Ending)(w':World):Prop:=∃A n c,e= .returned (.slice A n c)∧w'.ownsRow w.heap.size E k (.slice A n c) n (flatL enc L)∧Below w.heap.size w w'
structure Grows {α:Type}(w:World)(E:TypeId)(k:Nat)(enc:α→List Value)(A:Option Addr)(n c:Nat)(D:List α)(X:World):Prop where
 own:X.ownsRow w.heap.size E k (.slice A n c) n (flatL enc D)
 below:Below w.heap.size w X
theorem Grows.start {α:Type}{enc:α→List Value}(w:World)(E:TypeId)(k:Nat):Grows w E k enc none 0 0 ([]:List α) w:=⟨World.ownsRow_nil _ _ _ _,Below.refl _ _⟩
theorem Grows.push {α:Type}{enc:α→List Value}{w X Y Z:World}{E:TypeId}{k n c c':Nat}{A A':Option Addr}{D:List α}{x:α}(h:Grows w E k enc A n c D X)(hb:Below X.heap.size X Y)(hp:Pushed Y Z w.heap.size E k (.slice A n c) (n+1) (flatL enc D++enc x) A' c'):Grows w E k enc A' (n+1) c' (D++[x]) Z:=
 ⟨by rw [flatL_snoc];exact hp.own,hp.below (h.below.trans (hb.mono h.below.size)) (own_later h.own hb) (Nat.le_refl _)⟩
theorem Grows.pushM {α:Type}{enc:α→List Value}{w X Y Z:World}{E:TypeId}{k n m c c':Nat}{A A':Option Addr}{D M:List α}{ys:List Value}(h:Grows w E k enc A n c D X)(hb:Below X.heap.size X Y)(hy:ys=flatL enc M)(hp:Pushed Y Z w.heap.size E k (.slice A n c) (n+m) (flatL enc D++ys) A' c'):Grows w E k enc A' (n+m) c' (D++M) Z:=
 ⟨by rw [flatL_append,←hy];exact hp.own,hp.below (h.below.trans (hb.mono h.below.size)) (own_later h.own hb) (Nat.le_refl _)⟩
theorem Grows.later {α:Type}{enc:α→List Value}{w X Y:World}{E:TypeId}{k n c:Nat}{A:Option Addr}{D:List α}(h:Grows w E k enc A n c D X)(hb:Below X.heap.size X Y):Grows w E k enc A n c D Y:=
 ⟨own_later h.own hb,h.below.trans (hb.mono h.below.size)⟩
theorem Grows.tells {α:Type}{enc:α→List Value}{w X:World}{E:TypeId}{k n c:Nat}{A:Option Addr}{D:List α}(h:Grows w E k enc A n c D X):TellsO E k enc D w (.returned (.slice A n c)) X:=⟨A,n,c,rfl,h.own,h.below⟩
theorem TellsO.li {α:Type}{enc:α→List Value}{E:TypeId}{k:Nat}{L:List α}{w w':World}{e:Ending}(hk:∀x,(enc x).length=k)(hk0:0<k)(h:TellsO E k enc L w e w'):TellsL k enc L w e w':=by
 obtain⟨A,n,c,e1,ho,hb⟩:=h
 exact⟨A,n,c,e1,LiV.own hk hk0 ho,hb⟩
theorem take_snoc' {α:Type}{L:List α}{j:Nat}{x:α}(h:L[j]? =some x):L.take (j+1)=L.take j++[x]:=by
 obtain⟨hj,e⟩:=List.getElem?_eq_some_iff.1 h
 rw [List.take_succ_eq_append_getElem hj,e]
structure Pc (τ:Type) where
 f:Int
 t:Int
 v:τ
section
variable {τ:Type}
def Pc.has (r:Int)(p:Pc τ):Bool:=decide (p.f≤r∧r≤p.t)
def pget (L:List (Pc τ))(r:Int):Option τ:=(L.find? (Pc.has r)).map Pc.v
theorem pget_cons (p:Pc τ)(L:List (Pc τ))(r:Int):pget (p::L) r=if p.f≤r∧r≤p.t then some p.v else pget L r:=by
 unfold pget
 by_cases h:p.f≤r∧r≤p.t
 ·rw [List.find?_cons_of_pos (by simpa [Pc.has]using h),if_pos h];rfl
 ·rw [List.find?_cons_of_neg (by simpa [Pc.has]using h),if_neg h]
theorem pget_append (S T:List (Pc τ))(r:Int):pget (S++T) r=(pget S r).or (pget T r):=by
 unfold pget
 rw [List.find?_append]
 cases S.find? (Pc.has r)<;>simp
theorem pget_some {L:List (Pc τ)}{r:Int}{x:τ}(h:pget L r=some x):∃p∈L,p.f≤r∧r≤p.t∧p.v=x:=by
 induction L with
 |nil=>cases h
 |cons p L ih=>
  rw [pget_cons]at h
  split at h
  ·rename_i hc
   injection h with h
   exact⟨p,by simp,hc.1,hc.2,h⟩
  ·obtain⟨q,hq,h1,h2,h3⟩:=ih h
   exact⟨q,by simp [hq],h1,h2,h3⟩
def clip (m:Int)(p:Pc τ):Option (Pc τ):=if max p.f 0≤min p.t (m - 1)then some ⟨max p.f 0,min p.t (m - 1),p.v⟩else none
def fits (m:Int)(L:List (Pc τ)):List (Pc τ):=L.filterMap (clip m)
def fitz (m:Int)(L:List (Pc τ))(z:τ):List (Pc τ):=fits m L++[⟨0,m - 1,z⟩]
theorem fits_bd {m:Int}{L:List (Pc τ)}{p:Pc τ}(h:p∈fits m L):0≤p.f∧p.f≤p.t∧p.t≤m - 1:=by
 obtain⟨x,_,hx⟩:=List.mem_filterMap.1 h
 unfold clip at hx
 split at hx
 ·rename_i hc
  injection hx with hx
  subst hx
  dsimp only
  omega
 ·cases hx
theorem fitz_bd {m:Int}(hm:1≤m){L:List (Pc τ)}{z:τ}{p:Pc τ}(h:p∈fitz m L z):0≤p.f∧p.f≤p.t∧p.t≤m - 1:=by
 rcases List.mem_append.1 h with h|h
 ·exact fits_bd h
 ·simp at h
  subst h
  dsimp only
  omega
theorem fits_snoc {m:Int}{L:List (Pc τ)}{k:Nat}{x:Pc τ}(h:L[k]? =some x):fits m (L.take (k+1))=fits m (L.take k)++(clip m x).toList:=by
 obtain⟨hk,e⟩:=List.getElem?_eq_some_iff.1 h
 rw [List.take_succ_eq_append_getElem hk,e,fits,List.filterMap_append]
 cases hc:clip m x<;>simp [fits,hc]
theorem fits_len (m:Int)(L:List (Pc τ)):(fits m L).length≤L.length:=List.length_filterMap_le _ _
theorem pget_fits (m:Int)(L:List (Pc τ))(r:Int)(h0:0≤r)(h1:r<m):pget (fits m L) r=pget L r:=by
 induction L with
 |nil=>rfl
 |cons p L ih=>
  rw [pget_cons]
  unfold fits at ih ⊢
  rw [List.filterMap_cons]
  cases hc:clip m p with
  |none=>
   unfold clip at hc
   split at hc
   ·cases hc
   ·show pget (List.filterMap (clip m) L) r=_
    rw [ih,if_neg (by omega)]
  |some q=>
   unfold clip at hc
   split at hc
   ·injection hc with hc
    subst hc
    show pget (_::List.filterMap (clip m) L) r=_
    rw [pget_cons,ih]
    dsimp only
    by_cases hp:p.f≤r∧r≤p.t
    ·rw [if_pos hp,if_pos (by omega)]
    ·rw [if_neg hp,if_neg (by omega)]
   ·cases hc
def pval (L:List (Pc τ))(z:τ)(r:Int):τ:=(pget L r).getD z
theorem pget_fitz (m:Int)(L:List (Pc τ))(z:τ)(r:Int)(h0:0≤r)(h1:r<m):pget (fitz m L z) r=some (pval L z r):=by
 unfold fitz pval
 rw [pget_append,pget_fits m L r h0 h1,pget_cons]
 cases pget L r with
 |some x=>rfl
 |none=>simp;intro h;omega
def cAt (C:List Int)(i:Nat):Int:=C.getD i 0
theorem cAt_lt {C:List Int}(h:C.Pairwise (· < ·)){i j:Nat}(hij:i<j)(hj:j<C.length):cAt C i<cAt C j:=by
 have:=List.pairwise_iff_getElem.1 h i j (by omega) hj hij
 simpa [cAt,List.getD,hj,show i<C.length by omega]using this
theorem cAt_le {C:List Int}(h:C.Pairwise (· < ·)){i j:Nat}(hij:i≤j)(hj:j<C.length):cAt C i≤cAt C j:=by
 rcases Nat.lt_or_eq_of_le hij with h1|rfl
 ·exact Int.le_of_lt (cAt_lt h h1 hj)
 ·exact Int.le_refl _
theorem cAt_mem {C:List Int}{i:Nat}(hi:i<C.length):cAt C i∈C:=by
 simp [cAt,List.getD,hi]
theorem count_at {C:List Int}(h:C.Pairwise (· < ·)){x:Int}(hx:x∈C):C.countP (fun c=>decide (c<x))<C.length∧cAt C (C.countP (fun c=>decide (c<x)))=x:=by
 induction C with
 |nil=>cases hx
 |cons c C ih=>
  obtain⟨hc,hp⟩:=List.pairwise_cons.1 h
  rcases List.mem_cons.1 hx with rfl|hx
  ·have h0:C.countP (fun c=>decide (c<x))=0:=by
    rw [List.countP_eq_zero]
    intro y hy
    have:=hc y hy
    simp;omega
   rw [List.countP_cons_of_neg (by simp),h0]
   exact⟨by simp,by simp [cAt]⟩
  ·have:=hc x hx
   rw [List.countP_cons_of_pos (by simpa using this)]
   obtain⟨i1,i2⟩:=ih hp hx
   exact⟨by simpa using i1,by simpa [cAt]using i2⟩
def Cuts (S:List (Pc τ))(C:List Int):Prop:=C.Pairwise (· < ·)∧∀c,c∈C↔∃s∈S,c=s.f∨c=s.t+1
theorem cuts_same {S:List (Pc τ)}{C:List Int}(h:Cuts S C){q:Nat}(hq:q+1<C.length){r:Int}(h1:cAt C q≤r)(h2:r<cAt C (q+1)){s:Pc τ}(hs:s∈S):(s.f≤r∧r≤s.t)↔(s.f≤cAt C q∧cAt C q≤s.t):=by
 have nb:∀x∈C,x≤cAt C q∨cAt C (q+1)≤x:=by
  intro x hx
  obtain⟨j,hj,hjx⟩:=List.getElem_of_mem hx
  have e:cAt C j=x:=by simp [cAt,List.getD,hj,hjx]
  rcases Nat.lt_or_ge q j with h'|h'
  ·right;rw [←e];exact cAt_le h.1 h' hj
  ·left;rw [←e];exact cAt_le h.1 h' (by omega)
 have b1:=nb s.f ((h.2 _).2 ⟨s,hs,.inl rfl⟩)
 have b2:=nb (s.t+1) ((h.2 _).2 ⟨s,hs,.inr rfl⟩)
 omega
theorem cuts_val {S:List (Pc τ)}{C:List Int}(h:Cuts S C){q:Nat}(hq:q+1<C.length){r:Int}(h1:cAt C q≤r)(h2:r<cAt C (q+1)):pget S r=pget S (cAt C q):=by
 have key:∀T:List (Pc τ),(∀s∈T,s∈S)→pget T r=pget T (cAt C q):=by
  intro T
  induction T with
  |nil=>intro _;rfl
  |cons s T ih=>
   intro hT
   have hs:=cuts_same h hq h1 h2 (hT s (by simp))
   rw [pget_cons,pget_cons,ih fun s hs=>hT s (by simp [hs])]
   by_cases hh:s.f≤r∧r≤s.t
   ·rw [if_pos hh,if_pos (hs.1 hh)]
   ·rw [if_neg hh,if_neg (fun h=>hh (hs.2 h))]
 exact key S fun _ h=>h
def seg (S:List (Pc τ))(z:τ)(C:List Int)(q:Nat):Pc τ:=⟨cAt C q,cAt C (q+1) - 1,(pget S (cAt C q)).getD z⟩
def Tile:Int→Int→List (Pc τ)→Prop
 |lo,hi,[]=>lo=hi
 |lo,hi,p::P=>p.f=lo∧p.f≤p.t∧Tile (p.t+1) hi P
theorem tile_append {lo hi:Int}{P Q:List (Pc τ)}:Tile lo hi (P++Q)↔∃m,Tile lo m P∧Tile m hi Q:=by
 induction P generalizing lo with
 |nil=>simp [Tile]
 |cons p P ih=>
  simp only [List.cons_append,Tile,ih]
  constructor
  ·rintro⟨h1,h2,m,h3,h4⟩
   exact⟨m,⟨h1,h2,h3⟩,h4⟩
  ·rintro⟨m,⟨h1,h2,h3⟩,h4⟩
   exact⟨h1,h2,m,h3,h4⟩
theorem tile_one {lo hi:Int}{x:Pc τ}:Tile lo hi [x]↔x.f=lo∧x.f≤x.t∧x.t+1=hi:=by simp [Tile]
theorem tile_snoc {lo hi:Int}{P:List (Pc τ)}{x:Pc τ}:Tile lo hi (P++[x])↔Tile lo x.f P∧x.f≤x.t∧x.t+1=hi:=by
 rw [tile_append]
 constructor
 ·rintro⟨m,h1,h2⟩
  obtain⟨h3,h4,h5⟩:=tile_one.1 h2
  rw [h3]
  exact⟨h1,by rw [←h3];exact h4,h5⟩
 ·rintro⟨h1,h2,h3⟩
  exact⟨x.f,h1,tile_one.2 ⟨rfl,h2,h3⟩⟩
theorem tile_le {lo hi:Int}{P:List (Pc τ)}(h:Tile lo hi P):lo≤hi:=by
 induction P generalizing lo with
 |nil=>exact Int.le_of_eq h
 |cons p P ih=>
  obtain⟨h1,h2,h3⟩:=h
  have:=ih h3
  omega
theorem tile_bd {lo hi:Int}{P:List (Pc τ)}(h:Tile lo hi P){p:Pc τ}(hp:p∈P):lo≤p.f∧p.f≤p.t∧p.t<hi:=by
 induction P generalizing lo with
 |nil=>cases hp
 |cons q P ih=>
  obtain⟨h1,h2,h3⟩:=h
  have:=tile_le h3
  rcases List.mem_cons.1 hp with rfl|hp
  ·omega
  ·have:=ih h3 hp
   omega
def Vals (g:Int→τ)(P:List (Pc τ)):Prop:=∀p∈P,∀r,p.f≤r→r≤p.t→g r=p.v
def Apt:List (Pc τ)→Prop
 |p::q::P=>p.v≠q.v∧Apt (q::P)
 |_=>True
theorem apt_snoc {P:List (Pc τ)}{y x:Pc τ}:Apt (P++[y]++[x])↔Apt (P++[y])∧y.v≠x.v:=by
 induction P with
 |nil=>simp [Apt]
 |cons p P ih=>
  cases P with
  |nil=>exact⟨fun h=>⟨⟨h.1,trivial⟩,h.2.1⟩,fun h=>⟨h.1.1,h.2,trivial⟩⟩
  |cons q P=>
   simp only [List.cons_append,Apt]at ih ⊢
   rw [ih]
   exact⟨fun h=>⟨⟨h.1,h.2.1⟩,h.2.2⟩,fun h=>⟨h.1.1,h.1.2,h.2⟩⟩
theorem apt_same {P:List (Pc τ)}{y x:Pc τ}(e:y.v=x.v):Apt (P++[y])→Apt (P++[x]):=by
 induction P with
 |nil=>simp [Apt]
 |cons p P ih=>
  cases P with
  |nil=>simp [Apt,e]
  |cons q P=>
   simp only [List.cons_append,Apt]at ih ⊢
   exact fun h=>⟨h.1,ih h.2⟩
variable [DecidableEq τ]
def jstep (out:List (Pc τ))(x:Pc τ):List (Pc τ):=
 match out.getLast? with
 |some y=>if y.v=x.v then out.dropLast++[⟨y.f,x.t,y.v⟩]else out++[x]
 |none=>[x]
theorem jstep_nil (x:Pc τ):jstep [] x=[x]:=rfl
theorem jstep_no {D:List (Pc τ)}{y x:Pc τ}(h:¬y.v=x.v):jstep (D++[y]) x=D++[y]++[x]:=by
 unfold jstep
 simp only [List.getLast?_append,List.getLast?_singleton,Option.some_or]
 rw [if_neg h]
theorem jstep_yes {D:List (Pc τ)}{y x:Pc τ}(h:y.v=x.v):jstep (D++[y]) x=D++[⟨y.f,x.t,y.v⟩]:=by
 unfold jstep
 simp only [List.getLast?_append,List.getLast?_singleton,Option.some_or]
 rw [if_pos h]
 simp
structure JI (g:Int→τ)(lo hi:Int)(out:List (Pc τ)):Prop where
 tile:Tile lo hi out
 vals:Vals g out
 apt:Apt out
theorem JI.step {g:Int→τ}{lo:Int}{out:List (Pc τ)}{x:Pc τ}(h:JI g lo x.f out)(hx:x.f≤x.t)(hv:∀r,x.f≤r→r≤x.t→g r=x.v):JI g lo (x.t+1) (jstep out x):=by
 rcases List.eq_nil_or_concat out with rfl|⟨D,y,rfl⟩
 ·have:=h.tile
  rw [jstep_nil]
  exact⟨tile_one.2 ⟨this.symm,hx,rfl⟩,fun p hp r h1 h2=>by simp at hp;subst hp;exact hv r h1 h2,trivial⟩
 ·rw [List.concat_eq_append]at h ⊢
  obtain⟨t1,t2,t3⟩:=tile_snoc.1 h.tile
  by_cases e:y.v=x.v
  ·rw [jstep_yes e]
   refine⟨tile_snoc.2 ⟨t1,by dsimp only;omega,rfl⟩,fun p hp r h1 h2=> ?_,apt_same (y:=y) rfl h.apt⟩
   rcases List.mem_append.1 hp with hp|hp
   ·exact h.vals p (by simp [hp]) r h1 h2
   ·simp at hp
    subst hp
    dsimp only at h1 h2 ⊢
    rcases Int.lt_or_le y.t r with hr|hr
    ·rw [hv r (by omega) h2,e]
    ·exact h.vals y (by simp) r h1 hr
  ·rw [jstep_no e]
   refine⟨tile_snoc.2 ⟨h.tile,hx,rfl⟩,fun p hp r h1 h2=> ?_,apt_snoc.2 ⟨h.apt,e⟩⟩
   rcases List.mem_append.1 hp with hp|hp
   ·exact h.vals p hp r h1 h2
   ·simp at hp
    subst hp
    exact hv r h1 h2
structure Flat (m:Int)(L:List (Pc τ))(z:τ)(P:List (Pc τ)):Prop where
 tile:Tile 0 m P
 vals:Vals (pval L z) P
 apt:Apt P
omit [DecidableEq τ]in
theorem segs_tile {S:List (Pc τ)}{z:τ}{C:List Int}(h:C.Pairwise (· < ·)):∀k,k<C.length→Tile (cAt C 0) (cAt C k) ((List.range k).map (seg S z C))
 |0,_=>rfl
 |k+1,hk=>by
  rw [List.range_succ,List.map_append]
  refine tile_snoc.2 ⟨segs_tile h k (by omega),?_,?_⟩
  ·have:=cAt_lt h (Nat.lt_succ_self k) hk
   simp only [Nat.succ_eq_add_one]at this
   simp only [seg];omega
  ·simp only [seg];omega
omit [DecidableEq τ]in
theorem segs_vals {m:Int}{L:List (Pc τ)}{z:τ}{C:List Int}(hC:Cuts (fitz m L z) C)(hm:1≤m){q:Nat}(hq:q+1<C.length):∀r,(seg (fitz m L z) z C q).f≤r→r≤(seg (fitz m L z) z C q).t→pval L z r=(seg (fitz m L z) z C q).v:=by
 intro r h1 h2
 simp only [seg]at h1 h2 ⊢
 have hb:∀c∈C,0≤c∧c≤m:=by
  intro c hc
  obtain⟨s,hs,h⟩:=(hC.2 c).1 hc
  have:=fitz_bd hm hs
  omega
 have b1:=hb _ (cAt_mem (show q<C.length by omega))
 have b2:=hb _ (cAt_mem hq)
 have e1:=pget_fitz m L z r (by omega) (by omega)
 have e2:=cuts_val hC hq h1 (show r<cAt C (q+1)by omega)
 rw [e1]at e2
 rw [←e2]
 rfl
omit [DecidableEq τ]in
theorem cuts_ends {m:Int}{L:List (Pc τ)}{z:τ}{C:List Int}(hC:Cuts (fitz m L z) C)(hm:1≤m):2≤C.length∧cAt C 0=0∧cAt C (C.length - 1)=m:=by
 have hb:∀c∈C,0≤c∧c≤m:=by
  intro c hc
  obtain⟨s,hs,h⟩:=(hC.2 c).1 hc
  have:=fitz_bd hm hs
  omega
 have h0:(0:Int)∈C:=(hC.2 0).2 ⟨⟨0,m - 1,z⟩,by simp [fitz],.inl rfl⟩
 have h1:m∈C:=(hC.2 m).2 ⟨⟨0,m - 1,z⟩,by simp [fitz],.inr (by dsimp only;omega)⟩
 obtain⟨i,hi,ei⟩:=List.getElem_of_mem h0
 obtain⟨j,hj,ej⟩:=List.getElem_of_mem h1
 have e1:cAt C i=0:=by simp [cAt,List.getD,hi,ei]
 have e2:cAt C j=m:=by simp [cAt,List.getD,hj,ej]
 have hij:i≠j:=by rintro rfl;omega
 have hl:2≤C.length:=by omega
 have a:=cAt_le hC.1 (Nat.zero_le i) hi
 have b:=cAt_le hC.1 (show j≤C.length - 1 by omega) (by omega)
 have c:=hb _ (cAt_mem (show 0<C.length by omega))
 have d:=hb _ (cAt_mem (show C.length - 1<C.length by omega))
 exact⟨hl,by omega,by omega⟩
end
open Go.RowKit
def encP (p:Pc Int):List Value:=[.int .i64 p.f,.int .i64 p.t,.int .i64 p.v]
theorem encP_len (p:Pc Int):(encP p).length=3:=rfl
theorem encP_one (p:Pc Int):∀u∈encP p,u.oneCell'=true:=by
 intro u hu
 simp only [encP,List.mem_cons,List.mem_nil_iff,or_false]at hu
 rcases hu with rfl|rfl|rfl<;>rfl
theorem piece_elt:Elt Tryz.prog 132 134 3 24:=elt_of Tryz.underlying132 (z:= .agg #[.int .i64 0,.int .i64 0,.int .i64 0]) (by kernel_rfl) rfl (by decide)
theorem int_elt:Elt Tryz.prog 37 3 1 8:=elt_of Tryz.underlying37 (z:= .int .i64 0) (by kernel_rfl) rfl (by decide)
theorem belAlloc (w:World)(o:Obj):Below w.heap.size w (w.alloc o):=(Below.refl _ _).alloc (Nat.le_refl _) _
theorem belPush {w v:World}(h:Below w.heap.size w v)(o:Obj):Below w.heap.size w (v.alloc o):=h.alloc h.size _
theorem belowStep {W w w':World}(h:Below W.heap.size W w)(h':Below w.heap.size w w'):Below W.heap.size W w':=h.trans (h'.mono h.size)
theorem Li.piece {w:World}{S:Nat→Prop}{A:Option Addr}{L:List (Pc Int)}(h:Li 3 encP w S A L){j:Nat}(hj:j<L.length):∃x b o,L[j]? =some x∧A=some ⟨b,o,none⟩∧b<w.heap.size∧S b∧
  w.cell? ⟨b,o+j*3,none⟩=some (.int .i64 x.f)∧w.cell? ⟨b,o+j*3+1,none⟩=some (.int .i64 x.t)∧w.cell? ⟨b,o+j*3+2,none⟩=some (.int .i64 x.v):=by
 obtain⟨b,o,e,hl,hs,hc⟩:=h.at hj
 exact⟨L[j],b,o,List.getElem?_eq_getElem hj,e,hl,hs,hc 0 _ rfl,by have:=hc 1 _ rfl;rwa [←Nat.add_assoc]at this,by have:=hc 2 _ rfl;rwa [←Nat.add_assoc]at this⟩
def NextInv (N:List Nat)(T:Nat→Prop)(m:Nat):Prop:=N.length=m+1∧∀j,j≤m→j≤N.getD j 0∧N.getD j 0≤m∧(N.getD j 0=j↔¬T j)∧∀q,j≤q→q<N.getD j 0→T q
theorem NextInv.set {N:List Nat}{T:Nat→Prop}{m i e:Nat}(h:NextInv N T m)(hi:i<e)(he:e≤m)(ht:∀q,i≤q→q<e→T q):NextInv (N.set i e) T m:=by
 refine⟨by simp [h.1],fun j hj=> ?_⟩
 have hl:=h.1
 by_cases hji:j=i
 ·subst hji
  have e1:(N.set j e).getD j 0=e:=by simp [List.getD,show j<N.length by omega]
  rw [e1]
  exact⟨by omega,he,⟨fun h'=>by omega,fun h'=>absurd (ht j (Nat.le_refl _) hi) h'⟩,ht⟩
 ·have e1:(N.set i e).getD j 0=N.getD j 0:=by simp [List.getD,List.getElem?_set,Ne.symm hji]
  rw [e1]
  exact h.2 j hj
theorem NextInv.take {N:List Nat}{T T':Nat→Prop}{m i:Nat}(h:NextInv N T m)(hi:i+1≤m)(ht:∀q,T' q↔T q∨q=i):NextInv (N.set i (i+1)) T' m:=by
 refine⟨by simp [h.1],fun j hj=> ?_⟩
 have hl:=h.1
 by_cases hji:j=i
 ·subst hji
  have e1:(N.set j (j+1)).getD j 0=j+1:=by simp [List.getD,show j<N.length by omega]
  rw [e1]
  exact⟨by omega,hi,⟨fun h'=>by omega,fun h'=>absurd ((ht j).2 (.inr rfl)) h'⟩,fun q h1 h2=>(ht q).2 (.inr (by omega))⟩
 ·have e1:(N.set i (i+1)).getD j 0=N.getD j 0:=by simp [List.getD,List.getElem?_set,Ne.symm hji]
  rw [e1]
  obtain⟨h1,h2,h3,h4⟩:=h.2 j hj
  exact⟨h1,h2,by rw [h3,ht];simp [hji],fun q a b=>(ht q).2 (.inl (h4 q a b))⟩
def Nx (w:World)(g:Nat)(N:List Nat):Prop:=∃cs,Blk w g cs∧∀j,j<N.length→cs[j]? =some (.int .i64 ((N.getD j 0:Nat):Int))
theorem Nx.cell {w:World}{g:Nat}{N:List Nat}(h:Nx w g N){j:Nat}(hj:j<N.length):w.cell? ⟨g,j,none⟩=some (.int .i64 ((N.getD j 0:Nat):Int)):=by
 obtain⟨cs,hB,hc⟩:=h
 rw [hB.2.1];exact hc j hj
theorem Nx.free {w:World}{g:Nat}{N:List Nat}(h:Nx w g N)(j:Nat):w.frozen? ⟨g,j,none⟩=false:=by
 obtain⟨cs,hB,hc⟩:=h
 exact hB.2.2 j
theorem Nx.lt {w:World}{g:Nat}{N:List Nat}(h:Nx w g N):g<w.heap.size:=by
 obtain⟨cs,hB,hc⟩:=h
 exact hB.1
theorem Nx.set {w:World}{g:Nat}{N:List Nat}(h:Nx w g N)(j:Nat)(hj:j<N.length)(u:Nat):Nx (w.setCell ⟨g,j,none⟩ (.int .i64 (u:Int))) g (N.set j u):=by
 obtain⟨cs,hB,hc⟩:=h
 have hjc:j<cs.size:=by
  have:=hc j hj
  rcases Nat.lt_or_ge j cs.size with h'|h'
  ·exact h'
  ·rw [Array.getElem?_eq_none h']at this;cases this
 refine⟨_,hB.set_ j hjc _,fun i hi=> ?_⟩
 simp at hi
 by_cases hij:j=i
 ·subst hij
  simp [hjc,List.getD,hj]
 ·rw [Array.getElem?_setIfInBounds_ne hij,hc i hi]
  simp [List.getD,List.getElem?_set,hij]
theorem Nx.later {w w':World}{g B:Nat}{N:List Nat}(h:Nx w g N)(hb:Below B w w')(hg:g<B):Nx w' g N:=by
 obtain⟨cs,hB,hc⟩:=h
 exact⟨cs,hB.later hb hg,hc⟩
theorem Nx.grown {w w':World}{g:Nat}{row:Option Nat}{N:List Nat}(h:Nx w g N)(hg:w.grownBy w' row)(hne:some g≠row):Nx w' g N:=by
 obtain⟨cs,hB,hc⟩:=h
 exact⟨cs,hB.grown hg hne,hc⟩
theorem grown_set (w:World)(g j:Nat)(u:Value):w.grownBy (w.setCell ⟨g,j,none⟩ u) (some g):=
 ⟨rfl,rfl,rfl,by rw [World.size_setCell];exact Nat.le_refl _,fun k _ hne=>Below.heap_setCell w ⟨g,j,none⟩ u k (fun e=>hne (by rw [e]))⟩
theorem grown_trans {a b c:World}{g:Nat}(h:a.grownBy b (some g))(k:b.grownBy c (some g)):a.grownBy c (some g):=
 ⟨k.os.trans h.os,k.tape.trans h.tape,k.output.trans h.output,Nat.le_trans h.size k.size,fun i hi hn=>(k.block i (Nat.lt_of_lt_of_le hi h.size) hn).trans (h.block i hi hn)⟩
def FreeAt (T:Nat→Prop)(m i e:Nat):Prop:=i≤e∧e≤m∧¬T e∧∀q,i≤q→q<e→T q
set_option maxHeartbeats 4000000 in
set_option maxRecDepth 100000 in
theorem free_any (g c m i:Nat)(N:List Nat)(T:Nat→Prop)(w:World)(hN:Nx w g N)(hI:NextInv N T m)(hi:i≤m)(hm:m<1000000):
  Calls Tryz.prog 156 #[.slice (some ⟨g,0,none⟩) (m+1) c,.int .i64 i] w fun e w'=>∃ (r:Nat) (N':List Nat),e= .returned (.int .i64 r)∧FreeAt T m i r∧NextInv N' T m∧Nx w' g N'∧w.grownBy w' (some g):=by
 have HN:=Lib.hid hN
 have HI:=Lib.hid hI
 clear hN hI
 go_enter Tryz.func156,Tryz.ntmps156
 go_wp2
 go_loop [5] (fun v=>∃e:Nat,v= .int .i64 e∧i≤e∧e≤m∧Hid (∀q,i≤q→q<e→T q)) (fun v=>m -(intOf v).toNat)
 case atStart=>exact⟨i,rfl,Nat.le_refl _,hi,fun q a b=>absurd b (by omega)⟩
 case round=>
  obtain⟨e,rfl,he1,he2,HQ⟩:=hrel
  have hc:=HN.out.cell (j:=e) (by rw [HI.out.1];omega)
  obtain⟨f,hf⟩:∃f,N.getD e 0=f:=⟨_,rfl⟩
  obtain⟨h1,h2,h3,h4⟩:=HI.out.2 e he2
  rw [hf]at hc h1 h2 h3 h4
  by_cases hfe:f=e
  ·subst hfe
   have HF:=Lib.hid (show FreeAt T m i f from⟨he1,he2,h3.1 rfl,HQ.out⟩)
   clear hf h1 h2 h3 h4 HQ
   go_wp2
   go_loopw [1] (fun iv wr=>∃ (q:Nat) (N':List Nat),iv= .int .i64 q∧q≤f∧Hid (NextInv N' T m∧Nx wr g N'∧(∀x,q≤x→x<f→T x)∧w.grownBy wr (some g))) (fun iv _=>f -(intOf iv).toNat)
   case atStart=>exact⟨i,N,rfl,he1,HI.out,HN.out,HF.out.2.2.2,World.grownBy.refl w _⟩
   case round=>
    obtain⟨q,N',rfl,hq,HZ⟩:=hrel
    obtain⟨k1,k2,k3,k4⟩:=HZ.out.1.2 q (by omega)
    have hcq:=HZ.out.2.1.cell (j:=q) (by rw [HZ.out.1.1];omega)
    have hfq:=HZ.out.2.1.free q
    have hlq:=HZ.out.2.1.lt
    obtain⟨f',hf'⟩:∃f',N'.getD q 0=f':=⟨_,rfl⟩
    rw [hf']at hcq k1 k2 k3 k4
    clear hf' hc
    by_cases hff:f'=f
    ·subst hff
     clear k3 k4
     have HR:=Lib.hid (And.intro HZ.out.1 (And.intro HZ.out.2.1 HZ.out.2.2.2))
     clear HZ
     go_wp2
     go_ret
     exact⟨f',N',rfl,HF.out,HR.out.1,HR.out.2.1,HR.out.2.2⟩
    ·have hqf:q<f:=by
      rcases Nat.lt_or_eq_of_le hq with h|h
      ·exact h
      ·subst h;exact absurd (k3.2 HF.out.2.2.1) hff
     have hqf':q<f':=by
      rcases Nat.lt_or_eq_of_le k1 with h|h
      ·exact h
      ·exact absurd (HZ.out.2.2.1 q (Nat.le_refl _) hqf) (k3.1 h.symm)
     have hff':f'<f:=by
      rcases Nat.lt_or_ge f f' with h|h
      ·exact absurd (k4 f (by omega) h) HF.out.2.2.1
      ·omega
     have hne:((f':Int) != (f:Int))=true:=by simp;omega
     have HY:=Lib.hid (show NextInv (N'.set q f) T m∧Nx (wr.setCell ⟨g,q,none⟩ (.int .i64 (f:Int))) g (N'.set q f)∧(∀x,f'≤x→x<f→T x)∧w.grownBy (wr.setCell ⟨g,q,none⟩ (.int .i64 (f:Int))) (some g)from
      ⟨HZ.out.1.set hqf he2 HZ.out.2.2.1,HZ.out.2.1.set q (by rw [HZ.out.1.1];omega) f,fun x a b=>HZ.out.2.2.1 x (by omega) b,grown_trans HZ.out.2.2.2 (grown_set _ _ _ _)⟩)
     clear k3 k4 HZ hff
     go_wp2
     go_roundw
     case rel=>exact⟨f',N'.set q f,rfl,by omega,HY.out⟩
     case measure=>simp [intOf];omega
  ·have hne:((f:Int) != (e:Int))=true:=by simp;omega
   have HQ2:=Lib.hid (show ∀q,i≤q→q<f→T q from fun q a b=>by
    rcases Nat.lt_or_ge q e with h|h
    ·exact HQ.out q a h
    ·exact h4 q h b)
   clear hf h3 h4 HQ
   go_wp2
   go_round
   case rel=>exact⟨f,rfl,by omega,h2,HQ2.out⟩
   case measure=>simp [intOf];omega
theorem flatP_get (D:List (Pc Int))(y:Pc Int)(i:Nat)(u:Value)(h:(encP y)[i]? =some u):(flatL encP (D++[y]))[D.length*3+i]? =some u:=
 flatL_get encP_len (D++[y]) D.length y i u (by simp) h
theorem flatP_set (D:List (Pc Int))(y:Pc Int)(t:Int):(flatL encP (D++[y])).set (D.length*3+1) (.int .i64 t)=flatL encP (D++[⟨y.f,t,y.v⟩]):=by
 have hl:=flatL_len encP_len D
 rw [flatL_snoc,flatL_snoc,List.set_append,if_neg (by omega),hl,show D.length*3+1 - D.length*3=1 by omega]
 rfl
structure JR (w:World)(g:Int→Int)(lo hi:Int)(k:Nat)(Ao:Option Addr)(no co:Nat)(D:List (Pc Int))(X:World):Prop where
 ji:JI g lo hi D
 len:D.length=no
 grows:Grows w 134 3 encP Ao no co D X
theorem tile_at {lo hi:Int}{L:List (Pc Int)}{k:Nat}{x:Pc Int}(h:Tile lo hi L)(hx:L[k]? =some x):Tile lo x.f (L.take k)∧x.f≤x.t∧Tile lo (x.t+1) (L.take (k+1)):=by
 have e:=take_snoc' hx
 have h1:=h
 rw [←List.take_append_drop (k+1) L,tile_append]at h1
 obtain⟨m,h2,_⟩:=h1
 rw [e]at h2 ⊢
 obtain⟨a,b,c⟩:=tile_snoc.1 h2
 exact⟨a,b,tile_snoc.2 ⟨a,b,rfl⟩⟩
theorem tile_uniq {lo a b:Int}{L:List (Pc Int)}(h:Tile lo a L)(k:Tile lo b L):a=b:=by
 induction L generalizing lo with
 |nil=>exact h.symm.trans k
 |cons p L ih=>exact ih h.2.2 k.2.2
set_option maxHeartbeats 4000000 in
set_option maxRecDepth 100000 in
theorem joined_any (A:Option Addr)(c:Nat)(L:List (Pc Int))(g:Int→Int)(m:Int)(w:World)(hL:Li 3 encP w (fun _=>True) A L)(hc:L.length≤c)(hn:L.length≤100000)(hT:Tile 0 m L)(hV:Vals g L)(hm:m≤100000000):
  Calls Tryz.prog 180 #[.slice A L.length c] w (fun e w'=>∃P,JI g 0 m P∧P.length≤L.length∧TellsO 134 3 encP P w e w'):=by
 have HL:=Lib.hid hL
 have HT:=Lib.hid hT
 have HV:=Lib.hid hV
 clear hL hT hV
 go_enter Tryz.func180,Tryz.ntmps180
 go_wp2
 go_loopw [3,5,6,9] (fun v _ _ i wr=>∃k:Nat,∃Ao no co,k≤L.length∧i= .int .i64 k∧v= .slice Ao no co∧no≤k∧Hid (∃D hi,JR w g 0 hi k Ao no co D wr∧Tile 0 hi (L.take k))) (fun _ _ _ i _=>L.length -(intOf i).toNat)
 case atStart=>exact⟨0,none,0,0,Nat.zero_le _,rfl,rfl,Nat.le_refl _,[],0,⟨⟨rfl,(fun p hp=>by cases hp),trivial⟩,rfl,Grows.start _ _ _⟩,rfl⟩
 case round=>
  obtain⟨k,Ao,no,co,hk,rfl,rfl,hno,HG⟩:=hrel
  obtain⟨D,hi,hG,hTk⟩:=HG.out
  by_cases hlt:k<L.length
  ·obtain⟨x,b,o,hx,rfl,hbl,_,c0,c1,c2⟩:=(HL.out.later hG.grows.below).piece hlt
   have hxm:x∈L:=List.mem_of_getElem? hx
   obtain⟨t1,t2,t3⟩:=tile_at HT.out hx
   have hhi:hi=x.f:=tile_uniq hTk t1
   subst hhi
   have xb:=tile_bd HT.out hxm
   have xb1:=xb.1
   have xb3:x.t≤100000000:=by omega
   have hji:=hG.ji.step t2 (HV.out x hxm)
   have HX:=Lib.hid (And.intro hji t3)
   have HJ:=Lib.hid hG
   clear hx hxm hji hG HG hTk t1 t3 xb
   go_wp2
   refine at_world (fun X=>Below wr.heap.size wr X∧Blk X wr.heap.size (encP x).toArray) ⟨(Below.refl _ _).alloc (Nat.le_refl _) _,blk_new _ _ _⟩ ?_
   rintro X ⟨hX,hB⟩
   have l0:X.cell? ⟨wr.heap.size,0,none⟩=some (.int .i64 x.f):=hB.2.1 0
   have l1:X.cell? ⟨wr.heap.size,1,none⟩=some (.int .i64 x.t):=hB.2.1 1
   have l2:X.cell? ⟨wr.heap.size,2,none⟩=some (.int .i64 x.v):=hB.2.1 2
   have HW:=Lib.hid (And.intro (HJ.out.grows.later hX) hX)
   have hz:w.heap.size≤X.heap.size:=HW.out.1.below.size
   have HO:=Lib.hid HW.out.1.own
   clear hX hB c0 c1 c2
   rcases Nat.eq_zero_or_pos no with h0|hpos
   ·have hD:D=[]:=List.eq_nil_of_length_eq_zero (by rw [HJ.out.len,h0])
    have HD:=Lib.hid (show jstep D x=D++[x]by rw [hD];rfl)
    clear hD
    have z0:=Lib.hid h0
    clear h0
    have g1:¬(1≤(no:Int)):=by have:=z0.out;omega
    have g2:decide ((0:Int)<(no:Int))=false:=decide_eq_false (by have:=z0.out;omega)
    have g3:decide (0<no)=false:=decide_eq_false (by have:=z0.out;omega)
    go_quiet (fail)
    go_wp2_with (at_builtin;refine wpList_push piece_elt (ownDrew HO.out _) (by simpa using hz) rfl rfl rfl rfl (by simp) rfl rfl (by unfold maxLen;omega) (by omega) ?_;intro A3 c3 w3 hp;have HP:=Lib.hid hp;clear hp)
    go_roundw
    case rel=>exact⟨k+1,_,_,_,by omega,by go_num,rfl,by omega,jstep D x,_,⟨HX.out.1,by rw [HD.out];have:=HJ.out.len;simp only [List.length_append,List.length_singleton]at this ⊢;omega,by rw [HD.out];exact HW.out.1.push (selfDrew _ _) HP.out⟩,HX.out.2⟩
    case measure=>simp [intOf];omega
   ·obtain⟨g',cs,rfl,hgb,hBk,_,_,_,hcs⟩:=own_blk HO.out hpos
    obtain⟨D',y,rfl⟩:∃D' y,D=D'++[y]:=by
     rcases List.eq_nil_or_concat D with h|⟨S,y,h⟩
     ·have:=HJ.out.len;rw [h]at this;simp at this;omega
     ·exact⟨S,y,by rw [h,List.concat_eq_append]⟩
    have hD':D'.length=no - 1:=by have:=HJ.out.len;simp at this;omega
    have ow (i:Nat) (u:Value) (hu:(encP y)[i]? =some u):X.cell? ⟨g',(no - 1)*3+i,none⟩=some u:=by
     rw [hBk.2.1]
     refine hcs _ _ ?_
     rw [←hD']
     exact flatP_get D' y i u hu
    have m1:=ow 1 _ rfl
    have m2:=ow 2 _ rfl
    have mf:=hBk.2.2 ((no - 1)*3+1)
    have ml:=hBk.1
    clear hcs ow hBk
    have g1:(1≤(no:Int)):=by omega
    have g2:decide ((0:Int)<(no:Int))=true:=decide_eq_true (by omega)
    have g3:decide (0<no)=true:=decide_eq_true (by omega)
    have g4:(no:Int) - 1<(no:Int):=by omega
    have g5:((no:Int) - 1).toNat=no - 1:=by omega
    have g6:decide ((0:Int)≤(no:Int) - 1)=true:=decide_eq_true (by omega)
    by_cases e1:y.v=x.v
    ·have d1:(y.v==x.v)=true:=by simpa using e1
     have HD:=Lib.hid (jstep_yes (D:=D') e1)
     clear e1
     have HS:=Lib.hid (show ∀q,((X.drewN q).setCell ⟨g',(no - 1)*3+1,none⟩ (.int .i64 x.t)).ownsRow w.heap.size 134 3 (.slice (some ⟨g',0,none⟩) no co) no (flatL encP (D'++[⟨y.f,x.t,y.v⟩]))∧Below w.heap.size w ((X.drewN q).setCell ⟨g',(no - 1)*3+1,none⟩ (.int .i64 x.t))from by
      intro q
      have h:=((ownDrew HO.out q).stored ((no - 1)*3+1) (.int .i64 x.t)).1
      rw [←hD',flatP_set]at h
      rw [←hD']
      exact⟨h,(belDrew HW.out.1.below q).setCell hgb _⟩)
     go_quiet (fail)
     go_wp2
     go_roundw
     case rel=>exact⟨k+1,_,_,_,by omega,by go_num,rfl,by omega,jstep _ x,_,⟨HX.out.1,by rw [HD.out];have:=HJ.out.len;simp only [List.length_append,List.length_singleton]at this ⊢;omega,by rw [HD.out];exact⟨(HS.out _).1,(HS.out _).2⟩⟩,HX.out.2⟩
     case measure=>simp [intOf];omega
    ·have d1:(y.v==x.v)=false:=by simpa using e1
     have HD:=Lib.hid (jstep_no (D:=D') (y:=y) (x:=x) e1)
     clear e1
     go_quiet (fail)
     go_wp2_with (at_builtin;refine wpList_push piece_elt (ownDrew HO.out _) (by simpa using hz) rfl rfl rfl rfl (by simp) rfl rfl (by unfold maxLen;omega) (by omega) ?_;intro A3 c3 w3 hp;have HP:=Lib.hid hp;clear hp)
     go_roundw
     case rel=>exact⟨k+1,_,_,_,by omega,by go_num,rfl,by omega,jstep _ x,_,⟨HX.out.1,by rw [HD.out];have:=HJ.out.len;simp only [List.length_append,List.length_singleton]at this ⊢;omega,by rw [HD.out];exact HW.out.1.push (selfDrew _ _) HP.out⟩,HX.out.2⟩
     case measure=>simp [intOf];omega
  ·obtain rfl:k=L.length:=by omega
   have hhi:hi=m:=tile_uniq hTk (by rw [List.take_length];exact HT.out)
   subst hhi
   have HR:=Lib.hid (show ∃P,JI g 0 hi P∧P.length≤L.length∧TellsO 134 3 encP P w (.returned (.slice Ao no co)) wr from⟨D,hG.ji,by rw [hG.len];exact hno,hG.grows.tells⟩)
   clear hG HG hTk hlt
   go_wp2
   go_ret
   exact HR.out
end Go.Proofs.YtlopleeopnnoeaaGreat
