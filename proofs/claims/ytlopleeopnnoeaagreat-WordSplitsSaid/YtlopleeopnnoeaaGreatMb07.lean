import Derived.Test.YtlopleeopnnoeaaGreatMb01
import Derived.Test.YtlopleeopnnoeaaGreatMb03
import Derived.Shelf.SlSortCmp.WholeK
import Derived.Shelf.SlSortCmp.NoneTotal
import Derived.Shelf.SlicesG.Cmp
import Derived.Shelf.Lay
import Derived.Shelf.SlGeneric
import Derived.Ground.SlsfProg
import Derived.Ground.SlgcProg
set_option linter.unusedVariables false
set_option linter.unusedSimpArgs false
namespace Go.Proofs.YtlopleeopnnoeaaGreat.RW
structure Row where
 k:Int
 f:Int
 t:Int
 a:Int
 b:Int
structure Span where
 f:Int
 t:Int
 a:Int
 b:Int
deriving DecidableEq
def MS:Int:=1114111
def cut1 (kind:Int)(x:Row):Option Span:=if x.k=kind∧max x.f 0≤min x.t MS then some ⟨max x.f 0,min x.t MS,x.a,x.b⟩else none
def ofK (kind:Int)(l:List Row):List Span:=l.filterMap (cut1 kind)
def Span.has (r:Int)(s:Span):Bool:=decide (s.f≤r∧r≤s.t)
def val (S:List Span)(r:Int):Option (Int × Int):=(S.find? (Span.has r)).map fun s=>(s.a,s.b)
def Row.has (kind r:Int)(x:Row):Bool:=decide (x.k=kind∧x.f≤r∧r≤x.t)
def rval (kind:Int)(l:List Row)(r:Int):Option (Int × Int):=(l.find? (Row.has kind r)).map fun x=>(x.a,x.b)
theorem val_ofK (kind:Int)(l:List Row)(r:Int)(h0:0≤r)(h1:r≤MS):val (ofK kind l) r=rval kind l r:=by
 induction l with
 |nil=>rfl
 |cons x l ih=>
  unfold val ofK rval at ih ⊢
  by_cases hx:x.k=kind∧max x.f 0≤min x.t MS
  ·rw [List.filterMap_cons,show cut1 kind x=some ⟨max x.f 0,min x.t MS,x.a,x.b⟩from if_pos hx]
   by_cases hr:x.f≤r∧r≤x.t
   ·rw [List.find?_cons_of_pos (by simp [Span.has];omega),List.find?_cons_of_pos (by simp [Row.has,hx.1];omega)]
    rfl
   ·rw [List.find?_cons_of_neg (by simp [Span.has];omega),List.find?_cons_of_neg (by simp [Row.has];omega)]
    exact ih
  ·rw [List.filterMap_cons,show cut1 kind x=none from if_neg hx,List.find?_cons_of_neg (by simp [Row.has];intro e;have:¬(max x.f 0≤min x.t MS):=fun h=>hx ⟨e,h⟩;omega)]
   exact ih
theorem ofK_bd {kind:Int}{l:List Row}{s:Span}(h:s∈ofK kind l):0≤s.f∧s.f≤s.t∧s.t≤MS:=by
 obtain⟨x,_,hx⟩:=List.mem_filterMap.1 h
 unfold cut1 at hx
 split at hx
 ·rename_i hc
  injection hx with hx
  subst hx
  obtain⟨_,hc⟩:=hc
  exact⟨by simp;omega,by simpa using hc,by simp;omega⟩
 ·cases hx
theorem val_some {S:List Span}{r:Int}{p:Int × Int}(h:val S r=some p):∃s∈S,s.f≤r∧r≤s.t∧(s.a,s.b)=p:=by
 unfold val at h
 cases hf:S.find? (Span.has r)with
 |none=>rw [hf]at h;cases h
 |some s=>
  rw [hf]at h
  injection h with h
  have h1:=List.find?_some hf
  simp [Span.has]at h1
  exact⟨s,List.mem_of_find?_eq_some hf,h1.1,h1.2,h⟩
theorem val_none {S:List Span}{r:Int}(h:val S r=none):∀s∈S,¬(s.f≤r∧r≤s.t):=by
 unfold val at h
 cases hf:S.find? (Span.has r)with
 |none=>
  intro s hs hh
  have:=List.find?_eq_none.1 hf s hs
  simp [Span.has]at this
  omega
 |some s=>rw [hf]at h;cases h
def Rise (S:List Span):Prop:=S.Pairwise (fun x y=>x.t<y.f)∧∀s∈S,s.f≤s.t
theorem rise_one {S:List Span}(h:Rise S){s:Span}(hs:s∈S){r:Int}(h1:s.f≤r)(h2:r≤s.t):val S r=some (s.a,s.b):=by
 obtain⟨hp,hb⟩:=h
 induction S with
 |nil=>cases hs
 |cons x S ih=>
  obtain⟨hx,hp⟩:=List.pairwise_cons.1 hp
  unfold val
  rcases List.mem_cons.1 hs with rfl|hs
  ·rw [List.find?_cons_of_pos (by simp [Span.has];omega)]
   rfl
  ·have:=hx s hs
   rw [List.find?_cons_of_neg (by simp [Span.has];omega)]
   exact ih hs hp fun s hs=>hb s (List.mem_cons_of_mem _ hs)
def cAt (C:List Int)(i:Nat):Int:=C.getD i 0
theorem cAt_lt {C:List Int}(h:C.Pairwise (· < ·)){i j:Nat}(hij:i<j)(hj:j<C.length):cAt C i<cAt C j:=by
 have:=List.pairwise_iff_getElem.1 h i j (by omega) hj hij
 simpa [cAt,List.getD,hj,show i<C.length by omega]using this
theorem cAt_le {C:List Int}(h:C.Pairwise (· < ·)){i j:Nat}(hij:i≤j)(hj:j<C.length):cAt C i≤cAt C j:=by
 rcases Nat.lt_or_eq_of_le hij with h1|rfl
 ·exact Int.le_of_lt (cAt_lt h h1 hj)
 ·exact Int.le_refl _
theorem cAt_mem {C:List Int}{i:Nat}(hi:i<C.length):cAt C i∈C:=by
 simp [cAt,List.getD,hi]
theorem count_at {C:List Int}(h:C.Pairwise (· < ·)){x:Int}(hx:x∈C):C.countP (fun c=>decide (c<x))<C.length∧cAt C (C.countP (fun c=>decide (c<x)))=x:=by
 induction C with
 |nil=>cases hx
 |cons c C ih=>
  obtain⟨hc,hp⟩:=List.pairwise_cons.1 h
  rcases List.mem_cons.1 hx with rfl|hx
  ·have h0:C.countP (fun c=>decide (c<x))=0:=by
    rw [List.countP_eq_zero]
    intro y hy
    have:=hc y hy
    simp;omega
   rw [List.countP_cons_of_neg (by simp),h0]
   exact⟨by simp,by simp [cAt]⟩
  ·have:=hc x hx
   rw [List.countP_cons_of_pos (by simpa using this)]
   obtain⟨i1,i2⟩:=ih hp hx
   exact⟨by simpa using i1,by simpa [cAt]using i2⟩
theorem cut_below {C : List Int} (h : C.Pairwise (· < ·)) {r lo hi : Int} (h1 : lo ∈ C) (h2 : hi ∈ C) (h3 : lo ≤ r) (h4 : r < hi) : ∃ q, q + 1 < C.length ∧ cAt C q ≤ r ∧ r < cAt C (q + 1) := by
  obtain ⟨j, hj, hjr⟩ := List.getElem_of_mem h1
  obtain ⟨k, hk, hkr⟩ := List.getElem_of_mem h2
  have e1 : cAt C j = lo := by simp [cAt, List.getD, hj, hjr]
  have e2 : cAt C k = hi := by simp [cAt, List.getD, hk, hkr]
  have hjk : j < k := by
    rcases Nat.lt_or_ge j k with h' | h'
    · exact h'
    · have := cAt_le h h' hj; omega
  have key : ∀ d q, q + d = k → cAt C q ≤ r → ∃ q, q + 1 < C.length ∧ cAt C q ≤ r ∧ r < cAt C (q + 1) := by
    intro d
    induction d with
    | zero => intro q e hq; have : q = k := by omega
              subst this; omega
    | succ d ih =>
      intro q e hq
      by_cases h' : cAt C (q + 1) ≤ r
      · exact ih (q + 1) (by omega) h'
      · exact ⟨q, by omega, hq, by omega⟩
  exact key (k - j) j (by omega) (by omega)
def Cuts (S:List Span)(C:List Int):Prop:=C.Pairwise (· < ·)∧∀c,c∈C↔∃s∈S,c=s.f∨c=s.t+1
def cov (S:List Span)(r:Int):Prop:=∃s∈S,s.f≤r∧r≤s.t
theorem cuts_same {S:List Span}{C:List Int}(h:Cuts S C){q:Nat}(hq:q+1<C.length){r:Int}(h1:cAt C q≤r)(h2:r<cAt C (q+1)){s:Span}(hs:s∈S):(s.f≤r∧r≤s.t)↔(s.f≤cAt C q∧cAt C q≤s.t):=by
 have nb:∀x∈C,x≤cAt C q∨cAt C (q+1)≤x:=by
  intro x hx
  obtain⟨j,hj,hjx⟩:=List.getElem_of_mem hx
  have e:cAt C j=x:=by simp [cAt,List.getD,hj,hjx]
  rcases Nat.lt_or_ge q j with h'|h'
  ·right;rw [←e];exact cAt_le h.1 h' hj
  ·left;rw [←e];exact cAt_le h.1 h' (by omega)
 have b1:=nb s.f ((h.2 _).2 ⟨s,hs,.inl rfl⟩)
 have b2:=nb (s.t+1) ((h.2 _).2 ⟨s,hs,.inr rfl⟩)
 omega
theorem cuts_val {S:List Span}{C:List Int}(h:Cuts S C){q:Nat}(hq:q+1<C.length){r:Int}(h1:cAt C q≤r)(h2:r<cAt C (q+1)):val S r=val S (cAt C q):=by
 have key:∀T:List Span,(∀s∈T,s∈S)→val T r=val T (cAt C q):=by
  intro T
  induction T with
  |nil=>intro _;rfl
  |cons s T ih=>
   intro hT
   have hs:=cuts_same h hq h1 h2 (hT s (by simp))
   have:=ih fun s hs=>hT s (by simp [hs])
   unfold val at this ⊢
   by_cases hh:s.f≤r∧r≤s.t
   ·rw [List.find?_cons_of_pos (by simpa [Span.has]using hh),List.find?_cons_of_pos (by simpa [Span.has]using hs.1 hh)]
   ·rw [List.find?_cons_of_neg (by simpa [Span.has]using hh),List.find?_cons_of_neg (by simpa [Span.has]using fun a b=>hh (hs.2 ⟨a,b⟩))]
    exact this
 exact key S fun _ h=>h
def seg (S:List Span)(C:List Int)(q:Nat):Span:=⟨cAt C q,cAt C (q+1) - 1,((val S (cAt C q)).getD (0,0)).1,((val S (cAt C q)).getD (0,0)).2⟩
theorem cov_val {S:List Span}{r:Int}:cov S r↔(val S r).isSome:=by
 constructor
 ·intro ⟨s,hs,h1,h2⟩
  cases hv:val S r with
  |some p=>rfl
  |none=>exact absurd ⟨h1,h2⟩ (val_none hv s hs)
 ·intro h
  obtain⟨p,hp⟩:=Option.isSome_iff_exists.1 h
  obtain⟨s,hs,h1,h2,_⟩:=val_some hp
  exact⟨s,hs,h1,h2⟩
theorem segs_rise {S:List Span}{C:List Int}(h:Cuts S C){Q:List Nat}(hQ:∀q∈Q,q+1<C.length)(hs:Q.Pairwise (· < ·)):Rise (Q.map (seg S C)):=by
 refine⟨?_,?_⟩
 ·rw [List.pairwise_map]
  refine List.Pairwise.imp_of_mem ?_ hs
  intro a b ha hb hab
  have:=cAt_le h.1 (show a+1≤b by omega) (by have:=hQ b hb;omega)
  simp only [seg];omega
 ·intro s hs
  obtain⟨q,hq,rfl⟩:=List.mem_map.1 hs
  have:=cAt_lt h.1 (Nat.lt_succ_self q) (hQ q hq)
  simp only [seg];simp only [Nat.succ_eq_add_one]at this;omega
theorem segs_val {S:List Span}{C:List Int}(h:Cuts S C){Q:List Nat}(hQ:∀q,q∈Q↔q+1<C.length∧cov S (cAt C q))(hs:Q.Pairwise (· < ·))(r:Int):val (Q.map (seg S C)) r=val S r:=by
 have hR:=segs_rise h (fun q hq=>((hQ q).1 hq).1) hs
 cases hv:val S r with
 |some p=>
  obtain⟨s,hsm,h1,h2,_⟩:=val_some hv
  obtain⟨q,hq,h3,h4⟩:=cut_below h.1 ((h.2 _).2 ⟨s,hsm,.inl rfl⟩) ((h.2 _).2 ⟨s,hsm,.inr rfl⟩) h1 (show r<s.t+1 by omega)
  have hc:=cuts_val h hq h3 h4
  have hm:q∈Q:=(hQ q).2 ⟨hq,cov_val.2 (by rw [←hc,hv];rfl)⟩
  have:=rise_one hR (List.mem_map_of_mem hm) (r:=r) (by simp only [seg];omega) (by simp only [seg];omega)
  rw [this]
  simp only [seg]
  rw [←hc,hv]
  rfl
 |none=>
  cases hw:val (Q.map (seg S C)) r with
  |none=>rfl
  |some p=>
   obtain⟨s,hsm,h1,h2,_⟩:=val_some hw
   obtain⟨q,hq,rfl⟩:=List.mem_map.1 hsm
   obtain⟨hq1,hq2⟩:=(hQ q).1 hq
   simp only [seg]at h1 h2
   rw [cuts_val h hq1 h1 (by omega)]at hv
   rw [cov_val,hv]at hq2
   cases hq2
def jstep (out:List Span)(x:Span):List Span:=
 match out.getLast? with
 |some y=>if y.t+1=x.f∧y.a=x.a∧y.b=x.b then out.dropLast++[⟨y.f,x.t,y.a,y.b⟩]else out++[x]
 |none=>out++[x]
def joinP (l:List Span):List Span:=l.foldl jstep []
def Apt (S:List Span):Prop:=∀i,i+1<S.length→∀x y,S[i]? =some x→S[i+1]? =some y→¬(x.t+1=y.f∧x.a=y.a∧x.b=y.b)
theorem val_append (S T:List Span)(r:Int):val (S++T) r=(val S r).or (val T r):=by
 unfold val
 rw [List.find?_append]
 cases S.find? (Span.has r)<;>simp
structure JI (D out:List Span)(lo hi:Int):Prop where
 rise:Rise out
 apt:Apt out
 says:∀r,val out r=val D r
 bd:∀s∈out,lo≤s.f∧s.t≤hi
 last:∀y,out.getLast?=some y→∃z∈D,z.t=y.t
 len:out.length≤D.length
theorem rise_snoc {S:List Span}{x:Span}(h:Rise S)(hx:x.f≤x.t)(hl:∀y∈S,y.t<x.f):Rise (S++[x]):=by
 refine⟨List.pairwise_append.2 ⟨h.1,List.pairwise_singleton _ _,?_⟩,?_⟩
 ·intro a ha b hb
  rcases List.mem_singleton.1 hb with rfl
  exact hl a ha
 ·intro s hs
  rcases List.mem_append.1 hs with hs|hs
  ·exact h.2 s hs
  ·rcases List.mem_singleton.1 hs with rfl
   exact hx
theorem rise_last {S:List Span}{y:Span}(h:Rise (S++[y])):Rise S∧y.f≤y.t∧∀z∈S,z.t<y.f:=by
 obtain⟨h1,h2⟩:=h
 obtain⟨a,_,b⟩:=List.pairwise_append.1 h1
 exact⟨⟨a,fun s hs=>h2 s (by simp [hs])⟩,h2 y (by simp),fun z hz=>b z hz y (by simp)⟩
theorem apt_snoc {S:List Span}{x:Span}(h:Apt S)(hl:∀y,S.getLast?=some y→¬(y.t+1=x.f∧y.a=x.a∧y.b=x.b)):Apt (S++[x]):=by
 intro i hi u v hu hv
 simp at hi
 by_cases h1:i+1<S.length
 ·rw [List.getElem?_append_left (by omega)]at hu
  rw [List.getElem?_append_left h1]at hv
  exact h i h1 u v hu hv
 ·have e:i+1=S.length:=by omega
  rw [List.getElem?_append_left (by omega)]at hu
  rw [List.getElem?_append_right (by omega),e]at hv
  simp at hv
  subst hv
  refine hl u ?_
  rw [List.getLast?_eq_getElem?,←hu]
  congr 1
  omega
theorem apt_take {S:List Span}{y:Span}(h:Apt (S++[y]))(x:Span)(e1:x.f=y.f)(e2:x.a=y.a)(e3:x.b=y.b):Apt (S++[x]):=by
 intro i hi u v hu hv
 simp at hi
 by_cases h1:i+1<S.length
 ·rw [List.getElem?_append_left (by omega)]at hu
  rw [List.getElem?_append_left h1]at hv
  refine h i (by simp;omega) u v ?_ ?_
  ·rw [List.getElem?_append_left (by omega)];exact hu
  ·rw [List.getElem?_append_left h1];exact hv
 ·have e:i+1=S.length:=by omega
  rw [List.getElem?_append_left (by omega)]at hu
  rw [List.getElem?_append_right (by omega),e]at hv
  simp at hv
  subst hv
  have:=h i (by simp;omega) u y (by rw [List.getElem?_append_left (by omega)];exact hu) (by rw [List.getElem?_append_right (by omega),e];simp)
  rw [e1,e2,e3]
  exact this
theorem val_one (x:Span)(r:Int):val [x] r=if x.f≤r∧r≤x.t then some (x.a,x.b)else none:=by
 unfold val
 by_cases h:x.f≤r∧r≤x.t
 ·rw [List.find?_cons_of_pos (by simpa [Span.has]using h),if_pos h];rfl
 ·rw [List.find?_cons_of_neg (by simpa [Span.has]using h),if_neg h];rfl
theorem JI.step {D out:List Span}{lo hi:Int}{x:Span}(h:JI D out lo hi)(hx:x.f≤x.t)(h1:lo≤x.f)(h2:x.t≤hi)(hl:∀y∈D,y.t<x.f):JI (D++[x]) (jstep out x) lo hi:=by
 have hlast:∀y∈out,y.t<x.f:=by
  rcases List.eq_nil_or_concat out with rfl|⟨S,y,rfl⟩
  ·intro y hy;cases hy
  ·obtain⟨z,hz,e⟩:=h.last y (by simp)
   intro u hu
   rw [List.concat_eq_append]at hu
   have hr:=rise_last (by simpa using h.rise)
   have:=hl z hz
   rcases List.mem_append.1 hu with hu|hu
   ·have:=hr.2.2 u hu
    have:=hr.2.1
    omega
   ·rcases List.mem_singleton.1 hu with rfl
    omega
 unfold jstep
 rcases List.eq_nil_or_concat out with rfl|⟨S,y,rfl⟩
 ·refine⟨rise_snoc h.rise hx hlast,apt_snoc h.apt (by simp),fun r=> ?_,?_,?_,by simp⟩
  ·have:=h.says r
   show val ([]++[x]) r=_
   rw [val_append,val_append,this]
  ·intro s hs
   simp at hs
   subst hs
   exact⟨h1,h2⟩
  ·intro y hy
   simp at hy
   subst hy
   exact⟨x,by simp,rfl⟩
 ·simp only [List.concat_eq_append]at h hlast ⊢
  simp only [List.getLast?_append,List.getLast?_singleton,Option.some_or,List.dropLast_append_cons,List.dropLast_singleton,List.append_nil]
  obtain⟨r1,r2,r3⟩:=rise_last h.rise
  have hy:=hlast y (by simp)
  split
  ·rename_i hc
   obtain⟨c1,c2,c3⟩:=hc
   refine⟨rise_snoc r1 (by simp;omega) r3,apt_take h.apt _ rfl rfl rfl,fun r=> ?_,?_,?_,?_⟩
   ·have hv:=h.says r
    rw [val_append]at hv
    rw [val_append,val_append,←hv,val_one,val_one,val_one]
    cases val S r with
    |some p=>simp
    |none=>
     simp only [Option.none_or]
     by_cases a1:y.f≤r∧r≤y.t
     ·rw [if_pos a1,if_pos ⟨a1.1,by omega⟩];rfl
     ·rw [if_neg a1]
      simp only [Option.none_or]
      by_cases a2:x.f≤r∧r≤x.t
      ·rw [if_pos a2,if_pos ⟨by omega,a2.2⟩,c2,c3]
      ·rw [if_neg a2,if_neg (by omega)]
   ·intro s hs
    rcases List.mem_append.1 hs with hs|hs
    ·exact h.bd s (by simp [hs])
    ·rcases List.mem_singleton.1 hs with rfl
     exact⟨(h.bd y (by simp)).1,h2⟩
   ·intro u hu
    simp at hu
    subst hu
    exact⟨x,by simp,rfl⟩
   ·have:=h.len
    simp at this ⊢;omega
  ·rename_i hc
   refine⟨rise_snoc h.rise hx hlast,apt_snoc h.apt (by simpa using hc),fun r=> ?_,?_,?_,?_⟩
   ·rw [val_append,val_append (S:=D),h.says]
   ·intro s hs
    rcases List.mem_append.1 hs with hs|hs
    ·exact h.bd s hs
    ·rcases List.mem_singleton.1 hs with rfl
     exact⟨h1,h2⟩
   ·intro u hu
    simp at hu
    subst hu
    exact⟨x,by simp,rfl⟩
   ·have:=h.len
    simp at this ⊢;omega
theorem JI.start (lo hi:Int):JI [] [] lo hi:=⟨⟨List.Pairwise.nil,by simp⟩,fun i hi=>absurd hi (by simp),fun _=>rfl,by simp,by simp,by simp⟩
theorem joinP_JI {lo hi:Int}:∀ (l D out:List Span),JI D out lo hi→Rise (D++l)→(∀s∈l,lo≤s.f∧s.t≤hi)→JI (D++l) (l.foldl jstep out) lo hi
 |[],D,out,h,_,_=>by simpa using h
 |x::l,D,out,h,hr,hb=>by
  have e:D++x::l=(D++[x])++l:=by simp
  rw [e]at hr ⊢
  have h0:=rise_last (S:=D) (y:=x) ⟨(List.pairwise_append.1 hr.1).1,fun s hs=>hr.2 s (by simp at hs ⊢;rcases hs with a|a<;>simp [a])⟩
  exact joinP_JI l (D++[x]) (jstep out x) (h.step h0.2.1 (hb x (by simp)).1 (hb x (by simp)).2 h0.2.2) hr fun s hs=>hb s (by simp [hs])
structure Good (kind:Int)(l:List Row)(S:List Span):Prop where
 rise:Rise S
 apt:Apt S
 says:∀r,0≤r→r≤MS→val S r=rval kind l r
 bd:∀s∈S,0≤s.f∧s.t≤MS
 len:S.length≤2*l.length
theorem good_of {kind:Int}{l:List Row}{C:List Int}(h:Cuts (ofK kind l) C){Q:List Nat}(hQ:∀q,q∈Q↔q+1<C.length∧cov (ofK kind l) (cAt C q))(hs:Q.Pairwise (· < ·))(hl:Q.length≤2*l.length):Good kind l (joinP (Q.map (seg (ofK kind l) C))):=by
 have hR:=segs_rise h (fun q hq=>((hQ q).1 hq).1) hs
 have hb:∀s∈Q.map (seg (ofK kind l) C),0≤s.f∧s.t≤MS:=by
  intro s hs
  obtain⟨q,hq,rfl⟩:=List.mem_map.1 hs
  obtain⟨h1,h2⟩:=(hQ q).1 hq
  obtain⟨s1,m1,e1⟩:=(h.2 _).1 (cAt_mem (show q<C.length by omega))
  obtain⟨s2,m2,e2⟩:=(h.2 _).1 (cAt_mem h1)
  have b1:=ofK_bd m1
  have b2:=ofK_bd m2
  simp only [seg]
  omega
 have:=joinP_JI _ [] [] (JI.start 0 MS) (by simpa using hR) hb
 simp only [List.nil_append]at this
 exact⟨this.rise,this.apt,fun r h0 h1=>by rw [←val_ofK kind l r h0 h1,←segs_val h hQ hs r];exact this.says r,this.bd,Nat.le_trans this.len (by rw [List.length_map];exact hl)⟩
end Go.Proofs.YtlopleeopnnoeaaGreat.RW
namespace Go.Proofs.YtlopleeopnnoeaaGreat.RW
open Go.RowKit
def encS (s:Span):List Value:=[.int .i64 s.f,.int .i64 s.t,.int .i64 s.a,.int .i64 s.b]
def encR (x:Row):List Value:=[.int .i64 x.k,.int .i64 x.f,.int .i64 x.t,.int .i64 x.a,.int .i64 x.b]
theorem encS_len (s:Span):(encS s).length=4:=rfl
theorem encR_len (x:Row):(encR x).length=5:=rfl
theorem span_elt:Elt Tryz.prog 93 97 4 32:=elt_of Tryz.underlying93 (z:= .agg #[.int .i64 0,.int .i64 0,.int .i64 0,.int .i64 0]) (by kernel_rfl) rfl (by decide)
theorem int_elt:Elt Tryz.prog 37 3 1 8:=elt_of Tryz.underlying37 (z:= .int .i64 0) (by kernel_rfl) rfl (by decide)
theorem _root_.Go.Proofs.YtlopleeopnnoeaaGreat.Li.row {w:World}{S:Nat→Prop}{A:Option Addr}{L:List Row}(h:Li 5 encR w S A L){j:Nat}(hj:j<L.length):∃x b o,L[j]? =some x∧A=some ⟨b,o,none⟩∧b<w.heap.size∧S b∧
  w.cell? ⟨b,o+j*5,none⟩=some (.int .i64 x.k)∧w.cell? ⟨b,o+j*5+1,none⟩=some (.int .i64 x.f)∧w.cell? ⟨b,o+j*5+2,none⟩=some (.int .i64 x.t)∧w.cell? ⟨b,o+j*5+3,none⟩=some (.int .i64 x.a)∧w.cell? ⟨b,o+j*5+4,none⟩=some (.int .i64 x.b):=by
 obtain⟨b,o,e,hl,hs,hc⟩:=h.at hj
 exact⟨L[j],b,o,List.getElem?_eq_getElem hj,e,hl,hs,hc 0 _ rfl,by have:=hc 1 _ rfl;rwa [←Nat.add_assoc]at this,by have:=hc 2 _ rfl;rwa [←Nat.add_assoc]at this,by have:=hc 3 _ rfl;rwa [←Nat.add_assoc]at this,by have:=hc 4 _ rfl;rwa [←Nat.add_assoc]at this⟩
theorem _root_.Go.Proofs.YtlopleeopnnoeaaGreat.Li.span {w:World}{S:Nat→Prop}{A:Option Addr}{L:List Span}(h:Li 4 encS w S A L){j:Nat}(hj:j<L.length):∃x b o,L[j]? =some x∧A=some ⟨b,o,none⟩∧b<w.heap.size∧S b∧
  w.cell? ⟨b,o+j*4,none⟩=some (.int .i64 x.f)∧w.cell? ⟨b,o+j*4+1,none⟩=some (.int .i64 x.t)∧w.cell? ⟨b,o+j*4+2,none⟩=some (.int .i64 x.a)∧w.cell? ⟨b,o+j*4+3,none⟩=some (.int .i64 x.b):=by
 obtain⟨b,o,e,hl,hs,hc⟩:=h.at hj
 exact⟨L[j],b,o,List.getElem?_eq_getElem hj,e,hl,hs,hc 0 _ rfl,by have:=hc 1 _ rfl;rwa [←Nat.add_assoc]at this,by have:=hc 2 _ rfl;rwa [←Nat.add_assoc]at this,by have:=hc 3 _ rfl;rwa [←Nat.add_assoc]at this⟩
def TellsL {α:Type}(k:Nat)(enc:α→List Value)(L:List α)(w:World)(e:Ending)(w':World):Prop:=∃A n c,e= .returned (.slice A n c)∧LiV k enc w' (fun b=>w.heap.size≤b) (.slice A n c) L∧Below w.heap.size w w'
def TellsO {α:Type}(E:TypeId)(k:Nat)(enc:α→List Value)(L:List α)(w:World)(e:Ending)(w':World):Prop:=∃A n c,e= .returned (.slice A n c)∧w'.ownsRow w.heap.size E k (.slice A n c) n (flatL enc L)∧Below w.heap.size w w'
structure Grows {α:Type}(w:World)(E:TypeId)(k:Nat)(enc:α→List Value)(A:Option Addr)(n c:Nat)(D:List α)(X:World):Prop where
 own:X.ownsRow w.heap.size E k (.slice A n c) n (flatL enc D)
 below:Below w.heap.size w X
theorem Grows.start {α:Type}{enc:α→List Value}(w:World)(E:TypeId)(k:Nat):Grows w E k enc none 0 0 ([]:List α) w:=⟨World.ownsRow_nil _ _ _ _,Below.refl _ _⟩
theorem Grows.push {α:Type}{enc:α→List Value}{w X Y Z:World}{E:TypeId}{k n c c':Nat}{A A':Option Addr}{D:List α}{x:α}(h:Grows w E k enc A n c D X)(hb:Below X.heap.size X Y)(hp:Pushed Y Z w.heap.size E k (.slice A n c) (n+1) (flatL enc D++enc x) A' c'):Grows w E k enc A' (n+1) c' (D++[x]) Z:=
 ⟨by rw [flatL_snoc];exact hp.own,hp.below (h.below.trans (hb.mono h.below.size)) (own_later h.own hb) (Nat.le_refl _)⟩
theorem Grows.pushM {α:Type}{enc:α→List Value}{w X Y Z:World}{E:TypeId}{k n m c c':Nat}{A A':Option Addr}{D M:List α}{ys:List Value}(h:Grows w E k enc A n c D X)(hb:Below X.heap.size X Y)(hy:ys=flatL enc M)(hp:Pushed Y Z w.heap.size E k (.slice A n c) (n+m) (flatL enc D++ys) A' c'):Grows w E k enc A' (n+m) c' (D++M) Z:=
 ⟨by rw [flatL_append,←hy];exact hp.own,hp.below (h.below.trans (hb.mono h.below.size)) (own_later h.own hb) (Nat.le_refl _)⟩
theorem Grows.later {α:Type}{enc:α→List Value}{w X Y:World}{E:TypeId}{k n c:Nat}{A:Option Addr}{D:List α}(h:Grows w E k enc A n c D X)(hb:Below X.heap.size X Y):Grows w E k enc A n c D Y:=
 ⟨own_later h.own hb,h.below.trans (hb.mono h.below.size)⟩
theorem Grows.tells {α:Type}{enc:α→List Value}{w X:World}{E:TypeId}{k n c:Nat}{A:Option Addr}{D:List α}(h:Grows w E k enc A n c D X):TellsO E k enc D w (.returned (.slice A n c)) X:=⟨A,n,c,rfl,h.own,h.below⟩
theorem TellsO.li {α:Type}{enc:α→List Value}{E:TypeId}{k:Nat}{L:List α}{w w':World}{e:Ending}(hk:∀x,(enc x).length=k)(hk0:0<k)(h:TellsO E k enc L w e w'):TellsL k enc L w e w':=by
 obtain⟨A,n,c,e1,ho,hb⟩:=h
 exact⟨A,n,c,e1,LiV.own hk hk0 ho,hb⟩
theorem ofK_snoc (kind:Int)(l:List Row)(x:Row):ofK kind (l++[x])=ofK kind l++(cut1 kind x).toList:=by
 simp only [ofK,List.filterMap_append]
 cases h:cut1 kind x<;>simp [h]
theorem take_snoc' {α:Type}{L:List α}{j:Nat}{x:α}(h:L[j]? =some x):L.take (j+1)=L.take j++[x]:=by
 obtain⟨hj,e⟩:=List.getElem?_eq_some_iff.1 h
 rw [List.take_succ_eq_append_getElem hj,e]
end Go.Proofs.YtlopleeopnnoeaaGreat.RW
namespace Go.Proofs.YtlopleeopnnoeaaGreat.RW
open Go.RowKit
set_option maxHeartbeats 4000000 in
set_option maxRecDepth 100000 in
theorem ofKind_any (A:Option Addr)(c:Nat)(L:List Row)(kind:Int)(w:World)(hL:Li 5 encR w (fun _=>True) A L)(hc:L.length≤c)(hn:L.length≤100000):
  Calls Tryz.prog 102 #[.slice A L.length c,.int .i64 kind] w (TellsO 97 4 encS (ofK kind L) w):=by
 have HL:=Lib.hid hL
 clear hL
 go_enter Tryz.func102,Tryz.ntmps102
 go_wp2
 go_loopw [5,7,8,9,12] (fun v _ _ _ i wr=>∃k:Nat,∃Ao no co,k≤L.length∧i= .int .i64 k∧v= .slice Ao no co∧no≤k∧Hid (Grows w 97 4 encS Ao no co (ofK kind (L.take k)) wr)) (fun _ _ _ _ i _=>L.length -(intOf i).toNat)
 case atStart=>exact⟨0,none,0,0,Nat.zero_le _,rfl,rfl,Nat.le_refl _,Grows.start _ _ _⟩
 case round=>
  obtain⟨k,Ao,no,co,hk,rfl,rfl,hno,HG⟩:=hrel
  by_cases hlt:k<L.length
  ·obtain⟨x,b,o,hx,rfl,hbl,_,c0,c1,c2,c3,c4⟩:=(HL.out.later HG.out.below).row hlt
   have HX:=Lib.hid hx
   clear hx
   go_wp2
   refine at_world (fun X=>Below wr.heap.size wr X∧Blk X wr.heap.size (encR x).toArray) ⟨(Below.refl _ _).alloc (Nat.le_refl _) _,blk_new _ _ _⟩ ?_
   rintro X ⟨hX,hB⟩
   have l0:X.cell? ⟨wr.heap.size,0,none⟩=some (.int .i64 x.k):=hB.2.1 0
   have l1:X.cell? ⟨wr.heap.size,1,none⟩=some (.int .i64 x.f):=hB.2.1 1
   have l2:X.cell? ⟨wr.heap.size,2,none⟩=some (.int .i64 x.t):=hB.2.1 2
   have l3:X.cell? ⟨wr.heap.size,3,none⟩=some (.int .i64 x.a):=hB.2.1 3
   have l4:X.cell? ⟨wr.heap.size,4,none⟩=some (.int .i64 x.b):=hB.2.1 4
   have HW:=Lib.hid (And.intro (HG.out.later hX) hX)
   clear hX hB HG c0 c1 c2 c3 c4
   have hz:w.heap.size≤X.heap.size:=HW.out.1.below.size
   have HO:=Lib.hid HW.out.1.own
   by_cases hk1:x.k=kind
   ·by_cases hft:max x.f 0≤min x.t 1114111
    ·have hcut:ofK kind (L.take (k+1))=ofK kind (L.take k)++[⟨max x.f 0,min x.t 1114111,x.a,x.b⟩]:=by
      rw [take_snoc' HX.out,ofK_snoc,show cut1 kind x=some ⟨max x.f 0,min x.t MS,x.a,x.b⟩from if_pos ⟨hk1,hft⟩]
      rfl
     have HC:=Lib.hid hcut
     clear hcut
     go_quiet (fail)
     go_wp2_with (at_builtin;refine wpList_push span_elt (ownDrew HO.out _) (by simpa using hz) rfl rfl rfl rfl (by simp) rfl rfl (by unfold maxLen;omega) (by omega) ?_;intro A3 c3 w3 hp;have HP:=Lib.hid hp;clear hp)
     go_roundw
     case rel=>exact⟨k+1,_,_,_,by omega,by go_num,rfl,by omega,by rw [HC.out];exact HW.out.1.push (selfDrew _ _) HP.out⟩
     case measure=>simp [intOf];omega
    ·have hcut:ofK kind (L.take (k+1))=ofK kind (L.take k):=by
      rw [take_snoc' HX.out,ofK_snoc,show cut1 kind x=none from if_neg fun h=>hft h.2]
      simp
     have HC:=Lib.hid hcut
     clear hcut
     go_quiet (fail)
     go_wp2
     go_roundw
     case rel=>exact⟨k+1,_,_,_,by omega,by go_num,rfl,by omega,by rw [HC.out];exact HW.out.1.later (selfDrew _ _)⟩
     case measure=>simp [intOf];omega
   ·have hcut:ofK kind (L.take (k+1))=ofK kind (L.take k):=by
     rw [take_snoc' HX.out,ofK_snoc,show cut1 kind x=none from if_neg fun h=>hk1 h.1]
     simp
    have HC:=Lib.hid hcut
    clear hcut
    go_quiet (fail)
    go_wp2
    go_roundw
    case rel=>exact⟨k+1,_,_,_,by omega,by go_num,rfl,by omega,by rw [HC.out];exact HW.out.1.later (selfDrew _ _)⟩
    case measure=>simp [intOf];omega
  ·obtain rfl:k=L.length:=by omega
   rw [List.take_length]at HG
   have HT:=Lib.hid HG.out.tells
   clear HG hlt
   go_wp2
   go_ret
   exact HT.out
end Go.Proofs.YtlopleeopnnoeaaGreat.RW
namespace Go.Proofs.YtlopleeopnnoeaaGreat.RW
open Go.RowKit
def NextInv (N:List Nat)(T:Nat→Prop)(m:Nat):Prop:=N.length=m+1∧∀j,j≤m→j≤N.getD j 0∧N.getD j 0≤m∧(N.getD j 0=j↔¬T j)∧∀q,j≤q→q<N.getD j 0→T q
theorem NextInv.set {N:List Nat}{T:Nat→Prop}{m i e:Nat}(h:NextInv N T m)(hi:i<e)(he:e≤m)(ht:∀q,i≤q→q<e→T q):NextInv (N.set i e) T m:=by
 refine⟨by simp [h.1],fun j hj=> ?_⟩
 have hl:=h.1
 by_cases hji:j=i
 ·subst hji
  have e1:(N.set j e).getD j 0=e:=by simp [List.getD,show j<N.length by omega]
  rw [e1]
  exact⟨by omega,he,⟨fun h'=>by omega,fun h'=>absurd (ht j (Nat.le_refl _) hi) h'⟩,ht⟩
 ·have e1:(N.set i e).getD j 0=N.getD j 0:=by simp [List.getD,List.getElem?_set,Ne.symm hji]
  rw [e1]
  exact h.2 j hj
theorem NextInv.take {N:List Nat}{T T':Nat→Prop}{m i:Nat}(h:NextInv N T m)(hi:i+1≤m)(ht:∀q,T' q↔T q∨q=i):NextInv (N.set i (i+1)) T' m:=by
 refine⟨by simp [h.1],fun j hj=> ?_⟩
 have hl:=h.1
 by_cases hji:j=i
 ·subst hji
  have e1:(N.set j (j+1)).getD j 0=j+1:=by simp [List.getD,show j<N.length by omega]
  rw [e1]
  exact⟨by omega,hi,⟨fun h'=>by omega,fun h'=>absurd ((ht j).2 (.inr rfl)) h'⟩,fun q h1 h2=>(ht q).2 (.inr (by omega))⟩
 ·have e1:(N.set i (i+1)).getD j 0=N.getD j 0:=by simp [List.getD,List.getElem?_set,Ne.symm hji]
  rw [e1]
  obtain⟨h1,h2,h3,h4⟩:=h.2 j hj
  exact⟨h1,h2,by rw [h3,ht];simp [hji],fun q a b=>(ht q).2 (.inl (h4 q a b))⟩
def Nx (w:World)(g:Nat)(N:List Nat):Prop:=∃cs,Blk w g cs∧∀j,j<N.length→cs[j]? =some (.int .i64 ((N.getD j 0:Nat):Int))
theorem Nx.cell {w:World}{g:Nat}{N:List Nat}(h:Nx w g N){j:Nat}(hj:j<N.length):w.cell? ⟨g,j,none⟩=some (.int .i64 ((N.getD j 0:Nat):Int)):=by
 obtain⟨cs,hB,hc⟩:=h
 rw [hB.2.1];exact hc j hj
theorem Nx.free {w:World}{g:Nat}{N:List Nat}(h:Nx w g N)(j:Nat):w.frozen? ⟨g,j,none⟩=false:=by
 obtain⟨cs,hB,hc⟩:=h
 exact hB.2.2 j
theorem Nx.lt {w:World}{g:Nat}{N:List Nat}(h:Nx w g N):g<w.heap.size:=by
 obtain⟨cs,hB,hc⟩:=h
 exact hB.1
theorem Nx.set {w:World}{g:Nat}{N:List Nat}(h:Nx w g N)(j:Nat)(hj:j<N.length)(u:Nat):Nx (w.setCell ⟨g,j,none⟩ (.int .i64 (u:Int))) g (N.set j u):=by
 obtain⟨cs,hB,hc⟩:=h
 have hjc:j<cs.size:=by
  have:=hc j hj
  rcases Nat.lt_or_ge j cs.size with h'|h'
  ·exact h'
  ·rw [Array.getElem?_eq_none h']at this;cases this
 refine⟨_,hB.set_ j hjc _,fun i hi=> ?_⟩
 simp at hi
 by_cases hij:j=i
 ·subst hij
  simp [hjc,List.getD,hj]
 ·rw [Array.getElem?_setIfInBounds_ne hij,hc i hi]
  simp [List.getD,List.getElem?_set,hij]
theorem Nx.later {w w':World}{g B:Nat}{N:List Nat}(h:Nx w g N)(hb:Below B w w')(hg:g<B):Nx w' g N:=by
 obtain⟨cs,hB,hc⟩:=h
 exact⟨cs,hB.later hb hg,hc⟩
theorem Nx.grown {w w':World}{g:Nat}{row:Option Nat}{N:List Nat}(h:Nx w g N)(hg:w.grownBy w' row)(hne:some g≠row):Nx w' g N:=by
 obtain⟨cs,hB,hc⟩:=h
 exact⟨cs,hB.grown hg hne,hc⟩
theorem grown_set (w:World)(g j:Nat)(u:Value):w.grownBy (w.setCell ⟨g,j,none⟩ u) (some g):=
 ⟨rfl,rfl,rfl,by rw [World.size_setCell];exact Nat.le_refl _,fun k _ hne=>Below.heap_setCell w ⟨g,j,none⟩ u k (fun e=>hne (by rw [e]))⟩
theorem grown_trans {a b c:World}{g:Nat}(h:a.grownBy b (some g))(k:b.grownBy c (some g)):a.grownBy c (some g):=
 ⟨k.os.trans h.os,k.tape.trans h.tape,k.output.trans h.output,Nat.le_trans h.size k.size,fun i hi hn=>(k.block i (Nat.lt_of_lt_of_le hi h.size) hn).trans (h.block i hi hn)⟩
def FreeAt (T:Nat→Prop)(m i e:Nat):Prop:=i≤e∧e≤m∧¬T e∧∀q,i≤q→q<e→T q
set_option maxHeartbeats 4000000 in
set_option maxRecDepth 100000 in
theorem free_any (g c m i:Nat)(N:List Nat)(T:Nat→Prop)(w:World)(hN:Nx w g N)(hI:NextInv N T m)(hi:i≤m)(hm:m<1000000):
  Calls Tryz.prog 105 #[.slice (some ⟨g,0,none⟩) (m+1) c,.int .i64 i] w fun e w'=>∃ (r:Nat) (N':List Nat),e= .returned (.int .i64 r)∧FreeAt T m i r∧NextInv N' T m∧Nx w' g N'∧w.grownBy w' (some g):=by
 have HN:=Lib.hid hN
 have HI:=Lib.hid hI
 clear hN hI
 go_enter Tryz.func105,Tryz.ntmps105
 go_wp2
 go_loop [5] (fun v=>∃e:Nat,v= .int .i64 e∧i≤e∧e≤m∧Hid (∀q,i≤q→q<e→T q)) (fun v=>m -(intOf v).toNat)
 case atStart=>exact⟨i,rfl,Nat.le_refl _,hi,fun q a b=>absurd b (by omega)⟩
 case round=>
  obtain⟨e,rfl,he1,he2,HQ⟩:=hrel
  have hc:=HN.out.cell (j:=e) (by rw [HI.out.1];omega)
  obtain⟨f,hf⟩:∃f,N.getD e 0=f:=⟨_,rfl⟩
  obtain⟨h1,h2,h3,h4⟩:=HI.out.2 e he2
  rw [hf]at hc h1 h2 h3 h4
  by_cases hfe:f=e
  ·subst hfe
   have HF:=Lib.hid (show FreeAt T m i f from⟨he1,he2,h3.1 rfl,HQ.out⟩)
   clear hf h1 h2 h3 h4 HQ
   go_wp2
   go_loopw [1] (fun iv wr=>∃ (q:Nat) (N':List Nat),iv= .int .i64 q∧q≤f∧Hid (NextInv N' T m∧Nx wr g N'∧(∀x,q≤x→x<f→T x)∧w.grownBy wr (some g))) (fun iv _=>f -(intOf iv).toNat)
   case atStart=>exact⟨i,N,rfl,he1,HI.out,HN.out,HF.out.2.2.2,World.grownBy.refl w _⟩
   case round=>
    obtain⟨q,N',rfl,hq,HZ⟩:=hrel
    obtain⟨k1,k2,k3,k4⟩:=HZ.out.1.2 q (by omega)
    have hcq:=HZ.out.2.1.cell (j:=q) (by rw [HZ.out.1.1];omega)
    have hfq:=HZ.out.2.1.free q
    have hlq:=HZ.out.2.1.lt
    obtain⟨f',hf'⟩:∃f',N'.getD q 0=f':=⟨_,rfl⟩
    rw [hf']at hcq k1 k2 k3 k4
    clear hf' hc
    by_cases hff:f'=f
    ·subst hff
     clear k3 k4
     have HR:=Lib.hid (And.intro HZ.out.1 (And.intro HZ.out.2.1 HZ.out.2.2.2))
     clear HZ
     go_wp2
     go_ret
     exact⟨f',N',rfl,HF.out,HR.out.1,HR.out.2.1,HR.out.2.2⟩
    ·have hqf:q<f:=by
      rcases Nat.lt_or_eq_of_le hq with h|h
      ·exact h
      ·subst h;exact absurd (k3.2 HF.out.2.2.1) hff
     have hqf':q<f':=by
      rcases Nat.lt_or_eq_of_le k1 with h|h
      ·exact h
      ·exact absurd (HZ.out.2.2.1 q (Nat.le_refl _) hqf) (k3.1 h.symm)
     have hff':f'<f:=by
      rcases Nat.lt_or_ge f f' with h|h
      ·exact absurd (k4 f (by omega) h) HF.out.2.2.1
      ·omega
     have hne:((f':Int) != (f:Int))=true:=by simp;omega
     have HY:=Lib.hid (show NextInv (N'.set q f) T m∧Nx (wr.setCell ⟨g,q,none⟩ (.int .i64 (f:Int))) g (N'.set q f)∧(∀x,f'≤x→x<f→T x)∧w.grownBy (wr.setCell ⟨g,q,none⟩ (.int .i64 (f:Int))) (some g)from
      ⟨HZ.out.1.set hqf he2 HZ.out.2.2.1,HZ.out.2.1.set q (by rw [HZ.out.1.1];omega) f,fun x a b=>HZ.out.2.2.1 x (by omega) b,grown_trans HZ.out.2.2.2 (grown_set _ _ _ _)⟩)
     clear k3 k4 HZ hff
     go_wp2
     go_roundw
     case rel=>exact⟨f',N'.set q f,rfl,by omega,HY.out⟩
     case measure=>simp [intOf];omega
  ·have hne:((f:Int) != (e:Int))=true:=by simp;omega
   have HQ2:=Lib.hid (show ∀q,i≤q→q<f→T q from fun q a b=>by
    rcases Nat.lt_or_ge q e with h|h
    ·exact HQ.out q a h
    ·exact h4 q h b)
   clear hf h3 h4 HQ
   go_wp2
   go_round
   case rel=>exact⟨f,rfl,by omega,h2,HQ2.out⟩
   case measure=>simp [intOf];omega
end Go.Proofs.YtlopleeopnnoeaaGreat.RW
namespace Go.Proofs.YtlopleeopnnoeaaGreat.RW
open Go.RowKit
theorem jstep_no {D:List Span}{y x:Span}(h:¬(y.t+1=x.f∧y.a=x.a∧y.b=x.b)):jstep (D++[y]) x=D++[y]++[x]:=by
 unfold jstep
 simp only [List.getLast?_append,List.getLast?_singleton,Option.some_or]
 rw [if_neg h]
theorem jstep_yes {D:List Span}{y x:Span}(h:y.t+1=x.f∧y.a=x.a∧y.b=x.b):jstep (D++[y]) x=D++[⟨y.f,x.t,y.a,y.b⟩]:=by
 unfold jstep
 simp only [List.getLast?_append,List.getLast?_singleton,Option.some_or]
 rw [if_pos h]
 simp
theorem foldl_snoc {L:List Span}{k:Nat}{x:Span}(h:L[k]? =some x):(L.take (k+1)).foldl jstep []=jstep ((L.take k).foldl jstep []) x:=by
 rw [take_snoc' h,List.foldl_append]
 rfl
theorem flatS_snoc_get (D:List Span)(y:Span)(i:Nat)(u:Value)(h:(encS y)[i]? =some u):(flatL encS (D++[y]))[D.length*4+i]? =some u:=
 flatL_get encS_len (D++[y]) D.length y i u (by simp) h
theorem flatS_set (D:List Span)(y:Span)(t:Int):(flatL encS (D++[y])).set (D.length*4+1) (.int .i64 t)=flatL encS (D++[⟨y.f,t,y.a,y.b⟩]):=by
 have hl:=flatL_len encS_len D
 rw [flatL_snoc,flatL_snoc,List.set_append,if_neg (by omega),hl,show D.length*4+1 - D.length*4=1 by omega]
 rfl
structure JR (w:World)(L:List Span)(k:Nat)(Ao:Option Addr)(no co:Nat)(D:List Span)(X:World):Prop where
 fold:(L.take k).foldl jstep []=D
 ji:JI (L.take k) D 0 MS
 len:D.length=no
 grows:Grows w 97 4 encS Ao no co D X
set_option maxHeartbeats 4000000 in
set_option maxRecDepth 100000 in
theorem joined_any (A:Option Addr)(c:Nat)(L:List Span)(w:World)(hL:Li 4 encS w (fun _=>True) A L)(hc:L.length≤c)(hn:L.length≤100000)(hR:Rise L)(hb:∀s∈L,0≤s.f∧s.t≤MS):
  Calls Tryz.prog 109 #[.slice A L.length c] w (TellsO 97 4 encS (joinP L) w):=by
 have HL:=Lib.hid hL
 have HR:=Lib.hid hR
 have HB:=Lib.hid hb
 clear hL hR hb
 go_enter Tryz.func109,Tryz.ntmps109
 go_wp2
 go_loopw [3,5,6,9] (fun v _ _ i wr=>∃k:Nat,∃Ao no co,k≤L.length∧i= .int .i64 k∧v= .slice Ao no co∧no≤k∧Hid (∃D,JR w L k Ao no co D wr)) (fun _ _ _ i _=>L.length -(intOf i).toNat)
 case atStart=>exact⟨0,none,0,0,Nat.zero_le _,rfl,rfl,Nat.le_refl _,[],rfl,JI.start _ _,rfl,Grows.start _ _ _⟩
 case round=>
  obtain⟨k,Ao,no,co,hk,rfl,rfl,hno,HG⟩:=hrel
  obtain⟨D,hG⟩:=HG.out
  have HJ:=Lib.hid hG
  clear HG hG
  by_cases hlt:k<L.length
  ·obtain⟨x,b,o,hx,rfl,hbl,_,c0,c1,c2,c3⟩:=(HL.out.later HJ.out.grows.below).span hlt
   have hxm:x∈L:=List.mem_of_getElem? hx
   have xb1:=(HB.out x hxm).1
   have xb2:=HR.out.2 x hxm
   have xb3:x.t≤1114111:=(HB.out x hxm).2
   have hfold:=foldl_snoc hx
   rw [HJ.out.fold]at hfold
   have hji:JI (L.take (k+1)) (jstep D x) 0 MS:=by
    rw [take_snoc' hx]
    refine HJ.out.ji.step xb2 xb1 xb3 fun y hy=> ?_
    have hp:=HR.out.1
    rw [←List.take_append_drop k L]at hp
    have hd:x∈L.drop k:=by
     refine List.mem_of_getElem? (i:=0) ?_
     rw [List.getElem?_drop];simpa using hx
    exact(List.pairwise_append.1 hp).2.2 y hy x hd
   have HX:=Lib.hid (And.intro hfold hji)
   clear hx hxm hfold hji
   go_wp2
   refine at_world (fun X=>Below wr.heap.size wr X∧Blk X wr.heap.size (encS x).toArray) ⟨(Below.refl _ _).alloc (Nat.le_refl _) _,blk_new _ _ _⟩ ?_
   rintro X ⟨hX,hB⟩
   have l0:X.cell? ⟨wr.heap.size,0,none⟩=some (.int .i64 x.f):=hB.2.1 0
   have l1:X.cell? ⟨wr.heap.size,1,none⟩=some (.int .i64 x.t):=hB.2.1 1
   have l2:X.cell? ⟨wr.heap.size,2,none⟩=some (.int .i64 x.a):=hB.2.1 2
   have l3:X.cell? ⟨wr.heap.size,3,none⟩=some (.int .i64 x.b):=hB.2.1 3
   have HW:=Lib.hid (And.intro (HJ.out.grows.later hX) hX)
   have hz:w.heap.size≤X.heap.size:=HW.out.1.below.size
   have HO:=Lib.hid HW.out.1.own
   clear hX hB c0 c1 c2 c3
   rcases Nat.eq_zero_or_pos no with h0|hpos
   ·have hD:D=[]:=List.eq_nil_of_length_eq_zero (by rw [HJ.out.len,h0])
    have HD:=Lib.hid (show jstep D x=D++[x]by rw [hD];rfl)
    clear hD
    have z0:=Lib.hid h0
    clear h0
    have g1:¬(1≤(no:Int)):=by have:=z0.out;omega
    have g2:decide ((0:Int)≤(no:Int) - 1)=false:=decide_eq_false (by have:=z0.out;omega)
    have g3:decide ((1:Int)≤(no:Int))=false:=decide_eq_false (by have:=z0.out;omega)
    go_quiet (fail)
    go_wp2_with (at_builtin;refine wpList_push span_elt (ownDrew HO.out _) (by simpa using hz) rfl rfl rfl rfl (by simp) rfl rfl (by unfold maxLen;omega) (by omega) ?_;intro A3 c3 w3 hp;have HP:=Lib.hid hp;clear hp)
    go_roundw
    case rel=>exact⟨k+1,_,_,_,by omega,by go_num,rfl,by omega,jstep D x,HX.out.1,HX.out.2,by rw [HD.out];have:=HJ.out.len;simp only [List.length_append,List.length_singleton]at this ⊢;omega,by rw [HD.out];exact HW.out.1.push (selfDrew _ _) HP.out⟩
    case measure=>simp [intOf];omega
   ·obtain⟨g,cs,rfl,hgb,hBk,_,_,_,hcs⟩:=own_blk HO.out hpos
    obtain⟨D',y,rfl⟩:∃D' y,D=D'++[y]:=by
     rcases List.eq_nil_or_concat D with h|⟨S,y,h⟩
     ·have:=HJ.out.len;rw [h]at this;simp at this;omega
     ·exact⟨S,y,by rw [h,List.concat_eq_append]⟩
    have hD':D'.length=no - 1:=by have:=HJ.out.len;simp at this;omega
    have yb:=HJ.out.ji.bd y (by simp)
    have yb1:=yb.1
    have yb2:y.t≤1114111:=yb.2
    have yb3:=HJ.out.ji.rise.2 y (by simp)
    have ow (i:Nat) (u:Value) (hu:(encS y)[i]? =some u):X.cell? ⟨g,(no - 1)*4+i,none⟩=some u:=by
     rw [hBk.2.1]
     refine hcs _ _ ?_
     rw [←hD']
     exact flatS_snoc_get D' y i u hu
    have m1:=ow 1 _ rfl
    have m2:=ow 2 _ rfl
    have m3:=ow 3 _ rfl
    have mf:=hBk.2.2 ((no - 1)*4+1)
    have ml:=hBk.1
    clear hcs ow yb hBk
    have g1:(1≤(no:Int)):=by omega
    have g2:decide ((0:Int)≤(no:Int) - 1)=true:=decide_eq_true (by omega)
    have g3:decide ((1:Int)≤(no:Int))=true:=decide_eq_true (by omega)
    have g4:(no:Int) - 1<(no:Int):=by omega
    have g5:((no:Int) - 1).toNat=no - 1:=by omega
    by_cases e1:y.t+1=x.f
    ·have d1:(y.t+1==x.f)=true:=by simpa using e1
     by_cases e2:y.a=x.a
     ·have d2:(y.a==x.a)=true:=by simpa using e2
      by_cases e3:y.b=x.b
      ·have d3:(y.b==x.b)=true:=by simpa using e3
       have HD:=Lib.hid (jstep_yes (D:=D') ⟨e1,e2,e3⟩)
       clear e1 e2 e3
       have HS:=Lib.hid (show ∀q,((X.drewN q).setCell ⟨g,(no - 1)*4+1,none⟩ (.int .i64 x.t)).ownsRow w.heap.size 97 4 (.slice (some ⟨g,0,none⟩) no co) no (flatL encS (D'++[⟨y.f,x.t,y.a,y.b⟩]))∧Below w.heap.size w ((X.drewN q).setCell ⟨g,(no - 1)*4+1,none⟩ (.int .i64 x.t))from by
        intro q
        have h:=((ownDrew HO.out q).stored ((no - 1)*4+1) (.int .i64 x.t)).1
        rw [←hD',flatS_set]at h
        rw [←hD']
        exact⟨h,(belDrew HW.out.1.below q).setCell hgb _⟩)
       go_quiet (fail)
       go_wp2
       go_roundw
       case rel=>exact⟨k+1,_,_,_,by omega,by go_num,rfl,by omega,jstep _ x,HX.out.1,HX.out.2,by rw [HD.out];have:=HJ.out.len;simp only [List.length_append,List.length_singleton]at this ⊢;omega,by rw [HD.out];exact⟨(HS.out _).1,(HS.out _).2⟩⟩
       case measure=>simp [intOf];omega
      ·have d3:(y.b==x.b)=false:=by simpa using e3
       have HD:=Lib.hid (jstep_no (D:=D') (y:=y) (x:=x) (fun h=>e3 h.2.2))
       clear e1 e2 e3
       go_quiet (fail)
       go_wp2_with (at_builtin;refine wpList_push span_elt (ownDrew HO.out _) (by simpa using hz) rfl rfl rfl rfl (by simp) rfl rfl (by unfold maxLen;omega) (by omega) ?_;intro A3 c3 w3 hp;have HP:=Lib.hid hp;clear hp)
       go_roundw
       case rel=>exact⟨k+1,_,_,_,by omega,by go_num,rfl,by omega,jstep _ x,HX.out.1,HX.out.2,by rw [HD.out];have:=HJ.out.len;simp only [List.length_append,List.length_singleton]at this ⊢;omega,by rw [HD.out];exact HW.out.1.push (selfDrew _ _) HP.out⟩
       case measure=>simp [intOf];omega
     ·have d2:(y.a==x.a)=false:=by simpa using e2
      have HD:=Lib.hid (jstep_no (D:=D') (y:=y) (x:=x) (fun h=>e2 h.2.1))
      clear e1 e2
      go_quiet (fail)
      go_wp2_with (at_builtin;refine wpList_push span_elt (ownDrew HO.out _) (by simpa using hz) rfl rfl rfl rfl (by simp) rfl rfl (by unfold maxLen;omega) (by omega) ?_;intro A3 c3 w3 hp;have HP:=Lib.hid hp;clear hp)
      go_roundw
      case rel=>exact⟨k+1,_,_,_,by omega,by go_num,rfl,by omega,jstep _ x,HX.out.1,HX.out.2,by rw [HD.out];have:=HJ.out.len;simp only [List.length_append,List.length_singleton]at this ⊢;omega,by rw [HD.out];exact HW.out.1.push (selfDrew _ _) HP.out⟩
      case measure=>simp [intOf];omega
    ·have d1:(y.t+1==x.f)=false:=by simpa using e1
     have HD:=Lib.hid (jstep_no (D:=D') (y:=y) (x:=x) (fun h=>e1 h.1))
     clear e1
     go_quiet (fail)
     go_wp2_with (at_builtin;refine wpList_push span_elt (ownDrew HO.out _) (by simpa using hz) rfl rfl rfl rfl (by simp) rfl rfl (by unfold maxLen;omega) (by omega) ?_;intro A3 c3 w3 hp;have HP:=Lib.hid hp;clear hp)
     go_roundw
     case rel=>exact⟨k+1,_,_,_,by omega,by go_num,rfl,by omega,jstep _ x,HX.out.1,HX.out.2,by rw [HD.out];have:=HJ.out.len;simp only [List.length_append,List.length_singleton]at this ⊢;omega,by rw [HD.out];exact HW.out.1.push (selfDrew _ _) HP.out⟩
     case measure=>simp [intOf];omega
  ·obtain rfl:k=L.length:=by omega
   have hD:=HJ.out.fold
   rw [List.take_length]at hD
   have HT:=Lib.hid (show TellsO 97 4 encS (joinP L) w (.returned (.slice Ao no co)) wr by unfold joinP;rw [hD];exact HJ.out.grows.tells)
   clear HJ hD hlt
   go_wp2
   go_ret
   exact HT.out
end Go.Proofs.YtlopleeopnnoeaaGreat.RW
namespace Go.Proofs.YtlopleeopnnoeaaGreat.RW
open Go.RowKit
def ends (S:List Span):List Int:=S.flatMap fun s=>[s.f,s.t+1]
def cutsP (S:List Span):List Int:=sortedOnce (ends S)
theorem cuts_ok (S:List Span):Cuts S (cutsP S):=by
 refine⟨sortedOnce_lt _,fun c=> ?_⟩
 unfold cutsP
 rw [sortedOnce_mem,ends,List.mem_flatMap]
 simp
theorem ends_snoc {S:List Span}{k:Nat}{x:Span}(h:S[k]? =some x):ends (S.take (k+1))=ends (S.take k)++[x.f,x.t+1]:=by
 rw [take_snoc' h,ends,List.flatMap_append]
 rfl
theorem ends_len (S:List Span):(ends S).length=2*S.length:=by
 induction S with
 |nil=>rfl
 |cons s S ih=>simp only [ends,List.flatMap_cons,List.length_append,List.length_cons,List.length_nil]at ih ⊢;omega
theorem cut_calls_out {w X:World}{no co n q g:Nat}{E:TypeId}{zs:List Int}{os:Array Obj}(h:X.ownsRow w.heap.size E 1 (.slice (some ⟨g,0,none⟩) no co) no (flatL encI zs))(hb:Below w.heap.size w X)
  (Y:World) (hY:Y=Go.Sort.grow (Go.Sort.putRow (Value.int .i64) (Go.Sort.ahead X n) g 0 (zs.mergeSort fun x y=>decide (x≤y)).toArray) os) (Z:World) (hZ:Z=Go.Sort.putRow (Value.int .i64) (Go.Sort.ahead Y q) g 0 (sortedOnce zs++List.replicate ((zs.mergeSort fun x y=>decide (x≤y)).length -(sortedOnce zs).length) 0).toArray):
  Z.ownsRow w.heap.size E 1 (.slice (some ⟨g,0,none⟩) (sortedOnce zs).length co) (sortedOnce zs).length (flatL encI (sortedOnce zs))∧Below w.heap.size w Z:=by
 have hl:=own_count encI_len (by decide) h
 have hm:(zs.mergeSort fun x y=>decide (x≤y)).length=no:=by rw [List.length_mergeSort];exact hl
 have hk:=sortedOnce_len zs
 obtain⟨h1,h2⟩:=own_sorted (os:=os) (q:=n) h hb hb.size hm
 rw [←hY]at h1 h2
 have hc:=own_cut (q:=q) (k:=(sortedOnce zs).length) h1 h2 (ys:=sortedOnce zs++List.replicate ((zs.mergeSort fun x y=>decide (x≤y)).length -(sortedOnce zs).length) 0) (by simp;omega) (by omega)
 rw [←hZ]at hc
 rwa [List.take_left']at hc
 rfl
set_option maxHeartbeats 4000000 in
set_option maxRecDepth 100000 in
theorem cutsOf_any (A:Option Addr)(c:Nat)(L:List Span)(w:World)(hL:Li 4 encS w (fun _=>True) A L)(hc:L.length≤c)(hn:L.length≤100000)(hb:∀s∈L,0≤s.f∧s.f≤s.t∧s.t≤MS):
  Calls Tryz.prog 103 #[.slice A L.length c] w (TellsO 3 1 encI (cutsP L) w):=by
 have HL:=Lib.hid hL
 have HB:=Lib.hid hb
 clear hL hb
 go_enter Tryz.func103,Tryz.ntmps103
 go_wp2
 go_loopw [3,5,8] (fun v _ i wr=>∃k:Nat,∃Ao co,k≤L.length∧i= .int .i64 k∧v= .slice Ao (2*k) co∧Hid (Grows w 3 1 encI Ao (2*k) co (ends (L.take k)) wr)) (fun _ _ i _=>L.length -(intOf i).toNat)
 case atStart=>exact⟨0,none,0,Nat.zero_le _,rfl,rfl,Grows.start _ _ _⟩
 case round=>
  obtain⟨k,Ao,co,hk,rfl,rfl,HG⟩:=hrel
  by_cases hlt:k<L.length
  ·obtain⟨x,b,o,hx,rfl,hbl,_,c0,c1,c2,c3⟩:=(HL.out.later HG.out.below).span hlt
   have hxm:x∈L:=List.mem_of_getElem? hx
   have xb1:=(HB.out x hxm).1
   have xb2:=(HB.out x hxm).2.1
   have xb3:x.t≤1114111:=(HB.out x hxm).2.2
   have HX:=Lib.hid (ends_snoc hx)
   clear hx hxm
   have hz:=HG.out.below.size
   go_wp2_with (at_builtin;refine wpList_pushM int_elt (HG.out.own.alloc _) (by simp;omega) rfl rfl rfl rfl (by simp) rfl rfl (by unfold maxLen;omega) (by omega) ?_;intro A3 c3 w3 hp;have HP:=Lib.hid hp;clear hp)
   go_roundw
   case rel=>exact⟨k+1,_,_,by omega,by go_num,rfl,by rw [HX.out];exact HG.out.pushM ((Below.refl _ _).alloc (Nat.le_refl _) _) rfl HP.out⟩
   case measure=>simp [intOf];omega
  ·obtain rfl:k=L.length:=by omega
   rw [List.take_length]at HG
   rcases Nat.eq_zero_or_pos L.length with h0|hpos
   ·have e1:ends L=[]:=List.eq_nil_of_length_eq_zero (by rw [ends_len];omega)
    have e2:cutsP L=[]:=List.eq_nil_of_length_eq_zero (by have:=sortedOnce_len (ends L);rw [e1]at this;simpa [cutsP,e1]using this)
    obtain⟨N,hN⟩:∃N,2*L.length=N:=⟨_,rfl⟩
    rw [hN]at HG
    obtain rfl:N=0:=by omega
    have HT:=Lib.hid (show TellsO 3 1 encI (cutsP L) w (.returned (.slice Ao 0 co)) wr from⟨Ao,0,co,rfl,by rw [e2];have:=HG.out.own;rw [e1]at this;exact this,HG.out.below⟩)
    clear HG e1 e2
    go_wp2_with fail
    rw [hN]
    go_wp2_with (first|(go_at_call 98;refine(sort_none _ _ _).mono ?_;rintro e w' ⟨rfl,rfl⟩)|(go_at_call 99;refine(compact_none _ _ _).mono ?_;rintro e w' ⟨rfl,rfl⟩))
    go_ret
    exact HT.out
   ·obtain⟨g,rfl,hgb,hgs,hnc,hcm,hH⟩:=holds_own HG.out.own (by omega)
    have c1:=sort_ints g 0 co (ends L) wr hH hgs (by rw [ends_len];omega)
    rw [ends_len]at c1
    have C1:=Lib.hid c1
    clear c1
    have hml:((ends L).mergeSort fun x y=>decide (x≤y)).length=2*L.length:=by rw [List.length_mergeSort,ends_len]
    have hb:=HG.out.below.size
    have c2:∀Y n os,Y=Go.Sort.grow (Go.Sort.putRow (Value.int .i64) (Go.Sort.ahead wr n) g 0 ((ends L).mergeSort fun x y=>decide (x≤y)).toArray) os→Calls Tryz.prog 99 #[.slice (some ⟨g,0,none⟩) (2*L.length) co] Y fun e w'=>e= .returned (.slice (some ⟨g,0,none⟩) (cutsP L).length co)∧TellsO 3 1 encI (cutsP L) w (.returned (.slice (some ⟨g,0,none⟩) (cutsP L).length co)) w':=by
     intro Y n os hY
     have hs:=own_sorted (os:=os) (q:=n) HG.out.own HG.out.below hb hml
     rw [←hY]at hs
     obtain⟨g',e,_,h2,h3,h4,h5⟩:=holds_own hs.1 (by omega)
     injection e with e
     injection e with e
     subst e
     have:=compact_ints g 0 co _ Y h5 (by omega) (by omega)
     rw [hml]at this
     refine this.mono ?_
     rintro e w' ⟨rfl,q,rfl⟩
     have hc:=cut_calls_out (q:=q) HG.out.own HG.out.below Y hY _ (by rw [hml])
     exact⟨rfl,_,_,_,rfl,hc.1,hc.2⟩
    have C2:=Lib.hid c2
    clear c2
    clear HG hH hml
    go_wp2_with fail
    refine C1.out.mono ?_
    rintro e w1 ⟨rfl,n,os,hY⟩
    have C3:=Lib.hid (C2.out w1 n os hY)
    clear hY C2 C1
    go_wp2_with fail
    refine C3.out.mono ?_
    rintro e w2 ⟨rfl,hT⟩
    have HT:=Lib.hid hT
    clear hT
    go_wp2_with fail
    go_ret
    exact HT.out
end Go.Proofs.YtlopleeopnnoeaaGreat.RW
namespace Go.Proofs.YtlopleeopnnoeaaGreat.RW
structure OQ (C:List Int)(D:List Span)(fr tx:Nat)(Q:List Nat):Prop where
 nodup:Q.Nodup
 bd:∀q∈Q,q+1<C.length
 a:∀q∈Q,cov D (cAt C q)∨(fr≤q∧q<tx)
 b:∀q,q+1<C.length→cov D (cAt C q)→q∈Q
theorem OQ.start (C:List Int):OQ C [] 0 0 []:=⟨List.nodup_nil,by simp,by simp,fun q _ ⟨s,hs,_⟩=>by cases hs⟩
theorem OQ.wide {C:List Int}{D:List Span}{Q:List Nat}(h:OQ C D 0 0 Q)(fr tx:Nat):OQ C D fr tx Q:=⟨h.nodup,h.bd,fun q hq=>(h.a q hq).elim .inl fun h=>by omega,h.b⟩
theorem OQ.push {C:List Int}{D:List Span}{Q:List Nat}{fr tx i:Nat}(h:OQ C D fr tx Q)(hi:i ∉ Q)(h1:fr≤i)(h2:i<tx)(h3:tx<C.length):OQ C D fr tx (Q++[i]):=by
 refine⟨?_,?_,?_,fun q h4 h5=>by simp [h.b q h4 h5]⟩
 ·rw [List.nodup_append]
  refine⟨h.nodup,by simp,fun a ha b hb=> ?_⟩
  simp at hb
  subst hb
  intro e
  exact hi (e▸ha)
 ·intro q hq
  rcases List.mem_append.1 hq with hq|hq
  ·exact h.bd q hq
  ·simp at hq;omega
 ·intro q hq
  rcases List.mem_append.1 hq with hq|hq
  ·exact h.a q hq
  ·simp at hq;subst hq;exact .inr ⟨h1,h2⟩
theorem OQ.seg {C:List Int}{D R:List Span}{x:Span}{Q:List Nat}{fr tx i:Nat}(h:OQ C D fr tx Q)(hi:i ∉ Q)(hm:i+1<C.length)(h1:x.f≤cAt C i)(h2:cAt C i≤x.t):Go.Proofs.YtlopleeopnnoeaaGreat.RW.seg (D++x::R) C i=⟨cAt C i,cAt C (i+1) - 1,x.a,x.b⟩:=by
 have hv:val D (cAt C i)=none:=by
  cases hv:val D (cAt C i)with
  |none=>rfl
  |some p=>exact absurd (h.b i hm (cov_val.2 (by rw [hv];rfl))) hi
 have:val (D++x::R) (cAt C i)=some (x.a,x.b):=by
  rw [val_append,hv]
  unfold val
  rw [List.find?_cons_of_pos (by simp [Span.has];omega)]
  rfl
 simp only [Go.Proofs.YtlopleeopnnoeaaGreat.RW.seg,this]
 rfl
theorem cov_snoc {D:List Span}{x:Span}{r:Int}:cov (D++[x]) r↔cov D r∨(x.f≤r∧r≤x.t):=by
 unfold cov
 constructor
 ·rintro⟨s,hs,h⟩
  rcases List.mem_append.1 hs with hs|hs
  ·exact .inl ⟨s,hs,h⟩
  ·simp at hs;subst hs;exact .inr h
 ·rintro(⟨s,hs,h⟩|h)
  ·exact⟨s,by simp [hs],h⟩
  ·exact⟨x,by simp,h⟩
theorem OQ.done {C:List Int}{D:List Span}{x:Span}{Q:List Nat}{fr tx:Nat}(hC:C.Pairwise (· < ·))(h:OQ C D fr tx Q)(hto:tx<C.length)(hfr:fr<C.length)(h1:cAt C fr=x.f)(h2:cAt C tx=x.t+1)(hall:∀q,fr≤q→q<tx→q∈Q):OQ C (D++[x]) 0 0 Q:=by
 have key:∀q,q<C.length→((x.f≤cAt C q∧cAt C q≤x.t)↔(fr≤q∧q<tx)):=by
  intro q hq
  constructor
  ·rintro⟨a,b⟩
   constructor
   ·rcases Nat.lt_or_ge q fr with h'|h'
    ·have:=cAt_lt hC h' hfr;omega
    ·exact h'
   ·rcases Nat.lt_or_ge q tx with h'|h'
    ·exact h'
    ·have:=cAt_le hC h' hq;omega
  ·rintro⟨a,b⟩
   have e1:=cAt_le hC a hq
   have e2:=cAt_lt hC b hto
   omega
 refine⟨h.nodup,h.bd,fun q hq=> ?_,fun q hq hc=> ?_⟩
 ·left
  rw [cov_snoc]
  rcases h.a q hq with h'|h'
  ·exact .inl h'
  ·exact .inr ((key q (by have:=h.bd q hq;omega)).2 h')
 ·rcases cov_snoc.1 hc with h'|h'
  ·exact h.b q hq h'
  ·obtain⟨a,b⟩:=(key q (by omega)).1 h'
   exact hall q a b
theorem OQ.all {C:List Int}{S:List Span}{Q:List Nat}(h:OQ C S 0 0 Q)(q:Nat):q∈Q↔q+1<C.length∧cov S (cAt C q):=
 ⟨fun hq=>⟨h.bd q hq,(h.a q hq).elim id fun h=>by omega⟩,fun⟨a,b⟩=>h.b q a b⟩
theorem segs_sorted {C:List Int}{S:List Span}{Q:List Nat}{d:List Span}(hC:C.Pairwise (· < ·))(h:OQ C S 0 0 Q)(hp:d.Perm (Q.map (seg S C)))(hs:d.Pairwise (fun x y=>¬y.f<x.f)):
  ∃Q':List Nat,(∀q,q∈Q'↔q+1<C.length∧cov S (cAt C q))∧Q'.Pairwise (· < ·)∧d=Q'.map (seg S C):=by
 let idx:Span→Nat:=fun s=>C.countP (fun c=>decide (c<s.f))
 have hidx:∀q,q+1<C.length→idx (seg S C q)=q:=by
  intro q hq
  obtain⟨h1,h2⟩:=count_at hC (x:=cAt C q) (cAt_mem (by omega))
  have:C.countP (fun c=>decide (c<cAt C q))=q:=by
   rcases Nat.lt_trichotomy (C.countP (fun c=>decide (c<cAt C q))) q with h'|h'|h'
   ·have:=cAt_lt hC h' (by omega);omega
   ·exact h'
   ·have:=cAt_lt hC h' h1;omega
  exact this
 have hmem:∀s∈d,∃q,q∈Q∧s=seg S C q:=by
  intro s hs
  obtain⟨q,hq,e⟩:=List.mem_map.1 (hp.mem_iff.1 hs)
  exact⟨q,hq,e.symm⟩
 have hback:d=(d.map idx).map (seg S C):=by
  rw [List.map_map]
  conv=>lhs;rw [←List.map_id d]
  apply List.map_congr_left
  intro s hs
  obtain⟨q,hq,rfl⟩:=hmem s hs
  simp only [id,Function.comp,hidx q (h.bd q hq)]
 have hperm:(d.map idx).Perm Q:=by
  have:=hp.map idx
  rw [List.map_map]at this
  have e:Q.map (idx∘seg S C)=Q:=by
   conv=>rhs;rw [←List.map_id Q]
   apply List.map_congr_left
   intro q hq
   simp only [Function.comp,id,hidx q (h.bd q hq)]
  rwa [e]at this
 refine⟨d.map idx,fun q=>by rw [hperm.mem_iff];exact h.all q,?_,hback⟩
 have hn:(d.map idx).Nodup:=hperm.nodup_iff.2 h.nodup
 have hle:(d.map idx).Pairwise (· ≤ ·):=by
  rw [List.pairwise_map]
  refine List.Pairwise.imp_of_mem ?_ hs
  intro a b ha hb hab
  obtain⟨q,hq,rfl⟩:=hmem a ha
  obtain⟨r,hr,rfl⟩:=hmem b hb
  rw [hidx q (h.bd q hq),hidx r (h.bd r hr)]
  rcases Nat.lt_or_ge r q with h'|h'
  ·exact absurd (cAt_lt hC h' (by have:=h.bd q hq;omega)) hab
  ·exact h'
 refine(hle.and hn).imp ?_
 intro a b ⟨h1,h2⟩
 omega
theorem nodup_len:∀ (m:Nat) (Q:List Nat),Q.Nodup→(∀q∈Q,q<m)→Q.length≤m
 |0,Q,_,h=>by
  cases Q with
  |nil=>exact Nat.le_refl _
  |cons q Q=>have:=h q (by simp);omega
 |m+1,Q,hn,h=>by
  have h1:=nodup_len m (Q.filter fun q=>q != m) (hn.filter _) (fun q hq=>by
   have h2:=List.mem_filter.1 hq
   have h3:=h q h2.1
   have h4:q≠m:=by simpa using h2.2
   omega)
  have h2:Q.length≤(Q.filter fun q=>q != m).length+1:=by
   clear h h1
   induction Q with
   |nil=>simp
   |cons q Q ih=>
    obtain⟨ha,hn⟩:=List.nodup_cons.1 hn
    by_cases e:q=m
    ·subst e
     have:Q.filter (fun x=>x != q)=Q:=List.filter_eq_self.2 fun x hx=>by
      have:x≠q:=fun e=>ha (e▸hx)
      simpa using this
     simp [this]
    ·have:=ih hn
     simp [e];omega
  omega
theorem OQ.len {C:List Int}{D:List Span}{Q:List Nat}{fr tx:Nat}(h:OQ C D fr tx Q):Q.length≤C.length:=nodup_len _ _ h.nodup fun q hq=>by have:=h.bd q hq;omega
end Go.Proofs.YtlopleeopnnoeaaGreat.RW
namespace Go.Proofs
open Go.Shelf
shelf_lay_g SlLaysF0.n6 Slsf 6 at Tryz 106 as YtlopleeopnnoeaaGreat.sortS
shelf_lay_g SlLaysC2.n5 Slgc 5 at Tryz 108 as YtlopleeopnnoeaaGreat.cmpI
end Go.Proofs
namespace Go.Proofs.YtlopleeopnnoeaaGreat.RW
open Go.RowKit Go.Shelf Go.Sort Go.Lib
instance:Inhabited Span:=⟨⟨0,0,0,0⟩⟩
set_option maxHeartbeats 1000000 in
theorem of1_any (x y:Span)(W:World):Calls Tryz.prog 107 #[.agg (encS x).toArray,.agg (encS y).toArray] W fun e w'=>e= .returned (.int .i64 (Lib.compareInt x.f y.f))∧∃q os',w'=grow (W.drewN q) os':=by
 have hcon:=fun W'=>AnyG.cmp_Compare_int cmpI x.f y.f W'
 change ∀W',Calls Tryz.prog 108 _ _ _ at hcon
 generalize Lib.compareInt x.f y.f=r at hcon ⊢
 show Calls Tryz.prog 107 #[.agg #[.int .i64 x.f,.int .i64 x.t,.int .i64 x.a,.int .i64 x.b],.agg #[.int .i64 y.f,.int .i64 y.t,.int .i64 y.a,.int .i64 y.b]] W _
 go_enter Tryz.func107,Tryz.ntmps107
 go_wp2_with (go_at_call 108;refine(hcon _).mono ?_;rintro e w' ⟨rfl,rfl⟩)
 go_ret
 exact⟨rfl,0,_,by rw [alloc_eq_grow,alloc_eq_grow,grow_grow];rfl⟩
theorem ltF (x y:Span):ltOf (fun x y:Span=>Lib.compareInt x.f y.f) x y=decide (x.f<y.f):=by
 unfold ltOf Lib.compareInt
 by_cases h1:x.f<y.f
 ·simp [h1]
 ·by_cases h2:y.f<x.f<;>simp [h1,h2]
theorem swoF:SWO (ltOf fun x y:Span=>Lib.compareInt x.f y.f) where
 irrefl x:=by rw [ltF];simp
 trans x y z h1 h2:=by rw [ltF]at*;simp at*;omega
 ntrans x y z h1 h2:=by rw [ltF]at*;simp at*;omega
theorem sortSpans (base n c:Nat)(A:Option Addr)(L:List Span)(w0 w:World)(h:w.ownsRow base 97 4 (.slice A n c) n (flatL encS L))(hb:Below base w0 w)(hB:base≤w.heap.size)(hn:n≤1000000):
  Calls Tryz.prog 106 #[.slice A n c,.func (.func 107) #[] #[]] w fun e w'=>e= .returned (.tuple #[])∧∃d:List Span,d.Perm L∧d.Pairwise (fun x y=>¬y.f<x.f)∧Li 4 encS w' (fun b=>base≤b) A d∧Below base w0 w'∧w.heap.size≤w'.heap.size:=by
 have hl:=own_count encS_len (by decide) h
 rcases Nat.eq_zero_or_pos n with h0|hpos
 ·subst h0
  have hL:=List.eq_nil_of_length_eq_zero hl
  subst hL
  refine(AnyF.slices_SortFunc_none {sortS with} A c (.func (.func 107) #[] #[]) w).mono ?_
  rintro e w' ⟨rfl,rfl⟩
  exact⟨rfl,[],List.Perm.refl _,List.Pairwise.nil,Li.nil _ _ _,hb,Nat.le_refl _⟩
 ·obtain⟨g,rfl,hg,hgl,hnc,hc,hH⟩:=holdsK_own encS_len (by decide) h hpos
  have eg:∀args w,(callFunc 107 args).run Tryz.prog w= .ok (.enter 107 args) w:=enters_of Tryz.func107 (by kernel_rfl) rfl
  have hcon:=AnyQ.slices_SortFunc sortS 4 Tryz.isAgg97 Tryz.sizeOf97 encS (fun _=>rfl) (fun x v hv=>by simp [encS]at hv;rcases hv with rfl|rfl|rfl|rfl<;>rfl) (fun x y=>Lib.compareInt x.f y.f) swoF 107 #[] g 0 c L.toArray w eg (fun _ _ _ _ x y=>of1_any x y _) hH hgl (by simp;omega)
  change Calls Tryz.prog 106 _ _ _ at hcon
  rw [show L.toArray.size=n by simpa using hl]at hcon
  refine hcon.mono ?_
  rintro e w' ⟨rfl,d,m,os,hp,hs,rfl⟩
  have hsz:d.size=L.toArray.size:=hp.1
  have hsn:d.size=n:=by rw [hsz];simpa using hl
  refine⟨rfl,d.toList,?_,?_,?_,?_,?_⟩
  ·have:=hp.2.2
   rw [Array.extract_eq_self_of_le (by omega),Array.extract_eq_self_of_le (by simp;omega)]at this
   simpa using this
  ·rw [List.pairwise_iff_getElem]
   intro i j hi hj hij
   simp at hi hj
   have:=hs i j (Nat.zero_le _) hij (by omega)
   rw [ltF]at this
   simpa [hi,hj]using this
  ·exact(sorted_li encS_len hH hgl hsz).mono fun b hb=>by rw [hb];exact hg
  ·exact sorted_below hb hg hB
  ·simp [sortWorldK,Go.Sort.size_putRowK]
end Go.Proofs.YtlopleeopnnoeaaGreat.RW
