import Derived.Test.YtlopleeopnnoeaaGreatMb01
import Derived.Test.YtlopleeopnnoeaaGreatMb25
import Derived.Test.YtlopleeopnnoeaaGreatMb22
set_option linter.unusedVariables false
set_option linter.unusedSimpArgs false
namespace Go.Proofs.YtlopleeopnnoeaaGreat
open Go.ChangeShapes Go.WideShapes Go.ChangeAt Go.RowKit
theorem wf_i32 {a:Int}(h:(Lit.int .i32 a).wf=true): -2147483648≤a∧a≤2147483647:=by
 simp [Lit.wf,IntKind.min,IntKind.max,IntKind.bits,IntKind.signed]at h;omega
theorem wf_i64 {a:Int}(h:(Lit.int .i64 a).wf=true): -9223372036854775808≤a∧a≤9223372036854775807:=by
 simp [Lit.wf,IntKind.min,IntKind.max,IntKind.bits,IntKind.signed]at h;omega
theorem wf_u8 {a:Int}(h:(Lit.int .u8 a).wf=true):0≤a∧a≤255:=by
 simp [Lit.wf,IntKind.min,IntKind.max,IntKind.bits,IntKind.signed]at h;omega
structure Came (W:World)(v:Value)(A:Option Addr)(n c:Nat)(f:Nat→Value):Prop where
 eq:v= .slice A n c
 rd:Rd W A n f
 le:n≤c
 max:c≤maxLen
 nil:A=none→n=0∧c=0
 plain:∀a,A=some a→0<n→a.spot=none
theorem arg_ints {H:Type}{enc:TypeId × Value→H}{P:Program}{W:World}{base:Nat}{T E:TypeId}{k:IntKind}{r:Reach}{b0:Nat}{v:Value}{d:DataW H}{p:List MemPlace}{spare:Nat→Bool}{held:Bool}
  (hT:P.underlying T=some (.slice E)) (hE:P.underlying E=some (.int k)) (hc:P.cellsOf E=1) (hv:Value.okWide P W r b0 T v) (h:DataW.Trod enc P W base spare held T v d p):
  ∃A n c,∃f:Nat→Int,Came W v A n c (fun j=> .int k (f j))∧∀j,j<n→(Lit.int k (f j)).wf=true:=by
 obtain⟨a0,n,c,rfl⟩:=okWide_slice hT hv
 obtain⟨fuel,hf⟩:=h
 rcases open_ints hT hE hc hf with⟨hcs,_⟩|⟨a,len,cap,zs,hcs,_,hle,hmax,hlen,_,hcell,hwf⟩
 ·simp [Value.cells]at hcs
  obtain⟨rfl,rfl,rfl⟩:=hcs
  exact⟨none,0,0,fun _=>0,⟨rfl,Rd.empty _ _ _,Nat.le_refl _,Nat.zero_le _,fun _=>⟨rfl,rfl⟩,(fun a ha=>by cases ha)⟩,fun j hj=>absurd hj (by omega)⟩
 ·simp [Value.cells]at hcs
  obtain⟨rfl,rfl,rfl⟩:=hcs
  have hn:n≤zs.length:=by rw [hlen];split<;>omega
  refine⟨some a,n,c,fun j=>zs.getD j 0,⟨rfl,?_,hle,hmax,(fun e=>by cases e),?_⟩,fun j hj=> ?_⟩
  ·intro j hj
   obtain⟨b,off,rfl,hc'⟩:=ints_at hcell (by omega)
   have:=hc' j (by omega)
   exact⟨b,off,rfl,World.block_lt_of_cell? _ _ this,this⟩
  ·intro a' ha hp
   injection ha with ha
   subst ha
   obtain⟨b,off,rfl,_⟩:=ints_at hcell (by omega)
   rfl
  ·have hj':j<zs.length:=by omega
   show (Lit.int k (zs.getD j 0)).wf=true
   rw [show zs.getD j 0=zs[j]by simp [List.getD,List.getElem?_eq_getElem hj']]
   exact hwf _ (List.getElem_mem hj')
open Go.RowKit
theorem came_text {w:World}{A0:Option Addr}{n0:Nat}{f0:Nat→Int}(hA:Rd w A0 n0 (fun j=> .int .i32 (f0 j)))(hp:∀j,j<n0→(Lit.int .i32 (f0 j)).wf=true)(k:Nat):∃l:List Int,l.length=min n0 k∧Li 1 encC w (fun _=>True) A0 l∧Sc l:=by
 refine⟨(List.range (min n0 k)).map f0,by simp,li_of_rd fun j hj=>hA j (by omega),?_⟩
 intro x hx
 obtain⟨j,hj,rfl⟩:=List.mem_map.1 hx
 have:=List.mem_range.1 hj
 exact wf_i32 (hp j (by omega))
def apartB (T:List RW.Row):Bool:=(T.filter fun y=>y.k==4&&(y.a==1||y.a==2||y.a==3)).all fun y=>(T.filter fun x=>x.k==5||x.k==6).all fun x=>decide (x.t<y.f)||decide (y.t<x.f)
def linksB (T:List RW.Row):Bool:=(T.filter fun x=>x.k==6&&(x.a==1||x.a==3)).all fun x=>(List.range (x.t - x.f+1).toNat).all fun j=>breakB (vget 4 T) (x.f+(j:Nat))==4||breakB (vget 4 T) (x.f+(j:Nat))==5
theorem rowHas {T:List RW.Row}{k r v:Int}(h:at0 0 (vget k T) r=v)(hv:v≠0):∃x∈T,x.k=k∧x.a=v∧x.f≤r∧r≤x.t:=by
 unfold at0 at h
 split at h
 ·unfold vget at h
  cases hr:RW.rval k T r with
  |none=>rw [hr]at h;exact absurd h.symm hv
  |some p=>
   rw [hr]at h
   obtain⟨x,hx,hk,h1,h2,rfl⟩:=rval_row hr
   exact⟨x,hx,hk,h,h1,h2⟩
 ·exact absurd h.symm hv
theorem br_row {T:List RW.Row}{r v:Int}(h:breakB (vget 4 T) r=v)(hv:v=1∨v=2∨v=3):∃x∈T,x.k=4∧x.a=v∧x.f≤r∧r≤x.t:=by
 unfold breakB at h
 split at h
 ·split at h<;>omega
 ·exact rowHas h (by omega)
theorem apart_no {T:List RW.Row}(h:apartB T=true){x y:RW.Row}{r:Int}(hx:x∈T)(hy:y∈T)(hk:x.k=5∨x.k=6)(hy4:y.k=4)(ha:y.a=1∨y.a=2∨y.a=3)(h1:x.f≤r)(h2:r≤x.t)(h3:y.f≤r)(h4:r≤y.t):False:=by
 have q:=List.all_eq_true.1 h y (List.mem_filter.2 ⟨hy,by simp only [hy4,beq_self_eq_true,Bool.true_and,Bool.or_eq_true,beq_iff_eq];omega⟩)
 have q:=List.all_eq_true.1 q x (List.mem_filter.2 ⟨hx,by simp only [Bool.or_eq_true,beq_iff_eq];exact hk⟩)
 simp only [Bool.or_eq_true,decide_eq_true_eq]at q
 omega
theorem kt_tidy {T:List RW.Row}(h:conjOk T=true)(hA:apartB T=true)(hL:linksB T=true):(KT T).tidy:=by
 have hc:∀r,(KT T).cj r≠0→(∃x∈T,x.k=6∧x.a=(KT T).cj r∧x.f≤r∧r≤x.t)∨((KT T).cj r=3∧((KT T).br r=4∨(KT T).br r=5)):=by
  intro r hr
  have e:(KT T).cj r=conjB (vget 6 T) (vget 4 T) r:=rfl
  have eb:(KT T).br r=breakB (vget 4 T) r:=rfl
  rw [e]at hr ⊢
  rw [eb]
  unfold conjB at hr ⊢
  by_cases h0:at0 0 (vget 6 T) r=0
  ·rw [if_neg (by simpa using h0)]at hr ⊢
   split at hr
   ·rename_i hh
    rw [if_pos hh]
    exact .inr ⟨rfl,hh.1⟩
   ·exact absurd rfl hr
  ·rw [if_pos (by simpa using h0)]
   exact .inl (rowHas rfl h0)
 refine⟨kt_ok h,?_,?_⟩
 ·intro r hr
  rcases hc r (by omega)with⟨x,hx,hk,ha,h1,h2⟩|h1
  ·have q:=List.all_eq_true.1 hL x (List.mem_filter.2 ⟨hx,by simp only [hk,beq_self_eq_true,Bool.true_and,Bool.or_eq_true,beq_iff_eq];omega⟩)
   have q:=List.all_eq_true.1 q (r - x.f).toNat (List.mem_range.2 (by omega))
   rw [show x.f+((r - x.f).toNat:Int)=r by omega]at q
   have q':breakB (vget 4 T) r=4∨breakB (vget 4 T) r=5:=by simpa using q
   exact q'
  ·exact h1.2
 ·intro r hr
  obtain⟨y,hy,hy4,hya,h3,h4⟩:=br_row (T:=T) (r:=r) rfl hr
  have hya':y.a=1∨y.a=2∨y.a=3:=by rw [hya];exact hr
  constructor
  ·by_cases h0:(KT T).cj r=0
   ·exact h0
   ·rcases hc r h0 with⟨x,hx,hk,ha,h1,h2⟩|h1
    ·exact(apart_no hA hx hy (.inr hk) hy4 hya' h1 h2 h3 h4).elim
    ·have:=h1.2;omega
  ·by_cases h0:(KT T).pc r=true
   ·have e:at0 0 (vget 5 T) r=1:=by simpa using (show (at0 0 (vget 5 T) r==1)=true from h0)
    obtain⟨x,hx,hk,ha,h1,h2⟩:=rowHas e (by omega)
    exact(apart_no hA hx hy (.inl hk) hy4 hya' h1 h2 h3 h4).elim
   ·simpa using h0
set_option maxRecDepth 100000 in
theorem given_tidy:apartB RW.rowsT=true∧linksB RW.rowsT=true:=by
 constructor
 ·decide+kernel
 ·decide+kernel
theorem rows_tidy:(KT RW.rowsT).tidy:=kt_tidy given_conj given_tidy.1 given_tidy.2
end Go.Proofs.YtlopleeopnnoeaaGreat
namespace Go.Proofs.YtlopleeopnnoeaaGreat.SG
open Go.RowKit
theorem starts_sorted (K:Kinds)(s:List Int):(startsP K s).Pairwise (· < ·):=(List.pairwise_lt_range).filter _
theorem starts_mem {K:Kinds}{s:List Int}{p:Nat}(h:p∈startsP K s):p<s.length∧begAt K s p=true:=by
 have:=List.mem_filter.1 h
 exact⟨List.mem_range.1 this.1,this.2⟩
theorem starts_nil {K:Kinds}{s:List Int}(h:(startsP K s).length=0):s.length=0:=by
 rcases Nat.eq_zero_or_pos s.length with e|e
 ·exact e
 ·have:(0:Nat)∈startsP K s:=List.mem_filter.2 ⟨List.mem_range.2 e,rfl⟩
  rw [List.length_eq_zero_iff.1 h]at this
  cases this
theorem range_split (n p:Nat)(h:p≤n):List.range n=List.range p++(List.range (n - p)).map (p+ ·):=by
 rw [←List.range_add]
 congr 1
 omega
theorem starts_split {K:Kinds}(hK:K.tidy){s:List Int}{p:Nat}(hp:p<s.length)(hb:begAt K s p=true):startsP K s=upToP K s p++(startsP K (s.drop p)).map (p+ ·):=by
 unfold startsP upToP
 rw [range_split s.length p (by omega),List.filter_append,List.filter_map,List.length_drop]
 congr 2
 apply List.filter_congr
 intro j hj
 have:=List.mem_range.1 hj
 exact(begAt_drop hK hp hb (by omega)).symm
theorem starts_pos {K:Kinds}{s:List Int}(h:0<s.length):∃q,startsP K s=0::q:=by
 unfold startsP
 obtain⟨n,hn⟩:∃n,s.length=n+1:=⟨s.length - 1,by omega⟩
 rw [hn,List.range_succ_eq_map,List.filter_cons_of_pos rfl]
 exact⟨_,rfl⟩
theorem starts_from {K:Kinds}(hK:K.tidy){s:List Int}{k p:Nat}(hk:(startsP K s)[k]? =some p):p<s.length∧(startsP K s).length=k+(startsP K (s.drop p)).length∧∀j,j<(startsP K (s.drop p)).length→(startsP K s).getD (k+j) 0=(startsP K (s.drop p)).getD j 0+p:=by
 obtain⟨hkl,hkp⟩:=List.getElem?_eq_some_iff.1 hk
 obtain⟨hp,hb⟩:=starts_mem (List.mem_of_getElem? hk)
 have e:=starts_split hK hp hb
 have hs:=starts_sorted K s
 obtain⟨q,hq⟩:=starts_pos (K:=K) (s:=s.drop p) (by simp;omega)
 have hlen:(startsP K s).length=(upToP K s p).length+(startsP K (s.drop p)).length:=by
  have:=congrArg List.length e
  rw [List.length_append,List.length_map]at this
  exact this
 have hpos:0<(startsP K (s.drop p)).length:=by rw [hq];simp
 have hm:(upToP K s p).length<(startsP K s).length:=by omega
 have hmp:(startsP K s)[(upToP K s p).length]? =some p:=by
  rw [e,List.getElem?_append_right (Nat.le_refl _),Nat.sub_self,hq]
  simp
 obtain⟨_,hmp'⟩:=List.getElem?_eq_some_iff.1 hmp
 have hkm:k=(upToP K s p).length:=by
  rcases Nat.lt_trichotomy k (upToP K s p).length with h|h|h
  ·have:=List.pairwise_iff_getElem.1 hs k _ hkl hm h
   omega
  ·exact h
  ·have:=List.pairwise_iff_getElem.1 hs _ k hm hkl h
   omega
 refine⟨hp,by omega,fun j hj=> ?_⟩
 have:(startsP K s)[k+j]? =some (p+(startsP K (s.drop p))[j]):=by
  rw [e,hkm,List.getElem?_append_right (by omega),Nat.add_sub_cancel_left,List.getElem?_map,List.getElem?_eq_getElem hj]
  rfl
 simp only [List.getD,this,List.getElem?_eq_getElem hj,Option.getD_some]
 omega
end Go.Proofs.YtlopleeopnnoeaaGreat.SG
namespace Go.Proofs.YtlopleeopnnoeaaGreat
open Go.RowKit
theorem li_drop {w:World}{S:Nat→Prop}{b o:Nat}{l:List Int}(h:Li 1 encC w S (some ⟨b,o,none⟩) l)(p:Nat):Li 1 encC w S (some ⟨b,o+p,none⟩) (l.drop p):=by
 intro j x hj
 rw [List.getElem?_drop]at hj
 obtain⟨b',o',e,hl,hs,hc⟩:=h (p+j) x hj
 injection e with e
 injection e with e1 e2
 subst e1;subst e2
 refine⟨_,_,rfl,hl,hs,fun i u hu=> ?_⟩
 have:=hc i u hu
 rw [show o+p+(j*1+i)=o+((p+j)*1+i)by omega]
 exact this
theorem map_getD (L:List Nat)(j:Nat):(L.map natI).getD j 0=((L.getD j 0:Nat):Int):=by
 simp only [List.getD,List.getElem?_map]
 cases L[j]? <;>rfl
set_option maxHeartbeats 4000000 in
theorem rnext_any {W:World}{A:Option Addr}{c:Nat}{T:List RW.Row}{A2:Option Addr}{l:List Int}(c2:Nat)(h:RT W A c T A2 l)(hc2:l.length≤c2)(at':Nat)(hat:at'≤1000000):
  Calls Tryz.prog 74 #[.slice A T.length c,.slice A2 l.length c2,.int .i64 at'] W fun e w'=>e= .returned (.int .i64 (SG.nextP (KT T) l (at'+1):Nat))∧∃m,w'=W.drewN m:=by
 have HB:=Lib.hid (fun(n:Nat) (i:Nat) (hi:i<l.length)=>begins_any c2 (h.later (selfDrew W n)) hc2 i hi)
 have hln:=h.ln
 clear h
 obtain⟨v,hv⟩:∃v,SG.nextP (KT T) l (at'+1)=v:=⟨_,rfl⟩
 rw [hv]
 have HV:=Lib.hid hv
 clear hv
 go_enter Tryz.func74,Tryz.ntmps74
 go_wp2
 go_loopw [7] (fun i wr=>∃k:Nat,k≤1000001+l.length∧i= .int .i64 k∧Hid (SG.nextP (KT T) l k=v)∧∃m,wr=W.drewN m) (fun i _=>l.length -(intOf i).toNat)
 case atStart=>exact⟨at'+1,by have:=HV.out;omega,by go_num,HV,0,rfl⟩
 case round=>
  obtain⟨k,hk,rfl,HK,m,rfl⟩:=hrel
  by_cases hlt:k<l.length
  ·have C:=Lib.hid (HB.out m k hlt)
   obtain⟨q,hq⟩:∃q,SG.begAt (KT T) l k=q:=⟨_,rfl⟩
   rw [hq]at C
   have HQ:=Lib.hid hq
   clear hq
   have g0:(k:Int)<(l.length:Int):=by omega
   go_wp2_with fail
   refine C.out.mono ?_
   rintro e w1 ⟨rfl,m2,rfl⟩
   clear C
   cases q
   case false=>
    have HN:=Lib.hid (show SG.nextP (KT T) l (k+1)=v by rw [←SG.nextP_no hlt HQ.out];exact HK.out)
    clear HK HQ
    go_wp2
    go_roundw
    case rel=>exact⟨k+1,by omega,by go_num,HN,_,rfl⟩
    case measure=>simp [intOf];omega
   case true=>
    obtain rfl:k=v:=by rw [←HK.out,SG.nextP_yes hlt HQ.out]
    clear HK HQ HB HV
    go_wp2
    go_ret
    exact⟨rfl,_,rfl⟩
  ·obtain rfl:l.length=v:=by rw [←HK.out,SG.nextP_end (by omega)]
   have g0:(l.length:Int)≤(k:Int):=by omega
   clear HK HB HV
   go_wp2
   go_ret
   exact⟨rfl,_,rfl⟩
theorem next_out (A:Option Addr)(n c:Nat)(tp:Nat)(a:Int)(w:World)(h:a<0∨(n:Int)≤a):
  Calls Tryz.prog 73 #[.pointer (some ⟨tp,0,none⟩),.slice A n c,.int .i64 a] w fun e w'=>e= .returned (.int .i64 (n:Nat))∧w=w':=by
 by_cases h0:a<0
 ·have d0:decide (a<0)=true:=by simpa using h0
  clear h h0
  go_enter Tryz.func73,Tryz.ntmps73
  go_wp2
  go_ret
  exact⟨rfl,rfl⟩
 ·have d0:decide (a<0)=false:=by simpa using h0
  have d1:decide ((n:Int)≤a)=true:=by simp;omega
  clear h h0
  go_enter Tryz.func73,Tryz.ntmps73
  go_wp2
  go_ret
  exact⟨rfl,rfl⟩
structure NSt (w:World)(K:SG.Kinds)(D:List Int)(g j:Nat)(X:World):Prop where
 blk:Blk X g (encSt (SG.stOf K (D.take j).reverse)).toArray
 be:Below w.heap.size w X
 ge:w.heap.size≤g
set_option maxHeartbeats 8000000 in
set_option maxRecDepth 100000 in
theorem next_in {T:List RW.Row}{tp:Nat}(A:Option Addr)(c:Nat)(l:List Int)(w:World)(hT:Tabs T tp w)(hK:(KT T).ok)(hL:Li 1 encC w (fun _=>True) A l)(hsc:Sc l)(hc:l.length≤c)(hn:l.length≤100000)(a:Nat)(ha:a<l.length):
  Calls Tryz.prog 73 #[.pointer (some ⟨tp,0,none⟩),.slice A l.length c,.int .i64 (a:Nat)] w fun e w'=>e= .returned (.int .i64 ((a+SG.nextP (KT T) (l.drop a) 1:Nat):Int))∧Below w.heap.size w w':=by
 obtain⟨b,o,rfl,hb,_,hcell⟩:=hL.scs (by omega)
 have HT:=Lib.hid hT
 have HC:=Lib.hid hcell
 have HS:=Lib.hid hsc
 have HK:=Lib.hid hK
 clear hT hL
 obtain⟨v,hv⟩:∃v,SG.nextP (KT T) (l.drop a) 1=v:=⟨_,rfl⟩
 rw [hv]
 have HV:=Lib.hid hv
 obtain⟨V,hVV⟩:∃V,a+v=V:=⟨_,rfl⟩
 rw [hVV]
 have HVV:=Lib.hid hVV
 clear hVV
 have hD:(l.drop a).length=l.length - a:=by simp
 have HG:=Lib.hid (show ∀j,a+j<l.length→(l.drop a).getD j 0=l.getD (a+j) 0 from fun j _=>by simp [List.getD])
 obtain⟨D,hDD⟩:∃D,l.drop a=D:=⟨_,rfl⟩
 rw [hDD]at HV HG hD
 have HD:=Lib.hid hD
 have hca:=hcell a ha
 have hsa:=hsc.at ha
 obtain⟨r,hr⟩:∃r,l.getD a 0=r:=⟨_,rfl⟩
 rw [hr]at hca hsa
 have HR:=Lib.hid (show D.getD 0 0=r by rw [HG.out 0 (by omega)];exact hr)
 have C0:=step_tab HT.out SG.St.zero r hsa.1 hsa.2
 obtain⟨s',hs'⟩:∃s',SG.nextS (KT T) SG.St.zero r=s':=⟨_,rfl⟩
 rw [hs']at C0
 have H1:=Lib.hid (show SG.stOf (KT T) (D.take 1).reverse=s' by rw [SG.st_succ _ (by omega),HR.out];exact hs')
 have d0:decide ((a:Int)<0)=false:=by simp
 have d1:decide ((l.length:Int)≤(a:Int))=false:=by simp;omega
 have d2:(a:Int)<(l.length:Int):=by omega
 have d3:(0:Int)≤(a:Int):=by omega
 clear hv hDD hcell hsc hr hs' hsa hK hD
 obtain⟨n0,n1,n2,n3,n4,n5⟩:=s'
 dsimp only [vSt,SG.St.zero]at C0
 have C0:=Lib.hid C0
 go_enter Tryz.func73,Tryz.ntmps73
 go_wp2_with fail
 refine C0.out.mono ?_
 rintro e w1 ⟨rfl,hb1⟩
 have hz:=hb1.size
 have HB1:=Lib.hid hb1
 clear C0 hb1
 go_upto_region 4 with fail
 refine at_world (fun X=>NSt w (KT T) D w1.heap.size 1 X) ⟨by rw [H1.out];exact blk_new _ _ _,HB1.out.alloc (by omega) _,by omega⟩ ?_
 rintro X0 h0
 obtain⟨g,hg⟩:∃g,w1.heap.size=g:=⟨_,rfl⟩
 rw [hg]at h0 ⊢
 have H0:=Lib.hid h0
 clear h0 HB1 hg hz
 go_wp2
 go_loopw [9,10,11] (fun i _ _ wr=>∃n:Nat,n≤l.length∧i= .int .i64 n∧Hid (∃j,n=a+j∧SG.nextP (KT T) D j=v∧NSt w (KT T) D g j wr)) (fun i _ _ _=>l.length -(intOf i).toNat)
 case atStart=>exact⟨a+1,by omega,by go_num,Lib.hid ⟨1,rfl,HV.out,H0.out⟩⟩
 case round=>
  obtain⟨n,hn',rfl,HJ⟩:=hrel
  obtain⟨j,hj,hk,h⟩:=HJ.out
  have H:=Lib.hid h
  have HK':=Lib.hid hk
  have HJ:=Lib.hid hj
  clear hj hk h
  by_cases hlt:n<l.length
  ·have hcr:=(H.out.be.cell (p:=⟨b,o+n,none⟩) hb).trans (HC.out n hlt)
   have hsr:=HS.out.at hlt
   have hjD:j<D.length:=by have:=HD.out;have:=HJ.out;omega
   obtain⟨r,hr⟩:∃r,l.getD n 0=r:=⟨_,rfl⟩
   rw [hr]at hcr hsr
   have HR:=Lib.hid (show D.getD j 0=r by rw [HG.out j (by have:=HJ.out;omega),←HJ.out];exact hr)
   obtain⟨s,hs⟩:∃s,SG.stOf (KT T) (D.take j).reverse=s:=⟨_,rfl⟩
   have hblk:=H.out.blk
   rw [hs]at hblk
   have c1:=fun Z (hZ:Below wr.heap.size wr Z)=>step_tab (HT.out.later (bStepS H.out.be hZ)) s r hsr.1 hsr.2
   obtain⟨s',hs'⟩:∃s',SG.nextS (KT T) s r=s':=⟨_,rfl⟩
   obtain⟨q,hq⟩:∃q,SG.beginsS (KT T) s r=q:=⟨_,rfl⟩
   simp only [hs',hq]at c1
   have HN:=Lib.hid (show SG.stOf (KT T) (D.take (j+1)).reverse=s' by rw [SG.st_succ _ hjD,hs,HR.out,hs'])
   have HQ:=Lib.hid (show SG.begAt (KT T) D j=q by unfold SG.begAt;rw [←SG.begins_ok HK.out,hs,HR.out,hq])
   obtain⟨a0,a1,a2,a3,a4,a5⟩:=s
   obtain⟨n0,n1,n2,n3,n4,n5⟩:=s'
   dsimp only [vSt]at c1
   have C1:=Lib.hid c1
   have HB:=Lib.hid hblk
   have HSS:=Lib.hid (show ∀Z,Below wr.heap.size wr Z→(fun Z=>Z.cell? ⟨g,0,none⟩=some (.bool a0)∧Z.cell? ⟨g,1,none⟩=some (.int .i64 a1)∧Z.cell? ⟨g,2,none⟩=some (.int .i64 a2)∧Z.cell? ⟨g,3,none⟩=some (.bool a3)∧Z.cell? ⟨g,4,none⟩=some (.bool a4)∧Z.cell? ⟨g,5,none⟩=some (.bool a5)∧Z.cell? ⟨b,o+n,none⟩=some (.int .i32 r)) Z from fun Z hZ=>by
    have h:=HB.out.later hZ HB.out.1
    exact⟨h.2.1 0,h.2.1 1,h.2.1 2,h.2.1 3,h.2.1 4,h.2.1 5,(hZ.cell (p:=⟨b,o+n,none⟩) (Nat.lt_of_lt_of_le hb H.out.be.size)).trans hcr⟩)
   have hs0:=HSS.out wr (Below.refl _ _)
   have d4:(n:Int)<(l.length:Int):=by omega
   have d5:(0:Int)≤(n:Int):=by omega
   clear c1 hs hs' hq hr hblk hcr
   go_wp2_with fail
   go_region_held3 (fun Z=>Z.cell? ⟨g,0,none⟩=some (.bool a0)∧Z.cell? ⟨g,1,none⟩=some (.int .i64 a1)∧Z.cell? ⟨g,2,none⟩=some (.int .i64 a2)∧Z.cell? ⟨g,3,none⟩=some (.bool a3)∧Z.cell? ⟨g,4,none⟩=some (.bool a4)∧Z.cell? ⟨g,5,none⟩=some (.bool a5)∧Z.cell? ⟨b,o+n,none⟩=some (.int .i32 r))
    (first|with_reducible exact HSS.out _ (bel_six B5.out (Nat.le_refl _) _ _ _ _ _ _)|with_reducible exact HSS.out _ (belowStep B5.out (belAlloc w5 _))|with_reducible exact HSS.out _ B5.out|with_reducible exact HSS.out _ (belAlloc wr _).drew|with_reducible exact HSS.out _ (Below.refl _ _).drew)
    (first
    |(go_at_call 120;refine(C1.out (wr.alloc (.cells #[.bool false,.int .i64 0,.int .i64 0,.bool false,.bool false,.bool false] 173)).drew (belAlloc wr _).drew).mono ?_;rintro e w5 ⟨rfl,b5⟩;have B5:=Lib.hid (bStepS (A:=wr) ((belAlloc wr (.cells #[.bool false,.int .i64 0,.int .i64 0,.bool false,.bool false,.bool false] 173)).drew) b5);have Q5:=Lib.hid ((show Blk (wr.alloc (.cells #[.bool false,.int .i64 0,.int .i64 0,.bool false,.bool false,.bool false] 173)).drew wr.heap.size #[.bool false,.int .i64 0,.int .i64 0,.bool false,.bool false,.bool false]from blk_new wr _ _).later b5 (by simp));have q0:w5.cell? ⟨wr.heap.size,0,none⟩=some (.bool false):=Q5.out.2.1 0;have q1:w5.cell? ⟨wr.heap.size,1,none⟩=some (.int .i64 0):=Q5.out.2.1 1;have q2:w5.cell? ⟨wr.heap.size,2,none⟩=some (.int .i64 0):=Q5.out.2.1 2;have q3:w5.cell? ⟨wr.heap.size,3,none⟩=some (.bool false):=Q5.out.2.1 3;have q4:w5.cell? ⟨wr.heap.size,4,none⟩=some (.bool false):=Q5.out.2.1 4;have q5:w5.cell? ⟨wr.heap.size,5,none⟩=some (.bool false):=Q5.out.2.1 5;have j0:=Q5.out.2.2 0;have j1:=Q5.out.2.2 1;have j2:=Q5.out.2.2 2;have j3:=Q5.out.2.2 3;have j4:=Q5.out.2.2 4;have j5:=Q5.out.2.2 5;have yq:=Q5.out.1;clear b5)
    |(go_at_call 120;refine(C1.out _ (by first|exact Below.refl _ _|exact(Below.refl _ _).drew|exact selfDrew _ _)).mono ?_;rintro e w5 ⟨rfl,b5⟩;have B5:=Lib.hid (bStepS (A:=wr) (by first|exact Below.refl _ _|exact(Below.refl _ _).drew|exact selfDrew _ _) b5);clear b5))
   all_goals
    first
    |with_reducible refine at_world (fun Z=>Below wr.heap.size wr Z∧Blk Z w5.heap.size #[.bool n0,.int .i64 n1,.int .i64 n2,.bool n3,.bool n4,.bool n5]) ⟨bStepS B5.out (belAlloc _ _),blk_new _ _ _⟩ ?_
    |with_reducible refine at_world (fun Z=>Below wr.heap.size wr Z∧Blk Z wr.heap.size #[.bool n0,.int .i64 n1,.int .i64 n2,.bool n3,.bool n4,.bool n5]) ⟨bel_six B5.out (Nat.le_refl _) _ _ _ _ _ _,blk_six Q5.out _ _ _ _ _ _⟩ ?_
    intro Z hZ
    have HZ:=Lib.hid (And.intro hZ.1 (And.intro hZ.2 (HB.out.later hZ.1 HB.out.1)))
    clear hZ hs0
    cases q
    case true=>
     obtain rfl:V=n:=by rw [←HVV.out,HJ.out,←HK'.out,SG.nextP_yes hjD HQ.out]
     have HE:=Lib.hid (bStepS H.out.be HZ.out.1)
     clear HK' HQ HN HJ HV HZ HB HVV
     go_wp2
     go_ret
     exact⟨rfl,HE.out⟩
    case false=>
     have HV2:=Lib.hid (show SG.nextP (KT T) D (j+1)=v by rw [←SG.nextP_no hjD HQ.out];exact HK'.out)
     have hB:=HZ.out.2.2
     have hN:=HZ.out.2.1
     have z0:=hN.2.1 0
     have z1:=hN.2.1 1
     have z2:=hN.2.1 2
     have z3:=hN.2.1 3
     have z4:=hN.2.1 4
     have z5:=hN.2.1 5
     simp only [List.getElem?_toArray,List.getElem?_cons_zero,List.getElem?_cons_succ]at z0 z1 z2 z3 z4 z5
     have y0:Z.cell? ⟨g,0,none⟩=some (.bool a0):=hB.2.1 0
     have y1:Z.cell? ⟨g,1,none⟩=some (.int .i64 a1):=hB.2.1 1
     have y2:Z.cell? ⟨g,2,none⟩=some (.int .i64 a2):=hB.2.1 2
     have y3:Z.cell? ⟨g,3,none⟩=some (.bool a3):=hB.2.1 3
     have y4:Z.cell? ⟨g,4,none⟩=some (.bool a4):=hB.2.1 4
     have y5:Z.cell? ⟨g,5,none⟩=some (.bool a5):=hB.2.1 5
     have f0:=hB.2.2 0
     have f1:=hB.2.2 1
     have f2:=hB.2.2 2
     have f3:=hB.2.2 3
     have f4:=hB.2.2 4
     have f5:=hB.2.2 5
     have HE:=Lib.hid (show NSt w (KT T) D g (j+1) ((((((Z.setCell ⟨g,0,none⟩ (.bool n0)).setCell ⟨g,1,none⟩ (.int .i64 n1)).setCell ⟨g,2,none⟩ (.int .i64 n2)).setCell ⟨g,3,none⟩ (.bool n3)).setCell ⟨g,4,none⟩ (.bool n4)).setCell ⟨g,5,none⟩ (.bool n5))from
      ⟨by rw [HN.out];exact blk_six hB _ _ _ _ _ _,bel_six (bStepS H.out.be HZ.out.1) H.out.ge _ _ _ _ _ _,H.out.ge⟩)
     have HJ2:=Lib.hid (show n+1=a+(j+1)by have:=HJ.out;omega)
     clear hB hN HZ HB HQ HN HK' HJ
     go_wp2
     go_roundw
     case rel=>exact⟨n+1,by omega,by go_num,Lib.hid ⟨j+1,HJ2.out,HV2.out,HE.out⟩⟩
     case measure=>simp [intOf];omega
  ·obtain rfl:V=l.length:=by
    have h1:=HJ.out
    have h2:=HD.out
    have h3:=HK'.out
    rw [SG.nextP_end (by omega)]at h3
    rw [←HVV.out]
    omega
   have d4:decide ((n:Int)<(l.length:Int))=false:=by simp;omega
   have HE:=Lib.hid H.out.be
   clear HK' HJ HV H H0 HVV
   go_wp2
   go_ret
   exact⟨rfl,HE.out⟩
end Go.Proofs.YtlopleeopnnoeaaGreat
