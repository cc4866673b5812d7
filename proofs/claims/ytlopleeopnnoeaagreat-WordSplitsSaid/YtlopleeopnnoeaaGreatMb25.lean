import Derived.Test.YtlopleeopnnoeaaGreatMb24
import Derived.Test.YtlopleeopnnoeaaGreatMb22
set_option linter.unusedVariables false
set_option linter.unusedSimpArgs false
namespace Go.Proofs.YtlopleeopnnoeaaGreat
open Go.RowKit
theorem own_set {X:World}{base n c size:Nat}{E:TypeId}{A:Option Addr}{xs:List Value}(h:X.ownsRow base E size (.slice A n c) n xs){g:Nat}(hg:g<base)(j:Nat)(u:Value):(X.setCell ⟨g,j,none⟩ u).ownsRow base E size (.slice A n c) n xs:=by
 have q:X.grownBy (X.setCell ⟨g,j,none⟩ u) (some g):=⟨rfl,rfl,rfl,by simp,fun k _ hk=>by
  have:g≠k:=fun e=>hk (by rw [e])
  simp [World.setCell,Array.getElem?_modify,this]⟩
 refine h.kept q ?_
 cases e:(Value.slice A n c).ownBlock with
 |none=>exact .inl rfl
 |some k=>exact .inr (by have:=(h.lt k e).1;intro e';injection e' with e';omega)
theorem own_six {X:World}{base n c size:Nat}{E:TypeId}{A:Option Addr}{xs:List Value}(h:X.ownsRow base E size (.slice A n c) n xs){g:Nat}(hg:g<base)(u0 u1 u2 u3 u4 u5:Value):((((((X.setCell ⟨g,0,none⟩ u0).setCell ⟨g,1,none⟩ u1).setCell ⟨g,2,none⟩ u2).setCell ⟨g,3,none⟩ u3).setCell ⟨g,4,none⟩ u4).setCell ⟨g,5,none⟩ u5).ownsRow base E size (.slice A n c) n xs:=
 own_set (own_set (own_set (own_set (own_set (own_set h hg 0 u0) hg 1 u1) hg 2 u2) hg 3 u3) hg 4 u4) hg 5 u5
theorem step_tab {T:List RW.Row}{tp:Nat}{w:World}(hT:Tabs T tp w)(s:SG.St)(r:Int)(r0: -2147483648≤r)(r1:r≤2147483647):
  Calls Tryz.prog 120 #[vSt s,.pointer (some ⟨tp,0,none⟩),.int .i32 r] w fun e w'=>e= .returned (.tuple #[vSt (SG.nextS (KT T) s r),.bool (SG.beginsS (KT T) s r)])∧Below w.heap.size w w':=
 step_any s (.pointer (some ⟨tp,0,none⟩)) r ((KT T).br r) ((KT T).cj r) ((KT T).pc r) w (Lib.hid fun X hX=>tbreak (hT.later hX) r r0 r1) (Lib.hid fun X hX=>tconj (hT.later hX) r r0 r1) (Lib.hid fun X hX=>tpict (hT.later hX) r r0 r1)
def natI (n:Nat):Int:=n
structure SSt (w:World)(K:SG.Kinds)(l:List Int)(k:Nat)(Ao:Option Addr)(no co:Nat)(X:World):Prop where
 blk:Blk X w.heap.size (encSt (SG.stOf K (l.take k).reverse)).toArray
 own:X.ownsRow (w.heap.size+1) 3 1 (.slice Ao no co) no (flatL encI ((SG.upToP K l k).map natI))
 be:Below w.heap.size w X
theorem rdI {w:World}{S:Nat→Prop}{A:Option Addr}{L:List Int}(h:Li 1 encI w S A L):Rd w A L.length (fun j=> .int .i64 (L.getD j 0)):=by
 intro j hj
 obtain⟨b,o,e,hl,hs,hc⟩:=h.at hj
 refine⟨b,o,e,hl,?_⟩
 have:=hc 0 _ rfl
 rw [Nat.mul_one,Nat.add_zero]at this
 rw [this]
 simp [List.getD,hj]
set_option maxHeartbeats 4000000 in
theorem samei_yes (A B:Option Addr)(c d:Nat)(L:List Int)(w:World)(S1 S2:Nat→Prop)(hn:L.length≤100000)(hA:Li 1 encI w S1 A L)(hB:Li 1 encI w S2 B L):
  Calls Tryz.prog 27 #[.slice A L.length c,.slice B L.length d] w fun e w'=>e= .returned (.bool true)∧Below w.heap.size w w':=by
 have HA:=Lib.hid (rdI hA)
 have HB:=Lib.hid (rdI hB)
 obtain⟨f,hf⟩:∃f:Nat→Int,(fun j=>L.getD j 0)=f:=⟨_,rfl⟩
 have hf':(fun j=>Value.int .i64 (L.getD j 0))=fun j=>Value.int .i64 (f j):=by rw [←hf]
 rw [hf']at HA HB
 obtain⟨n,hL⟩:∃n,L.length=n:=⟨_,rfl⟩
 rw [hL]at HA HB hn ⊢
 clear hf hf' hA hB hL
 have h2:(((n:Int) != (n:Int)))=false:=by simp
 go_enter Tryz.func27,Tryz.ntmps27
 go_wp2
 go_loopw [5] (fun i wr=>∃k:Nat,k≤n∧i= .int .i64 k∧∃r,wr=w.drewN r) (fun i _=>n -(intOf i).toNat)
 case atStart=>exact⟨0,Nat.zero_le _,rfl,0,rfl⟩
 case round=>
  obtain⟨k,hk,rfl,r,rfl⟩:=hrel
  by_cases hlt:k<n
  ·obtain⟨a,i,rfl,_,ha⟩:=HA.out k hlt
   obtain⟨b,j,rfl,_,hb⟩:=HB.out k hlt
   obtain⟨x,hx⟩:∃x,f k=x:=⟨_,rfl⟩
   dsimp only at ha hb
   rw [hx]at ha hb
   have h4:((x != x))=false:=by simp
   clear hx
   go_wp2
   go_quiet (fail)
   go_wp2
   go_roundw
   case rel=>exact⟨k+1,by omega,by go_num,_,rfl⟩
   case measure=>simp [intOf];omega
  ·obtain rfl:k=n:=by omega
   go_wp2
   go_ret
   exact⟨rfl,selfDrew _ _⟩
theorem fews_any (A:Option Addr)(n c k:Nat)(w:World)(hn:n≤c)(hc:c≤9223372036854775807)(hk:k≤1000000):Calls Tryz.prog 15 #[.slice A n c,.int .i64 k] w fun e w'=>e= .returned (.slice A (min n k) c)∧w=w':=by
 rcases Nat.lt_or_ge k n with hlt|hge
 ·rw [Nat.min_eq_right (by omega)]
  have d0:decide ((k:Int)<(n:Int))=true:=by simp;omega
  have hcn:(k:Int)≤(c:Int):=by omega
  go_enter Tryz.func15,Tryz.ntmps15
  go_wp2
  go_ret
  exact⟨rfl,rfl⟩
 ·rw [Nat.min_eq_left (by omega)]
  have d0:decide ((k:Int)<(n:Int))=false:=by simp;omega
  go_enter Tryz.func15,Tryz.ntmps15
  go_wp2
  go_ret
  exact⟨rfl,rfl⟩
set_option maxRecDepth 100000 in
theorem ex_0:SG.startsP (KT RW.rowsT) [101,769,97]=[0,2]:=by decide+kernel
set_option maxRecDepth 100000 in
theorem ex_1:SG.startsP (KT RW.rowsT) [127462,127463,127462]=[0,2]:=by decide+kernel
set_option maxRecDepth 100000 in
theorem ex_2:SG.startsP (KT RW.rowsT) [128104,8205,128104]=[0]:=by decide+kernel
set_option maxRecDepth 100000 in
theorem ex_3:SG.startsP (KT RW.rowsT) [2325,2381,2325]=[0]:=by decide+kernel
theorem encI_len1 (x:Int):(encI x).length=1:=rfl
def Yes (w:World)(e:Ending)(w':World):Prop:=e= .returned (.bool true)∧Below w.heap.size w w'
theorem li_new1 (w:World)(L:List Int)(cs:Array Value)(t:TypeId)(h:cs.toList=flatL encC L):Li 1 encC (w.alloc (.cells cs t)) (fun _=>True) (some ⟨w.heap.size,0,none⟩) L:=(Li.new encC_len w _ _ h).mono fun _ _=>trivial
theorem li_newI (w:World)(L:List Int)(cs:Array Value)(t:TypeId)(h:cs.toList=flatL encI L):Li 1 encI (w.alloc (.cells cs t)) (fun _=>True) (some ⟨w.heap.size,0,none⟩) L:=(Li.new encI_len1 w _ _ h).mono fun _ _=>trivial
end Go.Proofs.YtlopleeopnnoeaaGreat
