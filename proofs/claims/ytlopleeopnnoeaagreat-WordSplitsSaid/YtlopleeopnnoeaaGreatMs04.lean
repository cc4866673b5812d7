import Derived.Test.YtlopleeopnnoeaaGreatMs02
import Derived.Test.YtlopleeopnnoeaaGreatMs03
import Derived.Test.YtlopleeopnnoeaaGreatMb01
set_option linter.unusedVariables false
set_option linter.unusedSimpArgs false
namespace Go.Proofs.YtlopleeopnnoeaaGreat
open Go.RowKit
theorem encC_oneW (x:Int):∀u∈encC x,u.oneCell'=true:=by
 intro u hu
 obtain rfl:=List.mem_singleton.1 hu
 rfl
theorem own_setCellK {w:World}{base:Nat}{e:TypeId}{size n:Nat}{v:Value}{xs:List Value}(h:w.ownsRow base e size v n xs)(g i:Nat)(u:Value)(hne:v.ownBlock≠some g):(w.setCell ⟨g,i,none⟩ u).ownsRow base e size v n xs:=
 h.kept (row:=some g) ⟨rfl,rfl,rfl,by simp [World.setCell],fun k _ hk=>Below.heap_setCell _ _ _ _ (fun e=>hk (by simp [e]))⟩ (.inr hne)
structure TkR (w:World)(a:Nat)(A:Option Addr)(n c:Nat)(T:List Int)(E:Nat)(X:World):Prop where
 res:Blk X w.heap.size #[.int .i64 0,.int .i64 0,.slice none 0 0]
 var:Blk X (w.heap.size+1) #[.int .i64 a,.int .i64 E,.slice A n c]
 own:X.ownsRow (w.heap.size+2) 21 1 (.slice A n c) n (flatL encC T)
 below:Below w.heap.size w X
section
variable {w:World}{a:Nat}{A:Option Addr}{n c:Nat}{T:List Int}{E:Nat}
theorem TkR.far {X:World}(R:TkR w a A n c T E X)(g:Nat)(hg:g<w.heap.size+2):some g≠(Value.slice A n c).ownBlock:=fun e=>by
 have:=(R.own.lt g e.symm).1
 omega
theorem TkR.start (w:World)(a:Nat)(s t:TypeId):TkR w a none 0 0 [] 0 ((w.alloc (.cells #[.int .i64 0,.int .i64 0,.slice none 0 0] s)).alloc (.cells #[.int .i64 a,.int .i64 0,.slice none 0 0] t)):=by
 refine⟨(blk_new w _ s).alloc _,?_,World.ownsRow_nil _ _ _ _,((Below.refl _ _).alloc (Nat.le_refl _) _).alloc (by simp [World.size_alloc]) _⟩
 have h:=blk_new (w.alloc (.cells #[.int .i64 0,.int .i64 0,.slice none 0 0] s)) #[.int .i64 a,.int .i64 0,.slice none 0 0] t
 rwa [World.size_alloc]at h
theorem TkR.later {X Y:World}(R:TkR w a A n c T E X)(hb:Below X.heap.size X Y):TkR w a A n c T E Y:=
 ⟨R.res.later hb R.res.1,R.var.later hb R.var.1,own_later R.own hb,R.below.trans (hb.mono R.below.size)⟩
theorem TkR.drew {X:World}(R:TkR w a A n c T E X):TkR w a A n c T E X.drew:=R.later (Below.refl _ _).drew
theorem TkR.next {X Y:World}{A3:Option Addr}{c3 m:Nat}{xs:List Value}{M:List Int}(R:TkR w a A n c T 0 X)(hx:xs=flatL encC M)(hp:Pushed X Y (w.heap.size+2) 21 1 (.slice A n c) (n+m) (flatL encC T++xs) A3 c3):TkR w a A3 (n+m) c3 (T++M) 0 (Y.setCell ⟨w.heap.size+1,2,none⟩ (.slice A3 (n+m) c3)):=by
 have ho:=hp.own
 rw [hx,←flatL_append]at ho
 have hne:(Value.slice A3 (n+m) c3).ownBlock≠some (w.heap.size+1):=fun e=>by
  have:=(ho.lt _ e).1
  omega
 refine⟨?_,?_,own_setCellK ho _ _ _ hne,?_⟩
 ·exact(R.res.grown hp.grown (R.far _ (by omega))).far (by show w.heap.size+1≠w.heap.size;omega) _
 ·exact(R.var.grown hp.grown (R.far _ (by omega))).set_ 2 (by simp) _
 ·exact(hp.below R.below R.own (by omega)).setCell (p:=⟨w.heap.size+1,2,none⟩) (by simp only;omega) _
structure TkF (w:World)(x y:Int)(A:Option Addr)(n c:Nat)(T:List Int)(X:World):Prop where
 res:Blk X w.heap.size #[.int .i64 x,.int .i64 y,.slice A n c]
 own:X.ownsRow w.heap.size 21 1 (.slice A n c) n (flatL encC T)
 below:Below w.heap.size w X
theorem TkR.fin {X:World}(R:TkR w a A n c T E X):TkF w a E A n c T (((X.setCell ⟨w.heap.size,0,none⟩ (.int .i64 a)).setCell ⟨w.heap.size,1,none⟩ (.int .i64 E)).setCell ⟨w.heap.size,2,none⟩ (.slice A n c)):=by
 have hne:(Value.slice A n c).ownBlock≠some w.heap.size:=fun e=>R.far _ (by omega) e.symm
 refine⟨((R.res.set_ 0 (by simp) _).set_ 1 (by simp) _).set_ 2 (by simp) _,?_,?_⟩
 ·exact ownLow (own_setCellK (own_setCellK (own_setCellK R.own _ _ _ hne) _ _ _ hne) _ _ _ hne) (by omega)
 ·exact((R.below.setCell (p:=⟨w.heap.size,0,none⟩) (Nat.le_refl _) _).setCell (p:=⟨w.heap.size,1,none⟩) (Nat.le_refl _) _).setCell (p:=⟨w.heap.size,2,none⟩) (Nat.le_refl _) _
theorem TkR.fin0 {X:World}(R:TkR w a A n c T E X):TkF w 0 0 none 0 0 [] (((X.setCell ⟨w.heap.size,0,none⟩ (.int .i64 0)).setCell ⟨w.heap.size,1,none⟩ (.int .i64 0)).setCell ⟨w.heap.size,2,none⟩ (.slice none 0 0)):=by
 refine⟨((R.res.set_ 0 (by simp) _).set_ 1 (by simp) _).set_ 2 (by simp) _,World.ownsRow_nil _ _ _ _,?_⟩
 exact((R.below.setCell (p:=⟨w.heap.size,0,none⟩) (Nat.le_refl _) _).setCell (p:=⟨w.heap.size,1,none⟩) (Nat.le_refl _) _).setCell (p:=⟨w.heap.size,2,none⟩) (Nat.le_refl _) _
theorem TkR.to {X:World}(R:TkR w a A n c T 0 X)(e:Nat):TkR w a A n c T e (X.setCell ⟨w.heap.size+1,1,none⟩ (.int .i64 e)):=by
 have hne:(Value.slice A n c).ownBlock≠some (w.heap.size+1):=fun h=>R.far _ (by omega) h.symm
 exact⟨R.res.far (by show w.heap.size+1≠w.heap.size;omega) _,R.var.set_ 1 (by simp) _,own_setCellK R.own _ _ _ hne,R.below.setCell (p:=⟨w.heap.size+1,1,none⟩) (by simp only;omega) _⟩
end
def TellsK (l:List Int)(a:Nat)(w:World)(e:Ending)(w':World):Prop:=Below w.heap.size w w'∧((∃ (T:List Int) (E:Nat) (A:Option Addr) (n c:Nat),e= .returned (.tuple #[.agg #[.int .i64 a,.int .i64 (E:Nat),.slice A n c],.bool true])∧w'.ownsRow w.heap.size 21 1 (.slice A n c) n (flatL encC T)∧WS.one l 0 a=some (T,E))∨(∃ (x y:Int) (A:Option Addr) (n c:Nat),e= .returned (.tuple #[.agg #[.int .i64 x,.int .i64 y,.slice A n c],.bool false])∧WS.one l 0 a=none))
open Go.RowKit
def iv (p:Nat→Int)(j:Nat):Value:= .int .i32 (p j)
set_option maxHeartbeats 400000 in
theorem same_no (A B:Option Addr)(n m c d:Nat)(w:World)(hn:n≤9223372036854775807)(hm:m≤9223372036854775807)(hne:n≠m):
  Calls Tryz.prog 41 #[.slice A n c,.slice B m d] w fun e w'=>e= .returned (.bool false)∧w=w':=by
 have h1:(((n:Int)==(m:Int)))=false:=by simp;omega
 have h2:(((n:Int) != (m:Int)))=true:=by simp;omega
 go_enter Tryz.func41,Tryz.ntmps41
 go_wp2
 go_ret
 exact⟨rfl,rfl⟩
set_option maxHeartbeats 400000 in
theorem same_yes (A B:Option Addr)(n c d:Nat)(p:Nat→Int)(w:World)(hn:n≤9223372036854775807)(hA:Rd w A n (iv p))(hB:Rd w B n (iv p)):
  Calls Tryz.prog 41 #[.slice A n c,.slice B n d] w fun e w'=>e= .returned (.bool true)∧∃k,w'=w.drewN k:=by
 have h1:(((n:Int)==(n:Int)))=true:=by simp
 have h2:(((n:Int) != (n:Int)))=false:=by simp
 go_enter Tryz.func41,Tryz.ntmps41
 go_wp2
 go_loopw [5] (fun i wr=>∃k:Nat,k≤n∧i= .int .i64 k∧∃q,wr=w.drewN q) (fun i _=>n -(intOf i).toNat)
 case atStart=>exact⟨0,Nat.zero_le _,rfl,0,rfl⟩
 case round=>
  obtain⟨k,hk,rfl,q,rfl⟩:=hrel
  by_cases hlt:k<n
  ·obtain⟨a,i,rfl,_,ha⟩:=hA k hlt
   obtain⟨b,j,rfl,_,hb⟩:=hB k hlt
   have h3:((p k==p k))=true:=by simp
   have h4:((p k != p k))=false:=by simp
   unfold iv at ha hb
   clear hA hB
   go_wp2
   go_quiet (fail)
   go_wp2
   go_roundw
   case rel=>exact⟨k+1,by omega,by go_num,_,rfl⟩
   case measure=>simp [intOf];omega
  ·go_wp2
   go_ret
   exact⟨rfl,_,rfl⟩
end Go.Proofs.YtlopleeopnnoeaaGreat
