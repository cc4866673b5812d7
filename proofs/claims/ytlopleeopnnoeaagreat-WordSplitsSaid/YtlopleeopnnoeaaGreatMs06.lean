import Derived.Test.YtlopleeopnnoeaaGreatMs05
import Derived.Test.YtlopleeopnnoeaaGreatMs02
import Derived.Test.YtlopleeopnnoeaaGreatMb22
set_option linter.unusedVariables false
set_option linter.unusedSimpArgs false
namespace Go.Proofs.YtlopleeopnnoeaaGreat
open Go.RowKit
set_option maxHeartbeats 1000000 in
theorem clone_any (v:Value)(l:List Int)(w:World)(h:Txt w v l)(hl:l.length≤1000000000):Calls Tryz.prog 91 #[v] w (TellsT l w):=by
 obtain⟨A,c,rfl,hr,hnil,hc,hm,_⟩:=h
 rcases A with _|a
 ·obtain⟨h0,rfl⟩:=hnil rfl
  obtain rfl:l=[]:=List.eq_nil_of_length_eq_zero h0
  have hq:=Lib.run_eql_slice_nil (P:= Tryz.prog) w 22 21 none 0 0 0 0 Tryz.underlying22
  go_enter Tryz.func91,Tryz.ntmps91
  go_wp2
  go_ret
  exact⟨_,_,_,rfl,Sl.nil _ _ _,Below.refl _ _⟩
 ·have hq:=Lib.run_eql_slice_nil (P:= Tryz.prog) w 22 21 (some a) l.length c 0 0 Tryz.underlying22
  simp only [Option.isNone]at hq
  have HR:=Lib.hid hr
  have hown:=own_new w #[] 21 0 rfl (Nat.zero_le _)
  have HO:=Lib.hid hown
  clear hr hnil hown
  go_enter Tryz.func91,Tryz.ntmps91
  go_wp2_with (at_builtin;refine wpList_cat slR_elt HO.out (by simp [World.size_alloc]) rfl rfl rfl rfl (HR.out.later ((Below.refl _ _).alloc (Nat.le_refl _) _)) (fun h=>by cases h) (fun j _=>rfl) (by unfold maxLen;omega) (by omega) ?_;intro A3 c3 w3 hp;have HP:=Lib.hid hp;clear hp)
  go_ret
  have hx:=HP.out.own
  rw [liR_map]at hx
  refine⟨_,_,_,rfl,?_,?_⟩
  ·have:=txt_own (l:=l) (n:=0+l.length) (by simp) (by simpa using hx)
   rw [Nat.zero_add]at this
   exact this
  ·exact((Below.refl w.heap.size w).alloc (Nat.le_refl _) _).grown HP.out.grown (by simp [World.size_alloc]) (fun k hk=>(HO.out.lt k hk).1)
theorem range_getD (l:List Int):(List.range l.length).map (fun j=>l.getD j 0)=l:=by
 refine List.ext_getElem? fun i=> ?_
 rw [List.getElem?_map]
 rcases Nat.lt_or_ge i l.length with h|h
 ·rw [List.getElem?_range h]
  simp [List.getD,h]
 ·rw [List.getElem?_eq_none (by simpa using h),List.getElem?_eq_none h]
  rfl
theorem li_txt2 {w:World}{S:Nat→Prop}{A:Option Addr}{n c:Nat}{l:List Int}(h:TxtS w S (.slice A n c) l):n=l.length∧Li 1 encC w (fun _=>True) A l∧l.length≤c∧c≤maxLen:=by
 obtain⟨e,hr,_,h2,h3⟩:=Sl.parts h
 have:=li_of_rd (f:=fun j=>l.getD j 0) hr
 rw [range_getD l]at this
 exact⟨e,this,h2,h3⟩
end Go.Proofs.YtlopleeopnnoeaaGreat
