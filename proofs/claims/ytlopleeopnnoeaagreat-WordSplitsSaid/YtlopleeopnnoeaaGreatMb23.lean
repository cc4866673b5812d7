import Derived.Test.YtlopleeopnnoeaaGreatMb22
set_option linter.unusedVariables false
set_option linter.unusedSimpArgs false
namespace Go.Proofs.YtlopleeopnnoeaaGreat
open Go.RowKit
set_option maxHeartbeats 8000000 in
set_option maxRecDepth 100000 in
theorem parts_any (s:SG.St)(now conj:Int)(pict:Bool)(w:World):Calls Tryz.prog 165 #[vSt s,.int .i64 now,.int .i64 conj,.bool pict] w fun e w'=>e= .returned (.bool (SG.partsB s now conj pict))∧Below w.heap.size w w':=by
 obtain⟨s0,a,s2,s3,s4,s5⟩:=s
 dsimp only [vSt]
 obtain⟨V,hV⟩:∃V,SG.partsB ⟨s0,a,s2,s3,s4,s5⟩ now conj pict=V:=⟨_,rfl⟩
 rw [hV]
 have HV:=Lib.hid hV
 clear hV
 have CA:=Lib.hid (fun X=>control_any a X)
 have CN:=Lib.hid (fun X=>control_any now X)
 have CS:=Lib.hid (fun X=>syllable_any a now X)
 by_cases ea:a=1
 ·subst ea
  by_cases en:now=2
  ·subst en
   obtain rfl:false=V:=by rw [←HV.out];unfold SG.partsB SG.rule;simp []
   clear HV
   go_enter Tryz.func165,Tryz.ntmps165
   go_wp2
   go_ret
   exact⟨rfl,(Below.refl _ _).alloc (Nat.le_refl _) _⟩
  ·have dn:(now==2)=false:=by simpa using en
   have ca:SG.controlB 1=true:=rfl
   simp only [ca]at CA
   obtain rfl:true=V:=by rw [←HV.out];unfold SG.partsB SG.rule;simp [en,ca]
   clear HV en
   go_enter Tryz.func165,Tryz.ntmps165
   go_wp2_with fail
   refine(CA.out _).mono ?_
   rintro e w1 ⟨rfl,rfl⟩
   go_wp2
   go_ret
   exact⟨rfl,(Below.refl _ _).alloc (Nat.le_refl _) _⟩
 ·have da:(a==1)=false:=by simpa using ea
  obtain⟨x,hx⟩:∃x,SG.controlB a=x:=⟨_,rfl⟩
  obtain⟨y,hy⟩:∃y,SG.controlB now=y:=⟨_,rfl⟩
  obtain⟨z,hz⟩:∃z,SG.syllB a now=z:=⟨_,rfl⟩
  simp only [hx]at CA
  simp only [hy]at CN
  simp only [hz]at CS
  have HX:=Lib.hid hx
  have HY:=Lib.hid hy
  have HZ:=Lib.hid hz
  clear hx hy hz
  cases x
  case true=>
   obtain rfl:true=V:=by rw [←HV.out];unfold SG.partsB SG.rule;simp [ea,HX.out]
   clear HV ea
   go_enter Tryz.func165,Tryz.ntmps165
   go_wp2_with fail
   refine(CA.out _).mono ?_
   rintro e w1 ⟨rfl,rfl⟩
   go_wp2
   go_ret
   exact⟨rfl,(Below.refl _ _).alloc (Nat.le_refl _) _⟩
  case false=>
  cases y
  case true=>
   obtain rfl:true=V:=by rw [←HV.out];unfold SG.partsB SG.rule;simp [ea,HX.out,HY.out]
   clear HV ea
   go_enter Tryz.func165,Tryz.ntmps165
   go_wp2_with fail
   refine(CA.out _).mono ?_
   rintro e w1 ⟨rfl,rfl⟩
   go_wp2_with fail
   refine(CN.out _).mono ?_
   rintro e w1 ⟨rfl,rfl⟩
   go_wp2
   go_ret
   exact⟨rfl,(Below.refl _ _).alloc (Nat.le_refl _) _⟩
  case false=>
  cases z
  case true=>
   obtain rfl:false=V:=by rw [←HV.out];unfold SG.partsB SG.rule;simp [ea,HX.out,HY.out,HZ.out]
   clear HV ea
   go_enter Tryz.func165,Tryz.ntmps165
   go_wp2_with fail
   refine(CA.out _).mono ?_
   rintro e w1 ⟨rfl,rfl⟩
   go_wp2_with fail
   refine(CN.out _).mono ?_
   rintro e w1 ⟨rfl,rfl⟩
   go_wp2_with fail
   refine(CS.out _).mono ?_
   rintro e w1 ⟨rfl,rfl⟩
   go_wp2
   go_ret
   exact⟨rfl,(Below.refl _ _).alloc (Nat.le_refl _) _⟩
  case false=>
  by_cases en4:now=4
  ·subst en4
   obtain rfl:false=V:=by rw [←HV.out];unfold SG.partsB SG.rule;simp [ea,HX.out,HY.out,HZ.out]
   clear HV ea
   go_enter Tryz.func165,Tryz.ntmps165
   go_wp2_with fail
   refine(CA.out _).mono ?_
   rintro e w1 ⟨rfl,rfl⟩
   go_wp2_with fail
   refine(CN.out _).mono ?_
   rintro e w1 ⟨rfl,rfl⟩
   go_wp2_with fail
   refine(CS.out _).mono ?_
   rintro e w1 ⟨rfl,rfl⟩
   go_wp2
   go_ret
   exact⟨rfl,(Below.refl _ _).alloc (Nat.le_refl _) _⟩
  ·have dn4:(now==4)=false:=by simpa using en4
   by_cases en5:now=5
   ·subst en5
    obtain rfl:false=V:=by rw [←HV.out];unfold SG.partsB SG.rule;simp [ea,HX.out,HY.out,HZ.out,en4]
    clear HV ea en4
    go_enter Tryz.func165,Tryz.ntmps165
    go_wp2_with fail
    refine(CA.out _).mono ?_
    rintro e w1 ⟨rfl,rfl⟩
    go_wp2_with fail
    refine(CN.out _).mono ?_
    rintro e w1 ⟨rfl,rfl⟩
    go_wp2_with fail
    refine(CS.out _).mono ?_
    rintro e w1 ⟨rfl,rfl⟩
    go_wp2
    go_ret
    exact⟨rfl,(Below.refl _ _).alloc (Nat.le_refl _) _⟩
   ·have dn5:(now==5)=false:=by simpa using en5
    by_cases en8:now=8
    ·subst en8
     obtain rfl:false=V:=by rw [←HV.out];unfold SG.partsB SG.rule;simp [ea,HX.out,HY.out,HZ.out,en4,en5]
     clear HV ea en4 en5
     go_enter Tryz.func165,Tryz.ntmps165
     go_wp2_with fail
     refine(CA.out _).mono ?_
     rintro e w1 ⟨rfl,rfl⟩
     go_wp2_with fail
     refine(CN.out _).mono ?_
     rintro e w1 ⟨rfl,rfl⟩
     go_wp2_with fail
     refine(CS.out _).mono ?_
     rintro e w1 ⟨rfl,rfl⟩
     go_wp2
     go_ret
     exact⟨rfl,(Below.refl _ _).alloc (Nat.le_refl _) _⟩
    ·have dn8:(now==8)=false:=by simpa using en8
     by_cases ea7:a=7
     ·subst ea7
      obtain rfl:false=V:=by rw [←HV.out];unfold SG.partsB SG.rule;simp [HX.out,HY.out,HZ.out,en4,en5,en8]
      clear HV en4 en5 en8
      go_enter Tryz.func165,Tryz.ntmps165
      go_wp2_with fail
      refine(CA.out _).mono ?_
      rintro e w1 ⟨rfl,rfl⟩
      go_wp2_with fail
      refine(CN.out _).mono ?_
      rintro e w1 ⟨rfl,rfl⟩
      go_wp2_with fail
      refine(CS.out _).mono ?_
      rintro e w1 ⟨rfl,rfl⟩
      go_wp2
      go_ret
      exact⟨rfl,(Below.refl _ _).alloc (Nat.le_refl _) _⟩
     ·have da7:(a==7)=false:=by simpa using ea7
      by_cases ec:conj=2
      ·subst ec
       by_cases es:s2=2
       ·subst es
        obtain rfl:false=V:=by rw [←HV.out];unfold SG.partsB SG.rule;simp [ea,HX.out,HY.out,HZ.out,en4,en5,en8,ea7]
        clear HV ea en4 en5 en8 ea7
        go_enter Tryz.func165,Tryz.ntmps165
        go_wp2_with fail
        refine(CA.out _).mono ?_
        rintro e w1 ⟨rfl,rfl⟩
        go_wp2_with fail
        refine(CN.out _).mono ?_
        rintro e w1 ⟨rfl,rfl⟩
        go_wp2_with fail
        refine(CS.out _).mono ?_
        rintro e w1 ⟨rfl,rfl⟩
        go_wp2
        go_ret
        exact⟨rfl,(Below.refl _ _).alloc (Nat.le_refl _) _⟩
       ·have ds:(s2==2)=false:=by simpa using es
        cases pict
        case false=>
         by_cases e6:now=6
         ·subst e6
          obtain rfl:(!s5)=V:=by rw [←HV.out];unfold SG.partsB SG.rule;simp [ea,HX.out,HY.out,HZ.out,ea7,es]
          clear HV ea ea7 es
          go_enter Tryz.func165,Tryz.ntmps165
          go_wp2_with fail
          refine(CA.out _).mono ?_
          rintro e w1 ⟨rfl,rfl⟩
          go_wp2_with fail
          refine(CN.out _).mono ?_
          rintro e w1 ⟨rfl,rfl⟩
          go_wp2_with fail
          refine(CS.out _).mono ?_
          rintro e w1 ⟨rfl,rfl⟩
          go_wp2
          go_ret
          exact⟨rfl,(Below.refl _ _).alloc (Nat.le_refl _) _⟩
         ·have d6:(now==6)=false:=by simpa using e6
          obtain rfl:true=V:=by rw [←HV.out];unfold SG.partsB SG.rule;simp [ea,HX.out,HY.out,HZ.out,en4,en5,en8,ea7,es,e6]
          clear HV ea en4 en5 en8 ea7 es e6
          go_enter Tryz.func165,Tryz.ntmps165
          go_wp2_with fail
          refine(CA.out _).mono ?_
          rintro e w1 ⟨rfl,rfl⟩
          go_wp2_with fail
          refine(CN.out _).mono ?_
          rintro e w1 ⟨rfl,rfl⟩
          go_wp2_with fail
          refine(CS.out _).mono ?_
          rintro e w1 ⟨rfl,rfl⟩
          go_wp2
          go_ret
          exact⟨rfl,(Below.refl _ _).alloc (Nat.le_refl _) _⟩
        case true=>
        cases s4
        case true=>
         obtain rfl:false=V:=by rw [←HV.out];unfold SG.partsB SG.rule;simp [ea,HX.out,HY.out,HZ.out,en4,en5,en8,ea7,es]
         clear HV ea en4 en5 en8 ea7 es
         go_enter Tryz.func165,Tryz.ntmps165
         go_wp2_with fail
         refine(CA.out _).mono ?_
         rintro e w1 ⟨rfl,rfl⟩
         go_wp2_with fail
         refine(CN.out _).mono ?_
         rintro e w1 ⟨rfl,rfl⟩
         go_wp2_with fail
         refine(CS.out _).mono ?_
         rintro e w1 ⟨rfl,rfl⟩
         go_wp2
         go_ret
         exact⟨rfl,(Below.refl _ _).alloc (Nat.le_refl _) _⟩
        case false=>
         by_cases e6:now=6
         ·subst e6
          obtain rfl:(!s5)=V:=by rw [←HV.out];unfold SG.partsB SG.rule;simp [ea,HX.out,HY.out,HZ.out,ea7,es]
          clear HV ea ea7 es
          go_enter Tryz.func165,Tryz.ntmps165
          go_wp2_with fail
          refine(CA.out _).mono ?_
          rintro e w1 ⟨rfl,rfl⟩
          go_wp2_with fail
          refine(CN.out _).mono ?_
          rintro e w1 ⟨rfl,rfl⟩
          go_wp2_with fail
          refine(CS.out _).mono ?_
          rintro e w1 ⟨rfl,rfl⟩
          go_wp2
          go_ret
          exact⟨rfl,(Below.refl _ _).alloc (Nat.le_refl _) _⟩
         ·have d6:(now==6)=false:=by simpa using e6
          obtain rfl:true=V:=by rw [←HV.out];unfold SG.partsB SG.rule;simp [ea,HX.out,HY.out,HZ.out,en4,en5,en8,ea7,es,e6]
          clear HV ea en4 en5 en8 ea7 es e6
          go_enter Tryz.func165,Tryz.ntmps165
          go_wp2_with fail
          refine(CA.out _).mono ?_
          rintro e w1 ⟨rfl,rfl⟩
          go_wp2_with fail
          refine(CN.out _).mono ?_
          rintro e w1 ⟨rfl,rfl⟩
          go_wp2_with fail
          refine(CS.out _).mono ?_
          rintro e w1 ⟨rfl,rfl⟩
          go_wp2
          go_ret
          exact⟨rfl,(Below.refl _ _).alloc (Nat.le_refl _) _⟩
      ·have dc:(conj==2)=false:=by simpa using ec
       cases pict
       case false=>
        by_cases e6:now=6
        ·subst e6
         obtain rfl:(!s5)=V:=by rw [←HV.out];unfold SG.partsB SG.rule;simp [ea,HX.out,HY.out,HZ.out,ea7,ec]
         clear HV ea ea7 ec
         go_enter Tryz.func165,Tryz.ntmps165
         go_wp2_with fail
         refine(CA.out _).mono ?_
         rintro e w1 ⟨rfl,rfl⟩
         go_wp2_with fail
         refine(CN.out _).mono ?_
         rintro e w1 ⟨rfl,rfl⟩
         go_wp2_with fail
         refine(CS.out _).mono ?_
         rintro e w1 ⟨rfl,rfl⟩
         go_wp2
         go_ret
         exact⟨rfl,(Below.refl _ _).alloc (Nat.le_refl _) _⟩
        ·have d6:(now==6)=false:=by simpa using e6
         obtain rfl:true=V:=by rw [←HV.out];unfold SG.partsB SG.rule;simp [ea,HX.out,HY.out,HZ.out,en4,en5,en8,ea7,ec,e6]
         clear HV ea en4 en5 en8 ea7 ec e6
         go_enter Tryz.func165,Tryz.ntmps165
         go_wp2_with fail
         refine(CA.out _).mono ?_
         rintro e w1 ⟨rfl,rfl⟩
         go_wp2_with fail
         refine(CN.out _).mono ?_
         rintro e w1 ⟨rfl,rfl⟩
         go_wp2_with fail
         refine(CS.out _).mono ?_
         rintro e w1 ⟨rfl,rfl⟩
         go_wp2
         go_ret
         exact⟨rfl,(Below.refl _ _).alloc (Nat.le_refl _) _⟩
       case true=>
       cases s4
       case true=>
        obtain rfl:false=V:=by rw [←HV.out];unfold SG.partsB SG.rule;simp [ea,HX.out,HY.out,HZ.out,en4,en5,en8,ea7,ec]
        clear HV ea en4 en5 en8 ea7 ec
        go_enter Tryz.func165,Tryz.ntmps165
        go_wp2_with fail
        refine(CA.out _).mono ?_
        rintro e w1 ⟨rfl,rfl⟩
        go_wp2_with fail
        refine(CN.out _).mono ?_
        rintro e w1 ⟨rfl,rfl⟩
        go_wp2_with fail
        refine(CS.out _).mono ?_
        rintro e w1 ⟨rfl,rfl⟩
        go_wp2
        go_ret
        exact⟨rfl,(Below.refl _ _).alloc (Nat.le_refl _) _⟩
       case false=>
        by_cases e6:now=6
        ·subst e6
         obtain rfl:(!s5)=V:=by rw [←HV.out];unfold SG.partsB SG.rule;simp [ea,HX.out,HY.out,HZ.out,ea7,ec]
         clear HV ea ea7 ec
         go_enter Tryz.func165,Tryz.ntmps165
         go_wp2_with fail
         refine(CA.out _).mono ?_
         rintro e w1 ⟨rfl,rfl⟩
         go_wp2_with fail
         refine(CN.out _).mono ?_
         rintro e w1 ⟨rfl,rfl⟩
         go_wp2_with fail
         refine(CS.out _).mono ?_
         rintro e w1 ⟨rfl,rfl⟩
         go_wp2
         go_ret
         exact⟨rfl,(Below.refl _ _).alloc (Nat.le_refl _) _⟩
        ·have d6:(now==6)=false:=by simpa using e6
         obtain rfl:true=V:=by rw [←HV.out];unfold SG.partsB SG.rule;simp [ea,HX.out,HY.out,HZ.out,en4,en5,en8,ea7,ec,e6]
         clear HV ea en4 en5 en8 ea7 ec e6
         go_enter Tryz.func165,Tryz.ntmps165
         go_wp2_with fail
         refine(CA.out _).mono ?_
         rintro e w1 ⟨rfl,rfl⟩
         go_wp2_with fail
         refine(CN.out _).mono ?_
         rintro e w1 ⟨rfl,rfl⟩
         go_wp2_with fail
         refine(CS.out _).mono ?_
         rintro e w1 ⟨rfl,rfl⟩
         go_wp2
         go_ret
         exact⟨rfl,(Below.refl _ _).alloc (Nat.le_refl _) _⟩
end Go.Proofs.YtlopleeopnnoeaaGreat
