import Derived.Test.YtlopleeopnnoeaaGreatMw01
set_option linter.unusedVariables false
set_option linter.unusedSimpArgs false
namespace Go.Proofs.YtlopleeopnnoeaaGreat
open Go.RowKit
namespace WS
def blank (x:Int):Bool:=x==32||x==9
def pre (T:List Int)(r:Option (List Int × Nat)):Option (List Int × Nat):=r.map fun p=>(T++p.1,p.2)
theorem pre_nil (r:Option (List Int × Nat)):pre [] r=r:=by cases r<;>rfl
theorem pre_pre (A B:List Int)(r:Option (List Int × Nat)):pre A (pre B r)=pre (A++B) r:=by cases r<;>simp [pre]
theorem pre_none (A:List Int):pre A none=none:=rfl
theorem pre_some (A B:List Int)(e:Nat):pre A (some (B,e))=some (A++B,e):=rfl
def one (l:List Int)(q:Int)(i:Nat):Option (List Int × Nat):=
 if i<l.length then
  if q=0∧blank (l.getD i 0)=true then some ([],i)
  else if (q=0∧l.getD i 0=92)∨(q=34∧l.getD i 0=92∧i+1<l.length∧(l.getD (i+1) 0=34∨l.getD (i+1) 0=92))then
   if i+1<l.length then pre [l.getD (i+1) 0] (one l q (i+2))else none
  else if q=0∧(l.getD i 0=34∨l.getD i 0=39)then one l (l.getD i 0) (i+1)
  else if q≠0∧l.getD i 0=q then one l 0 (i+1)
  else pre [l.getD i 0] (one l q (i+1))
 else if q=0 then some ([],l.length)else none
termination_by l.length - i
decreasing_by all_goals omega
section
variable {l:List Int}{q:Int}{i:Nat}
theorem one_end (h:l.length≤i):one l q i=if q=0 then some ([],l.length)else none:=by
 rw [one,if_neg (by omega)]
theorem one_blank (h:i<l.length)(hb:blank (l.getD i 0)=true):one l 0 i=some ([],i):=by
 rw [one,if_pos h,if_pos ⟨rfl,hb⟩]
theorem one_cut (h:i<l.length)(hb:l.getD i 0=92)(h2:l.length≤i+1):one l 0 i=none:=by
 rw [one,if_pos h,if_neg (by rw [hb];decide),if_pos (.inl ⟨rfl,hb⟩),if_neg (by omega)]
theorem one_esc0 (hb:l.getD i 0=92)(h2:i+1<l.length):one l 0 i=pre [l.getD (i+1) 0] (one l 0 (i+2)):=by
 rw [one,if_pos (by omega),if_neg (by rw [hb];decide),if_pos (.inl ⟨rfl,hb⟩),if_pos h2]
theorem one_esc (hb:l.getD i 0=92)(h2:i+1<l.length)(hy:l.getD (i+1) 0=34∨l.getD (i+1) 0=92):one l 34 i=pre [l.getD (i+1) 0] (one l 34 (i+2)):=by
 rw [one,if_pos (by omega),if_neg (fun h=>absurd h.1 (by decide)),if_pos (.inr ⟨rfl,hb,h2,hy⟩),if_pos h2]
theorem one_open (h:i<l.length)(hx:l.getD i 0=34∨l.getD i 0=39):one l 0 i=one l (l.getD i 0) (i+1):=by
 rw [one,if_pos h,if_neg (by rcases hx with h|h<;>rw [h]<;>decide),if_neg (by rcases hx with h|h<;>rw [h]<;>simp),if_pos ⟨rfl,hx⟩]
theorem one_close (h:i<l.length)(hq:q=34∨q=39)(hx:l.getD i 0=q):one l q i=one l 0 (i+1):=by
 rw [one,if_pos h,if_neg (by rcases hq with h|h<;>rw [h]<;>simp),if_neg (by rw [hx];rcases hq with h|h<;>rw [h]<;>simp),if_neg (by rcases hq with h|h<;>rw [h]<;>simp),if_pos ⟨by rcases hq with h|h<;>rw [h]<;>decide,hx⟩]
theorem one_plain (h:i<l.length)(h0:q=0→blank (l.getD i 0)=false∧l.getD i 0≠92∧l.getD i 0≠34∧l.getD i 0≠39)(h1:l.getD i 0≠q∨q=0)(h2:q=34→l.getD i 0=92→i+1<l.length→l.getD (i+1) 0≠34∧l.getD (i+1) 0≠92):one l q i=pre [l.getD i 0] (one l q (i+1)):=by
 rw [one,if_pos h,if_neg (fun k=>by have:=(h0 k.1).1;rw [k.2]at this;cases this),if_neg (fun k=>by
  rcases k with⟨k1,k2⟩|⟨k1,k2,k3,k4⟩
  ·exact(h0 k1).2.1 k2
  ·have:=h2 k1 k2 k3
   rcases k4 with k4|k4
   ·exact this.1 k4
   ·exact this.2 k4),if_neg (fun k=>by
  have:=h0 k.1
  rcases k.2 with k2|k2
  ·exact this.2.2.1 k2
  ·exact this.2.2.2 k2),if_neg (fun k=>by
  rcases h1 with h1|h1
  ·exact h1 k.2
  ·exact k.1 h1)]
theorem pre_inv {A T:List Int}{e:Nat}{r:Option (List Int × Nat)}(h:pre A r=some (T,e)):∃B,r=some (B,e)∧T=A++B:=by
 cases r with
 |none=>cases h
 |some p=>
  obtain⟨B,k⟩:=p
  injection h with h
  injection h with h1 h2
  subst h1;subst h2
  exact⟨B,rfl,rfl⟩
theorem one_ge:∀ (d:Nat) (q:Int) (i:Nat) (T:List Int) (e:Nat),l.length - i≤d→i≤l.length→one l q i=some (T,e)→i≤e∧e≤l.length∧T.length≤e - i∧(i<l.length→¬(q=0∧blank (l.getD i 0)=true)→i<e):=by
 intro d
 induction d with
 |zero=>
  intro q i T e hd hi h
  rw [one_end (by omega)]at h
  split at h
  ·injection h with h
   injection h with h1 h2
   subst h1;subst h2
   exact⟨hi,Nat.le_refl _,Nat.zero_le _,fun h=>absurd h (by omega)⟩
  ·cases h
 |succ d ih=>
  intro q i T e hd hi h
  rw [one]at h
  split at h
  case isFalse hlt=>
   split at h
   ·injection h with h
    injection h with h1 h2
    subst h1;subst h2
    exact⟨hi,Nat.le_refl _,Nat.zero_le _,fun h=>absurd h hlt⟩
   ·cases h
  case isTrue hlt=>
   split at h
   case isTrue hb=>
    injection h with h
    injection h with h1 h2
    subst h1;subst h2
    exact⟨Nat.le_refl _,hi,Nat.zero_le _,fun _ hn=>absurd hb hn⟩
   split at h
   case isTrue he=>
    split at h
    ·obtain⟨B,h1,rfl⟩:=pre_inv h
     have:=ih q (i+2) B e (by omega) (by omega) h1
     refine⟨by omega,by omega,?_,fun _ _=>by omega⟩
     simp only [List.length_append,List.length_cons,List.length_nil]
     omega
    ·cases h
   split at h
   ·have:=ih _ (i+1) T e (by omega) (by omega) h
    exact⟨by omega,by omega,by omega,fun _ _=>by omega⟩
   split at h
   ·have:=ih _ (i+1) T e (by omega) (by omega) h
    exact⟨by omega,by omega,by omega,fun _ _=>by omega⟩
   ·obtain⟨B,h1,rfl⟩:=pre_inv h
    have:=ih q (i+1) B e (by omega) (by omega) h1
    refine⟨by omega,by omega,?_,fun _ _=>by omega⟩
    simp only [List.length_append,List.length_cons,List.length_nil]
    omega
end
structure Tk where
 f:Nat
 t:Nat
 x:List Int
def preS (T:List Tk)(r:Option (List Tk) × Nat):Option (List Tk) × Nat:=(r.1.map fun p=>T++p,r.2)
theorem preS_nil (r:Option (List Tk) × Nat):preS [] r=r:=by
 obtain⟨o,a⟩:=r
 cases o<;>rfl
theorem preS_preS (A B:List Tk)(r:Option (List Tk) × Nat):preS A (preS B r)=preS (A++B) r:=by
 obtain⟨o,a⟩:=r
 cases o<;>simp [preS]
def spl (l:List Int)(i:Nat):Option (List Tk) × Nat:=
 if h:i<l.length then
  if hb:blank (l.getD i 0)=true then spl l (i+1)
  else match h1:one l 0 i with
   |none=>(none,i)
   |some (T,e)=>preS [⟨i,e,T⟩] (spl l e)
 else (some [],0)
termination_by l.length - i
decreasing_by
 ·omega
 ·have:=one_ge (l:=l) _ 0 i T e (Nat.le_refl _) (by omega) h1
  have:=this.2.2.2 h (fun h=>hb h.2)
  omega
section
variable {l:List Int}{i:Nat}
theorem spl_end (h:l.length≤i):spl l i=(some [],0):=by
 rw [spl,dif_neg (by omega)]
theorem spl_blank (h:i<l.length)(hb:blank (l.getD i 0)=true):spl l i=spl l (i+1):=by
 rw [spl,dif_pos h,dif_pos hb]
theorem spl_bad (h:i<l.length)(hb:blank (l.getD i 0)=false)(h1:one l 0 i=none):spl l i=(none,i):=by
 rw [spl,dif_pos h,dif_neg (by rw [hb];decide)]
 split
 ·rfl
 ·rename_i h2;rw [h1]at h2;cases h2
theorem spl_good {T:List Int}{e:Nat}(h:i<l.length)(hb:blank (l.getD i 0)=false)(h1:one l 0 i=some (T,e)):spl l i=preS [⟨i,e,T⟩] (spl l e):=by
 rw [spl,dif_pos h,dif_neg (by rw [hb];decide)]
 split
 ·rename_i h2;rw [h1]at h2;cases h2
 ·rename_i h2
  rw [h1]at h2
  injection h2 with h2
  injection h2 with h2 h3
  subst h2;subst h3
  rfl
end
end WS
end Go.Proofs.YtlopleeopnnoeaaGreat
