import Derived.Test.YtlopleeopnnoeaaGreatMw02
set_option linter.unusedVariables false
set_option linter.unusedSimpArgs false
namespace Go.Proofs.YtlopleeopnnoeaaGreat
open Go.RowKit
namespace WD
section
variable {K:SG.Kinds}{lt:Int→Bool}{l:List Int}
theorem words_own {i:Nat}{x:Nat × Nat}(h:(words K lt l)[i]? =some x):x.1<x.2∧bnd K l x.1∧bnd K l x.2:=by
 obtain⟨h1,h2⟩:=words_at h
 have hm:=begs_lt (List.mem_of_getElem? h1)
 have hb:=beg_begs hm.2
 refine⟨?_,⟨Nat.le_of_lt hm.1,fun _=>hb.1⟩,?_⟩
 ·rw [h2];exact run_gt hm.1 (by unfold let_;rw [hb.1,hb.2.1];rfl)
 ·obtain⟨_,r2,r3,_⟩:=first_spec (p:=non K lt l) (n:=l.length) (i:=x.1) (by omega)
  rw [h2]
  refine⟨r2,fun h=> ?_⟩
  have h:=r3 h
  unfold non at h
  rw [Bool.and_eq_true]at h
  exact h.1
theorem words_apart {i k:Nat}{x y:Nat × Nat}(hx:(words K lt l)[i]? =some x)(hy:(words K lt l)[k]? =some y)(h:i<k):x.2≤y.1:=by
 obtain⟨x1,x2⟩:=words_at hx
 obtain⟨y1,y2⟩:=words_at hy
 have hmx:=begs_lt (List.mem_of_getElem? x1)
 have hmy:=begs_lt (List.mem_of_getElem? y1)
 have hs:(begs K lt l l.length).Pairwise (· < ·):=List.Pairwise.filter _ List.pairwise_lt_range
 obtain⟨a1,a2⟩:=List.getElem?_eq_some_iff.1 x1
 obtain⟨b1,b2⟩:=List.getElem?_eq_some_iff.1 y1
 have hlt:=List.pairwise_iff_getElem.1 hs i k a1 b1 h
 rw [a2,b2]at hlt
 rw [x2]
 exact run_prev hlt (by omega) (beg_begs hmx.2).1 (beg_begs hmy.2).2.2
theorem next_own {a:Nat}(h:bnd K l a):SG.nextP K l a=a:=by
 rcases Nat.lt_or_ge a l.length with h1|h1
 ·exact SG.nextP_yes h1 (h.2 h1)
 ·rw [SG.nextP_end h1];have:=h.1;omega
theorem isP_own {a:Nat}(h:bnd K l a):isP K l a=true:=by
 rcases Nat.lt_or_ge a l.length with h1|h1
 ·rw [isP_lt K h1];exact h.2 h1
 ·obtain rfl:a=l.length:=by have:=h.1;omega
  unfold isP
  simp
theorem floor_own {a:Nat}(h:bnd K l a):floorI K l (a:Int)=a:=by
 have h1:=h.1
 unfold floorI
 rw [Int.min_eq_left (by omega),Int.toNat_natCast]
 cases a with
 |zero=>rfl
 |succ a=>unfold floorP;rw [if_pos (isP_own h)]
theorem fwd_own {a i:Nat}{x:Nat × Nat}(hu:bnd K l a)(hx:(words K lt l)[i]? =some x)(hbef:∀ (k:Nat) (y:Nat × Nat),k<i→(words K lt l)[k]? =some y→y.2≤a)(hgt:a<x.2):fwd K lt l (SG.nextP K l (Int.toNat (a:Int)))=x.2:=by
 rw [Int.toNat_natCast,next_own hu]
 exact fwd_is hu hx hbef hgt
theorem fwd_end {a:Nat}(hu:bnd K l a)(hall:∀ (k:Nat) (y:Nat × Nat),(words K lt l)[k]? =some y→y.2≤a):fwd K lt l (SG.nextP K l (Int.toNat (a:Int)))=l.length:=by
 rw [Int.toNat_natCast,next_own hu]
 exact fwd_none hu hall
theorem back_own {a i:Nat}{x:Nat × Nat}(hu:bnd K l a)(hx:(words K lt l)[i]? =some x)(haft:∀ (k:Nat) (y:Nat × Nat),i<k→(words K lt l)[k]? =some y→a≤y.1)(hlt:x.1<a):back K lt l (floorI K l (a:Int))=x.1:=by
 rw [floor_own hu]
 exact back_is hu.1 hx haft hlt
theorem back_end {a:Nat}(hu:bnd K l a)(hall:∀ (k:Nat) (y:Nat × Nat),(words K lt l)[k]? =some y→a≤y.1):back K lt l (floorI K l (a:Int))=0:=by
 rw [floor_own hu]
 exact back_none hu.1 hall
structure Up (K:SG.Kinds)(lt:Int→Bool)(l:List Int)(i a:Nat):Prop where
 bd:bnd K l a
 bef:∀ (k:Nat) (y:Nat × Nat),k<i→(words K lt l)[k]? =some y→y.2≤a
 aft:∀ (k:Nat) (y:Nat × Nat),i≤k→(words K lt l)[k]? =some y→a<y.2
structure Dn (K:SG.Kinds)(lt:Int→Bool)(l:List Int)(i a:Nat):Prop where
 bd:bnd K l a
 bef:∀ (k:Nat) (y:Nat × Nat),k<i→(words K lt l)[k]? =some y→y.1<a
 aft:∀ (k:Nat) (y:Nat × Nat),i≤k→(words K lt l)[k]? =some y→a≤y.1
theorem Up.zero:Up K lt l 0 0:=⟨⟨Nat.zero_le _,fun _=>rfl⟩,fun k y h=>absurd h (by omega),fun k y _ h=>by have:=(words_own h).1;omega⟩
theorem Up.step {i a:Nat}{x:Nat × Nat}(h:Up K lt l i a)(hx:(words K lt l)[i]? =some x):fwd K lt l (SG.nextP K l (Int.toNat (a:Int)))=x.2∧Up K lt l (i+1) x.2:=by
 refine⟨fwd_own h.bd hx h.bef (h.aft i x (Nat.le_refl _) hx),(words_own hx).2.2,fun k y hk hy=> ?_,fun k y hk hy=> ?_⟩
 ·rcases Nat.eq_or_lt_of_le (show k≤i by omega)with e|e
  ·subst e;rw [hx]at hy;injection hy with hy;subst hy;exact Nat.le_refl _
  ·have:=words_apart hy hx e
   have:=(words_own hx).1
   omega
 ·have:=words_apart hx hy (by omega)
  have:=(words_own hy).1
  omega
theorem Up.fin {i a:Nat}(h:Up K lt l i a)(hi:(words K lt l).length≤i):fwd K lt l (SG.nextP K l (Int.toNat (a:Int)))=l.length:=
 fwd_end h.bd fun k y hy=>h.bef k y (by have:=(List.getElem?_eq_some_iff.1 hy).1;omega) hy
theorem Dn.zero:Dn K lt l (words K lt l).length l.length:=⟨bnd_len,fun k y _ h=>by
 obtain⟨h1,h2⟩:=words_at h
 exact(begs_lt (List.mem_of_getElem? h1)).1,fun k y hk h=>by have:=(List.getElem?_eq_some_iff.1 h).1;omega⟩
theorem Dn.step {i a:Nat}{x:Nat × Nat}(h:Dn K lt l (i+1) a)(hx:(words K lt l)[i]? =some x):back K lt l (floorI K l (a:Int))=x.1∧Dn K lt l i x.1:=by
 have hxa:=h.bef i x (by omega) hx
 refine⟨back_own h.bd hx (fun k y hk hy=>h.aft k y (by omega) hy) hxa,(words_own hx).2.1,fun k y hk hy=> ?_,fun k y hk hy=> ?_⟩
 ·have:=words_apart hy hx hk
  have:=(words_own hy).1
  omega
 ·rcases Nat.eq_or_lt_of_le hk with e|e
  ·subst e;rw [hx]at hy;injection hy with hy;subst hy;exact Nat.le_refl _
  ·have:=h.aft k y (by omega) hy
   omega
theorem Dn.fin {a:Nat}(h:Dn K lt l 0 a):back K lt l (floorI K l (a:Int))=0:=back_end h.bd fun k y hy=>h.aft k y (Nat.zero_le _) hy
end
end WD
end Go.Proofs.YtlopleeopnnoeaaGreat
