import Derived.Test.YtlopleeopnnoeaaGreatMb22
set_option linter.unusedVariables false
set_option linter.unusedSimpArgs false
namespace Go.Proofs.YtlopleeopnnoeaaGreat
open Go.RowKit
section
variable {lo hi:Nat}{L:List RW.Row}{tp:Nat}{W:World}
set_option maxHeartbeats 1000000 in
theorem uwide (h:Ucd lo hi L tp W)(r:Int)(r0: -2147483648≤r)(r1:r≤2147483647):
  Calls Tryz.prog 68 #[.pointer (some ⟨tp,0,none⟩),.int .i32 r] W (fun e w'=>e= .returned (.bool (at0 0 (vget 7 L) r==1))∧Below W.heap.size W w'):=by
 obtain⟨t0,t1,t2,t3,t4,t5,b6,b7,h⟩:=h
 obtain⟨g5,i5,e5⟩:=h.h5
 have C:=Lib.hid (has_any (h.blk.2.1 5) i5.is r r0 r1 1 (at0 0 (vget 7 L) r==1) (fun Z=>by rw [truth_at e5 r];kernel_rfl))
 clear h i5 e5
 go_enter Tryz.func68,Tryz.ntmps68
 go_wp2_with fail
 refine C.out.mono ?_
 rintro e w1 ⟨rfl,hb⟩
 go_wp2
 go_ret
 exact⟨rfl,hb⟩
set_option maxHeartbeats 1000000 in
theorem uletter (h:Ucd lo hi L tp W)(r:Int)(r0: -2147483648≤r)(r1:r≤2147483647):
  Calls Tryz.prog 127 #[.pointer (some ⟨tp,0,none⟩),.int .i32 r] W (fun e w'=>e= .returned (.bool (at0 0 (vget 8 L) r==1))∧Below W.heap.size W w'):=by
 obtain⟨t0,t1,t2,t3,t4,t5,b6,b7,h⟩:=h
 obtain⟨g5,i5,e5⟩:=h.h5
 have C:=Lib.hid (has_any (h.blk.2.1 5) i5.is r r0 r1 2 (at0 0 (vget 8 L) r==1) (fun Z=>by rw [truth_at e5 r];kernel_rfl))
 clear h i5 e5
 go_enter Tryz.func127,Tryz.ntmps127
 go_wp2_with fail
 refine C.out.mono ?_
 rintro e w1 ⟨rfl,hb⟩
 go_wp2
 go_ret
 exact⟨rfl,hb⟩
end
end Go.Proofs.YtlopleeopnnoeaaGreat
