import Derived.Test.YtgddmpmcnjlcjaaGreatDoorB40
import Derived.Test.YtgddmpmcnjlcjaaGreatDoorB28
set_option maxRecDepth 100000
set_option maxHeartbeats 1000000
namespace Go.Proofs.YtgddmpmcnjlcjaaGreatDoor
open Go.RowKit
set_option linter.unusedVariables false
section
variable (s:ByteArray) (k:Int) (w:World)
theorem xY (h:wi k 10=false∨600<s.size∨(s.size≤600∧(Rf.Fz s.toList).1=false)):Calls Tryz.prog 6 #[.string s,.int .i64 k] w fun e w'=>e=.returned (.pointer none)∧Below w.heap.size w w':=by
 cases hk:wi k 10 with
 |false=>
  go_enter Tryz.func6,Tryz.ntmps6
  go_wp2_with (first
   |(go_at_call 13;refine (qg k 0 0 _ (.inl hk)).mono ?_;rintro e w5 ⟨rfl,Cb⟩;have CE:=hid Cb;clear Cb))
  go_ret
  exact ⟨rfl,CE.out⟩
 |true=>
  by_cases h6:600<s.size
  ·have h6I:(600:Int)<(s.size:Int):=by omega
   go_enter Tryz.func6,Tryz.ntmps6
   go_wp2_with (first
    |(go_at_call 13;refine (Y4 k 0 0 _ hk (by decide) (by decide)).mono ?_;rintro e w5 ⟨rfl,Cb⟩;have CE:=hid Cb;clear Cb))
   go_ret
   exact ⟨rfl,CE.out⟩
  ·have h6I: ¬(600:Int)<(s.size:Int):=by omega
   have R_:s.size≤600:=by omega
   have hr:(Rf.Fz s.toList).1=false:=by
    rcases h with h|h|h
    ·rw[hk] at h;cases h
    ·omega
    ·exact h.2
   have HR:=hid hr
   clear h hr
   go_enter Tryz.func6,Tryz.ntmps6
   go_wp2_with (first
    |(go_at_call 13;refine (Y4 k 0 0 _ hk (by decide) (by decide)).mono ?_;rintro e w5 ⟨rfl,Cb⟩;have CE:=hid Cb;have z5:=Cb.size;clear Cb)
    |(go_at_call 14;refine (pG s R_ _).mono ?_;rintro e w6 hr6;obtain ⟨_,he⟩:=hr6.2.1 HR.out;subst he;have Bz:=hid hr6.1;clear hr6))
   go_ret
   exact ⟨rfl,CE.out.trans (Bz.out.mono z5)⟩
theorem tP (hk:wi k 10=true) (R_:s.size≤600) (ds:List Rf.Dc) (ts:List Rf.Tr) (rp: ∀ w:World,Calls Tryz.prog 14 #[.string s] w fun e w'=>e=.returned (.tuple #[.pointer (some ⟨w.heap.size,0,none⟩),.int .i64 0])∧Below w.heap.size w w'∧QZ w w' ds ts):
  Calls Tryz.prog 6 #[.string s,.int .i64 k] w fun e w'=> ∃ w5:World,e=.returned (.pointer (some ⟨w5.heap.size,0,none⟩))∧Below w.heap.size w w'∧QZ w5 w' ds ts:=by
 have RP:=hid rp
 have h6I: ¬(600:Int)<(s.size:Int):=by omega
 clear rp
 go_enter Tryz.func6,Tryz.ntmps6
 go_wp2_with (first
  |(go_at_call 13;refine (Y4 k 0 0 _ hk (by decide) (by decide)).mono ?_;rintro e w5 ⟨rfl,Cb⟩;have CE:=hid Cb;have z5:=Cb.size;clear Cb)
  |(go_at_call 14;refine (RP.out _).mono ?_;rintro e w6 ⟨rfl,D9,hp6⟩;have Bz:=hid D9;have Lf:=hid hp6;clear D9 hp6))
 go_ret
 exact ⟨w5,rfl,CE.out.trans (Bz.out.mono z5),Lf.out⟩
end
end Go.Proofs.YtgddmpmcnjlcjaaGreatDoor
