import Derived.Test.YtfnmglfbcpdlnaaH0
import Derived.Test.YtfnmglfbcpdlnaaB4b
import Derived.Test.YtfnmglfbcpdlnaaB5
import Derived.Test.YtfnmglfbcpdlnaaB6c
namespace Go.Proofs.Ytfnmglfbcpdlnaa
open Go.RowKit
set_option linter.unusedVariables false

set_option maxRecDepth 100000 in
set_option maxHeartbeats 4000000 in
theorem take_any (r : Lk.RS) (vs vc vb : Value) (base b g cap : Nat) (ws : List ByteArray) (w : World) (hr : Rep w base b r vs vc vb) (hw : Wds w g ws) (hbl : r.body.length ≤ 100000) (hI : Inv r) (hs4 : r.secret.length ≤ 3) (hl : 0 < ws.length) :
    Calls Try.prog 54 #[.pointer (some ⟨b, 0, none⟩), .slice (some ⟨g, 0, none⟩) ws.length cap] w fun e w' =>
      e = .returned (.bool (Lk.take r (ws.map ByteArray.toList)).isSome) ∧ Took w w' base b (Lk.take r (ws.map ByteArray.toList)) := by
  have hc0 := hw 0 hl
  obtain ⟨O, hO⟩ : ∃ O, Lk.take r (ws.map ByteArray.toList) = O := ⟨_, rfl⟩
  rw [hO]
  have HO : Hid _ := hO
  have Hq : Hid _ := wd_map ws 0
  generalize ws.getD 0 ByteArray.empty = q at hc0 Hq
  have hlI : (0 : Int) < (ws.length : Int) := by omega
  have hlJ : ((ws.length : Int) == 0) = false := by rw [beq_eq_false_iff_ne]; omega
  have Hl : Hid _ := hl
  clear hO hl
  have K1 := fun sx => takeInput_any r vs vc vb base b g cap ws sx w hr hw
  have K2 := takeVar_any r vs vc vb base b g cap ws w hr hw hs4
  have K3 := takeArray_any r vs vc vb base b g cap ws w hr hw
  have K4 := takeLoad_any r vs vc vb base b g cap ws w hr hw hbl
  have K5 := takeStore_any r vs vc vb base b g cap ws w hr hw hbl
  have K6 := takeOut_any r vs vc vb base b g cap ws w hr hw hbl
  have K7 := fun kd => takeBranch_any r vs vc vb base b g cap ws kd w hr hw hbl
  have K8 := takeElse_any r vs vc vb base b g cap ws w hr hbl hI
  have K9 := takeEnd_any r vs vc vb base b g cap ws w hr hbl hI
  have K0 := takeAssign_any r vs vc vb base b g cap ws w hr hw hbl
  have HK1 := hid K1
  have HK2 := hid K2
  have HK3 := hid K3
  have HK4 := hid K4
  have HK5 := hid K5
  have HK6 := hid K6
  have HK7 := hid K7
  have HK8 := hid K8
  have HK9 := hid K9
  have HK0 := hid K0
  clear K1 K2 K3 K4 K5 K6 K7 K8 K9 K0 hr hw
  generalize hws : ws.map ByteArray.toList = wl at *
  have hwl : ws.length = wl.length := by rw [← hws]; simp
  have HWL : Hid _ := hwl
  clear hws hwl
  generalize ws.length = n at *
  go_enter Try.func54, Try.ntmps54
  go_wp2_with (first
    | (go_at_call_of 72 (Value.bool true); refine (HK1.out true).mono ?_; rintro e w' ⟨rfl, T⟩)
    | (go_at_call_of 72 (Value.bool false); refine (HK1.out false).mono ?_; rintro e w' ⟨rfl, T⟩)
    | (go_at_call 73; refine HK2.out.mono ?_; rintro e w' ⟨rfl, T⟩)
    | (go_at_call 74; refine HK3.out.mono ?_; rintro e w' ⟨rfl, T⟩)
    | (go_at_call 75; refine HK4.out.mono ?_; rintro e w' ⟨rfl, T⟩)
    | (go_at_call 76; refine HK5.out.mono ?_; rintro e w' ⟨rfl, T⟩)
    | (go_at_call 77; refine HK6.out.mono ?_; rintro e w' ⟨rfl, T⟩)
    | (go_at_call_of 78 (Value.int IntKind.i64 4); refine (HK7.out 4).mono ?_; rintro e w' ⟨rfl, T⟩)
    | (go_at_call_of 78 (Value.int IntKind.i64 5); refine (HK7.out 5).mono ?_; rintro e w' ⟨rfl, T⟩)
    | (go_at_call 79; refine HK8.out.mono ?_; rintro e w' ⟨rfl, T⟩)
    | (go_at_call 80; refine HK9.out.mono ?_; rintro e w' ⟨rfl, T⟩)
    | (go_at_call 81; refine HK0.out.mono ?_; rintro e w' ⟨rfl, T⟩))
  all_goals go_ret
  all_goals
    have hE := HO.out
    unfold Lk.take at hE
    rw [if_neg (by have := HWL.out; have := Hl.out; omega), show Lk.wd wl 0 = q.toList from Hq.out] at hE
    simp only [*, if_true, Bool.false_eq_true, if_false] at hE
    rw [← hE]
    exact ⟨rfl, T⟩

end Go.Proofs.Ytfnmglfbcpdlnaa
