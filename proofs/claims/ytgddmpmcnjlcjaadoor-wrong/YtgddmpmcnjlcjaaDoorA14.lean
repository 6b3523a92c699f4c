import Derived.Test.YtgddmpmcnjlcjaaDoorA03
import Derived.Test.YtgddmpmcnjlcjaaDoorA10
import Derived.Test.YtgddmpmcnjlcjaaDoorA11
import Derived.Test.YtgddmpmcnjlcjaaDoorA13
import Derived.Test.YtgddmpmcnjlcjaaDoorA07
import Derived.Test.YtgddmpmcnjlcjaaDoorA02
namespace Go.Proofs.YtgddmpmcnjlcjaaDoor
open Go.RowKit
set_option linter.unusedVariables false

set_option maxRecDepth 100000 in
set_option maxHeartbeats 4000000 in
theorem take_any (r : Lk.RS) (vs vc vb : Value) (base b g cap : Nat) (ws : List ByteArray) (w : World) (hr : Rep w base b r vs vc vb) (hw : Wds w g ws) (hbl : r.body.length ≤ 100000) (hI : Inv r) (hs4 : r.secret.length ≤ 3) (hl : 0 < ws.length) :
    Calls Tryd.prog 43 #[.pointer (some ⟨b, 0, none⟩), .slice (some ⟨g, 0, none⟩) ws.length cap] w fun e w' =>
      e = .returned (.bool (Lk.take r (ws.map ByteArray.toList)).isSome) ∧ Took w w' base b (Lk.take r (ws.map ByteArray.toList)) := by
  have hc0 := hw 0 hl
  obtain ⟨O, hO⟩ : ∃ O, Lk.take r (ws.map ByteArray.toList) = O := ⟨_, rfl⟩
  rw [hO]
  have HO : Hid _ := hO
  have Hq : Hid _ := wd_map ws 0
  generalize ws.getD 0 ByteArray.empty = q at hc0 Hq
  have hlI : (0 : Int) < (ws.length : Int) := by omega
  have hlJ : ((ws.length : Int) == 0) = false := by rw [beq_eq_false_iff_ne]; omega
  have Hl : Hid _ := hl
  clear hO hl
  have K1 := fun sx => takeInput_any r vs vc vb base b g cap ws sx w hr hw
  have K2 := takeVar_any r vs vc vb base b g cap ws w hr hw hs4
  have K3 := takeArray_any r vs vc vb base b g cap ws w hr hw
  have K4 := takeLoad_any r vs vc vb base b g cap ws w hr hw hbl
  have K5 := takeStore_any r vs vc vb base b g cap ws w hr hw hbl
  have K6 := takeOut_any r vs vc vb base b g cap ws w hr hw hbl
  have K7 := fun kd => takeBranch_any r vs vc vb base b g cap ws kd w hr hw hbl
  have K8 := takeElse_any r vs vc vb base b g cap ws w hr hbl hI
  have K9 := takeEnd_any r vs vc vb base b g cap ws w hr hbl hI
  have K0 := takeAssign_any r vs vc vb base b g cap ws w hr hw hbl
  have HK1 := hid K1
  have HK2 := hid K2
  have HK3 := hid K3
  have HK4 := hid K4
  have HK5 := hid K5
  have HK6 := hid K6
  have HK7 := hid K7
  have HK8 := hid K8
  have HK9 := hid K9
  have HK0 := hid K0
  clear K1 K2 K3 K4 K5 K6 K7 K8 K9 K0 hr hw
  generalize hws : ws.map ByteArray.toList = wl at *
  have hwl : ws.length = wl.length := by rw [← hws]; simp
  have HWL : Hid _ := hwl
  clear hws hwl
  generalize ws.length = n at *
  go_enter Tryd.func43, Tryd.ntmps43
  go_wp2_with (first
    | (go_at_call_of 66 (Value.bool true); refine (HK1.out true).mono ?_; rintro e w' ⟨rfl, T⟩)
    | (go_at_call_of 66 (Value.bool false); refine (HK1.out false).mono ?_; rintro e w' ⟨rfl, T⟩)
    | (go_at_call 67; refine HK2.out.mono ?_; rintro e w' ⟨rfl, T⟩)
    | (go_at_call 68; refine HK3.out.mono ?_; rintro e w' ⟨rfl, T⟩)
    | (go_at_call 69; refine HK4.out.mono ?_; rintro e w' ⟨rfl, T⟩)
    | (go_at_call 70; refine HK5.out.mono ?_; rintro e w' ⟨rfl, T⟩)
    | (go_at_call 71; refine HK6.out.mono ?_; rintro e w' ⟨rfl, T⟩)
    | (go_at_call_of 72 (Value.int IntKind.i64 4); refine (HK7.out 4).mono ?_; rintro e w' ⟨rfl, T⟩)
    | (go_at_call_of 72 (Value.int IntKind.i64 5); refine (HK7.out 5).mono ?_; rintro e w' ⟨rfl, T⟩)
    | (go_at_call 73; refine HK8.out.mono ?_; rintro e w' ⟨rfl, T⟩)
    | (go_at_call 74; refine HK9.out.mono ?_; rintro e w' ⟨rfl, T⟩)
    | (go_at_call 75; refine HK0.out.mono ?_; rintro e w' ⟨rfl, T⟩))
  all_goals go_ret
  all_goals
    have hE := HO.out
    unfold Lk.take at hE
    rw [if_neg (by have := HWL.out; have := Hl.out; omega), show Lk.wd wl 0 = q.toList from Hq.out] at hE
    simp only [*, if_true, Bool.false_eq_true, if_false] at hE
    rw [← hE]
    exact ⟨rfl, T⟩

end Go.Proofs.YtgddmpmcnjlcjaaDoor

/- What the reader keeps from line to line. -/
namespace Go.Proofs.YtgddmpmcnjlcjaaDoor

structure Ok (r : Lk.RS) : Prop where
  inv : Inv r
  sec : r.secret.length ≤ 3

theorem ok_start : Ok {} := ⟨⟨by simp, fun d h => by simp at h⟩, by simp⟩

theorem ok_declare {r r' : Lk.RS} {w : Lk.Wd} {p q : Nat} (h : Lk.declare r w p q = some r') (ok : Ok r) : Ok r' ∧ r'.body = r.body ∧ r'.secret = r.secret := by
  unfold Lk.declare at h
  split at h
  · cases h; exact ⟨⟨⟨ok.inv.dep, ok.inv.opn⟩, ok.sec⟩, rfl, rfl⟩
  · cases h

theorem ok_add {r r' : Lk.RS} {s : Lk.St} (h : Lk.add r s = some r') (ok : Ok r) : Ok r' ∧ r'.body.length = r.body.length + 1 ∧ r'.depth = r.depth ∧ r'.opn = r.opn := by
  unfold Lk.add at h
  split at h
  · cases h
    refine ⟨⟨⟨ok.inv.dep, fun d hd => ?_⟩, ok.sec⟩, by simp, rfl, rfl⟩
    have := ok.inv.opn d hd
    simp; omega
  · cases h

theorem ok_take {r r' : Lk.RS} {ws : List Lk.Wd} (h : Lk.take r ws = some r') (ok : Ok r) : Ok r' ∧ r'.body.length ≤ r.body.length + 1 := by
  have hadd : ∀ {s r''}, Lk.add r s = some r'' → Ok r'' ∧ r''.body.length ≤ r.body.length + 1 := fun h => ⟨(ok_add h ok).1, by rw [(ok_add h ok).2.1]; omega⟩
  have hin : ∀ sx, Lk.takeInput r ws sx = some r' → Ok r' ∧ r'.body.length ≤ r.body.length + 1 := by
    intro sx h
    unfold Lk.takeInput at h
    split at h
    · rename_i hc
      split at h
      · rename_i r2 hd
        cases h
        obtain ⟨o, hb, hs⟩ := ok_declare hd ok
        exact ⟨⟨⟨o.inv.dep, o.inv.opn⟩, by simp [hs]; omega⟩, by show r2.body.length ≤ _; rw [hb]; omega⟩
      · cases h
    · cases h
  have hbr : ∀ kd, Lk.takeBranch r ws kd = some r' → Ok r' ∧ r'.body.length ≤ r.body.length + 1 := by
    intro kd h
    unfold Lk.takeBranch at h
    split at h
    · rename_i hc
      split at h
      · split at h
        · rename_i r2 hd
          cases h
          obtain ⟨o, hb, hde, hop⟩ := ok_add hd ok
          refine ⟨⟨⟨by show r2.depth + 1 ≤ 4; omega, fun d hd' => ?_⟩, o.sec⟩, by show r2.body.length ≤ _; omega⟩
          have hd' : d < r2.depth + 1 := hd'
          show (Lk.upd r2.opn r2.depth (r.body.length, 0) d).1 < r2.body.length ∧ (Lk.upd r2.opn r2.depth (r.body.length, 0) d).2 < r2.body.length
          unfold Lk.upd
          split
          · simp; omega
          · exact o.inv.opn d (by omega)
        · cases h
      · cases h
    · cases h
  unfold Lk.take at h
  by_cases b0 : ws.length = 0
  · rw [if_pos b0] at h
    cases h
  rw [if_neg b0] at h
  by_cases b1 : (Lk.wd ws 0 == [115, 101, 99, 114, 101, 116]) = true
  · rw [if_pos b1] at h
    exact hin _ h
  rw [if_neg b1] at h
  by_cases b2 : (Lk.wd ws 0 == [112, 117, 98, 108, 105, 99]) = true
  · rw [if_pos b2] at h
    exact hin _ h
  rw [if_neg b2] at h
  by_cases b3 : (Lk.wd ws 0 == [118, 97, 114]) = true
  · rw [if_pos b3] at h
    unfold Lk.takeVar at h
    split at h
    · split at h
      · rename_i r2 hd
        cases h
        obtain ⟨o, hb, hs⟩ := ok_declare hd ok
        exact ⟨⟨⟨o.inv.dep, o.inv.opn⟩, o.sec⟩, by show r2.body.length ≤ _; rw [hb]; omega⟩
      · cases h
    · cases h
  rw [if_neg b3] at h
  by_cases b4 : (Lk.wd ws 0 == [97, 114, 114, 97, 121]) = true
  · rw [if_pos b4] at h
    unfold Lk.takeArray at h
    split at h
    · split at h
      · split at h
        · split at h
          · rename_i r2 hd
            cases h
            obtain ⟨o, hb, hs⟩ := ok_declare hd ok
            exact ⟨⟨⟨o.inv.dep, o.inv.opn⟩, o.sec⟩, by show r2.body.length ≤ _; rw [hb]; omega⟩
          · cases h
        · cases h
      · cases h
    · cases h
  rw [if_neg b4] at h
  by_cases b5 : (Lk.wd ws 0 == [108, 111, 97, 100]) = true
  · rw [if_pos b5] at h
    unfold Lk.takeLoad at h
    split at h
    · split at h
      · exact hadd h
      · cases h
    · cases h
  rw [if_neg b5] at h
  by_cases b6 : (Lk.wd ws 0 == [115, 116, 111, 114, 101]) = true
  · rw [if_pos b6] at h
    unfold Lk.takeStore at h
    split at h
    · split at h
      · exact hadd h
      · cases h
    · cases h
  rw [if_neg b6] at h
  by_cases b7 : (Lk.wd ws 0 == [111, 117, 116]) = true
  · rw [if_pos b7] at h
    unfold Lk.takeOut at h
    split at h
    · split at h
      · exact hadd h
      · cases h
    · cases h
  rw [if_neg b7] at h
  by_cases b8 : (Lk.wd ws 0 == [105, 102]) = true
  · rw [if_pos b8] at h
    exact hbr _ h
  rw [if_neg b8] at h
  by_cases b9 : (Lk.wd ws 0 == [119, 104, 105, 108, 101]) = true
  · rw [if_pos b9] at h
    exact hbr _ h
  rw [if_neg b9] at h
  by_cases b10 : (Lk.wd ws 0 == [101, 108, 115, 101]) = true
  · rw [if_pos b10] at h
    unfold Lk.takeElse at h
    split at h
    · rename_i hc
      cases h
      refine ⟨⟨⟨ok.inv.dep, fun d hd => ?_⟩, ok.sec⟩, by simp⟩
      have hd : d < r.depth := hd
      have hx := ok.inv.opn d hd
      show (Lk.upd r.opn (r.depth - 1) ((r.opn (r.depth - 1)).1, r.body.length) d).1 < _ ∧ (Lk.upd r.opn (r.depth - 1) ((r.opn (r.depth - 1)).1, r.body.length) d).2 < _
      unfold Lk.upd
      have hy := ok.inv.opn (r.depth - 1) (by omega)
      split
      · simp; omega
      · simp; omega
    · cases h
  rw [if_neg b10] at h
  by_cases b11 : (Lk.wd ws 0 == [101, 110, 100]) = true
  · rw [if_pos b11] at h
    unfold Lk.takeEnd at h
    split at h
    · rename_i hc
      cases h
      have hlen : ∀ (c : Prop) [Decidable c] (a b : Nat) (x y z : Lk.St), ((if c then r.body.set a x else r.body.set b y) ++ [z]).length = r.body.length + 1 := by
        intro c _ a b x y z
        split <;> simp
      refine ⟨⟨⟨by have := ok.inv.dep; show r.depth - 1 ≤ 4; omega, fun d hd => ?_⟩, ok.sec⟩, by rw [hlen]; omega⟩
      have hd : d < r.depth - 1 := hd
      have hx := ok.inv.opn d (by omega)
      show (r.opn d).1 < _ ∧ (r.opn d).2 < _
      rw [hlen]
      omega
    · cases h
  rw [if_neg b11] at h
  unfold Lk.takeAssign at h
  split at h
  · split at h
    · split at h
      · exact hadd h
      · split at h
        · exact hadd h
        · cases h
    · cases h
  · cases h

theorem lines_step (r : Lk.RS) (n : Nat) (l : Lk.Wd) (ls : List Lk.Wd) (h : ls ≠ []) : Lk.lines r n (l :: ls) = match Lk.take r (Lk.cut 32 l) with | some r' => Lk.lines r' (n + 1) ls | none => (r, n + 1) := by
  cases ls with
  | nil => exact absurd rfl h
  | cons m ls =>
    conv => lhs; unfold Lk.lines
    cases Lk.take r (Lk.cut 32 l) <;> rfl

end Go.Proofs.YtgddmpmcnjlcjaaDoor
