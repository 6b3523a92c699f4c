import Derived.Test.YtgddmpmcnjlcjaaDoorA04
import Derived.Deep.RegionHeld3
namespace Go.Proofs.YtgddmpmcnjlcjaaDoor
open Go.RowKit
set_option linter.unusedVariables false

theorem Tryd.infoSt : (Tryd.prog.info? 137).map (fun i => (i.zero, i.size, i.bytes)) = some (some (.agg #[.int .i64 0, .int .i64 0, .int .i64 0, .int .i64 0, .bool false, .int .i64 0, .bool false, .int .i64 0, .int .i64 0, .int .i64 0]), 10, 80) := by kernel_rfl

theorem rcell_upd (r : Lk.RS) (vs vc vk vb : Value) (k p q : Nat) (h : k < 26) (j : Nat) (hj : j < 67) :
    (if j = 4 + k * 2 + 1 then Value.int .i64 q else if j = 4 + k * 2 then .int .i64 p else rcell r vs vc vk vb j) = rcell { r with letters := Lk.upd r.letters k (p, q) } vs vc vk vb j := by
  by_cases h1 : j = 4 + k * 2 + 1
  · rw [if_pos h1, h1, (rcell_let _ vs vc vk vb k h).2]; simp [Lk.upd]
  · rw [if_neg h1]
    by_cases h2 : j = 4 + k * 2
    · rw [if_pos h2, h2, (rcell_let _ vs vc vk vb k h).1]; simp [Lk.upd]
    · rw [if_neg h2]
      unfold rcell
      by_cases h3 : 4 ≤ j ∧ j < 56
      · have hk : (j - 4) / 2 ≠ k := by omega
        simp [Lk.upd, hk]
      · simp only []
        repeat' split
        all_goals first | rfl | omega

set_option maxHeartbeats 400000 in
theorem declare_some (r r' : Lk.RS) (vs vc vb : Value) (base b : Nat) (s : ByteArray) (role place : Nat) (w : World) (hr : Rep w base b r vs vc vb) (h : Lk.declare r s.toList role place = some r') :
    Calls Tryd.prog 93 #[.pointer (some ⟨b, 0, none⟩), .string s, .int .i64 role, .int .i64 place] w fun e w' => e = .returned (.bool true) ∧ Rep w' base b r' vs vc vb ∧ Below base w w' := by
  unfold Lk.declare at h
  split at h
  case isFalse => cases h
  case isTrue hc =>
  obtain ⟨hb0, hn, hl0⟩ := hc
  cases h
  have hsz : s.size = 1 := by
    by_cases h : s.size = 1
    · exact h
    · rw [isNameN h] at hn; cases hn
  have hn' := hn
  rw [isName1 hsz] at hn'
  simp at hn'
  have hb1 : (97 : Int) ≤ (s[0].toNat : Int) := by omega
  have hb2 : (s[0].toNat : Int) ≤ 122 := by omega
  have hsz1 : (s.size : Int) = 1 := by omega
  have hla : Lk.lat s.toList = s[0].toNat - 97 := by unfold Lk.lat; rw [tl1 hsz]; rfl
  rw [hla] at hl0
  rw [hla]
  have hk : s[0].toNat - 97 < 26 := by omega
  have hrow := hr.row
  have hlt := hrow.lt
  have hc0 := hrow.cell (i := 4 + (s[0].toNat - 97) * 2) (by omega)
  have hc1 := hrow.cell (i := 4 + (s[0].toNat - 97) * 2 + 1) (by omega)
  have hf0 := hrow.frozen (4 + (s[0].toNat - 97) * 2)
  have hf1 := hrow.frozen (4 + (s[0].toNat - 97) * 2 + 1)
  rw [(rcell_let r _ _ _ _ _ hk).1, hl0] at hc0
  rw [(rcell_let r _ _ _ _ _ hk).2] at hc1
  have hbd := hrow.cell (i := 56) (by omega)
  rw [show rcell r vs vc (.slice none 0 0) vb 56 = vb from rfl] at hbd
  obtain ⟨ad, cp, hvb⟩ : ∃ ad cp, vb = .slice ad 0 cp := by
    rcases hr.bod.2 with ⟨hv, _⟩ | ⟨g, cap, cur, hv, _⟩
    · exact ⟨_, _, hv⟩
    · rw [hb0] at hv; exact ⟨_, _, hv⟩
  have HR : Hid (Rep w base b r vs vc vb) := hr
  rw [hvb] at hbd
  have HV : Hid (vb = .slice ad 0 cp) := hvb
  clear hrow hr hla hl0 hn' hvb
  go_enter Tryd.func93, Tryd.ntmps93
  go_wp2_with (go_at_call 105; refine (isName_any _ _).mono ?_; rintro e w' ⟨rfl, rfl⟩)
  go_ret
  refine ⟨rfl, ((HR.out.put _ _).put _ _).congr (fun j hj => rcell_upd r vs vc _ vb _ role place hk j hj), ((Below.refl _ _).setCell HR.out.ge _).setCell HR.out.ge _⟩

theorem body_val {w : World} {base : Nat} {e : TypeId} {size : Nat} {v : Value} {n : Nat} {xs : List Value} (h : w.ownsRow base e size v n xs) : ∃ ad cp, v = .slice ad n cp := by
  rcases h.2 with ⟨hv, h0⟩ | ⟨g, cap, cur, hv, _⟩
  · exact ⟨_, _, by rw [h0]; exact hv⟩
  · exact ⟨_, _, hv⟩

set_option maxHeartbeats 400000 in
theorem declare_body (b : Nat) (s : ByteArray) (role place : Nat) (w : World) (n : Nat) (ad : Option Addr) (cp : Nat) (hn : 0 < n) (hbd : w.cell? ⟨b, 56, none⟩ = some (.slice ad n cp)) :
    Calls Tryd.prog 93 #[.pointer (some ⟨b, 0, none⟩), .string s, .int .i64 role, .int .i64 place] w fun e w' => e = .returned (.bool false) ∧ w' = w := by
  have h1 : (0 : Int) < (n : Int) := by omega
  go_enter Tryd.func93, Tryd.ntmps93
  go_wp2
  go_ret
  exact ⟨rfl, rfl⟩
set_option maxHeartbeats 400000 in
theorem declare_name (b : Nat) (s : ByteArray) (role place : Nat) (w : World) (ad : Option Addr) (cp : Nat) (hn : Lk.isName s.toList = false) (hbd : w.cell? ⟨b, 56, none⟩ = some (.slice ad 0 cp)) :
    Calls Tryd.prog 93 #[.pointer (some ⟨b, 0, none⟩), .string s, .int .i64 role, .int .i64 place] w fun e w' => e = .returned (.bool false) ∧ w' = w := by
  go_enter Tryd.func93, Tryd.ntmps93
  go_wp2_with (go_at_call 105; refine (isName_any _ _).mono ?_; rintro e w' ⟨rfl, rfl⟩)
  go_ret
  exact ⟨rfl, rfl⟩
set_option maxHeartbeats 400000 in
theorem declare_taken (b : Nat) (s : ByteArray) (role place : Nat) (w : World) (ad : Option Addr) (cp x : Nat) (hn : Lk.isName s.toList = true) (hsz : s.size = 1) (hb1 : (97 : Int) ≤ (s[0].toNat : Int)) (hb2 : (s[0].toNat : Int) ≤ 122) (hbd : w.cell? ⟨b, 56, none⟩ = some (.slice ad 0 cp))
    (hx : ((x : Int) != 0) = true) (hc0 : w.cell? ⟨b, 4 + (s[0].toNat - 97) * 2, none⟩ = some (.int .i64 x)) :
    Calls Tryd.prog 93 #[.pointer (some ⟨b, 0, none⟩), .string s, .int .i64 role, .int .i64 place] w fun e w' => e = .returned (.bool false) ∧ w' = w := by
  have hsz1 : (s.size : Int) = 1 := by omega
  go_enter Tryd.func93, Tryd.ntmps93
  go_wp2_with (go_at_call 105; refine (isName_any _ _).mono ?_; rintro e w' ⟨rfl, rfl⟩)
  go_ret
  exact ⟨rfl, rfl⟩

theorem declare_none (r : Lk.RS) (vs vc vb : Value) (base b : Nat) (s : ByteArray) (role place : Nat) (w : World) (hr : Rep w base b r vs vc vb) (h : Lk.declare r s.toList role place = none) :
    Calls Tryd.prog 93 #[.pointer (some ⟨b, 0, none⟩), .string s, .int .i64 role, .int .i64 place] w fun e w' => e = .returned (.bool false) ∧ w' = w := by
  have hbd := hr.row.cell (i := 56) (by omega)
  rw [show rcell r vs vc (.slice none 0 0) vb 56 = vb from rfl] at hbd
  obtain ⟨ad, cp, hvb⟩ := body_val hr.bod
  rw [hvb] at hbd
  by_cases h0 : r.body.length = 0
  · rw [h0] at hbd
    cases hn : Lk.isName s.toList with
    | false => exact declare_name b s role place w ad cp hn hbd
    | true =>
      have hsz : s.size = 1 := by
        by_cases h : s.size = 1
        · exact h
        · rw [isNameN h] at hn; cases hn
      have hn' := hn
      rw [isName1 hsz] at hn'
      simp at hn'
      have hla : Lk.lat s.toList = s[0].toNat - 97 := by unfold Lk.lat; rw [tl1 hsz]; rfl
      have hk : s[0].toNat - 97 < 26 := by omega
      have hl0 : (r.letters (s[0].toNat - 97)).1 ≠ 0 := by
        intro hl
        unfold Lk.declare at h
        rw [if_pos ⟨h0, hn, by rw [hla]; exact hl⟩] at h
        cases h
      have hc0 := hr.row.cell (i := 4 + (s[0].toNat - 97) * 2) (by omega)
      rw [(rcell_let r _ _ _ _ _ hk).1] at hc0
      exact declare_taken b s role place w ad cp _ hn hsz (by omega) (by omega) hbd (by simp; omega) hc0
  · exact declare_body b s role place w _ ad cp (by omega) hbd

set_option maxHeartbeats 400000 in
theorem add_none (b : Nat) (w : World) (n : Nat) (hn : (12 : Int) ≤ (n : Int)) (hc : w.cell? ⟨b, 57, none⟩ = some (.int .i64 n)) (i0 i1 i2 i3 i5 i7 i8 i9 : Int) (b4 b6 : Bool) (hlt : b < w.heap.size) :
    Calls Tryd.prog 97 #[.pointer (some ⟨b, 0, none⟩), .agg #[.int .i64 i0, .int .i64 i1, .int .i64 i2, .int .i64 i3, .bool b4, .int .i64 i5, .bool b6, .int .i64 i7, .int .i64 i8, .int .i64 i9]] w fun e w' => e = .returned (.bool false) ∧ Below w.heap.size w w' := by
  go_enter Tryd.func97, Tryd.ntmps97
  go_wp2
  go_ret
  exact ⟨rfl, (Below.refl _ _).alloc (Nat.le_refl _) _⟩

theorem flat_snoc (l : List Lk.St) (s : Lk.St) : flat (l ++ [s]) = flat l ++ stCells s := by simp [flat]

theorem rcell_add (r : Lk.RS) (vs vc vk vb vb' : Value) (s : Lk.St) (j : Nat) (hj : j < 67) :
    (if j = 56 then vb' else if j = 57 then Value.int .i64 ((r.stmts : Int) + 1) else rcell r vs vc vk vb j) = rcell { r with stmts := r.stmts + 1, body := r.body ++ [s] } vs vc vk vb' j := by
  by_cases h1 : j = 56
  · subst h1; rfl
  · rw [if_neg h1]
    by_cases h2 : j = 57
    · subst h2; rfl
    · rw [if_neg h2]
      unfold rcell
      simp only [h1, h2, if_false]

end Go.Proofs.YtgddmpmcnjlcjaaDoor
