import Derived.Test.YtkfejeomfdhmdaaD4
import Derived.Test.YtkfejeomfdhmdaaB5
import Derived.Deep.RegionLaw
import Derived.WalkLawsBesides
namespace Go.Proofs.Ytkfejeomfdhmdaa
open Go.RowKit
set_option linter.unusedVariables false

/-- What the block of a reader of 'leaksref' holds. -/
def fcell (P : Nat) (vl : Value) (s : Rf.Rs) (i : Nat) : Value :=
  if i = 0 then .pointer (some ⟨P, 0, none⟩) else if i = 1 then vl else if i = 2 then .int .i64 s.at_ else if i = 3 then .int .i64 s.cnt else .bool s.bdy

theorem name_lo {q : ByteArray} (h : q.size = 1) (hn : Lk.isName q.toList = true) : Op.bytesLess q.toList [97] = false ∧ (Op.bytesLess q.toList [122] || q.toList == [122]) = true := by
  rw [isName1 h] at hn
  rw [tl1 h]
  simp at hn
  have e1 : ¬ q[0] < 97 := by rw [UInt8.lt_iff_toNat_lt]; show ¬ q[0].toNat < 97; omega
  refine ⟨by simp [Op.bytesLess, e1], ?_⟩
  by_cases e : q[0] = 122
  · simp [e]
  · have : q[0] < 122 := by
      rw [UInt8.lt_iff_toNat_lt]; show q[0].toNat < 122
      have : q[0].toNat ≠ 122 := fun h => e (UInt8.toNat_inj.1 h)
      omega
    simp [Op.bytesLess, this]
theorem name_no {q : ByteArray} (h : q.size = 1) (hn : Lk.isName q.toList = false) : Op.bytesLess q.toList [97] = true ∨ (Op.bytesLess q.toList [97] = false ∧ (Op.bytesLess q.toList [122] || q.toList == [122]) = false) := by
  rw [isName1 h] at hn
  rw [tl1 h]
  by_cases h1 : q[0] < 97
  · left; simp [Op.bytesLess, h1]
  · right
    have h1' : ¬ q[0].toNat < 97 := by rw [UInt8.lt_iff_toNat_lt] at h1; exact h1
    have h2 : 122 < q[0].toNat := by
      simp at hn
      have := hn (by omega)
      omega
    have e2 : ¬ q[0] < 122 := by rw [UInt8.lt_iff_toNat_lt]; show ¬ q[0].toNat < 122; omega
    have e3 : q[0] ≠ 122 := fun h => by rw [h] at h2; simp at h2
    simp [Op.bytesLess, h1, e2, e3]

section
variable {w : World} {base P R : Nat} {l : List DB} {vn vk vz vb vl : Value} {s : Rf.Rs}

set_option maxRecDepth 100000 in
set_option maxHeartbeats 1000000 in
theorem decl_body (h : PRep w base P l vn vk vz vb) (hl : l.length ≤ 1000) (g cap : Nat) (q0 q1 : ByteArray) (hc0 : w.cell? ⟨g, 0, none⟩ = some (.string q0)) (hp : w.cell? ⟨R, 0, none⟩ = some (.pointer (some ⟨P, 0, none⟩))) (hb : w.cell? ⟨R, 4, none⟩ = some (.bool true)) (n : Nat) (hn0 : (0 : Int) < (n : Int)) :
    Calls Try.prog 29 #[.pointer (some ⟨R, 0, none⟩), .slice (some ⟨g, 0, none⟩) n cap] w fun e w' => e = .returned (.bool false) ∧ Below w.heap.size w w' := by
  clear h
  cases ha : (q0.toList == [97, 114, 114, 97, 121])
  all_goals
    go_enter Try.func29, Try.ntmps29
    go_wp2_with fail
    go_ret
    exact ⟨rfl, Below.refl _ _⟩

set_option maxRecDepth 100000 in
set_option maxHeartbeats 1000000 in
theorem decl_len (h : PRep w base P l vn vk vz vb) (hl : l.length ≤ 1000) (g cap : Nat) (q0 q1 : ByteArray) (hc0 : w.cell? ⟨g, 0, none⟩ = some (.string q0)) (hp : w.cell? ⟨R, 0, none⟩ = some (.pointer (some ⟨P, 0, none⟩))) (hb : w.cell? ⟨R, 4, none⟩ = some (.bool false)) (n : Nat) (hn0 : (0 : Int) < (n : Int)) (hn : n ≠ if q0.toList = Rf.wArray then 3 else 2) :
    Calls Try.prog 29 #[.pointer (some ⟨R, 0, none⟩), .slice (some ⟨g, 0, none⟩) n cap] w fun e w' => e = .returned (.bool false) ∧ Below w.heap.size w w' := by
  clear h
  cases ha : (q0.toList == [97, 114, 114, 97, 121]) with
  | true =>
    rw [if_pos (show _ = Rf.wArray from eq_of_beq ha)] at hn
    have hnI : ((n : Int) != 3) = true := by simp; omega
    clear hn
    go_enter Try.func29, Try.ntmps29
    go_wp2_with fail
    go_ret
    exact ⟨rfl, Below.refl _ _⟩
  | false =>
    rw [if_neg (show ¬ _ = Rf.wArray from ne_of_beq_false ha)] at hn
    have hnI : ((n : Int) != 2) = true := by simp; omega
    clear hn
    go_enter Try.func29, Try.ntmps29
    go_wp2_with fail
    go_ret
    exact ⟨rfl, Below.refl _ _⟩

set_option maxRecDepth 100000 in
set_option maxHeartbeats 1000000 in
theorem decl_name (h : PRep w base P l vn vk vz vb) (hl : l.length ≤ 1000) (g cap : Nat) (q0 q1 : ByteArray) (hc0 : w.cell? ⟨g, 0, none⟩ = some (.string q0)) (hp : w.cell? ⟨R, 0, none⟩ = some (.pointer (some ⟨P, 0, none⟩))) (hb : w.cell? ⟨R, 4, none⟩ = some (.bool false)) (hc1 : w.cell? ⟨g, 1, none⟩ = some (.string q1)) (n : Nat) (hn0 : (0 : Int) < (n : Int)) (hn1 : (1 : Int) < (n : Int)) (hn : n = if q0.toList = Rf.wArray then 3 else 2) (hnm : Lk.isName q1.toList = false) :
    Calls Try.prog 29 #[.pointer (some ⟨R, 0, none⟩), .slice (some ⟨g, 0, none⟩) n cap] w fun e w' => e = .returned (.bool false) ∧ Below w.heap.size w w' := by
  clear h
  by_cases hq : q1.size = 1
  · have hqI : (q1.size : Int) = 1 := by omega
    have hnn := name_no hq hnm
    clear hnm hq
    cases ha : (q0.toList == [97, 114, 114, 97, 121]) with
    | true =>
      rw [if_pos (show _ = Rf.wArray from eq_of_beq ha)] at hn
      subst hn
      rcases hnn with h1 | ⟨h1, h2⟩
      all_goals
        go_enter Try.func29, Try.ntmps29
        go_wp2_with fail
        go_ret
        exact ⟨rfl, Below.refl _ _⟩
    | false =>
      rw [if_neg (show ¬ _ = Rf.wArray from ne_of_beq_false ha)] at hn
      subst hn
      rcases hnn with h1 | ⟨h1, h2⟩
      all_goals
        go_enter Try.func29, Try.ntmps29
        go_wp2_with fail
        go_ret
        exact ⟨rfl, Below.refl _ _⟩
  · have hqI : ((q1.size : Int) != 1) = true := by simp; omega
    clear hnm hq
    cases ha : (q0.toList == [97, 114, 114, 97, 121]) with
    | true =>
      rw [if_pos (show _ = Rf.wArray from eq_of_beq ha)] at hn
      subst hn
      go_enter Try.func29, Try.ntmps29
      go_wp2_with fail
      go_ret
      exact ⟨rfl, Below.refl _ _⟩
    | false =>
      rw [if_neg (show ¬ _ = Rf.wArray from ne_of_beq_false ha)] at hn
      subst hn
      go_enter Try.func29, Try.ntmps29
      go_wp2_with fail
      go_ret
      exact ⟨rfl, Below.refl _ _⟩

end
end Go.Proofs.Ytkfejeomfdhmdaa
