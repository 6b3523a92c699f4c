import Derived.Test.YtfnmglfbcpdlnaaB6
import Derived.Test.YtfnmglfbcpdlnaaS1
/- What the reader keeps from line to line. -/
namespace Go.Proofs.Ytfnmglfbcpdlnaa

structure Ok (r : Lk.RS) : Prop where
  inv : Inv r
  sec : r.secret.length ≤ 3

theorem ok_start : Ok {} := ⟨⟨by simp, fun d h => by simp at h⟩, by simp⟩

theorem ok_declare {r r' : Lk.RS} {w : Lk.Wd} {p q : Nat} (h : Lk.declare r w p q = some r') (ok : Ok r) : Ok r' ∧ r'.body = r.body ∧ r'.secret = r.secret := by
  unfold Lk.declare at h
  split at h
  · cases h; exact ⟨⟨⟨ok.inv.dep, ok.inv.opn⟩, ok.sec⟩, rfl, rfl⟩
  · cases h

theorem ok_add {r r' : Lk.RS} {s : Lk.St} (h : Lk.add r s = some r') (ok : Ok r) : Ok r' ∧ r'.body.length = r.body.length + 1 ∧ r'.depth = r.depth ∧ r'.opn = r.opn := by
  unfold Lk.add at h
  split at h
  · cases h
    refine ⟨⟨⟨ok.inv.dep, fun d hd => ?_⟩, ok.sec⟩, by simp, rfl, rfl⟩
    have := ok.inv.opn d hd
    simp; omega
  · cases h

theorem ok_take {r r' : Lk.RS} {ws : List Lk.Wd} (h : Lk.take r ws = some r') (ok : Ok r) : Ok r' ∧ r'.body.length ≤ r.body.length + 1 := by
  have hadd : ∀ {s r''}, Lk.add r s = some r'' → Ok r'' ∧ r''.body.length ≤ r.body.length + 1 := fun h => ⟨(ok_add h ok).1, by rw [(ok_add h ok).2.1]; omega⟩
  have hin : ∀ sx, Lk.takeInput r ws sx = some r' → Ok r' ∧ r'.body.length ≤ r.body.length + 1 := by
    intro sx h
    unfold Lk.takeInput at h
    split at h
    · rename_i hc
      split at h
      · rename_i r2 hd
        cases h
        obtain ⟨o, hb, hs⟩ := ok_declare hd ok
        exact ⟨⟨⟨o.inv.dep, o.inv.opn⟩, by simp [hs]; omega⟩, by show r2.body.length ≤ _; rw [hb]; omega⟩
      · cases h
    · cases h
  have hbr : ∀ kd, Lk.takeBranch r ws kd = some r' → Ok r' ∧ r'.body.length ≤ r.body.length + 1 := by
    intro kd h
    unfold Lk.takeBranch at h
    split at h
    · rename_i hc
      split at h
      · split at h
        · rename_i r2 hd
          cases h
          obtain ⟨o, hb, hde, hop⟩ := ok_add hd ok
          refine ⟨⟨⟨by show r2.depth + 1 ≤ 4; omega, fun d hd' => ?_⟩, o.sec⟩, by show r2.body.length ≤ _; omega⟩
          have hd' : d < r2.depth + 1 := hd'
          show (Lk.upd r2.opn r2.depth (r.body.length, 0) d).1 < r2.body.length ∧ (Lk.upd r2.opn r2.depth (r.body.length, 0) d).2 < r2.body.length
          unfold Lk.upd
          split
          · simp; omega
          · exact o.inv.opn d (by omega)
        · cases h
      · cases h
    · cases h
  unfold Lk.take at h
  by_cases b0 : ws.length = 0
  · rw [if_pos b0] at h
    cases h
  rw [if_neg b0] at h
  by_cases b1 : (Lk.wd ws 0 == [115, 101, 99, 114, 101, 116]) = true
  · rw [if_pos b1] at h
    exact hin _ h
  rw [if_neg b1] at h
  by_cases b2 : (Lk.wd ws 0 == [112, 117, 98, 108, 105, 99]) = true
  · rw [if_pos b2] at h
    exact hin _ h
  rw [if_neg b2] at h
  by_cases b3 : (Lk.wd ws 0 == [118, 97, 114]) = true
  · rw [if_pos b3] at h
    unfold Lk.takeVar at h
    split at h
    · split at h
      · rename_i r2 hd
        cases h
        obtain ⟨o, hb, hs⟩ := ok_declare hd ok
        exact ⟨⟨⟨o.inv.dep, o.inv.opn⟩, o.sec⟩, by show r2.body.length ≤ _; rw [hb]; omega⟩
      · cases h
    · cases h
  rw [if_neg b3] at h
  by_cases b4 : (Lk.wd ws 0 == [97, 114, 114, 97, 121]) = true
  · rw [if_pos b4] at h
    unfold Lk.takeArray at h
    split at h
    · split at h
      · split at h
        · split at h
          · rename_i r2 hd
            cases h
            obtain ⟨o, hb, hs⟩ := ok_declare hd ok
            exact ⟨⟨⟨o.inv.dep, o.inv.opn⟩, o.sec⟩, by show r2.body.length ≤ _; rw [hb]; omega⟩
          · cases h
        · cases h
      · cases h
    · cases h
  rw [if_neg b4] at h
  by_cases b5 : (Lk.wd ws 0 == [108, 111, 97, 100]) = true
  · rw [if_pos b5] at h
    unfold Lk.takeLoad at h
    split at h
    · split at h
      · exact hadd h
      · cases h
    · cases h
  rw [if_neg b5] at h
  by_cases b6 : (Lk.wd ws 0 == [115, 116, 111, 114, 101]) = true
  · rw [if_pos b6] at h
    unfold Lk.takeStore at h
    split at h
    · split at h
      · exact hadd h
      · cases h
    · cases h
  rw [if_neg b6] at h
  by_cases b7 : (Lk.wd ws 0 == [111, 117, 116]) = true
  · rw [if_pos b7] at h
    unfold Lk.takeOut at h
    split at h
    · split at h
      · exact hadd h
      · cases h
    · cases h
  rw [if_neg b7] at h
  by_cases b8 : (Lk.wd ws 0 == [105, 102]) = true
  · rw [if_pos b8] at h
    exact hbr _ h
  rw [if_neg b8] at h
  by_cases b9 : (Lk.wd ws 0 == [119, 104, 105, 108, 101]) = true
  · rw [if_pos b9] at h
    exact hbr _ h
  rw [if_neg b9] at h
  by_cases b10 : (Lk.wd ws 0 == [101, 108, 115, 101]) = true
  · rw [if_pos b10] at h
    unfold Lk.takeElse at h
    split at h
    · rename_i hc
      cases h
      refine ⟨⟨⟨ok.inv.dep, fun d hd => ?_⟩, ok.sec⟩, by simp⟩
      have hd : d < r.depth := hd
      have hx := ok.inv.opn d hd
      show (Lk.upd r.opn (r.depth - 1) ((r.opn (r.depth - 1)).1, r.body.length) d).1 < _ ∧ (Lk.upd r.opn (r.depth - 1) ((r.opn (r.depth - 1)).1, r.body.length) d).2 < _
      unfold Lk.upd
      have hy := ok.inv.opn (r.depth - 1) (by omega)
      split
      · simp; omega
      · simp; omega
    · cases h
  rw [if_neg b10] at h
  by_cases b11 : (Lk.wd ws 0 == [101, 110, 100]) = true
  · rw [if_pos b11] at h
    unfold Lk.takeEnd at h
    split at h
    · rename_i hc
      cases h
      have hlen : ∀ (c : Prop) [Decidable c] (a b : Nat) (x y z : Lk.St), ((if c then r.body.set a x else r.body.set b y) ++ [z]).length = r.body.length + 1 := by
        intro c _ a b x y z
        split <;> simp
      refine ⟨⟨⟨by have := ok.inv.dep; show r.depth - 1 ≤ 4; omega, fun d hd => ?_⟩, ok.sec⟩, by rw [hlen]; omega⟩
      have hd : d < r.depth - 1 := hd
      have hx := ok.inv.opn d (by omega)
      show (r.opn d).1 < _ ∧ (r.opn d).2 < _
      rw [hlen]
      omega
    · cases h
  rw [if_neg b11] at h
  unfold Lk.takeAssign at h
  split at h
  · split at h
    · split at h
      · exact hadd h
      · split at h
        · exact hadd h
        · cases h
    · cases h
  · cases h

theorem lines_step (r : Lk.RS) (n : Nat) (l : Lk.Wd) (ls : List Lk.Wd) (h : ls ≠ []) : Lk.lines r n (l :: ls) = match Lk.take r (Lk.cut 32 l) with | some r' => Lk.lines r' (n + 1) ls | none => (r, n + 1) := by
  cases ls with
  | nil => exact absurd rfl h
  | cons m ls =>
    conv => lhs; unfold Lk.lines
    cases Lk.take r (Lk.cut 32 l) <;> rfl

end Go.Proofs.Ytfnmglfbcpdlnaa
