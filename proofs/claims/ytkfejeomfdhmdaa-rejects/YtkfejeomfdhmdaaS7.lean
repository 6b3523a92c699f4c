import Derived.Test.YtkfejeomfdhmdaaS6
namespace Go.Proofs.Ytkfejeomfdhmdaa.Rf
open Go.Proofs.Ytkfejeomfdhmdaa.Lk (Wd RS St num? oper? cut wd isName lat upd bodyAt find atom?)

section
variable {r : RS} {a : As} {w : List Wd}

theorem both_out (S : Sim r a) (h : wd w 0 = wOut) : Both (Lk.takeOut r w) (if a.cnt = 12 then none else if fits a.ds w = true then some { a with bdy := true, cnt := a.cnt + 1 } else none) := by
  refine both_stmt S _ (if w.length = 2 then (atom? r (wd w 1)).map fun x => ({ kind := 3, a := x } : St) else none) _ ?_ ?_
  · unfold Lk.takeOut
    by_cases c : w.length = 2
    · rw [if_pos c, if_pos c]; cases atom? r (wd w 1) <;> rfl
    · rw [if_neg c, if_neg c]; rfl
  · unfold fits
    rw [if_pos h, ← atom_some S]
    by_cases c : w.length = 2
    · rw [if_pos c, decide_eq_true c]; simp
    · rw [if_neg c, decide_eq_false c]; rfl

theorem both_load (S : Sim r a) (h : wd w 0 = wLoad) : Both (Lk.takeLoad r w) (if a.cnt = 12 then none else if fits a.ds w = true then some { a with bdy := true, cnt := a.cnt + 1 } else none) := by
  refine both_stmt S _ (if w.length = 4 ∧ (find r (wd w 1)).1 = 1 ∧ (find r (wd w 2)).1 = 2 then (atom? r (wd w 3)).map fun x => ({ kind := 1, slot := (find r (wd w 1)).2, arr := (find r (wd w 2)).2, a := x } : St) else none) _ ?_ ?_
  · unfold Lk.takeLoad
    by_cases c : w.length = 4 ∧ (find r (wd w 1)).1 = 1 ∧ (find r (wd w 2)).1 = 2
    · rw [if_pos c, if_pos c]; cases atom? r (wd w 3) <;> rfl
    · rw [if_neg c, if_neg c]; rfl
  · unfold fits
    rw [if_neg (show ¬ wd w 0 = wOut by rw [h]; decide), if_pos h, ← atom_some S (wd w 3), (role_kind S (wd w 1)).1, (role_kind S (wd w 2)).2.1]
    by_cases c : w.length = 4 ∧ (find r (wd w 1)).1 = 1 ∧ (find r (wd w 2)).1 = 2
    · rw [if_pos c, decide_eq_true c.1, decide_eq_true c.2.1, decide_eq_true c.2.2]; simp
    · rw [if_neg c]
      by_cases c1 : w.length = 4
      · by_cases c2 : (find r (wd w 1)).1 = 1
        · rw [decide_eq_false (fun e => c ⟨c1, c2, e⟩)]; simp
        · rw [decide_eq_false c2]; simp
      · rw [decide_eq_false c1]; rfl

theorem both_store (S : Sim r a) (h : wd w 0 = wStore) : Both (Lk.takeStore r w) (if a.cnt = 12 then none else if fits a.ds w = true then some { a with bdy := true, cnt := a.cnt + 1 } else none) := by
  refine both_stmt S _ (if w.length = 4 ∧ (find r (wd w 1)).1 = 2 then (atom? r (wd w 2)).bind fun x => (atom? r (wd w 3)).map fun y => ({ kind := 2, arr := (find r (wd w 1)).2, a := x, b := y } : St) else none) _ ?_ ?_
  · unfold Lk.takeStore
    by_cases c : w.length = 4 ∧ (find r (wd w 1)).1 = 2
    · rw [if_pos c, if_pos c]; cases atom? r (wd w 2) <;> cases atom? r (wd w 3) <;> rfl
    · rw [if_neg c, if_neg c]; rfl
  · unfold fits
    rw [if_neg (show ¬ wd w 0 = wOut by rw [h]; decide), if_neg (show ¬ wd w 0 = wLoad by rw [h]; decide), if_pos h, ← atom_some S (wd w 2), ← atom_some S (wd w 3), (role_kind S (wd w 1)).2.1]
    by_cases c : w.length = 4 ∧ (find r (wd w 1)).1 = 2
    · rw [if_pos c, decide_eq_true c.1, decide_eq_true c.2]
      cases atom? r (wd w 2) <;> cases atom? r (wd w 3) <;> rfl
    · rw [if_neg c]
      by_cases c1 : w.length = 4
      · rw [decide_eq_false (fun e => c ⟨c1, e⟩)]; simp
      · rw [decide_eq_false c1]; rfl

theorem both_assign (S : Sim r a) (h1 : wd w 0 ≠ wOut) (h2 : wd w 0 ≠ wLoad) (h3 : wd w 0 ≠ wStore) : Both (Lk.takeAssign r w) (if a.cnt = 12 then none else if fits a.ds w = true then some { a with bdy := true, cnt := a.cnt + 1 } else none) := by
  refine both_stmt S _ (if (w.length = 3 ∨ w.length = 5) ∧ wd w 1 = [61] ∧ (find r (wd w 0)).1 = 1 then (atom? r (wd w 2)).bind fun x => if w.length = 3 then some ({ kind := 0, op := 0, slot := (find r (wd w 0)).2, a := x } : St) else (oper? (wd w 3)).bind fun o => (atom? r (wd w 4)).map fun y => ({ kind := 0, op := o, slot := (find r (wd w 0)).2, a := x, b := y } : St) else none) _ ?_ ?_
  · unfold Lk.takeAssign
    by_cases c : (w.length = 3 ∨ w.length = 5) ∧ wd w 1 = [61] ∧ (find r (wd w 0)).1 = 1
    · rw [if_pos c, if_pos c]
      cases atom? r (wd w 2) with
      | none => rfl
      | some x =>
        by_cases e : w.length = 3
        · show (if w.length = 3 then _ else _) = Option.bind (if w.length = 3 then _ else _) _
          rw [if_pos e, if_pos e]; rfl
        · show (if w.length = 3 then _ else _) = Option.bind (if w.length = 3 then _ else _) _
          rw [if_neg e, if_neg e]
          cases oper? (wd w 3) <;> cases atom? r (wd w 4) <;> rfl
    · rw [if_neg c, if_neg c]; rfl
  · unfold fits
    rw [if_neg h1, if_neg h2, if_neg h3, ← atom_some S (wd w 2), ← atom_some S (wd w 4), (role_kind S (wd w 0)).1, ← oper_some]
    by_cases c : (w.length = 3 ∨ w.length = 5) ∧ wd w 1 = [61] ∧ (find r (wd w 0)).1 = 1
    · rw [if_pos c, decide_eq_true c.2.2, c.2.1]
      rcases c.1 with e | e
      · rw [if_pos e]
        cases atom? r (wd w 2) with
        | none => rfl
        | some x =>
          show (if w.length = 3 then _ else _ : Option St).isSome = _
          rw [if_pos e]; rfl
      · have e3 : ¬ w.length = 3 := by omega
        rw [if_neg e3, if_pos e]
        cases atom? r (wd w 2) with
        | none => rfl
        | some x =>
          show (if w.length = 3 then _ else _ : Option St).isSome = _
          rw [if_neg e3]
          cases oper? (wd w 3) <;> cases atom? r (wd w 4) <;> rfl
    · rw [if_neg c]
      have hz : ((w.length = 3 ∨ w.length = 5) → (decide ((find r (wd w 0)).1 = 1) && wd w 1 == [61]) = false) := by
        intro e
        by_cases c1 : wd w 1 = [61]
        · rw [decide_eq_false (fun x => c ⟨e, c1, x⟩)]; rfl
        · have : (wd w 1 == [61]) = false := by simpa using c1
          rw [this]; simp
      by_cases e3 : w.length = 3
      · rw [if_pos e3, hz (.inl e3)]; rfl
      · rw [if_neg e3]
        by_cases e5 : w.length = 5
        · rw [if_pos e5, hz (.inr e5)]; rfl
        · rw [if_neg e5]; rfl

theorem take_step (S : Sim r a) (hw : w.length ≠ 0) : Both (Lk.take r w) (step a w) := by
  unfold Lk.take step
  rw [if_neg hw]
  by_cases k1 : wd w 0 = wSecret
  · rw [if_pos (show isDecl (wd w 0) = true by rw [k1]; decide), if_pos (show (wd w 0 == [115, 101, 99, 114, 101, 116]) = true by rw [k1]; decide)]
    exact both_input S true (.inl rfl) k1
  · rw [if_neg (show ¬ (wd w 0 == [115, 101, 99, 114, 101, 116]) = true from fun e => k1 (eq_of_beq e))]
    by_cases k2 : wd w 0 = wPublic
    · rw [if_pos (show isDecl (wd w 0) = true by rw [k2]; decide), if_pos (show (wd w 0 == [112, 117, 98, 108, 105, 99]) = true by rw [k2]; decide)]
      exact both_input S false (.inr rfl) k2
    · rw [if_neg (show ¬ (wd w 0 == [112, 117, 98, 108, 105, 99]) = true from fun e => k2 (eq_of_beq e))]
      by_cases k3 : wd w 0 = wVar
      · rw [if_pos (show isDecl (wd w 0) = true by rw [k3]; decide), if_pos (show (wd w 0 == [118, 97, 114]) = true by rw [k3]; decide)]
        exact both_var S k3
      · rw [if_neg (show ¬ (wd w 0 == [118, 97, 114]) = true from fun e => k3 (eq_of_beq e))]
        by_cases k4 : wd w 0 = wArray
        · rw [if_pos (show isDecl (wd w 0) = true by rw [k4]; decide), if_pos (show (wd w 0 == [97, 114, 114, 97, 121]) = true by rw [k4]; decide)]
          exact both_array S k4
        · rw [if_neg (show ¬ (wd w 0 == [97, 114, 114, 97, 121]) = true from fun e => k4 (eq_of_beq e))]
          have hnd : ¬ isDecl (wd w 0) = true := by
            unfold isDecl
            simp [k1, k2, k3, k4]
          rw [if_neg hnd]
          by_cases k5 : wd w 0 = wLoad
          · rw [if_pos (show (wd w 0 == [108, 111, 97, 100]) = true by rw [k5]; decide), if_neg (by rw [k5]; decide), if_neg (by rw [k5]; decide)]
            have key := both_load S k5
            by_cases h12 : a.cnt = 12
            · rw [if_pos h12] at key ⊢; exact key
            · rw [if_neg h12] at key ⊢; rw [if_neg (by rw [k5]; decide)]; exact key
          · rw [if_neg (show ¬ (wd w 0 == [108, 111, 97, 100]) = true from fun e => k5 (eq_of_beq e))]
            by_cases k6 : wd w 0 = wStore
            · rw [if_pos (show (wd w 0 == [115, 116, 111, 114, 101]) = true by rw [k6]; decide), if_neg (by rw [k6]; decide), if_neg (by rw [k6]; decide)]
              have key := both_store S k6
              by_cases h12 : a.cnt = 12
              · rw [if_pos h12] at key ⊢; exact key
              · rw [if_neg h12] at key ⊢; rw [if_neg (by rw [k6]; decide)]; exact key
            · rw [if_neg (show ¬ (wd w 0 == [115, 116, 111, 114, 101]) = true from fun e => k6 (eq_of_beq e))]
              by_cases k7 : wd w 0 = wOut
              · rw [if_pos (show (wd w 0 == [111, 117, 116]) = true by rw [k7]; decide), if_neg (by rw [k7]; decide), if_neg (by rw [k7]; decide)]
                have key := both_out S k7
                by_cases h12 : a.cnt = 12
                · rw [if_pos h12] at key ⊢; exact key
                · rw [if_neg h12] at key ⊢; rw [if_neg (by rw [k7]; decide)]; exact key
              · rw [if_neg (show ¬ (wd w 0 == [111, 117, 116]) = true from fun e => k7 (eq_of_beq e))]
                by_cases k8 : wd w 0 = wIf
                · rw [if_pos (show (wd w 0 == [105, 102]) = true by rw [k8]; decide), if_neg (by rw [k8]; decide), if_neg (by rw [k8]; decide)]
                  have key := both_branch (w := w) S 4 true (by simp)
                  by_cases h12 : a.cnt = 12
                  · rw [if_pos h12] at key ⊢; exact key
                  · rw [if_neg h12] at key ⊢; rw [if_pos (.inl k8), decide_eq_true k8]; exact key
                · rw [if_neg (show ¬ (wd w 0 == [105, 102]) = true from fun e => k8 (eq_of_beq e))]
                  by_cases k9 : wd w 0 = wWhile
                  · rw [if_pos (show (wd w 0 == [119, 104, 105, 108, 101]) = true by rw [k9]; decide), if_neg (by rw [k9]; decide), if_neg (by rw [k9]; decide)]
                    have key := both_branch (w := w) S 5 false (by simp)
                    by_cases h12 : a.cnt = 12
                    · rw [if_pos h12] at key ⊢; exact key
                    · rw [if_neg h12] at key ⊢; rw [if_pos (.inr k9), decide_eq_false k8]; exact key
                  · rw [if_neg (show ¬ (wd w 0 == [119, 104, 105, 108, 101]) = true from fun e => k9 (eq_of_beq e))]
                    by_cases k10 : wd w 0 = wElse
                    · rw [if_pos (show (wd w 0 == [101, 108, 115, 101]) = true by rw [k10]; decide), if_pos k10]
                      exact both_else S
                    · rw [if_neg (show ¬ (wd w 0 == [101, 108, 115, 101]) = true from fun e => k10 (eq_of_beq e)), if_neg k10]
                      by_cases k11 : wd w 0 = wEnd
                      · rw [if_pos (show (wd w 0 == [101, 110, 100]) = true by rw [k11]; decide), if_pos k11]
                        exact both_end S
                      · rw [if_neg (show ¬ (wd w 0 == [101, 110, 100]) = true from fun e => k11 (eq_of_beq e)), if_neg k11]
                        have key := both_assign S k7 k5 k6
                        by_cases h12 : a.cnt = 12
                        · rw [if_pos h12] at key ⊢; exact key
                        · rw [if_neg h12] at key ⊢; rw [if_neg (fun c => c.elim k8 k9)]; exact key
end

theorem lines_eq : ∀ (ls : List Wd) (r : RS) (a : As) (n : Nat), Sim r a → (Lk.lines r n ls).2 = mrun a n ls
  | [], r, a, n, _ => rfl
  | [l], r, a, n, S => by
    unfold Lk.lines mrun
    have hd := S.dep
    by_cases c : l = [] ∧ a.stk = []
    · rw [if_pos c, if_pos ⟨by rw [c.1]; rfl, by rw [hd, c.2]; rfl⟩]
    · rw [if_neg c, if_neg (fun e => c ⟨List.length_eq_zero_iff.1 e.1, List.length_eq_zero_iff.1 (hd ▸ e.2)⟩)]
  | l :: m :: ls, r, a, n, S => by
    have hw : (cut 32 l).length ≠ 0 := fun e => Lk.cut_ne 32 l (List.length_eq_zero_iff.1 e)
    have key := take_step S hw
    unfold Lk.lines mrun
    cases ht : Lk.take r (cut 32 l) with
    | none =>
      cases hs : step a (cut 32 l) with
      | none => rfl
      | some a' => rw [ht, hs] at key; exact key.elim
    | some r' =>
      cases hs : step a (cut 32 l) with
      | none => rw [ht, hs] at key; exact key.elim
      | some a' =>
        rw [ht, hs] at key
        exact lines_eq (m :: ls) r' a' (n + 1) key

theorem sim_zero : Sim {} ⟨[], false, 0, []⟩ :=
  ⟨fun d hd => by (cases hd), fun w _ => rfl, rfl, rfl, rfl, by simp, rfl, Nat.zero_le _, rfl, Nat.zero_le _, trivial⟩

/-- The program's own reading and the reference's: the same wrong line. -/
theorem read_line (s : Wd) (h : s.length ≤ 600) : (Lk.read s).2 = (readS s).2 := by
  unfold Lk.read
  rw [if_neg (by omega), lines_eq _ _ _ _ sim_zero]
  exact (readS_line s).1

end Go.Proofs.Ytkfejeomfdhmdaa.Rf
