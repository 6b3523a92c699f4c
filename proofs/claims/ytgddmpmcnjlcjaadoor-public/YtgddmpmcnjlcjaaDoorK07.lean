import Derived.Test.YtgddmpmcnjlcjaaDoorB33
import Derived.Test.YtgddmpmcnjlcjaaDoorK06
/- What the search's answer says of the runs. -/
namespace Go.Proofs.YtgddmpmcnjlcjaaDoor
set_option linter.unusedVariables false
namespace Pr

structure FdOk (p : Pg) (k : Nat) (a : Fd) (Q : Nat → Nat → Prop) : Prop where
  le : a.al ≤ k
  no : a.fi = none → a.al = k
  so : ∀ i j, a.fi = some (i, j) → i < rows p.sec false ∧ j < rows p.sec true ∧ a.al < k ∧ run p i 0 a.al ≠ run p i j a.al
  all : ∀ i j, Q i j → ∀ t, t < a.al → run p i 0 t = run p i j t

theorem FdOk.look {p : Pg} {k : Nat} {a : Fd} {Q : Nat → Nat → Prop} (h : FdOk p k a Q) {i j : Nat} (hi : i < rows p.sec false) (hj : j < rows p.sec true) : FdOk p k (look p i a j) (fun x y => Q x y ∨ (x = i ∧ y = j)) := by
  unfold Pr.look
  split
  · rename_i hlt
    have ha := h.le
    refine ⟨by show agr _ _ _ ≤ k; omega, fun h => (by cases h), ?_, ?_⟩
    · intro x y e
      cases e
      exact ⟨hi, hj, by show agr _ _ _ < k; omega, agr_ne _ _ _ hlt⟩
    · intro x y hq t ht
      have ht' : t < agr (run p i 0) (run p i j) a.al := ht
      rcases hq with hq | ⟨rfl, rfl⟩
      · exact h.all x y hq t (by omega)
      · exact agr_eq _ _ _ t ht'
  · rename_i hlt
    refine ⟨h.le, h.no, h.so, ?_⟩
    intro x y hq t ht
    rcases hq with hq | ⟨rfl, rfl⟩
    · exact h.all x y hq t ht
    · exact agr_eq _ _ a.al t (by have := agr_le (run p x 0) (run p x y) a.al; omega)

theorem FdOk.imp {p : Pg} {k : Nat} {a : Fd} {Q R : Nat → Nat → Prop} (h : FdOk p k a Q) (hi : ∀ i j, R i j → Q i j) : FdOk p k a R := ⟨h.le, h.no, h.so, fun i j hq => h.all i j (hi i j hq)⟩

theorem FdOk.row {p : Pg} {k : Nat} {a : Fd} {Q : Nat → Nat → Prop} (h : FdOk p k a Q) {i : Nat} (hi : i < rows p.sec false) (n : Nat) (hn : n < rows p.sec true) : FdOk p k (rowN p i a n) (fun x y => Q x y ∨ (x = i ∧ 1 ≤ y ∧ y ≤ n)) := by
  induction n with
  | zero => exact h.imp (fun x y q => by rcases q with q | ⟨_, q1, q2⟩ <;> first | exact q | omega)
  | succ n ih =>
    refine ((ih (by omega)).look hi hn).imp ?_
    intro x y q
    rcases q with q | ⟨rfl, q1, q2⟩
    · exact .inl (.inl q)
    · by_cases e : y = n + 1
      · exact .inr ⟨rfl, e⟩
      · exact .inl (.inr ⟨rfl, q1, by omega⟩)

theorem fdN_ok (p : Pg) (k n : Nat) (hn : n ≤ rows p.sec false) : FdOk p k (fdN p k n) (fun x y => x < n ∧ 1 ≤ y ∧ y < rows p.sec true) := by
  have hp := rows_pos true p.sec 1 (by omega)
  have hp' : 0 < rows p.sec true := hp
  induction n with
  | zero => exact ⟨Nat.le_refl _, fun _ => rfl, fun i j e => (by cases e), fun i j q => (by omega)⟩
  | succ n ih =>
    refine ((ih (by omega)).row (i := n) (by omega) (rows p.sec true - 1) (by omega)).imp ?_
    intro x y q
    by_cases e : x = n
    · exact .inr ⟨e, q.2.1, by omega⟩
    · exact .inl ⟨by omega, q.2⟩

theorem fd_ok (p : Pg) (k : Nat) : FdOk p k (fd p k) (fun x y => x < rows p.sec false ∧ y < rows p.sec true) := by
  have h := fdN_ok p k (rows p.sec false) (Nat.le_refl _)
  refine ⟨h.le, h.no, h.so, ?_⟩
  intro i j q t ht
  by_cases e : j = 0
  · rw [e]
  · exact h.all i j ⟨q.1, by omega, q.2⟩ t ht

theorem fd_some {p : Pg} {k : Nat} (h : (fd p k).al < k) : ∃ i j, (fd p k).fi = some (i, j) := by
  rcases e : (fd p k).fi with _ | ⟨i, j⟩
  · have := (fd_ok p k).no e
    omega
  · exact ⟨i, j, rfl⟩

theorem fd_more_ins {p : Pg} {k m : Nat} (hm : k ≤ m) (h : (fd p k).al < k) : (fd p m).al < m := by
  obtain ⟨i, j, e⟩ := fd_some h
  obtain ⟨h1, h2, h3, h4⟩ := (fd_ok p k).so i j e
  by_cases hh : (fd p m).al ≤ (fd p k).al
  · omega
  · exact absurd ((fd_ok p m).all i j ⟨h1, h2⟩ _ (by omega)) h4
theorem fd_more_sec {p : Pg} {k : Nat} (h : ¬ (fd p k).al < k) (h2 : (fd p (k + 1)).al < k + 1) : (fd p (k + 1)).al = k := by
  obtain ⟨i, j, e⟩ := fd_some h2
  obtain ⟨q1, q2, q3, q4⟩ := (fd_ok p (k + 1)).so i j e
  have hle := (fd_ok p k).le
  by_cases hh : (fd p (k + 1)).al < k
  · exact absurd ((fd_ok p k).all i j ⟨q1, q2⟩ _ (by omega)) q4
  · omega

end Pr
end Go.Proofs.YtgddmpmcnjlcjaaDoor

/- The turned text, whole. -/
namespace Go.Proofs.YtgddmpmcnjlcjaaDoor
set_option linter.unusedVariables false

namespace Sx
open Lk
theorem tns_skip (k : Nat) (xs : Wd) : tns k false xs = tns 0 false (xs.drop k) := by
  induction xs generalizing k with
  | nil => cases k <;> simp [tns]
  | cons x xs ih =>
    cases k with
    | zero => rfl
    | succ k =>
      show tns k false xs = tns 0 false ((x :: xs).drop (k + 1))
      rw [ih]; rfl
theorem tns_go (x : UInt8) (xs : Wd) (b : Bool) (h : ¬ (b = true ∧ 8 ≤ (x :: xs).length ∧ (x :: xs).take 7 = secL)) : tns 0 b (x :: xs) = x :: tns 0 (x == 10) xs := by
  show (if b = true ∧ 8 ≤ (x :: xs).length ∧ (x :: xs).take 7 = secL then pubL ++ tns 6 false xs else x :: tns 0 (x == 10) xs) = _
  rw [if_neg h]
theorem tns_hit (x : UInt8) (xs : Wd) (h : 8 ≤ (x :: xs).length ∧ (x :: xs).take 7 = secL) : tns 0 true (x :: xs) = pubL ++ tns 0 false ((x :: xs).drop 7) := by
  show (if true = true ∧ 8 ≤ (x :: xs).length ∧ (x :: xs).take 7 = secL then pubL ++ tns 6 false xs else x :: tns 0 (x == 10) xs) = _
  rw [if_pos ⟨rfl, h⟩, tns_skip]; rfl
theorem bne10 {x : UInt8} (h : x ≠ 10) : (x == 10) = false := by simpa using h
theorem tns_false (m rest : Wd) (h : ∀ x ∈ m, x ≠ 10) : tns 0 false (m ++ 10 :: rest) = m ++ 10 :: tns 0 true rest := by
  induction m with
  | nil =>
    show tns 0 false (10 :: rest) = _
    rw [tns_go _ _ _ (by simp)]; rfl
  | cons x m ih =>
    show tns 0 false (x :: (m ++ 10 :: rest)) = _
    rw [tns_go _ _ _ (by simp), bne10 (h x (by simp)), ih (fun y hy => h y (by simp [hy]))]; rfl
theorem tns_false_end (m : Wd) (h : ∀ x ∈ m, x ≠ 10) : tns 0 false m = m := by
  induction m with
  | nil => rfl
  | cons x m ih => rw [tns_go _ _ _ (by simp), bne10 (h x (by simp)), ih (fun y hy => h y (by simp [hy]))]
theorem take7_line (l rest : Wd) : (l ++ 10 :: rest).take 7 = secL ↔ l.take 7 = secL := by
  by_cases h : 7 ≤ l.length
  · rw [List.take_append_of_le_length h]
  · constructor
    · intro e
      have hm : (10 : UInt8) ∈ (l ++ 10 :: rest).take 7 := by
        rw [List.take_append, List.take_of_length_le (by omega)]
        have : 7 - l.length = (6 - l.length) + 1 := by omega
        rw [this]
        simp
      rw [e] at hm
      exact absurd hm (by decide)
    · intro e
      have := congrArg List.length e
      rw [List.length_take, show secL.length = 7 from rfl] at this
      omega
theorem len7 {l : Wd} (h : l.take 7 = secL) : 7 ≤ l.length := by
  have := congrArg List.length h
  rw [List.length_take, show secL.length = 7 from rfl] at this
  omega
theorem tns_line (l rest : Wd) (h : ∀ x ∈ l, x ≠ 10) : tns 0 true (l ++ 10 :: rest) = tl l ++ 10 :: tns 0 true rest := by
  by_cases h7 : l.take 7 = secL
  · have hl := len7 h7
    cases l with
    | nil => exact absurd hl (by decide)
    | cons x l =>
      rw [List.cons_append, tns_hit _ _ ⟨by simp at hl ⊢; omega, by rw [← List.cons_append]; exact (take7_line _ _).2 h7⟩]
      rw [← List.cons_append, List.drop_append_of_le_length hl, tns_false _ _ (fun y hy => h y (List.mem_of_mem_drop hy))]
      unfold tl
      rw [if_pos h7, List.append_assoc]
  · have e1 : tl l = l := by unfold tl; rw [if_neg h7]
    rw [e1]
    cases l with
    | nil =>
      show tns 0 true (10 :: rest) = _
      rw [tns_go _ _ _ (by intro k; exact h7 ((take7_line [] rest).1 k.2.2))]; rfl
    | cons x l =>
      show tns 0 true (x :: (l ++ 10 :: rest)) = _
      rw [tns_go _ _ _ (by intro k; exact h7 ((take7_line (x :: l) rest).1 k.2.2)), bne10 (h x (by simp)), tns_false l rest (fun y hy => h y (by simp [hy]))]; rfl
theorem tns_end (l : Wd) (h : ∀ x ∈ l, x ≠ 10) : tns 0 true l = tlast l := by
  cases l with
  | nil => rfl
  | cons x l =>
    by_cases hc : 8 ≤ (x :: l).length ∧ (x :: l).take 7 = secL
    · rw [tns_hit _ _ hc, tns_false_end _ (fun y hy => h y (List.mem_of_mem_drop hy))]
      unfold tlast
      rw [if_pos hc]
    · rw [tns_go _ _ _ (fun k => hc k.2), bne10 (h x (by simp)), tns_false_end l (fun y hy => h y (by simp [hy]))]
      unfold tlast
      rw [if_neg hc]
theorem no10_pub : ∀ x ∈ pubL, x ≠ (10 : UInt8) := by decide
theorem no10_tl {l : Wd} (h : ∀ x ∈ l, x ≠ 10) : ∀ x ∈ tl l, x ≠ 10 := by
  intro x hx
  unfold tl at hx
  split at hx
  · rcases List.mem_append.1 hx with hx | hx
    · exact no10_pub x hx
    · exact h x (List.mem_of_mem_drop hx)
  · exact h x hx
theorem no10_tlast {l : Wd} (h : ∀ x ∈ l, x ≠ 10) : ∀ x ∈ tlast l, x ≠ 10 := by
  intro x hx
  unfold tlast at hx
  split at hx
  · rcases List.mem_append.1 hx with hx | hx
    · exact no10_pub x hx
    · exact h x (List.mem_of_mem_drop hx)
  · exact h x hx
theorem first_line (s : Wd) : (∀ x ∈ s, x ≠ 10) ∨ ∃ l rest, s = l ++ 10 :: rest ∧ ∀ x ∈ l, x ≠ 10 := by
  induction s with
  | nil => exact .inl (fun x h => by cases h)
  | cons y s ih =>
    by_cases hy : y = 10
    · exact .inr ⟨[], s, by rw [hy]; rfl, fun x h => by cases h⟩
    · rcases ih with h | ⟨l, rest, e, h⟩
      · refine .inl (fun x hx => ?_)
        rcases List.mem_cons.1 hx with rfl | hx
        · exact hy
        · exact h x hx
      · refine .inr ⟨y :: l, rest, by rw [e]; rfl, fun x hx => ?_⟩
        rcases List.mem_cons.1 hx with rfl | hx
        · exact hy
        · exact h x hx
theorem cut_tns (n : Nat) (s : Wd) (hn : s.length ≤ n) : cut 10 (tns 0 true s) = mapL (cut 10 s) ∧ (tns 0 true s).length = s.length := by
  induction n generalizing s with
  | zero =>
    have : s = [] := List.eq_nil_of_length_eq_zero (by omega)
    subst this
    exact ⟨rfl, rfl⟩
  | succ n ih =>
    rcases first_line s with h | ⟨l, rest, e, h⟩
    · rw [tns_end s h, cut_none 10 _ (no10_tlast h), cut_none 10 _ h]
      exact ⟨rfl, tlast_len s⟩
    · subst e
      have hl : rest.length ≤ n := by simp at hn; omega
      obtain ⟨i1, i2⟩ := ih rest hl
      rw [tns_line l rest h, cut_split 10 _ _ (no10_tl h), cut_split 10 _ _ h, i1]
      refine ⟨?_, ?_⟩
      · have hne := cut_ne 10 rest
        cases hc : cut 10 rest with
        | nil => exact absurd hc hne
        | cons y ys => rfl
      · rw [List.length_append, List.length_cons, i2, List.length_append, List.length_cons]
        congr 1
        unfold tl
        split
        · rename_i h7
          have := len7 h7
          rw [List.length_append, List.length_drop, show pubL.length = 7 from rfl]; omega
        · rfl

theorem read_tns (s : Wd) : ((Lk.read s).2 = 0 → (Lk.read (tns 0 true s)).2 = 0 ∧ ∀ b ∈ (Lk.read (tns 0 true s)).1.secret, b = false) ∧ ((Lk.read s).2 ≠ 0 → (Lk.read (tns 0 true s)).2 ≠ 0) := by
  obtain ⟨h1, h2⟩ := cut_tns s.length s (Nat.le_refl _)
  unfold Lk.read
  rw [h2, h1]
  by_cases hl : 600 < s.length
  · rw [if_pos hl, if_pos hl]; exact ⟨fun h => (by cases h), fun h => h⟩
  · rw [if_neg hl, if_neg hl]
    have hp : Pub {} {} := ⟨[], rfl, rfl, fun b hb => by cases hb⟩
    have := lines_tl hp 0 (cut 10 s)
    refine ⟨fun h => ?_, this.2⟩
    obtain ⟨a, x, e, _, hb⟩ := this.1 h
    exact ⟨a, fun b hbm => hb b (by rw [e] at hbm; exact hbm)⟩
end Sx

namespace Pr
theorem rows_all (l : List Bool) (h : ∀ b ∈ l, b = false) : rows l true = 1 := by
  rw [rows_R]
  induction l with
  | nil => rfl
  | cons b l ih =>
    have : b = false := h b (by simp)
    subst this
    show rowsR l true = 1
    exact ih (fun b hb => h b (by simp [hb]))
theorem fd_pub (p : Pg) (k : Nat) (h : ∀ b ∈ p.sec, b = false) : ¬ (fd p k).al < k := by
  intro hl
  obtain ⟨i, j, e⟩ := fd_some hl
  obtain ⟨h1, h2, h3, h4⟩ := (fd_ok p k).so i j e
  rw [rows_all p.sec h] at h2
  have : j = 0 := by omega
  subst this
  exact h4 rfl
end Pr
end Go.Proofs.YtgddmpmcnjlcjaaDoor
