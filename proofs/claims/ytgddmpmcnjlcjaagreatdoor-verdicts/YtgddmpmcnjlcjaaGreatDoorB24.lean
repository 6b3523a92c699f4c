import Derived.Test.YtgddmpmcnjlcjaaGreatDoorB22
import Derived.Test.YtgddmpmcnjlcjaaGreatDoorB21
namespace Go.Proofs.YtgddmpmcnjlcjaaGreatDoor
set_option linter.unusedVariables false
namespace Pr
structure FdOk (p : Pg) (k : Nat) (a : Fd) (Q : Nat → Nat → Prop) : Prop where
  le : a.al ≤ k
  no : a.fi = none → a.al = k
  so : ∀ i j, a.fi = some (i, j) → i < rows p.sec false ∧ j < rows p.sec true ∧ a.al < k ∧ run p i 0 a.al ≠ run p i j a.al
  all : ∀ i j, Q i j → ∀ t, t < a.al → run p i 0 t = run p i j t
theorem FdOk.look {p : Pg} {k : Nat} {a : Fd} {Q : Nat → Nat → Prop} (h : FdOk p k a Q) {i j : Nat} (hi : i < rows p.sec false) (hj : j < rows p.sec true) : FdOk p k (look p i a j) (fun x y => Q x y ∨ (x = i ∧ y = j)) := by
  unfold Pr.look
  split
  · rename_i hlt
    have ha := h.le
    refine ⟨by show agr _ _ _ ≤ k; omega, fun h => (by cases h), ?_, ?_⟩
    · intro x y e
      cases e
      exact ⟨hi, hj, by show agr _ _ _ < k; omega, agr_ne _ _ _ hlt⟩
    · intro x y hq t ht
      have ht' : t < agr (run p i 0) (run p i j) a.al := ht
      rcases hq with hq | ⟨rfl, rfl⟩
      · exact h.all x y hq t (by omega)
      · exact agr_eq _ _ _ t ht'
  · rename_i hlt
    refine ⟨h.le, h.no, h.so, ?_⟩
    intro x y hq t ht
    rcases hq with hq | ⟨rfl, rfl⟩
    · exact h.all x y hq t ht
    · exact agr_eq _ _ a.al t (by have := agr_le (run p x 0) (run p x y) a.al; omega)
theorem FdOk.imp {p : Pg} {k : Nat} {a : Fd} {Q R : Nat → Nat → Prop} (h : FdOk p k a Q) (hi : ∀ i j, R i j → Q i j) : FdOk p k a R := ⟨h.le, h.no, h.so, fun i j hq => h.all i j (hi i j hq)⟩
theorem FdOk.row {p : Pg} {k : Nat} {a : Fd} {Q : Nat → Nat → Prop} (h : FdOk p k a Q) {i : Nat} (hi : i < rows p.sec false) (n : Nat) (hn : n < rows p.sec true) : FdOk p k (rowN p i a n) (fun x y => Q x y ∨ (x = i ∧ 1 ≤ y ∧ y ≤ n)) := by
  induction n with
  | zero => exact h.imp (fun x y q => by rcases q with q | ⟨_, q1, q2⟩ <;> first | exact q | omega)
  | succ n ih =>
    refine ((ih (by omega)).look hi hn).imp ?_
    intro x y q
    rcases q with q | ⟨rfl, q1, q2⟩
    · exact .inl (.inl q)
    · by_cases e : y = n + 1
      · exact .inr ⟨rfl, e⟩
      · exact .inl (.inr ⟨rfl, q1, by omega⟩)
theorem fdN_ok (p : Pg) (k n : Nat) (hn : n ≤ rows p.sec false) : FdOk p k (fdN p k n) (fun x y => x < n ∧ 1 ≤ y ∧ y < rows p.sec true) := by
  have hp := rows_pos true p.sec 1 (by omega)
  have hp' : 0 < rows p.sec true := hp
  induction n with
  | zero => exact ⟨Nat.le_refl _, fun _ => rfl, fun i j e => (by cases e), fun i j q => (by omega)⟩
  | succ n ih =>
    refine ((ih (by omega)).row (i := n) (by omega) (rows p.sec true - 1) (by omega)).imp ?_
    intro x y q
    by_cases e : x = n
    · exact .inr ⟨e, q.2.1, by omega⟩
    · exact .inl ⟨by omega, q.2⟩
theorem fd_ok (p : Pg) (k : Nat) : FdOk p k (fd p k) (fun x y => x < rows p.sec false ∧ y < rows p.sec true) := by
  have h := fdN_ok p k (rows p.sec false) (Nat.le_refl _)
  refine ⟨h.le, h.no, h.so, ?_⟩
  intro i j q t ht
  by_cases e : j = 0
  · rw [e]
  · exact h.all i j ⟨q.1, by omega, q.2⟩ t ht
theorem fd_some {p : Pg} {k : Nat} (h : (fd p k).al < k) : ∃ i j, (fd p k).fi = some (i, j) := by
  rcases e : (fd p k).fi with _ | ⟨i, j⟩
  · have := (fd_ok p k).no e
    omega
  · exact ⟨i, j, rfl⟩
theorem fd_more_ins {p : Pg} {k m : Nat} (hm : k ≤ m) (h : (fd p k).al < k) : (fd p m).al < m := by
  obtain ⟨i, j, e⟩ := fd_some h
  obtain ⟨h1, h2, h3, h4⟩ := (fd_ok p k).so i j e
  by_cases hh : (fd p m).al ≤ (fd p k).al
  · omega
  · exact absurd ((fd_ok p m).all i j ⟨h1, h2⟩ _ (by omega)) h4
theorem fd_more_sec {p : Pg} {k : Nat} (h : ¬ (fd p k).al < k) (h2 : (fd p (k + 1)).al < k + 1) : (fd p (k + 1)).al = k := by
  obtain ⟨i, j, e⟩ := fd_some h2
  obtain ⟨q1, q2, q3, q4⟩ := (fd_ok p (k + 1)).so i j e
  have hle := (fd_ok p k).le
  by_cases hh : (fd p (k + 1)).al < k
  · exact absurd ((fd_ok p k).all i j ⟨q1, q2⟩ _ (by omega)) q4
  · omega
end Pr
end Go.Proofs.YtgddmpmcnjlcjaaGreatDoor
namespace Go.Proofs.YtgddmpmcnjlcjaaGreatDoor
set_option linter.unusedVariables false
namespace Pr
def inpR : List Bool → Nat → Nat → List Nat
  | [], _, _ => []
  | true :: bs, p, s => s % 16 :: inpR bs p (s / 16)
  | false :: bs, p, s => p % 16 :: inpR bs (p / 16) s
theorem deal_R (l : List Bool) (acc : List Nat) (p s : Nat) : (l.foldl deal (acc, p, s)).1 = acc ++ inpR l p s := by
  induction l generalizing acc p s with
  | nil => simp [inpR]
  | cons b l ih =>
    cases b with
    | true =>
      show (l.foldl deal (acc ++ [s % 16], p, s / 16)).1 = _
      rw [ih, List.append_assoc]; rfl
    | false =>
      show (l.foldl deal (acc ++ [p % 16], p / 16, s)).1 = _
      rw [ih, List.append_assoc]; rfl
theorem inp_R (l : List Bool) (p s : Nat) : inp l p s = inpR l p s := by
  unfold inp
  rw [deal_R, List.nil_append]
def rowsR : List Bool → Bool → Nat
  | [], _ => 1
  | b :: bs, s => if b = s then 16 * rowsR bs s else rowsR bs s
theorem rows_R (l : List Bool) (s : Bool) : rows l s = rowsR l s := by
  have h : ∀ (l : List Bool) (a : Nat), l.foldl (mulIf s) a = a * rowsR l s := by
    intro l
    induction l with
    | nil => intro a; simp [rowsR]
    | cons b l ih =>
      intro a
      rw [List.foldl_cons, ih]
      unfold mulIf
      rw [show rowsR (b :: l) s = if b = s then 16 * rowsR l s else rowsR l s from rfl]
      split
      · rw [Nat.mul_assoc]
      · rfl
  unfold rows
  rw [h, Nat.one_mul]
theorem rowsR_pos (l : List Bool) (s : Bool) : 0 < rowsR l s := by
  induction l with
  | nil => exact Nat.one_pos
  | cons b l ih =>
    unfold rowsR
    split
    · omega
    · exact ih
theorem inp_mod (l : List Bool) (c x : Nat) : inp l (c % rows l false) x = inp l c x := by
  rw [inp_R, inp_R, rows_R]
  induction l generalizing c x with
  | nil => rfl
  | cons b l ih =>
    cases b with
    | true =>
      show x % 16 :: inpR l (c % rowsR l false) (x / 16) = x % 16 :: inpR l c (x / 16)
      rw [ih]
    | false =>
      show (c % (16 * rowsR l false)) % 16 :: inpR l ((c % (16 * rowsR l false)) / 16) x = c % 16 :: inpR l (c / 16) x
      rw [Nat.mod_mul_right_mod, Nat.mod_mul_right_div_self, ih]
theorem inp_pub (l : List Bool) (c x y t : Nat) (h : l[t]? = some false) : (inp l c x)[t]? = (inp l c y)[t]? := by
  rw [inp_R, inp_R]
  induction l generalizing c x y t with
  | nil => rfl
  | cons b l ih =>
    cases t with
    | zero =>
      cases b with
      | true => simp at h
      | false => rfl
    | succ t =>
      have h' : l[t]? = some false := by simpa using h
      cases b with
      | true => exact ih c (x / 16) (y / 16) t h'
      | false => exact ih (c / 16) x y t h'
end Pr
end Go.Proofs.YtgddmpmcnjlcjaaGreatDoor
