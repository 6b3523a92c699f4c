import Derived.Test.YtgddmpmcnjlcjaaDoorK02
/- Runs tried one by one. -/
namespace Go.Proofs.YtgddmpmcnjlcjaaDoor
set_option linter.unusedVariables false
namespace Pr
/-- What n steps tell. -/
def outs (p : Pg) : Nat → Mc.M → List Nat
  | 0, _ => []
  | n + 1, m => (Mc.step p.cells p.code m).1 :: outs p n (Mc.step p.cells p.code m).2
/-- Do all runs tell the same, for T steps? -/
def chk (p : Pg) (T : Nat) : Bool := (List.range (rows p.sec false)).all fun i => (List.range (rows p.sec true)).all fun j => outs p T (Mc.ini (inp p.sec i j)) == outs p T (Mc.ini (inp p.sec i 0))
/-- Two that part at step T. -/
def dif (p : Pg) (T i j : Nat) : Bool := decide (i < rows p.sec false) && decide (j < rows p.sec true) && !((outs p (T + 1) (Mc.ini (inp p.sec i 0))).getD T 0 == (outs p (T + 1) (Mc.ini (inp p.sec i j))).getD T 0)

theorem st_next (p : Pg) (m : Mc.M) (n : Nat) : Mc.st p (Mc.step p.cells p.code m).2 n = Mc.st p m (n + 1) := by
  induction n with
  | zero => rfl
  | succ n ih =>
    show (Mc.step p.cells p.code (Mc.st p (Mc.step p.cells p.code m).2 n)).2 = (Mc.step p.cells p.code (Mc.st p m (n + 1))).2
    rw [ih]
theorem num_next (p : Pg) (m : Mc.M) (n : Nat) : Mc.num p (Mc.step p.cells p.code m).2 n = Mc.num p m (n + 1) := by
  unfold Mc.num
  rw [st_next]
theorem outs_get (p : Pg) (T : Nat) (m : Mc.M) (t : Nat) (h : t < T) : (outs p T m).getD t 0 = Mc.num p m t := by
  induction T generalizing m t with
  | zero => omega
  | succ T ih =>
    cases t with
    | zero => rfl
    | succ t =>
      have := ih (Mc.step p.cells p.code m).2 t (by omega)
      rw [num_next] at this
      exact this

theorem chk_run {p : Pg} {T : Nat} (h : chk p T = true) {i j t : Nat} (hi : i < rows p.sec false) (hj : j < rows p.sec true) (ht : t < T) : run p i 0 t = run p i j t := by
  unfold chk at h
  rw [List.all_eq_true] at h
  have h1 := h i (List.mem_range.2 hi)
  rw [List.all_eq_true] at h1
  have h2 := h1 j (List.mem_range.2 hj)
  have h3 : outs p T (Mc.ini (inp p.sec i j)) = outs p T (Mc.ini (inp p.sec i 0)) := by simpa using h2
  have h4 := outs_get p T (Mc.ini (inp p.sec i j)) t ht
  have h5 := outs_get p T (Mc.ini (inp p.sec i 0)) t ht
  rw [h3] at h4
  exact h5.symm.trans h4
theorem dif_run {p : Pg} {T i j : Nat} (h : dif p T i j = true) : i < rows p.sec false ∧ j < rows p.sec true ∧ run p i 0 T ≠ run p i j T := by
  unfold dif at h
  simp only [Bool.and_eq_true, decide_eq_true_eq, Bool.not_eq_true'] at h
  refine ⟨h.1.1, h.1.2, ?_⟩
  intro e
  have h2 := h.2
  rw [outs_get _ _ _ _ (Nat.lt_succ_self T), outs_get _ _ _ _ (Nat.lt_succ_self T)] at h2
  have e' : Mc.num p (Mc.ini (inp p.sec i 0)) T = Mc.num p (Mc.ini (inp p.sec i j)) T := e
  rw [e'] at h2
  simp at h2

theorem fd_chk {p : Pg} {T k : Nat} (h : chk p T = true) (hk : k ≤ T) : ¬ (fd p k).al < k := by
  intro hl
  obtain ⟨i, j, e⟩ := fd_some hl
  obtain ⟨h1, h2, h3, h4⟩ := (fd_ok p k).so i j e
  exact h4 (chk_run h h1 h2 (by omega))
theorem fd_dif {p : Pg} {T i j k : Nat} (h : chk p T = true) (d : dif p T i j = true) (hk : T < k) : (fd p k).al = T := by
  obtain ⟨d1, d2, d3⟩ := dif_run d
  have hle : (fd p k).al ≤ T := by
    by_cases hh : (fd p k).al ≤ T
    · exact hh
    · exact absurd ((fd_ok p k).all i j ⟨d1, d2⟩ T (by omega)) d3
  obtain ⟨x, y, e⟩ := fd_some (show (fd p k).al < k by omega)
  obtain ⟨h1, h2, h3, h4⟩ := (fd_ok p k).so x y e
  by_cases hh : (fd p k).al < T
  · exact absurd (chk_run h h1 h2 hh) h4
  · omega
end Pr
end Go.Proofs.YtgddmpmcnjlcjaaDoor
