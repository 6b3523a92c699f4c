import Derived.Test.YtgddmpmcnjlcjaaGreatDoorB26
import Derived.Test.YtgddmpmcnjlcjaaGreatDoorB11
import Derived.Test.YtgddmpmcnjlcjaaGreatDoorB01
namespace Go.Proofs.YtgddmpmcnjlcjaaGreatDoor.Tm
open Lk (Wd wd)
set_option linter.unusedVariables false
def fd : List Rf.Dc → Nat → Nat → Wd → Nat × Nat
  | [], _, _, _ => (0, 0)
  | d :: ds, s, a, w => if d.name = w then (if d.kind = Rf.wArray then (2, a) else (1, s)) else if d.kind = Rf.wArray then fd ds s (a + 1) w else fd ds (s + 1) a w
def sizes (ds : List Rf.Dc) : List Nat := (ds.filter fun d => d.kind = Rf.wArray).map Rf.Dc.size
theorem fd_le (ds : List Rf.Dc) (s a : Nat) (w : Wd) : ((fd ds s a w).1 = 1 → s ≤ (fd ds s a w).2) ∧ ((fd ds s a w).1 = 2 → a ≤ (fd ds s a w).2) ∧ (fd ds s a w).1 ≤ 2 := by
  induction ds generalizing s a with
  | nil => exact ⟨fun h => (by cases h), fun h => (by cases h), Nat.zero_le _⟩
  | cons d ds ih =>
    unfold fd
    by_cases hn : d.name = w
    · rw [if_pos hn]
      by_cases hk : d.kind = Rf.wArray
      · rw [if_pos hk]; exact ⟨fun h => (by cases h), fun _ => Nat.le_refl _, Nat.le_refl _⟩
      · rw [if_neg hk]; exact ⟨fun _ => Nat.le_refl _, fun h => (by cases h), (by show 1 ≤ 2; omega)⟩
    · rw [if_neg hn]
      by_cases hk : d.kind = Rf.wArray
      · rw [if_pos hk]
        have := ih s (a + 1)
        exact ⟨this.1, fun h => Nat.le_of_succ_le (this.2.1 h), this.2.2⟩
      · rw [if_neg hk]
        have := ih (s + 1) a
        exact ⟨fun h => Nat.le_of_succ_le (this.1 h), this.2.1, this.2.2⟩
theorem fd_inj (ds : List Rf.Dc) (s a : Nat) (w w' : Wd) (h0 : (fd ds s a w).1 ≠ 0) (h : fd ds s a w = fd ds s a w') : w = w' := by
  induction ds generalizing s a with
  | nil => exact absurd rfl h0
  | cons d ds ih =>
    unfold fd at h h0
    by_cases h1 : d.name = w
    · by_cases h2 : d.name = w'
      · exact h1.symm.trans h2
      · rw [if_pos h1, if_neg h2] at h
        by_cases hk : d.kind = Rf.wArray
        · rw [if_pos hk, if_pos hk] at h
          have := (fd_le ds s (a + 1) w').2.1
          rw [← h] at this
          have := this rfl
          simp at this
          omega
        · rw [if_neg hk, if_neg hk] at h
          have := (fd_le ds (s + 1) a w').1
          rw [← h] at this
          have := this rfl
          simp at this
          omega
    · rw [if_neg h1] at h h0
      by_cases h2 : d.name = w'
      · rw [if_pos h2] at h
        by_cases hk : d.kind = Rf.wArray
        · rw [if_pos hk, if_pos hk] at h
          have := (fd_le ds s (a + 1) w).2.1
          rw [h] at this
          have := this rfl
          simp at this
          omega
        · rw [if_neg hk, if_neg hk] at h
          have := (fd_le ds (s + 1) a w).1
          rw [h] at this
          have := this rfl
          simp at this
          omega
      · rw [if_neg h2] at h
        by_cases hk : d.kind = Rf.wArray
        · rw [if_pos hk] at h0
          rw [if_pos hk, if_pos hk] at h
          exact ih s (a + 1) h0 h
        · rw [if_neg hk] at h0
          rw [if_neg hk, if_neg hk] at h
          exact ih (s + 1) a h0 h
theorem fd_one (ds : List Rf.Dc) (s a : Nat) (w : Wd) (h0 : (fd ds s a w).1 ≠ 0) : ∃ i, Rf.oneOf w (ds.map Rf.Dc.name) = some i ∧ (ds.map Rf.Dc.name)[i]? = some w ∧ ((fd ds s a w).1 = 2 → (ds.map Rf.Dc.size).getD i 0 = (sizes ds).getD ((fd ds s a w).2 - a) 0) := by
  induction ds generalizing s a with
  | nil => exact absurd rfl h0
  | cons d ds ih =>
    have hle := fd_le ds s (a + 1) w
    unfold fd at h0 ⊢
    by_cases h1 : d.name = w
    · refine ⟨0, ?_, ?_, ?_⟩
      · show (if (d.name == w) = true then some 0 else _) = _
        rw [if_pos (by simpa using h1)]
      · rw [List.map_cons, List.getElem?_cons_zero, h1]
      · rw [if_pos h1]
        by_cases hk : d.kind = Rf.wArray
        · rw [if_pos hk]
          intro _
          unfold sizes
          rw [List.filter_cons, if_pos (by simpa using hk)]
          simp
        · rw [if_neg hk]; intro h; cases h
    · rw [if_neg h1] at h0 ⊢
      have hone : ∀ i, Rf.oneOf w (ds.map Rf.Dc.name) = some i → Rf.oneOf w ((d :: ds).map Rf.Dc.name) = some (i + 1) := by
        intro i hi
        show (if (d.name == w) = true then some 0 else (Rf.oneOf w (ds.map Rf.Dc.name)).map (· + 1)) = _
        rw [if_neg (by simpa using h1), hi]; rfl
      by_cases hk : d.kind = Rf.wArray
      · rw [if_pos hk] at h0 ⊢
        obtain ⟨i, e1, e2, e3⟩ := ih s (a + 1) h0
        refine ⟨i + 1, hone i e1, e2, fun h => ?_⟩
        have := hle.2.1 h
        rw [List.map_cons, List.getD_cons_succ, e3 h]
        unfold sizes
        rw [List.filter_cons, if_pos (by simpa using hk), List.map_cons, show (fd ds s (a + 1) w).2 - a = ((fd ds s (a + 1) w).2 - (a + 1)) + 1 by omega, List.getD_cons_succ]
      · rw [if_neg hk] at h0 ⊢
        obtain ⟨i, e1, e2, e3⟩ := ih (s + 1) a h0
        refine ⟨i + 1, hone i e1, e2, fun h => ?_⟩
        rw [List.map_cons, List.getD_cons_succ, e3 h]
        unfold sizes
        rw [List.filter_cons, if_neg (by simpa using hk)]
theorem nm_of (ds : List Rf.Dc) (h4 : ∀ d ∈ ds, d.size ≤ 4) : Nm ds (fd ds 0 0) (sizes ds) := by
  refine ⟨fun w w' h0 h => fd_inj ds 0 0 w w' h0 h, ?_, ?_⟩
  · intro w w' h0 h0' h
    obtain ⟨i, e1, e2, _⟩ := fd_one ds 0 0 w h0
    obtain ⟨i', e1', e2', _⟩ := fd_one ds 0 0 w' h0'
    unfold idx at h
    rw [e1, e1'] at h
    have : i = i' := h
    subst this
    rw [e2] at e2'
    exact Option.some.inj e2'
  · intro w k h
    obtain ⟨i, e1, _, e3⟩ := fd_one ds 0 0 w (by rw [h]; simp)
    rw [h] at e3
    refine ⟨?_, ?_⟩
    · unfold size idx
      rw [e1]
      exact e3 rfl
    · rw [List.getD_eq_getElem?_getD]
      cases hx : (sizes ds)[k]? with
      | none => exact Nat.zero_le _
      | some z =>
        have hz := List.mem_of_getElem? hx
        unfold sizes at hz
        obtain ⟨d, hd, rfl⟩ := List.mem_map.1 hz
        exact h4 d (List.mem_filter.1 hd).1
end Go.Proofs.YtgddmpmcnjlcjaaGreatDoor.Tm
namespace Go.Proofs.YtgddmpmcnjlcjaaGreatDoor.Tm
open Lk (Wd wd RS isName lat)
set_option linter.unusedVariables false
def arrs (ds : List Rf.Dc) : Nat := (ds.filter fun d => d.kind = Rf.wArray).length
def scal (ds : List Rf.Dc) : Nat := (ds.filter fun d => ¬ d.kind = Rf.wArray).length
theorem fd_zero (ds : List Rf.Dc) (s a : Nat) (w : Wd) (h : (fd ds s a w).1 = 0) : fd ds s a w = (0, 0) := by
  induction ds generalizing s a with
  | nil => rfl
  | cons d ds ih =>
    unfold fd at h ⊢
    by_cases h1 : d.name = w
    · rw [if_pos h1] at h
      split at h
      · cases h
      · cases h
    · rw [if_neg h1] at h ⊢
      split
      · rename_i hk; rw [if_pos hk] at h; exact ih _ _ h
      · rename_i hk; rw [if_neg hk] at h; exact ih _ _ h
theorem fd_app (ds : List Rf.Dc) (d : Rf.Dc) (s a : Nat) (w : Wd) : fd (ds ++ [d]) s a w = if (fd ds s a w).1 ≠ 0 then fd ds s a w else if d.name = w then (if d.kind = Rf.wArray then (2, a + arrs ds) else (1, s + scal ds)) else (0, 0) := by
  induction ds generalizing s a with
  | nil =>
    show (if d.name = w then (if d.kind = Rf.wArray then (2, a) else (1, s)) else if d.kind = Rf.wArray then (0, 0) else (0, 0)) = _
    rw [if_neg (show ¬ (fd [] s a w).1 ≠ 0 from fun h => h rfl)]
    by_cases h1 : d.name = w
    · rw [if_pos h1, if_pos h1]; rfl
    · rw [if_neg h1, if_neg h1]; split <;> rfl
  | cons e ds ih =>
    show (if e.name = w then (if e.kind = Rf.wArray then (2, a) else (1, s)) else if e.kind = Rf.wArray then fd (ds ++ [d]) s (a + 1) w else fd (ds ++ [d]) (s + 1) a w) = _
    have e0 : fd (e :: ds) s a w = (if e.name = w then (if e.kind = Rf.wArray then (2, a) else (1, s)) else if e.kind = Rf.wArray then fd ds s (a + 1) w else fd ds (s + 1) a w) := rfl
    rw [e0]
    by_cases h1 : e.name = w
    · rw [if_pos h1, if_pos h1]
      by_cases hk : e.kind = Rf.wArray
      · rw [if_pos hk, if_pos (by simp)]
      · rw [if_neg hk, if_pos (by simp)]
    · rw [if_neg h1, if_neg h1]
      by_cases hk : e.kind = Rf.wArray
      · rw [if_pos hk, if_pos hk, ih]
        have ea : arrs (e :: ds) = arrs ds + 1 := by unfold arrs; rw [List.filter_cons, if_pos (by simpa using hk)]; rfl
        have es : scal (e :: ds) = scal ds := by unfold scal; rw [List.filter_cons, if_neg (by simpa using hk)]
        rw [ea, es, show a + 1 + arrs ds = a + (arrs ds + 1) by omega]
      · rw [if_neg hk, if_neg hk, ih]
        have ea : arrs (e :: ds) = arrs ds := by unfold arrs; rw [List.filter_cons, if_neg (by simpa using hk)]
        have es : scal (e :: ds) = scal ds + 1 := by unfold scal; rw [List.filter_cons, if_pos (by simpa using hk)]; rfl
        rw [ea, es, show s + 1 + scal ds = s + (scal ds + 1) by omega]
theorem lat_inj {w w' : Wd} (h : isName w = true) (h' : isName w' = true) (e : lat w = lat w') : w = w' := by
  unfold isName at h h'
  split at h
  · rename_i c
    split at h'
    · rename_i c'
      simp at h h'
      have e2 : c.toNat - 97 = c'.toNat - 97 := e
      have : c = c' := UInt8.toNat_inj.1 (by omega)
      rw [this]
    · cases h'
  · cases h
structure NR (r : RS) (ds : List Rf.Dc) : Prop where
  fnd : ∀ w, Lk.find r w = fd ds 0 0 w
  cel : r.cells = sizes ds
  sca : r.secret.length + r.vars = scal ds
  sec : r.secret = (ds.filter isIn).map fun d => d.kind == Rf.wSecret
  ss : ∀ d ∈ ds, d.size ≤ 4
theorem nr_nil : NR {} [] := ⟨fun w => (by unfold Lk.find; split <;> rfl), rfl, rfl, rfl, fun d h => (by cases h)⟩
theorem nr_find {r : RS} {ds : List Rf.Dc} (h : NR r ds) {w : Wd} (hw : isName w = true) (h0 : (r.letters (lat w)).1 = 0) (d : Rf.Dc) (hd : d.name = w) (v : Nat × Nat) (hv : v = if d.kind = Rf.wArray then (2, arrs ds) else (1, scal ds)) (r' : RS) (hl : r'.letters = Lk.upd r.letters (lat w) v) : ∀ x, Lk.find r' x = fd (ds ++ [d]) 0 0 x := by
  intro x
  rw [fd_app, ← h.fnd x, Nat.zero_add, Nat.zero_add, hd]
  unfold Lk.find
  by_cases hx : isName x = true
  · rw [if_pos hx, if_pos hx, hl]
    unfold Lk.upd
    by_cases e : w = x
    · subst e
      rw [if_pos rfl, if_neg (by omega), if_pos rfl, hv]
    · rw [if_neg (fun k => e (lat_inj hw hx k.symm))]
      by_cases hz : (r.letters (lat x)).1 = 0
      · rw [if_neg (by omega), if_neg e]
        have := h.fnd x
        unfold Lk.find at this
        rw [if_pos hx] at this
        rw [this]
        exact fd_zero _ _ _ _ (by rw [← this]; exact hz)
      · rw [if_pos hz]
  · rw [if_neg hx, if_neg hx, if_neg (by simp), if_neg (fun e => hx (by rw [← e]; exact hw))]
end Go.Proofs.YtgddmpmcnjlcjaaGreatDoor.Tm
namespace Go.Proofs.YtgddmpmcnjlcjaaGreatDoor.Tm
open Lk (Wd wd RS isName lat)
set_option linter.unusedVariables false
variable {r r' : RS} {ds : List Rf.Dc} {ws : List Wd}
theorem scal_app (ds : List Rf.Dc) (d : Rf.Dc) (h : ¬ d.kind = Rf.wArray) : scal (ds ++ [d]) = scal ds + 1 ∧ sizes (ds ++ [d]) = sizes ds := by
  unfold scal sizes
  rw [List.filter_append, List.filter_append, List.filter_cons, List.filter_cons, if_pos (by simpa using h), if_neg (by simpa using h)]
  simp
theorem arrs_app (ds : List Rf.Dc) (d : Rf.Dc) (h : d.kind = Rf.wArray) : scal (ds ++ [d]) = scal ds ∧ sizes (ds ++ [d]) = sizes ds ++ [d.size] := by
  unfold scal sizes
  rw [List.filter_append, List.filter_append, List.filter_cons, List.filter_cons, if_neg (by simpa using h), if_pos (by simpa using h)]
  simp
theorem arrs_len (ds : List Rf.Dc) : (sizes ds).length = arrs ds := by
  unfold sizes arrs
  rw [List.length_map]
theorem decl_out {w : Wd} {a b : Nat} (e : Lk.declare r w a b = some r') : isName w = true ∧ (r.letters (lat w)).1 = 0 ∧ r' = { r with letters := Lk.upd r.letters (lat w) (a, b) } := by
  unfold Lk.declare at e
  split at e
  · rename_i h; cases e; exact ⟨h.2.1, h.2.2, rfl⟩
  · cases e
theorem nr_input {b : Bool} (h : NR r ds) (e : Lk.takeInput r ws b = some r') : NR r' (ds ++ [⟨wd ws 1, if b = true then Rf.wSecret else Rf.wPublic, 0⟩]) := by
  unfold Lk.takeInput at e
  split at e
  · rename_i hc
    split at e
    · rename_i r2 hd
      cases e
      obtain ⟨h1, h2, rfl⟩ := decl_out hd
      have hk : ¬ (if b = true then Rf.wSecret else Rf.wPublic) = Rf.wArray := by cases b <;> decide
      have hin : isIn ⟨wd ws 1, if b = true then Rf.wSecret else Rf.wPublic, 0⟩ = true := by cases b <;> rfl
      obtain ⟨s1, s2⟩ := scal_app ds ⟨wd ws 1, if b = true then Rf.wSecret else Rf.wPublic, 0⟩ hk
      have hs := h.sca
      refine ⟨nr_find h h1 h2 _ rfl (1, r.secret.length) ?_ _ rfl, by rw [s2]; exact h.cel, ?_, ?_, ?_⟩
      · rw [if_neg hk, ← h.sca, hc.2.2]; rfl
      · rw [s1, ← h.sca]; simp; omega
      · rw [List.filter_append, List.filter_cons, if_pos hin, List.map_append, ← h.sec]
        cases b <;> rfl
      · intro d hdm
        rcases List.mem_append.1 hdm with hdm | hdm
        · exact h.ss d hdm
        · rw [List.mem_singleton.1 hdm]; exact Nat.zero_le _
    · cases e
  · cases e
theorem nr_var (h : NR r ds) (e : Lk.takeVar r ws = some r') : NR r' (ds ++ [⟨wd ws 1, Rf.wVar, 0⟩]) := by
  unfold Lk.takeVar at e
  split at e
  · rename_i hc
    split at e
    · rename_i r2 hd
      cases e
      obtain ⟨h1, h2, rfl⟩ := decl_out hd
      have hk : ¬ Rf.wVar = Rf.wArray := by decide
      have hin : isIn ⟨wd ws 1, Rf.wVar, 0⟩ = false := rfl
      obtain ⟨s1, s2⟩ := scal_app ds ⟨wd ws 1, Rf.wVar, 0⟩ hk
      refine ⟨nr_find h h1 h2 _ rfl (1, r.secret.length + r.vars) ?_ _ rfl, by rw [s2]; exact h.cel, ?_, ?_, ?_⟩
      · rw [if_neg hk, ← h.sca]
      · rw [s1, ← h.sca]; show r.secret.length + (r.vars + 1) = _; omega
      · rw [List.filter_append, List.filter_cons, if_neg (by rw [hin]; simp), List.map_append, ← h.sec]
        simp
      · intro d hdm
        rcases List.mem_append.1 hdm with hdm | hdm
        · exact h.ss d hdm
        · rw [List.mem_singleton.1 hdm]; exact Nat.zero_le _
    · cases e
  · cases e
theorem nr_array (h : NR r ds) (e : Lk.takeArray r ws = some r') : ∃ n, Lk.num? (wd ws 2) = some n ∧ NR r' (ds ++ [⟨wd ws 1, Rf.wArray, n⟩]) := by
  unfold Lk.takeArray at e
  split at e
  · rename_i hc
    split at e
    · rename_i n hn
      split at e
      · rename_i hle
        split at e
        · rename_i r2 hd
          cases e
          obtain ⟨h1, h2, rfl⟩ := decl_out hd
          obtain ⟨s1, s2⟩ := arrs_app ds ⟨wd ws 1, Rf.wArray, n⟩ rfl
          have hin : isIn ⟨wd ws 1, Rf.wArray, n⟩ = false := by
            show (Rf.wArray == Rf.wSecret || Rf.wArray == Rf.wPublic) = false
            decide
          refine ⟨n, hn, nr_find h h1 h2 _ rfl (2, r.cells.length) ?_ _ rfl, ?_, ?_, ?_, ?_⟩
          · rw [if_pos rfl, h.cel, arrs_len]
          · rw [s2, ← h.cel]
          · rw [s1, ← h.sca]
          · rw [List.filter_append, List.filter_cons, if_neg (by rw [hin]; simp), List.map_append, ← h.sec]
            simp
          · intro d hdm
            rcases List.mem_append.1 hdm with hdm | hdm
            · exact h.ss d hdm
            · rw [List.mem_singleton.1 hdm]; exact hle.2
        · cases e
      · cases e
    · cases e
  · cases e
structure Same (r r' : RS) : Prop where
  l : r'.letters = r.letters
  c : r'.cells = r.cells
  s : r'.secret = r.secret
  v : r'.vars = r.vars
theorem NR.same (h : NR r ds) (k : Same r r') : NR r' ds :=
  ⟨fun w => (by rw [← h.fnd w]; unfold Lk.find; rw [k.l]), by rw [k.c]; exact h.cel, by rw [k.s, k.v]; exact h.sca, by rw [k.s]; exact h.sec, h.ss⟩
end Go.Proofs.YtgddmpmcnjlcjaaGreatDoor.Tm
namespace Go.Proofs.YtgddmpmcnjlcjaaGreatDoor.Tm
open Lk (Wd wd RS isName lat)
set_option linter.unusedVariables false
variable {r r' : RS} {ws : List Wd}
theorem atom_eq (r : RS) : Lk.atom? r = atomOf (Lk.find r) := by
  funext w
  unfold Lk.atom? atomOf
  rfl
def Added (r r' : RS) (s : Lk.St) : Prop := r.stmts < 12 ∧ r' = { r with stmts := r.stmts + 1, body := r.body ++ [{ s with next := r.body.length + 1 }] }
theorem add_out {s : Lk.St} (e : Lk.add r s = some r') : Added r r' s := by
  unfold Lk.add at e
  split at e
  · rename_i h; cases e; exact ⟨h, rfl⟩
  · cases e
theorem Added.same {s : Lk.St} (h : Added r r' s) : Same r r' := by
  obtain ⟨_, rfl⟩ := h
  exact ⟨rfl, rfl, rfl, rfl⟩
theorem find_eq {w : Wd} {k : Nat} (h : (Lk.find r w).1 = k) : Lk.find r w = (k, (Lk.find r w).2) := by rw [← h]
theorem cst_out (e : Lk.takeOut r ws = some r') (h0 : wd ws 0 = Rf.wOut) : ∃ s, Added r r' s ∧ s.kind = 3 ∧ Cst (Lk.find r) s ws := by
  unfold Lk.takeOut at e
  split at e
  · split at e
    · rename_i x hx
      rw [atom_eq] at hx
      exact ⟨_, add_out e, rfl, ⟨fun _ => ⟨h0, hx⟩, fun h => (by rcases h with h | h <;> cases h), fun h => (by cases h), fun h => (by cases h), fun h => (by cases h)⟩⟩
    · cases e
  · cases e
theorem cst_load (e : Lk.takeLoad r ws = some r') (h0 : wd ws 0 = Rf.wLoad) : ∃ s, Added r r' s ∧ s.kind = 1 ∧ Cst (Lk.find r) s ws := by
  unfold Lk.takeLoad at e
  split at e
  · rename_i hc
    split at e
    · rename_i x hx
      rw [atom_eq] at hx
      exact ⟨_, add_out e, rfl, ⟨fun h => (by cases h), fun h => (by rcases h with h | h <;> cases h), fun _ => ⟨h0, find_eq hc.2.1, find_eq hc.2.2, hx⟩, fun h => (by cases h), fun h => (by cases h)⟩⟩
    · cases e
  · cases e
theorem cst_store (e : Lk.takeStore r ws = some r') (h0 : wd ws 0 = Rf.wStore) : ∃ s, Added r r' s ∧ s.kind = 2 ∧ Cst (Lk.find r) s ws := by
  unfold Lk.takeStore at e
  split at e
  · rename_i hc
    split at e
    · rename_i x y hx hy
      rw [atom_eq] at hx hy
      exact ⟨_, add_out e, rfl, ⟨fun h => (by cases h), fun h => (by rcases h with h | h <;> cases h), fun h => (by cases h), fun _ => ⟨h0, find_eq hc.2, hx, hy⟩, fun h => (by cases h)⟩⟩
    · cases e
  · cases e
theorem cst_assign (e : Lk.takeAssign r ws = some r') (h1 : wd ws 0 ≠ Rf.wOut) (h2 : wd ws 0 ≠ Rf.wLoad) (h3 : wd ws 0 ≠ Rf.wStore) : ∃ s, Added r r' s ∧ s.kind = 0 ∧ Cst (Lk.find r) s ws := by
  unfold Lk.takeAssign at e
  split at e
  · rename_i hc
    split at e
    · rename_i x hx
      rw [atom_eq] at hx
      split at e
      · rename_i hl
        exact ⟨_, add_out e, rfl, ⟨fun h => (by cases h), fun h => (by rcases h with h | h <;> cases h), fun h => (by cases h), fun h => (by cases h), fun _ => ⟨h1, h2, h3, find_eq hc.2.2, hx, .inl ⟨hl, rfl⟩⟩⟩⟩
      · rename_i hl
        split at e
        · rename_i o y ho hy
          rw [atom_eq] at hy
          exact ⟨_, add_out e, rfl, ⟨fun h => (by cases h), fun h => (by rcases h with h | h <;> cases h), fun h => (by cases h), fun h => (by cases h), fun _ => ⟨h1, h2, h3, find_eq hc.2.2, hx, .inr ⟨hc.1.resolve_left hl, ho, hy⟩⟩⟩⟩
        · cases e
    · cases e
  · cases e
theorem cst_branch {k : Nat} (hk : k = 4 ∨ k = 5) (e : Lk.takeBranch r ws k = some r') : ∃ s q, Added r q s ∧ r' = { q with opn := Lk.upd q.opn q.depth (r.body.length, 0), depth := q.depth + 1 } ∧ s.kind = k ∧ Cst (Lk.find r) s ws := by
  unfold Lk.takeBranch at e
  split at e
  · split at e
    · rename_i x hx
      rw [atom_eq] at hx
      split at e
      · rename_i q hq
        cases e
        refine ⟨_, q, add_out hq, rfl, rfl, ⟨fun h => ?_, fun _ => hx, fun h => ?_, fun h => ?_, fun h => ?_⟩⟩
        · have h' : k = 3 := h; omega
        · have h' : k = 1 := h; omega
        · have h' : k = 2 := h; omega
        · have h' : k = 0 := h; omega
      · cases e
    · cases e
  · cases e
end Go.Proofs.YtgddmpmcnjlcjaaGreatDoor.Tm
namespace Go.Proofs.YtgddmpmcnjlcjaaGreatDoor.Lk
set_option linter.unusedVariables false
def glue (c : UInt8) : List Wd → Wd
  | [] => []
  | [x] => x
  | x :: y :: r => x ++ c :: glue c (y :: r)
theorem glue_cut (c : UInt8) (l : Wd) : glue c (cut c l) = l := by
  induction l with
  | nil => rfl
  | cons x xs ih =>
    have hne := cut_ne c xs
    unfold cut
    split
    · rename_i hx
      cases hc : cut c xs with
      | nil => exact absurd hc hne
      | cons y ys =>
        rw [hc] at ih
        show [] ++ c :: glue c (y :: ys) = x :: xs
        rw [ih, hx]; rfl
    · cases hc : cut c xs with
      | nil => exact absurd hc hne
      | cons y ys =>
        rw [hc] at ih
        cases ys with
        | nil =>
          have ih' : y = xs := ih
          show x :: y = x :: xs
          rw [ih']
        | cons z zs =>
          have ih' : y ++ c :: glue c (z :: zs) = xs := ih
          show (x :: y) ++ c :: glue c (z :: zs) = x :: xs
          rw [List.cons_append, ih']
end Go.Proofs.YtgddmpmcnjlcjaaGreatDoor.Lk
namespace Go.Proofs.YtgddmpmcnjlcjaaGreatDoor.Tm
open Lk (Wd wd RS isName lat)
set_option linter.unusedVariables false
def goN (L : List Wd) : Nat → Nat → RS → Option RS
  | _, 0, r => some r
  | a, n + 1, r => match Lk.take r (Lk.cut 32 (L.getD a [])) with
    | some r1 => goN L (a + 1) n r1
    | none => none
theorem lines_go (L : List Wd) (n : Nat) (a k : Nat) (r : RS) (ha : a + n + 1 = L.length) (h : (Lk.lines r k (L.drop a)).2 = 0) : goN L a n r = some (Lk.lines r k (L.drop a)).1 ∧ (Lk.lines r k (L.drop a)).1.depth = 0 := by
  induction n generalizing a k r with
  | zero =>
    have e : L.drop a = [L[a]] := by rw [List.drop_eq_getElem_cons (by omega), List.drop_of_length_le (by omega)]
    rw [e] at h ⊢
    unfold Lk.lines at h ⊢
    split at h
    · rename_i hc; rw [if_pos hc]; exact ⟨rfl, hc.2⟩
    · simp at h
  | succ n ih =>
    have e : L.drop a = L[a] :: L[a + 1] :: L.drop (a + 2) := by rw [List.drop_eq_getElem_cons (by omega), List.drop_eq_getElem_cons (by omega)]
    have e2 : L.drop (a + 1) = L[a + 1] :: L.drop (a + 2) := List.drop_eq_getElem_cons (by omega)
    have eg : L.getD a [] = L[a] := by rw [List.getD_eq_getElem?_getD, List.getElem?_eq_getElem (by omega)]; rfl
    rw [e] at h ⊢
    cases ht : Lk.take r (Lk.cut 32 L[a]) with
    | none =>
      have : Lk.lines r k (L[a] :: L[a + 1] :: L.drop (a + 2)) = (r, k + 1) := by conv => lhs; unfold Lk.lines; rw [ht]
      rw [this] at h
      simp at h
    | some r1 =>
      have el : Lk.lines r k (L[a] :: L[a + 1] :: L.drop (a + 2)) = Lk.lines r1 (k + 1) (L.drop (a + 1)) := by conv => lhs; unfold Lk.lines; rw [ht, ← e2]
      rw [el] at h ⊢
      have := ih (a + 1) (k + 1) r1 (by omega) h
      refine ⟨?_, this.2⟩
      show (match Lk.take r (Lk.cut 32 (L.getD a [])) with | some r1 => goN L (a + 1) n r1 | none => none) = _
      rw [eg, ht]
      exact this.1
theorem go_step {L : List Wd} {a n : Nat} {r rf : RS} (h : goN L a (n + 1) r = some rf) : ∃ r1, Lk.take r (Lk.cut 32 (L.getD a [])) = some r1 ∧ goN L (a + 1) n r1 = some rf := by
  unfold goN at h
  cases ht : Lk.take r (Lk.cut 32 (L.getD a [])) with
  | none => rw [ht] at h; cases h
  | some r1 => rw [ht] at h; exact ⟨r1, rfl, h⟩
theorem one_word {l x : Wd} (h : (Lk.cut 32 l).length = 1) (hx : wd (Lk.cut 32 l) 0 = x) : l = x := by
  have hg := Lk.glue_cut 32 l
  cases hc : Lk.cut 32 l with
  | nil => rw [hc] at h; cases h
  | cons y ys =>
    cases ys with
    | cons z zs => rw [hc] at h; simp at h
    | nil =>
      rw [hc] at hg hx
      exact hg.symm.trans hx
end Go.Proofs.YtgddmpmcnjlcjaaGreatDoor.Tm
namespace Go.Proofs.YtgddmpmcnjlcjaaGreatDoor.Tm
open Lk (Wd wd RS isName lat cut)
open Rf (Rs blk isDecl declare wElse wEnd wIf wWhile fits)
set_option linter.unusedVariables false
inductive Way (L : List Wd) (f depth : Nat) (s : Rs) (out out2 : List Rf.Tr) (s2 : Rs) (w : List Wd) : Prop
  | decl (ds : List Rf.Dc) (h1 : isDecl (wd w 0) = true) (h2 : declare s.ds s.bdy w = some ds) (h : blk L f depth { s with ds := ds, at_ := s.at_ + 1 } out = (true, out2, s2))
  | stop (h1 : isDecl (wd w 0) = false) (h2 : wd w 0 = wElse ∨ wd w 0 = wEnd) (h3 : w.length = 1 ∧ 0 < depth) (h4 : out2 = out) (h5 : s2 = { s with bdy := true })
  | one (b : List Rf.Tr) (sb : Rs) (h1 : isDecl (wd w 0) = false) (h2 : wd w 0 = wIf ∨ wd w 0 = wWhile) (h3 : w.length = 2) (h : blk L f (depth + 1) { s with bdy := true, cnt := s.cnt + 1, at_ := s.at_ + 1 } [] = (true, b, sb)) (h4 : L.getD sb.at_ [] ≠ wElse) (h5 : blk L f depth { sb with at_ := sb.at_ + 1 } (out ++ [.node w b []]) = (true, out2, s2))
  | two (b o : List Rf.Tr) (sb so : Rs) (h1 : isDecl (wd w 0) = false) (h2 : wd w 0 = wIf) (h3 : w.length = 2) (h : blk L f (depth + 1) { s with bdy := true, cnt := s.cnt + 1, at_ := s.at_ + 1 } [] = (true, b, sb)) (h4 : L.getD sb.at_ [] = wElse) (h5 : blk L f (depth + 1) { sb with at_ := sb.at_ + 1 } [] = (true, o, so)) (h6 : L.getD so.at_ [] ≠ wElse) (h7 : blk L f depth { so with at_ := so.at_ + 1 } (out ++ [.node w b o]) = (true, out2, s2))
  | plain (h1 : isDecl (wd w 0) = false) (h2 : ¬ (wd w 0 = wElse ∨ wd w 0 = wEnd)) (h3 : ¬ (wd w 0 = wIf ∨ wd w 0 = wWhile)) (h4 : fits s.ds w = true) (h : blk L f depth { s with bdy := true, cnt := s.cnt + 1, at_ := s.at_ + 1 } (out ++ [.node w [] []]) = (true, out2, s2))
theorem blk_way {L : List Wd} {f depth : Nat} {s : Rs} {out out2 : List Rf.Tr} {s2 : Rs} (h : blk L (f + 1) depth s out = (true, out2, s2)) (hl : s.at_ + 1 < L.length) : Way L f depth s out out2 s2 (cut 32 (L.getD s.at_ [])) := by
  unfold blk at h
  rw [if_pos hl] at h
  generalize cut 32 (L.getD s.at_ []) = w at h
  simp only at h
  cases hd : isDecl (wd w 0) with
  | true =>
    rw [if_pos hd] at h
    cases hx : declare s.ds s.bdy w with
    | none => rw [hx] at h; simp at h
    | some ds => rw [hx] at h; exact .decl ds hd hx h
  | false =>
    rw [if_neg (by rw [hd]; simp)] at h
    by_cases he : wd w 0 = wElse ∨ wd w 0 = wEnd
    · rw [if_pos he] at h
      simp only [Prod.mk.injEq, decide_eq_true_eq] at h
      exact .stop hd he h.1 h.2.1.symm h.2.2.symm
    · rw [if_neg he] at h
      by_cases hc : s.cnt = 12
      · rw [if_pos hc] at h; simp at h
      · rw [if_neg hc] at h
        by_cases hb : wd w 0 = wIf ∨ wd w 0 = wWhile
        · rw [if_pos hb] at h
          by_cases hq : w.length = 2 ∧ depth ≠ 4 ∧ Rf.atom s.ds (wd w 1) = true
          · rw [if_pos hq] at h
            rcases hx : blk L f (depth + 1) { s with bdy := true, cnt := s.cnt + 1, at_ := s.at_ + 1 } [] with ⟨ok, b, sb⟩
            rw [hx] at h
            cases ok with
            | false => simp at h
            | true =>
              simp only at h
              by_cases hel : L.getD sb.at_ [] = wElse
              · rw [if_pos hel] at h
                by_cases hif : wd w 0 = wIf
                · rw [if_pos hif] at h
                  rcases hy : blk L f (depth + 1) { sb with at_ := sb.at_ + 1 } [] with ⟨ok2, o, so⟩
                  rw [hy] at h
                  cases ok2 with
                  | false => simp at h
                  | true =>
                    simp only at h
                    by_cases hel2 : L.getD so.at_ [] = wElse
                    · rw [if_pos hel2] at h; simp at h
                    · rw [if_neg hel2] at h
                      exact .two b o sb so hd hif hq.1 hx hel hy hel2 h
                · rw [if_neg hif] at h; simp at h
              · rw [if_neg hel] at h
                exact .one b sb hd hb hq.1 hx hel h
          · rw [if_neg hq] at h; simp at h
        · rw [if_neg hb] at h
          by_cases hf : fits s.ds w = true
          · rw [if_pos hf] at h
            exact .plain hd he hb hf h
          · rw [if_neg hf] at h; simp at h
theorem blk_end {L : List Wd} {f depth : Nat} {s : Rs} {out out2 : List Rf.Tr} {s2 : Rs} (h : blk L f depth s out = (true, out2, s2)) (hl : f = 0 ∨ ¬ s.at_ + 1 < L.length) : depth = 0 ∧ out2 = out ∧ s2 = s := by
  cases f with
  | zero =>
    unfold blk at h
    simp only [Prod.mk.injEq, decide_eq_true_eq] at h
    exact ⟨h.1, h.2.1.symm, h.2.2.symm⟩
  | succ f =>
    unfold blk at h
    rw [if_neg (hl.resolve_left (by omega))] at h
    simp only [Prod.mk.injEq, decide_eq_true_eq] at h
    exact ⟨h.1, h.2.1.symm, h.2.2.symm⟩
theorem blk_mono {L : List Wd} {f : Nat} : ∀ {depth : Nat} {s : Rs} {out out2 : List Rf.Tr} {s2 : Rs}, blk L f depth s out = (true, out2, s2) → s.at_ ≤ s2.at_ := by
  induction f with
  | zero => intro depth s out out2 s2 h; rw [(blk_end h (.inl rfl)).2.2]; exact Nat.le_refl _
  | succ f ih =>
    intro depth s out out2 s2 h
    by_cases hl : s.at_ + 1 < L.length
    · cases blk_way h hl with
      | decl ds h1 h2 h => have := ih h; simp at this; omega
      | stop h1 h2 h3 h4 h5 => rw [h5]; exact Nat.le_refl _
      | one b sb h1 h2 h3 hb h4 h5 =>
        have a := ih hb
        have c := ih h5
        simp at a c
        omega
      | two b o sb so h1 h2 h3 hb h4 h5 h6 h7 =>
        have a := ih hb
        have c := ih h5
        have e := ih h7
        simp at a c e
        omega
      | plain h1 h2 h3 h4 h => have := ih h; simp at this; omega
    · rw [(blk_end h (.inr hl)).2.2]; exact Nat.le_refl _
theorem blk_stop {L : List Wd} {f depth : Nat} {s : Rs} {out out2 : List Rf.Tr} {s2 : Rs} (h : blk L f (depth + 1) s out = (true, out2, s2)) : s2.at_ + 1 < L.length ∧ (L.getD s2.at_ [] = wElse ∨ L.getD s2.at_ [] = wEnd) := by
  induction f generalizing s out with
  | zero => have := (blk_end h (.inl rfl)).1; omega
  | succ f ih =>
    by_cases hl : s.at_ + 1 < L.length
    · cases blk_way h hl with
      | decl ds h1 h2 h => exact ih h
      | stop h1 h2 h3 h4 h5 =>
        subst h5
        exact ⟨hl, h2.imp (one_word h3.1) (one_word h3.1)⟩
      | one b sb h1 h2 h3 hb h4 h5 => exact ih h5
      | two b o sb so h1 h2 h3 hb h4 h5 h6 h7 => exact ih h7
      | plain h1 h2 h3 h4 h => exact ih h
    · have := (blk_end h (.inr hl)).1; omega
end Go.Proofs.YtgddmpmcnjlcjaaGreatDoor.Tm
namespace Go.Proofs.YtgddmpmcnjlcjaaGreatDoor.Tm
open Lk (Wd wd RS isName lat cut)
open Rf (Rs blk isDecl declare wElse wEnd wIf wWhile wSecret wPublic wVar wArray wOut wLoad wStore)
set_option linter.unusedVariables false
variable {r r1 : RS} {ws : List Wd} {ds ds1 : List Rf.Dc}
theorem tk_secret (h0 : ws.length ≠ 0) (h : wd ws 0 = wSecret) : Lk.take r ws = Lk.takeInput r ws true := by
  unfold Lk.take
  rw [if_neg h0, h, if_pos (by decide)]
theorem tk_public (h0 : ws.length ≠ 0) (h : wd ws 0 = wPublic) : Lk.take r ws = Lk.takeInput r ws false := by
  unfold Lk.take
  rw [if_neg h0, h, if_neg (by decide), if_pos (by decide)]
theorem tk_var (h0 : ws.length ≠ 0) (h : wd ws 0 = wVar) : Lk.take r ws = Lk.takeVar r ws := by
  unfold Lk.take
  rw [if_neg h0, h, if_neg (by decide), if_neg (by decide), if_pos (by decide)]
theorem tk_array (h0 : ws.length ≠ 0) (h : wd ws 0 = wArray) : Lk.take r ws = Lk.takeArray r ws := by
  unfold Lk.take
  rw [if_neg h0, h, if_neg (by decide), if_neg (by decide), if_neg (by decide), if_pos (by decide)]
theorem tk_load (h0 : ws.length ≠ 0) (h : wd ws 0 = wLoad) : Lk.take r ws = Lk.takeLoad r ws := by
  unfold Lk.take
  rw [if_neg h0, h, if_neg (by decide), if_neg (by decide), if_neg (by decide), if_neg (by decide), if_pos (by decide)]
theorem tk_store (h0 : ws.length ≠ 0) (h : wd ws 0 = wStore) : Lk.take r ws = Lk.takeStore r ws := by
  unfold Lk.take
  rw [if_neg h0, h, if_neg (by decide), if_neg (by decide), if_neg (by decide), if_neg (by decide), if_neg (by decide), if_pos (by decide)]
theorem tk_out (h0 : ws.length ≠ 0) (h : wd ws 0 = wOut) : Lk.take r ws = Lk.takeOut r ws := by
  unfold Lk.take
  rw [if_neg h0, h, if_neg (by decide), if_neg (by decide), if_neg (by decide), if_neg (by decide), if_neg (by decide), if_neg (by decide), if_pos (by decide)]
theorem tk_if (h0 : ws.length ≠ 0) (h : wd ws 0 = wIf) : Lk.take r ws = Lk.takeBranch r ws 4 := by
  unfold Lk.take
  rw [if_neg h0, h, if_neg (by decide), if_neg (by decide), if_neg (by decide), if_neg (by decide), if_neg (by decide), if_neg (by decide), if_neg (by decide), if_pos (by decide)]
theorem tk_while (h0 : ws.length ≠ 0) (h : wd ws 0 = wWhile) : Lk.take r ws = Lk.takeBranch r ws 5 := by
  unfold Lk.take
  rw [if_neg h0, h, if_neg (by decide), if_neg (by decide), if_neg (by decide), if_neg (by decide), if_neg (by decide), if_neg (by decide), if_neg (by decide), if_neg (by decide), if_pos (by decide)]
theorem tk_else (h0 : ws.length ≠ 0) (h : wd ws 0 = wElse) : Lk.take r ws = Lk.takeElse r ws := by
  unfold Lk.take
  rw [if_neg h0, h, if_neg (by decide), if_neg (by decide), if_neg (by decide), if_neg (by decide), if_neg (by decide), if_neg (by decide), if_neg (by decide), if_neg (by decide), if_neg (by decide), if_pos (by decide)]
theorem tk_end (h0 : ws.length ≠ 0) (h : wd ws 0 = wEnd) : Lk.take r ws = Lk.takeEnd r ws := by
  unfold Lk.take
  rw [if_neg h0, h, if_neg (by decide), if_neg (by decide), if_neg (by decide), if_neg (by decide), if_neg (by decide), if_neg (by decide), if_neg (by decide), if_neg (by decide), if_neg (by decide), if_neg (by decide), if_pos (by decide)]
theorem cut_nz (l : Wd) : (cut 32 l).length ≠ 0 := fun h => Lk.cut_ne 32 l (List.eq_nil_of_length_eq_zero h)
theorem beqn {a b : Wd} (h : ¬ a = b) : ¬ (a == b) = true := by simpa using h
theorem isDecl_cases {w : Wd} (h : isDecl w = true) : w = wSecret ∨ w = wPublic ∨ w = wVar ∨ w = wArray := by
  unfold isDecl at h
  simpa [or_assoc] using h
theorem isDecl_none {w : Wd} (h : isDecl w = false) : ¬ w = wSecret ∧ ¬ w = wPublic ∧ ¬ w = wVar ∧ ¬ w = wArray := by
  unfold isDecl at h
  simp at h
  exact ⟨h.1.1.1, h.1.1.2, h.1.2, h.2⟩
theorem plain_add (h0 : ws.length ≠ 0) (e : Lk.take r ws = some r1) (hd : isDecl (wd ws 0) = false) (h1 : ¬ (wd ws 0 = wElse ∨ wd ws 0 = wEnd)) (h2 : ¬ (wd ws 0 = wIf ∨ wd ws 0 = wWhile)) : ∃ s, Added r r1 s ∧ s.kind < 4 ∧ Cst (Lk.find r) s ws := by
  obtain ⟨d1, d2, d3, d4⟩ := isDecl_none hd
  by_cases a1 : wd ws 0 = wOut
  · rw [tk_out h0 a1] at e
    obtain ⟨s, x, y, z⟩ := cst_out e a1
    exact ⟨s, x, by omega, z⟩
  by_cases a2 : wd ws 0 = wLoad
  · rw [tk_load h0 a2] at e
    obtain ⟨s, x, y, z⟩ := cst_load e a2
    exact ⟨s, x, by omega, z⟩
  by_cases a3 : wd ws 0 = wStore
  · rw [tk_store h0 a3] at e
    obtain ⟨s, x, y, z⟩ := cst_store e a3
    exact ⟨s, x, by omega, z⟩
  have e2 : Lk.take r ws = Lk.takeAssign r ws := by
    unfold Lk.take
    rw [if_neg h0, if_neg (show ¬ (wd ws 0 == [115, 101, 99, 114, 101, 116]) = true from beqn d1), if_neg (show ¬ (wd ws 0 == [112, 117, 98, 108, 105, 99]) = true from beqn d2), if_neg (show ¬ (wd ws 0 == [118, 97, 114]) = true from beqn d3), if_neg (show ¬ (wd ws 0 == [97, 114, 114, 97, 121]) = true from beqn d4), if_neg (show ¬ (wd ws 0 == [108, 111, 97, 100]) = true from beqn a2), if_neg (show ¬ (wd ws 0 == [115, 116, 111, 114, 101]) = true from beqn a3), if_neg (show ¬ (wd ws 0 == [111, 117, 116]) = true from beqn a1), if_neg (show ¬ (wd ws 0 == [105, 102]) = true from beqn (fun k => h2 (.inl k))), if_neg (show ¬ (wd ws 0 == [119, 104, 105, 108, 101]) = true from beqn (fun k => h2 (.inr k))), if_neg (show ¬ (wd ws 0 == [101, 108, 115, 101]) = true from beqn (fun k => h1 (.inl k))), if_neg (show ¬ (wd ws 0 == [101, 110, 100]) = true from beqn (fun k => h1 (.inr k)))]
  rw [e2] at e
  obtain ⟨s, x, y, z⟩ := cst_assign e a1 a2 a3
  exact ⟨s, x, by omega, z⟩
end Go.Proofs.YtgddmpmcnjlcjaaGreatDoor.Tm
