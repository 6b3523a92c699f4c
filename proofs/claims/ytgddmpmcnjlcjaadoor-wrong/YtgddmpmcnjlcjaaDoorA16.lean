import Derived.Test.YtgddmpmcnjlcjaaDoorA15
namespace Go.Proofs.YtgddmpmcnjlcjaaDoor
open Go.RowKit
set_option linter.unusedVariables false

def wi (n m : Int) : Bool := decide (0 ≤ n ∧ n ≤ m)
theorem wi_true {n m : Int} (h : wi n m = true) : 0 ≤ n ∧ n ≤ m := by simpa [wi] using h
theorem wi_false {n m : Int} (h : wi n m = false) : ¬ (0 ≤ n ∧ n ≤ m) := by simpa [wi] using h

set_option maxHeartbeats 400000 in
theorem within_any (n m : Int) (w : World) :
    Calls Tryd.prog 23 #[.int .i64 n, .int .i64 m] w fun e w' => e = .returned (.bool (wi n m)) ∧ w' = w := by
  by_cases h0 : 0 ≤ n
  · go_enter Tryd.func23, Tryd.ntmps23
    go_wp2
    go_ret
    exact ⟨ret_bool (by simp [wi, h0]), rfl⟩
  · have h1 : n < 0 := by omega
    go_enter Tryd.func23, Tryd.ntmps23
    go_wp2
    go_ret
    exact ⟨ret_bool (by unfold wi; rw [decide_eq_false (by omega)]), rfl⟩

theorem newAt2 (w : World) (o : Obj) (cs : Array Value) (t : TypeId) (i : Nat) (u : Value) (h : cs[i]? = some u) : ((w.alloc o).alloc (.cells cs t)).cell? ⟨w.heap.size + 1, i, none⟩ = some u := by
  have := newAt (w.alloc o) cs t i u h
  simpa using this
theorem froz_new (w : World) (cs : Array Value) (t : TypeId) (i : Nat) : (w.alloc (.cells cs t)).frozen? ⟨w.heap.size, i, none⟩ = false := by
  unfold World.frozen?
  simp only []
  rw [heap_alloc_new]
  simp
theorem froz_new2 (w : World) (o : Obj) (cs : Array Value) (t : TypeId) (i : Nat) : ((w.alloc o).alloc (.cells cs t)).frozen? ⟨w.heap.size + 1, i, none⟩ = false := by
  have := froz_new (w.alloc o) cs t i
  rw [show (w.alloc o).heap.size = w.heap.size + 1 by simp] at this
  exact this
theorem froz_later {w wx : World} {a : Addr} (hb : Below w.heap.size w wx) (ha : a.block < w.heap.size) (h : w.frozen? a = false) : wx.frozen? a = false := (hb.frozen ha).trans h
theorem froz_alloc {w : World} {a : Addr} (ha : a.block < w.heap.size) (h : w.frozen? a = false) (o : Obj) : (w.alloc o).frozen? a = false := froz_later ((Below.refl _ _).alloc (Nat.le_refl _) o) ha h

end Go.Proofs.YtgddmpmcnjlcjaaDoor

namespace Go.Proofs.YtgddmpmcnjlcjaaDoor
open Go.RowKit
set_option linter.unusedVariables false

/-- A report of which only the line is told. -/
abbrev repLine (n : Int) : Value := .agg #[.int .i64 n, .slice none 0 0, .slice none 0 0, .int .i64 0, .int .i64 0, .string ⟨#[]⟩, .string ⟨#[]⟩, .int .i64 0, .int .i64 0]

/-- The report's box, untouched behind a call. -/
theorem rep_facts {w w1 : World} {o1 : Obj} (hb : Below ((w.alloc o1).alloc (.cells #[.int .i64 0, .slice none 0 0, .slice none 0 0, .int .i64 0, .int .i64 0, .string ⟨#[]⟩, .string ⟨#[]⟩, .int .i64 0, .int .i64 0] 26)).heap.size ((w.alloc o1).alloc (.cells #[.int .i64 0, .slice none 0 0, .slice none 0 0, .int .i64 0, .int .i64 0, .string ⟨#[]⟩, .string ⟨#[]⟩, .int .i64 0, .int .i64 0] 26)) w1) :
    (∀ o, (w1.alloc o).cell? ⟨w.heap.size + 1, 0, none⟩ = some (.int .i64 0)) ∧
    (∀ o, (w1.alloc o).cell? ⟨w.heap.size + 1, 1, none⟩ = some (.slice none 0 0)) ∧
    (∀ o, (w1.alloc o).cell? ⟨w.heap.size + 1, 2, none⟩ = some (.slice none 0 0)) ∧
    (∀ o, (w1.alloc o).cell? ⟨w.heap.size + 1, 3, none⟩ = some (.int .i64 0)) ∧
    (∀ o, (w1.alloc o).cell? ⟨w.heap.size + 1, 4, none⟩ = some (.int .i64 0)) ∧
    (∀ o, (w1.alloc o).cell? ⟨w.heap.size + 1, 5, none⟩ = some (.string ⟨#[]⟩)) ∧
    (∀ o, (w1.alloc o).cell? ⟨w.heap.size + 1, 6, none⟩ = some (.string ⟨#[]⟩)) ∧
    (∀ o, (w1.alloc o).cell? ⟨w.heap.size + 1, 7, none⟩ = some (.int .i64 0)) ∧
    (∀ o, (w1.alloc o).cell? ⟨w.heap.size + 1, 8, none⟩ = some (.int .i64 0)) ∧
    (∀ i o, (w1.alloc o).frozen? ⟨w.heap.size + 1, i, none⟩ = false) := by
  have z := hb.size
  simp at z
  refine ⟨fun o => cell_alloc (cell_later hb (newAt2 w o1 _ _ 0 _ rfl)) o, fun o => cell_alloc (cell_later hb (newAt2 w o1 _ _ 1 _ rfl)) o, fun o => cell_alloc (cell_later hb (newAt2 w o1 _ _ 2 _ rfl)) o, fun o => cell_alloc (cell_later hb (newAt2 w o1 _ _ 3 _ rfl)) o, fun o => cell_alloc (cell_later hb (newAt2 w o1 _ _ 4 _ rfl)) o, fun o => cell_alloc (cell_later hb (newAt2 w o1 _ _ 5 _ rfl)) o, fun o => cell_alloc (cell_later hb (newAt2 w o1 _ _ 6 _ rfl)) o, fun o => cell_alloc (cell_later hb (newAt2 w o1 _ _ 7 _ rfl)) o, fun o => cell_alloc (cell_later hb (newAt2 w o1 _ _ 8 _ rfl)) o, fun i o => froz_alloc (by show w.heap.size + 1 < w1.heap.size; omega) (froz_later hb (by simp) (froz_new2 w o1 _ _ i)) o⟩

set_option maxRecDepth 100000 in
set_option maxHeartbeats 1000000 in
theorem check_bounds (s : ByteArray) (k n c : Int) (w : World) (h : wi k 10 = false ∨ wi n 1048576 = false ∨ wi c 1048576 = false) :
    Calls Tryd.prog 11 #[.string s, .int .i64 k, .agg #[.int .i64 n, .int .i64 c]] w fun e w' => e = .returned (.tuple #[.int .i64 0, repLine 0]) ∧ Below w.heap.size w w' := by
  cases h1 : wi k 10 with
  | false =>
    go_enter Tryd.func11, Tryd.ntmps11
    go_wp2_with (first | (go_at_call 23; refine (within_any _ _ _).mono ?_; rintro e w' ⟨rfl, rfl⟩))
    exact bodyPost_ret (v := .tuple #[.int .i64 0, repLine 0]) (by simp [results, Tryd.results11, go_sem]) rfl ⟨rfl, ((Below.refl _ _).alloc (Nat.le_refl _) _).alloc (by simp) _⟩
  | true =>
    cases h2 : wi n 1048576 with
    | false =>
      go_enter Tryd.func11, Tryd.ntmps11
      go_wp2_with (first | (go_at_call 23; refine (within_any _ _ _).mono ?_; rintro e w' ⟨rfl, rfl⟩))
      exact bodyPost_ret (v := .tuple #[.int .i64 0, repLine 0]) (by simp [results, Tryd.results11, go_sem]) rfl ⟨rfl, ((Below.refl _ _).alloc (Nat.le_refl _) _).alloc (by simp) _⟩
    | true =>
      cases h3 : wi c 1048576 with
      | false =>
        go_enter Tryd.func11, Tryd.ntmps11
        go_wp2_with (first | (go_at_call 23; refine (within_any _ _ _).mono ?_; rintro e w' ⟨rfl, rfl⟩))
        exact bodyPost_ret (v := .tuple #[.int .i64 0, repLine 0]) (by simp [results, Tryd.results11, go_sem]) rfl ⟨rfl, ((Below.refl _ _).alloc (Nat.le_refl _) _).alloc (by simp) _⟩
      | true => simp [h1, h2, h3] at h

set_option maxRecDepth 100000 in
set_option maxHeartbeats 1000000 in
theorem check_line (s : ByteArray) (k n c : Int) (w : World) (h1 : wi k 10 = true) (h2 : wi n 1048576 = true) (h3 : wi c 1048576 = true) (l : Nat) (hl : (Lk.read s.toList).2 = l) (hl0 : 0 < l) :
    Calls Tryd.prog 11 #[.string s, .int .i64 k, .agg #[.int .i64 n, .int .i64 c]] w fun e w' => e = .returned (.tuple #[.int .i64 0, repLine l]) ∧ Below w.heap.size w w' := by
  have HL := hid hl
  have hlI : ((l : Int) != 0) = true := by simp; omega
  clear hl
  go_enter Tryd.func11, Tryd.ntmps11
  go_wp2_with (first
    | (go_at_call 23; refine (within_any _ _ _).mono ?_; rintro e w' ⟨rfl, rfl⟩)
    | (go_at_call 24; refine (read_any _ _).mono ?_; rintro e w1 R; have he := R.bad (by rw [HL.out]; omega); subst he; rw [HL.out]; have hb := R.bel; have z1 := hb.size; simp at z1; obtain ⟨c0, c1, c2, c3, c4, c5, c6, c7, c8, cf⟩ := rep_facts hb; have HB := hid hb; clear R hb))
  refine bodyPost_ret (v := .tuple #[.int .i64 0, repLine l]) (by simp [results, Tryd.results11, go_sem, c0, c1, c2, c3, c4, c5, c6, c7, c8]) rfl ⟨rfl, ?_⟩
  exact ((((((((((((((Below.refl _ _).alloc (Nat.le_refl _) _).alloc (by simp) _).trans (HB.out.mono (by simp; omega))).alloc (by omega) _).setCell (Nat.le_succ _) _).setCell (Nat.le_succ _) _).setCell (Nat.le_succ _) _).setCell (Nat.le_succ _) _).setCell (Nat.le_succ _) _).setCell (Nat.le_succ _) _).setCell (Nat.le_succ _) _).setCell (Nat.le_succ _) _).setCell (Nat.le_succ _) _)

end Go.Proofs.YtgddmpmcnjlcjaaDoor
