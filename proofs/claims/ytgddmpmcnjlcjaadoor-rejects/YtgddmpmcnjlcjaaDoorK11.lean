import Derived.Test.YtgddmpmcnjlcjaaDoorK10
import Derived.Test.YtgddmpmcnjlcjaaDoorB36
namespace Go.Proofs.YtgddmpmcnjlcjaaDoor
open Go.RowKit
set_option linter.unusedVariables false

set_option maxRecDepth 100000 in
set_option maxHeartbeats 1000000 in
theorem rej_bounds (s : ByteArray) (k n c : Int) (w : World) (hs : s.size ≤ 16384) (h : wi k 10 = false ∨ wi n 1048576 = false ∨ wi c 1048576 = false) :
    Calls Tryd.prog 3 #[.string s, .int .i64 k, .int .i64 n, .int .i64 c] w fun e w' => e = .returned (.bool true) ∧ Below w.heap.size w w' := by
  have hsI : ¬ (16384 : Int) < (s.size : Int) := by omega
  have H := hid h
  clear h
  go_enter Tryd.func3, Tryd.ntmps3
  go_wp2_with (first
    | (go_at_call 11; refine (check_bounds s k n c _ H.out).mono ?_; rintro e w1 ⟨rfl, hb1⟩; have HB1 := hid hb1; have z1 := hb1.size; simp at z1; have x0 : ∀ o, (w1.alloc o).cell? ⟨w.heap.size, 0, none⟩ = some (.int .i64 n) := fun o => cell_alloc (cell_later hb1 (newAt w _ _ 0 _ rfl)) o; have x1 : ∀ o, (w1.alloc o).cell? ⟨w.heap.size, 1, none⟩ = some (.int .i64 c) := fun o => cell_alloc (cell_later hb1 (newAt w _ _ 1 _ rfl)) o; clear hb1)
    | (go_at_call 12; refine (bounded_no k n c _ H.out).mono ?_; rintro e w2 ⟨rfl, hb2⟩; have HB2 := hid hb2; have z2 := hb2.size; simp at z2; have y0 := cell_later hb2 (newAt w1 _ _ 0 _ rfl); clear hb2))
  go_ret
  exact ⟨rfl, (((Below.refl w.heap.size w).alloc (Nat.le_refl _) _).trans (HB1.out.mono (by simp))).alloc (by omega) _ |>.trans (HB2.out.mono (by simp; omega))⟩

set_option maxRecDepth 100000 in
set_option maxHeartbeats 1000000 in
theorem rej_long (s : ByteArray) (k n c : Int) (w : World) (hs : s.size ≤ 16384) (h1 : wi k 10 = true) (h2 : wi n 1048576 = true) (h3 : wi c 1048576 = true) (hl : 600 < s.size) :
    Calls Tryd.prog 3 #[.string s, .int .i64 k, .int .i64 n, .int .i64 c] w fun e w' => e = .returned (.bool true) ∧ Below w.heap.size w w' := by
  have hsI : ¬ (16384 : Int) < (s.size : Int) := by omega
  have H1 := hid h1
  have H2 := hid h2
  have H3 := hid h3
  clear h1 h2 h3
  have hlI : (600 : Int) < (s.size : Int) := by omega
  have HL := hid (show (Lk.read s.toList).2 = 1 by unfold Lk.read; rw [if_pos (by rw [tl_len]; exact hl)])
  go_enter Tryd.func3, Tryd.ntmps3
  go_wp2_with (first
    | (go_at_call 11; refine (check_line s k n c _ H1.out H2.out H3.out 1 HL.out (by omega)).mono ?_; rintro e w1 ⟨rfl, hb1⟩; have HB1 := hid hb1; have z1 := hb1.size; simp at z1; have x0 : ∀ o, (w1.alloc o).cell? ⟨w.heap.size, 0, none⟩ = some (.int .i64 n) := fun o => cell_alloc (cell_later hb1 (newAt w _ _ 0 _ rfl)) o; have x1 : ∀ o, (w1.alloc o).cell? ⟨w.heap.size, 1, none⟩ = some (.int .i64 c) := fun o => cell_alloc (cell_later hb1 (newAt w _ _ 1 _ rfl)) o; clear hb1)
    | (go_at_call 12; refine (bounded_yes k n c _ H1.out H2.out H3.out).mono ?_; rintro e w2 ⟨rfl, hb2⟩; have HB2 := hid hb2; have z2 := hb2.size; simp at z2; have y0 := cell_later hb2 (newAt w1 _ _ 0 _ rfl); clear hb2))
  go_ret
  exact ⟨rfl, (((Below.refl w.heap.size w).alloc (Nat.le_refl _) _).trans (HB1.out.mono (by simp))).alloc (by omega) _ |>.trans (HB2.out.mono (by simp; omega))⟩

set_option maxRecDepth 100000 in
set_option maxHeartbeats 1000000 in
theorem rej_wrong (s : ByteArray) (k n c : Int) (w : World) (hs : s.size ≤ 16384) (h1 : wi k 10 = true) (h2 : wi n 1048576 = true) (h3 : wi c 1048576 = true) (hl : s.size ≤ 600) (l : Nat) (hl0 : 0 < l) (hr : Rf.readS s.toList = (false, l)) :
    Calls Tryd.prog 3 #[.string s, .int .i64 k, .int .i64 n, .int .i64 c] w fun e w' => e = .returned (.bool true) ∧ Below w.heap.size w w' := by
  have hsI : ¬ (16384 : Int) < (s.size : Int) := by omega
  have H1 := hid h1
  have H2 := hid h2
  have H3 := hid h3
  clear h1 h2 h3
  have hlI : ¬ (600 : Int) < (s.size : Int) := by omega
  have HL := hid (show (Lk.read s.toList).2 = l by rw [Rf.read_line s.toList (by rw [tl_len]; exact hl), hr])
  have HRD := hid hr
  clear hr
  go_enter Tryd.func3, Tryd.ntmps3
  go_wp2_with (first
    | (go_at_call 11; refine (check_line s k n c _ H1.out H2.out H3.out l HL.out hl0).mono ?_; rintro e w1 ⟨rfl, hb1⟩; have HB1 := hid hb1; have z1 := hb1.size; simp at z1; have x0 : ∀ o, (w1.alloc o).cell? ⟨w.heap.size, 0, none⟩ = some (.int .i64 n) := fun o => cell_alloc (cell_later hb1 (newAt w _ _ 0 _ rfl)) o; have x1 : ∀ o, (w1.alloc o).cell? ⟨w.heap.size, 1, none⟩ = some (.int .i64 c) := fun o => cell_alloc (cell_later hb1 (newAt w _ _ 1 _ rfl)) o; clear hb1)
    | (go_at_call 12; refine (bounded_yes k n c _ H1.out H2.out H3.out).mono ?_; rintro e w2 ⟨rfl, hb2⟩; have HB2 := hid hb2; have z2 := hb2.size; simp at z2; have y0 := cell_later hb2 (newAt w1 _ _ 0 _ rfl); clear hb2)
    | (go_at_call 13; refine (refRead_any s hl _).mono ?_; rintro e w3 hr; have HB3 := hid hr.1; have y1 := cell_later hr.1 y0; have he := (hr.2.1 (by rw [HRD.out])).2; rw [HRD.out] at he; subst he; clear hr))
  go_ret
  exact ⟨ret_bool (by simp), ((((Below.refl w.heap.size w).alloc (Nat.le_refl _) _).trans (HB1.out.mono (by simp))).alloc (by omega) _ |>.trans (HB2.out.mono (by simp; omega))).trans (HB3.out.mono (by omega))⟩

set_option maxRecDepth 100000 in
set_option maxHeartbeats 1000000 in
theorem rej_prog (cl : AllLim) (s : ByteArray) (k : Nat) (n c : Int) (w : World) (htw : Tab w) (hs : s.size ≤ 16384) (h1 : wi k 10 = true) (h2 : wi n 1048576 = true) (h3 : wi c 1048576 = true) (hl : s.size ≤ 600) (hr : Rf.readS s.toList = (true, 0)) :
    Calls Tryd.prog 3 #[.string s, .int .i64 k, .int .i64 n, .int .i64 c] w fun e w' => e = .returned (.bool true) ∧ Below w.heap.size w w' := by
  have hsI : ¬ (16384 : Int) < (s.size : Int) := by omega
  have H1 := hid h1
  have H2 := hid h2
  have H3 := hid h3
  clear h1 h2 h3
  have hlI : ¬ (600 : Int) < (s.size : Int) := by omega
  have HL := hid (show (Lk.read s.toList).2 = 0 by rw [Rf.read_line s.toList (by rw [tl_len]; exact hl), hr])
  have HRD := hid hr
  have HTW := hid htw
  have HCL := hid cl
  have hk10 : k ≤ 10 := by have := wi_true H1.out; omega
  clear hr htw cl
  go_enter Tryd.func3, Tryd.ntmps3
  go_wp2_with (first
    | (go_at_call 11; refine (HCL.out s k n c _ (tab_on HTW.out ((Below.refl _ _).alloc (Nat.le_refl _) _)) hk10 H2.out H3.out HL.out).mono ?_; rintro e w1 ⟨hb1, v, a1, n1, c1, a2, n2, c2, t, x, rfl, hv⟩; have hvI : (v != 0) = true := (by simpa using hv); clear hv; have HB1 := hid hb1; have z1 := hb1.size; simp at z1; have x0 : ∀ o, (w1.alloc o).cell? ⟨w.heap.size, 0, none⟩ = some (.int .i64 n) := fun o => cell_alloc (cell_later hb1 (newAt w _ _ 0 _ rfl)) o; have x1 : ∀ o, (w1.alloc o).cell? ⟨w.heap.size, 1, none⟩ = some (.int .i64 c) := fun o => cell_alloc (cell_later hb1 (newAt w _ _ 1 _ rfl)) o; clear hb1)
    | (go_at_call 12; refine (bounded_yes k n c _ H1.out H2.out H3.out).mono ?_; rintro e w2 ⟨rfl, hb2⟩; have HB2 := hid hb2; have z2 := hb2.size; simp at z2; have y0 := cell_later hb2 (newAt w1 _ _ 0 _ rfl); clear hb2)
    | (go_at_call 13; refine (refRead_any s hl _).mono ?_; rintro e w3 hr; have HB3 := hid hr.1; have y1 := cell_later hr.1 y0; have he := hr.2.2 (by rw [HRD.out]); subst he; clear hr))
  go_ret
  exact ⟨rfl, ((((Below.refl w.heap.size w).alloc (Nat.le_refl _) _).trans (HB1.out.mono (by simp))).alloc (by omega) _ |>.trans (HB2.out.mono (by simp; omega))).trans (HB3.out.mono (by omega))⟩

set_option maxRecDepth 100000 in
theorem rej_any (cl : AllLim) (s : ByteArray) (k n c : Int) (w : World) (htw : Tab w) :
    Calls Tryd.prog 3 #[.string s, .int .i64 k, .int .i64 n, .int .i64 c] w fun e w' => e = .returned (.bool true) ∧ Below w.heap.size w w' := by
  by_cases hs : s.size ≤ 16384
  · cases h1 : wi k 10 with
    | false => exact rej_bounds s k n c w hs (.inl h1)
    | true =>
      cases h2 : wi n 1048576 with
      | false => exact rej_bounds s k n c w hs (.inr (.inl h2))
      | true =>
        cases h3 : wi c 1048576 with
        | false => exact rej_bounds s k n c w hs (.inr (.inr h3))
        | true =>
          by_cases hl : 600 < s.size
          · exact rej_long s k n c w hs h1 h2 h3 hl
          · have hl' : s.size ≤ 600 := by omega
            have hz := (Rf.readS_line s.toList).2
            obtain ⟨⟨b, l⟩, hr⟩ : ∃ o, Rf.readS s.toList = o := ⟨_, rfl⟩
            rw [hr] at hz
            cases b with
            | false =>
              have h0 : l ≠ 0 := fun e => by have := hz.2 e; cases this
              exact rej_wrong s k n c w hs h1 h2 h3 hl' l (by omega) hr
            | true =>
              have h0 : l = 0 := hz.1 rfl
              subst h0
              obtain ⟨kn, rfl⟩ : ∃ m : Nat, k = m := ⟨k.toNat, by have := wi_true h1; omega⟩
              exact rej_prog cl s kn n c w htw hs h1 h2 h3 hl' hr
  · have hsI : (16384 : Int) < (s.size : Int) := by omega
    go_enter Tryd.func3, Tryd.ntmps3
    go_wp2
    go_ret
    exact ⟨rfl, Below.refl _ _⟩

end Go.Proofs.YtgddmpmcnjlcjaaDoor
