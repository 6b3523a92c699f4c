import Derived.Test.YtgddmpmcnjlcjaaDoorA16
import Derived.KernelRfl
namespace Go.Proofs.YtgddmpmcnjlcjaaDoor
open Go.RowKit
set_option linter.unusedVariables false

/-- The texts that are none, and their lines. -/
def wtx : List (List UInt8) := [[120, 10], [115, 101, 99, 114, 101, 116, 32, 97], [115, 101, 99, 114, 101, 116, 32, 97, 10, 118, 97, 114, 32, 98, 10, 112, 117, 98, 108, 105, 99, 32, 99, 10], [115, 101, 99, 114, 101, 116, 32, 97, 10, 115, 101, 99, 114, 101, 116, 32, 97, 10], [118, 97, 114, 32, 97, 10, 105, 102, 32, 97, 10], [101, 110, 100, 10], [118, 97, 114, 32, 97, 10, 119, 104, 105, 108, 101, 32, 97, 10, 101, 108, 115, 101, 10, 101, 110, 100, 10], [97, 114, 114, 97, 121, 32, 116, 32, 53, 10], [97, 114, 114, 97, 121, 32, 116, 32, 50, 10, 111, 117, 116, 32, 116, 10], [118, 97, 114, 32, 97, 10, 97, 32, 61, 32, 49, 54, 10], [118, 97, 114, 32, 97, 10, 97, 32, 61, 32, 49, 32, 42, 42, 32, 50, 10], [118, 97, 114, 32, 97, 10, 97, 32, 61, 32, 49, 10, 118, 97, 114, 32, 98, 10], [118, 97, 114, 32, 97, 10, 10], [118, 97, 114, 32, 32, 97, 10], [115, 101, 99, 114, 101, 116, 32, 97, 10, 115, 101, 99, 114, 101, 116, 32, 98, 10, 115, 101, 99, 114, 101, 116, 32, 99, 10, 112, 117, 98, 108, 105, 99, 32, 100, 10], [118, 97, 114, 32, 97, 10, 105, 102, 32, 49, 10, 105, 102, 32, 49, 10, 105, 102, 32, 49, 10, 105, 102, 32, 49, 10, 105, 102, 32, 49, 10], [118, 97, 114, 32, 97, 10, 105, 102, 32, 49, 10, 101, 108, 115, 101, 10, 101, 108, 115, 101, 10, 101, 110, 100, 10]]
def wln : List Nat := [1, 1, 3, 2, 3, 1, 3, 1, 2, 2, 2, 3, 2, 1, 4, 6, 4]
def txt (i : Nat) : List UInt8 := wtx.getD i []
def lin (i : Nat) : Nat := wln.getD i 0
def tcells : Array Value := #[.string ⟨#[120, 10]⟩, .string ⟨#[115, 101, 99, 114, 101, 116, 32, 97]⟩, .string ⟨#[115, 101, 99, 114, 101, 116, 32, 97, 10, 118, 97, 114, 32, 98, 10, 112, 117, 98, 108, 105, 99, 32, 99, 10]⟩, .string ⟨#[115, 101, 99, 114, 101, 116, 32, 97, 10, 115, 101, 99, 114, 101, 116, 32, 97, 10]⟩, .string ⟨#[118, 97, 114, 32, 97, 10, 105, 102, 32, 97, 10]⟩, .string ⟨#[101, 110, 100, 10]⟩, .string ⟨#[118, 97, 114, 32, 97, 10, 119, 104, 105, 108, 101, 32, 97, 10, 101, 108, 115, 101, 10, 101, 110, 100, 10]⟩, .string ⟨#[97, 114, 114, 97, 121, 32, 116, 32, 53, 10]⟩, .string ⟨#[97, 114, 114, 97, 121, 32, 116, 32, 50, 10, 111, 117, 116, 32, 116, 10]⟩, .string ⟨#[118, 97, 114, 32, 97, 10, 97, 32, 61, 32, 49, 54, 10]⟩, .string ⟨#[118, 97, 114, 32, 97, 10, 97, 32, 61, 32, 49, 32, 42, 42, 32, 50, 10]⟩, .string ⟨#[118, 97, 114, 32, 97, 10, 97, 32, 61, 32, 49, 10, 118, 97, 114, 32, 98, 10]⟩, .string ⟨#[118, 97, 114, 32, 97, 10, 10]⟩, .string ⟨#[118, 97, 114, 32, 32, 97, 10]⟩, .string ⟨#[115, 101, 99, 114, 101, 116, 32, 97, 10, 115, 101, 99, 114, 101, 116, 32, 98, 10, 115, 101, 99, 114, 101, 116, 32, 99, 10, 112, 117, 98, 108, 105, 99, 32, 100, 10]⟩, .string ⟨#[118, 97, 114, 32, 97, 10, 105, 102, 32, 49, 10, 105, 102, 32, 49, 10, 105, 102, 32, 49, 10, 105, 102, 32, 49, 10, 105, 102, 32, 49, 10]⟩, .string ⟨#[118, 97, 114, 32, 97, 10, 105, 102, 32, 49, 10, 101, 108, 115, 101, 10, 101, 108, 115, 101, 10, 101, 110, 100, 10]⟩]
def lcells : Array Value := #[.int .i64 1, .int .i64 1, .int .i64 3, .int .i64 2, .int .i64 3, .int .i64 1, .int .i64 3, .int .i64 1, .int .i64 2, .int .i64 2, .int .i64 2, .int .i64 3, .int .i64 2, .int .i64 1, .int .i64 4, .int .i64 6, .int .i64 4]
set_option maxRecDepth 100000 in
theorem tcells_at : ∀ i, i < 17 → tcells[i]? = some (.string ⟨(txt i).toArray⟩)
  | 0, _ => rfl
  | 1, _ => rfl
  | 2, _ => rfl
  | 3, _ => rfl
  | 4, _ => rfl
  | 5, _ => rfl
  | 6, _ => rfl
  | 7, _ => rfl
  | 8, _ => rfl
  | 9, _ => rfl
  | 10, _ => rfl
  | 11, _ => rfl
  | 12, _ => rfl
  | 13, _ => rfl
  | 14, _ => rfl
  | 15, _ => rfl
  | 16, _ => rfl
  | n + 17, h => absurd h (by omega)

theorem lcells_at : ∀ i, i < 17 → lcells[i]? = some (.int .i64 (lin i))
  | 0, _ => rfl
  | 1, _ => rfl
  | 2, _ => rfl
  | 3, _ => rfl
  | 4, _ => rfl
  | 5, _ => rfl
  | 6, _ => rfl
  | 7, _ => rfl
  | 8, _ => rfl
  | 9, _ => rfl
  | 10, _ => rfl
  | 11, _ => rfl
  | 12, _ => rfl
  | 13, _ => rfl
  | 14, _ => rfl
  | 15, _ => rfl
  | 16, _ => rfl
  | n + 17, h => absurd h (by omega)

theorem lin_pos : ∀ i, i < 17 → 0 < lin i
  | 0, _ => by decide
  | 1, _ => by decide
  | 2, _ => by decide
  | 3, _ => by decide
  | 4, _ => by decide
  | 5, _ => by decide
  | 6, _ => by decide
  | 7, _ => by decide
  | 8, _ => by decide
  | 9, _ => by decide
  | 10, _ => by decide
  | 11, _ => by decide
  | 12, _ => by decide
  | 13, _ => by decide
  | 14, _ => by decide
  | 15, _ => by decide
  | 16, _ => by decide
  | n + 17, h => absurd h (by omega)

theorem txt_lin0 : (Lk.read (txt 0)).2 = lin 0 := by kernel_rfl
theorem txt_lin1 : (Lk.read (txt 1)).2 = lin 1 := by kernel_rfl
theorem txt_lin2 : (Lk.read (txt 2)).2 = lin 2 := by kernel_rfl
theorem txt_lin3 : (Lk.read (txt 3)).2 = lin 3 := by kernel_rfl
theorem txt_lin4 : (Lk.read (txt 4)).2 = lin 4 := by kernel_rfl
theorem txt_lin5 : (Lk.read (txt 5)).2 = lin 5 := by kernel_rfl
theorem txt_lin6 : (Lk.read (txt 6)).2 = lin 6 := by kernel_rfl
theorem txt_lin7 : (Lk.read (txt 7)).2 = lin 7 := by kernel_rfl
theorem txt_lin8 : (Lk.read (txt 8)).2 = lin 8 := by kernel_rfl
theorem txt_lin9 : (Lk.read (txt 9)).2 = lin 9 := by kernel_rfl
theorem txt_lin10 : (Lk.read (txt 10)).2 = lin 10 := by kernel_rfl
theorem txt_lin11 : (Lk.read (txt 11)).2 = lin 11 := by kernel_rfl
theorem txt_lin12 : (Lk.read (txt 12)).2 = lin 12 := by kernel_rfl
theorem txt_lin13 : (Lk.read (txt 13)).2 = lin 13 := by kernel_rfl
theorem txt_lin14 : (Lk.read (txt 14)).2 = lin 14 := by kernel_rfl
theorem txt_lin15 : (Lk.read (txt 15)).2 = lin 15 := by kernel_rfl
theorem txt_lin16 : (Lk.read (txt 16)).2 = lin 16 := by kernel_rfl
theorem txt_lin : ∀ i, i < 17 → (Lk.read (txt i)).2 = lin i
  | 0, _ => txt_lin0
  | 1, _ => txt_lin1
  | 2, _ => txt_lin2
  | 3, _ => txt_lin3
  | 4, _ => txt_lin4
  | 5, _ => txt_lin5
  | 6, _ => txt_lin6
  | 7, _ => txt_lin7
  | 8, _ => txt_lin8
  | 9, _ => txt_lin9
  | 10, _ => txt_lin10
  | 11, _ => txt_lin11
  | 12, _ => txt_lin12
  | 13, _ => txt_lin13
  | 14, _ => txt_lin14
  | 15, _ => txt_lin15
  | 16, _ => txt_lin16
  | n + 17, h => absurd h (by omega)

set_option maxHeartbeats 400000 in
theorem pick_any (c : Int) (hc : -9223372036854775808 ≤ c ∧ c ≤ 9223372036854775807) (w : World) :
    Calls Tryd.prog 32 #[.int .i64 c, .int .i64 17] w fun e w' => ∃ p : Nat, p < 17 ∧ e = .returned (.int .i64 p) ∧ w' = w := by
  by_cases h : c < 0
  · go_enter Tryd.func32, Tryd.ntmps32
    go_wp2
    go_ret
    have e : -(c + 1).tmod 17 = (-(c + 1)) % 17 := by rw [← Int.neg_tmod, Int.tmod_eq_emod_of_nonneg (by omega)]
    have b1 := Int.emod_nonneg (-(c + 1)) (show (17 : Int) ≠ 0 by omega)
    have b2 := Int.emod_lt_of_pos (-(c + 1)) (show (0 : Int) < 17 by omega)
    exact ⟨((-(c + 1)) % 17).toNat, by omega, ret_int (e.trans (by omega)), rfl⟩
  · have h0 : 0 ≤ c := by omega
    go_enter Tryd.func32, Tryd.ntmps32
    go_wp2
    go_ret
    exact ⟨(c % 17).toNat, by omega, ret_int (by omega), rfl⟩

/-- The report's box, untouched behind a call. -/
theorem rep_facts1 {w w1 : World} (hb : Below (w.alloc (.cells #[.int .i64 0, .slice none 0 0, .slice none 0 0, .int .i64 0, .int .i64 0, .string ⟨#[]⟩, .string ⟨#[]⟩, .int .i64 0, .int .i64 0] 26)).heap.size (w.alloc (.cells #[.int .i64 0, .slice none 0 0, .slice none 0 0, .int .i64 0, .int .i64 0, .string ⟨#[]⟩, .string ⟨#[]⟩, .int .i64 0, .int .i64 0] 26)) w1) :
    (w1.cell? ⟨w.heap.size, 0, none⟩ = some (.int .i64 0)) ∧
    (w1.cell? ⟨w.heap.size, 1, none⟩ = some (.slice none 0 0)) ∧
    (w1.cell? ⟨w.heap.size, 2, none⟩ = some (.slice none 0 0)) ∧
    (w1.cell? ⟨w.heap.size, 3, none⟩ = some (.int .i64 0)) ∧
    (w1.cell? ⟨w.heap.size, 4, none⟩ = some (.int .i64 0)) ∧
    (w1.cell? ⟨w.heap.size, 5, none⟩ = some (.string ⟨#[]⟩)) ∧
    (w1.cell? ⟨w.heap.size, 6, none⟩ = some (.string ⟨#[]⟩)) ∧
    (w1.cell? ⟨w.heap.size, 7, none⟩ = some (.int .i64 0)) ∧
    (w1.cell? ⟨w.heap.size, 8, none⟩ = some (.int .i64 0)) ∧
    (∀ i, w1.frozen? ⟨w.heap.size, i, none⟩ = false) := by
  refine ⟨cell_later hb (newAt w _ _ 0 _ rfl), cell_later hb (newAt w _ _ 1 _ rfl), cell_later hb (newAt w _ _ 2 _ rfl), cell_later hb (newAt w _ _ 3 _ rfl), cell_later hb (newAt w _ _ 4 _ rfl), cell_later hb (newAt w _ _ 5 _ rfl), cell_later hb (newAt w _ _ 6 _ rfl), cell_later hb (newAt w _ _ 7 _ rfl), cell_later hb (newAt w _ _ 8 _ rfl), fun i => froz_later hb (by simp) (froz_new w _ _ i)⟩

set_option maxRecDepth 100000 in
set_option maxHeartbeats 1000000 in
theorem keep_check (s : ByteArray) (k : Int) (w : World) (l : Nat) (h : ∀ W : World, Calls Tryd.prog 11 #[.string s, .int .i64 k, .agg #[.int .i64 0, .int .i64 0]] W fun e w' => e = .returned (.tuple #[.int .i64 0, repLine l]) ∧ Below W.heap.size W w') :
    Calls Tryd.prog 33 #[.string s, .int .i64 k] w fun e w' => e = .returned (.tuple #[.int .i64 0, repLine l]) ∧ Below w.heap.size w w' := by
  go_enter Tryd.func33, Tryd.ntmps33
  go_wp2_with (first | (go_at_call 11; refine (h _).mono ?_; rintro e w1 ⟨rfl, hb⟩; have z1 := hb.size; simp at z1; obtain ⟨c0, c1, c2, c3, c4, c5, c6, c7, c8, cf⟩ := rep_facts1 hb; have HB := hid hb; clear hb))
  refine bodyPost_ret (v := .tuple #[.int .i64 0, repLine l]) (by simp [results, Tryd.results33, go_sem, c0, c1, c2, c3, c4, c5, c6, c7, c8]) rfl ⟨rfl, ?_⟩
  exact ((((((((((((Below.refl _ _).alloc (Nat.le_refl _) _).trans (HB.out.mono (by simp))).setCell (Nat.le_refl _) _).setCell (Nat.le_refl _) _).setCell (Nat.le_refl _) _).setCell (Nat.le_refl _) _).setCell (Nat.le_refl _) _).setCell (Nat.le_refl _) _).setCell (Nat.le_refl _) _).setCell (Nat.le_refl _) _).setCell (Nat.le_refl _) _)

set_option maxRecDepth 100000 in
set_option maxHeartbeats 1000000 in
theorem run_bad (s : ByteArray) (a : Option Addr) (n c : Nat) (k : Int) (w : World) (h1 : wi k 10 = true) (hl : (Lk.read s.toList).2 ≠ 0) :
    Calls Tryd.prog 34 #[.string s, .slice a n c, .int .i64 k] w fun e w' => e = .returned (.slice none 0 0) ∧ Below w.heap.size w w' := by
  have HL := hid hl
  clear hl
  obtain ⟨l, hl⟩ : ∃ l, (Lk.read s.toList).2 = l := ⟨_, rfl⟩
  have HE := hid hl
  have hlI : ((l : Int) != 0) = true := by have := HL.out; rw [hl] at this; simp; omega
  clear hl
  go_enter Tryd.func34, Tryd.ntmps34
  go_wp2_with (first
    | (go_at_call 23; refine (within_any _ _ _).mono ?_; rintro e w' ⟨rfl, rfl⟩)
    | (go_at_call 24; refine (read_any _ _).mono ?_; rintro e w1 R; have he := R.bad HL.out; subst he; rw [HE.out]; have HB := hid R.bel; clear R))
  go_ret
  exact ⟨rfl, HB.out.alloc HB.out.size _⟩

end Go.Proofs.YtgddmpmcnjlcjaaDoor
