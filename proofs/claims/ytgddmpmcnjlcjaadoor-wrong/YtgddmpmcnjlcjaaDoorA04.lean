import Derived.Test.YtgddmpmcnjlcjaaDoorA03
namespace Go.Proofs.YtgddmpmcnjlcjaaDoor
open Go.RowKit
set_option linter.unusedVariables false

set_option maxHeartbeats 400000 in
theorem find_any (r : Lk.RS) (vs vc vk vb : Value) (b : Nat) (s : ByteArray) (w : World) (hrow : w.rowIs b 93 67 (rcell r vs vc vk vb)) :
    Calls Tryd.prog 95 #[.pointer (some ⟨b, 0, none⟩), .string s] w fun e w' => e = .returned (.agg #[.int .i64 (Lk.find r s.toList).1, .int .i64 (Lk.find r s.toList).2]) ∧ Below w.heap.size w w' := by
  by_cases hn : Lk.isName s.toList = true
  · have hsz : s.size = 1 := by
      by_cases h : s.size = 1
      · exact h
      · rw [isNameN h] at hn; cases hn
    have hn' := hn
    rw [isName1 hsz] at hn'
    simp at hn'
    have hb1 : (97 : Int) ≤ (s[0].toNat : Int) := by omega
    have hb2 : (s[0].toNat : Int) ≤ 122 := by omega
    have hlt := hrow.lt
    have hsz1 : (s.size : Int) = 1 := by omega
    have hk : s[0].toNat - 97 < 26 := by omega
    have hc0 := hrow.cell (i := 4 + (s[0].toNat - 97) * 2) (by omega)
    have hc1 := hrow.cell (i := 4 + (s[0].toNat - 97) * 2 + 1) (by omega)
    rw [(rcell_let r vs vc vk vb _ hk).1] at hc0
    rw [(rcell_let r vs vc vk vb _ hk).2] at hc1
    have hla : Lk.find r s.toList = r.letters (s[0].toNat - 97) := by
      unfold Lk.find Lk.lat; rw [if_pos hn, tl1 hsz]; rfl
    rw [hla]
    generalize r.letters (s[0].toNat - 97) = q at hc0 hc1
    clear hla hrow
    go_enter Tryd.func95, Tryd.ntmps95
    go_wp2_with (go_at_call 105; refine (isName_any _ _).mono ?_; rintro e w' ⟨rfl, rfl⟩)
    go_region
    all_goals go_wp2
    all_goals exact bodyPost_ret (v := .agg #[.int .i64 q.1, .int .i64 q.2]) (by simp [results, Tryd.results95, go_sem]) rfl ⟨rfl, ((Below.refl _ _).alloc (Nat.le_refl _) _).drew⟩
  · have hf : Lk.find r s.toList = (0, 0) := by unfold Lk.find; rw [if_neg hn]
    rw [hf]
    go_enter Tryd.func95, Tryd.ntmps95
    go_wp2_with (go_at_call 105; refine (isName_any _ _).mono ?_; rintro e w' ⟨rfl, rfl⟩)
    exact bodyPost_ret (v := .agg #[.int .i64 0, .int .i64 0]) (by simp [results, Tryd.results95, go_sem]) rfl ⟨rfl, (Below.refl _ _).alloc (Nat.le_refl _) _⟩

theorem intO_some {o : Option Nat} {n : Nat} (h : o = some n) : Lk.intO o = n := by rw [h]; rfl
theorem intO_none {o : Option Nat} (h : o = none) : Lk.intO o = -1 := by rw [h]; rfl

theorem number_some (s : ByteArray) (w : World) {n : Nat} (h : Lk.num? s.toList = some n) :
    Calls Tryd.prog 94 #[.string s] w fun e w' => e = .returned (.int .i64 n) ∧ w' = w := by
  rw [← intO_some h]; exact number_any s w
theorem number_none (s : ByteArray) (w : World) (h : Lk.num? s.toList = none) :
    Calls Tryd.prog 94 #[.string s] w fun e w' => e = .returned (.int .i64 (-1)) ∧ w' = w := by
  rw [← intO_none h]; exact number_any s w

theorem bcell {W w1 : World} (hb : Below W.heap.size W w1) : (∀ b o, b < W.heap.size → w1.cell? ⟨b, o, none⟩ = W.cell? ⟨b, o, none⟩) ∧ (∀ b o, b < W.heap.size → w1.frozen? ⟨b, o, none⟩ = W.frozen? ⟨b, o, none⟩) :=
  ⟨fun b o h => hb.cell (p := ⟨b, o, none⟩) h, fun b o h => hb.frozen (p := ⟨b, o, none⟩) h⟩

set_option maxHeartbeats 400000 in
theorem atom_num (b : Nat) (s : ByteArray) (w : World) (n : Nat) (h : Lk.num? s.toList = some n) :
    Calls Tryd.prog 96 #[.pointer (some ⟨b, 0, none⟩), .string s] w fun e w' => e = .returned (.tuple #[.agg #[.bool false, .int .i64 n], .bool true]) ∧ Below w.heap.size w w' := by
  have hn : (0 : Int) ≤ (n : Int) := by omega
  go_enter Tryd.func96, Tryd.ntmps96
  go_wp2_with (go_at_call 94; refine (number_some _ _ h).mono ?_; rintro e w' ⟨rfl, rfl⟩)
  exact bodyPost_ret (v := .tuple #[.agg #[.bool false, .int .i64 n], .bool true]) (by simp [results, Tryd.results96, go_sem]) rfl ⟨rfl, (Below.refl _ _).alloc (Nat.le_refl _) _⟩

set_option maxHeartbeats 400000 in
theorem atom_find (r : Lk.RS) (vs vc vk vb : Value) (b : Nat) (s : ByteArray) (w : World) (hrow : w.rowIs b 93 67 (rcell r vs vc vk vb)) (h : Lk.num? s.toList = none) (p q : Nat) (hf : Lk.find r s.toList = (p, q)) :
    Calls Tryd.prog 96 #[.pointer (some ⟨b, 0, none⟩), .string s] w fun e w' => e = .returned (if p = 1 then .tuple #[.agg #[.bool true, .int .i64 q], .bool true] else .tuple #[.agg #[.bool false, .int .i64 0], .bool false]) ∧ Below w.heap.size w w' := by
  have hc := fun W (hW : World.rowIs W b 93 67 (rcell r vs vc vk vb)) => find_any r vs vc vk vb b s W hW
  rw [hf] at hc
  have hlt := hrow.lt
  by_cases hp : p = 1
  · subst hp
    rw [if_pos rfl]
    go_enter Tryd.func96, Tryd.ntmps96
    go_wp2_with (first | (go_at_call 94; refine (number_none _ _ h).mono ?_; rintro e w' ⟨rfl, rfl⟩) | (go_at_call 95; refine (hc _ ?_).mono ?_; exact (hrow.alloc _); rintro e w' ⟨rfl, hb⟩; obtain ⟨hcc, hff⟩ := bcell hb; have hz : w.heap.size < w'.heap.size := by have := hb.size; simp at this; omega))
    refine bodyPost_ret (v := .tuple #[.agg #[.bool true, .int .i64 q], .bool true]) (by simp [results, Tryd.results96, go_sem, hcc, hz]) rfl ⟨rfl, ?_⟩
    exact (((((Below.refl _ _).alloc (Nat.le_refl _) _).trans (hb.mono (by simp))).setCell (by simp) _).setCell (by simp) _).alloc (by simp; omega) _
  · rw [if_neg hp]
    have hpq : ((p : Int) == 1) = false := by simp; omega
    go_enter Tryd.func96, Tryd.ntmps96
    go_wp2_with (first | (go_at_call 94; refine (number_none _ _ h).mono ?_; rintro e w' ⟨rfl, rfl⟩) | (go_at_call 95; refine (hc _ ?_).mono ?_; exact (hrow.alloc _); rintro e w' ⟨rfl, hb⟩; obtain ⟨hcc, hff⟩ := bcell hb; have hz : w.heap.size < w'.heap.size := by have := hb.size; simp at this; omega))
    refine bodyPost_ret (v := .tuple #[.agg #[.bool false, .int .i64 0], .bool false]) (by simp [results, Tryd.results96, go_sem, hcc, hz]) rfl ⟨rfl, ?_⟩
    exact (((((Below.refl _ _).alloc (Nat.le_refl _) _).trans (hb.mono (by simp))).setCell (by simp) _).setCell (by simp) _).alloc (by simp; omega) _

theorem atom_some (r : Lk.RS) (vs vc vk vb : Value) (b : Nat) (s : ByteArray) (w : World) (hrow : w.rowIs b 93 67 (rcell r vs vc vk vb)) (x : Lk.At) (h : Lk.atom? r s.toList = some x) :
    Calls Tryd.prog 96 #[.pointer (some ⟨b, 0, none⟩), .string s] w fun e w' => e = .returned (.tuple #[.agg #[.bool x.named, .int .i64 x.val], .bool true]) ∧ Below w.heap.size w w' := by
  unfold Lk.atom? at h
  cases hn : Lk.num? s.toList with
  | some n => rw [hn] at h; simp at h; subst h; exact atom_num b s w n hn
  | none =>
    rw [hn] at h
    have k := atom_find r vs vc vk vb b s w hrow hn (Lk.find r s.toList).1 (Lk.find r s.toList).2 rfl
    by_cases hp : (Lk.find r s.toList).1 = 1
    · simp [hp] at h; subst h; rw [if_pos hp] at k; exact k
    · simp [hp] at h

theorem atom_none (r : Lk.RS) (vs vc vk vb : Value) (b : Nat) (s : ByteArray) (w : World) (hrow : w.rowIs b 93 67 (rcell r vs vc vk vb)) (h : Lk.atom? r s.toList = none) :
    Calls Tryd.prog 96 #[.pointer (some ⟨b, 0, none⟩), .string s] w fun e w' => e = .returned (.tuple #[.agg #[.bool false, .int .i64 0], .bool false]) ∧ Below w.heap.size w w' := by
  unfold Lk.atom? at h
  cases hn : Lk.num? s.toList with
  | some n => rw [hn] at h; simp at h
  | none =>
    rw [hn] at h
    have k := atom_find r vs vc vk vb b s w hrow hn (Lk.find r s.toList).1 (Lk.find r s.toList).2 rfl
    by_cases hp : (Lk.find r s.toList).1 = 1
    · simp [hp] at h
    · rw [if_neg hp] at k; exact k

end Go.Proofs.YtgddmpmcnjlcjaaDoor
