import Derived.Test.YtkfejeomfdhmdaaD10a
import Derived.Deep.QuietTactic
import Derived.BigQuiet
namespace Go.Proofs.Ytkfejeomfdhmdaa
open Go.RowKit
set_option linter.unusedVariables false

set_option maxRecDepth 100000 in
set_option maxHeartbeats 1000000 in
theorem read_wrong (s : ByteArray) (hs : s.size ≤ 600) (w : World) (os : Rf.Rs) (ho : Rf.blkS (Lk.cut 10 s.toList) (Lk.cut 10 s.toList).length 0 {} = (false, os)) :
    Calls Try.prog 9 #[.string s] w fun e w' => e = .returned (.tuple #[.pointer none, .int .i64 ((os.at_ : Int) + 1)]) ∧ Below w.heap.size w w' := by
  have hsI : (s.size : Int) ≤ 600 := by omega
  have HO := hid ho
  clear ho
  go_enter Try.func9, Try.ntmps9
  go_wp2_with (first
    | (go_at_call 17; refine (cut_any s 10 _ (by omega)).mono ?_; rintro e w1 ⟨g, cap, L, rfl, hLc, hown1, hb1⟩; have HF1 := hid (frep_start hb1 hown1); have HLC := hid hLc; have HB1 := hid hb1; have HLN := hid (lines_of hs hLc); have HBO := hid (blk_of hLc HO.out); have HLA := hid (last_of hLc); have q1 := (start_row hb1).cell (i := 1) (by omega); rw [show fcell w.heap.size nil_ {} 1 = .slice none 0 0 from rfl] at q1; have q2 := (start_row hb1).frozen 1; have hlI : (L.length : Int) ≤ 1000 := (by have := HLN.out.1; omega); have hlJ : (1 : Int) ≤ (L.length : Int) := (by have := HLN.out.2.1; omega); have lt1 := (start_row hb1).lt; clear hLc hown1 hb1)
    | (go_at_call 18; have hh := block_gen L g cap 0 (by omega) (fun _ => block_ok L g cap HLN.out.2.2 3 1 rfl) HLN.out.1 HLN.out.2.2 L.length _ w.heap.size w.heap.size (w.heap.size + 1) [] {} _ _ _ _ HF1.out rfl (Nat.le_add_left _ _) HLN.out.2.1 (Nat.zero_le _) (.inr (by simpa using HLN.out.1)) (Nat.le_succ _); rw [HBO.out.1] at hh; refine hh.mono ?_; rintro e w2 ⟨ad, n2, c2, l2, vn, vk, vz, rfl, hF2, hds2, hb2, -⟩; have HF2 := hid hF2; have HB2 := hid hb2; have r2 := HF2.out.row.cell (i := 2) (by omega); have r1 := HF2.out.row.cell (i := 1) (by omega); have r0 := HF2.out.row.cell (i := 0) (by omega); rw [show fst_ w.heap.size g cap L.length os 2 = .int .i64 os.at_ from rfl] at r2; rw [show fst_ w.heap.size g cap L.length os 1 = .slice (some ⟨g, 0, none⟩) L.length cap from rfl] at r1; rw [show fst_ w.heap.size g cap L.length os 0 = .pointer (some ⟨w.heap.size, 0, none⟩) from rfl] at r0; have lt2 := HF2.out.row.lt; have haI : (os.at_ : Int) < (L.length : Int) := (by have := HBO.out.2; omega); clear hF2 hds2 hb2 hh))
  go_quiet (fail)
  go_wp2_with fail
  go_ret2
  exact ⟨rfl, below_drewN ((((((Below.refl w.heap.size w).alloc (Nat.le_refl _) progO).alloc (by simp) (readO w)).trans (HB1.out.mono (by simp; omega))).setCell (p := ⟨w.heap.size + 1, 1, none⟩) (Nat.le_succ _) _).trans HB2.out) _⟩

set_option maxRecDepth 100000 in
set_option maxHeartbeats 1000000 in
theorem read_tail (s : ByteArray) (hs : s.size ≤ 600) (w : World) (os : Rf.Rs) (ho : Rf.blkS (Lk.cut 10 s.toList) (Lk.cut 10 s.toList).length 0 {} = (true, os)) (n : Nat) (hn : (Lk.cut 10 s.toList).length = n) (he : ((Lk.cut 10 s.toList).getD ((Lk.cut 10 s.toList).length - 1) []).isEmpty = false) :
    Calls Try.prog 9 #[.string s] w fun e w' => e = .returned (.tuple #[.pointer none, .int .i64 n]) ∧ Below w.heap.size w w' := by
  have hsI : (s.size : Int) ≤ 600 := by omega
  have HO := hid ho
  clear ho
  have HE := hid he
  have HN := hid hn
  clear he hn
  go_enter Try.func9, Try.ntmps9
  go_wp2_with (first
    | (go_at_call 17; refine (cut_any s 10 _ (by omega)).mono ?_; rintro e w1 ⟨g, cap, L, rfl, hLc, hown1, hb1⟩; have HF1 := hid (frep_start hb1 hown1); have HLC := hid hLc; have HB1 := hid hb1; have HLN := hid (lines_of hs hLc); have HBO := hid (blk_of hLc HO.out); have HLA := hid (last_of hLc); have q1 := (start_row hb1).cell (i := 1) (by omega); rw [show fcell w.heap.size nil_ {} 1 = .slice none 0 0 from rfl] at q1; have q2 := (start_row hb1).frozen 1; have hlI : (L.length : Int) ≤ 1000 := (by have := HLN.out.1; omega); have hlJ : (1 : Int) ≤ (L.length : Int) := (by have := HLN.out.2.1; omega); have lt1 := (start_row hb1).lt; clear hLc hown1 hb1)
    | (go_at_call 18; have hh := block_gen L g cap 0 (by omega) (fun _ => block_ok L g cap HLN.out.2.2 3 1 rfl) HLN.out.1 HLN.out.2.2 L.length _ w.heap.size w.heap.size (w.heap.size + 1) [] {} _ _ _ _ HF1.out rfl (Nat.le_add_left _ _) HLN.out.2.1 (Nat.zero_le _) (.inr (by simpa using HLN.out.1)) (Nat.le_succ _); rw [HBO.out.1] at hh; refine hh.mono ?_; rintro e w2 ⟨ad, n2, c2, l2, vn, vk, vz, rfl, hF2, hds2, hb2, -⟩; have HF2 := hid hF2; have HB2 := hid hb2; have r2 := HF2.out.row.cell (i := 2) (by omega); have r1 := HF2.out.row.cell (i := 1) (by omega); have r0 := HF2.out.row.cell (i := 0) (by omega); rw [show fst_ w.heap.size g cap L.length os 2 = .int .i64 os.at_ from rfl] at r2; rw [show fst_ w.heap.size g cap L.length os 1 = .slice (some ⟨g, 0, none⟩) L.length cap from rfl] at r1; rw [show fst_ w.heap.size g cap L.length os 0 = .pointer (some ⟨w.heap.size, 0, none⟩) from rfl] at r0; have lt2 := HF2.out.row.lt; have haI : (os.at_ : Int) < (L.length : Int) := (by have := HBO.out.2; omega); obtain ⟨m, hm⟩ : ∃ m, L.length - 1 = m := ⟨_, rfl⟩; have hmI : (L.length : Int) - 1 = (m : Int) := (by have := HLN.out.2.1; omega); have hm0 : (0 : Int) ≤ (m : Int) := (by omega); have hmJ : (m : Int) < (L.length : Int) := (by omega); have hla := HF2.out.lin m (by have := HLN.out.2.1; omega); obtain ⟨q, hq⟩ : ∃ q, L.getD m ByteArray.empty = q := ⟨_, rfl⟩; rw [hq] at hla; have hqe : q.toList.isEmpty = false := (by rw [← hq, ← hm, HLA.out]; exact HE.out); have p3 := HF2.out.prog.row.cell (i := 3) (by omega); have k3 := HF2.out.prog.row.frozen 3; clear hq hm; clear hF2 hds2 hb2 hh))
  go_ret2
  refine ⟨?_, (((((Below.refl w.heap.size w).alloc (Nat.le_refl _) progO).alloc (by simp) (readO w)).trans (HB1.out.mono (by simp; omega))).setCell (p := ⟨w.heap.size + 1, 1, none⟩) (Nat.le_succ _) _).trans HB2.out⟩
  have hx : n = L.length := by rw [← HN.out, ← HLC.out]; simp
  subst hx
  rfl

set_option maxRecDepth 100000 in
set_option maxHeartbeats 1000000 in
theorem read_good (s : ByteArray) (hs : s.size ≤ 600) (w : World) (os : Rf.Rs) (ho : Rf.blkS (Lk.cut 10 s.toList) (Lk.cut 10 s.toList).length 0 {} = (true, os)) (he : ((Lk.cut 10 s.toList).getD ((Lk.cut 10 s.toList).length - 1) []).isEmpty = true) :
    Calls Try.prog 9 #[.string s] w fun e w' => e = .returned (.tuple #[.pointer (some ⟨w.heap.size, 0, none⟩), .int .i64 0]) ∧ Below w.heap.size w w' := by
  have hsI : (s.size : Int) ≤ 600 := by omega
  have HO := hid ho
  clear ho
  have HE := hid he
  clear he
  go_enter Try.func9, Try.ntmps9
  go_wp2_with (first
    | (go_at_call 17; refine (cut_any s 10 _ (by omega)).mono ?_; rintro e w1 ⟨g, cap, L, rfl, hLc, hown1, hb1⟩; have HF1 := hid (frep_start hb1 hown1); have HLC := hid hLc; have HB1 := hid hb1; have HLN := hid (lines_of hs hLc); have HBO := hid (blk_of hLc HO.out); have HLA := hid (last_of hLc); have q1 := (start_row hb1).cell (i := 1) (by omega); rw [show fcell w.heap.size nil_ {} 1 = .slice none 0 0 from rfl] at q1; have q2 := (start_row hb1).frozen 1; have hlI : (L.length : Int) ≤ 1000 := (by have := HLN.out.1; omega); have hlJ : (1 : Int) ≤ (L.length : Int) := (by have := HLN.out.2.1; omega); have lt1 := (start_row hb1).lt; clear hLc hown1 hb1)
    | (go_at_call 18; have hh := block_gen L g cap 0 (by omega) (fun _ => block_ok L g cap HLN.out.2.2 3 1 rfl) HLN.out.1 HLN.out.2.2 L.length _ w.heap.size w.heap.size (w.heap.size + 1) [] {} _ _ _ _ HF1.out rfl (Nat.le_add_left _ _) HLN.out.2.1 (Nat.zero_le _) (.inr (by simpa using HLN.out.1)) (Nat.le_succ _); rw [HBO.out.1] at hh; refine hh.mono ?_; rintro e w2 ⟨ad, n2, c2, l2, vn, vk, vz, rfl, hF2, hds2, hb2, -⟩; have HF2 := hid hF2; have HB2 := hid hb2; have r2 := HF2.out.row.cell (i := 2) (by omega); have r1 := HF2.out.row.cell (i := 1) (by omega); have r0 := HF2.out.row.cell (i := 0) (by omega); rw [show fst_ w.heap.size g cap L.length os 2 = .int .i64 os.at_ from rfl] at r2; rw [show fst_ w.heap.size g cap L.length os 1 = .slice (some ⟨g, 0, none⟩) L.length cap from rfl] at r1; rw [show fst_ w.heap.size g cap L.length os 0 = .pointer (some ⟨w.heap.size, 0, none⟩) from rfl] at r0; have lt2 := HF2.out.row.lt; have haI : (os.at_ : Int) < (L.length : Int) := (by have := HBO.out.2; omega); obtain ⟨m, hm⟩ : ∃ m, L.length - 1 = m := ⟨_, rfl⟩; have hmI : (L.length : Int) - 1 = (m : Int) := (by have := HLN.out.2.1; omega); have hm0 : (0 : Int) ≤ (m : Int) := (by omega); have hmJ : (m : Int) < (L.length : Int) := (by omega); have hla := HF2.out.lin m (by have := HLN.out.2.1; omega); obtain ⟨q, hq⟩ : ∃ q, L.getD m ByteArray.empty = q := ⟨_, rfl⟩; rw [hq] at hla; have hqe : q.toList.isEmpty = true := (by rw [← hq, ← hm, HLA.out]; exact HE.out); have p3 := HF2.out.prog.row.cell (i := 3) (by omega); have k3 := HF2.out.prog.row.frozen 3; clear hq hm; clear hF2 hds2 hb2 hh))
  go_ret2
  exact ⟨rfl, ((((((Below.refl w.heap.size w).alloc (Nat.le_refl _) progO).alloc (by simp) (readO w)).trans (HB1.out.mono (by simp; omega))).setCell (p := ⟨w.heap.size + 1, 1, none⟩) (Nat.le_succ _) _).trans HB2.out).setCell (p := ⟨w.heap.size, 3, none⟩) (Nat.le_refl _) _⟩

/-- What 'Read' says. -/
def RefOut (w w' : World) (e : Ending) (o : Bool × Nat) : Prop :=
  Below w.heap.size w w' ∧ (o.1 = false → 0 < o.2 ∧ e = .returned (.tuple #[.pointer none, .int .i64 o.2])) ∧ (o.1 = true → e = .returned (.tuple #[.pointer (some ⟨w.heap.size, 0, none⟩), .int .i64 0]))

theorem refRead_any (s : ByteArray) (hs : s.size ≤ 600) (w : World) : Calls Try.prog 9 #[.string s] w fun e w' => RefOut w w' e (Rf.readS s.toList) := by
  obtain ⟨⟨ob, os⟩, ho⟩ : ∃ o, Rf.blkS (Lk.cut 10 s.toList) (Lk.cut 10 s.toList).length 0 {} = o := ⟨_, rfl⟩
  cases ob with
  | false =>
    have hr : Rf.readS s.toList = (false, os.at_ + 1) := by unfold Rf.readS; rw [ho]
    rw [hr]
    refine (read_wrong s hs w os ho).mono ?_
    intro e w' hh
    exact ⟨hh.2, fun _ => ⟨Nat.succ_pos _, hh.1⟩, fun h => by cases h⟩
  | true =>
    cases he : ((Lk.cut 10 s.toList).getD ((Lk.cut 10 s.toList).length - 1) []).isEmpty with
    | true =>
      have hr : Rf.readS s.toList = (true, 0) := by unfold Rf.readS; rw [ho]; dsimp only; rw [if_pos (List.isEmpty_iff.1 he)]
      rw [hr]
      refine (read_good s hs w os ho he).mono ?_
      intro e w' hh
      exact ⟨hh.2, (fun h => by cases h), fun _ => hh.1⟩
    | false =>
      have hr : Rf.readS s.toList = (false, (Lk.cut 10 s.toList).length) := by unfold Rf.readS; rw [ho]; dsimp only; rw [if_neg (fun h => by rw [h] at he; cases he)]
      rw [hr]
      refine (read_tail s hs w os ho _ rfl he).mono ?_
      intro e w' hh
      have hne : 0 < (Lk.cut 10 s.toList).length := by
        have := Lk.cut_ne 10 s.toList
        cases hc : Lk.cut 10 s.toList with
        | nil => exact absurd hc this
        | cons x xs => simp
      exact ⟨hh.2, fun _ => ⟨hne, hh.1⟩, fun h => by cases h⟩

end Go.Proofs.Ytkfejeomfdhmdaa
