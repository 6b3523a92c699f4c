import Derived.Test.YtgddmpmcnjlcjaaK25
/- Run, held against the reference: a program. -/
namespace Go.Proofs.Ytgddmpmcnjlcjaa
open Go.RowKit
open Tm (TsOk DsOk Wd16)
set_option linter.unusedVariables false

set_option maxRecDepth 100000 in
set_option maxHeartbeats 2000000 in
theorem ran_unfit (s : ByteArray) (k : Int) (vi : Value) (xs : List Int) (hs : s.size ≤ 16384) (hx : xs.length ≤ 16384) (w : World) (hi : InAt w vi xs) (rn : RunNil s k xs) (hk : wi k 10 = true) (hs6 : s.size ≤ 600) (ds : List Rf.Dc) (ts : List Rf.Tr) (hln : ds.length ≤ 1000) (rp : ∀ w : World, Calls Try.prog 8 #[.string s] w fun e w' => e = .returned (.tuple #[.pointer (some ⟨w.heap.size, 0, none⟩), .int .i64 0]) ∧ Below w.heap.size w w' ∧ ProgAt w w' ds ts) (n : Nat) (hn : (ds.filter Tm.isIn).length = n) (Q : Bool) (hQ : ((n : Int) == (xs.length : Int)) = Q) (hf : (Q && wds xs) = false) :
    Calls Try.prog 4 #[.string s, vi, .int .i64 k] w fun e w' => RanOut w w' e := by
  obtain ⟨t0, ht0, hz0, hz1, hz2⟩ := info_parts Try.infoInt
  obtain ⟨ai, ci, ei⟩ := hi.val
  have HI := hid hi
  clear hi
  subst ei
  have HSZ : Hid ((Try.prog.info? 3).map (·.size) = some 1) := by
    show _ = _
    rw [ht0]; simp [hz1]
  have HN : Hid ((xs.map fun x => Value.int .i64 x).length = Nat.min xs.length xs.length) := by
    show _ = _
    rw [List.length_map]; exact (Nat.min_self _).symm
  have HFIT : Hid (0 + (xs.map fun x => Value.int .i64 x).length ≤ (madeCells (Value.int .i64 0).cells (xs.length * 1)).toList.length) := by
    show _ ≤ _
    rw [made_len', List.length_map]; omega
  have HONE : Hid (∀ v ∈ (xs.map fun x => Value.int .i64 x), v.oneCell' = true) := by
    intro v hv
    obtain ⟨n, _, rfl⟩ := List.mem_map.1 hv
    rfl
  have hnn := nil_nil
  have hlI : (xs.length : Int) ≤ 20000 := by omega
  have hsI : (s.size : Int) ≤ 20000 := by omega
  have RN := hid rn
  have RP := hid rp
  have HLN := hid hln
  have HNN := hid hn
  have HF := hid hf
  have HQ0 := hid hQ
  have h6I : ¬ (600 : Int) < (s.size : Int) := by omega
  clear rn rp hln hn hf hQ
  go_enter Try.func4, Try.ntmps4
  go_wp2_with (first
    | (at_make; refine wpList_make_full _ rfl _ _ 22 rfl w.heap.size 3 t0 (.int .i64 0) 1 Try.underlying22 ht0 hz0 hz1 .i64 .i64 _ _ xs.length rfl rfl rfl rfl (by rw [hz2]; omega) (by unfold maxLen; omega) (Nat.le_refl _) ?_; intro w1 hown1 hgrow1; have HG1 := hid (own_full' hown1); have HB1 := hid (Below.grown (Below.refl w.heap.size w) hgrow1 (Nat.le_refl _) (fun q hq => by cases hq)); have hlt1 := (hown1.lt w.heap.size rfl).2; clear hown1 hgrow1)
    | (refine wpList_copy_splice rfl (.tmp 21) (.tmp 22) 22 22 rfl 3 Try.underlying22 HSZ.out _ _ xs.length xs.length xs.length ci rfl rfl w.heap.size 0 _ 3 HG1.out (xs.map fun x => Value.int .i64 x) HN.out (cposI HB1.out HI.out) HFIT.out HONE.out w.heap.size w HB1.out (Nat.le_refl _) ?_; intro w2 HG2 hB2; have HB2 := hid hB2; have z2 := hB2.size; clear hB2))
  rw [splice_all' _ _ (by rw [made_len', List.length_map, Nat.mul_one])] at HG2
  have HO2 := hid (own_ints (xs := xs) rfl (by omega) HG2.out)
  have HL2 := hid (InAt.ofOwn HO2.out)
  have HI2 := hid (HI.out.later HB2.out.block)
  clear HG1 HG2 hlt1
  go_wp2_with (first
    | (go_at_call 5; refine (RN.out _ _ HL2.out).mono ?_; rintro e w3 ⟨rfl, hb3⟩; have HB3 := hid hb3; have z3 := hb3.size; have HL3 := hid (HL2.out.later hb3.block); have HI3 := hid (HI2.out.later hb3.block); clear hb3)
    | (go_at_call 6; refine (same_true _ _ xs _ HL3.out HI3.out (by omega)).mono ?_; rintro e w4 ⟨rfl, hb4⟩; have HB4 := hid hb4; have z4 := hb4.size; have HI4 := hid (HI3.out.later hb4.block); clear hb4)
    | (go_at_call 7; refine (bounded_yes k 0 0 _ hk (by decide) (by decide)).mono ?_; rintro e w5 ⟨rfl, hb5⟩; have HB5 := hid hb5; have z5 := hb5.size; have HI5 := hid (HI4.out.later hb5.block); clear hb5)
    | (go_at_call 8; refine (RP.out _).mono ?_; rintro e w6 ⟨rfl, hb6, hp6⟩; obtain ⟨l, vn, vk, vz, vb, hds, hrep, hsub⟩ := hp6; have HB6 := hid hb6; have z6 := hb6.size; have HI6 := hid (HI5.out.later hb6.block); have HD := hid hds; have HREP := hid hrep; have HSUB := hid hsub; clear hb6 hds hrep hsub)
    | (go_at_call 9; refine (secrets_run HREP.out (by have h := HLN.out; rw [HD.out] at h; simpa [dcs] using h)).mono ?_; rintro e w7 ⟨as_, cs_, he, -, hb7⟩; rw [← HD.out, secL_len, HNN.out] at he; subst he; have HB7 := hid hb7; have z7 := hb7.size; have HI7 := hid (HI6.out.later hb7.block); clear hb7))
  go_loopw [11, 15] (fun f c wr => ∃ i : Nat, i ≤ xs.length ∧ c = .int .i64 i ∧ f = .bool (Q && wds (xs.take i)) ∧ Below w7.heap.size w7 wr) (fun _ c _ => xs.length - (intOf c).toNat)
  case atStart => exact ⟨0, Nat.zero_le _, rfl, (by rw [HQ0.out]; simp [wds]), Below.refl _ _⟩
  case round =>
    obtain ⟨i, hil, rfl, rfl, hbel⟩ := hrel
    have HB8 := hid hbel
    by_cases hlt : i < xs.length
    · have hta := wds_take xs i hlt
      obtain ⟨ga, oa, ca', hva, ica⟩ := HI7.out.at_ i hlt
      have h1 := (slice_inj hva).1
      subst h1
      have ya := (World.cell?_of_block (hbel.block ga (World.block_lt_of_cell? w7 _ ica))).trans ica
      generalize xs.getD i 0 = x at ya hta
      have HTA := hid hta
      clear hbel ica hva hta
      cases hq : (Q && wds (xs.take i)) with
      | false =>
        have HQ := hid (show (Q && wds (xs.take (i + 1))) = false by rw [HTA.out, ← Bool.and_assoc, hq]; rfl)
        go_wp2_with fail
        go_roundw
        case rel => exact ⟨i + 1, by omega, by go_num, by rw [HQ.out], HB8.out⟩
        case measure => simp [intOf]; omega
      | true =>
        have HQ := hid (show (Q && wds (xs.take (i + 1))) = wi x 15 by rw [HTA.out, ← Bool.and_assoc, hq]; rfl)
        by_cases h0 : 0 ≤ x
        · by_cases h16 : x < 16
          · have hwx : wi x 15 = true := by unfold wi; exact decide_eq_true ⟨h0, by omega⟩
            go_wp2_with fail
            go_roundw
            case rel => exact ⟨i + 1, by omega, by go_num, by rw [HQ.out, hwx], HB8.out⟩
            case measure => simp [intOf]; omega
          · have hwx : wi x 15 = false := by unfold wi; exact decide_eq_false (by omega)
            go_wp2_with fail
            go_roundw
            case rel => exact ⟨i + 1, by omega, by go_num, by rw [HQ.out, hwx], HB8.out⟩
            case measure => simp [intOf]; omega
        · have hwx : wi x 15 = false := by unfold wi; exact decide_eq_false (by omega)
          go_wp2_with fail
          go_roundw
          case rel => exact ⟨i + 1, by omega, by go_num, by rw [HQ.out, hwx], HB8.out⟩
          case measure => simp [intOf]; omega
    · have hie : i = xs.length := by omega
      have hE : wds (xs.take i) = wds xs := by rw [hie, List.take_length]
      rw [hE, HF.out]
      clear hbel hE hie
      go_wp2_with fail
      go_ret2
      exact ⟨⟨_, _, _, rfl⟩, ((((((HB2.out.trans (HB3.out.mono z2)).trans (HB4.out.mono (Nat.le_trans z2 z3))).trans (HB5.out.mono (by omega))).trans (HB6.out.mono (by omega))).trans (HB7.out.mono (by omega))).trans (HB8.out.mono (by omega)))⟩

end Go.Proofs.Ytgddmpmcnjlcjaa

/- Run, held against the reference: a program, inputs that fit. -/
namespace Go.Proofs.Ytgddmpmcnjlcjaa
open Go.RowKit
open Tm (TsOk DsOk Wd16)
set_option linter.unusedVariables false

set_option maxRecDepth 100000 in
set_option maxHeartbeats 2000000 in
theorem ran_good (s : ByteArray) (k : Nat) (vi : Value) (xs : List Int) (hs : s.size ≤ 16384) (hx : xs.length ≤ 16384) (w : World) (hi : InAt w vi xs) (T : List Nat) (hT : T.length = k) (rg : ∀ (w : World) (v : Value), w.ownsRow 0 3 1 v xs.length (xs.map fun x => .int .i64 x) → Calls Try.prog 5 #[.string s, v, .int .i64 (k : Int)] w fun e w' => ∃ a c, e = .returned (.slice a k c) ∧ w'.ownsRow w.heap.size 3 1 (.slice a k c) k (T.map fun (n : Nat) => .int .i64 n) ∧ Below w.heap.size w w') (hk10 : k ≤ 10) (ins : List Nat) (hins : xs = ints ins) (h16 : ∀ x ∈ ins, x < 16) (hk : wi (k : Int) 10 = true) (hs6 : s.size ≤ 600) (ds : List Rf.Dc) (ts : List Rf.Tr) (hln : ds.length ≤ 1000) (rp : ∀ w : World, Calls Try.prog 8 #[.string s] w fun e w' => e = .returned (.tuple #[.pointer (some ⟨w.heap.size, 0, none⟩), .int .i64 0]) ∧ Below w.heap.size w w' ∧ ProgAt w w' ds ts) (n : Nat) (hn : (ds.filter Tm.isIn).length = n) (Q : Bool) (hQ : ((n : Int) == (xs.length : Int)) = Q) (hf : (Q && wds xs) = true) (hlen : ins.length = n) (tok : TsOk ds ts) (dok : DsOk ds) (hte : tellL ds (Tm.start ds ts ins) k = T) :
    Calls Try.prog 4 #[.string s, vi, .int .i64 (k : Int)] w fun e w' => RanOut w w' e := by
  obtain ⟨t0, ht0, hz0, hz1, hz2⟩ := info_parts Try.infoInt
  obtain ⟨ai, ci, ei⟩ := hi.val
  have HI := hid hi
  clear hi
  subst ei
  have HSZ : Hid ((Try.prog.info? 3).map (·.size) = some 1) := by
    show _ = _
    rw [ht0]; simp [hz1]
  have HN : Hid ((xs.map fun x => Value.int .i64 x).length = Nat.min xs.length xs.length) := by
    show _ = _
    rw [List.length_map]; exact (Nat.min_self _).symm
  have HFIT : Hid (0 + (xs.map fun x => Value.int .i64 x).length ≤ (madeCells (Value.int .i64 0).cells (xs.length * 1)).toList.length) := by
    show _ ≤ _
    rw [made_len', List.length_map]; omega
  have HONE : Hid (∀ v ∈ (xs.map fun x => Value.int .i64 x), v.oneCell' = true) := by
    intro v hv
    obtain ⟨n, _, rfl⟩ := List.mem_map.1 hv
    rfl
  have hnn := nil_nil
  have hlI : (xs.length : Int) ≤ 20000 := by omega
  have hsI : (s.size : Int) ≤ 20000 := by omega
  have RG := hid rg
  have HINS := hid hins
  have H16 := hid h16
  have HLEN := hid hlen
  have TOK := hid tok
  have DOK := hid dok
  have HTE := hid hte
  have HTL := hid hT
  have hkI : (k : Int) ≤ 10 := by omega
  have RP := hid rp
  have HLN := hid hln
  have HNN := hid hn
  have HF := hid hf
  have HQ0 := hid hQ
  have h6I : ¬ (600 : Int) < (s.size : Int) := by omega
  clear rg rp hln hn hf hQ hins h16 hlen tok dok hte hT
  go_enter Try.func4, Try.ntmps4
  go_wp2_with (first
    | (at_make; refine wpList_make_full _ rfl _ _ 22 rfl w.heap.size 3 t0 (.int .i64 0) 1 Try.underlying22 ht0 hz0 hz1 .i64 .i64 _ _ xs.length rfl rfl rfl rfl (by rw [hz2]; omega) (by unfold maxLen; omega) (Nat.le_refl _) ?_; intro w1 hown1 hgrow1; have HG1 := hid (own_full' hown1); have HB1 := hid (Below.grown (Below.refl w.heap.size w) hgrow1 (Nat.le_refl _) (fun q hq => by cases hq)); have hlt1 := (hown1.lt w.heap.size rfl).2; clear hown1 hgrow1)
    | (refine wpList_copy_splice rfl (.tmp 21) (.tmp 22) 22 22 rfl 3 Try.underlying22 HSZ.out _ _ xs.length xs.length xs.length ci rfl rfl w.heap.size 0 _ 3 HG1.out (xs.map fun x => Value.int .i64 x) HN.out (cposI HB1.out HI.out) HFIT.out HONE.out w.heap.size w HB1.out (Nat.le_refl _) ?_; intro w2 HG2 hB2; have HB2 := hid hB2; have z2 := hB2.size; clear hB2))
  rw [splice_all' _ _ (by rw [made_len', List.length_map, Nat.mul_one])] at HG2
  have HO2 := hid (own_ints (xs := xs) rfl (by omega) HG2.out)
  have HL2 := hid (InAt.ofOwn HO2.out)
  have HI2 := hid (HI.out.later HB2.out.block)
  clear HG1 HG2 hlt1
  go_wp2_with (first
    | (go_at_call 5; refine (RG.out _ _ HO2.out).mono ?_; rintro e w3 ⟨ao, co, rfl, ho3, hb3⟩; have HB3 := hid hb3; have z3 := hb3.size; have HL3 := hid (HL2.out.later hb3.block); have HI3 := hid (HI2.out.later hb3.block); have HW3 := hid (InAt.ofOwn (ints_own ho3)); clear hb3 ho3)
    | (go_at_call 6; refine (same_true _ _ xs _ HL3.out HI3.out (by omega)).mono ?_; rintro e w4 ⟨rfl, hb4⟩; have HB4 := hid hb4; have z4 := hb4.size; have HI4 := hid (HI3.out.later hb4.block); have HW4 := hid (HW3.out.later hb4.block); clear hb4)
    | (go_at_call 7; refine (bounded_yes (k : Int) 0 0 _ hk (by decide) (by decide)).mono ?_; rintro e w5 ⟨rfl, hb5⟩; have HB5 := hid hb5; have z5 := hb5.size; have HI5 := hid (HI4.out.later hb5.block); have HW5 := hid (HW4.out.later hb5.block); clear hb5)
    | (go_at_call 8; refine (RP.out _).mono ?_; rintro e w6 ⟨rfl, hb6, hp6⟩; obtain ⟨l, vn, vk, vz, vb, hds, hrep, hsub⟩ := hp6; have HB6 := hid hb6; have z6 := hb6.size; have HI6 := hid (HI5.out.later hb6.block); have HW6 := hid (HW5.out.later hb6.block); have HD := hid hds; have HREP := hid hrep; have HSUB := hid hsub; clear hb6 hds hrep hsub)
    | (go_at_call 9; refine (secrets_run HREP.out (by have h := HLN.out; rw [HD.out] at h; simpa [dcs] using h)).mono ?_; rintro e w7 ⟨as_, cs_, he, -, hb7⟩; rw [← HD.out, secL_len, HNN.out] at he; subst he; have HB7 := hid hb7; have z7 := hb7.size; have HI7 := hid (HI6.out.later hb7.block); have HW7 := hid (HW6.out.later hb7.block); clear hb7))
  go_loopw [11, 15] (fun f c wr => ∃ i : Nat, i ≤ xs.length ∧ c = .int .i64 i ∧ f = .bool (Q && wds (xs.take i)) ∧ Below w7.heap.size w7 wr) (fun _ c _ => xs.length - (intOf c).toNat)
  case atStart => exact ⟨0, Nat.zero_le _, rfl, (by rw [HQ0.out]; simp [wds]), Below.refl _ _⟩
  case round =>
    obtain ⟨i, hil, rfl, rfl, hbel⟩ := hrel
    have HB8 := hid hbel
    by_cases hlt : i < xs.length
    · have hta := wds_take xs i hlt
      obtain ⟨ga, oa, ca', hva, ica⟩ := HI7.out.at_ i hlt
      have h1 := (slice_inj hva).1
      subst h1
      have ya := (World.cell?_of_block (hbel.block ga (World.block_lt_of_cell? w7 _ ica))).trans ica
      generalize xs.getD i 0 = x at ya hta
      have HTA := hid hta
      clear hbel ica hva hta
      cases hq : (Q && wds (xs.take i)) with
      | false =>
        have HQ := hid (show (Q && wds (xs.take (i + 1))) = false by rw [HTA.out, ← Bool.and_assoc, hq]; rfl)
        go_wp2_with fail
        go_roundw
        case rel => exact ⟨i + 1, by omega, by go_num, by rw [HQ.out], HB8.out⟩
        case measure => simp [intOf]; omega
      | true =>
        have HQ := hid (show (Q && wds (xs.take (i + 1))) = wi x 15 by rw [HTA.out, ← Bool.and_assoc, hq]; rfl)
        by_cases h0 : 0 ≤ x
        · by_cases h16 : x < 16
          · have hwx : wi x 15 = true := by unfold wi; exact decide_eq_true ⟨h0, by omega⟩
            go_wp2_with fail
            go_roundw
            case rel => exact ⟨i + 1, by omega, by go_num, by rw [HQ.out, hwx], HB8.out⟩
            case measure => simp [intOf]; omega
          · have hwx : wi x 15 = false := by unfold wi; exact decide_eq_false (by omega)
            go_wp2_with fail
            go_roundw
            case rel => exact ⟨i + 1, by omega, by go_num, by rw [HQ.out, hwx], HB8.out⟩
            case measure => simp [intOf]; omega
        · have hwx : wi x 15 = false := by unfold wi; exact decide_eq_false (by omega)
          go_wp2_with fail
          go_roundw
          case rel => exact ⟨i + 1, by omega, by go_num, by rw [HQ.out, hwx], HB8.out⟩
          case measure => simp [intOf]; omega
    · have hie : i = xs.length := by omega
      have hE : wds (xs.take i) = wds xs := by rw [hie, List.take_length]
      rw [hE, HF.out]
      clear hbel hE hie
      have HREP8 := hid (rep_later HREP.out (HB7.out.trans (HB8.out.mono z7)))
      have HSUB8 := hid (sub_later HSUB.out (HB7.out.trans (HB8.out.mono z7)))
      have HI8 := hid ((HI7.out.later HB8.out.block).cast HINS.out)
      have HW8 := hid (HW7.out.later HB8.out.block)
      have z8 := HB8.out.size
      rw [HD.out] at HTE TOK DOK HNN HLN
      go_wp2_with (first
        | (go_at_call 10; refine (tells_run HREP8.out (by have h := HLN.out; simpa [dcs] using h) DOK.out HSUB8.out TOK.out ins H16.out (HLEN.out.trans HNN.out.symm) _ HI8.out k hk10).mono ?_; rintro e w9 ⟨a9, c9, rfl, ho9, hb9⟩; rw [HTE.out] at ho9; have HB9 := hid hb9; have HV9 := hid (InAt.ofOwn (ints_own ho9)); have HW9 := hid (HW8.out.later hb9.block); have z9 := hb9.size; clear hb9 ho9)
        | (go_at_call 6; refine (same_true _ _ (ints T) _ HW9.out HV9.out (by rw [ints_len, HTL.out]; omega)).mono ?_; rintro e w10 ⟨rfl, hb10⟩; have HB10 := hid hb10; clear hb10))
      go_ret2
      exact ⟨⟨_, _, _, rfl⟩, (((((((((HB2.out.trans (HB3.out.mono z2)).trans (HB4.out.mono (Nat.le_trans z2 z3))).trans (HB5.out.mono (by omega))).trans (HB6.out.mono (by omega))).trans (HB7.out.mono (by omega))).trans (HB8.out.mono (by omega))).trans (HB9.out.mono (by omega))).trans (HB10.out.mono (by omega))))⟩

end Go.Proofs.Ytgddmpmcnjlcjaa

/- Run, held against the reference: whatever the input. -/
namespace Go.Proofs.Ytgddmpmcnjlcjaa
open Go.RowKit
open Tm (TsOk DsOk Wd16)
set_option linter.unusedVariables false

theorem ints_of {xs : List Int} (h : wds xs = true) : ∃ ins : List Nat, xs = ints ins ∧ (∀ x ∈ ins, x < 16) ∧ ins.length = xs.length := by
  induction xs with
  | nil => exact ⟨[], rfl, (fun x hx => by cases hx), rfl⟩
  | cons x xs ih =>
    have h : (wi x 15 && wds xs) = true := h
    rw [Bool.and_eq_true] at h
    obtain ⟨ins, e, h2, h3⟩ := ih h.2
    have hx := wi_true h.1
    refine ⟨x.toNat :: ins, ?_, ?_, by simp [h3]⟩
    · show x :: xs = ((x.toNat : Nat) : Int) :: ints ins
      rw [← e, Int.toNat_of_nonneg hx.1]
    · intro y hy
      rcases List.mem_cons.1 hy with c | c
      · rw [c]; omega
      · exact h2 y c

theorem ran_any (s : ByteArray) (k : Int) (vi : Value) (xs : List Int) (hs : s.size ≤ 16384) (hx : xs.length ≤ 16384) (w : World) (hi : InAt w vi xs) :
    Calls Try.prog 4 #[.string s, vi, .int .i64 k] w fun e w' => RanOut w w' e := by
  cases hk : wi k 10 with
  | false => exact ran_k s k vi xs hs hx w hi (fun w v _ => run_k s k v w hk) hk
  | true =>
    by_cases hl : 600 < s.size
    · have h1 : (Lk.read s.toList).2 = 1 := by unfold Lk.read; rw [if_pos (by rw [tl_len]; exact hl)]
      exact ran_long s k vi xs hs hx w hi (fun w v _ => run_wrong s k v w hk 1 h1 (by omega)) hk hl
    · have hl6 : s.size ≤ 600 := by omega
      have htl : s.toList.length ≤ 600 := by rw [tl_len]; exact hl6
      have hline := Rf.read_line s.toList htl
      cases hr : (Rf.readS s.toList).1 with
      | false => exact ran_none s k vi xs hs hx w hi (fun w v _ => run_wrong s k v w hk _ hline (readS_pos _ hr)) hk hl6 hr
      | true =>
        have h0 : (Lk.read s.toList).2 = 0 := hline.trans (readS_zero _ hr)
        obtain ⟨os, h1, h2, h3⟩ := readS_of hr
        obtain ⟨ts, hts⟩ : ∃ ts, (Rf.blk (Lk.cut 10 s.toList) (Lk.cut 10 s.toList).length 0 {} []).2.1 = ts := ⟨_, rfl⟩
        have rp := fun w => read_good s hl6 w os h1 h2
        rw [hts] at h3 rp
        obtain ⟨tok, dok, dlen⟩ := prog_ok h3 htl
        have nr := (Tm.read_laid h0 h3).2
        have hsec : (Lk.read s.toList).1.secret.length = (os.ds.filter Tm.isIn).length := by rw [nr.sec, List.length_map]
        obtain ⟨n, hn⟩ : ∃ n, (os.ds.filter Tm.isIn).length = n := ⟨_, rfl⟩
        obtain ⟨Q, hQ⟩ : ∃ Q, ((n : Int) == (xs.length : Int)) = Q := ⟨_, rfl⟩
        cases hf : (Q && wds xs) with
        | false =>
          refine ran_unfit s k vi xs hs hx w hi (fun w v hv => ?_) hk hl6 os.ds ts dlen rp n hn Q hQ hf
          by_cases hne : xs.length = n
          · refine run_words s k v xs w hk h0 n (hsec.trans hn) hv hne (by omega) ?_
            have : Q = true := by rw [← hQ, hne]; simp
            rw [this] at hf
            simpa using hf
          · exact run_len s k v xs w hk h0 n (hsec.trans hn) hv hne (by omega)
        | true =>
          rw [Bool.and_eq_true] at hf
          obtain ⟨ins, e, h16, hil⟩ := ints_of hf.2
          have hne : xs.length = n := by
            have h := hf.1
            rw [← hQ] at h
            have := eq_of_beq h
            omega
          have hkk := wi_true hk
          obtain ⟨K, hK⟩ : ∃ K : Nat, k = (K : Int) := ⟨k.toNat, by omega⟩
          subst hK
          have hlen : ins.length = (Lk.read s.toList).1.secret.length := by rw [hil, hne, hsec, hn]
          refine ran_good s K vi xs hs hx w hi (Mc.tells (pgOf s.toList) (Mc.ini ins) K) (by simp [Mc.tells]) (fun w v hv => ?_) (by omega) ins e h16 hk hl6 os.ds ts dlen rp n hn Q hQ (by rw [hf.1, hf.2]; rfl) (by omega) tok dok (tells_eq h0 h3 ins hlen K).symm
          refine run_ok s K (by omega) ins h16 h0 hlen w v ?_
          rw [hil]
          rw [e] at hv ⊢
          unfold ints at hv
          rw [List.map_map] at hv
          exact hv

set_option maxRecDepth 100000 in
set_option maxHeartbeats 1000000 in
theorem Runs_any (s : ByteArray) (vi : Value) (xs : List Int) (k : Int) (hm : xs.length ≤ 9223372036854775807) (w : World) (hi : InAt w vi xs) :
    Calls Try.prog 3 #[.string s, vi, .int .i64 k] w fun e w' => e = .returned (.bool true) ∧ Below w.heap.size w w' := by
  obtain ⟨ai, ci, ei⟩ := hi.val
  have HI := hid hi
  clear hi
  subst ei
  by_cases h1 : 16384 < s.size
  · have h1I : (16384 : Int) < (s.size : Int) := by omega
    go_enter Try.func3, Try.ntmps3
    go_wp2_with fail
    go_ret
    exact ⟨rfl, Below.refl _ _⟩
  · have h1I : ¬ (16384 : Int) < (s.size : Int) := by omega
    by_cases h2 : 16384 < xs.length
    · have h2I : (16384 : Int) < (xs.length : Int) := by omega
      go_enter Try.func3, Try.ntmps3
      go_wp2_with fail
      go_ret
      exact ⟨rfl, Below.refl _ _⟩
    · have h2I : ¬ (16384 : Int) < (xs.length : Int) := by omega
      go_enter Try.func3, Try.ntmps3
      go_wp2_with (first | (go_at_call 4; refine (ran_any s k _ xs (by omega) (by omega) _ HI.out).mono ?_; rintro e w1 ⟨⟨a, n, c, rfl⟩, hb⟩; have HB := hid hb; clear hb))
      go_ret
      exact ⟨rfl, HB.out⟩
end Go.Proofs.Ytgddmpmcnjlcjaa
