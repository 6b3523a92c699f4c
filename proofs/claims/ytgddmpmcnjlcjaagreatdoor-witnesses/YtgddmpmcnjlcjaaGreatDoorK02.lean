import Derived.Test.YtgddmpmcnjlcjaaGreatDoorB43
namespace Go.Proofs.YtgddmpmcnjlcjaaGreatDoor
open Go.RowKit
open Tm (TsOk DsOk Wd16)
set_option linter.unusedVariables false
theorem newB_lt {w w' : World} : ∀ k, NewB w w' k → k < w'.heap.size := fun k h => h.2
set_option maxRecDepth 100000 in
set_option maxHeartbeats 1000000 in
theorem verd_nil (s : ByteArray) (k : Int) (w : World) (h : wi k 10 = false ∨ 600 < s.size ∨ (s.size ≤ 600 ∧ (Rf.readS s.toList).1 = false)) : Calls Tryz.prog 3 #[.string s, .int .i64 k] w fun e w' => e = .returned (.bool true) ∧ Below w.heap.size w w' := by
  have H := hid h
  clear h
  go_enter Tryz.func3, Tryz.ntmps3
  go_wp2_with (first
    | (go_at_call 6; refine (prog_nil s k _ H.out).mono ?_; rintro e w1 ⟨rfl, hb1⟩; have HB1 := hid hb1; clear hb1))
  go_ret
  exact ⟨rfl, HB1.out⟩
set_option maxRecDepth 100000 in
set_option maxHeartbeats 1000000 in
theorem verd_some (s : ByteArray) (k : Nat) (w : World) (hk : wi (k : Int) 10 = true) (hk10 : k ≤ 10) (hs6 : s.size ≤ 600) (ds : List Rf.Dc) (ts : List Rf.Tr) (rp : ∀ w : World, Calls Tryz.prog 14 #[.string s] w fun e w' => e = .returned (.tuple #[.pointer (some ⟨w.heap.size, 0, none⟩), .int .i64 0]) ∧ Below w.heap.size w w' ∧ ProgAt w w' ds ts)
    (tok : TsOk ds ts) (dok : DsOk ds) (dlen : ds.length ≤ 1000) (h3 : (secL ds).length ≤ 3) (hci : (∀ x, x < 16 ^ (secL ds).length → OKx ds ts k x) ↔ ¬ (Pr.fd (pgOf s.toList) k).al < k) (ck : ChkOk s k) (htab : Tab w) :
    Calls Tryz.prog 3 #[.string s, .int .i64 (k : Int)] w fun e w' => e = .returned (.bool true) ∧ Below w.heap.size w w' := by
  have RP := hid rp
  have TOK := hid tok
  have DOK := hid dok
  have DLEN := hid dlen
  have H3 := hid h3
  have HCI := hid hci
  have CK := hid ck
  have HTAB := hid htab
  have hkI : (k : Int) ≤ 10 := by omega
  clear rp tok dok dlen h3 hci ck htab
  by_cases hal : (Pr.fd (pgOf s.toList) k).al < k
  · have HAL := hid hal
    clear hal
    go_enter Tryz.func3, Tryz.ntmps3
    go_wp2_with (first
      | (go_at_call 6; refine (prog_some s k _ hk hs6 ds ts RP.out).mono ?_; rintro e w1 ⟨w5, rfl, hb1, l, vn, vk, vz, vb, hds, hrep, hsub⟩; have HB1 := hid hb1; have z1 := hb1.size; have HD := hid hds; have HREP := hid hrep; have HSUB := hid hsub; clear hb1 hds hrep hsub)
      | (go_at_call 7; refine (CK.out _ (tab_on HTAB.out HB1.out)).mono ?_; rintro e w2 hc; obtain ⟨a1, c1, a2, c2, i, j, nv, f, g, nd, cf, he, -⟩ := hc.ins HAL.out; subst he; have HB2 := hid hc.bel; have z2 := hc.bel.size; clear hc; refine Hid.out ?_))
    refine hid ?_
    have hln : l.length ≤ 1000 := by have h := DLEN.out; rw [HD.out] at h; simpa [dcs] using h
    have hh := fun o : Obj => const_run (rep_later HREP.out (HB2.out.alloc z2 o)) hln (by have h := DOK.out; rw [HD.out] at h; exact h) (sub_later HSUB.out (HB2.out.alloc z2 o)) (fun k hk => by have h := hk.2; rw [World.size_alloc]; omega) (by have h := TOK.out; rw [HD.out] at h; exact h) (by have h := H3.out; rw [HD.out] at h; exact h) k hk10
    rw [← HD.out] at hh
    have HH := hid hh
    clear hh
    go_wp2_with (first
      | (go_at_call 8; refine (HH.out _).mono ?_; rintro e w3 ⟨b, he, hbi, hb3⟩; have hbf : b = false := (by cases b with | false => rfl | true => exact absurd HAL.out (HCI.out.1 (hbi.1 rfl))); subst hbf; subst he; have HB3 := hid hb3; clear hb3 hbi))
    go_ret
    exact ⟨rfl, ((HB1.out.trans (HB2.out.mono z1)).alloc (by omega) _).trans (HB3.out.mono (by rw [World.size_alloc]; omega))⟩
  · have HAL := hid hal
    clear hal
    go_enter Tryz.func3, Tryz.ntmps3
    go_wp2_with (first
      | (go_at_call 6; refine (prog_some s k _ hk hs6 ds ts RP.out).mono ?_; rintro e w1 ⟨w5, rfl, hb1, l, vn, vk, vz, vb, hds, hrep, hsub⟩; have HB1 := hid hb1; have z1 := hb1.size; have HD := hid hds; have HREP := hid hrep; have HSUB := hid hsub; clear hb1 hds hrep hsub)
      | (go_at_call 7; refine (CK.out _ (tab_on HTAB.out HB1.out)).mono ?_; rintro e w2 hc; obtain ⟨nv, f, g, nd, cf, he⟩ := hc.sec HAL.out; subst he; have HB2 := hid hc.bel; have z2 := hc.bel.size; clear hc; refine Hid.out ?_))
    refine hid ?_
    have hln : l.length ≤ 1000 := by have h := DLEN.out; rw [HD.out] at h; simpa [dcs] using h
    have hh := fun o : Obj => const_run (rep_later HREP.out (HB2.out.alloc z2 o)) hln (by have h := DOK.out; rw [HD.out] at h; exact h) (sub_later HSUB.out (HB2.out.alloc z2 o)) (fun k hk => by have h := hk.2; rw [World.size_alloc]; omega) (by have h := TOK.out; rw [HD.out] at h; exact h) (by have h := H3.out; rw [HD.out] at h; exact h) k hk10
    rw [← HD.out] at hh
    have HH := hid hh
    clear hh
    go_wp2_with (first
      | (go_at_call 8; refine (HH.out _).mono ?_; rintro e w3 ⟨b, he, hbi, hb3⟩; have hbf : b = true := hbi.2 (HCI.out.2 HAL.out); subst hbf; subst he; have HB3 := hid hb3; clear hb3 hbi))
    go_ret
    exact ⟨rfl, ((HB1.out.trans (HB2.out.mono z1)).alloc (by omega) _).trans (HB3.out.mono (by rw [World.size_alloc]; omega))⟩
theorem Verdicts_of (ck : ∀ (s : ByteArray) (k : Nat), k ≤ 10 → (Lk.read s.toList).2 = 0 → ChkOk s k) (s : ByteArray) (k : Int) (w : World) (htab : Tab w) : Calls Tryz.prog 3 #[.string s, .int .i64 k] w fun e w' => e = .returned (.bool true) ∧ Below w.heap.size w w' := by
  cases hk : wi k 10 with
  | false => exact verd_nil s k w (.inl hk)
  | true =>
    by_cases h6 : 600 < s.size
    · exact verd_nil s k w (.inr (.inl h6))
    · have hl6 : s.size ≤ 600 := by omega
      have htl : s.toList.length ≤ 600 := by rw [tl_len]; exact hl6
      cases hr : (Rf.readS s.toList).1 with
      | false => exact verd_nil s k w (.inr (.inr ⟨hl6, hr⟩))
      | true =>
        have h0 : (Lk.read s.toList).2 = 0 := (Rf.read_line s.toList htl).trans (readS_zero _ hr)
        obtain ⟨os, h1, h2, h3⟩ := readS_of hr
        obtain ⟨ts, hts⟩ : ∃ ts, (Rf.blk (Lk.cut 10 s.toList) (Lk.cut 10 s.toList).length 0 {} []).2.1 = ts := ⟨_, rfl⟩
        have rp := fun w => read_good s hl6 w os h1 h2
        rw [hts] at h3 rp
        obtain ⟨tok, dok, dlen⟩ := prog_ok h3 htl
        have nr := (Tm.read_laid h0 h3).2
        have hsec : (pgOf s.toList).sec = secL os.ds := nr.sec
        have hkk := wi_true hk
        obtain ⟨K, hK⟩ : ∃ K : Nat, k = (K : Int) := ⟨k.toNat, by omega⟩
        subst hK
        exact verd_some s K w hk (by omega) hl6 os.ds ts rp tok dok dlen (by rw [← hsec]; exact (pgOf_ok s.toList).sec) (const_iff h0 h3 K) (ck s K (by omega) h0) htab
end Go.Proofs.YtgddmpmcnjlcjaaGreatDoor
