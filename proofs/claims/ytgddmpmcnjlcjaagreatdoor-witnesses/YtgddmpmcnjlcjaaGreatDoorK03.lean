import Derived.Test.YtgddmpmcnjlcjaaGreatDoorK01
import Derived.Test.YtgddmpmcnjlcjaaGreatDoorK02
namespace Go.Proofs.YtgddmpmcnjlcjaaGreatDoor
open Go.RowKit
open Tm (TsOk DsOk Wd16)
set_option linter.unusedVariables false
structure TwoOk (ds : List Rf.Dc) (ts : List Rf.Tr) (a b : List Nat) (al : Nat) : Prop where
  la : a.length = (secL ds).length
  lb : b.length = (secL ds).length
  a16 : ∀ x ∈ a, x < 16
  b16 : ∀ x ∈ b, x < 16
  pub : ∀ t, t < (secL ds).length → (secL ds).getD t false = false → a.getD t 0 = b.getD t 0
  ag : ∀ t, t < al → Tm.num ds (Tm.start ds ts a) t = Tm.num ds (Tm.start ds ts b) t
  df : Tm.num ds (Tm.start ds ts a) al ≠ Tm.num ds (Tm.start ds ts b) al
theorem two_ok {t : Lk.Wd} {ds : List Rf.Dc} {ts : List Rf.Tr} (h : (Lk.read t).2 = 0) (hr : Rf.read t = (some (ds, ts), 0)) (k : Nat) {i j : Nat} (hf : (Pr.fd (pgOf t) k).fi = some (i, j)) : TwoOk ds ts (Pr.inp (pgOf t).sec i 0) (Pr.inp (pgOf t).sec i j) (Pr.fd (pgOf t) k).al := by
  have nr := (Tm.read_laid h hr).2
  have hsec : (pgOf t).sec = secL ds := nr.sec
  obtain ⟨hi, hj, hlt, hne⟩ := (Pr.fd_ok (pgOf t) k).so i j hf
  have te : ∀ x n, Tm.num ds (Tm.start ds ts (Pr.inp (pgOf t).sec i x)) n = Pr.run (pgOf t) i x n := fun x n => (Tm.num_read h hr (Pr.inp (pgOf t).sec i x) (by rw [Pr.inp_len]; rfl) n).symm
  refine ⟨by rw [Pr.inp_len, hsec], by rw [Pr.inp_len, hsec], Pr.inp_lt _ _ _, Pr.inp_lt _ _ _, fun n hn hb => ?_, fun n hn => ?_, ?_⟩
  · rw [← hsec] at hn hb
    have e : (pgOf t).sec[n]? = some false := by
      rw [List.getElem?_eq_getElem hn]
      have e2 : (pgOf t).sec.getD n false = (pgOf t).sec[n] := by simp [hn]
      rw [← e2, hb]
    have h1 := Pr.inp_pub (pgOf t).sec i 0 j n e
    rw [List.getD_eq_getElem?_getD, List.getD_eq_getElem?_getD, h1]
  · rw [te, te]
    exact (Pr.fd_ok (pgOf t) k).all i j ⟨hi, hj⟩ n hn
  · rw [te, te]
    exact hne
set_option maxRecDepth 100000 in
set_option maxHeartbeats 1000000 in
theorem wit_nil (s : ByteArray) (k : Int) (w : World) (h : wi k 10 = false ∨ 600 < s.size ∨ (s.size ≤ 600 ∧ (Rf.readS s.toList).1 = false)) : Calls Tryz.prog 4 #[.string s, .int .i64 k] w fun e w' => e = .returned (.bool true) ∧ Below w.heap.size w w' := by
  have H := hid h
  clear h
  go_enter Tryz.func4, Tryz.ntmps4
  go_wp2_with (first
    | (go_at_call 6; refine (prog_nil s k _ H.out).mono ?_; rintro e w1 ⟨rfl, hb1⟩; have HB1 := hid hb1; clear hb1))
  go_ret
  exact ⟨rfl, HB1.out⟩
set_option maxRecDepth 100000 in
set_option maxHeartbeats 1000000 in
theorem wit_sec (s : ByteArray) (k : Nat) (w : World) (hk : wi (k : Int) 10 = true) (hs6 : s.size ≤ 600) (ds : List Rf.Dc) (ts : List Rf.Tr) (rp : ∀ w : World, Calls Tryz.prog 14 #[.string s] w fun e w' => e = .returned (.tuple #[.pointer (some ⟨w.heap.size, 0, none⟩), .int .i64 0]) ∧ Below w.heap.size w w' ∧ ProgAt w w' ds ts)
    (hal : ¬ (Pr.fd (pgOf s.toList) k).al < k) (ck : ChkOk s k) (htab : Tab w) :
    Calls Tryz.prog 4 #[.string s, .int .i64 (k : Int)] w fun e w' => e = .returned (.bool true) ∧ Below w.heap.size w w' := by
  have RP := hid rp
  have CK := hid ck
  have HTAB := hid htab
  have HAL := hid hal
  clear rp ck hal htab
  go_enter Tryz.func4, Tryz.ntmps4
  go_wp2_with (first
    | (go_at_call 6; refine (prog_some s k _ hk hs6 ds ts RP.out).mono ?_; rintro e w1 ⟨w5, rfl, hb1, -⟩; have HB1 := hid hb1; have z1 := hb1.size; clear hb1)
    | (go_at_call 7; refine (CK.out _ (tab_on HTAB.out HB1.out)).mono ?_; rintro e w2 hc; obtain ⟨nv, f, g, nd, cf, he⟩ := hc.sec HAL.out; subst he; have HB2 := hid hc.bel; have z2 := hc.bel.size; clear hc))
  go_ret
  exact ⟨rfl, (HB1.out.trans (HB2.out.mono z1)).alloc (by omega) _⟩
set_option maxRecDepth 100000 in
set_option maxHeartbeats 1000000 in
theorem wit_ins (s : ByteArray) (k : Nat) (w : World) (hk : wi (k : Int) 10 = true) (hk10 : k ≤ 10) (hs6 : s.size ≤ 600) (ds : List Rf.Dc) (ts : List Rf.Tr) (rp : ∀ w : World, Calls Tryz.prog 14 #[.string s] w fun e w' => e = .returned (.tuple #[.pointer (some ⟨w.heap.size, 0, none⟩), .int .i64 0]) ∧ Below w.heap.size w w' ∧ ProgAt w w' ds ts)
    (tok : TsOk ds ts) (dok : DsOk ds) (dlen : ds.length ≤ 1000) (h3 : (secL ds).length ≤ 3) (two : ∀ i j, (Pr.fd (pgOf s.toList) k).fi = some (i, j) → TwoOk ds ts (Pr.inp (pgOf s.toList).sec i 0) (Pr.inp (pgOf s.toList).sec i j) (Pr.fd (pgOf s.toList) k).al) (hal : (Pr.fd (pgOf s.toList) k).al < k) (ck : ChkOk s k) (htab : Tab w) :
    Calls Tryz.prog 4 #[.string s, .int .i64 (k : Int)] w fun e w' => e = .returned (.bool true) ∧ Below w.heap.size w w' := by
  have RP := hid rp
  have TOK := hid tok
  have DOK := hid dok
  have DLEN := hid dlen
  have H3 := hid h3
  have TWO := hid two
  have CK := hid ck
  have HTAB := hid htab
  have HAL := hid hal
  clear rp tok dok dlen h3 two ck hal htab
  go_enter Tryz.func4, Tryz.ntmps4
  go_wp2_with (first
    | (go_at_call 6; refine (prog_some s k _ hk hs6 ds ts RP.out).mono ?_; rintro e w1 ⟨w5, rfl, hb1, l, vn, vk, vz, vb, hds, hrep, hsub⟩; have HB1 := hid hb1; have z1 := hb1.size; have HD := hid hds; have HREP := hid hrep; have HSUB := hid hsub; clear hb1 hds hrep hsub)
    | (go_at_call 7; refine (CK.out _ (tab_on HTAB.out HB1.out)).mono ?_; rintro e w2 hc; obtain ⟨a1, c1, a2, c2, i, j, nv, f, g, nd, cf, he, hfi, ho1, ho2⟩ := hc.ins HAL.out; subst he; have HB2 := hid hc.bel; have z2 := hc.bel.size; have HFI := hid hfi; have HO1 := hid ho1; have HO2 := hid ho2; clear hc hfi ho1 ho2; refine Hid.out ?_))
  refine hid ?_
  have hln : l.length ≤ 1000 := by have h := DLEN.out; rw [HD.out] at h; simpa [dcs] using h
  have tw := TWO.out i j HFI.out
  rw [HD.out] at tw
  have hh := fun o : Obj => witness_true (rep_later HREP.out (HB2.out.alloc z2 o)) hln (by have h := DOK.out; rw [HD.out] at h; exact h) (sub_later HSUB.out (HB2.out.alloc z2 o)) (fun k hk => by have h := hk.2; rw [World.size_alloc]; omega) (by have h := TOK.out; rw [HD.out] at h; exact h) (by have h := H3.out; rw [HD.out] at h; exact h) k hk10 _ _ (.slice a1 (pgOf s.toList).sec.length c1) (.slice a2 (pgOf s.toList).sec.length c2) ((InAt.ofOwn (ints_own HO1.out)).later (fun q hq => Below.heap_alloc w2 o q hq)) ((InAt.ofOwn (ints_own HO2.out)).later (fun q hq => Below.heap_alloc w2 o q hq)) tw.la tw.lb tw.a16 tw.b16 tw.pub (Pr.fd (pgOf s.toList) k).al HAL.out tw.ag tw.df
  have HH := hid hh
  clear hh tw hln
  generalize (Pr.fd (pgOf s.toList) k).al = al at HH ⊢
  go_wp2_with (first
    | (go_at_call 9; refine (HH.out _).mono ?_; rintro e w3 ⟨rfl, hb3⟩; have HB3 := hid hb3; clear hb3))
  go_ret
  exact ⟨rfl, ((HB1.out.trans (HB2.out.mono z1)).alloc (by omega) _).trans (HB3.out.mono (by rw [World.size_alloc]; omega))⟩
theorem Witnesses_of (ck : ∀ (s : ByteArray) (k : Nat), k ≤ 10 → (Lk.read s.toList).2 = 0 → ChkOk s k) (s : ByteArray) (k : Int) (w : World) (htab : Tab w) : Calls Tryz.prog 4 #[.string s, .int .i64 k] w fun e w' => e = .returned (.bool true) ∧ Below w.heap.size w w' := by
  cases hk : wi k 10 with
  | false => exact wit_nil s k w (.inl hk)
  | true =>
    by_cases h6 : 600 < s.size
    · exact wit_nil s k w (.inr (.inl h6))
    · have hl6 : s.size ≤ 600 := by omega
      have htl : s.toList.length ≤ 600 := by rw [tl_len]; exact hl6
      cases hr : (Rf.readS s.toList).1 with
      | false => exact wit_nil s k w (.inr (.inr ⟨hl6, hr⟩))
      | true =>
        have h0 : (Lk.read s.toList).2 = 0 := (Rf.read_line s.toList htl).trans (readS_zero _ hr)
        obtain ⟨os, h1, h2, h3⟩ := readS_of hr
        obtain ⟨ts, hts⟩ : ∃ ts, (Rf.blk (Lk.cut 10 s.toList) (Lk.cut 10 s.toList).length 0 {} []).2.1 = ts := ⟨_, rfl⟩
        have rp := fun w => read_good s hl6 w os h1 h2
        rw [hts] at h3 rp
        obtain ⟨tok, dok, dlen⟩ := prog_ok h3 htl
        have nr := (Tm.read_laid h0 h3).2
        have hsec : (pgOf s.toList).sec = secL os.ds := nr.sec
        have hkk := wi_true hk
        obtain ⟨K, hK⟩ : ∃ K : Nat, k = (K : Int) := ⟨k.toNat, by omega⟩
        subst hK
        by_cases hal : (Pr.fd (pgOf s.toList) K).al < K
        · exact wit_ins s K w hk (by omega) hl6 os.ds ts rp tok dok dlen (by rw [← hsec]; exact (pgOf_ok s.toList).sec) (fun i j hf => two_ok h0 h3 K hf) hal (ck s K (by omega) h0) htab
        · exact wit_sec s K w hk hl6 os.ds ts rp hal (ck s K (by omega) h0) htab
end Go.Proofs.YtgddmpmcnjlcjaaGreatDoor
