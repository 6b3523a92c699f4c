import Derived.Test.YtgddmpmcnjlcjaaDoorB19
import Derived.Deep.QuietTactic
import Derived.BigQuiet
/- Run, of a program and inputs that fit. -/
namespace Go.Proofs.YtgddmpmcnjlcjaaDoor
open Go.RowKit
set_option linter.unusedVariables false

set_option maxRecDepth 100000 in
set_option maxHeartbeats 1000000 in
theorem words_ok (l : List Nat) (hlm : l.length ≤ 3) (h16 : ∀ x, x ∈ l → x < 16) (w : World) (v : Value) (hi : w.ownsRow 0 3 1 v l.length (l.map fun (n : Nat) => .int .i64 n)) :
    Calls Tryd.prog 65 #[v] w fun e w' => e = .returned (.bool true) ∧ Below w.heap.size w w' := by
  obtain ⟨a, c, e⟩ := body_val hi
  have HI := hid hi
  have H16 := hid h16
  clear hi h16
  subst e
  go_enter Tryd.func65, Tryd.ntmps65
  go_wp2_with fail
  go_loopw [7] (fun cv wr => ∃ i : Nat, i ≤ l.length ∧ cv = .int .i64 i ∧ Below w.heap.size w wr) (fun cv _ => l.length - (intOf cv).toNat)
  case atStart => exact ⟨0, Nat.zero_le _, rfl, Below.refl _ _⟩
  case round =>
    obtain ⟨i, hil, rfl, hbel⟩ := hrel
    have HB := hid hbel
    by_cases hlt : i < l.length
    · obtain ⟨g, cap, hv, _, hglt⟩ := HI.out.form (by omega)
      cases hv
      have hx := (hbel.cell (p := ⟨g, i, none⟩) hglt).trans (nats_at HI.out i hlt)
      have hx16 : l.getD i 0 < 16 := by
        rw [List.getD_eq_getElem?_getD, List.getElem?_eq_getElem hlt]; exact H16.out _ (List.getElem_mem hlt)
      generalize l.getD i 0 = x at hx hx16
      have hwi : wi (x : Int) 15 = true := by unfold wi; exact decide_eq_true ⟨by omega, by omega⟩
      clear hbel
      go_wp2_with (first | (go_at_call 23; refine (within_any _ _ _).mono ?_; rintro e w0 ⟨rfl, hw0⟩; have hw1 := hw0.symm; subst hw1; rw [hwi]))
      go_roundw
      case rel => exact ⟨i + 1, by omega, by go_num, HB.out⟩
      case measure => simp [intOf]; omega
    · clear hbel
      go_wp2_with fail
      go_ret
      exact ⟨rfl, HB.out⟩

set_option maxRecDepth 100000 in
set_option maxHeartbeats 1000000 in
theorem run_ok (s : ByteArray) (k : Nat) (hk : k ≤ 10) (l : List Nat) (h16 : ∀ x, x ∈ l → x < 16) (hl : (Lk.read s.toList).2 = 0) (hlen : l.length = (pgOf s.toList).sec.length) (w : World) (v : Value) (hi : w.ownsRow 0 3 1 v l.length (l.map fun (n : Nat) => .int .i64 n)) :
    Calls Tryd.prog 34 #[.string s, v, .int .i64 k] w fun e w' => ∃ a c, e = .returned (.slice a k c) ∧ w'.ownsRow w.heap.size 3 1 (.slice a k c) k ((Mc.tells (pgOf s.toList) (Mc.ini l) k).map fun (n : Nat) => .int .i64 n) ∧ Below w.heap.size w w' := by
  have h1 : wi k 10 = true := by unfold wi; exact decide_eq_true ⟨by omega, by omega⟩
  obtain ⟨a, c, e⟩ := body_val hi
  have HI := hid hi
  have H16 := hid h16
  have HL := hid hl
  have HK := hid (pgOf_ok s.toList)
  have HLEN := hid hlen
  have hl3 : l.length ≤ 3 := by rw [hlen]; exact (pgOf_ok s.toList).sec
  have hleq : (Lk.read s.toList).1.secret.length = l.length := hlen.symm
  have HLQ := hid hleq
  clear hi h16 hl hlen hleq
  subst e
  go_enter Tryd.func34, Tryd.ntmps34
  go_wp2_with (first
    | (go_at_call 23; refine (within_any _ _ _).mono ?_; rintro e w' ⟨rfl, rfl⟩)
    | (go_at_call 24; refine (read_any _ _).mono ?_; rintro e w1 R; obtain ⟨vs, vc, vk, he, o1, o2, o3⟩ := R.good HL.out; subst he; have hpg : PgAt w1 (pgOf s.toList) vs vc vk := ⟨ownsRow_low o1 (Nat.zero_le _), ownsRow_low o2 (Nat.zero_le _), ownsRow_low o3 (Nat.zero_le _)⟩; obtain ⟨a1, p1, e1⟩ := body_val o1; obtain ⟨a2, p2, e2⟩ := body_val o2; obtain ⟨a3, p3, e3⟩ := body_val o3; subst e1 e2 e3; have HPG := hid hpg; have hb := R.bel; have z1 := hb.size; have HB := hid hb; have HI1 := hid (ownsRow_same HI.out hb.block); rw [HLQ.out] at HPG; rw [HLQ.out]; clear R hb o1 o2 o3 hpg)
    | (go_at_call 65; refine (words_ok l hl3 H16.out _ _ (HI1.out.alloc _)).mono ?_; rintro e w2 ⟨rfl, hb2⟩; have z2 := hb2.size; simp at z2; have HB2 := hid hb2; have x0 := cell_later hb2 (newAt w1 _ _ 0 _ rfl); have x1 := cell_later hb2 (newAt w1 _ _ 1 _ rfl); have x2 := cell_later hb2 (newAt w1 _ _ 2 _ rfl); have x3 := cell_later hb2 (newAt w1 _ _ 3 _ rfl); simp only [List.getElem_toArray, List.getElem_cons_zero, List.getElem_cons_succ] at x0 x1 x2 x3; clear hb2)
    | (go_at_call 57; refine (tell_run (pgOf s.toList) HK.out l hl3 H16.out k hk _ _ _ _ _ _ ((HPG.out.same ((Below.refl _ _).alloc (Nat.le_refl _) _)).same HB2.out) (ownsRow_same (HI1.out.alloc _) HB2.out.block)).mono ?_; rintro e w3 ⟨v3, rfl, hown3, hb3⟩; obtain ⟨q3, p3', e3⟩ := body_val hown3; subst e3; have HO3 := hid hown3; have HB3 := hid hb3; clear hown3 hb3))
  go_ret
  exact ⟨_, _, rfl, ownsRow_low HO3.out (by omega), ((HB.out.alloc z1 _).trans (HB2.out.mono (by simp; omega))).trans (HB3.out.mono (by omega))⟩
end Go.Proofs.YtgddmpmcnjlcjaaDoor
