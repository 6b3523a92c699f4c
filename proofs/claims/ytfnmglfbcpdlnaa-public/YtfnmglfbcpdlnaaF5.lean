import Derived.Test.YtfnmglfbcpdlnaaF4
/- Check, of a program. -/
namespace Go.Proofs.Ytfnmglfbcpdlnaa
open Go.RowKit
set_option linter.unusedVariables false

def pgOf (s : List UInt8) : Pg := ⟨(Lk.read s).1.secret, (Lk.read s).1.cells, Lk.link (Lk.read s).1.body⟩
theorem pgOf_ok (s : List UInt8) : PgOk (pgOf s) := by
  have h := Lk.rwf_read s
  exact ⟨h.sec, h.cel, h.cle, fun x hx => Lk.link_ok h hx⟩

namespace Pr
theorem look_none (p : Pg) (i : Nat) (a : Fd) (j : Nat) (h : (look p i a j).fi = none) : a.fi = none ∧ look p i a j = a := by
  unfold look at h ⊢
  split at h
  · cases h
  · rename_i hn; rw [if_neg hn]; exact ⟨h, rfl⟩
theorem rowN_none (p : Pg) (i : Nat) (a : Fd) (n : Nat) (h : (rowN p i a n).fi = none) : a.fi = none ∧ rowN p i a n = a := by
  induction n with
  | zero => exact ⟨h, rfl⟩
  | succ n ih =>
    obtain ⟨h1, h2⟩ := look_none p i _ _ (show (look p i (rowN p i a n) (n + 1)).fi = none from h)
    obtain ⟨h3, h4⟩ := ih h1
    exact ⟨h3, (show look p i (rowN p i a n) (n + 1) = a by rw [h2, h4])⟩
theorem fdN_none (p : Pg) (k n : Nat) (h : (fdN p k n).fi = none) : (fdN p k n).al = k := by
  induction n with
  | zero => rfl
  | succ n ih =>
    obtain ⟨h1, h2⟩ := rowN_none p n _ _ (show (rowN p n (fdN p k n) (rows p.sec true - 1)).fi = none from h)
    show (rowN p n (fdN p k n) (rows p.sec true - 1)).al = k
    rw [h2]; exact ih h1
end Pr

theorem fdv_some {p : Pg} {w : World} {base k : Nat} {v1 v2 : Value} {at_ : Nat} (h : FdV p w base (Pr.fd p k) v1 v2 at_) (hin : (Pr.fd p k).al < k) : ∃ i j, (Pr.fd p k).fi = some (i, j) ∧ at_ = (Pr.fd p k).al ∧
    w.ownsRow base 3 1 v1 p.sec.length ((Pr.inp p.sec i 0).map fun (n : Nat) => .int .i64 n) ∧
    w.ownsRow base 3 1 v2 p.sec.length ((Pr.inp p.sec i j).map fun (n : Nat) => .int .i64 n) := by
  rcases h with ⟨h, _⟩ | h
  · have h2 := Pr.fdN_none p k _ h
    have h3 : (Pr.fd p k).al = k := h2
    omega
  · exact h

/-- A report that tells two runs. -/
abbrev repTwo (v1 v2 : Value) (n : Int) : Value := .agg #[.int .i64 0, v1, v2, .int .i64 n, .int .i64 0, .string ⟨#[]⟩, .string ⟨#[]⟩, .int .i64 0, .int .i64 0]

structure CheckOut (w w' : World) (e : Ending) (p : Pg) (k : Nat) : Prop where
  bel : Below w.heap.size w w'
  sec : ¬ (Pr.fd p k).al < k → e = .returned (.tuple #[.int .i64 1, repLine 0])
  ins : (Pr.fd p k).al < k → ∃ a1 c1 a2 c2 i j, e = .returned (.tuple #[.int .i64 2, repTwo (.slice a1 p.sec.length c1) (.slice a2 p.sec.length c2) (Pr.fd p k).al]) ∧ (Pr.fd p k).fi = some (i, j) ∧
    w'.ownsRow w.heap.size 3 1 (.slice a1 p.sec.length c1) p.sec.length ((Pr.inp p.sec i 0).map fun (n : Nat) => .int .i64 n) ∧
    w'.ownsRow w.heap.size 3 1 (.slice a2 p.sec.length c2) p.sec.length ((Pr.inp p.sec i j).map fun (n : Nat) => .int .i64 n)

set_option maxRecDepth 100000 in
set_option maxHeartbeats 2000000 in
theorem check_prog (s : ByteArray) (k : Nat) (n c : Int) (w : World) (hk : k ≤ 10) (h2 : wi n 1048576 = true) (h3 : wi c 1048576 = true) (hl : (Lk.read s.toList).2 = 0) :
    Calls Try.prog 15 #[.string s, .int .i64 k, .agg #[.int .i64 n, .int .i64 c]] w fun e w' => CheckOut w w' e (pgOf s.toList) k := by
  have h1 : wi k 10 = true := by unfold wi; exact decide_eq_true ⟨by omega, by omega⟩
  have HL := hid hl
  have HK := hid (pgOf_ok s.toList)
  clear hl
  by_cases hin : (Pr.fd (pgOf s.toList) k).al < k
  · have HIN := hid hin
    have hdec := decide_eq_true hin
    have HD := hid hdec
    clear hin hdec
    go_enter Try.func15, Try.ntmps15
    go_wp2_with (first
      | (go_at_call 34; refine (within_any _ _ _).mono ?_; rintro e w' ⟨rfl, rfl⟩)
      | (go_at_call 35; refine (read_any _ _).mono ?_; rintro e w1 R; obtain ⟨vs, vc, vk, he, o1, o2, o3⟩ := R.good HL.out; subst he; have hpg : PgAt w1 (pgOf s.toList) vs vc vk := ⟨ownsRow_low o1 (Nat.zero_le _), ownsRow_low o2 (Nat.zero_le _), ownsRow_low o3 (Nat.zero_le _)⟩; obtain ⟨a1, p1, e1⟩ := body_val o1; obtain ⟨a2, p2, e2⟩ := body_val o2; obtain ⟨a3, p3, e3⟩ := body_val o3; subst e1 e2 e3; have HPG := hid hpg; have hb := R.bel; have z1 := hb.size; simp at z1; obtain ⟨c0, c1, c2, c3, c4, c5, c6, c7, c8, cf⟩ := rep_facts hb; have HB := hid hb; clear R hb o1 o2 o3 hpg)
      | (go_at_call 36; refine (search_any (pgOf s.toList) HK.out _ _ _ _ _ (HPG.out.same ((Below.refl _ _).alloc (Nat.le_refl _) _)) k hk).mono ?_; rintro e w2 ⟨b1, n1, d1, b2, n2, d2, at_, he, hfv, hb2⟩; rw [HD.out] at he; subst he; obtain ⟨i, j, hfi, hat, ho1, ho2⟩ := fdv_some hfv HIN.out; obtain ⟨u1, u2, eu⟩ := body_val ho1; cases eu; obtain ⟨u3, u4, eu2⟩ := body_val ho2; cases eu2; subst hat; have HFI := hid hfi; have HO1 := hid ho1; have HO2 := hid ho2; clear hfi ho1 ho2; have z2 := hb2.size; simp at z2; have k0 := fun o => cell_alloc (cell_later hb2 (c0 _)) o; have k1 := fun o => cell_alloc (cell_later hb2 (c1 _)) o; have k2 := fun o => cell_alloc (cell_later hb2 (c2 _)) o; have k3 := fun o => cell_alloc (cell_later hb2 (c3 _)) o; have k4 := fun o => cell_alloc (cell_later hb2 (c4 _)) o; have k5 := fun o => cell_alloc (cell_later hb2 (c5 _)) o; have k6 := fun o => cell_alloc (cell_later hb2 (c6 _)) o; have k7 := fun o => cell_alloc (cell_later hb2 (c7 _)) o; have k8 := fun o => cell_alloc (cell_later hb2 (c8 _)) o; have kf : ∀ i o, (w2.alloc o).frozen? ⟨w.heap.size + 1, i, none⟩ = false := fun i o => froz_alloc (by show w.heap.size + 1 < w2.heap.size; omega) (froz_later hb2 (by simp; omega) (cf i _)) o; have HB2 := hid hb2; clear hfv hb2 c0 c1 c2 c3 c4 c5 c6 c7 c8 cf))
    have m0 := newAt w2 #[.slice b1 (pgOf s.toList).sec.length d1, .slice b2 (pgOf s.toList).sec.length d2, .int .i64 (Pr.fd (pgOf s.toList) k).al] 55 0 _ rfl
    have m1 := newAt w2 #[.slice b1 (pgOf s.toList).sec.length d1, .slice b2 (pgOf s.toList).sec.length d2, .int .i64 (Pr.fd (pgOf s.toList) k).al] 55 1 _ rfl
    have m2 := newAt w2 #[.slice b1 (pgOf s.toList).sec.length d1, .slice b2 (pgOf s.toList).sec.length d2, .int .i64 (Pr.fd (pgOf s.toList) k).al] 55 2 _ rfl
    simp only [List.getElem_toArray, List.getElem_cons_zero, List.getElem_cons_succ] at m0 m1 m2
    go_region
    all_goals go_wp2_with fail
    have FR := Frm.drew (Frm.setCell (p := ⟨w.heap.size + 1, 8, none⟩) (Frm.setCell (p := ⟨w.heap.size + 1, 7, none⟩) (Frm.setCell (p := ⟨w.heap.size + 1, 6, none⟩) (Frm.setCell (p := ⟨w.heap.size + 1, 5, none⟩) (Frm.setCell (p := ⟨w.heap.size + 1, 4, none⟩) (Frm.setCell (p := ⟨w.heap.size + 1, 3, none⟩) (Frm.setCell (p := ⟨w.heap.size + 1, 2, none⟩) (Frm.setCell (p := ⟨w.heap.size + 1, 1, none⟩) (Frm.setCell (p := ⟨w.heap.size + 1, 0, none⟩) ((Frm.refl 0 (fun q => q = w.heap.size + 1) w2).alloc (Nat.zero_le _) (Obj.cells #[.slice b1 (pgOf s.toList).sec.length d1, .slice b2 (pgOf s.toList).sec.length d2, .int .i64 (Pr.fd (pgOf s.toList) k).al] 55)) (Nat.zero_le _) rfl (.int .i64 0)) (Nat.zero_le _) rfl (.slice b1 (pgOf s.toList).sec.length d1)) (Nat.zero_le _) rfl (.slice b2 (pgOf s.toList).sec.length d2)) (Nat.zero_le _) rfl (.int .i64 (Pr.fd (pgOf s.toList) k).al)) (Nat.zero_le _) rfl (.int .i64 0)) (Nat.zero_le _) rfl (.string ⟨#[]⟩)) (Nat.zero_le _) rfl (.string ⟨#[]⟩)) (Nat.zero_le _) rfl (.int .i64 0)) (Nat.zero_le _) rfl (.int .i64 0))
    refine bodyPost_ret (v := .tuple #[.int .i64 2, repTwo (.slice b1 (pgOf s.toList).sec.length d1) (.slice b2 (pgOf s.toList).sec.length d2) (Pr.fd (pgOf s.toList) k).al]) (by simp [results, Try.results15, go_sem, k0, k1, k2, k3, k4, k5, k6, k7, k8]) rfl ⟨?_, fun h => absurd HIN.out h, fun _ => ⟨b1, d1, b2, d2, i, j, rfl, HFI.out, ?_, ?_⟩⟩
    · exact (((((((((((((((((Below.refl w.heap.size w).alloc (Nat.le_refl _) _).alloc (by simp) _).trans (HB.out.mono (by simp; omega))).alloc (by omega) _).trans (HB2.out.mono (by simp; omega))).alloc (by omega) _).setCell (Nat.le_succ _) _).setCell (Nat.le_succ _) _).setCell (Nat.le_succ _) _).setCell (Nat.le_succ _) _).setCell (Nat.le_succ _) _).setCell (Nat.le_succ _) _).setCell (Nat.le_succ _) _).setCell (Nat.le_succ _) _).setCell (Nat.le_succ _) _)).drew
    · exact ownsRow_low (ownsRow_blk HO1.out (fun g e => FR.keep g (HO1.out.lt g e).2 (fun e2 => by have := (HO1.out.lt g e).1; simp at this; omega))) (by simp; omega)
    · exact ownsRow_low (ownsRow_blk HO2.out (fun g e => FR.keep g (HO2.out.lt g e).2 (fun e2 => by have := (HO2.out.lt g e).1; simp at this; omega))) (by simp; omega)
  · have HIN := hid hin
    have hdec := decide_eq_false hin
    have HD := hid hdec
    clear hin hdec
    go_enter Try.func15, Try.ntmps15
    go_wp2_with (first
      | (go_at_call 34; refine (within_any _ _ _).mono ?_; rintro e w' ⟨rfl, rfl⟩)
      | (go_at_call 35; refine (read_any _ _).mono ?_; rintro e w1 R; obtain ⟨vs, vc, vk, he, o1, o2, o3⟩ := R.good HL.out; subst he; have hpg : PgAt w1 (pgOf s.toList) vs vc vk := ⟨ownsRow_low o1 (Nat.zero_le _), ownsRow_low o2 (Nat.zero_le _), ownsRow_low o3 (Nat.zero_le _)⟩; obtain ⟨a1, p1, e1⟩ := body_val o1; obtain ⟨a2, p2, e2⟩ := body_val o2; obtain ⟨a3, p3, e3⟩ := body_val o3; subst e1 e2 e3; have HPG := hid hpg; have hb := R.bel; have z1 := hb.size; simp at z1; obtain ⟨c0, c1, c2, c3, c4, c5, c6, c7, c8, cf⟩ := rep_facts hb; have HB := hid hb; clear R hb o1 o2 o3 hpg)
      | (go_at_call 36; refine (search_any (pgOf s.toList) HK.out _ _ _ _ _ (HPG.out.same ((Below.refl _ _).alloc (Nat.le_refl _) _)) k hk).mono ?_; rintro e w2 ⟨b1, n1, d1, b2, n2, d2, at_, he, hfv, hb2⟩; rw [HD.out] at he; subst he; have z2 := hb2.size; simp at z2; have k0 := fun o => cell_alloc (cell_later hb2 (c0 _)) o; have k1 := fun o => cell_alloc (cell_later hb2 (c1 _)) o; have k2 := fun o => cell_alloc (cell_later hb2 (c2 _)) o; have k3 := fun o => cell_alloc (cell_later hb2 (c3 _)) o; have k4 := fun o => cell_alloc (cell_later hb2 (c4 _)) o; have k5 := fun o => cell_alloc (cell_later hb2 (c5 _)) o; have k6 := fun o => cell_alloc (cell_later hb2 (c6 _)) o; have k7 := fun o => cell_alloc (cell_later hb2 (c7 _)) o; have k8 := fun o => cell_alloc (cell_later hb2 (c8 _)) o; have kf : ∀ i o, (w2.alloc o).frozen? ⟨w.heap.size + 1, i, none⟩ = false := fun i o => froz_alloc (by show w.heap.size + 1 < w2.heap.size; omega) (froz_later hb2 (by simp; omega) (cf i _)) o; have HB2 := hid hb2; clear hfv hb2 c0 c1 c2 c3 c4 c5 c6 c7 c8 cf))
    refine bodyPost_ret (v := .tuple #[.int .i64 1, repLine 0]) (by simp [results, Try.results15, go_sem, k0, k1, k2, k3, k4, k5, k6, k7, k8]) rfl ⟨?_, fun _ => rfl, fun h => absurd h HIN.out⟩
    exact ((((((((((((((((Below.refl w.heap.size w).alloc (Nat.le_refl _) _).alloc (by simp) _).trans (HB.out.mono (by simp; omega))).alloc (by omega) _).trans (HB2.out.mono (by simp; omega))).alloc (by omega) _).setCell (Nat.le_succ _) _).setCell (Nat.le_succ _) _).setCell (Nat.le_succ _) _).setCell (Nat.le_succ _) _).setCell (Nat.le_succ _) _).setCell (Nat.le_succ _) _).setCell (Nat.le_succ _) _).setCell (Nat.le_succ _) _).setCell (Nat.le_succ _) _)

end Go.Proofs.Ytfnmglfbcpdlnaa
