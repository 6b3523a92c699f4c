import Derived.Test.YtfnmglfbcpdlnaaF1
/- What a run tells. -/
namespace Go.Proofs.Ytfnmglfbcpdlnaa
open Go.RowKit
set_option linter.unusedVariables false

namespace Mc
/-- The state behind n steps, and what step n (from 0) tells. -/
def st (p : Pg) (m : M) : Nat → M
  | 0 => m
  | n + 1 => (step p.cells p.code (st p m n)).2
def num (p : Pg) (m : M) (n : Nat) : Nat := (step p.cells p.code (st p m n)).1
def tells (p : Pg) (m : M) (k : Nat) : List Nat := (List.range k).map (num p m)
def ini (l : List Nat) : M := { slots := fun i => l.getD i 0 }
/-- The first i inputs are put. -/
def ini_ (l : List Nat) (i : Nat) : M := { slots := fun j => if j < i then l.getD j 0 else 0 }

theorem st_ok {p : Pg} (ok : PgOk p) {m : M} (h : MOk m) (n : Nat) : MOk (st p m n) := by
  induction n with
  | zero => exact h
  | succ n ih => exact step_ok ok ih
theorem ini_ok {l : List Nat} (h : ∀ x, x ∈ l → x < 16) : MOk (ini l) := by
  refine ⟨fun i => ?_, fun i => ?_⟩
  · show l.getD i 0 < 16
    rw [List.getD_eq_getElem?_getD]
    by_cases hi : i < l.length
    · rw [List.getElem?_eq_getElem hi]; exact h _ (List.getElem_mem hi)
    · rw [List.getElem?_eq_none (by omega)]; decide
  · show 0 < 16
    decide
theorem ini_0 (l : List Nat) : ini_ l 0 = {} := by
  unfold ini_
  congr
theorem ini_full (l : List Nat) : ini_ l l.length = ini l := by
  unfold ini_ ini
  congr
  funext j
  by_cases h : j < l.length
  · rw [if_pos h]
  · rw [if_neg h, List.getD_eq_getElem?_getD, List.getElem?_eq_none (by omega)]; rfl
theorem ini_put (l : List Nat) (i : Nat) : put (ini_ l i) i (l.getD i 0) = ini_ l (i + 1) := by
  unfold put ini_
  congr
  funext j
  unfold Lk.upd
  by_cases h : j = i
  · subst h; rw [if_pos rfl, if_pos (Nat.lt_succ_self _)]
  · rw [if_neg h]
    by_cases h2 : j < i
    · show (if j < i then l.getD j 0 else 0) = _
      rw [if_pos h2, if_pos (by omega)]
    · show (if j < i then l.getD j 0 else 0) = _
      rw [if_neg h2, if_neg (by omega)]
theorem tells_succ (p : Pg) (m : M) (k : Nat) : tells p m (k + 1) = tells p m k ++ [num p m k] := by
  unfold tells
  rw [List.range_succ, List.map_append]
  rfl
theorem tells_len (p : Pg) (m : M) (k : Nat) : (tells p m k).length = k := by
  unfold tells
  simp
end Mc

theorem ownsRow_low {w : World} {base base' size n : Nat} {e : TypeId} {v : Value} {xs : List Value} (h : w.ownsRow base e size v n xs) (hb : base' ≤ base) : w.ownsRow base' e size v n xs :=
  ⟨h.1, h.2.elim Or.inl (fun ⟨g, cap, cur, hv, hg, r⟩ => Or.inr ⟨g, cap, cur, hv, Nat.le_trans hb hg, r⟩)⟩

theorem step_nth (p : Pg) (ok : PgOk p) (m : Mc.M) (mo : Mc.MOk m) (n b : Nat) (w : World) (vs vc vk : Value) (nv : Int) (hp : PgAt w p vs vc vk) (hr : w.rowIs b 112 17 (mcell (Mc.st p m n))) (hgb : ∀ g, vc.ownBlock = some g → g ≠ b) :
    Calls Try.prog 64 #[.pointer (some ⟨b, 0, none⟩), .agg #[vs, .int .i64 nv, vc, vk]] w fun e w' => SPost w w' b e (Mc.num p m n) (Mc.st p m (n + 1)) :=
  step_any p ok (Mc.st p m n) (Mc.st_ok ok mo n) b w vs vc vk nv hp hr hgb

theorem nats_at {w : World} {base : Nat} {e : TypeId} {l : List Nat} {g cap : Nat} (h : w.ownsRow base e 1 (.slice (some ⟨g, 0, none⟩) l.length cap) l.length (l.map fun (n : Nat) => .int .i64 n)) (i : Nat) (hi : i < l.length) : w.cell? ⟨g, i, none⟩ = some (.int .i64 (l.getD i 0)) := by
  rw [h.cellAt i (by omega)]; simp [hi]

set_option maxRecDepth 100000 in
set_option maxHeartbeats 2000000 in
theorem tell_run (p : Pg) (ok : PgOk p) (l : List Nat) (hl : l.length ≤ 3) (hl16 : ∀ x, x ∈ l → x < 16) (k : Nat) (hk : k ≤ 10) (w : World) (vs vc vk vi : Value) (nv : Int) (hp : PgAt w p vs vc vk) (hi : w.ownsRow 0 3 1 vi l.length (l.map fun (n : Nat) => .int .i64 n)) :
    Calls Try.prog 50 #[.agg #[vs, .int .i64 nv, vc, vk], vi, .int .i64 k] w fun e w' =>
      ∃ v, e = .returned v ∧ w'.ownsRow w.heap.size 3 1 v k ((Mc.tells p (Mc.ini l) k).map fun (n : Nat) => .int .i64 n) ∧ Below w.heap.size w w' := by
  obtain ⟨t0, ht0, hz0, hz1, hz2⟩ := info_parts Try.infoInt
  have HP := hid hp
  have HI := hid hi
  obtain ⟨ai, ci, hvi⟩ := body_val hi
  obtain ⟨as0, cs0, e0⟩ := body_val hp.s
  obtain ⟨ac, cc, e1⟩ := body_val hp.c
  obtain ⟨ak, ck, e2⟩ := body_val hp.k
  have HV := hid (And.intro e0 (And.intro e1 e2))
  have hmo := Mc.ini_ok hl16
  have HM := hid hmo
  clear hp hi hmo hl16
  subst hvi e0 e1 e2
  go_enter Try.func50, Try.ntmps50
  go_wp2_with fail
  go_loopw [15] (fun c wr => ∃ i : Nat, i ≤ l.length ∧ c = .int .i64 i ∧ wr.rowIs (w.heap.size + 1) 112 17 (mcell (Mc.ini_ l i)) ∧
      wr.rowIs w.heap.size 51 4 (fun j => [.slice as0 p.sec.length cs0, .int .i64 nv, .slice ac p.cells.length cc, .slice ak p.code.length ck].getD j (.bool false)) ∧ Below w.heap.size w wr) (fun c _ => l.length - (intOf c).toNat)
  case atStart =>
    refine ⟨0, Nat.zero_le _, rfl, ?_, ?_, ((Below.refl _ _).alloc (Nat.le_refl _) _).alloc (by simp) _⟩
    · rw [Mc.ini_0]
      have h := World.rowIs_alloc (w.alloc (.cells #[.slice as0 p.sec.length cs0, .int .i64 nv, .slice ac p.cells.length cc, .slice ak p.code.length ck] 51)) #[.int .i64 0, .int .i64 0, .int .i64 0, .int .i64 0, .int .i64 0, .int .i64 0, .int .i64 0, .int .i64 0, .int .i64 0, .int .i64 0, .int .i64 0, .int .i64 0, .int .i64 0, .int .i64 0, .int .i64 0, .int .i64 0, .bool false] 112 (mcell {}) (fun i hi => by
        match i, hi with
        | 0, _ => rfl
        | 1, _ => rfl
        | 2, _ => rfl
        | 3, _ => rfl
        | 4, _ => rfl
        | 5, _ => rfl
        | 6, _ => rfl
        | 7, _ => rfl
        | 8, _ => rfl
        | 9, _ => rfl
        | 10, _ => rfl
        | 11, _ => rfl
        | 12, _ => rfl
        | 13, _ => rfl
        | 14, _ => rfl
        | 15, _ => rfl
        | 16, _ => rfl
        | n + 17, h => exact absurd (show n + 17 < 17 from h) (by omega))
      rw [show (w.alloc (.cells #[.slice as0 p.sec.length cs0, .int .i64 nv, .slice ac p.cells.length cc, .slice ak p.code.length ck] 51)).heap.size = w.heap.size + 1 by simp] at h
      exact h
    · exact (World.rowIs_alloc w #[.slice as0 p.sec.length cs0, .int .i64 nv, .slice ac p.cells.length cc, .slice ak p.code.length ck] 51 (fun i => [.slice as0 p.sec.length cs0, .int .i64 nv, .slice ac p.cells.length cc, .slice ak p.code.length ck].getD i (.bool false)) (fun i hi => by
        match i, hi with
        | 0, _ => rfl
        | 1, _ => rfl
        | 2, _ => rfl
        | 3, _ => rfl
        | n + 4, h => exact absurd (show n + 4 < 4 from h) (by omega))).alloc _
  case round =>
    obtain ⟨i, hil, rfl, hrow, hprog, hbel⟩ := hrel
    have HROW := hid hrow
    have HPROG := hid hprog
    have HB := hid hbel
    have hz := hbel.size
    have hrl := hrow.lt
    clear hrow hprog hbel
    by_cases hlt : i < l.length
    · obtain ⟨g, cap, hv, _, hglt⟩ := HI.out.form (by omega)
      cases hv
      have hx := (HB.out.cell (p := ⟨g, i, none⟩) hglt).trans (nats_at HI.out i hlt)
      have HP2 := hid (Mc.ini_put l i)
      generalize hxv : l.getD i 0 = x at hx HP2
      have HXV := hid hxv
      clear hxv
      go_wp2_with (first | (go_at_call 63; refine (mput_any (Mc.ini_ l i) (w.heap.size + 1) i x _ HROW.out (by omega)).mono ?_; rintro e w' ⟨rfl, hw'⟩; subst hw'))
      go_roundw
      case rel =>
        refine ⟨i + 1, by omega, by go_num, ?_, HPROG.out.setOther (a := ⟨w.heap.size + 1, i, none⟩) (by show w.heap.size ≠ w.heap.size + 1; omega) _, HB.out.setCell (Nat.le_succ _) _⟩
        have h := (HROW.out.set i (.int .i64 x)).congr (fun j hj => mcell_put (Mc.ini_ l i) i x (by omega) j hj)
        rw [HP2.out] at h
        exact h
      case measure => simp [intOf]; omega
    · have hie : i = l.length := by omega
      have hfull : Mc.ini_ l i = Mc.ini l := by rw [hie]; exact Mc.ini_full l
      rw [hfull] at HROW
      clear hfull hie
      have hpl := HPROG.out.lt
      go_wp2_with fail
      go_loopw [10, 11] (fun v c wq => ∃ n : Nat, n ≤ k ∧ c = .int .i64 n ∧ wq.rowIs (w.heap.size + 1) 112 17 (mcell (Mc.st p (Mc.ini l) n)) ∧
          wq.rowIs w.heap.size 51 4 (fun j => [.slice as0 p.sec.length cs0, .int .i64 nv, .slice ac p.cells.length cc, .slice ak p.code.length ck].getD j (.bool false)) ∧ Below w.heap.size w wq ∧
          wq.ownsRow (w.heap.size + 2) 3 1 v n ((Mc.tells p (Mc.ini l) n).map fun (n : Nat) => .int .i64 n)) (fun _ c _ => k - (intOf c).toNat)
      case atStart =>
        exact ⟨0, Nat.zero_le _, rfl, HROW.out.alloc _, HPROG.out.alloc _, HB.out.alloc hz _, World.ownsRow_made wr #[] 0 (by omega) (by unfold maxLen; omega) rfl⟩
      case round =>
        obtain ⟨n, hnk, rfl, hrow2, hprog2, hbel2, hown⟩ := hrel
        have hzz := hbel2.size
        have hlt2 := hrow2.lt
        have HROW2 := hid hrow2
        have HPROG2 := hid hprog2
        have HB2 := hid hbel2
        have HOWN := hid hown
        by_cases hlt3 : n < k
        · have p0 := hprog2.cell (i := 0) (by omega)
          have p1 := hprog2.cell (i := 1) (by omega)
          have p2 := hprog2.cell (i := 2) (by omega)
          have p3 := hprog2.cell (i := 3) (by omega)
          simp at p0 p1 p2 p3
          have HPA := hid (HP.out.same HB2.out)
          clear hrow2 hprog2 hbel2 hown
          go_wp2_with (first
            | (go_at_call 64; refine (step_nth p ok (Mc.ini l) HM.out n (w.heap.size + 1) _ _ _ _ nv HPA.out HROW2.out ?_).mono ?_; exact fun g hg => (fun e => by have := (HP.out.c.lt g hg).2; omega); rintro e w1 ⟨rfl, hrow3, hfr⟩; have z1 := hfr.bel.size; have HROW3 := hid hrow3; have HFR := hid hfr; have hown1 := ownsRow_blk HOWN.out (fun g hg => hfr.keep g (HOWN.out.lt g hg).2 (fun e => by have h1 := (HOWN.out.lt g hg).1; have e' : g = w.heap.size + 1 := e; omega)); have HBW := hid ((HFR.out.lift (base := w.heap.size) (fun q _ e => by rw [e]; omega) hzz).bel); clear hrow3 hfr)
            | (at_builtin; refine wpList_append_lies _ rfl _ _ 22 rfl (w.heap.size + 2) 3 t0 _ 1 8 Try.underlying22 ht0 hz0 hz1 hz2 rfl (by omega) _ n ((Mc.tells p (Mc.ini l) n).map fun (n : Nat) => .int .i64 n) rfl (hown1.alloc _) ⟨w1.heap.size, 0, none⟩ 1 1 [.int .i64 (Mc.num p (Mc.ini l) n)] rfl rfl (cell_one_new _ _ _) (by simp [Value.oneCell']) (by omega) (by unfold maxLen; omega) (by omega) (by simp; omega) (w1.heap.size + 1) (by simp) ?_; intro g2 cap2 w2 hown2 hgrow hat hltg))
          go_roundw
          case rel =>
            refine ⟨n + 1, by omega, by go_num, rowIs_grown (HROW3.out.alloc _) hgrow (fun e => by have := (HOWN.out.lt _ e).1; omega), rowIs_grown ((HPROG2.out.of_block (HFR.out.keep _ (by omega) (by omega))).alloc _) hgrow (fun e => by have := (HOWN.out.lt _ e).1; omega), Below.grown (((HB2.out.trans HBW.out).alloc (by omega) _)) hgrow (by simp; omega) (fun q hq => by have := (HOWN.out.lt q hq).1; omega), ?_⟩
            rw [Mc.tells_succ, List.map_append]; exact hown2
          case measure => simp [intOf]; omega
        · have hnk2 : n = k := by omega
          subst hnk2
          clear hrow2 hprog2 hbel2 hown
          go_wp2_with fail
          go_ret
          exact ⟨_, rfl, ownsRow_low HOWN.out (by omega), HB2.out⟩

end Go.Proofs.Ytfnmglfbcpdlnaa
