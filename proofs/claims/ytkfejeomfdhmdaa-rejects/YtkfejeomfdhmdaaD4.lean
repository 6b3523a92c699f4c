import Derived.Test.YtkfejeomfdhmdaaD3
namespace Go.Proofs.Ytkfejeomfdhmdaa
open Go.RowKit
set_option linter.unusedVariables false

def pcell (vn vk vz vb : Value) (i : Nat) : Value := if i = 0 then vn else if i = 1 then vk else if i = 2 then vz else vb

/-- A program lies in block P; its names' rows from 'base' on. -/
structure PRep (w : World) (base P : Nat) (l : List DB) (vn vk vz vb : Value) : Prop where
  row : w.rowIs P 53 4 (pcell vn vk vz vb)
  ge : base ≤ P
  nm : w.ownsRow base 9 1 vn l.length (l.map fun d => Value.string d.name)
  kd : w.ownsRow base 9 1 vk l.length (l.map fun d => Value.string d.kind)
  sz : w.ownsRow base 3 1 vz l.length (l.map fun d => Value.int .i64 d.size)
  np : vn.ownBlock ≠ some P
  kp : vk.ownBlock ≠ some P
  zp : vz.ownBlock ≠ some P
  nk : vn.ownBlock = none ∨ vn.ownBlock ≠ vk.ownBlock
  nz : vn.ownBlock = none ∨ vn.ownBlock ≠ vz.ownBlock
  kz : vk.ownBlock = none ∨ vk.ownBlock ≠ vz.ownBlock

namespace PRep
variable {w : World} {base P : Nat} {l : List DB} {vn vk vz vb : Value}
theorem lt (h : PRep w base P l vn vk vz vb) : P < w.heap.size := h.row.lt
theorem baseLe (h : PRep w base P l vn vk vz vb) : base ≤ w.heap.size := Nat.le_of_lt (Nat.lt_of_le_of_lt h.ge h.lt)
theorem later {w' : World} (h : PRep w base P l vn vk vz vb) (hb : ∀ k, k < w.heap.size → w'.heap[k]? = w.heap[k]?) : PRep w' base P l vn vk vz vb :=
  ⟨h.row.of_block (hb P h.row.lt), h.ge, ownsRow_same h.nm hb, ownsRow_same h.kd hb, ownsRow_same h.sz hb, h.np, h.kp, h.zp, h.nk, h.nz, h.kz⟩
theorem below {w' : World} (h : PRep w base P l vn vk vz vb) (hb : Below w.heap.size w w') : PRep w' base P l vn vk vz vb := h.later hb.block
theorem alloc (h : PRep w base P l vn vk vz vb) (o : Obj) : PRep (w.alloc o) base P l vn vk vz vb := h.later fun k hk => Below.heap_alloc w o k hk
theorem drew (h : PRep w base P l vn vk vz vb) : PRep w.drew base P l vn vk vz vb := h.later fun _ _ => rfl
theorem drewN (h : PRep w base P l vn vk vz vb) (n : Nat) : PRep (w.drewN n) base P l vn vk vz vb := h.later fun _ _ => rfl
/-- Another block is written. -/
theorem grown {w' : World} {R : Nat} (h : PRep w base P l vn vk vz vb) (hg : w.grownBy w' (some R)) (hP : P ≠ R) (hn : vn.ownBlock ≠ some R) (hk : vk.ownBlock ≠ some R) (hz : vz.ownBlock ≠ some R) : PRep w' base P l vn vk vz vb :=
  ⟨rowIs_grown h.row hg (by simpa using hP.symm), h.ge, h.nm.kept hg (.inr hn), h.kd.kept hg (.inr hk), h.sz.kept hg (.inr hz), h.np, h.kp, h.zp, h.nk, h.nz, h.kz⟩
theorem setOther {R i : Nat} (h : PRep w base P l vn vk vz vb) (hP : P ≠ R) (hn : vn.ownBlock ≠ some R) (hk : vk.ownBlock ≠ some R) (hz : vz.ownBlock ≠ some R) (u : Value) : PRep (w.setCell ⟨R, i, none⟩ u) base P l vn vk vz vb :=
  h.grown (grownBy_setCell w ⟨R, i, none⟩ u) hP hn hk hz

theorem kind_any (h : PRep w base P l vn vk vz vb) (s : ByteArray) (hl : l.length ≤ 1000) :
    Calls Try.prog 52 #[.pointer (some ⟨P, 0, none⟩), .string s] w fun e w' => ∃ q : ByteArray, e = .returned (.string q) ∧ q.toList = Rf.kindOf (dcs l) s.toList ∧ w' = w := by
  have h0 := h.row.cell (i := 0) (by omega)
  have h1 := h.row.cell (i := 1) (by omega)
  rw [show pcell vn vk vz vb 0 = vn from rfl] at h0
  rw [show pcell vn vk vz vb 1 = vk from rfl] at h1
  by_cases hz : l.length = 0
  · obtain ⟨ad, cp, hv⟩ := body_val h.nm
    rw [hv, hz] at h0
    have : l = [] := List.eq_nil_of_length_eq_zero hz
    rw [this]
    exact kind_nil P cp ad s w h0
  · obtain ⟨gn, cn, hv, _, _⟩ := h.nm.form (by omega)
    obtain ⟨gk, ck, hv2, _, _⟩ := h.kd.form (by omega)
    have hnm := h.nm
    have hkd := h.kd
    rw [hv] at h0 hnm
    rw [hv2] at h1 hkd
    refine kind_pos l P gn gk cn ck s w h0 h1 (fun i hi => ?_) (fun i hi => ?_) hl
    · rw [hnm.cellAt i (by omega)]; simp [dbAt, hi]
    · rw [hkd.cellAt i (by omega)]; simp [dbAt, hi]

theorem many_any (h : PRep w base P l vn vk vz vb) (s : ByteArray) (hl : l.length ≤ 1000) :
    Calls Try.prog 53 #[.pointer (some ⟨P, 0, none⟩), .string s] w fun e w' => e = .returned (.int .i64 (Rf.many (dcs l) s.toList)) ∧ w' = w := by
  have h1 := h.row.cell (i := 1) (by omega)
  rw [show pcell vn vk vz vb 1 = vk from rfl] at h1
  by_cases hz : l.length = 0
  · obtain ⟨ad, cp, hv⟩ := body_val h.kd
    rw [hv, hz] at h1
    have : l = [] := List.eq_nil_of_length_eq_zero hz
    rw [this]
    exact many_nil P cp ad s w h1
  · obtain ⟨gk, ck, hv2, _, _⟩ := h.kd.form (by omega)
    have hkd := h.kd
    rw [hv2] at h1 hkd
    refine many_pos l P gk ck s w h1 (fun i hi => ?_) hl
    rw [hkd.cellAt i (by omega)]; simp [dbAt, hi]

set_option maxHeartbeats 400000 in
theorem scalar_any (h : PRep w base P l vn vk vz vb) (s : ByteArray) (hl : l.length ≤ 1000) :
    Calls Try.prog 56 #[.pointer (some ⟨P, 0, none⟩), .string s] w fun e w' => e = .returned (.bool (Rf.scalar (dcs l) s.toList)) ∧ w' = w := by
  have HK := hid (h.kind_any s hl)
  clear h
  go_enter Try.func56, Try.ntmps56
  go_wp2_with (first | (go_at_call 52; refine HK.out.mono ?_; rintro e w1 ⟨q, rfl, hq, rfl⟩; have HQ := hid hq; clear hq))
  all_goals go_ret
  all_goals refine ⟨ret_bool ?_, rfl⟩
  all_goals unfold Rf.scalar
  all_goals rw [← show q.toList = _ from HQ.out]
  all_goals simp [Rf.wSecret, Rf.wPublic, Rf.wVar, *]

set_option maxHeartbeats 400000 in
theorem atom_any (h : PRep w base P l vn vk vz vb) (s : ByteArray) (hl : l.length ≤ 1000) :
    Calls Try.prog 55 #[.pointer (some ⟨P, 0, none⟩), .string s] w fun e w' => e = .returned (.bool (Rf.atom (dcs l) s.toList)) ∧ Below w.heap.size w w' := by
  have H := hid h
  clear h
  have hr := num_range s.toList
  cases hs : Rf.scalar (dcs l) s.toList with
  | true =>
    have Hs := hid hs
    clear hs
    go_enter Try.func55, Try.ntmps55
    go_wp2_with (first
      | (go_at_call 54; refine (numeral_any s _).mono ?_; rintro e w1 ⟨rfl, hb⟩; have HB := hid hb; clear hb)
      | (go_at_call 56; refine ((H.out.below HB.out).scalar_any s hl).mono ?_; rintro e w2 ⟨rfl, rfl⟩; rw [Hs.out]))
    go_ret
    exact ⟨ret_bool (by unfold Rf.atom; rw [Hs.out]; rfl), HB.out⟩
  | false =>
    have Hs := hid hs
    clear hs
    go_enter Try.func55, Try.ntmps55
    go_wp2_with (first
      | (go_at_call 54; refine (numeral_any s _).mono ?_; rintro e w1 ⟨rfl, hb⟩; have HB := hid hb; clear hb)
      | (go_at_call 56; refine ((H.out.below HB.out).scalar_any s hl).mono ?_; rintro e w2 ⟨rfl, rfl⟩; rw [Hs.out]))
    go_ret
    refine ⟨ret_bool ?_, HB.out⟩
    unfold Rf.atom; rw [Hs.out]
    cases hn : Lk.num? s.toList <;> simp [Lk.intO]

end PRep
end Go.Proofs.Ytkfejeomfdhmdaa
