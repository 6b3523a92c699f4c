import Derived.Test.YtgddmpmcnjlcjaaK02
import Derived.Test.YtgddmpmcnjlcjaaK03
import Derived.Deep.QuietTactic
import Derived.BigQuiet
namespace Go.Proofs.Ytgddmpmcnjlcjaa
open Go.RowKit
set_option linter.unusedVariables false

/-- A declared name as it lies in memory. -/
structure DB where
  name : ByteArray
  kind : ByteArray
  size : Nat
def DB.dc (d : DB) : Rf.Dc := ⟨d.name.toList, d.kind.toList, d.size⟩
def dcs (l : List DB) : List Rf.Dc := l.map DB.dc
def dbAt (l : List DB) (i : Nat) : DB := l.getD i ⟨ByteArray.empty, ByteArray.empty, 0⟩

theorem kindOf_at : ∀ (l : List DB) (w : Lk.Wd) (i : Nat), i < l.length → (∀ j, j < i → ((dbAt l j).name.toList == w) = false) → ((dbAt l i).name.toList == w) = true → Rf.kindOf (dcs l) w = (dbAt l i).kind.toList
  | [], _, _, h, _, _ => by simp at h
  | d :: l, w, 0, _, _, h => by
    have h : (d.name.toList == w) = true := h
    show (if (d.name.toList == w) = true then _ else _) = _
    rw [if_pos h]; rfl
  | d :: l, w, i + 1, hi, hj, h => by
    have h0 : (d.name.toList == w) = false := hj 0 (by omega)
    show (if (d.name.toList == w) = true then _ else Rf.kindOf (dcs l) w) = _
    rw [if_neg (by rw [h0]; simp)]
    exact kindOf_at l w i (by simpa using hi) (fun j hjj => hj (j + 1) (by omega)) h
theorem kindOf_none : ∀ (l : List DB) (w : Lk.Wd), (∀ j, j < l.length → ((dbAt l j).name.toList == w) = false) → Rf.kindOf (dcs l) w = []
  | [], _, _ => rfl
  | d :: l, w, hj => by
    have h0 : (d.name.toList == w) = false := hj 0 (by simp)
    show (if (d.name.toList == w) = true then _ else Rf.kindOf (dcs l) w) = _
    rw [if_neg (by rw [h0]; simp)]
    exact kindOf_none l w (fun j hjj => hj (j + 1) (by simpa using hjj))

set_option maxRecDepth 100000 in
set_option maxHeartbeats 400000 in
theorem kind_pos (l : List DB) (P gn gk cn ck : Nat) (s : ByteArray) (w : World) (h0 : w.cell? ⟨P, 0, none⟩ = some (.slice (some ⟨gn, 0, none⟩) l.length cn)) (h1 : w.cell? ⟨P, 1, none⟩ = some (.slice (some ⟨gk, 0, none⟩) l.length ck))
    (hn : ∀ i, i < l.length → w.cell? ⟨gn, i, none⟩ = some (.string (dbAt l i).name)) (hk : ∀ i, i < l.length → w.cell? ⟨gk, i, none⟩ = some (.string (dbAt l i).kind)) (hl : l.length ≤ 1000) :
    Calls Try.prog 50 #[.pointer (some ⟨P, 0, none⟩), .string s] w fun e w' => ∃ q : ByteArray, e = .returned (.string q) ∧ q.toList = Rf.kindOf (dcs l) s.toList ∧ w' = w := by
  have HN := hid hn
  have HK := hid hk
  clear hn hk
  have hlI : (l.length : Int) ≤ 1000 := by omega
  go_enter Try.func50, Try.ntmps50
  go_wp2
  go_loop [5] (fun i => ∃ k : Nat, k ≤ l.length ∧ i = .int .i64 k ∧ (∀ j, j < k → ((dbAt l j).name.toList == s.toList) = false)) (fun i => l.length - (intOf i).toNat)
  case atStart => exact ⟨0, Nat.zero_le _, rfl, fun j h => by omega⟩
  case round =>
    obtain ⟨k, hk, rfl, hno⟩ := hrel
    have Hno := hid hno
    clear hno
    by_cases hlt : k < l.length
    · have hltI : (k : Int) < (l.length : Int) := by omega
      have cn := HN.out k hlt
      have ck := HK.out k hlt
      cases he : ((dbAt l k).name.toList == s.toList) with
      | true =>
        go_wp2
        go_ret
        exact ⟨_, rfl, (kindOf_at l _ k hlt Hno.out he).symm, rfl⟩
      | false =>
        go_wp2
        go_round
        case rel =>
          refine ⟨k + 1, by omega, by go_num, ?_⟩
          intro j hj
          by_cases hjk : j = k
          · subst hjk; exact he
          · exact Hno.out j (by omega)
        case measure => simp [intOf]; omega
    · have hltI : ¬ (k : Int) < (l.length : Int) := by omega
      have hke : k = l.length := by omega
      have Hke := hid hke
      clear hke
      go_wp2
      go_ret
      exact ⟨_, rfl, by rw [kindOf_none l _ (by rw [← show k = _ from Hke.out]; exact Hno.out)]; exact empty_toList, rfl⟩

set_option maxHeartbeats 400000 in
theorem kind_nil (P cn : Nat) (ad : Option Addr) (s : ByteArray) (w : World) (h0 : w.cell? ⟨P, 0, none⟩ = some (.slice ad 0 cn)) :
    Calls Try.prog 50 #[.pointer (some ⟨P, 0, none⟩), .string s] w fun e w' => ∃ q : ByteArray, e = .returned (.string q) ∧ q.toList = Rf.kindOf (dcs []) s.toList ∧ w' = w := by
  go_enter Try.func50, Try.ntmps50
  go_wp2
  refine wp_loop_rounds 1 ?_
  rw [rounds_succ]
  go_wp2
  go_ret
  exact ⟨_, rfl, empty_toList, rfl⟩

def countK (l : List DB) (q : Lk.Wd) (k : Nat) : Nat := ((l.take k).filter fun d => d.kind.toList == q).length
theorem countK_full (l : List DB) (q : Lk.Wd) : countK l q l.length = Rf.many (dcs l) q := by
  unfold countK Rf.many dcs
  rw [List.take_of_length_le (Nat.le_refl _), List.filter_map, List.length_map]
  rfl
theorem countK_step (l : List DB) (q : Lk.Wd) (k : Nat) (h : k < l.length) : countK l q (k + 1) = countK l q k + if ((dbAt l k).kind.toList == q) = true then 1 else 0 := by
  unfold countK
  rw [List.take_succ_eq_append_getElem h, List.filter_append, List.length_append]
  have : dbAt l k = l[k] := by simp [dbAt, h]
  rw [this]
  cases hk : (l[k].kind.toList == q) <;> simp [hk]
theorem countK_le (l : List DB) (q : Lk.Wd) (k : Nat) : countK l q k ≤ k := Nat.le_trans (List.length_filter_le _ _) (List.length_take_le _ _)

set_option maxRecDepth 100000 in
set_option maxHeartbeats 400000 in
theorem many_pos (l : List DB) (P gk ck : Nat) (s : ByteArray) (w : World) (h1 : w.cell? ⟨P, 1, none⟩ = some (.slice (some ⟨gk, 0, none⟩) l.length ck))
    (hk : ∀ i, i < l.length → w.cell? ⟨gk, i, none⟩ = some (.string (dbAt l i).kind)) (hl : l.length ≤ 1000) :
    Calls Try.prog 51 #[.pointer (some ⟨P, 0, none⟩), .string s] w fun e w' => e = .returned (.int .i64 (Rf.many (dcs l) s.toList)) ∧ w' = w := by
  have HK := hid hk
  clear hk
  have hlI : (l.length : Int) ≤ 1000 := by omega
  go_enter Try.func51, Try.ntmps51
  go_wp2
  go_loop [5, 6] (fun n i => ∃ k : Nat, k ≤ l.length ∧ i = .int .i64 k ∧ n = .int .i64 (countK l s.toList k)) (fun _ i => l.length - (intOf i).toNat)
  case atStart => exact ⟨0, Nat.zero_le _, rfl, rfl⟩
  case round =>
    obtain ⟨k, hk, rfl, rfl⟩ := hrel
    have hcl := countK_le l s.toList k
    have hclI : (countK l s.toList k : Int) ≤ 1000 := by omega
    by_cases hlt : k < l.length
    · have hltI : (k : Int) < (l.length : Int) := by omega
      have ck := HK.out k hlt
      have hst := countK_step l s.toList k hlt
      have Hst := hid hst
      clear hst
      cases he : ((dbAt l k).kind.toList == s.toList) with
      | true =>
        have He := hid he
        go_wp2
        go_round
        case rel => exact ⟨k + 1, by omega, by go_num, by rw [Hst.out, if_pos He.out]; rfl⟩
        case measure => simp [intOf]; omega
      | false =>
        have He := hid he
        go_wp2
        go_round
        case rel => exact ⟨k + 1, by omega, by go_num, by rw [Hst.out, if_neg (by rw [He.out]; simp)]; rfl⟩
        case measure => simp [intOf]; omega
    · have hltI : ¬ (k : Int) < (l.length : Int) := by omega
      have hke : k = l.length := by omega
      have Hke := hid hke
      clear hke
      go_wp2
      go_ret
      exact ⟨ret_int (by rw [← countK_full, ← show k = _ from Hke.out]), rfl⟩

set_option maxHeartbeats 400000 in
theorem many_nil (P ck : Nat) (ad : Option Addr) (s : ByteArray) (w : World) (h1 : w.cell? ⟨P, 1, none⟩ = some (.slice ad 0 ck)) :
    Calls Try.prog 51 #[.pointer (some ⟨P, 0, none⟩), .string s] w fun e w' => e = .returned (.int .i64 0) ∧ w' = w := by
  go_enter Try.func51, Try.ntmps51
  go_wp2
  refine wp_loop_rounds 1 ?_
  rw [rounds_succ]
  go_wp2
  go_ret
  exact ⟨rfl, rfl⟩

theorem oneOf_at : ∀ (l : List Lk.Wd) (w : Lk.Wd) (i : Nat), i < l.length → (∀ j, j < i → (l.getD j [] == w) = false) → (l.getD i [] == w) = true → Rf.oneOf w l = some i
  | [], _, _, h, _, _ => by simp at h
  | x :: l, w, 0, _, _, h => by
    have h : (x == w) = true := h
    unfold Rf.oneOf; rw [if_pos h]
  | x :: l, w, i + 1, hi, hj, h => by
    have h0 : (x == w) = false := hj 0 (by omega)
    unfold Rf.oneOf
    rw [if_neg (by rw [h0]; simp), oneOf_at l w i (by simpa using hi) (fun j hjj => hj (j + 1) (by omega)) h]; rfl
theorem oneOf_none : ∀ (l : List Lk.Wd) (w : Lk.Wd), (∀ j, j < l.length → (l.getD j [] == w) = false) → Rf.oneOf w l = none
  | [], _, _ => rfl
  | x :: l, w, hj => by
    have h0 : (x == w) = false := hj 0 (by simp)
    unfold Rf.oneOf
    rw [if_neg (by rw [h0]; simp), oneOf_none l w (fun j hjj => hj (j + 1) (by simpa using hjj))]; rfl

set_option maxRecDepth 100000 in
set_option maxHeartbeats 400000 in
theorem oneOf_pos (l : List ByteArray) (g c : Nat) (s : ByteArray) (w : World) (hn : Wds w g l) (hl : l.length ≤ 1000) :
    Calls Try.prog 24 #[.string s, .slice (some ⟨g, 0, none⟩) l.length c] w fun e w' => e = .returned (.int .i64 (Lk.intO (Rf.oneOf s.toList (l.map ByteArray.toList)))) ∧ w' = w := by
  have HN := hid hn
  clear hn
  have hlI : (l.length : Int) ≤ 1000 := by omega
  go_enter Try.func24, Try.ntmps24
  go_wp2
  go_loop [5] (fun i => ∃ k : Nat, k ≤ l.length ∧ i = .int .i64 k ∧ (∀ j, j < k → ((l.map ByteArray.toList).getD j [] == s.toList) = false)) (fun i => l.length - (intOf i).toNat)
  case atStart => exact ⟨0, Nat.zero_le _, rfl, fun j h => by omega⟩
  case round =>
    obtain ⟨k, hk, rfl, hno⟩ := hrel
    have Hno := hid hno
    clear hno
    by_cases hlt : k < l.length
    · have hltI : (k : Int) < (l.length : Int) := by omega
      have cn := HN.out k hlt
      have hwd := wd_map l k
      unfold Lk.wd at hwd
      have Hwd := hid hwd
      clear hwd
      generalize l.getD k ByteArray.empty = q at cn Hwd
      cases he : (q.toList == s.toList) with
      | true =>
        have He := hid he
        go_wp2
        go_ret
        exact ⟨ret_int (by rw [oneOf_at _ _ k (by simpa using hlt) Hno.out (by rw [Hwd.out]; exact He.out)]; rfl), rfl⟩
      | false =>
        have He := hid he
        go_wp2
        go_round
        case rel =>
          refine ⟨k + 1, by omega, by go_num, ?_⟩
          intro j hj
          by_cases hjk : j = k
          · subst hjk; rw [Hwd.out]; exact He.out
          · exact Hno.out j (by omega)
        case measure => simp [intOf]; omega
    · have hltI : ¬ (k : Int) < (l.length : Int) := by omega
      have hke : k = l.length := by omega
      have Hke := hid hke
      clear hke
      go_wp2
      go_ret
      exact ⟨ret_int (by rw [oneOf_none _ _ (by rw [List.length_map, ← show k = _ from Hke.out]; exact Hno.out)]; rfl), rfl⟩

end Go.Proofs.Ytgddmpmcnjlcjaa

namespace Go.Proofs.Ytgddmpmcnjlcjaa
open Go.RowKit
set_option linter.unusedVariables false

def pcell (vn vk vz vb : Value) (i : Nat) : Value := if i = 0 then vn else if i = 1 then vk else if i = 2 then vz else vb

/-- A program lies in block P; its names' rows from 'base' on. -/
structure PRep (w : World) (base P : Nat) (l : List DB) (vn vk vz vb : Value) : Prop where
  row : w.rowIs P 49 4 (pcell vn vk vz vb)
  ge : base ≤ P
  nm : w.ownsRow base 9 1 vn l.length (l.map fun d => Value.string d.name)
  kd : w.ownsRow base 9 1 vk l.length (l.map fun d => Value.string d.kind)
  sz : w.ownsRow base 3 1 vz l.length (l.map fun d => Value.int .i64 d.size)
  np : vn.ownBlock ≠ some P
  kp : vk.ownBlock ≠ some P
  zp : vz.ownBlock ≠ some P
  nk : vn.ownBlock = none ∨ vn.ownBlock ≠ vk.ownBlock
  nz : vn.ownBlock = none ∨ vn.ownBlock ≠ vz.ownBlock
  kz : vk.ownBlock = none ∨ vk.ownBlock ≠ vz.ownBlock

namespace PRep
variable {w : World} {base P : Nat} {l : List DB} {vn vk vz vb : Value}
theorem lt (h : PRep w base P l vn vk vz vb) : P < w.heap.size := h.row.lt
theorem baseLe (h : PRep w base P l vn vk vz vb) : base ≤ w.heap.size := Nat.le_of_lt (Nat.lt_of_le_of_lt h.ge h.lt)
theorem later {w' : World} (h : PRep w base P l vn vk vz vb) (hb : ∀ k, k < w.heap.size → w'.heap[k]? = w.heap[k]?) : PRep w' base P l vn vk vz vb :=
  ⟨h.row.of_block (hb P h.row.lt), h.ge, ownsRow_same h.nm hb, ownsRow_same h.kd hb, ownsRow_same h.sz hb, h.np, h.kp, h.zp, h.nk, h.nz, h.kz⟩
theorem below {w' : World} (h : PRep w base P l vn vk vz vb) (hb : Below w.heap.size w w') : PRep w' base P l vn vk vz vb := h.later hb.block
theorem alloc (h : PRep w base P l vn vk vz vb) (o : Obj) : PRep (w.alloc o) base P l vn vk vz vb := h.later fun k hk => Below.heap_alloc w o k hk
theorem drew (h : PRep w base P l vn vk vz vb) : PRep w.drew base P l vn vk vz vb := h.later fun _ _ => rfl
theorem drewN (h : PRep w base P l vn vk vz vb) (n : Nat) : PRep (w.drewN n) base P l vn vk vz vb := h.later fun _ _ => rfl
/-- Another block is written. -/
theorem grown {w' : World} {R : Nat} (h : PRep w base P l vn vk vz vb) (hg : w.grownBy w' (some R)) (hP : P ≠ R) (hn : vn.ownBlock ≠ some R) (hk : vk.ownBlock ≠ some R) (hz : vz.ownBlock ≠ some R) : PRep w' base P l vn vk vz vb :=
  ⟨rowIs_grown h.row hg (by simpa using hP.symm), h.ge, h.nm.kept hg (.inr hn), h.kd.kept hg (.inr hk), h.sz.kept hg (.inr hz), h.np, h.kp, h.zp, h.nk, h.nz, h.kz⟩
theorem setOther {R i : Nat} (h : PRep w base P l vn vk vz vb) (hP : P ≠ R) (hn : vn.ownBlock ≠ some R) (hk : vk.ownBlock ≠ some R) (hz : vz.ownBlock ≠ some R) (u : Value) : PRep (w.setCell ⟨R, i, none⟩ u) base P l vn vk vz vb :=
  h.grown (grownBy_setCell w ⟨R, i, none⟩ u) hP hn hk hz

theorem kind_any (h : PRep w base P l vn vk vz vb) (s : ByteArray) (hl : l.length ≤ 1000) :
    Calls Try.prog 50 #[.pointer (some ⟨P, 0, none⟩), .string s] w fun e w' => ∃ q : ByteArray, e = .returned (.string q) ∧ q.toList = Rf.kindOf (dcs l) s.toList ∧ w' = w := by
  have h0 := h.row.cell (i := 0) (by omega)
  have h1 := h.row.cell (i := 1) (by omega)
  rw [show pcell vn vk vz vb 0 = vn from rfl] at h0
  rw [show pcell vn vk vz vb 1 = vk from rfl] at h1
  by_cases hz : l.length = 0
  · obtain ⟨ad, cp, hv⟩ := body_val h.nm
    rw [hv, hz] at h0
    have : l = [] := List.eq_nil_of_length_eq_zero hz
    rw [this]
    exact kind_nil P cp ad s w h0
  · obtain ⟨gn, cn, hv, _, _⟩ := h.nm.form (by omega)
    obtain ⟨gk, ck, hv2, _, _⟩ := h.kd.form (by omega)
    have hnm := h.nm
    have hkd := h.kd
    rw [hv] at h0 hnm
    rw [hv2] at h1 hkd
    refine kind_pos l P gn gk cn ck s w h0 h1 (fun i hi => ?_) (fun i hi => ?_) hl
    · rw [hnm.cellAt i (by omega)]; simp [dbAt, hi]
    · rw [hkd.cellAt i (by omega)]; simp [dbAt, hi]

theorem many_any (h : PRep w base P l vn vk vz vb) (s : ByteArray) (hl : l.length ≤ 1000) :
    Calls Try.prog 51 #[.pointer (some ⟨P, 0, none⟩), .string s] w fun e w' => e = .returned (.int .i64 (Rf.many (dcs l) s.toList)) ∧ w' = w := by
  have h1 := h.row.cell (i := 1) (by omega)
  rw [show pcell vn vk vz vb 1 = vk from rfl] at h1
  by_cases hz : l.length = 0
  · obtain ⟨ad, cp, hv⟩ := body_val h.kd
    rw [hv, hz] at h1
    have : l = [] := List.eq_nil_of_length_eq_zero hz
    rw [this]
    exact many_nil P cp ad s w h1
  · obtain ⟨gk, ck, hv2, _, _⟩ := h.kd.form (by omega)
    have hkd := h.kd
    rw [hv2] at h1 hkd
    refine many_pos l P gk ck s w h1 (fun i hi => ?_) hl
    rw [hkd.cellAt i (by omega)]; simp [dbAt, hi]

set_option maxHeartbeats 400000 in
theorem scalar_any (h : PRep w base P l vn vk vz vb) (s : ByteArray) (hl : l.length ≤ 1000) :
    Calls Try.prog 54 #[.pointer (some ⟨P, 0, none⟩), .string s] w fun e w' => e = .returned (.bool (Rf.scalar (dcs l) s.toList)) ∧ w' = w := by
  have HK := hid (h.kind_any s hl)
  clear h
  go_enter Try.func54, Try.ntmps54
  go_wp2_with (first | (go_at_call 50; refine HK.out.mono ?_; rintro e w1 ⟨q, rfl, hq, rfl⟩; have HQ := hid hq; clear hq))
  all_goals go_ret
  all_goals refine ⟨ret_bool ?_, rfl⟩
  all_goals unfold Rf.scalar
  all_goals rw [← show q.toList = _ from HQ.out]
  all_goals simp [Rf.wSecret, Rf.wPublic, Rf.wVar, *]

set_option maxHeartbeats 400000 in
theorem atom_any (h : PRep w base P l vn vk vz vb) (s : ByteArray) (hl : l.length ≤ 1000) :
    Calls Try.prog 53 #[.pointer (some ⟨P, 0, none⟩), .string s] w fun e w' => e = .returned (.bool (Rf.atom (dcs l) s.toList)) ∧ Below w.heap.size w w' := by
  have H := hid h
  clear h
  have hr := num_range s.toList
  cases hs : Rf.scalar (dcs l) s.toList with
  | true =>
    have Hs := hid hs
    clear hs
    go_enter Try.func53, Try.ntmps53
    go_wp2_with (first
      | (go_at_call 52; refine (numeral_any s _).mono ?_; rintro e w1 ⟨rfl, hb⟩; have HB := hid hb; clear hb)
      | (go_at_call 54; refine ((H.out.below HB.out).scalar_any s hl).mono ?_; rintro e w2 ⟨rfl, rfl⟩; rw [Hs.out]))
    go_ret
    exact ⟨ret_bool (by unfold Rf.atom; rw [Hs.out]; rfl), HB.out⟩
  | false =>
    have Hs := hid hs
    clear hs
    go_enter Try.func53, Try.ntmps53
    go_wp2_with (first
      | (go_at_call 52; refine (numeral_any s _).mono ?_; rintro e w1 ⟨rfl, hb⟩; have HB := hid hb; clear hb)
      | (go_at_call 54; refine ((H.out.below HB.out).scalar_any s hl).mono ?_; rintro e w2 ⟨rfl, rfl⟩; rw [Hs.out]))
    go_ret
    refine ⟨ret_bool ?_, HB.out⟩
    unfold Rf.atom; rw [Hs.out]
    cases hn : Lk.num? s.toList <;> simp [Lk.intO]

end PRep
end Go.Proofs.Ytgddmpmcnjlcjaa

namespace Go.Proofs.Ytgddmpmcnjlcjaa
open Go.RowKit
set_option linter.unusedVariables false

theorem Try.infoBool : (Try.prog.info? 4).map (fun i => (i.zero, i.size, i.bytes)) = some (some (.bool false), 1, 1) := by kernel_rfl
theorem Try.infoInt : (Try.prog.info? 3).map (fun i => (i.zero, i.size, i.bytes)) = some (some (.int .i64 0), 1, 8) := by kernel_rfl

theorem sec_close {w W w1 : World} {base b gg cap n : Nat} {r : Lk.RS} {vs vc vb : Value} {x : Bool} {o : Obj} (hR : Rep W base b r vs vc vb) (hB : Below base w W)
    (hown : w1.ownsRow base 4 1 (.slice (some ⟨gg, 0, none⟩) n cap) (r.secret.length + 1) (r.secret.map Value.bool ++ [.bool x]))
    (hg : (W.alloc o).grownBy w1 vs.ownBlock) (hat : vs.ownBlock = some gg ∨ gg = W.heap.size + 1) :
    Rep (w1.setCell ⟨b, 0, none⟩ (.slice (some ⟨gg, 0, none⟩) n cap)) base b { r with secret := r.secret ++ [x] } (.slice (some ⟨gg, 0, none⟩) n cap) vc vb ∧ Below base w (w1.setCell ⟨b, 0, none⟩ (.slice (some ⟨gg, 0, none⟩) n cap)) := by
  have hX := hR.alloc o
  refine ⟨((hX.growSec (sec' := r.secret ++ [x]) hg (by simpa using hown) (by simpa using hat)).put 0 _).congr (fun j hj => ?_), ?_⟩
  · unfold rcell
    by_cases h : j = 0
    · rw [if_pos h, if_pos h]
    · rw [if_neg h, if_neg h, if_neg h]
  · refine (Below.grown (hB.alloc hR.baseLe o) hg hX.baseLe ?_).setCell hR.ge _
    intro k hk
    exact (hR.sec.lt k hk).1

theorem cel_close {w W w1 : World} {base b gg cap n : Nat} {r : Lk.RS} {vs vc vb : Value} {x : Nat} {o : Obj} (hR : Rep W base b r vs vc vb) (hB : Below base w W)
    (hown : w1.ownsRow base 3 1 (.slice (some ⟨gg, 0, none⟩) n cap) (r.cells.length + 1) (r.cells.map (fun (n : Nat) => Value.int .i64 n) ++ [.int .i64 x]))
    (hg : (W.alloc o).grownBy w1 vc.ownBlock) (hat : vc.ownBlock = some gg ∨ gg = W.heap.size + 1) :
    Rep (w1.setCell ⟨b, 2, none⟩ (.slice (some ⟨gg, 0, none⟩) n cap)) base b { r with cells := r.cells ++ [x] } vs (.slice (some ⟨gg, 0, none⟩) n cap) vb ∧ Below base w (w1.setCell ⟨b, 2, none⟩ (.slice (some ⟨gg, 0, none⟩) n cap)) := by
  have hX := hR.alloc o
  refine ⟨((hX.growCel (cel' := r.cells ++ [x]) hg (by simpa using hown) (by simpa using hat)).put 2 _).congr (fun j hj => ?_), ?_⟩
  · unfold rcell
    by_cases h : j = 2
    · subst h; simp
    · rw [if_neg h]; simp only [h, if_false]
  · refine (Below.grown (hB.alloc hR.baseLe o) hg hX.baseLe ?_).setCell hR.ge _
    intro k hk
    exact (hR.cel.lt k hk).1

theorem declare_kept {r r' : Lk.RS} {w : Lk.Wd} {p q : Nat} (h : Lk.declare r w p q = some r') : r'.secret = r.secret ∧ r'.cells = r.cells ∧ r'.vars = r.vars := by
  unfold Lk.declare at h
  split at h
  · cases h; exact ⟨rfl, rfl, rfl⟩
  · cases h

set_option maxRecDepth 100000 in
set_option maxHeartbeats 1000000 in
theorem takeInput_any (r : Lk.RS) (vs vc vb : Value) (base b g cap : Nat) (ws : List ByteArray) (sx : Bool) (w : World) (hr : Rep w base b r vs vc vb) (hw : Wds w g ws) :
    Calls Try.prog 35 #[.pointer (some ⟨b, 0, none⟩), .slice (some ⟨g, 0, none⟩) ws.length cap, .bool sx] w fun e w' =>
      e = .returned (.bool (Lk.takeInput r (ws.map ByteArray.toList) sx).isSome) ∧ Took w w' base b (Lk.takeInput r (ws.map ByteArray.toList) sx) := by
  obtain ⟨t0, ht0, hz0, hz1, hz2⟩ := info_parts Try.infoBool
  have hlt := hr.lt
  have hge := hr.ge
  have hc0 := hr.row.cell (i := 0) (by omega)
  have hv1 := hr.row.cell (i := 1) (by omega)
  rw [show rcell r vs vc (.slice none 0 0) vb 0 = vs from rfl] at hc0
  rw [show rcell r vs vc (.slice none 0 0) vb 1 = .int .i64 r.vars from rfl] at hv1
  obtain ⟨ad, cp, hvs⟩ := body_val hr.sec
  by_cases hl : ws.length = 2
  · by_cases hs3 : r.secret.length < 3
    · by_cases hv0 : r.vars = 0
      · have hc1 := hw 1 (by omega)
        generalize hq : ws.getD 1 ByteArray.empty = q at hc1
        have hS : Lk.takeInput r (ws.map ByteArray.toList) sx = match Lk.declare r q.toList 1 r.secret.length with | some r' => some { r' with secret := r'.secret ++ [sx] } | none => none := by
          unfold Lk.takeInput; rw [wd_map, hq]; simp [hl, hs3, hv0]; rfl
        rw [hS, hl]
        have Hv : Hid _ := hv0
        rw [hv0] at hv1
        clear hq hw hl hS hv0
        have HR : Hid (Rep w base b r vs vc vb) := hr
        clear hr
        subst hvs
        have hs3I : (r.secret.length : Int) < 3 := by omega
        cases hd : Lk.declare r q.toList 1 r.secret.length with
        | none =>
          have Hd : Hid _ := hd
          clear hd
          go_enter Try.func35, Try.ntmps35
          go_wp2_with (first | (go_at_call 56; refine (declare_none r (.slice ad r.secret.length cp) vc vb base b q 1 r.secret.length _ ?_ Hd.out).mono ?_; exact HR.out; rintro e w1 ⟨rfl, rfl⟩))
          go_ret
          exact took_none rfl (Below.refl _ _)
        | some r' =>
          have hk := declare_kept hd
          have Hd : Hid _ := hd
          have Hk : Hid _ := hk
          clear hd hk
          go_enter Try.func35, Try.ntmps35
          go_wp2_with (first
            | (go_at_call 56; refine (declare_some r r' (.slice ad r.secret.length cp) vc vb base b q 1 r.secret.length _ ?_ Hd.out).mono ?_; exact HR.out; rintro e w1 ⟨rfl, R1, B1⟩; have c0 := R1.row.cell (i := 0) (by omega); have f0 := R1.row.frozen 0; rw [show rcell r' (.slice ad r.secret.length cp) vc (.slice none 0 0) vb 0 = (.slice ad r.secret.length cp) from rfl] at c0; have HR1 : Hid (Rep w1 base b r' (.slice ad r.secret.length cp) vc vb) := R1; have hs := R1.sec; have lt1 := R1.lt; clear R1)
            | (at_builtin; refine wpList_append_lies _ rfl _ _ 34 rfl base 4 t0 _ 1 1 Try.underlying34 ht0 hz0 hz1 hz2 rfl (by omega) _ r'.secret.length (r'.secret.map Value.bool) rfl (hs.alloc _) ⟨w1.heap.size, 0, none⟩ 1 1 [.bool sx] rfl rfl (cell_one_new _ _ _) (by simp [Value.oneCell']) (by omega) (by have := Hk.out; unfold maxLen; rw [this.1]; omega) (by have := Hk.out; rw [this.1]; omega) (by have := HR1.out.baseLe; simp; omega) (w1.heap.size + 1) (by simp) ?_; intro gg cap w2 hown1 hgrow hat hlt1; have f2 := (rowIs_grown (HR1.out.row.alloc _) hgrow HR1.out.ns).frozen 0; have c2 := (rowIs_grown (HR1.out.row.alloc _) hgrow HR1.out.ns).cell (i := 0) (by omega)))
          go_ret
          have C := sec_close HR1.out B1 hown1 hgrow hat
          exact took_some rfl C.1 C.2
      · have hS : Lk.takeInput r (ws.map ByteArray.toList) sx = none := by unfold Lk.takeInput; rw [if_neg (by omega)]
        subst hvs
        rw [hl]
        have hvI : (0 : Int) < (r.vars : Int) := by omega
        have hs3I : (r.secret.length : Int) < 3 := by omega
        clear hw hr hl
        go_enter Try.func35, Try.ntmps35
        go_wp2_with fail
        go_ret
        exact took_none hS (Below.refl _ _)
    · have hS : Lk.takeInput r (ws.map ByteArray.toList) sx = none := by unfold Lk.takeInput; rw [if_neg (by omega)]
      subst hvs
      rw [hl]
      have hs3I : (3 : Int) ≤ (r.secret.length : Int) := by omega
      clear hw hr hl
      go_enter Try.func35, Try.ntmps35
      go_wp2_with fail
      go_ret
      exact took_none hS (Below.refl _ _)
  · have hS : Lk.takeInput r (ws.map ByteArray.toList) sx = none := by unfold Lk.takeInput; rw [if_neg (by simp; omega)]
    subst hvs
    have hl' : ((ws.length : Int) != 2) = true := by simp; omega
    clear hw hr hl
    generalize ws.length = n at hl'
    go_enter Try.func35, Try.ntmps35
    go_wp2_with fail
    go_ret
    exact took_none hS (Below.refl _ _)

theorem vars_close {w W : World} {base b : Nat} {r : Lk.RS} {vs vc vb : Value} (hR : Rep W base b r vs vc vb) (hB : Below base w W) :
    Rep (W.setCell ⟨b, 1, none⟩ (.int .i64 ((r.vars : Int) + 1))) base b { r with vars := r.vars + 1 } vs vc vb ∧ Below base w (W.setCell ⟨b, 1, none⟩ (.int .i64 ((r.vars : Int) + 1))) := by
  refine ⟨(hR.put 1 _).congr (fun j hj => ?_), hB.setCell hR.ge _⟩
  unfold rcell
  by_cases h : j = 1
  · subst h; simp
  · rw [if_neg h]; simp only [h, if_false]

set_option maxRecDepth 100000 in
set_option maxHeartbeats 1000000 in
theorem takeVar_any (r : Lk.RS) (vs vc vb : Value) (base b g cap : Nat) (ws : List ByteArray) (w : World) (hr : Rep w base b r vs vc vb) (hw : Wds w g ws) (hs4 : r.secret.length ≤ 3) :
    Calls Try.prog 36 #[.pointer (some ⟨b, 0, none⟩), .slice (some ⟨g, 0, none⟩) ws.length cap] w fun e w' =>
      e = .returned (.bool (Lk.takeVar r (ws.map ByteArray.toList)).isSome) ∧ Took w w' base b (Lk.takeVar r (ws.map ByteArray.toList)) := by
  have hlt := hr.lt
  have hge := hr.ge
  have hc0 := hr.row.cell (i := 0) (by omega)
  have hv1 := hr.row.cell (i := 1) (by omega)
  have hf1 := hr.row.frozen 1
  rw [show rcell r vs vc (.slice none 0 0) vb 0 = vs from rfl] at hc0
  rw [show rcell r vs vc (.slice none 0 0) vb 1 = .int .i64 r.vars from rfl] at hv1
  obtain ⟨ad, cp, hvs⟩ := body_val hr.sec
  by_cases hl : ws.length = 2
  · by_cases hv4 : r.vars < 4
    · have hc1 := hw 1 (by omega)
      generalize hq : ws.getD 1 ByteArray.empty = q at hc1
      have hS : Lk.takeVar r (ws.map ByteArray.toList) = match Lk.declare r q.toList 1 (r.secret.length + r.vars) with | some r' => some { r' with vars := r'.vars + 1 } | none => none := by
        unfold Lk.takeVar; rw [wd_map, hq]; simp [hl, hv4]; rfl
      rw [hS, hl]
      clear hq hw hl hS
      have HR : Hid (Rep w base b r vs vc vb) := hr
      clear hr
      subst hvs
      have hs3I : (r.secret.length : Int) ≤ 3 := by omega
      have hv4I : (r.vars : Int) < 4 := by omega
      cases hd : Lk.declare r q.toList 1 (r.secret.length + r.vars) with
      | none =>
        have Hd : Hid _ := hd
        clear hd
        go_enter Try.func36, Try.ntmps36
        go_wp2_with fail
        go_quiet (fail)
        go_wp2_with (first | (go_at_call 56; refine (declare_none r (.slice ad r.secret.length cp) vc vb base b q 1 (r.secret.length + r.vars) _ ?_ Hd.out).mono ?_; exact HR.out.later (fun _ _ => rfl); rintro e w1 ⟨rfl, rfl⟩))
        go_ret
        exact took_none rfl (below_drewN (Below.refl _ _) _)
      | some r' =>
        have hk := declare_kept hd
        have Hd : Hid _ := hd
        have Hk : Hid _ := hk
        clear hd hk
        go_enter Try.func36, Try.ntmps36
        go_wp2_with fail
        go_quiet (fail)
        go_wp2_with (first
          | (go_at_call 56; go_loud (refine (declare_some r r' (.slice ad r.secret.length cp) vc vb base b q 1 (r.secret.length + r.vars) _ ?_ Hd.out).mono ?_); go_loud (exact HR.out.later (fun _ _ => rfl)); rintro e w1 ⟨rfl, R1, B1⟩; have c1 := R1.row.cell (i := 1) (by omega); have f1 := R1.row.frozen 1; rw [show rcell r' (.slice ad r.secret.length cp) vc (.slice none 0 0) vb 1 = .int .i64 r'.vars from rfl] at c1; go_loud (have v4 : (r'.vars : Int) < 4 := by (have := Hk.out; omega)); have HR1 : Hid (Rep w1 base b r' (.slice ad r.secret.length cp) vc vb) := R1; clear R1))
        go_ret
        have C := vars_close HR1.out ((below_drewN (Below.refl _ _) _).trans B1)
        exact took_some rfl C.1 C.2
    · have hS : Lk.takeVar r (ws.map ByteArray.toList) = none := by unfold Lk.takeVar; rw [if_neg (by omega)]
      rw [hl]
      have hvI : (4 : Int) ≤ (r.vars : Int) := by omega
      clear hw hr hl
      go_enter Try.func36, Try.ntmps36
      go_wp2_with fail
      go_ret
      exact took_none hS (Below.refl _ _)
  · have hS : Lk.takeVar r (ws.map ByteArray.toList) = none := by unfold Lk.takeVar; rw [if_neg (by simp; omega)]
    have hl' : ((ws.length : Int) != 2) = true := by simp; omega
    clear hw hr hl
    generalize ws.length = n at hl'
    go_enter Try.func36, Try.ntmps36
    go_wp2_with fail
    go_ret
    exact took_none hS (Below.refl _ _)

set_option maxRecDepth 100000 in
set_option maxHeartbeats 1000000 in
theorem takeArray_any (r : Lk.RS) (vs vc vb : Value) (base b g cap : Nat) (ws : List ByteArray) (w : World) (hr : Rep w base b r vs vc vb) (hw : Wds w g ws) :
    Calls Try.prog 37 #[.pointer (some ⟨b, 0, none⟩), .slice (some ⟨g, 0, none⟩) ws.length cap] w fun e w' =>
      e = .returned (.bool (Lk.takeArray r (ws.map ByteArray.toList)).isSome) ∧ Took w w' base b (Lk.takeArray r (ws.map ByteArray.toList)) := by
  obtain ⟨t0, ht0, hz0, hz1, hz2⟩ := info_parts Try.infoInt
  have hlt := hr.lt
  have hge := hr.ge
  have hc0 := hr.row.cell (i := 2) (by omega)
  rw [show rcell r vs vc (.slice none 0 0) vb 2 = vc from rfl] at hc0
  obtain ⟨ad, cp, hvc⟩ := body_val hr.cel
  by_cases hl : ws.length = 3
  · by_cases hs2 : r.cells.length < 2
    · have hc1 := hw 1 (by omega)
      have hc2 := hw 2 (by omega)
      generalize hq1 : ws.getD 1 ByteArray.empty = q1 at hc1
      generalize hq2 : ws.getD 2 ByteArray.empty = q2 at hc2
      have hS : Lk.takeArray r (ws.map ByteArray.toList) = match Lk.num? q2.toList with | some n => (if 1 ≤ n ∧ n ≤ 4 then (match Lk.declare r q1.toList 2 r.cells.length with | some r' => some { r' with cells := r'.cells ++ [n] } | none => none) else none) | none => none := by
        unfold Lk.takeArray; rw [wd_map, wd_map, hq1, hq2]; simp [hl, hs2]; rfl
      rw [hS, hl]
      clear hq1 hq2 hw hl hS
      have HR : Hid (Rep w base b r vs vc vb) := hr
      clear hr
      subst hvc
      have hs2I : (r.cells.length : Int) < 2 := by omega
      cases hn : Lk.num? q2.toList with
      | none =>
        have Hn : Hid _ := hn
        clear hn
        go_enter Try.func37, Try.ntmps37
        go_wp2_with (first | (go_at_call 57; refine (number_none _ _ Hn.out).mono ?_; rintro e w1 ⟨rfl, rfl⟩))
        go_ret
        exact took_none rfl (Below.refl _ _)
      | some n =>
        have Hn : Hid _ := hn
        clear hn
        dsimp only
        by_cases h14 : 1 ≤ n ∧ n ≤ 4
        · rw [if_pos h14]
          have h1 : (1 : Int) ≤ (n : Int) := by omega
          have h4 : (n : Int) ≤ 4 := by omega
          cases hd : Lk.declare r q1.toList 2 r.cells.length with
          | none =>
            have Hd : Hid _ := hd
            clear hd
            go_enter Try.func37, Try.ntmps37
            go_wp2_with (first | (go_at_call 57; refine (number_some _ _ Hn.out).mono ?_; rintro e w1 ⟨rfl, rfl⟩) | (go_at_call 56; refine (declare_none r vs (.slice ad r.cells.length cp) vb base b q1 2 r.cells.length _ ?_ Hd.out).mono ?_; exact HR.out; rintro e w1 ⟨rfl, rfl⟩))
            go_ret
            exact took_none rfl (Below.refl _ _)
          | some r' =>
            have hk := declare_kept hd
            have Hd : Hid _ := hd
            have Hk : Hid _ := hk
            clear hd hk
            go_enter Try.func37, Try.ntmps37
            go_wp2_with (first
              | (go_at_call 57; refine (number_some _ _ Hn.out).mono ?_; rintro e w0 ⟨rfl, rfl⟩)
              | (go_at_call 56; refine (declare_some r r' vs (.slice ad r.cells.length cp) vb base b q1 2 r.cells.length _ ?_ Hd.out).mono ?_; exact HR.out; rintro e w1 ⟨rfl, R1, B1⟩; have c0 := R1.row.cell (i := 2) (by omega); have f0 := R1.row.frozen 2; rw [show rcell r' vs (.slice ad r.cells.length cp) (.slice none 0 0) vb 2 = (.slice ad r.cells.length cp) from rfl] at c0; have HR1 : Hid (Rep w1 base b r' vs (.slice ad r.cells.length cp) vb) := R1; have hs := R1.cel; have lt1 := R1.lt; clear R1)
              | (at_builtin; refine wpList_append_lies _ rfl _ _ 22 rfl base 3 t0 _ 1 8 Try.underlying22 ht0 hz0 hz1 hz2 rfl (by omega) _ r'.cells.length (r'.cells.map fun (n : Nat) => Value.int .i64 n) rfl (hs.alloc _) ⟨w1.heap.size, 0, none⟩ 1 1 [.int .i64 n] rfl rfl (cell_one_new _ _ _) (by simp [Value.oneCell']) (by omega) (by have := Hk.out; unfold maxLen; rw [this.2.1]; omega) (by have := Hk.out; rw [this.2.1]; omega) (by have := HR1.out.baseLe; simp; omega) (w1.heap.size + 1) (by simp) ?_; intro gg cap w2 hown1 hgrow hat hlt1; have f2 := (rowIs_grown (HR1.out.row.alloc _) hgrow HR1.out.nc).frozen 2; have c2 := (rowIs_grown (HR1.out.row.alloc _) hgrow HR1.out.nc).cell (i := 2) (by omega)))
            go_ret
            have C := cel_close HR1.out B1 hown1 hgrow hat
            exact took_some rfl C.1 C.2
        · rw [if_neg h14]
          by_cases h1 : 1 ≤ n
          · have h1I : (1 : Int) ≤ (n : Int) := by omega
            have h4 : (4 : Int) < (n : Int) := by omega
            go_enter Try.func37, Try.ntmps37
            go_wp2_with (first | (go_at_call 57; refine (number_some _ _ Hn.out).mono ?_; rintro e w1 ⟨rfl, rfl⟩))
            go_ret
            exact took_none rfl (Below.refl _ _)
          · have h1I : (n : Int) < 1 := by omega
            go_enter Try.func37, Try.ntmps37
            go_wp2_with (first | (go_at_call 57; refine (number_some _ _ Hn.out).mono ?_; rintro e w1 ⟨rfl, rfl⟩))
            go_ret
            exact took_none rfl (Below.refl _ _)
    · have hS : Lk.takeArray r (ws.map ByteArray.toList) = none := by unfold Lk.takeArray; rw [if_neg (by omega)]
      subst hvc
      rw [hl]
      have hvI : (2 : Int) ≤ (r.cells.length : Int) := by omega
      clear hw hr hl
      go_enter Try.func37, Try.ntmps37
      go_wp2_with fail
      go_ret
      exact took_none hS (Below.refl _ _)
  · have hS : Lk.takeArray r (ws.map ByteArray.toList) = none := by unfold Lk.takeArray; rw [if_neg (by simp; omega)]
    subst hvc
    have hl' : ((ws.length : Int) != 3) = true := by simp; omega
    clear hw hr hl
    generalize ws.length = n at hl'
    go_enter Try.func37, Try.ntmps37
    go_wp2_with fail
    go_ret
    exact took_none hS (Below.refl _ _)

end Go.Proofs.Ytgddmpmcnjlcjaa
