import Derived.Test.YtgddmpmcnjlcjaaGreatDoorB40
import Derived.Deep.QuietTactic
import Derived.BigQuiet
import Derived.Deep.RegionLaw
import Derived.Deep.LoopGhost
namespace Go.Proofs.YtgddmpmcnjlcjaaGreatDoor
open Go.RowKit
open Tm (TsOk DsOk Wd16)
set_option linter.unusedVariables false
section
variable {w0 wf : World} {F A : Nat → Prop} {P : Nat} {l : List DB} {R gv gc cc : Nat} {ga : Nat → Nat} {N N' : Nat} {m : Tm.M} {w w' : World}
set_option maxRecDepth 100000 in
set_option maxHeartbeats 400000 in
theorem rstep_set5 (h : RunAt w0 wf F A P l R gv gc cc ga N m w) (p : PS w0 P l) (h16 : Wd16 m) (hb : m.bad = false) (hN : N ≤ 800) {ts : List Rf.Tr} {i : Nat} {q : List (List Rf.Tr × Nat)} (hp : Tm.pop m.at_ = (ts, i) :: q) {W : List Lk.Wd} {B O : List Rf.Tr} (hd : ts.getD i (.node [] [] []) = .node W B O) (hl : W.length = 5) (n0 : (Lk.wd W 0 == [111, 117, 116]) = false) (n1 : (Lk.wd W 0 == [105, 102]) = false) (n2 : (Lk.wd W 0 == [119, 104, 105, 108, 101]) = false) (n3 : (Lk.wd W 0 == [108, 111, 97, 100]) = false) (n4 : (Lk.wd W 0 == [115, 116, 111, 114, 101]) = false) (hok : Rf.scalar (dcs l) (Lk.wd W 0) = true) (ha : Rf.atom (dcs l) (Lk.wd W 2) = true) (hb4 : Rf.atom (dcs l) (Lk.wd W 4) = true) (o : Nat) (hop : Lk.oper? (Lk.wd W 3) = some o) :
    Calls Tryz.prog 53 #[.pointer (some ⟨R, 0, none⟩)] w fun e w' => e = .returned (.int .i64 ((0 : Nat) : Int)) ∧ RunAt w0 wf F A P l R gv gc cc ga (N + 1) { m with at_ := (ts, i + 1) :: q, vals := Lk.upd m.vals (Tm.idx (dcs l) (Lk.wd W 0)) (Mc.apply o (Tm.value (dcs l) m (Lk.wd W 2)) (Tm.value (dcs l) m (Lk.wd W 4))) } w' := by
  have b4 := h.bad
  rw [hb] at b4
  obtain ⟨x, hx⟩ : ∃ x, Tm.value (dcs l) m (Lk.wd W 2) = x := ⟨_, rfl⟩
  have hx16 : x < 16 := by rw [← hx]; exact h16.value _
  rw [hx]
  obtain ⟨y, hy⟩ : ∃ y, Tm.value (dcs l) m (Lk.wd W 4) = y := ⟨_, rfl⟩
  have hy16 : y < 16 := by rw [← hy]; exact h16.value _
  rw [hy]
  obtain ⟨j, hj⟩ : ∃ j, Tm.idx (dcs l) (Lk.wd W 0) = j := ⟨_, rfl⟩
  rw [hj]
  have hN9 : N ≤ 900 := by omega
  have H := hid h
  have HP := hid hp
  have HD := hid hd
  have HL := hid hl
  have HOK := hid hok
  have HA := hid ha
  have HX := hid hx
  have HJ := hid hj
  have hjl : j < l.length := by rw [← hj]; exact idx_lt p hok
  have hjI : (j : Int) < (l.length : Int) := by omega
  have hlI : (l.length : Int) ≤ 1000 := by have := p.len; omega
  have HB4 := hid hb4
  have HOP := hid hop
  have HY := hid hy
  obtain ⟨z, hz⟩ : ∃ z, Mc.apply o x y = z := ⟨_, rfl⟩
  have HZ := hid hz
  clear h hb hp hd hl ha hx hj hok hb4 hop hy hz
  go_enter Tryz.func53, Tryz.ntmps53
  go_wp2_with (first
    | (go_at_call 86; refine (find_run H.out hN9).mono ?_; rintro e w1 ⟨r, rfl, hr1, -, hr3⟩; obtain ⟨sb, hr4, hs⟩ := hr3 _ _ _ HP.out; subst hr4; rw [HD.out] at hs; obtain ⟨gw, cw, ws, vb, vo, hW, hf, hsb, hso⟩ := fnd_of hs; obtain ⟨a, b, c, d, f, e1, e2, e4, e5, e6⟩ := ws_five hW HL.out; subst e1; have m0 := n0; have m1 := n1; have m2 := n2; have m3 := n3; have m4 := n4; rw [← e2] at m0 m1 m2 m3 m4; have HE0 := hid e2; have HE2 := hid e4; have HE3 := hid e5; have HE4 := hid e6; clear e2 e4 e5 e6 hsb hso; have HF := hid hf; have f1 := hf.later hr1; have s0 := f1.s0; have y0 := f1.hW 0 (by simp); simp only [List.length_cons, List.length_nil, List.getD_cons_zero, Nat.reduceAdd] at s0 y0; have HR1 := hid hr1; clear hr1 hr3 hs hW hf f1))
  go_wp2_with (first
    | (go_at_call 87; refine (passed_run HR1.out HP.out hN9).mono ?_; rintro e w2 ⟨rfl, hr2⟩; have f2 := HF.out.later hr2; have t0 := f2.hW 0 (by simp); have t2 := f2.hW 2 (by simp); have t3 := f2.hW 3 (by simp); have t4 := f2.hW 4 (by simp); simp only [List.getD_cons_zero, List.getD_cons_succ] at t0 t2 t3 t4; have v0 := hr2.v0; have v1 := hr2.vals.cell hjl; have v2 := hr2.vals.frozen j; have HR2 := hid hr2; clear hr2 f2)
    | (go_at_call_of 88 (Value.string c); refine (value_at HR2.out p HE2.out HA.out HX.out).mono ?_; rintro e w3 ⟨rfl, k3, hw3⟩; subst hw3)
    | (go_at_call_of 88 (Value.string f); refine (value_at (HR2.out.drew _) p HE4.out HB4.out HY.out).mono ?_; rintro e w4 ⟨rfl, k4, hw4⟩; subst hw4)
    | (go_at_call 90; refine (compute_any d o (by rw [HE3.out]; exact HOP.out) x y hx16 hy16 _).mono ?_; rintro e w5 ⟨rfl, hw5⟩; subst hw5)
    | (go_at_call 91; refine (index_at (HR2.out.drew _) p HE0.out HOK.out HJ.out).mono ?_; rintro e w6 ⟨rfl, hw6⟩; have hw7 := hw6.symm; subst hw7)
    | (go_at_call 85; refine (ritem_any 0 0 _ (by omega) (by omega)).mono ?_; rintro e w' ⟨rfl, hw'⟩; subst hw'))
  go_ret
  exact ⟨rfl, (HR2.out.drew _).setVal _ _⟩
end
end Go.Proofs.YtgddmpmcnjlcjaaGreatDoor
namespace Go.Proofs.YtgddmpmcnjlcjaaGreatDoor
open Go.RowKit
open Tm (TsOk DsOk Wd16)
set_option linter.unusedVariables false
theorem Tm.TsOk.one {ds : List Rf.Dc} {t : Rf.Tr} (h : TsOk ds [t]) : (∃ W, t = .node W [] [] ∧ Rf.fits ds W = true ∧ ¬ (Lk.wd W 0 = Rf.wIf ∨ Lk.wd W 0 = Rf.wWhile)) ∨
    (∃ W B O, t = .node W B O ∧ W.length = 2 ∧ Rf.atom ds (Lk.wd W 1) = true ∧ (Lk.wd W 0 = Rf.wIf ∨ Lk.wd W 0 = Rf.wWhile) ∧ TsOk ds B ∧ TsOk ds O) := by
  cases h with
  | plain h hn hr => exact .inl ⟨_, rfl, h, hn⟩
  | cond h2 ha hw hb ho hr => exact .inr ⟨_, _, _, rfl, h2, ha, hw, hb, ho⟩
theorem step_node {ds : List Rf.Dc} {m : Tm.M} {ts : List Rf.Tr} {i : Nat} {q : List (List Rf.Tr × Nat)} {W : List Lk.Wd} {B O : List Rf.Tr} (hb : m.bad = false) (hp : Tm.pop m.at_ = (ts, i) :: q) (hd : ts.getD i (.node [] [] []) = .node W B O) : Tm.step ds m =
    (if Lk.wd W 0 = Rf.wIf ∨ Lk.wd W 0 = Rf.wWhile then
      (if Tm.value ds m (Lk.wd W 1) = 0 then (16, { m with at_ := (O, 0) :: (if Lk.wd W 0 = Rf.wIf ∨ Tm.value ds m (Lk.wd W 1) = 0 then (ts, i + 1) :: q else (ts, i) :: q) })
       else (17, { m with at_ := (B, 0) :: (if Lk.wd W 0 = Rf.wIf ∨ Tm.value ds m (Lk.wd W 1) = 0 then (ts, i + 1) :: q else (ts, i) :: q) }))
     else Tm.plain ds W { m with at_ := (ts, i + 1) :: q }) := by
  unfold Tm.step
  rw [if_neg (by rw [hb]; simp), hp]
  simp only [hd, Tm.words, Tm.body, Tm.other]
theorem bne_of {a b : Lk.Wd} (h : ¬ a = b) : (a == b) = false := by simpa using h
section
variable {w0 wf : World} {F A : Nat → Prop} {P : Nat} {l : List DB} {R gv gc cc : Nat} {ga : Nat → Nat} {N N' : Nat} {m : Tm.M} {w w' : World}
theorem plain_run (h : RunAt w0 wf F A P l R gv gc cc ga N m w) (p : PS w0 P l) (h16 : Wd16 m) (hb : m.bad = false) (hN : N ≤ 800) {ts : List Rf.Tr} {i : Nat} {q : List (List Rf.Tr × Nat)} (hp : Tm.pop m.at_ = (ts, i) :: q) {W : List Lk.Wd} {B O : List Rf.Tr} (hd : ts.getD i (.node [] [] []) = .node W B O) (hf : Rf.fits (dcs l) W = true) (hn : ¬ (Lk.wd W 0 = Rf.wIf ∨ Lk.wd W 0 = Rf.wWhile)) :
    Calls Tryz.prog 53 #[.pointer (some ⟨R, 0, none⟩)] w fun e w' => e = .returned (.int .i64 ((Tm.plain (dcs l) W { m with at_ := (ts, i + 1) :: q }).1 : Nat)) ∧ RunAt w0 wf F A P l R gv gc cc ga (N + 1) (Tm.plain (dcs l) W { m with at_ := (ts, i + 1) :: q }).2 w' := by
  have hf0 := hf
  unfold Rf.fits at hf
  by_cases c1 : Lk.wd W 0 = Rf.wOut
  · rw [if_pos c1, Bool.and_eq_true] at hf
    have e : Tm.plain (dcs l) W { m with at_ := (ts, i + 1) :: q } = (48 + Tm.value (dcs l) m (Lk.wd W 1), { m with at_ := (ts, i + 1) :: q }) := by
      unfold Tm.plain
      rw [if_pos c1]
      rfl
    rw [e]
    exact rstep_out h p h16 hb (by omega) hp hd (by simpa using hf.1) c1 hf.2
  · rw [if_neg c1] at hf
    by_cases c2 : Lk.wd W 0 = Rf.wLoad
    · rw [if_pos c2, Bool.and_eq_true] at hf
      exact rstep_load h p h16 hb hN hp hd (by simpa using hf.1) c2 hf0
    · rw [if_neg c2] at hf
      by_cases c3 : Lk.wd W 0 = Rf.wStore
      · rw [if_pos c3, Bool.and_eq_true] at hf
        exact rstep_store h p h16 hb hN hp hd (by simpa using hf.1) c3 hf0
      · rw [if_neg c3] at hf
        have n0 : (Lk.wd W 0 == [111, 117, 116]) = false := bne_of c1
        have n1 : (Lk.wd W 0 == [105, 102]) = false := bne_of (fun e => hn (.inl e))
        have n2 : (Lk.wd W 0 == [119, 104, 105, 108, 101]) = false := bne_of (fun e => hn (.inr e))
        have n3 : (Lk.wd W 0 == [108, 111, 97, 100]) = false := bne_of c2
        have n4 : (Lk.wd W 0 == [115, 116, 111, 114, 101]) = false := bne_of c3
        have e : Tm.plain (dcs l) W { m with at_ := (ts, i + 1) :: q } = (0, { m with at_ := (ts, i + 1) :: q, vals := Lk.upd m.vals (Tm.idx (dcs l) (Lk.wd W 0)) (if W.length = 5 then Mc.apply ((Lk.oper? (Lk.wd W 3)).getD 0) (Tm.value (dcs l) m (Lk.wd W 2)) (Tm.value (dcs l) m (Lk.wd W 4)) else Tm.value (dcs l) m (Lk.wd W 2)) }) := by
          unfold Tm.plain
          rw [if_neg c1, if_neg c2, if_neg c3]
          rfl
        rw [e]
        by_cases l3 : W.length = 3
        · rw [if_pos l3] at hf
          simp only [Bool.and_eq_true] at hf
          rw [if_neg (by omega)]
          exact rstep_set3 h p h16 hb hN hp hd l3 n0 n1 n2 n3 n4 hf.1.1 hf.2
        · rw [if_neg l3] at hf
          by_cases l5 : W.length = 5
          · rw [if_pos l5] at hf
            simp only [Bool.and_eq_true] at hf
            rw [if_pos l5]
            have ho := hf.2.1
            rw [← Rf.oper_some] at ho
            cases hop : Lk.oper? (Lk.wd W 3) with
            | none => rw [hop] at ho; cases ho
            | some o => exact rstep_set5 h p h16 hb hN hp hd l5 n0 n1 n2 n3 n4 hf.1.1.1 hf.1.2 hf.2.2 o hop
          · rw [if_neg l5] at hf; cases hf
theorem step_run (h : RunAt w0 wf F A P l R gv gc cc ga N m w) (p : PS w0 P l) (h16 : Wd16 m) (hN : N ≤ 800) :
    Calls Tryz.prog 53 #[.pointer (some ⟨R, 0, none⟩)] w fun e w' => e = .returned (.int .i64 ((Tm.step (dcs l) m).1 : Nat)) ∧ RunAt w0 wf F A P l R gv gc cc ga (N + 2) (Tm.step (dcs l) m).2 w' := by
  cases hb : m.bad with
  | true =>
    have e : Tm.step (dcs l) m = (80, m) := by unfold Tm.step; rw [if_pos hb]
    rw [e]
    exact (rstep_bad h hb).mono (fun e w' hh => ⟨hh.1, hh.2.up (by omega)⟩)
  | false =>
    cases hp : Tm.pop m.at_ with
    | nil =>
      have e : Tm.step (dcs l) m = (64, { m with at_ := [] }) := by unfold Tm.step; rw [if_neg (by rw [hb]; simp), hp]
      rw [e]
      exact (rstep_none h hb (by omega) hp).mono (fun e w' hh => ⟨hh.1, hh.2.up (by omega)⟩)
    | cons x q =>
      obtain ⟨ts, i⟩ := x
      have hil := Tm.pop_head hp
      have hok : TsOk (dcs l) ts := by
        obtain ⟨st, g, ca, h1⟩ := h.at_
        have hs := h1.stk.pop
        rw [hp] at hs
        generalize (st.reverse.dropWhile fun p => decide (p.nl ≤ p.i)) = z at hs
        cases hs with
        | cons hx ht => exact hx.ok
      rcases (TsOk.get hok hil (.node [] [] [])).one with ⟨W, hd, hf, hn⟩ | ⟨W, B, O, hd, h2, ha, hw, hB, hO⟩
      · rw [step_node hb hp hd, if_neg hn]
        exact (plain_run h p h16 hb hN hp hd hf hn).mono (fun e w' hh => ⟨hh.1, hh.2.up (by omega)⟩)
      · rw [step_node hb hp hd, if_pos hw]
        by_cases hx : Tm.value (dcs l) m (Lk.wd W 1) = 0
        · rw [if_pos hx, if_pos (.inr hx)]
          rcases hw with hw | hw
          · exact rstep_if0 h p h16 hb hN hp hd h2 hw ha hO hx
          · exact rstep_wh0 h p h16 hb hN hp hd h2 hw ha hO hx
        · rw [if_neg hx]
          rcases hw with hw | hw
          · rw [if_pos (.inl hw)]
            exact rstep_if1 h p h16 hb hN hp hd h2 hw ha hB hx
          · rw [if_neg (fun c => by
              rcases c with c | c
              · rw [hw] at c; revert c; decide
              · exact hx c)]
            exact (rstep_wh1 h p h16 hb hN hp hd h2 hw ha hB hx).mono (fun e w' hh => ⟨hh.1, hh.2.up (by omega)⟩)
end
end Go.Proofs.YtgddmpmcnjlcjaaGreatDoor
namespace Go.Proofs.YtgddmpmcnjlcjaaGreatDoor
open Go.RowKit
open Tm (TsOk DsOk Wd16)
set_option linter.unusedVariables false
def inN (ds : List Rf.Dc) (i : Nat) : Nat := ((ds.take i).filter Tm.isIn).length
theorem inN_zero (ds : List Rf.Dc) : inN ds 0 = 0 := by simp [inN]
theorem inN_succ {ds : List Rf.Dc} {i : Nat} (h : i < ds.length) : inN ds (i + 1) = inN ds i + (if Tm.isIn ds[i] = true then 1 else 0) := by
  unfold inN
  rw [List.take_succ_eq_append_getElem h, List.filter_append, List.length_append]
  congr 1
  by_cases c : Tm.isIn ds[i] = true
  · rw [if_pos c]; simp [c]
  · rw [if_neg c]; simp [c]
theorem inN_le (ds : List Rf.Dc) (i : Nat) : inN ds i ≤ (ds.filter Tm.isIn).length := by
  unfold inN
  exact ((List.take_sublist i ds).filter _).length_le
theorem ini_at : ∀ (ds : List Rf.Dc) (k : Nat) (ins : List Nat) (i : Nat) (h : i < ds.length), Tm.ini ds k ins (k + i) = if Tm.isIn ds[i] = true then ins.getD (inN ds i) 0 else 0
  | [], _, _, _, h => by simp at h
  | d :: ds, k, ins, 0, h => by
    unfold Tm.ini
    rw [inN_zero]
    by_cases c : Tm.isIn d = true
    · rw [if_pos c, if_pos (by omega), if_pos (by exact c)]
      cases ins <;> rfl
    · rw [if_neg c, if_pos (by omega), if_neg (by exact c)]
  | d :: ds, k, ins, i + 1, h => by
    have hi : i < ds.length := by simpa using h
    have e1 : inN (d :: ds) (i + 1) = (if Tm.isIn d = true then 1 else 0) + inN ds i := by
      unfold inN
      rw [List.take_succ_cons, List.filter_cons]
      by_cases c : Tm.isIn d = true
      · rw [if_pos c, if_pos c, List.length_cons]; omega
      · rw [if_neg c, if_neg c]; omega
    rw [e1]
    unfold Tm.ini
    by_cases c : Tm.isIn d = true
    · rw [if_pos c, if_neg (by omega), if_pos c, show k + (i + 1) = k + 1 + i by omega, ini_at ds (k + 1) ins.tail i hi]
      show _ = if Tm.isIn ds[i] = true then ins.getD (1 + inN ds i) 0 else 0
      by_cases c2 : Tm.isIn ds[i] = true
      · rw [if_pos c2, if_pos c2]
        cases ins with
        | nil => simp
        | cons x l => rw [show 1 + inN ds i = inN ds i + 1 by omega]; rfl
      · rw [if_neg c2, if_neg c2]
    · rw [if_neg c, if_neg (by omega), if_neg c, show k + (i + 1) = k + 1 + i by omega, ini_at ds (k + 1) ins i hi]
      show _ = if Tm.isIn ds[i] = true then ins.getD (0 + inN ds i) 0 else 0
      rw [Nat.zero_add]
def cellsOf (l : List DB) (ga : Nat → Nat) (i : Nat) : List Value := (List.range i).map fun x => .slice (some ⟨ga x, 0, none⟩) (szs l x) (szs l x)
theorem cellsOf_succ (l : List DB) (ga : Nat → Nat) (i g : Nat) : cellsOf l (Lk.upd ga i g) (i + 1) = cellsOf l ga i ++ [.slice (some ⟨g, 0, none⟩) (szs l i) (szs l i)] := by
  unfold cellsOf
  rw [List.range_succ, List.map_append]
  congr 1
  · refine List.map_congr_left (fun x hx => ?_)
    have hx : x < i := List.mem_range.1 hx
    unfold Lk.upd
    rw [if_neg (by omega)]
  · simp [Lk.upd]
theorem cellsOf_len (l : List DB) (ga : Nat → Nat) (i : Nat) : (cellsOf l ga i).length = i := by simp [cellsOf]
def valN (ds : List Rf.Dc) (ins : List Nat) (i x : Nat) : Nat := if x < i then Tm.ini ds 0 ins x else 0
structure Ini (w0 : World) (P : Nat) (l : List DB) (ins : List Nat) (R gv : Nat) (i iv : Nat) (vc : Value) (ga : Nat → Nat) (w : World) : Prop where
  bel : Below w0.heap.size w0 w
  row : w.rowIs R 127 5 (tcell P gv l.length vc (.slice none 0 0) false)
  vals : w.rowIs gv 3 l.length (fun x => .int .i64 (valN (dcs l) ins iv x))
  own : w.ownsRow w0.heap.size 24 1 vc i (cellsOf l ga i)
  arr : ∀ x, x < i → w.rowIs (ga x) 3 (szs l x) (fun _ => .int .i64 0)
  v0 : i = 0 → vc = .slice none 0 0
  r : w0.heap.size ≤ R
  v : w0.heap.size ≤ gv
  rv : R ≠ gv
  cr : vc.ownBlock ≠ some R
  cv : vc.ownBlock ≠ some gv
  a : ∀ x, x < i → w0.heap.size ≤ ga x ∧ ga x ≠ R ∧ ga x ≠ gv ∧ vc.ownBlock ≠ some (ga x)
  aa : ∀ x y, x < i → y < i → ga x = ga y → x = y
section
variable {w0 : World} {P : Nat} {l : List DB} {ins : List Nat} {R gv i iv : Nat} {vc : Value} {ga : Nat → Nat} {w w' : World}
theorem Ini.drew (h : Ini w0 P l ins R gv i iv vc ga w) (k : Nat) : Ini w0 P l ins R gv i iv vc ga (w.drewN k) :=
  ⟨below_drewN h.bel k, h.row.of_block rfl, h.vals.of_block rfl, ownsRow_blk h.own (fun _ _ => rfl), fun x hx => (h.arr x hx).of_block rfl, h.v0, h.r, h.v, h.rv, h.cr, h.cv, h.a, h.aa⟩
theorem tcell_cells (P gv n : Nat) (vc va : Value) (b : Bool) (u : Value) (i : Nat) (hi : i < 5) : (if i = 2 then u else tcell P gv n vc va b i) = tcell P gv n u va b i := by
  match i, hi with
  | 0, _ => rfl
  | 1, _ => rfl
  | 2, _ => rfl
  | 3, _ => rfl
  | 4, _ => rfl
  | n + 5, h => omega
theorem Ini.push (h : Ini w0 P l ins R gv i iv vc ga w) {o : Obj} {g2 cap2 : Nat}
    (hown : w'.ownsRow w0.heap.size 24 1 (.slice (some ⟨g2, 0, none⟩) (i + 1) cap2) (i + 1) (cellsOf l ga i ++ [.slice (some ⟨w.heap.size, 0, none⟩) (szs l i) (szs l i)]))
    (hg : ((w.alloc (.cells (madeCells #[.int .i64 0] (szs l i)) 3)).alloc o).grownBy w' vc.ownBlock) (hat : vc.ownBlock = some g2 ∨ g2 = w.heap.size + 2) :
    Ini w0 P l ins R gv (i + 1) iv (.slice (some ⟨g2, 0, none⟩) (i + 1) cap2) (Lk.upd ga i w.heap.size) (w'.setCell ⟨R, 2, none⟩ (.slice (some ⟨g2, 0, none⟩) (i + 1) cap2)) := by
  have hz := h.bel.size
  have z1 : (w.alloc (.cells (madeCells #[.int .i64 0] (szs l i)) 3)).heap.size = w.heap.size + 1 := by simp
  have hR := h.row.lt
  have hV := h.vals.lt
  have hne : ∀ b, b < w.heap.size → vc.ownBlock ≠ some b → g2 ≠ b := by
    intro b hb hv e
    rcases hat with c | c
    · exact hv (by rw [c, e])
    · omega
  have hnew : vc.ownBlock ≠ some w.heap.size := fun e => by have := (h.own.lt _ e).2; omega
  have hg2 : g2 ≠ w.heap.size := by
    intro e
    rcases hat with c | c
    · exact hnew (by rw [c, e])
    · omega
  have hother : ∀ x, x ≠ i → Lk.upd ga i w.heap.size x = ga x := fun x hx => by unfold Lk.upd; rw [if_neg hx]
  have hself : Lk.upd ga i w.heap.size i = w.heap.size := by unfold Lk.upd; rw [if_pos rfl]
  refine ⟨h.bel.trans (((((Below.refl w0.heap.size w).alloc hz _).alloc (by rw [z1]; omega) o).grown hg (by simp; omega) (fun k hk => (h.own.lt k hk).1)).setCell (p := ⟨R, 2, none⟩) h.r _), ?_, ?_, ?_, ?_, fun e => absurd e (by omega), h.r, h.v, h.rv, ?_, ?_, ?_, ?_⟩
  · exact ((rowIs_grown ((h.row.alloc _).alloc _) hg h.cr).set 2 _).congr (fun j hj => tcell_cells _ _ _ _ _ _ _ j hj)
  · exact (rowIs_grown ((h.vals.alloc _).alloc _) hg h.cv).setOther h.rv.symm _
  · rw [cellsOf_succ]
    exact ownsRow_setCell hown (by simp [Value.ownBlock]; exact hne R hR h.cr) _
  · intro x hx
    by_cases e : x = i
    · subst e
      rw [hself]
      exact (rowIs_grown ((World.rowIs_made w (.int .i64 0) (szs l x) 3).alloc _) hg hnew).setOther (by show w.heap.size ≠ R; omega) _
    · rw [hother x e]
      have hxi : x < i := by omega
      exact (rowIs_grown (((h.arr x hxi).alloc _).alloc _) hg (h.a x hxi).2.2.2).setOther (h.a x hxi).2.1 _
  · simp [Value.ownBlock]; exact hne R hR h.cr
  · simp [Value.ownBlock]; exact hne gv hV h.cv
  · intro x hx
    by_cases e : x = i
    · subst e
      rw [hself]
      exact ⟨hz, by omega, by omega, by simp [Value.ownBlock]; exact hg2⟩
    · rw [hother x e]
      have hxi : x < i := by omega
      obtain ⟨q1, q2, q3, q4⟩ := h.a x hxi
      exact ⟨q1, q2, q3, by simp [Value.ownBlock]; exact hne _ (h.arr x hxi).lt q4⟩
  · intro x y hx hy e
    by_cases ex : x = i
    · by_cases ey : y = i
      · rw [ex, ey]
      · rw [ex, hself, hother y ey] at e
        have := (h.arr y (by omega)).lt
        omega
    · by_cases ey : y = i
      · rw [ey, hself, hother x ex] at e
        have := (h.arr x (by omega)).lt
        omega
      · rw [hother x ex, hother y ey] at e
        exact h.aa x y (by omega) (by omega) e
theorem Ini.push' (h : Ini w0 P l ins R gv i iv vc ga w) {z : Nat} (hz : szs l i = z) {o : Obj} {g2 cap2 : Nat}
    (hown : w'.ownsRow w0.heap.size 24 1 (.slice (some ⟨g2, 0, none⟩) (i + 1) cap2) (i + 1) (cellsOf l ga i ++ [.slice (some ⟨w.heap.size, 0, none⟩) z z]))
    (hg : ((w.alloc (.cells (madeCells #[.int .i64 0] z) 3)).alloc o).grownBy w' vc.ownBlock) (hat : vc.ownBlock = some g2 ∨ g2 = w.heap.size + 2) :
    Ini w0 P l ins R gv (i + 1) iv (.slice (some ⟨g2, 0, none⟩) (i + 1) cap2) (Lk.upd ga i w.heap.size) (w'.setCell ⟨R, 2, none⟩ (.slice (some ⟨g2, 0, none⟩) (i + 1) cap2)) := by
  subst hz
  exact h.push hown hg hat
theorem Ini.put (h : Ini w0 P l ins R gv i iv vc ga w) (u : Nat) (hu : Tm.ini (dcs l) 0 ins iv = u) : Ini w0 P l ins R gv i (iv + 1) vc ga (w.setCell ⟨gv, iv, none⟩ (.int .i64 u)) := by
  refine ⟨h.bel.setCell h.v _, h.row.setOther h.rv _, (h.vals.set iv _).congr (fun x hx => ?_), ownsRow_setCell h.own h.cv _, fun x hx => (h.arr x hx).setOther (h.a x hx).2.2.1 _, h.v0, h.r, h.v, h.rv, h.cr, h.cv, h.a, h.aa⟩
  unfold valN
  by_cases e : x = iv
  · rw [if_pos e, if_pos (by omega), e, hu]
  · rw [if_neg e]
    by_cases c : x < iv
    · rw [if_pos c, if_pos (by omega)]
    · rw [if_neg c, if_neg (by omega)]
theorem Ini.skip (h : Ini w0 P l ins R gv i iv vc ga w) (hu : Tm.ini (dcs l) 0 ins iv = 0) : Ini w0 P l ins R gv i (iv + 1) vc ga w := by
  refine ⟨h.bel, h.row, h.vals.congr (fun x hx => ?_), h.own, h.arr, h.v0, h.r, h.v, h.rv, h.cr, h.cv, h.a, h.aa⟩
  unfold valN
  by_cases e : x = iv
  · rw [if_neg (by omega), if_pos (by omega), e, hu]
  · by_cases c : x < iv
    · rw [if_pos c, if_pos (by omega)]
    · rw [if_neg c, if_neg (by omega)]
theorem start_run {A : Nat → Prop} (h : Ini w0 P l ins R gv l.length l.length vc ga w) {al : Option Addr} {nl cl : Nat} {ts : List Rf.Tr} (hs : Sub w0 A (.slice al nl cl) ts) (ht : TsOk (dcs l) ts) :
    Calls Tryz.prog 52 #[.pointer (some ⟨R, 0, none⟩), .slice al nl cl] w fun e w' => e = .returned (.tuple #[]) ∧ ∃ gc cc, RunAt w0 w' (fun _ => False) A P l R gv gc cc ga 1 (Tm.start (dcs l) ts ins) w' := by
  have key := enter_any R w0.heap.size _ (.slice none 0 0) [] al nl cl w h.row rfl (World.ownsRow_nil _ _ _ _) (by simp [Value.ownBlock]) (by simp) h.bel.size
  refine key.mono ?_
  intro e w' hh
  obtain ⟨h2, va', hrow, hown, hne, hfr, hnew⟩ := hh
  refine ⟨h2, ?_⟩
  rcases hown.2 with ⟨_, c⟩ | ⟨g2, cap2, cur, hv, _⟩
  · simp at c
  subst hv
  have hg2 : w.heap.size ≤ g2 := by
    rcases hnew g2 rfl with c | c
    · simp [Value.ownBlock] at c
    · exact c
  have hkp : ∀ b, b < w.heap.size → b ≠ R → w'.heap[b]? = w.heap[b]? := fun b hb hr => hfr.keep b hb (fun e => by
    rcases e with e | e
    · exact hr e
    · simp [Value.ownBlock] at e)
  have hsz := h.bel.size
  have hRl := h.row.lt
  have hVl := h.vals.lt
  have hbel : Below w0.heap.size w w' := (hfr.lift (base := w0.heap.size) (fun k _ e => by
    rcases e with e | e
    · rw [e]; exact h.r
    · simp [Value.ownBlock] at e) hsz).bel
  obtain ⟨gc, cc, hvc, hgc, hcel⟩ : ∃ gc cc, vc = vcOf l.length gc cc ∧ (gc ≠ R ∧ gc ≠ gv ∧ (∀ x, x < l.length → ga x ≠ gc) ∧ (0 < l.length → gc < w.heap.size)) ∧ ∀ x, x < l.length → w.cell? ⟨gc, x, none⟩ = some (.slice (some ⟨ga x, 0, none⟩) (szs l x) (szs l x)) := by
    by_cases h0 : l.length = 0
    · refine ⟨R + gv + 1, 0, ?_, ⟨by omega, by omega, fun x hx => absurd hx (by omega), fun c => absurd c (by omega)⟩, fun x hx => absurd hx (by omega)⟩
      unfold vcOf
      rw [if_pos h0]
      exact h.v0 h0
    · rcases h.own.2 with ⟨_, c⟩ | ⟨gc, cc, cur, hv, _⟩
      · omega
      · subst hv
        refine ⟨gc, cc, ?_, ⟨fun e => h.cr (by rw [← e]; rfl), fun e => h.cv (by rw [← e]; rfl), fun x hx e => (h.a x hx).2.2.2 (by rw [e]; rfl), fun _ => (h.own.lt gc rfl).2⟩, fun x hx => ?_⟩
        · unfold vcOf
          rw [if_neg h0]
        · rw [h.own.cellAt x (by omega)]
          unfold cellsOf
          simp [hx]
  obtain ⟨q1, q2, q3, q4⟩ := hgc
  refine ⟨gc, cc, h.bel.trans hbel, fun k hk => hk.elim, ⟨fun k hk => hk.elim, fun k i hk => hk.elim, fun k hk => hk.elim, h.r, h.v, fun i hi => (h.a i hi).1, h.rv, q1.symm, q2.symm, fun i hi => (h.a i hi).2.1, fun i hi => (h.a i hi).2.2.1, q3, h.aa⟩,
    ⟨[⟨al, nl, cl, 0⟩], g2, cap2, ?_, ?_, fun hF => hF, by omega, by omega, fun h0 => by have := q4 h0; omega, fun i hi => by have := (h.arr i hi).lt; omega, ?_, Nat.le_refl _⟩, ?_, fun i hi => ?_, fun i hi => ?_⟩
  · rw [← hvc]
    exact hrow.congr (fun i hi => tcell_at _ _ _ _ _ _ _ i hi)
  · exact hown
  · exact .cons ⟨rfl, Nat.zero_le _, hs, ht⟩ .nil
  · refine (h.vals.of_block (hkp _ hVl h.rv.symm)).congr (fun x hx => ?_)
    unfold valN
    rw [if_pos hx]
    rfl
  · exact (World.cell?_of_block (hkp gc (q4 (by omega)) q1)).trans (hcel i hi)
  · exact (h.arr i hi).of_block (hkp _ (h.arr i hi).lt (h.a i hi).2.1)
end
end Go.Proofs.YtgddmpmcnjlcjaaGreatDoor
