import Derived.Test.YtgddmpmcnjlcjabGreatDoorB31
import Derived.Test.YtgddmpmcnjlcjabGreatDoorB16
import Derived.Test.YtgddmpmcnjlcjabGreatDoorB40
import Derived.Deep.QuietTactic
import Derived.BigQuiet
import Derived.Test.YtgddmpmcnjlcjabGreatDoorB15
import Derived.Test.YtgddmpmcnjlcjabGreatDoorB01
namespace Go.Proofs.YtgddmpmcnjlcjabGreatDoor.Tm
open Lk (Wd wd num?)
set_option linter.unusedVariables false
def words : Rf.Tr → List Wd
  | .node w _ _ => w
def body : Rf.Tr → List Rf.Tr
  | .node _ b _ => b
def other : Rf.Tr → List Rf.Tr
  | .node _ _ o => o
structure M where
  vals : Nat → Nat := fun _ => 0
  cel : Nat → Nat → Nat := fun _ _ => 0
  at_ : List (List Rf.Tr × Nat) := []
  bad : Bool := false
def idx (ds : List Rf.Dc) (w : Wd) : Nat := (Rf.oneOf w (ds.map Rf.Dc.name)).getD 0
def value (ds : List Rf.Dc) (m : M) (w : Wd) : Nat :=
  match num? w with
  | some n => n
  | none => m.vals (idx ds w)
def pop : List (List Rf.Tr × Nat) → List (List Rf.Tr × Nat)
  | [] => []
  | (l, i) :: r => if i < l.length then (l, i) :: r else pop r
def size (ds : List Rf.Dc) (a : Nat) : Nat := (ds.map Rf.Dc.size).getD a 0
def plain (ds : List Rf.Dc) (w : List Wd) (m : M) : Nat × M :=
  if wd w 0 = Rf.wOut then (48 + value ds m (wd w 1), m)
  else if wd w 0 = Rf.wLoad then
    (if value ds m (wd w 3) < size ds (idx ds (wd w 2)) then (32 + value ds m (wd w 3), { m with vals := Lk.upd m.vals (idx ds (wd w 1)) (m.cel (idx ds (wd w 2)) (value ds m (wd w 3))) })
     else (32 + value ds m (wd w 3), { m with bad := true }))
  else if wd w 0 = Rf.wStore then
    (if value ds m (wd w 2) < size ds (idx ds (wd w 1)) then (32 + value ds m (wd w 2), { m with cel := Lk.upd m.cel (idx ds (wd w 1)) (Lk.upd (m.cel (idx ds (wd w 1))) (value ds m (wd w 2)) (value ds m (wd w 3))) })
     else (32 + value ds m (wd w 2), { m with bad := true }))
  else
    (0, { m with vals := Lk.upd m.vals (idx ds (wd w 0)) (if w.length = 5 then Mc.apply ((Lk.oper? (wd w 3)).getD 0) (value ds m (wd w 2)) (value ds m (wd w 4)) else value ds m (wd w 2)) })
def step (ds : List Rf.Dc) (m : M) : Nat × M :=
  if m.bad = true then (80, m)
  else
    match pop m.at_ with
    | [] => (64, { m with at_ := [] })
    | (l, i) :: r =>
      let s := l.getD i (.node [] [] [])
      let w := words s
      if wd w 0 = Rf.wIf ∨ wd w 0 = Rf.wWhile then
        let v := value ds m (wd w 1)
        let r' := if wd w 0 = Rf.wIf ∨ v = 0 then (l, i + 1) :: r else (l, i) :: r
        if v = 0 then (16, { m with at_ := (other s, 0) :: r' }) else (17, { m with at_ := (body s, 0) :: r' })
      else plain ds w { m with at_ := (l, i + 1) :: r }
def st (ds : List Rf.Dc) (m : M) : Nat → M
  | 0 => m
  | n + 1 => (step ds (st ds m n)).2
def num (ds : List Rf.Dc) (m : M) (n : Nat) : Nat := (step ds (st ds m n)).1
def isIn (d : Rf.Dc) : Bool := d.kind == Rf.wSecret || d.kind == Rf.wPublic
def ini : List Rf.Dc → Nat → List Nat → Nat → Nat
  | [], _, _, _ => 0
  | d :: ds, k, ins, j => if isIn d = true then (if j = k then ins.headD 0 else ini ds (k + 1) ins.tail j) else (if j = k then 0 else ini ds (k + 1) ins j)
def start (ds : List Rf.Dc) (b : List Rf.Tr) (ins : List Nat) : M := { vals := ini ds 0 ins, at_ := [(b, 0)] }
inductive Lay (C : Lk.St → List Wd → Prop) (B : List Lk.St) : Nat → List Rf.Tr → Nat → Prop
  | nil (p : Nat) : Lay C B p [] p
  | plain {p q : Nat} {w : List Wd} {ts : List Rf.Tr} (hc : C (Lk.bodyAt B p) w) (hk : (Lk.bodyAt B p).kind < 4) (hp : p < B.length) (hn : (Lk.bodyAt B p).next = p + 1) (hw : ¬ (wd w 0 = Rf.wIf ∨ wd w 0 = Rf.wWhile)) (h : Lay C B (p + 1) ts q) : Lay C B p (.node w [] [] :: ts) q
  | ifOne {p q1 q : Nat} {w : List Wd} {b ts : List Rf.Tr} (hc : C (Lk.bodyAt B p) w) (hk : (Lk.bodyAt B p).kind = 4) (hp : p < B.length) (hw : wd w 0 = Rf.wIf) (hn : (Lk.bodyAt B p).next = p + 1) (hb : Lay C B (p + 1) b q1) (hq : q1 < B.length) (hm : (Lk.bodyAt B q1).kind = 6) (hmn : (Lk.bodyAt B q1).next = q1 + 1) (he : (Lk.bodyAt B p).els = q1 + 1) (h : Lay C B (q1 + 1) ts q) : Lay C B p (.node w b [] :: ts) q
  | ifTwo {p q1 q2 q : Nat} {w : List Wd} {b o ts : List Rf.Tr} (hc : C (Lk.bodyAt B p) w) (hk : (Lk.bodyAt B p).kind = 4) (hp : p < B.length) (hw : wd w 0 = Rf.wIf) (hn : (Lk.bodyAt B p).next = p + 1) (hb : Lay C B (p + 1) b q1) (hq : q1 < B.length) (hm : (Lk.bodyAt B q1).kind = 6) (he : (Lk.bodyAt B p).els = q1 + 1) (ho : Lay C B (q1 + 1) o q2) (hq2 : q2 < B.length) (hm2 : (Lk.bodyAt B q2).kind = 6) (hmn : (Lk.bodyAt B q1).next = q2 + 1) (hmn2 : (Lk.bodyAt B q2).next = q2 + 1) (h : Lay C B (q2 + 1) ts q) : Lay C B p (.node w b o :: ts) q
  | loop {p q1 q : Nat} {w : List Wd} {b ts : List Rf.Tr} (hc : C (Lk.bodyAt B p) w) (hk : (Lk.bodyAt B p).kind = 5) (hp : p < B.length) (hw : wd w 0 = Rf.wWhile) (hn : (Lk.bodyAt B p).next = p + 1) (hb : Lay C B (p + 1) b q1) (hq : q1 < B.length) (hm : (Lk.bodyAt B q1).kind = 6) (hmn : (Lk.bodyAt B q1).next = p) (he : (Lk.bodyAt B p).els = q1 + 1) (h : Lay C B (q1 + 1) ts q) : Lay C B p (.node w b [] :: ts) q
def At (C : Lk.St → List Wd → Prop) (B : List Lk.St) : Nat → List (List Rf.Tr × Nat) → Nat → Prop
  | p, [], q => p = B.length ∧ q = B.length
  | p, (l, i) :: r, q => (l.length ≤ i ∧ At C B p r q) ∨ (r = [] ∧ Lay C B p (l.drop i) q ∧ q = B.length) ∨ (Lay C B p (l.drop i) q ∧ q < B.length ∧ (Lk.bodyAt B q).kind = 6 ∧ ∃ q', q < q' ∧ At C B (Lk.bodyAt B q).next r q')
variable {C : Lk.St → List Wd → Prop} {B : List Lk.St}
theorem Lay.le {p q : Nat} {ts : List Rf.Tr} (h : Lay C B p ts q) : p ≤ q := by
  induction h with
  | nil p => exact Nat.le_refl _
  | plain hc hk hp hn hw h ih => omega
  | ifOne hc hk hp hw hn hb hq hm hmn he h ihb ih => omega
  | ifTwo hc hk hp hw hn hb hq hm he ho hq2 hm2 hmn hmn2 h ihb iho ih => omega
  | loop hc hk hp hw hn hb hq hm hmn he h ihb ih => omega
theorem Lay.head {p q : Nat} {t : Rf.Tr} {ts : List Rf.Tr} (h : Lay C B p (t :: ts) q) : p < B.length ∧ (Lk.bodyAt B p).kind ≤ 5 := by
  cases h with
  | plain hc hk hp hn hw h => exact ⟨hp, by omega⟩
  | ifOne hc hk hp hw hn hb hq hm hmn he h => exact ⟨hp, by omega⟩
  | ifTwo hc hk hp hw hn hb hq hm he ho hq2 hm2 hmn hmn2 h => exact ⟨hp, by omega⟩
  | loop hc hk hp hw hn hb hq hm hmn he h => exact ⟨hp, by omega⟩
theorem Lay.empty {p q : Nat} (h : Lay C B p [] q) : q = p := by
  cases h; rfl
theorem At.here {p q : Nat} {l : List Rf.Tr} {i : Nat} {r : List (List Rf.Tr × Nat)} (h : At C B p ((l, i) :: r) q) (hi : i < l.length) : Lay C B p (l[i] :: l.drop (i + 1)) q ∧ (∀ p', Lay C B p' (l.drop (i + 1)) q → At C B p' ((l, i + 1) :: r) q) ∧ At C B p ((l, i) :: r) q := by
  refine ⟨?_, ?_, h⟩
  · rw [← List.drop_eq_getElem_cons hi]
    rcases h with ⟨h, _⟩ | ⟨_, h, _⟩ | ⟨h, _⟩
    · omega
    · exact h
    · exact h
  · intro p' hl
    rcases h with ⟨h, _⟩ | ⟨hr, _, hq⟩ | ⟨_, hq, hk, hx⟩
    · omega
    · exact .inr (.inl ⟨hr, hl, hq⟩)
    · exact .inr (.inr ⟨hl, hq, hk, hx⟩)
theorem At.plain {p q : Nat} {l : List Rf.Tr} {i : Nat} {r : List (List Rf.Tr × Nat)} (h : At C B p ((l, i) :: r) q) (hi : i < l.length) (hw : ¬ (wd (words l[i]) 0 = Rf.wIf ∨ wd (words l[i]) 0 = Rf.wWhile)) : C (Lk.bodyAt B p) (words l[i]) ∧ (Lk.bodyAt B p).kind < 4 ∧ At C B (Lk.bodyAt B p).next ((l, i + 1) :: r) q := by
  obtain ⟨h1, h2, _⟩ := h.here hi
  generalize l[i] = t at h1 hw
  cases h1 with
  | plain hc hk hp hn _ h => exact ⟨hc, hk, by rw [hn]; exact h2 _ h⟩
  | ifOne hc hk hp hw' hn hb hq hm hmn he h => exact absurd (.inl hw') hw
  | ifTwo hc hk hp hw' hn hb hq hm he ho hq2 hm2 hmn hmn2 h => exact absurd (.inl hw') hw
  | loop hc hk hp hw' hn hb hq hm hmn he h => exact absurd (.inr hw') hw
theorem wIf_ne : Rf.wIf ≠ Rf.wWhile := by decide
theorem At.loop {p q : Nat} {l : List Rf.Tr} {i : Nat} {r : List (List Rf.Tr × Nat)} (h : At C B p ((l, i) :: r) q) (hi : i < l.length) (hw : wd (words l[i]) 0 = Rf.wWhile) :
    C (Lk.bodyAt B p) (words l[i]) ∧ (Lk.bodyAt B p).kind = 5 ∧ (∃ q', At C B (Lk.bodyAt B p).next ((body l[i], 0) :: (l, i) :: r) q') ∧ ∃ q', At C B (Lk.bodyAt B p).els ((other l[i], 0) :: (l, i + 1) :: r) q' := by
  obtain ⟨h1, h2, h3⟩ := h.here hi
  generalize l[i] = t at h1 hw
  cases h1 with
  | plain hc hk hp hn hw' h => exact absurd (.inr hw) hw'
  | ifOne hc hk hp hw' hn hb hq hm hmn he h => exact absurd (hw'.symm.trans hw) wIf_ne
  | ifTwo hc hk hp hw' hn hb hq hm he ho hq2 hm2 hmn hmn2 h => exact absurd (hw'.symm.trans hw) wIf_ne
  | loop hc hk hp hw' hn hb hq hm hmn he h =>
    have hle := h.le
    exact ⟨hc, hk, ⟨_, by rw [hn]; exact .inr (.inr ⟨hb, hq, hm, q, by omega, by rw [hmn]; exact h3⟩)⟩, ⟨q, by rw [he]; exact .inl ⟨Nat.zero_le _, h2 _ h⟩⟩⟩
end Go.Proofs.YtgddmpmcnjlcjabGreatDoor.Tm
namespace Go.Proofs.YtgddmpmcnjlcjabGreatDoor
open Go.RowKit
set_option linter.unusedVariables false
theorem at_dc {l : List DB} {i : Nat} (h : i < l.length) : ∃ h' : i < (dcs l).length, (dcs l)[i] = (dbAt l i).dc := by
  have h' : i < (dcs l).length := by simpa [dcs] using h
  refine ⟨h', ?_⟩
  simp [dcs, dbAt, h]
theorem isIn_bytes {l : List DB} {i : Nat} (h : i < l.length) : ∀ h' : i < (dcs l).length, Tm.isIn (dcs l)[i] = ((dbAt l i).kind.toList == [115, 101, 99, 114, 101, 116] || (dbAt l i).kind.toList == [112, 117, 98, 108, 105, 99]) := by
  intro h'
  rw [(at_dc h).2]
  rfl
theorem kinds_at {w0 : World} {base P : Nat} {l : List DB} {vn vk vz vb : Value} (h : PRep w0 base P l vn vk vz vb) {i : Nat} (hi : i < l.length) : ∃ g c, vk = .slice (some ⟨g, 0, none⟩) l.length c ∧ w0.cell? ⟨g, i, none⟩ = some (.string (dbAt l i).kind) := by
  rcases h.kd.2 with ⟨_, c⟩ | ⟨g, c, cur, hv, _⟩
  · omega
  · refine ⟨g, c, hv, ?_⟩
    have hk := h.kd
    rw [hv] at hk
    rw [hk.cellAt i (by omega)]
    simp [hi, dbAt]
theorem rep_later {w w' : World} {base P : Nat} {l : List DB} {vn vk vz vb : Value} (h : PRep w base P l vn vk vz vb) (hb : Below w.heap.size w w') : PRep w' base P l vn vk vz vb :=
  ⟨h.row.of_block (hb.block P h.lt), h.ge, ownsRow_blk h.nm (fun k e => hb.block k (h.nm.lt k e).2), ownsRow_blk h.kd (fun k e => hb.block k (h.kd.lt k e).2), ownsRow_blk h.sz (fun k e => hb.block k (h.sz.lt k e).2), h.np, h.kp, h.zp, h.nk, h.nz, h.kz⟩
def secL (ds : List Rf.Dc) : List Bool := (ds.filter Tm.isIn).map fun d => d.kind == Rf.wSecret
theorem secL_take {ds : List Rf.Dc} {i : Nat} (h : i < ds.length) : secL (ds.take (i + 1)) = secL (ds.take i) ++ (if Tm.isIn ds[i] = true then [ds[i].kind == Rf.wSecret] else []) := by
  unfold secL
  rw [List.take_succ_eq_append_getElem h, List.filter_append, List.map_append]
  congr 1
  by_cases c : Tm.isIn ds[i] = true
  · rw [if_pos c]; simp [c]
  · rw [if_neg c]; simp [c]
theorem secL_len (ds : List Rf.Dc) : (secL ds).length = (ds.filter Tm.isIn).length := by simp [secL]
set_option maxRecDepth 100000 in
set_option maxHeartbeats 1000000 in
theorem secrets_run {w : World} {base P : Nat} {l : List DB} {vn vk vz vb : Value} (rep : PRep w base P l vn vk vz vb) (hl : l.length ≤ 1000) :
    Calls Tryz.prog 25 #[.pointer (some ⟨P, 0, none⟩)] w fun e w' => ∃ a c, e = .returned (.slice a (secL (dcs l)).length c) ∧ w'.ownsRow w.heap.size 4 1 (.slice a (secL (dcs l)).length c) (secL (dcs l)).length ((secL (dcs l)).map Value.bool) ∧ Below w.heap.size w w' := by
  obtain ⟨t0, ht0, hz0, hz1, hz2⟩ := info_parts Tryz.infoBool
  obtain ⟨ak, ck, ek⟩ := body_val rep.kd
  have p1 := rep.row.cell (i := 1) (by omega)
  rw [show pcell vn vk vz vb 1 = vk from rfl] at p1
  have REP := hid rep
  have hPl := rep.lt
  clear rep
  subst ek
  have P1 := hid p1
  have hlI : (l.length : Int) ≤ 1000 := by omega
  have hdl : (dcs l).length = l.length := by simp [dcs]
  go_enter Tryz.func25, Tryz.ntmps25
  go_wp2_with fail
  go_loopw [3, 4] (fun v c wr => ∃ i : Nat, i ≤ l.length ∧ c = .int .i64 i ∧ Below w.heap.size w wr ∧ wr.ownsRow w.heap.size 4 1 v (secL ((dcs l).take i)).length ((secL ((dcs l).take i)).map Value.bool)) (fun _ c _ => l.length - (intOf c).toNat)
  case atStart => exact ⟨0, Nat.zero_le _, rfl, Below.refl _ _, World.ownsRow_nil _ _ _ _⟩
  case round =>
    obtain ⟨i, hil, rfl, hbel, hown⟩ := hrel
    obtain ⟨ao, co, eo⟩ := body_val hown
    subst eo
    have HB := hid hbel
    have HO := hid hown
    have hz := hbel.size
    have q1 := (World.cell?_of_block (hbel.block P hPl)).trans P1.out
    by_cases hlt : i < l.length
    · obtain ⟨gk, ck', ek', hkc⟩ := kinds_at REP.out hlt
      cases ek'
      have hgk := World.block_lt_of_cell? w _ hkc
      have kc := (World.cell?_of_block (hbel.block gk hgk)).trans hkc
      have h' : i < (dcs l).length := by omega
      have hst := secL_take h'
      rw [isIn_bytes hlt h', (at_dc hlt).2] at hst
      have hkd : (dbAt l i).dc.kind = (dbAt l i).kind.toList := rfl
      rw [hkd] at hst
      have hsl : (secL ((dcs l).take i)).length ≤ 1000 := by
        rw [secL_len]
        have h1 := (List.filter_sublist (p := Tm.isIn) (l := (dcs l).take i)).length_le
        have h2 := (List.take_sublist i (dcs l)).length_le
        omega
      generalize hSi : secL ((dcs l).take i) = S at hst hsl HO ⊢
      generalize hSj : secL ((dcs l).take (i + 1)) = S' at hst
      have HSj := hid hSj
      have HST := hid hst
      generalize (dbAt l i).kind = kb at kc HST
      have hsI : (S.length : Int) ≤ 1000 := by omega
      clear hbel hown hkc hst hSi hSj hkd
      cases hs : (kb.toList == [115, 101, 99, 114, 101, 116]) with
      | true =>
        have HS1 := hid (show S' = S ++ [true] by rw [HST.out, hs]; simp; exact eq_of_beq hs)
        go_wp2_with (first | (at_builtin; refine wpList_append_lies _ rfl _ _ 46 rfl w.heap.size 4 t0 _ 1 1 Tryz.underlying46 ht0 hz0 hz1 hz2 rfl (by omega) _ S.length (S.map Value.bool) rfl (HO.out.alloc _) ⟨wr.heap.size, 0, none⟩ 1 1 [.bool true] rfl rfl (cell_one_new _ _ _) (by simp [Value.oneCell']) (by omega) (by unfold maxLen; omega) (by omega) (by simp; omega) (wr.heap.size + 1) (by simp) ?_; intro g2 cap2 w3 hown3 hgrow hat hltg))
        go_roundw
        case rel =>
          refine ⟨i + 1, by omega, by go_num, (HB.out.alloc hz _).grown hgrow (by simp; omega) (fun q hq => (HO.out.lt q hq).1), ?_⟩
          rw [HSj.out, HS1.out, List.length_append, List.map_append]
          exact hown3
        case measure => simp [intOf]; omega
      | false =>
      cases hp : (kb.toList == [112, 117, 98, 108, 105, 99]) with
      | true =>
        have HS1 := hid (show S' = S ++ [false] by rw [HST.out, hs, hp]; simp; exact ne_of_beq_false hs)
        go_wp2_with (first | (at_builtin; refine wpList_append_lies _ rfl _ _ 46 rfl w.heap.size 4 t0 _ 1 1 Tryz.underlying46 ht0 hz0 hz1 hz2 rfl (by omega) _ S.length (S.map Value.bool) rfl (HO.out.alloc _) ⟨wr.heap.size, 0, none⟩ 1 1 [.bool false] rfl rfl (cell_one_new _ _ _) (by simp [Value.oneCell']) (by omega) (by unfold maxLen; omega) (by omega) (by simp; omega) (wr.heap.size + 1) (by simp) ?_; intro g2 cap2 w3 hown3 hgrow hat hltg))
        go_roundw
        case rel =>
          refine ⟨i + 1, by omega, by go_num, (HB.out.alloc hz _).grown hgrow (by simp; omega) (fun q hq => (HO.out.lt q hq).1), ?_⟩
          rw [HSj.out, HS1.out, List.length_append, List.map_append]
          exact hown3
        case measure => simp [intOf]; omega
      | false =>
        have HS1 := hid (show S' = S by rw [HST.out, hs, hp]; simp)
        go_wp2_with fail
        go_roundw
        case rel =>
          refine ⟨i + 1, by omega, by go_num, HB.out, ?_⟩
          rw [HSj.out, HS1.out]
          exact HO.out
        case measure => simp [intOf]; omega
    · have hie : i = (dcs l).length := by omega
      have hE : (dcs l).take i = dcs l := by rw [hie, List.take_length]
      rw [hE] at HO ⊢
      clear hbel hown hie hE
      go_wp2_with fail
      go_ret
      exact ⟨_, _, rfl, HO.out, HB.out⟩
end Go.Proofs.YtgddmpmcnjlcjabGreatDoor
namespace Go.Proofs.YtgddmpmcnjlcjabGreatDoor.Tm
open Lk (Wd wd num? oper?)
set_option linter.unusedVariables false
def atomOf (fnd : Wd → Nat × Nat) (w : Wd) : Option Lk.At :=
  match num? w with
  | some n => some { val := n }
  | none => if (fnd w).1 = 1 then some { named := true, val := (fnd w).2 } else none
structure Cst (fnd : Wd → Nat × Nat) (s : Lk.St) (w : List Wd) : Prop where
  out : s.kind = 3 → wd w 0 = Rf.wOut ∧ atomOf fnd (wd w 1) = some s.a
  br : s.kind = 4 ∨ s.kind = 5 → atomOf fnd (wd w 1) = some s.a
  load : s.kind = 1 → wd w 0 = Rf.wLoad ∧ fnd (wd w 1) = (1, s.slot) ∧ fnd (wd w 2) = (2, s.arr) ∧ atomOf fnd (wd w 3) = some s.a
  store : s.kind = 2 → wd w 0 = Rf.wStore ∧ fnd (wd w 1) = (2, s.arr) ∧ atomOf fnd (wd w 2) = some s.a ∧ atomOf fnd (wd w 3) = some s.b
  asg : s.kind = 0 → wd w 0 ≠ Rf.wOut ∧ wd w 0 ≠ Rf.wLoad ∧ wd w 0 ≠ Rf.wStore ∧ fnd (wd w 0) = (1, s.slot) ∧ atomOf fnd (wd w 2) = some s.a ∧ ((w.length = 3 ∧ s.op = 0) ∨ (w.length = 5 ∧ oper? (wd w 3) = some s.op ∧ atomOf fnd (wd w 4) = some s.b))
structure Nm (ds : List Rf.Dc) (fnd : Wd → Nat × Nat) (cells : List Nat) : Prop where
  inj : ∀ w w', (fnd w).1 ≠ 0 → fnd w = fnd w' → w = w'
  idx : ∀ w w', (fnd w).1 ≠ 0 → (fnd w').1 ≠ 0 → Tm.idx ds w = Tm.idx ds w' → w = w'
  siz : ∀ w k, fnd w = (2, k) → Tm.size ds (Tm.idx ds w) = cells.getD k 0 ∧ cells.getD k 0 ≤ 4
structure Dt (ds : List Rf.Dc) (fnd : Wd → Nat × Nat) (m : Mc.M) (t : M) : Prop where
  val : ∀ w k, fnd w = (1, k) → m.slots k = t.vals (idx ds w)
  cel : ∀ w k j, fnd w = (2, k) → j < 4 → m.cel (k * 4 + j) = t.cel (idx ds w) j
  bad : m.trap = t.bad
variable {ds : List Rf.Dc} {fnd : Wd → Nat × Nat} {cells : List Nat} {m : Mc.M} {t : M}
theorem Dt.value (d : Dt ds fnd m t) {w : Wd} {x : Lk.At} (h : atomOf fnd w = some x) (n : Nat) (r : List (List Rf.Tr × Nat)) : Mc.value { m with at_ := n } x = Tm.value ds { t with at_ := r } w := by
  unfold atomOf at h
  unfold Tm.value
  cases hn : num? w with
  | some k =>
    rw [hn] at h
    cases h
    rfl
  | none =>
    rw [hn] at h
    simp only at h
    by_cases h1 : (fnd w).1 = 1
    · rw [if_pos h1] at h
      cases h
      exact d.val w _ (by rw [← h1])
    · rw [if_neg h1] at h; cases h
theorem Dt.at (d : Dt ds fnd m t) (n : Nat) (r : List (List Rf.Tr × Nat)) : Dt ds fnd { m with at_ := n } { t with at_ := r } := ⟨d.val, d.cel, d.bad⟩
theorem Dt.put (nm : Nm ds fnd cells) (d : Dt ds fnd m t) {w : Wd} {k : Nat} (h : fnd w = (1, k)) (v : Nat) : Dt ds fnd (Mc.put m k v) { t with vals := Lk.upd t.vals (idx ds w) v } := by
  refine ⟨?_, d.cel, d.bad⟩
  intro w' k' h'
  show Lk.upd m.slots k v k' = Lk.upd t.vals (idx ds w) v (idx ds w')
  unfold Lk.upd
  by_cases e : w' = w
  · subst e
    rw [h] at h'
    cases h'
    rw [if_pos rfl, if_pos rfl]
  · rw [if_neg (fun hk => e (nm.inj w' w (by rw [h']; simp) (by rw [h', h, hk]))), if_neg (fun hk => e (nm.idx w' w (by rw [h']; simp) (by rw [h]; simp) hk))]
    exact d.val w' k' h'
theorem Dt.store (nm : Nm ds fnd cells) (d : Dt ds fnd m t) {w : Wd} {k : Nat} (h : fnd w = (2, k)) (i v : Nat) (hi : i < 4) : Dt ds fnd { m with cel := Lk.upd m.cel (k * 4 + i) v } { t with cel := Lk.upd t.cel (idx ds w) (Lk.upd (t.cel (idx ds w)) i v) } := by
  refine ⟨d.val, ?_, d.bad⟩
  intro w' k' j h' hj
  show Lk.upd m.cel (k * 4 + i) v (k' * 4 + j) = Lk.upd t.cel (idx ds w) (Lk.upd (t.cel (idx ds w)) i v) (idx ds w') j
  unfold Lk.upd
  by_cases e : w' = w
  · subst e
    rw [h] at h'
    cases h'
    rw [if_pos rfl]
    by_cases ej : j = i
    · rw [if_pos (by omega), if_pos ej]
    · rw [if_neg (by omega), if_neg ej]
      exact d.cel w' k j h hj
  · rw [if_neg (fun hk => e (nm.inj w' w (by rw [h']; simp) (by rw [h', h, show k' = k by omega]))), if_neg (fun hk => e (nm.idx w' w (by rw [h']; simp) (by rw [h]; simp) hk))]
    exact d.cel w' k' j h' hj
theorem Dt.trap (d : Dt ds fnd m t) : Dt ds fnd { m with trap := true } { t with bad := true } := ⟨d.val, d.cel, rfl⟩
end Go.Proofs.YtgddmpmcnjlcjabGreatDoor.Tm
namespace Go.Proofs.YtgddmpmcnjlcjabGreatDoor.Tm
open Lk (Wd wd num? oper?)
set_option linter.unusedVariables false
variable {ds : List Rf.Dc} {fnd : Wd → Nat × Nat} {cells : List Nat} {m : Mc.M} {t : M} {B : List Lk.St}
structure Sm (B : List Lk.St) (ds : List Rf.Dc) (fnd : Wd → Nat × Nat) (m : Mc.M) (t : M) : Prop where
  dt : Dt ds fnd m t
  pl : ∃ p q, At (Cst fnd) B p t.at_ q ∧ m.at_ = Lk.settle B p
end Go.Proofs.YtgddmpmcnjlcjabGreatDoor.Tm
namespace Go.Proofs.YtgddmpmcnjlcjabGreatDoor.Tm
open Lk (Wd wd)
set_option linter.unusedVariables false
variable {C : Lk.St → List Wd → Prop} {B B' : List Lk.St}
theorem Lay.congr {p q : Nat} {ts : List Rf.Tr} (h : Lay C B p ts q) (hl : q ≤ B'.length) (hB : ∀ x, p ≤ x → x < q → Lk.bodyAt B' x = Lk.bodyAt B x) : Lay C B' p ts q := by
  induction h with
  | nil p => exact .nil p
  | plain hc hk hp hn hw h ih =>
    have h1 := h.le
    have e := hB _ (Nat.le_refl _) (by omega)
    exact .plain (by rw [e]; exact hc) (by rw [e]; exact hk) (by omega) (by rw [e]; exact hn) hw (ih hl (fun x a b => hB x (by omega) b))
  | ifOne hc hk hp hw hn hb hq hm hmn he h ihb ih =>
    have h1 := h.le
    have h2 := hb.le
    have e := hB _ (Nat.le_refl _) (by omega)
    have e1 := hB _ (show _ ≤ _ by exact Nat.le_of_succ_le h2) (by omega)
    exact .ifOne (by rw [e]; exact hc) (by rw [e]; exact hk) (by omega) hw (by rw [e]; exact hn) (ihb (by omega) (fun x a b => hB x (by omega) (by omega))) (by omega) (by rw [e1]; exact hm) (by rw [e1]; exact hmn) (by rw [e]; exact he) (ih hl (fun x a b => hB x (by omega) b))
  | ifTwo hc hk hp hw hn hb hq hm he ho hq2 hm2 hmn hmn2 h ihb iho ih =>
    have h1 := h.le
    have h2 := hb.le
    have h3 := ho.le
    have e := hB _ (Nat.le_refl _) (by omega)
    have e1 := hB _ (show _ ≤ _ by exact Nat.le_of_succ_le h2) (by omega)
    have e2 := hB _ (show _ ≤ _ by exact Nat.le_trans (Nat.le_of_succ_le h2) (Nat.le_of_succ_le h3)) (by omega)
    exact .ifTwo (by rw [e]; exact hc) (by rw [e]; exact hk) (by omega) hw (by rw [e]; exact hn) (ihb (by omega) (fun x a b => hB x (by omega) (by omega))) (by omega) (by rw [e1]; exact hm) (by rw [e]; exact he) (iho (by omega) (fun x a b => hB x (by omega) (by omega))) (by omega) (by rw [e2]; exact hm2) (by rw [e1]; exact hmn) (by rw [e2]; exact hmn2) (ih hl (fun x a b => hB x (by omega) b))
  | loop hc hk hp hw hn hb hq hm hmn he h ihb ih =>
    have h1 := h.le
    have h2 := hb.le
    have e := hB _ (Nat.le_refl _) (by omega)
    have e1 := hB _ (show _ ≤ _ by exact Nat.le_of_succ_le h2) (by omega)
    exact .loop (by rw [e]; exact hc) (by rw [e]; exact hk) (by omega) hw (by rw [e]; exact hn) (ihb (by omega) (fun x a b => hB x (by omega) (by omega))) (by omega) (by rw [e1]; exact hm) (by rw [e1]; exact hmn) (by rw [e]; exact he) (ih hl (fun x a b => hB x (by omega) b))
theorem Lay.append {p q q' : Nat} {ts us : List Rf.Tr} (h : Lay C B p ts q) (h' : Lay C B q us q') : Lay C B p (ts ++ us) q' := by
  induction h with
  | nil p => exact h'
  | plain hc hk hp hn hw h ih => exact .plain hc hk hp hn hw (ih h')
  | ifOne hc hk hp hw hn hb hq hm hmn he h ihb ih => exact .ifOne hc hk hp hw hn hb hq hm hmn he (ih h')
  | ifTwo hc hk hp hw hn hb hq hm he ho hq2 hm2 hmn hmn2 h ihb iho ih => exact .ifTwo hc hk hp hw hn hb hq hm he ho hq2 hm2 hmn hmn2 (ih h')
  | loop hc hk hp hw hn hb hq hm hmn he h ihb ih => exact .loop hc hk hp hw hn hb hq hm hmn he (ih h')
end Go.Proofs.YtgddmpmcnjlcjabGreatDoor.Tm
namespace Go.Proofs.YtgddmpmcnjlcjabGreatDoor.Tm
open Lk (Wd wd)
set_option linter.unusedVariables false
def fd : List Rf.Dc → Nat → Nat → Wd → Nat × Nat
  | [], _, _, _ => (0, 0)
  | d :: ds, s, a, w => if d.name = w then (if d.kind = Rf.wArray then (2, a) else (1, s)) else if d.kind = Rf.wArray then fd ds s (a + 1) w else fd ds (s + 1) a w
def sizes (ds : List Rf.Dc) : List Nat := (ds.filter fun d => d.kind = Rf.wArray).map Rf.Dc.size
end Go.Proofs.YtgddmpmcnjlcjabGreatDoor.Tm
namespace Go.Proofs.YtgddmpmcnjlcjabGreatDoor.Tm
open Lk (Wd wd RS isName lat)
set_option linter.unusedVariables false
def arrs (ds : List Rf.Dc) : Nat := (ds.filter fun d => d.kind = Rf.wArray).length
def scal (ds : List Rf.Dc) : Nat := (ds.filter fun d => ¬ d.kind = Rf.wArray).length
theorem fd_zero (ds : List Rf.Dc) (s a : Nat) (w : Wd) (h : (fd ds s a w).1 = 0) : fd ds s a w = (0, 0) := by
  induction ds generalizing s a with
  | nil => rfl
  | cons d ds ih =>
    unfold fd at h ⊢
    by_cases h1 : d.name = w
    · rw [if_pos h1] at h
      split at h
      · cases h
      · cases h
    · rw [if_neg h1] at h ⊢
      split
      · rename_i hk; rw [if_pos hk] at h; exact ih _ _ h
      · rename_i hk; rw [if_neg hk] at h; exact ih _ _ h
theorem fd_app (ds : List Rf.Dc) (d : Rf.Dc) (s a : Nat) (w : Wd) : fd (ds ++ [d]) s a w = if (fd ds s a w).1 ≠ 0 then fd ds s a w else if d.name = w then (if d.kind = Rf.wArray then (2, a + arrs ds) else (1, s + scal ds)) else (0, 0) := by
  induction ds generalizing s a with
  | nil =>
    show (if d.name = w then (if d.kind = Rf.wArray then (2, a) else (1, s)) else if d.kind = Rf.wArray then (0, 0) else (0, 0)) = _
    rw [if_neg (show ¬ (fd [] s a w).1 ≠ 0 from fun h => h rfl)]
    by_cases h1 : d.name = w
    · rw [if_pos h1, if_pos h1]; rfl
    · rw [if_neg h1, if_neg h1]; split <;> rfl
  | cons e ds ih =>
    show (if e.name = w then (if e.kind = Rf.wArray then (2, a) else (1, s)) else if e.kind = Rf.wArray then fd (ds ++ [d]) s (a + 1) w else fd (ds ++ [d]) (s + 1) a w) = _
    have e0 : fd (e :: ds) s a w = (if e.name = w then (if e.kind = Rf.wArray then (2, a) else (1, s)) else if e.kind = Rf.wArray then fd ds s (a + 1) w else fd ds (s + 1) a w) := rfl
    rw [e0]
    by_cases h1 : e.name = w
    · rw [if_pos h1, if_pos h1]
      by_cases hk : e.kind = Rf.wArray
      · rw [if_pos hk, if_pos (by simp)]
      · rw [if_neg hk, if_pos (by simp)]
    · rw [if_neg h1, if_neg h1]
      by_cases hk : e.kind = Rf.wArray
      · rw [if_pos hk, if_pos hk, ih]
        have ea : arrs (e :: ds) = arrs ds + 1 := by unfold arrs; rw [List.filter_cons, if_pos (by simpa using hk)]; rfl
        have es : scal (e :: ds) = scal ds := by unfold scal; rw [List.filter_cons, if_neg (by simpa using hk)]
        rw [ea, es, show a + 1 + arrs ds = a + (arrs ds + 1) by omega]
      · rw [if_neg hk, if_neg hk, ih]
        have ea : arrs (e :: ds) = arrs ds := by unfold arrs; rw [List.filter_cons, if_neg (by simpa using hk)]
        have es : scal (e :: ds) = scal ds + 1 := by unfold scal; rw [List.filter_cons, if_pos (by simpa using hk)]; rfl
        rw [ea, es, show s + 1 + scal ds = s + (scal ds + 1) by omega]
theorem lat_inj {w w' : Wd} (h : isName w = true) (h' : isName w' = true) (e : lat w = lat w') : w = w' := by
  unfold isName at h h'
  split at h
  · rename_i c
    split at h'
    · rename_i c'
      simp at h h'
      have e2 : c.toNat - 97 = c'.toNat - 97 := e
      have : c = c' := UInt8.toNat_inj.1 (by omega)
      rw [this]
    · cases h'
  · cases h
structure NR (r : RS) (ds : List Rf.Dc) : Prop where
  fnd : ∀ w, Lk.find r w = fd ds 0 0 w
  cel : r.cells = sizes ds
  sca : r.secret.length + r.vars = scal ds
  sec : r.secret = (ds.filter isIn).map fun d => d.kind == Rf.wSecret
  ss : ∀ d ∈ ds, d.size ≤ 4
theorem nr_nil : NR {} [] := ⟨fun w => (by unfold Lk.find; split <;> rfl), rfl, rfl, rfl, fun d h => (by cases h)⟩
theorem nr_find {r : RS} {ds : List Rf.Dc} (h : NR r ds) {w : Wd} (hw : isName w = true) (h0 : (r.letters (lat w)).1 = 0) (d : Rf.Dc) (hd : d.name = w) (v : Nat × Nat) (hv : v = if d.kind = Rf.wArray then (2, arrs ds) else (1, scal ds)) (r' : RS) (hl : r'.letters = Lk.upd r.letters (lat w) v) : ∀ x, Lk.find r' x = fd (ds ++ [d]) 0 0 x := by
  intro x
  rw [fd_app, ← h.fnd x, Nat.zero_add, Nat.zero_add, hd]
  unfold Lk.find
  by_cases hx : isName x = true
  · rw [if_pos hx, if_pos hx, hl]
    unfold Lk.upd
    by_cases e : w = x
    · subst e
      rw [if_pos rfl, if_neg (by omega), if_pos rfl, hv]
    · rw [if_neg (fun k => e (lat_inj hw hx k.symm))]
      by_cases hz : (r.letters (lat x)).1 = 0
      · rw [if_neg (by omega), if_neg e]
        have := h.fnd x
        unfold Lk.find at this
        rw [if_pos hx] at this
        rw [this]
        exact fd_zero _ _ _ _ (by rw [← this]; exact hz)
      · rw [if_pos hz]
  · rw [if_neg hx, if_neg hx, if_neg (by simp), if_neg (fun e => hx (by rw [← e]; exact hw))]
end Go.Proofs.YtgddmpmcnjlcjabGreatDoor.Tm
namespace Go.Proofs.YtgddmpmcnjlcjabGreatDoor.Tm
open Lk (Wd wd RS isName lat)
set_option linter.unusedVariables false
variable {r r' : RS} {ds : List Rf.Dc} {ws : List Wd}
theorem scal_app (ds : List Rf.Dc) (d : Rf.Dc) (h : ¬ d.kind = Rf.wArray) : scal (ds ++ [d]) = scal ds + 1 ∧ sizes (ds ++ [d]) = sizes ds := by
  unfold scal sizes
  rw [List.filter_append, List.filter_append, List.filter_cons, List.filter_cons, if_pos (by simpa using h), if_neg (by simpa using h)]
  simp
theorem arrs_app (ds : List Rf.Dc) (d : Rf.Dc) (h : d.kind = Rf.wArray) : scal (ds ++ [d]) = scal ds ∧ sizes (ds ++ [d]) = sizes ds ++ [d.size] := by
  unfold scal sizes
  rw [List.filter_append, List.filter_append, List.filter_cons, List.filter_cons, if_neg (by simpa using h), if_pos (by simpa using h)]
  simp
theorem arrs_len (ds : List Rf.Dc) : (sizes ds).length = arrs ds := by
  unfold sizes arrs
  rw [List.length_map]
theorem decl_out {w : Wd} {a b : Nat} (e : Lk.declare r w a b = some r') : isName w = true ∧ (r.letters (lat w)).1 = 0 ∧ r' = { r with letters := Lk.upd r.letters (lat w) (a, b) } := by
  unfold Lk.declare at e
  split at e
  · rename_i h; cases e; exact ⟨h.2.1, h.2.2, rfl⟩
  · cases e
theorem nr_input {b : Bool} (h : NR r ds) (e : Lk.takeInput r ws b = some r') : NR r' (ds ++ [⟨wd ws 1, if b = true then Rf.wSecret else Rf.wPublic, 0⟩]) := by
  unfold Lk.takeInput at e
  split at e
  · rename_i hc
    split at e
    · rename_i r2 hd
      cases e
      obtain ⟨h1, h2, rfl⟩ := decl_out hd
      have hk : ¬ (if b = true then Rf.wSecret else Rf.wPublic) = Rf.wArray := by cases b <;> decide
      have hin : isIn ⟨wd ws 1, if b = true then Rf.wSecret else Rf.wPublic, 0⟩ = true := by cases b <;> rfl
      obtain ⟨s1, s2⟩ := scal_app ds ⟨wd ws 1, if b = true then Rf.wSecret else Rf.wPublic, 0⟩ hk
      have hs := h.sca
      refine ⟨nr_find h h1 h2 _ rfl (1, r.secret.length) ?_ _ rfl, by rw [s2]; exact h.cel, ?_, ?_, ?_⟩
      · rw [if_neg hk, ← h.sca, hc.2.2]; rfl
      · rw [s1, ← h.sca]; simp; omega
      · rw [List.filter_append, List.filter_cons, if_pos hin, List.map_append, ← h.sec]
        cases b <;> rfl
      · intro d hdm
        rcases List.mem_append.1 hdm with hdm | hdm
        · exact h.ss d hdm
        · rw [List.mem_singleton.1 hdm]; exact Nat.zero_le _
    · cases e
  · cases e
theorem nr_var (h : NR r ds) (e : Lk.takeVar r ws = some r') : NR r' (ds ++ [⟨wd ws 1, Rf.wVar, 0⟩]) := by
  unfold Lk.takeVar at e
  split at e
  · rename_i hc
    split at e
    · rename_i r2 hd
      cases e
      obtain ⟨h1, h2, rfl⟩ := decl_out hd
      have hk : ¬ Rf.wVar = Rf.wArray := by decide
      have hin : isIn ⟨wd ws 1, Rf.wVar, 0⟩ = false := rfl
      obtain ⟨s1, s2⟩ := scal_app ds ⟨wd ws 1, Rf.wVar, 0⟩ hk
      refine ⟨nr_find h h1 h2 _ rfl (1, r.secret.length + r.vars) ?_ _ rfl, by rw [s2]; exact h.cel, ?_, ?_, ?_⟩
      · rw [if_neg hk, ← h.sca]
      · rw [s1, ← h.sca]; show r.secret.length + (r.vars + 1) = _; omega
      · rw [List.filter_append, List.filter_cons, if_neg (by rw [hin]; simp), List.map_append, ← h.sec]
        simp
      · intro d hdm
        rcases List.mem_append.1 hdm with hdm | hdm
        · exact h.ss d hdm
        · rw [List.mem_singleton.1 hdm]; exact Nat.zero_le _
    · cases e
  · cases e
theorem nr_array (h : NR r ds) (e : Lk.takeArray r ws = some r') : ∃ n, Lk.num? (wd ws 2) = some n ∧ NR r' (ds ++ [⟨wd ws 1, Rf.wArray, n⟩]) := by
  unfold Lk.takeArray at e
  split at e
  · rename_i hc
    split at e
    · rename_i n hn
      split at e
      · rename_i hle
        split at e
        · rename_i r2 hd
          cases e
          obtain ⟨h1, h2, rfl⟩ := decl_out hd
          obtain ⟨s1, s2⟩ := arrs_app ds ⟨wd ws 1, Rf.wArray, n⟩ rfl
          have hin : isIn ⟨wd ws 1, Rf.wArray, n⟩ = false := by
            show (Rf.wArray == Rf.wSecret || Rf.wArray == Rf.wPublic) = false
            decide
          refine ⟨n, hn, nr_find h h1 h2 _ rfl (2, r.cells.length) ?_ _ rfl, ?_, ?_, ?_, ?_⟩
          · rw [if_pos rfl, h.cel, arrs_len]
          · rw [s2, ← h.cel]
          · rw [s1, ← h.sca]
          · rw [List.filter_append, List.filter_cons, if_neg (by rw [hin]; simp), List.map_append, ← h.sec]
            simp
          · intro d hdm
            rcases List.mem_append.1 hdm with hdm | hdm
            · exact h.ss d hdm
            · rw [List.mem_singleton.1 hdm]; exact hle.2
        · cases e
      · cases e
    · cases e
  · cases e
structure Same (r r' : RS) : Prop where
  l : r'.letters = r.letters
  c : r'.cells = r.cells
  s : r'.secret = r.secret
  v : r'.vars = r.vars
theorem NR.same (h : NR r ds) (k : Same r r') : NR r' ds :=
  ⟨fun w => (by rw [← h.fnd w]; unfold Lk.find; rw [k.l]), by rw [k.c]; exact h.cel, by rw [k.s, k.v]; exact h.sca, by rw [k.s]; exact h.sec, h.ss⟩
end Go.Proofs.YtgddmpmcnjlcjabGreatDoor.Tm
namespace Go.Proofs.YtgddmpmcnjlcjabGreatDoor.Tm
open Lk (Wd wd RS isName lat)
set_option linter.unusedVariables false
variable {r r' : RS} {ws : List Wd}
theorem atom_eq (r : RS) : Lk.atom? r = atomOf (Lk.find r) := by
  funext w
  unfold Lk.atom? atomOf
  rfl
def Added (r r' : RS) (s : Lk.St) : Prop := r.stmts < 12 ∧ r' = { r with stmts := r.stmts + 1, body := r.body ++ [{ s with next := r.body.length + 1 }] }
theorem add_out {s : Lk.St} (e : Lk.add r s = some r') : Added r r' s := by
  unfold Lk.add at e
  split at e
  · rename_i h; cases e; exact ⟨h, rfl⟩
  · cases e
theorem Added.same {s : Lk.St} (h : Added r r' s) : Same r r' := by
  obtain ⟨_, rfl⟩ := h
  exact ⟨rfl, rfl, rfl, rfl⟩
theorem find_eq {w : Wd} {k : Nat} (h : (Lk.find r w).1 = k) : Lk.find r w = (k, (Lk.find r w).2) := by rw [← h]
theorem cst_out (e : Lk.takeOut r ws = some r') (h0 : wd ws 0 = Rf.wOut) : ∃ s, Added r r' s ∧ s.kind = 3 ∧ Cst (Lk.find r) s ws := by
  unfold Lk.takeOut at e
  split at e
  · split at e
    · rename_i x hx
      rw [atom_eq] at hx
      exact ⟨_, add_out e, rfl, ⟨fun _ => ⟨h0, hx⟩, fun h => (by rcases h with h | h <;> cases h), fun h => (by cases h), fun h => (by cases h), fun h => (by cases h)⟩⟩
    · cases e
  · cases e
theorem cst_load (e : Lk.takeLoad r ws = some r') (h0 : wd ws 0 = Rf.wLoad) : ∃ s, Added r r' s ∧ s.kind = 1 ∧ Cst (Lk.find r) s ws := by
  unfold Lk.takeLoad at e
  split at e
  · rename_i hc
    split at e
    · rename_i x hx
      rw [atom_eq] at hx
      exact ⟨_, add_out e, rfl, ⟨fun h => (by cases h), fun h => (by rcases h with h | h <;> cases h), fun _ => ⟨h0, find_eq hc.2.1, find_eq hc.2.2, hx⟩, fun h => (by cases h), fun h => (by cases h)⟩⟩
    · cases e
  · cases e
theorem cst_store (e : Lk.takeStore r ws = some r') (h0 : wd ws 0 = Rf.wStore) : ∃ s, Added r r' s ∧ s.kind = 2 ∧ Cst (Lk.find r) s ws := by
  unfold Lk.takeStore at e
  split at e
  · rename_i hc
    split at e
    · rename_i x y hx hy
      rw [atom_eq] at hx hy
      exact ⟨_, add_out e, rfl, ⟨fun h => (by cases h), fun h => (by rcases h with h | h <;> cases h), fun h => (by cases h), fun _ => ⟨h0, find_eq hc.2, hx, hy⟩, fun h => (by cases h)⟩⟩
    · cases e
  · cases e
theorem cst_assign (e : Lk.takeAssign r ws = some r') (h1 : wd ws 0 ≠ Rf.wOut) (h2 : wd ws 0 ≠ Rf.wLoad) (h3 : wd ws 0 ≠ Rf.wStore) : ∃ s, Added r r' s ∧ s.kind = 0 ∧ Cst (Lk.find r) s ws := by
  unfold Lk.takeAssign at e
  split at e
  · rename_i hc
    split at e
    · rename_i x hx
      rw [atom_eq] at hx
      split at e
      · rename_i hl
        exact ⟨_, add_out e, rfl, ⟨fun h => (by cases h), fun h => (by rcases h with h | h <;> cases h), fun h => (by cases h), fun h => (by cases h), fun _ => ⟨h1, h2, h3, find_eq hc.2.2, hx, .inl ⟨hl, rfl⟩⟩⟩⟩
      · rename_i hl
        split at e
        · rename_i o y ho hy
          rw [atom_eq] at hy
          exact ⟨_, add_out e, rfl, ⟨fun h => (by cases h), fun h => (by rcases h with h | h <;> cases h), fun h => (by cases h), fun h => (by cases h), fun _ => ⟨h1, h2, h3, find_eq hc.2.2, hx, .inr ⟨hc.1.resolve_left hl, ho, hy⟩⟩⟩⟩
        · cases e
    · cases e
  · cases e
theorem cst_branch {k : Nat} (hk : k = 4 ∨ k = 5) (e : Lk.takeBranch r ws k = some r') : ∃ s q, Added r q s ∧ r' = { q with opn := Lk.upd q.opn q.depth (r.body.length, 0), depth := q.depth + 1 } ∧ s.kind = k ∧ Cst (Lk.find r) s ws := by
  unfold Lk.takeBranch at e
  split at e
  · split at e
    · rename_i x hx
      rw [atom_eq] at hx
      split at e
      · rename_i q hq
        cases e
        refine ⟨_, q, add_out hq, rfl, rfl, ⟨fun h => ?_, fun _ => hx, fun h => ?_, fun h => ?_, fun h => ?_⟩⟩
        · have h' : k = 3 := h; omega
        · have h' : k = 1 := h; omega
        · have h' : k = 2 := h; omega
        · have h' : k = 0 := h; omega
      · cases e
    · cases e
  · cases e
end Go.Proofs.YtgddmpmcnjlcjabGreatDoor.Tm
namespace Go.Proofs.YtgddmpmcnjlcjabGreatDoor.Lk
set_option linter.unusedVariables false
def glue (c : UInt8) : List Wd → Wd
  | [] => []
  | [x] => x
  | x :: y :: r => x ++ c :: glue c (y :: r)
theorem glue_cut (c : UInt8) (l : Wd) : glue c (cut c l) = l := by
  induction l with
  | nil => rfl
  | cons x xs ih =>
    have hne := cut_ne c xs
    unfold cut
    split
    · rename_i hx
      cases hc : cut c xs with
      | nil => exact absurd hc hne
      | cons y ys =>
        rw [hc] at ih
        show [] ++ c :: glue c (y :: ys) = x :: xs
        rw [ih, hx]; rfl
    · cases hc : cut c xs with
      | nil => exact absurd hc hne
      | cons y ys =>
        rw [hc] at ih
        cases ys with
        | nil =>
          have ih' : y = xs := ih
          show x :: y = x :: xs
          rw [ih']
        | cons z zs =>
          have ih' : y ++ c :: glue c (z :: zs) = xs := ih
          show (x :: y) ++ c :: glue c (z :: zs) = x :: xs
          rw [List.cons_append, ih']
end Go.Proofs.YtgddmpmcnjlcjabGreatDoor.Lk
namespace Go.Proofs.YtgddmpmcnjlcjabGreatDoor.Tm
open Lk (Wd wd RS isName lat)
set_option linter.unusedVariables false
def goN (L : List Wd) : Nat → Nat → RS → Option RS
  | _, 0, r => some r
  | a, n + 1, r => match Lk.take r (Lk.cut 32 (L.getD a [])) with
    | some r1 => goN L (a + 1) n r1
    | none => none
theorem lines_go (L : List Wd) (n : Nat) (a k : Nat) (r : RS) (ha : a + n + 1 = L.length) (h : (Lk.lines r k (L.drop a)).2 = 0) : goN L a n r = some (Lk.lines r k (L.drop a)).1 ∧ (Lk.lines r k (L.drop a)).1.depth = 0 := by
  induction n generalizing a k r with
  | zero =>
    have e : L.drop a = [L[a]] := by rw [List.drop_eq_getElem_cons (by omega), List.drop_of_length_le (by omega)]
    rw [e] at h ⊢
    unfold Lk.lines at h ⊢
    split at h
    · rename_i hc; rw [if_pos hc]; exact ⟨rfl, hc.2⟩
    · simp at h
  | succ n ih =>
    have e : L.drop a = L[a] :: L[a + 1] :: L.drop (a + 2) := by rw [List.drop_eq_getElem_cons (by omega), List.drop_eq_getElem_cons (by omega)]
    have e2 : L.drop (a + 1) = L[a + 1] :: L.drop (a + 2) := List.drop_eq_getElem_cons (by omega)
    have eg : L.getD a [] = L[a] := by rw [List.getD_eq_getElem?_getD, List.getElem?_eq_getElem (by omega)]; rfl
    rw [e] at h ⊢
    cases ht : Lk.take r (Lk.cut 32 L[a]) with
    | none =>
      have : Lk.lines r k (L[a] :: L[a + 1] :: L.drop (a + 2)) = (r, k + 1) := by conv => lhs; unfold Lk.lines; rw [ht]
      rw [this] at h
      simp at h
    | some r1 =>
      have el : Lk.lines r k (L[a] :: L[a + 1] :: L.drop (a + 2)) = Lk.lines r1 (k + 1) (L.drop (a + 1)) := by conv => lhs; unfold Lk.lines; rw [ht, ← e2]
      rw [el] at h ⊢
      have := ih (a + 1) (k + 1) r1 (by omega) h
      refine ⟨?_, this.2⟩
      show (match Lk.take r (Lk.cut 32 (L.getD a [])) with | some r1 => goN L (a + 1) n r1 | none => none) = _
      rw [eg, ht]
      exact this.1
theorem go_step {L : List Wd} {a n : Nat} {r rf : RS} (h : goN L a (n + 1) r = some rf) : ∃ r1, Lk.take r (Lk.cut 32 (L.getD a [])) = some r1 ∧ goN L (a + 1) n r1 = some rf := by
  unfold goN at h
  cases ht : Lk.take r (Lk.cut 32 (L.getD a [])) with
  | none => rw [ht] at h; cases h
  | some r1 => rw [ht] at h; exact ⟨r1, rfl, h⟩
theorem one_word {l x : Wd} (h : (Lk.cut 32 l).length = 1) (hx : wd (Lk.cut 32 l) 0 = x) : l = x := by
  have hg := Lk.glue_cut 32 l
  cases hc : Lk.cut 32 l with
  | nil => rw [hc] at h; cases h
  | cons y ys =>
    cases ys with
    | cons z zs => rw [hc] at h; simp at h
    | nil =>
      rw [hc] at hg hx
      exact hg.symm.trans hx
end Go.Proofs.YtgddmpmcnjlcjabGreatDoor.Tm
