import Derived.Test.YtgddmpmcnjlcjaaGreatDoorB31
import Derived.Test.YtgddmpmcnjlcjaaGreatDoorB32
import Derived.Test.YtgddmpmcnjlcjaaGreatDoorB38
namespace Go.Proofs.YtgddmpmcnjlcjaaGreatDoor
open Go.RowKit
open Tm (TsOk DsOk Wd16)
set_option linter.unusedVariables false
def szs (l : List DB) (i : Nat) : Nat := (dbAt l i).size
def nms (l : List DB) : List ByteArray := l.map DB.name
theorem nms_len (l : List DB) : (nms l).length = l.length := by simp [nms]
theorem nms_list (l : List DB) : (nms l).map ByteArray.toList = (dcs l).map Rf.Dc.name := by
  unfold nms dcs
  rw [List.map_map, List.map_map]
  rfl
theorem szs_at (l : List DB) (i : Nat) : Tm.size (dcs l) i = szs l i := by
  unfold Tm.size dcs szs dbAt
  rw [List.map_map]
  induction l generalizing i with
  | nil => cases i <;> rfl
  | cons x l ih =>
    cases i with
    | zero => rfl
    | succ i => exact ih i
theorem dc_mem {l : List DB} {i : Nat} (h : i < l.length) : (dbAt l i).dc ∈ dcs l := by
  unfold dbAt dcs
  have e : l.getD i ⟨ByteArray.empty, ByteArray.empty, 0⟩ = l[i] := by simp [List.getD, h]
  rw [e]
  exact List.mem_map.2 ⟨l[i], List.getElem_mem h, rfl⟩
structure PS (w0 : World) (P : Nat) (l : List DB) : Prop where
  rep : ∃ base vn vk vz vb, PRep w0 base P l vn vk vz vb
  len : l.length ≤ 1000
  ok : DsOk (dcs l)
theorem slice_inj {a b : Option Addr} {n m c d : Nat} (h : Value.slice a n c = .slice b m d) : a = b ∧ n = m ∧ c = d := by
  cases h
  exact ⟨rfl, rfl, rfl⟩
structure PlOk (w0 : World) (A : Nat → Prop) (ds : List Rf.Dc) (N : Nat) (p : Pl) (x : List Rf.Tr × Nat) : Prop where
  i : p.i = x.2
  le : x.2 ≤ N
  sub : Sub w0 A (.slice p.al p.nl p.cl) x.1
  ok : TsOk ds x.1
inductive StAt (w0 : World) (A : Nat → Prop) (ds : List Rf.Dc) (N : Nat) : List Pl → List (List Rf.Tr × Nat) → Prop
  | nil : StAt w0 A ds N [] []
  | cons {p : Pl} {x : List Rf.Tr × Nat} {a : List Pl} {r : List (List Rf.Tr × Nat)} (h : PlOk w0 A ds N p x) (t : StAt w0 A ds N a r) : StAt w0 A ds N (p :: a) (x :: r)
section
variable {w0 : World} {A : Nat → Prop} {ds : List Rf.Dc} {N N' : Nat} {p : Pl} {x : List Rf.Tr × Nat} {a : List Pl} {r : List (List Rf.Tr × Nat)}
theorem PlOk.len (h : PlOk w0 A ds N p x) : p.nl = x.1.length := by
  obtain ⟨bs, ⟨ad, c, e, _⟩, ht⟩ := h.sub
  rw [(slice_inj e).2.1]
  exact ht.len
theorem PlOk.up (h : PlOk w0 A ds N p x) (hN : N ≤ N') : PlOk w0 A ds N' p x := ⟨h.i, Nat.le_trans h.le hN, h.sub, h.ok⟩
theorem StAt.up (h : StAt w0 A ds N a r) (hN : N ≤ N') : StAt w0 A ds N' a r := by
  induction h with
  | nil => exact .nil
  | cons h t ih => exact .cons (h.up hN) ih
theorem StAt.pop (h : StAt w0 A ds N a r) : StAt w0 A ds N (a.dropWhile fun p => decide (p.nl ≤ p.i)) (Tm.pop r) := by
  induction h with
  | nil => exact .nil
  | @cons p x a r h t ih =>
    obtain ⟨ts, i⟩ := x
    have e1 := h.len
    have e2 := h.i
    rw [List.dropWhile_cons]
    unfold Tm.pop
    by_cases c : i < ts.length
    · rw [if_pos c, if_neg (by dsimp only at e1 e2; simp; omega)]
      exact .cons h t
    · rw [if_neg c, if_pos (by dsimp only at e1 e2; simp; omega)]
      exact ih
theorem StAt.mem (h : StAt w0 A ds N a r) {p : Pl} (hp : p ∈ a) : ∃ x, PlOk w0 A ds N p x := by
  induction h with
  | nil => cases hp
  | cons h t ih =>
    rcases List.mem_cons.1 hp with e | e
    · exact ⟨_, e ▸ h⟩
    · exact ih e
theorem StAt.len (h : StAt w0 A ds N a r) : a.length = r.length := by
  induction h with
  | nil => rfl
  | cons h t ih => simp [ih]
end
def tcell (P gv n : Nat) (vc va : Value) (bad : Bool) (i : Nat) : Value := if i = 0 then .pointer (some ⟨P, 0, none⟩) else if i = 1 then .slice (some ⟨gv, 0, none⟩) n n else if i = 2 then vc else if i = 3 then va else .bool bad
def vcOf (n gc cc : Nat) : Value := if n = 0 then .slice none 0 0 else .slice (some ⟨gc, 0, none⟩) n cc
structure Sep (F : Nat → Prop) (lo R gv gc n : Nat) (ga : Nat → Nat) : Prop where
  f : ∀ k, F k → lo ≤ k ∧ k ≠ R ∧ k ≠ gv
  fa : ∀ k i, F k → i < n → k ≠ ga i
  fc : ∀ k, F k → 0 < n → k ≠ gc
  r : lo ≤ R
  v : lo ≤ gv
  a : ∀ i, i < n → lo ≤ ga i
  rv : R ≠ gv
  rc : R ≠ gc
  vc : gv ≠ gc
  ra : ∀ i, i < n → ga i ≠ R
  va : ∀ i, i < n → ga i ≠ gv
  ca : ∀ i, i < n → ga i ≠ gc
  aa : ∀ i j, i < n → j < n → ga i = ga j → i = j
structure AtRow (w0 : World) (F A : Nat → Prop) (P : Nat) (l : List DB) (R gv gc cc : Nat) (ga : Nat → Nat) (N : Nat) (m : Tm.M) (w : World) (st : List Pl) (g ca : Nat) : Prop where
  row : w.rowIs R 127 5 (tcell P gv l.length (vcOf l.length gc cc) (.slice (some ⟨g, 0, none⟩) st.length ca) m.bad)
  own : w.ownsRow w0.heap.size 167 2 (.slice (some ⟨g, 0, none⟩) st.length ca) st.length (plc (st.map Pl.vp))
  neF : ¬ F g
  neR : g ≠ R
  neV : g ≠ gv
  neC : 0 < l.length → g ≠ gc
  neA : ∀ i, i < l.length → g ≠ ga i
  stk : StAt w0 A (dcs l) N st.reverse m.at_
  len : st.length ≤ N
structure RunAt (w0 wf : World) (F A : Nat → Prop) (P : Nat) (l : List DB) (R gv gc cc : Nat) (ga : Nat → Nat) (N : Nat) (m : Tm.M) (w : World) : Prop where
  bel : Below w0.heap.size w0 w
  frn : ∀ k, F k → k < w.heap.size ∧ w.heap[k]? = wf.heap[k]?
  sep : Sep F w0.heap.size R gv gc l.length ga
  at_ : ∃ st g ca, AtRow w0 F A P l R gv gc cc ga N m w st g ca
  vals : w.rowIs gv 3 l.length (fun i => .int .i64 (m.vals i))
  cels : ∀ i, i < l.length → w.cell? ⟨gc, i, none⟩ = some (.slice (some ⟨ga i, 0, none⟩) (szs l i) (szs l i))
  arrs : ∀ i, i < l.length → w.rowIs (ga i) 3 (szs l i) (fun j => .int .i64 (m.cel i j))
theorem own_shrink {w : World} {base g ca n k : Nat} {t : TypeId} {size : Nat} {xs ys : List Value} (h : w.ownsRow base t size (.slice (some ⟨g, 0, none⟩) n ca) n xs) (hk : k ≤ n) (hy : xs.take (k * size) = ys) : w.ownsRow base t size (.slice (some ⟨g, 0, none⟩) k ca) k ys := by
  rcases h.2 with ⟨hv, _⟩ | ⟨g', cap, cur, hv, h1, h2, h3, h4, h5, h6⟩
  · cases hv
  · cases hv
    have hm : k * size ≤ n * size := Nat.mul_le_mul_right _ hk
    refine ⟨?_, .inr ⟨g, ca, cur, rfl, h1, h2, Nat.le_trans hk h3, h4, h5, ?_⟩⟩
    · rw [← hy, List.length_take, h.1]; omega
    · rw [← hy, ← h6, List.take_take, Nat.min_eq_left hm]
theorem popS_take (st : List Pl) : popS st = st.take (popS st).length := by
  unfold popS
  have h : ∀ l : List Pl, (l.dropWhile fun p => decide (p.nl ≤ p.i)) = l.drop (l.length - (l.dropWhile fun p => decide (p.nl ≤ p.i)).length) := by
    intro l
    induction l with
    | nil => rfl
    | cons x l ih =>
      rw [List.dropWhile_cons]
      have hl : (l.dropWhile fun p => decide (p.nl ≤ p.i)).length ≤ l.length := (List.dropWhile_sublist _).length_le
      split
      · rw [show (x :: l).length - (l.dropWhile fun p => decide (p.nl ≤ p.i)).length = (l.length - (l.dropWhile fun p => decide (p.nl ≤ p.i)).length) + 1 by simp; omega]
        rw [List.drop_succ_cons]
        exact ih
      · rw [Nat.sub_self]; rfl
  have h2 := h st.reverse
  rw [List.length_reverse] at h2
  rw [List.length_reverse]
  conv => lhs; rw [h2]
  have hl : (st.reverse.dropWhile fun p => decide (p.nl ≤ p.i)).length ≤ st.length := by
    have := (List.dropWhile_sublist (fun p : Pl => decide (p.nl ≤ p.i)) (l := st.reverse)).length_le
    simpa using this
  rw [List.drop_reverse, List.reverse_reverse]
  congr 1
  omega
theorem plc_set (a : List Pl) (pl : Pl) (k : Nat) : (plc ((a ++ [pl]).map Pl.vp)).set (a.length * 2 + 1) (.int .i64 (k : Int)) = plc ((a ++ [{ pl with i := k }]).map Pl.vp) := by
  induction a with
  | nil => rfl
  | cons x a ih =>
    have e1 : plc ((x :: a ++ [pl]).map Pl.vp) = .slice x.al x.nl x.cl :: .int .i64 x.i :: plc ((a ++ [pl]).map Pl.vp) := rfl
    have e2 : plc ((x :: a ++ [{ pl with i := k }]).map Pl.vp) = .slice x.al x.nl x.cl :: .int .i64 x.i :: plc ((a ++ [{ pl with i := k }]).map Pl.vp) := rfl
    rw [e1, e2, show (x :: a).length * 2 + 1 = a.length * 2 + 1 + 1 + 1 by simp; omega, List.set_cons_succ, List.set_cons_succ, ih]
theorem plc_take (st : List Pl) (k : Nat) : (plc (st.map Pl.vp)).take (k * 2) = plc ((st.take k).map Pl.vp) := by
  induction st generalizing k with
  | nil => cases k <;> rfl
  | cons x st ih =>
    cases k with
    | zero => rfl
    | succ k =>
      have e : plc ((x :: st).map Pl.vp) = .slice x.al x.nl x.cl :: .int .i64 x.i :: plc (st.map Pl.vp) := rfl
      rw [e, show (k + 1) * 2 = k * 2 + 1 + 1 by omega, List.take_succ_cons, List.take_succ_cons, ih]
      rfl
section
variable {w0 wf : World} {F A : Nat → Prop} {P : Nat} {l : List DB} {R gv gc cc : Nat} {ga : Nat → Nat} {N N' : Nat} {m : Tm.M} {w w' : World}
theorem RunAt.up (h : RunAt w0 wf F A P l R gv gc cc ga N m w) (hN : N ≤ N') : RunAt w0 wf F A P l R gv gc cc ga N' m w := by
  obtain ⟨st, g, ca, h1⟩ := h.at_
  exact ⟨h.bel, h.frn, h.sep, ⟨st, g, ca, h1.row, h1.own, h1.neF, h1.neR, h1.neV, h1.neC, h1.neA, h1.stk.up hN, Nat.le_trans h1.len hN⟩, h.vals, h.cels, h.arrs⟩
theorem RunAt.drew (h : RunAt w0 wf F A P l R gv gc cc ga N m w) (k : Nat) : RunAt w0 wf F A P l R gv gc cc ga N m (w.drewN k) := by
  obtain ⟨st, g, ca, h1⟩ := h.at_
  exact ⟨below_drewN h.bel k, h.frn, h.sep, ⟨st, g, ca, h1.row.of_block rfl, ownsRow_blk h1.own (fun _ _ => rfl), h1.neF, h1.neR, h1.neV, h1.neC, h1.neA, h1.stk, h1.len⟩, h.vals.of_block rfl, fun i hi => by simpa using h.cels i hi, fun i hi => (h.arrs i hi).of_block rfl⟩
theorem tcell_bad (P gv n : Nat) (vc va : Value) (b : Bool) (u : Bool) (i : Nat) (hi : i < 5) : (if i = 4 then Value.bool u else tcell P gv n vc va b i) = tcell P gv n vc va u i := by
  match i, hi with
  | 0, _ => rfl
  | 1, _ => rfl
  | 2, _ => rfl
  | 3, _ => rfl
  | 4, _ => rfl
  | n + 5, h => omega
theorem tcell_at (P gv n : Nat) (vc va : Value) (b : Bool) (u : Value) (i : Nat) (hi : i < 5) : (if i = 3 then u else tcell P gv n vc va b i) = tcell P gv n vc u b i := by
  match i, hi with
  | 0, _ => rfl
  | 1, _ => rfl
  | 2, _ => rfl
  | 3, _ => rfl
  | 4, _ => rfl
  | n + 5, h => omega
theorem RunAt.frnSet (h : RunAt w0 wf F A P l R gv gc cc ga N m w) {b i : Nat} {u : Value} (hb : ∀ k, F k → k ≠ b) : ∀ k, F k → k < (w.setCell ⟨b, i, none⟩ u).heap.size ∧ (w.setCell ⟨b, i, none⟩ u).heap[k]? = wf.heap[k]? := fun k hk =>
  ⟨by simpa using (h.frn k hk).1, (Below.heap_setCell w ⟨b, i, none⟩ u k (hb k hk)).trans (h.frn k hk).2⟩
theorem RunAt.setBad (h : RunAt w0 wf F A P l R gv gc cc ga N m w) : RunAt w0 wf F A P l R gv gc cc ga N { m with bad := true } (w.setCell ⟨R, 4, none⟩ (.bool true)) := by
  obtain ⟨st, g, ca, h1⟩ := h.at_
  exact ⟨h.bel.setCell h.sep.r _, h.frnSet (fun k hk => (h.sep.f k hk).2.1), h.sep, ⟨st, g, ca, (h1.row.set 4 _).congr (fun i hi => tcell_bad _ _ _ _ _ _ _ i hi), ownsRow_setCell h1.own (by simp [Value.ownBlock]; exact h1.neR) _, h1.neF, h1.neR, h1.neV, h1.neC, h1.neA, h1.stk, h1.len⟩,
    h.vals.setOther h.sep.rv.symm _, fun i hi => (World.cell?_of_block (Below.heap_setCell w ⟨R, 4, none⟩ _ gc (fun e => h.sep.rc e.symm))).trans (h.cels i hi), fun i hi => (h.arrs i hi).setOther (h.sep.ra i hi) _⟩
theorem RunAt.setVal (h : RunAt w0 wf F A P l R gv gc cc ga N m w) (i v : Nat) : RunAt w0 wf F A P l R gv gc cc ga N { m with vals := Lk.upd m.vals i v } (w.setCell ⟨gv, i, none⟩ (.int .i64 v)) := by
  obtain ⟨st, g, ca, h1⟩ := h.at_
  refine ⟨h.bel.setCell h.sep.v _, h.frnSet (fun k hk => (h.sep.f k hk).2.2), h.sep, ⟨st, g, ca, h1.row.setOther h.sep.rv _, ownsRow_setCell h1.own (by simp [Value.ownBlock]; exact h1.neV) _, h1.neF, h1.neR, h1.neV, h1.neC, h1.neA, h1.stk, h1.len⟩,
    (h.vals.set i _).congr (fun j hj => ?_), fun i hi => (World.cell?_of_block (Below.heap_setCell w ⟨gv, _, none⟩ _ gc (fun e => h.sep.vc e.symm))).trans (h.cels i hi), fun i hi => (h.arrs i hi).setOther (h.sep.va i hi) _⟩
  show _ = Value.int .i64 ((Lk.upd m.vals i v j : Nat) : Int)
  unfold Lk.upd
  split <;> rfl
theorem RunAt.setCel (h : RunAt w0 wf F A P l R gv gc cc ga N m w) (a i v : Nat) (ha : a < l.length) : RunAt w0 wf F A P l R gv gc cc ga N { m with cel := Lk.upd m.cel a (Lk.upd (m.cel a) i v) } (w.setCell ⟨ga a, i, none⟩ (.int .i64 v)) := by
  obtain ⟨st, g, ca, h1⟩ := h.at_
  refine ⟨h.bel.setCell (h.sep.a a ha) _, h.frnSet (fun k hk => h.sep.fa k a hk ha), h.sep, ⟨st, g, ca, h1.row.setOther (h.sep.ra a ha).symm _, ownsRow_setCell h1.own (by simp [Value.ownBlock]; exact h1.neA a ha) _, h1.neF, h1.neR, h1.neV, h1.neC, h1.neA, h1.stk, h1.len⟩,
    h.vals.setOther (h.sep.va a ha).symm _, fun j hj => (World.cell?_of_block (Below.heap_setCell w ⟨ga a, i, none⟩ _ gc (fun e => h.sep.ca a ha e.symm))).trans (h.cels j hj), fun j hj => ?_⟩
  by_cases e : j = a
  · subst e
    refine ((h.arrs j hj).set i _).congr (fun x hx => ?_)
    show _ = Value.int .i64 ((Lk.upd m.cel j (Lk.upd (m.cel j) i v) j x : Nat) : Int)
    unfold Lk.upd
    rw [if_pos rfl]
    split <;> rfl
  · refine ((h.arrs j hj).setOther (fun c => e (h.sep.aa j a hj ha c)) _).congr (fun x hx => ?_)
    show _ = Value.int .i64 ((Lk.upd m.cel a (Lk.upd (m.cel a) i v) j x : Nat) : Int)
    unfold Lk.upd
    rw [if_neg e]
theorem RunAt.rd (h : RunAt w0 wf F A P l R gv gc cc ga N m w) (p : PS w0 P l) (h0 : 0 < l.length) : ∃ gn cn, RD R P gn cn (nms l) gv l.length m.vals w := by
  obtain ⟨st, g, ca, h1⟩ := h.at_
  obtain ⟨base, vn, vk, vz, vb, rep⟩ := p.rep
  have hn := nms_len l
  rcases rep.nm.2 with ⟨_, c⟩ | ⟨gn, cn, cur, hv, _⟩
  · omega
  · subst hv
    refine ⟨gn, cn, h1.row.cell (i := 0) (by omega), ?_, ?_, by rw [hn]; exact p.len, ?_, ?_⟩
    · rw [hn]
      exact (World.cell?_of_block (h.bel.block P rep.lt)).trans (rep.row.cell (i := 0) (by omega))
    · intro i hi
      rw [hn] at hi
      have hc := rep.nm.cellAt i (by omega)
      have hlt := (rep.nm.lt gn rfl).2
      refine ((World.cell?_of_block (h.bel.block gn hlt)).trans hc).trans ?_
      simp [nms, hi]
    · rw [hn]; exact h1.row.cell (i := 1) (by omega)
    · intro i hi
      rw [hn] at hi
      exact h.vals.cell hi
theorem RunAt.rc (h : RunAt w0 wf F A P l R gv gc cc ga N m w) (p : PS w0 P l) (h0 : 0 < l.length) : ∃ gs cs, RC R P (nms l).length gs cs gc cc ga (szs l) m.cel w := by
  obtain ⟨st, g, ca, h1⟩ := h.at_
  obtain ⟨base, vn, vk, vz, vb, rep⟩ := p.rep
  have hn := nms_len l
  rw [hn]
  rcases rep.sz.2 with ⟨_, c⟩ | ⟨gs, cs, cur, hv, _⟩
  · omega
  · subst hv
    refine ⟨gs, cs, ?_, ?_, ?_, h.cels, fun i j hi hj => (h.arrs i hi).cell hj, fun i j hi hj => (h.arrs i hi).frozen j, h1.row.frozen 4, m.bad, h1.row.cell (i := 4) (by omega)⟩
    · exact (World.cell?_of_block (h.bel.block P rep.lt)).trans (rep.row.cell (i := 2) (by omega))
    · intro i hi
      have hc := rep.sz.cellAt i (by omega)
      have hlt := (rep.sz.lt gs rfl).2
      refine ((World.cell?_of_block (h.bel.block gs hlt)).trans hc).trans ?_
      simp [hi, szs, dbAt]
    · have e := h1.row.cell (i := 2) (by omega)
      rw [show tcell P gv l.length (vcOf l.length gc cc) (.slice (some ⟨g, 0, none⟩) st.length ca) m.bad 2 = vcOf l.length gc cc from rfl] at e
      unfold vcOf at e
      rw [if_neg (by omega)] at e
      exact e
end
theorem kind_name {ds : List Rf.Dc} (hd : DsOk ds) {w : Lk.Wd} (h : Rf.kindOf ds w ≠ []) : (Rf.oneOf w (ds.map Rf.Dc.name)).isSome = true ∧ Lk.isName w = true := by
  induction ds with
  | nil => exact absurd rfl h
  | cons d ds ih =>
    have h : (if (d.name == w) = true then d.kind else Rf.kindOf ds w) ≠ [] := h
    show (if (d.name == w) = true then some 0 else (Rf.oneOf w (ds.map Rf.Dc.name)).map (· + 1)).isSome = true ∧ _
    by_cases c : (d.name == w) = true
    · rw [if_pos c]
      refine ⟨rfl, ?_⟩
      rw [← eq_of_beq c]
      exact (hd d (List.mem_cons_self ..)).1
    · rw [if_neg c] at h ⊢
      obtain ⟨h1, h2⟩ := ih (fun e he => hd e (List.mem_cons_of_mem _ he)) h
      refine ⟨?_, h2⟩
      cases hx : Rf.oneOf w (ds.map Rf.Dc.name) with
      | none => rw [hx] at h1; cases h1
      | some i => rfl
theorem nm_kind {l : List DB} (hd : DsOk (dcs l)) {s : ByteArray} (h : Rf.kindOf (dcs l) s.toList ≠ []) : isNm (nms l) s := by
  obtain ⟨h1, h2⟩ := kind_name hd h
  by_cases hz : s.size = 1
  · refine ⟨hz, ?_, by rw [nms_list]; exact h1⟩
    rw [isName1 hz] at h2
    simp at h2
    omega
  · rw [isNameN hz] at h2; cases h2
theorem scalar_kind {ds : List Rf.Dc} {w : Lk.Wd} (h : Rf.scalar ds w = true) : Rf.kindOf ds w ≠ [] := by
  intro e
  unfold Rf.scalar at h
  rw [e] at h
  revert h
  decide
theorem atm_atom {l : List DB} (hd : DsOk (dcs l)) {s : ByteArray} (h : Rf.atom (dcs l) s.toList = true) : isAtm (nms l) s := by
  unfold Rf.atom at h
  cases hs : Rf.scalar (dcs l) s.toList with
  | true => exact .inr (nm_kind hd (scalar_kind hs))
  | false => rw [hs] at h; exact .inl (by simpa using h)
theorem nm_pos {l : List DB} {s : ByteArray} (h : isNm (nms l) s) : 0 < l.length := by
  have := h.at.2
  rw [nms_len] at this
  omega
theorem nix_idx (l : List DB) (s : ByteArray) : nix (nms l) s = Tm.idx (dcs l) s.toList := by
  unfold nix Tm.idx
  rw [nms_list]
theorem nval_value (l : List DB) (m : Tm.M) (s : ByteArray) : nval (nms l) m.vals s = Tm.value (dcs l) m s.toList := by
  unfold nval Tm.value
  cases Lk.num? s.toList with
  | some n => rfl
  | none => show m.vals _ = m.vals _; rw [nix_idx]
section
variable {w0 wf : World} {F A : Nat → Prop} {P : Nat} {l : List DB} {R gv gc cc : Nat} {ga : Nat → Nat} {N N' : Nat} {m : Tm.M} {w w' : World}
theorem value_run (h : RunAt w0 wf F A P l R gv gc cc ga N m w) (p : PS w0 P l) {s : ByteArray} (ha : Rf.atom (dcs l) s.toList = true) :
    Calls Tryz.prog 88 #[.pointer (some ⟨R, 0, none⟩), .string s] w fun e w' => e = .returned (.int .i64 (Tm.value (dcs l) m s.toList)) ∧ ∃ k, w' = w.drewN k := by
  rw [← nval_value]
  have hA := atm_atom p.ok ha
  by_cases h0 : 0 < l.length
  · obtain ⟨gn, cn, d⟩ := h.rd p h0
    exact rval d hA
  · rcases hA with hA | hA
    · unfold nval
      cases hx : Lk.num? s.toList with
      | some n => exact (rvalue_num R s n hx w).mono (fun e w' ⟨h1, h2⟩ => ⟨h1, 0, h2⟩)
      | none => rw [hx] at hA; cases hA
    · exact absurd (nm_pos hA) h0
theorem index_run (h : RunAt w0 wf F A P l R gv gc cc ga N m w) (p : PS w0 P l) {s : ByteArray} (ha : Rf.scalar (dcs l) s.toList = true) :
    Calls Tryz.prog 91 #[.pointer (some ⟨R, 0, none⟩), .string s] w fun e w' => e = .returned (.int .i64 (Tm.idx (dcs l) s.toList)) ∧ w' = w := by
  have hn := nm_kind p.ok (scalar_kind ha)
  obtain ⟨gn, cn, d⟩ := h.rd p (nm_pos hn)
  rw [← nix_idx]
  exact ridx d hn
theorem passed_run (h : RunAt w0 wf F A P l R gv gc cc ga N m w) {ts : List Rf.Tr} {i : Nat} {r : List (List Rf.Tr × Nat)} (hm : m.at_ = (ts, i) :: r) (hN : N ≤ 900) :
    Calls Tryz.prog 87 #[.pointer (some ⟨R, 0, none⟩)] w fun e w' => e = .returned (.tuple #[]) ∧ RunAt w0 wf F A P l R gv gc cc ga (N + 1) { m with at_ := (ts, i + 1) :: r } w' := by
  obtain ⟨st, g, ca, h1⟩ := h.at_
  have hst := h1.stk
  rw [hm] at hst
  obtain ⟨a, pl, he⟩ : ∃ a pl, st = a ++ [pl] := by
    have := hst.len
    rcases List.eq_nil_or_concat st with e | ⟨a, x, e⟩
    · rw [e] at this; simp at this
    · exact ⟨a, x, by rw [e, List.concat_eq_append]⟩
  subst he
  rw [List.reverse_append, List.reverse_singleton, List.singleton_append] at hst
  cases hst with
  | cons hp ht =>
  have hlen : (a ++ [pl]).length = a.length + 1 := by simp
  have hle := h1.len
  rw [hlen] at hle
  have hpi : pl.i = i := hp.i
  have hpn : i ≤ N := hp.le
  have ci := (h1.own.cellAt (a.length * 2 + 1) (by rw [hlen]; omega)).trans ((plc_at (a ++ [pl]) a.length (by rw [hlen]; omega)).2)
  have hg : (a ++ [pl])[a.length]'(by rw [hlen]; omega) = pl := by simp
  rw [hg, hpi] at ci
  have cf : w.frozen? ⟨g, a.length * 2 + 1, none⟩ = false := by
    rcases h1.own.2 with ⟨hv, _⟩ | ⟨g', cap, cur, hv, _, hh, _⟩
    · cases hv
    · cases hv
      simp [World.frozen?, hh]
  have c3 := h1.row.cell (i := 3) (by omega)
  rw [show tcell P gv l.length (vcOf l.length gc cc) (.slice (some ⟨g, 0, none⟩) (a ++ [pl]).length ca) m.bad 3 = .slice (some ⟨g, 0, none⟩) (a ++ [pl]).length ca from rfl, hlen] at c3
  refine (passed_any R g a.length ca i w c3 ci cf (by omega) (by omega)).mono ?_
  intro e w' hh
  obtain ⟨h2, h3⟩ := hh
  refine ⟨h2, ?_⟩
  subst h3
  have hgl := (h1.own.lt g rfl).1
  have hpl : (a ++ [({ pl with i := i + 1 } : Pl)]).length = (a ++ [pl]).length := by simp
  refine ⟨h.bel.setCell hgl _, h.frnSet (fun k hk e => h1.neF (by rw [← e]; exact hk)), h.sep, ⟨a ++ [{ pl with i := i + 1 }], g, ca, ?_, ?_, h1.neF, h1.neR, h1.neV, h1.neC, h1.neA, ?_, ?_⟩, h.vals.setOther h1.neV.symm _, fun j hj => (World.cell?_of_block (Below.heap_setCell w ⟨g, _, none⟩ _ gc (fun e => h1.neC (by omega) e.symm))).trans (h.cels j hj), fun j hj => (h.arrs j hj).setOther (h1.neA j hj).symm _⟩
  · rw [hpl]; exact h1.row.setOther h1.neR.symm _
  · rw [hpl, ← plc_set]
    exact (h1.own.stored (a.length * 2 + 1) _).1
  · rw [List.reverse_append, List.reverse_singleton, List.singleton_append]
    exact .cons ⟨rfl, by show i + 1 ≤ N + 1; omega, hp.sub, hp.ok⟩ (ht.up (Nat.le_succ N))
  · rw [hpl, hlen]; omega
theorem enter_run (h : RunAt w0 wf F A P l R gv gc cc ga N m w) {al : Option Addr} {nl cl : Nat} {ts : List Rf.Tr} (hs : Sub w0 A (.slice al nl cl) ts) (ht : TsOk (dcs l) ts) (hN : N ≤ 900) :
    Calls Tryz.prog 52 #[.pointer (some ⟨R, 0, none⟩), .slice al nl cl] w fun e w' => e = .returned (.tuple #[]) ∧ RunAt w0 wf F A P l R gv gc cc ga (N + 1) { m with at_ := (ts, 0) :: m.at_ } w' := by
  obtain ⟨st, g, ca, h1⟩ := h.at_
  have hle := h1.len
  have key := enter_any R w0.heap.size _ (.slice (some ⟨g, 0, none⟩) st.length ca) (st.map Pl.vp) al nl cl w h1.row rfl (by simpa using h1.own) (by simp [Value.ownBlock]; exact h1.neR) (by simp; omega) h.bel.size
  refine key.mono ?_
  intro e w' hh
  obtain ⟨h2, va', hrow, hown, hne, hfr, hnew⟩ := hh
  refine ⟨h2, ?_⟩
  rcases hown.2 with ⟨_, c⟩ | ⟨g2, cap2, cur, hv, _⟩
  · omega
  subst hv
  have hap : ∀ b, b < w.heap.size → g ≠ b → g2 ≠ b := by
    intro b hb hg e
    rcases hnew g2 rfl with c | c
    · have c : g = g2 := by simpa [Value.ownBlock] using c
      exact hg (c.trans e)
    · omega
  have hkp : ∀ b, b < w.heap.size → b ≠ R → g ≠ b → w'.heap[b]? = w.heap[b]? := fun b hb hr hg => hfr.keep b hb (fun e => by
    rcases e with e | e
    · exact hr e
    · exact hg (by simpa [Value.ownBlock] using e))
  have hst' : (st.map Pl.vp).length + 1 = (st ++ [(⟨al, nl, cl, 0⟩ : Pl)]).length := by simp
  have hsz := h.bel.size
  have hgl := h1.own.lt g rfl
  have hbel : Below w0.heap.size w w' := (hfr.lift (base := w0.heap.size) (fun k _ e => by
    rcases e with e | e
    · rw [e]; exact h.sep.r
    · have e : g = k := by simpa [Value.ownBlock] using e
      rw [← e]; exact hgl.1) hsz).bel
  refine ⟨h.bel.trans hbel, fun k hk => ⟨Nat.lt_of_lt_of_le (h.frn k hk).1 hbel.size, (hkp k (h.frn k hk).1 (h.sep.f k hk).2.1 (fun e => h1.neF (by rw [e]; exact hk))).trans (h.frn k hk).2⟩, h.sep, ⟨st ++ [⟨al, nl, cl, 0⟩], g2, cap2, ?_, ?_, fun hF => hap g2 (h.frn g2 hF).1 (fun e => h1.neF (by rw [e]; exact hF)) rfl, by simpa [Value.ownBlock] using hne, hap _ h.vals.lt h1.neV, ?_, fun i hi => hap _ (h.arrs i hi).lt (h1.neA i hi), ?_, ?_⟩,
    h.vals.of_block (hkp _ h.vals.lt h.sep.rv.symm h1.neV), fun i hi => ?_, fun i hi => (h.arrs i hi).of_block (hkp _ (h.arrs i hi).lt (h.sep.ra i hi) (h1.neA i hi))⟩
  · rw [← hst']
    exact hrow.congr (fun i hi => tcell_at _ _ _ _ _ _ _ i hi)
  · rw [hst'] at hown
    rw [List.map_append]
    exact hown
  · intro h0
    exact hap _ (World.block_lt_of_cell? w _ (h.cels 0 h0)) (h1.neC h0)
  · rw [List.reverse_append, List.reverse_singleton, List.singleton_append]
    exact .cons ⟨rfl, Nat.zero_le _, hs, ht⟩ (h1.stk.up (Nat.le_succ N))
  · simp; omega
  · have hc := h.cels i hi
    exact (World.cell?_of_block (hkp gc (World.block_lt_of_cell? w _ hc) h.sep.rc.symm (h1.neC (by omega)))).trans hc
def StmtAt (w0 : World) (A : Nat → Prop) (ds : List Rf.Dc) (sb : Nat) (t : Rf.Tr) : Prop :=
  ∃ gw cw ws vb vo body other, t = .node (ws.map ByteArray.toList) body other ∧ w0.rowIs sb 139 3 (scell gw ws.length cw vb vo) ∧ Wds w0 gw ws ∧ 0 < ws.length ∧ Sub w0 A vb body ∧ Sub w0 A vo other ∧ TsOk ds [t]
theorem TsOk.get {ds : List Rf.Dc} {ts : List Rf.Tr} (h : TsOk ds ts) {i : Nat} (hi : i < ts.length) (d : Rf.Tr) : TsOk ds [ts.getD i d] := by
  induction h generalizing i with
  | nil => simp at hi
  | plain h hn hr ih =>
    cases i with
    | zero => exact .plain h hn .nil
    | succ i => exact ih (by simpa using hi)
  | cond h2 ha hw hb ho hr ihb iho ih =>
    cases i with
    | zero => exact .cond h2 ha hw hb ho .nil
    | succ i => exact ih (by simpa using hi)
theorem TsAt.get {w : World} {A : Nat → Prop} {ds : List Rf.Dc} {bs : List Nat} {ts : List Rf.Tr} (h : TsAt w A bs ts) (hk : TsOk ds ts) {i : Nat} (hi : i < ts.length) (d : Rf.Tr) : StmtAt w A ds (bs.getD i 0) (ts.getD i d) := by
  have ho := TsOk.get hk hi d
  clear hk
  induction h generalizing i with
  | nil => simp at hi
  | @cons sb gw cw ws vb vo bs os body other rs rest hA hrow hg hW h0 hb tb ho' to_ tr ih1 ih2 ih3 =>
    cases i with
    | zero => exact ⟨gw, cw, ws, vb, vo, body, other, rfl, hrow, hW, h0, ⟨bs, hb, tb⟩, ⟨os, ho', to_⟩, ho⟩
    | succ i => exact ih3 (by simpa using hi) ho
theorem popS_len (st : List Pl) : (popS st).length ≤ st.length := by
  unfold popS
  have := (List.dropWhile_sublist (fun p : Pl => decide (p.nl ≤ p.i)) (l := st.reverse)).length_le
  simpa using this
theorem find_run (h : RunAt w0 wf F A P l R gv gc cc ga N m w) (hN : N ≤ 900) :
    Calls Tryz.prog 86 #[.pointer (some ⟨R, 0, none⟩)] w fun e w' => ∃ r, e = .returned (.pointer r) ∧ RunAt w0 wf F A P l R gv gc cc ga N { m with at_ := Tm.pop m.at_ } w' ∧ (Tm.pop m.at_ = [] → r = none) ∧
      (∀ ts i q, Tm.pop m.at_ = (ts, i) :: q → ∃ sb, r = some ⟨sb, 0, none⟩ ∧ StmtAt w0 A (dcs l) sb (ts.getD i (.node [] [] []))) := by
  obtain ⟨st, g, ca, h1⟩ := h.at_
  have hle := h1.len
  have hpl : ∀ p : Pl, p ∈ st → ∀ t, t < p.nl → ∃ gl b, p.al = some ⟨gl, 0, none⟩ ∧ gl ≠ R ∧ w.cell? ⟨gl, t, none⟩ = some (ptrB b) := by
    intro p hp t ht
    obtain ⟨x, hx⟩ := h1.stk.mem (List.mem_reverse.2 hp)
    obtain ⟨bs, ⟨ad, c, e, hc⟩, _⟩ := hx.sub
    obtain ⟨q1, q2, -⟩ := slice_inj e
    obtain ⟨gl, e1, _, hi⟩ := hc (by omega)
    have hcl := hi t (by omega)
    rw [← q1] at e1
    have hlt : gl < w0.heap.size := World.block_lt_of_cell? w0 _ hcl
    refine ⟨gl, _, e1, ?_, (World.cell?_of_block (h.bel.block gl hlt)).trans hcl⟩
    have := h.sep.r
    omega
  have key := find_any' R w0.heap.size g ca _ st w h1.row rfl h1.own h1.neR (by omega) (fun gl t => match w.cell? ⟨gl, t, none⟩ with | some (.pointer p) => p | _ => none) (fun j hj t ht => by
    obtain ⟨gl, b, e1, e2, e3⟩ := hpl st[j] (List.getElem_mem hj) t ht
    exact ⟨gl, e1, e2, by rw [e3]; rfl⟩)
  refine key.mono ?_
  intro e w' hh
  obtain ⟨r, he, hr0, hr1, hrow, hfr⟩ := hh
  have hrev : StAt w0 A (dcs l) N (popS st).reverse (Tm.pop m.at_) := by
    unfold popS
    rw [List.reverse_reverse]
    exact h1.stk.pop
  have hkp : ∀ b, b < w.heap.size → b ≠ R → w'.heap[b]? = w.heap[b]? := fun b hb hr => hfr.keep b hb hr
  have hsz := h.bel.size
  refine ⟨r, he, ⟨h.bel.trans (hfr.lift (base := w0.heap.size) (fun k _ e => by have e : k = R := e; rw [e]; exact h.sep.r) hsz).bel, fun k hk => ⟨Nat.lt_of_lt_of_le (h.frn k hk).1 hfr.bel.size, (hkp k (h.frn k hk).1 (h.sep.f k hk).2.1).trans (h.frn k hk).2⟩, h.sep, ⟨popS st, g, ca, ?_, ?_, h1.neF, h1.neR, h1.neV, h1.neC, h1.neA, hrev, Nat.le_trans (popS_len st) hle⟩, ?_, ?_, ?_⟩, ?_, ?_⟩
  · exact hrow.congr (fun i hi => tcell_at _ _ _ _ _ _ _ i hi)
  · refine ownsRow_blk (own_shrink h1.own (popS_len st) ?_) (fun k e => ?_)
    · rw [plc_take, ← popS_take]
    · have e : g = k := by simpa [Value.ownBlock] using e
      subst e
      exact hkp _ (h1.own.lt g rfl).2 h1.neR
  · exact h.vals.of_block (hkp _ h.vals.lt h.sep.rv.symm)
  · intro i hi
    have hc := h.cels i hi
    exact (World.cell?_of_block (hkp gc (World.block_lt_of_cell? w _ hc) h.sep.rc.symm)).trans hc
  · intro i hi
    exact (h.arrs i hi).of_block (hkp _ (h.arrs i hi).lt (h.sep.ra i hi))
  · intro e0
    refine hr0 ?_
    have := hrev.len
    rw [e0] at this
    have h0 : (popS st).length = 0 := by simpa using this
    exact List.length_eq_zero_iff.1 h0
  · intro ts i q e0
    rw [e0] at hrev
    obtain ⟨a, pl, hap⟩ : ∃ a pl, popS st = a ++ [pl] := by
      have := hrev.len
      rcases List.eq_nil_or_concat (popS st) with e | ⟨a, x, e⟩
      · rw [e] at this; simp at this
      · exact ⟨a, x, by rw [e, List.concat_eq_append]⟩
    obtain ⟨gl, hal, hrr⟩ := hr1 a pl hap
    rw [hap, List.reverse_append, List.reverse_singleton, List.singleton_append] at hrev
    cases hrev with
    | cons hp ht =>
      have hil := Tm.pop_head e0
      obtain ⟨bs, ⟨ad, c, e, hc⟩, hta⟩ := hp.sub
      have hbl := hta.len
      have hbl : bs.length = ts.length := hbl
      obtain ⟨q1, q2, -⟩ := slice_inj e
      obtain ⟨gl2, e1, _, hi⟩ := hc (by omega)
      rw [← q1, hal] at e1
      cases e1
      have hpi : pl.i = i := hp.i
      have hcl := hi i (by omega)
      have hlt : gl < w0.heap.size := World.block_lt_of_cell? w0 _ hcl
      have hcw := (World.cell?_of_block (h.bel.block gl hlt)).trans hcl
      refine ⟨bs.getD i 0, ?_, hta.get hp.ok hil _⟩
      rw [hrr, hpi, hcw]
      rfl
theorem RunAt.swap {F2 : Nat → Prop} (h : RunAt w0 wf F A P l R gv gc cc ga N m w) (hb : Below w0.heap.size w w') (hk : ∀ k, k < w.heap.size → ¬ F k → w'.heap[k]? = w.heap[k]?) (h2 : ∀ k, F2 k → k < w'.heap.size ∧ (F k ∨ w.heap.size ≤ k)) :
    RunAt w0 w' F2 A P l R gv gc cc ga N m w' := by
  obtain ⟨st, g, ca, h1⟩ := h.at_
  have hz := h.bel.size
  have hRl := h1.row.lt
  have hR : w'.heap[R]? = w.heap[R]? := hk R hRl (fun e => (h.sep.f R e).2.1 rfl)
  have hgl := (h1.own.lt g rfl).2
  refine ⟨h.bel.trans hb, fun k hf => ⟨(h2 k hf).1, rfl⟩, ⟨fun k hf => ?_, fun k i hf hi => ?_, fun k hf h0 => ?_, h.sep.r, h.sep.v, h.sep.a, h.sep.rv, h.sep.rc, h.sep.vc, h.sep.ra, h.sep.va, h.sep.ca, h.sep.aa⟩,
    ⟨st, g, ca, h1.row.of_block hR, ownsRow_blk h1.own (fun k e => ?_), fun hf => ?_, h1.neR, h1.neV, h1.neC, h1.neA, h1.stk, h1.len⟩, h.vals.of_block (hk gv h.vals.lt (fun e => (h.sep.f gv e).2.2 rfl)), fun i hi => ?_, fun i hi => (h.arrs i hi).of_block (hk _ (h.arrs i hi).lt (fun e => h.sep.fa _ i e hi rfl))⟩
  · rcases (h2 k hf).2 with c | c
    · exact h.sep.f k c
    · have := h.vals.lt
      exact ⟨by omega, by omega, by omega⟩
  · rcases (h2 k hf).2 with c | c
    · exact h.sep.fa k i c hi
    · have := (h.arrs i hi).lt
      omega
  · rcases (h2 k hf).2 with c | c
    · exact h.sep.fc k c h0
    · have hcl : gc < w.heap.size := World.block_lt_of_cell? w _ (h.cels 0 h0)
      omega
  · have e : g = k := by simpa [Value.ownBlock] using e
    subst e
    exact hk g hgl h1.neF
  · rcases (h2 g hf).2 with c | c
    · exact h1.neF c
    · omega
  · have hc := h.cels i hi
    have hcl : gc < w.heap.size := World.block_lt_of_cell? w _ hc
    exact (World.cell?_of_block (hk gc hcl (fun e => h.sep.fc gc e (by omega) rfl))).trans hc
end
end Go.Proofs.YtgddmpmcnjlcjaaGreatDoor
