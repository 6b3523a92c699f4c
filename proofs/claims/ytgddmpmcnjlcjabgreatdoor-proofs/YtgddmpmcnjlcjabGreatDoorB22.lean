import Derived.Test.YtgddmpmcnjlcjabGreatDoorB20
import Derived.Test.YtgddmpmcnjlcjabGreatDoorB21
import Derived.Deep.RegionLaw
import Derived.Deep.RegionWith
import Derived.Deep.DeepCutAuto
namespace Go.Proofs.YtgddmpmcnjlcjabGreatDoor
open Go.RowKit
set_option linter.unusedVariables false
namespace Cl
def secB (sec : List Bool) : Nat → Nat × List Nat
  | 0 => (4 * sec.length, [])
  | i + 1 => let x := secB sec i; if sec.getD i false then (x.1 + 4, x.2 ++ freshL x.1 4) else (x.1, x.2 ++ freshL (4 * i) 4)
def tldN (N : List Nat) (V : Nat) (D : List Nat) (c0 : Nat) : Nat → Nat × List UInt8
  | 0 => (c0, [])
  | i + 1 => let x := tldN N V D c0 i; (x.1 + sameC (D.getD i 0), x.2 ++ sameB N ((V + 1 + i : Nat) : Int) (D.getD i 0) 0)
def difN (V m : Nat) : Nat → List UInt8
  | 0 => []
  | i + 1 => difN V m i ++ dif4 (V + 2 * m + 1 + i) (V + 1 + i) (V + m + 1 + i)
structure Fm where
  vars : Nat
  ct : Nat
  bs : List UInt8
  bits : List Bt
def b1 (sec : List Bool) : List Nat := freshL 0 (4 * sec.length)
def b2 (sec : List Bool) : List Nat := (secB sec sec.length).2
def vin (sec : List Bool) : Nat := (secB sec sec.length).1
def nds (sec : List Bool) (nodes : List Dg.Nd) (m : Nat) : Ns := nodesN nodes (b1 sec) (b2 sec) ⟨vin sec + 3 * m, 0, fun _ => 0, fun _ => 0, []⟩ nodes.length
def n1 (sec : List Bool) (nodes : List Dg.Nd) (m : Nat) : List Nat := tab nodes.length (nds sec nodes m).f1
def n2 (sec : List Bool) (nodes : List Dg.Nd) (m : Nat) : List Nat := tab nodes.length (nds sec nodes m).f2
def tl1 (sec : List Bool) (nodes : List Dg.Nd) (D : List Nat) (i : Nat) : Nat × List UInt8 := tldN (n1 sec nodes D.length) (vin sec) D (nds sec nodes D.length).ct i
def tl2 (sec : List Bool) (nodes : List Dg.Nd) (D : List Nat) (i : Nat) : Nat × List UInt8 := tldN (n2 sec nodes D.length) (vin sec + D.length) D (tl1 sec nodes D D.length).1 i
def bitN (sec : List Bool) (nodes : List Dg.Nd) (D : List Nat) (i : Nat) : Bt :=
  ⟨D.getD i 0, vin sec + 1 + i, (tl1 sec nodes D i).1 + 1, vin sec + D.length + 1 + i, (tl2 sec nodes D i).1 + 1, vin sec + 2 * D.length + 1 + i, (tl2 sec nodes D D.length).1 + 4 * i + 1⟩
def form (sec : List Bool) (nodes : List Dg.Nd) (D : List Nat) : Fm :=
  ⟨(nds sec nodes D.length).vars, (tl2 sec nodes D D.length).1 + 4 * D.length + 1,
    (nds sec nodes D.length).bs ++ (tl1 sec nodes D D.length).2 ++ (tl2 sec nodes D D.length).2 ++ difN (vin sec) D.length D.length ++ litsB (freshL (vin sec + 2 * D.length) D.length) D.length ++ [48, 10],
    (List.range D.length).map (bitN sec nodes D)⟩
theorem freshL_get (v n i : Nat) (h : i < n) : (freshL v n).getD i 0 = v + 1 + i := by simp [freshL, h]
theorem freshL_le (v n i : Nat) : (freshL v n).getD i 0 ≤ v + n := by
  by_cases c : i < n
  · rw [freshL_get v n i c]; omega
  · rw [List.getD_eq_getElem?_getD, List.getElem?_eq_none (by rw [freshL_len]; omega)]; exact Nat.zero_le _
theorem secB_len (sec : List Bool) (i : Nat) : (secB sec i).2.length = 4 * i := by
  induction i with
  | zero => rfl
  | succ i ih =>
    unfold secB
    split
    · show ((secB sec i).2 ++ freshL _ 4).length = _; rw [List.length_append, freshL_len, ih]; omega
    · show ((secB sec i).2 ++ freshL _ 4).length = _; rw [List.length_append, freshL_len, ih]; omega
theorem secB_le (sec : List Bool) (i : Nat) : 4 * sec.length ≤ (secB sec i).1 ∧ (secB sec i).1 ≤ 4 * sec.length + 4 * i := by
  induction i with
  | zero => exact ⟨Nat.le_refl _, Nat.le_refl _⟩
  | succ i ih =>
    unfold secB
    split
    · show _ ≤ (secB sec i).1 + 4 ∧ (secB sec i).1 + 4 ≤ _; omega
    · show _ ≤ (secB sec i).1 ∧ (secB sec i).1 ≤ _; omega
theorem getD_app_le {l m : List Nat} {v : Nat} (hl : ∀ i, l.getD i 0 ≤ v) (hm : ∀ i, m.getD i 0 ≤ v) (i : Nat) : (l ++ m).getD i 0 ≤ v := by
  by_cases c : i < l.length
  · have := hl i
    rw [List.getD_eq_getElem?_getD, List.getElem?_append_left c, ← List.getD_eq_getElem?_getD]; exact this
  · have := hm (i - l.length)
    rw [List.getD_eq_getElem?_getD, List.getElem?_append_right (by omega), ← List.getD_eq_getElem?_getD]; exact this
theorem secB_get (sec : List Bool) (i : Nat) (hi : i ≤ sec.length) : ∀ j, (secB sec i).2.getD j 0 ≤ (secB sec i).1 := by
  induction i with
  | zero => intro j; simp [secB]
  | succ i ih =>
    have h := ih (by omega)
    have hle := (secB_le sec i).1
    intro j
    unfold secB
    split
    · exact getD_app_le (l := (secB sec i).2) (v := (secB sec i).1 + 4) (fun q => Nat.le_trans (h q) (by omega)) (fun q => freshL_le _ _ q) j
    · exact getD_app_le (l := (secB sec i).2) (v := (secB sec i).1) h (fun q => Nat.le_trans (freshL_le _ _ q) (by omega)) j
theorem tldN_le (N : List Nat) (V : Nat) (D : List Nat) (c0 i : Nat) : (tldN N V D c0 i).1 ≤ c0 + 2 * i := by
  induction i with
  | zero => exact Nat.le_refl _
  | succ i ih =>
    have : sameC (D.getD i 0) ≤ 2 := by unfold sameC; split <;> omega
    show (tldN N V D c0 i).1 + sameC (D.getD i 0) ≤ _
    omega
theorem tldN_len (N : List Nat) (V : Nat) (D : List Nat) (c0 i : Nat) (hN : ∀ j, N.getD j 0 ≤ 1000000000) (hV : V + 1 + i ≤ 1000000000) : (tldN N V D c0 i).2.length ≤ 136 * i := by
  induction i with
  | zero => exact Nat.le_refl _
  | succ i ih =>
    have h1 := ih (by omega)
    have := sameB_len N (v := ((V + 1 + i : Nat) : Int)) (u := 0) ⟨by omega, by omega⟩ ⟨by omega, by omega⟩ (D.getD i 0) (hN _)
    show ((tldN N V D c0 i).2 ++ _).length ≤ _
    rw [List.length_append]
    omega
theorem difN_len (V m i : Nat) (hV : V + 2 * m + 1 + i ≤ 1000000000) : (difN V m i).length ≤ 272 * i := by
  induction i with
  | zero => exact Nat.le_refl _
  | succ i ih =>
    have h1 := ih (by omega)
    have := dif4_len (d := V + 2 * m + 1 + i) (a := V + 1 + i) (b := V + m + 1 + i) (by omega) (by omega) (by omega)
    show (difN V m i ++ _).length ≤ _
    rw [List.length_append]
    omega
theorem b1_len (sec : List Bool) : (b1 sec).length = 4 * sec.length := freshL_len _ _
theorem b2_len (sec : List Bool) : (b2 sec).length = 4 * sec.length := secB_len _ _
theorem vin_le (sec : List Bool) : 4 * sec.length ≤ vin sec ∧ vin sec ≤ 8 * sec.length := by
  have := secB_le sec sec.length
  unfold vin
  omega
theorem b1_le (sec : List Bool) (i : Nat) : (b1 sec).getD i 0 ≤ vin sec := Nat.le_trans (freshL_le _ _ _) (by have := (vin_le sec).1; omega)
theorem b2_le (sec : List Bool) (i : Nat) : (b2 sec).getD i 0 ≤ vin sec := secB_get sec _ (Nat.le_refl _) i
theorem nds_ok (sec : List Bool) (nodes : List Dg.Nd) (m : Nat) (hs : sec.length ≤ 3) (hm : m ≤ 70) (hL : nodes.length ≤ 400000) (i : Nat) (hi : i ≤ 400000) :
    NsOk (nodesN nodes (b1 sec) (b2 sec) ⟨vin sec + 3 * m, 0, fun _ => 0, fun _ => 0, []⟩ i) (234 + 2 * i) (544 * i) := by
  have hv := vin_le sec
  have h := nodesN_ok (nodes := nodes) (b1 := b1 sec) (b2 := b2 sec) (x := ⟨vin sec + 3 * m, 0, fun _ => 0, fun _ => 0, []⟩) (v := 234) (b := 0) ⟨by show vin sec + 3 * m ≤ 234; omega, fun _ => Nat.zero_le _, fun _ => Nat.zero_le _, Nat.le_refl _⟩ (fun i => Nat.le_trans (b1_le sec i) (by omega)) (fun i => Nat.le_trans (b2_le sec i) (by omega)) i (by omega)
  exact ⟨h.vars, h.f1, h.f2, by have := h.bs; omega⟩
end Cl
def KeptS (S : Nat → Prop) (w w' : World) : Prop := ∀ k o, w.heap[k]? = some o → ¬ S k → (∀ c fz, o ≠ .cells c 5 fz) → w'.heap[k]? = some o
namespace KeptS
variable {S T : Nat → Prop} {a b c w : World}
theorem refl (S : Nat → Prop) (w : World) : KeptS S w w := fun _ _ h _ _ => h
theorem trans (h : KeptS S a b) (k : KeptS S b c) : KeptS S a c := fun q o e n t => k q o (h q o e n t) n t
theorem imp (h : KeptS S a b) (hi : ∀ k, S k → T k) : KeptS T a b := fun q o e n t => h q o e (fun s => n (hi q s)) t
theorem alloc (h : KeptS S a w) (o : Obj) : KeptS S a (w.alloc o) := fun q p e n t => hp_old' w o p q (h q p e n t)
theorem setCell (h : KeptS S a w) {p : Addr} (hp : S p.block) (u : Value) : KeptS S a (w.setCell p u) := fun q o e n t => (Below.heap_setCell w p u q (fun e2 => n (by rw [e2]; exact hp))).trans (h q o e n t)
theorem drew (h : KeptS S a w) : KeptS S a w.drew := h
theorem of {wb : Nat} (h : Lib.OthersKept 5 (some wb) a b) (hs : S wb) : KeptS S a b := fun q o e n t => h q o e (fun e2 => n (by cases e2; exact hs)) t
theorem rowIs {q n : Nat} {t : TypeId} {f : Nat → Value} (h : KeptS S a b) (r : a.rowIs q t n f) (hs : ¬ S q) (ht : t ≠ 5) : b.rowIs q t n f := by
  obtain ⟨cs, hg, hz, hc⟩ := r
  exact ⟨cs, h q _ hg hs (fun c fz e => ht (by cases e; rfl)), hz, hc⟩
theorem own {base n sz : Nat} {t : TypeId} {v : Value} {xs : List Value} (h : KeptS S a b) (r : a.ownsRow base t sz v n xs) (hs : ∀ g, v.ownBlock = some g → ¬ S g) (ht : t ≠ 5) : b.ownsRow base t sz v n xs := by
  refine ⟨r.1, ?_⟩
  rcases r.2 with hn | ⟨g, cap, cur, rfl, hb', hgg, rest⟩
  · exact .inl hn
  · exact .inr ⟨g, cap, cur, rfl, hb', h g _ hgg (hs g rfl) (fun c fz e => ht (by cases e; rfl)), rest⟩
end KeptS
structure NdAt (B wb n1b n2b g1 g2 L : Nat) (R1 R2 : Value × Value) (bs : List UInt8) (x : Cl.Ns) (vt : Value) (w0 w : World) : Prop where
  wr : WrAt B wb x.vars x.ct (bs ++ x.bs) vt w
  r1 : w.rowIs n1b 115 3 (fun i => if i = 0 then R1.1 else if i = 1 then .slice (some ⟨g1, 0, none⟩) L L else R1.2)
  r2 : w.rowIs n2b 115 3 (fun i => if i = 0 then R2.1 else if i = 1 then .slice (some ⟨g2, 0, none⟩) L L else R2.2)
  t1 : w.rowIs g1 3 L (fun i => .int .i64 (x.f1 i))
  t2 : w.rowIs g2 3 L (fun i => .int .i64 (x.f2 i))
  n12 : n1b ≠ n2b
  g12 : g1 ≠ g2
  q1 : w0.heap.size ≤ g1
  q2 : w0.heap.size ≤ g2
  bel : Below B w0 w
  kp : KeptS (fun k => k = wb ∨ k = n1b ∨ k = n2b) w0 w
section
variable {B wb n1b n2b g1 g2 L : Nat} {R1 R2 : Value × Value} {bs : List UInt8} {x : Cl.Ns} {vt : Value} {w0 w : World}
theorem NdAt.ne (h : NdAt B wb n1b n2b g1 g2 L R1 R2 bs x vt w0 w) : wb ≠ n1b ∧ wb ≠ n2b ∧ wb ≠ g1 ∧ wb ≠ g2 ∧ n1b ≠ g1 ∧ n1b ≠ g2 ∧ n2b ≠ g1 ∧ n2b ≠ g2 :=
  ⟨row_ne h.wr.row h.r1 (by decide), row_ne h.wr.row h.r2 (by decide), row_ne h.wr.row h.t1 (by decide), row_ne h.wr.row h.t2 (by decide), row_ne h.r1 h.t1 (by decide), row_ne h.r1 h.t2 (by decide), row_ne h.r2 h.t1 (by decide), row_ne h.r2 h.t2 (by decide)⟩
theorem NdAt.alloc (h : NdAt B wb n1b n2b g1 g2 L R1 R2 bs x vt w0 w) (hB : B ≤ w.heap.size) (o : Obj) : NdAt B wb n1b n2b g1 g2 L R1 R2 bs x vt w0 (w.alloc o) :=
  ⟨h.wr.alloc o, h.r1.alloc o, h.r2.alloc o, h.t1.alloc o, h.t2.alloc o, h.n12, h.g12, h.q1, h.q2, h.bel.alloc hB o, h.kp.alloc o⟩
theorem NdAt.drew (h : NdAt B wb n1b n2b g1 g2 L R1 R2 bs x vt w0 w) : NdAt B wb n1b n2b g1 g2 L R1 R2 bs x vt w0 w.drew :=
  ⟨h.wr.drew, h.r1.drew, h.r2.drew, h.t1.drew, h.t2.drew, h.n12, h.g12, h.q1, h.q2, h.bel.drew, h.kp.drew⟩
theorem NdAt.var (h : NdAt B wb n1b n2b g1 g2 L R1 R2 bs x vt w0 w) (v : Nat) : NdAt B wb n1b n2b g1 g2 L R1 R2 bs { x with vars := v } vt w0 (w.setCell ⟨wb, 0, none⟩ (.int .i64 v)) := by
  obtain ⟨e1, e2, e3, e4, _⟩ := h.ne
  exact ⟨h.wr.var v, h.r1.setOther (fun e => e1 e.symm) _, h.r2.setOther (fun e => e2 e.symm) _, h.t1.setOther (fun e => e3 e.symm) _, h.t2.setOther (fun e => e4 e.symm) _, h.n12, h.g12, h.q1, h.q2, h.bel.setCell h.wr.hb _, h.kp.setCell (.inl rfl) _⟩
theorem NdAt.set1 (h : NdAt B wb n1b n2b g1 g2 L R1 R2 bs x vt w0 w) (hB : B ≤ w0.heap.size) (i v : Nat) : NdAt B wb n1b n2b g1 g2 L R1 R2 bs { x with f1 := Lk.upd x.f1 i v } vt w0 (w.setCell ⟨g1, i, none⟩ (.int .i64 v)) := by
  obtain ⟨e1, e2, e3, e4, e5, e6, e7, e8⟩ := h.ne
  refine ⟨h.wr.other e3 (own_not_row h.wr.own h.t1 (by decide)) _, h.r1.setOther e5 _, h.r2.setOther e7 _, (h.t1.set i _).congr (fun j hj => ?_), h.t2.setOther (fun e => h.g12 e.symm) _, h.n12, h.g12, h.q1, h.q2, h.bel.setCell (Nat.le_trans hB h.q1) _, ?_⟩
  · show _ = Value.int .i64 ((Lk.upd x.f1 i v j : Nat) : Int)
    unfold Lk.upd
    by_cases c : j = i <;> simp [c]
  · intro q o e n t
    exact (Below.heap_setCell w ⟨g1, i, none⟩ _ q (fun e2 => by have e2 : q = g1 := e2; have := (Array.getElem?_eq_some_iff.1 e).1; have := h.q1; omega)).trans (h.kp q o e n t)
theorem NdAt.set2 (h : NdAt B wb n1b n2b g1 g2 L R1 R2 bs x vt w0 w) (hB : B ≤ w0.heap.size) (i v : Nat) : NdAt B wb n1b n2b g1 g2 L R1 R2 bs { x with f2 := Lk.upd x.f2 i v } vt w0 (w.setCell ⟨g2, i, none⟩ (.int .i64 v)) := by
  obtain ⟨e1, e2, e3, e4, e5, e6, e7, e8⟩ := h.ne
  refine ⟨h.wr.other e4 (own_not_row h.wr.own h.t2 (by decide)) _, h.r1.setOther e6 _, h.r2.setOther e8 _, h.t1.setOther h.g12 _, (h.t2.set i _).congr (fun j hj => ?_), h.n12, h.g12, h.q1, h.q2, h.bel.setCell (Nat.le_trans hB h.q2) _, ?_⟩
  · show _ = Value.int .i64 ((Lk.upd x.f2 i v j : Nat) : Int)
    unfold Lk.upd
    by_cases c : j = i <;> simp [c]
  · intro q o e n t
    exact (Below.heap_setCell w ⟨g2, i, none⟩ _ q (fun e2 => by have e2 : q = g2 := e2; have := (Array.getElem?_eq_some_iff.1 e).1; have := h.q2; omega)).trans (h.kp q o e n t)
theorem NdAt.wrote (h : NdAt B wb n1b n2b g1 g2 L R1 R2 bs x vt w0 w) {w' : World} {vt' : Value} {c : Nat} {b : List UInt8} (hw : WrAt B wb x.vars (x.ct + c) (bs ++ x.bs ++ b) vt' w') (hf : WFr B wb w w') : NdAt B wb n1b n2b g1 g2 L R1 R2 bs { x with ct := x.ct + c, bs := x.bs ++ b } vt' w0 w' := by
  obtain ⟨e1, e2, e3, e4, _⟩ := h.ne
  have k : KeptS (fun k => k = wb) w w' := KeptS.of hf.2 rfl
  refine ⟨by rw [show bs ++ (x.bs ++ b) = bs ++ x.bs ++ b by simp]; exact hw, k.rowIs h.r1 (fun e => e1 e.symm) (by decide), k.rowIs h.r2 (fun e => e2 e.symm) (by decide), k.rowIs h.t1 (fun e => e3 e.symm) (by decide), k.rowIs h.t2 (fun e => e4 e.symm) (by decide), h.n12, h.g12, h.q1, h.q2, h.bel.trans hf.1, h.kp.trans (k.imp (fun _ e => .inl e))⟩
theorem NdAt.c0 (h : NdAt B wb n1b n2b g1 g2 L R1 R2 bs x vt w0 w) : w.cell? ⟨wb, 0, none⟩ = some (.int .i64 x.vars) := h.wr.c0
theorem rowIs_of_made' {g n : Nat} {t : TypeId} {z : Value} (h : w.heap[g]? = some (.cells (madeCells #[z] n) t)) : w.rowIs g t n (fun _ => z) := by
  obtain ⟨cs, hg, hs, hc⟩ := World.rowIs_made w z n t
  rw [heap_alloc_new] at hg
  cases hg
  exact ⟨_, h, hs, hc⟩
theorem nd_at {base : Nat} {nodes : List Dg.Nd} {g cap : Nat} (h : w.ownsRow base 160 4 (.slice (some ⟨g, 0, none⟩) nodes.length cap) nodes.length (nodes.flatMap Dg.Nd.cells)) (i : Nat) (hi : i < nodes.length) (j : Nat) (hj : j < 4) : w.cell? ⟨g, i * 4 + j, none⟩ = (Dg.ndAt nodes i).cells[j]? := (h.cellAt (i * 4 + j) (by omega)).trans (Dg.flat_get _ i j hi hj)
theorem row_tab {L g : Nat} {f : Nat → Nat} (hL : L ≤ 400000) (h : w.rowIs g 3 L (fun i => .int .i64 (f i))) : w.ownsRow 0 3 1 (.slice (some ⟨g, 0, none⟩) (Cl.tab L f).length L) (Cl.tab L f).length ((Cl.tab L f).map fun (n : Nat) => .int .i64 n) := by
  rw [Cl.tab_len]
  obtain ⟨cs, hg, hs, hc⟩ := h
  refine ⟨by simp [Cl.tab], .inr ⟨g, _, cs, rfl, Nat.zero_le _, hg, Nat.le_refl _, by unfold maxLen; omega, by omega, ?_⟩⟩
  apply List.ext_getElem?
  intro i
  by_cases hi : i < L
  · have := hc i hi
    rw [List.getElem?_take, if_pos (by omega)]
    simp [Cl.tab, hi]
    simpa using this
  · rw [List.getElem?_take, if_neg (by omega)]
    exact (List.getElem?_eq_none (by simp [Cl.tab]; omega)).symm
end
section
variable {B wb vars ct : Nat} {bs : List UInt8} {vt : Value} {w : World}
set_option maxRecDepth 100000 in
set_option maxHeartbeats 4000000 in
theorem wnodes_any (h : WrAt B wb vars ct bs vt w) (hBw : B ≤ w.heap.size) (nodes : List Dg.Nd) (hL : nodes.length ≤ 400000) (b1 b2 : List Nat) (n1b n2b : Nat) (vN vT : Value) (a1 a3 a4 a6 : Option Addr) (c1 n3 c3 c4 n6 c6 : Nat)
    (hN : w.ownsRow 0 160 4 vN nodes.length (nodes.flatMap Dg.Nd.cells))
    (hr1 : w.rowIs n1b 115 3 (runc a1 none a3 b1.length c1 0 0 n3 c3)) (hr2 : w.rowIs n2b 115 3 (runc a4 none a6 b2.length c4 0 0 n6 c6)) (h12 : n1b ≠ n2b) (hB1 : B ≤ n1b) (hB2 : B ≤ n2b)
    (hb1 : w.ownsRow 0 3 1 (.slice a1 b1.length c1) b1.length (b1.map fun (n : Nat) => .int .i64 n)) (hb2 : w.ownsRow 0 3 1 (.slice a4 b2.length c4) b2.length (b2.map fun (n : Nat) => .int .i64 n))
    (htab : TabB B w) (hbs : bs.length ≤ 1000) (hb19 : ∀ i, b1.getD i 0 ≤ 1000000000) (hb29 : ∀ i, b2.getD i 0 ≤ 1000000000) (hb1l : b1.length ≤ 1000) (hb2l : b2.length ≤ 1000)
    (hNs : ∀ i, i ≤ nodes.length → Cl.NsOk (Cl.nodesN nodes b1 b2 ⟨vars, ct, fun _ => 0, fun _ => 0, []⟩ i) (234 + 2 * i) (544 * i))
    (hnd : ∀ i, 2 ≤ i → i < nodes.length → (Dg.ndAt nodes i).lo < i ∧ (Dg.ndAt nodes i).hi < i ∧ (Dg.ndAt nodes i).bit < b1.length ∧ (Dg.ndAt nodes i).bit < b2.length) :
    Calls Tryz.prog 42 #[.pointer (some ⟨wb, 0, none⟩), .agg #[vN, vT], .pointer (some ⟨n1b, 0, none⟩), .pointer (some ⟨n2b, 0, none⟩)] w fun e w' => e = .returned (.tuple #[]) ∧ ∃ vt' g1 g2, NdAt B wb n1b n2b g1 g2 nodes.length (.slice a1 b1.length c1, .slice a3 n3 c3) (.slice a4 b2.length c4, .slice a6 n6 c6) bs (Cl.nodesN nodes b1 b2 ⟨vars, ct, fun _ => 0, fun _ => 0, []⟩ nodes.length) vt' w w' := by
  obtain ⟨aN, cN, eN⟩ := body_val hN
  subst eN
  have hmk : ∀ w : World, (Instr.makeSlice 24 (.int .i64 (nodes.length : Int)) (.int .i64 (nodes.length : Int))).run Tryz.prog w = .ok (.slice (some ⟨w.heap.size, 0, none⟩) nodes.length nodes.length) (w.alloc (.cells (madeCells #[.int .i64 0] nodes.length) 3)) := fun w => run_make_row' 24 3 (.int .i64 0) 8 Tryz.underlying24 Tryz.infoInt rfl .i64 .i64 nodes.length (by omega) (by omega) w
  have hLI : (nodes.length : Int) ≤ 400000 := by omega
  have k1 := hr1.cell (i := 1) (by omega)
  have f1 := hr1.frozen 1
  have k2 := hr2.cell (i := 1) (by omega)
  have f2 := hr2.frozen 1
  have l1 := hr1.lt
  have l2 := hr2.lt
  have h21 : n2b ≠ n1b := fun e => h12 e.symm
  obtain ⟨W1, hW1⟩ : ∃ W1 : World, ((w.setCell ⟨n1b, 1, none⟩ (.slice (some ⟨w.heap.size + 1, 0, none⟩) nodes.length nodes.length)).alloc (.cells #[.slice aN nodes.length cN, vT] 54)).alloc (.cells (madeCells #[.int .i64 0] nodes.length) 3) = W1 := ⟨_, rfl⟩
  have hz1 : W1.heap.size = w.heap.size + 2 := by rw [← hW1]; simp
  have HR2 := hid (show W1.rowIs n2b 115 3 (runc a4 none a6 b2.length c4 0 0 n6 c6) by rw [← hW1]; exact ((hr2.setOther h21 _).alloc _).alloc _)
  have HR1 := hid (show W1.rowIs n1b 115 3 (fun i => if i = 0 then .slice a1 b1.length c1 else if i = 1 then .slice (some ⟨w.heap.size + 1, 0, none⟩) nodes.length nodes.length else .slice a3 n3 c3) by
    rw [← hW1]
    refine (((hr1.set 1 _).alloc _).alloc _).congr (fun i hi => ?_)
    match i, hi with
    | 0, _ => rfl
    | 1, _ => rfl
    | 2, _ => rfl
    | n + 3, h => omega)
  have HG1 := hid (show W1.heap[w.heap.size + 1]? = some (.cells (madeCells #[.int .i64 0] nodes.length) 3) by rw [← hW1]; exact hp_new' _ _ _ (by simp))
  have HD1 := hid (show W1.heap[w.heap.size]? = some (.cells #[.slice aN nodes.length cN, vT] 54) by rw [← hW1]; exact hp_old' _ _ _ _ (hp_new' _ _ _ (by simp)))
  have HE := hid hW1
  clear hW1
  go_enter Tryz.func42, Tryz.ntmps42
  go_upto_region 2 with fail
  rw [HE.out]
  have d0 := (HD1.out : W1.heap[w.heap.size]? = _)
  have dd0 : W1.cell? ⟨w.heap.size, 0, none⟩ = some (.slice aN nodes.length cN) := by simp [World.cell?, d0]
  have k2 := HR2.out.cell (i := 1) (by omega)
  have f2 := HR2.out.frozen 1
  have k2a := fun o => (HR2.out.alloc o).cell (i := 1) (by omega)
  have f2a := fun o => (HR2.out.alloc o).frozen 1
  clear d0 k1 f1 l1
  go_wp2_with fail
  obtain ⟨W2, hW2⟩ : ∃ W2 : World, (W1.alloc (.cells (madeCells #[.int .i64 0] nodes.length) 3)).setCell ⟨n2b, 1, none⟩ (.slice (some ⟨w.heap.size + 2, 0, none⟩) nodes.length nodes.length) = W2 := ⟨_, rfl⟩
  rw [hW2]
  have hz2 : W2.heap.size = w.heap.size + 3 := by rw [← hW2]; simp; omega
  have HI := hid (show NdAt B wb n1b n2b (w.heap.size + 1) (w.heap.size + 2) nodes.length (.slice a1 b1.length c1, .slice a3 n3 c3) (.slice a4 b2.length c4, .slice a6 n6 c6) bs ⟨vars, ct, fun _ => 0, fun _ => 0, []⟩ vt w W2 by
    have e1 : wb ≠ n1b := row_ne h.row hr1 (by decide)
    have e2 : wb ≠ n2b := row_ne h.row hr2 (by decide)
    have o1 : vt.ownBlock ≠ some n1b := own_not_row h.own hr1 (by decide)
    have o2 : vt.ownBlock ≠ some n2b := own_not_row h.own hr2 (by decide)
    have w1 : WrAt B wb vars ct bs vt W1 := by rw [← HE.out]; exact ((h.other (p := ⟨n1b, 1, none⟩) e1 o1 _).alloc _).alloc _
    have b1' : Below B w W1 := by rw [← HE.out]; exact ((((Below.refl B w).setCell (p := ⟨n1b, 1, none⟩) hB1 _).alloc (by simpa using hBw) _).alloc (by simp; omega) _)
    have kp1 : KeptS (fun k => k = wb ∨ k = n1b ∨ k = n2b) w W1 := by rw [← HE.out]; exact (((KeptS.refl _ w).setCell (p := ⟨n1b, 1, none⟩) (.inr (.inl rfl)) _).alloc _).alloc _
    have lw := hr2.lt
    rw [← hW2]
    refine ⟨by rw [List.append_nil]; exact (w1.alloc _).other (p := ⟨n2b, 1, none⟩) e2 o2 _, (HR1.out.alloc _).setOther h12 _, ((HR2.out.alloc _).set 1 _).congr (fun i hi => ?_), ((rowIs_of_made' HG1.out).alloc _).setOther (fun e => by have e : w.heap.size + 1 = n2b := e; omega) _, World.rowIs.setOther (rowIs_of_made' (hp_new' _ _ _ hz1.symm)) (fun e => by have e : w.heap.size + 2 = n2b := e; omega) _, h12, by omega, by omega, by omega, (b1'.alloc (by omega) _).setCell (p := ⟨n2b, 1, none⟩) hB2 _, (kp1.alloc _).setCell (p := ⟨n2b, 1, none⟩) (.inr (.inr rfl)) _⟩
    match i, hi with
    | 0, _ => rfl
    | 1, _ => rfl
    | 2, _ => rfl
    | n + 3, h => omega)
  have HNW := hid (show ∀ g, (Value.slice aN nodes.length cN).ownBlock = some g → ¬ (g = wb ∨ g = n1b ∨ g = n2b) from fun g e c => by
    rcases c with c | c | c
    · subst c; exact own_not_row hN h.row (by decide) e
    · subst c; exact own_not_row hN hr1 (by decide) e
    · subst c; exact own_not_row hN hr2 (by decide) e)
  have HBW1 := hid (show ∀ g, (Value.slice a1 b1.length c1).ownBlock = some g → ¬ (g = wb ∨ g = n1b ∨ g = n2b) from fun g e c => by
    rcases c with c | c | c
    · subst c; exact own_not_row hb1 h.row (by decide) e
    · subst c; exact own_not_row hb1 hr1 (by decide) e
    · subst c; exact own_not_row hb1 hr2 (by decide) e)
  have HBW2 := hid (show ∀ g, (Value.slice a4 b2.length c4).ownBlock = some g → ¬ (g = wb ∨ g = n1b ∨ g = n2b) from fun g e c => by
    rcases c with c | c | c
    · subst c; exact own_not_row hb2 h.row (by decide) e
    · subst c; exact own_not_row hb2 hr1 (by decide) e
    · subst c; exact own_not_row hb2 hr2 (by decide) e)
  have HNS := hid hNs
  have HNO := hid hnd
  have HB9 := hid hb19
  have HB8 := hid hb29
  have HN := hid hN
  have HB1 := hid hb1
  have HB2 := hid hb2
  have HT := hid htab
  clear hW2 HR1 HR2 HG1 HD1 HE hr1 hr2 k2 f2 k2a f2a dd0 hmk hN hb1 hb2 htab h hNs hnd hb19 hb29
  go_loopw [27] (fun c wr => ∃ (i : Nat) (vt1 : Value), i ≤ nodes.length ∧ c = .int .i64 i ∧ NdAt B wb n1b n2b (w.heap.size + 1) (w.heap.size + 2) nodes.length (.slice a1 b1.length c1, .slice a3 n3 c3) (.slice a4 b2.length c4, .slice a6 n6 c6) bs (Cl.nodesN nodes b1 b2 ⟨vars, ct, fun _ => 0, fun _ => 0, []⟩ i) vt1 w wr) (fun c _ => nodes.length - (intOf c).toNat)
  case atStart => exact ⟨0, vt, Nat.zero_le _, rfl, HI.out⟩
  case round =>
    clear HI
    obtain ⟨i, vt1, hi, rfl, hnd⟩ := hrel
    have hiI : (i : Int) ≤ 400000 := by omega
    have hB : B ≤ wr.heap.size := by have := hnd.bel.size; omega
    by_cases hlt : i < nodes.length
    · have HND := hid hnd
      have zr := hnd.bel.size
      have hgN : ∃ gN cN', aN = some ⟨gN, 0, none⟩ ∧ cN = cN' := by
        obtain ⟨g, c, e, _⟩ := HN.out.form (by omega)
        cases e
        exact ⟨_, _, rfl, rfl⟩
      obtain ⟨gN, cN', rfl, rfl⟩ := hgN
      have hnl := (HN.out.lt gN rfl).2
      have ON := hnd.kp.own HN.out HNW.out (by decide)
      have d0 : wr.cell? ⟨gN, i * 4, none⟩ = some (.int .i64 (Dg.ndAt nodes i).bit) := nd_at ON i hlt 0 (by omega)
      have d1 : wr.cell? ⟨gN, i * 4 + 1, none⟩ = some (.int .i64 (Dg.ndAt nodes i).lo) := nd_at ON i hlt 1 (by omega)
      have d2 : wr.cell? ⟨gN, i * 4 + 2, none⟩ = some (.int .i64 (Dg.ndAt nodes i).hi) := nd_at ON i hlt 2 (by omega)
      have d3 : wr.cell? ⟨gN, i * 4 + 3, none⟩ = some (.bool (Dg.ndAt nodes i).sec) := nd_at ON i hlt 3 (by omega)
      have hlI : (i : Int) < (nodes.length : Int) := by omega
      clear ON hnd
      by_cases h2 : i < 2
      · have HX := hid (show Cl.nodesN nodes b1 b2 ⟨vars, ct, fun _ => 0, fun _ => 0, []⟩ (i + 1) = Cl.nodesN nodes b1 b2 ⟨vars, ct, fun _ => 0, fun _ => 0, []⟩ i from if_pos h2)
        by_cases h0 : i = 0
        · have e0 : ((i : Int) == 0) = true := by simp; omega
          clear h0 h2
          go_wp2_with fail
          go_roundw
          case rel => exact ⟨i + 1, vt1, by omega, by go_num, by rw [HX.out]; exact HND.out.alloc hB _⟩
          case measure => simp [intOf]; omega
        · have e0 : ((i : Int) == 0) = false := by simp; omega
          have e1 : ((i : Int) == 1) = true := by simp; omega
          clear h0 h2
          go_wp2_with fail
          go_roundw
          case rel => exact ⟨i + 1, vt1, by omega, by go_num, by rw [HX.out]; exact HND.out.alloc hB _⟩
          case measure => simp [intOf]; omega
      · have HX := hid (show Cl.nodesN nodes b1 b2 ⟨vars, ct, fun _ => 0, fun _ => 0, []⟩ (i + 1) = Cl.stepN nodes.length b1 b2 (Dg.ndAt nodes i) i (Cl.nodesN nodes b1 b2 ⟨vars, ct, fun _ => 0, fun _ => 0, []⟩ i) from if_neg h2)
        have nok := HNS.out i hi
        obtain ⟨hlo, hhi, hbt1, hbt2⟩ := HNO.out i (by omega) hlt
        generalize Cl.nodesN nodes b1 b2 ⟨vars, ct, fun _ => 0, fun _ => 0, []⟩ i = X at HND HX nok
        generalize Dg.ndAt nodes i = d at d0 d1 d2 d3 HX hlo hhi hbt1 hbt2
        obtain ⟨bit, lo, hg, sec⟩ := d
        dsimp only at d0 d1 d2 d3 hlo hhi hbt1 hbt2
        have e0 : ((i : Int) == 0) = false := by simp; omega
        have e1 : ((i : Int) == 1) = false := by simp; omega
        have hXv := nok.vars
        have hXb := nok.bs
        have NOK := hid nok
        have hXvI : (X.vars : Int) ≤ 1000000 := by omega
        clear nok h2
        go_upto_region 7 with fail
        obtain ⟨W3, hW3⟩ : ∃ W3 : World, wr.alloc (.cells #[.int .i64 bit, .int .i64 lo, .int .i64 hg, .bool sec] 160) = W3 := ⟨_, rfl⟩
        rw [hW3]
        have HND3 := hid (show NdAt B wb n1b n2b (w.heap.size + 1) (w.heap.size + 2) nodes.length (.slice a1 b1.length c1, .slice a3 n3 c3) (.slice a4 b2.length c4, .slice a6 n6 c6) bs X vt1 w W3 by rw [← hW3]; exact HND.out.alloc hB _)
        have HBX3 := hid (show W3.rowIs wr.heap.size 160 4 (nodec bit lo hg sec) by rw [← hW3]; exact node_new wr bit lo hg sec)
        have hz3 : W3.heap.size = wr.heap.size + 1 := by rw [← hW3]; simp
        have p0 := HND3.out.c0
        have pf := HND3.out.wr.row.frozen 0
        clear hW3 d0 d1 d2 d3
        go_upto_region 8 with fail
        obtain ⟨W4, hW4⟩ : ∃ W4 : World, W3.setCell ⟨wb, 0, none⟩ (.int .i64 ((X.vars : Int) + 1)) = W4 := ⟨_, rfl⟩
        rw [hW4]
        have HND4 := hid (show NdAt B wb n1b n2b (w.heap.size + 1) (w.heap.size + 2) nodes.length (.slice a1 b1.length c1, .slice a3 n3 c3) (.slice a4 b2.length c4, .slice a6 n6 c6) bs { X with vars := X.vars + 1 } vt1 w W4 by rw [← hW4]; exact HND3.out.var (X.vars + 1))
        have HBX4 := hid (show W4.rowIs wr.heap.size 160 4 (nodec bit lo hg sec) by rw [← hW4]; exact HBX3.out.setOther (row_ne HBX3.out HND3.out.wr.row (by decide)) _)
        have hz4 : W4.heap.size = wr.heap.size + 1 := by rw [← hW4]; simp; exact hz3
        have q0 := HND4.out.c0
        dsimp only at q0
        have q1 := HND4.out.r1.cell (i := 1) (by omega)
        have qt := HND4.out.t1.cell (i := i) hlt
        have qf := HND4.out.t1.frozen i
        dsimp only at q1 qt
        rw [if_neg (by decide), if_pos rfl] at q1
        clear hW4 p0 pf HND3 HBX3
        go_region
        all_goals go_upto_region 9 with fail
        obtain ⟨W5, hW5⟩ : ∃ W5 : World, (W4.setCell ⟨w.heap.size + 1, i, none⟩ (.int .i64 ((X.vars : Int) + 1))).drew = W5 := ⟨_, rfl⟩
        rw [hW5]
        have HND5 := hid (show NdAt B wb n1b n2b (w.heap.size + 1) (w.heap.size + 2) nodes.length (.slice a1 b1.length c1, .slice a3 n3 c3) (.slice a4 b2.length c4, .slice a6 n6 c6) bs { X with vars := X.vars + 1, f1 := Lk.upd X.f1 i (X.vars + 1) } vt1 w W5 by rw [← hW5]; exact (HND4.out.set1 hBw i (X.vars + 1)).drew)
        have HBX5 := hid (show W5.rowIs wr.heap.size 160 4 (nodec bit lo hg sec) by rw [← hW5]; exact (HBX4.out.setOther (row_ne HBX4.out HND4.out.t1 (by decide)) _).drew)
        have hz5 : W5.heap.size = wr.heap.size + 1 := by rw [← hW5]; simp; exact hz4
        clear hW5 q0 q1 qt qf HND4 HBX4
        have NOK1 := hid (Cl.one_ok (L := nodes.length) (d := ⟨bit, lo, hg, sec⟩) (i := i) NOK.out (by omega) HB9.out)
        have HC := hid (show Calls Tryz.prog 78 #[.pointer (some ⟨wb, 0, none⟩), .int .i64 ((X.vars : Int) + 1), .agg #[.int .i64 bit, .int .i64 lo, .int .i64 hg, .bool sec], .agg #[.slice a1 b1.length c1, .slice (some ⟨w.heap.size + 1, 0, none⟩) nodes.length nodes.length, .slice a3 n3 c3]] W5.drew (fun e w' => e = .returned (.tuple #[]) ∧ ∃ vt', NdAt B wb n1b n2b (w.heap.size + 1) (w.heap.size + 2) nodes.length (.slice a1 b1.length c1, .slice a3 n3 c3) (.slice a4 b2.length c4, .slice a6 n6 c6) bs (Cl.one nodes.length b1 ⟨bit, lo, hg, sec⟩ i X) vt' w w' ∧ w'.rowIs wr.heap.size 160 4 (nodec bit lo hg sec) ∧ W5.heap.size ≤ w'.heap.size) by
          have hn := HND5.out.drew
          have c := wnode_any hn.wr (by show B ≤ W5.heap.size; omega) ((X.vars + 1 : Nat) : Int) ⟨by omega, by omega⟩ bit lo hg sec a1 (some ⟨w.heap.size + 1, 0, none⟩) a3 c1 nodes.length n3 c3 b1 (Cl.tab nodes.length (Lk.upd X.f1 i (X.vars + 1))) (hn.kp.own HB1.out HBW1.out (by decide)) (row_tab hL hn.t1) hbt1 (by rw [Cl.tab_len]; omega) (by rw [Cl.tab_len]; omega) (Cl.tab_le _ _ _ (fun j => Nat.le_trans (NOK1.out.f1 j) (Nat.le_trans NOK1.out.vars (by omega)))) (HB9.out _) (by rw [Cl.tab_len]; omega) (by omega) (by rw [List.length_append]; show bs.length + X.bs.length ≤ _; omega) (HT.out.on hn.bel)
          rw [Cl.tab_len] at c
          refine c.mono ?_
          rintro e w' ⟨rfl, vt', h1, f1⟩
          refine ⟨rfl, vt', ?_, row_kept HBX5.out.drew f1.2 (by simp; exact row_ne HBX5.out hn.wr.row (by decide)) (by decide), f1.1.size⟩
          exact hn.wrote h1 f1)
        have p0 := HND5.out.c0
        have p1 := HND5.out.r1.cell (i := 0) (by omega)
        have p2 := HND5.out.r1.cell (i := 1) (by omega)
        have p3 := HND5.out.r1.cell (i := 2) (by omega)
        have n0 := HBX5.out.cell (i := 0) (by omega)
        have n1 := HBX5.out.cell (i := 1) (by omega)
        have n2 := HBX5.out.cell (i := 2) (by omega)
        have n3' := HBX5.out.cell (i := 3) (by omega)
        dsimp only [nodec] at p0 p1 p2 p3 n0 n1 n2 n3'
        go_wp2_with fail
        go_cut [] (fun wc => ∃ vt6, NdAt B wb n1b n2b (w.heap.size + 1) (w.heap.size + 2) nodes.length (.slice a1 b1.length c1, .slice a3 n3 c3) (.slice a4 b2.length c4, .slice a6 n6 c6) bs (Cl.one nodes.length b1 ⟨bit, lo, hg, sec⟩ i X) vt6 w wc ∧ wc.rowIs wr.heap.size 160 4 (nodec bit lo hg sec) ∧ W5.heap.size ≤ wc.heap.size)
        case first =>
          go_region_with (go_at_call 78; refine HC.out.mono ?_; rintro e w6 ⟨rfl, vt6, hn6, hb6, hz6⟩)
          all_goals
            go_wp2_with fail
            go_meet
            exact ⟨vt6, hn6, hb6, hz6⟩
        case rest =>
          obtain ⟨vt6, hn6, hb6, hz6⟩ := hcut
          clear HC p0 p1 p2 p3 n0 n1 n2 n3' HND5 HBX5
          have HND6 := hid hn6
          have HBX6 := hid hb6
          have m3 := hb6.cell (i := 3) (by omega)
          dsimp only [nodec] at m3
          have HXS := hid (show Cl.stepN nodes.length b1 b2 ⟨bit, lo, hg, sec⟩ i X = { (Cl.two nodes.length b2 ⟨bit, lo, hg, sec⟩ (Cl.one nodes.length b1 ⟨bit, lo, hg, sec⟩ i X)) with f2 := Lk.upd (Cl.two nodes.length b2 ⟨bit, lo, hg, sec⟩ (Cl.one nodes.length b1 ⟨bit, lo, hg, sec⟩ i X)).f2 i (Cl.two nodes.length b2 ⟨bit, lo, hg, sec⟩ (Cl.one nodes.length b1 ⟨bit, lo, hg, sec⟩ i X)).vars } from rfl)
          obtain ⟨Y, hY⟩ : ∃ Y, Cl.one nodes.length b1 ⟨bit, lo, hg, sec⟩ i X = Y := ⟨_, rfl⟩
          rw [hY] at HND6 NOK1 HXS
          clear hY hn6 hb6
          have hYv := NOK1.out.vars
          have hYb := NOK1.out.bs
          have hYvI : (Y.vars : Int) ≤ 1000000 := by omega
          cases sec with
          | false =>
            have HTW := hid (show Cl.two nodes.length b2 ⟨bit, lo, hg, false⟩ Y = Y from if_neg (by simp))
            have q0 := HND6.out.c0
            have q1 := HND6.out.r2.cell (i := 1) (by omega)
            have qt := HND6.out.t2.cell (i := i) hlt
            have qf := HND6.out.t2.frozen i
            dsimp only at q1 qt
            rw [if_neg (by decide), if_pos rfl] at q1
            go_wp2_with fail
            go_region
            all_goals go_wp2_with fail
            go_roundw
            case rel =>
              refine ⟨i + 1, vt6, by omega, by go_num, ?_⟩
              rw [HX.out, HXS.out, HTW.out]
              exact (HND6.out.set2 hBw i Y.vars).drew
            case measure => simp [intOf]; omega
          | true =>
            have HTW := hid (show Cl.two nodes.length b2 ⟨bit, lo, hg, true⟩ Y = { Y with vars := Y.vars + 1, ct := Y.ct + (sameC lo + sameC hg), bs := Y.bs ++ nodeB b2 (Cl.tab nodes.length Y.f2) ((Y.vars + 1 : Nat) : Int) bit lo hg } from if_pos rfl)
            have q0 := HND6.out.c0
            have pf := HND6.out.wr.row.frozen 0
            go_upto_region 12 with fail
            obtain ⟨W7, hW7⟩ : ∃ W7 : World, wc.setCell ⟨wb, 0, none⟩ (.int .i64 ((Y.vars : Int) + 1)) = W7 := ⟨_, rfl⟩
            rw [hW7]
            have HND7 := hid (show NdAt B wb n1b n2b (w.heap.size + 1) (w.heap.size + 2) nodes.length (.slice a1 b1.length c1, .slice a3 n3 c3) (.slice a4 b2.length c4, .slice a6 n6 c6) bs { Y with vars := Y.vars + 1 } vt6 w W7 by rw [← hW7]; exact HND6.out.var (Y.vars + 1))
            have HBX7 := hid (show W7.rowIs wr.heap.size 160 4 (nodec bit lo hg true) by rw [← hW7]; exact HBX6.out.setOther (row_ne HBX6.out HND6.out.wr.row (by decide)) _)
            have hz7 : B ≤ W7.heap.size := by rw [← hW7]; simp; omega
            clear hW7 q0 pf HND6 HBX6 m3
            have HC := hid (show Calls Tryz.prog 78 #[.pointer (some ⟨wb, 0, none⟩), .int .i64 ((Y.vars : Int) + 1), .agg #[.int .i64 bit, .int .i64 lo, .int .i64 hg, .bool true], .agg #[.slice a4 b2.length c4, .slice (some ⟨w.heap.size + 2, 0, none⟩) nodes.length nodes.length, .slice a6 n6 c6]] W7.drew (fun e w' => e = .returned (.tuple #[]) ∧ ∃ vt', NdAt B wb n1b n2b (w.heap.size + 1) (w.heap.size + 2) nodes.length (.slice a1 b1.length c1, .slice a3 n3 c3) (.slice a4 b2.length c4, .slice a6 n6 c6) bs (Cl.two nodes.length b2 ⟨bit, lo, hg, true⟩ Y) vt' w w') by
              have hn := HND7.out.drew
              have c := wnode_any hn.wr (by show B ≤ W7.heap.size; omega) ((Y.vars + 1 : Nat) : Int) ⟨by omega, by omega⟩ bit lo hg true a4 (some ⟨w.heap.size + 2, 0, none⟩) a6 c4 nodes.length n6 c6 b2 (Cl.tab nodes.length Y.f2) (hn.kp.own HB2.out HBW2.out (by decide)) (row_tab hL hn.t2) hbt2 (by rw [Cl.tab_len]; omega) (by rw [Cl.tab_len]; omega) (Cl.tab_le _ _ _ (fun j => Nat.le_trans (NOK1.out.f2 j) (Nat.le_trans NOK1.out.vars (by omega)))) (HB8.out _) (by rw [Cl.tab_len]; omega) (by omega) (by rw [List.length_append]; show bs.length + Y.bs.length ≤ _; omega) (HT.out.on hn.bel)
              rw [Cl.tab_len] at c
              refine c.mono ?_
              rintro e w' ⟨rfl, vt', h1, f1⟩
              refine ⟨rfl, vt', ?_⟩
              rw [HTW.out]
              exact hn.wrote h1 f1)
            have p0 := HND7.out.c0
            have p1 := HND7.out.r2.cell (i := 0) (by omega)
            have p2 := HND7.out.r2.cell (i := 1) (by omega)
            have p3 := HND7.out.r2.cell (i := 2) (by omega)
            have n0 := HBX7.out.cell (i := 0) (by omega)
            have n1 := HBX7.out.cell (i := 1) (by omega)
            have n2 := HBX7.out.cell (i := 2) (by omega)
            have n3' := HBX7.out.cell (i := 3) (by omega)
            dsimp only [nodec] at p0 p1 p2 p3 n0 n1 n2 n3'
            go_wp2_with fail
            go_cut [] (fun wc => ∃ vt7, NdAt B wb n1b n2b (w.heap.size + 1) (w.heap.size + 2) nodes.length (.slice a1 b1.length c1, .slice a3 n3 c3) (.slice a4 b2.length c4, .slice a6 n6 c6) bs (Cl.two nodes.length b2 ⟨bit, lo, hg, true⟩ Y) vt7 w wc)
            case first =>
              go_region_with (go_at_call 78; refine HC.out.mono ?_; rintro e w8 ⟨rfl, vt7, hn7⟩)
              all_goals
                go_wp2_with fail
                go_meet
                exact ⟨vt7, hn7⟩
            case rest =>
              obtain ⟨vt7, hn7⟩ := hcut
              clear HC p0 p1 p2 p3 n0 n1 n2 n3' HND7 HBX7
              have HND8 := hid hn7
              obtain ⟨Z, hZ⟩ : ∃ Z, Cl.two nodes.length b2 ⟨bit, lo, hg, true⟩ Y = Z := ⟨_, rfl⟩
              rw [hZ] at HND8 HXS
              clear hZ hn7 HTW
              have q0 := HND8.out.c0
              have q1 := HND8.out.r2.cell (i := 1) (by omega)
              have qt := HND8.out.t2.cell (i := i) hlt
              have qf := HND8.out.t2.frozen i
              dsimp only at q1 qt
              rw [if_neg (by decide), if_pos rfl] at q1
              go_wp2_with fail
              go_region
              all_goals go_wp2_with fail
              go_roundw
              case rel =>
                refine ⟨i + 1, vt7, by omega, by go_num, ?_⟩
                rw [HX.out, HXS.out]
                exact (HND8.out.set2 hBw i Z.vars).drew
              case measure => simp [intOf]; omega
    · have hie : nodes.length = i := by omega
      have HIE := hid hie
      have HND := hid hnd
      clear hie hnd
      go_wp2_with fail
      go_end0
      exact ⟨rfl, vt1, _, _, by rw [HIE.out]; exact HIE.out ▸ HND.out⟩
end
end Go.Proofs.YtgddmpmcnjlcjabGreatDoor
