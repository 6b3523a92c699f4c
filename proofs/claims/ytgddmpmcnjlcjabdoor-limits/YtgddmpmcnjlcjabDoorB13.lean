import Derived.Test.YtgddmpmcnjlcjabDoorB12
import Derived.Deep.QuietTactic
import Derived.BigQuiet
import Derived.Deep.RegionLaw
import Derived.Deep.DeepCutAuto
namespace Go.Proofs.YtgddmpmcnjlcjabDoor
open Go.RowKit
set_option linter.unusedVariables false
namespace Dg
theorem flat_len (l : List Nd) : (l.flatMap Nd.cells).length = l.length * 4 := by
  induction l with
  | nil => rfl
  | cons a l ih => rw [List.flatMap_cons, List.length_append, ih, List.length_cons]; simp [Nd.cells]; omega
theorem flat_get (l : List Nd) : ∀ (i j : Nat), i < l.length → j < 4 → (l.flatMap Nd.cells)[i * 4 + j]? = (ndAt l i).cells[j]? := by
  induction l with
  | nil => intro i j h; exact absurd h (by simp)
  | cons a l ih =>
    intro i j h hj
    rw [List.flatMap_cons]
    cases i with
    | zero => rw [List.getElem?_append_left (by simp [Nd.cells]; omega)]; simp [ndAt]
    | succ i =>
      rw [List.getElem?_append_right (by simp [Nd.cells]; omega), show a.cells.length = 4 from rfl, show (i + 1) * 4 + j - 4 = i * 4 + j by omega, ih i j (by simpa using h) hj]
      simp [ndAt]
end Dg
def MkFr (mb gh gr : Nat) (vN vB vN' vB' : Value) (w w' : World) : Prop :=
  Frm 0 (fun k => k = mb ∨ k = gh ∨ k = gr ∨ vN.ownBlock = some k ∨ vB.ownBlock = some k) w w' ∧ (∀ k, vN'.ownBlock = some k → k < w.heap.size → vN.ownBlock = some k) ∧ (∀ k, vB'.ownBlock = some k → k < w.heap.size → vB.ownBlock = some k)
theorem MkFr.refl (mb gh gr : Nat) (vN vB : Value) (w : World) : MkFr mb gh gr vN vB vN vB w w := ⟨Frm.refl _ _ _, fun _ h _ => h, fun _ h _ => h⟩
theorem MkFr.trans {mb gh gr : Nat} {vN vB vN' vB' vN2 vB2 : Value} {a b c : World} (h : MkFr mb gh gr vN vB vN' vB' a b) (k : MkFr mb gh gr vN' vB' vN2 vB2 b c) : MkFr mb gh gr vN vB vN2 vB2 a c :=
  ⟨h.1.trans k.1 (fun q hq t => by
      rcases t with t | t | t | t | t
      · exact .inl t
      · exact .inr (.inl t)
      · exact .inr (.inr (.inl t))
      · exact .inr (.inr (.inr (.inl (h.2.1 q t hq))))
      · exact .inr (.inr (.inr (.inr (h.2.2 q t hq))))), fun q e hq => h.2.1 q (k.2.1 q e (Nat.lt_of_lt_of_le hq h.1.bel.size)) hq, fun q e hq => h.2.2 q (k.2.2 q e (Nat.lt_of_lt_of_le hq h.1.bel.size)) hq⟩
theorem MkFr.drew {mb gh gr : Nat} {vN vB vN' vB' : Value} {a b : World} (h : MkFr mb gh gr vN vB vN' vB' a b) : MkFr mb gh gr vN vB vN' vB' a b.drew := ⟨h.1.drew, h.2.1, h.2.2⟩
section
variable {w0 w : World} {mb gh gr M : Nat} {s : Dg.St} {r : Nat → Nat} {pv : Nat → Value} {vN vB : Value}
theorem MkAt.ndc {gN cN : Nat} (h : MkAt w0 mb gh gr M s r pv (sl gN s.nodes.length cN) vB w) (i : Nat) (hi : i < s.nodes.length) (j : Nat) (hj : j < 4) : w.cell? ⟨gN, i * 4 + j, none⟩ = (Dg.ndAt s.nodes i).cells[j]? := (h.nodes.cellAt (i * 4 + j) (by omega)).trans (Dg.flat_get _ i j hi hj)
theorem MkAt.bhc {gB cB : Nat} (h : MkAt w0 mb gh gr M s r pv vN (sl gB s.behind.length cB) w) (i : Nat) (hi : i < s.behind.length) : w.cell? ⟨gB, i, none⟩ = some (.int .i64 (s.behind.getD i 0)) := nums_at h.behind i hi
theorem MkAt.c5 (h : MkAt w0 mb gh gr M s r pv vN vB w) : w.cell? ⟨mb, 5, none⟩ = some vN := h.row.cell (i := 5) (by omega)
theorem MkAt.c6 (h : MkAt w0 mb gh gr M s r pv vN vB w) : w.cell? ⟨mb, 6, none⟩ = some (sl gh M M) := h.row.cell (i := 6) (by omega)
theorem MkAt.c7 (h : MkAt w0 mb gh gr M s r pv vN vB w) : w.cell? ⟨mb, 7, none⟩ = some vB := h.row.cell (i := 7) (by omega)
theorem MkAt.c8 (h : MkAt w0 mb gh gr M s r pv vN vB w) : w.cell? ⟨mb, 8, none⟩ = some (sl gr M M) := h.row.cell (i := 8) (by omega)
theorem own_ne_own {base base' n m sz sz' : Nat} {t e : TypeId} {v u : Value} {xs ys : List Value} (h : w.ownsRow base e sz v n xs) (k : w.ownsRow base' t sz' u m ys) (ht : t ≠ e) (g : Nat) (hv : v.ownBlock = some g) : u.ownBlock ≠ some g := by
  intro hu
  rcases h.2 with ⟨e1, _⟩ | ⟨g1, cap, cur, rfl, _, hg1, _⟩
  · rw [e1] at hv; simp [Value.ownBlock] at hv
  · rcases k.2 with ⟨e2, _⟩ | ⟨g2, cap2, cur2, rfl, _, hg2, _⟩
    · rw [e2] at hu; simp [Value.ownBlock] at hu
    · have a1 : g1 = g := by simpa [Value.ownBlock] using hv
      have a2 : g2 = g := by simpa [Value.ownBlock] using hu
      subst a1
      subst a2
      rw [hg1] at hg2
      cases hg2
      exact ht rfl
theorem mkc_set (pv : Nat → Value) (vN vH vB vR u : Value) (i : Nat) (hi : i < 9) : (if i = 5 then u else mkc pv vN vH vB vR i) = mkc pv u vH vB vR i := by
  unfold mkc
  by_cases c : i = 5
  · subst c; rfl
  · rw [if_neg c]
    by_cases c2 : i < 5
    · rw [if_pos c2, if_pos c2]
    · rw [if_neg c2, if_neg c2, if_neg c, if_neg c]
theorem mkc_set7 (pv : Nat → Value) (vN vH vB vR u : Value) (i : Nat) (hi : i < 9) : (if i = 7 then u else mkc pv vN vH vB vR i) = mkc pv vN vH u vR i := by
  unfold mkc
  by_cases c : i = 7
  · subst c; rfl
  · rw [if_neg c]
    by_cases c2 : i < 5
    · rw [if_pos c2, if_pos c2]
    · rw [if_neg c2, if_neg c2]
      by_cases c3 : i = 5
      · rw [if_pos c3, if_pos c3]
      · rw [if_neg c3, if_neg c3]
        by_cases c4 : i = 6
        · rw [if_pos c4, if_pos c4]
        · rw [if_neg c4, if_neg c4, if_neg c, if_neg c]
theorem MkAt.growN (h : MkAt w0 mb gh gr M s r pv vN vB w) (o : Obj) {w1 : World} {vN' : Value} (d : Dg.Nd) (hown : w1.ownsRow w0.heap.size 139 4 vN' (s.nodes.length + 1) (s.nodes.flatMap Dg.Nd.cells ++ d.cells)) (hg : (w.alloc o).grownBy w1 vN.ownBlock) :
    MkAt w0 mb gh gr M { s with nodes := s.nodes ++ [d] } r pv vN' vB (w1.setCell ⟨mb, 5, none⟩ vN') := by
  have h2 := h.alloc o
  have z : w0.heap.size ≤ (w.alloc o).heap.size := h2.bel.size
  have row1 := rowIs_grown h2.row hg (own_ne_row h2.nodes h2.row (by decide))
  refine ⟨(row1.set 5 vN').congr (fun i hi => mkc_set _ _ _ _ _ _ i hi), ?_, ?_, ?_, ?_, h.bm, h.bh, h.br, h.nhr, h.nbh, h.nbr, ?_⟩
  · have e1 : (s.nodes ++ [d]).length = s.nodes.length + 1 := by simp
    have e2 : (s.nodes ++ [d]).flatMap Dg.Nd.cells = s.nodes.flatMap Dg.Nd.cells ++ d.cells := by simp
    show World.ownsRow _ _ _ _ _ (s.nodes ++ [d]).length ((s.nodes ++ [d]).flatMap Dg.Nd.cells)
    rw [e1, e2]
    exact ownsRow_setCell hown (own_ne_row hown row1 (by decide)) _
  · refine ownsRow_setCell (ownsRow_blk h2.behind (fun k e => hg.block k (h2.behind.lt k e).2 (fun e2 => own_ne_own h2.nodes h2.behind (by decide) k e2.symm e))) ?_ _
    exact own_ne_row h2.behind h2.row (by decide)
  · exact (rowIs_grown h2.heads hg (own_ne_row h2.nodes h2.heads (by decide))).setOther (fun e => row_ne h2.row h2.heads (by decide) e.symm) _
  · exact (rowIs_grown h2.rows hg (own_ne_row h2.nodes h2.rows (by decide))).setOther (fun e => row_ne h2.row h2.rows (by decide) e.symm) _
  · exact (h2.bel.grown hg z (fun k e => (h.nodes.lt k e).1)).setCell h.bm _
theorem MkAt.growB (h : MkAt w0 mb gh gr M s r pv vN vB w) (o : Obj) {w1 : World} {g' cap' : Nat} (x : Nat) (hown : w1.ownsRow w0.heap.size 3 1 (sl g' (s.behind.length + 1) cap') (s.behind.length + 1) ((s.behind.map fun (n : Nat) => .int .i64 n) ++ [.int .i64 x])) (hg : (w.alloc o).grownBy w1 vB.ownBlock) (hat : vB.ownBlock = some g' ∨ g' = w.heap.size + 1) :
    MkAt w0 mb gh gr M { s with behind := s.behind ++ [x] } r pv vN (sl g' (s.behind.length + 1) cap') (w1.setCell ⟨mb, 7, none⟩ (sl g' (s.behind.length + 1) cap')) := by
  have h2 := h.alloc o
  have z : w0.heap.size ≤ (w.alloc o).heap.size := h2.bel.size
  have row1 := rowIs_grown h2.row hg (own_ne_row h2.behind h2.row (by decide))
  have lh := h.heads.lt
  have lr := h.rows.lt
  have ng : ∀ q, q < w.heap.size → vB.ownBlock ≠ some q → (sl g' (s.behind.length + 1) cap').ownBlock ≠ some q := fun q hq hn e => by
    have e : g' = q := by simpa [Value.ownBlock] using e
    rcases hat with c | c
    · exact hn (by rw [c, e])
    · omega
  refine ⟨(row1.set 7 _).congr (fun i hi => mkc_set7 _ _ _ _ _ _ i hi), ?_, ?_, ?_, ?_, h.bm, h.bh, h.br, h.nhr, ng _ lh h.nbh, ng _ lr h.nbr, ?_⟩
  · refine ownsRow_setCell (ownsRow_blk h2.nodes (fun k e => hg.block k (h2.nodes.lt k e).2 (fun e2 => own_ne_own h2.nodes h2.behind (by decide) k e e2.symm))) ?_ _
    exact own_ne_row h2.nodes h2.row (by decide)
  · have e1 : (s.behind ++ [x]).length = s.behind.length + 1 := by simp
    have e2 : ((s.behind ++ [x]).map fun (n : Nat) => (Value.int .i64 n)) = (s.behind.map fun (n : Nat) => .int .i64 n) ++ [.int .i64 x] := by simp
    show World.ownsRow _ _ _ _ _ (s.behind ++ [x]).length ((s.behind ++ [x]).map fun (n : Nat) => (Value.int .i64 n))
    rw [e1, e2]
    exact ownsRow_setCell hown (own_ne_row hown row1 (by decide)) _
  · exact (rowIs_grown h2.heads hg h.nbh).setOther (fun e => row_ne h2.row h2.heads (by decide) e.symm) _
  · exact (rowIs_grown h2.rows hg h.nbr).setOther (fun e => row_ne h2.row h2.rows (by decide) e.symm) _
  · exact (h2.bel.grown hg z (fun k e => (h.behind.lt k e).1)).setCell h.bm _
theorem MkAt.rowN (h : MkAt w0 mb gh gr M s r pv vN vB w) {o : Obj} {w1 : World} (hg : (w.alloc o).grownBy w1 vN.ownBlock) : w1.rowIs mb 98 9 (mkc pv vN (sl gh M M) vB (sl gr M M)) := rowIs_grown (h.alloc o).row hg (own_ne_row (h.alloc o).nodes (h.alloc o).row (by decide))
theorem MkAt.headsN (h : MkAt w0 mb gh gr M s r pv vN vB w) {o : Obj} {w1 : World} (hg : (w.alloc o).grownBy w1 vN.ownBlock) : w1.rowIs gh 3 M (fun i => .int .i64 (s.heads i)) := rowIs_grown (h.alloc o).heads hg (own_ne_row (h.alloc o).nodes (h.alloc o).heads (by decide))
theorem MkAt.rowB (h : MkAt w0 mb gh gr M s r pv vN vB w) {o : Obj} {w1 : World} (hg : (w.alloc o).grownBy w1 vB.ownBlock) : w1.rowIs mb 98 9 (mkc pv vN (sl gh M M) vB (sl gr M M)) := rowIs_grown (h.alloc o).row hg (own_ne_row (h.alloc o).behind (h.alloc o).row (by decide))
theorem MkAt.setHead (h : MkAt w0 mb gh gr M s r pv vN vB w) (i v : Nat) : MkAt w0 mb gh gr M { s with heads := fun j => if j = i then v else s.heads j } r pv vN vB (w.setCell ⟨gh, i, none⟩ (.int .i64 v)) :=
  ⟨h.row.setOther (row_ne h.row h.heads (by decide)) _, ownsRow_setCell h.nodes (own_ne_row h.nodes h.heads (by decide)) _, ownsRow_setCell h.behind h.nbh _, (h.heads.set i _).congr (fun j _ => by by_cases c : j = i <;> simp [c]), h.rows.setOther (fun e => h.nhr e.symm) _, h.bm, h.bh, h.br, h.nhr, h.nbh, h.nbr, h.bel.setCell h.bh _⟩
theorem MkFr.growN {vN' vB' : Value} {a : World} (h : MkFr mb gh gr vN vB vN' vB' a w) (o : Obj) {w1 : World} {g' n' cap' : Nat} (hg : (w.alloc o).grownBy w1 vN'.ownBlock) (hat : vN'.ownBlock = some g' ∨ g' = w.heap.size + 1) : MkFr mb gh gr vN vB (sl g' n' cap') vB' a (w1.setCell ⟨mb, 5, none⟩ (sl g' n' cap')) := by
  have z := h.1.bel.size
  refine ⟨⟨((h.1.bel.alloc (Nat.zero_le _) o).grown hg (Nat.zero_le _) (fun _ _ => Nat.zero_le _)).setCell (Nat.zero_le _) _, fun k hk hs => ?_⟩, fun k e hk => ?_, h.2.2⟩
  · rw [Below.heap_setCell w1 ⟨mb, 5, none⟩ _ k (fun e => hs (.inl e)), hg.block k (by simp; omega) (fun e => hs (.inr (.inr (.inr (.inl (h.2.1 k e.symm hk)))))), Below.heap_alloc w o k (by omega)]
    exact h.1.keep k hk hs
  · have e : g' = k := by simpa [Value.ownBlock] using e
    rcases hat with c | c
    · exact h.2.1 k (by rw [c, e]) hk
    · omega
theorem MkFr.growB {vN' vB' : Value} {a : World} (h : MkFr mb gh gr vN vB vN' vB' a w) (o : Obj) {w1 : World} {g' n' cap' : Nat} (hg : (w.alloc o).grownBy w1 vB'.ownBlock) (hat : vB'.ownBlock = some g' ∨ g' = w.heap.size + 1) : MkFr mb gh gr vN vB vN' (sl g' n' cap') a (w1.setCell ⟨mb, 7, none⟩ (sl g' n' cap')) := by
  have z := h.1.bel.size
  refine ⟨⟨((h.1.bel.alloc (Nat.zero_le _) o).grown hg (Nat.zero_le _) (fun _ _ => Nat.zero_le _)).setCell (Nat.zero_le _) _, fun k hk hs => ?_⟩, h.2.1, fun k e hk => ?_⟩
  · rw [Below.heap_setCell w1 ⟨mb, 7, none⟩ _ k (fun e => hs (.inl e)), hg.block k (by simp; omega) (fun e => hs (.inr (.inr (.inr (.inr (h.2.2 k e.symm hk)))))), Below.heap_alloc w o k (by omega)]
    exact h.1.keep k hk hs
  · have e : g' = k := by simpa [Value.ownBlock] using e
    rcases hat with c | c
    · exact h.2.2 k (by rw [c, e]) hk
    · omega
theorem MkFr.setHead {vN' vB' : Value} {a : World} (h : MkFr mb gh gr vN vB vN' vB' a w) (i : Nat) (u : Value) : MkFr mb gh gr vN vB vN' vB' a (w.setCell ⟨gh, i, none⟩ u) := ⟨h.1.setCell (Nat.zero_le _) (.inr (.inl rfl)) _, h.2.1, h.2.2⟩
theorem MkFr.setRow {vN' vB' : Value} {a : World} (h : MkFr mb gh gr vN vB vN' vB' a w) (i : Nat) (u : Value) : MkFr mb gh gr vN vB vN' vB' a (w.setCell ⟨gr, i, none⟩ u) := ⟨h.1.setCell (Nat.zero_le _) (.inr (.inr (.inl rfl))) _, h.2.1, h.2.2⟩
end
theorem bl_at {w : World} {base : Nat} {e : TypeId} {l : List Bool} {g cap : Nat} (h : w.ownsRow base e 1 (.slice (some ⟨g, 0, none⟩) l.length cap) l.length (l.map Value.bool)) (i : Nat) (hi : i < l.length) : w.cell? ⟨g, i, none⟩ = some (.bool (l.getD i false)) := by
  rw [h.cellAt i (by omega)]; simp [hi]
theorem Tryd.infoNode : (Tryd.prog.info? 139).map (fun i => (i.zero, i.size, i.bytes)) = some (some (.agg #[.int .i64 0, .int .i64 0, .int .i64 0, .bool false]), 4, 32) := by kernel_rfl
section
variable {w0 w : World} {mb gh gr M n : Nat} {s : Dg.St} {r : Nat → Nat} {pv : Nat → Value} {vN vB : Value}
set_option maxRecDepth 100000 in
set_option maxHeartbeats 1000000 in
theorem node_same (h : MkAt w0 mb gh gr M s r pv vN vB w) (b lo : Nat) :
    Calls Tryd.prog 65 #[.pointer (some ⟨mb, 0, none⟩), .int .i64 b, .int .i64 lo, .int .i64 lo] w fun e w' => e = .returned (.int .i64 lo) ∧ w' = w := by
  go_enter Tryd.func65, Tryd.ntmps65
  go_wp2_with fail
  go_ret
  exact ⟨rfl, rfl⟩
set_option maxRecDepth 100000 in
set_option maxHeartbeats 20000000 in
theorem node_diff (h : MkAt w0 mb gh gr M s r pv vN vB w) (ok : Dg.Ok n M s) (hM0 : 0 < M) (hM : M ≤ 4096) (sec : List Bool) (hn : n = sec.length) (hn3 : n ≤ 3) (hs : w0.ownsRow 0 4 1 (pv 0) sec.length (sec.map Value.bool)) (hN : s.nodes.length ≤ 400000) (b lo hi : Nat) (hb : b < 4 * n) (hlo : lo < s.nodes.length) (hhi : hi < s.nodes.length) (hne : lo ≠ hi) :
    Calls Tryd.prog 65 #[.pointer (some ⟨mb, 0, none⟩), .int .i64 b, .int .i64 lo, .int .i64 hi] w fun e w' => e = .returned (.int .i64 (Dg.nodeOf sec M s b lo hi).1) ∧ ∃ vN' vB', MkAt w0 mb gh gr M (Dg.nodeOf sec M s b lo hi).2 r pv vN' vB' w' ∧ MkFr mb gh gr vN vB vN' vB' w w' := by
  have H := hid h
  have OK := hid ok
  have c5 := h.c5
  have c6 := h.c6
  have c7 := h.c7
  obtain ⟨C, hC⟩ : ∃ C, Dg.chain M b lo hi = C := ⟨_, rfl⟩
  have hCM : C < M := by rw [← hC]; exact Nat.mod_lt _ hM0
  have hCI : ((b : Int) + lo * 7919 + hi * 104729) % (M : Int) = (C : Int) := by rw [← hC]; unfold Dg.chain; simp only [Int.natCast_emod, Int.natCast_add, Int.natCast_mul]; rfl
  have hd := h.heads.cell hCM
  have hhC := ok.heads C
  obtain ⟨gN, cN, hvN, _, hgN⟩ := h.nodes.form (by have := ok.two; omega)
  subst hvN
  obtain ⟨gB, cB, hvB, _, hgB⟩ := h.behind.form (by have := ok.two; have := ok.len; omega)
  subst hvB
  have hneI : ((lo : Int) == (hi : Int)) = false := by simp; omega
  have hM0I : ((M : Int) == 0) = false := by simp; omega
  have hMI : (M : Int) ≤ 4096 := by omega
  have hbI : (b : Int) < 12 := by omega
  have hloI : (lo : Int) ≤ 400000 := by omega
  have hhiI : (hi : Int) ≤ 400000 := by omega
  clear h ok
  go_enter Tryd.func65, Tryd.ntmps65
  go_wp2_with fail
  rw [hCI]
  clear hCI
  obtain ⟨R, hR⟩ : ∃ R, Dg.found M s b lo hi = R := ⟨_, rfl⟩
  have HRW := hid hR
  have HCE := hid hC
  have HHC := hid hhC
  have h0L : 0 < s.nodes.length := by have := OK.out.two; omega
  have hLk : Dg.look s.nodes s.behind b lo hi s.nodes.length (s.heads C) = R := by rw [← hR, ← hC]; rfl
  have HLK := hid hLk
  clear hR hC hLk hhC
  go_loopw [10] (fun v wr => ∃ m f : Nat, v = .int .i64 m ∧ m < s.nodes.length ∧ m ≤ f ∧ Dg.look s.nodes s.behind b lo hi f m = R ∧ wr = w) (fun v _ => (intOf v).toNat)
  case atStart => exact ⟨s.heads C, s.nodes.length, rfl, HHC.out, Nat.le_of_lt HHC.out, HLK.out, rfl⟩
  case round =>
    obtain ⟨m, f, rfl, hm, hmf, hlk, hw⟩ := hrel
    have hw2 := hw.symm
    clear hw
    subst hw2
    have hmI : (m : Int) ≤ 400000 := by omega
    by_cases hm0 : m = 0
    · subst hm0
      have hR0 : R = 0 := by rw [← hlk]; cases f <;> simp [Dg.look]
      have HNO := hid (show Dg.nodeOf sec M s b lo hi = (s.nodes.length, Dg.push sec M s b lo hi) by
        unfold Dg.nodeOf
        rw [if_neg hne, if_neg (by rw [HRW.out, hR0]; simp)])
      have s0 : w.cell? ⟨mb, 0, none⟩ = some (pv 0) := H.out.row.cell (i := 0) (by omega)
      obtain ⟨gS, cS, hvS, _, hgS⟩ := hs.form (by omega)
      have HVS := hid hvS
      rw [hvS] at s0 hs
      have hb3 : b / 4 < sec.length := by omega
      have sc := (H.out.bel.cell (p := ⟨gS, b / 4, none⟩) hgS).trans (bl_at hs (b / 4) hb3)
      have l3 : w.cell? ⟨gN, lo * 4 + 3, none⟩ = some (.bool (Dg.ndAt s.nodes lo).sec) := H.out.ndc lo hlo 3 (by omega)
      have h3 : w.cell? ⟨gN, hi * 4 + 3, none⟩ = some (.bool (Dg.ndAt s.nodes hi).sec) := H.out.ndc hi hhi 3 (by omega)
      obtain ⟨X, hX⟩ : ∃ X, (sec.getD (b / 4) false || (Dg.ndAt s.nodes lo).sec || (Dg.ndAt s.nodes hi).sec) = X := ⟨_, rfl⟩
      have HND := hid (show Dg.newNd sec s b lo hi = ⟨b, lo, hi, X⟩ by unfold Dg.newNd; rw [hX])
      obtain ⟨B1, e1⟩ : ∃ B, sec.getD (b / 4) false = B := ⟨_, rfl⟩
      obtain ⟨B2, e2⟩ : ∃ B, (Dg.ndAt s.nodes lo).sec = B := ⟨_, rfl⟩
      obtain ⟨B3, e3⟩ : ∃ B, (Dg.ndAt s.nodes hi).sec = B := ⟨_, rfl⟩
      rw [e1, e2, e3] at hX
      rw [e1] at sc
      rw [e2] at l3
      rw [e3] at h3
      have hb3I : (b : Int) / 4 < (sec.length : Int) := by omega
      have hloL : (lo : Int) < (s.nodes.length : Int) := by omega
      have hhiL : (hi : Int) < (s.nodes.length : Int) := by omega
      have hLI : (s.nodes.length : Int) ≤ 400000 := by omega
      have hBL := OK.out.len
      have hBI : (s.behind.length : Int) ≤ 400000 := by omega
      have hBn : s.behind.length ≤ 400000 := by omega
      have HBL := hid hBL
      have hCI2 : (C : Int) < (M : Int) := by omega
      obtain ⟨t0, ht0, hz0, hz1, hz2⟩ := info_parts Tryd.infoNode
      obtain ⟨u0, hu0, y0, y1, y2⟩ := info_parts Tryd.infoInt
      have zb := H.out.bel.size
      have hNf := H.out.nodes
      have HNf := hid hNf
      clear hR0 hlk hm hmf hmI e1 e2 e3 hBL hNf hs hvS hn hb3 hM0I hneI hne
      have HX := hid hX
      clear hX
      go_upto_region 9 with fail
      go_cut [11] (fun v wc => v = .bool X ∧ wc = w)
      case first =>
        cases B1
        · cases B2
          · cases B3
            · go_wp2_with fail
              go_meet
              exact ⟨by rw [← HX.out]; rfl, rfl⟩
            · go_wp2_with fail
              go_meet
              exact ⟨by rw [← HX.out]; rfl, rfl⟩
          · go_wp2_with fail
            go_meet
            exact ⟨by rw [← HX.out]; rfl, rfl⟩
        · go_wp2_with fail
          go_meet
          exact ⟨by rw [← HX.out]; rfl, rfl⟩
      case rest =>
        obtain ⟨rfl, hwc⟩ := hcut
        have hwd := hwc.symm
        clear hwc
        subst hwd
        clear sc l3 h3 HX
        go_wp2_with (at_builtin; refine wpList_append_lies _ rfl _ _ 47 rfl w0.heap.size 139 t0 _ 4 32 Tryd.underlying47 ht0 hz0 hz1 hz2 rfl (by omega) _ s.nodes.length (s.nodes.flatMap Dg.Nd.cells) rfl (HNf.out.alloc _) ⟨w.heap.size, 0, none⟩ 1 1 [.int .i64 b, .int .i64 lo, .int .i64 hi, .bool X] rfl rfl (World.news_of_block (cs := #[.int .i64 b, .int .i64 lo, .int .i64 hi, .bool X]) (t := 139) (fr := (0, 0)) (heap_alloc_new w _)) (by simp [Value.oneCell']) (by omega) (by unfold maxLen; omega) (by omega) (by simp; omega) (w.heap.size + 1) (by simp) ?_; intro g4 cap4 w4 hown4 hgrow4 hat4 hlt4; have r4 := H.out.rowN hgrow4; have q4 := r4.cell (i := 5) (by omega); have qf4 := r4.frozen 5; have q46 := r4.cell (i := 6) (by omega); have q47 := r4.cell (i := 7) (by omega); have q4d := (H.out.headsN hgrow4).cell hCM; have HO4 := hid hown4; have HG4 := hid hgrow4; have HA4 := hid hat4; clear hown4 hgrow4 hat4 r4; refine Hid.out ?_)
        refine hid ?_
        rw [show ∀ a c d e, mkc pv a c d e 5 = a from fun _ _ _ _ => rfl] at q4
        rw [show ∀ a c d e, mkc pv a c d e 6 = c from fun _ _ _ _ => rfl] at q46
        rw [show ∀ a c d e, mkc pv a c d e 7 = d from fun _ _ _ _ => rfl] at q47
        have hmg : mb ≠ gh := row_ne H.out.row H.out.heads (by decide)
        have hgm : gh ≠ mb := fun e => hmg e.symm
        have A4 := H.out.growN (.cells #[.int .i64 b, .int .i64 lo, .int .i64 hi, .bool X] 139) ⟨b, lo, hi, X⟩ HO4.out HG4.out
        have R4 := (MkFr.refl mb gh gr (sl gN s.nodes.length cN) (sl gB s.behind.length cB) w).growN (n' := s.nodes.length + 1) (cap' := cap4) (.cells #[.int .i64 b, .int .i64 lo, .int .i64 hi, .bool X] 139) HG4.out HA4.out
        have k5 := A4.c5
        have k6 := A4.c6
        have k7 := A4.c7
        have kd := A4.heads.cell hCM
        have kf5 := A4.row.frozen 7
        have k6a := fun o => (A4.alloc o).c6
        have k7a := fun o => (A4.alloc o).c7
        have kda := fun o => (A4.alloc o).heads.cell hCM
        have HA := hid A4
        have HR := hid R4
        have z4 := A4.bel.size
        have lm := A4.row.lt
        clear A4 R4 c5 c6 c7 hd HG4 HO4 HA4
        have zb4 : w0.heap.size ≤ w4.heap.size := by simpa using z4
        clear z4
        go_wp2_with fail
        go_cut [] (fun wc => ∃ g5 cap5 : Nat, MkAt w0 mb gh gr M { s with nodes := s.nodes ++ [⟨b, lo, hi, X⟩], behind := s.behind ++ [s.heads C] } r pv (sl g4 (s.nodes.length + 1) cap4) (sl g5 (s.behind.length + 1) cap5) wc ∧ MkFr mb gh gr (sl gN s.nodes.length cN) (sl gB s.behind.length cB) (sl g4 (s.nodes.length + 1) cap4) (sl g5 (s.behind.length + 1) cap5) w wc)
        case first =>
          go_region_law
            ((refine step_append_lies _ (by rfl) _ _ _ (by rfl) w0.heap.size 3 u0 _ 1 8 Tryd.underlying27 hu0 y0 y1 y2 rfl (by omega) _ s.behind.length (s.behind.map fun (n : Nat) => .int .i64 n) (by rfl) ((HA.out.behind.alloc _).drew) ⟨w4.heap.size, 0, none⟩ 1 1 [.int .i64 (s.heads C : Nat)] (by rfl) (by rfl) (by have h := cell_one_new (w4.setCell ⟨mb, 5, none⟩ (sl g4 (s.nodes.length + 1) cap4)) (.int .i64 (s.heads C : Nat)) 3; simpa using h) (by simp [Value.oneCell']) (by omega) (by unfold maxLen; omega) (by omega) (by simp; omega) (w4.heap.size + 1) (by simp) ?_; intro g5 cap5 w5 hown5 hgrow5 hat5 hlt5; have r5 := HA.out.drew.rowB hgrow5; have q5 := r5.cell (i := 7) (by omega); have qf5 := r5.frozen 7; clear r5))
          all_goals
            go_wp2_with fail
            go_meet
            exact ⟨_, _, HA.out.drew.growB _ (s.heads C) hown5 hgrow5 (by simpa using hat5), HR.out.drew.growB _ hgrow5 (by simpa using hat5)⟩
        case rest =>
          obtain ⟨g5, cap5, A5, R5⟩ := hcut
          have A6 := A5.setHead C s.nodes.length
          have R6 := R5.setHead C (.int .i64 s.nodes.length)
          have k5' := A5.c5
          have k6' := A5.c6
          have kd' := A5.heads.cell hCM
          have kf6 := A5.heads.frozen C
          have k5'' := A6.c5
          have HA6 := hid A6
          have HR6 := hid R6
          clear A5 R5 A6 R6 k5 k6 k7 kd q4 q46 q47 q4d HA HR
          go_wp2_with fail
          go_region
          all_goals go_wp2_with fail
          go_ret
          rw [HNO.out]
          refine ⟨rfl, _, _, ?_, HR6.out.drew⟩
          have e : Dg.push sec M s b lo hi = { nodes := s.nodes ++ [⟨b, lo, hi, X⟩], heads := fun i => if i = C then s.nodes.length else s.heads i, behind := s.behind ++ [s.heads C] } := by
            unfold Dg.push
            rw [HND.out, HCE.out]
          rw [e]
          exact HA6.out.drew
    · obtain ⟨f, rfl⟩ : ∃ f', f = f' + 1 := ⟨f - 1, by omega⟩
      unfold Dg.look at hlk
      rw [if_neg hm0] at hlk
      have hmB : m < s.behind.length := by have := OK.out.len; omega
      have hdec := OK.out.dec m (by omega) hm
      have n0 := H.out.ndc m hm 0 (by omega)
      have n1 := H.out.ndc m hm 1 (by omega)
      have n2 := H.out.ndc m hm 2 (by omega)
      have b0 := H.out.bhc m hmB
      rw [Nat.add_zero] at n0
      generalize Dg.ndAt s.nodes m = d at n0 n1 n2 hlk
      replace n0 : w.cell? ⟨gN, m * 4, none⟩ = some (.int .i64 d.bit) := n0
      replace n1 : w.cell? ⟨gN, m * 4 + 1, none⟩ = some (.int .i64 d.lo) := n1
      replace n2 : w.cell? ⟨gN, m * 4 + 2, none⟩ = some (.int .i64 d.hi) := n2
      generalize s.behind.getD m 0 = q at b0 hdec hlk
      have hm0I : ((m : Int) != 0) = true := by simp; omega
      have hmL : (m : Int) < (s.nodes.length : Int) := by omega
      have hmB' : (m : Int) < (s.behind.length : Int) := by omega
      by_cases e0 : d.bit = b
      · have e0I : ((d.bit : Int) == (b : Int)) = true := by simp; omega
        by_cases e1 : d.lo = lo
        · have e1I : ((d.lo : Int) == (lo : Int)) = true := by simp; omega
          by_cases e2 : d.hi = hi
          · have e2I : ((d.hi : Int) == (hi : Int)) = true := by simp; omega
            rw [if_pos ⟨e0, e1, e2⟩] at hlk
            have HK := hid hlk
            clear hlk e0 e1 e2
            have HNO := hid (show Dg.nodeOf sec M s b lo hi = (m, s) by
              unfold Dg.nodeOf
              rw [if_neg hne, if_pos (by rw [HRW.out, ← HK.out]; exact hm0), HRW.out, HK.out])
            clear hne
            go_wp2_with fail
            go_ret
            rw [HNO.out]
            exact ⟨rfl, _, _, H.out, MkFr.refl _ _ _ _ _ _⟩
          · have e2I : ((d.hi : Int) == (hi : Int)) = false := by simp; omega
            rw [if_neg (fun c => e2 c.2.2)] at hlk
            have HK := hid hlk
            clear hlk e0 e1 e2 hne hn
            go_wp2_with fail
            go_roundw
            case rel => exact ⟨q, f, by go_num, by omega, by omega, HK.out, trivial⟩
            case measure => simp [intOf]; omega
        · have e1I : ((d.lo : Int) == (lo : Int)) = false := by simp; omega
          rw [if_neg (fun c => e1 c.2.1)] at hlk
          have HK := hid hlk
          clear hlk e0 e1 hne hn
          go_wp2_with fail
          go_roundw
          case rel => exact ⟨q, f, by go_num, by omega, by omega, HK.out, trivial⟩
          case measure => simp [intOf]; omega
      · have e0I : ((d.bit : Int) == (b : Int)) = false := by simp; omega
        rw [if_neg (fun c => e0 c.1)] at hlk
        have HK := hid hlk
        clear hlk e0 hne hn
        go_wp2_with fail
        go_roundw
        case rel => exact ⟨q, f, by go_num, by omega, by omega, HK.out, trivial⟩
        case measure => simp [intOf]; omega
theorem node_any (h : MkAt w0 mb gh gr M s r pv vN vB w) (ok : Dg.Ok n M s) (hM0 : 0 < M) (hM : M ≤ 4096) (sec : List Bool) (hn : n = sec.length) (hn3 : n ≤ 3) (hs : w0.ownsRow 0 4 1 (pv 0) sec.length (sec.map Value.bool)) (hN : s.nodes.length ≤ 400000) (b lo hi : Nat) (hb : b < 4 * n) (hlo : lo < s.nodes.length) (hhi : hi < s.nodes.length) :
    Calls Tryd.prog 65 #[.pointer (some ⟨mb, 0, none⟩), .int .i64 b, .int .i64 lo, .int .i64 hi] w fun e w' => e = .returned (.int .i64 (Dg.nodeOf sec M s b lo hi).1) ∧ ∃ vN' vB', MkAt w0 mb gh gr M (Dg.nodeOf sec M s b lo hi).2 r pv vN' vB' w' ∧ MkFr mb gh gr vN vB vN' vB' w w' := by
  by_cases e : lo = hi
  · subst e
    refine (node_same h b lo).mono ?_
    rintro e w' ⟨rfl, rfl⟩
    have e2 : Dg.nodeOf sec M s b lo lo = (lo, s) := if_pos rfl
    rw [e2]
    exact ⟨rfl, _, _, h, MkFr.refl _ _ _ _ _ _⟩
  · exact node_diff h ok hM0 hM sec hn hn3 hs hN b lo hi hb hlo hhi e
end
end Go.Proofs.YtgddmpmcnjlcjabDoor
