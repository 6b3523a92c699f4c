import Derived.Test.YtgddmpmcnjlcjabGreatDoorK05
import Derived.Test.YtgddmpmcnjlcjabGreatDoorK03
import Derived.Test.YtgddmpmcnjlcjabGreatDoorK04
namespace Go.Proofs.YtgddmpmcnjlcjabGreatDoor
open Go.RowKit
set_option linter.unusedVariables false
theorem own_of_row {w : World} {base b n : Nat} {t : TypeId} {f : Nat → Value} (h : w.rowIs b t n f) (hb : base ≤ b) (hn : n ≤ maxLen) : w.ownsRow base t 1 (.slice (some ⟨b, 0, none⟩) n n) n ((List.range n).map f) := by
  obtain ⟨c, h1, h2, h3⟩ := h
  refine ⟨by simp, .inr ⟨b, n, c, rfl, hb, h1, Nat.le_refl _, hn, by omega, ?_⟩⟩
  rw [Nat.mul_one, List.take_of_length_le (by simp; omega)]
  refine List.ext_getElem? fun i => ?_
  by_cases hi : i < n
  · rw [Array.getElem?_toList, h3 i hi]; simp [hi]
  · rw [Array.getElem?_toList, Array.getElem?_eq_none (by omega), List.getElem?_eq_none (by simp; omega)]
def Rw2 (w : World) (vs : List Value) (cs : List (List Int)) (own : Option Nat) : Prop := ∀ j, j < vs.length → InAt w (vs.getD j (.bool false)) (cs.getD j []) ∧ (cs.getD j [] ≠ [] → ∀ q, (vs.getD j (.bool false)).ownBlock = some q → q < w.heap.size ∧ own ≠ some q)
theorem Rw2.below {w w' : World} {vs : List Value} {cs : List (List Int)} {own : Option Nat} (h : Rw2 w vs cs own) (hb : Below w.heap.size w w') : Rw2 w' vs cs own := fun j hj => by
  obtain ⟨h1, h2⟩ := h j hj
  exact ⟨h1.below hb, fun hn q hq => ⟨Nat.lt_of_lt_of_le (h2 hn q hq).1 hb.size, (h2 hn q hq).2⟩⟩
theorem Rw2.app {w : World} {vs us : List Value} {cs ds : List (List Int)} {own : Option Nat} (h : Rw2 w vs cs own) (hl : vs.length = cs.length) (g : Rw2 w us ds own) : Rw2 w (vs ++ us) (cs ++ ds) own := fun j hj => by
  rw [List.length_append] at hj
  by_cases c : j < vs.length
  · rw [List.getD_eq_getElem?_getD, List.getElem?_append_left c, ← List.getD_eq_getElem?_getD, List.getD_eq_getElem?_getD (l := cs ++ ds), List.getElem?_append_left (by omega), ← List.getD_eq_getElem?_getD]; exact h j c
  · have := g (j - vs.length) (by omega)
    rw [List.getD_eq_getElem?_getD, List.getElem?_append_right (by omega), ← List.getD_eq_getElem?_getD, List.getD_eq_getElem?_getD (l := cs ++ ds), List.getElem?_append_right (by omega), ← List.getD_eq_getElem?_getD, ← hl]; exact this
theorem InAt.nilOf {w w' : World} {v : Value} (h : InAt w v []) : InAt w' v [] := ⟨h.val, fun j hj => absurd hj (by simp)⟩
theorem Rw2.grown {w w' : World} {vs : List Value} {cs : List (List Int)} {own : Option Nat} (h : Rw2 w vs cs own) (hg : w.grownBy w' own) {g H : Nat} (hat : own = some g ∨ g = H) (hH : w.heap.size = H) : Rw2 w' vs cs (some g) := fun j hj => by
  obtain ⟨h1, h2⟩ := h j hj
  by_cases hn : cs.getD j [] = []
  · rw [hn] at h1 ⊢
    exact ⟨h1.nilOf, fun k => absurd rfl k⟩
  · refine ⟨h1.blk fun q hq => hg.block q (h2 hn q hq).1 (fun e => (h2 hn q hq).2 e.symm), fun _ q hq => ⟨Nat.lt_of_lt_of_le (h2 hn q hq).1 hg.size, ?_⟩⟩
    obtain ⟨a, b⟩ := h2 hn q hq
    rcases hat with e | e
    · rw [← e]; exact b
    · intro k; have := Option.some.inj k; omega
theorem Rw2.keep {w w' : World} {vs : List Value} {cs : List (List Int)} {own row : Option Nat} (h : Rw2 w vs cs own) (hg : w.grownBy w' row) (hr : ∀ j, j < vs.length → cs.getD j [] ≠ [] → (vs.getD j (.bool false)).ownBlock ≠ row) : Rw2 w' vs cs own := fun j hj => by
  obtain ⟨h1, h2⟩ := h j hj
  by_cases hn : cs.getD j [] = []
  · rw [hn] at h1 ⊢
    exact ⟨h1.nilOf, fun k => absurd rfl k⟩
  · refine ⟨h1.blk fun q hq => hg.block q (h2 hn q hq).1 (fun e => hr j hj hn (hq.trans e)), fun _ q hq => ⟨Nat.lt_of_lt_of_le (h2 hn q hq).1 hg.size, (h2 hn q hq).2⟩⟩
theorem Rw2.cls {w : World} {base : Nat} {v : Value} {vs : List Value} {cs : List (List Int)} {own : Option Nat} (h : Rw2 w vs cs own) (hl : vs.length = cs.length) (ho : w.ownsRow base 24 1 v cs.length vs) : ClsAt w v cs := by
  refine ⟨?_, fun j hj => ?_⟩
  · rcases ho.2 with ⟨e, e2⟩ | ⟨g, c, cur, hv, _, _, h4, _⟩
    · rw [e2]; exact ⟨_, _, e, Nat.le_refl _⟩
    · exact ⟨_, _, hv, h4⟩
  rcases ho.2 with ⟨_, e⟩ | ⟨g, c, cur, hv, _⟩
  · omega
  · refine ⟨g, 0, c, vs.getD j (.bool false), hv, ?_, (h j (by omega)).1⟩
    subst hv
    rw [Nat.zero_add, ho.cellAt j (by omega), List.getD_eq_getElem?_getD, List.getElem?_eq_getElem (by omega)]; rfl
theorem ClsAt.vals {w : World} {v : Value} {cs : List (List Int)} (h : ClsAt w v cs) (h0 : 0 < cs.length) : ∃ g off c vs, v = .slice (some ⟨g, off, none⟩) cs.length c ∧ vs.length = cs.length ∧ (∀ j u, vs[j]? = some u → w.cell? ((⟨g, off, none⟩ : Addr).add j) = some u) ∧ (∀ u ∈ vs, u.oneCell' = true) ∧ ∀ own : Option Nat, (∀ q, own = some q → w.heap.size ≤ q) → Rw2 w vs cs own := by
  obtain ⟨g, off, c, _, hv, _, _⟩ := h.at_ 0 h0
  have key : ∀ j, j < cs.length → ∃ u, w.cell? ⟨g, off + j, none⟩ = some u ∧ InAt w u (cs.getD j []) := fun j hj => by
    obtain ⟨g', off', c', u, h1, h2, h3⟩ := h.at_ j hj
    have e := Option.some.inj (slice_inj (hv.symm.trans h1)).1
    have e1 : g = g' := by injection e
    have e2 : off = off' := by injection e
    subst e1 e2
    exact ⟨u, h2, h3⟩
  have ch : ∃ vs : List Value, vs.length = cs.length ∧ ∀ j, j < cs.length → w.cell? ⟨g, off + j, none⟩ = some (vs.getD j (.bool false)) ∧ InAt w (vs.getD j (.bool false)) (cs.getD j []) := by
    refine ⟨(List.range cs.length).map fun j => (w.cell? ⟨g, off + j, none⟩).getD (.bool false), by simp, fun j hj => ?_⟩
    obtain ⟨u, h1, h2⟩ := key j hj
    have e : ((List.range cs.length).map fun j => (w.cell? ⟨g, off + j, none⟩).getD (.bool false)).getD j (.bool false) = u := by
      simp [List.getD_eq_getElem?_getD, hj, h1]
    rw [e]
    exact ⟨h1, h2⟩
  obtain ⟨vs, hl, hvs⟩ := ch
  refine ⟨g, off, c, vs, hv, hl, fun j u hu => ?_, fun u hu => ?_, fun own ho j hj => ?_⟩
  · have hj : j < vs.length := (List.getElem?_eq_some_iff.1 hu).1
    have e : (⟨g, off, none⟩ : Addr).add j = ⟨g, off + j, none⟩ := by unfold Addr.add; split <;> simp_all
    rw [e, (hvs j (by omega)).1, List.getD_eq_getElem?_getD, hu]; rfl
  · obtain ⟨j, hj, rfl⟩ := List.mem_iff_getElem.1 hu
    obtain ⟨a, c2, e⟩ := (hvs j (by omega)).2.val
    rw [List.getD_eq_getElem?_getD, List.getElem?_eq_getElem hj] at e
    rw [show vs[j] = _ from e]
    simp [Value.oneCell']
  · obtain ⟨h1, h2⟩ := hvs j (by omega)
    refine ⟨h2, fun hn q hq => ?_⟩
    have h0 : 0 < (cs.getD j []).length := by
      cases hc : cs.getD j [] with
      | nil => exact absurd hc hn
      | cons => simp
    obtain ⟨g', o', c', e, hc⟩ := h2.at_ 0 h0
    rw [e] at hq
    have hq : g' = q := by injection hq
    subst hq
    have hlt : g' < w.heap.size := World.block_lt_of_cell? w _ hc
    exact ⟨hlt, fun k => by have := ho g' k; omega⟩
structure RfAt (w wr : World) (cs : List (List Int)) (nb gl : Nat) (L : List ByteArray) (av bv : Value) : Prop where
  all : ∃ vals, wr.ownsRow w.heap.size 24 1 av cs.length vals ∧ Rw2 wr vals cs av.ownBlock ∧ Rw2 wr vals cs bv.ownBlock
  on : ∃ bvals, wr.ownsRow w.heap.size 4 1 bv nb bvals ∧ ∀ q, 1 ≤ q → q < nb → bvals[q]? = some (.bool true)
  ne : av.ownBlock ≠ bv.ownBlock
  ga : av.ownBlock ≠ some gl
  gb : bv.ownBlock ≠ some gl
  gs : gl < wr.heap.size
  ws : ∀ q, q < L.length → wr.cell? ⟨gl, q, none⟩ = some (.string (L.getD q ByteArray.empty))
  bel : Below w.heap.size w wr
section
variable {w wr wr' : World} {cs : List (List Int)} {nb gl : Nat} {L : List ByteArray} {av bv : Value}
theorem RfAt.later (h : RfAt w wr cs nb gl L av bv) (hb : Below wr.heap.size wr wr') : RfAt w wr' cs nb gl L av bv := by
  obtain ⟨vals, h1, h2, h3⟩ := h.all
  obtain ⟨bvals, h4, h5⟩ := h.on
  exact ⟨⟨vals, ownsRow_blk h1 (fun k e => hb.block k (h1.lt k e).2), h2.below hb, h3.below hb⟩, ⟨bvals, ownsRow_blk h4 (fun k e => hb.block k (h4.lt k e).2), h5⟩, h.ne, h.ga, h.gb, Nat.lt_of_lt_of_le h.gs hb.size, fun q hq => cell_later hb (h.ws q hq), h.bel.trans (hb.mono h.bel.size)⟩
theorem RfAt.addAll (h : RfAt w wr cs nb gl L av bv) {vals : List Value} (hv : wr.ownsRow w.heap.size 24 1 av cs.length vals) (r1 : Rw2 wr vals cs av.ownBlock) (r2 : Rw2 wr vals cs bv.ownBlock) {v : Value} {ls : List Int} (hi : InAt wr v ls) (hq : ∀ q, v.ownBlock = some q → q < wr.heap.size ∧ av.ownBlock ≠ some q ∧ bv.ownBlock ≠ some q) (o : Obj)
    {w4 : World} {g2 cap : Nat} (own : w4.ownsRow w.heap.size 24 1 (.slice (some ⟨g2, 0, none⟩) (cs.length + 1) cap) (cs.length + 1) (vals ++ [v])) (hg : (wr.alloc o).grownBy w4 av.ownBlock) (hat : av.ownBlock = some g2 ∨ g2 = wr.heap.size + 1) :
    RfAt w w4 (cs ++ [ls]) nb gl L (.slice (some ⟨g2, 0, none⟩) (cs.length + 1) cap) bv := by
  obtain ⟨bvals, h4, h5⟩ := h.on
  have hl : vals.length = cs.length := by have := hv.1; omega
  have bel0 : Below wr.heap.size wr (wr.alloc o) := (Below.refl _ _).alloc (Nat.le_refl _) o
  have one : ∀ own : Option Nat, (∀ q, v.ownBlock = some q → own ≠ some q) → Rw2 (wr.alloc o) [v] [ls] own := fun own ho j hj => by
    have : j = 0 := by simp at hj; omega
    subst this
    exact ⟨hi.below bel0, fun _ q e => ⟨Nat.lt_of_lt_of_le (hq q e).1 bel0.size, ho q e⟩⟩
  have s1 := (r1.below bel0).app hl (one _ fun q e => (hq q e).2.1)
  have s2 := (r2.below bel0).app hl (one _ fun q e => (hq q e).2.2)
  have lw : (cs ++ [ls]).length = cs.length + 1 := by simp
  refine ⟨⟨vals ++ [v], by rw [lw]; exact own, s1.grown hg hat (by simp), s2.keep hg (fun j hj hn e => ?_)⟩, ⟨bvals, (h4.alloc o).kept hg (.inr fun e => h.ne e.symm), h5⟩, fun e => ?_, fun e => ?_, h.gb, ?_, fun q hq => hg.cell (cell_alloc (h.ws q hq) o) (fun e => h.ga e.symm), ?_⟩
  · cases ha : av.ownBlock with
    | none =>
      rw [ha] at e
      have hlz : 0 < ((cs ++ [ls]).getD j []).length := by
        cases hc : (cs ++ [ls]).getD j [] with
        | nil => exact absurd hc hn
        | cons => simp
      obtain ⟨g', o', c', e2, _⟩ := (s1 j hj).1.at_ 0 hlz
      rw [e2] at e
      cases e
    | some k => exact ((s1 j hj).2 hn k (e.trans ha)).2 ha
  · have e : some g2 = bv.ownBlock := e
    rcases hat with k | k
    · exact h.ne (k.trans e)
    · have := (h4.lt g2 e.symm).2; omega
  · have e : g2 = gl := by injection e
    subst e
    rcases hat with k | k
    · exact h.ga k
    · have := h.gs; omega
  · have h1 := hg.size
    have h2 := h.gs
    have h3 : (wr.alloc o).heap.size = wr.heap.size + 1 := by simp
    omega
  · exact Below.grown (h.bel.alloc h.bel.size _) hg (by simp; have := h.bel.size; omega) (fun k e => (hv.lt k e).1)
theorem RfAt.addOn (h : RfAt w wr cs nb gl L av bv) {bvals : List Value} (hv : wr.ownsRow w.heap.size 4 1 bv nb bvals) (ht : ∀ q, 1 ≤ q → q < nb → bvals[q]? = some (.bool true)) (o : Obj)
    {w4 : World} {g2 cap : Nat} (own : w4.ownsRow w.heap.size 4 1 (.slice (some ⟨g2, 0, none⟩) (nb + 1) cap) (nb + 1) (bvals ++ [.bool true])) (hg : (wr.alloc o).grownBy w4 bv.ownBlock) (hat : bv.ownBlock = some g2 ∨ g2 = wr.heap.size + 1) :
    RfAt w w4 cs (nb + 1) gl L av (.slice (some ⟨g2, 0, none⟩) (nb + 1) cap) := by
  obtain ⟨vals, h1, r1, r2⟩ := h.all
  have hl : bvals.length = nb := by have := hv.1; omega
  have bel0 : Below wr.heap.size wr (wr.alloc o) := (Below.refl _ _).alloc (Nat.le_refl _) o
  have s1 := r1.below bel0
  have s2 := r2.below bel0
  refine ⟨⟨vals, (h1.alloc o).kept hg (.inr fun e => h.ne e), s1.keep hg (fun j hj hn e => ?_), s2.grown hg hat (by simp)⟩, ⟨bvals ++ [.bool true], own, fun q q1 q2 => ?_⟩, fun e => ?_, h.ga, fun e => ?_, ?_, fun q hq => hg.cell (cell_alloc (h.ws q hq) o) (fun e => h.gb e.symm), ?_⟩
  · cases ha : bv.ownBlock with
    | none =>
      rw [ha] at e
      have hlz : 0 < (cs.getD j []).length := by
        cases hc : cs.getD j [] with
        | nil => exact absurd hc hn
        | cons => simp
      obtain ⟨g', o', c', e2, _⟩ := (s1 j hj).1.at_ 0 hlz
      rw [e2] at e
      cases e
    | some k => exact ((s2 j hj).2 hn k (e.trans ha)).2 ha
  · by_cases c : q < nb
    · rw [List.getElem?_append_left (by omega)]; exact ht q q1 c
    · have : q = bvals.length := by omega
      subst this
      simp
  · have e : av.ownBlock = some g2 := e
    rcases hat with k | k
    · exact h.ne (e.trans k.symm)
    · have := (h1.lt g2 e).2; omega
  · have e : g2 = gl := by injection e
    subst e
    rcases hat with k | k
    · exact h.gb k
    · have := h.gs; omega
  · have h1 := hg.size
    have h2 := h.gs
    have h3 : (wr.alloc o).heap.size = wr.heap.size + 1 := by simp
    omega
  · exact Below.grown (h.bel.alloc h.bel.size _) hg (by simp; have := h.bel.size; omega) (fun k e => (hv.lt k e).1)
end
end Go.Proofs.YtgddmpmcnjlcjabGreatDoor
namespace Go.Proofs.YtgddmpmcnjlcjabGreatDoor
open Go.RowKit
open Go.Lib (itoa)
set_option linter.unusedVariables false
structure RowsOk (C : List (List Int)) (rows : List (List Int × List Int)) (vars : Nat) : Prop where
  r0 : 0 < rows.length
  r1 : rows.length ≤ 1000
  lit : ∀ j, j < rows.length → ∀ l ∈ (rows.getD j ([], [])).1, l ≠ 0 ∧ l.natAbs ≤ vars
  hin : ∀ j, j < rows.length → ∀ h ∈ (rows.getD j ([], [])).2, h.natAbs < 100000000
  l1 : ∀ j, j < rows.length → (rows.getD j ([], [])).1.length ≤ 1000
  l2 : ∀ j, j < rows.length → (rows.getD j ([], [])).2.length ≤ 1000
  last : (rows.getD (rows.length - 1) ([], [])).1 = []
  ne : ∀ j, j + 1 < rows.length → (rows.getD j ([], [])).1 ≠ []
  fol : Cl.FolOk C rows
theorem rowsZ_len : ∀ (rows : List (List Int × List Int)) (nx : Nat), (Cl.rowsZ nx rows).length = rows.length
  | [], _ => rfl
  | r :: rs, nx => by show (Cl.rowsZ (nx + 1) rs).length + 1 = _; rw [rowsZ_len rs]; rfl
theorem rowsZ_get : ∀ (rows : List (List Int × List Int)) (nx j : Nat), j < rows.length → (Cl.rowsZ nx rows).getD j [] = Cl.rowZ (nx + j) (rows.getD j ([], []))
  | [], _, _, h => absurd h (by simp)
  | r :: rs, nx, 0, _ => rfl
  | r :: rs, nx, j + 1, h => by
    show (Cl.rowsZ (nx + 1) rs).getD j [] = _
    rw [rowsZ_get rs (nx + 1) j (by simpa using h), show nx + 1 + j = nx + (j + 1) by omega]
    rfl
set_option maxRecDepth 100000 in
set_option maxHeartbeats 4000000 in
theorem refutes_any (C : List (List Int)) (rows : List (List Int × List Int)) (cv : Value) (vars : Nat) (s : ByteArray) (w : World) (hc : ClsAt w cv C) (hC0 : 0 < C.length) (hCl : C.length ≤ 5000000) (hCz : ∀ i, i < C.length → (∀ l ∈ C.getD i [], l ≠ 0 ∧ l.natAbs ≤ vars) ∧ (C.getD i []).length ≤ 1000000)
    (hv : vars < 100000000) (hs : s.toList = Nz.rend (Cl.rowsZ (C.length + 1) rows)) (hsz : s.size ≤ 1000000000) (hr : RowsOk C rows vars) :
    Calls Tryz.prog 11 #[cv, .int .i64 vars, .string s] w fun e w' => e = .returned (.bool true) ∧ Below w.heap.size w w' := by
  obtain ⟨t0, ht0, hz0, hz1, hz2⟩ := info_parts Tryz.infoInts
  obtain ⟨b0, hb0, hy0, hy1, hy2⟩ := info_parts Tryz.infoBool
  obtain ⟨gc, oc, cc, vs, rfl, hvl, hcells, hone, hrw⟩ := hc.vals hC0
  have HCE := hid hcells
  have HONE := hid hone
  have HRW := hid hrw
  have HCZ := hid hCz
  have HR := hid hr
  have HVR := hid hv
  have HS := hid hsz
  have HCT := hid (show Lk.cut 10 s.toList = (Cl.rowsZ (C.length + 1) rows).map Nz.lineZ ++ [[]] by rw [hs]; exact Nz.cut_rend _)
  have HLN := hid (show ∀ i, i < rows.length → (Nz.lineZ ((Cl.rowsZ (C.length + 1) rows).getD i [])).length ≤ s.size from fun i hi => by
    rw [← tl_len, hs]
    exact Nz.line_le (by rw [List.getD_eq_getElem?_getD, List.getElem?_eq_getElem (by rw [rowsZ_len]; exact hi)]; exact List.getElem_mem _))
  have hr1 := hr.r1
  have hr0 := hr.r0
  clear hc hcells hone hrw hCz hr hv hs hsz
  have own0 : (w.alloc (.cells #[.slice none 0 0] 24)).ownsRow w.heap.size 24 1 (.slice (some ⟨w.heap.size, 0, none⟩) 1 1) 1 [.slice none 0 0] :=
    ⟨rfl, .inr ⟨w.heap.size, 1, _, rfl, Nat.le_refl _, heap_alloc_new w _, Nat.le_refl _, by unfold maxLen; omega, rfl, rfl⟩⟩
  have HOW := hid own0
  clear own0
  go_enter Tryz.func11, Tryz.ntmps11
  go_upto_region 3 with (first | (at_builtin; refine wpList_append_lies _ rfl _ _ 32 rfl w.heap.size 24 t0 _ 1 24 Tryz.underlying32 ht0 hz0 hz1 hz2 rfl (by omega) _ 1 [.slice none 0 0] rfl HOW.out ⟨gc, oc, none⟩ C.length cc vs rfl (by rw [hvl, Nat.mul_one]) (fun j u hu => cell_alloc (HCE.out j u hu) _) HONE.out hC0 (by unfold maxLen; omega) (by omega) (by simp) (w.heap.size + 1) (by simp) ?_; intro g1 cap1 w1 hown1 hgrow1 hat1 hlt1))
  have HO1 := hid hown1
  have HRW1 := hid (show Rw2 w1 (.slice none 0 0 :: vs) ([] :: C) (some g1) by
    have h0 : Rw2 (w.alloc (.cells #[.slice none 0 0] 24)) (.slice none 0 0 :: vs) ([] :: C) (some w.heap.size) := by
      have := Rw2.app (w := w.alloc (.cells #[.slice none 0 0] 24)) (vs := [.slice none 0 0]) (cs := [[]]) (own := some w.heap.size) (fun j hj => by
        have : j = 0 := by simp at hj; omega
        subst this
        exact ⟨⟨⟨_, _, rfl⟩, fun j hj => absurd hj (by simp)⟩, fun k => absurd rfl k⟩) rfl ((HRW.out (some w.heap.size) (fun q e => by have := Option.some.inj e; omega)).below ((Below.refl _ _).alloc (Nat.le_refl _) _))
      exact this
    exact h0.grown hgrow1 hat1 (by simp))
  have HB1 := hid (show Below w.heap.size w w1 from Below.grown ((Below.refl _ _).alloc (Nat.le_refl _) _) hgrow1 (by simp) (fun k e => (HOW.out.lt k e).1))
  obtain ⟨N, hN⟩ : ∃ N, 1 + C.length = N := ⟨_, rfl⟩
  have hmk : ∀ w : World, (Instr.makeSlice 46 (.int .i64 (N : Int)) (.int .i64 (N : Int))).run Tryz.prog w = .ok (.slice (some ⟨w.heap.size, 0, none⟩) N N) (w.alloc (.cells (madeCells #[.bool false] N) 4)) := fun w => run_make_row' 46 4 (.bool false) 1 Tryz.underlying46 Tryz.infoBool rfl .i64 .i64 N (by omega) (by omega) w
  rw [hN] at HO1 ⊢
  have z1 := HB1.out.size
  clear hown1 hgrow1 hat1
  go_wp2_with fail
  obtain ⟨W2, hW2⟩ : ∃ W2 : World, w1.alloc (.cells (madeCells #[.bool false] N) 4) = W2 := ⟨_, rfl⟩
  have HP2 := hid (show Below w1.heap.size w1 W2 by rw [← hW2]; exact (Below.refl _ _).alloc (Nat.le_refl _) _)
  have HRB := hid (show W2.rowIs w1.heap.size 4 N (fun j => .bool (decide (1 ≤ j ∧ j < 1))) by
    rw [← hW2]
    exact (World.rowIs_made w1 (.bool false) N 4).congr fun i hi => by rw [decide_eq_false (by omega)])
  have hz2' : W2.heap.size = w1.heap.size + 1 := by rw [← hW2]; simp
  rw [hW2]
  clear hW2 hmk
  go_loopg [9] N (fun gk iv wr => ∃ i : Nat, 1 ≤ i ∧ i ≤ N ∧ N ≤ i + gk ∧ iv = .int .i64 i ∧ wr.rowIs w1.heap.size 4 N (fun j => .bool (decide (1 ≤ j ∧ j < i))) ∧ Below w1.heap.size w1 wr)
  case atStart => exact ⟨1, Nat.le_refl _, by omega, by omega, rfl, HRB.out, HP2.out⟩
  case round =>
    obtain ⟨i, hi1, hi, hgk, rfl, hrow, hbel⟩ := hrel
    have HRR := hid hrow
    have HBL := hid hbel
    have zb := hbel.size
    by_cases hlt : i < N
    · have x1 := hrow.cell (i := i) hlt
      have x2 := hrow.frozen i
      clear hrow hbel
      go_wp2_with fail
      go_roundg (gk - 1)
      case measure => omega
      case rel =>
        refine ⟨i + 1, by omega, by omega, by omega, by go_num, ?_, HBL.out.setCell (Nat.le_refl _) _⟩
        refine (HRR.out.set i (.bool true)).congr fun j hj => ?_
        by_cases c : j = i
        · rw [if_pos c, c, decide_eq_true (by omega)]
        · rw [if_neg c]; congr 1; exact decide_eq_decide.2 (by omega)
    · have hie : N = i := by omega
      subst hie
      have HOB := hid (own_of_row (base := w.heap.size) hrow z1 (by unfold maxLen; omega))
      have HO2 := hid (ownsRow_blk HO1.out (fun k e => hbel.block k (HO1.out.lt k e).2))
      have HRW2 := hid (HRW1.out.below hbel)
      have HB2 := hid (HB1.out.trans (hbel.mono z1))
      have hsz : w1.heap.size < wr.heap.size := hrow.lt
      clear hrow hbel HRR HBL HRB HP2
      go_upto_region 9 with (first | (go_at_call 23; refine (cut_big s 10 _ HS.out).mono ?_; rintro e w3 ⟨gl, capl, ws, rfl, hws, howl, hb3⟩; have HB3 := hid hb3; have z3 := hb3.size; have HOL := hid howl; have HWS := hid (hws.trans HCT.out); clear hb3 howl hws))
      have hwl : ws.length = rows.length + 1 := by have := congrArg List.length HWS.out; simpa [rowsZ_len] using this
      have hcell : ∀ q, q < ws.length → w3.cell? ⟨gl, q, none⟩ = some (.string (ws.getD q ByteArray.empty)) := fun q hq => by
        rw [HOL.out.cellAt q (by omega), List.getElem?_map, List.getD_eq_getElem?_getD, List.getElem?_eq_getElem hq]; rfl
      have htl : ∀ q, q < rows.length + 1 → (ws.getD q ByteArray.empty).toList = ((Cl.rowsZ (C.length + 1) rows).map Nz.lineZ ++ [[]]).getD q [] := fun q hq => by
        have h1 := congrArg (fun l => l[q]?) HWS.out
        simp only [List.getElem?_map] at h1
        rw [List.getElem?_eq_getElem (show q < ws.length by omega)] at h1
        rw [List.getD_eq_getElem?_getD, List.getD_eq_getElem?_getD, List.getElem?_eq_getElem (show q < ws.length by omega), ← h1]; rfl
      have HTL := hid htl
      have hgl := HOL.out.lt gl rfl
      have HST := hid (show RfAt w w3 ([] :: C) N gl ws (.slice (some ⟨g1, 0, none⟩) N cap1) (.slice (some ⟨w1.heap.size, 0, none⟩) N N) from by
        have hcl : (([] : List Int) :: C).length = N := by simp; omega
        refine ⟨⟨.slice none 0 0 :: vs, by rw [hcl]; exact ownsRow_blk HO2.out (fun k e => HB3.out.block k (HO2.out.lt k e).2), HRW2.out.below HB3.out, ?_⟩, ⟨_, ownsRow_blk HOB.out (fun k e => HB3.out.block k (HOB.out.lt k e).2), fun q q1 q2 => ?_⟩, fun e => ?_, fun e => ?_, fun e => ?_, hgl.2, hcell, HB2.out.trans (HB3.out.mono HB2.out.size)⟩
        · have hb := HB2.out.trans (HB3.out.mono HB2.out.size)
          have := Rw2.app (w := w3) (vs := [.slice none 0 0]) (cs := [[]]) (own := some w1.heap.size) (fun j hj => by
            have : j = 0 := by simp at hj; omega
            subst this
            exact ⟨⟨⟨_, _, rfl⟩, fun j hj => absurd hj (by simp)⟩, fun k => absurd rfl k⟩) rfl ((HRW.out (some w1.heap.size) (fun q e => by have := Option.some.inj e; omega)).below hb)
          exact this
        · simp [q2]; omega
        · have e : g1 = w1.heap.size := by injection e
          omega
        · have e : g1 = gl := by injection e
          omega
        · have e : w1.heap.size = gl := by injection e
          omega)
      have c0 := hcell rows.length (by omega)
      have he : (ws.getD rows.length ByteArray.empty).toList.isEmpty = true := by
        rw [htl _ (by omega)]
        simp [List.getD_eq_getElem?_getD, rowsZ_len]
      obtain ⟨t, hte⟩ : ∃ t, ws.getD rows.length ByteArray.empty = t := ⟨_, rfl⟩
      rw [hte] at c0 he
      rw [hwl]
      clear hte hcell htl HOB HO2 HRW2 HB2 HOW HRW1 HO1
      go_wp2_with fail
      clear c0 he
      go_loopg [7, 8, 11, 12, 13, 14, 15, 16, 17, 18, 19] rows.length (fun gk av bv iv s12 s13 s14 s15 s16 s17 s18 s19 wr => ∃ j : Nat, j < rows.length ∧ rows.length ≤ j + gk ∧ iv = .int .i64 j ∧ RfAt w wr ([] :: C ++ (rows.take j).map Prod.fst) (N + j) gl ws av bv)
      case atStart => exact ⟨0, hr0, by omega, rfl, by simpa using HST.out⟩
      case round =>
        clear HST
        obtain ⟨j, hj, hgk, rfl, hst⟩ := hrel
        have HST := hid hst
        have hcs : ([] :: C ++ (rows.take j).map Prod.fst).length = N + j := by simp; omega
        obtain ⟨vals, hav, rw1, rw2⟩ := hst.all
        obtain ⟨bvals, hbv, hbt⟩ := hst.on
        obtain ⟨aa, ca, hae⟩ := body_val hav
        obtain ⟨ab, cb, hbe⟩ := body_val hbv
        subst hae hbe
        have c1 := hst.ws j (by omega)
        have htl := (HTL.out j (by omega)).trans (show ((Cl.rowsZ (C.length + 1) rows).map Nz.lineZ ++ [[]]).getD j ([] : List UInt8) = Nz.lineZ ((Cl.rowsZ (C.length + 1) rows).getD j []) by
          have hj' : j < (Cl.rowsZ (C.length + 1) rows).length := by rw [rowsZ_len]; exact hj
          rw [List.getD_eq_getElem?_getD, List.getElem?_append_left (by simpa using hj'), List.getElem?_map, List.getElem?_eq_getElem hj', List.getD_eq_getElem?_getD, List.getElem?_eq_getElem hj']; rfl)
        have hll := HLN.out j hj
        rw [rowsZ_get rows _ j hj] at htl hll
        obtain ⟨M, hM⟩ : ∃ M, N + j = M := ⟨_, rfl⟩
        rw [show C.length + 1 + j = M by omega] at htl hll
        obtain ⟨q, hqe⟩ : ∃ q, ws.getD j ByteArray.empty = q := ⟨_, rfl⟩
        rw [hqe] at c1 htl
        have hqs : q.size ≤ 1000000000 := by rw [← tl_len, htl]; have := HS.out; omega
        obtain ⟨ls, hs, hre⟩ : ∃ ls hs, rows.getD j ([], []) = (ls, hs) := ⟨_, _, rfl⟩
        have hlit := HR.out.lit j hj
        have hhin := HR.out.hin j hj
        have hl1 := HR.out.l1 j hj
        have hl2 := HR.out.l2 j hj
        have hfol := HR.out.fol j hj
        rw [hre] at htl hlit hhin hl1 hl2 hfol
        have hcut : Lk.cut 32 q.toList = ((M : Int) :: (ls ++ 0 :: (hs ++ [0]))).map itoa := by
          rw [htl, Nz.cut_line]
          congr 1
          unfold Cl.rowZ
          simp
        have HPA := hid (fun W => parts_any q M vars ls hs W hqs hcut (by omega) HVR.out hlit hhin hl1 hl2)
        have HCU := hid (fun W => cut_big q 32 W hqs)
        have HCT2 := hid hcut
        rw [hcs, hM] at HST ⊢
        have zb := hst.bel.size
        have hMb : M ≤ 6000000 := by omega
        have HAV := hid hav
        have HBV := hid hbv
        have HR1 := hid rw1
        have HR2 := hid rw2
        have HBT := hid hbt
        have HFO := hid hfol
        have HLI := hid hlit
        have hl1 : ls.length ≤ 1000 := hl1
        have hl2 : hs.length ≤ 1000 := hl2
        clear hst hav hbv rw1 rw2 hbt hfol hlit hhin hcut htl hll hqs hqe
        go_upto_region 15 with (first | (go_at_call 23; refine (HCU.out _).mono ?_; rintro e w4 ⟨g4, cap4, ws4, rfl, hws4, how4, hb4⟩; have HB4 := hid hb4; have z4 := hb4.size; have HO4 := hid how4; have HW4 := hid (hws4.trans HCT2.out); clear hb4 how4 hws4))
        have hw4l : ws4.length = ls.length + hs.length + 3 := by have := congrArg List.length HW4.out; simp at this; omega
        have hw4b : (1 : Int) < (ws4.length : Int) := by omega
        have d1 : w4.cell? ⟨g4, 1, none⟩ = some (.string (ws4.getD 1 ByteArray.empty)) := by
          rw [HO4.out.cellAt 1 (by omega), List.getElem?_map, List.getD_eq_getElem?_getD, List.getElem?_eq_getElem (show 1 < ws4.length by omega)]; rfl
        have d2 : ((ws4.getD 1 ByteArray.empty).toList == [100]) = false := by
          refine beq_eq_false_iff_ne.2 fun e => ?_
          have h1 := congrArg (fun l => l[1]?) HW4.out
          simp only [List.getElem?_map, List.getElem?_cons_succ] at h1
          rw [List.getElem?_eq_getElem (show 1 < ws4.length by omega)] at h1
          rw [List.getD_eq_getElem?_getD, List.getElem?_eq_getElem (show 1 < ws4.length by omega)] at e
          have h2 : ∃ z, (ls ++ 0 :: (hs ++ [0]))[0]? = some z := ⟨_, List.getElem?_eq_getElem (by rw [List.length_append, List.length_cons]; omega)⟩
          obtain ⟨z, hz⟩ := h2
          rw [hz] at h1
          have h3 : ws4[1].toList = itoa z := Option.some.inj h1
          have e : ws4[1].toList = [100] := e
          have h4 := Nz.itoa_sign z 100 (by rw [← h3, e]; simp)
          rcases h4 with h4 | h4
          · exact absurd h4 (by decide)
          · exact absurd h4.2 (by decide)
        generalize ws4.getD 1 ByteArray.empty = t1 at d1 d2
        have c2 := cell_later HB4.out c1
        clear HW4 HO4
        go_upto_region 21 with (first | (go_at_call 28; refine (HPA.out _).mono ?_; rintro e w5 ⟨v1, v2, rfl, hi1, hi2, hq1, hb5⟩; have HI1 := hid hi1; have HI2 := hid hi2; have HQ1 := hid hq1; have HB5 := hid (HB4.out.trans (hb5.mono z4)); have z5 := hb5.size; clear hi1 hi2 hq1 hb5))
        obtain ⟨a1, c1', rfl⟩ := HI1.out.val
        have own5 := ownsRow_blk HAV.out (fun k e => HB5.out.block k (HAV.out.lt k e).2)
        have onn5 := ownsRow_blk HBV.out (fun k e => HB5.out.block k (HBV.out.lt k e).2)
        have hvl5 : vals.length = ([] :: C ++ (rows.take j).map Prod.fst).length := by have := own5.1; omega
        have HCL := hid (show ClsAt w5 (.slice aa M ca) ([] :: C ++ (rows.take j).map Prod.fst) by
          have := (HR1.out.below HB5.out).cls hvl5 own5
          rw [hcs, hM] at this
          exact this)
        have HOA := hid (show OnAt w5 (.slice ab M cb) ([] :: C ++ (rows.take j).map Prod.fst).length by
          rw [hM] at onn5
          rw [hcs, hM]
          obtain ⟨gb, db, hvb, _, _⟩ := onn5.form (by omega)
          have e1 := (slice_inj hvb).1
          subst e1
          refine ⟨⟨_, _, rfl⟩, fun q q1 q2 => ⟨_, _, rfl, ?_⟩⟩
          rw [onn5.cellAt q (by omega)]
          exact HBT.out q q1 (by omega))
        have HZZ := hid (show ∀ i, i < ([] :: C ++ (rows.take j).map Prod.fst).length → (∀ l ∈ ([] :: C ++ (rows.take j).map Prod.fst).getD i [], l ≠ 0 ∧ l.natAbs ≤ vars) ∧ (([] :: C ++ (rows.take j).map Prod.fst).getD i []).length ≤ 1000000 from fun i hi => by
          rw [hcs] at hi
          cases i with
          | zero => exact ⟨fun l hl => (by cases hl), Nat.zero_le _⟩
          | succ i =>
            rw [show ([] :: C ++ (rows.take j).map Prod.fst).getD (i + 1) [] = (C ++ (rows.take j).map Prod.fst).getD i [] from rfl]
            by_cases c : i < C.length
            · rw [Cl.getD_app_left c]; exact HCZ.out i c
            · have hij : i - C.length < j := by omega
              rw [List.getD_eq_getElem?_getD, List.getElem?_append_right (by omega), List.getElem?_map, List.getElem?_take, if_pos hij, List.getElem?_eq_getElem (by omega)]
              have h1 := HR.out.lit (i - C.length) (by omega)
              have h2 := HR.out.l1 (i - C.length) (by omega)
              rw [List.getD_eq_getElem?_getD, List.getElem?_eq_getElem (by omega)] at h1 h2
              have h2 : (rows[i - C.length]'(by omega)).1.length ≤ 1000 := h2
              exact ⟨h1, Nat.le_trans h2 (by omega)⟩)
        have HFW := hid (follows_any ([] :: C ++ (rows.take j).map Prod.fst) (.slice aa M ca) (.slice ab M cb) (.slice a1 ls.length c1') v2 vars ls hs w5 HCL.out HOA.out HI1.out HI2.out HVR.out HZZ.out HLI.out HFO.out.1 HFO.out.2 hl1 hl2 (by rw [hcs]; omega))
        clear own5 onn5 hvl5
        go_upto_region 26 with (first | (go_at_call 29; refine HFW.out.mono ?_; rintro e w6 ⟨rfl, hb6⟩; have HB6 := hid hb6; have z6 := hb6.size; clear hb6))
        have HB7 := hid (HB5.out.trans (HB6.out.mono HB5.out.size))
        have HS6 := hid (HST.out.later HB7.out)
        have hrl := HR.out.last
        have hrn := HR.out.ne
        by_cases hlast : j + 1 = rows.length
        · rw [show rows.length - 1 = j by omega, hre] at hrl
          have hrl : ls = [] := hrl
          have hl0 : (ls.length : Int) = 0 := by rw [hrl]; rfl
          have hji : ((j : Int) == (rows.length : Int) + 1 - 2) = true := by simp; omega
          have hl0b : ((ls.length : Int) == 0) = true := by rw [hl0]; rfl
          clear hrn hrl hl0
          go_wp2_with fail
          go_ret
          exact ⟨rfl, HS6.out.bel⟩
        · have hln := hrn j (by omega)
          rw [hre] at hln
          have hln : ls ≠ [] := hln
          have hl0b : ((ls.length : Int) == 0) = false := by
            refine beq_eq_false_iff_ne.2 fun e => hln (List.eq_nil_of_length_eq_zero (by omega))
          clear hrn hrl hln
          have HA6 := hid (ownsRow_blk HAV.out (fun k e => HB7.out.block k (HAV.out.lt k e).2))
          have HBB6 := hid (ownsRow_blk HBV.out (fun k e => HB7.out.block k (HBV.out.lt k e).2))
          rw [hcs, hM] at HA6
          rw [hM] at HBB6
          go_upto_region 30 with (first | (at_builtin; refine wpList_append_lies _ rfl _ _ 32 rfl w.heap.size 24 t0 _ 1 24 Tryz.underlying32 ht0 hz0 hz1 hz2 rfl (by omega) _ M vals rfl (HA6.out.alloc _) ⟨w6.heap.size, 0, none⟩ 1 1 [.slice a1 ls.length c1'] rfl rfl (cell_one_new _ _ _) (by simp [Value.oneCell']) (by omega) (by unfold maxLen; omega) (by omega) (by have := HS6.out.bel.size; simp; omega) (w6.heap.size + 1) (by simp) ?_; intro g7 cap7 w7 hown7 hgrow7 hat7 hlt7))
          have HS7 := hid (show RfAt w w7 ([] :: C ++ (rows.take j).map Prod.fst ++ [ls]) M gl ws (.slice (some ⟨g7, 0, none⟩) (M + 1) cap7) (.slice ab M cb) from by
            have hMc : ([] :: C ++ (rows.take j).map Prod.fst).length = M := hcs.trans hM
            have oa : ∀ n m, (Value.slice aa n ca).ownBlock = (Value.slice aa m ca).ownBlock := fun n m => by cases aa <;> rfl
            have hg7 : (w6.alloc (.cells #[.slice a1 ls.length c1'] 24)).grownBy w7 (Value.slice aa M ca).ownBlock := hgrow7
            have ha7 : (Value.slice aa M ca).ownBlock = some g7 ∨ g7 = w6.heap.size + 1 := hat7
            rw [oa M ([] :: C ++ (rows.take j).map Prod.fst).length] at hg7 ha7
            rw [← hMc] at hown7 ⊢
            have h1 := HS6.out
            have h2 := HA6.out
            rw [← hMc] at h1 h2
            have ob : ∀ n m, (Value.slice ab n cb).ownBlock = (Value.slice ab m cb).ownBlock := fun n m => by cases ab <;> rfl
            exact h1.addAll h2 (HR1.out.below HB7.out) (by rw [ob _ (N + j)]; exact HR2.out.below HB7.out) (HI1.out.below HB6.out) (fun q e => by
              obtain ⟨q1, q2⟩ := HQ1.out q e
              refine ⟨Nat.lt_of_lt_of_le q2 z6, fun k => ?_, fun k => ?_⟩
              · have := (HAV.out.lt q k).2; omega
              · have := (HBV.out.lt q (by rw [ob (N + j) _]; exact k)).2; omega) _ hown7 hg7 ha7)
          obtain ⟨bv2, ho8, ht8⟩ := HS7.out.on
          have HO8 := hid ho8
          have HT8 := hid ht8
          have z7 := HS7.out.bel.size
          clear ho8 ht8 hown7 hgrow7 hat7 HA6 HBB6
          go_wp2_with (first | (at_builtin; refine wpList_append_lies _ rfl _ _ 46 rfl w.heap.size 4 b0 _ 1 1 Tryz.underlying46 hb0 hy0 hy1 hy2 rfl (by omega) _ M bv2 rfl (HO8.out.alloc _) ⟨w7.heap.size, 0, none⟩ 1 1 [.bool true] rfl rfl (cell_one_new _ _ _) (by simp [Value.oneCell']) (by omega) (by unfold maxLen; omega) (by omega) (by simp; omega) (w7.heap.size + 1) (by simp) ?_; intro g8 cap8 w8 hown8 hgrow8 hat8 hlt8))
          go_roundg (gk - 1)
          case measure => omega
          case rel =>
            refine ⟨j + 1, by omega, by omega, by go_num, ?_⟩
            rw [show (rows.take (j + 1)).map Prod.fst = (rows.take j).map Prod.fst ++ [ls] by
              rw [List.take_succ_eq_append_getElem hj, List.map_append]
              congr 1
              have h1 := hre
              rw [List.getD_eq_getElem?_getD, List.getElem?_eq_getElem hj] at h1
              have h1 : rows[j] = (ls, hs) := h1
              simp [h1], show N + (j + 1) = M + 1 by omega, ← List.append_assoc]
            exact HS7.out.addOn HO8.out HT8.out _ hown8 hgrow8 hat8
end Go.Proofs.YtgddmpmcnjlcjabGreatDoor
namespace Go.Proofs.YtgddmpmcnjlcjabGreatDoor
set_option linter.unusedVariables false
namespace Cl
section
variable {sec : List Bool} {nodes : List Dg.Nd} {D : List Nat} {pos : Nat → Nat}
theorem ahd_len (dia : Dia sec nodes D pos) : (allK sec nodes D).length = (ahdK sec nodes D).length + 4 * D.length + 1 ∧ (tl2 sec nodes D D.length).1 = (ahdK sec nodes D).length := by
  have hl := (difN_rend (vin sec) D.length D.length).2
  refine ⟨by unfold allK; rw [List.length_append, List.length_append, hl]; rfl, ?_⟩
  rw [tl2_at dia (Nat.le_refl _)]; unfold ahdK; simp only [List.length_append]
theorem same_len3 {g : Nat → Nat} {v node : Nat} {u : Int} {c : List Int} (h : c ∈ sameK g v node u) : c.length ≤ 3 := by
  have key : ∀ a b d : Int, (clL a b d).length ≤ 3 := fun a b d => by unfold clL; exact List.length_filter_le _ _
  unfold sameK at h
  split at h
  · rw [List.mem_singleton.1 h]; exact key _ _ _
  · split at h
    · rw [List.mem_singleton.1 h]; exact key _ _ _
    · rcases List.mem_cons.1 h with e | e
      · rw [e]; exact key _ _ _
      · rw [List.mem_singleton.1 e]; exact key _ _ _
theorem ahd_len3 : ∀ c ∈ ahdK sec nodes D, c.length ≤ 3 := by
  intro c hc
  rcases mem_ahd.1 hc with ⟨i, h2, hi, hs⟩ | ⟨i, hi, hs⟩ | ⟨i, hi, hs⟩
  · rcases mem_step.1 hs with hs | ⟨_, hs⟩
    · rcases List.mem_append.1 hs with h | h
      · exact same_len3 h
      · exact same_len3 h
    · rcases List.mem_append.1 hs with h | h
      · exact same_len3 h
      · exact same_len3 h
  · exact same_len3 hs
  · exact same_len3 hs
theorem getD_memL {cs : List (List Int)} {i : Nat} (h : i < cs.length) : cs.getD i [] ∈ cs := by
  rw [List.getD_eq_getElem?_getD, List.getElem?_eq_getElem h]; exact List.getElem_mem h
theorem mem_dif {V M : Nat} {c : List Int} : ∀ m, c ∈ difK V M m → ∃ i, i < m ∧ c ∈ difK4 (V + 2 * M + 1 + i) (V + 1 + i) (V + M + 1 + i)
  | 0, h => by cases h
  | m + 1, h => by
    rcases List.mem_append.1 (show c ∈ difK V M m ++ _ from h) with h | h
    · obtain ⟨i, hi, e⟩ := mem_dif m h; exact ⟨i, by omega, e⟩
    · exact ⟨m, by omega, h⟩
theorem all_lits (dia : Dia sec nodes D pos) (hD : D.length ≤ 70) : ∀ c ∈ allK sec nodes D, (∀ l ∈ c, l ≠ 0 ∧ l.natAbs ≤ (nds sec nodes D.length).vars) ∧ c.length ≤ 100 := by
  have hva : vin sec + 3 * D.length ≤ (nds sec nodes D.length).vars := (fok_nds sec nodes D).vars
  intro c hc
  rcases List.mem_append.1 hc with hc | hc
  · rcases List.mem_append.1 hc with hc | hc
    · exact ⟨fun l hl => ⟨(ahd_lits dia c hc l hl).1, (ahd_lits dia c hc l hl).2.2.1⟩, Nat.le_trans (ahd_len3 c hc) (by omega)⟩
    · obtain ⟨i, hi, h⟩ := mem_dif _ hc
      unfold difK4 at h
      simp only [List.mem_cons, List.not_mem_nil, or_false] at h
      rcases h with rfl | rfl | rfl | rfl
      all_goals refine ⟨fun l hl => ?_, by simp⟩
      all_goals simp only [List.mem_cons, List.not_mem_nil, or_false] at hl
      all_goals rcases hl with rfl | rfl | rfl <;> omega
  · rw [List.mem_singleton.1 hc]
    refine ⟨fun l hl => ?_, by unfold lastK; rw [List.length_map, freshL_len]; omega⟩
    unfold lastK at hl
    obtain ⟨n, hn, rfl⟩ := List.mem_map.1 hl
    unfold freshL at hn
    obtain ⟨i, hi, rfl⟩ := List.mem_map.1 hn
    have := List.mem_range.1 hi
    omega
theorem tl_ok (dia : Dia sec nodes D pos) (hva : (nds sec nodes D.length).vars ≤ 100000000) : TlOk (allK sec nodes D) (vin sec) D.length (ahdK sec nodes D).length := by
  obtain ⟨h1, h2⟩ := ahd_len dia
  have low : ∀ i, i < (ahdK sec nodes D).length → (allK sec nodes D).getD i [] ∈ ahdK sec nodes D := fun i hi => by
    unfold allK
    rw [getD_app_left (by rw [List.length_append]; omega), getD_app_left hi]
    exact getD_memL hi
  have dif : ∀ i t, i < D.length → t < 4 → (allK sec nodes D).getD ((ahdK sec nodes D).length + 4 * i + t) [] = (difK4 (vin sec + 2 * D.length + 1 + i) (vin sec + 1 + i) (vin sec + D.length + 1 + i)).getD t [] := fun i t hi ht => by
    have := (all_dif dia hi ht).1
    rw [h2] at this
    exact this
  refine ⟨h1, fun i hi => ?_, fun i hi => ?_, fun i hi => ?_, fun i hi => ?_, ?_, fun i hi l hl => ?_, fun i hi => ?_⟩
  · exact dif i 0 hi (by omega)
  · exact dif i 1 hi (by omega)
  · exact dif i 2 hi (by omega)
  · exact dif i 3 hi (by omega)
  · have := (all_last (sec := sec) (nodes := nodes) (D := D)).1
    rw [show (allK sec nodes D).length - 1 = (ahdK sec nodes D).length + 4 * D.length by omega] at this
    rw [this]
    unfold lastK freshL
    rw [List.map_map]; rfl
  · have := ahd_lits dia _ (low i hi) l hl
    exact ⟨by omega, this.2.2.2⟩
  · exact Nat.le_trans (ahd_len3 _ (low i hi)) (by omega)
end
theorem prfN_hints (bits : List Bt) (nx0 : Nat) : ∀ i, (prfN bits nx0 i).1 ≤ nx0 + 2 * i ∧ ∀ x ∈ (prfN bits nx0 i).2.2, x.natAbs ≤ nx0 + 2 * i
  | 0 => ⟨Nat.le_refl _, fun x h => (by cases h)⟩
  | i + 1 => by
    obtain ⟨h1, h2⟩ := prfN_hints bits nx0 i
    have e : eqL (bits.getD i {}) ≤ 2 := by unfold eqL; split <;> omega
    have f : eqR (prfN bits nx0 i).1 (bits.getD i {}) ≤ (prfN bits nx0 i).1 + 1 := by unfold eqR; split <;> omega
    refine ⟨by show (prfN bits nx0 i).1 + eqL _ ≤ _; omega, fun x hx => ?_⟩
    rcases List.mem_append.1 (show x ∈ (prfN bits nx0 i).2.2 ++ [_] from hx) with hx | hx
    · have := h2 x hx; omega
    · rw [List.mem_singleton.1 hx]; omega
structure RwOk (vars top : Nat) (r : List Int × List Int) : Prop where
  ne : r.1 ≠ []
  lit : ∀ l ∈ r.1, l ≠ 0 ∧ l.natAbs ≤ vars
  hin : ∀ h ∈ r.2, h.natAbs ≤ top
  l1 : r.1.length ≤ 2
  l2 : r.2.length ≤ 4
theorem eqRw_rw {nx vars top : Nat} {b : Bt} (p1 : 0 < b.v1) (pd : 0 < b.vd) (q1 : b.v1 ≤ vars) (qd : b.vd ≤ vars) (c1 : b.c1 + 1 ≤ top) (c2 : b.c2 + 1 ≤ top) (cd : b.cd + 1 ≤ top) (hn : nx ≤ top) : ∀ r ∈ eqRw nx b, RwOk vars top r := by
  intro r hr
  unfold eqRw at hr
  split at hr
  · rw [List.mem_singleton.1 hr]
    refine ⟨by simp, fun l hl => ?_, fun h hh => ?_, by simp, by simp⟩
    · simp at hl; omega
    · simp at hh; omega
  · split at hr
    · rw [List.mem_singleton.1 hr]
      refine ⟨by simp, fun l hl => ?_, fun h hh => ?_, by simp, by simp⟩
      · simp at hl; omega
      · simp at hh; omega
    · rcases List.mem_cons.1 hr with e | e
      · rw [e]
        refine ⟨by simp, fun l hl => ?_, fun h hh => ?_, by simp, by simp⟩
        · simp at hl; omega
        · simp at hh; omega
      · rw [List.mem_singleton.1 e]
        refine ⟨by simp, fun l hl => ?_, fun h hh => ?_, by simp, by simp⟩
        · simp at hl; omega
        · simp at hh; omega
theorem prfR_rw {bits : List Bt} {nx0 vars top : Nat} (hb : ∀ i, i < bits.length → 0 < (bits.getD i {}).v1 ∧ 0 < (bits.getD i {}).vd ∧ (bits.getD i {}).v1 ≤ vars ∧ (bits.getD i {}).vd ≤ vars ∧ (bits.getD i {}).c1 + 1 ≤ top ∧ (bits.getD i {}).c2 + 1 ≤ top ∧ (bits.getD i {}).cd + 1 ≤ top) (ht : nx0 + 2 * bits.length ≤ top) : ∀ i, i ≤ bits.length → (prfR bits nx0 i).length ≤ 2 * i ∧ ∀ r ∈ prfR bits nx0 i, RwOk vars top r := by
  intro i
  induction i with
  | zero => intro _; exact ⟨Nat.le_refl _, fun r h => (by cases h)⟩
  | succ i ih =>
    intro hi
    obtain ⟨h1, h2⟩ := ih (by omega)
    have a := (prfN_rend bits nx0 i).1
    obtain ⟨b1, b2, b3, b4, b5, b6, b7⟩ := hb i (by omega)
    have hl := (eqB_rend (prfN bits nx0 i).1 (bits.getD i {})).2
    have hl2 : eqL (bits.getD i {}) ≤ 2 := by unfold eqL; split <;> omega
    refine ⟨by show (prfR bits nx0 i ++ _).length ≤ _; rw [List.length_append, hl]; omega, fun r hr => ?_⟩
    rcases List.mem_append.1 (show r ∈ prfR bits nx0 i ++ _ from hr) with h | h
    · exact h2 r h
    · exact eqRw_rw b1 b2 b3 b4 b5 b6 b7 (by omega) r h
end Cl
namespace Ck
theorem rows_ok {p : Pg} (ok : PgOk p) (k : Nat) (hk : k ≤ 10) (hs : ¬ (Pr.fd p k).al < k) : RowsOk (Cl.allK p.sec (nodes p k) (told p k)) (Cl.prfA (fm p k).bits (fm p k).ct) (fm p k).vars := by
  have dia := dia_dia ok k
  obtain ⟨d1, d2, d3, d4⟩ := dia_ok ok k hk
  obtain ⟨f1, f2, f3⟩ := fm_size ok k hk
  obtain ⟨a1, a2⟩ := Cl.ahd_len dia
  have hct : (fm p k).ct = (Cl.allK p.sec (nodes p k) (told p k)).length := (Cl.form_rend p.sec (nodes p k) (told p k) dia.desc dia.D).2
  have hva : Cl.vin p.sec + 3 * (told p k).length ≤ (fm p k).vars := (Cl.fok_nds p.sec (nodes p k) (told p k)).vars
  have hbl : (fm p k).bits.length = (told p k).length := Cl.bits_len _ _ _
  have hfol := Cl.prf_ok dia (told_nosec ok k hs)
  have hbits : ∀ i, i < (fm p k).bits.length → 0 < ((fm p k).bits.getD i {}).v1 ∧ 0 < ((fm p k).bits.getD i {}).vd ∧ ((fm p k).bits.getD i {}).v1 ≤ (fm p k).vars ∧ ((fm p k).bits.getD i {}).vd ≤ (fm p k).vars ∧ ((fm p k).bits.getD i {}).c1 + 1 ≤ 4000000 ∧ ((fm p k).bits.getD i {}).c2 + 1 ≤ 4000000 ∧ ((fm p k).bits.getD i {}).cd + 1 ≤ 4000000 := fun i hi => by
    rw [hbl] at hi
    have e : (fm p k).bits.getD i {} = Cl.bitN p.sec (nodes p k) (told p k) i := Cl.bits_get _ _ _ hi
    have x0 := (Cl.all_tl1 dia hi (t := 0) (by unfold sameC; split <;> omega)).2
    have y0 := (Cl.all_tl2 dia hi (t := 0) (by unfold sameC; split <;> omega)).2
    have z0 := (Cl.all_dif dia hi (t := 0) (by omega)).2
    rw [e]
    show 0 < Cl.vin p.sec + 1 + i ∧ 0 < Cl.vin p.sec + 2 * (told p k).length + 1 + i ∧ Cl.vin p.sec + 1 + i ≤ _ ∧ Cl.vin p.sec + 2 * (told p k).length + 1 + i ≤ _ ∧ (Cl.tl1 p.sec (nodes p k) (told p k) i).1 + 1 + 1 ≤ _ ∧ (Cl.tl2 p.sec (nodes p k) (told p k) i).1 + 1 + 1 ≤ _ ∧ (Cl.tl2 p.sec (nodes p k) (told p k) (told p k).length).1 + 4 * i + 1 + 1 ≤ _
    omega
  obtain ⟨r1, r2⟩ := Cl.prfR_rw (nx0 := (fm p k).ct + 1) (vars := (fm p k).vars) (top := 4000000) hbits (by omega) (fm p k).bits.length (Nat.le_refl _)
  have hts : (told p k).length ≤ 70 := by omega
  have hl : (Cl.prfA (fm p k).bits (fm p k).ct).length = (Cl.prfR (fm p k).bits ((fm p k).ct + 1) (fm p k).bits.length).length + 1 := by unfold Cl.prfA; rw [List.length_append]; rfl
  have hh := Cl.prfN_ok (fm p k).bits ((fm p k).ct + 1) (bits_ok ok k hk).2.1 (fm p k).bits.length (by omega)
  have low : ∀ j, j < (Cl.prfR (fm p k).bits ((fm p k).ct + 1) (fm p k).bits.length).length → Cl.RwOk (fm p k).vars 4000000 ((Cl.prfA (fm p k).bits (fm p k).ct).getD j ([], [])) := fun j hj => by
    unfold Cl.prfA
    rw [Cl.getD_app_left hj]
    refine r2 _ ?_
    rw [List.getD_eq_getElem?_getD, List.getElem?_eq_getElem hj]; exact List.getElem_mem hj
  have top : (Cl.prfA (fm p k).bits (fm p k).ct).getD (Cl.prfR (fm p k).bits ((fm p k).ct + 1) (fm p k).bits.length).length ([], []) = ([], (Cl.prfN (fm p k).bits ((fm p k).ct + 1) (fm p k).bits.length).2.2 ++ [((fm p k).ct : Int)]) := by
    unfold Cl.prfA; simp [List.getD_eq_getElem?_getD]
  have cas : ∀ j, j < (Cl.prfA (fm p k).bits (fm p k).ct).length → j < (Cl.prfR (fm p k).bits ((fm p k).ct + 1) (fm p k).bits.length).length ∨ j = (Cl.prfR (fm p k).bits ((fm p k).ct + 1) (fm p k).bits.length).length := fun j hj => by omega
  refine ⟨by omega, by omega, fun j hj => ?_, fun j hj => ?_, fun j hj => ?_, fun j hj => ?_, ?_, fun j hj => ?_, hfol⟩
  · rcases cas j hj with c | rfl
    · exact (low j c).lit
    · rw [top]; intro l hl; cases hl
  · rcases cas j hj with c | rfl
    · intro h hm; have := (low j c).hin h hm; omega
    · rw [top]; intro h hm
      rcases List.mem_append.1 hm with e | e
      · have := (Cl.prfN_hints (fm p k).bits ((fm p k).ct + 1) (fm p k).bits.length).2 h e; omega
      · rw [List.mem_singleton.1 e]; omega
  · rcases cas j hj with c | rfl
    · have := (low j c).l1; omega
    · rw [top]; exact Nat.zero_le _
  · rcases cas j hj with c | rfl
    · have := (low j c).l2; omega
    · rw [top]; show (_ ++ [_]).length ≤ _; rw [List.length_append, hh.2.2.2.1]; simp; omega
  · rw [hl, Nat.add_sub_cancel, top]
  · exact (low j (by omega)).ne
theorem pf_size {p : Pg} (ok : PgOk p) (k : Nat) (hk : k ≤ 10) : (pf p k).2.length ≤ 1000000 := by
  obtain ⟨f1, f2, f3⟩ := fm_size ok k hk
  obtain ⟨b1, b2, b3⟩ := bits_ok ok k hk
  have hh := Cl.prfN_ok (fm p k).bits ((fm p k).ct + 1) b2 (fm p k).bits.length (by omega)
  have hn := Cl.prfN_hints (fm p k).bits ((fm p k).ct + 1) (fm p k).bits.length
  show ((Cl.prfN (fm p k).bits ((fm p k).ct + 1) (fm p k).bits.length).2.1 ++ lineB (Cl.prfN (fm p k).bits ((fm p k).ct + 1) (fm p k).bits.length).1 [] ((Cl.prfN (fm p k).bits ((fm p k).ct + 1) (fm p k).bits.length).2.2 ++ [((fm p k).ct : Int)])).length ≤ _
  have l1 := lineB_len (nx := (Cl.prfN (fm p k).bits ((fm p k).ct + 1) (fm p k).bits.length).1) (ls := []) (hs := (Cl.prfN (fm p k).bits ((fm p k).ct + 1) (fm p k).bits.length).2.2 ++ [((fm p k).ct : Int)]) (by have := hn.1; omega) (fun i => ⟨by simp, by simp⟩) (fun i => by
    by_cases c : i < ((Cl.prfN (fm p k).bits ((fm p k).ct + 1) (fm p k).bits.length).2.2 ++ [((fm p k).ct : Int)]).length
    · rw [List.getD_eq_getElem?_getD, List.getElem?_eq_getElem c]
      have hm := List.getElem_mem c
      rcases List.mem_append.1 hm with e | e
      · have := hh.2.2.2.2 _ e; exact ⟨by show _ ≤ _; simp only [Option.getD_some]; omega, by simp only [Option.getD_some]; omega⟩
      · rw [show (some (((Cl.prfN (fm p k).bits ((fm p k).ct + 1) (fm p k).bits.length).2.2 ++ [((fm p k).ct : Int)])[i])).getD 0 = ((fm p k).ct : Int) from List.mem_singleton.1 e]
        exact ⟨by omega, by omega⟩
    · rw [List.getD_eq_getElem?_getD, List.getElem?_eq_none (by omega)]; exact ⟨by decide, by decide⟩)
  have h3 := hh.2.2.1
  have h4 := hh.2.2.2.1
  rw [List.length_append] at l1 ⊢
  simp only [List.length_nil, List.length_cons] at l1
  omega
end Ck
end Go.Proofs.YtgddmpmcnjlcjabGreatDoor
