import Derived.Test.YtgddmpmcnjlcjabGreatDoorB09
import Derived.WalkSmall
namespace Go.Proofs.YtgddmpmcnjlcjabGreatDoor
open Go.RowKit
set_option linter.unusedVariables false
structure Frm (base : Nat) (S : Nat → Prop) (w w' : World) : Prop where
  bel : Below base w w'
  keep : ∀ k, k < w.heap.size → ¬ S k → w'.heap[k]? = w.heap[k]?
namespace Frm
variable {base : Nat} {S : Nat → Prop} {a w w' : World}
theorem refl (base : Nat) (S : Nat → Prop) (w : World) : Frm base S w w := ⟨Below.refl _ _, fun _ _ _ => rfl⟩
theorem ofBelow (h : Below w.heap.size w w') (hb : base ≤ w.heap.size) : Frm base S w w' := ⟨h.mono hb, fun k hk _ => h.block k hk⟩
theorem alloc (h : Frm base S a w) (hB : base ≤ w.heap.size) (o : Obj) : Frm base S a (w.alloc o) :=
  ⟨h.bel.alloc hB o, fun k hk hs => (Below.heap_alloc w o k (Nat.lt_of_lt_of_le hk h.bel.size)).trans (h.keep k hk hs)⟩
theorem drew (h : Frm base S a w) : Frm base S a w.drew := ⟨h.bel.drew, h.keep⟩
theorem grown {row : Option Nat} (h : Frm base S a w) (hg : w.grownBy w' row) (hB : base ≤ w.heap.size) (hr : ∀ k, row = some k → base ≤ k ∧ S k) : Frm base S a w' :=
  ⟨h.bel.grown hg hB (fun k hk => (hr k hk).1), fun k hk hs => (hg.block k (Nat.lt_of_lt_of_le hk h.bel.size) (fun e => hs (hr k e.symm).2)).trans (h.keep k hk hs)⟩
theorem setCell (h : Frm base S a w) {p : Addr} (hp : base ≤ p.block) (hs : S p.block) (u : Value) : Frm base S a (w.setCell p u) :=
  ⟨h.bel.setCell hp u, fun k hk hk2 => (Below.heap_setCell w p u k (fun e => hk2 (by rw [e]; exact hs))).trans (h.keep k hk hk2)⟩
end Frm
theorem ownsRow_blk {w w' : World} {base : Nat} {e : TypeId} {size : Nat} {v : Value} {n : Nat} {xs : List Value} (h : w.ownsRow base e size v n xs) (hb : ∀ k, v.ownBlock = some k → w'.heap[k]? = w.heap[k]?) : w'.ownsRow base e size v n xs := by
  refine ⟨h.1, ?_⟩
  rcases h.2 with hn | ⟨g, cap, cur, rfl, hb', hgg, rest⟩
  · exact .inl hn
  · exact .inr ⟨g, cap, cur, rfl, hb', by rw [hb g rfl]; exact hgg, rest⟩
namespace Frm
variable {base : Nat} {S T : Nat → Prop} {a b c w : World}
theorem trans (h : Frm base S a b) (k : Frm base T b c) (hT : ∀ k, k < a.heap.size → T k → S k) : Frm base S a c :=
  ⟨h.bel.trans k.bel, fun j hj hs => (k.keep j (Nat.lt_of_lt_of_le hj h.bel.size) (fun t => hs (hT j hj t))).trans (h.keep j hj hs)⟩
theorem drewN (h : Frm base S a w) (n : Nat) : Frm base S a (w.drewN n) := ⟨below_drewN h.bel n, h.keep⟩
theorem imp (h : Frm base S a b) (hT : ∀ k, k < a.heap.size → S k → T k) : Frm base T a b := ⟨h.bel, fun j hj ht => h.keep j hj (fun s => ht (hT j hj s))⟩
theorem cell (h : Frm base S a b) {p : Addr} {v : Value} (hp : a.cell? p = some v) (hs : ¬ S p.block) : b.cell? p = some v :=
  (World.cell?_of_block (h.keep p.block (World.block_lt_of_cell? a p hp) hs)).trans hp
theorem frozen (h : Frm base S a b) {p : Addr} (hp : p.block < a.heap.size) (hs : ¬ S p.block) : b.frozen? p = a.frozen? p := World.frozen?_of_block (h.keep p.block hp hs)
end Frm
theorem bel_trans {a b c : World} (h : Below a.heap.size a b) (k : Below b.heap.size b c) : Below a.heap.size a c := h.trans (k.mono h.size)
theorem bel_drewN {a c : World} {n : Nat} (h : Below (a.drewN n).heap.size (a.drewN n) c) : Below a.heap.size a c := (below_drewN (Below.refl _ a) n).trans h
namespace Frm
variable {base : Nat} {S : Nat → Prop} {a b c : World}
theorem lift (h : Frm 0 S a b) (hS : ∀ k, k < a.heap.size → S k → base ≤ k) (hB : base ≤ a.heap.size) : Frm base S a b :=
  ⟨⟨h.bel.os, h.bel.tape, h.bel.output, h.bel.size, fun k hk => h.keep k (Nat.lt_of_lt_of_le hk hB) (fun s => Nat.lt_irrefl k (Nat.lt_of_lt_of_le hk (hS k (Nat.lt_of_lt_of_le hk hB) s)))⟩, h.keep⟩
theorem down (h : Frm base S a b) : Frm 0 S a b := ⟨h.bel.mono (Nat.zero_le _), h.keep⟩
end Frm
namespace Dg
structure Nd where
  bit : Nat := 0
  lo : Nat := 0
  hi : Nat := 0
  sec : Bool := false
deriving DecidableEq, Inhabited
def Nd.cells (d : Nd) : List Value := [.int .i64 d.bit, .int .i64 d.lo, .int .i64 d.hi, .bool d.sec]
def ndAt (l : List Nd) (i : Nat) : Nd := l.getD i {}
structure St where
  nodes : List Nd := [{}, {}]
  heads : Nat → Nat := fun _ => 0
  behind : List Nat := [0, 0]
def look (nodes : List Nd) (behind : List Nat) (b lo hi : Nat) : Nat → Nat → Nat
  | 0, _ => 0
  | f + 1, n => if n = 0 then 0 else if (ndAt nodes n).bit = b ∧ (ndAt nodes n).lo = lo ∧ (ndAt nodes n).hi = hi then n else look nodes behind b lo hi f (behind.getD n 0)
def chain (M b lo hi : Nat) : Nat := (b + lo * 7919 + hi * 104729) % M
def found (M : Nat) (s : St) (b lo hi : Nat) : Nat := look s.nodes s.behind b lo hi s.nodes.length (s.heads (chain M b lo hi))
def newNd (sec : List Bool) (s : St) (b lo hi : Nat) : Nd := ⟨b, lo, hi, sec.getD (b / 4) false || (ndAt s.nodes lo).sec || (ndAt s.nodes hi).sec⟩
def push (sec : List Bool) (M : Nat) (s : St) (b lo hi : Nat) : St :=
  { nodes := s.nodes ++ [newNd sec s b lo hi], heads := fun i => if i = chain M b lo hi then s.nodes.length else s.heads i, behind := s.behind ++ [s.heads (chain M b lo hi)] }
def nodeOf (sec : List Bool) (M : Nat) (s : St) (b lo hi : Nat) : Nat × St :=
  if lo = hi then (lo, s) else if found M s b lo hi ≠ 0 then (found M s b lo hi, s) else (s.nodes.length, push sec M s b lo hi)
structure Ok (n M : Nat) (s : St) : Prop where
  two : 2 ≤ s.nodes.length
  len : s.behind.length = s.nodes.length
  dec : ∀ i, 0 < i → i < s.nodes.length → s.behind.getD i 0 < i
  heads : ∀ i, s.heads i < s.nodes.length
  lo : ∀ i, 2 ≤ i → i < s.nodes.length → (ndAt s.nodes i).lo < i
  hi : ∀ i, 2 ≤ i → i < s.nodes.length → (ndAt s.nodes i).hi < i
  bit : ∀ i, 2 ≤ i → i < s.nodes.length → (ndAt s.nodes i).bit < 4 * n
theorem ok0 (n M : Nat) : Ok n M {} := ⟨by simp, rfl, fun i h h2 => by
    have h2 : i < 2 := h2
    have : i = 1 := by omega
    subst this
    decide, fun i => by simp, fun i h h2 => absurd (show i < 2 from h2) (by omega), fun i h h2 => absurd (show i < 2 from h2) (by omega), fun i h h2 => absurd (show i < 2 from h2) (by omega)⟩
theorem ndAt_old (l : List Nd) (d : Nd) (i : Nat) (h : i < l.length) : ndAt (l ++ [d]) i = ndAt l i := by simp [ndAt, List.getD_eq_getElem?_getD, List.getElem?_append_left h]
theorem ndAt_new (l : List Nd) (d : Nd) : ndAt (l ++ [d]) l.length = d := by simp [ndAt, List.getD_eq_getElem?_getD]
theorem getD_old (l : List Nat) (d : Nat) (i : Nat) (h : i < l.length) : (l ++ [d]).getD i 0 = l.getD i 0 := by simp [List.getD_eq_getElem?_getD, List.getElem?_append_left h]
theorem getD_new (l : List Nat) (d : Nat) : (l ++ [d]).getD l.length 0 = d := by simp [List.getD_eq_getElem?_getD]
theorem Ok.push {n M : Nat} {s : St} (h : Ok n M s) (sec : List Bool) {b lo hi : Nat} (hb : b < 4 * n) (hl : lo < s.nodes.length) (hh : hi < s.nodes.length) : Ok n M (push sec M s b lo hi) := by
  have hL : (Dg.push sec M s b lo hi).nodes.length = s.nodes.length + 1 := by simp [Dg.push]
  refine ⟨by rw [hL]; have := h.two; omega, by rw [hL]; simp [Dg.push, h.len], fun i h0 h1 => ?_, fun i => ?_, fun i h0 h1 => ?_, fun i h0 h1 => ?_, fun i h0 h1 => ?_⟩
  all_goals try rw [hL] at h1
  · show (s.behind ++ [s.heads (chain M b lo hi)]).getD i 0 < i
    by_cases c : i < s.nodes.length
    · rw [getD_old _ _ _ (by rw [h.len]; exact c)]
      exact h.dec i h0 c
    · have : i = s.behind.length := by rw [h.len]; omega
      subst this
      rw [getD_new, h.len]
      exact h.heads _
  · rw [hL]
    show (if i = chain M b lo hi then s.nodes.length else s.heads i) < _
    have := h.heads i
    split <;> omega
  · show (ndAt (s.nodes ++ [_]) i).lo < i
    by_cases c : i < s.nodes.length
    · rw [ndAt_old _ _ _ c]; exact h.lo i h0 c
    · have : i = s.nodes.length := by omega
      subst this
      rw [ndAt_new]
      exact hl
  · show (ndAt (s.nodes ++ [_]) i).hi < i
    by_cases c : i < s.nodes.length
    · rw [ndAt_old _ _ _ c]; exact h.hi i h0 c
    · have : i = s.nodes.length := by omega
      subst this
      rw [ndAt_new]
      exact hh
  · show (ndAt (s.nodes ++ [_]) i).bit < 4 * n
    by_cases c : i < s.nodes.length
    · rw [ndAt_old _ _ _ c]; exact h.bit i h0 c
    · have : i = s.nodes.length := by omega
      subst this
      rw [ndAt_new]
      exact hb
theorem look_le (nodes : List Nd) (behind : List Nat) (b lo hi : Nat) (hd : ∀ i, 0 < i → i < nodes.length → behind.getD i 0 < i) (f : Nat) : ∀ n, n < nodes.length → look nodes behind b lo hi f n < nodes.length := by
  induction f with
  | zero => intro n h; show 0 < _; omega
  | succ f ih =>
    intro n h
    unfold look
    by_cases c : n = 0
    · rw [if_pos c]; omega
    · rw [if_neg c]
      split
      · exact h
      · exact ih _ (by have := hd n (by omega) h; omega)
theorem Ok.found {n M : Nat} {s : St} (h : Ok n M s) (b lo hi : Nat) : found M s b lo hi < s.nodes.length := look_le _ _ _ _ _ h.dec _ _ (h.heads _)
theorem Ok.made {n M : Nat} {s : St} (h : Ok n M s) (sec : List Bool) {b lo hi : Nat} (hb : b < 4 * n) (hl : lo < s.nodes.length) (hh : hi < s.nodes.length) :
    Ok n M (nodeOf sec M s b lo hi).2 ∧ (nodeOf sec M s b lo hi).1 < (nodeOf sec M s b lo hi).2.nodes.length ∧ s.nodes.length ≤ (nodeOf sec M s b lo hi).2.nodes.length ∧ (nodeOf sec M s b lo hi).2.nodes.length ≤ s.nodes.length + 1 := by
  unfold Dg.nodeOf
  split
  · exact ⟨h, hl, Nat.le_refl _, Nat.le_succ _⟩
  · split
    · exact ⟨h, h.found b lo hi, Nat.le_refl _, Nat.le_succ _⟩
    · have hL : (Dg.push sec M s b lo hi).nodes.length = s.nodes.length + 1 := by simp [Dg.push]
      exact ⟨h.push sec hb hl hh, by rw [hL]; simp, by rw [hL]; omega, by rw [hL]; omega⟩
def layR (T : Nat → List Nat) (step bit i : Nat) : Nat := (T i).getD step 0 >>> bit &&& 1
def levN (sec : List Bool) (M b : Nat) (s : St) (r : Nat → Nat) : Nat → St × (Nat → Nat)
  | 0 => (s, r)
  | i + 1 => let x := levN sec M b s r i; let y := nodeOf sec M x.1 b (x.2 (2 * i)) (x.2 (2 * i + 1)); (y.2, fun j => if j = i then y.1 else x.2 j)
def levs (sec : List Bool) (M : Nat) (bits : List Nat) (s : St) (r : Nat → Nat) (rest : Nat) : Nat → St × (Nat → Nat)
  | 0 => (s, r)
  | L + 1 => let x := levs sec M bits s r rest L; levN sec M (bits.getD L 0) x.1 x.2 (rest / 2 ^ (L + 1))
theorem levN_ok {n M b : Nat} {s : St} {r : Nat → Nat} (sec : List Bool) (h : Ok n M s) (hr : ∀ j, r j < s.nodes.length) (hb : b < 4 * n) (i : Nat) :
    Ok n M (levN sec M b s r i).1 ∧ (∀ j, (levN sec M b s r i).2 j < (levN sec M b s r i).1.nodes.length) ∧ s.nodes.length ≤ (levN sec M b s r i).1.nodes.length ∧ (levN sec M b s r i).1.nodes.length ≤ s.nodes.length + i := by
  induction i with
  | zero => exact ⟨h, hr, Nat.le_refl _, Nat.le_refl _⟩
  | succ i ih =>
    obtain ⟨h1, h2, h3, h4⟩ := ih
    obtain ⟨k1, k2, k3, k4⟩ := h1.made sec hb (h2 (2 * i)) (h2 (2 * i + 1))
    refine ⟨k1, fun j => ?_, Nat.le_trans h3 k3, by have := k4; show (nodeOf sec M _ b _ _).2.nodes.length ≤ _; omega⟩
    show (if j = i then _ else _) < (nodeOf sec M _ b _ _).2.nodes.length
    split
    · exact k2
    · exact Nat.lt_of_lt_of_le (h2 j) k3
theorem half (R L : Nat) : 2 * (R / 2 ^ (L + 1)) ≤ R / 2 ^ L := by
  rw [Nat.pow_succ, ← Nat.div_div_eq_div_mul]
  omega
theorem levs_ok {n M rest : Nat} {s : St} {r : Nat → Nat} (sec : List Bool) (bits : List Nat) (h : Ok n M s) (hr : ∀ j, r j < s.nodes.length) (hb : ∀ i, i < bits.length → bits.getD i 0 < 4 * n) (L : Nat) (hL : L ≤ bits.length) :
    Ok n M (levs sec M bits s r rest L).1 ∧ (∀ j, (levs sec M bits s r rest L).2 j < (levs sec M bits s r rest L).1.nodes.length) ∧ s.nodes.length ≤ (levs sec M bits s r rest L).1.nodes.length ∧ (levs sec M bits s r rest L).1.nodes.length + rest / 2 ^ L ≤ s.nodes.length + rest := by
  induction L with
  | zero => exact ⟨h, hr, Nat.le_refl _, by simp [levs]⟩
  | succ L ih =>
    obtain ⟨h1, h2, h3, h4⟩ := ih (by omega)
    obtain ⟨k1, k2, k3, k4⟩ := levN_ok sec h1 h2 (hb L (by omega)) (rest / 2 ^ (L + 1))
    refine ⟨k1, k2, Nat.le_trans h3 k3, ?_⟩
    show (levN sec M _ _ _ _).1.nodes.length + _ ≤ _
    have := half rest L
    omega
theorem layR_lt (T : Nat → List Nat) (step bit i : Nat) : layR T step bit i < 2 := by
  have h1 : (T i).getD step 0 >>> bit &&& 1 ≤ 1 := Nat.and_le_right
  show (T i).getD step 0 >>> bit &&& 1 < 2
  omega
def stp (sec : List Bool) (M : Nat) (bits : List Nat) (T : Nat → List Nat) : Nat → St × List Nat
  | 0 => ({}, [])
  | c + 1 => let x := stp sec M bits T c; let y := levs sec M bits x.1 (layR T (c / 7) (c % 7)) M bits.length; (y.1, x.2 ++ [y.2 0])
theorem stp_ok (n : Nat) (sec : List Bool) (M : Nat) (bits : List Nat) (T : Nat → List Nat) (hb : ∀ i, i < bits.length → bits.getD i 0 < 4 * n) (c : Nat) :
    Ok n M (stp sec M bits T c).1 ∧ (stp sec M bits T c).2.length = c ∧ (∀ j, j < c → (stp sec M bits T c).2.getD j 0 < (stp sec M bits T c).1.nodes.length) ∧ (stp sec M bits T c).1.nodes.length ≤ 2 + c * M := by
  induction c with
  | zero => exact ⟨ok0 n M, rfl, fun j h => absurd h (by omega), by simp [stp]⟩
  | succ c ih =>
    obtain ⟨h1, h2, h3, h4⟩ := ih
    obtain ⟨k1, k2, k3, k4⟩ := levs_ok (rest := M) (r := layR T (c / 7) (c % 7)) sec bits h1 (fun j => Nat.lt_of_lt_of_le (layR_lt T (c / 7) (c % 7) j) h1.two) hb bits.length (Nat.le_refl _)
    refine ⟨k1, by show (_ ++ [_]).length = _; rw [List.length_append, h2]; rfl, fun j hj => ?_, ?_⟩
    · show ((stp sec M bits T c).2 ++ [_]).getD j 0 < (levs sec M bits _ _ M bits.length).1.nodes.length
      by_cases e : j < c
      · rw [getD_old _ _ _ (by rw [h2]; exact e)]
        exact Nat.lt_of_lt_of_le (h3 j e) k3
      · have : j = (stp sec M bits T c).2.length := by rw [h2]; omega
        rw [this, getD_new]
        exact k2 0
    · show (levs sec M bits (stp sec M bits T c).1 (layR T (c / 7) (c % 7)) M bits.length).1.nodes.length ≤ _
      rw [Nat.succ_mul]
      generalize M / 2 ^ bits.length = q at k4
      omega
theorem stp_mono (n : Nat) (sec : List Bool) (M : Nat) (bits : List Nat) (T : Nat → List Nat) (hb : ∀ i, i < bits.length → bits.getD i 0 < 4 * n) (c d : Nat) (h : c ≤ d) : (stp sec M bits T c).1.nodes.length ≤ (stp sec M bits T d).1.nodes.length := by
  induction d with
  | zero => rw [Nat.le_zero.1 h]; exact Nat.le_refl _
  | succ d ih =>
    by_cases e : c ≤ d
    · obtain ⟨h1, _⟩ := stp_ok n sec M bits T hb d
      obtain ⟨k1, k2, k3, k4⟩ := levs_ok (rest := M) (r := layR T (d / 7) (d % 7)) sec bits h1 (fun j => Nat.lt_of_lt_of_le (layR_lt T (d / 7) (d % 7) j) h1.two) hb bits.length (Nat.le_refl _)
      exact Nat.le_trans (ih e) k3
    · have : c = d + 1 := by omega
      subst this
      exact Nat.le_refl _
end Dg
def mkc (pv : Nat → Value) (vN vH vB vR : Value) (i : Nat) : Value := if i < 5 then pv i else if i = 5 then vN else if i = 6 then vH else if i = 7 then vB else vR
abbrev sl (g n c : Nat) : Value := .slice (some ⟨g, 0, none⟩) n c
structure MkAt (w0 : World) (mb gh gr M : Nat) (s : Dg.St) (r : Nat → Nat) (pv : Nat → Value) (vN vB : Value) (w : World) : Prop where
  row : w.rowIs mb 108 9 (mkc pv vN (sl gh M M) vB (sl gr M M))
  nodes : w.ownsRow w0.heap.size 160 4 vN s.nodes.length (s.nodes.flatMap Dg.Nd.cells)
  behind : w.ownsRow w0.heap.size 3 1 vB s.behind.length (s.behind.map fun (n : Nat) => .int .i64 n)
  heads : w.rowIs gh 3 M (fun i => .int .i64 (s.heads i))
  rows : w.rowIs gr 3 M (fun i => .int .i64 (r i))
  bm : w0.heap.size ≤ mb
  bh : w0.heap.size ≤ gh
  br : w0.heap.size ≤ gr
  nhr : gh ≠ gr
  nbh : vB.ownBlock ≠ some gh
  nbr : vB.ownBlock ≠ some gr
  bel : Below w0.heap.size w0 w
section
variable {w0 w : World} {mb gh gr M : Nat} {s : Dg.St} {r : Nat → Nat} {pv : Nat → Value} {vN vB : Value}
theorem row_ne {b c n m : Nat} {t e : TypeId} {f g : Nat → Value} (h : w.rowIs b t n f) (k : w.rowIs c e m g) (ht : t ≠ e) : b ≠ c := by
  rintro rfl
  obtain ⟨cs, hg, -⟩ := h
  obtain ⟨cs2, hg2, -⟩ := k
  rw [hg] at hg2
  cases hg2
  exact ht rfl
theorem own_ne_row {base b n m sz : Nat} {t e : TypeId} {v : Value} {xs : List Value} {f : Nat → Value} (h : w.ownsRow base e sz v n xs) (hr : w.rowIs b t m f) (ht : t ≠ e) : v.ownBlock ≠ some b := by
  intro hv
  obtain ⟨cs, hg, -⟩ := hr
  rcases h.2 with ⟨e1, _⟩ | ⟨g, cap, cur, rfl, _, hgg, _⟩
  · rw [e1] at hv; simp [Value.ownBlock] at hv
  · have e1 : g = b := by simpa [Value.ownBlock] using hv
    subst e1
    rw [hg] at hgg
    cases hgg
    exact ht rfl
theorem MkAt.setRow (h : MkAt w0 mb gh gr M s r pv vN vB w) (i v : Nat) : MkAt w0 mb gh gr M s (fun j => if j = i then v else r j) pv vN vB (w.setCell ⟨gr, i, none⟩ (.int .i64 v)) :=
  ⟨h.row.setOther (row_ne h.row h.rows (by decide)) _, ownsRow_setCell h.nodes (own_ne_row h.nodes h.rows (by decide)) _, ownsRow_setCell h.behind h.nbr _, h.heads.setOther h.nhr _, (h.rows.set i _).congr (fun j _ => by split <;> rfl), h.bm, h.bh, h.br, h.nhr, h.nbh, h.nbr, h.bel.setCell h.br _⟩
theorem MkAt.drew (h : MkAt w0 mb gh gr M s r pv vN vB w) : MkAt w0 mb gh gr M s r pv vN vB w.drew :=
  ⟨h.row.drew, h.nodes, h.behind, h.heads.drew, h.rows.drew, h.bm, h.bh, h.br, h.nhr, h.nbh, h.nbr, h.bel.drew⟩
theorem MkAt.congr (h : MkAt w0 mb gh gr M s r pv vN vB w) {r' : Nat → Nat} (e : ∀ i, i < M → r i = r' i) : MkAt w0 mb gh gr M s r' pv vN vB w :=
  ⟨h.row, h.nodes, h.behind, h.heads, h.rows.congr (fun i hi => by rw [e i hi]), h.bm, h.bh, h.br, h.nhr, h.nbh, h.nbr, h.bel⟩
theorem MkAt.alloc (h : MkAt w0 mb gh gr M s r pv vN vB w) (o : Obj) : MkAt w0 mb gh gr M s r pv vN vB (w.alloc o) :=
  ⟨h.row.alloc o, h.nodes.alloc o, h.behind.alloc o, h.heads.alloc o, h.rows.alloc o, h.bm, h.bh, h.br, h.nhr, h.nbh, h.nbr, h.bel.alloc h.bel.size o⟩
end
theorem nums_at {w : World} {base : Nat} {e : TypeId} {l : List Nat} {g cap : Nat} (h : w.ownsRow base e 1 (.slice (some ⟨g, 0, none⟩) l.length cap) l.length (l.map fun (n : Nat) => .int .i64 n)) (i : Nat) (hi : i < l.length) : w.cell? ⟨g, i, none⟩ = some (.int .i64 (l.getD i 0)) := by
  rw [h.cellAt i (by omega)]; simp [hi]
namespace Dg
theorem flat_get (l : List Nd) : ∀ (i j : Nat), i < l.length → j < 4 → (l.flatMap Nd.cells)[i * 4 + j]? = (ndAt l i).cells[j]? := by
  induction l with
  | nil => intro i j h; exact absurd h (by simp)
  | cons a l ih =>
    intro i j h hj
    rw [List.flatMap_cons]
    cases i with
    | zero => rw [List.getElem?_append_left (by simp [Nd.cells]; omega)]; simp [ndAt]
    | succ i =>
      rw [List.getElem?_append_right (by simp [Nd.cells]; omega), show a.cells.length = 4 from rfl, show (i + 1) * 4 + j - 4 = i * 4 + j by omega, ih i j (by simpa using h) hj]
      simp [ndAt]
end Dg
def MkFr (mb gh gr : Nat) (vN vB vN' vB' : Value) (w w' : World) : Prop :=
  Frm 0 (fun k => k = mb ∨ k = gh ∨ k = gr ∨ vN.ownBlock = some k ∨ vB.ownBlock = some k) w w' ∧ (∀ k, vN'.ownBlock = some k → k < w.heap.size → vN.ownBlock = some k) ∧ (∀ k, vB'.ownBlock = some k → k < w.heap.size → vB.ownBlock = some k)
theorem MkFr.refl (mb gh gr : Nat) (vN vB : Value) (w : World) : MkFr mb gh gr vN vB vN vB w w := ⟨Frm.refl _ _ _, fun _ h _ => h, fun _ h _ => h⟩
theorem MkFr.trans {mb gh gr : Nat} {vN vB vN' vB' vN2 vB2 : Value} {a b c : World} (h : MkFr mb gh gr vN vB vN' vB' a b) (k : MkFr mb gh gr vN' vB' vN2 vB2 b c) : MkFr mb gh gr vN vB vN2 vB2 a c :=
  ⟨h.1.trans k.1 (fun q hq t => by
      rcases t with t | t | t | t | t
      · exact .inl t
      · exact .inr (.inl t)
      · exact .inr (.inr (.inl t))
      · exact .inr (.inr (.inr (.inl (h.2.1 q t hq))))
      · exact .inr (.inr (.inr (.inr (h.2.2 q t hq))))), fun q e hq => h.2.1 q (k.2.1 q e (Nat.lt_of_lt_of_le hq h.1.bel.size)) hq, fun q e hq => h.2.2 q (k.2.2 q e (Nat.lt_of_lt_of_le hq h.1.bel.size)) hq⟩
theorem MkFr.drew {mb gh gr : Nat} {vN vB vN' vB' : Value} {a b : World} (h : MkFr mb gh gr vN vB vN' vB' a b) : MkFr mb gh gr vN vB vN' vB' a b.drew := ⟨h.1.drew, h.2.1, h.2.2⟩
section
variable {w0 w : World} {mb gh gr M : Nat} {s : Dg.St} {r : Nat → Nat} {pv : Nat → Value} {vN vB : Value}
theorem MkAt.ndc {gN cN : Nat} (h : MkAt w0 mb gh gr M s r pv (sl gN s.nodes.length cN) vB w) (i : Nat) (hi : i < s.nodes.length) (j : Nat) (hj : j < 4) : w.cell? ⟨gN, i * 4 + j, none⟩ = (Dg.ndAt s.nodes i).cells[j]? := (h.nodes.cellAt (i * 4 + j) (by omega)).trans (Dg.flat_get _ i j hi hj)
theorem MkAt.bhc {gB cB : Nat} (h : MkAt w0 mb gh gr M s r pv vN (sl gB s.behind.length cB) w) (i : Nat) (hi : i < s.behind.length) : w.cell? ⟨gB, i, none⟩ = some (.int .i64 (s.behind.getD i 0)) := nums_at h.behind i hi
theorem MkAt.c5 (h : MkAt w0 mb gh gr M s r pv vN vB w) : w.cell? ⟨mb, 5, none⟩ = some vN := h.row.cell (i := 5) (by omega)
theorem MkAt.c6 (h : MkAt w0 mb gh gr M s r pv vN vB w) : w.cell? ⟨mb, 6, none⟩ = some (sl gh M M) := h.row.cell (i := 6) (by omega)
theorem MkAt.c7 (h : MkAt w0 mb gh gr M s r pv vN vB w) : w.cell? ⟨mb, 7, none⟩ = some vB := h.row.cell (i := 7) (by omega)
theorem MkAt.c8 (h : MkAt w0 mb gh gr M s r pv vN vB w) : w.cell? ⟨mb, 8, none⟩ = some (sl gr M M) := h.row.cell (i := 8) (by omega)
theorem own_ne_own {base base' n m sz sz' : Nat} {t e : TypeId} {v u : Value} {xs ys : List Value} (h : w.ownsRow base e sz v n xs) (k : w.ownsRow base' t sz' u m ys) (ht : t ≠ e) (g : Nat) (hv : v.ownBlock = some g) : u.ownBlock ≠ some g := by
  intro hu
  rcases h.2 with ⟨e1, _⟩ | ⟨g1, cap, cur, rfl, _, hg1, _⟩
  · rw [e1] at hv; simp [Value.ownBlock] at hv
  · rcases k.2 with ⟨e2, _⟩ | ⟨g2, cap2, cur2, rfl, _, hg2, _⟩
    · rw [e2] at hu; simp [Value.ownBlock] at hu
    · have a1 : g1 = g := by simpa [Value.ownBlock] using hv
      have a2 : g2 = g := by simpa [Value.ownBlock] using hu
      subst a1
      subst a2
      rw [hg1] at hg2
      cases hg2
      exact ht rfl
theorem mkc_set (pv : Nat → Value) (vN vH vB vR u : Value) (i : Nat) (hi : i < 9) : (if i = 5 then u else mkc pv vN vH vB vR i) = mkc pv u vH vB vR i := by
  unfold mkc
  by_cases c : i = 5
  · subst c; rfl
  · rw [if_neg c]
    by_cases c2 : i < 5
    · rw [if_pos c2, if_pos c2]
    · rw [if_neg c2, if_neg c2, if_neg c, if_neg c]
theorem mkc_set7 (pv : Nat → Value) (vN vH vB vR u : Value) (i : Nat) (hi : i < 9) : (if i = 7 then u else mkc pv vN vH vB vR i) = mkc pv vN vH u vR i := by
  unfold mkc
  by_cases c : i = 7
  · subst c; rfl
  · rw [if_neg c]
    by_cases c2 : i < 5
    · rw [if_pos c2, if_pos c2]
    · rw [if_neg c2, if_neg c2]
      by_cases c3 : i = 5
      · rw [if_pos c3, if_pos c3]
      · rw [if_neg c3, if_neg c3]
        by_cases c4 : i = 6
        · rw [if_pos c4, if_pos c4]
        · rw [if_neg c4, if_neg c4, if_neg c, if_neg c]
theorem MkAt.growN (h : MkAt w0 mb gh gr M s r pv vN vB w) (o : Obj) {w1 : World} {vN' : Value} (d : Dg.Nd) (hown : w1.ownsRow w0.heap.size 160 4 vN' (s.nodes.length + 1) (s.nodes.flatMap Dg.Nd.cells ++ d.cells)) (hg : (w.alloc o).grownBy w1 vN.ownBlock) :
    MkAt w0 mb gh gr M { s with nodes := s.nodes ++ [d] } r pv vN' vB (w1.setCell ⟨mb, 5, none⟩ vN') := by
  have h2 := h.alloc o
  have z : w0.heap.size ≤ (w.alloc o).heap.size := h2.bel.size
  have row1 := rowIs_grown h2.row hg (own_ne_row h2.nodes h2.row (by decide))
  refine ⟨(row1.set 5 vN').congr (fun i hi => mkc_set _ _ _ _ _ _ i hi), ?_, ?_, ?_, ?_, h.bm, h.bh, h.br, h.nhr, h.nbh, h.nbr, ?_⟩
  · have e1 : (s.nodes ++ [d]).length = s.nodes.length + 1 := by simp
    have e2 : (s.nodes ++ [d]).flatMap Dg.Nd.cells = s.nodes.flatMap Dg.Nd.cells ++ d.cells := by simp
    show World.ownsRow _ _ _ _ _ (s.nodes ++ [d]).length ((s.nodes ++ [d]).flatMap Dg.Nd.cells)
    rw [e1, e2]
    exact ownsRow_setCell hown (own_ne_row hown row1 (by decide)) _
  · refine ownsRow_setCell (ownsRow_blk h2.behind (fun k e => hg.block k (h2.behind.lt k e).2 (fun e2 => own_ne_own h2.nodes h2.behind (by decide) k e2.symm e))) ?_ _
    exact own_ne_row h2.behind h2.row (by decide)
  · exact (rowIs_grown h2.heads hg (own_ne_row h2.nodes h2.heads (by decide))).setOther (fun e => row_ne h2.row h2.heads (by decide) e.symm) _
  · exact (rowIs_grown h2.rows hg (own_ne_row h2.nodes h2.rows (by decide))).setOther (fun e => row_ne h2.row h2.rows (by decide) e.symm) _
  · exact (h2.bel.grown hg z (fun k e => (h.nodes.lt k e).1)).setCell h.bm _
theorem MkAt.growB (h : MkAt w0 mb gh gr M s r pv vN vB w) (o : Obj) {w1 : World} {g' cap' : Nat} (x : Nat) (hown : w1.ownsRow w0.heap.size 3 1 (sl g' (s.behind.length + 1) cap') (s.behind.length + 1) ((s.behind.map fun (n : Nat) => .int .i64 n) ++ [.int .i64 x])) (hg : (w.alloc o).grownBy w1 vB.ownBlock) (hat : vB.ownBlock = some g' ∨ g' = w.heap.size + 1) :
    MkAt w0 mb gh gr M { s with behind := s.behind ++ [x] } r pv vN (sl g' (s.behind.length + 1) cap') (w1.setCell ⟨mb, 7, none⟩ (sl g' (s.behind.length + 1) cap')) := by
  have h2 := h.alloc o
  have z : w0.heap.size ≤ (w.alloc o).heap.size := h2.bel.size
  have row1 := rowIs_grown h2.row hg (own_ne_row h2.behind h2.row (by decide))
  have lh := h.heads.lt
  have lr := h.rows.lt
  have ng : ∀ q, q < w.heap.size → vB.ownBlock ≠ some q → (sl g' (s.behind.length + 1) cap').ownBlock ≠ some q := fun q hq hn e => by
    have e : g' = q := by simpa [Value.ownBlock] using e
    rcases hat with c | c
    · exact hn (by rw [c, e])
    · omega
  refine ⟨(row1.set 7 _).congr (fun i hi => mkc_set7 _ _ _ _ _ _ i hi), ?_, ?_, ?_, ?_, h.bm, h.bh, h.br, h.nhr, ng _ lh h.nbh, ng _ lr h.nbr, ?_⟩
  · refine ownsRow_setCell (ownsRow_blk h2.nodes (fun k e => hg.block k (h2.nodes.lt k e).2 (fun e2 => own_ne_own h2.nodes h2.behind (by decide) k e e2.symm))) ?_ _
    exact own_ne_row h2.nodes h2.row (by decide)
  · have e1 : (s.behind ++ [x]).length = s.behind.length + 1 := by simp
    have e2 : ((s.behind ++ [x]).map fun (n : Nat) => (Value.int .i64 n)) = (s.behind.map fun (n : Nat) => .int .i64 n) ++ [.int .i64 x] := by simp
    show World.ownsRow _ _ _ _ _ (s.behind ++ [x]).length ((s.behind ++ [x]).map fun (n : Nat) => (Value.int .i64 n))
    rw [e1, e2]
    exact ownsRow_setCell hown (own_ne_row hown row1 (by decide)) _
  · exact (rowIs_grown h2.heads hg h.nbh).setOther (fun e => row_ne h2.row h2.heads (by decide) e.symm) _
  · exact (rowIs_grown h2.rows hg h.nbr).setOther (fun e => row_ne h2.row h2.rows (by decide) e.symm) _
  · exact (h2.bel.grown hg z (fun k e => (h.behind.lt k e).1)).setCell h.bm _
theorem MkAt.rowN (h : MkAt w0 mb gh gr M s r pv vN vB w) {o : Obj} {w1 : World} (hg : (w.alloc o).grownBy w1 vN.ownBlock) : w1.rowIs mb 108 9 (mkc pv vN (sl gh M M) vB (sl gr M M)) := rowIs_grown (h.alloc o).row hg (own_ne_row (h.alloc o).nodes (h.alloc o).row (by decide))
theorem MkAt.headsN (h : MkAt w0 mb gh gr M s r pv vN vB w) {o : Obj} {w1 : World} (hg : (w.alloc o).grownBy w1 vN.ownBlock) : w1.rowIs gh 3 M (fun i => .int .i64 (s.heads i)) := rowIs_grown (h.alloc o).heads hg (own_ne_row (h.alloc o).nodes (h.alloc o).heads (by decide))
theorem MkAt.rowB (h : MkAt w0 mb gh gr M s r pv vN vB w) {o : Obj} {w1 : World} (hg : (w.alloc o).grownBy w1 vB.ownBlock) : w1.rowIs mb 108 9 (mkc pv vN (sl gh M M) vB (sl gr M M)) := rowIs_grown (h.alloc o).row hg (own_ne_row (h.alloc o).behind (h.alloc o).row (by decide))
theorem MkAt.setHead (h : MkAt w0 mb gh gr M s r pv vN vB w) (i v : Nat) : MkAt w0 mb gh gr M { s with heads := fun j => if j = i then v else s.heads j } r pv vN vB (w.setCell ⟨gh, i, none⟩ (.int .i64 v)) :=
  ⟨h.row.setOther (row_ne h.row h.heads (by decide)) _, ownsRow_setCell h.nodes (own_ne_row h.nodes h.heads (by decide)) _, ownsRow_setCell h.behind h.nbh _, (h.heads.set i _).congr (fun j _ => by by_cases c : j = i <;> simp [c]), h.rows.setOther (fun e => h.nhr e.symm) _, h.bm, h.bh, h.br, h.nhr, h.nbh, h.nbr, h.bel.setCell h.bh _⟩
theorem MkFr.growN {vN' vB' : Value} {a : World} (h : MkFr mb gh gr vN vB vN' vB' a w) (o : Obj) {w1 : World} {g' n' cap' : Nat} (hg : (w.alloc o).grownBy w1 vN'.ownBlock) (hat : vN'.ownBlock = some g' ∨ g' = w.heap.size + 1) : MkFr mb gh gr vN vB (sl g' n' cap') vB' a (w1.setCell ⟨mb, 5, none⟩ (sl g' n' cap')) := by
  have z := h.1.bel.size
  refine ⟨⟨((h.1.bel.alloc (Nat.zero_le _) o).grown hg (Nat.zero_le _) (fun _ _ => Nat.zero_le _)).setCell (Nat.zero_le _) _, fun k hk hs => ?_⟩, fun k e hk => ?_, h.2.2⟩
  · rw [Below.heap_setCell w1 ⟨mb, 5, none⟩ _ k (fun e => hs (.inl e)), hg.block k (by simp; omega) (fun e => hs (.inr (.inr (.inr (.inl (h.2.1 k e.symm hk)))))), Below.heap_alloc w o k (by omega)]
    exact h.1.keep k hk hs
  · have e : g' = k := by simpa [Value.ownBlock] using e
    rcases hat with c | c
    · exact h.2.1 k (by rw [c, e]) hk
    · omega
theorem MkFr.growB {vN' vB' : Value} {a : World} (h : MkFr mb gh gr vN vB vN' vB' a w) (o : Obj) {w1 : World} {g' n' cap' : Nat} (hg : (w.alloc o).grownBy w1 vB'.ownBlock) (hat : vB'.ownBlock = some g' ∨ g' = w.heap.size + 1) : MkFr mb gh gr vN vB vN' (sl g' n' cap') a (w1.setCell ⟨mb, 7, none⟩ (sl g' n' cap')) := by
  have z := h.1.bel.size
  refine ⟨⟨((h.1.bel.alloc (Nat.zero_le _) o).grown hg (Nat.zero_le _) (fun _ _ => Nat.zero_le _)).setCell (Nat.zero_le _) _, fun k hk hs => ?_⟩, h.2.1, fun k e hk => ?_⟩
  · rw [Below.heap_setCell w1 ⟨mb, 7, none⟩ _ k (fun e => hs (.inl e)), hg.block k (by simp; omega) (fun e => hs (.inr (.inr (.inr (.inr (h.2.2 k e.symm hk)))))), Below.heap_alloc w o k (by omega)]
    exact h.1.keep k hk hs
  · have e : g' = k := by simpa [Value.ownBlock] using e
    rcases hat with c | c
    · exact h.2.2 k (by rw [c, e]) hk
    · omega
theorem MkFr.setHead {vN' vB' : Value} {a : World} (h : MkFr mb gh gr vN vB vN' vB' a w) (i : Nat) (u : Value) : MkFr mb gh gr vN vB vN' vB' a (w.setCell ⟨gh, i, none⟩ u) := ⟨h.1.setCell (Nat.zero_le _) (.inr (.inl rfl)) _, h.2.1, h.2.2⟩
theorem MkFr.setRow {vN' vB' : Value} {a : World} (h : MkFr mb gh gr vN vB vN' vB' a w) (i : Nat) (u : Value) : MkFr mb gh gr vN vB vN' vB' a (w.setCell ⟨gr, i, none⟩ u) := ⟨h.1.setCell (Nat.zero_le _) (.inr (.inr (.inl rfl))) _, h.2.1, h.2.2⟩
end
end Go.Proofs.YtgddmpmcnjlcjabGreatDoor
