import Derived.Test.YtgddmpmcnjlcjabGreatDoorK01
import Derived.Test.YtgddmpmcnjlcjabGreatDoorB22
import Derived.Test.YtgddmpmcnjlcjabGreatDoorB23
namespace Go.Proofs.YtgddmpmcnjlcjabGreatDoor
set_option linter.unusedVariables false
namespace Cl
open Nz (wrds lineZ rend)
def clL (a b c : Int) : List Int := [a, b, c].filter fun z => decide (z ≠ 0)
theorem litB_wrds (l : Int) : litB l = wrds ([l].filter fun z => decide (z ≠ 0)) := by
  unfold litB
  by_cases h : l = 0
  · subst h; rfl
  · rw [if_neg h, List.filter_cons_of_pos (by simp [h])]
    show _ = wrds [l]
    rw [Nz.wrds_cons]
    rfl
theorem clauseB_rend (a b c : Int) : clauseB a b c = rend [clL a b c] := by
  unfold clauseB clL
  rw [litB_wrds, litB_wrds, litB_wrds, ← Nz.wrds_app, ← Nz.wrds_app, ← List.filter_append, ← List.filter_append, Nz.rend_cons]
  show _ = (wrds _ ++ [48]) ++ 10 :: []
  rw [List.append_assoc (wrds _) [48]]
  rfl
def sameK (g : Nat → Nat) (v : Int) (node : Nat) (u : Int) : List (List Int) :=
  if node = 0 then [clL (-v) u 0] else if node = 1 then [clL v u 0] else [clL (-v) u (g node), clL v u (-(g node : Int))]
theorem sameB_rend (N : List Nat) (v : Int) (node : Nat) (u : Int) : sameB N v node u = rend (sameK (fun i => N.getD i 0) v node u) := by
  unfold sameB sameK
  split
  · exact clauseB_rend _ _ _
  · split
    · exact clauseB_rend _ _ _
    · rw [clauseB_rend, clauseB_rend, ← Nz.rend_app]; rfl
theorem sameK_len (g : Nat → Nat) (v : Int) (node : Nat) (u : Int) : (sameK g v node u).length = sameC node := by
  unfold sameK sameC
  by_cases h0 : node = 0
  · rw [if_pos h0, if_pos (by omega)]; rfl
  · by_cases h1 : node = 1
    · rw [if_neg h0, if_pos h1, if_pos (by omega)]; rfl
    · rw [if_neg h0, if_neg h1, if_neg (by omega)]; rfl
theorem sameK_congr {g h : Nat → Nat} {v : Int} {node : Nat} {u : Int} (e : g node = h node) : sameK g v node u = sameK h v node u := by
  unfold sameK; rw [e]
def nodeK (u : Nat) (g : Nat → Nat) (v lo hi : Nat) : List (List Int) := sameK g v lo u ++ sameK g v hi (-(u : Int))
theorem nodeB_rend (bits N : List Nat) (v bit lo hi : Nat) : nodeB bits N (v : Int) bit lo hi = rend (nodeK (bits.getD bit 0) (fun i => N.getD i 0) v lo hi) := by
  unfold nodeB nodeK
  rw [sameB_rend, sameB_rend, ← Nz.rend_app]
theorem nodeK_congr {u : Nat} {g h : Nat → Nat} {v lo hi : Nat} (e1 : g lo = h lo) (e2 : g hi = h hi) : nodeK u g v lo hi = nodeK u h v lo hi := by
  unfold nodeK; rw [sameK_congr e1, sameK_congr e2]
def stepK (b1 b2 : List Nat) (d : Dg.Nd) (i : Nat) (f1 f2 : Nat → Nat) : List (List Int) :=
  nodeK (b1.getD d.bit 0) f1 (f1 i) d.lo d.hi ++ if d.sec then nodeK (b2.getD d.bit 0) f2 (f2 i) d.lo d.hi else []
def ndsK (nodes : List Dg.Nd) (b1 b2 : List Nat) (f1 f2 : Nat → Nat) : Nat → List (List Int)
  | 0 => []
  | i + 1 => if i < 2 then ndsK nodes b1 b2 f1 f2 i else ndsK nodes b1 b2 f1 f2 i ++ stepK b1 b2 (Dg.ndAt nodes i) i f1 f2
structure FOk (nodes : List Dg.Nd) (v0 : Nat) (x : Ns) (i : Nat) : Prop where
  vars : v0 ≤ x.vars
  lo1 : ∀ j, 2 ≤ j → j < i → v0 < x.f1 j ∧ x.f1 j ≤ x.vars
  lo2 : ∀ j, 2 ≤ j → j < i → x.f1 j ≤ x.f2 j ∧ x.f2 j ≤ x.vars ∧ x.f2 j = if (Dg.ndAt nodes j).sec then x.f1 j + 1 else x.f1 j
  inc : ∀ j j', 2 ≤ j → j < j' → j' < i → x.f2 j < x.f1 j'
  all : ∀ v, v0 < v → v ≤ x.vars → ∃ j, 2 ≤ j ∧ j < i ∧ (v = x.f1 j ∨ v = x.f2 j)
theorem step_f1 (L : Nat) (b1 b2 : List Nat) (d : Dg.Nd) (i : Nat) (x : Ns) : (stepN L b1 b2 d i x).f1 = Lk.upd x.f1 i (x.vars + 1) := by
  unfold stepN two one; split <;> rfl
theorem step_vars (L : Nat) (b1 b2 : List Nat) (d : Dg.Nd) (i : Nat) (x : Ns) : (stepN L b1 b2 d i x).vars = if d.sec then x.vars + 2 else x.vars + 1 := by
  unfold stepN two one; split <;> rfl
theorem step_f2 (L : Nat) (b1 b2 : List Nat) (d : Dg.Nd) (i : Nat) (x : Ns) : (stepN L b1 b2 d i x).f2 = Lk.upd x.f2 i (if d.sec then x.vars + 2 else x.vars + 1) := by
  unfold stepN two one; split <;> rfl
theorem upd_same {f : Nat → Nat} {k v : Nat} : Lk.upd f k v k = v := if_pos rfl
theorem upd_other {f : Nat → Nat} {k v j : Nat} (h : j ≠ k) : Lk.upd f k v j = f j := if_neg h
theorem nodesN_two (nodes : List Dg.Nd) (b1 b2 : List Nat) (x : Ns) {i : Nat} (h : 2 ≤ i) : nodesN nodes b1 b2 x (i + 1) = stepN nodes.length b1 b2 (Dg.ndAt nodes i) i (nodesN nodes b1 b2 x i) := by
  show (if i < 2 then _ else _) = _; rw [if_neg (by omega)]
theorem nodesN_low (nodes : List Dg.Nd) (b1 b2 : List Nat) (x : Ns) : ∀ i, i ≤ 2 → nodesN nodes b1 b2 x i = x
  | 0, _ => rfl
  | i + 1, h => by
    show (if i < 2 then _ else _) = _
    rw [if_pos (by omega)]
    exact nodesN_low nodes b1 b2 x i (by omega)
theorem fok (nodes : List Dg.Nd) (b1 b2 : List Nat) (x : Ns) : ∀ i, FOk nodes x.vars (nodesN nodes b1 b2 x i) i := by
  intro i
  induction i with
  | zero => exact ⟨Nat.le_refl _, fun j _ h => absurd h (by omega), fun j _ h => absurd h (by omega), fun j j' _ _ h => absurd h (by omega), fun v h h2 => absurd h (Nat.not_lt.2 h2)⟩
  | succ i ih =>
    by_cases c : i < 2
    · rw [nodesN_low nodes b1 b2 x _ (by omega)]
      exact ⟨Nat.le_refl _, fun j _ h => absurd h (by omega), fun j _ h => absurd h (by omega), fun j j' _ _ h => absurd h (by omega), fun v h h2 => absurd h (Nat.not_lt.2 h2)⟩
    · rw [nodesN_two nodes b1 b2 x (by omega)]
      generalize nodesN nodes b1 b2 x i = y at ih
      have ev := step_vars nodes.length b1 b2 (Dg.ndAt nodes i) i y
      have e1 := step_f1 nodes.length b1 b2 (Dg.ndAt nodes i) i y
      have e2 := step_f2 nodes.length b1 b2 (Dg.ndAt nodes i) i y
      generalize stepN nodes.length b1 b2 (Dg.ndAt nodes i) i y = z at ev e1 e2
      have hv : y.vars + 1 ≤ z.vars := by rw [ev]; split <;> omega
      have o1 : ∀ j, j < i → z.f1 j = y.f1 j := fun j h => by rw [e1]; exact upd_other (by omega)
      have o2 : ∀ j, j < i → z.f2 j = y.f2 j := fun j h => by rw [e2]; exact upd_other (by omega)
      have n1 : z.f1 i = y.vars + 1 := by rw [e1]; exact upd_same
      have n2 : z.f2 i = if (Dg.ndAt nodes i).sec then y.vars + 2 else y.vars + 1 := by rw [e2]; exact upd_same
      refine ⟨by have := ih.vars; omega, fun j h2 hj => ?_, fun j h2 hj => ?_, fun j j' h2 hj hj' => ?_, fun v hlo hhi => ?_⟩
      · by_cases c : j < i
        · rw [o1 j c]; have := ih.lo1 j h2 c; omega
        · have : j = i := by omega
          subst this
          rw [n1]; have := ih.vars; omega
      · by_cases c : j < i
        · rw [o1 j c, o2 j c]; have := ih.lo2 j h2 c; exact ⟨this.1, by omega, this.2.2⟩
        · have : j = i := by omega
          subst this
          rw [n1, n2, ev]
          split
          · exact ⟨by omega, by omega, rfl⟩
          · exact ⟨by omega, by omega, rfl⟩
      · by_cases c : j' < i
        · rw [o1 j' c, o2 j (by omega)]; exact ih.inc j j' h2 hj c
        · have : j' = i := by omega
          subst this
          rw [n1, o2 j hj]
          have := (ih.lo2 j h2 hj).2.1
          omega
      · by_cases c : v ≤ y.vars
        · obtain ⟨j, h2, hj, e⟩ := ih.all v hlo c
          exact ⟨j, h2, by omega, by rw [o1 j hj, o2 j hj]; exact e⟩
        · refine ⟨i, by omega, by omega, ?_⟩
          rw [n1, n2]
          rw [ev] at hhi
          split
          · next hs => rw [if_pos hs] at hhi; omega
          · next hs => rw [if_neg hs] at hhi; omega
theorem nodesN_keep (nodes : List Dg.Nd) (b1 b2 : List Nat) (x : Ns) (i : Nat) : ∀ k, i ≤ k → ∀ j, j < i → (nodesN nodes b1 b2 x k).f1 j = (nodesN nodes b1 b2 x i).f1 j ∧ (nodesN nodes b1 b2 x k).f2 j = (nodesN nodes b1 b2 x i).f2 j := by
  intro k
  induction k with
  | zero => intro h j hj; exact absurd hj (by omega)
  | succ k ih =>
    intro h j hj
    by_cases c : i = k + 1
    · subst c; exact ⟨rfl, rfl⟩
    · obtain ⟨a, b⟩ := ih (by omega) j hj
      rw [← a, ← b]
      by_cases c2 : k < 2
      · rw [nodesN_low nodes b1 b2 x _ (by omega), nodesN_low nodes b1 b2 x _ (by omega)]; exact ⟨rfl, rfl⟩
      · rw [nodesN_two nodes b1 b2 x (by omega), step_f1, step_f2]
        exact ⟨upd_other (by omega), upd_other (by omega)⟩
theorem step_bs (L : Nat) (b1 b2 : List Nat) (d : Dg.Nd) (i : Nat) (x : Ns) (hi : i < L) (hlo : d.lo < i) (hhi : d.hi < i) {f1 f2 : Nat → Nat} (h1 : ∀ j, j < i → f1 j = x.f1 j) (h2 : ∀ j, j < i → f2 j = x.f2 j) (n1 : f1 i = x.vars + 1) (n2 : f2 i = if d.sec then x.vars + 2 else x.vars + 1) :
    (stepN L b1 b2 d i x).bs = x.bs ++ rend (stepK b1 b2 d i f1 f2) ∧ (stepN L b1 b2 d i x).ct = x.ct + (stepK b1 b2 d i f1 f2).length := by
  have kl : ∀ u g v, (nodeK u g v d.lo d.hi).length = sameC d.lo + sameC d.hi := fun u g v => by unfold nodeK; rw [List.length_append, sameK_len, sameK_len]
  have t1 : ∀ j, j < i → (tab L (Lk.upd x.f1 i (x.vars + 1))).getD j 0 = f1 j := fun j hj => by rw [tab_get L _ j (by omega), upd_other (by omega), h1 j hj]
  have t2 : ∀ j, j < i → (tab L x.f2).getD j 0 = f2 j := fun j hj => by rw [tab_get L _ j (by omega), h2 j hj]
  have a1 : nodeB b1 (tab L (Lk.upd x.f1 i (x.vars + 1))) ((x.vars + 1 : Nat) : Int) d.bit d.lo d.hi = rend (nodeK (b1.getD d.bit 0) f1 (f1 i) d.lo d.hi) := by
    rw [nodeB_rend, n1, nodeK_congr (h := f1) (t1 d.lo hlo) (t1 d.hi hhi)]
  unfold stepN two stepK
  by_cases hs : d.sec = true
  · have a2 : nodeB b2 (tab L x.f2) ((x.vars + 1 + 1 : Nat) : Int) d.bit d.lo d.hi = rend (nodeK (b2.getD d.bit 0) f2 (f2 i) d.lo d.hi) := by
      rw [nodeB_rend, n2, if_pos hs, nodeK_congr (h := f2) (t2 d.lo hlo) (t2 d.hi hhi)]
    rw [if_pos hs, if_pos hs]
    refine ⟨?_, ?_⟩
    · show (x.bs ++ nodeB b1 _ _ _ _ _) ++ nodeB b2 _ _ _ _ _ = _
      rw [a1, show nodeB b2 (tab L (one L b1 d i x).f2) (((one L b1 d i x).vars + 1 : Nat) : Int) d.bit d.lo d.hi = _ from a2, Nz.rend_app, List.append_assoc]
    · show x.ct + (sameC d.lo + sameC d.hi) + (sameC d.lo + sameC d.hi) = _
      rw [List.length_append, kl, kl]; omega
  · rw [if_neg hs, if_neg hs]
    refine ⟨?_, ?_⟩
    · show x.bs ++ nodeB b1 _ _ _ _ _ = _
      rw [a1, List.append_nil]
    · show x.ct + (sameC d.lo + sameC d.hi) = _
      rw [List.append_nil, kl]
theorem ndsK_congr (nodes : List Dg.Nd) (b1 b2 : List Nat) (hd : Dg.Desc nodes) {f1 f2 g1 g2 : Nat → Nat} : ∀ i, i ≤ nodes.length → (∀ j, j < i → f1 j = g1 j) → (∀ j, j < i → f2 j = g2 j) → ndsK nodes b1 b2 f1 f2 i = ndsK nodes b1 b2 g1 g2 i
  | 0, _, _, _ => rfl
  | i + 1, hi, h1, h2 => by
    have ih := ndsK_congr nodes b1 b2 hd i (by omega) (fun j hj => h1 j (by omega)) (fun j hj => h2 j (by omega))
    show (if i < 2 then _ else _) = (if i < 2 then _ else _)
    by_cases c : i < 2
    · rw [if_pos c, if_pos c]; exact ih
    · rw [if_neg c, if_neg c, ih]
      obtain ⟨l, k⟩ := hd i (by omega) (by omega)
      unfold stepK
      rw [h1 i (by omega), h2 i (by omega), nodeK_congr (h1 _ (by omega)) (h1 _ (by omega)), nodeK_congr (h2 _ (by omega)) (h2 _ (by omega))]
theorem nodesN_rend (nodes : List Dg.Nd) (b1 b2 : List Nat) (x : Ns) (hd : Dg.Desc nodes) : ∀ i, i ≤ nodes.length →
    (nodesN nodes b1 b2 x i).bs = x.bs ++ rend (ndsK nodes b1 b2 (nodesN nodes b1 b2 x i).f1 (nodesN nodes b1 b2 x i).f2 i) ∧ (nodesN nodes b1 b2 x i).ct = x.ct + (ndsK nodes b1 b2 (nodesN nodes b1 b2 x i).f1 (nodesN nodes b1 b2 x i).f2 i).length := by
  intro i
  induction i with
  | zero => intro _; exact ⟨by show x.bs = x.bs ++ []; rw [List.append_nil], rfl⟩
  | succ i ih =>
    intro hi
    obtain ⟨a, b⟩ := ih (by omega)
    by_cases c : i < 2
    · have e : ∀ f1 f2, ndsK nodes b1 b2 f1 f2 (i + 1) = ndsK nodes b1 b2 f1 f2 i := fun f1 f2 => by show (if i < 2 then _ else _) = _; rw [if_pos c]
      rw [nodesN_low nodes b1 b2 x i (by omega)] at a b
      rw [e, nodesN_low nodes b1 b2 x (i + 1) (by omega)]
      exact ⟨a, b⟩
    · obtain ⟨l, k⟩ := hd i (by omega) (by omega)
      have e : ∀ f1 f2, ndsK nodes b1 b2 f1 f2 (i + 1) = ndsK nodes b1 b2 f1 f2 i ++ stepK b1 b2 (Dg.ndAt nodes i) i f1 f2 := fun f1 f2 => by show (if i < 2 then _ else _) = _; rw [if_neg c]
      have kp := nodesN_keep nodes b1 b2 x i (i + 1) (by omega)
      have ef1 := step_f1 nodes.length b1 b2 (Dg.ndAt nodes i) i (nodesN nodes b1 b2 x i)
      have ef2 := step_f2 nodes.length b1 b2 (Dg.ndAt nodes i) i (nodesN nodes b1 b2 x i)
      rw [← nodesN_two nodes b1 b2 x (by omega)] at ef1 ef2
      obtain ⟨s1, s2⟩ := step_bs nodes.length b1 b2 (Dg.ndAt nodes i) i (nodesN nodes b1 b2 x i) (by omega) l k (f1 := (nodesN nodes b1 b2 x (i + 1)).f1) (f2 := (nodesN nodes b1 b2 x (i + 1)).f2) (fun j hj => (kp j hj).1) (fun j hj => (kp j hj).2) (by rw [ef1]; exact upd_same) (by rw [ef2]; exact upd_same)
      rw [← nodesN_two nodes b1 b2 x (by omega)] at s1 s2
      rw [e, s1, s2, a, b, ndsK_congr nodes b1 b2 hd i (by omega) (fun j hj => ((kp j hj).1).symm) (fun j hj => ((kp j hj).2).symm), Nz.rend_app, List.length_append]
      exact ⟨List.append_assoc _ _ _, Nat.add_assoc _ _ _⟩
def tldK (g : Nat → Nat) (V : Nat) (D : List Nat) : Nat → List (List Int)
  | 0 => []
  | i + 1 => tldK g V D i ++ sameK g ((V + 1 + i : Nat) : Int) (D.getD i 0) 0
theorem tldN_rend (N : List Nat) (V : Nat) (D : List Nat) (c0 : Nat) : ∀ i, (tldN N V D c0 i).2 = rend (tldK (fun j => N.getD j 0) V D i) ∧ (tldN N V D c0 i).1 = c0 + (tldK (fun j => N.getD j 0) V D i).length
  | 0 => ⟨rfl, rfl⟩
  | i + 1 => by
    obtain ⟨a, b⟩ := tldN_rend N V D c0 i
    refine ⟨?_, ?_⟩
    · show (tldN N V D c0 i).2 ++ sameB N _ _ 0 = rend (_ ++ _)
      rw [a, sameB_rend, Nz.rend_app]
    · show (tldN N V D c0 i).1 + sameC _ = c0 + (tldK (fun j => N.getD j 0) V D i ++ sameK (fun j => N.getD j 0) _ (D.getD i 0) 0).length
      rw [b, List.length_append, sameK_len]; omega
theorem tldK_congr {g h : Nat → Nat} {V : Nat} {D : List Nat} {L : Nat} (hD : ∀ i, i < D.length → D.getD i 0 < L) (e : ∀ j, j < L → g j = h j) : ∀ i, i ≤ D.length → tldK g V D i = tldK h V D i
  | 0, _ => rfl
  | i + 1, hi => by
    show tldK g V D i ++ _ = tldK h V D i ++ _
    rw [tldK_congr hD e i (by omega), sameK_congr (e _ (hD i (by omega)))]
def difK4 (d a b : Nat) : List (List Int) := [[-(d : Int), a, b], [-(d : Int), -(a : Int), -(b : Int)], [(d : Int), -(a : Int), b], [(d : Int), a, -(b : Int)]]
theorem clL3 {a b c : Int} (ha : a ≠ 0) (hb : b ≠ 0) (hc : c ≠ 0) : clL a b c = [a, b, c] := by unfold clL; simp [ha, hb, hc]
theorem dif4_rend {d a b : Nat} (hd : 0 < d) (ha : 0 < a) (hb : 0 < b) : dif4 d a b = rend (difK4 d a b) := by
  unfold dif4 difK4
  rw [clauseB_rend, clauseB_rend, clauseB_rend, clauseB_rend, ← Nz.rend_app, ← Nz.rend_app, ← Nz.rend_app]
  rw [clL3 (by omega) (by omega) (by omega), clL3 (by omega) (by omega) (by omega), clL3 (by omega) (by omega) (by omega), clL3 (by omega) (by omega) (by omega)]
  rfl
def difK (V m : Nat) : Nat → List (List Int)
  | 0 => []
  | i + 1 => difK V m i ++ difK4 (V + 2 * m + 1 + i) (V + 1 + i) (V + m + 1 + i)
theorem difN_rend (V m : Nat) : ∀ i, difN V m i = rend (difK V m i) ∧ (difK V m i).length = 4 * i
  | 0 => ⟨rfl, rfl⟩
  | i + 1 => by
    obtain ⟨a, b⟩ := difN_rend V m i
    refine ⟨?_, ?_⟩
    · show difN V m i ++ dif4 _ _ _ = rend (_ ++ _)
      rw [a, dif4_rend (by omega) (by omega) (by omega), Nz.rend_app]
    · show (difK V m i ++ difK4 _ _ _).length = _
      rw [List.length_append, b]; show 4 * i + 4 = _; omega
def lastK (V m : Nat) : List Int := (freshL (V + 2 * m) m).map fun (n : Nat) => (n : Int)
theorem litsB_lits (D : List Nat) (h : ∀ x ∈ D, 0 < x) : litsB D D.length = wrds (D.map fun (n : Nat) => (n : Int)) := by
  have key : ∀ D : List Nat, (∀ x ∈ D, 0 < x) → D.flatMap (fun (n : Nat) => litB (n : Int)) = wrds (D.map fun (n : Nat) => (n : Int)) := by
    intro D
    induction D with
    | nil => intro _; rfl
    | cons x D ih =>
      intro h
      rw [List.flatMap_cons, ih (fun y hy => h y (by simp [hy])), List.map_cons, Nz.wrds_cons, litB_wrds, List.filter_cons_of_pos (by simp; have := h x (by simp); omega)]
      show wrds [(x : Int)] ++ _ = _
      rw [Nz.wrds_cons, List.append_assoc]; rfl
  rw [← key D h]
  unfold litsB
  have e : (List.range D.length).map (fun i => D.getD i 0) = D := by
    refine List.ext_getElem (by simp) fun i h1 h2 => ?_
    simp at h2 ⊢
    rw [List.getElem?_eq_getElem h2]; rfl
  conv => rhs; rw [← e]
  rw [List.flatMap_map]
section
variable (sec : List Bool) (nodes : List Dg.Nd) (D : List Nat)
def F1 : Nat → Nat := (nds sec nodes D.length).f1
def F2 : Nat → Nat := (nds sec nodes D.length).f2
def ahdK : List (List Int) := ndsK nodes (b1 sec) (b2 sec) (F1 sec nodes D) (F2 sec nodes D) nodes.length ++ tldK (F1 sec nodes D) (vin sec) D D.length ++ tldK (F2 sec nodes D) (vin sec + D.length) D D.length
def allK : List (List Int) := ahdK sec nodes D ++ difK (vin sec) D.length D.length ++ [lastK (vin sec) D.length]
end
theorem form_rend (sec : List Bool) (nodes : List Dg.Nd) (D : List Nat) (hd : Dg.Desc nodes) (hD : ∀ i, i < D.length → D.getD i 0 < nodes.length) :
    (form sec nodes D).bs = rend (allK sec nodes D) ∧ (form sec nodes D).ct = (allK sec nodes D).length := by
  obtain ⟨a1, a2⟩ := nodesN_rend nodes (b1 sec) (b2 sec) ⟨vin sec + 3 * D.length, 0, fun _ => 0, fun _ => 0, []⟩ hd nodes.length (Nat.le_refl _)
  have a1 : (nds sec nodes D.length).bs = rend (ndsK nodes (b1 sec) (b2 sec) (F1 sec nodes D) (F2 sec nodes D) nodes.length) := a1
  have a2 : (nds sec nodes D.length).ct = (ndsK nodes (b1 sec) (b2 sec) (F1 sec nodes D) (F2 sec nodes D) nodes.length).length := by have := a2; simp only [Nat.zero_add] at this; exact this
  obtain ⟨c1, c2⟩ := tldN_rend (n1 sec nodes D.length) (vin sec) D (nds sec nodes D.length).ct D.length
  obtain ⟨d1, d2⟩ := tldN_rend (n2 sec nodes D.length) (vin sec + D.length) D (tl1 sec nodes D D.length).1 D.length
  obtain ⟨e1, e2⟩ := difN_rend (vin sec) D.length D.length
  have g1 := tldK_congr (g := fun j => (n1 sec nodes D.length).getD j 0) (h := F1 sec nodes D) (V := vin sec) hD (fun j hj => tab_get _ _ j hj) D.length (Nat.le_refl _)
  have g2 := tldK_congr (g := fun j => (n2 sec nodes D.length).getD j 0) (h := F2 sec nodes D) (V := vin sec + D.length) hD (fun j hj => tab_get _ _ j hj) D.length (Nat.le_refl _)
  rw [g1] at c1 c2
  rw [g2] at d1 d2
  have hl : litsB (freshL (vin sec + 2 * D.length) D.length) D.length = wrds (lastK (vin sec) D.length) := by
    have := litsB_lits (freshL (vin sec + 2 * D.length) D.length) (fun x hx => by
      obtain ⟨i, _, rfl⟩ := List.mem_map.1 hx; omega)
    rw [freshL_len] at this
    exact this
  unfold allK ahdK form
  refine ⟨?_, ?_⟩
  · show (nds sec nodes D.length).bs ++ (tl1 sec nodes D D.length).2 ++ (tl2 sec nodes D D.length).2 ++ difN (vin sec) D.length D.length ++ litsB (freshL (vin sec + 2 * D.length) D.length) D.length ++ [48, 10] = _
    rw [a1, show (tl1 sec nodes D D.length).2 = _ from c1, show (tl2 sec nodes D D.length).2 = _ from d1, e1, hl, Nz.rend_app, Nz.rend_app, Nz.rend_app, Nz.rend_app, Nz.rend_cons]
    show _ = _ ++ ((wrds _ ++ [48]) ++ 10 :: [])
    simp only [List.append_assoc]
    rfl
  · show (tl2 sec nodes D D.length).1 + 4 * D.length + 1 = _
    rw [show (tl2 sec nodes D D.length).1 = _ from d2, show (tl1 sec nodes D D.length).1 = _ from c2, a2, List.length_append, List.length_append, List.length_append, List.length_append, e2]
    rfl
end Cl
end Go.Proofs.YtgddmpmcnjlcjabGreatDoor
namespace Go.Proofs.YtgddmpmcnjlcjabGreatDoor
set_option linter.unusedVariables false
namespace Cl
theorem secB_at (sec : List Bool) (t : Nat) (ht : t < 4) : ∀ i j, j < i → (secB sec i).2.getD (4 * j + t) 0 = if sec.getD j false then (secB sec j).1 + 1 + t else 4 * j + 1 + t := by
  intro i
  induction i with
  | zero => intro j h; exact absurd h (by omega)
  | succ i ih =>
    intro j hj
    have hl := secB_len sec i
    have hf : ∀ v, (freshL v 4).getD t 0 = v + 1 + t := fun v => freshL_get v 4 t ht
    have key : ∀ v, ((secB sec i).2 ++ freshL v 4).getD (4 * j + t) 0 = if j < i then (secB sec i).2.getD (4 * j + t) 0 else v + 1 + t := fun v => by
      by_cases c : j < i
      · rw [if_pos c, List.getD_eq_getElem?_getD, List.getElem?_append_left (by omega), ← List.getD_eq_getElem?_getD]
      · rw [if_neg c, List.getD_eq_getElem?_getD, List.getElem?_append_right (by omega), ← List.getD_eq_getElem?_getD, hl, show 4 * j + t - 4 * i = t by omega, hf]
    have e : (secB sec (i + 1)).2 = (secB sec i).2 ++ freshL (if sec.getD i false then (secB sec i).1 else 4 * i) 4 := by
      show (if sec.getD i false = true then _ else _ : Nat × List Nat).2 = _
      split <;> rfl
    rw [e, key]
    by_cases c : j < i
    · rw [if_pos c]; exact ih j c
    · have : j = i := by omega
      subst this
      rw [if_neg c]
      split <;> rfl
theorem secB_step (sec : List Bool) (i : Nat) : (secB sec (i + 1)).1 = if sec.getD i false then (secB sec i).1 + 4 else (secB sec i).1 := by
  show (if sec.getD i false = true then _ else _ : Nat × List Nat).1 = _
  split <;> rfl
theorem secB_mono (sec : List Bool) {i j : Nat} (h : i ≤ j) : (secB sec i).1 ≤ (secB sec j).1 := by
  induction j with
  | zero => rw [Nat.le_zero.1 h]; exact Nat.le_refl _
  | succ j ih =>
    by_cases c : i = j + 1
    · subst c; exact Nat.le_refl _
    · have := ih (by omega)
      rw [secB_step]; split <;> omega
theorem b1_get (sec : List Bool) {b : Nat} (h : b < 4 * sec.length) : (b1 sec).getD b 0 = b + 1 := by
  have := freshL_get 0 (4 * sec.length) b h
  unfold b1; omega
theorem b2_at (sec : List Bool) {b : Nat} (h : b < 4 * sec.length) : (b2 sec).getD b 0 = if sec.getD (b / 4) false then (secB sec (b / 4)).1 + 1 + b % 4 else b + 1 := by
  have := secB_at sec (b % 4) (Nat.mod_lt _ (by omega)) sec.length (b / 4) (by omega)
  rw [show 4 * (b / 4) + b % 4 = b by omega] at this
  unfold b2
  rw [this]
  split
  · rfl
  · omega
theorem b2_pub (sec : List Bool) {b : Nat} (h : b < 4 * sec.length) (hs : sec.getD (b / 4) false = false) : (b2 sec).getD b 0 = b + 1 := by
  rw [b2_at sec h, if_neg (by rw [hs]; decide)]
theorem b2_sec (sec : List Bool) {b : Nat} (h : b < 4 * sec.length) (hs : sec.getD (b / 4) false = true) : (b2 sec).getD b 0 = (secB sec (b / 4)).1 + 1 + b % 4 ∧ 4 * sec.length < (b2 sec).getD b 0 ∧ (b2 sec).getD b 0 ≤ vin sec := by
  have e : (b2 sec).getD b 0 = (secB sec (b / 4)).1 + 1 + b % 4 := by rw [b2_at sec h, if_pos hs]
  refine ⟨e, ?_, b2_le sec b⟩
  have := (secB_le sec (b / 4)).1
  omega
theorem b2_inj (sec : List Bool) {b c : Nat} (hb : b < 4 * sec.length) (hc : c < 4 * sec.length) (sb : sec.getD (b / 4) false = true) (sc : sec.getD (c / 4) false = true) (e : (b2 sec).getD b 0 = (b2 sec).getD c 0) : b = c := by
  have e1 := (b2_sec sec hb sb).1
  have e2 := (b2_sec sec hc sc).1
  rw [e1, e2] at e
  rcases Nat.lt_trichotomy (b / 4) (c / 4) with g | g | g
  · have h1 := secB_step sec (b / 4)
    rw [if_pos sb] at h1
    have h2 := secB_mono sec (show b / 4 + 1 ≤ c / 4 by omega)
    omega
  · rw [g] at e; omega
  · have h1 := secB_step sec (c / 4)
    rw [if_pos sc] at h1
    have h2 := secB_mono sec (show c / 4 + 1 ≤ b / 4 by omega)
    omega
theorem b2_all (sec : List Bool) : ∀ i, i ≤ sec.length → ∀ v, 4 * sec.length < v → v ≤ (secB sec i).1 → ∃ b, b < 4 * i ∧ sec.getD (b / 4) false = true ∧ (b2 sec).getD b 0 = v := by
  intro i
  induction i with
  | zero => intro _ v h1 h2; exact absurd h1 (Nat.not_lt.2 h2)
  | succ i ih =>
    intro hi v h1 h2
    by_cases c : v ≤ (secB sec i).1
    · obtain ⟨b, hb, e⟩ := ih (by omega) v h1 c
      exact ⟨b, by omega, e⟩
    · rw [secB_step] at h2
      by_cases hs : sec.getD i false = true
      · rw [if_pos hs] at h2
        obtain ⟨t, rfl⟩ : ∃ t, v = (secB sec i).1 + 1 + t := ⟨v - (secB sec i).1 - 1, by omega⟩
        have hd : (4 * i + t) / 4 = i := by omega
        refine ⟨4 * i + t, by omega, by rw [hd]; exact hs, ?_⟩
        rw [(b2_sec sec (by omega) (by rw [hd]; exact hs)).1, hd]
        omega
      · rw [if_neg hs] at h2; exact absurd h2 c
structure Dia (sec : List Bool) (nodes : List Dg.Nd) (D : List Nat) (pos : Nat → Nat) : Prop where
  ok : ∃ s : Dg.St, s.nodes = nodes ∧ (∃ M, Dg.Ok sec.length M s ∧ Dg.Uq sec M pos s)
  inj : ∀ a b, a < 4 * sec.length → b < 4 * sec.length → pos a = pos b → a = b
  D : ∀ i, i < D.length → D.getD i 0 < nodes.length
section
variable {sec : List Bool} {nodes : List Dg.Nd} {D : List Nat} {pos : Nat → Nat}
theorem Dia.desc (h : Dia sec nodes D pos) : Dg.Desc nodes := by obtain ⟨s, rfl, M, ok, _⟩ := h.ok; exact ok.desc
theorem Dia.bit (h : Dia sec nodes D pos) {i : Nat} (h2 : 2 ≤ i) (hi : i < nodes.length) : (Dg.ndAt nodes i).bit < 4 * sec.length := by obtain ⟨s, rfl, M, ok, _⟩ := h.ok; exact ok.bit i h2 hi
theorem Dia.same (h : Dia sec nodes D pos) {x y : Nat → Bool} (hxy : Dg.AgB sec.length sec x y) {i : Nat} (hi : i < nodes.length) (hs : (Dg.ndAt nodes i).sec = false) : Dg.vl nodes x i = Dg.vl nodes y i := by
  obtain ⟨s, rfl, M, ok, uq⟩ := h.ok; exact Dg.nosec_same ok uq hxy i hi hs
theorem Dia.dep (h : Dia sec nodes D pos) {i : Nat} (hi : i < nodes.length) (hs : (Dg.ndAt nodes i).sec = true) : ∃ x y, Dg.AgB sec.length sec x y ∧ Dg.vl nodes x i ≠ Dg.vl nodes y i := by
  obtain ⟨s, rfl, M, ok, uq⟩ := h.ok; exact Dg.sec_dep ok uq h.inj i hi hs
theorem Dia.sc (h : Dia sec nodes D pos) {i : Nat} (h2 : 2 ≤ i) (hi : i < nodes.length) : (Dg.ndAt nodes i).sec = (sec.getD ((Dg.ndAt nodes i).bit / 4) false || (Dg.ndAt nodes (Dg.ndAt nodes i).lo).sec || (Dg.ndAt nodes (Dg.ndAt nodes i).hi).sec) := by
  obtain ⟨s, rfl, M, ok, uq⟩ := h.ok; exact uq.sc i h2 hi
theorem Dia.leaf (h : Dia sec nodes D pos) {i : Nat} (hi : i < 2) : (Dg.ndAt nodes i).sec = false := by
  obtain ⟨s, rfl, M, ok, uq⟩ := h.ok
  have : i = 0 ∨ i = 1 := by omega
  rcases this with rfl | rfl
  · rw [uq.z0]
  · rw [uq.z1]
end
section
variable (sec : List Bool) (nodes : List Dg.Nd) (D : List Nat)
theorem fok_nds : FOk nodes (vin sec + 3 * D.length) (nds sec nodes D.length) nodes.length := fok nodes (b1 sec) (b2 sec) ⟨vin sec + 3 * D.length, 0, fun _ => 0, fun _ => 0, []⟩ nodes.length
inductive Ms (x y : Nat → Bool) : Nat → Bool → Prop
  | in1 (b : Nat) (h : b < 4 * sec.length) : Ms x y ((b1 sec).getD b 0) (x b)
  | in2 (b : Nat) (h : b < 4 * sec.length) : Ms x y ((b2 sec).getD b 0) (y b)
  | t1 (i : Nat) (h : i < D.length) : Ms x y (vin sec + 1 + i) (Dg.vl nodes x (D.getD i 0))
  | t2 (i : Nat) (h : i < D.length) : Ms x y (vin sec + D.length + 1 + i) (Dg.vl nodes y (D.getD i 0))
  | n1 (i : Nat) (h2 : 2 ≤ i) (h : i < nodes.length) : Ms x y (F1 sec nodes D i) (Dg.vl nodes x i)
  | n2 (i : Nat) (h2 : 2 ≤ i) (h : i < nodes.length) : Ms x y (F2 sec nodes D i) (Dg.vl nodes y i)
end
section
variable {sec : List Bool} {nodes : List Dg.Nd} {D : List Nat} {pos : Nat → Nat}
theorem F1_rng {i : Nat} (h2 : 2 ≤ i) (hi : i < nodes.length) : vin sec + 3 * D.length < F1 sec nodes D i ∧ F1 sec nodes D i ≤ (nds sec nodes D.length).vars := (fok_nds sec nodes D).lo1 i h2 hi
theorem F2_rng {i : Nat} (h2 : 2 ≤ i) (hi : i < nodes.length) : F1 sec nodes D i ≤ F2 sec nodes D i ∧ F2 sec nodes D i ≤ (nds sec nodes D.length).vars ∧ F2 sec nodes D i = if (Dg.ndAt nodes i).sec then F1 sec nodes D i + 1 else F1 sec nodes D i := (fok_nds sec nodes D).lo2 i h2 hi
theorem F_inc {i j : Nat} (h2 : 2 ≤ i) (hij : i < j) (hj : j < nodes.length) : F2 sec nodes D i < F1 sec nodes D j := (fok_nds sec nodes D).inc i j h2 hij hj
theorem F_inj {i j : Nat} (hi2 : 2 ≤ i) (hi : i < nodes.length) (hj2 : 2 ≤ j) (hj : j < nodes.length) {a b : Nat} (ha : a = F1 sec nodes D i ∨ a = F2 sec nodes D i) (hb : b = F1 sec nodes D j ∨ b = F2 sec nodes D j) (e : a = b) : i = j := by
  have r1 := F2_rng (sec := sec) (D := D) hi2 hi
  have r2 := F2_rng (sec := sec) (D := D) hj2 hj
  rcases Nat.lt_trichotomy i j with g | g | g
  · have := F_inc (sec := sec) (D := D) hi2 g hj
    rcases ha with rfl | rfl <;> rcases hb with rfl | rfl <;> omega
  · exact g
  · have := F_inc (sec := sec) (D := D) hj2 g hi
    rcases ha with rfl | rfl <;> rcases hb with rfl | rfl <;> omega
theorem Ms.fn (dia : Dia sec nodes D pos) {x y : Nat → Bool} (hxy : Dg.AgB sec.length sec x y) {v : Nat} {t u : Bool} (h : Ms sec nodes D x y v t) (g : Ms sec nodes D x y v u) : t = u := by
  -- the kinds by their ranges
  have hv := vin_le sec
  have k1 : ∀ b, b < 4 * sec.length → (b1 sec).getD b 0 = b + 1 := fun b hb => b1_get sec hb
  have k2 : ∀ b, b < 4 * sec.length → (sec.getD (b / 4) false = false ∧ (b2 sec).getD b 0 = b + 1) ∨ (sec.getD (b / 4) false = true ∧ 4 * sec.length < (b2 sec).getD b 0 ∧ (b2 sec).getD b 0 ≤ vin sec) := fun b hb => by
    cases hs : sec.getD (b / 4) false with
    | false => exact .inl ⟨rfl, b2_pub sec hb hs⟩
    | true => exact .inr ⟨rfl, (b2_sec sec hb hs).2⟩
  have k3 : ∀ i, 2 ≤ i → i < nodes.length → vin sec + 3 * D.length < F1 sec nodes D i := fun i h2 hi => (F1_rng h2 hi).1
  have k4 : ∀ i, 2 ≤ i → i < nodes.length → vin sec + 3 * D.length < F2 sec nodes D i := fun i h2 hi => Nat.lt_of_lt_of_le (F1_rng h2 hi).1 (F2_rng h2 hi).1
  have n12 : ∀ i j, 2 ≤ i → i < nodes.length → 2 ≤ j → j < nodes.length → F1 sec nodes D i = F2 sec nodes D j → Dg.vl nodes x i = Dg.vl nodes y j := fun i j hi2 hi hj2 hj e => by
    have := F_inj hi2 hi hj2 hj (.inl rfl) (.inr rfl) e
    subst this
    have r := (F2_rng (sec := sec) (D := D) hi2 hi).2.2
    cases hs : (Dg.ndAt nodes i).sec with
    | false => exact dia.same hxy hi hs
    | true => rw [hs] at r; simp at r; omega
  have b12 : ∀ b c, b < 4 * sec.length → c < 4 * sec.length → (b1 sec).getD b 0 = (b2 sec).getD c 0 → x b = y c := fun b c hb hc e => by
    rw [k1 b hb] at e
    rcases k2 c hc with ⟨hs, e2⟩ | ⟨hs, l, r⟩
    · have : b = c := by omega
      subst this
      exact hxy b hb hs
    · omega
  cases h with
  | in1 b hb =>
    generalize hw : (b1 sec).getD b 0 = w at g
    rw [k1 b hb] at hw
    cases g with
    | in1 c hc => rw [k1 c hc] at hw; have : b = c := by omega
                  rw [this]
    | in2 c hc => exact b12 b c hb hc (by rw [k1 b hb]; exact hw)
    | t1 i hi => omega
    | t2 i hi => omega
    | n1 i h2 hi => have := k3 i h2 hi; omega
    | n2 i h2 hi => have := k4 i h2 hi; omega
  | in2 b hb =>
    generalize hw : (b2 sec).getD b 0 = w at g
    have hw2 : w ≤ vin sec := by rcases k2 b hb with ⟨_, e⟩ | ⟨_, _, r⟩ <;> omega
    cases g with
    | in1 c hc => exact (b12 c b hc hb hw.symm).symm
    | in2 c hc =>
      have : b = c := by
        rcases k2 b hb with ⟨s1, e1⟩ | ⟨s1, l1, r1⟩
        · rcases k2 c hc with ⟨s2, e2⟩ | ⟨s2, l2, r2⟩ <;> omega
        · rcases k2 c hc with ⟨s2, e2⟩ | ⟨s2, l2, r2⟩
          · omega
          · exact b2_inj sec hb hc s1 s2 hw
      rw [this]
    | t1 i hi => omega
    | t2 i hi => omega
    | n1 i h2 hi => have := k3 i h2 hi; omega
    | n2 i h2 hi => have := k4 i h2 hi; omega
  | t1 i hi =>
    generalize hw : vin sec + 1 + i = w at g
    cases g with
    | in1 c hc => have := k1 c hc; omega
    | in2 c hc => rcases k2 c hc with ⟨_, e⟩ | ⟨_, _, r⟩ <;> omega
    | t1 j hj => have : i = j := by omega
                 rw [this]
    | t2 j hj => omega
    | n1 j h2 hj => have := k3 j h2 hj; omega
    | n2 j h2 hj => have := k4 j h2 hj; omega
  | t2 i hi =>
    generalize hw : vin sec + D.length + 1 + i = w at g
    cases g with
    | in1 c hc => have := k1 c hc; omega
    | in2 c hc => rcases k2 c hc with ⟨_, e⟩ | ⟨_, _, r⟩ <;> omega
    | t1 j hj => omega
    | t2 j hj => have : i = j := by omega
                 rw [this]
    | n1 j h2 hj => have := k3 j h2 hj; omega
    | n2 j h2 hj => have := k4 j h2 hj; omega
  | n1 i h2 hi =>
    have hk := k3 i h2 hi
    generalize hw : F1 sec nodes D i = w at g hk
    cases g with
    | in1 c hc => have := k1 c hc; omega
    | in2 c hc => rcases k2 c hc with ⟨_, e⟩ | ⟨_, _, r⟩ <;> omega
    | t1 j hj => omega
    | t2 j hj => omega
    | n1 j g2 hj => have := F_inj h2 hi g2 hj (.inl rfl) (.inl rfl) hw
                    rw [this]
    | n2 j g2 hj => exact n12 i j h2 hi g2 hj hw
  | n2 i h2 hi =>
    have hk := k4 i h2 hi
    generalize hw : F2 sec nodes D i = w at g hk
    cases g with
    | in1 c hc => have := k1 c hc; omega
    | in2 c hc => rcases k2 c hc with ⟨_, e⟩ | ⟨_, _, r⟩ <;> omega
    | t1 j hj => omega
    | t2 j hj => omega
    | n1 j g2 hj => exact (n12 j i g2 hj h2 hi hw.symm).symm
    | n2 j g2 hj => have := F_inj h2 hi g2 hj (.inr rfl) (.inr rfl) hw
                    rw [this]
theorem Ms.all (x y : Nat → Bool) {v : Nat} (h1 : 1 ≤ v) (h2 : v ≤ (nds sec nodes D.length).vars) (h : v ≤ vin sec + 2 * D.length ∨ vin sec + 3 * D.length < v) : ∃ t, Ms sec nodes D x y v t := by
  have hv := vin_le sec
  by_cases c1 : v ≤ 4 * sec.length
  · have := Ms.in1 (sec := sec) (nodes := nodes) (D := D) (x := x) (y := y) (v - 1) (by omega)
    rw [b1_get sec (by omega), show v - 1 + 1 = v by omega] at this
    exact ⟨_, this⟩
  · by_cases c2 : v ≤ vin sec
    · obtain ⟨b, hb, _, e⟩ := b2_all sec sec.length (Nat.le_refl _) v (by omega) c2
      exact ⟨_, by rw [← e]; exact Ms.in2 b hb⟩
    · by_cases c3 : v ≤ vin sec + D.length
      · have := Ms.t1 (sec := sec) (nodes := nodes) (D := D) (x := x) (y := y) (v - vin sec - 1) (by omega)
        rw [show vin sec + 1 + (v - vin sec - 1) = v by omega] at this
        exact ⟨_, this⟩
      · by_cases c4 : v ≤ vin sec + 2 * D.length
        · have := Ms.t2 (sec := sec) (nodes := nodes) (D := D) (x := x) (y := y) (v - vin sec - D.length - 1) (by omega)
          rw [show vin sec + D.length + 1 + (v - vin sec - D.length - 1) = v by omega] at this
          exact ⟨_, this⟩
        · obtain ⟨j, j2, hj, e⟩ := (fok_nds sec nodes D).all v (by omega) h2
          rcases e with rfl | rfl
          · exact ⟨_, Ms.n1 j j2 hj⟩
          · exact ⟨_, Ms.n2 j j2 hj⟩
end
end Cl
end Go.Proofs.YtgddmpmcnjlcjabGreatDoor
namespace Go.Proofs.YtgddmpmcnjlcjabGreatDoor
set_option linter.unusedVariables false
namespace Cl
def hold (V : Nat → Int) (l : Int) : Int := if l < 0 then -V l.natAbs else V l.natAbs
theorem hold_pos (V : Nat → Int) (v : Nat) : hold V (v : Int) = V v := by unfold hold; rw [if_neg (by omega)]; rfl
theorem hold_neg (V : Nat → Int) {v : Nat} (h : 0 < v) : hold V (-(v : Int)) = -V v := by unfold hold; rw [if_pos (by omega)]; simp
def oneP (V : Nat → Int) : Int → List Int → Int × Int
  | op, [] => if op = 0 then (0, 0) else (1, op)
  | op, l :: c => if 0 < hold V l then (2, 0) else if hold V l = 0 then (if op ≠ 0 ∧ op ≠ l then (2, 0) else oneP V l c) else oneP V op c
def Two (V : Nat → Int) (c : List Int) : Prop := (∃ l ∈ c, 0 < hold V l) ∨ ∃ l l', l ∈ c ∧ l' ∈ c ∧ l ≠ l' ∧ hold V l = 0 ∧ hold V l' = 0
theorem oneP_two {V : Nat → Int} : ∀ (c : List Int) (op : Int), (oneP V op c).1 = 2 → (∃ l ∈ c, 0 < hold V l) ∨ (∃ l ∈ c, op ≠ 0 ∧ op ≠ l ∧ hold V l = 0) ∨ ∃ l l', l ∈ c ∧ l' ∈ c ∧ l ≠ l' ∧ hold V l = 0 ∧ hold V l' = 0
  | [], op, h => by
    unfold oneP at h
    split at h
    · exact absurd h (by decide)
    · exact absurd h (by show ¬ ((1 : Int) = 2); decide)
  | l :: c, op, h => by
    unfold oneP at h
    by_cases h1 : 0 < hold V l
    · exact .inl ⟨l, by simp, h1⟩
    · rw [if_neg h1] at h
      by_cases h2 : hold V l = 0
      · rw [if_pos h2] at h
        by_cases h3 : op ≠ 0 ∧ op ≠ l
        · exact .inr (.inl ⟨l, by simp, h3.1, h3.2, h2⟩)
        · rw [if_neg h3] at h
          rcases oneP_two c l h with ⟨k, hk, e⟩ | ⟨k, hk, _, e1, e2⟩ | ⟨k, k', hk, hk', e⟩
          · exact .inl ⟨k, by simp [hk], e⟩
          · exact .inr (.inr ⟨l, k, by simp, by simp [hk], e1, h2, e2⟩)
          · exact .inr (.inr ⟨k, k', by simp [hk], by simp [hk'], e⟩)
      · rw [if_neg h2] at h
        rcases oneP_two c op h with ⟨k, hk, e⟩ | ⟨k, hk, e⟩ | ⟨k, k', hk, hk', e⟩
        · exact .inl ⟨k, by simp [hk], e⟩
        · exact .inr (.inl ⟨k, by simp [hk], e⟩)
        · exact .inr (.inr ⟨k, k', by simp [hk], by simp [hk'], e⟩)
theorem one_two {V : Nat → Int} {c : List Int} (h : (oneP V 0 c).1 = 2) : Two V c := by
  rcases oneP_two c 0 h with a | ⟨_, _, b, _⟩ | a
  · exact .inl a
  · exact absurd rfl b
  · exact .inr a
theorem oneP_cases {V : Nat → Int} : ∀ (c : List Int) (op : Int), (∀ l ∈ c, l ≠ 0) → (oneP V op c = (2, 0)) ∨ (oneP V op c = (0, 0) ∧ op = 0 ∧ ∀ l ∈ c, hold V l < 0) ∨ (∃ k, oneP V op c = (1, k) ∧ k ≠ 0 ∧ (op ≠ 0 → k = op) ∧ ((k ∈ c ∧ hold V k = 0) ∨ k = op) ∧ ∀ l ∈ c, l = k ∨ hold V l < 0)
  | [], op, _ => by
    unfold oneP
    by_cases h : op = 0
    · rw [if_pos h]; exact .inr (.inl ⟨rfl, h, fun l hl => by cases hl⟩)
    · rw [if_neg h]; exact .inr (.inr ⟨op, rfl, h, fun _ => rfl, .inr rfl, fun l hl => by cases hl⟩)
  | l :: c, op, hz => by
    have hz' : ∀ k ∈ c, k ≠ 0 := fun k hk => hz k (by simp [hk])
    unfold oneP
    by_cases h1 : 0 < hold V l
    · rw [if_pos h1]; exact .inl rfl
    · rw [if_neg h1]
      by_cases h2 : hold V l = 0
      · rw [if_pos h2]
        by_cases h3 : op ≠ 0 ∧ op ≠ l
        · rw [if_pos h3]; exact .inl rfl
        · rw [if_neg h3]
          have hol : op = 0 ∨ op = l := by
            by_cases c0 : op = 0
            · exact .inl c0
            · exact .inr (Classical.byContradiction fun c1 => h3 ⟨c0, c1⟩)
          rcases oneP_cases c l hz' with e | ⟨_, e0, _⟩ | ⟨k, e, k0, ko, _, ka⟩
          · exact .inl e
          · exact absurd e0 (hz l (by simp))
          · have hkl := ko (hz l (by simp))
            subst hkl
            refine .inr (.inr ⟨k, e, k0, fun c0 => ?_, .inl ⟨by simp, h2⟩, fun j hj => ?_⟩)
            · rcases hol with d | d
              · exact absurd d c0
              · exact d.symm
            · rcases List.mem_cons.1 hj with d | d
              · exact .inl d
              · exact ka j d
      · rw [if_neg h2]
        have hn : hold V l < 0 := by omega
        rcases oneP_cases c op hz' with e | ⟨e, e0, ha⟩ | ⟨k, e, k0, ko, kc, ka⟩
        · exact .inl e
        · refine .inr (.inl ⟨e, e0, fun j hj => ?_⟩)
          rcases List.mem_cons.1 hj with d | d
          · rw [d]; exact hn
          · exact ha j d
        · refine .inr (.inr ⟨k, e, k0, ko, ?_, fun j hj => ?_⟩)
          · rcases kc with ⟨d1, d2⟩ | d
            · exact .inl ⟨by simp [d1], d2⟩
            · exact .inr d
          · rcases List.mem_cons.1 hj with d | d
            · rw [d]; exact .inr hn
            · exact ka j d
def Tr (S : Nat → Bool → Prop) (l : Int) : Prop := if l < 0 then S l.natAbs false else S l.natAbs true
theorem oneP_unit {V : Nat → Int} {c : List Int} {l : Int} (hz : ∀ k ∈ c, k ≠ 0) (hm : l ∈ c) (h0 : hold V l = 0) (ha : ∀ k ∈ c, k = l ∨ hold V k < 0) : oneP V 0 c = (1, l) := by
  rcases oneP_cases (V := V) c 0 hz with e | ⟨e, _, h⟩ | ⟨k, e, k0, _, kc, ka⟩
  · exfalso
    rcases one_two (V := V) (c := c) (by rw [e]) with ⟨k, hk, h⟩ | ⟨k, k', hk, hk', hne, h, h'⟩
    · rcases ha k hk with q | q
      · rw [q] at h; omega
      · omega
    · rcases ha k hk with q | q
      · rcases ha k' hk' with q' | q'
        · exact hne (q.trans q'.symm)
        · omega
      · omega
  · have := h l hm; omega
  · rcases kc with ⟨k1, k2⟩ | kc
    · rcases ha k k1 with q | q
      · rw [e, q]
      · omega
    · exact absurd kc k0
theorem oneP_dead {V : Nat → Int} {c : List Int} (hz : ∀ k ∈ c, k ≠ 0) (ha : ∀ k ∈ c, hold V k < 0) : oneP V 0 c = (0, 0) := by
  rcases oneP_cases (V := V) c 0 hz with e | ⟨e, _, h⟩ | ⟨k, e, k0, _, kc, ka⟩
  · exfalso
    rcases one_two (V := V) (c := c) (by rw [e]) with ⟨k, hk, h⟩ | ⟨k, k', hk, hk', hne, h, h'⟩
    · have := ha k hk; omega
    · have := ha k hk; omega
  · exact e
  · rcases kc with ⟨k1, k2⟩ | kc
    · have := ha k k1; omega
    · exact absurd kc k0
def putP (V : Nat → Int) (l : Int) : Nat → Int := fun j => if j = l.natAbs then (if l < 0 then -1 else 1) else V j
theorem put_same (V : Nat → Int) {l : Int} {v : Nat} (h : l.natAbs = v) : putP V l v = if l < 0 then -1 else 1 := if_pos h.symm
theorem put_other (V : Nat → Int) {l : Int} {v : Nat} (h : v ≠ l.natAbs) : putP V l v = V v := if_neg h
def folP (all : List (List Int)) : (Nat → Int) → List Int → Bool
  | _, [] => false
  | V, h :: hs => if 1 ≤ h ∧ h < all.length then (if (oneP V 0 (all.getD h.toNat [])).1 = 0 then true else if (oneP V 0 (all.getD h.toNat [])).1 = 2 then false else folP all (putP V (oneP V 0 (all.getD h.toNat [])).2) hs) else false
def negP (V : Nat → Int) : List Int → (Nat → Int)
  | [] => V
  | l :: ls => negP (putP V (-l)) ls
def negOk (V : Nat → Int) : List Int → Prop
  | [] => True
  | l :: ls => hold V l ≤ 0 ∧ negOk (putP V (-l)) ls
theorem fol_dead {all : List (List Int)} {V : Nat → Int} {h : Nat} {hs : List Int} {c : List Int} (h1 : 1 ≤ h) (h2 : h < all.length) (e : all.getD h [] = c) (hz : ∀ k ∈ c, k ≠ 0) (ha : ∀ k ∈ c, hold V k < 0) : folP all V ((h : Int) :: hs) = true := by
  unfold folP
  rw [if_pos ⟨by omega, by omega⟩, show ((h : Int)).toNat = h by omega, e, oneP_dead hz ha]
  rfl
theorem fol_unit {all : List (List Int)} {V : Nat → Int} {h : Nat} {hs : List Int} {c : List Int} {l : Int} (h1 : 1 ≤ h) (h2 : h < all.length) (e : all.getD h [] = c) (hz : ∀ k ∈ c, k ≠ 0) (hm : l ∈ c) (h0 : hold V l = 0) (ha : ∀ k ∈ c, k = l ∨ hold V k < 0) : folP all V ((h : Int) :: hs) = folP all (putP V l) hs := by
  conv => lhs; unfold folP
  rw [if_pos ⟨by omega, by omega⟩, show ((h : Int)).toNat = h by omega, e, oneP_unit hz hm h0 ha]
  rfl
end Cl
end Go.Proofs.YtgddmpmcnjlcjabGreatDoor
namespace Go.Proofs.YtgddmpmcnjlcjabGreatDoor
set_option linter.unusedVariables false
namespace Cl
theorem mem_clL {l a b c : Int} : l ∈ clL a b c ↔ (l = a ∨ l = b ∨ l = c) ∧ l ≠ 0 := by unfold clL; simp
section
variable {sec : List Bool} {nodes : List Dg.Nd} {D : List Nat} {pos : Nat → Nat}
theorem mem_nds {b1 b2 : List Nat} {f1 f2 : Nat → Nat} {c : List Int} : ∀ k, c ∈ ndsK nodes b1 b2 f1 f2 k ↔ ∃ i, 2 ≤ i ∧ i < k ∧ c ∈ stepK b1 b2 (Dg.ndAt nodes i) i f1 f2
  | 0 => ⟨fun h => (by cases h), fun ⟨i, _, h, _⟩ => absurd h (by omega)⟩
  | k + 1 => by
    have ih := mem_nds (b1 := b1) (b2 := b2) (f1 := f1) (f2 := f2) (c := c) k
    show c ∈ (if k < 2 then _ else _) ↔ _
    by_cases h : k < 2
    · rw [if_pos h, ih]
      exact ⟨fun ⟨i, a, b, d⟩ => ⟨i, a, by omega, d⟩, fun ⟨i, a, b, d⟩ => ⟨i, a, by omega, d⟩⟩
    · rw [if_neg h, List.mem_append, ih]
      constructor
      · rintro (⟨i, a, b, d⟩ | d)
        · exact ⟨i, a, by omega, d⟩
        · exact ⟨k, by omega, by omega, d⟩
      · rintro ⟨i, a, b, d⟩
        by_cases e : i = k
        · subst e; exact .inr d
        · exact .inl ⟨i, a, by omega, d⟩
theorem mem_tld {g : Nat → Nat} {V : Nat} {c : List Int} : ∀ k, c ∈ tldK g V D k ↔ ∃ i, i < k ∧ c ∈ sameK g ((V + 1 + i : Nat) : Int) (D.getD i 0) 0
  | 0 => ⟨fun h => (by cases h), fun ⟨i, h, _⟩ => absurd h (by omega)⟩
  | k + 1 => by
    have ih := mem_tld (g := g) (V := V) (c := c) k
    show c ∈ _ ++ _ ↔ _
    rw [List.mem_append, ih]
    constructor
    · rintro (⟨i, a, b⟩ | d)
      · exact ⟨i, by omega, b⟩
      · exact ⟨k, by omega, d⟩
    · rintro ⟨i, a, b⟩
      by_cases e : i = k
      · subst e; exact .inr b
      · exact .inl ⟨i, by omega, b⟩
theorem mem_ahd {c : List Int} : c ∈ ahdK sec nodes D ↔ (∃ i, 2 ≤ i ∧ i < nodes.length ∧ c ∈ stepK (b1 sec) (b2 sec) (Dg.ndAt nodes i) i (F1 sec nodes D) (F2 sec nodes D)) ∨ (∃ i, i < D.length ∧ c ∈ sameK (F1 sec nodes D) ((vin sec + 1 + i : Nat) : Int) (D.getD i 0) 0) ∨ (∃ i, i < D.length ∧ c ∈ sameK (F2 sec nodes D) ((vin sec + D.length + 1 + i : Nat) : Int) (D.getD i 0) 0) := by
  unfold ahdK
  rw [List.mem_append, List.mem_append, mem_nds, mem_tld, mem_tld, or_assoc]
theorem mem_step {b1 b2 : List Nat} {d : Dg.Nd} {i : Nat} {f1 f2 : Nat → Nat} {c : List Int} : c ∈ stepK b1 b2 d i f1 f2 ↔ c ∈ nodeK (b1.getD d.bit 0) f1 (f1 i) d.lo d.hi ∨ (d.sec = true ∧ c ∈ nodeK (b2.getD d.bit 0) f2 (f2 i) d.lo d.hi) := by
  unfold stepK
  rw [List.mem_append]
  by_cases h : d.sec = true
  · rw [if_pos h]; exact or_congr Iff.rfl ⟨fun q => ⟨h, q⟩, fun q => q.2⟩
  · rw [if_neg h]; exact or_congr Iff.rfl ⟨fun q => (by cases q), fun q => absurd q.1 h⟩
theorem F1_pos {i : Nat} (h2 : 2 ≤ i) (hi : i < nodes.length) : 0 < F1 sec nodes D i := by have := (F1_rng (sec := sec) (D := D) h2 hi).1; omega
section
variable {V : Nat → Int} (hV : ∀ j, V j = 0 ∨ V j = 1 ∨ V j = -1) (fx : ∀ c ∈ ahdK sec nodes D, Two V c) (dia : Dia sec nodes D pos)
include hV fx dia
end
end
end Cl
end Go.Proofs.YtgddmpmcnjlcjabGreatDoor
