import Derived.Test.YtgddmpmcnjlcjabGreatDoorK02
import Derived.Test.YtgddmpmcnjlcjabGreatDoorB27
import Derived.Test.YtgddmpmcnjlcjabGreatDoorB26
namespace Go.Proofs.YtgddmpmcnjlcjabGreatDoor
set_option linter.unusedVariables false
namespace Cl
section
variable (sec : List Bool) (nodes : List Dg.Nd) (D : List Nat)
inductive L1 : Nat → Prop
  | i (b : Nat) (h : b < 4 * sec.length) (s : sec.getD (b / 4) false = true) : L1 ((b1 sec).getD b 0)
  | t (i : Nat) (h : i < D.length) : L1 (vin sec + 1 + i)
  | n (i : Nat) (h2 : 2 ≤ i) (h : i < nodes.length) (s : (Dg.ndAt nodes i).sec = true) : L1 (F1 sec nodes D i)
inductive L2 : Nat → Prop
  | i (b : Nat) (h : b < 4 * sec.length) (s : sec.getD (b / 4) false = true) : L2 ((b2 sec).getD b 0)
  | t (i : Nat) (h : i < D.length) : L2 (vin sec + D.length + 1 + i)
  | n (i : Nat) (h2 : 2 ≤ i) (h : i < nodes.length) (s : (Dg.ndAt nodes i).sec = true) : L2 (F2 sec nodes D i)
end
section
variable {sec : List Bool} {nodes : List Dg.Nd} {D : List Nat} {pos : Nat → Nat}
theorem mem_same {g : Nat → Nat} {v node : Nat} {u : Int} {c : List Int} (h : c ∈ sameK g v node u) : ∀ l ∈ c, l ≠ 0 ∧ (l.natAbs = v ∨ l.natAbs = u.natAbs ∨ (2 ≤ node ∧ l.natAbs = g node)) := by
  intro l hl
  have key : ∀ a b d : Int, (a.natAbs = v) → (b = u) → (d = 0 ∨ (2 ≤ node ∧ d.natAbs = g node)) → l ∈ clL a b d → l ≠ 0 ∧ (l.natAbs = v ∨ l.natAbs = u.natAbs ∨ (2 ≤ node ∧ l.natAbs = g node)) := fun a b d ha hb hd hm => by
    obtain ⟨q, l0⟩ := mem_clL.1 hm
    refine ⟨l0, ?_⟩
    rcases q with rfl | rfl | rfl
    · exact .inl ha
    · exact .inr (.inl (by rw [hb]))
    · rcases hd with e | e
      · exact absurd e l0
      · exact .inr (.inr e)
  unfold sameK at h
  split at h
  · rw [List.mem_singleton.1 h] at hl; exact key _ _ _ (by omega) rfl (.inl rfl) hl
  · split at h
    · rw [List.mem_singleton.1 h] at hl; exact key _ _ _ (by omega) rfl (.inl rfl) hl
    · next h0 h1 =>
      rcases List.mem_cons.1 h with e | e
      · rw [e] at hl; exact key _ _ _ (by omega) rfl (.inr ⟨by omega, by omega⟩) hl
      · rw [List.mem_singleton.1 e] at hl; exact key _ _ _ (by omega) rfl (.inr ⟨by omega, by omega⟩) hl
theorem mem_node {g : Nat → Nat} {u v lo hi : Nat} {c : List Int} (h : c ∈ nodeK u g v lo hi) : ∀ l ∈ c, l ≠ 0 ∧ (l.natAbs = v ∨ l.natAbs = u ∨ (2 ≤ lo ∧ l.natAbs = g lo) ∨ (2 ≤ hi ∧ l.natAbs = g hi)) := by
  intro l hl
  rcases List.mem_append.1 h with h | h
  · obtain ⟨a, b⟩ := mem_same h l hl
    refine ⟨a, ?_⟩
    rcases b with b | b | b
    · exact .inl b
    · exact .inr (.inl (by omega))
    · exact .inr (.inr (.inl b))
  · obtain ⟨a, b⟩ := mem_same h l hl
    refine ⟨a, ?_⟩
    rcases b with b | b | b
    · exact .inl b
    · exact .inr (.inl (by omega))
    · exact .inr (.inr (.inr b))
theorem ahd_lits (dia : Dia sec nodes D pos) : ∀ c ∈ ahdK sec nodes D, ∀ l ∈ c, l ≠ 0 ∧ 1 ≤ l.natAbs ∧ l.natAbs ≤ (nds sec nodes D.length).vars ∧ (l.natAbs ≤ vin sec + 2 * D.length ∨ vin sec + 3 * D.length < l.natAbs) := by
  have hva : vin sec + 3 * D.length ≤ (nds sec nodes D.length).vars := (fok_nds sec nodes D).vars
  have f1 : ∀ i, 2 ≤ i → i < nodes.length → F1 sec nodes D i ≤ (nds sec nodes D.length).vars ∧ vin sec + 3 * D.length < F1 sec nodes D i := fun i h2 hi => ⟨(F1_rng h2 hi).2, (F1_rng h2 hi).1⟩
  have f2 : ∀ i, 2 ≤ i → i < nodes.length → F2 sec nodes D i ≤ (nds sec nodes D.length).vars ∧ vin sec + 3 * D.length < F2 sec nodes D i := fun i h2 hi => ⟨(F2_rng h2 hi).2.1, Nat.lt_of_lt_of_le (F1_rng h2 hi).1 (F2_rng h2 hi).1⟩
  intro c hc z hz
  rcases mem_ahd.1 hc with ⟨i, h2, hi, hs⟩ | ⟨i, hi, hs⟩ | ⟨i, hi, hs⟩
  · obtain ⟨l, k⟩ := dia.desc i h2 hi
    have hb := dia.bit h2 hi
    rcases mem_step.1 hs with hs | ⟨_, hs⟩
    · obtain ⟨z0, e⟩ := mem_node hs z hz
      refine ⟨z0, by omega, ?_⟩
      rcases e with e | e | ⟨q, e⟩ | ⟨q, e⟩
      · have := f1 i h2 hi; omega
      · have := b1_le sec (Dg.ndAt nodes i).bit; omega
      · have := f1 _ q (by omega); omega
      · have := f1 _ q (by omega); omega
    · obtain ⟨z0, e⟩ := mem_node hs z hz
      refine ⟨z0, by omega, ?_⟩
      rcases e with e | e | ⟨q, e⟩ | ⟨q, e⟩
      · have := f2 i h2 hi; omega
      · have := b2_le sec (Dg.ndAt nodes i).bit; omega
      · have := f2 _ q (by omega); omega
      · have := f2 _ q (by omega); omega
  · obtain ⟨z0, e | e | ⟨q, e⟩⟩ := mem_same hs z hz
    · exact ⟨z0, by omega, by omega, by omega⟩
    · exact absurd e (by omega)
    · have := f1 _ q (dia.D i hi); exact ⟨z0, by omega, by omega, by omega⟩
  · obtain ⟨z0, e | e | ⟨q, e⟩⟩ := mem_same hs z hz
    · exact ⟨z0, by omega, by omega, by omega⟩
    · exact absurd e (by omega)
    · have := f2 _ q (dia.D i hi); exact ⟨z0, by omega, by omega, by omega⟩
end
end Cl
end Go.Proofs.YtgddmpmcnjlcjabGreatDoor
namespace Go.Proofs.YtgddmpmcnjlcjabGreatDoor
set_option linter.unusedVariables false
namespace Cl
open Nz (wrds lineZ rend)
def eqRw (nx : Nat) (b : Bt) : List (List Int × List Int) :=
  if b.node = 0 then [([-(b.vd : Int)], [(b.c1 : Int), b.c2, b.cd])]
  else if b.node = 1 then [([-(b.vd : Int)], [(b.c1 : Int), b.c2, (b.cd : Int) + 1])]
  else [([-(b.vd : Int), b.v1], [(b.cd : Int), b.c2, (b.c1 : Int) + 1]), ([-(b.vd : Int)], [(nx : Int), b.c1, (b.c2 : Int) + 1, (b.cd : Int) + 1])]
def rowZ (nx : Nat) (r : List Int × List Int) : List Int := (nx : Int) :: (r.1 ++ 0 :: r.2)
def rowsZ : Nat → List (List Int × List Int) → List (List Int)
  | _, [] => []
  | nx, r :: rs => rowZ nx r :: rowsZ (nx + 1) rs
theorem rowsZ_app : ∀ (a b : List (List Int × List Int)) (nx : Nat), rowsZ nx (a ++ b) = rowsZ nx a ++ rowsZ (nx + a.length) b
  | [], b, nx => rfl
  | r :: a, b, nx => by
    show rowZ nx r :: rowsZ (nx + 1) (a ++ b) = _
    rw [rowsZ_app a b]
    show _ = rowZ nx r :: (rowsZ (nx + 1) a ++ rowsZ (nx + (a.length + 1)) b)
    rw [show nx + 1 + a.length = nx + (a.length + 1) by omega]
theorem wrdsB_wrds (l : List Int) : wrdsB l l.length = wrds l := by
  unfold wrdsB wrds
  have e : (List.range l.length).map (fun i => l.getD i 0) = l := by
    refine List.ext_getElem (by simp) fun i h1 h2 => ?_
    simp at h2 ⊢
    rw [List.getElem?_eq_getElem h2]; rfl
  conv => rhs; rw [← e]
  rw [List.flatMap_map]
  rfl
theorem lineB_rend (nx : Nat) (ls hs : List Int) : lineB nx ls hs = rend [rowZ nx (ls, hs)] := by
  unfold lineB rowZ
  rw [wrdsB_wrds, wrdsB_wrds, Nz.rend_cons]
  have w1 : ∀ z : Int, wrdB z = wrds [z] := fun z => by rw [Nz.wrds_cons]; rfl
  rw [w1, w1, ← Nz.wrds_app, ← Nz.wrds_app, ← Nz.wrds_app]
  show _ = (wrds _ ++ [48]) ++ [10]
  simp only [List.append_assoc, List.cons_append, List.nil_append]
theorem eqB_rend (nx : Nat) (b : Bt) : eqB nx b = rend (rowsZ nx (eqRw nx b)) ∧ (eqRw nx b).length = eqL b := by
  unfold eqB eqRw eqL
  by_cases h0 : b.node = 0
  · rw [if_pos h0, if_pos h0, if_pos (by omega)]; exact ⟨lineB_rend _ _ _, rfl⟩
  · by_cases h1 : b.node = 1
    · rw [if_neg h0, if_neg h0, if_pos h1, if_pos h1, if_pos (by omega)]; exact ⟨lineB_rend _ _ _, rfl⟩
    · rw [if_neg h0, if_neg h0, if_neg h1, if_neg h1, if_neg (by omega), lineB_rend, lineB_rend, ← Nz.rend_app]; exact ⟨rfl, rfl⟩
def prfR (bits : List Bt) (nx0 : Nat) : Nat → List (List Int × List Int)
  | 0 => []
  | i + 1 => prfR bits nx0 i ++ eqRw (prfN bits nx0 i).1 (bits.getD i {})
theorem prfN_rend (bits : List Bt) (nx0 : Nat) : ∀ i, (prfN bits nx0 i).1 = nx0 + (prfR bits nx0 i).length ∧ (prfN bits nx0 i).2.1 = rend (rowsZ nx0 (prfR bits nx0 i))
  | 0 => ⟨rfl, rfl⟩
  | i + 1 => by
    obtain ⟨a, b⟩ := prfN_rend bits nx0 i
    obtain ⟨c, d⟩ := eqB_rend (prfN bits nx0 i).1 (bits.getD i {})
    refine ⟨?_, ?_⟩
    · show (prfN bits nx0 i).1 + eqL _ = nx0 + (prfR bits nx0 i ++ _).length
      rw [List.length_append, d, a]; omega
    · show (prfN bits nx0 i).2.1 ++ eqB _ _ = rend (rowsZ nx0 (prfR bits nx0 i ++ _))
      rw [rowsZ_app, ← a, Nz.rend_app, b, c]
def prfA (bits : List Bt) (ct : Nat) : List (List Int × List Int) := prfR bits (ct + 1) bits.length ++ [([], (prfN bits (ct + 1) bits.length).2.2 ++ [(ct : Int)])]
theorem prf_rend (bits : List Bt) (ct : Nat) : (prf bits ct).2 = rend (rowsZ (ct + 1) (prfA bits ct)) ∧ (prf bits ct).1 = (prfA bits ct).length := by
  obtain ⟨a, b⟩ := prfN_rend bits (ct + 1) bits.length
  unfold prf prfA
  refine ⟨?_, ?_⟩
  · show (prfN bits (ct + 1) bits.length).2.1 ++ lineB _ _ _ = _
    rw [b, lineB_rend, rowsZ_app, Nz.rend_app, ← a]; rfl
  · show (prfN bits (ct + 1) bits.length).1 - (ct + 1) + 1 = _
    rw [a, List.length_append]; show _ = _ + 1; omega
def FolOk (C : List (List Int)) (rows : List (List Int × List Int)) : Prop := ∀ j, j < rows.length →
  negOk (fun _ => 0) (rows.getD j ([], [])).1 ∧ folP ([] :: C ++ (rows.take j).map Prod.fst) (negP (fun _ => 0) (rows.getD j ([], [])).1) (rows.getD j ([], [])).2 = true
theorem FolOk.snoc {C : List (List Int)} {rows : List (List Int × List Int)} {r : List Int × List Int} (h : FolOk C rows) (h1 : negOk (fun _ => 0) r.1) (h2 : folP ([] :: C ++ rows.map Prod.fst) (negP (fun _ => 0) r.1) r.2 = true) : FolOk C (rows ++ [r]) := by
  intro j hj
  rw [List.length_append] at hj
  by_cases c : j < rows.length
  · have e : (rows ++ [r]).getD j ([], []) = rows.getD j ([], []) := by rw [List.getD_eq_getElem?_getD, List.getElem?_append_left c, ← List.getD_eq_getElem?_getD]
    rw [e, List.take_append_of_le_length (by omega)]
    exact h j c
  · have : j = rows.length := by simp at hj; omega
    subst this
    have e : (rows ++ [r]).getD rows.length ([], []) = r := by simp [List.getD_eq_getElem?_getD]
    rw [e, List.take_append_of_le_length (Nat.le_refl _), List.take_length]
    exact ⟨h1, h2⟩
structure BtAt (C : List (List Int)) (b : Bt) (n : Nat) : Prop where
  p1 : 0 < b.v1
  p2 : 0 < b.v2
  pd : 0 < b.vd
  n12 : b.v1 ≠ b.v2
  n1d : b.v1 ≠ b.vd
  n2d : b.v2 ≠ b.vd
  z : b.node = 0 → ([] :: C).getD b.c1 [] = [-(b.v1 : Int)] ∧ ([] :: C).getD b.c2 [] = [-(b.v2 : Int)]
  o : b.node = 1 → ([] :: C).getD b.c1 [] = [(b.v1 : Int)] ∧ ([] :: C).getD b.c2 [] = [(b.v2 : Int)]
  n : 2 ≤ b.node → 0 < n ∧ n ≠ b.v1 ∧ n ≠ b.v2 ∧ n ≠ b.vd ∧ ([] :: C).getD b.c1 [] = [-(b.v1 : Int), (n : Int)] ∧ ([] :: C).getD (b.c1 + 1) [] = [(b.v1 : Int), -(n : Int)] ∧ ([] :: C).getD b.c2 [] = [-(b.v2 : Int), (n : Int)] ∧ ([] :: C).getD (b.c2 + 1) [] = [(b.v2 : Int), -(n : Int)] ∧ b.c1 + 1 < C.length + 1 ∧ b.c2 + 1 < C.length + 1
  d : ([] :: C).getD b.cd [] = [-(b.vd : Int), (b.v1 : Int), (b.v2 : Int)] ∧ ([] :: C).getD (b.cd + 1) [] = [-(b.vd : Int), -(b.v1 : Int), -(b.v2 : Int)]
  r1 : 1 ≤ b.c1 ∧ b.c1 < C.length + 1
  r2 : 1 ≤ b.c2 ∧ b.c2 < C.length + 1
  rd : 1 ≤ b.cd ∧ b.cd + 1 < C.length + 1
theorem getD_app_left {α : Type} {l m : List α} {d : α} {i : Nat} (h : i < l.length) : (l ++ m).getD i d = l.getD i d := by rw [List.getD_eq_getElem?_getD, List.getElem?_append_left h, ← List.getD_eq_getElem?_getD]
theorem eqRw_ok {C : List (List Int)} {b : Bt} {n : Nat} (h : BtAt C b n) {rows : List (List Int × List Int)} (hr : FolOk C rows) :
    FolOk C (rows ++ eqRw (C.length + 1 + rows.length) b) ∧ ∃ q, eqR (C.length + 1 + rows.length) b = C.length + 1 + q ∧ q < (rows ++ eqRw (C.length + 1 + rows.length) b).length ∧ ((rows ++ eqRw (C.length + 1 + rows.length) b).getD q ([], [])).1 = [-(b.vd : Int)] := by
  have p1 := h.p1
  have p2 := h.p2
  have pd := h.pd
  have n12 := h.n12
  have n1d := h.n1d
  have n2d := h.n2d
  have r1 := h.r1
  have r2 := h.r2
  have rd := h.rd
  have low : ∀ (m : List (List Int)) (i : Nat), i < C.length + 1 → ([] :: C ++ m).getD i [] = ([] :: C).getD i [] := fun m i hi => getD_app_left (by simpa using hi)
  have len : ∀ m : List (List Int), ([] :: C ++ m).length = C.length + 1 + m.length := fun m => by simp; omega
  have hd0 : negOk (fun _ => 0) [-(b.vd : Int)] := ⟨by unfold hold; split <;> simp, trivial⟩
  -- what is known when the difference holds
  have V0 : negP (fun _ => 0) [-(b.vd : Int)] = putP (fun _ => 0) (b.vd : Int) := by show putP _ (- -(b.vd : Int)) = _; rw [Int.neg_neg]
  have nz : ∀ (x : Nat), 0 < x → (x : Int) ≠ 0 ∧ -(x : Int) ≠ 0 := fun x hx => ⟨by omega, by omega⟩
  unfold eqRw eqR
  by_cases h0 : b.node = 0
  · obtain ⟨z1, z2⟩ := h.z h0
    rw [if_pos h0, if_pos (by omega)]
    refine ⟨hr.snoc hd0 ?_, rows.length, rfl, by simp, by simp [List.getD_eq_getElem?_getD]⟩
    show folP _ (negP (fun _ => 0) [-(b.vd : Int)]) [(b.c1 : Int), b.c2, b.cd] = true
    rw [V0]
    generalize List.map Prod.fst rows = m
    have l := len m
    rw [fol_unit (l := -(b.v1 : Int)) r1.1 (by omega) ((low m _ r1.2).trans z1) (by intro k hk; simp at hk; omega) (by simp) (by rw [hold_neg _ p1, put_other _ (by omega)]; rfl) (by intro k hk; simp at hk; exact .inl hk)]
    rw [fol_unit (l := -(b.v2 : Int)) r2.1 (by omega) ((low m _ r2.2).trans z2) (by intro k hk; simp at hk; omega) (by simp) (by rw [hold_neg _ p2, put_other _ (by omega), put_other _ (by omega)]; rfl) (by intro k hk; simp at hk; exact .inl hk)]
    refine fol_dead rd.1 (by omega) ((low m _ (by omega)).trans h.d.1) (by intro k hk; simp at hk; omega) ?_
    intro k hk
    simp at hk
    rcases hk with rfl | rfl | rfl
    · rw [hold_neg _ pd, put_other _ (by omega), put_other _ (by omega), put_same _ (by omega), if_neg (by omega)]; decide
    · rw [hold_pos, put_other _ (by omega), put_same _ (by omega), if_pos (by omega)]; decide
    · rw [hold_pos, put_same _ (by omega), if_pos (by omega)]; decide
  · by_cases h1 : b.node = 1
    · obtain ⟨z1, z2⟩ := h.o h1
      rw [if_neg h0, if_pos h1, if_pos (by omega)]
      refine ⟨hr.snoc hd0 ?_, rows.length, rfl, by simp, by simp [List.getD_eq_getElem?_getD]⟩
      show folP _ (negP (fun _ => 0) [-(b.vd : Int)]) [(b.c1 : Int), b.c2, ((b.cd + 1 : Nat) : Int)] = true
      rw [V0]
      generalize List.map Prod.fst rows = m
      have l := len m
      rw [fol_unit (l := (b.v1 : Int)) r1.1 (by omega) ((low m _ r1.2).trans z1) (by intro k hk; simp at hk; omega) (by simp) (by rw [hold_pos, put_other _ (by omega)]) (by intro k hk; simp at hk; exact .inl hk)]
      rw [fol_unit (l := (b.v2 : Int)) r2.1 (by omega) ((low m _ r2.2).trans z2) (by intro k hk; simp at hk; omega) (by simp) (by rw [hold_pos, put_other _ (by omega), put_other _ (by omega)]) (by intro k hk; simp at hk; exact .inl hk)]
      refine fol_dead (by omega) (by omega) ((low m _ (by omega)).trans h.d.2) (by intro k hk; simp at hk; omega) ?_
      intro k hk
      simp at hk
      rcases hk with rfl | rfl | rfl
      · rw [hold_neg _ pd, put_other _ (by omega), put_other _ (by omega), put_same _ (by omega), if_neg (by omega)]; decide
      · rw [hold_neg _ p1, put_other _ (by omega), put_same _ (by omega), if_neg (by omega)]; decide
      · rw [hold_neg _ p2, put_same _ (by omega), if_neg (by omega)]; decide
    · obtain ⟨n0, nn1, nn2, nnd, z1, z1', z2, z2', s1, s2⟩ := h.n (by omega)
      rw [if_neg h0, if_neg h1, if_neg (by omega)]
      have A : FolOk C (rows ++ [([-(b.vd : Int), (b.v1 : Int)], [(b.cd : Int), b.c2, (b.c1 : Int) + 1])]) := by
        refine hr.snoc ⟨by unfold hold; split <;> simp, ?_, trivial⟩ ?_
        · show hold (putP (fun _ => 0) (- -(b.vd : Int))) (b.v1 : Int) ≤ 0
          rw [hold_pos, put_other _ (by omega)]; decide
        show folP _ (negP (fun _ => 0) [-(b.vd : Int), (b.v1 : Int)]) [(b.cd : Int), b.c2, ((b.c1 + 1 : Nat) : Int)] = true
        rw [show negP (fun _ => 0) [-(b.vd : Int), (b.v1 : Int)] = putP (putP (fun _ => 0) (b.vd : Int)) (-(b.v1 : Int)) by show putP (putP _ (- -(b.vd : Int))) _ = _; rw [Int.neg_neg]]
        generalize List.map Prod.fst rows = m
        have l := len m
        rw [fol_unit (l := (b.v2 : Int)) rd.1 (by omega) ((low m _ (by omega)).trans h.d.1) (by intro k hk; simp at hk; omega) (by simp) (by rw [hold_pos, put_other _ (by omega), put_other _ (by omega)]) (by
          intro k hk; simp at hk
          rcases hk with rfl | rfl | rfl
          · right; rw [hold_neg _ pd, put_other _ (by omega), put_same _ (by omega), if_neg (by omega)]; decide
          · right; rw [hold_pos, put_same _ (by omega), if_pos (by omega)]; decide
          · exact .inl rfl)]
        rw [fol_unit (l := (n : Int)) r2.1 (by omega) ((low m _ r2.2).trans z2) (by intro k hk; simp at hk; omega) (by simp) (by rw [hold_pos, put_other _ (by omega), put_other _ (by omega), put_other _ (by omega)]) (by
          intro k hk; simp at hk
          rcases hk with rfl | rfl
          · right; rw [hold_neg _ p2, put_same _ (by omega), if_neg (by omega)]; decide
          · exact .inl rfl)]
        refine fol_dead (by omega) (by omega) ((low m _ s1).trans z1') (by intro k hk; simp at hk; omega) ?_
        intro k hk; simp at hk
        rcases hk with rfl | rfl
        · rw [hold_pos, put_other _ (by omega), put_other _ (by omega), put_same _ (by omega), if_pos (by omega)]; decide
        · rw [hold_neg _ n0, put_same _ (by omega), if_neg (by omega)]; decide
      have e2 : rows ++ [([-(b.vd : Int), (b.v1 : Int)], [(b.cd : Int), b.c2, (b.c1 : Int) + 1]), ([-(b.vd : Int)], [((C.length + 1 + rows.length : Nat) : Int), b.c1, (b.c2 : Int) + 1, (b.cd : Int) + 1])] = (rows ++ [([-(b.vd : Int), (b.v1 : Int)], [(b.cd : Int), b.c2, (b.c1 : Int) + 1])]) ++ [([-(b.vd : Int)], [((C.length + 1 + rows.length : Nat) : Int), b.c1, (b.c2 : Int) + 1, (b.cd : Int) + 1])] := by simp
      rw [e2]
      refine ⟨A.snoc hd0 ?_, rows.length + 1, by omega, by simp, by simp [List.getD_eq_getElem?_getD]⟩
      show folP _ (negP (fun _ => 0) [-(b.vd : Int)]) [((C.length + 1 + rows.length : Nat) : Int), b.c1, ((b.c2 + 1 : Nat) : Int), ((b.cd + 1 : Nat) : Int)] = true
      rw [V0, List.map_append]
      have nx : ([] :: C ++ (rows.map Prod.fst ++ [[-(b.vd : Int), (b.v1 : Int)]])).getD (C.length + 1 + rows.length) [] = [-(b.vd : Int), (b.v1 : Int)] := by
        rw [← List.append_assoc, List.getD_eq_getElem?_getD, List.getElem?_append_right (by simp; omega)]
        simp
        rw [show C.length + 1 + rows.length - (C.length + rows.length + 1) = 0 by omega]
        rfl
      have l := len (rows.map Prod.fst ++ [[-(b.vd : Int), (b.v1 : Int)]])
      have l' : (rows.map Prod.fst ++ [[-(b.vd : Int), (b.v1 : Int)]]).length = rows.length + 1 := by simp
      rw [l'] at l
      show folP ([] :: C ++ (rows.map Prod.fst ++ [[-(b.vd : Int), (b.v1 : Int)]])) _ _ = true
      generalize rows.map Prod.fst ++ [[-(b.vd : Int), (b.v1 : Int)]] = m at nx l
      rw [fol_unit (l := (b.v1 : Int)) (by omega) (by omega) nx (by intro k hk; simp at hk; omega) (by simp) (by rw [hold_pos, put_other _ (by omega)]) (by
        intro k hk; simp at hk
        rcases hk with rfl | rfl
        · right; rw [hold_neg _ pd, put_same _ (by omega), if_neg (by omega)]; decide
        · exact .inl rfl)]
      rw [fol_unit (l := (n : Int)) r1.1 (by omega) ((low m _ r1.2).trans z1) (by intro k hk; simp at hk; omega) (by simp) (by rw [hold_pos, put_other _ (by omega), put_other _ (by omega)]) (by
        intro k hk; simp at hk
        rcases hk with rfl | rfl
        · right; rw [hold_neg _ p1, put_same _ (by omega), if_neg (by omega)]; decide
        · exact .inl rfl)]
      rw [fol_unit (l := (b.v2 : Int)) (by omega) (by omega) ((low m _ s2).trans z2') (by intro k hk; simp at hk; omega) (by simp) (by rw [hold_pos, put_other _ (by omega), put_other _ (by omega), put_other _ (by omega)]) (by
        intro k hk; simp at hk
        rcases hk with rfl | rfl
        · exact .inl rfl
        · right; rw [hold_neg _ n0, put_same _ (by omega), if_neg (by omega)]; decide)]
      refine fol_dead (by omega) (by omega) ((low m _ (by omega)).trans h.d.2) (by intro k hk; simp at hk; omega) ?_
      intro k hk; simp at hk
      rcases hk with rfl | rfl | rfl
      · rw [hold_neg _ pd, put_other _ (by omega), put_other _ (by omega), put_other _ (by omega), put_same _ (by omega), if_neg (by omega)]; decide
      · rw [hold_neg _ p1, put_other _ (by omega), put_other _ (by omega), put_same _ (by omega), if_neg (by omega)]; decide
      · rw [hold_neg _ p2, put_same _ (by omega), if_neg (by omega)]; decide
end Cl
end Go.Proofs.YtgddmpmcnjlcjabGreatDoor
namespace Go.Proofs.YtgddmpmcnjlcjabGreatDoor
set_option linter.unusedVariables false
namespace Cl
theorem getD_mid {A P S R B : List (List Int)} {t : Nat} (ht : t < S.length) : (A ++ (P ++ S ++ R) ++ B).getD (A.length + P.length + t) [] = S.getD t [] := by
  rw [show A ++ (P ++ S ++ R) ++ B = (A ++ P) ++ (S ++ (R ++ B)) by simp only [List.append_assoc], List.getD_eq_getElem?_getD, List.getElem?_append_right (by simp)]
  rw [show A.length + P.length + t - (A ++ P).length = t by simp, List.getElem?_append_left ht, ← List.getD_eq_getElem?_getD]
theorem tldK_split (g : Nat → Nat) (V : Nat) (D : List Nat) {i : Nat} : ∀ m, i < m → ∃ R, tldK g V D m = tldK g V D i ++ sameK g ((V + 1 + i : Nat) : Int) (D.getD i 0) 0 ++ R
  | 0, h => absurd h (by omega)
  | m + 1, h => by
    by_cases c : i = m
    · subst c; exact ⟨[], by rw [List.append_nil]; rfl⟩
    · obtain ⟨R, e⟩ := tldK_split g V D (i := i) m (by omega)
      exact ⟨R ++ sameK g ((V + 1 + m : Nat) : Int) (D.getD m 0) 0, by show tldK g V D m ++ _ = _; rw [e, List.append_assoc]⟩
theorem difK_split (V M : Nat) {i : Nat} : ∀ m, i < m → ∃ R, difK V M m = difK V M i ++ difK4 (V + 2 * M + 1 + i) (V + 1 + i) (V + M + 1 + i) ++ R
  | 0, h => absurd h (by omega)
  | m + 1, h => by
    by_cases c : i = m
    · subst c; exact ⟨[], by rw [List.append_nil]; rfl⟩
    · obtain ⟨R, e⟩ := difK_split V M (i := i) m (by omega)
      exact ⟨R ++ difK4 (V + 2 * M + 1 + m) (V + 1 + m) (V + M + 1 + m), by show difK V M m ++ _ = _; rw [e, List.append_assoc]⟩
section
variable {sec : List Bool} {nodes : List Dg.Nd} {D : List Nat} {pos : Nat → Nat}
theorem tl1_at (dia : Dia sec nodes D pos) {i : Nat} (hi : i ≤ D.length) : (tl1 sec nodes D i).1 = (ndsK nodes (b1 sec) (b2 sec) (F1 sec nodes D) (F2 sec nodes D) nodes.length).length + (tldK (F1 sec nodes D) (vin sec) D i).length := by
  obtain ⟨_, a2⟩ := nodesN_rend nodes (b1 sec) (b2 sec) ⟨vin sec + 3 * D.length, 0, fun _ => 0, fun _ => 0, []⟩ dia.desc nodes.length (Nat.le_refl _)
  have a2 : (nds sec nodes D.length).ct = (ndsK nodes (b1 sec) (b2 sec) (F1 sec nodes D) (F2 sec nodes D) nodes.length).length := by have := a2; simp only [Nat.zero_add] at this; exact this
  obtain ⟨_, c2⟩ := tldN_rend (n1 sec nodes D.length) (vin sec) D (nds sec nodes D.length).ct i
  have g1 := tldK_congr (g := fun j => (n1 sec nodes D.length).getD j 0) (h := F1 sec nodes D) (V := vin sec) dia.D (fun j hj => tab_get _ _ j hj) i hi
  rw [g1] at c2
  refine Eq.trans (show (tl1 sec nodes D i).1 = _ from c2) ?_
  rw [a2]
theorem tl2_at (dia : Dia sec nodes D pos) {i : Nat} (hi : i ≤ D.length) : (tl2 sec nodes D i).1 = (ndsK nodes (b1 sec) (b2 sec) (F1 sec nodes D) (F2 sec nodes D) nodes.length ++ tldK (F1 sec nodes D) (vin sec) D D.length).length + (tldK (F2 sec nodes D) (vin sec + D.length) D i).length := by
  obtain ⟨_, c2⟩ := tldN_rend (n2 sec nodes D.length) (vin sec + D.length) D (tl1 sec nodes D D.length).1 i
  have g2 := tldK_congr (g := fun j => (n2 sec nodes D.length).getD j 0) (h := F2 sec nodes D) (V := vin sec + D.length) dia.D (fun j hj => tab_get _ _ j hj) i hi
  rw [g2] at c2
  refine Eq.trans (show (tl2 sec nodes D i).1 = _ from c2) ?_
  rw [tl1_at dia (Nat.le_refl _), List.length_append]
theorem all_tl1 (dia : Dia sec nodes D pos) {i t : Nat} (hi : i < D.length) (ht : t < sameC (D.getD i 0)) : (allK sec nodes D).getD ((tl1 sec nodes D i).1 + t) [] = (sameK (F1 sec nodes D) ((vin sec + 1 + i : Nat) : Int) (D.getD i 0) 0).getD t [] ∧ (tl1 sec nodes D i).1 + t < (allK sec nodes D).length := by
  obtain ⟨R, e⟩ := tldK_split (F1 sec nodes D) (vin sec) D D.length hi
  have hl := sameK_len (F1 sec nodes D) ((vin sec + 1 + i : Nat) : Int) (D.getD i 0) 0
  rw [tl1_at dia (by omega)]
  unfold allK ahdK
  rw [e]
  simp only [List.append_assoc]
  refine ⟨?_, ?_⟩
  · have := getD_mid (A := ndsK nodes (b1 sec) (b2 sec) (F1 sec nodes D) (F2 sec nodes D) nodes.length) (P := tldK (F1 sec nodes D) (vin sec) D i) (R := R) (B := tldK (F2 sec nodes D) (vin sec + D.length) D D.length ++ (difK (vin sec) D.length D.length ++ [lastK (vin sec) D.length])) (S := sameK (F1 sec nodes D) ((vin sec + 1 + i : Nat) : Int) (D.getD i 0) 0) (t := t) (by omega)
    simp only [List.append_assoc] at this
    exact this
  · simp only [List.length_append]; omega
theorem all_tl2 (dia : Dia sec nodes D pos) {i t : Nat} (hi : i < D.length) (ht : t < sameC (D.getD i 0)) : (allK sec nodes D).getD ((tl2 sec nodes D i).1 + t) [] = (sameK (F2 sec nodes D) ((vin sec + D.length + 1 + i : Nat) : Int) (D.getD i 0) 0).getD t [] ∧ (tl2 sec nodes D i).1 + t < (allK sec nodes D).length := by
  obtain ⟨R, e⟩ := tldK_split (F2 sec nodes D) (vin sec + D.length) D D.length hi
  have hl := sameK_len (F2 sec nodes D) ((vin sec + D.length + 1 + i : Nat) : Int) (D.getD i 0) 0
  rw [tl2_at dia (by omega)]
  unfold allK ahdK
  rw [e]
  refine ⟨?_, ?_⟩
  · have := getD_mid (A := ndsK nodes (b1 sec) (b2 sec) (F1 sec nodes D) (F2 sec nodes D) nodes.length ++ tldK (F1 sec nodes D) (vin sec) D D.length) (P := tldK (F2 sec nodes D) (vin sec + D.length) D i) (R := R) (B := difK (vin sec) D.length D.length ++ [lastK (vin sec) D.length]) (S := sameK (F2 sec nodes D) ((vin sec + D.length + 1 + i : Nat) : Int) (D.getD i 0) 0) (t := t) (by omega)
    simp only [List.append_assoc] at this ⊢
    exact this
  · simp only [List.length_append]; omega
theorem all_dif (dia : Dia sec nodes D pos) {i t : Nat} (hi : i < D.length) (ht : t < 4) : (allK sec nodes D).getD ((tl2 sec nodes D D.length).1 + 4 * i + t) [] = (difK4 (vin sec + 2 * D.length + 1 + i) (vin sec + 1 + i) (vin sec + D.length + 1 + i)).getD t [] ∧ (tl2 sec nodes D D.length).1 + 4 * i + t < (allK sec nodes D).length := by
  obtain ⟨R, e⟩ := difK_split (vin sec) D.length D.length hi
  have hl := (difN_rend (vin sec) D.length i).2
  have ha : (tl2 sec nodes D D.length).1 = (ahdK sec nodes D).length := by
    rw [tl2_at dia (Nat.le_refl _)]; unfold ahdK; simp only [List.length_append]
  rw [ha, ← hl]
  unfold allK
  rw [e]
  exact ⟨getD_mid (A := ahdK sec nodes D) (P := difK (vin sec) D.length i) (R := R) (B := [lastK (vin sec) D.length]) (by exact ht), by simp only [List.length_append, show (difK4 (vin sec + 2 * D.length + 1 + i) (vin sec + 1 + i) (vin sec + D.length + 1 + i)).length = 4 from rfl]; omega⟩
theorem all_last : (allK sec nodes D).getD ((allK sec nodes D).length - 1) [] = lastK (vin sec) D.length ∧ 1 ≤ (allK sec nodes D).length := by
  unfold allK
  rw [List.length_append]
  exact ⟨by simp [List.getD_eq_getElem?_getD], Nat.le_add_left _ _⟩
theorem clL1 {a : Int} (ha : a ≠ 0) : clL a 0 0 = [a] := by unfold clL; simp [ha]
theorem clL2 {a b : Int} (ha : a ≠ 0) (hb : b ≠ 0) : clL a 0 b = [a, b] := by unfold clL; simp [ha, hb]
theorem bt_ok (dia : Dia sec nodes D pos) {i : Nat} (hi : i < D.length) (hs : (Dg.ndAt nodes (D.getD i 0)).sec = false) : BtAt (allK sec nodes D) (bitN sec nodes D i) (F1 sec nodes D (D.getD i 0)) := by
  have hD := dia.D i hi
  have cons : ∀ (k : Nat), (([] : List Int) :: allK sec nodes D).getD (k + 1) [] = (allK sec nodes D).getD k [] := fun k => by simp
  have d0 := all_dif dia hi (t := 0) (by omega)
  have d1 := all_dif dia hi (t := 1) (by omega)
  have s0 : 0 < sameC (D.getD i 0) := by unfold sameC; split <;> omega
  have x0 := all_tl1 dia hi (t := 0) s0
  have y0 := all_tl2 dia hi (t := 0) s0
  have e1 : ∀ (g : Nat → Nat) (v : Nat), 0 < v → D.getD i 0 = 0 → sameK g (v : Int) (D.getD i 0) 0 = [[-(v : Int)]] := fun g v hv h => by unfold sameK; rw [if_pos h, clL1 (by omega)]
  have e2 : ∀ (g : Nat → Nat) (v : Nat), 0 < v → D.getD i 0 = 1 → sameK g (v : Int) (D.getD i 0) 0 = [[(v : Int)]] := fun g v hv h => by unfold sameK; rw [if_neg (by omega), if_pos h, clL1 (by omega)]
  have e3 : ∀ (g : Nat → Nat) (v : Nat), 0 < v → 2 ≤ D.getD i 0 → 0 < g (D.getD i 0) → sameK g (v : Int) (D.getD i 0) 0 = [[-(v : Int), (g (D.getD i 0) : Int)], [(v : Int), -(g (D.getD i 0) : Int)]] := fun g v hv h hg => by unfold sameK; rw [if_neg (by omega), if_neg (by omega), clL2 (by omega) (by omega), clL2 (by omega) (by omega)]
  refine ⟨?_, ?_, ?_, ?_, ?_, ?_, fun h => ?_, fun h => ?_, fun h => ?_, ⟨?_, ?_⟩, ⟨?_, ?_⟩, ⟨?_, ?_⟩, ⟨?_, ?_⟩⟩
  · show 0 < vin sec + 1 + i; omega
  · show 0 < vin sec + D.length + 1 + i; omega
  · show 0 < vin sec + 2 * D.length + 1 + i; omega
  · show vin sec + 1 + i ≠ vin sec + D.length + 1 + i; omega
  · show vin sec + 1 + i ≠ vin sec + 2 * D.length + 1 + i; omega
  · show vin sec + D.length + 1 + i ≠ vin sec + 2 * D.length + 1 + i; omega
  · have h : D.getD i 0 = 0 := h
    refine ⟨(cons _).trans (x0.1.trans ?_), (cons _).trans (y0.1.trans ?_)⟩
    · rw [e1 _ _ (by omega) h]; rfl
    · rw [e1 _ _ (by omega) h]; rfl
  · have h : D.getD i 0 = 1 := h
    refine ⟨(cons _).trans (x0.1.trans ?_), (cons _).trans (y0.1.trans ?_)⟩
    · rw [e2 _ _ (by omega) h]; rfl
    · rw [e2 _ _ (by omega) h]; rfl
  · have h : 2 ≤ D.getD i 0 := h
    have r1 := F1_rng (sec := sec) (D := D) h hD
    have r2 := (F2_rng (sec := sec) (D := D) h hD).2.2
    rw [hs] at r2
    have r2 : F2 sec nodes D (D.getD i 0) = F1 sec nodes D (D.getD i 0) := r2
    have s1 : 1 < sameC (D.getD i 0) := by unfold sameC; rw [if_neg (by omega)]; omega
    have x1 := all_tl1 dia hi (t := 1) s1
    have y1 := all_tl2 dia hi (t := 1) s1
    have p1 := F1_pos (sec := sec) (D := D) h hD
    have k1 := e3 (F1 sec nodes D) (vin sec + 1 + i) (by omega) h p1
    have k2 := e3 (F2 sec nodes D) (vin sec + D.length + 1 + i) (by omega) h (by omega)
    rw [r2] at k2
    refine ⟨by omega, ?_, ?_, ?_, (cons _).trans (x0.1.trans ?_), (cons _).trans (x1.1.trans ?_), (cons _).trans (y0.1.trans ?_), (cons _).trans (y1.1.trans ?_), ?_, ?_⟩
    · show _ ≠ vin sec + 1 + i; omega
    · show _ ≠ vin sec + D.length + 1 + i; omega
    · show _ ≠ vin sec + 2 * D.length + 1 + i; omega
    · rw [k1]; rfl
    · rw [k1]; rfl
    · rw [k2]; rfl
    · rw [k2]; rfl
    · show (tl1 sec nodes D i).1 + 1 + 1 < _; have := x1.2; omega
    · show (tl2 sec nodes D i).1 + 1 + 1 < _; have := y1.2; omega
  · exact (cons _).trans d0.1
  · exact (cons _).trans d1.1
  · show 1 ≤ (tl1 sec nodes D i).1 + 1; omega
  · show (tl1 sec nodes D i).1 + 1 < _; have := x0.2; omega
  · show 1 ≤ (tl2 sec nodes D i).1 + 1; omega
  · show (tl2 sec nodes D i).1 + 1 < _; have := y0.2; omega
  · show 1 ≤ (tl2 sec nodes D D.length).1 + 4 * i + 1; omega
  · show (tl2 sec nodes D D.length).1 + 4 * i + 1 + 1 < _; have := d1.2; omega
end
theorem getD_snoc {l : List Int} {a : Int} {n : Nat} (h : l.length = n) : (l ++ [a]).getD n 0 = a := by subst h; simp [List.getD_eq_getElem?_getD]
theorem prfR_ok {C : List (List Int)} {bits : List Bt} (hb : ∀ i, i < bits.length → ∃ n, BtAt C (bits.getD i {}) n) : ∀ i, i ≤ bits.length → FolOk C (prfR bits (C.length + 1) i) ∧ (prfN bits (C.length + 1) i).2.2.length = i ∧
    ∀ j, j < i → ∃ q, (prfN bits (C.length + 1) i).2.2.getD j 0 = ((C.length + 1 + q : Nat) : Int) ∧ q < (prfR bits (C.length + 1) i).length ∧ ((prfR bits (C.length + 1) i).getD q ([], [])).1 = [-((bits.getD j {}).vd : Int)] := by
  intro i
  induction i with
  | zero => intro _; exact ⟨fun j h => absurd h (by simp [prfR]), rfl, fun j h => absurd h (by omega)⟩
  | succ i ih =>
    intro hi
    obtain ⟨h1, h2, h3⟩ := ih (by omega)
    obtain ⟨n, hn⟩ := hb i (by omega)
    have a := (prfN_rend bits (C.length + 1) i).1
    obtain ⟨k1, q, k2, k3, k4⟩ := eqRw_ok hn h1
    rw [← a] at k1 k2 k3 k4
    refine ⟨k1, by show (_ ++ [_]).length = _; rw [List.length_append, h2]; rfl, fun j hj => ?_⟩
    have eh : (prfN bits (C.length + 1) (i + 1)).2.2 = (prfN bits (C.length + 1) i).2.2 ++ [(eqR (prfN bits (C.length + 1) i).1 (bits.getD i {}) : Int)] := rfl
    rw [eh]
    by_cases c : j < i
    · obtain ⟨q', e1, e2, e3⟩ := h3 j c
      refine ⟨q', ?_, ?_, ?_⟩
      · rw [getD_app_left (by omega)]; exact e1
      · show q' < (prfR bits (C.length + 1) i ++ _).length; rw [List.length_append]; omega
      · show ((prfR bits (C.length + 1) i ++ _).getD q' ([], [])).1 = _; rw [getD_app_left e2]; exact e3
    · have : j = i := by omega
      subst this
      exact ⟨q, by rw [getD_snoc h2]; exact congrArg _ k2, k3, k4⟩
theorem fol_last {all : List (List Int)} {hs : List Int} {ct m : Nat} {vd : Nat → Nat} (hvd : ∀ i, i < m → 0 < vd i) (inj : ∀ i j, i < m → j < m → vd i = vd j → i = j) (hl : hs.length = m) (hh : ∀ j, j < m → ∃ h, 1 ≤ h ∧ h < all.length ∧ hs.getD j 0 = (h : Int) ∧ all.getD h [] = [-(vd j : Int)])
    (hc : 1 ≤ ct ∧ ct < all.length) (he : all.getD ct [] = (List.range m).map fun i => (vd i : Int)) : ∀ d k, k + d = m → ∀ V : Nat → Int, (∀ j, j < k → V (vd j) = -1) → (∀ j, k ≤ j → j < m → V (vd j) = 0) → folP all V (hs.drop k ++ [(ct : Int)]) = true := by
  intro d
  induction d with
  | zero =>
    intro k hk V v1 v0
    rw [List.drop_of_length_le (by omega)]
    refine fol_dead hc.1 hc.2 he (fun z hz => ?_) (fun z hz => ?_)
    · obtain ⟨i, hi, rfl⟩ := List.mem_map.1 hz; have := hvd i (List.mem_range.1 hi); omega
    · obtain ⟨i, hi, rfl⟩ := List.mem_map.1 hz; rw [hold_pos, v1 i (by have := List.mem_range.1 hi; omega)]; decide
  | succ d ih =>
    intro k hk V v1 v0
    obtain ⟨h, h1, h2, h3, h4⟩ := hh k (by omega)
    have e : hs.drop k = (h : Int) :: hs.drop (k + 1) := by
      rw [List.drop_eq_getElem_cons (by omega)]
      congr 1
      rw [← h3, List.getD_eq_getElem?_getD, List.getElem?_eq_getElem (by omega)]
      rfl
    have pk := hvd k (by omega)
    rw [e, List.cons_append, fol_unit (l := -(vd k : Int)) h1 h2 h4 (by intro z hz; simp at hz; omega) (by simp) (by rw [hold_neg _ pk, v0 k (Nat.le_refl _) (by omega)]; rfl) (by intro z hz; simp at hz; exact .inl hz)]
    refine ih (k + 1) (by omega) _ (fun j hj => ?_) (fun j hj hjm => ?_)
    · by_cases c : j = k
      · subst c; rw [put_same _ (by omega), if_pos (by omega)]
      · rw [put_other _ (by intro e; exact c (inj j k (by omega) (by omega) (by omega)))]; exact v1 j (by omega)
    · rw [put_other _ (by intro e; have := inj j k (by omega) (by omega) (by omega); omega)]; exact v0 j (by omega) hjm
section
variable {sec : List Bool} {nodes : List Dg.Nd} {D : List Nat} {pos : Nat → Nat}
theorem bits_get (sec : List Bool) (nodes : List Dg.Nd) (D : List Nat) {i : Nat} (hi : i < D.length) : (form sec nodes D).bits.getD i {} = bitN sec nodes D i := by
  show ((List.range D.length).map (bitN sec nodes D)).getD i ({} : Bt) = _
  simp [hi]
theorem bits_len (sec : List Bool) (nodes : List Dg.Nd) (D : List Nat) : (form sec nodes D).bits.length = D.length := by show ((List.range D.length).map _).length = _; simp
theorem prf_ok (dia : Dia sec nodes D pos) (hs : ∀ i, i < D.length → (Dg.ndAt nodes (D.getD i 0)).sec = false) :
    FolOk (allK sec nodes D) (prfA (form sec nodes D).bits (form sec nodes D).ct) := by
  have hct := (form_rend sec nodes D dia.desc dia.D).2
  have hb : ∀ i, i < (form sec nodes D).bits.length → ∃ n, BtAt (allK sec nodes D) ((form sec nodes D).bits.getD i {}) n := fun i hi => by
    rw [bits_len] at hi
    rw [bits_get sec nodes D hi]
    exact ⟨_, bt_ok dia hi (hs i hi)⟩
  obtain ⟨h1, h2, h3⟩ := prfR_ok hb _ (Nat.le_refl _)
  unfold prfA
  rw [hct]
  refine h1.snoc trivial ?_
  obtain ⟨l1, l2⟩ := all_last (sec := sec) (nodes := nodes) (D := D)
  rw [bits_len] at h1 h2 h3 ⊢
  generalize (prfN (form sec nodes D).bits ((allK sec nodes D).length + 1) D.length).2.2 = hts at h2 h3
  generalize prfR (form sec nodes D).bits ((allK sec nodes D).length + 1) D.length = rows at h1 h3
  have key := fol_last (all := [] :: allK sec nodes D ++ rows.map Prod.fst) (hs := hts) (ct := (allK sec nodes D).length) (m := D.length) (vd := fun i => vin sec + 2 * D.length + 1 + i) (fun i _ => by show 0 < _; omega) (fun i j _ _ e => by have e : vin sec + 2 * D.length + 1 + i = vin sec + 2 * D.length + 1 + j := e; omega) h2 (fun j hj => ?_) ⟨l2, by simp; omega⟩ ?_ D.length 0 (by omega) (fun _ => 0) (fun j hj => absurd hj (by omega)) (fun _ _ _ => rfl)
  · exact key
  · obtain ⟨q, e1, e2, e3⟩ := h3 j hj
    refine ⟨(allK sec nodes D).length + 1 + q, by omega, by simp; omega, e1, ?_⟩
    rw [List.getD_eq_getElem?_getD, List.getElem?_append_right (by simp)]
    have : (allK sec nodes D).length + 1 + q - (([] : List Int) :: allK sec nodes D).length = q := by simp
    rw [this, List.getElem?_map, List.getElem?_eq_getElem e2]
    rw [List.getD_eq_getElem?_getD, List.getElem?_eq_getElem e2, bits_get sec nodes D hj] at e3
    exact e3
  · rw [getD_app_left (by simp)]
    obtain ⟨c, hc⟩ : ∃ c, (allK sec nodes D).length = c + 1 := ⟨(allK sec nodes D).length - 1, by omega⟩
    rw [hc] at l1 ⊢
    rw [show (([] : List Int) :: allK sec nodes D).getD (c + 1) [] = (allK sec nodes D).getD c [] by simp, show c = c + 1 - 1 by omega, l1]
    unfold lastK freshL
    rw [List.map_map]
    rfl
end
end Cl
end Go.Proofs.YtgddmpmcnjlcjabGreatDoor
namespace Go.Proofs.YtgddmpmcnjlcjabGreatDoor
set_option linter.unusedVariables false
namespace Pr
structure FdOk (p : Pg) (k : Nat) (a : Fd) (Q : Nat → Nat → Prop) : Prop where
  le : a.al ≤ k
  no : a.fi = none → a.al = k
  so : ∀ i j, a.fi = some (i, j) → i < rows p.sec false ∧ j < rows p.sec true ∧ a.al < k ∧ run p i 0 a.al ≠ run p i j a.al
  all : ∀ i j, Q i j → ∀ t, t < a.al → run p i 0 t = run p i j t
theorem FdOk.look {p : Pg} {k : Nat} {a : Fd} {Q : Nat → Nat → Prop} (h : FdOk p k a Q) {i j : Nat} (hi : i < rows p.sec false) (hj : j < rows p.sec true) : FdOk p k (look p i a j) (fun x y => Q x y ∨ (x = i ∧ y = j)) := by
  unfold Pr.look
  split
  · rename_i hlt
    have ha := h.le
    refine ⟨by show agr _ _ _ ≤ k; omega, fun h => (by cases h), ?_, ?_⟩
    · intro x y e
      cases e
      exact ⟨hi, hj, by show agr _ _ _ < k; omega, agr_ne _ _ _ hlt⟩
    · intro x y hq t ht
      have ht' : t < agr (run p i 0) (run p i j) a.al := ht
      rcases hq with hq | ⟨rfl, rfl⟩
      · exact h.all x y hq t (by omega)
      · exact agr_eq _ _ _ t ht'
  · rename_i hlt
    refine ⟨h.le, h.no, h.so, ?_⟩
    intro x y hq t ht
    rcases hq with hq | ⟨rfl, rfl⟩
    · exact h.all x y hq t ht
    · exact agr_eq _ _ a.al t (by have := agr_le (run p x 0) (run p x y) a.al; omega)
theorem FdOk.imp {p : Pg} {k : Nat} {a : Fd} {Q R : Nat → Nat → Prop} (h : FdOk p k a Q) (hi : ∀ i j, R i j → Q i j) : FdOk p k a R := ⟨h.le, h.no, h.so, fun i j hq => h.all i j (hi i j hq)⟩
theorem FdOk.row {p : Pg} {k : Nat} {a : Fd} {Q : Nat → Nat → Prop} (h : FdOk p k a Q) {i : Nat} (hi : i < rows p.sec false) (n : Nat) (hn : n < rows p.sec true) : FdOk p k (rowN p i a n) (fun x y => Q x y ∨ (x = i ∧ 1 ≤ y ∧ y ≤ n)) := by
  induction n with
  | zero => exact h.imp (fun x y q => by rcases q with q | ⟨_, q1, q2⟩ <;> first | exact q | omega)
  | succ n ih =>
    refine ((ih (by omega)).look hi hn).imp ?_
    intro x y q
    rcases q with q | ⟨rfl, q1, q2⟩
    · exact .inl (.inl q)
    · by_cases e : y = n + 1
      · exact .inr ⟨rfl, e⟩
      · exact .inl (.inr ⟨rfl, q1, by omega⟩)
theorem fdN_ok (p : Pg) (k n : Nat) (hn : n ≤ rows p.sec false) : FdOk p k (fdN p k n) (fun x y => x < n ∧ 1 ≤ y ∧ y < rows p.sec true) := by
  have hp := rows_pos true p.sec 1 (by omega)
  have hp' : 0 < rows p.sec true := hp
  induction n with
  | zero => exact ⟨Nat.le_refl _, fun _ => rfl, fun i j e => (by cases e), fun i j q => (by omega)⟩
  | succ n ih =>
    refine ((ih (by omega)).row (i := n) (by omega) (rows p.sec true - 1) (by omega)).imp ?_
    intro x y q
    by_cases e : x = n
    · exact .inr ⟨e, q.2.1, by omega⟩
    · exact .inl ⟨by omega, q.2⟩
theorem fd_ok (p : Pg) (k : Nat) : FdOk p k (fd p k) (fun x y => x < rows p.sec false ∧ y < rows p.sec true) := by
  have h := fdN_ok p k (rows p.sec false) (Nat.le_refl _)
  refine ⟨h.le, h.no, h.so, ?_⟩
  intro i j q t ht
  by_cases e : j = 0
  · rw [e]
  · exact h.all i j ⟨q.1, by omega, q.2⟩ t ht
end Pr
end Go.Proofs.YtgddmpmcnjlcjabGreatDoor
namespace Go.Proofs.YtgddmpmcnjlcjabGreatDoor
set_option linter.unusedVariables false
namespace Pr
def inpR : List Bool → Nat → Nat → List Nat
  | [], _, _ => []
  | true :: bs, p, s => s % 16 :: inpR bs p (s / 16)
  | false :: bs, p, s => p % 16 :: inpR bs (p / 16) s
theorem deal_R (l : List Bool) (acc : List Nat) (p s : Nat) : (l.foldl deal (acc, p, s)).1 = acc ++ inpR l p s := by
  induction l generalizing acc p s with
  | nil => simp [inpR]
  | cons b l ih =>
    cases b with
    | true =>
      show (l.foldl deal (acc ++ [s % 16], p, s / 16)).1 = _
      rw [ih, List.append_assoc]; rfl
    | false =>
      show (l.foldl deal (acc ++ [p % 16], p / 16, s)).1 = _
      rw [ih, List.append_assoc]; rfl
theorem inp_R (l : List Bool) (p s : Nat) : inp l p s = inpR l p s := by
  unfold inp
  rw [deal_R, List.nil_append]
def rowsR : List Bool → Bool → Nat
  | [], _ => 1
  | b :: bs, s => if b = s then 16 * rowsR bs s else rowsR bs s
theorem rows_R (l : List Bool) (s : Bool) : rows l s = rowsR l s := by
  have h : ∀ (l : List Bool) (a : Nat), l.foldl (mulIf s) a = a * rowsR l s := by
    intro l
    induction l with
    | nil => intro a; simp [rowsR]
    | cons b l ih =>
      intro a
      rw [List.foldl_cons, ih]
      unfold mulIf
      rw [show rowsR (b :: l) s = if b = s then 16 * rowsR l s else rowsR l s from rfl]
      split
      · rw [Nat.mul_assoc]
      · rfl
  unfold rows
  rw [h, Nat.one_mul]
end Pr
end Go.Proofs.YtgddmpmcnjlcjabGreatDoor
namespace Go.Proofs.YtgddmpmcnjlcjabGreatDoor
set_option linter.unusedVariables false
namespace Pr
def dg : Nat → Nat → List Nat
  | 0, _ => []
  | n + 1, x => x % 16 :: dg n (x / 16)
def zr : List Bool → List Nat → List Nat
  | b :: bs, v :: vs => (if b = true then 0 else v) :: zr bs vs
  | _, _ => []
def anyS : List Bool → List Nat → Bool
  | b :: bs, v :: vs => (b && decide (0 < v)) || anyS bs vs
  | _, _ => false
theorem zr_inp (l : List Bool) (p s : Nat) : zr l (inp l p s) = inp l p 0 := by
  rw [inp_R, inp_R]
  induction l generalizing p s with
  | nil => rfl
  | cons b l ih =>
    cases b with
    | true =>
      show (if true = true then 0 else s % 16) :: zr l (inpR l p (s / 16)) = 0 % 16 :: inpR l p (0 / 16)
      rw [ih]; rfl
    | false =>
      show (if false = true then 0 else p % 16) :: zr l (inpR l (p / 16) s) = p % 16 :: inpR l (p / 16) 0
      rw [ih]; rfl
theorem inp_of (l : List Bool) (vs : List Nat) (hl : vs.length = l.length) (h : ∀ v ∈ vs, v < 16) : ∃ p s, p < rows l false ∧ s < rows l true ∧ inp l p s = vs := by
  have key : ∃ p s, p < rowsR l false ∧ s < rowsR l true ∧ inpR l p s = vs := by
    induction l generalizing vs with
    | nil =>
      cases vs with
      | nil => exact ⟨0, 0, Nat.one_pos, Nat.one_pos, rfl⟩
      | cons v vs => simp at hl
    | cons b l ih =>
      cases vs with
      | nil => simp at hl
      | cons v vs =>
        obtain ⟨p, s, h1, h2, h3⟩ := ih vs (by simpa using hl) (fun y hy => h y (List.mem_cons_of_mem _ hy))
        have hv := h v (List.mem_cons_self ..)
        cases b with
        | true =>
          refine ⟨p, v + 16 * s, h1, ?_, ?_⟩
          · show v + 16 * s < 16 * rowsR l true
            omega
          · show (v + 16 * s) % 16 :: inpR l p ((v + 16 * s) / 16) = v :: vs
            rw [show (v + 16 * s) % 16 = v by omega, show (v + 16 * s) / 16 = s by omega, h3]
        | false =>
          refine ⟨v + 16 * p, s, ?_, h2, ?_⟩
          · show v + 16 * p < 16 * rowsR l false
            omega
          · show (v + 16 * p) % 16 :: inpR l ((v + 16 * p) / 16) s = v :: vs
            rw [show (v + 16 * p) % 16 = v by omega, show (v + 16 * p) / 16 = p by omega, h3]
  obtain ⟨p, s, h1, h2, h3⟩ := key
  exact ⟨p, s, by rw [rows_R]; exact h1, by rw [rows_R]; exact h2, by rw [inp_R]; exact h3⟩
abbrev tl (p : Pg) (k : Nat) (vs : List Nat) : List Nat := Mc.tells p (Mc.ini vs) k
theorem tells_same {p : Pg} {a b : List Nat} {k : Nat} : tl p k a = tl p k b ↔ ∀ t, t < k → Mc.num p (Mc.ini a) t = Mc.num p (Mc.ini b) t := by
  unfold tl Mc.tells
  constructor
  · intro h t ht
    have h1 := congrArg (fun l => l.getD t 0) h
    simpa [ht] using h1
  · intro h
    exact List.map_congr_left (fun t ht => h t (List.mem_range.1 ht))
theorem fd_secure {p : Pg} {k : Nat} (h : ¬ (fd p k).al < k) (vs : List Nat) (hl : vs.length = p.sec.length) (h16 : ∀ v ∈ vs, v < 16) : tl p k vs = tl p k (zr p.sec vs) := by
  obtain ⟨i, j, hi, hj, e⟩ := inp_of p.sec vs hl h16
  rw [← e, zr_inp, tells_same]
  intro t ht
  have ok := fd_ok p k
  have hal : (fd p k).al = k := by have := ok.le; omega
  exact (ok.all i j ⟨hi, hj⟩ t (by rw [hal]; exact ht)).symm
end Pr
end Go.Proofs.YtgddmpmcnjlcjabGreatDoor
