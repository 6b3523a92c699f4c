import Derived.Test.YtgddmpmcnjlcjaaDoorB01
namespace Go.Proofs.YtgddmpmcnjlcjaaDoor.Lk
set_option linter.unusedVariables false
def sep (x : UInt8) : Bool := x == 32 || x == 10
def letr (x : UInt8) : Bool := decide (97 ≤ x.toNat) && decide (x.toNat ≤ 122)
def rot (x : UInt8) : UInt8 := UInt8.ofNat (97 + (x.toNat - 97 + 1) % 26)
def rgt : Wd → Bool
  | [] => true
  | y :: _ => sep y
def rn1 (b : Bool) (x : UInt8) (xs : Wd) : UInt8 := if b && letr x && rgt xs then rot x else x
def rnl : Bool → Wd → Wd
  | _, [] => []
  | b, x :: xs => rn1 b x xs :: rnl (sep x) xs
def rn (w : Wd) : Wd := if isName w then [rot (w.getD 0 0)] else w
theorem rot_nat {x : UInt8} (h : letr x = true) : (rot x).toNat = 97 + (x.toNat - 97 + 1) % 26 := by
  unfold rot
  rw [UInt8.toNat_ofNat']
  have : (x.toNat - 97 + 1) % 26 < 26 := Nat.mod_lt _ (by omega)
  omega
theorem letr_iff {x : UInt8} : letr x = true ↔ 97 ≤ x.toNat ∧ x.toNat ≤ 122 := by unfold letr; simp
theorem rot_letr {x : UInt8} (h : letr x = true) : letr (rot x) = true := by
  rw [letr_iff, rot_nat h]
  have : (x.toNat - 97 + 1) % 26 < 26 := Nat.mod_lt _ (by omega)
  omega
theorem sep_letr {x : UInt8} (h : letr x = true) : sep x = false := by
  rw [letr_iff] at h
  unfold sep
  have a : x ≠ 32 := fun e => by subst e; exact absurd h.1 (by decide)
  have b : x ≠ 10 := fun e => by subst e; exact absurd h.1 (by decide)
  simp [a, b]
theorem rn1_cases (b : Bool) (x : UInt8) (xs : Wd) : rn1 b x xs = x ∨ (letr x = true ∧ rn1 b x xs = rot x) := by
  unfold rn1
  split
  · rename_i h
    simp only [Bool.and_eq_true] at h
    exact .inr ⟨h.1.2, rfl⟩
  · exact .inl rfl
theorem rn1_sep (b : Bool) (x : UInt8) (xs : Wd) : sep (rn1 b x xs) = sep x := by
  rcases rn1_cases b x xs with h | ⟨h1, h2⟩
  · rw [h]
  · rw [h2, sep_letr (rot_letr h1), sep_letr h1]
theorem rnl_len : ∀ (s : Wd) (b : Bool), (rnl b s).length = s.length
  | [], _ => rfl
  | x :: xs, b => by show (rnl (sep x) xs).length + 1 = _; rw [rnl_len xs]; rfl
theorem rgt_app {l : Wd} {c : UInt8} {rest : Wd} (hc : sep c = true) : rgt (l ++ c :: rest) = rgt l := by
  cases l with
  | nil => exact hc
  | cons y l => rfl
theorem rnl_app {c : UInt8} (hc : sep c = true) (rest : Wd) : ∀ (l : Wd) (b : Bool), rnl b (l ++ c :: rest) = rnl b l ++ c :: rnl true rest
  | [], b => by
    show rn1 b c rest :: rnl (sep c) rest = c :: rnl true rest
    have hl : letr c = false := by
      cases h : letr c with
      | false => rfl
      | true => rw [sep_letr h] at hc; cases hc
    rw [hc]
    unfold rn1
    rw [hl]
    simp
  | x :: l, b => by
    show rn1 b x (l ++ c :: rest) :: rnl (sep x) (l ++ c :: rest) = (rn1 b x l :: rnl (sep x) l) ++ c :: rnl true rest
    rw [rnl_app hc rest l, show rn1 b x (l ++ c :: rest) = rn1 b x l by unfold rn1; rw [rgt_app hc]]
    rfl
theorem rnl_mem {c : UInt8} (hc : sep c = true) : ∀ (l : Wd) (b : Bool), (∀ x ∈ l, x ≠ c) → ∀ x ∈ rnl b l, x ≠ c
  | [], _, _ => fun x h => by cases h
  | y :: l, b, h => fun x hx => by
    rcases List.mem_cons.1 hx with rfl | hx
    · rcases rn1_cases b y l with e | ⟨h1, e⟩
      · rw [e]; exact h y (by simp)
      · rw [e]; intro k; rw [← k, sep_letr (rot_letr h1)] at hc; cases hc
    · exact rnl_mem hc l _ (fun z hz => h z (by simp [hz])) x hx
theorem first_of (c : UInt8) (s : Wd) : (∀ x ∈ s, x ≠ c) ∨ ∃ l rest, s = l ++ c :: rest ∧ ∀ x ∈ l, x ≠ c := by
  induction s with
  | nil => exact .inl (fun x h => by cases h)
  | cons y s ih =>
    by_cases hy : y = c
    · exact .inr ⟨[], s, by rw [hy]; rfl, fun x h => by cases h⟩
    · rcases ih with h | ⟨l, rest, e, h⟩
      · refine .inl (fun x hx => ?_)
        rcases List.mem_cons.1 hx with rfl | hx
        · exact hy
        · exact h x hx
      · refine .inr ⟨y :: l, rest, by rw [e]; rfl, fun x hx => ?_⟩
        rcases List.mem_cons.1 hx with rfl | hx
        · exact hy
        · exact h x hx
theorem cut_rnl {c : UInt8} (hc : sep c = true) : ∀ (n : Nat) (s : Wd), s.length ≤ n → cut c (rnl true s) = (cut c s).map (rnl true)
  | 0, s, hn => by
    have : s = [] := List.eq_nil_of_length_eq_zero (by omega)
    subst this
    rfl
  | n + 1, s, hn => by
    rcases first_of c s with h | ⟨l, rest, e, h⟩
    · rw [cut_none c _ (rnl_mem hc s true h), cut_none c _ h]; rfl
    · subst e
      have hl : rest.length ≤ n := by simp at hn; omega
      rw [rnl_app hc, cut_split c _ _ (rnl_mem hc l true h), cut_split c _ _ h, cut_rnl hc n rest hl]
      rfl
theorem cut_mem {c d : UInt8} : ∀ (s : Wd), (∀ x ∈ s, x ≠ d) → ∀ l ∈ cut c s, ∀ x ∈ l, x ≠ d
  | [], _ => fun l hl x hx => by simp [cut] at hl; subst hl; cases hx
  | y :: s, h => fun l hl x hx => by
    have ih := cut_mem (c := c) (d := d) s (fun z hz => h z (by simp [hz]))
    unfold cut at hl
    split at hl
    · rcases List.mem_cons.1 hl with rfl | hl
      · cases hx
      · exact ih l hl x hx
    · split at hl
      · rcases List.mem_cons.1 hl with rfl | hl
        · simp at hx; subst hx; exact h _ (by simp)
        · cases hl
      · rename_i z zs e
        rw [e] at ih
        rcases List.mem_cons.1 hl with rfl | hl
        · rcases List.mem_cons.1 hx with rfl | hx
          · exact h _ (by simp)
          · exact ih z (by simp) x hx
        · exact ih l (by simp [hl]) x hx
theorem cut_self {c : UInt8} : ∀ (s : Wd), ∀ l ∈ cut c s, ∀ x ∈ l, x ≠ c
  | [] => fun l hl x hx => by simp [cut] at hl; subst hl; cases hx
  | y :: s => fun l hl x hx => by
    have ih := cut_self (c := c) s
    unfold cut at hl
    split at hl
    · rcases List.mem_cons.1 hl with rfl | hl
      · cases hx
      · exact ih l hl x hx
    · rename_i hy
      split at hl
      · rcases List.mem_cons.1 hl with rfl | hl
        · simp at hx; subst hx; exact hy
        · cases hl
      · rename_i z zs e
        rw [e] at ih
        rcases List.mem_cons.1 hl with rfl | hl
        · rcases List.mem_cons.1 hx with rfl | hx
          · exact hy
          · exact ih z (by simp) x hx
        · exact ih l (by simp [hl]) x hx
theorem rnl_false : ∀ (w : Wd), (∀ x ∈ w, sep x = false) → rnl false w = w
  | [], _ => rfl
  | x :: xs, h => by
    show rn1 false x xs :: rnl (sep x) xs = _
    rw [h x (by simp), rnl_false xs (fun y hy => h y (by simp [hy]))]
    rfl
theorem rnl_word (w : Wd) (h : ∀ x ∈ w, sep x = false) : rnl true w = rn w := by
  cases w with
  | nil => rfl
  | cons x xs =>
    show rn1 true x xs :: rnl (sep x) xs = _
    rw [h x (by simp), rnl_false xs (fun y hy => h y (by simp [hy]))]
    cases xs with
    | nil =>
      unfold rn rn1 isName
      show [if (true && letr x && true) = true then rot x else x] = if letr x = true then [rot x] else [x]
      simp only [Bool.true_and, Bool.and_true]
      split <;> rfl
    | cons y ys =>
      unfold rn rn1
      rw [show rgt (y :: ys) = sep y from rfl, h y (by simp)]
      simp [isName]
theorem words_rnl (l : Wd) (h : ∀ x ∈ l, x ≠ 10) : cut 32 (rnl true l) = (cut 32 l).map rn := by
  rw [cut_rnl (by decide) l.length l (Nat.le_refl _)]
  refine List.map_congr_left fun w hw => rnl_word w fun x hx => ?_
  have a := cut_self l w hw x hx
  have b := cut_mem (c := 32) l h w hw x hx
  unfold sep
  simp [a, b]
theorem isName_iff {w : Wd} : isName w = true ↔ ∃ c, w = [c] ∧ letr c = true := by
  constructor
  · intro h
    match w, h with
    | [c], h => exact ⟨c, rfl, h⟩
  · rintro ⟨c, rfl, h⟩; exact h
theorem rn_name {c : UInt8} (h : letr c = true) : rn [c] = [rot c] := by
  unfold rn; rw [if_pos (isName_iff.2 ⟨c, rfl, h⟩)]; rfl
theorem rn_other {w : Wd} (h : ¬ isName w = true) : rn w = w := by unfold rn; rw [if_neg h]
theorem isName_rn (w : Wd) : isName (rn w) = isName w := by
  by_cases h : isName w = true
  · obtain ⟨c, rfl, hc⟩ := isName_iff.1 h
    rw [h, rn_name hc]
    exact isName_iff.2 ⟨_, rfl, rot_letr hc⟩
  · rw [rn_other h]
theorem num_rn (w : Wd) : num? (rn w) = num? w := by
  by_cases h : isName w = true
  · obtain ⟨c, rfl, hc⟩ := isName_iff.1 h
    rw [rn_name hc]
    have h1 := letr_iff.1 hc
    have h2 := letr_iff.1 (rot_letr hc)
    unfold num?
    simp only
    rw [if_neg (by omega), if_neg (by omega)]
  · rw [rn_other h]
theorem eq_rn (w k : Wd) (hk : ∀ c, k = [c] → letr c = false) : (rn w == k) = (w == k) := by
  by_cases h : isName w = true
  · obtain ⟨c, rfl, hc⟩ := isName_iff.1 h
    rw [rn_name hc]
    have a : ¬ ([rot c] = k) := fun e => by have := hk _ e.symm; rw [rot_letr hc] at this; cases this
    have b : ¬ ([c] = k) := fun e => by have := hk _ e.symm; rw [hc] at this; cases this
    rw [beq_eq_false_iff_ne.2 a, beq_eq_false_iff_ne.2 b]
  · rw [rn_other h]
theorem oper_rn (w : Wd) : oper? (rn w) = oper? w := by
  unfold oper?
  rw [eq_rn w [43] (by intro c e; cases e; decide), eq_rn w [45] (by intro c e; cases e; decide), eq_rn w [42] (by intro c e; cases e; decide), eq_rn w [38] (by intro c e; cases e; decide), eq_rn w [124] (by intro c e; cases e; decide), eq_rn w [94] (by intro c e; cases e; decide), eq_rn w [60, 60] (by intro c e; cases e), eq_rn w [62, 62] (by intro c e; cases e), eq_rn w [60] (by intro c e; cases e; decide), eq_rn w [61, 61] (by intro c e; cases e)]
theorem wd_rn (ws : List Wd) (i : Nat) : wd (ws.map rn) i = rn (wd ws i) := by
  unfold wd
  rw [List.getD_eq_getElem?_getD, List.getD_eq_getElem?_getD, List.getElem?_map]
  cases ws[i]? with
  | none => rfl
  | some w => rfl
def cl (f : Nat → Nat × Nat) (r : RS) : RS := { r with letters := f }
def LetOk (f g : Nat → Nat × Nat) : Prop := ∀ j, j < 26 → f ((j + 1) % 26) = g j
def Rl (r r' : RS) : Prop := ∃ f, r' = cl f r ∧ LetOk f r.letters
def Rlo (o o' : Option RS) : Prop := (o = none ∧ o' = none) ∨ ∃ q q', o = some q ∧ o' = some q' ∧ Rl q q'
theorem Rlo.none : Rlo none none := .inl ⟨rfl, rfl⟩
theorem Rlo.some {q q' : RS} (h : Rl q q') : Rlo (some q) (some q') := .inr ⟨q, q', rfl, rfl, h⟩
theorem lat_rn {c : UInt8} (h : letr c = true) : lat [rot c] = (lat [c] + 1) % 26 ∧ lat [c] < 26 := by
  have h1 := letr_iff.1 h
  have h2 := rot_nat h
  show (rot c).toNat - 97 = (c.toNat - 97 + 1) % 26 ∧ c.toNat - 97 < 26
  omega
variable {r : RS} {f : Nat → Nat × Nat} {ws : List Wd}
theorem find_rn (hf : LetOk f r.letters) (w : Wd) : find (cl f r) (rn w) = find r w := by
  unfold find
  rw [isName_rn]
  by_cases h : isName w = true
  · rw [if_pos h, if_pos h]
    obtain ⟨c, rfl, hc⟩ := isName_iff.1 h
    rw [rn_name hc, (lat_rn hc).1]
    exact hf _ (lat_rn hc).2
  · rw [if_neg h, if_neg h]
theorem atom_rn (hf : LetOk f r.letters) (w : Wd) : atom? (cl f r) (rn w) = atom? r w := by
  unfold atom?
  rw [num_rn, find_rn hf]
theorem add_rn (hf : LetOk f r.letters) (s : St) : Rlo (add r s) (add (cl f r) s) := by
  unfold add
  by_cases h : r.stmts < 12
  · rw [if_pos h, if_pos (show (cl f r).stmts < 12 from h)]; exact .some ⟨f, rfl, hf⟩
  · rw [if_neg h, if_neg (show ¬ (cl f r).stmts < 12 from h)]; exact .none
theorem inj26 {a b : Nat} (ha : a < 26) (hb : b < 26) : (a + 1) % 26 = (b + 1) % 26 ↔ a = b := by omega
theorem declare_rn (hf : LetOk f r.letters) (w : Wd) (a b : Nat) : Rlo (declare r w a b) (declare (cl f r) (rn w) a b) := by
  unfold declare
  rw [isName_rn]
  by_cases hn : isName w = true
  · obtain ⟨c, rfl, hc⟩ := isName_iff.1 hn
    obtain ⟨l1, l2⟩ := lat_rn hc
    rw [rn_name hc, l1]
    rw [show ((cl f r).letters ((lat [c] + 1) % 26)) = r.letters (lat [c]) from hf _ l2]
    by_cases h : r.body.length = 0 ∧ isName [c] = true ∧ (r.letters (lat [c])).1 = 0
    · rw [if_pos h, if_pos (show (cl f r).body.length = 0 ∧ isName [c] = true ∧ (r.letters (lat [c])).1 = 0 from h)]
      refine .some ⟨upd f ((lat [c] + 1) % 26) (a, b), rfl, fun j hj => ?_⟩
      show upd f ((lat [c] + 1) % 26) (a, b) ((j + 1) % 26) = upd r.letters (lat [c]) (a, b) j
      unfold upd
      by_cases e : j = lat [c]
      · rw [if_pos e, if_pos ((inj26 hj l2).2 e)]
      · rw [if_neg e, if_neg (fun k => e ((inj26 hj l2).1 k))]; exact hf j hj
    · rw [if_neg h, if_neg (show ¬ ((cl f r).body.length = 0 ∧ isName [c] = true ∧ (r.letters (lat [c])).1 = 0) from h)]; exact .none
  · rw [if_neg (fun h => hn h.2.1), if_neg (fun h => hn h.2.1)]; exact .none
theorem rlo_then {o o' : Option RS} (g : RS → RS) (hg : ∀ f q, g (cl f q) = cl f (g q)) (hl : ∀ q, (g q).letters = q.letters) :
    Rlo o o' → Rlo (match o with | some q => some (g q) | none => none) (match o' with | some q => some (g q) | none => none) := by
  intro h
  rcases h with ⟨rfl, rfl⟩ | ⟨q, q', rfl, rfl, f, rfl, hf⟩
  · exact .none
  · exact .some ⟨f, hg f q, by rw [hl]; exact hf⟩
theorem input_rn (hf : LetOk f r.letters) (b : Bool) : Rlo (takeInput r ws b) (takeInput (cl f r) (ws.map rn) b) := by
  unfold takeInput
  rw [List.length_map, wd_rn]
  by_cases h : ws.length = 2 ∧ r.secret.length < 3 ∧ r.vars = 0
  · rw [if_pos h, if_pos (show ws.length = 2 ∧ (cl f r).secret.length < 3 ∧ (cl f r).vars = 0 from h)]
    exact rlo_then (fun q => { q with secret := q.secret ++ [b] }) (fun _ _ => rfl) (fun _ => rfl) (declare_rn hf _ _ _)
  · rw [if_neg h, if_neg (show ¬ (ws.length = 2 ∧ (cl f r).secret.length < 3 ∧ (cl f r).vars = 0) from h)]; exact .none
theorem var_rn (hf : LetOk f r.letters) : Rlo (takeVar r ws) (takeVar (cl f r) (ws.map rn)) := by
  unfold takeVar
  rw [List.length_map, wd_rn]
  by_cases h : ws.length = 2 ∧ r.vars < 4
  · rw [if_pos h, if_pos (show ws.length = 2 ∧ (cl f r).vars < 4 from h)]
    exact rlo_then (fun q => { q with vars := q.vars + 1 }) (fun _ _ => rfl) (fun _ => rfl) (declare_rn hf _ _ _)
  · rw [if_neg h, if_neg (show ¬ (ws.length = 2 ∧ (cl f r).vars < 4) from h)]; exact .none
theorem array_rn (hf : LetOk f r.letters) : Rlo (takeArray r ws) (takeArray (cl f r) (ws.map rn)) := by
  unfold takeArray
  rw [List.length_map, wd_rn, wd_rn, num_rn]
  by_cases h : ws.length = 3 ∧ r.cells.length < 2
  · rw [if_pos h, if_pos (show ws.length = 3 ∧ (cl f r).cells.length < 2 from h)]
    cases num? (wd ws 2) with
    | none => exact .none
    | some n =>
      show Rlo (if 1 ≤ n ∧ n ≤ 4 then _ else none) (if 1 ≤ n ∧ n ≤ 4 then _ else none)
      by_cases h2 : 1 ≤ n ∧ n ≤ 4
      · rw [if_pos h2, if_pos h2]
        exact rlo_then (fun q => { q with cells := q.cells ++ [n] }) (fun _ _ => rfl) (fun _ => rfl) (declare_rn hf _ _ _)
      · rw [if_neg h2, if_neg h2]; exact .none
  · rw [if_neg h, if_neg (show ¬ (ws.length = 3 ∧ (cl f r).cells.length < 2) from h)]; exact .none
theorem load_rn (hf : LetOk f r.letters) : Rlo (takeLoad r ws) (takeLoad (cl f r) (ws.map rn)) := by
  unfold takeLoad
  rw [List.length_map, wd_rn, wd_rn, wd_rn, find_rn hf, find_rn hf, atom_rn hf]
  split
  · cases atom? r (wd ws 3) with
    | none => exact .none
    | some y => exact add_rn hf _
  · exact .none
theorem store_rn (hf : LetOk f r.letters) : Rlo (takeStore r ws) (takeStore (cl f r) (ws.map rn)) := by
  unfold takeStore
  rw [List.length_map, wd_rn, wd_rn, wd_rn, find_rn hf, atom_rn hf, atom_rn hf]
  split
  · cases atom? r (wd ws 2) with
    | none => exact .none
    | some y =>
      cases atom? r (wd ws 3) with
      | none => exact .none
      | some z => exact add_rn hf _
  · exact .none
theorem out_rn (hf : LetOk f r.letters) : Rlo (takeOut r ws) (takeOut (cl f r) (ws.map rn)) := by
  unfold takeOut
  rw [List.length_map, wd_rn, atom_rn hf]
  split
  · cases atom? r (wd ws 1) with
    | none => exact .none
    | some y => exact add_rn hf _
  · exact .none
theorem eq61_rn (w : Wd) : (rn w = [61]) ↔ (w = [61]) := by
  have := eq_rn w [61] (by intro c e; cases e; decide)
  constructor
  · intro h; rw [h] at this; exact beq_iff_eq.1 this.symm
  · intro h; rw [h] at this ⊢; exact beq_iff_eq.1 this
theorem assign_rn (hf : LetOk f r.letters) : Rlo (takeAssign r ws) (takeAssign (cl f r) (ws.map rn)) := by
  unfold takeAssign
  rw [List.length_map, wd_rn, wd_rn, wd_rn, wd_rn, wd_rn, find_rn hf, atom_rn hf, atom_rn hf, oper_rn]
  simp only [eq61_rn]
  split
  · cases atom? r (wd ws 2) with
    | none => exact .none
    | some y =>
      show Rlo (if ws.length = 3 then _ else _) (if ws.length = 3 then _ else _)
      by_cases h3 : ws.length = 3
      · rw [if_pos h3, if_pos h3]; exact add_rn hf _
      · rw [if_neg h3, if_neg h3]
        cases oper? (wd ws 3) with
        | none => exact .none
        | some o =>
          cases atom? r (wd ws 4) with
          | none => exact .none
          | some z => exact add_rn hf _
  · exact .none
theorem branch_rn (hf : LetOk f r.letters) (k : Nat) : Rlo (takeBranch r ws k) (takeBranch (cl f r) (ws.map rn) k) := by
  unfold takeBranch
  rw [List.length_map, wd_rn, atom_rn hf]
  by_cases h : ws.length = 2 ∧ r.depth < 4
  · rw [if_pos h, if_pos (show ws.length = 2 ∧ (cl f r).depth < 4 from h)]
    cases atom? r (wd ws 1) with
    | none => exact .none
    | some y => exact rlo_then (fun q => { q with opn := upd q.opn q.depth (r.body.length, 0), depth := q.depth + 1 }) (fun _ _ => rfl) (fun _ => rfl) (add_rn hf _)
  · rw [if_neg h, if_neg (show ¬ (ws.length = 2 ∧ (cl f r).depth < 4) from h)]; exact .none
theorem else_rn (hf : LetOk f r.letters) : Rlo (takeElse r ws) (takeElse (cl f r) (ws.map rn)) := by
  unfold takeElse
  rw [List.length_map]
  by_cases h : ws.length = 1 ∧ 0 < r.depth ∧ (bodyAt r.body (r.opn (r.depth - 1)).1).kind = 4 ∧ (r.opn (r.depth - 1)).2 = 0
  · rw [if_pos h, if_pos (show ws.length = 1 ∧ 0 < (cl f r).depth ∧ (bodyAt (cl f r).body ((cl f r).opn ((cl f r).depth - 1)).1).kind = 4 ∧ ((cl f r).opn ((cl f r).depth - 1)).2 = 0 from h)]; exact .some ⟨f, rfl, hf⟩
  · rw [if_neg h, if_neg (show ¬ (ws.length = 1 ∧ 0 < (cl f r).depth ∧ (bodyAt (cl f r).body ((cl f r).opn ((cl f r).depth - 1)).1).kind = 4 ∧ ((cl f r).opn ((cl f r).depth - 1)).2 = 0) from h)]; exact .none
theorem end_rn (hf : LetOk f r.letters) : Rlo (takeEnd r ws) (takeEnd (cl f r) (ws.map rn)) := by
  unfold takeEnd
  rw [List.length_map]
  by_cases h : ws.length = 1 ∧ 0 < r.depth
  · rw [if_pos h, if_pos (show ws.length = 1 ∧ 0 < (cl f r).depth from h)]; exact .some ⟨f, rfl, hf⟩
  · rw [if_neg h, if_neg (show ¬ (ws.length = 1 ∧ 0 < (cl f r).depth) from h)]; exact .none
theorem rlo_ite {c : Bool} {a b a' b' : Option RS} (h1 : Rlo a a') (h2 : Rlo b b') : Rlo (if c = true then a else b) (if c = true then a' else b') := by
  cases c
  · exact h2
  · exact h1
theorem take_rn (hf : LetOk f r.letters) : Rlo (take r ws) (take (cl f r) (ws.map rn)) := by
  unfold take
  rw [List.length_map]
  by_cases h0 : ws.length = 0
  · rw [if_pos h0, if_pos h0]; exact .none
  rw [if_neg h0, if_neg h0, wd_rn]
  rw [eq_rn _ [115, 101, 99, 114, 101, 116] (by intro c e; cases e), eq_rn _ [112, 117, 98, 108, 105, 99] (by intro c e; cases e), eq_rn _ [118, 97, 114] (by intro c e; cases e), eq_rn _ [97, 114, 114, 97, 121] (by intro c e; cases e), eq_rn _ [108, 111, 97, 100] (by intro c e; cases e), eq_rn _ [115, 116, 111, 114, 101] (by intro c e; cases e), eq_rn _ [111, 117, 116] (by intro c e; cases e), eq_rn _ [105, 102] (by intro c e; cases e), eq_rn _ [119, 104, 105, 108, 101] (by intro c e; cases e), eq_rn _ [101, 108, 115, 101] (by intro c e; cases e), eq_rn _ [101, 110, 100] (by intro c e; cases e)]
  exact rlo_ite (input_rn hf _) (rlo_ite (input_rn hf _) (rlo_ite (var_rn hf) (rlo_ite (array_rn hf) (rlo_ite (load_rn hf) (rlo_ite (store_rn hf) (rlo_ite (out_rn hf) (rlo_ite (branch_rn hf _) (rlo_ite (branch_rn hf _) (rlo_ite (else_rn hf) (rlo_ite (end_rn hf) (assign_rn hf)))))))))))
theorem lines_rn : ∀ (ls : List Wd) (r r' : RS) (n : Nat), (∀ l ∈ ls, ∀ x ∈ l, x ≠ 10) → Rl r r' → (lines r' n (ls.map (rnl true))).2 = (lines r n ls).2 ∧ Rl (lines r n ls).1 (lines r' n (ls.map (rnl true))).1
  | [], r, r', n, _, h => ⟨rfl, h⟩
  | [l], r, r', n, _, h => by
    show (lines r' n [rnl true l]).2 = _ ∧ Rl _ (lines r' n [rnl true l]).1
    have hd : r'.depth = r.depth := by obtain ⟨f, rfl, _⟩ := h; rfl
    unfold lines
    rw [rnl_len, hd]
    by_cases hc : l.length = 0 ∧ r.depth = 0
    · rw [if_pos hc, if_pos hc]; exact ⟨rfl, h⟩
    · rw [if_neg hc, if_neg hc]; exact ⟨rfl, h⟩
  | l :: m :: ls, r, r', n, hm, h => by
    have ht : Rlo (take r (cut 32 l)) (take r' (cut 32 (rnl true l))) := by
      obtain ⟨f, rfl, hf⟩ := h
      rw [words_rnl l (hm l (by simp))]
      exact take_rn hf
    show (lines r' n (rnl true l :: rnl true m :: ls.map (rnl true))).2 = _ ∧ Rl _ (lines r' n (rnl true l :: rnl true m :: ls.map (rnl true))).1
    rcases ht with ⟨t1, t2⟩ | ⟨q, q', t1, t2, hq⟩
    · have a1 : lines r n (l :: m :: ls) = (r, n + 1) := by conv => lhs; unfold lines; rw [t1]
      have a2 : lines r' n (rnl true l :: rnl true m :: ls.map (rnl true)) = (r', n + 1) := by conv => lhs; unfold lines; rw [t2]
      rw [a1, a2]
      exact ⟨rfl, h⟩
    · have a1 : lines r n (l :: m :: ls) = lines q (n + 1) (m :: ls) := by conv => lhs; unfold lines; rw [t1]
      have a2 : lines r' n (rnl true l :: rnl true m :: ls.map (rnl true)) = lines q' (n + 1) (rnl true m :: ls.map (rnl true)) := by conv => lhs; unfold lines; rw [t2]
      rw [a1, a2]
      exact lines_rn (m :: ls) q q' (n + 1) (fun l hl => hm l (List.mem_cons_of_mem _ hl)) hq
theorem read_rn (s : Wd) : (read (rnl true s)).2 = (read s).2 ∧ Rl (read s).1 (read (rnl true s)).1 := by
  unfold read
  rw [rnl_len]
  split
  · exact ⟨rfl, _, rfl, fun _ _ => rfl⟩
  · rw [cut_rnl (by decide) s.length s (Nat.le_refl _)]
    exact lines_rn _ _ _ 0 (cut_self s) ⟨_, rfl, fun _ _ => rfl⟩
end Go.Proofs.YtgddmpmcnjlcjaaDoor.Lk
