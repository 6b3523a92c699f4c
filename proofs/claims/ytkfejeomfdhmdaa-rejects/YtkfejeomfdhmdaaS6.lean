import Derived.Test.YtkfejeomfdhmdaaS5
namespace Go.Proofs.Ytkfejeomfdhmdaa.Rf
open Go.Proofs.Ytkfejeomfdhmdaa.Lk (Wd RS St num? oper? cut wd isName lat upd bodyAt find atom?)

section
variable {r : RS} {a : As} {w : List Wd}

theorem kind_zero (S : Sim r a) {q : Wd} (hq : isName q = true) : (r.letters (lat q)).1 = 0 ↔ kindOf a.ds q = [] := by
  have := (role_kind S q).2.2
  rw [this]
  unfold find
  rw [if_pos hq]

/-- A name is declared: all but the counts. -/
theorem sim_names (S : Sim r a) {q : Wd} (hq : isName q = true) (h0 : kindOf a.ds q = []) {k : Wd} (hk : k = wSecret ∨ k = wPublic ∨ k = wVar ∨ k = wArray) (n place : Nat) :
    (∀ d ∈ a.ds ++ [⟨q, k, n⟩], isName d.name = true ∧ (d.kind = wSecret ∨ d.kind = wPublic ∨ d.kind = wVar ∨ d.kind = wArray)) ∧
    (∀ w, isName w = true → ((upd r.letters (lat q) (role k, place)) (lat w)).1 = role (kindOf (a.ds ++ [⟨q, k, n⟩]) w)) := by
  constructor
  · intro d hd
    rcases List.mem_append.1 hd with h | h
    · exact S.dk d h
    · have e := List.mem_singleton.1 h
      rw [e]; exact ⟨hq, hk⟩
  · intro w hw
    rw [kindOf_app]
    have hkne : role k = role k := rfl
    unfold upd
    by_cases hl : lat w = lat q
    · have e : w = q := lat_inj hw hq hl
      subst e
      rw [if_pos rfl]
      have hall : ∀ x ∈ a.ds, (x.name == w) = false := by
        rcases kindOf_cases S.dk w with h | ⟨_, h⟩
        · exact h.2
        · rw [h0] at h
          rcases h with h | h | h | h <;> cases h
      rw [if_pos hall, if_pos (by simp)]
    · rw [if_neg hl]
      have hne : ((⟨q, k, n⟩ : Dc).name == w) = false := by
        have : q ≠ w := fun e => hl (by rw [e])
        simpa using this
      rw [S.nm w hw]
      by_cases hall : ∀ x ∈ a.ds, (x.name == w) = false
      · rw [if_pos hall, if_neg (by rw [hne]; simp)]
        rcases kindOf_cases S.dk w with h | ⟨_, h⟩
        · rw [h.1]
        · exact absurd hall (fun c => by
            have : kindOf a.ds w = [] := by
              have hx : ∀ ds : List Dc, (∀ x ∈ ds, (x.name == w) = false) → kindOf ds w = [] := by
                intro ds
                induction ds with
                | nil => intro _; rfl
                | cons y ys ih =>
                  intro hy
                  unfold kindOf
                  rw [if_neg (by rw [hy y (List.mem_cons.2 (.inl rfl))]; simp)]
                  exact ih (fun x hx => hy x (List.mem_cons.2 (.inr hx)))
              exact hx a.ds c
            rw [this] at h
            rcases h with h | h | h | h <;> cases h)
      · rw [if_neg hall]

theorem both_input (S : Sim r a) (b : Bool) {k : Wd} (hk : k = wSecret ∨ k = wPublic) (h : wd w 0 = k) : Both (Lk.takeInput r w b) ((declare a.ds a.bdy w).map fun ds => { a with ds := ds }) := by
  have ha : ¬ wd w 0 = wArray := by rw [h]; rcases hk with e | e <;> rw [e] <;> decide
  have hv : ¬ wd w 0 = wVar := by rw [h]; rcases hk with e | e <;> rw [e] <;> decide
  have hr : role k = 1 := by rcases hk with e | e <;> rw [e] <;> decide
  unfold Lk.takeInput declare Lk.declare
  rw [if_neg ha, S.sec, S.var]
  by_cases c1 : a.bdy = false ∧ w.length = 2 ∧ isName (wd w 1) = true ∧ kindOf a.ds (wd w 1) = []
  · rw [if_pos c1, if_neg ha, if_neg hv]
    by_cases c2 : many a.ds wVar = 0 ∧ many a.ds wSecret + many a.ds wPublic < 3
    · rw [if_pos c2, if_pos ⟨c1.2.1, c2.2, c2.1⟩, if_pos ⟨S.bdy.2 c1.1, c1.2.2.1, (kind_zero S c1.2.2.1).2 c1.2.2.2⟩]
      have N := sim_names S c1.2.2.1 c1.2.2.2 (k := k) (by rcases hk with e | e; exact .inl e; exact .inr (.inl e)) 0 (many a.ds wSecret + many a.ds wPublic)
      rw [hr] at N
      rw [h]
      refine ⟨N.1, N.2, ?_, ?_, ?_, S.bdy, S.cnt, S.le, S.dep, S.d4, S.stk⟩
      · show (r.secret ++ [b]).length = many (a.ds ++ [⟨wd w 1, k, 0⟩]) wSecret + many (a.ds ++ [⟨wd w 1, k, 0⟩]) wPublic
        rw [many_app, many_app, List.length_append, S.sec]
        rcases hk with e | e
        · rw [e]; simp [show (wSecret == wPublic) = false by decide]; omega
        · rw [e]; simp [show (wPublic == wSecret) = false by decide]; omega
      · show many a.ds wVar = many (a.ds ++ [⟨wd w 1, k, 0⟩]) wVar
        rw [many_app]
        rcases hk with e | e
        · rw [e]; simp [show (wSecret == wVar) = false by decide]
        · rw [e]; simp [show (wPublic == wVar) = false by decide]
      · show r.cells.length = many (a.ds ++ [⟨wd w 1, k, 0⟩]) wArray
        rw [many_app, S.arr]
        rcases hk with e | e
        · rw [e]; simp [show (wSecret == wArray) = false by decide]
        · rw [e]; simp [show (wPublic == wArray) = false by decide]
    · rw [if_neg c2]
      by_cases c3 : w.length = 2 ∧ many a.ds wSecret + many a.ds wPublic < 3 ∧ many a.ds wVar = 0
      · exact absurd ⟨c3.2.2, c3.2.1⟩ c2
      · rw [if_neg c3]; trivial
  · rw [if_neg c1]
    by_cases c3 : w.length = 2 ∧ many a.ds wSecret + many a.ds wPublic < 3 ∧ many a.ds wVar = 0
    · rw [if_pos c3]
      by_cases c4 : r.body.length = 0 ∧ isName (wd w 1) = true ∧ (r.letters (lat (wd w 1))).1 = 0
      · exact absurd ⟨S.bdy.1 c4.1, c3.1, c4.2.1, (kind_zero S c4.2.1).1 c4.2.2⟩ c1
      · rw [if_neg c4]; trivial
    · rw [if_neg c3]; trivial

theorem both_var (S : Sim r a) (h : wd w 0 = wVar) : Both (Lk.takeVar r w) ((declare a.ds a.bdy w).map fun ds => { a with ds := ds }) := by
  have ha : ¬ wd w 0 = wArray := by rw [h]; decide
  unfold Lk.takeVar declare Lk.declare
  rw [if_neg ha, S.var]
  by_cases c1 : a.bdy = false ∧ w.length = 2 ∧ isName (wd w 1) = true ∧ kindOf a.ds (wd w 1) = []
  · rw [if_pos c1, if_neg ha, if_pos h]
    by_cases c2 : many a.ds wVar < 4
    · rw [if_pos c2, if_pos ⟨c1.2.1, c2⟩, if_pos ⟨S.bdy.2 c1.1, c1.2.2.1, (kind_zero S c1.2.2.1).2 c1.2.2.2⟩]
      have N := sim_names S c1.2.2.1 c1.2.2.2 (k := wVar) (.inr (.inr (.inl rfl))) 0 (r.secret.length + many a.ds wVar)
      rw [show role wVar = 1 by decide] at N
      rw [h]
      refine ⟨N.1, N.2, ?_, ?_, ?_, S.bdy, S.cnt, S.le, S.dep, S.d4, S.stk⟩
      · show r.secret.length = many (a.ds ++ [⟨wd w 1, wVar, 0⟩]) wSecret + many (a.ds ++ [⟨wd w 1, wVar, 0⟩]) wPublic
        rw [many_app, many_app, S.sec]
        simp [show (wVar == wPublic) = false by decide, show (wVar == wSecret) = false by decide]
      · show many a.ds wVar + 1 = many (a.ds ++ [⟨wd w 1, wVar, 0⟩]) wVar
        rw [many_app]
        simp
      · show r.cells.length = many (a.ds ++ [⟨wd w 1, wVar, 0⟩]) wArray
        rw [many_app, S.arr]
        simp [show (wVar == wArray) = false by decide]
    · rw [if_neg c2, if_neg (fun c => c2 c.2)]; trivial
  · rw [if_neg c1]
    by_cases c3 : w.length = 2 ∧ many a.ds wVar < 4
    · rw [if_pos c3]
      by_cases c4 : r.body.length = 0 ∧ isName (wd w 1) = true ∧ (r.letters (lat (wd w 1))).1 = 0
      · exact absurd ⟨S.bdy.1 c4.1, c3.1, c4.2.1, (kind_zero S c4.2.1).1 c4.2.2⟩ c1
      · rw [if_neg c4]; trivial
    · rw [if_neg c3]; trivial

theorem both_array (S : Sim r a) (h : wd w 0 = wArray) : Both (Lk.takeArray r w) ((declare a.ds a.bdy w).map fun ds => { a with ds := ds }) := by
  unfold Lk.takeArray declare Lk.declare
  rw [if_pos h, S.arr]
  by_cases c1 : a.bdy = false ∧ w.length = 3 ∧ isName (wd w 1) = true ∧ kindOf a.ds (wd w 1) = []
  · rw [if_pos c1, if_pos h]
    cases hn : num? (wd w 2) with
    | none =>
      by_cases c3 : w.length = 3 ∧ many a.ds wArray < 2
      · rw [if_pos c3]; trivial
      · rw [if_neg c3]; trivial
    | some n =>
      by_cases c2 : 1 ≤ n ∧ n ≤ 4 ∧ many a.ds wArray < 2
      · dsimp only
        rw [if_pos c2, if_pos ⟨c1.2.1, c2.2.2⟩, if_pos ⟨c2.1, c2.2.1⟩, if_pos ⟨S.bdy.2 c1.1, c1.2.2.1, (kind_zero S c1.2.2.1).2 c1.2.2.2⟩]
        have N := sim_names S c1.2.2.1 c1.2.2.2 (k := wArray) (.inr (.inr (.inr rfl))) n (many a.ds wArray)
        rw [show role wArray = 2 by decide] at N
        rw [h]
        refine ⟨N.1, N.2, ?_, ?_, ?_, S.bdy, S.cnt, S.le, S.dep, S.d4, S.stk⟩
        · show r.secret.length = many (a.ds ++ [⟨wd w 1, wArray, n⟩]) wSecret + many (a.ds ++ [⟨wd w 1, wArray, n⟩]) wPublic
          rw [many_app, many_app, S.sec]
          simp [show (wArray == wPublic) = false by decide, show (wArray == wSecret) = false by decide]
        · show r.vars = many (a.ds ++ [⟨wd w 1, wArray, n⟩]) wVar
          rw [many_app, S.var]
          simp [show (wArray == wVar) = false by decide]
        · show (r.cells ++ [n]).length = many (a.ds ++ [⟨wd w 1, wArray, n⟩]) wArray
          rw [many_app, List.length_append, S.arr]
          simp
      · dsimp only
        rw [if_neg c2]
        by_cases c3 : w.length = 3 ∧ many a.ds wArray < 2
        · rw [if_pos c3, if_neg (fun c => c2 ⟨c.1, c.2, c3.2⟩)]; trivial
        · rw [if_neg c3]; trivial
  · rw [if_neg c1]
    by_cases c3 : w.length = 3 ∧ many a.ds wArray < 2
    · rw [if_pos c3]
      cases hn : num? (wd w 2) with
      | none => trivial
      | some n =>
        dsimp only
        by_cases c5 : 1 ≤ n ∧ n ≤ 4
        · rw [if_pos c5]
          by_cases c4 : r.body.length = 0 ∧ isName (wd w 1) = true ∧ (r.letters (lat (wd w 1))).1 = 0
          · exact absurd ⟨S.bdy.1 c4.1, c3.1, c4.2.1, (kind_zero S c4.2.1).1 c4.2.2⟩ c1
          · rw [if_neg c4]; trivial
        · rw [if_neg c5]; trivial
    · rw [if_neg c3]; trivial

theorem both_else (S : Sim r a) : Both (Lk.takeElse r w) (elseS a w) := by
  unfold Lk.takeElse elseS
  have hd := S.dep
  have hk := S.stk
  cases hs : a.stk with
  | nil =>
    rw [hs] at hd
    rw [if_neg (fun c => by have := c.2.1; simp at hd; omega)]
    trivial
  | cons x t =>
    rw [hs] at hd hk
    obtain ⟨k1, k2, k3, k4⟩ := hk
    have e : r.depth - 1 = t.length := by simp at hd; omega
    rw [e]
    obtain ⟨x1, x2⟩ := x
    have hpos : 0 < r.body.length := Nat.lt_of_le_of_lt (Nat.zero_le _) k1
    by_cases c : w.length = 1 ∧ 0 < r.depth ∧ (bodyAt r.body (r.opn t.length).1).kind = 4 ∧ (r.opn t.length).2 = 0
    · rw [if_pos c]
      have e1 : x1 = true := k2.1 c.2.2.1
      have e2 : x2 = false := k3.1 c.2.2.2
      subst e1 e2
      dsimp only
      rw [if_pos c.1]
      refine ⟨S.dk, S.nm, S.sec, S.var, S.arr, ?_, S.cnt, S.le, by simpa using hd, by have := S.d4; rw [hs] at this; exact this, ?_⟩
      · simp
      · have hm := set_ok (b := r.body) (i := (r.opn t.length).1) (y := { bodyAt r.body (r.opn t.length).1 with els := r.body.length + 1 }) rfl { kind := 6 }
        refine ⟨?_, ?_, ?_, stk_mono hm (fun i hi => ?_) k4⟩
        · simp only [upd, if_pos]; exact (hm _ k1).1
        · simp only [upd, if_pos]; rw [(hm _ k1).2]; exact ⟨fun _ => trivial, fun _ => c.2.2.1⟩
        · simp only [upd, if_pos]; constructor
          · intro h; omega
          · intro h; cases h
        · simp only [upd]; rw [if_neg (by omega)]
    · rw [if_neg c]
      cases x1 with
      | false => trivial
      | true =>
        cases x2 with
        | true => trivial
        | false =>
          dsimp only
          rw [if_neg (fun h => c ⟨h, by simp at hd; omega, k2.2 rfl, k3.2 rfl⟩)]
          trivial

theorem both_end (S : Sim r a) : Both (Lk.takeEnd r w) (endS a w) := by
  unfold Lk.takeEnd endS
  have hd := S.dep
  have hk := S.stk
  cases hs : a.stk with
  | nil =>
    rw [hs] at hd
    rw [if_neg (fun c => by have := c.2; simp at hd; omega)]
    trivial
  | cons x t =>
    rw [hs] at hd hk
    obtain ⟨k1, k2, k3, k4⟩ := hk
    have e : r.depth - 1 = t.length := by simp at hd; omega
    dsimp only
    rw [e]
    by_cases c : w.length = 1
    · rw [if_pos c, if_pos ⟨c, by simp at hd; omega⟩]
      refine ⟨S.dk, S.nm, S.sec, S.var, S.arr, ?_, S.cnt, S.le, rfl, by have := S.d4; rw [hs] at this; simp at this; show t.length ≤ 4; omega, ?_⟩
      · simp
      · refine stk_mono ?_ (fun _ _ => rfl) k4
        by_cases hi : (r.opn t.length).2 = 0
        · simp only [if_pos hi]
          refine set_ok ?_ _
          rfl
        · simp only [if_neg hi]
          refine set_ok ?_ _
          rfl
    · rw [if_neg c, if_neg (fun h => c h.1)]
      trivial

theorem both_branch (S : Sim r a) (kind : Nat) (x : Bool) (hx : kind = 4 ↔ x = true) : Both (Lk.takeBranch r w kind) (if a.cnt = 12 then none else if w.length = 2 ∧ a.stk.length ≠ 4 ∧ atom a.ds (wd w 1) = true then some { a with bdy := true, cnt := a.cnt + 1, stk := (x, false) :: a.stk } else none) := by
  unfold Lk.takeBranch
  have hd := S.dep
  have hc := S.cnt
  have hl := S.le
  rw [← atom_some S]
  by_cases c : w.length = 2 ∧ r.depth < 4
  · rw [if_pos c]
    cases ha : atom? r (wd w 1) with
    | none =>
      rw [if_neg (show ¬ (w.length = 2 ∧ a.stk.length ≠ 4 ∧ (none : Option Lk.At).isSome = true) from fun h => by cases h.2.2)]
      by_cases h12 : a.cnt = 12
      · rw [if_pos h12]; trivial
      · rw [if_neg h12]; trivial
    | some y =>
      rw [if_pos (show w.length = 2 ∧ a.stk.length ≠ 4 ∧ (some y).isSome = true from ⟨c.1, by omega, rfl⟩)]
      dsimp only
      by_cases h12 : a.cnt = 12
      · rw [if_pos h12, (sim_add S _).1 h12]; trivial
      · rw [if_neg h12]
        unfold Lk.add
        rw [if_pos (by omega)]
        dsimp only
        refine ⟨S.dk, S.nm, S.sec, S.var, S.arr, by simp, by show r.stmts + 1 = a.cnt + 1; omega, by show a.cnt + 1 ≤ 12; omega, by show r.depth + 1 = _; simp; omega, by show a.stk.length + 1 ≤ 4; omega, ?_⟩
        have hb : bodyAt (r.body ++ [{ kind := kind, a := y, next := r.body.length + 1 }]) r.body.length = { kind := kind, a := y, next := r.body.length + 1 } := by simp [bodyAt, List.getD]
        refine ⟨?_, ?_, ?_, stk_mono grow_ok (fun i hi => ?_) S.stk⟩
        · rw [← hd]; simp [upd]
        · rw [← hd]; simp only [upd, if_pos]; rw [hb]; exact hx
        · rw [← hd]; simp [upd]
        · rw [← hd] at hi; simp only [upd]; rw [if_neg (by omega)]
  · rw [if_neg c]
    by_cases h12 : a.cnt = 12
    · rw [if_pos h12]; trivial
    · rw [if_neg h12]
      by_cases c2 : w.length = 2 ∧ a.stk.length ≠ 4 ∧ (atom? r (wd w 1)).isSome = true
      · exfalso
        have := S.d4
        exact c ⟨c2.1, by have := c2.2.1; omega⟩
      · rw [if_neg c2]; trivial
end

end Go.Proofs.Ytkfejeomfdhmdaa.Rf
