import Derived.Test.YtkfejeomfdhmdaaS4
/- The program's own reading takes each line as the stack does. -/
namespace Go.Proofs.Ytkfejeomfdhmdaa.Rf
open Go.Proofs.Ytkfejeomfdhmdaa.Lk (Wd RS St num? oper? cut wd isName lat upd bodyAt find atom?)

def role (k : Wd) : Nat := if k = [] then 0 else if k = wArray then 2 else 1

def StkOk (b : List St) (opn : Nat → Nat × Nat) : List (Bool × Bool) → Prop
  | [] => True
  | x :: t => (opn t.length).1 < b.length ∧ ((bodyAt b (opn t.length).1).kind = 4 ↔ x.1 = true) ∧ ((opn t.length).2 = 0 ↔ x.2 = false) ∧ StkOk b opn t

theorem stk_mono {b b' : List St} {opn opn' : Nat → Nat × Nat} : ∀ {t : List (Bool × Bool)}, (∀ h, h < b.length → h < b'.length ∧ (bodyAt b' h).kind = (bodyAt b h).kind) → (∀ i, i < t.length → opn' i = opn i) → StkOk b opn t → StkOk b' opn' t
  | [], _, _, _ => trivial
  | x :: t, hb, ho, h => by
    obtain ⟨h1, h2, h3, h4⟩ := h
    have e : opn' t.length = opn t.length := ho t.length (by simp)
    unfold StkOk
    rw [e]
    exact ⟨(hb _ h1).1, by rw [(hb _ h1).2]; exact h2, h3, stk_mono hb (fun i hi => ho i (by simp; omega)) h4⟩

theorem bodyAt_app {b : List St} {x : St} {h : Nat} (hh : h < b.length) : bodyAt (b ++ [x]) h = bodyAt b h := by
  unfold bodyAt
  simp [List.getD, List.getElem?_append_left hh]
theorem grow_ok {b : List St} {x : St} : ∀ h, h < b.length → h < (b ++ [x]).length ∧ (bodyAt (b ++ [x]) h).kind = (bodyAt b h).kind := fun h hh => ⟨by simp; omega, by rw [bodyAt_app hh]⟩
theorem set_ok {b : List St} {i : Nat} {y : St} (hy : y.kind = (bodyAt b i).kind) (x : St) : ∀ h, h < b.length → h < (b.set i y ++ [x]).length ∧ (bodyAt (b.set i y ++ [x]) h).kind = (bodyAt b h).kind := by
  intro h hh
  refine ⟨by simp; omega, ?_⟩
  rw [bodyAt_app (by simpa using hh)]
  by_cases hi : i = h
  · subst hi
    have : bodyAt (b.set i y) i = y := by simp [bodyAt, List.getD, hh]
    rw [this, hy]
  · have : bodyAt (b.set i y) h = bodyAt b h := by simp [bodyAt, List.getD, hi]
    rw [this]

structure Sim (r : RS) (a : As) : Prop where
  dk : ∀ d ∈ a.ds, isName d.name = true ∧ (d.kind = wSecret ∨ d.kind = wPublic ∨ d.kind = wVar ∨ d.kind = wArray)
  nm : ∀ w, isName w = true → (r.letters (lat w)).1 = role (kindOf a.ds w)
  sec : r.secret.length = many a.ds wSecret + many a.ds wPublic
  var : r.vars = many a.ds wVar
  arr : r.cells.length = many a.ds wArray
  bdy : r.body.length = 0 ↔ a.bdy = false
  cnt : r.stmts = a.cnt
  le : a.cnt ≤ 12
  dep : r.depth = a.stk.length
  d4 : a.stk.length ≤ 4
  stk : StkOk r.body r.opn a.stk

theorem kindOf_cases : ∀ {ds : List Dc}, (∀ d ∈ ds, isName d.name = true ∧ (d.kind = wSecret ∨ d.kind = wPublic ∨ d.kind = wVar ∨ d.kind = wArray)) → ∀ w, (kindOf ds w = [] ∧ (∀ d ∈ ds, (d.name == w) = false)) ∨ (isName w = true ∧ (kindOf ds w = wSecret ∨ kindOf ds w = wPublic ∨ kindOf ds w = wVar ∨ kindOf ds w = wArray))
  | [], _, w => .inl ⟨rfl, fun d hd => by cases hd⟩
  | d :: ds, h, w => by
    unfold kindOf
    have h0 := h d (List.mem_cons.2 (.inl rfl))
    cases hx : (d.name == w) with
    | true =>
      rw [if_pos rfl]
      have e : d.name = w := eq_of_beq hx
      exact .inr ⟨by rw [← e]; exact h0.1, h0.2⟩
    | false =>
      rw [if_neg (by simp)]
      rcases kindOf_cases (fun d' hd => h d' (List.mem_cons.2 (.inr hd))) w with h1 | h1
      · refine .inl ⟨h1.1, fun d' hd => ?_⟩
        rcases List.mem_cons.1 hd with e | e
        · rw [e]; exact hx
        · exact h1.2 d' e
      · exact .inr h1

section
variable {r : RS} {a : As}
theorem find_role (S : Sim r a) (w : Wd) : (find r w).1 = role (kindOf a.ds w) := by
  unfold find
  cases hn : isName w with
  | true => rw [if_pos rfl]; exact S.nm w hn
  | false =>
    rw [if_neg (by simp)]
    rcases kindOf_cases S.dk w with h | h
    · rw [h.1]; rfl
    · rw [hn] at h; cases h.1
theorem role_kind (S : Sim r a) (w : Wd) : scalar a.ds w = decide ((find r w).1 = 1) ∧ (kindOf a.ds w == wArray) = decide ((find r w).1 = 2) ∧ (kindOf a.ds w = [] ↔ (find r w).1 = 0) := by
  rw [find_role S w]
  unfold scalar
  rcases kindOf_cases S.dk w with h | ⟨_, h | h | h | h⟩
  · rw [h.1]; decide
  · rw [h]; decide
  · rw [h]; decide
  · rw [h]; decide
  · rw [h]; decide
theorem atom_some (S : Sim r a) (w : Wd) : (atom? r w).isSome = atom a.ds w := by
  unfold atom atom?
  rw [(role_kind S w).1]
  cases num? w with
  | some n => simp
  | none =>
    by_cases h : (find r w).1 = 1
    · simp [h]
    · simp [h]
theorem oper_some (w : Wd) : (oper? w).isSome = (oneOf w signs).isSome := by
  unfold oper? signs
  simp only [oneOf]
  rw [Bool.beq_comm (a := w), Bool.beq_comm (a := w) (b := [45]), Bool.beq_comm (a := w) (b := [42]), Bool.beq_comm (a := w) (b := [38]), Bool.beq_comm (a := w) (b := [124]), Bool.beq_comm (a := w) (b := [94]), Bool.beq_comm (a := w) (b := [60, 60]), Bool.beq_comm (a := w) (b := [62, 62]), Bool.beq_comm (a := w) (b := [60]), Bool.beq_comm (a := w) (b := [61, 61])]
  generalize ([43] == w) = c1
  generalize ([45] == w) = c2
  generalize ([42] == w) = c3
  generalize ([38] == w) = c4
  generalize ([124] == w) = c5
  generalize ([94] == w) = c6
  generalize ([60, 60] == w) = c7
  generalize ([62, 62] == w) = c8
  generalize ([60] == w) = c9
  generalize ([61, 61] == w) = c10
  cases c1 <;> cases c2 <;> cases c3 <;> cases c4 <;> cases c5 <;> cases c6 <;> cases c7 <;> cases c8 <;> cases c9 <;> cases c10 <;> rfl

/-- Both refuse, or both take and stay alike. -/
def Both : Option RS → Option As → Prop
  | none, none => True
  | some r, some a => Sim r a
  | _, _ => False

theorem sim_add (S : Sim r a) (st : St) : (a.cnt = 12 → Lk.add r st = none) ∧ (a.cnt ≠ 12 → Both (Lk.add r st) (some { a with bdy := true, cnt := a.cnt + 1 })) := by
  have hc := S.cnt
  have hl := S.le
  unfold Lk.add
  constructor
  · intro h
    rw [if_neg (by omega)]
  · intro h
    rw [if_pos (by omega)]
    refine ⟨S.dk, S.nm, S.sec, S.var, S.arr, ?_, by show r.stmts + 1 = a.cnt + 1; omega, by show a.cnt + 1 ≤ 12; omega, S.dep, S.d4, stk_mono grow_ok (fun _ _ => rfl) S.stk⟩
    simp

/-- A statement that is no branch. -/
theorem both_stmt (S : Sim r a) (o : Option RS) (st : Option St) (b : Bool) (ho : o = st.bind (Lk.add r)) (h : st.isSome = b) : Both o (if a.cnt = 12 then none else if b = true then some { a with bdy := true, cnt := a.cnt + 1 } else none) := by
  subst ho
  subst h
  cases st with
  | none =>
    by_cases hc : a.cnt = 12
    · rw [if_pos hc]; trivial
    · rw [if_neg hc]; trivial
  | some x =>
    by_cases hc : a.cnt = 12
    · rw [if_pos hc]
      show Both (Lk.add r x) none
      rw [(sim_add S x).1 hc]; trivial
    · rw [if_neg hc]; exact (sim_add S x).2 hc
end

theorem lat_inj {v w : Wd} (hv : isName v = true) (hw : isName w = true) (h : lat v = lat w) : v = w := by
  match v, w with
  | [], _ => simp [isName] at hv
  | _ :: _ :: _, _ => simp [isName] at hv
  | _, [] => simp [isName] at hw
  | _, _ :: _ :: _ => simp [isName] at hw
  | [x], [y] =>
    simp [isName, lat] at hv hw h
    have : x.toNat = y.toNat := by omega
    rw [UInt8.toNat_inj.1 this]

theorem kindOf_app : ∀ {ds : List Dc} {d : Dc} {w : Wd}, kindOf (ds ++ [d]) w = if (∀ x ∈ ds, (x.name == w) = false) then (if (d.name == w) = true then d.kind else []) else kindOf ds w
  | [], d, w => by rw [if_pos (fun x hx => by cases hx)]; rfl
  | y :: ds, d, w => by
    show (if (y.name == w) = true then y.kind else kindOf (ds ++ [d]) w) = _
    rw [kindOf_app]
    show _ = if _ then _ else (if (y.name == w) = true then y.kind else kindOf ds w)
    cases hy : (y.name == w) with
    | true =>
      rw [if_pos rfl, if_neg (fun c => by have := c y (List.mem_cons.2 (.inl rfl)); rw [hy] at this; cases this), if_pos rfl]
    | false =>
      rw [if_neg (by simp), if_neg (show ¬ (false = true) by simp)]
      by_cases h : ∀ x ∈ ds, (x.name == w) = false
      · rw [if_pos h, if_pos (fun x hx => by
          rcases List.mem_cons.1 hx with e | e
          · rw [e]; exact hy
          · exact h x e)]
      · rw [if_neg h, if_neg (fun c => h (fun x hx => c x (List.mem_cons.2 (.inr hx))))]

theorem many_app (ds : List Dc) (d : Dc) (k : Wd) : many (ds ++ [d]) k = many ds k + if (d.kind == k) = true then 1 else 0 := by
  unfold many
  rw [List.filter_append, List.length_append]
  cases h : (d.kind == k) <;> simp [List.filter, h]

end Go.Proofs.Ytkfejeomfdhmdaa.Rf
