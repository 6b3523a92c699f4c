import Derived.Test.YtkfejeomfdhmdaaS3
import Derived.Test.YtkfejeomfdhmdaaS1
/- Reading line by line, with the open blocks on a stack, and reading blocks within blocks: the same wrong line. -/
namespace Go.Proofs.Ytkfejeomfdhmdaa.Rf
open Go.Proofs.Ytkfejeomfdhmdaa.Lk (Wd num? oper? cut wd isName)

structure As where
  ds : List Dc
  bdy : Bool
  cnt : Nat
  stk : List (Bool × Bool)

def ast (s : Rs) (stk : List (Bool × Bool)) : As := ⟨s.ds, s.bdy, s.cnt, stk⟩

def elseS (a : As) (w : List Wd) : Option As :=
  match a.stk with
  | (true, false) :: t => if w.length = 1 then some { a with bdy := true, stk := (true, true) :: t } else none
  | _ => none
def endS (a : As) (w : List Wd) : Option As :=
  match a.stk with
  | _ :: t => if w.length = 1 then some { a with bdy := true, stk := t } else none
  | [] => none

def step (a : As) (w : List Wd) : Option As :=
  if isDecl (wd w 0) = true then (declare a.ds a.bdy w).map fun ds => { a with ds := ds }
  else if wd w 0 = wElse then elseS a w
  else if wd w 0 = wEnd then endS a w
  else if a.cnt = 12 then none
  else if wd w 0 = wIf ∨ wd w 0 = wWhile then
    if w.length = 2 ∧ a.stk.length ≠ 4 ∧ atom a.ds (wd w 1) = true then some { a with bdy := true, cnt := a.cnt + 1, stk := (decide (wd w 0 = wIf), false) :: a.stk } else none
  else if fits a.ds w = true then some { a with bdy := true, cnt := a.cnt + 1 } else none

def mrun : As → Nat → List Wd → Nat
  | _, n, [] => n + 1
  | a, n, [l] => if l = [] ∧ a.stk = [] then 0 else n + 1
  | a, n, l :: m :: ls =>
    match step a (cut 32 l) with
    | some a' => mrun a' (n + 1) (m :: ls)
    | none => n + 1

theorem drop_two {L : List Wd} {n : Nat} (h : n + 1 < L.length) : ∃ m ls, L.drop n = L.getD n [] :: m :: ls ∧ L.drop (n + 1) = m :: ls := by
  have h1 : L.drop n = L[n] :: L.drop (n + 1) := List.drop_eq_getElem_cons (by omega)
  have h2 : L.drop (n + 1) = L[n + 1] :: L.drop (n + 2) := List.drop_eq_getElem_cons h
  refine ⟨L[n + 1], L.drop (n + 2), ?_, h2⟩
  have e : L.getD n [] = L[n] := by simp [List.getD, show n < L.length by omega]
  rw [e, ← h2]
  exact h1
theorem mrun_some {L : List Wd} {n : Nat} {a a' : As} (h : n + 1 < L.length) (hs : step a (cut 32 (L.getD n [])) = some a') : mrun a n (L.drop n) = mrun a' (n + 1) (L.drop (n + 1)) := by
  obtain ⟨m, ls, h1, h2⟩ := drop_two h
  rw [h1, h2]
  conv => lhs; unfold mrun
  rw [hs]
theorem mrun_none {L : List Wd} {n : Nat} {a : As} (h : n + 1 < L.length) (hs : step a (cut 32 (L.getD n [])) = none) : mrun a n (L.drop n) = n + 1 := by
  obtain ⟨m, ls, h1, h2⟩ := drop_two h
  rw [h1]
  unfold mrun
  rw [hs]
theorem mrun_last {L : List Wd} {n : Nat} {a : As} (h : n + 1 = L.length) : mrun a n (L.drop n) = if L.getD n [] = [] ∧ a.stk = [] then 0 else n + 1 := by
  have h1 : L.drop n = L[n] :: L.drop (n + 1) := List.drop_eq_getElem_cons (by omega)
  have h2 : L.drop (n + 1) = [] := List.drop_eq_nil_of_le (by omega)
  have e : L.getD n [] = L[n] := by simp [List.getD, show n < L.length by omega]
  rw [h1, h2, e]
  rfl

theorem cut_one (c : UInt8) : ∀ l : Wd, (cut c l).length = 1 → cut c l = [l]
  | [], _ => rfl
  | x :: xs, h => by
    unfold cut at h ⊢
    by_cases hx : x = c
    · rw [if_pos hx] at h
      have := Lk.cut_ne c xs
      cases hc : cut c xs with
      | nil => exact absurd hc this
      | cons y ys => rw [hc] at h; simp at h
    · rw [if_neg hx] at h ⊢
      cases hc : cut c xs with
      | nil => exact absurd hc (Lk.cut_ne c xs)
      | cons y ys =>
        rw [hc] at h
        have hy : ys = [] := by
          cases ys with
          | nil => rfl
          | cons z zs => simp at h
        have ih := cut_one c xs (by rw [hc, hy]; rfl)
        rw [hc, hy] at ih
        simp at ih
        simp [hy, ih]

theorem cut_else : cut 32 wElse = [wElse] := by decide
theorem cut_end : cut 32 wEnd = [wEnd] := by decide

theorem step_bdy {a : As} {w : List Wd} (h : isDecl (wd w 0) = false) : step a w = step { a with bdy := true } w := by
  have hn : ¬ isDecl (wd w 0) = true := by rw [h]; simp
  unfold step
  simp only [if_neg hn]
  rfl

theorem step_else {a : As} : step a (cut 32 wElse) = elseS a [wElse] := by
  rw [cut_else]; unfold step; rw [if_neg (by decide), if_pos (by rfl)]
theorem step_end {a : As} : step a (cut 32 wEnd) = endS a [wEnd] := by
  rw [cut_end]; unfold step; rw [if_neg (by decide), if_neg (by decide), if_pos (by rfl)]

structure Good (L : List Wd) (d : Nat) (s : Rs) (o : Bool × Rs) : Prop where
  no : o.1 = false → ∀ stk : List (Bool × Bool), stk.length = d → mrun (ast s stk) s.at_ (L.drop s.at_) = o.2.at_ + 1
  fin : o.1 = true → d = 0 → mrun (ast s []) s.at_ (L.drop s.at_) = if L.getD (L.length - 1) [] = [] then 0 else L.length
  mid : o.1 = true → 0 < d → (L.getD o.2.at_ [] = wElse ∨ L.getD o.2.at_ [] = wEnd) ∧ ∀ stk : List (Bool × Bool), stk.length = d → mrun (ast s stk) s.at_ (L.drop s.at_) = mrun (ast o.2 stk) o.2.at_ (L.drop o.2.at_)

theorem Good.pre {L : List Wd} {d : Nat} {s s' : Rs} {o : Bool × Rs} (h : Good L d s' o) (e : ∀ stk : List (Bool × Bool), stk.length = d → mrun (ast s stk) s.at_ (L.drop s.at_) = mrun (ast s' stk) s'.at_ (L.drop s'.at_)) : Good L d s o :=
  ⟨fun h1 stk hs => (e stk hs).trans (h.no h1 stk hs), fun h1 h2 => (e [] (by rw [h2]; rfl)).trans (h.fin h1 h2), fun h1 h2 => ⟨(h.mid h1 h2).1, fun stk hs => (e stk hs).trans ((h.mid h1 h2).2 stk hs)⟩⟩
theorem Good.wrong {L : List Wd} {d : Nat} {s s' : Rs} (e : ∀ stk : List (Bool × Bool), stk.length = d → mrun (ast s stk) s.at_ (L.drop s.at_) = s'.at_ + 1) : Good L d s (false, s') :=
  ⟨fun _ => e, (fun h => by cases h), (fun h => by cases h)⟩

theorem nest_good {B : Nat → Rs → Bool × Rs} {L : List Wd} {d : Nat} {s : Rs} {w : List Wd} (hat : s.at_ + 1 < L.length) (hw : cut 32 (L.getD s.at_ []) = w) (hd : isDecl (wd w 0) = false) (hne : ¬ (wd w 0 = wElse ∨ wd w 0 = wEnd)) (hc : s.cnt ≠ 12) (hc2 : s.cnt ≤ 12) (hi : wd w 0 = wIf ∨ wd w 0 = wWhile)
    (hP : ∀ s', s.at_ + 1 ≤ s'.at_ → s'.at_ < L.length → s'.cnt ≤ 12 → Post L (d + 1) s' (B (d + 1) s')) (hG : d ≠ 4 → ∀ s', s.at_ + 1 ≤ s'.at_ → s'.at_ < L.length → s'.cnt ≤ 12 → Good L (d + 1) s' (B (d + 1) s')) :
    ((nestS B L d { s with bdy := true } w).1 = false → ∀ stk : List (Bool × Bool), stk.length = d → mrun (ast s stk) s.at_ (L.drop s.at_) = (nestS B L d { s with bdy := true } w).2.at_ + 1) ∧
    ((nestS B L d { s with bdy := true } w).1 = true → ∀ stk : List (Bool × Bool), stk.length = d → mrun (ast s stk) s.at_ (L.drop s.at_) = mrun (ast (nestS B L d { s with bdy := true } w).2 stk) (nestS B L d { s with bdy := true } w).2.at_ (L.drop (nestS B L d { s with bdy := true } w).2.at_)) := by
  have hsx : ∀ stk : List (Bool × Bool), stk.length = d → step (ast s stk) w = if w.length = 2 ∧ d ≠ 4 ∧ atom s.ds (wd w 1) = true then some ⟨s.ds, true, s.cnt + 1, (decide (wd w 0 = wIf), false) :: stk⟩ else none := by
    intro stk hst
    unfold step
    rw [if_neg (by rw [hd]; simp), if_neg (fun c => hne (.inl c)), if_neg (fun c => hne (.inr c)), if_neg (show ¬ (ast s stk).cnt = 12 from hc), if_pos hi]
    subst hst
    rfl
  unfold nestS
  by_cases h1 : w.length = 2 ∧ d ≠ 4 ∧ atom s.ds (wd w 1) = true
  · rw [if_pos (show w.length = 2 ∧ d ≠ 4 ∧ atom ({ s with bdy := true } : Rs).ds (wd w 1) = true from h1)]
    have hd4 := h1.2.1
    have p1 := hP { s with bdy := true, cnt := s.cnt + 1, at_ := s.at_ + 1 } (Nat.le_refl _) hat (by show s.cnt + 1 ≤ 12; omega)
    have g1 := hG hd4 { s with bdy := true, cnt := s.cnt + 1, at_ := s.at_ + 1 } (Nat.le_refl _) hat (by show s.cnt + 1 ≤ 12; omega)
    have m1 : ∀ stk : List (Bool × Bool), stk.length = d → mrun (ast s stk) s.at_ (L.drop s.at_) = mrun (ast { s with bdy := true, cnt := s.cnt + 1, at_ := s.at_ + 1 } ((decide (wd w 0 = wIf), false) :: stk)) (s.at_ + 1) (L.drop (s.at_ + 1)) := by
      intro stk hst
      exact mrun_some hat (by rw [hw, hsx stk hst, if_pos h1]; rfl)
    show (((match B (d + 1) { s with bdy := true, cnt := s.cnt + 1, at_ := s.at_ + 1 } with | (false, s2) => (false, s2) | (true, s2) => _) : Bool × Rs).1 = false → _) ∧ _
    generalize B (d + 1) { s with bdy := true, cnt := s.cnt + 1, at_ := s.at_ + 1 } = o1 at p1 g1
    obtain ⟨b1, s2⟩ := o1
    have ge1 : s.at_ + 1 ≤ s2.at_ := p1.ge
    have bd1 : s2.bdy = true := (p1.bdy rfl).1
    cases b1 with
    | false =>
      exact ⟨fun _ stk hst => (m1 stk hst).trans (g1.no rfl _ (by simp [hst])), fun h => by cases h⟩
    | true =>
      have q1 := g1.mid rfl (Nat.succ_pos _)
      have lt1 : s2.at_ + 1 < L.length := p1.mid rfl (Nat.succ_pos _)
      have m2 : ∀ stk : List (Bool × Bool), stk.length = d → mrun (ast s stk) s.at_ (L.drop s.at_) = mrun (ast s2 ((decide (wd w 0 = wIf), false) :: stk)) s2.at_ (L.drop s2.at_) := fun stk hst => (m1 stk hst).trans (q1.2 _ (by simp [hst]))
      dsimp only
      by_cases h2 : L.getD s2.at_ [] = wElse
      · rw [if_pos h2]
        by_cases h3 : wd w 0 = wIf
        · rw [if_pos h3]
          have p2 := hP { s2 with at_ := s2.at_ + 1 } (by show s.at_ + 1 ≤ s2.at_ + 1; omega) lt1 p1.cnt
          have g2 := hG hd4 { s2 with at_ := s2.at_ + 1 } (by show s.at_ + 1 ≤ s2.at_ + 1; omega) lt1 p1.cnt
          have m3 : ∀ stk : List (Bool × Bool), stk.length = d → mrun (ast s stk) s.at_ (L.drop s.at_) = mrun (ast { s2 with at_ := s2.at_ + 1 } ((true, true) :: stk)) (s2.at_ + 1) (L.drop (s2.at_ + 1)) := by
            intro stk hst
            refine (m2 stk hst).trans (mrun_some lt1 ?_)
            rw [h2, step_else, decide_eq_true h3]
            show some _ = some _
            unfold ast
            rw [bd1]
          generalize B (d + 1) { s2 with at_ := s2.at_ + 1 } = o2 at p2 g2
          obtain ⟨b2, s3⟩ := o2
          have bd2 : s3.bdy = true := (p2.bdy bd1).1
          cases b2 with
          | false => exact ⟨fun _ stk hst => (m3 stk hst).trans (g2.no rfl _ (by simp [hst])), fun h => by cases h⟩
          | true =>
            have q2 := g2.mid rfl (Nat.succ_pos _)
            have lt2 : s3.at_ + 1 < L.length := p2.mid rfl (Nat.succ_pos _)
            have m4 : ∀ stk : List (Bool × Bool), stk.length = d → mrun (ast s stk) s.at_ (L.drop s.at_) = mrun (ast s3 ((true, true) :: stk)) s3.at_ (L.drop s3.at_) := fun stk hst => (m3 stk hst).trans (q2.2 _ (by simp [hst]))
            dsimp only
            by_cases h4 : L.getD s3.at_ [] = wElse
            · rw [if_pos h4]
              refine ⟨fun _ stk hst => (m4 stk hst).trans (mrun_none lt2 ?_), fun h => by cases h⟩
              rw [h4, step_else]; rfl
            · rw [if_neg h4]
              refine ⟨(fun h => by cases h), fun _ stk hst => (m4 stk hst).trans (mrun_some lt2 ?_)⟩
              rw [q2.1.resolve_left h4, step_end]
              show some _ = some _
              unfold ast
              rw [bd2]
        · rw [if_neg h3]
          refine ⟨fun _ stk hst => (m2 stk hst).trans (mrun_none lt1 ?_), fun h => by cases h⟩
          rw [h2, step_else, decide_eq_false h3]; rfl
      · rw [if_neg h2]
        refine ⟨(fun h => by cases h), fun _ stk hst => (m2 stk hst).trans (mrun_some lt1 ?_)⟩
        rw [q1.1.resolve_left h2, step_end]
        show some _ = some _
        unfold ast
        rw [bd1]
  · rw [if_neg (show ¬ (w.length = 2 ∧ d ≠ 4 ∧ atom ({ s with bdy := true } : Rs).ds (wd w 1) = true) from h1)]
    refine ⟨fun _ stk hst => mrun_none hat ?_, fun h => by cases h⟩
    rw [hw, hsx stk hst, if_neg h1]

theorem blk_good (L : List Wd) : ∀ (f d : Nat) (s : Rs), d ≤ 4 → s.at_ < L.length → s.cnt ≤ 12 → L.length ≤ s.at_ + 1 + f → Good L d s (blkS L f d s) := by
  have tail : ∀ (d : Nat) (s : Rs), s.at_ < L.length → ¬ s.at_ + 1 < L.length → Good L d s (decide (d = 0), s) := by
    intro d s h hl
    have he : s.at_ + 1 = L.length := by omega
    refine ⟨fun h1 stk hst => ?_, fun h1 h2 => ?_, fun h1 h2 => ?_⟩
    · have hd : d ≠ 0 := by simpa using h1
      rw [mrun_last he, if_neg (fun c => hd (by rw [← hst]; have := c.2; simp [ast] at this; simp [this]))]
    · rw [mrun_last he, ← he, Nat.add_sub_cancel]
      by_cases hx : L.getD s.at_ [] = []
      · rw [if_pos ⟨hx, rfl⟩, if_pos hx]
      · rw [if_neg (fun c => hx c.1), if_neg hx]
    · have hd : d = 0 := by simpa using h1
      omega
  intro f
  induction f with
  | zero => intro d s hd h hc hf; exact tail d s h (by omega)
  | succ f ih =>
    intro d s hd h hc hf
    unfold blkS
    by_cases h1 : s.at_ + 1 < L.length
    · rw [if_pos h1]
      by_cases h2 : isDecl (wd (cut 32 (L.getD s.at_ [])) 0) = true
      · rw [if_pos h2]
        have hs : ∀ stk : List (Bool × Bool), step (ast s stk) (cut 32 (L.getD s.at_ [])) = (declare s.ds s.bdy (cut 32 (L.getD s.at_ []))).map fun ds => { ast s stk with ds := ds } := by
          intro stk; unfold step; rw [if_pos h2]; rfl
        cases hde : declare s.ds s.bdy (cut 32 (L.getD s.at_ [])) with
        | none => exact Good.wrong (fun stk hst => mrun_none h1 (by rw [hs, hde]; rfl))
        | some ds => exact (ih d { s with ds := ds, at_ := s.at_ + 1 } hd h1 hc (by show L.length ≤ s.at_ + 1 + 1 + f; omega)).pre (fun stk hst => mrun_some h1 (by rw [hs, hde]; rfl))
      · rw [if_neg h2]
        have h2' : isDecl (wd (cut 32 (L.getD s.at_ [])) 0) = false := by simpa using h2
        by_cases h3 : wd (cut 32 (L.getD s.at_ [])) 0 = wElse ∨ wd (cut 32 (L.getD s.at_ [])) 0 = wEnd
        · have e3 : stmtS (blkS L f) L d { s with bdy := true } (cut 32 (L.getD s.at_ [])) = (decide ((cut 32 (L.getD s.at_ [])).length = 1 ∧ 0 < d), { s with bdy := true }) := by unfold stmtS; rw [if_pos h3]
          rw [e3]
          by_cases hl : (cut 32 (L.getD s.at_ [])).length = 1 ∧ 0 < d
          · rw [decide_eq_true hl]
            have hone := cut_one 32 _ hl.1
            refine ⟨(fun h => by cases h), fun _ h0 => absurd hl.2 (by omega), fun _ _ => ⟨?_, fun stk hst => ?_⟩⟩
            · rw [hone] at h3; exact h3
            · have hb : step (ast s stk) (cut 32 (L.getD s.at_ [])) = step (ast { s with bdy := true } stk) (cut 32 (L.getD s.at_ [])) := step_bdy h2'
              cases hx : step (ast s stk) (cut 32 (L.getD s.at_ [])) with
              | none => rw [mrun_none h1 hx]; exact (mrun_none h1 (by rw [← hb, hx])).symm
              | some a' => rw [mrun_some h1 hx]; exact (mrun_some h1 (by rw [← hb, hx])).symm
          · rw [decide_eq_false hl]
            refine Good.wrong (fun stk hst => mrun_none h1 ?_)
            unfold step
            rw [if_neg h2]
            rcases h3 with h3 | h3
            · rw [if_pos h3]
              unfold elseS
              cases stk with
              | nil => rfl
              | cons x t =>
                have hl1 : ¬ (cut 32 (L.getD s.at_ [])).length = 1 := fun c => hl ⟨c, by rw [← hst]; simp⟩
                obtain ⟨x1, x2⟩ := x
                cases x1 <;> cases x2 <;> first | rfl | exact if_neg hl1
            · rw [if_neg (by rw [h3]; decide), if_pos h3]
              unfold endS
              cases stk with
              | nil => rfl
              | cons x t =>
                have hl1 : ¬ (cut 32 (L.getD s.at_ [])).length = 1 := fun c => hl ⟨c, by rw [← hst]; simp⟩
                exact if_neg hl1
        · by_cases h4 : s.cnt = 12
          · have e4 : stmtS (blkS L f) L d { s with bdy := true } (cut 32 (L.getD s.at_ [])) = (false, { s with bdy := true }) := by unfold stmtS; rw [if_neg h3, if_pos h4]
            rw [e4]
            refine Good.wrong (fun stk hst => mrun_none h1 ?_)
            unfold step
            rw [if_neg h2, if_neg (fun c => h3 (.inl c)), if_neg (fun c => h3 (.inr c)), if_pos (show (ast s stk).cnt = 12 from h4)]
          · by_cases h5 : wd (cut 32 (L.getD s.at_ [])) 0 = wIf ∨ wd (cut 32 (L.getD s.at_ [])) 0 = wWhile
            · have hp : ∀ s', s.at_ + 1 ≤ s'.at_ → s'.at_ < L.length → s'.cnt ≤ 12 → Post L (d + 1) s' (blkS L f (d + 1) s') := fun s' g1 g2 g3 => post_blk L f (d + 1) s' g2 g3 (by omega)
              have hp2 : ∀ d s', s.at_ + 1 ≤ s'.at_ → s'.at_ < L.length → s'.cnt ≤ 12 → Post L d s' (blkS L f d s') := fun d s' g1 g2 g3 => post_blk L f d s' g2 g3 (by omega)
              have ng := nest_good (B := blkS L f) h1 rfl h2' h3 h4 hc h5 hp (fun hd4 s' g1 g2 g3 => ih (d + 1) s' (by omega) g2 g3 (by omega))
              have pn := post_nest (B := blkS L f) d { s with bdy := true } hp2 (cut 32 (L.getD s.at_ [])) h1 (by show s.cnt < 12; omega)
              unfold stmtS
              rw [if_neg h3, if_neg (show ¬ ({ s with bdy := true } : Rs).cnt = 12 from h4), if_pos h5]
              generalize nestS (blkS L f) L d { s with bdy := true } (cut 32 (L.getD s.at_ [])) = o at ng pn
              obtain ⟨b, s'⟩ := o
              cases b with
              | false => exact Good.wrong (fun stk hst => ng.1 rfl stk hst)
              | true =>
                have q5 : s.at_ + 1 ≤ s'.at_ := pn.2.2.2.2 rfl
                exact (ih d s' hd pn.1 pn.2.2.1 (by omega)).pre (fun stk hst => ng.2 rfl stk hst)
            · have hs : ∀ stk : List (Bool × Bool), step (ast s stk) (cut 32 (L.getD s.at_ [])) = if fits s.ds (cut 32 (L.getD s.at_ [])) = true then some { ast s stk with bdy := true, cnt := s.cnt + 1 } else none := by
                intro stk; unfold step; rw [if_neg h2, if_neg (fun c => h3 (.inl c)), if_neg (fun c => h3 (.inr c)), if_neg (show ¬ (ast s stk).cnt = 12 from h4), if_neg h5]; rfl
              unfold stmtS
              rw [if_neg h3, if_neg (show ¬ ({ s with bdy := true } : Rs).cnt = 12 from h4), if_neg h5]
              by_cases h6 : fits s.ds (cut 32 (L.getD s.at_ [])) = true
              · rw [if_pos h6]
                exact (ih d { s with bdy := true, cnt := s.cnt + 1, at_ := s.at_ + 1 } hd h1 (by show s.cnt + 1 ≤ 12; omega) (by show L.length ≤ s.at_ + 1 + 1 + f; omega)).pre (fun stk hst => mrun_some h1 (by rw [hs, if_pos h6]; rfl))
              · rw [if_neg h6]
                exact Good.wrong (fun stk hst => mrun_none h1 (by rw [hs, if_neg h6]))
    · rw [if_neg h1]; exact tail d s h h1

/-- The wrong line, by both ways. -/
theorem readS_line (t : Wd) : mrun ⟨[], false, 0, []⟩ 0 (cut 10 t) = (readS t).2 ∧ ((readS t).1 = true ↔ (readS t).2 = 0) := by
  have hne : 0 < (cut 10 t).length := by
    cases hc : cut 10 t with
    | nil => exact absurd hc (Lk.cut_ne 10 t)
    | cons x xs => simp
  have g := blk_good (cut 10 t) (cut 10 t).length 0 {} (by omega) hne (Nat.zero_le _) (Nat.le_add_left _ _)
  unfold readS
  generalize blkS (cut 10 t) (cut 10 t).length 0 {} = o at g
  obtain ⟨b, s⟩ := o
  cases b with
  | false => exact ⟨g.no rfl [] rfl, by simp⟩
  | true =>
    have h := g.fin rfl rfl
    dsimp only
    by_cases hx : (cut 10 t).getD ((cut 10 t).length - 1) [] = []
    · rw [if_pos hx] at h ⊢
      exact ⟨h, by simp⟩
    · rw [if_neg hx] at h ⊢
      exact ⟨h, (fun e => by cases e), fun e => absurd e (show ¬ (cut 10 t).length = 0 by omega)⟩

end Go.Proofs.Ytkfejeomfdhmdaa.Rf
