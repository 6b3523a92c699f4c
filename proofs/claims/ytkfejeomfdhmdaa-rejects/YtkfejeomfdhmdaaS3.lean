import Derived.Test.YtkfejeomfdhmdaaS2
/- Reading without the trees: which line is wrong. -/
namespace Go.Proofs.Ytkfejeomfdhmdaa.Rf
open Go.Proofs.Ytkfejeomfdhmdaa.Lk (Wd num? oper? cut wd isName)

def nestS (B : Nat → Rs → Bool × Rs) (L : List Wd) (depth : Nat) (s : Rs) (w : List Wd) : Bool × Rs :=
  if w.length = 2 ∧ depth ≠ 4 ∧ atom s.ds (wd w 1) = true then
    match B (depth + 1) { s with cnt := s.cnt + 1, at_ := s.at_ + 1 } with
    | (false, s2) => (false, s2)
    | (true, s2) =>
      if L.getD s2.at_ [] = wElse then
        if wd w 0 = wIf then
          match B (depth + 1) { s2 with at_ := s2.at_ + 1 } with
          | (false, s3) => (false, s3)
          | (true, s3) => if L.getD s3.at_ [] = wElse then (false, s3) else (true, { s3 with at_ := s3.at_ + 1 })
        else (false, s2)
      else (true, { s2 with at_ := s2.at_ + 1 })
  else (false, s)

/-- A statement's line behind the declarations: what comes of it; or the block ends here. -/
def stmtS (B : Nat → Rs → Bool × Rs) (L : List Wd) (depth : Nat) (s : Rs) (w : List Wd) : Bool × Rs :=
  if wd w 0 = wElse ∨ wd w 0 = wEnd then (decide (w.length = 1 ∧ 0 < depth), s)
  else if s.cnt = 12 then (false, s)
  else if wd w 0 = wIf ∨ wd w 0 = wWhile then
    match nestS B L depth s w with
    | (true, s') => B depth s'
    | (false, s') => (false, s')
  else if fits s.ds w = true then B depth { s with cnt := s.cnt + 1, at_ := s.at_ + 1 }
  else (false, { s with cnt := s.cnt + 1 })

def blkS (L : List Wd) : Nat → Nat → Rs → Bool × Rs
  | 0, depth, s => (decide (depth = 0), s)
  | f + 1, depth, s =>
    if s.at_ + 1 < L.length then
      if isDecl (wd (cut 32 (L.getD s.at_ [])) 0) = true then
        match declare s.ds s.bdy (cut 32 (L.getD s.at_ [])) with
        | none => (false, s)
        | some ds => blkS L f depth { s with ds := ds, at_ := s.at_ + 1 }
      else stmtS (blkS L f) L depth { s with bdy := true } (cut 32 (L.getD s.at_ []))
    else (decide (depth = 0), s)

def readS (t : Wd) : Bool × Nat :=
  match blkS (cut 10 t) (cut 10 t).length 0 {} with
  | (false, s) => (false, s.at_ + 1)
  | (true, _) => if ((cut 10 t).getD ((cut 10 t).length - 1) []) = [] then (true, 0) else (false, (cut 10 t).length)

/-- What holds of the state that a block leaves. -/
structure Post (L : List Wd) (depth : Nat) (s : Rs) (o : Bool × Rs) : Prop where
  lt : o.2.at_ < L.length
  ge : s.at_ ≤ o.2.at_
  cnt : o.2.cnt ≤ 12
  bdy : s.bdy = true → o.2.bdy = true ∧ o.2.ds = s.ds
  mid : o.1 = true → 0 < depth → o.2.at_ + 1 < L.length

theorem cnt_le {L : List Wd} {depth : Nat} {s s' : Rs} {o : Bool × Rs} (h : Post L depth s' o) (hge : s.at_ ≤ s'.at_) (hb : s.bdy = true → s'.bdy = true ∧ s'.ds = s.ds) : Post L depth s o :=
  ⟨h.lt, Nat.le_trans hge h.ge, h.cnt, fun e => ⟨(h.bdy (hb e).1).1, ((h.bdy (hb e).1).2).trans (hb e).2⟩, h.mid⟩

theorem declare_body {ds : List Dc} {w : List Wd} : declare ds true w = none := by unfold declare; rw [if_neg (by simp)]

theorem post_nest {B : Nat → Rs → Bool × Rs} {L : List Wd} (depth : Nat) (s : Rs) (hB : ∀ d s', s.at_ + 1 ≤ s'.at_ → s'.at_ < L.length → s'.cnt ≤ 12 → Post L d s' (B d s')) (w : List Wd) (hs : s.at_ + 1 < L.length) (hc : s.cnt < 12) :
    (nestS B L depth s w).2.at_ < L.length ∧ s.at_ ≤ (nestS B L depth s w).2.at_ ∧ (nestS B L depth s w).2.cnt ≤ 12 ∧ (s.bdy = true → (nestS B L depth s w).2.bdy = true ∧ (nestS B L depth s w).2.ds = s.ds) ∧ ((nestS B L depth s w).1 = true → s.at_ + 1 ≤ (nestS B L depth s w).2.at_) := by
  unfold nestS
  by_cases h1 : w.length = 2 ∧ depth ≠ 4 ∧ atom s.ds (wd w 1) = true
  · rw [if_pos h1]
    have p1 := hB (depth + 1) { s with cnt := s.cnt + 1, at_ := s.at_ + 1 } (Nat.le_refl _) (by exact hs) (by show s.cnt + 1 ≤ 12; omega)
    generalize B (depth + 1) { s with cnt := s.cnt + 1, at_ := s.at_ + 1 } = o1 at p1
    obtain ⟨b1, s2⟩ := o1
    have g1 : s.at_ + 1 ≤ s2.at_ := p1.ge
    cases b1 with
    | false => exact ⟨p1.lt, by show s.at_ ≤ s2.at_; omega, p1.cnt, p1.bdy, fun e => by simp at e⟩
    | true =>
      have m1 : s2.at_ + 1 < L.length := p1.mid rfl (by omega)
      by_cases h2 : L.getD s2.at_ [] = wElse
      · simp only [if_pos h2]
        by_cases h3 : wd w 0 = wIf
        · simp only [if_pos h3]
          have p2 := hB (depth + 1) { s2 with at_ := s2.at_ + 1 } (by show s.at_ + 1 ≤ s2.at_ + 1; omega) (by exact m1) p1.cnt
          generalize B (depth + 1) { s2 with at_ := s2.at_ + 1 } = o2 at p2
          obtain ⟨b2, s3⟩ := o2
          have g2 : s2.at_ + 1 ≤ s3.at_ := p2.ge
          have bb : s.bdy = true → s3.bdy = true ∧ s3.ds = s.ds := fun e => ⟨(p2.bdy (p1.bdy e).1).1, ((p2.bdy (p1.bdy e).1).2).trans (p1.bdy e).2⟩
          cases b2 with
          | false => exact ⟨p2.lt, by show s.at_ ≤ s3.at_; omega, p2.cnt, bb, fun e => by simp at e⟩
          | true =>
            have m2 : s3.at_ + 1 < L.length := p2.mid rfl (by omega)
            by_cases h4 : L.getD s3.at_ [] = wElse
            · simp only [if_pos h4]; exact ⟨p2.lt, by show s.at_ ≤ s3.at_; omega, p2.cnt, bb, fun e => by simp at e⟩
            · simp only [if_neg h4]; exact ⟨m2, by show s.at_ ≤ s3.at_ + 1; omega, p2.cnt, bb, fun _ => by show s.at_ + 1 ≤ s3.at_ + 1; omega⟩
        · simp only [if_neg h3]; exact ⟨p1.lt, by show s.at_ ≤ s2.at_; omega, p1.cnt, p1.bdy, fun e => by simp at e⟩
      · simp only [if_neg h2]; exact ⟨m1, by show s.at_ ≤ s2.at_ + 1; omega, p1.cnt, p1.bdy, fun _ => by show s.at_ + 1 ≤ s2.at_ + 1; omega⟩
  · rw [if_neg h1]; exact ⟨by show s.at_ < L.length; omega, Nat.le_refl _, by show s.cnt ≤ 12; omega, fun e => ⟨e, rfl⟩, fun e => by simp at e⟩

theorem post_blk (L : List Wd) : ∀ (f depth : Nat) (s : Rs), s.at_ < L.length → s.cnt ≤ 12 → L.length ≤ s.at_ + 1 + f → Post L depth s (blkS L f depth s)
  | 0, depth, s, h, hc, hf => ⟨h, Nat.le_refl _, hc, fun e => ⟨e, rfl⟩, fun e hd => by simp [blkS] at e; omega⟩
  | f + 1, depth, s, h, hc, hf => by
    unfold blkS
    by_cases h1 : s.at_ + 1 < L.length
    · rw [if_pos h1]
      by_cases h2 : isDecl (wd (cut 32 (L.getD s.at_ [])) 0) = true
      · rw [if_pos h2]
        cases hd : declare s.ds s.bdy (cut 32 (L.getD s.at_ [])) with
        | none => exact ⟨h, Nat.le_refl _, hc, fun e => ⟨e, rfl⟩, fun e => by simp at e⟩
        | some ds =>
          have p := post_blk L f depth { s with ds := ds, at_ := s.at_ + 1 } h1 hc (by show L.length ≤ s.at_ + 1 + 1 + f; omega)
          refine cnt_le p (by show s.at_ ≤ s.at_ + 1; omega) (fun e => ?_)
          rw [e, declare_body] at hd
          cases hd
      · rw [if_neg h2]
        unfold stmtS
        by_cases h3 : wd (cut 32 (L.getD s.at_ [])) 0 = wElse ∨ wd (cut 32 (L.getD s.at_ [])) 0 = wEnd
        · rw [if_pos h3]; exact ⟨h, Nat.le_refl _, hc, fun e => ⟨rfl, rfl⟩, fun _ _ => h1⟩
        · rw [if_neg h3]
          by_cases h4 : s.cnt = 12
          · rw [if_pos h4]; exact ⟨h, Nat.le_refl _, hc, fun e => ⟨rfl, rfl⟩, fun e => by simp at e⟩
          · rw [if_neg h4]
            by_cases h5 : wd (cut 32 (L.getD s.at_ [])) 0 = wIf ∨ wd (cut 32 (L.getD s.at_ [])) 0 = wWhile
            · rw [if_pos h5]
              have hp : ∀ d s', s.at_ + 1 ≤ s'.at_ → s'.at_ < L.length → s'.cnt ≤ 12 → Post L d s' (blkS L f d s') := fun d s' g1 g2 g3 => post_blk L f d s' g2 g3 (by omega)
              have pn := post_nest (B := blkS L f) depth { s with bdy := true } hp (cut 32 (L.getD s.at_ [])) h1 (by show s.cnt < 12; omega)
              generalize nestS (blkS L f) L depth { s with bdy := true } (cut 32 (L.getD s.at_ [])) = o at pn
              obtain ⟨b, s'⟩ := o
              obtain ⟨q1, q2, q3, q4, q5⟩ := pn
              have q2 : s.at_ ≤ s'.at_ := q2
              cases b with
              | false => exact ⟨q1, q2, q3, fun e => q4 rfl, fun e => by simp at e⟩
              | true =>
                have q5 : s.at_ + 1 ≤ s'.at_ := q5 rfl
                exact cnt_le (post_blk L f depth s' q1 q3 (by omega)) q2 (fun e => q4 rfl)
            · rw [if_neg h5]
              by_cases h6 : fits s.ds (cut 32 (L.getD s.at_ [])) = true
              · rw [if_pos h6]
                have p := post_blk L f depth { s with bdy := true, cnt := s.cnt + 1, at_ := s.at_ + 1 } h1 (by show s.cnt + 1 ≤ 12; omega) (by show L.length ≤ s.at_ + 1 + 1 + f; omega)
                exact cnt_le p (by show s.at_ ≤ s.at_ + 1; omega) (fun e => ⟨rfl, rfl⟩)
              · rw [if_neg h6]; exact ⟨h, Nat.le_refl _, by show s.cnt + 1 ≤ 12; omega, fun e => ⟨rfl, rfl⟩, fun e => by simp at e⟩
    · rw [if_neg h1]; exact ⟨h, Nat.le_refl _, hc, fun e => ⟨e, rfl⟩, fun e hd => by simp at e; omega⟩

end Go.Proofs.Ytkfejeomfdhmdaa.Rf
