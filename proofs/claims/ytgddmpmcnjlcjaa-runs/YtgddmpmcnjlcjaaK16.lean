import Derived.Test.YtgddmpmcnjlcjaaK15
import Derived.Test.YtgddmpmcnjlcjaaK12
import Derived.Test.YtgddmpmcnjlcjaaK05
/- A text that is a program: trees and body. -/
namespace Go.Proofs.Ytgddmpmcnjlcjaa.Tm
open Lk (Wd wd RS isName lat cut bodyAt)
open Rf (Rs blk isDecl declare wElse wEnd wIf wWhile wSecret wPublic wVar wArray)
set_option linter.unusedVariables false

theorem blk_ds (P : List Rf.Dc → Prop) (hP : ∀ ds bdy w ds1, P ds → declare ds bdy w = some ds1 → P ds1) {L : List Wd} {f : Nat} : ∀ {depth : Nat} {s : Rs} {out out2 : List Rf.Tr} {s2 : Rs}, blk L f depth s out = (true, out2, s2) → P s.ds → P s2.ds := by
  induction f with
  | zero => intro depth s out out2 s2 h p; rw [(blk_end h (.inl rfl)).2.2]; exact p
  | succ f ih =>
    intro depth s out out2 s2 h p
    by_cases hl : s.at_ + 1 < L.length
    · cases blk_way h hl with
      | decl ds h1 h2 h => exact ih h (hP _ _ _ _ p h2)
      | stop h1 h2 h3 h4 h5 => rw [h5]; exact p
      | one b sb h1 h2 h3 hb h4 h5 => exact ih h5 (show P sb.ds from ih hb p)
      | two b o sb so h1 h2 h3 hb h4 h5 h6 h7 => exact ih h7 (show P so.ds from ih h5 (show P sb.ds from ih hb p))
      | plain h1 h2 h3 h4 h => exact ih h p
    · rw [(blk_end h (.inr hl)).2.2]; exact p

theorem blk_whole {L : List Wd} {f : Nat} : ∀ {s : Rs} {out out2 : List Rf.Tr} {s2 : Rs}, blk L f 0 s out = (true, out2, s2) → L.length ≤ s.at_ + 1 + f → ¬ s2.at_ + 1 < L.length := by
  induction f with
  | zero => intro s out out2 s2 h hf; rw [(blk_end h (.inl rfl)).2.2]; omega
  | succ f ih =>
    intro s out out2 s2 h hf
    by_cases hl : s.at_ + 1 < L.length
    · cases blk_way h hl with
      | decl ds h1 h2 h => exact ih h (by show _ ≤ s.at_ + 1 + 1 + f; omega)
      | stop h1 h2 h3 h4 h5 => omega
      | one b sb h1 h2 h3 hb h4 h5 =>
        have a := blk_mono hb
        simp at a
        exact ih h5 (by show _ ≤ sb.at_ + 1 + 1 + f; omega)
      | two b o sb so h1 h2 h3 hb h4 h5 h6 h7 =>
        have a := blk_mono hb
        have c := blk_mono h5
        simp at a c
        exact ih h7 (by show _ ≤ so.at_ + 1 + 1 + f; omega)
      | plain h1 h2 h3 h4 h => exact ih h (by show _ ≤ s.at_ + 1 + 1 + f; omega)
    · rw [(blk_end h (.inr hl)).2.2]; exact hl

theorem ref_read {t : Wd} {ds : List Rf.Dc} {b : List Rf.Tr} (h : Rf.read t = (some (ds, b), 0)) : ∃ s, blk (cut 10 t) (cut 10 t).length 0 {} [] = (true, b, s) ∧ s.ds = ds := by
  unfold Rf.read at h
  simp only at h
  rcases hx : blk (cut 10 t) (cut 10 t).length 0 {} [] with ⟨ok, b', s⟩
  rw [hx] at h
  cases ok with
  | false => simp at h
  | true =>
    simp only at h
    split at h
    · simp only [Prod.mk.injEq, Option.some.injEq] at h
      exact ⟨s, by rw [h.1.2], h.1.1⟩
    · simp at h

theorem read_laid {t : Wd} {ds : List Rf.Dc} {b : List Rf.Tr} (h : (Lk.read t).2 = 0) (hr : Rf.read t = (some (ds, b), 0)) : Lay (Cst (fd ds 0 0)) (Lk.read t).1.body 0 b (Lk.read t).1.body.length ∧ NR (Lk.read t).1 ds := by
  obtain ⟨s, hb, rfl⟩ := ref_read hr
  unfold Lk.read at h ⊢
  by_cases hl : 600 < t.length
  · rw [if_pos hl] at h; cases h
  · rw [if_neg hl] at h ⊢
    have hne := Lk.cut_ne 10 t
    generalize cut 10 t = L at *
    have hL : 0 < L.length := List.length_pos_iff.2 hne
    obtain ⟨g1, g2⟩ := lines_go L (L.length - 1) 0 0 {} (by omega) h
    obtain ⟨ts, r2, e, A⟩ := blk_lay L L.length 0 {} [] b s {} _ hb nr_nil rfl (fun _ => rfl) g1
    rw [List.nil_append] at e
    subst e
    have hw := blk_whole hb (by show _ ≤ 0 + 1 + L.length; omega)
    have hg := A.go
    rw [show L.length - 1 - s.at_ = 0 by omega] at hg
    have hr2 : r2 = (Lk.lines {} 0 L).1 := by
      have : some r2 = some (Lk.lines {} 0 L).1 := hg
      exact Option.some.inj this
    subst hr2
    exact ⟨A.lay, A.nr⟩

end Go.Proofs.Ytgddmpmcnjlcjaa.Tm

/- The program of a text. -/
namespace Go.Proofs.Ytgddmpmcnjlcjaa
open Go.RowKit
set_option linter.unusedVariables false

def pgOf (s : List UInt8) : Pg := ⟨(Lk.read s).1.secret, (Lk.read s).1.cells, Lk.link (Lk.read s).1.body⟩
theorem pgOf_ok (s : List UInt8) : PgOk (pgOf s) := by
  have h := Lk.rwf_read s
  exact ⟨h.sec, h.cel, h.cle, fun x hx => Lk.link_ok h hx⟩

end Go.Proofs.Ytgddmpmcnjlcjaa

/- At the start: both plain machines have the same values, so they tell the same. -/
namespace Go.Proofs.Ytgddmpmcnjlcjaa.Tm
open Lk (Wd wd RS isName lat cut bodyAt num?)
open Rf (Rs blk isDecl declare many wElse wEnd wIf wWhile wSecret wPublic wVar wArray)
set_option linter.unusedVariables false

/-- No input behind a var. -/
def ord : List Rf.Dc → Prop
  | [] => True
  | d :: ds => (d.kind = wVar → ∀ e, e ∈ ds → isIn e = false) ∧ (isIn d = true ∨ d.kind = wVar ∨ d.kind = wArray) ∧ ord ds

theorem ord_app {d : Rf.Dc} : ∀ {ds : List Rf.Dc}, ord ds → (isIn d = true ∨ d.kind = wVar ∨ d.kind = wArray) → (isIn d = true → ∀ e, e ∈ ds → e.kind ≠ wVar) → ord (ds ++ [d])
  | [], _, hk, _ => ⟨fun _ e he => (by cases he), hk, trivial⟩
  | x :: ds, h, hk, hv => by
    refine ⟨fun hx e he => ?_, h.2.1, ord_app h.2.2 hk (fun hi e he => hv hi e (List.mem_cons_of_mem _ he))⟩
    rcases List.mem_append.1 he with he | he
    · exact h.1 hx e he
    · have he : e = d := by simpa using he
      subst he
      cases hi : isIn e with
      | false => rfl
      | true => exact absurd hx (hv hi x List.mem_cons_self)

theorem many_zero {ds : List Rf.Dc} {k : Wd} (h : many ds k = 0) : ∀ e, e ∈ ds → e.kind ≠ k := by
  intro e he hk
  unfold many at h
  have h2 := List.length_eq_zero_iff.1 h
  have h3 : e ∈ ds.filter fun d => d.kind == k := List.mem_filter.2 ⟨he, by simpa using hk⟩
  rw [h2] at h3
  cases h3

theorem isIn_not : (wArray == wSecret || wArray == wPublic) = false ∧ (wVar == wSecret || wVar == wPublic) = false := by decide

theorem ord_declare {ds ds1 : List Rf.Dc} {bdy : Bool} {w : List Wd} (hd : isDecl (wd w 0) = true) (h : ord ds) (h1 : declare ds bdy w = some ds1) : ord ds1 := by
  unfold declare at h1
  by_cases hc : bdy = false ∧ w.length = (if wd w 0 = wArray then 3 else 2) ∧ isName (wd w 1) = true ∧ Rf.kindOf ds (wd w 1) = []
  · rw [if_pos hc] at h1
    by_cases hk : wd w 0 = wArray
    · rw [if_pos hk] at h1
      split at h1
      · split at h1
        · cases h1
          refine ord_app h (.inr (.inr hk)) (fun hi => ?_)
          have hi : (wd w 0 == wSecret || wd w 0 == wPublic) = true := hi
          rw [hk, isIn_not.1] at hi
          cases hi
        · cases h1
      · cases h1
    · rw [if_neg hk] at h1
      by_cases hv : wd w 0 = wVar
      · rw [if_pos hv] at h1
        split at h1
        · cases h1
          refine ord_app h (.inr (.inl hv)) (fun hi => ?_)
          have hi : (wd w 0 == wSecret || wd w 0 == wPublic) = true := hi
          rw [hv, isIn_not.2] at hi
          cases hi
        · cases h1
      · rw [if_neg hv] at h1
        by_cases hm : many ds wVar = 0 ∧ many ds wSecret + many ds wPublic < 3
        · rw [if_pos hm] at h1
          cases h1
          refine ord_app h (.inl ?_) (fun _ => many_zero hm.1)
          unfold isDecl at hd
          unfold isIn
          simp only [Bool.or_eq_true, beq_iff_eq] at hd ⊢
          rcases hd with ((hd | hd) | hd) | hd
          · exact .inl hd
          · exact .inr hd
          · exact absurd hd hv
          · exact absurd hd hk
        · rw [if_neg hm] at h1; cases h1
  · rw [if_neg hc] at h1; cases h1

theorem blk_ord {L : List Wd} {f : Nat} : ∀ {depth : Nat} {s : Rs} {out out2 : List Rf.Tr} {s2 : Rs}, blk L f depth s out = (true, out2, s2) → ord s.ds → ord s2.ds := by
  induction f with
  | zero => intro depth s out out2 s2 h p; rw [(blk_end h (.inl rfl)).2.2]; exact p
  | succ f ih =>
    intro depth s out out2 s2 h p
    by_cases hl : s.at_ + 1 < L.length
    · cases blk_way h hl with
      | decl ds h1 h2 h => exact ih h (ord_declare h1 p h2)
      | stop h1 h2 h3 h4 h5 => rw [h5]; exact p
      | one b sb h1 h2 h3 hb h4 h5 => exact ih h5 (show ord sb.ds from ih hb p)
      | two b o sb so h1 h2 h3 hb h4 h5 h6 h7 => exact ih h7 (show ord so.ds from ih h5 (show ord sb.ds from ih hb p))
      | plain h1 h2 h3 h4 h => exact ih h p
    · rw [(blk_end h (.inr hl)).2.2]; exact p

theorem ini_none : ∀ (ds : List Rf.Dc) (k : Nat) (ins : List Nat) (j : Nat), (∀ e, e ∈ ds → isIn e = false) → ini ds k ins j = 0
  | [], _, _, _, _ => rfl
  | d :: ds, k, ins, j, h => by
    unfold ini
    rw [if_neg (by rw [h d List.mem_cons_self]; simp)]
    by_cases hj : j = k
    · rw [if_pos hj]
    · rw [if_neg hj]
      exact ini_none ds (k + 1) ins j (fun e he => h e (List.mem_cons_of_mem _ he))

theorem filt_none {ds : List Rf.Dc} (h : ∀ e, e ∈ ds → isIn e = false) : (ds.filter isIn).length = 0 := by
  rw [List.length_eq_zero_iff, List.filter_eq_nil_iff]
  intro e he
  rw [h e he]; simp

theorem ini_fd (w : Wd) : ∀ (ds : List Rf.Dc) (s a k i : Nat) (ins : List Nat) (k0 : Nat), ord ds → ins.length = (ds.filter isIn).length → fd ds s a w = (1, k) → Rf.oneOf w (ds.map Rf.Dc.name) = some i → ini ds k0 ins (k0 + i) = ins.getD (k - s) 0
  | [], s, a, k, i, ins, k0, ho, hl, hf, hi => by cases hi
  | d :: ds, s, a, k, i, ins, k0, ho, hl, hf, hi => by
    have hi' : (if (d.name == w) = true then some 0 else (Rf.oneOf w (ds.map Rf.Dc.name)).map (· + 1)) = some i := hi
    unfold fd at hf
    unfold ini
    rw [List.filter_cons] at hl
    by_cases hn : d.name = w
    · rw [if_pos (by simpa using hn)] at hi'
      cases hi'
      rw [if_pos hn] at hf
      by_cases hk : d.kind = wArray
      · rw [if_pos hk] at hf; cases hf
      · rw [if_neg hk] at hf
        cases hf
        rw [Nat.sub_self]
        by_cases hin : isIn d = true
        · rw [if_pos hin, if_pos (Nat.add_zero k0)]
          cases ins <;> rfl
        · rw [if_neg hin] at hl ⊢
          rw [if_pos (Nat.add_zero k0)]
          have hv : d.kind = wVar := by
            rcases ho.2.1 with h | h | h
            · exact absurd h hin
            · exact h
            · exact absurd h hk
          rw [filt_none (ho.1 hv)] at hl
          rw [List.length_eq_zero_iff.1 hl]; rfl
    · rw [if_neg (by simpa using hn)] at hi'
      rw [if_neg hn] at hf
      cases hx : Rf.oneOf w (ds.map Rf.Dc.name) with
      | none => rw [hx] at hi'; cases hi'
      | some j =>
        rw [hx] at hi'
        have hij : j + 1 = i := by simpa using hi'
        subst hij
        have hne : ¬ k0 + (j + 1) = k0 := by omega
        have hsh : k0 + (j + 1) = k0 + 1 + j := by omega
        by_cases hk : d.kind = wArray
        · rw [if_pos hk] at hf
          have hin : ¬ isIn d = true := by
            intro h
            unfold isIn at h
            rw [hk] at h
            exact absurd h (by decide)
          rw [if_neg hin] at hl ⊢
          rw [if_neg hne, hsh]
          exact ini_fd w ds s (a + 1) k j ins (k0 + 1) ho.2.2 hl hf hx
        · rw [if_neg hk] at hf
          have hge : s + 1 ≤ k := by
            have := (fd_le ds (s + 1) a w).1 (by rw [hf])
            rw [hf] at this
            exact this
          by_cases hin : isIn d = true
          · rw [if_pos hin] at hl ⊢
            rw [if_neg hne, hsh]
            cases ins with
            | nil => simp at hl
            | cons x l =>
              rw [List.tail_cons, show k - s = (k - (s + 1)) + 1 by omega, List.getD_cons_succ]
              exact ini_fd w ds (s + 1) a k j l (k0 + 1) ho.2.2 (by simpa using hl) hf hx
          · rw [if_neg hin] at hl ⊢
            rw [if_neg hne, hsh]
            have hv : d.kind = wVar := by
              rcases ho.2.1 with h | h | h
              · exact absurd h hin
              · exact h
              · exact absurd h hk
            rw [ini_none ds (k0 + 1) ins _ (ho.1 hv)]
            rw [filt_none (ho.1 hv)] at hl
            rw [List.length_eq_zero_iff.1 hl]; rfl

/-- The step numbers of the program as it lies and of the trees agree. -/
theorem num_read {t : Wd} {ds : List Rf.Dc} {b : List Rf.Tr} (h : (Lk.read t).2 = 0) (hr : Rf.read t = (some (ds, b), 0)) (ins : List Nat) (hi : ins.length = (Lk.read t).1.secret.length) (n : Nat) : Mc.num (pgOf t) (Mc.ini ins) n = num ds (start ds b ins) n := by
  obtain ⟨hlay, nr⟩ := read_laid h hr
  have ho : ord ds := by
    obtain ⟨s, hb, rfl⟩ := ref_read hr
    exact blk_ord hb trivial
  have hlen : ins.length = (ds.filter isIn).length := by rw [hi, nr.sec, List.length_map]
  have nm : Nm ds (fd ds 0 0) (Lk.read t).1.cells := by
    rw [nr.cel]; exact nm_of ds nr.ss
  refine num_sim nm (Lk.read t).1.secret (B := (Lk.read t).1.body) (m := Mc.ini ins) (t := start ds b ins) ⟨⟨?_, ?_, rfl⟩, 0, (Lk.read t).1.body.length, ?_, ?_⟩ n
  · intro w k hw
    obtain ⟨i, e1, _, _⟩ := fd_one ds 0 0 w (by rw [hw]; simp)
    show ins.getD k 0 = ini ds 0 ins (idx ds w)
    have := ini_fd w ds 0 0 k i ins 0 ho hlen hw e1
    rw [Nat.zero_add] at this
    unfold idx
    rw [e1]
    exact this.symm
  · intro w k j hw hj; rfl
  · exact .inr (.inl ⟨rfl, hlay, rfl⟩)
  · show 0 = Lk.settle (Lk.read t).1.body 0
    unfold Lk.settle
    cases b with
    | nil =>
      have h0 := hlay.empty
      rw [List.length_eq_zero_iff.1 h0]
      rfl
    | cons x l =>
      rw [pass_stay _ _ hlay.head.2]
      rfl
end Go.Proofs.Ytgddmpmcnjlcjaa.Tm

/- What a program's trees and names keep to. -/
namespace Go.Proofs.Ytgddmpmcnjlcjaa.Tm
open Lk (Wd wd RS isName lat cut bodyAt num? oper?)
open Rf (Rs blk isDecl declare wElse wEnd wIf wWhile wSecret wPublic wVar wArray fits atom scalar kindOf)
set_option linter.unusedVariables false

/-- Statements that can stand, by the declared names. -/
inductive TsOk (ds : List Rf.Dc) : List Rf.Tr → Prop
  | nil : TsOk ds []
  | plain {w : List Wd} {ts : List Rf.Tr} (h : fits ds w = true) (hn : ¬ (wd w 0 = wIf ∨ wd w 0 = wWhile)) (hr : TsOk ds ts) : TsOk ds (.node w [] [] :: ts)
  | cond {w : List Wd} {b o ts : List Rf.Tr} (h2 : w.length = 2) (ha : atom ds (wd w 1) = true) (hw : wd w 0 = wIf ∨ wd w 0 = wWhile) (hb : TsOk ds b) (ho : TsOk ds o) (hr : TsOk ds ts) : TsOk ds (.node w b o :: ts)

theorem TsOk.append {ds : List Rf.Dc} {a b : List Rf.Tr} (h : TsOk ds a) (h2 : TsOk ds b) : TsOk ds (a ++ b) := by
  induction h with
  | nil => exact h2
  | plain h hn hr ih => exact .plain h hn ih
  | cond h2 ha hw hb ho hr ihb iho ih => exact .cond h2 ha hw hb ho ih

theorem blk_atom {L : List Wd} {f depth : Nat} {s : Rs} {out out2 : List Rf.Tr} {s2 : Rs} (h : blk L (f + 1) depth s out = (true, out2, s2)) (hl : s.at_ + 1 < L.length) (hd : isDecl (wd (cut 32 (L.getD s.at_ [])) 0) = false) (hi : wd (cut 32 (L.getD s.at_ [])) 0 = wIf ∨ wd (cut 32 (L.getD s.at_ [])) 0 = wWhile) :
    atom s.ds (wd (cut 32 (L.getD s.at_ [])) 1) = true := by
  unfold blk at h
  rw [if_pos hl] at h
  generalize cut 32 (L.getD s.at_ []) = w at h hd hi
  simp only at h
  rw [if_neg (by rw [hd]; simp)] at h
  have he : ¬ (wd w 0 = wElse ∨ wd w 0 = wEnd) := by
    intro c
    rcases hi with hi | hi <;> rcases c with c | c <;> rw [hi] at c <;> revert c <;> decide
  rw [if_neg he] at h
  by_cases h12 : s.cnt = 12
  · rw [if_pos h12] at h; cases h
  · rw [if_neg h12, if_pos hi] at h
    cases ha : atom s.ds (wd w 1) with
    | true => rfl
    | false => rw [if_neg (fun c => by rw [ha] at c; simp at c)] at h; cases h

theorem blk_ok {L : List Wd} {f : Nat} : ∀ {depth : Nat} {s : Rs} {out out2 : List Rf.Tr} {s2 : Rs}, blk L f depth s out = (true, out2, s2) → TsOk s.ds out → (s.bdy = false → out = []) → TsOk s2.ds out2 ∧ (s.bdy = true → s2.ds = s.ds ∧ s2.bdy = true) := by
  induction f with
  | zero =>
    intro depth s out out2 s2 h h1 h2
    obtain ⟨_, e1, e2⟩ := blk_end h (.inl rfl)
    rw [e1, e2]; exact ⟨h1, fun e => ⟨rfl, e⟩⟩
  | succ f ih =>
    intro depth s out out2 s2 h hk hn
    by_cases hl : s.at_ + 1 < L.length
    · have hat := blk_atom h hl
      cases blk_way h hl with
      | decl ds h1 h2 h =>
        have hb : s.bdy = false := by
          cases e : s.bdy with
          | false => rfl
          | true => rw [e, Rf.declare_body] at h2; cases h2
        have h0 := hn hb
        subst h0
        refine ⟨(ih h .nil (fun _ => rfl)).1, fun e => ?_⟩
        rw [hb] at e; cases e
      | stop h1 h2 h3 h4 h5 => rw [h4, h5]; exact ⟨hk, fun _ => ⟨rfl, rfl⟩⟩
      | one b sb h1 h2 h3 hb h4 h5 =>
        obtain ⟨b1, b2⟩ := ih hb .nil (fun _ => rfl)
        obtain ⟨e1, e2⟩ := b2 rfl
        have e1 : sb.ds = s.ds := e1
        obtain ⟨c1, c2⟩ := ih h5 (by show TsOk sb.ds _; rw [e1] at b1 ⊢; exact hk.append (.cond h3 (hat h1 h2) h2 b1 .nil .nil)) (fun e => by have e : sb.bdy = false := e; rw [e2] at e; cases e)
        obtain ⟨d1, d2⟩ := c2 e2
        exact ⟨c1, fun _ => ⟨d1.trans e1, d2⟩⟩
      | two b o sb so h1 h2 h3 hb h4 h5 h6 h7 =>
        obtain ⟨b1, b2⟩ := ih hb .nil (fun _ => rfl)
        obtain ⟨e1, e2⟩ := b2 rfl
        have e1 : sb.ds = s.ds := e1
        obtain ⟨o1, o2⟩ := ih h5 .nil (fun _ => rfl)
        obtain ⟨q1, q2⟩ := o2 e2
        have q1 : so.ds = sb.ds := q1
        obtain ⟨c1, c2⟩ := ih h7 (by show TsOk so.ds _; have e3 : so.ds = s.ds := q1.trans e1; rw [e3] at o1 ⊢; rw [e1] at b1; exact hk.append (.cond h3 (hat h1 (.inl h2)) (.inl h2) b1 o1 .nil)) (fun e => by have e : so.bdy = false := e; rw [q2] at e; cases e)
        obtain ⟨d1, d2⟩ := c2 q2
        exact ⟨c1, fun _ => ⟨d1.trans (q1.trans e1), d2⟩⟩
      | plain h1 h2 h3 h4 h =>
        obtain ⟨c1, c2⟩ := ih h (hk.append (.plain h4 h3 .nil)) (fun e => by cases e)
        exact ⟨c1, fun _ => c2 rfl⟩
    · obtain ⟨_, e1, e2⟩ := blk_end h (.inr hl)
      rw [e1, e2]; exact ⟨hk, fun e => ⟨rfl, e⟩⟩

/-- The names: letters, declared by one of the four words; sizes. -/
def DsOk (ds : List Rf.Dc) : Prop := ∀ d ∈ ds, isName d.name = true ∧ d.size ≤ 4 ∧ (d.kind = wSecret ∨ d.kind = wPublic ∨ d.kind = wVar ∨ d.kind = wArray)

theorem declare_one {ds ds1 : List Rf.Dc} {bdy : Bool} {w : List Wd} (h : declare ds bdy w = some ds1) : ∃ n, ds1 = ds ++ [⟨wd w 1, wd w 0, n⟩] ∧ n ≤ 4 ∧ isName (wd w 1) = true := by
  unfold declare at h
  by_cases c : bdy = false ∧ w.length = (if wd w 0 = wArray then 3 else 2) ∧ isName (wd w 1) = true ∧ kindOf ds (wd w 1) = []
  · rw [if_pos c] at h
    by_cases a : wd w 0 = wArray
    · rw [if_pos a] at h
      cases hn : num? (wd w 2) with
      | none => rw [hn] at h; cases h
      | some n =>
        rw [hn] at h
        simp only at h
        by_cases b : 1 ≤ n ∧ n ≤ 4 ∧ Rf.many ds wArray < 2
        · rw [if_pos b] at h; cases h; exact ⟨n, rfl, b.2.1, c.2.2.1⟩
        · rw [if_neg b] at h; cases h
    · rw [if_neg a] at h
      by_cases v : wd w 0 = wVar
      · rw [if_pos v] at h
        by_cases b : Rf.many ds wVar < 4
        · rw [if_pos b] at h; cases h; exact ⟨0, rfl, by omega, c.2.2.1⟩
        · rw [if_neg b] at h; cases h
      · rw [if_neg v] at h
        by_cases b : Rf.many ds wVar = 0 ∧ Rf.many ds wSecret + Rf.many ds wPublic < 3
        · rw [if_pos b] at h; cases h; exact ⟨0, rfl, by omega, c.2.2.1⟩
        · rw [if_neg b] at h; cases h
  · rw [if_neg c] at h; cases h

theorem blk_names {L : List Wd} {f : Nat} : ∀ {depth : Nat} {s : Rs} {out out2 : List Rf.Tr} {s2 : Rs}, blk L f depth s out = (true, out2, s2) → DsOk s.ds → DsOk s2.ds ∧ s2.ds.length + s.at_ ≤ s.ds.length + s2.at_ := by
  induction f with
  | zero => intro depth s out out2 s2 h p; rw [(blk_end h (.inl rfl)).2.2]; exact ⟨p, Nat.le_refl _⟩
  | succ f ih =>
    intro depth s out out2 s2 h p
    by_cases hl : s.at_ + 1 < L.length
    · cases blk_way h hl with
      | decl ds h1 h2 h =>
        obtain ⟨n, e, hn, hi⟩ := declare_one h2
        obtain ⟨c1, c2⟩ := ih h (by
          show DsOk ds
          rw [e]
          intro d hd
          rcases List.mem_append.1 hd with hd | hd
          · exact p d hd
          · have hd : d = _ := List.mem_singleton.1 hd
            rw [hd]
            refine ⟨hi, hn, ?_⟩
            simp only [isDecl, Bool.or_eq_true, beq_iff_eq] at h1
            rcases h1 with ((h1 | h1) | h1) | h1
            · exact .inl h1
            · exact .inr (.inl h1)
            · exact .inr (.inr (.inl h1))
            · exact .inr (.inr (.inr h1)))
        refine ⟨c1, ?_⟩
        have e2 : ds.length = s.ds.length + 1 := by rw [e]; simp
        have c2 : s2.ds.length + (s.at_ + 1) ≤ ds.length + s2.at_ := c2
        omega
      | stop h1 h2 h3 h4 h5 => rw [h5]; exact ⟨p, Nat.le_refl _⟩
      | one b sb h1 h2 h3 hb h4 h5 =>
        obtain ⟨a1, a2⟩ := ih hb p
        obtain ⟨c1, c2⟩ := ih h5 (show DsOk sb.ds from a1)
        have a2 : sb.ds.length + (s.at_ + 1) ≤ s.ds.length + sb.at_ := a2
        have c2 : s2.ds.length + (sb.at_ + 1) ≤ sb.ds.length + s2.at_ := c2
        exact ⟨c1, by omega⟩
      | two b o sb so h1 h2 h3 hb h4 h5 h6 h7 =>
        obtain ⟨a1, a2⟩ := ih hb p
        obtain ⟨b1, b2⟩ := ih h5 (show DsOk sb.ds from a1)
        obtain ⟨c1, c2⟩ := ih h7 (show DsOk so.ds from b1)
        have a2 : sb.ds.length + (s.at_ + 1) ≤ s.ds.length + sb.at_ := a2
        have b2 : so.ds.length + (sb.at_ + 1) ≤ sb.ds.length + so.at_ := b2
        have c2 : s2.ds.length + (so.at_ + 1) ≤ so.ds.length + s2.at_ := c2
        exact ⟨c1, by omega⟩
      | plain h1 h2 h3 h4 h =>
        obtain ⟨c1, c2⟩ := ih h p
        have c2 : s2.ds.length + (s.at_ + 1) ≤ s.ds.length + s2.at_ := c2
        exact ⟨c1, by omega⟩
    · rw [(blk_end h (.inr hl)).2.2]; exact ⟨p, Nat.le_refl _⟩

/-- The values are words. -/
def Wd16 (m : M) : Prop := (∀ i, m.vals i < 16) ∧ ∀ i j, m.cel i j < 16

theorem num_lt {w : Wd} {n : Nat} (h : num? w = some n) : n < 16 := by
  have := Lk.num_lt h
  omega

theorem Wd16.value {ds : List Rf.Dc} {m : M} (h : Wd16 m) (w : Wd) : value ds m w < 16 := by
  unfold Tm.value
  cases hn : num? w with
  | some n => exact num_lt hn
  | none => exact h.1 _

theorem oper_le {w : Wd} {o : Nat} (h : oper? w = some o) : o ≤ 10 := Lk.oper_le h

theorem upd_lt {f : Nat → Nat} {i v : Nat} (h : ∀ j, f j < 16) (hv : v < 16) : ∀ j, Lk.upd f i v j < 16 := by
  intro j
  unfold Lk.upd
  split
  · exact hv
  · exact h j

theorem Wd16.at {m : M} (h : Wd16 m) (r : List (List Rf.Tr × Nat)) : Wd16 { m with at_ := r } := h

theorem Wd16.plain {ds : List Rf.Dc} {m : M} (h : Wd16 m) (w : List Wd) : Wd16 (plain ds w m).2 := by
  unfold Tm.plain
  split
  · exact h
  · split
    · split
      · exact ⟨upd_lt h.1 (h.2 _ _), h.2⟩
      · exact h
    · split
      · split
        · refine ⟨h.1, fun i j => ?_⟩
          show Lk.upd m.cel _ _ i j < 16
          unfold Lk.upd
          split
          · dsimp only
            split
            · exact h.value _
            · exact h.2 _ _
          · exact h.2 i j
        · exact h
      · refine ⟨upd_lt h.1 ?_, h.2⟩
        split
        · refine apply_lt _ _ _ ?_ (h.value _) (h.value _)
          cases ho : oper? (wd w 3) with
          | none => simp
          | some o => simpa using oper_le ho
        · exact h.value _

theorem Wd16.step {ds : List Rf.Dc} {m : M} (h : Wd16 m) : Wd16 (step ds m).2 := by
  unfold Tm.step
  split
  · exact h
  · split
    · exact h
    · dsimp only
      split
      · split <;> exact h
      · exact Wd16.plain (h.at _) _

theorem ini_lt : ∀ (ds : List Rf.Dc) (k : Nat) (ins : List Nat) (j : Nat), (∀ x ∈ ins, x < 16) → ini ds k ins j < 16
  | [], _, _, _, _ => by show (0 : Nat) < 16; omega
  | d :: ds, k, ins, j, h => by
    unfold ini
    have ht : ∀ x ∈ ins.tail, x < 16 := fun x hx => h x (List.mem_of_mem_tail hx)
    split
    · split
      · cases ins with
        | nil => show (0 : Nat) < 16; omega
        | cons x l => exact h x (List.mem_cons_self ..)
      · exact ini_lt ds (k + 1) ins.tail j ht
    · split
      · omega
      · exact ini_lt ds (k + 1) ins j h

theorem Wd16.start (ds : List Rf.Dc) (b : List Rf.Tr) (ins : List Nat) (h : ∀ x ∈ ins, x < 16) : Wd16 (start ds b ins) := ⟨fun i => ini_lt ds 0 ins i h, fun _ _ => by show (0 : Nat) < 16; omega⟩

end Go.Proofs.Ytgddmpmcnjlcjaa.Tm

namespace Go.Proofs.Ytgddmpmcnjlcjaa
open Go.RowKit
set_option linter.unusedVariables false

theorem PRep.many_eq {w : World} {base P : Nat} {l : List DB} {vn vk vz vb : Value} (h : PRep w base P l vn vk vz vb) (s : ByteArray) (hl : l.length ≤ 1000) (m : Nat) (q : Lk.Wd) (hs : s.toList = q) (hm : Rf.many (dcs l) q = m) :
    Calls Try.prog 51 #[.pointer (some ⟨P, 0, none⟩), .string s] w fun e w' => e = .returned (.int .i64 m) ∧ w' = w := by
  rw [← hm, ← hs]; exact h.many_any s hl
theorem numeral_eq (s : ByteArray) (w : World) (z : Int) (h : Lk.intO (Lk.num? s.toList) = z) :
    Calls Try.prog 52 #[.string s] w fun e w' => e = .returned (.int .i64 z) ∧ Below w.heap.size w w' := by
  rw [← h]; exact numeral_any s w
theorem many_le (l : List DB) (q : Lk.Wd) : Rf.many (dcs l) q ≤ l.length := by rw [← countK_full]; exact countK_le l q _
theorem lit_sec : (⟨#[115, 101, 99, 114, 101, 116]⟩ : ByteArray).toList = Rf.wSecret := by rw [ByteArray.toList_eq]; rfl
theorem lit_pub : (⟨#[112, 117, 98, 108, 105, 99]⟩ : ByteArray).toList = Rf.wPublic := by rw [ByteArray.toList_eq]; rfl
theorem lit_var : (⟨#[118, 97, 114]⟩ : ByteArray).toList = Rf.wVar := by rw [ByteArray.toList_eq]; rfl
theorem lit_arr : (⟨#[97, 114, 114, 97, 121]⟩ : ByteArray).toList = Rf.wArray := by rw [ByteArray.toList_eq]; rfl

section
variable {w : World} {base P R : Nat} {l : List DB} {vn vk vz vb vl : Value} {s : Rf.Rs}

set_option maxRecDepth 100000 in
set_option maxHeartbeats 1000000 in
theorem decl_taken3 (h : PRep w base P l vn vk vz vb) (hl : l.length ≤ 1000) (g cap : Nat) (q0 q1 : ByteArray) (hc0 : w.cell? ⟨g, 0, none⟩ = some (.string q0)) (hc1 : w.cell? ⟨g, 1, none⟩ = some (.string q1)) (hp : w.cell? ⟨R, 0, none⟩ = some (.pointer (some ⟨P, 0, none⟩))) (hb : w.cell? ⟨R, 4, none⟩ = some (.bool false)) (hnm : Lk.isName q1.toList = true) (ha : (q0.toList == [97, 114, 114, 97, 121]) = true) (hk : (Rf.kindOf (dcs l) q1.toList).isEmpty = false) :
    Calls Try.prog 25 #[.pointer (some ⟨R, 0, none⟩), .slice (some ⟨g, 0, none⟩) 3 cap] w fun e w' => e = .returned (.bool false) ∧ Below w.heap.size w w' := by
  have hq : q1.size = 1 := by
    by_cases h : q1.size = 1
    · exact h
    · rw [isNameN h] at hnm; cases hnm
  have hqI : (q1.size : Int) = 1 := by omega
  obtain ⟨hn1, hn2⟩ := name_lo hq hnm
  have HP := hid h
  clear h hq hnm
  have HK := hid hk
  clear hk
  go_enter Try.func25, Try.ntmps25
  go_wp2_with (first
    | (go_at_call 50; refine (HP.out.kind_any q1 hl).mono ?_; rintro e w0 ⟨kq, rfl, hkq, rfl⟩; have hke : kq.toList.isEmpty = false := (by rw [hkq]; exact HK.out); have HKQ := hid hkq; clear hkq))
  go_ret
  exact ⟨rfl, Below.refl _ _⟩

set_option maxRecDepth 100000 in
set_option maxHeartbeats 1000000 in
theorem decl_taken2 (h : PRep w base P l vn vk vz vb) (hl : l.length ≤ 1000) (g cap : Nat) (q0 q1 : ByteArray) (hc0 : w.cell? ⟨g, 0, none⟩ = some (.string q0)) (hc1 : w.cell? ⟨g, 1, none⟩ = some (.string q1)) (hp : w.cell? ⟨R, 0, none⟩ = some (.pointer (some ⟨P, 0, none⟩))) (hb : w.cell? ⟨R, 4, none⟩ = some (.bool false)) (hnm : Lk.isName q1.toList = true) (ha : (q0.toList == [97, 114, 114, 97, 121]) = false) (hk : (Rf.kindOf (dcs l) q1.toList).isEmpty = false) :
    Calls Try.prog 25 #[.pointer (some ⟨R, 0, none⟩), .slice (some ⟨g, 0, none⟩) 2 cap] w fun e w' => e = .returned (.bool false) ∧ Below w.heap.size w w' := by
  have hq : q1.size = 1 := by
    by_cases h : q1.size = 1
    · exact h
    · rw [isNameN h] at hnm; cases hnm
  have hqI : (q1.size : Int) = 1 := by omega
  obtain ⟨hn1, hn2⟩ := name_lo hq hnm
  have HP := hid h
  clear h hq hnm
  have HK := hid hk
  clear hk
  go_enter Try.func25, Try.ntmps25
  go_wp2_with (first
    | (go_at_call 50; refine (HP.out.kind_any q1 hl).mono ?_; rintro e w0 ⟨kq, rfl, hkq, rfl⟩; have hke : kq.toList.isEmpty = false := (by rw [hkq]; exact HK.out); have HKQ := hid hkq; clear hkq))
  go_ret
  exact ⟨rfl, Below.refl _ _⟩

set_option maxRecDepth 100000 in
set_option maxHeartbeats 1000000 in
theorem decl_arr_no (h : PRep w base P l vn vk vz vb) (hl : l.length ≤ 1000) (g cap : Nat) (q0 q1 : ByteArray) (hc0 : w.cell? ⟨g, 0, none⟩ = some (.string q0)) (hc1 : w.cell? ⟨g, 1, none⟩ = some (.string q1)) (hp : w.cell? ⟨R, 0, none⟩ = some (.pointer (some ⟨P, 0, none⟩))) (hb : w.cell? ⟨R, 4, none⟩ = some (.bool false)) (hnm : Lk.isName q1.toList = true) (ha : (q0.toList == [97, 114, 114, 97, 121]) = true) (hk : (Rf.kindOf (dcs l) q1.toList).isEmpty = true) (q2 : ByteArray) (hc2 : w.cell? ⟨g, 2, none⟩ = some (.string q2)) (z : Int) (hz : Lk.intO (Lk.num? q2.toList) = z) (hno : z < 1 ∨ 4 < z ∨ 2 ≤ Rf.many (dcs l) Rf.wArray) :
    Calls Try.prog 25 #[.pointer (some ⟨R, 0, none⟩), .slice (some ⟨g, 0, none⟩) 3 cap] w fun e w' => e = .returned (.bool false) ∧ Below w.heap.size w w' := by
  have hq : q1.size = 1 := by
    by_cases h : q1.size = 1
    · exact h
    · rw [isNameN h] at hnm; cases hnm
  have hqI : (q1.size : Int) = 1 := by omega
  obtain ⟨hn1, hn2⟩ := name_lo hq hnm
  have HP := hid h
  clear h hq hnm
  have HK := hid hk
  clear hk
  obtain ⟨ms, hms⟩ : ∃ m, Rf.many (dcs l) Rf.wSecret = m := ⟨_, rfl⟩
  obtain ⟨mp, hmp⟩ : ∃ m, Rf.many (dcs l) Rf.wPublic = m := ⟨_, rfl⟩
  obtain ⟨mv, hmv⟩ : ∃ m, Rf.many (dcs l) Rf.wVar = m := ⟨_, rfl⟩
  obtain ⟨ma, hma⟩ : ∃ m, Rf.many (dcs l) Rf.wArray = m := ⟨_, rfl⟩
  have l1 := many_le l Rf.wSecret
  have l2 := many_le l Rf.wPublic
  rw [hms] at l1
  rw [hmp] at l2
  rw [hma] at hno
  have HZ := hid hz
  clear hz
  have HM1 := hid hms
  have HM2 := hid hmp
  have HM3 := hid hmv
  have HM4 := hid hma
  have l1I : (ms : Int) ≤ 1000 := by omega
  have l2I : (mp : Int) ≤ 1000 := by omega
  clear hms hmp hmv hma l1 l2
  by_cases h1 : z < 1
  · clear hno
    go_enter Try.func25, Try.ntmps25
    go_wp2_with (first
      | (go_at_call 50; refine (HP.out.kind_any q1 hl).mono ?_; rintro e w0 ⟨kq, rfl, hkq, rfl⟩; have hke : kq.toList.isEmpty = true := (by rw [hkq]; exact HK.out); have HKQ := hid hkq; clear hkq)
      | (go_at_call_of 51 (Value.string { data := #[115, 101, 99, 114, 101, 116] }); refine (HP.out.many_eq _ hl ms Rf.wSecret lit_sec HM1.out).mono ?_; rintro e w0 ⟨rfl, rfl⟩)
      | (go_at_call_of 51 (Value.string { data := #[112, 117, 98, 108, 105, 99] }); refine (HP.out.many_eq _ hl mp Rf.wPublic lit_pub HM2.out).mono ?_; rintro e w0 ⟨rfl, rfl⟩)
      | (go_at_call_of 51 (Value.string { data := #[118, 97, 114] }); refine (HP.out.many_eq _ hl mv Rf.wVar lit_var HM3.out).mono ?_; rintro e w0 ⟨rfl, rfl⟩)
      | (go_at_call_of 51 (Value.string { data := #[97, 114, 114, 97, 121] }); refine (HP.out.many_eq _ hl ma Rf.wArray lit_arr HM4.out).mono ?_; rintro e w0 ⟨rfl, rfl⟩)
      | (go_at_call 52; refine (numeral_eq q2 _ z HZ.out).mono ?_; rintro e w1 ⟨rfl, hb1⟩; have HB1 := hid hb1; have z1 := hb1.size; clear hb1))
    go_ret
    exact ⟨rfl, HB1.out⟩
  · have h1' : 1 ≤ z := by omega
    by_cases h4 : 4 < z
    · clear hno h1
      go_enter Try.func25, Try.ntmps25
      go_wp2_with (first
        | (go_at_call 50; refine (HP.out.kind_any q1 hl).mono ?_; rintro e w0 ⟨kq, rfl, hkq, rfl⟩; have hke : kq.toList.isEmpty = true := (by rw [hkq]; exact HK.out); have HKQ := hid hkq; clear hkq)
        | (go_at_call_of 51 (Value.string { data := #[115, 101, 99, 114, 101, 116] }); refine (HP.out.many_eq _ hl ms Rf.wSecret lit_sec HM1.out).mono ?_; rintro e w0 ⟨rfl, rfl⟩)
        | (go_at_call_of 51 (Value.string { data := #[112, 117, 98, 108, 105, 99] }); refine (HP.out.many_eq _ hl mp Rf.wPublic lit_pub HM2.out).mono ?_; rintro e w0 ⟨rfl, rfl⟩)
        | (go_at_call_of 51 (Value.string { data := #[118, 97, 114] }); refine (HP.out.many_eq _ hl mv Rf.wVar lit_var HM3.out).mono ?_; rintro e w0 ⟨rfl, rfl⟩)
        | (go_at_call_of 51 (Value.string { data := #[97, 114, 114, 97, 121] }); refine (HP.out.many_eq _ hl ma Rf.wArray lit_arr HM4.out).mono ?_; rintro e w0 ⟨rfl, rfl⟩)
        | (go_at_call 52; refine (numeral_eq q2 _ z HZ.out).mono ?_; rintro e w1 ⟨rfl, hb1⟩; have HB1 := hid hb1; have z1 := hb1.size; clear hb1))
      go_ret
      exact ⟨rfl, HB1.out⟩
    · have h4' : z ≤ 4 := by omega
      have ha2 : (2 : Int) ≤ (ma : Int) := by omega
      clear hno h1 h4
      go_enter Try.func25, Try.ntmps25
      go_wp2_with (first
        | (go_at_call 50; refine (HP.out.kind_any q1 hl).mono ?_; rintro e w0 ⟨kq, rfl, hkq, rfl⟩; have hke : kq.toList.isEmpty = true := (by rw [hkq]; exact HK.out); have HKQ := hid hkq; clear hkq)
        | (go_at_call_of 51 (Value.string { data := #[115, 101, 99, 114, 101, 116] }); refine (HP.out.many_eq _ hl ms Rf.wSecret lit_sec HM1.out).mono ?_; rintro e w0 ⟨rfl, rfl⟩)
        | (go_at_call_of 51 (Value.string { data := #[112, 117, 98, 108, 105, 99] }); refine (HP.out.many_eq _ hl mp Rf.wPublic lit_pub HM2.out).mono ?_; rintro e w0 ⟨rfl, rfl⟩)
        | (go_at_call_of 51 (Value.string { data := #[118, 97, 114] }); refine (HP.out.many_eq _ hl mv Rf.wVar lit_var HM3.out).mono ?_; rintro e w0 ⟨rfl, rfl⟩)
        | (go_at_call_of 51 (Value.string { data := #[97, 114, 114, 97, 121] }); refine (HP.out.many_eq _ hl ma Rf.wArray lit_arr HM4.out).mono ?_; rintro e w0 ⟨rfl, rfl⟩)
        | (go_at_call 52; refine (numeral_eq q2 _ z HZ.out).mono ?_; rintro e w1 ⟨rfl, hb1⟩; have HB1 := hid hb1; have z1 := hb1.size; clear hb1))
      go_ret
      exact ⟨rfl, HB1.out⟩

set_option maxRecDepth 100000 in
set_option maxHeartbeats 1000000 in
theorem decl_var_no (h : PRep w base P l vn vk vz vb) (hl : l.length ≤ 1000) (g cap : Nat) (q0 q1 : ByteArray) (hc0 : w.cell? ⟨g, 0, none⟩ = some (.string q0)) (hc1 : w.cell? ⟨g, 1, none⟩ = some (.string q1)) (hp : w.cell? ⟨R, 0, none⟩ = some (.pointer (some ⟨P, 0, none⟩))) (hb : w.cell? ⟨R, 4, none⟩ = some (.bool false)) (hnm : Lk.isName q1.toList = true) (ha : (q0.toList == [97, 114, 114, 97, 121]) = false) (hv : (q0.toList == [118, 97, 114]) = true) (hk : (Rf.kindOf (dcs l) q1.toList).isEmpty = true) (hno : 4 ≤ Rf.many (dcs l) Rf.wVar) :
    Calls Try.prog 25 #[.pointer (some ⟨R, 0, none⟩), .slice (some ⟨g, 0, none⟩) 2 cap] w fun e w' => e = .returned (.bool false) ∧ Below w.heap.size w w' := by
  have hq : q1.size = 1 := by
    by_cases h : q1.size = 1
    · exact h
    · rw [isNameN h] at hnm; cases hnm
  have hqI : (q1.size : Int) = 1 := by omega
  obtain ⟨hn1, hn2⟩ := name_lo hq hnm
  have HP := hid h
  clear h hq hnm
  have HK := hid hk
  clear hk
  obtain ⟨ms, hms⟩ : ∃ m, Rf.many (dcs l) Rf.wSecret = m := ⟨_, rfl⟩
  obtain ⟨mp, hmp⟩ : ∃ m, Rf.many (dcs l) Rf.wPublic = m := ⟨_, rfl⟩
  obtain ⟨mv, hmv⟩ : ∃ m, Rf.many (dcs l) Rf.wVar = m := ⟨_, rfl⟩
  obtain ⟨ma, hma⟩ : ∃ m, Rf.many (dcs l) Rf.wArray = m := ⟨_, rfl⟩
  have l1 := many_le l Rf.wSecret
  have l2 := many_le l Rf.wPublic
  rw [hms] at l1
  rw [hmp] at l2
  rw [hmv] at hno
  have HM1 := hid hms
  have HM2 := hid hmp
  have HM3 := hid hmv
  have HM4 := hid hma
  have l1I : (ms : Int) ≤ 1000 := by omega
  have l2I : (mp : Int) ≤ 1000 := by omega
  clear hms hmp hmv hma l1 l2
  have h4 : (4 : Int) ≤ (mv : Int) := by omega
  clear hno
  go_enter Try.func25, Try.ntmps25
  go_wp2_with (first
    | (go_at_call 50; refine (HP.out.kind_any q1 hl).mono ?_; rintro e w0 ⟨kq, rfl, hkq, rfl⟩; have hke : kq.toList.isEmpty = true := (by rw [hkq]; exact HK.out); have HKQ := hid hkq; clear hkq)
    | (go_at_call_of 51 (Value.string { data := #[115, 101, 99, 114, 101, 116] }); refine (HP.out.many_eq _ hl ms Rf.wSecret lit_sec HM1.out).mono ?_; rintro e w0 ⟨rfl, rfl⟩)
    | (go_at_call_of 51 (Value.string { data := #[112, 117, 98, 108, 105, 99] }); refine (HP.out.many_eq _ hl mp Rf.wPublic lit_pub HM2.out).mono ?_; rintro e w0 ⟨rfl, rfl⟩)
    | (go_at_call_of 51 (Value.string { data := #[118, 97, 114] }); refine (HP.out.many_eq _ hl mv Rf.wVar lit_var HM3.out).mono ?_; rintro e w0 ⟨rfl, rfl⟩)
    | (go_at_call_of 51 (Value.string { data := #[97, 114, 114, 97, 121] }); refine (HP.out.many_eq _ hl ma Rf.wArray lit_arr HM4.out).mono ?_; rintro e w0 ⟨rfl, rfl⟩))
  go_ret
  exact ⟨rfl, Below.refl _ _⟩

set_option maxRecDepth 100000 in
set_option maxHeartbeats 1000000 in
theorem decl_in_no (h : PRep w base P l vn vk vz vb) (hl : l.length ≤ 1000) (g cap : Nat) (q0 q1 : ByteArray) (hc0 : w.cell? ⟨g, 0, none⟩ = some (.string q0)) (hc1 : w.cell? ⟨g, 1, none⟩ = some (.string q1)) (hp : w.cell? ⟨R, 0, none⟩ = some (.pointer (some ⟨P, 0, none⟩))) (hb : w.cell? ⟨R, 4, none⟩ = some (.bool false)) (hnm : Lk.isName q1.toList = true) (ha : (q0.toList == [97, 114, 114, 97, 121]) = false) (hv : (q0.toList == [118, 97, 114]) = false) (hk : (Rf.kindOf (dcs l) q1.toList).isEmpty = true) (hno : 0 < Rf.many (dcs l) Rf.wVar ∨ 3 ≤ Rf.many (dcs l) Rf.wSecret + Rf.many (dcs l) Rf.wPublic) :
    Calls Try.prog 25 #[.pointer (some ⟨R, 0, none⟩), .slice (some ⟨g, 0, none⟩) 2 cap] w fun e w' => e = .returned (.bool false) ∧ Below w.heap.size w w' := by
  have hq : q1.size = 1 := by
    by_cases h : q1.size = 1
    · exact h
    · rw [isNameN h] at hnm; cases hnm
  have hqI : (q1.size : Int) = 1 := by omega
  obtain ⟨hn1, hn2⟩ := name_lo hq hnm
  have HP := hid h
  clear h hq hnm
  have HK := hid hk
  clear hk
  obtain ⟨ms, hms⟩ : ∃ m, Rf.many (dcs l) Rf.wSecret = m := ⟨_, rfl⟩
  obtain ⟨mp, hmp⟩ : ∃ m, Rf.many (dcs l) Rf.wPublic = m := ⟨_, rfl⟩
  obtain ⟨mv, hmv⟩ : ∃ m, Rf.many (dcs l) Rf.wVar = m := ⟨_, rfl⟩
  obtain ⟨ma, hma⟩ : ∃ m, Rf.many (dcs l) Rf.wArray = m := ⟨_, rfl⟩
  have l1 := many_le l Rf.wSecret
  have l2 := many_le l Rf.wPublic
  rw [hms] at l1
  rw [hmp] at l2
  rw [hmv, hms, hmp] at hno
  have HM1 := hid hms
  have HM2 := hid hmp
  have HM3 := hid hmv
  have HM4 := hid hma
  have l1I : (ms : Int) ≤ 1000 := by omega
  have l2I : (mp : Int) ≤ 1000 := by omega
  clear hms hmp hmv hma l1 l2
  by_cases h1 : 0 < mv
  · have h1I : (0 : Int) < (mv : Int) := by omega
    clear hno h1
    go_enter Try.func25, Try.ntmps25
    go_wp2_with (first
      | (go_at_call 50; refine (HP.out.kind_any q1 hl).mono ?_; rintro e w0 ⟨kq, rfl, hkq, rfl⟩; have hke : kq.toList.isEmpty = true := (by rw [hkq]; exact HK.out); have HKQ := hid hkq; clear hkq)
      | (go_at_call_of 51 (Value.string { data := #[115, 101, 99, 114, 101, 116] }); refine (HP.out.many_eq _ hl ms Rf.wSecret lit_sec HM1.out).mono ?_; rintro e w0 ⟨rfl, rfl⟩)
      | (go_at_call_of 51 (Value.string { data := #[112, 117, 98, 108, 105, 99] }); refine (HP.out.many_eq _ hl mp Rf.wPublic lit_pub HM2.out).mono ?_; rintro e w0 ⟨rfl, rfl⟩)
      | (go_at_call_of 51 (Value.string { data := #[118, 97, 114] }); refine (HP.out.many_eq _ hl mv Rf.wVar lit_var HM3.out).mono ?_; rintro e w0 ⟨rfl, rfl⟩)
      | (go_at_call_of 51 (Value.string { data := #[97, 114, 114, 97, 121] }); refine (HP.out.many_eq _ hl ma Rf.wArray lit_arr HM4.out).mono ?_; rintro e w0 ⟨rfl, rfl⟩))
    go_ret
    exact ⟨rfl, Below.refl _ _⟩
  · have h1I : ¬ (0 : Int) < (mv : Int) := by omega
    have h3 : (3 : Int) ≤ (ms : Int) + (mp : Int) := by omega
    clear hno h1
    go_enter Try.func25, Try.ntmps25
    go_wp2_with (first
      | (go_at_call 50; refine (HP.out.kind_any q1 hl).mono ?_; rintro e w0 ⟨kq, rfl, hkq, rfl⟩; have hke : kq.toList.isEmpty = true := (by rw [hkq]; exact HK.out); have HKQ := hid hkq; clear hkq)
      | (go_at_call_of 51 (Value.string { data := #[115, 101, 99, 114, 101, 116] }); refine (HP.out.many_eq _ hl ms Rf.wSecret lit_sec HM1.out).mono ?_; rintro e w0 ⟨rfl, rfl⟩)
      | (go_at_call_of 51 (Value.string { data := #[112, 117, 98, 108, 105, 99] }); refine (HP.out.many_eq _ hl mp Rf.wPublic lit_pub HM2.out).mono ?_; rintro e w0 ⟨rfl, rfl⟩)
      | (go_at_call_of 51 (Value.string { data := #[118, 97, 114] }); refine (HP.out.many_eq _ hl mv Rf.wVar lit_var HM3.out).mono ?_; rintro e w0 ⟨rfl, rfl⟩)
      | (go_at_call_of 51 (Value.string { data := #[97, 114, 114, 97, 121] }); refine (HP.out.many_eq _ hl ma Rf.wArray lit_arr HM4.out).mono ?_; rintro e w0 ⟨rfl, rfl⟩))
    go_ret
    exact ⟨rfl, Below.refl _ _⟩

end
end Go.Proofs.Ytgddmpmcnjlcjaa
