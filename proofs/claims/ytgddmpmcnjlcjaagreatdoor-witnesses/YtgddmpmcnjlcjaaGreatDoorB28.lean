import Derived.Test.YtgddmpmcnjlcjaaGreatDoorB27
import Derived.Test.YtgddmpmcnjlcjaaGreatDoorB12
namespace Go.Proofs.YtgddmpmcnjlcjaaGreatDoor.Tm
open Lk (Wd wd RS isName lat cut)
open Rf (Rs blk isDecl declare wElse wEnd wIf wWhile wSecret wPublic wVar wArray wOut wLoad wStore)
set_option linter.unusedVariables false
variable {r r1 : RS} {ws : List Wd} {ds ds1 : List Rf.Dc}
structure Kept (r r1 : RS) : Prop where
  b : r1.body = r.body
  d : r1.depth = r.depth
  o : r1.opn = r.opn
theorem kept_decl {w : Wd} {a b : Nat} (e : Lk.declare r w a b = some r1) : Kept r r1 := by
  obtain ⟨_, _, rfl⟩ := decl_out e
  exact ⟨rfl, rfl, rfl⟩
theorem kept_input {b : Bool} (e : Lk.takeInput r ws b = some r1) : Kept r r1 := by
  unfold Lk.takeInput at e
  split at e
  · split at e
    · rename_i q hq
      cases e
      have := kept_decl hq
      exact ⟨this.b, this.d, this.o⟩
    · cases e
  · cases e
theorem kept_var (e : Lk.takeVar r ws = some r1) : Kept r r1 := by
  unfold Lk.takeVar at e
  split at e
  · split at e
    · rename_i q hq
      cases e
      have := kept_decl hq
      exact ⟨this.b, this.d, this.o⟩
    · cases e
  · cases e
theorem kept_array (e : Lk.takeArray r ws = some r1) : Kept r r1 := by
  unfold Lk.takeArray at e
  split at e
  · split at e
    · split at e
      · split at e
        · rename_i q hq
          cases e
          have := kept_decl hq
          exact ⟨this.b, this.d, this.o⟩
        · cases e
      · cases e
    · cases e
  · cases e
theorem declare_out {bdy : Bool} (h : declare ds bdy ws = some ds1) : bdy = false ∧ (wd ws 0 = wArray → ∃ n, Lk.num? (wd ws 2) = some n ∧ ds1 = ds ++ [⟨wd ws 1, wd ws 0, n⟩]) ∧ (¬ wd ws 0 = wArray → ds1 = ds ++ [⟨wd ws 1, wd ws 0, 0⟩]) := by
  unfold declare at h
  by_cases ha : wd ws 0 = wArray
  · simp only [if_pos ha] at h
    split at h
    · rename_i hc
      split at h
      · rename_i n hn
        split at h
        · cases h; exact ⟨hc.1, fun _ => ⟨n, hn, rfl⟩, fun k => absurd ha k⟩
        · cases h
      · cases h
    · cases h
  · simp only [if_neg ha] at h
    split at h
    · rename_i hc
      split at h
      · split at h
        · cases h; exact ⟨hc.1, fun k => absurd k ha, fun _ => rfl⟩
        · cases h
      · split at h
        · cases h; exact ⟨hc.1, fun k => absurd k ha, fun _ => rfl⟩
        · cases h
    · cases h
theorem decl_nr {bdy : Bool} (h0 : ws.length ≠ 0) (h : NR r ds) (e : Lk.take r ws = some r1) (hd : isDecl (wd ws 0) = true) (hx : declare ds bdy ws = some ds1) : NR r1 ds1 ∧ Kept r r1 ∧ bdy = false := by
  obtain ⟨hb, ha, hn⟩ := declare_out hx
  rcases isDecl_cases hd with k | k | k | k
  · rw [tk_secret h0 k] at e
    have := nr_input h e
    rw [hn (by rw [k]; decide), k]
    exact ⟨this, kept_input e, hb⟩
  · rw [tk_public h0 k] at e
    have := nr_input h e
    rw [hn (by rw [k]; decide), k]
    exact ⟨this, kept_input e, hb⟩
  · rw [tk_var h0 k] at e
    have := nr_var h e
    rw [hn (by rw [k]; decide), k]
    exact ⟨this, kept_var e, hb⟩
  · rw [tk_array h0 k] at e
    obtain ⟨n, h1, h2⟩ := nr_array h e
    obtain ⟨n', h3, h4⟩ := ha k
    rw [h1] at h3
    cases h3
    rw [h4, k]
    exact ⟨h2, kept_array e, hb⟩
end Go.Proofs.YtgddmpmcnjlcjaaGreatDoor.Tm
namespace Go.Proofs.YtgddmpmcnjlcjaaGreatDoor.Tm
open Lk (Wd wd RS isName lat cut bodyAt)
open Rf (Rs blk isDecl declare wElse wEnd wIf wWhile)
set_option linter.unusedVariables false
structure Laid (L : List Wd) (depth : Nat) (s s2 : Rs) (r rf : RS) (ts : List Rf.Tr) (r2 : RS) : Prop where
  go : goN L s2.at_ (L.length - 1 - s2.at_) r2 = some rf
  nr : NR r2 s2.ds
  dep : r2.depth = depth
  opn : ∀ d, d < depth → r2.opn d = r.opn d
  len : r.body.length ≤ r2.body.length
  old : ∀ x, x < r.body.length → bodyAt r2.body x = bodyAt r.body x
  lay : Lay (Cst (fd s2.ds 0 0)) r2.body r.body.length ts r2.body.length
  bdy : s.bdy = true → s2.ds = s.ds ∧ s2.bdy = true
  nob : s2.bdy = false → r2.body = []
theorem at_app (B : List Lk.St) (x : Lk.St) (i : Nat) (h : i < B.length) : bodyAt (B ++ [x]) i = bodyAt B i := by
  unfold Lk.bodyAt
  rw [List.getD_eq_getElem?_getD, List.getD_eq_getElem?_getD, List.getElem?_append_left h]
theorem at_new (B : List Lk.St) (x : Lk.St) : bodyAt (B ++ [x]) B.length = x := by
  unfold Lk.bodyAt
  rw [List.getD_eq_getElem?_getD, List.getElem?_append_right (Nat.le_refl _)]
  simp
theorem at_set (B : List Lk.St) (j : Nat) (x : Lk.St) (hj : j < B.length) (i : Nat) : bodyAt (B.set j x) i = if i = j then x else bodyAt B i := by
  unfold Lk.bodyAt
  rw [List.getD_eq_getElem?_getD, List.getD_eq_getElem?_getD, List.getElem?_set]
  by_cases e : i = j
  · subst e; rw [if_pos rfl, if_pos hj, if_pos rfl]; rfl
  · rw [if_neg (fun k => e k.symm), if_neg e]
theorem cst_fd {r : RS} {ds : List Rf.Dc} (h : NR r ds) {s : Lk.St} {w : List Wd} (c : Cst (Lk.find r) s w) : Cst (fd ds 0 0) s w := by
  rw [show Lk.find r = fd ds 0 0 from funext h.fnd] at c
  exact c
theorem end_out {r r1 : RS} {ws : List Wd} {d p e : Nat} (h : Lk.takeEnd r ws = some r1) (hd : r.depth = d + 1) (ho : r.opn d = (p, e)) :
    r1 = { r with depth := d, body := (if e = 0 then r.body.set p { bodyAt r.body p with els := r.body.length + 1 } else r.body.set e { bodyAt r.body e with next := r.body.length + 1 }) ++ [{ kind := 6, next := if (bodyAt r.body p).kind = 5 then p else r.body.length + 1 }] } := by
  unfold Lk.takeEnd at h
  split at h
  · simp only [hd, Nat.add_sub_cancel, ho] at h
    cases h
    rfl
  · cases h
theorem else_out {r r1 : RS} {ws : List Wd} {d p e : Nat} (h : Lk.takeElse r ws = some r1) (hd : r.depth = d + 1) (ho : r.opn d = (p, e)) :
    r1 = { r with depth := d + 1, opn := Lk.upd r.opn d (p, r.body.length), body := r.body.set p { bodyAt r.body p with els := r.body.length + 1 } ++ [{ kind := 6 }] } := by
  unfold Lk.takeElse at h
  split at h
  · simp only [hd, Nat.add_sub_cancel, ho] at h
    cases h
    rfl
  · cases h
theorem go_at {L : List Wd} {a : Nat} {r rf : RS} (h : goN L a (L.length - 1 - a) r = some rf) (hl : a + 1 < L.length) : ∃ r1, Lk.take r (cut 32 (L.getD a [])) = some r1 ∧ goN L (a + 1) (L.length - 1 - (a + 1)) r1 = some rf := by
  rw [show L.length - 1 - a = (L.length - 1 - (a + 1)) + 1 by omega] at h
  exact go_step h
theorem cut_one {x : Wd} (h : x = wElse ∨ x = wEnd) : wd (cut 32 x) 0 = x := by
  rcases h with h | h <;> subst h <;> rfl
theorem head_out {r r1 : RS} {w : List Wd} (h0 : w.length ≠ 0) (e : Lk.take r w = some r1) (h : wd w 0 = wIf ∨ wd w 0 = wWhile) : ∃ sh : Lk.St, ((sh.kind = 4 ∧ wd w 0 = wIf) ∨ (sh.kind = 5 ∧ wd w 0 = wWhile)) ∧ Cst (Lk.find r) sh w ∧ r1 = { r with stmts := r.stmts + 1, body := r.body ++ [{ sh with next := r.body.length + 1 }], opn := Lk.upd r.opn r.depth (r.body.length, 0), depth := r.depth + 1 } := by
  rcases h with h | h
  · rw [tk_if h0 h] at e
    obtain ⟨s, q, ⟨_, rfl⟩, e2, k, c⟩ := cst_branch (.inl rfl) e
    exact ⟨s, .inl ⟨k, h⟩, c, e2⟩
  · rw [tk_while h0 h] at e
    obtain ⟨s, q, ⟨_, rfl⟩, e2, k, c⟩ := cst_branch (.inr rfl) e
    exact ⟨s, .inr ⟨k, h⟩, c, e2⟩
theorem blk_lay (L : List Wd) : ∀ (f depth : Nat) (s : Rs) (out out2 : List Rf.Tr) (s2 : Rs) (r rf : RS), blk L f depth s out = (true, out2, s2) → NR r s.ds → r.depth = depth → (s.bdy = false → r.body = []) → goN L s.at_ (L.length - 1 - s.at_) r = some rf → ∃ ts r2, out2 = out ++ ts ∧ Laid L depth s s2 r rf ts r2 := by
  intro f
  induction f with
  | zero =>
    intro depth s out out2 s2 r rf h nr hd hb hg
    obtain ⟨_, e1, e2⟩ := blk_end h (.inl rfl)
    subst e1 e2
    exact ⟨[], r, by simp, hg, nr, hd, fun _ _ => rfl, Nat.le_refl _, fun _ _ => rfl, .nil _, fun k => ⟨rfl, k⟩, hb⟩
  | succ f ih =>
    intro depth s out out2 s2 r rf h nr hd hb hg
    by_cases hl : s.at_ + 1 < L.length
    · obtain ⟨r1, ht, hg1⟩ := go_at hg hl
      have h0 := cut_nz (L.getD s.at_ [])
      have W := blk_way h hl
      generalize cut 32 (L.getD s.at_ []) = w at W ht h0
      cases W with
      | decl ds h1 h2 h =>
        obtain ⟨n1, k1, b1⟩ := decl_nr h0 nr ht h1 h2
        obtain ⟨ts, r2, e, A⟩ := ih depth _ out out2 s2 r1 rf h n1 (by rw [k1.d]; exact hd) (fun _ => by rw [k1.b]; exact hb b1) hg1
        exact ⟨ts, r2, e, A.go, A.nr, A.dep, fun d hd => by rw [A.opn d hd, k1.o], by rw [← k1.b]; exact A.len, fun x hx => by rw [A.old x (by rw [k1.b]; exact hx), k1.b], by rw [← k1.b]; exact A.lay, fun k => (by rw [b1] at k; cases k), A.nob⟩
      | stop h1 h2 h3 h4 h5 =>
        subst h4 h5
        exact ⟨[], r, by simp, hg, nr, hd, fun _ _ => rfl, Nat.le_refl _, fun _ _ => rfl, .nil _, fun k => ⟨rfl, rfl⟩, fun k => (by cases k)⟩
      | plain h1 h2 h3 h4 h =>
        obtain ⟨st, ad, hk, c⟩ := plain_add h0 ht h1 h2 h3
        have n1 := nr.same ad.same
        obtain ⟨_, rfl⟩ := ad
        obtain ⟨ts, r2, e, A⟩ := ih depth _ _ out2 s2 _ rf h n1 hd (fun k => (by cases k)) hg1
        have hds := (A.bdy rfl).1
        have hlen := A.len
        have hold := A.old r.body.length (by simp)
        rw [at_new] at hold
        simp only [List.length_append, List.length_singleton] at hlen
        have hlay := A.lay
        simp only [List.length_append, List.length_singleton] at hlay
        refine ⟨.node w [] [] :: ts, r2, by rw [e]; simp, A.go, A.nr, A.dep, A.opn, by omega, fun x hx => by rw [A.old x (by simp; omega), at_app _ _ _ hx], ?_, fun k => ⟨hds, (A.bdy rfl).2⟩, A.nob⟩
        refine .plain ?_ (by rw [hold]; exact hk) (by omega) (by rw [hold]) h3 hlay
        rw [hold, hds]
        have c' := cst_fd nr c
        exact ⟨c'.out, c'.br, c'.load, c'.store, c'.asg⟩
      | one b sb h1 h2 h3 hb1 h4 h5 =>
        obtain ⟨sh, hkd, c, rfl⟩ := head_out h0 ht h2
        have n1 : NR { r with stmts := r.stmts + 1, body := r.body ++ [{ sh with next := r.body.length + 1 }], opn := Lk.upd r.opn r.depth (r.body.length, 0), depth := r.depth + 1 } s.ds := nr.same ⟨rfl, rfl, rfl, rfl⟩
        obtain ⟨tb, rb, eb, A1⟩ := ih (depth + 1) _ [] b sb _ rf hb1 n1 (by show r.depth + 1 = _; rw [hd]) (fun k => (by cases k)) hg1
        rw [List.nil_append] at eb
        subst eb
        obtain ⟨sl, sw⟩ := blk_stop hb1
        have hend := sw.resolve_left h4
        obtain ⟨re, hte, hge⟩ := go_at A1.go sl
        rw [hend, tk_end (cut_nz _) (cut_one (.inr rfl))] at hte
        have ho : rb.opn depth = (r.body.length, 0) := by
          rw [A1.opn depth (by omega)]
          show Lk.upd r.opn r.depth (r.body.length, 0) depth = _
          unfold Lk.upd
          rw [if_pos hd.symm]
        have hre := end_out hte A1.dep ho
        rw [if_pos rfl] at hre
        have hl1 := A1.len
        simp only [List.length_append, List.length_singleton] at hl1
        have hhd : bodyAt rb.body r.body.length = { sh with next := r.body.length + 1 } := by
          rw [A1.old _ (by simp)]
          exact at_new _ _
        obtain ⟨d1, d2⟩ := A1.bdy rfl
        have nrE : NR re sb.ds := A1.nr.same ⟨by rw [hre], by rw [hre], by rw [hre], by rw [hre]⟩
        have hDe : re.depth = depth := by rw [hre]
        have hOe : re.opn = rb.opn := by rw [hre]
        have hBe : re.body = rb.body.set r.body.length { bodyAt rb.body r.body.length with els := rb.body.length + 1 } ++ [{ kind := 6, next := if (bodyAt rb.body r.body.length).kind = 5 then r.body.length else rb.body.length + 1 }] := by rw [hre]
        clear hre
        obtain ⟨ts, r2, e, A2⟩ := ih depth _ _ out2 s2 re rf h5 nrE hDe (fun k => (by have k' : sb.bdy = false := k; rw [d2] at k'; cases k')) hge
        obtain ⟨d3, d4⟩ := A2.bdy d2
        have d3' : s2.ds = sb.ds := d3
        have hl2 := A2.len
        rw [hBe] at hl2
        simp only [List.length_append, List.length_singleton, List.length_set] at hl2
        have hx : ∀ x, x < rb.body.length → bodyAt r2.body x = if x = r.body.length then { bodyAt rb.body r.body.length with els := rb.body.length + 1 } else bodyAt rb.body x := by
          intro x hx
          rw [A2.old x (by rw [hBe]; simp; omega), hBe, at_app _ _ _ (by simpa using hx), at_set _ _ _ (by omega)]
        have hmk : bodyAt r2.body rb.body.length = { kind := 6, next := if (bodyAt rb.body r.body.length).kind = 5 then r.body.length else rb.body.length + 1 } := by
          rw [A2.old _ (by rw [hBe]; simp), hBe]
          have := at_new (rb.body.set r.body.length { bodyAt rb.body r.body.length with els := rb.body.length + 1 }) { kind := 6, next := if (bodyAt rb.body r.body.length).kind = 5 then r.body.length else rb.body.length + 1 }
          rw [List.length_set] at this
          exact this
        have hp := hx r.body.length (by omega)
        rw [if_pos rfl, hhd] at hp
        rw [hhd] at hmk
        have lb := A1.lay
        simp only [List.length_append, List.length_singleton] at lb
        rw [← d3'] at lb
        have lb2 := lb.congr (B' := r2.body) (by omega) (fun x a c => by rw [hx x c, if_neg (by omega)])
        have lt := A2.lay
        rw [hBe] at lt
        simp only [List.length_append, List.length_singleton, List.length_set] at lt
        have cc := cst_fd nr c
        have cc2 : Cst (fd s2.ds 0 0) (bodyAt r2.body r.body.length) w := by
          rw [hp, d3', d1]
          exact ⟨cc.out, cc.br, cc.load, cc.store, cc.asg⟩
        refine ⟨.node w b [] :: ts, r2, by rw [e]; simp, A2.go, A2.nr, A2.dep, ?_, by omega, ?_, ?_, fun _ => ⟨d3'.trans d1, d4⟩, A2.nob⟩
        · intro d hdl
          rw [A2.opn d hdl, hOe, A1.opn d (by omega)]
          show Lk.upd r.opn r.depth _ d = _
          unfold Lk.upd
          rw [if_neg (by omega)]
        · intro x hxl
          rw [hx x (by omega), if_neg (by omega), A1.old x (by simp; omega)]
          exact at_app _ _ _ hxl
        · rcases hkd with ⟨k, kw⟩ | ⟨k, kw⟩
          · exact .ifOne cc2 (by rw [hp]; exact k) (by omega) kw (by rw [hp]) lb2 (by omega) (by rw [hmk]) (by rw [hmk]; show (if sh.kind = 5 then _ else _) = _; rw [if_neg (by omega)]) (by rw [hp]) lt
          · exact .loop cc2 (by rw [hp]; exact k) (by omega) kw (by rw [hp]) lb2 (by omega) (by rw [hmk]) (by rw [hmk]; show (if sh.kind = 5 then _ else _) = _; rw [if_pos k]) (by rw [hp]) lt
      | two b o sb so h1 h2 h3 hb1 h4 h5 h6 h7 =>
        obtain ⟨sh, hkd, c, rfl⟩ := head_out h0 ht (.inl h2)
        have hk4 : sh.kind = 4 := by
          rcases hkd with ⟨k, _⟩ | ⟨_, k⟩
          · exact k
          · exact absurd (h2.symm.trans k) wIf_ne
        have n1 : NR { r with stmts := r.stmts + 1, body := r.body ++ [{ sh with next := r.body.length + 1 }], opn := Lk.upd r.opn r.depth (r.body.length, 0), depth := r.depth + 1 } s.ds := nr.same ⟨rfl, rfl, rfl, rfl⟩
        obtain ⟨tb, rb, eb, A1⟩ := ih (depth + 1) _ [] b sb _ rf hb1 n1 (by show r.depth + 1 = _; rw [hd]) (fun k => (by cases k)) hg1
        rw [List.nil_append] at eb
        subst eb
        obtain ⟨sl, _⟩ := blk_stop hb1
        obtain ⟨rl, htl, hgl⟩ := go_at A1.go sl
        rw [h4, tk_else (cut_nz _) (cut_one (.inl rfl))] at htl
        have ho : rb.opn depth = (r.body.length, 0) := by
          rw [A1.opn depth (by omega)]
          show Lk.upd r.opn r.depth (r.body.length, 0) depth = _
          unfold Lk.upd
          rw [if_pos hd.symm]
        have hrl := else_out htl A1.dep ho
        have hl1 := A1.len
        simp only [List.length_append, List.length_singleton] at hl1
        have hhd : bodyAt rb.body r.body.length = { sh with next := r.body.length + 1 } := by
          rw [A1.old _ (by simp)]
          exact at_new _ _
        obtain ⟨d1, d2⟩ := A1.bdy rfl
        have nrL : NR rl sb.ds := A1.nr.same ⟨by rw [hrl], by rw [hrl], by rw [hrl], by rw [hrl]⟩
        have hDl : rl.depth = depth + 1 := by rw [hrl]
        have hOl : rl.opn = Lk.upd rb.opn depth (r.body.length, rb.body.length) := by rw [hrl]
        have hBl : rl.body = rb.body.set r.body.length { bodyAt rb.body r.body.length with els := rb.body.length + 1 } ++ [{ kind := 6 }] := by rw [hrl]
        clear hrl
        obtain ⟨tq, ro, eo, A3⟩ := ih (depth + 1) _ [] o so rl rf h5 nrL hDl (fun k => (by have k' : sb.bdy = false := k; rw [d2] at k'; cases k')) hgl
        rw [List.nil_append] at eo
        subst eo
        obtain ⟨d5, d6⟩ := A3.bdy d2
        have d5' : so.ds = sb.ds := d5
        obtain ⟨sl2, sw2⟩ := blk_stop h5
        have hend := sw2.resolve_left h6
        obtain ⟨re, hte, hge⟩ := go_at A3.go sl2
        rw [hend, tk_end (cut_nz _) (cut_one (.inr rfl))] at hte
        have ho2 : ro.opn depth = (r.body.length, rb.body.length) := by
          rw [A3.opn depth (by omega), hOl]
          unfold Lk.upd
          rw [if_pos rfl]
        have hre := end_out hte A3.dep ho2
        rw [if_neg (by omega)] at hre
        have hl3 := A3.len
        rw [hBl] at hl3
        simp only [List.length_append, List.length_singleton, List.length_set] at hl3
        have hol : ∀ x, x < rb.body.length → bodyAt ro.body x = if x = r.body.length then { bodyAt rb.body r.body.length with els := rb.body.length + 1 } else bodyAt rb.body x := by
          intro x hx
          rw [A3.old x (by rw [hBl]; simp; omega), hBl, at_app _ _ _ (by simpa using hx), at_set _ _ _ (by omega)]
        have hom : bodyAt ro.body rb.body.length = { kind := 6 } := by
          rw [A3.old _ (by rw [hBl]; simp), hBl]
          have := at_new (rb.body.set r.body.length { bodyAt rb.body r.body.length with els := rb.body.length + 1 }) { kind := 6 }
          rw [List.length_set] at this
          exact this
        have hop := hol r.body.length (by omega)
        rw [if_pos rfl, hhd] at hop
        have nrE : NR re so.ds := A3.nr.same ⟨by rw [hre], by rw [hre], by rw [hre], by rw [hre]⟩
        have hDe : re.depth = depth := by rw [hre]
        have hOe : re.opn = ro.opn := by rw [hre]
        have hBe : re.body = ro.body.set rb.body.length { bodyAt ro.body rb.body.length with next := ro.body.length + 1 } ++ [{ kind := 6, next := ro.body.length + 1 }] := by
          rw [hre]
          show _ ++ [({ kind := 6, next := if (bodyAt ro.body r.body.length).kind = 5 then r.body.length else ro.body.length + 1 } : Lk.St)] = _
          rw [hop, if_neg (by show ¬ sh.kind = 5; omega)]
        clear hre
        obtain ⟨ts, r2, e, A2⟩ := ih depth _ _ out2 s2 re rf h7 nrE hDe (fun k => (by have k' : so.bdy = false := k; rw [d6] at k'; cases k')) hge
        obtain ⟨d3, d4⟩ := A2.bdy d6
        have d3' : s2.ds = so.ds := d3
        have hl2 := A2.len
        rw [hBe] at hl2
        simp only [List.length_append, List.length_singleton, List.length_set] at hl2
        have hx : ∀ x, x < ro.body.length → bodyAt r2.body x = if x = rb.body.length then { bodyAt ro.body rb.body.length with next := ro.body.length + 1 } else bodyAt ro.body x := by
          intro x hx
          rw [A2.old x (by rw [hBe]; simp; omega), hBe, at_app _ _ _ (by simpa using hx), at_set _ _ _ (by omega)]
        have hmk : bodyAt r2.body ro.body.length = { kind := 6, next := ro.body.length + 1 } := by
          rw [A2.old _ (by rw [hBe]; simp), hBe]
          have := at_new (ro.body.set rb.body.length { bodyAt ro.body rb.body.length with next := ro.body.length + 1 }) { kind := 6, next := ro.body.length + 1 }
          rw [List.length_set] at this
          exact this
        have hp := hx r.body.length (by omega)
        rw [if_neg (by omega), hop] at hp
        have hq1 := hx rb.body.length (by omega)
        rw [if_pos rfl, hom] at hq1
        have lb := A1.lay
        simp only [List.length_append, List.length_singleton] at lb
        rw [← d5', ← d3'] at lb
        have lb2 := lb.congr (B' := r2.body) (by omega) (fun x a c => by rw [hx x (by omega), if_neg (by omega), hol x c, if_neg (by omega)])
        have lo := A3.lay
        rw [hBl] at lo
        simp only [List.length_append, List.length_singleton, List.length_set] at lo
        rw [← d3'] at lo
        have lo2 := lo.congr (B' := r2.body) (by omega) (fun x a c => by rw [hx x c, if_neg (by omega)])
        have lt := A2.lay
        rw [hBe] at lt
        simp only [List.length_append, List.length_singleton, List.length_set] at lt
        have cc := cst_fd nr c
        have cc2 : Cst (fd s2.ds 0 0) (bodyAt r2.body r.body.length) w := by
          rw [hp, d3', d5', d1]
          exact ⟨cc.out, cc.br, cc.load, cc.store, cc.asg⟩
        refine ⟨.node w b o :: ts, r2, by rw [e]; simp, A2.go, A2.nr, A2.dep, ?_, by omega, ?_, ?_, fun _ => ⟨(d3'.trans d5').trans d1, d4⟩, A2.nob⟩
        · intro d hdl
          rw [A2.opn d hdl, hOe, A3.opn d (by omega), hOl]
          unfold Lk.upd
          rw [if_neg (by omega), A1.opn d (by omega)]
          show Lk.upd r.opn r.depth _ d = _
          unfold Lk.upd
          rw [if_neg (by omega)]
        · intro x hxl
          rw [hx x (by omega), if_neg (by omega), hol x (by omega), if_neg (by omega), A1.old x (by simp; omega)]
          exact at_app _ _ _ hxl
        · exact .ifTwo cc2 (by rw [hp]; exact hk4) (by omega) h2 (by rw [hp]) lb2 (by omega) (by rw [hq1]) (by rw [hp]) lo2 (by omega) (by rw [hmk]) (by rw [hq1]) (by rw [hmk]) lt
    · obtain ⟨_, e1, e2⟩ := blk_end h (.inr hl)
      subst e1 e2
      exact ⟨[], r, by simp, hg, nr, hd, fun _ _ => rfl, Nat.le_refl _, fun _ _ => rfl, .nil _, fun k => ⟨rfl, k⟩, hb⟩
end Go.Proofs.YtgddmpmcnjlcjaaGreatDoor.Tm
namespace Go.Proofs.YtgddmpmcnjlcjaaGreatDoor.Tm
open Lk (Wd wd RS isName lat cut bodyAt)
open Rf (Rs blk isDecl declare wElse wEnd wIf wWhile wSecret wPublic wVar wArray)
set_option linter.unusedVariables false
theorem blk_ds (P : List Rf.Dc → Prop) (hP : ∀ ds bdy w ds1, P ds → declare ds bdy w = some ds1 → P ds1) {L : List Wd} {f : Nat} : ∀ {depth : Nat} {s : Rs} {out out2 : List Rf.Tr} {s2 : Rs}, blk L f depth s out = (true, out2, s2) → P s.ds → P s2.ds := by
  induction f with
  | zero => intro depth s out out2 s2 h p; rw [(blk_end h (.inl rfl)).2.2]; exact p
  | succ f ih =>
    intro depth s out out2 s2 h p
    by_cases hl : s.at_ + 1 < L.length
    · cases blk_way h hl with
      | decl ds h1 h2 h => exact ih h (hP _ _ _ _ p h2)
      | stop h1 h2 h3 h4 h5 => rw [h5]; exact p
      | one b sb h1 h2 h3 hb h4 h5 => exact ih h5 (show P sb.ds from ih hb p)
      | two b o sb so h1 h2 h3 hb h4 h5 h6 h7 => exact ih h7 (show P so.ds from ih h5 (show P sb.ds from ih hb p))
      | plain h1 h2 h3 h4 h => exact ih h p
    · rw [(blk_end h (.inr hl)).2.2]; exact p
theorem blk_whole {L : List Wd} {f : Nat} : ∀ {s : Rs} {out out2 : List Rf.Tr} {s2 : Rs}, blk L f 0 s out = (true, out2, s2) → L.length ≤ s.at_ + 1 + f → ¬ s2.at_ + 1 < L.length := by
  induction f with
  | zero => intro s out out2 s2 h hf; rw [(blk_end h (.inl rfl)).2.2]; omega
  | succ f ih =>
    intro s out out2 s2 h hf
    by_cases hl : s.at_ + 1 < L.length
    · cases blk_way h hl with
      | decl ds h1 h2 h => exact ih h (by show _ ≤ s.at_ + 1 + 1 + f; omega)
      | stop h1 h2 h3 h4 h5 => omega
      | one b sb h1 h2 h3 hb h4 h5 =>
        have a := blk_mono hb
        simp at a
        exact ih h5 (by show _ ≤ sb.at_ + 1 + 1 + f; omega)
      | two b o sb so h1 h2 h3 hb h4 h5 h6 h7 =>
        have a := blk_mono hb
        have c := blk_mono h5
        simp at a c
        exact ih h7 (by show _ ≤ so.at_ + 1 + 1 + f; omega)
      | plain h1 h2 h3 h4 h => exact ih h (by show _ ≤ s.at_ + 1 + 1 + f; omega)
    · rw [(blk_end h (.inr hl)).2.2]; exact hl
theorem ref_read {t : Wd} {ds : List Rf.Dc} {b : List Rf.Tr} (h : Rf.read t = (some (ds, b), 0)) : ∃ s, blk (cut 10 t) (cut 10 t).length 0 {} [] = (true, b, s) ∧ s.ds = ds := by
  unfold Rf.read at h
  simp only at h
  rcases hx : blk (cut 10 t) (cut 10 t).length 0 {} [] with ⟨ok, b', s⟩
  rw [hx] at h
  cases ok with
  | false => simp at h
  | true =>
    simp only at h
    split at h
    · simp only [Prod.mk.injEq, Option.some.injEq] at h
      exact ⟨s, by rw [h.1.2], h.1.1⟩
    · simp at h
theorem read_laid {t : Wd} {ds : List Rf.Dc} {b : List Rf.Tr} (h : (Lk.read t).2 = 0) (hr : Rf.read t = (some (ds, b), 0)) : Lay (Cst (fd ds 0 0)) (Lk.read t).1.body 0 b (Lk.read t).1.body.length ∧ NR (Lk.read t).1 ds := by
  obtain ⟨s, hb, rfl⟩ := ref_read hr
  unfold Lk.read at h ⊢
  by_cases hl : 600 < t.length
  · rw [if_pos hl] at h; cases h
  · rw [if_neg hl] at h ⊢
    have hne := Lk.cut_ne 10 t
    generalize cut 10 t = L at *
    have hL : 0 < L.length := List.length_pos_iff.2 hne
    obtain ⟨g1, g2⟩ := lines_go L (L.length - 1) 0 0 {} (by omega) h
    obtain ⟨ts, r2, e, A⟩ := blk_lay L L.length 0 {} [] b s {} _ hb nr_nil rfl (fun _ => rfl) g1
    rw [List.nil_append] at e
    subst e
    have hw := blk_whole hb (by show _ ≤ 0 + 1 + L.length; omega)
    have hg := A.go
    rw [show L.length - 1 - s.at_ = 0 by omega] at hg
    have hr2 : r2 = (Lk.lines {} 0 L).1 := by
      have : some r2 = some (Lk.lines {} 0 L).1 := hg
      exact Option.some.inj this
    subst hr2
    exact ⟨A.lay, A.nr⟩
end Go.Proofs.YtgddmpmcnjlcjaaGreatDoor.Tm
namespace Go.Proofs.YtgddmpmcnjlcjaaGreatDoor.Tm
open Lk (Wd wd RS isName lat cut bodyAt num?)
open Rf (Rs blk isDecl declare many wElse wEnd wIf wWhile wSecret wPublic wVar wArray)
set_option linter.unusedVariables false
def ord : List Rf.Dc → Prop
  | [] => True
  | d :: ds => (d.kind = wVar → ∀ e, e ∈ ds → isIn e = false) ∧ (isIn d = true ∨ d.kind = wVar ∨ d.kind = wArray) ∧ ord ds
theorem ord_app {d : Rf.Dc} : ∀ {ds : List Rf.Dc}, ord ds → (isIn d = true ∨ d.kind = wVar ∨ d.kind = wArray) → (isIn d = true → ∀ e, e ∈ ds → e.kind ≠ wVar) → ord (ds ++ [d])
  | [], _, hk, _ => ⟨fun _ e he => (by cases he), hk, trivial⟩
  | x :: ds, h, hk, hv => by
    refine ⟨fun hx e he => ?_, h.2.1, ord_app h.2.2 hk (fun hi e he => hv hi e (List.mem_cons_of_mem _ he))⟩
    rcases List.mem_append.1 he with he | he
    · exact h.1 hx e he
    · have he : e = d := by simpa using he
      subst he
      cases hi : isIn e with
      | false => rfl
      | true => exact absurd hx (hv hi x List.mem_cons_self)
theorem many_zero {ds : List Rf.Dc} {k : Wd} (h : many ds k = 0) : ∀ e, e ∈ ds → e.kind ≠ k := by
  intro e he hk
  unfold many at h
  have h2 := List.length_eq_zero_iff.1 h
  have h3 : e ∈ ds.filter fun d => d.kind == k := List.mem_filter.2 ⟨he, by simpa using hk⟩
  rw [h2] at h3
  cases h3
theorem isIn_not : (wArray == wSecret || wArray == wPublic) = false ∧ (wVar == wSecret || wVar == wPublic) = false := by decide
theorem ord_declare {ds ds1 : List Rf.Dc} {bdy : Bool} {w : List Wd} (hd : isDecl (wd w 0) = true) (h : ord ds) (h1 : declare ds bdy w = some ds1) : ord ds1 := by
  unfold declare at h1
  by_cases hc : bdy = false ∧ w.length = (if wd w 0 = wArray then 3 else 2) ∧ isName (wd w 1) = true ∧ Rf.kindOf ds (wd w 1) = []
  · rw [if_pos hc] at h1
    by_cases hk : wd w 0 = wArray
    · rw [if_pos hk] at h1
      split at h1
      · split at h1
        · cases h1
          refine ord_app h (.inr (.inr hk)) (fun hi => ?_)
          have hi : (wd w 0 == wSecret || wd w 0 == wPublic) = true := hi
          rw [hk, isIn_not.1] at hi
          cases hi
        · cases h1
      · cases h1
    · rw [if_neg hk] at h1
      by_cases hv : wd w 0 = wVar
      · rw [if_pos hv] at h1
        split at h1
        · cases h1
          refine ord_app h (.inr (.inl hv)) (fun hi => ?_)
          have hi : (wd w 0 == wSecret || wd w 0 == wPublic) = true := hi
          rw [hv, isIn_not.2] at hi
          cases hi
        · cases h1
      · rw [if_neg hv] at h1
        by_cases hm : many ds wVar = 0 ∧ many ds wSecret + many ds wPublic < 3
        · rw [if_pos hm] at h1
          cases h1
          refine ord_app h (.inl ?_) (fun _ => many_zero hm.1)
          unfold isDecl at hd
          unfold isIn
          simp only [Bool.or_eq_true, beq_iff_eq] at hd ⊢
          rcases hd with ((hd | hd) | hd) | hd
          · exact .inl hd
          · exact .inr hd
          · exact absurd hd hv
          · exact absurd hd hk
        · rw [if_neg hm] at h1; cases h1
  · rw [if_neg hc] at h1; cases h1
theorem blk_ord {L : List Wd} {f : Nat} : ∀ {depth : Nat} {s : Rs} {out out2 : List Rf.Tr} {s2 : Rs}, blk L f depth s out = (true, out2, s2) → ord s.ds → ord s2.ds := by
  induction f with
  | zero => intro depth s out out2 s2 h p; rw [(blk_end h (.inl rfl)).2.2]; exact p
  | succ f ih =>
    intro depth s out out2 s2 h p
    by_cases hl : s.at_ + 1 < L.length
    · cases blk_way h hl with
      | decl ds h1 h2 h => exact ih h (ord_declare h1 p h2)
      | stop h1 h2 h3 h4 h5 => rw [h5]; exact p
      | one b sb h1 h2 h3 hb h4 h5 => exact ih h5 (show ord sb.ds from ih hb p)
      | two b o sb so h1 h2 h3 hb h4 h5 h6 h7 => exact ih h7 (show ord so.ds from ih h5 (show ord sb.ds from ih hb p))
      | plain h1 h2 h3 h4 h => exact ih h p
    · rw [(blk_end h (.inr hl)).2.2]; exact p
theorem ini_none : ∀ (ds : List Rf.Dc) (k : Nat) (ins : List Nat) (j : Nat), (∀ e, e ∈ ds → isIn e = false) → ini ds k ins j = 0
  | [], _, _, _, _ => rfl
  | d :: ds, k, ins, j, h => by
    unfold ini
    rw [if_neg (by rw [h d List.mem_cons_self]; simp)]
    by_cases hj : j = k
    · rw [if_pos hj]
    · rw [if_neg hj]
      exact ini_none ds (k + 1) ins j (fun e he => h e (List.mem_cons_of_mem _ he))
theorem filt_none {ds : List Rf.Dc} (h : ∀ e, e ∈ ds → isIn e = false) : (ds.filter isIn).length = 0 := by
  rw [List.length_eq_zero_iff, List.filter_eq_nil_iff]
  intro e he
  rw [h e he]; simp
theorem ini_fd (w : Wd) : ∀ (ds : List Rf.Dc) (s a k i : Nat) (ins : List Nat) (k0 : Nat), ord ds → ins.length = (ds.filter isIn).length → fd ds s a w = (1, k) → Rf.oneOf w (ds.map Rf.Dc.name) = some i → ini ds k0 ins (k0 + i) = ins.getD (k - s) 0
  | [], s, a, k, i, ins, k0, ho, hl, hf, hi => by cases hi
  | d :: ds, s, a, k, i, ins, k0, ho, hl, hf, hi => by
    have hi' : (if (d.name == w) = true then some 0 else (Rf.oneOf w (ds.map Rf.Dc.name)).map (· + 1)) = some i := hi
    unfold fd at hf
    unfold ini
    rw [List.filter_cons] at hl
    by_cases hn : d.name = w
    · rw [if_pos (by simpa using hn)] at hi'
      cases hi'
      rw [if_pos hn] at hf
      by_cases hk : d.kind = wArray
      · rw [if_pos hk] at hf; cases hf
      · rw [if_neg hk] at hf
        cases hf
        rw [Nat.sub_self]
        by_cases hin : isIn d = true
        · rw [if_pos hin, if_pos (Nat.add_zero k0)]
          cases ins <;> rfl
        · rw [if_neg hin] at hl ⊢
          rw [if_pos (Nat.add_zero k0)]
          have hv : d.kind = wVar := by
            rcases ho.2.1 with h | h | h
            · exact absurd h hin
            · exact h
            · exact absurd h hk
          rw [filt_none (ho.1 hv)] at hl
          rw [List.length_eq_zero_iff.1 hl]; rfl
    · rw [if_neg (by simpa using hn)] at hi'
      rw [if_neg hn] at hf
      cases hx : Rf.oneOf w (ds.map Rf.Dc.name) with
      | none => rw [hx] at hi'; cases hi'
      | some j =>
        rw [hx] at hi'
        have hij : j + 1 = i := by simpa using hi'
        subst hij
        have hne : ¬ k0 + (j + 1) = k0 := by omega
        have hsh : k0 + (j + 1) = k0 + 1 + j := by omega
        by_cases hk : d.kind = wArray
        · rw [if_pos hk] at hf
          have hin : ¬ isIn d = true := by
            intro h
            unfold isIn at h
            rw [hk] at h
            exact absurd h (by decide)
          rw [if_neg hin] at hl ⊢
          rw [if_neg hne, hsh]
          exact ini_fd w ds s (a + 1) k j ins (k0 + 1) ho.2.2 hl hf hx
        · rw [if_neg hk] at hf
          have hge : s + 1 ≤ k := by
            have := (fd_le ds (s + 1) a w).1 (by rw [hf])
            rw [hf] at this
            exact this
          by_cases hin : isIn d = true
          · rw [if_pos hin] at hl ⊢
            rw [if_neg hne, hsh]
            cases ins with
            | nil => simp at hl
            | cons x l =>
              rw [List.tail_cons, show k - s = (k - (s + 1)) + 1 by omega, List.getD_cons_succ]
              exact ini_fd w ds (s + 1) a k j l (k0 + 1) ho.2.2 (by simpa using hl) hf hx
          · rw [if_neg hin] at hl ⊢
            rw [if_neg hne, hsh]
            have hv : d.kind = wVar := by
              rcases ho.2.1 with h | h | h
              · exact absurd h hin
              · exact h
              · exact absurd h hk
            rw [ini_none ds (k0 + 1) ins _ (ho.1 hv)]
            rw [filt_none (ho.1 hv)] at hl
            rw [List.length_eq_zero_iff.1 hl]; rfl
theorem num_read {t : Wd} {ds : List Rf.Dc} {b : List Rf.Tr} (h : (Lk.read t).2 = 0) (hr : Rf.read t = (some (ds, b), 0)) (ins : List Nat) (hi : ins.length = (Lk.read t).1.secret.length) (n : Nat) : Mc.num (pgOf t) (Mc.ini ins) n = num ds (start ds b ins) n := by
  obtain ⟨hlay, nr⟩ := read_laid h hr
  have ho : ord ds := by
    obtain ⟨s, hb, rfl⟩ := ref_read hr
    exact blk_ord hb trivial
  have hlen : ins.length = (ds.filter isIn).length := by rw [hi, nr.sec, List.length_map]
  have nm : Nm ds (fd ds 0 0) (Lk.read t).1.cells := by
    rw [nr.cel]; exact nm_of ds nr.ss
  refine num_sim nm (Lk.read t).1.secret (B := (Lk.read t).1.body) (m := Mc.ini ins) (t := start ds b ins) ⟨⟨?_, ?_, rfl⟩, 0, (Lk.read t).1.body.length, ?_, ?_⟩ n
  · intro w k hw
    obtain ⟨i, e1, _, _⟩ := fd_one ds 0 0 w (by rw [hw]; simp)
    show ins.getD k 0 = ini ds 0 ins (idx ds w)
    have := ini_fd w ds 0 0 k i ins 0 ho hlen hw e1
    rw [Nat.zero_add] at this
    unfold idx
    rw [e1]
    exact this.symm
  · intro w k j hw hj; rfl
  · exact .inr (.inl ⟨rfl, hlay, rfl⟩)
  · show 0 = Lk.settle (Lk.read t).1.body 0
    unfold Lk.settle
    cases b with
    | nil =>
      have h0 := hlay.empty
      rw [List.length_eq_zero_iff.1 h0]
      rfl
    | cons x l =>
      rw [pass_stay _ _ hlay.head.2]
      rfl
end Go.Proofs.YtgddmpmcnjlcjaaGreatDoor.Tm
