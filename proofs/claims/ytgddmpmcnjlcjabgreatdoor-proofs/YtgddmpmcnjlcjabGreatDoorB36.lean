import Derived.Test.YtgddmpmcnjlcjabGreatDoorB31
import Derived.Test.YtgddmpmcnjlcjabGreatDoorB35
import Derived.Test.YtgddmpmcnjlcjabGreatDoorB32
namespace Go.Proofs.YtgddmpmcnjlcjabGreatDoor.Rf
open Go.Proofs.YtgddmpmcnjlcjabGreatDoor.Lk (Wd num? oper? cut wd isName)
theorem blk_shadow (L : List Wd) : ∀ (f d : Nat) (s : Rs) (out : List Tr), (blk L f d s out).1 = (blkS L f d s).1 ∧ (blk L f d s out).2.2 = (blkS L f d s).2
  | 0, d, s, out => ⟨rfl, rfl⟩
  | f + 1, d, s, out => by
    have ih := blk_shadow L f
    unfold blk blkS
    by_cases h1 : s.at_ + 1 < L.length
    · rw [if_pos h1, if_pos h1]
      dsimp only
      by_cases h2 : isDecl (wd (cut 32 (L.getD s.at_ [])) 0) = true
      · rw [if_pos h2, if_pos h2]
        cases declare s.ds s.bdy (cut 32 (L.getD s.at_ [])) with
        | none => exact ⟨rfl, rfl⟩
        | some ds => exact ih d _ out
      · rw [if_neg h2, if_neg h2]
        unfold stmtS
        by_cases h3 : wd (cut 32 (L.getD s.at_ [])) 0 = wElse ∨ wd (cut 32 (L.getD s.at_ [])) 0 = wEnd
        · rw [if_pos h3, if_pos h3]; exact ⟨rfl, rfl⟩
        · rw [if_neg h3, if_neg h3]
          by_cases h4 : s.cnt = 12
          · rw [if_pos h4, if_pos h4]; exact ⟨rfl, rfl⟩
          · rw [if_neg h4, if_neg h4]
            by_cases h5 : wd (cut 32 (L.getD s.at_ [])) 0 = wIf ∨ wd (cut 32 (L.getD s.at_ [])) 0 = wWhile
            · rw [if_pos h5, if_pos h5]
              unfold nestS
              by_cases h6 : (cut 32 (L.getD s.at_ [])).length = 2 ∧ d ≠ 4 ∧ atom s.ds (wd (cut 32 (L.getD s.at_ [])) 1) = true
              · rw [if_pos h6, if_pos h6]
                have p1 := ih (d + 1) { ds := s.ds, at_ := s.at_ + 1, cnt := s.cnt + 1, bdy := true } []
                dsimp only
                generalize blk L f (d + 1) { ds := s.ds, at_ := s.at_ + 1, cnt := s.cnt + 1, bdy := true } [] = o1 at p1 ⊢
                generalize blkS L f (d + 1) { ds := s.ds, at_ := s.at_ + 1, cnt := s.cnt + 1, bdy := true } = q1 at p1 ⊢
                obtain ⟨b1, t1, s2⟩ := o1
                obtain ⟨c1, s2'⟩ := q1
                obtain ⟨e1, e2⟩ := p1
                dsimp only at e1 e2
                subst e1 e2
                cases b1 with
                | false => exact ⟨rfl, rfl⟩
                | true =>
                  dsimp only
                  by_cases h7 : L.getD s2.at_ [] = wElse
                  · rw [if_pos h7, if_pos h7]
                    by_cases h8 : wd (cut 32 (L.getD s.at_ [])) 0 = wIf
                    · rw [if_pos h8, if_pos h8]
                      have p2 := ih (d + 1) { s2 with at_ := s2.at_ + 1 } []
                      generalize blk L f (d + 1) { s2 with at_ := s2.at_ + 1 } [] = o2 at p2 ⊢
                      generalize blkS L f (d + 1) { s2 with at_ := s2.at_ + 1 } = q2 at p2 ⊢
                      obtain ⟨b2, t2, s3⟩ := o2
                      obtain ⟨c2, s3'⟩ := q2
                      obtain ⟨e3, e4⟩ := p2
                      dsimp only at e3 e4
                      subst e3 e4
                      cases b2 with
                      | false => exact ⟨rfl, rfl⟩
                      | true =>
                        dsimp only
                        by_cases h9 : L.getD s3.at_ [] = wElse
                        · rw [if_pos h9, if_pos h9]; exact ⟨rfl, rfl⟩
                        · rw [if_neg h9, if_neg h9]; exact ih d _ _
                    · rw [if_neg h8, if_neg h8]; exact ⟨rfl, rfl⟩
                  · rw [if_neg h7, if_neg h7]; exact ih d _ _
              · rw [if_neg h6, if_neg h6]; exact ⟨rfl, rfl⟩
            · rw [if_neg h5, if_neg h5]
              by_cases h6 : fits s.ds (cut 32 (L.getD s.at_ [])) = true
              · rw [if_pos h6, if_pos h6]; exact ih d _ _
              · rw [if_neg h6, if_neg h6]; exact ⟨rfl, rfl⟩
    · rw [if_neg h1, if_neg h1]; exact ⟨rfl, rfl⟩
def bodyT (L : List Wd) (f d : Nat) (s : Rs) : List Tr := (blk L f (d + 1) { s with cnt := s.cnt + 1, at_ := s.at_ + 1 } []).2.1
def otherT (L : List Wd) (f d : Nat) (s : Rs) : List Tr :=
  if L.getD (blkS L f (d + 1) { s with cnt := s.cnt + 1, at_ := s.at_ + 1 }).2.at_ [] = wElse then
    (blk L f (d + 1) { (blkS L f (d + 1) { s with cnt := s.cnt + 1, at_ := s.at_ + 1 }).2 with at_ := (blkS L f (d + 1) { s with cnt := s.cnt + 1, at_ := s.at_ + 1 }).2.at_ + 1 } []).2.1 else []
theorem otherT_none {L : List Wd} {f d : Nat} {s s2 : Rs} {b : Bool} (h : blkS L f (d + 1) { s with cnt := s.cnt + 1, at_ := s.at_ + 1 } = (b, s2)) (he : ¬ L.getD s2.at_ [] = wElse) : otherT L f d s = [] := by
  unfold otherT; rw [h]; dsimp only; rw [if_neg he]
theorem otherT_some {L : List Wd} {f d : Nat} {s s2 : Rs} {b : Bool} (h : blkS L f (d + 1) { s with cnt := s.cnt + 1, at_ := s.at_ + 1 } = (b, s2)) (he : L.getD s2.at_ [] = wElse) : otherT L f d s = (blk L f (d + 1) { s2 with at_ := s2.at_ + 1 } []).2.1 := by
  unfold otherT; rw [h]; dsimp only; rw [if_pos he]
section
variable {L : List Wd} {f d : Nat} {s s' : Rs} {w : List Wd} {out : List Tr}
theorem blk_nest (h : s.at_ + 1 < L.length) (hw : cut 32 (L.getD s.at_ []) = w) (hd : isDecl (wd w 0) = false) (hne : ¬ (wd w 0 = wElse ∨ wd w 0 = wEnd)) (hc : s.cnt ≠ 12) (hi : wd w 0 = wIf ∨ wd w 0 = wWhile)
    (hn : nestS (blkS L f) L d { s with bdy := true } w = (true, s')) : blk L (f + 1) d s out = blk L f d s' (out ++ [.node w (bodyT L f d { s with bdy := true }) (otherT L f d { s with bdy := true })]) := by
  conv => lhs; unfold blk
  rw [if_pos h]
  dsimp only
  rw [hw, if_neg (by rw [hd]; simp), if_neg hne, if_neg hc, if_pos hi]
  unfold nestS at hn
  dsimp only at hn
  by_cases h6 : w.length = 2 ∧ d ≠ 4 ∧ atom s.ds (wd w 1) = true
  · rw [if_pos h6] at hn ⊢
    have p1 := blk_shadow L f (d + 1) { ds := s.ds, at_ := s.at_ + 1, cnt := s.cnt + 1, bdy := true } []
    unfold bodyT otherT
    dsimp only
    generalize blk L f (d + 1) { ds := s.ds, at_ := s.at_ + 1, cnt := s.cnt + 1, bdy := true } [] = o1 at p1 hn ⊢
    generalize blkS L f (d + 1) { ds := s.ds, at_ := s.at_ + 1, cnt := s.cnt + 1, bdy := true } = q1 at p1 hn ⊢
    obtain ⟨b1, t1, s2⟩ := o1
    obtain ⟨c1, s2'⟩ := q1
    obtain ⟨e1, e2⟩ := p1
    dsimp only at e1 e2
    subst e1 e2
    cases b1 with
    | false => cases hn
    | true =>
      dsimp only at hn ⊢
      by_cases h7 : L.getD s2.at_ [] = wElse
      · rw [if_pos h7] at hn
        rw [if_pos h7, if_pos h7]
        by_cases h8 : wd w 0 = wIf
        · rw [if_pos h8] at hn ⊢
          have p2 := blk_shadow L f (d + 1) { s2 with at_ := s2.at_ + 1 } []
          generalize blk L f (d + 1) { s2 with at_ := s2.at_ + 1 } [] = o2 at p2 ⊢
          generalize blkS L f (d + 1) { s2 with at_ := s2.at_ + 1 } = q2 at p2 hn ⊢
          obtain ⟨b2, t2, s3⟩ := o2
          obtain ⟨c2, s3'⟩ := q2
          obtain ⟨e3, e4⟩ := p2
          dsimp only at e3 e4
          subst e3 e4
          cases b2 with
          | false => cases hn
          | true =>
            dsimp only at hn ⊢
            by_cases h9 : L.getD s3.at_ [] = wElse
            · rw [if_pos h9] at hn; cases hn
            · rw [if_neg h9] at hn ⊢
              rw [← (Prod.mk.inj hn).2]
        · rw [if_neg h8] at hn; cases hn
      · rw [if_neg h7] at hn
        rw [if_neg h7, if_neg h7, ← (Prod.mk.inj hn).2]
  · rw [if_neg h6] at hn; cases hn
theorem blk_fit (h : s.at_ + 1 < L.length) (hw : cut 32 (L.getD s.at_ []) = w) (hd : isDecl (wd w 0) = false) (hne : ¬ (wd w 0 = wElse ∨ wd w 0 = wEnd)) (hc : s.cnt ≠ 12) (hi : ¬ (wd w 0 = wIf ∨ wd w 0 = wWhile)) (hn : fits s.ds w = true) :
    blk L (f + 1) d s out = blk L f d { s with bdy := true, cnt := s.cnt + 1, at_ := s.at_ + 1 } (out ++ [.node w [] []]) := by
  conv => lhs; unfold blk
  rw [if_pos h]
  dsimp only
  rw [hw, if_neg (by rw [hd]; simp), if_neg hne, if_neg hc, if_neg hi, if_pos hn]
theorem blk_decl (h : s.at_ + 1 < L.length) (hw : cut 32 (L.getD s.at_ []) = w) (hd : isDecl (wd w 0) = true) {ds : List Dc} (hn : declare s.ds s.bdy w = some ds) :
    blk L (f + 1) d s out = blk L f d { s with ds := ds, at_ := s.at_ + 1 } out := by
  conv => lhs; unfold blk
  rw [if_pos h]
  dsimp only
  rw [hw, if_pos hd, hn]
theorem blk_here (h : s.at_ + 1 < L.length) (hw : cut 32 (L.getD s.at_ []) = w) (hd : isDecl (wd w 0) = false) (hne : wd w 0 = wElse ∨ wd w 0 = wEnd) : (blk L (f + 1) d s out).2.1 = out := by
  unfold blk
  rw [if_pos h]
  dsimp only
  rw [hw, if_neg (by rw [hd]; simp), if_pos hne]
theorem blk_last (h : ¬ s.at_ + 1 < L.length) : (blk L f d s out).2.1 = out := by
  cases f with
  | zero => rfl
  | succ f => unfold blk; rw [if_neg h]
end
end Go.Proofs.YtgddmpmcnjlcjabGreatDoor.Rf
namespace Go.Proofs.YtgddmpmcnjlcjabGreatDoor
open Go.RowKit
set_option linter.unusedVariables false
structure FRep (w : World) (base P R : Nat) (l : List DB) (f : Nat → Value) (L : List ByteArray) (gl : Nat) (vn vk vz vb : Value) : Prop where
  prog : PRep w base P l vn vk vz vb
  row : w.rowIs R 91 5 f
  lin : Wds w gl L
  llt : gl < w.heap.size
  rP : R ≠ P
  rn : vn.ownBlock ≠ some R
  rk : vk.ownBlock ≠ some R
  rz : vz.ownBlock ≠ some R
  lR : gl ≠ R
  lP : gl ≠ P
  ln : vn.ownBlock ≠ some gl
  lk : vk.ownBlock ≠ some gl
  lz : vz.ownBlock ≠ some gl
def Stand (P R gl : Nat) (vn vk vz : Value) (k : Nat) : Prop := k = R ∨ k = P ∨ k = gl ∨ vn.ownBlock = some k ∨ vk.ownBlock = some k ∨ vz.ownBlock = some k
namespace FRep
variable {w : World} {base P R : Nat} {l : List DB} {f : Nat → Value} {L : List ByteArray} {gl : Nat} {vn vk vz vb : Value}
theorem stand_lt (h : FRep w base P R l f L gl vn vk vz vb) {k : Nat} (hk : Stand P R gl vn vk vz k) : k < w.heap.size := by
  rcases hk with rfl | rfl | rfl | e | e | e
  · exact h.row.lt
  · exact h.prog.lt
  · exact h.llt
  · exact (h.prog.nm.lt _ e).2
  · exact (h.prog.kd.lt _ e).2
  · exact (h.prog.sz.lt _ e).2
theorem same {w' : World} (h : FRep w base P R l f L gl vn vk vz vb) (hb : ∀ k, Stand P R gl vn vk vz k → w'.heap[k]? = w.heap[k]?) (hs : w.heap.size ≤ w'.heap.size) : FRep w' base P R l f L gl vn vk vz vb :=
  ⟨⟨h.prog.row.of_block (hb P (.inr (.inl rfl))), h.prog.ge, ownsRow_blk h.prog.nm (fun k e => hb k (.inr (.inr (.inr (.inl e))))), ownsRow_blk h.prog.kd (fun k e => hb k (.inr (.inr (.inr (.inr (.inl e)))))), ownsRow_blk h.prog.sz (fun k e => hb k (.inr (.inr (.inr (.inr (.inr e)))))), h.prog.np, h.prog.kp, h.prog.zp, h.prog.nk, h.prog.nz, h.prog.kz⟩,
    h.row.of_block (hb R (.inl rfl)), fun i hi => (World.cell?_of_block (hb gl (.inr (.inr (.inl rfl))))).trans (h.lin i hi), Nat.lt_of_lt_of_le h.llt hs, h.rP, h.rn, h.rk, h.rz, h.lR, h.lP, h.ln, h.lk, h.lz⟩
theorem below {w' : World} (h : FRep w base P R l f L gl vn vk vz vb) (hb : Below w.heap.size w w') : FRep w' base P R l f L gl vn vk vz vb := h.same (fun k hk => hb.block k (h.stand_lt hk)) hb.size
theorem alloc (h : FRep w base P R l f L gl vn vk vz vb) (o : Obj) : FRep (w.alloc o) base P R l f L gl vn vk vz vb := h.below ((Below.refl _ _).alloc (Nat.le_refl _) o)
theorem drew (h : FRep w base P R l f L gl vn vk vz vb) : FRep w.drew base P R l f L gl vn vk vz vb := h.same (fun _ _ => rfl) (Nat.le_refl _)
theorem drewN (h : FRep w base P R l f L gl vn vk vz vb) (n : Nat) : FRep (w.drewN n) base P R l f L gl vn vk vz vb := h.same (fun _ _ => rfl) (Nat.le_refl _)
theorem congr {f' : Nat → Value} (h : FRep w base P R l f L gl vn vk vz vb) (e : ∀ i, i < 5 → f i = f' i) : FRep w base P R l f' L gl vn vk vz vb :=
  ⟨h.prog, h.row.congr e, h.lin, h.llt, h.rP, h.rn, h.rk, h.rz, h.lR, h.lP, h.ln, h.lk, h.lz⟩
theorem setOther {b i : Nat} (h : FRep w base P R l f L gl vn vk vz vb) (hb : ¬ Stand P R gl vn vk vz b) (u : Value) : FRep (w.setCell ⟨b, i, none⟩ u) base P R l f L gl vn vk vz vb :=
  h.same (fun k hk => Below.heap_setCell w ⟨b, i, none⟩ u k (fun e => hb (by rw [← show k = b from e]; exact hk))) (by simp)
theorem put (h : FRep w base P R l f L gl vn vk vz vb) (i : Nat) (x : Value) : FRep (w.setCell ⟨R, i, none⟩ x) base P R l (fun j => if j = i then x else f j) L gl vn vk vz vb := by
  have hs : ∀ k, k ≠ R → (w.setCell ⟨R, i, none⟩ x).heap[k]? = w.heap[k]? := fun k hk => Below.heap_setCell w ⟨R, i, none⟩ x k hk
  exact ⟨⟨h.prog.row.of_block (hs P h.rP.symm), h.prog.ge, ownsRow_setCell h.prog.nm h.rn x, ownsRow_setCell h.prog.kd h.rk x, ownsRow_setCell h.prog.sz h.rz x, h.prog.np, h.prog.kp, h.prog.zp, h.prog.nk, h.prog.nz, h.prog.kz⟩,
    h.row.set i x, fun j hj => (World.cell?_of_block (hs gl h.lR)).trans (h.lin j hj), by simpa using h.llt, h.rP, h.rn, h.rk, h.rz, h.lR, h.lP, h.ln, h.lk, h.lz⟩
end FRep
abbrev fst_ (P gl cl n : Nat) (s : Rf.Rs) : Nat → Value := fcell P (.slice (some ⟨gl, 0, none⟩) n cl) s
def scell (gw n cw : Nat) (v o : Value) (i : Nat) : Value := if i = 0 then .slice (some ⟨gw, 0, none⟩) n cw else if i = 1 then v else o
def ptrB (b : Nat) : Value := .pointer (some ⟨b, 0, none⟩)
def NewB (w w' : World) (k : Nat) : Prop := w.heap.size ≤ k ∧ k < w'.heap.size
def SlAt (w : World) (A : Nat → Prop) (v : Value) (bs : List Nat) : Prop :=
  ∃ ad c, v = .slice ad bs.length c ∧ (0 < bs.length → ∃ g, ad = some ⟨g, 0, none⟩ ∧ A g ∧ ∀ i, i < bs.length → w.cell? ⟨g, i, none⟩ = some (ptrB (bs.getD i 0)))
inductive TsAt (w : World) (A : Nat → Prop) : List Nat → List Rf.Tr → Prop
  | nil : TsAt w A [] []
  | cons {sb gw cw : Nat} {ws : List ByteArray} {vb vo : Value} {bs os : List Nat} {body other : List Rf.Tr} {rs : List Nat} {rest : List Rf.Tr}
      (hA : A sb) (hrow : w.rowIs sb 145 3 (scell gw ws.length cw vb vo)) (hg : A gw) (hW : Wds w gw ws) (h0 : 0 < ws.length)
      (hb : SlAt w A vb bs) (tb : TsAt w A bs body) (ho : SlAt w A vo os) (to_ : TsAt w A os other) (tr : TsAt w A rs rest) :
      TsAt w A (sb :: rs) (.node (ws.map ByteArray.toList) body other :: rest)
section
variable {w w' a b : World} {A A' : Nat → Prop} {v : Value} {bs cs : List Nat} {ts us : List Rf.Tr}
theorem SlAt.move (h : SlAt a A v bs) (hk : ∀ k, A k → b.heap[k]? = a.heap[k]? ∧ A' k) : SlAt b A' v bs := by
  obtain ⟨ad, c, hv, hc⟩ := h
  refine ⟨ad, c, hv, fun h0 => ?_⟩
  obtain ⟨g, hg, hA, hi⟩ := hc h0
  exact ⟨g, hg, (hk g hA).2, fun i h => (World.cell?_of_block (hk g hA).1).trans (hi i h)⟩
theorem SlAt.nil : SlAt w A (.slice none 0 0) [] := ⟨none, 0, rfl, fun h => absurd h (by simp)⟩
theorem TsAt.move (h : TsAt a A bs ts) (hk : ∀ k, A k → b.heap[k]? = a.heap[k]? ∧ A' k) : TsAt b A' bs ts := by
  induction h with
  | nil => exact .nil
  | cons hA hrow hg hW h0 hb tb ho to_ tr ih1 ih2 ih3 =>
    exact .cons (hk _ hA).2 (hrow.of_block (hk _ hA).1) (hk _ hg).2 (fun i hi => (World.cell?_of_block (hk _ hg).1).trans (hW i hi)) h0 (hb.move hk) ih1 (ho.move hk) ih2 ih3
theorem TsAt.append (h : TsAt w A bs ts) (h2 : TsAt w A cs us) : TsAt w A (bs ++ cs) (ts ++ us) := by
  induction h with
  | nil => exact h2
  | cons hA hrow hg hW h0 hb tb ho to_ tr ih1 ih2 ih3 => exact .cons hA hrow hg hW h0 hb tb ho to_ ih3
theorem TsAt.len (h : TsAt w A bs ts) : bs.length = ts.length := by
  induction h with
  | nil => rfl
  | cons hA hrow hg hW h0 hb tb ho to_ tr ih1 ih2 ih3 => simp [ih3]
def Sub (w : World) (A : Nat → Prop) (v : Value) (ts : List Rf.Tr) : Prop := ∃ bs, SlAt w A v bs ∧ TsAt w A bs ts
theorem Sub.move (h : Sub a A v ts) (hk : ∀ k, A k → b.heap[k]? = a.heap[k]? ∧ A' k) : Sub b A' v ts := by
  obtain ⟨bs, h1, h2⟩ := h
  exact ⟨bs, h1.move hk, h2.move hk⟩
theorem Sub.nil : Sub w A (.slice none 0 0) [] := ⟨[], .nil, .nil⟩
theorem Sub.low (h : Sub a (NewB w' a) v ts) (hw : w.heap.size ≤ w'.heap.size) : Sub a (NewB w a) v ts := h.move (fun k hk => ⟨rfl, Nat.le_trans hw hk.1, hk.2⟩)
theorem Sub.frm {R : Nat} (h : Sub a (NewB w a) v ts) (fr : Frm 0 (fun k => k = R) a b) (hR : R < w.heap.size) : Sub b (NewB w b) v ts :=
  h.move (fun k hk => ⟨fr.keep k hk.2 (fun e => by have := hk.1; omega), hk.1, Nat.lt_of_lt_of_le hk.2 fr.bel.size⟩)
theorem Sub.set {k i : Nat} (h : Sub a (NewB w a) v ts) (hR : k < w.heap.size) (u : Value) : Sub (a.setCell ⟨k, i, none⟩ u) (NewB w (a.setCell ⟨k, i, none⟩ u)) v ts :=
  h.move (fun j hj => ⟨Below.heap_setCell a ⟨k, i, none⟩ u j (fun e => by have h1 : j = k := e; have := hj.1; omega), hj.1, by simpa using hj.2⟩)
theorem Sub.drewN (h : Sub a (NewB w a) v ts) (n : Nat) : Sub (a.drewN n) (NewB w (a.drewN n)) v ts := h.move (fun k hk => ⟨rfl, hk⟩)
end
def BlockOk (L : List ByteArray) (gl cl d : Nat) : Prop :=
  ∀ (f : Nat) (w : World) (base P R : Nat) (l : List DB) (s : Rf.Rs) (vn vk vz vb : Value), FRep w base P R l (fst_ P gl cl L.length s) L gl vn vk vz vb → s.ds = dcs l → s.bdy = true → L.length ≤ s.at_ + 1 + f → s.at_ < L.length → s.cnt ≤ 12 → l.length ≤ 1000 → L.length ≤ 1000 →
    Calls Tryz.prog 32 #[.pointer (some ⟨R, 0, none⟩), .int .i64 d] w fun e w' =>
      ∃ ad n c, e = .returned (.tuple #[.slice ad n c, .bool (Rf.blkS (L.map ByteArray.toList) f d s).1]) ∧ FRep w' base P R l (fst_ P gl cl L.length (Rf.blkS (L.map ByteArray.toList) f d s).2) L gl vn vk vz vb ∧ Frm 0 (fun k => k = R) w w' ∧
        ((Rf.blkS (L.map ByteArray.toList) f d s).1 = true → Sub w' (NewB w w') (.slice ad n c) (Rf.blk (L.map ByteArray.toList) f d s []).2.1)
end Go.Proofs.YtgddmpmcnjlcjabGreatDoor
