import Derived.Test.YtfnmglfbcpdlnaaD8c
namespace Go.Proofs.Ytfnmglfbcpdlnaa
open Go.RowKit
set_option linter.unusedVariables false

theorem Try.infoPt : (Try.prog.info? 103).map (fun i => (i.zero, i.size, i.bytes)) = some (some (.pointer none), 1, 8) := by kernel_rfl

def dcB : List ByteArray := [⟨#[115, 101, 99, 114, 101, 116]⟩, ⟨#[112, 117, 98, 108, 105, 99]⟩, ⟨#[118, 97, 114]⟩, ⟨#[97, 114, 114, 97, 121]⟩]
def dcC : Array Value := #[.string ⟨#[115, 101, 99, 114, 101, 116]⟩, .string ⟨#[112, 117, 98, 108, 105, 99]⟩, .string ⟨#[118, 97, 114]⟩, .string ⟨#[97, 114, 114, 97, 121]⟩]
theorem dcC_at : ∀ i, i < 4 → dcC[i]? = some (.string (dcB.getD i ByteArray.empty))
  | 0, _ => rfl
  | 1, _ => rfl
  | 2, _ => rfl
  | 3, _ => rfl
  | n + 4, h => absurd h (by omega)
theorem dcB_wds (w : World) : Wds (w.alloc (.cells dcC 9)) w.heap.size dcB := fun i hi => newAt w dcC 9 i _ (dcC_at i hi)
theorem dcB_list : dcB.map ByteArray.toList = [Rf.wSecret, Rf.wPublic, Rf.wVar, Rf.wArray] := by
  simp [dcB, Rf.wSecret, Rf.wPublic, Rf.wVar, Rf.wArray, ByteArray.toList_eq]
theorem isDecl_oneOf (q : Lk.Wd) : Rf.isDecl q = (Rf.oneOf q (dcB.map ByteArray.toList)).isSome := by
  rw [dcB_list]
  unfold Rf.isDecl
  simp only [Rf.oneOf]
  rw [Bool.beq_comm (a := q), Bool.beq_comm (a := q) (b := Rf.wPublic), Bool.beq_comm (a := q) (b := Rf.wVar), Bool.beq_comm (a := q) (b := Rf.wArray)]
  cases (Rf.wSecret == q) <;> cases (Rf.wPublic == q) <;> cases (Rf.wVar == q) <;> cases (Rf.wArray == q) <;> rfl
theorem decls_of (q : ByteArray) (w : World) (z : Int) (h : Lk.intO (Rf.oneOf q.toList (dcB.map ByteArray.toList)) = z) :
    Calls Try.prog 59 #[.string q, .slice (some ⟨w.heap.size, 0, none⟩) 4 4] (w.alloc (.cells dcC 9)) fun e w' => e = .returned (.int .i64 z) ∧ Below w.heap.size w w' := by
  refine (oneOf_pos dcB w.heap.size 4 q _ (dcB_wds w) (by decide)).mono ?_
  intro e w' hh
  obtain ⟨h1, h2⟩ := hh
  refine ⟨by rw [h1, h], ?_⟩
  rw [h2]
  exact (Below.refl _ _).alloc (Nat.le_refl _) _
theorem wds_own {w : World} {base g cap : Nat} {ws : List ByteArray} (h : w.ownsRow base 9 1 (.slice (some ⟨g, 0, none⟩) ws.length cap) ws.length (ws.map Value.string)) : Wds w g ws := by
  intro i hi
  rw [h.cellAt i (by omega)]
  simp [hi]
theorem len_cut {ws : List ByteArray} {c : UInt8} {l : Lk.Wd} (h : ws.map ByteArray.toList = Lk.cut c l) : 0 < ws.length := by
  have := Lk.cut_ne c l
  rw [← h] at this
  cases ws with
  | nil => simp at this
  | cons x xs => simp
theorem wds_alloc {w : World} {g : Nat} {ws : List ByteArray} (h : Wds w g ws) (o : Obj) : Wds (w.alloc o) g ws := fun i hi => cell_alloc (h i hi) o
theorem wds_set {w : World} {g : Nat} {ws : List ByteArray} (h : Wds w g ws) {b i : Nat} (hb : g ≠ b) (u : Value) : Wds (w.setCell ⟨b, i, none⟩ u) g ws := fun j hj => (World.cell?_of_block (Below.heap_setCell w ⟨b, i, none⟩ u g hb)).trans (h j hj)

theorem fst_body (P gl cl n : Nat) (s : Rf.Rs) (i : Nat) (hi : i < 5) : (if i = 4 then Value.bool true else fst_ P gl cl n s i) = fst_ P gl cl n { s with bdy := true } i := by
  match i, hi with
  | 0, _ => rfl
  | 1, _ => rfl
  | 2, _ => rfl
  | 3, _ => rfl
  | 4, _ => rfl
  | n + 5, h => omega
theorem fst_cnt (P gl cl n : Nat) (s : Rf.Rs) (i : Nat) (hi : i < 5) : (if i = 3 then Value.int .i64 ((s.cnt : Int) + 1) else fst_ P gl cl n s i) = fst_ P gl cl n { s with cnt := s.cnt + 1 } i := by
  match i, hi with
  | 0, _ => rfl
  | 1, _ => rfl
  | 2, _ => rfl
  | 3, _ => rfl
  | 4, _ => rfl
  | n + 5, h => omega

theorem blk_none {L : List Lk.Wd} {f d : Nat} {s : Rf.Rs} {w : List Lk.Wd} (h : s.at_ + 1 < L.length) (hw : Lk.cut 32 (L.getD s.at_ []) = w) (hd : Rf.isDecl (Lk.wd w 0) = true) (hn : Rf.declare s.ds s.bdy w = none) : Rf.blkS L (f + 1) d s = (false, s) := by
  conv => lhs; unfold Rf.blkS
  rw [if_pos h, hw, if_pos hd, hn]
theorem blk_some {L : List Lk.Wd} {f d : Nat} {s : Rf.Rs} {w : List Lk.Wd} {ds : List Rf.Dc} (h : s.at_ + 1 < L.length) (hw : Lk.cut 32 (L.getD s.at_ []) = w) (hd : Rf.isDecl (Lk.wd w 0) = true) (hn : Rf.declare s.ds s.bdy w = some ds) : Rf.blkS L (f + 1) d s = Rf.blkS L f d { s with ds := ds, at_ := s.at_ + 1 } := by
  conv => lhs; unfold Rf.blkS
  rw [if_pos h, hw, if_pos hd, hn]
theorem blk_stmt {L : List Lk.Wd} {f d : Nat} {s : Rf.Rs} {w : List Lk.Wd} (h : s.at_ + 1 < L.length) (hw : Lk.cut 32 (L.getD s.at_ []) = w) (hd : Rf.isDecl (Lk.wd w 0) = false) : Rf.blkS L (f + 1) d s = Rf.stmtS (Rf.blkS L f) L d { s with bdy := true } w := by
  conv => lhs; unfold Rf.blkS
  rw [if_pos h, hw, if_neg (by rw [hd]; simp)]

theorem FRep.baseLe {w : World} {base P R : Nat} {l : List DB} {f : Nat → Value} {L : List ByteArray} {gl : Nat} {vn vk vz vb : Value} (h : FRep w base P R l f L gl vn vk vz vb) : base ≤ w.heap.size := h.prog.baseLe
theorem FRep.declared {w w' : World} {base P R : Nat} {l l' : List DB} {f : Nat → Value} {L : List ByteArray} {gl : Nat} {vn vk vz vb vn' vk' vz' : Value} (F : FRep w base P R l f L gl vn vk vz vb) (hp : PRep w' base P l' vn' vk' vz' vb) (n1 : Nw w vn vn') (n2 : Nw w vk vk') (n3 : Nw w vz vz')
    (fr : Frm base (fun k => k = P ∨ vn.ownBlock = some k ∨ vk.ownBlock = some k ∨ vz.ownBlock = some k) w w') : FRep w' base P R l' f L gl vn' vk' vz' vb := by
  have hR : w'.heap[R]? = w.heap[R]? := fr.keep R F.row.lt (fun e => by
    rcases e with e | e | e | e
    · exact F.rP e
    · exact F.rn e
    · exact F.rk e
    · exact F.rz e)
  have hG : w'.heap[gl]? = w.heap[gl]? := fr.keep gl F.llt (fun e => by
    rcases e with e | e | e | e
    · exact F.lP e
    · exact F.ln e
    · exact F.lk e
    · exact F.lz e)
  have lR := F.row.lt
  have lG := F.llt
  refine ⟨hp, F.row.of_block hR, fun i hi => (World.cell?_of_block hG).trans (F.lin i hi), Nat.lt_of_lt_of_le F.llt fr.bel.size, F.rP, ?_, ?_, ?_, F.lR, F.lP, ?_, ?_, ?_⟩
  · intro e; rcases n1 R e with h | h
    · exact F.rn h
    · omega
  · intro e; rcases n2 R e with h | h
    · exact F.rk h
    · omega
  · intro e; rcases n3 R e with h | h
    · exact F.rz h
    · omega
  · intro e; rcases n1 gl e with h | h
    · exact F.ln h
    · omega
  · intro e; rcases n2 gl e with h | h
    · exact F.lk h
    · omega
  · intro e; rcases n3 gl e with h | h
    · exact F.lz h
    · omega

/-- What is so at the head of each round of 'block'. -/
structure BRel (w : World) (base P R gl cl : Nat) (L : List ByteArray) (d f0 : Nat) (s0 : Rf.Rs) (l0 : List DB) (vn0 vk0 vz0 vb : Value) (k : Nat) (v : Value) (wr : World) (s : Rf.Rs) (l : List DB) (vn vk vz : Value) (n : Nat) (xs : List Value) : Prop where
  rep : FRep wr base P R l (fst_ P gl cl L.length s) L gl vn vk vz vb
  ds : s.ds = dcs l
  lt : s.at_ < L.length
  cnt : s.cnt ≤ 12
  fuel : L.length ≤ s.at_ + 1 + k
  ge : s0.at_ ≤ s.at_
  len : l.length ≤ l0.length + (s.at_ - s0.at_)
  same : s0.bdy = true → s.bdy = true ∧ l = l0 ∧ vn = vn0 ∧ vk = vk0 ∧ vz = vz0 ∧ Frm 0 (fun k => k = R) w wr
  bel : Below base w wr
  low : base ≤ w.heap.size
  own : wr.ownsRow w.heap.size 103 1 v n xs
  num : n ≤ s.at_
  apart : ∀ k, v.ownBlock = some k → ¬ Stand P R gl vn vk vz k
  eq : Rf.blkS (L.map ByteArray.toList) k d s = Rf.blkS (L.map ByteArray.toList) f0 d s0

/-- What 'block' leaves. -/
def BPost (w w' : World) (base P R gl cl : Nat) (L : List ByteArray) (s0 : Rf.Rs) (l0 : List DB) (vn0 vk0 vz0 vb : Value) (e : Ending) (o : Bool × Rf.Rs) : Prop :=
  ∃ ad n c l vn vk vz, e = .returned (.tuple #[.slice ad n c, .bool o.1]) ∧ FRep w' base P R l (fst_ P gl cl L.length o.2) L gl vn vk vz vb ∧ o.2.ds = dcs l ∧ Below base w w' ∧
    (s0.bdy = true → l = l0 ∧ vn = vn0 ∧ vk = vk0 ∧ vz = vz0 ∧ Frm 0 (fun k => k = R) w w')

section
variable {w wr w' : World} {base P R gl cl : Nat} {L : List ByteArray} {d f0 : Nat} {s0 s s' : Rf.Rs} {l0 l : List DB} {vn0 vk0 vz0 vb vn vk vz v : Value} {k k' n : Nat} {xs : List Value}

theorem brel_len (b : BRel w base P R gl cl L d f0 s0 l0 vn0 vk0 vz0 vb k v wr s l vn vk vz n xs) (h : (s0.bdy = true ∧ l0.length ≤ 1000) ∨ l0.length + L.length ≤ 1000) : l.length ≤ 1000 := by
  rcases h with ⟨h1, h2⟩ | h
  · rw [(b.same h1).2.1]; exact h2
  · have := b.len; have := b.lt; omega

theorem frm_same (b : BRel w base P R gl cl L d f0 s0 l0 vn0 vk0 vz0 vb k v wr s l vn vk vz n xs) (fr : Frm base (fun k => k = R ∨ w.heap.size ≤ k) wr w') (h0 : s0.bdy = true) : Frm 0 (fun k => k = R) w w' :=
  (b.same h0).2.2.2.2.2.trans fr.down (fun j hj e => by
    rcases e with e | e
    · exact e
    · omega)

theorem bpost_of (b : BRel w base P R gl cl L d f0 s0 l0 vn0 vk0 vz0 vb k v wr s l vn vk vz n xs) {O o : Bool × Rf.Rs} (hO : Rf.blkS (L.map ByteArray.toList) f0 d s0 = O) (hk : Rf.blkS (L.map ByteArray.toList) k d s = o) (F : FRep w' base P R l (fst_ P gl cl L.length o.2) L gl vn vk vz vb) (hds : o.2.ds = dcs l)
    (fr : Frm base (fun k => k = R ∨ w.heap.size ≤ k) wr w') {e : Ending} (ad : Option Addr) (m c : Nat) (he : e = .returned (.tuple #[.slice ad m c, .bool o.1])) : BPost w w' base P R gl cl L s0 l0 vn0 vk0 vz0 vb e O := by
  have ho : o = O := by rw [← hO, ← b.eq, hk]
  subst ho
  exact ⟨ad, m, c, l, vn, vk, vz, he, F, hds, b.bel.trans fr.bel, fun h0 => ⟨(b.same h0).2.1, (b.same h0).2.2.1, (b.same h0).2.2.2.1, (b.same h0).2.2.2.2.1, frm_same b fr h0⟩⟩

theorem own_keep (b : BRel w base P R gl cl L d f0 s0 l0 vn0 vk0 vz0 vb k v wr s l vn vk vz n xs) {S : Nat → Prop} (fr : Frm 0 S wr w') (hS : ∀ k, k < wr.heap.size → S k → Stand P R gl vn vk vz k) : w'.ownsRow w.heap.size 103 1 v n xs :=
  ownsRow_blk b.own (fun k e => fr.keep k (b.own.lt k e).2 (fun hs => b.apart k e (hS k (b.own.lt k e).2 hs)))

/-- The next round, behind a declaration. -/
theorem brel_decl (b : BRel w base P R gl cl L d f0 s0 l0 vn0 vk0 vz0 vb k v wr s l vn vk vz n xs) {l' : List DB} {vn' vk' vz' : Value} {X : World} (hX : Below wr.heap.size wr X) (hk : Rf.blkS (L.map ByteArray.toList) k' d { s with ds := dcs l', at_ := s.at_ + 1 } = Rf.blkS (L.map ByteArray.toList) k d s)
    (hbd : s.bdy = false) (hat : s.at_ + 1 < L.length) (hfu : L.length ≤ s.at_ + 1 + 1 + k') (hl : l'.length = l.length + 1) (F : FRep w' base P R l' (fst_ P gl cl L.length { s with ds := dcs l', at_ := s.at_ + 1 }) L gl vn' vk' vz' vb) (n1 : Nw X vn vn') (n2 : Nw X vk vk') (n3 : Nw X vz vz')
    (fr : Frm base (fun k => k = R ∨ k = P ∨ vn.ownBlock = some k ∨ vk.ownBlock = some k ∨ vz.ownBlock = some k) X w') :
    BRel w base P R gl cl L d f0 s0 l0 vn0 vk0 vz0 vb k' v w' { s with ds := dcs l', at_ := s.at_ + 1 } l' vn' vk' vz' n xs := by
  have hfr : Frm base (fun k => k = R ∨ k = P ∨ vn.ownBlock = some k ∨ vk.ownBlock = some k ∨ vz.ownBlock = some k) wr w' := (Frm.ofBelow hX b.rep.baseLe).trans fr (fun j hj e => e)
  refine ⟨F, rfl, hat, b.cnt, hfu, Nat.le_succ_of_le b.ge, ?_, fun h0 => ?_, b.bel.trans hfr.bel, b.low, ?_, Nat.le_succ_of_le b.num, ?_, hk.trans b.eq⟩
  · have h1 := b.len
    have h2 := b.ge
    show l'.length ≤ l0.length + (s.at_ + 1 - s0.at_)
    omega
  · have := (b.same h0).1
    rw [hbd] at this
    cases this
  · refine own_keep b hfr.down (fun k hk hs => ?_)
    rcases hs with e | e | e | e | e
    · exact .inl e
    · exact .inr (.inl e)
    · exact .inr (.inr (.inr (.inl e)))
    · exact .inr (.inr (.inr (.inr (.inl e))))
    · exact .inr (.inr (.inr (.inr (.inr e))))
  · intro k e hs
    have lt := (b.own.lt k e).2
    have sz := hX.size
    have ap := b.apart k e
    rcases hs with h | h | h | h | h | h
    · exact ap (.inl h)
    · exact ap (.inr (.inl h))
    · exact ap (.inr (.inr (.inl h)))
    · rcases n1 k h with h | h
      · exact ap (.inr (.inr (.inr (.inl h))))
      · omega
    · rcases n2 k h with h | h
      · exact ap (.inr (.inr (.inr (.inr (.inl h)))))
      · omega
    · rcases n3 k h with h | h
      · exact ap (.inr (.inr (.inr (.inr (.inr h)))))
      · omega

/-- The next round, behind a statement: it is put to the list. -/
theorem brel_push (b : BRel w base P R gl cl L d f0 s0 l0 vn0 vk0 vz0 vb k v wr s l vn vk vz n xs) {X : World} {o : Obj} {g1 m1 p1 : Nat} {ys : List Value} (hk : Rf.blkS (L.map ByteArray.toList) k' d s' = Rf.blkS (L.map ByteArray.toList) k d s) (hds : s'.ds = dcs l)
    (hlt : s'.at_ < L.length) (hct : s'.cnt ≤ 12) (hfu : L.length ≤ s'.at_ + 1 + k') (hge : s.at_ + 1 ≤ s'.at_) (hbd : s'.bdy = true) (F : FRep X base P R l (fst_ P gl cl L.length s') L gl vn vk vz vb) (fr : Frm base (fun k => k = R) wr X)
    (hown1 : w'.ownsRow w.heap.size 103 1 (.slice (some ⟨g1, 0, none⟩) m1 p1) (n + 1) ys) (hg : (X.alloc o).grownBy w' v.ownBlock) (hat : v.ownBlock = some g1 ∨ g1 = X.heap.size + 1) :
    BRel w base P R gl cl L d f0 s0 l0 vn0 vk0 vz0 vb k' (.slice (some ⟨g1, 0, none⟩) m1 p1) w' s' l vn vk vz (n + 1) ys := by
  have hsz : (X.alloc o).heap.size = X.heap.size + 1 := by simp
  have hfr : Frm base (fun k => k = R ∨ w.heap.size ≤ k) wr w' := by
    refine Frm.grown (Frm.alloc (fr.imp (fun k hk e => .inl e)) F.baseLe o) hg (by rw [hsz]; exact Nat.le_succ_of_le F.baseLe) (fun k e => ⟨?_, .inr (b.own.lt k e).1⟩)
    have h1 := (b.own.lt k e).1
    have h2 := b.low
    omega
  refine ⟨F.same (fun k hk => ?_) (by have := hg.size; omega), hds, hlt, hct, hfu, by have := b.ge; omega, ?_, fun h0 => ⟨hbd, (b.same h0).2.1, (b.same h0).2.2.1, (b.same h0).2.2.2.1, (b.same h0).2.2.2.2.1, frm_same b hfr h0⟩, b.bel.trans hfr.bel, b.low, hown1, ?_, ?_, hk.trans b.eq⟩
  · exact (hg.block k (by have := F.stand_lt hk; omega) (fun e => b.apart k e.symm hk)).trans (Below.heap_alloc X o k (F.stand_lt hk))
  · have h1 := b.len
    have h2 := b.ge
    omega
  · have := b.num
    omega
  · intro k e hs
    have e : g1 = k := by simpa [Value.ownBlock] using e
    subst e
    rcases hat with h | h
    · exact b.apart _ h hs
    · have := F.stand_lt hs
      omega
end

end Go.Proofs.Ytfnmglfbcpdlnaa

namespace Go.Proofs.Ytfnmglfbcpdlnaa
open Go.RowKit
set_option linter.unusedVariables false

namespace Rf
variable {B : Nat → Rs → Bool × Rs} {L : List Lk.Wd} {d : Nat} {s s' : Rs} {w : List Lk.Wd}
theorem stmt_end (h : Lk.wd w 0 = wElse ∨ Lk.wd w 0 = wEnd) : stmtS B L d s w = (decide (w.length = 1 ∧ 0 < d), s) := by unfold stmtS; rw [if_pos h]
theorem stmt_full (h : ¬ (Lk.wd w 0 = wElse ∨ Lk.wd w 0 = wEnd)) (hc : s.cnt = 12) : stmtS B L d s w = (false, s) := by unfold stmtS; rw [if_neg h, if_pos hc]
theorem stmt_nestF (h : ¬ (Lk.wd w 0 = wElse ∨ Lk.wd w 0 = wEnd)) (hc : s.cnt ≠ 12) (hi : Lk.wd w 0 = wIf ∨ Lk.wd w 0 = wWhile) (hn : nestS B L d s w = (false, s')) : stmtS B L d s w = (false, s') := by
  unfold stmtS; rw [if_neg h, if_neg hc, if_pos hi, hn]
theorem stmt_nestT (h : ¬ (Lk.wd w 0 = wElse ∨ Lk.wd w 0 = wEnd)) (hc : s.cnt ≠ 12) (hi : Lk.wd w 0 = wIf ∨ Lk.wd w 0 = wWhile) (hn : nestS B L d s w = (true, s')) : stmtS B L d s w = B d s' := by
  unfold stmtS; rw [if_neg h, if_neg hc, if_pos hi, hn]
theorem stmt_fitT (h : ¬ (Lk.wd w 0 = wElse ∨ Lk.wd w 0 = wEnd)) (hc : s.cnt ≠ 12) (hi : ¬ (Lk.wd w 0 = wIf ∨ Lk.wd w 0 = wWhile)) (hn : fits s.ds w = true) : stmtS B L d s w = B d { s with cnt := s.cnt + 1, at_ := s.at_ + 1 } := by
  unfold stmtS; rw [if_neg h, if_neg hc, if_neg hi, if_pos hn]
theorem stmt_fitF (h : ¬ (Lk.wd w 0 = wElse ∨ Lk.wd w 0 = wEnd)) (hc : s.cnt ≠ 12) (hi : ¬ (Lk.wd w 0 = wIf ∨ Lk.wd w 0 = wWhile)) (hn : fits s.ds w = false) : stmtS B L d s w = (false, { s with cnt := s.cnt + 1 }) := by
  unfold stmtS; rw [if_neg h, if_neg hc, if_neg hi, if_neg (by rw [hn]; simp)]
end Rf

section
variable {w : World} {base P R gl cl d f : Nat} {l : List DB} {s : Rf.Rs} {L : List ByteArray} {vn vk vz vb : Value} {g cap : Nat} {ws : List ByteArray}

theorem stmt_new (w : World) (R g n cap : Nat) : ((w.setCell ⟨R, 4, none⟩ (.bool true)).alloc (.cells #[.slice (some ⟨g, 0, none⟩) n cap, .slice none 0 0, .slice none 0 0] 105)).rowIs w.heap.size 105 3 (scell g n cap (.slice none 0 0) (.slice none 0 0)) := by
  have h := World.rowIs_alloc (w.setCell ⟨R, 4, none⟩ (.bool true)) #[.slice (some ⟨g, 0, none⟩) n cap, .slice none 0 0, .slice none 0 0] 105 (scell g n cap (.slice none 0 0) (.slice none 0 0)) (fun i hi => by
    match i, hi with
    | 0, _ => rfl
    | 1, _ => rfl
    | 2, _ => rfl
    | n + 3, h => exact absurd (show n + 3 < 3 from h) (by omega))
  simpa using h

theorem frm_stmt {o : Obj} (hB : base ≤ w.heap.size) (hR : base ≤ R) : Frm base (fun k => k = R) w ((w.setCell ⟨R, 4, none⟩ (.bool true)).alloc o) :=
  Frm.alloc (Frm.setCell (p := ⟨R, 4, none⟩) (Frm.refl base (fun k => k = R) w) hR rfl _) (by simpa using hB) o

theorem FRep.stmt (F : FRep w base P R l (fst_ P gl cl L.length s) L gl vn vk vz vb) (o : Obj) : FRep ((w.setCell ⟨R, 4, none⟩ (.bool true)).alloc o) base P R l (fst_ P gl cl L.length { s with bdy := true }) L gl vn vk vz vb :=
  ((F.put 4 (.bool true)).congr (fun i hi => fst_body P gl cl L.length s i hi)).alloc o

theorem nested_at (F : FRep w base P R l (fst_ P gl cl L.length s) L gl vn vk vz vb) (hl : l.length ≤ 1000) (hL : L.length ≤ 1000) (hW : Wds w g ws) (hw0 : 0 < ws.length) (hgR : g ≠ R) (hg2 : g < w.heap.size) (hds : s.ds = dcs l) (hfu : L.length ≤ s.at_ + 1 + (f + 1)) (hat : s.at_ + 1 < L.length) (hcn : s.cnt < 12) (hd4 : d ≤ 4) (IH : d < 4 → BlockOk L gl cl (d + 1)) (hRb : base ≤ R)
    (o : Bool × Rf.Rs) (ho : Rf.nestS (Rf.blkS (L.map ByteArray.toList) f) (L.map ByteArray.toList) d { s with bdy := true } (ws.map ByteArray.toList) = o) :
    Calls Try.prog 61 #[.pointer (some ⟨R, 0, none⟩), .pointer (some ⟨w.heap.size, 0, none⟩), .int .i64 d] ((w.setCell ⟨R, 4, none⟩ (.bool true)).alloc (.cells #[.slice (some ⟨g, 0, none⟩) ws.length cap, .slice none 0 0, .slice none 0 0] 105)) fun e w' =>
      e = .returned (.bool o.1) ∧ FRep w' base P R l (fst_ P gl cl L.length o.2) L gl vn vk vz vb ∧ Frm base (fun k => k = R) w w' := by
  have FB := F.baseLe
  have key := nested_any (d := d) (f := f) (F.stmt (.cells #[.slice (some ⟨g, 0, none⟩) ws.length cap, .slice none 0 0, .slice none 0 0] 105)) hl hL (stmt_new w R g ws.length cap) (wds_alloc (wds_set hW hgR _) _) hw0
    (fun e => by have := F.stand_lt e; omega) hgR (by omega) hds rfl hfu hat hcn hd4 IH
  refine key.mono ?_
  intro e w' hh
  obtain ⟨h1, h2, h3⟩ := hh
  rw [ho] at h1 h2
  refine ⟨h1, h2, ?_⟩
  have h4 : Frm base (fun k => k = R ∨ k = w.heap.size) ((w.setCell ⟨R, 4, none⟩ (.bool true)).alloc (.cells #[.slice (some ⟨g, 0, none⟩) ws.length cap, .slice none 0 0, .slice none 0 0] 105)) w' :=
    h3.lift (fun k hk e => by
      rcases e with e | e
      · rw [e]; exact hRb
      · rw [e]; exact FB) (by simp; omega)
  exact (frm_stmt FB hRb).trans h4 (fun k hk e => by
    rcases e with e | e
    · exact e
    · omega)

theorem fits_at (F : FRep w base P R l (fst_ P gl cl L.length s) L gl vn vk vz vb) (hl : l.length ≤ 1000) (hW : Wds w g ws) (hw0 : 0 < ws.length) (hgR : g ≠ R) (hRb : base ≤ R) (o : Bool) (ho : Rf.fits (dcs l) (ws.map ByteArray.toList) = o) (ob : Obj) :
    Calls Try.prog 62 #[.pointer (some ⟨P, 0, none⟩), .slice (some ⟨g, 0, none⟩) ws.length cap] ((w.setCell ⟨R, 4, none⟩ (.bool true)).alloc ob) fun e w' =>
      e = .returned (.bool o) ∧ FRep w' base P R l (fst_ P gl cl L.length { s with bdy := true }) L gl vn vk vz vb ∧ Frm base (fun k => k = R) w w' := by
  have FB := F.baseLe
  refine ((F.stmt ob).prog.fits_any hl g cap ws (wds_alloc (wds_set hW hgR _) _) hw0).mono ?_
  intro e w' hh
  obtain ⟨h1, h2⟩ := hh
  rw [ho] at h1
  exact ⟨h1, (F.stmt ob).below h2, (frm_stmt FB hRb).trans (Frm.ofBelow (S := fun k => k = R) h2 (F.stmt ob).baseLe) (fun k hk e => e)⟩
end

end Go.Proofs.Ytfnmglfbcpdlnaa
