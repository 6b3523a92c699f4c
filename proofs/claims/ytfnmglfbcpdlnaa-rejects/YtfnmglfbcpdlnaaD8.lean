import Derived.Test.YtfnmglfbcpdlnaaD7
import Derived.Test.YtfnmglfbcpdlnaaS27
import Derived.Test.YtfnmglfbcpdlnaaD12a
namespace Go.Proofs.Ytfnmglfbcpdlnaa
open Go.RowKit
set_option linter.unusedVariables false

/-- A reader of 'leaksref' lies in block R, its cells told by f; its program in P; its lines in gl. -/
structure FRep (w : World) (base P R : Nat) (l : List DB) (f : Nat → Value) (L : List ByteArray) (gl : Nat) (vn vk vz vb : Value) : Prop where
  prog : PRep w base P l vn vk vz vb
  row : w.rowIs R 64 5 f
  lin : Wds w gl L
  llt : gl < w.heap.size
  rP : R ≠ P
  rn : vn.ownBlock ≠ some R
  rk : vk.ownBlock ≠ some R
  rz : vz.ownBlock ≠ some R
  lR : gl ≠ R
  lP : gl ≠ P
  ln : vn.ownBlock ≠ some gl
  lk : vk.ownBlock ≠ some gl
  lz : vz.ownBlock ≠ some gl

/-- The blocks that a reader stands on. -/
def Stand (P R gl : Nat) (vn vk vz : Value) (k : Nat) : Prop := k = R ∨ k = P ∨ k = gl ∨ vn.ownBlock = some k ∨ vk.ownBlock = some k ∨ vz.ownBlock = some k

namespace FRep
variable {w : World} {base P R : Nat} {l : List DB} {f : Nat → Value} {L : List ByteArray} {gl : Nat} {vn vk vz vb : Value}
theorem stand_lt (h : FRep w base P R l f L gl vn vk vz vb) {k : Nat} (hk : Stand P R gl vn vk vz k) : k < w.heap.size := by
  rcases hk with rfl | rfl | rfl | e | e | e
  · exact h.row.lt
  · exact h.prog.lt
  · exact h.llt
  · exact (h.prog.nm.lt _ e).2
  · exact (h.prog.kd.lt _ e).2
  · exact (h.prog.sz.lt _ e).2
theorem same {w' : World} (h : FRep w base P R l f L gl vn vk vz vb) (hb : ∀ k, Stand P R gl vn vk vz k → w'.heap[k]? = w.heap[k]?) (hs : w.heap.size ≤ w'.heap.size) : FRep w' base P R l f L gl vn vk vz vb :=
  ⟨⟨h.prog.row.of_block (hb P (.inr (.inl rfl))), h.prog.ge, ownsRow_blk h.prog.nm (fun k e => hb k (.inr (.inr (.inr (.inl e))))), ownsRow_blk h.prog.kd (fun k e => hb k (.inr (.inr (.inr (.inr (.inl e)))))), ownsRow_blk h.prog.sz (fun k e => hb k (.inr (.inr (.inr (.inr (.inr e)))))), h.prog.np, h.prog.kp, h.prog.zp, h.prog.nk, h.prog.nz, h.prog.kz⟩,
    h.row.of_block (hb R (.inl rfl)), fun i hi => (World.cell?_of_block (hb gl (.inr (.inr (.inl rfl))))).trans (h.lin i hi), Nat.lt_of_lt_of_le h.llt hs, h.rP, h.rn, h.rk, h.rz, h.lR, h.lP, h.ln, h.lk, h.lz⟩
theorem below {w' : World} (h : FRep w base P R l f L gl vn vk vz vb) (hb : Below w.heap.size w w') : FRep w' base P R l f L gl vn vk vz vb := h.same (fun k hk => hb.block k (h.stand_lt hk)) hb.size
theorem alloc (h : FRep w base P R l f L gl vn vk vz vb) (o : Obj) : FRep (w.alloc o) base P R l f L gl vn vk vz vb := h.below ((Below.refl _ _).alloc (Nat.le_refl _) o)
theorem drew (h : FRep w base P R l f L gl vn vk vz vb) : FRep w.drew base P R l f L gl vn vk vz vb := h.same (fun _ _ => rfl) (Nat.le_refl _)
theorem drewN (h : FRep w base P R l f L gl vn vk vz vb) (n : Nat) : FRep (w.drewN n) base P R l f L gl vn vk vz vb := h.same (fun _ _ => rfl) (Nat.le_refl _)
theorem congr {f' : Nat → Value} (h : FRep w base P R l f L gl vn vk vz vb) (e : ∀ i, i < 5 → f i = f' i) : FRep w base P R l f' L gl vn vk vz vb :=
  ⟨h.prog, h.row.congr e, h.lin, h.llt, h.rP, h.rn, h.rk, h.rz, h.lR, h.lP, h.ln, h.lk, h.lz⟩
theorem setOther {b i : Nat} (h : FRep w base P R l f L gl vn vk vz vb) (hb : ¬ Stand P R gl vn vk vz b) (u : Value) : FRep (w.setCell ⟨b, i, none⟩ u) base P R l f L gl vn vk vz vb :=
  h.same (fun k hk => Below.heap_setCell w ⟨b, i, none⟩ u k (fun e => hb (by rw [← show k = b from e]; exact hk))) (by simp)
theorem put (h : FRep w base P R l f L gl vn vk vz vb) (i : Nat) (x : Value) : FRep (w.setCell ⟨R, i, none⟩ x) base P R l (fun j => if j = i then x else f j) L gl vn vk vz vb := by
  have hs : ∀ k, k ≠ R → (w.setCell ⟨R, i, none⟩ x).heap[k]? = w.heap[k]? := fun k hk => Below.heap_setCell w ⟨R, i, none⟩ x k hk
  exact ⟨⟨h.prog.row.of_block (hs P h.rP.symm), h.prog.ge, ownsRow_setCell h.prog.nm h.rn x, ownsRow_setCell h.prog.kd h.rk x, ownsRow_setCell h.prog.sz h.rz x, h.prog.np, h.prog.kp, h.prog.zp, h.prog.nk, h.prog.nz, h.prog.kz⟩,
    h.row.set i x, fun j hj => (World.cell?_of_block (hs gl h.lR)).trans (h.lin j hj), by simpa using h.llt, h.rP, h.rn, h.rk, h.rz, h.lR, h.lP, h.ln, h.lk, h.lz⟩
end FRep

abbrev fst_ (P gl cl n : Nat) (s : Rf.Rs) : Nat → Value := fcell P (.slice (some ⟨gl, 0, none⟩) n cl) s

/-- What 'block' does, called at a depth in the midst of the statements. -/
def BlockOk (L : List ByteArray) (gl cl d : Nat) : Prop :=
  ∀ (f : Nat) (w : World) (base P R : Nat) (l : List DB) (s : Rf.Rs) (vn vk vz vb : Value), FRep w base P R l (fst_ P gl cl L.length s) L gl vn vk vz vb → s.ds = dcs l → s.bdy = true → L.length ≤ s.at_ + 1 + f → s.at_ < L.length → s.cnt ≤ 12 → l.length ≤ 1000 → L.length ≤ 1000 →
    Calls Try.prog 38 #[.pointer (some ⟨R, 0, none⟩), .int .i64 d] w fun e w' =>
      ∃ ad n c, e = .returned (.tuple #[.slice ad n c, .bool (Rf.blkS (L.map ByteArray.toList) f d s).1]) ∧ FRep w' base P R l (fst_ P gl cl L.length (Rf.blkS (L.map ByteArray.toList) f d s).2) L gl vn vk vz vb ∧ Frm 0 (fun k => k = R) w w'

end Go.Proofs.Ytfnmglfbcpdlnaa
