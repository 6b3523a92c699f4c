import Derived.Test.YtfnmglfbcpdlnaaB9
import Derived.WalkSmall
/- What a call leaves as it was. -/
namespace Go.Proofs.Ytfnmglfbcpdlnaa
open Go.RowKit
set_option linter.unusedVariables false

/-- Below 'base' nothing has turned, and above it only what S names (and what is new). -/
structure Frm (base : Nat) (S : Nat → Prop) (w w' : World) : Prop where
  bel : Below base w w'
  keep : ∀ k, k < w.heap.size → ¬ S k → w'.heap[k]? = w.heap[k]?
namespace Frm
variable {base : Nat} {S : Nat → Prop} {a w w' : World}
theorem refl (base : Nat) (S : Nat → Prop) (w : World) : Frm base S w w := ⟨Below.refl _ _, fun _ _ _ => rfl⟩
theorem ofBelow (h : Below w.heap.size w w') (hb : base ≤ w.heap.size) : Frm base S w w' := ⟨h.mono hb, fun k hk _ => h.block k hk⟩
theorem alloc (h : Frm base S a w) (hB : base ≤ w.heap.size) (o : Obj) : Frm base S a (w.alloc o) :=
  ⟨h.bel.alloc hB o, fun k hk hs => (Below.heap_alloc w o k (Nat.lt_of_lt_of_le hk h.bel.size)).trans (h.keep k hk hs)⟩
theorem drew (h : Frm base S a w) : Frm base S a w.drew := ⟨h.bel.drew, h.keep⟩
theorem grown {row : Option Nat} (h : Frm base S a w) (hg : w.grownBy w' row) (hB : base ≤ w.heap.size) (hr : ∀ k, row = some k → base ≤ k ∧ S k) : Frm base S a w' :=
  ⟨h.bel.grown hg hB (fun k hk => (hr k hk).1), fun k hk hs => (hg.block k (Nat.lt_of_lt_of_le hk h.bel.size) (fun e => hs (hr k e.symm).2)).trans (h.keep k hk hs)⟩
theorem setCell (h : Frm base S a w) {p : Addr} (hp : base ≤ p.block) (hs : S p.block) (u : Value) : Frm base S a (w.setCell p u) :=
  ⟨h.bel.setCell hp u, fun k hk hk2 => (Below.heap_setCell w p u k (fun e => hk2 (by rw [e]; exact hs))).trans (h.keep k hk hk2)⟩
end Frm

theorem ownsRow_blk {w w' : World} {base : Nat} {e : TypeId} {size : Nat} {v : Value} {n : Nat} {xs : List Value} (h : w.ownsRow base e size v n xs) (hb : ∀ k, v.ownBlock = some k → w'.heap[k]? = w.heap[k]?) : w'.ownsRow base e size v n xs := by
  refine ⟨h.1, ?_⟩
  rcases h.2 with hn | ⟨g, cap, cur, rfl, hb', hgg, rest⟩
  · exact .inl hn
  · exact .inr ⟨g, cap, cur, rfl, hb', by rw [hb g rfl]; exact hgg, rest⟩

namespace Frm
variable {base : Nat} {S T : Nat → Prop} {a b c w : World}
theorem trans (h : Frm base S a b) (k : Frm base T b c) (hT : ∀ k, k < a.heap.size → T k → S k) : Frm base S a c :=
  ⟨h.bel.trans k.bel, fun j hj hs => (k.keep j (Nat.lt_of_lt_of_le hj h.bel.size) (fun t => hs (hT j hj t))).trans (h.keep j hj hs)⟩
theorem drewN (h : Frm base S a w) (n : Nat) : Frm base S a (w.drewN n) := ⟨below_drewN h.bel n, h.keep⟩
theorem imp (h : Frm base S a b) (hT : ∀ k, k < a.heap.size → S k → T k) : Frm base T a b := ⟨h.bel, fun j hj ht => h.keep j hj (fun s => ht (hT j hj s))⟩
theorem cell (h : Frm base S a b) {p : Addr} {v : Value} (hp : a.cell? p = some v) (hs : ¬ S p.block) : b.cell? p = some v :=
  (World.cell?_of_block (h.keep p.block (World.block_lt_of_cell? a p hp) hs)).trans hp
theorem frozen (h : Frm base S a b) {p : Addr} (hp : p.block < a.heap.size) (hs : ¬ S p.block) : b.frozen? p = a.frozen? p := World.frozen?_of_block (h.keep p.block hp hs)
end Frm

theorem bel_trans {a b c : World} (h : Below a.heap.size a b) (k : Below b.heap.size b c) : Below a.heap.size a c := h.trans (k.mono h.size)
theorem bel_drewN {a c : World} {n : Nat} (h : Below (a.drewN n).heap.size (a.drewN n) c) : Below a.heap.size a c := (below_drewN (Below.refl _ a) n).trans h
namespace Frm
variable {base : Nat} {S : Nat → Prop} {a b c : World}
theorem lift (h : Frm 0 S a b) (hS : ∀ k, k < a.heap.size → S k → base ≤ k) (hB : base ≤ a.heap.size) : Frm base S a b :=
  ⟨⟨h.bel.os, h.bel.tape, h.bel.output, h.bel.size, fun k hk => h.keep k (Nat.lt_of_lt_of_le hk hB) (fun s => Nat.lt_irrefl k (Nat.lt_of_lt_of_le hk (hS k (Nat.lt_of_lt_of_le hk hB) s)))⟩, h.keep⟩
theorem down (h : Frm base S a b) : Frm 0 S a b := ⟨h.bel.mono (Nat.zero_le _), h.keep⟩
end Frm

end Go.Proofs.Ytfnmglfbcpdlnaa
