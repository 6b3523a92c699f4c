import Derived.Test.YtgddmpmcnjlcjabDoorK02
namespace Go.Proofs.YtgddmpmcnjlcjabDoor
open Go.RowKit
set_option linter.unusedVariables false
namespace Ck
def v (p : Pg) (k : Nat) : Int := if (Pr.fd p k).al < k then 2 else 1
def n (p : Pg) (k : Nat) : Nat := if (Pr.fd p k).al < k then p.sec.length else 0
def t (p : Pg) (k : Nat) : Int := if (Pr.fd p k).al < k then (Pr.fd p k).al else 0
def x (p : Pg) (k : Nat) : Ext := if (Pr.fd p k).al < k then ⟨(fm p k).vars, ⟨(fm p k).bs.toArray⟩, ⟨#[]⟩, (nodes p k).length - 2, 0⟩ else ⟨(fm p k).vars, ⟨(fm p k).bs.toArray⟩, ⟨(pf p k).2.toArray⟩, (nodes p k).length - 2, (pf p k).1⟩
def l1 (p : Pg) (k : Nat) : List Nat := if (Pr.fd p k).al < k then (match (Pr.fd p k).fi with | some (i, _) => Pr.inp p.sec i 0 | none => []) else []
def l2 (p : Pg) (k : Nat) : List Nat := if (Pr.fd p k).al < k then (match (Pr.fd p k).fi with | some (i, j) => Pr.inp p.sec i j | none => []) else []
end Ck
def RepX (w w' : World) (e : Ending) (p : Pg) (k : Nat) : Prop := ∃ a1 c1 a2 c2, e = .returned (.tuple #[.int .i64 (Ck.v p k), repTwo (.slice a1 (Ck.n p k) c1) (.slice a2 (Ck.n p k) c2) (Ck.t p k) (Ck.x p k)]) ∧
  w'.ownsRow w.heap.size 3 1 (.slice a1 (Ck.n p k) c1) (Ck.n p k) ((Ck.l1 p k).map fun (n : Nat) => .int .i64 n) ∧ w'.ownsRow w.heap.size 3 1 (.slice a2 (Ck.n p k) c2) (Ck.n p k) ((Ck.l2 p k).map fun (n : Nat) => .int .i64 n) ∧ Below w.heap.size w w'
theorem chk_x (s : ByteArray) (k : Nat) (w : World) (hw : Tab w) (hk : k ≤ 10) (hl : (Lk.read s.toList).2 = 0) :
    Calls Tryd.prog 8 #[.string s, .int .i64 k, .agg #[.int .i64 0, .int .i64 0]] w fun e w' => RepX w w' e (pgOf s.toList) k := by
  refine (check_all s k 0 0 w hw hk (by omega) (by omega) hl).mono ?_
  rintro e w' C
  by_cases h : (Pr.fd (pgOf s.toList) k).al < k
  · obtain ⟨a1, c1, a2, c2, i, j, he, hfi, o1, o2⟩ := C.ins (.inl rfl) h
    refine ⟨a1, c1, a2, c2, ?_, ?_, ?_, C.bel⟩
    · rw [he]; unfold Ck.v Ck.n Ck.t Ck.x; rw [if_pos h, if_pos h, if_pos h, if_pos h]
    · unfold Ck.n Ck.l1; rw [if_pos h, if_pos h, hfi]; exact o1
    · unfold Ck.n Ck.l2; rw [if_pos h, if_pos h, hfi]; exact o2
  · refine ⟨none, 0, none, 0, ?_, ?_, ?_, C.bel⟩
    · rw [C.sec (.inl rfl) h (.inl rfl)]; unfold Ck.v Ck.n Ck.t Ck.x; rw [if_neg h, if_neg h, if_neg h, if_neg h]
    · unfold Ck.n Ck.l1; rw [if_neg h, if_neg h]; exact World.ownsRow_nil _ _ _ _
    · unfold Ck.n Ck.l2; rw [if_neg h, if_neg h]; exact World.ownsRow_nil _ _ _ _
set_option maxRecDepth 100000 in
set_option maxHeartbeats 1000000 in
theorem kc_x (s : ByteArray) (k : Nat) (w : World) (hw : Tab w) (hk : k ≤ 10) (hl : (Lk.read s.toList).2 = 0) :
    Calls Tryd.prog 25 #[.string s, .int .i64 k] w fun e w' => RepX w w' e (pgOf s.toList) k := by
  have HC := hid (fun W hW => chk_x s k W hW hk hl)
  have HW := hid hw
  clear hl hw
  generalize pgOf s.toList = p at HC
  go_enter Tryd.func25, Tryd.ntmps25
  go_wp2_with (first | (go_at_call 8; refine (HC.out _ (tab_on HW.out ((Below.refl _ _).alloc (Nat.le_refl _) _))).mono ?_; rintro e w1 ⟨a1, c1, a2, c2, he, ho1, ho2, hb⟩; subst he; have z1 := hb.size; simp at z1; obtain ⟨x0, x1, x2, x3, x4, x5, x6, x7, x8, xf⟩ := rep_facts1 hb; have HB := hid hb; have HO1 := hid ho1; have HO2 := hid ho2; clear hb ho1 ho2))
  have FR := frm9k (q := w.heap.size) (w := w1) (.int .i64 0) (.slice a1 (Ck.n p k) c1) (.slice a2 (Ck.n p k) c2) (.int .i64 (Ck.t p k)) (.int .i64 (Ck.x p k).nv) (.string (Ck.x p k).f) (.string (Ck.x p k).g) (.int .i64 (Ck.x p k).nd) (.int .i64 (Ck.x p k).cf)
  refine bodyPost_ret (v := .tuple #[.int .i64 (Ck.v p k), repTwo (.slice a1 (Ck.n p k) c1) (.slice a2 (Ck.n p k) c2) (Ck.t p k) (Ck.x p k)]) (by simp [results, Tryd.results25, go_sem, x0, x1, x2, x3, x4, x5, x6, x7, x8]) rfl ⟨a1, c1, a2, c2, rfl, ?_, ?_, ?_⟩
  · exact ownsRow_low (ownsRow_blk HO1.out (fun g e => FR.keep g (HO1.out.lt g e).2 (fun e2 => by have := (HO1.out.lt g e).1; simp at this; have e2 : g = w.heap.size := e2; omega))) (by simp)
  · exact ownsRow_low (ownsRow_blk HO2.out (fun g e => FR.keep g (HO2.out.lt g e).2 (fun e2 => by have := (HO2.out.lt g e).1; simp at this; have e2 : g = w.heap.size := e2; omega))) (by simp)
  · exact bel9k (((Below.refl _ _).alloc (Nat.le_refl _) _).trans (HB.out.mono (by simp))) (Nat.le_refl _) _ _ _ _ _ _ _ _ _
end Go.Proofs.YtgddmpmcnjlcjabDoor
