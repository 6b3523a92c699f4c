import Derived.Test.YtgddmpmcnjlcjabDoorB36
import Derived.OwnWalk
import Derived.Deep.QuietTactic
import Derived.BigQuiet
import Derived.KernelRfl
import Derived.Deep.RegionWith
import Derived.Deep.RegionLaw
import Derived.Deep.DeepCutAuto
namespace Go.Proofs.YtgddmpmcnjlcjabDoor
open Go.RowKit
set_option linter.unusedVariables false
def NatsAt (w : World) (a : Option Addr) (n : Nat) (f : Nat → Nat) : Prop := 0 < n → ∃ g, a = some ⟨g, 0, none⟩ ∧ g < w.heap.size ∧ ∀ i, i < n → w.cell? ⟨g, i, none⟩ = some (.int .i64 (f i))
theorem NatsAt.same {w w' : World} {a : Option Addr} {n : Nat} {f : Nat → Nat} (h : NatsAt w a n f) (hb : Below w.heap.size w w') : NatsAt w' a n f := by
  intro hn
  obtain ⟨g, e, hg, hc⟩ := h hn
  exact ⟨g, e, Nat.lt_of_lt_of_le hg hb.size, fun i hi => cell_later hb (hc i hi)⟩
theorem NatsAt.of {w : World} {base e : Nat} {a : Option Addr} {c : Nat} {l : List Nat} {n : Nat} (hn : l.length = n) (h : w.ownsRow base e 1 (.slice a n c) n (l.map fun (n : Nat) => .int .i64 n)) : NatsAt w a n (fun i => l.getD i 0) := by
  subst hn
  intro hn
  obtain ⟨g, cap, hv, h1, h2⟩ := h.form hn
  cases hv
  exact ⟨g, rfl, h2, fun i hi => nats_at h i hi⟩
theorem NatsAt.less {w : World} {a : Option Addr} {n m : Nat} {f : Nat → Nat} (h : NatsAt w a n f) (hm : m ≤ n) : NatsAt w a m f := by
  intro h0
  obtain ⟨g, e, hg, hc⟩ := h (by omega)
  exact ⟨g, e, hg, fun i hi => hc i (by omega)⟩
set_option maxRecDepth 100000 in
set_option maxHeartbeats 1000000 in
theorem same_yes (n : Nat) (hn : n ≤ 10) (f : Nat → Nat) (w : World) (a b : Option Addr) (ca cb : Nat) (ha : NatsAt w a n f) (hb : NatsAt w b n f) :
    Calls Tryd.prog 48 #[.slice a n ca, .slice b n cb] w fun e w' => e = .returned (.bool true) ∧ ∃ m, w' = w.drewN m := by
  have HA := hid ha
  have HB := hid hb
  clear ha hb
  go_enter Tryd.func48, Tryd.ntmps48
  go_wp2_with fail
  go_loopw [5] (fun cv wr => ∃ i : Nat, i ≤ n ∧ cv = .int .i64 i ∧ ∃ m, wr = w.drewN m) (fun cv _ => n - (intOf cv).toNat)
  case atStart => exact ⟨0, Nat.zero_le _, rfl, 0, rfl⟩
  case round =>
    obtain ⟨i, hi, rfl, m, rfl⟩ := hrel
    by_cases hlt : i < n
    · obtain ⟨g, rfl, hg, hcg⟩ := HA.out (by omega)
      obtain ⟨h, rfl, hh, hch⟩ := HB.out (by omega)
      have x0 := hcg i hlt
      have x1 := hch i hlt
      generalize f i = x at x0 x1
      clear hcg hch
      go_wp2_with fail
      go_quiet (fail)
      go_wp2_with fail
      go_roundw
      case rel => exact ⟨i + 1, by omega, by go_num, _, rfl⟩
      case measure => simp [intOf]; omega
    · go_wp2_with fail
      go_ret
      exact ⟨rfl, _, rfl⟩
def rpw (ln : Int) (v1 v2 : Value) (t : Int) (x : Ext) (i : Nat) : Value := if i = 0 then .int .i64 ln else if i = 1 then v1 else if i = 2 then v2 else if i = 3 then .int .i64 t else if i = 4 then .int .i64 x.nv else if i = 5 then .string x.f else if i = 6 then .string x.g else if i = 7 then .int .i64 x.nd else .int .i64 x.cf
set_option maxRecDepth 100000 in
set_option maxHeartbeats 4000000 in
theorem whole_yes (w : World) (g1 g2 : Nat) (ln t : Int) (x : Ext) (a1 a2 b1 b2 : Option Addr) (c1 c2 d1 d2 n : Nat) (hn : n ≤ 10) (f1 f2 : Nat → Nat)
    (h1 : w.rowIs g1 29 9 (rpw ln (.slice a1 n c1) (.slice a2 n c2) t x)) (h2 : w.rowIs g2 29 9 (rpw ln (.slice b1 n d1) (.slice b2 n d2) t x))
    (na1 : NatsAt w a1 n f1) (nb1 : NatsAt w b1 n f1) (na2 : NatsAt w a2 n f2) (nb2 : NatsAt w b2 n f2) :
    Calls Tryd.prog 26 #[.pointer (some ⟨g1, 0, none⟩), .pointer (some ⟨g2, 0, none⟩)] w fun e w' => e = .returned (.bool true) ∧ Below w.heap.size w w' := by
  have p0 := h1.cell (i := 0) (by omega)
  have p1 := h1.cell (i := 1) (by omega)
  have p2 := h1.cell (i := 2) (by omega)
  have p3 := h1.cell (i := 3) (by omega)
  have p4 := h1.cell (i := 4) (by omega)
  have p5 := h1.cell (i := 5) (by omega)
  have p6 := h1.cell (i := 6) (by omega)
  have p7 := h1.cell (i := 7) (by omega)
  have p8 := h1.cell (i := 8) (by omega)
  have q0 := h2.cell (i := 0) (by omega)
  have q1 := h2.cell (i := 1) (by omega)
  have q2 := h2.cell (i := 2) (by omega)
  have q3 := h2.cell (i := 3) (by omega)
  have q4 := h2.cell (i := 4) (by omega)
  have q5 := h2.cell (i := 5) (by omega)
  have q6 := h2.cell (i := 6) (by omega)
  have q7 := h2.cell (i := 7) (by omega)
  have q8 := h2.cell (i := 8) (by omega)
  simp [rpw] at p0 p1 p2 p3 p4 p5 p6 p7 p8 q0 q1 q2 q3 q4 q5 q6 q7 q8
  have HS1 : Hid (∀ y : Nat, Calls Tryd.prog 48 #[.slice a1 n c1, .slice b1 n d1] (w.drewN y) fun e w'' => e = .returned (.bool true) ∧ ∃ m, w'' = w.drewN m) := fun y => by
    refine (same_yes n hn f1 (w.drewN y) a1 b1 c1 d1 na1 nb1).mono ?_
    rintro e w'' ⟨rfl, m, rfl⟩
    exact ⟨rfl, y + m, by simp⟩
  have HS2 : Hid (∀ z y : Nat, Calls Tryd.prog 48 #[.slice a2 n c2, .slice b2 n d2] (w.drewN (z + y)) fun e w'' => e = .returned (.bool true) ∧ ∃ m, w'' = w.drewN (z + m)) := fun z y => by
    refine (same_yes n hn f2 (w.drewN (z + y)) a2 b2 c2 d2 (na2.same (below_drewN (Below.refl _ _) _)) (nb2.same (below_drewN (Below.refl _ _) _))).mono ?_
    rintro e w'' ⟨rfl, m, rfl⟩
    exact ⟨rfl, y + m, by rw [World.drewN_drewN, Nat.add_assoc]⟩
  clear h1 h2 na1 nb1 na2 nb2
  go_enter Tryd.func26, Tryd.ntmps26
  go_wp2_with fail
  go_quiet (first | (go_at_call 48; exact HS1.out _))
  go_wp2_with fail
  go_quiet (first | (go_at_call 48; exact HS2.out _ _))
  go_wp2_with fail
  go_quiet (fail)
  go_wp2_with fail
  go_quiet (fail)
  go_wp2_with fail
  go_ret
  exact ⟨rfl, by first | exact below_drewN (Below.refl _ _) _ | exact below_drewN (below_drewN (Below.refl _ _) _) _ | exact below_drewN (below_drewN (below_drewN (Below.refl _ _) _) _) _⟩
namespace Ck
def v (p : Pg) (k : Nat) : Int := if (Pr.fd p k).al < k then 2 else 1
def n (p : Pg) (k : Nat) : Nat := if (Pr.fd p k).al < k then p.sec.length else 0
def t (p : Pg) (k : Nat) : Int := if (Pr.fd p k).al < k then (Pr.fd p k).al else 0
def x (p : Pg) (k : Nat) : Ext := if (Pr.fd p k).al < k then ⟨(fm p k).vars, ⟨(fm p k).bs.toArray⟩, ⟨#[]⟩, (nodes p k).length - 2, 0⟩ else ⟨(fm p k).vars, ⟨(fm p k).bs.toArray⟩, ⟨(pf p k).2.toArray⟩, (nodes p k).length - 2, (pf p k).1⟩
def l1 (p : Pg) (k : Nat) : List Nat := if (Pr.fd p k).al < k then (match (Pr.fd p k).fi with | some (i, _) => Pr.inp p.sec i 0 | none => []) else []
def l2 (p : Pg) (k : Nat) : List Nat := if (Pr.fd p k).al < k then (match (Pr.fd p k).fi with | some (i, j) => Pr.inp p.sec i j | none => []) else []
end Ck
def RepX (w w' : World) (e : Ending) (p : Pg) (k : Nat) : Prop := ∃ a1 c1 a2 c2, e = .returned (.tuple #[.int .i64 (Ck.v p k), repTwo (.slice a1 (Ck.n p k) c1) (.slice a2 (Ck.n p k) c2) (Ck.t p k) (Ck.x p k)]) ∧
  w'.ownsRow w.heap.size 3 1 (.slice a1 (Ck.n p k) c1) (Ck.n p k) ((Ck.l1 p k).map fun (n : Nat) => .int .i64 n) ∧ w'.ownsRow w.heap.size 3 1 (.slice a2 (Ck.n p k) c2) (Ck.n p k) ((Ck.l2 p k).map fun (n : Nat) => .int .i64 n) ∧ Below w.heap.size w w'
theorem chk_x (s : ByteArray) (k : Nat) (w : World) (hw : Tab w) (hk : k ≤ 10) (hl : (Lk.read s.toList).2 = 0) :
    Calls Tryd.prog 8 #[.string s, .int .i64 k, .agg #[.int .i64 0, .int .i64 0]] w fun e w' => RepX w w' e (pgOf s.toList) k := by
  refine (check_all s k 0 0 w hw hk (by omega) (by omega) hl).mono ?_
  rintro e w' C
  by_cases h : (Pr.fd (pgOf s.toList) k).al < k
  · obtain ⟨a1, c1, a2, c2, i, j, he, hfi, o1, o2⟩ := C.ins (.inl rfl) h
    refine ⟨a1, c1, a2, c2, ?_, ?_, ?_, C.bel⟩
    · rw [he]; unfold Ck.v Ck.n Ck.t Ck.x; rw [if_pos h, if_pos h, if_pos h, if_pos h]
    · unfold Ck.n Ck.l1; rw [if_pos h, if_pos h, hfi]; exact o1
    · unfold Ck.n Ck.l2; rw [if_pos h, if_pos h, hfi]; exact o2
  · refine ⟨none, 0, none, 0, ?_, ?_, ?_, C.bel⟩
    · rw [C.sec (.inl rfl) h (.inl rfl)]; unfold Ck.v Ck.n Ck.t Ck.x; rw [if_neg h, if_neg h, if_neg h, if_neg h]
    · unfold Ck.n Ck.l1; rw [if_neg h, if_neg h]; exact World.ownsRow_nil _ _ _ _
    · unfold Ck.n Ck.l2; rw [if_neg h, if_neg h]; exact World.ownsRow_nil _ _ _ _
set_option maxRecDepth 100000 in
set_option maxHeartbeats 1000000 in
theorem kc_x (s : ByteArray) (k : Nat) (w : World) (hw : Tab w) (hk : k ≤ 10) (hl : (Lk.read s.toList).2 = 0) :
    Calls Tryd.prog 25 #[.string s, .int .i64 k] w fun e w' => RepX w w' e (pgOf s.toList) k := by
  have HC := hid (fun W hW => chk_x s k W hW hk hl)
  have HW := hid hw
  clear hl hw
  generalize pgOf s.toList = p at HC
  go_enter Tryd.func25, Tryd.ntmps25
  go_wp2_with (first | (go_at_call 8; refine (HC.out _ (tab_on HW.out ((Below.refl _ _).alloc (Nat.le_refl _) _))).mono ?_; rintro e w1 ⟨a1, c1, a2, c2, he, ho1, ho2, hb⟩; subst he; have z1 := hb.size; simp at z1; obtain ⟨x0, x1, x2, x3, x4, x5, x6, x7, x8, xf⟩ := rep_facts1 hb; have HB := hid hb; have HO1 := hid ho1; have HO2 := hid ho2; clear hb ho1 ho2))
  have FR := frm9k (q := w.heap.size) (w := w1) (.int .i64 0) (.slice a1 (Ck.n p k) c1) (.slice a2 (Ck.n p k) c2) (.int .i64 (Ck.t p k)) (.int .i64 (Ck.x p k).nv) (.string (Ck.x p k).f) (.string (Ck.x p k).g) (.int .i64 (Ck.x p k).nd) (.int .i64 (Ck.x p k).cf)
  refine bodyPost_ret (v := .tuple #[.int .i64 (Ck.v p k), repTwo (.slice a1 (Ck.n p k) c1) (.slice a2 (Ck.n p k) c2) (Ck.t p k) (Ck.x p k)]) (by simp [results, Tryd.results25, go_sem, x0, x1, x2, x3, x4, x5, x6, x7, x8]) rfl ⟨a1, c1, a2, c2, rfl, ?_, ?_, ?_⟩
  · exact ownsRow_low (ownsRow_blk HO1.out (fun g e => FR.keep g (HO1.out.lt g e).2 (fun e2 => by have := (HO1.out.lt g e).1; simp at this; have e2 : g = w.heap.size := e2; omega))) (by simp)
  · exact ownsRow_low (ownsRow_blk HO2.out (fun g e => FR.keep g (HO2.out.lt g e).2 (fun e2 => by have := (HO2.out.lt g e).1; simp at this; have e2 : g = w.heap.size := e2; omega))) (by simp)
  · exact bel9k (((Below.refl _ _).alloc (Nat.le_refl _) _).trans (HB.out.mono (by simp))) (Nat.le_refl _) _ _ _ _ _ _ _ _ _
def ktxs : List (List UInt8) := [[], [115, 101, 99, 114, 101, 116, 32, 97, 10, 105, 102, 32, 97, 10, 101, 110, 100, 10], [112, 117, 98, 108, 105, 99, 32, 97, 10, 105, 102, 32, 97, 10, 101, 110, 100, 10], [115, 101, 99, 114, 101, 116, 32, 97, 10, 118, 97, 114, 32, 120, 10, 120, 32, 61, 32, 97, 32, 42, 32, 97, 10], [115, 101, 99, 114, 101, 116, 32, 97, 10, 119, 104, 105, 108, 101, 32, 97, 10, 97, 32, 61, 32, 97, 32, 45, 32, 49, 10, 101, 110, 100, 10], [112, 117, 98, 108, 105, 99, 32, 110, 10, 115, 101, 99, 114, 101, 116, 32, 97, 10, 119, 104, 105, 108, 101, 32, 110, 10, 110, 32, 61, 32, 110, 32, 45, 32, 49, 10, 97, 32, 61, 32, 97, 32, 43, 32, 97, 10, 101, 110, 100, 10, 111, 117, 116, 32, 51, 10], [115, 101, 99, 114, 101, 116, 32, 105, 10, 118, 97, 114, 32, 120, 10, 97, 114, 114, 97, 121, 32, 116, 32, 52, 10, 108, 111, 97, 100, 32, 120, 32, 116, 32, 105, 10], [115, 101, 99, 114, 101, 116, 32, 105, 10, 118, 97, 114, 32, 120, 10, 97, 114, 114, 97, 121, 32, 116, 32, 52, 10, 115, 116, 111, 114, 101, 32, 116, 32, 48, 32, 105, 10, 108, 111, 97, 100, 32, 120, 32, 116, 32, 48, 10, 105, 102, 32, 120, 10, 101, 110, 100, 10], [115, 101, 99, 114, 101, 116, 32, 97, 10, 112, 117, 98, 108, 105, 99, 32, 98, 10, 118, 97, 114, 32, 109, 10, 118, 97, 114, 32, 114, 10, 109, 32, 61, 32, 97, 32, 38, 32, 49, 10, 109, 32, 61, 32, 48, 32, 45, 32, 109, 10, 114, 32, 61, 32, 98, 32, 38, 32, 109, 10, 109, 32, 61, 32, 109, 32, 94, 32, 49, 53, 10, 109, 32, 61, 32, 51, 32, 38, 32, 109, 10, 114, 32, 61, 32, 114, 32, 124, 32, 109, 10], [115, 101, 99, 114, 101, 116, 32, 97, 10, 112, 117, 98, 108, 105, 99, 32, 98, 10, 118, 97, 114, 32, 109, 10, 109, 32, 61, 32, 97, 32, 61, 61, 32, 98, 10, 111, 117, 116, 32, 109, 10], [115, 101, 99, 114, 101, 116, 32, 97, 10, 118, 97, 114, 32, 109, 10, 109, 32, 61, 32, 97, 32, 94, 32, 97, 10, 111, 117, 116, 32, 109, 10], [115, 101, 99, 114, 101, 116, 32, 97, 10, 118, 97, 114, 32, 109, 10, 109, 32, 61, 32, 97, 32, 60, 60, 32, 51, 10, 109, 32, 61, 32, 109, 32, 60, 60, 32, 49, 10, 105, 102, 32, 109, 10, 111, 117, 116, 32, 49, 10, 101, 110, 100, 10], [115, 101, 99, 114, 101, 116, 32, 97, 10, 118, 97, 114, 32, 109, 10, 109, 32, 61, 32, 97, 32, 60, 60, 32, 51, 10, 105, 102, 32, 109, 10, 111, 117, 116, 32, 49, 10, 101, 110, 100, 10], [115, 101, 99, 114, 101, 116, 32, 97, 10, 115, 101, 99, 114, 101, 116, 32, 98, 10, 118, 97, 114, 32, 109, 10, 109, 32, 61, 32, 97, 32, 45, 32, 98, 10, 109, 32, 61, 32, 109, 32, 43, 32, 98, 10, 109, 32, 61, 32, 109, 32, 94, 32, 97, 10, 105, 102, 32, 109, 10, 101, 110, 100, 10], [115, 101, 99, 114, 101, 116, 32, 97, 10, 115, 101, 99, 114, 101, 116, 32, 98, 10, 118, 97, 114, 32, 109, 10, 109, 32, 61, 32, 97, 32, 60, 32, 98, 10, 105, 102, 32, 109, 10, 101, 110, 100, 10], [115, 101, 99, 114, 101, 116, 32, 97, 10, 118, 97, 114, 32, 120, 10, 97, 114, 114, 97, 121, 32, 116, 32, 51, 10, 97, 32, 61, 32, 97, 32, 38, 32, 49, 10, 97, 32, 61, 32, 97, 32, 43, 32, 50, 10, 97, 32, 61, 32, 97, 32, 38, 32, 50, 10, 108, 111, 97, 100, 32, 120, 32, 116, 32, 97, 10], [115, 101, 99, 114, 101, 116, 32, 97, 10, 118, 97, 114, 32, 120, 10, 97, 114, 114, 97, 121, 32, 116, 32, 50, 10, 120, 32, 61, 32, 97, 32, 62, 62, 32, 51, 10, 108, 111, 97, 100, 32, 120, 32, 116, 32, 50, 10, 111, 117, 116, 32, 97, 10], [115, 101, 99, 114, 101, 116, 32, 97, 10, 112, 117, 98, 108, 105, 99, 32, 98, 10, 105, 102, 32, 98, 10, 111, 117, 116, 32, 97, 10, 101, 108, 115, 101, 10, 111, 117, 116, 32, 48, 10, 101, 110, 100, 10], [112, 117, 98, 108, 105, 99, 32, 98, 10, 115, 101, 99, 114, 101, 116, 32, 97, 10, 118, 97, 114, 32, 99, 10, 99, 32, 61, 32, 98, 32, 94, 32, 98, 10, 105, 102, 32, 99, 10, 111, 117, 116, 32, 97, 10, 101, 110, 100, 10], [115, 101, 99, 114, 101, 116, 32, 97, 10, 118, 97, 114, 32, 99, 10, 97, 114, 114, 97, 121, 32, 116, 32, 50, 10, 99, 32, 61, 32, 97, 32, 38, 32, 49, 10, 115, 116, 111, 114, 101, 32, 116, 32, 99, 32, 53, 10], [115, 101, 99, 114, 101, 116, 32, 97, 10, 97, 114, 114, 97, 121, 32, 116, 32, 50, 10, 118, 97, 114, 32, 99, 10, 118, 97, 114, 32, 100, 10, 115, 116, 111, 114, 101, 32, 116, 32, 48, 32, 97, 10, 108, 111, 97, 100, 32, 99, 32, 116, 32, 49, 10, 105, 102, 32, 99, 10, 101, 110, 100, 10, 108, 111, 97, 100, 32, 100, 32, 116, 32, 48, 10, 100, 32, 61, 32, 100, 32, 62, 62, 32, 52, 10, 105, 102, 32, 100, 10, 101, 110, 100, 10], [115, 101, 99, 114, 101, 116, 32, 97, 10, 105, 102, 32, 49, 10, 119, 104, 105, 108, 101, 32, 48, 10, 111, 117, 116, 32, 97, 10, 101, 110, 100, 10, 101, 108, 115, 101, 10, 111, 117, 116, 32, 97, 10, 101, 110, 100, 10], [115, 101, 99, 114, 101, 116, 32, 97, 10, 115, 101, 99, 114, 101, 116, 32, 98, 10, 118, 97, 114, 32, 109, 10, 118, 97, 114, 32, 110, 10, 109, 32, 61, 32, 97, 32, 42, 32, 98, 10, 110, 32, 61, 32, 98, 32, 42, 32, 97, 10, 109, 32, 61, 32, 109, 32, 45, 32, 110, 10, 111, 117, 116, 32, 109, 10], [115, 101, 99, 114, 101, 116, 32, 97, 10, 115, 101, 99, 114, 101, 116, 32, 98, 10, 118, 97, 114, 32, 109, 10, 109, 32, 61, 32, 97, 32, 42, 32, 98, 10, 109, 32, 61, 32, 109, 32, 61, 61, 32, 49, 53, 10, 105, 102, 32, 109, 10, 101, 110, 100, 10], [115, 101, 99, 114, 101, 116, 32, 97, 10, 97, 32, 61, 32, 97, 32, 38, 32, 56, 10, 111, 117, 116, 32, 97, 10], [115, 101, 99, 114, 101, 116, 32, 97, 10, 118, 97, 114, 32, 120, 10, 97, 114, 114, 97, 121, 32, 116, 32, 52, 10, 97, 32, 61, 32, 97, 32, 38, 32, 56, 10, 108, 111, 97, 100, 32, 120, 32, 116, 32, 97, 10], [115, 101, 99, 114, 101, 116, 32, 97, 10, 118, 97, 114, 32, 120, 10, 97, 114, 114, 97, 121, 32, 116, 32, 49, 10, 97, 32, 61, 32, 97, 32, 38, 32, 56, 10, 115, 116, 111, 114, 101, 32, 116, 32, 48, 32, 97, 10, 108, 111, 97, 100, 32, 120, 32, 116, 32, 48, 10, 111, 117, 116, 32, 120, 10], [115, 101, 99, 114, 101, 116, 32, 97, 10, 112, 117, 98, 108, 105, 99, 32, 98, 10, 118, 97, 114, 32, 120, 10, 97, 114, 114, 97, 121, 32, 116, 32, 50, 10, 105, 102, 32, 98, 10, 115, 116, 111, 114, 101, 32, 116, 32, 48, 32, 97, 10, 101, 108, 115, 101, 10, 115, 116, 111, 114, 101, 32, 116, 32, 49, 32, 97, 10, 101, 110, 100, 10, 108, 111, 97, 100, 32, 120, 32, 116, 32, 48, 10, 105, 102, 32, 98, 10, 111, 117, 116, 32, 49, 10, 101, 108, 115, 101, 10, 111, 117, 116, 32, 120, 10, 101, 110, 100, 10], [115, 101, 99, 114, 101, 116, 32, 97, 10, 115, 101, 99, 114, 101, 116, 32, 98, 10, 118, 97, 114, 32, 109, 10, 109, 32, 61, 32, 97, 32, 43, 32, 49, 10, 109, 32, 61, 32, 109, 32, 42, 32, 98, 10, 109, 32, 61, 32, 109, 32, 42, 32, 97, 10, 109, 32, 61, 32, 109, 32, 42, 32, 98, 10, 109, 32, 61, 32, 109, 32, 43, 32, 97, 10, 109, 32, 61, 32, 109, 32, 42, 32, 98, 10, 109, 32, 61, 32, 109, 32, 42, 32, 109, 10, 109, 32, 61, 32, 109, 32, 42, 32, 98, 10, 111, 117, 116, 32, 109, 10]]
def kats : List Int := [(-1), 0, (-1), (-1), 0, (-1), 0, 2, (-1), 1, (-1), (-1), 1, (-1), 1, (-1), (-1), 1, (-1), 1, (-1), (-1), (-1), 2, 1, 1, 3, (-1), 8]
def ktx (i : Nat) : List UInt8 := ktxs.getD i []
def kat (i : Nat) : Int := kats.getD i 0
def kcells : Array Value := #[.string ⟨#[]⟩, .int .i64 (-1), .string ⟨#[115, 101, 99, 114, 101, 116, 32, 97, 10, 105, 102, 32, 97, 10, 101, 110, 100, 10]⟩, .int .i64 0, .string ⟨#[112, 117, 98, 108, 105, 99, 32, 97, 10, 105, 102, 32, 97, 10, 101, 110, 100, 10]⟩, .int .i64 (-1), .string ⟨#[115, 101, 99, 114, 101, 116, 32, 97, 10, 118, 97, 114, 32, 120, 10, 120, 32, 61, 32, 97, 32, 42, 32, 97, 10]⟩, .int .i64 (-1), .string ⟨#[115, 101, 99, 114, 101, 116, 32, 97, 10, 119, 104, 105, 108, 101, 32, 97, 10, 97, 32, 61, 32, 97, 32, 45, 32, 49, 10, 101, 110, 100, 10]⟩, .int .i64 0, .string ⟨#[112, 117, 98, 108, 105, 99, 32, 110, 10, 115, 101, 99, 114, 101, 116, 32, 97, 10, 119, 104, 105, 108, 101, 32, 110, 10, 110, 32, 61, 32, 110, 32, 45, 32, 49, 10, 97, 32, 61, 32, 97, 32, 43, 32, 97, 10, 101, 110, 100, 10, 111, 117, 116, 32, 51, 10]⟩, .int .i64 (-1), .string ⟨#[115, 101, 99, 114, 101, 116, 32, 105, 10, 118, 97, 114, 32, 120, 10, 97, 114, 114, 97, 121, 32, 116, 32, 52, 10, 108, 111, 97, 100, 32, 120, 32, 116, 32, 105, 10]⟩, .int .i64 0, .string ⟨#[115, 101, 99, 114, 101, 116, 32, 105, 10, 118, 97, 114, 32, 120, 10, 97, 114, 114, 97, 121, 32, 116, 32, 52, 10, 115, 116, 111, 114, 101, 32, 116, 32, 48, 32, 105, 10, 108, 111, 97, 100, 32, 120, 32, 116, 32, 48, 10, 105, 102, 32, 120, 10, 101, 110, 100, 10]⟩, .int .i64 2, .string ⟨#[115, 101, 99, 114, 101, 116, 32, 97, 10, 112, 117, 98, 108, 105, 99, 32, 98, 10, 118, 97, 114, 32, 109, 10, 118, 97, 114, 32, 114, 10, 109, 32, 61, 32, 97, 32, 38, 32, 49, 10, 109, 32, 61, 32, 48, 32, 45, 32, 109, 10, 114, 32, 61, 32, 98, 32, 38, 32, 109, 10, 109, 32, 61, 32, 109, 32, 94, 32, 49, 53, 10, 109, 32, 61, 32, 51, 32, 38, 32, 109, 10, 114, 32, 61, 32, 114, 32, 124, 32, 109, 10]⟩, .int .i64 (-1), .string ⟨#[115, 101, 99, 114, 101, 116, 32, 97, 10, 112, 117, 98, 108, 105, 99, 32, 98, 10, 118, 97, 114, 32, 109, 10, 109, 32, 61, 32, 97, 32, 61, 61, 32, 98, 10, 111, 117, 116, 32, 109, 10]⟩, .int .i64 1, .string ⟨#[115, 101, 99, 114, 101, 116, 32, 97, 10, 118, 97, 114, 32, 109, 10, 109, 32, 61, 32, 97, 32, 94, 32, 97, 10, 111, 117, 116, 32, 109, 10]⟩, .int .i64 (-1), .string ⟨#[115, 101, 99, 114, 101, 116, 32, 97, 10, 118, 97, 114, 32, 109, 10, 109, 32, 61, 32, 97, 32, 60, 60, 32, 51, 10, 109, 32, 61, 32, 109, 32, 60, 60, 32, 49, 10, 105, 102, 32, 109, 10, 111, 117, 116, 32, 49, 10, 101, 110, 100, 10]⟩, .int .i64 (-1), .string ⟨#[115, 101, 99, 114, 101, 116, 32, 97, 10, 118, 97, 114, 32, 109, 10, 109, 32, 61, 32, 97, 32, 60, 60, 32, 51, 10, 105, 102, 32, 109, 10, 111, 117, 116, 32, 49, 10, 101, 110, 100, 10]⟩, .int .i64 1, .string ⟨#[115, 101, 99, 114, 101, 116, 32, 97, 10, 115, 101, 99, 114, 101, 116, 32, 98, 10, 118, 97, 114, 32, 109, 10, 109, 32, 61, 32, 97, 32, 45, 32, 98, 10, 109, 32, 61, 32, 109, 32, 43, 32, 98, 10, 109, 32, 61, 32, 109, 32, 94, 32, 97, 10, 105, 102, 32, 109, 10, 101, 110, 100, 10]⟩, .int .i64 (-1), .string ⟨#[115, 101, 99, 114, 101, 116, 32, 97, 10, 115, 101, 99, 114, 101, 116, 32, 98, 10, 118, 97, 114, 32, 109, 10, 109, 32, 61, 32, 97, 32, 60, 32, 98, 10, 105, 102, 32, 109, 10, 101, 110, 100, 10]⟩, .int .i64 1, .string ⟨#[115, 101, 99, 114, 101, 116, 32, 97, 10, 118, 97, 114, 32, 120, 10, 97, 114, 114, 97, 121, 32, 116, 32, 51, 10, 97, 32, 61, 32, 97, 32, 38, 32, 49, 10, 97, 32, 61, 32, 97, 32, 43, 32, 50, 10, 97, 32, 61, 32, 97, 32, 38, 32, 50, 10, 108, 111, 97, 100, 32, 120, 32, 116, 32, 97, 10]⟩, .int .i64 (-1), .string ⟨#[115, 101, 99, 114, 101, 116, 32, 97, 10, 118, 97, 114, 32, 120, 10, 97, 114, 114, 97, 121, 32, 116, 32, 50, 10, 120, 32, 61, 32, 97, 32, 62, 62, 32, 51, 10, 108, 111, 97, 100, 32, 120, 32, 116, 32, 50, 10, 111, 117, 116, 32, 97, 10]⟩, .int .i64 (-1), .string ⟨#[115, 101, 99, 114, 101, 116, 32, 97, 10, 112, 117, 98, 108, 105, 99, 32, 98, 10, 105, 102, 32, 98, 10, 111, 117, 116, 32, 97, 10, 101, 108, 115, 101, 10, 111, 117, 116, 32, 48, 10, 101, 110, 100, 10]⟩, .int .i64 1, .string ⟨#[112, 117, 98, 108, 105, 99, 32, 98, 10, 115, 101, 99, 114, 101, 116, 32, 97, 10, 118, 97, 114, 32, 99, 10, 99, 32, 61, 32, 98, 32, 94, 32, 98, 10, 105, 102, 32, 99, 10, 111, 117, 116, 32, 97, 10, 101, 110, 100, 10]⟩, .int .i64 (-1), .string ⟨#[115, 101, 99, 114, 101, 116, 32, 97, 10, 118, 97, 114, 32, 99, 10, 97, 114, 114, 97, 121, 32, 116, 32, 50, 10, 99, 32, 61, 32, 97, 32, 38, 32, 49, 10, 115, 116, 111, 114, 101, 32, 116, 32, 99, 32, 53, 10]⟩, .int .i64 1, .string ⟨#[115, 101, 99, 114, 101, 116, 32, 97, 10, 97, 114, 114, 97, 121, 32, 116, 32, 50, 10, 118, 97, 114, 32, 99, 10, 118, 97, 114, 32, 100, 10, 115, 116, 111, 114, 101, 32, 116, 32, 48, 32, 97, 10, 108, 111, 97, 100, 32, 99, 32, 116, 32, 49, 10, 105, 102, 32, 99, 10, 101, 110, 100, 10, 108, 111, 97, 100, 32, 100, 32, 116, 32, 48, 10, 100, 32, 61, 32, 100, 32, 62, 62, 32, 52, 10, 105, 102, 32, 100, 10, 101, 110, 100, 10]⟩, .int .i64 (-1), .string ⟨#[115, 101, 99, 114, 101, 116, 32, 97, 10, 105, 102, 32, 49, 10, 119, 104, 105, 108, 101, 32, 48, 10, 111, 117, 116, 32, 97, 10, 101, 110, 100, 10, 101, 108, 115, 101, 10, 111, 117, 116, 32, 97, 10, 101, 110, 100, 10]⟩, .int .i64 (-1), .string ⟨#[115, 101, 99, 114, 101, 116, 32, 97, 10, 115, 101, 99, 114, 101, 116, 32, 98, 10, 118, 97, 114, 32, 109, 10, 118, 97, 114, 32, 110, 10, 109, 32, 61, 32, 97, 32, 42, 32, 98, 10, 110, 32, 61, 32, 98, 32, 42, 32, 97, 10, 109, 32, 61, 32, 109, 32, 45, 32, 110, 10, 111, 117, 116, 32, 109, 10]⟩, .int .i64 (-1), .string ⟨#[115, 101, 99, 114, 101, 116, 32, 97, 10, 115, 101, 99, 114, 101, 116, 32, 98, 10, 118, 97, 114, 32, 109, 10, 109, 32, 61, 32, 97, 32, 42, 32, 98, 10, 109, 32, 61, 32, 109, 32, 61, 61, 32, 49, 53, 10, 105, 102, 32, 109, 10, 101, 110, 100, 10]⟩, .int .i64 2, .string ⟨#[115, 101, 99, 114, 101, 116, 32, 97, 10, 97, 32, 61, 32, 97, 32, 38, 32, 56, 10, 111, 117, 116, 32, 97, 10]⟩, .int .i64 1, .string ⟨#[115, 101, 99, 114, 101, 116, 32, 97, 10, 118, 97, 114, 32, 120, 10, 97, 114, 114, 97, 121, 32, 116, 32, 52, 10, 97, 32, 61, 32, 97, 32, 38, 32, 56, 10, 108, 111, 97, 100, 32, 120, 32, 116, 32, 97, 10]⟩, .int .i64 1, .string ⟨#[115, 101, 99, 114, 101, 116, 32, 97, 10, 118, 97, 114, 32, 120, 10, 97, 114, 114, 97, 121, 32, 116, 32, 49, 10, 97, 32, 61, 32, 97, 32, 38, 32, 56, 10, 115, 116, 111, 114, 101, 32, 116, 32, 48, 32, 97, 10, 108, 111, 97, 100, 32, 120, 32, 116, 32, 48, 10, 111, 117, 116, 32, 120, 10]⟩, .int .i64 3, .string ⟨#[115, 101, 99, 114, 101, 116, 32, 97, 10, 112, 117, 98, 108, 105, 99, 32, 98, 10, 118, 97, 114, 32, 120, 10, 97, 114, 114, 97, 121, 32, 116, 32, 50, 10, 105, 102, 32, 98, 10, 115, 116, 111, 114, 101, 32, 116, 32, 48, 32, 97, 10, 101, 108, 115, 101, 10, 115, 116, 111, 114, 101, 32, 116, 32, 49, 32, 97, 10, 101, 110, 100, 10, 108, 111, 97, 100, 32, 120, 32, 116, 32, 48, 10, 105, 102, 32, 98, 10, 111, 117, 116, 32, 49, 10, 101, 108, 115, 101, 10, 111, 117, 116, 32, 120, 10, 101, 110, 100, 10]⟩, .int .i64 (-1), .string ⟨#[115, 101, 99, 114, 101, 116, 32, 97, 10, 115, 101, 99, 114, 101, 116, 32, 98, 10, 118, 97, 114, 32, 109, 10, 109, 32, 61, 32, 97, 32, 43, 32, 49, 10, 109, 32, 61, 32, 109, 32, 42, 32, 98, 10, 109, 32, 61, 32, 109, 32, 42, 32, 97, 10, 109, 32, 61, 32, 109, 32, 42, 32, 98, 10, 109, 32, 61, 32, 109, 32, 43, 32, 97, 10, 109, 32, 61, 32, 109, 32, 42, 32, 98, 10, 109, 32, 61, 32, 109, 32, 42, 32, 109, 10, 109, 32, 61, 32, 109, 32, 42, 32, 98, 10, 111, 117, 116, 32, 109, 10]⟩, .int .i64 8]
set_option maxRecDepth 100000 in
theorem kcells_at : ∀ i, i < 29 → kcells[i * 2]? = some (.string ⟨(ktx i).toArray⟩) ∧ kcells[i * 2 + 1]? = some (.int .i64 (kat i))
  | 0, _ => ⟨rfl, rfl⟩
  | 1, _ => ⟨rfl, rfl⟩
  | 2, _ => ⟨rfl, rfl⟩
  | 3, _ => ⟨rfl, rfl⟩
  | 4, _ => ⟨rfl, rfl⟩
  | 5, _ => ⟨rfl, rfl⟩
  | 6, _ => ⟨rfl, rfl⟩
  | 7, _ => ⟨rfl, rfl⟩
  | 8, _ => ⟨rfl, rfl⟩
  | 9, _ => ⟨rfl, rfl⟩
  | 10, _ => ⟨rfl, rfl⟩
  | 11, _ => ⟨rfl, rfl⟩
  | 12, _ => ⟨rfl, rfl⟩
  | 13, _ => ⟨rfl, rfl⟩
  | 14, _ => ⟨rfl, rfl⟩
  | 15, _ => ⟨rfl, rfl⟩
  | 16, _ => ⟨rfl, rfl⟩
  | 17, _ => ⟨rfl, rfl⟩
  | 18, _ => ⟨rfl, rfl⟩
  | 19, _ => ⟨rfl, rfl⟩
  | 20, _ => ⟨rfl, rfl⟩
  | 21, _ => ⟨rfl, rfl⟩
  | 22, _ => ⟨rfl, rfl⟩
  | 23, _ => ⟨rfl, rfl⟩
  | 24, _ => ⟨rfl, rfl⟩
  | 25, _ => ⟨rfl, rfl⟩
  | 26, _ => ⟨rfl, rfl⟩
  | 27, _ => ⟨rfl, rfl⟩
  | 28, _ => ⟨rfl, rfl⟩
  | n + 29, h => absurd h (by omega)
theorem ktx_ok0 : (Lk.read (ktx 0)).2 = 0 := by kernel_rfl
theorem ktx_ok1 : (Lk.read (ktx 1)).2 = 0 := by kernel_rfl
theorem ktx_ok2 : (Lk.read (ktx 2)).2 = 0 := by kernel_rfl
theorem ktx_ok3 : (Lk.read (ktx 3)).2 = 0 := by kernel_rfl
theorem ktx_ok4 : (Lk.read (ktx 4)).2 = 0 := by kernel_rfl
theorem ktx_ok5 : (Lk.read (ktx 5)).2 = 0 := by kernel_rfl
theorem ktx_ok6 : (Lk.read (ktx 6)).2 = 0 := by kernel_rfl
theorem ktx_ok7 : (Lk.read (ktx 7)).2 = 0 := by kernel_rfl
theorem ktx_ok8 : (Lk.read (ktx 8)).2 = 0 := by kernel_rfl
theorem ktx_ok9 : (Lk.read (ktx 9)).2 = 0 := by kernel_rfl
theorem ktx_ok10 : (Lk.read (ktx 10)).2 = 0 := by kernel_rfl
theorem ktx_ok11 : (Lk.read (ktx 11)).2 = 0 := by kernel_rfl
theorem ktx_ok12 : (Lk.read (ktx 12)).2 = 0 := by kernel_rfl
theorem ktx_ok13 : (Lk.read (ktx 13)).2 = 0 := by kernel_rfl
theorem ktx_ok14 : (Lk.read (ktx 14)).2 = 0 := by kernel_rfl
theorem ktx_ok15 : (Lk.read (ktx 15)).2 = 0 := by kernel_rfl
theorem ktx_ok16 : (Lk.read (ktx 16)).2 = 0 := by kernel_rfl
theorem ktx_ok17 : (Lk.read (ktx 17)).2 = 0 := by kernel_rfl
theorem ktx_ok18 : (Lk.read (ktx 18)).2 = 0 := by kernel_rfl
theorem ktx_ok19 : (Lk.read (ktx 19)).2 = 0 := by kernel_rfl
theorem ktx_ok20 : (Lk.read (ktx 20)).2 = 0 := by kernel_rfl
theorem ktx_ok21 : (Lk.read (ktx 21)).2 = 0 := by kernel_rfl
theorem ktx_ok22 : (Lk.read (ktx 22)).2 = 0 := by kernel_rfl
theorem ktx_ok23 : (Lk.read (ktx 23)).2 = 0 := by kernel_rfl
theorem ktx_ok24 : (Lk.read (ktx 24)).2 = 0 := by kernel_rfl
theorem ktx_ok25 : (Lk.read (ktx 25)).2 = 0 := by kernel_rfl
theorem ktx_ok26 : (Lk.read (ktx 26)).2 = 0 := by kernel_rfl
theorem ktx_ok27 : (Lk.read (ktx 27)).2 = 0 := by kernel_rfl
theorem ktx_ok28 : (Lk.read (ktx 28)).2 = 0 := by kernel_rfl
theorem ktx_ok : ∀ i, i < 29 → (Lk.read (ktx i)).2 = 0
  | 0, _ => ktx_ok0
  | 1, _ => ktx_ok1
  | 2, _ => ktx_ok2
  | 3, _ => ktx_ok3
  | 4, _ => ktx_ok4
  | 5, _ => ktx_ok5
  | 6, _ => ktx_ok6
  | 7, _ => ktx_ok7
  | 8, _ => ktx_ok8
  | 9, _ => ktx_ok9
  | 10, _ => ktx_ok10
  | 11, _ => ktx_ok11
  | 12, _ => ktx_ok12
  | 13, _ => ktx_ok13
  | 14, _ => ktx_ok14
  | 15, _ => ktx_ok15
  | 16, _ => ktx_ok16
  | 17, _ => ktx_ok17
  | 18, _ => ktx_ok18
  | 19, _ => ktx_ok19
  | 20, _ => ktx_ok20
  | 21, _ => ktx_ok21
  | 22, _ => ktx_ok22
  | 23, _ => ktx_ok23
  | 24, _ => ktx_ok24
  | 25, _ => ktx_ok25
  | 26, _ => ktx_ok26
  | 27, _ => ktx_ok27
  | 28, _ => ktx_ok28
  | n + 29, h => absurd h (by omega)
abbrev repZ : Obj := .cells #[.int .i64 0, .slice none 0 0, .slice none 0 0, .int .i64 0, .int .i64 0, .string ⟨#[]⟩, .string ⟨#[]⟩, .int .i64 0, .int .i64 0] 29
theorem rep_kd {G : Prop} {X w1 : World} (hb : Below (X.alloc (.cells #[.int .i64 0, .slice none 0 0, .slice none 0 0, .int .i64 0, .int .i64 0, .string ⟨#[]⟩, .string ⟨#[]⟩, .int .i64 0, .int .i64 0] 29)).drew.heap.size (X.alloc (.cells #[.int .i64 0, .slice none 0 0, .slice none 0 0, .int .i64 0, .int .i64 0, .string ⟨#[]⟩, .string ⟨#[]⟩, .int .i64 0, .int .i64 0] 29)).drew w1)
    (k : (∀ i, i < 9 → ∃ v, w1.cell? ⟨X.heap.size, i, none⟩ = some v) → (w1.cell? ⟨X.heap.size, 0, none⟩ = some (.int .i64 0)) → (w1.cell? ⟨X.heap.size, 1, none⟩ = some (.slice none 0 0)) → (w1.cell? ⟨X.heap.size, 2, none⟩ = some (.slice none 0 0)) → (w1.cell? ⟨X.heap.size, 3, none⟩ = some (.int .i64 0)) → (w1.cell? ⟨X.heap.size, 4, none⟩ = some (.int .i64 0)) → (w1.cell? ⟨X.heap.size, 5, none⟩ = some (.string ⟨#[]⟩)) → (w1.cell? ⟨X.heap.size, 6, none⟩ = some (.string ⟨#[]⟩)) → (w1.cell? ⟨X.heap.size, 7, none⟩ = some (.int .i64 0)) → (w1.cell? ⟨X.heap.size, 8, none⟩ = some (.int .i64 0)) → (∀ i, w1.frozen? ⟨X.heap.size, i, none⟩ = false) → G) : G := by
  obtain ⟨c0, c1, c2, c3, c4, c5, c6, c7, c8, cf⟩ := rep_facts1 (w := X) (w1 := w1) ⟨hb.os, hb.tape, hb.output, hb.size, hb.block⟩
  refine k (fun i hi => ?_) c0 c1 c2 c3 c4 c5 c6 c7 c8 cf
  match i, hi with
  | 0, _ => exact ⟨_, c0⟩
  | 1, _ => exact ⟨_, c1⟩
  | 2, _ => exact ⟨_, c2⟩
  | 3, _ => exact ⟨_, c3⟩
  | 4, _ => exact ⟨_, c4⟩
  | 5, _ => exact ⟨_, c5⟩
  | 6, _ => exact ⟨_, c6⟩
  | 7, _ => exact ⟨_, c7⟩
  | 8, _ => exact ⟨_, c8⟩
  | n + 9, h => omega
theorem bel9 {B b : Nat} {w X : World} (h : Below B w X) (hb : B ≤ b) (u0 u1 u2 u3 u4 u5 u6 u7 u8 : Value) :
    Below B w (((((((((X.setCell ⟨b, 0, none⟩ u0).setCell ⟨b, 1, none⟩ u1).setCell ⟨b, 2, none⟩ u2).setCell ⟨b, 3, none⟩ u3).setCell ⟨b, 4, none⟩ u4).setCell ⟨b, 5, none⟩ u5).setCell ⟨b, 6, none⟩ u6).setCell ⟨b, 7, none⟩ u7).setCell ⟨b, 8, none⟩ u8) :=
  ((((((((h.setCell hb u0).setCell hb u1).setCell hb u2).setCell hb u3).setCell hb u4).setCell hb u5).setCell hb u6).setCell hb u7).setCell hb u8
def KnAt (w : World) (g : Nat) : Prop := ∀ i, i < 29 → w.cell? ⟨g, i * 2, none⟩ = some (.string ⟨(ktx i).toArray⟩) ∧ w.cell? ⟨g, i * 2 + 1, none⟩ = some (.int .i64 (kat i))
set_option maxRecDepth 100000 in
set_option maxHeartbeats 2000000 in
theorem knowns_any (w : World) :
    Calls Tryd.prog 23 #[] w fun e w' => e = .returned (.slice (some ⟨w.heap.size, 0, none⟩) 29 29) ∧ KnAt w' w.heap.size ∧ Below w.heap.size w w' := by
  go_enter Tryd.func23, Tryd.ntmps23
  go_wp2_with fail
  go_ret
  refine ⟨rfl, fun i hi => ⟨?_, ?_⟩, (Below.refl _ _).alloc (Nat.le_refl _) _⟩
  · exact newAt w kcells 69 (i * 2) _ (kcells_at i hi).1
  · exact newAt w kcells 69 (i * 2 + 1) _ (kcells_at i hi).2
set_option maxRecDepth 100000 in
set_option maxHeartbeats 2000000 in
theorem answers_any (ck : AllChk) (a : Int) (ha : I64 a) (w : World) (hw : Tab w) :
    Calls Tryd.prog 10 #[.int .i64 a] w fun e w' => e = .returned (.bool true) ∧ Below w.heap.size w w' := by
  have h29 := pk_lt a 29 (by omega)
  have HCK := hid ck
  have HTB := hid (fun (W : World) (h : Below w.heap.size w W) => tab_on hw h)
  clear ck hw
  have h11 := pk_lt a 11 (by omega)
  have HP : Hid (∀ W : World, Calls Tryd.prog 24 #[.int .i64 a, .int .i64 29] W fun e w' => e = .returned (.int .i64 (pk a 29)) ∧ w' = W) := fun W => pick29 a ha W
  have HS : Hid (∀ W : World, Calls Tryd.prog 12 #[.int .i64 a] W fun e w' => e = .returned (.int .i64 (pk a 11)) ∧ w' = W) := fun W => steps_any a ha W
  generalize pk a 29 = i at h29 HP
  generalize pk a 11 = k at h11 HS
  have HO : Hid ((Lk.read (⟨(ktx i).toArray⟩ : ByteArray).toList).2 = 0) := by
    show _ = _
    rw [ByteArray.toList_mk]; exact ktx_ok i h29
  have hiI : (i : Int) < 29 := by omega
  have hi0 : (0 : Int) ≤ (i : Int) := by omega
  clear ha
  go_enter Tryd.func10, Tryd.ntmps10
  go_wp2_with (first
    | (go_at_call 23; refine (knowns_any _).mono ?_; rintro e w1 ⟨rfl, hk, hb1⟩; have HB1 := hid hb1; have z1 := hb1.size; have x0 := (hk _ h29).1; have x1 := (hk _ h29).2; have xl := World.block_lt_of_cell? w1 _ x0; clear hk hb1)
    | (go_at_call 24; refine (HP.out _).mono ?_; rintro e w0 ⟨rfl, hw0⟩; have hw1 := hw0.symm; subst hw1))
  go_cut [5, 6] (fun v5 v6 wc => ∃ v : Int, v5 = .int .i64 v ∧ (v = 1 ∨ v = 2) ∧ Below w.heap.size w wc)
  case first =>
    go_region_with (first
      | (go_at_call 12; refine (HS.out _).mono ?_; rintro e w0 ⟨rfl, hw0⟩; have hw1 := hw0.symm; subst hw1)
      | (go_at_call 25; refine (kc_prog HCK.out _ k _ (HTB.out _ ?_) ?_ HO.out).mono ?_; (first | exact (HB1.out.alloc z1 _).drew | (refine Below.drew (Below.alloc (HB1.out.alloc z1 _) ?_ _); simp only [World.size_alloc]; omega)); omega; rintro e w3 ⟨v, a1, n1, c1, a2, n2, c2, t, x, rfl, hv, hb3⟩; have HB3 := hid hb3; have HV := hid hv; have z3 := hb3.size; simp at z3; (first | (with_reducible refine rep_kd hb3 ?_; intro _ c0 c1 c2 c3 c4 c5 c6 c7 c8 cf; simp only [World.size_alloc] at c0 c1 c2 c3 c4 c5 c6 c7 c8 cf) | skip); clear hb3 hv))
    all_goals go_wp2_with fail
    all_goals go_meet
    all_goals refine ⟨v, rfl, HV.out, ?_⟩
    all_goals first
      | (with_reducible refine bel9 ?_ ?_ _ _ _ _ _ _ _ _ _; exact ((HB1.out.alloc z1 _).alloc (by simp; omega) _).drew.trans (HB3.out.mono (by simp; omega)); omega)
      | (with_reducible refine Below.alloc ?_ ?_ _; exact (HB1.out.alloc z1 _).drew.trans (HB3.out.mono (by simp; omega)); omega)
  case rest =>
    obtain ⟨v, rfl, hv, hb⟩ := hcut
    have HB := hid hb
    clear hb
    rcases hv with rfl | rfl
    · go_wp2_with fail
      go_ret
      exact ⟨rfl, HB.out⟩
    · go_wp2_with fail
      go_ret
      exact ⟨rfl, HB.out⟩
set_option maxHeartbeats 400000 in
theorem pick3000 (c : Int) (hc : I64 c) (w : World) :
    Calls Tryd.prog 24 #[.int .i64 c, .int .i64 3000] w fun e w' => e = .returned (.int .i64 (pk c 3000)) ∧ w' = w := by
  have q := pk_lt c 3000 (by omega)
  unfold pk at q ⊢
  by_cases h : c < 0
  · rw [if_pos h] at q ⊢
    go_enter Tryd.func24, Tryd.ntmps24
    go_wp2
    go_ret
    have e : -(c + 1).tmod 3000 = (-(c + 1)) % 3000 := by rw [← Int.neg_tmod, Int.tmod_eq_emod_of_nonneg (by omega)]
    have b1 := Int.emod_nonneg (-(c + 1)) (show (3000 : Int) ≠ 0 by omega)
    exact ⟨ret_int (e.trans (by omega)), rfl⟩
  · rw [if_neg h] at q ⊢
    have h0 : 0 ≤ c := by omega
    go_enter Tryd.func24, Tryd.ntmps24
    go_wp2
    go_ret
    exact ⟨ret_int (by omega), rfl⟩
set_option maxHeartbeats 400000 in
theorem pick40 (c : Int) (hc : I64 c) (w : World) :
    Calls Tryd.prog 24 #[.int .i64 c, .int .i64 40] w fun e w' => e = .returned (.int .i64 (pk c 40)) ∧ w' = w := by
  have q := pk_lt c 40 (by omega)
  unfold pk at q ⊢
  by_cases h : c < 0
  · rw [if_pos h] at q ⊢
    go_enter Tryd.func24, Tryd.ntmps24
    go_wp2
    go_ret
    have e : -(c + 1).tmod 40 = (-(c + 1)) % 40 := by rw [← Int.neg_tmod, Int.tmod_eq_emod_of_nonneg (by omega)]
    have b1 := Int.emod_nonneg (-(c + 1)) (show (40 : Int) ≠ 0 by omega)
    exact ⟨ret_int (e.trans (by omega)), rfl⟩
  · rw [if_neg h] at q ⊢
    have h0 : 0 ≤ c := by omega
    go_enter Tryd.func24, Tryd.ntmps24
    go_wp2
    go_ret
    exact ⟨ret_int (by omega), rfl⟩
end Go.Proofs.YtgddmpmcnjlcjabDoor
