import Derived.Test.YtgddmpmcnjlcjaaDoorB36
import Derived.OwnWalk
import Derived.Deep.QuietTactic
import Derived.BigQuiet
namespace Go.Proofs.YtgddmpmcnjlcjaaDoor
open Go.RowKit
set_option linter.unusedVariables false
def NatsAt (w : World) (a : Option Addr) (n : Nat) (f : Nat → Nat) : Prop := 0 < n → ∃ g, a = some ⟨g, 0, none⟩ ∧ g < w.heap.size ∧ ∀ i, i < n → w.cell? ⟨g, i, none⟩ = some (.int .i64 (f i))
theorem NatsAt.same {w w' : World} {a : Option Addr} {n : Nat} {f : Nat → Nat} (h : NatsAt w a n f) (hb : Below w.heap.size w w') : NatsAt w' a n f := by
  intro hn
  obtain ⟨g, e, hg, hc⟩ := h hn
  exact ⟨g, e, Nat.lt_of_lt_of_le hg hb.size, fun i hi => cell_later hb (hc i hi)⟩
theorem NatsAt.of {w : World} {base e : Nat} {a : Option Addr} {c : Nat} {l : List Nat} {n : Nat} (hn : l.length = n) (h : w.ownsRow base e 1 (.slice a n c) n (l.map fun (n : Nat) => .int .i64 n)) : NatsAt w a n (fun i => l.getD i 0) := by
  subst hn
  intro hn
  obtain ⟨g, cap, hv, h1, h2⟩ := h.form hn
  cases hv
  exact ⟨g, rfl, h2, fun i hi => nats_at h i hi⟩
theorem NatsAt.less {w : World} {a : Option Addr} {n m : Nat} {f : Nat → Nat} (h : NatsAt w a n f) (hm : m ≤ n) : NatsAt w a m f := by
  intro h0
  obtain ⟨g, e, hg, hc⟩ := h (by omega)
  exact ⟨g, e, hg, fun i hi => hc i (by omega)⟩
set_option maxRecDepth 100000 in
set_option maxHeartbeats 1000000 in
theorem same_yes (n : Nat) (hn : n ≤ 10) (f : Nat → Nat) (w : World) (a b : Option Addr) (ca cb : Nat) (ha : NatsAt w a n f) (hb : NatsAt w b n f) :
    Calls Tryd.prog 37 #[.slice a n ca, .slice b n cb] w fun e w' => e = .returned (.bool true) ∧ ∃ m, w' = w.drewN m := by
  have HA := hid ha
  have HB := hid hb
  clear ha hb
  go_enter Tryd.func37, Tryd.ntmps37
  go_wp2_with fail
  go_loopw [5] (fun cv wr => ∃ i : Nat, i ≤ n ∧ cv = .int .i64 i ∧ ∃ m, wr = w.drewN m) (fun cv _ => n - (intOf cv).toNat)
  case atStart => exact ⟨0, Nat.zero_le _, rfl, 0, rfl⟩
  case round =>
    obtain ⟨i, hi, rfl, m, rfl⟩ := hrel
    by_cases hlt : i < n
    · obtain ⟨g, rfl, hg, hcg⟩ := HA.out (by omega)
      obtain ⟨h, rfl, hh, hch⟩ := HB.out (by omega)
      have x0 := hcg i hlt
      have x1 := hch i hlt
      generalize f i = x at x0 x1
      clear hcg hch
      go_wp2_with fail
      go_quiet (fail)
      go_wp2_with fail
      go_roundw
      case rel => exact ⟨i + 1, by omega, by go_num, _, rfl⟩
      case measure => simp [intOf]; omega
    · go_wp2_with fail
      go_ret
      exact ⟨rfl, _, rfl⟩
def rpw (ln : Int) (v1 v2 : Value) (t : Int) (x : Ext) (i : Nat) : Value := if i = 0 then .int .i64 ln else if i = 1 then v1 else if i = 2 then v2 else if i = 3 then .int .i64 t else if i = 4 then .int .i64 x.nv else if i = 5 then .string x.f else if i = 6 then .string x.g else if i = 7 then .int .i64 x.nd else .int .i64 x.cf
set_option maxRecDepth 100000 in
set_option maxHeartbeats 4000000 in
theorem whole_yes (w : World) (g1 g2 : Nat) (ln t : Int) (x : Ext) (a1 a2 b1 b2 : Option Addr) (c1 c2 d1 d2 n : Nat) (hn : n ≤ 10) (f1 f2 : Nat → Nat)
    (h1 : w.rowIs g1 26 9 (rpw ln (.slice a1 n c1) (.slice a2 n c2) t x)) (h2 : w.rowIs g2 26 9 (rpw ln (.slice b1 n d1) (.slice b2 n d2) t x))
    (na1 : NatsAt w a1 n f1) (nb1 : NatsAt w b1 n f1) (na2 : NatsAt w a2 n f2) (nb2 : NatsAt w b2 n f2) :
    Calls Tryd.prog 41 #[.pointer (some ⟨g1, 0, none⟩), .pointer (some ⟨g2, 0, none⟩)] w fun e w' => e = .returned (.bool true) ∧ Below w.heap.size w w' := by
  have p0 := h1.cell (i := 0) (by omega)
  have p1 := h1.cell (i := 1) (by omega)
  have p2 := h1.cell (i := 2) (by omega)
  have p3 := h1.cell (i := 3) (by omega)
  have p4 := h1.cell (i := 4) (by omega)
  have p5 := h1.cell (i := 5) (by omega)
  have p6 := h1.cell (i := 6) (by omega)
  have p7 := h1.cell (i := 7) (by omega)
  have p8 := h1.cell (i := 8) (by omega)
  have q0 := h2.cell (i := 0) (by omega)
  have q1 := h2.cell (i := 1) (by omega)
  have q2 := h2.cell (i := 2) (by omega)
  have q3 := h2.cell (i := 3) (by omega)
  have q4 := h2.cell (i := 4) (by omega)
  have q5 := h2.cell (i := 5) (by omega)
  have q6 := h2.cell (i := 6) (by omega)
  have q7 := h2.cell (i := 7) (by omega)
  have q8 := h2.cell (i := 8) (by omega)
  simp [rpw] at p0 p1 p2 p3 p4 p5 p6 p7 p8 q0 q1 q2 q3 q4 q5 q6 q7 q8
  have HS1 : Hid (∀ y : Nat, Calls Tryd.prog 37 #[.slice a1 n c1, .slice b1 n d1] (w.drewN y) fun e w'' => e = .returned (.bool true) ∧ ∃ m, w'' = w.drewN m) := fun y => by
    refine (same_yes n hn f1 (w.drewN y) a1 b1 c1 d1 na1 nb1).mono ?_
    rintro e w'' ⟨rfl, m, rfl⟩
    exact ⟨rfl, y + m, by simp⟩
  have HS2 : Hid (∀ z y : Nat, Calls Tryd.prog 37 #[.slice a2 n c2, .slice b2 n d2] (w.drewN (z + y)) fun e w'' => e = .returned (.bool true) ∧ ∃ m, w'' = w.drewN (z + m)) := fun z y => by
    refine (same_yes n hn f2 (w.drewN (z + y)) a2 b2 c2 d2 (na2.same (below_drewN (Below.refl _ _) _)) (nb2.same (below_drewN (Below.refl _ _) _))).mono ?_
    rintro e w'' ⟨rfl, m, rfl⟩
    exact ⟨rfl, y + m, by rw [World.drewN_drewN, Nat.add_assoc]⟩
  clear h1 h2 na1 nb1 na2 nb2
  go_enter Tryd.func41, Tryd.ntmps41
  go_wp2_with fail
  go_quiet (first | (go_at_call 37; exact HS1.out _))
  go_wp2_with fail
  go_quiet (first | (go_at_call 37; exact HS2.out _ _))
  go_wp2_with fail
  go_quiet (fail)
  go_wp2_with fail
  go_quiet (fail)
  go_wp2_with fail
  go_ret
  exact ⟨rfl, by first | exact below_drewN (Below.refl _ _) _ | exact below_drewN (below_drewN (Below.refl _ _) _) _ | exact below_drewN (below_drewN (below_drewN (Below.refl _ _) _) _) _⟩
end Go.Proofs.YtgddmpmcnjlcjaaDoor
