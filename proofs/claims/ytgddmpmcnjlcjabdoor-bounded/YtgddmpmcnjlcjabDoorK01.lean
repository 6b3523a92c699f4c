import Derived.Test.YtgddmpmcnjlcjabDoorB36
import Derived.OwnWalk
import Derived.Deep.QuietTactic
import Derived.BigQuiet
namespace Go.Proofs.YtgddmpmcnjlcjabDoor
open Go.RowKit
set_option linter.unusedVariables false
def NatsAt (w : World) (a : Option Addr) (n : Nat) (f : Nat → Nat) : Prop := 0 < n → ∃ g, a = some ⟨g, 0, none⟩ ∧ g < w.heap.size ∧ ∀ i, i < n → w.cell? ⟨g, i, none⟩ = some (.int .i64 (f i))
theorem NatsAt.same {w w' : World} {a : Option Addr} {n : Nat} {f : Nat → Nat} (h : NatsAt w a n f) (hb : Below w.heap.size w w') : NatsAt w' a n f := by
  intro hn
  obtain ⟨g, e, hg, hc⟩ := h hn
  exact ⟨g, e, Nat.lt_of_lt_of_le hg hb.size, fun i hi => cell_later hb (hc i hi)⟩
theorem NatsAt.of {w : World} {base e : Nat} {a : Option Addr} {c : Nat} {l : List Nat} {n : Nat} (hn : l.length = n) (h : w.ownsRow base e 1 (.slice a n c) n (l.map fun (n : Nat) => .int .i64 n)) : NatsAt w a n (fun i => l.getD i 0) := by
  subst hn
  intro hn
  obtain ⟨g, cap, hv, h1, h2⟩ := h.form hn
  cases hv
  exact ⟨g, rfl, h2, fun i hi => nats_at h i hi⟩
theorem NatsAt.less {w : World} {a : Option Addr} {n m : Nat} {f : Nat → Nat} (h : NatsAt w a n f) (hm : m ≤ n) : NatsAt w a m f := by
  intro h0
  obtain ⟨g, e, hg, hc⟩ := h (by omega)
  exact ⟨g, e, hg, fun i hi => hc i (by omega)⟩
set_option maxRecDepth 100000 in
set_option maxHeartbeats 1000000 in
theorem same_yes (n : Nat) (hn : n ≤ 10) (f : Nat → Nat) (w : World) (a b : Option Addr) (ca cb : Nat) (ha : NatsAt w a n f) (hb : NatsAt w b n f) :
    Calls Tryd.prog 48 #[.slice a n ca, .slice b n cb] w fun e w' => e = .returned (.bool true) ∧ ∃ m, w' = w.drewN m := by
  have HA := hid ha
  have HB := hid hb
  clear ha hb
  go_enter Tryd.func48, Tryd.ntmps48
  go_wp2_with fail
  go_loopw [5] (fun cv wr => ∃ i : Nat, i ≤ n ∧ cv = .int .i64 i ∧ ∃ m, wr = w.drewN m) (fun cv _ => n - (intOf cv).toNat)
  case atStart => exact ⟨0, Nat.zero_le _, rfl, 0, rfl⟩
  case round =>
    obtain ⟨i, hi, rfl, m, rfl⟩ := hrel
    by_cases hlt : i < n
    · obtain ⟨g, rfl, hg, hcg⟩ := HA.out (by omega)
      obtain ⟨h, rfl, hh, hch⟩ := HB.out (by omega)
      have x0 := hcg i hlt
      have x1 := hch i hlt
      generalize f i = x at x0 x1
      clear hcg hch
      go_wp2_with fail
      go_quiet (fail)
      go_wp2_with fail
      go_roundw
      case rel => exact ⟨i + 1, by omega, by go_num, _, rfl⟩
      case measure => simp [intOf]; omega
    · go_wp2_with fail
      go_ret
      exact ⟨rfl, _, rfl⟩
end Go.Proofs.YtgddmpmcnjlcjabDoor
