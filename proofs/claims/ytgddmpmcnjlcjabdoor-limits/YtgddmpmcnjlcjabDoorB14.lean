import Derived.Test.YtgddmpmcnjlcjabDoorB13
import Derived.Deep.RegionWith
import Derived.Test.YtgddmpmcnjlcjabDoorB11
namespace Go.Proofs.YtgddmpmcnjlcjabDoor
open Go.RowKit
set_option linter.unusedVariables false
set_option maxRecDepth 100000 in
set_option maxHeartbeats 2000000 in
theorem fold_any {w0 w : World} {mb gh gr M n : Nat} {s : Dg.St} {r : Nat → Nat} {pv : Nat → Value} {vN vB : Value} (h : MkAt w0 mb gh gr M s r pv vN vB w) (ok : Dg.Ok n M s) (hr : ∀ j, r j < s.nodes.length) (hM : M ≤ 4096) (sec : List Bool) (hn : n = sec.length) (hn3 : n ≤ 3) (hs : w0.ownsRow 0 4 1 (pv 0) sec.length (sec.map Value.bool)) (hN : s.nodes.length + M ≤ 400000)
    (bits : List Nat) (hb : w0.ownsRow 0 3 1 (pv 4) bits.length (bits.map fun (n : Nat) => .int .i64 n)) (hMb : M = 2 ^ bits.length) (hl : bits.length ≤ 12) (hb4 : ∀ i, i < bits.length → bits.getD i 0 < 4 * n) :
    Calls Tryd.prog 36 #[.pointer (some ⟨mb, 0, none⟩)] w fun e w' => e = .returned (.int .i64 ((Dg.levs sec M bits s r M bits.length).2 0)) ∧ ∃ vN' vB', MkAt w0 mb gh gr M (Dg.levs sec M bits s r M bits.length).1 (Dg.levs sec M bits s r M bits.length).2 pv vN' vB' w' ∧ MkFr mb gh gr vN vB vN' vB' w w' := by
  have H := hid h
  have OK := hid ok
  have HS := hid hs
  have HB := hid hb
  have HR := hid hr
  have c8 := h.c8
  have c4 : w.cell? ⟨mb, 4, none⟩ = some (pv 4) := h.row.cell (i := 4) (by omega)
  obtain ⟨ab, cb, eb⟩ := body_val hb
  rw [eb] at c4
  have HMB := hid hMb
  have hMp : 0 < M := by rw [hMb]; exact Nat.pos_of_ne_zero (by simp)
  have hMI : (M : Int) ≤ 4096 := by omega
  have hlI : (bits.length : Int) ≤ 12 := by omega
  clear h ok hs hb hr hMb
  go_enter Tryd.func36, Tryd.ntmps36
  go_wp2_with fail
  go_loopw [3, 18] (fun rv cv wr => ∃ (L : Nat) (vN' vB' : Value), L ≤ bits.length ∧ rv = .int .i64 ((M / 2 ^ L : Nat) : Int) ∧ cv = .int .i64 L ∧ MkAt w0 mb gh gr M (Dg.levs sec M bits s r M L).1 (Dg.levs sec M bits s r M L).2 pv vN' vB' wr ∧ MkFr mb gh gr vN vB vN' vB' w wr) (fun _ cv _ => bits.length - (intOf cv).toNat)
  case atStart => exact ⟨0, vN, vB, Nat.zero_le _, by simp, rfl, H.out, MkFr.refl _ _ _ _ _ _⟩
  case round =>
    obtain ⟨L, vN1, vB1, hL, rfl, rfl, hat, hfr⟩ := hrel
    obtain ⟨wo, rfl⟩ : ∃ wo : World, wo = wr := ⟨wr, rfl⟩
    obtain ⟨ok1, hr1, _, hN1⟩ := Dg.levs_ok (rest := M) sec bits OK.out HR.out hb4 L hL
    have hq0 : M / 2 ^ L ≤ M := Nat.div_le_self _ _
    by_cases hlt : L < bits.length
    · have HSC := hid (show Dg.levs sec M bits s r M (L + 1) = Dg.levN sec M (bits.getD L 0) (Dg.levs sec M bits s r M L).1 (Dg.levs sec M bits s r M L).2 (M / 2 ^ (L + 1)) from rfl)
      have hh := Dg.half M L
      have hpw : M / 2 ^ L / 2 = M / 2 ^ (L + 1) := by rw [Nat.pow_succ, Nat.div_div_eq_div_mul]
      generalize (Dg.levs sec M bits s r M L).1 = s1 at hat ok1 hr1 hN1 HSC
      generalize (Dg.levs sec M bits s r M L).2 = r1 at hat hr1 HSC
      obtain ⟨gb, cb', hvb, _, hgb⟩ := HB.out.form (by omega)
      have hpv := HB.out
      rw [hvb] at hpv eb
      cases eb
      have bc := (hat.bel.cell (p := ⟨gb, L, none⟩) hgb).trans (nums_at hpv L hlt)
      have hb1 := hb4 L hlt
      generalize bits.getD L 0 = b at bc hb1 HSC
      generalize M / 2 ^ L = q at hq0 hN1 hh hpw
      obtain ⟨q2, hpw0⟩ : ∃ q2, M / 2 ^ (L + 1) = q2 := ⟨_, rfl⟩
      rw [hpw0] at hh HSC hpw
      have HPW := hid (show M / 2 ^ (L + 1) = q / 2 by rw [hpw0, hpw])
      subst hpw
      have hqI : (q : Int) ≤ 4096 := by omega
      have hLI : (L : Int) ≤ 12 := by omega
      have hLB : (L : Int) < (bits.length : Int) := by omega
      have hbI : (b : Int) ≤ 12 := by omega
      have HAT := hid hat
      have HFR := hid hfr
      have OK1 := hid ok1
      have HR1 := hid hr1
      have c8 := hat.c8
      clear hat hfr ok1 hr1 hpv
      go_wp2_with fail
      go_loopw [6] (fun iv wr => ∃ (i : Nat) (vN2 vB2 : Value), i ≤ q / 2 ∧ iv = .int .i64 i ∧ MkAt w0 mb gh gr M (Dg.levN sec M b s1 r1 i).1 (Dg.levN sec M b s1 r1 i).2 pv vN2 vB2 wr ∧ MkFr mb gh gr vN1 vB1 vN2 vB2 wo wr) (fun iv _ => q / 2 - (intOf iv).toNat)
      case atStart => exact ⟨0, vN1, vB1, Nat.zero_le _, rfl, HAT.out, MkFr.refl _ _ _ _ _ _⟩
      case round =>
        obtain ⟨i, vN2, vB2, hi, rfl, hat, hfr⟩ := hrel
        obtain ⟨ok2, hr2, _, hN2⟩ := Dg.levN_ok sec OK1.out HR1.out hb1 i
        have hiI : (i : Int) ≤ 4096 := by omega
        by_cases hlt2 : i < q / 2
        · have HSC2 := hid (show Dg.levN sec M b s1 r1 (i + 1) = ((Dg.nodeOf sec M (Dg.levN sec M b s1 r1 i).1 b ((Dg.levN sec M b s1 r1 i).2 (2 * i)) ((Dg.levN sec M b s1 r1 i).2 (2 * i + 1))).2, fun j => if j = i then (Dg.nodeOf sec M (Dg.levN sec M b s1 r1 i).1 b ((Dg.levN sec M b s1 r1 i).2 (2 * i)) ((Dg.levN sec M b s1 r1 i).2 (2 * i + 1))).1 else (Dg.levN sec M b s1 r1 i).2 j) from rfl)
          generalize (Dg.levN sec M b s1 r1 i).1 = s2 at hat ok2 hr2 hN2 HSC2
          generalize (Dg.levN sec M b s1 r1 i).2 = r2 at hat hr2 HSC2
          obtain ⟨t, ht⟩ : ∃ t, 2 * i = t := ⟨_, rfl⟩
          rw [ht] at HSC2
          have h2i : 2 * (i : Int) = (t : Int) := by omega
          have x0 := hat.rows.cell (i := t) (by omega)
          have x1 := hat.rows.cell (i := t + 1) (by omega)
          have l0 := hr2 t
          have l1 := hr2 (t + 1)
          generalize r2 t = lo at x0 l0 HSC2
          generalize r2 (t + 1) = hi' at x1 l1 HSC2
          have d8 := hat.c8
          have HAT2 := hid hat
          have HFR2 := hid hfr
          have HS2 := hid ok2
          have hM2I : (t : Int) + 1 < (M : Int) := by omega
          have hM3I : (t : Int) < (M : Int) := by omega
          have htI : (t : Int) ≤ 4096 := by omega
          have hti : i < M := by omega
          have hwt : IntKind.i64.wrap (t : Int) = (t : Int) := by rw [IntKind.wrap_i64]; omega
          have hwt1 : IntKind.i64.wrap ((t : Int) + 1) = (t : Int) + 1 := by rw [IntKind.wrap_i64]; omega
          clear ht
          have hM4I : (i : Int) < (M : Int) := by omega
          have hq2I : (i : Int) < (q : Int) / 2 := by omega
          have HC := hid (node_any HAT2.out.drew HS2.out hMp hM sec hn hn3 HS.out (by omega) b lo hi' hb1 l0 l1)
          clear hat hfr ok2 hr2
          obtain ⟨y, hy⟩ : ∃ y, Dg.nodeOf sec M s2 b lo hi' = y := ⟨_, rfl⟩
          rw [hy] at HC HSC2
          clear hy
          go_wp2_with fail
          go_cut [7] (fun v wc => v = .int .i64 (y.1 : Nat) ∧ ∃ vN3 vB3 : Value, MkAt w0 mb gh gr M y.2 r2 pv vN3 vB3 wc ∧ MkFr mb gh gr vN1 vB1 vN3 vB3 wo wc)
          case first =>
            go_region_with (go_at_call 65; refine HC.out.mono ?_; rintro e w3 ⟨rfl, vN3, vB3, h3, f3⟩; have H3 := hid h3; have F3 := hid (HFR2.out.drew.trans f3); clear h3 f3)
            all_goals
              go_wp2_with fail
              go_meet
              exact ⟨rfl, _, _, H3.out, F3.out⟩
          case rest =>
            obtain ⟨rfl, vN3, vB3, h3, f3⟩ := hcut
            have e8 := h3.c8
            have er := h3.rows.cell (i := i) hti
            have ef := h3.rows.frozen i
            have H3 := hid h3
            have F3 := hid f3
            clear h3 f3
            clear h2i hwt hwt1
            go_wp2_with fail
            go_roundw
            case rel =>
              refine ⟨i + 1, vN3, vB3, by omega, by go_num, ?_, (F3.out.setRow i _)⟩
              rw [HSC2.out]
              exact (H3.out.setRow i y.1)
            case measure => simp [intOf]; omega
        · have hie : q / 2 = i := by omega
          have hq2I : ¬ (i : Int) < (q : Int) / 2 := by omega
          have HAT2 := hid hat
          have HFR2 := hid hfr
          have HIE := hid hie
          clear hat hfr hie
          go_wp2_with fail
          go_roundw
          case rel =>
            refine ⟨L + 1, vN2, vB2, by omega, ?_, by go_num, ?_, HFR.out.trans HFR2.out⟩
            · rw [HPW.out]
              go_num
            · rw [HSC.out, HIE.out]
              exact HAT2.out
          case measure => simp [intOf]; omega
    · have hLe : bits.length = L := by omega
      have x0 := hat.rows.cell (i := 0) (by omega)
      have d8 := hat.c8
      have HAT := hid hat
      have HFR := hid hfr
      have HLE := hid hLe
      have hq1 : M / 2 ^ L = 1 := by rw [← hLe, ← HMB.out]; exact Nat.div_self hMp
      rw [hq1]
      clear hat hfr hLe
      have hMp' : (0 : Int) < (M : Int) := by omega
      go_wp2_with fail
      go_ret
      rw [HLE.out]
      exact ⟨rfl, _, _, HAT.out, HFR.out⟩
def wi (n m : Int) : Bool := decide (0 ≤ n ∧ n ≤ m)
theorem wi_true {n m : Int} (h : wi n m = true) : 0 ≤ n ∧ n ≤ m := by simpa [wi] using h
theorem wi_false {n m : Int} (h : wi n m = false) : ¬ (0 ≤ n ∧ n ≤ m) := by simpa [wi] using h
set_option maxHeartbeats 400000 in
theorem within_any (n m : Int) (w : World) :
    Calls Tryd.prog 15 #[.int .i64 n, .int .i64 m] w fun e w' => e = .returned (.bool (wi n m)) ∧ w' = w := by
  by_cases h0 : 0 ≤ n
  · go_enter Tryd.func15, Tryd.ntmps15
    go_wp2
    go_ret
    exact ⟨ret_bool (by simp [wi, h0]), rfl⟩
  · have h1 : n < 0 := by omega
    go_enter Tryd.func15, Tryd.ntmps15
    go_wp2
    go_ret
    exact ⟨ret_bool (by unfold wi; rw [decide_eq_false (by omega)]), rfl⟩
theorem newAt2 (w : World) (o : Obj) (cs : Array Value) (t : TypeId) (i : Nat) (u : Value) (h : cs[i]? = some u) : ((w.alloc o).alloc (.cells cs t)).cell? ⟨w.heap.size + 1, i, none⟩ = some u := by
  have := newAt (w.alloc o) cs t i u h
  simpa using this
theorem froz_new (w : World) (cs : Array Value) (t : TypeId) (i : Nat) : (w.alloc (.cells cs t)).frozen? ⟨w.heap.size, i, none⟩ = false := by
  unfold World.frozen?
  simp only []
  rw [heap_alloc_new]
  simp
theorem froz_new2 (w : World) (o : Obj) (cs : Array Value) (t : TypeId) (i : Nat) : ((w.alloc o).alloc (.cells cs t)).frozen? ⟨w.heap.size + 1, i, none⟩ = false := by
  have := froz_new (w.alloc o) cs t i
  rw [show (w.alloc o).heap.size = w.heap.size + 1 by simp] at this
  exact this
theorem froz_later {w wx : World} {a : Addr} (hb : Below w.heap.size w wx) (ha : a.block < w.heap.size) (h : w.frozen? a = false) : wx.frozen? a = false := (hb.frozen ha).trans h
theorem froz_alloc {w : World} {a : Addr} (ha : a.block < w.heap.size) (h : w.frozen? a = false) (o : Obj) : (w.alloc o).frozen? a = false := froz_later ((Below.refl _ _).alloc (Nat.le_refl _) o) ha h
namespace Mc
def apply (op a b : Nat) : Nat :=
  match op with
  | 1 => (a + b) % 16
  | 2 => (a + 16 - b) % 16
  | 3 => a * b % 16
  | 4 => a &&& b
  | 5 => a ||| b
  | 6 => a ^^^ b
  | 7 => a <<< b % 16
  | 8 => a >>> b
  | 9 => if a < b then 1 else 0
  | 10 => if a = b then 1 else 0
  | _ => a
end Mc
theorem bits_add (a b : Nat) (ha : a < 16) (hb : b < 16) : bits BinOp.and .i64 ((a : Int) + b) 15 = ((Mc.apply 1 a b : Nat) : Int) :=
  (show ∀ a b : Fin 16, bits BinOp.and .i64 ((a.val : Int) + b.val) 15 = ((Mc.apply 1 a.val b.val : Nat) : Int) by decide +kernel) ⟨a, ha⟩ ⟨b, hb⟩
theorem bits_sub (a b : Nat) (ha : a < 16) (hb : b < 16) : bits BinOp.and .i64 ((a : Int) - b) 15 = ((Mc.apply 2 a b : Nat) : Int) :=
  (show ∀ a b : Fin 16, bits BinOp.and .i64 ((a.val : Int) - b.val) 15 = ((Mc.apply 2 a.val b.val : Nat) : Int) by decide +kernel) ⟨a, ha⟩ ⟨b, hb⟩
theorem bits_mul (a b : Nat) (ha : a < 16) (hb : b < 16) : bits BinOp.and .i64 (wrap64 ((a : Int) * b)) 15 = ((Mc.apply 3 a b : Nat) : Int) :=
  (show ∀ a b : Fin 16, bits BinOp.and .i64 (wrap64 ((a.val : Int) * b.val)) 15 = ((Mc.apply 3 a.val b.val : Nat) : Int) by decide +kernel) ⟨a, ha⟩ ⟨b, hb⟩
theorem bits_and (a b : Nat) (ha : a < 16) (hb : b < 16) : bits BinOp.and .i64 (a : Int) b = ((Mc.apply 4 a b : Nat) : Int) :=
  (show ∀ a b : Fin 16, bits BinOp.and .i64 (a.val : Int) b.val = ((Mc.apply 4 a.val b.val : Nat) : Int) by decide +kernel) ⟨a, ha⟩ ⟨b, hb⟩
theorem bits_or (a b : Nat) (ha : a < 16) (hb : b < 16) : bits BinOp.or .i64 (a : Int) b = ((Mc.apply 5 a b : Nat) : Int) :=
  (show ∀ a b : Fin 16, bits BinOp.or .i64 (a.val : Int) b.val = ((Mc.apply 5 a.val b.val : Nat) : Int) by decide +kernel) ⟨a, ha⟩ ⟨b, hb⟩
theorem bits_xor (a b : Nat) (ha : a < 16) (hb : b < 16) : bits BinOp.xor .i64 (a : Int) b = ((Mc.apply 6 a b : Nat) : Int) :=
  (show ∀ a b : Fin 16, bits BinOp.xor .i64 (a.val : Int) b.val = ((Mc.apply 6 a.val b.val : Nat) : Int) by decide +kernel) ⟨a, ha⟩ ⟨b, hb⟩
theorem bits_low (b : Nat) (hb : b < 16) : bits BinOp.and .i64 (b : Int) 15 = (b : Int) :=
  (show ∀ b : Fin 16, bits BinOp.and .i64 (b.val : Int) 15 = (b.val : Int) by decide +kernel) ⟨b, hb⟩
theorem bits_shl (a b : Nat) (ha : a < 16) (hb : b < 16) : bits BinOp.and .i64 (wrap64 ((a : Int) * 2 ^ b)) 15 = ((Mc.apply 7 a b : Nat) : Int) :=
  (show ∀ a b : Fin 16, bits BinOp.and .i64 (wrap64 ((a.val : Int) * 2 ^ b.val)) 15 = ((Mc.apply 7 a.val b.val : Nat) : Int) by decide +kernel) ⟨a, ha⟩ ⟨b, hb⟩
theorem bits_shr (a b : Nat) (ha : a < 16) (hb : b < 16) : (a : Int) / 2 ^ b = ((Mc.apply 8 a b : Nat) : Int) :=
  (show ∀ a b : Fin 16, (a.val : Int) / 2 ^ b.val = ((Mc.apply 8 a.val b.val : Nat) : Int) by decide +kernel) ⟨a, ha⟩ ⟨b, hb⟩
set_option maxRecDepth 100000 in
set_option maxHeartbeats 400000 in
theorem truth_any (b : Bool) (w : World) : Calls Tryd.prog 95 #[.bool b] w fun e w' => e = .returned (.int .i64 (if b = true then 1 else 0)) ∧ w' = w := by
  cases b with
  | true =>
    go_enter Tryd.func95, Tryd.ntmps95
    go_wp2
    go_ret
    exact ⟨rfl, rfl⟩
  | false =>
    go_enter Tryd.func95, Tryd.ntmps95
    go_wp2
    go_ret
    exact ⟨rfl, rfl⟩
set_option maxRecDepth 100000 in
set_option maxHeartbeats 1000000 in
theorem apply_0 (a b : Nat) (w : World) (ha : a < 16) (hb : b < 16) :
    Calls Tryd.prog 90 #[.int .i64 0, .int .i64 a, .int .i64 b] w fun e w' => e = .returned (.int .i64 (Mc.apply 0 a b : Nat)) ∧ w' = w := by
  go_enter Tryd.func90, Tryd.ntmps90
  go_wp2
  go_ret
  exact ⟨rfl, rfl⟩
set_option maxRecDepth 100000 in
set_option maxHeartbeats 1000000 in
theorem apply_1 (a b : Nat) (w : World) (ha : a < 16) (hb : b < 16) :
    Calls Tryd.prog 90 #[.int .i64 1, .int .i64 a, .int .i64 b] w fun e w' => e = .returned (.int .i64 (Mc.apply 1 a b : Nat)) ∧ w' = w := by
  go_enter Tryd.func90, Tryd.ntmps90
  go_wp2
  go_ret
  exact ⟨congrArg (fun z => Ending.returned (Value.int .i64 z)) (bits_add a b ha hb), rfl⟩
set_option maxRecDepth 100000 in
set_option maxHeartbeats 1000000 in
theorem apply_2 (a b : Nat) (w : World) (ha : a < 16) (hb : b < 16) :
    Calls Tryd.prog 90 #[.int .i64 2, .int .i64 a, .int .i64 b] w fun e w' => e = .returned (.int .i64 (Mc.apply 2 a b : Nat)) ∧ w' = w := by
  go_enter Tryd.func90, Tryd.ntmps90
  go_wp2
  go_ret
  exact ⟨congrArg (fun z => Ending.returned (Value.int .i64 z)) (bits_sub a b ha hb), rfl⟩
set_option maxRecDepth 100000 in
set_option maxHeartbeats 1000000 in
theorem apply_3 (a b : Nat) (w : World) (ha : a < 16) (hb : b < 16) :
    Calls Tryd.prog 90 #[.int .i64 3, .int .i64 a, .int .i64 b] w fun e w' => e = .returned (.int .i64 (Mc.apply 3 a b : Nat)) ∧ w' = w := by
  go_enter Tryd.func90, Tryd.ntmps90
  go_wp2
  go_ret
  exact ⟨congrArg (fun z => Ending.returned (Value.int .i64 z)) (bits_mul a b ha hb), rfl⟩
set_option maxRecDepth 100000 in
set_option maxHeartbeats 1000000 in
theorem apply_4 (a b : Nat) (w : World) (ha : a < 16) (hb : b < 16) :
    Calls Tryd.prog 90 #[.int .i64 4, .int .i64 a, .int .i64 b] w fun e w' => e = .returned (.int .i64 (Mc.apply 4 a b : Nat)) ∧ w' = w := by
  go_enter Tryd.func90, Tryd.ntmps90
  go_wp2
  go_ret
  exact ⟨congrArg (fun z => Ending.returned (Value.int .i64 z)) (bits_and a b ha hb), rfl⟩
set_option maxRecDepth 100000 in
set_option maxHeartbeats 1000000 in
theorem apply_5 (a b : Nat) (w : World) (ha : a < 16) (hb : b < 16) :
    Calls Tryd.prog 90 #[.int .i64 5, .int .i64 a, .int .i64 b] w fun e w' => e = .returned (.int .i64 (Mc.apply 5 a b : Nat)) ∧ w' = w := by
  go_enter Tryd.func90, Tryd.ntmps90
  go_wp2
  go_ret
  exact ⟨congrArg (fun z => Ending.returned (Value.int .i64 z)) (bits_or a b ha hb), rfl⟩
set_option maxRecDepth 100000 in
set_option maxHeartbeats 1000000 in
theorem apply_6 (a b : Nat) (w : World) (ha : a < 16) (hb : b < 16) :
    Calls Tryd.prog 90 #[.int .i64 6, .int .i64 a, .int .i64 b] w fun e w' => e = .returned (.int .i64 (Mc.apply 6 a b : Nat)) ∧ w' = w := by
  go_enter Tryd.func90, Tryd.ntmps90
  go_wp2
  go_ret
  exact ⟨congrArg (fun z => Ending.returned (Value.int .i64 z)) (bits_xor a b ha hb), rfl⟩
set_option maxRecDepth 100000 in
set_option maxHeartbeats 1000000 in
theorem apply_7 (a b : Nat) (w : World) (ha : a < 16) (hb : b < 16) :
    Calls Tryd.prog 90 #[.int .i64 7, .int .i64 a, .int .i64 b] w fun e w' => e = .returned (.int .i64 (Mc.apply 7 a b : Nat)) ∧ w' = w := by
  have hl := bits_low b hb
  go_enter Tryd.func90, Tryd.ntmps90
  go_wp2
  go_ret
  exact ⟨congrArg (fun z => Ending.returned (Value.int .i64 z)) (bits_shl a b ha hb), rfl⟩
set_option maxRecDepth 100000 in
set_option maxHeartbeats 1000000 in
theorem apply_8 (a b : Nat) (w : World) (ha : a < 16) (hb : b < 16) :
    Calls Tryd.prog 90 #[.int .i64 8, .int .i64 a, .int .i64 b] w fun e w' => e = .returned (.int .i64 (Mc.apply 8 a b : Nat)) ∧ w' = w := by
  have hl := bits_low b hb
  go_enter Tryd.func90, Tryd.ntmps90
  go_wp2
  go_ret
  exact ⟨congrArg (fun z => Ending.returned (Value.int .i64 z)) (bits_shr a b ha hb), rfl⟩
set_option maxRecDepth 100000 in
set_option maxHeartbeats 1000000 in
theorem apply_9 (a b : Nat) (w : World) (ha : a < 16) (hb : b < 16) :
    Calls Tryd.prog 90 #[.int .i64 9, .int .i64 a, .int .i64 b] w fun e w' => e = .returned (.int .i64 (Mc.apply 9 a b : Nat)) ∧ w' = w := by
  by_cases h : a < b
  · have hI : (a : Int) < (b : Int) := by omega
    have H := hid h
    clear h
    go_enter Tryd.func90, Tryd.ntmps90
    go_wp2_with (first | (go_at_call 95; refine (truth_any _ _).mono ?_; rintro e w0 ⟨rfl, hw0⟩; have hw1 := hw0.symm; subst hw1))
    go_ret
    exact ⟨congrArg (fun z => Ending.returned (Value.int .i64 z)) (by unfold Mc.apply; simp [H.out]), rfl⟩
  · have hI : ¬ (a : Int) < (b : Int) := by omega
    have H := hid h
    clear h
    go_enter Tryd.func90, Tryd.ntmps90
    go_wp2_with (first | (go_at_call 95; refine (truth_any _ _).mono ?_; rintro e w0 ⟨rfl, hw0⟩; have hw1 := hw0.symm; subst hw1))
    go_ret
    exact ⟨congrArg (fun z => Ending.returned (Value.int .i64 z)) (by unfold Mc.apply; simp [H.out]), rfl⟩
set_option maxRecDepth 100000 in
set_option maxHeartbeats 1000000 in
theorem apply_10 (a b : Nat) (w : World) (ha : a < 16) (hb : b < 16) :
    Calls Tryd.prog 90 #[.int .i64 10, .int .i64 a, .int .i64 b] w fun e w' => e = .returned (.int .i64 (Mc.apply 10 a b : Nat)) ∧ w' = w := by
  by_cases h : a = b
  · have hI : ((a : Int) == (b : Int)) = true := by simp; omega
    have H := hid h
    clear h
    go_enter Tryd.func90, Tryd.ntmps90
    go_wp2_with (first | (go_at_call 95; refine (truth_any _ _).mono ?_; rintro e w0 ⟨rfl, hw0⟩; have hw1 := hw0.symm; subst hw1))
    go_ret
    exact ⟨congrArg (fun z => Ending.returned (Value.int .i64 z)) (by unfold Mc.apply; simp [H.out]), rfl⟩
  · have hI : ((a : Int) == (b : Int)) = false := by simp; omega
    have H := hid h
    clear h
    go_enter Tryd.func90, Tryd.ntmps90
    go_wp2_with (first | (go_at_call 95; refine (truth_any _ _).mono ?_; rintro e w0 ⟨rfl, hw0⟩; have hw1 := hw0.symm; subst hw1))
    go_ret
    exact ⟨congrArg (fun z => Ending.returned (Value.int .i64 z)) (by unfold Mc.apply; simp [H.out]), rfl⟩
theorem apply_any (op a b : Nat) (w : World) (ho : op ≤ 10) (ha : a < 16) (hb : b < 16) :
    Calls Tryd.prog 90 #[.int .i64 op, .int .i64 a, .int .i64 b] w fun e w' => e = .returned (.int .i64 (Mc.apply op a b : Nat)) ∧ w' = w := by
  match op, ho with
  | 0, _ => exact apply_0 a b w ha hb
  | 1, _ => exact apply_1 a b w ha hb
  | 2, _ => exact apply_2 a b w ha hb
  | 3, _ => exact apply_3 a b w ha hb
  | 4, _ => exact apply_4 a b w ha hb
  | 5, _ => exact apply_5 a b w ha hb
  | 6, _ => exact apply_6 a b w ha hb
  | 7, _ => exact apply_7 a b w ha hb
  | 8, _ => exact apply_8 a b w ha hb
  | 9, _ => exact apply_9 a b w ha hb
  | 10, _ => exact apply_10 a b w ha hb
  | n + 11, h => omega
theorem apply_lt (op a b : Nat) (ho : op ≤ 10) (ha : a < 16) (hb : b < 16) : Mc.apply op a b < 16 :=
  (show ∀ op : Fin 11, ∀ a b : Fin 16, Mc.apply op.val a.val b.val < 16 by decide +kernel) ⟨op, by omega⟩ ⟨a, ha⟩ ⟨b, hb⟩
end Go.Proofs.YtgddmpmcnjlcjabDoor
