import Derived.Test.YtgddmpmcnjlcjabDoorB03
namespace Go.Proofs.YtgddmpmcnjlcjabDoor
open Go.RowKit
set_option linter.unusedVariables false
structure Took (w w' : World) (base b : Nat) (o : Option Lk.RS) : Prop where
  rep : ∀ r', o = some r' → ∃ vs vc vb, Rep w' base b r' vs vc vb
  bel : Below base w w'
theorem took_none {w w' : World} {base b : Nat} {o : Option Lk.RS} (h : o = none) (hb : Below base w w') : Ending.returned (.bool false) = .returned (.bool o.isSome) ∧ Took w w' base b o :=
  ⟨by rw [h]; rfl, (fun r' e => by rw [h] at e; cases e), hb⟩
theorem took_some {w w' : World} {base b : Nat} {o : Option Lk.RS} {r' : Lk.RS} {vs vc vb : Value} (h : o = some r') (hr : Rep w' base b r' vs vc vb) (hb : Below base w w') : Ending.returned (.bool true) = .returned (.bool o.isSome) ∧ Took w w' base b o :=
  ⟨by rw [h]; rfl, fun r'' e => by rw [h] at e; cases e; exact ⟨vs, vc, vb, hr⟩, hb⟩
theorem empty_toList : ByteArray.empty.toList = [] := tl0 rfl
theorem wd_map (ws : List ByteArray) (i : Nat) : Lk.wd (ws.map ByteArray.toList) i = (ws.getD i ByteArray.empty).toList := by
  unfold Lk.wd
  by_cases h : i < ws.length
  · simp [List.getD_eq_getElem?_getD, h]
  · have h1 : ws.length ≤ i := by omega
    simp [List.getD_eq_getElem?_getD, h1]
def Wds (w : World) (g : Nat) (ws : List ByteArray) : Prop := ∀ i, i < ws.length → w.cell? ⟨g, i, none⟩ = some (.string (ws.getD i ByteArray.empty))
theorem atom_opt (r : Lk.RS) (vs vc vk vb : Value) (b : Nat) (s : ByteArray) (w : World) (hrow : w.rowIs b 90 67 (rcell r vs vc vk vb)) (o : Option Lk.At) (h : Lk.atom? r s.toList = o) :
    Calls Tryd.prog 83 #[.pointer (some ⟨b, 0, none⟩), .string s] w fun e w' => e = .returned (.tuple #[.agg #[.bool (o.getD {}).named, .int .i64 (o.getD {}).val], .bool o.isSome]) ∧ Below w.heap.size w w' := by
  cases o with
  | none => exact atom_none r vs vc vk vb b s w hrow h
  | some x => exact atom_some r vs vc vk vb b s w hrow x h
theorem Took.after {w w1 w' : World} {base b : Nat} {o : Option Lk.RS} (h : Took w1 w' base b o) (hb : Below base w w1) : Took w w' base b o := ⟨h.rep, hb.trans h.bel⟩
theorem cell_alloc {w : World} {a : Addr} {v : Value} (h : w.cell? a = some v) (o : Obj) : (w.alloc o).cell? a = some v := cell_later ((Below.refl _ _).alloc (Nat.le_refl _) o) h
theorem add_took (r : Lk.RS) (st : Lk.St) (vs vc vb : Value) (base b : Nat) (w : World) (hr : Rep w base b r vs vc vb) (hbl : r.body.length ≤ 100000) (i0 i1 i2 i3 i5 i7 i8 i9 : Int) (b4 b6 : Bool)
    (hst : stCells st = [.int .i64 i0, .int .i64 i1, .int .i64 i2, .int .i64 i3, .bool b4, .int .i64 i5, .bool b6, .int .i64 i7, .int .i64 i8, .int .i64 i9]) :
    Calls Tryd.prog 84 #[.pointer (some ⟨b, 0, none⟩), .agg #[.int .i64 i0, .int .i64 i1, .int .i64 i2, .int .i64 i3, .bool b4, .int .i64 i5, .bool b6, .int .i64 i7, .int .i64 i8, .int .i64 i9]] w fun e w' =>
      e = .returned (.bool (Lk.add r st).isSome) ∧ Took w w' base b (Lk.add r st) := by
  by_cases hn : r.stmts < 12
  · refine (add_some r st vs vc vb base b w hr hn hbl i0 i1 i2 i3 i5 i7 i8 i9 b4 b6 hst).mono ?_
    rintro e w' ⟨rfl, ⟨vb', h⟩, hb⟩
    exact took_some (by unfold Lk.add; rw [if_pos hn]) h hb
  · have hc57 := hr.row.cell (i := 57) (by omega)
    rw [show rcell r vs vc (.slice none 0 0) vb 57 = .int .i64 r.stmts from rfl] at hc57
    refine (add_none b w r.stmts (by omega) hc57 i0 i1 i2 i3 i5 i7 i8 i9 b4 b6 hr.lt).mono ?_
    rintro e w' ⟨rfl, hb⟩
    exact took_none (by unfold Lk.add; rw [if_neg hn]) (hb.mono hr.baseLe)
set_option maxRecDepth 100000 in
set_option maxHeartbeats 1000000 in
theorem takeOut_any (r : Lk.RS) (vs vc vb : Value) (base b g cap : Nat) (ws : List ByteArray) (w : World) (hr : Rep w base b r vs vc vb) (hw : Wds w g ws) (hbl : r.body.length ≤ 100000) :
    Calls Tryd.prog 58 #[.pointer (some ⟨b, 0, none⟩), .slice (some ⟨g, 0, none⟩) ws.length cap] w fun e w' =>
      e = .returned (.bool (Lk.takeOut r (ws.map ByteArray.toList)).isSome) ∧ Took w w' base b (Lk.takeOut r (ws.map ByteArray.toList)) := by
  have hlt := hr.lt
  by_cases hl : ws.length = 2
  · have hc1 := hw 1 (by omega)
    generalize hq : ws.getD 1 ByteArray.empty = q at hc1
    have hwd : Lk.wd (ws.map ByteArray.toList) 1 = q.toList := by rw [wd_map, hq]
    have hS : Lk.takeOut r (ws.map ByteArray.toList) = match Lk.atom? r q.toList with | some x => Lk.add r { kind := 3, a := x } | none => none := by
      unfold Lk.takeOut; rw [if_pos (by simpa using hl), hwd]; rfl
    rw [hS, hl]
    clear hwd hq hw hl hS
    have HR : Hid (Rep w base b r vs vc vb) := hr
    clear hr
    cases ha : Lk.atom? r q.toList with
    | none =>
      go_enter Tryd.func58, Tryd.ntmps58
      go_wp2_with (first | (go_at_call 83; refine (atom_none r vs vc (.slice none 0 0) vb b _ _ ?_ ha).mono ?_; exact HR.out.row; rintro e w' ⟨rfl, hb⟩))
      go_ret
      exact took_none rfl ((hb.mono HR.out.baseLe).alloc (Nat.le_trans HR.out.baseLe hb.size) _)
    | some x =>
      go_enter Tryd.func58, Tryd.ntmps58
      go_wp2_with (first | (go_at_call 83; refine (atom_some r vs vc (.slice none 0 0) vb b _ _ ?_ x ha).mono ?_; exact HR.out.row; rintro e w' ⟨rfl, hb⟩) | (go_at_call 84; refine (add_took r { kind := 3, a := x } vs vc vb base b _ ?_ hbl _ _ _ _ _ _ _ _ _ _ ?_).mono ?_; exact (HR.out.below hb).alloc _; rfl; rintro e w2 ⟨rfl, T⟩))
      go_ret
      exact ⟨rfl, T.after ((hb.mono HR.out.baseLe).alloc (Nat.le_trans HR.out.baseLe hb.size) _)⟩
  · have hS : Lk.takeOut r (ws.map ByteArray.toList) = none := by
      unfold Lk.takeOut; rw [if_neg (by simpa using hl)]
    have hl' : ((ws.length : Int) == 2) = false := by simp; omega
    clear hw
    generalize ws.length = n at hl' 
    go_enter Tryd.func58, Tryd.ntmps58
    go_wp2_with fail
    go_ret
    exact took_none hS (Below.refl _ _)
theorem newAt (w : World) (cs : Array Value) (t : TypeId) (i : Nat) (u : Value) (h : cs[i]? = some u) : (w.alloc (.cells cs t)).cell? ⟨w.heap.size, i, none⟩ = some u := cellAt (heap_alloc_new w _) i u h
theorem find_out (r : Lk.RS) (vs vc vk vb : Value) (b : Nat) (s : ByteArray) (w : World) (hrow : w.rowIs b 90 67 (rcell r vs vc vk vb)) (p q : Nat) (hf : Lk.find r s.toList = (p, q)) :
    Calls Tryd.prog 82 #[.pointer (some ⟨b, 0, none⟩), .string s] w fun e w' => e = .returned (.agg #[.int .i64 p, .int .i64 q]) ∧ Below w.heap.size w w' := by
  have := find_any r vs vc vk vb b s w hrow
  rw [hf] at this
  exact this
set_option maxRecDepth 100000 in
set_option maxHeartbeats 1000000 in
theorem takeLoad_any (r : Lk.RS) (vs vc vb : Value) (base b g cap : Nat) (ws : List ByteArray) (w : World) (hr : Rep w base b r vs vc vb) (hw : Wds w g ws) (hbl : r.body.length ≤ 100000) :
    Calls Tryd.prog 56 #[.pointer (some ⟨b, 0, none⟩), .slice (some ⟨g, 0, none⟩) ws.length cap] w fun e w' =>
      e = .returned (.bool (Lk.takeLoad r (ws.map ByteArray.toList)).isSome) ∧ Took w w' base b (Lk.takeLoad r (ws.map ByteArray.toList)) := by
  have hlt := hr.lt
  by_cases hl : ws.length = 4
  · have hc1 := hw 1 (by omega)
    have hc2 := hw 2 (by omega)
    have hc3 := hw 3 (by omega)
    have hg : g < w.heap.size := World.block_lt_of_cell? w _ hc1
    generalize hq1 : ws.getD 1 ByteArray.empty = q1 at hc1
    generalize hq2 : ws.getD 2 ByteArray.empty = q2 at hc2
    generalize hq3 : ws.getD 3 ByteArray.empty = q3 at hc3
    obtain ⟨p, pq, hf1⟩ : ∃ p pq, Lk.find r q1.toList = (p, pq) := ⟨_, _, rfl⟩
    obtain ⟨m, mq, hf2⟩ : ∃ p pq, Lk.find r q2.toList = (p, pq) := ⟨_, _, rfl⟩
    have hS : Lk.takeLoad r (ws.map ByteArray.toList) = if p = 1 ∧ m = 2 then (match Lk.atom? r q3.toList with | some x => Lk.add r { kind := 1, slot := pq, arr := mq, a := x } | none => none) else none := by
      unfold Lk.takeLoad; rw [wd_map, wd_map, wd_map, hq1, hq2, hq3, hf1, hf2]; simp [hl]; rfl
    rw [hS, hl]
    clear hq1 hq2 hq3 hw hl hS
    have HR : Hid (Rep w base b r vs vc vb) := hr
    clear hr
    have Hf1 : Hid (Lk.find r q1.toList = (p, pq)) := hf1
    have Hf2 : Hid (Lk.find r q2.toList = (m, mq)) := hf2
    clear hf1 hf2
    obtain ⟨o, ha⟩ : ∃ o, Lk.atom? r q3.toList = o := ⟨_, rfl⟩
    by_cases hp : p = 1
    · have hp' : ((p : Int) != 1) = false := by simp; omega
      by_cases hm : m = 2
      · have hm' : ((m : Int) != 2) = false := by simp; omega
        rw [if_pos ⟨hp, hm⟩, ha]
        clear hp hm
        cases o with
        | some x =>
          go_enter Tryd.func56, Tryd.ntmps56
          go_wp2_with (first
            | (go_at_call_of 82 (Value.string q1); refine (find_out r vs vc (.slice none 0 0) vb b _ _ ?_ p pq Hf1.out).mono ?_; exact HR.out.row; rintro e w1 ⟨rfl, hb1⟩; have k2 := fun o => cell_alloc (cell_later hb1 hc2) o; have k3 := cell_later hb1 hc3; have z1 := hb1.size)
            | (go_at_call_of 82 (Value.string q2); refine (find_out r vs vc (.slice none 0 0) vb b _ _ ?_ m mq Hf2.out).mono ?_; exact ((HR.out.below hb1).alloc _).row; rintro e w2 ⟨rfl, hb2⟩; have l3 := fun o => cell_alloc (cell_later hb2 (cell_alloc k3 _)) o; have z2 := hb2.size; simp at z2)
            | (go_at_call_of 83 (Value.string q3); refine (atom_some r vs vc (.slice none 0 0) vb b _ _ ?_ x ha).mono ?_; exact ((((HR.out.below hb1).alloc _).below hb2).alloc _).row; rintro e w3 ⟨rfl, hb3⟩; have t0 := fun o => cell_alloc (cell_later hb3 (cell_alloc (cell_later hb2 (newAt w1 #[.int .i64 p, .int .i64 pq] 84 0 _ rfl)) _)) o; have t1 := fun o => cell_alloc (cell_later hb3 (cell_alloc (cell_later hb2 (newAt w1 #[.int .i64 p, .int .i64 pq] 84 1 _ rfl)) _)) o; have u0 := fun o => cell_alloc (cell_later hb3 (newAt w2 #[.int .i64 m, .int .i64 mq] 84 0 _ rfl)) o; have u1 := fun o => cell_alloc (cell_later hb3 (newAt w2 #[.int .i64 m, .int .i64 mq] 84 1 _ rfl)) o; have z3 := hb3.size; simp at z3)
            | (go_at_call 84; refine (add_took r { kind := 1, slot := pq, arr := mq, a := x } vs vc vb base b _ ?_ hbl _ _ _ _ _ _ _ _ _ _ ?_).mono ?_; exact ((((((HR.out.below hb1).alloc _).below hb2).alloc _).below hb3).alloc _); rfl; rintro e w4 ⟨rfl, T⟩))
          go_ret
          exact ⟨rfl, T.after ((((((hb1.mono HR.out.baseLe).alloc (by have := HR.out.baseLe; omega) _).trans (hb2.mono (by have := HR.out.baseLe; simp; omega))).alloc (by have := HR.out.baseLe; omega) _).trans (hb3.mono (by have := HR.out.baseLe; simp; omega))).alloc (by have := HR.out.baseLe; omega) _)⟩
        | none =>
          go_enter Tryd.func56, Tryd.ntmps56
          go_wp2_with (first
            | (go_at_call_of 82 (Value.string q1); refine (find_out r vs vc (.slice none 0 0) vb b _ _ ?_ p pq Hf1.out).mono ?_; exact HR.out.row; rintro e w1 ⟨rfl, hb1⟩; have k2 := fun o => cell_alloc (cell_later hb1 hc2) o; have k3 := cell_later hb1 hc3; have z1 := hb1.size)
            | (go_at_call_of 82 (Value.string q2); refine (find_out r vs vc (.slice none 0 0) vb b _ _ ?_ m mq Hf2.out).mono ?_; exact ((HR.out.below hb1).alloc _).row; rintro e w2 ⟨rfl, hb2⟩; have l3 := fun o => cell_alloc (cell_later hb2 (cell_alloc k3 _)) o; have z2 := hb2.size; simp at z2)
            | (go_at_call_of 83 (Value.string q3); refine (atom_none r vs vc (.slice none 0 0) vb b _ _ ?_ ha).mono ?_; exact ((((HR.out.below hb1).alloc _).below hb2).alloc _).row; rintro e w3 ⟨rfl, hb3⟩; have t0 := fun o => cell_alloc (cell_later hb3 (cell_alloc (cell_later hb2 (newAt w1 #[.int .i64 p, .int .i64 pq] 84 0 _ rfl)) _)) o; have t1 := fun o => cell_alloc (cell_later hb3 (cell_alloc (cell_later hb2 (newAt w1 #[.int .i64 p, .int .i64 pq] 84 1 _ rfl)) _)) o; have u0 := fun o => cell_alloc (cell_later hb3 (newAt w2 #[.int .i64 m, .int .i64 mq] 84 0 _ rfl)) o; have u1 := fun o => cell_alloc (cell_later hb3 (newAt w2 #[.int .i64 m, .int .i64 mq] 84 1 _ rfl)) o; have z3 := hb3.size; simp at z3))
          go_ret
          exact took_none rfl ((((((hb1.mono HR.out.baseLe).alloc (by have := HR.out.baseLe; omega) _).trans (hb2.mono (by have := HR.out.baseLe; simp; omega))).alloc (by have := HR.out.baseLe; omega) _).trans (hb3.mono (by have := HR.out.baseLe; simp; omega))).alloc (by have := HR.out.baseLe; omega) _)
      · have hm' : ((m : Int) != 2) = true := by simp; omega
        have Ha : Hid (Lk.atom? r q3.toList = o) := ha
        rw [if_neg (by omega)]
        clear ha hp hm
        go_enter Tryd.func56, Tryd.ntmps56
        go_wp2_with (first
          | (go_at_call_of 82 (Value.string q1); refine (find_out r vs vc (.slice none 0 0) vb b _ _ ?_ p pq Hf1.out).mono ?_; exact HR.out.row; rintro e w1 ⟨rfl, hb1⟩; have k2 := fun o => cell_alloc (cell_later hb1 hc2) o; have k3 := cell_later hb1 hc3; have z1 := hb1.size)
          | (go_at_call_of 82 (Value.string q2); refine (find_out r vs vc (.slice none 0 0) vb b _ _ ?_ m mq Hf2.out).mono ?_; exact ((HR.out.below hb1).alloc _).row; rintro e w2 ⟨rfl, hb2⟩; have l3 := fun o => cell_alloc (cell_later hb2 (cell_alloc k3 _)) o; have z2 := hb2.size; simp at z2)
          | (go_at_call_of 83 (Value.string q3); refine (atom_opt r vs vc (.slice none 0 0) vb b _ _ ?_ o Ha.out).mono ?_; exact ((((HR.out.below hb1).alloc _).below hb2).alloc _).row; rintro e w3 ⟨rfl, hb3⟩; have t0 := fun o => cell_alloc (cell_later hb3 (cell_alloc (cell_later hb2 (newAt w1 #[.int .i64 p, .int .i64 pq] 84 0 _ rfl)) _)) o; have t1 := fun o => cell_alloc (cell_later hb3 (cell_alloc (cell_later hb2 (newAt w1 #[.int .i64 p, .int .i64 pq] 84 1 _ rfl)) _)) o; have u0 := fun o => cell_alloc (cell_later hb3 (newAt w2 #[.int .i64 m, .int .i64 mq] 84 0 _ rfl)) o; have u1 := fun o => cell_alloc (cell_later hb3 (newAt w2 #[.int .i64 m, .int .i64 mq] 84 1 _ rfl)) o; have z3 := hb3.size; simp at z3))
        go_ret
        exact took_none rfl ((((((hb1.mono HR.out.baseLe).alloc (by have := HR.out.baseLe; omega) _).trans (hb2.mono (by have := HR.out.baseLe; simp; omega))).alloc (by have := HR.out.baseLe; omega) _).trans (hb3.mono (by have := HR.out.baseLe; simp; omega))).alloc (by have := HR.out.baseLe; omega) _)
    · have hp' : ((p : Int) != 1) = true := by simp; omega
      have Ha : Hid (Lk.atom? r q3.toList = o) := ha
      rw [if_neg (by omega)]
      clear ha hp
      go_enter Tryd.func56, Tryd.ntmps56
      go_wp2_with (first
        | (go_at_call_of 82 (Value.string q1); refine (find_out r vs vc (.slice none 0 0) vb b _ _ ?_ p pq Hf1.out).mono ?_; exact HR.out.row; rintro e w1 ⟨rfl, hb1⟩; have k2 := fun o => cell_alloc (cell_later hb1 hc2) o; have k3 := cell_later hb1 hc3; have z1 := hb1.size)
        | (go_at_call_of 82 (Value.string q2); refine (find_out r vs vc (.slice none 0 0) vb b _ _ ?_ m mq Hf2.out).mono ?_; exact ((HR.out.below hb1).alloc _).row; rintro e w2 ⟨rfl, hb2⟩; have l3 := fun o => cell_alloc (cell_later hb2 (cell_alloc k3 _)) o; have z2 := hb2.size; simp at z2)
        | (go_at_call_of 83 (Value.string q3); refine (atom_opt r vs vc (.slice none 0 0) vb b _ _ ?_ o Ha.out).mono ?_; exact ((((HR.out.below hb1).alloc _).below hb2).alloc _).row; rintro e w3 ⟨rfl, hb3⟩; have t0 := fun o => cell_alloc (cell_later hb3 (cell_alloc (cell_later hb2 (newAt w1 #[.int .i64 p, .int .i64 pq] 84 0 _ rfl)) _)) o; have t1 := fun o => cell_alloc (cell_later hb3 (cell_alloc (cell_later hb2 (newAt w1 #[.int .i64 p, .int .i64 pq] 84 1 _ rfl)) _)) o; have u0 := fun o => cell_alloc (cell_later hb3 (newAt w2 #[.int .i64 m, .int .i64 mq] 84 0 _ rfl)) o; have u1 := fun o => cell_alloc (cell_later hb3 (newAt w2 #[.int .i64 m, .int .i64 mq] 84 1 _ rfl)) o; have z3 := hb3.size; simp at z3))
      go_ret
      exact took_none rfl ((((((hb1.mono HR.out.baseLe).alloc (by have := HR.out.baseLe; omega) _).trans (hb2.mono (by have := HR.out.baseLe; simp; omega))).alloc (by have := HR.out.baseLe; omega) _).trans (hb3.mono (by have := HR.out.baseLe; simp; omega))).alloc (by have := HR.out.baseLe; omega) _)
  · have hS : Lk.takeLoad r (ws.map ByteArray.toList) = none := by
      unfold Lk.takeLoad; rw [if_neg (by simp; omega)]
    have hl' : ((ws.length : Int) == 4) = false := by simp; omega
    clear hw
    generalize ws.length = n at hl'
    go_enter Tryd.func56, Tryd.ntmps56
    go_wp2_with fail
    go_ret
    exact took_none hS (Below.refl _ _)
end Go.Proofs.YtgddmpmcnjlcjabDoor
