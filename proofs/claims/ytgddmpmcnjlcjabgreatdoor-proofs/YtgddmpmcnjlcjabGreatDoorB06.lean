import Derived.Test.YtgddmpmcnjlcjabGreatDoorB03
namespace Go.Proofs.YtgddmpmcnjlcjabGreatDoor
open Go.RowKit
set_option linter.unusedVariables false
set_option maxRecDepth 100000 in
set_option maxHeartbeats 1000000 in
theorem takeStore_any (r : Lk.RS) (vs vc vb : Value) (base b g cap : Nat) (ws : List ByteArray) (w : World) (hr : Rep w base b r vs vc vb) (hw : Wds w g ws) (hbl : r.body.length ≤ 100000) :
    Calls Tryz.prog 69 #[.pointer (some ⟨b, 0, none⟩), .slice (some ⟨g, 0, none⟩) ws.length cap] w fun e w' =>
      e = .returned (.bool (Lk.takeStore r (ws.map ByteArray.toList)).isSome) ∧ Took w w' base b (Lk.takeStore r (ws.map ByteArray.toList)) := by
  have hlt := hr.lt
  by_cases hl : ws.length = 4
  · have hc1 := hw 1 (by omega)
    have hc2 := hw 2 (by omega)
    have hc3 := hw 3 (by omega)
    have hg : g < w.heap.size := World.block_lt_of_cell? w _ hc1
    generalize hq1 : ws.getD 1 ByteArray.empty = q1 at hc1
    generalize hq2 : ws.getD 2 ByteArray.empty = q2 at hc2
    generalize hq3 : ws.getD 3 ByteArray.empty = q3 at hc3
    obtain ⟨p, pq, hf1⟩ : ∃ p pq, Lk.find r q1.toList = (p, pq) := ⟨_, _, rfl⟩
    obtain ⟨o2, ha2⟩ : ∃ o, Lk.atom? r q2.toList = o := ⟨_, rfl⟩
    obtain ⟨o3, ha3⟩ : ∃ o, Lk.atom? r q3.toList = o := ⟨_, rfl⟩
    have hS : Lk.takeStore r (ws.map ByteArray.toList) = if p = 2 then (match o2, o3 with | some x, some y => Lk.add r { kind := 2, arr := pq, a := x, b := y } | _, _ => none) else none := by
      unfold Lk.takeStore; rw [wd_map, wd_map, wd_map, hq1, hq2, hq3, hf1, ha2, ha3]; simp [hl]; rfl
    rw [hS, hl]
    clear hq1 hq2 hq3 hw hl hS
    have HR : Hid (Rep w base b r vs vc vb) := hr
    have Hf1 : Hid (Lk.find r q1.toList = (p, pq)) := hf1
    have Ha2 : Hid (Lk.atom? r q2.toList = o2) := ha2
    have Ha3 : Hid (Lk.atom? r q3.toList = o3) := ha3
    clear hr hf1 ha2 ha3
    by_cases hp : p = 2
    · have hp' : ((p : Int) != 2) = false := by simp; omega
      rw [if_pos hp]
      clear hp
      cases o2 with
      | none =>
        go_enter Tryz.func69, Tryz.ntmps69
        go_wp2_with (first
          | (go_at_call_of 98 (Value.string q1); refine (find_out r vs vc (.slice none 0 0) vb b _ _ ?_ p pq Hf1.out).mono ?_; exact HR.out.row; rintro e w1 ⟨rfl, hb1⟩; have k2 := fun o => cell_alloc (cell_later hb1 hc2) o; have k3 := cell_later hb1 hc3; have z1 := hb1.size)
          | (go_at_call_of 99 (Value.string q2); refine (atom_none r vs vc (.slice none 0 0) vb b _ _ ?_ Ha2.out).mono ?_; exact ((HR.out.below hb1).alloc _).row; rintro e w2 ⟨rfl, hb2⟩; have l3 := fun o => cell_alloc (cell_later hb2 (cell_alloc k3 _)) o; have z2 := hb2.size; simp at z2)
          | (go_at_call_of 99 (Value.string q3); refine (atom_opt r vs vc (.slice none 0 0) vb b _ _ ?_ o3 Ha3.out).mono ?_; exact ((((HR.out.below hb1).alloc _).below hb2).alloc _).row; rintro e w3 ⟨rfl, hb3⟩; have t0 := fun o => cell_alloc (cell_later hb3 (cell_alloc (cell_later hb2 (newAt w1 #[.int .i64 p, .int .i64 pq] 95 0 _ rfl)) _)) o; have t1 := fun o => cell_alloc (cell_later hb3 (cell_alloc (cell_later hb2 (newAt w1 #[.int .i64 p, .int .i64 pq] 95 1 _ rfl)) _)) o; have u0 := fun o => cell_alloc (cell_later hb3 (newAt w2 #[.bool false, .int .i64 0] 151 0 _ rfl)) o; have u1 := fun o => cell_alloc (cell_later hb3 (newAt w2 #[.bool false, .int .i64 0] 151 1 _ rfl)) o; have z3 := hb3.size; simp at z3))
        go_ret
        exact took_none rfl ((((((hb1.mono HR.out.baseLe).alloc (by have := HR.out.baseLe; omega) _).trans (hb2.mono (by have := HR.out.baseLe; simp; omega))).alloc (by have := HR.out.baseLe; omega) _).trans (hb3.mono (by have := HR.out.baseLe; simp; omega))).alloc (by have := HR.out.baseLe; omega) _)
      | some x =>
        cases o3 with
        | none =>
          go_enter Tryz.func69, Tryz.ntmps69
          go_wp2_with (first
            | (go_at_call_of 98 (Value.string q1); refine (find_out r vs vc (.slice none 0 0) vb b _ _ ?_ p pq Hf1.out).mono ?_; exact HR.out.row; rintro e w1 ⟨rfl, hb1⟩; have k2 := fun o => cell_alloc (cell_later hb1 hc2) o; have k3 := cell_later hb1 hc3; have z1 := hb1.size)
            | (go_at_call_of 99 (Value.string q2); refine (atom_some r vs vc (.slice none 0 0) vb b _ _ ?_ x Ha2.out).mono ?_; exact ((HR.out.below hb1).alloc _).row; rintro e w2 ⟨rfl, hb2⟩; have l3 := fun o => cell_alloc (cell_later hb2 (cell_alloc k3 _)) o; have z2 := hb2.size; simp at z2)
            | (go_at_call_of 99 (Value.string q3); refine (atom_none r vs vc (.slice none 0 0) vb b _ _ ?_ Ha3.out).mono ?_; exact ((((HR.out.below hb1).alloc _).below hb2).alloc _).row; rintro e w3 ⟨rfl, hb3⟩; have t0 := fun o => cell_alloc (cell_later hb3 (cell_alloc (cell_later hb2 (newAt w1 #[.int .i64 p, .int .i64 pq] 95 0 _ rfl)) _)) o; have t1 := fun o => cell_alloc (cell_later hb3 (cell_alloc (cell_later hb2 (newAt w1 #[.int .i64 p, .int .i64 pq] 95 1 _ rfl)) _)) o; have u0 := fun o => cell_alloc (cell_later hb3 (newAt w2 #[.bool x.named, .int .i64 x.val] 151 0 _ rfl)) o; have u1 := fun o => cell_alloc (cell_later hb3 (newAt w2 #[.bool x.named, .int .i64 x.val] 151 1 _ rfl)) o; have z3 := hb3.size; simp at z3))
          go_ret
          exact took_none rfl ((((((hb1.mono HR.out.baseLe).alloc (by have := HR.out.baseLe; omega) _).trans (hb2.mono (by have := HR.out.baseLe; simp; omega))).alloc (by have := HR.out.baseLe; omega) _).trans (hb3.mono (by have := HR.out.baseLe; simp; omega))).alloc (by have := HR.out.baseLe; omega) _)
        | some y =>
          go_enter Tryz.func69, Tryz.ntmps69
          go_wp2_with (first
            | (go_at_call_of 98 (Value.string q1); refine (find_out r vs vc (.slice none 0 0) vb b _ _ ?_ p pq Hf1.out).mono ?_; exact HR.out.row; rintro e w1 ⟨rfl, hb1⟩; have k2 := fun o => cell_alloc (cell_later hb1 hc2) o; have k3 := cell_later hb1 hc3; have z1 := hb1.size)
            | (go_at_call_of 99 (Value.string q2); refine (atom_some r vs vc (.slice none 0 0) vb b _ _ ?_ x Ha2.out).mono ?_; exact ((HR.out.below hb1).alloc _).row; rintro e w2 ⟨rfl, hb2⟩; have l3 := fun o => cell_alloc (cell_later hb2 (cell_alloc k3 _)) o; have z2 := hb2.size; simp at z2)
            | (go_at_call_of 99 (Value.string q3); refine (atom_some r vs vc (.slice none 0 0) vb b _ _ ?_ y Ha3.out).mono ?_; exact ((((HR.out.below hb1).alloc _).below hb2).alloc _).row; rintro e w3 ⟨rfl, hb3⟩; have t0 := fun o => cell_alloc (cell_later hb3 (cell_alloc (cell_later hb2 (newAt w1 #[.int .i64 p, .int .i64 pq] 95 0 _ rfl)) _)) o; have t1 := fun o => cell_alloc (cell_later hb3 (cell_alloc (cell_later hb2 (newAt w1 #[.int .i64 p, .int .i64 pq] 95 1 _ rfl)) _)) o; have u0 := fun o => cell_alloc (cell_later hb3 (newAt w2 #[.bool x.named, .int .i64 x.val] 151 0 _ rfl)) o; have u1 := fun o => cell_alloc (cell_later hb3 (newAt w2 #[.bool x.named, .int .i64 x.val] 151 1 _ rfl)) o; have z3 := hb3.size; simp at z3)
            | (go_at_call 100; refine (add_took r { kind := 2, arr := pq, a := x, b := y } vs vc vb base b _ ?_ hbl _ _ _ _ _ _ _ _ _ _ ?_).mono ?_; exact ((((((HR.out.below hb1).alloc _).below hb2).alloc _).below hb3).alloc _); rfl; rintro e w4 ⟨rfl, T⟩))
          go_ret
          exact ⟨rfl, T.after ((((((hb1.mono HR.out.baseLe).alloc (by have := HR.out.baseLe; omega) _).trans (hb2.mono (by have := HR.out.baseLe; simp; omega))).alloc (by have := HR.out.baseLe; omega) _).trans (hb3.mono (by have := HR.out.baseLe; simp; omega))).alloc (by have := HR.out.baseLe; omega) _)⟩
    · have hp' : ((p : Int) != 2) = true := by simp; omega
      rw [if_neg hp]
      clear hp
      go_enter Tryz.func69, Tryz.ntmps69
      go_wp2_with (first
        | (go_at_call_of 98 (Value.string q1); refine (find_out r vs vc (.slice none 0 0) vb b _ _ ?_ p pq Hf1.out).mono ?_; exact HR.out.row; rintro e w1 ⟨rfl, hb1⟩; have k2 := fun o => cell_alloc (cell_later hb1 hc2) o; have k3 := cell_later hb1 hc3; have z1 := hb1.size)
        | (go_at_call_of 99 (Value.string q2); refine (atom_opt r vs vc (.slice none 0 0) vb b _ _ ?_ o2 Ha2.out).mono ?_; exact ((HR.out.below hb1).alloc _).row; rintro e w2 ⟨rfl, hb2⟩; have l3 := fun o => cell_alloc (cell_later hb2 (cell_alloc k3 _)) o; have z2 := hb2.size; simp at z2)
        | (go_at_call_of 99 (Value.string q3); refine (atom_opt r vs vc (.slice none 0 0) vb b _ _ ?_ o3 Ha3.out).mono ?_; exact ((((HR.out.below hb1).alloc _).below hb2).alloc _).row; rintro e w3 ⟨rfl, hb3⟩; have t0 := fun o => cell_alloc (cell_later hb3 (cell_alloc (cell_later hb2 (newAt w1 #[.int .i64 p, .int .i64 pq] 95 0 _ rfl)) _)) o; have t1 := fun o => cell_alloc (cell_later hb3 (cell_alloc (cell_later hb2 (newAt w1 #[.int .i64 p, .int .i64 pq] 95 1 _ rfl)) _)) o; have u0 := fun o => cell_alloc (cell_later hb3 (newAt w2 #[.bool (o2.getD {}).named, .int .i64 (o2.getD {}).val] 151 0 _ rfl)) o; have u1 := fun o => cell_alloc (cell_later hb3 (newAt w2 #[.bool (o2.getD {}).named, .int .i64 (o2.getD {}).val] 151 1 _ rfl)) o; have z3 := hb3.size; simp at z3))
      go_ret
      exact took_none rfl ((((((hb1.mono HR.out.baseLe).alloc (by have := HR.out.baseLe; omega) _).trans (hb2.mono (by have := HR.out.baseLe; simp; omega))).alloc (by have := HR.out.baseLe; omega) _).trans (hb3.mono (by have := HR.out.baseLe; simp; omega))).alloc (by have := HR.out.baseLe; omega) _)
  · have hS : Lk.takeStore r (ws.map ByteArray.toList) = none := by
      unfold Lk.takeStore; rw [if_neg (by simp; omega)]
    have hl4' : ((ws.length : Int) != 4) = true := by simp; omega
    clear hw hl
    generalize ws.length = n at hl4'
    go_enter Tryz.func69, Tryz.ntmps69
    go_wp2_with fail
    go_ret
    exact took_none hS (Below.refl _ _)
theorem operation_some (s : ByteArray) (w : World) (n : Nat) (h : Lk.oper? s.toList = some n) :
    Calls Tryz.prog 101 #[.string s] w fun e w' => e = .returned (.int .i64 n) ∧ w' = w := by
  rw [← intO_some h]; exact operation_any s w
theorem operation_none (s : ByteArray) (w : World) (h : Lk.oper? s.toList = none) :
    Calls Tryz.prog 101 #[.string s] w fun e w' => e = .returned (.int .i64 (-1)) ∧ w' = w := by
  rw [← intO_none h]; exact operation_any s w
set_option maxRecDepth 100000 in
set_option maxHeartbeats 1000000 in
theorem takeAssign_any (r : Lk.RS) (vs vc vb : Value) (base b g cap : Nat) (ws : List ByteArray) (w : World) (hr : Rep w base b r vs vc vb) (hw : Wds w g ws) (hbl : r.body.length ≤ 100000) :
    Calls Tryz.prog 74 #[.pointer (some ⟨b, 0, none⟩), .slice (some ⟨g, 0, none⟩) ws.length cap] w fun e w' =>
      e = .returned (.bool (Lk.takeAssign r (ws.map ByteArray.toList)).isSome) ∧ Took w w' base b (Lk.takeAssign r (ws.map ByteArray.toList)) := by
  have hlt := hr.lt
  by_cases hl : ws.length = 3
  · have hc0 := hw 0 (by omega)
    have hc1 := hw 1 (by omega)
    have hc2 := hw 2 (by omega)
    have hg : g < w.heap.size := World.block_lt_of_cell? w _ hc0
    generalize hq0 : ws.getD 0 ByteArray.empty = q0 at hc0
    generalize hq1 : ws.getD 1 ByteArray.empty = q1 at hc1
    generalize hq2 : ws.getD 2 ByteArray.empty = q2 at hc2
    obtain ⟨p, pq, hf0⟩ : ∃ p pq, Lk.find r q0.toList = (p, pq) := ⟨_, _, rfl⟩
    obtain ⟨o2, ha2⟩ : ∃ o, Lk.atom? r q2.toList = o := ⟨_, rfl⟩
    have hS : Lk.takeAssign r (ws.map ByteArray.toList) = if (q1.toList == [61]) = true ∧ p = 1 then (match o2 with | some x => Lk.add r { kind := 0, op := 0, slot := pq, a := x } | none => none) else none := by
      unfold Lk.takeAssign; simp only [wd_map, hq0, hq1, hq2, hf0, ha2]; simp [hl]
      first | rfl | (cases o2 <;> rfl)
    rw [hS, hl]
    clear hq0 hq1 hq2 hw hl hS
    have HR : Hid (Rep w base b r vs vc vb) := hr
    have Hf0 : Hid (Lk.find r q0.toList = (p, pq)) := hf0
    have Ha2 : Hid (Lk.atom? r q2.toList = o2) := ha2
    clear hr hf0 ha2
    cases he : (q1.toList == [61]) with
    | false =>
      rw [if_neg (by simp)]
      go_enter Tryz.func74, Tryz.ntmps74
      go_wp2_with fail
      go_ret
      exact took_none rfl (Below.refl _ _)
    | true =>
      by_cases hp : p = 1
      · have hp' : ((p : Int) != 1) = false := by simp; omega
        rw [if_pos ⟨rfl, hp⟩]
        clear hp
        cases o2 with
        | none =>
          go_enter Tryz.func74, Tryz.ntmps74
          go_wp2_with (first
            | (go_at_call_of 98 (Value.string q0); refine (find_out r vs vc (.slice none 0 0) vb b _ _ ?_ p pq Hf0.out).mono ?_; exact HR.out.row; rintro e w1 ⟨rfl, hb1⟩; have k2 := fun o => cell_alloc (cell_later hb1 hc2) o; have z1 := hb1.size)
            | (go_at_call_of 99 (Value.string q2); refine (atom_none r vs vc (.slice none 0 0) vb b _ _ ?_ Ha2.out).mono ?_; exact ((HR.out.below hb1).alloc _).row; rintro e w2 ⟨rfl, hb2⟩; have t0 := fun o => cell_alloc (cell_later hb2 (newAt w1 #[.int .i64 p, .int .i64 pq] 95 0 _ rfl)) o; have t1 := fun o => cell_alloc (cell_later hb2 (newAt w1 #[.int .i64 p, .int .i64 pq] 95 1 _ rfl)) o; have z2 := hb2.size; simp at z2))
          go_ret
          exact took_none rfl ((((hb1.mono HR.out.baseLe).alloc (by have := HR.out.baseLe; omega) _).trans (hb2.mono (by have := HR.out.baseLe; simp; omega))).alloc (by have := HR.out.baseLe; omega) _)
        | some x =>
          go_enter Tryz.func74, Tryz.ntmps74
          go_wp2_with (first
            | (go_at_call_of 98 (Value.string q0); refine (find_out r vs vc (.slice none 0 0) vb b _ _ ?_ p pq Hf0.out).mono ?_; exact HR.out.row; rintro e w1 ⟨rfl, hb1⟩; have k2 := fun o => cell_alloc (cell_later hb1 hc2) o; have z1 := hb1.size)
            | (go_at_call_of 99 (Value.string q2); refine (atom_some r vs vc (.slice none 0 0) vb b _ _ ?_ x Ha2.out).mono ?_; exact ((HR.out.below hb1).alloc _).row; rintro e w2 ⟨rfl, hb2⟩; have t0 := fun o => cell_alloc (cell_later hb2 (newAt w1 #[.int .i64 p, .int .i64 pq] 95 0 _ rfl)) o; have t1 := fun o => cell_alloc (cell_later hb2 (newAt w1 #[.int .i64 p, .int .i64 pq] 95 1 _ rfl)) o; have z2 := hb2.size; simp at z2)
            | (go_at_call 100; refine (add_took r { kind := 0, op := 0, slot := pq, a := x } vs vc vb base b _ ?_ hbl _ _ _ _ _ _ _ _ _ _ ?_).mono ?_; exact ((((HR.out.below hb1).alloc _).below hb2).alloc _); rfl; rintro e w4 ⟨rfl, T⟩))
          go_ret
          exact ⟨rfl, T.after ((((hb1.mono HR.out.baseLe).alloc (by have := HR.out.baseLe; omega) _).trans (hb2.mono (by have := HR.out.baseLe; simp; omega))).alloc (by have := HR.out.baseLe; omega) _)⟩
      · have hp' : ((p : Int) != 1) = true := by simp; omega
        rw [if_neg (fun h => hp h.2)]
        clear hp
        go_enter Tryz.func74, Tryz.ntmps74
        go_wp2_with (first
          | (go_at_call_of 98 (Value.string q0); refine (find_out r vs vc (.slice none 0 0) vb b _ _ ?_ p pq Hf0.out).mono ?_; exact HR.out.row; rintro e w1 ⟨rfl, hb1⟩; have k2 := fun o => cell_alloc (cell_later hb1 hc2) o; have z1 := hb1.size)
          | (go_at_call_of 99 (Value.string q2); refine (atom_opt r vs vc (.slice none 0 0) vb b _ _ ?_ o2 Ha2.out).mono ?_; exact ((HR.out.below hb1).alloc _).row; rintro e w2 ⟨rfl, hb2⟩; have t0 := fun o => cell_alloc (cell_later hb2 (newAt w1 #[.int .i64 p, .int .i64 pq] 95 0 _ rfl)) o; have t1 := fun o => cell_alloc (cell_later hb2 (newAt w1 #[.int .i64 p, .int .i64 pq] 95 1 _ rfl)) o; have z2 := hb2.size; simp at z2))
        go_ret
        exact took_none rfl ((((hb1.mono HR.out.baseLe).alloc (by have := HR.out.baseLe; omega) _).trans (hb2.mono (by have := HR.out.baseLe; simp; omega))).alloc (by have := HR.out.baseLe; omega) _)
  · by_cases hl5 : ws.length = 5
    · have hc0 := hw 0 (by omega)
      have hc1 := hw 1 (by omega)
      have hc2 := hw 2 (by omega)
      have hc3 := hw 3 (by omega)
      have hc4 := hw 4 (by omega)
      have hg : g < w.heap.size := World.block_lt_of_cell? w _ hc0
      generalize hq0 : ws.getD 0 ByteArray.empty = q0 at hc0
      generalize hq1 : ws.getD 1 ByteArray.empty = q1 at hc1
      generalize hq2 : ws.getD 2 ByteArray.empty = q2 at hc2
      generalize hq3 : ws.getD 3 ByteArray.empty = q3 at hc3
      generalize hq4 : ws.getD 4 ByteArray.empty = q4 at hc4
      obtain ⟨p, pq, hf0⟩ : ∃ p pq, Lk.find r q0.toList = (p, pq) := ⟨_, _, rfl⟩
      obtain ⟨o2, ha2⟩ : ∃ o, Lk.atom? r q2.toList = o := ⟨_, rfl⟩
      obtain ⟨ow, ho⟩ : ∃ o, Lk.oper? q3.toList = o := ⟨_, rfl⟩
      obtain ⟨o4, ha4⟩ : ∃ o, Lk.atom? r q4.toList = o := ⟨_, rfl⟩
      have hS : Lk.takeAssign r (ws.map ByteArray.toList) = if (q1.toList == [61]) = true ∧ p = 1 then (match o2 with | some x => (match ow, o4 with | some oo, some y => Lk.add r { kind := 0, op := oo, slot := pq, a := x, b := y } | _, _ => none) | none => none) else none := by
        unfold Lk.takeAssign; simp only [wd_map, hq0, hq1, hq2, hq3, hq4, ho, ha4, hf0, ha2]; simp [hl5]
        first | rfl | (cases o2 <;> cases ow <;> cases o4 <;> rfl)
      rw [hS, hl5]
      clear hq0 hq1 hq2 hq3 hq4 hw hl hl5 hS
      have HR : Hid (Rep w base b r vs vc vb) := hr
      have Hf0 : Hid (Lk.find r q0.toList = (p, pq)) := hf0
      have Ha2 : Hid (Lk.atom? r q2.toList = o2) := ha2
      have Ho : Hid (Lk.oper? q3.toList = ow) := ho
      have Ha4 : Hid (Lk.atom? r q4.toList = o4) := ha4
      clear ho ha4
      clear hr hf0 ha2
      cases he : (q1.toList == [61]) with
      | false =>
        rw [if_neg (by simp)]
        go_enter Tryz.func74, Tryz.ntmps74
        go_wp2_with fail
        go_ret
        exact took_none rfl (Below.refl _ _)
      | true =>
        by_cases hp : p = 1
        · have hp' : ((p : Int) != 1) = false := by simp; omega
          rw [if_pos ⟨rfl, hp⟩]
          clear hp
          cases o2 with
          | none =>
            go_enter Tryz.func74, Tryz.ntmps74
            go_wp2_with (first
              | (go_at_call_of 98 (Value.string q0); refine (find_out r vs vc (.slice none 0 0) vb b _ _ ?_ p pq Hf0.out).mono ?_; exact HR.out.row; rintro e w1 ⟨rfl, hb1⟩; have k2 := fun o => cell_alloc (cell_later hb1 hc2) o; have k3 := cell_later hb1 hc3; have k4 := cell_later hb1 hc4; have z1 := hb1.size)
              | (go_at_call_of 99 (Value.string q2); refine (atom_none r vs vc (.slice none 0 0) vb b _ _ ?_ Ha2.out).mono ?_; exact ((HR.out.below hb1).alloc _).row; rintro e w2 ⟨rfl, hb2⟩; have t0 := fun o => cell_alloc (cell_later hb2 (newAt w1 #[.int .i64 p, .int .i64 pq] 95 0 _ rfl)) o; have t1 := fun o => cell_alloc (cell_later hb2 (newAt w1 #[.int .i64 p, .int .i64 pq] 95 1 _ rfl)) o; have z2 := hb2.size; simp at z2; have l3 := fun o => cell_alloc (cell_later hb2 (cell_alloc k3 _)) o; have l4 := fun o => cell_alloc (cell_later hb2 (cell_alloc k4 _)) o))
            go_ret
            exact took_none rfl ((((hb1.mono HR.out.baseLe).alloc (by have := HR.out.baseLe; omega) _).trans (hb2.mono (by have := HR.out.baseLe; simp; omega))).alloc (by have := HR.out.baseLe; omega) _)
          | some x =>
            cases ow with
            | none =>
              go_enter Tryz.func74, Tryz.ntmps74
              go_wp2_with (first
                | (go_at_call_of 98 (Value.string q0); refine (find_out r vs vc (.slice none 0 0) vb b _ _ ?_ p pq Hf0.out).mono ?_; exact HR.out.row; rintro e w1 ⟨rfl, hb1⟩; have k2 := fun o => cell_alloc (cell_later hb1 hc2) o; have k3 := cell_later hb1 hc3; have k4 := cell_later hb1 hc4; have z1 := hb1.size)
                | (go_at_call_of 99 (Value.string q2); refine (atom_some r vs vc (.slice none 0 0) vb b _ _ ?_ x Ha2.out).mono ?_; exact ((HR.out.below hb1).alloc _).row; rintro e w2 ⟨rfl, hb2⟩; have t0 := fun o => cell_alloc (cell_later hb2 (newAt w1 #[.int .i64 p, .int .i64 pq] 95 0 _ rfl)) o; have t1 := fun o => cell_alloc (cell_later hb2 (newAt w1 #[.int .i64 p, .int .i64 pq] 95 1 _ rfl)) o; have z2 := hb2.size; simp at z2; have l3 := fun o => cell_alloc (cell_later hb2 (cell_alloc k3 _)) o; have l4 := fun o => cell_alloc (cell_later hb2 (cell_alloc k4 _)) o)
                | (go_at_call 101; refine (operation_none _ _ Ho.out).mono ?_; rintro e w9 ⟨rfl, rfl⟩)
                | (go_at_call_of 99 (Value.string q4); refine (atom_opt r vs vc (.slice none 0 0) vb b _ _ ?_ o4 Ha4.out).mono ?_; exact ((((HR.out.below hb1).alloc _).below hb2).alloc _).row; rintro e w3 ⟨rfl, hb3⟩; have m0 := fun o => cell_alloc (cell_later hb3 (t0 _)) o; have m1 := fun o => cell_alloc (cell_later hb3 (t1 _)) o; have u0 := fun o => cell_alloc (cell_later hb3 (newAt w2 #[.bool x.named, .int .i64 x.val] 151 0 _ rfl)) o; have u1 := fun o => cell_alloc (cell_later hb3 (newAt w2 #[.bool x.named, .int .i64 x.val] 151 1 _ rfl)) o; have z3 := hb3.size; simp at z3))
              go_ret
              exact took_none rfl ((((((hb1.mono HR.out.baseLe).alloc (by have := HR.out.baseLe; omega) _).trans (hb2.mono (by have := HR.out.baseLe; simp; omega))).alloc (by have := HR.out.baseLe; omega) _).trans (hb3.mono (by have := HR.out.baseLe; simp; omega))).alloc (by have := HR.out.baseLe; omega) _)
            | some oo =>
              have ho0 : (0 : Int) ≤ (oo : Int) := by omega
              cases o4 with
              | none =>
                go_enter Tryz.func74, Tryz.ntmps74
                go_wp2_with (first
                  | (go_at_call_of 98 (Value.string q0); refine (find_out r vs vc (.slice none 0 0) vb b _ _ ?_ p pq Hf0.out).mono ?_; exact HR.out.row; rintro e w1 ⟨rfl, hb1⟩; have k2 := fun o => cell_alloc (cell_later hb1 hc2) o; have k3 := cell_later hb1 hc3; have k4 := cell_later hb1 hc4; have z1 := hb1.size)
                  | (go_at_call_of 99 (Value.string q2); refine (atom_some r vs vc (.slice none 0 0) vb b _ _ ?_ x Ha2.out).mono ?_; exact ((HR.out.below hb1).alloc _).row; rintro e w2 ⟨rfl, hb2⟩; have t0 := fun o => cell_alloc (cell_later hb2 (newAt w1 #[.int .i64 p, .int .i64 pq] 95 0 _ rfl)) o; have t1 := fun o => cell_alloc (cell_later hb2 (newAt w1 #[.int .i64 p, .int .i64 pq] 95 1 _ rfl)) o; have z2 := hb2.size; simp at z2; have l3 := fun o => cell_alloc (cell_later hb2 (cell_alloc k3 _)) o; have l4 := fun o => cell_alloc (cell_later hb2 (cell_alloc k4 _)) o)
                  | (go_at_call 101; refine (operation_some _ _ oo Ho.out).mono ?_; rintro e w9 ⟨rfl, rfl⟩)
                  | (go_at_call_of 99 (Value.string q4); refine (atom_none r vs vc (.slice none 0 0) vb b _ _ ?_ Ha4.out).mono ?_; exact ((((HR.out.below hb1).alloc _).below hb2).alloc _).row; rintro e w3 ⟨rfl, hb3⟩; have m0 := fun o => cell_alloc (cell_later hb3 (t0 _)) o; have m1 := fun o => cell_alloc (cell_later hb3 (t1 _)) o; have u0 := fun o => cell_alloc (cell_later hb3 (newAt w2 #[.bool x.named, .int .i64 x.val] 151 0 _ rfl)) o; have u1 := fun o => cell_alloc (cell_later hb3 (newAt w2 #[.bool x.named, .int .i64 x.val] 151 1 _ rfl)) o; have z3 := hb3.size; simp at z3))
                go_ret
                exact took_none rfl ((((((hb1.mono HR.out.baseLe).alloc (by have := HR.out.baseLe; omega) _).trans (hb2.mono (by have := HR.out.baseLe; simp; omega))).alloc (by have := HR.out.baseLe; omega) _).trans (hb3.mono (by have := HR.out.baseLe; simp; omega))).alloc (by have := HR.out.baseLe; omega) _)
              | some y =>
                go_enter Tryz.func74, Tryz.ntmps74
                go_wp2_with (first
                  | (go_at_call_of 98 (Value.string q0); refine (find_out r vs vc (.slice none 0 0) vb b _ _ ?_ p pq Hf0.out).mono ?_; exact HR.out.row; rintro e w1 ⟨rfl, hb1⟩; have k2 := fun o => cell_alloc (cell_later hb1 hc2) o; have k3 := cell_later hb1 hc3; have k4 := cell_later hb1 hc4; have z1 := hb1.size)
                  | (go_at_call_of 99 (Value.string q2); refine (atom_some r vs vc (.slice none 0 0) vb b _ _ ?_ x Ha2.out).mono ?_; exact ((HR.out.below hb1).alloc _).row; rintro e w2 ⟨rfl, hb2⟩; have t0 := fun o => cell_alloc (cell_later hb2 (newAt w1 #[.int .i64 p, .int .i64 pq] 95 0 _ rfl)) o; have t1 := fun o => cell_alloc (cell_later hb2 (newAt w1 #[.int .i64 p, .int .i64 pq] 95 1 _ rfl)) o; have z2 := hb2.size; simp at z2; have l3 := fun o => cell_alloc (cell_later hb2 (cell_alloc k3 _)) o; have l4 := fun o => cell_alloc (cell_later hb2 (cell_alloc k4 _)) o)
                  | (go_at_call 101; refine (operation_some _ _ oo Ho.out).mono ?_; rintro e w9 ⟨rfl, rfl⟩)
                  | (go_at_call_of 99 (Value.string q4); refine (atom_some r vs vc (.slice none 0 0) vb b _ _ ?_ y Ha4.out).mono ?_; exact ((((HR.out.below hb1).alloc _).below hb2).alloc _).row; rintro e w3 ⟨rfl, hb3⟩; have m0 := fun o => cell_alloc (cell_later hb3 (t0 _)) o; have m1 := fun o => cell_alloc (cell_later hb3 (t1 _)) o; have u0 := fun o => cell_alloc (cell_later hb3 (newAt w2 #[.bool x.named, .int .i64 x.val] 151 0 _ rfl)) o; have u1 := fun o => cell_alloc (cell_later hb3 (newAt w2 #[.bool x.named, .int .i64 x.val] 151 1 _ rfl)) o; have z3 := hb3.size; simp at z3)
                  | (go_at_call 100; refine (add_took r { kind := 0, op := oo, slot := pq, a := x, b := y } vs vc vb base b _ ?_ hbl _ _ _ _ _ _ _ _ _ _ ?_).mono ?_; exact ((((((HR.out.below hb1).alloc _).below hb2).alloc _).below hb3).alloc _); rfl; rintro e w4 ⟨rfl, T⟩))
                go_ret
                exact ⟨rfl, T.after ((((((hb1.mono HR.out.baseLe).alloc (by have := HR.out.baseLe; omega) _).trans (hb2.mono (by have := HR.out.baseLe; simp; omega))).alloc (by have := HR.out.baseLe; omega) _).trans (hb3.mono (by have := HR.out.baseLe; simp; omega))).alloc (by have := HR.out.baseLe; omega) _)⟩
        · have hp' : ((p : Int) != 1) = true := by simp; omega
          rw [if_neg (fun h => hp h.2)]
          clear hp
          go_enter Tryz.func74, Tryz.ntmps74
          go_wp2_with (first
            | (go_at_call_of 98 (Value.string q0); refine (find_out r vs vc (.slice none 0 0) vb b _ _ ?_ p pq Hf0.out).mono ?_; exact HR.out.row; rintro e w1 ⟨rfl, hb1⟩; have k2 := fun o => cell_alloc (cell_later hb1 hc2) o; have k3 := cell_later hb1 hc3; have k4 := cell_later hb1 hc4; have z1 := hb1.size)
            | (go_at_call_of 99 (Value.string q2); refine (atom_opt r vs vc (.slice none 0 0) vb b _ _ ?_ o2 Ha2.out).mono ?_; exact ((HR.out.below hb1).alloc _).row; rintro e w2 ⟨rfl, hb2⟩; have t0 := fun o => cell_alloc (cell_later hb2 (newAt w1 #[.int .i64 p, .int .i64 pq] 95 0 _ rfl)) o; have t1 := fun o => cell_alloc (cell_later hb2 (newAt w1 #[.int .i64 p, .int .i64 pq] 95 1 _ rfl)) o; have z2 := hb2.size; simp at z2; have l3 := fun o => cell_alloc (cell_later hb2 (cell_alloc k3 _)) o; have l4 := fun o => cell_alloc (cell_later hb2 (cell_alloc k4 _)) o))
          go_ret
          exact took_none rfl ((((hb1.mono HR.out.baseLe).alloc (by have := HR.out.baseLe; omega) _).trans (hb2.mono (by have := HR.out.baseLe; simp; omega))).alloc (by have := HR.out.baseLe; omega) _)
    · have hS : Lk.takeAssign r (ws.map ByteArray.toList) = none := by
        unfold Lk.takeAssign; rw [if_neg (by simp; omega)]
      have hl3' : ((ws.length : Int) != 3) = true := by simp; omega
      have hl5' : ((ws.length : Int) != 5) = true := by simp; omega
      clear hw hl hl5
      generalize ws.length = n at hl3' hl5'
      go_enter Tryz.func74, Tryz.ntmps74
      go_wp2_with fail
      go_ret
      exact took_none hS (Below.refl _ _)
end Go.Proofs.YtgddmpmcnjlcjabGreatDoor
