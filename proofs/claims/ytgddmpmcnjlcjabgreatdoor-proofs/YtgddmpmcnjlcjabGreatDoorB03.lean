import Derived.Test.YtgddmpmcnjlcjabGreatDoorB02
import Derived.Deep.RegionLaw
namespace Go.Proofs.YtgddmpmcnjlcjabGreatDoor
open Go.RowKit
set_option linter.unusedVariables false
theorem add_close {w W w1 : World} {base b gg cap : Nat} {r : Lk.RS} {vs vc vb : Value} {st : Lk.St} {o : Obj} {i0 i1 i2 i3 i5 i7 i8 i9 : Int} {b4 b6 : Bool}
    (hR : RepF W base b (fun j => if j = 57 then .int .i64 (↑r.stmts + 1) else rcell r vs vc (.slice none 0 0) vb j) r.secret r.cells r.body vs vc vb) (hB : Below base w W)
    (hst : stCells st = [.int .i64 i0, .int .i64 i1, .int .i64 i2, .int .i64 i3, .bool b4, .int .i64 i5, .bool b6, .int .i64 i7, .int .i64 i8, .int .i64 i9])
    (hown : w1.ownsRow base 153 10 (.slice (some ⟨gg, 0, none⟩) (r.body.length + 1) cap) (r.body.length + 1) (flat r.body ++ [.int .i64 i0, .int .i64 i1, .int .i64 i2, .int .i64 i3, .bool b4, .int .i64 i5, .bool b6, .int .i64 i7, .int .i64 (↑r.body.length + 1), .int .i64 i9]))
    (hg : (W.alloc o).drew.grownBy w1 vb.ownBlock) (hat : vb.ownBlock = some gg ∨ gg = w.heap.size + 2) (hsz : W.heap.size = w.heap.size + 1) :
    (∃ vb', Rep (w1.setCell ⟨b, 56, none⟩ (.slice (some ⟨gg, 0, none⟩) (r.body.length + 1) cap)) base b { r with stmts := r.stmts + 1, body := r.body ++ [{ st with next := r.body.length + 1 }] } vs vc vb') ∧ Below base w (w1.setCell ⟨b, 56, none⟩ (.slice (some ⟨gg, 0, none⟩) (r.body.length + 1) cap)) := by
  have hX := (hR.alloc o).drew
  have hst2 : stCells { st with next := r.body.length + 1 } = [.int .i64 i0, .int .i64 i1, .int .i64 i2, .int .i64 i3, .bool b4, .int .i64 i5, .bool b6, .int .i64 i7, .int .i64 (↑r.body.length + 1), .int .i64 i9] := by
    simp [stCells] at hst ⊢
    simp [hst]
  have hB1 : base ≤ (W.alloc o).drew.heap.size := hX.baseLe
  refine ⟨⟨_, ((hX.growBody (bod' := r.body ++ [{ st with next := r.body.length + 1 }]) hg (by rw [flat_snoc, hst2]; simpa using hown) (by simpa [hsz] using hat)).put 56 _).congr (fun j hj => rcell_add r vs vc _ vb _ _ j hj)⟩, ?_⟩
  refine (Below.grown ((hB.alloc (by have := hR.baseLe; exact this) o).drew) hg hB1 ?_).setCell hR.ge _
  intro k hk
  exact (hR.bod.lt k hk).1
set_option maxRecDepth 100000 in
set_option maxHeartbeats 1000000 in
theorem add_some (r : Lk.RS) (st : Lk.St) (vs vc vb : Value) (base b : Nat) (w : World) (hr : Rep w base b r vs vc vb) (hn : r.stmts < 12) (hbl : r.body.length ≤ 100000) (i0 i1 i2 i3 i5 i7 i8 i9 : Int) (b4 b6 : Bool)
    (hst : stCells st = [.int .i64 i0, .int .i64 i1, .int .i64 i2, .int .i64 i3, .bool b4, .int .i64 i5, .bool b6, .int .i64 i7, .int .i64 i8, .int .i64 i9]) :
    Calls Tryz.prog 100 #[.pointer (some ⟨b, 0, none⟩), .agg #[.int .i64 i0, .int .i64 i1, .int .i64 i2, .int .i64 i3, .bool b4, .int .i64 i5, .bool b6, .int .i64 i7, .int .i64 i8, .int .i64 i9]] w fun e w' =>
      e = .returned (.bool true) ∧ (∃ vb', Rep w' base b { r with stmts := r.stmts + 1, body := r.body ++ [{ st with next := r.body.length + 1 }] } vs vc vb') ∧ Below base w w' := by
  obtain ⟨t0, ht0, hz0, hz1, hz2⟩ := info_parts Tryz.infoSt
  have hlt := hr.lt
  have hge := hr.ge
  have hba := hr.baseLe
  have hc57 := hr.row.cell (i := 57) (by omega)
  rw [show rcell r vs vc (.slice none 0 0) vb 57 = .int .i64 r.stmts from rfl] at hc57
  have hf57 := hr.row.frozen 57
  have hf56 := hr.row.frozen 56
  have hc56 := hr.row.cell (i := 56) (by omega)
  rw [show rcell r vs vc (.slice none 0 0) vb 56 = vb from rfl] at hc56
  obtain ⟨ad, cp, hvb⟩ := body_val hr.bod
  have HR : Hid (Rep w base b r vs vc vb) := hr
  have hnb := hr.nb
  have hown := hr.bod
  clear hr
  subst hvb
  have hn1 : (r.stmts : Int) < 12 := by omega
  have hl1 : (r.body.length : Int) ≤ 100000 := by omega
  go_enter Tryz.func100, Tryz.ntmps100
  go_wp2_with fail
  obtain ⟨W, hW⟩ : ∃ W, W = ((w.setCell ⟨b, 57, none⟩ (.int .i64 (↑r.stmts + 1))).alloc (Obj.cells #[.int .i64 i0, .int .i64 i1, .int .i64 i2, .int .i64 i3, .bool b4, .int .i64 i5, .bool b6, .int .i64 i7, .int .i64 (↑r.body.length + 1), .int .i64 i9] 153)) := ⟨_, rfl⟩
  rw [← hW]
  have HR2 : Hid (RepF W base b (fun j => if j = 57 then .int .i64 (↑r.stmts + 1) else rcell r vs vc (.slice none 0 0) (.slice ad r.body.length cp) j) r.secret r.cells r.body vs vc (.slice ad r.body.length cp)) := by
    rw [hW]; exact (HR.out.put 57 _).alloc _
  have HB2 : Hid (Below base w W) := by rw [hW]; exact ((Below.refl _ _).setCell hge _).alloc (by simpa using hba) _
  have hsz : W.heap.size = w.heap.size + 1 := by rw [hW]; simp
  have blk : W.heap[w.heap.size]? = some (Obj.cells #[.int .i64 i0, .int .i64 i1, .int .i64 i2, .int .i64 i3, .bool b4, .int .i64 i5, .bool b6, .int .i64 i7, .int .i64 (↑r.body.length + 1), .int .i64 i9] 153) := by
    rw [hW]; have := heap_alloc_new (w.setCell ⟨b, 57, none⟩ (.int .i64 (↑r.stmts + 1))) (Obj.cells #[.int .i64 i0, .int .i64 i1, .int .i64 i2, .int .i64 i3, .bool b4, .int .i64 i5, .bool b6, .int .i64 i7, .int .i64 (↑r.body.length + 1), .int .i64 i9] 153); simpa using this
  have cl := fun j u hj => cellAt blk j u hj
  have c0 := cl 0 _ rfl
  have c1 := cl 1 _ rfl
  have c2 := cl 2 _ rfl
  have c3 := cl 3 _ rfl
  have c4 := cl 4 _ rfl
  have c5 := cl 5 _ rfl
  have c6 := cl 6 _ rfl
  have c7 := cl 7 _ rfl
  have c8 := cl 8 _ rfl
  have c9 := cl 9 _ rfl
  have d56 := HR2.out.row.cell (i := 56) (by omega)
  have e56 := HR2.out.row.frozen 56
  have hbW : b < W.heap.size := HR2.out.lt
  have howW := HR2.out.bod
  have hnew : (Value.slice ad r.body.length cp).ownBlock ≠ some w.heap.size := fun e => by have := (hown.lt _ e).2; omega
  simp only [show rcell r vs vc (.slice none 0 0) (.slice ad r.body.length cp) 56 = .slice ad r.body.length cp from rfl, if_neg (show ¬ (56 = 57) by omega)] at d56
  clear hW cl blk hc57 hf57 hf56 hc56 hown HR hn1
  have Hst : Hid _ := hst
  clear hst
  go_region_law
    ((refine step_append_lies _ (by rfl) _ _ _ (by rfl) base 153 t0 _ 10 80 Tryz.underlying47 ht0 hz0 hz1 hz2 rfl (by omega) _ r.body.length (flat r.body) (by rfl) ((howW.alloc _).drew)
        ⟨w.heap.size + 1, 0, none⟩ 1 1 [.int .i64 i0, .int .i64 i1, .int .i64 i2, .int .i64 i3, .bool b4, .int .i64 i5, .bool b6, .int .i64 i7, .int .i64 (↑r.body.length + 1), .int .i64 i9] (by simp [go_sem]) (by rfl) (World.news_of_block (cs := #[.int .i64 i0, .int .i64 i1, .int .i64 i2, .int .i64 i3, .bool b4, .int .i64 i5, .bool b6, .int .i64 i7, .int .i64 (↑r.body.length + 1), .int .i64 i9]) (t := 153) (fr := (0, 0)) (by rw [← hsz]; exact heap_alloc_new W _)) (by simp [Value.oneCell'])
        (by omega) (by unfold maxLen; omega) (by omega) (by simp; omega) (w.heap.size + 2) (by simp [hsz]) ?_; intro gg cap w1 hown1 hgrow hat hlt1; have hfz := (rowIs_grown ((HR2.out.row.alloc _).drew) hgrow hnb).frozen 56; have hcx := (rowIs_grown ((HR2.out.row.alloc _).drew) hgrow hnb).cell (i := 56) (by omega)))
  all_goals go_wp2
  all_goals go_ret
  all_goals exact ⟨rfl, add_close HR2.out HB2.out Hst.out hown1 hgrow hat hsz⟩
structure Took (w w' : World) (base b : Nat) (o : Option Lk.RS) : Prop where
  rep : ∀ r', o = some r' → ∃ vs vc vb, Rep w' base b r' vs vc vb
  bel : Below base w w'
theorem took_none {w w' : World} {base b : Nat} {o : Option Lk.RS} (h : o = none) (hb : Below base w w') : Ending.returned (.bool false) = .returned (.bool o.isSome) ∧ Took w w' base b o :=
  ⟨by rw [h]; rfl, (fun r' e => by rw [h] at e; cases e), hb⟩
theorem took_some {w w' : World} {base b : Nat} {o : Option Lk.RS} {r' : Lk.RS} {vs vc vb : Value} (h : o = some r') (hr : Rep w' base b r' vs vc vb) (hb : Below base w w') : Ending.returned (.bool true) = .returned (.bool o.isSome) ∧ Took w w' base b o :=
  ⟨by rw [h]; rfl, fun r'' e => by rw [h] at e; cases e; exact ⟨vs, vc, vb, hr⟩, hb⟩
theorem empty_toList : ByteArray.empty.toList = [] := tl0 rfl
theorem wd_map (ws : List ByteArray) (i : Nat) : Lk.wd (ws.map ByteArray.toList) i = (ws.getD i ByteArray.empty).toList := by
  unfold Lk.wd
  by_cases h : i < ws.length
  · simp [List.getD_eq_getElem?_getD, h]
  · have h1 : ws.length ≤ i := by omega
    simp [List.getD_eq_getElem?_getD, h1]
def Wds (w : World) (g : Nat) (ws : List ByteArray) : Prop := ∀ i, i < ws.length → w.cell? ⟨g, i, none⟩ = some (.string (ws.getD i ByteArray.empty))
theorem atom_opt (r : Lk.RS) (vs vc vk vb : Value) (b : Nat) (s : ByteArray) (w : World) (hrow : w.rowIs b 101 67 (rcell r vs vc vk vb)) (o : Option Lk.At) (h : Lk.atom? r s.toList = o) :
    Calls Tryz.prog 99 #[.pointer (some ⟨b, 0, none⟩), .string s] w fun e w' => e = .returned (.tuple #[.agg #[.bool (o.getD {}).named, .int .i64 (o.getD {}).val], .bool o.isSome]) ∧ Below w.heap.size w w' := by
  cases o with
  | none => exact atom_none r vs vc vk vb b s w hrow h
  | some x => exact atom_some r vs vc vk vb b s w hrow x h
theorem Took.after {w w1 w' : World} {base b : Nat} {o : Option Lk.RS} (h : Took w1 w' base b o) (hb : Below base w w1) : Took w w' base b o := ⟨h.rep, hb.trans h.bel⟩
theorem cell_alloc {w : World} {a : Addr} {v : Value} (h : w.cell? a = some v) (o : Obj) : (w.alloc o).cell? a = some v := cell_later ((Below.refl _ _).alloc (Nat.le_refl _) o) h
theorem add_took (r : Lk.RS) (st : Lk.St) (vs vc vb : Value) (base b : Nat) (w : World) (hr : Rep w base b r vs vc vb) (hbl : r.body.length ≤ 100000) (i0 i1 i2 i3 i5 i7 i8 i9 : Int) (b4 b6 : Bool)
    (hst : stCells st = [.int .i64 i0, .int .i64 i1, .int .i64 i2, .int .i64 i3, .bool b4, .int .i64 i5, .bool b6, .int .i64 i7, .int .i64 i8, .int .i64 i9]) :
    Calls Tryz.prog 100 #[.pointer (some ⟨b, 0, none⟩), .agg #[.int .i64 i0, .int .i64 i1, .int .i64 i2, .int .i64 i3, .bool b4, .int .i64 i5, .bool b6, .int .i64 i7, .int .i64 i8, .int .i64 i9]] w fun e w' =>
      e = .returned (.bool (Lk.add r st).isSome) ∧ Took w w' base b (Lk.add r st) := by
  by_cases hn : r.stmts < 12
  · refine (add_some r st vs vc vb base b w hr hn hbl i0 i1 i2 i3 i5 i7 i8 i9 b4 b6 hst).mono ?_
    rintro e w' ⟨rfl, ⟨vb', h⟩, hb⟩
    exact took_some (by unfold Lk.add; rw [if_pos hn]) h hb
  · have hc57 := hr.row.cell (i := 57) (by omega)
    rw [show rcell r vs vc (.slice none 0 0) vb 57 = .int .i64 r.stmts from rfl] at hc57
    refine (add_none b w r.stmts (by omega) hc57 i0 i1 i2 i3 i5 i7 i8 i9 b4 b6 hr.lt).mono ?_
    rintro e w' ⟨rfl, hb⟩
    exact took_none (by unfold Lk.add; rw [if_neg hn]) (hb.mono hr.baseLe)
set_option maxRecDepth 100000 in
set_option maxHeartbeats 1000000 in
theorem takeOut_any (r : Lk.RS) (vs vc vb : Value) (base b g cap : Nat) (ws : List ByteArray) (w : World) (hr : Rep w base b r vs vc vb) (hw : Wds w g ws) (hbl : r.body.length ≤ 100000) :
    Calls Tryz.prog 70 #[.pointer (some ⟨b, 0, none⟩), .slice (some ⟨g, 0, none⟩) ws.length cap] w fun e w' =>
      e = .returned (.bool (Lk.takeOut r (ws.map ByteArray.toList)).isSome) ∧ Took w w' base b (Lk.takeOut r (ws.map ByteArray.toList)) := by
  have hlt := hr.lt
  by_cases hl : ws.length = 2
  · have hc1 := hw 1 (by omega)
    generalize hq : ws.getD 1 ByteArray.empty = q at hc1
    have hwd : Lk.wd (ws.map ByteArray.toList) 1 = q.toList := by rw [wd_map, hq]
    have hS : Lk.takeOut r (ws.map ByteArray.toList) = match Lk.atom? r q.toList with | some x => Lk.add r { kind := 3, a := x } | none => none := by
      unfold Lk.takeOut; rw [if_pos (by simpa using hl), hwd]; rfl
    rw [hS, hl]
    clear hwd hq hw hl hS
    have HR : Hid (Rep w base b r vs vc vb) := hr
    clear hr
    cases ha : Lk.atom? r q.toList with
    | none =>
      go_enter Tryz.func70, Tryz.ntmps70
      go_wp2_with (first | (go_at_call 99; refine (atom_none r vs vc (.slice none 0 0) vb b _ _ ?_ ha).mono ?_; exact HR.out.row; rintro e w' ⟨rfl, hb⟩))
      go_ret
      exact took_none rfl ((hb.mono HR.out.baseLe).alloc (Nat.le_trans HR.out.baseLe hb.size) _)
    | some x =>
      go_enter Tryz.func70, Tryz.ntmps70
      go_wp2_with (first | (go_at_call 99; refine (atom_some r vs vc (.slice none 0 0) vb b _ _ ?_ x ha).mono ?_; exact HR.out.row; rintro e w' ⟨rfl, hb⟩) | (go_at_call 100; refine (add_took r { kind := 3, a := x } vs vc vb base b _ ?_ hbl _ _ _ _ _ _ _ _ _ _ ?_).mono ?_; exact (HR.out.below hb).alloc _; rfl; rintro e w2 ⟨rfl, T⟩))
      go_ret
      exact ⟨rfl, T.after ((hb.mono HR.out.baseLe).alloc (Nat.le_trans HR.out.baseLe hb.size) _)⟩
  · have hS : Lk.takeOut r (ws.map ByteArray.toList) = none := by
      unfold Lk.takeOut; rw [if_neg (by simpa using hl)]
    have hl' : ((ws.length : Int) == 2) = false := by simp; omega
    clear hw
    generalize ws.length = n at hl' 
    go_enter Tryz.func70, Tryz.ntmps70
    go_wp2_with fail
    go_ret
    exact took_none hS (Below.refl _ _)
theorem newAt (w : World) (cs : Array Value) (t : TypeId) (i : Nat) (u : Value) (h : cs[i]? = some u) : (w.alloc (.cells cs t)).cell? ⟨w.heap.size, i, none⟩ = some u := cellAt (heap_alloc_new w _) i u h
theorem find_out (r : Lk.RS) (vs vc vk vb : Value) (b : Nat) (s : ByteArray) (w : World) (hrow : w.rowIs b 101 67 (rcell r vs vc vk vb)) (p q : Nat) (hf : Lk.find r s.toList = (p, q)) :
    Calls Tryz.prog 98 #[.pointer (some ⟨b, 0, none⟩), .string s] w fun e w' => e = .returned (.agg #[.int .i64 p, .int .i64 q]) ∧ Below w.heap.size w w' := by
  have := find_any r vs vc vk vb b s w hrow
  rw [hf] at this
  exact this
set_option maxRecDepth 100000 in
set_option maxHeartbeats 1000000 in
theorem takeLoad_any (r : Lk.RS) (vs vc vb : Value) (base b g cap : Nat) (ws : List ByteArray) (w : World) (hr : Rep w base b r vs vc vb) (hw : Wds w g ws) (hbl : r.body.length ≤ 100000) :
    Calls Tryz.prog 68 #[.pointer (some ⟨b, 0, none⟩), .slice (some ⟨g, 0, none⟩) ws.length cap] w fun e w' =>
      e = .returned (.bool (Lk.takeLoad r (ws.map ByteArray.toList)).isSome) ∧ Took w w' base b (Lk.takeLoad r (ws.map ByteArray.toList)) := by
  have hlt := hr.lt
  by_cases hl : ws.length = 4
  · have hc1 := hw 1 (by omega)
    have hc2 := hw 2 (by omega)
    have hc3 := hw 3 (by omega)
    have hg : g < w.heap.size := World.block_lt_of_cell? w _ hc1
    generalize hq1 : ws.getD 1 ByteArray.empty = q1 at hc1
    generalize hq2 : ws.getD 2 ByteArray.empty = q2 at hc2
    generalize hq3 : ws.getD 3 ByteArray.empty = q3 at hc3
    obtain ⟨p, pq, hf1⟩ : ∃ p pq, Lk.find r q1.toList = (p, pq) := ⟨_, _, rfl⟩
    obtain ⟨m, mq, hf2⟩ : ∃ p pq, Lk.find r q2.toList = (p, pq) := ⟨_, _, rfl⟩
    have hS : Lk.takeLoad r (ws.map ByteArray.toList) = if p = 1 ∧ m = 2 then (match Lk.atom? r q3.toList with | some x => Lk.add r { kind := 1, slot := pq, arr := mq, a := x } | none => none) else none := by
      unfold Lk.takeLoad; rw [wd_map, wd_map, wd_map, hq1, hq2, hq3, hf1, hf2]; simp [hl]; rfl
    rw [hS, hl]
    clear hq1 hq2 hq3 hw hl hS
    have HR : Hid (Rep w base b r vs vc vb) := hr
    clear hr
    have Hf1 : Hid (Lk.find r q1.toList = (p, pq)) := hf1
    have Hf2 : Hid (Lk.find r q2.toList = (m, mq)) := hf2
    clear hf1 hf2
    obtain ⟨o, ha⟩ : ∃ o, Lk.atom? r q3.toList = o := ⟨_, rfl⟩
    by_cases hp : p = 1
    · have hp' : ((p : Int) != 1) = false := by simp; omega
      by_cases hm : m = 2
      · have hm' : ((m : Int) != 2) = false := by simp; omega
        rw [if_pos ⟨hp, hm⟩, ha]
        clear hp hm
        cases o with
        | some x =>
          go_enter Tryz.func68, Tryz.ntmps68
          go_wp2_with (first
            | (go_at_call_of 98 (Value.string q1); refine (find_out r vs vc (.slice none 0 0) vb b _ _ ?_ p pq Hf1.out).mono ?_; exact HR.out.row; rintro e w1 ⟨rfl, hb1⟩; have k2 := fun o => cell_alloc (cell_later hb1 hc2) o; have k3 := cell_later hb1 hc3; have z1 := hb1.size)
            | (go_at_call_of 98 (Value.string q2); refine (find_out r vs vc (.slice none 0 0) vb b _ _ ?_ m mq Hf2.out).mono ?_; exact ((HR.out.below hb1).alloc _).row; rintro e w2 ⟨rfl, hb2⟩; have l3 := fun o => cell_alloc (cell_later hb2 (cell_alloc k3 _)) o; have z2 := hb2.size; simp at z2)
            | (go_at_call_of 99 (Value.string q3); refine (atom_some r vs vc (.slice none 0 0) vb b _ _ ?_ x ha).mono ?_; exact ((((HR.out.below hb1).alloc _).below hb2).alloc _).row; rintro e w3 ⟨rfl, hb3⟩; have t0 := fun o => cell_alloc (cell_later hb3 (cell_alloc (cell_later hb2 (newAt w1 #[.int .i64 p, .int .i64 pq] 95 0 _ rfl)) _)) o; have t1 := fun o => cell_alloc (cell_later hb3 (cell_alloc (cell_later hb2 (newAt w1 #[.int .i64 p, .int .i64 pq] 95 1 _ rfl)) _)) o; have u0 := fun o => cell_alloc (cell_later hb3 (newAt w2 #[.int .i64 m, .int .i64 mq] 95 0 _ rfl)) o; have u1 := fun o => cell_alloc (cell_later hb3 (newAt w2 #[.int .i64 m, .int .i64 mq] 95 1 _ rfl)) o; have z3 := hb3.size; simp at z3)
            | (go_at_call 100; refine (add_took r { kind := 1, slot := pq, arr := mq, a := x } vs vc vb base b _ ?_ hbl _ _ _ _ _ _ _ _ _ _ ?_).mono ?_; exact ((((((HR.out.below hb1).alloc _).below hb2).alloc _).below hb3).alloc _); rfl; rintro e w4 ⟨rfl, T⟩))
          go_ret
          exact ⟨rfl, T.after ((((((hb1.mono HR.out.baseLe).alloc (by have := HR.out.baseLe; omega) _).trans (hb2.mono (by have := HR.out.baseLe; simp; omega))).alloc (by have := HR.out.baseLe; omega) _).trans (hb3.mono (by have := HR.out.baseLe; simp; omega))).alloc (by have := HR.out.baseLe; omega) _)⟩
        | none =>
          go_enter Tryz.func68, Tryz.ntmps68
          go_wp2_with (first
            | (go_at_call_of 98 (Value.string q1); refine (find_out r vs vc (.slice none 0 0) vb b _ _ ?_ p pq Hf1.out).mono ?_; exact HR.out.row; rintro e w1 ⟨rfl, hb1⟩; have k2 := fun o => cell_alloc (cell_later hb1 hc2) o; have k3 := cell_later hb1 hc3; have z1 := hb1.size)
            | (go_at_call_of 98 (Value.string q2); refine (find_out r vs vc (.slice none 0 0) vb b _ _ ?_ m mq Hf2.out).mono ?_; exact ((HR.out.below hb1).alloc _).row; rintro e w2 ⟨rfl, hb2⟩; have l3 := fun o => cell_alloc (cell_later hb2 (cell_alloc k3 _)) o; have z2 := hb2.size; simp at z2)
            | (go_at_call_of 99 (Value.string q3); refine (atom_none r vs vc (.slice none 0 0) vb b _ _ ?_ ha).mono ?_; exact ((((HR.out.below hb1).alloc _).below hb2).alloc _).row; rintro e w3 ⟨rfl, hb3⟩; have t0 := fun o => cell_alloc (cell_later hb3 (cell_alloc (cell_later hb2 (newAt w1 #[.int .i64 p, .int .i64 pq] 95 0 _ rfl)) _)) o; have t1 := fun o => cell_alloc (cell_later hb3 (cell_alloc (cell_later hb2 (newAt w1 #[.int .i64 p, .int .i64 pq] 95 1 _ rfl)) _)) o; have u0 := fun o => cell_alloc (cell_later hb3 (newAt w2 #[.int .i64 m, .int .i64 mq] 95 0 _ rfl)) o; have u1 := fun o => cell_alloc (cell_later hb3 (newAt w2 #[.int .i64 m, .int .i64 mq] 95 1 _ rfl)) o; have z3 := hb3.size; simp at z3))
          go_ret
          exact took_none rfl ((((((hb1.mono HR.out.baseLe).alloc (by have := HR.out.baseLe; omega) _).trans (hb2.mono (by have := HR.out.baseLe; simp; omega))).alloc (by have := HR.out.baseLe; omega) _).trans (hb3.mono (by have := HR.out.baseLe; simp; omega))).alloc (by have := HR.out.baseLe; omega) _)
      · have hm' : ((m : Int) != 2) = true := by simp; omega
        have Ha : Hid (Lk.atom? r q3.toList = o) := ha
        rw [if_neg (by omega)]
        clear ha hp hm
        go_enter Tryz.func68, Tryz.ntmps68
        go_wp2_with (first
          | (go_at_call_of 98 (Value.string q1); refine (find_out r vs vc (.slice none 0 0) vb b _ _ ?_ p pq Hf1.out).mono ?_; exact HR.out.row; rintro e w1 ⟨rfl, hb1⟩; have k2 := fun o => cell_alloc (cell_later hb1 hc2) o; have k3 := cell_later hb1 hc3; have z1 := hb1.size)
          | (go_at_call_of 98 (Value.string q2); refine (find_out r vs vc (.slice none 0 0) vb b _ _ ?_ m mq Hf2.out).mono ?_; exact ((HR.out.below hb1).alloc _).row; rintro e w2 ⟨rfl, hb2⟩; have l3 := fun o => cell_alloc (cell_later hb2 (cell_alloc k3 _)) o; have z2 := hb2.size; simp at z2)
          | (go_at_call_of 99 (Value.string q3); refine (atom_opt r vs vc (.slice none 0 0) vb b _ _ ?_ o Ha.out).mono ?_; exact ((((HR.out.below hb1).alloc _).below hb2).alloc _).row; rintro e w3 ⟨rfl, hb3⟩; have t0 := fun o => cell_alloc (cell_later hb3 (cell_alloc (cell_later hb2 (newAt w1 #[.int .i64 p, .int .i64 pq] 95 0 _ rfl)) _)) o; have t1 := fun o => cell_alloc (cell_later hb3 (cell_alloc (cell_later hb2 (newAt w1 #[.int .i64 p, .int .i64 pq] 95 1 _ rfl)) _)) o; have u0 := fun o => cell_alloc (cell_later hb3 (newAt w2 #[.int .i64 m, .int .i64 mq] 95 0 _ rfl)) o; have u1 := fun o => cell_alloc (cell_later hb3 (newAt w2 #[.int .i64 m, .int .i64 mq] 95 1 _ rfl)) o; have z3 := hb3.size; simp at z3))
        go_ret
        exact took_none rfl ((((((hb1.mono HR.out.baseLe).alloc (by have := HR.out.baseLe; omega) _).trans (hb2.mono (by have := HR.out.baseLe; simp; omega))).alloc (by have := HR.out.baseLe; omega) _).trans (hb3.mono (by have := HR.out.baseLe; simp; omega))).alloc (by have := HR.out.baseLe; omega) _)
    · have hp' : ((p : Int) != 1) = true := by simp; omega
      have Ha : Hid (Lk.atom? r q3.toList = o) := ha
      rw [if_neg (by omega)]
      clear ha hp
      go_enter Tryz.func68, Tryz.ntmps68
      go_wp2_with (first
        | (go_at_call_of 98 (Value.string q1); refine (find_out r vs vc (.slice none 0 0) vb b _ _ ?_ p pq Hf1.out).mono ?_; exact HR.out.row; rintro e w1 ⟨rfl, hb1⟩; have k2 := fun o => cell_alloc (cell_later hb1 hc2) o; have k3 := cell_later hb1 hc3; have z1 := hb1.size)
        | (go_at_call_of 98 (Value.string q2); refine (find_out r vs vc (.slice none 0 0) vb b _ _ ?_ m mq Hf2.out).mono ?_; exact ((HR.out.below hb1).alloc _).row; rintro e w2 ⟨rfl, hb2⟩; have l3 := fun o => cell_alloc (cell_later hb2 (cell_alloc k3 _)) o; have z2 := hb2.size; simp at z2)
        | (go_at_call_of 99 (Value.string q3); refine (atom_opt r vs vc (.slice none 0 0) vb b _ _ ?_ o Ha.out).mono ?_; exact ((((HR.out.below hb1).alloc _).below hb2).alloc _).row; rintro e w3 ⟨rfl, hb3⟩; have t0 := fun o => cell_alloc (cell_later hb3 (cell_alloc (cell_later hb2 (newAt w1 #[.int .i64 p, .int .i64 pq] 95 0 _ rfl)) _)) o; have t1 := fun o => cell_alloc (cell_later hb3 (cell_alloc (cell_later hb2 (newAt w1 #[.int .i64 p, .int .i64 pq] 95 1 _ rfl)) _)) o; have u0 := fun o => cell_alloc (cell_later hb3 (newAt w2 #[.int .i64 m, .int .i64 mq] 95 0 _ rfl)) o; have u1 := fun o => cell_alloc (cell_later hb3 (newAt w2 #[.int .i64 m, .int .i64 mq] 95 1 _ rfl)) o; have z3 := hb3.size; simp at z3))
      go_ret
      exact took_none rfl ((((((hb1.mono HR.out.baseLe).alloc (by have := HR.out.baseLe; omega) _).trans (hb2.mono (by have := HR.out.baseLe; simp; omega))).alloc (by have := HR.out.baseLe; omega) _).trans (hb3.mono (by have := HR.out.baseLe; simp; omega))).alloc (by have := HR.out.baseLe; omega) _)
  · have hS : Lk.takeLoad r (ws.map ByteArray.toList) = none := by
      unfold Lk.takeLoad; rw [if_neg (by simp; omega)]
    have hl' : ((ws.length : Int) == 4) = false := by simp; omega
    clear hw
    generalize ws.length = n at hl'
    go_enter Tryz.func68, Tryz.ntmps68
    go_wp2_with fail
    go_ret
    exact took_none hS (Below.refl _ _)
end Go.Proofs.YtgddmpmcnjlcjabGreatDoor
