import Derived.Test.YtgddmpmcnjlcjabGreatDoorB03
import Derived.Deep.QuietTactic
import Derived.BigQuiet
import Derived.Test.YtgddmpmcnjlcjabGreatDoorB04
namespace Go.Proofs.YtgddmpmcnjlcjabGreatDoor
open Go.RowKit
set_option linter.unusedVariables false
theorem Tryz.infoBool : (Tryz.prog.info? 4).map (fun i => (i.zero, i.size, i.bytes)) = some (some (.bool false), 1, 1) := by kernel_rfl
theorem Tryz.infoInt : (Tryz.prog.info? 3).map (fun i => (i.zero, i.size, i.bytes)) = some (some (.int .i64 0), 1, 8) := by kernel_rfl
theorem sec_close {w W w1 : World} {base b gg cap n : Nat} {r : Lk.RS} {vs vc vb : Value} {x : Bool} {o : Obj} (hR : Rep W base b r vs vc vb) (hB : Below base w W)
    (hown : w1.ownsRow base 4 1 (.slice (some ⟨gg, 0, none⟩) n cap) (r.secret.length + 1) (r.secret.map Value.bool ++ [.bool x]))
    (hg : (W.alloc o).grownBy w1 vs.ownBlock) (hat : vs.ownBlock = some gg ∨ gg = W.heap.size + 1) :
    Rep (w1.setCell ⟨b, 0, none⟩ (.slice (some ⟨gg, 0, none⟩) n cap)) base b { r with secret := r.secret ++ [x] } (.slice (some ⟨gg, 0, none⟩) n cap) vc vb ∧ Below base w (w1.setCell ⟨b, 0, none⟩ (.slice (some ⟨gg, 0, none⟩) n cap)) := by
  have hX := hR.alloc o
  refine ⟨((hX.growSec (sec' := r.secret ++ [x]) hg (by simpa using hown) (by simpa using hat)).put 0 _).congr (fun j hj => ?_), ?_⟩
  · unfold rcell
    by_cases h : j = 0
    · rw [if_pos h, if_pos h]
    · rw [if_neg h, if_neg h, if_neg h]
  · refine (Below.grown (hB.alloc hR.baseLe o) hg hX.baseLe ?_).setCell hR.ge _
    intro k hk
    exact (hR.sec.lt k hk).1
theorem cel_close {w W w1 : World} {base b gg cap n : Nat} {r : Lk.RS} {vs vc vb : Value} {x : Nat} {o : Obj} (hR : Rep W base b r vs vc vb) (hB : Below base w W)
    (hown : w1.ownsRow base 3 1 (.slice (some ⟨gg, 0, none⟩) n cap) (r.cells.length + 1) (r.cells.map (fun (n : Nat) => Value.int .i64 n) ++ [.int .i64 x]))
    (hg : (W.alloc o).grownBy w1 vc.ownBlock) (hat : vc.ownBlock = some gg ∨ gg = W.heap.size + 1) :
    Rep (w1.setCell ⟨b, 2, none⟩ (.slice (some ⟨gg, 0, none⟩) n cap)) base b { r with cells := r.cells ++ [x] } vs (.slice (some ⟨gg, 0, none⟩) n cap) vb ∧ Below base w (w1.setCell ⟨b, 2, none⟩ (.slice (some ⟨gg, 0, none⟩) n cap)) := by
  have hX := hR.alloc o
  refine ⟨((hX.growCel (cel' := r.cells ++ [x]) hg (by simpa using hown) (by simpa using hat)).put 2 _).congr (fun j hj => ?_), ?_⟩
  · unfold rcell
    by_cases h : j = 2
    · subst h; simp
    · rw [if_neg h]; simp only [h, if_false]
  · refine (Below.grown (hB.alloc hR.baseLe o) hg hX.baseLe ?_).setCell hR.ge _
    intro k hk
    exact (hR.cel.lt k hk).1
theorem declare_kept {r r' : Lk.RS} {w : Lk.Wd} {p q : Nat} (h : Lk.declare r w p q = some r') : r'.secret = r.secret ∧ r'.cells = r.cells ∧ r'.vars = r.vars := by
  unfold Lk.declare at h
  split at h
  · cases h; exact ⟨rfl, rfl, rfl⟩
  · cases h
set_option maxRecDepth 100000 in
set_option maxHeartbeats 1000000 in
theorem takeInput_any (r : Lk.RS) (vs vc vb : Value) (base b g cap : Nat) (ws : List ByteArray) (sx : Bool) (w : World) (hr : Rep w base b r vs vc vb) (hw : Wds w g ws) :
    Calls Tryz.prog 65 #[.pointer (some ⟨b, 0, none⟩), .slice (some ⟨g, 0, none⟩) ws.length cap, .bool sx] w fun e w' =>
      e = .returned (.bool (Lk.takeInput r (ws.map ByteArray.toList) sx).isSome) ∧ Took w w' base b (Lk.takeInput r (ws.map ByteArray.toList) sx) := by
  obtain ⟨t0, ht0, hz0, hz1, hz2⟩ := info_parts Tryz.infoBool
  have hlt := hr.lt
  have hge := hr.ge
  have hc0 := hr.row.cell (i := 0) (by omega)
  have hv1 := hr.row.cell (i := 1) (by omega)
  rw [show rcell r vs vc (.slice none 0 0) vb 0 = vs from rfl] at hc0
  rw [show rcell r vs vc (.slice none 0 0) vb 1 = .int .i64 r.vars from rfl] at hv1
  obtain ⟨ad, cp, hvs⟩ := body_val hr.sec
  by_cases hl : ws.length = 2
  · by_cases hs3 : r.secret.length < 3
    · by_cases hv0 : r.vars = 0
      · have hc1 := hw 1 (by omega)
        generalize hq : ws.getD 1 ByteArray.empty = q at hc1
        have hS : Lk.takeInput r (ws.map ByteArray.toList) sx = match Lk.declare r q.toList 1 r.secret.length with | some r' => some { r' with secret := r'.secret ++ [sx] } | none => none := by
          unfold Lk.takeInput; rw [wd_map, hq]; simp [hl, hs3, hv0]; rfl
        rw [hS, hl]
        have Hv : Hid _ := hv0
        rw [hv0] at hv1
        clear hq hw hl hS hv0
        have HR : Hid (Rep w base b r vs vc vb) := hr
        clear hr
        subst hvs
        have hs3I : (r.secret.length : Int) < 3 := by omega
        cases hd : Lk.declare r q.toList 1 r.secret.length with
        | none =>
          have Hd : Hid _ := hd
          clear hd
          go_enter Tryz.func65, Tryz.ntmps65
          go_wp2_with (first | (go_at_call 96; refine (declare_none r (.slice ad r.secret.length cp) vc vb base b q 1 r.secret.length _ ?_ Hd.out).mono ?_; exact HR.out; rintro e w1 ⟨rfl, rfl⟩))
          go_ret
          exact took_none rfl (Below.refl _ _)
        | some r' =>
          have hk := declare_kept hd
          have Hd : Hid _ := hd
          have Hk : Hid _ := hk
          clear hd hk
          go_enter Tryz.func65, Tryz.ntmps65
          go_wp2_with (first
            | (go_at_call 96; refine (declare_some r r' (.slice ad r.secret.length cp) vc vb base b q 1 r.secret.length _ ?_ Hd.out).mono ?_; exact HR.out; rintro e w1 ⟨rfl, R1, B1⟩; have c0 := R1.row.cell (i := 0) (by omega); have f0 := R1.row.frozen 0; rw [show rcell r' (.slice ad r.secret.length cp) vc (.slice none 0 0) vb 0 = (.slice ad r.secret.length cp) from rfl] at c0; have HR1 : Hid (Rep w1 base b r' (.slice ad r.secret.length cp) vc vb) := R1; have hs := R1.sec; have lt1 := R1.lt; clear R1)
            | (at_builtin; refine wpList_append_lies _ rfl _ _ 46 rfl base 4 t0 _ 1 1 Tryz.underlying46 ht0 hz0 hz1 hz2 rfl (by omega) _ r'.secret.length (r'.secret.map Value.bool) rfl (hs.alloc _) ⟨w1.heap.size, 0, none⟩ 1 1 [.bool sx] rfl rfl (cell_one_new _ _ _) (by simp [Value.oneCell']) (by omega) (by have := Hk.out; unfold maxLen; rw [this.1]; omega) (by have := Hk.out; rw [this.1]; omega) (by have := HR1.out.baseLe; simp; omega) (w1.heap.size + 1) (by simp) ?_; intro gg cap w2 hown1 hgrow hat hlt1; have f2 := (rowIs_grown (HR1.out.row.alloc _) hgrow HR1.out.ns).frozen 0; have c2 := (rowIs_grown (HR1.out.row.alloc _) hgrow HR1.out.ns).cell (i := 0) (by omega)))
          go_ret
          have C := sec_close HR1.out B1 hown1 hgrow hat
          exact took_some rfl C.1 C.2
      · have hS : Lk.takeInput r (ws.map ByteArray.toList) sx = none := by unfold Lk.takeInput; rw [if_neg (by omega)]
        subst hvs
        rw [hl]
        have hvI : (0 : Int) < (r.vars : Int) := by omega
        have hs3I : (r.secret.length : Int) < 3 := by omega
        clear hw hr hl
        go_enter Tryz.func65, Tryz.ntmps65
        go_wp2_with fail
        go_ret
        exact took_none hS (Below.refl _ _)
    · have hS : Lk.takeInput r (ws.map ByteArray.toList) sx = none := by unfold Lk.takeInput; rw [if_neg (by omega)]
      subst hvs
      rw [hl]
      have hs3I : (3 : Int) ≤ (r.secret.length : Int) := by omega
      clear hw hr hl
      go_enter Tryz.func65, Tryz.ntmps65
      go_wp2_with fail
      go_ret
      exact took_none hS (Below.refl _ _)
  · have hS : Lk.takeInput r (ws.map ByteArray.toList) sx = none := by unfold Lk.takeInput; rw [if_neg (by simp; omega)]
    subst hvs
    have hl' : ((ws.length : Int) != 2) = true := by simp; omega
    clear hw hr hl
    generalize ws.length = n at hl'
    go_enter Tryz.func65, Tryz.ntmps65
    go_wp2_with fail
    go_ret
    exact took_none hS (Below.refl _ _)
theorem vars_close {w W : World} {base b : Nat} {r : Lk.RS} {vs vc vb : Value} (hR : Rep W base b r vs vc vb) (hB : Below base w W) :
    Rep (W.setCell ⟨b, 1, none⟩ (.int .i64 ((r.vars : Int) + 1))) base b { r with vars := r.vars + 1 } vs vc vb ∧ Below base w (W.setCell ⟨b, 1, none⟩ (.int .i64 ((r.vars : Int) + 1))) := by
  refine ⟨(hR.put 1 _).congr (fun j hj => ?_), hB.setCell hR.ge _⟩
  unfold rcell
  by_cases h : j = 1
  · subst h; simp
  · rw [if_neg h]; simp only [h, if_false]
set_option maxRecDepth 100000 in
set_option maxHeartbeats 1000000 in
theorem takeVar_any (r : Lk.RS) (vs vc vb : Value) (base b g cap : Nat) (ws : List ByteArray) (w : World) (hr : Rep w base b r vs vc vb) (hw : Wds w g ws) (hs4 : r.secret.length ≤ 3) :
    Calls Tryz.prog 66 #[.pointer (some ⟨b, 0, none⟩), .slice (some ⟨g, 0, none⟩) ws.length cap] w fun e w' =>
      e = .returned (.bool (Lk.takeVar r (ws.map ByteArray.toList)).isSome) ∧ Took w w' base b (Lk.takeVar r (ws.map ByteArray.toList)) := by
  have hlt := hr.lt
  have hge := hr.ge
  have hc0 := hr.row.cell (i := 0) (by omega)
  have hv1 := hr.row.cell (i := 1) (by omega)
  have hf1 := hr.row.frozen 1
  rw [show rcell r vs vc (.slice none 0 0) vb 0 = vs from rfl] at hc0
  rw [show rcell r vs vc (.slice none 0 0) vb 1 = .int .i64 r.vars from rfl] at hv1
  obtain ⟨ad, cp, hvs⟩ := body_val hr.sec
  by_cases hl : ws.length = 2
  · by_cases hv4 : r.vars < 4
    · have hc1 := hw 1 (by omega)
      generalize hq : ws.getD 1 ByteArray.empty = q at hc1
      have hS : Lk.takeVar r (ws.map ByteArray.toList) = match Lk.declare r q.toList 1 (r.secret.length + r.vars) with | some r' => some { r' with vars := r'.vars + 1 } | none => none := by
        unfold Lk.takeVar; rw [wd_map, hq]; simp [hl, hv4]; rfl
      rw [hS, hl]
      clear hq hw hl hS
      have HR : Hid (Rep w base b r vs vc vb) := hr
      clear hr
      subst hvs
      have hs3I : (r.secret.length : Int) ≤ 3 := by omega
      have hv4I : (r.vars : Int) < 4 := by omega
      cases hd : Lk.declare r q.toList 1 (r.secret.length + r.vars) with
      | none =>
        have Hd : Hid _ := hd
        clear hd
        go_enter Tryz.func66, Tryz.ntmps66
        go_wp2_with fail
        go_quiet (fail)
        go_wp2_with (first | (go_at_call 96; refine (declare_none r (.slice ad r.secret.length cp) vc vb base b q 1 (r.secret.length + r.vars) _ ?_ Hd.out).mono ?_; exact HR.out.later (fun _ _ => rfl); rintro e w1 ⟨rfl, rfl⟩))
        go_ret
        exact took_none rfl (below_drewN (Below.refl _ _) _)
      | some r' =>
        have hk := declare_kept hd
        have Hd : Hid _ := hd
        have Hk : Hid _ := hk
        clear hd hk
        go_enter Tryz.func66, Tryz.ntmps66
        go_wp2_with fail
        go_quiet (fail)
        go_wp2_with (first
          | (go_at_call 96; go_loud (refine (declare_some r r' (.slice ad r.secret.length cp) vc vb base b q 1 (r.secret.length + r.vars) _ ?_ Hd.out).mono ?_); go_loud (exact HR.out.later (fun _ _ => rfl)); rintro e w1 ⟨rfl, R1, B1⟩; have c1 := R1.row.cell (i := 1) (by omega); have f1 := R1.row.frozen 1; rw [show rcell r' (.slice ad r.secret.length cp) vc (.slice none 0 0) vb 1 = .int .i64 r'.vars from rfl] at c1; go_loud (have v4 : (r'.vars : Int) < 4 := by (have := Hk.out; omega)); have HR1 : Hid (Rep w1 base b r' (.slice ad r.secret.length cp) vc vb) := R1; clear R1))
        go_ret
        have C := vars_close HR1.out ((below_drewN (Below.refl _ _) _).trans B1)
        exact took_some rfl C.1 C.2
    · have hS : Lk.takeVar r (ws.map ByteArray.toList) = none := by unfold Lk.takeVar; rw [if_neg (by omega)]
      rw [hl]
      have hvI : (4 : Int) ≤ (r.vars : Int) := by omega
      clear hw hr hl
      go_enter Tryz.func66, Tryz.ntmps66
      go_wp2_with fail
      go_ret
      exact took_none hS (Below.refl _ _)
  · have hS : Lk.takeVar r (ws.map ByteArray.toList) = none := by unfold Lk.takeVar; rw [if_neg (by simp; omega)]
    have hl' : ((ws.length : Int) != 2) = true := by simp; omega
    clear hw hr hl
    generalize ws.length = n at hl'
    go_enter Tryz.func66, Tryz.ntmps66
    go_wp2_with fail
    go_ret
    exact took_none hS (Below.refl _ _)
set_option maxRecDepth 100000 in
set_option maxHeartbeats 1000000 in
theorem takeArray_any (r : Lk.RS) (vs vc vb : Value) (base b g cap : Nat) (ws : List ByteArray) (w : World) (hr : Rep w base b r vs vc vb) (hw : Wds w g ws) :
    Calls Tryz.prog 67 #[.pointer (some ⟨b, 0, none⟩), .slice (some ⟨g, 0, none⟩) ws.length cap] w fun e w' =>
      e = .returned (.bool (Lk.takeArray r (ws.map ByteArray.toList)).isSome) ∧ Took w w' base b (Lk.takeArray r (ws.map ByteArray.toList)) := by
  obtain ⟨t0, ht0, hz0, hz1, hz2⟩ := info_parts Tryz.infoInt
  have hlt := hr.lt
  have hge := hr.ge
  have hc0 := hr.row.cell (i := 2) (by omega)
  rw [show rcell r vs vc (.slice none 0 0) vb 2 = vc from rfl] at hc0
  obtain ⟨ad, cp, hvc⟩ := body_val hr.cel
  by_cases hl : ws.length = 3
  · by_cases hs2 : r.cells.length < 2
    · have hc1 := hw 1 (by omega)
      have hc2 := hw 2 (by omega)
      generalize hq1 : ws.getD 1 ByteArray.empty = q1 at hc1
      generalize hq2 : ws.getD 2 ByteArray.empty = q2 at hc2
      have hS : Lk.takeArray r (ws.map ByteArray.toList) = match Lk.num? q2.toList with | some n => (if 1 ≤ n ∧ n ≤ 4 then (match Lk.declare r q1.toList 2 r.cells.length with | some r' => some { r' with cells := r'.cells ++ [n] } | none => none) else none) | none => none := by
        unfold Lk.takeArray; rw [wd_map, wd_map, hq1, hq2]; simp [hl, hs2]; rfl
      rw [hS, hl]
      clear hq1 hq2 hw hl hS
      have HR : Hid (Rep w base b r vs vc vb) := hr
      clear hr
      subst hvc
      have hs2I : (r.cells.length : Int) < 2 := by omega
      cases hn : Lk.num? q2.toList with
      | none =>
        have Hn : Hid _ := hn
        clear hn
        go_enter Tryz.func67, Tryz.ntmps67
        go_wp2_with (first | (go_at_call 97; refine (number_none _ _ Hn.out).mono ?_; rintro e w1 ⟨rfl, rfl⟩))
        go_ret
        exact took_none rfl (Below.refl _ _)
      | some n =>
        have Hn : Hid _ := hn
        clear hn
        dsimp only
        by_cases h14 : 1 ≤ n ∧ n ≤ 4
        · rw [if_pos h14]
          have h1 : (1 : Int) ≤ (n : Int) := by omega
          have h4 : (n : Int) ≤ 4 := by omega
          cases hd : Lk.declare r q1.toList 2 r.cells.length with
          | none =>
            have Hd : Hid _ := hd
            clear hd
            go_enter Tryz.func67, Tryz.ntmps67
            go_wp2_with (first | (go_at_call 97; refine (number_some _ _ Hn.out).mono ?_; rintro e w1 ⟨rfl, rfl⟩) | (go_at_call 96; refine (declare_none r vs (.slice ad r.cells.length cp) vb base b q1 2 r.cells.length _ ?_ Hd.out).mono ?_; exact HR.out; rintro e w1 ⟨rfl, rfl⟩))
            go_ret
            exact took_none rfl (Below.refl _ _)
          | some r' =>
            have hk := declare_kept hd
            have Hd : Hid _ := hd
            have Hk : Hid _ := hk
            clear hd hk
            go_enter Tryz.func67, Tryz.ntmps67
            go_wp2_with (first
              | (go_at_call 97; refine (number_some _ _ Hn.out).mono ?_; rintro e w0 ⟨rfl, rfl⟩)
              | (go_at_call 96; refine (declare_some r r' vs (.slice ad r.cells.length cp) vb base b q1 2 r.cells.length _ ?_ Hd.out).mono ?_; exact HR.out; rintro e w1 ⟨rfl, R1, B1⟩; have c0 := R1.row.cell (i := 2) (by omega); have f0 := R1.row.frozen 2; rw [show rcell r' vs (.slice ad r.cells.length cp) (.slice none 0 0) vb 2 = (.slice ad r.cells.length cp) from rfl] at c0; have HR1 : Hid (Rep w1 base b r' vs (.slice ad r.cells.length cp) vb) := R1; have hs := R1.cel; have lt1 := R1.lt; clear R1)
              | (at_builtin; refine wpList_append_lies _ rfl _ _ 24 rfl base 3 t0 _ 1 8 Tryz.underlying24 ht0 hz0 hz1 hz2 rfl (by omega) _ r'.cells.length (r'.cells.map fun (n : Nat) => Value.int .i64 n) rfl (hs.alloc _) ⟨w1.heap.size, 0, none⟩ 1 1 [.int .i64 n] rfl rfl (cell_one_new _ _ _) (by simp [Value.oneCell']) (by omega) (by have := Hk.out; unfold maxLen; rw [this.2.1]; omega) (by have := Hk.out; rw [this.2.1]; omega) (by have := HR1.out.baseLe; simp; omega) (w1.heap.size + 1) (by simp) ?_; intro gg cap w2 hown1 hgrow hat hlt1; have f2 := (rowIs_grown (HR1.out.row.alloc _) hgrow HR1.out.nc).frozen 2; have c2 := (rowIs_grown (HR1.out.row.alloc _) hgrow HR1.out.nc).cell (i := 2) (by omega)))
            go_ret
            have C := cel_close HR1.out B1 hown1 hgrow hat
            exact took_some rfl C.1 C.2
        · rw [if_neg h14]
          by_cases h1 : 1 ≤ n
          · have h1I : (1 : Int) ≤ (n : Int) := by omega
            have h4 : (4 : Int) < (n : Int) := by omega
            go_enter Tryz.func67, Tryz.ntmps67
            go_wp2_with (first | (go_at_call 97; refine (number_some _ _ Hn.out).mono ?_; rintro e w1 ⟨rfl, rfl⟩))
            go_ret
            exact took_none rfl (Below.refl _ _)
          · have h1I : (n : Int) < 1 := by omega
            go_enter Tryz.func67, Tryz.ntmps67
            go_wp2_with (first | (go_at_call 97; refine (number_some _ _ Hn.out).mono ?_; rintro e w1 ⟨rfl, rfl⟩))
            go_ret
            exact took_none rfl (Below.refl _ _)
    · have hS : Lk.takeArray r (ws.map ByteArray.toList) = none := by unfold Lk.takeArray; rw [if_neg (by omega)]
      subst hvc
      rw [hl]
      have hvI : (2 : Int) ≤ (r.cells.length : Int) := by omega
      clear hw hr hl
      go_enter Tryz.func67, Tryz.ntmps67
      go_wp2_with fail
      go_ret
      exact took_none hS (Below.refl _ _)
  · have hS : Lk.takeArray r (ws.map ByteArray.toList) = none := by unfold Lk.takeArray; rw [if_neg (by simp; omega)]
    subst hvc
    have hl' : ((ws.length : Int) != 3) = true := by simp; omega
    clear hw hr hl
    generalize ws.length = n at hl'
    go_enter Tryz.func67, Tryz.ntmps67
    go_wp2_with fail
    go_ret
    exact took_none hS (Below.refl _ _)
theorem mark_close {w W w1 : World} {base b gg cap n : Nat} {f : Nat → Value} {sec : List Bool} {cel : List Nat} {bod : List Lk.St} {vs vc vb : Value} {st : Lk.St} {o : Obj} (hR : RepF W base b f sec cel bod vs vc vb) (hB : Below base w W)
    (hown : w1.ownsRow base 153 10 (.slice (some ⟨gg, 0, none⟩) n cap) (bod.length + 1) (flat bod ++ stCells st))
    (hg : (W.alloc o).grownBy w1 vb.ownBlock) (hat : vb.ownBlock = some gg ∨ gg = W.heap.size + 1) :
    RepF (w1.setCell ⟨b, 56, none⟩ (.slice (some ⟨gg, 0, none⟩) n cap)) base b (fun j => if j = 56 then .slice (some ⟨gg, 0, none⟩) n cap else f j) sec cel (bod ++ [st]) vs vc (.slice (some ⟨gg, 0, none⟩) n cap) ∧ Below base w (w1.setCell ⟨b, 56, none⟩ (.slice (some ⟨gg, 0, none⟩) n cap)) := by
  have hX := hR.alloc o
  refine ⟨(hX.growBody (bod' := bod ++ [st]) hg (by rw [flat_snoc]; simpa using hown) (by simpa using hat)).put 56 _, ?_⟩
  refine (Below.grown (hB.alloc hR.baseLe o) hg hX.baseLe ?_).setCell hR.ge _
  intro k hk
  exact (hR.bod.lt k hk).1
theorem rcell_else (r : Lk.RS) (vs vc vk vb vb' : Value) (d p q : Nat) (hd : d < 4) (hp : (r.opn d).1 = p) (bd : List Lk.St) (j : Nat) (hj : j < 67) :
    (if j = 56 then vb' else if j = 58 + d * 2 + 1 then Value.int .i64 q else rcell r vs vc vk vb j) = rcell { r with opn := Lk.upd r.opn d (p, q), body := bd } vs vc vk vb' j := by
  by_cases h0 : j = 56
  · subst h0; rfl
  · rw [if_neg h0]
    by_cases h1 : j = 58 + d * 2 + 1
    · rw [if_pos h1, h1, (rcell_opn _ vs vc vk vb' d hd).2]; simp [Lk.upd]
    · rw [if_neg h1]
      by_cases h2 : j = 58 + d * 2
      · rw [h2, (rcell_opn _ vs vc vk vb' d hd).1, (rcell_opn _ vs vc vk vb d hd).1]; simp [Lk.upd, hp]
      · unfold rcell
        by_cases h3 : 58 ≤ j ∧ j < 66
        · have hk : (j - 58) / 2 ≠ d := by omega
          simp only [Lk.upd, hk, h0, if_false]
        · simp only [h0, if_false]
          repeat' split
          all_goals first | rfl | omega
set_option maxRecDepth 100000 in
set_option maxHeartbeats 1000000 in
theorem takeElse_any (r : Lk.RS) (vs vc vb : Value) (base b g cap : Nat) (ws : List ByteArray) (w : World) (hr : Rep w base b r vs vc vb) (hbl : r.body.length ≤ 100000) (hI : Inv r) :
    Calls Tryz.prog 72 #[.pointer (some ⟨b, 0, none⟩), .slice (some ⟨g, 0, none⟩) ws.length cap] w fun e w' =>
      e = .returned (.bool (Lk.takeElse r (ws.map ByteArray.toList)).isSome) ∧ Took w w' base b (Lk.takeElse r (ws.map ByteArray.toList)) := by
  have hlt := hr.lt
  have hge := hr.ge
  have hc66 := hr.row.cell (i := 66) (by omega)
  rw [show rcell r vs vc (.slice none 0 0) vb 66 = .int .i64 r.depth from rfl] at hc66
  by_cases hl : ws.length = 1
  · by_cases hd0 : r.depth = 0
    · have hS : Lk.takeElse r (ws.map ByteArray.toList) = none := by unfold Lk.takeElse; rw [if_neg (by omega)]
      rw [hl]
      rw [hd0] at hc66
      clear hr hl
      go_enter Tryz.func72, Tryz.ntmps72
      go_wp2_with fail
      go_ret
      exact took_none hS (Below.refl _ _)
    · obtain ⟨d, hd⟩ : ∃ d, r.depth = d + 1 := ⟨r.depth - 1, by omega⟩
      have hd4 : d < 4 := by have := hI.dep; omega
      have hio := hI.opn d (by omega)
      have hS : Lk.takeElse r (ws.map ByteArray.toList) = if (Lk.bodyAt r.body (r.opn d).1).kind = 4 ∧ (r.opn d).2 = 0 then
          some { r with opn := Lk.upd r.opn d ((r.opn d).1, r.body.length), body := r.body.set (r.opn d).1 { Lk.bodyAt r.body (r.opn d).1 with els := r.body.length + 1 } ++ [{ kind := 6 }] } else none := by
        unfold Lk.takeElse; rw [hd]; simp [hl]
      have hc0 := hr.row.cell (i := 58 + d * 2) (by omega)
      have hc1 := hr.row.cell (i := 58 + d * 2 + 1) (by omega)
      have hf0 := hr.row.frozen (58 + d * 2)
      have hf1 := hr.row.frozen (58 + d * 2 + 1)
      rw [(rcell_opn _ _ _ _ _ _ hd4).1] at hc0
      rw [(rcell_opn _ _ _ _ _ _ hd4).2] at hc1
      have hc56 := hr.row.cell (i := 56) (by omega)
      have hf56 := hr.row.frozen 56
      rw [show rcell r vs vc (.slice none 0 0) vb 56 = vb from rfl] at hc56
      obtain ⟨gb, cp, hvb, hgb1, hgb2⟩ := hr.bod.form (by omega)
      obtain ⟨O, hO⟩ : ∃ O, Lk.takeElse r (ws.map ByteArray.toList) = O := ⟨_, rfl⟩
      rw [hO, hl]
      rw [hO] at hS
      rw [hd, Int.natCast_add] at hc66
      generalize hhd : (r.opn d).1 = hd1 at hc0 hio hS
      generalize hel : (r.opn d).2 = el at hc1 hio hS
      subst hvb
      have hgbb : gb ≠ b := fun e => hr.nb (by rw [e]; rfl)
      have hcell := fun k (hk : k < 10) => (hr.bod.cellAt (hd1 * 10 + k) (by omega)).trans (flat_get r.body hd1 k hio.1 hk)
      have hk0 := hcell 0 (by omega)
      have hk9 := hcell 9 (by omega)
      have hfr9 := hr.bod.frozenAt (hd1 * 10 + 9)
      simp only [stCells, List.getElem?_cons_zero, Nat.add_zero] at hk0
      simp [stCells] at hk9
      have HR : Hid (Rep w base b r vs vc (.slice (some ⟨gb, 0, none⟩) r.body.length cp)) := hr
      have HO : Hid _ := hS
      clear hr hcell hS hl hel hO
      have Hhd : Hid _ := hhd
      clear hhd
      have hiI : (0 : Int) ≤ (hd1 : Int) := by omega
      have hiJ : (hd1 : Int) < (r.body.length : Int) := by omega
      have hdI : (d : Int) < 4 := by omega
      have hlI : (r.body.length : Int) ≤ 100000 := by omega
      by_cases hk : (Lk.bodyAt r.body hd1).kind = 4
      · by_cases he : el = 0
        · have HO2 : Hid _ := HO.out.trans (if_pos ⟨hk, he⟩)
          clear HO
          subst he
          rw [hk] at hk0
          clear hk
          go_enter Tryz.func72, Tryz.ntmps72
          go_wp2_with fail
          go_region
          all_goals go_wp2_with fail
          go_quiet (fail)
          go_wp2_with fail
          go_region
          all_goals go_wp2_with fail
          go_region
          generalize hW : World.drew (World.setCell _ _ _) = W
          have hfs := flat_set r.body hd1 9 (.int .i64 (↑r.body.length + 1)) { Lk.bodyAt r.body hd1 with els := r.body.length + 1 } hio.1 (by omega) (by simp [stCells])
          have hbl2 : (r.body.set hd1 { Lk.bodyAt r.body hd1 with els := r.body.length + 1 }).length = r.body.length := by simp
          obtain ⟨bd, hbd⟩ : ∃ bd, r.body.set hd1 { Lk.bodyAt r.body hd1 with els := r.body.length + 1 } = bd := ⟨_, rfl⟩
          rw [hbd] at hfs hbl2
          have Hbd : Hid _ := hbd
          clear hbd
          have HR2 : Hid (RepF W base b (fun j => if j = 58 + d * 2 + 1 then .int .i64 ↑r.body.length else rcell r vs vc (.slice none 0 0) (.slice (some ⟨gb, 0, none⟩) r.body.length cp) j) r.secret r.cells bd vs vc (.slice (some ⟨gb, 0, none⟩) r.body.length cp)) := by
            rw [← hW]
            exact ((((HR.out.alloc _).drewN _).put _ _).storeBody hbl2 hfs.symm).drew
          have HB2 : Hid (Below base w W) := by
            rw [← hW]
            exact (((below_drewN ((Below.refl _ _).alloc HR.out.baseLe _) _).setCell hge _).setCell (by exact hgb1) _).drew
          clear hW
          have hown := HR2.out.bod
          rw [hbl2] at hown
          have lt2 := HR2.out.lt
          have k56 := HR2.out.row.cell (i := 56) (by omega)
          have g56 := HR2.out.row.frozen 56
          rw [if_neg (by omega), show rcell r vs vc (.slice none 0 0) (.slice (some ⟨gb, 0, none⟩) r.body.length cp) 56 = .slice (some ⟨gb, 0, none⟩) r.body.length cp from rfl] at k56
          have Hown : Hid _ := hown
          have Hfs : Hid _ := hfs
          clear hown hk9 hfr9 hk0 hc0 hc1 hf0 hf1 hc56 hf56 hc66 hfs
          obtain ⟨t0, ht0, hz0, hz1, hz2⟩ := info_parts Tryz.infoSt
          go_wp2_with (first
            | (at_builtin; (refine wpList_append_lies _ rfl _ _ 47 rfl base 153 t0 _ 10 80 Tryz.underlying47 ht0 hz0 hz1 hz2 rfl (by omega) _ r.body.length (flat bd) rfl (World.ownsRow.alloc (Hid.out Hown) _) ⟨W.heap.size, 0, none⟩ 1 1 [.int .i64 6, .int .i64 0, .int .i64 0, .int .i64 0, .bool false, .int .i64 0, .bool false, .int .i64 0, .int .i64 0, .int .i64 0] rfl rfl (World.news_of_block (cs := #[.int .i64 6, .int .i64 0, .int .i64 0, .int .i64 0, .bool false, .int .i64 0, .bool false, .int .i64 0, .int .i64 0, .int .i64 0]) (t := 153) (fr := (0, 0)) (heap_alloc_new W _)) (by simp [Value.oneCell']) (by omega) (by unfold maxLen; omega) (by omega) (by have := HR2.out.baseLe; simp; omega) (W.heap.size + 1) (by simp) ?_); intro gg cap2 w1 hown1 hgrow hat hlt1; have f2 := (rowIs_grown (HR2.out.row.alloc _) hgrow HR2.out.nb).frozen 56; have c2 := (rowIs_grown (HR2.out.row.alloc _) hgrow HR2.out.nb).cell (i := 56) (by omega)))
          go_ret
          have C := mark_close (st := { kind := 6 }) HR2.out HB2.out (by rw [hbl2]; exact hown1) hgrow hat
          have D := C.1.congr (fun j hj => rcell_else r vs vc _ _ _ d hd1 r.body.length hd4 Hhd.out (bd ++ [{ kind := 6 }]) j hj)
          rw [← show _ = bd from Hbd.out] at D
          exact took_some HO2.out D C.2
        · have HO2 : Hid _ := HO.out.trans (if_neg (fun h => he h.2))
          clear HO
          have heI : ((el : Int) != 0) = true := by simp; omega
          rw [hk] at hk0
          clear he
          go_enter Tryz.func72, Tryz.ntmps72
          go_wp2_with fail
          go_region
          all_goals go_wp2_with fail
          go_quiet (fail)
          go_wp2_with fail
          go_ret
          exact took_none HO2.out (below_drewN (((Below.refl _ _).alloc HR.out.baseLe _).drew) _)
      · have HO2 : Hid _ := HO.out.trans (if_neg (fun h => hk h.1))
        clear HO
        have hkI : (((Lk.bodyAt r.body hd1).kind : Int) != 4) = true := by simp; omega
        clear hk
        generalize (Lk.bodyAt r.body hd1).kind = kk at hk0 hkI
        go_enter Tryz.func72, Tryz.ntmps72
        go_wp2_with fail
        go_region
        all_goals go_wp2_with fail
        go_quiet (fail)
        go_wp2_with fail
        go_ret
        exact took_none HO2.out (below_drewN (((Below.refl _ _).alloc HR.out.baseLe _).drew) _)
  · have hS : Lk.takeElse r (ws.map ByteArray.toList) = none := by unfold Lk.takeElse; rw [if_neg (by simp; omega)]
    have hl' : ((ws.length : Int) != 1) = true := by simp; omega
    clear hr hl
    generalize ws.length = n at hl'
    go_enter Tryz.func72, Tryz.ntmps72
    go_wp2_with fail
    go_ret
    exact took_none hS (Below.refl _ _)
end Go.Proofs.YtgddmpmcnjlcjabGreatDoor
