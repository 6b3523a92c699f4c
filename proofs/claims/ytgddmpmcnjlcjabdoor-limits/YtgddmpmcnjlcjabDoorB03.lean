import Derived.Test.YtgddmpmcnjlcjabDoorB02
import Derived.Deep.RegionHeld3
import Derived.Deep.RegionLaw
namespace Go.Proofs.YtgddmpmcnjlcjabDoor
open Go.RowKit
set_option linter.unusedVariables false
theorem Tryd.infoSt : (Tryd.prog.info? 133).map (fun i => (i.zero, i.size, i.bytes)) = some (some (.agg #[.int .i64 0, .int .i64 0, .int .i64 0, .int .i64 0, .bool false, .int .i64 0, .bool false, .int .i64 0, .int .i64 0, .int .i64 0]), 10, 80) := by kernel_rfl
theorem rcell_upd (r : Lk.RS) (vs vc vk vb : Value) (k p q : Nat) (h : k < 26) (j : Nat) (hj : j < 67) :
    (if j = 4 + k * 2 + 1 then Value.int .i64 q else if j = 4 + k * 2 then .int .i64 p else rcell r vs vc vk vb j) = rcell { r with letters := Lk.upd r.letters k (p, q) } vs vc vk vb j := by
  by_cases h1 : j = 4 + k * 2 + 1
  · rw [if_pos h1, h1, (rcell_let _ vs vc vk vb k h).2]; simp [Lk.upd]
  · rw [if_neg h1]
    by_cases h2 : j = 4 + k * 2
    · rw [if_pos h2, h2, (rcell_let _ vs vc vk vb k h).1]; simp [Lk.upd]
    · rw [if_neg h2]
      unfold rcell
      by_cases h3 : 4 ≤ j ∧ j < 56
      · have hk : (j - 4) / 2 ≠ k := by omega
        simp [Lk.upd, hk]
      · simp only []
        repeat' split
        all_goals first | rfl | omega
set_option maxHeartbeats 400000 in
theorem declare_some (r r' : Lk.RS) (vs vc vb : Value) (base b : Nat) (s : ByteArray) (role place : Nat) (w : World) (hr : Rep w base b r vs vc vb) (h : Lk.declare r s.toList role place = some r') :
    Calls Tryd.prog 80 #[.pointer (some ⟨b, 0, none⟩), .string s, .int .i64 role, .int .i64 place] w fun e w' => e = .returned (.bool true) ∧ Rep w' base b r' vs vc vb ∧ Below base w w' := by
  unfold Lk.declare at h
  split at h
  case isFalse => cases h
  case isTrue hc =>
  obtain ⟨hb0, hn, hl0⟩ := hc
  cases h
  have hsz : s.size = 1 := by
    by_cases h : s.size = 1
    · exact h
    · rw [isNameN h] at hn; cases hn
  have hn' := hn
  rw [isName1 hsz] at hn'
  simp at hn'
  have hb1 : (97 : Int) ≤ (s[0].toNat : Int) := by omega
  have hb2 : (s[0].toNat : Int) ≤ 122 := by omega
  have hsz1 : (s.size : Int) = 1 := by omega
  have hla : Lk.lat s.toList = s[0].toNat - 97 := by unfold Lk.lat; rw [tl1 hsz]; rfl
  rw [hla] at hl0
  rw [hla]
  have hk : s[0].toNat - 97 < 26 := by omega
  have hrow := hr.row
  have hlt := hrow.lt
  have hc0 := hrow.cell (i := 4 + (s[0].toNat - 97) * 2) (by omega)
  have hc1 := hrow.cell (i := 4 + (s[0].toNat - 97) * 2 + 1) (by omega)
  have hf0 := hrow.frozen (4 + (s[0].toNat - 97) * 2)
  have hf1 := hrow.frozen (4 + (s[0].toNat - 97) * 2 + 1)
  rw [(rcell_let r _ _ _ _ _ hk).1, hl0] at hc0
  rw [(rcell_let r _ _ _ _ _ hk).2] at hc1
  have hbd := hrow.cell (i := 56) (by omega)
  rw [show rcell r vs vc (.slice none 0 0) vb 56 = vb from rfl] at hbd
  obtain ⟨ad, cp, hvb⟩ : ∃ ad cp, vb = .slice ad 0 cp := by
    rcases hr.bod.2 with ⟨hv, _⟩ | ⟨g, cap, cur, hv, _⟩
    · exact ⟨_, _, hv⟩
    · rw [hb0] at hv; exact ⟨_, _, hv⟩
  have HR : Hid (Rep w base b r vs vc vb) := hr
  rw [hvb] at hbd
  have HV : Hid (vb = .slice ad 0 cp) := hvb
  clear hrow hr hla hl0 hn' hvb
  go_enter Tryd.func80, Tryd.ntmps80
  go_wp2_with (go_at_call 92; refine (isName_any _ _).mono ?_; rintro e w' ⟨rfl, rfl⟩)
  go_ret
  refine ⟨rfl, ((HR.out.put _ _).put _ _).congr (fun j hj => rcell_upd r vs vc _ vb _ role place hk j hj), ((Below.refl _ _).setCell HR.out.ge _).setCell HR.out.ge _⟩
theorem body_val {w : World} {base : Nat} {e : TypeId} {size : Nat} {v : Value} {n : Nat} {xs : List Value} (h : w.ownsRow base e size v n xs) : ∃ ad cp, v = .slice ad n cp := by
  rcases h.2 with ⟨hv, h0⟩ | ⟨g, cap, cur, hv, _⟩
  · exact ⟨_, _, by rw [h0]; exact hv⟩
  · exact ⟨_, _, hv⟩
set_option maxHeartbeats 400000 in
theorem declare_body (b : Nat) (s : ByteArray) (role place : Nat) (w : World) (n : Nat) (ad : Option Addr) (cp : Nat) (hn : 0 < n) (hbd : w.cell? ⟨b, 56, none⟩ = some (.slice ad n cp)) :
    Calls Tryd.prog 80 #[.pointer (some ⟨b, 0, none⟩), .string s, .int .i64 role, .int .i64 place] w fun e w' => e = .returned (.bool false) ∧ w' = w := by
  have h1 : (0 : Int) < (n : Int) := by omega
  go_enter Tryd.func80, Tryd.ntmps80
  go_wp2
  go_ret
  exact ⟨rfl, rfl⟩
set_option maxHeartbeats 400000 in
theorem declare_name (b : Nat) (s : ByteArray) (role place : Nat) (w : World) (ad : Option Addr) (cp : Nat) (hn : Lk.isName s.toList = false) (hbd : w.cell? ⟨b, 56, none⟩ = some (.slice ad 0 cp)) :
    Calls Tryd.prog 80 #[.pointer (some ⟨b, 0, none⟩), .string s, .int .i64 role, .int .i64 place] w fun e w' => e = .returned (.bool false) ∧ w' = w := by
  go_enter Tryd.func80, Tryd.ntmps80
  go_wp2_with (go_at_call 92; refine (isName_any _ _).mono ?_; rintro e w' ⟨rfl, rfl⟩)
  go_ret
  exact ⟨rfl, rfl⟩
set_option maxHeartbeats 400000 in
theorem declare_taken (b : Nat) (s : ByteArray) (role place : Nat) (w : World) (ad : Option Addr) (cp x : Nat) (hn : Lk.isName s.toList = true) (hsz : s.size = 1) (hb1 : (97 : Int) ≤ (s[0].toNat : Int)) (hb2 : (s[0].toNat : Int) ≤ 122) (hbd : w.cell? ⟨b, 56, none⟩ = some (.slice ad 0 cp))
    (hx : ((x : Int) != 0) = true) (hc0 : w.cell? ⟨b, 4 + (s[0].toNat - 97) * 2, none⟩ = some (.int .i64 x)) :
    Calls Tryd.prog 80 #[.pointer (some ⟨b, 0, none⟩), .string s, .int .i64 role, .int .i64 place] w fun e w' => e = .returned (.bool false) ∧ w' = w := by
  have hsz1 : (s.size : Int) = 1 := by omega
  go_enter Tryd.func80, Tryd.ntmps80
  go_wp2_with (go_at_call 92; refine (isName_any _ _).mono ?_; rintro e w' ⟨rfl, rfl⟩)
  go_ret
  exact ⟨rfl, rfl⟩
theorem declare_none (r : Lk.RS) (vs vc vb : Value) (base b : Nat) (s : ByteArray) (role place : Nat) (w : World) (hr : Rep w base b r vs vc vb) (h : Lk.declare r s.toList role place = none) :
    Calls Tryd.prog 80 #[.pointer (some ⟨b, 0, none⟩), .string s, .int .i64 role, .int .i64 place] w fun e w' => e = .returned (.bool false) ∧ w' = w := by
  have hbd := hr.row.cell (i := 56) (by omega)
  rw [show rcell r vs vc (.slice none 0 0) vb 56 = vb from rfl] at hbd
  obtain ⟨ad, cp, hvb⟩ := body_val hr.bod
  rw [hvb] at hbd
  by_cases h0 : r.body.length = 0
  · rw [h0] at hbd
    cases hn : Lk.isName s.toList with
    | false => exact declare_name b s role place w ad cp hn hbd
    | true =>
      have hsz : s.size = 1 := by
        by_cases h : s.size = 1
        · exact h
        · rw [isNameN h] at hn; cases hn
      have hn' := hn
      rw [isName1 hsz] at hn'
      simp at hn'
      have hla : Lk.lat s.toList = s[0].toNat - 97 := by unfold Lk.lat; rw [tl1 hsz]; rfl
      have hk : s[0].toNat - 97 < 26 := by omega
      have hl0 : (r.letters (s[0].toNat - 97)).1 ≠ 0 := by
        intro hl
        unfold Lk.declare at h
        rw [if_pos ⟨h0, hn, by rw [hla]; exact hl⟩] at h
        cases h
      have hc0 := hr.row.cell (i := 4 + (s[0].toNat - 97) * 2) (by omega)
      rw [(rcell_let r _ _ _ _ _ hk).1] at hc0
      exact declare_taken b s role place w ad cp _ hn hsz (by omega) (by omega) hbd (by simp; omega) hc0
  · exact declare_body b s role place w _ ad cp (by omega) hbd
set_option maxHeartbeats 400000 in
theorem add_none (b : Nat) (w : World) (n : Nat) (hn : (12 : Int) ≤ (n : Int)) (hc : w.cell? ⟨b, 57, none⟩ = some (.int .i64 n)) (i0 i1 i2 i3 i5 i7 i8 i9 : Int) (b4 b6 : Bool) (hlt : b < w.heap.size) :
    Calls Tryd.prog 84 #[.pointer (some ⟨b, 0, none⟩), .agg #[.int .i64 i0, .int .i64 i1, .int .i64 i2, .int .i64 i3, .bool b4, .int .i64 i5, .bool b6, .int .i64 i7, .int .i64 i8, .int .i64 i9]] w fun e w' => e = .returned (.bool false) ∧ Below w.heap.size w w' := by
  go_enter Tryd.func84, Tryd.ntmps84
  go_wp2
  go_ret
  exact ⟨rfl, (Below.refl _ _).alloc (Nat.le_refl _) _⟩
theorem flat_snoc (l : List Lk.St) (s : Lk.St) : flat (l ++ [s]) = flat l ++ stCells s := by simp [flat]
theorem rcell_add (r : Lk.RS) (vs vc vk vb vb' : Value) (s : Lk.St) (j : Nat) (hj : j < 67) :
    (if j = 56 then vb' else if j = 57 then Value.int .i64 ((r.stmts : Int) + 1) else rcell r vs vc vk vb j) = rcell { r with stmts := r.stmts + 1, body := r.body ++ [s] } vs vc vk vb' j := by
  by_cases h1 : j = 56
  · subst h1; rfl
  · rw [if_neg h1]
    by_cases h2 : j = 57
    · subst h2; rfl
    · rw [if_neg h2]
      unfold rcell
      simp only [h1, h2, if_false]
theorem add_close {w W w1 : World} {base b gg cap : Nat} {r : Lk.RS} {vs vc vb : Value} {st : Lk.St} {o : Obj} {i0 i1 i2 i3 i5 i7 i8 i9 : Int} {b4 b6 : Bool}
    (hR : RepF W base b (fun j => if j = 57 then .int .i64 (↑r.stmts + 1) else rcell r vs vc (.slice none 0 0) vb j) r.secret r.cells r.body vs vc vb) (hB : Below base w W)
    (hst : stCells st = [.int .i64 i0, .int .i64 i1, .int .i64 i2, .int .i64 i3, .bool b4, .int .i64 i5, .bool b6, .int .i64 i7, .int .i64 i8, .int .i64 i9])
    (hown : w1.ownsRow base 133 10 (.slice (some ⟨gg, 0, none⟩) (r.body.length + 1) cap) (r.body.length + 1) (flat r.body ++ [.int .i64 i0, .int .i64 i1, .int .i64 i2, .int .i64 i3, .bool b4, .int .i64 i5, .bool b6, .int .i64 i7, .int .i64 (↑r.body.length + 1), .int .i64 i9]))
    (hg : (W.alloc o).drew.grownBy w1 vb.ownBlock) (hat : vb.ownBlock = some gg ∨ gg = w.heap.size + 2) (hsz : W.heap.size = w.heap.size + 1) :
    (∃ vb', Rep (w1.setCell ⟨b, 56, none⟩ (.slice (some ⟨gg, 0, none⟩) (r.body.length + 1) cap)) base b { r with stmts := r.stmts + 1, body := r.body ++ [{ st with next := r.body.length + 1 }] } vs vc vb') ∧ Below base w (w1.setCell ⟨b, 56, none⟩ (.slice (some ⟨gg, 0, none⟩) (r.body.length + 1) cap)) := by
  have hX := (hR.alloc o).drew
  have hst2 : stCells { st with next := r.body.length + 1 } = [.int .i64 i0, .int .i64 i1, .int .i64 i2, .int .i64 i3, .bool b4, .int .i64 i5, .bool b6, .int .i64 i7, .int .i64 (↑r.body.length + 1), .int .i64 i9] := by
    simp [stCells] at hst ⊢
    simp [hst]
  have hB1 : base ≤ (W.alloc o).drew.heap.size := hX.baseLe
  refine ⟨⟨_, ((hX.growBody (bod' := r.body ++ [{ st with next := r.body.length + 1 }]) hg (by rw [flat_snoc, hst2]; simpa using hown) (by simpa [hsz] using hat)).put 56 _).congr (fun j hj => rcell_add r vs vc _ vb _ _ j hj)⟩, ?_⟩
  refine (Below.grown ((hB.alloc (by have := hR.baseLe; exact this) o).drew) hg hB1 ?_).setCell hR.ge _
  intro k hk
  exact (hR.bod.lt k hk).1
set_option maxRecDepth 100000 in
set_option maxHeartbeats 1000000 in
theorem add_some (r : Lk.RS) (st : Lk.St) (vs vc vb : Value) (base b : Nat) (w : World) (hr : Rep w base b r vs vc vb) (hn : r.stmts < 12) (hbl : r.body.length ≤ 100000) (i0 i1 i2 i3 i5 i7 i8 i9 : Int) (b4 b6 : Bool)
    (hst : stCells st = [.int .i64 i0, .int .i64 i1, .int .i64 i2, .int .i64 i3, .bool b4, .int .i64 i5, .bool b6, .int .i64 i7, .int .i64 i8, .int .i64 i9]) :
    Calls Tryd.prog 84 #[.pointer (some ⟨b, 0, none⟩), .agg #[.int .i64 i0, .int .i64 i1, .int .i64 i2, .int .i64 i3, .bool b4, .int .i64 i5, .bool b6, .int .i64 i7, .int .i64 i8, .int .i64 i9]] w fun e w' =>
      e = .returned (.bool true) ∧ (∃ vb', Rep w' base b { r with stmts := r.stmts + 1, body := r.body ++ [{ st with next := r.body.length + 1 }] } vs vc vb') ∧ Below base w w' := by
  obtain ⟨t0, ht0, hz0, hz1, hz2⟩ := info_parts Tryd.infoSt
  have hlt := hr.lt
  have hge := hr.ge
  have hba := hr.baseLe
  have hc57 := hr.row.cell (i := 57) (by omega)
  rw [show rcell r vs vc (.slice none 0 0) vb 57 = .int .i64 r.stmts from rfl] at hc57
  have hf57 := hr.row.frozen 57
  have hf56 := hr.row.frozen 56
  have hc56 := hr.row.cell (i := 56) (by omega)
  rw [show rcell r vs vc (.slice none 0 0) vb 56 = vb from rfl] at hc56
  obtain ⟨ad, cp, hvb⟩ := body_val hr.bod
  have HR : Hid (Rep w base b r vs vc vb) := hr
  have hnb := hr.nb
  have hown := hr.bod
  clear hr
  subst hvb
  have hn1 : (r.stmts : Int) < 12 := by omega
  have hl1 : (r.body.length : Int) ≤ 100000 := by omega
  go_enter Tryd.func84, Tryd.ntmps84
  go_wp2_with fail
  obtain ⟨W, hW⟩ : ∃ W, W = ((w.setCell ⟨b, 57, none⟩ (.int .i64 (↑r.stmts + 1))).alloc (Obj.cells #[.int .i64 i0, .int .i64 i1, .int .i64 i2, .int .i64 i3, .bool b4, .int .i64 i5, .bool b6, .int .i64 i7, .int .i64 (↑r.body.length + 1), .int .i64 i9] 133)) := ⟨_, rfl⟩
  rw [← hW]
  have HR2 : Hid (RepF W base b (fun j => if j = 57 then .int .i64 (↑r.stmts + 1) else rcell r vs vc (.slice none 0 0) (.slice ad r.body.length cp) j) r.secret r.cells r.body vs vc (.slice ad r.body.length cp)) := by
    rw [hW]; exact (HR.out.put 57 _).alloc _
  have HB2 : Hid (Below base w W) := by rw [hW]; exact ((Below.refl _ _).setCell hge _).alloc (by simpa using hba) _
  have hsz : W.heap.size = w.heap.size + 1 := by rw [hW]; simp
  have blk : W.heap[w.heap.size]? = some (Obj.cells #[.int .i64 i0, .int .i64 i1, .int .i64 i2, .int .i64 i3, .bool b4, .int .i64 i5, .bool b6, .int .i64 i7, .int .i64 (↑r.body.length + 1), .int .i64 i9] 133) := by
    rw [hW]; have := heap_alloc_new (w.setCell ⟨b, 57, none⟩ (.int .i64 (↑r.stmts + 1))) (Obj.cells #[.int .i64 i0, .int .i64 i1, .int .i64 i2, .int .i64 i3, .bool b4, .int .i64 i5, .bool b6, .int .i64 i7, .int .i64 (↑r.body.length + 1), .int .i64 i9] 133); simpa using this
  have cl := fun j u hj => cellAt blk j u hj
  have c0 := cl 0 _ rfl
  have c1 := cl 1 _ rfl
  have c2 := cl 2 _ rfl
  have c3 := cl 3 _ rfl
  have c4 := cl 4 _ rfl
  have c5 := cl 5 _ rfl
  have c6 := cl 6 _ rfl
  have c7 := cl 7 _ rfl
  have c8 := cl 8 _ rfl
  have c9 := cl 9 _ rfl
  have d56 := HR2.out.row.cell (i := 56) (by omega)
  have e56 := HR2.out.row.frozen 56
  have hbW : b < W.heap.size := HR2.out.lt
  have howW := HR2.out.bod
  have hnew : (Value.slice ad r.body.length cp).ownBlock ≠ some w.heap.size := fun e => by have := (hown.lt _ e).2; omega
  simp only [show rcell r vs vc (.slice none 0 0) (.slice ad r.body.length cp) 56 = .slice ad r.body.length cp from rfl, if_neg (show ¬ (56 = 57) by omega)] at d56
  clear hW cl blk hc57 hf57 hf56 hc56 hown HR hn1
  have Hst : Hid _ := hst
  clear hst
  go_region_law
    ((refine step_append_lies _ (by rfl) _ _ _ (by rfl) base 133 t0 _ 10 80 Tryd.underlying42 ht0 hz0 hz1 hz2 rfl (by omega) _ r.body.length (flat r.body) (by rfl) ((howW.alloc _).drew)
        ⟨w.heap.size + 1, 0, none⟩ 1 1 [.int .i64 i0, .int .i64 i1, .int .i64 i2, .int .i64 i3, .bool b4, .int .i64 i5, .bool b6, .int .i64 i7, .int .i64 (↑r.body.length + 1), .int .i64 i9] (by simp [go_sem]) (by rfl) (World.news_of_block (cs := #[.int .i64 i0, .int .i64 i1, .int .i64 i2, .int .i64 i3, .bool b4, .int .i64 i5, .bool b6, .int .i64 i7, .int .i64 (↑r.body.length + 1), .int .i64 i9]) (t := 133) (fr := (0, 0)) (by rw [← hsz]; exact heap_alloc_new W _)) (by simp [Value.oneCell'])
        (by omega) (by unfold maxLen; omega) (by omega) (by simp; omega) (w.heap.size + 2) (by simp [hsz]) ?_; intro gg cap w1 hown1 hgrow hat hlt1; have hfz := (rowIs_grown ((HR2.out.row.alloc _).drew) hgrow hnb).frozen 56; have hcx := (rowIs_grown ((HR2.out.row.alloc _).drew) hgrow hnb).cell (i := 56) (by omega)))
  all_goals go_wp2
  all_goals go_ret
  all_goals exact ⟨rfl, add_close HR2.out HB2.out Hst.out hown1 hgrow hat hsz⟩
end Go.Proofs.YtgddmpmcnjlcjabDoor
