import Derived.Test.YtgddmpmcnjlcjabGreatDoorB07
namespace Go.Proofs.YtgddmpmcnjlcjabGreatDoor
open Go.RowKit
set_option linter.unusedVariables false
theorem rcell_end (r : Lk.RS) (vs vc vk vb vb' : Value) (d : Nat) (bd : List Lk.St) (j : Nat) (hj : j < 67) :
    (if j = 56 then vb' else if j = 66 then Value.int .i64 d else rcell r vs vc vk vb j) = rcell { r with depth := d, body := bd } vs vc vk vb' j := by
  by_cases h0 : j = 56
  · subst h0; rfl
  · rw [if_neg h0]
    by_cases h1 : j = 66
    · subst h1; rfl
    · rw [if_neg h1]
      unfold rcell
      simp only [h0, if_false]
      repeat' split
      all_goals first | rfl | omega
set_option maxRecDepth 100000 in
set_option maxHeartbeats 1000000 in
theorem end_while (r : Lk.RS) (vs vc vb : Value) (base b g cap : Nat) (w : World) (hr : Rep w base b r vs vc vb) (hbl : r.body.length ≤ 100000) (hI : Inv r) (d : Nat) (hd : r.depth = d + 1) (hd1 el : Nat) (hhd : (r.opn d).1 = hd1) (hel : (r.opn d).2 = el) (hkw : (Lk.bodyAt r.body hd1).kind = 5) (hel0 : el = 0) (O : Option Lk.RS)
    (hO : O = some { r with depth := d, body := r.body.set hd1 { Lk.bodyAt r.body hd1 with els := r.body.length + 1 } ++ [{ kind := 6, next := hd1 }] }) :
    Calls Tryz.prog 73 #[.pointer (some ⟨b, 0, none⟩), .slice (some ⟨g, 0, none⟩) 1 cap] w fun e w' => e = .returned (.bool O.isSome) ∧ Took w w' base b O := by
  have hlt := hr.lt
  have hge := hr.ge
  have hd4 : d < 4 := by have := hI.dep; omega
  have hio := hI.opn d (by omega)
  have hc66 := hr.row.cell (i := 66) (by omega)
  have hf66 := hr.row.frozen 66
  rw [show rcell r vs vc (.slice none 0 0) vb 66 = .int .i64 r.depth from rfl] at hc66
  have hc0 := hr.row.cell (i := 58 + d * 2) (by omega)
  have hc1 := hr.row.cell (i := 58 + d * 2 + 1) (by omega)
  rw [(rcell_opn _ _ _ _ _ _ hd4).1, hhd] at hc0
  rw [(rcell_opn _ _ _ _ _ _ hd4).2, hel] at hc1
  rw [hhd, hel] at hio
  have hc56 := hr.row.cell (i := 56) (by omega)
  have hf56 := hr.row.frozen 56
  rw [show rcell r vs vc (.slice none 0 0) vb 56 = vb from rfl] at hc56
  obtain ⟨gb, cp, hvb, hgb1, hgb2⟩ := hr.bod.form (by omega)
  rw [hd, Int.natCast_add] at hc66
  subst hvb
  have hgbb : gb ≠ b := fun e => hr.nb (by rw [e]; rfl)
  have hcell := fun i k (hi : i < r.body.length) (hk : k < 10) => (hr.bod.cellAt (i * 10 + k) (by omega)).trans (flat_get r.body i k hi hk)
  have hk0 := hcell hd1 0 hio.1 (by omega)
  have hkp := hcell hd1 9 hio.1 (by omega)
  have hfr := hr.bod.frozenAt (hd1 * 10 + 9)
  simp only [stCells, List.getElem?_cons_zero, Nat.add_zero] at hk0
  simp [stCells] at hkp
  have HR : Hid (Rep w base b r vs vc (.slice (some ⟨gb, 0, none⟩) r.body.length cp)) := hr
  have HO : Hid _ := hO
  have Hio : Hid _ := hio
  have hiI : (0 : Int) ≤ (hd1 : Int) := by omega
  have hiJ : (hd1 : Int) < (r.body.length : Int) := by omega
  have heI : (0 : Int) ≤ (el : Int) := by omega
  have heJ : (el : Int) < (r.body.length : Int) := by omega
  have hdI : (d : Int) < 4 := by omega
  have hlI : (r.body.length : Int) ≤ 100000 := by omega
  clear hr hcell hhd hel hO hd hI hio
  rw [hkw] at hk0
  clear hkw
  subst hel0
  go_enter Tryz.func73, Tryz.ntmps73
  go_wp2_with fail
  go_region
  all_goals go_wp2_with fail
  go_quiet (fail)
  go_wp2_with fail
  go_region
  generalize hW : World.setCell (World.drewN _ _) _ _ = W
  have hfs := flat_set r.body hd1 9 (.int .i64 (↑r.body.length + 1)) { Lk.bodyAt r.body hd1 with els := r.body.length + 1 } Hio.out.1 (by omega) (by simp [stCells])
  have hbl2 : (r.body.set hd1 { Lk.bodyAt r.body hd1 with els := r.body.length + 1 }).length = r.body.length := by simp
  obtain ⟨bd, hbd⟩ : ∃ bd, r.body.set hd1 { Lk.bodyAt r.body hd1 with els := r.body.length + 1 } = bd := ⟨_, rfl⟩
  rw [hbd] at hfs hbl2
  have HO2 : Hid _ := HO.out
  have HR2 : Hid (RepF W base b (fun j => if j = 66 then .int .i64 ↑d else rcell r vs vc (.slice none 0 0) (.slice (some ⟨gb, 0, none⟩) r.body.length cp) j) r.secret r.cells bd vs vc (.slice (some ⟨gb, 0, none⟩) r.body.length cp)) := by
    rw [← hW]
    exact ((((HR.out.put _ _).alloc _).drewN _).storeBody hbl2 hfs.symm)
  have HB2 : Hid (Below base w W) := by
    rw [← hW]
    exact ((below_drewN (((Below.refl _ _).setCell hge _).alloc (by have := HR.out.baseLe; simpa using this) _) _).setCell (by exact hgb1) _)
  have c5 : ∀ i v, W.cell? ⟨w.heap.size, i, none⟩ = v → W.cell? ⟨w.heap.size, i, none⟩ = v := fun _ _ h => h
  clear hW c5
  have hown := HR2.out.bod
  rw [hbl2] at hown
  have lt2 := HR2.out.lt
  have k56 := HR2.out.row.cell (i := 56) (by omega)
  have g56 := HR2.out.row.frozen 56
  rw [if_neg (by omega), show rcell r vs vc (.slice none 0 0) (.slice (some ⟨gb, 0, none⟩) r.body.length cp) 56 = .slice (some ⟨gb, 0, none⟩) r.body.length cp from rfl] at k56
  have Hown : Hid (W.ownsRow base 153 10 (.slice (some ⟨gb, 0, none⟩) r.body.length cp) r.body.length (flat bd)) := hown
  have Hbd : Hid _ := hbd
  clear hown hkp hfr hk0 hc0 hc1 hc56 hf56 hc66 hf66 hfs hbd HO
  obtain ⟨t0, ht0, hz0, hz1, hz2⟩ := info_parts Tryz.infoSt
  go_wp2_with (first
    | (at_builtin; refine wpList_append_lies _ rfl _ _ 47 rfl base 153 t0 _ 10 80 Tryz.underlying47 ht0 hz0 hz1 hz2 rfl (by omega) _ r.body.length (flat bd) rfl (World.ownsRow.alloc (Hid.out Hown) _) ⟨W.heap.size, 0, none⟩ 1 1 [.int .i64 6, .int .i64 0, .int .i64 0, .int .i64 0, .bool false, .int .i64 0, .bool false, .int .i64 0, .int .i64 (↑hd1), .int .i64 0] rfl rfl (World.news_of_block (cs := #[.int .i64 6, .int .i64 0, .int .i64 0, .int .i64 0, .bool false, .int .i64 0, .bool false, .int .i64 0, .int .i64 (↑hd1), .int .i64 0]) (t := 153) (fr := (0, 0)) (heap_alloc_new W _)) (by simp [Value.oneCell']) (by omega) (by unfold maxLen; omega) (by omega) (by have := HR2.out.baseLe; simp; omega) (W.heap.size + 1) (by simp) ?_; intro gg cap2 w1 hown1 hgrow hat hlt1; have f2 := (rowIs_grown (HR2.out.row.alloc _) hgrow HR2.out.nb).frozen 56; have c2 := (rowIs_grown (HR2.out.row.alloc _) hgrow HR2.out.nb).cell (i := 56) (by omega)))
  go_ret
  have C := mark_close (st := { kind := 6, next := hd1 }) HR2.out HB2.out (by rw [hbl2]; exact hown1) hgrow hat
  have D := C.1.congr (fun j hj => rcell_end r vs vc _ _ _ d (bd ++ [{ kind := 6, next := hd1 }]) j hj)
  rw [← show _ = bd from Hbd.out] at D
  exact took_some HO2.out D C.2
set_option maxRecDepth 100000 in
set_option maxHeartbeats 1000000 in
theorem end_if (r : Lk.RS) (vs vc vb : Value) (base b g cap : Nat) (w : World) (hr : Rep w base b r vs vc vb) (hbl : r.body.length ≤ 100000) (hI : Inv r) (d : Nat) (hd : r.depth = d + 1) (hd1 el : Nat) (hhd : (r.opn d).1 = hd1) (hel : (r.opn d).2 = el) (hkw : (Lk.bodyAt r.body hd1).kind ≠ 5) (hel0 : el = 0) (O : Option Lk.RS)
    (hO : O = some { r with depth := d, body := r.body.set hd1 { Lk.bodyAt r.body hd1 with els := r.body.length + 1 } ++ [{ kind := 6, next := r.body.length + 1 }] }) :
    Calls Tryz.prog 73 #[.pointer (some ⟨b, 0, none⟩), .slice (some ⟨g, 0, none⟩) 1 cap] w fun e w' => e = .returned (.bool O.isSome) ∧ Took w w' base b O := by
  have hlt := hr.lt
  have hge := hr.ge
  have hd4 : d < 4 := by have := hI.dep; omega
  have hio := hI.opn d (by omega)
  have hc66 := hr.row.cell (i := 66) (by omega)
  have hf66 := hr.row.frozen 66
  rw [show rcell r vs vc (.slice none 0 0) vb 66 = .int .i64 r.depth from rfl] at hc66
  have hc0 := hr.row.cell (i := 58 + d * 2) (by omega)
  have hc1 := hr.row.cell (i := 58 + d * 2 + 1) (by omega)
  rw [(rcell_opn _ _ _ _ _ _ hd4).1, hhd] at hc0
  rw [(rcell_opn _ _ _ _ _ _ hd4).2, hel] at hc1
  rw [hhd, hel] at hio
  have hc56 := hr.row.cell (i := 56) (by omega)
  have hf56 := hr.row.frozen 56
  rw [show rcell r vs vc (.slice none 0 0) vb 56 = vb from rfl] at hc56
  obtain ⟨gb, cp, hvb, hgb1, hgb2⟩ := hr.bod.form (by omega)
  rw [hd, Int.natCast_add] at hc66
  subst hvb
  have hgbb : gb ≠ b := fun e => hr.nb (by rw [e]; rfl)
  have hcell := fun i k (hi : i < r.body.length) (hk : k < 10) => (hr.bod.cellAt (i * 10 + k) (by omega)).trans (flat_get r.body i k hi hk)
  have hk0 := hcell hd1 0 hio.1 (by omega)
  have hkp := hcell hd1 9 hio.1 (by omega)
  have hfr := hr.bod.frozenAt (hd1 * 10 + 9)
  simp only [stCells, List.getElem?_cons_zero, Nat.add_zero] at hk0
  simp [stCells] at hkp
  have HR : Hid (Rep w base b r vs vc (.slice (some ⟨gb, 0, none⟩) r.body.length cp)) := hr
  have HO : Hid _ := hO
  have Hio : Hid _ := hio
  have hiI : (0 : Int) ≤ (hd1 : Int) := by omega
  have hiJ : (hd1 : Int) < (r.body.length : Int) := by omega
  have heI : (0 : Int) ≤ (el : Int) := by omega
  have heJ : (el : Int) < (r.body.length : Int) := by omega
  have hdI : (d : Int) < 4 := by omega
  have hlI : (r.body.length : Int) ≤ 100000 := by omega
  clear hr hcell hhd hel hO hd hI hio
  have hkI : (((Lk.bodyAt r.body hd1).kind : Int) == 5) = false := by simp; omega
  clear hkw
  generalize (Lk.bodyAt r.body hd1).kind = kk at hk0 hkI
  subst hel0
  go_enter Tryz.func73, Tryz.ntmps73
  go_wp2_with fail
  go_region
  all_goals go_wp2_with fail
  go_quiet (fail)
  go_wp2_with fail
  go_region
  generalize hW : World.setCell (World.drewN _ _) _ _ = W
  have hfs := flat_set r.body hd1 9 (.int .i64 (↑r.body.length + 1)) { Lk.bodyAt r.body hd1 with els := r.body.length + 1 } Hio.out.1 (by omega) (by simp [stCells])
  have hbl2 : (r.body.set hd1 { Lk.bodyAt r.body hd1 with els := r.body.length + 1 }).length = r.body.length := by simp
  obtain ⟨bd, hbd⟩ : ∃ bd, r.body.set hd1 { Lk.bodyAt r.body hd1 with els := r.body.length + 1 } = bd := ⟨_, rfl⟩
  rw [hbd] at hfs hbl2
  have HO2 : Hid _ := HO.out
  have HR2 : Hid (RepF W base b (fun j => if j = 66 then .int .i64 ↑d else rcell r vs vc (.slice none 0 0) (.slice (some ⟨gb, 0, none⟩) r.body.length cp) j) r.secret r.cells bd vs vc (.slice (some ⟨gb, 0, none⟩) r.body.length cp)) := by
    rw [← hW]
    exact ((((HR.out.put _ _).alloc _).drewN _).storeBody hbl2 hfs.symm)
  have HB2 : Hid (Below base w W) := by
    rw [← hW]
    exact ((below_drewN (((Below.refl _ _).setCell hge _).alloc (by have := HR.out.baseLe; simpa using this) _) _).setCell (by exact hgb1) _)
  have c5 : ∀ i v, W.cell? ⟨w.heap.size, i, none⟩ = v → W.cell? ⟨w.heap.size, i, none⟩ = v := fun _ _ h => h
  clear hW c5
  have hown := HR2.out.bod
  rw [hbl2] at hown
  have lt2 := HR2.out.lt
  have k56 := HR2.out.row.cell (i := 56) (by omega)
  have g56 := HR2.out.row.frozen 56
  rw [if_neg (by omega), show rcell r vs vc (.slice none 0 0) (.slice (some ⟨gb, 0, none⟩) r.body.length cp) 56 = .slice (some ⟨gb, 0, none⟩) r.body.length cp from rfl] at k56
  have Hown : Hid (W.ownsRow base 153 10 (.slice (some ⟨gb, 0, none⟩) r.body.length cp) r.body.length (flat bd)) := hown
  have Hbd : Hid _ := hbd
  clear hown hkp hfr hk0 hc0 hc1 hc56 hf56 hc66 hf66 hfs hbd HO
  obtain ⟨t0, ht0, hz0, hz1, hz2⟩ := info_parts Tryz.infoSt
  go_wp2_with (first
    | (at_builtin; refine wpList_append_lies _ rfl _ _ 47 rfl base 153 t0 _ 10 80 Tryz.underlying47 ht0 hz0 hz1 hz2 rfl (by omega) _ r.body.length (flat bd) rfl (World.ownsRow.alloc (Hid.out Hown) _) ⟨W.heap.size, 0, none⟩ 1 1 [.int .i64 6, .int .i64 0, .int .i64 0, .int .i64 0, .bool false, .int .i64 0, .bool false, .int .i64 0, .int .i64 (↑r.body.length + 1), .int .i64 0] rfl rfl (World.news_of_block (cs := #[.int .i64 6, .int .i64 0, .int .i64 0, .int .i64 0, .bool false, .int .i64 0, .bool false, .int .i64 0, .int .i64 (↑r.body.length + 1), .int .i64 0]) (t := 153) (fr := (0, 0)) (heap_alloc_new W _)) (by simp [Value.oneCell']) (by omega) (by unfold maxLen; omega) (by omega) (by have := HR2.out.baseLe; simp; omega) (W.heap.size + 1) (by simp) ?_; intro gg cap2 w1 hown1 hgrow hat hlt1; have f2 := (rowIs_grown (HR2.out.row.alloc _) hgrow HR2.out.nb).frozen 56; have c2 := (rowIs_grown (HR2.out.row.alloc _) hgrow HR2.out.nb).cell (i := 56) (by omega)))
  go_ret
  have C := mark_close (st := { kind := 6, next := r.body.length + 1 }) HR2.out HB2.out (by rw [hbl2]; exact hown1) hgrow hat
  have D := C.1.congr (fun j hj => rcell_end r vs vc _ _ _ d (bd ++ [{ kind := 6, next := r.body.length + 1 }]) j hj)
  rw [← show _ = bd from Hbd.out] at D
  exact took_some HO2.out D C.2
set_option maxRecDepth 100000 in
set_option maxHeartbeats 1000000 in
theorem end_else (r : Lk.RS) (vs vc vb : Value) (base b g cap : Nat) (w : World) (hr : Rep w base b r vs vc vb) (hbl : r.body.length ≤ 100000) (hI : Inv r) (d : Nat) (hd : r.depth = d + 1) (hd1 el : Nat) (hhd : (r.opn d).1 = hd1) (hel : (r.opn d).2 = el) (hkw : (Lk.bodyAt r.body hd1).kind ≠ 5) (hel0 : el ≠ 0) (O : Option Lk.RS)
    (hO : O = some { r with depth := d, body := r.body.set el { Lk.bodyAt r.body el with next := r.body.length + 1 } ++ [{ kind := 6, next := r.body.length + 1 }] }) :
    Calls Tryz.prog 73 #[.pointer (some ⟨b, 0, none⟩), .slice (some ⟨g, 0, none⟩) 1 cap] w fun e w' => e = .returned (.bool O.isSome) ∧ Took w w' base b O := by
  have hlt := hr.lt
  have hge := hr.ge
  have hd4 : d < 4 := by have := hI.dep; omega
  have hio := hI.opn d (by omega)
  have hc66 := hr.row.cell (i := 66) (by omega)
  have hf66 := hr.row.frozen 66
  rw [show rcell r vs vc (.slice none 0 0) vb 66 = .int .i64 r.depth from rfl] at hc66
  have hc0 := hr.row.cell (i := 58 + d * 2) (by omega)
  have hc1 := hr.row.cell (i := 58 + d * 2 + 1) (by omega)
  rw [(rcell_opn _ _ _ _ _ _ hd4).1, hhd] at hc0
  rw [(rcell_opn _ _ _ _ _ _ hd4).2, hel] at hc1
  rw [hhd, hel] at hio
  have hc56 := hr.row.cell (i := 56) (by omega)
  have hf56 := hr.row.frozen 56
  rw [show rcell r vs vc (.slice none 0 0) vb 56 = vb from rfl] at hc56
  obtain ⟨gb, cp, hvb, hgb1, hgb2⟩ := hr.bod.form (by omega)
  rw [hd, Int.natCast_add] at hc66
  subst hvb
  have hgbb : gb ≠ b := fun e => hr.nb (by rw [e]; rfl)
  have hcell := fun i k (hi : i < r.body.length) (hk : k < 10) => (hr.bod.cellAt (i * 10 + k) (by omega)).trans (flat_get r.body i k hi hk)
  have hk0 := hcell hd1 0 hio.1 (by omega)
  have hkp := hcell el 8 hio.2 (by omega)
  have hfr := hr.bod.frozenAt (el * 10 + 8)
  simp only [stCells, List.getElem?_cons_zero, Nat.add_zero] at hk0
  simp [stCells] at hkp
  have HR : Hid (Rep w base b r vs vc (.slice (some ⟨gb, 0, none⟩) r.body.length cp)) := hr
  have HO : Hid _ := hO
  have Hio : Hid _ := hio
  have hiI : (0 : Int) ≤ (hd1 : Int) := by omega
  have hiJ : (hd1 : Int) < (r.body.length : Int) := by omega
  have heI : (0 : Int) ≤ (el : Int) := by omega
  have heJ : (el : Int) < (r.body.length : Int) := by omega
  have hdI : (d : Int) < 4 := by omega
  have hlI : (r.body.length : Int) ≤ 100000 := by omega
  clear hr hcell hhd hel hO hd hI hio
  have hkI : (((Lk.bodyAt r.body hd1).kind : Int) == 5) = false := by simp; omega
  clear hkw
  generalize (Lk.bodyAt r.body hd1).kind = kk at hk0 hkI
  have heI2 : ((el : Int) != 0) = true := by simp; omega
  clear hel0
  go_enter Tryz.func73, Tryz.ntmps73
  go_wp2_with fail
  go_region
  all_goals go_wp2_with fail
  go_quiet (fail)
  go_wp2_with fail
  go_region
  generalize hW : World.setCell (World.drewN _ _) _ _ = W
  have hfs := flat_set r.body el 8 (.int .i64 (↑r.body.length + 1)) { Lk.bodyAt r.body el with next := r.body.length + 1 } Hio.out.2 (by omega) (by simp [stCells])
  have hbl2 : (r.body.set el { Lk.bodyAt r.body el with next := r.body.length + 1 }).length = r.body.length := by simp
  obtain ⟨bd, hbd⟩ : ∃ bd, r.body.set el { Lk.bodyAt r.body el with next := r.body.length + 1 } = bd := ⟨_, rfl⟩
  rw [hbd] at hfs hbl2
  have HO2 : Hid _ := HO.out
  have HR2 : Hid (RepF W base b (fun j => if j = 66 then .int .i64 ↑d else rcell r vs vc (.slice none 0 0) (.slice (some ⟨gb, 0, none⟩) r.body.length cp) j) r.secret r.cells bd vs vc (.slice (some ⟨gb, 0, none⟩) r.body.length cp)) := by
    rw [← hW]
    exact ((((HR.out.put _ _).alloc _).drewN _).storeBody hbl2 hfs.symm)
  have HB2 : Hid (Below base w W) := by
    rw [← hW]
    exact ((below_drewN (((Below.refl _ _).setCell hge _).alloc (by have := HR.out.baseLe; simpa using this) _) _).setCell (by exact hgb1) _)
  have c5 : ∀ i v, W.cell? ⟨w.heap.size, i, none⟩ = v → W.cell? ⟨w.heap.size, i, none⟩ = v := fun _ _ h => h
  clear hW c5
  have hown := HR2.out.bod
  rw [hbl2] at hown
  have lt2 := HR2.out.lt
  have k56 := HR2.out.row.cell (i := 56) (by omega)
  have g56 := HR2.out.row.frozen 56
  rw [if_neg (by omega), show rcell r vs vc (.slice none 0 0) (.slice (some ⟨gb, 0, none⟩) r.body.length cp) 56 = .slice (some ⟨gb, 0, none⟩) r.body.length cp from rfl] at k56
  have Hown : Hid (W.ownsRow base 153 10 (.slice (some ⟨gb, 0, none⟩) r.body.length cp) r.body.length (flat bd)) := hown
  have Hbd : Hid _ := hbd
  clear hown hkp hfr hk0 hc0 hc1 hc56 hf56 hc66 hf66 hfs hbd HO
  obtain ⟨t0, ht0, hz0, hz1, hz2⟩ := info_parts Tryz.infoSt
  go_wp2_with (first
    | (at_builtin; refine wpList_append_lies _ rfl _ _ 47 rfl base 153 t0 _ 10 80 Tryz.underlying47 ht0 hz0 hz1 hz2 rfl (by omega) _ r.body.length (flat bd) rfl (World.ownsRow.alloc (Hid.out Hown) _) ⟨W.heap.size, 0, none⟩ 1 1 [.int .i64 6, .int .i64 0, .int .i64 0, .int .i64 0, .bool false, .int .i64 0, .bool false, .int .i64 0, .int .i64 (↑r.body.length + 1), .int .i64 0] rfl rfl (World.news_of_block (cs := #[.int .i64 6, .int .i64 0, .int .i64 0, .int .i64 0, .bool false, .int .i64 0, .bool false, .int .i64 0, .int .i64 (↑r.body.length + 1), .int .i64 0]) (t := 153) (fr := (0, 0)) (heap_alloc_new W _)) (by simp [Value.oneCell']) (by omega) (by unfold maxLen; omega) (by omega) (by have := HR2.out.baseLe; simp; omega) (W.heap.size + 1) (by simp) ?_; intro gg cap2 w1 hown1 hgrow hat hlt1; have f2 := (rowIs_grown (HR2.out.row.alloc _) hgrow HR2.out.nb).frozen 56; have c2 := (rowIs_grown (HR2.out.row.alloc _) hgrow HR2.out.nb).cell (i := 56) (by omega)))
  go_ret
  have C := mark_close (st := { kind := 6, next := r.body.length + 1 }) HR2.out HB2.out (by rw [hbl2]; exact hown1) hgrow hat
  have D := C.1.congr (fun j hj => rcell_end r vs vc _ _ _ d (bd ++ [{ kind := 6, next := r.body.length + 1 }]) j hj)
  rw [← show _ = bd from Hbd.out] at D
  exact took_some HO2.out D C.2
set_option maxRecDepth 100000 in
set_option maxHeartbeats 1000000 in
theorem end_odd (r : Lk.RS) (vs vc vb : Value) (base b g cap : Nat) (w : World) (hr : Rep w base b r vs vc vb) (hbl : r.body.length ≤ 100000) (hI : Inv r) (d : Nat) (hd : r.depth = d + 1) (hd1 el : Nat) (hhd : (r.opn d).1 = hd1) (hel : (r.opn d).2 = el) (hkw : (Lk.bodyAt r.body hd1).kind = 5) (hel0 : el ≠ 0) (O : Option Lk.RS)
    (hO : O = some { r with depth := d, body := r.body.set el { Lk.bodyAt r.body el with next := r.body.length + 1 } ++ [{ kind := 6, next := hd1 }] }) :
    Calls Tryz.prog 73 #[.pointer (some ⟨b, 0, none⟩), .slice (some ⟨g, 0, none⟩) 1 cap] w fun e w' => e = .returned (.bool O.isSome) ∧ Took w w' base b O := by
  have hlt := hr.lt
  have hge := hr.ge
  have hd4 : d < 4 := by have := hI.dep; omega
  have hio := hI.opn d (by omega)
  have hc66 := hr.row.cell (i := 66) (by omega)
  have hf66 := hr.row.frozen 66
  rw [show rcell r vs vc (.slice none 0 0) vb 66 = .int .i64 r.depth from rfl] at hc66
  have hc0 := hr.row.cell (i := 58 + d * 2) (by omega)
  have hc1 := hr.row.cell (i := 58 + d * 2 + 1) (by omega)
  rw [(rcell_opn _ _ _ _ _ _ hd4).1, hhd] at hc0
  rw [(rcell_opn _ _ _ _ _ _ hd4).2, hel] at hc1
  rw [hhd, hel] at hio
  have hc56 := hr.row.cell (i := 56) (by omega)
  have hf56 := hr.row.frozen 56
  rw [show rcell r vs vc (.slice none 0 0) vb 56 = vb from rfl] at hc56
  obtain ⟨gb, cp, hvb, hgb1, hgb2⟩ := hr.bod.form (by omega)
  rw [hd, Int.natCast_add] at hc66
  subst hvb
  have hgbb : gb ≠ b := fun e => hr.nb (by rw [e]; rfl)
  have hcell := fun i k (hi : i < r.body.length) (hk : k < 10) => (hr.bod.cellAt (i * 10 + k) (by omega)).trans (flat_get r.body i k hi hk)
  have hk0 := hcell hd1 0 hio.1 (by omega)
  have hkp := hcell el 8 hio.2 (by omega)
  have hfr := hr.bod.frozenAt (el * 10 + 8)
  simp only [stCells, List.getElem?_cons_zero, Nat.add_zero] at hk0
  simp [stCells] at hkp
  have HR : Hid (Rep w base b r vs vc (.slice (some ⟨gb, 0, none⟩) r.body.length cp)) := hr
  have HO : Hid _ := hO
  have Hio : Hid _ := hio
  have hiI : (0 : Int) ≤ (hd1 : Int) := by omega
  have hiJ : (hd1 : Int) < (r.body.length : Int) := by omega
  have heI : (0 : Int) ≤ (el : Int) := by omega
  have heJ : (el : Int) < (r.body.length : Int) := by omega
  have hdI : (d : Int) < 4 := by omega
  have hlI : (r.body.length : Int) ≤ 100000 := by omega
  clear hr hcell hhd hel hO hd hI hio
  rw [hkw] at hk0
  clear hkw
  have heI2 : ((el : Int) != 0) = true := by simp; omega
  clear hel0
  go_enter Tryz.func73, Tryz.ntmps73
  go_wp2_with fail
  go_region
  all_goals go_wp2_with fail
  go_quiet (fail)
  go_wp2_with fail
  go_region
  generalize hW : World.setCell (World.drewN _ _) _ _ = W
  have hfs := flat_set r.body el 8 (.int .i64 (↑r.body.length + 1)) { Lk.bodyAt r.body el with next := r.body.length + 1 } Hio.out.2 (by omega) (by simp [stCells])
  have hbl2 : (r.body.set el { Lk.bodyAt r.body el with next := r.body.length + 1 }).length = r.body.length := by simp
  obtain ⟨bd, hbd⟩ : ∃ bd, r.body.set el { Lk.bodyAt r.body el with next := r.body.length + 1 } = bd := ⟨_, rfl⟩
  rw [hbd] at hfs hbl2
  have HO2 : Hid _ := HO.out
  have HR2 : Hid (RepF W base b (fun j => if j = 66 then .int .i64 ↑d else rcell r vs vc (.slice none 0 0) (.slice (some ⟨gb, 0, none⟩) r.body.length cp) j) r.secret r.cells bd vs vc (.slice (some ⟨gb, 0, none⟩) r.body.length cp)) := by
    rw [← hW]
    exact ((((HR.out.put _ _).alloc _).drewN _).storeBody hbl2 hfs.symm)
  have HB2 : Hid (Below base w W) := by
    rw [← hW]
    exact ((below_drewN (((Below.refl _ _).setCell hge _).alloc (by have := HR.out.baseLe; simpa using this) _) _).setCell (by exact hgb1) _)
  have c5 : ∀ i v, W.cell? ⟨w.heap.size, i, none⟩ = v → W.cell? ⟨w.heap.size, i, none⟩ = v := fun _ _ h => h
  clear hW c5
  have hown := HR2.out.bod
  rw [hbl2] at hown
  have lt2 := HR2.out.lt
  have k56 := HR2.out.row.cell (i := 56) (by omega)
  have g56 := HR2.out.row.frozen 56
  rw [if_neg (by omega), show rcell r vs vc (.slice none 0 0) (.slice (some ⟨gb, 0, none⟩) r.body.length cp) 56 = .slice (some ⟨gb, 0, none⟩) r.body.length cp from rfl] at k56
  have Hown : Hid (W.ownsRow base 153 10 (.slice (some ⟨gb, 0, none⟩) r.body.length cp) r.body.length (flat bd)) := hown
  have Hbd : Hid _ := hbd
  clear hown hkp hfr hk0 hc0 hc1 hc56 hf56 hc66 hf66 hfs hbd HO
  obtain ⟨t0, ht0, hz0, hz1, hz2⟩ := info_parts Tryz.infoSt
  go_wp2_with (first
    | (at_builtin; refine wpList_append_lies _ rfl _ _ 47 rfl base 153 t0 _ 10 80 Tryz.underlying47 ht0 hz0 hz1 hz2 rfl (by omega) _ r.body.length (flat bd) rfl (World.ownsRow.alloc (Hid.out Hown) _) ⟨W.heap.size, 0, none⟩ 1 1 [.int .i64 6, .int .i64 0, .int .i64 0, .int .i64 0, .bool false, .int .i64 0, .bool false, .int .i64 0, .int .i64 (↑hd1), .int .i64 0] rfl rfl (World.news_of_block (cs := #[.int .i64 6, .int .i64 0, .int .i64 0, .int .i64 0, .bool false, .int .i64 0, .bool false, .int .i64 0, .int .i64 (↑hd1), .int .i64 0]) (t := 153) (fr := (0, 0)) (heap_alloc_new W _)) (by simp [Value.oneCell']) (by omega) (by unfold maxLen; omega) (by omega) (by have := HR2.out.baseLe; simp; omega) (W.heap.size + 1) (by simp) ?_; intro gg cap2 w1 hown1 hgrow hat hlt1; have f2 := (rowIs_grown (HR2.out.row.alloc _) hgrow HR2.out.nb).frozen 56; have c2 := (rowIs_grown (HR2.out.row.alloc _) hgrow HR2.out.nb).cell (i := 56) (by omega)))
  go_ret
  have C := mark_close (st := { kind := 6, next := hd1 }) HR2.out HB2.out (by rw [hbl2]; exact hown1) hgrow hat
  have D := C.1.congr (fun j hj => rcell_end r vs vc _ _ _ d (bd ++ [{ kind := 6, next := hd1 }]) j hj)
  rw [← show _ = bd from Hbd.out] at D
  exact took_some HO2.out D C.2
set_option maxHeartbeats 400000 in
theorem takeEnd_any (r : Lk.RS) (vs vc vb : Value) (base b g cap : Nat) (ws : List ByteArray) (w : World) (hr : Rep w base b r vs vc vb) (hbl : r.body.length ≤ 100000) (hI : Inv r) :
    Calls Tryz.prog 73 #[.pointer (some ⟨b, 0, none⟩), .slice (some ⟨g, 0, none⟩) ws.length cap] w fun e w' =>
      e = .returned (.bool (Lk.takeEnd r (ws.map ByteArray.toList)).isSome) ∧ Took w w' base b (Lk.takeEnd r (ws.map ByteArray.toList)) := by
  have hlt := hr.lt
  have hc66 := hr.row.cell (i := 66) (by omega)
  rw [show rcell r vs vc (.slice none 0 0) vb 66 = .int .i64 r.depth from rfl] at hc66
  by_cases hl : ws.length = 1
  · by_cases hd0 : r.depth = 0
    · have hS : Lk.takeEnd r (ws.map ByteArray.toList) = none := by unfold Lk.takeEnd; rw [if_neg (by omega)]
      rw [hl]
      rw [hd0] at hc66
      clear hr hl
      go_enter Tryz.func73, Tryz.ntmps73
      go_wp2_with fail
      go_ret
      exact took_none hS (Below.refl _ _)
    · obtain ⟨d, hd⟩ : ∃ d, r.depth = d + 1 := ⟨r.depth - 1, by omega⟩
      rw [hl]
      by_cases hk : (Lk.bodyAt r.body (r.opn d).1).kind = 5
      · by_cases he : (r.opn d).2 = 0
        · exact end_while r vs vc vb base b g cap w hr hbl hI d hd _ _ rfl rfl hk he _ (by unfold Lk.takeEnd; rw [hd]; simp [hl, hk, he])
        · exact end_odd r vs vc vb base b g cap w hr hbl hI d hd _ _ rfl rfl hk he _ (by unfold Lk.takeEnd; rw [hd]; simp [hl, hk, he])
      · by_cases he : (r.opn d).2 = 0
        · exact end_if r vs vc vb base b g cap w hr hbl hI d hd _ _ rfl rfl hk he _ (by unfold Lk.takeEnd; rw [hd]; simp [hl, hk, he])
        · exact end_else r vs vc vb base b g cap w hr hbl hI d hd _ _ rfl rfl hk he _ (by unfold Lk.takeEnd; rw [hd]; simp [hl, hk, he])
  · have hS : Lk.takeEnd r (ws.map ByteArray.toList) = none := by unfold Lk.takeEnd; rw [if_neg (by simp; omega)]
    have hl' : ((ws.length : Int) != 1) = true := by simp; omega
    clear hr hl
    generalize ws.length = n at hl'
    go_enter Tryz.func73, Tryz.ntmps73
    go_wp2_with fail
    go_ret
    exact took_none hS (Below.refl _ _)
end Go.Proofs.YtgddmpmcnjlcjabGreatDoor
