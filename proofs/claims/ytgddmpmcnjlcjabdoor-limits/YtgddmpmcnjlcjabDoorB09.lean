import Derived.Test.YtgddmpmcnjlcjabDoorB05
namespace Go.Proofs.YtgddmpmcnjlcjabDoor
open Go.RowKit
set_option linter.unusedVariables false
theorem mark_close {w W w1 : World} {base b gg cap n : Nat} {f : Nat → Value} {sec : List Bool} {cel : List Nat} {bod : List Lk.St} {vs vc vb : Value} {st : Lk.St} {o : Obj} (hR : RepF W base b f sec cel bod vs vc vb) (hB : Below base w W)
    (hown : w1.ownsRow base 133 10 (.slice (some ⟨gg, 0, none⟩) n cap) (bod.length + 1) (flat bod ++ stCells st))
    (hg : (W.alloc o).grownBy w1 vb.ownBlock) (hat : vb.ownBlock = some gg ∨ gg = W.heap.size + 1) :
    RepF (w1.setCell ⟨b, 56, none⟩ (.slice (some ⟨gg, 0, none⟩) n cap)) base b (fun j => if j = 56 then .slice (some ⟨gg, 0, none⟩) n cap else f j) sec cel (bod ++ [st]) vs vc (.slice (some ⟨gg, 0, none⟩) n cap) ∧ Below base w (w1.setCell ⟨b, 56, none⟩ (.slice (some ⟨gg, 0, none⟩) n cap)) := by
  have hX := hR.alloc o
  refine ⟨(hX.growBody (bod' := bod ++ [st]) hg (by rw [flat_snoc]; simpa using hown) (by simpa using hat)).put 56 _, ?_⟩
  refine (Below.grown (hB.alloc hR.baseLe o) hg hX.baseLe ?_).setCell hR.ge _
  intro k hk
  exact (hR.bod.lt k hk).1
theorem rcell_else (r : Lk.RS) (vs vc vk vb vb' : Value) (d p q : Nat) (hd : d < 4) (hp : (r.opn d).1 = p) (bd : List Lk.St) (j : Nat) (hj : j < 67) :
    (if j = 56 then vb' else if j = 58 + d * 2 + 1 then Value.int .i64 q else rcell r vs vc vk vb j) = rcell { r with opn := Lk.upd r.opn d (p, q), body := bd } vs vc vk vb' j := by
  by_cases h0 : j = 56
  · subst h0; rfl
  · rw [if_neg h0]
    by_cases h1 : j = 58 + d * 2 + 1
    · rw [if_pos h1, h1, (rcell_opn _ vs vc vk vb' d hd).2]; simp [Lk.upd]
    · rw [if_neg h1]
      by_cases h2 : j = 58 + d * 2
      · rw [h2, (rcell_opn _ vs vc vk vb' d hd).1, (rcell_opn _ vs vc vk vb d hd).1]; simp [Lk.upd, hp]
      · unfold rcell
        by_cases h3 : 58 ≤ j ∧ j < 66
        · have hk : (j - 58) / 2 ≠ d := by omega
          simp only [Lk.upd, hk, h0, if_false]
        · simp only [h0, if_false]
          repeat' split
          all_goals first | rfl | omega
set_option maxRecDepth 100000 in
set_option maxHeartbeats 1000000 in
theorem takeElse_any (r : Lk.RS) (vs vc vb : Value) (base b g cap : Nat) (ws : List ByteArray) (w : World) (hr : Rep w base b r vs vc vb) (hbl : r.body.length ≤ 100000) (hI : Inv r) :
    Calls Tryd.prog 60 #[.pointer (some ⟨b, 0, none⟩), .slice (some ⟨g, 0, none⟩) ws.length cap] w fun e w' =>
      e = .returned (.bool (Lk.takeElse r (ws.map ByteArray.toList)).isSome) ∧ Took w w' base b (Lk.takeElse r (ws.map ByteArray.toList)) := by
  have hlt := hr.lt
  have hge := hr.ge
  have hc66 := hr.row.cell (i := 66) (by omega)
  rw [show rcell r vs vc (.slice none 0 0) vb 66 = .int .i64 r.depth from rfl] at hc66
  by_cases hl : ws.length = 1
  · by_cases hd0 : r.depth = 0
    · have hS : Lk.takeElse r (ws.map ByteArray.toList) = none := by unfold Lk.takeElse; rw [if_neg (by omega)]
      rw [hl]
      rw [hd0] at hc66
      clear hr hl
      go_enter Tryd.func60, Tryd.ntmps60
      go_wp2_with fail
      go_ret
      exact took_none hS (Below.refl _ _)
    · obtain ⟨d, hd⟩ : ∃ d, r.depth = d + 1 := ⟨r.depth - 1, by omega⟩
      have hd4 : d < 4 := by have := hI.dep; omega
      have hio := hI.opn d (by omega)
      have hS : Lk.takeElse r (ws.map ByteArray.toList) = if (Lk.bodyAt r.body (r.opn d).1).kind = 4 ∧ (r.opn d).2 = 0 then
          some { r with opn := Lk.upd r.opn d ((r.opn d).1, r.body.length), body := r.body.set (r.opn d).1 { Lk.bodyAt r.body (r.opn d).1 with els := r.body.length + 1 } ++ [{ kind := 6 }] } else none := by
        unfold Lk.takeElse; rw [hd]; simp [hl]
      have hc0 := hr.row.cell (i := 58 + d * 2) (by omega)
      have hc1 := hr.row.cell (i := 58 + d * 2 + 1) (by omega)
      have hf0 := hr.row.frozen (58 + d * 2)
      have hf1 := hr.row.frozen (58 + d * 2 + 1)
      rw [(rcell_opn _ _ _ _ _ _ hd4).1] at hc0
      rw [(rcell_opn _ _ _ _ _ _ hd4).2] at hc1
      have hc56 := hr.row.cell (i := 56) (by omega)
      have hf56 := hr.row.frozen 56
      rw [show rcell r vs vc (.slice none 0 0) vb 56 = vb from rfl] at hc56
      obtain ⟨gb, cp, hvb, hgb1, hgb2⟩ := hr.bod.form (by omega)
      obtain ⟨O, hO⟩ : ∃ O, Lk.takeElse r (ws.map ByteArray.toList) = O := ⟨_, rfl⟩
      rw [hO, hl]
      rw [hO] at hS
      rw [hd, Int.natCast_add] at hc66
      generalize hhd : (r.opn d).1 = hd1 at hc0 hio hS
      generalize hel : (r.opn d).2 = el at hc1 hio hS
      subst hvb
      have hgbb : gb ≠ b := fun e => hr.nb (by rw [e]; rfl)
      have hcell := fun k (hk : k < 10) => (hr.bod.cellAt (hd1 * 10 + k) (by omega)).trans (flat_get r.body hd1 k hio.1 hk)
      have hk0 := hcell 0 (by omega)
      have hk9 := hcell 9 (by omega)
      have hfr9 := hr.bod.frozenAt (hd1 * 10 + 9)
      simp only [stCells, List.getElem?_cons_zero, Nat.add_zero] at hk0
      simp [stCells] at hk9
      have HR : Hid (Rep w base b r vs vc (.slice (some ⟨gb, 0, none⟩) r.body.length cp)) := hr
      have HO : Hid _ := hS
      clear hr hcell hS hl hel hO
      have Hhd : Hid _ := hhd
      clear hhd
      have hiI : (0 : Int) ≤ (hd1 : Int) := by omega
      have hiJ : (hd1 : Int) < (r.body.length : Int) := by omega
      have hdI : (d : Int) < 4 := by omega
      have hlI : (r.body.length : Int) ≤ 100000 := by omega
      by_cases hk : (Lk.bodyAt r.body hd1).kind = 4
      · by_cases he : el = 0
        · have HO2 : Hid _ := HO.out.trans (if_pos ⟨hk, he⟩)
          clear HO
          subst he
          rw [hk] at hk0
          clear hk
          go_enter Tryd.func60, Tryd.ntmps60
          go_wp2_with fail
          go_region
          all_goals go_wp2_with fail
          go_quiet (fail)
          go_wp2_with fail
          go_region
          all_goals go_wp2_with fail
          go_region
          generalize hW : World.drew (World.setCell _ _ _) = W
          have hfs := flat_set r.body hd1 9 (.int .i64 (↑r.body.length + 1)) { Lk.bodyAt r.body hd1 with els := r.body.length + 1 } hio.1 (by omega) (by simp [stCells])
          have hbl2 : (r.body.set hd1 { Lk.bodyAt r.body hd1 with els := r.body.length + 1 }).length = r.body.length := by simp
          obtain ⟨bd, hbd⟩ : ∃ bd, r.body.set hd1 { Lk.bodyAt r.body hd1 with els := r.body.length + 1 } = bd := ⟨_, rfl⟩
          rw [hbd] at hfs hbl2
          have Hbd : Hid _ := hbd
          clear hbd
          have HR2 : Hid (RepF W base b (fun j => if j = 58 + d * 2 + 1 then .int .i64 ↑r.body.length else rcell r vs vc (.slice none 0 0) (.slice (some ⟨gb, 0, none⟩) r.body.length cp) j) r.secret r.cells bd vs vc (.slice (some ⟨gb, 0, none⟩) r.body.length cp)) := by
            rw [← hW]
            exact ((((HR.out.alloc _).drewN _).put _ _).storeBody hbl2 hfs.symm).drew
          have HB2 : Hid (Below base w W) := by
            rw [← hW]
            exact (((below_drewN ((Below.refl _ _).alloc HR.out.baseLe _) _).setCell hge _).setCell (by exact hgb1) _).drew
          clear hW
          have hown := HR2.out.bod
          rw [hbl2] at hown
          have lt2 := HR2.out.lt
          have k56 := HR2.out.row.cell (i := 56) (by omega)
          have g56 := HR2.out.row.frozen 56
          rw [if_neg (by omega), show rcell r vs vc (.slice none 0 0) (.slice (some ⟨gb, 0, none⟩) r.body.length cp) 56 = .slice (some ⟨gb, 0, none⟩) r.body.length cp from rfl] at k56
          have Hown : Hid _ := hown
          have Hfs : Hid _ := hfs
          clear hown hk9 hfr9 hk0 hc0 hc1 hf0 hf1 hc56 hf56 hc66 hfs
          obtain ⟨t0, ht0, hz0, hz1, hz2⟩ := info_parts Tryd.infoSt
          go_wp2_with (first
            | (at_builtin; (refine wpList_append_lies _ rfl _ _ 42 rfl base 133 t0 _ 10 80 Tryd.underlying42 ht0 hz0 hz1 hz2 rfl (by omega) _ r.body.length (flat bd) rfl (World.ownsRow.alloc (Hid.out Hown) _) ⟨W.heap.size, 0, none⟩ 1 1 [.int .i64 6, .int .i64 0, .int .i64 0, .int .i64 0, .bool false, .int .i64 0, .bool false, .int .i64 0, .int .i64 0, .int .i64 0] rfl rfl (World.news_of_block (cs := #[.int .i64 6, .int .i64 0, .int .i64 0, .int .i64 0, .bool false, .int .i64 0, .bool false, .int .i64 0, .int .i64 0, .int .i64 0]) (t := 133) (fr := (0, 0)) (heap_alloc_new W _)) (by simp [Value.oneCell']) (by omega) (by unfold maxLen; omega) (by omega) (by have := HR2.out.baseLe; simp; omega) (W.heap.size + 1) (by simp) ?_); intro gg cap2 w1 hown1 hgrow hat hlt1; have f2 := (rowIs_grown (HR2.out.row.alloc _) hgrow HR2.out.nb).frozen 56; have c2 := (rowIs_grown (HR2.out.row.alloc _) hgrow HR2.out.nb).cell (i := 56) (by omega)))
          go_ret
          have C := mark_close (st := { kind := 6 }) HR2.out HB2.out (by rw [hbl2]; exact hown1) hgrow hat
          have D := C.1.congr (fun j hj => rcell_else r vs vc _ _ _ d hd1 r.body.length hd4 Hhd.out (bd ++ [{ kind := 6 }]) j hj)
          rw [← show _ = bd from Hbd.out] at D
          exact took_some HO2.out D C.2
        · have HO2 : Hid _ := HO.out.trans (if_neg (fun h => he h.2))
          clear HO
          have heI : ((el : Int) != 0) = true := by simp; omega
          rw [hk] at hk0
          clear he
          go_enter Tryd.func60, Tryd.ntmps60
          go_wp2_with fail
          go_region
          all_goals go_wp2_with fail
          go_quiet (fail)
          go_wp2_with fail
          go_ret
          exact took_none HO2.out (below_drewN (((Below.refl _ _).alloc HR.out.baseLe _).drew) _)
      · have HO2 : Hid _ := HO.out.trans (if_neg (fun h => hk h.1))
        clear HO
        have hkI : (((Lk.bodyAt r.body hd1).kind : Int) != 4) = true := by simp; omega
        clear hk
        generalize (Lk.bodyAt r.body hd1).kind = kk at hk0 hkI
        go_enter Tryd.func60, Tryd.ntmps60
        go_wp2_with fail
        go_region
        all_goals go_wp2_with fail
        go_quiet (fail)
        go_wp2_with fail
        go_ret
        exact took_none HO2.out (below_drewN (((Below.refl _ _).alloc HR.out.baseLe _).drew) _)
  · have hS : Lk.takeElse r (ws.map ByteArray.toList) = none := by unfold Lk.takeElse; rw [if_neg (by simp; omega)]
    have hl' : ((ws.length : Int) != 1) = true := by simp; omega
    clear hr hl
    generalize ws.length = n at hl'
    go_enter Tryd.func60, Tryd.ntmps60
    go_wp2_with fail
    go_ret
    exact took_none hS (Below.refl _ _)
end Go.Proofs.YtgddmpmcnjlcjabDoor
