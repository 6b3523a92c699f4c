import Derived.Test.YtgddmpmcnjlcjaaK05
import Derived.Test.YtgddmpmcnjlcjaaK03
namespace Go.Proofs.Ytgddmpmcnjlcjaa
open Go.RowKit
set_option linter.unusedVariables false

def linkK (b : List Lk.St) (k : Nat) : List Lk.St := ((b.take k).filter fun s => s.kind ≠ 6).map (Lk.linkOne b)
theorem linkK_len (b : List Lk.St) (k : Nat) : (linkK b k).length ≤ k := by
  unfold linkK
  rw [List.length_map]
  exact Nat.le_trans (List.length_filter_le _ _) (List.length_take_le _ _)
theorem linkK_full (b : List Lk.St) : linkK b b.length = Lk.link b := by unfold linkK Lk.link; rw [List.take_of_length_le (Nat.le_refl _)]
theorem linkK_mark (b : List Lk.St) (k : Nat) (h : k < b.length) (hm : (Lk.bodyAt b k).kind = 6) : linkK b (k + 1) = linkK b k := by
  unfold linkK
  have e : Lk.bodyAt b k = b[k] := by simp [Lk.bodyAt, h]
  rw [e] at hm
  rw [List.take_succ_eq_append_getElem h, List.filter_append]; simp [hm]
theorem linkK_st (b : List Lk.St) (k : Nat) (h : k < b.length) (hm : (Lk.bodyAt b k).kind ≠ 6) : linkK b (k + 1) = linkK b k ++ [Lk.linkOne b (Lk.bodyAt b k)] := by
  unfold linkK
  have e : Lk.bodyAt b k = b[k] := by simp [Lk.bodyAt, h]
  rw [e] at hm ⊢
  rw [List.take_succ_eq_append_getElem h, List.filter_append]; simp [hm]

theorem link_close {w1 : World} {base n cap gg : Nat} {bd : List Lk.St} {k : Nat} {s' : Lk.St} {xs : List Value} (h : linkK bd (k + 1) = linkK bd k ++ [s']) (hs : stCells s' = xs)
    (hown : w1.ownsRow base 98 10 (.slice (some ⟨gg, 0, none⟩) n cap) ((linkK bd k).length + 1) (flat (linkK bd k) ++ xs)) : w1.ownsRow base 98 10 (.slice (some ⟨gg, 0, none⟩) n cap) (linkK bd (k + 1)).length (flat (linkK bd (k + 1))) := by
  rw [h, flat_snoc, hs]; simpa using hown

set_option maxRecDepth 100000 in
set_option maxHeartbeats 2000000 in
theorem link_pos (bd : List Lk.St) (b gb cp : Nat) (w : World) (hc56 : w.cell? ⟨b, 56, none⟩ = some (.slice (some ⟨gb, 0, none⟩) bd.length cp))
    (hcell : ∀ i k, i < bd.length → k < 10 → w.cell? ⟨gb, i * 10 + k, none⟩ = (stCells (Lk.bodyAt bd i))[k]?) (hbl : bd.length ≤ 100000) (hb : b < w.heap.size) (hgb : gb < w.heap.size) :
    Calls Try.prog 21 #[.pointer (some ⟨b, 0, none⟩)] w fun e w' => ∃ v, e = .returned v ∧ w'.ownsRow w.heap.size 98 10 v (Lk.link bd).length (flat (Lk.link bd)) ∧ Below w.heap.size w w' := by
  obtain ⟨t0, ht0, hz0, hz1, hz2⟩ := info_parts Try.infoSt
  have hlI : (bd.length : Int) ≤ 100000 := by omega
  have HC : Hid _ := hcell
  have HK : Hid (∀ i, i < bd.length → w.cell? ⟨gb, i * 10, none⟩ = some (.int .i64 (Lk.bodyAt bd i).kind)) := fun i hi => by have := hcell i 0 hi (by omega); simpa [stCells] using this
  have HN : Hid (∀ i, i < bd.length → w.cell? ⟨gb, i * 10 + 8, none⟩ = some (.int .i64 (Lk.bodyAt bd i).next)) := fun i hi => by have := hcell i 8 hi (by omega); simpa [stCells] using this
  have H56 : Hid _ := hc56
  clear hcell
  go_enter Try.func21, Try.ntmps21
  go_wp2
  go_loopw [3, 11] (fun v c wr => ∃ k : Nat, k ≤ bd.length ∧ c = .int .i64 k ∧ wr.ownsRow w.heap.size 98 10 v (linkK bd k).length (flat (linkK bd k)) ∧ Below w.heap.size w wr) (fun _ c _ => bd.length - (intOf c).toNat)
  case atStart => exact ⟨0, Nat.zero_le _, rfl, World.ownsRow_nil _ _ _ _, Below.refl _ _⟩
  case round =>
    obtain ⟨k, hkl, rfl, hown, hnx⟩ := hrel
    have hll := linkK_len bd k
    have hz := hnx.size
    by_cases hlt : k < bd.length
    · have hc := fun j (hj : j < 10) => (hnx.cell (p := ⟨gb, k * 10 + j, none⟩) hgb).trans (HC.out k j hlt hj)
      have c0 := hc 0 (by omega)
      have c1 := hc 1 (by omega)
      have c2 := hc 2 (by omega)
      have c3 := hc 3 (by omega)
      have c4 := hc 4 (by omega)
      have c5 := hc 5 (by omega)
      have c6 := hc 6 (by omega)
      have c7 := hc 7 (by omega)
      have c8 := hc 8 (by omega)
      have c9 := hc 9 (by omega)
      simp [stCells] at c0 c1 c2 c3 c4 c5 c6 c7 c8 c9
      have Hmk := linkK_mark bd k hlt
      have Hst := linkK_st bd k hlt
      generalize Lk.bodyAt bd k = s at c0 c1 c2 c3 c4 c5 c6 c7 c8 c9 Hmk Hst
      have hltI : (k : Int) < (bd.length : Int) := by omega
      clear hc
      have Hnx : Hid (Below w.heap.size w wr) := hnx
      clear hnx
      by_cases hm : s.kind = 6
      · have HL : Hid _ := Hmk hm
        rw [hm] at c0
        clear Hmk Hst hm
        go_wp2
        go_roundw
        case rel => exact ⟨k + 1, by omega, by go_num, by rw [show linkK bd (k + 1) = _ from HL.out]; exact hown.alloc _, Hnx.out.alloc hz _⟩
        case measure => simp [intOf]; omega
      · have HL : Hid _ := Hst hm
        clear Hmk Hst
        have hm' : ((s.kind : Int) == 6) = false := by simp; omega
        by_cases h4 : s.kind = 4
        · have HE : Hid (stCells (Lk.linkOne bd s) = [.int .i64 4, .int .i64 s.op, .int .i64 s.slot, .int .i64 s.arr, .bool s.a.named, .int .i64 s.a.val, .bool s.b.named, .int .i64 s.b.val, .int .i64 (Lk.settle bd s.next), .int .i64 (Lk.settle bd s.els)]) := by show stCells _ = _; unfold Lk.linkOne; rw [if_pos (.inl h4)]; simp [stCells, h4]
          rw [h4] at c0
          clear hm hm' h4
          go_wp2_with (first
            | (go_at_call 45; refine (settle_pos bd b gb cp _ _ ?_ ?_ ?_ hbl).mono ?_; exact cell_alloc ((Hnx.out.cell (by exact hb)).trans H56.out) _; exact fun i hi => cell_alloc ((Hnx.out.cell (by exact hgb)).trans (HK.out i hi)) _; exact fun i hi => cell_alloc ((Hnx.out.cell (by exact hgb)).trans (HN.out i hi)) _; rintro e w' ⟨rfl, rfl⟩)
            | (at_builtin; refine wpList_append_lies _ rfl _ _ 38 rfl w.heap.size 98 t0 _ 10 80 Try.underlying38 ht0 hz0 hz1 hz2 rfl (by omega) _ (linkK bd k).length (flat (linkK bd k)) rfl ((hown.alloc _).alloc _) ⟨wr.heap.size + 1, 0, none⟩ 1 1 [.int .i64 4, .int .i64 s.op, .int .i64 s.slot, .int .i64 s.arr, .bool s.a.named, .int .i64 s.a.val, .bool s.b.named, .int .i64 s.b.val, .int .i64 (Lk.settle bd s.next), .int .i64 (Lk.settle bd s.els)] (by simp [go_sem]) rfl (World.news_of_block (cs := #[.int .i64 4, .int .i64 s.op, .int .i64 s.slot, .int .i64 s.arr, .bool s.a.named, .int .i64 s.a.val, .bool s.b.named, .int .i64 s.b.val, .int .i64 (Lk.settle bd s.next), .int .i64 (Lk.settle bd s.els)]) (t := 98) (fr := (0, 0)) (by have := heap_alloc_new (wr.alloc (Obj.cells #[.int .i64 4, .int .i64 s.op, .int .i64 s.slot, .int .i64 s.arr, .bool s.a.named, .int .i64 s.a.val, .bool s.b.named, .int .i64 s.b.val, .int .i64 (Lk.settle bd s.next), .int .i64 (Lk.settle bd s.els)] 98)) (Obj.cells #[.int .i64 4, .int .i64 s.op, .int .i64 s.slot, .int .i64 s.arr, .bool s.a.named, .int .i64 s.a.val, .bool s.b.named, .int .i64 s.b.val, .int .i64 (Lk.settle bd s.next), .int .i64 (Lk.settle bd s.els)] 98); simpa using this)) (by simp [Value.oneCell']) (by omega) (by unfold maxLen; omega) (by omega) (by simp; omega) (wr.heap.size + 2) (by simp) ?_; intro gg cap w1 hown1 hgrow hat hlt1))
          go_roundw
          case rel => exact ⟨k + 1, by omega, by go_num, link_close HL.out HE.out hown1, Below.grown ((Hnx.out.alloc hz _).alloc (by simp; omega) _) hgrow (by simp; omega) (fun q hq => (hown.lt q hq).1)⟩
          case measure => simp [intOf]; omega
        · by_cases h5 : s.kind = 5
          · have HE : Hid (stCells (Lk.linkOne bd s) = [.int .i64 5, .int .i64 s.op, .int .i64 s.slot, .int .i64 s.arr, .bool s.a.named, .int .i64 s.a.val, .bool s.b.named, .int .i64 s.b.val, .int .i64 (Lk.settle bd s.next), .int .i64 (Lk.settle bd s.els)]) := by show stCells _ = _; unfold Lk.linkOne; rw [if_pos (.inr h5)]; simp [stCells, h5]
            rw [h5] at c0
            clear hm hm' h4 h5
            go_wp2_with (first
              | (go_at_call 45; refine (settle_pos bd b gb cp _ _ ?_ ?_ ?_ hbl).mono ?_; exact cell_alloc ((Hnx.out.cell (by exact hb)).trans H56.out) _; exact fun i hi => cell_alloc ((Hnx.out.cell (by exact hgb)).trans (HK.out i hi)) _; exact fun i hi => cell_alloc ((Hnx.out.cell (by exact hgb)).trans (HN.out i hi)) _; rintro e w' ⟨rfl, rfl⟩)
              | (at_builtin; refine wpList_append_lies _ rfl _ _ 38 rfl w.heap.size 98 t0 _ 10 80 Try.underlying38 ht0 hz0 hz1 hz2 rfl (by omega) _ (linkK bd k).length (flat (linkK bd k)) rfl ((hown.alloc _).alloc _) ⟨wr.heap.size + 1, 0, none⟩ 1 1 [.int .i64 5, .int .i64 s.op, .int .i64 s.slot, .int .i64 s.arr, .bool s.a.named, .int .i64 s.a.val, .bool s.b.named, .int .i64 s.b.val, .int .i64 (Lk.settle bd s.next), .int .i64 (Lk.settle bd s.els)] (by simp [go_sem]) rfl (World.news_of_block (cs := #[.int .i64 5, .int .i64 s.op, .int .i64 s.slot, .int .i64 s.arr, .bool s.a.named, .int .i64 s.a.val, .bool s.b.named, .int .i64 s.b.val, .int .i64 (Lk.settle bd s.next), .int .i64 (Lk.settle bd s.els)]) (t := 98) (fr := (0, 0)) (by have := heap_alloc_new (wr.alloc (Obj.cells #[.int .i64 5, .int .i64 s.op, .int .i64 s.slot, .int .i64 s.arr, .bool s.a.named, .int .i64 s.a.val, .bool s.b.named, .int .i64 s.b.val, .int .i64 (Lk.settle bd s.next), .int .i64 (Lk.settle bd s.els)] 98)) (Obj.cells #[.int .i64 5, .int .i64 s.op, .int .i64 s.slot, .int .i64 s.arr, .bool s.a.named, .int .i64 s.a.val, .bool s.b.named, .int .i64 s.b.val, .int .i64 (Lk.settle bd s.next), .int .i64 (Lk.settle bd s.els)] 98); simpa using this)) (by simp [Value.oneCell']) (by omega) (by unfold maxLen; omega) (by omega) (by simp; omega) (wr.heap.size + 2) (by simp) ?_; intro gg cap w1 hown1 hgrow hat hlt1))
            go_roundw
            case rel => exact ⟨k + 1, by omega, by go_num, link_close HL.out HE.out hown1, Below.grown ((Hnx.out.alloc hz _).alloc (by simp; omega) _) hgrow (by simp; omega) (fun q hq => (hown.lt q hq).1)⟩
            case measure => simp [intOf]; omega
          · have HE : Hid (stCells (Lk.linkOne bd s) = [.int .i64 s.kind, .int .i64 s.op, .int .i64 s.slot, .int .i64 s.arr, .bool s.a.named, .int .i64 s.a.val, .bool s.b.named, .int .i64 s.b.val, .int .i64 (Lk.settle bd s.next), .int .i64 s.els]) := by show stCells _ = _; unfold Lk.linkOne; rw [if_neg (by omega)]; rfl
            have h4' : ((s.kind : Int) == 4) = false := by simp; omega
            have h5' : ((s.kind : Int) == 5) = false := by simp; omega
            clear hm h4 h5
            go_wp2_with (first
              | (go_at_call 45; refine (settle_pos bd b gb cp _ _ ?_ ?_ ?_ hbl).mono ?_; exact cell_alloc ((Hnx.out.cell (by exact hb)).trans H56.out) _; exact fun i hi => cell_alloc ((Hnx.out.cell (by exact hgb)).trans (HK.out i hi)) _; exact fun i hi => cell_alloc ((Hnx.out.cell (by exact hgb)).trans (HN.out i hi)) _; rintro e w' ⟨rfl, rfl⟩)
              | (at_builtin; refine wpList_append_lies _ rfl _ _ 38 rfl w.heap.size 98 t0 _ 10 80 Try.underlying38 ht0 hz0 hz1 hz2 rfl (by omega) _ (linkK bd k).length (flat (linkK bd k)) rfl ((hown.alloc _).alloc _) ⟨wr.heap.size + 1, 0, none⟩ 1 1 [.int .i64 s.kind, .int .i64 s.op, .int .i64 s.slot, .int .i64 s.arr, .bool s.a.named, .int .i64 s.a.val, .bool s.b.named, .int .i64 s.b.val, .int .i64 (Lk.settle bd s.next), .int .i64 s.els] (by simp [go_sem]) rfl (World.news_of_block (cs := #[.int .i64 s.kind, .int .i64 s.op, .int .i64 s.slot, .int .i64 s.arr, .bool s.a.named, .int .i64 s.a.val, .bool s.b.named, .int .i64 s.b.val, .int .i64 (Lk.settle bd s.next), .int .i64 s.els]) (t := 98) (fr := (0, 0)) (by have := heap_alloc_new (wr.alloc (Obj.cells #[.int .i64 s.kind, .int .i64 s.op, .int .i64 s.slot, .int .i64 s.arr, .bool s.a.named, .int .i64 s.a.val, .bool s.b.named, .int .i64 s.b.val, .int .i64 (Lk.settle bd s.next), .int .i64 s.els] 98)) (Obj.cells #[.int .i64 s.kind, .int .i64 s.op, .int .i64 s.slot, .int .i64 s.arr, .bool s.a.named, .int .i64 s.a.val, .bool s.b.named, .int .i64 s.b.val, .int .i64 (Lk.settle bd s.next), .int .i64 s.els] 98); simpa using this)) (by simp [Value.oneCell']) (by omega) (by unfold maxLen; omega) (by omega) (by simp; omega) (wr.heap.size + 2) (by simp) ?_; intro gg cap w1 hown1 hgrow hat hlt1))
            go_roundw
            case rel => exact ⟨k + 1, by omega, by go_num, link_close HL.out HE.out hown1, Below.grown ((Hnx.out.alloc hz _).alloc (by simp; omega) _) hgrow (by simp; omega) (fun q hq => (hown.lt q hq).1)⟩
            case measure => simp [intOf]; omega
    · have hke : k = bd.length := by omega
      have HL : Hid (linkK bd k = Lk.link bd) := by rw [hke]; exact linkK_full bd
      clear hke
      go_wp2
      go_ret
      exact ⟨_, rfl, by rw [← show linkK bd k = _ from HL.out]; exact hown, hnx⟩

set_option maxHeartbeats 400000 in
theorem link_nil (b cp : Nat) (ad : Option Addr) (w : World) (hc56 : w.cell? ⟨b, 56, none⟩ = some (.slice ad 0 cp)) :
    Calls Try.prog 21 #[.pointer (some ⟨b, 0, none⟩)] w fun e w' => e = .returned (.slice none 0 0) ∧ w' = w := by
  go_enter Try.func21, Try.ntmps21
  go_wp2
  refine wp_loop_rounds 1 ?_
  rw [rounds_succ]
  go_wp2
  go_ret
  exact ⟨rfl, rfl⟩

theorem link_any (r : Lk.RS) (vs vc vb : Value) (base b : Nat) (w : World) (hr : Rep w base b r vs vc vb) (hbl : r.body.length ≤ 100000) :
    Calls Try.prog 21 #[.pointer (some ⟨b, 0, none⟩)] w fun e w' => ∃ v, e = .returned v ∧ w'.ownsRow w.heap.size 98 10 v (Lk.link r.body).length (flat (Lk.link r.body)) ∧ Below w.heap.size w w' := by
  have hc56 := hr.row.cell (i := 56) (by omega)
  rw [show rcell r vs vc (.slice none 0 0) vb 56 = vb from rfl] at hc56
  by_cases h0 : r.body.length = 0
  · obtain ⟨ad, cp, hv⟩ := body_val hr.bod
    rw [hv, h0] at hc56
    refine (link_nil b cp ad w hc56).mono ?_
    rintro e w' ⟨rfl, rfl⟩
    have hb : r.body = [] := List.eq_nil_of_length_eq_zero h0
    rw [hb]
    exact ⟨_, rfl, World.ownsRow_nil _ _ _ _, Below.refl _ _⟩
  · obtain ⟨gb, cp, hv, h1, h2⟩ := hr.bod.form (by omega)
    subst hv
    exact link_pos r.body b gb cp w hc56 (fun i k hi hk => (hr.bod.cellAt (i * 10 + k) (by omega)).trans (flat_get r.body i k hi hk)) hbl hr.lt h2

end Go.Proofs.Ytgddmpmcnjlcjaa

namespace Go.Proofs.Ytgddmpmcnjlcjaa
open Go.RowKit
set_option linter.unusedVariables false

set_option maxRecDepth 100000 in
set_option maxHeartbeats 1000000 in
theorem takeStore_any (r : Lk.RS) (vs vc vb : Value) (base b g cap : Nat) (ws : List ByteArray) (w : World) (hr : Rep w base b r vs vc vb) (hw : Wds w g ws) (hbl : r.body.length ≤ 100000) :
    Calls Try.prog 39 #[.pointer (some ⟨b, 0, none⟩), .slice (some ⟨g, 0, none⟩) ws.length cap] w fun e w' =>
      e = .returned (.bool (Lk.takeStore r (ws.map ByteArray.toList)).isSome) ∧ Took w w' base b (Lk.takeStore r (ws.map ByteArray.toList)) := by
  have hlt := hr.lt
  by_cases hl : ws.length = 4
  · have hc1 := hw 1 (by omega)
    have hc2 := hw 2 (by omega)
    have hc3 := hw 3 (by omega)
    have hg : g < w.heap.size := World.block_lt_of_cell? w _ hc1
    generalize hq1 : ws.getD 1 ByteArray.empty = q1 at hc1
    generalize hq2 : ws.getD 2 ByteArray.empty = q2 at hc2
    generalize hq3 : ws.getD 3 ByteArray.empty = q3 at hc3
    obtain ⟨p, pq, hf1⟩ : ∃ p pq, Lk.find r q1.toList = (p, pq) := ⟨_, _, rfl⟩
    obtain ⟨o2, ha2⟩ : ∃ o, Lk.atom? r q2.toList = o := ⟨_, rfl⟩
    obtain ⟨o3, ha3⟩ : ∃ o, Lk.atom? r q3.toList = o := ⟨_, rfl⟩
    have hS : Lk.takeStore r (ws.map ByteArray.toList) = if p = 2 then (match o2, o3 with | some x, some y => Lk.add r { kind := 2, arr := pq, a := x, b := y } | _, _ => none) else none := by
      unfold Lk.takeStore; rw [wd_map, wd_map, wd_map, hq1, hq2, hq3, hf1, ha2, ha3]; simp [hl]; rfl
    rw [hS, hl]
    clear hq1 hq2 hq3 hw hl hS
    have HR : Hid (Rep w base b r vs vc vb) := hr
    have Hf1 : Hid (Lk.find r q1.toList = (p, pq)) := hf1
    have Ha2 : Hid (Lk.atom? r q2.toList = o2) := ha2
    have Ha3 : Hid (Lk.atom? r q3.toList = o3) := ha3
    clear hr hf1 ha2 ha3
    by_cases hp : p = 2
    · have hp' : ((p : Int) != 2) = false := by simp; omega
      rw [if_pos hp]
      clear hp
      cases o2 with
      | none =>
        go_enter Try.func39, Try.ntmps39
        go_wp2_with (first
          | (go_at_call_of 58 (Value.string q1); refine (find_out r vs vc (.slice none 0 0) vb b _ _ ?_ p pq Hf1.out).mono ?_; exact HR.out.row; rintro e w1 ⟨rfl, hb1⟩; have k2 := fun o => cell_alloc (cell_later hb1 hc2) o; have k3 := cell_later hb1 hc3; have z1 := hb1.size)
          | (go_at_call_of 59 (Value.string q2); refine (atom_none r vs vc (.slice none 0 0) vb b _ _ ?_ Ha2.out).mono ?_; exact ((HR.out.below hb1).alloc _).row; rintro e w2 ⟨rfl, hb2⟩; have l3 := fun o => cell_alloc (cell_later hb2 (cell_alloc k3 _)) o; have z2 := hb2.size; simp at z2)
          | (go_at_call_of 59 (Value.string q3); refine (atom_opt r vs vc (.slice none 0 0) vb b _ _ ?_ o3 Ha3.out).mono ?_; exact ((((HR.out.below hb1).alloc _).below hb2).alloc _).row; rintro e w3 ⟨rfl, hb3⟩; have t0 := fun o => cell_alloc (cell_later hb3 (cell_alloc (cell_later hb2 (newAt w1 #[.int .i64 p, .int .i64 pq] 63 0 _ rfl)) _)) o; have t1 := fun o => cell_alloc (cell_later hb3 (cell_alloc (cell_later hb2 (newAt w1 #[.int .i64 p, .int .i64 pq] 63 1 _ rfl)) _)) o; have u0 := fun o => cell_alloc (cell_later hb3 (newAt w2 #[.bool false, .int .i64 0] 96 0 _ rfl)) o; have u1 := fun o => cell_alloc (cell_later hb3 (newAt w2 #[.bool false, .int .i64 0] 96 1 _ rfl)) o; have z3 := hb3.size; simp at z3))
        go_ret
        exact took_none rfl ((((((hb1.mono HR.out.baseLe).alloc (by have := HR.out.baseLe; omega) _).trans (hb2.mono (by have := HR.out.baseLe; simp; omega))).alloc (by have := HR.out.baseLe; omega) _).trans (hb3.mono (by have := HR.out.baseLe; simp; omega))).alloc (by have := HR.out.baseLe; omega) _)
      | some x =>
        cases o3 with
        | none =>
          go_enter Try.func39, Try.ntmps39
          go_wp2_with (first
            | (go_at_call_of 58 (Value.string q1); refine (find_out r vs vc (.slice none 0 0) vb b _ _ ?_ p pq Hf1.out).mono ?_; exact HR.out.row; rintro e w1 ⟨rfl, hb1⟩; have k2 := fun o => cell_alloc (cell_later hb1 hc2) o; have k3 := cell_later hb1 hc3; have z1 := hb1.size)
            | (go_at_call_of 59 (Value.string q2); refine (atom_some r vs vc (.slice none 0 0) vb b _ _ ?_ x Ha2.out).mono ?_; exact ((HR.out.below hb1).alloc _).row; rintro e w2 ⟨rfl, hb2⟩; have l3 := fun o => cell_alloc (cell_later hb2 (cell_alloc k3 _)) o; have z2 := hb2.size; simp at z2)
            | (go_at_call_of 59 (Value.string q3); refine (atom_none r vs vc (.slice none 0 0) vb b _ _ ?_ Ha3.out).mono ?_; exact ((((HR.out.below hb1).alloc _).below hb2).alloc _).row; rintro e w3 ⟨rfl, hb3⟩; have t0 := fun o => cell_alloc (cell_later hb3 (cell_alloc (cell_later hb2 (newAt w1 #[.int .i64 p, .int .i64 pq] 63 0 _ rfl)) _)) o; have t1 := fun o => cell_alloc (cell_later hb3 (cell_alloc (cell_later hb2 (newAt w1 #[.int .i64 p, .int .i64 pq] 63 1 _ rfl)) _)) o; have u0 := fun o => cell_alloc (cell_later hb3 (newAt w2 #[.bool x.named, .int .i64 x.val] 96 0 _ rfl)) o; have u1 := fun o => cell_alloc (cell_later hb3 (newAt w2 #[.bool x.named, .int .i64 x.val] 96 1 _ rfl)) o; have z3 := hb3.size; simp at z3))
          go_ret
          exact took_none rfl ((((((hb1.mono HR.out.baseLe).alloc (by have := HR.out.baseLe; omega) _).trans (hb2.mono (by have := HR.out.baseLe; simp; omega))).alloc (by have := HR.out.baseLe; omega) _).trans (hb3.mono (by have := HR.out.baseLe; simp; omega))).alloc (by have := HR.out.baseLe; omega) _)
        | some y =>
          go_enter Try.func39, Try.ntmps39
          go_wp2_with (first
            | (go_at_call_of 58 (Value.string q1); refine (find_out r vs vc (.slice none 0 0) vb b _ _ ?_ p pq Hf1.out).mono ?_; exact HR.out.row; rintro e w1 ⟨rfl, hb1⟩; have k2 := fun o => cell_alloc (cell_later hb1 hc2) o; have k3 := cell_later hb1 hc3; have z1 := hb1.size)
            | (go_at_call_of 59 (Value.string q2); refine (atom_some r vs vc (.slice none 0 0) vb b _ _ ?_ x Ha2.out).mono ?_; exact ((HR.out.below hb1).alloc _).row; rintro e w2 ⟨rfl, hb2⟩; have l3 := fun o => cell_alloc (cell_later hb2 (cell_alloc k3 _)) o; have z2 := hb2.size; simp at z2)
            | (go_at_call_of 59 (Value.string q3); refine (atom_some r vs vc (.slice none 0 0) vb b _ _ ?_ y Ha3.out).mono ?_; exact ((((HR.out.below hb1).alloc _).below hb2).alloc _).row; rintro e w3 ⟨rfl, hb3⟩; have t0 := fun o => cell_alloc (cell_later hb3 (cell_alloc (cell_later hb2 (newAt w1 #[.int .i64 p, .int .i64 pq] 63 0 _ rfl)) _)) o; have t1 := fun o => cell_alloc (cell_later hb3 (cell_alloc (cell_later hb2 (newAt w1 #[.int .i64 p, .int .i64 pq] 63 1 _ rfl)) _)) o; have u0 := fun o => cell_alloc (cell_later hb3 (newAt w2 #[.bool x.named, .int .i64 x.val] 96 0 _ rfl)) o; have u1 := fun o => cell_alloc (cell_later hb3 (newAt w2 #[.bool x.named, .int .i64 x.val] 96 1 _ rfl)) o; have z3 := hb3.size; simp at z3)
            | (go_at_call 60; refine (add_took r { kind := 2, arr := pq, a := x, b := y } vs vc vb base b _ ?_ hbl _ _ _ _ _ _ _ _ _ _ ?_).mono ?_; exact ((((((HR.out.below hb1).alloc _).below hb2).alloc _).below hb3).alloc _); rfl; rintro e w4 ⟨rfl, T⟩))
          go_ret
          exact ⟨rfl, T.after ((((((hb1.mono HR.out.baseLe).alloc (by have := HR.out.baseLe; omega) _).trans (hb2.mono (by have := HR.out.baseLe; simp; omega))).alloc (by have := HR.out.baseLe; omega) _).trans (hb3.mono (by have := HR.out.baseLe; simp; omega))).alloc (by have := HR.out.baseLe; omega) _)⟩
    · have hp' : ((p : Int) != 2) = true := by simp; omega
      rw [if_neg hp]
      clear hp
      go_enter Try.func39, Try.ntmps39
      go_wp2_with (first
        | (go_at_call_of 58 (Value.string q1); refine (find_out r vs vc (.slice none 0 0) vb b _ _ ?_ p pq Hf1.out).mono ?_; exact HR.out.row; rintro e w1 ⟨rfl, hb1⟩; have k2 := fun o => cell_alloc (cell_later hb1 hc2) o; have k3 := cell_later hb1 hc3; have z1 := hb1.size)
        | (go_at_call_of 59 (Value.string q2); refine (atom_opt r vs vc (.slice none 0 0) vb b _ _ ?_ o2 Ha2.out).mono ?_; exact ((HR.out.below hb1).alloc _).row; rintro e w2 ⟨rfl, hb2⟩; have l3 := fun o => cell_alloc (cell_later hb2 (cell_alloc k3 _)) o; have z2 := hb2.size; simp at z2)
        | (go_at_call_of 59 (Value.string q3); refine (atom_opt r vs vc (.slice none 0 0) vb b _ _ ?_ o3 Ha3.out).mono ?_; exact ((((HR.out.below hb1).alloc _).below hb2).alloc _).row; rintro e w3 ⟨rfl, hb3⟩; have t0 := fun o => cell_alloc (cell_later hb3 (cell_alloc (cell_later hb2 (newAt w1 #[.int .i64 p, .int .i64 pq] 63 0 _ rfl)) _)) o; have t1 := fun o => cell_alloc (cell_later hb3 (cell_alloc (cell_later hb2 (newAt w1 #[.int .i64 p, .int .i64 pq] 63 1 _ rfl)) _)) o; have u0 := fun o => cell_alloc (cell_later hb3 (newAt w2 #[.bool (o2.getD {}).named, .int .i64 (o2.getD {}).val] 96 0 _ rfl)) o; have u1 := fun o => cell_alloc (cell_later hb3 (newAt w2 #[.bool (o2.getD {}).named, .int .i64 (o2.getD {}).val] 96 1 _ rfl)) o; have z3 := hb3.size; simp at z3))
      go_ret
      exact took_none rfl ((((((hb1.mono HR.out.baseLe).alloc (by have := HR.out.baseLe; omega) _).trans (hb2.mono (by have := HR.out.baseLe; simp; omega))).alloc (by have := HR.out.baseLe; omega) _).trans (hb3.mono (by have := HR.out.baseLe; simp; omega))).alloc (by have := HR.out.baseLe; omega) _)
  · have hS : Lk.takeStore r (ws.map ByteArray.toList) = none := by
      unfold Lk.takeStore; rw [if_neg (by simp; omega)]
    have hl4' : ((ws.length : Int) != 4) = true := by simp; omega
    clear hw hl
    generalize ws.length = n at hl4'
    go_enter Try.func39, Try.ntmps39
    go_wp2_with fail
    go_ret
    exact took_none hS (Below.refl _ _)

theorem operation_some (s : ByteArray) (w : World) (n : Nat) (h : Lk.oper? s.toList = some n) :
    Calls Try.prog 61 #[.string s] w fun e w' => e = .returned (.int .i64 n) ∧ w' = w := by
  rw [← intO_some h]; exact operation_any s w
theorem operation_none (s : ByteArray) (w : World) (h : Lk.oper? s.toList = none) :
    Calls Try.prog 61 #[.string s] w fun e w' => e = .returned (.int .i64 (-1)) ∧ w' = w := by
  rw [← intO_none h]; exact operation_any s w

set_option maxRecDepth 100000 in
set_option maxHeartbeats 1000000 in
theorem takeAssign_any (r : Lk.RS) (vs vc vb : Value) (base b g cap : Nat) (ws : List ByteArray) (w : World) (hr : Rep w base b r vs vc vb) (hw : Wds w g ws) (hbl : r.body.length ≤ 100000) :
    Calls Try.prog 44 #[.pointer (some ⟨b, 0, none⟩), .slice (some ⟨g, 0, none⟩) ws.length cap] w fun e w' =>
      e = .returned (.bool (Lk.takeAssign r (ws.map ByteArray.toList)).isSome) ∧ Took w w' base b (Lk.takeAssign r (ws.map ByteArray.toList)) := by
  have hlt := hr.lt
  by_cases hl : ws.length = 3
  · have hc0 := hw 0 (by omega)
    have hc1 := hw 1 (by omega)
    have hc2 := hw 2 (by omega)
    have hg : g < w.heap.size := World.block_lt_of_cell? w _ hc0
    generalize hq0 : ws.getD 0 ByteArray.empty = q0 at hc0
    generalize hq1 : ws.getD 1 ByteArray.empty = q1 at hc1
    generalize hq2 : ws.getD 2 ByteArray.empty = q2 at hc2
    obtain ⟨p, pq, hf0⟩ : ∃ p pq, Lk.find r q0.toList = (p, pq) := ⟨_, _, rfl⟩
    obtain ⟨o2, ha2⟩ : ∃ o, Lk.atom? r q2.toList = o := ⟨_, rfl⟩
    have hS : Lk.takeAssign r (ws.map ByteArray.toList) = if (q1.toList == [61]) = true ∧ p = 1 then (match o2 with | some x => Lk.add r { kind := 0, op := 0, slot := pq, a := x } | none => none) else none := by
      unfold Lk.takeAssign; simp only [wd_map, hq0, hq1, hq2, hf0, ha2]; simp [hl]
      first | rfl | (cases o2 <;> rfl)
    rw [hS, hl]
    clear hq0 hq1 hq2 hw hl hS
    have HR : Hid (Rep w base b r vs vc vb) := hr
    have Hf0 : Hid (Lk.find r q0.toList = (p, pq)) := hf0
    have Ha2 : Hid (Lk.atom? r q2.toList = o2) := ha2
    clear hr hf0 ha2
    cases he : (q1.toList == [61]) with
    | false =>
      rw [if_neg (by simp)]
      go_enter Try.func44, Try.ntmps44
      go_wp2_with fail
      go_ret
      exact took_none rfl (Below.refl _ _)
    | true =>
      by_cases hp : p = 1
      · have hp' : ((p : Int) != 1) = false := by simp; omega
        rw [if_pos ⟨rfl, hp⟩]
        clear hp
        cases o2 with
        | none =>
          go_enter Try.func44, Try.ntmps44
          go_wp2_with (first
            | (go_at_call_of 58 (Value.string q0); refine (find_out r vs vc (.slice none 0 0) vb b _ _ ?_ p pq Hf0.out).mono ?_; exact HR.out.row; rintro e w1 ⟨rfl, hb1⟩; have k2 := fun o => cell_alloc (cell_later hb1 hc2) o; have z1 := hb1.size)
            | (go_at_call_of 59 (Value.string q2); refine (atom_none r vs vc (.slice none 0 0) vb b _ _ ?_ Ha2.out).mono ?_; exact ((HR.out.below hb1).alloc _).row; rintro e w2 ⟨rfl, hb2⟩; have t0 := fun o => cell_alloc (cell_later hb2 (newAt w1 #[.int .i64 p, .int .i64 pq] 63 0 _ rfl)) o; have t1 := fun o => cell_alloc (cell_later hb2 (newAt w1 #[.int .i64 p, .int .i64 pq] 63 1 _ rfl)) o; have z2 := hb2.size; simp at z2))
          go_ret
          exact took_none rfl ((((hb1.mono HR.out.baseLe).alloc (by have := HR.out.baseLe; omega) _).trans (hb2.mono (by have := HR.out.baseLe; simp; omega))).alloc (by have := HR.out.baseLe; omega) _)
        | some x =>
          go_enter Try.func44, Try.ntmps44
          go_wp2_with (first
            | (go_at_call_of 58 (Value.string q0); refine (find_out r vs vc (.slice none 0 0) vb b _ _ ?_ p pq Hf0.out).mono ?_; exact HR.out.row; rintro e w1 ⟨rfl, hb1⟩; have k2 := fun o => cell_alloc (cell_later hb1 hc2) o; have z1 := hb1.size)
            | (go_at_call_of 59 (Value.string q2); refine (atom_some r vs vc (.slice none 0 0) vb b _ _ ?_ x Ha2.out).mono ?_; exact ((HR.out.below hb1).alloc _).row; rintro e w2 ⟨rfl, hb2⟩; have t0 := fun o => cell_alloc (cell_later hb2 (newAt w1 #[.int .i64 p, .int .i64 pq] 63 0 _ rfl)) o; have t1 := fun o => cell_alloc (cell_later hb2 (newAt w1 #[.int .i64 p, .int .i64 pq] 63 1 _ rfl)) o; have z2 := hb2.size; simp at z2)
            | (go_at_call 60; refine (add_took r { kind := 0, op := 0, slot := pq, a := x } vs vc vb base b _ ?_ hbl _ _ _ _ _ _ _ _ _ _ ?_).mono ?_; exact ((((HR.out.below hb1).alloc _).below hb2).alloc _); rfl; rintro e w4 ⟨rfl, T⟩))
          go_ret
          exact ⟨rfl, T.after ((((hb1.mono HR.out.baseLe).alloc (by have := HR.out.baseLe; omega) _).trans (hb2.mono (by have := HR.out.baseLe; simp; omega))).alloc (by have := HR.out.baseLe; omega) _)⟩
      · have hp' : ((p : Int) != 1) = true := by simp; omega
        rw [if_neg (fun h => hp h.2)]
        clear hp
        go_enter Try.func44, Try.ntmps44
        go_wp2_with (first
          | (go_at_call_of 58 (Value.string q0); refine (find_out r vs vc (.slice none 0 0) vb b _ _ ?_ p pq Hf0.out).mono ?_; exact HR.out.row; rintro e w1 ⟨rfl, hb1⟩; have k2 := fun o => cell_alloc (cell_later hb1 hc2) o; have z1 := hb1.size)
          | (go_at_call_of 59 (Value.string q2); refine (atom_opt r vs vc (.slice none 0 0) vb b _ _ ?_ o2 Ha2.out).mono ?_; exact ((HR.out.below hb1).alloc _).row; rintro e w2 ⟨rfl, hb2⟩; have t0 := fun o => cell_alloc (cell_later hb2 (newAt w1 #[.int .i64 p, .int .i64 pq] 63 0 _ rfl)) o; have t1 := fun o => cell_alloc (cell_later hb2 (newAt w1 #[.int .i64 p, .int .i64 pq] 63 1 _ rfl)) o; have z2 := hb2.size; simp at z2))
        go_ret
        exact took_none rfl ((((hb1.mono HR.out.baseLe).alloc (by have := HR.out.baseLe; omega) _).trans (hb2.mono (by have := HR.out.baseLe; simp; omega))).alloc (by have := HR.out.baseLe; omega) _)
  · by_cases hl5 : ws.length = 5
    · have hc0 := hw 0 (by omega)
      have hc1 := hw 1 (by omega)
      have hc2 := hw 2 (by omega)
      have hc3 := hw 3 (by omega)
      have hc4 := hw 4 (by omega)
      have hg : g < w.heap.size := World.block_lt_of_cell? w _ hc0
      generalize hq0 : ws.getD 0 ByteArray.empty = q0 at hc0
      generalize hq1 : ws.getD 1 ByteArray.empty = q1 at hc1
      generalize hq2 : ws.getD 2 ByteArray.empty = q2 at hc2
      generalize hq3 : ws.getD 3 ByteArray.empty = q3 at hc3
      generalize hq4 : ws.getD 4 ByteArray.empty = q4 at hc4
      obtain ⟨p, pq, hf0⟩ : ∃ p pq, Lk.find r q0.toList = (p, pq) := ⟨_, _, rfl⟩
      obtain ⟨o2, ha2⟩ : ∃ o, Lk.atom? r q2.toList = o := ⟨_, rfl⟩
      obtain ⟨ow, ho⟩ : ∃ o, Lk.oper? q3.toList = o := ⟨_, rfl⟩
      obtain ⟨o4, ha4⟩ : ∃ o, Lk.atom? r q4.toList = o := ⟨_, rfl⟩
      have hS : Lk.takeAssign r (ws.map ByteArray.toList) = if (q1.toList == [61]) = true ∧ p = 1 then (match o2 with | some x => (match ow, o4 with | some oo, some y => Lk.add r { kind := 0, op := oo, slot := pq, a := x, b := y } | _, _ => none) | none => none) else none := by
        unfold Lk.takeAssign; simp only [wd_map, hq0, hq1, hq2, hq3, hq4, ho, ha4, hf0, ha2]; simp [hl5]
        first | rfl | (cases o2 <;> cases ow <;> cases o4 <;> rfl)
      rw [hS, hl5]
      clear hq0 hq1 hq2 hq3 hq4 hw hl hl5 hS
      have HR : Hid (Rep w base b r vs vc vb) := hr
      have Hf0 : Hid (Lk.find r q0.toList = (p, pq)) := hf0
      have Ha2 : Hid (Lk.atom? r q2.toList = o2) := ha2
      have Ho : Hid (Lk.oper? q3.toList = ow) := ho
      have Ha4 : Hid (Lk.atom? r q4.toList = o4) := ha4
      clear ho ha4
      clear hr hf0 ha2
      cases he : (q1.toList == [61]) with
      | false =>
        rw [if_neg (by simp)]
        go_enter Try.func44, Try.ntmps44
        go_wp2_with fail
        go_ret
        exact took_none rfl (Below.refl _ _)
      | true =>
        by_cases hp : p = 1
        · have hp' : ((p : Int) != 1) = false := by simp; omega
          rw [if_pos ⟨rfl, hp⟩]
          clear hp
          cases o2 with
          | none =>
            go_enter Try.func44, Try.ntmps44
            go_wp2_with (first
              | (go_at_call_of 58 (Value.string q0); refine (find_out r vs vc (.slice none 0 0) vb b _ _ ?_ p pq Hf0.out).mono ?_; exact HR.out.row; rintro e w1 ⟨rfl, hb1⟩; have k2 := fun o => cell_alloc (cell_later hb1 hc2) o; have k3 := cell_later hb1 hc3; have k4 := cell_later hb1 hc4; have z1 := hb1.size)
              | (go_at_call_of 59 (Value.string q2); refine (atom_none r vs vc (.slice none 0 0) vb b _ _ ?_ Ha2.out).mono ?_; exact ((HR.out.below hb1).alloc _).row; rintro e w2 ⟨rfl, hb2⟩; have t0 := fun o => cell_alloc (cell_later hb2 (newAt w1 #[.int .i64 p, .int .i64 pq] 63 0 _ rfl)) o; have t1 := fun o => cell_alloc (cell_later hb2 (newAt w1 #[.int .i64 p, .int .i64 pq] 63 1 _ rfl)) o; have z2 := hb2.size; simp at z2; have l3 := fun o => cell_alloc (cell_later hb2 (cell_alloc k3 _)) o; have l4 := fun o => cell_alloc (cell_later hb2 (cell_alloc k4 _)) o))
            go_ret
            exact took_none rfl ((((hb1.mono HR.out.baseLe).alloc (by have := HR.out.baseLe; omega) _).trans (hb2.mono (by have := HR.out.baseLe; simp; omega))).alloc (by have := HR.out.baseLe; omega) _)
          | some x =>
            cases ow with
            | none =>
              go_enter Try.func44, Try.ntmps44
              go_wp2_with (first
                | (go_at_call_of 58 (Value.string q0); refine (find_out r vs vc (.slice none 0 0) vb b _ _ ?_ p pq Hf0.out).mono ?_; exact HR.out.row; rintro e w1 ⟨rfl, hb1⟩; have k2 := fun o => cell_alloc (cell_later hb1 hc2) o; have k3 := cell_later hb1 hc3; have k4 := cell_later hb1 hc4; have z1 := hb1.size)
                | (go_at_call_of 59 (Value.string q2); refine (atom_some r vs vc (.slice none 0 0) vb b _ _ ?_ x Ha2.out).mono ?_; exact ((HR.out.below hb1).alloc _).row; rintro e w2 ⟨rfl, hb2⟩; have t0 := fun o => cell_alloc (cell_later hb2 (newAt w1 #[.int .i64 p, .int .i64 pq] 63 0 _ rfl)) o; have t1 := fun o => cell_alloc (cell_later hb2 (newAt w1 #[.int .i64 p, .int .i64 pq] 63 1 _ rfl)) o; have z2 := hb2.size; simp at z2; have l3 := fun o => cell_alloc (cell_later hb2 (cell_alloc k3 _)) o; have l4 := fun o => cell_alloc (cell_later hb2 (cell_alloc k4 _)) o)
                | (go_at_call 61; refine (operation_none _ _ Ho.out).mono ?_; rintro e w9 ⟨rfl, rfl⟩)
                | (go_at_call_of 59 (Value.string q4); refine (atom_opt r vs vc (.slice none 0 0) vb b _ _ ?_ o4 Ha4.out).mono ?_; exact ((((HR.out.below hb1).alloc _).below hb2).alloc _).row; rintro e w3 ⟨rfl, hb3⟩; have m0 := fun o => cell_alloc (cell_later hb3 (t0 _)) o; have m1 := fun o => cell_alloc (cell_later hb3 (t1 _)) o; have u0 := fun o => cell_alloc (cell_later hb3 (newAt w2 #[.bool x.named, .int .i64 x.val] 96 0 _ rfl)) o; have u1 := fun o => cell_alloc (cell_later hb3 (newAt w2 #[.bool x.named, .int .i64 x.val] 96 1 _ rfl)) o; have z3 := hb3.size; simp at z3))
              go_ret
              exact took_none rfl ((((((hb1.mono HR.out.baseLe).alloc (by have := HR.out.baseLe; omega) _).trans (hb2.mono (by have := HR.out.baseLe; simp; omega))).alloc (by have := HR.out.baseLe; omega) _).trans (hb3.mono (by have := HR.out.baseLe; simp; omega))).alloc (by have := HR.out.baseLe; omega) _)
            | some oo =>
              have ho0 : (0 : Int) ≤ (oo : Int) := by omega
              cases o4 with
              | none =>
                go_enter Try.func44, Try.ntmps44
                go_wp2_with (first
                  | (go_at_call_of 58 (Value.string q0); refine (find_out r vs vc (.slice none 0 0) vb b _ _ ?_ p pq Hf0.out).mono ?_; exact HR.out.row; rintro e w1 ⟨rfl, hb1⟩; have k2 := fun o => cell_alloc (cell_later hb1 hc2) o; have k3 := cell_later hb1 hc3; have k4 := cell_later hb1 hc4; have z1 := hb1.size)
                  | (go_at_call_of 59 (Value.string q2); refine (atom_some r vs vc (.slice none 0 0) vb b _ _ ?_ x Ha2.out).mono ?_; exact ((HR.out.below hb1).alloc _).row; rintro e w2 ⟨rfl, hb2⟩; have t0 := fun o => cell_alloc (cell_later hb2 (newAt w1 #[.int .i64 p, .int .i64 pq] 63 0 _ rfl)) o; have t1 := fun o => cell_alloc (cell_later hb2 (newAt w1 #[.int .i64 p, .int .i64 pq] 63 1 _ rfl)) o; have z2 := hb2.size; simp at z2; have l3 := fun o => cell_alloc (cell_later hb2 (cell_alloc k3 _)) o; have l4 := fun o => cell_alloc (cell_later hb2 (cell_alloc k4 _)) o)
                  | (go_at_call 61; refine (operation_some _ _ oo Ho.out).mono ?_; rintro e w9 ⟨rfl, rfl⟩)
                  | (go_at_call_of 59 (Value.string q4); refine (atom_none r vs vc (.slice none 0 0) vb b _ _ ?_ Ha4.out).mono ?_; exact ((((HR.out.below hb1).alloc _).below hb2).alloc _).row; rintro e w3 ⟨rfl, hb3⟩; have m0 := fun o => cell_alloc (cell_later hb3 (t0 _)) o; have m1 := fun o => cell_alloc (cell_later hb3 (t1 _)) o; have u0 := fun o => cell_alloc (cell_later hb3 (newAt w2 #[.bool x.named, .int .i64 x.val] 96 0 _ rfl)) o; have u1 := fun o => cell_alloc (cell_later hb3 (newAt w2 #[.bool x.named, .int .i64 x.val] 96 1 _ rfl)) o; have z3 := hb3.size; simp at z3))
                go_ret
                exact took_none rfl ((((((hb1.mono HR.out.baseLe).alloc (by have := HR.out.baseLe; omega) _).trans (hb2.mono (by have := HR.out.baseLe; simp; omega))).alloc (by have := HR.out.baseLe; omega) _).trans (hb3.mono (by have := HR.out.baseLe; simp; omega))).alloc (by have := HR.out.baseLe; omega) _)
              | some y =>
                go_enter Try.func44, Try.ntmps44
                go_wp2_with (first
                  | (go_at_call_of 58 (Value.string q0); refine (find_out r vs vc (.slice none 0 0) vb b _ _ ?_ p pq Hf0.out).mono ?_; exact HR.out.row; rintro e w1 ⟨rfl, hb1⟩; have k2 := fun o => cell_alloc (cell_later hb1 hc2) o; have k3 := cell_later hb1 hc3; have k4 := cell_later hb1 hc4; have z1 := hb1.size)
                  | (go_at_call_of 59 (Value.string q2); refine (atom_some r vs vc (.slice none 0 0) vb b _ _ ?_ x Ha2.out).mono ?_; exact ((HR.out.below hb1).alloc _).row; rintro e w2 ⟨rfl, hb2⟩; have t0 := fun o => cell_alloc (cell_later hb2 (newAt w1 #[.int .i64 p, .int .i64 pq] 63 0 _ rfl)) o; have t1 := fun o => cell_alloc (cell_later hb2 (newAt w1 #[.int .i64 p, .int .i64 pq] 63 1 _ rfl)) o; have z2 := hb2.size; simp at z2; have l3 := fun o => cell_alloc (cell_later hb2 (cell_alloc k3 _)) o; have l4 := fun o => cell_alloc (cell_later hb2 (cell_alloc k4 _)) o)
                  | (go_at_call 61; refine (operation_some _ _ oo Ho.out).mono ?_; rintro e w9 ⟨rfl, rfl⟩)
                  | (go_at_call_of 59 (Value.string q4); refine (atom_some r vs vc (.slice none 0 0) vb b _ _ ?_ y Ha4.out).mono ?_; exact ((((HR.out.below hb1).alloc _).below hb2).alloc _).row; rintro e w3 ⟨rfl, hb3⟩; have m0 := fun o => cell_alloc (cell_later hb3 (t0 _)) o; have m1 := fun o => cell_alloc (cell_later hb3 (t1 _)) o; have u0 := fun o => cell_alloc (cell_later hb3 (newAt w2 #[.bool x.named, .int .i64 x.val] 96 0 _ rfl)) o; have u1 := fun o => cell_alloc (cell_later hb3 (newAt w2 #[.bool x.named, .int .i64 x.val] 96 1 _ rfl)) o; have z3 := hb3.size; simp at z3)
                  | (go_at_call 60; refine (add_took r { kind := 0, op := oo, slot := pq, a := x, b := y } vs vc vb base b _ ?_ hbl _ _ _ _ _ _ _ _ _ _ ?_).mono ?_; exact ((((((HR.out.below hb1).alloc _).below hb2).alloc _).below hb3).alloc _); rfl; rintro e w4 ⟨rfl, T⟩))
                go_ret
                exact ⟨rfl, T.after ((((((hb1.mono HR.out.baseLe).alloc (by have := HR.out.baseLe; omega) _).trans (hb2.mono (by have := HR.out.baseLe; simp; omega))).alloc (by have := HR.out.baseLe; omega) _).trans (hb3.mono (by have := HR.out.baseLe; simp; omega))).alloc (by have := HR.out.baseLe; omega) _)⟩
        · have hp' : ((p : Int) != 1) = true := by simp; omega
          rw [if_neg (fun h => hp h.2)]
          clear hp
          go_enter Try.func44, Try.ntmps44
          go_wp2_with (first
            | (go_at_call_of 58 (Value.string q0); refine (find_out r vs vc (.slice none 0 0) vb b _ _ ?_ p pq Hf0.out).mono ?_; exact HR.out.row; rintro e w1 ⟨rfl, hb1⟩; have k2 := fun o => cell_alloc (cell_later hb1 hc2) o; have k3 := cell_later hb1 hc3; have k4 := cell_later hb1 hc4; have z1 := hb1.size)
            | (go_at_call_of 59 (Value.string q2); refine (atom_opt r vs vc (.slice none 0 0) vb b _ _ ?_ o2 Ha2.out).mono ?_; exact ((HR.out.below hb1).alloc _).row; rintro e w2 ⟨rfl, hb2⟩; have t0 := fun o => cell_alloc (cell_later hb2 (newAt w1 #[.int .i64 p, .int .i64 pq] 63 0 _ rfl)) o; have t1 := fun o => cell_alloc (cell_later hb2 (newAt w1 #[.int .i64 p, .int .i64 pq] 63 1 _ rfl)) o; have z2 := hb2.size; simp at z2; have l3 := fun o => cell_alloc (cell_later hb2 (cell_alloc k3 _)) o; have l4 := fun o => cell_alloc (cell_later hb2 (cell_alloc k4 _)) o))
          go_ret
          exact took_none rfl ((((hb1.mono HR.out.baseLe).alloc (by have := HR.out.baseLe; omega) _).trans (hb2.mono (by have := HR.out.baseLe; simp; omega))).alloc (by have := HR.out.baseLe; omega) _)
    · have hS : Lk.takeAssign r (ws.map ByteArray.toList) = none := by
        unfold Lk.takeAssign; rw [if_neg (by simp; omega)]
      have hl3' : ((ws.length : Int) != 3) = true := by simp; omega
      have hl5' : ((ws.length : Int) != 5) = true := by simp; omega
      clear hw hl hl5
      generalize ws.length = n at hl3' hl5'
      go_enter Try.func44, Try.ntmps44
      go_wp2_with fail
      go_ret
      exact took_none hS (Below.refl _ _)

end Go.Proofs.Ytgddmpmcnjlcjaa
