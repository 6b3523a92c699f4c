import Derived.Test.YtfnmglfbcpdlnaaB2
import Derived.Deep.RegionLaw
namespace Go.Proofs.Ytfnmglfbcpdlnaa
open Go.RowKit
set_option linter.unusedVariables false

theorem add_close {w W w1 : World} {base b gg cap : Nat} {r : Lk.RS} {vs vc vb : Value} {st : Lk.St} {o : Obj} {i0 i1 i2 i3 i5 i7 i8 i9 : Int} {b4 b6 : Bool}
    (hR : RepF W base b (fun j => if j = 57 then .int .i64 (↑r.stmts + 1) else rcell r vs vc (.slice none 0 0) vb j) r.secret r.cells r.body vs vc vb) (hB : Below base w W)
    (hst : stCells st = [.int .i64 i0, .int .i64 i1, .int .i64 i2, .int .i64 i3, .bool b4, .int .i64 i5, .bool b6, .int .i64 i7, .int .i64 i8, .int .i64 i9])
    (hown : w1.ownsRow base 127 10 (.slice (some ⟨gg, 0, none⟩) (r.body.length + 1) cap) (r.body.length + 1) (flat r.body ++ [.int .i64 i0, .int .i64 i1, .int .i64 i2, .int .i64 i3, .bool b4, .int .i64 i5, .bool b6, .int .i64 i7, .int .i64 (↑r.body.length + 1), .int .i64 i9]))
    (hg : (W.alloc o).drew.grownBy w1 vb.ownBlock) (hat : vb.ownBlock = some gg ∨ gg = w.heap.size + 2) (hsz : W.heap.size = w.heap.size + 1) :
    (∃ vb', Rep (w1.setCell ⟨b, 56, none⟩ (.slice (some ⟨gg, 0, none⟩) (r.body.length + 1) cap)) base b { r with stmts := r.stmts + 1, body := r.body ++ [{ st with next := r.body.length + 1 }] } vs vc vb') ∧ Below base w (w1.setCell ⟨b, 56, none⟩ (.slice (some ⟨gg, 0, none⟩) (r.body.length + 1) cap)) := by
  have hX := (hR.alloc o).drew
  have hst2 : stCells { st with next := r.body.length + 1 } = [.int .i64 i0, .int .i64 i1, .int .i64 i2, .int .i64 i3, .bool b4, .int .i64 i5, .bool b6, .int .i64 i7, .int .i64 (↑r.body.length + 1), .int .i64 i9] := by
    simp [stCells] at hst ⊢
    simp [hst]
  have hB1 : base ≤ (W.alloc o).drew.heap.size := hX.baseLe
  refine ⟨⟨_, ((hX.growBody (bod' := r.body ++ [{ st with next := r.body.length + 1 }]) hg (by rw [flat_snoc, hst2]; simpa using hown) (by simpa [hsz] using hat)).put 56 _).congr (fun j hj => rcell_add r vs vc _ vb _ _ j hj)⟩, ?_⟩
  refine (Below.grown ((hB.alloc (by have := hR.baseLe; exact this) o).drew) hg hB1 ?_).setCell hR.ge _
  intro k hk
  exact (hR.bod.lt k hk).1

set_option maxRecDepth 100000 in
set_option maxHeartbeats 1000000 in
theorem add_some (r : Lk.RS) (st : Lk.St) (vs vc vb : Value) (base b : Nat) (w : World) (hr : Rep w base b r vs vc vb) (hn : r.stmts < 12) (hbl : r.body.length ≤ 100000) (i0 i1 i2 i3 i5 i7 i8 i9 : Int) (b4 b6 : Bool)
    (hst : stCells st = [.int .i64 i0, .int .i64 i1, .int .i64 i2, .int .i64 i3, .bool b4, .int .i64 i5, .bool b6, .int .i64 i7, .int .i64 i8, .int .i64 i9]) :
    Calls Try.prog 97 #[.pointer (some ⟨b, 0, none⟩), .agg #[.int .i64 i0, .int .i64 i1, .int .i64 i2, .int .i64 i3, .bool b4, .int .i64 i5, .bool b6, .int .i64 i7, .int .i64 i8, .int .i64 i9]] w fun e w' =>
      e = .returned (.bool true) ∧ (∃ vb', Rep w' base b { r with stmts := r.stmts + 1, body := r.body ++ [{ st with next := r.body.length + 1 }] } vs vc vb') ∧ Below base w w' := by
  obtain ⟨t0, ht0, hz0, hz1, hz2⟩ := info_parts Try.infoSt
  have hlt := hr.lt
  have hge := hr.ge
  have hba := hr.baseLe
  have hc57 := hr.row.cell (i := 57) (by omega)
  rw [show rcell r vs vc (.slice none 0 0) vb 57 = .int .i64 r.stmts from rfl] at hc57
  have hf57 := hr.row.frozen 57
  have hf56 := hr.row.frozen 56
  have hc56 := hr.row.cell (i := 56) (by omega)
  rw [show rcell r vs vc (.slice none 0 0) vb 56 = vb from rfl] at hc56
  obtain ⟨ad, cp, hvb⟩ := body_val hr.bod
  have HR : Hid (Rep w base b r vs vc vb) := hr
  have hnb := hr.nb
  have hown := hr.bod
  clear hr
  subst hvb
  have hn1 : (r.stmts : Int) < 12 := by omega
  have hl1 : (r.body.length : Int) ≤ 100000 := by omega
  go_enter Try.func97, Try.ntmps97
  go_wp2_with fail
  obtain ⟨W, hW⟩ : ∃ W, W = ((w.setCell ⟨b, 57, none⟩ (.int .i64 (↑r.stmts + 1))).alloc (Obj.cells #[.int .i64 i0, .int .i64 i1, .int .i64 i2, .int .i64 i3, .bool b4, .int .i64 i5, .bool b6, .int .i64 i7, .int .i64 (↑r.body.length + 1), .int .i64 i9] 127)) := ⟨_, rfl⟩
  rw [← hW]
  have HR2 : Hid (RepF W base b (fun j => if j = 57 then .int .i64 (↑r.stmts + 1) else rcell r vs vc (.slice none 0 0) (.slice ad r.body.length cp) j) r.secret r.cells r.body vs vc (.slice ad r.body.length cp)) := by
    rw [hW]; exact (HR.out.put 57 _).alloc _
  have HB2 : Hid (Below base w W) := by rw [hW]; exact ((Below.refl _ _).setCell hge _).alloc (by simpa using hba) _
  have hsz : W.heap.size = w.heap.size + 1 := by rw [hW]; simp
  have blk : W.heap[w.heap.size]? = some (Obj.cells #[.int .i64 i0, .int .i64 i1, .int .i64 i2, .int .i64 i3, .bool b4, .int .i64 i5, .bool b6, .int .i64 i7, .int .i64 (↑r.body.length + 1), .int .i64 i9] 127) := by
    rw [hW]; have := heap_alloc_new (w.setCell ⟨b, 57, none⟩ (.int .i64 (↑r.stmts + 1))) (Obj.cells #[.int .i64 i0, .int .i64 i1, .int .i64 i2, .int .i64 i3, .bool b4, .int .i64 i5, .bool b6, .int .i64 i7, .int .i64 (↑r.body.length + 1), .int .i64 i9] 127); simpa using this
  have cl := fun j u hj => cellAt blk j u hj
  have c0 := cl 0 _ rfl
  have c1 := cl 1 _ rfl
  have c2 := cl 2 _ rfl
  have c3 := cl 3 _ rfl
  have c4 := cl 4 _ rfl
  have c5 := cl 5 _ rfl
  have c6 := cl 6 _ rfl
  have c7 := cl 7 _ rfl
  have c8 := cl 8 _ rfl
  have c9 := cl 9 _ rfl
  have d56 := HR2.out.row.cell (i := 56) (by omega)
  have e56 := HR2.out.row.frozen 56
  have hbW : b < W.heap.size := HR2.out.lt
  have howW := HR2.out.bod
  have hnew : (Value.slice ad r.body.length cp).ownBlock ≠ some w.heap.size := fun e => by have := (hown.lt _ e).2; omega
  simp only [show rcell r vs vc (.slice none 0 0) (.slice ad r.body.length cp) 56 = .slice ad r.body.length cp from rfl, if_neg (show ¬ (56 = 57) by omega)] at d56
  clear hW cl blk hc57 hf57 hf56 hc56 hown HR hn1
  have Hst : Hid _ := hst
  clear hst
  go_region_law
    ((refine step_append_lies _ (by rfl) _ _ _ (by rfl) base 127 t0 _ 10 80 Try.underlying49 ht0 hz0 hz1 hz2 rfl (by omega) _ r.body.length (flat r.body) (by rfl) ((howW.alloc _).drew)
        ⟨w.heap.size + 1, 0, none⟩ 1 1 [.int .i64 i0, .int .i64 i1, .int .i64 i2, .int .i64 i3, .bool b4, .int .i64 i5, .bool b6, .int .i64 i7, .int .i64 (↑r.body.length + 1), .int .i64 i9] (by simp [go_sem]) (by rfl) (World.news_of_block (cs := #[.int .i64 i0, .int .i64 i1, .int .i64 i2, .int .i64 i3, .bool b4, .int .i64 i5, .bool b6, .int .i64 i7, .int .i64 (↑r.body.length + 1), .int .i64 i9]) (t := 127) (fr := (0, 0)) (by rw [← hsz]; exact heap_alloc_new W _)) (by simp [Value.oneCell'])
        (by omega) (by unfold maxLen; omega) (by omega) (by simp; omega) (w.heap.size + 2) (by simp [hsz]) ?_; intro gg cap w1 hown1 hgrow hat hlt1; have hfz := (rowIs_grown ((HR2.out.row.alloc _).drew) hgrow hnb).frozen 56; have hcx := (rowIs_grown ((HR2.out.row.alloc _).drew) hgrow hnb).cell (i := 56) (by omega)))
  all_goals go_wp2
  all_goals go_ret
  all_goals exact ⟨rfl, add_close HR2.out HB2.out Hst.out hown1 hgrow hat hsz⟩

end Go.Proofs.Ytfnmglfbcpdlnaa
