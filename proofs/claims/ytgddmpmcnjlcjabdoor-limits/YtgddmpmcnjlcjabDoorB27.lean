import Derived.Test.YtgddmpmcnjlcjabDoorB25
import Derived.Deep.RegionLaw
import Derived.Deep.RegionWith
import Derived.Deep.DeepCutAuto
namespace Go.Proofs.YtgddmpmcnjlcjabDoor
open Go.RowKit
set_option linter.unusedVariables false
theorem own_cells' {w : World} {base g n : Nat} {t : TypeId} {cs : Array Value} (h : w.heap[g]? = some (.cells cs t)) (hb : base ≤ g) (hn : n ≤ 1000) (hz : cs.size = n) : w.ownsRow base t 1 (.slice (some ⟨g, 0, none⟩) n n) n cs.toList := by
  refine ⟨by simp [hz], .inr ⟨g, _, cs, rfl, hb, h, Nat.le_refl _, by unfold maxLen; omega, by omega, ?_⟩⟩
  rw [Nat.mul_one, ← hz, ← Array.length_toList, List.take_length]
section
variable {B wb lns nx : Nat} {bs : List UInt8} {vt : Value} {w : World}
theorem WpAt.alloc (h : WpAt B wb lns nx bs vt w) (o : Obj) : WpAt B wb lns nx bs vt (w.alloc o) := ⟨h.row.alloc o, h.cb, h.own.alloc o, h.hb, h.ne⟩
theorem lit_of {l : List Int} (hl : ∀ x ∈ l, Lit64 x) (i : Nat) : Lit64 (l.getD i 0) := by
  by_cases c : i < l.length
  · rw [List.getD_eq_getElem?_getD, List.getElem?_eq_getElem c]; exact hl _ (List.getElem_mem c)
  · rw [List.getD_eq_getElem?_getD, List.getElem?_eq_none (by omega)]; exact ⟨by decide, by decide⟩
theorem line_new (h : WpAt B wb lns nx bs vt w) (hBw : B ≤ w.heap.size) (ls hs : List Int) (o : Obj) (o1 o2 : Array Value) (e1 : o1 = (ls.map fun n => Value.int .i64 n).toArray) (e2 : o2 = (hs.map fun n => Value.int .i64 n).toArray) (hnx : nx ≤ 1000000000) (hl : ∀ x ∈ ls, Lit64 x) (hh : ∀ x ∈ hs, Lit64 x) (hll : ls.length ≤ 10) (hhl : hs.length ≤ 10) (hlim : bs.length ≤ 600000200) (htab : TabB B w) :
    Calls Tryd.prog 47 #[.pointer (some ⟨wb, 0, none⟩), .slice (some ⟨w.heap.size, 0, none⟩) ls.length ls.length, .slice (some ⟨w.heap.size + 1, 0, none⟩) hs.length hs.length] ((w.alloc (.cells o1 3)).alloc (.cells o2 3)) fun e w' => e = .returned (.int .i64 nx) ∧ ∃ vt', WpAt B wb (lns + 1) (nx + 1) (bs ++ lineB nx ls hs) vt' w' ∧ WFr B wb w w' := by
  subst e1 e2
  have a1 := own_cells' (base := 0) (n := ls.length) (hp_old' (w.alloc (.cells (ls.map fun n => Value.int .i64 n).toArray 3)) (.cells (hs.map fun n => Value.int .i64 n).toArray 3) _ w.heap.size (hp_new' w (.cells (ls.map fun n => Value.int .i64 n).toArray 3) w.heap.size rfl)) (Nat.zero_le _) (by omega) (by simp)
  have a2 := own_cells' (base := 0) (n := hs.length) (hp_new' (w.alloc (.cells (ls.map fun n => Value.int .i64 n).toArray 3)) (.cells (hs.map fun n => Value.int .i64 n).toArray 3) (w.heap.size + 1) (by simp)) (Nat.zero_le _) (by omega) (by simp)
  have c := line_any ((h.alloc (.cells (ls.map fun n => Value.int .i64 n).toArray 3)).alloc (.cells (hs.map fun n => Value.int .i64 n).toArray 3)) (by simp; omega) (some ⟨w.heap.size, 0, none⟩) (some ⟨w.heap.size + 1, 0, none⟩) ls.length hs.length ls hs (by simpa using a1) (by simpa using a2) hnx (lit_of hl) (lit_of hh) (by omega) (by omega) (by omega) ((htab.alloc hBw _).alloc (by simp; omega) _)
  refine c.mono ?_
  rintro e w' ⟨rfl, vt', h1, f1⟩
  exact ⟨rfl, vt', h1, (((WFr.refl B wb w).alloc hBw _).alloc (by simp; omega) _).trans f1⟩
def btc (b : Cl.Bt) (i : Nat) : Value := b.cells.getD i undef
theorem bt_row {g : Nat} {b : Cl.Bt} (h : w.heap[g]? = some (.cells #[.int .i64 b.node, .int .i64 b.v1, .int .i64 b.c1, .int .i64 b.v2, .int .i64 b.c2, .int .i64 b.vd, .int .i64 b.cd] 111)) : w.rowIs g 111 7 (btc b) := ⟨_, h, rfl, fun i hi => by
  match i, hi with
  | 0, _ => rfl
  | 1, _ => rfl
  | 2, _ => rfl
  | 3, _ => rfl
  | 4, _ => rfl
  | 5, _ => rfl
  | 6, _ => rfl
  | n + 7, h => exact absurd h (by omega)⟩
set_option maxRecDepth 100000 in
set_option maxHeartbeats 4000000 in
theorem eqn_any (h : WpAt B wb lns nx bs vt w) (hBw : B ≤ w.heap.size) (b : Cl.Bt) (hb : b.Ok) (hn : 2 ≤ b.node) (hnx : nx ≤ 999999999) (hlim : bs.length ≤ 600000000) (htab : TabB B w) :
    Calls Tryd.prog 73 #[.pointer (some ⟨wb, 0, none⟩), b.agg] w fun e w' => e = .returned (.int .i64 (Cl.eqR nx b)) ∧ ∃ vt', WpAt B wb (lns + Cl.eqL b) (nx + Cl.eqL b) (bs ++ Cl.eqB nx b) vt' w' ∧ WFr B wb w w' := by
  obtain ⟨nd, v1, c1, v2, c2, vd, cd⟩ := b
  obtain ⟨b1, b2, b3, b4, b5, b6⟩ := hb
  dsimp only at b1 b2 b3 b4 b5 b6 hn
  have HR := hid (show Cl.eqR nx ⟨nd, v1, c1, v2, c2, vd, cd⟩ = nx + 1 from if_neg (by show ¬ nd ≤ 1; omega))
  have HL := hid (show Cl.eqL ⟨nd, v1, c1, v2, c2, vd, cd⟩ = 2 from if_neg (by show ¬ nd ≤ 1; omega))
  have HQ := hid (show Cl.eqB nx ⟨nd, v1, c1, v2, c2, vd, cd⟩ = lineB nx [-(vd : Int), v1] [cd, c2, (c1 : Int) + 1] ++ lineB (nx + 1) [-(vd : Int)] [nx, c1, (c2 : Int) + 1, (cd : Int) + 1] from (if_neg (by show ¬ nd = 0; omega)).trans (if_neg (by show ¬ nd = 1; omega)))
  have H := hid h
  have HT := hid htab
  have hwbl := h.row.lt
  have bI1 : (v1 : Int) ≤ 1000000000 := by omega
  have bI2 : (c1 : Int) ≤ 1000000000 := by omega
  have bI4 : (c2 : Int) ≤ 1000000000 := by omega
  have bI5 : (vd : Int) ≤ 1000000000 := by omega
  have bI6 : (cd : Int) ≤ 1000000000 := by omega
  have hnI : (nx : Int) ≤ 1000000000 := by omega
  clear h htab
  obtain ⟨W, hW⟩ : ∃ W : World, w.alloc (.cells #[.int .i64 nd, .int .i64 v1, .int .i64 c1, .int .i64 v2, .int .i64 c2, .int .i64 vd, .int .i64 cd] 111) = W := ⟨_, rfl⟩
  have hWz : W.heap.size = w.heap.size + 1 := by rw [← hW]; simp
  have HW := hid (show WpAt B wb lns nx bs vt W by rw [← hW]; exact H.out.alloc _)
  have HTW := hid (show TabB B W by rw [← hW]; exact HT.out.alloc hBw _)
  have HFW := hid (show WFr B wb w W by rw [← hW]; exact (WFr.refl B wb w).alloc hBw _)
  have HBX := hid (show W.rowIs w.heap.size 111 7 (btc ⟨nd, v1, c1, v2, c2, vd, cd⟩) by rw [← hW]; exact bt_row (hp_new' _ _ _ rfl))
  have HE := hid hW
  clear hW
  have C1 := hid (line_new HW.out (by omega) [-(vd : Int), v1] [cd, c2, (c1 : Int) + 1] (.cells #[] 0) #[.int .i64 (-(vd : Int)), .int .i64 v1] #[.int .i64 cd, .int .i64 c2, .int .i64 ((c1 : Int) + 1)] rfl rfl (by omega) (by intro x hx; simp at hx; unfold Lit64; omega) (by intro x hx; simp at hx; unfold Lit64; omega) (by simp) (by simp) (by omega) HTW.out)
  rw [hWz] at C1
  go_enter Tryd.func73, Tryd.ntmps73
  go_wp2_with (go_at_call 47; rw [HE.out]; refine C1.out.mono ?_; rintro e w1 ⟨rfl, vt1, h1, f1⟩; have H1 := hid h1; have F1 := hid f1; have z1 := f1.1.size; clear h1 f1; refine Hid.out ?_)
  refine hid ?_
  clear C1
  have R1 := row_kept HBX.out F1.out.2 (by simp; omega) (by decide)
  have x2 := R1.cell (i := 2) (by omega)
  have x4 := R1.cell (i := 4) (by omega)
  have x6 := R1.cell (i := 6) (by omega)
  have x2a := fun o => (R1.alloc o).cell (i := 2) (by omega)
  have x4a := fun o => (R1.alloc o).cell (i := 4) (by omega)
  have x6a := fun o => (R1.alloc o).cell (i := 6) (by omega)
  rw [show btc ⟨nd, v1, c1, v2, c2, vd, cd⟩ 2 = .int .i64 c1 from rfl] at x2
  rw [show btc ⟨nd, v1, c1, v2, c2, vd, cd⟩ 4 = .int .i64 c2 from rfl] at x4
  rw [show btc ⟨nd, v1, c1, v2, c2, vd, cd⟩ 6 = .int .i64 cd from rfl] at x6
  rw [show btc ⟨nd, v1, c1, v2, c2, vd, cd⟩ 2 = .int .i64 c1 from rfl] at x2a
  rw [show btc ⟨nd, v1, c1, v2, c2, vd, cd⟩ 4 = .int .i64 c2 from rfl] at x4a
  rw [show btc ⟨nd, v1, c1, v2, c2, vd, cd⟩ 6 = .int .i64 cd from rfl] at x6a
  clear R1
  have HL1 := hid (show (bs ++ lineB nx [-(vd : Int), v1] [cd, c2, (c1 : Int) + 1]).length ≤ 600000200 by
    have a := lineB_len (nx := nx) (ls := [-(vd : Int), v1]) (hs := [cd, c2, (c1 : Int) + 1]) (by omega) (lit_of (by intro x hx; simp at hx; unfold Lit64; omega)) (lit_of (by intro x hx; simp at hx; unfold Lit64; omega))
    simp only [List.length_cons, List.length_nil] at a
    rw [List.length_append]
    omega)
  have C2 := hid (line_new H1.out (by omega) [-(vd : Int)] [nx, c1, (c2 : Int) + 1, (cd : Int) + 1] (.cells #[] 0) #[.int .i64 (-(vd : Int))] #[.int .i64 nx, .int .i64 c1, .int .i64 ((c2 : Int) + 1), .int .i64 ((cd : Int) + 1)] rfl rfl (by omega) (by intro x hx; simp at hx; unfold Lit64; omega) (by intro x hx; simp at hx; unfold Lit64; omega) (by simp) (by simp) HL1.out (HTW.out.on F1.out.1))
  go_wp2_with (go_at_call 47; refine C2.out.mono ?_; rintro e w2 ⟨rfl, vt2, h2, f2⟩; have H2 := hid h2; have F2 := hid f2; clear h2 f2)
  go_ret
  refine ⟨?_, vt2, ?_, (HFW.out.trans F1.out).trans F2.out⟩
  · rw [HR.out]; rfl
  · rw [HL.out, HQ.out, ← List.append_assoc]
    exact H2.out
end
section
variable {B wb lns nx : Nat} {bs : List UInt8} {vt : Value} {w : World}
set_option maxRecDepth 100000 in
set_option maxHeartbeats 4000000 in
theorem eq_leaf (h : WpAt B wb lns nx bs vt w) (hBw : B ≤ w.heap.size) (b : Cl.Bt) (hb : b.Ok) (hn : b.node ≤ 1) (hnx : nx ≤ 999999999) (hlim : bs.length ≤ 600000000) (htab : TabB B w) :
    Calls Tryd.prog 46 #[.pointer (some ⟨wb, 0, none⟩), b.agg] w fun e w' => e = .returned (.int .i64 (Cl.eqR nx b)) ∧ ∃ vt', WpAt B wb (lns + Cl.eqL b) (nx + Cl.eqL b) (bs ++ Cl.eqB nx b) vt' w' ∧ WFr B wb w w' := by
  obtain ⟨nd, v1, c1, v2, c2, vd, cd⟩ := b
  obtain ⟨b1, b2, b3, b4, b5, b6⟩ := hb
  dsimp only at b1 b2 b3 b4 b5 b6 hn
  have HR := hid (show Cl.eqR nx ⟨nd, v1, c1, v2, c2, vd, cd⟩ = nx from if_pos hn)
  have HL := hid (show Cl.eqL ⟨nd, v1, c1, v2, c2, vd, cd⟩ = 1 from if_pos hn)
  have H := hid h
  have HT := hid htab
  have hwbl := h.row.lt
  have bI1 : (v1 : Int) ≤ 1000000000 := by omega
  have bI2 : (c1 : Int) ≤ 1000000000 := by omega
  have bI4 : (c2 : Int) ≤ 1000000000 := by omega
  have bI5 : (vd : Int) ≤ 1000000000 := by omega
  have bI6 : (cd : Int) ≤ 1000000000 := by omega
  have hnI : (nx : Int) ≤ 1000000000 := by omega
  clear h htab
  obtain ⟨W, hW⟩ : ∃ W : World, w.alloc (.cells #[.int .i64 nd, .int .i64 v1, .int .i64 c1, .int .i64 v2, .int .i64 c2, .int .i64 vd, .int .i64 cd] 111) = W := ⟨_, rfl⟩
  have hWz : W.heap.size = w.heap.size + 1 := by rw [← hW]; simp
  have HW := hid (show WpAt B wb lns nx bs vt W by rw [← hW]; exact H.out.alloc _)
  have HTW := hid (show TabB B W by rw [← hW]; exact HT.out.alloc hBw _)
  have HFW := hid (show WFr B wb w W by rw [← hW]; exact (WFr.refl B wb w).alloc hBw _)
  have HE := hid hW
  clear hW
  by_cases h0 : nd = 0
  · subst h0
    have HQ := hid (show Cl.eqB nx ⟨0, v1, c1, v2, c2, vd, cd⟩ = lineB nx [-(vd : Int)] [c1, c2, cd] from if_pos rfl)
    have C1 := hid (line_new HW.out (by omega) [-(vd : Int)] [c1, c2, cd] (.cells #[] 0) #[.int .i64 (-(vd : Int))] #[.int .i64 c1, .int .i64 c2, .int .i64 cd] rfl rfl (by omega) (by intro x hx; simp at hx; unfold Lit64; omega) (by intro x hx; simp at hx; unfold Lit64; omega) (by simp) (by simp) (by omega) HTW.out)
    rw [hWz] at C1
    go_enter Tryd.func46, Tryd.ntmps46
    go_wp2_with (go_at_call 47; rw [show ((0 : Nat) : Int) = 0 from rfl] at HE; rw [HE.out]; refine C1.out.mono ?_; rintro e w1 ⟨rfl, vt1, h1, f1⟩; have H1 := hid h1; have F1 := hid f1; clear h1 f1)
    go_ret
    refine ⟨?_, vt1, ?_, HFW.out.trans F1.out⟩
    · rw [HR.out]; rfl
    · rw [HL.out, HQ.out]
      exact H1.out
  · have h1 : nd = 1 := by omega
    subst h1
    have HQ := hid (show Cl.eqB nx ⟨1, v1, c1, v2, c2, vd, cd⟩ = lineB nx [-(vd : Int)] [c1, c2, (cd : Int) + 1] from (if_neg (by show ¬ 1 = 0; decide)).trans (if_pos rfl))
    have C1 := hid (line_new HW.out (by omega) [-(vd : Int)] [c1, c2, (cd : Int) + 1] (.cells #[] 0) #[.int .i64 (-(vd : Int))] #[.int .i64 c1, .int .i64 c2, .int .i64 ((cd : Int) + 1)] rfl rfl (by omega) (by intro x hx; simp at hx; unfold Lit64; omega) (by intro x hx; simp at hx; unfold Lit64; omega) (by simp) (by simp) (by omega) HTW.out)
    rw [hWz] at C1
    go_enter Tryd.func46, Tryd.ntmps46
    go_wp2_with (go_at_call 47; rw [show ((1 : Nat) : Int) = 1 from rfl] at HE; rw [HE.out]; refine C1.out.mono ?_; rintro e w1 ⟨rfl, vt1, h1, f1⟩; have H1 := hid h1; have F1 := hid f1; clear h1 f1)
    go_ret
    refine ⟨?_, vt1, ?_, HFW.out.trans F1.out⟩
    · rw [HR.out]; rfl
    · rw [HL.out, HQ.out]
      exact H1.out
set_option maxRecDepth 100000 in
set_option maxHeartbeats 4000000 in
theorem eq_node (h : WpAt B wb lns nx bs vt w) (hBw : B ≤ w.heap.size) (b : Cl.Bt) (hb : b.Ok) (hn : 2 ≤ b.node) (hnx : nx ≤ 999999999) (hlim : bs.length ≤ 600000000) (htab : TabB B w) :
    Calls Tryd.prog 46 #[.pointer (some ⟨wb, 0, none⟩), b.agg] w fun e w' => e = .returned (.int .i64 (Cl.eqR nx b)) ∧ ∃ vt', WpAt B wb (lns + Cl.eqL b) (nx + Cl.eqL b) (bs ++ Cl.eqB nx b) vt' w' ∧ WFr B wb w w' := by
  have H := hid h
  have HT := hid htab
  have HB := hid hb
  have HL := hid hlim
  have e0 : ((b.node : Int) == 0) = false := by simp; omega
  have e1 : ((b.node : Int) == 1) = false := by simp; omega
  clear h htab hb
  obtain ⟨W, hW⟩ : ∃ W : World, w.alloc (.cells #[.int .i64 b.node, .int .i64 b.v1, .int .i64 b.c1, .int .i64 b.v2, .int .i64 b.c2, .int .i64 b.vd, .int .i64 b.cd] 111) = W := ⟨_, rfl⟩
  have hWz : W.heap.size = w.heap.size + 1 := by rw [← hW]; simp
  have HW := hid (show WpAt B wb lns nx bs vt W by rw [← hW]; exact H.out.alloc _)
  have HTW := hid (show TabB B W by rw [← hW]; exact HT.out.alloc hBw _)
  have HFW := hid (show WFr B wb w W by rw [← hW]; exact (WFr.refl B wb w).alloc hBw _)
  have HE := hid hW
  clear hW
  have HN := hid hn
  clear hn
  go_enter Tryd.func46, Tryd.ntmps46
  go_wp2_with (go_at_call 73; rw [HE.out]; refine (eqn_any HW.out (by omega) b HB.out HN.out hnx HL.out HTW.out).mono ?_; rintro e w1 ⟨rfl, vt1, h1, f1⟩; have H1 := hid h1; have F1 := hid f1; clear h1 f1)
  go_ret
  exact ⟨rfl, vt1, H1.out, HFW.out.trans F1.out⟩
theorem eq_any (h : WpAt B wb lns nx bs vt w) (hBw : B ≤ w.heap.size) (b : Cl.Bt) (hb : b.Ok) (hnx : nx ≤ 999999999) (hlim : bs.length ≤ 600000000) (htab : TabB B w) :
    Calls Tryd.prog 46 #[.pointer (some ⟨wb, 0, none⟩), b.agg] w fun e w' => e = .returned (.int .i64 (Cl.eqR nx b)) ∧ ∃ vt', WpAt B wb (lns + Cl.eqL b) (nx + Cl.eqL b) (bs ++ Cl.eqB nx b) vt' w' ∧ WFr B wb w w' := by
  by_cases c : b.node ≤ 1
  · exact eq_leaf h hBw b hb c hnx hlim htab
  · exact eq_node h hBw b hb (by omega) hnx hlim htab
end
end Go.Proofs.YtgddmpmcnjlcjabDoor
