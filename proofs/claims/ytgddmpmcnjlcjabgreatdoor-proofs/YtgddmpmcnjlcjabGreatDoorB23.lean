import Derived.Test.YtgddmpmcnjlcjabGreatDoorB21
import Derived.Deep.RegionLaw
import Derived.Deep.RegionWith
import Derived.Deep.DeepCutAuto
import Derived.Test.YtgddmpmcnjlcjabGreatDoorB20
namespace Go.Proofs.YtgddmpmcnjlcjabGreatDoor
open Go.RowKit
set_option linter.unusedVariables false
theorem own_cells' {w : World} {base g n : Nat} {t : TypeId} {cs : Array Value} (h : w.heap[g]? = some (.cells cs t)) (hb : base ≤ g) (hn : n ≤ 1000) (hz : cs.size = n) : w.ownsRow base t 1 (.slice (some ⟨g, 0, none⟩) n n) n cs.toList := by
  refine ⟨by simp [hz], .inr ⟨g, _, cs, rfl, hb, h, Nat.le_refl _, by unfold maxLen; omega, by omega, ?_⟩⟩
  rw [Nat.mul_one, ← hz, ← Array.length_toList, List.take_length]
section
variable {B wb lns nx : Nat} {bs : List UInt8} {vt : Value} {w : World}
theorem WpAt.alloc (h : WpAt B wb lns nx bs vt w) (o : Obj) : WpAt B wb lns nx bs vt (w.alloc o) := ⟨h.row.alloc o, h.cb, h.own.alloc o, h.hb, h.ne⟩
theorem lit_of {l : List Int} (hl : ∀ x ∈ l, Lit64 x) (i : Nat) : Lit64 (l.getD i 0) := by
  by_cases c : i < l.length
  · rw [List.getD_eq_getElem?_getD, List.getElem?_eq_getElem c]; exact hl _ (List.getElem_mem c)
  · rw [List.getD_eq_getElem?_getD, List.getElem?_eq_none (by omega)]; exact ⟨by decide, by decide⟩
theorem line_new (h : WpAt B wb lns nx bs vt w) (hBw : B ≤ w.heap.size) (ls hs : List Int) (o : Obj) (o1 o2 : Array Value) (e1 : o1 = (ls.map fun n => Value.int .i64 n).toArray) (e2 : o2 = (hs.map fun n => Value.int .i64 n).toArray) (hnx : nx ≤ 1000000000) (hl : ∀ x ∈ ls, Lit64 x) (hh : ∀ x ∈ hs, Lit64 x) (hll : ls.length ≤ 10) (hhl : hs.length ≤ 10) (hlim : bs.length ≤ 600000200) (htab : TabB B w) :
    Calls Tryz.prog 51 #[.pointer (some ⟨wb, 0, none⟩), .slice (some ⟨w.heap.size, 0, none⟩) ls.length ls.length, .slice (some ⟨w.heap.size + 1, 0, none⟩) hs.length hs.length] ((w.alloc (.cells o1 3)).alloc (.cells o2 3)) fun e w' => e = .returned (.int .i64 nx) ∧ ∃ vt', WpAt B wb (lns + 1) (nx + 1) (bs ++ lineB nx ls hs) vt' w' ∧ WFr B wb w w' := by
  subst e1 e2
  have a1 := own_cells' (base := 0) (n := ls.length) (hp_old' (w.alloc (.cells (ls.map fun n => Value.int .i64 n).toArray 3)) (.cells (hs.map fun n => Value.int .i64 n).toArray 3) _ w.heap.size (hp_new' w (.cells (ls.map fun n => Value.int .i64 n).toArray 3) w.heap.size rfl)) (Nat.zero_le _) (by omega) (by simp)
  have a2 := own_cells' (base := 0) (n := hs.length) (hp_new' (w.alloc (.cells (ls.map fun n => Value.int .i64 n).toArray 3)) (.cells (hs.map fun n => Value.int .i64 n).toArray 3) (w.heap.size + 1) (by simp)) (Nat.zero_le _) (by omega) (by simp)
  have c := line_any ((h.alloc (.cells (ls.map fun n => Value.int .i64 n).toArray 3)).alloc (.cells (hs.map fun n => Value.int .i64 n).toArray 3)) (by simp; omega) (some ⟨w.heap.size, 0, none⟩) (some ⟨w.heap.size + 1, 0, none⟩) ls.length hs.length ls hs (by simpa using a1) (by simpa using a2) hnx (lit_of hl) (lit_of hh) (by omega) (by omega) (by omega) ((htab.alloc hBw _).alloc (by simp; omega) _)
  refine c.mono ?_
  rintro e w' ⟨rfl, vt', h1, f1⟩
  exact ⟨rfl, vt', h1, (((WFr.refl B wb w).alloc hBw _).alloc (by simp; omega) _).trans f1⟩
def btc (b : Cl.Bt) (i : Nat) : Value := b.cells.getD i undef
theorem bt_row {g : Nat} {b : Cl.Bt} (h : w.heap[g]? = some (.cells #[.int .i64 b.node, .int .i64 b.v1, .int .i64 b.c1, .int .i64 b.v2, .int .i64 b.c2, .int .i64 b.vd, .int .i64 b.cd] 121)) : w.rowIs g 121 7 (btc b) := ⟨_, h, rfl, fun i hi => by
  match i, hi with
  | 0, _ => rfl
  | 1, _ => rfl
  | 2, _ => rfl
  | 3, _ => rfl
  | 4, _ => rfl
  | 5, _ => rfl
  | 6, _ => rfl
  | n + 7, h => exact absurd h (by omega)⟩
set_option maxRecDepth 100000 in
set_option maxHeartbeats 4000000 in
theorem eqn_any (h : WpAt B wb lns nx bs vt w) (hBw : B ≤ w.heap.size) (b : Cl.Bt) (hb : b.Ok) (hn : 2 ≤ b.node) (hnx : nx ≤ 999999999) (hlim : bs.length ≤ 600000000) (htab : TabB B w) :
    Calls Tryz.prog 85 #[.pointer (some ⟨wb, 0, none⟩), b.agg] w fun e w' => e = .returned (.int .i64 (Cl.eqR nx b)) ∧ ∃ vt', WpAt B wb (lns + Cl.eqL b) (nx + Cl.eqL b) (bs ++ Cl.eqB nx b) vt' w' ∧ WFr B wb w w' := by
  obtain ⟨nd, v1, c1, v2, c2, vd, cd⟩ := b
  obtain ⟨b1, b2, b3, b4, b5, b6⟩ := hb
  dsimp only at b1 b2 b3 b4 b5 b6 hn
  have HR := hid (show Cl.eqR nx ⟨nd, v1, c1, v2, c2, vd, cd⟩ = nx + 1 from if_neg (by show ¬ nd ≤ 1; omega))
  have HL := hid (show Cl.eqL ⟨nd, v1, c1, v2, c2, vd, cd⟩ = 2 from if_neg (by show ¬ nd ≤ 1; omega))
  have HQ := hid (show Cl.eqB nx ⟨nd, v1, c1, v2, c2, vd, cd⟩ = lineB nx [-(vd : Int), v1] [cd, c2, (c1 : Int) + 1] ++ lineB (nx + 1) [-(vd : Int)] [nx, c1, (c2 : Int) + 1, (cd : Int) + 1] from (if_neg (by show ¬ nd = 0; omega)).trans (if_neg (by show ¬ nd = 1; omega)))
  have H := hid h
  have HT := hid htab
  have hwbl := h.row.lt
  have bI1 : (v1 : Int) ≤ 1000000000 := by omega
  have bI2 : (c1 : Int) ≤ 1000000000 := by omega
  have bI4 : (c2 : Int) ≤ 1000000000 := by omega
  have bI5 : (vd : Int) ≤ 1000000000 := by omega
  have bI6 : (cd : Int) ≤ 1000000000 := by omega
  have hnI : (nx : Int) ≤ 1000000000 := by omega
  clear h htab
  obtain ⟨W, hW⟩ : ∃ W : World, w.alloc (.cells #[.int .i64 nd, .int .i64 v1, .int .i64 c1, .int .i64 v2, .int .i64 c2, .int .i64 vd, .int .i64 cd] 121) = W := ⟨_, rfl⟩
  have hWz : W.heap.size = w.heap.size + 1 := by rw [← hW]; simp
  have HW := hid (show WpAt B wb lns nx bs vt W by rw [← hW]; exact H.out.alloc _)
  have HTW := hid (show TabB B W by rw [← hW]; exact HT.out.alloc hBw _)
  have HFW := hid (show WFr B wb w W by rw [← hW]; exact (WFr.refl B wb w).alloc hBw _)
  have HBX := hid (show W.rowIs w.heap.size 121 7 (btc ⟨nd, v1, c1, v2, c2, vd, cd⟩) by rw [← hW]; exact bt_row (hp_new' _ _ _ rfl))
  have HE := hid hW
  clear hW
  have C1 := hid (line_new HW.out (by omega) [-(vd : Int), v1] [cd, c2, (c1 : Int) + 1] (.cells #[] 0) #[.int .i64 (-(vd : Int)), .int .i64 v1] #[.int .i64 cd, .int .i64 c2, .int .i64 ((c1 : Int) + 1)] rfl rfl (by omega) (by intro x hx; simp at hx; unfold Lit64; omega) (by intro x hx; simp at hx; unfold Lit64; omega) (by simp) (by simp) (by omega) HTW.out)
  rw [hWz] at C1
  go_enter Tryz.func85, Tryz.ntmps85
  go_wp2_with (go_at_call 51; rw [HE.out]; refine C1.out.mono ?_; rintro e w1 ⟨rfl, vt1, h1, f1⟩; have H1 := hid h1; have F1 := hid f1; have z1 := f1.1.size; clear h1 f1; refine Hid.out ?_)
  refine hid ?_
  clear C1
  have R1 := row_kept HBX.out F1.out.2 (by simp; omega) (by decide)
  have x2 := R1.cell (i := 2) (by omega)
  have x4 := R1.cell (i := 4) (by omega)
  have x6 := R1.cell (i := 6) (by omega)
  have x2a := fun o => (R1.alloc o).cell (i := 2) (by omega)
  have x4a := fun o => (R1.alloc o).cell (i := 4) (by omega)
  have x6a := fun o => (R1.alloc o).cell (i := 6) (by omega)
  rw [show btc ⟨nd, v1, c1, v2, c2, vd, cd⟩ 2 = .int .i64 c1 from rfl] at x2
  rw [show btc ⟨nd, v1, c1, v2, c2, vd, cd⟩ 4 = .int .i64 c2 from rfl] at x4
  rw [show btc ⟨nd, v1, c1, v2, c2, vd, cd⟩ 6 = .int .i64 cd from rfl] at x6
  rw [show btc ⟨nd, v1, c1, v2, c2, vd, cd⟩ 2 = .int .i64 c1 from rfl] at x2a
  rw [show btc ⟨nd, v1, c1, v2, c2, vd, cd⟩ 4 = .int .i64 c2 from rfl] at x4a
  rw [show btc ⟨nd, v1, c1, v2, c2, vd, cd⟩ 6 = .int .i64 cd from rfl] at x6a
  clear R1
  have HL1 := hid (show (bs ++ lineB nx [-(vd : Int), v1] [cd, c2, (c1 : Int) + 1]).length ≤ 600000200 by
    have a := lineB_len (nx := nx) (ls := [-(vd : Int), v1]) (hs := [cd, c2, (c1 : Int) + 1]) (by omega) (lit_of (by intro x hx; simp at hx; unfold Lit64; omega)) (lit_of (by intro x hx; simp at hx; unfold Lit64; omega))
    simp only [List.length_cons, List.length_nil] at a
    rw [List.length_append]
    omega)
  have C2 := hid (line_new H1.out (by omega) [-(vd : Int)] [nx, c1, (c2 : Int) + 1, (cd : Int) + 1] (.cells #[] 0) #[.int .i64 (-(vd : Int))] #[.int .i64 nx, .int .i64 c1, .int .i64 ((c2 : Int) + 1), .int .i64 ((cd : Int) + 1)] rfl rfl (by omega) (by intro x hx; simp at hx; unfold Lit64; omega) (by intro x hx; simp at hx; unfold Lit64; omega) (by simp) (by simp) HL1.out (HTW.out.on F1.out.1))
  go_wp2_with (go_at_call 51; refine C2.out.mono ?_; rintro e w2 ⟨rfl, vt2, h2, f2⟩; have H2 := hid h2; have F2 := hid f2; clear h2 f2)
  go_ret
  refine ⟨?_, vt2, ?_, (HFW.out.trans F1.out).trans F2.out⟩
  · rw [HR.out]; rfl
  · rw [HL.out, HQ.out, ← List.append_assoc]
    exact H2.out
end
section
variable {B wb lns nx : Nat} {bs : List UInt8} {vt : Value} {w : World}
set_option maxRecDepth 100000 in
set_option maxHeartbeats 4000000 in
theorem eq_leaf (h : WpAt B wb lns nx bs vt w) (hBw : B ≤ w.heap.size) (b : Cl.Bt) (hb : b.Ok) (hn : b.node ≤ 1) (hnx : nx ≤ 999999999) (hlim : bs.length ≤ 600000000) (htab : TabB B w) :
    Calls Tryz.prog 50 #[.pointer (some ⟨wb, 0, none⟩), b.agg] w fun e w' => e = .returned (.int .i64 (Cl.eqR nx b)) ∧ ∃ vt', WpAt B wb (lns + Cl.eqL b) (nx + Cl.eqL b) (bs ++ Cl.eqB nx b) vt' w' ∧ WFr B wb w w' := by
  obtain ⟨nd, v1, c1, v2, c2, vd, cd⟩ := b
  obtain ⟨b1, b2, b3, b4, b5, b6⟩ := hb
  dsimp only at b1 b2 b3 b4 b5 b6 hn
  have HR := hid (show Cl.eqR nx ⟨nd, v1, c1, v2, c2, vd, cd⟩ = nx from if_pos hn)
  have HL := hid (show Cl.eqL ⟨nd, v1, c1, v2, c2, vd, cd⟩ = 1 from if_pos hn)
  have H := hid h
  have HT := hid htab
  have hwbl := h.row.lt
  have bI1 : (v1 : Int) ≤ 1000000000 := by omega
  have bI2 : (c1 : Int) ≤ 1000000000 := by omega
  have bI4 : (c2 : Int) ≤ 1000000000 := by omega
  have bI5 : (vd : Int) ≤ 1000000000 := by omega
  have bI6 : (cd : Int) ≤ 1000000000 := by omega
  have hnI : (nx : Int) ≤ 1000000000 := by omega
  clear h htab
  obtain ⟨W, hW⟩ : ∃ W : World, w.alloc (.cells #[.int .i64 nd, .int .i64 v1, .int .i64 c1, .int .i64 v2, .int .i64 c2, .int .i64 vd, .int .i64 cd] 121) = W := ⟨_, rfl⟩
  have hWz : W.heap.size = w.heap.size + 1 := by rw [← hW]; simp
  have HW := hid (show WpAt B wb lns nx bs vt W by rw [← hW]; exact H.out.alloc _)
  have HTW := hid (show TabB B W by rw [← hW]; exact HT.out.alloc hBw _)
  have HFW := hid (show WFr B wb w W by rw [← hW]; exact (WFr.refl B wb w).alloc hBw _)
  have HE := hid hW
  clear hW
  by_cases h0 : nd = 0
  · subst h0
    have HQ := hid (show Cl.eqB nx ⟨0, v1, c1, v2, c2, vd, cd⟩ = lineB nx [-(vd : Int)] [c1, c2, cd] from if_pos rfl)
    have C1 := hid (line_new HW.out (by omega) [-(vd : Int)] [c1, c2, cd] (.cells #[] 0) #[.int .i64 (-(vd : Int))] #[.int .i64 c1, .int .i64 c2, .int .i64 cd] rfl rfl (by omega) (by intro x hx; simp at hx; unfold Lit64; omega) (by intro x hx; simp at hx; unfold Lit64; omega) (by simp) (by simp) (by omega) HTW.out)
    rw [hWz] at C1
    go_enter Tryz.func50, Tryz.ntmps50
    go_wp2_with (go_at_call 51; rw [show ((0 : Nat) : Int) = 0 from rfl] at HE; rw [HE.out]; refine C1.out.mono ?_; rintro e w1 ⟨rfl, vt1, h1, f1⟩; have H1 := hid h1; have F1 := hid f1; clear h1 f1)
    go_ret
    refine ⟨?_, vt1, ?_, HFW.out.trans F1.out⟩
    · rw [HR.out]; rfl
    · rw [HL.out, HQ.out]
      exact H1.out
  · have h1 : nd = 1 := by omega
    subst h1
    have HQ := hid (show Cl.eqB nx ⟨1, v1, c1, v2, c2, vd, cd⟩ = lineB nx [-(vd : Int)] [c1, c2, (cd : Int) + 1] from (if_neg (by show ¬ 1 = 0; decide)).trans (if_pos rfl))
    have C1 := hid (line_new HW.out (by omega) [-(vd : Int)] [c1, c2, (cd : Int) + 1] (.cells #[] 0) #[.int .i64 (-(vd : Int))] #[.int .i64 c1, .int .i64 c2, .int .i64 ((cd : Int) + 1)] rfl rfl (by omega) (by intro x hx; simp at hx; unfold Lit64; omega) (by intro x hx; simp at hx; unfold Lit64; omega) (by simp) (by simp) (by omega) HTW.out)
    rw [hWz] at C1
    go_enter Tryz.func50, Tryz.ntmps50
    go_wp2_with (go_at_call 51; rw [show ((1 : Nat) : Int) = 1 from rfl] at HE; rw [HE.out]; refine C1.out.mono ?_; rintro e w1 ⟨rfl, vt1, h1, f1⟩; have H1 := hid h1; have F1 := hid f1; clear h1 f1)
    go_ret
    refine ⟨?_, vt1, ?_, HFW.out.trans F1.out⟩
    · rw [HR.out]; rfl
    · rw [HL.out, HQ.out]
      exact H1.out
set_option maxRecDepth 100000 in
set_option maxHeartbeats 4000000 in
theorem eq_node (h : WpAt B wb lns nx bs vt w) (hBw : B ≤ w.heap.size) (b : Cl.Bt) (hb : b.Ok) (hn : 2 ≤ b.node) (hnx : nx ≤ 999999999) (hlim : bs.length ≤ 600000000) (htab : TabB B w) :
    Calls Tryz.prog 50 #[.pointer (some ⟨wb, 0, none⟩), b.agg] w fun e w' => e = .returned (.int .i64 (Cl.eqR nx b)) ∧ ∃ vt', WpAt B wb (lns + Cl.eqL b) (nx + Cl.eqL b) (bs ++ Cl.eqB nx b) vt' w' ∧ WFr B wb w w' := by
  have H := hid h
  have HT := hid htab
  have HB := hid hb
  have HL := hid hlim
  have e0 : ((b.node : Int) == 0) = false := by simp; omega
  have e1 : ((b.node : Int) == 1) = false := by simp; omega
  clear h htab hb
  obtain ⟨W, hW⟩ : ∃ W : World, w.alloc (.cells #[.int .i64 b.node, .int .i64 b.v1, .int .i64 b.c1, .int .i64 b.v2, .int .i64 b.c2, .int .i64 b.vd, .int .i64 b.cd] 121) = W := ⟨_, rfl⟩
  have hWz : W.heap.size = w.heap.size + 1 := by rw [← hW]; simp
  have HW := hid (show WpAt B wb lns nx bs vt W by rw [← hW]; exact H.out.alloc _)
  have HTW := hid (show TabB B W by rw [← hW]; exact HT.out.alloc hBw _)
  have HFW := hid (show WFr B wb w W by rw [← hW]; exact (WFr.refl B wb w).alloc hBw _)
  have HE := hid hW
  clear hW
  have HN := hid hn
  clear hn
  go_enter Tryz.func50, Tryz.ntmps50
  go_wp2_with (go_at_call 85; rw [HE.out]; refine (eqn_any HW.out (by omega) b HB.out HN.out hnx HL.out HTW.out).mono ?_; rintro e w1 ⟨rfl, vt1, h1, f1⟩; have H1 := hid h1; have F1 := hid f1; clear h1 f1)
  go_ret
  exact ⟨rfl, vt1, H1.out, HFW.out.trans F1.out⟩
theorem eq_any (h : WpAt B wb lns nx bs vt w) (hBw : B ≤ w.heap.size) (b : Cl.Bt) (hb : b.Ok) (hnx : nx ≤ 999999999) (hlim : bs.length ≤ 600000000) (htab : TabB B w) :
    Calls Tryz.prog 50 #[.pointer (some ⟨wb, 0, none⟩), b.agg] w fun e w' => e = .returned (.int .i64 (Cl.eqR nx b)) ∧ ∃ vt', WpAt B wb (lns + Cl.eqL b) (nx + Cl.eqL b) (bs ++ Cl.eqB nx b) vt' w' ∧ WFr B wb w w' := by
  by_cases c : b.node ≤ 1
  · exact eq_leaf h hBw b hb c hnx hlim htab
  · exact eq_node h hBw b hb (by omega) hnx hlim htab
end
namespace Cl
def prf (bits : List Bt) (ct : Nat) : Nat × List UInt8 :=
  let x := prfN bits (ct + 1) bits.length
  (x.1 - (ct + 1) + 1, x.2.1 ++ lineB x.1 [] (x.2.2 ++ [(ct : Int)]))
end Cl
namespace Cl
theorem bt_flat_len (l : List Bt) : (l.flatMap Bt.cells).length = l.length * 7 := by
  induction l with
  | nil => rfl
  | cons a l ih => rw [List.flatMap_cons, List.length_append, ih, List.length_cons]; simp [Bt.cells]; omega
theorem bt_flat_get (l : List Bt) : ∀ (i j : Nat), i < l.length → j < 7 → (l.flatMap Bt.cells)[i * 7 + j]? = (l.getD i {}).cells[j]? := by
  induction l with
  | nil => intro i j h; exact absurd h (by simp)
  | cons a l ih =>
    intro i j h hj
    rw [List.flatMap_cons]
    cases i with
    | zero => rw [List.getElem?_append_left (by simp [Bt.cells]; omega)]; simp
    | succ i =>
      rw [List.getElem?_append_right (by simp [Bt.cells]; omega), show a.cells.length = 7 from rfl, show (i + 1) * 7 + j - 7 = i * 7 + j by omega, ih i j (by simpa using h) hj]
      simp
end Cl
theorem bt_at {w : World} {base : Nat} {l : List Cl.Bt} {g cap : Nat} (h : w.ownsRow base 121 7 (.slice (some ⟨g, 0, none⟩) l.length cap) l.length (l.flatMap Cl.Bt.cells)) (i : Nat) (hi : i < l.length) (j : Nat) (hj : j < 7) : w.cell? ⟨g, i * 7 + j, none⟩ = (l.getD i {}).cells[j]? := (h.cellAt (i * 7 + j) (by omega)).trans (Cl.bt_flat_get _ i j hi hj)
def frc (vars ct : Nat) (txt : ByteArray) (vb : Value) (i : Nat) : Value := if i = 0 then .int .i64 vars else if i = 1 then .int .i64 ct else if i = 2 then .string txt else vb
def prc (a b : Value) (i : Nat) : Value := if i = 0 then a else b
structure PfAt (w : World) (vars ct : Nat) (txt : ByteArray) (vb : Value) (x : Nat × List UInt8 × List Int) (vt hv : Value) (wr : World) : Prop where
  wp : WpAt w.heap.size (w.heap.size + 2) (x.1 - (ct + 1)) x.1 x.2.1 vt wr
  hin : wr.ownsRow w.heap.size 3 1 hv x.2.2.length (x.2.2.map fun n => .int .i64 n)
  fr : wr.rowIs w.heap.size 59 4 (frc vars ct txt vb)
  pr : wr.rowIs (w.heap.size + 1) 66 2 (prc (.int .i64 0) (.string ⟨#[]⟩))
  bel : Below w.heap.size w wr
section
variable {w wr : World} {vars ct : Nat} {txt : ByteArray} {vb vt hv : Value} {x : Nat × List UInt8 × List Int}
theorem PfAt.alloc (h : PfAt w vars ct txt vb x vt hv wr) (o : Obj) : PfAt w vars ct txt vb x vt hv (wr.alloc o) := ⟨h.wp.alloc o, h.hin.alloc o, h.fr.alloc o, h.pr.alloc o, h.bel.alloc h.bel.size o⟩
theorem PfAt.wrote (h : PfAt w vars ct txt vb x vt hv wr) {w' : World} {vt' : Value} {n : Nat} {b : List UInt8} (hx : ct + 1 ≤ x.1) (hw : WpAt w.heap.size (w.heap.size + 2) (x.1 - (ct + 1) + n) (x.1 + n) (x.2.1 ++ b) vt' w') (hf : WFr w.heap.size (w.heap.size + 2) wr w') : PfAt w vars ct txt vb (x.1 + n, x.2.1 ++ b, x.2.2) vt' hv w' :=
  ⟨by show WpAt _ _ (x.1 + n - (ct + 1)) _ _ _ _; rw [show x.1 + n - (ct + 1) = x.1 - (ct + 1) + n by omega]; exact hw, own_kept h.hin hf.2 (fun g e => by intro e2; cases e2; exact own_not_row h.hin h.wp.row (by decide) e) (by decide), row_kept h.fr hf.2 (by simp) (by decide), row_kept h.pr hf.2 (by simp) (by decide), h.bel.trans hf.1⟩
theorem PfAt.push (h : PfAt w vars ct txt vb x vt hv wr) {o : Obj} {w' : World} {g' cap' : Nat} {n : Int} (hown : w'.ownsRow w.heap.size 3 1 (.slice (some ⟨g', 0, none⟩) (x.2.2.length + 1) cap') (x.2.2.length + 1) ((x.2.2.map fun n => .int .i64 n) ++ [.int .i64 n])) (hg : (wr.alloc o).grownBy w' hv.ownBlock) : PfAt w vars ct txt vb (x.1, x.2.1, x.2.2 ++ [n]) vt (.slice (some ⟨g', 0, none⟩) (x.2.2.length + 1) cap') w' := by
  have h2 := h.alloc o
  refine ⟨⟨rowIs_grown h2.wp.row hg (own_not_row h2.hin h2.wp.row (by decide)), h2.wp.cb, ownsRow_blk h2.wp.own (fun k e => hg.block k (h2.wp.own.lt k e).2 (fun e2 => ?_)), h2.wp.hb, h2.wp.ne⟩, ?_, rowIs_grown h2.fr hg (own_not_row h2.hin h2.fr (by decide)), rowIs_grown h2.pr hg (own_not_row h2.hin h2.pr (by decide)), h2.bel.grown hg h2.bel.size (fun k e => (h.hin.lt k e).1)⟩
  · obtain ⟨c1, f1, a1⟩ := own_bytes h2.wp.own e
    obtain ⟨c2, f2, a2⟩ := own_bytes h2.hin e2.symm
    rw [a1] at a2
    exact absurd (show 5 = 3 by cases a2) (by decide)
  · show World.ownsRow _ _ _ _ _ (x.2.2 ++ [n]).length ((x.2.2 ++ [n]).map fun n => .int .i64 n)
    rw [show (x.2.2 ++ [n]).length = x.2.2.length + 1 by simp, List.map_append]
    exact hown
end
section
variable {w : World}
set_option maxRecDepth 100000 in
set_option maxHeartbeats 4000000 in
theorem pw_all (vars ct : Nat) (txt : ByteArray) (bits : List Cl.Bt) (vb : Value) (hct : ct ≤ 900000000) (hbl : bits.length ≤ 70) (hbo : ∀ i, (bits.getD i {}).Ok) (hb : w.ownsRow 0 121 7 vb bits.length (bits.flatMap Cl.Bt.cells)) (most : Nat) (hm : most ≤ 1048576) (htab : TabB w.heap.size w) :
    Calls Tryz.prog 22 #[.agg #[.int .i64 vars, .int .i64 ct, .string txt, vb], .int .i64 most] w fun e w' => Below w.heap.size w w' ∧
      (most = 0 ∨ (Cl.prf bits ct).1 ≤ most → e = .returned (.tuple #[.agg #[.int .i64 (Cl.prf bits ct).1, .string ⟨(Cl.prf bits ct).2.toArray⟩], .bool true])) ∧
      (most ≠ 0 → most < (Cl.prf bits ct).1 → e = .returned (.tuple #[.agg #[.int .i64 0, .string ⟨#[]⟩], .bool false])) := by
  obtain ⟨t0, ht0, hz0, hz1, hz2⟩ := info_parts Tryz.infoInt
  obtain ⟨ab, cb, eb⟩ := body_val hb
  subst eb
  have HB := hid hb
  have HT := hid htab
  have HBO := hid hbo
  have HPO := hid (show ∀ i, i ≤ bits.length → _ from fun i hi => Cl.prfN_ok bits (ct + 1) hbo i (by omega))
  have HP0 := hid (show Cl.prfN bits (ct + 1) 0 = (ct + 1, [], []) from rfl)
  have HPS := hid (show ∀ i, Cl.prfN bits (ct + 1) (i + 1) = ((Cl.prfN bits (ct + 1) i).1 + Cl.eqL (bits.getD i {}), (Cl.prfN bits (ct + 1) i).2.1 ++ Cl.eqB (Cl.prfN bits (ct + 1) i).1 (bits.getD i {}), (Cl.prfN bits (ct + 1) i).2.2 ++ [(Cl.eqR (Cl.prfN bits (ct + 1) i).1 (bits.getD i {}) : Int)]) from fun _ => rfl)
  have HPF := hid (show Cl.prf bits ct = ((Cl.prfN bits (ct + 1) bits.length).1 - (ct + 1) + 1, (Cl.prfN bits (ct + 1) bits.length).2.1 ++ lineB (Cl.prfN bits (ct + 1) bits.length).1 [] ((Cl.prfN bits (ct + 1) bits.length).2.2 ++ [(ct : Int)])) from rfl)
  generalize Cl.prf bits ct = PF at HPF
  generalize Cl.prfN bits (ct + 1) = P at HPO HP0 HPS HPF
  have hctI : (ct : Int) ≤ 900000000 := by omega
  have hblI : (bits.length : Int) ≤ 70 := by omega
  have hmI : (most : Int) ≤ 1048576 := by omega
  clear hb htab hbo
  go_enter Tryz.func22, Tryz.ntmps22
  go_wp2_with fail
  obtain ⟨W0, hW0⟩ : ∃ W0 : World, ((w.alloc (.cells #[.int .i64 vars, .int .i64 ct, .string txt, .slice ab bits.length cb] 59)).alloc (.cells #[.int .i64 0, .string ⟨#[]⟩] 66)).alloc (.cells #[.int .i64 0, .int .i64 ((ct : Int) + 1), .slice none 0 0] 130) = W0 := ⟨_, rfl⟩
  rw [hW0]
  have HI := hid (show PfAt w vars ct txt (.slice ab bits.length cb) (ct + 1, [], []) (.slice none 0 0) (.slice none 0 0) W0 by
    rw [← hW0]
    refine ⟨⟨?_, by simp, World.ownsRow_nil _ _ _ _, by omega, by simp [Value.ownBlock]⟩, World.ownsRow_nil _ _ _ _, ?_, ?_, ?_⟩
    · rw [show ct + 1 - (ct + 1) = 0 by omega]
      refine ⟨_, hp_new' _ _ _ (by simp), rfl, fun i hi => ?_⟩
      match i, hi with
      | 0, _ => rfl
      | 1, _ => rfl
      | 2, _ => rfl
      | n + 3, h => omega
    · refine ⟨_, hp_old' _ _ _ _ (hp_old' _ _ _ _ (hp_new' _ _ _ rfl)), rfl, fun i hi => ?_⟩
      match i, hi with
      | 0, _ => rfl
      | 1, _ => rfl
      | 2, _ => rfl
      | 3, _ => rfl
      | n + 4, h => omega
    · refine ⟨_, hp_old' _ _ _ _ (hp_new' _ _ _ (by simp)), rfl, fun i hi => ?_⟩
      match i, hi with
      | 0, _ => rfl
      | 1, _ => rfl
      | n + 2, h => omega
    · exact ((((Below.refl w.heap.size w).alloc (Nat.le_refl _) _).alloc (by simp) _).alloc (by simp; omega) _))
  clear hW0
  go_loopw [7, 18] (fun hv c wr => ∃ (i : Nat) (vt : Value), i ≤ bits.length ∧ c = .int .i64 i ∧ PfAt w vars ct txt (.slice ab bits.length cb) (P i) vt hv wr) (fun _ c _ => bits.length - (intOf c).toNat)
  case atStart => exact ⟨0, _, Nat.zero_le _, rfl, by rw [HP0.out]; exact HI.out⟩
  case round =>
    clear HI
    obtain ⟨i, vt, hi, rfl, hpf⟩ := hrel
    obtain ⟨o1, o2, o3, o4, o5⟩ := HPO.out i hi
    have hiI : (i : Int) ≤ 70 := by omega
    obtain ⟨ah, ch, eh⟩ := body_val hpf.hin
    subst eh
    by_cases hlt : i < bits.length
    · have HS := hid (HPS.out i)
      obtain ⟨X, hX⟩ : ∃ X, P i = X := ⟨_, rfl⟩
      rw [hX] at hpf o1 o2 o3 o4 HS ⊢
      have BO := hid (HBO.out i)
      obtain ⟨gb, cb', hvb, _, hgb⟩ := HB.out.form (by omega)
      cases hvb
      have bel := hpf.bel
      have OB := ownsRow_same HB.out bel.block
      have d0 := bt_at OB i hlt 0 (by omega)
      have d1 := bt_at OB i hlt 1 (by omega)
      have d2 := bt_at OB i hlt 2 (by omega)
      have d3 := bt_at OB i hlt 3 (by omega)
      have d4 := bt_at OB i hlt 4 (by omega)
      have d5 := bt_at OB i hlt 5 (by omega)
      have d6 := bt_at OB i hlt 6 (by omega)
      generalize bits.getD i {} = b at d0 d1 d2 d3 d4 d5 d6 HS BO
      replace d0 : wr.cell? ⟨gb, i * 7, none⟩ = some (.int .i64 b.node) := d0
      replace d1 : wr.cell? ⟨gb, i * 7 + 1, none⟩ = some (.int .i64 b.v1) := d1
      replace d2 : wr.cell? ⟨gb, i * 7 + 2, none⟩ = some (.int .i64 b.c1) := d2
      replace d3 : wr.cell? ⟨gb, i * 7 + 3, none⟩ = some (.int .i64 b.v2) := d3
      replace d4 : wr.cell? ⟨gb, i * 7 + 4, none⟩ = some (.int .i64 b.c2) := d4
      replace d5 : wr.cell? ⟨gb, i * 7 + 5, none⟩ = some (.int .i64 b.vd) := d5
      replace d6 : wr.cell? ⟨gb, i * 7 + 6, none⟩ = some (.int .i64 b.cd) := d6
      have HF := hid hpf
      have zr := bel.size
      have hlI : (i : Int) < (bits.length : Int) := by omega
      have HBA := hid (HF.out.alloc (.cells #[.int .i64 b.node, .int .i64 b.v1, .int .i64 b.c1, .int .i64 b.v2, .int .i64 b.c2, .int .i64 b.vd, .int .i64 b.cd] 121))
      have hxl : X.2.2.length ≤ 70 := by omega
      clear hpf bel OB hX o4 o5
      go_wp2_with (go_at_call 50; refine (eq_any HBA.out.wp (by simp; omega) b BO.out (by omega) (by omega) (HT.out.on HBA.out.bel)).mono ?_; rintro e w1 ⟨rfl, vt1, h1, f1⟩; have H1 := hid (HBA.out.wrote (by omega) h1 f1); clear h1 f1; refine Hid.out ?_)
      refine hid ?_
      have z1 := H1.out.bel.size
      go_wp2_with (first | (at_builtin; refine wpList_append_lies _ rfl _ _ 24 rfl w.heap.size 3 t0 _ 1 8 Tryz.underlying24 ht0 hz0 hz1 hz2 rfl (by omega) _ X.2.2.length (X.2.2.map fun n => .int .i64 n) rfl (H1.out.hin.alloc _) ⟨w1.heap.size, 0, none⟩ 1 1 [.int .i64 (Cl.eqR X.1 b)] rfl rfl (cell_one_new _ _ _) (by simp [Value.oneCell']) (by omega) (by unfold maxLen; omega) (by omega) (by simp; omega) (w1.heap.size + 1) (by simp) ?_; intro g4 cap4 w4 hown4 hgrow4 hat4 hlt4; have H4 := hid (H1.out.push hown4 hgrow4); clear hown4 hgrow4 hat4))
      go_roundw
      case rel => exact ⟨i + 1, vt1, by omega, by go_num, by rw [HS.out]; exact H4.out⟩
      case measure => simp [intOf]; omega
    · have hie : bits.length = i := by omega
      rw [hie] at HPF
      have HIE := hid hie
      obtain ⟨X, hX⟩ : ∃ X, P i = X := ⟨_, rfl⟩
      rw [hX] at hpf o1 o2 o3 o4 o5 HPF ⊢
      have HF := hid hpf
      have zr := hpf.bel.size
      have hxl : X.2.2.length ≤ 70 := by omega
      have HO5 := hid o5
      have f1 := hpf.fr.cell (i := 1) (by omega)
      rw [show frc vars ct txt (.slice ab bits.length cb) 1 = .int .i64 ct from rfl] at f1
      clear hpf hX o4 o5 hie
      go_wp2_with (first | (at_builtin; refine wpList_append_lies _ rfl _ _ 24 rfl w.heap.size 3 t0 _ 1 8 Tryz.underlying24 ht0 hz0 hz1 hz2 rfl (by omega) _ X.2.2.length (X.2.2.map fun n => .int .i64 n) rfl (HF.out.hin.alloc _) ⟨wr.heap.size, 0, none⟩ 1 1 [.int .i64 ct] rfl rfl (cell_one_new _ _ _) (by simp [Value.oneCell']) (by omega) (by unfold maxLen; omega) (by omega) (by simp; omega) (wr.heap.size + 1) (by simp) ?_; intro g4 cap4 w4 hown4 hgrow4 hat4 hlt4; have H4 := hid (HF.out.push hown4 hgrow4); clear hown4 hgrow4 hat4; refine Hid.out ?_))
      refine hid ?_
      have z4 := H4.out.bel.size
      have C := hid (line_any H4.out.wp (by omega) none (some ⟨g4, 0, none⟩) 0 cap4 [] (X.2.2 ++ [(ct : Int)]) (World.ownsRow_nil _ _ _ _) (ownsRow_low (by have h := H4.out.hin; rw [show (X.2.2 ++ [(ct : Int)]).length = X.2.2.length + 1 by simp]; simpa using h) (Nat.zero_le _)) (by omega) (fun i => by simp; exact ⟨by decide, by decide⟩) (lit_of (fun x hx => by
        rcases List.mem_append.1 hx with hx | hx
        · have := HO5.out x hx; unfold Lit64; omega
        · rw [List.mem_singleton.1 hx]; unfold Lit64; omega)) (by simp) (by rw [List.length_append]; simp; omega) (by show X.2.1.length ≤ 700000000; omega) (HT.out.on H4.out.bel))
      rw [show (X.2.2 ++ [(ct : Int)]).length = X.2.2.length + 1 by simp] at C
      go_wp2_with (go_at_call 51; refine C.out.mono ?_; rintro e w5 ⟨rfl, vt5, h5, f5⟩; have H5 := hid (H4.out.wrote (n := 1) (by show ct + 1 ≤ X.1; omega) h5 f5); clear h5 f5; refine Hid.out ?_)
      refine hid ?_
      obtain ⟨N, hN⟩ : ∃ N, X.1 + 1 - (ct + 1) = N := ⟨_, rfl⟩
      obtain ⟨T, hT⟩ : ∃ T, X.2.1 ++ lineB X.1 [] (X.2.2 ++ [(ct : Int)]) = T := ⟨_, rfl⟩
      have hP1 : PF.1 = N := by rw [HPF.out]; show X.1 - (ct + 1) + 1 = N; omega
      have hP2 : PF.2 = T := by rw [HPF.out]; exact hT
      have HP1 := hid hP1
      have HP2 := hid hP2
      have hwp := H5.out.wp
      dsimp only at hwp
      rw [hN, hT] at hwp
      have hTn : T ≠ [] := by
        rw [← hT]
        intro e
        have := congrArg List.length e
        rw [List.length_append] at this
        unfold lineB at this
        simp at this
      have HWP := hid hwp
      have hNb : N ≤ 1000 := by omega
      have hNI : (N : Int) ≤ 1000 := by omega
      obtain ⟨at5, ct5, et5⟩ := body_val hwp.own
      subst et5
      have c0 := hwp.c0
      have c2 := hwp.c2
      have hcv := conv_text hwp.own hTn
      have r0 := H5.out.pr.cell (i := 0) (by omega)
      have r1 := H5.out.pr.cell (i := 1) (by omega)
      have rf0 := H5.out.pr.frozen 0
      have rf1 := H5.out.pr.frozen 1
      have HB5 := hid H5.out.bel
      dsimp only [prc] at r0 r1
      clear hwp hN hT hP1 hP2 H5 H4 C HF hTn
      by_cases hm0 : most = 0
      · have hm0I : ((most : Int) != 0) = false := by simp; omega
        have HM := hid hm0
        clear hm0
        go_wp2_with fail
        refine bodyPost_ret (v := .tuple #[.agg #[.int .i64 N, .string ⟨T.toArray⟩], .bool true]) (by simp [results, Tryz.results22, go_sem, r0, r1]) rfl ⟨?_, fun _ => by rw [HP1.out, HP2.out], fun c => absurd HM.out c⟩
        exact (HB5.out.setCell (p := ⟨w.heap.size + 1, 0, none⟩) (by show w.heap.size ≤ w.heap.size + 1; omega) _).setCell (p := ⟨w.heap.size + 1, 1, none⟩) (by show w.heap.size ≤ w.heap.size + 1; omega) _
      · have hm0I : ((most : Int) != 0) = true := by simp; omega
        have HM := hid hm0
        clear hm0
        by_cases hbg : most < N
        · have hbgI : (most : Int) < (N : Int) := by omega
          go_wp2_with fail
          refine bodyPost_ret (v := .tuple #[.agg #[.int .i64 0, .string ⟨#[]⟩], .bool false]) (by simp [results, Tryz.results22, go_sem, r0, r1]) rfl ⟨?_, fun c => ?_, fun _ _ => rfl⟩
          · exact (HB5.out.setCell (p := ⟨w.heap.size + 1, 0, none⟩) (by show w.heap.size ≤ w.heap.size + 1; omega) _).setCell (p := ⟨w.heap.size + 1, 1, none⟩) (by show w.heap.size ≤ w.heap.size + 1; omega) _
          · exfalso
            rw [HP1.out] at c
            rcases c with c | c
            · exact HM.out c
            · omega
        · have hbgI : ¬ (most : Int) < (N : Int) := by omega
          have HBG := hid hbg
          clear hbg
          go_wp2_with fail
          refine bodyPost_ret (v := .tuple #[.agg #[.int .i64 N, .string ⟨T.toArray⟩], .bool true]) (by simp [results, Tryz.results22, go_sem, r0, r1]) rfl ⟨?_, fun _ => by rw [HP1.out, HP2.out], fun _ c => absurd (by rw [HP1.out] at c; exact c) HBG.out⟩
          exact (HB5.out.setCell (p := ⟨w.heap.size + 1, 0, none⟩) (by show w.heap.size ≤ w.heap.size + 1; omega) _).setCell (p := ⟨w.heap.size + 1, 1, none⟩) (by show w.heap.size ≤ w.heap.size + 1; omega) _
end
end Go.Proofs.YtgddmpmcnjlcjabGreatDoor
