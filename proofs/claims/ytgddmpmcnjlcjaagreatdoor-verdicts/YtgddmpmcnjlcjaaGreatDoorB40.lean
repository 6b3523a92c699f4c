import Derived.Test.YtgddmpmcnjlcjaaGreatDoorB39
import Derived.Deep.QuietTactic
import Derived.BigQuiet
import Derived.Deep.RegionLaw
namespace Go.Proofs.YtgddmpmcnjlcjaaGreatDoor
open Go.RowKit
open Tm (TsOk DsOk Wd16)
set_option linter.unusedVariables false
section
variable {w0 wf : World} {F A : Nat → Prop} {P : Nat} {l : List DB} {R gv gc cc : Nat} {ga : Nat → Nat} {N N' : Nat} {m : Tm.M} {w w' : World}
theorem arr_kind {ds : List Rf.Dc} {w : Lk.Wd} (h : (Rf.kindOf ds w == Rf.wArray) = true) : Rf.kindOf ds w ≠ [] := by
  rw [eq_of_beq h]
  decide
theorem cell_run (h : RunAt w0 wf F A P l R gv gc cc ga N m w) (p : PS w0 P l) (h16 : Wd16 m) (gw cw : Nat) (a b c d : ByteArray) (hw : Wds w gw [a, b, c, d]) (hf : Rf.fits (dcs l) [a.toList, b.toList, c.toList, d.toList] = true) (hk : a.toList = Rf.wLoad ∨ a.toList = Rf.wStore) :
    Calls Tryz.prog 89 #[.pointer (some ⟨R, 0, none⟩), .slice (some ⟨gw, 0, none⟩) 4 cw] w fun e w' => e = .returned (.int .i64 ((Tm.plain (dcs l) [a.toList, b.toList, c.toList, d.toList] m).1 : Nat)) ∧ RunAt w0 wf F A P l R gv gc cc ga N (Tm.plain (dcs l) [a.toList, b.toList, c.toList, d.toList] m).2 w' := by
  have g0 : Lk.wd [a.toList, b.toList, c.toList, d.toList] 0 = a.toList := rfl
  have g1 : Lk.wd [a.toList, b.toList, c.toList, d.toList] 1 = b.toList := rfl
  have g2 : Lk.wd [a.toList, b.toList, c.toList, d.toList] 2 = c.toList := rfl
  have g3 : Lk.wd [a.toList, b.toList, c.toList, d.toList] 3 = d.toList := rfl
  unfold Rf.fits at hf
  rw [g0, g1, g2, g3] at hf
  unfold Tm.plain
  rw [g0, g1, g2, g3]
  rcases hk with hk | hk
  · rw [if_neg (by rw [hk]; decide), if_pos hk] at hf
    rw [if_neg (by rw [hk]; decide), if_pos hk]
    simp only [List.length_cons, List.length_nil, Nat.reduceAdd, decide_true, Bool.true_and, Bool.and_eq_true] at hf
    obtain ⟨⟨f1, f2⟩, f3⟩ := hf
    have n1 := nm_kind p.ok (scalar_kind f1)
    have n2 := nm_kind p.ok (arr_kind f2)
    have n3 := atm_atom p.ok f3
    have h0 := nm_pos n1
    obtain ⟨gn, cn, D⟩ := h.rd p h0
    obtain ⟨gs, cs, C⟩ := h.rc p h0
    have hx : nval (nms l) m.vals d < 16 := by rw [nval_value]; exact h16.value _
    have hi1 := n1.at.2
    rw [nms_len, nix_idx] at hi1
    by_cases hlt : Tm.value (dcs l) m d.toList < Tm.size (dcs l) (Tm.idx (dcs l) c.toList)
    · rw [if_pos hlt]
      have hlt' : nval (nms l) m.vals d < szs l (nix (nms l) c) := by rw [nval_value, nix_idx, ← szs_at]; exact hlt
      refine (cell_load D C gw cw a b c d hw hk n1 n2 n3 hx (fun i hi => h.vals.frozen i) hlt').mono ?_
      intro e w' hh
      obtain ⟨he, m1, m2, hw'⟩ := hh
      rw [nval_value] at he hw'
      rw [nix_idx, nix_idx] at hw'
      refine ⟨he, ?_⟩
      rw [hw']
      exact ((h.drew m1).setVal _ _).drew m2
    · rw [if_neg hlt]
      have hge' : szs l (nix (nms l) c) ≤ nval (nms l) m.vals d := by rw [nval_value, nix_idx, ← szs_at]; omega
      refine (cell_trap D C gw cw a b c d hw hk n1 n2 n3 hx hge').mono ?_
      intro e w' hh
      obtain ⟨he, m1, m2, hw'⟩ := hh
      rw [nval_value] at he
      refine ⟨he, ?_⟩
      rw [hw']
      exact ((h.drew m1).setBad).drew m2
  · rw [if_neg (by rw [hk]; decide), if_neg (by rw [hk]; decide), if_pos hk] at hf
    rw [if_neg (by rw [hk]; decide), if_neg (by rw [hk]; decide), if_pos hk]
    simp only [List.length_cons, List.length_nil, Nat.reduceAdd, decide_true, Bool.true_and, Bool.and_eq_true] at hf
    obtain ⟨⟨f1, f2⟩, f3⟩ := hf
    have n1 := nm_kind p.ok (arr_kind f1)
    have n2 := atm_atom p.ok f2
    have n3 := atm_atom p.ok f3
    have h0 := nm_pos n1
    obtain ⟨gn, cn, D⟩ := h.rd p h0
    obtain ⟨gs, cs, C⟩ := h.rc p h0
    have hx : nval (nms l) m.vals c < 16 := by rw [nval_value]; exact h16.value _
    have hi1 := n1.at.2
    rw [nms_len, nix_idx] at hi1
    by_cases hlt : Tm.value (dcs l) m c.toList < Tm.size (dcs l) (Tm.idx (dcs l) b.toList)
    · rw [if_pos hlt]
      have hlt' : nval (nms l) m.vals c < szs l (nix (nms l) b) := by rw [nval_value, nix_idx, ← szs_at]; exact hlt
      refine (cell_store D C gw cw a b c d hw hk n1 n2 n3 hx hlt').mono ?_
      intro e w' hh
      obtain ⟨he, m1, m2, hw'⟩ := hh
      rw [nval_value] at he
      rw [nval_value, nval_value, nix_idx] at hw'
      refine ⟨he, ?_⟩
      rw [hw']
      exact ((h.drew m1).setCel _ _ _ hi1).drew m2
    · rw [if_neg hlt]
      have hge' : szs l (nix (nms l) b) ≤ nval (nms l) m.vals c := by rw [nval_value, nix_idx, ← szs_at]; omega
      refine (cell_trap' D C gw cw a b c d hw hk n1 n2 n3 hx hge').mono ?_
      intro e w' hh
      obtain ⟨he, m1, m2, hw'⟩ := hh
      rw [nval_value] at he
      refine ⟨he, ?_⟩
      rw [hw']
      exact ((h.drew m1).setBad).drew m2
end
end Go.Proofs.YtgddmpmcnjlcjaaGreatDoor
namespace Go.Proofs.YtgddmpmcnjlcjaaGreatDoor
open Go.RowKit
open Tm (TsOk DsOk Wd16)
set_option linter.unusedVariables false
section
variable {w0 wf : World} {F A : Nat → Prop} {P : Nat} {l : List DB} {R gv gc cc : Nat} {ga : Nat → Nat} {N N' : Nat} {m : Tm.M} {w w' : World}
theorem RunAt.bad (h : RunAt w0 wf F A P l R gv gc cc ga N m w) : w.cell? ⟨R, 4, none⟩ = some (.bool m.bad) := by
  obtain ⟨st, g, ca, h1⟩ := h.at_
  exact h1.row.cell (i := 4) (by omega)
theorem RunAt.old (h : RunAt w0 wf F A P l R gv gc cc ga N m w) {a : Addr} {v : Value} (ha : w0.cell? a = some v) : w.cell? a = some v :=
  (World.cell?_of_block (h.bel.block a.block (World.block_lt_of_cell? w0 a ha))).trans ha
theorem RunAt.v0 (h : RunAt w0 wf F A P l R gv gc cc ga N m w) : w.cell? ⟨R, 1, none⟩ = some (.slice (some ⟨gv, 0, none⟩) l.length l.length) := by
  obtain ⟨st, g, ca, h1⟩ := h.at_
  exact h1.row.cell (i := 1) (by omega)
theorem idx_lt (p : PS w0 P l) {u : Lk.Wd} (ha : Rf.scalar (dcs l) u = true) : Tm.idx (dcs l) u < l.length := by
  obtain ⟨h1, -⟩ := kind_name p.ok (scalar_kind ha)
  unfold Tm.idx
  cases hx : Rf.oneOf u ((dcs l).map Rf.Dc.name) with
  | none => rw [hx] at h1; cases h1
  | some i =>
    have := oneOf_lt hx
    simpa [dcs] using this
theorem value_at (h : RunAt w0 wf F A P l R gv gc cc ga N m w) (p : PS w0 P l) {s : ByteArray} {u : Lk.Wd} (hu : s.toList = u) (ha : Rf.atom (dcs l) u = true) {x : Nat} (hx : Tm.value (dcs l) m u = x) :
    Calls Tryz.prog 88 #[.pointer (some ⟨R, 0, none⟩), .string s] w fun e w' => e = .returned (.int .i64 x) ∧ ∃ k, w' = w.drewN k := by
  subst hu hx
  exact value_run h p ha
theorem index_at (h : RunAt w0 wf F A P l R gv gc cc ga N m w) (p : PS w0 P l) {s : ByteArray} {u : Lk.Wd} (hu : s.toList = u) (ha : Rf.scalar (dcs l) u = true) {x : Nat} (hx : Tm.idx (dcs l) u = x) :
    Calls Tryz.prog 91 #[.pointer (some ⟨R, 0, none⟩), .string s] w fun e w' => e = .returned (.int .i64 x) ∧ w' = w := by
  subst hu hx
  exact index_run h p ha
set_option maxRecDepth 100000 in
set_option maxHeartbeats 400000 in
theorem rstep_bad (h : RunAt w0 wf F A P l R gv gc cc ga N m w) (hb : m.bad = true) :
    Calls Tryz.prog 53 #[.pointer (some ⟨R, 0, none⟩)] w fun e w' => e = .returned (.int .i64 ((80 : Nat) : Int)) ∧ RunAt w0 wf F A P l R gv gc cc ga N m w' := by
  have b4 := h.bad
  rw [hb] at b4
  have H := hid h
  clear h hb
  go_enter Tryz.func53, Tryz.ntmps53
  go_wp2_with (first | (go_at_call 85; refine (ritem_any 5 0 _ (by omega) (by omega)).mono ?_; rintro e w' ⟨rfl, hw'⟩; subst hw'))
  go_ret
  exact ⟨rfl, H.out⟩
set_option maxRecDepth 100000 in
set_option maxHeartbeats 400000 in
theorem rstep_none (h : RunAt w0 wf F A P l R gv gc cc ga N m w) (hb : m.bad = false) (hN : N ≤ 900) (hp : Tm.pop m.at_ = []) :
    Calls Tryz.prog 53 #[.pointer (some ⟨R, 0, none⟩)] w fun e w' => e = .returned (.int .i64 ((64 : Nat) : Int)) ∧ RunAt w0 wf F A P l R gv gc cc ga N { m with at_ := [] } w' := by
  have b4 := h.bad
  rw [hb] at b4
  have H := hid h
  have HP := hid hp
  clear h hb hp
  go_enter Tryz.func53, Tryz.ntmps53
  go_wp2_with (first
    | (go_at_call 86; refine (find_run H.out hN).mono ?_; rintro e w1 ⟨r, rfl, hr1, hr2, -⟩; have hr3 := hr2 HP.out; subst hr3; rw [HP.out] at hr1; have HR1 := hid hr1; clear hr1 hr2)
    | (go_at_call 85; refine (ritem_any 4 0 _ (by omega) (by omega)).mono ?_; rintro e w' ⟨rfl, hw'⟩; subst hw'))
  go_ret
  exact ⟨rfl, HR1.out⟩
theorem ws_two {ws : List ByteArray} {W : List Lk.Wd} (h : W = ws.map ByteArray.toList) (hl : W.length = 2) : ∃ a b, ws = [a, b] ∧ a.toList = Lk.wd W 0 ∧ b.toList = Lk.wd W 1 := by
  subst h
  match ws, hl with
  | [a, b], _ => exact ⟨a, b, rfl, rfl, rfl⟩
theorem ws_three {ws : List ByteArray} {W : List Lk.Wd} (h : W = ws.map ByteArray.toList) (hl : W.length = 3) : ∃ a b c, ws = [a, b, c] ∧ a.toList = Lk.wd W 0 ∧ b.toList = Lk.wd W 1 ∧ c.toList = Lk.wd W 2 := by
  subst h
  match ws, hl with
  | [a, b, c], _ => exact ⟨a, b, c, rfl, rfl, rfl, rfl⟩
theorem ws_four {ws : List ByteArray} {W : List Lk.Wd} (h : W = ws.map ByteArray.toList) (hl : W.length = 4) : ∃ a b c d, ws = [a, b, c, d] ∧ W = [a.toList, b.toList, c.toList, d.toList] := by
  subst h
  match ws, hl with
  | [a, b, c, d], _ => exact ⟨a, b, c, d, rfl, rfl⟩
theorem ws_five {ws : List ByteArray} {W : List Lk.Wd} (h : W = ws.map ByteArray.toList) (hl : W.length = 5) : ∃ a b c d e, ws = [a, b, c, d, e] ∧ a.toList = Lk.wd W 0 ∧ c.toList = Lk.wd W 2 ∧ d.toList = Lk.wd W 3 ∧ e.toList = Lk.wd W 4 := by
  subst h
  match ws, hl with
  | [a, b, c, d, e], _ => exact ⟨a, b, c, d, e, rfl, rfl, rfl, rfl, rfl⟩
structure Fnd (w : World) (sb gw n cw : Nat) (vb vo : Value) (ws : List ByteArray) : Prop where
  s0 : w.cell? ⟨sb, 0, none⟩ = some (.slice (some ⟨gw, 0, none⟩) n cw)
  s1 : w.cell? ⟨sb, 1, none⟩ = some vb
  s2 : w.cell? ⟨sb, 2, none⟩ = some vo
  hW : Wds w gw ws
theorem Fnd.later {sb gw n cw : Nat} {vb vo : Value} {ws : List ByteArray} (f : Fnd w0 sb gw n cw vb vo ws) (h : RunAt w0 wf F A P l R gv gc cc ga N m w) : Fnd w sb gw n cw vb vo ws := ⟨h.old f.s0, h.old f.s1, h.old f.s2, fun i hi => h.old (f.hW i hi)⟩
theorem fnd_of {sb : Nat} {W : List Lk.Wd} {B O : List Rf.Tr} (h : StmtAt w0 A (dcs l) sb (.node W B O)) : ∃ gw cw ws vb vo, W = ws.map ByteArray.toList ∧ Fnd w0 sb gw ws.length cw vb vo ws ∧ Sub w0 A vb B ∧ Sub w0 A vo O := by
  obtain ⟨gw, cw, ws, vb, vo, body, other, ht, hr, hW, h0, hb, ho, hk⟩ := h
  cases ht
  exact ⟨gw, cw, ws, vb, vo, rfl, ⟨hr.cell (i := 0) (by omega), hr.cell (i := 1) (by omega), hr.cell (i := 2) (by omega), hW⟩, hb, ho⟩
theorem sub_val {v : Value} {ts : List Rf.Tr} (h : Sub w0 A v ts) : ∃ al nl cl, v = .slice al nl cl := by
  obtain ⟨bs, ⟨ad, c, e, _⟩, _⟩ := h
  exact ⟨_, _, _, e⟩
set_option maxRecDepth 100000 in
set_option maxHeartbeats 400000 in
theorem rstep_out (h : RunAt w0 wf F A P l R gv gc cc ga N m w) (p : PS w0 P l) (h16 : Wd16 m) (hb : m.bad = false) (hN : N ≤ 900) {ts : List Rf.Tr} {i : Nat} {q : List (List Rf.Tr × Nat)} (hp : Tm.pop m.at_ = (ts, i) :: q) {W : List Lk.Wd} {B O : List Rf.Tr} (hd : ts.getD i (.node [] [] []) = .node W B O) (hl : W.length = 2) (h0 : Lk.wd W 0 = Rf.wOut) (ha : Rf.atom (dcs l) (Lk.wd W 1) = true) :
    Calls Tryz.prog 53 #[.pointer (some ⟨R, 0, none⟩)] w fun e w' => e = .returned (.int .i64 ((48 + Tm.value (dcs l) m (Lk.wd W 1) : Nat) : Int)) ∧ RunAt w0 wf F A P l R gv gc cc ga (N + 1) { m with at_ := (ts, i + 1) :: q } w' := by
  have b4 := h.bad
  rw [hb] at b4
  obtain ⟨x, hx⟩ : ∃ x, Tm.value (dcs l) m (Lk.wd W 1) = x := ⟨_, rfl⟩
  have hx16 : x < 16 := by rw [← hx]; exact h16.value _
  rw [hx]
  have H := hid h
  have HP := hid hp
  have HD := hid hd
  have HL := hid hl
  have H0 := hid h0
  have HA := hid ha
  have HX := hid hx
  have hxI : (x : Int) < 16 := by omega
  clear h hb hp hd hl h0 ha hx
  go_enter Tryz.func53, Tryz.ntmps53
  go_wp2_with (first
    | (go_at_call 86; refine (find_run H.out hN).mono ?_; rintro e w1 ⟨r, rfl, hr1, -, hr3⟩; obtain ⟨sb, hr4, hs⟩ := hr3 _ _ _ HP.out; subst hr4; rw [HD.out] at hs; obtain ⟨gw, cw, ws, vb, vo, hW, hf, -, -⟩ := fnd_of hs; obtain ⟨a, b, e1, e2, e3⟩ := ws_two hW HL.out; subst e1; rw [H0.out] at e2; have e2 : a.toList = [111, 117, 116] := e2; have HF := hid hf; have f1 := hf.later hr1; have s0 := f1.s0; have s1 := f1.s1; have y0 := f1.hW 0 (by simp); have y1 := f1.hW 1 (by simp); simp only [List.length_cons, List.length_nil, List.getD_cons_zero, List.getD_cons_succ, Nat.reduceAdd] at s0 y0 y1; have HB := hid e3; have HR1 := hid hr1; clear hr1 hr3 hs hW hf f1 e3))
  go_wp2_with (first
    | (go_at_call 87; refine (passed_run HR1.out HP.out hN).mono ?_; rintro e w2 ⟨rfl, hr2⟩; have f2 := HF.out.later hr2; have t1 := f2.hW 1 (by simp); simp only [List.getD_cons_zero, List.getD_cons_succ] at t1; have HR2 := hid hr2; clear hr2 f2)
    | (go_at_call 88; refine (value_at HR2.out p HB.out HA.out HX.out).mono ?_; rintro e w3 ⟨rfl, k3, hw3⟩; subst hw3)
    | (go_at_call 85; refine (ritem_any 3 x _ (by omega) hx16).mono ?_; rintro e w' ⟨rfl, hw'⟩; subst hw'))
  go_ret
  exact ⟨rfl, HR2.out.drew _⟩
end
end Go.Proofs.YtgddmpmcnjlcjaaGreatDoor
namespace Go.Proofs.YtgddmpmcnjlcjaaGreatDoor
open Go.RowKit
open Tm (TsOk DsOk Wd16)
set_option linter.unusedVariables false
section
variable {w0 wf : World} {F A : Nat → Prop} {P : Nat} {l : List DB} {R gv gc cc : Nat} {ga : Nat → Nat} {N N' : Nat} {m : Tm.M} {w w' : World}
set_option maxRecDepth 100000 in
set_option maxHeartbeats 400000 in
theorem rstep_if0 (h : RunAt w0 wf F A P l R gv gc cc ga N m w) (p : PS w0 P l) (h16 : Wd16 m) (hb : m.bad = false) (hN : N ≤ 800) {ts : List Rf.Tr} {i : Nat} {q : List (List Rf.Tr × Nat)} (hp : Tm.pop m.at_ = (ts, i) :: q) {W : List Lk.Wd} {B O : List Rf.Tr} (hd : ts.getD i (.node [] [] []) = .node W B O) (hl : W.length = 2) (h0 : Lk.wd W 0 = Rf.wIf) (ha : Rf.atom (dcs l) (Lk.wd W 1) = true) (hok : TsOk (dcs l) O) (hx : Tm.value (dcs l) m (Lk.wd W 1) = 0) :
    Calls Tryz.prog 53 #[.pointer (some ⟨R, 0, none⟩)] w fun e w' => e = .returned (.int .i64 ((16 : Nat) : Int)) ∧ RunAt w0 wf F A P l R gv gc cc ga (N + 2) { m with at_ := (O, 0) :: (ts, i + 1) :: q } w' := by
  have b4 := h.bad
  rw [hb] at b4
  obtain ⟨x, hxx⟩ : ∃ x, Tm.value (dcs l) m (Lk.wd W 1) = x := ⟨_, rfl⟩
  rw [hxx] at hx
  subst hx
  have hN9 : N ≤ 900 := by omega
  have H := hid h
  have HP := hid hp
  have HD := hid hd
  have HL := hid hl
  have HOK := hid hok
  have H0 := hid h0
  have HA := hid ha
  have HX := hid hxx
  clear h hb hp hd hl h0 ha hxx hok
  go_enter Tryz.func53, Tryz.ntmps53
  go_wp2_with (first
    | (go_at_call 86; refine (find_run H.out hN9).mono ?_; rintro e w1 ⟨r, rfl, hr1, -, hr3⟩; obtain ⟨sb, hr4, hs⟩ := hr3 _ _ _ HP.out; subst hr4; rw [HD.out] at hs; obtain ⟨gw, cw, ws, vb, vo, hW, hf, hsb, hso⟩ := fnd_of hs; obtain ⟨a, b, e1, e2, e3⟩ := ws_two hW HL.out; subst e1; rw [H0.out] at e2; have e2 : a.toList = [105, 102] := e2; have HB := hid e3; obtain ⟨al, nl, cl, ev⟩ := sub_val hso; subst ev; have HS := hid hso; clear hsb hso e3; have HF := hid hf; have f1 := hf.later hr1; have s0 := f1.s0; have y0 := f1.hW 0 (by simp); have y1 := f1.hW 1 (by simp); simp only [List.length_cons, List.length_nil, List.getD_cons_zero, List.getD_cons_succ, Nat.reduceAdd] at s0 y0 y1; have HR1 := hid hr1; clear hr1 hr3 hs hW hf f1))
  go_wp2_with (first
    | (go_at_call 88; refine (value_at HR1.out p HB.out HA.out HX.out).mono ?_; rintro e w3 ⟨rfl, k3, hw3⟩; subst hw3)
    | (go_at_call 87; refine (passed_run (HR1.out.drew _) HP.out hN9).mono ?_; rintro e w2 ⟨rfl, hr2⟩; have f2 := HF.out.later hr2; have t1 := f2.s2; have HR2 := hid hr2; clear hr2 f2)
    | (go_at_call 52; refine (enter_run HR2.out HS.out HOK.out (by omega)).mono ?_; rintro e w3 ⟨rfl, hr3⟩; have HR3 := hid hr3; clear hr3)
    | (go_at_call 85; refine (ritem_any 1 0 _ (by omega) (by omega)).mono ?_; rintro e w' ⟨rfl, hw'⟩; subst hw'))
  go_ret
  exact ⟨rfl, HR3.out⟩
set_option maxRecDepth 100000 in
set_option maxHeartbeats 400000 in
theorem rstep_if1 (h : RunAt w0 wf F A P l R gv gc cc ga N m w) (p : PS w0 P l) (h16 : Wd16 m) (hb : m.bad = false) (hN : N ≤ 800) {ts : List Rf.Tr} {i : Nat} {q : List (List Rf.Tr × Nat)} (hp : Tm.pop m.at_ = (ts, i) :: q) {W : List Lk.Wd} {B O : List Rf.Tr} (hd : ts.getD i (.node [] [] []) = .node W B O) (hl : W.length = 2) (h0 : Lk.wd W 0 = Rf.wIf) (ha : Rf.atom (dcs l) (Lk.wd W 1) = true) (hok : TsOk (dcs l) B) (hx : Tm.value (dcs l) m (Lk.wd W 1) ≠ 0) :
    Calls Tryz.prog 53 #[.pointer (some ⟨R, 0, none⟩)] w fun e w' => e = .returned (.int .i64 ((17 : Nat) : Int)) ∧ RunAt w0 wf F A P l R gv gc cc ga (N + 2) { m with at_ := (B, 0) :: (ts, i + 1) :: q } w' := by
  have b4 := h.bad
  rw [hb] at b4
  obtain ⟨x, hxx⟩ : ∃ x, Tm.value (dcs l) m (Lk.wd W 1) = x := ⟨_, rfl⟩
  rw [hxx] at hx
  have hxI : ((x : Int) == 0) = false := by simp; omega
  have hxJ : ((x : Int) = 0) = False := by simp; omega
  have hN9 : N ≤ 900 := by omega
  have H := hid h
  have HP := hid hp
  have HD := hid hd
  have HL := hid hl
  have HOK := hid hok
  have H0 := hid h0
  have HA := hid ha
  have HX := hid hxx
  clear h hb hp hd hl h0 ha hxx hok
  go_enter Tryz.func53, Tryz.ntmps53
  go_wp2_with (first
    | (go_at_call 86; refine (find_run H.out hN9).mono ?_; rintro e w1 ⟨r, rfl, hr1, -, hr3⟩; obtain ⟨sb, hr4, hs⟩ := hr3 _ _ _ HP.out; subst hr4; rw [HD.out] at hs; obtain ⟨gw, cw, ws, vb, vo, hW, hf, hsb, hso⟩ := fnd_of hs; obtain ⟨a, b, e1, e2, e3⟩ := ws_two hW HL.out; subst e1; rw [H0.out] at e2; have e2 : a.toList = [105, 102] := e2; have HB := hid e3; obtain ⟨al, nl, cl, ev⟩ := sub_val hsb; subst ev; have HS := hid hsb; clear hsb hso e3; have HF := hid hf; have f1 := hf.later hr1; have s0 := f1.s0; have y0 := f1.hW 0 (by simp); have y1 := f1.hW 1 (by simp); simp only [List.length_cons, List.length_nil, List.getD_cons_zero, List.getD_cons_succ, Nat.reduceAdd] at s0 y0 y1; have HR1 := hid hr1; clear hr1 hr3 hs hW hf f1))
  go_wp2_with (first
    | (go_at_call 88; refine (value_at HR1.out p HB.out HA.out HX.out).mono ?_; rintro e w3 ⟨rfl, k3, hw3⟩; subst hw3)
    | (go_at_call 87; refine (passed_run (HR1.out.drew _) HP.out hN9).mono ?_; rintro e w2 ⟨rfl, hr2⟩; have f2 := HF.out.later hr2; have t1 := f2.s1; have HR2 := hid hr2; clear hr2 f2)
    | (go_at_call 52; refine (enter_run HR2.out HS.out HOK.out (by omega)).mono ?_; rintro e w3 ⟨rfl, hr3⟩; have HR3 := hid hr3; clear hr3)
    | (go_at_call 85; refine (ritem_any 1 1 _ (by omega) (by omega)).mono ?_; rintro e w' ⟨rfl, hw'⟩; subst hw'))
  go_ret
  exact ⟨rfl, HR3.out⟩
end
end Go.Proofs.YtgddmpmcnjlcjaaGreatDoor
namespace Go.Proofs.YtgddmpmcnjlcjaaGreatDoor
open Go.RowKit
open Tm (TsOk DsOk Wd16)
set_option linter.unusedVariables false
section
variable {w0 wf : World} {F A : Nat → Prop} {P : Nat} {l : List DB} {R gv gc cc : Nat} {ga : Nat → Nat} {N N' : Nat} {m : Tm.M} {w w' : World}
set_option maxRecDepth 100000 in
set_option maxHeartbeats 400000 in
theorem rstep_wh0 (h : RunAt w0 wf F A P l R gv gc cc ga N m w) (p : PS w0 P l) (h16 : Wd16 m) (hb : m.bad = false) (hN : N ≤ 800) {ts : List Rf.Tr} {i : Nat} {q : List (List Rf.Tr × Nat)} (hp : Tm.pop m.at_ = (ts, i) :: q) {W : List Lk.Wd} {B O : List Rf.Tr} (hd : ts.getD i (.node [] [] []) = .node W B O) (hl : W.length = 2) (h0 : Lk.wd W 0 = Rf.wWhile) (ha : Rf.atom (dcs l) (Lk.wd W 1) = true) (hok : TsOk (dcs l) O) (hx : Tm.value (dcs l) m (Lk.wd W 1) = 0) :
    Calls Tryz.prog 53 #[.pointer (some ⟨R, 0, none⟩)] w fun e w' => e = .returned (.int .i64 ((16 : Nat) : Int)) ∧ RunAt w0 wf F A P l R gv gc cc ga (N + 2) { m with at_ := (O, 0) :: (ts, i + 1) :: q } w' := by
  have b4 := h.bad
  rw [hb] at b4
  obtain ⟨x, hxx⟩ : ∃ x, Tm.value (dcs l) m (Lk.wd W 1) = x := ⟨_, rfl⟩
  rw [hxx] at hx
  subst hx
  have hN9 : N ≤ 900 := by omega
  have H := hid h
  have HP := hid hp
  have HD := hid hd
  have HL := hid hl
  have HOK := hid hok
  have H0 := hid h0
  have HA := hid ha
  have HX := hid hxx
  clear h hb hp hd hl h0 ha hxx hok
  go_enter Tryz.func53, Tryz.ntmps53
  go_wp2_with (first
    | (go_at_call 86; refine (find_run H.out hN9).mono ?_; rintro e w1 ⟨r, rfl, hr1, -, hr3⟩; obtain ⟨sb, hr4, hs⟩ := hr3 _ _ _ HP.out; subst hr4; rw [HD.out] at hs; obtain ⟨gw, cw, ws, vb, vo, hW, hf, hsb, hso⟩ := fnd_of hs; obtain ⟨a, b, e1, e2, e3⟩ := ws_two hW HL.out; subst e1; rw [H0.out] at e2; have e2 : a.toList = [119, 104, 105, 108, 101] := e2; have HB := hid e3; obtain ⟨al, nl, cl, ev⟩ := sub_val hso; subst ev; have HS := hid hso; clear hsb hso e3; have HF := hid hf; have f1 := hf.later hr1; have s0 := f1.s0; have y0 := f1.hW 0 (by simp); have y1 := f1.hW 1 (by simp); simp only [List.length_cons, List.length_nil, List.getD_cons_zero, List.getD_cons_succ, Nat.reduceAdd] at s0 y0 y1; have HR1 := hid hr1; clear hr1 hr3 hs hW hf f1))
  go_wp2_with (first
    | (go_at_call 88; refine (value_at HR1.out p HB.out HA.out HX.out).mono ?_; rintro e w3 ⟨rfl, k3, hw3⟩; subst hw3)
    | (go_at_call 87; refine (passed_run (HR1.out.drew _) HP.out hN9).mono ?_; rintro e w2 ⟨rfl, hr2⟩; have f2 := HF.out.later hr2; have t1 := f2.s2; have HR2 := hid hr2; clear hr2 f2)
    | (go_at_call 52; refine (enter_run HR2.out HS.out HOK.out (by omega)).mono ?_; rintro e w3 ⟨rfl, hr3⟩; have HR3 := hid hr3; clear hr3)
    | (go_at_call 85; refine (ritem_any 1 0 _ (by omega) (by omega)).mono ?_; rintro e w' ⟨rfl, hw'⟩; subst hw'))
  go_ret
  exact ⟨rfl, HR3.out⟩
set_option maxRecDepth 100000 in
set_option maxHeartbeats 400000 in
theorem rstep_wh1 (h : RunAt w0 wf F A P l R gv gc cc ga N m w) (p : PS w0 P l) (h16 : Wd16 m) (hb : m.bad = false) (hN : N ≤ 800) {ts : List Rf.Tr} {i : Nat} {q : List (List Rf.Tr × Nat)} (hp : Tm.pop m.at_ = (ts, i) :: q) {W : List Lk.Wd} {B O : List Rf.Tr} (hd : ts.getD i (.node [] [] []) = .node W B O) (hl : W.length = 2) (h0 : Lk.wd W 0 = Rf.wWhile) (ha : Rf.atom (dcs l) (Lk.wd W 1) = true) (hok : TsOk (dcs l) B) (hx : Tm.value (dcs l) m (Lk.wd W 1) ≠ 0) :
    Calls Tryz.prog 53 #[.pointer (some ⟨R, 0, none⟩)] w fun e w' => e = .returned (.int .i64 ((17 : Nat) : Int)) ∧ RunAt w0 wf F A P l R gv gc cc ga (N + 1) { m with at_ := (B, 0) :: (ts, i) :: q } w' := by
  have b4 := h.bad
  rw [hb] at b4
  obtain ⟨x, hxx⟩ : ∃ x, Tm.value (dcs l) m (Lk.wd W 1) = x := ⟨_, rfl⟩
  rw [hxx] at hx
  have hxI : ((x : Int) == 0) = false := by simp; omega
  have hxJ : ((x : Int) = 0) = False := by simp; omega
  have hN9 : N ≤ 900 := by omega
  have H := hid h
  have HP := hid hp
  have HD := hid hd
  have HL := hid hl
  have HOK := hid hok
  have H0 := hid h0
  have HA := hid ha
  have HX := hid hxx
  clear h hb hp hd hl h0 ha hxx hok
  go_enter Tryz.func53, Tryz.ntmps53
  go_wp2_with (first
    | (go_at_call 86; refine (find_run H.out hN9).mono ?_; rintro e w1 ⟨r, rfl, hr1, -, hr3⟩; obtain ⟨sb, hr4, hs⟩ := hr3 _ _ _ HP.out; subst hr4; rw [HD.out] at hs; obtain ⟨gw, cw, ws, vb, vo, hW, hf, hsb, hso⟩ := fnd_of hs; obtain ⟨a, b, e1, e2, e3⟩ := ws_two hW HL.out; subst e1; rw [H0.out] at e2; have e2 : a.toList = [119, 104, 105, 108, 101] := e2; have HB := hid e3; obtain ⟨al, nl, cl, ev⟩ := sub_val hsb; subst ev; have HS := hid hsb; clear hsb hso e3; have HF := hid hf; have f1 := hf.later hr1; have s0 := f1.s0; have y0 := f1.hW 0 (by simp); have y1 := f1.hW 1 (by simp); simp only [List.length_cons, List.length_nil, List.getD_cons_zero, List.getD_cons_succ, Nat.reduceAdd] at s0 y0 y1; have HR1 := hid hr1; clear hr1 hr3 hs hW hf f1))
  go_wp2_with (first
    | (go_at_call 88; refine (value_at HR1.out p HB.out HA.out HX.out).mono ?_; rintro e w3 ⟨rfl, k3, hw3⟩; subst hw3; have z1 := (HF.out.later (HR1.out.drew k3)).s1)
    | (go_at_call 52; refine (enter_run (HR1.out.drew _) HS.out HOK.out hN9).mono ?_; rintro e w3 ⟨rfl, hr3⟩; have HR3 := hid hr3; clear hr3)
    | (go_at_call 85; refine (ritem_any 1 1 _ (by omega) (by omega)).mono ?_; rintro e w' ⟨rfl, hw'⟩; subst hw'))
  go_ret
  have h3 := HR3.out
  rw [HP.out] at h3
  exact ⟨rfl, h3⟩
end
end Go.Proofs.YtgddmpmcnjlcjaaGreatDoor
namespace Go.Proofs.YtgddmpmcnjlcjaaGreatDoor
open Go.RowKit
open Tm (TsOk DsOk Wd16)
set_option linter.unusedVariables false
section
variable {w0 wf : World} {F A : Nat → Prop} {P : Nat} {l : List DB} {R gv gc cc : Nat} {ga : Nat → Nat} {N N' : Nat} {m : Tm.M} {w w' : World}
set_option maxRecDepth 100000 in
set_option maxHeartbeats 400000 in
theorem rstep_load (h : RunAt w0 wf F A P l R gv gc cc ga N m w) (p : PS w0 P l) (h16 : Wd16 m) (hb : m.bad = false) (hN : N ≤ 800) {ts : List Rf.Tr} {i : Nat} {q : List (List Rf.Tr × Nat)} (hp : Tm.pop m.at_ = (ts, i) :: q) {W : List Lk.Wd} {B O : List Rf.Tr} (hd : ts.getD i (.node [] [] []) = .node W B O) (hl : W.length = 4) (h0 : Lk.wd W 0 = Rf.wLoad) (hok : Rf.fits (dcs l) W = true) :
    Calls Tryz.prog 53 #[.pointer (some ⟨R, 0, none⟩)] w fun e w' => e = .returned (.int .i64 ((Tm.plain (dcs l) W { m with at_ := (ts, i + 1) :: q }).1 : Nat)) ∧ RunAt w0 wf F A P l R gv gc cc ga (N + 1) (Tm.plain (dcs l) W { m with at_ := (ts, i + 1) :: q }).2 w' := by
  have b4 := h.bad
  rw [hb] at b4
  have hN9 : N ≤ 900 := by omega
  have H := hid h
  have HP := hid hp
  have HD := hid hd
  have HL := hid hl
  have HOK := hid hok
  have H0 := hid h0
  clear h hb hp hd hl h0 hok
  obtain ⟨o, ho⟩ : ∃ o, Tm.plain (dcs l) W { m with at_ := (ts, i + 1) :: q } = o := ⟨_, rfl⟩
  rw [ho]
  have HO := hid ho
  clear ho
  go_enter Tryz.func53, Tryz.ntmps53
  go_wp2_with (first
    | (go_at_call 86; refine (find_run H.out hN9).mono ?_; rintro e w1 ⟨r, rfl, hr1, -, hr3⟩; obtain ⟨sb, hr4, hs⟩ := hr3 _ _ _ HP.out; subst hr4; rw [HD.out] at hs; obtain ⟨gw, cw, ws, vb, vo, hW, hf, hsb, hso⟩ := fnd_of hs; obtain ⟨a, b, c, d, e1, e2⟩ := ws_four hW HL.out; subst e1; have hz : Lk.wd W 0 = a.toList := (by rw [e2]; rfl); rw [H0.out] at hz; have HZ := hid hz.symm; have ez : a.toList = [108, 111, 97, 100] := hz.symm; have HE := hid e2; clear hz e2; clear hsb hso; have HF := hid hf; have f1 := hf.later hr1; have s0 := f1.s0; have y0 := f1.hW 0 (by simp); simp only [List.length_cons, List.length_nil, List.getD_cons_zero, Nat.reduceAdd] at s0 y0; have HR1 := hid hr1; clear hr1 hr3 hs hW hf f1))
  go_wp2_with (first
    | (go_at_call 87; refine (passed_run HR1.out HP.out hN9).mono ?_; rintro e w2 ⟨rfl, hr2⟩; have HR2 := hid hr2; clear hr2)
    | (go_at_call 89; refine (cell_run HR2.out p (h16.at _) gw cw a b c d (HF.out.later HR2.out).hW (by have h := HOK.out; rw [HE.out] at h; exact h) (.inl HZ.out)).mono ?_; rintro e w3 ⟨rfl, hr3⟩; rw [← HE.out] at hr3 ⊢; have HR3 := hid hr3; clear hr3))
  go_ret
  have h3 := HR3.out
  have ho := HO.out
  rw [ho] at h3
  exact ⟨congrArg (fun z : Nat × Tm.M => Ending.returned (Value.int .i64 ((z.1 : Nat) : Int))) ho, h3⟩
set_option maxRecDepth 100000 in
set_option maxHeartbeats 400000 in
theorem rstep_store (h : RunAt w0 wf F A P l R gv gc cc ga N m w) (p : PS w0 P l) (h16 : Wd16 m) (hb : m.bad = false) (hN : N ≤ 800) {ts : List Rf.Tr} {i : Nat} {q : List (List Rf.Tr × Nat)} (hp : Tm.pop m.at_ = (ts, i) :: q) {W : List Lk.Wd} {B O : List Rf.Tr} (hd : ts.getD i (.node [] [] []) = .node W B O) (hl : W.length = 4) (h0 : Lk.wd W 0 = Rf.wStore) (hok : Rf.fits (dcs l) W = true) :
    Calls Tryz.prog 53 #[.pointer (some ⟨R, 0, none⟩)] w fun e w' => e = .returned (.int .i64 ((Tm.plain (dcs l) W { m with at_ := (ts, i + 1) :: q }).1 : Nat)) ∧ RunAt w0 wf F A P l R gv gc cc ga (N + 1) (Tm.plain (dcs l) W { m with at_ := (ts, i + 1) :: q }).2 w' := by
  have b4 := h.bad
  rw [hb] at b4
  have hN9 : N ≤ 900 := by omega
  have H := hid h
  have HP := hid hp
  have HD := hid hd
  have HL := hid hl
  have HOK := hid hok
  have H0 := hid h0
  clear h hb hp hd hl h0 hok
  obtain ⟨o, ho⟩ : ∃ o, Tm.plain (dcs l) W { m with at_ := (ts, i + 1) :: q } = o := ⟨_, rfl⟩
  rw [ho]
  have HO := hid ho
  clear ho
  go_enter Tryz.func53, Tryz.ntmps53
  go_wp2_with (first
    | (go_at_call 86; refine (find_run H.out hN9).mono ?_; rintro e w1 ⟨r, rfl, hr1, -, hr3⟩; obtain ⟨sb, hr4, hs⟩ := hr3 _ _ _ HP.out; subst hr4; rw [HD.out] at hs; obtain ⟨gw, cw, ws, vb, vo, hW, hf, hsb, hso⟩ := fnd_of hs; obtain ⟨a, b, c, d, e1, e2⟩ := ws_four hW HL.out; subst e1; have hz : Lk.wd W 0 = a.toList := (by rw [e2]; rfl); rw [H0.out] at hz; have HZ := hid hz.symm; have ez : a.toList = [115, 116, 111, 114, 101] := hz.symm; have HE := hid e2; clear hz e2; clear hsb hso; have HF := hid hf; have f1 := hf.later hr1; have s0 := f1.s0; have y0 := f1.hW 0 (by simp); simp only [List.length_cons, List.length_nil, List.getD_cons_zero, Nat.reduceAdd] at s0 y0; have HR1 := hid hr1; clear hr1 hr3 hs hW hf f1))
  go_wp2_with (first
    | (go_at_call 87; refine (passed_run HR1.out HP.out hN9).mono ?_; rintro e w2 ⟨rfl, hr2⟩; have HR2 := hid hr2; clear hr2)
    | (go_at_call 89; refine (cell_run HR2.out p (h16.at _) gw cw a b c d (HF.out.later HR2.out).hW (by have h := HOK.out; rw [HE.out] at h; exact h) (.inr HZ.out)).mono ?_; rintro e w3 ⟨rfl, hr3⟩; rw [← HE.out] at hr3 ⊢; have HR3 := hid hr3; clear hr3))
  go_ret
  have h3 := HR3.out
  have ho := HO.out
  rw [ho] at h3
  exact ⟨congrArg (fun z : Nat × Tm.M => Ending.returned (Value.int .i64 ((z.1 : Nat) : Int))) ho, h3⟩
end
end Go.Proofs.YtgddmpmcnjlcjaaGreatDoor
namespace Go.Proofs.YtgddmpmcnjlcjaaGreatDoor
open Go.RowKit
open Tm (TsOk DsOk Wd16)
set_option linter.unusedVariables false
section
variable {w0 wf : World} {F A : Nat → Prop} {P : Nat} {l : List DB} {R gv gc cc : Nat} {ga : Nat → Nat} {N N' : Nat} {m : Tm.M} {w w' : World}
set_option maxRecDepth 100000 in
set_option maxHeartbeats 400000 in
theorem rstep_set3 (h : RunAt w0 wf F A P l R gv gc cc ga N m w) (p : PS w0 P l) (h16 : Wd16 m) (hb : m.bad = false) (hN : N ≤ 800) {ts : List Rf.Tr} {i : Nat} {q : List (List Rf.Tr × Nat)} (hp : Tm.pop m.at_ = (ts, i) :: q) {W : List Lk.Wd} {B O : List Rf.Tr} (hd : ts.getD i (.node [] [] []) = .node W B O) (hl : W.length = 3) (n0 : (Lk.wd W 0 == [111, 117, 116]) = false) (n1 : (Lk.wd W 0 == [105, 102]) = false) (n2 : (Lk.wd W 0 == [119, 104, 105, 108, 101]) = false) (n3 : (Lk.wd W 0 == [108, 111, 97, 100]) = false) (n4 : (Lk.wd W 0 == [115, 116, 111, 114, 101]) = false) (hok : Rf.scalar (dcs l) (Lk.wd W 0) = true) (ha : Rf.atom (dcs l) (Lk.wd W 2) = true) :
    Calls Tryz.prog 53 #[.pointer (some ⟨R, 0, none⟩)] w fun e w' => e = .returned (.int .i64 ((0 : Nat) : Int)) ∧ RunAt w0 wf F A P l R gv gc cc ga (N + 1) { m with at_ := (ts, i + 1) :: q, vals := Lk.upd m.vals (Tm.idx (dcs l) (Lk.wd W 0)) (Tm.value (dcs l) m (Lk.wd W 2)) } w' := by
  have b4 := h.bad
  rw [hb] at b4
  obtain ⟨x, hx⟩ : ∃ x, Tm.value (dcs l) m (Lk.wd W 2) = x := ⟨_, rfl⟩
  have hx16 : x < 16 := by rw [← hx]; exact h16.value _
  rw [hx]
  obtain ⟨j, hj⟩ : ∃ j, Tm.idx (dcs l) (Lk.wd W 0) = j := ⟨_, rfl⟩
  rw [hj]
  have hN9 : N ≤ 900 := by omega
  have H := hid h
  have HP := hid hp
  have HD := hid hd
  have HL := hid hl
  have HOK := hid hok
  have HA := hid ha
  have HX := hid hx
  have HJ := hid hj
  have hjl : j < l.length := by rw [← hj]; exact idx_lt p hok
  have hjI : (j : Int) < (l.length : Int) := by omega
  have hlI : (l.length : Int) ≤ 1000 := by have := p.len; omega
  clear h hb hp hd hl ha hx hj hok
  go_enter Tryz.func53, Tryz.ntmps53
  go_wp2_with (first
    | (go_at_call 86; refine (find_run H.out hN9).mono ?_; rintro e w1 ⟨r, rfl, hr1, -, hr3⟩; obtain ⟨sb, hr4, hs⟩ := hr3 _ _ _ HP.out; subst hr4; rw [HD.out] at hs; obtain ⟨gw, cw, ws, vb, vo, hW, hf, hsb, hso⟩ := fnd_of hs; obtain ⟨a, b, c, e1, e2, e3, e4⟩ := ws_three hW HL.out; subst e1; have k0 := e2; have m0 := n0; have m1 := n1; have m2 := n2; have m3 := n3; have m4 := n4; rw [← e2] at m0 m1 m2 m3 m4; have HE0 := hid e2; have HE2 := hid e4; clear e2 e3 e4 hsb hso k0; have HF := hid hf; have f1 := hf.later hr1; have s0 := f1.s0; have y0 := f1.hW 0 (by simp); simp only [List.length_cons, List.length_nil, List.getD_cons_zero, Nat.reduceAdd] at s0 y0; have HR1 := hid hr1; clear hr1 hr3 hs hW hf f1))
  go_wp2_with (first
    | (go_at_call 87; refine (passed_run HR1.out HP.out hN9).mono ?_; rintro e w2 ⟨rfl, hr2⟩; have f2 := HF.out.later hr2; have t0 := f2.hW 0 (by simp); have t2 := f2.hW 2 (by simp); simp only [List.getD_cons_zero, List.getD_cons_succ] at t0 t2; have v0 := hr2.v0; have v1 := hr2.vals.cell hjl; have v2 := hr2.vals.frozen j; have HR2 := hid hr2; clear hr2 f2)
    | (go_at_call_of 88 (Value.string c); refine (value_at HR2.out p HE2.out HA.out HX.out).mono ?_; rintro e w3 ⟨rfl, k3, hw3⟩; subst hw3)
    | (go_at_call 91; refine (index_at (HR2.out.drew _) p HE0.out HOK.out HJ.out).mono ?_; rintro e w6 ⟨rfl, hw6⟩; have hw7 := hw6.symm; subst hw7)
    | (go_at_call 85; refine (ritem_any 0 0 _ (by omega) (by omega)).mono ?_; rintro e w' ⟨rfl, hw'⟩; subst hw'))
  go_ret
  exact ⟨rfl, (HR2.out.drew _).setVal _ _⟩
end
end Go.Proofs.YtgddmpmcnjlcjaaGreatDoor
