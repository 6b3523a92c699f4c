import Derived.Test.YtgddmpmcnjlcjabDoorB33
namespace Go.Proofs.YtgddmpmcnjlcjabDoor
open Go.RowKit
set_option linter.unusedVariables false
theorem row_later {a b : World} {q n : Nat} {t : TypeId} {f : Nat → Value} (h : a.rowIs q t n f) (hb : Below a.heap.size a b) : b.rowIs q t n f := h.of_block (hb.block q h.lt)
def rpc (i : Nat) : Value := if i = 0 then .int .i64 0 else if i = 1 then .slice none 0 0 else if i = 2 then .slice none 0 0 else if i = 3 then .int .i64 0 else if i = 4 then .int .i64 0 else if i = 5 then .string ⟨#[]⟩ else if i = 6 then .string ⟨#[]⟩ else .int .i64 0
theorem rep_kd9 {G : Prop} {X w1 : World} (hb : Below (X.alloc (.cells #[.int .i64 0, .slice none 0 0, .slice none 0 0, .int .i64 0, .int .i64 0, .string ⟨#[]⟩, .string ⟨#[]⟩, .int .i64 0, .int .i64 0] 29)).drew.heap.size (X.alloc (.cells #[.int .i64 0, .slice none 0 0, .slice none 0 0, .int .i64 0, .int .i64 0, .string ⟨#[]⟩, .string ⟨#[]⟩, .int .i64 0, .int .i64 0] 29)).drew w1)
    (k : (w1.cell? ⟨X.heap.size, 0, none⟩ = some (.int .i64 0)) → (w1.cell? ⟨X.heap.size, 1, none⟩ = some (.slice none 0 0)) → (w1.cell? ⟨X.heap.size, 2, none⟩ = some (.slice none 0 0)) → (w1.cell? ⟨X.heap.size, 3, none⟩ = some (.int .i64 0)) → (w1.cell? ⟨X.heap.size, 4, none⟩ = some (.int .i64 0)) → (w1.cell? ⟨X.heap.size, 5, none⟩ = some (.string ⟨#[]⟩)) → (w1.cell? ⟨X.heap.size, 6, none⟩ = some (.string ⟨#[]⟩)) → (w1.cell? ⟨X.heap.size, 7, none⟩ = some (.int .i64 0)) → (w1.cell? ⟨X.heap.size, 8, none⟩ = some (.int .i64 0)) → (∀ i, w1.frozen? ⟨X.heap.size, i, none⟩ = false) → G) : G := by
  have r : ((X.alloc (.cells #[.int .i64 0, .slice none 0 0, .slice none 0 0, .int .i64 0, .int .i64 0, .string ⟨#[]⟩, .string ⟨#[]⟩, .int .i64 0, .int .i64 0] 29)).drew).rowIs X.heap.size 29 9 rpc := cells_row (hp_new' _ _ _ rfl) rfl (fun i hi => by
    match i, hi with
    | 0, _ => rfl
    | 1, _ => rfl
    | 2, _ => rfl
    | 3, _ => rfl
    | 4, _ => rfl
    | 5, _ => rfl
    | 6, _ => rfl
    | 7, _ => rfl
    | 8, _ => rfl
    | n + 9, h => omega)
  have r2 := row_later r hb
  exact k (r2.cell (i := 0) (by omega)) (r2.cell (i := 1) (by omega)) (r2.cell (i := 2) (by omega)) (r2.cell (i := 3) (by omega)) (r2.cell (i := 4) (by omega)) (r2.cell (i := 5) (by omega)) (r2.cell (i := 6) (by omega)) (r2.cell (i := 7) (by omega)) (r2.cell (i := 8) (by omega)) (fun i => r2.frozen i)
theorem cell_realloc {X : World} {o o' : Obj} {p : Addr} {v : Value} (h : (X.alloc o).cell? p = some v) (hp : p.block < X.heap.size) : (X.alloc o').cell? p = some v :=
  (World.cell?_of_block ((Below.heap_alloc X o' p.block hp).trans (Below.heap_alloc X o p.block hp).symm)).trans h
section
variable {base q : Nat} {a w : World}
theorem bel9k (h : Below base a w) (hq : base ≤ q) (v0 v1 v2 v3 v4 v5 v6 v7 v8 : Value) : Below base a (((((((((w.setCell ⟨q, 0, none⟩ v0).setCell ⟨q, 1, none⟩ v1).setCell ⟨q, 2, none⟩ v2).setCell ⟨q, 3, none⟩ v3).setCell ⟨q, 4, none⟩ v4).setCell ⟨q, 5, none⟩ v5).setCell ⟨q, 6, none⟩ v6).setCell ⟨q, 7, none⟩ v7).setCell ⟨q, 8, none⟩ v8) :=
  ((((((((h.setCell (p := ⟨q, 0, none⟩) hq _).setCell (p := ⟨q, 1, none⟩) hq _).setCell (p := ⟨q, 2, none⟩) hq _).setCell (p := ⟨q, 3, none⟩) hq _).setCell (p := ⟨q, 4, none⟩) hq _).setCell (p := ⟨q, 5, none⟩) hq _).setCell (p := ⟨q, 6, none⟩) hq _).setCell (p := ⟨q, 7, none⟩) hq _).setCell (p := ⟨q, 8, none⟩) hq _
theorem frm9k (v0 v1 v2 v3 v4 v5 v6 v7 v8 : Value) : Frm 0 (fun k => k = q) w (((((((((w.setCell ⟨q, 0, none⟩ v0).setCell ⟨q, 1, none⟩ v1).setCell ⟨q, 2, none⟩ v2).setCell ⟨q, 3, none⟩ v3).setCell ⟨q, 4, none⟩ v4).setCell ⟨q, 5, none⟩ v5).setCell ⟨q, 6, none⟩ v6).setCell ⟨q, 7, none⟩ v7).setCell ⟨q, 8, none⟩ v8) :=
  Frm.setCell (p := ⟨q, 8, none⟩) (Frm.setCell (p := ⟨q, 7, none⟩) (Frm.setCell (p := ⟨q, 6, none⟩) (Frm.setCell (p := ⟨q, 5, none⟩) (Frm.setCell (p := ⟨q, 4, none⟩) (Frm.setCell (p := ⟨q, 3, none⟩) (Frm.setCell (p := ⟨q, 2, none⟩) (Frm.setCell (p := ⟨q, 1, none⟩) (Frm.setCell (p := ⟨q, 0, none⟩) (Frm.refl 0 (fun k => k = q) w) (Nat.zero_le _) rfl _) (Nat.zero_le _) rfl _) (Nat.zero_le _) rfl _) (Nat.zero_le _) rfl _) (Nat.zero_le _) rfl _) (Nat.zero_le _) rfl _) (Nat.zero_le _) rfl _) (Nat.zero_le _) rfl _) (Nat.zero_le _) rfl _
end
set_option maxRecDepth 100000 in
set_option maxHeartbeats 4000000 in
theorem check_nofit (s : ByteArray) (k n c : Nat) (w : World) (htab : Tab w) (hk : k ≤ 10) (hn : n ≤ 1048576) (hc : c ≤ 1048576) (hl : (Lk.read s.toList).2 = 0) (hfit : ¬ Dg.Fits (pgOf s.toList) k n) :
    Calls Tryd.prog 8 #[.string s, .int .i64 k, .agg #[.int .i64 n, .int .i64 c]] w fun e w' => CkOut w w' e (pgOf s.toList) k n c := by
  have h1 : wi k 10 = true := by unfold wi; exact decide_eq_true ⟨by omega, by omega⟩
  have h2 : wi n 1048576 = true := by unfold wi; exact decide_eq_true ⟨by omega, by omega⟩
  have h3 : wi c 1048576 = true := by unfold wi; exact decide_eq_true ⟨by omega, by omega⟩
  have HR := hid (show ∀ W : World, Calls Tryd.prog 16 #[.string s] W fun e w1 => ∃ vs vc vk nv, e = .returned (.tuple #[.agg #[vs, .int .i64 nv, vc, vk], .int .i64 0]) ∧ PgAt w1 (pgOf s.toList) vs vc vk ∧ Below W.heap.size W w1 from fun W => (read_any _ _).mono (fun e w1 R => by
    obtain ⟨vs, vc, vk, he, o1, o2, o3⟩ := R.good hl
    exact ⟨vs, vc, vk, _, he, ⟨ownsRow_low o1 (Nat.zero_le _), ownsRow_low o2 (Nat.zero_le _), ownsRow_low o3 (Nat.zero_le _)⟩, R.bel⟩))
  have OK := hid (pgOf_ok s.toList)
  have HT := hid htab
  clear hl htab
  generalize pgOf s.toList = p at HR OK hfit
  have HNF := hid hfit
  clear hfit
  obtain ⟨W0, hW0⟩ : ∃ W0 : World, (w.alloc (.cells #[.int .i64 n, .int .i64 c] 25)).alloc (.cells #[.int .i64 0, .slice none 0 0, .slice none 0 0, .int .i64 0, .int .i64 0, .string ⟨#[]⟩, .string ⟨#[]⟩, .int .i64 0, .int .i64 0] 29) = W0 := ⟨_, rfl⟩
  have hz0 : W0.heap.size = w.heap.size + 2 := by rw [← hW0]; simp
  have HB0 := hid (show Below w.heap.size w W0 by rw [← hW0]; exact ((Below.refl _ _).alloc (Nat.le_refl _) _).alloc (by simp) _)
  have HL0 := hid (show W0.rowIs w.heap.size 25 2 (prc (.int .i64 n) (.int .i64 c)) by
    rw [← hW0]
    exact cells_row (hp_old' _ _ _ _ (hp_new' _ _ _ rfl)) rfl (fun i hi => by
      match i, hi with
      | 0, _ => rfl
      | 1, _ => rfl
      | n + 2, h => omega))
  have HR0 := hid (show W0.rowIs (w.heap.size + 1) 29 9 rpc by
    rw [← hW0]
    exact cells_row (hp_new' _ _ _ (by simp)) rfl (fun i hi => by
      match i, hi with
      | 0, _ => rfl
      | 1, _ => rfl
      | 2, _ => rfl
      | 3, _ => rfl
      | 4, _ => rfl
      | 5, _ => rfl
      | 6, _ => rfl
      | 7, _ => rfl
      | 8, _ => rfl
      | n + 9, h => omega))
  have HE := hid hW0
  clear hW0
  go_enter Tryd.func8, Tryd.ntmps8
  go_wp2_with (first
    | (go_at_call 15; refine (within_any _ _ _).mono ?_; rintro e w' ⟨rfl, rfl⟩)
    | (go_at_call 16; rw [HE.out]; refine (HR.out _).mono ?_; rintro e w1 ⟨vs, vc, vk, nv, rfl, hp1, hb1⟩; have HP1 := hid hp1; have HB1 := hid hb1; clear hp1 hb1; refine Hid.out ?_))
  refine hid ?_
  obtain ⟨as0, cs0, es⟩ := body_val HP1.out.s
  obtain ⟨ac, cc, ec⟩ := body_val HP1.out.c
  obtain ⟨ak, ck, ek⟩ := body_val HP1.out.k
  subst es ec ek
  obtain ⟨W1, hW1⟩ : ∃ W1 : World, w1.alloc (.cells #[.slice as0 p.sec.length cs0, .int .i64 nv, .slice ac p.cells.length cc, .slice ak p.code.length ck] 44) = W1 := ⟨_, rfl⟩
  have z1 := HB1.out.size
  have hz1 : W1.heap.size = w1.heap.size + 1 := by rw [← hW1]; simp
  have HBW1 := hid (show Below w1.heap.size w1 W1 by rw [← hW1]; exact (Below.refl _ _).alloc (Nat.le_refl _) _)
  have HP2 := hid (HP1.out.same HBW1.out)
  have HPB := hid (show W1.rowIs w1.heap.size 44 4 (pgc (.slice as0 p.sec.length cs0) (.slice ac p.cells.length cc) (.slice ak p.code.length ck) nv) by rw [← hW1]; exact pg_row (hp_new' _ _ _ rfl))
  have HB01 := hid (show Below w.heap.size w W1 from (HB0.out.trans (HB1.out.mono (by omega))).trans (HBW1.out.mono (by omega)))
  have HL1 := hid (row_later (row_later HL0.out HB1.out) HBW1.out)
  have HR1 := hid (row_later (row_later HR0.out HB1.out) HBW1.out)
  have HE1 := hid hW1
  have l0 := fun o => ((row_later HL0.out HB1.out).alloc o).cell (i := 0) (by omega)
  have l0' := (row_later HL0.out HB1.out).cell (i := 0) (by omega)
  rw [show ∀ a b, prc a b 0 = a from fun _ _ => rfl] at l0 l0'
  have C := hid ((of_any p OK.out k hk n hn W1 _ _ _ nv HP2.out).mono (fun e w' h => (⟨h.no HNF.out, h.bel⟩ : _ ∧ _)))
  clear hW1 HE HR
  go_wp2_with (go_at_call 17; rw [HE1.out]; refine C.out.mono ?_; rintro e w2 ⟨rfl, hb2⟩; have HB2 := hid hb2; clear hb2; refine Hid.out ?_)
  refine hid ?_
  have z2 := HB2.out.size
  have HL2 := hid (row_later HL1.out HB2.out)
  have HR2 := hid (row_later HR1.out HB2.out)
  have HPB2 := hid (row_later HPB.out HB2.out)
  have HP3 := hid (HP2.out.same HB2.out)
  have HBB2 := hid (show Below w.heap.size w w2 from HB01.out.trans (HB2.out.mono (by omega)))
  clear HE1 l0 l0' C HL0 HR0 HL1 HR1 HPB HP1 HP2 HB0 HB01
  have q0 := fun o => (HR2.out.alloc o).cell (i := 0) (by omega)
  have q1 := fun o => (HR2.out.alloc o).cell (i := 1) (by omega)
  have q2 := fun o => (HR2.out.alloc o).cell (i := 2) (by omega)
  have q3 := fun o => (HR2.out.alloc o).cell (i := 3) (by omega)
  have q4 := fun o => (HR2.out.alloc o).cell (i := 4) (by omega)
  have q5 := fun o => (HR2.out.alloc o).cell (i := 5) (by omega)
  have q6 := fun o => (HR2.out.alloc o).cell (i := 6) (by omega)
  have q7 := fun o => (HR2.out.alloc o).cell (i := 7) (by omega)
  have q8 := fun o => (HR2.out.alloc o).cell (i := 8) (by omega)
  have qf := fun i o => (HR2.out.alloc o).frozen i
  simp only [rpc, Nat.reduceEqDiff, if_true, if_false] at q0 q1 q2 q3 q4 q5 q6 q7 q8
  go_wp2_with fail
  refine bodyPost_ret (v := .tuple #[.int .i64 3, repLine 0]) (by simp [results, Tryd.results8, go_sem, q0, q1, q2, q3, q4, q5, q6, q7, q8]) rfl ⟨?_, fun _ => rfl, fun c => absurd c HNF.out, fun c => absurd c HNF.out⟩
  exact bel9k (HBB2.out.alloc (by omega) _) (Nat.le_succ _) _ _ _ _ _ _ _ _ _
def rpd (vars : Int) (txt : ByteArray) (nd : Int) (i : Nat) : Value := if i = 4 then .int .i64 vars else if i = 5 then .string txt else if i = 7 then .int .i64 nd else rpc i
theorem rpd9 {P : Nat → Prop} (h0 : P 0) (h1 : P 1) (h2 : P 2) (h3 : P 3) (h4 : P 4) (h5 : P 5) (h6 : P 6) (h7 : P 7) (h8 : P 8) (q : Nat) (hq : q < 9) : P q := by
  match q, hq with
  | 0, _ => exact h0
  | 1, _ => exact h1
  | 2, _ => exact h2
  | 3, _ => exact h3
  | 4, _ => exact h4
  | 5, _ => exact h5
  | 6, _ => exact h6
  | 7, _ => exact h7
  | 8, _ => exact h8
  | n + 9, h => omega
theorem rep_setA {X w4 : World} {g : Nat} (hb : Below (X.alloc (.cells #[.int .i64 0, .slice none 0 0, .slice none 0 0, .int .i64 0, .int .i64 0, .string ⟨#[]⟩, .string ⟨#[]⟩, .int .i64 0, .int .i64 0] 29)).drew.heap.size (X.alloc (.cells #[.int .i64 0, .slice none 0 0, .slice none 0 0, .int .i64 0, .int .i64 0, .string ⟨#[]⟩, .string ⟨#[]⟩, .int .i64 0, .int .i64 0] 29)).drew w4) (hg : X.heap.size = g) (vars : Int) (txt : ByteArray) (nd : Int) :
    (((((((((w4.setCell ⟨g, 0, none⟩ (.int .i64 0)).setCell ⟨g, 1, none⟩ (.slice none 0 0)).setCell ⟨g, 2, none⟩ (.slice none 0 0)).setCell ⟨g, 3, none⟩ (.int .i64 0)).setCell ⟨g, 4, none⟩ (.int .i64 vars)).setCell ⟨g, 5, none⟩ (.string txt)).setCell ⟨g, 6, none⟩ (.string ⟨#[]⟩)).setCell ⟨g, 7, none⟩ (.int .i64 nd)).setCell ⟨g, 8, none⟩ (.int .i64 0)).rowIs g 29 9 (rpd vars txt nd) ∧ Below X.heap.size X (((((((((w4.setCell ⟨g, 0, none⟩ (.int .i64 0)).setCell ⟨g, 1, none⟩ (.slice none 0 0)).setCell ⟨g, 2, none⟩ (.slice none 0 0)).setCell ⟨g, 3, none⟩ (.int .i64 0)).setCell ⟨g, 4, none⟩ (.int .i64 vars)).setCell ⟨g, 5, none⟩ (.string txt)).setCell ⟨g, 6, none⟩ (.string ⟨#[]⟩)).setCell ⟨g, 7, none⟩ (.int .i64 nd)).setCell ⟨g, 8, none⟩ (.int .i64 0)) := by
  subst hg
  have r : ((X.alloc (.cells #[.int .i64 0, .slice none 0 0, .slice none 0 0, .int .i64 0, .int .i64 0, .string ⟨#[]⟩, .string ⟨#[]⟩, .int .i64 0, .int .i64 0] 29)).drew).rowIs X.heap.size 29 9 rpc := cells_row (hp_new' _ _ _ rfl) rfl (rpd9 rfl rfl rfl rfl rfl rfl rfl rfl rfl)
  refine ⟨(((((((((row_later r hb).set 0 _).set 1 _).set 2 _).set 3 _).set 4 _).set 5 _).set 6 _).set 7 _).set 8 _ |>.congr (rpd9 rfl rfl rfl rfl rfl rfl rfl rfl rfl), bel9k ((((Below.refl X.heap.size X).alloc (Nat.le_refl _) _).drew).trans (hb.mono (by simp))) (Nat.le_refl _) _ _ _ _ _ _ _ _ _⟩
theorem rep_setB {X w4 : World} (hb : Below X.drew.heap.size X.drew w4) (vars : Int) (txt : ByteArray) (nd : Int) :
    (w4.alloc (.cells #[.int .i64 0, .slice none 0 0, .slice none 0 0, .int .i64 0, .int .i64 vars, .string txt, .string ⟨#[]⟩, .int .i64 nd, .int .i64 0] 29)).rowIs w4.heap.size 29 9 (rpd vars txt nd) ∧ Below X.heap.size X (w4.alloc (.cells #[.int .i64 0, .slice none 0 0, .slice none 0 0, .int .i64 0, .int .i64 vars, .string txt, .string ⟨#[]⟩, .int .i64 nd, .int .i64 0] 29)) := by
  have z := hb.size
  refine ⟨cells_row (hp_new' _ _ _ rfl) rfl (rpd9 rfl rfl rfl rfl rfl rfl rfl rfl rfl), ((Below.refl X.heap.size X).drew.trans hb).alloc (by simpa using z) _⟩
end Go.Proofs.YtgddmpmcnjlcjabDoor
