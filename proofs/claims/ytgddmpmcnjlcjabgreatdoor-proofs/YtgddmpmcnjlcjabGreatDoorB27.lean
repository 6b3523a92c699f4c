import Derived.Test.YtgddmpmcnjlcjabGreatDoorB26
import Derived.Test.YtgddmpmcnjlcjabGreatDoorB16
namespace Go.Proofs.YtgddmpmcnjlcjabGreatDoor
open Go.RowKit
set_option linter.unusedVariables false
namespace Pr
structure Fd where
  al : Nat
  fi : Option (Nat × Nat) := none
def run (p : Pg) (i j : Nat) : Nat → Nat := Mc.num p (Mc.ini (inp p.sec i j))
def look (p : Pg) (i : Nat) (a : Fd) (j : Nat) : Fd := if agr (run p i 0) (run p i j) a.al < a.al then ⟨agr (run p i 0) (run p i j) a.al, some (i, j)⟩ else a
def rowN (p : Pg) (i : Nat) (a : Fd) : Nat → Fd
  | 0 => a
  | n + 1 => look p i (rowN p i a n) (n + 1)
def fdN (p : Pg) (k : Nat) : Nat → Fd
  | 0 => ⟨k, none⟩
  | n + 1 => rowN p n (fdN p k n) (rows p.sec true - 1)
def fd (p : Pg) (k : Nat) : Fd := fdN p k (rows p.sec false)
theorem look_le (p : Pg) (i : Nat) (a : Fd) (j : Nat) : (look p i a j).al ≤ a.al := by
  unfold look
  split
  · exact agr_le _ _ _
  · exact Nat.le_refl _
theorem rowN_le (p : Pg) (i : Nat) (a : Fd) (n : Nat) : (rowN p i a n).al ≤ a.al := by
  induction n with
  | zero => exact Nat.le_refl _
  | succ n ih => exact Nat.le_trans (look_le _ _ _ _) ih
theorem fdN_le (p : Pg) (k n : Nat) : (fdN p k n).al ≤ k := by
  induction n with
  | zero => exact Nat.le_refl _
  | succ n ih => exact Nat.le_trans (rowN_le _ _ _ _) ih
theorem look_zero (p : Pg) (i : Nat) (a : Fd) (j : Nat) (h : a.al = 0) : look p i a j = a := by
  unfold look
  rw [if_neg (by omega)]
theorem rowN_zero (p : Pg) (i : Nat) (a : Fd) (n d : Nat) (h : (rowN p i a n).al = 0) : rowN p i a (n + d) = rowN p i a n := by
  induction d with
  | zero => rfl
  | succ d ih =>
    show look p i (rowN p i a (n + d)) (n + d + 1) = _
    rw [ih, look_zero _ _ _ _ h]
end Pr
def FdV (p : Pg) (w : World) (base : Nat) (a : Pr.Fd) (v1 v2 : Value) (at_ : Nat) : Prop :=
  (a.fi = none ∧ v1 = .slice none 0 0 ∧ v2 = .slice none 0 0 ∧ at_ = 0) ∨
  ∃ i j, a.fi = some (i, j) ∧ at_ = a.al ∧
    w.ownsRow base 3 1 v1 p.sec.length ((Pr.inp p.sec i 0).map fun (n : Nat) => .int .i64 n) ∧
    w.ownsRow base 3 1 v2 p.sec.length ((Pr.inp p.sec i j).map fun (n : Nat) => .int .i64 n)
theorem FdV.kept {p : Pg} {w w' : World} {base : Nat} {a : Pr.Fd} {v1 v2 : Value} {at_ : Nat} (h : FdV p w base a v1 v2 at_) (hb : ∀ k, base ≤ k → k < w.heap.size → w'.heap[k]? = w.heap[k]?) : FdV p w' base a v1 v2 at_ := by
  rcases h with h | ⟨i, j, h1, h2, h3, h4⟩
  · exact .inl h
  · exact .inr ⟨i, j, h1, h2, ownsRow_blk h3 (fun k e => hb k (h3.lt k e).1 (h3.lt k e).2), ownsRow_blk h4 (fun k e => hb k (h4.lt k e).1 (h4.lt k e).2)⟩
theorem FdV.low {p : Pg} {w : World} {base base' : Nat} {a : Pr.Fd} {v1 v2 : Value} {at_ : Nat} (h : FdV p w base a v1 v2 at_) (hb : base' ≤ base) : FdV p w base' a v1 v2 at_ := by
  rcases h with h | ⟨i, j, h1, h2, h3, h4⟩
  · exact .inl h
  · exact .inr ⟨i, j, h1, h2, ownsRow_low h3 hb, ownsRow_low h4 hb⟩
abbrev row3 (v1 v2 : Value) (at_ : Nat) : Nat → Value := fun j => [v1, v2, .int .i64 at_].getD j (.bool false)
abbrev row4 (v1 : Value) (n : Int) (v2 v3 : Value) : Nat → Value := fun j => [v1, .int .i64 n, v2, v3].getD j (.bool false)
structure Fbx (N : Nat) (p : Pg) (vs vc vk : Value) (nv : Int) (w : World) (v1 v2 : Value) (at_ : Nat) : Prop where
  prog : w.rowIs N 49 4 (row4 vs nv vc vk)
  res : w.rowIs (N + 1) 62 3 (row3 (.slice none 0 0) (.slice none 0 0) 0)
  fnd : w.rowIs (N + 1 + 1) 62 3 (row3 v1 v2 at_)
  pg : PgAt w p vs vc vk
  ns : ∀ g, vs.ownBlock = some g → g < N
  nc : ∀ g, vc.ownBlock = some g → g < N
  nk : ∀ g, vk.ownBlock = some g → g < N
theorem set3_block (w : World) (b : Nat) (u0 u1 u2 : Value) (k : Nat) (hk : k ≠ b) : (((w.setCell ⟨b, 0, none⟩ u0).setCell ⟨b, 1, none⟩ u1).setCell ⟨b, 2, none⟩ u2).heap[k]? = w.heap[k]? :=
  ((Below.heap_setCell _ ⟨b, 2, none⟩ u2 k hk).trans (Below.heap_setCell _ ⟨b, 1, none⟩ u1 k hk)).trans (Below.heap_setCell _ ⟨b, 0, none⟩ u0 k hk)
theorem row3_set {w : World} {b t : Nat} {v1 v2 : Value} {at_ : Nat} (h : w.rowIs b t 3 (row3 v1 v2 at_)) (u1 u2 : Value) (a : Nat) : (((w.setCell ⟨b, 0, none⟩ u1).setCell ⟨b, 1, none⟩ u2).setCell ⟨b, 2, none⟩ (.int .i64 a)).rowIs b t 3 (row3 u1 u2 a) :=
  (((h.set 0 u1).set 1 u2).set 2 (.int .i64 a)).congr (fun j hj => by
    match j, hj with
    | 0, _ => rfl
    | 1, _ => rfl
    | 2, _ => rfl
    | n + 3, h => omega)
theorem Fbx.store {N : Nat} {p : Pg} {vs vc vk : Value} {nv : Int} {w : World} {v1 v2 : Value} {at_ : Nat} (h : Fbx N p vs vc vk nv w v1 v2 at_) (u1 u2 : Value) (a : Nat) :
    Fbx N p vs vc vk nv (((w.setCell ⟨N + 1 + 1, 0, none⟩ u1).setCell ⟨N + 1 + 1, 1, none⟩ u2).setCell ⟨N + 1 + 1, 2, none⟩ (.int .i64 a)) u1 u2 a :=
  ⟨h.prog.of_block (set3_block _ _ _ _ _ _ (by omega)), h.res.of_block (set3_block _ _ _ _ _ _ (by omega)), row3_set h.fnd u1 u2 a,
   ⟨ownsRow_blk h.pg.s (fun k e => set3_block _ _ _ _ _ _ (by have := h.ns k e; omega)), ownsRow_blk h.pg.c (fun k e => set3_block _ _ _ _ _ _ (by have := h.nc k e; omega)), ownsRow_blk h.pg.k (fun k e => set3_block _ _ _ _ _ _ (by have := h.nk k e; omega))⟩, h.ns, h.nc, h.nk⟩
theorem Fbx.same {N : Nat} {p : Pg} {vs vc vk : Value} {nv : Int} {w w' : World} {v1 v2 : Value} {at_ : Nat} (h : Fbx N p vs vc vk nv w v1 v2 at_) (hb : Below w.heap.size w w') : Fbx N p vs vc vk nv w' v1 v2 at_ :=
  ⟨h.prog.of_block (hb.block _ h.prog.lt), h.res.of_block (hb.block _ h.res.lt), h.fnd.of_block (hb.block _ h.fnd.lt), h.pg.same hb, h.ns, h.nc, h.nk⟩
theorem row_new (w : World) (cs : Array Value) (t : TypeId) (f : Nat → Value) (n N : Nat) (hN : N = w.heap.size) (hn : cs.size = n) (h : ∀ i (hi : i < n), cs[i]? = some (f i)) : (w.alloc (.cells cs t)).rowIs N t n f := by
  subst hN hn
  exact World.rowIs_alloc w cs t f h
theorem fbx_new {w : World} {p : Pg} {as0 ac ak : Option Addr} {ns cs0 nc cc nk ck : Nat} {nv : Int} (hp : PgAt w p (.slice as0 ns cs0) (.slice ac nc cc) (.slice ak nk ck)) :
    Fbx w.heap.size p (.slice as0 ns cs0) (.slice ac nc cc) (.slice ak nk ck) nv (((w.alloc (.cells #[.slice as0 ns cs0, .int .i64 nv, .slice ac nc cc, .slice ak nk ck] 49)).alloc (.cells #[.slice none 0 0, .slice none 0 0, .int .i64 0] 62)).alloc (.cells #[.slice none 0 0, .slice none 0 0, .int .i64 0] 62)) (.slice none 0 0) (.slice none 0 0) 0 := by
  have h4 : ∀ i, i < 4 → (#[.slice as0 ns cs0, .int .i64 nv, .slice ac nc cc, .slice ak nk ck] : Array Value)[i]? = some (row4 (.slice as0 ns cs0) nv (.slice ac nc cc) (.slice ak nk ck) i) := fun i hi => by
    match i, hi with
    | 0, _ => rfl
    | 1, _ => rfl
    | 2, _ => rfl
    | 3, _ => rfl
    | n + 4, h => omega
  have h3 : ∀ i, i < 3 → (#[.slice none 0 0, .slice none 0 0, .int .i64 0] : Array Value)[i]? = some (row3 (.slice none 0 0) (.slice none 0 0) 0 i) := fun i hi => by
    match i, hi with
    | 0, _ => rfl
    | 1, _ => rfl
    | 2, _ => rfl
    | n + 3, h => omega
  exact ⟨((row_new w _ _ _ 4 _ rfl rfl h4).alloc _).alloc _, (row_new (w.alloc _) _ _ _ 3 (w.heap.size + 1) (by simp) rfl h3).alloc _, row_new ((w.alloc _).alloc _) _ _ _ 3 (w.heap.size + 1 + 1) (by simp) rfl h3, ((hp.same ((Below.refl _ _).alloc (Nat.le_refl _) _)).same ((Below.refl _ _).alloc (Nat.le_refl _) _)).same ((Below.refl _ _).alloc (Nat.le_refl _) _), fun g e => (hp.s.lt g e).2, fun g e => (hp.c.lt g e).2, fun g e => (hp.k.lt g e).2⟩
section
variable {N : Nat} {p : Pg} {vs vc vk : Value} {nv : Int} {w : World} {v1 v2 : Value} {at_ : Nat} (h : Fbx N p vs vc vk nv w v1 v2 at_)
include h
theorem Fbx.c0 : w.cell? ⟨N, 0, none⟩ = some vs := h.prog.cell (i := 0) (by omega)
theorem Fbx.c1 : w.cell? ⟨N, 1, none⟩ = some (.int .i64 nv) := h.prog.cell (i := 1) (by omega)
theorem Fbx.c2 : w.cell? ⟨N, 2, none⟩ = some vc := h.prog.cell (i := 2) (by omega)
theorem Fbx.c3 : w.cell? ⟨N, 3, none⟩ = some vk := h.prog.cell (i := 3) (by omega)
end
section
variable (p : Pg) (ok : PgOk p) (w : World) (vs vc vk : Value) (nv : Int) (hp : PgAt w p vs vc vk)
include ok hp
set_option maxRecDepth 100000 in
set_option maxHeartbeats 4000000 in
theorem search_any (k : Nat) (hk : k ≤ 10) :
    Calls Tryz.prog 21 #[.agg #[vs, .int .i64 nv, vc, vk], .int .i64 k] w fun e w' => ∃ a1 n1 c1 a2 n2 c2 at_, e = .returned (.tuple #[.agg #[.slice a1 n1 c1, .slice a2 n2 c2, .int .i64 (at_ : Nat)], .bool (decide ((Pr.fd p k).al < k))]) ∧ FdV p w' w.heap.size (Pr.fd p k) (.slice a1 n1 c1) (.slice a2 n2 c2) at_ ∧ Below w.heap.size w w' := by
  have hP := Pr.rows_max false p.sec ok.sec
  have hS := Pr.rows_max true p.sec ok.sec
  obtain ⟨as0, cs0, e0⟩ := body_val hp.s
  obtain ⟨ac, cc, e1⟩ := body_val hp.c
  obtain ⟨ak, ck, e2⟩ := body_val hp.k
  subst e0 e1 e2
  have HX := hid (fbx_new (nv := nv) hp)
  have x0 := HX.out.c0
  have x1 := HX.out.c1
  have x2 := HX.out.c2
  have x3 := HX.out.c3
  have HW0 := hid ((((Below.refl w.heap.size w).alloc (Nat.le_refl _) (.cells #[.slice as0 p.sec.length cs0, .int .i64 nv, .slice ac p.cells.length cc, .slice ak p.code.length ck] 49)).alloc (by simp) (.cells #[.slice none 0 0, .slice none 0 0, .int .i64 0] 62)).alloc (by simp; omega) (.cells #[.slice none 0 0, .slice none 0 0, .int .i64 0] 62))
  clear hp
  go_enter Tryz.func21, Tryz.ntmps21
  go_wp2_with (first
    | (go_at_call 46; refine (rows_any p ok _ _ _ _ nv HX.out.pg false).mono ?_; rintro e w1 ⟨rfl, hb1⟩; have HB1 := hid (HW0.out.trans (hb1.mono (by simp; omega))); have HX1 := hid (HX.out.same hb1); have z1 := hb1.size; simp at z1; have y0 := HX1.out.c0; have y1 := HX1.out.c1; have y2 := HX1.out.c2; have y3 := HX1.out.c3; clear hb1 x0 x1 x2 x3 HX HW0)
    | (go_at_call 46; refine (rows_any p ok _ _ _ _ nv HX1.out.pg true).mono ?_; rintro e w2 ⟨rfl, hb2⟩; have HB2 := hid (HB1.out.trans (hb2.mono (by omega))); have z2 := hb2.size; have HX2 := hid (HX1.out.same hb2); clear hb2 y0 y1 y2 y3 HX1 HB1))
  have HFD := hid (show Pr.fdN p k (Pr.rows p.sec false) = Pr.fd p k from rfl)
  generalize hPn : Pr.rows p.sec false = Pn at hP HFD ⊢
  generalize hSn : Pr.rows p.sec true = Sn at hS ⊢
  have HSN := hid hSn
  clear hPn hSn
  have hz3 : w.heap.size + 3 ≤ w2.heap.size := by omega
  clear z1 z2
  go_loopw [9, 10] (fun al c wr => ∃ n : Nat, n ≤ Pn ∧ c = .int .i64 n ∧ al = .int .i64 (Pr.fdN p k n).al ∧ w.heap.size + 3 ≤ wr.heap.size ∧ Below w.heap.size w wr ∧ ∃ a1 n1 c1 a2 n2 c2 at_, Fbx w.heap.size p (.slice as0 p.sec.length cs0) (.slice ac p.cells.length cc) (.slice ak p.code.length ck) nv wr (.slice a1 n1 c1) (.slice a2 n2 c2) at_ ∧ FdV p wr (w.heap.size + 3) (Pr.fdN p k n) (.slice a1 n1 c1) (.slice a2 n2 c2) at_) (fun _ c _ => Pn - (intOf c).toNat)
  case atStart => exact ⟨0, Nat.zero_le _, rfl, rfl, hz3, HB2.out, none, 0, 0, none, 0, 0, 0, HX2.out, .inl ⟨rfl, rfl, rfl, rfl⟩⟩
  case round =>
    obtain ⟨n, hn, rfl, rfl, hz, hbel, a1, n1, c1, a2, n2, c2, at_, hx, hv⟩ := hrel
    have HX := hid hx
    have HV := hid hv
    have HB := hid hbel
    by_cases hlt : n < Pn
    · have hal := Pr.fdN_le p k n
      have HNX := hid (show Pr.fdN p k (n + 1) = Pr.rowN p n (Pr.fdN p k n) (Pr.rows p.sec true - 1) from rfl)
      rw [HSN.out] at HNX
      generalize Pr.fdN p k n = A at hal HNX HV ⊢
      obtain ⟨al0, hal0⟩ : ∃ x, A.al = x := ⟨_, rfl⟩
      have HAL := hid hal0
      rw [hal0] at hal ⊢
      have hal10 : al0 ≤ 10 := by omega
      have x0 := hx.c0
      have x1 := hx.c1
      have x2 := hx.c2
      have x3 := hx.c3
      clear hx hv hbel hal0
      go_wp2_with (first
        | (go_at_call 47; refine (inputs_any p ok _ _ _ _ nv HX.out.pg n 0 (by omega) (by omega)).mono ?_; rintro e w3 ⟨v3, rfl, hown3, hb3⟩; obtain ⟨q3, p3, e3⟩ := body_val hown3; subst e3; have HO3 := hid (ownsRow_low (base' := w.heap.size + 3) hown3 hz); have HX3 := hid (HX.out.same hb3); have HV3 := hid (HV.out.kept (fun q _ hq => hb3.block q hq)); have HB3 := hid (HB.out.trans (hb3.mono (by omega))); have z3 := hb3.size; have y0 := HX3.out.c0; have y1 := HX3.out.c1; have y2 := HX3.out.c2; have y3 := HX3.out.c3; clear hown3 hb3 x0 x1 x2 x3 HX HV HB)
        | (go_at_call 48; refine (tell_run p ok (Pr.inp p.sec n 0) (by rw [Pr.inp_len]; exact ok.sec) (Pr.inp_lt p.sec n 0) al0 hal10 _ _ _ _ _ nv HX3.out.pg ?_).mono ?_; rw [Pr.inp_len]; exact ownsRow_low HO3.out (Nat.zero_le _); rintro e w4 ⟨v4, rfl, hown4, hb4⟩; obtain ⟨q4, p4, e4⟩ := body_val hown4; subst e4; have HO4 := hid (ownsRow_low (base' := w.heap.size + 3) hown4 (by omega)); have HO34 := hid (ownsRow_same HO3.out hb4.block); have HX4 := hid (HX3.out.same hb4); have HV4 := hid (HV3.out.kept (fun q _ hq => hb4.block q hq)); have HB4 := hid (HB3.out.trans (hb4.mono (by omega))); have z4 := hb4.size; clear hown4 hb4 y0 y1 y2 y3 HX3 HV3 HB3 HO3))
      have hz4 : w.heap.size + 3 ≤ w4.heap.size := by omega
      go_loopw [9, 13] (fun al c wq => ∃ m : Nat, m ≤ Sn - 1 ∧ c = .int .i64 ((m + 1 : Nat) : Int) ∧ al = .int .i64 (Pr.rowN p n A m).al ∧ w.heap.size + 3 ≤ wq.heap.size ∧ Below w.heap.size w wq ∧
          wq.ownsRow (w.heap.size + 3) 3 1 (.slice q3 p.sec.length p3) p.sec.length ((Pr.inp p.sec n 0).map fun (n : Nat) => .int .i64 n) ∧ wq.ownsRow (w.heap.size + 3) 3 1 (.slice q4 al0 p4) al0 ((Mc.tells p (Mc.ini (Pr.inp p.sec n 0)) al0).map fun (n : Nat) => .int .i64 n) ∧
          ∃ a1 n1 c1 a2 n2 c2 at_, Fbx w.heap.size p (.slice as0 p.sec.length cs0) (.slice ac p.cells.length cc) (.slice ak p.code.length ck) nv wq (.slice a1 n1 c1) (.slice a2 n2 c2) at_ ∧ FdV p wq (w.heap.size + 3) (Pr.rowN p n A m) (.slice a1 n1 c1) (.slice a2 n2 c2) at_) (fun _ c _ => Sn + 1 - (intOf c).toNat)
      case atStart => exact ⟨0, Nat.zero_le _, rfl, by rw [← HAL.out]; rfl, hz4, HB4.out, HO34.out, HO4.out, a1, n1, c1, a2, n2, c2, at_, HX4.out, HV4.out⟩
      case round =>
        clear HX4 HV4 HB4 HO34 HO4 hz4 z4 z3
        obtain ⟨m, hm, rfl, rfl, hz5, hbel, ho3, ho4, b1, m1, d1, b2, m2, d2, bt, hx, hv⟩ := hrel
        have hle := Pr.rowN_le p n A m
        rw [HAL.out] at hle
        have HNM := hid (show Pr.rowN p n A (m + 1) = Pr.look p n (Pr.rowN p n A m) (m + 1) from rfl)
        have HZ := hid (fun d => Pr.rowN_zero p n A m d)
        have HBM := hid (show Pr.rowN p n A m = Pr.rowN p n A m from rfl)
        generalize hBm : Pr.rowN p n A m = B at hle HNM HZ hv ⊢
        have HBE := hid hBm
        obtain ⟨al, hal1⟩ : ∃ x, B.al = x := ⟨_, rfl⟩
        have HALB := hid hal1
        rw [hal1] at hle ⊢
        have HX := hid hx
        have HV := hid hv
        have HB := hid hbel
        have HO3 := hid ho3
        have HO4 := hid ho4
        have x0 := hx.c0
        have x1 := hx.c1
        have x2 := hx.c2
        have x3 := hx.c3
        clear hx hv hbel ho3 ho4 hBm hal1 HBM
        obtain ⟨j, hj⟩ : ∃ x, m + 1 = x := ⟨_, rfl⟩
        rw [hj]
        rw [hj] at HNM
        by_cases hms : j < Sn
        · by_cases ha0 : 0 < al
          · obtain ⟨ag, hag⟩ : ∃ x, Pr.agr (Pr.run p n 0) (Pr.run p n j) al = x := ⟨_, rfl⟩
            have hagle := Pr.agr_le (Pr.run p n 0) (Pr.run p n j) al
            rw [hag] at hagle
            have HAG := hid hag
            clear hag
            by_cases hcut : ag < al
            · go_wp2_with (first
                | (go_at_call 47; refine (inputs_any p ok _ _ _ _ nv HX.out.pg n j (by omega) (by omega)).mono ?_; rintro e w5 ⟨v5, rfl, hown5, hb5⟩; obtain ⟨q5, p5, e5⟩ := body_val hown5; subst e5; have HO5 := hid (ownsRow_low (base' := w.heap.size + 3) hown5 hz5); have HX5 := hid (HX.out.same hb5); have HB5 := hid hb5; have z5 := hb5.size; have y0 := HX5.out.c0; have y1 := HX5.out.c1; have y2 := HX5.out.c2; have y3 := HX5.out.c3; clear hown5 hb5 x0 x1 x2 x3)
                | (go_at_call 48; refine (tell_run p ok (Pr.inp p.sec n j) (by rw [Pr.inp_len]; exact ok.sec) (Pr.inp_lt p.sec n j) al (by omega) _ _ _ _ _ nv HX5.out.pg ?_).mono ?_; rw [Pr.inp_len]; exact ownsRow_low HO5.out (Nat.zero_le _); rintro e w6 ⟨v6, rfl, hown6, hb6⟩; obtain ⟨q6, p6, e6⟩ := body_val hown6; subst e6; have HO6 := hid (ownsRow_low (base' := w.heap.size + 3) hown6 (by omega)); have HB6 := hid (HB5.out.trans (hb6.mono z5)); have HO56 := hid (ownsRow_same HO5.out hb6.block); have z6 := hb6.size; clear hown6 hb6 y0 y1 y2 y3)
                | (go_at_call 49; refine (agree_any (Pr.run p n 0) (Pr.run p n j) al0 al hle hal10 _ _ _ (ownsRow_low (ownsRow_same HO4.out HB6.out.block) (Nat.zero_le _)) (ownsRow_low HO6.out (Nat.zero_le _))).mono ?_; rintro e w7 ⟨he, hb7⟩; rw [HAG.out] at he; subst he; have HB7 := hid (HB6.out.trans (hb7.mono (by omega))); have HO57 := hid (ownsRow_same HO56.out hb7.block); have z7 := hb7.size; have HX7 := hid (HX.out.same HB7.out); have g0 := HX7.out.fnd.cell (i := 0) (by omega); have g1 := HX7.out.fnd.cell (i := 1) (by omega); have g2 := HX7.out.fnd.cell (i := 2) (by omega); have gf := HX7.out.fnd.frozen; simp at g0 g1 g2; clear hb7))
              go_roundw
              case rel =>
                have hst : Pr.look p n B j = ⟨ag, some (n, j)⟩ := by unfold Pr.look; rw [HALB.out, HAG.out, if_pos hcut]
                have hkeep : ∀ q, w.heap.size + 3 ≤ q → q < wr.heap.size → (((w7.setCell ⟨w.heap.size + 1 + 1, 0, none⟩ (.slice q3 p.sec.length p3)).setCell ⟨w.heap.size + 1 + 1, 1, none⟩ (.slice q5 p.sec.length p5)).setCell ⟨w.heap.size + 1 + 1, 2, none⟩ (.int .i64 ag)).heap[q]? = wr.heap[q]? := fun q h1 h2 => (set3_block _ _ _ _ _ _ (by omega)).trans (HB7.out.block q h2)
                have ho3 := ownsRow_blk HO3.out (fun q e => hkeep q (HO3.out.lt q e).1 (HO3.out.lt q e).2)
                refine ⟨m + 1, by omega, by go_num, by rw [hj, HNM.out, hst], by simp; omega, ?_, ho3, ownsRow_blk HO4.out (fun q e => hkeep q (HO4.out.lt q e).1 (HO4.out.lt q e).2), q3, _, p3, q5, _, p5, ag, HX7.out.store _ _ _, ?_⟩
                · exact (((HB.out.trans (HB7.out.mono (by omega))).setCell (by show w.heap.size ≤ w.heap.size + 1 + 1; omega) _).setCell (by show w.heap.size ≤ w.heap.size + 1 + 1; omega) _).setCell (by show w.heap.size ≤ w.heap.size + 1 + 1; omega) _
                · rw [hj, HNM.out, hst]
                  exact .inr ⟨n, j, rfl, rfl, ho3, ownsRow_blk HO57.out (fun q e => set3_block _ _ _ _ _ _ (by have := (HO57.out.lt q e).1; omega))⟩
              case measure => simp [intOf]; omega
            · go_wp2_with (first
                | (go_at_call 47; refine (inputs_any p ok _ _ _ _ nv HX.out.pg n j (by omega) (by omega)).mono ?_; rintro e w5 ⟨v5, rfl, hown5, hb5⟩; obtain ⟨q5, p5, e5⟩ := body_val hown5; subst e5; have HO5 := hid (ownsRow_low (base' := w.heap.size + 3) hown5 hz5); have HX5 := hid (HX.out.same hb5); have HB5 := hid hb5; have z5 := hb5.size; have y0 := HX5.out.c0; have y1 := HX5.out.c1; have y2 := HX5.out.c2; have y3 := HX5.out.c3; clear hown5 hb5 x0 x1 x2 x3)
                | (go_at_call 48; refine (tell_run p ok (Pr.inp p.sec n j) (by rw [Pr.inp_len]; exact ok.sec) (Pr.inp_lt p.sec n j) al (by omega) _ _ _ _ _ nv HX5.out.pg ?_).mono ?_; rw [Pr.inp_len]; exact ownsRow_low HO5.out (Nat.zero_le _); rintro e w6 ⟨v6, rfl, hown6, hb6⟩; obtain ⟨q6, p6, e6⟩ := body_val hown6; subst e6; have HO6 := hid (ownsRow_low (base' := w.heap.size + 3) hown6 (by omega)); have HB6 := hid (HB5.out.trans (hb6.mono z5)); have HO56 := hid (ownsRow_same HO5.out hb6.block); have z6 := hb6.size; clear hown6 hb6 y0 y1 y2 y3)
                | (go_at_call 49; refine (agree_any (Pr.run p n 0) (Pr.run p n j) al0 al hle hal10 _ _ _ (ownsRow_low (ownsRow_same HO4.out HB6.out.block) (Nat.zero_le _)) (ownsRow_low HO6.out (Nat.zero_le _))).mono ?_; rintro e w7 ⟨he, hb7⟩; rw [HAG.out] at he; subst he; have HB7 := hid (HB6.out.trans (hb7.mono (by omega))); have HO57 := hid (ownsRow_same HO56.out hb7.block); have z7 := hb7.size; have HX7 := hid (HX.out.same HB7.out); have g0 := HX7.out.fnd.cell (i := 0) (by omega); have g1 := HX7.out.fnd.cell (i := 1) (by omega); have g2 := HX7.out.fnd.cell (i := 2) (by omega); have gf := HX7.out.fnd.frozen; simp at g0 g1 g2; clear hb7))
              go_roundw
              case rel =>
                have hst : Pr.look p n B j = B := by unfold Pr.look; rw [HALB.out, HAG.out, if_neg hcut]
                refine ⟨m + 1, by omega, by go_num, by rw [hj, HNM.out, hst, HALB.out], by omega, HB.out.trans (HB7.out.mono (by omega)), ownsRow_same HO3.out HB7.out.block, ownsRow_same HO4.out HB7.out.block, b1, m1, d1, b2, m2, d2, bt, HX7.out, ?_⟩
                rw [hj, HNM.out, hst]
                exact HV.out.kept (fun q _ hq => HB7.out.block q hq)
              case measure => simp [intOf]; omega
          · have hfin : Pr.fdN p k (n + 1) = B := by
              rw [HNX.out, show Sn - 1 = m + (Sn - 1 - m) by omega, ← HZ.out (Sn - 1 - m) (by rw [HALB.out]; omega)]
            have HFIN := hid hfin
            clear hfin
            go_wp2_with fail
            go_roundw
            case rel => exact ⟨n + 1, by omega, by go_num, by rw [HFIN.out, HALB.out], hz5, HB.out, b1, m1, d1, b2, m2, d2, bt, HX.out, by rw [HFIN.out]; exact HV.out⟩
            case measure => simp [intOf]; omega
        · have hfin : Pr.fdN p k (n + 1) = B := by
            rw [HNX.out, show Sn - 1 = m by omega, HBE.out]
          have HFIN := hid hfin
          clear hfin
          go_wp2_with fail
          go_roundw
          case rel => exact ⟨n + 1, by omega, by go_num, by rw [HFIN.out, HALB.out], hz5, HB.out, b1, m1, d1, b2, m2, d2, bt, HX.out, by rw [HFIN.out]; exact HV.out⟩
          case measure => simp [intOf]; omega
    · have hne : n = Pn := by omega
      subst hne
      rw [HFD.out] at HV
      rw [HFD.out]
      have g0 := hx.fnd.cell (i := 0) (by omega)
      have g1 := hx.fnd.cell (i := 1) (by omega)
      have g2 := hx.fnd.cell (i := 2) (by omega)
      have r0 := hx.res.cell (i := 0) (by omega)
      have r1 := hx.res.cell (i := 1) (by omega)
      have r2 := hx.res.cell (i := 2) (by omega)
      have rf := hx.res.frozen
      simp at g0 g1 g2 r0 r1 r2
      obtain ⟨al, hal⟩ : ∃ x, (Pr.fd p k).al = x := ⟨_, rfl⟩
      rw [hal]
      have hdec : decide (al < k) = decide ((al : Int) < (k : Int)) := by
        by_cases h : al < k
        · rw [decide_eq_true h, decide_eq_true (by omega)]
        · rw [decide_eq_false h, decide_eq_false (by omega)]
      have HD := hid (And.intro hal hdec)
      clear hx hv hbel hal hdec
      go_wp2_with fail
      refine bodyPost_ret (v := .tuple #[.agg #[.slice a1 n1 c1, .slice a2 n2 c2, .int .i64 at_], .bool (decide (al < k))]) (by simp [results, Tryz.results21, go_sem, r0, r1, r2]) rfl ⟨a1, n1, c1, a2, n2, c2, at_, by rw [HD.out.1], ?_, ?_⟩
      · exact (HV.out.kept (fun q h1 h2 => set3_block _ _ _ _ _ _ (by omega))).low (by omega)
      · exact ((HB.out.setCell (by show w.heap.size ≤ w.heap.size + 1; omega) _).setCell (by show w.heap.size ≤ w.heap.size + 1; omega) _).setCell (by show w.heap.size ≤ w.heap.size + 1; omega) _
end
namespace Pr
theorem look_none (p : Pg) (i : Nat) (a : Fd) (j : Nat) (h : (look p i a j).fi = none) : a.fi = none ∧ look p i a j = a := by
  unfold look at h ⊢
  split at h
  · cases h
  · rename_i hn; rw [if_neg hn]; exact ⟨h, rfl⟩
theorem rowN_none (p : Pg) (i : Nat) (a : Fd) (n : Nat) (h : (rowN p i a n).fi = none) : a.fi = none ∧ rowN p i a n = a := by
  induction n with
  | zero => exact ⟨h, rfl⟩
  | succ n ih =>
    obtain ⟨h1, h2⟩ := look_none p i _ _ (show (look p i (rowN p i a n) (n + 1)).fi = none from h)
    obtain ⟨h3, h4⟩ := ih h1
    exact ⟨h3, (show look p i (rowN p i a n) (n + 1) = a by rw [h2, h4])⟩
theorem fdN_none (p : Pg) (k n : Nat) (h : (fdN p k n).fi = none) : (fdN p k n).al = k := by
  induction n with
  | zero => rfl
  | succ n ih =>
    obtain ⟨h1, h2⟩ := rowN_none p n _ _ (show (rowN p n (fdN p k n) (rows p.sec true - 1)).fi = none from h)
    show (rowN p n (fdN p k n) (rows p.sec true - 1)).al = k
    rw [h2]; exact ih h1
end Pr
theorem fdv_some {p : Pg} {w : World} {base k : Nat} {v1 v2 : Value} {at_ : Nat} (h : FdV p w base (Pr.fd p k) v1 v2 at_) (hin : (Pr.fd p k).al < k) : ∃ i j, (Pr.fd p k).fi = some (i, j) ∧ at_ = (Pr.fd p k).al ∧
    w.ownsRow base 3 1 v1 p.sec.length ((Pr.inp p.sec i 0).map fun (n : Nat) => .int .i64 n) ∧
    w.ownsRow base 3 1 v2 p.sec.length ((Pr.inp p.sec i j).map fun (n : Nat) => .int .i64 n) := by
  rcases h with ⟨h, _⟩ | h
  · have h2 := Pr.fdN_none p k _ h
    have h3 : (Pr.fd p k).al = k := h2
    omega
  · exact h
end Go.Proofs.YtgddmpmcnjlcjabGreatDoor
