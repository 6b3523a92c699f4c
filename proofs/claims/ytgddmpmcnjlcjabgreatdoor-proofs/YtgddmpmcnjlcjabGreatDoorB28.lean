import Derived.Test.YtgddmpmcnjlcjabGreatDoorB27
import Derived.Lib.AppendIntMem
import Derived.Test.YtgddmpmcnjlcjabGreatDoorB11
import Derived.Test.YtgddmpmcnjlcjabGreatDoorB18
import Derived.Test.YtgddmpmcnjlcjabGreatDoorB25
namespace Go.Proofs.YtgddmpmcnjlcjabGreatDoor
open Go.RowKit
set_option linter.unusedVariables false
structure ChkOut (w w' : World) (e : Ending) (p : Pg) (k : Nat) : Prop where
  bel : Below w.heap.size w w'
  sec : ¬ (Pr.fd p k).al < k → ∃ (nv : Int) (f g : ByteArray) (nd cf : Int), e = .returned (.tuple #[.int .i64 1, .agg #[.int .i64 0, .slice none 0 0, .slice none 0 0, .int .i64 0, .int .i64 nv, .string f, .string g, .int .i64 nd, .int .i64 cf]])
  ins : (Pr.fd p k).al < k → ∃ a1 c1 a2 c2 i j, ∃ (nv : Int) (f g : ByteArray) (nd cf : Int), e = .returned (.tuple #[.int .i64 2, .agg #[.int .i64 0, .slice a1 p.sec.length c1, .slice a2 p.sec.length c2, .int .i64 (Pr.fd p k).al, .int .i64 nv, .string f, .string g, .int .i64 nd, .int .i64 cf]]) ∧ (Pr.fd p k).fi = some (i, j) ∧
    w'.ownsRow w.heap.size 3 1 (.slice a1 p.sec.length c1) p.sec.length ((Pr.inp p.sec i 0).map fun (n : Nat) => .int .i64 n) ∧
    w'.ownsRow w.heap.size 3 1 (.slice a2 p.sec.length c2) p.sec.length ((Pr.inp p.sec i j).map fun (n : Nat) => .int .i64 n)
abbrev Tab (w : World) : Prop := Lib.TabIs Tryz.prog w "internal/strconv.uint64pow10" .u64 Lib.pow10Tab
theorem tab_on {w w' : World} (h : Tab w) (hb : Below w.heap.size w w') : Tab w' := Lib.tabBelow_of_tabIs h w' hb
def ChkOk (s : ByteArray) (k : Nat) : Prop := ∀ w : World, Tab w → Calls Tryz.prog 6 #[.string s, .int .i64 k, .agg #[.int .i64 0, .int .i64 0]] w fun e w' => ChkOut w w' e (pgOf s.toList) k
abbrev repLine (n : Int) : Value := .agg #[.int .i64 n, .slice none 0 0, .slice none 0 0, .int .i64 0, .int .i64 0, .string ⟨#[]⟩, .string ⟨#[]⟩, .int .i64 0, .int .i64 0]
namespace Ck
def nodes (p : Pg) (k : Nat) : List Dg.Nd := (Dg.dia p k (7 * k)).1.nodes
def told (p : Pg) (k : Nat) : List Nat := (Dg.dia p k (7 * k)).2
def fm (p : Pg) (k : Nat) : Cl.Fm := Cl.form p.sec (nodes p k) (told p k)
def pf (p : Pg) (k : Nat) : Nat × List UInt8 := Cl.prf (fm p k).bits (fm p k).ct
theorem dia_ok {p : Pg} (ok : PgOk p) (k : Nat) (hk : k ≤ 10) : Dg.Ok p.sec.length (2 ^ (Dg.order p.sec.length).length) (Dg.dia p k (7 * k)).1 ∧ (told p k).length = 7 * k ∧ (∀ j, j < 7 * k → (told p k).getD j 0 < (nodes p k).length) ∧ (nodes p k).length ≤ 400000 := by
  obtain ⟨a, b, c, d⟩ := Dg.stp_ok p.sec.length p.sec (2 ^ (Dg.order p.sec.length).length) (Dg.order p.sec.length) (Dg.told p (Dg.order p.sec.length) k) (Dg.order_lt _) (7 * k)
  refine ⟨a, b, c, ?_⟩
  have hs := ok.sec
  have h1 : 2 ^ (Dg.order p.sec.length).length ≤ 4096 := by rw [Dg.order_len]; exact Nat.pow_le_pow_right (by omega) (show p.sec.length * 4 ≤ 12 by omega)
  have h2 : 7 * k * 2 ^ (Dg.order p.sec.length).length ≤ 70 * 4096 := Nat.mul_le_mul (by omega) h1
  have h3 : (nodes p k).length ≤ 2 + 7 * k * 2 ^ (Dg.order p.sec.length).length := d
  omega
theorem bits_ok {p : Pg} (ok : PgOk p) (k : Nat) (hk : k ≤ 10) : (fm p k).bits.length = 7 * k ∧ (∀ i, ((fm p k).bits.getD i {}).Ok) ∧ (fm p k).ct ≤ 900000000 := by
  obtain ⟨h1, h2, h3, h4⟩ := dia_ok ok k hk
  have hv := Cl.vin_le p.sec
  have hs := ok.sec
  have hct : (Cl.nds p.sec (nodes p k) (told p k).length).ct ≤ 8 * 400000 := by
    have key : ∀ (nodes : List Dg.Nd) (b1 b2 : List Nat) (x : Cl.Ns) (i : Nat), (Cl.nodesN nodes b1 b2 x i).ct ≤ x.ct + 8 * i := by
      intro nodes b1 b2 x i
      induction i with
      | zero => exact Nat.le_refl _
      | succ i ih =>
        unfold Cl.nodesN
        split
        · omega
        · show (Cl.two _ _ _ (Cl.one _ _ _ _ _)).ct ≤ _
          have s : ∀ n, sameC n ≤ 2 := fun n => by unfold sameC; split <;> omega
          have a1 : (Cl.one nodes.length b1 (Dg.ndAt nodes i) i (Cl.nodesN nodes b1 b2 x i)).ct ≤ (Cl.nodesN nodes b1 b2 x i).ct + 4 := by
            show (Cl.nodesN nodes b1 b2 x i).ct + (sameC _ + sameC _) ≤ _
            have := s (Dg.ndAt nodes i).lo
            have := s (Dg.ndAt nodes i).hi
            omega
          have a2 : ∀ y : Cl.Ns, (Cl.two nodes.length b2 (Dg.ndAt nodes i) y).ct ≤ y.ct + 4 := fun y => by
            unfold Cl.two
            split
            · show y.ct + (sameC _ + sameC _) ≤ _
              have := s (Dg.ndAt nodes i).lo
              have := s (Dg.ndAt nodes i).hi
              omega
            · omega
          have := a2 (Cl.one nodes.length b1 (Dg.ndAt nodes i) i (Cl.nodesN nodes b1 b2 x i))
          omega
    have := key (nodes p k) (Cl.b1 p.sec) (Cl.b2 p.sec) ⟨Cl.vin p.sec + 3 * (told p k).length, 0, fun _ => 0, fun _ => 0, []⟩ (nodes p k).length
    show (Cl.nodesN _ _ _ _ _).ct ≤ _
    have e0 : (⟨Cl.vin p.sec + 3 * (told p k).length, 0, fun _ => 0, fun _ => 0, []⟩ : Cl.Ns).ct = 0 := rfl
    omega
  have t1 : ∀ i, i ≤ 70 → (Cl.tl1 p.sec (nodes p k) (told p k) i).1 ≤ 3300000 := fun i hi => by
    have := Cl.tldN_le (Cl.n1 p.sec (nodes p k) (told p k).length) (Cl.vin p.sec) (told p k) (Cl.nds p.sec (nodes p k) (told p k).length).ct i
    unfold Cl.tl1
    omega
  have t2 : ∀ i, i ≤ 70 → (Cl.tl2 p.sec (nodes p k) (told p k) i).1 ≤ 3400000 := fun i hi => by
    have h70 := t1 (told p k).length (by omega)
    have := Cl.tldN_le (Cl.n2 p.sec (nodes p k) (told p k).length) (Cl.vin p.sec + (told p k).length) (told p k) (Cl.tl1 p.sec (nodes p k) (told p k) (told p k).length).1 i
    unfold Cl.tl2
    omega
  have hbl : (fm p k).bits.length = 7 * k := by show ((List.range (told p k).length).map _).length = _; simp [h2]
  refine ⟨hbl, fun i => ?_, ?_⟩
  · by_cases c : i < 7 * k
    · have e : (fm p k).bits.getD i {} = Cl.bitN p.sec (nodes p k) (told p k) i := by
        show ((List.range (told p k).length).map (Cl.bitN p.sec (nodes p k) (told p k))).getD i ({} : Cl.Bt) = _
        simp [h2, c]
      rw [e]
      have a1 := t1 i (by omega)
      have a2 := t2 i (by omega)
      have a3 := t2 (told p k).length (by omega)
      refine ⟨?_, ?_, ?_, ?_, ?_, ?_⟩
      · show Cl.vin p.sec + 1 + i ≤ _; omega
      · show (Cl.tl1 p.sec (nodes p k) (told p k) i).1 + 1 ≤ _; omega
      · show Cl.vin p.sec + (told p k).length + 1 + i ≤ _; omega
      · show (Cl.tl2 p.sec (nodes p k) (told p k) i).1 + 1 ≤ _; omega
      · show Cl.vin p.sec + 2 * (told p k).length + 1 + i ≤ _; omega
      · show (Cl.tl2 p.sec (nodes p k) (told p k) (told p k).length).1 + 4 * i + 1 ≤ _; omega
    · rw [List.getD_eq_getElem?_getD, List.getElem?_eq_none (by omega)]
      exact ⟨Nat.zero_le _, Nat.zero_le _, Nat.zero_le _, Nat.zero_le _, Nat.zero_le _, Nat.zero_le _⟩
  · have a3 := t2 (told p k).length (by omega)
    show (Cl.tl2 p.sec (nodes p k) (told p k) (told p k).length).1 + 4 * (told p k).length + 1 ≤ _
    omega
end Ck
structure CkOut (w w' : World) (e : Ending) (p : Pg) (k n c : Nat) : Prop where
  bel : Below w.heap.size w w'
  unk : ¬ Dg.Fits p k n ∨ (¬ (Pr.fd p k).al < k ∧ c ≠ 0 ∧ c < (Ck.pf p k).1) → e = .returned (.tuple #[.int .i64 3, repLine 0])
  ins : Dg.Fits p k n → (Pr.fd p k).al < k → ∃ a1 c1 a2 c2 i j, e = .returned (.tuple #[.int .i64 2, .agg #[.int .i64 0, .slice a1 p.sec.length c1, .slice a2 p.sec.length c2, .int .i64 (Pr.fd p k).al, .int .i64 (Ck.fm p k).vars, .string ⟨(Ck.fm p k).bs.toArray⟩, .string ⟨#[]⟩, .int .i64 ((Ck.nodes p k).length - 2), .int .i64 0]]) ∧ (Pr.fd p k).fi = some (i, j) ∧
    w'.ownsRow w.heap.size 3 1 (.slice a1 p.sec.length c1) p.sec.length ((Pr.inp p.sec i 0).map fun (n : Nat) => .int .i64 n) ∧
    w'.ownsRow w.heap.size 3 1 (.slice a2 p.sec.length c2) p.sec.length ((Pr.inp p.sec i j).map fun (n : Nat) => .int .i64 n)
  sec : Dg.Fits p k n → ¬ (Pr.fd p k).al < k → c = 0 ∨ (Ck.pf p k).1 ≤ c → e = .returned (.tuple #[.int .i64 1, .agg #[.int .i64 0, .slice none 0 0, .slice none 0 0, .int .i64 0, .int .i64 (Ck.fm p k).vars, .string ⟨(Ck.fm p k).bs.toArray⟩, .string ⟨(Ck.pf p k).2.toArray⟩, .int .i64 ((Ck.nodes p k).length - 2), .int .i64 (Ck.pf p k).1]])
set_option maxRecDepth 100000 in
set_option maxHeartbeats 1000000 in
theorem dec_any (a1 a2 : Option Addr) (n1 c1 n2 c2 : Nat) (hn : n1 ≤ 1000000) (w : World) :
    Calls Tryz.prog 20 #[.agg #[.slice a1 n1 c1, .slice a2 n2 c2]] w fun e w' => e = .returned (.int .i64 ((n1 : Int) - 2)) ∧ Below w.heap.size w w' := by
  have hnI : (n1 : Int) ≤ 1000000 := by omega
  go_enter Tryz.func20, Tryz.ntmps20
  go_wp2_with fail
  go_ret
  exact ⟨rfl, (Below.refl _ _).alloc (Nat.le_refl _) _⟩
theorem row_later {a b : World} {q n : Nat} {t : TypeId} {f : Nat → Value} (h : a.rowIs q t n f) (hb : Below a.heap.size a b) : b.rowIs q t n f := h.of_block (hb.block q h.lt)
def rpc (i : Nat) : Value := if i = 0 then .int .i64 0 else if i = 1 then .slice none 0 0 else if i = 2 then .slice none 0 0 else if i = 3 then .int .i64 0 else if i = 4 then .int .i64 0 else if i = 5 then .string ⟨#[]⟩ else if i = 6 then .string ⟨#[]⟩ else .int .i64 0
theorem rep_kd9 {G : Prop} {X w1 : World} (hb : Below (X.alloc (.cells #[.int .i64 0, .slice none 0 0, .slice none 0 0, .int .i64 0, .int .i64 0, .string ⟨#[]⟩, .string ⟨#[]⟩, .int .i64 0, .int .i64 0] 26)).drew.heap.size (X.alloc (.cells #[.int .i64 0, .slice none 0 0, .slice none 0 0, .int .i64 0, .int .i64 0, .string ⟨#[]⟩, .string ⟨#[]⟩, .int .i64 0, .int .i64 0] 26)).drew w1)
    (k : (w1.cell? ⟨X.heap.size, 0, none⟩ = some (.int .i64 0)) → (w1.cell? ⟨X.heap.size, 1, none⟩ = some (.slice none 0 0)) → (w1.cell? ⟨X.heap.size, 2, none⟩ = some (.slice none 0 0)) → (w1.cell? ⟨X.heap.size, 3, none⟩ = some (.int .i64 0)) → (w1.cell? ⟨X.heap.size, 4, none⟩ = some (.int .i64 0)) → (w1.cell? ⟨X.heap.size, 5, none⟩ = some (.string ⟨#[]⟩)) → (w1.cell? ⟨X.heap.size, 6, none⟩ = some (.string ⟨#[]⟩)) → (w1.cell? ⟨X.heap.size, 7, none⟩ = some (.int .i64 0)) → (w1.cell? ⟨X.heap.size, 8, none⟩ = some (.int .i64 0)) → (∀ i, w1.frozen? ⟨X.heap.size, i, none⟩ = false) → G) : G := by
  have r : ((X.alloc (.cells #[.int .i64 0, .slice none 0 0, .slice none 0 0, .int .i64 0, .int .i64 0, .string ⟨#[]⟩, .string ⟨#[]⟩, .int .i64 0, .int .i64 0] 26)).drew).rowIs X.heap.size 26 9 rpc := cells_row (hp_new' _ _ _ rfl) rfl (fun i hi => by
    match i, hi with
    | 0, _ => rfl
    | 1, _ => rfl
    | 2, _ => rfl
    | 3, _ => rfl
    | 4, _ => rfl
    | 5, _ => rfl
    | 6, _ => rfl
    | 7, _ => rfl
    | 8, _ => rfl
    | n + 9, h => omega)
  have r2 := row_later r hb
  exact k (r2.cell (i := 0) (by omega)) (r2.cell (i := 1) (by omega)) (r2.cell (i := 2) (by omega)) (r2.cell (i := 3) (by omega)) (r2.cell (i := 4) (by omega)) (r2.cell (i := 5) (by omega)) (r2.cell (i := 6) (by omega)) (r2.cell (i := 7) (by omega)) (r2.cell (i := 8) (by omega)) (fun i => r2.frozen i)
section
variable {base q : Nat} {a w : World}
theorem bel9k (h : Below base a w) (hq : base ≤ q) (v0 v1 v2 v3 v4 v5 v6 v7 v8 : Value) : Below base a (((((((((w.setCell ⟨q, 0, none⟩ v0).setCell ⟨q, 1, none⟩ v1).setCell ⟨q, 2, none⟩ v2).setCell ⟨q, 3, none⟩ v3).setCell ⟨q, 4, none⟩ v4).setCell ⟨q, 5, none⟩ v5).setCell ⟨q, 6, none⟩ v6).setCell ⟨q, 7, none⟩ v7).setCell ⟨q, 8, none⟩ v8) :=
  ((((((((h.setCell (p := ⟨q, 0, none⟩) hq _).setCell (p := ⟨q, 1, none⟩) hq _).setCell (p := ⟨q, 2, none⟩) hq _).setCell (p := ⟨q, 3, none⟩) hq _).setCell (p := ⟨q, 4, none⟩) hq _).setCell (p := ⟨q, 5, none⟩) hq _).setCell (p := ⟨q, 6, none⟩) hq _).setCell (p := ⟨q, 7, none⟩) hq _).setCell (p := ⟨q, 8, none⟩) hq _
theorem frm9k (v0 v1 v2 v3 v4 v5 v6 v7 v8 : Value) : Frm 0 (fun k => k = q) w (((((((((w.setCell ⟨q, 0, none⟩ v0).setCell ⟨q, 1, none⟩ v1).setCell ⟨q, 2, none⟩ v2).setCell ⟨q, 3, none⟩ v3).setCell ⟨q, 4, none⟩ v4).setCell ⟨q, 5, none⟩ v5).setCell ⟨q, 6, none⟩ v6).setCell ⟨q, 7, none⟩ v7).setCell ⟨q, 8, none⟩ v8) :=
  Frm.setCell (p := ⟨q, 8, none⟩) (Frm.setCell (p := ⟨q, 7, none⟩) (Frm.setCell (p := ⟨q, 6, none⟩) (Frm.setCell (p := ⟨q, 5, none⟩) (Frm.setCell (p := ⟨q, 4, none⟩) (Frm.setCell (p := ⟨q, 3, none⟩) (Frm.setCell (p := ⟨q, 2, none⟩) (Frm.setCell (p := ⟨q, 1, none⟩) (Frm.setCell (p := ⟨q, 0, none⟩) (Frm.refl 0 (fun k => k = q) w) (Nat.zero_le _) rfl _) (Nat.zero_le _) rfl _) (Nat.zero_le _) rfl _) (Nat.zero_le _) rfl _) (Nat.zero_le _) rfl _) (Nat.zero_le _) rfl _) (Nat.zero_le _) rfl _) (Nat.zero_le _) rfl _) (Nat.zero_le _) rfl _
end
set_option maxRecDepth 100000 in
set_option maxHeartbeats 4000000 in
theorem check_nofit (s : ByteArray) (k n c : Nat) (w : World) (htab : Tab w) (hk : k ≤ 10) (hn : n ≤ 1048576) (hc : c ≤ 1048576) (hl : (Lk.read s.toList).2 = 0) (hfit : ¬ Dg.Fits (pgOf s.toList) k n) :
    Calls Tryz.prog 6 #[.string s, .int .i64 k, .agg #[.int .i64 n, .int .i64 c]] w fun e w' => CkOut w w' e (pgOf s.toList) k n c := by
  have h1 : wi k 10 = true := by unfold wi; exact decide_eq_true ⟨by omega, by omega⟩
  have h2 : wi n 1048576 = true := by unfold wi; exact decide_eq_true ⟨by omega, by omega⟩
  have h3 : wi c 1048576 = true := by unfold wi; exact decide_eq_true ⟨by omega, by omega⟩
  have HR := hid (show ∀ W : World, Calls Tryz.prog 17 #[.string s] W fun e w1 => ∃ vs vc vk nv, e = .returned (.tuple #[.agg #[vs, .int .i64 nv, vc, vk], .int .i64 0]) ∧ PgAt w1 (pgOf s.toList) vs vc vk ∧ Below W.heap.size W w1 from fun W => (read_any _ _).mono (fun e w1 R => by
    obtain ⟨vs, vc, vk, he, o1, o2, o3⟩ := R.good hl
    exact ⟨vs, vc, vk, _, he, ⟨ownsRow_low o1 (Nat.zero_le _), ownsRow_low o2 (Nat.zero_le _), ownsRow_low o3 (Nat.zero_le _)⟩, R.bel⟩))
  have OK := hid (pgOf_ok s.toList)
  have HT := hid htab
  clear hl htab
  generalize pgOf s.toList = p at HR OK hfit
  have HNF := hid hfit
  clear hfit
  obtain ⟨W0, hW0⟩ : ∃ W0 : World, (w.alloc (.cells #[.int .i64 n, .int .i64 c] 30)).alloc (.cells #[.int .i64 0, .slice none 0 0, .slice none 0 0, .int .i64 0, .int .i64 0, .string ⟨#[]⟩, .string ⟨#[]⟩, .int .i64 0, .int .i64 0] 26) = W0 := ⟨_, rfl⟩
  have hz0 : W0.heap.size = w.heap.size + 2 := by rw [← hW0]; simp
  have HB0 := hid (show Below w.heap.size w W0 by rw [← hW0]; exact ((Below.refl _ _).alloc (Nat.le_refl _) _).alloc (by simp) _)
  have HL0 := hid (show W0.rowIs w.heap.size 30 2 (prc (.int .i64 n) (.int .i64 c)) by
    rw [← hW0]
    exact cells_row (hp_old' _ _ _ _ (hp_new' _ _ _ rfl)) rfl (fun i hi => by
      match i, hi with
      | 0, _ => rfl
      | 1, _ => rfl
      | n + 2, h => omega))
  have HR0 := hid (show W0.rowIs (w.heap.size + 1) 26 9 rpc by
    rw [← hW0]
    exact cells_row (hp_new' _ _ _ (by simp)) rfl (fun i hi => by
      match i, hi with
      | 0, _ => rfl
      | 1, _ => rfl
      | 2, _ => rfl
      | 3, _ => rfl
      | 4, _ => rfl
      | 5, _ => rfl
      | 6, _ => rfl
      | 7, _ => rfl
      | 8, _ => rfl
      | n + 9, h => omega))
  have HE := hid hW0
  clear hW0
  go_enter Tryz.func6, Tryz.ntmps6
  go_wp2_with (first
    | (go_at_call 16; refine (within_any _ _ _).mono ?_; rintro e w' ⟨rfl, rfl⟩)
    | (go_at_call 17; rw [HE.out]; refine (HR.out _).mono ?_; rintro e w1 ⟨vs, vc, vk, nv, rfl, hp1, hb1⟩; have HP1 := hid hp1; have HB1 := hid hb1; clear hp1 hb1; refine Hid.out ?_))
  refine hid ?_
  obtain ⟨as0, cs0, es⟩ := body_val HP1.out.s
  obtain ⟨ac, cc, ec⟩ := body_val HP1.out.c
  obtain ⟨ak, ck, ek⟩ := body_val HP1.out.k
  subst es ec ek
  obtain ⟨W1, hW1⟩ : ∃ W1 : World, w1.alloc (.cells #[.slice as0 p.sec.length cs0, .int .i64 nv, .slice ac p.cells.length cc, .slice ak p.code.length ck] 49) = W1 := ⟨_, rfl⟩
  have z1 := HB1.out.size
  have hz1 : W1.heap.size = w1.heap.size + 1 := by rw [← hW1]; simp
  have HBW1 := hid (show Below w1.heap.size w1 W1 by rw [← hW1]; exact (Below.refl _ _).alloc (Nat.le_refl _) _)
  have HP2 := hid (HP1.out.same HBW1.out)
  have HPB := hid (show W1.rowIs w1.heap.size 49 4 (pgc (.slice as0 p.sec.length cs0) (.slice ac p.cells.length cc) (.slice ak p.code.length ck) nv) by rw [← hW1]; exact pg_row (hp_new' _ _ _ rfl))
  have HB01 := hid (show Below w.heap.size w W1 from (HB0.out.trans (HB1.out.mono (by omega))).trans (HBW1.out.mono (by omega)))
  have HL1 := hid (row_later (row_later HL0.out HB1.out) HBW1.out)
  have HR1 := hid (row_later (row_later HR0.out HB1.out) HBW1.out)
  have HE1 := hid hW1
  have l0 := fun o => ((row_later HL0.out HB1.out).alloc o).cell (i := 0) (by omega)
  have l0' := (row_later HL0.out HB1.out).cell (i := 0) (by omega)
  rw [show ∀ a b, prc a b 0 = a from fun _ _ => rfl] at l0 l0'
  have C := hid ((of_any p OK.out k hk n hn W1 _ _ _ nv HP2.out).mono (fun e w' h => (⟨h.no HNF.out, h.bel⟩ : _ ∧ _)))
  clear hW1 HE HR
  go_wp2_with (go_at_call 18; rw [HE1.out]; refine C.out.mono ?_; rintro e w2 ⟨rfl, hb2⟩; have HB2 := hid hb2; clear hb2; refine Hid.out ?_)
  refine hid ?_
  have z2 := HB2.out.size
  have HL2 := hid (row_later HL1.out HB2.out)
  have HR2 := hid (row_later HR1.out HB2.out)
  have HPB2 := hid (row_later HPB.out HB2.out)
  have HP3 := hid (HP2.out.same HB2.out)
  have HBB2 := hid (show Below w.heap.size w w2 from HB01.out.trans (HB2.out.mono (by omega)))
  clear HE1 l0 l0' C HL0 HR0 HL1 HR1 HPB HP1 HP2 HB0 HB01
  have q0 := fun o => (HR2.out.alloc o).cell (i := 0) (by omega)
  have q1 := fun o => (HR2.out.alloc o).cell (i := 1) (by omega)
  have q2 := fun o => (HR2.out.alloc o).cell (i := 2) (by omega)
  have q3 := fun o => (HR2.out.alloc o).cell (i := 3) (by omega)
  have q4 := fun o => (HR2.out.alloc o).cell (i := 4) (by omega)
  have q5 := fun o => (HR2.out.alloc o).cell (i := 5) (by omega)
  have q6 := fun o => (HR2.out.alloc o).cell (i := 6) (by omega)
  have q7 := fun o => (HR2.out.alloc o).cell (i := 7) (by omega)
  have q8 := fun o => (HR2.out.alloc o).cell (i := 8) (by omega)
  have qf := fun i o => (HR2.out.alloc o).frozen i
  simp only [rpc, Nat.reduceEqDiff, if_true, if_false] at q0 q1 q2 q3 q4 q5 q6 q7 q8
  go_wp2_with fail
  refine bodyPost_ret (v := .tuple #[.int .i64 3, repLine 0]) (by simp [results, Tryz.results6, go_sem, q0, q1, q2, q3, q4, q5, q6, q7, q8]) rfl ⟨?_, fun _ => rfl, fun c => absurd c HNF.out, fun c => absurd c HNF.out⟩
  exact bel9k (HBB2.out.alloc (by omega) _) (Nat.le_succ _) _ _ _ _ _ _ _ _ _
def rpd (vars : Int) (txt : ByteArray) (nd : Int) (i : Nat) : Value := if i = 4 then .int .i64 vars else if i = 5 then .string txt else if i = 7 then .int .i64 nd else rpc i
theorem rpd9 {P : Nat → Prop} (h0 : P 0) (h1 : P 1) (h2 : P 2) (h3 : P 3) (h4 : P 4) (h5 : P 5) (h6 : P 6) (h7 : P 7) (h8 : P 8) (q : Nat) (hq : q < 9) : P q := by
  match q, hq with
  | 0, _ => exact h0
  | 1, _ => exact h1
  | 2, _ => exact h2
  | 3, _ => exact h3
  | 4, _ => exact h4
  | 5, _ => exact h5
  | 6, _ => exact h6
  | 7, _ => exact h7
  | 8, _ => exact h8
  | n + 9, h => omega
theorem rep_setA {X w4 : World} {g : Nat} (hb : Below (X.alloc (.cells #[.int .i64 0, .slice none 0 0, .slice none 0 0, .int .i64 0, .int .i64 0, .string ⟨#[]⟩, .string ⟨#[]⟩, .int .i64 0, .int .i64 0] 26)).drew.heap.size (X.alloc (.cells #[.int .i64 0, .slice none 0 0, .slice none 0 0, .int .i64 0, .int .i64 0, .string ⟨#[]⟩, .string ⟨#[]⟩, .int .i64 0, .int .i64 0] 26)).drew w4) (hg : X.heap.size = g) (vars : Int) (txt : ByteArray) (nd : Int) :
    (((((((((w4.setCell ⟨g, 0, none⟩ (.int .i64 0)).setCell ⟨g, 1, none⟩ (.slice none 0 0)).setCell ⟨g, 2, none⟩ (.slice none 0 0)).setCell ⟨g, 3, none⟩ (.int .i64 0)).setCell ⟨g, 4, none⟩ (.int .i64 vars)).setCell ⟨g, 5, none⟩ (.string txt)).setCell ⟨g, 6, none⟩ (.string ⟨#[]⟩)).setCell ⟨g, 7, none⟩ (.int .i64 nd)).setCell ⟨g, 8, none⟩ (.int .i64 0)).rowIs g 26 9 (rpd vars txt nd) ∧ Below X.heap.size X (((((((((w4.setCell ⟨g, 0, none⟩ (.int .i64 0)).setCell ⟨g, 1, none⟩ (.slice none 0 0)).setCell ⟨g, 2, none⟩ (.slice none 0 0)).setCell ⟨g, 3, none⟩ (.int .i64 0)).setCell ⟨g, 4, none⟩ (.int .i64 vars)).setCell ⟨g, 5, none⟩ (.string txt)).setCell ⟨g, 6, none⟩ (.string ⟨#[]⟩)).setCell ⟨g, 7, none⟩ (.int .i64 nd)).setCell ⟨g, 8, none⟩ (.int .i64 0)) := by
  subst hg
  have r : ((X.alloc (.cells #[.int .i64 0, .slice none 0 0, .slice none 0 0, .int .i64 0, .int .i64 0, .string ⟨#[]⟩, .string ⟨#[]⟩, .int .i64 0, .int .i64 0] 26)).drew).rowIs X.heap.size 26 9 rpc := cells_row (hp_new' _ _ _ rfl) rfl (rpd9 rfl rfl rfl rfl rfl rfl rfl rfl rfl)
  refine ⟨(((((((((row_later r hb).set 0 _).set 1 _).set 2 _).set 3 _).set 4 _).set 5 _).set 6 _).set 7 _).set 8 _ |>.congr (rpd9 rfl rfl rfl rfl rfl rfl rfl rfl rfl), bel9k ((((Below.refl X.heap.size X).alloc (Nat.le_refl _) _).drew).trans (hb.mono (by simp))) (Nat.le_refl _) _ _ _ _ _ _ _ _ _⟩
theorem rep_setB {X w4 : World} (hb : Below X.drew.heap.size X.drew w4) (vars : Int) (txt : ByteArray) (nd : Int) :
    (w4.alloc (.cells #[.int .i64 0, .slice none 0 0, .slice none 0 0, .int .i64 0, .int .i64 vars, .string txt, .string ⟨#[]⟩, .int .i64 nd, .int .i64 0] 26)).rowIs w4.heap.size 26 9 (rpd vars txt nd) ∧ Below X.heap.size X (w4.alloc (.cells #[.int .i64 0, .slice none 0 0, .slice none 0 0, .int .i64 0, .int .i64 vars, .string txt, .string ⟨#[]⟩, .int .i64 nd, .int .i64 0] 26)) := by
  have z := hb.size
  refine ⟨cells_row (hp_new' _ _ _ rfl) rfl (rpd9 rfl rfl rfl rfl rfl rfl rfl rfl rfl), ((Below.refl X.heap.size X).drew.trans hb).alloc (by simpa using z) _⟩
end Go.Proofs.YtgddmpmcnjlcjabGreatDoor
