import Derived.Test.YtgddmpmcnjlcjabDoorB32
import Derived.Test.YtgddmpmcnjlcjabDoorB19
import Derived.Lib.AppendIntMem
import Derived.Test.YtgddmpmcnjlcjabDoorB14
import Derived.Test.YtgddmpmcnjlcjabDoorB21
import Derived.Test.YtgddmpmcnjlcjabDoorB30
namespace Go.Proofs.YtgddmpmcnjlcjabDoor
open Go.RowKit
set_option linter.unusedVariables false
namespace Pr
theorem look_none (p : Pg) (i : Nat) (a : Fd) (j : Nat) (h : (look p i a j).fi = none) : a.fi = none ∧ look p i a j = a := by
  unfold look at h ⊢
  split at h
  · cases h
  · rename_i hn; rw [if_neg hn]; exact ⟨h, rfl⟩
theorem rowN_none (p : Pg) (i : Nat) (a : Fd) (n : Nat) (h : (rowN p i a n).fi = none) : a.fi = none ∧ rowN p i a n = a := by
  induction n with
  | zero => exact ⟨h, rfl⟩
  | succ n ih =>
    obtain ⟨h1, h2⟩ := look_none p i _ _ (show (look p i (rowN p i a n) (n + 1)).fi = none from h)
    obtain ⟨h3, h4⟩ := ih h1
    exact ⟨h3, (show look p i (rowN p i a n) (n + 1) = a by rw [h2, h4])⟩
theorem fdN_none (p : Pg) (k n : Nat) (h : (fdN p k n).fi = none) : (fdN p k n).al = k := by
  induction n with
  | zero => rfl
  | succ n ih =>
    obtain ⟨h1, h2⟩ := rowN_none p n _ _ (show (rowN p n (fdN p k n) (rows p.sec true - 1)).fi = none from h)
    show (rowN p n (fdN p k n) (rows p.sec true - 1)).al = k
    rw [h2]; exact ih h1
end Pr
theorem fdv_some {p : Pg} {w : World} {base k : Nat} {v1 v2 : Value} {at_ : Nat} (h : FdV p w base (Pr.fd p k) v1 v2 at_) (hin : (Pr.fd p k).al < k) : ∃ i j, (Pr.fd p k).fi = some (i, j) ∧ at_ = (Pr.fd p k).al ∧
    w.ownsRow base 3 1 v1 p.sec.length ((Pr.inp p.sec i 0).map fun (n : Nat) => .int .i64 n) ∧
    w.ownsRow base 3 1 v2 p.sec.length ((Pr.inp p.sec i j).map fun (n : Nat) => .int .i64 n) := by
  rcases h with ⟨h, _⟩ | h
  · have h2 := Pr.fdN_none p k _ h
    have h3 : (Pr.fd p k).al = k := h2
    omega
  · exact h
structure ChkOut (w w' : World) (e : Ending) (p : Pg) (k : Nat) : Prop where
  bel : Below w.heap.size w w'
  sec : ¬ (Pr.fd p k).al < k → ∃ (nv : Int) (f g : ByteArray) (nd cf : Int), e = .returned (.tuple #[.int .i64 1, .agg #[.int .i64 0, .slice none 0 0, .slice none 0 0, .int .i64 0, .int .i64 nv, .string f, .string g, .int .i64 nd, .int .i64 cf]])
  ins : (Pr.fd p k).al < k → ∃ a1 c1 a2 c2 i j, ∃ (nv : Int) (f g : ByteArray) (nd cf : Int), e = .returned (.tuple #[.int .i64 2, .agg #[.int .i64 0, .slice a1 p.sec.length c1, .slice a2 p.sec.length c2, .int .i64 (Pr.fd p k).al, .int .i64 nv, .string f, .string g, .int .i64 nd, .int .i64 cf]]) ∧ (Pr.fd p k).fi = some (i, j) ∧
    w'.ownsRow w.heap.size 3 1 (.slice a1 p.sec.length c1) p.sec.length ((Pr.inp p.sec i 0).map fun (n : Nat) => .int .i64 n) ∧
    w'.ownsRow w.heap.size 3 1 (.slice a2 p.sec.length c2) p.sec.length ((Pr.inp p.sec i j).map fun (n : Nat) => .int .i64 n)
abbrev Tab (w : World) : Prop := Lib.TabIs Tryd.prog w "internal/strconv.uint64pow10" .u64 Lib.pow10Tab
theorem tab_on {w w' : World} (h : Tab w) (hb : Below w.heap.size w w') : Tab w' := Lib.tabBelow_of_tabIs h w' hb
def ChkOk (s : ByteArray) (k : Nat) : Prop := ∀ w : World, Tab w → Calls Tryd.prog 8 #[.string s, .int .i64 k, .agg #[.int .i64 0, .int .i64 0]] w fun e w' => ChkOut w w' e (pgOf s.toList) k
abbrev repLine (n : Int) : Value := .agg #[.int .i64 n, .slice none 0 0, .slice none 0 0, .int .i64 0, .int .i64 0, .string ⟨#[]⟩, .string ⟨#[]⟩, .int .i64 0, .int .i64 0]
theorem rep_facts {w w1 : World} {o1 : Obj} (hb : Below ((w.alloc o1).alloc (.cells #[.int .i64 0, .slice none 0 0, .slice none 0 0, .int .i64 0, .int .i64 0, .string ⟨#[]⟩, .string ⟨#[]⟩, .int .i64 0, .int .i64 0] 29)).heap.size ((w.alloc o1).alloc (.cells #[.int .i64 0, .slice none 0 0, .slice none 0 0, .int .i64 0, .int .i64 0, .string ⟨#[]⟩, .string ⟨#[]⟩, .int .i64 0, .int .i64 0] 29)) w1) :
    (∀ o, (w1.alloc o).cell? ⟨w.heap.size + 1, 0, none⟩ = some (.int .i64 0)) ∧
    (∀ o, (w1.alloc o).cell? ⟨w.heap.size + 1, 1, none⟩ = some (.slice none 0 0)) ∧
    (∀ o, (w1.alloc o).cell? ⟨w.heap.size + 1, 2, none⟩ = some (.slice none 0 0)) ∧
    (∀ o, (w1.alloc o).cell? ⟨w.heap.size + 1, 3, none⟩ = some (.int .i64 0)) ∧
    (∀ o, (w1.alloc o).cell? ⟨w.heap.size + 1, 4, none⟩ = some (.int .i64 0)) ∧
    (∀ o, (w1.alloc o).cell? ⟨w.heap.size + 1, 5, none⟩ = some (.string ⟨#[]⟩)) ∧
    (∀ o, (w1.alloc o).cell? ⟨w.heap.size + 1, 6, none⟩ = some (.string ⟨#[]⟩)) ∧
    (∀ o, (w1.alloc o).cell? ⟨w.heap.size + 1, 7, none⟩ = some (.int .i64 0)) ∧
    (∀ o, (w1.alloc o).cell? ⟨w.heap.size + 1, 8, none⟩ = some (.int .i64 0)) ∧
    (∀ i o, (w1.alloc o).frozen? ⟨w.heap.size + 1, i, none⟩ = false) := by
  have z := hb.size
  simp at z
  refine ⟨fun o => cell_alloc (cell_later hb (newAt2 w o1 _ _ 0 _ rfl)) o, fun o => cell_alloc (cell_later hb (newAt2 w o1 _ _ 1 _ rfl)) o, fun o => cell_alloc (cell_later hb (newAt2 w o1 _ _ 2 _ rfl)) o, fun o => cell_alloc (cell_later hb (newAt2 w o1 _ _ 3 _ rfl)) o, fun o => cell_alloc (cell_later hb (newAt2 w o1 _ _ 4 _ rfl)) o, fun o => cell_alloc (cell_later hb (newAt2 w o1 _ _ 5 _ rfl)) o, fun o => cell_alloc (cell_later hb (newAt2 w o1 _ _ 6 _ rfl)) o, fun o => cell_alloc (cell_later hb (newAt2 w o1 _ _ 7 _ rfl)) o, fun o => cell_alloc (cell_later hb (newAt2 w o1 _ _ 8 _ rfl)) o, fun i o => froz_alloc (by show w.heap.size + 1 < w1.heap.size; omega) (froz_later hb (by simp) (froz_new2 w o1 _ _ i)) o⟩
set_option maxRecDepth 100000 in
set_option maxHeartbeats 1000000 in
theorem check_bounds (s : ByteArray) (k n c : Int) (w : World) (h : wi k 10 = false ∨ wi n 1048576 = false ∨ wi c 1048576 = false) :
    Calls Tryd.prog 8 #[.string s, .int .i64 k, .agg #[.int .i64 n, .int .i64 c]] w fun e w' => e = .returned (.tuple #[.int .i64 0, repLine 0]) ∧ Below w.heap.size w w' := by
  cases h1 : wi k 10 with
  | false =>
    go_enter Tryd.func8, Tryd.ntmps8
    go_wp2_with (first | (go_at_call 15; refine (within_any _ _ _).mono ?_; rintro e w' ⟨rfl, rfl⟩))
    exact bodyPost_ret (v := .tuple #[.int .i64 0, repLine 0]) (by simp [results, Tryd.results8, go_sem]) rfl ⟨rfl, ((Below.refl _ _).alloc (Nat.le_refl _) _).alloc (by simp) _⟩
  | true =>
    cases h2 : wi n 1048576 with
    | false =>
      go_enter Tryd.func8, Tryd.ntmps8
      go_wp2_with (first | (go_at_call 15; refine (within_any _ _ _).mono ?_; rintro e w' ⟨rfl, rfl⟩))
      exact bodyPost_ret (v := .tuple #[.int .i64 0, repLine 0]) (by simp [results, Tryd.results8, go_sem]) rfl ⟨rfl, ((Below.refl _ _).alloc (Nat.le_refl _) _).alloc (by simp) _⟩
    | true =>
      cases h3 : wi c 1048576 with
      | false =>
        go_enter Tryd.func8, Tryd.ntmps8
        go_wp2_with (first | (go_at_call 15; refine (within_any _ _ _).mono ?_; rintro e w' ⟨rfl, rfl⟩))
        exact bodyPost_ret (v := .tuple #[.int .i64 0, repLine 0]) (by simp [results, Tryd.results8, go_sem]) rfl ⟨rfl, ((Below.refl _ _).alloc (Nat.le_refl _) _).alloc (by simp) _⟩
      | true => simp [h1, h2, h3] at h
set_option maxRecDepth 100000 in
set_option maxHeartbeats 1000000 in
theorem check_line (s : ByteArray) (k n c : Int) (w : World) (h1 : wi k 10 = true) (h2 : wi n 1048576 = true) (h3 : wi c 1048576 = true) (l : Nat) (hl : (Lk.read s.toList).2 = l) (hl0 : 0 < l) :
    Calls Tryd.prog 8 #[.string s, .int .i64 k, .agg #[.int .i64 n, .int .i64 c]] w fun e w' => e = .returned (.tuple #[.int .i64 0, repLine l]) ∧ Below w.heap.size w w' := by
  have HL := hid hl
  have hlI : ((l : Int) != 0) = true := by simp; omega
  clear hl
  go_enter Tryd.func8, Tryd.ntmps8
  go_wp2_with (first
    | (go_at_call 15; refine (within_any _ _ _).mono ?_; rintro e w' ⟨rfl, rfl⟩)
    | (go_at_call 16; refine (read_any _ _).mono ?_; rintro e w1 R; have he := R.bad (by rw [HL.out]; omega); subst he; rw [HL.out]; have hb := R.bel; have z1 := hb.size; simp at z1; obtain ⟨c0, c1, c2, c3, c4, c5, c6, c7, c8, cf⟩ := rep_facts hb; have HB := hid hb; clear R hb))
  refine bodyPost_ret (v := .tuple #[.int .i64 0, repLine l]) (by simp [results, Tryd.results8, go_sem, c0, c1, c2, c3, c4, c5, c6, c7, c8]) rfl ⟨rfl, ?_⟩
  exact ((((((((((((((Below.refl _ _).alloc (Nat.le_refl _) _).alloc (by simp) _).trans (HB.out.mono (by simp; omega))).alloc (by omega) _).setCell (Nat.le_succ _) _).setCell (Nat.le_succ _) _).setCell (Nat.le_succ _) _).setCell (Nat.le_succ _) _).setCell (Nat.le_succ _) _).setCell (Nat.le_succ _) _).setCell (Nat.le_succ _) _).setCell (Nat.le_succ _) _).setCell (Nat.le_succ _) _)
namespace Ck
def nodes (p : Pg) (k : Nat) : List Dg.Nd := (Dg.dia p k (7 * k)).1.nodes
def told (p : Pg) (k : Nat) : List Nat := (Dg.dia p k (7 * k)).2
def fm (p : Pg) (k : Nat) : Cl.Fm := Cl.form p.sec (nodes p k) (told p k)
def pf (p : Pg) (k : Nat) : Nat × List UInt8 := Cl.prf (fm p k).bits (fm p k).ct
theorem dia_ok {p : Pg} (ok : PgOk p) (k : Nat) (hk : k ≤ 10) : Dg.Ok p.sec.length (2 ^ (Dg.order p.sec.length).length) (Dg.dia p k (7 * k)).1 ∧ (told p k).length = 7 * k ∧ (∀ j, j < 7 * k → (told p k).getD j 0 < (nodes p k).length) ∧ (nodes p k).length ≤ 400000 := by
  obtain ⟨a, b, c, d⟩ := Dg.stp_ok p.sec.length p.sec (2 ^ (Dg.order p.sec.length).length) (Dg.order p.sec.length) (Dg.told p (Dg.order p.sec.length) k) (Dg.order_lt _) (7 * k)
  refine ⟨a, b, c, ?_⟩
  have hs := ok.sec
  have h1 : 2 ^ (Dg.order p.sec.length).length ≤ 4096 := by rw [Dg.order_len]; exact Nat.pow_le_pow_right (by omega) (show p.sec.length * 4 ≤ 12 by omega)
  have h2 : 7 * k * 2 ^ (Dg.order p.sec.length).length ≤ 70 * 4096 := Nat.mul_le_mul (by omega) h1
  have h3 : (nodes p k).length ≤ 2 + 7 * k * 2 ^ (Dg.order p.sec.length).length := d
  omega
theorem bits_ok {p : Pg} (ok : PgOk p) (k : Nat) (hk : k ≤ 10) : (fm p k).bits.length = 7 * k ∧ (∀ i, ((fm p k).bits.getD i {}).Ok) ∧ (fm p k).ct ≤ 900000000 := by
  obtain ⟨h1, h2, h3, h4⟩ := dia_ok ok k hk
  have hv := Cl.vin_le p.sec
  have hs := ok.sec
  have hct : (Cl.nds p.sec (nodes p k) (told p k).length).ct ≤ 8 * 400000 := by
    have key : ∀ (nodes : List Dg.Nd) (b1 b2 : List Nat) (x : Cl.Ns) (i : Nat), (Cl.nodesN nodes b1 b2 x i).ct ≤ x.ct + 8 * i := by
      intro nodes b1 b2 x i
      induction i with
      | zero => exact Nat.le_refl _
      | succ i ih =>
        unfold Cl.nodesN
        split
        · omega
        · show (Cl.two _ _ _ (Cl.one _ _ _ _ _)).ct ≤ _
          have s : ∀ n, sameC n ≤ 2 := fun n => by unfold sameC; split <;> omega
          have a1 : (Cl.one nodes.length b1 (Dg.ndAt nodes i) i (Cl.nodesN nodes b1 b2 x i)).ct ≤ (Cl.nodesN nodes b1 b2 x i).ct + 4 := by
            show (Cl.nodesN nodes b1 b2 x i).ct + (sameC _ + sameC _) ≤ _
            have := s (Dg.ndAt nodes i).lo
            have := s (Dg.ndAt nodes i).hi
            omega
          have a2 : ∀ y : Cl.Ns, (Cl.two nodes.length b2 (Dg.ndAt nodes i) y).ct ≤ y.ct + 4 := fun y => by
            unfold Cl.two
            split
            · show y.ct + (sameC _ + sameC _) ≤ _
              have := s (Dg.ndAt nodes i).lo
              have := s (Dg.ndAt nodes i).hi
              omega
            · omega
          have := a2 (Cl.one nodes.length b1 (Dg.ndAt nodes i) i (Cl.nodesN nodes b1 b2 x i))
          omega
    have := key (nodes p k) (Cl.b1 p.sec) (Cl.b2 p.sec) ⟨Cl.vin p.sec + 3 * (told p k).length, 0, fun _ => 0, fun _ => 0, []⟩ (nodes p k).length
    show (Cl.nodesN _ _ _ _ _).ct ≤ _
    have e0 : (⟨Cl.vin p.sec + 3 * (told p k).length, 0, fun _ => 0, fun _ => 0, []⟩ : Cl.Ns).ct = 0 := rfl
    omega
  have t1 : ∀ i, i ≤ 70 → (Cl.tl1 p.sec (nodes p k) (told p k) i).1 ≤ 3300000 := fun i hi => by
    have := Cl.tldN_le (Cl.n1 p.sec (nodes p k) (told p k).length) (Cl.vin p.sec) (told p k) (Cl.nds p.sec (nodes p k) (told p k).length).ct i
    unfold Cl.tl1
    omega
  have t2 : ∀ i, i ≤ 70 → (Cl.tl2 p.sec (nodes p k) (told p k) i).1 ≤ 3400000 := fun i hi => by
    have h70 := t1 (told p k).length (by omega)
    have := Cl.tldN_le (Cl.n2 p.sec (nodes p k) (told p k).length) (Cl.vin p.sec + (told p k).length) (told p k) (Cl.tl1 p.sec (nodes p k) (told p k) (told p k).length).1 i
    unfold Cl.tl2
    omega
  have hbl : (fm p k).bits.length = 7 * k := by show ((List.range (told p k).length).map _).length = _; simp [h2]
  refine ⟨hbl, fun i => ?_, ?_⟩
  · by_cases c : i < 7 * k
    · have e : (fm p k).bits.getD i {} = Cl.bitN p.sec (nodes p k) (told p k) i := by
        show ((List.range (told p k).length).map (Cl.bitN p.sec (nodes p k) (told p k))).getD i ({} : Cl.Bt) = _
        simp [h2, c]
      rw [e]
      have a1 := t1 i (by omega)
      have a2 := t2 i (by omega)
      have a3 := t2 (told p k).length (by omega)
      refine ⟨?_, ?_, ?_, ?_, ?_, ?_⟩
      · show Cl.vin p.sec + 1 + i ≤ _; omega
      · show (Cl.tl1 p.sec (nodes p k) (told p k) i).1 + 1 ≤ _; omega
      · show Cl.vin p.sec + (told p k).length + 1 + i ≤ _; omega
      · show (Cl.tl2 p.sec (nodes p k) (told p k) i).1 + 1 ≤ _; omega
      · show Cl.vin p.sec + 2 * (told p k).length + 1 + i ≤ _; omega
      · show (Cl.tl2 p.sec (nodes p k) (told p k) (told p k).length).1 + 4 * i + 1 ≤ _; omega
    · rw [List.getD_eq_getElem?_getD, List.getElem?_eq_none (by omega)]
      exact ⟨Nat.zero_le _, Nat.zero_le _, Nat.zero_le _, Nat.zero_le _, Nat.zero_le _, Nat.zero_le _⟩
  · have a3 := t2 (told p k).length (by omega)
    show (Cl.tl2 p.sec (nodes p k) (told p k) (told p k).length).1 + 4 * (told p k).length + 1 ≤ _
    omega
end Ck
structure CkOut (w w' : World) (e : Ending) (p : Pg) (k n c : Nat) : Prop where
  bel : Below w.heap.size w w'
  unk : ¬ Dg.Fits p k n ∨ (¬ (Pr.fd p k).al < k ∧ c ≠ 0 ∧ c < (Ck.pf p k).1) → e = .returned (.tuple #[.int .i64 3, repLine 0])
  ins : Dg.Fits p k n → (Pr.fd p k).al < k → ∃ a1 c1 a2 c2 i j, e = .returned (.tuple #[.int .i64 2, .agg #[.int .i64 0, .slice a1 p.sec.length c1, .slice a2 p.sec.length c2, .int .i64 (Pr.fd p k).al, .int .i64 (Ck.fm p k).vars, .string ⟨(Ck.fm p k).bs.toArray⟩, .string ⟨#[]⟩, .int .i64 ((Ck.nodes p k).length - 2), .int .i64 0]]) ∧ (Pr.fd p k).fi = some (i, j) ∧
    w'.ownsRow w.heap.size 3 1 (.slice a1 p.sec.length c1) p.sec.length ((Pr.inp p.sec i 0).map fun (n : Nat) => .int .i64 n) ∧
    w'.ownsRow w.heap.size 3 1 (.slice a2 p.sec.length c2) p.sec.length ((Pr.inp p.sec i j).map fun (n : Nat) => .int .i64 n)
  sec : Dg.Fits p k n → ¬ (Pr.fd p k).al < k → c = 0 ∨ (Ck.pf p k).1 ≤ c → e = .returned (.tuple #[.int .i64 1, .agg #[.int .i64 0, .slice none 0 0, .slice none 0 0, .int .i64 0, .int .i64 (Ck.fm p k).vars, .string ⟨(Ck.fm p k).bs.toArray⟩, .string ⟨(Ck.pf p k).2.toArray⟩, .int .i64 ((Ck.nodes p k).length - 2), .int .i64 (Ck.pf p k).1]])
set_option maxRecDepth 100000 in
set_option maxHeartbeats 1000000 in
theorem dec_any (a1 a2 : Option Addr) (n1 c1 n2 c2 : Nat) (hn : n1 ≤ 1000000) (w : World) :
    Calls Tryd.prog 19 #[.agg #[.slice a1 n1 c1, .slice a2 n2 c2]] w fun e w' => e = .returned (.int .i64 ((n1 : Int) - 2)) ∧ Below w.heap.size w w' := by
  have hnI : (n1 : Int) ≤ 1000000 := by omega
  go_enter Tryd.func19, Tryd.ntmps19
  go_wp2_with fail
  go_ret
  exact ⟨rfl, (Below.refl _ _).alloc (Nat.le_refl _) _⟩
end Go.Proofs.YtgddmpmcnjlcjabDoor
