import Derived.Test.YtgddmpmcnjlcjabGreatDoorK03
import Derived.Test.YtgddmpmcnjlcjabGreatDoorB28
import Derived.Test.YtgddmpmcnjlcjabGreatDoorB02
import Derived.Test.YtgddmpmcnjlcjabGreatDoorB07
import Derived.Test.YtgddmpmcnjlcjabGreatDoorB10
import Derived.Test.YtgddmpmcnjlcjabGreatDoorK01
import Derived.Test.YtgddmpmcnjlcjabGreatDoorB32
import Derived.Test.YtgddmpmcnjlcjabGreatDoorB09
import Derived.Deep.LoopGhost
import Derived.Deep.DeepCutAuto
import Derived.Test.YtgddmpmcnjlcjabGreatDoorB16
namespace Go.Proofs.YtgddmpmcnjlcjabGreatDoor
set_option linter.unusedVariables false
namespace Dg
theorem ordK_get (n : Nat) : ∀ p q i, q < p → i < n → (ordK n p).getD (q * n + i) 0 = i * 4 + q := by
  intro p
  induction p with
  | zero => intro q i h; exact absurd h (by omega)
  | succ p ih =>
    intro q i hq hi
    have hl := ordK_len n p
    show (ordK n p ++ (List.range n).map fun i => i * 4 + p).getD (q * n + i) 0 = _
    by_cases c : q < p
    · have hlt : q * n + i < (ordK n p).length := by
        rw [hl]
        have : (q + 1) * n ≤ p * n := Nat.mul_le_mul_right n c
        rw [Nat.succ_mul] at this
        rw [Nat.mul_comm n p]
        omega
      rw [List.getD_eq_getElem?_getD, List.getElem?_append_left hlt, ← List.getD_eq_getElem?_getD]
      exact ih q i c hi
    · have : q = p := by omega
      subst this
      rw [List.getD_eq_getElem?_getD, List.getElem?_append_right (by rw [hl, Nat.mul_comm]; omega), hl, Nat.mul_comm n q, Nat.add_sub_cancel_left]
      simp [hi]
def pos (n b : Nat) : Nat := (b % 4) * n + b / 4
theorem order_at (n l : Nat) (h : l < 4 * n) : (order n).getD l 0 = l % n * 4 + l / n ∧ l % n < n ∧ l / n < 4 := by
  have hn : 0 < n := by omega
  have h1 := Nat.mod_lt l hn
  have h2 : l / n < 4 := Nat.div_lt_of_lt_mul (by rw [Nat.mul_comm]; exact h)
  have h3 := ordK_get n 4 (l / n) (l % n) h2 h1
  rw [show l / n * n + l % n = l by rw [Nat.mul_comm]; exact Nat.div_add_mod l n] at h3
  exact ⟨h3, h1, h2⟩
theorem order_pos (n l : Nat) (h : l < (order n).length) : pos n ((order n).getD l 0) = l := by
  rw [order_len] at h
  obtain ⟨e, h1, h2⟩ := order_at n l (by omega)
  rw [e]
  unfold pos
  have d := Nat.div_add_mod l n
  generalize l / n = q at h2 d ⊢
  generalize l % n = r at h1 d ⊢
  rw [show (r * 4 + q) % 4 = q by omega, show (r * 4 + q) / 4 = r by omega, Nat.mul_comm]
  exact d
theorem pos_inj (n a b : Nat) (ha : a < 4 * n) (hb : b < 4 * n) (h : pos n a = pos n b) : a = b := by
  unfold pos at h
  have h1 : a / 4 < n := by omega
  have h2 : b / 4 < n := by omega
  have e : ∀ q r, r < n → (q * n + r) / n = q ∧ (q * n + r) % n = r := fun q r hr => ⟨by rw [Nat.mul_comm, Nat.mul_add_div (by omega), Nat.div_eq_of_lt hr, Nat.add_zero], by rw [Nat.mul_comm, Nat.mul_add_mod, Nat.mod_eq_of_lt hr]⟩
  have a1 := e (a % 4) (a / 4) h1
  have b1 := e (b % 4) (b / 4) h2
  rw [h] at a1
  omega
theorem ix_eq (bits : List Nat) (x : Nat → Bool) : ∀ N j, ix bits x N j = 2 ^ N * j + ix bits x N 0 ∧ ix bits x N 0 < 2 ^ N := by
  intro N
  induction N with
  | zero => intro j; exact ⟨by show j = 2 ^ 0 * j + 0; omega, by show 0 < 1; omega⟩
  | succ N ih =>
    intro j
    have key : ∀ j, ix bits x (N + 1) j = 2 ^ N * (if x (bits.getD N 0) then 2 * j + 1 else 2 * j) + ix bits x N 0 := fun j => (ih _).1
    have h0 := (ih 0).2
    have k0 := key 0
    have kj := key j
    refine ⟨?_, ?_⟩
    · rw [kj, k0, Nat.pow_succ]
      split
      · rw [Nat.mul_add, ← Nat.mul_assoc]; omega
      · rw [← Nat.mul_assoc]; omega
    · rw [k0, Nat.pow_succ]
      split <;> omega
theorem ix_bit (bits : List Nat) (x : Nat → Bool) : ∀ N L, L < N → (ix bits x N 0).testBit L = x (bits.getD L 0) := by
  intro N
  induction N with
  | zero => intro L h; exact absurd h (by omega)
  | succ N ih =>
    intro L hL
    have e : ix bits x (N + 1) 0 = 2 ^ N * (if x (bits.getD N 0) then 1 else 0) + ix bits x N 0 := by
      refine ((ix_eq bits x N (if x (bits.getD N 0) then 2 * 0 + 1 else 2 * 0)).1).trans ?_
      congr 2
    rw [e, Nat.testBit_two_pow_mul_add _ (ix_eq bits x N 0).2]
    by_cases c : L < N
    · rw [if_pos c]; exact ih L c
    · have : L = N := by omega
      subst this
      rw [if_neg c, Nat.sub_self]
      cases x (bits.getD L 0) <;> rfl
theorem shift_bit (v L : Nat) : v >>> L &&& 1 = (v.testBit L).toNat := by
  rw [Nat.testBit, Nat.and_comm 1]
  have : v >>> L &&& 1 = 0 ∨ v >>> L &&& 1 = 1 := by
    have : v >>> L &&& 1 ≤ 1 := Nat.and_le_right
    omega
  rcases this with h | h <;> rw [h] <;> rfl
theorem inL_congr (bits : List Nat) (u v i : Nat) : ∀ N, (∀ L, L < N → bits.getD L 0 / 4 = i → u >>> L &&& 1 = v >>> L &&& 1) → inL bits u N i = inL bits v N i := by
  intro N
  induction N with
  | zero => intro _; rfl
  | succ N ih =>
    intro h
    have ih := ih (fun L hL => h L (by omega))
    show Lk.upd _ _ _ i = Lk.upd _ _ _ i
    unfold Lk.upd
    by_cases c : i = bits.getD N 0 / 4
    · rw [if_pos c, if_pos c, ← c, ih, h N (by omega) c.symm]
    · rw [if_neg c, if_neg c]; exact ih
end Dg
theorem inp_ag {n : Nat} {sec : List Bool} {x y : Nat → Bool} (h : Dg.AgB n sec x y) {i : Nat} (hi : i < n) (hs : sec.getD i false = false) :
    Dg.inL (Dg.order n) (Dg.ix (Dg.order n) x (Dg.order n).length 0) (Dg.order n).length i = Dg.inL (Dg.order n) (Dg.ix (Dg.order n) y (Dg.order n).length 0) (Dg.order n).length i := by
  refine Dg.inL_congr _ _ _ i _ fun L hL e => ?_
  rw [Dg.shift_bit, Dg.shift_bit, Dg.ix_bit _ _ _ _ hL, Dg.ix_bit _ _ _ _ hL, h _ (Dg.order_lt n L hL) (by rw [e]; exact hs)]
theorem zr_ag : ∀ (sec : List Bool) (f g : Nat → Nat), (∀ i, i < sec.length → sec.getD i false = false → f i = g i) → Pr.zr sec ((List.range sec.length).map f) = Pr.zr sec ((List.range sec.length).map g)
  | [], _, _, _ => rfl
  | b :: bs, f, g, h => by
    have e : ∀ f : Nat → Nat, (List.range (b :: bs).length).map f = f 0 :: (List.range bs.length).map (fun i => f (i + 1)) := fun f => by
      rw [List.length_cons, List.range_succ_eq_map, List.map_cons, List.map_map]; rfl
    rw [e f, e g]
    show (if b = true then 0 else f 0) :: Pr.zr bs _ = (if b = true then 0 else g 0) :: Pr.zr bs _
    rw [zr_ag bs (fun i => f (i + 1)) (fun i => g (i + 1)) (fun i hi hs => h (i + 1) (by simp; omega) hs)]
    congr 1
    cases b with
    | true => rfl
    | false => exact h 0 (by simp) rfl
namespace Ck
theorem dia_val {p : Pg} (ok : PgOk p) (k : Nat) : Dg.Ok p.sec.length (2 ^ (Dg.order p.sec.length).length) (Dg.dia p k (7 * k)).1 ∧ Dg.Uq p.sec (2 ^ (Dg.order p.sec.length).length) (Dg.pos p.sec.length) (Dg.dia p k (7 * k)).1 ∧ (told p k).length = 7 * k ∧ ∀ j, j < 7 * k → (told p k).getD j 0 < (nodes p k).length ∧ ∀ x, Dg.vl (nodes p k) x ((told p k).getD j 0) = (Dg.layR (Dg.told p (Dg.order p.sec.length) k) (j / 7) (j % 7) (Dg.ix (Dg.order p.sec.length) x (Dg.order p.sec.length).length 0) == 1) :=
  Dg.stp_val (sec := p.sec) (n := p.sec.length) (pos := Dg.pos p.sec.length) (fun l hl => Dg.order_pos _ l hl) (Dg.order_lt _) rfl (Dg.told p (Dg.order p.sec.length) k) (7 * k)
theorem dia_dia {p : Pg} (ok : PgOk p) (k : Nat) : Cl.Dia p.sec (nodes p k) (told p k) (Dg.pos p.sec.length) := by
  obtain ⟨h1, h2, h3, h4⟩ := dia_val ok k
  exact ⟨⟨_, rfl, _, h1, h2⟩, Dg.pos_inj _, fun i hi => (h4 i (by omega)).1⟩
theorem told_nosec {p : Pg} (ok : PgOk p) (k : Nat) (hs : ¬ (Pr.fd p k).al < k) : ∀ i, i < (told p k).length → (Dg.ndAt (nodes p k) ((told p k).getD i 0)).sec = false := by
  obtain ⟨h1, h2, h3, h4⟩ := dia_val ok k
  intro i hi
  rw [h3] at hi
  cases h : (Dg.ndAt (nodes p k) ((told p k).getD i 0)).sec with
  | false => rfl
  | true =>
    exfalso
    obtain ⟨x, y, hxy, hne⟩ := (dia_dia ok k).dep (h4 i hi).1 h
    refine hne ?_
    rw [(h4 i hi).2 x, (h4 i hi).2 y]
    have key : ∀ x, Dg.told p (Dg.order p.sec.length) k (Dg.ix (Dg.order p.sec.length) x (Dg.order p.sec.length).length 0) = Pr.tl p k (Pr.zr p.sec (Dg.inp (Dg.order p.sec.length) p.sec.length (Dg.ix (Dg.order p.sec.length) x (Dg.order p.sec.length).length 0))) := fun x =>
      Pr.fd_secure hs _ (by unfold Dg.inp; simp) (fun v hv => by
        unfold Dg.inp at hv
        obtain ⟨j, _, rfl⟩ := List.mem_map.1 hv
        exact Dg.inL_lt _ _ _ _)
    have e : Dg.told p (Dg.order p.sec.length) k (Dg.ix (Dg.order p.sec.length) x (Dg.order p.sec.length).length 0) = Dg.told p (Dg.order p.sec.length) k (Dg.ix (Dg.order p.sec.length) y (Dg.order p.sec.length).length 0) := by
      rw [key x, key y]
      unfold Dg.inp
      rw [zr_ag p.sec _ _ (fun i hi hs => inp_ag hxy hi hs)]
    unfold Dg.layR
    rw [e]
theorem fm_size {p : Pg} (ok : PgOk p) (k : Nat) (hk : k ≤ 10) : (fm p k).ct ≤ 3500000 ∧ (fm p k).vars ≤ 900000 ∧ (fm p k).bs.length ≤ 300000000 := by
  obtain ⟨h1, h2, h3, h4⟩ := dia_ok ok k hk
  have hv := Cl.vin_le p.sec
  have hs := ok.sec
  have hn := Cl.nds_ok p.sec (nodes p k) (told p k).length hs (by omega) h4 (nodes p k).length h4
  have hb := bits_ok ok k hk
  have hct : (Cl.nds p.sec (nodes p k) (told p k).length).ct ≤ 8 * 400000 := by
    have key : ∀ (nodes : List Dg.Nd) (b1 b2 : List Nat) (x : Cl.Ns) (i : Nat), (Cl.nodesN nodes b1 b2 x i).ct ≤ x.ct + 8 * i := by
      intro nodes b1 b2 x i
      induction i with
      | zero => exact Nat.le_refl _
      | succ i ih =>
        unfold Cl.nodesN
        split
        · omega
        · show (Cl.two _ _ _ (Cl.one _ _ _ _ _)).ct ≤ _
          have s : ∀ n, sameC n ≤ 2 := fun n => by unfold sameC; split <;> omega
          have a1 : (Cl.one nodes.length b1 (Dg.ndAt nodes i) i (Cl.nodesN nodes b1 b2 x i)).ct ≤ (Cl.nodesN nodes b1 b2 x i).ct + 4 := by
            show (Cl.nodesN nodes b1 b2 x i).ct + (sameC _ + sameC _) ≤ _
            have := s (Dg.ndAt nodes i).lo
            have := s (Dg.ndAt nodes i).hi
            omega
          have a2 : ∀ y : Cl.Ns, (Cl.two nodes.length b2 (Dg.ndAt nodes i) y).ct ≤ y.ct + 4 := fun y => by
            unfold Cl.two
            split
            · show y.ct + (sameC _ + sameC _) ≤ _
              have := s (Dg.ndAt nodes i).lo
              have := s (Dg.ndAt nodes i).hi
              omega
            · omega
          have := a2 (Cl.one nodes.length b1 (Dg.ndAt nodes i) i (Cl.nodesN nodes b1 b2 x i))
          omega
    have := key (nodes p k) (Cl.b1 p.sec) (Cl.b2 p.sec) ⟨Cl.vin p.sec + 3 * (told p k).length, 0, fun _ => 0, fun _ => 0, []⟩ (nodes p k).length
    show (Cl.nodesN _ _ _ _ _).ct ≤ _
    have e0 : (⟨Cl.vin p.sec + 3 * (told p k).length, 0, fun _ => 0, fun _ => 0, []⟩ : Cl.Ns).ct = 0 := rfl
    omega
  have hN1 : ∀ j, (Cl.n1 p.sec (nodes p k) (told p k).length).getD j 0 ≤ 1000000000 := Cl.tab_le _ _ _ fun i => Nat.le_trans (hn.f1 i) (by have := hn.vars; omega)
  have hN2 : ∀ j, (Cl.n2 p.sec (nodes p k) (told p k).length).getD j 0 ≤ 1000000000 := Cl.tab_le _ _ _ fun i => Nat.le_trans (hn.f2 i) (by have := hn.vars; omega)
  refine ⟨?_, ?_, ?_⟩
  · have a1 := Cl.tldN_le (Cl.n1 p.sec (nodes p k) (told p k).length) (Cl.vin p.sec) (told p k) (Cl.nds p.sec (nodes p k) (told p k).length).ct (told p k).length
    have a2 := Cl.tldN_le (Cl.n2 p.sec (nodes p k) (told p k).length) (Cl.vin p.sec + (told p k).length) (told p k) (Cl.tl1 p.sec (nodes p k) (told p k) (told p k).length).1 (told p k).length
    show (Cl.tldN (Cl.n2 p.sec (nodes p k) (told p k).length) (Cl.vin p.sec + (told p k).length) (told p k) (Cl.tl1 p.sec (nodes p k) (told p k) (told p k).length).1 (told p k).length).1 + 4 * (told p k).length + 1 ≤ _
    have a1 : (Cl.tl1 p.sec (nodes p k) (told p k) (told p k).length).1 ≤ _ := a1
    omega
  · show (Cl.nds p.sec (nodes p k) (told p k).length).vars ≤ _
    have := hn.vars
    show (Cl.nodesN _ _ _ _ _).vars ≤ _
    omega
  · have b1 := hn.bs
    have b2 := Cl.tldN_len (Cl.n1 p.sec (nodes p k) (told p k).length) (Cl.vin p.sec) (told p k) (Cl.nds p.sec (nodes p k) (told p k).length).ct (told p k).length hN1 (by omega)
    have b3 := Cl.tldN_len (Cl.n2 p.sec (nodes p k) (told p k).length) (Cl.vin p.sec + (told p k).length) (told p k) (Cl.tl1 p.sec (nodes p k) (told p k) (told p k).length).1 (told p k).length hN2 (by omega)
    have b4 := Cl.difN_len (Cl.vin p.sec) (told p k).length (told p k).length (by omega)
    have b5 := litsB_len (freshL (Cl.vin p.sec + 2 * (told p k).length) (told p k).length) (fun i => Nat.le_trans (Cl.freshL_le _ _ _) (by omega)) (told p k).length
    show ((Cl.nds p.sec (nodes p k) (told p k).length).bs ++ (Cl.tl1 p.sec (nodes p k) (told p k) (told p k).length).2 ++ (Cl.tl2 p.sec (nodes p k) (told p k) (told p k).length).2 ++ Cl.difN (Cl.vin p.sec) (told p k).length (told p k).length ++ litsB (freshL (Cl.vin p.sec + 2 * (told p k).length) (told p k).length) (told p k).length ++ [48, 10]).length ≤ _
    have b1 : (Cl.nds p.sec (nodes p k) (told p k).length).bs.length ≤ _ := b1
    have b2 : (Cl.tl1 p.sec (nodes p k) (told p k) (told p k).length).2.length ≤ _ := b2
    have b3 : (Cl.tl2 p.sec (nodes p k) (told p k) (told p k).length).2.length ≤ _ := b3
    simp only [List.length_append, List.length_cons, List.length_nil]
    omega
end Ck
end Go.Proofs.YtgddmpmcnjlcjabGreatDoor
namespace Go.Proofs.YtgddmpmcnjlcjabGreatDoor
open Go.RowKit
set_option linter.unusedVariables false
theorem slice_inj {a b : Option Addr} {n m c d : Nat} (h : Value.slice a n c = .slice b m d) : a = b ∧ n = m ∧ c = d := by
  cases h
  exact ⟨rfl, rfl, rfl⟩
structure InAt (w : World) (v : Value) (xs : List Int) : Prop where
  val : ∃ a c, v = .slice a xs.length c
  at_ : ∀ j, j < xs.length → ∃ g off c, v = .slice (some ⟨g, off, none⟩) xs.length c ∧ w.cell? ⟨g, off + j, none⟩ = some (.int .i64 (xs.getD j 0))
def ints (l : List Nat) : List Int := l.map fun (n : Nat) => (n : Int)
theorem InAt.later {w w' : World} {v : Value} {xs : List Int} (h : InAt w v xs) (hb : ∀ k, k < w.heap.size → w'.heap[k]? = w.heap[k]?) : InAt w' v xs :=
  ⟨h.val, fun j hj => by
    obtain ⟨g, off, c, h1, h2⟩ := h.at_ j hj
    exact ⟨g, off, c, h1, (World.cell?_of_block (hb g (World.block_lt_of_cell? w _ h2))).trans h2⟩⟩
theorem InAt.ofOwn {w : World} {base : Nat} {v : Value} {xs : List Int} (h : w.ownsRow base 3 1 v xs.length (xs.map fun x => .int .i64 x)) : InAt w v xs :=
  ⟨body_val h, fun j hj => by
    rcases h.2 with ⟨_, c⟩ | ⟨g, c, cur, hv, _⟩
    · omega
    · refine ⟨g, 0, c, hv, ?_⟩
      subst hv
      rw [Nat.zero_add, h.cellAt j (by omega)]
      simp [hj]⟩
theorem InAt.cell {w : World} {a : Option Addr} {n c : Nat} {xs : List Int} (h : InAt w (.slice a n c) xs) {j : Nat} (hj : j < xs.length) : ∃ g off, a = some ⟨g, off, none⟩ ∧ w.cell? ⟨g, off + j, none⟩ = some (.int .i64 (xs.getD j 0)) := by
  obtain ⟨g, off, c', h1, h2⟩ := h.at_ j hj
  exact ⟨g, off, (slice_inj h1).1, h2⟩
theorem InAt.len {w : World} {a : Option Addr} {n c : Nat} {xs : List Int} (h : InAt w (.slice a n c) xs) : n = xs.length := by
  obtain ⟨a', c', e⟩ := h.val
  exact (slice_inj e).2.1
theorem InAt.below {w w' : World} {v : Value} {xs : List Int} (h : InAt w v xs) (hb : Below w.heap.size w w') : InAt w' v xs := h.later hb.block
end Go.Proofs.YtgddmpmcnjlcjabGreatDoor
namespace Go.Proofs.YtgddmpmcnjlcjabGreatDoor
open Go.RowKit
open Go.Lib (itoa decDigits)
set_option linter.unusedVariables false
namespace Nz
theorem val_app (n : Nat) (a : Wd) (x : UInt8) : val n (a ++ [x]) = 10 * val n a + (x.toNat - 48) := by unfold val; rw [List.foldl_append]; rfl
theorem val_ge (t : Wd) : ∀ n, n ≤ val n t := by
  induction t with
  | nil => intro n; exact Nat.le_refl _
  | cons x t ih => intro n; exact Nat.le_trans (by omega : n ≤ 10 * n + (x.toNat - 48)) (ih _)
theorem val_take (t : Wd) (j n : Nat) : val n (t.take j) ≤ val n t := by
  conv => rhs; rw [← List.take_append_drop j t]
  unfold val
  rw [List.foldl_append]
  exact val_ge (t.drop j) _
theorem cut_le (c : UInt8) : ∀ l : Wd, (Lk.cut c l).length ≤ l.length + 1
  | [] => by simp [Lk.cut]
  | y :: ys => by
    have ih := cut_le c ys
    unfold Lk.cut
    split
    · simp; omega
    · split
      · simp
      · rename_i e
        rw [e] at ih
        simp at ih ⊢
        omega
theorem word_cases (z : Int) (t : ByteArray) (h : t.toList = itoa z) (hz : z.natAbs < 100000000) : (∃ u : Nat, z = -(u : Int) ∧ 0 < u ∧ u < 100000000 ∧ 1 < t.size ∧ t.toList = 45 :: decDigits u) ∨ (∃ u : Nat, z = (u : Int) ∧ u < 100000000 ∧ t.toList = decDigits u) := by
  by_cases c : z < 0
  · have e : t.toList = 45 :: decDigits z.natAbs := by rw [h]; unfold itoa; rw [if_pos c]
    refine .inl ⟨z.natAbs, by omega, by omega, hz, ?_, e⟩
    rw [← tl_len, e]
    have := (dec_len hz).1
    simp; omega
  · refine .inr ⟨z.natAbs, by omega, hz, ?_⟩
    rw [h]; unfold itoa; rw [if_neg c, show z.toNat = z.natAbs by omega]
end Nz
set_option maxRecDepth 100000 in
set_option maxHeartbeats 2000000 in
theorem numbers_any (s : ByteArray) (zs : List Int) (w : World) (hs : s.size ≤ 1000000000) (hc : Lk.cut 32 s.toList = zs.map itoa) (hz : ∀ z ∈ zs, z.natAbs < 100000000) :
    Calls Tryz.prog 24 #[.string s] w fun e w' => ∃ a c, e = .returned (.tuple #[.slice a zs.length c, .bool true]) ∧ w'.ownsRow w.heap.size 3 1 (.slice a zs.length c) zs.length (zs.map fun z => .int .i64 z) ∧ Below w.heap.size w w' := by
  obtain ⟨t0, ht0, hz0, hz1, hz2⟩ := info_parts Tryz.infoInt
  have HZ := hid hz
  have HCT := hid hc
  clear hz hc
  go_enter Tryz.func24, Tryz.ntmps24
  go_wp2_with (first | (go_at_call 23; refine (cut_big s 32 _ hs).mono ?_; rintro e w1 ⟨g, cap, ws, rfl, hws, hown, hb1⟩; have HB1 := hid hb1; have z1 := hb1.size; have HOW := hid hown; have HWS := hid (hws.trans HCT.out); clear hb1 hown hws))
  have hwl : ws.length = zs.length := by have := congrArg List.length HWS.out; simpa using this
  have hzl : zs.length ≤ 1000000001 := by
    have h1 := congrArg List.length HCT.out
    have h2 := Nz.cut_le 32 s.toList
    rw [tl_len] at h2
    simp at h1
    omega
  rw [hwl]
  go_loopg [4, 6, 7, 8, 9, 10] zs.length (fun gk ov iv tv bv nv jv wr => ∃ (i : Nat), i ≤ zs.length ∧ zs.length ≤ i + gk ∧ iv = .int .i64 i ∧ wr.ownsRow w1.heap.size 3 1 ov i ((zs.take i).map fun z => .int .i64 z) ∧ Below w1.heap.size w1 wr)
  case atStart => exact ⟨0, Nat.zero_le _, by omega, rfl, World.ownsRow_nil _ _ _ _, Below.refl _ _⟩
  case round =>
    obtain ⟨i, hi, hgk, rfl, hown, hbel⟩ := hrel
    have HO := hid hown
    have HBL := hid hbel
    have zb := hbel.size
    by_cases hlt : i < zs.length
    · obtain ⟨t, hte⟩ : ∃ t, ws.getD i ByteArray.empty = t := ⟨_, rfl⟩
      have htl : t.toList = itoa (zs.getD i 0) := by
        have h1 := congrArg (fun l => l[i]?) HWS.out
        simp only [List.getElem?_map] at h1
        rw [List.getElem?_eq_getElem (show i < ws.length by omega), List.getElem?_eq_getElem hlt] at h1
        rw [← hte, List.getD_eq_getElem?_getD, List.getD_eq_getElem?_getD, List.getElem?_eq_getElem (show i < ws.length by omega), List.getElem?_eq_getElem hlt]
        exact Option.some.inj h1
      have hcell : w1.cell? ⟨g, i, none⟩ = some (.string t) := by
        rw [HOW.out.cellAt i (by omega), List.getElem?_map, List.getElem?_eq_getElem (show i < ws.length by omega), ← hte, List.getD_eq_getElem?_getD, List.getElem?_eq_getElem (show i < ws.length by omega)]; rfl
      have hc1 := cell_later hbel hcell
      have hzm : (zs.getD i 0).natAbs < 100000000 := HZ.out _ (by rw [List.getD_eq_getElem?_getD, List.getElem?_eq_getElem hlt]; exact List.getElem_mem hlt)
      have htk : (zs.take (i + 1)).map (fun z => Value.int .i64 z) = (zs.take i).map (fun z => Value.int .i64 z) ++ [.int .i64 (zs.getD i 0)] := by
        rw [List.take_succ_eq_append_getElem hlt, List.map_append, List.getD_eq_getElem?_getD, List.getElem?_eq_getElem hlt]; rfl
      obtain ⟨z, hze⟩ : ∃ z, zs.getD i 0 = z := ⟨_, rfl⟩
      have HM := hid (show zs.getD i 0 ∈ zs by rw [List.getD_eq_getElem?_getD, List.getElem?_eq_getElem hlt]; exact List.getElem_mem hlt)
      rw [hze] at htl hzm htk HM
      have HTK := hid htk
      clear hcell hze hte hbel hown htk
      rcases Nz.word_cases z t htl hzm with ⟨u, rfl, hu0, hu8, ht1, htd⟩ | ⟨u, rfl, hu8, htd⟩
      · have hx0 : t[0] = 45 := by
          have := tl_get t 0 (by omega)
          rw [htd] at this
          simpa using this.symm
        have hx0I : ((t[0].toNat : Int) == 45) = true := by rw [hx0]; rfl
        have HTB := hid (show (t.extract 1 t.size).toList = decDigits u by
          rw [extract_toList, htd]
          have := tl_len t
          rw [htd] at this
          simp at this ⊢
          rw [List.take_of_length_le (by omega)])
        clear htl htd hx0 hzm
        go_wp2_with fail
        generalize t.extract 1 t.size = tb at HTB
        obtain ⟨G, hG⟩ : ∃ G : Nat, G = gk := ⟨_, rfl⟩
        have hbl := tl_len tb
        rw [show tb.toList = _ from HTB.out] at hbl
        have hdl := Nz.dec_len hu8
        have hb8 : tb.size ≤ 8 := by omega
        have hb1 : 1 ≤ tb.size := by omega
        have HDIG := hid (show ∀ j (hj : j < tb.size), 48 ≤ tb[j].toNat ∧ tb[j].toNat ≤ 57 from fun j hj => Nz.dec_dig u _ (by
          have := tl_get tb j hj
          rw [show tb.toList = _ from HTB.out] at this
          exact List.mem_of_getElem? this))
        go_loopg [9, 10] tb.size (fun gj nv jv wq => ∃ j : Nat, j ≤ tb.size ∧ tb.size ≤ j + gj ∧ jv = .int .i64 j ∧ nv = .int .i64 (Nz.val 0 (tb.toList.take j) : Nat) ∧ wq = wr)
        case atStart => exact ⟨0, Nat.zero_le _, by omega, rfl, rfl, rfl⟩
        case round =>
          obtain ⟨j, hj, hgj, rfl, rfl, rfl⟩ := hrel
          by_cases hjt : j < tb.size
          · obtain ⟨d1, d2⟩ := HDIG.out j hjt
            have hv1 := Nz.val_take tb.toList j 0
            rw [show Nz.val 0 tb.toList = u by rw [show tb.toList = _ from HTB.out]; exact Nz.dec_val _] at hv1
            have HNX := hid (show Nz.val 0 (tb.toList.take (j + 1)) = 10 * Nz.val 0 (tb.toList.take j) + (tb[j].toNat - 48) by
              have hj2 : j < tb.toList.length := by rw [tl_len]; exact hjt
              have := tl_get tb j hjt
              rw [List.getElem?_eq_getElem hj2] at this
              rw [List.take_succ_eq_append_getElem hj2, Option.some.inj this, Nz.val_app])
            have d1I : ¬ (tb[j].toNat : Int) < 48 := by omega
            have d2I : ¬ (57 : Int) < (tb[j].toNat : Int) := by omega
            generalize Nz.val 0 (tb.toList.take j) = m at hv1 HNX
            have hmI : (m : Int) < 100000000 := by omega
            go_wp2_with fail
            go_roundg (gk - 1)
            case measure => omega
            case rel => exact ⟨j + 1, by omega, by omega, by go_num, by rw [HNX.out]; congr 1; omega, rfl⟩
          · have hje : j = tb.size := by omega
            subst hje
            rw [show Nz.val 0 (tb.toList.take tb.size) = u by rw [List.take_of_length_le (by rw [tl_len]; exact Nat.le_refl _), show tb.toList = _ from HTB.out]; exact Nz.dec_val _]
            have hne : tb.toList.isEmpty = false := by
              cases hq : tb.toList with
              | nil =>
                have := congrArg List.length hq
                rw [tl_len] at this
                exact absurd (show tb.size = 0 from this) (by omega)
              | cons x xs => rfl
            have h8I : ¬ (8 : Int) < (tb.size : Int) := by omega
            have hx48 : ((tb[0].toNat : Int) == 48) = false := by
              obtain ⟨x, xs, e, hx⟩ := Nz.dec_head hu0
              have := tl_get tb 0 (by omega)
              rw [show tb.toList = _ from HTB.out, e] at this
              have e2 : x = tb[0] := by simpa using this
              rw [← e2]
              exact beq_eq_false_iff_ne.2 fun h => hx (UInt8.toNat_inj.1 (by rw [show (48 : UInt8).toNat = 48 from rfl]; omega))
            clear HDIG hbl hdl hj hgj hjt hu8
            go_upto_region 19 with fail
            have huI : (u : Int) < 100000000 := by have := HZ.out _ HM.out; omega
            go_wp2_with (first | (at_builtin; refine wpList_append_lies _ rfl _ _ 24 rfl w1.heap.size 3 t0 _ 1 8 Tryz.underlying24 ht0 hz0 hz1 hz2 rfl (by omega) _ i ((zs.take i).map fun z => .int .i64 z) rfl (HO.out.alloc _) ⟨wr.heap.size, 0, none⟩ 1 1 [.int .i64 (-(u : Int))] rfl rfl (cell_one_new _ _ _) (by simp [Value.oneCell']) (by omega) (by unfold maxLen; omega) (by omega) (by simp; omega) (wr.heap.size + 1) (by simp) ?_; intro g2 cap2 w2 hown1 hgrow hat hlt1))
            go_roundg (G - 1)
            case measure => omega
            case rel =>
              refine ⟨i + 1, by omega, by omega, by go_num, ?_, ?_⟩
              · rw [HTK.out]; simpa using hown1
              · exact Below.grown (HBL.out.alloc zb _) hgrow (by simp; omega) (fun q hq => (HO.out.lt q hq).1)
      · have hx0I : ∀ (h0 : 0 < t.size), ((t[0].toNat : Int) == 45) = false := fun h0 => by
          have := tl_get t 0 h0
          rw [htd] at this
          have h2 := Nz.dec_dig u t[0] (List.mem_of_getElem? this)
          exact beq_eq_false_iff_ne.2 fun e => by have := h2.1; omega
        have HTB := hid htd
        have hts : 0 < t.size := by
          have := tl_len t
          rw [htd] at this
          have := (Nz.dec_len hu8).1
          omega
        have hx1 := hx0I hts
        have HU8 := hid hu8
        clear htl htd hzm hx0I hu8
        go_upto_region 7 with fail
        go_cut [8] (fun bv wc => bv = .bool false ∧ wc = wr)
        case first =>
          by_cases h1 : (1 : Int) < (t.size : Int)
          · go_wp2_with fail
            go_meet
            exact ⟨rfl, rfl⟩
          · go_wp2_with fail
            go_meet
            exact ⟨rfl, rfl⟩
        case rest =>
        obtain ⟨rfl, rfl⟩ := hcut
        go_wp2_with fail
        have hu8 := HU8.out
        obtain ⟨G, hG⟩ : ∃ G : Nat, G = gk := ⟨_, rfl⟩
        have hbl := tl_len t
        rw [show t.toList = _ from HTB.out] at hbl
        have hdl := Nz.dec_len hu8
        have hb8 : t.size ≤ 8 := by omega
        have hb1 : 1 ≤ t.size := by omega
        have HDIG := hid (show ∀ j (hj : j < t.size), 48 ≤ t[j].toNat ∧ t[j].toNat ≤ 57 from fun j hj => Nz.dec_dig u _ (by
          have := tl_get t j hj
          rw [show t.toList = _ from HTB.out] at this
          exact List.mem_of_getElem? this))
        go_loopg [9, 10] t.size (fun gj nv jv wq => ∃ j : Nat, j ≤ t.size ∧ t.size ≤ j + gj ∧ jv = .int .i64 j ∧ nv = .int .i64 (Nz.val 0 (t.toList.take j) : Nat) ∧ wq = wc)
        case atStart => exact ⟨0, Nat.zero_le _, by omega, rfl, rfl, rfl⟩
        case round =>
          obtain ⟨j, hj, hgj, rfl, rfl, rfl⟩ := hrel
          by_cases hjt : j < t.size
          · obtain ⟨d1, d2⟩ := HDIG.out j hjt
            have hv1 := Nz.val_take t.toList j 0
            rw [show Nz.val 0 t.toList = u by rw [show t.toList = _ from HTB.out]; exact Nz.dec_val _] at hv1
            have HNX := hid (show Nz.val 0 (t.toList.take (j + 1)) = 10 * Nz.val 0 (t.toList.take j) + (t[j].toNat - 48) by
              have hj2 : j < t.toList.length := by rw [tl_len]; exact hjt
              have := tl_get t j hjt
              rw [List.getElem?_eq_getElem hj2] at this
              rw [List.take_succ_eq_append_getElem hj2, Option.some.inj this, Nz.val_app])
            have d1I : ¬ (t[j].toNat : Int) < 48 := by omega
            have d2I : ¬ (57 : Int) < (t[j].toNat : Int) := by omega
            generalize Nz.val 0 (t.toList.take j) = m at hv1 HNX
            have hmI : (m : Int) < 100000000 := by omega
            go_wp2_with fail
            go_roundg (gk - 1)
            case measure => omega
            case rel => exact ⟨j + 1, by omega, by omega, by go_num, by rw [HNX.out]; congr 1; omega, rfl⟩
          · have hje : j = t.size := by omega
            subst hje
            rw [show Nz.val 0 (t.toList.take t.size) = u by rw [List.take_of_length_le (by rw [tl_len]; exact Nat.le_refl _), show t.toList = _ from HTB.out]; exact Nz.dec_val _]
            have hne : t.toList.isEmpty = false := by
              cases hq : t.toList with
              | nil =>
                have := congrArg List.length hq
                rw [tl_len] at this
                exact absurd (show t.size = 0 from this) (by omega)
              | cons x xs => rfl
            have h8I : ¬ (8 : Int) < (t.size : Int) := by omega
            by_cases hz : u = 0
            · subst hz
              have hx48 : ((t[0].toNat : Int) == 48) = true := by
                have := tl_get t 0 (by omega)
                rw [show t.toList = _ from HTB.out, Nz.dec_zero] at this
                have e2 : (48 : UInt8) = t[0] := by simpa using this
                rw [← e2]; rfl
              have h48 : (t.toList == [48]) = true := by rw [show t.toList = _ from HTB.out, Nz.dec_zero]; rfl
              clear HDIG hbl hdl hj hgj hjt HU8 hu8
              go_upto_region 19 with fail
              go_wp2_with (first | (at_builtin; refine wpList_append_lies _ rfl _ _ 24 rfl w1.heap.size 3 t0 _ 1 8 Tryz.underlying24 ht0 hz0 hz1 hz2 rfl (by omega) _ i ((zs.take i).map fun z => .int .i64 z) rfl (HO.out.alloc _) ⟨wr.heap.size, 0, none⟩ 1 1 [.int .i64 0] rfl rfl (cell_one_new _ _ _) (by simp [Value.oneCell']) (by omega) (by unfold maxLen; omega) (by omega) (by simp; omega) (wr.heap.size + 1) (by simp) ?_; intro g2 cap2 w2 hown1 hgrow hat hlt1))
              go_roundg (G - 1)
              case measure => omega
              case rel =>
                refine ⟨i + 1, by omega, by omega, by go_num, ?_, ?_⟩
                · rw [HTK.out]; simpa using hown1
                · exact Below.grown (HBL.out.alloc zb _) hgrow (by simp; omega) (fun q hq => (HO.out.lt q hq).1)
            · have hu0 : 0 < u := by omega
              have hx48 : ((t[0].toNat : Int) == 48) = false := by
                obtain ⟨x, xs, e, hx⟩ := Nz.dec_head hu0
                have := tl_get t 0 (by omega)
                rw [show t.toList = _ from HTB.out, e] at this
                have e2 : x = t[0] := by simpa using this
                rw [← e2]
                exact beq_eq_false_iff_ne.2 fun h => hx (UInt8.toNat_inj.1 (by rw [show (48 : UInt8).toNat = 48 from rfl]; omega))
              clear HDIG hbl hdl hj hgj hjt HU8 hu8
              go_upto_region 19 with fail
              go_wp2_with (first | (at_builtin; refine wpList_append_lies _ rfl _ _ 24 rfl w1.heap.size 3 t0 _ 1 8 Tryz.underlying24 ht0 hz0 hz1 hz2 rfl (by omega) _ i ((zs.take i).map fun z => .int .i64 z) rfl (HO.out.alloc _) ⟨wr.heap.size, 0, none⟩ 1 1 [.int .i64 (u : Int)] rfl rfl (cell_one_new _ _ _) (by simp [Value.oneCell']) (by omega) (by unfold maxLen; omega) (by omega) (by simp; omega) (wr.heap.size + 1) (by simp) ?_; intro g2 cap2 w2 hown1 hgrow hat hlt1))
              go_roundg (G - 1)
              case measure => omega
              case rel =>
                refine ⟨i + 1, by omega, by omega, by go_num, ?_, ?_⟩
                · rw [HTK.out]; simpa using hown1
                · exact Below.grown (HBL.out.alloc zb _) hgrow (by simp; omega) (fun q hq => (HO.out.lt q hq).1)
    · have hie : i = zs.length := by omega
      subst hie
      obtain ⟨ao, co, rfl⟩ := body_val hown
      rw [List.take_length] at HO
      clear hown hbel
      go_wp2_with fail
      refine bodyPost_ret (v := .tuple #[.slice ao zs.length co, .bool true]) (by simp [results, Tryz.results24, go_sem]) rfl ⟨ao, co, rfl, ownsRow_base HO.out z1, HB1.out.trans (HBL.out.mono z1)⟩
end Go.Proofs.YtgddmpmcnjlcjabGreatDoor
namespace Go.Proofs.YtgddmpmcnjlcjabGreatDoor
open Go.RowKit
open Go.Lib (itoa decDigits)
set_option linter.unusedVariables false
structure ClsAt (w : World) (v : Value) (cs : List (List Int)) : Prop where
  val : ∃ a c, v = .slice a cs.length c ∧ cs.length ≤ c
  at_ : ∀ j, j < cs.length → ∃ g off c u, v = .slice (some ⟨g, off, none⟩) cs.length c ∧ w.cell? ⟨g, off + j, none⟩ = some u ∧ InAt w u (cs.getD j [])
theorem ClsAt.later {w w' : World} {v : Value} {cs : List (List Int)} (h : ClsAt w v cs) (hb : Below w.heap.size w w') : ClsAt w' v cs :=
  ⟨h.val, fun j hj => by
    obtain ⟨g, off, c, u, h1, h2, h3⟩ := h.at_ j hj
    exact ⟨g, off, c, u, h1, cell_later hb h2, h3.below hb⟩⟩
theorem InAt.blk {w w' : World} {v : Value} {xs : List Int} (h : InAt w v xs) (hb : ∀ q, v.ownBlock = some q → w'.heap[q]? = w.heap[q]?) : InAt w' v xs :=
  ⟨h.val, fun j hj => by
    obtain ⟨g, off, c, h1, h2⟩ := h.at_ j hj
    exact ⟨g, off, c, h1, (World.cell?_of_block (hb g (by rw [h1]; rfl))).trans h2⟩⟩
theorem InAt.take' {w : World} {a : Option Addr} {n c : Nat} {xs : List Int} (h : InAt w (.slice a n c) xs) (m : Nat) (hm : m ≤ xs.length) : InAt w (.slice a m c) (xs.take m) := by
  have hl : (xs.take m).length = m := by rw [List.length_take]; omega
  refine ⟨⟨a, c, by rw [hl]⟩, fun j hj => ?_⟩
  rw [hl] at hj
  obtain ⟨g, off, c', hv, hc⟩ := h.at_ j (by omega)
  have h1 := (slice_inj hv).1
  subst h1
  refine ⟨g, off, c, by rw [hl], ?_⟩
  rw [List.getD_eq_getElem?_getD, List.getElem?_take, if_pos hj, ← List.getD_eq_getElem?_getD]
  exact hc
def Rws (w : World) (vs : List Value) (cs : List (List Int)) (own : Option Nat) : Prop := ∀ j, j < vs.length → InAt w (vs.getD j (.bool false)) (cs.getD j []) ∧ ∀ q, (vs.getD j (.bool false)).ownBlock = some q → q < w.heap.size ∧ own ≠ some q
theorem Rws.below {w w' : World} {vs : List Value} {cs : List (List Int)} {own : Option Nat} (h : Rws w vs cs own) (hb : Below w.heap.size w w') : Rws w' vs cs own := fun j hj => by
  obtain ⟨h1, h2⟩ := h j hj
  exact ⟨h1.below hb, fun q hq => ⟨Nat.lt_of_lt_of_le (h2 q hq).1 hb.size, (h2 q hq).2⟩⟩
theorem Rws.snoc {w : World} {vs : List Value} {cs : List (List Int)} {own : Option Nat} (h : Rws w vs cs own) {v : Value} (hv : InAt w v (cs.getD vs.length [])) (hq : ∀ q, v.ownBlock = some q → q < w.heap.size ∧ own ≠ some q) : Rws w (vs ++ [v]) cs own := fun j hj => by
  rw [List.length_append] at hj
  by_cases c : j < vs.length
  · rw [List.getD_eq_getElem?_getD, List.getElem?_append_left c, ← List.getD_eq_getElem?_getD]; exact h j c
  · have : j = vs.length := by simp at hj; omega
    subst this
    rw [show (vs ++ [v]).getD vs.length (.bool false) = v by simp [List.getD_eq_getElem?_getD]]
    exact ⟨hv, hq⟩
theorem Rws.grown {w w' : World} {vs : List Value} {cs : List (List Int)} {own : Option Nat} (h : Rws w vs cs own) (hg : w.grownBy w' own) {g H : Nat} (hat : own = some g ∨ g = H) (hH : w.heap.size = H) : Rws w' vs cs (some g) := fun j hj => by
  obtain ⟨h1, h2⟩ := h j hj
  refine ⟨h1.blk fun q hq => hg.block q (h2 q hq).1 (fun e => (h2 q hq).2 e.symm), fun q hq => ⟨Nat.lt_of_lt_of_le (h2 q hq).1 hg.size, ?_⟩⟩
  obtain ⟨a, b⟩ := h2 q hq
  rcases hat with e | e
  · rw [← e]; exact b
  · intro k; have := Option.some.inj k; omega
theorem Rws.cls {w : World} {base : Nat} {v : Value} {vs : List Value} {cs : List (List Int)} {own : Option Nat} (h : Rws w vs cs own) (hl : vs.length = cs.length) (ho : w.ownsRow base 24 1 v cs.length vs) : ClsAt w v cs := by
  refine ⟨?_, fun j hj => ?_⟩
  · rcases ho.2 with ⟨e, e2⟩ | ⟨g, c, cur, hv, _, _, h4, _⟩
    · rw [e2]; exact ⟨_, _, e, Nat.le_refl _⟩
    · exact ⟨_, _, hv, h4⟩
  rcases ho.2 with ⟨_, e⟩ | ⟨g, c, cur, hv, _⟩
  · omega
  · refine ⟨g, 0, c, vs.getD j (.bool false), hv, ?_, (h j (by omega)).1⟩
    subst hv
    rw [Nat.zero_add, ho.cellAt j (by omega), List.getD_eq_getElem?_getD, List.getElem?_eq_getElem (by omega)]; rfl
namespace Nz
theorem line_le {c : List Int} : ∀ {cs : List (List Int)}, c ∈ cs → (lineZ c).length ≤ (rend cs).length
  | d :: cs, h => by
    rw [rend_cons, List.length_append, List.length_cons]
    rcases List.mem_cons.1 h with e | e
    · rw [e]; omega
    · have := line_le e; omega
end Nz
set_option maxRecDepth 100000 in
set_option maxHeartbeats 2000000 in
theorem clauses_any (s : ByteArray) (cs : List (List Int)) (vars : Nat) (w : World) (hs : s.size ≤ 1000000000) (hc : s.toList = Nz.rend cs) (hz : ∀ c ∈ cs, ∀ l ∈ c, l ≠ 0 ∧ l.natAbs ≤ vars) (hv : vars < 100000000) :
    Calls Tryz.prog 8 #[.string s, .int .i64 vars] w fun e w' => ∃ v, e = .returned (.tuple #[v, .bool true]) ∧ ClsAt w' v cs ∧ Below w.heap.size w w' := by
  obtain ⟨t0, ht0, hz0, hz1, hz2⟩ := info_parts Tryz.infoInts
  have HNV := hid hv
  have HCT := hid (show Lk.cut 10 s.toList = cs.map Nz.lineZ ++ [[]] by rw [hc]; exact Nz.cut_rend cs)
  have HLN := hid (show ∀ i, i < cs.length → (Nz.lineZ (cs.getD i [])).length ≤ s.size from fun i hi => by
    rw [← tl_len, hc]
    exact Nz.line_le (by rw [List.getD_eq_getElem?_getD, List.getElem?_eq_getElem hi]; exact List.getElem_mem hi))
  have HZ := hid (show ∀ i, i < cs.length → ∀ l ∈ cs.getD i [], l ≠ 0 ∧ l.natAbs ≤ vars from fun i hi => hz _ (by rw [List.getD_eq_getElem?_getD, List.getElem?_eq_getElem hi]; exact List.getElem_mem hi))
  have hcl : cs.length ≤ s.size := by
    have h1 := congrArg List.length HCT.out
    have h2 := Nz.cut_le 10 s.toList
    rw [tl_len] at h2
    simp at h1
    omega
  have HS := hid hs
  have hclb : cs.length ≤ 1000000000 := by omega
  clear hz hc hv hs hcl
  go_enter Tryz.func8, Tryz.ntmps8
  go_upto_region 2 with (first | (go_at_call 23; refine (cut_big s 10 _ HS.out).mono ?_; rintro e w1 ⟨g, cap, ws, rfl, hws, hown, hb1⟩; have HB1 := hid hb1; have z1 := hb1.size; have HOW := hid hown; have HWS := hid (hws.trans HCT.out); clear hb1 hown hws))
  have hwl : ws.length = cs.length + 1 := by have := congrArg List.length HWS.out; simpa using this
  have hcell : ∀ i, i < cs.length + 1 → w1.cell? ⟨g, i, none⟩ = some (.string (ws.getD i ByteArray.empty)) := fun i hi => by
    rw [HOW.out.cellAt i (by omega), List.getElem?_map, List.getD_eq_getElem?_getD, List.getElem?_eq_getElem (show i < ws.length by omega)]; rfl
  have htl : ∀ i, i < cs.length + 1 → (ws.getD i ByteArray.empty).toList = (cs.map Nz.lineZ ++ [[]]).getD i [] := fun i hi => by
    have h1 := congrArg (fun l => l[i]?) HWS.out
    simp only [List.getElem?_map] at h1
    rw [List.getElem?_eq_getElem (show i < ws.length by omega)] at h1
    rw [List.getD_eq_getElem?_getD, List.getD_eq_getElem?_getD, List.getElem?_eq_getElem (show i < ws.length by omega), ← h1]; rfl
  have HCE := hid hcell
  have HTL := hid htl
  clear hcell htl
  rw [hwl]
  have c0 := HCE.out cs.length (by omega)
  have he : (ws.getD cs.length ByteArray.empty).toList.isEmpty = true := by
    rw [HTL.out _ (by omega)]
    simp [List.getD_eq_getElem?_getD]
  obtain ⟨t, hte⟩ : ∃ t, ws.getD cs.length ByteArray.empty = t := ⟨_, rfl⟩
  rw [hte] at c0 he
  clear hte
  go_wp2_with fail
  clear he c0
  go_loopg [7, 8, 9, 10, 11, 12] cs.length (fun gk ov iv nv bv jv av wr => ∃ (i : Nat) (vs : List Value), i ≤ cs.length ∧ cs.length ≤ i + gk ∧ iv = .int .i64 i ∧ vs.length = i ∧ wr.ownsRow w1.heap.size 24 1 ov i vs ∧ Rws wr vs cs ov.ownBlock ∧ Below w1.heap.size w1 wr)
  case atStart => exact ⟨0, [], Nat.zero_le _, by omega, rfl, rfl, World.ownsRow_nil _ _ _ _, fun j hj => absurd hj (by simp), Below.refl _ _⟩
  case round =>
    obtain ⟨i, vs, hi, hgk, rfl, hvl, hown, hrws, hbel⟩ := hrel
    have HO := hid hown
    have HR := hid hrws
    have HBL := hid hbel
    have zb := hbel.size
    by_cases hlt : i < cs.length
    · have hc1 := cell_later hbel (HCE.out i (by omega))
      have htl := (HTL.out i (by omega)).trans (show (cs.map Nz.lineZ ++ [[]]).getD i ([] : List UInt8) = Nz.lineZ (cs.getD i []) by
        rw [List.getD_eq_getElem?_getD, List.getElem?_append_left (by simpa using hlt), List.getElem?_map, List.getElem?_eq_getElem hlt, List.getD_eq_getElem?_getD, List.getElem?_eq_getElem hlt]; rfl)
      obtain ⟨q, hqe⟩ : ∃ q, ws.getD i ByteArray.empty = q := ⟨_, rfl⟩
      rw [hqe] at hc1 htl
      have hlz := HZ.out i hlt
      have hll := HLN.out i hlt
      have HCI := hid (show cs.getD i [] = cs.getD vs.length [] by rw [hvl])
      obtain ⟨c, hce⟩ : ∃ c, cs.getD i [] = c := ⟨_, rfl⟩
      rw [hce] at htl hlz hll HCI
      have hqs : q.size = (Nz.lineZ c).length := by rw [← htl, tl_len]
      have HN := hid (fun W => numbers_any q (c ++ [0]) W (by have := HS.out; omega) (by rw [htl]; exact Nz.cut_line c) (fun z hz => by
        have := HNV.out
        rcases List.mem_append.1 hz with h | h
        · have := (hlz z h).2; omega
        · rw [List.mem_singleton.1 h]; decide))
      have hcll : c.length ≤ 1000000000 := by
        have h1 : c.length ≤ (Nz.wrds c).length := by
          clear hlz htl hll hqs HN hce HCI
          induction c with
          | nil => exact Nat.zero_le _
          | cons z c ih => rw [Nz.wrds_cons]; simp; omega
        have h2 : (Nz.lineZ c).length = (Nz.wrds c).length + 1 := by unfold Nz.lineZ; simp
        have := HS.out
        omega
      have HLZ := hid hlz
      clear hqe hce htl hll hqs hlz hown hrws hbel
      go_upto_region 9 with (first | (go_at_call 24; refine (HN.out _).mono ?_; rintro e w2 ⟨an, cn, rfl, hon, hb2⟩; have HON := hid hon; have HB2 := hid hb2; have z2 := hb2.size; clear hb2 hon))
      have hlen1 : (c ++ [0]).length = c.length + 1 := by simp
      rw [hlen1] at HON
      obtain ⟨ga, dn, hva, hga1, hga2⟩ := HON.out.form (by omega)
      have hva1 := (slice_inj hva).1
      have hva3 := (slice_inj hva).2.2
      subst hva1 hva3
      have hclast : w2.cell? ⟨ga, c.length, none⟩ = some (.int .i64 0) := by
        rw [HON.out.cellAt c.length (by omega)]
        simp
      have HIA := hid (show InAt w2 (.slice (some ⟨ga, 0, none⟩) c.length cn) c by
        have h1 : InAt w2 (.slice (some ⟨ga, 0, none⟩) (c ++ [0]).length cn) (c ++ [0]) := InAt.ofOwn (by rw [hlen1]; exact HON.out)
        have h2 := h1.take' c.length (by omega)
        rw [List.take_left] at h2
        exact h2)
      have hcap : c.length + 1 ≤ cn := by
        rcases HON.out.2 with ⟨h, _⟩ | ⟨g', cap', cur, h, _, _, h3, _⟩
        · cases h
        · have := (slice_inj h).2.2; omega
      have hcllI : (c.length : Int) ≤ 1000000000 := by omega
      go_wp2_with fail
      obtain ⟨G, hG⟩ : ∃ G : Nat, G = gk := ⟨_, rfl⟩
      have HV := hid (show ∀ j, j < c.length → ∃ l, w2.cell? ⟨ga, j, none⟩ = some (.int .i64 l) ∧ (l == 0) = false ∧ ¬ ((vars : Int) < l) ∧ ¬ (l < -(vars : Int)) from fun j hj => by
        obtain ⟨g', off, ha, hc⟩ := HIA.out.cell hj
        have e := Option.some.inj ha
        have e1 : g' = ga := by injection e with e1 _ _; exact e1.symm
        have e2 : off = 0 := by injection e with _ e2 _; exact e2.symm
        subst e1 e2
        rw [Nat.zero_add] at hc
        have hm := HLZ.out (c.getD j 0) (by rw [List.getD_eq_getElem?_getD, List.getElem?_eq_getElem hj]; exact List.getElem_mem hj)
        exact ⟨_, hc, by simpa using hm.1, by omega, by omega⟩)
      clear hclast
      go_loopg [11] c.length (fun gj jv wq => ∃ j : Nat, j ≤ c.length ∧ c.length ≤ j + gj ∧ jv = .int .i64 j ∧ wq = w2)
      case atStart => exact ⟨0, Nat.zero_le _, by omega, rfl, rfl⟩
      case round =>
        obtain ⟨j, hj, hgj, rfl, rfl⟩ := hrel
        by_cases hjt : j < c.length
        · obtain ⟨l, x1, x2, x3, x4⟩ := HV.out j hjt
          have hvI : (vars : Int) ≤ 100000000 := by have := HNV.out; omega
          go_wp2_with fail
          go_roundg (gk - 1)
          case measure => omega
          case rel => exact ⟨j + 1, by omega, by omega, by go_num, rfl⟩
        · have HO2 := hid (ownsRow_blk HO.out (fun k e => HB2.out.block k (HO.out.lt k e).2))
          clear HV hj hgj
          go_wp2_with (first | (at_builtin; refine wpList_append_lies _ rfl _ _ 32 rfl w1.heap.size 24 t0 _ 1 24 Tryz.underlying32 ht0 hz0 hz1 hz2 rfl (by omega) _ i vs rfl (HO2.out.alloc _) ⟨wr.heap.size, 0, none⟩ 1 1 [.slice (some ⟨ga, 0, none⟩) c.length cn] rfl rfl (cell_one_new _ _ _) (by simp [Value.oneCell']) (by omega) (by unfold maxLen; omega) (by omega) (by simp; omega) (wr.heap.size + 1) (by simp) ?_; intro g2 cap2 w3 hown1 hgrow hat hlt1))
          go_roundg (G - 1)
          case measure => omega
          case rel =>
            have hz3 : wr.heap.size < (wr.alloc (.cells #[.slice (some ⟨ga, 0, none⟩) c.length cn] 24)).heap.size := by simp
            have R2 := (HR.out.below HB2.out).snoc (v := .slice (some ⟨ga, 0, none⟩) c.length cn) (by rw [← HCI.out]; exact HIA.out) (fun q hq => by
              have hq : ga = q := by injection hq
              subst hq
              refine ⟨(HON.out.lt ga rfl).2, fun e => ?_⟩
              have h1 := (HO.out.lt ga e).2
              have h2 := (HON.out.lt ga rfl).1
              omega)
            have R3 := (R2.below ((Below.refl _ _).alloc (Nat.le_refl _) (.cells #[.slice (some ⟨ga, 0, none⟩) c.length cn] 24))).grown hgrow hat (by simp)
            refine ⟨i + 1, vs ++ [.slice (some ⟨ga, 0, none⟩) c.length cn], by omega, by omega, by go_num, by simp [hvl], hown1, R3, ?_⟩
            exact Below.grown ((HBL.out.trans (HB2.out.mono zb)).alloc (by omega) _) hgrow (by simp; omega) (fun q hq => (HO.out.lt q hq).1)
    · have hie : i = cs.length := by omega
      subst hie
      obtain ⟨ao, co, rfl⟩ := body_val hown
      have HCS := hid (hrws.cls hvl hown)
      clear hown hrws hbel
      go_wp2_with fail
      refine bodyPost_ret (v := .tuple #[.slice ao cs.length co, .bool true]) (by simp [results, Tryz.results8, go_sem]) rfl ⟨_, rfl, HCS.out, HB1.out.trans (HBL.out.mono z1)⟩
end Go.Proofs.YtgddmpmcnjlcjabGreatDoor
