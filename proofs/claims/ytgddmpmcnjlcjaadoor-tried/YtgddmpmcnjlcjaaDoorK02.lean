import Derived.Test.YtgddmpmcnjlcjaaDoorB36
import Derived.Test.YtgddmpmcnjlcjaaDoorK01
import Derived.Laws.CopyOwn
import Derived.OwnWalk
import Derived.Deep.QuietTactic
import Derived.BigQuiet
/- The keeps' lists. -/
namespace Go.Proofs.YtgddmpmcnjlcjaaDoor
open Go.RowKit
set_option linter.unusedVariables false

/-- Numbers lie from a slice's head on. -/
def NatsAt (w : World) (a : Option Addr) (n : Nat) (f : Nat → Nat) : Prop := 0 < n → ∃ g, a = some ⟨g, 0, none⟩ ∧ g < w.heap.size ∧ ∀ i, i < n → w.cell? ⟨g, i, none⟩ = some (.int .i64 (f i))
theorem NatsAt.same {w w' : World} {a : Option Addr} {n : Nat} {f : Nat → Nat} (h : NatsAt w a n f) (hb : Below w.heap.size w w') : NatsAt w' a n f := by
  intro hn
  obtain ⟨g, e, hg, hc⟩ := h hn
  exact ⟨g, e, Nat.lt_of_lt_of_le hg hb.size, fun i hi => cell_later hb (hc i hi)⟩
theorem NatsAt.of {w : World} {base e : Nat} {a : Option Addr} {c : Nat} {l : List Nat} {n : Nat} (hn : l.length = n) (h : w.ownsRow base e 1 (.slice a n c) n (l.map fun (n : Nat) => .int .i64 n)) : NatsAt w a n (fun i => l.getD i 0) := by
  subst hn
  intro hn
  obtain ⟨g, cap, hv, h1, h2⟩ := h.form hn
  cases hv
  exact ⟨g, rfl, h2, fun i hi => nats_at h i hi⟩
theorem NatsAt.less {w : World} {a : Option Addr} {n m : Nat} {f : Nat → Nat} (h : NatsAt w a n f) (hm : m ≤ n) : NatsAt w a m f := by
  intro h0
  obtain ⟨g, e, hg, hc⟩ := h (by omega)
  exact ⟨g, e, hg, fun i hi => hc i (by omega)⟩

set_option maxRecDepth 100000 in
set_option maxHeartbeats 1000000 in
theorem same_yes (n : Nat) (hn : n ≤ 10) (f : Nat → Nat) (w : World) (a b : Option Addr) (ca cb : Nat) (ha : NatsAt w a n f) (hb : NatsAt w b n f) :
    Calls Tryd.prog 37 #[.slice a n ca, .slice b n cb] w fun e w' => e = .returned (.bool true) ∧ ∃ m, w' = w.drewN m := by
  have HA := hid ha
  have HB := hid hb
  clear ha hb
  go_enter Tryd.func37, Tryd.ntmps37
  go_wp2_with fail
  go_loopw [5] (fun cv wr => ∃ i : Nat, i ≤ n ∧ cv = .int .i64 i ∧ ∃ m, wr = w.drewN m) (fun cv _ => n - (intOf cv).toNat)
  case atStart => exact ⟨0, Nat.zero_le _, rfl, 0, rfl⟩
  case round =>
    obtain ⟨i, hi, rfl, m, rfl⟩ := hrel
    by_cases hlt : i < n
    · obtain ⟨g, rfl, hg, hcg⟩ := HA.out (by omega)
      obtain ⟨h, rfl, hh, hch⟩ := HB.out (by omega)
      have x0 := hcg i hlt
      have x1 := hch i hlt
      generalize f i = x at x0 x1
      clear hcg hch
      go_wp2_with fail
      go_quiet (fail)
      go_wp2_with fail
      go_roundw
      case rel => exact ⟨i + 1, by omega, by go_num, _, rfl⟩
      case measure => simp [intOf]; omega
    · go_wp2_with fail
      go_ret
      exact ⟨rfl, _, rfl⟩

namespace Pr
def kdeal (which : Bool) (a : List Nat × Nat) (b : Bool × Nat) : List Nat × Nat := if b.1 = which then (a.1 ++ [a.2 % 16], a.2 / 16) else (a.1 ++ [b.2], a.2)
/-- The x-th way to choose the secret inputs (or the public ones); the others as they are. -/
def kin (l : List Bool) (which : Bool) (x : Nat) (base : List Nat) : List Nat := ((l.zip base).foldl (kdeal which) ([], x)).1
end Pr

theorem own_full {w : World} {base e g n : Nat} {xs : List Value} (h : w.ownsRow base e 1 (.slice (some ⟨g, 0, none⟩) n n) n xs) : w.heap[g]? = some (.cells xs.toArray e (0, 0)) := by
  rcases h.2 with ⟨h1, _⟩ | ⟨g', cap, cur, hv, _, hg, _, _, hs, ht⟩
  · cases h1
  · cases hv
    rw [List.take_of_length_le (by rw [Array.length_toList]; omega)] at ht
    rw [hg, ← ht]
theorem splice_all (L cs : List Value) (h : L.length = cs.length) : splice L 0 cs = cs := by
  unfold splice
  rw [List.take_zero, List.nil_append, Nat.zero_add, List.drop_of_length_le (by omega), List.append_nil]
theorem row_of_cells {w : World} {g e n : Nat} {l : List Nat} (hn : l.length = n) (h : w.heap[g]? = some (.cells ((l.map fun (n : Nat) => Value.int .i64 n)).toArray e (0, 0))) : w.rowIs g e n (fun j => .int .i64 (l.getD j 0)) := by
  subst hn
  refine ⟨_, h, by simp, fun i hi => ?_⟩
  simp [hi]
theorem own_of_row {w : World} {g e n base : Nat} {l : List Nat} (hn : l.length = n) (hb : base ≤ g) (hm : n ≤ 1000) (h : w.rowIs g e n (fun j => .int .i64 (l.getD j 0))) : w.ownsRow base e 1 (.slice (some ⟨g, 0, none⟩) n n) n (l.map fun (n : Nat) => .int .i64 n) := by
  subst hn
  obtain ⟨cs, hg, hs, hc⟩ := h
  refine ⟨by simp, .inr ⟨g, _, cs, rfl, hb, hg, Nat.le_refl _, by unfold maxLen; omega, by omega, ?_⟩⟩
  apply List.ext_getElem?
  intro i
  by_cases hi : i < l.length
  · rw [List.getElem?_take_of_lt (by omega), Array.getElem?_toList, hc i hi]
    simp [hi]
  · rw [List.getElem?_eq_none (by simp; omega), List.getElem?_eq_none (by simp; omega)]

/-- The row of inputs as far as it is dealt. -/
def kinF (dn bs : List Nat) (i : Nat) : Nat → Value := fun j => .int .i64 ((if j < i then dn.getD j 0 else bs.getD j 0 : Nat) : Int)
theorem kinF_0 (bs : List Nat) (j : Nat) : (Value.int .i64 (bs.getD j 0)) = kinF [] bs 0 j := by
  unfold kinF
  rw [if_neg (Nat.not_lt_zero j)]
theorem kinF_n (dn bs : List Nat) (j n : Nat) (h : j < n) : kinF dn bs n j = .int .i64 (dn.getD j 0) := by
  unfold kinF
  rw [if_pos h]
theorem kinF_put (dn bs : List Nat) (i y : Nat) (hd : dn.length = i) (j : Nat) : (if j = i then (.int .i64 (y : Int) : Value) else kinF dn bs i j) = kinF (dn ++ [y]) bs (i + 1) j := by
  unfold kinF
  by_cases e : j = i
  · subst e
    rw [if_pos rfl, if_pos (Nat.lt_succ_self _)]
    simp [hd]
  · rw [if_neg e]
    by_cases h : j < i
    · rw [if_pos h, if_pos (by omega)]
      simp only [List.getD_eq_getElem?_getD]
      rw [List.getElem?_append_left (by omega)]
    · rw [if_neg h, if_neg (by omega)]
theorem kinF_keep (dn bs : List Nat) (i : Nat) (hd : dn.length = i) (j : Nat) : kinF dn bs i j = kinF (dn ++ [bs.getD i 0]) bs (i + 1) j := by
  rw [← kinF_put dn bs i _ hd]
  by_cases e : j = i
  · subst e
    rw [if_pos rfl]
    unfold kinF
    rw [if_neg (Nat.lt_irrefl _)]
  · rw [if_neg e]

theorem cpos {w w1 : World} {e n g : Nat} {ab : Option Addr} {cb : Nat} {bs : List Nat} (hl : bs.length = n) (hb : Below w.heap.size w w1) (h : w.ownsRow 0 e 1 (.slice ab n cb) n (bs.map fun (n : Nat) => .int .i64 n)) :
    0 < (bs.map fun (n : Nat) => Value.int .i64 n).length → (some (⟨g, 0, none⟩ : Addr)) = some ⟨g, 0, none⟩ ∧ ∃ ad : Addr, ab = some ad ∧ ∀ j v, (bs.map fun (n : Nat) => Value.int .i64 n)[j]? = some v → w1.cell? (ad.add j) = some v := by
  intro h0
  subst hl
  rw [List.length_map] at h0
  obtain ⟨g', cap, hv, _, hlt⟩ := h.form h0
  cases hv
  refine ⟨rfl, _, rfl, fun j v hj => ?_⟩
  have hjl : j < bs.length := by
    rcases Nat.lt_or_ge j bs.length with hq | hq
    · exact hq
    · rw [List.getElem?_eq_none (by simpa using hq)] at hj; cases hj
  have hc := nats_at h j hjl
  have e : (⟨g', 0, none⟩ : Addr).add j = ⟨g', j, none⟩ := by simp [Addr.add]; omega
  rw [e, cell_later hb hc, ← hj]
  simp [hjl]
theorem made_len (z : Array Value) (n : Nat) : (madeCells z n).toList.length = n := by rw [Array.length_toList, size_madeCells]

set_option maxRecDepth 100000 in
set_option maxHeartbeats 2000000 in
theorem kin_any (l : List Bool) (hl : l.length ≤ 3) (which : Bool) (x : Nat) (hx : x ≤ 4096) (bs : List Nat) (hbs : bs.length = l.length) (w : World) (vi vb : Value)
    (hi : w.ownsRow 0 4 1 vi l.length (l.map Value.bool)) (hb : w.ownsRow 0 3 1 vb l.length (bs.map fun (n : Nat) => .int .i64 n)) :
    Calls Tryd.prog 38 #[vi, .bool which, .int .i64 x, vb] w fun e w' => ∃ v, e = .returned v ∧ w'.ownsRow w.heap.size 3 1 v l.length ((Pr.kin l which x bs).map fun (n : Nat) => .int .i64 n) ∧ Below w.heap.size w w' := by
  obtain ⟨t0, ht0, hz0, hz1, hz2⟩ := info_parts Tryd.infoInt
  obtain ⟨ai, ci, ei⟩ := body_val hi
  obtain ⟨ab, cb, eb⟩ := body_val hb
  have HI := hid hi
  have HB := hid hb
  clear hi hb
  subst ei eb
  have HSZ : Hid ((Tryd.prog.info? 3).map (·.size) = some 1) := by
    show _ = _
    rw [ht0]; simp [hz1]
  have HN : Hid ((bs.map fun (n : Nat) => Value.int .i64 n).length = Nat.min l.length l.length) := by
    show _ = _
    rw [List.length_map, hbs]; exact (Nat.min_self _).symm
  have HFIT : Hid (0 + (bs.map fun (n : Nat) => Value.int .i64 n).length ≤ (madeCells (Value.int .i64 0).cells (l.length * 1)).toList.length) := by
    show _ ≤ _
    rw [made_len, List.length_map, hbs]; omega
  have HONE : Hid (∀ v ∈ (bs.map fun (n : Nat) => Value.int .i64 n), v.oneCell' = true) := by
    intro v hv
    obtain ⟨n, _, rfl⟩ := List.mem_map.1 hv
    rfl
  go_enter Tryd.func38, Tryd.ntmps38
  go_wp2_with (first
    | (at_make; refine wpList_make_full _ rfl _ _ 24 rfl w.heap.size 3 t0 (.int .i64 0) 1 Tryd.underlying24 ht0 hz0 hz1 .i64 .i64 _ _ l.length rfl rfl rfl rfl (by rw [hz2]; omega) (by unfold maxLen; omega) (Nat.le_refl _) ?_; intro w1 hown1 hgrow1; have HG1 := hid (own_full hown1); have HB1 := hid (Below.grown (Below.refl w.heap.size w) hgrow1 (Nat.le_refl _) (fun q hq => by cases hq)); have hz := HB1.out.size; have hlt1 := (hown1.lt w.heap.size rfl).2; clear hown1 hgrow1)
    | (refine wpList_copy_splice rfl (.tmp 14) (.tmp 15) 24 24 rfl 3 Tryd.underlying24 HSZ.out _ _ l.length l.length l.length cb rfl rfl w.heap.size 0 _ 3 HG1.out (bs.map fun (n : Nat) => Value.int .i64 n) HN.out (cpos hbs HB1.out HB.out) HFIT.out HONE.out w.heap.size w HB1.out (Nat.le_refl _) ?_; intro w2 HG2 hB2; have HB2 := hid hB2; clear hB2))
  rw [splice_all _ _ (by rw [made_len, List.length_map, hbs, Nat.mul_one])] at HG2
  have HR := hid (row_of_cells hbs HG2.out)
  have hz2 := HB2.out.size
  have hlt2 := HR.out.lt
  clear HG1 HB1 HG2 hz hlt1
  go_loopw [2, 10] (fun xv iv wr => ∃ (i y : Nat) (dn : List Nat), i ≤ l.length ∧ y ≤ 4096 ∧ iv = .int .i64 i ∧ xv = .int .i64 y ∧ ((l.zip bs).take i).foldl (Pr.kdeal which) ([], x) = (dn, y) ∧ dn.length = i ∧ wr.rowIs w.heap.size 3 l.length (kinF dn bs i) ∧ Below w.heap.size w wr) (fun _ iv _ => l.length - (intOf iv).toNat)
  case atStart => exact ⟨0, x, [], Nat.zero_le _, hx, rfl, rfl, rfl, rfl, HR.out.congr (fun j hj => kinF_0 bs j), HB2.out⟩
  case round =>
    obtain ⟨i, y, dn, hil, hy, rfl, rfl, hf, hdl, hrow, hbel⟩ := hrel
    have HROW := hid hrow
    have HBL := hid hbel
    have hzw := hbel.size
    have hrl := hrow.lt
    have hyI : (y : Int) ≤ 4096 := by omega
    by_cases hlt : i < l.length
    · obtain ⟨g, cap, hv, _, hglt⟩ := HI.out.form (by omega)
      cases hv
      have x0 := (hbel.cell (p := ⟨g, i, none⟩) hglt).trans (bool_at HI.out i hlt)
      have hft := Pr.foldl_take (Pr.kdeal which) ([], x) (l.zip bs) i (by rw [List.length_zip, hbs]; omega)
      rw [hf, List.getElem_zip] at hft
      have hbi : bs[i]'(by omega) = bs.getD i 0 := by rw [List.getD_eq_getElem?_getD, List.getElem?_eq_getElem (by omega)]; rfl
      rw [hbi] at hft
      have c0 := hrow.cell (i := i) hlt
      have c1 := hrow.frozen i
      generalize l[i] = q at x0 hft
      have HFT := hid hft
      clear hrow hbel hf hft hbi
      by_cases hq : q = which
      · subst hq
        have heq : (q == q) = true := by simp
        go_wp2_with fail
        go_roundw
        case rel =>
          refine ⟨i + 1, y / 16, dn ++ [y % 16], by omega, by omega, by go_num, by go_num, by rw [HFT.out]; simp [Pr.kdeal], by simp [hdl], ?_, HBL.out.setCell (Nat.le_refl _) _⟩
          rw [show (y : Int) % 16 = ((y % 16 : Nat) : Int) by omega]
          exact (HROW.out.set i (.int .i64 ((y % 16 : Nat) : Int))).congr (fun j hj => kinF_put dn bs i _ hdl j)
        case measure => simp [intOf]; omega
      · have heq : (q == which) = false := by simpa using hq
        go_wp2_with fail
        go_roundw
        case rel =>
          exact ⟨i + 1, y, dn ++ [bs.getD i 0], by omega, hy, by go_num, rfl, by rw [HFT.out]; unfold Pr.kdeal; rw [if_neg hq], by simp [hdl], HROW.out.congr (fun j hj => kinF_keep dn bs i hdl j), HBL.out⟩
        case measure => simp [intOf]; omega
    · have hie : i = l.length := by omega
      have hE : dn = Pr.kin l which x bs := by
        rw [List.take_of_length_le (by rw [List.length_zip]; omega)] at hf
        unfold Pr.kin
        rw [hf]
      have hdl2 : dn.length = l.length := by omega
      clear hrow hbel hf
      go_wp2_with fail
      go_ret
      refine ⟨_, rfl, ?_, HBL.out⟩
      rw [← hE]
      exact own_of_row hdl2 (Nat.le_refl _) (by omega) (HROW.out.congr (fun j hj => by rw [hie]; exact kinF_n dn bs j _ hj))

end Go.Proofs.YtgddmpmcnjlcjaaDoor
