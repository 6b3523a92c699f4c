import Derived.Test.YtgddmpmcnjlcjaaGreatDoorB41
import Derived.Test.YtgddmpmcnjlcjaaGreatDoorB12
import Derived.Deep.LoopGhost
import Derived.Deep.QuietTactic
import Derived.BigQuiet
import Derived.Deep.RegionLaw
import Derived.Test.YtgddmpmcnjlcjaaGreatDoorB29
namespace Go.Proofs.YtgddmpmcnjlcjaaGreatDoor
open Go.RowKit
open Tm (TsOk DsOk Wd16)
set_option linter.unusedVariables false
def tellL (ds : List Rf.Dc) (m : Tm.M) (k : Nat) : List Nat := (List.range k).map (Tm.num ds m)
theorem tellL_succ (ds : List Rf.Dc) (m : Tm.M) (k : Nat) : tellL ds m (k + 1) = tellL ds m k ++ [Tm.num ds m k] := by
  unfold tellL
  rw [List.range_succ, List.map_append]
  rfl
theorem st_16 {ds : List Rf.Dc} {m : Tm.M} (h : Wd16 m) : ∀ n, Wd16 (Tm.st ds m n)
  | 0 => h
  | n + 1 => (st_16 h n).step
theorem at_dc {l : List DB} {i : Nat} (h : i < l.length) : ∃ h' : i < (dcs l).length, (dcs l)[i] = (dbAt l i).dc := by
  have h' : i < (dcs l).length := by simpa [dcs] using h
  refine ⟨h', ?_⟩
  simp [dcs, dbAt, h]
theorem isIn_bytes {l : List DB} {i : Nat} (h : i < l.length) : ∀ h' : i < (dcs l).length, Tm.isIn (dcs l)[i] = ((dbAt l i).kind.toList == [115, 101, 99, 114, 101, 116] || (dbAt l i).kind.toList == [112, 117, 98, 108, 105, 99]) := by
  intro h'
  rw [(at_dc h).2]
  rfl
theorem kinds_at {w0 : World} {base P : Nat} {l : List DB} {vn vk vz vb : Value} (h : PRep w0 base P l vn vk vz vb) {i : Nat} (hi : i < l.length) : ∃ g c, vk = .slice (some ⟨g, 0, none⟩) l.length c ∧ w0.cell? ⟨g, i, none⟩ = some (.string (dbAt l i).kind) := by
  rcases h.kd.2 with ⟨_, c⟩ | ⟨g, c, cur, hv, _⟩
  · omega
  · refine ⟨g, c, hv, ?_⟩
    have hk := h.kd
    rw [hv] at hk
    rw [hk.cellAt i (by omega)]
    simp [hi, dbAt]
theorem sizes_at {w0 : World} {base P : Nat} {l : List DB} {vn vk vz vb : Value} (h : PRep w0 base P l vn vk vz vb) {i : Nat} (hi : i < l.length) : ∃ g c, vz = .slice (some ⟨g, 0, none⟩) l.length c ∧ w0.cell? ⟨g, i, none⟩ = some (.int .i64 (szs l i)) := by
  rcases h.sz.2 with ⟨_, c⟩ | ⟨g, c, cur, hv, _⟩
  · omega
  · refine ⟨g, c, hv, ?_⟩
    have hk := h.sz
    rw [hv] at hk
    rw [hk.cellAt i (by omega)]
    simp [hi, szs, dbAt]
theorem ini_begin (w0 : World) (P : Nat) (l : List DB) (ins : List Nat) :
    Ini w0 P l ins (w0.heap.size + 1) w0.heap.size 0 0 (.slice none 0 0) (fun _ => 0) ((w0.alloc (.cells (madeCells #[.int .i64 0] l.length) 3)).alloc (.cells #[.pointer (some ⟨P, 0, none⟩), .slice (some ⟨w0.heap.size, 0, none⟩) l.length l.length, .slice none 0 0, .slice none 0 0, .bool false] 127)) := by
  have z1 : (w0.alloc (.cells (madeCells #[.int .i64 0] l.length) 3)).heap.size = w0.heap.size + 1 := by simp
  have hrow := World.rowIs_alloc (w0.alloc (.cells (madeCells #[.int .i64 0] l.length) 3)) #[.pointer (some ⟨P, 0, none⟩), .slice (some ⟨w0.heap.size, 0, none⟩) l.length l.length, .slice none 0 0, .slice none 0 0, .bool false] 127 (tcell P w0.heap.size l.length (.slice none 0 0) (.slice none 0 0) false) (fun i hi => by
    match i, hi with
    | 0, _ => rfl
    | 1, _ => rfl
    | 2, _ => rfl
    | 3, _ => rfl
    | 4, _ => rfl
    | n + 5, h => exact absurd (show n + 5 < 5 from h) (by omega))
  rw [z1] at hrow
  refine ⟨((Below.refl _ _).alloc (Nat.le_refl _) _).alloc (by rw [z1]; omega) _, hrow, ((World.rowIs_made w0 (.int .i64 0) l.length 3).alloc _).congr (fun i hi => ?_), World.ownsRow_nil _ _ _ _, fun x hx => absurd hx (by omega), fun _ => rfl, by omega, Nat.le_refl _, by omega, by simp [Value.ownBlock], by simp [Value.ownBlock], fun x hx => absurd hx (by omega), fun x y hx => absurd hx (by omega)⟩
  unfold valN
  rw [if_neg (by omega)]
  rfl
structure InAt (w : World) (v : Value) (xs : List Int) : Prop where
  val : ∃ a c, v = .slice a xs.length c
  at_ : ∀ j, j < xs.length → ∃ g off c, v = .slice (some ⟨g, off, none⟩) xs.length c ∧ w.cell? ⟨g, off + j, none⟩ = some (.int .i64 (xs.getD j 0))
def ints (l : List Nat) : List Int := l.map fun (n : Nat) => (n : Int)
theorem ints_len (l : List Nat) : (ints l).length = l.length := by simp [ints]
theorem ints_at (l : List Nat) (j : Nat) : (ints l).getD j 0 = ((l.getD j 0 : Nat) : Int) := by
  induction l generalizing j with
  | nil => cases j <;> rfl
  | cons x l ih =>
    cases j with
    | zero => rfl
    | succ j => exact ih j
theorem InAt.later {w w' : World} {v : Value} {xs : List Int} (h : InAt w v xs) (hb : ∀ k, k < w.heap.size → w'.heap[k]? = w.heap[k]?) : InAt w' v xs :=
  ⟨h.val, fun j hj => by
    obtain ⟨g, off, c, h1, h2⟩ := h.at_ j hj
    exact ⟨g, off, c, h1, (World.cell?_of_block (hb g (World.block_lt_of_cell? w _ h2))).trans h2⟩⟩
theorem InAt.ofOwn {w : World} {base : Nat} {v : Value} {xs : List Int} (h : w.ownsRow base 3 1 v xs.length (xs.map fun x => .int .i64 x)) : InAt w v xs :=
  ⟨body_val h, fun j hj => by
    rcases h.2 with ⟨_, c⟩ | ⟨g, c, cur, hv, _⟩
    · omega
    · refine ⟨g, 0, c, hv, ?_⟩
      subst hv
      rw [Nat.zero_add, h.cellAt j (by omega)]
      simp [hj]⟩
theorem set_back {w : World} {R i : Nat} {u : Value} {a : Addr} {v : Value} (h : (w.setCell ⟨R, i, none⟩ u).cell? a = some v) (hne : a.block ≠ R) : w.cell? a = some v :=
  (World.cell?_of_block (Below.heap_setCell w ⟨R, i, none⟩ u a.block hne)).symm.trans h
set_option maxRecDepth 100000 in
set_option maxHeartbeats 2000000 in
theorem tells_run {w0 : World} {base P : Nat} {l : List DB} {vn vk vz vb : Value} (rep : PRep w0 base P l vn vk vz vb) (hl : l.length ≤ 1000) (hok : DsOk (dcs l)) {A : Nat → Prop} {ts : List Rf.Tr} (hs : Sub w0 A vb ts) (ht : TsOk (dcs l) ts) (ins : List Nat) (h16 : ∀ x ∈ ins, x < 16) (hlen : ins.length = ((dcs l).filter Tm.isIn).length) (vi : Value) (hi : InAt w0 vi (ints ins)) (k : Nat) (hk : k ≤ 10) :
    Calls Tryz.prog 23 #[.pointer (some ⟨P, 0, none⟩), vi, .int .i64 k] w0 fun e w' => ∃ a c, e = .returned (.slice a k c) ∧ w'.ownsRow w0.heap.size 3 1 (.slice a k c) k ((tellL (dcs l) (Tm.start (dcs l) ts ins) k).map fun (n : Nat) => .int .i64 n) ∧ Below w0.heap.size w0 w' := by
  obtain ⟨t0, ht0, hz0, hz1, hz2⟩ := info_parts Tryz.infoInt
  obtain ⟨u0, hu0, hy0, hy1, hy2⟩ := info_parts Tryz.infoInts
  have PSx : Hid (PS w0 P l) := ⟨⟨base, vn, vk, vz, vb, rep⟩, hl, hok⟩
  have hsz4 : ∀ i, i < l.length → szs l i ≤ 4 := fun i hx => (hok _ (dc_mem hx)).2.1
  have HS4 := hid hsz4
  obtain ⟨an, cn, en⟩ := body_val rep.nm
  obtain ⟨ak, ck, ek⟩ := body_val rep.kd
  obtain ⟨az, cz, ez⟩ := body_val rep.sz
  obtain ⟨al, nl, cl, eb⟩ := sub_val hs
  obtain ⟨ai, ci, ei⟩ := hi.val
  rw [ints_len] at ei
  have HI := hid hi
  have REP := hid rep
  have HSUB := hid hs
  have HT := hid ht
  have H16 := hid (Wd16.start (dcs l) ts ins h16)
  have HLEN := hid hlen
  have p0 := rep.row.cell (i := 0) (by omega)
  have p1 := rep.row.cell (i := 1) (by omega)
  have p2 := rep.row.cell (i := 2) (by omega)
  have p3 := rep.row.cell (i := 3) (by omega)
  rw [show pcell vn vk vz vb 0 = vn from rfl] at p0
  rw [show pcell vn vk vz vb 1 = vk from rfl] at p1
  rw [show pcell vn vk vz vb 2 = vz from rfl] at p2
  rw [show pcell vn vk vz vb 3 = vb from rfl] at p3
  clear hi rep hs ht h16 hlen hok hsz4
  subst en ek ez eb ei
  have hPl := World.block_lt_of_cell? w0 _ p0
  have P0 := hid p0
  have P1 := hid p1
  have P2 := hid p2
  have P3 := hid p3
  have hlI : (l.length : Int) ≤ 1000 := by omega
  have hkI : (k : Int) ≤ 10 := by omega
  go_enter Tryz.func23, Tryz.ntmps23
  go_wp2_with (first
    | (at_make; refine wpList_make_row _ rfl _ _ 24 rfl 3 t0 (.int .i64 0) Tryz.underlying24 ht0 hz0 hz1 rfl .i64 .i64 l.length rfl rfl (by rw [hz2]; omega) (by omega) ?_))
  go_loopw [8, 9] (fun jv iv wr => ∃ (i : Nat) (vc : Value) (ga : Nat → Nat), i ≤ l.length ∧ iv = .int .i64 i ∧ jv = .int .i64 (inN (dcs l) i) ∧ Ini w0 P l ins (w0.heap.size + 1) w0.heap.size i i vc ga wr) (fun _ iv _ => l.length - (intOf iv).toNat)
  case atStart => exact ⟨0, .slice none 0 0, fun _ => 0, Nat.zero_le _, rfl, by rw [inN_zero]; rfl, ini_begin w0 P l ins⟩
  case round =>
    obtain ⟨i, vc, ga, hil, rfl, rfl, hini⟩ := hrel
    have HN := hid hini
    have hbel := hini.bel
    have hz := hbel.size
    have hRl := hini.row.lt
    have hVl := hini.vals.lt
    have r2 := hini.row.cell (i := 2) (by omega)
    rw [show tcell P w0.heap.size l.length vc (.slice none 0 0) false 2 = vc from rfl] at r2
    have q0 := (World.cell?_of_block (hbel.block P hPl)).trans P0.out
    obtain ⟨av, cvv, ev⟩ := body_val hini.own
    subst ev
    by_cases hlt : i < l.length
    · have q1 := (World.cell?_of_block (hbel.block P hPl)).trans P1.out
      have q2 := (World.cell?_of_block (hbel.block P hPl)).trans P2.out
      obtain ⟨gk, ck', ek', hkc⟩ := kinds_at REP.out hlt
      obtain ⟨gz, cz', ez', hzc⟩ := sizes_at REP.out hlt
      cases ek'
      cases ez'
      have hgk := World.block_lt_of_cell? w0 _ hkc
      have hgz := World.block_lt_of_cell? w0 _ hzc
      have kc := (World.cell?_of_block (hbel.block gk hgk)).trans hkc
      have zc := (World.cell?_of_block (hbel.block gz hgz)).trans hzc
      have hz4 := HS4.out i hlt
      have hltI : (i : Int) < (l.length : Int) := by omega
      obtain ⟨z, hzz⟩ : ∃ z, szs l i = z := ⟨_, rfl⟩
      rw [hzz] at zc hz4
      have HZ := hid hzz
      clear hzz
      have hmk : ∀ w : World, (Instr.makeSlice 24 (.int .i64 (z : Int)) (.int .i64 (z : Int))).run Tryz.prog w = .ok (.slice (some ⟨w.heap.size, 0, none⟩) z z) (w.alloc (.cells (madeCells #[.int .i64 0] z) 3)) := fun w => run_make_row' 24 3 (.int .i64 0) 8 Tryz.underlying24 Tryz.infoInt rfl .i64 .i64 z (by omega) (by omega) w
      have KC := hid hkc
      clear hkc hzc
      have own1 : ((wr.alloc (.cells (madeCells #[.int .i64 0] z) 3)).alloc (.cells #[.slice (some ⟨wr.heap.size, 0, none⟩) z z] 24)).heap[wr.heap.size + 1]? = some (.cells #[.slice (some ⟨wr.heap.size, 0, none⟩) z z] 24) := by
        have h := heap_alloc_new (wr.alloc (.cells (madeCells #[.int .i64 0] z) 3)) (.cells #[.slice (some ⟨wr.heap.size, 0, none⟩) z z] 24)
        simpa using h
      have own2 := hid own1
      clear own1
      have hiN : (i : Int) ≤ 1000 := by omega
      clear hini
      go_wp2_with fail
      go_cut [10] from 23 to 79 (fun sv wc => ∃ g2 cap2 ga', sv = .slice (some ⟨g2, 0, none⟩) (i + 1) cap2 ∧ wc.rowIs (w0.heap.size + 1) 127 5 (tcell P w0.heap.size l.length (.slice av i cvv) (.slice none 0 0) false) ∧ Ini w0 P l ins (w0.heap.size + 1) w0.heap.size (i + 1) i (.slice (some ⟨g2, 0, none⟩) (i + 1) cap2) ga' (wc.setCell ⟨w0.heap.size + 1, 2, none⟩ (.slice (some ⟨g2, 0, none⟩) (i + 1) cap2)))
      case first =>
        go_region_law
          ((refine step_append_lies _ (by rfl) _ _ _ (by rfl) w0.heap.size 24 u0 _ 1 24 Tryz.underlying34 hu0 hy0 hy1 hy2 rfl (by omega) _ i (cellsOf l ga i) (by rfl) (((World.ownsRow.alloc HN.out.own _).alloc _).drew) ⟨wr.heap.size + 1, 0, none⟩ 1 1 [.slice (some ⟨wr.heap.size, 0, none⟩) z z] (by rfl) (by rfl) (World.news_of_block (cs := #[.slice (some ⟨wr.heap.size, 0, none⟩) z z]) (t := 24) (fr := (0, 0)) own2.out) (by simp [Value.oneCell']) (by omega) (by unfold maxLen; omega) (by omega) (by simp; omega) (wr.heap.size + 2) (by simp) ?_; intro g1 p1 x1 hown1 hgrow1 hat1 hlt1))
        all_goals
          go_wp2_with fail
          go_meet
          exact ⟨g1, p1, Lk.upd ga i wr.heap.size, rfl, rowIs_grown (((HN.out.row.alloc _).alloc _).drew) hgrow1 HN.out.cr, HN.out.push' HZ.out hown1 ⟨hgrow1.os, hgrow1.tape, hgrow1.output, hgrow1.size, hgrow1.block⟩ hat1⟩
      case rest =>
        obtain ⟨g2, cap2, ga', rfl, hrow, hI⟩ := hcut
        clear hmk own2 HZ hz4 r2 q0 q1 q2 kc zc HN hbel hRl hVl hz
        have HROW := hid hrow
        have HIN := hid hI
        have hRl := hrow.lt
        have bk : ∀ a v, w0.cell? a = some v → wc.cell? a = some v := fun a v h => set_back (i := 2) (u := .slice (some ⟨g2, 0, none⟩) (i + 1) cap2) ((World.cell?_of_block (hI.bel.block a.block (World.block_lt_of_cell? w0 a h))).trans h) (fun e => by have := World.block_lt_of_cell? w0 a h; omega)
        have q1 := bk _ _ P1.out
        have kc := bk _ _ KC.out
        have r2 := hrow.cell (i := 2) (by omega)
        have f2 := hrow.frozen 2
        have r1 := hrow.cell (i := 1) (by omega)
        rw [show tcell P w0.heap.size l.length (.slice av i cvv) (.slice none 0 0) false 1 = .slice (some ⟨w0.heap.size, 0, none⟩) l.length l.length from rfl] at r1
        have hVl : w0.heap.size < wc.heap.size := by have := hI.vals.lt; simpa using this
        have v1 := set_back (hI.vals.cell hlt) (by show w0.heap.size ≠ w0.heap.size + 1; omega)
        have v2 : wc.frozen? ⟨w0.heap.size, i, none⟩ = false := (World.frozen?_of_block (a := ⟨w0.heap.size, i, none⟩) (Below.heap_setCell wc ⟨w0.heap.size + 1, 2, none⟩ _ w0.heap.size (by show w0.heap.size ≠ w0.heap.size + 1; omega))).symm.trans (hI.vals.frozen i)
        obtain ⟨h', hisIn⟩ : ∃ h' : i < (dcs l).length, Tm.isIn (dcs l)[i] = ((dbAt l i).kind.toList == [115, 101, 99, 114, 101, 116] || (dbAt l i).kind.toList == [112, 117, 98, 108, 105, 99]) := ⟨(at_dc hlt).1, isIn_bytes hlt _⟩
        have hsc := inN_succ h'
        have hat := ini_at (dcs l) 0 ins i h'
        have hle := inN_le (dcs l) (i + 1)
        rw [Nat.zero_add] at hat
        rw [hisIn] at hsc hat
        have HLE := hid hle
        generalize (dbAt l i).kind = kb at kc hsc hat KC
        have BK := hid bk
        clear hle hisIn hrow hI bk KC
        generalize hj : inN (dcs l) i = j at hsc hat ⊢
        have HSC := hid hsc
        have HAT := hid hat
        clear hj hsc hat
        cases hs : (kb.toList == [115, 101, 99, 114, 101, 116]) with
        | true =>
          have hj1 : inN (dcs l) (i + 1) = j + 1 := by rw [HSC.out]; simp [hs]
          have hx0 : Tm.ini (dcs l) 0 ins i = ins.getD j 0 := by rw [HAT.out]; simp [hs]
          have hjl : j < ins.length := by have h1 := HLE.out; have h2 := HLEN.out; omega
          obtain ⟨gi, off, ci', hv, ic0⟩ := HI.out.at_ j (by rw [ints_len]; exact hjl)
          have hgi : gi < w0.heap.size := World.block_lt_of_cell? w0 _ ic0
          have hgn : gi ≠ w0.heap.size + 1 := by omega
          have hai := (slice_inj hv).1
          subst hai
          rw [ints_at] at ic0
          have ic := BK.out _ _ ic0
          clear ic0 hv
          generalize ins.getD j 0 = x at hx0 ic
          have HX0 := hid hx0
          have HJ1 := hid hj1
          have hjI : (j : Int) < (ins.length : Int) := by omega
          have hjJ : (j : Int) + 1 ≤ 1000 := by have h1 := HLE.out; have h2 := HLEN.out; have h3 := (List.filter_sublist (p := Tm.isIn) (l := dcs l)).length_le; have h4 : (dcs l).length = l.length := (by simp [dcs]); omega
          clear hx0 hj1
          go_wp2_with fail
          go_region
          all_goals go_wp2_with fail
          all_goals go_roundw
          case rel =>
            exact ⟨i + 1, .slice (some ⟨g2, 0, none⟩) (i + 1) cap2, ga', by omega, by go_num, by rw [HJ1.out]; go_num, (HIN.out.put x HX0.out).drew 1⟩
          case measure => simp [intOf]; omega
        | false =>
        cases hp : (kb.toList == [112, 117, 98, 108, 105, 99]) with
        | true =>
          have hj1 : inN (dcs l) (i + 1) = j + 1 := by rw [HSC.out]; simp [hs, hp]
          have hx0 : Tm.ini (dcs l) 0 ins i = ins.getD j 0 := by rw [HAT.out]; simp [hs, hp]
          have hjl : j < ins.length := by have h1 := HLE.out; have h2 := HLEN.out; omega
          obtain ⟨gi, off, ci', hv, ic0⟩ := HI.out.at_ j (by rw [ints_len]; exact hjl)
          have hgi : gi < w0.heap.size := World.block_lt_of_cell? w0 _ ic0
          have hgn : gi ≠ w0.heap.size + 1 := by omega
          have hai := (slice_inj hv).1
          subst hai
          rw [ints_at] at ic0
          have ic := BK.out _ _ ic0
          clear ic0 hv
          generalize ins.getD j 0 = x at hx0 ic
          have HX0 := hid hx0
          have HJ1 := hid hj1
          have hjI : (j : Int) < (ins.length : Int) := by omega
          have hjJ : (j : Int) + 1 ≤ 1000 := by have h1 := HLE.out; have h2 := HLEN.out; have h3 := (List.filter_sublist (p := Tm.isIn) (l := dcs l)).length_le; have h4 : (dcs l).length = l.length := (by simp [dcs]); omega
          clear hx0 hj1
          go_wp2_with fail
          go_region
          all_goals go_wp2_with fail
          all_goals go_roundw
          case rel =>
            exact ⟨i + 1, .slice (some ⟨g2, 0, none⟩) (i + 1) cap2, ga', by omega, by go_num, by rw [HJ1.out]; go_num, (HIN.out.put x HX0.out).drew 1⟩
          case measure => simp [intOf]; omega
        | false =>
          have HJ1 := hid (show inN (dcs l) (i + 1) = j by rw [HSC.out]; simp [hs, hp])
          have HX0 := hid (show Tm.ini (dcs l) 0 ins i = 0 by rw [HAT.out]; simp [hs, hp])
          go_wp2_with fail
          go_roundw
          case rel => exact ⟨i + 1, .slice (some ⟨g2, 0, none⟩) (i + 1) cap2, ga', by omega, by go_num, by rw [HJ1.out], HIN.out.skip HX0.out⟩
          case measure => simp [intOf]; omega
    · have hie : i = l.length := by omega
      subst hie
      have q3 := (World.cell?_of_block (hbel.block P hPl)).trans P3.out
      clear hini hbel
      go_wp2_with (first
        | (go_at_call 52; refine (start_run HN.out HSUB.out HT.out).mono ?_; rintro e w1 ⟨rfl, gc, cc, hr1⟩; have HR1 := hid hr1; clear hr1))
      go_loopw [11, 12] (fun v c wq => ∃ n : Nat, n ≤ k ∧ c = .int .i64 n ∧ (∃ (wf : World) (F : Nat → Prop), (∀ b, v.ownBlock = some b → F b) ∧ RunAt w0 wf F A P l (w0.heap.size + 1) w0.heap.size gc cc ga (1 + 2 * n) (Tm.st (dcs l) (Tm.start (dcs l) ts ins) n) wq) ∧ wq.ownsRow w0.heap.size 3 1 v n ((tellL (dcs l) (Tm.start (dcs l) ts ins) n).map fun (n : Nat) => .int .i64 n)) (fun _ c _ => k - (intOf c).toNat)
      case atStart => exact ⟨0, Nat.zero_le _, rfl, ⟨w1, fun _ => False, fun b e => by simp [Value.ownBlock] at e, HR1.out⟩, World.ownsRow_nil _ _ _ _⟩
      case round =>
        obtain ⟨n, hnk, rfl, ⟨wf, F, hF, hr⟩, hown⟩ := hrel
        obtain ⟨ao, co, eo⟩ := body_val hown
        subst eo
        have HR := hid hr
        have HF := hid hF
        have HOWN := hid hown
        have hzw := hr.bel.size
        by_cases hlt3 : n < k
        · clear hr hF hown
          obtain ⟨x, hx⟩ : ∃ x, Tm.num (dcs l) (Tm.start (dcs l) ts ins) n = x := ⟨_, rfl⟩
          have HX := hid hx
          clear hx
          go_wp2_with (first
            | (go_at_call 53; refine (step_run HR.out PSx.out (st_16 H16.out n) (by omega)).mono ?_; rintro e w2 ⟨he2, hr2⟩; have he3 : e = .returned (.int .i64 ((Tm.num (dcs l) (Tm.start (dcs l) ts ins) n : Nat) : Int)) := he2; rw [HX.out] at he3; subst he3; have HR2 := hid hr2; have hown2 := ownsRow_blk HOWN.out (fun b e => (hr2.frn b (HF.out b e)).2.trans (HR.out.frn b (HF.out b e)).2.symm); have HOWN2 := hid hown2; have z2 := hr2.bel.size; clear hr2 hown2 he2)
            | (at_builtin; refine wpList_append_lies _ rfl _ _ 24 rfl w0.heap.size 3 t0 _ 1 8 Tryz.underlying24 ht0 hz0 hz1 hz2 rfl (by omega) _ n ((tellL (dcs l) (Tm.start (dcs l) ts ins) n).map fun (n : Nat) => .int .i64 n) rfl (HOWN2.out.alloc _) ⟨w2.heap.size, 0, none⟩ 1 1 [.int .i64 x] rfl rfl (cell_one_new _ _ _) (by simp [Value.oneCell']) (by omega) (by unfold maxLen; omega) (by omega) (by simp; omega) (w2.heap.size + 1) (by simp) ?_; intro g2 cap2 w3 hown3 hgrow hat hltg))
          go_roundw
          case rel =>
            refine ⟨n + 1, by omega, by go_num, ⟨w3, fun b => (Value.slice (some ⟨g2, 0, none⟩) (n + 1) cap2).ownBlock = some b, fun b e => e, (RunAt.swap HR2.out ?_ ?_ ?_).up (by omega)⟩, ?_⟩
            · exact ((Below.refl w0.heap.size w2).alloc (by omega) _).grown hgrow (by simp; omega) (fun q hq => (HOWN2.out.lt q hq).1)
            · intro b hb hn
              exact (hgrow.block b (by simp; omega) (fun e => hn (HF.out b e.symm))).trans (Below.heap_alloc w2 _ b hb)
            · intro b hb
              refine ⟨(hown3.lt b hb).2, ?_⟩
              have e : g2 = b := by simpa [Value.ownBlock] using hb
              subst e
              rcases hat with c | c
              · exact .inl (HF.out _ c)
              · exact .inr (by omega)
            · rw [tellL_succ, List.map_append, HX.out]
              exact hown3
          case measure => simp [intOf]; omega
        · have hnk2 : n = k := by omega
          subst hnk2
          clear hr hF hown
          go_wp2_with fail
          go_ret
          exact ⟨_, _, rfl, HOWN.out, HR.out.bel⟩
end Go.Proofs.YtgddmpmcnjlcjaaGreatDoor
namespace Go.Proofs.YtgddmpmcnjlcjaaGreatDoor
open Go.RowKit
open Tm (TsOk DsOk Wd16)
set_option linter.unusedVariables false
theorem prog_ok {t : Lk.Wd} {ds : List Rf.Dc} {ts : List Rf.Tr} (h : Rf.read t = (some (ds, ts), 0)) (ht : t.length ≤ 600) : TsOk ds ts ∧ DsOk ds ∧ ds.length ≤ 1000 := by
  obtain ⟨s, hb, rfl⟩ := Tm.ref_read h
  have h1 := (Tm.blk_ok hb .nil (fun _ => rfl)).1
  have h2 := Tm.blk_names hb (fun d hd => by cases hd)
  have hne : 0 < (Lk.cut 10 t).length := by
    have := Lk.cut_ne 10 t
    cases hc : Lk.cut 10 t with
    | nil => exact absurd hc this
    | cons x xs => simp
  have h3 := (Rf.post_blk (Lk.cut 10 t) (Lk.cut 10 t).length 0 {} hne (Nat.zero_le _) (Nat.le_add_left _ _)).lt
  have h4 := (Rf.blk_shadow (Lk.cut 10 t) (Lk.cut 10 t).length 0 {} []).2
  rw [hb] at h4
  rw [← h4] at h3
  have h5 := (cut_len 10 t).1
  have h6 : s.ds.length + 0 ≤ 0 + s.at_ := h2.2
  have h7 : s.at_ < (Lk.cut 10 t).length := h3
  exact ⟨h1, h2.1, by omega⟩
theorem tells_eq {t : Lk.Wd} {ds : List Rf.Dc} {ts : List Rf.Tr} (h : (Lk.read t).2 = 0) (hr : Rf.read t = (some (ds, ts), 0)) (ins : List Nat) (hi : ins.length = (Lk.read t).1.secret.length) (k : Nat) : Mc.tells (pgOf t) (Mc.ini ins) k = tellL ds (Tm.start ds ts ins) k := by
  induction k with
  | zero => rfl
  | succ k ih => rw [Mc.tells_succ, tellL_succ, ih, Tm.num_read h hr ins hi]
theorem readS_pos (t : Lk.Wd) (h : (Rf.readS t).1 = false) : (Rf.readS t).2 ≠ 0 := by
  have hne : 0 < (Lk.cut 10 t).length := by
    have := Lk.cut_ne 10 t
    cases hc : Lk.cut 10 t with
    | nil => exact absurd hc this
    | cons x xs => simp
  unfold Rf.readS at h ⊢
  generalize Rf.blkS (Lk.cut 10 t) (Lk.cut 10 t).length 0 {} = o at h ⊢
  obtain ⟨b, os⟩ := o
  cases b with
  | false => simp
  | true =>
    dsimp only at h ⊢
    by_cases c : (Lk.cut 10 t).getD ((Lk.cut 10 t).length - 1) [] = []
    · rw [if_pos c] at h; cases h
    · rw [if_neg c]; show (Lk.cut 10 t).length ≠ 0; omega
theorem readS_zero (t : Lk.Wd) (h : (Rf.readS t).1 = true) : (Rf.readS t).2 = 0 := by
  unfold Rf.readS at h ⊢
  generalize Rf.blkS (Lk.cut 10 t) (Lk.cut 10 t).length 0 {} = o at h ⊢
  obtain ⟨b, os⟩ := o
  cases b with
  | false => cases h
  | true =>
    dsimp only at h ⊢
    by_cases c : (Lk.cut 10 t).getD ((Lk.cut 10 t).length - 1) [] = []
    · rw [if_pos c]
    · rw [if_neg c] at h; cases h
end Go.Proofs.YtgddmpmcnjlcjaaGreatDoor
namespace Go.Proofs.YtgddmpmcnjlcjaaGreatDoor
open Go.RowKit
set_option linter.unusedVariables false
theorem ints_own {w : World} {base : Nat} {v : Value} {l : List Nat} {n : Nat} (h : w.ownsRow base 3 1 v n (l.map fun (n : Nat) => .int .i64 n)) : w.ownsRow base 3 1 v (ints l).length ((ints l).map fun x => .int .i64 x) := by
  have hl : l.length = n := by have h1 := h.1; simpa using h1
  rw [ints_len, hl]
  unfold ints
  rw [List.map_map]
  exact h
theorem InAt.cast {w : World} {v : Value} {xs ys : List Int} (h : InAt w v xs) (e : xs = ys) : InAt w v ys := e ▸ h
theorem rep_later {w w' : World} {base P : Nat} {l : List DB} {vn vk vz vb : Value} (h : PRep w base P l vn vk vz vb) (hb : Below w.heap.size w w') : PRep w' base P l vn vk vz vb :=
  ⟨h.row.of_block (hb.block P h.lt), h.ge, ownsRow_blk h.nm (fun k e => hb.block k (h.nm.lt k e).2), ownsRow_blk h.kd (fun k e => hb.block k (h.kd.lt k e).2), ownsRow_blk h.sz (fun k e => hb.block k (h.sz.lt k e).2), h.np, h.kp, h.zp, h.nk, h.nz, h.kz⟩
theorem sub_later {w0 w w' : World} {v : Value} {ts : List Rf.Tr} (h : Sub w (NewB w0 w) v ts) (hb : Below w.heap.size w w') : Sub w' (NewB w0 w) v ts := h.move (fun k hk => ⟨hb.block k hk.2, hk⟩)
def secL (ds : List Rf.Dc) : List Bool := (ds.filter Tm.isIn).map fun d => d.kind == Rf.wSecret
theorem secL_take {ds : List Rf.Dc} {i : Nat} (h : i < ds.length) : secL (ds.take (i + 1)) = secL (ds.take i) ++ (if Tm.isIn ds[i] = true then [ds[i].kind == Rf.wSecret] else []) := by
  unfold secL
  rw [List.take_succ_eq_append_getElem h, List.filter_append, List.map_append]
  congr 1
  by_cases c : Tm.isIn ds[i] = true
  · rw [if_pos c]; simp [c]
  · rw [if_neg c]; simp [c]
theorem secL_len (ds : List Rf.Dc) : (secL ds).length = (ds.filter Tm.isIn).length := by simp [secL]
set_option maxRecDepth 100000 in
set_option maxHeartbeats 1000000 in
theorem secrets_run {w : World} {base P : Nat} {l : List DB} {vn vk vz vb : Value} (rep : PRep w base P l vn vk vz vb) (hl : l.length ≤ 1000) :
    Calls Tryz.prog 22 #[.pointer (some ⟨P, 0, none⟩)] w fun e w' => ∃ a c, e = .returned (.slice a (secL (dcs l)).length c) ∧ w'.ownsRow w.heap.size 4 1 (.slice a (secL (dcs l)).length c) (secL (dcs l)).length ((secL (dcs l)).map Value.bool) ∧ Below w.heap.size w w' := by
  obtain ⟨t0, ht0, hz0, hz1, hz2⟩ := info_parts Tryz.infoBool
  obtain ⟨ak, ck, ek⟩ := body_val rep.kd
  have p1 := rep.row.cell (i := 1) (by omega)
  rw [show pcell vn vk vz vb 1 = vk from rfl] at p1
  have REP := hid rep
  have hPl := rep.lt
  clear rep
  subst ek
  have P1 := hid p1
  have hlI : (l.length : Int) ≤ 1000 := by omega
  have hdl : (dcs l).length = l.length := by simp [dcs]
  go_enter Tryz.func22, Tryz.ntmps22
  go_wp2_with fail
  go_loopw [3, 4] (fun v c wr => ∃ i : Nat, i ≤ l.length ∧ c = .int .i64 i ∧ Below w.heap.size w wr ∧ wr.ownsRow w.heap.size 4 1 v (secL ((dcs l).take i)).length ((secL ((dcs l).take i)).map Value.bool)) (fun _ c _ => l.length - (intOf c).toNat)
  case atStart => exact ⟨0, Nat.zero_le _, rfl, Below.refl _ _, World.ownsRow_nil _ _ _ _⟩
  case round =>
    obtain ⟨i, hil, rfl, hbel, hown⟩ := hrel
    obtain ⟨ao, co, eo⟩ := body_val hown
    subst eo
    have HB := hid hbel
    have HO := hid hown
    have hz := hbel.size
    have q1 := (World.cell?_of_block (hbel.block P hPl)).trans P1.out
    by_cases hlt : i < l.length
    · obtain ⟨gk, ck', ek', hkc⟩ := kinds_at REP.out hlt
      cases ek'
      have hgk := World.block_lt_of_cell? w _ hkc
      have kc := (World.cell?_of_block (hbel.block gk hgk)).trans hkc
      have h' : i < (dcs l).length := by omega
      have hst := secL_take h'
      rw [isIn_bytes hlt h', (at_dc hlt).2] at hst
      have hkd : (dbAt l i).dc.kind = (dbAt l i).kind.toList := rfl
      rw [hkd] at hst
      have hsl : (secL ((dcs l).take i)).length ≤ 1000 := by
        rw [secL_len]
        have h1 := (List.filter_sublist (p := Tm.isIn) (l := (dcs l).take i)).length_le
        have h2 := (List.take_sublist i (dcs l)).length_le
        omega
      generalize hSi : secL ((dcs l).take i) = S at hst hsl HO ⊢
      generalize hSj : secL ((dcs l).take (i + 1)) = S' at hst
      have HSj := hid hSj
      have HST := hid hst
      generalize (dbAt l i).kind = kb at kc HST
      have hsI : (S.length : Int) ≤ 1000 := by omega
      clear hbel hown hkc hst hSi hSj hkd
      cases hs : (kb.toList == [115, 101, 99, 114, 101, 116]) with
      | true =>
        have HS1 := hid (show S' = S ++ [true] by rw [HST.out, hs]; simp; exact eq_of_beq hs)
        go_wp2_with (first | (at_builtin; refine wpList_append_lies _ rfl _ _ 42 rfl w.heap.size 4 t0 _ 1 1 Tryz.underlying42 ht0 hz0 hz1 hz2 rfl (by omega) _ S.length (S.map Value.bool) rfl (HO.out.alloc _) ⟨wr.heap.size, 0, none⟩ 1 1 [.bool true] rfl rfl (cell_one_new _ _ _) (by simp [Value.oneCell']) (by omega) (by unfold maxLen; omega) (by omega) (by simp; omega) (wr.heap.size + 1) (by simp) ?_; intro g2 cap2 w3 hown3 hgrow hat hltg))
        go_roundw
        case rel =>
          refine ⟨i + 1, by omega, by go_num, (HB.out.alloc hz _).grown hgrow (by simp; omega) (fun q hq => (HO.out.lt q hq).1), ?_⟩
          rw [HSj.out, HS1.out, List.length_append, List.map_append]
          exact hown3
        case measure => simp [intOf]; omega
      | false =>
      cases hp : (kb.toList == [112, 117, 98, 108, 105, 99]) with
      | true =>
        have HS1 := hid (show S' = S ++ [false] by rw [HST.out, hs, hp]; simp; exact ne_of_beq_false hs)
        go_wp2_with (first | (at_builtin; refine wpList_append_lies _ rfl _ _ 42 rfl w.heap.size 4 t0 _ 1 1 Tryz.underlying42 ht0 hz0 hz1 hz2 rfl (by omega) _ S.length (S.map Value.bool) rfl (HO.out.alloc _) ⟨wr.heap.size, 0, none⟩ 1 1 [.bool false] rfl rfl (cell_one_new _ _ _) (by simp [Value.oneCell']) (by omega) (by unfold maxLen; omega) (by omega) (by simp; omega) (wr.heap.size + 1) (by simp) ?_; intro g2 cap2 w3 hown3 hgrow hat hltg))
        go_roundw
        case rel =>
          refine ⟨i + 1, by omega, by go_num, (HB.out.alloc hz _).grown hgrow (by simp; omega) (fun q hq => (HO.out.lt q hq).1), ?_⟩
          rw [HSj.out, HS1.out, List.length_append, List.map_append]
          exact hown3
        case measure => simp [intOf]; omega
      | false =>
        have HS1 := hid (show S' = S by rw [HST.out, hs, hp]; simp)
        go_wp2_with fail
        go_roundw
        case rel =>
          refine ⟨i + 1, by omega, by go_num, HB.out, ?_⟩
          rw [HSj.out, HS1.out]
          exact HO.out
        case measure => simp [intOf]; omega
    · have hie : i = (dcs l).length := by omega
      have hE : (dcs l).take i = dcs l := by rw [hie, List.take_length]
      rw [hE] at HO ⊢
      clear hbel hown hie hE
      go_wp2_with fail
      go_ret
      exact ⟨_, _, rfl, HO.out, HB.out⟩
end Go.Proofs.YtgddmpmcnjlcjaaGreatDoor
namespace Go.Proofs.YtgddmpmcnjlcjaaGreatDoor
open Go.RowKit
open Tm (TsOk DsOk Wd16)
set_option linter.unusedVariables false
namespace Pr
theorem dg_succ (i x : Nat) : dg (i + 1) x = dg i x ++ [x / 16 ^ i % 16] := by
  induction i generalizing x with
  | zero => simp [dg]
  | succ i ih =>
    have e := ih (x / 16)
    have h1 : dg (i + 1 + 1) x = x % 16 :: dg (i + 1) (x / 16) := rfl
    have h2 : dg (i + 1) x = x % 16 :: dg i (x / 16) := rfl
    rw [h1, e, h2, List.cons_append, Nat.pow_succ, Nat.mul_comm (16 ^ i) 16, Nat.div_div_eq_div_mul]
theorem zr_app (a : List Bool) (u : List Nat) (h : u.length = a.length) (b : Bool) (v : Nat) : zr (a ++ [b]) (u ++ [v]) = zr a u ++ [if b = true then 0 else v] := by
  induction a generalizing u with
  | nil =>
    cases u with
    | nil => rfl
    | cons x u => simp at h
  | cons c a ih =>
    cases u with
    | nil => simp at h
    | cons x u =>
      show (if c = true then 0 else x) :: zr (a ++ [b]) (u ++ [v]) = (if c = true then 0 else x) :: (zr a u ++ [if b = true then 0 else v])
      rw [ih u (by simpa using h)]
theorem anyS_app (a : List Bool) (u : List Nat) (h : u.length = a.length) (b : Bool) (v : Nat) : anyS (a ++ [b]) (u ++ [v]) = (anyS a u || (b && decide (0 < v))) := by
  induction a generalizing u with
  | nil =>
    cases u with
    | nil => show ((b && decide (0 < v)) || false) = (false || (b && decide (0 < v))); simp
    | cons x u => simp at h
  | cons c a ih =>
    cases u with
    | nil => simp at h
    | cons x u =>
      show ((c && decide (0 < x)) || anyS (a ++ [b]) (u ++ [v])) = (((c && decide (0 < x)) || anyS a u) || (b && decide (0 < v)))
      rw [ih u (by simpa using h), Bool.or_assoc]
theorem zr_len (a : List Bool) (u : List Nat) (h : u.length = a.length) : (zr a u).length = a.length := by
  induction a generalizing u with
  | nil => rfl
  | cons c a ih =>
    cases u with
    | nil => simp at h
    | cons x u => simp [zr, ih u (by simpa using h)]
theorem zr_lt (a : List Bool) (u : List Nat) (h : ∀ v ∈ u, v < 16) : ∀ v ∈ zr a u, v < 16 := by
  induction a generalizing u with
  | nil => intro v hv; cases hv
  | cons c a ih =>
    cases u with
    | nil => intro v hv; cases hv
    | cons x u =>
      intro v hv
      rcases List.mem_cons.1 hv with e | e
      · rw [e]
        have := h x (List.mem_cons_self ..)
        split <;> omega
      · exact ih u (fun y hy => h y (List.mem_cons_of_mem _ hy)) v e
end Pr
set_option maxRecDepth 100000 in
set_option maxHeartbeats 1000000 in
theorem rsame_any (va vb : Value) (xs ys : List Int) (w : World) (ha : InAt w va xs) (hb : InAt w vb ys) (hl : xs.length ≤ 100000) (hxy : xs.length = ys.length) :
    Calls Tryz.prog 24 #[va, vb] w fun e w' => ∃ b : Bool, e = .returned (.bool b) ∧ (b = true ↔ ∀ j, j < xs.length → xs.getD j 0 = ys.getD j 0) ∧ Below w.heap.size w w' := by
  obtain ⟨aa, ca, ea⟩ := ha.val
  obtain ⟨ab, cb, eb⟩ := hb.val
  rw [← hxy] at eb
  have HA := hid ha
  have HB := hid hb
  have HXY := hid hxy
  clear ha hb hxy
  subst ea eb
  have hlI : (xs.length : Int) ≤ 100000 := by omega
  go_enter Tryz.func24, Tryz.ntmps24
  go_wp2_with fail
  go_loopw [5] (fun c wr => ∃ i : Nat, i ≤ xs.length ∧ c = .int .i64 i ∧ (∀ j, j < i → xs.getD j 0 = ys.getD j 0) ∧ Below w.heap.size w wr) (fun c _ => xs.length - (intOf c).toNat)
  case atStart => exact ⟨0, Nat.zero_le _, rfl, fun j hj => absurd hj (by omega), Below.refl _ _⟩
  case round =>
    obtain ⟨i, hil, rfl, hj, hbel⟩ := hrel
    have HBL := hid hbel
    have HJ := hid hj
    clear hj
    by_cases hlt : i < xs.length
    · obtain ⟨ga, oa, ca', hva, ica⟩ := HA.out.at_ i hlt
      obtain ⟨gb, ob, cb', hvb, icb⟩ := HB.out.at_ i (by rw [← HXY.out]; exact hlt)
      have h1 := (slice_inj hva).1
      have h2 := (slice_inj hvb).1
      subst h1 h2
      have ya := (World.cell?_of_block (hbel.block ga (World.block_lt_of_cell? w _ ica))).trans ica
      have yb := (World.cell?_of_block (hbel.block gb (World.block_lt_of_cell? w _ icb))).trans icb
      obtain ⟨x, hx⟩ : ∃ x, xs.getD i 0 = x := ⟨_, rfl⟩
      obtain ⟨y, hy⟩ : ∃ y, ys.getD i 0 = y := ⟨_, rfl⟩
      rw [hx] at ya
      rw [hy] at yb
      have HX := hid hx
      have HY := hid hy
      clear hbel ica icb hva hvb hx hy
      by_cases hxy : x = y
      · subst hxy
        go_wp2_with fail
        go_quiet (fail)
        go_wp2_with fail
        go_roundw
        case rel =>
          refine ⟨i + 1, by omega, by go_num, fun j hj => ?_, below_drewN HBL.out _⟩
          by_cases e : j = i
          · rw [e, HX.out, HY.out]
          · exact HJ.out j (by omega)
        case measure => simp [intOf]; omega
      · have hne : (x == y) = false := by simpa using hxy
        have hne2 : (x != y) = true := by simpa using hxy
        go_wp2_with fail
        go_quiet (fail)
        go_wp2_with fail
        go_ret
        refine ⟨false, rfl, ⟨fun h => (by cases h), fun h => ?_⟩, below_drewN HBL.out _⟩
        have := h i hlt
        rw [HX.out, HY.out] at this
        exact absurd this hxy
    · have hie : i = xs.length := by omega
      have HE := hid hie
      clear hbel hie
      go_wp2_with fail
      go_ret
      exact ⟨true, rfl, ⟨fun _ j hj => HJ.out j (by rw [HE.out]; exact hj), fun _ => rfl⟩, HBL.out⟩
theorem ints_same {a b : List Nat} (hl : a.length = b.length) : (∀ j, j < (ints a).length → (ints a).getD j 0 = (ints b).getD j 0) ↔ a = b := by
  constructor
  · intro h
    apply List.ext_getElem hl
    intro j h1 h2
    have e := h j (by rw [ints_len]; exact h1)
    rw [ints_at, ints_at] at e
    have e1 : a.getD j 0 = a[j] := by simp [h1]
    have e2 : b.getD j 0 = b[j] := by simp [h2]
    rw [e1, e2] at e
    omega
  · intro h j hj
    rw [h]
theorem tellL_len (ds : List Rf.Dc) (m : Tm.M) (k : Nat) : (tellL ds m k).length = k := by simp [tellL]
end Go.Proofs.YtgddmpmcnjlcjaaGreatDoor
