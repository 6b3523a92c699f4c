import Derived.Test.YtgddmpmcnjlcjabGreatDoorB10
import Derived.Deep.QuietTactic
import Derived.BigQuiet
import Derived.Deep.RegionLaw
import Derived.Deep.DeepCutAuto
import Derived.Deep.RegionWith
import Derived.Test.YtgddmpmcnjlcjabGreatDoorB09
namespace Go.Proofs.YtgddmpmcnjlcjabGreatDoor
open Go.RowKit
set_option linter.unusedVariables false
theorem bl_at {w : World} {base : Nat} {e : TypeId} {l : List Bool} {g cap : Nat} (h : w.ownsRow base e 1 (.slice (some ⟨g, 0, none⟩) l.length cap) l.length (l.map Value.bool)) (i : Nat) (hi : i < l.length) : w.cell? ⟨g, i, none⟩ = some (.bool (l.getD i false)) := by
  rw [h.cellAt i (by omega)]; simp [hi]
theorem Tryz.infoNode : (Tryz.prog.info? 160).map (fun i => (i.zero, i.size, i.bytes)) = some (some (.agg #[.int .i64 0, .int .i64 0, .int .i64 0, .bool false]), 4, 32) := by kernel_rfl
section
variable {w0 w : World} {mb gh gr M n : Nat} {s : Dg.St} {r : Nat → Nat} {pv : Nat → Value} {vN vB : Value}
set_option maxRecDepth 100000 in
set_option maxHeartbeats 1000000 in
theorem node_same (h : MkAt w0 mb gh gr M s r pv vN vB w) (b lo : Nat) :
    Calls Tryz.prog 77 #[.pointer (some ⟨mb, 0, none⟩), .int .i64 b, .int .i64 lo, .int .i64 lo] w fun e w' => e = .returned (.int .i64 lo) ∧ w' = w := by
  go_enter Tryz.func77, Tryz.ntmps77
  go_wp2_with fail
  go_ret
  exact ⟨rfl, rfl⟩
set_option maxRecDepth 100000 in
set_option maxHeartbeats 20000000 in
theorem node_diff (h : MkAt w0 mb gh gr M s r pv vN vB w) (ok : Dg.Ok n M s) (hM0 : 0 < M) (hM : M ≤ 4096) (sec : List Bool) (hn : n = sec.length) (hn3 : n ≤ 3) (hs : w0.ownsRow 0 4 1 (pv 0) sec.length (sec.map Value.bool)) (hN : s.nodes.length ≤ 400000) (b lo hi : Nat) (hb : b < 4 * n) (hlo : lo < s.nodes.length) (hhi : hi < s.nodes.length) (hne : lo ≠ hi) :
    Calls Tryz.prog 77 #[.pointer (some ⟨mb, 0, none⟩), .int .i64 b, .int .i64 lo, .int .i64 hi] w fun e w' => e = .returned (.int .i64 (Dg.nodeOf sec M s b lo hi).1) ∧ ∃ vN' vB', MkAt w0 mb gh gr M (Dg.nodeOf sec M s b lo hi).2 r pv vN' vB' w' ∧ MkFr mb gh gr vN vB vN' vB' w w' := by
  have H := hid h
  have OK := hid ok
  have c5 := h.c5
  have c6 := h.c6
  have c7 := h.c7
  obtain ⟨C, hC⟩ : ∃ C, Dg.chain M b lo hi = C := ⟨_, rfl⟩
  have hCM : C < M := by rw [← hC]; exact Nat.mod_lt _ hM0
  have hCI : ((b : Int) + lo * 7919 + hi * 104729) % (M : Int) = (C : Int) := by rw [← hC]; unfold Dg.chain; simp only [Int.natCast_emod, Int.natCast_add, Int.natCast_mul]; rfl
  have hd := h.heads.cell hCM
  have hhC := ok.heads C
  obtain ⟨gN, cN, hvN, _, hgN⟩ := h.nodes.form (by have := ok.two; omega)
  subst hvN
  obtain ⟨gB, cB, hvB, _, hgB⟩ := h.behind.form (by have := ok.two; have := ok.len; omega)
  subst hvB
  have hneI : ((lo : Int) == (hi : Int)) = false := by simp; omega
  have hM0I : ((M : Int) == 0) = false := by simp; omega
  have hMI : (M : Int) ≤ 4096 := by omega
  have hbI : (b : Int) < 12 := by omega
  have hloI : (lo : Int) ≤ 400000 := by omega
  have hhiI : (hi : Int) ≤ 400000 := by omega
  clear h ok
  go_enter Tryz.func77, Tryz.ntmps77
  go_wp2_with fail
  rw [hCI]
  clear hCI
  obtain ⟨R, hR⟩ : ∃ R, Dg.found M s b lo hi = R := ⟨_, rfl⟩
  have HRW := hid hR
  have HCE := hid hC
  have HHC := hid hhC
  have h0L : 0 < s.nodes.length := by have := OK.out.two; omega
  have hLk : Dg.look s.nodes s.behind b lo hi s.nodes.length (s.heads C) = R := by rw [← hR, ← hC]; rfl
  have HLK := hid hLk
  clear hR hC hLk hhC
  go_loopw [10] (fun v wr => ∃ m f : Nat, v = .int .i64 m ∧ m < s.nodes.length ∧ m ≤ f ∧ Dg.look s.nodes s.behind b lo hi f m = R ∧ wr = w) (fun v _ => (intOf v).toNat)
  case atStart => exact ⟨s.heads C, s.nodes.length, rfl, HHC.out, Nat.le_of_lt HHC.out, HLK.out, rfl⟩
  case round =>
    obtain ⟨m, f, rfl, hm, hmf, hlk, hw⟩ := hrel
    have hw2 := hw.symm
    clear hw
    subst hw2
    have hmI : (m : Int) ≤ 400000 := by omega
    by_cases hm0 : m = 0
    · subst hm0
      have hR0 : R = 0 := by rw [← hlk]; cases f <;> simp [Dg.look]
      have HNO := hid (show Dg.nodeOf sec M s b lo hi = (s.nodes.length, Dg.push sec M s b lo hi) by
        unfold Dg.nodeOf
        rw [if_neg hne, if_neg (by rw [HRW.out, hR0]; simp)])
      have s0 : w.cell? ⟨mb, 0, none⟩ = some (pv 0) := H.out.row.cell (i := 0) (by omega)
      obtain ⟨gS, cS, hvS, _, hgS⟩ := hs.form (by omega)
      have HVS := hid hvS
      rw [hvS] at s0 hs
      have hb3 : b / 4 < sec.length := by omega
      have sc := (H.out.bel.cell (p := ⟨gS, b / 4, none⟩) hgS).trans (bl_at hs (b / 4) hb3)
      have l3 : w.cell? ⟨gN, lo * 4 + 3, none⟩ = some (.bool (Dg.ndAt s.nodes lo).sec) := H.out.ndc lo hlo 3 (by omega)
      have h3 : w.cell? ⟨gN, hi * 4 + 3, none⟩ = some (.bool (Dg.ndAt s.nodes hi).sec) := H.out.ndc hi hhi 3 (by omega)
      obtain ⟨X, hX⟩ : ∃ X, (sec.getD (b / 4) false || (Dg.ndAt s.nodes lo).sec || (Dg.ndAt s.nodes hi).sec) = X := ⟨_, rfl⟩
      have HND := hid (show Dg.newNd sec s b lo hi = ⟨b, lo, hi, X⟩ by unfold Dg.newNd; rw [hX])
      obtain ⟨B1, e1⟩ : ∃ B, sec.getD (b / 4) false = B := ⟨_, rfl⟩
      obtain ⟨B2, e2⟩ : ∃ B, (Dg.ndAt s.nodes lo).sec = B := ⟨_, rfl⟩
      obtain ⟨B3, e3⟩ : ∃ B, (Dg.ndAt s.nodes hi).sec = B := ⟨_, rfl⟩
      rw [e1, e2, e3] at hX
      rw [e1] at sc
      rw [e2] at l3
      rw [e3] at h3
      have hb3I : (b : Int) / 4 < (sec.length : Int) := by omega
      have hloL : (lo : Int) < (s.nodes.length : Int) := by omega
      have hhiL : (hi : Int) < (s.nodes.length : Int) := by omega
      have hLI : (s.nodes.length : Int) ≤ 400000 := by omega
      have hBL := OK.out.len
      have hBI : (s.behind.length : Int) ≤ 400000 := by omega
      have hBn : s.behind.length ≤ 400000 := by omega
      have HBL := hid hBL
      have hCI2 : (C : Int) < (M : Int) := by omega
      obtain ⟨t0, ht0, hz0, hz1, hz2⟩ := info_parts Tryz.infoNode
      obtain ⟨u0, hu0, y0, y1, y2⟩ := info_parts Tryz.infoInt
      have zb := H.out.bel.size
      have hNf := H.out.nodes
      have HNf := hid hNf
      clear hR0 hlk hm hmf hmI e1 e2 e3 hBL hNf hs hvS hn hb3 hM0I hneI hne
      have HX := hid hX
      clear hX
      go_upto_region 9 with fail
      go_cut [11] (fun v wc => v = .bool X ∧ wc = w)
      case first =>
        cases B1
        · cases B2
          · cases B3
            · go_wp2_with fail
              go_meet
              exact ⟨by rw [← HX.out]; rfl, rfl⟩
            · go_wp2_with fail
              go_meet
              exact ⟨by rw [← HX.out]; rfl, rfl⟩
          · go_wp2_with fail
            go_meet
            exact ⟨by rw [← HX.out]; rfl, rfl⟩
        · go_wp2_with fail
          go_meet
          exact ⟨by rw [← HX.out]; rfl, rfl⟩
      case rest =>
        obtain ⟨rfl, hwc⟩ := hcut
        have hwd := hwc.symm
        clear hwc
        subst hwd
        clear sc l3 h3 HX
        go_wp2_with (at_builtin; refine wpList_append_lies _ rfl _ _ 52 rfl w0.heap.size 160 t0 _ 4 32 Tryz.underlying52 ht0 hz0 hz1 hz2 rfl (by omega) _ s.nodes.length (s.nodes.flatMap Dg.Nd.cells) rfl (HNf.out.alloc _) ⟨w.heap.size, 0, none⟩ 1 1 [.int .i64 b, .int .i64 lo, .int .i64 hi, .bool X] rfl rfl (World.news_of_block (cs := #[.int .i64 b, .int .i64 lo, .int .i64 hi, .bool X]) (t := 160) (fr := (0, 0)) (heap_alloc_new w _)) (by simp [Value.oneCell']) (by omega) (by unfold maxLen; omega) (by omega) (by simp; omega) (w.heap.size + 1) (by simp) ?_; intro g4 cap4 w4 hown4 hgrow4 hat4 hlt4; have r4 := H.out.rowN hgrow4; have q4 := r4.cell (i := 5) (by omega); have qf4 := r4.frozen 5; have q46 := r4.cell (i := 6) (by omega); have q47 := r4.cell (i := 7) (by omega); have q4d := (H.out.headsN hgrow4).cell hCM; have HO4 := hid hown4; have HG4 := hid hgrow4; have HA4 := hid hat4; clear hown4 hgrow4 hat4 r4; refine Hid.out ?_)
        refine hid ?_
        rw [show ∀ a c d e, mkc pv a c d e 5 = a from fun _ _ _ _ => rfl] at q4
        rw [show ∀ a c d e, mkc pv a c d e 6 = c from fun _ _ _ _ => rfl] at q46
        rw [show ∀ a c d e, mkc pv a c d e 7 = d from fun _ _ _ _ => rfl] at q47
        have hmg : mb ≠ gh := row_ne H.out.row H.out.heads (by decide)
        have hgm : gh ≠ mb := fun e => hmg e.symm
        have A4 := H.out.growN (.cells #[.int .i64 b, .int .i64 lo, .int .i64 hi, .bool X] 160) ⟨b, lo, hi, X⟩ HO4.out HG4.out
        have R4 := (MkFr.refl mb gh gr (sl gN s.nodes.length cN) (sl gB s.behind.length cB) w).growN (n' := s.nodes.length + 1) (cap' := cap4) (.cells #[.int .i64 b, .int .i64 lo, .int .i64 hi, .bool X] 160) HG4.out HA4.out
        have k5 := A4.c5
        have k6 := A4.c6
        have k7 := A4.c7
        have kd := A4.heads.cell hCM
        have kf5 := A4.row.frozen 7
        have k6a := fun o => (A4.alloc o).c6
        have k7a := fun o => (A4.alloc o).c7
        have kda := fun o => (A4.alloc o).heads.cell hCM
        have HA := hid A4
        have HR := hid R4
        have z4 := A4.bel.size
        have lm := A4.row.lt
        clear A4 R4 c5 c6 c7 hd HG4 HO4 HA4
        have zb4 : w0.heap.size ≤ w4.heap.size := by simpa using z4
        clear z4
        go_wp2_with fail
        go_cut [] (fun wc => ∃ g5 cap5 : Nat, MkAt w0 mb gh gr M { s with nodes := s.nodes ++ [⟨b, lo, hi, X⟩], behind := s.behind ++ [s.heads C] } r pv (sl g4 (s.nodes.length + 1) cap4) (sl g5 (s.behind.length + 1) cap5) wc ∧ MkFr mb gh gr (sl gN s.nodes.length cN) (sl gB s.behind.length cB) (sl g4 (s.nodes.length + 1) cap4) (sl g5 (s.behind.length + 1) cap5) w wc)
        case first =>
          go_region_law
            ((refine step_append_lies _ (by rfl) _ _ _ (by rfl) w0.heap.size 3 u0 _ 1 8 Tryz.underlying24 hu0 y0 y1 y2 rfl (by omega) _ s.behind.length (s.behind.map fun (n : Nat) => .int .i64 n) (by rfl) ((HA.out.behind.alloc _).drew) ⟨w4.heap.size, 0, none⟩ 1 1 [.int .i64 (s.heads C : Nat)] (by rfl) (by rfl) (by have h := cell_one_new (w4.setCell ⟨mb, 5, none⟩ (sl g4 (s.nodes.length + 1) cap4)) (.int .i64 (s.heads C : Nat)) 3; simpa using h) (by simp [Value.oneCell']) (by omega) (by unfold maxLen; omega) (by omega) (by simp; omega) (w4.heap.size + 1) (by simp) ?_; intro g5 cap5 w5 hown5 hgrow5 hat5 hlt5; have r5 := HA.out.drew.rowB hgrow5; have q5 := r5.cell (i := 7) (by omega); have qf5 := r5.frozen 7; clear r5))
          all_goals
            go_wp2_with fail
            go_meet
            exact ⟨_, _, HA.out.drew.growB _ (s.heads C) hown5 hgrow5 (by simpa using hat5), HR.out.drew.growB _ hgrow5 (by simpa using hat5)⟩
        case rest =>
          obtain ⟨g5, cap5, A5, R5⟩ := hcut
          have A6 := A5.setHead C s.nodes.length
          have R6 := R5.setHead C (.int .i64 s.nodes.length)
          have k5' := A5.c5
          have k6' := A5.c6
          have kd' := A5.heads.cell hCM
          have kf6 := A5.heads.frozen C
          have k5'' := A6.c5
          have HA6 := hid A6
          have HR6 := hid R6
          clear A5 R5 A6 R6 k5 k6 k7 kd q4 q46 q47 q4d HA HR
          go_wp2_with fail
          go_region
          all_goals go_wp2_with fail
          go_ret
          rw [HNO.out]
          refine ⟨rfl, _, _, ?_, HR6.out.drew⟩
          have e : Dg.push sec M s b lo hi = { nodes := s.nodes ++ [⟨b, lo, hi, X⟩], heads := fun i => if i = C then s.nodes.length else s.heads i, behind := s.behind ++ [s.heads C] } := by
            unfold Dg.push
            rw [HND.out, HCE.out]
          rw [e]
          exact HA6.out.drew
    · obtain ⟨f, rfl⟩ : ∃ f', f = f' + 1 := ⟨f - 1, by omega⟩
      unfold Dg.look at hlk
      rw [if_neg hm0] at hlk
      have hmB : m < s.behind.length := by have := OK.out.len; omega
      have hdec := OK.out.dec m (by omega) hm
      have n0 := H.out.ndc m hm 0 (by omega)
      have n1 := H.out.ndc m hm 1 (by omega)
      have n2 := H.out.ndc m hm 2 (by omega)
      have b0 := H.out.bhc m hmB
      rw [Nat.add_zero] at n0
      generalize Dg.ndAt s.nodes m = d at n0 n1 n2 hlk
      replace n0 : w.cell? ⟨gN, m * 4, none⟩ = some (.int .i64 d.bit) := n0
      replace n1 : w.cell? ⟨gN, m * 4 + 1, none⟩ = some (.int .i64 d.lo) := n1
      replace n2 : w.cell? ⟨gN, m * 4 + 2, none⟩ = some (.int .i64 d.hi) := n2
      generalize s.behind.getD m 0 = q at b0 hdec hlk
      have hm0I : ((m : Int) != 0) = true := by simp; omega
      have hmL : (m : Int) < (s.nodes.length : Int) := by omega
      have hmB' : (m : Int) < (s.behind.length : Int) := by omega
      by_cases e0 : d.bit = b
      · have e0I : ((d.bit : Int) == (b : Int)) = true := by simp; omega
        by_cases e1 : d.lo = lo
        · have e1I : ((d.lo : Int) == (lo : Int)) = true := by simp; omega
          by_cases e2 : d.hi = hi
          · have e2I : ((d.hi : Int) == (hi : Int)) = true := by simp; omega
            rw [if_pos ⟨e0, e1, e2⟩] at hlk
            have HK := hid hlk
            clear hlk e0 e1 e2
            have HNO := hid (show Dg.nodeOf sec M s b lo hi = (m, s) by
              unfold Dg.nodeOf
              rw [if_neg hne, if_pos (by rw [HRW.out, ← HK.out]; exact hm0), HRW.out, HK.out])
            clear hne
            go_wp2_with fail
            go_ret
            rw [HNO.out]
            exact ⟨rfl, _, _, H.out, MkFr.refl _ _ _ _ _ _⟩
          · have e2I : ((d.hi : Int) == (hi : Int)) = false := by simp; omega
            rw [if_neg (fun c => e2 c.2.2)] at hlk
            have HK := hid hlk
            clear hlk e0 e1 e2 hne hn
            go_wp2_with fail
            go_roundw
            case rel => exact ⟨q, f, by go_num, by omega, by omega, HK.out, trivial⟩
            case measure => simp [intOf]; omega
        · have e1I : ((d.lo : Int) == (lo : Int)) = false := by simp; omega
          rw [if_neg (fun c => e1 c.2.1)] at hlk
          have HK := hid hlk
          clear hlk e0 e1 hne hn
          go_wp2_with fail
          go_roundw
          case rel => exact ⟨q, f, by go_num, by omega, by omega, HK.out, trivial⟩
          case measure => simp [intOf]; omega
      · have e0I : ((d.bit : Int) == (b : Int)) = false := by simp; omega
        rw [if_neg (fun c => e0 c.1)] at hlk
        have HK := hid hlk
        clear hlk e0 hne hn
        go_wp2_with fail
        go_roundw
        case rel => exact ⟨q, f, by go_num, by omega, by omega, HK.out, trivial⟩
        case measure => simp [intOf]; omega
theorem node_any (h : MkAt w0 mb gh gr M s r pv vN vB w) (ok : Dg.Ok n M s) (hM0 : 0 < M) (hM : M ≤ 4096) (sec : List Bool) (hn : n = sec.length) (hn3 : n ≤ 3) (hs : w0.ownsRow 0 4 1 (pv 0) sec.length (sec.map Value.bool)) (hN : s.nodes.length ≤ 400000) (b lo hi : Nat) (hb : b < 4 * n) (hlo : lo < s.nodes.length) (hhi : hi < s.nodes.length) :
    Calls Tryz.prog 77 #[.pointer (some ⟨mb, 0, none⟩), .int .i64 b, .int .i64 lo, .int .i64 hi] w fun e w' => e = .returned (.int .i64 (Dg.nodeOf sec M s b lo hi).1) ∧ ∃ vN' vB', MkAt w0 mb gh gr M (Dg.nodeOf sec M s b lo hi).2 r pv vN' vB' w' ∧ MkFr mb gh gr vN vB vN' vB' w w' := by
  by_cases e : lo = hi
  · subst e
    refine (node_same h b lo).mono ?_
    rintro e w' ⟨rfl, rfl⟩
    have e2 : Dg.nodeOf sec M s b lo lo = (lo, s) := if_pos rfl
    rw [e2]
    exact ⟨rfl, _, _, h, MkFr.refl _ _ _ _ _ _⟩
  · exact node_diff h ok hM0 hM sec hn hn3 hs hN b lo hi hb hlo hhi e
end
set_option maxRecDepth 100000 in
set_option maxHeartbeats 2000000 in
theorem fold_any {w0 w : World} {mb gh gr M n : Nat} {s : Dg.St} {r : Nat → Nat} {pv : Nat → Value} {vN vB : Value} (h : MkAt w0 mb gh gr M s r pv vN vB w) (ok : Dg.Ok n M s) (hr : ∀ j, r j < s.nodes.length) (hM : M ≤ 4096) (sec : List Bool) (hn : n = sec.length) (hn3 : n ≤ 3) (hs : w0.ownsRow 0 4 1 (pv 0) sec.length (sec.map Value.bool)) (hN : s.nodes.length + M ≤ 400000)
    (bits : List Nat) (hb : w0.ownsRow 0 3 1 (pv 4) bits.length (bits.map fun (n : Nat) => .int .i64 n)) (hMb : M = 2 ^ bits.length) (hl : bits.length ≤ 12) (hb4 : ∀ i, i < bits.length → bits.getD i 0 < 4 * n) :
    Calls Tryz.prog 40 #[.pointer (some ⟨mb, 0, none⟩)] w fun e w' => e = .returned (.int .i64 ((Dg.levs sec M bits s r M bits.length).2 0)) ∧ ∃ vN' vB', MkAt w0 mb gh gr M (Dg.levs sec M bits s r M bits.length).1 (Dg.levs sec M bits s r M bits.length).2 pv vN' vB' w' ∧ MkFr mb gh gr vN vB vN' vB' w w' := by
  have H := hid h
  have OK := hid ok
  have HS := hid hs
  have HB := hid hb
  have HR := hid hr
  have c8 := h.c8
  have c4 : w.cell? ⟨mb, 4, none⟩ = some (pv 4) := h.row.cell (i := 4) (by omega)
  obtain ⟨ab, cb, eb⟩ := body_val hb
  rw [eb] at c4
  have HMB := hid hMb
  have hMp : 0 < M := by rw [hMb]; exact Nat.pos_of_ne_zero (by simp)
  have hMI : (M : Int) ≤ 4096 := by omega
  have hlI : (bits.length : Int) ≤ 12 := by omega
  clear h ok hs hb hr hMb
  go_enter Tryz.func40, Tryz.ntmps40
  go_wp2_with fail
  go_loopw [3, 18] (fun rv cv wr => ∃ (L : Nat) (vN' vB' : Value), L ≤ bits.length ∧ rv = .int .i64 ((M / 2 ^ L : Nat) : Int) ∧ cv = .int .i64 L ∧ MkAt w0 mb gh gr M (Dg.levs sec M bits s r M L).1 (Dg.levs sec M bits s r M L).2 pv vN' vB' wr ∧ MkFr mb gh gr vN vB vN' vB' w wr) (fun _ cv _ => bits.length - (intOf cv).toNat)
  case atStart => exact ⟨0, vN, vB, Nat.zero_le _, by simp, rfl, H.out, MkFr.refl _ _ _ _ _ _⟩
  case round =>
    obtain ⟨L, vN1, vB1, hL, rfl, rfl, hat, hfr⟩ := hrel
    obtain ⟨wo, rfl⟩ : ∃ wo : World, wo = wr := ⟨wr, rfl⟩
    obtain ⟨ok1, hr1, _, hN1⟩ := Dg.levs_ok (rest := M) sec bits OK.out HR.out hb4 L hL
    have hq0 : M / 2 ^ L ≤ M := Nat.div_le_self _ _
    by_cases hlt : L < bits.length
    · have HSC := hid (show Dg.levs sec M bits s r M (L + 1) = Dg.levN sec M (bits.getD L 0) (Dg.levs sec M bits s r M L).1 (Dg.levs sec M bits s r M L).2 (M / 2 ^ (L + 1)) from rfl)
      have hh := Dg.half M L
      have hpw : M / 2 ^ L / 2 = M / 2 ^ (L + 1) := by rw [Nat.pow_succ, Nat.div_div_eq_div_mul]
      generalize (Dg.levs sec M bits s r M L).1 = s1 at hat ok1 hr1 hN1 HSC
      generalize (Dg.levs sec M bits s r M L).2 = r1 at hat hr1 HSC
      obtain ⟨gb, cb', hvb, _, hgb⟩ := HB.out.form (by omega)
      have hpv := HB.out
      rw [hvb] at hpv eb
      cases eb
      have bc := (hat.bel.cell (p := ⟨gb, L, none⟩) hgb).trans (nums_at hpv L hlt)
      have hb1 := hb4 L hlt
      generalize bits.getD L 0 = b at bc hb1 HSC
      generalize M / 2 ^ L = q at hq0 hN1 hh hpw
      obtain ⟨q2, hpw0⟩ : ∃ q2, M / 2 ^ (L + 1) = q2 := ⟨_, rfl⟩
      rw [hpw0] at hh HSC hpw
      have HPW := hid (show M / 2 ^ (L + 1) = q / 2 by rw [hpw0, hpw])
      subst hpw
      have hqI : (q : Int) ≤ 4096 := by omega
      have hLI : (L : Int) ≤ 12 := by omega
      have hLB : (L : Int) < (bits.length : Int) := by omega
      have hbI : (b : Int) ≤ 12 := by omega
      have HAT := hid hat
      have HFR := hid hfr
      have OK1 := hid ok1
      have HR1 := hid hr1
      have c8 := hat.c8
      clear hat hfr ok1 hr1 hpv
      go_wp2_with fail
      go_loopw [6] (fun iv wr => ∃ (i : Nat) (vN2 vB2 : Value), i ≤ q / 2 ∧ iv = .int .i64 i ∧ MkAt w0 mb gh gr M (Dg.levN sec M b s1 r1 i).1 (Dg.levN sec M b s1 r1 i).2 pv vN2 vB2 wr ∧ MkFr mb gh gr vN1 vB1 vN2 vB2 wo wr) (fun iv _ => q / 2 - (intOf iv).toNat)
      case atStart => exact ⟨0, vN1, vB1, Nat.zero_le _, rfl, HAT.out, MkFr.refl _ _ _ _ _ _⟩
      case round =>
        obtain ⟨i, vN2, vB2, hi, rfl, hat, hfr⟩ := hrel
        obtain ⟨ok2, hr2, _, hN2⟩ := Dg.levN_ok sec OK1.out HR1.out hb1 i
        have hiI : (i : Int) ≤ 4096 := by omega
        by_cases hlt2 : i < q / 2
        · have HSC2 := hid (show Dg.levN sec M b s1 r1 (i + 1) = ((Dg.nodeOf sec M (Dg.levN sec M b s1 r1 i).1 b ((Dg.levN sec M b s1 r1 i).2 (2 * i)) ((Dg.levN sec M b s1 r1 i).2 (2 * i + 1))).2, fun j => if j = i then (Dg.nodeOf sec M (Dg.levN sec M b s1 r1 i).1 b ((Dg.levN sec M b s1 r1 i).2 (2 * i)) ((Dg.levN sec M b s1 r1 i).2 (2 * i + 1))).1 else (Dg.levN sec M b s1 r1 i).2 j) from rfl)
          generalize (Dg.levN sec M b s1 r1 i).1 = s2 at hat ok2 hr2 hN2 HSC2
          generalize (Dg.levN sec M b s1 r1 i).2 = r2 at hat hr2 HSC2
          obtain ⟨t, ht⟩ : ∃ t, 2 * i = t := ⟨_, rfl⟩
          rw [ht] at HSC2
          have h2i : 2 * (i : Int) = (t : Int) := by omega
          have x0 := hat.rows.cell (i := t) (by omega)
          have x1 := hat.rows.cell (i := t + 1) (by omega)
          have l0 := hr2 t
          have l1 := hr2 (t + 1)
          generalize r2 t = lo at x0 l0 HSC2
          generalize r2 (t + 1) = hi' at x1 l1 HSC2
          have d8 := hat.c8
          have HAT2 := hid hat
          have HFR2 := hid hfr
          have HS2 := hid ok2
          have hM2I : (t : Int) + 1 < (M : Int) := by omega
          have hM3I : (t : Int) < (M : Int) := by omega
          have htI : (t : Int) ≤ 4096 := by omega
          have hti : i < M := by omega
          have hwt : IntKind.i64.wrap (t : Int) = (t : Int) := by rw [IntKind.wrap_i64]; omega
          have hwt1 : IntKind.i64.wrap ((t : Int) + 1) = (t : Int) + 1 := by rw [IntKind.wrap_i64]; omega
          clear ht
          have hM4I : (i : Int) < (M : Int) := by omega
          have hq2I : (i : Int) < (q : Int) / 2 := by omega
          have HC := hid (node_any HAT2.out.drew HS2.out hMp hM sec hn hn3 HS.out (by omega) b lo hi' hb1 l0 l1)
          clear hat hfr ok2 hr2
          obtain ⟨y, hy⟩ : ∃ y, Dg.nodeOf sec M s2 b lo hi' = y := ⟨_, rfl⟩
          rw [hy] at HC HSC2
          clear hy
          go_wp2_with fail
          go_cut [7] (fun v wc => v = .int .i64 (y.1 : Nat) ∧ ∃ vN3 vB3 : Value, MkAt w0 mb gh gr M y.2 r2 pv vN3 vB3 wc ∧ MkFr mb gh gr vN1 vB1 vN3 vB3 wo wc)
          case first =>
            go_region_with (go_at_call 77; refine HC.out.mono ?_; rintro e w3 ⟨rfl, vN3, vB3, h3, f3⟩; have H3 := hid h3; have F3 := hid (HFR2.out.drew.trans f3); clear h3 f3)
            all_goals
              go_wp2_with fail
              go_meet
              exact ⟨rfl, _, _, H3.out, F3.out⟩
          case rest =>
            obtain ⟨rfl, vN3, vB3, h3, f3⟩ := hcut
            have e8 := h3.c8
            have er := h3.rows.cell (i := i) hti
            have ef := h3.rows.frozen i
            have H3 := hid h3
            have F3 := hid f3
            clear h3 f3
            clear h2i hwt hwt1
            go_wp2_with fail
            go_roundw
            case rel =>
              refine ⟨i + 1, vN3, vB3, by omega, by go_num, ?_, (F3.out.setRow i _)⟩
              rw [HSC2.out]
              exact (H3.out.setRow i y.1)
            case measure => simp [intOf]; omega
        · have hie : q / 2 = i := by omega
          have hq2I : ¬ (i : Int) < (q : Int) / 2 := by omega
          have HAT2 := hid hat
          have HFR2 := hid hfr
          have HIE := hid hie
          clear hat hfr hie
          go_wp2_with fail
          go_roundw
          case rel =>
            refine ⟨L + 1, vN2, vB2, by omega, ?_, by go_num, ?_, HFR.out.trans HFR2.out⟩
            · rw [HPW.out]
              go_num
            · rw [HSC.out, HIE.out]
              exact HAT2.out
          case measure => simp [intOf]; omega
    · have hLe : bits.length = L := by omega
      have x0 := hat.rows.cell (i := 0) (by omega)
      have d8 := hat.c8
      have HAT := hid hat
      have HFR := hid hfr
      have HLE := hid hLe
      have hq1 : M / 2 ^ L = 1 := by rw [← hLe, ← HMB.out]; exact Nat.div_self hMp
      rw [hq1]
      clear hat hfr hLe
      have hMp' : (0 : Int) < (M : Int) := by omega
      go_wp2_with fail
      go_ret
      rw [HLE.out]
      exact ⟨rfl, _, _, HAT.out, HFR.out⟩
def wi (n m : Int) : Bool := decide (0 ≤ n ∧ n ≤ m)
theorem wi_true {n m : Int} (h : wi n m = true) : 0 ≤ n ∧ n ≤ m := by simpa [wi] using h
theorem wi_false {n m : Int} (h : wi n m = false) : ¬ (0 ≤ n ∧ n ≤ m) := by simpa [wi] using h
set_option maxHeartbeats 400000 in
theorem within_any (n m : Int) (w : World) :
    Calls Tryz.prog 16 #[.int .i64 n, .int .i64 m] w fun e w' => e = .returned (.bool (wi n m)) ∧ w' = w := by
  by_cases h0 : 0 ≤ n
  · go_enter Tryz.func16, Tryz.ntmps16
    go_wp2
    go_ret
    exact ⟨ret_bool (by simp [wi, h0]), rfl⟩
  · have h1 : n < 0 := by omega
    go_enter Tryz.func16, Tryz.ntmps16
    go_wp2
    go_ret
    exact ⟨ret_bool (by unfold wi; rw [decide_eq_false (by omega)]), rfl⟩
theorem newAt2 (w : World) (o : Obj) (cs : Array Value) (t : TypeId) (i : Nat) (u : Value) (h : cs[i]? = some u) : ((w.alloc o).alloc (.cells cs t)).cell? ⟨w.heap.size + 1, i, none⟩ = some u := by
  have := newAt (w.alloc o) cs t i u h
  simpa using this
end Go.Proofs.YtgddmpmcnjlcjabGreatDoor
