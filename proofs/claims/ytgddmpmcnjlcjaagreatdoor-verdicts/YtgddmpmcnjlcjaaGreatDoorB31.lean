import Derived.Test.YtgddmpmcnjlcjaaGreatDoorB30
import Derived.Test.YtgddmpmcnjlcjaaGreatDoorB12
import Derived.Deep.RegionLaw
import Derived.Deep.DeepCutAuto
import Derived.Test.YtgddmpmcnjlcjaaGreatDoorB26
namespace Go.Proofs.YtgddmpmcnjlcjaaGreatDoor
open Go.RowKit
set_option linter.unusedVariables false
section
variable (R P gn cn : Nat) (ns : List ByteArray) (w : World) (c0 : w.cell? ⟨R, 0, none⟩ = some (.pointer (some ⟨P, 0, none⟩))) (n0 : w.cell? ⟨P, 0, none⟩ = some (.slice (some ⟨gn, 0, none⟩) ns.length cn)) (hn : Wds w gn ns) (hl : ns.length ≤ 1000)
include c0 n0 hn hl
set_option maxRecDepth 100000 in
set_option maxHeartbeats 1000000 in
theorem rindex_any (s : ByteArray) (i : Nat) (hi : Rf.oneOf s.toList (ns.map ByteArray.toList) = some i) :
    Calls Tryz.prog 91 #[.pointer (some ⟨R, 0, none⟩), .string s] w fun e w' => e = .returned (.int .i64 i) ∧ w' = w := by
  have HN := hid hn
  have HI := hid hi
  clear hn hi
  go_enter Tryz.func91, Tryz.ntmps91
  go_wp2_with (first | (go_at_call 59; refine (oneOf_pos ns gn cn s _ HN.out hl).mono ?_; rintro e w0 ⟨he, hw0⟩; rw [HI.out] at he; subst he; have hw1 := hw0.symm; subst hw1))
  go_ret
  exact ⟨rfl, rfl⟩
set_option maxRecDepth 100000 in
set_option maxHeartbeats 1000000 in
theorem rvalue_name (s : ByteArray) (i : Nat) (hi : Rf.oneOf s.toList (ns.map ByteArray.toList) = some i) (hs : s.size = 1) (h97 : 97 ≤ s[0].toNat) (gv cv nv x : Nat) (v0 : w.cell? ⟨R, 1, none⟩ = some (.slice (some ⟨gv, 0, none⟩) nv cv)) (hin : i < nv) (hx : w.cell? ⟨gv, i, none⟩ = some (.int .i64 x)) :
    Calls Tryz.prog 88 #[.pointer (some ⟨R, 0, none⟩), .string s] w fun e w' => e = .returned (.int .i64 x) ∧ ∃ m, w' = w.drewN m := by
  have HX : Hid (∀ m : Nat, Calls Tryz.prog 91 #[.pointer (some ⟨R, 0, none⟩), .string s] (w.drewN m) fun e w' => e = .returned (.int .i64 i) ∧ w' = w.drewN m) := fun m => rindex_any R P gn cn ns (w.drewN m) (by simpa using c0) (by simpa using n0) (fun j hj => by simpa using hn j hj) hl s i hi
  have h9 : ¬ ((s[0].toNat : Int) ≤ 57) := by omega
  have hsI : (0 : Int) < (s.size : Int) := by omega
  clear hn hi
  go_enter Tryz.func88, Tryz.ntmps88
  go_wp2_with fail
  go_quiet (first | (go_at_call 91; exact Calls.quiet_of_same (HX.out _)))
  go_wp2_with fail
  go_ret
  exact ⟨rfl, _, rfl⟩
end
def valK (l : List UInt8) : Nat → Nat
  | 0 => 0
  | i + 1 => 10 * valK l i + ((l.getD i 0).toNat - 48)
theorem num_digits {l : List UInt8} {n : Nat} (h : Lk.num? l = some n) : 1 ≤ l.length ∧ l.length ≤ 2 ∧ valK l l.length = n ∧ (∀ i, i < l.length → 48 ≤ (l.getD i 0).toNat ∧ (l.getD i 0).toNat ≤ 57) ∧ valK l 1 ≤ 9 := by
  unfold Lk.num? at h
  split at h
  · rename_i c
    split at h
    · rename_i hc
      cases h
      refine ⟨Nat.le_refl _, by simp, by simp [valK], fun i hi => ?_, by simp [valK]; omega⟩
      have : i = 0 := by simp at hi; omega
      subst this
      exact hc
    · cases h
  · rename_i a b
    split at h
    · rename_i hc
      cases h
      refine ⟨by simp, Nat.le_refl _, ?_, fun i hi => ?_, ?_⟩
      · simp [valK]; omega
      · obtain rfl | rfl : i = 0 ∨ i = 1 := by simp at hi; omega
        · exact ⟨by show 48 ≤ a.toNat; omega, by show a.toNat ≤ 57; omega⟩
        · exact ⟨by show 48 ≤ b.toNat; omega, by show b.toNat ≤ 57; omega⟩
      · simp [valK]; omega
    · cases h
  · cases h
set_option maxRecDepth 100000 in
set_option maxHeartbeats 1000000 in
theorem rvalue_num (R : Nat) (s : ByteArray) (n : Nat) (h : Lk.num? s.toList = some n) (w : World) :
    Calls Tryz.prog 88 #[.pointer (some ⟨R, 0, none⟩), .string s] w fun e w' => e = .returned (.int .i64 n) ∧ w' = w := by
  obtain ⟨h1, h2, h3, h4, h5⟩ := num_digits h
  rw [tl_len] at h1 h2 h3 h4
  have hb0 := h4 0 (by omega)
  have hg : ∀ i (hi : i < s.size), (s.toList.getD i 0) = s[i] := fun i hi => by rw [List.getD_eq_getElem?_getD, tl_get s i hi]; rfl
  rw [hg 0 (by omega)] at hb0
  have hbI : (s[0].toNat : Int) ≤ 57 := by omega
  have HD := hid (fun i (hi : i < s.size) => (show 48 ≤ s[i].toNat ∧ s[i].toNat ≤ 57 by have := h4 i hi; rw [hg i hi] at this; exact this))
  have HS := hid (fun i (hi : i < s.size) => (show valK s.toList (i + 1) = 10 * valK s.toList i + (s[i].toNat - 48) by show 10 * valK s.toList i + ((s.toList.getD i 0).toNat - 48) = _; rw [hg i hi]))
  have HE := hid h3
  clear h4 hg h3 h
  go_enter Tryz.func88, Tryz.ntmps88
  go_wp2_with fail
  go_loopg [5, 6] s.size (fun gk nx ix wr => ∃ i vv : Nat, i + gk = s.size ∧ valK s.toList i = vv ∧ ((i = 0 → vv = 0) ∧ (i = 1 → vv ≤ 9) ∧ vv ≤ 99) ∧ ix = .int .i64 i ∧ nx = .int .i64 vv ∧ wr = w)
  case atStart => exact ⟨0, 0, by omega, rfl, ⟨fun _ => rfl, fun h => by omega, by omega⟩, rfl, rfl, rfl⟩
  case round =>
    obtain ⟨i, vv, hi, hv, hvb, rfl, rfl, hw⟩ := hrel
    have hw2 := hw.symm
    clear hw
    subst hw2
    by_cases hlt : i < s.size
    · obtain ⟨d1, d2⟩ := HD.out i hlt
      have hs := HS.out i hlt
      rw [hv] at hs
      have HN := hid hs
      have d1I : (48 : Int) ≤ (s[i].toNat : Int) := by omega
      have d2I : (s[i].toNat : Int) ≤ 57 := by omega
      have hvI : (vv : Int) ≤ 200 := by omega
      clear hs hv
      go_wp2_with fail
      go_roundg (gk - 1)
      case measure => omega
      case rel => exact ⟨i + 1, 10 * vv + (s[i].toNat - 48), by omega, HN.out, by omega, by go_num, by go_num, rfl⟩
    · have hie : i = s.size := by omega
      subst hie
      have hE : vv = n := by rw [← hv]; exact HE.out
      subst hE
      clear hv
      go_wp2_with fail
      go_ret
      exact ⟨rfl, rfl⟩
theorem Tryz.infoPlace : (Tryz.prog.info? 167).map (fun i => (i.zero, i.size, i.bytes)) = some (some (.agg #[.slice none 0 0, .int .i64 0]), 2, 32) := by kernel_rfl
def plc (st : List (Value × Nat)) : List Value := st.flatMap fun p => [p.1, .int .i64 p.2]
theorem plc_app (a b : List (Value × Nat)) : plc (a ++ b) = plc a ++ plc b := by unfold plc; rw [List.flatMap_append]
theorem plc_len (a : List (Value × Nat)) : (plc a).length = a.length * 2 := by
  induction a with
  | nil => rfl
  | cons x a ih =>
    show (x.1 :: .int .i64 x.2 :: plc a).length = _
    simp [ih]; omega
set_option maxRecDepth 100000 in
set_option maxHeartbeats 2000000 in
theorem enter_any (R base : Nat) (f : Nat → Value) (va : Value) (st : List (Value × Nat)) (al : Option Addr) (nl cl : Nat) (w : World) (hr : w.rowIs R 127 5 f) (h3 : f 3 = va) (ho : w.ownsRow base 167 2 va st.length (plc st)) (hne : va.ownBlock ≠ some R) (hst : st.length ≤ 1000) (hbs : base ≤ w.heap.size) :
    Calls Tryz.prog 52 #[.pointer (some ⟨R, 0, none⟩), .slice al nl cl] w fun e w' => e = .returned (.tuple #[]) ∧ ∃ va', w'.rowIs R 127 5 (fun j => if j = 3 then va' else f j) ∧ w'.ownsRow base 167 2 va' (st.length + 1) (plc (st ++ [(.slice al nl cl, 0)])) ∧ va'.ownBlock ≠ some R ∧ Frm 0 (fun k => k = R ∨ va.ownBlock = some k) w w' ∧ (∀ k, va'.ownBlock = some k → va.ownBlock = some k ∨ w.heap.size ≤ k) := by
  obtain ⟨t0, ht0, hz0, hz1, hz2⟩ := info_parts Tryz.infoPlace
  obtain ⟨aa, ca, e⟩ := body_val ho
  have c3 := hr.cell (i := 3) (by omega)
  rw [h3] at c3
  have hlt := hr.lt
  have f3 := hr.frozen 3
  subst e
  have HR := hid hr
  have HO := hid ho
  have HNE := hid hne
  clear hr ho hne h3
  go_enter Tryz.func52, Tryz.ntmps52
  go_wp2_with (first | (at_builtin; refine wpList_append_lies _ rfl _ _ 125 rfl base 167 t0 _ 2 32 Tryz.underlying125 ht0 hz0 hz1 hz2 rfl (by omega) _ st.length (plc st) rfl (HO.out.alloc _) ⟨w.heap.size, 0, none⟩ 1 1 [.slice al nl cl, .int .i64 0] (by simp [go_sem]) rfl (World.news_of_block (cs := #[.slice al nl cl, .int .i64 0]) (t := 167) (fr := (0, 0)) (heap_alloc_new w _)) (by simp [Value.oneCell']) (by omega) (by unfold maxLen; omega) (by omega) (by simp; omega) (w.heap.size + 1) (by simp) ?_; intro g2 cap2 w2 hown2 hgrow hat hltg; have HR2 := hid (rowIs_grown (HR.out.alloc _) hgrow HNE.out); have k3 := HR2.out.cell (i := 3) (by omega); have kf := HR2.out.frozen 3; have HO2 := hid hown2; have HG := hid hgrow; have HAT := hid hat; clear hown2 hgrow hat))
  go_end0
  have hg2 : g2 ≠ R := by
    rcases HAT.out with h | h
    · exact fun e => HNE.out (by rw [← e]; exact h)
    · omega
  refine ⟨rfl, .slice (some ⟨g2, 0, none⟩) (st.length + 1) cap2, HR2.out.set 3 _, ?_, by simp [Value.ownBlock]; exact hg2, ?_, ?_⟩
  · rw [plc_app]
    exact ownsRow_setCell HO2.out (by simp [Value.ownBlock]; exact hg2) _
  · exact Frm.setCell (p := ⟨R, 3, none⟩) (Frm.grown ((Frm.refl 0 (fun k => k = R ∨ (Value.slice aa st.length ca).ownBlock = some k) w).alloc (Nat.zero_le _) _) HG.out (Nat.zero_le _) (fun k e => ⟨Nat.zero_le _, .inr e⟩)) (Nat.zero_le _) (.inl rfl) _
  · intro k e
    have e : g2 = k := by simpa [Value.ownBlock] using e
    subst e
    rcases HAT.out with h | h
    · exact .inl h
    · exact .inr (by omega)
set_option maxRecDepth 100000 in
set_option maxHeartbeats 2000000 in
theorem passed_any (R g n ca i : Nat) (w : World) (c3 : w.cell? ⟨R, 3, none⟩ = some (.slice (some ⟨g, 0, none⟩) ((n + 1 : Nat)) ca)) (ci : w.cell? ⟨g, n * 2 + 1, none⟩ = some (.int .i64 i)) (cf : w.frozen? ⟨g, n * 2 + 1, none⟩ = false) (hn : n ≤ 1000) (hi : i ≤ 1000) :
    Calls Tryz.prog 87 #[.pointer (some ⟨R, 0, none⟩)] w fun e w' => e = .returned (.tuple #[]) ∧ w' = w.setCell ⟨g, n * 2 + 1, none⟩ (.int .i64 ((i + 1 : Nat) : Int)) := by
  have hnI : (n : Int) ≤ 1000 := by omega
  have hiI : (i : Int) ≤ 1000 := by omega
  go_enter Tryz.func87, Tryz.ntmps87
  go_wp2_with fail
  go_end0
  exact ⟨rfl, rfl⟩
structure Pl where
  al : Option Addr := none
  nl : Nat := 0
  cl : Nat := 0
  i : Nat := 0
def Pl.vp (p : Pl) : Value × Nat := (.slice p.al p.nl p.cl, p.i)
def popS (st : List Pl) : List Pl := (st.reverse.dropWhile fun p => decide (p.nl ≤ p.i)).reverse
theorem popS_go (a : List Pl) (p : Pl) (h : p.nl ≤ p.i) : popS (a ++ [p]) = popS a := by
  unfold popS
  rw [List.reverse_append, List.reverse_singleton, List.singleton_append, List.dropWhile_cons, if_pos (by simpa using h)]
theorem popS_stay (a : List Pl) (p : Pl) (h : ¬ p.nl ≤ p.i) : popS (a ++ [p]) = a ++ [p] := by
  unfold popS
  rw [List.reverse_append, List.reverse_singleton, List.singleton_append, List.dropWhile_cons, if_neg (by simpa using h)]
  simp
theorem plc_at (st : List Pl) (j : Nat) (h : j < st.length) : (plc (st.map Pl.vp))[j * 2]? = some (.slice st[j].al st[j].nl st[j].cl) ∧ (plc (st.map Pl.vp))[j * 2 + 1]? = some (.int .i64 st[j].i) := by
  induction st generalizing j with
  | nil => cases h
  | cons x st ih =>
    have e : plc ((x :: st).map Pl.vp) = .slice x.al x.nl x.cl :: .int .i64 x.i :: plc (st.map Pl.vp) := rfl
    rw [e]
    cases j with
    | zero => exact ⟨rfl, rfl⟩
    | succ j =>
      have := ih j (by simpa using h)
      rw [show (j + 1) * 2 = j * 2 + 1 + 1 by omega]
      exact this
set_option maxRecDepth 100000 in
set_option maxHeartbeats 2000000 in
theorem find_any' (R base g ca : Nat) (f : Nat → Value) (st : List Pl) (w : World) (hr : w.rowIs R 127 5 f) (h3 : f 3 = .slice (some ⟨g, 0, none⟩) st.length ca) (ho : w.ownsRow base 167 2 (.slice (some ⟨g, 0, none⟩) st.length ca) st.length (plc (st.map Pl.vp))) (hgR : g ≠ R) (hst : st.length ≤ 1000)
    (pt : Nat → Nat → Option Addr) (hpt : ∀ j (hj : j < st.length) t, t < st[j].nl → ∃ gl, st[j].al = some ⟨gl, 0, none⟩ ∧ gl ≠ R ∧ w.cell? ⟨gl, t, none⟩ = some (.pointer (pt gl t))) :
    Calls Tryz.prog 86 #[.pointer (some ⟨R, 0, none⟩)] w fun e w' => ∃ r, e = .returned (.pointer r) ∧ (popS st = [] → r = none) ∧ (∀ a p, popS st = a ++ [p] → ∃ gl, p.al = some ⟨gl, 0, none⟩ ∧ r = pt gl p.i) ∧ w'.rowIs R 127 5 (fun j => if j = 3 then .slice (some ⟨g, 0, none⟩) (popS st).length ca else f j) ∧ Frm 0 (fun k => k = R) w w' := by
  have HR := hid hr
  have HO := hid ho
  have HPT := hid hpt
  have hcap := ho
  have HC := hid (show st.length ≤ ca by
    rcases ho.2 with ⟨h1, _⟩ | ⟨g', cap, cur, hv, _, _, hc, _⟩
    · cases h1
    · cases hv; exact hc)
  have hcI : (st.length : Int) ≤ (ca : Int) := by have := HC.out; omega
  clear hr ho hpt hcap
  go_enter Tryz.func86, Tryz.ntmps86
  go_wp2_with fail
  go_loopg [] st.length (fun gk wr => gk ≤ st.length ∧ popS (st.take gk) = popS st ∧ wr.rowIs R 127 5 (fun j => if j = 3 then .slice (some ⟨g, 0, none⟩) gk ca else f j) ∧ Frm 0 (fun k => k = R) w wr)
  case atStart =>
    refine ⟨Nat.le_refl _, by rw [List.take_length], HR.out.congr (fun j hj => ?_), Frm.refl _ _ _⟩
    by_cases e : j = 3
    · rw [if_pos e, e, h3]
    · rw [if_neg e]
  case round =>
    obtain ⟨hm, hp, hrow, hfr⟩ := hrel
    have c3 := hrow.cell (i := 3) (by omega)
    rw [if_pos rfl] at c3
    have f3 := hrow.frozen 3
    have HP := hid hp
    have HROW := hid hrow
    have HFR := hid hfr
    clear hp hrow hfr
    cases gk with
    | zero =>
      have hE : popS st = [] := by rw [← HP.out]; rfl
      have HE := hid hE
      clear hE
      go_wp2_with fail
      go_ret
      exact ⟨none, rfl, fun _ => rfl, fun a p e => (by rw [HE.out] at e; simp at e), by rw [HE.out]; exact HROW.out, HFR.out⟩
    | succ m =>
      have hms : m < st.length := by omega
      have q0 := (HO.out.cellAt (m * 2) (by omega)).trans (plc_at st m hms).1
      have q1 := (HO.out.cellAt (m * 2 + 1) (by omega)).trans (plc_at st m hms).2
      have y0 := HFR.out.cell (p := ⟨g, m * 2, none⟩) q0 hgR
      have y1 := HFR.out.cell (p := ⟨g, m * 2 + 1, none⟩) q1 hgR
      have HTK := hid (List.take_succ_eq_append_getElem hms)
      have hpm := HPT.out m hms
      clear q0 q1
      generalize hpe : st[m] = p at y0 y1 HTK hpm
      clear hpe
      have hmI : ((m + 1 : Nat) : Int) ≤ (ca : Int) := by have := HC.out; omega
      by_cases hd : p.nl ≤ p.i
      · have hdI : ¬ (p.i : Int) < (p.nl : Int) := by omega
        have HPP := hid (show popS (st.take m) = popS st by rw [← HP.out, HTK.out, popS_go _ _ hd])
        clear hpm
        go_wp2_with fail
        go_quiet (fail)
        go_wp2_with fail
        go_quiet (fail)
        go_wp2_with fail
        go_region
        all_goals go_wp2_with fail
        all_goals go_roundg m
        case measure => omega
        case rel =>
          refine ⟨by omega, HPP.out, ?_, ?_⟩
          · exact (((HROW.out.set 3 (.slice (some ⟨g, 0, none⟩) m ca)).congr (fun j hj => (by
              by_cases e : j = 3
              · rw [if_pos e, if_pos e]
              · rw [if_neg e, if_neg e, if_neg e]))).of_block rfl)
          · exact (Frm.setCell (p := ⟨R, 3, none⟩) HFR.out (Nat.zero_le _) rfl (.slice (some ⟨g, 0, none⟩) m ca)).trans (Frm.ofBelow (S := fun k => k = R) (base := 0) ⟨rfl, rfl, rfl, Nat.le_refl _, fun _ _ => rfl⟩ (Nat.zero_le _)) (fun _ _ e => e)
      · obtain ⟨gl, hal, hglR, hcl⟩ := hpm p.i (by omega)
        have hdI : (p.i : Int) < (p.nl : Int) := by omega
        have hE : popS st = st.take m ++ [p] := by rw [← HP.out, HTK.out, popS_stay _ _ hd]
        have HE := hid hE
        have y2 := HFR.out.cell (p := ⟨gl, p.i, none⟩) hcl hglR
        rw [hal] at y0
        clear hpm hE hcl
        go_wp2_with fail
        go_quiet (fail)
        go_wp2_with fail
        go_quiet (fail)
        go_wp2_with fail
        go_quiet (fail)
        go_wp2_with fail
        go_ret
        refine ⟨_, rfl, fun e => (by rw [HE.out] at e; simp at e), fun a q e => ?_, ?_, ?_⟩
        · rw [HE.out] at e
          have hq := (List.append_inj' e rfl).2
          cases hq
          exact ⟨gl, hal, rfl⟩
        · rw [HE.out, show (st.take m ++ [p]).length = m + 1 by rw [List.length_append, List.length_take]; simp; omega]
          exact HROW.out.of_block rfl
        · exact HFR.out.trans (Frm.ofBelow (S := fun k => k = R) (base := 0) ⟨rfl, rfl, rfl, Nat.le_refl _, fun _ _ => rfl⟩ (Nat.zero_le _)) (fun _ _ e => e)
structure RD (R P gn cn : Nat) (ns : List ByteArray) (gv cv : Nat) (vals : Nat → Nat) (w : World) : Prop where
  c0 : w.cell? ⟨R, 0, none⟩ = some (.pointer (some ⟨P, 0, none⟩))
  n0 : w.cell? ⟨P, 0, none⟩ = some (.slice (some ⟨gn, 0, none⟩) ns.length cn)
  hn : Wds w gn ns
  hl : ns.length ≤ 1000
  v0 : w.cell? ⟨R, 1, none⟩ = some (.slice (some ⟨gv, 0, none⟩) ns.length cv)
  hv : ∀ i, i < ns.length → w.cell? ⟨gv, i, none⟩ = some (.int .i64 (vals i))
def nix (ns : List ByteArray) (s : ByteArray) : Nat := (Rf.oneOf s.toList (ns.map ByteArray.toList)).getD 0
def nval (ns : List ByteArray) (vals : Nat → Nat) (s : ByteArray) : Nat :=
  match Lk.num? s.toList with
  | some n => n
  | none => vals (nix ns s)
def isNm (ns : List ByteArray) (s : ByteArray) : Prop := ∃ h : s.size = 1, 97 ≤ (s[0]'(by omega)).toNat ∧ (Rf.oneOf s.toList (ns.map ByteArray.toList)).isSome = true
def isAtm (ns : List ByteArray) (s : ByteArray) : Prop := (Lk.num? s.toList).isSome = true ∨ isNm ns s
theorem oneOf_lt {l : List Lk.Wd} {w : Lk.Wd} {i : Nat} (h : Rf.oneOf w l = some i) : i < l.length := by
  induction l generalizing i with
  | nil => cases h
  | cons x l ih =>
    have h : (if (x == w) = true then some 0 else (Rf.oneOf w l).map (· + 1)) = some i := h
    by_cases e : (x == w) = true
    · rw [if_pos e] at h; cases h; simp
    · rw [if_neg e] at h
      cases hx : Rf.oneOf w l with
      | none => rw [hx] at h; cases h
      | some j =>
        rw [hx] at h
        have hj : j + 1 = i := by simpa using h
        have := ih hx
        simp only [List.length_cons]; omega
theorem RD.drew {R P gn cn : Nat} {ns : List ByteArray} {gv cv : Nat} {vals : Nat → Nat} {w : World} (d : RD R P gn cn ns gv cv vals w) (m : Nat) : RD R P gn cn ns gv cv vals (w.drewN m) :=
  ⟨by simpa using d.c0, by simpa using d.n0, fun j hj => by simpa using d.hn j hj, d.hl, by simpa using d.v0, fun j hj => by simpa using d.hv j hj⟩
theorem isNm.at {ns : List ByteArray} {s : ByteArray} (h : isNm ns s) : Rf.oneOf s.toList (ns.map ByteArray.toList) = some (nix ns s) ∧ nix ns s < ns.length := by
  obtain ⟨_, _, h⟩ := h
  unfold nix
  cases hx : Rf.oneOf s.toList (ns.map ByteArray.toList) with
  | none => rw [hx] at h; cases h
  | some i => exact ⟨rfl, by simpa using oneOf_lt hx⟩
theorem ridx {R P gn cn : Nat} {ns : List ByteArray} {gv cv : Nat} {vals : Nat → Nat} {w : World} (d : RD R P gn cn ns gv cv vals w) {s : ByteArray} (h : isNm ns s) :
    Calls Tryz.prog 91 #[.pointer (some ⟨R, 0, none⟩), .string s] w fun e w' => e = .returned (.int .i64 (nix ns s)) ∧ w' = w :=
  rindex_any R P gn cn ns w d.c0 d.n0 d.hn d.hl s _ h.at.1
theorem rval {R P gn cn : Nat} {ns : List ByteArray} {gv cv : Nat} {vals : Nat → Nat} {w : World} (d : RD R P gn cn ns gv cv vals w) {s : ByteArray} (h : isAtm ns s) :
    Calls Tryz.prog 88 #[.pointer (some ⟨R, 0, none⟩), .string s] w fun e w' => e = .returned (.int .i64 (nval ns vals s)) ∧ ∃ m, w' = w.drewN m := by
  unfold nval
  cases hx : Lk.num? s.toList with
  | some n => exact (rvalue_num R s n hx w).mono (fun e w' ⟨h1, h2⟩ => ⟨h1, 0, h2⟩)
  | none =>
    have hm : isNm ns s := by
      rcases h with h | h
      · rw [hx] at h; cases h
      · exact h
    obtain ⟨h1, h2, h3⟩ := hm
    obtain ⟨e1, e2⟩ := isNm.at ⟨h1, h2, h3⟩
    exact rvalue_name R P gn cn ns w d.c0 d.n0 d.hn d.hl s _ e1 h1 h2 gv cv ns.length _ d.v0 e2 (d.hv _ e2)
structure RC (R P : Nat) (nn gs cs gc cc : Nat) (ga : Nat → Nat) (sz : Nat → Nat) (cel : Nat → Nat → Nat) (w : World) : Prop where
  s0 : w.cell? ⟨P, 2, none⟩ = some (.slice (some ⟨gs, 0, none⟩) nn cs)
  hs : ∀ i, i < nn → w.cell? ⟨gs, i, none⟩ = some (.int .i64 (sz i))
  a0 : w.cell? ⟨R, 2, none⟩ = some (.slice (some ⟨gc, 0, none⟩) nn cc)
  ha : ∀ i, i < nn → w.cell? ⟨gc, i, none⟩ = some (.slice (some ⟨ga i, 0, none⟩) (sz i) (sz i))
  hc : ∀ i j, i < nn → j < sz i → w.cell? ⟨ga i, j, none⟩ = some (.int .i64 (cel i j))
  fc : ∀ i j, i < nn → j < sz i → w.frozen? ⟨ga i, j, none⟩ = false
  f4 : w.frozen? ⟨R, 4, none⟩ = false
  b4 : ∃ b, w.cell? ⟨R, 4, none⟩ = some (.bool b)
theorem RC.drew {R P nn gs cs gc cc : Nat} {ga sz : Nat → Nat} {cel : Nat → Nat → Nat} {w : World} (d : RC R P nn gs cs gc cc ga sz cel w) (m : Nat) : RC R P nn gs cs gc cc ga sz cel (w.drewN m) :=
  ⟨by simpa using d.s0, fun j hj => by simpa using d.hs j hj, by simpa using d.a0, fun j hj => by simpa using d.ha j hj, fun i j hi hj => by simpa using d.hc i j hi hj, fun i j hi hj => by simpa using d.fc i j hi hj, by simpa using d.f4, by simpa using d.b4⟩
section
variable {R P gn cn : Nat} {ns : List ByteArray} {gv cv : Nat} {vals : Nat → Nat} {gs cs gc cc : Nat} {ga : Nat → Nat} {sz : Nat → Nat} {cel : Nat → Nat → Nat} {w : World}
theorem lit_load : (⟨#[108, 111, 97, 100]⟩ : ByteArray).toList = Rf.wLoad := by rw [ByteArray.toList_eq]; rfl
set_option maxRecDepth 100000 in
set_option maxHeartbeats 400000 in
theorem cell_trap (d : RD R P gn cn ns gv cv vals w) (c : RC R P ns.length gs cs gc cc ga sz cel w) (gw cw : Nat) (w0 w1 w2 w3 : ByteArray) (hw : Wds w gw [w0, w1, w2, w3]) (h0 : w0.toList = Rf.wLoad) (n1 : isNm ns w1) (n2 : isNm ns w2) (n3 : isAtm ns w3) (hx : nval ns vals w3 < 16) (hge : sz (nix ns w2) ≤ nval ns vals w3) :
    Calls Tryz.prog 89 #[.pointer (some ⟨R, 0, none⟩), .slice (some ⟨gw, 0, none⟩) 4 cw] w fun e w' => e = .returned (.int .i64 ((32 + nval ns vals w3 : Nat) : Int)) ∧ ∃ m1 m2, w' = ((w.drewN m1).setCell ⟨R, 4, none⟩ (.bool true)).drewN m2 := by
  have W0 := hw 0 (by simp)
  have W1 := hw 1 (by simp)
  have W2 := hw 2 (by simp)
  have W3 := hw 3 (by simp)
  simp only [List.getD_cons_zero, List.getD_cons_succ] at W0 W1 W2 W3
  have I1 : Hid (Calls Tryz.prog 91 #[.pointer (some ⟨R, 0, none⟩), .string w1] w fun e w' => e = .returned (.int .i64 (nix ns w1)) ∧ w' = w) := ridx d n1
  have V2 : Hid (Calls Tryz.prog 88 #[.pointer (some ⟨R, 0, none⟩), .string w2] w fun e w' => e = .returned (.int .i64 (nval ns vals w2)) ∧ ∃ m', w' = w.drewN m') := rval d (.inr n2)
  have I2 : Hid (∀ m : Nat, Calls Tryz.prog 91 #[.pointer (some ⟨R, 0, none⟩), .string w2] (w.drewN m) fun e w' => e = .returned (.int .i64 (nix ns w2)) ∧ w' = w.drewN m) := fun m => ridx (d.drew m) n2
  have V3 : Hid (∀ m : Nat, Calls Tryz.prog 88 #[.pointer (some ⟨R, 0, none⟩), .string w3] (w.drewN m) fun e w' => e = .returned (.int .i64 (nval ns vals w3)) ∧ ∃ m', w' = (w.drewN m).drewN m') := fun m => rval (d.drew m) n3
  have hi2 := n2.at.2
  have S0 := c.s0
  have S1 := c.hs _ hi2
  have c0 := d.c0
  have f4 := c.f4
  obtain ⟨b, b4⟩ := c.b4
  have hE : w0.toList = [108, 111, 97, 100] := h0
  have hiI : (nix ns w2 : Int) < (ns.length : Int) := by omega
  have hxI : (nval ns vals w3 : Int) < 16 := by omega
  have hgI : (sz (nix ns w2) : Int) ≤ (nval ns vals w3 : Int) := by omega
  clear hw n1 n2 n3 d c h0
  go_enter Tryz.func89, Tryz.ntmps89
  go_wp2_with (first
    | (go_at_call_of 91 (Value.string w1); refine I1.out.mono ?_; rintro e w' ⟨rfl, hw'⟩; have hw1 := hw'.symm; subst hw1)
    | (go_at_call_of 88 (Value.string w2); refine V2.out.mono ?_; rintro e w' ⟨rfl, m1, hw'⟩; subst hw')
    | (go_at_call_of 91 (Value.string w2); refine (I2.out _).mono ?_; rintro e w' ⟨rfl, hw'⟩; subst hw')
    | (go_at_call_of 88 (Value.string w3); refine (V3.out _).mono ?_; rintro e w' ⟨rfl, m2, hw'⟩; subst hw')
    | (go_at_call 85; refine (ritem_any 2 _ _ (by omega) hx).mono ?_; rintro e w' ⟨rfl, hw'⟩; subst hw'))
  go_ret
  exact ⟨by push_cast; rfl, _, 0, rfl⟩
end
section
variable {R P gn cn : Nat} {ns : List ByteArray} {gv cv : Nat} {vals : Nat → Nat} {gs cs gc cc : Nat} {ga : Nat → Nat} {sz : Nat → Nat} {cel : Nat → Nat → Nat} {w : World}
set_option maxRecDepth 100000 in
set_option maxHeartbeats 400000 in
theorem cell_load (d : RD R P gn cn ns gv cv vals w) (c : RC R P ns.length gs cs gc cc ga sz cel w) (gw cw : Nat) (w0 w1 w2 w3 : ByteArray) (hw : Wds w gw [w0, w1, w2, w3]) (h0 : w0.toList = Rf.wLoad) (n1 : isNm ns w1) (n2 : isNm ns w2) (n3 : isAtm ns w3) (hx : nval ns vals w3 < 16) (fv : ∀ i, i < ns.length → w.frozen? ⟨gv, i, none⟩ = false) (hge : nval ns vals w3 < sz (nix ns w2)) :
    Calls Tryz.prog 89 #[.pointer (some ⟨R, 0, none⟩), .slice (some ⟨gw, 0, none⟩) 4 cw] w fun e w' => e = .returned (.int .i64 ((32 + nval ns vals w3 : Nat) : Int)) ∧ ∃ m1 m2, w' = ((w.drewN m1).setCell ⟨gv, nix ns w1, none⟩ (.int .i64 (cel (nix ns w2) (nval ns vals w3)))).drewN m2 := by
  have W0 := hw 0 (by simp)
  have W1 := hw 1 (by simp)
  have W2 := hw 2 (by simp)
  have W3 := hw 3 (by simp)
  simp only [List.getD_cons_zero, List.getD_cons_succ] at W0 W1 W2 W3
  have I1 : Hid (Calls Tryz.prog 91 #[.pointer (some ⟨R, 0, none⟩), .string w1] w fun e w' => e = .returned (.int .i64 (nix ns w1)) ∧ w' = w) := ridx d n1
  have V2 : Hid (Calls Tryz.prog 88 #[.pointer (some ⟨R, 0, none⟩), .string w2] w fun e w' => e = .returned (.int .i64 (nval ns vals w2)) ∧ ∃ m', w' = w.drewN m') := rval d (.inr n2)
  have I2 : Hid (∀ m : Nat, Calls Tryz.prog 91 #[.pointer (some ⟨R, 0, none⟩), .string w2] (w.drewN m) fun e w' => e = .returned (.int .i64 (nix ns w2)) ∧ w' = w.drewN m) := fun m => ridx (d.drew m) n2
  have V3 : Hid (∀ m : Nat, Calls Tryz.prog 88 #[.pointer (some ⟨R, 0, none⟩), .string w3] (w.drewN m) fun e w' => e = .returned (.int .i64 (nval ns vals w3)) ∧ ∃ m', w' = (w.drewN m).drewN m') := fun m => rval (d.drew m) n3
  have hi2 := n2.at.2
  have S0 := c.s0
  have S1 := c.hs _ hi2
  have c0 := d.c0
  have f4 := c.f4
  obtain ⟨b, b4⟩ := c.b4
  have hE : w0.toList = [108, 111, 97, 100] := h0
  have hiI : (nix ns w2 : Int) < (ns.length : Int) := by omega
  have hxI : (nval ns vals w3 : Int) < 16 := by omega
  have hgI : (nval ns vals w3 : Int) < (sz (nix ns w2) : Int) := by omega
  have hi1 := n1.at.2
  have hi1I : (nix ns w1 : Int) < (ns.length : Int) := by omega
  have A0 := c.a0
  have A1 := c.ha _ hi2
  have A2 := c.hc _ _ hi2 hge
  have v0 := d.v0
  have v1 := d.hv _ hi1
  have fv1 := fv _ hi1
  have J1 : Hid (∀ m : Nat, Calls Tryz.prog 91 #[.pointer (some ⟨R, 0, none⟩), .string w1] (w.drewN m) fun e w' => e = .returned (.int .i64 (nix ns w1)) ∧ w' = w.drewN m) := fun m => ridx (d.drew m) n1
  clear hw n1 n2 n3 d c h0
  go_enter Tryz.func89, Tryz.ntmps89
  go_wp2_with (first
    | (go_at_call_of 91 (Value.string w1); refine I1.out.mono ?_; rintro e w' ⟨rfl, hw'⟩; have hw1 := hw'.symm; subst hw1))
  go_wp2_with (first
    | (go_at_call_of 91 (Value.string w1); refine (J1.out _).mono ?_; rintro e w' ⟨rfl, hw'⟩; subst hw')
    | (go_at_call_of 88 (Value.string w2); refine V2.out.mono ?_; rintro e w' ⟨rfl, m1, hw'⟩; subst hw')
    | (go_at_call_of 91 (Value.string w2); refine (I2.out _).mono ?_; rintro e w' ⟨rfl, hw'⟩; subst hw')
    | (go_at_call_of 88 (Value.string w3); refine (V3.out _).mono ?_; rintro e w' ⟨rfl, m2, hw'⟩; subst hw')
    | (go_at_call 85; refine (ritem_any 2 _ _ (by omega) hx).mono ?_; rintro e w' ⟨rfl, hw'⟩; subst hw'))
  go_region
  go_wp2_with (first | (go_at_call 85; refine (ritem_any 2 _ _ (by omega) hx).mono ?_; rintro e w' ⟨rfl, hw'⟩; subst hw'))
  go_ret
  exact ⟨by push_cast; rfl, _, 0, rfl⟩
end
section
variable {R P gn cn : Nat} {ns : List ByteArray} {gv cv : Nat} {vals : Nat → Nat} {gs cs gc cc : Nat} {ga : Nat → Nat} {sz : Nat → Nat} {cel : Nat → Nat → Nat} {w : World}
set_option maxRecDepth 100000 in
set_option maxHeartbeats 400000 in
theorem cell_trap' (d : RD R P gn cn ns gv cv vals w) (c : RC R P ns.length gs cs gc cc ga sz cel w) (gw cw : Nat) (w0 w1 w2 w3 : ByteArray) (hw : Wds w gw [w0, w1, w2, w3]) (h0 : w0.toList = Rf.wStore) (n1 : isNm ns w1) (n2 : isAtm ns w2) (n3 : isAtm ns w3) (hx : nval ns vals w2 < 16) (hge : sz (nix ns w1) ≤ nval ns vals w2) :
    Calls Tryz.prog 89 #[.pointer (some ⟨R, 0, none⟩), .slice (some ⟨gw, 0, none⟩) 4 cw] w fun e w' => e = .returned (.int .i64 ((32 + nval ns vals w2 : Nat) : Int)) ∧ ∃ m1 m2, w' = ((w.drewN m1).setCell ⟨R, 4, none⟩ (.bool true)).drewN m2 := by
  have W0 := hw 0 (by simp)
  have W1 := hw 1 (by simp)
  have W2 := hw 2 (by simp)
  have W3 := hw 3 (by simp)
  simp only [List.getD_cons_zero, List.getD_cons_succ] at W0 W1 W2 W3
  have I1 : Hid (Calls Tryz.prog 91 #[.pointer (some ⟨R, 0, none⟩), .string w1] w fun e w' => e = .returned (.int .i64 (nix ns w1)) ∧ w' = w) := ridx d n1
  have V2 : Hid (Calls Tryz.prog 88 #[.pointer (some ⟨R, 0, none⟩), .string w2] w fun e w' => e = .returned (.int .i64 (nval ns vals w2)) ∧ ∃ m', w' = w.drewN m') := rval d n2
  have V3 : Hid (∀ m : Nat, Calls Tryz.prog 88 #[.pointer (some ⟨R, 0, none⟩), .string w3] (w.drewN m) fun e w' => e = .returned (.int .i64 (nval ns vals w3)) ∧ ∃ m', w' = (w.drewN m).drewN m') := fun m => rval (d.drew m) n3
  have hi2 := n1.at.2
  have S0 := c.s0
  have S1 := c.hs _ hi2
  have c0 := d.c0
  have f4 := c.f4
  obtain ⟨b, b4⟩ := c.b4
  have hE : w0.toList = [115, 116, 111, 114, 101] := h0
  have hiI : (nix ns w1 : Int) < (ns.length : Int) := by omega
  have hxI : (nval ns vals w2 : Int) < 16 := by omega
  have hgI : (sz (nix ns w1) : Int) ≤ (nval ns vals w2 : Int) := by omega
  clear hw n1 n2 n3 d c h0
  go_enter Tryz.func89, Tryz.ntmps89
  go_wp2_with (first
    | (go_at_call_of 91 (Value.string w1); refine I1.out.mono ?_; rintro e w' ⟨rfl, hw'⟩; have hw1 := hw'.symm; subst hw1)
    | (go_at_call_of 88 (Value.string w2); refine V2.out.mono ?_; rintro e w' ⟨rfl, m1, hw'⟩; subst hw')
    | (go_at_call_of 88 (Value.string w3); refine (V3.out _).mono ?_; rintro e w' ⟨rfl, m2, hw'⟩; subst hw')
    | (go_at_call 85; refine (ritem_any 2 _ _ (by omega) hx).mono ?_; rintro e w' ⟨rfl, hw'⟩; subst hw'))
  go_ret
  exact ⟨by push_cast; rfl, _, 0, rfl⟩
end
end Go.Proofs.YtgddmpmcnjlcjaaGreatDoor
