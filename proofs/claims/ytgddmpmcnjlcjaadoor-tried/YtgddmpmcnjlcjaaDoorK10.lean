import Derived.Test.YtgddmpmcnjlcjaaDoorK09
/- Tried, where it is secure. -/
namespace Go.Proofs.YtgddmpmcnjlcjaaDoor
open Go.RowKit
set_option linter.unusedVariables false

theorem made_zeros (n : Nat) : (madeCells (Value.int .i64 0).cells (n * 1)).toList = (List.replicate n 0).map fun (n : Nat) => Value.int .i64 n := by
  apply List.ext_getElem?
  intro i
  rw [Array.getElem?_toList]
  by_cases hi : i < n
  · simp [madeCells, Value.cells, hi]
    rw [Nat.mod_one]; rfl
  · simp [madeCells, Value.cells, hi]

set_option maxRecDepth 100000 in
set_option maxHeartbeats 4000000 in
theorem tried_sec (ck : AllChk) (s : ByteArray) (k : Nat) (hk : k ≤ 10) (c : Int) (hc : I64 c) (w : World) (htw : Tab w) (hl : (Lk.read s.toList).2 = 0) (hin : ¬ (Pr.fd (pgOf s.toList) k).al < k) :
    Calls Tryd.prog 16 #[.string s, .int .i64 k, .int .i64 c] w fun e w' => e = .returned (.bool true) ∧ Below w.heap.size w w' := by
  obtain ⟨t0, ht0, hz0, hz1, hz2⟩ := info_parts Tryd.infoInt
  obtain ⟨hsec, hs6⟩ := Sx.read_sec s.toList hl
  have hs6' : s.size ≤ 600 := by rw [← tl_len]; exact hs6
  have hsec' : Sx.sec s.toList = (pgOf s.toList).sec := hsec.symm
  have HSC : Hid (∀ W : World, Calls Tryd.prog 36 #[.string s] W fun e w' => ∃ v, e = .returned v ∧ w'.ownsRow W.heap.size 4 1 v (pgOf s.toList).sec.length ((pgOf s.toList).sec.map Value.bool) ∧ Below W.heap.size W w') := fun W => by
    have h := secrets_any s hs6' W
    rw [hsec'] at h
    exact h
  have HC : Hid (∀ W : World, Tab W → Calls Tryd.prog 33 #[.string s, .int .i64 k] W fun e w' => ∃ x, e = .returned (.tuple #[.int .i64 1, repSec x]) ∧ Below W.heap.size W w') := fun W hW => kc_sec ck s k W hW hk hl hin
  have HTW := hid htw
  clear ck htw
  have HR : Hid (∀ (l : List Nat) (W : World) (v : Value), (∀ x, x ∈ l → x < 16) → l.length = (pgOf s.toList).sec.length → W.ownsRow 0 3 1 v l.length (l.map fun (n : Nat) => .int .i64 n) → Calls Tryd.prog 34 #[.string s, v, .int .i64 k] W fun e w' => ∃ a c, e = .returned (.slice a k c) ∧ w'.ownsRow W.heap.size 3 1 (.slice a k c) k ((Mc.tells (pgOf s.toList) (Mc.ini l) k).map fun (n : Nat) => .int .i64 n) ∧ Below W.heap.size W w') := fun l W v h1 h2 h3 => run_ok s k hk l h1 hl h2 W v h3
  have hok := pgOf_ok s.toList
  have hso := (Pr.fd_ok (pgOf s.toList) k)
  clear hl hsec hs6 hsec'
  generalize pgOf s.toList = p at HSC HC HR hok hso hin
  have h4096 := pk_lt c 4096 (by omega)
  have HPK : Hid (∀ W : World, Calls Tryd.prog 32 #[.int .i64 c, .int .i64 4096] W fun e w' => e = .returned (.int .i64 (pk c 4096)) ∧ w' = W) := fun W => pick4096 c hc W
  generalize pk c 4096 = cc at h4096 HPK
  have HEQ : Hid (∀ x, x < Pr.rows p.sec true → Mc.tells p (Mc.ini (Pr.inp p.sec cc x)) k = Mc.tells p (Mc.ini (Pr.inp p.sec cc 0)) k) := fun x hx => by
    have hr := Pr.rows_pos false p.sec 1 (by omega)
    have hm : cc % Pr.rows p.sec false < Pr.rows p.sec false := Nat.mod_lt _ hr
    rw [← Pr.inp_mod p.sec cc x, ← Pr.inp_mod p.sec cc 0]
    unfold Mc.tells
    apply List.map_congr_left
    intro t ht
    have hle := hso.le
    exact (hso.all _ x ⟨hm, hx⟩ t (by have := List.mem_range.1 ht; omega)).symm
  have hn3 := hok.sec
  have hS := Pr.rows_max true p.sec hn3
  have HRT := hid (fun i hi => Pr.rows_take true p.sec hn3 i hi)
  clear hso hok hc hin
  have HSZ : Hid (∀ W : World, True) := fun _ => trivial
  have M1 : Hid True := trivial
  go_enter Tryd.func16, Tryd.ntmps16
  go_wp2_with (first
    | (go_at_call 33; refine (HC.out _ HTW.out).mono ?_; rintro e w1 ⟨x1, rfl, hb1⟩; have HB1 := hid hb1; have z1 := hb1.size; clear hb1)
    | (go_at_call 36; refine (HSC.out _).mono ?_; rintro e w2 ⟨v2, rfl, ho2, hb2⟩; obtain ⟨q2, p2, e2⟩ := body_val ho2; subst e2; have z2 := hb2.size; simp at z2; have HO2 := hid (ownsRow_low ho2 (Nat.zero_le _)); have HB2 := hid ((HB1.out.alloc z1 _).trans (hb2.mono (by simp; omega))); clear ho2 hb2 HB1)
    | (at_make; refine wpList_make_full _ rfl _ _ 24 rfl w.heap.size 3 t0 (.int .i64 0) 1 Tryd.underlying24 ht0 hz0 hz1 .i64 .i64 _ _ p.sec.length rfl rfl rfl rfl (by rw [hz2]; omega) (by unfold maxLen; omega) (by omega) ?_; intro w3 hown3 hgrow3; rw [made_zeros] at hown3; have HO3 := hid (ownsRow_low hown3 (Nat.zero_le _)); have HB3 := hid (Below.grown HB2.out hgrow3 (by omega) (fun q hq => by cases hq)); have z3 := hgrow3.size; have HO23 := hid (ownsRow_same HO2.out (fun q hq => hgrow3.block q hq (by simp))); clear hown3 hgrow3 HB2 HO2)
    | (go_at_call 32; refine (HPK.out _).mono ?_; rintro e w0 ⟨rfl, hw0⟩; have hw1 := hw0.symm; subst hw1)
    | (go_at_call 38; refine (kin_any p.sec hn3 false cc ?_ (List.replicate p.sec.length 0) ?_ _ _ _ HO23.out HO3.out).mono ?_; omega; exact List.length_replicate; rintro e w4 ⟨v4, rfl, ho4, hb4⟩; rw [Pr.kin_base] at ho4; obtain ⟨q4, p4, e4⟩ := body_val ho4; subst e4; have z4 := hb4.size; have HO4 := hid (ownsRow_low ho4 (Nat.zero_le _)); have HO24 := hid (ownsRow_same HO23.out hb4.block); have HB4 := hid (HB3.out.trans (hb4.mono (by omega))); clear ho4 hb4 HB3 HO3 HO23)
    | (go_at_call 34; refine (HR.out (Pr.inp p.sec cc 0) _ _ (Pr.inp_lt _ _ _) (Pr.inp_len _ _ _) ?_).mono ?_; rw [Pr.inp_len]; exact HO4.out; rintro e w5 ⟨q5, p5, rfl, ho5, hb5⟩; have z5 := hb5.size; have HN5 := hid (NatsAt.of (Mc.tells_len _ _ _) ho5); have HO25 := hid (ownsRow_same HO24.out hb5.block); have HO45 := hid (ownsRow_same HO4.out hb5.block); have HB5 := hid (HB4.out.trans (hb5.mono (by omega))); clear ho5 hb5 HB4 HO4 HO24))
  go_loopg [17, 18] p.sec.length (fun gk nv iv wq => ∃ t : Nat, t + gk = p.sec.length ∧ iv = .int .i64 t ∧ nv = .int .i64 ((p.sec.take t).foldl (Pr.mulIf true) 1 : Nat) ∧ ∃ m, wq = w5.drewN m)
  case atStart => exact ⟨0, by omega, rfl, rfl, 0, rfl⟩
  case round =>
    obtain ⟨t, ht, rfl, rfl, m, rfl⟩ := hrel
    by_cases hlt : t < p.sec.length
    · obtain ⟨g, cap, hv, _, hglt⟩ := HO25.out.form (by omega)
      cases hv
      have y0 := bool_at HO25.out t hlt
      have hr := HRT.out t hlt
      have hf := Pr.foldl_take (Pr.mulIf true) 1 p.sec t hlt
      generalize p.sec[t] = b at y0 hf
      generalize (p.sec.take t).foldl (Pr.mulIf true) 1 = nn at hr hf ⊢
      have hrI : (nn : Int) ≤ 256 := by omega
      have HF := hid hf
      clear hf
      cases b with
      | true =>
        go_wp2_with fail
        go_roundg (gk - 1)
        case measure => omega
        case rel => exact ⟨t + 1, by omega, by go_num, by rw [HF.out]; simp [Pr.mulIf], _, rfl⟩
      | false =>
        go_wp2_with fail
        go_roundg (gk - 1)
        case measure => omega
        case rel => exact ⟨t + 1, by omega, by go_num, by rw [HF.out]; simp [Pr.mulIf], _, rfl⟩
    · have hte : t = p.sec.length := by omega
      have hE : (p.sec.take t).foldl (Pr.mulIf true) 1 = Pr.rows p.sec true := by rw [hte, List.take_length]; rfl
      rw [hE]
      clear hE
      subst hte
      have HX6 := hid (HB5.out)
      obtain ⟨w6, hw6⟩ : ∃ x, w5.drewN m = x := ⟨_, rfl⟩
      have hb56 : Below w5.heap.size w5 w6 := by rw [← hw6]; exact below_drewN (Below.refl _ _) _
      have HO26 := hid (ownsRow_same HO25.out hb56.block)
      have HO46 := hid (ownsRow_same HO45.out hb56.block)
      have HN6 := hid (HN5.out.same hb56)
      have HB6 := hid (HB5.out.trans (hb56.mono (by omega)))
      have z6 := hb56.size
      rw [hw6]
      clear hw6 hb56 HO25 HO45 HN5 HB5
      generalize hSn : Pr.rows p.sec true = Sn at hS HEQ ⊢
      by_cases h256 : 256 < Sn
      · have h256I : (256 : Int) < (Sn : Int) := by omega
        have hd256 : decide (256 < Sn) = true := decide_eq_true h256
        go_wp2_with fail
        go_loopg [20] Sn (fun gk xv wq => ∃ x : Nat, Sn ≤ x + gk ∧ x ≤ Sn + 13 ∧ xv = .int .i64 x ∧ Below w6.heap.size w6 wq)
        case atStart => exact ⟨0, by omega, by omega, rfl, Below.refl _ _⟩
        case round =>
          obtain ⟨x, hxg, hxm, rfl, hbel⟩ := hrel
          have HBL := hid hbel
          have hzq := hbel.size
          by_cases hxs : x < Sn
          · have HO2q := hid (ownsRow_same HO26.out hbel.block)
            have HO4q := hid (ownsRow_same HO46.out hbel.block)
            have HNq := hid (HN6.out.same hbel)
            have HEX := hid (HEQ.out x hxs)
            clear hbel
            go_wp2_with (first
              | (go_at_call 38; refine (kin_any p.sec hn3 true x ?_ (Pr.inp p.sec cc 0) ?_ _ _ _ HO2q.out HO4q.out).mono ?_; omega; exact Pr.inp_len _ _ _; rintro e w7 ⟨v7, rfl, ho7, hb7⟩; rw [Pr.kin_inp] at ho7; obtain ⟨q7, p7, e7⟩ := body_val ho7; subst e7; have z7 := hb7.size; have HO7 := hid (ownsRow_low ho7 (Nat.zero_le _)); have HN7 := hid (HNq.out.same hb7); have HB7 := hid (HBL.out.trans (hb7.mono (by omega))); clear ho7 hb7)
              | (go_at_call 34; refine (HR.out (Pr.inp p.sec cc x) _ _ (Pr.inp_lt _ _ _) (Pr.inp_len _ _ _) ?_).mono ?_; rw [Pr.inp_len]; exact HO7.out; rintro e w8 ⟨q8, p8, rfl, ho8, hb8⟩; rw [HEX.out] at ho8; have z8 := hb8.size; have HN8 := hid (NatsAt.of (Mc.tells_len _ _ _) ho8); have HN78 := hid (HN7.out.same hb8); have HB8 := hid (HB7.out.trans (hb8.mono (by omega))); clear ho8 hb8)
              | (go_at_call 37; refine (same_yes k hk (fun i => (Mc.tells p (Mc.ini (Pr.inp p.sec cc 0)) k).getD i 0) _ _ _ _ _ HN8.out HN78.out).mono ?_; rintro e w9 ⟨rfl, m9, rfl⟩))
            go_roundg (gk - 1)
            case measure => omega
            case rel => exact ⟨x + 13, by omega, by omega, by go_num, below_drewN HB8.out _⟩
          · clear hbel
            go_wp2_with fail
            go_ret
            exact ⟨rfl, HB6.out.trans (HBL.out.mono (by omega))⟩
      · have h256I : ¬ (256 : Int) < (Sn : Int) := by omega
        go_wp2_with fail
        go_loopg [20] Sn (fun gk xv wq => ∃ x : Nat, Sn ≤ x + gk ∧ x ≤ Sn + 13 ∧ xv = .int .i64 x ∧ Below w6.heap.size w6 wq)
        case atStart => exact ⟨0, by omega, by omega, rfl, Below.refl _ _⟩
        case round =>
          obtain ⟨x, hxg, hxm, rfl, hbel⟩ := hrel
          have HBL := hid hbel
          have hzq := hbel.size
          by_cases hxs : x < Sn
          · have HO2q := hid (ownsRow_same HO26.out hbel.block)
            have HO4q := hid (ownsRow_same HO46.out hbel.block)
            have HNq := hid (HN6.out.same hbel)
            have HEX := hid (HEQ.out x hxs)
            clear hbel
            go_wp2_with (first
              | (go_at_call 38; refine (kin_any p.sec hn3 true x ?_ (Pr.inp p.sec cc 0) ?_ _ _ _ HO2q.out HO4q.out).mono ?_; omega; exact Pr.inp_len _ _ _; rintro e w7 ⟨v7, rfl, ho7, hb7⟩; rw [Pr.kin_inp] at ho7; obtain ⟨q7, p7, e7⟩ := body_val ho7; subst e7; have z7 := hb7.size; have HO7 := hid (ownsRow_low ho7 (Nat.zero_le _)); have HN7 := hid (HNq.out.same hb7); have HB7 := hid (HBL.out.trans (hb7.mono (by omega))); clear ho7 hb7)
              | (go_at_call 34; refine (HR.out (Pr.inp p.sec cc x) _ _ (Pr.inp_lt _ _ _) (Pr.inp_len _ _ _) ?_).mono ?_; rw [Pr.inp_len]; exact HO7.out; rintro e w8 ⟨q8, p8, rfl, ho8, hb8⟩; rw [HEX.out] at ho8; have z8 := hb8.size; have HN8 := hid (NatsAt.of (Mc.tells_len _ _ _) ho8); have HN78 := hid (HN7.out.same hb8); have HB8 := hid (HB7.out.trans (hb8.mono (by omega))); clear ho8 hb8)
              | (go_at_call 37; refine (same_yes k hk (fun i => (Mc.tells p (Mc.ini (Pr.inp p.sec cc 0)) k).getD i 0) _ _ _ _ _ HN8.out HN78.out).mono ?_; rintro e w9 ⟨rfl, m9, rfl⟩))
            go_roundg (gk - 1)
            case measure => omega
            case rel => exact ⟨x + 1, by omega, by omega, by go_num, below_drewN HB8.out _⟩
          · clear hbel
            go_wp2_with fail
            go_ret
            exact ⟨rfl, HB6.out.trans (HBL.out.mono (by omega))⟩

theorem tried_any (ck : AllChk) (s : ByteArray) (k : Nat) (hk : k ≤ 10) (c : Int) (hc : I64 c) (w : World) (htw : Tab w) :
    Calls Tryd.prog 16 #[.string s, .int .i64 k, .int .i64 c] w fun e w' => e = .returned (.bool true) ∧ Below w.heap.size w w' := by
  by_cases hl : (Lk.read s.toList).2 = 0
  · by_cases hin : (Pr.fd (pgOf s.toList) k).al < k
    · exact tried_ins ck s k hk c w htw hl hin
    · exact tried_sec ck s k hk c hc w htw hl hin
  · exact tried_rej s k hk c w _ rfl hl

set_option maxRecDepth 100000 in
set_option maxHeartbeats 1000000 in
theorem Tried_any (ck : AllChk) (s : ByteArray) (a : Int) (ha : I64 a) (c : Int) (hc : I64 c) (w : World) (htw : Tab w) :
    Calls Tryd.prog 5 #[.string s, .int .i64 a, .int .i64 c] w fun e w' => e = .returned (.bool true) ∧ Below w.heap.size w w' := by
  by_cases hs : s.size ≤ 16384
  · have hsI : ¬ (16384 : Int) < (s.size : Int) := by omega
    have h11 := pk_lt a 11 (by omega)
    have HCI := hid hc
    have HAN : Hid (∀ W : World, Tab W → Calls Tryd.prog 15 #[.int .i64 a] W fun e w' => e = .returned (.bool true) ∧ Below W.heap.size W w') := fun W hW => answers_any ck a ha W hW
    have HS : Hid (∀ W : World, Calls Tryd.prog 17 #[.int .i64 a] W fun e w' => e = .returned (.int .i64 (pk a 11)) ∧ w' = W) := fun W => steps_any a ha W
    generalize pk a 11 = k at h11 HS
    clear ha hc
    go_enter Tryd.func5, Tryd.ntmps5
    go_wp2_with (first
      | (go_at_call 15; refine (HAN.out _ htw).mono ?_; rintro e w1 ⟨rfl, hb1⟩; have HB1 := hid hb1; have z1 := hb1.size; clear hb1)
      | (go_at_call 17; refine (HS.out _).mono ?_; rintro e w0 ⟨rfl, hw0⟩; have hw1 := hw0.symm; subst hw1)
      | (go_at_call 16; refine (tried_any ck s k ?_ c HCI.out _ (tab_on htw HB1.out)).mono ?_; omega; rintro e w2 ⟨rfl, hb2⟩; have HB2 := hid hb2; clear hb2))
    go_ret
    exact ⟨rfl, HB1.out.trans (HB2.out.mono z1)⟩
  · have hsI : (16384 : Int) < (s.size : Int) := by omega
    go_enter Tryd.func5, Tryd.ntmps5
    go_wp2
    go_ret
    exact ⟨rfl, Below.refl _ _⟩

end Go.Proofs.YtgddmpmcnjlcjaaDoor
