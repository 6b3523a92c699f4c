import Derived.Test.YtgddmpmcnjlcjaaDoorK05
import Derived.Test.YtgddmpmcnjlcjaaDoorK06
import Derived.Test.YtgddmpmcnjlcjaaDoorK08
import Derived.Deep.RegionWith
import Derived.Deep.RegionLaw
import Derived.Deep.DeepCutAuto
import Derived.Deep.LoopGhost
import Derived.Deep.QuietTactic
import Derived.BigQuiet
/- Tried. -/
namespace Go.Proofs.YtgddmpmcnjlcjaaDoor
open Go.RowKit
set_option linter.unusedVariables false

set_option maxRecDepth 100000 in
set_option maxHeartbeats 1000000 in
theorem tried_rej (s : ByteArray) (k : Nat) (hk : k ≤ 10) (c : Int) (w : World) (l : Nat) (hl : (Lk.read s.toList).2 = l) (hl0 : l ≠ 0) :
    Calls Tryd.prog 16 #[.string s, .int .i64 k, .int .i64 c] w fun e w' => e = .returned (.bool true) ∧ Below w.heap.size w w' := by
  have HC : Hid (∀ W : World, Calls Tryd.prog 33 #[.string s, .int .i64 k] W fun e w' => e = .returned (.tuple #[.int .i64 0, repLine l]) ∧ Below W.heap.size W w') := fun W => kc_rej s k W hk l hl hl0
  have HR : Hid (∀ W : World, Calls Tryd.prog 34 #[.string s, .slice none 0 0, .int .i64 k] W fun e w' => e = .returned (.slice none 0 0) ∧ Below W.heap.size W w') := fun W => run_bad s none 0 0 k W (by unfold wi; exact decide_eq_true ⟨by omega, by omega⟩) (by rw [hl]; exact hl0)
  have hlI : (0 : Int) < (l : Int) := by omega
  clear hl
  have qn : ∀ (w : World) (a : Option Addr) (n c n' c' : Nat), (binOp .eql 24 (.slice a n c) (.slice none n' c')).run Tryd.prog w = .ok (.bool a.isNone) w := fun w a n c n' c' => Lib.run_eql_slice_nil w _ _ a n c n' c' Tryd.underlying24
  go_enter Tryd.func16, Tryd.ntmps16
  go_wp2_with (first
    | (go_at_call 33; refine (HC.out _).mono ?_; rintro e w1 ⟨rfl, hb1⟩; have HB1 := hid hb1; have z1 := hb1.size; clear hb1)
    | (go_at_call 34; refine (HR.out _).mono ?_; rintro e w2 ⟨rfl, hb2⟩; have HB2 := hid hb2; have z2 := hb2.size; simp at z2; have x0 := cell_later hb2 (newAt w1 _ _ 0 _ rfl); simp only [List.getElem_toArray, List.getElem_cons_zero] at x0; clear hb2))
  go_ret
  exact ⟨rfl, (HB1.out.alloc z1 _).trans (HB2.out.mono (by simp; omega))⟩

theorem own_cap7 {w : World} {base e size : Nat} {a : Option Addr} {n c : Nat} {xs : List Value} (h : w.ownsRow base e size (.slice a n c) n xs) : n ≤ c := by
  rcases h.2 with ⟨h1, h2⟩ | ⟨g, cap, cur, hv, _, _, hc, _⟩
  · omega
  · cases hv; exact hc
theorem tells_at (p : Pg) (m : Mc.M) (k i : Nat) (h : i < k) : (Mc.tells p m k).getD i 0 = Mc.num p m i := by
  unfold Mc.tells
  simp [h]

set_option maxRecDepth 100000 in
set_option maxHeartbeats 2000000 in
theorem tried_ins (ck : AllChk) (s : ByteArray) (k : Nat) (hk : k ≤ 10) (c : Int) (w : World) (htw : Tab w) (hl : (Lk.read s.toList).2 = 0) (hin : (Pr.fd (pgOf s.toList) k).al < k) :
    Calls Tryd.prog 16 #[.string s, .int .i64 k, .int .i64 c] w fun e w' => e = .returned (.bool true) ∧ Below w.heap.size w w' := by
  obtain ⟨hsec, hs6⟩ := Sx.read_sec s.toList hl
  have hs6' : s.size ≤ 600 := by rw [← tl_len]; exact hs6
  have hsec' : Sx.sec s.toList = (pgOf s.toList).sec := hsec.symm
  have HSC : Hid (∀ W : World, Calls Tryd.prog 36 #[.string s] W fun e w' => ∃ v, e = .returned v ∧ w'.ownsRow W.heap.size 4 1 v (pgOf s.toList).sec.length ((pgOf s.toList).sec.map Value.bool) ∧ Below W.heap.size W w') := fun W => by
    have h := secrets_any s hs6' W
    rw [hsec'] at h
    exact h
  have HC : Hid (∀ W : World, Tab W → Calls Tryd.prog 33 #[.string s, .int .i64 k] W fun e w' => ∃ a1 c1 a2 c2 i j x, KIns W w' e (pgOf s.toList) k a1 c1 a2 c2 i j x) := fun W hW => kc_ins ck s k W hW hk hl hin
  have HTW := hid htw
  clear ck htw
  have HR : Hid (∀ (l : List Nat) (W : World) (v : Value), (∀ x, x ∈ l → x < 16) → l.length = (pgOf s.toList).sec.length → W.ownsRow 0 3 1 v l.length (l.map fun (n : Nat) => .int .i64 n) → Calls Tryd.prog 34 #[.string s, v, .int .i64 k] W fun e w' => ∃ a c, e = .returned (.slice a k c) ∧ w'.ownsRow W.heap.size 3 1 (.slice a k c) k ((Mc.tells (pgOf s.toList) (Mc.ini l) k).map fun (n : Nat) => .int .i64 n) ∧ Below W.heap.size W w') := fun l W v h1 h2 h3 => run_ok s k hk l h1 hl h2 W v h3
  have hok := pgOf_ok s.toList
  have hso := (Pr.fd_ok (pgOf s.toList) k)
  clear hl hsec hs6 hsec'
  generalize pgOf s.toList = p at HSC HC HR hok hso hin
  have HSO := hid hso
  have HOK := hid hok
  have hn3 := hok.sec
  clear hso hok
  obtain ⟨al, hal⟩ : ∃ x, (Pr.fd p k).al = x := ⟨_, rfl⟩
  have HAL := hid hal
  rw [hal] at hin
  clear hal
  go_enter Tryd.func16, Tryd.ntmps16
  have M1 : Hid True := trivial
  have hd0 : decide ((al : Int) < 0) = false := by simp
  have hd1 : decide (k ≤ al) = false := by simp; omega
  go_wp2_with (first
    | (go_at_call 33; refine (HC.out _ HTW.out).mono ?_; rintro e w1 ⟨a1, c1, a2, c2, i, j, x, K⟩; have he := K.res; rw [HAL.out] at he; subst he; have HK := hid K; have HB1 := hid K.bel; have z1 := K.bel.size; clear K)
    | (go_at_call 36; refine (HSC.out _).mono ?_; rintro e w2 ⟨v2, rfl, ho2, hb2⟩; obtain ⟨q2, p2, e2⟩ := body_val ho2; subst e2; have x1 := cell_later hb2 (newAt w1 #[.int .i64 0, .slice a1 p.sec.length c1, .slice a2 p.sec.length c2, .int .i64 al, .int .i64 x.nv, .string x.f, .string x.g, .int .i64 x.nd, .int .i64 x.cf] 26 1 _ rfl); have x2 := cell_later hb2 (newAt w1 #[.int .i64 0, .slice a1 p.sec.length c1, .slice a2 p.sec.length c2, .int .i64 al, .int .i64 x.nv, .string x.f, .string x.g, .int .i64 x.nd, .int .i64 x.cf] 26 2 _ rfl); have x3 := cell_later hb2 (newAt w1 #[.int .i64 0, .slice a1 p.sec.length c1, .slice a2 p.sec.length c2, .int .i64 al, .int .i64 x.nv, .string x.f, .string x.g, .int .i64 x.nd, .int .i64 x.cf] 26 3 _ rfl); simp only [List.getElem_toArray, List.getElem_cons_zero, List.getElem_cons_succ] at x1 x2 x3; have z2 := hb2.size; simp at z2; have HO2 := hid ho2; have HF := hid (ownsRow_same (HK.out.o1.alloc _) hb2.block); have HG := hid (ownsRow_same (HK.out.o2.alloc _) hb2.block); have HB2 := hid ((HB1.out.alloc z1 _).trans (hb2.mono (by simp; omega))); clear ho2 hb2 HB1)
    | (go_at_call 34; have hm := M1; clear M1 hm; refine (HR.out (Pr.inp p.sec i 0) _ _ (Pr.inp_lt _ _ _) (Pr.inp_len _ _ _) ?_).mono ?_; rw [Pr.inp_len]; exact ownsRow_low HF.out (Nat.zero_le _); rintro e w3 ⟨q3, p3, rfl, ho3, hb3⟩; have y1 := cell_later hb3 x1; have y2 := cell_later hb3 x2; have y3 := cell_later hb3 x3; have z3 := hb3.size; have HN3 := hid (NatsAt.of (Mc.tells_len _ _ _) ho3); have hp3 := own_cap7 ho3; have HO3 := hid (ownsRow_same HO2.out hb3.block); have HF3 := hid (ownsRow_same HF.out hb3.block); have HG3 := hid (ownsRow_same HG.out hb3.block); have HB3 := hid (HB2.out.trans (hb3.mono (by omega))); clear x1 x2 x3 ho3 hb3 HO2 HF HG HB2)
    | (go_at_call 34; refine (HR.out (Pr.inp p.sec i j) _ _ (Pr.inp_lt _ _ _) (Pr.inp_len _ _ _) ?_).mono ?_; rw [Pr.inp_len]; exact ownsRow_low HG3.out (Nat.zero_le _); rintro e w4 ⟨q4, p4, rfl, ho4, hb4⟩; have x1 := cell_later hb4 y1; have x2 := cell_later hb4 y2; have x3 := cell_later hb4 y3; have z4 := hb4.size; have HN4 := hid (NatsAt.of (Mc.tells_len _ _ _) ho4); have hp4 := own_cap7 ho4; have HN34 := hid (HN3.out.same hb4); have HO4 := hid (ownsRow_same HO3.out hb4.block); have HF4 := hid (ownsRow_same HF3.out hb4.block); have HG4 := hid (ownsRow_same HG3.out hb4.block); have HB4 := hid (HB3.out.trans (hb4.mono (by omega))); clear y1 y2 y3 ho4 hb4 HO3 HF3 HG3 HB3 HN3))
  have HNF := hid (NatsAt.of (Pr.inp_len _ _ _) HF4.out)
  have HNG := hid (NatsAt.of (Pr.inp_len _ _ _) HG4.out)
  have HD : Hid (∀ t, t < p.sec.length → p.sec[t]? = some false → (Pr.inp p.sec i 0).getD t 0 = (Pr.inp p.sec i j).getD t 0) := fun t _ h => by
    rw [List.getD_eq_getElem?_getD, List.getD_eq_getElem?_getD, Pr.inp_pub p.sec i 0 j t h]
  have hx1l := World.block_lt_of_cell? w4 _ x1
  go_loopg [13] p.sec.length (fun gk tv wq => ∃ t : Nat, t + gk = p.sec.length ∧ tv = .int .i64 t ∧ ∃ m, wq = w4.drewN m)
  case atStart => exact ⟨0, by omega, rfl, 0, rfl⟩
  case round =>
    obtain ⟨t, ht, rfl, m, rfl⟩ := hrel
    by_cases hlt : t < p.sec.length
    · obtain ⟨g, cap, hv, _, hglt⟩ := HO4.out.form (by omega)
      cases hv
      obtain ⟨g1, rfl, hg1, hc1⟩ := HNF.out (by omega)
      obtain ⟨g2, rfl, hg2, hc2⟩ := HNG.out (by omega)
      have y0 := bool_at HO4.out t hlt
      have y1 := hc1 t hlt
      have y2 := hc2 t hlt
      have hd := HD.out t hlt
      rw [List.getElem?_eq_getElem hlt] at hd
      clear hc1 hc2
      dsimp only at y1 y2
      generalize p.sec[t] = b at y0 hd
      generalize (Pr.inp p.sec i 0).getD t 0 = u1 at y1 hd
      generalize (Pr.inp p.sec i j).getD t 0 = u2 at y2 hd
      cases b with
      | true =>
        clear hd
        go_wp2_with fail
        go_quiet (fail)
        go_wp2_with fail
        go_roundg (gk - 1)
        case measure => omega
        case rel => exact ⟨t + 1, by omega, by go_num, _, rfl⟩
      | false =>
        have hd2 := hd rfl
        subst hd2
        clear hd
        go_wp2_with fail
        go_quiet (fail)
        go_wp2_with fail
        go_roundg (gk - 1)
        case measure => omega
        case rel => exact ⟨t + 1, by omega, by go_num, _, rfl⟩
    · have hN3 := HN34.out.less (m := al) (by omega)
      have hN4 := HN4.out.less (m := al) (by omega)
      have hte : t = p.sec.length := by omega
      have hso := HSO.out.so i j HK.out.fi
      rw [HAL.out] at hso
      have hall := HSO.out.all i j ⟨hso.1, hso.2.1⟩
      rw [HAL.out] at hall
      have hN4b : NatsAt w4 q4 al (fun x => (Mc.tells p (Mc.ini (Pr.inp p.sec i 0)) k).getD x 0) := by
        intro h0
        obtain ⟨g, e, hg, hc⟩ := hN4 h0
        refine ⟨g, e, hg, fun x hx => ?_⟩
        rw [hc x hx]
        show some (Value.int .i64 ((Mc.tells p (Mc.ini (Pr.inp p.sec i j)) k).getD x 0 : Nat)) = some (Value.int .i64 ((Mc.tells p (Mc.ini (Pr.inp p.sec i 0)) k).getD x 0 : Nat))
        rw [tells_at _ _ _ _ (by omega), tells_at _ _ _ _ (by omega)]
        exact congrArg (fun z : Nat => some (Value.int .i64 z)) (hall x hx).symm
      obtain ⟨g3, e3, hg3, hc3⟩ := HN34.out (by omega)
      obtain ⟨g4, e4, hg4, hc4⟩ := HN4.out (by omega)
      subst e3 e4
      have v3 := hc3 al (by omega)
      have v4 := hc4 al (by omega)
      dsimp only at v3 v4
      rw [tells_at _ _ _ _ (by omega)] at v3 v4
      have hne : Mc.num p (Mc.ini (Pr.inp p.sec i 0)) al ≠ Mc.num p (Mc.ini (Pr.inp p.sec i j)) al := hso.2.2.2
      generalize Mc.num p (Mc.ini (Pr.inp p.sec i 0)) al = n3 at v3 hne
      generalize Mc.num p (Mc.ini (Pr.inp p.sec i j)) al = n4 at v4 hne
      have hneI : ((n3 : Int) != (n4 : Int)) = true := by simp; omega
      have hal3 : (al : Int) ≤ (p3 : Int) := by omega
      have hal4 : (al : Int) ≤ (p4 : Int) := by omega
      have halk : (al : Int) < (k : Int) := by omega
      have HN3 := hid hN3
      have HN4b := hid hN4b
      clear hN3 hN4 hN4b hc3 hc4 hso hall
      have HSM : Hid (∀ y : Nat, Calls Tryd.prog 37 #[.slice (some ⟨g3, 0, none⟩) al p3, .slice (some ⟨g4, 0, none⟩) al p4] (w4.drewN (m + y)) fun e w'' => e = .returned (.bool true) ∧ ∃ n, w'' = w4.drewN (m + n)) := fun y => by
        refine Calls.mono (same_yes al (by omega) _ (w4.drewN (m + y)) _ _ p3 p4 (HN3.out.same (below_drewN (Below.refl _ _) _)) (HN4b.out.same (below_drewN (Below.refl _ _) _))) ?_
        rintro e w'' ⟨rfl, j, rfl⟩
        exact ⟨rfl, y + j, by rw [World.drewN_drewN, Nat.add_assoc]⟩
      go_wp2_with fail
      go_quiet (first | (go_at_call 37; exact HSM.out _))
      go_wp2_with fail
      go_quiet (fail)
      go_wp2_with fail
      go_ret
      exact ⟨rfl, by first | exact below_drewN HB4.out _ | exact below_drewN (below_drewN HB4.out _) _ | exact below_drewN (below_drewN (below_drewN HB4.out _) _) _⟩
end Go.Proofs.YtgddmpmcnjlcjaaDoor
