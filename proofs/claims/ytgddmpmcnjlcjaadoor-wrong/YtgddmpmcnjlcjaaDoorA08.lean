import Derived.Test.YtgddmpmcnjlcjaaDoorA07
namespace Go.Proofs.YtgddmpmcnjlcjaaDoor
open Go.RowKit
set_option linter.unusedVariables false

theorem pass_stop (b : List Lk.St) (p : Nat) (h : b.length ≤ p ∨ (Lk.bodyAt b p).kind ≠ 6) : ∀ n, Lk.pass b n p = p
  | 0 => rfl
  | n + 1 => by unfold Lk.pass; rw [if_neg (by omega)]
theorem pass_go (b : List Lk.St) (p n : Nat) (h : p < b.length) (hk : (Lk.bodyAt b p).kind = 6) : Lk.pass b (n + 1) p = Lk.pass b n (Lk.bodyAt b p).next := by
  conv => lhs; unfold Lk.pass
  rw [if_pos ⟨h, hk⟩]
theorem ahead_zero (b : List Lk.St) : Lk.ahead b 0 = 0 := by simp [Lk.ahead]
theorem ahead_step (b : List Lk.St) (k : Nat) (h : k < b.length) : Lk.ahead b (k + 1) = Lk.ahead b k + if (Lk.bodyAt b k).kind = 6 then 0 else 1 := by
  unfold Lk.ahead
  rw [List.take_succ_eq_append_getElem h, List.filter_append, List.length_append]
  have : Lk.bodyAt b k = b[k] := by simp [Lk.bodyAt, h]
  rw [this]
  by_cases hk : b[k].kind = 6 <;> simp [hk]
theorem ahead_min (b : List Lk.St) (p : Nat) (h : b.length ≤ p) : Lk.ahead b p = Lk.ahead b b.length := by
  unfold Lk.ahead; rw [List.take_of_length_le h, List.take_of_length_le (Nat.le_refl _)]
theorem ahead_le (b : List Lk.St) (p : Nat) : Lk.ahead b p ≤ b.length := by
  unfold Lk.ahead
  exact Nat.le_trans (List.length_filter_le _ _) (List.length_take_le' _ _)

set_option maxRecDepth 100000 in
set_option maxHeartbeats 1000000 in
theorem settle_pos (bd : List Lk.St) (b gb cp : Nat) (p : Nat) (w : World) (hc56 : w.cell? ⟨b, 56, none⟩ = some (.slice (some ⟨gb, 0, none⟩) bd.length cp))
    (hk : ∀ i, i < bd.length → w.cell? ⟨gb, i * 10, none⟩ = some (.int .i64 (Lk.bodyAt bd i).kind)) (hn : ∀ i, i < bd.length → w.cell? ⟨gb, i * 10 + 8, none⟩ = some (.int .i64 (Lk.bodyAt bd i).next)) (hbl : bd.length ≤ 100000) :
    Calls Tryd.prog 76 #[.pointer (some ⟨b, 0, none⟩), .int .i64 p] w fun e w' => e = .returned (.int .i64 (Lk.settle bd p)) ∧ w' = w := by
  have hlI : (bd.length : Int) ≤ 100000 := by omega
  have HK : Hid _ := hk
  have HN : Hid _ := hn
  clear hk hn
  go_enter Tryd.func76, Tryd.ntmps76
  go_wp2
  go_loop [1, 12] (fun a c => ∃ k q : Nat, k ≤ bd.length ∧ c = .int .i64 k ∧ a = .int .i64 q ∧ Lk.pass bd (bd.length - k) q = Lk.pass bd bd.length p) (fun _ c => bd.length - (intOf c).toNat)
  case atStart => exact ⟨0, p, Nat.zero_le _, rfl, rfl, rfl⟩
  case round =>
    obtain ⟨k, q, hkl, rfl, rfl, hp⟩ := hrel
    have HP : Hid _ := hp
    clear hp
    by_cases hlt : k < bd.length
    · by_cases hq : q < bd.length
      · by_cases hm : (Lk.bodyAt bd q).kind = 6
        · have hqI : (q : Int) < (bd.length : Int) := by omega
          have c0 := HK.out q hq
          have c8 := HN.out q hq
          rw [hm] at c0
          have Hm : Hid _ := hm
          clear hm
          go_wp2
          go_round
          case rel => exact ⟨k + 1, (Lk.bodyAt bd q).next, by omega, by go_num, rfl, by rw [← HP.out, show bd.length - k = bd.length - (k + 1) + 1 by omega, pass_go bd q _ hq Hm.out]⟩
          case measure => simp [intOf]; omega
        · have hqI : (q : Int) < (bd.length : Int) := by omega
          have c0 := HK.out q hq
          have hm' : (((Lk.bodyAt bd q).kind : Int) != 6) = true := by simp; omega
          have HQ : Hid (Lk.pass bd bd.length p = q) := by rw [← show _ = _ from HP.out]; exact pass_stop bd q (.inr hm) _
          clear hm
          generalize (Lk.bodyAt bd q).kind = kk at c0 hm'
          go_wp2
          go_loop [5, 6] (fun a c => ∃ i : Nat, i ≤ bd.length ∧ i ≤ q ∧ c = .int .i64 i ∧ a = .int .i64 (Lk.ahead bd i)) (fun _ c => bd.length - (intOf c).toNat)
          case atStart => exact ⟨0, Nat.zero_le _, Nat.zero_le _, rfl, by rw [ahead_zero]; rfl⟩
          case round =>
            obtain ⟨i, hi1, hi2, rfl, rfl⟩ := hrel
            have hal := ahead_le bd i
            have halI : (Lk.ahead bd i : Int) ≤ 100000 := by omega
            by_cases hiq : i < q
            · by_cases hil : i < bd.length
              · have hiqI : (i : Int) < (q : Int) := by omega
                have hilI : (i : Int) < (bd.length : Int) := by omega
                have e0 := HK.out i hil
                have hst := ahead_step bd i hil
                have Hst : Hid _ := hst
                clear hst
                by_cases hm6 : (Lk.bodyAt bd i).kind = 6
                · rw [hm6] at e0
                  have Hm : Hid _ := hm6
                  clear hm6
                  go_wp2
                  go_round
                  case rel => exact ⟨i + 1, by omega, by omega, by go_num, by rw [Hst.out, if_pos Hm.out]; rfl⟩
                  case measure => simp [intOf]; omega
                · have hm' : (((Lk.bodyAt bd i).kind : Int) != 6) = true := by simp; omega
                  have Hm : Hid _ := hm6
                  clear hm6
                  generalize (Lk.bodyAt bd i).kind = kk at e0 hm'
                  go_wp2
                  go_round
                  case rel => exact ⟨i + 1, by omega, by omega, by go_num, by rw [Hst.out, if_neg Hm.out]; rfl⟩
                  case measure => simp [intOf]; omega
              · have hilI : ¬ (i : Int) < (bd.length : Int) := by omega
                have hiqI : (i : Int) < (q : Int) := by omega
                exfalso; omega
            · have hiqI : ¬ (i : Int) < (q : Int) := by omega
              go_wp2
              go_ret
              exact ⟨ret_int (by unfold Lk.settle; rw [HQ.out, show i = q by omega]), rfl⟩
      · have hqI : (bd.length : Int) ≤ (q : Int) := by omega
        have HQ : Hid (Lk.pass bd bd.length p = q) := by rw [← show _ = _ from HP.out]; exact pass_stop bd q (.inl (by omega)) _
        go_wp2
        go_loop [5, 6] (fun a c => ∃ i : Nat, i ≤ bd.length ∧ i ≤ q ∧ c = .int .i64 i ∧ a = .int .i64 (Lk.ahead bd i)) (fun _ c => bd.length - (intOf c).toNat)
        case atStart => exact ⟨0, Nat.zero_le _, Nat.zero_le _, rfl, by rw [ahead_zero]; rfl⟩
        case round =>
          obtain ⟨i, hi1, hi2, rfl, rfl⟩ := hrel
          have hal := ahead_le bd i
          have halI : (Lk.ahead bd i : Int) ≤ 100000 := by omega
          by_cases hiq : i < q
          · by_cases hil : i < bd.length
            · have hiqI : (i : Int) < (q : Int) := by omega
              have hilI : (i : Int) < (bd.length : Int) := by omega
              have e0 := HK.out i hil
              have hst := ahead_step bd i hil
              have Hst : Hid _ := hst
              clear hst
              by_cases hm6 : (Lk.bodyAt bd i).kind = 6
              · rw [hm6] at e0
                have Hm : Hid _ := hm6
                clear hm6
                go_wp2
                go_round
                case rel => exact ⟨i + 1, by omega, by omega, by go_num, by rw [Hst.out, if_pos Hm.out]; rfl⟩
                case measure => simp [intOf]; omega
              · have hm' : (((Lk.bodyAt bd i).kind : Int) != 6) = true := by simp; omega
                have Hm : Hid _ := hm6
                clear hm6
                generalize (Lk.bodyAt bd i).kind = kk at e0 hm'
                go_wp2
                go_round
                case rel => exact ⟨i + 1, by omega, by omega, by go_num, by rw [Hst.out, if_neg Hm.out]; rfl⟩
                case measure => simp [intOf]; omega
            · have hilI : ¬ (i : Int) < (bd.length : Int) := by omega
              have hiqI : (i : Int) < (q : Int) := by omega
              go_wp2
              go_ret
              exact ⟨ret_int (by unfold Lk.settle; rw [HQ.out, ahead_min bd q (by omega), show i = bd.length by omega]), rfl⟩
          · have hiqI : ¬ (i : Int) < (q : Int) := by omega
            go_wp2
            go_ret
            exact ⟨ret_int (by unfold Lk.settle; rw [HQ.out, show i = q by omega]), rfl⟩
    · have hke : k = bd.length := by omega
      have HQ : Hid (Lk.pass bd bd.length p = q) := by rw [← show _ = _ from HP.out, hke, Nat.sub_self]; rfl
      clear hke
      go_wp2
      go_loop [5, 6] (fun a c => ∃ i : Nat, i ≤ bd.length ∧ i ≤ q ∧ c = .int .i64 i ∧ a = .int .i64 (Lk.ahead bd i)) (fun _ c => bd.length - (intOf c).toNat)
      case atStart => exact ⟨0, Nat.zero_le _, Nat.zero_le _, rfl, by rw [ahead_zero]; rfl⟩
      case round =>
        obtain ⟨i, hi1, hi2, rfl, rfl⟩ := hrel
        have hal := ahead_le bd i
        have halI : (Lk.ahead bd i : Int) ≤ 100000 := by omega
        by_cases hiq : i < q
        · by_cases hil : i < bd.length
          · have hiqI : (i : Int) < (q : Int) := by omega
            have hilI : (i : Int) < (bd.length : Int) := by omega
            have e0 := HK.out i hil
            have hst := ahead_step bd i hil
            have Hst : Hid _ := hst
            clear hst
            by_cases hm6 : (Lk.bodyAt bd i).kind = 6
            · rw [hm6] at e0
              have Hm : Hid _ := hm6
              clear hm6
              go_wp2
              go_round
              case rel => exact ⟨i + 1, by omega, by omega, by go_num, by rw [Hst.out, if_pos Hm.out]; rfl⟩
              case measure => simp [intOf]; omega
            · have hm' : (((Lk.bodyAt bd i).kind : Int) != 6) = true := by simp; omega
              have Hm : Hid _ := hm6
              clear hm6
              generalize (Lk.bodyAt bd i).kind = kk at e0 hm'
              go_wp2
              go_round
              case rel => exact ⟨i + 1, by omega, by omega, by go_num, by rw [Hst.out, if_neg Hm.out]; rfl⟩
              case measure => simp [intOf]; omega
          · have hilI : ¬ (i : Int) < (bd.length : Int) := by omega
            have hiqI : (i : Int) < (q : Int) := by omega
            go_wp2
            go_ret
            exact ⟨ret_int (by unfold Lk.settle; rw [HQ.out, ahead_min bd q (by omega), show i = bd.length by omega]), rfl⟩
        · have hiqI : ¬ (i : Int) < (q : Int) := by omega
          go_wp2
          go_ret
          exact ⟨ret_int (by unfold Lk.settle; rw [HQ.out, show i = q by omega]), rfl⟩

end Go.Proofs.YtgddmpmcnjlcjaaDoor
