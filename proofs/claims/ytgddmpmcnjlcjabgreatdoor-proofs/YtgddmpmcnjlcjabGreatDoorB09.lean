import Derived.Test.YtgddmpmcnjlcjabGreatDoorB01
import Derived.Test.YtgddmpmcnjlcjabGreatDoorB06
import Derived.Test.YtgddmpmcnjlcjabGreatDoorB07
import Derived.Test.YtgddmpmcnjlcjabGreatDoorB08
import Derived.Test.YtgddmpmcnjlcjabGreatDoorB04
import Derived.Test.YtgddmpmcnjlcjabGreatDoorB05
namespace Go.Proofs.YtgddmpmcnjlcjabGreatDoor
open Go.RowKit
set_option linter.unusedVariables false
set_option maxRecDepth 100000 in
set_option maxHeartbeats 4000000 in
theorem take_any (r : Lk.RS) (vs vc vb : Value) (base b g cap : Nat) (ws : List ByteArray) (w : World) (hr : Rep w base b r vs vc vb) (hw : Wds w g ws) (hbl : r.body.length ≤ 100000) (hI : Inv r) (hs4 : r.secret.length ≤ 3) (hl : 0 < ws.length) :
    Calls Tryz.prog 34 #[.pointer (some ⟨b, 0, none⟩), .slice (some ⟨g, 0, none⟩) ws.length cap] w fun e w' =>
      e = .returned (.bool (Lk.take r (ws.map ByteArray.toList)).isSome) ∧ Took w w' base b (Lk.take r (ws.map ByteArray.toList)) := by
  have hc0 := hw 0 hl
  obtain ⟨O, hO⟩ : ∃ O, Lk.take r (ws.map ByteArray.toList) = O := ⟨_, rfl⟩
  rw [hO]
  have HO : Hid _ := hO
  have Hq : Hid _ := wd_map ws 0
  generalize ws.getD 0 ByteArray.empty = q at hc0 Hq
  have hlI : (0 : Int) < (ws.length : Int) := by omega
  have hlJ : ((ws.length : Int) == 0) = false := by rw [beq_eq_false_iff_ne]; omega
  have Hl : Hid _ := hl
  clear hO hl
  have K1 := fun sx => takeInput_any r vs vc vb base b g cap ws sx w hr hw
  have K2 := takeVar_any r vs vc vb base b g cap ws w hr hw hs4
  have K3 := takeArray_any r vs vc vb base b g cap ws w hr hw
  have K4 := takeLoad_any r vs vc vb base b g cap ws w hr hw hbl
  have K5 := takeStore_any r vs vc vb base b g cap ws w hr hw hbl
  have K6 := takeOut_any r vs vc vb base b g cap ws w hr hw hbl
  have K7 := fun kd => takeBranch_any r vs vc vb base b g cap ws kd w hr hw hbl
  have K8 := takeElse_any r vs vc vb base b g cap ws w hr hbl hI
  have K9 := takeEnd_any r vs vc vb base b g cap ws w hr hbl hI
  have K0 := takeAssign_any r vs vc vb base b g cap ws w hr hw hbl
  have HK1 := hid K1
  have HK2 := hid K2
  have HK3 := hid K3
  have HK4 := hid K4
  have HK5 := hid K5
  have HK6 := hid K6
  have HK7 := hid K7
  have HK8 := hid K8
  have HK9 := hid K9
  have HK0 := hid K0
  clear K1 K2 K3 K4 K5 K6 K7 K8 K9 K0 hr hw
  generalize hws : ws.map ByteArray.toList = wl at *
  have hwl : ws.length = wl.length := by rw [← hws]; simp
  have HWL : Hid _ := hwl
  clear hws hwl
  generalize ws.length = n at *
  go_enter Tryz.func34, Tryz.ntmps34
  go_wp2_with (first
    | (go_at_call_of 65 (Value.bool true); refine (HK1.out true).mono ?_; rintro e w' ⟨rfl, T⟩)
    | (go_at_call_of 65 (Value.bool false); refine (HK1.out false).mono ?_; rintro e w' ⟨rfl, T⟩)
    | (go_at_call 66; refine HK2.out.mono ?_; rintro e w' ⟨rfl, T⟩)
    | (go_at_call 67; refine HK3.out.mono ?_; rintro e w' ⟨rfl, T⟩)
    | (go_at_call 68; refine HK4.out.mono ?_; rintro e w' ⟨rfl, T⟩)
    | (go_at_call 69; refine HK5.out.mono ?_; rintro e w' ⟨rfl, T⟩)
    | (go_at_call 70; refine HK6.out.mono ?_; rintro e w' ⟨rfl, T⟩)
    | (go_at_call_of 71 (Value.int IntKind.i64 4); refine (HK7.out 4).mono ?_; rintro e w' ⟨rfl, T⟩)
    | (go_at_call_of 71 (Value.int IntKind.i64 5); refine (HK7.out 5).mono ?_; rintro e w' ⟨rfl, T⟩)
    | (go_at_call 72; refine HK8.out.mono ?_; rintro e w' ⟨rfl, T⟩)
    | (go_at_call 73; refine HK9.out.mono ?_; rintro e w' ⟨rfl, T⟩)
    | (go_at_call 74; refine HK0.out.mono ?_; rintro e w' ⟨rfl, T⟩))
  all_goals go_ret
  all_goals
    have hE := HO.out
    unfold Lk.take at hE
    rw [if_neg (by have := HWL.out; have := Hl.out; omega), show Lk.wd wl 0 = q.toList from Hq.out] at hE
    simp only [*, if_true, Bool.false_eq_true, if_false] at hE
    rw [← hE]
    exact ⟨rfl, T⟩
end Go.Proofs.YtgddmpmcnjlcjabGreatDoor
namespace Go.Proofs.YtgddmpmcnjlcjabGreatDoor
structure Ok (r : Lk.RS) : Prop where
  inv : Inv r
  sec : r.secret.length ≤ 3
theorem ok_start : Ok {} := ⟨⟨by simp, fun d h => by simp at h⟩, by simp⟩
theorem ok_declare {r r' : Lk.RS} {w : Lk.Wd} {p q : Nat} (h : Lk.declare r w p q = some r') (ok : Ok r) : Ok r' ∧ r'.body = r.body ∧ r'.secret = r.secret := by
  unfold Lk.declare at h
  split at h
  · cases h; exact ⟨⟨⟨ok.inv.dep, ok.inv.opn⟩, ok.sec⟩, rfl, rfl⟩
  · cases h
theorem ok_add {r r' : Lk.RS} {s : Lk.St} (h : Lk.add r s = some r') (ok : Ok r) : Ok r' ∧ r'.body.length = r.body.length + 1 ∧ r'.depth = r.depth ∧ r'.opn = r.opn := by
  unfold Lk.add at h
  split at h
  · cases h
    refine ⟨⟨⟨ok.inv.dep, fun d hd => ?_⟩, ok.sec⟩, by simp, rfl, rfl⟩
    have := ok.inv.opn d hd
    simp; omega
  · cases h
theorem ok_take {r r' : Lk.RS} {ws : List Lk.Wd} (h : Lk.take r ws = some r') (ok : Ok r) : Ok r' ∧ r'.body.length ≤ r.body.length + 1 := by
  have hadd : ∀ {s r''}, Lk.add r s = some r'' → Ok r'' ∧ r''.body.length ≤ r.body.length + 1 := fun h => ⟨(ok_add h ok).1, by rw [(ok_add h ok).2.1]; omega⟩
  have hin : ∀ sx, Lk.takeInput r ws sx = some r' → Ok r' ∧ r'.body.length ≤ r.body.length + 1 := by
    intro sx h
    unfold Lk.takeInput at h
    split at h
    · rename_i hc
      split at h
      · rename_i r2 hd
        cases h
        obtain ⟨o, hb, hs⟩ := ok_declare hd ok
        exact ⟨⟨⟨o.inv.dep, o.inv.opn⟩, by simp [hs]; omega⟩, by show r2.body.length ≤ _; rw [hb]; omega⟩
      · cases h
    · cases h
  have hbr : ∀ kd, Lk.takeBranch r ws kd = some r' → Ok r' ∧ r'.body.length ≤ r.body.length + 1 := by
    intro kd h
    unfold Lk.takeBranch at h
    split at h
    · rename_i hc
      split at h
      · split at h
        · rename_i r2 hd
          cases h
          obtain ⟨o, hb, hde, hop⟩ := ok_add hd ok
          refine ⟨⟨⟨by show r2.depth + 1 ≤ 4; omega, fun d hd' => ?_⟩, o.sec⟩, by show r2.body.length ≤ _; omega⟩
          have hd' : d < r2.depth + 1 := hd'
          show (Lk.upd r2.opn r2.depth (r.body.length, 0) d).1 < r2.body.length ∧ (Lk.upd r2.opn r2.depth (r.body.length, 0) d).2 < r2.body.length
          unfold Lk.upd
          split
          · simp; omega
          · exact o.inv.opn d (by omega)
        · cases h
      · cases h
    · cases h
  unfold Lk.take at h
  by_cases b0 : ws.length = 0
  · rw [if_pos b0] at h
    cases h
  rw [if_neg b0] at h
  by_cases b1 : (Lk.wd ws 0 == [115, 101, 99, 114, 101, 116]) = true
  · rw [if_pos b1] at h
    exact hin _ h
  rw [if_neg b1] at h
  by_cases b2 : (Lk.wd ws 0 == [112, 117, 98, 108, 105, 99]) = true
  · rw [if_pos b2] at h
    exact hin _ h
  rw [if_neg b2] at h
  by_cases b3 : (Lk.wd ws 0 == [118, 97, 114]) = true
  · rw [if_pos b3] at h
    unfold Lk.takeVar at h
    split at h
    · split at h
      · rename_i r2 hd
        cases h
        obtain ⟨o, hb, hs⟩ := ok_declare hd ok
        exact ⟨⟨⟨o.inv.dep, o.inv.opn⟩, o.sec⟩, by show r2.body.length ≤ _; rw [hb]; omega⟩
      · cases h
    · cases h
  rw [if_neg b3] at h
  by_cases b4 : (Lk.wd ws 0 == [97, 114, 114, 97, 121]) = true
  · rw [if_pos b4] at h
    unfold Lk.takeArray at h
    split at h
    · split at h
      · split at h
        · split at h
          · rename_i r2 hd
            cases h
            obtain ⟨o, hb, hs⟩ := ok_declare hd ok
            exact ⟨⟨⟨o.inv.dep, o.inv.opn⟩, o.sec⟩, by show r2.body.length ≤ _; rw [hb]; omega⟩
          · cases h
        · cases h
      · cases h
    · cases h
  rw [if_neg b4] at h
  by_cases b5 : (Lk.wd ws 0 == [108, 111, 97, 100]) = true
  · rw [if_pos b5] at h
    unfold Lk.takeLoad at h
    split at h
    · split at h
      · exact hadd h
      · cases h
    · cases h
  rw [if_neg b5] at h
  by_cases b6 : (Lk.wd ws 0 == [115, 116, 111, 114, 101]) = true
  · rw [if_pos b6] at h
    unfold Lk.takeStore at h
    split at h
    · split at h
      · exact hadd h
      · cases h
    · cases h
  rw [if_neg b6] at h
  by_cases b7 : (Lk.wd ws 0 == [111, 117, 116]) = true
  · rw [if_pos b7] at h
    unfold Lk.takeOut at h
    split at h
    · split at h
      · exact hadd h
      · cases h
    · cases h
  rw [if_neg b7] at h
  by_cases b8 : (Lk.wd ws 0 == [105, 102]) = true
  · rw [if_pos b8] at h
    exact hbr _ h
  rw [if_neg b8] at h
  by_cases b9 : (Lk.wd ws 0 == [119, 104, 105, 108, 101]) = true
  · rw [if_pos b9] at h
    exact hbr _ h
  rw [if_neg b9] at h
  by_cases b10 : (Lk.wd ws 0 == [101, 108, 115, 101]) = true
  · rw [if_pos b10] at h
    unfold Lk.takeElse at h
    split at h
    · rename_i hc
      cases h
      refine ⟨⟨⟨ok.inv.dep, fun d hd => ?_⟩, ok.sec⟩, by simp⟩
      have hd : d < r.depth := hd
      have hx := ok.inv.opn d hd
      show (Lk.upd r.opn (r.depth - 1) ((r.opn (r.depth - 1)).1, r.body.length) d).1 < _ ∧ (Lk.upd r.opn (r.depth - 1) ((r.opn (r.depth - 1)).1, r.body.length) d).2 < _
      unfold Lk.upd
      have hy := ok.inv.opn (r.depth - 1) (by omega)
      split
      · simp; omega
      · simp; omega
    · cases h
  rw [if_neg b10] at h
  by_cases b11 : (Lk.wd ws 0 == [101, 110, 100]) = true
  · rw [if_pos b11] at h
    unfold Lk.takeEnd at h
    split at h
    · rename_i hc
      cases h
      have hlen : ∀ (c : Prop) [Decidable c] (a b : Nat) (x y z : Lk.St), ((if c then r.body.set a x else r.body.set b y) ++ [z]).length = r.body.length + 1 := by
        intro c _ a b x y z
        split <;> simp
      refine ⟨⟨⟨by have := ok.inv.dep; show r.depth - 1 ≤ 4; omega, fun d hd => ?_⟩, ok.sec⟩, by rw [hlen]; omega⟩
      have hd : d < r.depth - 1 := hd
      have hx := ok.inv.opn d (by omega)
      show (r.opn d).1 < _ ∧ (r.opn d).2 < _
      rw [hlen]
      omega
    · cases h
  rw [if_neg b11] at h
  unfold Lk.takeAssign at h
  split at h
  · split at h
    · split at h
      · exact hadd h
      · split at h
        · exact hadd h
        · cases h
    · cases h
  · cases h
theorem lines_step (r : Lk.RS) (n : Nat) (l : Lk.Wd) (ls : List Lk.Wd) (h : ls ≠ []) : Lk.lines r n (l :: ls) = match Lk.take r (Lk.cut 32 l) with | some r' => Lk.lines r' (n + 1) ls | none => (r, n + 1) := by
  cases ls with
  | nil => exact absurd rfl h
  | cons m ls =>
    conv => lhs; unfold Lk.lines
    cases Lk.take r (Lk.cut 32 l) <;> rfl
end Go.Proofs.YtgddmpmcnjlcjabGreatDoor
namespace Go.Proofs.YtgddmpmcnjlcjabGreatDoor
open Go.RowKit
set_option linter.unusedVariables false
def zeros : Array Value := #[Value.slice none 0 0, Value.int .i64 0, Value.slice none 0 0, Value.slice none 0 0, Value.int .i64 0, Value.int .i64 0, Value.int .i64 0, Value.int .i64 0, Value.int .i64 0, Value.int .i64 0, Value.int .i64 0, Value.int .i64 0, Value.int .i64 0, Value.int .i64 0, Value.int .i64 0, Value.int .i64 0, Value.int .i64 0, Value.int .i64 0, Value.int .i64 0, Value.int .i64 0, Value.int .i64 0, Value.int .i64 0, Value.int .i64 0, Value.int .i64 0, Value.int .i64 0, Value.int .i64 0, Value.int .i64 0, Value.int .i64 0, Value.int .i64 0, Value.int .i64 0, Value.int .i64 0, Value.int .i64 0, Value.int .i64 0, Value.int .i64 0, Value.int .i64 0, Value.int .i64 0, Value.int .i64 0, Value.int .i64 0, Value.int .i64 0, Value.int .i64 0, Value.int .i64 0, Value.int .i64 0, Value.int .i64 0, Value.int .i64 0, Value.int .i64 0, Value.int .i64 0, Value.int .i64 0, Value.int .i64 0, Value.int .i64 0, Value.int .i64 0, Value.int .i64 0, Value.int .i64 0, Value.int .i64 0, Value.int .i64 0, Value.int .i64 0, Value.int .i64 0, Value.slice none 0 0, Value.int .i64 0, Value.int .i64 0, Value.int .i64 0, Value.int .i64 0, Value.int .i64 0, Value.int .i64 0, Value.int .i64 0, Value.int .i64 0, Value.int .i64 0, Value.int .i64 0]
set_option maxRecDepth 100000 in
theorem zeros_at : ∀ i, i < 67 → zeros[i]? = some (rcell {} (.slice none 0 0) (.slice none 0 0) (.slice none 0 0) (.slice none 0 0) i)
  | 0, _ => rfl
  | 1, _ => rfl
  | 2, _ => rfl
  | 3, _ => rfl
  | 4, _ => rfl
  | 5, _ => rfl
  | 6, _ => rfl
  | 7, _ => rfl
  | 8, _ => rfl
  | 9, _ => rfl
  | 10, _ => rfl
  | 11, _ => rfl
  | 12, _ => rfl
  | 13, _ => rfl
  | 14, _ => rfl
  | 15, _ => rfl
  | 16, _ => rfl
  | 17, _ => rfl
  | 18, _ => rfl
  | 19, _ => rfl
  | 20, _ => rfl
  | 21, _ => rfl
  | 22, _ => rfl
  | 23, _ => rfl
  | 24, _ => rfl
  | 25, _ => rfl
  | 26, _ => rfl
  | 27, _ => rfl
  | 28, _ => rfl
  | 29, _ => rfl
  | 30, _ => rfl
  | 31, _ => rfl
  | 32, _ => rfl
  | 33, _ => rfl
  | 34, _ => rfl
  | 35, _ => rfl
  | 36, _ => rfl
  | 37, _ => rfl
  | 38, _ => rfl
  | 39, _ => rfl
  | 40, _ => rfl
  | 41, _ => rfl
  | 42, _ => rfl
  | 43, _ => rfl
  | 44, _ => rfl
  | 45, _ => rfl
  | 46, _ => rfl
  | 47, _ => rfl
  | 48, _ => rfl
  | 49, _ => rfl
  | 50, _ => rfl
  | 51, _ => rfl
  | 52, _ => rfl
  | 53, _ => rfl
  | 54, _ => rfl
  | 55, _ => rfl
  | 56, _ => rfl
  | 57, _ => rfl
  | 58, _ => rfl
  | 59, _ => rfl
  | 60, _ => rfl
  | 61, _ => rfl
  | 62, _ => rfl
  | 63, _ => rfl
  | 64, _ => rfl
  | 65, _ => rfl
  | 66, _ => rfl
  | n + 67, h => absurd h (by omega)
theorem rep_start (w : World) : Rep (w.alloc (.cells zeros 101)) w.heap.size w.heap.size {} (.slice none 0 0) (.slice none 0 0) (.slice none 0 0) := by
  refine ⟨?_, Nat.le_refl _, World.ownsRow_nil _ _ _ _, World.ownsRow_nil _ _ _ _, World.ownsRow_nil _ _ _ _, ?_, ?_, ?_, .inl rfl, .inl rfl, .inl rfl⟩
  · exact World.rowIs_alloc w zeros 101 _ (fun i hi => zeros_at i hi)
  all_goals simp [Value.ownBlock]
theorem wds_of {w : World} {base g cap : Nat} {ws : List ByteArray} (h : w.ownsRow base 9 1 (.slice (some ⟨g, 0, none⟩) ws.length cap) ws.length (ws.map Value.string)) : Wds w g ws := by
  intro i hi
  rw [h.cellAt i (by omega)]
  simp [hi]
theorem len_of {ws : List ByteArray} {c : UInt8} {l : Lk.Wd} (h : ws.map ByteArray.toList = Lk.cut c l) : 0 < ws.length := by
  have := Lk.cut_ne c l
  rw [← h] at this
  cases ws with
  | nil => simp at this
  | cons x xs => simp
theorem cell_through {w W wr w1 w2 : World} {i : Nat} {v : Value} (hb : Below (w.heap.size + 1) W wr) (hb1 : Below wr.heap.size wr w1) (hb2 : Below (w.heap.size + 1) w1 w2) (hsz : W.heap.size = w.heap.size + 2) (h : W.cell? ⟨w.heap.size, i, none⟩ = some v) : w2.cell? ⟨w.heap.size, i, none⟩ = some v := by
  have z := hb.size
  rw [hb2.cell (by simp), hb1.cell (by simp; omega), hb.cell (by simp)]; exact h
theorem frozen_through {w W wr w1 w2 : World} (hb : Below (w.heap.size + 1) W wr) (hb1 : Below wr.heap.size wr w1) (hb2 : Below (w.heap.size + 1) w1 w2) (hsz : W.heap.size = w.heap.size + 2) (h : ∀ i, W.frozen? ⟨w.heap.size, i, none⟩ = false) : ∀ i, w2.frozen? ⟨w.heap.size, i, none⟩ = false := by
  intro i
  have z := hb.size
  rw [hb2.frozen (by simp), hb1.frozen (by simp; omega), hb.frozen (by simp)]; exact h i
theorem read_below {w W wr w1 w2 : World} (hb0 : Below w.heap.size w W) (hb : Below (w.heap.size + 1) W wr) (hb1 : Below wr.heap.size wr w1) (hb2 : Below (w.heap.size + 1) w1 w2) (hsz : W.heap.size = w.heap.size + 2) : Below w.heap.size w w2 := by
  have z := hb.size
  exact ((hb0.trans (hb.mono (by omega))).trans (hb1.mono (by omega))).trans (hb2.mono (by omega))
theorem cell_thr {w W wr : World} {i : Nat} {v : Value} (hb : Below (w.heap.size + 1) W wr) (hsz : W.heap.size = w.heap.size + 2) (h : W.cell? ⟨w.heap.size, i, none⟩ = some v) : wr.cell? ⟨w.heap.size, i, none⟩ = some v := by
  rw [hb.cell (by simp)]; exact h
theorem frozen_thr {w W wr : World} (hb : Below (w.heap.size + 1) W wr) (hsz : W.heap.size = w.heap.size + 2) (h : ∀ i, W.frozen? ⟨w.heap.size, i, none⟩ = false) : ∀ i, wr.frozen? ⟨w.heap.size, i, none⟩ = false := by
  intro i
  rw [hb.frozen (by simp)]; exact h i
theorem read_bel {w W wr : World} (hb0 : Below w.heap.size w W) (hb : Below (w.heap.size + 1) W wr) : Below w.heap.size w wr := hb0.trans (hb.mono (by omega))
theorem ownsRow_base {w : World} {base base' : Nat} {e : TypeId} {size : Nat} {v : Value} {n : Nat} {xs : List Value} (h : w.ownsRow base e size v n xs) (hb : base' ≤ base) : w.ownsRow base' e size v n xs := by
  refine ⟨h.1, ?_⟩
  rcases h.2 with hn | ⟨g, cap, cur, rfl, hb', rest⟩
  · exact .inl hn
  · exact .inr ⟨g, cap, cur, rfl, Nat.le_trans hb hb', rest⟩
theorem own_fin {w1 : World} {N base : Nat} {e : TypeId} {size : Nat} {v : Value} {n : Nat} {xs : List Value} (h : w1.ownsRow base e size v n xs) (hN : N + 1 ≤ base) (hne : v.ownBlock ≠ some (N + 1)) (u0 u1 u2 u3 u4 : Value) :
    (((((w1.setCell ⟨N + 1, 3, none⟩ u0).setCell ⟨N, 0, none⟩ u1).setCell ⟨N, 1, none⟩ u2).setCell ⟨N, 2, none⟩ u3).setCell ⟨N, 3, none⟩ u4).ownsRow N e size v n xs := by
  have hN0 : v.ownBlock ≠ some N := fun e => by have := (h.lt _ e).1; omega
  exact ownsRow_base (ownsRow_setCell (ownsRow_setCell (ownsRow_setCell (ownsRow_setCell (ownsRow_setCell h hne u0) hN0 u1) hN0 u2) hN0 u3) hN0 u4) (by omega)
structure ReadOut (w w' : World) (e : Ending) (o : Lk.RS × Nat) : Prop where
  bel : Below w.heap.size w w'
  bad : o.2 ≠ 0 → e = .returned (.tuple #[.agg #[.slice none 0 0, .int .i64 0, .slice none 0 0, .slice none 0 0], .int .i64 o.2])
  good : o.2 = 0 → ∃ vs vc vk, e = .returned (.tuple #[.agg #[vs, .int .i64 o.1.vars, vc, vk], .int .i64 0]) ∧ w'.ownsRow w.heap.size 4 1 vs o.1.secret.length (o.1.secret.map Value.bool) ∧
    w'.ownsRow w.heap.size 3 1 vc o.1.cells.length (o.1.cells.map fun (n : Nat) => .int .i64 n) ∧ w'.ownsRow w.heap.size 153 10 vk (Lk.link o.1.body).length (flat (Lk.link o.1.body))
set_option maxRecDepth 100000 in
set_option maxHeartbeats 1000000 in
theorem read_long (s : ByteArray) (w : World) (h : 600 < s.size) : Calls Tryz.prog 17 #[.string s] w fun e w' => ReadOut w w' e (Lk.read s.toList) := by
  have hS : Lk.read s.toList = ({}, 1) := by unfold Lk.read; rw [if_pos (by rw [tl_len]; exact h)]
  rw [hS]
  have hI : (600 : Int) < (s.size : Int) := by omega
  go_enter Tryz.func17, Tryz.ntmps17
  go_wp2_with fail
  refine bodyPost_ret (v := .tuple #[.agg #[.slice none 0 0, .int .i64 0, .slice none 0 0, .slice none 0 0], .int .i64 1]) (by simp [results, Tryz.results17, go_sem]) rfl ⟨?_, fun _ => rfl, fun h => by simp at h⟩
  exact (Below.refl _ _).alloc (Nat.le_refl _) _
set_option maxRecDepth 100000 in
set_option maxHeartbeats 4000000 in
theorem read_short (s : ByteArray) (w : World) (h : s.size ≤ 600) : Calls Tryz.prog 17 #[.string s] w fun e w' => ReadOut w w' e (Lk.read s.toList) := by
  obtain ⟨O, hO⟩ : ∃ O, Lk.read s.toList = O := ⟨_, rfl⟩
  rw [hO]
  have hS : Lk.lines {} 0 (Lk.cut 10 s.toList) = O := by rw [← hO]; unfold Lk.read; rw [if_neg (by rw [tl_len]; omega)]
  have HS := hid hS
  clear hS hO
  have hI : (s.size : Int) ≤ 600 := by omega
  go_enter Tryz.func17, Tryz.ntmps17
  go_wp2_with fail
  generalize hW : World.alloc (World.alloc _ _) _ = W
  have hsz : W.heap.size = w.heap.size + 2 := by rw [← hW]; simp
  have R0 : Hid (Rep W (w.heap.size + 1) (w.heap.size + 1) {} (.slice none 0 0) (.slice none 0 0) (.slice none 0 0)) := by
    rw [← hW]
    have := rep_start (w.alloc (.cells #[.slice none 0 0, .int .i64 0, .slice none 0 0, .slice none 0 0] 49))
    rw [show (w.alloc (.cells #[.slice none 0 0, .int .i64 0, .slice none 0 0, .slice none 0 0] 49)).heap.size = w.heap.size + 1 from by simp] at this
    exact this
  have B0 : Hid (Below w.heap.size w W) := by rw [← hW]; exact ((Below.refl _ _).alloc (Nat.le_refl _) _).alloc (by simp) _
  have blk : W.heap[w.heap.size]? = some (.cells #[.slice none 0 0, .int .i64 0, .slice none 0 0, .slice none 0 0] 49) := by
    rw [← hW, Below.heap_alloc _ _ _ (by simp)]; exact heap_alloc_new w _
  have x0 := cellAt blk 0 _ rfl
  have x1 := cellAt blk 1 _ rfl
  have x2 := cellAt blk 2 _ rfl
  have x3 := cellAt blk 3 _ rfl
  have hfz : ∀ i, W.frozen? ⟨w.heap.size, i, none⟩ = false := fun i => by simp [World.frozen?, blk]
  clear hW blk
  go_loopw [5, 6, 7] (fun en st i wr => ∃ (k a n : Nat) (r : Lk.RS) (vs vc vb : Value), k ≤ s.size ∧ a ≤ k ∧ i = .int .i64 k ∧ st = .int .i64 a ∧ en = .int .i64 n ∧ n ≤ a ∧ r.body.length ≤ n ∧ Rep wr (w.heap.size + 1) (w.heap.size + 1) r vs vc vb ∧ Ok r ∧ Below (w.heap.size + 1) W wr ∧
      Lk.lines r n (Lk.cut 10 (s.toList.drop a)) = O ∧ (∀ j, a ≤ j → j < k → s.toList[j]? ≠ some 10)) (fun _ _ i _ => s.size - (intOf i).toNat)
  case atStart => exact ⟨0, 0, 0, {}, _, _, _, Nat.zero_le _, Nat.le_refl _, rfl, rfl, rfl, Nat.le_refl _, Nat.le_refl _, R0.out, ok_start, Below.refl _ _, HS.out, fun j _ hj => by omega⟩
  case round =>
    obtain ⟨k, a, n, r, vs, vc, vb, hk, ha, rfl, rfl, rfl, hna, hbn, hr, hok, hb, hl, hno⟩ := hrel
    have HR := hid hr
    have HB := hid hb
    have HL := hid hl
    have HN := hid hno
    have hlt := hr.lt
    have hsw := hb.size
    have hnI : (n : Int) ≤ 600 := by omega
    clear hr hb hl hno
    by_cases hks : k < s.size
    · by_cases hnl : s[k] = 10
      · have hnI2 : (((s[k].toNat : Int)) != 10) = false := by rw [hnl]; rfl
        have Hnl := hid hnl
        clear hnl
        have hstep := Lk.cut_step 10 s.toList a k ha (by rw [tl_get s k hks, Hnl.out]) HN.out
        have hseg : (s.extract a k).toList = (s.toList.drop a).take (k - a) := extract_toList s a k
        have HL2 : Hid (Lk.lines r n ((s.extract a k).toList :: Lk.cut 10 (s.toList.drop (k + 1))) = O) := by
          rw [hseg, ← hstep]; exact HL.out
        clear hstep hseg
        have hes : (s.extract a k).size ≤ 1000000 := by rw [← tl_len, extract_toList]; simp; omega
        have Hes := hid hes
        clear hes
        obtain ⟨T, hT⟩ : ∃ T, Lk.take r (Lk.cut 32 (s.extract a k).toList) = T := ⟨_, rfl⟩
        have HT := hid hT
        clear hT
        cases T with
        | none =>
          have HO : Hid (O = (r, n + 1)) := by
            show O = _
            rw [← HL2.out, lines_step _ _ _ _ (Lk.cut_ne 10 _), HT.out]
          clear HL2
          go_wp2_with (first
            | (go_at_call 33; refine (split_any _ _ Hes.out).mono ?_; rintro e w1 ⟨g, cap, ws, rfl, hws, hown, hb1⟩; have HWS := hid hws; have HOW := hid hown; have HB1 := hid hb1; have z1 := hb1.size; clear hws hown hb1)
            | (go_at_call 34; refine (take_any r vs vc vb (w.heap.size + 1) (w.heap.size + 1) g cap ws _ (HR.out.below HB1.out) ?_ ?_ hok.inv hok.sec ?_).mono ?_; exact wds_of HOW.out; omega; exact len_of HWS.out; rintro e w2 ⟨rfl, T2⟩; rw [HWS.out, HT.out] at T2; have B2 := T2.bel; have HB2 := hid B2; rw [HWS.out, HT.out]; have q0 := cell_through HB.out HB1.out HB2.out hsz x0; have q1 := cell_through HB.out HB1.out HB2.out hsz x1; have q2 := cell_through HB.out HB1.out HB2.out hsz x2; have q3 := cell_through HB.out HB1.out HB2.out hsz x3; have p0 := frozen_through HB.out HB1.out HB2.out hsz hfz; clear T2 B2))
          refine bodyPost_ret (v := .tuple #[.agg #[.slice none 0 0, .int .i64 0, .slice none 0 0, .slice none 0 0], .int .i64 (n + 1)]) (by simp [results, Tryz.results17, go_sem, q0, q1, q2, q3]) rfl ?_
          rw [HO.out]
          exact ⟨((((read_below B0.out HB.out HB1.out HB2.out hsz).setCell (Nat.le_refl _) _).setCell (Nat.le_refl _) _).setCell (Nat.le_refl _) _).setCell (Nat.le_refl _) _, fun _ => rfl, fun h => by simp at h⟩
        | some r' =>
          have HO : Hid (Lk.lines r' (n + 1) (Lk.cut 10 (s.toList.drop (k + 1))) = O) := by
            show _ = O
            rw [← HL2.out, lines_step _ _ _ _ (Lk.cut_ne 10 _), HT.out]
          clear HL2
          have hok2 := ok_take HT.out hok
          have HOK := hid hok2
          clear hok2
          go_wp2_with (first
            | (go_at_call 33; refine (split_any _ _ Hes.out).mono ?_; rintro e w1 ⟨g, cap, ws, rfl, hws, hown, hb1⟩; have HWS := hid hws; have HOW := hid hown; have HB1 := hid hb1; have z1 := hb1.size; clear hws hown hb1)
            | (go_at_call 34; refine (take_any r vs vc vb (w.heap.size + 1) (w.heap.size + 1) g cap ws _ (HR.out.below HB1.out) ?_ ?_ hok.inv hok.sec ?_).mono ?_; exact wds_of HOW.out; omega; exact len_of HWS.out; rintro e w2 ⟨rfl, T2⟩; rw [HWS.out, HT.out] at T2; have HT2 := hid T2; rw [HWS.out, HT.out]; clear T2))
          go_roundw
          case rel =>
            obtain ⟨vs2, vc2, vb2, R2⟩ := HT2.out.rep r' rfl
            exact ⟨k + 1, k + 1, n + 1, r', vs2, vc2, vb2, by omega, Nat.le_refl _, by go_num, by go_num, by go_num, by omega, by have := HOK.out.2; omega, R2, HOK.out.1, (HB.out.trans (HB1.out.mono (by omega))).trans HT2.out.bel, HO.out, fun j h1 h2 => by omega⟩
          case measure => simp [intOf]; omega
      · have hnI2 : (((s[k].toNat : Int)) != 10) = true := by
          simp; intro h; exact hnl (UInt8.toNat_inj.1 (by rw [show (10 : UInt8).toNat = 10 from rfl]; omega))
        have Hnl := hid hnl
        clear hnl
        go_wp2_with fail
        go_roundw
        case rel =>
          refine ⟨k + 1, a, n, r, vs, vc, vb, by omega, by omega, by go_num, rfl, rfl, hna, hbn, HR.out, hok, HB.out, HL.out, ?_⟩
          intro j h1 h2
          by_cases hj : j = k
          · subst hj; rw [tl_get s j hks]; intro h; exact Hnl.out (by simpa using h)
          · exact HN.out j h1 (by omega)
        case measure => simp [intOf]; omega
    · have hke : k = s.size := by omega
      have HO : Hid (Lk.lines r n [s.toList.drop a] = O) := by
        show _ = O
        rw [← Lk.cut_last 10 s.toList a (by rw [tl_len, ← hke]; exact HN.out)]; exact HL.out
      clear HL
      have hd66 := HR.out.row.cell (i := 66) (by omega)
      rw [show rcell r vs vc (.slice none 0 0) vb 66 = .int .i64 r.depth from rfl] at hd66
      have q0 := cell_thr HB.out hsz x0
      have q1 := cell_thr HB.out hsz x1
      have q2 := cell_thr HB.out hsz x2
      have q3 := cell_thr HB.out hsz x3
      have p0 := frozen_thr HB.out hsz hfz
      have HX := hid (And.intro x0 (And.intro x1 (And.intro x2 x3)))
      clear x0 x1 x2 x3 hfz
      by_cases has : a < s.size
      · have HO2 : Hid (O = (r, n + 1)) := by
          show O = _
          rw [← HO.out]; unfold Lk.lines; rw [if_neg (by simp; intro h1; rw [tl_len] at h1; omega)]
        have hasI : (a : Int) < (s.size : Int) := by omega
        clear HO hke
        go_wp2_with fail
        refine bodyPost_ret (v := .tuple #[.agg #[.slice none 0 0, .int .i64 0, .slice none 0 0, .slice none 0 0], .int .i64 (n + 1)]) (by simp [results, Tryz.results17, go_sem, q0, q1, q2, q3]) rfl ?_
        rw [HO2.out]
        exact ⟨((((read_bel B0.out HB.out).setCell (Nat.le_refl _) _).setCell (Nat.le_refl _) _).setCell (Nat.le_refl _) _).setCell (Nat.le_refl _) _, fun _ => rfl, fun h => by simp at h⟩
      · have hasI : ¬ (a : Int) < (s.size : Int) := by omega
        have hl0 : (s.toList.drop a).length = 0 := by simp; rw [tl_len]; omega
        by_cases hd0 : r.depth = 0
        · have HO2 : Hid (O = (r, 0)) := by
            show O = _
            rw [← HO.out]; unfold Lk.lines; rw [if_pos ⟨hl0, hd0⟩]
          rw [hd0] at hd66
          have g0 := HR.out.row.cell (i := 0) (by omega)
          have g1 := HR.out.row.cell (i := 1) (by omega)
          have g2 := HR.out.row.cell (i := 2) (by omega)
          have g3 := HR.out.row.cell (i := 3) (by omega)
          have gf := HR.out.row.frozen 3
          simp only [show rcell r vs vc (.slice none 0 0) vb 0 = vs from rfl, show rcell r vs vc (.slice none 0 0) vb 1 = .int .i64 r.vars from rfl, show rcell r vs vc (.slice none 0 0) vb 2 = vc from rfl, show rcell r vs vc (.slice none 0 0) vb 3 = .slice none 0 0 from rfl] at g0 g1 g2 g3
          obtain ⟨as0, cs0, hvs⟩ := body_val HR.out.sec
          obtain ⟨ac, cc, hvc⟩ := body_val HR.out.cel
          subst hvs hvc
          clear HO hke hl0 hd0
          go_wp2_with (first | (go_at_call 35; refine (link_any r _ _ vb (w.heap.size + 1) (w.heap.size + 1) _ HR.out ?_).mono ?_; omega; rintro e w1 ⟨v, rfl, hown, hb1⟩; obtain ⟨al, cl, hvl⟩ := body_val hown; subst hvl; have HOW := hid hown; have HB1 := hid hb1; have z1 := hb1.size; have k0 := cell_later hb1 g0; have k1 := cell_later hb1 g1; have k2 := cell_later hb1 g2; have k3 := cell_later hb1 g3; have kf := (hb1.frozen (p := ⟨w.heap.size + 1, 3, none⟩) hlt).trans gf; have l0 := cell_later hb1 q0; have l1 := cell_later hb1 q1; have l2 := cell_later hb1 q2; have l3 := cell_later hb1 q3; have lf := fun i => (hb1.frozen (p := ⟨w.heap.size, i, none⟩) (by show w.heap.size < wr.heap.size; omega)).trans (p0 i); clear hown hb1))
          refine bodyPost_ret (v := .tuple #[.agg #[.slice as0 r.secret.length cs0, .int .i64 r.vars, .slice ac r.cells.length cc, .slice al (Lk.link r.body).length cl], .int .i64 0]) (by simp [results, Tryz.results17, go_sem, l0, l1, l2, l3]) rfl ?_
          rw [HO2.out]
          have z0 := HB.out.size
          refine ⟨?_, fun h => absurd rfl h, fun _ => ⟨_, _, _, rfl, own_fin (ownsRow_same HR.out.sec HB1.out.block) (by omega) HR.out.ns _ _ _ _ _, own_fin (ownsRow_same HR.out.cel HB1.out.block) (by omega) HR.out.nc _ _ _ _ _, own_fin HOW.out (by omega) (fun e => by have := (HOW.out.lt _ e).1; omega) _ _ _ _ _⟩⟩
          exact ((((((read_bel B0.out HB.out).trans (HB1.out.mono (by omega))).setCell (Nat.le_succ _) _).setCell (Nat.le_refl _) _).setCell (Nat.le_refl _) _).setCell (Nat.le_refl _) _).setCell (Nat.le_refl _) _
        · have HO2 : Hid (O = (r, n + 1)) := by
            show O = _
            rw [← HO.out]; unfold Lk.lines; rw [if_neg (fun h => hd0 h.2)]
          have hdI : (0 : Int) < (r.depth : Int) := by omega
          clear HO hke hl0 hd0
          go_wp2_with fail
          refine bodyPost_ret (v := .tuple #[.agg #[.slice none 0 0, .int .i64 0, .slice none 0 0, .slice none 0 0], .int .i64 (n + 1)]) (by simp [results, Tryz.results17, go_sem, q0, q1, q2, q3]) rfl ?_
          rw [HO2.out]
          exact ⟨((((read_bel B0.out HB.out).setCell (Nat.le_refl _) _).setCell (Nat.le_refl _) _).setCell (Nat.le_refl _) _).setCell (Nat.le_refl _) _, fun _ => rfl, fun h => by simp at h⟩
theorem read_any (s : ByteArray) (w : World) : Calls Tryz.prog 17 #[.string s] w fun e w' => ReadOut w w' e (Lk.read s.toList) := by
  by_cases h : s.size ≤ 600
  · exact read_short s w h
  · exact read_long s w (by omega)
end Go.Proofs.YtgddmpmcnjlcjabGreatDoor
