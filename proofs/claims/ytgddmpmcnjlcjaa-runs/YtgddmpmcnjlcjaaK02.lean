import Derived.Test.YtgddmpmcnjlcjaaK01
import Derived.Laws.IdiomStrings
import Derived.Test.YtgddmpmcnjlcjaaProg
namespace Go.Proofs.Ytgddmpmcnjlcjaa
open Go.RowKit
set_option linter.unusedVariables false

theorem toList_append (a b : ByteArray) : (a ++ b).toList = a.toList ++ b.toList := by
  rw [ByteArray.toList_eq, ByteArray.toList_eq, ByteArray.toList_eq]; simp

theorem seg_snoc (L : List UInt8) (a k : Nat) (c : UInt8) (ha : a ≤ k) (hk : L[k]? = some c) : (L.drop a).take (k - a) ++ [c] = (L.drop a).take (k + 1 - a) := by
  obtain ⟨hlt, hv⟩ := List.getElem?_eq_some_iff.1 hk
  rw [show k + 1 - a = (k - a) + 1 by omega, List.take_succ_eq_append_getElem (by simp; omega)]
  simp [← hv, show a + (k - a) = k by omega]

theorem take_one (s : ByteArray) (k : Nat) (h : k < s.size) : (s.toList.drop k).take 1 = [s[k]] := by
  have h1 : k < s.toList.length := by rw [tl_len]; exact h
  have h2 := tl_get s k h
  rw [List.getElem?_eq_getElem h1] at h2
  rw [List.drop_eq_getElem_cons h1, List.take_succ_cons, List.take_zero, Option.some.inj h2]

set_option maxRecDepth 100000 in
set_option maxHeartbeats 1000000 in
theorem cut_any (s : ByteArray) (c : UInt8) (w : World) (hs : s.size ≤ 1000000) :
    Calls Try.prog 15 #[.string s, .int .u8 c.toNat] w fun e w' => ∃ (g cap : Nat) (ws : List ByteArray), e = .returned (.slice (some ⟨g, 0, none⟩) ws.length cap) ∧ ws.map ByteArray.toList = Lk.cut c s.toList ∧
      w'.ownsRow w.heap.size 9 1 (.slice (some ⟨g, 0, none⟩) ws.length cap) ws.length (ws.map Value.string) ∧ Below w.heap.size w w' := by
  obtain ⟨i0, hi, hz0, hz1, hz2⟩ := info_parts Try.infoStr
  go_enter Try.func15, Try.ntmps15
  go_wp2
  go_loopw [5, 6, 7] (fun t v i wr => ∃ (k a : Nat) (tb : ByteArray) (ws : List ByteArray), k ≤ s.size ∧ a ≤ k ∧ i = .int .i64 k ∧ t = .string tb ∧ tb.toList = (s.toList.drop a).take (k - a) ∧ wr.ownsRow w.heap.size 9 1 v ws.length (ws.map Value.string) ∧ Below w.heap.size w wr ∧
      ws.length ≤ k ∧ ws.map ByteArray.toList ++ Lk.cut c (s.toList.drop a) = Lk.cut c s.toList ∧ (∀ j, a ≤ j → j < k → s.toList[j]? ≠ some c))
    (fun _ _ i _ => s.size - (intOf i).toNat)
  case atStart => exact ⟨0, 0, _, [], Nat.zero_le _, Nat.le_refl _, rfl, rfl, by simp, World.ownsRow_nil _ _ _ _, Below.refl _ _, Nat.le_refl _, rfl, fun j _ h => by omega⟩
  case round =>
    obtain ⟨k, a, tb, ws, hk, ha, rfl, rfl, htb, hown, hnx, hwl, hcut, hno⟩ := hrel
    have Hcut := hid hcut
    have Hno := hid hno
    have Htb := hid htb
    clear hcut hno htb
    by_cases hlt : k < s.size
    · by_cases hsp : s[k] = c
      · have hspI : (((s[k].toNat : Int)) == (c.toNat : Int)) = true := by rw [hsp]; simp
        have Hsp := hid hsp
        clear hsp
        go_wp2_with (first | (at_builtin; refine wpList_append_lies _ rfl _ _ 46 rfl w.heap.size 9 i0 _ 1 16 Try.underlying46 hi hz0 hz1 hz2 rfl (by omega) _ ws.length (ws.map Value.string) rfl (hown.alloc _) ⟨wr.heap.size, 0, none⟩ 1 1 [.string tb] rfl rfl (cell_one_new _ _ _) (by simp [Value.oneCell']) (by omega) (by unfold maxLen; omega) (by omega) (by have := hnx.size; simp; omega) (wr.heap.size + 1) (by simp) ?_; intro g cap w1 hown1 hgrow hat hlt1))
        go_roundw
        case rel =>
          refine ⟨k + 1, k + 1, _, ws ++ [tb], by omega, Nat.le_refl _, by go_num, rfl, by simp, by simpa using hown1, ?_, by simp; omega, ?_, fun j h1 h2 => by omega⟩
          · exact Below.grown (hnx.alloc hnx.size _) hgrow (by have := hnx.size; simp; omega) (fun q hq => (hown.lt q hq).1)
          · rw [← Hcut.out, Lk.cut_step c s.toList a k ha (by rw [tl_get s k hlt, Hsp.out]) Hno.out, List.map_append, List.append_assoc]
            simp [Htb.out]
        case measure => simp [intOf]; omega
      · have hspI : (((s[k].toNat : Int)) == (c.toNat : Int)) = false := by
          simp; intro h; exact hsp (UInt8.toNat_inj.1 (by omega))
        have Hsp := hid hsp
        clear hsp
        have htz : tb.size ≤ k := by rw [← tl_len, show tb.toList = _ from Htb.out]; simp; omega
        have hcc : ¬ 9223372036854775807 < tb.size + (min (k + 1) s.size - k) := by omega
        go_wp2
        go_roundw
        case rel =>
          refine ⟨k + 1, a, _, ws, by omega, by omega, by go_num, rfl, ?_, hown, hnx, by omega, Hcut.out, ?_⟩
          · rw [toList_append, extract_toList, show tb.toList = _ from Htb.out, ← seg_snoc s.toList a k s[k] ha (tl_get s k hlt)]
            rw [show k + 1 - k = 1 by omega, take_one s k hlt]
          · intro j h1 h2
            by_cases hj : j = k
            · subst hj; rw [tl_get s j hlt]; intro h; exact Hsp.out (by simpa using h)
            · exact Hno.out j h1 (by omega)
        case measure => simp [intOf]; omega
    · have hks : k = s.size := by omega
      have Hks := hid hks
      clear hks
      go_wp2_with (first | (at_builtin; refine wpList_append_lies _ rfl _ _ 46 rfl w.heap.size 9 i0 _ 1 16 Try.underlying46 hi hz0 hz1 hz2 rfl (by omega) _ ws.length (ws.map Value.string) rfl (hown.alloc _) ⟨wr.heap.size, 0, none⟩ 1 1 [.string tb] rfl rfl (cell_one_new _ _ _) (by simp [Value.oneCell']) (by omega) (by unfold maxLen; omega) (by omega) (by have := hnx.size; simp; omega) (wr.heap.size + 1) (by simp) ?_; intro g cap w1 hown1 hgrow hat hlt1))
      go_ret
      refine ⟨g, cap, ws ++ [tb], by simp, ?_, by simpa using hown1, ?_⟩
      · rw [← Hcut.out, Lk.cut_last c s.toList a (by rw [tl_len, ← show k = _ from Hks.out]; exact Hno.out)]
        simp only [List.map_append, List.map_cons, List.map_nil]
        rw [Htb.out, List.take_of_length_le (by simp [tl_len, ← show k = _ from Hks.out])]
      · exact Below.grown (hnx.alloc hnx.size _) hgrow (by have := hnx.size; simp; omega) (fun q hq => (hown.lt q hq).1)

end Go.Proofs.Ytgddmpmcnjlcjaa

namespace Go.Proofs.Ytgddmpmcnjlcjaa
open Go.RowKit
set_option linter.unusedVariables false

/-- A number below 16 as a word. -/
def dec (n : Nat) : List UInt8 := if n < 10 then [(48 + n).toUInt8] else [49, (38 + n).toUInt8]

theorem conv1 (w : World) (b : UInt8) (x : Int) (hx : x = b.toNat) : (convert 115 9 (.slice (some ⟨w.heap.size, 0, none⟩) 1 1)).run Try.prog (w.alloc (.cells #[.int .u8 x] 5)) = .ok (.string ⟨#[b]⟩) (w.alloc (.cells #[.int .u8 x] 5)) := by
  have := run_convert_bytes_back (P := Try.prog) (w.alloc (.cells #[.int .u8 x] 5)) 115 9 5 ⟨w.heap.size, 0, none⟩ 1 [b] Try.underlying115 Try.underlying5 Try.underlying9 (by
    intro j hj
    simp at hj
    subst hj
    have := cell_of_row (w.alloc (.cells #[.int .u8 x] 5)) w.heap.size 0 #[.int .u8 x] 5 (0, 0) (heap_alloc_new w _)
    rw [show (⟨w.heap.size, 0, none⟩ : Addr).add 0 = ⟨w.heap.size, 0, none⟩ from rfl, this, hx]; rfl)
  exact this

theorem u8_small (n : Nat) (h : n < 256) : (n.toUInt8.toNat : Int) = n := by simp; omega

set_option maxRecDepth 100000 in
set_option maxHeartbeats 400000 in
theorem decimal_small (n : Nat) (h : n < 10) (b : UInt8) (hb : (48 : Int) + n = b.toNat) (w : World) :
    Calls Try.prog 64 #[.int .i64 n] w fun e w' => e = .returned (.string ⟨#[b]⟩) ∧ Below w.heap.size w w' := by
  have h1 : (n : Int) < 10 := by omega
  have h0 : (0 : Int) ≤ n := by omega
  have hm : (n : Int) % 10 = n := by omega
  have hcv := conv1 w b (48 + n) hb
  clear hb
  go_enter Try.func64, Try.ntmps64
  go_wp2_with fail
  go_ret
  exact ⟨rfl, (Below.refl _ _).alloc (Nat.le_refl _) _⟩

set_option maxRecDepth 100000 in
set_option maxHeartbeats 400000 in
theorem decimal_big (n : Nat) (h : 10 ≤ n) (h2 : n < 16) (b : UInt8) (hb : (38 : Int) + n = b.toNat) (w : World) :
    Calls Try.prog 64 #[.int .i64 n] w fun e w' => e = .returned (.string (⟨#[49]⟩ ++ ⟨#[b]⟩)) ∧ Below w.heap.size w w' := by
  have h1 : (10 : Int) ≤ n := by omega
  have h0 : (n : Int) < 16 := by omega
  have hm : (n : Int) % 10 = (n : Int) - 10 := by omega
  have hq : (n : Int) / 10 = 1 := by omega
  have hcv := conv1 w b (48 + ((n : Int) - 10)) (by omega)
  clear hb
  go_enter Try.func64, Try.ntmps64
  go_wp2_with (first | (go_at_call 64; refine (decimal_small 1 (by omega) 49 (by decide) _).mono ?_; rintro e w1 ⟨rfl, hb1⟩))
  go_ret
  exact ⟨rfl, ((Below.refl _ _).alloc (Nat.le_refl _) _).trans (hb1.mono (by simp))⟩

theorem decimal_any (n : Nat) (h : n < 16) (w : World) :
    Calls Try.prog 64 #[.int .i64 n] w fun e w' => ∃ d : ByteArray, e = .returned (.string d) ∧ d.toList = dec n ∧ Below w.heap.size w w' := by
  by_cases h1 : n < 10
  · refine (decimal_small n h1 (48 + n).toUInt8 (by rw [u8_small _ (by omega)]; omega) w).mono ?_
    rintro e w' ⟨rfl, hb⟩
    exact ⟨_, rfl, by rw [ByteArray.toList_eq]; simp [dec, h1], hb⟩
  · refine (decimal_big n (by omega) h (38 + n).toUInt8 (by rw [u8_small _ (by omega)]; omega) w).mono ?_
    rintro e w' ⟨rfl, hb⟩
    exact ⟨_, rfl, by rw [ByteArray.toList_eq]; simp [dec, h1], hb⟩

theorem dec_num : ∀ n, n < 16 → Lk.num? (dec n) = some n
  | 0, _ => by decide
  | 1, _ => by decide
  | 2, _ => by decide
  | 3, _ => by decide
  | 4, _ => by decide
  | 5, _ => by decide
  | 6, _ => by decide
  | 7, _ => by decide
  | 8, _ => by decide
  | 9, _ => by decide
  | 10, _ => by decide
  | 11, _ => by decide
  | 12, _ => by decide
  | 13, _ => by decide
  | 14, _ => by decide
  | 15, _ => by decide
  | n + 16, h => absurd h (by omega)

theorem num_dec {w : Lk.Wd} {n : Nat} (h : Lk.num? w = some n) : w = dec n ∧ n < 16 := by
  match w with
  | [c] =>
    have h : (if 48 ≤ c.toNat ∧ c.toNat ≤ 57 then some (c.toNat - 48) else none) = some n := h
    split at h
    · rename_i hc
      cases h
      refine ⟨?_, by omega⟩
      unfold dec
      rw [if_pos (by omega), show 48 + (c.toNat - 48) = c.toNat by omega]
      simp
    · cases h
  | [a, b] =>
    have h : (if a.toNat = 49 ∧ 48 ≤ b.toNat ∧ b.toNat ≤ 53 then some (10 + (b.toNat - 48)) else none) = some n := h
    split at h
    · rename_i hc
      cases h
      refine ⟨?_, by omega⟩
      unfold dec
      rw [if_neg (by omega), show 38 + (10 + (b.toNat - 48)) = b.toNat by omega]
      have : a = 49 := UInt8.toNat_inj.1 (by rw [hc.1]; rfl)
      simp [this]
    · cases h
  | [] => simp [Lk.num?] at h
  | _ :: _ :: _ :: _ => simp [Lk.num?] at h

set_option maxRecDepth 100000 in
set_option maxHeartbeats 400000 in
theorem numeral_any (s : ByteArray) (w : World) :
    Calls Try.prog 52 #[.string s] w fun e w' => e = .returned (.int .i64 (Lk.intO (Lk.num? s.toList))) ∧ Below w.heap.size w w' := by
  go_enter Try.func52, Try.ntmps52
  go_wp2
  go_loopw [3] (fun i wr => ∃ k : Nat, k ≤ 16 ∧ i = .int .i64 k ∧ Below w.heap.size w wr ∧ (∀ j, j < k → Lk.num? s.toList ≠ some j)) (fun i _ => 16 - (intOf i).toNat)
  case atStart => exact ⟨0, by omega, rfl, Below.refl _ _, fun j h => by omega⟩
  case round =>
    obtain ⟨k, hk, rfl, hb, hno⟩ := hrel
    have Hno := hid hno
    have HB := hid hb
    have hz := hb.size
    clear hno hb
    by_cases hlt : k < 16
    · have hltI : (k : Int) < 16 := by omega
      go_wp2_with (first | (go_at_call 64; refine (decimal_any k hlt _).mono ?_; rintro e w1 ⟨d, rfl, hd, hb1⟩; have HD := hid hd; have HB1 := hid hb1; clear hd hb1))
      · go_ret
        have he : (s.toList == d.toList) = true := by assumption
        have hsd : s.toList = dec k := by rw [← show d.toList = _ from HD.out]; simpa using he
        exact ⟨ret_int (by rw [hsd, dec_num k hlt]; rfl), HB.out.trans (HB1.out.mono hz)⟩
      · have he : (s.toList == d.toList) = false := by assumption
        go_roundw
        case rel =>
          refine ⟨k + 1, by omega, by go_num, HB.out.trans (HB1.out.mono hz), ?_⟩
          intro j hj
          by_cases hjk : j = k
          · subst hjk
            intro hn
            have := (num_dec hn).1
            rw [this, show d.toList = _ from HD.out] at he
            simp at he
          · exact Hno.out j (by omega)
        case measure => simp [intOf]; omega
    · have hltI : ¬ (k : Int) < 16 := by omega
      go_wp2
      go_ret
      refine ⟨ret_int ?_, HB.out⟩
      cases hn : Lk.num? s.toList with
      | none => rfl
      | some n => exact absurd hn (Hno.out n (by have := (num_dec hn).2; omega))

end Go.Proofs.Ytgddmpmcnjlcjaa

namespace Go.Proofs.Ytgddmpmcnjlcjaa
open Go.RowKit

set_option maxHeartbeats 400000 in
theorem isName_any (s : ByteArray) (w : World) :
    Calls Try.prog 65 #[.string s] w fun e w' => e = .returned (.bool (Lk.isName s.toList)) ∧ w' = w := by
  go_enter Try.func65, Try.ntmps65
  go_wp2
  all_goals go_ret
  all_goals refine ⟨ret_bool ?_, rfl⟩
  · rw [isName1 (by omega)]; simp [*]
  · rw [isName1 (by omega)]; simp; omega
  · rw [isNameN (by omega)]

set_option maxHeartbeats 400000 in
theorem operation_any (s : ByteArray) (w : World) :
    Calls Try.prog 61 #[.string s] w fun e w' => e = .returned (.int .i64 (Lk.intO (Lk.oper? s.toList))) ∧ w' = w := by
  go_enter Try.func61, Try.ntmps61
  go_wp2
  all_goals go_ret
  all_goals refine ⟨ret_int ?_, rfl⟩
  all_goals simp [Lk.oper?, *, Lk.intO]

set_option maxHeartbeats 400000 in
theorem number_any (s : ByteArray) (w : World) :
    Calls Try.prog 57 #[.string s] w fun e w' => e = .returned (.int .i64 (Lk.intO (Lk.num? s.toList))) ∧ w' = w := by
  go_enter Try.func57, Try.ntmps57
  go_wp2
  all_goals go_ret
  all_goals refine ⟨ret_int ?_, rfl⟩
  all_goals first
    | (rw [num1 (by omega)]; first | rw [if_pos (by omega)] | rw [if_neg (by omega)])
    | (rw [num2 (by omega)]; first | rw [if_neg (by omega)] | (rw [if_pos (by omega)]; rfl))
    | rw [numN (by omega) (by omega)]

end Go.Proofs.Ytgddmpmcnjlcjaa

namespace Go.Proofs.Ytgddmpmcnjlcjaa
open Go.RowKit

theorem grownBy_setCell (w : World) (a : Addr) (v : Value) : w.grownBy (w.setCell a v) (some a.block) :=
  ⟨rfl, rfl, rfl, by simp, fun k _ hk => Below.heap_setCell w a v k (fun h => hk (by rw [h]))⟩
theorem ownsRow_setCell {w : World} {base : Nat} {e : TypeId} {size : Nat} {v : Value} {n : Nat} {xs : List Value} (h : w.ownsRow base e size v n xs) {b i : Nat} (hb : v.ownBlock ≠ some b) (u : Value) : (w.setCell ⟨b, i, none⟩ u).ownsRow base e size v n xs :=
  h.kept (grownBy_setCell w ⟨b, i, none⟩ u) (.inr hb)
theorem rowIs_grown {w w' : World} {b t n : Nat} {f : Nat → Value} {row : Option Nat} (h : w.rowIs b t n f) (hg : w.grownBy w' row) (hne : row ≠ some b) : w'.rowIs b t n f :=
  h.of_block (hg.block b h.lt (fun e => hne e.symm))
theorem ownsRow_same {w w' : World} {base : Nat} {e : TypeId} {size : Nat} {v : Value} {n : Nat} {xs : List Value} (h : w.ownsRow base e size v n xs) (hb : ∀ k, k < w.heap.size → w'.heap[k]? = w.heap[k]?) : w'.ownsRow base e size v n xs := by
  refine ⟨h.1, ?_⟩
  rcases h.2 with hn | ⟨g, cap, cur, rfl, hb', hgg, rest⟩
  · exact .inl hn
  · exact .inr ⟨g, cap, cur, rfl, hb', by rw [hb g (Array.getElem?_eq_some_iff.1 hgg).1]; exact hgg, rest⟩

theorem cellAt {w : World} {B : Nat} {cs : Array Value} {t : TypeId} {fr : Nat × Nat} (hb : w.heap[B]? = some (.cells cs t fr)) (j : Nat) (u : Value) (hu : cs[j]? = some u) : w.cell? ⟨B, j, none⟩ = some u := by
  rw [cell_of_row w B j cs t fr hb]; exact hu

/-- What the block of a reader holds. -/
def rcell (r : Lk.RS) (vs vc vk vb : Value) (i : Nat) : Value :=
  if i = 0 then vs else if i = 1 then .int .i64 r.vars else if i = 2 then vc else if i = 3 then vk
  else if i < 56 then (if i % 2 = 0 then .int .i64 (r.letters ((i - 4) / 2)).1 else .int .i64 (r.letters ((i - 4) / 2)).2)
  else if i = 56 then vb else if i = 57 then .int .i64 r.stmts
  else if i < 66 then (if i % 2 = 0 then .int .i64 (r.opn ((i - 58) / 2)).1 else .int .i64 (r.opn ((i - 58) / 2)).2)
  else .int .i64 r.depth

def stCells (s : Lk.St) : List Value :=
  [.int .i64 s.kind, .int .i64 s.op, .int .i64 s.slot, .int .i64 s.arr, .bool s.a.named, .int .i64 s.a.val, .bool s.b.named, .int .i64 s.b.val, .int .i64 s.next, .int .i64 s.els]

def flat (l : List Lk.St) : List Value := l.flatMap stCells

/-- A reader lies in block b, its cells told by f; what it made lies from block 'base' on. -/
structure RepF (w : World) (base b : Nat) (f : Nat → Value) (sec : List Bool) (cel : List Nat) (bod : List Lk.St) (vs vc vb : Value) : Prop where
  row : w.rowIs b 69 67 f
  ge : base ≤ b
  sec : w.ownsRow base 4 1 vs sec.length (sec.map Value.bool)
  cel : w.ownsRow base 3 1 vc cel.length (cel.map fun (n : Nat) => .int .i64 n)
  bod : w.ownsRow base 98 10 vb bod.length (flat bod)
  ns : vs.ownBlock ≠ some b
  nc : vc.ownBlock ≠ some b
  nb : vb.ownBlock ≠ some b
  sc : vs.ownBlock = none ∨ vs.ownBlock ≠ vc.ownBlock
  sb : vs.ownBlock = none ∨ vs.ownBlock ≠ vb.ownBlock
  cb : vc.ownBlock = none ∨ vc.ownBlock ≠ vb.ownBlock

abbrev Rep (w : World) (base b : Nat) (r : Lk.RS) (vs vc vb : Value) : Prop :=
  RepF w base b (rcell r vs vc (.slice none 0 0) vb) r.secret r.cells r.body vs vc vb

namespace RepF
variable {w : World} {base b : Nat} {f : Nat → Value} {sec : List Bool} {cel : List Nat} {bod : List Lk.St} {vs vc vb : Value}

theorem put (h : RepF w base b f sec cel bod vs vc vb) (i : Nat) (x : Value) : RepF (w.setCell ⟨b, i, none⟩ x) base b (fun j => if j = i then x else f j) sec cel bod vs vc vb :=
  ⟨h.row.set i x, h.ge, ownsRow_setCell h.sec h.ns x, ownsRow_setCell h.cel h.nc x, ownsRow_setCell h.bod h.nb x, h.ns, h.nc, h.nb, h.sc, h.sb, h.cb⟩

theorem congr {g : Nat → Value} (h : RepF w base b f sec cel bod vs vc vb) (e : ∀ i, i < 67 → f i = g i) : RepF w base b g sec cel bod vs vc vb :=
  ⟨h.row.congr e, h.ge, h.sec, h.cel, h.bod, h.ns, h.nc, h.nb, h.sc, h.sb, h.cb⟩

/-- Only new blocks. -/
theorem later {w' : World} (h : RepF w base b f sec cel bod vs vc vb) (hb : ∀ k, k < w.heap.size → w'.heap[k]? = w.heap[k]?) : RepF w' base b f sec cel bod vs vc vb :=
  ⟨h.row.of_block (hb b h.row.lt), h.ge, ownsRow_same h.sec hb, ownsRow_same h.cel hb, ownsRow_same h.bod hb, h.ns, h.nc, h.nb, h.sc, h.sb, h.cb⟩
theorem below {w' : World} (h : RepF w base b f sec cel bod vs vc vb) (hb : Below w.heap.size w w') : RepF w' base b f sec cel bod vs vc vb := h.later hb.block
theorem alloc (h : RepF w base b f sec cel bod vs vc vb) (o : Obj) : RepF (w.alloc o) base b f sec cel bod vs vc vb := h.later fun k hk => Below.heap_alloc w o k hk
theorem drewN (h : RepF w base b f sec cel bod vs vc vb) (n : Nat) : RepF (w.drewN n) base b f sec cel bod vs vc vb := h.later fun _ _ => rfl
theorem drew (h : RepF w base b f sec cel bod vs vc vb) : RepF w.drew base b f sec cel bod vs vc vb := h.later fun _ _ => rfl

theorem lt (h : RepF w base b f sec cel bod vs vc vb) : b < w.heap.size := h.row.lt
theorem baseLe (h : RepF w base b f sec cel bod vs vc vb) : base ≤ w.heap.size := Nat.le_of_lt (Nat.lt_of_le_of_lt h.ge h.lt)

/-- The body has grown. -/
theorem growBody {w' : World} {bod' : List Lk.St} {g cap : Nat} {n : Nat} (h : RepF w base b f sec cel bod vs vc vb) (hg : w.grownBy w' vb.ownBlock)
    (hown : w'.ownsRow base 98 10 (.slice (some ⟨g, 0, none⟩) n cap) bod'.length (flat bod')) (hat : vb.ownBlock = some g ∨ g = w.heap.size) :
    RepF w' base b f sec cel bod' vs vc (.slice (some ⟨g, 0, none⟩) n cap) := by
  have hs : vs.ownBlock = none ∨ vs.ownBlock ≠ some g := by
    rcases hat with e | e
    · rw [← e]; exact h.sb
    · right; intro hv; have := (h.sec.lt g hv).2; omega
  have hc : vc.ownBlock = none ∨ vc.ownBlock ≠ some g := by
    rcases hat with e | e
    · rw [← e]; exact h.cb
    · right; intro hv; have := (h.cel.lt g hv).2; omega
  have hb : g ≠ b := by
    rcases hat with e | e
    · intro he; subst he; exact h.nb e
    · have := h.lt; omega
  exact ⟨rowIs_grown h.row hg h.nb, h.ge, h.sec.kept hg h.sb, h.cel.kept hg h.cb, hown, h.ns, h.nc, by simpa [Value.ownBlock] using hb, h.sc, by simpa [Value.ownBlock] using hs, by simpa [Value.ownBlock] using hc⟩

theorem growSec {w' : World} {sec' : List Bool} {g cap : Nat} {n : Nat} (h : RepF w base b f sec cel bod vs vc vb) (hg : w.grownBy w' vs.ownBlock)
    (hown : w'.ownsRow base 4 1 (.slice (some ⟨g, 0, none⟩) n cap) sec'.length (sec'.map Value.bool)) (hat : vs.ownBlock = some g ∨ g = w.heap.size) :
    RepF w' base b f sec' cel bod (.slice (some ⟨g, 0, none⟩) n cap) vc vb := by
  have hsb : vb.ownBlock = none ∨ vb.ownBlock ≠ some g := by
    rcases hat with e | e
    · right; intro hv; rcases h.sb with k | k
      · rw [e] at k; cases k
      · exact k (e.trans hv.symm)
    · right; intro hv; have := (h.bod.lt g hv).2; omega
  have hsc : vc.ownBlock = none ∨ vc.ownBlock ≠ some g := by
    rcases hat with e | e
    · right; intro hv; rcases h.sc with k | k
      · rw [e] at k; cases k
      · exact k (e.trans hv.symm)
    · right; intro hv; have := (h.cel.lt g hv).2; omega
  have hb : g ≠ b := by
    rcases hat with e | e
    · intro he; subst he; exact h.ns e
    · have := h.lt; omega
  have k1 : vb.ownBlock = none ∨ vb.ownBlock ≠ vs.ownBlock := by
    rcases h.sb with k | k
    · rcases hv : vb.ownBlock with _ | x
      · exact .inl rfl
      · right; rw [k]; simp
    · exact .inr (Ne.symm k)
  have k2 : vc.ownBlock = none ∨ vc.ownBlock ≠ vs.ownBlock := by
    rcases h.sc with k | k
    · rcases hv : vc.ownBlock with _ | x
      · exact .inl rfl
      · right; rw [k]; simp
    · exact .inr (Ne.symm k)
  refine ⟨rowIs_grown h.row hg h.ns, h.ge, hown, h.cel.kept hg k2, h.bod.kept hg k1, by simpa [Value.ownBlock] using hb, h.nc, h.nb, ?_, ?_, h.cb⟩
  · right
    intro (hv : some g = vc.ownBlock)
    rcases hsc with k | k
    · rw [k] at hv; cases hv
    · exact k hv.symm
  · right
    intro (hv : some g = vb.ownBlock)
    rcases hsb with k | k
    · rw [k] at hv; cases hv
    · exact k hv.symm

theorem growCel {w' : World} {cel' : List Nat} {g cap : Nat} {n : Nat} (h : RepF w base b f sec cel bod vs vc vb) (hg : w.grownBy w' vc.ownBlock)
    (hown : w'.ownsRow base 3 1 (.slice (some ⟨g, 0, none⟩) n cap) cel'.length (cel'.map fun (n : Nat) => .int .i64 n)) (hat : vc.ownBlock = some g ∨ g = w.heap.size) :
    RepF w' base b f sec cel' bod vs (.slice (some ⟨g, 0, none⟩) n cap) vb := by
  have hsb : vb.ownBlock = none ∨ vb.ownBlock ≠ some g := by
    rcases hat with e | e
    · right; intro hv; rcases h.cb with k | k
      · rw [e] at k; cases k
      · exact k (e.trans hv.symm)
    · right; intro hv; have := (h.bod.lt g hv).2; omega
  have hsc : vs.ownBlock = none ∨ vs.ownBlock ≠ some g := by
    rcases hat with e | e
    · rw [← e]; exact h.sc
    · right; intro hv; have := (h.sec.lt g hv).2; omega
  have hb : g ≠ b := by
    rcases hat with e | e
    · intro he; subst he; exact h.nc e
    · have := h.lt; omega
  have k1 : vb.ownBlock = none ∨ vb.ownBlock ≠ vc.ownBlock := by
    rcases h.cb with k | k
    · rcases hv : vb.ownBlock with _ | x
      · exact .inl rfl
      · right; rw [k]; simp
    · exact .inr (Ne.symm k)
  refine ⟨rowIs_grown h.row hg h.nc, h.ge, h.sec.kept hg h.sc, hown, h.bod.kept hg k1, h.ns, by simpa [Value.ownBlock] using hb, h.nb, by simpa [Value.ownBlock] using hsc, h.sb, ?_⟩
  right
  intro (hv : some g = vb.ownBlock)
  rcases hsb with k | k
  · rw [k] at hv; cases hv
  · exact k hv.symm

end RepF

theorem rcell_let (r : Lk.RS) (vs vc vk vb : Value) (k : Nat) (h : k < 26) : rcell r vs vc vk vb (4 + k * 2) = .int .i64 (r.letters k).1 ∧ rcell r vs vc vk vb (4 + k * 2 + 1) = .int .i64 (r.letters k).2 := by
  unfold rcell
  constructor
  · rw [if_neg (by omega), if_neg (by omega), if_neg (by omega), if_neg (by omega), if_pos (by omega), if_pos (by omega)]
    rw [show (4 + k * 2 - 4) / 2 = k by omega]
  · rw [if_neg (by omega), if_neg (by omega), if_neg (by omega), if_neg (by omega), if_pos (by omega), if_neg (by omega)]
    rw [show (4 + k * 2 + 1 - 4) / 2 = k by omega]

theorem rcell_opn (r : Lk.RS) (vs vc vk vb : Value) (k : Nat) (h : k < 4) : rcell r vs vc vk vb (58 + k * 2) = .int .i64 (r.opn k).1 ∧ rcell r vs vc vk vb (58 + k * 2 + 1) = .int .i64 (r.opn k).2 := by
  unfold rcell
  constructor
  · rw [if_neg (by omega), if_neg (by omega), if_neg (by omega), if_neg (by omega), if_neg (by omega), if_neg (by omega), if_neg (by omega), if_pos (by omega), if_pos (by omega)]
    rw [show (58 + k * 2 - 58) / 2 = k by omega]
  · rw [if_neg (by omega), if_neg (by omega), if_neg (by omega), if_neg (by omega), if_neg (by omega), if_neg (by omega), if_neg (by omega), if_pos (by omega), if_neg (by omega)]
    rw [show (58 + k * 2 + 1 - 58) / 2 = k by omega]

end Go.Proofs.Ytgddmpmcnjlcjaa

namespace Go.Proofs.Ytgddmpmcnjlcjaa
open Go.RowKit
set_option linter.unusedVariables false

set_option maxHeartbeats 400000 in
theorem find_any (r : Lk.RS) (vs vc vk vb : Value) (b : Nat) (s : ByteArray) (w : World) (hrow : w.rowIs b 69 67 (rcell r vs vc vk vb)) :
    Calls Try.prog 58 #[.pointer (some ⟨b, 0, none⟩), .string s] w fun e w' => e = .returned (.agg #[.int .i64 (Lk.find r s.toList).1, .int .i64 (Lk.find r s.toList).2]) ∧ Below w.heap.size w w' := by
  by_cases hn : Lk.isName s.toList = true
  · have hsz : s.size = 1 := by
      by_cases h : s.size = 1
      · exact h
      · rw [isNameN h] at hn; cases hn
    have hn' := hn
    rw [isName1 hsz] at hn'
    simp at hn'
    have hb1 : (97 : Int) ≤ (s[0].toNat : Int) := by omega
    have hb2 : (s[0].toNat : Int) ≤ 122 := by omega
    have hlt := hrow.lt
    have hsz1 : (s.size : Int) = 1 := by omega
    have hk : s[0].toNat - 97 < 26 := by omega
    have hc0 := hrow.cell (i := 4 + (s[0].toNat - 97) * 2) (by omega)
    have hc1 := hrow.cell (i := 4 + (s[0].toNat - 97) * 2 + 1) (by omega)
    rw [(rcell_let r vs vc vk vb _ hk).1] at hc0
    rw [(rcell_let r vs vc vk vb _ hk).2] at hc1
    have hla : Lk.find r s.toList = r.letters (s[0].toNat - 97) := by
      unfold Lk.find Lk.lat; rw [if_pos hn, tl1 hsz]; rfl
    rw [hla]
    generalize r.letters (s[0].toNat - 97) = q at hc0 hc1
    clear hla hrow
    go_enter Try.func58, Try.ntmps58
    go_wp2_with (go_at_call 65; refine (isName_any _ _).mono ?_; rintro e w' ⟨rfl, rfl⟩)
    go_region
    all_goals go_wp2
    all_goals exact bodyPost_ret (v := .agg #[.int .i64 q.1, .int .i64 q.2]) (by simp [results, Try.results58, go_sem]) rfl ⟨rfl, ((Below.refl _ _).alloc (Nat.le_refl _) _).drew⟩
  · have hf : Lk.find r s.toList = (0, 0) := by unfold Lk.find; rw [if_neg hn]
    rw [hf]
    go_enter Try.func58, Try.ntmps58
    go_wp2_with (go_at_call 65; refine (isName_any _ _).mono ?_; rintro e w' ⟨rfl, rfl⟩)
    exact bodyPost_ret (v := .agg #[.int .i64 0, .int .i64 0]) (by simp [results, Try.results58, go_sem]) rfl ⟨rfl, (Below.refl _ _).alloc (Nat.le_refl _) _⟩

theorem intO_some {o : Option Nat} {n : Nat} (h : o = some n) : Lk.intO o = n := by rw [h]; rfl
theorem intO_none {o : Option Nat} (h : o = none) : Lk.intO o = -1 := by rw [h]; rfl

theorem number_some (s : ByteArray) (w : World) {n : Nat} (h : Lk.num? s.toList = some n) :
    Calls Try.prog 57 #[.string s] w fun e w' => e = .returned (.int .i64 n) ∧ w' = w := by
  rw [← intO_some h]; exact number_any s w
theorem number_none (s : ByteArray) (w : World) (h : Lk.num? s.toList = none) :
    Calls Try.prog 57 #[.string s] w fun e w' => e = .returned (.int .i64 (-1)) ∧ w' = w := by
  rw [← intO_none h]; exact number_any s w

theorem bcell {W w1 : World} (hb : Below W.heap.size W w1) : (∀ b o, b < W.heap.size → w1.cell? ⟨b, o, none⟩ = W.cell? ⟨b, o, none⟩) ∧ (∀ b o, b < W.heap.size → w1.frozen? ⟨b, o, none⟩ = W.frozen? ⟨b, o, none⟩) :=
  ⟨fun b o h => hb.cell (p := ⟨b, o, none⟩) h, fun b o h => hb.frozen (p := ⟨b, o, none⟩) h⟩

set_option maxHeartbeats 400000 in
theorem atom_num (b : Nat) (s : ByteArray) (w : World) (n : Nat) (h : Lk.num? s.toList = some n) :
    Calls Try.prog 59 #[.pointer (some ⟨b, 0, none⟩), .string s] w fun e w' => e = .returned (.tuple #[.agg #[.bool false, .int .i64 n], .bool true]) ∧ Below w.heap.size w w' := by
  have hn : (0 : Int) ≤ (n : Int) := by omega
  go_enter Try.func59, Try.ntmps59
  go_wp2_with (go_at_call 57; refine (number_some _ _ h).mono ?_; rintro e w' ⟨rfl, rfl⟩)
  exact bodyPost_ret (v := .tuple #[.agg #[.bool false, .int .i64 n], .bool true]) (by simp [results, Try.results59, go_sem]) rfl ⟨rfl, (Below.refl _ _).alloc (Nat.le_refl _) _⟩

set_option maxHeartbeats 400000 in
theorem atom_find (r : Lk.RS) (vs vc vk vb : Value) (b : Nat) (s : ByteArray) (w : World) (hrow : w.rowIs b 69 67 (rcell r vs vc vk vb)) (h : Lk.num? s.toList = none) (p q : Nat) (hf : Lk.find r s.toList = (p, q)) :
    Calls Try.prog 59 #[.pointer (some ⟨b, 0, none⟩), .string s] w fun e w' => e = .returned (if p = 1 then .tuple #[.agg #[.bool true, .int .i64 q], .bool true] else .tuple #[.agg #[.bool false, .int .i64 0], .bool false]) ∧ Below w.heap.size w w' := by
  have hc := fun W (hW : World.rowIs W b 69 67 (rcell r vs vc vk vb)) => find_any r vs vc vk vb b s W hW
  rw [hf] at hc
  have hlt := hrow.lt
  by_cases hp : p = 1
  · subst hp
    rw [if_pos rfl]
    go_enter Try.func59, Try.ntmps59
    go_wp2_with (first | (go_at_call 57; refine (number_none _ _ h).mono ?_; rintro e w' ⟨rfl, rfl⟩) | (go_at_call 58; refine (hc _ ?_).mono ?_; exact (hrow.alloc _); rintro e w' ⟨rfl, hb⟩; obtain ⟨hcc, hff⟩ := bcell hb; have hz : w.heap.size < w'.heap.size := by have := hb.size; simp at this; omega))
    refine bodyPost_ret (v := .tuple #[.agg #[.bool true, .int .i64 q], .bool true]) (by simp [results, Try.results59, go_sem, hcc, hz]) rfl ⟨rfl, ?_⟩
    exact (((((Below.refl _ _).alloc (Nat.le_refl _) _).trans (hb.mono (by simp))).setCell (by simp) _).setCell (by simp) _).alloc (by simp; omega) _
  · rw [if_neg hp]
    have hpq : ((p : Int) == 1) = false := by simp; omega
    go_enter Try.func59, Try.ntmps59
    go_wp2_with (first | (go_at_call 57; refine (number_none _ _ h).mono ?_; rintro e w' ⟨rfl, rfl⟩) | (go_at_call 58; refine (hc _ ?_).mono ?_; exact (hrow.alloc _); rintro e w' ⟨rfl, hb⟩; obtain ⟨hcc, hff⟩ := bcell hb; have hz : w.heap.size < w'.heap.size := by have := hb.size; simp at this; omega))
    refine bodyPost_ret (v := .tuple #[.agg #[.bool false, .int .i64 0], .bool false]) (by simp [results, Try.results59, go_sem, hcc, hz]) rfl ⟨rfl, ?_⟩
    exact (((((Below.refl _ _).alloc (Nat.le_refl _) _).trans (hb.mono (by simp))).setCell (by simp) _).setCell (by simp) _).alloc (by simp; omega) _

theorem atom_some (r : Lk.RS) (vs vc vk vb : Value) (b : Nat) (s : ByteArray) (w : World) (hrow : w.rowIs b 69 67 (rcell r vs vc vk vb)) (x : Lk.At) (h : Lk.atom? r s.toList = some x) :
    Calls Try.prog 59 #[.pointer (some ⟨b, 0, none⟩), .string s] w fun e w' => e = .returned (.tuple #[.agg #[.bool x.named, .int .i64 x.val], .bool true]) ∧ Below w.heap.size w w' := by
  unfold Lk.atom? at h
  cases hn : Lk.num? s.toList with
  | some n => rw [hn] at h; simp at h; subst h; exact atom_num b s w n hn
  | none =>
    rw [hn] at h
    have k := atom_find r vs vc vk vb b s w hrow hn (Lk.find r s.toList).1 (Lk.find r s.toList).2 rfl
    by_cases hp : (Lk.find r s.toList).1 = 1
    · simp [hp] at h; subst h; rw [if_pos hp] at k; exact k
    · simp [hp] at h

theorem atom_none (r : Lk.RS) (vs vc vk vb : Value) (b : Nat) (s : ByteArray) (w : World) (hrow : w.rowIs b 69 67 (rcell r vs vc vk vb)) (h : Lk.atom? r s.toList = none) :
    Calls Try.prog 59 #[.pointer (some ⟨b, 0, none⟩), .string s] w fun e w' => e = .returned (.tuple #[.agg #[.bool false, .int .i64 0], .bool false]) ∧ Below w.heap.size w w' := by
  unfold Lk.atom? at h
  cases hn : Lk.num? s.toList with
  | some n => rw [hn] at h; simp at h
  | none =>
    rw [hn] at h
    have k := atom_find r vs vc vk vb b s w hrow hn (Lk.find r s.toList).1 (Lk.find r s.toList).2 rfl
    by_cases hp : (Lk.find r s.toList).1 = 1
    · simp [hp] at h
    · rw [if_neg hp] at k; exact k

end Go.Proofs.Ytgddmpmcnjlcjaa
