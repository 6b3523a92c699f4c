import Derived.Test.YtgddmpmcnjlcjaaDoorK05
import Derived.Test.YtgddmpmcnjlcjaaDoorB36
import Derived.Laws.IdiomStrings
import Derived.Deep.LoopGhost
import Derived.Deep.QuietTactic
import Derived.BigQuiet
import Derived.Deep.DeepCutAuto
namespace Go.Proofs.YtgddmpmcnjlcjaaDoor
open Go.RowKit
set_option linter.unusedVariables false
structure BtC (w : World) (g : Nat) (B : List UInt8) : Prop where
  at_ : ∀ j, j < B.length → w.cell? ⟨g, j, none⟩ = some (.int .u8 ((B.getD j 0).toNat : Int))
  fz : ∀ j, j < B.length → w.frozen? ⟨g, j, none⟩ = false
theorem BtC.set {w : World} {g : Nat} {B : List UInt8} (h : BtC w g B) {i : Nat} (hi : i < B.length) (v : UInt8) : BtC (w.setCell ⟨g, i, none⟩ (.int .u8 (v.toNat : Int))) g (B.set i v) := by
  refine ⟨fun j hj => ?_, fun j hj => ?_⟩
  · rw [List.length_set] at hj
    by_cases c : j = i
    · subst c
      rw [World.cell?_setCell_same _ _ _ (h.at_ j hj)]
      simp [List.getD_eq_getElem?_getD, hj]
    · rw [World.cell?_setCell_other _ _ _ _ (by simp), h.at_ j hj]
      rw [List.getD_eq_getElem?_getD, List.getD_eq_getElem?_getD, List.getElem?_set_ne (fun e => c e.symm)]
  · rw [List.length_set] at hj
    rw [World.frozen?_setCell]; exact h.fz j hj
theorem BtC.conv {w : World} {g : Nat} {B : List UInt8} (h : BtC w g B) (c : Nat) : (convert 104 9 (.slice (some ⟨g, 0, none⟩) B.length c)).run Tryd.prog w = .ok (.string ⟨B.toArray⟩) w := by
  refine run_convert_bytes_back (P := Tryd.prog) w 104 9 5 ⟨g, 0, none⟩ _ B Tryd.underlying104 Tryd.underlying5 Tryd.underlying9 (fun j hj => ?_)
  have e : (⟨g, 0, none⟩ : Addr).add j = ⟨g, j, none⟩ := by
    simp [Addr.add]
    exact fun h => h.symm
  rw [e, h.at_ j hj, List.getD_eq_getElem?_getD, List.getElem?_eq_getElem hj]; rfl
theorem bytesRow_len (s : ByteArray) (c : Nat) : s.size ≤ (bytesRow s c).size := by
  unfold bytesRow; simp
theorem BtC.new (s : ByteArray) (w : World) (c : Nat) : BtC (w.drew.alloc (.cells (bytesRow s c) 5 ((bytesRow s c).size, (bytesRow s c).size + 1))) w.heap.size s.toList := by
  have hb := bytesRow_len s c
  refine ⟨fun j hj => ?_, fun j hj => ?_⟩
  · rw [tl_len] at hj
    have := bytesRow_at s c j hj
    rw [show w.heap.size = w.drew.heap.size from rfl, World.cell?_alloc_mark, this, List.getD_eq_getElem?_getD, tl_get s j hj]; rfl
  · rw [tl_len] at hj
    rw [show w.heap.size = w.drew.heap.size from rfl, World.frozen?_alloc_mark]
    simp; omega
def rnk (S : List UInt8) (k : Nat) : List UInt8 := (Lk.rnl true S).take k ++ S.drop k
theorem rnk_len (S : List UInt8) (k : Nat) : (rnk S k).length = S.length := by
  unfold rnk; rw [List.length_append, List.length_take, List.length_drop, Lk.rnl_len]; omega
def lft (S : List UInt8) (k : Nat) : Bool := if k = 0 then true else Lk.sep (S.getD (k - 1) 0)
theorem rnl_at (S : List UInt8) : ∀ (b : Bool) (k : Nat), k < S.length → (Lk.rnl b S).getD k 0 = Lk.rn1 (if k = 0 then b else Lk.sep (S.getD (k - 1) 0)) (S.getD k 0) (S.drop (k + 1)) := by
  induction S with
  | nil => intro b k h; exact absurd h (by simp)
  | cons x xs ih =>
    intro b k h
    cases k with
    | zero => rfl
    | succ k =>
      show (Lk.rnl (Lk.sep x) xs).getD k 0 = _
      rw [ih _ k (by simpa using h), show (if k + 1 = 0 then b else Lk.sep ((x :: xs).getD (k + 1 - 1) 0)) = Lk.sep ((x :: xs).getD k 0) by rw [if_neg (Nat.succ_ne_zero k)]; rfl]
      cases k with
      | zero => rfl
      | succ k => rw [if_neg (Nat.succ_ne_zero k)]; rfl
theorem getD_take_lt {l : List UInt8} {k j : Nat} (h : j < k) : (l.take k).getD j 0 = l.getD j 0 := by
  rw [List.getD_eq_getElem?_getD, List.getElem?_take, if_pos h, ← List.getD_eq_getElem?_getD]
theorem rnk_lo (S : List UInt8) {k j : Nat} (h : j < k) (hk : k ≤ S.length) : (rnk S k).getD j 0 = (Lk.rnl true S).getD j 0 := by
  unfold rnk
  rw [List.getD_eq_getElem?_getD, List.getElem?_append_left (by rw [List.length_take, Lk.rnl_len]; omega), ← List.getD_eq_getElem?_getD, getD_take_lt h]
theorem rnk_hi (S : List UInt8) {k j : Nat} (h : k ≤ j) (hk : k ≤ S.length) : (rnk S k).getD j 0 = S.getD j 0 := by
  unfold rnk
  have hl : ((Lk.rnl true S).take k).length = k := by rw [List.length_take, Lk.rnl_len]; omega
  rw [List.getD_eq_getElem?_getD, List.getElem?_append_right (by omega), hl, List.getElem?_drop, show k + (j - k) = j by omega, ← List.getD_eq_getElem?_getD]
theorem rnk_next (S : List UInt8) {k : Nat} (hk : k < S.length) : rnk S (k + 1) = (rnk S k).set k ((Lk.rnl true S).getD k 0) := by
  have h1 : k < (Lk.rnl true S).length := by rw [Lk.rnl_len]; exact hk
  have hl : ((Lk.rnl true S).take k).length = k := by rw [List.length_take, Lk.rnl_len]; omega
  unfold rnk
  rw [List.set_append_right _ _ (by omega), hl, Nat.sub_self, List.drop_eq_getElem_cons hk, List.set_cons_zero, List.take_succ_eq_append_getElem h1, List.append_assoc, List.getD_eq_getElem?_getD, List.getElem?_eq_getElem h1]
  rfl
theorem rnk_stay (S : List UInt8) {k : Nat} (hk : k < S.length) (e : (Lk.rnl true S).getD k 0 = S.getD k 0) : rnk S (k + 1) = rnk S k := by
  rw [rnk_next S hk, e, ← rnk_hi S (Nat.le_refl k) (by omega)]
  refine List.ext_getElem (by simp) fun j h1 h2 => ?_
  by_cases c : k = j
  · subst c; simp [List.getD_eq_getElem?_getD, h2]
  · rw [List.getElem_set_ne c]
theorem rnk_end (S : List UInt8) : rnk S S.length = Lk.rnl true S := by
  unfold rnk; rw [List.drop_length, List.append_nil, List.take_of_length_le (by rw [Lk.rnl_len]; exact Nat.le_refl _)]
theorem sep_lo (S : List UInt8) {k : Nat} (hk : k < S.length) : Lk.sep ((Lk.rnl true S).getD k 0) = Lk.sep (S.getD k 0) := by
  rw [rnl_at S true k hk, Lk.rn1_sep]
theorem sep_u (x : UInt8) : Lk.sep x = (((x.toNat : Int) == 32) || ((x.toNat : Int) == 10)) := by
  have key : ∀ (c : UInt8) (n : Nat), c.toNat = n → ((x == c) = ((x.toNat : Int) == (n : Int))) := fun c n hc => by
    by_cases h : x = c
    · subst h; rw [hc]; simp
    · have : x.toNat ≠ n := fun e => h (UInt8.toNat_inj.1 (e.trans hc.symm))
      rw [beq_eq_false_iff_ne.2 h]
      symm
      simp; omega
  unfold Lk.sep
  rw [key 32 32 rfl, key 10 10 rfl]; rfl
set_option maxRecDepth 100000 in
set_option maxHeartbeats 2000000 in
theorem renamed_any (s : ByteArray) (hs : s.size ≤ 16384) (w : World) :
    Calls Tryd.prog 40 #[.string s] w fun e w' => ∃ B : ByteArray, e = .returned (.string B) ∧ B.toList = Lk.rnl true s.toList ∧ Below w.heap.size w w' := by
  obtain ⟨c, hc⟩ : ∃ c, grownCap w s.size 0 5 = c := ⟨_, rfl⟩
  have hconv := run_bytes_of_string (P := Tryd.prog) w 9 104 5 s Tryd.underlying9 Tryd.underlying104 Tryd.underlying5
  rw [hc] at hconv
  obtain ⟨W, hW⟩ : ∃ W, w.drew.alloc (.cells (bytesRow s c) 5 ((bytesRow s c).size, (bytesRow s c).size + 1)) = W := ⟨_, rfl⟩
  have HB0 := hid (show BtC W w.heap.size (rnk s.toList 0) by rw [← hW]; exact BtC.new s w c)
  have HBL0 := hid (show Below w.heap.size w W by rw [← hW]; exact ((Below.refl _ _).drew).alloc (Nat.le_refl _) _)
  rw [hW] at hconv
  clear hW hc
  go_enter Tryd.func40, Tryd.ntmps40
  go_wp2_with fail
  have hz0 := HBL0.out.size
  have hz1 : s.size < 9223372036854775807 := by omega
  go_loopg [4, 5, 6] s.size (fun gk iv lv rv wr => ∃ k : Nat, k ≤ s.size ∧ s.size ≤ k + gk ∧ iv = .int .i64 k ∧ BtC wr w.heap.size (rnk s.toList k) ∧ Below w.heap.size w wr)
  case atStart => exact ⟨0, Nat.zero_le _, by omega, rfl, HB0.out, HBL0.out⟩
  case round =>
    obtain ⟨k, hk, hkg, rfl, hB, hbel⟩ := hrel
    have HBB := hid hB
    have HBL := hid hbel
    have hl := rnk_len s.toList k
    rw [tl_len] at hl
    by_cases hlt : k < s.size
    · have hx := hB.at_ k (by omega)
      rw [rnk_hi s.toList (Nat.le_refl _) (by rw [tl_len]; exact hk)] at hx
      have hxf := hB.fz k (by omega)
      obtain ⟨x, hxe⟩ : ∃ x, s.toList.getD k 0 = x := ⟨_, rfl⟩
      rw [hxe] at hx
      clear hB hbel
      go_upto_region 5 with fail
      go_cut [5] (fun lv wc => lv = .bool (lft s.toList k) ∧ wc = wr)
      case first =>
        cases k with
        | zero =>
          go_wp2_with fail
          go_meet
          exact ⟨rfl, rfl⟩
        | succ j =>
          have hy := HBB.out.at_ j (by omega)
          rw [rnk_lo s.toList (by omega) (by rw [tl_len]; omega)] at hy
          have hjs : j < s.toList.length := by rw [tl_len]; omega
          have hsep : lft s.toList (j + 1) = Lk.sep ((Lk.rnl true s.toList).getD j 0) := by rw [sep_lo _ hjs]; rfl
          rw [sep_u] at hsep
          obtain ⟨y, hye⟩ : ∃ y, (Lk.rnl true s.toList).getD j 0 = y := ⟨_, rfl⟩
          rw [hye] at hy hsep
          have HS := hid hsep
          have hj0 : ((j : Int) + 1 == 0) = false := by simp; omega
          clear hye hsep hjs hx
          by_cases h32 : ((y.toNat : Int) == 32) = true
          · go_wp2_with fail
            go_meet
            exact ⟨by rw [HS.out, h32]; rfl, rfl⟩
          · have h32 : ((y.toNat : Int) == 32) = false := by simpa using h32
            by_cases h10 : ((y.toNat : Int) == 10) = true
            · go_wp2_with fail
              go_meet
              exact ⟨by rw [HS.out, h32, h10]; rfl, rfl⟩
            · have h10 : ((y.toNat : Int) == 10) = false := by simpa using h10
              go_wp2_with fail
              go_meet
              exact ⟨by rw [HS.out, h32, h10]; rfl, rfl⟩
      case rest =>
        obtain ⟨rfl, rfl⟩ := hcut
        go_upto_region 6 with fail
        go_cut [6] (fun rv wc2 => rv = .bool (Lk.rgt (s.toList.drop (k + 1))) ∧ wc2 = wc)
        case first =>
          by_cases he : k + 1 = s.size
          · have heI : ((k : Int) + 1 == (s.size : Int)) = true := by simp; omega
            go_wp2_with fail
            go_meet
            exact ⟨by rw [List.drop_of_length_le (by rw [tl_len]; omega)]; rfl, rfl⟩
          · have heI : ((k : Int) + 1 == (s.size : Int)) = false := by simp; omega
            have hy := HBB.out.at_ (k + 1) (by omega)
            rw [rnk_hi s.toList (by omega) (by rw [tl_len]; omega)] at hy
            have hks : k + 1 < s.toList.length := by rw [tl_len]; omega
            have hsep : Lk.rgt (s.toList.drop (k + 1)) = Lk.sep (s.toList.getD (k + 1) 0) := by
              rw [List.drop_eq_getElem_cons hks, List.getD_eq_getElem?_getD, List.getElem?_eq_getElem hks]; rfl
            rw [sep_u] at hsep
            obtain ⟨y, hye⟩ : ∃ y, s.toList.getD (k + 1) 0 = y := ⟨_, rfl⟩
            rw [hye] at hy hsep
            have HS := hid hsep
            clear hye hsep hks hx
            by_cases h32 : ((y.toNat : Int) == 32) = true
            · go_wp2_with fail
              go_meet
              exact ⟨by rw [HS.out, h32]; rfl, rfl⟩
            · have h32 : ((y.toNat : Int) == 32) = false := by simpa using h32
              by_cases h10 : ((y.toNat : Int) == 10) = true
              · go_wp2_with fail
                go_meet
                exact ⟨by rw [HS.out, h32, h10]; rfl, rfl⟩
              · have h10 : ((y.toNat : Int) == 10) = false := by simpa using h10
                go_wp2_with fail
                go_meet
                exact ⟨by rw [HS.out, h32, h10]; rfl, rfl⟩
        case rest =>
          obtain ⟨rfl, rfl⟩ := hcut
          have hks : k < s.toList.length := by rw [tl_len]; exact hlt
          have hE := rnl_at s.toList true k hks
          rw [show (if k = 0 then true else Lk.sep (s.toList.getD (k - 1) 0)) = lft s.toList k from rfl, hxe] at hE
          unfold Lk.rn1 at hE
          generalize lft s.toList k = L at hE
          generalize Lk.rgt (s.toList.drop (k + 1)) = R at hE
          have stay : ¬ (L && Lk.letr x && R) = true → rnk s.toList (k + 1) = rnk s.toList k := fun h => rnk_stay _ hks (by rw [hE, if_neg h, hxe])
          cases L with
          | false =>
            go_wp2_with fail
            go_roundg (gk - 1)
            case measure => omega
            case rel => exact ⟨k + 1, by omega, by omega, by go_num, by rw [stay (by simp)]; exact HBB.out, HBL.out⟩
          | true =>
            cases R with
            | false =>
              go_wp2_with fail
              go_roundg (gk - 1)
              case measure => omega
              case rel => exact ⟨k + 1, by omega, by omega, by go_num, by rw [stay (by simp)]; exact HBB.out, HBL.out⟩
            | true =>
              by_cases h1 : 97 ≤ x.toNat
              · have h1I : (97 : Int) ≤ (x.toNat : Int) := by omega
                by_cases h2 : x.toNat ≤ 122
                · have h2I : (x.toNat : Int) ≤ 122 := by omega
                  have hl1 : Lk.letr x = true := Lk.letr_iff.2 ⟨h1, h2⟩
                  have hr := Lk.rot_nat hl1
                  rw [hl1] at hE
                  go_wp2_with fail
                  go_roundg (gk - 1)
                  case measure => omega
                  case rel =>
                    have ev : (97 + ((x.toNat : Int) - 97 + 1) % 26) = ((Lk.rot x).toNat : Int) := by rw [hr]; omega
                    refine ⟨k + 1, by omega, by omega, by go_num, ?_, HBL.out.setCell (Nat.le_refl _) _⟩
                    rw [ev, rnk_next _ hks, hE]
                    exact HBB.out.set (by omega) _
                · have h2I : ¬ (x.toNat : Int) ≤ 122 := by omega
                  have hl1 : ¬ Lk.letr x = true := fun q => h2 (Lk.letr_iff.1 q).2
                  go_wp2_with fail
                  go_roundg (gk - 1)
                  case measure => omega
                  case rel => exact ⟨k + 1, by omega, by omega, by go_num, by rw [stay (by simp [hl1])]; exact HBB.out, HBL.out⟩
              · have h1I : ¬ (97 : Int) ≤ (x.toNat : Int) := by omega
                have hl1 : ¬ Lk.letr x = true := fun q => h1 (Lk.letr_iff.1 q).1
                go_wp2_with fail
                go_roundg (gk - 1)
                case measure => omega
                case rel => exact ⟨k + 1, by omega, by omega, by go_num, by rw [stay (by simp [hl1])]; exact HBB.out, HBL.out⟩
    · have hke : k = s.size := by omega
      have hE : rnk s.toList k = Lk.rnl true s.toList := by rw [hke, ← tl_len]; exact rnk_end _
      have hcv := HBB.out.conv c
      rw [hE, Lk.rnl_len, tl_len] at hcv
      clear hB hbel
      go_wp2_with fail
      go_ret
      exact ⟨_, rfl, by rw [ByteArray.toList_mk], HBL.out⟩
end Go.Proofs.YtgddmpmcnjlcjaaDoor
