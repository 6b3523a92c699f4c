import Derived.Test.YtgddmpmcnjlcjaaDoorK07
import Derived.Test.YtgddmpmcnjlcjaaDoorK09
import Derived.Deep.LoopGhost
import Derived.Deep.QuietTactic
import Derived.BigQuiet
/- Public. -/
namespace Go.Proofs.YtgddmpmcnjlcjaaDoor
open Go.RowKit
set_option linter.unusedVariables false

/-- At a line's head? -/
def lhead (s : List UInt8) (k : Nat) : Bool := decide (k = 0 ∨ s[k - 1]? = some 10)

theorem step_hit (S : List UInt8) (k : Nat) (h8 : k + 8 ≤ S.length) (h7 : (S.drop k).take 7 = Sx.secL) (hh : lhead S k = true) : Sx.tns 0 (lhead S k) (S.drop k) = Sx.pubL ++ Sx.tns 0 (lhead S (k + 7)) (S.drop (k + 7)) := by
  have hl : lhead S (k + 7) = false := by
    unfold lhead
    have : S[k + 7 - 1]? = some 32 := by
      have e := congrArg (fun l => l[6]?) h7
      simp only [List.getElem?_take, List.getElem?_drop] at e
      rw [show k + 7 - 1 = k + 6 by omega]
      have e2 : S[k + 6]? = Sx.secL[6]? := by simpa using e
      exact e2
    rw [this]
    simp
  rw [hh, hl]
  cases hd : S.drop k with
  | nil => have := congrArg List.length hd; simp at this; omega
  | cons x xs =>
    rw [Sx.tns_hit x xs ⟨by rw [← hd, List.length_drop]; omega, by rw [← hd]; exact h7⟩, ← hd, List.drop_drop]
theorem step_go (S : List UInt8) (k : Nat) (hk : k < S.length) (h : ¬ (lhead S k = true ∧ k + 8 ≤ S.length ∧ (S.drop k).take 7 = Sx.secL)) : Sx.tns 0 (lhead S k) (S.drop k) = S[k] :: Sx.tns 0 (lhead S (k + 1)) (S.drop (k + 1)) := by
  rw [List.drop_eq_getElem_cons hk, Sx.tns_go]
  · congr 2
    unfold lhead
    rw [show k + 1 - 1 = k by omega, List.getElem?_eq_getElem hk]
    by_cases e : S[k] = 10
    · rw [e]; simp
    · simp [e]
  · rw [← List.drop_eq_getElem_cons hk, List.length_drop]
    intro q
    exact h ⟨q.1, by omega, q.2.2⟩
theorem ext7 (s : ByteArray) (k : Nat) : (s.extract k (k + 7)).toList = (s.toList.drop k).take 7 := by
  rw [extract_toList]; congr 1; omega
theorem hit_next {s B : ByteArray} {k : Nat} (hB : B.toList ++ Sx.tns 0 (lhead s.toList k) (s.toList.drop k) = Sx.tns 0 true s.toList) (h8 : k + 8 ≤ s.size) (h7 : ((s.extract k (k + 7)).toList == [115, 101, 99, 114, 101, 116, 32]) = true) (hh : lhead s.toList k = true) :
    (B ++ ⟨#[112, 117, 98, 108, 105, 99, 32]⟩).toList ++ Sx.tns 0 (lhead s.toList (k + 7)) (s.toList.drop (k + 7)) = Sx.tns 0 true s.toList := by
  rw [← hB, step_hit s.toList k (by rw [tl_len]; exact h8) (by rw [← ext7]; exact beq_iff_eq.1 h7) hh, ← List.append_assoc]
  congr 1
  rw [ByteArray.toList_eq, ByteArray.toList_eq, ByteArray.data_append, Array.toList_append]; rfl
theorem go_next {s B : ByteArray} {k : Nat} (hB : B.toList ++ Sx.tns 0 (lhead s.toList k) (s.toList.drop k) = Sx.tns 0 true s.toList) (hk : k < s.size) (h : ¬ (lhead s.toList k = true ∧ k + 8 ≤ s.size ∧ ((s.extract k (k + 7)).toList == [115, 101, 99, 114, 101, 116, 32]) = true)) :
    (B ++ s.extract k (k + 1)).toList ++ Sx.tns 0 (lhead s.toList (k + 1)) (s.toList.drop (k + 1)) = Sx.tns 0 true s.toList := by
  have hk' : k < s.toList.length := by rw [tl_len]; exact hk
  rw [← hB, step_go s.toList k hk' (fun q => h ⟨q.1, by rw [← tl_len]; exact q.2.1, by rw [ext7, q.2.2]; rfl⟩)]
  rw [show (B ++ s.extract k (k + 1)).toList = B.toList ++ [s.toList[k]] by
    rw [ByteArray.toList_eq, ByteArray.data_append, Array.toList_append, ← ByteArray.toList_eq, ← ByteArray.toList_eq, extract_toList, show k + 1 - k = 1 by omega, List.drop_eq_getElem_cons hk']; rfl]
  rw [List.append_assoc]; rfl

set_option maxRecDepth 100000 in
set_option maxHeartbeats 2000000 in
theorem turned_any (s : ByteArray) (hs : s.size ≤ 16384) (w : World) :
    Calls Tryd.prog 39 #[.string s] w fun e w' => ∃ B : ByteArray, e = .returned (.string B) ∧ B.toList = Sx.tns 0 true s.toList ∧ Below w.heap.size w w' := by
  go_enter Tryd.func39, Tryd.ntmps39
  go_wp2_with fail
  go_loopg [3, 4] s.size (fun gk tv iv wr => ∃ (k : Nat) (B : ByteArray), k ≤ s.size ∧ s.size ≤ k + gk ∧ iv = .int .i64 k ∧ tv = .string B ∧ B.size = k ∧ B.toList ++ Sx.tns 0 (lhead s.toList k) (s.toList.drop k) = Sx.tns 0 true s.toList ∧ Below w.heap.size w wr)
  case atStart => exact ⟨0, ⟨#[]⟩, Nat.zero_le _, by omega, rfl, rfl, rfl, by rw [ByteArray.toList_mk]; rfl, Below.refl _ _⟩
  case round =>
    obtain ⟨k, B, hk, hkg, rfl, rfl, hBs, hB, hbel⟩ := hrel
    have HBB := hid hB
    have HBL := hid hbel
    clear hB hbel
    by_cases hlt : k < s.size
    · by_cases h8 : k + 8 ≤ s.size
      · by_cases hE7 : ((s.extract k (k + 7)).toList == [115, 101, 99, 114, 101, 116, 32]) = true
        · cases k with
          | zero =>
            have hhd : lhead s.toList 0 = true := by unfold lhead; simp
            have HH := hid hhd
            have hE0 : ((s.extract 0 7).toList == [115, 101, 99, 114, 101, 116, 32]) = true := hE7
            clear hhd
            go_wp2_with fail
            go_roundg (gk - 7)
            case measure => omega
            case rel => exact ⟨0 + 7, B ++ ⟨#[112, 117, 98, 108, 105, 99, 32]⟩, by omega, by omega, by go_num, rfl, by rw [ByteArray.size_append, hBs]; rfl, hit_next HBB.out h8 hE7 HH.out, HBL.out⟩
          | succ j =>
            have hjs : j < s.size := by omega
            have hj0 : ((j : Int) + 1 == 0) = false := by simp; omega
            by_cases hj : s[j] = 10
            · have hhd : lhead s.toList (j + 1) = true := by unfold lhead; rw [show j + 1 - 1 = j by omega, tl_get s j hjs, hj]; simp
              have HH := hid hhd
              have hjI : (((s[j].toNat : Int)) == 10) = true := by rw [hj]; rfl
              clear hhd hj
              go_wp2_with fail
              go_roundg (gk - 7)
              case measure => omega
              case rel => exact ⟨(j + 1) + 7, B ++ ⟨#[112, 117, 98, 108, 105, 99, 32]⟩, by omega, by omega, by go_num, rfl, by rw [ByteArray.size_append, hBs]; rfl, hit_next HBB.out h8 hE7 HH.out, HBL.out⟩
            · have hhd : ¬ lhead s.toList (j + 1) = true := by unfold lhead; rw [show j + 1 - 1 = j by omega, tl_get s j hjs]; simp [hj]
              have HH := hid hhd
              have hjI : (((s[j].toNat : Int)) == 10) = false := by
                simp; intro h; exact hj (UInt8.toNat_inj.1 (by rw [show (10 : UInt8).toNat = 10 from rfl]; omega))
              clear hhd hj
              go_wp2_with fail
              go_roundg (gk - 1)
              case measure => omega
              case rel => exact ⟨(j + 1) + 1, B ++ s.extract (j + 1) ((j + 1) + 1), by omega, by omega, by go_num, rfl, by rw [ByteArray.size_append, hBs, ByteArray.size_extract]; omega, go_next HBB.out hlt (fun q => HH.out q.1), HBL.out⟩
        · have hEf : ((s.extract k (k + 7)).toList == [115, 101, 99, 114, 101, 116, 32]) = false := by simpa using hE7
          have HN := hid hE7
          clear hE7
          go_wp2_with fail
          go_roundg (gk - 1)
          case measure => omega
          case rel => exact ⟨k + 1, B ++ s.extract k (k + 1), by omega, by omega, by go_num, rfl, by rw [ByteArray.size_append, hBs, ByteArray.size_extract]; omega, go_next HBB.out hlt (fun q => HN.out q.2.2), HBL.out⟩
      · have h8I : ¬ ((k : Int) + 8 ≤ (s.size : Int)) := by omega
        go_wp2_with fail
        go_roundg (gk - 1)
        case measure => omega
        case rel => exact ⟨k + 1, B ++ s.extract k (k + 1), by omega, by omega, by go_num, rfl, by rw [ByteArray.size_append, hBs, ByteArray.size_extract]; omega, go_next HBB.out hlt (fun q => h8 q.2.1), HBL.out⟩
    · have hke : k = s.size := by omega
      have hE : B.toList = Sx.tns 0 true s.toList := by
        have := HBB.out
        rw [List.drop_of_length_le (by rw [tl_len]; omega)] at this
        rw [← this]
        cases lhead s.toList k <;> simp [Sx.tns]
      have HE := hid hE
      clear hE
      go_wp2_with fail
      go_ret
      exact ⟨B, rfl, HE.out, HBL.out⟩

section
variable (s : ByteArray) (k : Nat) (hk : k ≤ 10) (hs : s.size ≤ 16384) (w : World)
include hk hs

set_option maxRecDepth 100000 in
set_option maxHeartbeats 1000000 in
theorem public_rej (l : Nat) (hl : (Lk.read s.toList).2 = l) (hl0 : l ≠ 0) :
    Calls Tryd.prog 18 #[.string s, .int .i64 k] w fun e w' => e = .returned (.bool true) ∧ Below w.heap.size w w' := by
  have hno := (Sx.read_tns s.toList).2 (by rw [hl]; exact hl0)
  have HC1 : Hid (∀ W : World, Calls Tryd.prog 33 #[.string s, .int .i64 k] W fun e w' => e = .returned (.tuple #[.int .i64 0, repLine l]) ∧ Below W.heap.size W w') := fun W => kc_rej s k W hk l hl hl0
  have HT : Hid (∀ W : World, Calls Tryd.prog 39 #[.string s] W fun e w' => ∃ B : ByteArray, e = .returned (.string B) ∧ B.toList = Sx.tns 0 true s.toList ∧ Below W.heap.size W w') := fun W => turned_any s hs W
  have HNO := hid hno
  clear hl hno
  go_enter Tryd.func18, Tryd.ntmps18
  go_wp2_with (first
    | (go_at_call 33; refine (HC1.out _).mono ?_; rintro e w1 ⟨rfl, hb1⟩; have HB1 := hid hb1; have z1 := hb1.size; clear hb1 HC1)
    | (go_at_call 39; refine (HT.out _).mono ?_; rintro e w2 ⟨B, rfl, hB, hb2⟩; have HBT := hid hB; have z2 := hb2.size; simp at z2; have HB2 := hid ((HB1.out.alloc z1 _).trans (hb2.mono (by simp; omega))); clear hb2 hB HB1)
    | (go_at_call 33; refine (kc_rej B k _ hk _ rfl ?_).mono ?_; rw [HBT.out]; exact HNO.out; rintro e w3 ⟨rfl, hb3⟩; have z3 := hb3.size; have HB3 := hid (HB2.out.trans (hb3.mono (by omega))); clear hb3))
  go_ret
  exact ⟨rfl, HB3.out.alloc (by omega) _⟩

set_option maxRecDepth 100000 in
set_option maxHeartbeats 1000000 in
theorem public_ss (ck : AllChk) (htw : Tab w) (hl : (Lk.read s.toList).2 = 0) (hin : ¬ (Pr.fd (pgOf s.toList) k).al < k) :
    Calls Tryd.prog 18 #[.string s, .int .i64 k] w fun e w' => e = .returned (.bool true) ∧ Below w.heap.size w w' := by
  obtain ⟨hr0, hpub⟩ := (Sx.read_tns s.toList).1 hl
  have HC1 : Hid (∀ W : World, Tab W → Calls Tryd.prog 33 #[.string s, .int .i64 k] W fun e w' => ∃ x, e = .returned (.tuple #[.int .i64 1, repSec x]) ∧ Below W.heap.size W w') := fun W hW => kc_sec ck s k W hW hk hl hin
  have HT : Hid (∀ W : World, Calls Tryd.prog 39 #[.string s] W fun e w' => ∃ B : ByteArray, e = .returned (.string B) ∧ B.toList = Sx.tns 0 true s.toList ∧ Below W.heap.size W w') := fun W => turned_any s hs W
  have HC2 : Hid (∀ (B : ByteArray) (W : World), B.toList = Sx.tns 0 true s.toList → Tab W → Calls Tryd.prog 33 #[.string B, .int .i64 k] W fun e w' => ∃ x, e = .returned (.tuple #[.int .i64 1, repSec x]) ∧ Below W.heap.size W w') := fun B W e hW => kc_sec ck B k W hW hk (by rw [e]; exact hr0) (by rw [e]; exact Pr.fd_pub _ k hpub)
  have HTW := hid htw
  clear hl hr0 hpub ck htw
  go_enter Tryd.func18, Tryd.ntmps18
  go_wp2_with (first
    | (go_at_call 33; refine (HC1.out _ HTW.out).mono ?_; rintro e w1 ⟨x1, rfl, hb1⟩; have HB1 := hid hb1; have z1 := hb1.size; clear hb1 HC1)
    | (go_at_call 39; refine (HT.out _).mono ?_; rintro e w2 ⟨B, rfl, hB, hb2⟩; have HBT := hid hB; have z2 := hb2.size; simp at z2; have HB2 := hid ((HB1.out.alloc z1 _).trans (hb2.mono (by simp; omega))); clear hb2 hB HB1)
    | (go_at_call 33; refine (HC2.out B _ HBT.out (tab_on HTW.out HB2.out)).mono ?_; rintro e w3 ⟨x3, rfl, hb3⟩; have z3 := hb3.size; have HB3 := hid (HB2.out.trans (hb3.mono (by omega))); clear hb3))
  go_ret
  exact ⟨rfl, HB3.out.alloc (by omega) _⟩

set_option maxRecDepth 100000 in
set_option maxHeartbeats 1000000 in
theorem public_is (ck : AllChk) (htw : Tab w) (hl : (Lk.read s.toList).2 = 0) (hin : (Pr.fd (pgOf s.toList) k).al < k) :
    Calls Tryd.prog 18 #[.string s, .int .i64 k] w fun e w' => e = .returned (.bool true) ∧ Below w.heap.size w w' := by
  obtain ⟨hr0, hpub⟩ := (Sx.read_tns s.toList).1 hl
  have HC1 : Hid (∀ W : World, Tab W → Calls Tryd.prog 33 #[.string s, .int .i64 k] W fun e w' => ∃ a1 n1 c1 a2 n2 c2 t x, e = .returned (.tuple #[.int .i64 2, repTwo (.slice a1 n1 c1) (.slice a2 n2 c2) t x]) ∧ Below W.heap.size W w') := fun W hW => (kc_ins ck s k W hW hk hl hin).mono (by rintro e w' ⟨a1, c1, a2, c2, i, j, x, K⟩; exact ⟨_, _, _, _, _, _, _, x, K.res, K.bel⟩)
  have HT : Hid (∀ W : World, Calls Tryd.prog 39 #[.string s] W fun e w' => ∃ B : ByteArray, e = .returned (.string B) ∧ B.toList = Sx.tns 0 true s.toList ∧ Below W.heap.size W w') := fun W => turned_any s hs W
  have HC2 : Hid (∀ (B : ByteArray) (W : World), B.toList = Sx.tns 0 true s.toList → Tab W → Calls Tryd.prog 33 #[.string B, .int .i64 k] W fun e w' => ∃ x, e = .returned (.tuple #[.int .i64 1, repSec x]) ∧ Below W.heap.size W w') := fun B W e hW => kc_sec ck B k W hW hk (by rw [e]; exact hr0) (by rw [e]; exact Pr.fd_pub _ k hpub)
  have HTW := hid htw
  clear hl hr0 hpub ck htw
  go_enter Tryd.func18, Tryd.ntmps18
  go_wp2_with (first
    | (go_at_call 33; refine (HC1.out _ HTW.out).mono ?_; rintro e w1 ⟨a1, n1, c1, a2, n2, c2, t, x1, rfl, hb1⟩; have HB1 := hid hb1; have z1 := hb1.size; clear hb1 HC1)
    | (go_at_call 39; refine (HT.out _).mono ?_; rintro e w2 ⟨B, rfl, hB, hb2⟩; have HBT := hid hB; have z2 := hb2.size; simp at z2; have HB2 := hid ((HB1.out.alloc z1 _).trans (hb2.mono (by simp; omega))); clear hb2 hB HB1)
    | (go_at_call 33; refine (HC2.out B _ HBT.out (tab_on HTW.out HB2.out)).mono ?_; rintro e w3 ⟨x3, rfl, hb3⟩; have z3 := hb3.size; have HB3 := hid (HB2.out.trans (hb3.mono (by omega))); clear hb3))
  go_ret
  exact ⟨rfl, HB3.out.alloc (by omega) _⟩

theorem public_any (ck : AllChk) (htw : Tab w) : Calls Tryd.prog 18 #[.string s, .int .i64 k] w fun e w' => e = .returned (.bool true) ∧ Below w.heap.size w w' := by
  by_cases hl : (Lk.read s.toList).2 = 0
  · by_cases hin : (Pr.fd (pgOf s.toList) k).al < k
    · exact public_is s k hk hs w ck htw hl hin
    · exact public_ss s k hk hs w ck htw hl hin
  · exact public_rej s k hk hs w _ rfl hl
end

set_option maxRecDepth 100000 in
set_option maxHeartbeats 1000000 in
theorem Public_any (ck : AllChk) (s : ByteArray) (a : Int) (ha : I64 a) (w : World) (htw : Tab w) :
    Calls Tryd.prog 6 #[.string s, .int .i64 a] w fun e w' => e = .returned (.bool true) ∧ Below w.heap.size w w' := by
  by_cases hs : s.size ≤ 16384
  · have hsI : ¬ (16384 : Int) < (s.size : Int) := by omega
    have h11 := pk_lt a 11 (by omega)
    have HAN : Hid (∀ W : World, Tab W → Calls Tryd.prog 15 #[.int .i64 a] W fun e w' => e = .returned (.bool true) ∧ Below W.heap.size W w') := fun W hW => answers_any ck a ha W hW
    have HS : Hid (∀ W : World, Calls Tryd.prog 17 #[.int .i64 a] W fun e w' => e = .returned (.int .i64 (pk a 11)) ∧ w' = W) := fun W => steps_any a ha W
    generalize pk a 11 = k at h11 HS
    clear ha
    go_enter Tryd.func6, Tryd.ntmps6
    go_wp2_with (first
      | (go_at_call 15; refine (HAN.out _ htw).mono ?_; rintro e w1 ⟨rfl, hb1⟩; have HB1 := hid hb1; have z1 := hb1.size; clear hb1)
      | (go_at_call 17; refine (HS.out _).mono ?_; rintro e w0 ⟨rfl, hw0⟩; have hw1 := hw0.symm; subst hw1)
      | (go_at_call 18; refine (public_any s k ?_ hs _ ck (tab_on htw HB1.out)).mono ?_; omega; rintro e w2 ⟨rfl, hb2⟩; have HB2 := hid hb2; clear hb2))
    go_ret
    exact ⟨rfl, HB1.out.trans (HB2.out.mono z1)⟩
  · have hsI : (16384 : Int) < (s.size : Int) := by omega
    go_enter Tryd.func6, Tryd.ntmps6
    go_wp2
    go_ret
    exact ⟨rfl, Below.refl _ _⟩

end Go.Proofs.YtgddmpmcnjlcjaaDoor
