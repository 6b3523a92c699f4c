import Derived.Test.YtgddmpmcnjlcjaaDoorK03
import Derived.Test.YtgddmpmcnjlcjaaDoorK04
/- The secrets that a text tells are the program's; inputs dealt out in two ways are the same. -/
namespace Go.Proofs.YtgddmpmcnjlcjaaDoor
set_option linter.unusedVariables false

namespace Lk
variable {r r' : RS} {ws : List Wd}
theorem sec_add {s : St} (e : add r s = some r') : r'.secret = r.secret := by
  unfold add at e
  split at e
  · cases e; rfl
  · cases e
theorem sec_declare {w : Wd} {a b : Nat} (e : declare r w a b = some r') : r'.secret = r.secret ∧ isName w = true := by
  unfold declare at e
  split at e
  · rename_i h; cases e; exact ⟨rfl, h.2.1⟩
  · cases e
theorem sec_input {b : Bool} (e : takeInput r ws b = some r') : r'.secret = r.secret ++ [b] ∧ ws.length = 2 ∧ isName (wd ws 1) = true := by
  unfold takeInput at e
  split at e
  · rename_i hc
    split at e
    · rename_i r2 hd
      cases e
      obtain ⟨h1, h2⟩ := sec_declare hd
      exact ⟨by show r2.secret ++ [b] = _; rw [h1], hc.1, h2⟩
    · cases e
  · cases e
theorem sec_var (e : takeVar r ws = some r') : r'.secret = r.secret := by
  unfold takeVar at e
  split at e
  · split at e
    · rename_i r2 hd
      cases e
      exact (sec_declare hd).1
    · cases e
  · cases e
theorem sec_array (e : takeArray r ws = some r') : r'.secret = r.secret := by
  unfold takeArray at e
  split at e
  · split at e
    · split at e
      · split at e
        · rename_i r2 hd
          cases e
          exact (sec_declare hd).1
        · cases e
      · cases e
    · cases e
  · cases e
theorem sec_load (e : takeLoad r ws = some r') : r'.secret = r.secret := by
  unfold takeLoad at e
  split at e
  · split at e
    · exact sec_add e
    · cases e
  · cases e
theorem sec_store (e : takeStore r ws = some r') : r'.secret = r.secret := by
  unfold takeStore at e
  split at e
  · split at e
    · exact sec_add e
    · cases e
  · cases e
theorem sec_out (e : takeOut r ws = some r') : r'.secret = r.secret := by
  unfold takeOut at e
  split at e
  · split at e
    · exact sec_add e
    · cases e
  · cases e
theorem sec_assign (e : takeAssign r ws = some r') : r'.secret = r.secret := by
  unfold takeAssign at e
  split at e
  · split at e
    · split at e
      · exact sec_add e
      · split at e
        · exact sec_add e
        · cases e
    · cases e
  · cases e
theorem sec_branch {k : Nat} (e : takeBranch r ws k = some r') : r'.secret = r.secret := by
  unfold takeBranch at e
  split at e
  · split at e
    · split at e
      · rename_i r2 h2
        cases e
        have h3 := sec_add h2
        exact h3
      · cases e
    · cases e
  · cases e
theorem sec_else (e : takeElse r ws = some r') : r'.secret = r.secret := by
  unfold takeElse at e
  split at e
  · cases e; rfl
  · cases e
theorem sec_end (e : takeEnd r ws = some r') : r'.secret = r.secret := by
  unfold takeEnd at e
  split at e
  · cases e; rfl
  · cases e
end Lk

namespace Sx
open Lk
theorem take7 {l p : Wd} (h : l.take 7 = p ++ [32]) (hp : ∀ x ∈ p, x ≠ 32) : wd (cut 32 l) 0 = p := by
  have e : l = p ++ 32 :: l.drop 7 := by
    conv => lhs; rw [← List.take_append_drop 7 l, h]
    rw [List.append_assoc]; rfl
  rw [e, cut_split 32 _ _ (fun x hx => hp x hx)]
  rfl
theorem word_sec {l : Wd} (h : l.take 7 = secL) : wd (cut 32 l) 0 = [115, 101, 99, 114, 101, 116] :=
  take7 (p := [115, 101, 99, 114, 101, 116]) h (by decide)
theorem word_pub {l : Wd} (h : l.take 7 = pubL) : wd (cut 32 l) 0 = [112, 117, 98, 108, 105, 99] :=
  take7 (p := [112, 117, 98, 108, 105, 99]) h (by decide)
theorem one_none {l : Wd} (h1 : wd (cut 32 l) 0 ≠ [115, 101, 99, 114, 101, 116]) (h2 : wd (cut 32 l) 0 ≠ [112, 117, 98, 108, 105, 99]) : one l = [] := by
  unfold one
  rw [if_neg (fun h => h1 (word_sec h.2)), if_neg (fun h => h2 (word_pub h.2))]
theorem two_words {l : Wd} (h2 : (cut 32 l).length = 2) (hn : isName (wd (cut 32 l) 1) = true) : ∃ c, l = wd (cut 32 l) 0 ++ [32, c] := by
  have hg := glue_cut 32 l
  cases hc : cut 32 l with
  | nil => rw [hc] at h2; cases h2
  | cons x xs =>
    cases xs with
    | nil => rw [hc] at h2; cases h2
    | cons y ys =>
      cases ys with
      | cons z zs => rw [hc] at h2; simp at h2
      | nil =>
        rw [hc] at hg hn
        have hg' : x ++ 32 :: y = l := hg
        have hn' : isName y = true := hn
        unfold isName at hn'
        split at hn'
        · rename_i c
          exact ⟨c, hg'.symm⟩
        · cases hn'
theorem one_sec {l : Wd} (h0 : wd (cut 32 l) 0 = [115, 101, 99, 114, 101, 116]) (h2 : (cut 32 l).length = 2) (hn : isName (wd (cut 32 l) 1) = true) : one l = [true] := by
  obtain ⟨c, e⟩ := two_words h2 hn
  rw [h0] at e
  unfold one
  rw [if_pos (by rw [e]; exact ⟨rfl, rfl⟩)]
theorem one_pub {l : Wd} (h0 : wd (cut 32 l) 0 = [112, 117, 98, 108, 105, 99]) (h2 : (cut 32 l).length = 2) (hn : isName (wd (cut 32 l) 1) = true) : one l = [false] := by
  obtain ⟨c, e⟩ := two_words h2 hn
  rw [h0] at e
  unfold one
  rw [if_neg (by rw [e]; intro h; have := h.2; revert this; show ¬ ([112, 117, 98, 108, 105, 99, 32] : List UInt8) = secL; decide), if_pos (by rw [e]; exact ⟨rfl, rfl⟩)]

theorem ite_dec {c : Bool} {a b : Option RS} {r' : RS} (e : (if c = true then a else b) = some r') : (c = true ∧ a = some r') ∨ (c = false ∧ b = some r') := by
  cases c with
  | true => exact .inl ⟨rfl, by simpa using e⟩
  | false => exact .inr ⟨rfl, by simpa using e⟩

theorem one_take {r r' : RS} {l : Wd} (e : take r (cut 32 l) = some r') : r'.secret = r.secret ++ one l := by
  unfold take at e
  rcases ite_some e with e | e
  · cases e
  rcases ite_dec e with ⟨h, e⟩ | ⟨h0, e⟩
  · obtain ⟨h1, h2, h3⟩ := sec_input e
    rw [h1, one_sec (by simpa using h) h2 h3]
  rcases ite_dec e with ⟨h, e⟩ | ⟨h1, e⟩
  · obtain ⟨h1, h2, h3⟩ := sec_input e
    rw [h1, one_pub (by simpa using h) h2 h3]
  rw [one_none (by simpa using h0) (by simpa using h1), List.append_nil]
  rcases ite_some e with e | e
  · exact sec_var e
  rcases ite_some e with e | e
  · exact sec_array e
  rcases ite_some e with e | e
  · exact sec_load e
  rcases ite_some e with e | e
  · exact sec_store e
  rcases ite_some e with e | e
  · exact sec_out e
  rcases ite_some e with e | e
  · exact sec_branch e
  rcases ite_some e with e | e
  · exact sec_branch e
  rcases ite_some e with e | e
  · exact sec_else e
  rcases ite_some e with e | e
  · exact sec_end e
  · exact sec_assign e

theorem lines_sec (r : RS) (n : Nat) (ls : List Wd) (h : (lines r n ls).2 = 0) : (lines r n ls).1.secret = r.secret ++ scan ls := by
  induction ls generalizing r n with
  | nil => exact absurd h (by unfold lines; simp)
  | cons l ls ih =>
    cases ls with
    | nil =>
      unfold lines at h ⊢
      split
      · simp [scan]
      · rename_i hc; rw [if_neg hc] at h; simp at h
    | cons m ls =>
      unfold lines at h ⊢
      cases ht : take r (cut 32 l) with
      | none => rw [ht] at h; simp at h
      | some r2 =>
        rw [ht] at h
        simp only at h ⊢
        rw [ih r2 (n + 1) h, one_take ht, scan_cons l (m :: ls) (by simp), List.append_assoc]

theorem read_sec (s : Wd) (h : (Lk.read s).2 = 0) : (Lk.read s).1.secret = sec s ∧ s.length ≤ 600 := by
  unfold Lk.read at h ⊢
  split
  · rename_i hl; rw [if_pos hl] at h; cases h
  · rename_i hl
    rw [if_neg hl] at h
    have := lines_sec {} 0 (cut 10 s) h
    exact ⟨by rw [this]; rfl, by omega⟩
end Sx

namespace Pr
def kinR (w : Bool) : List Bool → List Nat → Nat → List Nat
  | b :: bs, v :: vs, x => if b = w then x % 16 :: kinR w bs vs (x / 16) else v :: kinR w bs vs x
  | _, _, _ => []
theorem kdeal_R (w : Bool) (l : List Bool) (vs acc : List Nat) (x : Nat) : ((l.zip vs).foldl (kdeal w) (acc, x)).1 = acc ++ kinR w l vs x := by
  induction l generalizing vs acc x with
  | nil => simp [kinR]
  | cons b l ih =>
    cases vs with
    | nil => simp [kinR]
    | cons v vs =>
      rw [List.zip_cons_cons, List.foldl_cons]
      unfold kdeal kinR
      by_cases h : b = w
      · rw [if_pos h, if_pos h]
        have := ih vs (acc ++ [x % 16]) (x / 16)
        unfold kdeal at this
        rw [this, List.append_assoc]; rfl
      · rw [if_neg h, if_neg h]
        have := ih vs (acc ++ [v]) x
        unfold kdeal at this
        rw [this, List.append_assoc]; rfl
theorem kin_R (l : List Bool) (w : Bool) (x : Nat) (vs : List Nat) : kin l w x vs = kinR w l vs x := by
  unfold kin
  rw [kdeal_R, List.nil_append]
theorem kin_base (l : List Bool) (c : Nat) : kin l false c (List.replicate l.length 0) = inp l c 0 := by
  rw [kin_R, inp_R]
  induction l generalizing c with
  | nil => rfl
  | cons b l ih =>
    rw [List.length_cons, List.replicate_succ]
    cases b with
    | true =>
      show (0 : Nat) :: kinR false l _ c = 0 % 16 :: inpR l c (0 / 16)
      rw [ih]
    | false =>
      show c % 16 :: kinR false l _ (c / 16) = c % 16 :: inpR l (c / 16) 0
      rw [ih]
theorem kin_inp (l : List Bool) (c x : Nat) : kin l true x (inp l c 0) = inp l c x := by
  rw [kin_R, inp_R, inp_R]
  have h : ∀ (l : List Bool) (c y x : Nat), kinR true l (inpR l c y) x = inpR l c x := by
    intro l
    induction l with
    | nil => intro c y x; rfl
    | cons b l ih =>
      intro c y x
      cases b with
      | true =>
        show x % 16 :: kinR true l (inpR l c (y / 16)) (x / 16) = x % 16 :: inpR l c (x / 16)
        rw [ih]
      | false =>
        show c % 16 :: kinR true l (inpR l (c / 16) y) x = c % 16 :: inpR l (c / 16) x
        rw [ih]
  exact h l c 0 x
end Pr
end Go.Proofs.YtgddmpmcnjlcjaaDoor
