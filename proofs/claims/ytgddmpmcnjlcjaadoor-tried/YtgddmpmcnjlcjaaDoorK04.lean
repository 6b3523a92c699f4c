import Derived.Test.YtgddmpmcnjlcjaaDoorB31
import Derived.Test.YtgddmpmcnjlcjaaDoorB01
/- Inputs dealt out, by recursion. -/
namespace Go.Proofs.YtgddmpmcnjlcjaaDoor
set_option linter.unusedVariables false
namespace Pr
def inpR : List Bool → Nat → Nat → List Nat
  | [], _, _ => []
  | true :: bs, p, s => s % 16 :: inpR bs p (s / 16)
  | false :: bs, p, s => p % 16 :: inpR bs (p / 16) s
theorem deal_R (l : List Bool) (acc : List Nat) (p s : Nat) : (l.foldl deal (acc, p, s)).1 = acc ++ inpR l p s := by
  induction l generalizing acc p s with
  | nil => simp [inpR]
  | cons b l ih =>
    cases b with
    | true =>
      show (l.foldl deal (acc ++ [s % 16], p, s / 16)).1 = _
      rw [ih, List.append_assoc]; rfl
    | false =>
      show (l.foldl deal (acc ++ [p % 16], p / 16, s)).1 = _
      rw [ih, List.append_assoc]; rfl
theorem inp_R (l : List Bool) (p s : Nat) : inp l p s = inpR l p s := by
  unfold inp
  rw [deal_R, List.nil_append]
def rowsR : List Bool → Bool → Nat
  | [], _ => 1
  | b :: bs, s => if b = s then 16 * rowsR bs s else rowsR bs s
theorem rows_R (l : List Bool) (s : Bool) : rows l s = rowsR l s := by
  have h : ∀ (l : List Bool) (a : Nat), l.foldl (mulIf s) a = a * rowsR l s := by
    intro l
    induction l with
    | nil => intro a; simp [rowsR]
    | cons b l ih =>
      intro a
      rw [List.foldl_cons, ih]
      unfold mulIf
      rw [show rowsR (b :: l) s = if b = s then 16 * rowsR l s else rowsR l s from rfl]
      split
      · rw [Nat.mul_assoc]
      · rfl
  unfold rows
  rw [h, Nat.one_mul]
theorem rowsR_pos (l : List Bool) (s : Bool) : 0 < rowsR l s := by
  induction l with
  | nil => exact Nat.one_pos
  | cons b l ih =>
    unfold rowsR
    split
    · omega
    · exact ih
theorem inp_mod (l : List Bool) (c x : Nat) : inp l (c % rows l false) x = inp l c x := by
  rw [inp_R, inp_R, rows_R]
  induction l generalizing c x with
  | nil => rfl
  | cons b l ih =>
    cases b with
    | true =>
      show x % 16 :: inpR l (c % rowsR l false) (x / 16) = x % 16 :: inpR l c (x / 16)
      rw [ih]
    | false =>
      show (c % (16 * rowsR l false)) % 16 :: inpR l ((c % (16 * rowsR l false)) / 16) x = c % 16 :: inpR l (c / 16) x
      rw [Nat.mod_mul_right_mod, Nat.mod_mul_right_div_self, ih]
theorem inp_pub (l : List Bool) (c x y t : Nat) (h : l[t]? = some false) : (inp l c x)[t]? = (inp l c y)[t]? := by
  rw [inp_R, inp_R]
  induction l generalizing c x y t with
  | nil => rfl
  | cons b l ih =>
    cases t with
    | zero =>
      cases b with
      | true => simp at h
      | false => rfl
    | succ t =>
      have h' : l[t]? = some false := by simpa using h
      cases b with
      | true => exact ih c (x / 16) (y / 16) t h'
      | false => exact ih (c / 16) x y t h'
end Pr
end Go.Proofs.YtgddmpmcnjlcjaaDoor

namespace Go.Proofs.YtgddmpmcnjlcjaaDoor.Lk
set_option linter.unusedVariables false

def glue (c : UInt8) : List Wd → Wd
  | [] => []
  | [x] => x
  | x :: y :: r => x ++ c :: glue c (y :: r)
theorem glue_cut (c : UInt8) (l : Wd) : glue c (cut c l) = l := by
  induction l with
  | nil => rfl
  | cons x xs ih =>
    have hne := cut_ne c xs
    unfold cut
    split
    · rename_i hx
      cases hc : cut c xs with
      | nil => exact absurd hc hne
      | cons y ys =>
        rw [hc] at ih
        show [] ++ c :: glue c (y :: ys) = x :: xs
        rw [ih, hx]; rfl
    · cases hc : cut c xs with
      | nil => exact absurd hc hne
      | cons y ys =>
        rw [hc] at ih
        cases ys with
        | nil =>
          have ih' : y = xs := ih
          show x :: y = x :: xs
          rw [ih']
        | cons z zs =>
          have ih' : y ++ c :: glue c (z :: zs) = xs := ih
          show (x :: y) ++ c :: glue c (z :: zs) = x :: xs
          rw [List.cons_append, ih']

end Go.Proofs.YtgddmpmcnjlcjaaDoor.Lk
