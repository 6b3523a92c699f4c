import Derived.Test.YtgddmpmcnjlcjaaDoorK05
/- The turned text, line by line. -/
namespace Go.Proofs.YtgddmpmcnjlcjaaDoor
set_option linter.unusedVariables false

namespace Sx
open Lk
def tl (l : Wd) : Wd := if l.take 7 = secL then pubL ++ l.drop 7 else l
def tlast (l : Wd) : Wd := if 8 ≤ l.length ∧ l.take 7 = secL then pubL ++ l.drop 7 else l
def mapL : List Wd → List Wd
  | [] => []
  | [l] => [tlast l]
  | l :: m :: r => tl l :: mapL (m :: r)
/-- The bytes of the turned text; so many are passed over; at a line's head? -/
def tns : Nat → Bool → Wd → Wd
  | _, _, [] => []
  | k + 1, _, _ :: xs => tns k false xs
  | 0, b, x :: xs => if b = true ∧ 8 ≤ (x :: xs).length ∧ (x :: xs).take 7 = secL then pubL ++ tns 6 false xs else x :: tns 0 (x == 10) xs

/-- The same program, all inputs public. -/
def Pub (r r' : RS) : Prop := ∃ x : List Bool, r' = ch x r ∧ x.length = r.secret.length ∧ ∀ b ∈ x, b = false

theorem cut_sec {l : Wd} (h : l.take 7 = secL) : cut 32 l = [115, 101, 99, 114, 101, 116] :: cut 32 (l.drop 7) := by
  have e : l = [115, 101, 99, 114, 101, 116] ++ 32 :: l.drop 7 := by
    conv => lhs; rw [← List.take_append_drop 7 l, h]
    rfl
  conv => lhs; rw [e]
  exact cut_split 32 _ _ (by decide)
theorem cut_pub (q : Wd) : cut 32 (pubL ++ q) = [112, 117, 98, 108, 105, 99] :: cut 32 q :=
  cut_split 32 q [112, 117, 98, 108, 105, 99] (by decide)

theorem rel_map {f g : Option RS} {r : RS} {x : List Bool} (hx : x.length = r.secret.length) (hb : ∀ b ∈ x, b = false) (e : g = f.map (ch x)) (hs : ∀ q, f = some q → q.secret = r.secret) :
    (f = none ∧ g = none) ∨ ∃ q q', f = some q ∧ g = some q' ∧ Pub q q' := by
  cases hf : f with
  | none => rw [hf] at e; exact .inl ⟨rfl, e⟩
  | some q => rw [hf] at e; exact .inr ⟨q, ch x q, rfl, e, x, rfl, by rw [hs q hf]; exact hx, hb⟩
theorem take_tl {r r' : RS} (h : Pub r r') (l : Wd) : (take r (cut 32 l) = none ∧ take r' (cut 32 (tl l)) = none) ∨ ∃ q q', take r (cut 32 l) = some q ∧ take r' (cut 32 (tl l)) = some q' ∧ Pub q q' := by
  obtain ⟨x, rfl, hx, hb⟩ := h
  by_cases h7 : l.take 7 = secL
  · have e1 : cut 32 (tl l) = [112, 117, 98, 108, 105, 99] :: cut 32 (l.drop 7) := by
      unfold tl; rw [if_pos h7]; exact cut_pub _
    rw [e1, cut_sec h7]
    have t1 : take r ([115, 101, 99, 114, 101, 116] :: cut 32 (l.drop 7)) = takeInput r ([115, 101, 99, 114, 101, 116] :: cut 32 (l.drop 7)) true := by
      unfold take
      rw [if_neg (by simp), if_pos (by rfl)]
    have t2 : take (ch x r) ([112, 117, 98, 108, 105, 99] :: cut 32 (l.drop 7)) = takeInput (ch x r) ([112, 117, 98, 108, 105, 99] :: cut 32 (l.drop 7)) false := by
      unfold take
      rw [if_neg (by simp), if_neg (by show ¬ ((([112, 117, 98, 108, 105, 99] : Wd) == [115, 101, 99, 114, 101, 116]) = true); decide), if_pos (by rfl)]
    rw [t1, t2]
    rcases ch_input (r := r) (x := x) true false (ws := [115, 101, 99, 114, 101, 116] :: cut 32 (l.drop 7)) ([112, 117, 98, 108, 105, 99] :: cut 32 (l.drop 7)) rfl rfl hx with h | ⟨q, h1, h2, h3⟩
    · exact .inl h
    · refine .inr ⟨q, _, h1, h2, x ++ [false], rfl, by rw [h3]; simp [hx], ?_⟩
      intro b hbm
      simp only [List.mem_append, List.mem_singleton] at hbm
      rcases hbm with hbm | hbm
      · exact hb b hbm
      · exact hbm
  · have e1 : tl l = l := by unfold tl; rw [if_neg h7]
    rw [e1]
    unfold take
    by_cases h0 : (cut 32 l).length = 0
    · rw [if_pos h0, if_pos h0]; exact .inl ⟨rfl, rfl⟩
    rw [if_neg h0, if_neg h0]
    by_cases hs : (wd (cut 32 l) 0 == [115, 101, 99, 114, 101, 116]) = true
    · rw [if_pos hs, if_pos hs]
      have hno : takeInput r (cut 32 l) true = none := by
        cases he : takeInput r (cut 32 l) true with
        | none => rfl
        | some q =>
          obtain ⟨_, h2, h3⟩ := sec_input he
          obtain ⟨c, e⟩ := two_words h2 h3
          rw [beq_iff_eq.1 hs] at e
          exact absurd (by rw [e]; rfl) h7
      rcases ch_input (r := r) (x := x) true true (ws := cut 32 l) (cut 32 l) rfl rfl hx with h | ⟨q, h1, _⟩
      · exact .inl h
      · rw [hno] at h1; cases h1
    rw [if_neg hs, if_neg hs]
    by_cases hp : (wd (cut 32 l) 0 == [112, 117, 98, 108, 105, 99]) = true
    · rw [if_pos hp, if_pos hp]
      rcases ch_input (r := r) (x := x) false false (ws := cut 32 l) (cut 32 l) rfl rfl hx with h | ⟨q, h1, h2, h3⟩
      · exact .inl h
      · refine .inr ⟨q, _, h1, h2, x ++ [false], rfl, by rw [h3]; simp [hx], ?_⟩
        intro b hbm
        simp only [List.mem_append, List.mem_singleton] at hbm
        rcases hbm with hbm | hbm
        · exact hb b hbm
        · exact hbm
    rw [if_neg hp, if_neg hp]
    by_cases g1 : (wd (cut 32 l) 0 == [118, 97, 114]) = true
    · rw [if_pos g1, if_pos g1]; exact rel_map hx hb (ch_var hx) (fun q => sec_var)
    rw [if_neg g1, if_neg g1]
    by_cases g2 : (wd (cut 32 l) 0 == [97, 114, 114, 97, 121]) = true
    · rw [if_pos g2, if_pos g2]; exact rel_map hx hb ch_array (fun q => sec_array)
    rw [if_neg g2, if_neg g2]
    by_cases g3 : (wd (cut 32 l) 0 == [108, 111, 97, 100]) = true
    · rw [if_pos g3, if_pos g3]; exact rel_map hx hb ch_load (fun q => sec_load)
    rw [if_neg g3, if_neg g3]
    by_cases g4 : (wd (cut 32 l) 0 == [115, 116, 111, 114, 101]) = true
    · rw [if_pos g4, if_pos g4]; exact rel_map hx hb ch_store (fun q => sec_store)
    rw [if_neg g4, if_neg g4]
    by_cases g5 : (wd (cut 32 l) 0 == [111, 117, 116]) = true
    · rw [if_pos g5, if_pos g5]; exact rel_map hx hb ch_out (fun q => sec_out)
    rw [if_neg g5, if_neg g5]
    by_cases g6 : (wd (cut 32 l) 0 == [105, 102]) = true
    · rw [if_pos g6, if_pos g6]; exact rel_map hx hb (ch_branch 4) (fun q => sec_branch)
    rw [if_neg g6, if_neg g6]
    by_cases g7 : (wd (cut 32 l) 0 == [119, 104, 105, 108, 101]) = true
    · rw [if_pos g7, if_pos g7]; exact rel_map hx hb (ch_branch 5) (fun q => sec_branch)
    rw [if_neg g7, if_neg g7]
    by_cases g8 : (wd (cut 32 l) 0 == [101, 108, 115, 101]) = true
    · rw [if_pos g8, if_pos g8]; exact rel_map hx hb ch_else (fun q => sec_else)
    rw [if_neg g8, if_neg g8]
    by_cases g9 : (wd (cut 32 l) 0 == [101, 110, 100]) = true
    · rw [if_pos g9, if_pos g9]; exact rel_map hx hb ch_end (fun q => sec_end)
    rw [if_neg g9, if_neg g9]
    exact rel_map hx hb ch_assign (fun q => sec_assign)

theorem tlast_len (l : Wd) : (tlast l).length = l.length := by
  unfold tlast
  split
  · rename_i h
    rw [List.length_append, List.length_drop, show pubL.length = 7 from rfl]; omega
  · rfl

theorem lines_tl {r r' : RS} (h : Pub r r') (n : Nat) (ls : List Wd) : ((lines r n ls).2 = 0 → (lines r' n (mapL ls)).2 = 0 ∧ Pub (lines r n ls).1 (lines r' n (mapL ls)).1) ∧ ((lines r n ls).2 ≠ 0 → (lines r' n (mapL ls)).2 ≠ 0) := by
  induction ls generalizing r r' n with
  | nil => exact ⟨fun h => absurd h (Nat.succ_ne_zero _), fun _ => Nat.succ_ne_zero _⟩
  | cons l ls ih =>
    cases ls with
    | nil =>
      show ((lines r n [l]).2 = 0 → (lines r' n [tlast l]).2 = 0 ∧ Pub (lines r n [l]).1 (lines r' n [tlast l]).1) ∧ ((lines r n [l]).2 ≠ 0 → (lines r' n [tlast l]).2 ≠ 0)
      have hd : r'.depth = r.depth := by obtain ⟨x, rfl, _⟩ := h; rfl
      unfold lines
      rw [tlast_len, hd]
      by_cases hc : l.length = 0 ∧ r.depth = 0
      · rw [if_pos hc, if_pos hc]; exact ⟨fun _ => ⟨rfl, h⟩, fun k => absurd rfl k⟩
      · rw [if_neg hc, if_neg hc]; exact ⟨fun h => absurd h (Nat.succ_ne_zero _), fun _ => Nat.succ_ne_zero _⟩
    | cons m ls =>
      have hm : ∃ y ys, mapL (m :: ls) = y :: ys := by
        cases ls with
        | nil => exact ⟨_, _, rfl⟩
        | cons z zs => exact ⟨_, _, rfl⟩
      obtain ⟨y, ys, hy⟩ := hm
      have e2 : mapL (l :: m :: ls) = tl l :: y :: ys := by show tl l :: mapL (m :: ls) = _; rw [hy]
      rw [e2]
      rcases take_tl h l with ⟨t1, t2⟩ | ⟨q, q', t1, t2, hp⟩
      · have a1 : lines r n (l :: m :: ls) = (r, n + 1) := by conv => lhs; unfold lines; rw [t1]
        have a2 : lines r' n (tl l :: y :: ys) = (r', n + 1) := by conv => lhs; unfold lines; rw [t2]
        rw [a1, a2]
        exact ⟨fun h => absurd h (Nat.succ_ne_zero _), fun _ => Nat.succ_ne_zero _⟩
      · have a1 : lines r n (l :: m :: ls) = lines q (n + 1) (m :: ls) := by conv => lhs; unfold lines; rw [t1]
        have a2 : lines r' n (tl l :: y :: ys) = lines q' (n + 1) (y :: ys) := by conv => lhs; unfold lines; rw [t2]
        rw [a1, a2, ← hy]
        exact ih hp (n + 1)
end Sx
end Go.Proofs.YtgddmpmcnjlcjaaDoor
