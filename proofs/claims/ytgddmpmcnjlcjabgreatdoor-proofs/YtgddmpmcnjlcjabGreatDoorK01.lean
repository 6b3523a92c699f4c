import Derived.Test.YtgddmpmcnjlcjabGreatDoorB01
import Derived.Lib.ItoaMem
import Derived.Test.YtgddmpmcnjlcjabGreatDoorB10
namespace Go.Proofs.YtgddmpmcnjlcjabGreatDoor
open Go.Lib (itoa decDigits nDigits)
set_option linter.unusedVariables false
namespace Nz
abbrev Wd := List UInt8
def dig (x : UInt8) : Prop := 48 ≤ x.toNat ∧ x.toNat ≤ 57
def val (n : Nat) (t : Wd) : Nat := t.foldl (fun n x => 10 * n + (x.toNat - 48)) n
theorem ofNat_dig {d : Nat} (h : d < 10) : (UInt8.ofNat (48 + d)).toNat = 48 + d := by rw [UInt8.toNat_ofNat']; omega
theorem dec_dig (u : Nat) : ∀ x ∈ decDigits u, dig x := by
  induction u using Nat.strongRecOn with
  | ind u ih =>
    rw [decDigits]
    split
    · next h => intro x hx; rw [List.mem_singleton.1 hx]; unfold dig; rw [ofNat_dig h]; omega
    · next h =>
      intro x hx
      rcases List.mem_append.1 hx with hx | hx
      · exact ih (u / 10) (by omega) x hx
      · rw [List.mem_singleton.1 hx]; unfold dig; rw [ofNat_dig (Nat.mod_lt _ (by omega))]; have := Nat.mod_lt u (show 0 < 10 by omega); omega
theorem dec_val (u : Nat) : val 0 (decDigits u) = u := by
  induction u using Nat.strongRecOn with
  | ind u ih =>
    rw [decDigits]
    split
    · next h => show 10 * 0 + ((UInt8.ofNat (48 + u)).toNat - 48) = u; rw [ofNat_dig h]; omega
    · next h =>
      have := ih (u / 10) (by omega)
      unfold val at this ⊢
      rw [List.foldl_append, this]
      show 10 * (u / 10) + ((UInt8.ofNat (48 + u % 10)).toNat - 48) = u
      rw [ofNat_dig (Nat.mod_lt _ (by omega))]
      omega
theorem dec_len {u : Nat} (h : u < 100000000) : 1 ≤ (decDigits u).length ∧ (decDigits u).length ≤ 8 := by
  rw [Lib.decDigits_length]
  refine ⟨Lib.nDigits_pos u, ?_⟩
  have key : ∀ k u, u < 10 ^ (k + 1) → nDigits u ≤ k + 1 := by
    intro k
    induction k with
    | zero => intro u h; rw [Lib.nDigits_small (by simpa using h)]; exact Nat.le_refl _
    | succ k ih =>
      intro u h
      by_cases c : u < 10
      · rw [Lib.nDigits_small c]; omega
      · rw [Lib.nDigits_big c]
        have := ih (u / 10) (by rw [Nat.pow_succ] at h; omega)
        omega
  exact key 7 u (by simpa using h)
theorem dec_zero : decDigits 0 = [48] := by rw [decDigits]; simp
theorem dec_head {u : Nat} (h : 0 < u) : ∃ x xs, decDigits u = x :: xs ∧ x ≠ 48 := by
  induction u using Nat.strongRecOn with
  | ind u ih =>
    rw [decDigits]
    split
    · next h9 =>
      refine ⟨_, [], rfl, fun e => ?_⟩
      have := congrArg UInt8.toNat e
      rw [ofNat_dig h9, show (48 : UInt8).toNat = 48 from rfl] at this
      omega
    · next h9 =>
      obtain ⟨x, xs, e, hx⟩ := ih (u / 10) (by omega) (by omega)
      exact ⟨x, xs ++ [UInt8.ofNat (48 + u % 10)], by rw [e]; rfl, hx⟩
theorem itoa_pos (u : Nat) : itoa (u : Int) = decDigits u := Lib.itoa_nonneg u
theorem itoa_zero : itoa 0 = [48] := (itoa_pos 0).trans dec_zero
theorem itoa_sign (z : Int) : ∀ x ∈ itoa z, x = 45 ∨ dig x := by
  unfold itoa
  split
  · intro x hx
    rcases List.mem_cons.1 hx with e | e
    · exact .inl e
    · exact .inr (dec_dig _ x e)
  · intro x hx; exact .inr (dec_dig _ x hx)
theorem dig_ne {x : UInt8} (h : x = 45 ∨ dig x) : x ≠ 32 ∧ x ≠ 10 := by
  rcases h with rfl | h
  · exact ⟨by decide, by decide⟩
  · exact ⟨fun e => by subst e; exact absurd h.1 (by decide), fun e => by subst e; exact absurd h.1 (by decide)⟩
def wrds (zs : List Int) : Wd := zs.flatMap fun z => itoa z ++ [32]
theorem wrds_cons (z : Int) (zs : List Int) : wrds (z :: zs) = itoa z ++ 32 :: wrds zs := by unfold wrds; rw [List.flatMap_cons]; simp
theorem wrds_app (a b : List Int) : wrds (a ++ b) = wrds a ++ wrds b := by unfold wrds; rw [List.flatMap_append]
def lineZ (zs : List Int) : Wd := wrds zs ++ [48]
theorem cut_wrds (z : Int) : ∀ zs : List Int, Lk.cut 32 (wrds zs ++ itoa z) = (zs ++ [z]).map itoa
  | [] => by
    show Lk.cut 32 (itoa z) = [itoa z]
    exact Lk.cut_none 32 _ fun x hx => (dig_ne (itoa_sign z x hx)).1
  | y :: zs => by
    rw [wrds_cons, List.append_assoc, List.cons_append, Lk.cut_split 32 _ _ (fun x hx => (dig_ne (itoa_sign y x hx)).1), cut_wrds z zs]
    rfl
theorem cut_line (zs : List Int) : Lk.cut 32 (lineZ zs) = (zs ++ [0]).map itoa := by
  unfold lineZ; rw [← itoa_zero]; exact cut_wrds 0 zs
theorem line_no10 (zs : List Int) : ∀ x ∈ lineZ zs, x ≠ 10 := by
  intro x hx
  rcases List.mem_append.1 hx with hx | hx
  · obtain ⟨z, _, hz⟩ := List.mem_flatMap.1 hx
    rcases List.mem_append.1 hz with hz | hz
    · exact (dig_ne (itoa_sign z x hz)).2
    · rw [List.mem_singleton.1 hz]; decide
  · rw [List.mem_singleton.1 hx]; decide
def rend (cs : List (List Int)) : Wd := cs.flatMap fun c => lineZ c ++ [10]
theorem rend_cons (c : List Int) (cs : List (List Int)) : rend (c :: cs) = lineZ c ++ 10 :: rend cs := by unfold rend; rw [List.flatMap_cons]; simp
theorem rend_app (a b : List (List Int)) : rend (a ++ b) = rend a ++ rend b := by unfold rend; rw [List.flatMap_append]
theorem cut_rend : ∀ cs : List (List Int), Lk.cut 10 (rend cs) = cs.map lineZ ++ [[]]
  | [] => rfl
  | c :: cs => by rw [rend_cons, Lk.cut_split 10 _ _ (line_no10 c), cut_rend cs]; rfl
end Nz
end Go.Proofs.YtgddmpmcnjlcjabGreatDoor
namespace Go.Proofs.YtgddmpmcnjlcjabGreatDoor
open Go.RowKit
set_option linter.unusedVariables false
namespace Dg
def val (nodes : List Nd) (x : Nat → Bool) : Nat → Nat → Bool
  | 0, i => i == 1
  | f + 1, i => if i < 2 then i == 1 else if x (ndAt nodes i).bit then val nodes x f (ndAt nodes i).hi else val nodes x f (ndAt nodes i).lo
def vl (nodes : List Nd) (x : Nat → Bool) (i : Nat) : Bool := val nodes x i i
def Desc (nodes : List Nd) : Prop := ∀ i, 2 ≤ i → i < nodes.length → (ndAt nodes i).lo < i ∧ (ndAt nodes i).hi < i
theorem Ok.desc {n M : Nat} {s : St} (h : Ok n M s) : Desc s.nodes := fun i a b => ⟨h.lo i a b, h.hi i a b⟩
theorem val_leaf (nodes : List Nd) (x : Nat → Bool) (f i : Nat) (h : i < 2) : val nodes x f i = (i == 1) := by
  cases f with
  | zero => rfl
  | succ f => unfold val; rw [if_pos h]
theorem val_fuel {nodes : List Nd} (hd : Desc nodes) (x : Nat → Bool) : ∀ i, i < nodes.length → ∀ f, i ≤ f → val nodes x f i = vl nodes x i := by
  intro i
  induction i using Nat.strongRecOn with
  | ind i ih =>
    intro hi f hf
    by_cases c : i < 2
    · unfold vl; rw [val_leaf _ _ _ _ c, val_leaf _ _ _ _ c]
    · obtain ⟨f, rfl⟩ : ∃ g, f = g + 1 := ⟨f - 1, by omega⟩
      obtain ⟨j, rfl⟩ : ∃ j, i = j + 1 := ⟨i - 1, by omega⟩
      obtain ⟨h1, h2⟩ := hd (j + 1) (by omega) hi
      unfold vl val
      rw [if_neg c, if_neg c]
      split
      · rw [ih _ h2 (by omega) f (by omega), ih _ h2 (by omega) j (by omega)]
      · rw [ih _ h1 (by omega) f (by omega), ih _ h1 (by omega) j (by omega)]
theorem vl_leaf (nodes : List Nd) (x : Nat → Bool) (i : Nat) (h : i < 2) : vl nodes x i = (i == 1) := val_leaf _ _ _ _ h
theorem vl_node {nodes : List Nd} (hd : Desc nodes) (x : Nat → Bool) {i : Nat} (h2 : 2 ≤ i) (hi : i < nodes.length) : vl nodes x i = if x (ndAt nodes i).bit then vl nodes x (ndAt nodes i).hi else vl nodes x (ndAt nodes i).lo := by
  obtain ⟨j, rfl⟩ : ∃ j, i = j + 1 := ⟨i - 1, by omega⟩
  obtain ⟨a, b⟩ := hd (j + 1) h2 hi
  show val nodes x (j + 1) (j + 1) = _
  unfold val
  rw [if_neg (by omega)]
  split
  · exact val_fuel hd x _ (by omega) j (by omega)
  · exact val_fuel hd x _ (by omega) j (by omega)
theorem ndAt_app (l m : List Nd) (i : Nat) (h : i < l.length) : ndAt (l ++ m) i = ndAt l i := by simp [ndAt, List.getD_eq_getElem?_getD, List.getElem?_append_left h]
theorem vl_app {nodes : List Nd} (hd : Desc nodes) (m : List Nd) (x : Nat → Bool) : ∀ i, i < nodes.length → vl (nodes ++ m) x i = vl nodes x i := by
  have key : ∀ i, i < nodes.length → ∀ f, i ≤ f → val (nodes ++ m) x f i = val nodes x f i := by
    intro i
    induction i using Nat.strongRecOn with
    | ind i ih =>
      intro hi f hf
      by_cases c : i < 2
      · rw [val_leaf _ _ _ _ c, val_leaf _ _ _ _ c]
      · obtain ⟨f, rfl⟩ : ∃ g, f = g + 1 := ⟨f - 1, by omega⟩
        obtain ⟨h1, h2⟩ := hd i (by omega) hi
        unfold val
        rw [if_neg c, if_neg c, ndAt_app _ _ _ hi]
        split
        · exact ih _ h2 (by omega) f (by omega)
        · exact ih _ h1 (by omega) f (by omega)
  intro i hi
  exact key i hi i (Nat.le_refl _)
def chL (behind : List Nat) : Nat → Nat → List Nat
  | 0, _ => []
  | f + 1, n => if n = 0 then [] else n :: chL behind f (behind.getD n 0)
structure Uq (sec : List Bool) (M : Nat) (pos : Nat → Nat) (s : St) : Prop where
  z0 : ndAt s.nodes 0 = {}
  z1 : ndAt s.nodes 1 = {}
  ne : ∀ i, 2 ≤ i → i < s.nodes.length → (ndAt s.nodes i).lo ≠ (ndAt s.nodes i).hi
  uq : ∀ i j, 2 ≤ i → i < s.nodes.length → 2 ≤ j → j < s.nodes.length → (ndAt s.nodes i).bit = (ndAt s.nodes j).bit → (ndAt s.nodes i).lo = (ndAt s.nodes j).lo → (ndAt s.nodes i).hi = (ndAt s.nodes j).hi → i = j
  ch : ∀ i, 2 ≤ i → i < s.nodes.length → i ∈ chL s.behind s.nodes.length (s.heads (chain M (ndAt s.nodes i).bit (ndAt s.nodes i).lo (ndAt s.nodes i).hi))
  lo : ∀ i, 2 ≤ i → i < s.nodes.length → 2 ≤ (ndAt s.nodes i).lo → pos (ndAt s.nodes (ndAt s.nodes i).lo).bit < pos (ndAt s.nodes i).bit
  hi : ∀ i, 2 ≤ i → i < s.nodes.length → 2 ≤ (ndAt s.nodes i).hi → pos (ndAt s.nodes (ndAt s.nodes i).hi).bit < pos (ndAt s.nodes i).bit
  sc : ∀ i, 2 ≤ i → i < s.nodes.length → (ndAt s.nodes i).sec = (sec.getD ((ndAt s.nodes i).bit / 4) false || (ndAt s.nodes (ndAt s.nodes i).lo).sec || (ndAt s.nodes (ndAt s.nodes i).hi).sec)
theorem uq0 (sec : List Bool) (M : Nat) (pos : Nat → Nat) : Uq sec M pos {} :=
  ⟨rfl, rfl, fun i h h2 => absurd (show i < 2 from h2) (by omega), fun i j h h2 => absurd (show i < 2 from h2) (by omega), fun i h h2 => absurd (show i < 2 from h2) (by omega), fun i h h2 => absurd (show i < 2 from h2) (by omega), fun i h h2 => absurd (show i < 2 from h2) (by omega), fun i h h2 => absurd (show i < 2 from h2) (by omega)⟩
theorem look_hit (nodes : List Nd) (behind : List Nat) (b lo hi : Nat) : ∀ f n, look nodes behind b lo hi f n ≠ 0 → look nodes behind b lo hi f n ∈ chL behind f n ∧ (ndAt nodes (look nodes behind b lo hi f n)).bit = b ∧ (ndAt nodes (look nodes behind b lo hi f n)).lo = lo ∧ (ndAt nodes (look nodes behind b lo hi f n)).hi = hi := by
  intro f
  induction f with
  | zero => intro n h; exact absurd rfl h
  | succ f ih =>
    intro n h
    unfold look at h ⊢
    unfold chL
    by_cases c : n = 0
    · rw [if_pos c] at h; exact absurd rfl h
    · rw [if_neg c] at h ⊢
      rw [if_neg c]
      split at h
      · next hc => rw [if_pos hc]; exact ⟨List.mem_cons_self, hc⟩
      · next hc =>
        rw [if_neg hc]
        have := ih _ h
        exact ⟨List.mem_cons_of_mem _ this.1, this.2⟩
theorem look_miss (nodes : List Nd) (behind : List Nat) (b lo hi : Nat) : ∀ f n, look nodes behind b lo hi f n = 0 → ∀ m ∈ chL behind f n, ¬ ((ndAt nodes m).bit = b ∧ (ndAt nodes m).lo = lo ∧ (ndAt nodes m).hi = hi) := by
  intro f
  induction f with
  | zero => intro n h m hm; cases hm
  | succ f ih =>
    intro n h m hm
    unfold look at h
    unfold chL at hm
    by_cases c : n = 0
    · rw [if_pos c] at hm; cases hm
    · rw [if_neg c] at h hm
      split at h
      · exact absurd h c
      · next hc =>
        rcases List.mem_cons.1 hm with e | e
        · rw [e]; exact hc
        · exact ih _ h m e
theorem chL_fuel (behind : List Nat) (L : Nat) (hd : ∀ i, 0 < i → i < L → behind.getD i 0 < i) : ∀ n, n < L → ∀ f, n ≤ f → chL behind f n = chL behind n n := by
  intro n
  induction n using Nat.strongRecOn with
  | ind n ih =>
    intro hn f hf
    by_cases c : n = 0
    · subst c
      cases f with
      | zero => rfl
      | succ f => unfold chL; simp
    · obtain ⟨f, rfl⟩ : ∃ g, f = g + 1 := ⟨f - 1, by omega⟩
      obtain ⟨j, rfl⟩ : ∃ j, n = j + 1 := ⟨n - 1, by omega⟩
      have h1 := hd (j + 1) (by omega) hn
      unfold chL
      rw [if_neg c, if_neg c, ih _ h1 (by omega) f (by omega), ih _ h1 (by omega) j (by omega)]
theorem chL_app (behind : List Nat) (L d : Nat) (hl : behind.length = L) (hd : ∀ i, 0 < i → i < L → behind.getD i 0 < i) : ∀ n, n < L → chL (behind ++ [d]) n n = chL behind n n := by
  have key : ∀ n, n < L → ∀ f, chL (behind ++ [d]) f n = chL behind f n := by
    intro n
    induction n using Nat.strongRecOn with
    | ind n ih =>
      intro hn f
      cases f with
      | zero => rfl
      | succ f =>
        unfold chL
        by_cases c : n = 0
        · rw [if_pos c, if_pos c]
        · rw [if_neg c, if_neg c, getD_old _ _ _ (by omega), ih _ (hd n (by omega) hn) (by have := hd n (by omega) hn; omega) f]
  intro n hn
  exact key n hn n
def Under (pos : Nat → Nat) (nodes : List Nd) (q i : Nat) : Prop := i < nodes.length ∧ (2 ≤ i → pos (ndAt nodes i).bit < q)
theorem Under.app {pos : Nat → Nat} {nodes : List Nd} {q i : Nat} (h : Under pos nodes q i) (m : List Nd) : Under pos (nodes ++ m) q i := ⟨by rw [List.length_append]; exact Nat.lt_of_lt_of_le h.1 (Nat.le_add_right _ _), fun h2 => by rw [ndAt_app _ _ _ h.1]; exact h.2 h2⟩
theorem Under.mono {pos : Nat → Nat} {nodes : List Nd} {q r i : Nat} (h : Under pos nodes q i) (hq : q ≤ r) : Under pos nodes r i := ⟨h.1, fun h2 => Nat.lt_of_lt_of_le (h.2 h2) hq⟩
theorem uq_push {sec : List Bool} {n M : Nat} {pos : Nat → Nat} {s : St} (ok : Ok n M s) (h : Uq sec M pos s) {b lo hi : Nat} (hb : b < 4 * n) (hne : lo ≠ hi) (hlo : Under pos s.nodes (pos b) lo) (hhi : Under pos s.nodes (pos b) hi) (hf : found M s b lo hi = 0) : Uq sec M pos (push sec M s b lo hi) := by
  have hL : (push sec M s b lo hi).nodes.length = s.nodes.length + 1 := by simp [push]
  have old : ∀ i, i < s.nodes.length → ndAt (push sec M s b lo hi).nodes i = ndAt s.nodes i := fun i hi => ndAt_old _ _ _ hi
  have new : ndAt (push sec M s b lo hi).nodes s.nodes.length = newNd sec s b lo hi := ndAt_new _ _
  have two := ok.two
  have miss := look_miss s.nodes s.behind b lo hi _ _ hf
  have nomatch_ : ∀ i, 2 ≤ i → i < s.nodes.length → ¬ ((ndAt s.nodes i).bit = b ∧ (ndAt s.nodes i).lo = lo ∧ (ndAt s.nodes i).hi = hi) := fun i h2 hi c => by
    have := h.ch i h2 hi
    rw [c.1, c.2.1, c.2.2] at this
    exact miss i this c
  refine ⟨by rw [old 0 (by omega)]; exact h.z0, by rw [old 1 (by omega)]; exact h.z1, fun i h2 hz => ?_, fun i j h2 hz h2j hj e1 e2 e3 => ?_, fun i h2 hz => ?_, fun i h2 hz h3 => ?_, fun i h2 hz h3 => ?_, fun i h2 hz => ?_⟩
  all_goals rw [hL] at hz
  · by_cases c : i < s.nodes.length
    · rw [old i c]; exact h.ne i h2 c
    · have : i = s.nodes.length := by omega
      subst this
      rw [new]; exact hne
  · rw [hL] at hj
    by_cases c : i < s.nodes.length
    · by_cases d : j < s.nodes.length
      · rw [old i c, old j d] at e1 e2 e3
        exact h.uq i j h2 c h2j d e1 e2 e3
      · have : j = s.nodes.length := by omega
        subst this
        rw [old i c, new] at e1 e2 e3
        exact absurd ⟨e1, e2, e3⟩ (nomatch_ i h2 c)
    · have : i = s.nodes.length := by omega
      subst this
      by_cases d : j < s.nodes.length
      · rw [new, old j d] at e1 e2 e3
        exact absurd ⟨e1.symm, e2.symm, e3.symm⟩ (nomatch_ j h2j d)
      · omega
  · have hh := ok.heads
    have hbl : s.behind.length = s.nodes.length := ok.len
    have chold : ∀ m f, m < s.nodes.length → s.nodes.length ≤ f → chL (s.behind ++ [s.heads (chain M b lo hi)]) f m = chL s.behind s.nodes.length m := fun m f hm hf2 => by
      have okp := (ok.push sec hb hlo.1 hhi.1)
      rw [chL_fuel (s.behind ++ [s.heads (chain M b lo hi)]) (s.nodes.length + 1) (fun i h0 h1 => by
          have := okp.dec i h0 (by rw [hL]; exact h1)
          exact this) m (by omega) f (by omega), chL_app s.behind s.nodes.length _ hbl ok.dec m hm, ← chL_fuel s.behind s.nodes.length ok.dec m hm s.nodes.length (by omega)]
    have hset : ∀ c, (push sec M s b lo hi).heads c = if c = chain M b lo hi then s.nodes.length else s.heads c := fun _ => rfl
    have hbe : (push sec M s b lo hi).behind = s.behind ++ [s.heads (chain M b lo hi)] := rfl
    rw [hL, hset, hbe]
    have hnew : chL (s.behind ++ [s.heads (chain M b lo hi)]) (s.nodes.length + 1) s.nodes.length = s.nodes.length :: chL s.behind s.nodes.length (s.heads (chain M b lo hi)) := by
      rw [show chL (s.behind ++ [s.heads (chain M b lo hi)]) (s.nodes.length + 1) s.nodes.length = if s.nodes.length = 0 then [] else s.nodes.length :: chL (s.behind ++ [s.heads (chain M b lo hi)]) s.nodes.length ((s.behind ++ [s.heads (chain M b lo hi)]).getD s.nodes.length 0) from rfl, if_neg (by omega)]
      congr 1
      rw [show (s.behind ++ [s.heads (chain M b lo hi)]).getD s.nodes.length 0 = s.heads (chain M b lo hi) by rw [← hbl]; exact getD_new _ _]
      exact chold _ _ (hh _) (Nat.le_refl _)
    by_cases c : i < s.nodes.length
    · rw [old i c]
      have hm := h.ch i h2 c
      by_cases e : chain M (ndAt s.nodes i).bit (ndAt s.nodes i).lo (ndAt s.nodes i).hi = chain M b lo hi
      · rw [if_pos e, hnew]
        rw [e] at hm
        exact List.mem_cons_of_mem _ hm
      · rw [if_neg e, chold _ _ (hh _) (by omega)]
        exact hm
    · have : i = s.nodes.length := by omega
      subst this
      rw [new]
      show _ ∈ chL _ _ (if chain M b lo hi = chain M b lo hi then _ else _)
      rw [if_pos rfl, hnew]
      exact List.mem_cons_self
  · by_cases c : i < s.nodes.length
    · rw [old i c] at h3 ⊢
      rw [old _ (by have := ok.lo i h2 c; omega)]
      exact h.lo i h2 c h3
    · have : i = s.nodes.length := by omega
      subst this
      rw [new] at h3 ⊢
      show pos (ndAt (push sec M s b lo hi).nodes lo).bit < pos b
      rw [old lo hlo.1]
      exact hlo.2 h3
  · by_cases c : i < s.nodes.length
    · rw [old i c] at h3 ⊢
      rw [old _ (by have := ok.hi i h2 c; omega)]
      exact h.hi i h2 c h3
    · have : i = s.nodes.length := by omega
      subst this
      rw [new] at h3 ⊢
      show pos (ndAt (push sec M s b lo hi).nodes hi).bit < pos b
      rw [old hi hhi.1]
      exact hhi.2 h3
  · by_cases c : i < s.nodes.length
    · rw [old i c, old _ (by have := ok.lo i h2 c; omega), old _ (by have := ok.hi i h2 c; omega)]
      exact h.sc i h2 c
    · have : i = s.nodes.length := by omega
      subst this
      rw [new]
      show _ = (sec.getD (b / 4) false || (ndAt (push sec M s b lo hi).nodes lo).sec || (ndAt (push sec M s b lo hi).nodes hi).sec)
      rw [old lo hlo.1, old hi hhi.1]
      rfl
end Dg
namespace Dg
variable {sec : List Bool} {n M : Nat} {pos : Nat → Nat} {s : St}
theorem made_val (ok : Ok n M s) (h : Uq sec M pos s) {b lo hi : Nat} (hb : b < 4 * n) (hlo : Under pos s.nodes (pos b) lo) (hhi : Under pos s.nodes (pos b) hi) :
    Ok n M (nodeOf sec M s b lo hi).2 ∧ Uq sec M pos (nodeOf sec M s b lo hi).2 ∧ Under pos (nodeOf sec M s b lo hi).2.nodes (pos b + 1) (nodeOf sec M s b lo hi).1 ∧ (∃ m, (nodeOf sec M s b lo hi).2.nodes = s.nodes ++ m) ∧ ∀ x, vl (nodeOf sec M s b lo hi).2.nodes x (nodeOf sec M s b lo hi).1 = if x b then vl s.nodes x hi else vl s.nodes x lo := by
  refine ⟨(ok.made sec hb hlo.1 hhi.1).1, ?_⟩
  unfold nodeOf
  by_cases e : lo = hi
  · simp only [if_pos e]
    subst e
    exact ⟨h, hlo.mono (by omega), ⟨[], by simp⟩, fun x => by split <;> rfl⟩
  · simp only [if_neg e]
    by_cases f : found M s b lo hi ≠ 0
    · simp only [if_pos f]
      obtain ⟨g0, g1, g2, g3⟩ := look_hit s.nodes s.behind b lo hi _ _ f
      have g1 : (ndAt s.nodes (found M s b lo hi)).bit = b := g1
      have g2 : (ndAt s.nodes (found M s b lo hi)).lo = lo := g2
      have g3 : (ndAt s.nodes (found M s b lo hi)).hi = hi := g3
      have fl := ok.found b lo hi
      have f2 : 2 ≤ found M s b lo hi := by
        by_cases c : found M s b lo hi = 1
        · exfalso
          rw [c, h.z1] at g2 g3
          exact e (g2.symm.trans g3)
        · omega
      refine ⟨h, ⟨fl, fun _ => ?_⟩, ⟨[], by simp⟩, fun x => ?_⟩
      · rw [g1]; omega
      · rw [vl_node ok.desc x f2 fl, g1, g2, g3]
    · simp only [if_neg f]
      have f0 : found M s b lo hi = 0 := by omega
      have hn : (push sec M s b lo hi).nodes = s.nodes ++ [newNd sec s b lo hi] := rfl
      refine ⟨uq_push ok h hb e hlo hhi f0, ⟨by rw [hn]; simp, fun _ => ?_⟩, ⟨_, hn⟩, fun x => ?_⟩
      · rw [hn, ndAt_new]; show pos b < pos b + 1; omega
      · rw [vl_node (ok.push sec hb hlo.1 hhi.1).desc x ok.two (by rw [hn]; simp), hn, ndAt_new]
        show (if x b then vl (s.nodes ++ _) x hi else vl (s.nodes ++ _) x lo) = _
        rw [vl_app ok.desc _ x hi hhi.1, vl_app ok.desc _ x lo hlo.1]
theorem levN_val (ok : Ok n M s) (h : Uq sec M pos s) {b : Nat} (hb : b < 4 * n) {r : Nat → Nat} (R : Nat) (hr : ∀ j, j < 2 * R → Under pos s.nodes (pos b) (r j)) : ∀ i, i ≤ R →
    Ok n M (levN sec M b s r i).1 ∧ Uq sec M pos (levN sec M b s r i).1 ∧ (∃ m, (levN sec M b s r i).1.nodes = s.nodes ++ m) ∧ (∀ j, i ≤ j → (levN sec M b s r i).2 j = r j) ∧
      ∀ j, j < i → Under pos (levN sec M b s r i).1.nodes (pos b + 1) ((levN sec M b s r i).2 j) ∧ ∀ x, vl (levN sec M b s r i).1.nodes x ((levN sec M b s r i).2 j) = if x b then vl s.nodes x (r (2 * j + 1)) else vl s.nodes x (r (2 * j)) := by
  intro i
  induction i with
  | zero => intro _; exact ⟨ok, h, ⟨[], by simp [levN]⟩, fun _ _ => rfl, fun j hj => absurd hj (by omega)⟩
  | succ i ih =>
    intro hi
    obtain ⟨h1, h2, ⟨m, h3⟩, h4, h5⟩ := ih (by omega)
    have u0 := hr (2 * i) (by omega)
    have u1 := hr (2 * i + 1) (by omega)
    have e0 := h4 (2 * i) (by omega)
    have e1 := h4 (2 * i + 1) (by omega)
    obtain ⟨k1, k2, k3, ⟨m', k4⟩, k5⟩ := made_val h1 h2 (lo := r (2 * i)) (hi := r (2 * i + 1)) hb (by rw [h3]; exact u0.app m) (by rw [h3]; exact u1.app m)
    have e : levN sec M b s r (i + 1) = ((nodeOf sec M (levN sec M b s r i).1 b (r (2 * i)) (r (2 * i + 1))).2, fun j => if j = i then (nodeOf sec M (levN sec M b s r i).1 b (r (2 * i)) (r (2 * i + 1))).1 else (levN sec M b s r i).2 j) := by
      show ((nodeOf sec M (levN sec M b s r i).1 b ((levN sec M b s r i).2 (2 * i)) ((levN sec M b s r i).2 (2 * i + 1))).2, _) = _
      rw [e0, e1]
    rw [e]
    refine ⟨k1, k2, ⟨m ++ m', by show (nodeOf sec M _ b _ _).2.nodes = _; rw [k4, h3, List.append_assoc]⟩, fun j hj => ?_, fun j hj => ?_⟩
    · show (if j = i then _ else _) = _
      rw [if_neg (by omega)]
      exact h4 j (by omega)
    · show Under pos (nodeOf sec M (levN sec M b s r i).1 b (r (2 * i)) (r (2 * i + 1))).2.nodes (pos b + 1) (if j = i then _ else _) ∧ ∀ x, vl (nodeOf sec M (levN sec M b s r i).1 b (r (2 * i)) (r (2 * i + 1))).2.nodes x (if j = i then _ else _) = _
      by_cases c : j = i
      · subst c
        simp only [if_true]
        refine ⟨k3, fun x => ?_⟩
        rw [k5 x, h3, vl_app ok.desc m x _ u0.1, vl_app ok.desc m x _ u1.1]
      · simp only [if_neg c]
        obtain ⟨a1, a2⟩ := h5 j (by omega)
        refine ⟨by rw [k4]; exact a1.app m', fun x => ?_⟩
        rw [k4, vl_app h1.desc m' x _ a1.1]
        exact a2 x
def ix (bits : List Nat) (x : Nat → Bool) : Nat → Nat → Nat
  | 0, j => j
  | L + 1, j => ix bits x L (if x (bits.getD L 0) then 2 * j + 1 else 2 * j)
theorem levs_val {bits : List Nat} (hpos : ∀ l, l < bits.length → pos (bits.getD l 0) = l) (hb : ∀ i, i < bits.length → bits.getD i 0 < 4 * n) (ok : Ok n M s) (h : Uq sec M pos s) {rest : Nat} {r : Nat → Nat} (hr : ∀ j, r j < 2) : ∀ L, L ≤ bits.length →
    Ok n M (levs sec M bits s r rest L).1 ∧ Uq sec M pos (levs sec M bits s r rest L).1 ∧ (∃ m, (levs sec M bits s r rest L).1.nodes = s.nodes ++ m) ∧
      ∀ j, j < rest / 2 ^ L → Under pos (levs sec M bits s r rest L).1.nodes L ((levs sec M bits s r rest L).2 j) ∧ ∀ x, vl (levs sec M bits s r rest L).1.nodes x ((levs sec M bits s r rest L).2 j) = (r (ix bits x L j) == 1) := by
  intro L
  induction L with
  | zero =>
    intro _
    refine ⟨ok, h, ⟨[], by simp [levs]⟩, fun j _ => ⟨⟨Nat.lt_of_lt_of_le (hr j) ok.two, fun h2 => ?_⟩, fun x => vl_leaf _ _ _ (hr j)⟩⟩
    have h2 : 2 ≤ r j := h2
    have := hr j
    omega
  | succ L ih =>
    intro hL
    obtain ⟨h1, h2, ⟨m, h3⟩, h4⟩ := ih (by omega)
    have hp := hpos L (by omega)
    obtain ⟨k1, k2, ⟨m', k3⟩, k4, k5⟩ := levN_val (b := bits.getD L 0) (r := (levs sec M bits s r rest L).2) h1 h2 (hb L (by omega)) (rest / 2 ^ (L + 1)) (fun j hj => by rw [hp]; exact (h4 j (by have := half rest L; omega)).1) (rest / 2 ^ (L + 1)) (Nat.le_refl _)
    refine ⟨k1, k2, ⟨m ++ m', by show (levN sec M _ _ _ _).1.nodes = _; rw [k3, h3, List.append_assoc]⟩, fun j hj => ?_⟩
    obtain ⟨a1, a2⟩ := k5 j hj
    refine ⟨by have a1 := a1; rw [hp] at a1; exact a1, fun x => ?_⟩
    refine (a2 x).trans ?_
    have := half rest L
    show _ = (r (ix bits x L (if x (bits.getD L 0) then 2 * j + 1 else 2 * j)) == 1)
    by_cases c : x (bits.getD L 0) = true
    · rw [if_pos c, if_pos c]; exact (h4 (2 * j + 1) (by omega)).2 x
    · rw [if_neg c, if_neg c]; exact (h4 (2 * j) (by omega)).2 x
theorem stp_val {bits : List Nat} (hpos : ∀ l, l < bits.length → pos (bits.getD l 0) = l) (hb : ∀ i, i < bits.length → bits.getD i 0 < 4 * n) (hM : M = 2 ^ bits.length) (T : Nat → List Nat) : ∀ c,
    Ok n M (stp sec M bits T c).1 ∧ Uq sec M pos (stp sec M bits T c).1 ∧ (stp sec M bits T c).2.length = c ∧ ∀ j, j < c → (stp sec M bits T c).2.getD j 0 < (stp sec M bits T c).1.nodes.length ∧ ∀ x, vl (stp sec M bits T c).1.nodes x ((stp sec M bits T c).2.getD j 0) = (layR T (j / 7) (j % 7) (ix bits x bits.length 0) == 1) := by
  intro c
  induction c with
  | zero => exact ⟨ok0 n M, uq0 sec M pos, rfl, fun j h => absurd h (by omega)⟩
  | succ c ih =>
    obtain ⟨h1, h2, h3, h4⟩ := ih
    obtain ⟨k1, k2, ⟨m, k3⟩, k4⟩ := levs_val (rest := M) (r := layR T (c / 7) (c % 7)) hpos hb h1 h2 (layR_lt T _ _) bits.length (Nat.le_refl _)
    have hM1 : 0 < M / 2 ^ bits.length := by rw [hM, Nat.div_self (Nat.pow_pos (by omega))]; omega
    refine ⟨k1, k2, by show (_ ++ [_]).length = _; rw [List.length_append, h3]; rfl, fun j hj => ?_⟩
    have e0 : stp sec M bits T (c + 1) = ((levs sec M bits (stp sec M bits T c).1 (layR T (c / 7) (c % 7)) M bits.length).1, (stp sec M bits T c).2 ++ [(levs sec M bits (stp sec M bits T c).1 (layR T (c / 7) (c % 7)) M bits.length).2 0]) := rfl
    rw [e0]
    by_cases e : j < c
    · have g := getD_old (stp sec M bits T c).2 ((levs sec M bits (stp sec M bits T c).1 (layR T (c / 7) (c % 7)) M bits.length).2 0) j (by rw [h3]; exact e)
      simp only [g]
      obtain ⟨a1, a2⟩ := h4 j e
      refine ⟨by rw [k3, List.length_append]; omega, fun x => ?_⟩
      rw [k3, vl_app h1.desc m x _ a1]
      exact a2 x
    · have e2 : j = c := by omega
      have g := getD_new (stp sec M bits T c).2 ((levs sec M bits (stp sec M bits T c).1 (layR T (c / 7) (c % 7)) M bits.length).2 0)
      rw [h3] at g
      subst e2
      simp only [g]
      exact ⟨(k4 0 hM1).1.1, (k4 0 hM1).2⟩
def st (x : Nat → Bool) (b : Nat) (v : Bool) : Nat → Bool := fun j => if j = b then v else x j
theorem st_same (x : Nat → Bool) (b : Nat) (v : Bool) : st x b v b = v := if_pos rfl
theorem st_other (x : Nat → Bool) {b j : Nat} (v : Bool) (h : j ≠ b) : st x b v j = x j := if_neg h
theorem vl_free (ok : Ok n M s) (h : Uq sec M pos s) (x : Nat → Bool) (b : Nat) (v : Bool) : ∀ i, Under pos s.nodes (pos b) i → vl s.nodes (st x b v) i = vl s.nodes x i := by
  intro i
  induction i using Nat.strongRecOn with
  | ind i ih =>
    intro hu
    by_cases c : i < 2
    · rw [vl_leaf _ _ _ c, vl_leaf _ _ _ c]
    · have c2 : 2 ≤ i := by omega
      have hp := hu.2 c2
      have hlo := ok.lo i c2 hu.1
      have hhi := ok.hi i c2 hu.1
      rw [vl_node ok.desc _ c2 hu.1, vl_node ok.desc _ c2 hu.1, st_other x v (fun e => by rw [e] at hp; omega), ih _ hlo ⟨by have := hu.1; omega, fun q => Nat.lt_trans (h.lo i c2 hu.1 q) hp⟩, ih _ hhi ⟨by have := hu.1; omega, fun q => Nat.lt_trans (h.hi i c2 hu.1 q) hp⟩]
theorem under_lo (ok : Ok n M s) (h : Uq sec M pos s) {i : Nat} (h2 : 2 ≤ i) (hi : i < s.nodes.length) : Under pos s.nodes (pos (ndAt s.nodes i).bit) (ndAt s.nodes i).lo ∧ Under pos s.nodes (pos (ndAt s.nodes i).bit) (ndAt s.nodes i).hi :=
  ⟨⟨by have := ok.lo i h2 hi; omega, h.lo i h2 hi⟩, ⟨by have := ok.hi i h2 hi; omega, h.hi i h2 hi⟩⟩
theorem vl_st (ok : Ok n M s) (h : Uq sec M pos s) {i : Nat} (h2 : 2 ≤ i) (hi : i < s.nodes.length) (x : Nat → Bool) (v : Bool) : vl s.nodes (st x (ndAt s.nodes i).bit v) i = if v then vl s.nodes x (ndAt s.nodes i).hi else vl s.nodes x (ndAt s.nodes i).lo := by
  obtain ⟨u1, u2⟩ := under_lo ok h h2 hi
  rw [vl_node ok.desc _ h2 hi, st_same, vl_free ok h x _ v _ u1, vl_free ok h x _ v _ u2]
theorem canon_lt (ok : Ok n M s) (h : Uq sec M pos s) {N i j : Nat} (ih : ∀ i j, i < N → j < N → i < s.nodes.length → j < s.nodes.length → (∀ x, vl s.nodes x i = vl s.nodes x j) → i = j) (hN : i ≤ N) (h2 : 2 ≤ i) (hi : i < s.nodes.length) (hj : Under pos s.nodes (pos (ndAt s.nodes i).bit) j) (e : ∀ x, vl s.nodes x i = vl s.nodes x j) : False := by
  have hlo := ok.lo i h2 hi
  have hhi := ok.hi i h2 hi
  refine h.ne i h2 hi (ih _ _ (by omega) (by omega) (by omega) (by omega) fun x => ?_)
  have a1 := e (st x (ndAt s.nodes i).bit true)
  have a0 := e (st x (ndAt s.nodes i).bit false)
  rw [vl_st ok h h2 hi, vl_free ok h x _ _ j hj] at a1 a0
  exact a0.trans a1.symm
theorem canon (ok : Ok n M s) (h : Uq sec M pos s) (hinj : ∀ a b, a < 4 * n → b < 4 * n → pos a = pos b → a = b) : ∀ N i j, i < N → j < N → i < s.nodes.length → j < s.nodes.length → (∀ x, vl s.nodes x i = vl s.nodes x j) → i = j := by
  intro N
  induction N with
  | zero => intro i j h; exact absurd h (by omega)
  | succ N ih =>
    intro i j hiN hjN hi hj e
    by_cases c : i < 2
    · by_cases d : j < 2
      · have := e fun _ => false
        rw [vl_leaf _ _ _ c, vl_leaf _ _ _ d] at this
        have h01 : (i = 0 ∨ i = 1) ∧ (j = 0 ∨ j = 1) := by omega
        rcases h01 with ⟨rfl | rfl, rfl | rfl⟩
        · rfl
        · exact absurd this (by decide)
        · exact absurd this (by decide)
        · rfl
      · exact (canon_lt ok h ih (by omega) (by omega) hj ⟨hi, fun q => absurd q (by omega)⟩ (fun x => (e x).symm)).elim
    · by_cases d : j < 2
      · exact (canon_lt ok h ih (by omega) (by omega) hi ⟨hj, fun q => absurd q (by omega)⟩ e).elim
      · have c2 : 2 ≤ i := by omega
        have d2 : 2 ≤ j := by omega
        rcases Nat.lt_trichotomy (pos (ndAt s.nodes i).bit) (pos (ndAt s.nodes j).bit) with g | g | g
        · exact (canon_lt ok h ih (by omega) d2 hj ⟨hi, fun _ => g⟩ (fun x => (e x).symm)).elim
        · have eb := hinj _ _ (ok.bit i c2 hi) (ok.bit j d2 hj) g
          have l1 := ok.lo i c2 hi
          have l2 := ok.lo j d2 hj
          have k1 := ok.hi i c2 hi
          have k2 := ok.hi j d2 hj
          refine h.uq i j c2 hi d2 hj eb (ih _ _ (by omega) (by omega) (by omega) (by omega) fun x => ?_) (ih _ _ (by omega) (by omega) (by omega) (by omega) fun x => ?_)
          · have a := e (st x (ndAt s.nodes i).bit false)
            rw [vl_st ok h c2 hi, eb, vl_st ok h d2 hj] at a
            exact a
          · have a := e (st x (ndAt s.nodes i).bit true)
            rw [vl_st ok h c2 hi, eb, vl_st ok h d2 hj] at a
            exact a
        · exact (canon_lt ok h ih (by omega) c2 hi ⟨hj, fun _ => g⟩ e).elim
def AgB (n : Nat) (sec : List Bool) (x y : Nat → Bool) : Prop := ∀ b, b < 4 * n → sec.getD (b / 4) false = false → x b = y b
theorem nosec_same (ok : Ok n M s) (h : Uq sec M pos s) {x y : Nat → Bool} (hxy : AgB n sec x y) : ∀ i, i < s.nodes.length → (ndAt s.nodes i).sec = false → vl s.nodes x i = vl s.nodes y i := by
  intro i
  induction i using Nat.strongRecOn with
  | ind i ih =>
    intro hi hs
    by_cases c : i < 2
    · rw [vl_leaf _ _ _ c, vl_leaf _ _ _ c]
    · have c2 : 2 ≤ i := by omega
      have l := ok.lo i c2 hi
      have k := ok.hi i c2 hi
      have q := h.sc i c2 hi
      rw [hs] at q
      have q := q.symm
      simp only [Bool.or_eq_false_iff] at q
      rw [vl_node ok.desc _ c2 hi, vl_node ok.desc _ c2 hi, hxy _ (ok.bit i c2 hi) q.1.1, ih _ l (by omega) q.1.2, ih _ k (by omega) q.2]
theorem sec_dep (ok : Ok n M s) (h : Uq sec M pos s) (hinj : ∀ a b, a < 4 * n → b < 4 * n → pos a = pos b → a = b) : ∀ i, i < s.nodes.length → (ndAt s.nodes i).sec = true → ∃ x y, AgB n sec x y ∧ vl s.nodes x i ≠ vl s.nodes y i := by
  intro i
  induction i using Nat.strongRecOn with
  | ind i ih =>
    intro hi hs
    by_cases c : i < 2
    · exfalso
      have h01 : i = 0 ∨ i = 1 := by omega
      rcases h01 with rfl | rfl
      · rw [h.z0] at hs; cases hs
      · rw [h.z1] at hs; cases hs
    · have c2 : 2 ≤ i := by omega
      have l := ok.lo i c2 hi
      have k := ok.hi i c2 hi
      have q := h.sc i c2 hi
      rw [hs] at q
      have q := q.symm
      simp only [Bool.or_eq_true] at q
      rcases q with (q | q) | q
      · have hne : ∃ x, vl s.nodes x (ndAt s.nodes i).lo ≠ vl s.nodes x (ndAt s.nodes i).hi := by
          refine Classical.byContradiction fun hn => h.ne i c2 hi (canon ok h hinj i _ _ l k (by omega) (by omega) fun x => ?_)
          exact Classical.byContradiction fun hx => hn ⟨x, hx⟩
        obtain ⟨x, hx⟩ := hne
        refine ⟨st x (ndAt s.nodes i).bit false, st x (ndAt s.nodes i).bit true, fun b _ hp => ?_, ?_⟩
        · have : b ≠ (ndAt s.nodes i).bit := fun e => by rw [e, q] at hp; cases hp
          rw [st_other _ _ this, st_other _ _ this]
        · rw [vl_st ok h c2 hi, vl_st ok h c2 hi]; exact hx
      · obtain ⟨x, y, a, d⟩ := ih _ l (by omega) q
        refine ⟨st x (ndAt s.nodes i).bit false, st y (ndAt s.nodes i).bit false, fun b hb hp => ?_, ?_⟩
        · unfold st; split
          · rfl
          · exact a b hb hp
        · rw [vl_st ok h c2 hi, vl_st ok h c2 hi]; exact d
      · obtain ⟨x, y, a, d⟩ := ih _ k (by omega) q
        refine ⟨st x (ndAt s.nodes i).bit true, st y (ndAt s.nodes i).bit true, fun b hb hp => ?_, ?_⟩
        · unfold st; split
          · rfl
          · exact a b hb hp
        · rw [vl_st ok h c2 hi, vl_st ok h c2 hi]; exact d
end Dg
end Go.Proofs.YtgddmpmcnjlcjabGreatDoor
