import Derived.Test.YtkfejeomfdhmdaaD9
namespace Go.Proofs.Ytkfejeomfdhmdaa
open Go.RowKit
set_option linter.unusedVariables false

theorem cut_len (c : UInt8) : ∀ l : Lk.Wd, (Lk.cut c l).length ≤ l.length + 1 ∧ ∀ x ∈ Lk.cut c l, x.length ≤ l.length
  | [] => ⟨by simp [Lk.cut], fun x hx => by simp [Lk.cut] at hx; simp [hx]⟩
  | y :: ys => by
    have ih := cut_len c ys
    unfold Lk.cut
    by_cases h : y = c
    · rw [if_pos h]
      refine ⟨by have := ih.1; simp; omega, fun x hx => ?_⟩
      rcases List.mem_cons.1 hx with e | e
      · rw [e]; simp
      · have := ih.2 x e; simp; omega
    · rw [if_neg h]
      cases hc : Lk.cut c ys with
      | nil => exact ⟨by simp, fun x hx => by simp at hx; simp [hx]⟩
      | cons z zs =>
        rw [hc] at ih
        refine ⟨by have := ih.1; simp at this ⊢; omega, fun x hx => ?_⟩
        rcases List.mem_cons.1 hx with e | e
        · have := ih.2 z (List.mem_cons.2 (.inl rfl)); rw [e]; simp; omega
        · have := ih.2 x (List.mem_cons.2 (.inr e)); simp; omega

theorem ownsRow_zero {w : World} {base : Nat} {e : TypeId} {size : Nat} {v : Value} {n : Nat} {xs : List Value} (h : w.ownsRow base e size v n xs) : w.ownsRow 0 e size v n xs := by
  refine ⟨h.1, ?_⟩
  rcases h.2 with hn | ⟨g, cap, cur, rfl, hb', hgg, rest⟩
  · exact .inl hn
  · exact .inr ⟨g, cap, cur, rfl, Nat.zero_le _, hgg, rest⟩

section
variable {w w' : World} {base P R : Nat} {l : List DB} {f f' : Nat → Value} {L : List ByteArray} {gl : Nat} {vn vk vz vb : Value}
theorem PRep.zero (h : PRep w base P l vn vk vz vb) : PRep w 0 P l vn vk vz vb := ⟨h.row, Nat.zero_le _, ownsRow_zero h.nm, ownsRow_zero h.kd, ownsRow_zero h.sz, h.np, h.kp, h.zp, h.nk, h.nz, h.kz⟩
theorem FRep.zero (h : FRep w base P R l f L gl vn vk vz vb) : FRep w 0 P R l f L gl vn vk vz vb := ⟨h.prog.zero, h.row, h.lin, h.llt, h.rP, h.rn, h.rk, h.rz, h.lR, h.lP, h.ln, h.lk, h.lz⟩
theorem FRep.back (F : FRep w base P R l f L gl vn vk vz vb) (h : FRep w' 0 P R l f' L gl vn vk vz vb) (fr : Frm 0 (fun k => k = R) w w') : FRep w' base P R l f' L gl vn vk vz vb :=
  ⟨⟨F.prog.row.of_block (fr.keep P F.prog.lt (fun e => F.rP e.symm)), F.prog.ge, ownsRow_blk F.prog.nm (fun k e => fr.keep k (F.prog.nm.lt k e).2 (fun h => F.rn (by rw [← h]; exact e))), ownsRow_blk F.prog.kd (fun k e => fr.keep k (F.prog.kd.lt k e).2 (fun h => F.rk (by rw [← h]; exact e))), ownsRow_blk F.prog.sz (fun k e => fr.keep k (F.prog.sz.lt k e).2 (fun h => F.rz (by rw [← h]; exact e))), F.prog.np, F.prog.kp, F.prog.zp, F.prog.nk, F.prog.nz, F.prog.kz⟩,
    h.row, h.lin, h.llt, h.rP, h.rn, h.rk, h.rz, h.lR, h.lP, h.ln, h.lk, h.lz⟩
end

theorem block_ok (L : List ByteArray) (gl cl : Nat) (hLz : ∀ i, i < L.length → (L.getD i ByteArray.empty).size ≤ 1000000) : ∀ n d, d + n = 4 → BlockOk L gl cl d
  | 0, d, hn => by
    intro f w base P R l s vn vk vz vb F hds hbd hfu hat hcn hl hL
    refine (block_gen L gl cl d (by omega) (fun h => absurd h (by omega)) hL hLz f w 0 P R l s vn vk vz vb F.zero hds hfu hat hcn (.inl ⟨hbd, hl⟩) (Nat.zero_le _)).mono ?_
    intro e w' hh
    obtain ⟨ad, n, c, l', vn', vk', vz', he, hF, hd', hb, hs⟩ := hh
    obtain ⟨e1, e2, e3, e4, hfr⟩ := hs hbd
    subst e1 e2 e3 e4
    exact ⟨ad, n, c, he, F.back hF hfr, hfr⟩
  | n + 1, d, hn => by
    intro f w base P R l s vn vk vz vb F hds hbd hfu hat hcn hl hL
    refine (block_gen L gl cl d (by omega) (fun h => block_ok L gl cl hLz n (d + 1) (by omega)) hL hLz f w 0 P R l s vn vk vz vb F.zero hds hfu hat hcn (.inl ⟨hbd, hl⟩) (Nat.zero_le _)).mono ?_
    intro e w' hh
    obtain ⟨ad, n, c, l', vn', vk', vz', he, hF, hd', hb, hs⟩ := hh
    obtain ⟨e1, e2, e3, e4, hfr⟩ := hs hbd
    subst e1 e2 e3 e4
    exact ⟨ad, n, c, he, F.back hF hfr, hfr⟩

abbrev nil_ : Value := .slice none 0 0
abbrev progO : Obj := .cells #[nil_, nil_, nil_, nil_] 53
abbrev readO (w : World) : Obj := .cells #[.pointer (some ⟨w.heap.size, 0, none⟩), nil_, .int .i64 0, .int .i64 0, .bool false] 55

theorem start_row {w w1 : World} (hb : Below ((w.alloc progO).alloc (readO w)).heap.size ((w.alloc progO).alloc (readO w)) w1) : w1.rowIs (w.heap.size + 1) 55 5 (fcell w.heap.size nil_ {}) := by
  have hsz : ((w.alloc progO).alloc (readO w)).heap.size = w.heap.size + 2 := by simp
  have hR0 := World.rowIs_alloc (w.alloc progO) #[.pointer (some ⟨w.heap.size, 0, none⟩), nil_, .int .i64 0, .int .i64 0, .bool false] 55 (fcell w.heap.size nil_ {}) (fun i hi => by
    match i, hi with
    | 0, _ => rfl
    | 1, _ => rfl
    | 2, _ => rfl
    | 3, _ => rfl
    | 4, _ => rfl
    | n + 5, h => exact absurd (show n + 5 < 5 from h) (by omega))
  have hR : ((w.alloc progO).alloc (readO w)).rowIs (w.heap.size + 1) 55 5 (fcell w.heap.size nil_ {}) := by
    have e : (w.alloc progO).heap.size = w.heap.size + 1 := by simp
    rw [e] at hR0
    exact hR0
  exact hR.of_block (hb.block _ (by omega))

theorem frep_start {w w1 : World} {g cap : Nat} {L : List ByteArray} (hb : Below ((w.alloc progO).alloc (readO w)).heap.size ((w.alloc progO).alloc (readO w)) w1)
    (hown : w1.ownsRow ((w.alloc progO).alloc (readO w)).heap.size 9 1 (.slice (some ⟨g, 0, none⟩) L.length cap) L.length (L.map Value.string)) :
    FRep (w1.setCell ⟨w.heap.size + 1, 1, none⟩ (.slice (some ⟨g, 0, none⟩) L.length cap)) w.heap.size w.heap.size (w.heap.size + 1) [] (fst_ w.heap.size g cap L.length {}) L g nil_ nil_ nil_ nil_ := by
  have hsz : ((w.alloc progO).alloc (readO w)).heap.size = w.heap.size + 2 := by simp
  have hg := hown.lt g rfl
  rw [hsz] at hg
  have hP : ((w.alloc progO).alloc (readO w)).rowIs w.heap.size 53 4 (pcell nil_ nil_ nil_ nil_) := (World.rowIs_alloc w #[nil_, nil_, nil_, nil_] 53 (pcell nil_ nil_ nil_ nil_) (fun i hi => by
    match i, hi with
    | 0, _ => rfl
    | 1, _ => rfl
    | 2, _ => rfl
    | 3, _ => rfl
    | n + 4, h => exact absurd (show n + 4 < 4 from h) (by omega))).alloc _
  have hR0 := World.rowIs_alloc (w.alloc progO) #[.pointer (some ⟨w.heap.size, 0, none⟩), nil_, .int .i64 0, .int .i64 0, .bool false] 55 (fcell w.heap.size nil_ {}) (fun i hi => by
    match i, hi with
    | 0, _ => rfl
    | 1, _ => rfl
    | 2, _ => rfl
    | 3, _ => rfl
    | 4, _ => rfl
    | n + 5, h => exact absurd (show n + 5 < 5 from h) (by omega))
  have hR : ((w.alloc progO).alloc (readO w)).rowIs (w.heap.size + 1) 55 5 (fcell w.heap.size nil_ {}) := by
    have e : (w.alloc progO).heap.size = w.heap.size + 1 := by simp
    rw [e] at hR0
    exact hR0
  have hP1 : w1.rowIs w.heap.size 53 4 (pcell nil_ nil_ nil_ nil_) := hP.of_block (hb.block _ (by omega))
  have hR1 : w1.rowIs (w.heap.size + 1) 55 5 (fcell w.heap.size nil_ {}) := hR.of_block (hb.block _ (by omega))
  have no : ∀ k, nil_.ownBlock ≠ some k := fun k e => by simp [Value.ownBlock] at e
  refine ⟨⟨hP1.setOther (by show w.heap.size ≠ w.heap.size + 1; omega) _, Nat.le_refl _, World.ownsRow_nil _ _ _ _, World.ownsRow_nil _ _ _ _, World.ownsRow_nil _ _ _ _, no _, no _, no _, .inl rfl, .inl rfl, .inl rfl⟩,
    (hR1.set 1 _).congr (fun i hi => ?_), wds_set (wds_own hown) (by omega) _, by simpa using hg.2, by omega, no _, no _, no _, by omega, by omega, no _, no _, no _⟩
  match i, hi with
  | 0, _ => rfl
  | 1, _ => rfl
  | 2, _ => rfl
  | 3, _ => rfl
  | 4, _ => rfl
  | n + 5, h => omega

/-- The lines of a text of at most 600 bytes. -/
theorem lines_of {s : ByteArray} (hs : s.size ≤ 600) {L : List ByteArray} (h : L.map ByteArray.toList = Lk.cut 10 s.toList) : L.length ≤ 1000 ∧ 0 < L.length ∧ ∀ i, i < L.length → (L.getD i ByteArray.empty).size ≤ 1000000 := by
  have h1 := cut_len 10 s.toList
  have hl : L.length = (Lk.cut 10 s.toList).length := by rw [← h]; simp
  have hz : s.toList.length = s.size := tl_len s
  refine ⟨by have := h1.1; omega, len_cut h, fun i hi => ?_⟩
  have hm : (L.getD i ByteArray.empty).toList ∈ Lk.cut 10 s.toList := by
    rw [← h]
    have e : L.getD i ByteArray.empty = L[i] := by simp [List.getD, hi]
    rw [e]
    exact List.mem_map.2 ⟨L[i], List.getElem_mem hi, rfl⟩
  have h2 := h1.2 _ hm
  rw [tl_len] at h2
  omega
theorem last_of {s : ByteArray} {L : List ByteArray} (h : L.map ByteArray.toList = Lk.cut 10 s.toList) : (L.getD (L.length - 1) ByteArray.empty).toList = (Lk.cut 10 s.toList).getD ((Lk.cut 10 s.toList).length - 1) [] := by
  rw [← line_map, h]
  have hl : L.length = (Lk.cut 10 s.toList).length := by rw [← h]; simp
  rw [hl]
theorem blk_of {s : ByteArray} {L : List ByteArray} (h : L.map ByteArray.toList = Lk.cut 10 s.toList) {o : Bool × Rf.Rs} (ho : Rf.blkS (Lk.cut 10 s.toList) (Lk.cut 10 s.toList).length 0 {} = o) : Rf.blkS (L.map ByteArray.toList) L.length 0 {} = o ∧ o.2.at_ < L.length := by
  have hl : L.length = (Lk.cut 10 s.toList).length := by rw [← h]; simp
  rw [h, hl]
  refine ⟨ho, ?_⟩
  rw [← ho]
  have hne : 0 < (Lk.cut 10 s.toList).length := by rw [← hl]; exact len_cut h
  exact (Rf.post_blk (Lk.cut 10 s.toList) (Lk.cut 10 s.toList).length 0 {} hne (Nat.zero_le _) (Nat.le_add_left _ _)).lt

end Go.Proofs.Ytkfejeomfdhmdaa
