import Derived.Test.YtgddmpmcnjlcjabDoorB14
import Derived.Test.YtgddmpmcnjlcjabDoorB20
namespace Go.Proofs.YtgddmpmcnjlcjabDoor
open Go.RowKit
set_option linter.unusedVariables false
namespace Mc
theorem act_lt {cs : List Nat} {na : Nat} {s : Lk.St} {m : M} (h : MOk m) (hs : Lk.StOk na s) : (act cs s m).1 < 4096 := by
  have h1 := value_lt h hs.a s.next
  unfold act
  split
  · show 48 + _ < 4096; omega
  · split
    · split
      · show 16 < 4096; omega
      · show 17 < 4096; omega
    · split
      · show 32 + _ < 4096; omega
      · show 0 < 4096; omega
theorem num_lt {p : Pg} (ok : PgOk p) {m : M} (h : MOk m) (n : Nat) : num p m n < 4096 := by
  have h1 := st_ok ok h n
  show (step p.cells p.code (st p m n)).1 < 4096
  cases ht : (st p m n).trap with
  | true => rw [step_trapped ht]; show 80 < 4096; omega
  | false =>
    by_cases hn : (st p m n).at_ < p.code.length
    · rw [step_act ht hn]; exact act_lt h1 (code_ok ok hn).1
    · rw [step_halted ht hn]; show 64 < 4096; omega
end Mc
namespace Dg
theorem told_lt {p : Pg} (ok : PgOk p) (bits : List Nat) (k x j : Nat) : (told p bits k x).getD j 0 < 4096 := by
  unfold told Mc.tells
  rw [List.getD_eq_getElem?_getD]
  by_cases h : j < k
  · simp [h]
    exact Mc.num_lt ok (Mc.ini_ok (inp_lt _ _ _)) j
  · rw [List.getElem?_eq_none (by simp; omega)]
    decide
theorem told_len (p : Pg) (bits : List Nat) (k x : Nat) : (told p bits k x).length = k := Mc.tells_len _ _ _
def dia (p : Pg) (k c : Nat) : St × List Nat := stp p.sec (2 ^ (order p.sec.length).length) (order p.sec.length) (told p (order p.sec.length) k) c
theorem order_len (n : Nat) : (order n).length = n * 4 := ordK_len n 4
theorem order_lt (n i : Nat) (h : i < (order n).length) : (order n).getD i 0 < 4 * n := by
  rw [List.getD_eq_getElem?_getD, List.getElem?_eq_getElem h]
  exact ordK_lt n 4 (Nat.le_refl _) _ (List.getElem_mem h)
def Fits (p : Pg) (k most : Nat) : Prop := most = 0 ∨ (dia p k (7 * k)).1.nodes.length ≤ most + 2
end Dg
structure OfOut (w : World) (p : Pg) (k most : Nat) (e : Ending) (w' : World) : Prop where
  bel : Below w.heap.size w w'
  yes : Dg.Fits p k most → ∃ vN vT, e = .returned (.tuple #[.agg #[vN, vT], .bool true]) ∧ w'.ownsRow w.heap.size 139 4 vN (Dg.dia p k (7 * k)).1.nodes.length ((Dg.dia p k (7 * k)).1.nodes.flatMap Dg.Nd.cells) ∧ w'.ownsRow w.heap.size 3 1 vT (Dg.dia p k (7 * k)).2.length ((Dg.dia p k (7 * k)).2.map fun (n : Nat) => .int .i64 n)
  no : ¬ Dg.Fits p k most → e = .returned (.tuple #[.agg #[.slice none 0 0, .slice none 0 0], .bool false])
theorem rowIs_of_made {w : World} {g n : Nat} {t : TypeId} {z : Value} (h : w.heap[g]? = some (.cells (madeCells #[z] n) t)) : w.rowIs g t n (fun _ => z) := by
  obtain ⟨cs, hg, hs, hc⟩ := World.rowIs_made w z n t
  rw [heap_alloc_new] at hg
  cases hg
  exact ⟨_, h, hs, hc⟩
theorem own_of_cells {w : World} {base g sz n : Nat} {t : TypeId} {cs : Array Value} (h : w.heap[g]? = some (.cells cs t)) (hb : base ≤ g) (hn : n ≤ 1000) (hz : cs.size = n * sz) (hs : sz ≤ 10) : w.ownsRow base t sz (sl g n n) n cs.toList := by
  refine ⟨by simp [hz], .inr ⟨g, _, cs, rfl, hb, h, Nat.le_refl _, by unfold maxLen; omega, by omega, ?_⟩⟩
  rw [← hz, ← Array.length_toList, List.take_length]
structure OfAt (w2 : World) (mb gh gr M : Nat) (s : Dg.St) (r : Nat → Nat) (pv : Nat → Value) (vN vB vT : Value) (D : List Nat) (w : World) : Prop where
  mm : MkAt w2 mb gh gr M s r pv vN vB w
  told : w.ownsRow w2.heap.size 3 1 vT D.length (D.map fun (n : Nat) => .int .i64 n)
  sep : ∀ k, vT.ownBlock = some k → ¬ (k = mb ∨ k = gh ∨ k = gr ∨ vN.ownBlock = some k ∨ vB.ownBlock = some k)
section
variable {w2 w w' : World} {mb gh gr M : Nat} {s s' : Dg.St} {r r' : Nat → Nat} {pv : Nat → Value} {vN vB vT vN' vB' : Value} {D : List Nat}
theorem OfAt.lay (h : OfAt w2 mb gh gr M s r pv vN vB vT D w) (m : MkAt w2 mb gh gr M s r' pv vN vB w') (f : Frm 0 (fun k => k = gr) w w') : OfAt w2 mb gh gr M s r' pv vN vB vT D w' :=
  ⟨m, ownsRow_blk h.told (fun k e => f.keep k (h.told.lt k e).2 (fun e2 => h.sep k e (.inr (.inr (.inl e2))))), h.sep⟩
theorem OfAt.fold (h : OfAt w2 mb gh gr M s r pv vN vB vT D w) (m : MkAt w2 mb gh gr M s' r' pv vN' vB' w') (f : MkFr mb gh gr vN vB vN' vB' w w') : OfAt w2 mb gh gr M s' r' pv vN' vB' vT D w' :=
  ⟨m, ownsRow_blk h.told (fun k e => f.1.keep k (h.told.lt k e).2 (fun e2 => h.sep k e e2)), fun k e c => by
    have hk := (h.told.lt k e).2
    rcases c with c | c | c | c | c
    · exact h.sep k e (.inl c)
    · exact h.sep k e (.inr (.inl c))
    · exact h.sep k e (.inr (.inr (.inl c)))
    · exact h.sep k e (.inr (.inr (.inr (.inl (f.2.1 k c hk)))))
    · exact h.sep k e (.inr (.inr (.inr (.inr (f.2.2 k c hk)))))⟩
theorem OfAt.push (h : OfAt w2 mb gh gr M s r pv vN vB vT D w) {o : Obj} {g' cap' x : Nat} (hown : w'.ownsRow w2.heap.size 3 1 (sl g' (D.length + 1) cap') (D.length + 1) ((D.map fun (n : Nat) => .int .i64 n) ++ [.int .i64 x])) (hg : (w.alloc o).grownBy w' vT.ownBlock) (hat : vT.ownBlock = some g' ∨ g' = w.heap.size + 1) :
    OfAt w2 mb gh gr M s r pv vN vB (sl g' (D.length + 1) cap') (D ++ [x]) w' := by
  have h2 := h.mm.alloc o
  have z : w2.heap.size ≤ (w.alloc o).heap.size := h2.bel.size
  have nm : vT.ownBlock ≠ some mb := fun e => h.sep _ e (.inl rfl)
  have nh : vT.ownBlock ≠ some gh := fun e => h.sep _ e (.inr (.inl rfl))
  have nr : vT.ownBlock ≠ some gr := fun e => h.sep _ e (.inr (.inr (.inl rfl)))
  refine ⟨⟨rowIs_grown h2.row hg nm, ownsRow_blk h2.nodes (fun k e => hg.block k (h2.nodes.lt k e).2 (fun e2 => h.sep k e2.symm (.inr (.inr (.inr (.inl e)))))), ownsRow_blk h2.behind (fun k e => hg.block k (h2.behind.lt k e).2 (fun e2 => h.sep k e2.symm (.inr (.inr (.inr (.inr e)))))), rowIs_grown h2.heads hg nh, rowIs_grown h2.rows hg nr, h2.bm, h2.bh, h2.br, h2.nhr, h2.nbh, h2.nbr, h2.bel.grown hg z (fun k e => (h.told.lt k e).1)⟩, ?_, fun k e c => ?_⟩
  · have e1 : (D ++ [x]).length = D.length + 1 := by simp
    have e2 : ((D ++ [x]).map fun (n : Nat) => (Value.int .i64 n)) = (D.map fun (n : Nat) => .int .i64 n) ++ [.int .i64 x] := by simp
    rw [e1, e2]
    exact hown
  · have e : g' = k := by simpa [Value.ownBlock] using e
    subst e
    rcases hat with a | a
    · exact h.sep _ a c
    · have l1 := h.mm.row.lt
      have l2 := h.mm.heads.lt
      have l3 := h.mm.rows.lt
      rcases c with c | c | c | c | c
      · omega
      · omega
      · omega
      · have := (h.mm.nodes.lt _ c).2; omega
      · have := (h.mm.behind.lt _ c).2; omega
theorem OfAt.drew (h : OfAt w2 mb gh gr M s r pv vN vB vT D w) : OfAt w2 mb gh gr M s r pv vN vB vT D w.drew := ⟨h.mm.drew, h.told, h.sep⟩
end
def pgc (vs vc vk : Value) (nv : Int) (i : Nat) : Value := if i = 0 then vs else if i = 1 then .int .i64 nv else if i = 2 then vc else vk
theorem pg_row {w : World} {g : Nat} {vs vc vk : Value} {nv : Int} {t : TypeId} (h : w.heap[g]? = some (.cells #[vs, .int .i64 nv, vc, vk] t)) : w.rowIs g t 4 (pgc vs vc vk nv) := ⟨_, h, rfl, fun i hi => by
  match i, hi with
  | 0, _ => rfl
  | 1, _ => rfl
  | 2, _ => rfl
  | 3, _ => rfl
  | n + 4, h => exact absurd h (by omega)⟩
theorem nil_row {w : World} {g : Nat} (h : w.heap[g]? = some (.cells #[.slice none 0 0, .slice none 0 0] 49)) : w.rowIs g 49 2 (fun _ => .slice none 0 0) := ⟨_, h, rfl, fun i hi => by
  match i, hi with
  | 0, _ => rfl
  | 1, _ => rfl
  | n + 2, h => exact absurd h (by omega)⟩
set_option maxRecDepth 100000 in
set_option maxHeartbeats 4000000 in
theorem of_any (p : Pg) (ok : PgOk p) (k : Nat) (hk : k ≤ 10) (most : Nat) (hm : most ≤ 1048576) (w : World) (vs vc vk : Value) (nv : Int) (hp : PgAt w p vs vc vk) :
    Calls Tryd.prog 17 #[.agg #[vs, .int .i64 nv, vc, vk], .int .i64 k, .int .i64 most] w (OfOut w p k most) := by
  obtain ⟨t0, ht0, hz0q, hz1, hz2⟩ := info_parts Tryd.infoInt
  obtain ⟨as0, cs0, e0⟩ := body_val hp.s
  obtain ⟨ac, cc, e1⟩ := body_val hp.c
  obtain ⟨ak, ck, e2⟩ := body_val hp.k
  subst e0 e1 e2
  have HP := hid hp
  have OK := hid ok
  have hs3 := ok.sec
  have hsI : (p.sec.length : Int) ≤ 3 := by omega
  have hkI : (k : Int) ≤ 10 := by omega
  have hmI : (most : Int) ≤ 1048576 := by omega
  have hol := Dg.order_len p.sec.length
  have hbl : (Dg.order p.sec.length).length ≤ 12 := by omega
  have hblI : ((Dg.order p.sec.length).length : Int) ≤ 12 := by omega
  have HBB : Hid (∀ b ∈ Dg.order p.sec.length, b < 4 * p.sec.length) := Dg.ordK_lt _ 4 (Nat.le_refl _)
  have HBD : Hid (∀ i, i < (Dg.order p.sec.length).length → (Dg.order p.sec.length).getD i 0 < 4 * p.sec.length) := Dg.order_lt p.sec.length
  have HDI := hid (show ∀ c, Dg.dia p k c = Dg.stp p.sec (2 ^ (Dg.order p.sec.length).length) (Dg.order p.sec.length) (Dg.told p (Dg.order p.sec.length) k) c from fun _ => rfl)
  have HOA := hid (order_any p.sec.length hs3)
  clear hp ok hol
  generalize Dg.order p.sec.length = bits at hbl hblI HBB HBD HDI HOA
  obtain ⟨W0, hW0⟩ : ∃ W0 : World, (w.alloc (.cells #[.slice as0 p.sec.length cs0, .int .i64 nv, .slice ac p.cells.length cc, .slice ak p.code.length ck] 44)).alloc (.cells #[.slice none 0 0, .slice none 0 0] 49) = W0 := ⟨_, rfl⟩
  have hz0 : W0.heap.size = w.heap.size + 2 := by rw [← hW0]; simp
  have HRP := hid (show W0.heap[w.heap.size]? = some (.cells #[.slice as0 p.sec.length cs0, .int .i64 nv, .slice ac p.cells.length cc, .slice ak p.code.length ck] 44) by rw [← hW0]; exact hp_old _ _ _ _ (hp_new _ _ _ rfl))
  have HRR := hid (show W0.heap[w.heap.size + 1]? = some (.cells #[.slice none 0 0, .slice none 0 0] 49) by rw [← hW0]; exact hp_new _ _ _ (by simp))
  have HB0 := hid (show Below w.heap.size w W0 by rw [← hW0]; exact ((Below.refl _ _).alloc (Nat.le_refl _) _).alloc (by simp) _)
  have HE := hid hW0
  clear hW0
  go_enter Tryd.func17, Tryd.ntmps17
  go_wp2_with (go_at_call 32; rw [HE.out]; refine (HOA.out _).mono ?_; rintro e w1 ⟨ab, cb, rfl, ho1, hb1⟩; have HO1 := hid ho1; have HB1 := hid hb1; have z1 := hb1.size; clear ho1 hb1; refine Hid.out ?_)
  refine hid ?_
  have r1 := pg_row ((HB1.out.block w.heap.size (by omega)).trans HRP.out)
  have x0 := r1.cell (i := 0) (by omega)
  have x1 := r1.cell (i := 1) (by omega)
  have x2 := r1.cell (i := 2) (by omega)
  have x3 := r1.cell (i := 3) (by omega)
  dsimp only [pgc] at x0 x1 x2 x3
  have HP1 := hid (HP.out.same (HB0.out.trans (HB1.out.mono (by omega))))
  have HB01 := hid (HB0.out.trans (HB1.out.mono (by omega)))
  clear r1
  go_wp2_with (go_at_call 33; refine (tellAll_any p OK.out bits HBB.out hbl k hk _ _ _ _ _ nv HP1.out (ownsRow_low HO1.out (Nat.zero_le _))).mono ?_; rintro e w2 ⟨vr, fr, rfl, hr2, hb2⟩; have HR2 := hid hr2; have HB2 := hid hb2; have z2 := hb2.size; clear hr2 hb2; refine Hid.out ?_)
  refine hid ?_
  obtain ⟨ar, cr, er⟩ := body_val HR2.out.own
  subst er
  have r2 := pg_row (((HB2.out.block w.heap.size (by omega)).trans (HB1.out.block w.heap.size (by omega))).trans HRP.out)
  have y0' := r2.cell (i := 0) (by omega)
  have y1' := r2.cell (i := 1) (by omega)
  have y2' := r2.cell (i := 2) (by omega)
  have y3' := r2.cell (i := 3) (by omega)
  dsimp only [pgc] at y0' y1' y2' y3'
  have HB02 := hid (HB01.out.trans (HB2.out.mono (by omega)))
  obtain ⟨M, hM⟩ : ∃ M, 2 ^ bits.length = M := ⟨_, rfl⟩
  have hM4 : M ≤ 4096 := by rw [← hM]; exact Nat.pow_le_pow_right (by omega) hbl
  have hMI : (M : Int) ≤ 4096 := by omega
  have HMB := hid hM.symm
  rw [hM] at HR2 HDI ⊢
  clear r2 hM x0 x1 x2 x3
  go_wp2_with (go_at_call 34; refine (begin_any _ _ _ _ _ _ _ _ _ nv _ _ _ M hM4 _).mono ?_; rintro e w3 ⟨gn, gh, gb, gr, rfl, q1, q2, q3, q4, q5, q6, hb3⟩; have Q1 := hid q1; have Q2 := hid q2; have Q3 := hid q3; have Q4 := hid q4; have Q5 := hid q5; have Q6 := hid q6; have HB3 := hid hb3; have z3 := hb3.size; clear q1 q2 q3 q4 q5 q6 hb3; refine Hid.out ?_)
  refine hid ?_
  go_wp2_with fail
  obtain ⟨S, hS⟩ : ∃ S : Nat → Dg.St × List Nat, ∀ c, Dg.stp p.sec M bits (Dg.told p bits k) c = S c := ⟨_, fun _ => rfl⟩
  have HS0 := hid (show S 0 = ({}, []) from (hS 0).symm)
  have HSS := hid (show ∀ c, S (c + 1) = ((Dg.levs p.sec M bits (S c).1 (Dg.layR (Dg.told p bits k) (c / 7) (c % 7)) M bits.length).1, (S c).2 ++ [(Dg.levs p.sec M bits (S c).1 (Dg.layR (Dg.told p bits k) (c / 7) (c % 7)) M bits.length).2 0]) from fun c => by rw [← hS, ← hS]; rfl)
  have HSO := hid (show ∀ c, Dg.Ok p.sec.length M (S c).1 ∧ (S c).2.length = c ∧ (S c).1.nodes.length ≤ 2 + c * M from fun c => by rw [← hS]; obtain ⟨a, b, _, d⟩ := Dg.stp_ok p.sec.length p.sec M bits (Dg.told p bits k) HBD.out c; exact ⟨a, b, d⟩)
  have HSM := hid (show ∀ c, c ≤ 7 * k → (S c).1.nodes.length ≤ (S (7 * k)).1.nodes.length from fun c hc => by rw [← hS, ← hS]; exact Dg.stp_mono p.sec.length p.sec M bits (Dg.told p bits k) HBD.out c _ hc)
  have HSD := hid (show Dg.dia p k (7 * k) = S (7 * k) by rw [HDI.out, hS])
  clear hS
  obtain ⟨mb, hmb⟩ : ∃ mb, w3.heap.size = mb := ⟨_, rfl⟩
  obtain ⟨pv, hpv⟩ : ∃ pv : Nat → Value, pv = fun i => if i = 4 then .slice ab bits.length cb else pgc (.slice as0 p.sec.length cs0) (.slice ac p.cells.length cc) (.slice ak p.code.length ck) nv i := ⟨_, rfl⟩
  have hpv0 : pv 0 = .slice as0 p.sec.length cs0 := by rw [hpv]; rfl
  have hpv4 : pv 4 = .slice ab bits.length cb := by rw [hpv]; rfl
  have HI := hid (show OfAt w2 mb gh gr M {} (fun _ => 0) pv (sl gn 2 2) (sl gb 2 2) (.slice none 0 0) [] (w3.alloc (.cells #[.slice as0 p.sec.length cs0, .int .i64 nv, .slice ac p.cells.length cc, .slice ak p.code.length ck, .slice ab bits.length cb, sl gn 2 2, sl gh M M, sl gb 2 2, sl gr M M] 98)) by
    have hb3 := HB3.out
    obtain ⟨b1, b2, b3, b4⟩ := Q5.out
    obtain ⟨n1, n2, n3, n4, n5, n6⟩ := Q6.out
    refine ⟨⟨?_, ?_, ?_, ?_, ?_, by omega, b2, b4, n5, ?_, ?_, hb3.alloc (by omega) _⟩, World.ownsRow_nil _ _ _ _, fun k e => by simp [Value.ownBlock] at e⟩
    · rw [← hmb]
      exact World.rowIs_alloc w3 _ 98 _ (fun i hi => by
        rw [hpv]
        match i, hi with
        | 0, _ => rfl
        | 1, _ => rfl
        | 2, _ => rfl
        | 3, _ => rfl
        | 4, _ => rfl
        | 5, _ => rfl
        | 6, _ => rfl
        | 7, _ => rfl
        | 8, _ => rfl
        | n + 9, h => exact absurd (show n + 9 < 9 from h) (by omega))
    · exact own_of_cells (n := 2) (hp_old _ _ _ _ Q1.out) b1 (by omega) rfl (by omega)
    · exact own_of_cells (n := 2) (hp_old _ _ _ _ Q3.out) b3 (by omega) rfl (by omega)
    · exact rowIs_of_made (hp_old _ _ _ _ Q2.out)
    · exact rowIs_of_made (hp_old _ _ _ _ Q4.out)
    · intro e; exact n4 (by simpa [Value.ownBlock] using e.symm)
    · intro e; exact n6 (by simpa [Value.ownBlock] using e))
  have HRX := hid (show ∀ wx : World, Below w2.heap.size w2 wx → wx.heap[w.heap.size + 1]? = some (.cells #[.slice none 0 0, .slice none 0 0] 49) from fun wx hx => (((hx.block _ (by omega)).trans (HB2.out.block _ (by omega))).trans (HB1.out.block _ (by omega))).trans HRR.out)
  have HPS := hid (show w2.ownsRow 0 4 1 (pv 0) p.sec.length (p.sec.map Value.bool) by rw [hpv0]; exact (HP1.out.same HB2.out).s)
  have HPB := hid (show w2.ownsRow 0 3 1 (pv 4) bits.length (bits.map fun (n : Nat) => .int .i64 n) by rw [hpv4]; exact ownsRow_low (ownsRow_same HO1.out HB2.out.block) (Nat.zero_le _))
  rw [hmb]
  clear y0' y1' y2' y3' hmb hpv hpv0 hpv4 Q1 Q2 Q3 Q4 Q5 Q6 HO1 HP1 HRP
  go_loopw [11, 12] (fun tv cv wr => ∃ (st : Nat) (r : Nat → Nat) (vN vB : Value), st ≤ k ∧ cv = .int .i64 st ∧ OfAt w2 mb gh gr M (S (7 * st)).1 r pv vN vB tv (S (7 * st)).2 wr ∧ (most = 0 ∨ (S (7 * st)).1.nodes.length ≤ most + 2)) (fun _ cv _ => k - (intOf cv).toNat)
  case atStart => exact ⟨0, _, _, _, Nat.zero_le _, rfl, by rw [HS0.out]; exact HI.out, .inr (by rw [HS0.out]; show 2 ≤ _; omega)⟩
  case round =>
    clear HI
    obtain ⟨st, r, vN, vB, hst, rfl, hof, hfit⟩ := hrel
    obtain ⟨at1, ct1, et1⟩ := body_val hof.told
    subst et1
    have HOF := hid hof
    have HFI := hid hfit
    have hstI : (st : Int) ≤ 10 := by omega
    by_cases hlt : st < k
    · clear hof hfit
      go_wp2_with fail
      go_loopw [11, 13] (fun tv cv wr => ∃ (bt : Nat) (r : Nat → Nat) (vN vB : Value), bt ≤ 7 ∧ cv = .int .i64 bt ∧ OfAt w2 mb gh gr M (S (7 * st + bt)).1 r pv vN vB tv (S (7 * st + bt)).2 wr ∧ (most = 0 ∨ (S (7 * st + bt)).1.nodes.length ≤ most + 2)) (fun _ cv _ => 7 - (intOf cv).toNat)
      case atStart => exact ⟨0, _, _, _, Nat.zero_le _, rfl, HOF.out, HFI.out⟩
      case round =>
        clear HOF HFI
        obtain ⟨bt, r1, vN1, vB1, hbt, rfl, hof, hfit⟩ := hrel
        obtain ⟨at2, ct2, et2⟩ := body_val hof.told
        subst et2
        have HOF := hid hof
        have HFI := hid hfit
        have hbtI : (bt : Int) ≤ 7 := by omega
        clear hof hfit
        by_cases hlt2 : bt < 7
        · obtain ⟨sok, slen, sbig⟩ := HSO.out (7 * st + bt)
          have HSU := hid (HSS.out (7 * st + bt))
          have hc1 : (7 * st + bt) / 7 = st := by omega
          have hc2 : (7 * st + bt) % 7 = bt := by omega
          rw [hc1, hc2] at HSU
          have hbig : 7 * st + bt + 1 ≤ 70 := by omega
          have hbM : (7 * st + bt) * M ≤ 70 * 4096 := Nat.mul_le_mul (by omega) hM4
          obtain ⟨C, hC⟩ : ∃ C, S (7 * st + bt) = C := ⟨_, rfl⟩
          have HCE := hid hC
          rw [hC] at HOF sok slen sbig HSU HFI ⊢
          have hlen2 : C.1.nodes.length + M ≤ 400000 := by omega
          have hmono := HSM.out (7 * st + bt + 1) (by omega)
          have HMN := hid hmono
          have SOK := hid sok
          have HTL := hid slen
          have hClen : C.2.length ≤ 70 := by omega
          clear sok slen sbig hC hmono
          go_wp2_with (go_at_call 35; refine (lay_any HOF.out.mm HR2.out hM4 hk (fun i j => Dg.told_lt OK.out bits k i j) (fun i => Dg.told_len p bits k i) st bt hlt hlt2).mono ?_; rintro e w5 ⟨rfl, m5, f5⟩; have HOF5 := hid (HOF.out.lay m5 f5); clear m5 f5; refine Hid.out ?_)
          refine hid ?_
          go_wp2_with (go_at_call 36; refine (fold_any HOF5.out.mm SOK.out (fun j => Nat.lt_of_lt_of_le (Dg.layR_lt _ _ _ j) SOK.out.two) hM4 p.sec rfl hs3 HPS.out hlen2 bits HPB.out HMB.out hbl HBD.out).mono ?_; rintro e w6 ⟨rfl, vN6, vB6, m6, f6⟩; have HOF6 := hid (HOF5.out.fold m6 f6); clear m6 f6; refine Hid.out ?_)
          refine hid ?_
          obtain ⟨Y, hY⟩ : ∃ Y, Dg.levs p.sec M bits C.1 (Dg.layR (Dg.told p bits k) st bt) M bits.length = Y := ⟨_, rfl⟩
          rw [hY] at HOF6 HSU ⊢
          rw [HSU.out] at HMN
          clear hY HOF HOF5
          obtain ⟨aN, cN, eN⟩ := body_val HOF6.out.mm.nodes
          subst eN
          have hYl : Y.1.nodes.length ≤ 400000 := by
            have q1 := (HSO.out (7 * st + bt + 1)).2.2
            rw [HSU.out] at q1
            have q2 : (7 * st + bt + 1) * M ≤ 70 * 4096 := Nat.mul_le_mul hbig hM4
            have q3 : Y.1.nodes.length ≤ 2 + (7 * st + bt + 1) * M := q1
            omega
          obtain ⟨x, hx⟩ : ∃ x, Y.2 0 = x := ⟨_, rfl⟩
          rw [hx] at HSU ⊢
          clear hx
          have z6 := HOF6.out.mm.bel.size
          go_wp2_with (at_builtin; refine wpList_append_lies _ rfl _ _ 27 rfl w2.heap.size 3 t0 _ 1 8 Tryd.underlying27 ht0 hz0q hz1 hz2 rfl (by omega) _ C.2.length (C.2.map fun (n : Nat) => .int .i64 n) rfl (HOF6.out.told.alloc _) ⟨w6.heap.size, 0, none⟩ 1 1 [.int .i64 x] rfl rfl (cell_one_new _ _ _) (by simp [Value.oneCell']) (by omega) (by unfold maxLen; omega) (by omega) (by simp; omega) (w6.heap.size + 1) (by simp) ?_; intro g4 cap4 w7 hown4 hgrow4 hat4 hlt4; have HOF7 := hid (HOF6.out.push hown4 hgrow4 hat4); clear hown4 hgrow4 hat4; refine Hid.out ?_)
          refine hid ?_
          have c5 := HOF7.out.mm.c5
          have hYI : (Y.1.nodes.length : Int) ≤ 400000 := by omega
          have hY2 : 2 ≤ Y.1.nodes.length := by have := (HSO.out (7 * st + bt + 1)).1.two; rw [HSU.out] at this; exact this
          have hY2I : 2 ≤ (Y.1.nodes.length : Int) := by omega
          have HB7 := hid (HB02.out.trans (HOF7.out.mm.bel.mono (by omega)))
          by_cases hm0 : most = 0
          · have HFT := hid hm0
            have hm0I : ((most : Int) != 0) = false := by simp; omega
            clear hmI hm0
            go_wp2_with fail
            go_roundw
            case rel => exact ⟨bt + 1, _, _, _, by omega, by go_num, by rw [← Nat.add_assoc, HSU.out]; exact HOF7.out, .inl HFT.out⟩
            case measure => simp [intOf]; omega
          · have hm0I : ((most : Int) != 0) = true := by simp; omega
            by_cases hbg : most + 2 < Y.1.nodes.length
            · have hbgI : (most : Int) < (Y.1.nodes.length : Int) - 2 := by omega
              have r7 := nil_row (HRX.out w7 HOF7.out.mm.bel)
              have g0 := r7.cell (i := 0) (by omega)
              have g1 := r7.cell (i := 1) (by omega)
              have gf0 := r7.frozen 0
              have gf1 := r7.frozen 1
              have HNF := hid (show ¬ Dg.Fits p k most from fun c => by
                rcases c with c | c
                · exact hm0 c
                · rw [HSD.out] at c
                  have := HMN.out
                  omega)
              clear r7
              go_wp2_with fail
              refine bodyPost_ret (v := .tuple #[.agg #[.slice none 0 0, .slice none 0 0], .bool false]) (by simp [results, Tryd.results17, go_sem, g0, g1]) rfl ⟨?_, fun c => absurd c HNF.out, fun _ => rfl⟩
              exact (HB7.out.setCell (p := ⟨w.heap.size + 1, 0, none⟩) (by show w.heap.size ≤ w.heap.size + 1; omega) _).setCell (p := ⟨w.heap.size + 1, 1, none⟩) (by show w.heap.size ≤ w.heap.size + 1; omega) _
            · have hbgI : ¬ (most : Int) < (Y.1.nodes.length : Int) - 2 := by omega
              have HFT := hid (show Y.1.nodes.length ≤ most + 2 by omega)
              clear hbg
              go_wp2_with fail
              go_roundw
              case rel => exact ⟨bt + 1, _, _, _, by omega, by go_num, by rw [← Nat.add_assoc, HSU.out]; exact HOF7.out, .inr (by rw [← Nat.add_assoc, HSU.out]; exact HFT.out)⟩
              case measure => simp [intOf]; omega
        · have hb7 : bt = 7 := by omega
          subst hb7
          go_wp2_with fail
          go_roundw
          case rel => exact ⟨st + 1, _, _, _, by omega, by go_num, by rw [Nat.mul_add]; exact HOF.out, by rw [Nat.mul_add]; exact HFI.out⟩
          case measure => simp [intOf]; omega
    · have HKE := hid (show k = st by omega)
      obtain ⟨aN, cN, eN⟩ := body_val hof.mm.nodes
      subst eN
      have c5 := hof.mm.c5
      have r7 := nil_row (HRX.out wr hof.mm.bel)
      have g0 := r7.cell (i := 0) (by omega)
      have g1 := r7.cell (i := 1) (by omega)
      have gf0 := r7.frozen 0
      have gf1 := r7.frozen 1
      clear hof hfit r7
      go_wp2_with fail
      have FR : Frm 0 (fun q => q = w.heap.size + 1) wr ((wr.setCell ⟨w.heap.size + 1, 0, none⟩ (.slice aN (S (7 * st)).1.nodes.length cN)).setCell ⟨w.heap.size + 1, 1, none⟩ (.slice at1 (S (7 * st)).2.length ct1)) := Frm.setCell (p := ⟨w.heap.size + 1, 1, none⟩) (Frm.setCell (p := ⟨w.heap.size + 1, 0, none⟩) (Frm.refl 0 (fun q => q = w.heap.size + 1) wr) (Nat.zero_le _) rfl _) (Nat.zero_le _) rfl _
      refine bodyPost_ret (v := .tuple #[.agg #[.slice aN (S (7 * st)).1.nodes.length cN, .slice at1 (S (7 * st)).2.length ct1], .bool true]) (by simp [results, Tryd.results17, go_sem, g0, g1]) rfl ⟨?_, fun _ => ⟨_, _, rfl, ?_, ?_⟩, fun c => ?_⟩
      · exact ((HB02.out.trans (HOF.out.mm.bel.mono (by omega))).setCell (p := ⟨w.heap.size + 1, 0, none⟩) (by show w.heap.size ≤ w.heap.size + 1; omega) _).setCell (p := ⟨w.heap.size + 1, 1, none⟩) (by show w.heap.size ≤ w.heap.size + 1; omega) _
      · rw [HSD.out, HKE.out]
        exact ownsRow_low (ownsRow_blk HOF.out.mm.nodes (fun q e => FR.keep q (HOF.out.mm.nodes.lt q e).2 (fun e2 => by have := (HOF.out.mm.nodes.lt q e).1; have e2 : q = w.heap.size + 1 := e2; omega))) (by omega)
      · rw [HSD.out, HKE.out]
        exact ownsRow_low (ownsRow_blk HOF.out.told (fun q e => FR.keep q (HOF.out.told.lt q e).2 (fun e2 => by have := (HOF.out.told.lt q e).1; have e2 : q = w.heap.size + 1 := e2; omega))) (by omega)
      · exfalso
        refine c ?_
        unfold Dg.Fits
        rw [HSD.out, HKE.out]
        exact HFI.out
end Go.Proofs.YtgddmpmcnjlcjabDoor
