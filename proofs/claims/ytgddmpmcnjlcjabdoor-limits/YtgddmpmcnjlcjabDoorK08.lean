import Derived.Test.YtgddmpmcnjlcjabDoorK07
import Derived.Test.YtgddmpmcnjlcjabDoorK04
import Derived.Deep.RegionHeld3
import Derived.Deep.QuietTactic
import Derived.BigQuiet
namespace Go.Proofs.YtgddmpmcnjlcjabDoor
open Go.RowKit
set_option linter.unusedVariables false
structure FRep (w : World) (base P R : Nat) (l : List DB) (f : Nat → Value) (L : List ByteArray) (gl : Nat) (vn vk vz vb : Value) : Prop where
  prog : PRep w base P l vn vk vz vb
  row : w.rowIs R 79 5 f
  lin : Wds w gl L
  llt : gl < w.heap.size
  rP : R ≠ P
  rn : vn.ownBlock ≠ some R
  rk : vk.ownBlock ≠ some R
  rz : vz.ownBlock ≠ some R
  lR : gl ≠ R
  lP : gl ≠ P
  ln : vn.ownBlock ≠ some gl
  lk : vk.ownBlock ≠ some gl
  lz : vz.ownBlock ≠ some gl
def Stand (P R gl : Nat) (vn vk vz : Value) (k : Nat) : Prop := k = R ∨ k = P ∨ k = gl ∨ vn.ownBlock = some k ∨ vk.ownBlock = some k ∨ vz.ownBlock = some k
namespace FRep
variable {w : World} {base P R : Nat} {l : List DB} {f : Nat → Value} {L : List ByteArray} {gl : Nat} {vn vk vz vb : Value}
theorem stand_lt (h : FRep w base P R l f L gl vn vk vz vb) {k : Nat} (hk : Stand P R gl vn vk vz k) : k < w.heap.size := by
  rcases hk with rfl | rfl | rfl | e | e | e
  · exact h.row.lt
  · exact h.prog.lt
  · exact h.llt
  · exact (h.prog.nm.lt _ e).2
  · exact (h.prog.kd.lt _ e).2
  · exact (h.prog.sz.lt _ e).2
theorem same {w' : World} (h : FRep w base P R l f L gl vn vk vz vb) (hb : ∀ k, Stand P R gl vn vk vz k → w'.heap[k]? = w.heap[k]?) (hs : w.heap.size ≤ w'.heap.size) : FRep w' base P R l f L gl vn vk vz vb :=
  ⟨⟨h.prog.row.of_block (hb P (.inr (.inl rfl))), h.prog.ge, ownsRow_blk h.prog.nm (fun k e => hb k (.inr (.inr (.inr (.inl e))))), ownsRow_blk h.prog.kd (fun k e => hb k (.inr (.inr (.inr (.inr (.inl e)))))), ownsRow_blk h.prog.sz (fun k e => hb k (.inr (.inr (.inr (.inr (.inr e)))))), h.prog.np, h.prog.kp, h.prog.zp, h.prog.nk, h.prog.nz, h.prog.kz⟩,
    h.row.of_block (hb R (.inl rfl)), fun i hi => (World.cell?_of_block (hb gl (.inr (.inr (.inl rfl))))).trans (h.lin i hi), Nat.lt_of_lt_of_le h.llt hs, h.rP, h.rn, h.rk, h.rz, h.lR, h.lP, h.ln, h.lk, h.lz⟩
theorem below {w' : World} (h : FRep w base P R l f L gl vn vk vz vb) (hb : Below w.heap.size w w') : FRep w' base P R l f L gl vn vk vz vb := h.same (fun k hk => hb.block k (h.stand_lt hk)) hb.size
theorem alloc (h : FRep w base P R l f L gl vn vk vz vb) (o : Obj) : FRep (w.alloc o) base P R l f L gl vn vk vz vb := h.below ((Below.refl _ _).alloc (Nat.le_refl _) o)
theorem drew (h : FRep w base P R l f L gl vn vk vz vb) : FRep w.drew base P R l f L gl vn vk vz vb := h.same (fun _ _ => rfl) (Nat.le_refl _)
theorem drewN (h : FRep w base P R l f L gl vn vk vz vb) (n : Nat) : FRep (w.drewN n) base P R l f L gl vn vk vz vb := h.same (fun _ _ => rfl) (Nat.le_refl _)
theorem congr {f' : Nat → Value} (h : FRep w base P R l f L gl vn vk vz vb) (e : ∀ i, i < 5 → f i = f' i) : FRep w base P R l f' L gl vn vk vz vb :=
  ⟨h.prog, h.row.congr e, h.lin, h.llt, h.rP, h.rn, h.rk, h.rz, h.lR, h.lP, h.ln, h.lk, h.lz⟩
theorem setOther {b i : Nat} (h : FRep w base P R l f L gl vn vk vz vb) (hb : ¬ Stand P R gl vn vk vz b) (u : Value) : FRep (w.setCell ⟨b, i, none⟩ u) base P R l f L gl vn vk vz vb :=
  h.same (fun k hk => Below.heap_setCell w ⟨b, i, none⟩ u k (fun e => hb (by rw [← show k = b from e]; exact hk))) (by simp)
theorem put (h : FRep w base P R l f L gl vn vk vz vb) (i : Nat) (x : Value) : FRep (w.setCell ⟨R, i, none⟩ x) base P R l (fun j => if j = i then x else f j) L gl vn vk vz vb := by
  have hs : ∀ k, k ≠ R → (w.setCell ⟨R, i, none⟩ x).heap[k]? = w.heap[k]? := fun k hk => Below.heap_setCell w ⟨R, i, none⟩ x k hk
  exact ⟨⟨h.prog.row.of_block (hs P h.rP.symm), h.prog.ge, ownsRow_setCell h.prog.nm h.rn x, ownsRow_setCell h.prog.kd h.rk x, ownsRow_setCell h.prog.sz h.rz x, h.prog.np, h.prog.kp, h.prog.zp, h.prog.nk, h.prog.nz, h.prog.kz⟩,
    h.row.set i x, fun j hj => (World.cell?_of_block (hs gl h.lR)).trans (h.lin j hj), by simpa using h.llt, h.rP, h.rn, h.rk, h.rz, h.lR, h.lP, h.ln, h.lk, h.lz⟩
end FRep
abbrev fst_ (P gl cl n : Nat) (s : Rf.Rs) : Nat → Value := fcell P (.slice (some ⟨gl, 0, none⟩) n cl) s
def scell (gw n cw : Nat) (v o : Value) (i : Nat) : Value := if i = 0 then .slice (some ⟨gw, 0, none⟩) n cw else if i = 1 then v else o
def ptrB (b : Nat) : Value := .pointer (some ⟨b, 0, none⟩)
def NewB (w w' : World) (k : Nat) : Prop := w.heap.size ≤ k ∧ k < w'.heap.size
def SlAt (w : World) (A : Nat → Prop) (v : Value) (bs : List Nat) : Prop :=
  ∃ ad c, v = .slice ad bs.length c ∧ (0 < bs.length → ∃ g, ad = some ⟨g, 0, none⟩ ∧ A g ∧ ∀ i, i < bs.length → w.cell? ⟨g, i, none⟩ = some (ptrB (bs.getD i 0)))
inductive TsAt (w : World) (A : Nat → Prop) : List Nat → List Rf.Tr → Prop
  | nil : TsAt w A [] []
  | cons {sb gw cw : Nat} {ws : List ByteArray} {vb vo : Value} {bs os : List Nat} {body other : List Rf.Tr} {rs : List Nat} {rest : List Rf.Tr}
      (hA : A sb) (hrow : w.rowIs sb 125 3 (scell gw ws.length cw vb vo)) (hg : A gw) (hW : Wds w gw ws) (h0 : 0 < ws.length)
      (hb : SlAt w A vb bs) (tb : TsAt w A bs body) (ho : SlAt w A vo os) (to_ : TsAt w A os other) (tr : TsAt w A rs rest) :
      TsAt w A (sb :: rs) (.node (ws.map ByteArray.toList) body other :: rest)
section
variable {w w' a b : World} {A A' : Nat → Prop} {v : Value} {bs cs : List Nat} {ts us : List Rf.Tr}
theorem SlAt.move (h : SlAt a A v bs) (hk : ∀ k, A k → b.heap[k]? = a.heap[k]? ∧ A' k) : SlAt b A' v bs := by
  obtain ⟨ad, c, hv, hc⟩ := h
  refine ⟨ad, c, hv, fun h0 => ?_⟩
  obtain ⟨g, hg, hA, hi⟩ := hc h0
  exact ⟨g, hg, (hk g hA).2, fun i h => (World.cell?_of_block (hk g hA).1).trans (hi i h)⟩
theorem SlAt.nil : SlAt w A (.slice none 0 0) [] := ⟨none, 0, rfl, fun h => absurd h (by simp)⟩
theorem TsAt.move (h : TsAt a A bs ts) (hk : ∀ k, A k → b.heap[k]? = a.heap[k]? ∧ A' k) : TsAt b A' bs ts := by
  induction h with
  | nil => exact .nil
  | cons hA hrow hg hW h0 hb tb ho to_ tr ih1 ih2 ih3 =>
    exact .cons (hk _ hA).2 (hrow.of_block (hk _ hA).1) (hk _ hg).2 (fun i hi => (World.cell?_of_block (hk _ hg).1).trans (hW i hi)) h0 (hb.move hk) ih1 (ho.move hk) ih2 ih3
theorem TsAt.append (h : TsAt w A bs ts) (h2 : TsAt w A cs us) : TsAt w A (bs ++ cs) (ts ++ us) := by
  induction h with
  | nil => exact h2
  | cons hA hrow hg hW h0 hb tb ho to_ tr ih1 ih2 ih3 => exact .cons hA hrow hg hW h0 hb tb ho to_ ih3
theorem TsAt.len (h : TsAt w A bs ts) : bs.length = ts.length := by
  induction h with
  | nil => rfl
  | cons hA hrow hg hW h0 hb tb ho to_ tr ih1 ih2 ih3 => simp [ih3]
def Sub (w : World) (A : Nat → Prop) (v : Value) (ts : List Rf.Tr) : Prop := ∃ bs, SlAt w A v bs ∧ TsAt w A bs ts
theorem Sub.move (h : Sub a A v ts) (hk : ∀ k, A k → b.heap[k]? = a.heap[k]? ∧ A' k) : Sub b A' v ts := by
  obtain ⟨bs, h1, h2⟩ := h
  exact ⟨bs, h1.move hk, h2.move hk⟩
theorem Sub.nil : Sub w A (.slice none 0 0) [] := ⟨[], .nil, .nil⟩
theorem Sub.low (h : Sub a (NewB w' a) v ts) (hw : w.heap.size ≤ w'.heap.size) : Sub a (NewB w a) v ts := h.move (fun k hk => ⟨rfl, Nat.le_trans hw hk.1, hk.2⟩)
theorem Sub.frm {R : Nat} (h : Sub a (NewB w a) v ts) (fr : Frm 0 (fun k => k = R) a b) (hR : R < w.heap.size) : Sub b (NewB w b) v ts :=
  h.move (fun k hk => ⟨fr.keep k hk.2 (fun e => by have := hk.1; omega), hk.1, Nat.lt_of_lt_of_le hk.2 fr.bel.size⟩)
theorem Sub.set {k i : Nat} (h : Sub a (NewB w a) v ts) (hR : k < w.heap.size) (u : Value) : Sub (a.setCell ⟨k, i, none⟩ u) (NewB w (a.setCell ⟨k, i, none⟩ u)) v ts :=
  h.move (fun j hj => ⟨Below.heap_setCell a ⟨k, i, none⟩ u j (fun e => by have h1 : j = k := e; have := hj.1; omega), hj.1, by simpa using hj.2⟩)
theorem Sub.drewN (h : Sub a (NewB w a) v ts) (n : Nat) : Sub (a.drewN n) (NewB w (a.drewN n)) v ts := h.move (fun k hk => ⟨rfl, hk⟩)
end
def BlockOk (L : List ByteArray) (gl cl d : Nat) : Prop :=
  ∀ (f : Nat) (w : World) (base P R : Nat) (l : List DB) (s : Rf.Rs) (vn vk vz vb : Value), FRep w base P R l (fst_ P gl cl L.length s) L gl vn vk vz vb → s.ds = dcs l → s.bdy = true → L.length ≤ s.at_ + 1 + f → s.at_ < L.length → s.cnt ≤ 12 → l.length ≤ 1000 → L.length ≤ 1000 →
    Calls Tryd.prog 28 #[.pointer (some ⟨R, 0, none⟩), .int .i64 d] w fun e w' =>
      ∃ ad n c, e = .returned (.tuple #[.slice ad n c, .bool (Rf.blkS (L.map ByteArray.toList) f d s).1]) ∧ FRep w' base P R l (fst_ P gl cl L.length (Rf.blkS (L.map ByteArray.toList) f d s).2) L gl vn vk vz vb ∧ Frm 0 (fun k => k = R) w w' ∧
        ((Rf.blkS (L.map ByteArray.toList) f d s).1 = true → Sub w' (NewB w w') (.slice ad n c) (Rf.blk (L.map ByteArray.toList) f d s []).2.1)
theorem fst_up (P gl cl n : Nat) (s : Rf.Rs) (i : Nat) (hi : i < 5) : (if i = 2 then Value.int .i64 ((s.at_ : Int) + 1) else fst_ P gl cl n s i) = fst_ P gl cl n { s with at_ := s.at_ + 1 } i := by
  match i, hi with
  | 0, _ => rfl
  | 1, _ => rfl
  | 2, _ => rfl
  | 3, _ => rfl
  | 4, _ => rfl
  | n + 5, h => omega
theorem fst_up2 (P gl cl n : Nat) (s : Rf.Rs) (i : Nat) (hi : i < 5) : (if i = 2 then Value.int .i64 ((s.at_ : Int) + 1) else if i = 3 then Value.int .i64 ((s.cnt : Int) + 1) else fst_ P gl cl n s i) = fst_ P gl cl n { s with cnt := s.cnt + 1, at_ := s.at_ + 1 } i := by
  match i, hi with
  | 0, _ => rfl
  | 1, _ => rfl
  | 2, _ => rfl
  | 3, _ => rfl
  | 4, _ => rfl
  | n + 5, h => omega
theorem line_map (L : List ByteArray) (i : Nat) : (L.map ByteArray.toList).getD i [] = (L.getD i ByteArray.empty).toList := wd_map L i
theorem cell_set {w : World} {a : Addr} {v : Value} (h : w.cell? a = some v) {b i : Nat} (hb : a.block ≠ b) (u : Value) : (w.setCell ⟨b, i, none⟩ u).cell? a = some v :=
  (World.cell?_of_block (Below.heap_setCell w ⟨b, i, none⟩ u a.block hb)).trans h
section
variable {w : World} {base P R gl cl d f : Nat} {l : List DB} {s : Rf.Rs} {L : List ByteArray} {vn vk vz vb : Value} {sb gw cw : Nat} {TB TO : List Rf.Tr}
abbrev NestPost (w w' : World) (base P R gl cl : Nat) (l : List DB) (L : List ByteArray) (vn vk vz vb : Value) (sb gw nw cw : Nat) (TB TO : List Rf.Tr) (e : Ending) (o : Bool × Rf.Rs) : Prop :=
  e = .returned (.bool o.1) ∧ FRep w' base P R l (fst_ P gl cl L.length o.2) L gl vn vk vz vb ∧ Frm 0 (fun k => k = R ∨ k = sb) w w' ∧
    (o.1 = true → ∃ ub uo, w'.rowIs sb 125 3 (scell gw nw cw ub uo) ∧ Sub w' (NewB w w') ub TB ∧ Sub w' (NewB w w') uo TO)
theorem scell_body (gw n cw : Nat) (u : Value) (i : Nat) (hi : i < 3) : (if i = 1 then u else scell gw n cw (.slice none 0 0) (.slice none 0 0) i) = scell gw n cw u (.slice none 0 0) i := by
  match i, hi with
  | 0, _ => rfl
  | 1, _ => rfl
  | 2, _ => rfl
  | n + 3, h => omega
theorem scell_both (gw n cw : Nat) (u x : Value) (i : Nat) (hi : i < 3) : (if i = 2 then x else if i = 1 then u else scell gw n cw (.slice none 0 0) (.slice none 0 0) i) = scell gw n cw u x i := by
  match i, hi with
  | 0, _ => rfl
  | 1, _ => rfl
  | 2, _ => rfl
  | n + 3, h => omega
set_option maxRecDepth 100000 in
set_option maxHeartbeats 1000000 in
theorem nest_len (F : FRep w base P R l (fst_ P gl cl L.length s) L gl vn vk vz vb) (hl : l.length ≤ 1000) (hL : L.length ≤ 1000) (n : Nat) (c0 : w.cell? ⟨sb, 0, none⟩ = some (.slice (some ⟨gw, 0, none⟩) n cw)) (hn : ((n : Int) != 2) = true) :
    Calls Tryd.prog 51 #[.pointer (some ⟨R, 0, none⟩), .pointer (some ⟨sb, 0, none⟩), .int .i64 d] w fun e w' => NestPost w w' base P R gl cl l L vn vk vz vb sb gw n cw TB TO e (false, s) := by
  have HF := hid F
  clear F
  go_enter Tryd.func51, Tryd.ntmps51
  go_wp2_with fail
  go_ret
  exact ⟨rfl, HF.out, Frm.refl _ _ _, fun h => absurd h (by simp)⟩
set_option maxRecDepth 100000 in
set_option maxHeartbeats 1000000 in
theorem nest_deep (F : FRep w base P R l (fst_ P gl cl L.length s) L gl vn vk vz vb) (hl : l.length ≤ 1000) (hL : L.length ≤ 1000) (c0 : w.cell? ⟨sb, 0, none⟩ = some (.slice (some ⟨gw, 0, none⟩) 2 cw)) (hd : d = 4) :
    Calls Tryd.prog 51 #[.pointer (some ⟨R, 0, none⟩), .pointer (some ⟨sb, 0, none⟩), .int .i64 d] w fun e w' => NestPost w w' base P R gl cl l L vn vk vz vb sb gw 2 cw TB TO e (false, s) := by
  have HF := hid F
  clear F
  subst hd
  go_enter Tryd.func51, Tryd.ntmps51
  go_wp2_with fail
  go_ret
  exact ⟨rfl, HF.out, Frm.refl _ _ _, fun h => absurd h (by simp)⟩
set_option maxRecDepth 100000 in
set_option maxHeartbeats 1000000 in
theorem nest_atom (F : FRep w base P R l (fst_ P gl cl L.length s) L gl vn vk vz vb) (hl : l.length ≤ 1000) (hL : L.length ≤ 1000) (hS : w.rowIs sb 125 3 (scell gw 2 cw (.slice none 0 0) (.slice none 0 0))) (q0 q1 : ByteArray) (c0 : w.cell? ⟨gw, 0, none⟩ = some (.string q0)) (c1 : w.cell? ⟨gw, 1, none⟩ = some (.string q1)) (hd : d < 4) (hsb : ¬ Stand P R gl vn vk vz sb) (hgR : gw ≠ R) (hgs : gw ≠ sb) (ha : Rf.atom (dcs l) q1.toList = false) :
    Calls Tryd.prog 51 #[.pointer (some ⟨R, 0, none⟩), .pointer (some ⟨sb, 0, none⟩), .int .i64 d] w fun e w' => NestPost w w' base P R gl cl l L vn vk vz vb sb gw 2 cw TB TO e (false, s) := by
  have hsl := hS.lt
  have hRl := F.row.lt
  have hsR : sb ≠ R := fun e => hsb (.inl e)
  have s0 := hS.cell (i := 0) (by omega)
  rw [show scell gw 2 cw (.slice none 0 0) (.slice none 0 0) 0 = .slice (some ⟨gw, 0, none⟩) 2 cw from rfl] at s0
  have r0 := F.row.cell (i := 0) (by omega)
  rw [show fst_ P gl cl L.length s 0 = .pointer (some ⟨P, 0, none⟩) from rfl] at r0
  have hdI : (d : Int) < 4 := by omega
  have hdJ : ((d : Int) == 4) = false := by simp; omega
  have HS := hid hS
  have HF := hid F
  have HC0 := hid c0
  clear hS F
  go_enter Tryd.func51, Tryd.ntmps51
  go_wp2_with fail
  go_region_held3 (fun w' => w'.cell? ⟨R, 0, none⟩ = some (.pointer (some ⟨P, 0, none⟩)) ∧ w'.cell? ⟨sb, 0, none⟩ = some (.slice (some ⟨gw, 0, none⟩) 2 cw) ∧ w'.cell? ⟨gw, 1, none⟩ = some (.string q1))
    (first
      | go_keep
      | (go_split_ands
         exact ⟨cell_later hb1 (by assumption), cell_later hb1 (by assumption), cell_later hb1 (by assumption)⟩))
    ((go_at_call 78; refine (HF.out.drew.prog.atom_any q1 hl).mono ?_; rintro e w1 ⟨rfl, hb1⟩))
  go_wp2_with fail
  go_ret
  have hb2 : Below w.heap.size w w1 := ⟨hb1.os, hb1.tape, hb1.output, hb1.size, hb1.block⟩
  exact ⟨rfl, HF.out.below hb2, Frm.ofBelow hb2 (Nat.zero_le _), fun h => absurd h (by simp)⟩
set_option maxRecDepth 100000 in
set_option maxHeartbeats 1000000 in
theorem nest_one (F : FRep w base P R l (fst_ P gl cl L.length s) L gl vn vk vz vb) (hl : l.length ≤ 1000) (hL : L.length ≤ 1000) (hS : w.rowIs sb 125 3 (scell gw 2 cw (.slice none 0 0) (.slice none 0 0))) (q0 q1 : ByteArray) (c0 : w.cell? ⟨gw, 0, none⟩ = some (.string q0)) (c1 : w.cell? ⟨gw, 1, none⟩ = some (.string q1)) (hd : d < 4) (hsb : ¬ Stand P R gl vn vk vz sb) (hgR : gw ≠ R) (hgs : gw ≠ sb) (ha : Rf.atom (dcs l) q1.toList = true) (hds : s.ds = dcs l) (hbd : s.bdy = true) (hfu : L.length ≤ s.at_ + 1 + (f + 1)) (hat : s.at_ + 1 < L.length) (hcn : s.cnt < 12) (IH : BlockOk L gl cl (d + 1)) (s2 : Rf.Rs) (ho1 : (Rf.blkS (L.map ByteArray.toList) f (d + 1) { s with cnt := s.cnt + 1, at_ := s.at_ + 1 }) = (false, s2)) :
    Calls Tryd.prog 51 #[.pointer (some ⟨R, 0, none⟩), .pointer (some ⟨sb, 0, none⟩), .int .i64 d] w fun e w' => NestPost w w' base P R gl cl l L vn vk vz vb sb gw 2 cw TB TO e (false, s2) := by
  have hsl := hS.lt
  have hRl := F.row.lt
  have hsR : sb ≠ R := fun e => hsb (.inl e)
  have s0 := hS.cell (i := 0) (by omega)
  rw [show scell gw 2 cw (.slice none 0 0) (.slice none 0 0) 0 = .slice (some ⟨gw, 0, none⟩) 2 cw from rfl] at s0
  have r0 := F.row.cell (i := 0) (by omega)
  rw [show fst_ P gl cl L.length s 0 = .pointer (some ⟨P, 0, none⟩) from rfl] at r0
  have hdI : (d : Int) < 4 := by omega
  have hdJ : ((d : Int) == 4) = false := by simp; omega
  have HS := hid hS
  have HF := hid F
  have HC0 := hid c0
  clear hS F
  have HI := hid (IH f)
  have HO1 := hid ho1
  have hatI : (s.at_ : Int) + 1 < 1000 := by omega
  have hcnI : (s.cnt : Int) < 12 := by omega
  have HD := hid hds
  have HBD := hid hbd
  clear IH ho1 hds hbd
  go_enter Tryd.func51, Tryd.ntmps51
  go_wp2_with fail
  go_region_held3 (fun w' => w'.cell? ⟨R, 0, none⟩ = some (.pointer (some ⟨P, 0, none⟩)) ∧ w'.cell? ⟨sb, 0, none⟩ = some (.slice (some ⟨gw, 0, none⟩) 2 cw) ∧ w'.cell? ⟨gw, 1, none⟩ = some (.string q1))
    (first
      | go_keep
      | (go_split_ands
         exact ⟨cell_later hb1 (by assumption), cell_later hb1 (by assumption), cell_later hb1 (by assumption)⟩))
    ((go_at_call 78; refine (HF.out.drew.prog.atom_any q1 hl).mono ?_; rintro e w1 ⟨rfl, hb1⟩))
  have hb2 : Below w.heap.size w w1 := ⟨hb1.os, hb1.tape, hb1.output, hb1.size, hb1.block⟩
  have F1 := hid (HF.out.below hb2)
  have S1 := hid (HS.out.of_block (hb2.block sb hsl))
  have W1 : Hid (Frm 0 (fun k => k = R ∨ k = sb) w w1) := Frm.ofBelow hb2 (Nat.zero_le _)
  have g0 := cell_later hb2 HC0.out
  have z1 := hb2.size
  clear hb1 hb2 s0 r0
  have r2 := F1.out.row.cell (i := 2) (by omega)
  have r3 := F1.out.row.cell (i := 3) (by omega)
  have f2 := F1.out.row.frozen 2
  have f3 := F1.out.row.frozen 3
  rw [show fst_ P gl cl L.length s 2 = .int .i64 s.at_ from rfl] at r2
  rw [show fst_ P gl cl L.length s 3 = .int .i64 s.cnt from rfl] at r3
  go_wp2_with (first | (go_at_call 28; refine (HI.out _ base P R l { s with cnt := s.cnt + 1, at_ := s.at_ + 1 } vn vk vz vb (((F1.out.put 3 _).put 2 _).congr (fun i hi => fst_up2 P gl cl L.length s i hi)) HD.out HBD.out (by show L.length ≤ s.at_ + 1 + 1 + f; omega) (by exact hat) (by show s.cnt + 1 ≤ 12; omega) hl hL).mono ?_; rintro e w3 ⟨ad, n, c, rfl, F3, K3, T3⟩; rw [HO1.out] at F3; rw [HO1.out]; have S3 := ((S1.out.setOther hsR _).setOther hsR _).of_block (K3.keep sb (by simp; omega) hsR); have G3 := K3.cell (p := ⟨gw, 0, none⟩) (cell_set (cell_set g0 hgR _) hgR _) hgR; have b1c := S3.cell (i := 1) (by omega); have b1f := S3.frozen 1; have HF3 := hid F3; have HK3 := hid K3; clear T3; have HS3 := hid S3; have z3 := K3.bel.size; simp at z3; clear F3 K3 S3))
  go_ret
  exact ⟨rfl, HF3.out.setOther hsb _, ((((W1.out.setCell (Nat.zero_le _) (.inl rfl) _).setCell (Nat.zero_le _) (.inl rfl) _).trans HK3.out (fun k _ hk => .inl hk)).setCell (Nat.zero_le _) (.inr rfl) _), fun h => absurd h (by simp)⟩
set_option maxRecDepth 100000 in
set_option maxHeartbeats 1000000 in
theorem nest_plain (F : FRep w base P R l (fst_ P gl cl L.length s) L gl vn vk vz vb) (hl : l.length ≤ 1000) (hL : L.length ≤ 1000) (hS : w.rowIs sb 125 3 (scell gw 2 cw (.slice none 0 0) (.slice none 0 0))) (q0 q1 : ByteArray) (c0 : w.cell? ⟨gw, 0, none⟩ = some (.string q0)) (c1 : w.cell? ⟨gw, 1, none⟩ = some (.string q1)) (hd : d < 4) (hsb : ¬ Stand P R gl vn vk vz sb) (hgR : gw ≠ R) (hgs : gw ≠ sb) (ha : Rf.atom (dcs l) q1.toList = true) (hds : s.ds = dcs l) (hbd : s.bdy = true) (hfu : L.length ≤ s.at_ + 1 + (f + 1)) (hat : s.at_ + 1 < L.length) (hcn : s.cnt < 12) (IH : BlockOk L gl cl (d + 1)) (s2 : Rf.Rs) (ho1 : (Rf.blkS (L.map ByteArray.toList) f (d + 1) { s with cnt := s.cnt + 1, at_ := s.at_ + 1 }) = (true, s2)) (hl2 : s2.at_ < L.length) (q : ByteArray) (hq : L.getD s2.at_ ByteArray.empty = q) (he : (q.toList == [101, 108, 115, 101]) = false) :
    Calls Tryd.prog 51 #[.pointer (some ⟨R, 0, none⟩), .pointer (some ⟨sb, 0, none⟩), .int .i64 d] w fun e w' => NestPost w w' base P R gl cl l L vn vk vz vb sb gw 2 cw (Rf.bodyT (L.map ByteArray.toList) f d s) (Rf.otherT (L.map ByteArray.toList) f d s) e (true, { s2 with at_ := s2.at_ + 1 }) := by
  have hsl := hS.lt
  have hRl := F.row.lt
  have hsR : sb ≠ R := fun e => hsb (.inl e)
  have s0 := hS.cell (i := 0) (by omega)
  rw [show scell gw 2 cw (.slice none 0 0) (.slice none 0 0) 0 = .slice (some ⟨gw, 0, none⟩) 2 cw from rfl] at s0
  have r0 := F.row.cell (i := 0) (by omega)
  rw [show fst_ P gl cl L.length s 0 = .pointer (some ⟨P, 0, none⟩) from rfl] at r0
  have hdI : (d : Int) < 4 := by omega
  have hdJ : ((d : Int) == 4) = false := by simp; omega
  have HS := hid hS
  have HF := hid F
  have HC0 := hid c0
  clear hS F
  have HI := hid (IH f)
  have HO1 := hid ho1
  have HOT := hid (Rf.otherT_none ho1 (show ¬ _ = Rf.wElse by rw [line_map, hq]; exact ne_of_beq_false he))
  have hatI : (s.at_ : Int) + 1 < 1000 := by omega
  have hcnI : (s.cnt : Int) < 12 := by omega
  have HD := hid hds
  have HBD := hid hbd
  clear IH ho1 hds hbd
  have HQ := hid hq
  clear hq
  have h2I : (s2.at_ : Int) < (L.length : Int) := by omega
  have h2J : (s2.at_ : Int) + 1 ≤ 1000 := by omega
  have h2K : (0 : Int) ≤ (s2.at_ : Int) := by omega
  go_enter Tryd.func51, Tryd.ntmps51
  go_wp2_with fail
  go_region_held3 (fun w' => w'.cell? ⟨R, 0, none⟩ = some (.pointer (some ⟨P, 0, none⟩)) ∧ w'.cell? ⟨sb, 0, none⟩ = some (.slice (some ⟨gw, 0, none⟩) 2 cw) ∧ w'.cell? ⟨gw, 1, none⟩ = some (.string q1))
    (first
      | go_keep
      | (go_split_ands
         exact ⟨cell_later hb1 (by assumption), cell_later hb1 (by assumption), cell_later hb1 (by assumption)⟩))
    ((go_at_call 78; refine (HF.out.drew.prog.atom_any q1 hl).mono ?_; rintro e w1 ⟨rfl, hb1⟩))
  have hb2 : Below w.heap.size w w1 := ⟨hb1.os, hb1.tape, hb1.output, hb1.size, hb1.block⟩
  have F1 := hid (HF.out.below hb2)
  have S1 := hid (HS.out.of_block (hb2.block sb hsl))
  have W1 : Hid (Frm 0 (fun k => k = R ∨ k = sb) w w1) := Frm.ofBelow hb2 (Nat.zero_le _)
  have g0 := cell_later hb2 HC0.out
  have z1 := hb2.size
  clear hb1 hb2 s0 r0
  have r2 := F1.out.row.cell (i := 2) (by omega)
  have r3 := F1.out.row.cell (i := 3) (by omega)
  have f2 := F1.out.row.frozen 2
  have f3 := F1.out.row.frozen 3
  rw [show fst_ P gl cl L.length s 2 = .int .i64 s.at_ from rfl] at r2
  rw [show fst_ P gl cl L.length s 3 = .int .i64 s.cnt from rfl] at r3
  go_wp2_with (first | (go_at_call 28; refine (HI.out _ base P R l { s with cnt := s.cnt + 1, at_ := s.at_ + 1 } vn vk vz vb (((F1.out.put 3 _).put 2 _).congr (fun i hi => fst_up2 P gl cl L.length s i hi)) HD.out HBD.out (by show L.length ≤ s.at_ + 1 + 1 + f; omega) (by exact hat) (by show s.cnt + 1 ≤ 12; omega) hl hL).mono ?_; rintro e w3 ⟨ad, n, c, rfl, F3, K3, T3⟩; rw [HO1.out] at F3; rw [HO1.out]; have S3 := ((S1.out.setOther hsR _).setOther hsR _).of_block (K3.keep sb (by simp; omega) hsR); have G3 := K3.cell (p := ⟨gw, 0, none⟩) (cell_set (cell_set g0 hgR _) hgR _) hgR; have b1c := S3.cell (i := 1) (by omega); have b1f := S3.frozen 1; have HF3 := hid F3; have HK3 := hid K3; have HT3 := hid (T3 (by rw [HO1.out])); clear T3; have HS3 := hid S3; have z3 := K3.bel.size; simp at z3; clear F3 K3 S3))
  have t1 := (HF3.out.setOther (b := sb) (i := 1) hsb (.slice ad n c)).row.cell (i := 1) (by omega)
  have t2 := (HF3.out.setOther (b := sb) (i := 1) hsb (.slice ad n c)).row.cell (i := 2) (by omega)
  have t2f := (HF3.out.setOther (b := sb) (i := 1) hsb (.slice ad n c)).row.frozen 2
  have tl := (HF3.out.setOther (b := sb) (i := 1) hsb (.slice ad n c)).lin s2.at_ hl2
  have tw := (HS3.out.set 1 (.slice ad n c)).cell (i := 0) (by omega)
  have tg := cell_set (i := 1) G3 hgs (.slice ad n c)
  rw [show fst_ P gl cl L.length s2 1 = .slice (some ⟨gl, 0, none⟩) L.length cl from rfl] at t1
  rw [show fst_ P gl cl L.length s2 2 = .int .i64 s2.at_ from rfl] at t2
  rw [HQ.out] at tl
  simp only [show ¬ (0 = 1) by omega, if_false, show scell gw 2 cw (.slice none 0 0) (.slice none 0 0) 0 = .slice (some ⟨gw, 0, none⟩) 2 cw from rfl] at tw
  have F4 := hid (HF3.out.setOther (b := sb) (i := 1) hsb (.slice ad n c))
  have S4 := hid (HS3.out.set 1 (.slice ad n c))
  have K4 : Hid (Frm 0 (fun k => k = R ∨ k = sb) w (w3.setCell ⟨sb, 1, none⟩ (.slice ad n c))) := ((((W1.out.setCell (Nat.zero_le _) (.inl rfl) _).setCell (Nat.zero_le _) (.inl rfl) _).trans HK3.out (fun k _ hk => .inl hk)).setCell (Nat.zero_le _) (.inr rfl) _)
  have T4 : Hid (Sub (w3.setCell ⟨sb, 1, none⟩ (.slice ad n c)) (NewB w (w3.setCell ⟨sb, 1, none⟩ (.slice ad n c))) (.slice ad n c) (Rf.bodyT (L.map ByteArray.toList) f d s)) := (HT3.out.low (by simp; omega)).set hsl _
  have z4 : (w3.setCell ⟨sb, 1, none⟩ (.slice ad n c)).heap.size = w3.heap.size := by simp
  generalize w3.setCell ⟨sb, 1, none⟩ (.slice ad n c) = w4 at t1 t2 t2f tl tw tg F4 S4 K4 z4 T4 ⊢
  go_quiet (fail)
  go_wp2_with fail
  go_ret
  exact ⟨rfl, ((F4.out.drewN _).put 2 _).congr (fun i hi => fst_up P gl cl L.length s2 i hi), (K4.out.drewN _).setCell (Nat.zero_le _) (.inl rfl) _, fun _ => ⟨_, _, ((S4.out.congr (fun i hi => scell_body gw 2 cw (.slice ad n c) i hi)).of_block (w' := w4.drewN _) rfl).setOther hsR _, (T4.out.drewN _).set hRl _, by rw [HOT.out]; exact Sub.nil⟩⟩
set_option maxRecDepth 100000 in
set_option maxHeartbeats 1000000 in
theorem nest_noif (F : FRep w base P R l (fst_ P gl cl L.length s) L gl vn vk vz vb) (hl : l.length ≤ 1000) (hL : L.length ≤ 1000) (hS : w.rowIs sb 125 3 (scell gw 2 cw (.slice none 0 0) (.slice none 0 0))) (q0 q1 : ByteArray) (c0 : w.cell? ⟨gw, 0, none⟩ = some (.string q0)) (c1 : w.cell? ⟨gw, 1, none⟩ = some (.string q1)) (hd : d < 4) (hsb : ¬ Stand P R gl vn vk vz sb) (hgR : gw ≠ R) (hgs : gw ≠ sb) (ha : Rf.atom (dcs l) q1.toList = true) (hds : s.ds = dcs l) (hbd : s.bdy = true) (hfu : L.length ≤ s.at_ + 1 + (f + 1)) (hat : s.at_ + 1 < L.length) (hcn : s.cnt < 12) (IH : BlockOk L gl cl (d + 1)) (s2 : Rf.Rs) (ho1 : (Rf.blkS (L.map ByteArray.toList) f (d + 1) { s with cnt := s.cnt + 1, at_ := s.at_ + 1 }) = (true, s2)) (hl2 : s2.at_ < L.length) (q : ByteArray) (hq : L.getD s2.at_ ByteArray.empty = q) (he : (q.toList == [101, 108, 115, 101]) = true) (hi : (q0.toList == [105, 102]) = false) :
    Calls Tryd.prog 51 #[.pointer (some ⟨R, 0, none⟩), .pointer (some ⟨sb, 0, none⟩), .int .i64 d] w fun e w' => NestPost w w' base P R gl cl l L vn vk vz vb sb gw 2 cw TB TO e (false, s2) := by
  have hsl := hS.lt
  have hRl := F.row.lt
  have hsR : sb ≠ R := fun e => hsb (.inl e)
  have s0 := hS.cell (i := 0) (by omega)
  rw [show scell gw 2 cw (.slice none 0 0) (.slice none 0 0) 0 = .slice (some ⟨gw, 0, none⟩) 2 cw from rfl] at s0
  have r0 := F.row.cell (i := 0) (by omega)
  rw [show fst_ P gl cl L.length s 0 = .pointer (some ⟨P, 0, none⟩) from rfl] at r0
  have hdI : (d : Int) < 4 := by omega
  have hdJ : ((d : Int) == 4) = false := by simp; omega
  have HS := hid hS
  have HF := hid F
  have HC0 := hid c0
  clear hS F
  have HI := hid (IH f)
  have HO1 := hid ho1
  have hatI : (s.at_ : Int) + 1 < 1000 := by omega
  have hcnI : (s.cnt : Int) < 12 := by omega
  have HD := hid hds
  have HBD := hid hbd
  clear IH ho1 hds hbd
  have HQ := hid hq
  clear hq
  have h2I : (s2.at_ : Int) < (L.length : Int) := by omega
  have h2J : (s2.at_ : Int) + 1 ≤ 1000 := by omega
  have h2K : (0 : Int) ≤ (s2.at_ : Int) := by omega
  go_enter Tryd.func51, Tryd.ntmps51
  go_wp2_with fail
  go_region_held3 (fun w' => w'.cell? ⟨R, 0, none⟩ = some (.pointer (some ⟨P, 0, none⟩)) ∧ w'.cell? ⟨sb, 0, none⟩ = some (.slice (some ⟨gw, 0, none⟩) 2 cw) ∧ w'.cell? ⟨gw, 1, none⟩ = some (.string q1))
    (first
      | go_keep
      | (go_split_ands
         exact ⟨cell_later hb1 (by assumption), cell_later hb1 (by assumption), cell_later hb1 (by assumption)⟩))
    ((go_at_call 78; refine (HF.out.drew.prog.atom_any q1 hl).mono ?_; rintro e w1 ⟨rfl, hb1⟩))
  have hb2 : Below w.heap.size w w1 := ⟨hb1.os, hb1.tape, hb1.output, hb1.size, hb1.block⟩
  have F1 := hid (HF.out.below hb2)
  have S1 := hid (HS.out.of_block (hb2.block sb hsl))
  have W1 : Hid (Frm 0 (fun k => k = R ∨ k = sb) w w1) := Frm.ofBelow hb2 (Nat.zero_le _)
  have g0 := cell_later hb2 HC0.out
  have z1 := hb2.size
  clear hb1 hb2 s0 r0
  have r2 := F1.out.row.cell (i := 2) (by omega)
  have r3 := F1.out.row.cell (i := 3) (by omega)
  have f2 := F1.out.row.frozen 2
  have f3 := F1.out.row.frozen 3
  rw [show fst_ P gl cl L.length s 2 = .int .i64 s.at_ from rfl] at r2
  rw [show fst_ P gl cl L.length s 3 = .int .i64 s.cnt from rfl] at r3
  go_wp2_with (first | (go_at_call 28; refine (HI.out _ base P R l { s with cnt := s.cnt + 1, at_ := s.at_ + 1 } vn vk vz vb (((F1.out.put 3 _).put 2 _).congr (fun i hi => fst_up2 P gl cl L.length s i hi)) HD.out HBD.out (by show L.length ≤ s.at_ + 1 + 1 + f; omega) (by exact hat) (by show s.cnt + 1 ≤ 12; omega) hl hL).mono ?_; rintro e w3 ⟨ad, n, c, rfl, F3, K3, T3⟩; rw [HO1.out] at F3; rw [HO1.out]; have S3 := ((S1.out.setOther hsR _).setOther hsR _).of_block (K3.keep sb (by simp; omega) hsR); have G3 := K3.cell (p := ⟨gw, 0, none⟩) (cell_set (cell_set g0 hgR _) hgR _) hgR; have b1c := S3.cell (i := 1) (by omega); have b1f := S3.frozen 1; have HF3 := hid F3; have HK3 := hid K3; clear T3; have HS3 := hid S3; have z3 := K3.bel.size; simp at z3; clear F3 K3 S3))
  have t1 := (HF3.out.setOther (b := sb) (i := 1) hsb (.slice ad n c)).row.cell (i := 1) (by omega)
  have t2 := (HF3.out.setOther (b := sb) (i := 1) hsb (.slice ad n c)).row.cell (i := 2) (by omega)
  have t2f := (HF3.out.setOther (b := sb) (i := 1) hsb (.slice ad n c)).row.frozen 2
  have tl := (HF3.out.setOther (b := sb) (i := 1) hsb (.slice ad n c)).lin s2.at_ hl2
  have tw := (HS3.out.set 1 (.slice ad n c)).cell (i := 0) (by omega)
  have tg := cell_set (i := 1) G3 hgs (.slice ad n c)
  rw [show fst_ P gl cl L.length s2 1 = .slice (some ⟨gl, 0, none⟩) L.length cl from rfl] at t1
  rw [show fst_ P gl cl L.length s2 2 = .int .i64 s2.at_ from rfl] at t2
  rw [HQ.out] at tl
  simp only [show ¬ (0 = 1) by omega, if_false, show scell gw 2 cw (.slice none 0 0) (.slice none 0 0) 0 = .slice (some ⟨gw, 0, none⟩) 2 cw from rfl] at tw
  have F4 := hid (HF3.out.setOther (b := sb) (i := 1) hsb (.slice ad n c))
  have S4 := hid (HS3.out.set 1 (.slice ad n c))
  have K4 : Hid (Frm 0 (fun k => k = R ∨ k = sb) w (w3.setCell ⟨sb, 1, none⟩ (.slice ad n c))) := ((((W1.out.setCell (Nat.zero_le _) (.inl rfl) _).setCell (Nat.zero_le _) (.inl rfl) _).trans HK3.out (fun k _ hk => .inl hk)).setCell (Nat.zero_le _) (.inr rfl) _)
  have z4 : (w3.setCell ⟨sb, 1, none⟩ (.slice ad n c)).heap.size = w3.heap.size := by simp
  generalize w3.setCell ⟨sb, 1, none⟩ (.slice ad n c) = w4 at t1 t2 t2f tl tw tg F4 S4 K4 z4 ⊢
  go_quiet (fail)
  go_wp2_with fail
  go_ret
  exact ⟨rfl, F4.out.drewN _, K4.out.drewN _, fun h => absurd h (by simp)⟩
set_option maxRecDepth 100000 in
set_option maxHeartbeats 1000000 in
theorem nest_two (F : FRep w base P R l (fst_ P gl cl L.length s) L gl vn vk vz vb) (hl : l.length ≤ 1000) (hL : L.length ≤ 1000) (hS : w.rowIs sb 125 3 (scell gw 2 cw (.slice none 0 0) (.slice none 0 0))) (q0 q1 : ByteArray) (c0 : w.cell? ⟨gw, 0, none⟩ = some (.string q0)) (c1 : w.cell? ⟨gw, 1, none⟩ = some (.string q1)) (hd : d < 4) (hsb : ¬ Stand P R gl vn vk vz sb) (hgR : gw ≠ R) (hgs : gw ≠ sb) (ha : Rf.atom (dcs l) q1.toList = true) (hds : s.ds = dcs l) (hbd : s.bdy = true) (hfu : L.length ≤ s.at_ + 1 + (f + 1)) (hat : s.at_ + 1 < L.length) (hcn : s.cnt < 12) (IH : BlockOk L gl cl (d + 1)) (s2 : Rf.Rs) (ho1 : (Rf.blkS (L.map ByteArray.toList) f (d + 1) { s with cnt := s.cnt + 1, at_ := s.at_ + 1 }) = (true, s2)) (hl2 : s2.at_ < L.length) (q : ByteArray) (hq : L.getD s2.at_ ByteArray.empty = q) (he : (q.toList == [101, 108, 115, 101]) = true) (hi : (q0.toList == [105, 102]) = true) (hm2 : s2.at_ + 1 < L.length) (hg2 : s.at_ + 1 ≤ s2.at_) (hc2 : s2.cnt ≤ 12) (hb2d : s2.bdy = true) (hd2 : s2.ds = dcs l) (s3 : Rf.Rs) (ho2 : (Rf.blkS (L.map ByteArray.toList) f (d + 1) { s2 with at_ := s2.at_ + 1 }) = (false, s3)) :
    Calls Tryd.prog 51 #[.pointer (some ⟨R, 0, none⟩), .pointer (some ⟨sb, 0, none⟩), .int .i64 d] w fun e w' => NestPost w w' base P R gl cl l L vn vk vz vb sb gw 2 cw TB TO e (false, s3) := by
  have hsl := hS.lt
  have hRl := F.row.lt
  have hsR : sb ≠ R := fun e => hsb (.inl e)
  have s0 := hS.cell (i := 0) (by omega)
  rw [show scell gw 2 cw (.slice none 0 0) (.slice none 0 0) 0 = .slice (some ⟨gw, 0, none⟩) 2 cw from rfl] at s0
  have r0 := F.row.cell (i := 0) (by omega)
  rw [show fst_ P gl cl L.length s 0 = .pointer (some ⟨P, 0, none⟩) from rfl] at r0
  have hdI : (d : Int) < 4 := by omega
  have hdJ : ((d : Int) == 4) = false := by simp; omega
  have HS := hid hS
  have HF := hid F
  have HC0 := hid c0
  clear hS F
  have HI := hid (IH f)
  have HO1 := hid ho1
  have hatI : (s.at_ : Int) + 1 < 1000 := by omega
  have hcnI : (s.cnt : Int) < 12 := by omega
  have HD := hid hds
  have HBD := hid hbd
  clear IH ho1 hds hbd
  have HQ := hid hq
  clear hq
  have h2I : (s2.at_ : Int) < (L.length : Int) := by omega
  have h2J : (s2.at_ : Int) + 1 ≤ 1000 := by omega
  have h2K : (0 : Int) ≤ (s2.at_ : Int) := by omega
  have HO2 := hid ho2
  have HB2D := hid hb2d
  have HD2 := hid hd2
  clear ho2 hb2d hd2
  go_enter Tryd.func51, Tryd.ntmps51
  go_wp2_with fail
  go_region_held3 (fun w' => w'.cell? ⟨R, 0, none⟩ = some (.pointer (some ⟨P, 0, none⟩)) ∧ w'.cell? ⟨sb, 0, none⟩ = some (.slice (some ⟨gw, 0, none⟩) 2 cw) ∧ w'.cell? ⟨gw, 1, none⟩ = some (.string q1))
    (first
      | go_keep
      | (go_split_ands
         exact ⟨cell_later hb1 (by assumption), cell_later hb1 (by assumption), cell_later hb1 (by assumption)⟩))
    ((go_at_call 78; refine (HF.out.drew.prog.atom_any q1 hl).mono ?_; rintro e w1 ⟨rfl, hb1⟩))
  have hb2 : Below w.heap.size w w1 := ⟨hb1.os, hb1.tape, hb1.output, hb1.size, hb1.block⟩
  have F1 := hid (HF.out.below hb2)
  have S1 := hid (HS.out.of_block (hb2.block sb hsl))
  have W1 : Hid (Frm 0 (fun k => k = R ∨ k = sb) w w1) := Frm.ofBelow hb2 (Nat.zero_le _)
  have g0 := cell_later hb2 HC0.out
  have z1 := hb2.size
  clear hb1 hb2 s0 r0
  have r2 := F1.out.row.cell (i := 2) (by omega)
  have r3 := F1.out.row.cell (i := 3) (by omega)
  have f2 := F1.out.row.frozen 2
  have f3 := F1.out.row.frozen 3
  rw [show fst_ P gl cl L.length s 2 = .int .i64 s.at_ from rfl] at r2
  rw [show fst_ P gl cl L.length s 3 = .int .i64 s.cnt from rfl] at r3
  go_wp2_with (first | (go_at_call 28; refine (HI.out _ base P R l { s with cnt := s.cnt + 1, at_ := s.at_ + 1 } vn vk vz vb (((F1.out.put 3 _).put 2 _).congr (fun i hi => fst_up2 P gl cl L.length s i hi)) HD.out HBD.out (by show L.length ≤ s.at_ + 1 + 1 + f; omega) (by exact hat) (by show s.cnt + 1 ≤ 12; omega) hl hL).mono ?_; rintro e w3 ⟨ad, n, c, rfl, F3, K3, T3⟩; rw [HO1.out] at F3; rw [HO1.out]; have S3 := ((S1.out.setOther hsR _).setOther hsR _).of_block (K3.keep sb (by simp; omega) hsR); have G3 := K3.cell (p := ⟨gw, 0, none⟩) (cell_set (cell_set g0 hgR _) hgR _) hgR; have b1c := S3.cell (i := 1) (by omega); have b1f := S3.frozen 1; have HF3 := hid F3; have HK3 := hid K3; clear T3; have HS3 := hid S3; have z3 := K3.bel.size; simp at z3; clear F3 K3 S3))
  have t1 := (HF3.out.setOther (b := sb) (i := 1) hsb (.slice ad n c)).row.cell (i := 1) (by omega)
  have t2 := (HF3.out.setOther (b := sb) (i := 1) hsb (.slice ad n c)).row.cell (i := 2) (by omega)
  have t2f := (HF3.out.setOther (b := sb) (i := 1) hsb (.slice ad n c)).row.frozen 2
  have tl := (HF3.out.setOther (b := sb) (i := 1) hsb (.slice ad n c)).lin s2.at_ hl2
  have tw := (HS3.out.set 1 (.slice ad n c)).cell (i := 0) (by omega)
  have tg := cell_set (i := 1) G3 hgs (.slice ad n c)
  rw [show fst_ P gl cl L.length s2 1 = .slice (some ⟨gl, 0, none⟩) L.length cl from rfl] at t1
  rw [show fst_ P gl cl L.length s2 2 = .int .i64 s2.at_ from rfl] at t2
  rw [HQ.out] at tl
  simp only [show ¬ (0 = 1) by omega, if_false, show scell gw 2 cw (.slice none 0 0) (.slice none 0 0) 0 = .slice (some ⟨gw, 0, none⟩) 2 cw from rfl] at tw
  have F4 := hid (HF3.out.setOther (b := sb) (i := 1) hsb (.slice ad n c))
  have S4 := hid (HS3.out.set 1 (.slice ad n c))
  have K4 : Hid (Frm 0 (fun k => k = R ∨ k = sb) w (w3.setCell ⟨sb, 1, none⟩ (.slice ad n c))) := ((((W1.out.setCell (Nat.zero_le _) (.inl rfl) _).setCell (Nat.zero_le _) (.inl rfl) _).trans HK3.out (fun k _ hk => .inl hk)).setCell (Nat.zero_le _) (.inr rfl) _)
  have z4 : (w3.setCell ⟨sb, 1, none⟩ (.slice ad n c)).heap.size = w3.heap.size := by simp
  generalize w3.setCell ⟨sb, 1, none⟩ (.slice ad n c) = w4 at t1 t2 t2f tl tw tg F4 S4 K4 z4 ⊢
  go_quiet (fail)
  go_wp2_with (first | (go_at_call 28; refine (HI.out _ base P R l { s2 with at_ := s2.at_ + 1 } vn vk vz vb (((F4.out.drewN _).put 2 _).congr (fun i hi => fst_up P gl cl L.length s2 i hi)) HD2.out HB2D.out (by show L.length ≤ s2.at_ + 1 + 1 + f; omega) (by exact hm2) (by exact hc2) hl hL).mono ?_; rintro e w5 ⟨ad2, n2, c2, rfl, F5, K5, T5⟩; rw [HO2.out] at F5; rw [HO2.out]; have S5 := ((S4.out.of_block (w' := w4.drewN nq) rfl).setOther hsR _).of_block (K5.keep sb (by simp; omega) hsR); have b2c := S5.cell (i := 2) (by omega); have b2f := S5.frozen 2; have HF5 := hid F5; have HK5 := hid K5; clear T5; clear F5 K5 S5))
  go_quiet (fail)
  go_wp2_with fail
  go_ret
  exact ⟨rfl, (HF5.out.setOther hsb _).drewN _, ((((K4.out.drewN _).setCell (Nat.zero_le _) (.inl rfl) _).trans HK5.out (fun k _ hk => .inl hk)).setCell (Nat.zero_le _) (.inr rfl) _).drewN _, fun h => absurd h (by simp)⟩
set_option maxRecDepth 100000 in
set_option maxHeartbeats 1000000 in
theorem nest_again (F : FRep w base P R l (fst_ P gl cl L.length s) L gl vn vk vz vb) (hl : l.length ≤ 1000) (hL : L.length ≤ 1000) (hS : w.rowIs sb 125 3 (scell gw 2 cw (.slice none 0 0) (.slice none 0 0))) (q0 q1 : ByteArray) (c0 : w.cell? ⟨gw, 0, none⟩ = some (.string q0)) (c1 : w.cell? ⟨gw, 1, none⟩ = some (.string q1)) (hd : d < 4) (hsb : ¬ Stand P R gl vn vk vz sb) (hgR : gw ≠ R) (hgs : gw ≠ sb) (ha : Rf.atom (dcs l) q1.toList = true) (hds : s.ds = dcs l) (hbd : s.bdy = true) (hfu : L.length ≤ s.at_ + 1 + (f + 1)) (hat : s.at_ + 1 < L.length) (hcn : s.cnt < 12) (IH : BlockOk L gl cl (d + 1)) (s2 : Rf.Rs) (ho1 : (Rf.blkS (L.map ByteArray.toList) f (d + 1) { s with cnt := s.cnt + 1, at_ := s.at_ + 1 }) = (true, s2)) (hl2 : s2.at_ < L.length) (q : ByteArray) (hq : L.getD s2.at_ ByteArray.empty = q) (he : (q.toList == [101, 108, 115, 101]) = true) (hi : (q0.toList == [105, 102]) = true) (hm2 : s2.at_ + 1 < L.length) (hg2 : s.at_ + 1 ≤ s2.at_) (hc2 : s2.cnt ≤ 12) (hb2d : s2.bdy = true) (hd2 : s2.ds = dcs l) (s3 : Rf.Rs) (ho2 : (Rf.blkS (L.map ByteArray.toList) f (d + 1) { s2 with at_ := s2.at_ + 1 }) = (true, s3)) (hl3 : s3.at_ < L.length) (q3 : ByteArray) (hq3 : L.getD s3.at_ ByteArray.empty = q3) (he3 : (q3.toList == [101, 108, 115, 101]) = true) :
    Calls Tryd.prog 51 #[.pointer (some ⟨R, 0, none⟩), .pointer (some ⟨sb, 0, none⟩), .int .i64 d] w fun e w' => NestPost w w' base P R gl cl l L vn vk vz vb sb gw 2 cw TB TO e (false, s3) := by
  have hsl := hS.lt
  have hRl := F.row.lt
  have hsR : sb ≠ R := fun e => hsb (.inl e)
  have s0 := hS.cell (i := 0) (by omega)
  rw [show scell gw 2 cw (.slice none 0 0) (.slice none 0 0) 0 = .slice (some ⟨gw, 0, none⟩) 2 cw from rfl] at s0
  have r0 := F.row.cell (i := 0) (by omega)
  rw [show fst_ P gl cl L.length s 0 = .pointer (some ⟨P, 0, none⟩) from rfl] at r0
  have hdI : (d : Int) < 4 := by omega
  have hdJ : ((d : Int) == 4) = false := by simp; omega
  have HS := hid hS
  have HF := hid F
  have HC0 := hid c0
  clear hS F
  have HI := hid (IH f)
  have HO1 := hid ho1
  have hatI : (s.at_ : Int) + 1 < 1000 := by omega
  have hcnI : (s.cnt : Int) < 12 := by omega
  have HD := hid hds
  have HBD := hid hbd
  clear IH ho1 hds hbd
  have HQ := hid hq
  clear hq
  have h2I : (s2.at_ : Int) < (L.length : Int) := by omega
  have h2J : (s2.at_ : Int) + 1 ≤ 1000 := by omega
  have h2K : (0 : Int) ≤ (s2.at_ : Int) := by omega
  have HO2 := hid ho2
  have HQ3 := hid hq3
  have h3I : (s3.at_ : Int) < (L.length : Int) := by omega
  have h3J : (s3.at_ : Int) + 1 ≤ 1000 := by omega
  have h3K : (0 : Int) ≤ (s3.at_ : Int) := by omega
  clear hq3
  have HB2D := hid hb2d
  have HD2 := hid hd2
  clear ho2 hb2d hd2
  go_enter Tryd.func51, Tryd.ntmps51
  go_wp2_with fail
  go_region_held3 (fun w' => w'.cell? ⟨R, 0, none⟩ = some (.pointer (some ⟨P, 0, none⟩)) ∧ w'.cell? ⟨sb, 0, none⟩ = some (.slice (some ⟨gw, 0, none⟩) 2 cw) ∧ w'.cell? ⟨gw, 1, none⟩ = some (.string q1))
    (first
      | go_keep
      | (go_split_ands
         exact ⟨cell_later hb1 (by assumption), cell_later hb1 (by assumption), cell_later hb1 (by assumption)⟩))
    ((go_at_call 78; refine (HF.out.drew.prog.atom_any q1 hl).mono ?_; rintro e w1 ⟨rfl, hb1⟩))
  have hb2 : Below w.heap.size w w1 := ⟨hb1.os, hb1.tape, hb1.output, hb1.size, hb1.block⟩
  have F1 := hid (HF.out.below hb2)
  have S1 := hid (HS.out.of_block (hb2.block sb hsl))
  have W1 : Hid (Frm 0 (fun k => k = R ∨ k = sb) w w1) := Frm.ofBelow hb2 (Nat.zero_le _)
  have g0 := cell_later hb2 HC0.out
  have z1 := hb2.size
  clear hb1 hb2 s0 r0
  have r2 := F1.out.row.cell (i := 2) (by omega)
  have r3 := F1.out.row.cell (i := 3) (by omega)
  have f2 := F1.out.row.frozen 2
  have f3 := F1.out.row.frozen 3
  rw [show fst_ P gl cl L.length s 2 = .int .i64 s.at_ from rfl] at r2
  rw [show fst_ P gl cl L.length s 3 = .int .i64 s.cnt from rfl] at r3
  go_wp2_with (first | (go_at_call 28; refine (HI.out _ base P R l { s with cnt := s.cnt + 1, at_ := s.at_ + 1 } vn vk vz vb (((F1.out.put 3 _).put 2 _).congr (fun i hi => fst_up2 P gl cl L.length s i hi)) HD.out HBD.out (by show L.length ≤ s.at_ + 1 + 1 + f; omega) (by exact hat) (by show s.cnt + 1 ≤ 12; omega) hl hL).mono ?_; rintro e w3 ⟨ad, n, c, rfl, F3, K3, T3⟩; rw [HO1.out] at F3; rw [HO1.out]; have S3 := ((S1.out.setOther hsR _).setOther hsR _).of_block (K3.keep sb (by simp; omega) hsR); have G3 := K3.cell (p := ⟨gw, 0, none⟩) (cell_set (cell_set g0 hgR _) hgR _) hgR; have b1c := S3.cell (i := 1) (by omega); have b1f := S3.frozen 1; have HF3 := hid F3; have HK3 := hid K3; clear T3; have HS3 := hid S3; have z3 := K3.bel.size; simp at z3; clear F3 K3 S3))
  have t1 := (HF3.out.setOther (b := sb) (i := 1) hsb (.slice ad n c)).row.cell (i := 1) (by omega)
  have t2 := (HF3.out.setOther (b := sb) (i := 1) hsb (.slice ad n c)).row.cell (i := 2) (by omega)
  have t2f := (HF3.out.setOther (b := sb) (i := 1) hsb (.slice ad n c)).row.frozen 2
  have tl := (HF3.out.setOther (b := sb) (i := 1) hsb (.slice ad n c)).lin s2.at_ hl2
  have tw := (HS3.out.set 1 (.slice ad n c)).cell (i := 0) (by omega)
  have tg := cell_set (i := 1) G3 hgs (.slice ad n c)
  rw [show fst_ P gl cl L.length s2 1 = .slice (some ⟨gl, 0, none⟩) L.length cl from rfl] at t1
  rw [show fst_ P gl cl L.length s2 2 = .int .i64 s2.at_ from rfl] at t2
  rw [HQ.out] at tl
  simp only [show ¬ (0 = 1) by omega, if_false, show scell gw 2 cw (.slice none 0 0) (.slice none 0 0) 0 = .slice (some ⟨gw, 0, none⟩) 2 cw from rfl] at tw
  have F4 := hid (HF3.out.setOther (b := sb) (i := 1) hsb (.slice ad n c))
  have S4 := hid (HS3.out.set 1 (.slice ad n c))
  have K4 : Hid (Frm 0 (fun k => k = R ∨ k = sb) w (w3.setCell ⟨sb, 1, none⟩ (.slice ad n c))) := ((((W1.out.setCell (Nat.zero_le _) (.inl rfl) _).setCell (Nat.zero_le _) (.inl rfl) _).trans HK3.out (fun k _ hk => .inl hk)).setCell (Nat.zero_le _) (.inr rfl) _)
  have z4 : (w3.setCell ⟨sb, 1, none⟩ (.slice ad n c)).heap.size = w3.heap.size := by simp
  generalize w3.setCell ⟨sb, 1, none⟩ (.slice ad n c) = w4 at t1 t2 t2f tl tw tg F4 S4 K4 z4 ⊢
  go_quiet (fail)
  go_wp2_with (first | (go_at_call 28; refine (HI.out _ base P R l { s2 with at_ := s2.at_ + 1 } vn vk vz vb (((F4.out.drewN _).put 2 _).congr (fun i hi => fst_up P gl cl L.length s2 i hi)) HD2.out HB2D.out (by show L.length ≤ s2.at_ + 1 + 1 + f; omega) (by exact hm2) (by exact hc2) hl hL).mono ?_; rintro e w5 ⟨ad2, n2, c2, rfl, F5, K5, T5⟩; rw [HO2.out] at F5; rw [HO2.out]; have S5 := ((S4.out.of_block (w' := w4.drewN nq) rfl).setOther hsR _).of_block (K5.keep sb (by simp; omega) hsR); have b2c := S5.cell (i := 2) (by omega); have b2f := S5.frozen 2; have HF5 := hid F5; have HK5 := hid K5; clear T5; clear F5 K5 S5))
  have t1 := (HF5.out.setOther (b := sb) (i := 2) hsb (.slice ad2 n2 c2)).row.cell (i := 1) (by omega)
  have t2 := (HF5.out.setOther (b := sb) (i := 2) hsb (.slice ad2 n2 c2)).row.cell (i := 2) (by omega)
  have t2f := (HF5.out.setOther (b := sb) (i := 2) hsb (.slice ad2 n2 c2)).row.frozen 2
  have tl := (HF5.out.setOther (b := sb) (i := 2) hsb (.slice ad2 n2 c2)).lin s3.at_ hl3
  rw [show fst_ P gl cl L.length s3 1 = .slice (some ⟨gl, 0, none⟩) L.length cl from rfl] at t1
  rw [show fst_ P gl cl L.length s3 2 = .int .i64 s3.at_ from rfl] at t2
  rw [HQ3.out] at tl
  have F6 := hid (HF5.out.setOther (b := sb) (i := 2) hsb (.slice ad2 n2 c2))
  have K6 : Hid (Frm 0 (fun k => k = R ∨ k = sb) w (w5.setCell ⟨sb, 2, none⟩ (.slice ad2 n2 c2))) := ((((K4.out.drewN _).setCell (Nat.zero_le _) (.inl rfl) _).trans HK5.out (fun k _ hk => .inl hk)).setCell (Nat.zero_le _) (.inr rfl) _)
  generalize w5.setCell ⟨sb, 2, none⟩ (.slice ad2 n2 c2) = w6 at t1 t2 t2f tl F6 K6 ⊢
  go_quiet (fail)
  go_wp2_with fail
  go_ret
  exact ⟨rfl, F6.out.drewN _, K6.out.drewN _, fun h => absurd h (by simp)⟩
set_option maxRecDepth 100000 in
set_option maxHeartbeats 1000000 in
theorem nest_both (F : FRep w base P R l (fst_ P gl cl L.length s) L gl vn vk vz vb) (hl : l.length ≤ 1000) (hL : L.length ≤ 1000) (hS : w.rowIs sb 125 3 (scell gw 2 cw (.slice none 0 0) (.slice none 0 0))) (q0 q1 : ByteArray) (c0 : w.cell? ⟨gw, 0, none⟩ = some (.string q0)) (c1 : w.cell? ⟨gw, 1, none⟩ = some (.string q1)) (hd : d < 4) (hsb : ¬ Stand P R gl vn vk vz sb) (hgR : gw ≠ R) (hgs : gw ≠ sb) (ha : Rf.atom (dcs l) q1.toList = true) (hds : s.ds = dcs l) (hbd : s.bdy = true) (hfu : L.length ≤ s.at_ + 1 + (f + 1)) (hat : s.at_ + 1 < L.length) (hcn : s.cnt < 12) (IH : BlockOk L gl cl (d + 1)) (s2 : Rf.Rs) (ho1 : (Rf.blkS (L.map ByteArray.toList) f (d + 1) { s with cnt := s.cnt + 1, at_ := s.at_ + 1 }) = (true, s2)) (hl2 : s2.at_ < L.length) (q : ByteArray) (hq : L.getD s2.at_ ByteArray.empty = q) (he : (q.toList == [101, 108, 115, 101]) = true) (hi : (q0.toList == [105, 102]) = true) (hm2 : s2.at_ + 1 < L.length) (hg2 : s.at_ + 1 ≤ s2.at_) (hc2 : s2.cnt ≤ 12) (hb2d : s2.bdy = true) (hd2 : s2.ds = dcs l) (s3 : Rf.Rs) (ho2 : (Rf.blkS (L.map ByteArray.toList) f (d + 1) { s2 with at_ := s2.at_ + 1 }) = (true, s3)) (hl3 : s3.at_ < L.length) (q3 : ByteArray) (hq3 : L.getD s3.at_ ByteArray.empty = q3) (he3 : (q3.toList == [101, 108, 115, 101]) = false) :
    Calls Tryd.prog 51 #[.pointer (some ⟨R, 0, none⟩), .pointer (some ⟨sb, 0, none⟩), .int .i64 d] w fun e w' => NestPost w w' base P R gl cl l L vn vk vz vb sb gw 2 cw (Rf.bodyT (L.map ByteArray.toList) f d s) (Rf.otherT (L.map ByteArray.toList) f d s) e (true, { s3 with at_ := s3.at_ + 1 }) := by
  have hsl := hS.lt
  have hRl := F.row.lt
  have hsR : sb ≠ R := fun e => hsb (.inl e)
  have s0 := hS.cell (i := 0) (by omega)
  rw [show scell gw 2 cw (.slice none 0 0) (.slice none 0 0) 0 = .slice (some ⟨gw, 0, none⟩) 2 cw from rfl] at s0
  have r0 := F.row.cell (i := 0) (by omega)
  rw [show fst_ P gl cl L.length s 0 = .pointer (some ⟨P, 0, none⟩) from rfl] at r0
  have hdI : (d : Int) < 4 := by omega
  have hdJ : ((d : Int) == 4) = false := by simp; omega
  have HS := hid hS
  have HF := hid F
  have HC0 := hid c0
  clear hS F
  have HI := hid (IH f)
  have HO1 := hid ho1
  have ho1' := ho1
  have hatI : (s.at_ : Int) + 1 < 1000 := by omega
  have hcnI : (s.cnt : Int) < 12 := by omega
  have HD := hid hds
  have HBD := hid hbd
  clear IH ho1 hds hbd
  have HQ := hid hq
  clear hq
  have h2I : (s2.at_ : Int) < (L.length : Int) := by omega
  have h2J : (s2.at_ : Int) + 1 ≤ 1000 := by omega
  have h2K : (0 : Int) ≤ (s2.at_ : Int) := by omega
  have HO2 := hid ho2
  have HOT := hid (Rf.otherT_some ho1' (show _ = Rf.wElse by rw [line_map, HQ.out]; exact eq_of_beq he))
  have HQ3 := hid hq3
  have h3I : (s3.at_ : Int) < (L.length : Int) := by omega
  have h3J : (s3.at_ : Int) + 1 ≤ 1000 := by omega
  have h3K : (0 : Int) ≤ (s3.at_ : Int) := by omega
  clear hq3
  have HB2D := hid hb2d
  have HD2 := hid hd2
  clear ho2 hb2d hd2 ho1'
  go_enter Tryd.func51, Tryd.ntmps51
  go_wp2_with fail
  go_region_held3 (fun w' => w'.cell? ⟨R, 0, none⟩ = some (.pointer (some ⟨P, 0, none⟩)) ∧ w'.cell? ⟨sb, 0, none⟩ = some (.slice (some ⟨gw, 0, none⟩) 2 cw) ∧ w'.cell? ⟨gw, 1, none⟩ = some (.string q1))
    (first
      | go_keep
      | (go_split_ands
         exact ⟨cell_later hb1 (by assumption), cell_later hb1 (by assumption), cell_later hb1 (by assumption)⟩))
    ((go_at_call 78; refine (HF.out.drew.prog.atom_any q1 hl).mono ?_; rintro e w1 ⟨rfl, hb1⟩))
  have hb2 : Below w.heap.size w w1 := ⟨hb1.os, hb1.tape, hb1.output, hb1.size, hb1.block⟩
  have F1 := hid (HF.out.below hb2)
  have S1 := hid (HS.out.of_block (hb2.block sb hsl))
  have W1 : Hid (Frm 0 (fun k => k = R ∨ k = sb) w w1) := Frm.ofBelow hb2 (Nat.zero_le _)
  have g0 := cell_later hb2 HC0.out
  have z1 := hb2.size
  clear hb1 hb2 s0 r0
  have r2 := F1.out.row.cell (i := 2) (by omega)
  have r3 := F1.out.row.cell (i := 3) (by omega)
  have f2 := F1.out.row.frozen 2
  have f3 := F1.out.row.frozen 3
  rw [show fst_ P gl cl L.length s 2 = .int .i64 s.at_ from rfl] at r2
  rw [show fst_ P gl cl L.length s 3 = .int .i64 s.cnt from rfl] at r3
  go_wp2_with (first | (go_at_call 28; refine (HI.out _ base P R l { s with cnt := s.cnt + 1, at_ := s.at_ + 1 } vn vk vz vb (((F1.out.put 3 _).put 2 _).congr (fun i hi => fst_up2 P gl cl L.length s i hi)) HD.out HBD.out (by show L.length ≤ s.at_ + 1 + 1 + f; omega) (by exact hat) (by show s.cnt + 1 ≤ 12; omega) hl hL).mono ?_; rintro e w3 ⟨ad, n, c, rfl, F3, K3, T3⟩; rw [HO1.out] at F3; rw [HO1.out]; have S3 := ((S1.out.setOther hsR _).setOther hsR _).of_block (K3.keep sb (by simp; omega) hsR); have G3 := K3.cell (p := ⟨gw, 0, none⟩) (cell_set (cell_set g0 hgR _) hgR _) hgR; have b1c := S3.cell (i := 1) (by omega); have b1f := S3.frozen 1; have HF3 := hid F3; have HK3 := hid K3; have HT3 := hid (T3 (by rw [HO1.out])); clear T3; have HS3 := hid S3; have z3 := K3.bel.size; simp at z3; clear F3 K3 S3))
  have t1 := (HF3.out.setOther (b := sb) (i := 1) hsb (.slice ad n c)).row.cell (i := 1) (by omega)
  have t2 := (HF3.out.setOther (b := sb) (i := 1) hsb (.slice ad n c)).row.cell (i := 2) (by omega)
  have t2f := (HF3.out.setOther (b := sb) (i := 1) hsb (.slice ad n c)).row.frozen 2
  have tl := (HF3.out.setOther (b := sb) (i := 1) hsb (.slice ad n c)).lin s2.at_ hl2
  have tw := (HS3.out.set 1 (.slice ad n c)).cell (i := 0) (by omega)
  have tg := cell_set (i := 1) G3 hgs (.slice ad n c)
  rw [show fst_ P gl cl L.length s2 1 = .slice (some ⟨gl, 0, none⟩) L.length cl from rfl] at t1
  rw [show fst_ P gl cl L.length s2 2 = .int .i64 s2.at_ from rfl] at t2
  rw [HQ.out] at tl
  simp only [show ¬ (0 = 1) by omega, if_false, show scell gw 2 cw (.slice none 0 0) (.slice none 0 0) 0 = .slice (some ⟨gw, 0, none⟩) 2 cw from rfl] at tw
  have F4 := hid (HF3.out.setOther (b := sb) (i := 1) hsb (.slice ad n c))
  have S4 := hid (HS3.out.set 1 (.slice ad n c))
  have K4 : Hid (Frm 0 (fun k => k = R ∨ k = sb) w (w3.setCell ⟨sb, 1, none⟩ (.slice ad n c))) := ((((W1.out.setCell (Nat.zero_le _) (.inl rfl) _).setCell (Nat.zero_le _) (.inl rfl) _).trans HK3.out (fun k _ hk => .inl hk)).setCell (Nat.zero_le _) (.inr rfl) _)
  have T4 : Hid (Sub (w3.setCell ⟨sb, 1, none⟩ (.slice ad n c)) (NewB w (w3.setCell ⟨sb, 1, none⟩ (.slice ad n c))) (.slice ad n c) (Rf.bodyT (L.map ByteArray.toList) f d s)) := (HT3.out.low (by simp; omega)).set hsl _
  have z4 : (w3.setCell ⟨sb, 1, none⟩ (.slice ad n c)).heap.size = w3.heap.size := by simp
  generalize w3.setCell ⟨sb, 1, none⟩ (.slice ad n c) = w4 at t1 t2 t2f tl tw tg F4 S4 K4 z4 T4 ⊢
  go_quiet (fail)
  go_wp2_with (first | (go_at_call 28; refine (HI.out _ base P R l { s2 with at_ := s2.at_ + 1 } vn vk vz vb (((F4.out.drewN _).put 2 _).congr (fun i hi => fst_up P gl cl L.length s2 i hi)) HD2.out HB2D.out (by show L.length ≤ s2.at_ + 1 + 1 + f; omega) (by exact hm2) (by exact hc2) hl hL).mono ?_; rintro e w5 ⟨ad2, n2, c2, rfl, F5, K5, T5⟩; rw [HO2.out] at F5; rw [HO2.out]; have S5 := ((S4.out.of_block (w' := w4.drewN nq) rfl).setOther hsR _).of_block (K5.keep sb (by simp; omega) hsR); have b2c := S5.cell (i := 2) (by omega); have b2f := S5.frozen 2; have HF5 := hid F5; have HK5 := hid K5; have HT5 := hid (T5 (by rw [HO2.out])); have HS5 := hid S5; clear T5; clear F5 K5 S5))
  have t1 := (HF5.out.setOther (b := sb) (i := 2) hsb (.slice ad2 n2 c2)).row.cell (i := 1) (by omega)
  have t2 := (HF5.out.setOther (b := sb) (i := 2) hsb (.slice ad2 n2 c2)).row.cell (i := 2) (by omega)
  have t2f := (HF5.out.setOther (b := sb) (i := 2) hsb (.slice ad2 n2 c2)).row.frozen 2
  have tl := (HF5.out.setOther (b := sb) (i := 2) hsb (.slice ad2 n2 c2)).lin s3.at_ hl3
  rw [show fst_ P gl cl L.length s3 1 = .slice (some ⟨gl, 0, none⟩) L.length cl from rfl] at t1
  rw [show fst_ P gl cl L.length s3 2 = .int .i64 s3.at_ from rfl] at t2
  rw [HQ3.out] at tl
  have F6 := hid (HF5.out.setOther (b := sb) (i := 2) hsb (.slice ad2 n2 c2))
  have K6 : Hid (Frm 0 (fun k => k = R ∨ k = sb) w (w5.setCell ⟨sb, 2, none⟩ (.slice ad2 n2 c2))) := ((((K4.out.drewN _).setCell (Nat.zero_le _) (.inl rfl) _).trans HK5.out (fun k _ hk => .inl hk)).setCell (Nat.zero_le _) (.inr rfl) _)
  have T6 : Hid (Sub (w5.setCell ⟨sb, 2, none⟩ (.slice ad2 n2 c2)) (NewB w (w5.setCell ⟨sb, 2, none⟩ (.slice ad2 n2 c2))) (.slice ad n c) (Rf.bodyT (L.map ByteArray.toList) f d s)) := (((T4.out.drewN _).set hRl _).frm HK5.out hRl).set hsl _
  have U6 : Hid (Sub (w5.setCell ⟨sb, 2, none⟩ (.slice ad2 n2 c2)) (NewB w (w5.setCell ⟨sb, 2, none⟩ (.slice ad2 n2 c2))) (.slice ad2 n2 c2) (Rf.otherT (L.map ByteArray.toList) f d s)) := by
    rw [HOT.out]
    exact (HT5.out.low (by simp; omega)).set hsl _
  have S6 := hid ((HS5.out.set 2 (.slice ad2 n2 c2)).congr (fun i hi => scell_both gw 2 cw (.slice ad n c) (.slice ad2 n2 c2) i hi))
  generalize w5.setCell ⟨sb, 2, none⟩ (.slice ad2 n2 c2) = w6 at t1 t2 t2f tl F6 K6 T6 U6 S6 ⊢
  go_quiet (fail)
  go_wp2_with fail
  go_ret
  exact ⟨rfl, ((F6.out.drewN _).put 2 _).congr (fun i hi => fst_up P gl cl L.length s3 i hi), (K6.out.drewN _).setCell (Nat.zero_le _) (.inl rfl) _, fun _ => ⟨_, _, (S6.out.of_block (w' := w6.drewN _) rfl).setOther hsR _, (T6.out.drewN _).set hRl _, (U6.out.drewN _).set hRl _⟩⟩
end
end Go.Proofs.YtgddmpmcnjlcjabDoor
