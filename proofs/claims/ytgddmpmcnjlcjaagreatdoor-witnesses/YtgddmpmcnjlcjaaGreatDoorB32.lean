import Derived.Test.YtgddmpmcnjlcjaaGreatDoorB31
import Derived.Test.YtgddmpmcnjlcjaaGreatDoorB28
import Derived.Test.YtgddmpmcnjlcjaaGreatDoorB30
namespace Go.Proofs.YtgddmpmcnjlcjaaGreatDoor
open Go.RowKit
set_option linter.unusedVariables false
section
variable {R P gn cn : Nat} {ns : List ByteArray} {gv cv : Nat} {vals : Nat → Nat} {gs cs gc cc : Nat} {ga : Nat → Nat} {sz : Nat → Nat} {cel : Nat → Nat → Nat} {w : World}
set_option maxRecDepth 100000 in
set_option maxHeartbeats 400000 in
theorem cell_store (d : RD R P gn cn ns gv cv vals w) (c : RC R P ns.length gs cs gc cc ga sz cel w) (gw cw : Nat) (w0 w1 w2 w3 : ByteArray) (hw : Wds w gw [w0, w1, w2, w3]) (h0 : w0.toList = Rf.wStore) (n1 : isNm ns w1) (n2 : isAtm ns w2) (n3 : isAtm ns w3) (hx : nval ns vals w2 < 16) (hge : nval ns vals w2 < sz (nix ns w1)) :
    Calls Tryz.prog 89 #[.pointer (some ⟨R, 0, none⟩), .slice (some ⟨gw, 0, none⟩) 4 cw] w fun e w' => e = .returned (.int .i64 ((32 + nval ns vals w2 : Nat) : Int)) ∧ ∃ m1 m2, w' = ((w.drewN m1).setCell ⟨ga (nix ns w1), nval ns vals w2, none⟩ (.int .i64 (nval ns vals w3))).drewN m2 := by
  have W0 := hw 0 (by simp)
  have W1 := hw 1 (by simp)
  have W2 := hw 2 (by simp)
  have W3 := hw 3 (by simp)
  simp only [List.getD_cons_zero, List.getD_cons_succ] at W0 W1 W2 W3
  have I1 : Hid (Calls Tryz.prog 91 #[.pointer (some ⟨R, 0, none⟩), .string w1] w fun e w' => e = .returned (.int .i64 (nix ns w1)) ∧ w' = w) := ridx d n1
  have V2 : Hid (Calls Tryz.prog 88 #[.pointer (some ⟨R, 0, none⟩), .string w2] w fun e w' => e = .returned (.int .i64 (nval ns vals w2)) ∧ ∃ m', w' = w.drewN m') := rval d n2
  have V3 : Hid (∀ m : Nat, Calls Tryz.prog 88 #[.pointer (some ⟨R, 0, none⟩), .string w3] (w.drewN m) fun e w' => e = .returned (.int .i64 (nval ns vals w3)) ∧ ∃ m', w' = (w.drewN m).drewN m') := fun m => rval (d.drew m) n3
  have hi2 := n1.at.2
  have S0 := c.s0
  have S1 := c.hs _ hi2
  have c0 := d.c0
  have f4 := c.f4
  obtain ⟨b, b4⟩ := c.b4
  have hE : w0.toList = [115, 116, 111, 114, 101] := h0
  have hiI : (nix ns w1 : Int) < (ns.length : Int) := by omega
  have hxI : (nval ns vals w2 : Int) < 16 := by omega
  have hgI : (nval ns vals w2 : Int) < (sz (nix ns w1) : Int) := by omega
  have A0 := c.a0
  have A1 := c.ha _ hi2
  have A2 := c.hc _ _ hi2 hge
  have A3 := c.fc _ _ hi2 hge
  clear hw n1 n2 n3 d c h0
  go_enter Tryz.func89, Tryz.ntmps89
  go_wp2_with (first
    | (go_at_call_of 91 (Value.string w1); refine I1.out.mono ?_; rintro e w' ⟨rfl, hw'⟩; have hw1 := hw'.symm; subst hw1)
    | (go_at_call_of 88 (Value.string w2); refine V2.out.mono ?_; rintro e w' ⟨rfl, m1, hw'⟩; subst hw')
    | (go_at_call_of 88 (Value.string w3); refine (V3.out _).mono ?_; rintro e w' ⟨rfl, m2, hw'⟩; subst hw')
    | (go_at_call 85; refine (ritem_any 2 _ _ (by omega) hx).mono ?_; rintro e w' ⟨rfl, hw'⟩; subst hw'))
  go_ret
  exact ⟨by push_cast; rfl, _, 0, rfl⟩
end
end Go.Proofs.YtgddmpmcnjlcjaaGreatDoor
namespace Go.Proofs.YtgddmpmcnjlcjaaGreatDoor.Tm
open Lk (Wd wd RS isName lat cut bodyAt num? oper?)
open Rf (Rs blk isDecl declare wElse wEnd wIf wWhile wSecret wPublic wVar wArray fits atom scalar kindOf)
set_option linter.unusedVariables false
inductive TsOk (ds : List Rf.Dc) : List Rf.Tr → Prop
  | nil : TsOk ds []
  | plain {w : List Wd} {ts : List Rf.Tr} (h : fits ds w = true) (hn : ¬ (wd w 0 = wIf ∨ wd w 0 = wWhile)) (hr : TsOk ds ts) : TsOk ds (.node w [] [] :: ts)
  | cond {w : List Wd} {b o ts : List Rf.Tr} (h2 : w.length = 2) (ha : atom ds (wd w 1) = true) (hw : wd w 0 = wIf ∨ wd w 0 = wWhile) (hb : TsOk ds b) (ho : TsOk ds o) (hr : TsOk ds ts) : TsOk ds (.node w b o :: ts)
theorem TsOk.append {ds : List Rf.Dc} {a b : List Rf.Tr} (h : TsOk ds a) (h2 : TsOk ds b) : TsOk ds (a ++ b) := by
  induction h with
  | nil => exact h2
  | plain h hn hr ih => exact .plain h hn ih
  | cond h2 ha hw hb ho hr ihb iho ih => exact .cond h2 ha hw hb ho ih
theorem blk_atom {L : List Wd} {f depth : Nat} {s : Rs} {out out2 : List Rf.Tr} {s2 : Rs} (h : blk L (f + 1) depth s out = (true, out2, s2)) (hl : s.at_ + 1 < L.length) (hd : isDecl (wd (cut 32 (L.getD s.at_ [])) 0) = false) (hi : wd (cut 32 (L.getD s.at_ [])) 0 = wIf ∨ wd (cut 32 (L.getD s.at_ [])) 0 = wWhile) :
    atom s.ds (wd (cut 32 (L.getD s.at_ [])) 1) = true := by
  unfold blk at h
  rw [if_pos hl] at h
  generalize cut 32 (L.getD s.at_ []) = w at h hd hi
  simp only at h
  rw [if_neg (by rw [hd]; simp)] at h
  have he : ¬ (wd w 0 = wElse ∨ wd w 0 = wEnd) := by
    intro c
    rcases hi with hi | hi <;> rcases c with c | c <;> rw [hi] at c <;> revert c <;> decide
  rw [if_neg he] at h
  by_cases h12 : s.cnt = 12
  · rw [if_pos h12] at h; cases h
  · rw [if_neg h12, if_pos hi] at h
    cases ha : atom s.ds (wd w 1) with
    | true => rfl
    | false => rw [if_neg (fun c => by rw [ha] at c; simp at c)] at h; cases h
theorem blk_ok {L : List Wd} {f : Nat} : ∀ {depth : Nat} {s : Rs} {out out2 : List Rf.Tr} {s2 : Rs}, blk L f depth s out = (true, out2, s2) → TsOk s.ds out → (s.bdy = false → out = []) → TsOk s2.ds out2 ∧ (s.bdy = true → s2.ds = s.ds ∧ s2.bdy = true) := by
  induction f with
  | zero =>
    intro depth s out out2 s2 h h1 h2
    obtain ⟨_, e1, e2⟩ := blk_end h (.inl rfl)
    rw [e1, e2]; exact ⟨h1, fun e => ⟨rfl, e⟩⟩
  | succ f ih =>
    intro depth s out out2 s2 h hk hn
    by_cases hl : s.at_ + 1 < L.length
    · have hat := blk_atom h hl
      cases blk_way h hl with
      | decl ds h1 h2 h =>
        have hb : s.bdy = false := by
          cases e : s.bdy with
          | false => rfl
          | true => rw [e, Rf.declare_body] at h2; cases h2
        have h0 := hn hb
        subst h0
        refine ⟨(ih h .nil (fun _ => rfl)).1, fun e => ?_⟩
        rw [hb] at e; cases e
      | stop h1 h2 h3 h4 h5 => rw [h4, h5]; exact ⟨hk, fun _ => ⟨rfl, rfl⟩⟩
      | one b sb h1 h2 h3 hb h4 h5 =>
        obtain ⟨b1, b2⟩ := ih hb .nil (fun _ => rfl)
        obtain ⟨e1, e2⟩ := b2 rfl
        have e1 : sb.ds = s.ds := e1
        obtain ⟨c1, c2⟩ := ih h5 (by show TsOk sb.ds _; rw [e1] at b1 ⊢; exact hk.append (.cond h3 (hat h1 h2) h2 b1 .nil .nil)) (fun e => by have e : sb.bdy = false := e; rw [e2] at e; cases e)
        obtain ⟨d1, d2⟩ := c2 e2
        exact ⟨c1, fun _ => ⟨d1.trans e1, d2⟩⟩
      | two b o sb so h1 h2 h3 hb h4 h5 h6 h7 =>
        obtain ⟨b1, b2⟩ := ih hb .nil (fun _ => rfl)
        obtain ⟨e1, e2⟩ := b2 rfl
        have e1 : sb.ds = s.ds := e1
        obtain ⟨o1, o2⟩ := ih h5 .nil (fun _ => rfl)
        obtain ⟨q1, q2⟩ := o2 e2
        have q1 : so.ds = sb.ds := q1
        obtain ⟨c1, c2⟩ := ih h7 (by show TsOk so.ds _; have e3 : so.ds = s.ds := q1.trans e1; rw [e3] at o1 ⊢; rw [e1] at b1; exact hk.append (.cond h3 (hat h1 (.inl h2)) (.inl h2) b1 o1 .nil)) (fun e => by have e : so.bdy = false := e; rw [q2] at e; cases e)
        obtain ⟨d1, d2⟩ := c2 q2
        exact ⟨c1, fun _ => ⟨d1.trans (q1.trans e1), d2⟩⟩
      | plain h1 h2 h3 h4 h =>
        obtain ⟨c1, c2⟩ := ih h (hk.append (.plain h4 h3 .nil)) (fun e => by cases e)
        exact ⟨c1, fun _ => c2 rfl⟩
    · obtain ⟨_, e1, e2⟩ := blk_end h (.inr hl)
      rw [e1, e2]; exact ⟨hk, fun e => ⟨rfl, e⟩⟩
def DsOk (ds : List Rf.Dc) : Prop := ∀ d ∈ ds, isName d.name = true ∧ d.size ≤ 4 ∧ (d.kind = wSecret ∨ d.kind = wPublic ∨ d.kind = wVar ∨ d.kind = wArray)
theorem declare_one {ds ds1 : List Rf.Dc} {bdy : Bool} {w : List Wd} (h : declare ds bdy w = some ds1) : ∃ n, ds1 = ds ++ [⟨wd w 1, wd w 0, n⟩] ∧ n ≤ 4 ∧ isName (wd w 1) = true := by
  unfold declare at h
  by_cases c : bdy = false ∧ w.length = (if wd w 0 = wArray then 3 else 2) ∧ isName (wd w 1) = true ∧ kindOf ds (wd w 1) = []
  · rw [if_pos c] at h
    by_cases a : wd w 0 = wArray
    · rw [if_pos a] at h
      cases hn : num? (wd w 2) with
      | none => rw [hn] at h; cases h
      | some n =>
        rw [hn] at h
        simp only at h
        by_cases b : 1 ≤ n ∧ n ≤ 4 ∧ Rf.many ds wArray < 2
        · rw [if_pos b] at h; cases h; exact ⟨n, rfl, b.2.1, c.2.2.1⟩
        · rw [if_neg b] at h; cases h
    · rw [if_neg a] at h
      by_cases v : wd w 0 = wVar
      · rw [if_pos v] at h
        by_cases b : Rf.many ds wVar < 4
        · rw [if_pos b] at h; cases h; exact ⟨0, rfl, by omega, c.2.2.1⟩
        · rw [if_neg b] at h; cases h
      · rw [if_neg v] at h
        by_cases b : Rf.many ds wVar = 0 ∧ Rf.many ds wSecret + Rf.many ds wPublic < 3
        · rw [if_pos b] at h; cases h; exact ⟨0, rfl, by omega, c.2.2.1⟩
        · rw [if_neg b] at h; cases h
  · rw [if_neg c] at h; cases h
theorem blk_names {L : List Wd} {f : Nat} : ∀ {depth : Nat} {s : Rs} {out out2 : List Rf.Tr} {s2 : Rs}, blk L f depth s out = (true, out2, s2) → DsOk s.ds → DsOk s2.ds ∧ s2.ds.length + s.at_ ≤ s.ds.length + s2.at_ := by
  induction f with
  | zero => intro depth s out out2 s2 h p; rw [(blk_end h (.inl rfl)).2.2]; exact ⟨p, Nat.le_refl _⟩
  | succ f ih =>
    intro depth s out out2 s2 h p
    by_cases hl : s.at_ + 1 < L.length
    · cases blk_way h hl with
      | decl ds h1 h2 h =>
        obtain ⟨n, e, hn, hi⟩ := declare_one h2
        obtain ⟨c1, c2⟩ := ih h (by
          show DsOk ds
          rw [e]
          intro d hd
          rcases List.mem_append.1 hd with hd | hd
          · exact p d hd
          · have hd : d = _ := List.mem_singleton.1 hd
            rw [hd]
            refine ⟨hi, hn, ?_⟩
            simp only [isDecl, Bool.or_eq_true, beq_iff_eq] at h1
            rcases h1 with ((h1 | h1) | h1) | h1
            · exact .inl h1
            · exact .inr (.inl h1)
            · exact .inr (.inr (.inl h1))
            · exact .inr (.inr (.inr h1)))
        refine ⟨c1, ?_⟩
        have e2 : ds.length = s.ds.length + 1 := by rw [e]; simp
        have c2 : s2.ds.length + (s.at_ + 1) ≤ ds.length + s2.at_ := c2
        omega
      | stop h1 h2 h3 h4 h5 => rw [h5]; exact ⟨p, Nat.le_refl _⟩
      | one b sb h1 h2 h3 hb h4 h5 =>
        obtain ⟨a1, a2⟩ := ih hb p
        obtain ⟨c1, c2⟩ := ih h5 (show DsOk sb.ds from a1)
        have a2 : sb.ds.length + (s.at_ + 1) ≤ s.ds.length + sb.at_ := a2
        have c2 : s2.ds.length + (sb.at_ + 1) ≤ sb.ds.length + s2.at_ := c2
        exact ⟨c1, by omega⟩
      | two b o sb so h1 h2 h3 hb h4 h5 h6 h7 =>
        obtain ⟨a1, a2⟩ := ih hb p
        obtain ⟨b1, b2⟩ := ih h5 (show DsOk sb.ds from a1)
        obtain ⟨c1, c2⟩ := ih h7 (show DsOk so.ds from b1)
        have a2 : sb.ds.length + (s.at_ + 1) ≤ s.ds.length + sb.at_ := a2
        have b2 : so.ds.length + (sb.at_ + 1) ≤ sb.ds.length + so.at_ := b2
        have c2 : s2.ds.length + (so.at_ + 1) ≤ so.ds.length + s2.at_ := c2
        exact ⟨c1, by omega⟩
      | plain h1 h2 h3 h4 h =>
        obtain ⟨c1, c2⟩ := ih h p
        have c2 : s2.ds.length + (s.at_ + 1) ≤ s.ds.length + s2.at_ := c2
        exact ⟨c1, by omega⟩
    · rw [(blk_end h (.inr hl)).2.2]; exact ⟨p, Nat.le_refl _⟩
def Wd16 (m : M) : Prop := (∀ i, m.vals i < 16) ∧ ∀ i j, m.cel i j < 16
theorem num_lt {w : Wd} {n : Nat} (h : num? w = some n) : n < 16 := by
  have := Lk.num_lt h
  omega
theorem Wd16.value {ds : List Rf.Dc} {m : M} (h : Wd16 m) (w : Wd) : value ds m w < 16 := by
  unfold Tm.value
  cases hn : num? w with
  | some n => exact num_lt hn
  | none => exact h.1 _
theorem oper_le {w : Wd} {o : Nat} (h : oper? w = some o) : o ≤ 10 := Lk.oper_le h
theorem upd_lt {f : Nat → Nat} {i v : Nat} (h : ∀ j, f j < 16) (hv : v < 16) : ∀ j, Lk.upd f i v j < 16 := by
  intro j
  unfold Lk.upd
  split
  · exact hv
  · exact h j
theorem Wd16.at {m : M} (h : Wd16 m) (r : List (List Rf.Tr × Nat)) : Wd16 { m with at_ := r } := h
theorem Wd16.plain {ds : List Rf.Dc} {m : M} (h : Wd16 m) (w : List Wd) : Wd16 (plain ds w m).2 := by
  unfold Tm.plain
  split
  · exact h
  · split
    · split
      · exact ⟨upd_lt h.1 (h.2 _ _), h.2⟩
      · exact h
    · split
      · split
        · refine ⟨h.1, fun i j => ?_⟩
          show Lk.upd m.cel _ _ i j < 16
          unfold Lk.upd
          split
          · dsimp only
            split
            · exact h.value _
            · exact h.2 _ _
          · exact h.2 i j
        · exact h
      · refine ⟨upd_lt h.1 ?_, h.2⟩
        split
        · refine apply_lt _ _ _ ?_ (h.value _) (h.value _)
          cases ho : oper? (wd w 3) with
          | none => simp
          | some o => simpa using oper_le ho
        · exact h.value _
theorem Wd16.step {ds : List Rf.Dc} {m : M} (h : Wd16 m) : Wd16 (step ds m).2 := by
  unfold Tm.step
  split
  · exact h
  · split
    · exact h
    · dsimp only
      split
      · split <;> exact h
      · exact Wd16.plain (h.at _) _
theorem ini_lt : ∀ (ds : List Rf.Dc) (k : Nat) (ins : List Nat) (j : Nat), (∀ x ∈ ins, x < 16) → ini ds k ins j < 16
  | [], _, _, _, _ => by show (0 : Nat) < 16; omega
  | d :: ds, k, ins, j, h => by
    unfold ini
    have ht : ∀ x ∈ ins.tail, x < 16 := fun x hx => h x (List.mem_of_mem_tail hx)
    split
    · split
      · cases ins with
        | nil => show (0 : Nat) < 16; omega
        | cons x l => exact h x (List.mem_cons_self ..)
      · exact ini_lt ds (k + 1) ins.tail j ht
    · split
      · omega
      · exact ini_lt ds (k + 1) ins j h
theorem Wd16.start (ds : List Rf.Dc) (b : List Rf.Tr) (ins : List Nat) (h : ∀ x ∈ ins, x < 16) : Wd16 (start ds b ins) := ⟨fun i => ini_lt ds 0 ins i h, fun _ _ => by show (0 : Nat) < 16; omega⟩
end Go.Proofs.YtgddmpmcnjlcjaaGreatDoor.Tm
namespace Go.Proofs.YtgddmpmcnjlcjaaGreatDoor
open Go.RowKit
set_option linter.unusedVariables false
theorem PRep.many_eq {w : World} {base P : Nat} {l : List DB} {vn vk vz vb : Value} (h : PRep w base P l vn vk vz vb) (s : ByteArray) (hl : l.length ≤ 1000) (m : Nat) (q : Lk.Wd) (hs : s.toList = q) (hm : Rf.many (dcs l) q = m) :
    Calls Tryz.prog 95 #[.pointer (some ⟨P, 0, none⟩), .string s] w fun e w' => e = .returned (.int .i64 m) ∧ w' = w := by
  rw [← hm, ← hs]; exact h.many_any s hl
theorem numeral_eq (s : ByteArray) (w : World) (z : Int) (h : Lk.intO (Lk.num? s.toList) = z) :
    Calls Tryz.prog 96 #[.string s] w fun e w' => e = .returned (.int .i64 z) ∧ Below w.heap.size w w' := by
  rw [← h]; exact numeral_any s w
theorem many_le (l : List DB) (q : Lk.Wd) : Rf.many (dcs l) q ≤ l.length := by rw [← countK_full]; exact countK_le l q _
theorem lit_sec : (⟨#[115, 101, 99, 114, 101, 116]⟩ : ByteArray).toList = Rf.wSecret := by rw [ByteArray.toList_eq]; rfl
theorem lit_pub : (⟨#[112, 117, 98, 108, 105, 99]⟩ : ByteArray).toList = Rf.wPublic := by rw [ByteArray.toList_eq]; rfl
theorem lit_var : (⟨#[118, 97, 114]⟩ : ByteArray).toList = Rf.wVar := by rw [ByteArray.toList_eq]; rfl
theorem lit_arr : (⟨#[97, 114, 114, 97, 121]⟩ : ByteArray).toList = Rf.wArray := by rw [ByteArray.toList_eq]; rfl
section
variable {w : World} {base P R : Nat} {l : List DB} {vn vk vz vb vl : Value} {s : Rf.Rs}
set_option maxRecDepth 100000 in
set_option maxHeartbeats 1000000 in
theorem decl_taken3 (h : PRep w base P l vn vk vz vb) (hl : l.length ≤ 1000) (g cap : Nat) (q0 q1 : ByteArray) (hc0 : w.cell? ⟨g, 0, none⟩ = some (.string q0)) (hc1 : w.cell? ⟨g, 1, none⟩ = some (.string q1)) (hp : w.cell? ⟨R, 0, none⟩ = some (.pointer (some ⟨P, 0, none⟩))) (hb : w.cell? ⟨R, 4, none⟩ = some (.bool false)) (hnm : Lk.isName q1.toList = true) (ha : (q0.toList == [97, 114, 114, 97, 121]) = true) (hk : (Rf.kindOf (dcs l) q1.toList).isEmpty = false) :
    Calls Tryz.prog 60 #[.pointer (some ⟨R, 0, none⟩), .slice (some ⟨g, 0, none⟩) 3 cap] w fun e w' => e = .returned (.bool false) ∧ Below w.heap.size w w' := by
  have hq : q1.size = 1 := by
    by_cases h : q1.size = 1
    · exact h
    · rw [isNameN h] at hnm; cases hnm
  have hqI : (q1.size : Int) = 1 := by omega
  obtain ⟨hn1, hn2⟩ := name_lo hq hnm
  have HP := hid h
  clear h hq hnm
  have HK := hid hk
  clear hk
  go_enter Tryz.func60, Tryz.ntmps60
  go_wp2_with (first
    | (go_at_call 94; refine (HP.out.kind_any q1 hl).mono ?_; rintro e w0 ⟨kq, rfl, hkq, rfl⟩; have hke : kq.toList.isEmpty = false := (by rw [hkq]; exact HK.out); have HKQ := hid hkq; clear hkq))
  go_ret
  exact ⟨rfl, Below.refl _ _⟩
set_option maxRecDepth 100000 in
set_option maxHeartbeats 1000000 in
theorem decl_taken2 (h : PRep w base P l vn vk vz vb) (hl : l.length ≤ 1000) (g cap : Nat) (q0 q1 : ByteArray) (hc0 : w.cell? ⟨g, 0, none⟩ = some (.string q0)) (hc1 : w.cell? ⟨g, 1, none⟩ = some (.string q1)) (hp : w.cell? ⟨R, 0, none⟩ = some (.pointer (some ⟨P, 0, none⟩))) (hb : w.cell? ⟨R, 4, none⟩ = some (.bool false)) (hnm : Lk.isName q1.toList = true) (ha : (q0.toList == [97, 114, 114, 97, 121]) = false) (hk : (Rf.kindOf (dcs l) q1.toList).isEmpty = false) :
    Calls Tryz.prog 60 #[.pointer (some ⟨R, 0, none⟩), .slice (some ⟨g, 0, none⟩) 2 cap] w fun e w' => e = .returned (.bool false) ∧ Below w.heap.size w w' := by
  have hq : q1.size = 1 := by
    by_cases h : q1.size = 1
    · exact h
    · rw [isNameN h] at hnm; cases hnm
  have hqI : (q1.size : Int) = 1 := by omega
  obtain ⟨hn1, hn2⟩ := name_lo hq hnm
  have HP := hid h
  clear h hq hnm
  have HK := hid hk
  clear hk
  go_enter Tryz.func60, Tryz.ntmps60
  go_wp2_with (first
    | (go_at_call 94; refine (HP.out.kind_any q1 hl).mono ?_; rintro e w0 ⟨kq, rfl, hkq, rfl⟩; have hke : kq.toList.isEmpty = false := (by rw [hkq]; exact HK.out); have HKQ := hid hkq; clear hkq))
  go_ret
  exact ⟨rfl, Below.refl _ _⟩
set_option maxRecDepth 100000 in
set_option maxHeartbeats 1000000 in
theorem decl_arr_no (h : PRep w base P l vn vk vz vb) (hl : l.length ≤ 1000) (g cap : Nat) (q0 q1 : ByteArray) (hc0 : w.cell? ⟨g, 0, none⟩ = some (.string q0)) (hc1 : w.cell? ⟨g, 1, none⟩ = some (.string q1)) (hp : w.cell? ⟨R, 0, none⟩ = some (.pointer (some ⟨P, 0, none⟩))) (hb : w.cell? ⟨R, 4, none⟩ = some (.bool false)) (hnm : Lk.isName q1.toList = true) (ha : (q0.toList == [97, 114, 114, 97, 121]) = true) (hk : (Rf.kindOf (dcs l) q1.toList).isEmpty = true) (q2 : ByteArray) (hc2 : w.cell? ⟨g, 2, none⟩ = some (.string q2)) (z : Int) (hz : Lk.intO (Lk.num? q2.toList) = z) (hno : z < 1 ∨ 4 < z ∨ 2 ≤ Rf.many (dcs l) Rf.wArray) :
    Calls Tryz.prog 60 #[.pointer (some ⟨R, 0, none⟩), .slice (some ⟨g, 0, none⟩) 3 cap] w fun e w' => e = .returned (.bool false) ∧ Below w.heap.size w w' := by
  have hq : q1.size = 1 := by
    by_cases h : q1.size = 1
    · exact h
    · rw [isNameN h] at hnm; cases hnm
  have hqI : (q1.size : Int) = 1 := by omega
  obtain ⟨hn1, hn2⟩ := name_lo hq hnm
  have HP := hid h
  clear h hq hnm
  have HK := hid hk
  clear hk
  obtain ⟨ms, hms⟩ : ∃ m, Rf.many (dcs l) Rf.wSecret = m := ⟨_, rfl⟩
  obtain ⟨mp, hmp⟩ : ∃ m, Rf.many (dcs l) Rf.wPublic = m := ⟨_, rfl⟩
  obtain ⟨mv, hmv⟩ : ∃ m, Rf.many (dcs l) Rf.wVar = m := ⟨_, rfl⟩
  obtain ⟨ma, hma⟩ : ∃ m, Rf.many (dcs l) Rf.wArray = m := ⟨_, rfl⟩
  have l1 := many_le l Rf.wSecret
  have l2 := many_le l Rf.wPublic
  rw [hms] at l1
  rw [hmp] at l2
  rw [hma] at hno
  have HZ := hid hz
  clear hz
  have HM1 := hid hms
  have HM2 := hid hmp
  have HM3 := hid hmv
  have HM4 := hid hma
  have l1I : (ms : Int) ≤ 1000 := by omega
  have l2I : (mp : Int) ≤ 1000 := by omega
  clear hms hmp hmv hma l1 l2
  by_cases h1 : z < 1
  · clear hno
    go_enter Tryz.func60, Tryz.ntmps60
    go_wp2_with (first
      | (go_at_call 94; refine (HP.out.kind_any q1 hl).mono ?_; rintro e w0 ⟨kq, rfl, hkq, rfl⟩; have hke : kq.toList.isEmpty = true := (by rw [hkq]; exact HK.out); have HKQ := hid hkq; clear hkq)
      | (go_at_call_of 95 (Value.string { data := #[115, 101, 99, 114, 101, 116] }); refine (HP.out.many_eq _ hl ms Rf.wSecret lit_sec HM1.out).mono ?_; rintro e w0 ⟨rfl, rfl⟩)
      | (go_at_call_of 95 (Value.string { data := #[112, 117, 98, 108, 105, 99] }); refine (HP.out.many_eq _ hl mp Rf.wPublic lit_pub HM2.out).mono ?_; rintro e w0 ⟨rfl, rfl⟩)
      | (go_at_call_of 95 (Value.string { data := #[118, 97, 114] }); refine (HP.out.many_eq _ hl mv Rf.wVar lit_var HM3.out).mono ?_; rintro e w0 ⟨rfl, rfl⟩)
      | (go_at_call_of 95 (Value.string { data := #[97, 114, 114, 97, 121] }); refine (HP.out.many_eq _ hl ma Rf.wArray lit_arr HM4.out).mono ?_; rintro e w0 ⟨rfl, rfl⟩)
      | (go_at_call 96; refine (numeral_eq q2 _ z HZ.out).mono ?_; rintro e w1 ⟨rfl, hb1⟩; have HB1 := hid hb1; have z1 := hb1.size; clear hb1))
    go_ret
    exact ⟨rfl, HB1.out⟩
  · have h1' : 1 ≤ z := by omega
    by_cases h4 : 4 < z
    · clear hno h1
      go_enter Tryz.func60, Tryz.ntmps60
      go_wp2_with (first
        | (go_at_call 94; refine (HP.out.kind_any q1 hl).mono ?_; rintro e w0 ⟨kq, rfl, hkq, rfl⟩; have hke : kq.toList.isEmpty = true := (by rw [hkq]; exact HK.out); have HKQ := hid hkq; clear hkq)
        | (go_at_call_of 95 (Value.string { data := #[115, 101, 99, 114, 101, 116] }); refine (HP.out.many_eq _ hl ms Rf.wSecret lit_sec HM1.out).mono ?_; rintro e w0 ⟨rfl, rfl⟩)
        | (go_at_call_of 95 (Value.string { data := #[112, 117, 98, 108, 105, 99] }); refine (HP.out.many_eq _ hl mp Rf.wPublic lit_pub HM2.out).mono ?_; rintro e w0 ⟨rfl, rfl⟩)
        | (go_at_call_of 95 (Value.string { data := #[118, 97, 114] }); refine (HP.out.many_eq _ hl mv Rf.wVar lit_var HM3.out).mono ?_; rintro e w0 ⟨rfl, rfl⟩)
        | (go_at_call_of 95 (Value.string { data := #[97, 114, 114, 97, 121] }); refine (HP.out.many_eq _ hl ma Rf.wArray lit_arr HM4.out).mono ?_; rintro e w0 ⟨rfl, rfl⟩)
        | (go_at_call 96; refine (numeral_eq q2 _ z HZ.out).mono ?_; rintro e w1 ⟨rfl, hb1⟩; have HB1 := hid hb1; have z1 := hb1.size; clear hb1))
      go_ret
      exact ⟨rfl, HB1.out⟩
    · have h4' : z ≤ 4 := by omega
      have ha2 : (2 : Int) ≤ (ma : Int) := by omega
      clear hno h1 h4
      go_enter Tryz.func60, Tryz.ntmps60
      go_wp2_with (first
        | (go_at_call 94; refine (HP.out.kind_any q1 hl).mono ?_; rintro e w0 ⟨kq, rfl, hkq, rfl⟩; have hke : kq.toList.isEmpty = true := (by rw [hkq]; exact HK.out); have HKQ := hid hkq; clear hkq)
        | (go_at_call_of 95 (Value.string { data := #[115, 101, 99, 114, 101, 116] }); refine (HP.out.many_eq _ hl ms Rf.wSecret lit_sec HM1.out).mono ?_; rintro e w0 ⟨rfl, rfl⟩)
        | (go_at_call_of 95 (Value.string { data := #[112, 117, 98, 108, 105, 99] }); refine (HP.out.many_eq _ hl mp Rf.wPublic lit_pub HM2.out).mono ?_; rintro e w0 ⟨rfl, rfl⟩)
        | (go_at_call_of 95 (Value.string { data := #[118, 97, 114] }); refine (HP.out.many_eq _ hl mv Rf.wVar lit_var HM3.out).mono ?_; rintro e w0 ⟨rfl, rfl⟩)
        | (go_at_call_of 95 (Value.string { data := #[97, 114, 114, 97, 121] }); refine (HP.out.many_eq _ hl ma Rf.wArray lit_arr HM4.out).mono ?_; rintro e w0 ⟨rfl, rfl⟩)
        | (go_at_call 96; refine (numeral_eq q2 _ z HZ.out).mono ?_; rintro e w1 ⟨rfl, hb1⟩; have HB1 := hid hb1; have z1 := hb1.size; clear hb1))
      go_ret
      exact ⟨rfl, HB1.out⟩
set_option maxRecDepth 100000 in
set_option maxHeartbeats 1000000 in
theorem decl_var_no (h : PRep w base P l vn vk vz vb) (hl : l.length ≤ 1000) (g cap : Nat) (q0 q1 : ByteArray) (hc0 : w.cell? ⟨g, 0, none⟩ = some (.string q0)) (hc1 : w.cell? ⟨g, 1, none⟩ = some (.string q1)) (hp : w.cell? ⟨R, 0, none⟩ = some (.pointer (some ⟨P, 0, none⟩))) (hb : w.cell? ⟨R, 4, none⟩ = some (.bool false)) (hnm : Lk.isName q1.toList = true) (ha : (q0.toList == [97, 114, 114, 97, 121]) = false) (hv : (q0.toList == [118, 97, 114]) = true) (hk : (Rf.kindOf (dcs l) q1.toList).isEmpty = true) (hno : 4 ≤ Rf.many (dcs l) Rf.wVar) :
    Calls Tryz.prog 60 #[.pointer (some ⟨R, 0, none⟩), .slice (some ⟨g, 0, none⟩) 2 cap] w fun e w' => e = .returned (.bool false) ∧ Below w.heap.size w w' := by
  have hq : q1.size = 1 := by
    by_cases h : q1.size = 1
    · exact h
    · rw [isNameN h] at hnm; cases hnm
  have hqI : (q1.size : Int) = 1 := by omega
  obtain ⟨hn1, hn2⟩ := name_lo hq hnm
  have HP := hid h
  clear h hq hnm
  have HK := hid hk
  clear hk
  obtain ⟨ms, hms⟩ : ∃ m, Rf.many (dcs l) Rf.wSecret = m := ⟨_, rfl⟩
  obtain ⟨mp, hmp⟩ : ∃ m, Rf.many (dcs l) Rf.wPublic = m := ⟨_, rfl⟩
  obtain ⟨mv, hmv⟩ : ∃ m, Rf.many (dcs l) Rf.wVar = m := ⟨_, rfl⟩
  obtain ⟨ma, hma⟩ : ∃ m, Rf.many (dcs l) Rf.wArray = m := ⟨_, rfl⟩
  have l1 := many_le l Rf.wSecret
  have l2 := many_le l Rf.wPublic
  rw [hms] at l1
  rw [hmp] at l2
  rw [hmv] at hno
  have HM1 := hid hms
  have HM2 := hid hmp
  have HM3 := hid hmv
  have HM4 := hid hma
  have l1I : (ms : Int) ≤ 1000 := by omega
  have l2I : (mp : Int) ≤ 1000 := by omega
  clear hms hmp hmv hma l1 l2
  have h4 : (4 : Int) ≤ (mv : Int) := by omega
  clear hno
  go_enter Tryz.func60, Tryz.ntmps60
  go_wp2_with (first
    | (go_at_call 94; refine (HP.out.kind_any q1 hl).mono ?_; rintro e w0 ⟨kq, rfl, hkq, rfl⟩; have hke : kq.toList.isEmpty = true := (by rw [hkq]; exact HK.out); have HKQ := hid hkq; clear hkq)
    | (go_at_call_of 95 (Value.string { data := #[115, 101, 99, 114, 101, 116] }); refine (HP.out.many_eq _ hl ms Rf.wSecret lit_sec HM1.out).mono ?_; rintro e w0 ⟨rfl, rfl⟩)
    | (go_at_call_of 95 (Value.string { data := #[112, 117, 98, 108, 105, 99] }); refine (HP.out.many_eq _ hl mp Rf.wPublic lit_pub HM2.out).mono ?_; rintro e w0 ⟨rfl, rfl⟩)
    | (go_at_call_of 95 (Value.string { data := #[118, 97, 114] }); refine (HP.out.many_eq _ hl mv Rf.wVar lit_var HM3.out).mono ?_; rintro e w0 ⟨rfl, rfl⟩)
    | (go_at_call_of 95 (Value.string { data := #[97, 114, 114, 97, 121] }); refine (HP.out.many_eq _ hl ma Rf.wArray lit_arr HM4.out).mono ?_; rintro e w0 ⟨rfl, rfl⟩))
  go_ret
  exact ⟨rfl, Below.refl _ _⟩
set_option maxRecDepth 100000 in
set_option maxHeartbeats 1000000 in
theorem decl_in_no (h : PRep w base P l vn vk vz vb) (hl : l.length ≤ 1000) (g cap : Nat) (q0 q1 : ByteArray) (hc0 : w.cell? ⟨g, 0, none⟩ = some (.string q0)) (hc1 : w.cell? ⟨g, 1, none⟩ = some (.string q1)) (hp : w.cell? ⟨R, 0, none⟩ = some (.pointer (some ⟨P, 0, none⟩))) (hb : w.cell? ⟨R, 4, none⟩ = some (.bool false)) (hnm : Lk.isName q1.toList = true) (ha : (q0.toList == [97, 114, 114, 97, 121]) = false) (hv : (q0.toList == [118, 97, 114]) = false) (hk : (Rf.kindOf (dcs l) q1.toList).isEmpty = true) (hno : 0 < Rf.many (dcs l) Rf.wVar ∨ 3 ≤ Rf.many (dcs l) Rf.wSecret + Rf.many (dcs l) Rf.wPublic) :
    Calls Tryz.prog 60 #[.pointer (some ⟨R, 0, none⟩), .slice (some ⟨g, 0, none⟩) 2 cap] w fun e w' => e = .returned (.bool false) ∧ Below w.heap.size w w' := by
  have hq : q1.size = 1 := by
    by_cases h : q1.size = 1
    · exact h
    · rw [isNameN h] at hnm; cases hnm
  have hqI : (q1.size : Int) = 1 := by omega
  obtain ⟨hn1, hn2⟩ := name_lo hq hnm
  have HP := hid h
  clear h hq hnm
  have HK := hid hk
  clear hk
  obtain ⟨ms, hms⟩ : ∃ m, Rf.many (dcs l) Rf.wSecret = m := ⟨_, rfl⟩
  obtain ⟨mp, hmp⟩ : ∃ m, Rf.many (dcs l) Rf.wPublic = m := ⟨_, rfl⟩
  obtain ⟨mv, hmv⟩ : ∃ m, Rf.many (dcs l) Rf.wVar = m := ⟨_, rfl⟩
  obtain ⟨ma, hma⟩ : ∃ m, Rf.many (dcs l) Rf.wArray = m := ⟨_, rfl⟩
  have l1 := many_le l Rf.wSecret
  have l2 := many_le l Rf.wPublic
  rw [hms] at l1
  rw [hmp] at l2
  rw [hmv, hms, hmp] at hno
  have HM1 := hid hms
  have HM2 := hid hmp
  have HM3 := hid hmv
  have HM4 := hid hma
  have l1I : (ms : Int) ≤ 1000 := by omega
  have l2I : (mp : Int) ≤ 1000 := by omega
  clear hms hmp hmv hma l1 l2
  by_cases h1 : 0 < mv
  · have h1I : (0 : Int) < (mv : Int) := by omega
    clear hno h1
    go_enter Tryz.func60, Tryz.ntmps60
    go_wp2_with (first
      | (go_at_call 94; refine (HP.out.kind_any q1 hl).mono ?_; rintro e w0 ⟨kq, rfl, hkq, rfl⟩; have hke : kq.toList.isEmpty = true := (by rw [hkq]; exact HK.out); have HKQ := hid hkq; clear hkq)
      | (go_at_call_of 95 (Value.string { data := #[115, 101, 99, 114, 101, 116] }); refine (HP.out.many_eq _ hl ms Rf.wSecret lit_sec HM1.out).mono ?_; rintro e w0 ⟨rfl, rfl⟩)
      | (go_at_call_of 95 (Value.string { data := #[112, 117, 98, 108, 105, 99] }); refine (HP.out.many_eq _ hl mp Rf.wPublic lit_pub HM2.out).mono ?_; rintro e w0 ⟨rfl, rfl⟩)
      | (go_at_call_of 95 (Value.string { data := #[118, 97, 114] }); refine (HP.out.many_eq _ hl mv Rf.wVar lit_var HM3.out).mono ?_; rintro e w0 ⟨rfl, rfl⟩)
      | (go_at_call_of 95 (Value.string { data := #[97, 114, 114, 97, 121] }); refine (HP.out.many_eq _ hl ma Rf.wArray lit_arr HM4.out).mono ?_; rintro e w0 ⟨rfl, rfl⟩))
    go_ret
    exact ⟨rfl, Below.refl _ _⟩
  · have h1I : ¬ (0 : Int) < (mv : Int) := by omega
    have h3 : (3 : Int) ≤ (ms : Int) + (mp : Int) := by omega
    clear hno h1
    go_enter Tryz.func60, Tryz.ntmps60
    go_wp2_with (first
      | (go_at_call 94; refine (HP.out.kind_any q1 hl).mono ?_; rintro e w0 ⟨kq, rfl, hkq, rfl⟩; have hke : kq.toList.isEmpty = true := (by rw [hkq]; exact HK.out); have HKQ := hid hkq; clear hkq)
      | (go_at_call_of 95 (Value.string { data := #[115, 101, 99, 114, 101, 116] }); refine (HP.out.many_eq _ hl ms Rf.wSecret lit_sec HM1.out).mono ?_; rintro e w0 ⟨rfl, rfl⟩)
      | (go_at_call_of 95 (Value.string { data := #[112, 117, 98, 108, 105, 99] }); refine (HP.out.many_eq _ hl mp Rf.wPublic lit_pub HM2.out).mono ?_; rintro e w0 ⟨rfl, rfl⟩)
      | (go_at_call_of 95 (Value.string { data := #[118, 97, 114] }); refine (HP.out.many_eq _ hl mv Rf.wVar lit_var HM3.out).mono ?_; rintro e w0 ⟨rfl, rfl⟩)
      | (go_at_call_of 95 (Value.string { data := #[97, 114, 114, 97, 121] }); refine (HP.out.many_eq _ hl ma Rf.wArray lit_arr HM4.out).mono ?_; rintro e w0 ⟨rfl, rfl⟩))
    go_ret
    exact ⟨rfl, Below.refl _ _⟩
end
end Go.Proofs.YtgddmpmcnjlcjaaGreatDoor
