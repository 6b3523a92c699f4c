import Derived.Test.YtkfejeomfdhmdaaD9a
namespace Go.Proofs.Ytkfejeomfdhmdaa
open Go.RowKit
set_option linter.unusedVariables false

namespace Rf
variable {B : Nat → Rs → Bool × Rs} {L : List Lk.Wd} {d : Nat} {s s' : Rs} {w : List Lk.Wd}
theorem stmt_end (h : Lk.wd w 0 = wElse ∨ Lk.wd w 0 = wEnd) : stmtS B L d s w = (decide (w.length = 1 ∧ 0 < d), s) := by unfold stmtS; rw [if_pos h]
theorem stmt_full (h : ¬ (Lk.wd w 0 = wElse ∨ Lk.wd w 0 = wEnd)) (hc : s.cnt = 12) : stmtS B L d s w = (false, s) := by unfold stmtS; rw [if_neg h, if_pos hc]
theorem stmt_nestF (h : ¬ (Lk.wd w 0 = wElse ∨ Lk.wd w 0 = wEnd)) (hc : s.cnt ≠ 12) (hi : Lk.wd w 0 = wIf ∨ Lk.wd w 0 = wWhile) (hn : nestS B L d s w = (false, s')) : stmtS B L d s w = (false, s') := by
  unfold stmtS; rw [if_neg h, if_neg hc, if_pos hi, hn]
theorem stmt_nestT (h : ¬ (Lk.wd w 0 = wElse ∨ Lk.wd w 0 = wEnd)) (hc : s.cnt ≠ 12) (hi : Lk.wd w 0 = wIf ∨ Lk.wd w 0 = wWhile) (hn : nestS B L d s w = (true, s')) : stmtS B L d s w = B d s' := by
  unfold stmtS; rw [if_neg h, if_neg hc, if_pos hi, hn]
theorem stmt_fitT (h : ¬ (Lk.wd w 0 = wElse ∨ Lk.wd w 0 = wEnd)) (hc : s.cnt ≠ 12) (hi : ¬ (Lk.wd w 0 = wIf ∨ Lk.wd w 0 = wWhile)) (hn : fits s.ds w = true) : stmtS B L d s w = B d { s with cnt := s.cnt + 1, at_ := s.at_ + 1 } := by
  unfold stmtS; rw [if_neg h, if_neg hc, if_neg hi, if_pos hn]
theorem stmt_fitF (h : ¬ (Lk.wd w 0 = wElse ∨ Lk.wd w 0 = wEnd)) (hc : s.cnt ≠ 12) (hi : ¬ (Lk.wd w 0 = wIf ∨ Lk.wd w 0 = wWhile)) (hn : fits s.ds w = false) : stmtS B L d s w = (false, { s with cnt := s.cnt + 1 }) := by
  unfold stmtS; rw [if_neg h, if_neg hc, if_neg hi, if_neg (by rw [hn]; simp)]
end Rf

section
variable {w : World} {base P R gl cl d f : Nat} {l : List DB} {s : Rf.Rs} {L : List ByteArray} {vn vk vz vb : Value} {g cap : Nat} {ws : List ByteArray}

theorem stmt_new (w : World) (R g n cap : Nat) : ((w.setCell ⟨R, 4, none⟩ (.bool true)).alloc (.cells #[.slice (some ⟨g, 0, none⟩) n cap, .slice none 0 0, .slice none 0 0] 84)).rowIs w.heap.size 84 3 (scell g n cap (.slice none 0 0) (.slice none 0 0)) := by
  have h := World.rowIs_alloc (w.setCell ⟨R, 4, none⟩ (.bool true)) #[.slice (some ⟨g, 0, none⟩) n cap, .slice none 0 0, .slice none 0 0] 84 (scell g n cap (.slice none 0 0) (.slice none 0 0)) (fun i hi => by
    match i, hi with
    | 0, _ => rfl
    | 1, _ => rfl
    | 2, _ => rfl
    | n + 3, h => exact absurd (show n + 3 < 3 from h) (by omega))
  simpa using h

theorem frm_stmt {o : Obj} (hB : base ≤ w.heap.size) (hR : base ≤ R) : Frm base (fun k => k = R) w ((w.setCell ⟨R, 4, none⟩ (.bool true)).alloc o) :=
  Frm.alloc (Frm.setCell (p := ⟨R, 4, none⟩) (Frm.refl base (fun k => k = R) w) hR rfl _) (by simpa using hB) o

theorem FRep.stmt (F : FRep w base P R l (fst_ P gl cl L.length s) L gl vn vk vz vb) (o : Obj) : FRep ((w.setCell ⟨R, 4, none⟩ (.bool true)).alloc o) base P R l (fst_ P gl cl L.length { s with bdy := true }) L gl vn vk vz vb :=
  ((F.put 4 (.bool true)).congr (fun i hi => fst_body P gl cl L.length s i hi)).alloc o

theorem nested_at (F : FRep w base P R l (fst_ P gl cl L.length s) L gl vn vk vz vb) (hl : l.length ≤ 1000) (hL : L.length ≤ 1000) (hW : Wds w g ws) (hw0 : 0 < ws.length) (hgR : g ≠ R) (hg2 : g < w.heap.size) (hds : s.ds = dcs l) (hfu : L.length ≤ s.at_ + 1 + (f + 1)) (hat : s.at_ + 1 < L.length) (hcn : s.cnt < 12) (hd4 : d ≤ 4) (IH : d < 4 → BlockOk L gl cl (d + 1)) (hRb : base ≤ R)
    (o : Bool × Rf.Rs) (ho : Rf.nestS (Rf.blkS (L.map ByteArray.toList) f) (L.map ByteArray.toList) d { s with bdy := true } (ws.map ByteArray.toList) = o) :
    Calls Try.prog 30 #[.pointer (some ⟨R, 0, none⟩), .pointer (some ⟨w.heap.size, 0, none⟩), .int .i64 d] ((w.setCell ⟨R, 4, none⟩ (.bool true)).alloc (.cells #[.slice (some ⟨g, 0, none⟩) ws.length cap, .slice none 0 0, .slice none 0 0] 84)) fun e w' =>
      e = .returned (.bool o.1) ∧ FRep w' base P R l (fst_ P gl cl L.length o.2) L gl vn vk vz vb ∧ Frm base (fun k => k = R) w w' := by
  have FB := F.baseLe
  have key := nested_any (d := d) (f := f) (F.stmt (.cells #[.slice (some ⟨g, 0, none⟩) ws.length cap, .slice none 0 0, .slice none 0 0] 84)) hl hL (stmt_new w R g ws.length cap) (wds_alloc (wds_set hW hgR _) _) hw0
    (fun e => by have := F.stand_lt e; omega) hgR (by omega) hds rfl hfu hat hcn hd4 IH
  refine key.mono ?_
  intro e w' hh
  obtain ⟨h1, h2, h3⟩ := hh
  rw [ho] at h1 h2
  refine ⟨h1, h2, ?_⟩
  have h4 : Frm base (fun k => k = R ∨ k = w.heap.size) ((w.setCell ⟨R, 4, none⟩ (.bool true)).alloc (.cells #[.slice (some ⟨g, 0, none⟩) ws.length cap, .slice none 0 0, .slice none 0 0] 84)) w' :=
    h3.lift (fun k hk e => by
      rcases e with e | e
      · rw [e]; exact hRb
      · rw [e]; exact FB) (by simp; omega)
  exact (frm_stmt FB hRb).trans h4 (fun k hk e => by
    rcases e with e | e
    · exact e
    · omega)

theorem fits_at (F : FRep w base P R l (fst_ P gl cl L.length s) L gl vn vk vz vb) (hl : l.length ≤ 1000) (hW : Wds w g ws) (hw0 : 0 < ws.length) (hgR : g ≠ R) (hRb : base ≤ R) (o : Bool) (ho : Rf.fits (dcs l) (ws.map ByteArray.toList) = o) (ob : Obj) :
    Calls Try.prog 31 #[.pointer (some ⟨P, 0, none⟩), .slice (some ⟨g, 0, none⟩) ws.length cap] ((w.setCell ⟨R, 4, none⟩ (.bool true)).alloc ob) fun e w' =>
      e = .returned (.bool o) ∧ FRep w' base P R l (fst_ P gl cl L.length { s with bdy := true }) L gl vn vk vz vb ∧ Frm base (fun k => k = R) w w' := by
  have FB := F.baseLe
  refine ((F.stmt ob).prog.fits_any hl g cap ws (wds_alloc (wds_set hW hgR _) _) hw0).mono ?_
  intro e w' hh
  obtain ⟨h1, h2⟩ := hh
  rw [ho] at h1
  exact ⟨h1, (F.stmt ob).below h2, (frm_stmt FB hRb).trans (Frm.ofBelow (S := fun k => k = R) h2 (F.stmt ob).baseLe) (fun k hk e => e)⟩
end

end Go.Proofs.Ytkfejeomfdhmdaa
