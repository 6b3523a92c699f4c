import Derived.Test.YtfnmglfbcpdlnaaD6c
import Derived.Test.YtfnmglfbcpdlnaaD5c
namespace Go.Proofs.Ytfnmglfbcpdlnaa
open Go.RowKit
set_option linter.unusedVariables false

/-- What 'declare' leaves. -/
structure DeclOut (w w' : World) (base P : Nat) (l : List DB) (vn vk vz vb : Value) (o : Option (List Rf.Dc)) : Prop where
  no : o = none → Below w.heap.size w w'
  yes : ∀ ds, o = some ds → ∃ l' vn' vk' vz', ds = dcs l' ∧ l'.length = l.length + 1 ∧ PRep w' base P l' vn' vk' vz' vb ∧ Nw w vn vn' ∧ Nw w vk vk' ∧ Nw w vz vz' ∧
    Frm base (fun k => k = P ∨ vn.ownBlock = some k ∨ vk.ownBlock = some k ∨ vz.ownBlock = some k) w w'

theorem dout_no {w w' : World} {base P : Nat} {l : List DB} {vn vk vz vb : Value} {o : Option (List Rf.Dc)} {e : Ending} (ho : o = none) (h : e = .returned (.bool false) ∧ Below w.heap.size w w') : e = .returned (.bool o.isSome) ∧ DeclOut w w' base P l vn vk vz vb o :=
  ⟨by rw [ho]; exact h.1, ⟨fun _ => h.2, fun ds e => by rw [ho] at e; cases e⟩⟩
theorem dout_yes {w w' : World} {base P : Nat} {l : List DB} {vn vk vz vb : Value} {o : Option (List Rf.Dc)} {e : Ending} {d : DB} (ho : o = some (dcs (l ++ [d])))
    (h : e = .returned (.bool true) ∧ (∃ vn' vk' vz', PRep w' base P (l ++ [d]) vn' vk' vz' vb ∧ Nw w vn vn' ∧ Nw w vk vk' ∧ Nw w vz vz') ∧ Frm base (fun k => k = P ∨ vn.ownBlock = some k ∨ vk.ownBlock = some k ∨ vz.ownBlock = some k) w w') :
    e = .returned (.bool o.isSome) ∧ DeclOut w w' base P l vn vk vz vb o := by
  obtain ⟨rfl, ⟨vn', vk', vz', h1, h2, h3, h4⟩, h5⟩ := h
  exact ⟨by rw [ho]; rfl, ⟨(fun e => by rw [ho] at e; cases e), fun ds e => by rw [ho] at e; cases e; exact ⟨_, vn', vk', vz', rfl, by simp, h1, h2, h3, h4, h5⟩⟩⟩

theorem refDeclare_any {w : World} {base P R : Nat} {l : List DB} {vn vk vz vb : Value} (h : PRep w base P l vn vk vz vb) (hl : l.length ≤ 1000) (g cap : Nat) (ws : List ByteArray) (hw : Wds w g ws) (h0 : 0 < ws.length) (bdy : Bool)
    (hp : w.cell? ⟨R, 0, none⟩ = some (.pointer (some ⟨P, 0, none⟩))) (hb : w.cell? ⟨R, 4, none⟩ = some (.bool bdy)) (hgn : vn.ownBlock ≠ some g) (hgk : vk.ownBlock ≠ some g) (hgP : g ≠ P) :
    Calls Try.prog 60 #[.pointer (some ⟨R, 0, none⟩), .slice (some ⟨g, 0, none⟩) ws.length cap] w fun e w' =>
      e = .returned (.bool (Rf.declare (dcs l) bdy (ws.map ByteArray.toList)).isSome) ∧ DeclOut w w' base P l vn vk vz vb (Rf.declare (dcs l) bdy (ws.map ByteArray.toList)) := by
  have hc0 := hw 0 h0
  have e0 := wd_map ws 0
  have e1 := wd_map ws 1
  have e2 := wd_map ws 2
  have hlm : (ws.map ByteArray.toList).length = ws.length := by simp
  obtain ⟨O, hO⟩ : ∃ O, Rf.declare (dcs l) bdy (ws.map ByteArray.toList) = O := ⟨_, rfl⟩
  rw [hO]
  unfold Rf.declare at hO
  rw [e0, e1, e2, hlm] at hO
  cases bdy with
  | true =>
    rw [if_neg (by simp)] at hO
    refine (decl_body h hl g cap _ ByteArray.empty hc0 hp hb ws.length (by omega)).mono ?_
    intro e w' hh
    exact dout_no hO.symm hh
  | false =>
    by_cases hlen : ws.length = if (ws.getD 0 ByteArray.empty).toList = Rf.wArray then 3 else 2
    · have h2 : 1 < ws.length := by rw [hlen]; split <;> omega
      have hc1 := hw 1 h2
      cases hn : Lk.isName (ws.getD 1 ByteArray.empty).toList with
      | false =>
        rw [if_neg (fun c => by rw [hn] at c; simp at c)] at hO
        refine (decl_name h hl g cap _ _ hc0 hp hb hc1 ws.length (by omega) (by omega) hlen hn).mono ?_
        intro e w' hh
        exact dout_no hO.symm hh
      | true =>
        cases ha : ((ws.getD 0 ByteArray.empty).toList == [97, 114, 114, 97, 121]) with
        | true =>
          have haE : (ws.getD 0 ByteArray.empty).toList = Rf.wArray := eq_of_beq ha
          rw [if_pos haE] at hlen
          rw [hlen]
          by_cases hk : Rf.kindOf (dcs l) (ws.getD 1 ByteArray.empty).toList = []
          · rw [if_pos ⟨rfl, by rw [if_pos haE]; exact hlen, hn, hk⟩, if_pos haE] at hO
            have hke : (Rf.kindOf (dcs l) (ws.getD 1 ByteArray.empty).toList).isEmpty = true := by rw [hk]; rfl
            have hc2 := hw 2 (by omega)
            cases hz : Lk.num? (ws.getD 2 ByteArray.empty).toList with
            | none =>
              rw [hz] at hO
              refine (decl_arr_no h hl g cap _ _ hc0 hc1 hp hb hn ha hke _ hc2 (-1) (intO_none hz) (.inl (by omega))).mono ?_
              intro e w' hh
              exact dout_no hO.symm hh
            | some n =>
              rw [hz] at hO
              by_cases hok : 1 ≤ n ∧ n ≤ 4 ∧ Rf.many (dcs l) Rf.wArray < 2
              · dsimp only at hO
                rw [if_pos hok] at hO
                refine (decl_arr h hl g cap _ _ hc0 hc1 hp hb hgn hgk hgP hn ha hke _ hc2 n hz hok).mono ?_
                intro e w' hh
                exact dout_yes (by rw [← hO]; simp [dcs, DB.dc]) hh
              · dsimp only at hO
                rw [if_neg hok] at hO
                refine (decl_arr_no h hl g cap _ _ hc0 hc1 hp hb hn ha hke _ hc2 n (intO_some hz) (by omega)).mono ?_
                intro e w' hh
                exact dout_no hO.symm hh
          · rw [if_neg (fun c => hk c.2.2.2)] at hO
            have hke : (Rf.kindOf (dcs l) (ws.getD 1 ByteArray.empty).toList).isEmpty = false := by
              cases hq : Rf.kindOf (dcs l) (ws.getD 1 ByteArray.empty).toList with
              | nil => exact absurd hq hk
              | cons _ _ => rfl
            refine (decl_taken3 h hl g cap _ _ hc0 hc1 hp hb hn ha hke).mono ?_
            intro e w' hh
            exact dout_no hO.symm hh
        | false =>
          have haE : ¬ (ws.getD 0 ByteArray.empty).toList = Rf.wArray := ne_of_beq_false ha
          rw [if_neg haE] at hlen
          rw [hlen]
          by_cases hk : Rf.kindOf (dcs l) (ws.getD 1 ByteArray.empty).toList = []
          · rw [if_pos ⟨rfl, by rw [if_neg haE]; exact hlen, hn, hk⟩, if_neg haE] at hO
            have hke : (Rf.kindOf (dcs l) (ws.getD 1 ByteArray.empty).toList).isEmpty = true := by rw [hk]; rfl
            cases hv : ((ws.getD 0 ByteArray.empty).toList == [118, 97, 114]) with
            | true =>
              rw [if_pos (show _ = Rf.wVar from eq_of_beq hv)] at hO
              by_cases hok : Rf.many (dcs l) Rf.wVar < 4
              · rw [if_pos hok] at hO
                refine (decl_var h hl g cap _ _ hc0 hc1 hp hb hgn hgk hgP hn ha hv hke hok).mono ?_
                intro e w' hh
                exact dout_yes (by rw [← hO]; simp [dcs, DB.dc]) hh
              · rw [if_neg hok] at hO
                refine (decl_var_no h hl g cap _ _ hc0 hc1 hp hb hn ha hv hke (by omega)).mono ?_
                intro e w' hh
                exact dout_no hO.symm hh
            | false =>
              rw [if_neg (show ¬ _ = Rf.wVar from ne_of_beq_false hv)] at hO
              by_cases hok : Rf.many (dcs l) Rf.wVar = 0 ∧ Rf.many (dcs l) Rf.wSecret + Rf.many (dcs l) Rf.wPublic < 3
              · rw [if_pos hok] at hO
                refine (decl_in h hl g cap _ _ hc0 hc1 hp hb hgn hgk hgP hn ha hv hke hok).mono ?_
                intro e w' hh
                exact dout_yes (by rw [← hO]; simp [dcs, DB.dc]) hh
              · rw [if_neg hok] at hO
                refine (decl_in_no h hl g cap _ _ hc0 hc1 hp hb hn ha hv hke (by omega)).mono ?_
                intro e w' hh
                exact dout_no hO.symm hh
          · rw [if_neg (fun c => hk c.2.2.2)] at hO
            have hke : (Rf.kindOf (dcs l) (ws.getD 1 ByteArray.empty).toList).isEmpty = false := by
              cases hq : Rf.kindOf (dcs l) (ws.getD 1 ByteArray.empty).toList with
              | nil => exact absurd hq hk
              | cons _ _ => rfl
            refine (decl_taken2 h hl g cap _ _ hc0 hc1 hp hb hn ha hke).mono ?_
            intro e w' hh
            exact dout_no hO.symm hh
    · rw [if_neg (fun c => hlen c.2.1)] at hO
      refine (decl_len h hl g cap _ ByteArray.empty hc0 hp hb ws.length (by omega) hlen).mono ?_
      intro e w' hh
      exact dout_no hO.symm hh

end Go.Proofs.Ytfnmglfbcpdlnaa
