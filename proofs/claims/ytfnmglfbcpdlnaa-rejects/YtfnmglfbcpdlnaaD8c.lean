import Derived.Test.YtfnmglfbcpdlnaaD8b
namespace Go.Proofs.Ytfnmglfbcpdlnaa
open Go.RowKit
set_option linter.unusedVariables false

theorem line_map (L : List ByteArray) (i : Nat) : (L.map ByteArray.toList).getD i [] = (L.getD i ByteArray.empty).toList := wd_map L i

theorem nested_any {w : World} {base P R gl cl d f : Nat} {l : List DB} {s : Rf.Rs} {L : List ByteArray} {vn vk vz vb : Value} {sb gw cw : Nat} {ws : List ByteArray}
    (F : FRep w base P R l (fst_ P gl cl L.length s) L gl vn vk vz vb) (hl : l.length ≤ 1000) (hL : L.length ≤ 1000) (hS : w.rowIs sb 105 3 (scell gw ws.length cw (.slice none 0 0) (.slice none 0 0))) (hW : Wds w gw ws) (hw0 : 0 < ws.length)
    (hsb : ¬ Stand P R gl vn vk vz sb) (hgR : gw ≠ R) (hgs : gw ≠ sb) (hds : s.ds = dcs l) (hbd : s.bdy = true) (hfu : L.length ≤ s.at_ + 1 + (f + 1)) (hat : s.at_ + 1 < L.length) (hcn : s.cnt < 12) (hd4 : d ≤ 4) (IH : d < 4 → BlockOk L gl cl (d + 1)) :
    Calls Try.prog 61 #[.pointer (some ⟨R, 0, none⟩), .pointer (some ⟨sb, 0, none⟩), .int .i64 d] w fun e w' =>
      NestPost w w' base P R gl cl l L vn vk vz vb sb e (Rf.nestS (Rf.blkS (L.map ByteArray.toList) f) (L.map ByteArray.toList) d s (ws.map ByteArray.toList)) := by
  have e0 := wd_map ws 0
  have e1 := wd_map ws 1
  have hlm : (ws.map ByteArray.toList).length = ws.length := by simp
  have hLm : (L.map ByteArray.toList).length = L.length := by simp
  obtain ⟨O, hO⟩ : ∃ O, Rf.nestS (Rf.blkS (L.map ByteArray.toList) f) (L.map ByteArray.toList) d s (ws.map ByteArray.toList) = O := ⟨_, rfl⟩
  rw [hO]
  unfold Rf.nestS at hO
  rw [e0, e1, hlm] at hO
  by_cases hn : ws.length = 2
  · rw [hn] at hS
    have c0 := hW 0 hw0
    have c1 := hW 1 (by omega)
    by_cases hd : d = 4
    · rw [if_neg (fun c => c.2.1 hd)] at hO
      rw [← hO]
      exact nest_deep F hl hL (hS.cell (i := 0) (by omega)) hd
    · have hd' : d < 4 := by omega
      cases ha' : Rf.atom s.ds (ws.getD 1 ByteArray.empty).toList with
      | false =>
        have ha : Rf.atom (dcs l) (ws.getD 1 ByteArray.empty).toList = false := by rw [← hds]; exact ha'
        rw [if_neg (fun c => by rw [ha'] at c; simp at c)] at hO
        rw [← hO]
        exact nest_atom F hl hL hS _ _ c0 c1 hd' hsb hgR hgs ha
      | true =>
        have ha : Rf.atom (dcs l) (ws.getD 1 ByteArray.empty).toList = true := by rw [← hds]; exact ha'
        rw [if_pos ⟨hn, hd, ha'⟩] at hO
        have p1 := Rf.post_blk (L.map ByteArray.toList) f (d + 1) { s with cnt := s.cnt + 1, at_ := s.at_ + 1 } (by rw [hLm]; exact hat) (by show s.cnt + 1 ≤ 12; omega) (by rw [hLm]; show L.length ≤ s.at_ + 1 + 1 + f; omega)
        obtain ⟨⟨b1, s2⟩, ho1⟩ : ∃ o, Rf.blkS (L.map ByteArray.toList) f (d + 1) { s with cnt := s.cnt + 1, at_ := s.at_ + 1 } = o := ⟨_, rfl⟩
        rw [ho1] at hO p1
        have l1 : s2.at_ < L.length := by have := p1.lt; rw [hLm] at this; exact this
        have g1 : s.at_ + 1 ≤ s2.at_ := p1.ge
        have k1 : s2.cnt ≤ 12 := p1.cnt
        have d1 := p1.bdy hbd
        cases b1 with
        | false =>
          have hO : (false, s2) = O := hO
          rw [← hO]
          exact nest_one F hl hL hS _ _ c0 c1 hd' hsb hgR hgs ha hds hbd hfu hat hcn (IH hd') s2 ho1
        | true =>
          have m1 : s2.at_ + 1 < L.length := by have := p1.mid rfl (by omega); rw [hLm] at this; exact this
          dsimp only at hO
          rw [line_map] at hO
          cases he : ((L.getD s2.at_ ByteArray.empty).toList == [101, 108, 115, 101]) with
          | false =>
            rw [if_neg (show ¬ _ = Rf.wElse from ne_of_beq_false he)] at hO
            rw [← hO]
            exact nest_plain F hl hL hS _ _ c0 c1 hd' hsb hgR hgs ha hds hbd hfu hat hcn (IH hd') s2 ho1 l1 _ rfl he
          | true =>
            rw [if_pos (show _ = Rf.wElse from eq_of_beq he)] at hO
            cases hi : ((ws.getD 0 ByteArray.empty).toList == [105, 102]) with
            | false =>
              rw [if_neg (show ¬ _ = Rf.wIf from ne_of_beq_false hi)] at hO
              rw [← hO]
              exact nest_noif F hl hL hS _ _ c0 c1 hd' hsb hgR hgs ha hds hbd hfu hat hcn (IH hd') s2 ho1 l1 _ rfl he hi
            | true =>
              rw [if_pos (show _ = Rf.wIf from eq_of_beq hi)] at hO
              have p2 := Rf.post_blk (L.map ByteArray.toList) f (d + 1) { s2 with at_ := s2.at_ + 1 } (by rw [hLm]; exact m1) k1 (by rw [hLm]; show L.length ≤ s2.at_ + 1 + 1 + f; omega)
              obtain ⟨⟨b2, s3⟩, ho2⟩ : ∃ o, Rf.blkS (L.map ByteArray.toList) f (d + 1) { s2 with at_ := s2.at_ + 1 } = o := ⟨_, rfl⟩
              rw [ho2] at hO p2
              have l2 : s3.at_ < L.length := by have := p2.lt; rw [hLm] at this; exact this
              cases b2 with
              | false =>
                have hO : (false, s3) = O := hO
                rw [← hO]
                exact nest_two F hl hL hS _ _ c0 c1 hd' hsb hgR hgs ha hds hbd hfu hat hcn (IH hd') s2 ho1 l1 _ rfl he hi m1 g1 k1 d1.1 (d1.2.trans hds) s3 ho2
              | true =>
                dsimp only at hO
                rw [line_map] at hO
                cases he3 : ((L.getD s3.at_ ByteArray.empty).toList == [101, 108, 115, 101]) with
                | true =>
                  rw [if_pos (show _ = Rf.wElse from eq_of_beq he3)] at hO
                  rw [← hO]
                  exact nest_again F hl hL hS _ _ c0 c1 hd' hsb hgR hgs ha hds hbd hfu hat hcn (IH hd') s2 ho1 l1 _ rfl he hi m1 g1 k1 d1.1 (d1.2.trans hds) s3 ho2 l2 _ rfl he3
                | false =>
                  rw [if_neg (show ¬ _ = Rf.wElse from ne_of_beq_false he3)] at hO
                  rw [← hO]
                  exact nest_both F hl hL hS _ _ c0 c1 hd' hsb hgR hgs ha hds hbd hfu hat hcn (IH hd') s2 ho1 l1 _ rfl he hi m1 g1 k1 d1.1 (d1.2.trans hds) s3 ho2 l2 _ rfl he3
  · rw [if_neg (fun c => hn c.1)] at hO
    rw [← hO]
    exact nest_len F hl hL ws.length (hS.cell (i := 0) (by omega)) (by simp; omega)

end Go.Proofs.Ytfnmglfbcpdlnaa
