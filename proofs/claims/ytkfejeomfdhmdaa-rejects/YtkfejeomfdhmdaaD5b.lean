import Derived.Test.YtkfejeomfdhmdaaD5
namespace Go.Proofs.Ytkfejeomfdhmdaa
open Go.RowKit
set_option linter.unusedVariables false
namespace PRep
variable {w : World} {base P : Nat} {l : List DB} {vn vk vz vb : Value}

theorem fits_any (h : PRep w base P l vn vk vz vb) (hl : l.length ≤ 1000) (g cap : Nat) (ws : List ByteArray) (hw : Wds w g ws) (h0 : 0 < ws.length) :
    Calls Try.prog 31 #[.pointer (some ⟨P, 0, none⟩), .slice (some ⟨g, 0, none⟩) ws.length cap] w fun e w' => e = .returned (.bool (Rf.fits (dcs l) (ws.map ByteArray.toList))) ∧ Below w.heap.size w w' := by
  have hc := fun i hi => hw i hi
  have e0 := wd_map ws 0
  have e1 := wd_map ws 1
  have e2 := wd_map ws 2
  have e3 := wd_map ws 3
  have e4 := wd_map ws 4
  have hlm : (ws.map ByteArray.toList).length = ws.length := by simp
  unfold Rf.fits
  rw [e0, e1, e2, e3, e4, hlm]
  cases ho : ((ws.getD 0 ByteArray.empty).toList == [111, 117, 116]) with
  | true =>
    rw [if_pos (show _ = Rf.wOut from eq_of_beq ho)]
    by_cases hn : ws.length = 2
    · rw [hn, decide_eq_true rfl, Bool.true_and]
      exact h.fits_out hl g cap _ _ (hc 0 h0) (hc 1 (by omega)) ho
    · rw [decide_eq_false hn, Bool.false_and]
      exact h.fits_out_no hl g cap _ (hc 0 h0) ho _ (by simp; omega) (by omega)
  | false =>
    rw [if_neg (show ¬ _ = Rf.wOut from ne_of_beq_false ho)]
    cases hlo : ((ws.getD 0 ByteArray.empty).toList == [108, 111, 97, 100]) with
    | true =>
      rw [if_pos (show _ = Rf.wLoad from eq_of_beq hlo)]
      by_cases hn : ws.length = 4
      · rw [hn, decide_eq_true rfl, Bool.true_and]
        exact h.fits_load hl g cap _ _ _ _ (hc 0 h0) (hc 1 (by omega)) (hc 2 (by omega)) (hc 3 (by omega)) ho hlo
      · rw [decide_eq_false hn, Bool.false_and]
        exact h.fits_load_no hl g cap _ (hc 0 h0) ho hlo _ (by simp; omega) (by omega)
    | false =>
      rw [if_neg (show ¬ _ = Rf.wLoad from ne_of_beq_false hlo)]
      cases hst : ((ws.getD 0 ByteArray.empty).toList == [115, 116, 111, 114, 101]) with
      | true =>
        rw [if_pos (show _ = Rf.wStore from eq_of_beq hst)]
        by_cases hn : ws.length = 4
        · rw [hn, decide_eq_true rfl, Bool.true_and]
          exact h.fits_store hl g cap _ _ _ _ (hc 0 h0) (hc 1 (by omega)) (hc 2 (by omega)) (hc 3 (by omega)) ho hlo hst
        · rw [decide_eq_false hn, Bool.false_and]
          exact h.fits_store_no hl g cap _ (hc 0 h0) ho hlo hst _ (by simp; omega) (by omega)
      | false =>
        rw [if_neg (show ¬ _ = Rf.wStore from ne_of_beq_false hst)]
        by_cases h3 : ws.length = 3
        · rw [if_pos h3, h3]
          exact h.fits_three hl g cap _ _ _ (hc 0 h0) (hc 1 (by omega)) (hc 2 (by omega)) ho hlo hst
        · rw [if_neg h3]
          by_cases h5 : ws.length = 5
          · rw [if_pos h5, h5]
            exact h.fits_five hl g cap _ _ _ _ _ (hc 0 h0) (hc 1 (by omega)) (hc 2 (by omega)) (hc 3 (by omega)) (hc 4 (by omega)) ho hlo hst
          · rw [if_neg h5]
            exact h.fits_other hl g cap _ (hc 0 h0) ho hlo hst _ (by simp; omega) (by simp; omega) (by omega)

end PRep
end Go.Proofs.Ytkfejeomfdhmdaa
