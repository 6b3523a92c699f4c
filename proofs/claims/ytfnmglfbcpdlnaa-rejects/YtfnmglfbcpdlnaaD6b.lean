import Derived.Test.YtfnmglfbcpdlnaaD66
namespace Go.Proofs.Ytfnmglfbcpdlnaa
open Go.RowKit
set_option linter.unusedVariables false

theorem PRep.many_eq {w : World} {base P : Nat} {l : List DB} {vn vk vz vb : Value} (h : PRep w base P l vn vk vz vb) (s : ByteArray) (hl : l.length ≤ 1000) (m : Nat) (q : Lk.Wd) (hs : s.toList = q) (hm : Rf.many (dcs l) q = m) :
    Calls Try.prog 84 #[.pointer (some ⟨P, 0, none⟩), .string s] w fun e w' => e = .returned (.int .i64 m) ∧ w' = w := by
  rw [← hm, ← hs]; exact h.many_any s hl
theorem numeral_eq (s : ByteArray) (w : World) (z : Int) (h : Lk.intO (Lk.num? s.toList) = z) :
    Calls Try.prog 85 #[.string s] w fun e w' => e = .returned (.int .i64 z) ∧ Below w.heap.size w w' := by
  rw [← h]; exact numeral_any s w
theorem many_le (l : List DB) (q : Lk.Wd) : Rf.many (dcs l) q ≤ l.length := by rw [← countK_full]; exact countK_le l q _
theorem lit_sec : (⟨#[115, 101, 99, 114, 101, 116]⟩ : ByteArray).toList = Rf.wSecret := by rw [ByteArray.toList_eq]; rfl
theorem lit_pub : (⟨#[112, 117, 98, 108, 105, 99]⟩ : ByteArray).toList = Rf.wPublic := by rw [ByteArray.toList_eq]; rfl
theorem lit_var : (⟨#[118, 97, 114]⟩ : ByteArray).toList = Rf.wVar := by rw [ByteArray.toList_eq]; rfl
theorem lit_arr : (⟨#[97, 114, 114, 97, 121]⟩ : ByteArray).toList = Rf.wArray := by rw [ByteArray.toList_eq]; rfl

section
variable {w : World} {base P R : Nat} {l : List DB} {vn vk vz vb vl : Value} {s : Rf.Rs}

set_option maxRecDepth 100000 in
set_option maxHeartbeats 1000000 in
theorem decl_taken3 (h : PRep w base P l vn vk vz vb) (hl : l.length ≤ 1000) (g cap : Nat) (q0 q1 : ByteArray) (hc0 : w.cell? ⟨g, 0, none⟩ = some (.string q0)) (hc1 : w.cell? ⟨g, 1, none⟩ = some (.string q1)) (hp : w.cell? ⟨R, 0, none⟩ = some (.pointer (some ⟨P, 0, none⟩))) (hb : w.cell? ⟨R, 4, none⟩ = some (.bool false)) (hnm : Lk.isName q1.toList = true) (ha : (q0.toList == [97, 114, 114, 97, 121]) = true) (hk : (Rf.kindOf (dcs l) q1.toList).isEmpty = false) :
    Calls Try.prog 60 #[.pointer (some ⟨R, 0, none⟩), .slice (some ⟨g, 0, none⟩) 3 cap] w fun e w' => e = .returned (.bool false) ∧ Below w.heap.size w w' := by
  have hq : q1.size = 1 := by
    by_cases h : q1.size = 1
    · exact h
    · rw [isNameN h] at hnm; cases hnm
  have hqI : (q1.size : Int) = 1 := by omega
  obtain ⟨hn1, hn2⟩ := name_lo hq hnm
  have HP := hid h
  clear h hq hnm
  have HK := hid hk
  clear hk
  go_enter Try.func60, Try.ntmps60
  go_wp2_with (first
    | (go_at_call 83; refine (HP.out.kind_any q1 hl).mono ?_; rintro e w0 ⟨kq, rfl, hkq, rfl⟩; have hke : kq.toList.isEmpty = false := (by rw [hkq]; exact HK.out); have HKQ := hid hkq; clear hkq))
  go_ret
  exact ⟨rfl, Below.refl _ _⟩

set_option maxRecDepth 100000 in
set_option maxHeartbeats 1000000 in
theorem decl_taken2 (h : PRep w base P l vn vk vz vb) (hl : l.length ≤ 1000) (g cap : Nat) (q0 q1 : ByteArray) (hc0 : w.cell? ⟨g, 0, none⟩ = some (.string q0)) (hc1 : w.cell? ⟨g, 1, none⟩ = some (.string q1)) (hp : w.cell? ⟨R, 0, none⟩ = some (.pointer (some ⟨P, 0, none⟩))) (hb : w.cell? ⟨R, 4, none⟩ = some (.bool false)) (hnm : Lk.isName q1.toList = true) (ha : (q0.toList == [97, 114, 114, 97, 121]) = false) (hk : (Rf.kindOf (dcs l) q1.toList).isEmpty = false) :
    Calls Try.prog 60 #[.pointer (some ⟨R, 0, none⟩), .slice (some ⟨g, 0, none⟩) 2 cap] w fun e w' => e = .returned (.bool false) ∧ Below w.heap.size w w' := by
  have hq : q1.size = 1 := by
    by_cases h : q1.size = 1
    · exact h
    · rw [isNameN h] at hnm; cases hnm
  have hqI : (q1.size : Int) = 1 := by omega
  obtain ⟨hn1, hn2⟩ := name_lo hq hnm
  have HP := hid h
  clear h hq hnm
  have HK := hid hk
  clear hk
  go_enter Try.func60, Try.ntmps60
  go_wp2_with (first
    | (go_at_call 83; refine (HP.out.kind_any q1 hl).mono ?_; rintro e w0 ⟨kq, rfl, hkq, rfl⟩; have hke : kq.toList.isEmpty = false := (by rw [hkq]; exact HK.out); have HKQ := hid hkq; clear hkq))
  go_ret
  exact ⟨rfl, Below.refl _ _⟩

set_option maxRecDepth 100000 in
set_option maxHeartbeats 1000000 in
theorem decl_arr_no (h : PRep w base P l vn vk vz vb) (hl : l.length ≤ 1000) (g cap : Nat) (q0 q1 : ByteArray) (hc0 : w.cell? ⟨g, 0, none⟩ = some (.string q0)) (hc1 : w.cell? ⟨g, 1, none⟩ = some (.string q1)) (hp : w.cell? ⟨R, 0, none⟩ = some (.pointer (some ⟨P, 0, none⟩))) (hb : w.cell? ⟨R, 4, none⟩ = some (.bool false)) (hnm : Lk.isName q1.toList = true) (ha : (q0.toList == [97, 114, 114, 97, 121]) = true) (hk : (Rf.kindOf (dcs l) q1.toList).isEmpty = true) (q2 : ByteArray) (hc2 : w.cell? ⟨g, 2, none⟩ = some (.string q2)) (z : Int) (hz : Lk.intO (Lk.num? q2.toList) = z) (hno : z < 1 ∨ 4 < z ∨ 2 ≤ Rf.many (dcs l) Rf.wArray) :
    Calls Try.prog 60 #[.pointer (some ⟨R, 0, none⟩), .slice (some ⟨g, 0, none⟩) 3 cap] w fun e w' => e = .returned (.bool false) ∧ Below w.heap.size w w' := by
  have hq : q1.size = 1 := by
    by_cases h : q1.size = 1
    · exact h
    · rw [isNameN h] at hnm; cases hnm
  have hqI : (q1.size : Int) = 1 := by omega
  obtain ⟨hn1, hn2⟩ := name_lo hq hnm
  have HP := hid h
  clear h hq hnm
  have HK := hid hk
  clear hk
  obtain ⟨ms, hms⟩ : ∃ m, Rf.many (dcs l) Rf.wSecret = m := ⟨_, rfl⟩
  obtain ⟨mp, hmp⟩ : ∃ m, Rf.many (dcs l) Rf.wPublic = m := ⟨_, rfl⟩
  obtain ⟨mv, hmv⟩ : ∃ m, Rf.many (dcs l) Rf.wVar = m := ⟨_, rfl⟩
  obtain ⟨ma, hma⟩ : ∃ m, Rf.many (dcs l) Rf.wArray = m := ⟨_, rfl⟩
  have l1 := many_le l Rf.wSecret
  have l2 := many_le l Rf.wPublic
  rw [hms] at l1
  rw [hmp] at l2
  rw [hma] at hno
  have HZ := hid hz
  clear hz
  have HM1 := hid hms
  have HM2 := hid hmp
  have HM3 := hid hmv
  have HM4 := hid hma
  have l1I : (ms : Int) ≤ 1000 := by omega
  have l2I : (mp : Int) ≤ 1000 := by omega
  clear hms hmp hmv hma l1 l2
  by_cases h1 : z < 1
  · clear hno
    go_enter Try.func60, Try.ntmps60
    go_wp2_with (first
      | (go_at_call 83; refine (HP.out.kind_any q1 hl).mono ?_; rintro e w0 ⟨kq, rfl, hkq, rfl⟩; have hke : kq.toList.isEmpty = true := (by rw [hkq]; exact HK.out); have HKQ := hid hkq; clear hkq)
      | (go_at_call_of 84 (Value.string { data := #[115, 101, 99, 114, 101, 116] }); refine (HP.out.many_eq _ hl ms Rf.wSecret lit_sec HM1.out).mono ?_; rintro e w0 ⟨rfl, rfl⟩)
      | (go_at_call_of 84 (Value.string { data := #[112, 117, 98, 108, 105, 99] }); refine (HP.out.many_eq _ hl mp Rf.wPublic lit_pub HM2.out).mono ?_; rintro e w0 ⟨rfl, rfl⟩)
      | (go_at_call_of 84 (Value.string { data := #[118, 97, 114] }); refine (HP.out.many_eq _ hl mv Rf.wVar lit_var HM3.out).mono ?_; rintro e w0 ⟨rfl, rfl⟩)
      | (go_at_call_of 84 (Value.string { data := #[97, 114, 114, 97, 121] }); refine (HP.out.many_eq _ hl ma Rf.wArray lit_arr HM4.out).mono ?_; rintro e w0 ⟨rfl, rfl⟩)
      | (go_at_call 85; refine (numeral_eq q2 _ z HZ.out).mono ?_; rintro e w1 ⟨rfl, hb1⟩; have HB1 := hid hb1; have z1 := hb1.size; clear hb1))
    go_ret
    exact ⟨rfl, HB1.out⟩
  · have h1' : 1 ≤ z := by omega
    by_cases h4 : 4 < z
    · clear hno h1
      go_enter Try.func60, Try.ntmps60
      go_wp2_with (first
        | (go_at_call 83; refine (HP.out.kind_any q1 hl).mono ?_; rintro e w0 ⟨kq, rfl, hkq, rfl⟩; have hke : kq.toList.isEmpty = true := (by rw [hkq]; exact HK.out); have HKQ := hid hkq; clear hkq)
        | (go_at_call_of 84 (Value.string { data := #[115, 101, 99, 114, 101, 116] }); refine (HP.out.many_eq _ hl ms Rf.wSecret lit_sec HM1.out).mono ?_; rintro e w0 ⟨rfl, rfl⟩)
        | (go_at_call_of 84 (Value.string { data := #[112, 117, 98, 108, 105, 99] }); refine (HP.out.many_eq _ hl mp Rf.wPublic lit_pub HM2.out).mono ?_; rintro e w0 ⟨rfl, rfl⟩)
        | (go_at_call_of 84 (Value.string { data := #[118, 97, 114] }); refine (HP.out.many_eq _ hl mv Rf.wVar lit_var HM3.out).mono ?_; rintro e w0 ⟨rfl, rfl⟩)
        | (go_at_call_of 84 (Value.string { data := #[97, 114, 114, 97, 121] }); refine (HP.out.many_eq _ hl ma Rf.wArray lit_arr HM4.out).mono ?_; rintro e w0 ⟨rfl, rfl⟩)
        | (go_at_call 85; refine (numeral_eq q2 _ z HZ.out).mono ?_; rintro e w1 ⟨rfl, hb1⟩; have HB1 := hid hb1; have z1 := hb1.size; clear hb1))
      go_ret
      exact ⟨rfl, HB1.out⟩
    · have h4' : z ≤ 4 := by omega
      have ha2 : (2 : Int) ≤ (ma : Int) := by omega
      clear hno h1 h4
      go_enter Try.func60, Try.ntmps60
      go_wp2_with (first
        | (go_at_call 83; refine (HP.out.kind_any q1 hl).mono ?_; rintro e w0 ⟨kq, rfl, hkq, rfl⟩; have hke : kq.toList.isEmpty = true := (by rw [hkq]; exact HK.out); have HKQ := hid hkq; clear hkq)
        | (go_at_call_of 84 (Value.string { data := #[115, 101, 99, 114, 101, 116] }); refine (HP.out.many_eq _ hl ms Rf.wSecret lit_sec HM1.out).mono ?_; rintro e w0 ⟨rfl, rfl⟩)
        | (go_at_call_of 84 (Value.string { data := #[112, 117, 98, 108, 105, 99] }); refine (HP.out.many_eq _ hl mp Rf.wPublic lit_pub HM2.out).mono ?_; rintro e w0 ⟨rfl, rfl⟩)
        | (go_at_call_of 84 (Value.string { data := #[118, 97, 114] }); refine (HP.out.many_eq _ hl mv Rf.wVar lit_var HM3.out).mono ?_; rintro e w0 ⟨rfl, rfl⟩)
        | (go_at_call_of 84 (Value.string { data := #[97, 114, 114, 97, 121] }); refine (HP.out.many_eq _ hl ma Rf.wArray lit_arr HM4.out).mono ?_; rintro e w0 ⟨rfl, rfl⟩)
        | (go_at_call 85; refine (numeral_eq q2 _ z HZ.out).mono ?_; rintro e w1 ⟨rfl, hb1⟩; have HB1 := hid hb1; have z1 := hb1.size; clear hb1))
      go_ret
      exact ⟨rfl, HB1.out⟩

set_option maxRecDepth 100000 in
set_option maxHeartbeats 1000000 in
theorem decl_var_no (h : PRep w base P l vn vk vz vb) (hl : l.length ≤ 1000) (g cap : Nat) (q0 q1 : ByteArray) (hc0 : w.cell? ⟨g, 0, none⟩ = some (.string q0)) (hc1 : w.cell? ⟨g, 1, none⟩ = some (.string q1)) (hp : w.cell? ⟨R, 0, none⟩ = some (.pointer (some ⟨P, 0, none⟩))) (hb : w.cell? ⟨R, 4, none⟩ = some (.bool false)) (hnm : Lk.isName q1.toList = true) (ha : (q0.toList == [97, 114, 114, 97, 121]) = false) (hv : (q0.toList == [118, 97, 114]) = true) (hk : (Rf.kindOf (dcs l) q1.toList).isEmpty = true) (hno : 4 ≤ Rf.many (dcs l) Rf.wVar) :
    Calls Try.prog 60 #[.pointer (some ⟨R, 0, none⟩), .slice (some ⟨g, 0, none⟩) 2 cap] w fun e w' => e = .returned (.bool false) ∧ Below w.heap.size w w' := by
  have hq : q1.size = 1 := by
    by_cases h : q1.size = 1
    · exact h
    · rw [isNameN h] at hnm; cases hnm
  have hqI : (q1.size : Int) = 1 := by omega
  obtain ⟨hn1, hn2⟩ := name_lo hq hnm
  have HP := hid h
  clear h hq hnm
  have HK := hid hk
  clear hk
  obtain ⟨ms, hms⟩ : ∃ m, Rf.many (dcs l) Rf.wSecret = m := ⟨_, rfl⟩
  obtain ⟨mp, hmp⟩ : ∃ m, Rf.many (dcs l) Rf.wPublic = m := ⟨_, rfl⟩
  obtain ⟨mv, hmv⟩ : ∃ m, Rf.many (dcs l) Rf.wVar = m := ⟨_, rfl⟩
  obtain ⟨ma, hma⟩ : ∃ m, Rf.many (dcs l) Rf.wArray = m := ⟨_, rfl⟩
  have l1 := many_le l Rf.wSecret
  have l2 := many_le l Rf.wPublic
  rw [hms] at l1
  rw [hmp] at l2
  rw [hmv] at hno
  have HM1 := hid hms
  have HM2 := hid hmp
  have HM3 := hid hmv
  have HM4 := hid hma
  have l1I : (ms : Int) ≤ 1000 := by omega
  have l2I : (mp : Int) ≤ 1000 := by omega
  clear hms hmp hmv hma l1 l2
  have h4 : (4 : Int) ≤ (mv : Int) := by omega
  clear hno
  go_enter Try.func60, Try.ntmps60
  go_wp2_with (first
    | (go_at_call 83; refine (HP.out.kind_any q1 hl).mono ?_; rintro e w0 ⟨kq, rfl, hkq, rfl⟩; have hke : kq.toList.isEmpty = true := (by rw [hkq]; exact HK.out); have HKQ := hid hkq; clear hkq)
    | (go_at_call_of 84 (Value.string { data := #[115, 101, 99, 114, 101, 116] }); refine (HP.out.many_eq _ hl ms Rf.wSecret lit_sec HM1.out).mono ?_; rintro e w0 ⟨rfl, rfl⟩)
    | (go_at_call_of 84 (Value.string { data := #[112, 117, 98, 108, 105, 99] }); refine (HP.out.many_eq _ hl mp Rf.wPublic lit_pub HM2.out).mono ?_; rintro e w0 ⟨rfl, rfl⟩)
    | (go_at_call_of 84 (Value.string { data := #[118, 97, 114] }); refine (HP.out.many_eq _ hl mv Rf.wVar lit_var HM3.out).mono ?_; rintro e w0 ⟨rfl, rfl⟩)
    | (go_at_call_of 84 (Value.string { data := #[97, 114, 114, 97, 121] }); refine (HP.out.many_eq _ hl ma Rf.wArray lit_arr HM4.out).mono ?_; rintro e w0 ⟨rfl, rfl⟩))
  go_ret
  exact ⟨rfl, Below.refl _ _⟩

set_option maxRecDepth 100000 in
set_option maxHeartbeats 1000000 in
theorem decl_in_no (h : PRep w base P l vn vk vz vb) (hl : l.length ≤ 1000) (g cap : Nat) (q0 q1 : ByteArray) (hc0 : w.cell? ⟨g, 0, none⟩ = some (.string q0)) (hc1 : w.cell? ⟨g, 1, none⟩ = some (.string q1)) (hp : w.cell? ⟨R, 0, none⟩ = some (.pointer (some ⟨P, 0, none⟩))) (hb : w.cell? ⟨R, 4, none⟩ = some (.bool false)) (hnm : Lk.isName q1.toList = true) (ha : (q0.toList == [97, 114, 114, 97, 121]) = false) (hv : (q0.toList == [118, 97, 114]) = false) (hk : (Rf.kindOf (dcs l) q1.toList).isEmpty = true) (hno : 0 < Rf.many (dcs l) Rf.wVar ∨ 3 ≤ Rf.many (dcs l) Rf.wSecret + Rf.many (dcs l) Rf.wPublic) :
    Calls Try.prog 60 #[.pointer (some ⟨R, 0, none⟩), .slice (some ⟨g, 0, none⟩) 2 cap] w fun e w' => e = .returned (.bool false) ∧ Below w.heap.size w w' := by
  have hq : q1.size = 1 := by
    by_cases h : q1.size = 1
    · exact h
    · rw [isNameN h] at hnm; cases hnm
  have hqI : (q1.size : Int) = 1 := by omega
  obtain ⟨hn1, hn2⟩ := name_lo hq hnm
  have HP := hid h
  clear h hq hnm
  have HK := hid hk
  clear hk
  obtain ⟨ms, hms⟩ : ∃ m, Rf.many (dcs l) Rf.wSecret = m := ⟨_, rfl⟩
  obtain ⟨mp, hmp⟩ : ∃ m, Rf.many (dcs l) Rf.wPublic = m := ⟨_, rfl⟩
  obtain ⟨mv, hmv⟩ : ∃ m, Rf.many (dcs l) Rf.wVar = m := ⟨_, rfl⟩
  obtain ⟨ma, hma⟩ : ∃ m, Rf.many (dcs l) Rf.wArray = m := ⟨_, rfl⟩
  have l1 := many_le l Rf.wSecret
  have l2 := many_le l Rf.wPublic
  rw [hms] at l1
  rw [hmp] at l2
  rw [hmv, hms, hmp] at hno
  have HM1 := hid hms
  have HM2 := hid hmp
  have HM3 := hid hmv
  have HM4 := hid hma
  have l1I : (ms : Int) ≤ 1000 := by omega
  have l2I : (mp : Int) ≤ 1000 := by omega
  clear hms hmp hmv hma l1 l2
  by_cases h1 : 0 < mv
  · have h1I : (0 : Int) < (mv : Int) := by omega
    clear hno h1
    go_enter Try.func60, Try.ntmps60
    go_wp2_with (first
      | (go_at_call 83; refine (HP.out.kind_any q1 hl).mono ?_; rintro e w0 ⟨kq, rfl, hkq, rfl⟩; have hke : kq.toList.isEmpty = true := (by rw [hkq]; exact HK.out); have HKQ := hid hkq; clear hkq)
      | (go_at_call_of 84 (Value.string { data := #[115, 101, 99, 114, 101, 116] }); refine (HP.out.many_eq _ hl ms Rf.wSecret lit_sec HM1.out).mono ?_; rintro e w0 ⟨rfl, rfl⟩)
      | (go_at_call_of 84 (Value.string { data := #[112, 117, 98, 108, 105, 99] }); refine (HP.out.many_eq _ hl mp Rf.wPublic lit_pub HM2.out).mono ?_; rintro e w0 ⟨rfl, rfl⟩)
      | (go_at_call_of 84 (Value.string { data := #[118, 97, 114] }); refine (HP.out.many_eq _ hl mv Rf.wVar lit_var HM3.out).mono ?_; rintro e w0 ⟨rfl, rfl⟩)
      | (go_at_call_of 84 (Value.string { data := #[97, 114, 114, 97, 121] }); refine (HP.out.many_eq _ hl ma Rf.wArray lit_arr HM4.out).mono ?_; rintro e w0 ⟨rfl, rfl⟩))
    go_ret
    exact ⟨rfl, Below.refl _ _⟩
  · have h1I : ¬ (0 : Int) < (mv : Int) := by omega
    have h3 : (3 : Int) ≤ (ms : Int) + (mp : Int) := by omega
    clear hno h1
    go_enter Try.func60, Try.ntmps60
    go_wp2_with (first
      | (go_at_call 83; refine (HP.out.kind_any q1 hl).mono ?_; rintro e w0 ⟨kq, rfl, hkq, rfl⟩; have hke : kq.toList.isEmpty = true := (by rw [hkq]; exact HK.out); have HKQ := hid hkq; clear hkq)
      | (go_at_call_of 84 (Value.string { data := #[115, 101, 99, 114, 101, 116] }); refine (HP.out.many_eq _ hl ms Rf.wSecret lit_sec HM1.out).mono ?_; rintro e w0 ⟨rfl, rfl⟩)
      | (go_at_call_of 84 (Value.string { data := #[112, 117, 98, 108, 105, 99] }); refine (HP.out.many_eq _ hl mp Rf.wPublic lit_pub HM2.out).mono ?_; rintro e w0 ⟨rfl, rfl⟩)
      | (go_at_call_of 84 (Value.string { data := #[118, 97, 114] }); refine (HP.out.many_eq _ hl mv Rf.wVar lit_var HM3.out).mono ?_; rintro e w0 ⟨rfl, rfl⟩)
      | (go_at_call_of 84 (Value.string { data := #[97, 114, 114, 97, 121] }); refine (HP.out.many_eq _ hl ma Rf.wArray lit_arr HM4.out).mono ?_; rintro e w0 ⟨rfl, rfl⟩))
    go_ret
    exact ⟨rfl, Below.refl _ _⟩

end
end Go.Proofs.Ytfnmglfbcpdlnaa
