import Derived.Test.YtgddmpmcnjlcjabGreatDoorB32
import Derived.Test.YtgddmpmcnjlcjabGreatDoorB07
import Derived.Deep.RegionLaw
import Derived.WalkLawsBesides
namespace Go.Proofs.YtgddmpmcnjlcjabGreatDoor
open Go.RowKit
set_option linter.unusedVariables false
def fcell (P : Nat) (vl : Value) (s : Rf.Rs) (i : Nat) : Value :=
  if i = 0 then .pointer (some ⟨P, 0, none⟩) else if i = 1 then vl else if i = 2 then .int .i64 s.at_ else if i = 3 then .int .i64 s.cnt else .bool s.bdy
theorem name_lo {q : ByteArray} (h : q.size = 1) (hn : Lk.isName q.toList = true) : Op.bytesLess q.toList [97] = false ∧ (Op.bytesLess q.toList [122] || q.toList == [122]) = true := by
  rw [isName1 h] at hn
  rw [tl1 h]
  simp at hn
  have e1 : ¬ q[0] < 97 := by rw [UInt8.lt_iff_toNat_lt]; show ¬ q[0].toNat < 97; omega
  refine ⟨by simp [Op.bytesLess, e1], ?_⟩
  by_cases e : q[0] = 122
  · simp [e]
  · have : q[0] < 122 := by
      rw [UInt8.lt_iff_toNat_lt]; show q[0].toNat < 122
      have : q[0].toNat ≠ 122 := fun h => e (UInt8.toNat_inj.1 h)
      omega
    simp [Op.bytesLess, this]
theorem name_no {q : ByteArray} (h : q.size = 1) (hn : Lk.isName q.toList = false) : Op.bytesLess q.toList [97] = true ∨ (Op.bytesLess q.toList [97] = false ∧ (Op.bytesLess q.toList [122] || q.toList == [122]) = false) := by
  rw [isName1 h] at hn
  rw [tl1 h]
  by_cases h1 : q[0] < 97
  · left; simp [Op.bytesLess, h1]
  · right
    have h1' : ¬ q[0].toNat < 97 := by rw [UInt8.lt_iff_toNat_lt] at h1; exact h1
    have h2 : 122 < q[0].toNat := by
      simp at hn
      have := hn (by omega)
      omega
    have e2 : ¬ q[0] < 122 := by rw [UInt8.lt_iff_toNat_lt]; show ¬ q[0].toNat < 122; omega
    have e3 : q[0] ≠ 122 := fun h => by rw [h] at h2; simp at h2
    simp [Op.bytesLess, h1, e2, e3]
section
variable {w : World} {base P R : Nat} {l : List DB} {vn vk vz vb vl : Value} {s : Rf.Rs}
set_option maxRecDepth 100000 in
set_option maxHeartbeats 1000000 in
theorem decl_body (h : PRep w base P l vn vk vz vb) (hl : l.length ≤ 1000) (g cap : Nat) (q0 q1 : ByteArray) (hc0 : w.cell? ⟨g, 0, none⟩ = some (.string q0)) (hp : w.cell? ⟨R, 0, none⟩ = some (.pointer (some ⟨P, 0, none⟩))) (hb : w.cell? ⟨R, 4, none⟩ = some (.bool true)) (n : Nat) (hn0 : (0 : Int) < (n : Int)) :
    Calls Tryz.prog 62 #[.pointer (some ⟨R, 0, none⟩), .slice (some ⟨g, 0, none⟩) n cap] w fun e w' => e = .returned (.bool false) ∧ Below w.heap.size w w' := by
  clear h
  cases ha : (q0.toList == [97, 114, 114, 97, 121])
  all_goals
    go_enter Tryz.func62, Tryz.ntmps62
    go_wp2_with fail
    go_ret
    exact ⟨rfl, Below.refl _ _⟩
set_option maxRecDepth 100000 in
set_option maxHeartbeats 1000000 in
theorem decl_len (h : PRep w base P l vn vk vz vb) (hl : l.length ≤ 1000) (g cap : Nat) (q0 q1 : ByteArray) (hc0 : w.cell? ⟨g, 0, none⟩ = some (.string q0)) (hp : w.cell? ⟨R, 0, none⟩ = some (.pointer (some ⟨P, 0, none⟩))) (hb : w.cell? ⟨R, 4, none⟩ = some (.bool false)) (n : Nat) (hn0 : (0 : Int) < (n : Int)) (hn : n ≠ if q0.toList = Rf.wArray then 3 else 2) :
    Calls Tryz.prog 62 #[.pointer (some ⟨R, 0, none⟩), .slice (some ⟨g, 0, none⟩) n cap] w fun e w' => e = .returned (.bool false) ∧ Below w.heap.size w w' := by
  clear h
  cases ha : (q0.toList == [97, 114, 114, 97, 121]) with
  | true =>
    rw [if_pos (show _ = Rf.wArray from eq_of_beq ha)] at hn
    have hnI : ((n : Int) != 3) = true := by simp; omega
    clear hn
    go_enter Tryz.func62, Tryz.ntmps62
    go_wp2_with fail
    go_ret
    exact ⟨rfl, Below.refl _ _⟩
  | false =>
    rw [if_neg (show ¬ _ = Rf.wArray from ne_of_beq_false ha)] at hn
    have hnI : ((n : Int) != 2) = true := by simp; omega
    clear hn
    go_enter Tryz.func62, Tryz.ntmps62
    go_wp2_with fail
    go_ret
    exact ⟨rfl, Below.refl _ _⟩
set_option maxRecDepth 100000 in
set_option maxHeartbeats 1000000 in
theorem decl_name (h : PRep w base P l vn vk vz vb) (hl : l.length ≤ 1000) (g cap : Nat) (q0 q1 : ByteArray) (hc0 : w.cell? ⟨g, 0, none⟩ = some (.string q0)) (hp : w.cell? ⟨R, 0, none⟩ = some (.pointer (some ⟨P, 0, none⟩))) (hb : w.cell? ⟨R, 4, none⟩ = some (.bool false)) (hc1 : w.cell? ⟨g, 1, none⟩ = some (.string q1)) (n : Nat) (hn0 : (0 : Int) < (n : Int)) (hn1 : (1 : Int) < (n : Int)) (hn : n = if q0.toList = Rf.wArray then 3 else 2) (hnm : Lk.isName q1.toList = false) :
    Calls Tryz.prog 62 #[.pointer (some ⟨R, 0, none⟩), .slice (some ⟨g, 0, none⟩) n cap] w fun e w' => e = .returned (.bool false) ∧ Below w.heap.size w w' := by
  clear h
  by_cases hq : q1.size = 1
  · have hqI : (q1.size : Int) = 1 := by omega
    have hnn := name_no hq hnm
    clear hnm hq
    cases ha : (q0.toList == [97, 114, 114, 97, 121]) with
    | true =>
      rw [if_pos (show _ = Rf.wArray from eq_of_beq ha)] at hn
      subst hn
      rcases hnn with h1 | ⟨h1, h2⟩
      all_goals
        go_enter Tryz.func62, Tryz.ntmps62
        go_wp2_with fail
        go_ret
        exact ⟨rfl, Below.refl _ _⟩
    | false =>
      rw [if_neg (show ¬ _ = Rf.wArray from ne_of_beq_false ha)] at hn
      subst hn
      rcases hnn with h1 | ⟨h1, h2⟩
      all_goals
        go_enter Tryz.func62, Tryz.ntmps62
        go_wp2_with fail
        go_ret
        exact ⟨rfl, Below.refl _ _⟩
  · have hqI : ((q1.size : Int) != 1) = true := by simp; omega
    clear hnm hq
    cases ha : (q0.toList == [97, 114, 114, 97, 121]) with
    | true =>
      rw [if_pos (show _ = Rf.wArray from eq_of_beq ha)] at hn
      subst hn
      go_enter Tryz.func62, Tryz.ntmps62
      go_wp2_with fail
      go_ret
      exact ⟨rfl, Below.refl _ _⟩
    | false =>
      rw [if_neg (show ¬ _ = Rf.wArray from ne_of_beq_false ha)] at hn
      subst hn
      go_enter Tryz.func62, Tryz.ntmps62
      go_wp2_with fail
      go_ret
      exact ⟨rfl, Below.refl _ _⟩
end
end Go.Proofs.YtgddmpmcnjlcjabGreatDoor
namespace Go.Proofs.YtgddmpmcnjlcjabGreatDoor
open Go.RowKit
set_option linter.unusedVariables false
structure PRepF (w : World) (base P : Nat) (f : Nat → Value) (ns ks : List ByteArray) (zs : List Nat) (vn vk vz : Value) : Prop where
  row : w.rowIs P 89 4 f
  ge : base ≤ P
  nm : w.ownsRow base 9 1 vn ns.length (ns.map Value.string)
  kd : w.ownsRow base 9 1 vk ks.length (ks.map Value.string)
  sz : w.ownsRow base 3 1 vz zs.length (zs.map fun (n : Nat) => .int .i64 n)
  np : vn.ownBlock ≠ some P
  kp : vk.ownBlock ≠ some P
  zp : vz.ownBlock ≠ some P
  nk : vn.ownBlock = none ∨ vn.ownBlock ≠ vk.ownBlock
  nz : vn.ownBlock = none ∨ vn.ownBlock ≠ vz.ownBlock
  kz : vk.ownBlock = none ∨ vk.ownBlock ≠ vz.ownBlock
theorem PRep.toF {w : World} {base P : Nat} {l : List DB} {vn vk vz vb : Value} (h : PRep w base P l vn vk vz vb) : PRepF w base P (pcell vn vk vz vb) (l.map DB.name) (l.map DB.kind) (l.map DB.size) vn vk vz :=
  ⟨h.row, h.ge, by simpa [List.map_map, Function.comp_def] using h.nm, by simpa [List.map_map, Function.comp_def] using h.kd, by simpa [List.map_map, Function.comp_def] using h.sz, h.np, h.kp, h.zp, h.nk, h.nz, h.kz⟩
namespace PRepF
variable {w : World} {base P : Nat} {f : Nat → Value} {ns ks : List ByteArray} {zs : List Nat} {vn vk vz : Value}
theorem lt (h : PRepF w base P f ns ks zs vn vk vz) : P < w.heap.size := h.row.lt
theorem baseLe (h : PRepF w base P f ns ks zs vn vk vz) : base ≤ w.heap.size := Nat.le_of_lt (Nat.lt_of_le_of_lt h.ge h.lt)
theorem later {w' : World} (h : PRepF w base P f ns ks zs vn vk vz) (hb : ∀ k, k < w.heap.size → w'.heap[k]? = w.heap[k]?) : PRepF w' base P f ns ks zs vn vk vz :=
  ⟨h.row.of_block (hb P h.row.lt), h.ge, ownsRow_same h.nm hb, ownsRow_same h.kd hb, ownsRow_same h.sz hb, h.np, h.kp, h.zp, h.nk, h.nz, h.kz⟩
theorem alloc (h : PRepF w base P f ns ks zs vn vk vz) (o : Obj) : PRepF (w.alloc o) base P f ns ks zs vn vk vz := h.later fun k hk => Below.heap_alloc w o k hk
theorem drew (h : PRepF w base P f ns ks zs vn vk vz) : PRepF w.drew base P f ns ks zs vn vk vz := h.later fun _ _ => rfl
theorem below {w' : World} (h : PRepF w base P f ns ks zs vn vk vz) (hb : Below w.heap.size w w') : PRepF w' base P f ns ks zs vn vk vz := h.later hb.block
theorem put (h : PRepF w base P f ns ks zs vn vk vz) (i : Nat) (x : Value) : PRepF (w.setCell ⟨P, i, none⟩ x) base P (fun j => if j = i then x else f j) ns ks zs vn vk vz :=
  ⟨h.row.set i x, h.ge, ownsRow_setCell h.nm h.np x, ownsRow_setCell h.kd h.kp x, ownsRow_setCell h.sz h.zp x, h.np, h.kp, h.zp, h.nk, h.nz, h.kz⟩
theorem toP {l : List DB} {vb : Value} (h : PRepF w base P f (l.map DB.name) (l.map DB.kind) (l.map DB.size) vn vk vz) (hf : ∀ i, i < 4 → f i = pcell vn vk vz vb i) : PRep w base P l vn vk vz vb :=
  ⟨h.row.congr hf, h.ge, by simpa [List.map_map, Function.comp_def] using h.nm, by simpa [List.map_map, Function.comp_def] using h.kd, by simpa [List.map_map, Function.comp_def] using h.sz, h.np, h.kp, h.zp, h.nk, h.nz, h.kz⟩
theorem growZ {w' : World} {zs' : List Nat} {g cap : Nat} {n : Nat} (h : PRepF w base P f ns ks zs vn vk vz) (hg : w.grownBy w' vz.ownBlock)
    (hown : w'.ownsRow base 3 1 (.slice (some ⟨g, 0, none⟩) n cap) zs'.length (zs'.map fun (n : Nat) => .int .i64 n)) (hat : vz.ownBlock = some g ∨ g = w.heap.size) :
    PRepF w' base P f ns ks zs' vn vk (.slice (some ⟨g, 0, none⟩) n cap) := by
  have hs : vn.ownBlock = none ∨ vn.ownBlock ≠ some g := by
    rcases hat with e | e
    · rw [← e]; exact h.nz
    · right; intro hv; have := (h.nm.lt g hv).2; omega
  have hc : vk.ownBlock = none ∨ vk.ownBlock ≠ some g := by
    rcases hat with e | e
    · rw [← e]; exact h.kz
    · right; intro hv; have := (h.kd.lt g hv).2; omega
  have hb : g ≠ P := by
    rcases hat with e | e
    · intro he; subst he; exact h.zp e
    · have := h.lt; omega
  exact ⟨rowIs_grown h.row hg h.zp, h.ge, h.nm.kept hg h.nz, h.kd.kept hg h.kz, hown, h.np, h.kp, by simpa [Value.ownBlock] using hb, h.nk, by simpa [Value.ownBlock] using hs, by simpa [Value.ownBlock] using hc⟩
theorem growN {w' : World} {ns' : List ByteArray} {g cap : Nat} {n : Nat} (h : PRepF w base P f ns ks zs vn vk vz) (hg : w.grownBy w' vn.ownBlock)
    (hown : w'.ownsRow base 9 1 (.slice (some ⟨g, 0, none⟩) n cap) ns'.length (ns'.map Value.string)) (hat : vn.ownBlock = some g ∨ g = w.heap.size) :
    PRepF w' base P f ns' ks zs (.slice (some ⟨g, 0, none⟩) n cap) vk vz := by
  have hsb : vz.ownBlock = none ∨ vz.ownBlock ≠ some g := by
    rcases hat with e | e
    · right; intro hv; rcases h.nz with k | k
      · rw [e] at k; cases k
      · exact k (e.trans hv.symm)
    · right; intro hv; have := (h.sz.lt g hv).2; omega
  have hsc : vk.ownBlock = none ∨ vk.ownBlock ≠ some g := by
    rcases hat with e | e
    · right; intro hv; rcases h.nk with k | k
      · rw [e] at k; cases k
      · exact k (e.trans hv.symm)
    · right; intro hv; have := (h.kd.lt g hv).2; omega
  have hb : g ≠ P := by
    rcases hat with e | e
    · intro he; subst he; exact h.np e
    · have := h.lt; omega
  have k1 : vz.ownBlock = none ∨ vz.ownBlock ≠ vn.ownBlock := by
    rcases h.nz with k | k
    · rcases hv : vz.ownBlock with _ | x
      · exact .inl rfl
      · right; rw [k]; simp
    · exact .inr (Ne.symm k)
  have k2 : vk.ownBlock = none ∨ vk.ownBlock ≠ vn.ownBlock := by
    rcases h.nk with k | k
    · rcases hv : vk.ownBlock with _ | x
      · exact .inl rfl
      · right; rw [k]; simp
    · exact .inr (Ne.symm k)
  refine ⟨rowIs_grown h.row hg h.np, h.ge, hown, h.kd.kept hg k2, h.sz.kept hg k1, by simpa [Value.ownBlock] using hb, h.kp, h.zp, ?_, ?_, h.kz⟩
  · right
    intro (hv : some g = vk.ownBlock)
    rcases hsc with k | k
    · rw [k] at hv; cases hv
    · exact k hv.symm
  · right
    intro (hv : some g = vz.ownBlock)
    rcases hsb with k | k
    · rw [k] at hv; cases hv
    · exact k hv.symm
theorem growK {w' : World} {ks' : List ByteArray} {g cap : Nat} {n : Nat} (h : PRepF w base P f ns ks zs vn vk vz) (hg : w.grownBy w' vk.ownBlock)
    (hown : w'.ownsRow base 9 1 (.slice (some ⟨g, 0, none⟩) n cap) ks'.length (ks'.map Value.string)) (hat : vk.ownBlock = some g ∨ g = w.heap.size) :
    PRepF w' base P f ns ks' zs vn (.slice (some ⟨g, 0, none⟩) n cap) vz := by
  have hsb : vz.ownBlock = none ∨ vz.ownBlock ≠ some g := by
    rcases hat with e | e
    · right; intro hv; rcases h.kz with k | k
      · rw [e] at k; cases k
      · exact k (e.trans hv.symm)
    · right; intro hv; have := (h.sz.lt g hv).2; omega
  have hsc : vn.ownBlock = none ∨ vn.ownBlock ≠ some g := by
    rcases hat with e | e
    · rw [← e]; exact h.nk
    · right; intro hv; have := (h.nm.lt g hv).2; omega
  have hb : g ≠ P := by
    rcases hat with e | e
    · intro he; subst he; exact h.kp e
    · have := h.lt; omega
  have k1 : vz.ownBlock = none ∨ vz.ownBlock ≠ vk.ownBlock := by
    rcases h.kz with k | k
    · rcases hv : vz.ownBlock with _ | x
      · exact .inl rfl
      · right; rw [k]; simp
    · exact .inr (Ne.symm k)
  refine ⟨rowIs_grown h.row hg h.kp, h.ge, h.nm.kept hg h.nk, hown, h.sz.kept hg k1, h.np, by simpa [Value.ownBlock] using hb, h.zp, by simpa [Value.ownBlock] using hsc, h.nz, ?_⟩
  right
  intro (hv : some g = vz.ownBlock)
  rcases hsb with k | k
  · rw [k] at hv; cases hv
  · exact k hv.symm
end PRepF
end Go.Proofs.YtgddmpmcnjlcjabGreatDoor
namespace Go.Proofs.YtgddmpmcnjlcjabGreatDoor
open Go.RowKit
set_option linter.unusedVariables false
theorem PRep.many_eq {w : World} {base P : Nat} {l : List DB} {vn vk vz vb : Value} (h : PRep w base P l vn vk vz vb) (s : ByteArray) (hl : l.length ≤ 1000) (m : Nat) (q : Lk.Wd) (hs : s.toList = q) (hm : Rf.many (dcs l) q = m) :
    Calls Tryz.prog 92 #[.pointer (some ⟨P, 0, none⟩), .string s] w fun e w' => e = .returned (.int .i64 m) ∧ w' = w := by
  rw [← hm, ← hs]; exact h.many_any s hl
theorem numeral_eq (s : ByteArray) (w : World) (z : Int) (h : Lk.intO (Lk.num? s.toList) = z) :
    Calls Tryz.prog 93 #[.string s] w fun e w' => e = .returned (.int .i64 z) ∧ Below w.heap.size w w' := by
  rw [← h]; exact numeral_any s w
theorem many_le (l : List DB) (q : Lk.Wd) : Rf.many (dcs l) q ≤ l.length := by rw [← countK_full]; exact countK_le l q _
theorem lit_sec : (⟨#[115, 101, 99, 114, 101, 116]⟩ : ByteArray).toList = Rf.wSecret := by rw [ByteArray.toList_eq]; rfl
theorem lit_pub : (⟨#[112, 117, 98, 108, 105, 99]⟩ : ByteArray).toList = Rf.wPublic := by rw [ByteArray.toList_eq]; rfl
theorem lit_var : (⟨#[118, 97, 114]⟩ : ByteArray).toList = Rf.wVar := by rw [ByteArray.toList_eq]; rfl
theorem lit_arr : (⟨#[97, 114, 114, 97, 121]⟩ : ByteArray).toList = Rf.wArray := by rw [ByteArray.toList_eq]; rfl
section
variable {w : World} {base P R : Nat} {l : List DB} {vn vk vz vb vl : Value} {s : Rf.Rs}
set_option maxRecDepth 100000 in
set_option maxHeartbeats 1000000 in
theorem decl_taken3 (h : PRep w base P l vn vk vz vb) (hl : l.length ≤ 1000) (g cap : Nat) (q0 q1 : ByteArray) (hc0 : w.cell? ⟨g, 0, none⟩ = some (.string q0)) (hc1 : w.cell? ⟨g, 1, none⟩ = some (.string q1)) (hp : w.cell? ⟨R, 0, none⟩ = some (.pointer (some ⟨P, 0, none⟩))) (hb : w.cell? ⟨R, 4, none⟩ = some (.bool false)) (hnm : Lk.isName q1.toList = true) (ha : (q0.toList == [97, 114, 114, 97, 121]) = true) (hk : (Rf.kindOf (dcs l) q1.toList).isEmpty = false) :
    Calls Tryz.prog 62 #[.pointer (some ⟨R, 0, none⟩), .slice (some ⟨g, 0, none⟩) 3 cap] w fun e w' => e = .returned (.bool false) ∧ Below w.heap.size w w' := by
  have hq : q1.size = 1 := by
    by_cases h : q1.size = 1
    · exact h
    · rw [isNameN h] at hnm; cases hnm
  have hqI : (q1.size : Int) = 1 := by omega
  obtain ⟨hn1, hn2⟩ := name_lo hq hnm
  have HP := hid h
  clear h hq hnm
  have HK := hid hk
  clear hk
  go_enter Tryz.func62, Tryz.ntmps62
  go_wp2_with (first
    | (go_at_call 91; refine (HP.out.kind_any q1 hl).mono ?_; rintro e w0 ⟨kq, rfl, hkq, rfl⟩; have hke : kq.toList.isEmpty = false := (by rw [hkq]; exact HK.out); have HKQ := hid hkq; clear hkq))
  go_ret
  exact ⟨rfl, Below.refl _ _⟩
set_option maxRecDepth 100000 in
set_option maxHeartbeats 1000000 in
theorem decl_taken2 (h : PRep w base P l vn vk vz vb) (hl : l.length ≤ 1000) (g cap : Nat) (q0 q1 : ByteArray) (hc0 : w.cell? ⟨g, 0, none⟩ = some (.string q0)) (hc1 : w.cell? ⟨g, 1, none⟩ = some (.string q1)) (hp : w.cell? ⟨R, 0, none⟩ = some (.pointer (some ⟨P, 0, none⟩))) (hb : w.cell? ⟨R, 4, none⟩ = some (.bool false)) (hnm : Lk.isName q1.toList = true) (ha : (q0.toList == [97, 114, 114, 97, 121]) = false) (hk : (Rf.kindOf (dcs l) q1.toList).isEmpty = false) :
    Calls Tryz.prog 62 #[.pointer (some ⟨R, 0, none⟩), .slice (some ⟨g, 0, none⟩) 2 cap] w fun e w' => e = .returned (.bool false) ∧ Below w.heap.size w w' := by
  have hq : q1.size = 1 := by
    by_cases h : q1.size = 1
    · exact h
    · rw [isNameN h] at hnm; cases hnm
  have hqI : (q1.size : Int) = 1 := by omega
  obtain ⟨hn1, hn2⟩ := name_lo hq hnm
  have HP := hid h
  clear h hq hnm
  have HK := hid hk
  clear hk
  go_enter Tryz.func62, Tryz.ntmps62
  go_wp2_with (first
    | (go_at_call 91; refine (HP.out.kind_any q1 hl).mono ?_; rintro e w0 ⟨kq, rfl, hkq, rfl⟩; have hke : kq.toList.isEmpty = false := (by rw [hkq]; exact HK.out); have HKQ := hid hkq; clear hkq))
  go_ret
  exact ⟨rfl, Below.refl _ _⟩
set_option maxRecDepth 100000 in
set_option maxHeartbeats 1000000 in
theorem decl_arr_no (h : PRep w base P l vn vk vz vb) (hl : l.length ≤ 1000) (g cap : Nat) (q0 q1 : ByteArray) (hc0 : w.cell? ⟨g, 0, none⟩ = some (.string q0)) (hc1 : w.cell? ⟨g, 1, none⟩ = some (.string q1)) (hp : w.cell? ⟨R, 0, none⟩ = some (.pointer (some ⟨P, 0, none⟩))) (hb : w.cell? ⟨R, 4, none⟩ = some (.bool false)) (hnm : Lk.isName q1.toList = true) (ha : (q0.toList == [97, 114, 114, 97, 121]) = true) (hk : (Rf.kindOf (dcs l) q1.toList).isEmpty = true) (q2 : ByteArray) (hc2 : w.cell? ⟨g, 2, none⟩ = some (.string q2)) (z : Int) (hz : Lk.intO (Lk.num? q2.toList) = z) (hno : z < 1 ∨ 4 < z ∨ 2 ≤ Rf.many (dcs l) Rf.wArray) :
    Calls Tryz.prog 62 #[.pointer (some ⟨R, 0, none⟩), .slice (some ⟨g, 0, none⟩) 3 cap] w fun e w' => e = .returned (.bool false) ∧ Below w.heap.size w w' := by
  have hq : q1.size = 1 := by
    by_cases h : q1.size = 1
    · exact h
    · rw [isNameN h] at hnm; cases hnm
  have hqI : (q1.size : Int) = 1 := by omega
  obtain ⟨hn1, hn2⟩ := name_lo hq hnm
  have HP := hid h
  clear h hq hnm
  have HK := hid hk
  clear hk
  obtain ⟨ms, hms⟩ : ∃ m, Rf.many (dcs l) Rf.wSecret = m := ⟨_, rfl⟩
  obtain ⟨mp, hmp⟩ : ∃ m, Rf.many (dcs l) Rf.wPublic = m := ⟨_, rfl⟩
  obtain ⟨mv, hmv⟩ : ∃ m, Rf.many (dcs l) Rf.wVar = m := ⟨_, rfl⟩
  obtain ⟨ma, hma⟩ : ∃ m, Rf.many (dcs l) Rf.wArray = m := ⟨_, rfl⟩
  have l1 := many_le l Rf.wSecret
  have l2 := many_le l Rf.wPublic
  rw [hms] at l1
  rw [hmp] at l2
  rw [hma] at hno
  have HZ := hid hz
  clear hz
  have HM1 := hid hms
  have HM2 := hid hmp
  have HM3 := hid hmv
  have HM4 := hid hma
  have l1I : (ms : Int) ≤ 1000 := by omega
  have l2I : (mp : Int) ≤ 1000 := by omega
  clear hms hmp hmv hma l1 l2
  by_cases h1 : z < 1
  · clear hno
    go_enter Tryz.func62, Tryz.ntmps62
    go_wp2_with (first
      | (go_at_call 91; refine (HP.out.kind_any q1 hl).mono ?_; rintro e w0 ⟨kq, rfl, hkq, rfl⟩; have hke : kq.toList.isEmpty = true := (by rw [hkq]; exact HK.out); have HKQ := hid hkq; clear hkq)
      | (go_at_call_of 92 (Value.string { data := #[115, 101, 99, 114, 101, 116] }); refine (HP.out.many_eq _ hl ms Rf.wSecret lit_sec HM1.out).mono ?_; rintro e w0 ⟨rfl, rfl⟩)
      | (go_at_call_of 92 (Value.string { data := #[112, 117, 98, 108, 105, 99] }); refine (HP.out.many_eq _ hl mp Rf.wPublic lit_pub HM2.out).mono ?_; rintro e w0 ⟨rfl, rfl⟩)
      | (go_at_call_of 92 (Value.string { data := #[118, 97, 114] }); refine (HP.out.many_eq _ hl mv Rf.wVar lit_var HM3.out).mono ?_; rintro e w0 ⟨rfl, rfl⟩)
      | (go_at_call_of 92 (Value.string { data := #[97, 114, 114, 97, 121] }); refine (HP.out.many_eq _ hl ma Rf.wArray lit_arr HM4.out).mono ?_; rintro e w0 ⟨rfl, rfl⟩)
      | (go_at_call 93; refine (numeral_eq q2 _ z HZ.out).mono ?_; rintro e w1 ⟨rfl, hb1⟩; have HB1 := hid hb1; have z1 := hb1.size; clear hb1))
    go_ret
    exact ⟨rfl, HB1.out⟩
  · have h1' : 1 ≤ z := by omega
    by_cases h4 : 4 < z
    · clear hno h1
      go_enter Tryz.func62, Tryz.ntmps62
      go_wp2_with (first
        | (go_at_call 91; refine (HP.out.kind_any q1 hl).mono ?_; rintro e w0 ⟨kq, rfl, hkq, rfl⟩; have hke : kq.toList.isEmpty = true := (by rw [hkq]; exact HK.out); have HKQ := hid hkq; clear hkq)
        | (go_at_call_of 92 (Value.string { data := #[115, 101, 99, 114, 101, 116] }); refine (HP.out.many_eq _ hl ms Rf.wSecret lit_sec HM1.out).mono ?_; rintro e w0 ⟨rfl, rfl⟩)
        | (go_at_call_of 92 (Value.string { data := #[112, 117, 98, 108, 105, 99] }); refine (HP.out.many_eq _ hl mp Rf.wPublic lit_pub HM2.out).mono ?_; rintro e w0 ⟨rfl, rfl⟩)
        | (go_at_call_of 92 (Value.string { data := #[118, 97, 114] }); refine (HP.out.many_eq _ hl mv Rf.wVar lit_var HM3.out).mono ?_; rintro e w0 ⟨rfl, rfl⟩)
        | (go_at_call_of 92 (Value.string { data := #[97, 114, 114, 97, 121] }); refine (HP.out.many_eq _ hl ma Rf.wArray lit_arr HM4.out).mono ?_; rintro e w0 ⟨rfl, rfl⟩)
        | (go_at_call 93; refine (numeral_eq q2 _ z HZ.out).mono ?_; rintro e w1 ⟨rfl, hb1⟩; have HB1 := hid hb1; have z1 := hb1.size; clear hb1))
      go_ret
      exact ⟨rfl, HB1.out⟩
    · have h4' : z ≤ 4 := by omega
      have ha2 : (2 : Int) ≤ (ma : Int) := by omega
      clear hno h1 h4
      go_enter Tryz.func62, Tryz.ntmps62
      go_wp2_with (first
        | (go_at_call 91; refine (HP.out.kind_any q1 hl).mono ?_; rintro e w0 ⟨kq, rfl, hkq, rfl⟩; have hke : kq.toList.isEmpty = true := (by rw [hkq]; exact HK.out); have HKQ := hid hkq; clear hkq)
        | (go_at_call_of 92 (Value.string { data := #[115, 101, 99, 114, 101, 116] }); refine (HP.out.many_eq _ hl ms Rf.wSecret lit_sec HM1.out).mono ?_; rintro e w0 ⟨rfl, rfl⟩)
        | (go_at_call_of 92 (Value.string { data := #[112, 117, 98, 108, 105, 99] }); refine (HP.out.many_eq _ hl mp Rf.wPublic lit_pub HM2.out).mono ?_; rintro e w0 ⟨rfl, rfl⟩)
        | (go_at_call_of 92 (Value.string { data := #[118, 97, 114] }); refine (HP.out.many_eq _ hl mv Rf.wVar lit_var HM3.out).mono ?_; rintro e w0 ⟨rfl, rfl⟩)
        | (go_at_call_of 92 (Value.string { data := #[97, 114, 114, 97, 121] }); refine (HP.out.many_eq _ hl ma Rf.wArray lit_arr HM4.out).mono ?_; rintro e w0 ⟨rfl, rfl⟩)
        | (go_at_call 93; refine (numeral_eq q2 _ z HZ.out).mono ?_; rintro e w1 ⟨rfl, hb1⟩; have HB1 := hid hb1; have z1 := hb1.size; clear hb1))
      go_ret
      exact ⟨rfl, HB1.out⟩
set_option maxRecDepth 100000 in
set_option maxHeartbeats 1000000 in
theorem decl_var_no (h : PRep w base P l vn vk vz vb) (hl : l.length ≤ 1000) (g cap : Nat) (q0 q1 : ByteArray) (hc0 : w.cell? ⟨g, 0, none⟩ = some (.string q0)) (hc1 : w.cell? ⟨g, 1, none⟩ = some (.string q1)) (hp : w.cell? ⟨R, 0, none⟩ = some (.pointer (some ⟨P, 0, none⟩))) (hb : w.cell? ⟨R, 4, none⟩ = some (.bool false)) (hnm : Lk.isName q1.toList = true) (ha : (q0.toList == [97, 114, 114, 97, 121]) = false) (hv : (q0.toList == [118, 97, 114]) = true) (hk : (Rf.kindOf (dcs l) q1.toList).isEmpty = true) (hno : 4 ≤ Rf.many (dcs l) Rf.wVar) :
    Calls Tryz.prog 62 #[.pointer (some ⟨R, 0, none⟩), .slice (some ⟨g, 0, none⟩) 2 cap] w fun e w' => e = .returned (.bool false) ∧ Below w.heap.size w w' := by
  have hq : q1.size = 1 := by
    by_cases h : q1.size = 1
    · exact h
    · rw [isNameN h] at hnm; cases hnm
  have hqI : (q1.size : Int) = 1 := by omega
  obtain ⟨hn1, hn2⟩ := name_lo hq hnm
  have HP := hid h
  clear h hq hnm
  have HK := hid hk
  clear hk
  obtain ⟨ms, hms⟩ : ∃ m, Rf.many (dcs l) Rf.wSecret = m := ⟨_, rfl⟩
  obtain ⟨mp, hmp⟩ : ∃ m, Rf.many (dcs l) Rf.wPublic = m := ⟨_, rfl⟩
  obtain ⟨mv, hmv⟩ : ∃ m, Rf.many (dcs l) Rf.wVar = m := ⟨_, rfl⟩
  obtain ⟨ma, hma⟩ : ∃ m, Rf.many (dcs l) Rf.wArray = m := ⟨_, rfl⟩
  have l1 := many_le l Rf.wSecret
  have l2 := many_le l Rf.wPublic
  rw [hms] at l1
  rw [hmp] at l2
  rw [hmv] at hno
  have HM1 := hid hms
  have HM2 := hid hmp
  have HM3 := hid hmv
  have HM4 := hid hma
  have l1I : (ms : Int) ≤ 1000 := by omega
  have l2I : (mp : Int) ≤ 1000 := by omega
  clear hms hmp hmv hma l1 l2
  have h4 : (4 : Int) ≤ (mv : Int) := by omega
  clear hno
  go_enter Tryz.func62, Tryz.ntmps62
  go_wp2_with (first
    | (go_at_call 91; refine (HP.out.kind_any q1 hl).mono ?_; rintro e w0 ⟨kq, rfl, hkq, rfl⟩; have hke : kq.toList.isEmpty = true := (by rw [hkq]; exact HK.out); have HKQ := hid hkq; clear hkq)
    | (go_at_call_of 92 (Value.string { data := #[115, 101, 99, 114, 101, 116] }); refine (HP.out.many_eq _ hl ms Rf.wSecret lit_sec HM1.out).mono ?_; rintro e w0 ⟨rfl, rfl⟩)
    | (go_at_call_of 92 (Value.string { data := #[112, 117, 98, 108, 105, 99] }); refine (HP.out.many_eq _ hl mp Rf.wPublic lit_pub HM2.out).mono ?_; rintro e w0 ⟨rfl, rfl⟩)
    | (go_at_call_of 92 (Value.string { data := #[118, 97, 114] }); refine (HP.out.many_eq _ hl mv Rf.wVar lit_var HM3.out).mono ?_; rintro e w0 ⟨rfl, rfl⟩)
    | (go_at_call_of 92 (Value.string { data := #[97, 114, 114, 97, 121] }); refine (HP.out.many_eq _ hl ma Rf.wArray lit_arr HM4.out).mono ?_; rintro e w0 ⟨rfl, rfl⟩))
  go_ret
  exact ⟨rfl, Below.refl _ _⟩
set_option maxRecDepth 100000 in
set_option maxHeartbeats 1000000 in
theorem decl_in_no (h : PRep w base P l vn vk vz vb) (hl : l.length ≤ 1000) (g cap : Nat) (q0 q1 : ByteArray) (hc0 : w.cell? ⟨g, 0, none⟩ = some (.string q0)) (hc1 : w.cell? ⟨g, 1, none⟩ = some (.string q1)) (hp : w.cell? ⟨R, 0, none⟩ = some (.pointer (some ⟨P, 0, none⟩))) (hb : w.cell? ⟨R, 4, none⟩ = some (.bool false)) (hnm : Lk.isName q1.toList = true) (ha : (q0.toList == [97, 114, 114, 97, 121]) = false) (hv : (q0.toList == [118, 97, 114]) = false) (hk : (Rf.kindOf (dcs l) q1.toList).isEmpty = true) (hno : 0 < Rf.many (dcs l) Rf.wVar ∨ 3 ≤ Rf.many (dcs l) Rf.wSecret + Rf.many (dcs l) Rf.wPublic) :
    Calls Tryz.prog 62 #[.pointer (some ⟨R, 0, none⟩), .slice (some ⟨g, 0, none⟩) 2 cap] w fun e w' => e = .returned (.bool false) ∧ Below w.heap.size w w' := by
  have hq : q1.size = 1 := by
    by_cases h : q1.size = 1
    · exact h
    · rw [isNameN h] at hnm; cases hnm
  have hqI : (q1.size : Int) = 1 := by omega
  obtain ⟨hn1, hn2⟩ := name_lo hq hnm
  have HP := hid h
  clear h hq hnm
  have HK := hid hk
  clear hk
  obtain ⟨ms, hms⟩ : ∃ m, Rf.many (dcs l) Rf.wSecret = m := ⟨_, rfl⟩
  obtain ⟨mp, hmp⟩ : ∃ m, Rf.many (dcs l) Rf.wPublic = m := ⟨_, rfl⟩
  obtain ⟨mv, hmv⟩ : ∃ m, Rf.many (dcs l) Rf.wVar = m := ⟨_, rfl⟩
  obtain ⟨ma, hma⟩ : ∃ m, Rf.many (dcs l) Rf.wArray = m := ⟨_, rfl⟩
  have l1 := many_le l Rf.wSecret
  have l2 := many_le l Rf.wPublic
  rw [hms] at l1
  rw [hmp] at l2
  rw [hmv, hms, hmp] at hno
  have HM1 := hid hms
  have HM2 := hid hmp
  have HM3 := hid hmv
  have HM4 := hid hma
  have l1I : (ms : Int) ≤ 1000 := by omega
  have l2I : (mp : Int) ≤ 1000 := by omega
  clear hms hmp hmv hma l1 l2
  by_cases h1 : 0 < mv
  · have h1I : (0 : Int) < (mv : Int) := by omega
    clear hno h1
    go_enter Tryz.func62, Tryz.ntmps62
    go_wp2_with (first
      | (go_at_call 91; refine (HP.out.kind_any q1 hl).mono ?_; rintro e w0 ⟨kq, rfl, hkq, rfl⟩; have hke : kq.toList.isEmpty = true := (by rw [hkq]; exact HK.out); have HKQ := hid hkq; clear hkq)
      | (go_at_call_of 92 (Value.string { data := #[115, 101, 99, 114, 101, 116] }); refine (HP.out.many_eq _ hl ms Rf.wSecret lit_sec HM1.out).mono ?_; rintro e w0 ⟨rfl, rfl⟩)
      | (go_at_call_of 92 (Value.string { data := #[112, 117, 98, 108, 105, 99] }); refine (HP.out.many_eq _ hl mp Rf.wPublic lit_pub HM2.out).mono ?_; rintro e w0 ⟨rfl, rfl⟩)
      | (go_at_call_of 92 (Value.string { data := #[118, 97, 114] }); refine (HP.out.many_eq _ hl mv Rf.wVar lit_var HM3.out).mono ?_; rintro e w0 ⟨rfl, rfl⟩)
      | (go_at_call_of 92 (Value.string { data := #[97, 114, 114, 97, 121] }); refine (HP.out.many_eq _ hl ma Rf.wArray lit_arr HM4.out).mono ?_; rintro e w0 ⟨rfl, rfl⟩))
    go_ret
    exact ⟨rfl, Below.refl _ _⟩
  · have h1I : ¬ (0 : Int) < (mv : Int) := by omega
    have h3 : (3 : Int) ≤ (ms : Int) + (mp : Int) := by omega
    clear hno h1
    go_enter Tryz.func62, Tryz.ntmps62
    go_wp2_with (first
      | (go_at_call 91; refine (HP.out.kind_any q1 hl).mono ?_; rintro e w0 ⟨kq, rfl, hkq, rfl⟩; have hke : kq.toList.isEmpty = true := (by rw [hkq]; exact HK.out); have HKQ := hid hkq; clear hkq)
      | (go_at_call_of 92 (Value.string { data := #[115, 101, 99, 114, 101, 116] }); refine (HP.out.many_eq _ hl ms Rf.wSecret lit_sec HM1.out).mono ?_; rintro e w0 ⟨rfl, rfl⟩)
      | (go_at_call_of 92 (Value.string { data := #[112, 117, 98, 108, 105, 99] }); refine (HP.out.many_eq _ hl mp Rf.wPublic lit_pub HM2.out).mono ?_; rintro e w0 ⟨rfl, rfl⟩)
      | (go_at_call_of 92 (Value.string { data := #[118, 97, 114] }); refine (HP.out.many_eq _ hl mv Rf.wVar lit_var HM3.out).mono ?_; rintro e w0 ⟨rfl, rfl⟩)
      | (go_at_call_of 92 (Value.string { data := #[97, 114, 114, 97, 121] }); refine (HP.out.many_eq _ hl ma Rf.wArray lit_arr HM4.out).mono ?_; rintro e w0 ⟨rfl, rfl⟩))
    go_ret
    exact ⟨rfl, Below.refl _ _⟩
end
end Go.Proofs.YtgddmpmcnjlcjabGreatDoor
