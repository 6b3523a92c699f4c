import Derived.Test.YtgddmpmcnjlcjaaGreatDoorB29
import Derived.Test.YtgddmpmcnjlcjaaGreatDoorB05
import Derived.Deep.RegionLaw
import Derived.WalkLawsBesides
import Derived.Test.YtgddmpmcnjlcjaaGreatDoorB09
import Derived.Test.YtgddmpmcnjlcjaaGreatDoorB07
import Derived.Deep.LoopGhost
import Derived.Deep.QuietTactic
import Derived.BigQuiet
namespace Go.Proofs.YtgddmpmcnjlcjaaGreatDoor
open Go.RowKit
set_option linter.unusedVariables false
def fcell (P : Nat) (vl : Value) (s : Rf.Rs) (i : Nat) : Value :=
  if i = 0 then .pointer (some ⟨P, 0, none⟩) else if i = 1 then vl else if i = 2 then .int .i64 s.at_ else if i = 3 then .int .i64 s.cnt else .bool s.bdy
theorem name_lo {q : ByteArray} (h : q.size = 1) (hn : Lk.isName q.toList = true) : Op.bytesLess q.toList [97] = false ∧ (Op.bytesLess q.toList [122] || q.toList == [122]) = true := by
  rw [isName1 h] at hn
  rw [tl1 h]
  simp at hn
  have e1 : ¬ q[0] < 97 := by rw [UInt8.lt_iff_toNat_lt]; show ¬ q[0].toNat < 97; omega
  refine ⟨by simp [Op.bytesLess, e1], ?_⟩
  by_cases e : q[0] = 122
  · simp [e]
  · have : q[0] < 122 := by
      rw [UInt8.lt_iff_toNat_lt]; show q[0].toNat < 122
      have : q[0].toNat ≠ 122 := fun h => e (UInt8.toNat_inj.1 h)
      omega
    simp [Op.bytesLess, this]
theorem name_no {q : ByteArray} (h : q.size = 1) (hn : Lk.isName q.toList = false) : Op.bytesLess q.toList [97] = true ∨ (Op.bytesLess q.toList [97] = false ∧ (Op.bytesLess q.toList [122] || q.toList == [122]) = false) := by
  rw [isName1 h] at hn
  rw [tl1 h]
  by_cases h1 : q[0] < 97
  · left; simp [Op.bytesLess, h1]
  · right
    have h1' : ¬ q[0].toNat < 97 := by rw [UInt8.lt_iff_toNat_lt] at h1; exact h1
    have h2 : 122 < q[0].toNat := by
      simp at hn
      have := hn (by omega)
      omega
    have e2 : ¬ q[0] < 122 := by rw [UInt8.lt_iff_toNat_lt]; show ¬ q[0].toNat < 122; omega
    have e3 : q[0] ≠ 122 := fun h => by rw [h] at h2; simp at h2
    simp [Op.bytesLess, h1, e2, e3]
section
variable {w : World} {base P R : Nat} {l : List DB} {vn vk vz vb vl : Value} {s : Rf.Rs}
set_option maxRecDepth 100000 in
set_option maxHeartbeats 1000000 in
theorem decl_body (h : PRep w base P l vn vk vz vb) (hl : l.length ≤ 1000) (g cap : Nat) (q0 q1 : ByteArray) (hc0 : w.cell? ⟨g, 0, none⟩ = some (.string q0)) (hp : w.cell? ⟨R, 0, none⟩ = some (.pointer (some ⟨P, 0, none⟩))) (hb : w.cell? ⟨R, 4, none⟩ = some (.bool true)) (n : Nat) (hn0 : (0 : Int) < (n : Int)) :
    Calls Tryz.prog 60 #[.pointer (some ⟨R, 0, none⟩), .slice (some ⟨g, 0, none⟩) n cap] w fun e w' => e = .returned (.bool false) ∧ Below w.heap.size w w' := by
  clear h
  cases ha : (q0.toList == [97, 114, 114, 97, 121])
  all_goals
    go_enter Tryz.func60, Tryz.ntmps60
    go_wp2_with fail
    go_ret
    exact ⟨rfl, Below.refl _ _⟩
set_option maxRecDepth 100000 in
set_option maxHeartbeats 1000000 in
theorem decl_len (h : PRep w base P l vn vk vz vb) (hl : l.length ≤ 1000) (g cap : Nat) (q0 q1 : ByteArray) (hc0 : w.cell? ⟨g, 0, none⟩ = some (.string q0)) (hp : w.cell? ⟨R, 0, none⟩ = some (.pointer (some ⟨P, 0, none⟩))) (hb : w.cell? ⟨R, 4, none⟩ = some (.bool false)) (n : Nat) (hn0 : (0 : Int) < (n : Int)) (hn : n ≠ if q0.toList = Rf.wArray then 3 else 2) :
    Calls Tryz.prog 60 #[.pointer (some ⟨R, 0, none⟩), .slice (some ⟨g, 0, none⟩) n cap] w fun e w' => e = .returned (.bool false) ∧ Below w.heap.size w w' := by
  clear h
  cases ha : (q0.toList == [97, 114, 114, 97, 121]) with
  | true =>
    rw [if_pos (show _ = Rf.wArray from eq_of_beq ha)] at hn
    have hnI : ((n : Int) != 3) = true := by simp; omega
    clear hn
    go_enter Tryz.func60, Tryz.ntmps60
    go_wp2_with fail
    go_ret
    exact ⟨rfl, Below.refl _ _⟩
  | false =>
    rw [if_neg (show ¬ _ = Rf.wArray from ne_of_beq_false ha)] at hn
    have hnI : ((n : Int) != 2) = true := by simp; omega
    clear hn
    go_enter Tryz.func60, Tryz.ntmps60
    go_wp2_with fail
    go_ret
    exact ⟨rfl, Below.refl _ _⟩
set_option maxRecDepth 100000 in
set_option maxHeartbeats 1000000 in
theorem decl_name (h : PRep w base P l vn vk vz vb) (hl : l.length ≤ 1000) (g cap : Nat) (q0 q1 : ByteArray) (hc0 : w.cell? ⟨g, 0, none⟩ = some (.string q0)) (hp : w.cell? ⟨R, 0, none⟩ = some (.pointer (some ⟨P, 0, none⟩))) (hb : w.cell? ⟨R, 4, none⟩ = some (.bool false)) (hc1 : w.cell? ⟨g, 1, none⟩ = some (.string q1)) (n : Nat) (hn0 : (0 : Int) < (n : Int)) (hn1 : (1 : Int) < (n : Int)) (hn : n = if q0.toList = Rf.wArray then 3 else 2) (hnm : Lk.isName q1.toList = false) :
    Calls Tryz.prog 60 #[.pointer (some ⟨R, 0, none⟩), .slice (some ⟨g, 0, none⟩) n cap] w fun e w' => e = .returned (.bool false) ∧ Below w.heap.size w w' := by
  clear h
  by_cases hq : q1.size = 1
  · have hqI : (q1.size : Int) = 1 := by omega
    have hnn := name_no hq hnm
    clear hnm hq
    cases ha : (q0.toList == [97, 114, 114, 97, 121]) with
    | true =>
      rw [if_pos (show _ = Rf.wArray from eq_of_beq ha)] at hn
      subst hn
      rcases hnn with h1 | ⟨h1, h2⟩
      all_goals
        go_enter Tryz.func60, Tryz.ntmps60
        go_wp2_with fail
        go_ret
        exact ⟨rfl, Below.refl _ _⟩
    | false =>
      rw [if_neg (show ¬ _ = Rf.wArray from ne_of_beq_false ha)] at hn
      subst hn
      rcases hnn with h1 | ⟨h1, h2⟩
      all_goals
        go_enter Tryz.func60, Tryz.ntmps60
        go_wp2_with fail
        go_ret
        exact ⟨rfl, Below.refl _ _⟩
  · have hqI : ((q1.size : Int) != 1) = true := by simp; omega
    clear hnm hq
    cases ha : (q0.toList == [97, 114, 114, 97, 121]) with
    | true =>
      rw [if_pos (show _ = Rf.wArray from eq_of_beq ha)] at hn
      subst hn
      go_enter Tryz.func60, Tryz.ntmps60
      go_wp2_with fail
      go_ret
      exact ⟨rfl, Below.refl _ _⟩
    | false =>
      rw [if_neg (show ¬ _ = Rf.wArray from ne_of_beq_false ha)] at hn
      subst hn
      go_enter Tryz.func60, Tryz.ntmps60
      go_wp2_with fail
      go_ret
      exact ⟨rfl, Below.refl _ _⟩
end
end Go.Proofs.YtgddmpmcnjlcjaaGreatDoor
namespace Go.Proofs.YtgddmpmcnjlcjaaGreatDoor
open Go.RowKit
set_option linter.unusedVariables false
structure PRepF (w : World) (base P : Nat) (f : Nat → Value) (ns ks : List ByteArray) (zs : List Nat) (vn vk vz : Value) : Prop where
  row : w.rowIs P 81 4 f
  ge : base ≤ P
  nm : w.ownsRow base 9 1 vn ns.length (ns.map Value.string)
  kd : w.ownsRow base 9 1 vk ks.length (ks.map Value.string)
  sz : w.ownsRow base 3 1 vz zs.length (zs.map fun (n : Nat) => .int .i64 n)
  np : vn.ownBlock ≠ some P
  kp : vk.ownBlock ≠ some P
  zp : vz.ownBlock ≠ some P
  nk : vn.ownBlock = none ∨ vn.ownBlock ≠ vk.ownBlock
  nz : vn.ownBlock = none ∨ vn.ownBlock ≠ vz.ownBlock
  kz : vk.ownBlock = none ∨ vk.ownBlock ≠ vz.ownBlock
theorem PRep.toF {w : World} {base P : Nat} {l : List DB} {vn vk vz vb : Value} (h : PRep w base P l vn vk vz vb) : PRepF w base P (pcell vn vk vz vb) (l.map DB.name) (l.map DB.kind) (l.map DB.size) vn vk vz :=
  ⟨h.row, h.ge, by simpa [List.map_map, Function.comp_def] using h.nm, by simpa [List.map_map, Function.comp_def] using h.kd, by simpa [List.map_map, Function.comp_def] using h.sz, h.np, h.kp, h.zp, h.nk, h.nz, h.kz⟩
namespace PRepF
variable {w : World} {base P : Nat} {f : Nat → Value} {ns ks : List ByteArray} {zs : List Nat} {vn vk vz : Value}
theorem lt (h : PRepF w base P f ns ks zs vn vk vz) : P < w.heap.size := h.row.lt
theorem baseLe (h : PRepF w base P f ns ks zs vn vk vz) : base ≤ w.heap.size := Nat.le_of_lt (Nat.lt_of_le_of_lt h.ge h.lt)
theorem later {w' : World} (h : PRepF w base P f ns ks zs vn vk vz) (hb : ∀ k, k < w.heap.size → w'.heap[k]? = w.heap[k]?) : PRepF w' base P f ns ks zs vn vk vz :=
  ⟨h.row.of_block (hb P h.row.lt), h.ge, ownsRow_same h.nm hb, ownsRow_same h.kd hb, ownsRow_same h.sz hb, h.np, h.kp, h.zp, h.nk, h.nz, h.kz⟩
theorem alloc (h : PRepF w base P f ns ks zs vn vk vz) (o : Obj) : PRepF (w.alloc o) base P f ns ks zs vn vk vz := h.later fun k hk => Below.heap_alloc w o k hk
theorem drew (h : PRepF w base P f ns ks zs vn vk vz) : PRepF w.drew base P f ns ks zs vn vk vz := h.later fun _ _ => rfl
theorem below {w' : World} (h : PRepF w base P f ns ks zs vn vk vz) (hb : Below w.heap.size w w') : PRepF w' base P f ns ks zs vn vk vz := h.later hb.block
theorem put (h : PRepF w base P f ns ks zs vn vk vz) (i : Nat) (x : Value) : PRepF (w.setCell ⟨P, i, none⟩ x) base P (fun j => if j = i then x else f j) ns ks zs vn vk vz :=
  ⟨h.row.set i x, h.ge, ownsRow_setCell h.nm h.np x, ownsRow_setCell h.kd h.kp x, ownsRow_setCell h.sz h.zp x, h.np, h.kp, h.zp, h.nk, h.nz, h.kz⟩
theorem toP {l : List DB} {vb : Value} (h : PRepF w base P f (l.map DB.name) (l.map DB.kind) (l.map DB.size) vn vk vz) (hf : ∀ i, i < 4 → f i = pcell vn vk vz vb i) : PRep w base P l vn vk vz vb :=
  ⟨h.row.congr hf, h.ge, by simpa [List.map_map, Function.comp_def] using h.nm, by simpa [List.map_map, Function.comp_def] using h.kd, by simpa [List.map_map, Function.comp_def] using h.sz, h.np, h.kp, h.zp, h.nk, h.nz, h.kz⟩
theorem growZ {w' : World} {zs' : List Nat} {g cap : Nat} {n : Nat} (h : PRepF w base P f ns ks zs vn vk vz) (hg : w.grownBy w' vz.ownBlock)
    (hown : w'.ownsRow base 3 1 (.slice (some ⟨g, 0, none⟩) n cap) zs'.length (zs'.map fun (n : Nat) => .int .i64 n)) (hat : vz.ownBlock = some g ∨ g = w.heap.size) :
    PRepF w' base P f ns ks zs' vn vk (.slice (some ⟨g, 0, none⟩) n cap) := by
  have hs : vn.ownBlock = none ∨ vn.ownBlock ≠ some g := by
    rcases hat with e | e
    · rw [← e]; exact h.nz
    · right; intro hv; have := (h.nm.lt g hv).2; omega
  have hc : vk.ownBlock = none ∨ vk.ownBlock ≠ some g := by
    rcases hat with e | e
    · rw [← e]; exact h.kz
    · right; intro hv; have := (h.kd.lt g hv).2; omega
  have hb : g ≠ P := by
    rcases hat with e | e
    · intro he; subst he; exact h.zp e
    · have := h.lt; omega
  exact ⟨rowIs_grown h.row hg h.zp, h.ge, h.nm.kept hg h.nz, h.kd.kept hg h.kz, hown, h.np, h.kp, by simpa [Value.ownBlock] using hb, h.nk, by simpa [Value.ownBlock] using hs, by simpa [Value.ownBlock] using hc⟩
theorem growN {w' : World} {ns' : List ByteArray} {g cap : Nat} {n : Nat} (h : PRepF w base P f ns ks zs vn vk vz) (hg : w.grownBy w' vn.ownBlock)
    (hown : w'.ownsRow base 9 1 (.slice (some ⟨g, 0, none⟩) n cap) ns'.length (ns'.map Value.string)) (hat : vn.ownBlock = some g ∨ g = w.heap.size) :
    PRepF w' base P f ns' ks zs (.slice (some ⟨g, 0, none⟩) n cap) vk vz := by
  have hsb : vz.ownBlock = none ∨ vz.ownBlock ≠ some g := by
    rcases hat with e | e
    · right; intro hv; rcases h.nz with k | k
      · rw [e] at k; cases k
      · exact k (e.trans hv.symm)
    · right; intro hv; have := (h.sz.lt g hv).2; omega
  have hsc : vk.ownBlock = none ∨ vk.ownBlock ≠ some g := by
    rcases hat with e | e
    · right; intro hv; rcases h.nk with k | k
      · rw [e] at k; cases k
      · exact k (e.trans hv.symm)
    · right; intro hv; have := (h.kd.lt g hv).2; omega
  have hb : g ≠ P := by
    rcases hat with e | e
    · intro he; subst he; exact h.np e
    · have := h.lt; omega
  have k1 : vz.ownBlock = none ∨ vz.ownBlock ≠ vn.ownBlock := by
    rcases h.nz with k | k
    · rcases hv : vz.ownBlock with _ | x
      · exact .inl rfl
      · right; rw [k]; simp
    · exact .inr (Ne.symm k)
  have k2 : vk.ownBlock = none ∨ vk.ownBlock ≠ vn.ownBlock := by
    rcases h.nk with k | k
    · rcases hv : vk.ownBlock with _ | x
      · exact .inl rfl
      · right; rw [k]; simp
    · exact .inr (Ne.symm k)
  refine ⟨rowIs_grown h.row hg h.np, h.ge, hown, h.kd.kept hg k2, h.sz.kept hg k1, by simpa [Value.ownBlock] using hb, h.kp, h.zp, ?_, ?_, h.kz⟩
  · right
    intro (hv : some g = vk.ownBlock)
    rcases hsc with k | k
    · rw [k] at hv; cases hv
    · exact k hv.symm
  · right
    intro (hv : some g = vz.ownBlock)
    rcases hsb with k | k
    · rw [k] at hv; cases hv
    · exact k hv.symm
theorem growK {w' : World} {ks' : List ByteArray} {g cap : Nat} {n : Nat} (h : PRepF w base P f ns ks zs vn vk vz) (hg : w.grownBy w' vk.ownBlock)
    (hown : w'.ownsRow base 9 1 (.slice (some ⟨g, 0, none⟩) n cap) ks'.length (ks'.map Value.string)) (hat : vk.ownBlock = some g ∨ g = w.heap.size) :
    PRepF w' base P f ns ks' zs vn (.slice (some ⟨g, 0, none⟩) n cap) vz := by
  have hsb : vz.ownBlock = none ∨ vz.ownBlock ≠ some g := by
    rcases hat with e | e
    · right; intro hv; rcases h.kz with k | k
      · rw [e] at k; cases k
      · exact k (e.trans hv.symm)
    · right; intro hv; have := (h.sz.lt g hv).2; omega
  have hsc : vn.ownBlock = none ∨ vn.ownBlock ≠ some g := by
    rcases hat with e | e
    · rw [← e]; exact h.nk
    · right; intro hv; have := (h.nm.lt g hv).2; omega
  have hb : g ≠ P := by
    rcases hat with e | e
    · intro he; subst he; exact h.kp e
    · have := h.lt; omega
  have k1 : vz.ownBlock = none ∨ vz.ownBlock ≠ vk.ownBlock := by
    rcases h.kz with k | k
    · rcases hv : vz.ownBlock with _ | x
      · exact .inl rfl
      · right; rw [k]; simp
    · exact .inr (Ne.symm k)
  refine ⟨rowIs_grown h.row hg h.kp, h.ge, h.nm.kept hg h.nk, hown, h.sz.kept hg k1, h.np, by simpa [Value.ownBlock] using hb, h.zp, by simpa [Value.ownBlock] using hsc, h.nz, ?_⟩
  right
  intro (hv : some g = vz.ownBlock)
  rcases hsb with k | k
  · rw [k] at hv; cases hv
  · exact k hv.symm
end PRepF
end Go.Proofs.YtgddmpmcnjlcjaaGreatDoor
namespace Go.Proofs.YtgddmpmcnjlcjaaGreatDoor
open Go.RowKit
set_option linter.unusedVariables false
namespace Mc
def bwHit (op n : Nat) : Bool := (op == 4 && n == 2) || (op == 5 && decide (0 < n)) || (op == 6 && n == 1)
def bwK (op a b : Nat) : Nat → Nat
  | 0 => 0
  | k + 1 => if bwHit op (a / 2 ^ k % 2 + b / 2 ^ k % 2) = true then bwK op a b k + 2 ^ k else bwK op a b k
theorem bwK_all : ∀ a, a < 16 → ∀ b, b < 16 → bwK 4 a b 4 = apply 4 a b ∧ bwK 5 a b 4 = apply 5 a b ∧ bwK 6 a b 4 = apply 6 a b := by decide +kernel
theorem bwK_le (op a b k : Nat) : bwK op a b k < 2 ^ k := by
  induction k with
  | zero => exact Nat.one_pos
  | succ k ih =>
    unfold bwK
    rw [Nat.pow_succ]
    split
    · omega
    · omega
def shlK (a : Nat) : Nat → Nat
  | 0 => a
  | i + 1 => 2 * shlK a i % 16
def shrK (a : Nat) : Nat → Nat
  | 0 => a
  | i + 1 => shrK a i / 2
theorem sh_all : ∀ a, a < 16 → ∀ b, b < 16 → shlK a b % 16 = apply 7 a b ∧ shrK a b % 16 = apply 8 a b := by decide +kernel
theorem shlK_lt (a : Nat) (ha : a < 16) (i : Nat) : shlK a i < 16 := by
  cases i with
  | zero => exact ha
  | succ i => exact Nat.mod_lt _ (by omega)
theorem shrK_lt (a : Nat) (ha : a < 16) (i : Nat) : shrK a i < 16 := by
  induction i with
  | zero => exact ha
  | succ i ih => show shrK a i / 2 < 16; omega
end Mc
theorem ritem_any (t v : Nat) (w : World) (ht : t ≤ 5) (hv : v < 16) :
    Calls Tryz.prog 85 #[.int .i64 t, .int .i64 v] w fun e w' => e = .returned (.int .i64 ((16 * t + v : Nat) : Int)) ∧ w' = w := by
  have h1 : (t : Int) ≤ 5 := by omega
  have h2 : (v : Int) < 16 := by omega
  go_enter Tryz.func85, Tryz.ntmps85
  go_wp2
  go_ret
  exact ⟨congrArg (fun z => Ending.returned (Value.int .i64 z)) (by omega), rfl⟩
set_option maxRecDepth 100000 in
set_option maxHeartbeats 2000000 in
theorem bitwise_and (a b : Nat) (ha : a < 16) (hb : b < 16) (w : World) :
    Calls Tryz.prog 110 #[.string ⟨#[38]⟩, .int .i64 a, .int .i64 b] w fun e w' => e = .returned (.int .i64 (Mc.apply 4 a b : Nat)) ∧ w' = w := by
  go_enter Tryz.func110, Tryz.ntmps110
  go_wp2_with fail
  go_loopg [7, 8] 4 (fun gk vx px wr => ∃ k pp vv : Nat, k + gk = 4 ∧ 2 ^ k = pp ∧ Mc.bwK 4 a b k = vv ∧ px = .int .i64 pp ∧ vx = .int .i64 vv ∧ wr = w)
  case atStart => exact ⟨0, 1, 0, rfl, rfl, rfl, rfl, rfl, rfl⟩
  case round =>
    obtain ⟨k, pp, vv, hk, hpp, hvv, rfl, rfl, hw⟩ := hrel
    have hw2 := hw.symm
    clear hw
    subst hw2
    have hle := Mc.bwK_le 4 a b k
    have hp4 : 2 ^ k ≤ 2 ^ 4 := Nat.pow_le_pow_right (by omega) (by omega)
    have hp0 : 0 < 2 ^ k := Nat.two_pow_pos k
    rw [hpp] at hle hp4 hp0
    rw [hvv] at hle
    have HPP := hid hpp
    have HV := hid hvv
    have hppI : (pp : Int) ≤ 16 := by omega
    have hpp0 : (0 : Int) < (pp : Int) := by omega
    have hvvI : (vv : Int) < (pp : Int) := by omega
    by_cases hlt : k < 4
    · have hp8 : pp ≤ 8 := by
        have : 2 ^ k ≤ 2 ^ 3 := Nat.pow_le_pow_right (by omega) (by omega)
        omega
      have hp8I : (pp : Int) < 16 := by omega
      clear hpp hvv
      have hx2 := Nat.mod_lt (a / 2 ^ k) (show 0 < 2 by omega)
      have hy2 := Nat.mod_lt (b / 2 ^ k) (show 0 < 2 by omega)
      obtain hx | hx : a / 2 ^ k % 2 = 0 ∨ a / 2 ^ k % 2 = 1 := by omega
      · obtain hy | hy : b / 2 ^ k % 2 = 0 ∨ b / 2 ^ k % 2 = 1 := by omega
        · have HK := hid (show Mc.bwK 4 a b (k + 1) = Mc.bwK 4 a b k by
            show (if Mc.bwHit 4 (a / 2 ^ k % 2 + b / 2 ^ k % 2) = true then Mc.bwK 4 a b k + 2 ^ k else Mc.bwK 4 a b k) = _
            rw [hx, hy]; rfl)
          rw [HPP.out] at hx hy
          have hqa : (a : Int) / (pp : Int) = ((a / pp : Nat) : Int) := by omega
          have hqb : (b : Int) / (pp : Int) = ((b / pp : Nat) : Int) := by omega
          have hla : a / pp ≤ a := Nat.div_le_self _ _
          have hlb : b / pp ≤ b := Nat.div_le_self _ _
          generalize a / pp = qa at hqa hla hx
          generalize b / pp = qb at hqb hlb hy
          have hlaI : (qa : Int) < 16 := by omega
          have hlbI : (qb : Int) < 16 := by omega
          have hxI : (qa : Int) % 2 = 0 := by omega
          have hyI : (qb : Int) % 2 = 0 := by omega
          rw [HV.out] at HK
          clear hx hy hx2 hy2
          go_wp2_with fail
          go_roundg (gk - 1)
          case measure => omega
          case rel => exact ⟨k + 1, 2 * pp, vv, by omega, by rw [Nat.pow_succ, HPP.out]; omega, HK.out, by go_num, rfl, rfl⟩
        · have HK := hid (show Mc.bwK 4 a b (k + 1) = Mc.bwK 4 a b k by
            show (if Mc.bwHit 4 (a / 2 ^ k % 2 + b / 2 ^ k % 2) = true then Mc.bwK 4 a b k + 2 ^ k else Mc.bwK 4 a b k) = _
            rw [hx, hy]; rfl)
          rw [HPP.out] at hx hy
          have hqa : (a : Int) / (pp : Int) = ((a / pp : Nat) : Int) := by omega
          have hqb : (b : Int) / (pp : Int) = ((b / pp : Nat) : Int) := by omega
          have hla : a / pp ≤ a := Nat.div_le_self _ _
          have hlb : b / pp ≤ b := Nat.div_le_self _ _
          generalize a / pp = qa at hqa hla hx
          generalize b / pp = qb at hqb hlb hy
          have hlaI : (qa : Int) < 16 := by omega
          have hlbI : (qb : Int) < 16 := by omega
          have hxI : (qa : Int) % 2 = 0 := by omega
          have hyI : (qb : Int) % 2 = 1 := by omega
          rw [HV.out] at HK
          clear hx hy hx2 hy2
          go_wp2_with fail
          go_roundg (gk - 1)
          case measure => omega
          case rel => exact ⟨k + 1, 2 * pp, vv, by omega, by rw [Nat.pow_succ, HPP.out]; omega, HK.out, by go_num, rfl, rfl⟩
      · obtain hy | hy : b / 2 ^ k % 2 = 0 ∨ b / 2 ^ k % 2 = 1 := by omega
        · have HK := hid (show Mc.bwK 4 a b (k + 1) = Mc.bwK 4 a b k by
            show (if Mc.bwHit 4 (a / 2 ^ k % 2 + b / 2 ^ k % 2) = true then Mc.bwK 4 a b k + 2 ^ k else Mc.bwK 4 a b k) = _
            rw [hx, hy]; rfl)
          rw [HPP.out] at hx hy
          have hqa : (a : Int) / (pp : Int) = ((a / pp : Nat) : Int) := by omega
          have hqb : (b : Int) / (pp : Int) = ((b / pp : Nat) : Int) := by omega
          have hla : a / pp ≤ a := Nat.div_le_self _ _
          have hlb : b / pp ≤ b := Nat.div_le_self _ _
          generalize a / pp = qa at hqa hla hx
          generalize b / pp = qb at hqb hlb hy
          have hlaI : (qa : Int) < 16 := by omega
          have hlbI : (qb : Int) < 16 := by omega
          have hxI : (qa : Int) % 2 = 1 := by omega
          have hyI : (qb : Int) % 2 = 0 := by omega
          rw [HV.out] at HK
          clear hx hy hx2 hy2
          go_wp2_with fail
          go_roundg (gk - 1)
          case measure => omega
          case rel => exact ⟨k + 1, 2 * pp, vv, by omega, by rw [Nat.pow_succ, HPP.out]; omega, HK.out, by go_num, rfl, rfl⟩
        · have HK := hid (show Mc.bwK 4 a b (k + 1) = Mc.bwK 4 a b k + 2 ^ k by
            show (if Mc.bwHit 4 (a / 2 ^ k % 2 + b / 2 ^ k % 2) = true then Mc.bwK 4 a b k + 2 ^ k else Mc.bwK 4 a b k) = _
            rw [hx, hy]; rfl)
          rw [HPP.out] at hx hy
          have hqa : (a : Int) / (pp : Int) = ((a / pp : Nat) : Int) := by omega
          have hqb : (b : Int) / (pp : Int) = ((b / pp : Nat) : Int) := by omega
          have hla : a / pp ≤ a := Nat.div_le_self _ _
          have hlb : b / pp ≤ b := Nat.div_le_self _ _
          generalize a / pp = qa at hqa hla hx
          generalize b / pp = qb at hqb hlb hy
          have hlaI : (qa : Int) < 16 := by omega
          have hlbI : (qb : Int) < 16 := by omega
          have hxI : (qa : Int) % 2 = 1 := by omega
          have hyI : (qb : Int) % 2 = 1 := by omega
          rw [HV.out, HPP.out] at HK
          clear hx hy hx2 hy2
          go_wp2_with fail
          go_roundg (gk - 1)
          case measure => omega
          case rel => exact ⟨k + 1, 2 * pp, vv + pp, by omega, by rw [Nat.pow_succ, HPP.out]; omega, HK.out, by go_num, by go_num, rfl⟩
    · have hk4 : k = 4 := by omega
      subst hk4
      have hpe : pp = 16 := by rw [← hpp]
      subst hpe
      have hE : vv = Mc.apply 4 a b := by rw [← hvv]; exact (Mc.bwK_all a ha b hb).1
      have HE := hid hE
      clear hE hpp hvv
      go_wp2_with fail
      go_ret
      exact ⟨congrArg (fun z : Nat => Ending.returned (.int .i64 (z : Int))) HE.out, rfl⟩
set_option maxRecDepth 100000 in
set_option maxHeartbeats 2000000 in
theorem bitwise_or (a b : Nat) (ha : a < 16) (hb : b < 16) (w : World) :
    Calls Tryz.prog 110 #[.string ⟨#[124]⟩, .int .i64 a, .int .i64 b] w fun e w' => e = .returned (.int .i64 (Mc.apply 5 a b : Nat)) ∧ w' = w := by
  go_enter Tryz.func110, Tryz.ntmps110
  go_wp2_with fail
  go_loopg [7, 8] 4 (fun gk vx px wr => ∃ k pp vv : Nat, k + gk = 4 ∧ 2 ^ k = pp ∧ Mc.bwK 5 a b k = vv ∧ px = .int .i64 pp ∧ vx = .int .i64 vv ∧ wr = w)
  case atStart => exact ⟨0, 1, 0, rfl, rfl, rfl, rfl, rfl, rfl⟩
  case round =>
    obtain ⟨k, pp, vv, hk, hpp, hvv, rfl, rfl, hw⟩ := hrel
    have hw2 := hw.symm
    clear hw
    subst hw2
    have hle := Mc.bwK_le 5 a b k
    have hp4 : 2 ^ k ≤ 2 ^ 4 := Nat.pow_le_pow_right (by omega) (by omega)
    have hp0 : 0 < 2 ^ k := Nat.two_pow_pos k
    rw [hpp] at hle hp4 hp0
    rw [hvv] at hle
    have HPP := hid hpp
    have HV := hid hvv
    have hppI : (pp : Int) ≤ 16 := by omega
    have hpp0 : (0 : Int) < (pp : Int) := by omega
    have hvvI : (vv : Int) < (pp : Int) := by omega
    by_cases hlt : k < 4
    · have hp8 : pp ≤ 8 := by
        have : 2 ^ k ≤ 2 ^ 3 := Nat.pow_le_pow_right (by omega) (by omega)
        omega
      have hp8I : (pp : Int) < 16 := by omega
      clear hpp hvv
      have hx2 := Nat.mod_lt (a / 2 ^ k) (show 0 < 2 by omega)
      have hy2 := Nat.mod_lt (b / 2 ^ k) (show 0 < 2 by omega)
      obtain hx | hx : a / 2 ^ k % 2 = 0 ∨ a / 2 ^ k % 2 = 1 := by omega
      · obtain hy | hy : b / 2 ^ k % 2 = 0 ∨ b / 2 ^ k % 2 = 1 := by omega
        · have HK := hid (show Mc.bwK 5 a b (k + 1) = Mc.bwK 5 a b k by
            show (if Mc.bwHit 5 (a / 2 ^ k % 2 + b / 2 ^ k % 2) = true then Mc.bwK 5 a b k + 2 ^ k else Mc.bwK 5 a b k) = _
            rw [hx, hy]; rfl)
          rw [HPP.out] at hx hy
          have hqa : (a : Int) / (pp : Int) = ((a / pp : Nat) : Int) := by omega
          have hqb : (b : Int) / (pp : Int) = ((b / pp : Nat) : Int) := by omega
          have hla : a / pp ≤ a := Nat.div_le_self _ _
          have hlb : b / pp ≤ b := Nat.div_le_self _ _
          generalize a / pp = qa at hqa hla hx
          generalize b / pp = qb at hqb hlb hy
          have hlaI : (qa : Int) < 16 := by omega
          have hlbI : (qb : Int) < 16 := by omega
          have hxI : (qa : Int) % 2 = 0 := by omega
          have hyI : (qb : Int) % 2 = 0 := by omega
          rw [HV.out] at HK
          clear hx hy hx2 hy2
          go_wp2_with fail
          go_roundg (gk - 1)
          case measure => omega
          case rel => exact ⟨k + 1, 2 * pp, vv, by omega, by rw [Nat.pow_succ, HPP.out]; omega, HK.out, by go_num, rfl, rfl⟩
        · have HK := hid (show Mc.bwK 5 a b (k + 1) = Mc.bwK 5 a b k + 2 ^ k by
            show (if Mc.bwHit 5 (a / 2 ^ k % 2 + b / 2 ^ k % 2) = true then Mc.bwK 5 a b k + 2 ^ k else Mc.bwK 5 a b k) = _
            rw [hx, hy]; rfl)
          rw [HPP.out] at hx hy
          have hqa : (a : Int) / (pp : Int) = ((a / pp : Nat) : Int) := by omega
          have hqb : (b : Int) / (pp : Int) = ((b / pp : Nat) : Int) := by omega
          have hla : a / pp ≤ a := Nat.div_le_self _ _
          have hlb : b / pp ≤ b := Nat.div_le_self _ _
          generalize a / pp = qa at hqa hla hx
          generalize b / pp = qb at hqb hlb hy
          have hlaI : (qa : Int) < 16 := by omega
          have hlbI : (qb : Int) < 16 := by omega
          have hxI : (qa : Int) % 2 = 0 := by omega
          have hyI : (qb : Int) % 2 = 1 := by omega
          rw [HV.out, HPP.out] at HK
          clear hx hy hx2 hy2
          go_wp2_with fail
          go_roundg (gk - 1)
          case measure => omega
          case rel => exact ⟨k + 1, 2 * pp, vv + pp, by omega, by rw [Nat.pow_succ, HPP.out]; omega, HK.out, by go_num, by go_num, rfl⟩
      · obtain hy | hy : b / 2 ^ k % 2 = 0 ∨ b / 2 ^ k % 2 = 1 := by omega
        · have HK := hid (show Mc.bwK 5 a b (k + 1) = Mc.bwK 5 a b k + 2 ^ k by
            show (if Mc.bwHit 5 (a / 2 ^ k % 2 + b / 2 ^ k % 2) = true then Mc.bwK 5 a b k + 2 ^ k else Mc.bwK 5 a b k) = _
            rw [hx, hy]; rfl)
          rw [HPP.out] at hx hy
          have hqa : (a : Int) / (pp : Int) = ((a / pp : Nat) : Int) := by omega
          have hqb : (b : Int) / (pp : Int) = ((b / pp : Nat) : Int) := by omega
          have hla : a / pp ≤ a := Nat.div_le_self _ _
          have hlb : b / pp ≤ b := Nat.div_le_self _ _
          generalize a / pp = qa at hqa hla hx
          generalize b / pp = qb at hqb hlb hy
          have hlaI : (qa : Int) < 16 := by omega
          have hlbI : (qb : Int) < 16 := by omega
          have hxI : (qa : Int) % 2 = 1 := by omega
          have hyI : (qb : Int) % 2 = 0 := by omega
          rw [HV.out, HPP.out] at HK
          clear hx hy hx2 hy2
          go_wp2_with fail
          go_roundg (gk - 1)
          case measure => omega
          case rel => exact ⟨k + 1, 2 * pp, vv + pp, by omega, by rw [Nat.pow_succ, HPP.out]; omega, HK.out, by go_num, by go_num, rfl⟩
        · have HK := hid (show Mc.bwK 5 a b (k + 1) = Mc.bwK 5 a b k + 2 ^ k by
            show (if Mc.bwHit 5 (a / 2 ^ k % 2 + b / 2 ^ k % 2) = true then Mc.bwK 5 a b k + 2 ^ k else Mc.bwK 5 a b k) = _
            rw [hx, hy]; rfl)
          rw [HPP.out] at hx hy
          have hqa : (a : Int) / (pp : Int) = ((a / pp : Nat) : Int) := by omega
          have hqb : (b : Int) / (pp : Int) = ((b / pp : Nat) : Int) := by omega
          have hla : a / pp ≤ a := Nat.div_le_self _ _
          have hlb : b / pp ≤ b := Nat.div_le_self _ _
          generalize a / pp = qa at hqa hla hx
          generalize b / pp = qb at hqb hlb hy
          have hlaI : (qa : Int) < 16 := by omega
          have hlbI : (qb : Int) < 16 := by omega
          have hxI : (qa : Int) % 2 = 1 := by omega
          have hyI : (qb : Int) % 2 = 1 := by omega
          rw [HV.out, HPP.out] at HK
          clear hx hy hx2 hy2
          go_wp2_with fail
          go_roundg (gk - 1)
          case measure => omega
          case rel => exact ⟨k + 1, 2 * pp, vv + pp, by omega, by rw [Nat.pow_succ, HPP.out]; omega, HK.out, by go_num, by go_num, rfl⟩
    · have hk4 : k = 4 := by omega
      subst hk4
      have hpe : pp = 16 := by rw [← hpp]
      subst hpe
      have hE : vv = Mc.apply 5 a b := by rw [← hvv]; exact (Mc.bwK_all a ha b hb).2.1
      have HE := hid hE
      clear hE hpp hvv
      go_wp2_with fail
      go_ret
      exact ⟨congrArg (fun z : Nat => Ending.returned (.int .i64 (z : Int))) HE.out, rfl⟩
set_option maxRecDepth 100000 in
set_option maxHeartbeats 2000000 in
theorem bitwise_xor (a b : Nat) (ha : a < 16) (hb : b < 16) (w : World) :
    Calls Tryz.prog 110 #[.string ⟨#[94]⟩, .int .i64 a, .int .i64 b] w fun e w' => e = .returned (.int .i64 (Mc.apply 6 a b : Nat)) ∧ w' = w := by
  go_enter Tryz.func110, Tryz.ntmps110
  go_wp2_with fail
  go_loopg [7, 8] 4 (fun gk vx px wr => ∃ k pp vv : Nat, k + gk = 4 ∧ 2 ^ k = pp ∧ Mc.bwK 6 a b k = vv ∧ px = .int .i64 pp ∧ vx = .int .i64 vv ∧ wr = w)
  case atStart => exact ⟨0, 1, 0, rfl, rfl, rfl, rfl, rfl, rfl⟩
  case round =>
    obtain ⟨k, pp, vv, hk, hpp, hvv, rfl, rfl, hw⟩ := hrel
    have hw2 := hw.symm
    clear hw
    subst hw2
    have hle := Mc.bwK_le 6 a b k
    have hp4 : 2 ^ k ≤ 2 ^ 4 := Nat.pow_le_pow_right (by omega) (by omega)
    have hp0 : 0 < 2 ^ k := Nat.two_pow_pos k
    rw [hpp] at hle hp4 hp0
    rw [hvv] at hle
    have HPP := hid hpp
    have HV := hid hvv
    have hppI : (pp : Int) ≤ 16 := by omega
    have hpp0 : (0 : Int) < (pp : Int) := by omega
    have hvvI : (vv : Int) < (pp : Int) := by omega
    by_cases hlt : k < 4
    · have hp8 : pp ≤ 8 := by
        have : 2 ^ k ≤ 2 ^ 3 := Nat.pow_le_pow_right (by omega) (by omega)
        omega
      have hp8I : (pp : Int) < 16 := by omega
      clear hpp hvv
      have hx2 := Nat.mod_lt (a / 2 ^ k) (show 0 < 2 by omega)
      have hy2 := Nat.mod_lt (b / 2 ^ k) (show 0 < 2 by omega)
      obtain hx | hx : a / 2 ^ k % 2 = 0 ∨ a / 2 ^ k % 2 = 1 := by omega
      · obtain hy | hy : b / 2 ^ k % 2 = 0 ∨ b / 2 ^ k % 2 = 1 := by omega
        · have HK := hid (show Mc.bwK 6 a b (k + 1) = Mc.bwK 6 a b k by
            show (if Mc.bwHit 6 (a / 2 ^ k % 2 + b / 2 ^ k % 2) = true then Mc.bwK 6 a b k + 2 ^ k else Mc.bwK 6 a b k) = _
            rw [hx, hy]; rfl)
          rw [HPP.out] at hx hy
          have hqa : (a : Int) / (pp : Int) = ((a / pp : Nat) : Int) := by omega
          have hqb : (b : Int) / (pp : Int) = ((b / pp : Nat) : Int) := by omega
          have hla : a / pp ≤ a := Nat.div_le_self _ _
          have hlb : b / pp ≤ b := Nat.div_le_self _ _
          generalize a / pp = qa at hqa hla hx
          generalize b / pp = qb at hqb hlb hy
          have hlaI : (qa : Int) < 16 := by omega
          have hlbI : (qb : Int) < 16 := by omega
          have hxI : (qa : Int) % 2 = 0 := by omega
          have hyI : (qb : Int) % 2 = 0 := by omega
          rw [HV.out] at HK
          clear hx hy hx2 hy2
          go_wp2_with fail
          go_roundg (gk - 1)
          case measure => omega
          case rel => exact ⟨k + 1, 2 * pp, vv, by omega, by rw [Nat.pow_succ, HPP.out]; omega, HK.out, by go_num, rfl, rfl⟩
        · have HK := hid (show Mc.bwK 6 a b (k + 1) = Mc.bwK 6 a b k + 2 ^ k by
            show (if Mc.bwHit 6 (a / 2 ^ k % 2 + b / 2 ^ k % 2) = true then Mc.bwK 6 a b k + 2 ^ k else Mc.bwK 6 a b k) = _
            rw [hx, hy]; rfl)
          rw [HPP.out] at hx hy
          have hqa : (a : Int) / (pp : Int) = ((a / pp : Nat) : Int) := by omega
          have hqb : (b : Int) / (pp : Int) = ((b / pp : Nat) : Int) := by omega
          have hla : a / pp ≤ a := Nat.div_le_self _ _
          have hlb : b / pp ≤ b := Nat.div_le_self _ _
          generalize a / pp = qa at hqa hla hx
          generalize b / pp = qb at hqb hlb hy
          have hlaI : (qa : Int) < 16 := by omega
          have hlbI : (qb : Int) < 16 := by omega
          have hxI : (qa : Int) % 2 = 0 := by omega
          have hyI : (qb : Int) % 2 = 1 := by omega
          rw [HV.out, HPP.out] at HK
          clear hx hy hx2 hy2
          go_wp2_with fail
          go_roundg (gk - 1)
          case measure => omega
          case rel => exact ⟨k + 1, 2 * pp, vv + pp, by omega, by rw [Nat.pow_succ, HPP.out]; omega, HK.out, by go_num, by go_num, rfl⟩
      · obtain hy | hy : b / 2 ^ k % 2 = 0 ∨ b / 2 ^ k % 2 = 1 := by omega
        · have HK := hid (show Mc.bwK 6 a b (k + 1) = Mc.bwK 6 a b k + 2 ^ k by
            show (if Mc.bwHit 6 (a / 2 ^ k % 2 + b / 2 ^ k % 2) = true then Mc.bwK 6 a b k + 2 ^ k else Mc.bwK 6 a b k) = _
            rw [hx, hy]; rfl)
          rw [HPP.out] at hx hy
          have hqa : (a : Int) / (pp : Int) = ((a / pp : Nat) : Int) := by omega
          have hqb : (b : Int) / (pp : Int) = ((b / pp : Nat) : Int) := by omega
          have hla : a / pp ≤ a := Nat.div_le_self _ _
          have hlb : b / pp ≤ b := Nat.div_le_self _ _
          generalize a / pp = qa at hqa hla hx
          generalize b / pp = qb at hqb hlb hy
          have hlaI : (qa : Int) < 16 := by omega
          have hlbI : (qb : Int) < 16 := by omega
          have hxI : (qa : Int) % 2 = 1 := by omega
          have hyI : (qb : Int) % 2 = 0 := by omega
          rw [HV.out, HPP.out] at HK
          clear hx hy hx2 hy2
          go_wp2_with fail
          go_roundg (gk - 1)
          case measure => omega
          case rel => exact ⟨k + 1, 2 * pp, vv + pp, by omega, by rw [Nat.pow_succ, HPP.out]; omega, HK.out, by go_num, by go_num, rfl⟩
        · have HK := hid (show Mc.bwK 6 a b (k + 1) = Mc.bwK 6 a b k by
            show (if Mc.bwHit 6 (a / 2 ^ k % 2 + b / 2 ^ k % 2) = true then Mc.bwK 6 a b k + 2 ^ k else Mc.bwK 6 a b k) = _
            rw [hx, hy]; rfl)
          rw [HPP.out] at hx hy
          have hqa : (a : Int) / (pp : Int) = ((a / pp : Nat) : Int) := by omega
          have hqb : (b : Int) / (pp : Int) = ((b / pp : Nat) : Int) := by omega
          have hla : a / pp ≤ a := Nat.div_le_self _ _
          have hlb : b / pp ≤ b := Nat.div_le_self _ _
          generalize a / pp = qa at hqa hla hx
          generalize b / pp = qb at hqb hlb hy
          have hlaI : (qa : Int) < 16 := by omega
          have hlbI : (qb : Int) < 16 := by omega
          have hxI : (qa : Int) % 2 = 1 := by omega
          have hyI : (qb : Int) % 2 = 1 := by omega
          rw [HV.out] at HK
          clear hx hy hx2 hy2
          go_wp2_with fail
          go_roundg (gk - 1)
          case measure => omega
          case rel => exact ⟨k + 1, 2 * pp, vv, by omega, by rw [Nat.pow_succ, HPP.out]; omega, HK.out, by go_num, rfl, rfl⟩
    · have hk4 : k = 4 := by omega
      subst hk4
      have hpe : pp = 16 := by rw [← hpp]
      subst hpe
      have hE : vv = Mc.apply 6 a b := by rw [← hvv]; exact (Mc.bwK_all a ha b hb).2.2
      have HE := hid hE
      clear hE hpp hvv
      go_wp2_with fail
      go_ret
      exact ⟨congrArg (fun z : Nat => Ending.returned (.int .i64 (z : Int))) HE.out, rfl⟩
set_option maxRecDepth 100000 in
set_option maxHeartbeats 2000000 in
theorem compute_add (a b : Nat) (ha : a < 16) (hb : b < 16) (w : World) :
    Calls Tryz.prog 90 #[.string ⟨#[43]⟩, .int .i64 a, .int .i64 b] w fun e w' => e = .returned (.int .i64 (Mc.apply 1 a b : Nat)) ∧ w' = w := by
  have haI : (a : Int) < 16 := by omega
  have hbI : (b : Int) < 16 := by omega
  go_enter Tryz.func90, Tryz.ntmps90
  go_wp2_with fail
  go_ret
  exact ⟨congrArg (fun z => Ending.returned (Value.int .i64 z)) (by show _ = (((a + b) % 16 : Nat) : Int); omega), rfl⟩
set_option maxRecDepth 100000 in
set_option maxHeartbeats 2000000 in
theorem compute_sub (a b : Nat) (ha : a < 16) (hb : b < 16) (w : World) :
    Calls Tryz.prog 90 #[.string ⟨#[45]⟩, .int .i64 a, .int .i64 b] w fun e w' => e = .returned (.int .i64 (Mc.apply 2 a b : Nat)) ∧ w' = w := by
  have haI : (a : Int) < 16 := by omega
  have hbI : (b : Int) < 16 := by omega
  go_enter Tryz.func90, Tryz.ntmps90
  go_wp2_with fail
  go_ret
  exact ⟨congrArg (fun z => Ending.returned (Value.int .i64 z)) (by show _ = (((a + 16 - b) % 16 : Nat) : Int); omega), rfl⟩
set_option maxRecDepth 100000 in
set_option maxHeartbeats 2000000 in
theorem compute_mul (a b : Nat) (ha : a < 16) (hb : b < 16) (w : World) :
    Calls Tryz.prog 90 #[.string ⟨#[42]⟩, .int .i64 a, .int .i64 b] w fun e w' => e = .returned (.int .i64 (Mc.apply 3 a b : Nat)) ∧ w' = w := by
  have haI : (a : Int) < 16 := by omega
  have hbI : (b : Int) < 16 := by omega
  have hm : a * b ≤ 15 * 15 := Nat.mul_le_mul (by omega) (by omega)
  have hmI : (a : Int) * (b : Int) = ((a * b : Nat) : Int) := by simp
  generalize hq : a * b = q at hm hmI
  have HQ := hid hq
  have hqI : (q : Int) ≤ 225 := by omega
  clear hq
  go_enter Tryz.func90, Tryz.ntmps90
  go_wp2_with fail
  go_ret
  exact ⟨congrArg (fun z => Ending.returned (Value.int .i64 z)) (by show _ = ((a * b % 16 : Nat) : Int); rw [HQ.out]; omega), rfl⟩
set_option maxRecDepth 100000 in
set_option maxHeartbeats 2000000 in
theorem compute_less (a b : Nat) (ha : a < 16) (hb : b < 16) (w : World) :
    Calls Tryz.prog 90 #[.string ⟨#[60]⟩, .int .i64 a, .int .i64 b] w fun e w' => e = .returned (.int .i64 (Mc.apply 9 a b : Nat)) ∧ w' = w := by
  have haI : (a : Int) < 16 := by omega
  have hbI : (b : Int) < 16 := by omega
  by_cases hc : a < b
  · have hI : (a : Int) < (b : Int) := by omega
    have HC := hid hc
    clear hc
    go_enter Tryz.func90, Tryz.ntmps90
    go_wp2_with fail
    go_ret
    exact ⟨congrArg (fun z => Ending.returned (Value.int .i64 z)) (by unfold Mc.apply; simp [HC.out]), rfl⟩
  · have hI : ¬ (a : Int) < (b : Int) := by omega
    have HC := hid hc
    clear hc
    go_enter Tryz.func90, Tryz.ntmps90
    go_wp2_with fail
    go_ret
    exact ⟨congrArg (fun z => Ending.returned (Value.int .i64 z)) (by unfold Mc.apply; simp [HC.out]), rfl⟩
set_option maxRecDepth 100000 in
set_option maxHeartbeats 2000000 in
theorem compute_same (a b : Nat) (ha : a < 16) (hb : b < 16) (w : World) :
    Calls Tryz.prog 90 #[.string ⟨#[61, 61]⟩, .int .i64 a, .int .i64 b] w fun e w' => e = .returned (.int .i64 (Mc.apply 10 a b : Nat)) ∧ w' = w := by
  have haI : (a : Int) < 16 := by omega
  have hbI : (b : Int) < 16 := by omega
  by_cases hc : a = b
  · have hI : ((a : Int) == (b : Int)) = true := by simp; omega
    have HC := hid hc
    clear hc
    go_enter Tryz.func90, Tryz.ntmps90
    go_wp2_with fail
    go_ret
    exact ⟨congrArg (fun z => Ending.returned (Value.int .i64 z)) (by unfold Mc.apply; simp [HC.out]), rfl⟩
  · have hI : ((a : Int) == (b : Int)) = false := by simp; omega
    have HC := hid hc
    clear hc
    go_enter Tryz.func90, Tryz.ntmps90
    go_wp2_with fail
    go_ret
    exact ⟨congrArg (fun z => Ending.returned (Value.int .i64 z)) (by unfold Mc.apply; simp [HC.out]), rfl⟩
set_option maxRecDepth 100000 in
set_option maxHeartbeats 2000000 in
theorem compute_and (a b : Nat) (ha : a < 16) (hb : b < 16) (w : World) :
    Calls Tryz.prog 90 #[.string ⟨#[38]⟩, .int .i64 a, .int .i64 b] w fun e w' => e = .returned (.int .i64 (Mc.apply 4 a b : Nat)) ∧ w' = w := by
  have haI : (a : Int) < 16 := by omega
  have hbI : (b : Int) < 16 := by omega
  have hl := apply_lt 4 a b (by omega) ha hb
  have HB : Hid (∀ W : World, Calls Tryz.prog 110 #[.string ⟨#[38]⟩, .int .i64 a, .int .i64 b] W fun e w' => e = .returned (.int .i64 (Mc.apply 4 a b : Nat)) ∧ w' = W) := fun W => bitwise_and a b ha hb W
  generalize Mc.apply 4 a b = q at hl HB ⊢
  have hqI : (q : Int) < 16 := by omega
  go_enter Tryz.func90, Tryz.ntmps90
  go_wp2_with (first | (go_at_call 110; refine (HB.out _).mono ?_; rintro e w0 ⟨rfl, hw0⟩; have hw1 := hw0.symm; subst hw1))
  go_ret
  exact ⟨congrArg (fun z => Ending.returned (Value.int .i64 z)) (by omega), rfl⟩
set_option maxRecDepth 100000 in
set_option maxHeartbeats 2000000 in
theorem compute_or (a b : Nat) (ha : a < 16) (hb : b < 16) (w : World) :
    Calls Tryz.prog 90 #[.string ⟨#[124]⟩, .int .i64 a, .int .i64 b] w fun e w' => e = .returned (.int .i64 (Mc.apply 5 a b : Nat)) ∧ w' = w := by
  have haI : (a : Int) < 16 := by omega
  have hbI : (b : Int) < 16 := by omega
  have hl := apply_lt 5 a b (by omega) ha hb
  have HB : Hid (∀ W : World, Calls Tryz.prog 110 #[.string ⟨#[124]⟩, .int .i64 a, .int .i64 b] W fun e w' => e = .returned (.int .i64 (Mc.apply 5 a b : Nat)) ∧ w' = W) := fun W => bitwise_or a b ha hb W
  generalize Mc.apply 5 a b = q at hl HB ⊢
  have hqI : (q : Int) < 16 := by omega
  go_enter Tryz.func90, Tryz.ntmps90
  go_wp2_with (first | (go_at_call 110; refine (HB.out _).mono ?_; rintro e w0 ⟨rfl, hw0⟩; have hw1 := hw0.symm; subst hw1))
  go_ret
  exact ⟨congrArg (fun z => Ending.returned (Value.int .i64 z)) (by omega), rfl⟩
set_option maxRecDepth 100000 in
set_option maxHeartbeats 2000000 in
theorem compute_xor (a b : Nat) (ha : a < 16) (hb : b < 16) (w : World) :
    Calls Tryz.prog 90 #[.string ⟨#[94]⟩, .int .i64 a, .int .i64 b] w fun e w' => e = .returned (.int .i64 (Mc.apply 6 a b : Nat)) ∧ w' = w := by
  have haI : (a : Int) < 16 := by omega
  have hbI : (b : Int) < 16 := by omega
  have hl := apply_lt 6 a b (by omega) ha hb
  have HB : Hid (∀ W : World, Calls Tryz.prog 110 #[.string ⟨#[94]⟩, .int .i64 a, .int .i64 b] W fun e w' => e = .returned (.int .i64 (Mc.apply 6 a b : Nat)) ∧ w' = W) := fun W => bitwise_xor a b ha hb W
  generalize Mc.apply 6 a b = q at hl HB ⊢
  have hqI : (q : Int) < 16 := by omega
  go_enter Tryz.func90, Tryz.ntmps90
  go_wp2_with (first | (go_at_call 110; refine (HB.out _).mono ?_; rintro e w0 ⟨rfl, hw0⟩; have hw1 := hw0.symm; subst hw1))
  go_ret
  exact ⟨congrArg (fun z => Ending.returned (Value.int .i64 z)) (by omega), rfl⟩
set_option maxRecDepth 100000 in
set_option maxHeartbeats 2000000 in
theorem compute_shl (a b : Nat) (ha : a < 16) (hb : b < 16) (w : World) :
    Calls Tryz.prog 90 #[.string ⟨#[60, 60]⟩, .int .i64 a, .int .i64 b] w fun e w' => e = .returned (.int .i64 (Mc.apply 7 a b : Nat)) ∧ w' = w := by
  have haI : (a : Int) < 16 := by omega
  have hbI : (b : Int) < 16 := by omega
  go_enter Tryz.func90, Tryz.ntmps90
  go_wp2_with fail
  go_loopg [7, 8] b (fun gk vx ix wr => ∃ i vv : Nat, i + gk = b ∧ Mc.shlK a i = vv ∧ ix = .int .i64 i ∧ vx = .int .i64 vv ∧ wr = w)
  case atStart => exact ⟨0, a, by omega, rfl, rfl, rfl, rfl⟩
  case round =>
    obtain ⟨i, vv, hi, hv, rfl, rfl, hw⟩ := hrel
    have hw2 := hw.symm
    clear hw
    subst hw2
    have hl := Mc.shlK_lt a ha i
    rw [hv] at hl
    have hlI : (vv : Int) < 16 := by omega
    by_cases hlt : i < b
    · have HN := hid (show Mc.shlK a (i + 1) = 2 * vv % 16 by rw [← hv]; rfl)
      clear hv
      go_wp2_with fail
      go_roundg (gk - 1)
      case measure => omega
      case rel => exact ⟨i + 1, 2 * vv % 16, by omega, HN.out, by go_num, by go_num, rfl⟩
    · have hie : i = b := by omega
      subst hie
      have hE : vv % 16 = Mc.apply 7 a i := by rw [← hv]; exact (Mc.sh_all a ha i hb).1
      have HE := hid hE
      clear hv hE
      go_wp2_with fail
      go_ret
      exact ⟨congrArg (fun z => Ending.returned (Value.int .i64 z)) (by rw [← HE.out]; omega), rfl⟩
set_option maxRecDepth 100000 in
set_option maxHeartbeats 2000000 in
theorem compute_shr (a b : Nat) (ha : a < 16) (hb : b < 16) (w : World) :
    Calls Tryz.prog 90 #[.string ⟨#[62, 62]⟩, .int .i64 a, .int .i64 b] w fun e w' => e = .returned (.int .i64 (Mc.apply 8 a b : Nat)) ∧ w' = w := by
  have haI : (a : Int) < 16 := by omega
  have hbI : (b : Int) < 16 := by omega
  go_enter Tryz.func90, Tryz.ntmps90
  go_wp2_with fail
  go_loopg [7, 9] b (fun gk vx ix wr => ∃ i vv : Nat, i + gk = b ∧ Mc.shrK a i = vv ∧ ix = .int .i64 i ∧ vx = .int .i64 vv ∧ wr = w)
  case atStart => exact ⟨0, a, by omega, rfl, rfl, rfl, rfl⟩
  case round =>
    obtain ⟨i, vv, hi, hv, rfl, rfl, hw⟩ := hrel
    have hw2 := hw.symm
    clear hw
    subst hw2
    have hl := Mc.shrK_lt a ha i
    rw [hv] at hl
    have hlI : (vv : Int) < 16 := by omega
    by_cases hlt : i < b
    · have HN := hid (show Mc.shrK a (i + 1) = vv / 2 by rw [← hv]; rfl)
      clear hv
      go_wp2_with fail
      go_roundg (gk - 1)
      case measure => omega
      case rel => exact ⟨i + 1, vv / 2, by omega, HN.out, by go_num, by go_num, rfl⟩
    · have hie : i = b := by omega
      subst hie
      have hE : vv % 16 = Mc.apply 8 a i := by rw [← hv]; exact (Mc.sh_all a ha i hb).2
      have HE := hid hE
      clear hv hE
      go_wp2_with fail
      go_ret
      exact ⟨congrArg (fun z => Ending.returned (Value.int .i64 z)) (by rw [← HE.out]; omega), rfl⟩
theorem ba_of_list {q : ByteArray} {l : List UInt8} (h : q.toList = l) : q = ⟨l.toArray⟩ := by
  rw [ByteArray.toList_eq] at h
  cases q with
  | mk d => rw [← h]
theorem oper_ite {c : Bool} {o n : Nat} {f : Option Nat} (h : (if c = true then some n else f) = some o) : (c = true ∧ o = n) ∨ f = some o := by
  cases c with
  | true => rw [if_pos rfl] at h; exact .inl ⟨rfl, (Option.some.inj h).symm⟩
  | false => rw [if_neg (by simp)] at h; exact .inr h
theorem compute_any (q : ByteArray) (o : Nat) (ho : Lk.oper? q.toList = some o) (a b : Nat) (ha : a < 16) (hb : b < 16) (w : World) :
    Calls Tryz.prog 90 #[.string q, .int .i64 a, .int .i64 b] w fun e w' => e = .returned (.int .i64 (Mc.apply o a b : Nat)) ∧ w' = w := by
  unfold Lk.oper? at ho
  rcases oper_ite ho with ⟨h, rfl⟩ | ho
  · rw [ba_of_list (beq_iff_eq.1 h)]; exact compute_add a b ha hb w
  rcases oper_ite ho with ⟨h, rfl⟩ | ho
  · rw [ba_of_list (beq_iff_eq.1 h)]; exact compute_sub a b ha hb w
  rcases oper_ite ho with ⟨h, rfl⟩ | ho
  · rw [ba_of_list (beq_iff_eq.1 h)]; exact compute_mul a b ha hb w
  rcases oper_ite ho with ⟨h, rfl⟩ | ho
  · rw [ba_of_list (beq_iff_eq.1 h)]; exact compute_and a b ha hb w
  rcases oper_ite ho with ⟨h, rfl⟩ | ho
  · rw [ba_of_list (beq_iff_eq.1 h)]; exact compute_or a b ha hb w
  rcases oper_ite ho with ⟨h, rfl⟩ | ho
  · rw [ba_of_list (beq_iff_eq.1 h)]; exact compute_xor a b ha hb w
  rcases oper_ite ho with ⟨h, rfl⟩ | ho
  · rw [ba_of_list (beq_iff_eq.1 h)]; exact compute_shl a b ha hb w
  rcases oper_ite ho with ⟨h, rfl⟩ | ho
  · rw [ba_of_list (beq_iff_eq.1 h)]; exact compute_shr a b ha hb w
  rcases oper_ite ho with ⟨h, rfl⟩ | ho
  · rw [ba_of_list (beq_iff_eq.1 h)]; exact compute_less a b ha hb w
  rcases oper_ite ho with ⟨h, rfl⟩ | ho
  · rw [ba_of_list (beq_iff_eq.1 h)]; exact compute_same a b ha hb w
  cases ho
end Go.Proofs.YtgddmpmcnjlcjaaGreatDoor
