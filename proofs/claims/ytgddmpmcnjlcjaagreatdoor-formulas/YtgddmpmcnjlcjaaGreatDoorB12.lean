import Derived.Test.YtgddmpmcnjlcjaaGreatDoorB11
import Derived.Deep.QuietTactic
import Derived.BigQuiet
import Derived.Test.YtgddmpmcnjlcjaaGreatDoorB10
import Derived.RegionTactic
set_option maxRecDepth 100000
set_option maxHeartbeats 1000000
namespace Go.Proofs.YtgddmpmcnjlcjaaGreatDoor
open Go.RowKit
set_option linter.unusedVariables false
namespace Mc
def apply (op a b:Nat):Nat:=
 match op with
 |1=>(a+b)%16
 |2=>(a+16 - b)%16
 |3=>a*b%16
 |4=>a &&& b
 |5=>a|||b
 |6=>a ^^^ b
 |7=>a<<<b%16
 |8=>a >>> b
 |9=>if a<b then 1 else 0
 |10=>if a=b then 1 else 0
 |_=>a
end Mc
theorem vM (a b:Nat) (ha:a<16) (hb:b<16):bits BinOp.and .i64 ((a:Int)+b) 15=((Mc.apply 1 a b:Nat):Int):=
 (show ∀ a b:Fin 16,bits BinOp.and .i64 ((a.val:Int)+b.val) 15=((Mc.apply 1 a.val b.val:Nat):Int) by decide+kernel) ⟨a,ha⟩ ⟨b,hb⟩
theorem vO (a b:Nat) (ha:a<16) (hb:b<16):bits BinOp.and .i64 ((a:Int) - b) 15=((Mc.apply 2 a b:Nat):Int):=
 (show ∀ a b:Fin 16,bits BinOp.and .i64 ((a.val:Int) - b.val) 15=((Mc.apply 2 a.val b.val:Nat):Int) by decide+kernel) ⟨a,ha⟩ ⟨b,hb⟩
theorem vP (a b:Nat) (ha:a<16) (hb:b<16):bits BinOp.and .i64 (wrap64 ((a:Int)*b)) 15=((Mc.apply 3 a b:Nat):Int):=
 (show ∀ a b:Fin 16,bits BinOp.and .i64 (wrap64 ((a.val:Int)*b.val)) 15=((Mc.apply 3 a.val b.val:Nat):Int) by decide+kernel) ⟨a,ha⟩ ⟨b,hb⟩
theorem vQ (a b:Nat) (ha:a<16) (hb:b<16):bits BinOp.and .i64 (a:Int) b=((Mc.apply 4 a b:Nat):Int):=
 (show ∀ a b:Fin 16,bits BinOp.and .i64 (a.val:Int) b.val=((Mc.apply 4 a.val b.val:Nat):Int) by decide+kernel) ⟨a,ha⟩ ⟨b,hb⟩
theorem zD (a b:Nat) (ha:a<16) (hb:b<16):bits BinOp.or .i64 (a:Int) b=((Mc.apply 5 a b:Nat):Int):=
 (show ∀ a b:Fin 16,bits BinOp.or .i64 (a.val:Int) b.val=((Mc.apply 5 a.val b.val:Nat):Int) by decide+kernel) ⟨a,ha⟩ ⟨b,hb⟩
theorem vS (a b:Nat) (ha:a<16) (hb:b<16):bits BinOp.xor .i64 (a:Int) b=((Mc.apply 6 a b:Nat):Int):=
 (show ∀ a b:Fin 16,bits BinOp.xor .i64 (a.val:Int) b.val=((Mc.apply 6 a.val b.val:Nat):Int) by decide+kernel) ⟨a,ha⟩ ⟨b,hb⟩
theorem gu (b:Nat) (hb:b<16):bits BinOp.and .i64 (b:Int) 15=(b:Int):=
 (show ∀ b:Fin 16,bits BinOp.and .i64 (b.val:Int) 15=(b.val:Int) by decide+kernel) ⟨b,hb⟩
theorem vU (a b:Nat) (ha:a<16) (hb:b<16):bits BinOp.and .i64 (wrap64 ((a:Int)*2 ^ b)) 15=((Mc.apply 7 a b:Nat):Int):=
 (show ∀ a b:Fin 16,bits BinOp.and .i64 (wrap64 ((a.val:Int)*2 ^ b.val)) 15=((Mc.apply 7 a.val b.val:Nat):Int) by decide+kernel) ⟨a,ha⟩ ⟨b,hb⟩
theorem vV (a b:Nat) (ha:a<16) (hb:b<16):(a:Int)/2 ^ b=((Mc.apply 8 a b:Nat):Int):=
 (show ∀ a b:Fin 16,(a.val:Int)/2 ^ b.val=((Mc.apply 8 a.val b.val:Nat):Int) by decide+kernel) ⟨a,ha⟩ ⟨b,hb⟩
theorem VL (b:Bool) (w:World):Calls Tryz.prog 115 #[.bool b] w fun e w'=>e=.returned (.int .i64 (if b=true then 1 else 0))∧w'=w:=by
 cases b with
 |true=>
  go_enter Tryz.func115,Tryz.ntmps115
  go_wp2
  go_ret
  exact ⟨rfl,rfl⟩
 |false=>
  go_enter Tryz.func115,Tryz.ntmps115
  go_wp2
  go_ret
  exact ⟨rfl,rfl⟩
theorem zE (a b:Nat) (w:World) (ha:a<16) (hb:b<16):
  Calls Tryz.prog 109 #[.int .i64 0,.int .i64 a,.int .i64 b] w fun e w'=>e=.returned (.int .i64 (Mc.apply 0 a b:Nat))∧w'=w:=by
 go_enter Tryz.func109,Tryz.ntmps109
 go_wp2
 go_ret
 exact ⟨rfl,rfl⟩
theorem zF (a b:Nat) (w:World) (ha:a<16) (hb:b<16):
  Calls Tryz.prog 109 #[.int .i64 1,.int .i64 a,.int .i64 b] w fun e w'=>e=.returned (.int .i64 (Mc.apply 1 a b:Nat))∧w'=w:=by
 go_enter Tryz.func109,Tryz.ntmps109
 go_wp2
 go_ret
 exact ⟨congrArg (fun z=>Ending.returned (Value.int .i64 z)) (vM a b ha hb),rfl⟩
theorem zG (a b:Nat) (w:World) (ha:a<16) (hb:b<16):
  Calls Tryz.prog 109 #[.int .i64 2,.int .i64 a,.int .i64 b] w fun e w'=>e=.returned (.int .i64 (Mc.apply 2 a b:Nat))∧w'=w:=by
 go_enter Tryz.func109,Tryz.ntmps109
 go_wp2
 go_ret
 exact ⟨congrArg (fun z=>Ending.returned (Value.int .i64 z)) (vO a b ha hb),rfl⟩
theorem zH (a b:Nat) (w:World) (ha:a<16) (hb:b<16):
  Calls Tryz.prog 109 #[.int .i64 3,.int .i64 a,.int .i64 b] w fun e w'=>e=.returned (.int .i64 (Mc.apply 3 a b:Nat))∧w'=w:=by
 go_enter Tryz.func109,Tryz.ntmps109
 go_wp2
 go_ret
 exact ⟨congrArg (fun z=>Ending.returned (Value.int .i64 z)) (vP a b ha hb),rfl⟩
theorem zI (a b:Nat) (w:World) (ha:a<16) (hb:b<16):
  Calls Tryz.prog 109 #[.int .i64 4,.int .i64 a,.int .i64 b] w fun e w'=>e=.returned (.int .i64 (Mc.apply 4 a b:Nat))∧w'=w:=by
 go_enter Tryz.func109,Tryz.ntmps109
 go_wp2
 go_ret
 exact ⟨congrArg (fun z=>Ending.returned (Value.int .i64 z)) (vQ a b ha hb),rfl⟩
theorem zJ (a b:Nat) (w:World) (ha:a<16) (hb:b<16):
  Calls Tryz.prog 109 #[.int .i64 5,.int .i64 a,.int .i64 b] w fun e w'=>e=.returned (.int .i64 (Mc.apply 5 a b:Nat))∧w'=w:=by
 go_enter Tryz.func109,Tryz.ntmps109
 go_wp2
 go_ret
 exact ⟨congrArg (fun z=>Ending.returned (Value.int .i64 z)) (zD a b ha hb),rfl⟩
theorem zK (a b:Nat) (w:World) (ha:a<16) (hb:b<16):
  Calls Tryz.prog 109 #[.int .i64 6,.int .i64 a,.int .i64 b] w fun e w'=>e=.returned (.int .i64 (Mc.apply 6 a b:Nat))∧w'=w:=by
 go_enter Tryz.func109,Tryz.ntmps109
 go_wp2
 go_ret
 exact ⟨congrArg (fun z=>Ending.returned (Value.int .i64 z)) (vS a b ha hb),rfl⟩
theorem zL (a b:Nat) (w:World) (ha:a<16) (hb:b<16):
  Calls Tryz.prog 109 #[.int .i64 7,.int .i64 a,.int .i64 b] w fun e w'=>e=.returned (.int .i64 (Mc.apply 7 a b:Nat))∧w'=w:=by
 have hl:=gu b hb
 go_enter Tryz.func109,Tryz.ntmps109
 go_wp2
 go_ret
 exact ⟨congrArg (fun z=>Ending.returned (Value.int .i64 z)) (vU a b ha hb),rfl⟩
theorem zM (a b:Nat) (w:World) (ha:a<16) (hb:b<16):
  Calls Tryz.prog 109 #[.int .i64 8,.int .i64 a,.int .i64 b] w fun e w'=>e=.returned (.int .i64 (Mc.apply 8 a b:Nat))∧w'=w:=by
 have hl:=gu b hb
 go_enter Tryz.func109,Tryz.ntmps109
 go_wp2
 go_ret
 exact ⟨congrArg (fun z=>Ending.returned (Value.int .i64 z)) (vV a b ha hb),rfl⟩
theorem zN (a b:Nat) (w:World) (ha:a<16) (hb:b<16):
  Calls Tryz.prog 109 #[.int .i64 9,.int .i64 a,.int .i64 b] w fun e w'=>e=.returned (.int .i64 (Mc.apply 9 a b:Nat))∧w'=w:=by
 by_cases h:a<b
 ·have hI:(a:Int)<(b:Int):=by omega
  have H:=hid h
  clear h
  go_enter Tryz.func109,Tryz.ntmps109
  go_wp2_with (first|(go_at_call 115;refine (VL _ _).mono ?_;rintro e w0 ⟨rfl,hw0⟩;have hw1:=hw0.symm;subst hw1))
  go_ret
  exact ⟨congrArg (fun z=>Ending.returned (Value.int .i64 z)) (by unfold Mc.apply;simp[H.out]),rfl⟩
 ·have hI: ¬(a:Int)<(b:Int):=by omega
  have H:=hid h
  clear h
  go_enter Tryz.func109,Tryz.ntmps109
  go_wp2_with (first|(go_at_call 115;refine (VL _ _).mono ?_;rintro e w0 ⟨rfl,hw0⟩;have hw1:=hw0.symm;subst hw1))
  go_ret
  exact ⟨congrArg (fun z=>Ending.returned (Value.int .i64 z)) (by unfold Mc.apply;simp[H.out]),rfl⟩
theorem vW (a b:Nat) (w:World) (ha:a<16) (hb:b<16):
  Calls Tryz.prog 109 #[.int .i64 10,.int .i64 a,.int .i64 b] w fun e w'=>e=.returned (.int .i64 (Mc.apply 10 a b:Nat))∧w'=w:=by
 by_cases h:a=b
 ·have hI:((a:Int)==(b:Int))=true:=by simp;omega
  have H:=hid h
  clear h
  go_enter Tryz.func109,Tryz.ntmps109
  go_wp2_with (first|(go_at_call 115;refine (VL _ _).mono ?_;rintro e w0 ⟨rfl,hw0⟩;have hw1:=hw0.symm;subst hw1))
  go_ret
  exact ⟨congrArg (fun z=>Ending.returned (Value.int .i64 z)) (by unfold Mc.apply;simp[H.out]),rfl⟩
 ·have hI:((a:Int)==(b:Int))=false:=by simp;omega
  have H:=hid h
  clear h
  go_enter Tryz.func109,Tryz.ntmps109
  go_wp2_with (first|(go_at_call 115;refine (VL _ _).mono ?_;rintro e w0 ⟨rfl,hw0⟩;have hw1:=hw0.symm;subst hw1))
  go_ret
  exact ⟨congrArg (fun z=>Ending.returned (Value.int .i64 z)) (by unfold Mc.apply;simp[H.out]),rfl⟩
theorem rX (op a b:Nat) (w:World) (ho:op≤10) (ha:a<16) (hb:b<16):
  Calls Tryz.prog 109 #[.int .i64 op,.int .i64 a,.int .i64 b] w fun e w'=>e=.returned (.int .i64 (Mc.apply op a b:Nat))∧w'=w:=by
 match op,ho with
 |0,_=>exact zE a b w ha hb
 |1,_=>exact zF a b w ha hb
 |2,_=>exact zG a b w ha hb
 |3,_=>exact zH a b w ha hb
 |4,_=>exact zI a b w ha hb
 |5,_=>exact zJ a b w ha hb
 |6,_=>exact zK a b w ha hb
 |7,_=>exact zL a b w ha hb
 |8,_=>exact zM a b w ha hb
 |9,_=>exact zN a b w ha hb
 |10,_=>exact vW a b w ha hb
 |n+11,h=>omega
theorem SG (op a b:Nat) (ho:op≤10) (ha:a<16) (hb:b<16):Mc.apply op a b<16:=
 (show ∀ op:Fin 11, ∀ a b:Fin 16,Mc.apply op.val a.val b.val<16 by decide+kernel) ⟨op,by omega⟩ ⟨a,ha⟩ ⟨b,hb⟩
namespace Mc
structure M where
 slots:Nat→Nat:=fun _=>0
 AR:Nat→Nat:=fun _=>0
 at_:Nat:=0
 trap:Bool:=false
def value (m:M) (a:Lk.At):Nat:=if a.named=true then m.slots a.val else a.val
def put (m:M) (i v:Nat):M:={ m with slots:=Lk.upd m.slots i v }
def has (cs:List Nat) (arr i:Nat):Bool:=decide (i<cs.getD arr 0)
end Mc
def Av (m:Mc.M) (i:Nat):Value:=
 if i<7 then .int .i64 (m.slots i) else if i<15 then .int .i64 (m.AR (i - 7)) else if i=15 then .int .i64 m.at_ else .bool m.trap
theorem VC (m:Mc.M) {i:Nat} (h:i<7):Av m i=.int .i64 (m.slots i):=by unfold Av;rw[if_pos h]
theorem rY (m:Mc.M) {i:Nat} (h:i<8):Av m (7+i)=.int .i64 (m.AR i):=by
 unfold Av;rw[if_neg (by omega),if_pos (by omega)];simp
theorem YK (m:Mc.M) (i v:Nat) (h:i<7) (j:Nat) (hj:j<17):(if j=i then .int .i64 (v:Int) else Av m j)=Av (Mc.put m i v) j:=by
 by_cases e:j=i
 ·subst e;rw[if_pos rfl,VC _ h];simp[Mc.put,Lk.upd]
 ·rw[if_neg e]
  by_cases h7:j<7
  ·rw[VC _ h7,VC _ h7];simp[Mc.put,Lk.upd,e]
  ·unfold Av;rw[if_neg h7,if_neg h7];rfl
theorem Kt (t v:Nat) (w:World) (ht:t≤5) (hv:v<16):
  Calls Tryz.prog 106 #[.int .i64 t,.int .i64 v] w fun e w'=>e=.returned (.int .i64 ((16*t+v:Nat):Int))∧w'=w:=by
 have h1:(t:Int)≤5:=by omega
 have h2:(v:Int)<16:=by omega
 go_enter Tryz.func106,Tryz.ntmps106
 go_wp2
 go_ret
 exact ⟨congrArg (fun z=>Ending.returned (Value.int .i64 z)) (by omega),rfl⟩
theorem o7 (m:Mc.M) (b v:Nat) (w:World) (hr:w.rowIs b 162 17 (Av m)) (hv:v<7):
  Calls Tryz.prog 107 #[.pointer (some ⟨b,0,none⟩),.agg #[.bool true,.int .i64 v]] w fun e w'=>e=.returned (.int .i64 (m.slots v))∧Below w.heap.size w w':=by
 have hc:=hr.cell (i:=v) (by omega)
 rw[VC m hv] at hc
 have hlt:=hr.lt
 have Gq:(v:Int)<7:=by omega
 have hv0: ¬(v:Int)<0:=by omega
 go_enter Tryz.func107,Tryz.ntmps107
 go_wp2_with fail
 go_quiet (fail)
 go_wp2_with fail
 go_ret
 exact ⟨rfl,below_drewN ((Below.refl _ _).alloc (Nat.le_refl _) _) _⟩
theorem qH (b v:Nat) (w:World):
  Calls Tryz.prog 107 #[.pointer (some ⟨b,0,none⟩),.agg #[.bool false,.int .i64 v]] w fun e w'=>e=.returned (.int .i64 v)∧Below w.heap.size w w':=by
 go_enter Tryz.func107,Tryz.ntmps107
 go_wp2_with fail
 go_ret
 exact ⟨rfl,(Below.refl _ _).alloc (Nat.le_refl _) _⟩
theorem Yd (m:Mc.M) (b i v:Nat) (w:World) (hr:w.rowIs b 162 17 (Av m)) (hi:i<7):
  Calls Tryz.prog 81 #[.pointer (some ⟨b,0,none⟩),.int .i64 i,.int .i64 v] w fun e w'=>e=.returned (.tuple #[])∧w'=w.setCell ⟨b,i,none⟩ (.int .i64 v):=by
 have hc:=hr.cell (i:=i) (by omega)
 have hf:=hr.frozen i
 have Fh:(i:Int)<7:=by omega
 have hi0:(0:Int)≤(i:Int):=by omega
 go_enter Tryz.func81,Tryz.ntmps81
 go_wp2_with fail
 go_end0
 exact ⟨rfl,rfl⟩
theorem zO (w:World) (vs vk:Value) (nv:Int) (g cp:Nat) (cs:List Nat) (arr i:Nat) (hc: ∀ j,j<cs.length→w.cell? ⟨g,j,none⟩=some (.int .i64 (cs.getD j 0))) (hl:cs.length≤2) (hle: ∀ j,j<cs.length→cs.getD j 0≤4) (ha:arr<cs.length):
  Calls Tryz.prog 114 #[.agg #[vs,.int .i64 nv,.slice (some ⟨g,0,none⟩) cs.length cp,vk],.int .i64 arr,.int .i64 i] w fun e w'=>e=.returned (.bool (Mc.has cs arr i))∧Below w.heap.size w w':=by
 have hx:=hc arr ha
 have hy:=hle arr ha
 obtain ⟨n,hn⟩: ∃ n,cs.getD arr 0=n:=⟨_,rfl⟩
 rw[hn] at hx hy
 have hH:Mc.has cs arr i=decide (i<n):=by unfold Mc.has;rw[hn]
 rw[hH]
 have G5:=World.block_lt_of_cell? w _ hx
 have h0: ¬(arr:Int)<0:=by omega
 have h1: ¬(cs.length:Int)≤(arr:Int):=by omega
 have h2: ¬(2:Int)≤(arr:Int):=by omega
 have h3:(0:Int)≤(i:Int):=by omega
 have h4:(arr:Int)<(cs.length:Int):=by omega
 have HC:=hid hc
 have HE:=hid hle
 clear hc hle hn hH
 by_cases hin:i<n
 ·have Fh:(i:Int)<(n:Int):=by omega
  have hi4:(i:Int)<4:=by omega
  rw[decide_eq_true hin]
  go_enter Tryz.func114,Tryz.ntmps114
  go_wp2_with fail
  go_ret
  exact ⟨rfl,(Below.refl _ _).alloc (Nat.le_refl _) _⟩
 ·have Fh: ¬(i:Int)<(n:Int):=by omega
  rw[decide_eq_false hin]
  go_enter Tryz.func114,Tryz.ntmps114
  go_wp2_with fail
  go_ret
  exact ⟨rfl,(Below.refl _ _).alloc (Nat.le_refl _) _⟩
theorem has_eq {w:World} {vs vk:Value} {nv:Int} {g cp:Nat} {cs:List Nat} {arr i:Nat} (o:Bool) (hc: ∀ j,j<cs.length→w.cell? ⟨g,j,none⟩=some (.int .i64 (cs.getD j 0))) (hl:cs.length≤2) (hle: ∀ j,j<cs.length→cs.getD j 0≤4) (ha:arr<cs.length) (ho:Mc.has cs arr i=o):
  Calls Tryz.prog 114 #[.agg #[vs,.int .i64 nv,.slice (some ⟨g,0,none⟩) cs.length cp,vk],.int .i64 arr,.int .i64 i] w fun e w'=>e=.returned (.bool o)∧Below w.heap.size w w':=by
 rw[←ho];exact zO w vs vk nv g cp cs arr i hc hl hle ha
namespace Mc
def access (m:M) (cs:List Nat) (s:Lk.St) (i v:Nat):M:=
 if has cs s.arr i=true then
  if s.kind=2 then { m with AR:=Lk.upd m.AR (s.arr*4+i) v } else put m s.slot (m.AR (s.arr*4+i))
 else { m with trap:=true }
end Mc
theorem gy (m:Mc.M) {a i:Nat} (ha:a<2) (hi:i<4):Av m (7+a*4+i)=.int .i64 (m.AR (a*4+i)):=by
 rw[show 7+a*4+i=7+(a*4+i) by omega];exact rY m (by omega)
theorem oU (m:Mc.M) (a i v:Nat) (ha:a<2) (hi:i<4) (j:Nat) (hj:j<17):(if j=7+a*4+i then .int .i64 (v:Int) else Av m j)=Av { m with AR:=Lk.upd m.AR (a*4+i) v } j:=by
 by_cases e:j=7+a*4+i
 ·subst e;rw[if_pos rfl,gy _ ha hi];simp[Lk.upd]
 ·rw[if_neg e]
  unfold Av
  by_cases h7:j<7
  ·rw[if_pos h7,if_pos h7]
  ·rw[if_neg h7,if_neg h7]
   by_cases Ib:j<15
   ·rw[if_pos Ib,if_pos Ib]
    show _=Value.int .i64 ((Lk.upd m.AR (a*4+i) v (j - 7):Nat):Int)
    unfold Lk.upd
    rw[if_neg (by omega)]
   ·rw[if_neg Ib,if_neg Ib]
theorem qI (m:Mc.M) (j:Nat) (hj:j<17):(if j=16 then .bool true else Av m j)=Av { m with trap:=true } j:=by
 by_cases e:j=16
 ·subst e;rw[if_pos rfl];rfl
 ·rw[if_neg e]
  unfold Av
  by_cases h7:j<7
  ·rw[if_pos h7,if_pos h7]
  ·rw[if_neg h7,if_neg h7]
   by_cases Ib:j<15
   ·rw[if_pos Ib,if_pos Ib]
   ·rw[if_neg Ib,if_neg Ib,if_pos (by omega),if_pos (by omega)]
abbrev WS (s:Lk.St):Value:=.agg #[.int .i64 s.kind,.int .i64 s.op,.int .i64 s.slot,.int .i64 s.arr,.bool s.a.named,.int .i64 s.a.val,.bool s.b.named,.int .i64 s.b.val,.int .i64 s.next,.int .i64 s.els]
section
variable (m:Mc.M) (b:Nat) (w:World) (vs vk:Value) (nv:Int) (g cp:Nat) (cs:List Nat) (s:Lk.St) (i v:Nat)
def WT (w w':World) (b:Nat) (e:Ending) (m:Mc.M):Prop:=e=.returned (.tuple #[])∧w'.rowIs b 162 17 (Av m)∧A9 0 (fun k=>k=b) w w'
theorem oV (hr:w.rowIs b 162 17 (Av m)) (hc: ∀ j,j<cs.length→w.cell? ⟨g,j,none⟩=some (.int .i64 (cs.getD j 0))) (hl:cs.length≤2) (hle: ∀ j,j<cs.length→cs.getD j 0≤4) (ha:s.arr<cs.length) (hh:Mc.has cs s.arr i=false):
  Calls Tryz.prog 108 #[.pointer (some ⟨b,0,none⟩),.agg #[vs,.int .i64 nv,.slice (some ⟨g,0,none⟩) cs.length cp,vk],WS s,.int .i64 i,.int .i64 v] w fun e w'=>WT w w' b e { m with trap:=true }:=by
 have HR:=hid hr
 have hlt:=hr.lt
 have HC:=hid hc
 have HE:=hid hle
 have HH:=hid hh
 have Gt:(s.arr:Int)<2:=by omega
 have ha0:(0:Int)≤(s.arr:Int):=by omega
 clear hr hc hle hh
 go_enter Tryz.func108,Tryz.ntmps108
 go_wp2_with (first
  |(go_at_call 114;refine (has_eq false (fun j hj=>AH (AH (HC.out j hj) _) _) hl HE.out ha HH.out).mono ?_;rintro e w1 ⟨rfl,hb1⟩;have AL:=hid hb1;have z1:=hb1.size;simp at z1;have R1:=(((HR.out.alloc _).alloc _).of_block (hb1.block _ (by simp;omega)));have Aw:=hid R1;have k0:=cell_later hb1 (M7 w _ _ _ 0 _ rfl);have k2:=cell_later hb1 (M7 w _ _ _ 2 _ rfl);have k3:=cell_later hb1 (M7 w _ _ _ 3 _ rfl);have c16:=R1.cell (i:=16) (by omega);have f16:=R1.frozen 16;clear R1 hb1))
 first|go_end0|refine bodyPost_ret (results_none rfl _ _ _) rfl ?_
 exact ⟨rfl,(Aw.out.set 16 _).congr (fun j hj=>qI m j hj),A9.setCell (p:=⟨b,16,none⟩) (A9.Ap (S:=fun k=>k=b) (((Below.refl w.heap.size w).alloc (Nat.le_refl _) _).alloc (by simp) _|>.trans (AL.out.mono (by simp;omega))) (Nat.zero_le _)) (Nat.zero_le _) rfl _⟩
theorem o8 (hr:w.rowIs b 162 17 (Av m)) (hc: ∀ j,j<cs.length→w.cell? ⟨g,j,none⟩=some (.int .i64 (cs.getD j 0))) (hl:cs.length≤2) (hle: ∀ j,j<cs.length→cs.getD j 0≤4) (ha:s.arr<cs.length) (hh:Mc.has cs s.arr i=true) (hk:s.kind=2):
  Calls Tryz.prog 108 #[.pointer (some ⟨b,0,none⟩),.agg #[vs,.int .i64 nv,.slice (some ⟨g,0,none⟩) cs.length cp,vk],WS s,.int .i64 i,.int .i64 v] w fun e w'=>WT w w' b e { m with AR:=Lk.upd m.AR (s.arr*4+i) v }:=by
 have HR:=hid hr
 have hlt:=hr.lt
 have HC:=hid hc
 have HE:=hid hle
 have HH:=hid hh
 have Gt:(s.arr:Int)<2:=by omega
 have ha0:(0:Int)≤(s.arr:Int):=by omega
 have hi4:i<4:=by
  have h1:=hle s.arr ha
  have h2:i<cs.getD s.arr 0:=by simpa[Mc.has] using hh
  omega
 have ag7:(i:Int)<4:=by omega
 have ag8:(0:Int)≤(i:Int):=by omega
 have JX:((s.kind:Int)==2)=true:=by simp;omega
 have HK:=hid hk
 clear hk
 clear hr hc hle hh
 go_enter Tryz.func108,Tryz.ntmps108
 go_wp2_with (first
  |(go_at_call 114;refine (has_eq true (fun j hj=>AH (AH (HC.out j hj) _) _) hl HE.out ha HH.out).mono ?_;rintro e w1 ⟨rfl,hb1⟩;have AL:=hid hb1;have z1:=hb1.size;simp at z1;have R1:=(((HR.out.alloc _).alloc _).of_block (hb1.block _ (by simp;omega)));have Aw:=hid R1;have k0:=cell_later hb1 (M7 w _ _ _ 0 _ rfl);have k2:=cell_later hb1 (M7 w _ _ _ 2 _ rfl);have k3:=cell_later hb1 (M7 w _ _ _ 3 _ rfl);have cx:=R1.cell (i:=7+s.arr*4+i) (by omega);have fx:=R1.frozen (7+s.arr*4+i);clear R1 hb1))
 go_region
 all_goals go_wp2_with fail
 all_goals (first|go_end0|refine bodyPost_ret (results_none rfl _ _ _) rfl ?_)
 all_goals (exact ⟨rfl,(Aw.out.set (7+s.arr*4+i) _).congr (fun j hj=>oU m s.arr i v (by omega) hi4 j hj),A9.setCell (p:=⟨b,7+s.arr*4+i,none⟩) (A9.Ap (S:=fun k=>k=b) (((Below.refl w.heap.size w).alloc (Nat.le_refl _) _).alloc (by simp) _|>.trans (AL.out.mono (by simp;omega))) (Nat.zero_le _)).drew (Nat.zero_le _) rfl _⟩)
theorem oW (hr:w.rowIs b 162 17 (Av m)) (hc: ∀ j,j<cs.length→w.cell? ⟨g,j,none⟩=some (.int .i64 (cs.getD j 0))) (hl:cs.length≤2) (hle: ∀ j,j<cs.length→cs.getD j 0≤4) (ha:s.arr<cs.length) (hh:Mc.has cs s.arr i=true) (hk:s.kind=1) (R7:s.slot<7):
  Calls Tryz.prog 108 #[.pointer (some ⟨b,0,none⟩),.agg #[vs,.int .i64 nv,.slice (some ⟨g,0,none⟩) cs.length cp,vk],WS s,.int .i64 i,.int .i64 v] w fun e w'=>WT w w' b e (Mc.put m s.slot (m.AR (s.arr*4+i))):=by
 have HR:=hid hr
 have hlt:=hr.lt
 have HC:=hid hc
 have HE:=hid hle
 have HH:=hid hh
 have Gt:(s.arr:Int)<2:=by omega
 have ha0:(0:Int)≤(s.arr:Int):=by omega
 have hi4:i<4:=by
  have h1:=hle s.arr ha
  have h2:i<cs.getD s.arr 0:=by simpa[Mc.has] using hh
  omega
 have ag7:(i:Int)<4:=by omega
 have ag8:(0:Int)≤(i:Int):=by omega
 have JX:((s.kind:Int)==2)=false:=by simp;omega
 have HK:=hid hk
 clear hk
 clear hr hc hle hh
 go_enter Tryz.func108,Tryz.ntmps108
 go_wp2_with (first
  |(go_at_call 114;refine (has_eq true (fun j hj=>AH (AH (HC.out j hj) _) _) hl HE.out ha HH.out).mono ?_;rintro e w1 ⟨rfl,hb1⟩;have AL:=hid hb1;have z1:=hb1.size;simp at z1;have R1:=(((HR.out.alloc _).alloc _).of_block (hb1.block _ (by simp;omega)));have Aw:=hid R1;have k0:=cell_later hb1 (M7 w _ _ _ 0 _ rfl);have k2:=cell_later hb1 (M7 w _ _ _ 2 _ rfl);have k3:=cell_later hb1 (M7 w _ _ _ 3 _ rfl);have cx:=R1.cell (i:=7+s.arr*4+i) (by omega);rw[gy m (by omega) hi4] at cx;clear R1 hb1))
 go_quiet (fail)
 go_wp2_with (first
  |(go_at_call 81;refine (Yd m b s.slot (m.AR (s.arr*4+i)) _ ?_ R7).mono ?_;exact Aw.out;rintro e w2 ⟨rfl,rfl⟩))
 go_end0
 exact ⟨rfl,(Aw.out.set s.slot _).congr (fun j hj=>YK m s.slot _ R7 j hj),A9.setCell (p:=⟨b,s.slot,none⟩) ((A9.Ap (S:=fun k=>k=b) (((Below.refl w.heap.size w).alloc (Nat.le_refl _) _).alloc (by simp) _|>.trans (AL.out.mono (by simp;omega))) (Nat.zero_le _)).drewN _) (Nat.zero_le _) rfl _⟩
end
end Go.Proofs.YtgddmpmcnjlcjaaGreatDoor
