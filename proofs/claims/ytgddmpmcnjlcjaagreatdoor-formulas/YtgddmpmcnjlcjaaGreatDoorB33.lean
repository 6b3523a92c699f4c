import Derived.Test.YtgddmpmcnjlcjaaGreatDoorB32
import Derived.Test.YtgddmpmcnjlcjaaGreatDoorB07
import Derived.Deep.RegionLaw
import Derived.WalkLawsBesides
set_option maxRecDepth 100000
set_option maxHeartbeats 1000000
namespace Go.Proofs.YtgddmpmcnjlcjaaGreatDoor
open Go.RowKit
set_option linter.unusedVariables false
def LC (P:Nat) (vl:Value) (s:Rf.Rs) (i:Nat):Value:=
 if i=0 then .pointer (some ⟨P,0,none⟩) else if i=1 then vl else if i=2 then .int .i64 s.at_ else if i=3 then .int .i64 s.cnt else .bool s.AA
theorem N6 {q:ByteArray} (h:q.size=1) (hn:Lk.isName q.toList=true):Op.bytesLess q.toList [97]=false∧(Op.bytesLess q.toList [122]||q.toList==[122])=true:=by
 rw[N1 h] at hn
 rw[DK h]
 simp at hn
 have e1: ¬q[0]<97:=by rw[UInt8.lt_iff_toNat_lt];show ¬q[0].toNat<97;omega
 refine ⟨by simp[Op.bytesLess,e1],?_⟩
 by_cases e:q[0]=122
 ·simp[e]
 ·have:q[0]<122:=by
   rw[UInt8.lt_iff_toNat_lt];show q[0].toNat<122
   have:q[0].toNat≠122:=fun h=>e (UInt8.toNat_inj.1 h)
   omega
  simp[Op.bytesLess,this]
theorem aaD {q:ByteArray} (h:q.size=1) (hn:Lk.isName q.toList=false):Op.bytesLess q.toList [97]=true∨(Op.bytesLess q.toList [97]=false∧(Op.bytesLess q.toList [122]||q.toList==[122])=false):=by
 rw[N1 h] at hn
 rw[DK h]
 by_cases h1:q[0]<97
 ·left;simp[Op.bytesLess,h1]
 ·right
  have h1': ¬q[0].toNat<97:=by rw[UInt8.lt_iff_toNat_lt] at h1;exact h1
  have h2:122<q[0].toNat:=by
   simp at hn
   have:=hn (by omega)
   omega
  have e2: ¬q[0]<122:=by rw[UInt8.lt_iff_toNat_lt];show ¬q[0].toNat<122;omega
  have e3:q[0]≠122:=fun h=>by rw[h] at h2;simp at h2
  simp[Op.bytesLess,h1,e2,e3]
section
variable {w:World} {base P R:Nat} {l:List DB} {vn vk vz vb vl:Value} {s:Rf.Rs}
theorem sj (h:Ae w base P l vn vk vz vb) (hl:l.length≤1000) (g cap:Nat) (q0 q1:ByteArray) (hc0:w.cell? ⟨g,0,none⟩=some (.string q0)) (hp:w.cell? ⟨R,0,none⟩=some (.pointer (some ⟨P,0,none⟩))) (hb:w.cell? ⟨R,4,none⟩=some (.bool true)) (n:Nat) (hn0:(0:Int)<(n:Int)):
  Calls Tryz.prog 60 #[.pointer (some ⟨R,0,none⟩),.slice (some ⟨g,0,none⟩) n cap] w fun e w'=>e=.returned (.bool false)∧Below w.heap.size w w':=by
 clear h
 cases ha:(q0.toList==[97,114,114,97,121])
 all_goals
  go_enter Tryz.func60,Tryz.ntmps60
  go_wp2_with fail
  go_ret
  exact ⟨rfl,Below.refl _ _⟩
theorem xH (h:Ae w base P l vn vk vz vb) (hl:l.length≤1000) (g cap:Nat) (q0 q1:ByteArray) (hc0:w.cell? ⟨g,0,none⟩=some (.string q0)) (hp:w.cell? ⟨R,0,none⟩=some (.pointer (some ⟨P,0,none⟩))) (hb:w.cell? ⟨R,4,none⟩=some (.bool false)) (n:Nat) (hn0:(0:Int)<(n:Int)) (hn:n≠if q0.toList=Rf.wArray then 3 else 2):
  Calls Tryz.prog 60 #[.pointer (some ⟨R,0,none⟩),.slice (some ⟨g,0,none⟩) n cap] w fun e w'=>e=.returned (.bool false)∧Below w.heap.size w w':=by
 clear h
 cases ha:(q0.toList==[97,114,114,97,121]) with
 |true=>
  rw[if_pos (show _=Rf.wArray from eq_of_beq ha)] at hn
  have Fj:((n:Int) !=3)=true:=by simp;omega
  clear hn
  go_enter Tryz.func60,Tryz.ntmps60
  go_wp2_with fail
  go_ret
  exact ⟨rfl,Below.refl _ _⟩
 |false=>
  rw[if_neg (show ¬_=Rf.wArray from ne_of_beq_false ha)] at hn
  have Fj:((n:Int) !=2)=true:=by simp;omega
  clear hn
  go_enter Tryz.func60,Tryz.ntmps60
  go_wp2_with fail
  go_ret
  exact ⟨rfl,Below.refl _ _⟩
theorem decl_name (h:Ae w base P l vn vk vz vb) (hl:l.length≤1000) (g cap:Nat) (q0 q1:ByteArray) (hc0:w.cell? ⟨g,0,none⟩=some (.string q0)) (hp:w.cell? ⟨R,0,none⟩=some (.pointer (some ⟨P,0,none⟩))) (hb:w.cell? ⟨R,4,none⟩=some (.bool false)) (hc1:w.cell? ⟨g,1,none⟩=some (.string q1)) (n:Nat) (hn0:(0:Int)<(n:Int)) (EC:(1:Int)<(n:Int)) (hn:n=if q0.toList=Rf.wArray then 3 else 2) (BS:Lk.isName q1.toList=false):
  Calls Tryz.prog 60 #[.pointer (some ⟨R,0,none⟩),.slice (some ⟨g,0,none⟩) n cap] w fun e w'=>e=.returned (.bool false)∧Below w.heap.size w w':=by
 clear h
 by_cases hq:q1.size=1
 ·have Fg:(q1.size:Int)=1:=by omega
  have hnn:=aaD hq BS
  clear BS hq
  cases ha:(q0.toList==[97,114,114,97,121]) with
  |true=>
   rw[if_pos (show _=Rf.wArray from eq_of_beq ha)] at hn
   subst hn
   rcases hnn with h1|⟨h1,h2⟩
   all_goals
    go_enter Tryz.func60,Tryz.ntmps60
    go_wp2_with fail
    go_ret
    exact ⟨rfl,Below.refl _ _⟩
  |false=>
   rw[if_neg (show ¬_=Rf.wArray from ne_of_beq_false ha)] at hn
   subst hn
   rcases hnn with h1|⟨h1,h2⟩
   all_goals
    go_enter Tryz.func60,Tryz.ntmps60
    go_wp2_with fail
    go_ret
    exact ⟨rfl,Below.refl _ _⟩
 ·have Fg:((q1.size:Int) !=1)=true:=by simp;omega
  clear BS hq
  cases ha:(q0.toList==[97,114,114,97,121]) with
  |true=>
   rw[if_pos (show _=Rf.wArray from eq_of_beq ha)] at hn
   subst hn
   go_enter Tryz.func60,Tryz.ntmps60
   go_wp2_with fail
   go_ret
   exact ⟨rfl,Below.refl _ _⟩
  |false=>
   rw[if_neg (show ¬_=Rf.wArray from ne_of_beq_false ha)] at hn
   subst hn
   go_enter Tryz.func60,Tryz.ntmps60
   go_wp2_with fail
   go_ret
   exact ⟨rfl,Below.refl _ _⟩
end
structure Bu (w:World) (base P:Nat) (f:Nat→Value) (ns ks:List ByteArray) (zs:List Nat) (vn vk vz:Value):Prop where
 row:w.rowIs P 81 4 f
 ge:base≤P
 nm:w.ownsRow base 9 1 vn ns.length (ns.map Value.string)
 kd:w.ownsRow base 9 1 vk ks.length (ks.map Value.string)
 sz:w.ownsRow base 3 1 vz zs.length (zs.map fun (n:Nat)=>.int .i64 n)
 np:vn.ownBlock≠some P
 kp:vk.ownBlock≠some P
 zp:vz.ownBlock≠some P
 nk:vn.ownBlock=none∨vn.ownBlock≠vk.ownBlock
 nz:vn.ownBlock=none∨vn.ownBlock≠vz.ownBlock
 kz:vk.ownBlock=none∨vk.ownBlock≠vz.ownBlock
theorem Ae.toF {w:World} {base P:Nat} {l:List DB} {vn vk vz vb:Value} (h:Ae w base P l vn vk vz vb):Bu w base P (Cu vn vk vz vb) (l.map DB.name) (l.map DB.kind) (l.map DB.size) vn vk vz:=
 ⟨h.row,h.ge,by simpa[List.map_map,Function.comp_def] using h.nm,by simpa[List.map_map,Function.comp_def] using h.kd,by simpa[List.map_map,Function.comp_def] using h.sz,h.np,h.kp,h.zp,h.nk,h.nz,h.kz⟩
namespace Bu
variable {w:World} {base P:Nat} {f:Nat→Value} {ns ks:List ByteArray} {zs:List Nat} {vn vk vz:Value}
theorem lt (h:Bu w base P f ns ks zs vn vk vz):P<w.heap.size:=h.row.lt
theorem AJ (h:Bu w base P f ns ks zs vn vk vz):base≤w.heap.size:=Nat.le_of_lt (Nat.lt_of_le_of_lt h.ge h.lt)
theorem later {w':World} (h:Bu w base P f ns ks zs vn vk vz) (hb: ∀ k,k<w.heap.size→w'.heap[k]? =w.heap[k]?):Bu w' base P f ns ks zs vn vk vz:=
 ⟨h.row.of_block (hb P h.row.lt),h.ge,CL h.nm hb,CL h.kd hb,CL h.sz hb,h.np,h.kp,h.zp,h.nk,h.nz,h.kz⟩
theorem alloc (h:Bu w base P f ns ks zs vn vk vz) (o:Obj):Bu (w.alloc o) base P f ns ks zs vn vk vz:=h.later fun k hk=>Below.heap_alloc w o k hk
theorem drew (h:Bu w base P f ns ks zs vn vk vz):Bu w.drew base P f ns ks zs vn vk vz:=h.later fun _ _=>rfl
theorem below {w':World} (h:Bu w base P f ns ks zs vn vk vz) (hb:Below w.heap.size w w'):Bu w' base P f ns ks zs vn vk vz:=h.later hb.block
theorem put (h:Bu w base P f ns ks zs vn vk vz) (i:Nat) (x:Value):Bu (w.setCell ⟨P,i,none⟩ x) base P (fun j=>if j=i then x else f j) ns ks zs vn vk vz:=
 ⟨h.row.set i x,h.ge,BC h.nm h.np x,BC h.kd h.kp x,BC h.sz h.zp x,h.np,h.kp,h.zp,h.nk,h.nz,h.kz⟩
theorem toP {l:List DB} {vb:Value} (h:Bu w base P f (l.map DB.name) (l.map DB.kind) (l.map DB.size) vn vk vz) (hf: ∀ i,i<4→f i=Cu vn vk vz vb i):Ae w base P l vn vk vz vb:=
 ⟨h.row.congr hf,h.ge,by simpa[List.map_map,Function.comp_def] using h.nm,by simpa[List.map_map,Function.comp_def] using h.kd,by simpa[List.map_map,Function.comp_def] using h.sz,h.np,h.kp,h.zp,h.nk,h.nz,h.kz⟩
theorem adl {w':World} {zs':List Nat} {g cap:Nat} {n:Nat} (h:Bu w base P f ns ks zs vn vk vz) (hg:w.grownBy w' vz.ownBlock)
  (hown:w'.ownsRow base 3 1 (.slice (some ⟨g,0,none⟩) n cap) zs'.length (zs'.map fun (n:Nat)=>.int .i64 n)) (hat:vz.ownBlock=some g∨g=w.heap.size):
  Bu w' base P f ns ks zs' vn vk (.slice (some ⟨g,0,none⟩) n cap):=by
 have hs:vn.ownBlock=none∨vn.ownBlock≠some g:=by
  rcases hat with e|e
  ·rw[←e];exact h.nz
  ·right;intro hv;have:=(h.nm.lt g hv).2;omega
 have hc:vk.ownBlock=none∨vk.ownBlock≠some g:=by
  rcases hat with e|e
  ·rw[←e];exact h.kz
  ·right;intro hv;have:=(h.kd.lt g hv).2;omega
 have hb:g≠P:=by
  rcases hat with e|e
  ·intro he;subst he;exact h.zp e
  ·have:=h.lt;omega
 exact ⟨Ad h.row hg h.zp,h.ge,h.nm.kept hg h.nz,h.kd.kept hg h.kz,hown,h.np,h.kp,by simpa[Value.ownBlock] using hb,h.nk,by simpa[Value.ownBlock] using hs,by simpa[Value.ownBlock] using hc⟩
theorem Sj {w':World} {ns':List ByteArray} {g cap:Nat} {n:Nat} (h:Bu w base P f ns ks zs vn vk vz) (hg:w.grownBy w' vn.ownBlock)
  (hown:w'.ownsRow base 9 1 (.slice (some ⟨g,0,none⟩) n cap) ns'.length (ns'.map Value.string)) (hat:vn.ownBlock=some g∨g=w.heap.size):
  Bu w' base P f ns' ks zs (.slice (some ⟨g,0,none⟩) n cap) vk vz:=by
 have AY:vz.ownBlock=none∨vz.ownBlock≠some g:=by
  rcases hat with e|e
  ·right;intro hv;rcases h.nz with k|k
   ·rw[e] at k;cases k
   ·exact k (e.trans hv.symm)
  ·right;intro hv;have:=(h.sz.lt g hv).2;omega
 have hsc:vk.ownBlock=none∨vk.ownBlock≠some g:=by
  rcases hat with e|e
  ·right;intro hv;rcases h.nk with k|k
   ·rw[e] at k;cases k
   ·exact k (e.trans hv.symm)
  ·right;intro hv;have:=(h.kd.lt g hv).2;omega
 have hb:g≠P:=by
  rcases hat with e|e
  ·intro he;subst he;exact h.np e
  ·have:=h.lt;omega
 have k1:vz.ownBlock=none∨vz.ownBlock≠vn.ownBlock:=by
  rcases h.nz with k|k
  ·rcases hv:vz.ownBlock with _|x
   ·exact .inl rfl
   ·right;rw[k];simp
  ·exact .inr (Ne.symm k)
 have k2:vk.ownBlock=none∨vk.ownBlock≠vn.ownBlock:=by
  rcases h.nk with k|k
  ·rcases hv:vk.ownBlock with _|x
   ·exact .inl rfl
   ·right;rw[k];simp
  ·exact .inr (Ne.symm k)
 refine ⟨Ad h.row hg h.np,h.ge,hown,h.kd.kept hg k2,h.sz.kept hg k1,by simpa[Value.ownBlock] using hb,h.kp,h.zp,?_,?_,h.kz⟩
 ·right
  intro (hv:some g=vk.ownBlock)
  rcases hsc with k|k
  ·rw[k] at hv;cases hv
  ·exact k hv.symm
 ·right
  intro (hv:some g=vz.ownBlock)
  rcases AY with k|k
  ·rw[k] at hv;cases hv
  ·exact k hv.symm
theorem adm {w':World} {ks':List ByteArray} {g cap:Nat} {n:Nat} (h:Bu w base P f ns ks zs vn vk vz) (hg:w.grownBy w' vk.ownBlock)
  (hown:w'.ownsRow base 9 1 (.slice (some ⟨g,0,none⟩) n cap) ks'.length (ks'.map Value.string)) (hat:vk.ownBlock=some g∨g=w.heap.size):
  Bu w' base P f ns ks' zs vn (.slice (some ⟨g,0,none⟩) n cap) vz:=by
 have AY:vz.ownBlock=none∨vz.ownBlock≠some g:=by
  rcases hat with e|e
  ·right;intro hv;rcases h.kz with k|k
   ·rw[e] at k;cases k
   ·exact k (e.trans hv.symm)
  ·right;intro hv;have:=(h.sz.lt g hv).2;omega
 have hsc:vn.ownBlock=none∨vn.ownBlock≠some g:=by
  rcases hat with e|e
  ·rw[←e];exact h.nk
  ·right;intro hv;have:=(h.nm.lt g hv).2;omega
 have hb:g≠P:=by
  rcases hat with e|e
  ·intro he;subst he;exact h.kp e
  ·have:=h.lt;omega
 have k1:vz.ownBlock=none∨vz.ownBlock≠vk.ownBlock:=by
  rcases h.kz with k|k
  ·rcases hv:vz.ownBlock with _|x
   ·exact .inl rfl
   ·right;rw[k];simp
  ·exact .inr (Ne.symm k)
 refine ⟨Ad h.row hg h.kp,h.ge,h.nm.kept hg h.nk,hown,h.sz.kept hg k1,h.np,by simpa[Value.ownBlock] using hb,h.zp,by simpa[Value.ownBlock] using hsc,h.nz,?_⟩
 right
 intro (hv:some g=vz.ownBlock)
 rcases AY with k|k
 ·rw[k] at hv;cases hv
 ·exact k hv.symm
end Bu
theorem Ae.CF {w:World} {base P:Nat} {l:List DB} {vn vk vz vb:Value} (h:Ae w base P l vn vk vz vb) (s:ByteArray) (hl:l.length≤1000) (m:Nat) (q:Lk.Wd) (hs:s.toList=q) (hm:Rf.many (A7 l) q=m):
  Calls Tryz.prog 95 #[.pointer (some ⟨P,0,none⟩),.string s] w fun e w'=>e=.returned (.int .i64 m)∧w'=w:=by
 rw[←hm, ←hs];exact h.xG s hl
theorem VF (s:ByteArray) (w:World) (z:Int) (h:Lk.Cm (Lk.num? s.toList)=z):
  Calls Tryz.prog 96 #[.string s] w fun e w'=>e=.returned (.int .i64 z)∧Below w.heap.size w w':=by
 rw[←h];exact Y2 s w
theorem JO (l:List DB) (q:Lk.Wd):Rf.many (A7 l) q≤l.length:=by rw[←dm];exact fu l q _
theorem Lt:(⟨#[115,101,99,114,101,116]⟩:ByteArray).toList=Rf.wSecret:=by rw[ByteArray.toList_eq];rfl
theorem Lu:(⟨#[112,117,98,108,105,99]⟩:ByteArray).toList=Rf.wPublic:=by rw[ByteArray.toList_eq];rfl
theorem Lz:(⟨#[118,97,114]⟩:ByteArray).toList=Rf.wVar:=by rw[ByteArray.toList_eq];rfl
theorem M0:(⟨#[97,114,114,97,121]⟩:ByteArray).toList=Rf.wArray:=by rw[ByteArray.toList_eq];rfl
section
variable {w:World} {base P R:Nat} {l:List DB} {vn vk vz vb vl:Value} {s:Rf.Rs}
theorem pA (h:Ae w base P l vn vk vz vb) (hl:l.length≤1000) (g cap:Nat) (q0 q1:ByteArray) (hc0:w.cell? ⟨g,0,none⟩=some (.string q0)) (hc1:w.cell? ⟨g,1,none⟩=some (.string q1)) (hp:w.cell? ⟨R,0,none⟩=some (.pointer (some ⟨P,0,none⟩))) (hb:w.cell? ⟨R,4,none⟩=some (.bool false)) (BS:Lk.isName q1.toList=true) (ha:(q0.toList==[97,114,114,97,121])=true) (hk:(Rf.kindOf (A7 l) q1.toList).isEmpty=false):
  Calls Tryz.prog 60 #[.pointer (some ⟨R,0,none⟩),.slice (some ⟨g,0,none⟩) 3 cap] w fun e w'=>e=.returned (.bool false)∧Below w.heap.size w w':=by
 have hq:q1.size=1:=by
  by_cases h:q1.size=1
  ·exact h
  ·rw[Io h] at BS;cases BS
 have Fg:(q1.size:Int)=1:=by omega
 obtain ⟨EC,J7⟩:=N6 hq BS
 have HP:=hid h
 clear h hq BS
 have HK:=hid hk
 clear hk
 go_enter Tryz.func60,Tryz.ntmps60
 go_wp2_with (first
  |(go_at_call 94;refine (HP.out.II q1 hl).mono ?_;rintro e w0 ⟨kq,rfl,BN,rfl⟩;have BH:kq.toList.isEmpty=false:=(by rw[BN];exact HK.out);have Ih:=hid BN;clear BN))
 go_ret
 exact ⟨rfl,Below.refl _ _⟩
theorem pB (h:Ae w base P l vn vk vz vb) (hl:l.length≤1000) (g cap:Nat) (q0 q1:ByteArray) (hc0:w.cell? ⟨g,0,none⟩=some (.string q0)) (hc1:w.cell? ⟨g,1,none⟩=some (.string q1)) (hp:w.cell? ⟨R,0,none⟩=some (.pointer (some ⟨P,0,none⟩))) (hb:w.cell? ⟨R,4,none⟩=some (.bool false)) (BS:Lk.isName q1.toList=true) (ha:(q0.toList==[97,114,114,97,121])=false) (hk:(Rf.kindOf (A7 l) q1.toList).isEmpty=false):
  Calls Tryz.prog 60 #[.pointer (some ⟨R,0,none⟩),.slice (some ⟨g,0,none⟩) 2 cap] w fun e w'=>e=.returned (.bool false)∧Below w.heap.size w w':=by
 have hq:q1.size=1:=by
  by_cases h:q1.size=1
  ·exact h
  ·rw[Io h] at BS;cases BS
 have Fg:(q1.size:Int)=1:=by omega
 obtain ⟨EC,J7⟩:=N6 hq BS
 have HP:=hid h
 clear h hq BS
 have HK:=hid hk
 clear hk
 go_enter Tryz.func60,Tryz.ntmps60
 go_wp2_with (first
  |(go_at_call 94;refine (HP.out.II q1 hl).mono ?_;rintro e w0 ⟨kq,rfl,BN,rfl⟩;have BH:kq.toList.isEmpty=false:=(by rw[BN];exact HK.out);have Ih:=hid BN;clear BN))
 go_ret
 exact ⟨rfl,Below.refl _ _⟩
theorem dw (h:Ae w base P l vn vk vz vb) (hl:l.length≤1000) (g cap:Nat) (q0 q1:ByteArray) (hc0:w.cell? ⟨g,0,none⟩=some (.string q0)) (hc1:w.cell? ⟨g,1,none⟩=some (.string q1)) (hp:w.cell? ⟨R,0,none⟩=some (.pointer (some ⟨P,0,none⟩))) (hb:w.cell? ⟨R,4,none⟩=some (.bool false)) (BS:Lk.isName q1.toList=true) (ha:(q0.toList==[97,114,114,97,121])=true) (hk:(Rf.kindOf (A7 l) q1.toList).isEmpty=true) (q2:ByteArray) (hc2:w.cell? ⟨g,2,none⟩=some (.string q2)) (z:Int) (hz:Lk.Cm (Lk.num? q2.toList)=z) (hno:z<1∨4<z∨2≤Rf.many (A7 l) Rf.wArray):
  Calls Tryz.prog 60 #[.pointer (some ⟨R,0,none⟩),.slice (some ⟨g,0,none⟩) 3 cap] w fun e w'=>e=.returned (.bool false)∧Below w.heap.size w w':=by
 have hq:q1.size=1:=by
  by_cases h:q1.size=1
  ·exact h
  ·rw[Io h] at BS;cases BS
 have Fg:(q1.size:Int)=1:=by omega
 obtain ⟨EC,J7⟩:=N6 hq BS
 have HP:=hid h
 clear h hq BS
 have HK:=hid hk
 clear hk
 obtain ⟨ms,Cy⟩: ∃ m,Rf.many (A7 l) Rf.wSecret=m:=⟨_,rfl⟩
 obtain ⟨mp,hmp⟩: ∃ m,Rf.many (A7 l) Rf.wPublic=m:=⟨_,rfl⟩
 obtain ⟨mv,F8⟩: ∃ m,Rf.many (A7 l) Rf.wVar=m:=⟨_,rfl⟩
 obtain ⟨ma,F9⟩: ∃ m,Rf.many (A7 l) Rf.wArray=m:=⟨_,rfl⟩
 have l1:=JO l Rf.wSecret
 have l2:=JO l Rf.wPublic
 rw[Cy] at l1
 rw[hmp] at l2
 rw[F9] at hno
 have HZ:=hid hz
 clear hz
 have Fl:=hid Cy
 have Ea:=hid hmp
 have Fp:=hid F8
 have Fq:=hid F9
 have UT:(ms:Int)≤1000:=by omega
 have UU:(mp:Int)≤1000:=by omega
 clear Cy hmp F8 F9 l1 l2
 by_cases h1:z<1
 ·clear hno
  go_enter Tryz.func60,Tryz.ntmps60
  go_wp2_with (first
   |(go_at_call 94;refine (HP.out.II q1 hl).mono ?_;rintro e w0 ⟨kq,rfl,BN,rfl⟩;have BH:kq.toList.isEmpty=true:=(by rw[BN];exact HK.out);have Ih:=hid BN;clear BN)
   |(go_at_call_of 95 (Value.string { data:= #[115,101,99,114,101,116] });refine (HP.out.CF _ hl ms Rf.wSecret Lt Fl.out).mono ?_;rintro e w0 ⟨rfl,rfl⟩)
   |(go_at_call_of 95 (Value.string { data:= #[112,117,98,108,105,99] });refine (HP.out.CF _ hl mp Rf.wPublic Lu Ea.out).mono ?_;rintro e w0 ⟨rfl,rfl⟩)
   |(go_at_call_of 95 (Value.string { data:= #[118,97,114] });refine (HP.out.CF _ hl mv Rf.wVar Lz Fp.out).mono ?_;rintro e w0 ⟨rfl,rfl⟩)
   |(go_at_call_of 95 (Value.string { data:= #[97,114,114,97,121] });refine (HP.out.CF _ hl ma Rf.wArray M0 Fq.out).mono ?_;rintro e w0 ⟨rfl,rfl⟩)
   |(go_at_call 96;refine (VF q2 _ z HZ.out).mono ?_;rintro e w1 ⟨rfl,hb1⟩;have AL:=hid hb1;have z1:=hb1.size;clear hb1))
  go_ret
  exact ⟨rfl,AL.out⟩
 ·have h1':1≤z:=by omega
  by_cases h4:4<z
  ·clear hno h1
   go_enter Tryz.func60,Tryz.ntmps60
   go_wp2_with (first
    |(go_at_call 94;refine (HP.out.II q1 hl).mono ?_;rintro e w0 ⟨kq,rfl,BN,rfl⟩;have BH:kq.toList.isEmpty=true:=(by rw[BN];exact HK.out);have Ih:=hid BN;clear BN)
    |(go_at_call_of 95 (Value.string { data:= #[115,101,99,114,101,116] });refine (HP.out.CF _ hl ms Rf.wSecret Lt Fl.out).mono ?_;rintro e w0 ⟨rfl,rfl⟩)
    |(go_at_call_of 95 (Value.string { data:= #[112,117,98,108,105,99] });refine (HP.out.CF _ hl mp Rf.wPublic Lu Ea.out).mono ?_;rintro e w0 ⟨rfl,rfl⟩)
    |(go_at_call_of 95 (Value.string { data:= #[118,97,114] });refine (HP.out.CF _ hl mv Rf.wVar Lz Fp.out).mono ?_;rintro e w0 ⟨rfl,rfl⟩)
    |(go_at_call_of 95 (Value.string { data:= #[97,114,114,97,121] });refine (HP.out.CF _ hl ma Rf.wArray M0 Fq.out).mono ?_;rintro e w0 ⟨rfl,rfl⟩)
    |(go_at_call 96;refine (VF q2 _ z HZ.out).mono ?_;rintro e w1 ⟨rfl,hb1⟩;have AL:=hid hb1;have z1:=hb1.size;clear hb1))
   go_ret
   exact ⟨rfl,AL.out⟩
  ·have h4':z≤4:=by omega
   have ha2:(2:Int)≤(ma:Int):=by omega
   clear hno h1 h4
   go_enter Tryz.func60,Tryz.ntmps60
   go_wp2_with (first
    |(go_at_call 94;refine (HP.out.II q1 hl).mono ?_;rintro e w0 ⟨kq,rfl,BN,rfl⟩;have BH:kq.toList.isEmpty=true:=(by rw[BN];exact HK.out);have Ih:=hid BN;clear BN)
    |(go_at_call_of 95 (Value.string { data:= #[115,101,99,114,101,116] });refine (HP.out.CF _ hl ms Rf.wSecret Lt Fl.out).mono ?_;rintro e w0 ⟨rfl,rfl⟩)
    |(go_at_call_of 95 (Value.string { data:= #[112,117,98,108,105,99] });refine (HP.out.CF _ hl mp Rf.wPublic Lu Ea.out).mono ?_;rintro e w0 ⟨rfl,rfl⟩)
    |(go_at_call_of 95 (Value.string { data:= #[118,97,114] });refine (HP.out.CF _ hl mv Rf.wVar Lz Fp.out).mono ?_;rintro e w0 ⟨rfl,rfl⟩)
    |(go_at_call_of 95 (Value.string { data:= #[97,114,114,97,121] });refine (HP.out.CF _ hl ma Rf.wArray M0 Fq.out).mono ?_;rintro e w0 ⟨rfl,rfl⟩)
    |(go_at_call 96;refine (VF q2 _ z HZ.out).mono ?_;rintro e w1 ⟨rfl,hb1⟩;have AL:=hid hb1;have z1:=hb1.size;clear hb1))
   go_ret
   exact ⟨rfl,AL.out⟩
theorem pC (h:Ae w base P l vn vk vz vb) (hl:l.length≤1000) (g cap:Nat) (q0 q1:ByteArray) (hc0:w.cell? ⟨g,0,none⟩=some (.string q0)) (hc1:w.cell? ⟨g,1,none⟩=some (.string q1)) (hp:w.cell? ⟨R,0,none⟩=some (.pointer (some ⟨P,0,none⟩))) (hb:w.cell? ⟨R,4,none⟩=some (.bool false)) (BS:Lk.isName q1.toList=true) (ha:(q0.toList==[97,114,114,97,121])=false) (hv:(q0.toList==[118,97,114])=true) (hk:(Rf.kindOf (A7 l) q1.toList).isEmpty=true) (hno:4≤Rf.many (A7 l) Rf.wVar):
  Calls Tryz.prog 60 #[.pointer (some ⟨R,0,none⟩),.slice (some ⟨g,0,none⟩) 2 cap] w fun e w'=>e=.returned (.bool false)∧Below w.heap.size w w':=by
 have hq:q1.size=1:=by
  by_cases h:q1.size=1
  ·exact h
  ·rw[Io h] at BS;cases BS
 have Fg:(q1.size:Int)=1:=by omega
 obtain ⟨EC,J7⟩:=N6 hq BS
 have HP:=hid h
 clear h hq BS
 have HK:=hid hk
 clear hk
 obtain ⟨ms,Cy⟩: ∃ m,Rf.many (A7 l) Rf.wSecret=m:=⟨_,rfl⟩
 obtain ⟨mp,hmp⟩: ∃ m,Rf.many (A7 l) Rf.wPublic=m:=⟨_,rfl⟩
 obtain ⟨mv,F8⟩: ∃ m,Rf.many (A7 l) Rf.wVar=m:=⟨_,rfl⟩
 obtain ⟨ma,F9⟩: ∃ m,Rf.many (A7 l) Rf.wArray=m:=⟨_,rfl⟩
 have l1:=JO l Rf.wSecret
 have l2:=JO l Rf.wPublic
 rw[Cy] at l1
 rw[hmp] at l2
 rw[F8] at hno
 have Fl:=hid Cy
 have Ea:=hid hmp
 have Fp:=hid F8
 have Fq:=hid F9
 have UT:(ms:Int)≤1000:=by omega
 have UU:(mp:Int)≤1000:=by omega
 clear Cy hmp F8 F9 l1 l2
 have h4:(4:Int)≤(mv:Int):=by omega
 clear hno
 go_enter Tryz.func60,Tryz.ntmps60
 go_wp2_with (first
  |(go_at_call 94;refine (HP.out.II q1 hl).mono ?_;rintro e w0 ⟨kq,rfl,BN,rfl⟩;have BH:kq.toList.isEmpty=true:=(by rw[BN];exact HK.out);have Ih:=hid BN;clear BN)
  |(go_at_call_of 95 (Value.string { data:= #[115,101,99,114,101,116] });refine (HP.out.CF _ hl ms Rf.wSecret Lt Fl.out).mono ?_;rintro e w0 ⟨rfl,rfl⟩)
  |(go_at_call_of 95 (Value.string { data:= #[112,117,98,108,105,99] });refine (HP.out.CF _ hl mp Rf.wPublic Lu Ea.out).mono ?_;rintro e w0 ⟨rfl,rfl⟩)
  |(go_at_call_of 95 (Value.string { data:= #[118,97,114] });refine (HP.out.CF _ hl mv Rf.wVar Lz Fp.out).mono ?_;rintro e w0 ⟨rfl,rfl⟩)
  |(go_at_call_of 95 (Value.string { data:= #[97,114,114,97,121] });refine (HP.out.CF _ hl ma Rf.wArray M0 Fq.out).mono ?_;rintro e w0 ⟨rfl,rfl⟩))
 go_ret
 exact ⟨rfl,Below.refl _ _⟩
theorem qQ (h:Ae w base P l vn vk vz vb) (hl:l.length≤1000) (g cap:Nat) (q0 q1:ByteArray) (hc0:w.cell? ⟨g,0,none⟩=some (.string q0)) (hc1:w.cell? ⟨g,1,none⟩=some (.string q1)) (hp:w.cell? ⟨R,0,none⟩=some (.pointer (some ⟨P,0,none⟩))) (hb:w.cell? ⟨R,4,none⟩=some (.bool false)) (BS:Lk.isName q1.toList=true) (ha:(q0.toList==[97,114,114,97,121])=false) (hv:(q0.toList==[118,97,114])=false) (hk:(Rf.kindOf (A7 l) q1.toList).isEmpty=true) (hno:0<Rf.many (A7 l) Rf.wVar∨3≤Rf.many (A7 l) Rf.wSecret+Rf.many (A7 l) Rf.wPublic):
  Calls Tryz.prog 60 #[.pointer (some ⟨R,0,none⟩),.slice (some ⟨g,0,none⟩) 2 cap] w fun e w'=>e=.returned (.bool false)∧Below w.heap.size w w':=by
 have hq:q1.size=1:=by
  by_cases h:q1.size=1
  ·exact h
  ·rw[Io h] at BS;cases BS
 have Fg:(q1.size:Int)=1:=by omega
 obtain ⟨EC,J7⟩:=N6 hq BS
 have HP:=hid h
 clear h hq BS
 have HK:=hid hk
 clear hk
 obtain ⟨ms,Cy⟩: ∃ m,Rf.many (A7 l) Rf.wSecret=m:=⟨_,rfl⟩
 obtain ⟨mp,hmp⟩: ∃ m,Rf.many (A7 l) Rf.wPublic=m:=⟨_,rfl⟩
 obtain ⟨mv,F8⟩: ∃ m,Rf.many (A7 l) Rf.wVar=m:=⟨_,rfl⟩
 obtain ⟨ma,F9⟩: ∃ m,Rf.many (A7 l) Rf.wArray=m:=⟨_,rfl⟩
 have l1:=JO l Rf.wSecret
 have l2:=JO l Rf.wPublic
 rw[Cy] at l1
 rw[hmp] at l2
 rw[F8,Cy,hmp] at hno
 have Fl:=hid Cy
 have Ea:=hid hmp
 have Fp:=hid F8
 have Fq:=hid F9
 have UT:(ms:Int)≤1000:=by omega
 have UU:(mp:Int)≤1000:=by omega
 clear Cy hmp F8 F9 l1 l2
 by_cases h1:0<mv
 ·have cX:(0:Int)<(mv:Int):=by omega
  clear hno h1
  go_enter Tryz.func60,Tryz.ntmps60
  go_wp2_with (first
   |(go_at_call 94;refine (HP.out.II q1 hl).mono ?_;rintro e w0 ⟨kq,rfl,BN,rfl⟩;have BH:kq.toList.isEmpty=true:=(by rw[BN];exact HK.out);have Ih:=hid BN;clear BN)
   |(go_at_call_of 95 (Value.string { data:= #[115,101,99,114,101,116] });refine (HP.out.CF _ hl ms Rf.wSecret Lt Fl.out).mono ?_;rintro e w0 ⟨rfl,rfl⟩)
   |(go_at_call_of 95 (Value.string { data:= #[112,117,98,108,105,99] });refine (HP.out.CF _ hl mp Rf.wPublic Lu Ea.out).mono ?_;rintro e w0 ⟨rfl,rfl⟩)
   |(go_at_call_of 95 (Value.string { data:= #[118,97,114] });refine (HP.out.CF _ hl mv Rf.wVar Lz Fp.out).mono ?_;rintro e w0 ⟨rfl,rfl⟩)
   |(go_at_call_of 95 (Value.string { data:= #[97,114,114,97,121] });refine (HP.out.CF _ hl ma Rf.wArray M0 Fq.out).mono ?_;rintro e w0 ⟨rfl,rfl⟩))
  go_ret
  exact ⟨rfl,Below.refl _ _⟩
 ·have cX: ¬(0:Int)<(mv:Int):=by omega
  have h3:(3:Int)≤(ms:Int)+(mp:Int):=by omega
  clear hno h1
  go_enter Tryz.func60,Tryz.ntmps60
  go_wp2_with (first
   |(go_at_call 94;refine (HP.out.II q1 hl).mono ?_;rintro e w0 ⟨kq,rfl,BN,rfl⟩;have BH:kq.toList.isEmpty=true:=(by rw[BN];exact HK.out);have Ih:=hid BN;clear BN)
   |(go_at_call_of 95 (Value.string { data:= #[115,101,99,114,101,116] });refine (HP.out.CF _ hl ms Rf.wSecret Lt Fl.out).mono ?_;rintro e w0 ⟨rfl,rfl⟩)
   |(go_at_call_of 95 (Value.string { data:= #[112,117,98,108,105,99] });refine (HP.out.CF _ hl mp Rf.wPublic Lu Ea.out).mono ?_;rintro e w0 ⟨rfl,rfl⟩)
   |(go_at_call_of 95 (Value.string { data:= #[118,97,114] });refine (HP.out.CF _ hl mv Rf.wVar Lz Fp.out).mono ?_;rintro e w0 ⟨rfl,rfl⟩)
   |(go_at_call_of 95 (Value.string { data:= #[97,114,114,97,121] });refine (HP.out.CF _ hl ma Rf.wArray M0 Fq.out).mono ?_;rintro e w0 ⟨rfl,rfl⟩))
  go_ret
  exact ⟨rfl,Below.refl _ _⟩
end
end Go.Proofs.YtgddmpmcnjlcjaaGreatDoor
