import Derived.Test.YtgddmpmcnjlcjaaGreatDoorB12
import Derived.Test.YtgddmpmcnjlcjaaGreatDoorB10
import Derived.Deep.LoopGhost
import Derived.Deep.QuietTactic
import Derived.BigQuiet
import Derived.Test.YtgddmpmcnjlcjaaGreatDoorB33
import Derived.Test.YtgddmpmcnjlcjaaGreatDoorB16
import Derived.Deep.RegionLaw
import Derived.Deep.DeepCutAuto
import Derived.Test.YtgddmpmcnjlcjaaGreatDoorK03
import Derived.Test.YtgddmpmcnjlcjaaGreatDoorK04
set_option maxRecDepth 100000
set_option maxHeartbeats 2000000
namespace Go.Proofs.YtgddmpmcnjlcjaaGreatDoor
open Go.RowKit
set_option linter.unusedVariables false
namespace Mc
def Iu (op n:Nat):Bool:=(op==4 && n==2)||(op==5 && decide (0<n))||(op==6 && n==1)
def Az (op a b:Nat):Nat→Nat
 |0=>0
 |k+1=>if Iu op (a/2 ^ k%2+b/2 ^ k%2)=true then Az op a b k+2 ^ k else Az op a b k
theorem Zb: ∀ a,a<16→ ∀ b,b<16→Az 4 a b 4=apply 4 a b∧Az 5 a b 4=apply 5 a b∧Az 6 a b 4=apply 6 a b:=by decide+kernel
theorem Zu (op a b k:Nat):Az op a b k<2 ^ k:=by
 induction k with
 |zero=>exact Nat.one_pos
 |succ k ih=>
  unfold Az
  rw[Nat.pow_succ]
  split
  ·omega
  ·omega
def TU (a:Nat):Nat→Nat
 |0=>a
 |i+1=>2*TU a i%16
def Qt (a:Nat):Nat→Nat
 |0=>a
 |i+1=>Qt a i/2
theorem km: ∀ a,a<16→ ∀ b,b<16→TU a b%16=apply 7 a b∧Qt a b%16=apply 8 a b:=by decide+kernel
theorem abE (a:Nat) (ha:a<16) (i:Nat):TU a i<16:=by
 cases i with
 |zero=>exact ha
 |succ i=>exact Nat.mod_lt _ (by omega)
theorem abF (a:Nat) (ha:a<16) (i:Nat):Qt a i<16:=by
 induction i with
 |zero=>exact ha
 |succ i ih=>show Qt a i/2<16;omega
end Mc
theorem IG (t v:Nat) (w:World) (ht:t≤5) (hv:v<16):
  Calls Tryz.prog 85 #[.int .i64 t,.int .i64 v] w fun e w'=>e=.returned (.int .i64 ((16*t+v:Nat):Int))∧w'=w:=by
 have h1:(t:Int)≤5:=by omega
 have h2:(v:Int)<16:=by omega
 go_enter Tryz.func85,Tryz.ntmps85
 go_wp2
 go_ret
 exact ⟨congrArg (fun z=>Ending.returned (Value.int .i64 z)) (by omega),rfl⟩
theorem pN (a b:Nat) (ha:a<16) (hb:b<16) (w:World):
  Calls Tryz.prog 110 #[.string ⟨#[38]⟩,.int .i64 a,.int .i64 b] w fun e w'=>e=.returned (.int .i64 (Mc.apply 4 a b:Nat))∧w'=w:=by
 go_enter Tryz.func110,Tryz.ntmps110
 go_wp2_with fail
 go_loopg [7,8] 4 (fun gk vx px wr=> ∃ k pp vv:Nat,k+gk=4∧2 ^ k=pp∧Mc.Az 4 a b k=vv∧px=.int .i64 pp∧vx=.int .i64 vv∧wr=w)
 case atStart=>exact ⟨0,1,0,rfl,rfl,rfl,rfl,rfl,rfl⟩
 case round=>
  obtain ⟨k,pp,vv,hk,Gj,hvv,rfl,rfl,hw⟩:=hrel
  have hw2:=hw.symm
  clear hw
  subst hw2
  have hle:=Mc.Zu 4 a b k
  have PJ:2 ^ k≤2 ^ 4:=Nat.pow_le_pow_right (by omega) (by omega)
  have hp0:0<2 ^ k:=Nat.two_pow_pos k
  rw[Gj] at hle PJ hp0
  rw[hvv] at hle
  have CV:=hid Gj
  have HV:=hid hvv
  have nG:(pp:Int)≤16:=by omega
  have nH:(0:Int)<(pp:Int):=by omega
  have nI:(vv:Int)<(pp:Int):=by omega
  by_cases hlt:k<4
  ·have hp8:pp≤8:=by
    have:2 ^ k≤2 ^ 3:=Nat.pow_le_pow_right (by omega) (by omega)
    omega
   have nJ:(pp:Int)<16:=by omega
   clear Gj hvv
   have hx2:=Nat.mod_lt (a/2 ^ k) (show 0<2 by omega)
   have hy2:=Nat.mod_lt (b/2 ^ k) (show 0<2 by omega)
   obtain hx|hx:a/2 ^ k%2=0∨a/2 ^ k%2=1:=by omega
   ·obtain hy|hy:b/2 ^ k%2=0∨b/2 ^ k%2=1:=by omega
    ·have HK:=hid (show Mc.Az 4 a b (k+1)=Mc.Az 4 a b k by
      show (if Mc.Iu 4 (a/2 ^ k%2+b/2 ^ k%2)=true then Mc.Az 4 a b k+2 ^ k else Mc.Az 4 a b k)=_
      rw[hx,hy];rfl)
     rw[CV.out] at hx hy
     have Ec:(a:Int)/(pp:Int)=((a/pp:Nat):Int):=by omega
     have E5:(b:Int)/(pp:Int)=((b/pp:Nat):Int):=by omega
     have CI:a/pp≤a:=Nat.div_le_self _ _
     have hlb:b/pp≤b:=Nat.div_le_self _ _
     generalize a/pp=qa at Ec CI hx
     generalize b/pp=qb at E5 hlb hy
     have KF:(qa:Int)<16:=by omega
     have JT:(qb:Int)<16:=by omega
     have EW:(qa:Int)%2=0:=by omega
     have I7:(qb:Int)%2=0:=by omega
     rw[HV.out] at HK
     clear hx hy hx2 hy2
     go_wp2_with fail
     go_roundg (gk - 1)
     case measure=>omega
     case rel=>exact ⟨k+1,2*pp,vv,by omega,by rw[Nat.pow_succ,CV.out];omega,HK.out,by go_num,rfl,rfl⟩
    ·have HK:=hid (show Mc.Az 4 a b (k+1)=Mc.Az 4 a b k by
      show (if Mc.Iu 4 (a/2 ^ k%2+b/2 ^ k%2)=true then Mc.Az 4 a b k+2 ^ k else Mc.Az 4 a b k)=_
      rw[hx,hy];rfl)
     rw[CV.out] at hx hy
     have Ec:(a:Int)/(pp:Int)=((a/pp:Nat):Int):=by omega
     have E5:(b:Int)/(pp:Int)=((b/pp:Nat):Int):=by omega
     have CI:a/pp≤a:=Nat.div_le_self _ _
     have hlb:b/pp≤b:=Nat.div_le_self _ _
     generalize a/pp=qa at Ec CI hx
     generalize b/pp=qb at E5 hlb hy
     have KF:(qa:Int)<16:=by omega
     have JT:(qb:Int)<16:=by omega
     have EW:(qa:Int)%2=0:=by omega
     have I7:(qb:Int)%2=1:=by omega
     rw[HV.out] at HK
     clear hx hy hx2 hy2
     go_wp2_with fail
     go_roundg (gk - 1)
     case measure=>omega
     case rel=>exact ⟨k+1,2*pp,vv,by omega,by rw[Nat.pow_succ,CV.out];omega,HK.out,by go_num,rfl,rfl⟩
   ·obtain hy|hy:b/2 ^ k%2=0∨b/2 ^ k%2=1:=by omega
    ·have HK:=hid (show Mc.Az 4 a b (k+1)=Mc.Az 4 a b k by
      show (if Mc.Iu 4 (a/2 ^ k%2+b/2 ^ k%2)=true then Mc.Az 4 a b k+2 ^ k else Mc.Az 4 a b k)=_
      rw[hx,hy];rfl)
     rw[CV.out] at hx hy
     have Ec:(a:Int)/(pp:Int)=((a/pp:Nat):Int):=by omega
     have E5:(b:Int)/(pp:Int)=((b/pp:Nat):Int):=by omega
     have CI:a/pp≤a:=Nat.div_le_self _ _
     have hlb:b/pp≤b:=Nat.div_le_self _ _
     generalize a/pp=qa at Ec CI hx
     generalize b/pp=qb at E5 hlb hy
     have KF:(qa:Int)<16:=by omega
     have JT:(qb:Int)<16:=by omega
     have EW:(qa:Int)%2=1:=by omega
     have I7:(qb:Int)%2=0:=by omega
     rw[HV.out] at HK
     clear hx hy hx2 hy2
     go_wp2_with fail
     go_roundg (gk - 1)
     case measure=>omega
     case rel=>exact ⟨k+1,2*pp,vv,by omega,by rw[Nat.pow_succ,CV.out];omega,HK.out,by go_num,rfl,rfl⟩
    ·have HK:=hid (show Mc.Az 4 a b (k+1)=Mc.Az 4 a b k+2 ^ k by
      show (if Mc.Iu 4 (a/2 ^ k%2+b/2 ^ k%2)=true then Mc.Az 4 a b k+2 ^ k else Mc.Az 4 a b k)=_
      rw[hx,hy];rfl)
     rw[CV.out] at hx hy
     have Ec:(a:Int)/(pp:Int)=((a/pp:Nat):Int):=by omega
     have E5:(b:Int)/(pp:Int)=((b/pp:Nat):Int):=by omega
     have CI:a/pp≤a:=Nat.div_le_self _ _
     have hlb:b/pp≤b:=Nat.div_le_self _ _
     generalize a/pp=qa at Ec CI hx
     generalize b/pp=qb at E5 hlb hy
     have KF:(qa:Int)<16:=by omega
     have JT:(qb:Int)<16:=by omega
     have EW:(qa:Int)%2=1:=by omega
     have I7:(qb:Int)%2=1:=by omega
     rw[HV.out,CV.out] at HK
     clear hx hy hx2 hy2
     go_wp2_with fail
     go_roundg (gk - 1)
     case measure=>omega
     case rel=>exact ⟨k+1,2*pp,vv+pp,by omega,by rw[Nat.pow_succ,CV.out];omega,HK.out,by go_num,by go_num,rfl⟩
  ·have hk4:k=4:=by omega
   subst hk4
   have hpe:pp=16:=by rw[←Gj]
   subst hpe
   have hE:vv=Mc.apply 4 a b:=by rw[←hvv];exact (Mc.Zb a ha b hb).1
   have HE:=hid hE
   clear hE Gj hvv
   go_wp2_with fail
   go_ret
   exact ⟨congrArg (fun z:Nat=>Ending.returned (.int .i64 (z:Int))) HE.out,rfl⟩
theorem qq (a b:Nat) (ha:a<16) (hb:b<16) (w:World):
  Calls Tryz.prog 110 #[.string ⟨#[124]⟩,.int .i64 a,.int .i64 b] w fun e w'=>e=.returned (.int .i64 (Mc.apply 5 a b:Nat))∧w'=w:=by
 go_enter Tryz.func110,Tryz.ntmps110
 go_wp2_with fail
 go_loopg [7,8] 4 (fun gk vx px wr=> ∃ k pp vv:Nat,k+gk=4∧2 ^ k=pp∧Mc.Az 5 a b k=vv∧px=.int .i64 pp∧vx=.int .i64 vv∧wr=w)
 case atStart=>exact ⟨0,1,0,rfl,rfl,rfl,rfl,rfl,rfl⟩
 case round=>
  obtain ⟨k,pp,vv,hk,Gj,hvv,rfl,rfl,hw⟩:=hrel
  have hw2:=hw.symm
  clear hw
  subst hw2
  have hle:=Mc.Zu 5 a b k
  have PJ:2 ^ k≤2 ^ 4:=Nat.pow_le_pow_right (by omega) (by omega)
  have hp0:0<2 ^ k:=Nat.two_pow_pos k
  rw[Gj] at hle PJ hp0
  rw[hvv] at hle
  have CV:=hid Gj
  have HV:=hid hvv
  have nG:(pp:Int)≤16:=by omega
  have nH:(0:Int)<(pp:Int):=by omega
  have nI:(vv:Int)<(pp:Int):=by omega
  by_cases hlt:k<4
  ·have hp8:pp≤8:=by
    have:2 ^ k≤2 ^ 3:=Nat.pow_le_pow_right (by omega) (by omega)
    omega
   have nJ:(pp:Int)<16:=by omega
   clear Gj hvv
   have hx2:=Nat.mod_lt (a/2 ^ k) (show 0<2 by omega)
   have hy2:=Nat.mod_lt (b/2 ^ k) (show 0<2 by omega)
   obtain hx|hx:a/2 ^ k%2=0∨a/2 ^ k%2=1:=by omega
   ·obtain hy|hy:b/2 ^ k%2=0∨b/2 ^ k%2=1:=by omega
    ·have HK:=hid (show Mc.Az 5 a b (k+1)=Mc.Az 5 a b k by
      show (if Mc.Iu 5 (a/2 ^ k%2+b/2 ^ k%2)=true then Mc.Az 5 a b k+2 ^ k else Mc.Az 5 a b k)=_
      rw[hx,hy];rfl)
     rw[CV.out] at hx hy
     have Ec:(a:Int)/(pp:Int)=((a/pp:Nat):Int):=by omega
     have E5:(b:Int)/(pp:Int)=((b/pp:Nat):Int):=by omega
     have CI:a/pp≤a:=Nat.div_le_self _ _
     have hlb:b/pp≤b:=Nat.div_le_self _ _
     generalize a/pp=qa at Ec CI hx
     generalize b/pp=qb at E5 hlb hy
     have KF:(qa:Int)<16:=by omega
     have JT:(qb:Int)<16:=by omega
     have EW:(qa:Int)%2=0:=by omega
     have I7:(qb:Int)%2=0:=by omega
     rw[HV.out] at HK
     clear hx hy hx2 hy2
     go_wp2_with fail
     go_roundg (gk - 1)
     case measure=>omega
     case rel=>exact ⟨k+1,2*pp,vv,by omega,by rw[Nat.pow_succ,CV.out];omega,HK.out,by go_num,rfl,rfl⟩
    ·have HK:=hid (show Mc.Az 5 a b (k+1)=Mc.Az 5 a b k+2 ^ k by
      show (if Mc.Iu 5 (a/2 ^ k%2+b/2 ^ k%2)=true then Mc.Az 5 a b k+2 ^ k else Mc.Az 5 a b k)=_
      rw[hx,hy];rfl)
     rw[CV.out] at hx hy
     have Ec:(a:Int)/(pp:Int)=((a/pp:Nat):Int):=by omega
     have E5:(b:Int)/(pp:Int)=((b/pp:Nat):Int):=by omega
     have CI:a/pp≤a:=Nat.div_le_self _ _
     have hlb:b/pp≤b:=Nat.div_le_self _ _
     generalize a/pp=qa at Ec CI hx
     generalize b/pp=qb at E5 hlb hy
     have KF:(qa:Int)<16:=by omega
     have JT:(qb:Int)<16:=by omega
     have EW:(qa:Int)%2=0:=by omega
     have I7:(qb:Int)%2=1:=by omega
     rw[HV.out,CV.out] at HK
     clear hx hy hx2 hy2
     go_wp2_with fail
     go_roundg (gk - 1)
     case measure=>omega
     case rel=>exact ⟨k+1,2*pp,vv+pp,by omega,by rw[Nat.pow_succ,CV.out];omega,HK.out,by go_num,by go_num,rfl⟩
   ·obtain hy|hy:b/2 ^ k%2=0∨b/2 ^ k%2=1:=by omega
    ·have HK:=hid (show Mc.Az 5 a b (k+1)=Mc.Az 5 a b k+2 ^ k by
      show (if Mc.Iu 5 (a/2 ^ k%2+b/2 ^ k%2)=true then Mc.Az 5 a b k+2 ^ k else Mc.Az 5 a b k)=_
      rw[hx,hy];rfl)
     rw[CV.out] at hx hy
     have Ec:(a:Int)/(pp:Int)=((a/pp:Nat):Int):=by omega
     have E5:(b:Int)/(pp:Int)=((b/pp:Nat):Int):=by omega
     have CI:a/pp≤a:=Nat.div_le_self _ _
     have hlb:b/pp≤b:=Nat.div_le_self _ _
     generalize a/pp=qa at Ec CI hx
     generalize b/pp=qb at E5 hlb hy
     have KF:(qa:Int)<16:=by omega
     have JT:(qb:Int)<16:=by omega
     have EW:(qa:Int)%2=1:=by omega
     have I7:(qb:Int)%2=0:=by omega
     rw[HV.out,CV.out] at HK
     clear hx hy hx2 hy2
     go_wp2_with fail
     go_roundg (gk - 1)
     case measure=>omega
     case rel=>exact ⟨k+1,2*pp,vv+pp,by omega,by rw[Nat.pow_succ,CV.out];omega,HK.out,by go_num,by go_num,rfl⟩
    ·have HK:=hid (show Mc.Az 5 a b (k+1)=Mc.Az 5 a b k+2 ^ k by
      show (if Mc.Iu 5 (a/2 ^ k%2+b/2 ^ k%2)=true then Mc.Az 5 a b k+2 ^ k else Mc.Az 5 a b k)=_
      rw[hx,hy];rfl)
     rw[CV.out] at hx hy
     have Ec:(a:Int)/(pp:Int)=((a/pp:Nat):Int):=by omega
     have E5:(b:Int)/(pp:Int)=((b/pp:Nat):Int):=by omega
     have CI:a/pp≤a:=Nat.div_le_self _ _
     have hlb:b/pp≤b:=Nat.div_le_self _ _
     generalize a/pp=qa at Ec CI hx
     generalize b/pp=qb at E5 hlb hy
     have KF:(qa:Int)<16:=by omega
     have JT:(qb:Int)<16:=by omega
     have EW:(qa:Int)%2=1:=by omega
     have I7:(qb:Int)%2=1:=by omega
     rw[HV.out,CV.out] at HK
     clear hx hy hx2 hy2
     go_wp2_with fail
     go_roundg (gk - 1)
     case measure=>omega
     case rel=>exact ⟨k+1,2*pp,vv+pp,by omega,by rw[Nat.pow_succ,CV.out];omega,HK.out,by go_num,by go_num,rfl⟩
  ·have hk4:k=4:=by omega
   subst hk4
   have hpe:pp=16:=by rw[←Gj]
   subst hpe
   have hE:vv=Mc.apply 5 a b:=by rw[←hvv];exact (Mc.Zb a ha b hb).2.1
   have HE:=hid hE
   clear hE Gj hvv
   go_wp2_with fail
   go_ret
   exact ⟨congrArg (fun z:Nat=>Ending.returned (.int .i64 (z:Int))) HE.out,rfl⟩
theorem pO (a b:Nat) (ha:a<16) (hb:b<16) (w:World):
  Calls Tryz.prog 110 #[.string ⟨#[94]⟩,.int .i64 a,.int .i64 b] w fun e w'=>e=.returned (.int .i64 (Mc.apply 6 a b:Nat))∧w'=w:=by
 go_enter Tryz.func110,Tryz.ntmps110
 go_wp2_with fail
 go_loopg [7,8] 4 (fun gk vx px wr=> ∃ k pp vv:Nat,k+gk=4∧2 ^ k=pp∧Mc.Az 6 a b k=vv∧px=.int .i64 pp∧vx=.int .i64 vv∧wr=w)
 case atStart=>exact ⟨0,1,0,rfl,rfl,rfl,rfl,rfl,rfl⟩
 case round=>
  obtain ⟨k,pp,vv,hk,Gj,hvv,rfl,rfl,hw⟩:=hrel
  have hw2:=hw.symm
  clear hw
  subst hw2
  have hle:=Mc.Zu 6 a b k
  have PJ:2 ^ k≤2 ^ 4:=Nat.pow_le_pow_right (by omega) (by omega)
  have hp0:0<2 ^ k:=Nat.two_pow_pos k
  rw[Gj] at hle PJ hp0
  rw[hvv] at hle
  have CV:=hid Gj
  have HV:=hid hvv
  have nG:(pp:Int)≤16:=by omega
  have nH:(0:Int)<(pp:Int):=by omega
  have nI:(vv:Int)<(pp:Int):=by omega
  by_cases hlt:k<4
  ·have hp8:pp≤8:=by
    have:2 ^ k≤2 ^ 3:=Nat.pow_le_pow_right (by omega) (by omega)
    omega
   have nJ:(pp:Int)<16:=by omega
   clear Gj hvv
   have hx2:=Nat.mod_lt (a/2 ^ k) (show 0<2 by omega)
   have hy2:=Nat.mod_lt (b/2 ^ k) (show 0<2 by omega)
   obtain hx|hx:a/2 ^ k%2=0∨a/2 ^ k%2=1:=by omega
   ·obtain hy|hy:b/2 ^ k%2=0∨b/2 ^ k%2=1:=by omega
    ·have HK:=hid (show Mc.Az 6 a b (k+1)=Mc.Az 6 a b k by
      show (if Mc.Iu 6 (a/2 ^ k%2+b/2 ^ k%2)=true then Mc.Az 6 a b k+2 ^ k else Mc.Az 6 a b k)=_
      rw[hx,hy];rfl)
     rw[CV.out] at hx hy
     have Ec:(a:Int)/(pp:Int)=((a/pp:Nat):Int):=by omega
     have E5:(b:Int)/(pp:Int)=((b/pp:Nat):Int):=by omega
     have CI:a/pp≤a:=Nat.div_le_self _ _
     have hlb:b/pp≤b:=Nat.div_le_self _ _
     generalize a/pp=qa at Ec CI hx
     generalize b/pp=qb at E5 hlb hy
     have KF:(qa:Int)<16:=by omega
     have JT:(qb:Int)<16:=by omega
     have EW:(qa:Int)%2=0:=by omega
     have I7:(qb:Int)%2=0:=by omega
     rw[HV.out] at HK
     clear hx hy hx2 hy2
     go_wp2_with fail
     go_roundg (gk - 1)
     case measure=>omega
     case rel=>exact ⟨k+1,2*pp,vv,by omega,by rw[Nat.pow_succ,CV.out];omega,HK.out,by go_num,rfl,rfl⟩
    ·have HK:=hid (show Mc.Az 6 a b (k+1)=Mc.Az 6 a b k+2 ^ k by
      show (if Mc.Iu 6 (a/2 ^ k%2+b/2 ^ k%2)=true then Mc.Az 6 a b k+2 ^ k else Mc.Az 6 a b k)=_
      rw[hx,hy];rfl)
     rw[CV.out] at hx hy
     have Ec:(a:Int)/(pp:Int)=((a/pp:Nat):Int):=by omega
     have E5:(b:Int)/(pp:Int)=((b/pp:Nat):Int):=by omega
     have CI:a/pp≤a:=Nat.div_le_self _ _
     have hlb:b/pp≤b:=Nat.div_le_self _ _
     generalize a/pp=qa at Ec CI hx
     generalize b/pp=qb at E5 hlb hy
     have KF:(qa:Int)<16:=by omega
     have JT:(qb:Int)<16:=by omega
     have EW:(qa:Int)%2=0:=by omega
     have I7:(qb:Int)%2=1:=by omega
     rw[HV.out,CV.out] at HK
     clear hx hy hx2 hy2
     go_wp2_with fail
     go_roundg (gk - 1)
     case measure=>omega
     case rel=>exact ⟨k+1,2*pp,vv+pp,by omega,by rw[Nat.pow_succ,CV.out];omega,HK.out,by go_num,by go_num,rfl⟩
   ·obtain hy|hy:b/2 ^ k%2=0∨b/2 ^ k%2=1:=by omega
    ·have HK:=hid (show Mc.Az 6 a b (k+1)=Mc.Az 6 a b k+2 ^ k by
      show (if Mc.Iu 6 (a/2 ^ k%2+b/2 ^ k%2)=true then Mc.Az 6 a b k+2 ^ k else Mc.Az 6 a b k)=_
      rw[hx,hy];rfl)
     rw[CV.out] at hx hy
     have Ec:(a:Int)/(pp:Int)=((a/pp:Nat):Int):=by omega
     have E5:(b:Int)/(pp:Int)=((b/pp:Nat):Int):=by omega
     have CI:a/pp≤a:=Nat.div_le_self _ _
     have hlb:b/pp≤b:=Nat.div_le_self _ _
     generalize a/pp=qa at Ec CI hx
     generalize b/pp=qb at E5 hlb hy
     have KF:(qa:Int)<16:=by omega
     have JT:(qb:Int)<16:=by omega
     have EW:(qa:Int)%2=1:=by omega
     have I7:(qb:Int)%2=0:=by omega
     rw[HV.out,CV.out] at HK
     clear hx hy hx2 hy2
     go_wp2_with fail
     go_roundg (gk - 1)
     case measure=>omega
     case rel=>exact ⟨k+1,2*pp,vv+pp,by omega,by rw[Nat.pow_succ,CV.out];omega,HK.out,by go_num,by go_num,rfl⟩
    ·have HK:=hid (show Mc.Az 6 a b (k+1)=Mc.Az 6 a b k by
      show (if Mc.Iu 6 (a/2 ^ k%2+b/2 ^ k%2)=true then Mc.Az 6 a b k+2 ^ k else Mc.Az 6 a b k)=_
      rw[hx,hy];rfl)
     rw[CV.out] at hx hy
     have Ec:(a:Int)/(pp:Int)=((a/pp:Nat):Int):=by omega
     have E5:(b:Int)/(pp:Int)=((b/pp:Nat):Int):=by omega
     have CI:a/pp≤a:=Nat.div_le_self _ _
     have hlb:b/pp≤b:=Nat.div_le_self _ _
     generalize a/pp=qa at Ec CI hx
     generalize b/pp=qb at E5 hlb hy
     have KF:(qa:Int)<16:=by omega
     have JT:(qb:Int)<16:=by omega
     have EW:(qa:Int)%2=1:=by omega
     have I7:(qb:Int)%2=1:=by omega
     rw[HV.out] at HK
     clear hx hy hx2 hy2
     go_wp2_with fail
     go_roundg (gk - 1)
     case measure=>omega
     case rel=>exact ⟨k+1,2*pp,vv,by omega,by rw[Nat.pow_succ,CV.out];omega,HK.out,by go_num,rfl,rfl⟩
  ·have hk4:k=4:=by omega
   subst hk4
   have hpe:pp=16:=by rw[←Gj]
   subst hpe
   have hE:vv=Mc.apply 6 a b:=by rw[←hvv];exact (Mc.Zb a ha b hb).2.2
   have HE:=hid hE
   clear hE Gj hvv
   go_wp2_with fail
   go_ret
   exact ⟨congrArg (fun z:Nat=>Ending.returned (.int .i64 (z:Int))) HE.out,rfl⟩
theorem pP (a b:Nat) (ha:a<16) (hb:b<16) (w:World):
  Calls Tryz.prog 90 #[.string ⟨#[43]⟩,.int .i64 a,.int .i64 b] w fun e w'=>e=.returned (.int .i64 (Mc.apply 1 a b:Nat))∧w'=w:=by
 have Gt:(a:Int)<16:=by omega
 have EE:(b:Int)<16:=by omega
 go_enter Tryz.func90,Tryz.ntmps90
 go_wp2_with fail
 go_ret
 exact ⟨congrArg (fun z=>Ending.returned (Value.int .i64 z)) (by show _=(((a+b)%16:Nat):Int);omega),rfl⟩
theorem pS (a b:Nat) (ha:a<16) (hb:b<16) (w:World):
  Calls Tryz.prog 90 #[.string ⟨#[45]⟩,.int .i64 a,.int .i64 b] w fun e w'=>e=.returned (.int .i64 (Mc.apply 2 a b:Nat))∧w'=w:=by
 have Gt:(a:Int)<16:=by omega
 have EE:(b:Int)<16:=by omega
 go_enter Tryz.func90,Tryz.ntmps90
 go_wp2_with fail
 go_ret
 exact ⟨congrArg (fun z=>Ending.returned (Value.int .i64 z)) (by show _=(((a+16 - b)%16:Nat):Int);omega),rfl⟩
theorem pT (a b:Nat) (ha:a<16) (hb:b<16) (w:World):
  Calls Tryz.prog 90 #[.string ⟨#[42]⟩,.int .i64 a,.int .i64 b] w fun e w'=>e=.returned (.int .i64 (Mc.apply 3 a b:Nat))∧w'=w:=by
 have Gt:(a:Int)<16:=by omega
 have EE:(b:Int)<16:=by omega
 have hm:a*b≤15*15:=Nat.mul_le_mul (by omega) (by omega)
 have Gs:(a:Int)*(b:Int)=((a*b:Nat):Int):=by simp
 generalize hq:a*b=q at hm Gs
 have HQ:=hid hq
 have Fg:(q:Int)≤225:=by omega
 clear hq
 go_enter Tryz.func90,Tryz.ntmps90
 go_wp2_with fail
 go_ret
 exact ⟨congrArg (fun z=>Ending.returned (Value.int .i64 z)) (by show _=((a*b%16:Nat):Int);rw[HQ.out];omega),rfl⟩
theorem oK (a b:Nat) (ha:a<16) (hb:b<16) (w:World):
  Calls Tryz.prog 90 #[.string ⟨#[60]⟩,.int .i64 a,.int .i64 b] w fun e w'=>e=.returned (.int .i64 (Mc.apply 9 a b:Nat))∧w'=w:=by
 have Gt:(a:Int)<16:=by omega
 have EE:(b:Int)<16:=by omega
 by_cases hc:a<b
 ·have hI:(a:Int)<(b:Int):=by omega
  have HC:=hid hc
  clear hc
  go_enter Tryz.func90,Tryz.ntmps90
  go_wp2_with fail
  go_ret
  exact ⟨congrArg (fun z=>Ending.returned (Value.int .i64 z)) (by unfold Mc.apply;simp[HC.out]),rfl⟩
 ·have hI: ¬(a:Int)<(b:Int):=by omega
  have HC:=hid hc
  clear hc
  go_enter Tryz.func90,Tryz.ntmps90
  go_wp2_with fail
  go_ret
  exact ⟨congrArg (fun z=>Ending.returned (Value.int .i64 z)) (by unfold Mc.apply;simp[HC.out]),rfl⟩
theorem oL (a b:Nat) (ha:a<16) (hb:b<16) (w:World):
  Calls Tryz.prog 90 #[.string ⟨#[61,61]⟩,.int .i64 a,.int .i64 b] w fun e w'=>e=.returned (.int .i64 (Mc.apply 10 a b:Nat))∧w'=w:=by
 have Gt:(a:Int)<16:=by omega
 have EE:(b:Int)<16:=by omega
 by_cases hc:a=b
 ·have hI:((a:Int)==(b:Int))=true:=by simp;omega
  have HC:=hid hc
  clear hc
  go_enter Tryz.func90,Tryz.ntmps90
  go_wp2_with fail
  go_ret
  exact ⟨congrArg (fun z=>Ending.returned (Value.int .i64 z)) (by unfold Mc.apply;simp[HC.out]),rfl⟩
 ·have hI:((a:Int)==(b:Int))=false:=by simp;omega
  have HC:=hid hc
  clear hc
  go_enter Tryz.func90,Tryz.ntmps90
  go_wp2_with fail
  go_ret
  exact ⟨congrArg (fun z=>Ending.returned (Value.int .i64 z)) (by unfold Mc.apply;simp[HC.out]),rfl⟩
theorem pU (a b:Nat) (ha:a<16) (hb:b<16) (w:World):
  Calls Tryz.prog 90 #[.string ⟨#[38]⟩,.int .i64 a,.int .i64 b] w fun e w'=>e=.returned (.int .i64 (Mc.apply 4 a b:Nat))∧w'=w:=by
 have Gt:(a:Int)<16:=by omega
 have EE:(b:Int)<16:=by omega
 have hl:=SG 4 a b (by omega) ha hb
 have HB:Hid (∀ W:World,Calls Tryz.prog 110 #[.string ⟨#[38]⟩,.int .i64 a,.int .i64 b] W fun e w'=>e=.returned (.int .i64 (Mc.apply 4 a b:Nat))∧w'=W):=fun W=>pN a b ha hb W
 generalize Mc.apply 4 a b=q at hl HB ⊢
 have Fg:(q:Int)<16:=by omega
 go_enter Tryz.func90,Tryz.ntmps90
 go_wp2_with (first|(go_at_call 110;refine (HB.out _).mono ?_;rintro e w0 ⟨rfl,hw0⟩;have hw1:=hw0.symm;subst hw1))
 go_ret
 exact ⟨congrArg (fun z=>Ending.returned (Value.int .i64 z)) (by omega),rfl⟩
theorem qs (a b:Nat) (ha:a<16) (hb:b<16) (w:World):
  Calls Tryz.prog 90 #[.string ⟨#[124]⟩,.int .i64 a,.int .i64 b] w fun e w'=>e=.returned (.int .i64 (Mc.apply 5 a b:Nat))∧w'=w:=by
 have Gt:(a:Int)<16:=by omega
 have EE:(b:Int)<16:=by omega
 have hl:=SG 5 a b (by omega) ha hb
 have HB:Hid (∀ W:World,Calls Tryz.prog 110 #[.string ⟨#[124]⟩,.int .i64 a,.int .i64 b] W fun e w'=>e=.returned (.int .i64 (Mc.apply 5 a b:Nat))∧w'=W):=fun W=>qq a b ha hb W
 generalize Mc.apply 5 a b=q at hl HB ⊢
 have Fg:(q:Int)<16:=by omega
 go_enter Tryz.func90,Tryz.ntmps90
 go_wp2_with (first|(go_at_call 110;refine (HB.out _).mono ?_;rintro e w0 ⟨rfl,hw0⟩;have hw1:=hw0.symm;subst hw1))
 go_ret
 exact ⟨congrArg (fun z=>Ending.returned (Value.int .i64 z)) (by omega),rfl⟩
theorem pV (a b:Nat) (ha:a<16) (hb:b<16) (w:World):
  Calls Tryz.prog 90 #[.string ⟨#[94]⟩,.int .i64 a,.int .i64 b] w fun e w'=>e=.returned (.int .i64 (Mc.apply 6 a b:Nat))∧w'=w:=by
 have Gt:(a:Int)<16:=by omega
 have EE:(b:Int)<16:=by omega
 have hl:=SG 6 a b (by omega) ha hb
 have HB:Hid (∀ W:World,Calls Tryz.prog 110 #[.string ⟨#[94]⟩,.int .i64 a,.int .i64 b] W fun e w'=>e=.returned (.int .i64 (Mc.apply 6 a b:Nat))∧w'=W):=fun W=>pO a b ha hb W
 generalize Mc.apply 6 a b=q at hl HB ⊢
 have Fg:(q:Int)<16:=by omega
 go_enter Tryz.func90,Tryz.ntmps90
 go_wp2_with (first|(go_at_call 110;refine (HB.out _).mono ?_;rintro e w0 ⟨rfl,hw0⟩;have hw1:=hw0.symm;subst hw1))
 go_ret
 exact ⟨congrArg (fun z=>Ending.returned (Value.int .i64 z)) (by omega),rfl⟩
theorem pW (a b:Nat) (ha:a<16) (hb:b<16) (w:World):
  Calls Tryz.prog 90 #[.string ⟨#[60,60]⟩,.int .i64 a,.int .i64 b] w fun e w'=>e=.returned (.int .i64 (Mc.apply 7 a b:Nat))∧w'=w:=by
 have Gt:(a:Int)<16:=by omega
 have EE:(b:Int)<16:=by omega
 go_enter Tryz.func90,Tryz.ntmps90
 go_wp2_with fail
 go_loopg [7,8] b (fun gk vx ix wr=> ∃ i vv:Nat,i+gk=b∧Mc.TU a i=vv∧ix=.int .i64 i∧vx=.int .i64 vv∧wr=w)
 case atStart=>exact ⟨0,a,by omega,rfl,rfl,rfl,rfl⟩
 case round=>
  obtain ⟨i,vv,hi,hv,rfl,rfl,hw⟩:=hrel
  have hw2:=hw.symm
  clear hw
  subst hw2
  have hl:=Mc.abE a ha i
  rw[hv] at hl
  have DL:(vv:Int)<16:=by omega
  by_cases hlt:i<b
  ·have HN:=hid (show Mc.TU a (i+1)=2*vv%16 by rw[←hv];rfl)
   clear hv
   go_wp2_with fail
   go_roundg (gk - 1)
   case measure=>omega
   case rel=>exact ⟨i+1,2*vv%16,by omega,HN.out,by go_num,by go_num,rfl⟩
  ·have hie:i=b:=by omega
   subst hie
   have hE:vv%16=Mc.apply 7 a i:=by rw[←hv];exact (Mc.km a ha i hb).1
   have HE:=hid hE
   clear hv hE
   go_wp2_with fail
   go_ret
   exact ⟨congrArg (fun z=>Ending.returned (Value.int .i64 z)) (by rw[←HE.out];omega),rfl⟩
theorem pX (a b:Nat) (ha:a<16) (hb:b<16) (w:World):
  Calls Tryz.prog 90 #[.string ⟨#[62,62]⟩,.int .i64 a,.int .i64 b] w fun e w'=>e=.returned (.int .i64 (Mc.apply 8 a b:Nat))∧w'=w:=by
 have Gt:(a:Int)<16:=by omega
 have EE:(b:Int)<16:=by omega
 go_enter Tryz.func90,Tryz.ntmps90
 go_wp2_with fail
 go_loopg [7,9] b (fun gk vx ix wr=> ∃ i vv:Nat,i+gk=b∧Mc.Qt a i=vv∧ix=.int .i64 i∧vx=.int .i64 vv∧wr=w)
 case atStart=>exact ⟨0,a,by omega,rfl,rfl,rfl,rfl⟩
 case round=>
  obtain ⟨i,vv,hi,hv,rfl,rfl,hw⟩:=hrel
  have hw2:=hw.symm
  clear hw
  subst hw2
  have hl:=Mc.abF a ha i
  rw[hv] at hl
  have DL:(vv:Int)<16:=by omega
  by_cases hlt:i<b
  ·have HN:=hid (show Mc.Qt a (i+1)=vv/2 by rw[←hv];rfl)
   clear hv
   go_wp2_with fail
   go_roundg (gk - 1)
   case measure=>omega
   case rel=>exact ⟨i+1,vv/2,by omega,HN.out,by go_num,by go_num,rfl⟩
  ·have hie:i=b:=by omega
   subst hie
   have hE:vv%16=Mc.apply 8 a i:=by rw[←hv];exact (Mc.km a ha i hb).2
   have HE:=hid hE
   clear hv hE
   go_wp2_with fail
   go_ret
   exact ⟨congrArg (fun z=>Ending.returned (Value.int .i64 z)) (by rw[←HE.out];omega),rfl⟩
theorem Kq {q:ByteArray} {l:List UInt8} (h:q.toList=l):q=⟨l.toArray⟩:=by
 rw[ByteArray.toList_eq] at h
 cases q with
 |mk d=>rw[←h]
theorem Kw {c:Bool} {o n:Nat} {f:Option Nat} (h:(if c=true then some n else f)=some o):(c=true∧o=n)∨f=some o:=by
 cases c with
 |true=>rw[if_pos rfl] at h;exact .inl ⟨rfl,(Option.some.inj h).symm⟩
 |false=>rw[if_neg (by simp)] at h;exact .inr h
theorem pY (q:ByteArray) (o:Nat) (ho:Lk.oper? q.toList=some o) (a b:Nat) (ha:a<16) (hb:b<16) (w:World):
  Calls Tryz.prog 90 #[.string q,.int .i64 a,.int .i64 b] w fun e w'=>e=.returned (.int .i64 (Mc.apply o a b:Nat))∧w'=w:=by
 unfold Lk.oper? at ho
 rcases Kw ho with ⟨h,rfl⟩|ho
 ·rw[Kq (beq_iff_eq.1 h)];exact pP a b ha hb w
 rcases Kw ho with ⟨h,rfl⟩|ho
 ·rw[Kq (beq_iff_eq.1 h)];exact pS a b ha hb w
 rcases Kw ho with ⟨h,rfl⟩|ho
 ·rw[Kq (beq_iff_eq.1 h)];exact pT a b ha hb w
 rcases Kw ho with ⟨h,rfl⟩|ho
 ·rw[Kq (beq_iff_eq.1 h)];exact pU a b ha hb w
 rcases Kw ho with ⟨h,rfl⟩|ho
 ·rw[Kq (beq_iff_eq.1 h)];exact qs a b ha hb w
 rcases Kw ho with ⟨h,rfl⟩|ho
 ·rw[Kq (beq_iff_eq.1 h)];exact pV a b ha hb w
 rcases Kw ho with ⟨h,rfl⟩|ho
 ·rw[Kq (beq_iff_eq.1 h)];exact pW a b ha hb w
 rcases Kw ho with ⟨h,rfl⟩|ho
 ·rw[Kq (beq_iff_eq.1 h)];exact pX a b ha hb w
 rcases Kw ho with ⟨h,rfl⟩|ho
 ·rw[Kq (beq_iff_eq.1 h)];exact oK a b ha hb w
 rcases Kw ho with ⟨h,rfl⟩|ho
 ·rw[Kq (beq_iff_eq.1 h)];exact oL a b ha hb w
 cases ho
section
variable (R P gn cn:Nat) (ns:List ByteArray) (w:World) (c0:w.cell? ⟨R,0,none⟩=some (.pointer (some ⟨P,0,none⟩))) (n0:w.cell? ⟨P,0,none⟩=some (.slice (some ⟨gn,0,none⟩) ns.length cn)) (hn:CD w gn ns) (hl:ns.length≤1000)
include c0 n0 hn hl
theorem fL (s:ByteArray) (i:Nat) (hi:Rf.oneOf s.toList (ns.map ByteArray.toList)=some i):
  Calls Tryz.prog 91 #[.pointer (some ⟨R,0,none⟩),.string s] w fun e w'=>e=.returned (.int .i64 i)∧w'=w:=by
 have HN:=hid hn
 have HI:=hid hi
 clear hn hi
 go_enter Tryz.func91,Tryz.ntmps91
 go_wp2_with (first|(go_at_call 59;refine (YO ns gn cn s _ HN.out hl).mono ?_;rintro e w0 ⟨he,hw0⟩;rw[HI.out] at he;subst he;have hw1:=hw0.symm;subst hw1))
 go_ret
 exact ⟨rfl,rfl⟩
theorem pZ (s:ByteArray) (i:Nat) (hi:Rf.oneOf s.toList (ns.map ByteArray.toList)=some i) (hs:s.size=1) (h97:97≤s[0].toNat) (gv cv nv x:Nat) (v0:w.cell? ⟨R,1,none⟩=some (.slice (some ⟨gv,0,none⟩) nv cv)) (hin:i<nv) (hx:w.cell? ⟨gv,i,none⟩=some (.int .i64 x)):
  Calls Tryz.prog 88 #[.pointer (some ⟨R,0,none⟩),.string s] w fun e w'=>e=.returned (.int .i64 x)∧ ∃ m,w'=w.drewN m:=by
 have HX:Hid (∀ m:Nat,Calls Tryz.prog 91 #[.pointer (some ⟨R,0,none⟩),.string s] (w.drewN m) fun e w'=>e=.returned (.int .i64 i)∧w'=w.drewN m):=fun m=>fL R P gn cn ns (w.drewN m) (by simpa using c0) (by simpa using n0) (fun j hj=>by simpa using hn j hj) hl s i hi
 have h9: ¬((s[0].toNat:Int)≤57):=by omega
 have MX:(0:Int)<(s.size:Int):=by omega
 clear hn hi
 go_enter Tryz.func88,Tryz.ntmps88
 go_wp2_with fail
 go_quiet (first|(go_at_call 91;exact Calls.quiet_of_same (HX.out _)))
 go_wp2_with fail
 go_ret
 exact ⟨rfl,_,rfl⟩
end
def KG (l:List UInt8):Nat→Nat
 |0=>0
 |i+1=>10*KG l i+((l.getD i 0).toNat - 48)
theorem qu {l:List UInt8} {n:Nat} (h:Lk.num? l=some n):1≤l.length∧l.length≤2∧KG l l.length=n∧(∀ i,i<l.length→48≤(l.getD i 0).toNat∧(l.getD i 0).toNat≤57)∧KG l 1≤9:=by
 unfold Lk.num? at h
 split at h
 ·rename_i c
  split at h
  ·rename_i hc
   cases h
   refine ⟨Nat.le_refl _,by simp,by simp[KG],fun i hi=>?_,by simp[KG];omega⟩
   have:i=0:=by simp at hi;omega
   subst this
   exact hc
  ·cases h
 ·rename_i a b
  split at h
  ·rename_i hc
   cases h
   refine ⟨by simp,Nat.le_refl _,?_,fun i hi=>?_,?_⟩
   ·simp[KG];omega
   ·obtain rfl|rfl:i=0∨i=1:=by simp at hi;omega
    ·exact ⟨by show 48≤a.toNat;omega,by show a.toNat≤57;omega⟩
    ·exact ⟨by show 48≤b.toNat;omega,by show b.toNat≤57;omega⟩
   ·simp[KG];omega
  ·cases h
 ·cases h
theorem fO (R:Nat) (s:ByteArray) (n:Nat) (h:Lk.num? s.toList=some n) (w:World):
  Calls Tryz.prog 88 #[.pointer (some ⟨R,0,none⟩),.string s] w fun e w'=>e=.returned (.int .i64 n)∧w'=w:=by
 obtain ⟨h1,h2,h3,h4,h5⟩:=qu h
 rw[Bx] at h1 h2 h3 h4
 have hb0:=h4 0 (by omega)
 have hg: ∀ i (hi:i<s.size),(s.toList.getD i 0)=s[i]:=fun i hi=>by rw[List.getD_eq_getElem?_getD,En s i hi];rfl
 rw[hg 0 (by omega)] at hb0
 have EE:(s[0].toNat:Int)≤57:=by omega
 have HD:=hid (fun i (hi:i<s.size)=>(show 48≤s[i].toNat∧s[i].toNat≤57 by have:=h4 i hi;rw[hg i hi] at this;exact this))
 have HS:=hid (fun i (hi:i<s.size)=>(show KG s.toList (i+1)=10*KG s.toList i+(s[i].toNat - 48) by show 10*KG s.toList i+((s.toList.getD i 0).toNat - 48)=_;rw[hg i hi]))
 have HE:=hid h3
 clear h4 hg h3 h
 go_enter Tryz.func88,Tryz.ntmps88
 go_wp2_with fail
 go_loopg [5,6] s.size (fun gk nx ix wr=> ∃ i vv:Nat,i+gk=s.size∧KG s.toList i=vv∧((i=0→vv=0)∧(i=1→vv≤9)∧vv≤99)∧ix=.int .i64 i∧nx=.int .i64 vv∧wr=w)
 case atStart=>exact ⟨0,0,by omega,rfl,⟨fun _=>rfl,fun h=>by omega,by omega⟩,rfl,rfl,rfl⟩
 case round=>
  obtain ⟨i,vv,hi,hv,hvb,rfl,rfl,hw⟩:=hrel
  have hw2:=hw.symm
  clear hw
  subst hw2
  by_cases hlt:i<s.size
  ·obtain ⟨d1,d2⟩:=HD.out i hlt
   have hs:=HS.out i hlt
   rw[hv] at hs
   have HN:=hid hs
   have d1I:(48:Int)≤(s[i].toNat:Int):=by omega
   have d2I:(s[i].toNat:Int)≤57:=by omega
   have Gq:(vv:Int)≤200:=by omega
   clear hs hv
   go_wp2_with fail
   go_roundg (gk - 1)
   case measure=>omega
   case rel=>exact ⟨i+1,10*vv+(s[i].toNat - 48),by omega,HN.out,by omega,by go_num,by go_num,rfl⟩
  ·have hie:i=s.size:=by omega
   subst hie
   have hE:vv=n:=by rw[←hv];exact HE.out
   subst hE
   clear hv
   go_wp2_with fail
   go_ret
   exact ⟨rfl,rfl⟩
theorem Tryz.uK:(Tryz.prog.info? 167).map (fun i=>(i.zero,i.size,i.bytes))=some (some (.agg #[.slice none 0 0,.int .i64 0]),2,32):=by kernel_rfl
def Ed (st:List (Value×Nat)):List Value:=st.flatMap fun p=>[p.1,.int .i64 p.2]
theorem abI (a b:List (Value×Nat)):Ed (a++b)=Ed a++Ed b:=by unfold Ed;rw[List.flatMap_append]
theorem gP (R base:Nat) (f:Nat→Value) (va:Value) (st:List (Value×Nat)) (al:Option Addr) (nl cl:Nat) (w:World) (hr:w.rowIs R 127 5 f) (h3:f 3=va) (ho:w.ownsRow base 167 2 va st.length (Ed st)) (hne:va.ownBlock≠some R) (hst:st.length≤1000) (hbs:base≤w.heap.size):
  Calls Tryz.prog 52 #[.pointer (some ⟨R,0,none⟩),.slice al nl cl] w fun e w'=>e=.returned (.tuple #[])∧ ∃ Lj,w'.rowIs R 127 5 (fun j=>if j=3 then Lj else f j)∧w'.ownsRow base 167 2 Lj (st.length+1) (Ed (st++[(.slice al nl cl,0)]))∧Lj.ownBlock≠some R∧A9 0 (fun k=>k=R∨va.ownBlock=some k) w w'∧(∀ k,Lj.ownBlock=some k→va.ownBlock=some k∨w.heap.size≤k):=by
 obtain ⟨t0,ht0,hz0,hz1,hz2⟩:=info_parts Tryz.uK
 obtain ⟨aa,ca,e⟩:=AX ho
 have c3:=hr.cell (i:=3) (by omega)
 rw[h3] at c3
 have hlt:=hr.lt
 have f3:=hr.frozen 3
 subst e
 have HR:=hid hr
 have HO:=hid ho
 have Mi:=hid hne
 clear hr ho hne h3
 go_enter Tryz.func52,Tryz.ntmps52
 go_wp2_with (first|(at_builtin;refine wpList_append_lies _ rfl _ _ 125 rfl base 167 t0 _ 2 32 Tryz.underlying125 ht0 hz0 hz1 hz2 rfl (by omega) _ st.length (Ed st) rfl (HO.out.alloc _) ⟨w.heap.size,0,none⟩ 1 1 [.slice al nl cl,.int .i64 0] (by simp[go_sem]) rfl (World.news_of_block (cs:= #[.slice al nl cl,.int .i64 0]) (t:=167) (fr:=(0,0)) (heap_alloc_new w _)) (by simp[Value.oneCell']) (by omega) (by unfold maxLen;omega) (by omega) (by simp;omega) (w.heap.size+1) (by simp) ?_;intro g2 cap2 w2 hown2 hgrow hat Qi;have AU:=hid (Ad (HR.out.alloc _) hgrow Mi.out);have k3:=AU.out.cell (i:=3) (by omega);have kf:=AU.out.frozen 3;have BR:=hid hown2;have HG:=hid hgrow;have DM:=hid hat;clear hown2 hgrow hat))
 go_end0
 have hg2:g2≠R:=by
  rcases DM.out with h|h
  ·exact fun e=>Mi.out (by rw[←e];exact h)
  ·omega
 refine ⟨rfl,.slice (some ⟨g2,0,none⟩) (st.length+1) cap2,AU.out.set 3 _,?_,by simp[Value.ownBlock];exact hg2,?_,?_⟩
 ·rw[abI]
  exact BC BR.out (by simp[Value.ownBlock];exact hg2) _
 ·exact A9.setCell (p:=⟨R,3,none⟩) (A9.grown ((A9.refl 0 (fun k=>k=R∨(Value.slice aa st.length ca).ownBlock=some k) w).alloc (Nat.zero_le _) _) HG.out (Nat.zero_le _) (fun k e=>⟨Nat.zero_le _,.inr e⟩)) (Nat.zero_le _) (.inl rfl) _
 ·intro k e
  have e:g2=k:=by simpa[Value.ownBlock] using e
  subst e
  rcases DM.out with h|h
  ·exact .inl h
  ·exact .inr (by omega)
theorem qy (R g n ca i:Nat) (w:World) (c3:w.cell? ⟨R,3,none⟩=some (.slice (some ⟨g,0,none⟩) ((n+1:Nat)) ca)) (ci:w.cell? ⟨g,n*2+1,none⟩=some (.int .i64 i)) (cf:w.frozen? ⟨g,n*2+1,none⟩=false) (hn:n≤1000) (hi:i≤1000):
  Calls Tryz.prog 87 #[.pointer (some ⟨R,0,none⟩)] w fun e w'=>e=.returned (.tuple #[])∧w'=w.setCell ⟨g,n*2+1,none⟩ (.int .i64 ((i+1:Nat):Int)):=by
 have Fj:(n:Int)≤1000:=by omega
 have Fh:(i:Int)≤1000:=by omega
 go_enter Tryz.func87,Tryz.ntmps87
 go_wp2_with fail
 go_end0
 exact ⟨rfl,rfl⟩
structure Pl where
 al:Option Addr:=none
 nl:Nat:=0
 cl:Nat:=0
 i:Nat:=0
def Pl.vp (p:Pl):Value×Nat:=(.slice p.al p.nl p.cl,p.i)
def Dz (st:List Pl):List Pl:=(st.reverse.dropWhile fun p=>decide (p.nl≤p.i)).reverse
theorem abJ (a:List Pl) (p:Pl) (h:p.nl≤p.i):Dz (a++[p])=Dz a:=by
 unfold Dz
 rw[List.reverse_append,List.reverse_singleton,List.singleton_append,List.dropWhile_cons,if_pos (by simpa using h)]
theorem uL (a:List Pl) (p:Pl) (h: ¬p.nl≤p.i):Dz (a++[p])=a++[p]:=by
 unfold Dz
 rw[List.reverse_append,List.reverse_singleton,List.singleton_append,List.dropWhile_cons,if_neg (by simpa using h)]
 simp
theorem Zv (st:List Pl) (j:Nat) (h:j<st.length):(Ed (st.map Pl.vp))[j*2]? =some (.slice st[j].al st[j].nl st[j].cl)∧(Ed (st.map Pl.vp))[j*2+1]? =some (.int .i64 st[j].i):=by
 induction st generalizing j with
 |nil=>cases h
 |cons x st ih=>
  have e:Ed ((x::st).map Pl.vp)=.slice x.al x.nl x.cl:: .int .i64 x.i::Ed (st.map Pl.vp):=rfl
  rw[e]
  cases j with
  |zero=>exact ⟨rfl,rfl⟩
  |succ j=>
   have:=ih j (by simpa using h)
   rw[show (j+1)*2=j*2+1+1 by omega]
   exact this
theorem uM (R base g ca:Nat) (f:Nat→Value) (st:List Pl) (w:World) (hr:w.rowIs R 127 5 f) (h3:f 3=.slice (some ⟨g,0,none⟩) st.length ca) (ho:w.ownsRow base 167 2 (.slice (some ⟨g,0,none⟩) st.length ca) st.length (Ed (st.map Pl.vp))) (hgR:g≠R) (hst:st.length≤1000)
  (pt:Nat→Nat→Option Addr) (hpt: ∀ j (hj:j<st.length) t,t<st[j].nl→ ∃ gl,st[j].al=some ⟨gl,0,none⟩∧gl≠R∧w.cell? ⟨gl,t,none⟩=some (.pointer (pt gl t))):
  Calls Tryz.prog 86 #[.pointer (some ⟨R,0,none⟩)] w fun e w'=> ∃ r,e=.returned (.pointer r)∧(Dz st=[]→r=none)∧(∀ a p,Dz st=a++[p]→ ∃ gl,p.al=some ⟨gl,0,none⟩∧r=pt gl p.i)∧w'.rowIs R 127 5 (fun j=>if j=3 then .slice (some ⟨g,0,none⟩) (Dz st).length ca else f j)∧A9 0 (fun k=>k=R) w w':=by
 have HR:=hid hr
 have HO:=hid ho
 have Um:=hid hpt
 have hcap:=ho
 have HC:=hid (show st.length≤ca by
  rcases ho.2 with ⟨h1,_⟩|⟨g',cap,cur,hv,_,_,hc,_⟩
  ·cases h1
  ·cases hv;exact hc)
 have hcI:(st.length:Int)≤(ca:Int):=by have:=HC.out;omega
 clear hr ho hpt hcap
 go_enter Tryz.func86,Tryz.ntmps86
 go_wp2_with fail
 go_loopg [] st.length (fun gk wr=>gk≤st.length∧Dz (st.take gk)=Dz st∧wr.rowIs R 127 5 (fun j=>if j=3 then .slice (some ⟨g,0,none⟩) gk ca else f j)∧A9 0 (fun k=>k=R) w wr)
 case atStart=>
  refine ⟨Nat.le_refl _,by rw[List.take_length],HR.out.congr (fun j hj=>?_),A9.refl _ _ _⟩
  by_cases e:j=3
  ·rw[if_pos e,e,h3]
  ·rw[if_neg e]
 case round=>
  obtain ⟨hm,hp,hrow,Ak⟩:=hrel
  have c3:=hrow.cell (i:=3) (by omega)
  rw[if_pos rfl] at c3
  have f3:=hrow.frozen 3
  have HP:=hid hp
  have Jx:=hid hrow
  have GA:=hid Ak
  clear hp hrow Ak
  cases gk with
  |zero=>
   have hE:Dz st=[]:=by rw[←HP.out];rfl
   have HE:=hid hE
   clear hE
   go_wp2_with fail
   go_ret
   exact ⟨none,rfl,fun _=>rfl,fun a p e=>(by rw[HE.out] at e;simp at e),by rw[HE.out];exact Jx.out,GA.out⟩
  |succ m=>
   have Cy:m<st.length:=by omega
   have q0:=(HO.out.cellAt (m*2) (by omega)).trans (Zv st m Cy).1
   have q1:=(HO.out.cellAt (m*2+1) (by omega)).trans (Zv st m Cy).2
   have y0:=GA.out.cell (p:=⟨g,m*2,none⟩) q0 hgR
   have y1:=GA.out.cell (p:=⟨g,m*2+1,none⟩) q1 hgR
   have Pt:=hid (List.take_succ_eq_append_getElem Cy)
   have Xr:=Um.out m Cy
   clear q0 q1
   generalize hpe:st[m]=p at y0 y1 Pt Xr
   clear hpe
   have Gs:((m+1:Nat):Int)≤(ca:Int):=by have:=HC.out;omega
   by_cases hd:p.nl≤p.i
   ·have Eu: ¬(p.i:Int)<(p.nl:Int):=by omega
    have CV:=hid (show Dz (st.take m)=Dz st by rw[←HP.out,Pt.out,abJ _ _ hd])
    clear Xr
    go_wp2_with fail
    go_quiet (fail)
    go_wp2_with fail
    go_quiet (fail)
    go_wp2_with fail
    go_region
    all_goals go_wp2_with fail
    all_goals go_roundg m
    case measure=>omega
    case rel=>
     refine ⟨by omega,CV.out,?_,?_⟩
     ·exact (((Jx.out.set 3 (.slice (some ⟨g,0,none⟩) m ca)).congr (fun j hj=>(by
       by_cases e:j=3
       ·rw[if_pos e,if_pos e]
       ·rw[if_neg e,if_neg e,if_neg e]))).of_block rfl)
     ·exact (A9.setCell (p:=⟨R,3,none⟩) GA.out (Nat.zero_le _) rfl (.slice (some ⟨g,0,none⟩) m ca)).trans (A9.Ap (S:=fun k=>k=R) (base:=0) ⟨rfl,rfl,rfl,Nat.le_refl _,fun _ _=>rfl⟩ (Nat.zero_le _)) (fun _ _ e=>e)
   ·obtain ⟨gl,hal,agt,hcl⟩:=Xr p.i (by omega)
    have Eu:(p.i:Int)<(p.nl:Int):=by omega
    have hE:Dz st=st.take m++[p]:=by rw[←HP.out,Pt.out,uL _ _ hd]
    have HE:=hid hE
    have y2:=GA.out.cell (p:=⟨gl,p.i,none⟩) hcl agt
    rw[hal] at y0
    clear Xr hE hcl
    go_wp2_with fail
    go_quiet (fail)
    go_wp2_with fail
    go_quiet (fail)
    go_wp2_with fail
    go_quiet (fail)
    go_wp2_with fail
    go_ret
    refine ⟨_,rfl,fun e=>(by rw[HE.out] at e;simp at e),fun a q e=>?_,?_,?_⟩
    ·rw[HE.out] at e
     have hq:=(List.append_inj' e rfl).2
     cases hq
     exact ⟨gl,hal,rfl⟩
    ·rw[HE.out,show (st.take m++[p]).length=m+1 by rw[List.length_append,List.length_take];simp;omega]
     exact Jx.out.of_block rfl
    ·exact GA.out.trans (A9.Ap (S:=fun k=>k=R) (base:=0) ⟨rfl,rfl,rfl,Nat.le_refl _,fun _ _=>rfl⟩ (Nat.zero_le _)) (fun _ _ e=>e)
structure RD (R P gn cn:Nat) (ns:List ByteArray) (gv cv:Nat) (vals:Nat→Nat) (w:World):Prop where
 c0:w.cell? ⟨R,0,none⟩=some (.pointer (some ⟨P,0,none⟩))
 n0:w.cell? ⟨P,0,none⟩=some (.slice (some ⟨gn,0,none⟩) ns.length cn)
 hn:CD w gn ns
 hl:ns.length≤1000
 v0:w.cell? ⟨R,1,none⟩=some (.slice (some ⟨gv,0,none⟩) ns.length cv)
 hv: ∀ i,i<ns.length→w.cell? ⟨gv,i,none⟩=some (.int .i64 (vals i))
def CW (ns:List ByteArray) (s:ByteArray):Nat:=(Rf.oneOf s.toList (ns.map ByteArray.toList)).getD 0
def Bf (ns:List ByteArray) (vals:Nat→Nat) (s:ByteArray):Nat:=
 match Lk.num? s.toList with
 |some n=>n
 |none=>vals (CW ns s)
def IZ (ns:List ByteArray) (s:ByteArray):Prop:= ∃ h:s.size=1,97≤(s[0]'(by omega)).toNat∧(Rf.oneOf s.toList (ns.map ByteArray.toList)).isSome=true
def NI (ns:List ByteArray) (s:ByteArray):Prop:=(Lk.num? s.toList).isSome=true∨IZ ns s
theorem jD {l:List Lk.Wd} {w:Lk.Wd} {i:Nat} (h:Rf.oneOf w l=some i):i<l.length:=by
 induction l generalizing i with
 |nil=>cases h
 |cons x l ih=>
  have h:(if (x==w)=true then some 0 else (Rf.oneOf w l).map (· +1))=some i:=h
  by_cases e:(x==w)=true
  ·rw[if_pos e] at h;cases h;simp
  ·rw[if_neg e] at h
   cases hx:Rf.oneOf w l with
   |none=>rw[hx] at h;cases h
   |some j=>
    rw[hx] at h
    have hj:j+1=i:=by simpa using h
    have:=ih hx
    simp only[List.length_cons];omega
theorem RD.drew {R P gn cn:Nat} {ns:List ByteArray} {gv cv:Nat} {vals:Nat→Nat} {w:World} (d:RD R P gn cn ns gv cv vals w) (m:Nat):RD R P gn cn ns gv cv vals (w.drewN m):=
 ⟨by simpa using d.c0,by simpa using d.n0,fun j hj=>by simpa using d.hn j hj,d.hl,by simpa using d.v0,fun j hj=>by simpa using d.hv j hj⟩
theorem IZ.at {ns:List ByteArray} {s:ByteArray} (h:IZ ns s):Rf.oneOf s.toList (ns.map ByteArray.toList)=some (CW ns s)∧CW ns s<ns.length:=by
 obtain ⟨_,_,h⟩:=h
 unfold CW
 cases hx:Rf.oneOf s.toList (ns.map ByteArray.toList) with
 |none=>rw[hx] at h;cases h
 |some i=>exact ⟨rfl,by simpa using jD hx⟩
theorem NP {R P gn cn:Nat} {ns:List ByteArray} {gv cv:Nat} {vals:Nat→Nat} {w:World} (d:RD R P gn cn ns gv cv vals w) {s:ByteArray} (h:IZ ns s):
  Calls Tryz.prog 91 #[.pointer (some ⟨R,0,none⟩),.string s] w fun e w'=>e=.returned (.int .i64 (CW ns s))∧w'=w:=
 fL R P gn cn ns w d.c0 d.n0 d.hn d.hl s _ h.at.1
theorem MN {R P gn cn:Nat} {ns:List ByteArray} {gv cv:Nat} {vals:Nat→Nat} {w:World} (d:RD R P gn cn ns gv cv vals w) {s:ByteArray} (h:NI ns s):
  Calls Tryz.prog 88 #[.pointer (some ⟨R,0,none⟩),.string s] w fun e w'=>e=.returned (.int .i64 (Bf ns vals s))∧ ∃ m,w'=w.drewN m:=by
 unfold Bf
 cases hx:Lk.num? s.toList with
 |some n=>exact (fO R s n hx w).mono (fun e w' ⟨h1,h2⟩=>⟨h1,0,h2⟩)
 |none=>
  have hm:IZ ns s:=by
   rcases h with h|h
   ·rw[hx] at h;cases h
   ·exact h
  obtain ⟨h1,h2,h3⟩:=hm
  obtain ⟨e1,e2⟩:=IZ.at ⟨h1,h2,h3⟩
  exact pZ R P gn cn ns w d.c0 d.n0 d.hn d.hl s _ e1 h1 h2 gv cv ns.length _ d.v0 e2 (d.hv _ e2)
structure RC (R P:Nat) (nn gs cs gc cc:Nat) (ga:Nat→Nat) (sz:Nat→Nat) (AR:Nat→Nat→Nat) (w:World):Prop where
 s0:w.cell? ⟨P,2,none⟩=some (.slice (some ⟨gs,0,none⟩) nn cs)
 hs: ∀ i,i<nn→w.cell? ⟨gs,i,none⟩=some (.int .i64 (sz i))
 a0:w.cell? ⟨R,2,none⟩=some (.slice (some ⟨gc,0,none⟩) nn cc)
 ha: ∀ i,i<nn→w.cell? ⟨gc,i,none⟩=some (.slice (some ⟨ga i,0,none⟩) (sz i) (sz i))
 hc: ∀ i j,i<nn→j<sz i→w.cell? ⟨ga i,j,none⟩=some (.int .i64 (AR i j))
 fc: ∀ i j,i<nn→j<sz i→w.frozen? ⟨ga i,j,none⟩=false
 f4:w.frozen? ⟨R,4,none⟩=false
 b4: ∃ b,w.cell? ⟨R,4,none⟩=some (.bool b)
theorem RC.drew {R P nn gs cs gc cc:Nat} {ga sz:Nat→Nat} {AR:Nat→Nat→Nat} {w:World} (d:RC R P nn gs cs gc cc ga sz AR w) (m:Nat):RC R P nn gs cs gc cc ga sz AR (w.drewN m):=
 ⟨by simpa using d.s0,fun j hj=>by simpa using d.hs j hj,by simpa using d.a0,fun j hj=>by simpa using d.ha j hj,fun i j hi hj=>by simpa using d.hc i j hi hj,fun i j hi hj=>by simpa using d.fc i j hi hj,by simpa using d.f4,by simpa using d.b4⟩
section
variable {R P gn cn:Nat} {ns:List ByteArray} {gv cv:Nat} {vals:Nat→Nat} {gs cs gc cc:Nat} {ga:Nat→Nat} {sz:Nat→Nat} {AR:Nat→Nat→Nat} {w:World}
theorem uN (d:RD R P gn cn ns gv cv vals w) (c:RC R P ns.length gs cs gc cc ga sz AR w) (gw cw:Nat) (w0 w1 w2 w3:ByteArray) (hw:CD w gw [w0,w1,w2,w3]) (h0:w0.toList=Rf.wLoad) (n1:IZ ns w1) (n2:IZ ns w2) (n3:NI ns w3) (hx:Bf ns vals w3<16) (hge:sz (CW ns w2)≤Bf ns vals w3):
  Calls Tryz.prog 89 #[.pointer (some ⟨R,0,none⟩),.slice (some ⟨gw,0,none⟩) 4 cw] w fun e w'=>e=.returned (.int .i64 ((32+Bf ns vals w3:Nat):Int))∧ ∃ m1 m2,w'=((w.drewN m1).setCell ⟨R,4,none⟩ (.bool true)).drewN m2:=by
 have W0:=hw 0 (by simp)
 have W1:=hw 1 (by simp)
 have W2:=hw 2 (by simp)
 have W3:=hw 3 (by simp)
 simp only[List.getD_cons_zero,List.getD_cons_succ] at W0 W1 W2 W3
 have I1:Hid (Calls Tryz.prog 91 #[.pointer (some ⟨R,0,none⟩),.string w1] w fun e w'=>e=.returned (.int .i64 (CW ns w1))∧w'=w):=NP d n1
 have V2:Hid (Calls Tryz.prog 88 #[.pointer (some ⟨R,0,none⟩),.string w2] w fun e w'=>e=.returned (.int .i64 (Bf ns vals w2))∧ ∃ m',w'=w.drewN m'):=MN d (.inr n2)
 have I2:Hid (∀ m:Nat,Calls Tryz.prog 91 #[.pointer (some ⟨R,0,none⟩),.string w2] (w.drewN m) fun e w'=>e=.returned (.int .i64 (CW ns w2))∧w'=w.drewN m):=fun m=>NP (d.drew m) n2
 have V3:Hid (∀ m:Nat,Calls Tryz.prog 88 #[.pointer (some ⟨R,0,none⟩),.string w3] (w.drewN m) fun e w'=>e=.returned (.int .i64 (Bf ns vals w3))∧ ∃ m',w'=(w.drewN m).drewN m'):=fun m=>MN (d.drew m) n3
 have hi2:=n2.at.2
 have S0:=c.s0
 have S1:=c.hs _ hi2
 have c0:=d.c0
 have f4:=c.f4
 obtain ⟨b,b4⟩:=c.b4
 have hE:w0.toList=[108,111,97,100]:=h0
 have Fh:(CW ns w2:Int)<(ns.length:Int):=by omega
 have EW:(Bf ns vals w3:Int)<16:=by omega
 have hgI:(sz (CW ns w2):Int)≤(Bf ns vals w3:Int):=by omega
 clear hw n1 n2 n3 d c h0
 go_enter Tryz.func89,Tryz.ntmps89
 go_wp2_with (first
  |(go_at_call_of 91 (Value.string w1);refine I1.out.mono ?_;rintro e w' ⟨rfl,hw'⟩;have hw1:=hw'.symm;subst hw1)
  |(go_at_call_of 88 (Value.string w2);refine V2.out.mono ?_;rintro e w' ⟨rfl,m1,hw'⟩;subst hw')
  |(go_at_call_of 91 (Value.string w2);refine (I2.out _).mono ?_;rintro e w' ⟨rfl,hw'⟩;subst hw')
  |(go_at_call_of 88 (Value.string w3);refine (V3.out _).mono ?_;rintro e w' ⟨rfl,m2,hw'⟩;subst hw')
  |(go_at_call 85;refine (IG 2 _ _ (by omega) hx).mono ?_;rintro e w' ⟨rfl,hw'⟩;subst hw'))
 go_ret
 exact ⟨by push_cast;rfl,_,0,rfl⟩
end
section
variable {R P gn cn:Nat} {ns:List ByteArray} {gv cv:Nat} {vals:Nat→Nat} {gs cs gc cc:Nat} {ga:Nat→Nat} {sz:Nat→Nat} {AR:Nat→Nat→Nat} {w:World}
theorem uO (d:RD R P gn cn ns gv cv vals w) (c:RC R P ns.length gs cs gc cc ga sz AR w) (gw cw:Nat) (w0 w1 w2 w3:ByteArray) (hw:CD w gw [w0,w1,w2,w3]) (h0:w0.toList=Rf.wLoad) (n1:IZ ns w1) (n2:IZ ns w2) (n3:NI ns w3) (hx:Bf ns vals w3<16) (fv: ∀ i,i<ns.length→w.frozen? ⟨gv,i,none⟩=false) (hge:Bf ns vals w3<sz (CW ns w2)):
  Calls Tryz.prog 89 #[.pointer (some ⟨R,0,none⟩),.slice (some ⟨gw,0,none⟩) 4 cw] w fun e w'=>e=.returned (.int .i64 ((32+Bf ns vals w3:Nat):Int))∧ ∃ m1 m2,w'=((w.drewN m1).setCell ⟨gv,CW ns w1,none⟩ (.int .i64 (AR (CW ns w2) (Bf ns vals w3)))).drewN m2:=by
 have W0:=hw 0 (by simp)
 have W1:=hw 1 (by simp)
 have W2:=hw 2 (by simp)
 have W3:=hw 3 (by simp)
 simp only[List.getD_cons_zero,List.getD_cons_succ] at W0 W1 W2 W3
 have I1:Hid (Calls Tryz.prog 91 #[.pointer (some ⟨R,0,none⟩),.string w1] w fun e w'=>e=.returned (.int .i64 (CW ns w1))∧w'=w):=NP d n1
 have V2:Hid (Calls Tryz.prog 88 #[.pointer (some ⟨R,0,none⟩),.string w2] w fun e w'=>e=.returned (.int .i64 (Bf ns vals w2))∧ ∃ m',w'=w.drewN m'):=MN d (.inr n2)
 have I2:Hid (∀ m:Nat,Calls Tryz.prog 91 #[.pointer (some ⟨R,0,none⟩),.string w2] (w.drewN m) fun e w'=>e=.returned (.int .i64 (CW ns w2))∧w'=w.drewN m):=fun m=>NP (d.drew m) n2
 have V3:Hid (∀ m:Nat,Calls Tryz.prog 88 #[.pointer (some ⟨R,0,none⟩),.string w3] (w.drewN m) fun e w'=>e=.returned (.int .i64 (Bf ns vals w3))∧ ∃ m',w'=(w.drewN m).drewN m'):=fun m=>MN (d.drew m) n3
 have hi2:=n2.at.2
 have S0:=c.s0
 have S1:=c.hs _ hi2
 have c0:=d.c0
 have f4:=c.f4
 obtain ⟨b,b4⟩:=c.b4
 have hE:w0.toList=[108,111,97,100]:=h0
 have Fh:(CW ns w2:Int)<(ns.length:Int):=by omega
 have EW:(Bf ns vals w3:Int)<16:=by omega
 have hgI:(Bf ns vals w3:Int)<(sz (CW ns w2):Int):=by omega
 have hi1:=n1.at.2
 have alu:(CW ns w1:Int)<(ns.length:Int):=by omega
 have A0:=c.a0
 have A1:=c.ha _ hi2
 have A2:=c.hc _ _ hi2 hge
 have v0:=d.v0
 have v1:=d.hv _ hi1
 have fv1:=fv _ hi1
 have J1:Hid (∀ m:Nat,Calls Tryz.prog 91 #[.pointer (some ⟨R,0,none⟩),.string w1] (w.drewN m) fun e w'=>e=.returned (.int .i64 (CW ns w1))∧w'=w.drewN m):=fun m=>NP (d.drew m) n1
 clear hw n1 n2 n3 d c h0
 go_enter Tryz.func89,Tryz.ntmps89
 go_wp2_with (first
  |(go_at_call_of 91 (Value.string w1);refine I1.out.mono ?_;rintro e w' ⟨rfl,hw'⟩;have hw1:=hw'.symm;subst hw1))
 go_wp2_with (first
  |(go_at_call_of 91 (Value.string w1);refine (J1.out _).mono ?_;rintro e w' ⟨rfl,hw'⟩;subst hw')
  |(go_at_call_of 88 (Value.string w2);refine V2.out.mono ?_;rintro e w' ⟨rfl,m1,hw'⟩;subst hw')
  |(go_at_call_of 91 (Value.string w2);refine (I2.out _).mono ?_;rintro e w' ⟨rfl,hw'⟩;subst hw')
  |(go_at_call_of 88 (Value.string w3);refine (V3.out _).mono ?_;rintro e w' ⟨rfl,m2,hw'⟩;subst hw')
  |(go_at_call 85;refine (IG 2 _ _ (by omega) hx).mono ?_;rintro e w' ⟨rfl,hw'⟩;subst hw'))
 go_region
 go_wp2_with (first|(go_at_call 85;refine (IG 2 _ _ (by omega) hx).mono ?_;rintro e w' ⟨rfl,hw'⟩;subst hw'))
 go_ret
 exact ⟨by push_cast;rfl,_,0,rfl⟩
end
section
variable {R P gn cn:Nat} {ns:List ByteArray} {gv cv:Nat} {vals:Nat→Nat} {gs cs gc cc:Nat} {ga:Nat→Nat} {sz:Nat→Nat} {AR:Nat→Nat→Nat} {w:World}
theorem qz (d:RD R P gn cn ns gv cv vals w) (c:RC R P ns.length gs cs gc cc ga sz AR w) (gw cw:Nat) (w0 w1 w2 w3:ByteArray) (hw:CD w gw [w0,w1,w2,w3]) (h0:w0.toList=Rf.wStore) (n1:IZ ns w1) (n2:NI ns w2) (n3:NI ns w3) (hx:Bf ns vals w2<16) (hge:sz (CW ns w1)≤Bf ns vals w2):
  Calls Tryz.prog 89 #[.pointer (some ⟨R,0,none⟩),.slice (some ⟨gw,0,none⟩) 4 cw] w fun e w'=>e=.returned (.int .i64 ((32+Bf ns vals w2:Nat):Int))∧ ∃ m1 m2,w'=((w.drewN m1).setCell ⟨R,4,none⟩ (.bool true)).drewN m2:=by
 have W0:=hw 0 (by simp)
 have W1:=hw 1 (by simp)
 have W2:=hw 2 (by simp)
 have W3:=hw 3 (by simp)
 simp only[List.getD_cons_zero,List.getD_cons_succ] at W0 W1 W2 W3
 have I1:Hid (Calls Tryz.prog 91 #[.pointer (some ⟨R,0,none⟩),.string w1] w fun e w'=>e=.returned (.int .i64 (CW ns w1))∧w'=w):=NP d n1
 have V2:Hid (Calls Tryz.prog 88 #[.pointer (some ⟨R,0,none⟩),.string w2] w fun e w'=>e=.returned (.int .i64 (Bf ns vals w2))∧ ∃ m',w'=w.drewN m'):=MN d n2
 have V3:Hid (∀ m:Nat,Calls Tryz.prog 88 #[.pointer (some ⟨R,0,none⟩),.string w3] (w.drewN m) fun e w'=>e=.returned (.int .i64 (Bf ns vals w3))∧ ∃ m',w'=(w.drewN m).drewN m'):=fun m=>MN (d.drew m) n3
 have hi2:=n1.at.2
 have S0:=c.s0
 have S1:=c.hs _ hi2
 have c0:=d.c0
 have f4:=c.f4
 obtain ⟨b,b4⟩:=c.b4
 have hE:w0.toList=[115,116,111,114,101]:=h0
 have Fh:(CW ns w1:Int)<(ns.length:Int):=by omega
 have EW:(Bf ns vals w2:Int)<16:=by omega
 have hgI:(sz (CW ns w1):Int)≤(Bf ns vals w2:Int):=by omega
 clear hw n1 n2 n3 d c h0
 go_enter Tryz.func89,Tryz.ntmps89
 go_wp2_with (first
  |(go_at_call_of 91 (Value.string w1);refine I1.out.mono ?_;rintro e w' ⟨rfl,hw'⟩;have hw1:=hw'.symm;subst hw1)
  |(go_at_call_of 88 (Value.string w2);refine V2.out.mono ?_;rintro e w' ⟨rfl,m1,hw'⟩;subst hw')
  |(go_at_call_of 88 (Value.string w3);refine (V3.out _).mono ?_;rintro e w' ⟨rfl,m2,hw'⟩;subst hw')
  |(go_at_call 85;refine (IG 2 _ _ (by omega) hx).mono ?_;rintro e w' ⟨rfl,hw'⟩;subst hw'))
 go_ret
 exact ⟨by push_cast;rfl,_,0,rfl⟩
end
section
variable {R P gn cn:Nat} {ns:List ByteArray} {gv cv:Nat} {vals:Nat→Nat} {gs cs gc cc:Nat} {ga:Nat→Nat} {sz:Nat→Nat} {AR:Nat→Nat→Nat} {w:World}
theorem r9 (d:RD R P gn cn ns gv cv vals w) (c:RC R P ns.length gs cs gc cc ga sz AR w) (gw cw:Nat) (w0 w1 w2 w3:ByteArray) (hw:CD w gw [w0,w1,w2,w3]) (h0:w0.toList=Rf.wStore) (n1:IZ ns w1) (n2:NI ns w2) (n3:NI ns w3) (hx:Bf ns vals w2<16) (hge:Bf ns vals w2<sz (CW ns w1)):
  Calls Tryz.prog 89 #[.pointer (some ⟨R,0,none⟩),.slice (some ⟨gw,0,none⟩) 4 cw] w fun e w'=>e=.returned (.int .i64 ((32+Bf ns vals w2:Nat):Int))∧ ∃ m1 m2,w'=((w.drewN m1).setCell ⟨ga (CW ns w1),Bf ns vals w2,none⟩ (.int .i64 (Bf ns vals w3))).drewN m2:=by
 have W0:=hw 0 (by simp)
 have W1:=hw 1 (by simp)
 have W2:=hw 2 (by simp)
 have W3:=hw 3 (by simp)
 simp only[List.getD_cons_zero,List.getD_cons_succ] at W0 W1 W2 W3
 have I1:Hid (Calls Tryz.prog 91 #[.pointer (some ⟨R,0,none⟩),.string w1] w fun e w'=>e=.returned (.int .i64 (CW ns w1))∧w'=w):=NP d n1
 have V2:Hid (Calls Tryz.prog 88 #[.pointer (some ⟨R,0,none⟩),.string w2] w fun e w'=>e=.returned (.int .i64 (Bf ns vals w2))∧ ∃ m',w'=w.drewN m'):=MN d n2
 have V3:Hid (∀ m:Nat,Calls Tryz.prog 88 #[.pointer (some ⟨R,0,none⟩),.string w3] (w.drewN m) fun e w'=>e=.returned (.int .i64 (Bf ns vals w3))∧ ∃ m',w'=(w.drewN m).drewN m'):=fun m=>MN (d.drew m) n3
 have hi2:=n1.at.2
 have S0:=c.s0
 have S1:=c.hs _ hi2
 have c0:=d.c0
 have f4:=c.f4
 obtain ⟨b,b4⟩:=c.b4
 have hE:w0.toList=[115,116,111,114,101]:=h0
 have Fh:(CW ns w1:Int)<(ns.length:Int):=by omega
 have EW:(Bf ns vals w2:Int)<16:=by omega
 have hgI:(Bf ns vals w2:Int)<(sz (CW ns w1):Int):=by omega
 have A0:=c.a0
 have A1:=c.ha _ hi2
 have A2:=c.hc _ _ hi2 hge
 have A3:=c.fc _ _ hi2 hge
 clear hw n1 n2 n3 d c h0
 go_enter Tryz.func89,Tryz.ntmps89
 go_wp2_with (first
  |(go_at_call_of 91 (Value.string w1);refine I1.out.mono ?_;rintro e w' ⟨rfl,hw'⟩;have hw1:=hw'.symm;subst hw1)
  |(go_at_call_of 88 (Value.string w2);refine V2.out.mono ?_;rintro e w' ⟨rfl,m1,hw'⟩;subst hw')
  |(go_at_call_of 88 (Value.string w3);refine (V3.out _).mono ?_;rintro e w' ⟨rfl,m2,hw'⟩;subst hw')
  |(go_at_call 85;refine (IG 2 _ _ (by omega) hx).mono ?_;rintro e w' ⟨rfl,hw'⟩;subst hw'))
 go_ret
 exact ⟨by push_cast;rfl,_,0,rfl⟩
end
end Go.Proofs.YtgddmpmcnjlcjaaGreatDoor
namespace Go.Proofs.YtgddmpmcnjlcjaaGreatDoor.Tm
open Lk (Wd wd RS isName lat cut bodyAt num?)
open Rf (Rs blk isDecl declare many wElse wEnd wIf wWhile wSecret wPublic wVar wArray)
set_option linter.unusedVariables false
def ord:List Rf.Dc→Prop
 |[]=>True
 |d::ds=>(d.kind=wVar→ ∀ e,e∈ds→Bc e=false)∧(Bc d=true∨d.kind=wVar∨d.kind=wArray)∧ord ds
theorem WD {d:Rf.Dc}: ∀ {ds:List Rf.Dc},ord ds→(Bc d=true∨d.kind=wVar∨d.kind=wArray)→(Bc d=true→ ∀ e,e∈ds→e.kind≠wVar)→ord (ds++[d])
 |[],_,hk,_=>⟨fun _ e he=>(by cases he),hk,trivial⟩
 |x::ds,h,hk,hv=>by
  refine ⟨fun hx e he=>?_,h.2.1,WD h.2.2 hk (fun hi e he=>hv hi e (List.mem_cons_of_mem _ he))⟩
  rcases List.mem_append.1 he with he|he
  ·exact h.1 hx e he
  ·have he:e=d:=by simpa using he
   subst he
   cases hi:Bc e with
   |false=>rfl
   |true=>exact absurd hx (hv hi x List.mem_cons_self)
theorem uP {ds:List Rf.Dc} {k:Wd} (h:many ds k=0): ∀ e,e∈ds→e.kind≠k:=by
 intro e he hk
 unfold many at h
 have h2:=List.length_eq_zero_iff.1 h
 have h3:e∈ds.filter fun d=>d.kind==k:=List.mem_filter.2 ⟨he,by simpa using hk⟩
 rw[h2] at h3
 cases h3
theorem jE:(wArray==wSecret||wArray==wPublic)=false∧(wVar==wSecret||wVar==wPublic)=false:=by decide
theorem p_ {ds ds1:List Rf.Dc} {AA:Bool} {w:List Wd} (hd:isDecl (wd w 0)=true) (h:ord ds) (h1:declare ds AA w=some ds1):ord ds1:=by
 unfold declare at h1
 by_cases hc:AA=false∧w.length=(if wd w 0=wArray then 3 else 2)∧isName (wd w 1)=true∧Rf.kindOf ds (wd w 1)=[]
 ·rw[if_pos hc] at h1
  by_cases hk:wd w 0=wArray
  ·rw[if_pos hk] at h1
   split at h1
   ·split at h1
    ·cases h1
     refine WD h (.inr (.inr hk)) (fun hi=>?_)
     have hi:(wd w 0==wSecret||wd w 0==wPublic)=true:=hi
     rw[hk,jE.1] at hi
     cases hi
    ·cases h1
   ·cases h1
  ·rw[if_neg hk] at h1
   by_cases hv:wd w 0=wVar
   ·rw[if_pos hv] at h1
    split at h1
    ·cases h1
     refine WD h (.inr (.inl hv)) (fun hi=>?_)
     have hi:(wd w 0==wSecret||wd w 0==wPublic)=true:=hi
     rw[hv,jE.2] at hi
     cases hi
    ·cases h1
   ·rw[if_neg hv] at h1
    by_cases hm:many ds wVar=0∧many ds wSecret+many ds wPublic<3
    ·rw[if_pos hm] at h1
     cases h1
     refine WD h (.inl ?_) (fun _=>uP hm.1)
     unfold isDecl at hd
     unfold Bc
     simp only[Bool.or_eq_true,beq_iff_eq] at hd ⊢
     rcases hd with ((hd|hd)|hd)|hd
     ·exact .inl hd
     ·exact .inr hd
     ·exact absurd hd hv
     ·exact absurd hd hk
    ·rw[if_neg hm] at h1;cases h1
 ·rw[if_neg hc] at h1;cases h1
theorem abK {L:List Wd} {f:Nat}: ∀ {depth:Nat} {s:Rs} {out BV:List Rf.Tr} {s2:Rs},blk L f depth s out=(true,BV,s2)→ord s.ds→ord s2.ds:=by
 induction f with
 |zero=>intro depth s out BV s2 h p;rw[(IL h (.inl rfl)).2.2];exact p
 |succ f ih=>
  intro depth s out BV s2 h p
  by_cases hl:s.at_+1<L.length
  ·cases OS h hl with
   |decl ds h1 h2 h=>exact ih h (p_ h1 p h2)
   |stop h1 h2 h3 h4 h5=>rw[h5];exact p
   |one b sb h1 h2 h3 hb h4 h5=>exact ih h5 (show ord sb.ds from ih hb p)
   |two b o sb so h1 h2 h3 hb h4 h5 h6 h7=>exact ih h7 (show ord so.ds from ih h5 (show ord sb.ds from ih hb p))
   |plain h1 h2 h3 h4 h=>exact ih h p
  ·rw[(IL h (.inr hl)).2.2];exact p
theorem jG: ∀ (ds:List Rf.Dc) (k:Nat) (ins:List Nat) (j:Nat),(∀ e,e∈ds→Bc e=false)→BZ ds k ins j=0
 |[],_,_,_,_=>rfl
 |d::ds,k,ins,j,h=>by
  unfold BZ
  rw[if_neg (by rw[h d List.mem_cons_self];simp)]
  by_cases hj:j=k
  ·rw[if_pos hj]
  ·rw[if_neg hj]
   exact jG ds (k+1) ins j (fun e he=>h e (List.mem_cons_of_mem _ he))
theorem gQ {ds:List Rf.Dc} (h: ∀ e,e∈ds→Bc e=false):(ds.filter Bc).length=0:=by
 rw[List.length_eq_zero_iff,List.filter_eq_nil_iff]
 intro e he
 rw[h e he];simp
theorem Zw (w:Wd): ∀ (ds:List Rf.Dc) (s a k i:Nat) (ins:List Nat) (k0:Nat),ord ds→ins.length=(ds.filter Bc).length→fd ds s a w=(1,k)→Rf.oneOf w (ds.map Rf.Dc.name)=some i→BZ ds k0 ins (k0+i)=ins.getD (k - s) 0
 |[],s,a,k,i,ins,k0,ho,hl,hf,hi=>by cases hi
 |d::ds,s,a,k,i,ins,k0,ho,hl,hf,hi=>by
  have hi':(if (d.name==w)=true then some 0 else (Rf.oneOf w (ds.map Rf.Dc.name)).map (· +1))=some i:=hi
  unfold fd at hf
  unfold BZ
  rw[List.filter_cons] at hl
  by_cases hn:d.name=w
  ·rw[if_pos (by simpa using hn)] at hi'
   cases hi'
   rw[if_pos hn] at hf
   by_cases hk:d.kind=wArray
   ·rw[if_pos hk] at hf;cases hf
   ·rw[if_neg hk] at hf
    cases hf
    rw[Nat.sub_self]
    by_cases hin:Bc d=true
    ·rw[if_pos hin,if_pos (Nat.add_zero k0)]
     cases ins <;> rfl
    ·rw[if_neg hin] at hl ⊢
     rw[if_pos (Nat.add_zero k0)]
     have hv:d.kind=wVar:=by
      rcases ho.2.1 with h|h|h
      ·exact absurd h hin
      ·exact h
      ·exact absurd h hk
     rw[gQ (ho.1 hv)] at hl
     rw[List.length_eq_zero_iff.1 hl];rfl
  ·rw[if_neg (by simpa using hn)] at hi'
   rw[if_neg hn] at hf
   cases hx:Rf.oneOf w (ds.map Rf.Dc.name) with
   |none=>rw[hx] at hi';cases hi'
   |some j=>
    rw[hx] at hi'
    have hij:j+1=i:=by simpa using hi'
    subst hij
    have hne: ¬k0+(j+1)=k0:=by omega
    have hsh:k0+(j+1)=k0+1+j:=by omega
    by_cases hk:d.kind=wArray
    ·rw[if_pos hk] at hf
     have hin: ¬Bc d=true:=by
      intro h
      unfold Bc at h
      rw[hk] at h
      exact absurd h (by decide)
     rw[if_neg hin] at hl ⊢
     rw[if_neg hne,hsh]
     exact Zw w ds s (a+1) k j ins (k0+1) ho.2.2 hl hf hx
    ·rw[if_neg hk] at hf
     have hge:s+1≤k:=by
      have:=(Qf ds (s+1) a w).1 (by rw[hf])
      rw[hf] at this
      exact this
     by_cases hin:Bc d=true
     ·rw[if_pos hin] at hl ⊢
      rw[if_neg hne,hsh]
      cases ins with
      |nil=>simp at hl
      |cons x l=>
       rw[List.tail_cons,show k - s=(k - (s+1))+1 by omega,List.getD_cons_succ]
       exact Zw w ds (s+1) a k j l (k0+1) ho.2.2 (by simpa using hl) hf hx
     ·rw[if_neg hin] at hl ⊢
      rw[if_neg hne,hsh]
      have hv:d.kind=wVar:=by
       rcases ho.2.1 with h|h|h
       ·exact absurd h hin
       ·exact h
       ·exact absurd h hk
      rw[jG ds (k0+1) ins _ (ho.1 hv)]
      rw[gQ (ho.1 hv)] at hl
      rw[List.length_eq_zero_iff.1 hl];rfl
theorem yX {t:Wd} {ds:List Rf.Dc} {b:List Rf.Tr} (h:(Lk.read t).2=0) (hr:Rf.read t=(some (ds,b),0)) (ins:List Nat) (hi:ins.length=(Lk.read t).1.Ah.length) (n:Nat):Mc.num (Fb t) (Mc.BZ ins) n=num ds (start ds b ins) n:=by
 obtain ⟨Qr,nr⟩:=gI h hr
 have ho:ord ds:=by
  obtain ⟨s,hb,rfl⟩:=Z4 hr
  exact abK hb trivial
 have hlen:ins.length=(ds.filter Bc).length:=by rw[hi,nr.sec,List.length_map]
 have nm:Nm ds (fd ds 0 0) (Lk.read t).1.cells:=by
  rw[nr.AR];exact adr ds nr.ss
 refine aar nm (Lk.read t).1.Ah (B:=(Lk.read t).1.body) (m:=Mc.BZ ins) (t:=start ds b ins) ⟨⟨?_,?_,rfl⟩,0,(Lk.read t).1.body.length,?_,?_⟩ n
 ·intro w k hw
  obtain ⟨i,e1,_,_⟩:=WM ds 0 0 w (by rw[hw];simp)
  show ins.getD k 0=BZ ds 0 ins (idx ds w)
  have:=Zw w ds 0 0 k i ins 0 ho hlen hw e1
  rw[Nat.zero_add] at this
  unfold idx
  rw[e1]
  exact this.symm
 ·intro w k j hw hj;rfl
 ·exact .inr (.inl ⟨rfl,Qr,rfl⟩)
 ·show 0=Lk.settle (Lk.read t).1.body 0
  unfold Lk.settle
  cases b with
  |nil=>
   have h0:=Qr.empty
   rw[List.length_eq_zero_iff.1 h0]
   rfl
  |cons x l=>
   rw[gH _ _ Qr.head.2]
   rfl
end Go.Proofs.YtgddmpmcnjlcjaaGreatDoor.Tm
