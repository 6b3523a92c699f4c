import Derived.Test.YtgddmpmcnjlcjaaGreatDoorB16
set_option maxRecDepth 100000
set_option maxHeartbeats 2000000
namespace Go.Proofs.YtgddmpmcnjlcjaaGreatDoor
open Go.RowKit
set_option linter.unusedVariables false
namespace Pr
def JS (s:Bool) (n:Nat) (b:Bool):Nat:=if b=s then n*16 else n
def rows (l:List Bool) (s:Bool):Nat:=l.foldl (JS s) 1
def Oy (a:List Nat×Nat×Nat) (b:Bool):List Nat×Nat×Nat:=if b=true then (a.1++[a.2.2%16],a.2.1,a.2.2/16) else (a.1++[a.2.1%16],a.2.1/16,a.2.2)
def inp (l:List Bool) (pub sec:Nat):List Nat:=(l.foldl Oy ([],pub,sec)).1
def Fs (f g:Nat→Nat):Nat→Nat
 |0=>0
 |n+1=>if Fs f g n<n then Fs f g n else if f n=g n then n+1 else n
theorem Sa (f g:Nat→Nat) (n:Nat):Fs f g n≤n:=by
 induction n with
 |zero=>exact Nat.le_refl _
 |succ n ih=>
  unfold Fs
  split
  ·omega
  ·split
   ·exact Nat.le_refl _
   ·omega
theorem Zi (f g:Nat→Nat) (n:Nat): ∀ i,i<Fs f g n→f i=g i:=by
 induction n with
 |zero=>intro i hi;cases hi
 |succ n ih=>
  intro i hi
  unfold Fs at hi
  split at hi
  ·exact ih i hi
  ·rename_i h
   have:=Sa f g n
   split at hi
   ·rename_i he
    by_cases hin:i=n
    ·rw[hin];exact he
    ·exact ih i (by omega)
   ·exact ih i (by omega)
theorem kQ (f g:Nat→Nat) (n:Nat):Fs f g n<n→f (Fs f g n)≠g (Fs f g n):=by
 induction n with
 |zero=>intro h;cases h
 |succ n ih=>
  intro h
  unfold Fs at h ⊢
  split
  ·rename_i h1;exact ih h1
  ·rename_i h1
   rw[if_neg h1] at h
   split
   ·rename_i he;rw[if_pos he] at h;omega
   ·rename_i he;exact he
theorem kR (f g:Nat→Nat) (n a:Nat) (h1:a≤n) (h2: ∀ i,i<a→f i=g i) (h3:a<n→f a≠g a):a=Fs f g n:=by
 have k1:=Sa f g n
 rcases Nat.lt_trichotomy a (Fs f g n) with h|h|h
 ·exact absurd (Zi f g n a h) (h3 (by omega))
 ·exact h
 ·exact absurd (h2 _ h) (kQ f g n (by omega))
theorem eQ {α β:Type} (f:β→α→β) (b:β) (l:List α) (k:Nat) (h:k<l.length):(l.take (k+1)).foldl f b=f ((l.take k).foldl f b) l[k]:=by
 rw[List.take_succ_eq_append_getElem h,List.foldl_append]
 rfl
theorem jZ (s:Bool) (l:List Bool) (a:Nat):l.foldl (JS s) a≤a*16 ^ l.length:=by
 induction l generalizing a with
 |nil=>simp
 |cons b l ih=>
  rw[List.foldl_cons,List.length_cons,Nat.pow_succ]
  refine Nat.le_trans (ih _) ?_
  rw[Nat.mul_comm (16 ^ l.length) 16, ←Nat.mul_assoc]
  refine Nat.mul_le_mul_right _ ?_
  unfold JS
  split
  ·exact Nat.le_refl _
  ·omega
theorem sL (s:Bool) (l:List Bool) (h3:l.length≤3) (k:Nat) (h:k<l.length):(l.take k).foldl (JS s) 1≤256:=by
 have h1:=jZ s (l.take k) 1
 have h2:(l.take k).length≤2:=by rw[List.length_take];omega
 have h3:16 ^ (l.take k).length≤16 ^ 2:=Nat.pow_le_pow_right (by omega) h2
 omega
theorem iD (s:Bool) (l:List Bool) (h3:l.length≤3):rows l s≤4096:=by
 have h1:=jZ s l 1
 have h3:16 ^ l.length≤16 ^ 3:=Nat.pow_le_pow_right (by omega) h3
 unfold rows
 omega
theorem wO (l:List Bool) (a:List Nat×Nat×Nat):(l.foldl Oy a).1.length=a.1.length+l.length:=by
 induction l generalizing a with
 |nil=>rfl
 |cons b l ih=>
  rw[List.foldl_cons,ih]
  unfold Oy
  split
  ·simp;omega
  ·simp;omega
theorem Ls (l:List Bool) (i j:Nat):(inp l i j).length=l.length:=by
 unfold inp
 rw[wO]
 simp
theorem zu (l:List Bool) (a:List Nat×Nat×Nat) (h: ∀ x,x∈a.1→x<16): ∀ x,x∈(l.foldl Oy a).1→x<16:=by
 induction l generalizing a with
 |nil=>exact h
 |cons b l ih=>
  rw[List.foldl_cons]
  refine ih _ ?_
  intro x hx
  unfold Oy at hx
  split at hx
  ·simp only[List.mem_append,List.mem_singleton] at hx
   rcases hx with hx|rfl
   ·exact h x hx
   ·exact Nat.mod_lt _ (by omega)
  ·simp only[List.mem_append,List.mem_singleton] at hx
   rcases hx with hx|rfl
   ·exact h x hx
   ·exact Nat.mod_lt _ (by omega)
theorem QY (l:List Bool) (i j:Nat): ∀ x,x∈inp l i j→x<16:=zu l _ (fun x h=>by cases h)
end Pr
theorem j_ {w:World} {base:Nat} {e:TypeId} {l:List Bool} {g cap:Nat} (h:w.ownsRow base e 1 (.slice (some ⟨g,0,none⟩) l.length cap) l.length (l.map Value.bool)) (i:Nat) (hi:i<l.length):w.cell? ⟨g,i,none⟩=some (.bool l[i]):=by
 rw[h.cellAt i (by omega)];simp[hi]
theorem iE {w:World} {base:Nat} {e:TypeId} {f:Nat→Nat} {n:Nat} {g cap:Nat} (h:w.ownsRow base e 1 (.slice (some ⟨g,0,none⟩) n cap) n (((List.range n).map f).map fun (n:Nat)=>.int .i64 n)) (i:Nat) (hi:i<n):w.cell? ⟨g,i,none⟩=some (.int .i64 (f i)):=by
 rw[h.cellAt i (by omega)];simp[hi]
section
variable (p:Pg) (ok:Ep p) (w:World) (vs vc vk:Value) (nv:Int) (hp:IV w p vs vc vk)
include ok hp
theorem iF (s:Bool):
  Calls Tryz.prog 46 #[.agg #[vs,.int .i64 nv,vc,vk],.bool s] w fun e w'=>e=.returned (.int .i64 (Pr.rows p.sec s))∧Below w.heap.size w w':=by
 have hs3:=ok.sec
 have HP:=hid hp
 obtain ⟨Bj,cs0,e0⟩:=AX hp.s
 obtain ⟨ac,cc,e1⟩:=AX hp.c
 obtain ⟨ak,ck,e2⟩:=AX hp.k
 clear hp
 subst e0 e1 e2
 go_enter Tryz.func46,Tryz.ntmps46
 go_wp2_with fail
 go_loopw [5,11] (fun n c wr=> ∃ k:Nat,k≤p.sec.length∧c=.int .i64 k∧n=.int .i64 ((p.sec.take k).foldl (Pr.JS s) 1:Nat)∧Below w.heap.size w wr) (fun _ c _=>p.sec.length - (intOf c).toNat)
 case atStart=>exact ⟨0,Nat.zero_le _,rfl,rfl,(Below.refl _ _).alloc (Nat.le_refl _) _⟩
 case round=>
  obtain ⟨k,hk,rfl,rfl,AB⟩:=hrel
  have HB:=hid AB
  by_cases hlt:k<p.sec.length
  ·obtain ⟨g,cap,hv,_,G5⟩:=HP.out.s.form (by omega)
   cases hv
   have hx:=(AB.cell (p:=⟨g,k,none⟩) G5).trans (j_ HP.out.s k hlt)
   have hr:=Pr.sL s p.sec hs3 k hlt
   have hf:=Pr.eQ (Pr.JS s) 1 p.sec k hlt
   clear AB
   generalize p.sec[k]=x at hx hf
   generalize (p.sec.take k).foldl (Pr.JS s) 1=nn at hr hf ⊢
   have hrI:(nn:Int)≤256:=by omega
   have HF:=hid hf
   clear hf
   cases x <;> cases s
   ·go_wp2_with fail
    go_roundw
    case rel=>exact ⟨k+1,by omega,by go_num,by rw[HF.out];simp[Pr.JS],HB.out⟩
    case measure=>simp[intOf];omega
   ·go_wp2_with fail
    go_roundw
    case rel=>exact ⟨k+1,by omega,by go_num,by rw[HF.out];simp[Pr.JS],HB.out⟩
    case measure=>simp[intOf];omega
   ·go_wp2_with fail
    go_roundw
    case rel=>exact ⟨k+1,by omega,by go_num,by rw[HF.out];simp[Pr.JS],HB.out⟩
    case measure=>simp[intOf];omega
   ·go_wp2_with fail
    go_roundw
    case rel=>exact ⟨k+1,by omega,by go_num,by rw[HF.out];simp[Pr.JS],HB.out⟩
    case measure=>simp[intOf];omega
  ·have BH:k=p.sec.length:=by omega
   have hE:(p.sec.take k).foldl (Pr.JS s) 1=Pr.rows p.sec s:=by rw[BH,List.take_length];rfl
   rw[hE]
   clear AB hE BH
   go_wp2_with fail
   go_ret
   exact ⟨rfl,HB.out⟩
theorem YD (i j:Nat) (hi:i≤4096) (hj:j≤4096):
  Calls Tryz.prog 47 #[.agg #[vs,.int .i64 nv,vc,vk],.int .i64 i,.int .i64 j] w fun e w'=> ∃ v,e=.returned v∧w'.ownsRow w.heap.size 3 1 v p.sec.length ((Pr.inp p.sec i j).map fun (n:Nat)=>.int .i64 n)∧Below w.heap.size w w':=by
 obtain ⟨t0,ht0,hz0,hz1,hz2⟩:=info_parts Tryz.Ds
 have hs3:=ok.sec
 have HP:=hid hp
 obtain ⟨Bj,cs0,e0⟩:=AX hp.s
 obtain ⟨ac,cc,e1⟩:=AX hp.c
 obtain ⟨ak,ck,e2⟩:=AX hp.k
 clear hp
 subst e0 e1 e2
 go_enter Tryz.func47,Tryz.ntmps47
 go_wp2_with fail
 go_loopw [1,2,7,14] (fun a b v c wr=> ∃ (k x y:Nat) (ins:List Nat),k≤p.sec.length∧x≤4096∧y≤4096∧c=.int .i64 k∧a=.int .i64 x∧b=.int .i64 y∧(p.sec.take k).foldl Pr.Oy ([],i,j)=(ins,x,y)∧ins.length=k∧wr.ownsRow w.heap.size 3 1 v k (ins.map fun (n:Nat)=>.int .i64 n)∧Below w.heap.size w wr) (fun _ _ _ c _=>p.sec.length - (intOf c).toNat)
 case atStart=>exact ⟨0,i,j,[],Nat.zero_le _,hi,hj,rfl,rfl,rfl,rfl,rfl,by have h:=World.ownsRow_made (base:=w.heap.size) (e:=3) (size:=1) (w.alloc (.cells #[.slice Bj p.sec.length cs0,.int .i64 nv,.slice ac p.cells.length cc,.slice ak p.code.length ck] 45)) #[] 0 (by simp) (by unfold maxLen;omega) rfl;rw[World.size_alloc] at h;exact h,((Below.refl _ _).alloc (Nat.le_refl _) _).alloc (by simp) _⟩
 case round=>
  obtain ⟨k,x,y,ins,hk,hx4,hy4,rfl,rfl,rfl,Qe,hil,hown,AB⟩:=hrel
  have hz:=AB.size
  have HB:=hid AB
  have HO:=hid hown
  have HF:=hid Qe
  have EW:(x:Int)≤4096:=by omega
  have I7:(y:Int)≤4096:=by omega
  by_cases hlt:k<p.sec.length
  ·obtain ⟨g,cap,hv,_,G5⟩:=HP.out.s.form (by omega)
   cases hv
   have hx:=(AB.cell (p:=⟨g,k,none⟩) G5).trans (j_ HP.out.s k hlt)
   have hf:=Pr.eQ Pr.Oy ([],i,j) p.sec k hlt
   rw[Qe] at hf
   clear AB hown Qe
   generalize p.sec[k]=q at hx hf
   have AE:=hid hf
   clear hf
   cases q
   ·go_wp2_with (first|(at_builtin;refine wpList_append_lies _ rfl _ _ 24 rfl w.heap.size 3 t0 _ 1 8 Tryz.underlying24 ht0 hz0 hz1 hz2 rfl (by omega) _ k (ins.map fun (n:Nat)=>.int .i64 n) rfl (HO.out.alloc _) ⟨wr.heap.size,0,none⟩ 1 1 [.int .i64 ((x%16:Nat):Int)] rfl rfl (cell_one_new _ _ _) (by simp[Value.oneCell']) (by omega) (by unfold maxLen;omega) (by omega) (by simp;omega) (wr.heap.size+1) (by simp) ?_;intro g2 cap2 w2 hown2 hgrow hat Qi))
    go_roundw
    case rel=>
     exact ⟨k+1,x/16,y,ins++[x%16],by omega,by omega,hy4,by go_num,by go_num,rfl,by rw[AE.out];rfl,by simp[hil],by rw[List.map_append];exact hown2,Below.grown (HB.out.alloc hz _) hgrow (by simp;omega) (fun q hq=>(HO.out.lt q hq).1)⟩
    case measure=>simp[intOf];omega
   ·go_wp2_with (first|(at_builtin;refine wpList_append_lies _ rfl _ _ 24 rfl w.heap.size 3 t0 _ 1 8 Tryz.underlying24 ht0 hz0 hz1 hz2 rfl (by omega) _ k (ins.map fun (n:Nat)=>.int .i64 n) rfl (HO.out.alloc _) ⟨wr.heap.size,0,none⟩ 1 1 [.int .i64 ((y%16:Nat):Int)] rfl rfl (cell_one_new _ _ _) (by simp[Value.oneCell']) (by omega) (by unfold maxLen;omega) (by omega) (by simp;omega) (wr.heap.size+1) (by simp) ?_;intro g2 cap2 w2 hown2 hgrow hat Qi))
    go_roundw
    case rel=>
     exact ⟨k+1,x,y/16,ins++[y%16],by omega,hx4,by omega,by go_num,rfl,by go_num,by rw[AE.out];rfl,by simp[hil],by rw[List.map_append];exact hown2,Below.grown (HB.out.alloc hz _) hgrow (by simp;omega) (fun q hq=>(HO.out.lt q hq).1)⟩
    case measure=>simp[intOf];omega
  ·have BH:k=p.sec.length:=by omega
   have hE:ins=Pr.inp p.sec i j:=by
    rw[BH,List.take_length] at Qe
    unfold Pr.inp
    rw[Qe]
   clear AB hown Qe
   go_wp2_with fail
   go_ret
   refine ⟨_,rfl,?_,HB.out⟩
   rw[←hE, ←BH]
   exact HO.out
end
theorem fh (f g:Nat→Nat) (n m:Nat) (hm:m≤n) (hn:n≤10) (w:World) (va vb:Value) (ha:w.ownsRow 0 3 1 va n (((List.range n).map f).map fun (n:Nat)=>.int .i64 n)) (hb:w.ownsRow 0 3 1 vb m (((List.range m).map g).map fun (n:Nat)=>.int .i64 n)):
  Calls Tryz.prog 49 #[va,vb] w fun e w'=>e=.returned (.int .i64 (Pr.Fs f g m))∧Below w.heap.size w w':=by
 obtain ⟨aa,ca,e0⟩:=AX ha
 obtain ⟨ab,cb,e1⟩:=AX hb
 have HA:=hid ha
 have HB:=hid hb
 clear ha hb
 subst e0 e1
 go_enter Tryz.func49,Tryz.ntmps49
 go_wp2_with fail
 go_loopw [5] (fun c wr=> ∃ k:Nat,k≤m∧c=.int .i64 k∧(∀ i,i<k→f i=g i)∧Below w.heap.size w wr) (fun c _=>m - (intOf c).toNat)
 case atStart=>exact ⟨0,Nat.zero_le _,rfl,fun i h=>(by cases h),Below.refl _ _⟩
 case round=>
  obtain ⟨k,hk,rfl,heq,AB⟩:=hrel
  have HE:=hid heq
  have AV:=hid AB
  have hz:=AB.size
  clear heq
  by_cases hlt:k<m
  ·obtain ⟨g1,ale,hv1,_,adb⟩:=HA.out.form (by omega)
   cases hv1
   obtain ⟨g2,cap2,hv2,_,ade⟩:=HB.out.form (by omega)
   cases hv2
   have hx:=(AB.cell (p:=⟨g1,k,none⟩) adb).trans (iE HA.out k (by omega))
   have hy:=(AB.cell (p:=⟨g2,k,none⟩) ade).trans (iE HB.out k hlt)
   clear AB
   have hkn:k<n:=by omega
   obtain ⟨x,hxv⟩: ∃ x,f k=x:=⟨_,rfl⟩
   obtain ⟨y,hyv⟩: ∃ y,g k=y:=⟨_,rfl⟩
   rw[hxv] at hx
   rw[hyv] at hy
   have XW:=hid (And.intro hxv hyv)
   clear hxv hyv
   by_cases hq:x=y
   ·subst hq
    go_wp2_with fail
    go_quiet (fail)
    go_wp2_with fail
    go_roundw
    case rel=>exact ⟨k+1,by omega,by go_num,fun i hi=>by
     by_cases he:i=k
     ·rw[he,XW.out.1,XW.out.2]
     ·exact HE.out i (by omega),below_drewN AV.out _⟩
    case measure=>simp[intOf];omega
   ·have Fg:((x:Int)==(y:Int))=false:=by simp;omega
    have ha:=Pr.kR f g m k (by omega) HE.out (fun _=>by rw[XW.out.1,XW.out.2];exact hq)
    have Me:=hid ha
    clear ha
    go_wp2_with fail
    go_quiet (fail)
    go_wp2_with fail
    go_ret
    exact ⟨congrArg (fun z:Nat=>Ending.returned (.int .i64 (z:Int))) Me.out,below_drewN AV.out _⟩
  ·have BH:k=m:=by omega
   have ha:=Pr.kR f g m k (by omega) HE.out (fun h=>absurd h hlt)
   have Me:=hid ha
   clear ha
   subst BH
   by_cases hkn:k<n
   ·go_wp2_with fail
    go_quiet (fail)
    go_wp2_with fail
    go_ret
    exact ⟨congrArg (fun z:Nat=>Ending.returned (.int .i64 (z:Int))) Me.out,below_drewN AV.out _⟩
   ·have:n=k:=by omega
    subst this
    go_wp2_with fail
    go_quiet (fail)
    go_wp2_with fail
    go_ret
    exact ⟨congrArg (fun z:Nat=>Ending.returned (.int .i64 (z:Int))) Me.out,below_drewN AV.out _⟩
end Go.Proofs.YtgddmpmcnjlcjaaGreatDoor
