import Derived.Test.YtgddmpmcnjlcjaaGreatDoorProg
import Derived.Test.YtgddmpmcnjlcjaaGreatDoorB01
import Derived.Deep.RegionHeld3
set_option maxHeartbeats 400000
namespace Go.Proofs.YtgddmpmcnjlcjaaGreatDoor
open Go.RowKit
theorem grownBy_setCell (w:World) (a:Addr) (v:Value):w.grownBy (w.setCell a v) (some a.block):=
 ⟨rfl,rfl,rfl,by simp,fun k _ hk=>Below.heap_setCell w a v k (fun h=>hk (by rw[h]))⟩
theorem BC {w:World} {base:Nat} {e:TypeId} {size:Nat} {v:Value} {n:Nat} {xs:List Value} (h:w.ownsRow base e size v n xs) {b i:Nat} (hb:v.ownBlock≠some b) (u:Value):(w.setCell ⟨b,i,none⟩ u).ownsRow base e size v n xs:=
 h.kept (grownBy_setCell w ⟨b,i,none⟩ u) (.inr hb)
theorem Ad {w w':World} {b t n:Nat} {f:Nat→Value} {row:Option Nat} (h:w.rowIs b t n f) (hg:w.grownBy w' row) (hne:row≠some b):w'.rowIs b t n f:=
 h.of_block (hg.block b h.lt (fun e=>hne e.symm))
theorem CL {w w':World} {base:Nat} {e:TypeId} {size:Nat} {v:Value} {n:Nat} {xs:List Value} (h:w.ownsRow base e size v n xs) (hb: ∀ k,k<w.heap.size→w'.heap[k]? =w.heap[k]?):w'.ownsRow base e size v n xs:=by
 refine ⟨h.1,?_⟩
 rcases h.2 with hn|⟨g,cap,cur,rfl,hb',hgg,rest⟩
 ·exact .inl hn
 ·exact .inr ⟨g,cap,cur,rfl,hb',by rw[hb g (Array.getElem?_eq_some_iff.1 hgg).1];exact hgg,rest⟩
theorem cellAt {w:World} {B:Nat} {cs:Array Value} {t:TypeId} {fr:Nat×Nat} (hb:w.heap[B]? =some (.cells cs t fr)) (j:Nat) (u:Value) (hu:cs[j]? =some u):w.cell? ⟨B,j,none⟩=some u:=by
 rw[cell_of_row w B j cs t fr hb];exact hu
def Ac (r:Lk.RS) (vs vc vk vb:Value) (i:Nat):Value:=
 if i=0 then vs else if i=1 then .int .i64 r.vars else if i=2 then vc else if i=3 then vk
 else if i<56 then (if i%2=0 then .int .i64 (r.letters ((i - 4)/2)).1 else .int .i64 (r.letters ((i - 4)/2)).2)
 else if i=56 then vb else if i=57 then .int .i64 r.stmts
 else if i<66 then (if i%2=0 then .int .i64 (r.opn ((i - 58)/2)).1 else .int .i64 (r.opn ((i - 58)/2)).2)
 else .int .i64 r.depth
def AZ (s:Lk.St):List Value:=
 [.int .i64 s.kind,.int .i64 s.op,.int .i64 s.slot,.int .i64 s.arr,.bool s.a.named,.int .i64 s.a.val,.bool s.b.named,.int .i64 s.b.val,.int .i64 s.next,.int .i64 s.els]
def flat (l:List Lk.St):List Value:=l.flatMap AZ
structure CB (w:World) (base b:Nat) (f:Nat→Value) (sec:List Bool) (AR:List Nat) (A_:List Lk.St) (vs vc vb:Value):Prop where
 row:w.rowIs b 93 67 f
 ge:base≤b
 sec:w.ownsRow base 4 1 vs sec.length (sec.map Value.bool)
 AR:w.ownsRow base 3 1 vc AR.length (AR.map fun (n:Nat)=>.int .i64 n)
 A_:w.ownsRow base 147 10 vb A_.length (flat A_)
 ns:vs.ownBlock≠some b
 nc:vc.ownBlock≠some b
 nb:vb.ownBlock≠some b
 sc:vs.ownBlock=none∨vs.ownBlock≠vc.ownBlock
 sb:vs.ownBlock=none∨vs.ownBlock≠vb.ownBlock
 cb:vc.ownBlock=none∨vc.ownBlock≠vb.ownBlock
abbrev BF (w:World) (base b:Nat) (r:Lk.RS) (vs vc vb:Value):Prop:=
 CB w base b (Ac r vs vc (.slice none 0 0) vb) r.Ah r.cells r.body vs vc vb
namespace CB
variable {w:World} {base b:Nat} {f:Nat→Value} {sec:List Bool} {AR:List Nat} {A_:List Lk.St} {vs vc vb:Value}
theorem put (h:CB w base b f sec AR A_ vs vc vb) (i:Nat) (x:Value):CB (w.setCell ⟨b,i,none⟩ x) base b (fun j=>if j=i then x else f j) sec AR A_ vs vc vb:=
 ⟨h.row.set i x,h.ge,BC h.sec h.ns x,BC h.AR h.nc x,BC h.A_ h.nb x,h.ns,h.nc,h.nb,h.sc,h.sb,h.cb⟩
theorem congr {g:Nat→Value} (h:CB w base b f sec AR A_ vs vc vb) (e: ∀ i,i<67→f i=g i):CB w base b g sec AR A_ vs vc vb:=
 ⟨h.row.congr e,h.ge,h.sec,h.AR,h.A_,h.ns,h.nc,h.nb,h.sc,h.sb,h.cb⟩
theorem later {w':World} (h:CB w base b f sec AR A_ vs vc vb) (hb: ∀ k,k<w.heap.size→w'.heap[k]? =w.heap[k]?):CB w' base b f sec AR A_ vs vc vb:=
 ⟨h.row.of_block (hb b h.row.lt),h.ge,CL h.sec hb,CL h.AR hb,CL h.A_ hb,h.ns,h.nc,h.nb,h.sc,h.sb,h.cb⟩
theorem below {w':World} (h:CB w base b f sec AR A_ vs vc vb) (hb:Below w.heap.size w w'):CB w' base b f sec AR A_ vs vc vb:=h.later hb.block
theorem alloc (h:CB w base b f sec AR A_ vs vc vb) (o:Obj):CB (w.alloc o) base b f sec AR A_ vs vc vb:=h.later fun k hk=>Below.heap_alloc w o k hk
theorem drewN (h:CB w base b f sec AR A_ vs vc vb) (n:Nat):CB (w.drewN n) base b f sec AR A_ vs vc vb:=h.later fun _ _=>rfl
theorem drew (h:CB w base b f sec AR A_ vs vc vb):CB w.drew base b f sec AR A_ vs vc vb:=h.later fun _ _=>rfl
theorem lt (h:CB w base b f sec AR A_ vs vc vb):b<w.heap.size:=h.row.lt
theorem AJ (h:CB w base b f sec AR A_ vs vc vb):base≤w.heap.size:=Nat.le_of_lt (Nat.lt_of_le_of_lt h.ge h.lt)
theorem gW {w':World} {bod':List Lk.St} {g cap:Nat} {n:Nat} (h:CB w base b f sec AR A_ vs vc vb) (hg:w.grownBy w' vb.ownBlock)
  (hown:w'.ownsRow base 147 10 (.slice (some ⟨g,0,none⟩) n cap) bod'.length (flat bod')) (hat:vb.ownBlock=some g∨g=w.heap.size):
  CB w' base b f sec AR bod' vs vc (.slice (some ⟨g,0,none⟩) n cap):=by
 have hs:vs.ownBlock=none∨vs.ownBlock≠some g:=by
  rcases hat with e|e
  ·rw[←e];exact h.sb
  ·right;intro hv;have:=(h.sec.lt g hv).2;omega
 have hc:vc.ownBlock=none∨vc.ownBlock≠some g:=by
  rcases hat with e|e
  ·rw[←e];exact h.cb
  ·right;intro hv;have:=(h.AR.lt g hv).2;omega
 have hb:g≠b:=by
  rcases hat with e|e
  ·intro he;subst he;exact h.nb e
  ·have:=h.lt;omega
 exact ⟨Ad h.row hg h.nb,h.ge,h.sec.kept hg h.sb,h.AR.kept hg h.cb,hown,h.ns,h.nc,by simpa[Value.ownBlock] using hb,h.sc,by simpa[Value.ownBlock] using hs,by simpa[Value.ownBlock] using hc⟩
theorem yr {w':World} {sec':List Bool} {g cap:Nat} {n:Nat} (h:CB w base b f sec AR A_ vs vc vb) (hg:w.grownBy w' vs.ownBlock)
  (hown:w'.ownsRow base 4 1 (.slice (some ⟨g,0,none⟩) n cap) sec'.length (sec'.map Value.bool)) (hat:vs.ownBlock=some g∨g=w.heap.size):
  CB w' base b f sec' AR A_ (.slice (some ⟨g,0,none⟩) n cap) vc vb:=by
 have AY:vb.ownBlock=none∨vb.ownBlock≠some g:=by
  rcases hat with e|e
  ·right;intro hv;rcases h.sb with k|k
   ·rw[e] at k;cases k
   ·exact k (e.trans hv.symm)
  ·right;intro hv;have:=(h.A_.lt g hv).2;omega
 have hsc:vc.ownBlock=none∨vc.ownBlock≠some g:=by
  rcases hat with e|e
  ·right;intro hv;rcases h.sc with k|k
   ·rw[e] at k;cases k
   ·exact k (e.trans hv.symm)
  ·right;intro hv;have:=(h.AR.lt g hv).2;omega
 have hb:g≠b:=by
  rcases hat with e|e
  ·intro he;subst he;exact h.ns e
  ·have:=h.lt;omega
 have k1:vb.ownBlock=none∨vb.ownBlock≠vs.ownBlock:=by
  rcases h.sb with k|k
  ·rcases hv:vb.ownBlock with _|x
   ·exact .inl rfl
   ·right;rw[k];simp
  ·exact .inr (Ne.symm k)
 have k2:vc.ownBlock=none∨vc.ownBlock≠vs.ownBlock:=by
  rcases h.sc with k|k
  ·rcases hv:vc.ownBlock with _|x
   ·exact .inl rfl
   ·right;rw[k];simp
  ·exact .inr (Ne.symm k)
 refine ⟨Ad h.row hg h.ns,h.ge,hown,h.AR.kept hg k2,h.A_.kept hg k1,by simpa[Value.ownBlock] using hb,h.nc,h.nb,?_,?_,h.cb⟩
 ·right
  intro (hv:some g=vc.ownBlock)
  rcases hsc with k|k
  ·rw[k] at hv;cases hv
  ·exact k hv.symm
 ·right
  intro (hv:some g=vb.ownBlock)
  rcases AY with k|k
  ·rw[k] at hv;cases hv
  ·exact k hv.symm
theorem yt {w':World} {cel':List Nat} {g cap:Nat} {n:Nat} (h:CB w base b f sec AR A_ vs vc vb) (hg:w.grownBy w' vc.ownBlock)
  (hown:w'.ownsRow base 3 1 (.slice (some ⟨g,0,none⟩) n cap) cel'.length (cel'.map fun (n:Nat)=>.int .i64 n)) (hat:vc.ownBlock=some g∨g=w.heap.size):
  CB w' base b f sec cel' A_ vs (.slice (some ⟨g,0,none⟩) n cap) vb:=by
 have AY:vb.ownBlock=none∨vb.ownBlock≠some g:=by
  rcases hat with e|e
  ·right;intro hv;rcases h.cb with k|k
   ·rw[e] at k;cases k
   ·exact k (e.trans hv.symm)
  ·right;intro hv;have:=(h.A_.lt g hv).2;omega
 have hsc:vs.ownBlock=none∨vs.ownBlock≠some g:=by
  rcases hat with e|e
  ·rw[←e];exact h.sc
  ·right;intro hv;have:=(h.sec.lt g hv).2;omega
 have hb:g≠b:=by
  rcases hat with e|e
  ·intro he;subst he;exact h.nc e
  ·have:=h.lt;omega
 have k1:vb.ownBlock=none∨vb.ownBlock≠vc.ownBlock:=by
  rcases h.cb with k|k
  ·rcases hv:vb.ownBlock with _|x
   ·exact .inl rfl
   ·right;rw[k];simp
  ·exact .inr (Ne.symm k)
 refine ⟨Ad h.row hg h.nc,h.ge,h.sec.kept hg h.sc,hown,h.A_.kept hg k1,h.ns,by simpa[Value.ownBlock] using hb,h.nb,by simpa[Value.ownBlock] using hsc,h.sb,?_⟩
 right
 intro (hv:some g=vb.ownBlock)
 rcases AY with k|k
 ·rw[k] at hv;cases hv
 ·exact k hv.symm
end CB
theorem OI (r:Lk.RS) (vs vc vk vb:Value) (k:Nat) (h:k<26):Ac r vs vc vk vb (4+k*2)=.int .i64 (r.letters k).1∧Ac r vs vc vk vb (4+k*2+1)=.int .i64 (r.letters k).2:=by
 unfold Ac
 constructor
 ·rw[if_neg (by omega),if_neg (by omega),if_neg (by omega),if_neg (by omega),if_pos (by omega),if_pos (by omega)]
  rw[show (4+k*2 - 4)/2=k by omega]
 ·rw[if_neg (by omega),if_neg (by omega),if_neg (by omega),if_neg (by omega),if_pos (by omega),if_neg (by omega)]
  rw[show (4+k*2+1 - 4)/2=k by omega]
theorem GP (r:Lk.RS) (vs vc vk vb:Value) (k:Nat) (h:k<4):Ac r vs vc vk vb (58+k*2)=.int .i64 (r.opn k).1∧Ac r vs vc vk vb (58+k*2+1)=.int .i64 (r.opn k).2:=by
 unfold Ac
 constructor
 ·rw[if_neg (by omega),if_neg (by omega),if_neg (by omega),if_neg (by omega),if_neg (by omega),if_neg (by omega),if_neg (by omega),if_pos (by omega),if_pos (by omega)]
  rw[show (58+k*2 - 58)/2=k by omega]
 ·rw[if_neg (by omega),if_neg (by omega),if_neg (by omega),if_neg (by omega),if_neg (by omega),if_neg (by omega),if_neg (by omega),if_pos (by omega),if_neg (by omega)]
  rw[show (58+k*2+1 - 58)/2=k by omega]
set_option linter.unusedVariables false
theorem gX (r:Lk.RS) (vs vc vk vb:Value) (b:Nat) (s:ByteArray) (w:World) (hrow:w.rowIs b 93 67 (Ac r vs vc vk vb)):
  Calls Tryz.prog 101 #[.pointer (some ⟨b,0,none⟩),.string s] w fun e w'=>e=.returned (.agg #[.int .i64 (Lk.find r s.toList).1,.int .i64 (Lk.find r s.toList).2])∧Below w.heap.size w w':=by
 by_cases hn:Lk.isName s.toList=true
 ·have hsz:s.size=1:=by
   by_cases h:s.size=1
   ·exact h
   ·rw[Io h] at hn;cases hn
  have hn':=hn
  rw[N1 hsz] at hn'
  simp at hn'
  have hb1:(97:Int)≤(s[0].toNat:Int):=by omega
  have hb2:(s[0].toNat:Int)≤122:=by omega
  have hlt:=hrow.lt
  have hsz1:(s.size:Int)=1:=by omega
  have hk:s[0].toNat - 97<26:=by omega
  have hc0:=hrow.cell (i:=4+(s[0].toNat - 97)*2) (by omega)
  have hc1:=hrow.cell (i:=4+(s[0].toNat - 97)*2+1) (by omega)
  rw[(OI r vs vc vk vb _ hk).1] at hc0
  rw[(OI r vs vc vk vb _ hk).2] at hc1
  have CI:Lk.find r s.toList=r.letters (s[0].toNat - 97):=by
   unfold Lk.find Lk.lat;rw[if_pos hn,DK hsz];rfl
  rw[CI]
  generalize r.letters (s[0].toNat - 97)=q at hc0 hc1
  clear CI hrow
  go_enter Tryz.func101,Tryz.ntmps101
  go_wp2_with (go_at_call 112;refine (Rq _ _).mono ?_;rintro e w' ⟨rfl,rfl⟩)
  go_region
  all_goals go_wp2
  all_goals exact bodyPost_ret (v:=.agg #[.int .i64 q.1,.int .i64 q.2]) (by simp[results,Tryz.results101,go_sem]) rfl ⟨rfl,((Below.refl _ _).alloc (Nat.le_refl _) _).drew⟩
 ·have hf:Lk.find r s.toList=(0,0):=by unfold Lk.find;rw[if_neg hn]
  rw[hf]
  go_enter Tryz.func101,Tryz.ntmps101
  go_wp2_with (go_at_call 112;refine (Rq _ _).mono ?_;rintro e w' ⟨rfl,rfl⟩)
  exact bodyPost_ret (v:=.agg #[.int .i64 0,.int .i64 0]) (by simp[results,Tryz.results101,go_sem]) rfl ⟨rfl,(Below.refl _ _).alloc (Nat.le_refl _) _⟩
theorem VJ {o:Option Nat} {n:Nat} (h:o=some n):Lk.Cm o=n:=by rw[h];rfl
theorem YI {o:Option Nat} (h:o=none):Lk.Cm o= -1:=by rw[h];rfl
theorem Rp (s:ByteArray) (w:World) {n:Nat} (h:Lk.num? s.toList=some n):
  Calls Tryz.prog 100 #[.string s] w fun e w'=>e=.returned (.int .i64 n)∧w'=w:=by
 rw[←VJ h];exact eC s w
theorem Y1 (s:ByteArray) (w:World) (h:Lk.num? s.toList=none):
  Calls Tryz.prog 100 #[.string s] w fun e w'=>e=.returned (.int .i64 (-1))∧w'=w:=by
 rw[←YI h];exact eC s w
theorem ky {W w1:World} (hb:Below W.heap.size W w1):(∀ b o,b<W.heap.size→w1.cell? ⟨b,o,none⟩=W.cell? ⟨b,o,none⟩)∧(∀ b o,b<W.heap.size→w1.frozen? ⟨b,o,none⟩=W.frozen? ⟨b,o,none⟩):=
 ⟨fun b o h=>hb.cell (p:=⟨b,o,none⟩) h,fun b o h=>hb.frozen (p:=⟨b,o,none⟩) h⟩
theorem uw (b:Nat) (s:ByteArray) (w:World) (n:Nat) (h:Lk.num? s.toList=some n):
  Calls Tryz.prog 102 #[.pointer (some ⟨b,0,none⟩),.string s] w fun e w'=>e=.returned (.tuple #[.agg #[.bool false,.int .i64 n],.bool true])∧Below w.heap.size w w':=by
 have hn:(0:Int)≤(n:Int):=by omega
 go_enter Tryz.func102,Tryz.ntmps102
 go_wp2_with (go_at_call 100;refine (Rp _ _ h).mono ?_;rintro e w' ⟨rfl,rfl⟩)
 exact bodyPost_ret (v:=.tuple #[.agg #[.bool false,.int .i64 n],.bool true]) (by simp[results,Tryz.results102,go_sem]) rfl ⟨rfl,(Below.refl _ _).alloc (Nat.le_refl _) _⟩
theorem fR (r:Lk.RS) (vs vc vk vb:Value) (b:Nat) (s:ByteArray) (w:World) (hrow:w.rowIs b 93 67 (Ac r vs vc vk vb)) (h:Lk.num? s.toList=none) (p q:Nat) (hf:Lk.find r s.toList=(p,q)):
  Calls Tryz.prog 102 #[.pointer (some ⟨b,0,none⟩),.string s] w fun e w'=>e=.returned (if p=1 then .tuple #[.agg #[.bool true,.int .i64 q],.bool true] else .tuple #[.agg #[.bool false,.int .i64 0],.bool false])∧Below w.heap.size w w':=by
 have hc:=fun W (hW:World.rowIs W b 93 67 (Ac r vs vc vk vb))=>gX r vs vc vk vb b s W hW
 rw[hf] at hc
 have hlt:=hrow.lt
 by_cases hp:p=1
 ·subst hp
  rw[if_pos rfl]
  go_enter Tryz.func102,Tryz.ntmps102
  go_wp2_with (first|(go_at_call 100;refine (Y1 _ _ h).mono ?_;rintro e w' ⟨rfl,rfl⟩)|(go_at_call 101;refine (hc _ ?_).mono ?_;exact (hrow.alloc _);rintro e w' ⟨rfl,hb⟩;obtain ⟨hcc,hff⟩:=ky hb;have hz:w.heap.size<w'.heap.size:=by have:=hb.size;simp at this;omega))
  refine bodyPost_ret (v:=.tuple #[.agg #[.bool true,.int .i64 q],.bool true]) (by simp[results,Tryz.results102,go_sem,hcc,hz]) rfl ⟨rfl,?_⟩
  exact (((((Below.refl _ _).alloc (Nat.le_refl _) _).trans (hb.mono (by simp))).setCell (by simp) _).setCell (by simp) _).alloc (by simp;omega) _
 ·rw[if_neg hp]
  have Qv:((p:Int)==1)=false:=by simp;omega
  go_enter Tryz.func102,Tryz.ntmps102
  go_wp2_with (first|(go_at_call 100;refine (Y1 _ _ h).mono ?_;rintro e w' ⟨rfl,rfl⟩)|(go_at_call 101;refine (hc _ ?_).mono ?_;exact (hrow.alloc _);rintro e w' ⟨rfl,hb⟩;obtain ⟨hcc,hff⟩:=ky hb;have hz:w.heap.size<w'.heap.size:=by have:=hb.size;simp at this;omega))
  refine bodyPost_ret (v:=.tuple #[.agg #[.bool false,.int .i64 0],.bool false]) (by simp[results,Tryz.results102,go_sem,hcc,hz]) rfl ⟨rfl,?_⟩
  exact (((((Below.refl _ _).alloc (Nat.le_refl _) _).trans (hb.mono (by simp))).setCell (by simp) _).setCell (by simp) _).alloc (by simp;omega) _
theorem Em (r:Lk.RS) (vs vc vk vb:Value) (b:Nat) (s:ByteArray) (w:World) (hrow:w.rowIs b 93 67 (Ac r vs vc vk vb)) (x:Lk.At) (h:Lk.atom? r s.toList=some x):
  Calls Tryz.prog 102 #[.pointer (some ⟨b,0,none⟩),.string s] w fun e w'=>e=.returned (.tuple #[.agg #[.bool x.named,.int .i64 x.val],.bool true])∧Below w.heap.size w w':=by
 unfold Lk.atom? at h
 cases hn:Lk.num? s.toList with
 |some n=>rw[hn] at h;simp at h;subst h;exact uw b s w n hn
 |none=>
  rw[hn] at h
  have k:=fR r vs vc vk vb b s w hrow hn (Lk.find r s.toList).1 (Lk.find r s.toList).2 rfl
  by_cases hp:(Lk.find r s.toList).1=1
  ·simp[hp] at h;subst h;rw[if_pos hp] at k;exact k
  ·simp[hp] at h
theorem Ll (r:Lk.RS) (vs vc vk vb:Value) (b:Nat) (s:ByteArray) (w:World) (hrow:w.rowIs b 93 67 (Ac r vs vc vk vb)) (h:Lk.atom? r s.toList=none):
  Calls Tryz.prog 102 #[.pointer (some ⟨b,0,none⟩),.string s] w fun e w'=>e=.returned (.tuple #[.agg #[.bool false,.int .i64 0],.bool false])∧Below w.heap.size w w':=by
 unfold Lk.atom? at h
 cases hn:Lk.num? s.toList with
 |some n=>rw[hn] at h;simp at h
 |none=>
  rw[hn] at h
  have k:=fR r vs vc vk vb b s w hrow hn (Lk.find r s.toList).1 (Lk.find r s.toList).2 rfl
  by_cases hp:(Lk.find r s.toList).1=1
  ·simp[hp] at h
  ·rw[if_neg hp] at k;exact k
theorem Tryz.OT:(Tryz.prog.info? 147).map (fun i=>(i.zero,i.size,i.bytes))=some (some (.agg #[.int .i64 0,.int .i64 0,.int .i64 0,.int .i64 0,.bool false,.int .i64 0,.bool false,.int .i64 0,.int .i64 0,.int .i64 0]),10,80):=by kernel_rfl
theorem rK (r:Lk.RS) (vs vc vk vb:Value) (k p q:Nat) (h:k<26) (j:Nat) (hj:j<67):
  (if j=4+k*2+1 then Value.int .i64 q else if j=4+k*2 then .int .i64 p else Ac r vs vc vk vb j)=Ac { r with letters:=Lk.upd r.letters k (p,q) } vs vc vk vb j:=by
 by_cases h1:j=4+k*2+1
 ·rw[if_pos h1,h1,(OI _ vs vc vk vb k h).2];simp[Lk.upd]
 ·rw[if_neg h1]
  by_cases h2:j=4+k*2
  ·rw[if_pos h2,h2,(OI _ vs vc vk vb k h).1];simp[Lk.upd]
  ·rw[if_neg h2]
   unfold Ac
   by_cases h3:4≤j∧j<56
   ·have hk:(j - 4)/2≠k:=by omega
    simp[Lk.upd,hk]
   ·simp only[]
    repeat' split
    all_goals first|rfl|omega
theorem Xw (r r':Lk.RS) (vs vc vb:Value) (base b:Nat) (s:ByteArray) (role place:Nat) (w:World) (hr:BF w base b r vs vc vb) (h:Lk.declare r s.toList role place=some r'):
  Calls Tryz.prog 99 #[.pointer (some ⟨b,0,none⟩),.string s,.int .i64 role,.int .i64 place] w fun e w'=>e=.returned (.bool true)∧BF w' base b r' vs vc vb∧Below base w w':=by
 unfold Lk.declare at h
 split at h
 case isFalse=>cases h
 case isTrue hc=>
 obtain ⟨hb0,hn,hl0⟩:=hc
 cases h
 have hsz:s.size=1:=by
  by_cases h:s.size=1
  ·exact h
  ·rw[Io h] at hn;cases hn
 have hn':=hn
 rw[N1 hsz] at hn'
 simp at hn'
 have hb1:(97:Int)≤(s[0].toNat:Int):=by omega
 have hb2:(s[0].toNat:Int)≤122:=by omega
 have hsz1:(s.size:Int)=1:=by omega
 have CI:Lk.lat s.toList=s[0].toNat - 97:=by unfold Lk.lat;rw[DK hsz];rfl
 rw[CI] at hl0
 rw[CI]
 have hk:s[0].toNat - 97<26:=by omega
 have hrow:=hr.row
 have hlt:=hrow.lt
 have hc0:=hrow.cell (i:=4+(s[0].toNat - 97)*2) (by omega)
 have hc1:=hrow.cell (i:=4+(s[0].toNat - 97)*2+1) (by omega)
 have Gp:=hrow.frozen (4+(s[0].toNat - 97)*2)
 have Es:=hrow.frozen (4+(s[0].toNat - 97)*2+1)
 rw[(OI r _ _ _ _ _ hk).1,hl0] at hc0
 rw[(OI r _ _ _ _ _ hk).2] at hc1
 have Ai:=hrow.cell (i:=56) (by omega)
 rw[show Ac r vs vc (.slice none 0 0) vb 56=vb from rfl] at Ai
 obtain ⟨ad,cp,hvb⟩: ∃ ad cp,vb=.slice ad 0 cp:=by
  rcases hr.A_.2 with ⟨hv,_⟩|⟨g,cap,cur,hv,_⟩
  ·exact ⟨_,_,hv⟩
  ·rw[hb0] at hv;exact ⟨_,_,hv⟩
 have HR:Hid (BF w base b r vs vc vb):=hr
 rw[hvb] at Ai
 have HV:Hid (vb=.slice ad 0 cp):=hvb
 clear hrow hr CI hl0 hn' hvb
 go_enter Tryz.func99,Tryz.ntmps99
 go_wp2_with (go_at_call 112;refine (Rq _ _).mono ?_;rintro e w' ⟨rfl,rfl⟩)
 go_ret
 refine ⟨rfl,((HR.out.put _ _).put _ _).congr (fun j hj=>rK r vs vc _ vb _ role place hk j hj),((Below.refl _ _).setCell HR.out.ge _).setCell HR.out.ge _⟩
theorem AX {w:World} {base:Nat} {e:TypeId} {size:Nat} {v:Value} {n:Nat} {xs:List Value} (h:w.ownsRow base e size v n xs): ∃ ad cp,v=.slice ad n cp:=by
 rcases h.2 with ⟨hv,h0⟩|⟨g,cap,cur,hv,_⟩
 ·exact ⟨_,_,by rw[h0];exact hv⟩
 ·exact ⟨_,_,hv⟩
theorem Rm (b:Nat) (s:ByteArray) (role place:Nat) (w:World) (n:Nat) (ad:Option Addr) (cp:Nat) (hn:0<n) (Ai:w.cell? ⟨b,56,none⟩=some (.slice ad n cp)):
  Calls Tryz.prog 99 #[.pointer (some ⟨b,0,none⟩),.string s,.int .i64 role,.int .i64 place] w fun e w'=>e=.returned (.bool false)∧w'=w:=by
 have h1:(0:Int)<(n:Int):=by omega
 go_enter Tryz.func99,Tryz.ntmps99
 go_wp2
 go_ret
 exact ⟨rfl,rfl⟩
theorem nt (b:Nat) (s:ByteArray) (role place:Nat) (w:World) (ad:Option Addr) (cp:Nat) (hn:Lk.isName s.toList=false) (Ai:w.cell? ⟨b,56,none⟩=some (.slice ad 0 cp)):
  Calls Tryz.prog 99 #[.pointer (some ⟨b,0,none⟩),.string s,.int .i64 role,.int .i64 place] w fun e w'=>e=.returned (.bool false)∧w'=w:=by
 go_enter Tryz.func99,Tryz.ntmps99
 go_wp2_with (go_at_call 112;refine (Rq _ _).mono ?_;rintro e w' ⟨rfl,rfl⟩)
 go_ret
 exact ⟨rfl,rfl⟩
theorem nX (b:Nat) (s:ByteArray) (role place:Nat) (w:World) (ad:Option Addr) (cp x:Nat) (hn:Lk.isName s.toList=true) (hsz:s.size=1) (hb1:(97:Int)≤(s[0].toNat:Int)) (hb2:(s[0].toNat:Int)≤122) (Ai:w.cell? ⟨b,56,none⟩=some (.slice ad 0 cp))
  (hx:((x:Int) !=0)=true) (hc0:w.cell? ⟨b,4+(s[0].toNat - 97)*2,none⟩=some (.int .i64 x)):
  Calls Tryz.prog 99 #[.pointer (some ⟨b,0,none⟩),.string s,.int .i64 role,.int .i64 place] w fun e w'=>e=.returned (.bool false)∧w'=w:=by
 have hsz1:(s.size:Int)=1:=by omega
 go_enter Tryz.func99,Tryz.ntmps99
 go_wp2_with (go_at_call 112;refine (Rq _ _).mono ?_;rintro e w' ⟨rfl,rfl⟩)
 go_ret
 exact ⟨rfl,rfl⟩
theorem Xx (r:Lk.RS) (vs vc vb:Value) (base b:Nat) (s:ByteArray) (role place:Nat) (w:World) (hr:BF w base b r vs vc vb) (h:Lk.declare r s.toList role place=none):
  Calls Tryz.prog 99 #[.pointer (some ⟨b,0,none⟩),.string s,.int .i64 role,.int .i64 place] w fun e w'=>e=.returned (.bool false)∧w'=w:=by
 have Ai:=hr.row.cell (i:=56) (by omega)
 rw[show Ac r vs vc (.slice none 0 0) vb 56=vb from rfl] at Ai
 obtain ⟨ad,cp,hvb⟩:=AX hr.A_
 rw[hvb] at Ai
 by_cases h0:r.body.length=0
 ·rw[h0] at Ai
  cases hn:Lk.isName s.toList with
  |false=>exact nt b s role place w ad cp hn Ai
  |true=>
   have hsz:s.size=1:=by
    by_cases h:s.size=1
    ·exact h
    ·rw[Io h] at hn;cases hn
   have hn':=hn
   rw[N1 hsz] at hn'
   simp at hn'
   have CI:Lk.lat s.toList=s[0].toNat - 97:=by unfold Lk.lat;rw[DK hsz];rfl
   have hk:s[0].toNat - 97<26:=by omega
   have hl0:(r.letters (s[0].toNat - 97)).1≠0:=by
    intro hl
    unfold Lk.declare at h
    rw[if_pos ⟨h0,hn,by rw[CI];exact hl⟩] at h
    cases h
   have hc0:=hr.row.cell (i:=4+(s[0].toNat - 97)*2) (by omega)
   rw[(OI r _ _ _ _ _ hk).1] at hc0
   exact nX b s role place w ad cp _ hn hsz (by omega) (by omega) Ai (by simp;omega) hc0
 ·exact Rm b s role place w _ ad cp (by omega) Ai
theorem gY (b:Nat) (w:World) (n:Nat) (hn:(12:Int)≤(n:Int)) (hc:w.cell? ⟨b,57,none⟩=some (.int .i64 n)) (i0 i1 i2 i3 i5 i7 i8 i9:Int) (b4 b6:Bool) (hlt:b<w.heap.size):
  Calls Tryz.prog 103 #[.pointer (some ⟨b,0,none⟩),.agg #[.int .i64 i0,.int .i64 i1,.int .i64 i2,.int .i64 i3,.bool b4,.int .i64 i5,.bool b6,.int .i64 i7,.int .i64 i8,.int .i64 i9]] w fun e w'=>e=.returned (.bool false)∧Below w.heap.size w w':=by
 go_enter Tryz.func103,Tryz.ntmps103
 go_wp2
 go_ret
 exact ⟨rfl,(Below.refl _ _).alloc (Nat.le_refl _) _⟩
theorem YJ (l:List Lk.St) (s:Lk.St):flat (l++[s])=flat l++AZ s:=by simp[flat]
theorem rL (r:Lk.RS) (vs vc vk vb G8:Value) (s:Lk.St) (j:Nat) (hj:j<67):
  (if j=56 then G8 else if j=57 then Value.int .i64 ((r.stmts:Int)+1) else Ac r vs vc vk vb j)=Ac { r with stmts:=r.stmts+1,body:=r.body++[s] } vs vc vk G8 j:=by
 by_cases h1:j=56
 ·subst h1;rfl
 ·rw[if_neg h1]
  by_cases h2:j=57
  ·subst h2;rfl
  ·rw[if_neg h2]
   unfold Ac
   simp only[h1,h2,if_false]
end Go.Proofs.YtgddmpmcnjlcjaaGreatDoor
