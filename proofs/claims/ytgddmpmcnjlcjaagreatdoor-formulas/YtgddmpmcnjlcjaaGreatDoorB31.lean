import Derived.Test.YtgddmpmcnjlcjaaGreatDoorB01
namespace Go.Proofs.YtgddmpmcnjlcjaaGreatDoor.Rf
open Go.Proofs.YtgddmpmcnjlcjaaGreatDoor.Lk (Wd num? oper? cut wd isName)
def wSecret:Wd:=[115,101,99,114,101,116]
def wPublic:Wd:=[112,117,98,108,105,99]
def wVar:Wd:=[118,97,114]
def wArray:Wd:=[97,114,114,97,121]
def wElse:Wd:=[101,108,115,101]
def wEnd:Wd:=[101,110,100]
def wIf:Wd:=[105,102]
def wWhile:Wd:=[119,104,105,108,101]
def wOut:Wd:=[111,117,116]
def wLoad:Wd:=[108,111,97,100]
def wStore:Wd:=[115,116,111,114,101]
def signs:List Wd:=[[43],[45],[42],[38],[124],[94],[60,60],[62,62],[60],[61,61]]
structure Dc where
 name:Wd
 kind:Wd
 size:Nat
def kindOf:List Dc→Wd→Wd
 |[],_=>[]
 |d::ds,w=>if (d.name==w)=true then d.kind else kindOf ds w
def many (ds:List Dc) (k:Wd):Nat:=(ds.filter fun d=>d.kind==k).length
def scalar (ds:List Dc) (w:Wd):Bool:=kindOf ds w==wSecret||kindOf ds w==wPublic||kindOf ds w==wVar
def atom (ds:List Dc) (w:Wd):Bool:=scalar ds w||(num? w).isSome
def oneOf:Wd→List Wd→Option Nat
 |_,[]=>none
 |w,x::l=>if (x==w)=true then some 0 else (oneOf w l).map (· +1)
def declare (ds:List Dc) (AA:Bool) (w:List Wd):Option (List Dc):=
 if AA=false∧w.length=(if wd w 0=wArray then 3 else 2)∧isName (wd w 1)=true∧kindOf ds (wd w 1)=[] then
  if wd w 0=wArray then
   match num? (wd w 2) with
   |some n=>if 1≤n∧n≤4∧many ds wArray<2 then some (ds++[⟨wd w 1,wd w 0,n⟩]) else none
   |none=>none
  else if wd w 0=wVar then
   if many ds wVar<4 then some (ds++[⟨wd w 1,wd w 0,0⟩]) else none
  else if many ds wVar=0∧many ds wSecret+many ds wPublic<3 then some (ds++[⟨wd w 1,wd w 0,0⟩]) else none
 else none
def fits (ds:List Dc) (w:List Wd):Bool:=
 if wd w 0=wOut then decide (w.length=2) && atom ds (wd w 1)
 else if wd w 0=wLoad then decide (w.length=4) && (scalar ds (wd w 1) && kindOf ds (wd w 2)==wArray && atom ds (wd w 3))
 else if wd w 0=wStore then decide (w.length=4) && (kindOf ds (wd w 1)==wArray && atom ds (wd w 2) && atom ds (wd w 3))
 else if w.length=3 then scalar ds (wd w 0) && wd w 1==[61] && atom ds (wd w 2)
 else if w.length=5 then (scalar ds (wd w 0) && wd w 1==[61] && atom ds (wd w 2)) && ((oneOf (wd w 3) signs).isSome && atom ds (wd w 4))
 else false
inductive Tr where
 |node (w:List Wd) (body other:List Tr)
structure Rs where
 ds:List Dc:=[]
 at_:Nat:=0
 cnt:Nat:=0
 AA:Bool:=false
def isDecl (w:Wd):Bool:=w==wSecret||w==wPublic||w==wVar||w==wArray
def blk (L:List Wd):Nat→Nat→Rs→List Tr→Bool×List Tr×Rs
 |0,depth,s,out=>(decide (depth=0),out,s)
 |f+1,depth,s,out=>
  if s.at_+1<L.length then
   let w:=cut 32 (L.getD s.at_ [])
   if isDecl (wd w 0)=true then
    match declare s.ds s.AA w with
    |none=>(false,[],s)
    |some ds=>blk L f depth { s with ds:=ds,at_:=s.at_+1 } out
   else
    let s:={ s with AA:=true }
    if wd w 0=wElse∨wd w 0=wEnd then (decide (w.length=1∧0<depth),out,s)
    else if s.cnt=12 then (false,[],s)
    else if wd w 0=wIf∨wd w 0=wWhile then
     if w.length=2∧depth≠4∧atom s.ds (wd w 1)=true then
      match blk L f (depth+1) { s with cnt:=s.cnt+1,at_:=s.at_+1 } [] with
      |(false,_,s2)=>(false,[],s2)
      |(true,body,s2)=>
       if L.getD s2.at_ []=wElse then
        if wd w 0=wIf then
         match blk L f (depth+1) { s2 with at_:=s2.at_+1 } [] with
         |(false,_,s3)=>(false,[],s3)
         |(true,other,s3)=>if L.getD s3.at_ []=wElse then (false,[],s3) else blk L f depth { s3 with at_:=s3.at_+1 } (out++[.node w body other])
        else (false,[],s2)
       else blk L f depth { s2 with at_:=s2.at_+1 } (out++[.node w body []])
     else (false,[],s)
    else if fits s.ds w=true then blk L f depth { s with cnt:=s.cnt+1,at_:=s.at_+1 } (out++[.node w [] []])
    else (false,[],{ s with cnt:=s.cnt+1 })
  else (decide (depth=0),out,s)
def read (t:Wd):Option (List Dc×List Tr)×Nat:=
 let L:=cut 10 t
 match blk L L.length 0 {} [] with
 |(false,_,s)=>(none,s.at_+1)
 |(true,body,s)=>if (L.getD (L.length - 1) [])=[] then (some (s.ds,body),0) else (none,L.length)
open Go.Proofs.YtgddmpmcnjlcjaaGreatDoor.Lk (Wd num? oper? cut wd isName)
def DF (B:Nat→Rs→Bool×Rs) (L:List Wd) (depth:Nat) (s:Rs) (w:List Wd):Bool×Rs:=
 if w.length=2∧depth≠4∧atom s.ds (wd w 1)=true then
  match B (depth+1) { s with cnt:=s.cnt+1,at_:=s.at_+1 } with
  |(false,s2)=>(false,s2)
  |(true,s2)=>
   if L.getD s2.at_ []=wElse then
    if wd w 0=wIf then
     match B (depth+1) { s2 with at_:=s2.at_+1 } with
     |(false,s3)=>(false,s3)
     |(true,s3)=>if L.getD s3.at_ []=wElse then (false,s3) else (true,{ s3 with at_:=s3.at_+1 })
    else (false,s2)
   else (true,{ s2 with at_:=s2.at_+1 })
 else (false,s)
def Ee (B:Nat→Rs→Bool×Rs) (L:List Wd) (depth:Nat) (s:Rs) (w:List Wd):Bool×Rs:=
 if wd w 0=wElse∨wd w 0=wEnd then (decide (w.length=1∧0<depth),s)
 else if s.cnt=12 then (false,s)
 else if wd w 0=wIf∨wd w 0=wWhile then
  match DF B L depth s w with
  |(true,s')=>B depth s'
  |(false,s')=>(false,s')
 else if fits s.ds w=true then B depth { s with cnt:=s.cnt+1,at_:=s.at_+1 }
 else (false,{ s with cnt:=s.cnt+1 })
def Ab (L:List Wd):Nat→Nat→Rs→Bool×Rs
 |0,depth,s=>(decide (depth=0),s)
 |f+1,depth,s=>
  if s.at_+1<L.length then
   if isDecl (wd (cut 32 (L.getD s.at_ [])) 0)=true then
    match declare s.ds s.AA (cut 32 (L.getD s.at_ [])) with
    |none=>(false,s)
    |some ds=>Ab L f depth { s with ds:=ds,at_:=s.at_+1 }
   else Ee (Ab L f) L depth { s with AA:=true } (cut 32 (L.getD s.at_ []))
  else (decide (depth=0),s)
def Fz (t:Wd):Bool×Nat:=
 match Ab (cut 10 t) (cut 10 t).length 0 {} with
 |(false,s)=>(false,s.at_+1)
 |(true,_)=>if ((cut 10 t).getD ((cut 10 t).length - 1) [])=[] then (true,0) else (false,(cut 10 t).length)
structure Post (L:List Wd) (depth:Nat) (s:Rs) (o:Bool×Rs):Prop where
 lt:o.2.at_<L.length
 ge:s.at_≤o.2.at_
 cnt:o.2.cnt≤12
 AA:s.AA=true→o.2.AA=true∧o.2.ds=s.ds
 mid:o.1=true→0<depth→o.2.at_+1<L.length
theorem Zl {L:List Wd} {depth:Nat} {s s':Rs} {o:Bool×Rs} (h:Post L depth s' o) (hge:s.at_≤s'.at_) (hb:s.AA=true→s'.AA=true∧s'.ds=s.ds):Post L depth s o:=
 ⟨h.lt,Nat.le_trans hge h.ge,h.cnt,fun e=>⟨(h.AA (hb e).1).1,((h.AA (hb e).1).2).trans (hb e).2⟩,h.mid⟩
theorem Rm {ds:List Dc} {w:List Wd}:declare ds true w=none:=by unfold declare;rw[if_neg (by simp)]
theorem VQ {B:Nat→Rs→Bool×Rs} {L:List Wd} (depth:Nat) (s:Rs) (hB: ∀ d s',s.at_+1≤s'.at_→s'.at_<L.length→s'.cnt≤12→Post L d s' (B d s')) (w:List Wd) (hs:s.at_+1<L.length) (hc:s.cnt<12):
  (DF B L depth s w).2.at_<L.length∧s.at_≤(DF B L depth s w).2.at_∧(DF B L depth s w).2.cnt≤12∧(s.AA=true→(DF B L depth s w).2.AA=true∧(DF B L depth s w).2.ds=s.ds)∧((DF B L depth s w).1=true→s.at_+1≤(DF B L depth s w).2.at_):=by
 unfold DF
 by_cases h1:w.length=2∧depth≠4∧atom s.ds (wd w 1)=true
 ·rw[if_pos h1]
  have p1:=hB (depth+1) { s with cnt:=s.cnt+1,at_:=s.at_+1 } (Nat.le_refl _) (by exact hs) (by show s.cnt+1≤12;omega)
  generalize B (depth+1) { s with cnt:=s.cnt+1,at_:=s.at_+1 }=o1 at p1
  obtain ⟨b1,s2⟩:=o1
  have g1:s.at_+1≤s2.at_:=p1.ge
  cases b1 with
  |false=>exact ⟨p1.lt,by show s.at_≤s2.at_;omega,p1.cnt,p1.AA,fun e=>by simp at e⟩
  |true=>
   have m1:s2.at_+1<L.length:=p1.mid rfl (by omega)
   by_cases h2:L.getD s2.at_ []=wElse
   ·simp only[if_pos h2]
    by_cases h3:wd w 0=wIf
    ·simp only[if_pos h3]
     have p2:=hB (depth+1) { s2 with at_:=s2.at_+1 } (by show s.at_+1≤s2.at_+1;omega) (by exact m1) p1.cnt
     generalize B (depth+1) { s2 with at_:=s2.at_+1 }=o2 at p2
     obtain ⟨b2,s3⟩:=o2
     have g2:s2.at_+1≤s3.at_:=p2.ge
     have bb:s.AA=true→s3.AA=true∧s3.ds=s.ds:=fun e=>⟨(p2.AA (p1.AA e).1).1,((p2.AA (p1.AA e).1).2).trans (p1.AA e).2⟩
     cases b2 with
     |false=>exact ⟨p2.lt,by show s.at_≤s3.at_;omega,p2.cnt,bb,fun e=>by simp at e⟩
     |true=>
      have m2:s3.at_+1<L.length:=p2.mid rfl (by omega)
      by_cases h4:L.getD s3.at_ []=wElse
      ·simp only[if_pos h4];exact ⟨p2.lt,by show s.at_≤s3.at_;omega,p2.cnt,bb,fun e=>by simp at e⟩
      ·simp only[if_neg h4];exact ⟨m2,by show s.at_≤s3.at_+1;omega,p2.cnt,bb,fun _=>by show s.at_+1≤s3.at_+1;omega⟩
    ·simp only[if_neg h3];exact ⟨p1.lt,by show s.at_≤s2.at_;omega,p1.cnt,p1.AA,fun e=>by simp at e⟩
   ·simp only[if_neg h2];exact ⟨m1,by show s.at_≤s2.at_+1;omega,p1.cnt,p1.AA,fun _=>by show s.at_+1≤s2.at_+1;omega⟩
 ·rw[if_neg h1];exact ⟨by show s.at_<L.length;omega,Nat.le_refl _,by show s.cnt≤12;omega,fun e=>⟨e,rfl⟩,fun e=>by simp at e⟩
theorem JL (L:List Wd): ∀ (f depth:Nat) (s:Rs),s.at_<L.length→s.cnt≤12→L.length≤s.at_+1+f→Post L depth s (Ab L f depth s)
 |0,depth,s,h,hc,hf=>⟨h,Nat.le_refl _,hc,fun e=>⟨e,rfl⟩,fun e hd=>by simp[Ab] at e;omega⟩
 |f+1,depth,s,h,hc,hf=>by
  unfold Ab
  by_cases h1:s.at_+1<L.length
  ·rw[if_pos h1]
   by_cases h2:isDecl (wd (cut 32 (L.getD s.at_ [])) 0)=true
   ·rw[if_pos h2]
    cases hd:declare s.ds s.AA (cut 32 (L.getD s.at_ [])) with
    |none=>exact ⟨h,Nat.le_refl _,hc,fun e=>⟨e,rfl⟩,fun e=>by simp at e⟩
    |some ds=>
     have p:=JL L f depth { s with ds:=ds,at_:=s.at_+1 } h1 hc (by show L.length≤s.at_+1+1+f;omega)
     refine Zl p (by show s.at_≤s.at_+1;omega) (fun e=>?_)
     rw[e,Rm] at hd
     cases hd
   ·rw[if_neg h2]
    unfold Ee
    by_cases h3:wd (cut 32 (L.getD s.at_ [])) 0=wElse∨wd (cut 32 (L.getD s.at_ [])) 0=wEnd
    ·rw[if_pos h3];exact ⟨h,Nat.le_refl _,hc,fun e=>⟨rfl,rfl⟩,fun _ _=>h1⟩
    ·rw[if_neg h3]
     by_cases h4:s.cnt=12
     ·rw[if_pos h4];exact ⟨h,Nat.le_refl _,hc,fun e=>⟨rfl,rfl⟩,fun e=>by simp at e⟩
     ·rw[if_neg h4]
      by_cases h5:wd (cut 32 (L.getD s.at_ [])) 0=wIf∨wd (cut 32 (L.getD s.at_ [])) 0=wWhile
      ·rw[if_pos h5]
       have hp: ∀ d s',s.at_+1≤s'.at_→s'.at_<L.length→s'.cnt≤12→Post L d s' (Ab L f d s'):=fun d s' g1 g2 g3=>JL L f d s' g2 g3 (by omega)
       have pn:=VQ (B:=Ab L f) depth { s with AA:=true } hp (cut 32 (L.getD s.at_ [])) h1 (by show s.cnt<12;omega)
       generalize DF (Ab L f) L depth { s with AA:=true } (cut 32 (L.getD s.at_ []))=o at pn
       obtain ⟨b,s'⟩:=o
       obtain ⟨q1,q2,q3,q4,q5⟩:=pn
       have q2:s.at_≤s'.at_:=q2
       cases b with
       |false=>exact ⟨q1,q2,q3,fun e=>q4 rfl,fun e=>by simp at e⟩
       |true=>
        have q5:s.at_+1≤s'.at_:=q5 rfl
        exact Zl (JL L f depth s' q1 q3 (by omega)) q2 (fun e=>q4 rfl)
      ·rw[if_neg h5]
       by_cases h6:fits s.ds (cut 32 (L.getD s.at_ []))=true
       ·rw[if_pos h6]
        have p:=JL L f depth { s with AA:=true,cnt:=s.cnt+1,at_:=s.at_+1 } h1 (by show s.cnt+1≤12;omega) (by show L.length≤s.at_+1+1+f;omega)
        exact Zl p (by show s.at_≤s.at_+1;omega) (fun e=>⟨rfl,rfl⟩)
       ·rw[if_neg h6];exact ⟨h,Nat.le_refl _,by show s.cnt+1≤12;omega,fun e=>⟨rfl,rfl⟩,fun e=>by simp at e⟩
  ·rw[if_neg h1];exact ⟨h,Nat.le_refl _,hc,fun e=>⟨e,rfl⟩,fun e hd=>by simp at e;omega⟩
open Go.Proofs.YtgddmpmcnjlcjaaGreatDoor.Lk (Wd num? oper? cut wd isName)
structure As where
 ds:List Dc
 AA:Bool
 cnt:Nat
 AO:List (Bool×Bool)
def Cc (s:Rs) (AO:List (Bool×Bool)):As:=⟨s.ds,s.AA,s.cnt,AO⟩
def Sq (a:As) (w:List Wd):Option As:=
 match a.AO with
 |(true,false)::t=>if w.length=1 then some { a with AA:=true,AO:=(true,true)::t } else none
 |_=>none
def TG (a:As) (w:List Wd):Option As:=
 match a.AO with
 |_::t=>if w.length=1 then some { a with AA:=true,AO:=t } else none
 |[]=>none
def step (a:As) (w:List Wd):Option As:=
 if isDecl (wd w 0)=true then (declare a.ds a.AA w).map fun ds=>{ a with ds:=ds }
 else if wd w 0=wElse then Sq a w
 else if wd w 0=wEnd then TG a w
 else if a.cnt=12 then none
 else if wd w 0=wIf∨wd w 0=wWhile then
  if w.length=2∧a.AO.length≠4∧atom a.ds (wd w 1)=true then some { a with AA:=true,cnt:=a.cnt+1,AO:=(decide (wd w 0=wIf),false)::a.AO } else none
 else if fits a.ds w=true then some { a with AA:=true,cnt:=a.cnt+1 } else none
def DI:As→Nat→List Wd→Nat
 |_,n,[]=>n+1
 |a,n,[l]=>if l=[]∧a.AO=[] then 0 else n+1
 |a,n,l::m::ls=>
  match step a (cut 32 l) with
  |some a'=>DI a' (n+1) (m::ls)
  |none=>n+1
theorem iG {L:List Wd} {n:Nat} (h:n+1<L.length): ∃ m ls,L.drop n=L.getD n []::m::ls∧L.drop (n+1)=m::ls:=by
 have h1:L.drop n=L[n]::L.drop (n+1):=List.drop_eq_getElem_cons (by omega)
 have h2:L.drop (n+1)=L[n+1]::L.drop (n+2):=List.drop_eq_getElem_cons h
 refine ⟨L[n+1],L.drop (n+2),?_,h2⟩
 have e:L.getD n []=L[n]:=by simp[List.getD,show n<L.length by omega]
 rw[e, ←h2]
 exact h1
theorem Mv {L:List Wd} {n:Nat} {a a':As} (h:n+1<L.length) (hs:step a (cut 32 (L.getD n []))=some a'):DI a n (L.drop n)=DI a' (n+1) (L.drop (n+1)):=by
 obtain ⟨m,ls,h1,h2⟩:=iG h
 rw[h1,h2]
 conv=>lhs;unfold DI
 rw[hs]
theorem Lm {L:List Wd} {n:Nat} {a:As} (h:n+1<L.length) (hs:step a (cut 32 (L.getD n []))=none):DI a n (L.drop n)=n+1:=by
 obtain ⟨m,ls,h1,h2⟩:=iG h
 rw[h1]
 unfold DI
 rw[hs]
theorem fk {L:List Wd} {n:Nat} {a:As} (h:n+1=L.length):DI a n (L.drop n)=if L.getD n []=[]∧a.AO=[] then 0 else n+1:=by
 have h1:L.drop n=L[n]::L.drop (n+1):=List.drop_eq_getElem_cons (by omega)
 have h2:L.drop (n+1)=[]:=List.drop_eq_nil_of_le (by omega)
 have e:L.getD n []=L[n]:=by simp[List.getD,show n<L.length by omega]
 rw[h1,h2,e]
 rfl
theorem QU (c:UInt8): ∀ l:Wd,(cut c l).length=1→cut c l=[l]
 |[],_=>rfl
 |x::xs,h=>by
  unfold cut at h ⊢
  by_cases hx:x=c
  ·rw[if_pos hx] at h
   have:=Lk.Ip c xs
   cases hc:cut c xs with
   |nil=>exact absurd hc this
   |cons y ys=>rw[hc] at h;simp at h
  ·rw[if_neg hx] at h ⊢
   cases hc:cut c xs with
   |nil=>exact absurd hc (Lk.Ip c xs)
   |cons y ys=>
    rw[hc] at h
    have hy:ys=[]:=by
     cases ys with
     |nil=>rfl
     |cons z zs=>simp at h
    have ih:=QU c xs (by rw[hc,hy];rfl)
    rw[hc,hy] at ih
    simp at ih
    simp[hy,ih]
theorem wV:cut 32 wElse=[wElse]:=by decide
theorem aa9:cut 32 wEnd=[wEnd]:=by decide
theorem wW {a:As} {w:List Wd} (h:isDecl (wd w 0)=false):step a w=step { a with AA:=true } w:=by
 have hn: ¬isDecl (wd w 0)=true:=by rw[h];simp
 unfold step
 simp only[if_neg hn]
 rfl
theorem YM {a:As}:step a (cut 32 wElse)=Sq a [wElse]:=by
 rw[wV];unfold step;rw[if_neg (by decide),if_pos (by rfl)]
theorem step_end {a:As}:step a (cut 32 wEnd)=TG a [wEnd]:=by
 rw[aa9];unfold step;rw[if_neg (by decide),if_neg (by decide),if_pos (by rfl)]
structure Good (L:List Wd) (d:Nat) (s:Rs) (o:Bool×Rs):Prop where
 no:o.1=false→ ∀ AO:List (Bool×Bool),AO.length=d→DI (Cc s AO) s.at_ (L.drop s.at_)=o.2.at_+1
 fin:o.1=true→d=0→DI (Cc s []) s.at_ (L.drop s.at_)=if L.getD (L.length - 1) []=[] then 0 else L.length
 mid:o.1=true→0<d→(L.getD o.2.at_ []=wElse∨L.getD o.2.at_ []=wEnd)∧ ∀ AO:List (Bool×Bool),AO.length=d→DI (Cc s AO) s.at_ (L.drop s.at_)=DI (Cc o.2 AO) o.2.at_ (L.drop o.2.at_)
theorem Good.pre {L:List Wd} {d:Nat} {s s':Rs} {o:Bool×Rs} (h:Good L d s' o) (e: ∀ AO:List (Bool×Bool),AO.length=d→DI (Cc s AO) s.at_ (L.drop s.at_)=DI (Cc s' AO) s'.at_ (L.drop s'.at_)):Good L d s o:=
 ⟨fun h1 AO hs=>(e AO hs).trans (h.no h1 AO hs),fun h1 h2=>(e [] (by rw[h2];rfl)).trans (h.fin h1 h2),fun h1 h2=>⟨(h.mid h1 h2).1,fun AO hs=>(e AO hs).trans ((h.mid h1 h2).2 AO hs)⟩⟩
theorem Good.wrong {L:List Wd} {d:Nat} {s s':Rs} (e: ∀ AO:List (Bool×Bool),AO.length=d→DI (Cc s AO) s.at_ (L.drop s.at_)=s'.at_+1):Good L d s (false,s'):=
 ⟨fun _=>e,(fun h=>by cases h),(fun h=>by cases h)⟩
theorem sW {B:Nat→Rs→Bool×Rs} {L:List Wd} {d:Nat} {s:Rs} {w:List Wd} (hat:s.at_+1<L.length) (hw:cut 32 (L.getD s.at_ [])=w) (hd:isDecl (wd w 0)=false) (hne: ¬(wd w 0=wElse∨wd w 0=wEnd)) (hc:s.cnt≠12) (hc2:s.cnt≤12) (hi:wd w 0=wIf∨wd w 0=wWhile)
  (hP: ∀ s',s.at_+1≤s'.at_→s'.at_<L.length→s'.cnt≤12→Post L (d+1) s' (B (d+1) s')) (hG:d≠4→ ∀ s',s.at_+1≤s'.at_→s'.at_<L.length→s'.cnt≤12→Good L (d+1) s' (B (d+1) s')):
  ((DF B L d { s with AA:=true } w).1=false→ ∀ AO:List (Bool×Bool),AO.length=d→DI (Cc s AO) s.at_ (L.drop s.at_)=(DF B L d { s with AA:=true } w).2.at_+1)∧
  ((DF B L d { s with AA:=true } w).1=true→ ∀ AO:List (Bool×Bool),AO.length=d→DI (Cc s AO) s.at_ (L.drop s.at_)=DI (Cc (DF B L d { s with AA:=true } w).2 AO) (DF B L d { s with AA:=true } w).2.at_ (L.drop (DF B L d { s with AA:=true } w).2.at_)):=by
 have hsx: ∀ AO:List (Bool×Bool),AO.length=d→step (Cc s AO) w=if w.length=2∧d≠4∧atom s.ds (wd w 1)=true then some ⟨s.ds,true,s.cnt+1,(decide (wd w 0=wIf),false)::AO⟩ else none:=by
  intro AO hst
  unfold step
  rw[if_neg (by rw[hd];simp),if_neg (fun c=>hne (.inl c)),if_neg (fun c=>hne (.inr c)),if_neg (show ¬(Cc s AO).cnt=12 from hc),if_pos hi]
  subst hst
  rfl
 unfold DF
 by_cases h1:w.length=2∧d≠4∧atom s.ds (wd w 1)=true
 ·rw[if_pos (show w.length=2∧d≠4∧atom ({ s with AA:=true }:Rs).ds (wd w 1)=true from h1)]
  have Co:=h1.2.1
  have p1:=hP { s with AA:=true,cnt:=s.cnt+1,at_:=s.at_+1 } (Nat.le_refl _) hat (by show s.cnt+1≤12;omega)
  have g1:=hG Co { s with AA:=true,cnt:=s.cnt+1,at_:=s.at_+1 } (Nat.le_refl _) hat (by show s.cnt+1≤12;omega)
  have m1: ∀ AO:List (Bool×Bool),AO.length=d→DI (Cc s AO) s.at_ (L.drop s.at_)=DI (Cc { s with AA:=true,cnt:=s.cnt+1,at_:=s.at_+1 } ((decide (wd w 0=wIf),false)::AO)) (s.at_+1) (L.drop (s.at_+1)):=by
   intro AO hst
   exact Mv hat (by rw[hw,hsx AO hst,if_pos h1];rfl)
  show (((match B (d+1) { s with AA:=true,cnt:=s.cnt+1,at_:=s.at_+1 } with|(false,s2)=>(false,s2)|(true,s2)=>_):Bool×Rs).1=false→_)∧_
  generalize B (d+1) { s with AA:=true,cnt:=s.cnt+1,at_:=s.at_+1 }=o1 at p1 g1
  obtain ⟨b1,s2⟩:=o1
  have ge1:s.at_+1≤s2.at_:=p1.ge
  have bd1:s2.AA=true:=(p1.AA rfl).1
  cases b1 with
  |false=>
   exact ⟨fun _ AO hst=>(m1 AO hst).trans (g1.no rfl _ (by simp[hst])),fun h=>by cases h⟩
  |true=>
   have q1:=g1.mid rfl (Nat.succ_pos _)
   have LQ:s2.at_+1<L.length:=p1.mid rfl (Nat.succ_pos _)
   have m2: ∀ AO:List (Bool×Bool),AO.length=d→DI (Cc s AO) s.at_ (L.drop s.at_)=DI (Cc s2 ((decide (wd w 0=wIf),false)::AO)) s2.at_ (L.drop s2.at_):=fun AO hst=>(m1 AO hst).trans (q1.2 _ (by simp[hst]))
   dsimp only
   by_cases h2:L.getD s2.at_ []=wElse
   ·rw[if_pos h2]
    by_cases h3:wd w 0=wIf
    ·rw[if_pos h3]
     have p2:=hP { s2 with at_:=s2.at_+1 } (by show s.at_+1≤s2.at_+1;omega) LQ p1.cnt
     have g2:=hG Co { s2 with at_:=s2.at_+1 } (by show s.at_+1≤s2.at_+1;omega) LQ p1.cnt
     have m3: ∀ AO:List (Bool×Bool),AO.length=d→DI (Cc s AO) s.at_ (L.drop s.at_)=DI (Cc { s2 with at_:=s2.at_+1 } ((true,true)::AO)) (s2.at_+1) (L.drop (s2.at_+1)):=by
      intro AO hst
      refine (m2 AO hst).trans (Mv LQ ?_)
      rw[h2,YM,decide_eq_true h3]
      show some _=some _
      unfold Cc
      rw[bd1]
     generalize B (d+1) { s2 with at_:=s2.at_+1 }=o2 at p2 g2
     obtain ⟨b2,s3⟩:=o2
     have bd2:s3.AA=true:=(p2.AA bd1).1
     cases b2 with
     |false=>exact ⟨fun _ AO hst=>(m3 AO hst).trans (g2.no rfl _ (by simp[hst])),fun h=>by cases h⟩
     |true=>
      have q2:=g2.mid rfl (Nat.succ_pos _)
      have Dq:s3.at_+1<L.length:=p2.mid rfl (Nat.succ_pos _)
      have m4: ∀ AO:List (Bool×Bool),AO.length=d→DI (Cc s AO) s.at_ (L.drop s.at_)=DI (Cc s3 ((true,true)::AO)) s3.at_ (L.drop s3.at_):=fun AO hst=>(m3 AO hst).trans (q2.2 _ (by simp[hst]))
      dsimp only
      by_cases h4:L.getD s3.at_ []=wElse
      ·rw[if_pos h4]
       refine ⟨fun _ AO hst=>(m4 AO hst).trans (Lm Dq ?_),fun h=>by cases h⟩
       rw[h4,YM];rfl
      ·rw[if_neg h4]
       refine ⟨(fun h=>by cases h),fun _ AO hst=>(m4 AO hst).trans (Mv Dq ?_)⟩
       rw[q2.1.resolve_left h4,step_end]
       show some _=some _
       unfold Cc
       rw[bd2]
    ·rw[if_neg h3]
     refine ⟨fun _ AO hst=>(m2 AO hst).trans (Lm LQ ?_),fun h=>by cases h⟩
     rw[h2,YM,decide_eq_false h3];rfl
   ·rw[if_neg h2]
    refine ⟨(fun h=>by cases h),fun _ AO hst=>(m2 AO hst).trans (Mv LQ ?_)⟩
    rw[q1.1.resolve_left h2,step_end]
    show some _=some _
    unfold Cc
    rw[bd1]
 ·rw[if_neg (show ¬(w.length=2∧d≠4∧atom ({ s with AA:=true }:Rs).ds (wd w 1)=true) from h1)]
  refine ⟨fun _ AO hst=>Lm hat ?_,fun h=>by cases h⟩
  rw[hw,hsx AO hst,if_neg h1]
theorem wX (L:List Wd): ∀ (f d:Nat) (s:Rs),d≤4→s.at_<L.length→s.cnt≤12→L.length≤s.at_+1+f→Good L d s (Ab L f d s):=by
 have tail: ∀ (d:Nat) (s:Rs),s.at_<L.length→ ¬s.at_+1<L.length→Good L d s (decide (d=0),s):=by
  intro d s h hl
  have he:s.at_+1=L.length:=by omega
  refine ⟨fun h1 AO hst=>?_,fun h1 h2=>?_,fun h1 h2=>?_⟩
  ·have hd:d≠0:=by simpa using h1
   rw[fk he,if_neg (fun c=>hd (by rw[←hst];have:=c.2;simp[Cc] at this;simp[this]))]
  ·rw[fk he, ←he,Nat.add_sub_cancel]
   by_cases hx:L.getD s.at_ []=[]
   ·rw[if_pos ⟨hx,rfl⟩,if_pos hx]
   ·rw[if_neg (fun c=>hx c.1),if_neg hx]
  ·have hd:d=0:=by simpa using h1
   omega
 intro f
 induction f with
 |zero=>intro d s hd h hc hf;exact tail d s h (by omega)
 |succ f ih=>
  intro d s hd h hc hf
  unfold Ab
  by_cases h1:s.at_+1<L.length
  ·rw[if_pos h1]
   by_cases h2:isDecl (wd (cut 32 (L.getD s.at_ [])) 0)=true
   ·rw[if_pos h2]
    have hs: ∀ AO:List (Bool×Bool),step (Cc s AO) (cut 32 (L.getD s.at_ []))=(declare s.ds s.AA (cut 32 (L.getD s.at_ []))).map fun ds=>{ Cc s AO with ds:=ds }:=by
     intro AO;unfold step;rw[if_pos h2];rfl
    cases LR:declare s.ds s.AA (cut 32 (L.getD s.at_ [])) with
    |none=>exact Good.wrong (fun AO hst=>Lm h1 (by rw[hs,LR];rfl))
    |some ds=>exact (ih d { s with ds:=ds,at_:=s.at_+1 } hd h1 hc (by show L.length≤s.at_+1+1+f;omega)).pre (fun AO hst=>Mv h1 (by rw[hs,LR];rfl))
   ·rw[if_neg h2]
    have h2':isDecl (wd (cut 32 (L.getD s.at_ [])) 0)=false:=by simpa using h2
    by_cases h3:wd (cut 32 (L.getD s.at_ [])) 0=wElse∨wd (cut 32 (L.getD s.at_ [])) 0=wEnd
    ·have e3:Ee (Ab L f) L d { s with AA:=true } (cut 32 (L.getD s.at_ []))=(decide ((cut 32 (L.getD s.at_ [])).length=1∧0<d),{ s with AA:=true }):=by unfold Ee;rw[if_pos h3]
     rw[e3]
     by_cases hl:(cut 32 (L.getD s.at_ [])).length=1∧0<d
     ·rw[decide_eq_true hl]
      have hone:=QU 32 _ hl.1
      refine ⟨(fun h=>by cases h),fun _ h0=>absurd hl.2 (by omega),fun _ _=>⟨?_,fun AO hst=>?_⟩⟩
      ·rw[hone] at h3;exact h3
      ·have hb:step (Cc s AO) (cut 32 (L.getD s.at_ []))=step (Cc { s with AA:=true } AO) (cut 32 (L.getD s.at_ [])):=wW h2'
       cases hx:step (Cc s AO) (cut 32 (L.getD s.at_ [])) with
       |none=>rw[Lm h1 hx];exact (Lm h1 (by rw[←hb,hx])).symm
       |some a'=>rw[Mv h1 hx];exact (Mv h1 (by rw[←hb,hx])).symm
     ·rw[decide_eq_false hl]
      refine Good.wrong (fun AO hst=>Lm h1 ?_)
      unfold step
      rw[if_neg h2]
      rcases h3 with h3|h3
      ·rw[if_pos h3]
       unfold Sq
       cases AO with
       |nil=>rfl
       |cons x t=>
        have CN: ¬(cut 32 (L.getD s.at_ [])).length=1:=fun c=>hl ⟨c,by rw[←hst];simp⟩
        obtain ⟨x1,x2⟩:=x
        cases x1 <;> cases x2 <;> first|rfl|exact if_neg CN
      ·rw[if_neg (by rw[h3];decide),if_pos h3]
       unfold TG
       cases AO with
       |nil=>rfl
       |cons x t=>
        have CN: ¬(cut 32 (L.getD s.at_ [])).length=1:=fun c=>hl ⟨c,by rw[←hst];simp⟩
        exact if_neg CN
    ·by_cases h4:s.cnt=12
     ·have e4:Ee (Ab L f) L d { s with AA:=true } (cut 32 (L.getD s.at_ []))=(false,{ s with AA:=true }):=by unfold Ee;rw[if_neg h3,if_pos h4]
      rw[e4]
      refine Good.wrong (fun AO hst=>Lm h1 ?_)
      unfold step
      rw[if_neg h2,if_neg (fun c=>h3 (.inl c)),if_neg (fun c=>h3 (.inr c)),if_pos (show (Cc s AO).cnt=12 from h4)]
     ·by_cases h5:wd (cut 32 (L.getD s.at_ [])) 0=wIf∨wd (cut 32 (L.getD s.at_ [])) 0=wWhile
      ·have hp: ∀ s',s.at_+1≤s'.at_→s'.at_<L.length→s'.cnt≤12→Post L (d+1) s' (Ab L f (d+1) s'):=fun s' g1 g2 g3=>JL L f (d+1) s' g2 g3 (by omega)
       have hp2: ∀ d s',s.at_+1≤s'.at_→s'.at_<L.length→s'.cnt≤12→Post L d s' (Ab L f d s'):=fun d s' g1 g2 g3=>JL L f d s' g2 g3 (by omega)
       have ng:=sW (B:=Ab L f) h1 rfl h2' h3 h4 hc h5 hp (fun Co s' g1 g2 g3=>ih (d+1) s' (by omega) g2 g3 (by omega))
       have pn:=VQ (B:=Ab L f) d { s with AA:=true } hp2 (cut 32 (L.getD s.at_ [])) h1 (by show s.cnt<12;omega)
       unfold Ee
       rw[if_neg h3,if_neg (show ¬({ s with AA:=true }:Rs).cnt=12 from h4),if_pos h5]
       generalize DF (Ab L f) L d { s with AA:=true } (cut 32 (L.getD s.at_ []))=o at ng pn
       obtain ⟨b,s'⟩:=o
       cases b with
       |false=>exact Good.wrong (fun AO hst=>ng.1 rfl AO hst)
       |true=>
        have q5:s.at_+1≤s'.at_:=pn.2.2.2.2 rfl
        exact (ih d s' hd pn.1 pn.2.2.1 (by omega)).pre (fun AO hst=>ng.2 rfl AO hst)
      ·have hs: ∀ AO:List (Bool×Bool),step (Cc s AO) (cut 32 (L.getD s.at_ []))=if fits s.ds (cut 32 (L.getD s.at_ []))=true then some { Cc s AO with AA:=true,cnt:=s.cnt+1 } else none:=by
        intro AO;unfold step;rw[if_neg h2,if_neg (fun c=>h3 (.inl c)),if_neg (fun c=>h3 (.inr c)),if_neg (show ¬(Cc s AO).cnt=12 from h4),if_neg h5];rfl
       unfold Ee
       rw[if_neg h3,if_neg (show ¬({ s with AA:=true }:Rs).cnt=12 from h4),if_neg h5]
       by_cases h6:fits s.ds (cut 32 (L.getD s.at_ []))=true
       ·rw[if_pos h6]
        exact (ih d { s with AA:=true,cnt:=s.cnt+1,at_:=s.at_+1 } hd h1 (by show s.cnt+1≤12;omega) (by show L.length≤s.at_+1+1+f;omega)).pre (fun AO hst=>Mv h1 (by rw[hs,if_pos h6];rfl))
       ·rw[if_neg h6]
        exact Good.wrong (fun AO hst=>Lm h1 (by rw[hs,if_neg h6]))
  ·rw[if_neg h1];exact tail d s h h1
theorem eU (t:Wd):DI ⟨[],false,0,[]⟩ 0 (cut 10 t)=(Fz t).2∧((Fz t).1=true↔(Fz t).2=0):=by
 have hne:0<(cut 10 t).length:=by
  cases hc:cut 10 t with
  |nil=>exact absurd hc (Lk.Ip 10 t)
  |cons x xs=>simp
 have g:=wX (cut 10 t) (cut 10 t).length 0 {} (by omega) hne (Nat.zero_le _) (Nat.le_add_left _ _)
 unfold Fz
 generalize Ab (cut 10 t) (cut 10 t).length 0 {}=o at g
 obtain ⟨b,s⟩:=o
 cases b with
 |false=>exact ⟨g.no rfl [] rfl,by simp⟩
 |true=>
  have h:=g.fin rfl rfl
  dsimp only
  by_cases hx:(cut 10 t).getD ((cut 10 t).length - 1) []=[]
  ·rw[if_pos hx] at h ⊢
   exact ⟨h,by simp⟩
  ·rw[if_neg hx] at h ⊢
   exact ⟨h,(fun e=>by cases e),fun e=>absurd e (show ¬(cut 10 t).length=0 by omega)⟩
open Go.Proofs.YtgddmpmcnjlcjaaGreatDoor.Lk (Wd RS St num? oper? cut wd isName lat upd bodyAt find atom?)
def role (k:Wd):Nat:=if k=[] then 0 else if k=wArray then 2 else 1
def Sr (b:List St) (opn:Nat→Nat×Nat):List (Bool×Bool)→Prop
 |[]=>True
 |x::t=>(opn t.length).1<b.length∧((bodyAt b (opn t.length).1).kind=4↔x.1=true)∧((opn t.length).2=0↔x.2=false)∧Sr b opn t
theorem SI {b b':List St} {opn ba:Nat→Nat×Nat}: ∀ {t:List (Bool×Bool)},(∀ h,h<b.length→h<b'.length∧(bodyAt b' h).kind=(bodyAt b h).kind)→(∀ i,i<t.length→ba i=opn i)→Sr b opn t→Sr b' ba t
 |[],_,_,_=>trivial
 |x::t,hb,ho,h=>by
  obtain ⟨h1,h2,h3,h4⟩:=h
  have e:ba t.length=opn t.length:=ho t.length (by simp)
  unfold Sr
  rw[e]
  exact ⟨(hb _ h1).1,by rw[(hb _ h1).2];exact h2,h3,SI hb (fun i hi=>ho i (by simp;omega)) h4⟩
theorem eV {b:List St} {x:St} {h:Nat} (hh:h<b.length):bodyAt (b++[x]) h=bodyAt b h:=by
 unfold bodyAt
 simp[List.getD,List.getElem?_append_left hh]
theorem jc {b:List St} {x:St}: ∀ h,h<b.length→h<(b++[x]).length∧(bodyAt (b++[x]) h).kind=(bodyAt b h).kind:=fun h hh=>⟨by simp;omega,by rw[eV hh]⟩
theorem Zm {b:List St} {i:Nat} {y:St} (hy:y.kind=(bodyAt b i).kind) (x:St): ∀ h,h<b.length→h<(b.set i y++[x]).length∧(bodyAt (b.set i y++[x]) h).kind=(bodyAt b h).kind:=by
 intro h hh
 refine ⟨by simp;omega,?_⟩
 rw[eV (by simpa using hh)]
 by_cases hi:i=h
 ·subst hi
  have:bodyAt (b.set i y) i=y:=by simp[bodyAt,List.getD,hh]
  rw[this,hy]
 ·have:bodyAt (b.set i y) h=bodyAt b h:=by simp[bodyAt,List.getD,hi]
  rw[this]
structure F7 (r:RS) (a:As):Prop where
 dk: ∀ d∈a.ds,isName d.name=true∧(d.kind=wSecret∨d.kind=wPublic∨d.kind=wVar∨d.kind=wArray)
 nm: ∀ w,isName w=true→(r.letters (lat w)).1=role (kindOf a.ds w)
 sec:r.Ah.length=many a.ds wSecret+many a.ds wPublic
 var:r.vars=many a.ds wVar
 arr:r.cells.length=many a.ds wArray
 AA:r.body.length=0↔a.AA=false
 cnt:r.stmts=a.cnt
 le:a.cnt≤12
 dep:r.depth=a.AO.length
 d4:a.AO.length≤4
 AO:Sr r.body r.opn a.AO
theorem Rn: ∀ {ds:List Dc},(∀ d∈ds,isName d.name=true∧(d.kind=wSecret∨d.kind=wPublic∨d.kind=wVar∨d.kind=wArray))→ ∀ w,(kindOf ds w=[]∧(∀ d∈ds,(d.name==w)=false))∨(isName w=true∧(kindOf ds w=wSecret∨kindOf ds w=wPublic∨kindOf ds w=wVar∨kindOf ds w=wArray))
 |[],_,w=>.inl ⟨rfl,fun d hd=>by cases hd⟩
 |d::ds,h,w=>by
  unfold kindOf
  have h0:=h d (List.mem_cons.2 (.inl rfl))
  cases hx:(d.name==w) with
  |true=>
   rw[if_pos rfl]
   have e:d.name=w:=eq_of_beq hx
   exact .inr ⟨by rw[←e];exact h0.1,h0.2⟩
  |false=>
   rw[if_neg (by simp)]
   rcases Rn (fun d' hd=>h d' (List.mem_cons.2 (.inr hd))) w with h1|h1
   ·refine .inl ⟨h1.1,fun d' hd=>?_⟩
    rcases List.mem_cons.1 hd with e|e
    ·rw[e];exact hx
    ·exact h1.2 d' e
   ·exact .inr h1
section
variable {r:RS} {a:As}
theorem sX (S:F7 r a) (w:Wd):(find r w).1=role (kindOf a.ds w):=by
 unfold find
 cases hn:isName w with
 |true=>rw[if_pos rfl];exact S.nm w hn
 |false=>
  rw[if_neg (by simp)]
  rcases Rn S.dk w with h|h
  ·rw[h.1];rfl
  ·rw[hn] at h;cases h.1
theorem QC (S:F7 r a) (w:Wd):scalar a.ds w=decide ((find r w).1=1)∧(kindOf a.ds w==wArray)=decide ((find r w).1=2)∧(kindOf a.ds w=[]↔(find r w).1=0):=by
 rw[sX S w]
 unfold scalar
 rcases Rn S.dk w with h|⟨_,h|h|h|h⟩
 ·rw[h.1];decide
 ·rw[h];decide
 ·rw[h];decide
 ·rw[h];decide
 ·rw[h];decide
theorem Em (S:F7 r a) (w:Wd):(atom? r w).isSome=atom a.ds w:=by
 unfold atom atom?
 rw[(QC S w).1]
 cases num? w with
 |some n=>simp
 |none=>
  by_cases h:(find r w).1=1
  ·simp[h]
  ·simp[h]
theorem fo (w:Wd):(oper? w).isSome=(oneOf w signs).isSome:=by
 unfold oper? signs
 simp only[oneOf]
 rw[Bool.beq_comm (a:=w),Bool.beq_comm (a:=w) (b:=[45]),Bool.beq_comm (a:=w) (b:=[42]),Bool.beq_comm (a:=w) (b:=[38]),Bool.beq_comm (a:=w) (b:=[124]),Bool.beq_comm (a:=w) (b:=[94]),Bool.beq_comm (a:=w) (b:=[60,60]),Bool.beq_comm (a:=w) (b:=[62,62]),Bool.beq_comm (a:=w) (b:=[60]),Bool.beq_comm (a:=w) (b:=[61,61])]
 generalize ([43]==w)=c1
 generalize ([45]==w)=c2
 generalize ([42]==w)=c3
 generalize ([38]==w)=c4
 generalize ([124]==w)=c5
 generalize ([94]==w)=c6
 generalize ([60,60]==w)=c7
 generalize ([62,62]==w)=c8
 generalize ([60]==w)=c9
 generalize ([61,61]==w)=c10
 cases c1 <;> cases c2 <;> cases c3 <;> cases c4 <;> cases c5 <;> cases c6 <;> cases c7 <;> cases c8 <;> cases c9 <;> cases c10 <;> rfl
def IW:Option RS→Option As→Prop
 |none,none=>True
 |some r,some a=>F7 r a
 |_,_=>False
theorem ZL (S:F7 r a) (st:St):(a.cnt=12→Lk.add r st=none)∧(a.cnt≠12→IW (Lk.add r st) (some { a with AA:=true,cnt:=a.cnt+1 })):=by
 have hc:=S.cnt
 have hl:=S.le
 unfold Lk.add
 constructor
 ·intro h
  rw[if_neg (by omega)]
 ·intro h
  rw[if_pos (by omega)]
  refine ⟨S.dk,S.nm,S.sec,S.var,S.arr,?_,by show r.stmts+1=a.cnt+1;omega,by show a.cnt+1≤12;omega,S.dep,S.d4,SI jc (fun _ _=>rfl) S.AO⟩
  simp
theorem VR (S:F7 r a) (o:Option RS) (st:Option St) (b:Bool) (ho:o=st.bind (Lk.add r)) (h:st.isSome=b):IW o (if a.cnt=12 then none else if b=true then some { a with AA:=true,cnt:=a.cnt+1 } else none):=by
 subst ho
 subst h
 cases st with
 |none=>
  by_cases hc:a.cnt=12
  ·rw[if_pos hc];trivial
  ·rw[if_neg hc];trivial
 |some x=>
  by_cases hc:a.cnt=12
  ·rw[if_pos hc]
   show IW (Lk.add r x) none
   rw[(ZL S x).1 hc];trivial
  ·rw[if_neg hc];exact (ZL S x).2 hc
end
theorem ZM {v w:Wd} (hv:isName v=true) (hw:isName w=true) (h:lat v=lat w):v=w:=by
 match v,w with
 |[],_=>simp[isName] at hv
 |_::_::_,_=>simp[isName] at hv
 |_,[]=>simp[isName] at hw
 |_,_::_::_=>simp[isName] at hw
 |[x],[y]=>
  simp[isName,lat] at hv hw h
  have:x.toNat=y.toNat:=by omega
  rw[UInt8.toNat_inj.1 this]
theorem eW: ∀ {ds:List Dc} {d:Dc} {w:Wd},kindOf (ds++[d]) w=if (∀ x∈ds,(x.name==w)=false) then (if (d.name==w)=true then d.kind else []) else kindOf ds w
 |[],d,w=>by rw[if_pos (fun x hx=>by cases hx)];rfl
 |y::ds,d,w=>by
  show (if (y.name==w)=true then y.kind else kindOf (ds++[d]) w)=_
  rw[eW]
  show _=if _ then _ else (if (y.name==w)=true then y.kind else kindOf ds w)
  cases hy:(y.name==w) with
  |true=>
   rw[if_pos rfl,if_neg (fun c=>by have:=c y (List.mem_cons.2 (.inl rfl));rw[hy] at this;cases this),if_pos rfl]
  |false=>
   rw[if_neg (by simp),if_neg (show ¬(false=true) by simp)]
   by_cases h: ∀ x∈ds,(x.name==w)=false
   ·rw[if_pos h,if_pos (fun x hx=>by
     rcases List.mem_cons.1 hx with e|e
     ·rw[e];exact hy
     ·exact h x e)]
   ·rw[if_neg h,if_neg (fun c=>h (fun x hx=>c x (List.mem_cons.2 (.inr hx))))]
theorem JM (ds:List Dc) (d:Dc) (k:Wd):many (ds++[d]) k=many ds k+if (d.kind==k)=true then 1 else 0:=by
 unfold many
 rw[List.filter_append,List.length_append]
 cases h:(d.kind==k) <;> simp[List.filter,h]
open Go.Proofs.YtgddmpmcnjlcjaaGreatDoor.Lk (Wd RS St num? oper? cut wd isName lat upd bodyAt find atom?)
section
variable {r:RS} {a:As} {w:List Wd}
theorem QD (S:F7 r a) {q:Wd} (hq:isName q=true):(r.letters (lat q)).1=0↔kindOf a.ds q=[]:=by
 have:=(QC S q).2.2
 rw[this]
 unfold find
 rw[if_pos hq]
theorem YN (S:F7 r a) {q:Wd} (hq:isName q=true) (h0:kindOf a.ds q=[]) {k:Wd} (hk:k=wSecret∨k=wPublic∨k=wVar∨k=wArray) (n place:Nat):
  (∀ d∈a.ds++[⟨q,k,n⟩],isName d.name=true∧(d.kind=wSecret∨d.kind=wPublic∨d.kind=wVar∨d.kind=wArray))∧
  (∀ w,isName w=true→((upd r.letters (lat q) (role k,place)) (lat w)).1=role (kindOf (a.ds++[⟨q,k,n⟩]) w)):=by
 constructor
 ·intro d hd
  rcases List.mem_append.1 hd with h|h
  ·exact S.dk d h
  ·have e:=List.mem_singleton.1 h
   rw[e];exact ⟨hq,hk⟩
 ·intro w hw
  rw[eW]
  have alf:role k=role k:=rfl
  unfold upd
  by_cases hl:lat w=lat q
  ·have e:w=q:=ZM hw hq hl
   subst e
   rw[if_pos rfl]
   have hall: ∀ x∈a.ds,(x.name==w)=false:=by
    rcases Rn S.dk w with h|⟨_,h⟩
    ·exact h.2
    ·rw[h0] at h
     rcases h with h|h|h|h <;> cases h
   rw[if_pos hall,if_pos (by simp)]
  ·rw[if_neg hl]
   have hne:((⟨q,k,n⟩:Dc).name==w)=false:=by
    have:q≠w:=fun e=>hl (by rw[e])
    simpa using this
   rw[S.nm w hw]
   by_cases hall: ∀ x∈a.ds,(x.name==w)=false
   ·rw[if_pos hall,if_neg (by rw[hne];simp)]
    rcases Rn S.dk w with h|⟨_,h⟩
    ·rw[h.1]
    ·exact absurd hall (fun c=>by
      have:kindOf a.ds w=[]:=by
       have hx: ∀ ds:List Dc,(∀ x∈ds,(x.name==w)=false)→kindOf ds w=[]:=by
        intro ds
        induction ds with
        |nil=>intro _;rfl
        |cons y ys ih=>
         intro hy
         unfold kindOf
         rw[if_neg (by rw[hy y (List.mem_cons.2 (.inl rfl))];simp)]
         exact ih (fun x hx=>hy x (List.mem_cons.2 (.inr hx)))
       exact hx a.ds c
      rw[this] at h
      rcases h with h|h|h|h <;> cases h)
   ·rw[if_neg hall]
theorem eX (S:F7 r a) (b:Bool) {k:Wd} (hk:k=wSecret∨k=wPublic) (h:wd w 0=k):IW (Lk.E6 r w b) ((declare a.ds a.AA w).map fun ds=>{ a with ds:=ds }):=by
 have ha: ¬wd w 0=wArray:=by rw[h];rcases hk with e|e <;> rw[e] <;> decide
 have hv: ¬wd w 0=wVar:=by rw[h];rcases hk with e|e <;> rw[e] <;> decide
 have hr:role k=1:=by rcases hk with e|e <;> rw[e] <;> decide
 unfold Lk.E6 declare Lk.declare
 rw[if_neg ha,S.sec,S.var]
 by_cases c1:a.AA=false∧w.length=2∧isName (wd w 1)=true∧kindOf a.ds (wd w 1)=[]
 ·rw[if_pos c1,if_neg ha,if_neg hv]
  by_cases c2:many a.ds wVar=0∧many a.ds wSecret+many a.ds wPublic<3
  ·rw[if_pos c2,if_pos ⟨c1.2.1,c2.2,c2.1⟩,if_pos ⟨S.AA.2 c1.1,c1.2.2.1,(QD S c1.2.2.1).2 c1.2.2.2⟩]
   have N:=YN S c1.2.2.1 c1.2.2.2 (k:=k) (by rcases hk with e|e;exact .inl e;exact .inr (.inl e)) 0 (many a.ds wSecret+many a.ds wPublic)
   rw[hr] at N
   rw[h]
   refine ⟨N.1,N.2,?_,?_,?_,S.AA,S.cnt,S.le,S.dep,S.d4,S.AO⟩
   ·show (r.Ah++[b]).length=many (a.ds++[⟨wd w 1,k,0⟩]) wSecret+many (a.ds++[⟨wd w 1,k,0⟩]) wPublic
    rw[JM,JM,List.length_append,S.sec]
    rcases hk with e|e
    ·rw[e];simp[show (wSecret==wPublic)=false by decide];omega
    ·rw[e];simp[show (wPublic==wSecret)=false by decide];omega
   ·show many a.ds wVar=many (a.ds++[⟨wd w 1,k,0⟩]) wVar
    rw[JM]
    rcases hk with e|e
    ·rw[e];simp[show (wSecret==wVar)=false by decide]
    ·rw[e];simp[show (wPublic==wVar)=false by decide]
   ·show r.cells.length=many (a.ds++[⟨wd w 1,k,0⟩]) wArray
    rw[JM,S.arr]
    rcases hk with e|e
    ·rw[e];simp[show (wSecret==wArray)=false by decide]
    ·rw[e];simp[show (wPublic==wArray)=false by decide]
  ·rw[if_neg c2]
   by_cases c3:w.length=2∧many a.ds wSecret+many a.ds wPublic<3∧many a.ds wVar=0
   ·exact absurd ⟨c3.2.2,c3.2.1⟩ c2
   ·rw[if_neg c3];trivial
 ·rw[if_neg c1]
  by_cases c3:w.length=2∧many a.ds wSecret+many a.ds wPublic<3∧many a.ds wVar=0
  ·rw[if_pos c3]
   by_cases c4:r.body.length=0∧isName (wd w 1)=true∧(r.letters (lat (wd w 1))).1=0
   ·exact absurd ⟨S.AA.1 c4.1,c3.1,c4.2.1,(QD S c4.2.1).1 c4.2.2⟩ c1
   ·rw[if_neg c4];trivial
  ·rw[if_neg c3];trivial
theorem wY (S:F7 r a) (h:wd w 0=wVar):IW (Lk.FW r w) ((declare a.ds a.AA w).map fun ds=>{ a with ds:=ds }):=by
 have ha: ¬wd w 0=wArray:=by rw[h];decide
 unfold Lk.FW declare Lk.declare
 rw[if_neg ha,S.var]
 by_cases c1:a.AA=false∧w.length=2∧isName (wd w 1)=true∧kindOf a.ds (wd w 1)=[]
 ·rw[if_pos c1,if_neg ha,if_pos h]
  by_cases c2:many a.ds wVar<4
  ·rw[if_pos c2,if_pos ⟨c1.2.1,c2⟩,if_pos ⟨S.AA.2 c1.1,c1.2.2.1,(QD S c1.2.2.1).2 c1.2.2.2⟩]
   have N:=YN S c1.2.2.1 c1.2.2.2 (k:=wVar) (.inr (.inr (.inl rfl))) 0 (r.Ah.length+many a.ds wVar)
   rw[show role wVar=1 by decide] at N
   rw[h]
   refine ⟨N.1,N.2,?_,?_,?_,S.AA,S.cnt,S.le,S.dep,S.d4,S.AO⟩
   ·show r.Ah.length=many (a.ds++[⟨wd w 1,wVar,0⟩]) wSecret+many (a.ds++[⟨wd w 1,wVar,0⟩]) wPublic
    rw[JM,JM,S.sec]
    simp[show (wVar==wPublic)=false by decide,show (wVar==wSecret)=false by decide]
   ·show many a.ds wVar+1=many (a.ds++[⟨wd w 1,wVar,0⟩]) wVar
    rw[JM]
    simp
   ·show r.cells.length=many (a.ds++[⟨wd w 1,wVar,0⟩]) wArray
    rw[JM,S.arr]
    simp[show (wVar==wArray)=false by decide]
  ·rw[if_neg c2,if_neg (fun c=>c2 c.2)];trivial
 ·rw[if_neg c1]
  by_cases c3:w.length=2∧many a.ds wVar<4
  ·rw[if_pos c3]
   by_cases c4:r.body.length=0∧isName (wd w 1)=true∧(r.letters (lat (wd w 1))).1=0
   ·exact absurd ⟨S.AA.1 c4.1,c3.1,c4.2.1,(QD S c4.2.1).1 c4.2.2⟩ c1
   ·rw[if_neg c4];trivial
  ·rw[if_neg c3];trivial
theorem qO (S:F7 r a) (h:wd w 0=wArray):IW (Lk.FV r w) ((declare a.ds a.AA w).map fun ds=>{ a with ds:=ds }):=by
 unfold Lk.FV declare Lk.declare
 rw[if_pos h,S.arr]
 by_cases c1:a.AA=false∧w.length=3∧isName (wd w 1)=true∧kindOf a.ds (wd w 1)=[]
 ·rw[if_pos c1,if_pos h]
  cases hn:num? (wd w 2) with
  |none=>
   by_cases c3:w.length=3∧many a.ds wArray<2
   ·rw[if_pos c3];trivial
   ·rw[if_neg c3];trivial
  |some n=>
   by_cases c2:1≤n∧n≤4∧many a.ds wArray<2
   ·dsimp only
    rw[if_pos c2,if_pos ⟨c1.2.1,c2.2.2⟩,if_pos ⟨c2.1,c2.2.1⟩,if_pos ⟨S.AA.2 c1.1,c1.2.2.1,(QD S c1.2.2.1).2 c1.2.2.2⟩]
    have N:=YN S c1.2.2.1 c1.2.2.2 (k:=wArray) (.inr (.inr (.inr rfl))) n (many a.ds wArray)
    rw[show role wArray=2 by decide] at N
    rw[h]
    refine ⟨N.1,N.2,?_,?_,?_,S.AA,S.cnt,S.le,S.dep,S.d4,S.AO⟩
    ·show r.Ah.length=many (a.ds++[⟨wd w 1,wArray,n⟩]) wSecret+many (a.ds++[⟨wd w 1,wArray,n⟩]) wPublic
     rw[JM,JM,S.sec]
     simp[show (wArray==wPublic)=false by decide,show (wArray==wSecret)=false by decide]
    ·show r.vars=many (a.ds++[⟨wd w 1,wArray,n⟩]) wVar
     rw[JM,S.var]
     simp[show (wArray==wVar)=false by decide]
    ·show (r.cells++[n]).length=many (a.ds++[⟨wd w 1,wArray,n⟩]) wArray
     rw[JM,List.length_append,S.arr]
     simp
   ·dsimp only
    rw[if_neg c2]
    by_cases c3:w.length=3∧many a.ds wArray<2
    ·rw[if_pos c3,if_neg (fun c=>c2 ⟨c.1,c.2,c3.2⟩)];trivial
    ·rw[if_neg c3];trivial
 ·rw[if_neg c1]
  by_cases c3:w.length=3∧many a.ds wArray<2
  ·rw[if_pos c3]
   cases hn:num? (wd w 2) with
   |none=>trivial
   |some n=>
    dsimp only
    by_cases c5:1≤n∧n≤4
    ·rw[if_pos c5]
     by_cases c4:r.body.length=0∧isName (wd w 1)=true∧(r.letters (lat (wd w 1))).1=0
     ·exact absurd ⟨S.AA.1 c4.1,c3.1,c4.2.1,(QD S c4.2.1).1 c4.2.2⟩ c1
     ·rw[if_neg c4];trivial
    ·rw[if_neg c5];trivial
  ·rw[if_neg c3];trivial
theorem sY (S:F7 r a):IW (Lk.Fx r w) (Sq a w):=by
 unfold Lk.Fx Sq
 have hd:=S.dep
 have hk:=S.AO
 cases hs:a.AO with
 |nil=>
  rw[hs] at hd
  rw[if_neg (fun c=>by have:=c.2.1;simp at hd;omega)]
  trivial
 |cons x t=>
  rw[hs] at hd hk
  obtain ⟨k1,k2,k3,k4⟩:=hk
  have e:r.depth - 1=t.length:=by simp at hd;omega
  rw[e]
  obtain ⟨x1,x2⟩:=x
  have hpos:0<r.body.length:=Nat.lt_of_le_of_lt (Nat.zero_le _) k1
  by_cases c:w.length=1∧0<r.depth∧(bodyAt r.body (r.opn t.length).1).kind=4∧(r.opn t.length).2=0
  ·rw[if_pos c]
   have e1:x1=true:=k2.1 c.2.2.1
   have e2:x2=false:=k3.1 c.2.2.2
   subst e1 e2
   dsimp only
   rw[if_pos c.1]
   refine ⟨S.dk,S.nm,S.sec,S.var,S.arr,?_,S.cnt,S.le,by simpa using hd,by have:=S.d4;rw[hs] at this;exact this,?_⟩
   ·simp
   ·have hm:=Zm (b:=r.body) (i:=(r.opn t.length).1) (y:={ bodyAt r.body (r.opn t.length).1 with els:=r.body.length+1 }) rfl { kind:=6 }
    refine ⟨?_,?_,?_,SI hm (fun i hi=>?_) k4⟩
    ·simp only[upd,if_pos];exact (hm _ k1).1
    ·simp only[upd,if_pos];rw[(hm _ k1).2];exact ⟨fun _=>trivial,fun _=>c.2.2.1⟩
    ·simp only[upd,if_pos];constructor
     ·intro h;omega
     ·intro h;cases h
    ·simp only[upd];rw[if_neg (by omega)]
  ·rw[if_neg c]
   cases x1 with
   |false=>trivial
   |true=>
    cases x2 with
    |true=>trivial
    |false=>
     dsimp only
     rw[if_neg (fun h=>c ⟨h,by simp at hd;omega,k2.2 rfl,k3.2 rfl⟩)]
     trivial
theorem wZ (S:F7 r a):IW (Lk.takeEnd r w) (TG a w):=by
 unfold Lk.takeEnd TG
 have hd:=S.dep
 have hk:=S.AO
 cases hs:a.AO with
 |nil=>
  rw[hs] at hd
  rw[if_neg (fun c=>by have:=c.2;simp at hd;omega)]
  trivial
 |cons x t=>
  rw[hs] at hd hk
  obtain ⟨k1,k2,k3,k4⟩:=hk
  have e:r.depth - 1=t.length:=by simp at hd;omega
  dsimp only
  rw[e]
  by_cases c:w.length=1
  ·rw[if_pos c,if_pos ⟨c,by simp at hd;omega⟩]
   refine ⟨S.dk,S.nm,S.sec,S.var,S.arr,?_,S.cnt,S.le,rfl,by have:=S.d4;rw[hs] at this;simp at this;show t.length≤4;omega,?_⟩
   ·simp
   ·refine SI ?_ (fun _ _=>rfl) k4
    by_cases hi:(r.opn t.length).2=0
    ·simp only[if_pos hi]
     refine Zm ?_ _
     rfl
    ·simp only[if_neg hi]
     refine Zm ?_ _
     rfl
  ·rw[if_neg c,if_neg (fun h=>c h.1)]
   trivial
theorem dh (S:F7 r a) (kind:Nat) (x:Bool) (hx:kind=4↔x=true):IW (Lk.FD r w kind) (if a.cnt=12 then none else if w.length=2∧a.AO.length≠4∧atom a.ds (wd w 1)=true then some { a with AA:=true,cnt:=a.cnt+1,AO:=(x,false)::a.AO } else none):=by
 unfold Lk.FD
 have hd:=S.dep
 have hc:=S.cnt
 have hl:=S.le
 rw[←Em S]
 by_cases c:w.length=2∧r.depth<4
 ·rw[if_pos c]
  cases ha:atom? r (wd w 1) with
  |none=>
   rw[if_neg (show ¬(w.length=2∧a.AO.length≠4∧(none:Option Lk.At).isSome=true) from fun h=>by cases h.2.2)]
   by_cases h12:a.cnt=12
   ·rw[if_pos h12];trivial
   ·rw[if_neg h12];trivial
  |some y=>
   rw[if_pos (show w.length=2∧a.AO.length≠4∧(some y).isSome=true from ⟨c.1,by omega,rfl⟩)]
   dsimp only
   by_cases h12:a.cnt=12
   ·rw[if_pos h12,(ZL S _).1 h12];trivial
   ·rw[if_neg h12]
    unfold Lk.add
    rw[if_pos (by omega)]
    dsimp only
    refine ⟨S.dk,S.nm,S.sec,S.var,S.arr,by simp,by show r.stmts+1=a.cnt+1;omega,by show a.cnt+1≤12;omega,by show r.depth+1=_;simp;omega,by show a.AO.length+1≤4;omega,?_⟩
    have hb:bodyAt (r.body++[{ kind:=kind,a:=y,next:=r.body.length+1 }]) r.body.length={ kind:=kind,a:=y,next:=r.body.length+1 }:=by simp[bodyAt,List.getD]
    refine ⟨?_,?_,?_,SI jc (fun i hi=>?_) S.AO⟩
    ·rw[←hd];simp[upd]
    ·rw[←hd];simp only[upd,if_pos];rw[hb];exact hx
    ·rw[←hd];simp[upd]
    ·rw[←hd] at hi;simp only[upd];rw[if_neg (by omega)]
 ·rw[if_neg c]
  by_cases h12:a.cnt=12
  ·rw[if_pos h12];trivial
  ·rw[if_neg h12]
   by_cases c2:w.length=2∧a.AO.length≠4∧(atom? r (wd w 1)).isSome=true
   ·exfalso
    have:=S.d4
    exact c ⟨c2.1,by have:=c2.2.1;omega⟩
   ·rw[if_neg c2];trivial
end
open Go.Proofs.YtgddmpmcnjlcjaaGreatDoor.Lk (Wd RS St num? oper? cut wd isName lat upd bodyAt find atom?)
section
variable {r:RS} {a:As} {w:List Wd}
theorem w_ (S:F7 r a) (h:wd w 0=wOut):IW (Lk.Hh r w) (if a.cnt=12 then none else if fits a.ds w=true then some { a with AA:=true,cnt:=a.cnt+1 } else none):=by
 refine VR S _ (if w.length=2 then (atom? r (wd w 1)).map fun x=>({ kind:=3,a:=x }:St) else none) _ ?_ ?_
 ·unfold Lk.Hh
  by_cases c:w.length=2
  ·rw[if_pos c,if_pos c];cases atom? r (wd w 1) <;> rfl
  ·rw[if_neg c,if_neg c];rfl
 ·unfold fits
  rw[if_pos h, ←Em S]
  by_cases c:w.length=2
  ·rw[if_pos c,decide_eq_true c];simp
  ·rw[if_neg c,decide_eq_false c];rfl
theorem sZ (S:F7 r a) (h:wd w 0=wLoad):IW (Lk.Hc r w) (if a.cnt=12 then none else if fits a.ds w=true then some { a with AA:=true,cnt:=a.cnt+1 } else none):=by
 refine VR S _ (if w.length=4∧(find r (wd w 1)).1=1∧(find r (wd w 2)).1=2 then (atom? r (wd w 3)).map fun x=>({ kind:=1,slot:=(find r (wd w 1)).2,arr:=(find r (wd w 2)).2,a:=x }:St) else none) _ ?_ ?_
 ·unfold Lk.Hc
  by_cases c:w.length=4∧(find r (wd w 1)).1=1∧(find r (wd w 2)).1=2
  ·rw[if_pos c,if_pos c];cases atom? r (wd w 3) <;> rfl
  ·rw[if_neg c,if_neg c];rfl
 ·unfold fits
  rw[if_neg (show ¬wd w 0=wOut by rw[h];decide),if_pos h, ←Em S (wd w 3),(QC S (wd w 1)).1,(QC S (wd w 2)).2.1]
  by_cases c:w.length=4∧(find r (wd w 1)).1=1∧(find r (wd w 2)).1=2
  ·rw[if_pos c,decide_eq_true c.1,decide_eq_true c.2.1,decide_eq_true c.2.2];simp
  ·rw[if_neg c]
   by_cases c1:w.length=4
   ·by_cases c2:(find r (wd w 1)).1=1
    ·rw[decide_eq_false (fun e=>c ⟨c1,c2,e⟩)];simp
    ·rw[decide_eq_false c2];simp
   ·rw[decide_eq_false c1];rfl
theorem qP (S:F7 r a) (h:wd w 0=wStore):IW (Lk.Hb r w) (if a.cnt=12 then none else if fits a.ds w=true then some { a with AA:=true,cnt:=a.cnt+1 } else none):=by
 refine VR S _ (if w.length=4∧(find r (wd w 1)).1=2 then (atom? r (wd w 2)).bind fun x=>(atom? r (wd w 3)).map fun y=>({ kind:=2,arr:=(find r (wd w 1)).2,a:=x,b:=y }:St) else none) _ ?_ ?_
 ·unfold Lk.Hb
  by_cases c:w.length=4∧(find r (wd w 1)).1=2
  ·rw[if_pos c,if_pos c];cases atom? r (wd w 2) <;> cases atom? r (wd w 3) <;> rfl
  ·rw[if_neg c,if_neg c];rfl
 ·unfold fits
  rw[if_neg (show ¬wd w 0=wOut by rw[h];decide),if_neg (show ¬wd w 0=wLoad by rw[h];decide),if_pos h, ←Em S (wd w 2), ←Em S (wd w 3),(QC S (wd w 1)).2.1]
  by_cases c:w.length=4∧(find r (wd w 1)).1=2
  ·rw[if_pos c,decide_eq_true c.1,decide_eq_true c.2]
   cases atom? r (wd w 2) <;> cases atom? r (wd w 3) <;> rfl
  ·rw[if_neg c]
   by_cases c1:w.length=4
   ·rw[decide_eq_false (fun e=>c ⟨c1,e⟩)];simp
   ·rw[decide_eq_false c1];rfl
theorem oz (S:F7 r a) (h1:wd w 0≠wOut) (h2:wd w 0≠wLoad) (h3:wd w 0≠wStore):IW (Lk.GN r w) (if a.cnt=12 then none else if fits a.ds w=true then some { a with AA:=true,cnt:=a.cnt+1 } else none):=by
 refine VR S _ (if (w.length=3∨w.length=5)∧wd w 1=[61]∧(find r (wd w 0)).1=1 then (atom? r (wd w 2)).bind fun x=>if w.length=3 then some ({ kind:=0,op:=0,slot:=(find r (wd w 0)).2,a:=x }:St) else (oper? (wd w 3)).bind fun o=>(atom? r (wd w 4)).map fun y=>({ kind:=0,op:=o,slot:=(find r (wd w 0)).2,a:=x,b:=y }:St) else none) _ ?_ ?_
 ·unfold Lk.GN
  by_cases c:(w.length=3∨w.length=5)∧wd w 1=[61]∧(find r (wd w 0)).1=1
  ·rw[if_pos c,if_pos c]
   cases atom? r (wd w 2) with
   |none=>rfl
   |some x=>
    by_cases e:w.length=3
    ·show (if w.length=3 then _ else _)=Option.bind (if w.length=3 then _ else _) _
     rw[if_pos e,if_pos e];rfl
    ·show (if w.length=3 then _ else _)=Option.bind (if w.length=3 then _ else _) _
     rw[if_neg e,if_neg e]
     cases oper? (wd w 3) <;> cases atom? r (wd w 4) <;> rfl
  ·rw[if_neg c,if_neg c];rfl
 ·unfold fits
  rw[if_neg h1,if_neg h2,if_neg h3, ←Em S (wd w 2), ←Em S (wd w 4),(QC S (wd w 0)).1, ←fo]
  by_cases c:(w.length=3∨w.length=5)∧wd w 1=[61]∧(find r (wd w 0)).1=1
  ·rw[if_pos c,decide_eq_true c.2.2,c.2.1]
   rcases c.1 with e|e
   ·rw[if_pos e]
    cases atom? r (wd w 2) with
    |none=>rfl
    |some x=>
     show (if w.length=3 then _ else _:Option St).isSome=_
     rw[if_pos e];rfl
   ·have e3: ¬w.length=3:=by omega
    rw[if_neg e3,if_pos e]
    cases atom? r (wd w 2) with
    |none=>rfl
    |some x=>
     show (if w.length=3 then _ else _:Option St).isSome=_
     rw[if_neg e3]
     cases oper? (wd w 3) <;> cases atom? r (wd w 4) <;> rfl
  ·rw[if_neg c]
   have hz:((w.length=3∨w.length=5)→(decide ((find r (wd w 0)).1=1) && wd w 1==[61])=false):=by
    intro e
    by_cases c1:wd w 1=[61]
    ·rw[decide_eq_false (fun x=>c ⟨e,c1,x⟩)];rfl
    ·have:(wd w 1==[61])=false:=by simpa using c1
     rw[this];simp
   by_cases e3:w.length=3
   ·rw[if_pos e3,hz (.inl e3)];rfl
   ·rw[if_neg e3]
    by_cases e5:w.length=5
    ·rw[if_pos e5,hz (.inr e5)];rfl
    ·rw[if_neg e5];rfl
theorem sf (S:F7 r a) (hw:w.length≠0):IW (Lk.take r w) (step a w):=by
 unfold Lk.take step
 rw[if_neg hw]
 by_cases k1:wd w 0=wSecret
 ·rw[if_pos (show isDecl (wd w 0)=true by rw[k1];decide),if_pos (show (wd w 0==[115,101,99,114,101,116])=true by rw[k1];decide)]
  exact eX S true (.inl rfl) k1
 ·rw[if_neg (show ¬(wd w 0==[115,101,99,114,101,116])=true from fun e=>k1 (eq_of_beq e))]
  by_cases k2:wd w 0=wPublic
  ·rw[if_pos (show isDecl (wd w 0)=true by rw[k2];decide),if_pos (show (wd w 0==[112,117,98,108,105,99])=true by rw[k2];decide)]
   exact eX S false (.inr rfl) k2
  ·rw[if_neg (show ¬(wd w 0==[112,117,98,108,105,99])=true from fun e=>k2 (eq_of_beq e))]
   by_cases k3:wd w 0=wVar
   ·rw[if_pos (show isDecl (wd w 0)=true by rw[k3];decide),if_pos (show (wd w 0==[118,97,114])=true by rw[k3];decide)]
    exact wY S k3
   ·rw[if_neg (show ¬(wd w 0==[118,97,114])=true from fun e=>k3 (eq_of_beq e))]
    by_cases k4:wd w 0=wArray
    ·rw[if_pos (show isDecl (wd w 0)=true by rw[k4];decide),if_pos (show (wd w 0==[97,114,114,97,121])=true by rw[k4];decide)]
     exact qO S k4
    ·rw[if_neg (show ¬(wd w 0==[97,114,114,97,121])=true from fun e=>k4 (eq_of_beq e))]
     have hnd: ¬isDecl (wd w 0)=true:=by
      unfold isDecl
      simp[k1,k2,k3,k4]
     rw[if_neg hnd]
     by_cases k5:wd w 0=wLoad
     ·rw[if_pos (show (wd w 0==[108,111,97,100])=true by rw[k5];decide),if_neg (by rw[k5];decide),if_neg (by rw[k5];decide)]
      have key:=sZ S k5
      by_cases h12:a.cnt=12
      ·rw[if_pos h12] at key ⊢;exact key
      ·rw[if_neg h12] at key ⊢;rw[if_neg (by rw[k5];decide)];exact key
     ·rw[if_neg (show ¬(wd w 0==[108,111,97,100])=true from fun e=>k5 (eq_of_beq e))]
      by_cases k6:wd w 0=wStore
      ·rw[if_pos (show (wd w 0==[115,116,111,114,101])=true by rw[k6];decide),if_neg (by rw[k6];decide),if_neg (by rw[k6];decide)]
       have key:=qP S k6
       by_cases h12:a.cnt=12
       ·rw[if_pos h12] at key ⊢;exact key
       ·rw[if_neg h12] at key ⊢;rw[if_neg (by rw[k6];decide)];exact key
      ·rw[if_neg (show ¬(wd w 0==[115,116,111,114,101])=true from fun e=>k6 (eq_of_beq e))]
       by_cases k7:wd w 0=wOut
       ·rw[if_pos (show (wd w 0==[111,117,116])=true by rw[k7];decide),if_neg (by rw[k7];decide),if_neg (by rw[k7];decide)]
        have key:=w_ S k7
        by_cases h12:a.cnt=12
        ·rw[if_pos h12] at key ⊢;exact key
        ·rw[if_neg h12] at key ⊢;rw[if_neg (by rw[k7];decide)];exact key
       ·rw[if_neg (show ¬(wd w 0==[111,117,116])=true from fun e=>k7 (eq_of_beq e))]
        by_cases k8:wd w 0=wIf
        ·rw[if_pos (show (wd w 0==[105,102])=true by rw[k8];decide),if_neg (by rw[k8];decide),if_neg (by rw[k8];decide)]
         have key:=dh (w:=w) S 4 true (by simp)
         by_cases h12:a.cnt=12
         ·rw[if_pos h12] at key ⊢;exact key
         ·rw[if_neg h12] at key ⊢;rw[if_pos (.inl k8),decide_eq_true k8];exact key
        ·rw[if_neg (show ¬(wd w 0==[105,102])=true from fun e=>k8 (eq_of_beq e))]
         by_cases k9:wd w 0=wWhile
         ·rw[if_pos (show (wd w 0==[119,104,105,108,101])=true by rw[k9];decide),if_neg (by rw[k9];decide),if_neg (by rw[k9];decide)]
          have key:=dh (w:=w) S 5 false (by simp)
          by_cases h12:a.cnt=12
          ·rw[if_pos h12] at key ⊢;exact key
          ·rw[if_neg h12] at key ⊢;rw[if_pos (.inr k9),decide_eq_false k8];exact key
         ·rw[if_neg (show ¬(wd w 0==[119,104,105,108,101])=true from fun e=>k9 (eq_of_beq e))]
          by_cases k10:wd w 0=wElse
          ·rw[if_pos (show (wd w 0==[101,108,115,101])=true by rw[k10];decide),if_pos k10]
           exact sY S
          ·rw[if_neg (show ¬(wd w 0==[101,108,115,101])=true from fun e=>k10 (eq_of_beq e)),if_neg k10]
           by_cases k11:wd w 0=wEnd
           ·rw[if_pos (show (wd w 0==[101,110,100])=true by rw[k11];decide),if_pos k11]
            exact wZ S
           ·rw[if_neg (show ¬(wd w 0==[101,110,100])=true from fun e=>k11 (eq_of_beq e)),if_neg k11]
            have key:=oz S k7 k5 k6
            by_cases h12:a.cnt=12
            ·rw[if_pos h12] at key ⊢;exact key
            ·rw[if_neg h12] at key ⊢;rw[if_neg (fun c=>c.elim k8 k9)];exact key
end
theorem iH: ∀ (ls:List Wd) (r:RS) (a:As) (n:Nat),F7 r a→(Lk.lines r n ls).2=DI a n ls
 |[],r,a,n,_=>rfl
 |[l],r,a,n,S=>by
  unfold Lk.lines DI
  have hd:=S.dep
  by_cases c:l=[]∧a.AO=[]
  ·rw[if_pos c,if_pos ⟨by rw[c.1];rfl,by rw[hd,c.2];rfl⟩]
  ·rw[if_neg c,if_neg (fun e=>c ⟨List.length_eq_zero_iff.1 e.1,List.length_eq_zero_iff.1 (hd ▸ e.2)⟩)]
 |l::m::ls,r,a,n,S=>by
  have hw:(cut 32 l).length≠0:=fun e=>Lk.Ip 32 l (List.length_eq_zero_iff.1 e)
  have key:=sf S hw
  unfold Lk.lines DI
  cases ht:Lk.take r (cut 32 l) with
  |none=>
   cases hs:step a (cut 32 l) with
   |none=>rfl
   |some a'=>rw[ht,hs] at key;exact key.elim
  |some r'=>
   cases hs:step a (cut 32 l) with
   |none=>rw[ht,hs] at key;exact key.elim
   |some a'=>
    rw[ht,hs] at key
    exact iH (m::ls) r' a' (n+1) key
theorem wm:F7 {} ⟨[],false,0,[]⟩:=
 ⟨fun d hd=>by (cases hd),fun w _=>rfl,rfl,rfl,rfl,by simp,rfl,Nat.zero_le _,rfl,Nat.zero_le _,trivial⟩
theorem si (s:Wd) (h:s.length≤600):(Lk.read s).2=(Fz s).2:=by
 unfold Lk.read
 rw[if_neg (by omega),iH _ _ _ _ wm]
 exact (eU s).1
end Go.Proofs.YtgddmpmcnjlcjaaGreatDoor.Rf
