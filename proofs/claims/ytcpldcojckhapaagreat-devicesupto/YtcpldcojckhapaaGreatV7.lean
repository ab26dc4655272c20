import Derived.Test.YtcpldcojckhapaaGreatV4
set_option maxRecDepth 100000
set_option maxHeartbeats 16000000
set_option linter.all false
noncomputable section
namespace Go.Proofs.YtcpldcojckhapaaGreat
open Go.Conc Go.Proofs.Tryz Go.RowKit
open Go.ConcN (sumTo upd sumTo_upd upd_ne upd_same)
abbrev Tp:=Nat->Question->Nat
def rt(b:b_)(τ:Tp)(a:Nat):b_:={b with tape:=τ,drawn:=a}
@[simp] theorem n3 (a: b_)(c: Tp)(b: Nat) : (rt a c b).heap = a.heap := rfl
@[simp] theorem O0 (c: b_)(a: Tp)(b: Nat) : (rt c a b).tape = a := rfl
@[simp] theorem Mf (c: b_)(b: Tp)(a: Nat) : (rt c b a).drawn = a := rfl
def qa(a:b_):rt a a.tape a.drawn=a:=rfl
def tu(a:b_)(e b:Tp)(d c:Nat):rt (rt a e d) b c=rt a b c:=rfl
def rr{c:Type}(g:Result c)(d:Tp)(b:Nat):Result c:=
 match g with
 |.ok e a=>.ok e<|rt a d b
 |.halt f a=>.halt f (rt a d b)
def NE{b:Type}:Result b->b_
 |.ok _ a=>a
 |.halt _ a=>a
def ss:Halt->Prop
 |.panic _|.unsupported _|.stuck _=>True
 |_=>False
def VN(b:Sys):Prop:=∀a,∃c,Kernel.perform b a=.done (c,a)
def Nm(b:e_){e:Type}(c:e->Prop):Sem e->Prop
 |.pure h=>c h
 |.load _ _ a=>∀k,Nm b c<|a k
 |.store _ _ _ a=>Nm b c a
 |.new _ a=>∀d,Nm b c<|a d
 |.shape _ a=>∀m,Nm b c<|a m
 |.freeze _ _ a=>Nm b c a
 |.frozen _ a=>∀l,Nm b c<|a l
 |.getObj _ a=>∀j,Nm b c<|a j
 |.setObj _ _ a=>Nm b c a
 |.choose _ a=>∀n,Nm b c<|a n
 |.sys g a=>VN g/\∀d,Nm b c<|a d
 |.program a=>Nm b c<|a b
 |.mark f a=>(f≠.disable/\f≠.enable)/\Nm b c a
 |.halt i=>ss i
def pU(a:Event):Prop:=a.loc≠.mark .disable/\a.loc≠.mark .enable
def tv(e:Nat)(c:b_)(f:Tp)(d:Nat):Prop:=∀a,a<e->∀b,f (d+a) b=c.tape (c.drawn+a) b
def BH(a:e_)(e:b_)(j:Tp)(h:Nat)(f:Addr)(b:d_)(c:Addr)(i:f_)(d:Bool):
 (rt e j h).viewStore a f b c i d=(e.viewStore a f b c i d).map (λg=>(rt g.1 j h,g.2)):=by
 have k:World.seen a (rt e j h) f b c d=World.seen a e f b c d:=rfl;unfold World.viewStore;rw[k]
 cases s:tight a a.depth b with
 |false=>rfl
 |true=>
 cases World.seen a e f b c d with
 |error q=>rfl
 |ok g=>
 let⟨n,k,t,first,o,p⟩:=g
 cases i.bytes? with
 |none=>rfl
 |some bytes=>
 by_cases l:some bytes.length≠o.bytes?.map (·.length)
 .simp only[bind,Except.bind,pure,Except.pure,l,Y_,abZ,YY,Y5,ne_eq,not_false_eq_true];rfl
 .simp only[bind,Except.bind,pure,Except.pure,l,Y5,abZ,YY]
  generalize List.foldlM (m:=Except String) _ n p=r
  cases r<;>rfl
def wz(c:e_)(b:b_)(h:Tp)(f:Nat)(a:Addr)(d:f_)(e:Bool):
 (rt b h f).farStore c a d e=(b.farStore c a d e).map (λg=>(rt g.1 h f,g.2)):=by
 unfold World.farStore;simp only[n3];split
 .rw[BH]
  generalize World.viewStore c b _ _ a d e=r
  cases r<;>rfl
 .rfl
def zA{f:e_}{a c:b_}{h:List Addr}{d:Addr}{g:f_}{e:Bool}(i:a.farStore f d g e=.ok (c,h)):c.tape=a.tape/\c.drawn=a.drawn:=by have b:=wz f a a.tape a.drawn d g e;rw[qa,i]at b;simp only[Except.map,Except.ok.injEq,abx]at b;rw[b.1];exact⟨rfl,rfl⟩
def rr_run{L:Type}(b:e_)(x:L->Prop)(i:Sem L)(r:Nm b x i):∀a:b_,∃d,
 (NE<|i.run b a).tape=a.tape/\(NE<|i.run b a).drawn=a.drawn+d/\(∀g j,i.run b a=.ok g j->x g)/\(∀M j,i.run b a=.halt M j->ss M)/\
 ∀ab N,tv d a ab N->i.run b (rt a ab N)=rr (i.run b a) ab (N+d)/\∀al,i.events b (rt a ab N) al=i.events b a al:=by
 induction i with
 |pure g=>exact λa=>⟨0,rfl,rfl,(λg j M=>by simp only[Sem.run,ZT]at M;rw[<-M.1];exact r),(λM j e=>by simp[Sem.run]at e),λab N _=>⟨rfl,λal=>rfl⟩⟩
 |load l g d o=>
  intro a
  cases t:a.cell? g with
  |some m=>
   have e1:(Sem.load l g d).run b a=(d m).run b a:=by simp only[Sem.run,t]
   have e2:∀al,(Sem.load l g d).events b a al=(d m).events b a (al.push ⟨.cell g,false,l==.atomic⟩):=λal=>by simp only[Sem.events,Sem.runT,t]
   obtain⟨n,h1,h2,h3,h4,h5⟩:=o m (r m) a;refine⟨n,by rw[e1];exact h1,by rw[e1];exact h2,by rw[e1];exact h3,by rw[e1];exact h4,λab N hs=>?_⟩;have v:(rt a ab N).cell? g=some m:=t;have cQ:(Sem.load l g d).run b (rt a ab N)=(d m).run b (rt a ab N):=by simp only[Sem.run,v]
   have fu:∀al,(Sem.load l g d).events b (rt a ab N) al=(d m).events b (rt a ab N) (al.push ⟨.cell g,false,l==.atomic⟩):=λal=>by simp only[Sem.events,Sem.runT,v]
   exact RO
  |none=>
   cases hf:a.farLoad b g (l==.atomic)with
   |error M=>
    have e1:(Sem.load l g d).run b a=.halt M a:=by simp only[Sem.run,t,hf]
    have J:ss M:=by unfold World.farLoad at hf;exact Q9
    refine⟨0,by rw[e1];rfl,by rw[e1];rfl,(by rw[e1];intro g j i;cases i),(by rw[e1];intro y j i;cases i;exact J),λab N _=>?_⟩;have v:(rt a ab N).cell? g=none:=t;have C:(rt a ab N).farLoad b g (l==.atomic)=.error M:=hf;exact⟨by rw[e1];simp only[Sem.run,v,C];rfl,λal=>by simp only[Sem.events,Sem.runT,t,hf,v,C]⟩
   |ok i=>
    obtain⟨m,I⟩:=i;have e1:(Sem.load l g d).run b a=(d m).run b a:=by simp only[Sem.run,t,hf]
    have e2:∀al,(Sem.load l g d).events b a al=(d m).events b a (al++I.toArray.map (⟨.cell ·,false,l==.atomic⟩)):=λal=>by simp only[Sem.events,Sem.runT,t,hf]
    obtain⟨n,h1,h2,h3,h4,h5⟩:=o m (r m) a;refine⟨n,by rw[e1];exact h1,by rw[e1];exact h2,by rw[e1];exact h3,by rw[e1];exact h4,λab N hs=>?_⟩;have v:(rt a ab N).cell? g=none:=t;have C:(rt a ab N).farLoad b g (l==.atomic)=.ok (m,I):=hf;have cQ:(Sem.load l g d).run b (rt a ab N)=(d m).run b (rt a ab N):=by simp only[Sem.run,v,C]
    have fu:∀al,(Sem.load l g d).events b (rt a ab N) al=(d m).events b (rt a ab N) (al++I.toArray.map (⟨.cell ·,false,l==.atomic⟩)):=λal=>by simp only[Sem.events,Sem.runT,v,C]
    exact RO
 |store l g m d o=>
  intro a;by_cases A:(∃i,m=.agg i)\/(∃i,m=.tuple i)
  .obtain⟨O,e1⟩:∃O,∀a,(Sem.store l g m d).run b a=.halt (.stuck O) a:=by rcases A with⟨i,rfl⟩|⟨i,rfl⟩<;>exact⟨_,λa=>by simp only[Sem.run];rfl⟩
   have e2:∀a al,(Sem.store l g m d).events b a al=al:=by intro a al;rcases A with⟨i,rfl⟩|⟨i,rfl⟩<;>simp only[Sem.events,Sem.runT]
   exact⟨0,by rw[e1];rfl,by rw[e1];rfl,(by rw[e1];intro g j i;cases i),(by rw[e1];intro y j i;cases i;trivial),λab N _=>⟨by rw[e1,e1];rfl,λal=>by rw[e2,e2]⟩⟩
  .have e1:∀a:b_,(Sem.store l g m d).run b a=match a.cell? g with
    |some _=>if a.frozen? g then .halt (.unsupported<|.unsafePointer "a write to bytes that a string shares") a else d.run b (a.setCell g m)
    |none=>match a.farStore b g m (l==.atomic)with
     |.ok (a,_)=>d.run b a
     |.error M=>.halt M a:=by
    intro a;rw[Sem.run]
    .rfl
    .exact λi e=>A<|.inl ⟨i,e⟩
    .exact λi e=>A<|.inr ⟨i,e⟩
   have e2:∀(a:b_) al,(Sem.store l g m d).events b a al=match a.cell? g with
    |some _=>if a.frozen? g then al else d.events b (a.setCell g m) (al.push ⟨.cell g,true,l==.atomic⟩)
    |none=>match a.farStore b g m (l==.atomic)with
     |.ok (a,T)=>d.events b a<|al++T.toArray.map (⟨.cell ·,true,l==.atomic⟩)
     |.error M=>al:=by
    intro a al;unfold Sem.events;rw[Sem.runT]
    .cases a.cell? g with
     |some _=>simp only[];split<;>rfl
     |none=>simp only[];cases a.farStore b g m (l==.atomic)<;>rfl
    .exact λi e=>A<|.inl ⟨i,e⟩
    .exact λi e=>A<|.inr ⟨i,e⟩
   have S:∀ab N,(rt a ab N).frozen? g=a.frozen? g:=λ_ _=>rfl;have V:∀ab N,(rt a ab N).setCell g m=rt (a.setCell g m) ab N:=λ_ _=>rfl;have W:∀ab N,(rt a ab N).cell? g=a.cell? g:=λ_ _=>rfl;simp only[e1,e2,W,S,V,wz]
   cases t:a.cell? g with
   |some Y=>
    simp only[]
    cases X:a.frozen? g with
    |true=>exact⟨0,rfl,rfl,(by intro g j i;cases i),(by intro y j i;cases i;trivial),λab N _=>⟨rfl,λal=>rfl⟩⟩
    |false=>simp only[YY,Y5];obtain⟨n,h1,h2,h3,h4,h5⟩:=o r<|a.setCell g m;exact HA
   |none=>
    simp only[]
    cases hf:a.farStore b g m (l==.atomic)with
    |error M=>
     have J:ss M:=by unfold World.farStore at hf;exact Q9
     exact⟨0,rfl,rfl,(by intro g j i;cases i),(by intro y j i;cases i;exact J),λab N _=>⟨rfl,λal=>rfl⟩⟩
    |ok i=>
     let⟨K,I⟩:=i;let⟨t1,t2⟩:=zA hf;simp only[Except.map];obtain⟨n,h1,h2,h3,h4,h5⟩:=o r K;refine⟨n,h1.trans t1,by rw[h2,t2],h3,h4,λab N hs=>?_⟩;have w:tv n K ab N:=λu F q=>by rw[hs u F q,t1,t2]
     exact⟨(h5 ab N w).1,λal=>(h5 ab N w).2 _⟩
 |new k d o=>intro a;obtain⟨n,h1,h2,h3,h4,h5⟩:=o a.heap.size (r _) {a with heap:=a.heap.push k};exact HA
 |shape h d o=>intro a;obtain⟨n,h1,h2,h3,h4,h5⟩:=o (a.shape? h) (r _) a;exact HA
 |freeze g l d o=>
  intro a;have t1:(a.freeze g l).tape=a.tape/\(a.freeze g l).drawn=a.drawn:=by unfold World.freeze;split<;>exact⟨rfl,rfl⟩
  have t2:∀ab N,(rt a ab N).freeze g l=rt (a.freeze g l) ab N:=λab N=>by unfold World.freeze;split<;>rfl
  obtain⟨n,h1,h2,h3,h4,h5⟩:=o r<|a.freeze g l;refine⟨n,h1.trans t1.1,by rw[<-t1.2];exact h2,h3,h4,λab N hs=>?_⟩;have w:tv n (a.freeze g l) ab N:=λu F q=>by rw[hs u F q,t1.1,t1.2]
  refine⟨?_,λal=>?_⟩
  .show d.run b ((rt a ab N).freeze g l)=_;rw[t2];exact(h5 ab N w).1
  .show d.events b ((rt a ab N).freeze g l) al=_;rw[t2];exact(h5 ab N w).2 _
 |frozen g d o=>intro a;obtain⟨n,h1,h2,h3,h4,h5⟩:=o (a.frozen? g) (r _) a;exact HA
 |getObj h d o=>
  intro a
  have iv:∀B,(∀ab N,(Sem.getObj h d).run b (rt a ab N)=.halt (.stuck B) (rt a ab N))->(∀ab N al,(Sem.getObj h d).events b (rt a ab N) al=al)->∃n,
   (NE<|(Sem.getObj h d).run b a).tape=a.tape/\(NE<|(Sem.getObj h d).run b a).drawn=a.drawn+n/\(∀g j,(Sem.getObj h d).run b a=.ok g j->x g)/\(∀M j,(Sem.getObj h d).run b a=.halt M j->ss M)/\
   ∀ab N,tv n a ab N->(Sem.getObj h d).run b (rt a ab N)=rr ((Sem.getObj h d).run b a) ab (N+n)/\∀al,(Sem.getObj h d).events b (rt a ab N) al=(Sem.getObj h d).events b a al:=by
   intro B h1 h2;have s:=h1 a.tape a.drawn;have E:=h2 a.tape a.drawn;rw[qa]at s;simp only[qa]at E;exact⟨0,by rw[s];rfl,by rw[s];rfl,(by rw[s];intro g j i;cases i),(by rw[s];intro y j i;cases i;trivial),λab N _=>⟨by rw[h1,s];rfl,λal=>by rw[h2,E]⟩⟩
  cases hr:a.heap[h]? with
  |none=>exact iv _ (λab N=>by simp only[Sem.run,n3,hr];rfl) (λab N al=>by simp only[Sem.events,Sem.runT,n3,hr])
  |some k=>
   have step:∀k,a.heap[h]?=some k->(∀c e f,k=.cells c e f->False)->∃n,
    (NE<|(Sem.getObj h d).run b a).tape=a.tape/\(NE<|(Sem.getObj h d).run b a).drawn=a.drawn+n/\(∀g j,(Sem.getObj h d).run b a=.ok g j->x g)/\(∀M j,(Sem.getObj h d).run b a=.halt M j->ss M)/\
    ∀ab N,tv n a ab N->(Sem.getObj h d).run b (rt a ab N)=rr ((Sem.getObj h d).run b a) ab (N+n)/\∀al,(Sem.getObj h d).events b (rt a ab N) al=(Sem.getObj h d).events b a al:=by
    intro k hr aO;have e1:∀ab N,(Sem.getObj h d).run b (rt a ab N)=(d k).run b (rt a ab N):=λab N=>by cases k<;>first|(exfalso;exact aO _ _ _ rfl)|simp only[Sem.run,n3,hr]
    have e2:∀ab N al,(Sem.getObj h d).events b (rt a ab N) al=(d k).events b (rt a ab N) (al.push ⟨.obj h,false,k.isChan⟩):=λab N al=>by cases k<;>first|(exfalso;exact aO _ _ _ rfl)|simp only[Sem.events,Sem.runT,n3,hr]
    have cQ:=e1 a.tape a.drawn;have fu:=e2 a.tape a.drawn;rw[qa]at cQ;simp only[qa]at fu;obtain⟨n,h1,h2,h3,h4,h5⟩:=o k (r k) a;exact⟨n,by rw[cQ];exact h1,by rw[cQ];exact h2,by rw[cQ];exact h3,by rw[cQ];exact h4,λab N hs=>⟨by rw[e1,cQ,(h5 ab N hs).1],λal=>by rw[e2,fu,(h5 ab N hs).2]⟩⟩
   by_cases aO:∃c e f,k=.cells c e f
   .exact Q8
   .exact step k hr λc e f i=>aO ⟨c,e,f,i⟩
 |setObj h k d o=>
  intro a
  have iv:∀B,(∀ab N,(Sem.setObj h k d).run b (rt a ab N)=.halt (.stuck B) (rt a ab N))->(∀ab N al,(Sem.setObj h k d).events b (rt a ab N) al=al)->∃n,
   (NE<|(Sem.setObj h k d).run b a).tape=a.tape/\(NE<|(Sem.setObj h k d).run b a).drawn=a.drawn+n/\(∀g j,(Sem.setObj h k d).run b a=.ok g j->x g)/\(∀M j,(Sem.setObj h k d).run b a=.halt M j->ss M)/\
   ∀ab N,tv n a ab N->(Sem.setObj h k d).run b (rt a ab N)=rr ((Sem.setObj h k d).run b a) ab (N+n)/\∀al,(Sem.setObj h k d).events b (rt a ab N) al=(Sem.setObj h k d).events b a al:=by
   intro B h1 h2;have s:=h1 a.tape a.drawn;have E:=h2 a.tape a.drawn;rw[qa]at s;simp only[qa]at E;exact⟨0,by rw[s];rfl,by rw[s];rfl,(by rw[s];intro g j i;cases i),(by rw[s];intro y j i;cases i;trivial),λab N _=>⟨by rw[h1,s];rfl,λal=>by rw[h2,E]⟩⟩
  cases hr:a.heap[h]? with
  |none=>exact iv _ (λab N=>by simp only[Sem.run,n3,hr];rfl) (λab N al=>by simp only[Sem.events,Sem.runT,n3,hr])
  |some D=>
   have step:∀D,a.heap[h]?=some D->(∀c e f,D=.cells c e f->False)->∃n,
    (NE<|(Sem.setObj h k d).run b a).tape=a.tape/\(NE<|(Sem.setObj h k d).run b a).drawn=a.drawn+n/\(∀g j,(Sem.setObj h k d).run b a=.ok g j->x g)/\(∀M j,(Sem.setObj h k d).run b a=.halt M j->ss M)/\
    ∀ab N,tv n a ab N->(Sem.setObj h k d).run b (rt a ab N)=rr ((Sem.setObj h k d).run b a) ab (N+n)/\∀al,(Sem.setObj h k d).events b (rt a ab N) al=(Sem.setObj h k d).events b a al:=by
    intro R hr aO;have e1:∀ab N,(Sem.setObj h k d).run b (rt a ab N)=d.run b (rt {a with heap:=a.heap.setIfInBounds h k} ab N):=λab N=>by cases R<;>first|(exfalso;exact aO _ _ _ rfl)|(simp only[Sem.run,n3,hr];rfl)
    have e2:∀ab N al,(Sem.setObj h k d).events b (rt a ab N) al=d.events b (rt {a with heap:=a.heap.setIfInBounds h k} ab N) (al.push ⟨.obj h,true,k.isChan⟩):=λab N al=>by cases R<;>first|(exfalso;exact aO _ _ _ rfl)|(simp only[Sem.events,Sem.runT,n3,hr];rfl)
    have cQ:(Sem.setObj h k d).run b a=d.run b {a with heap:=a.heap.setIfInBounds h k}:=e1 a.tape a.drawn;have fu:∀al,(Sem.setObj h k d).events b a al=d.events b {a with heap:=a.heap.setIfInBounds h k} (al.push ⟨.obj h,true,k.isChan⟩):=e2 a.tape a.drawn;obtain⟨n,h1,h2,h3,h4,h5⟩:=o r {a with heap:=a.heap.setIfInBounds h k};exact⟨n,by rw[cQ];exact h1,by rw[cQ];exact h2,by rw[cQ];exact h3,by rw[cQ];exact h4,λab N hs=>⟨by rw[e1,cQ,(h5 ab N hs).1],λal=>by rw[e2,fu,(h5 ab N hs).2]⟩⟩
   by_cases aO:∃c e f,D=.cells c e f
   .exact Q8
   .exact step D hr λc e f i=>aO ⟨c,e,f,i⟩
 |choose q d o=>
  intro a;have e1:∀a:b_,(Sem.choose q d).run b a=if q.forced then(d 0).run b a else(d<|q.cut<|a.tape a.drawn q).run b {a with drawn:=a.drawn+1}:=λa=>by rw[Sem.run]
  have e2:∀(a:b_) al,(Sem.choose q d).events b a al=if q.forced then(d 0).events b a al else(d<|q.cut<|a.tape a.drawn q).events b {a with drawn:=a.drawn+1} al:=λa al=>by unfold Sem.events;rw[Sem.runT];split<;>rfl
  cases P:q.forced with
  |true=>simp only[e1,e2,P,Y_];obtain⟨n,h1,h2,h3,h4,h5⟩:=o 0 (r _) a;exact⟨n,h1,h2,h3,h4,h5⟩
  |false=>
   simp only[e1,e2,P,YY,Y5];obtain⟨n,h1,h2,h3,h4,h5⟩:=o (q.cut<|a.tape a.drawn q) (r _) {a with drawn:=a.drawn+1};refine⟨n+1,h1,by rw[h2];show a.drawn+1+n=_;omega,h3,h4,λab N hs=>?_⟩;have U:ab N q=a.tape a.drawn q:=hs 0 om q;have w:tv n {a with drawn:=a.drawn+1} ab<|N+1:=λu F q=>by have:=hs (u+1) om q;rw[show N+1+u=N+(u+1)by omega,this,show a.drawn+1+u=a.drawn+(u+1)by omega]
   simp only[O0,Mf,U];obtain⟨h6,h7⟩:=h5 ab (N+1) w;refine⟨?_,λal=>h7 al⟩;rw[show N+(n+1)=N+1+n by omega];exact h6
 |sys c d o=>
  intro a;let⟨t,r⟩:=r;let⟨h,hr⟩:=t a.os;have Q:∀j:b_,j.os=a.os->j.sys c=(h,j):=λj z=>by unfold World.sys;rw[z,hr,World.ask];cases h<;>first|rfl|(simp only[<-z])
  have e1:∀j:b_,j.os=a.os->(Sem.sys c d).run b j=(d h).run b j:=λj z=>by rw[Sem.run,Q j z]
  have e2:∀(j:b_) al,j.os=a.os->(Sem.sys c d).events b j al=(d h).events b j (al.push ⟨.output,true,false⟩):=λj al z=>by unfold Sem.events;rw[Sem.runT,Q j z]
  rw[e1 a rfl];let⟨n,h1,h2,h3,h4,h5⟩:=o h (r h) a;refine⟨n,h1,h2,h3,h4,λab N hs=>?_⟩;rw[e1 (rt a ab N) rfl];refine⟨(h5 ab N hs).1,λal=>?_⟩;rw[e2 (rt a ab N) al rfl,e2 a al rfl];exact(h5 ab N hs).2 _
 |program d o=>intro a;let⟨n,h1,h2,h3,h4,h5⟩:=o b r a;exact HA
 |mark l d o=>intro a;let⟨n,h1,h2,h3,h4,h5⟩:=o r.2 a;exact HA
 |halt M=>exact λa=>⟨0,rfl,rfl,(λg j e=>by simp[Sem.run]at e),(λy j e=>by simp only[Sem.run,Result.halt.injEq]at e;rw[<-e.1];exact r),λab N _=>⟨rfl,λal=>rfl⟩⟩
def Mg{i:Type}(j:e_)(n:i->Prop)(a:Sem i)(hx:Nm j n a):∀(c:b_) (b:Array Event),(∀e∈b,pU e)->∀e∈a.events j c b,pU e:=by
 induction a with
 |pure f=>exact λc b M=>M
 |load g f d bP=>
  intro c b M;unfold Sem.events;rw[Sem.runT];split
  .exact Rn
  .split
   .exact bP _ (hx _) _ _ (by
     intro e he;rcases abB.1 he with he|he
     .exact M e he
     .obtain⟨a,_,rfl⟩:=Array.mem_map.1 he;exact⟨si,si⟩)
   .exact M
 |store g f l d bP=>
  intro c b M;by_cases h:(∃a,l=.agg a)\/(∃a,l=.tuple a)
  .rcases h with⟨a,rfl⟩|⟨a,rfl⟩<;>(unfold Sem.events;simp only[Sem.runT];exact M)
  .unfold Sem.events;rw[Sem.runT]
   .split
    .split
     .exact M
     .exact Ru
    .split
     .exact bP hx _ _ (by
       intro e he;rcases abB.1 he with he|he
       .exact M e he
       .obtain⟨a,_,rfl⟩:=Array.mem_map.1 he;exact⟨si,si⟩)
     .exact M
   .exact λa e=>h<|.inl ⟨a,e⟩
   .exact λa e=>h<|.inr ⟨a,e⟩
 |new m d bP=>exact λc b M=>bP _ (hx _) _ _ M
 |shape k d bP=>exact λc b M=>bP _ (hx _) _ _ M
 |freeze f g d bP=>exact λc b M=>bP hx _ _ M
 |frozen f d bP=>exact λc b M=>bP _ (hx _) _ _ M
 |getObj k d bP=>
  intro c b M;unfold Sem.events;rw[Sem.runT];split
  .exact M
  .exact Rn
  .exact M
 |setObj k m d bP=>
  intro c b M;unfold Sem.events;rw[Sem.runT];split
  .exact M
  .exact Ru
  .exact M
 |choose q d bP=>
  intro c b M;unfold Sem.events;rw[Sem.runT];split
  .exact bP _ (hx _) _ _ M
  .exact bP _ (hx _) _ _ M
 |sys o d bP=>intro c b M;unfold Sem.events;rw[Sem.runT];exact bP _ (hx.2 _) _ _ (by intro e he;rcases abq.1 he with he|rfl;exact M e he;exact⟨si,si⟩)
 |program d bP=>exact λc b M=>bP _ hx _ _ M
 |mark g d bP=>
  intro c b M;unfold Sem.events;rw[Sem.runT]
  exact bP hx.2 _ _ (by
   intro e he;rcases abq.1 he with he|rfl
   .exact M e he
   .exact⟨λa=>hx.1.1<|Loc.mark.inj a,λa=>hx.1.2<|Loc.mark.inj a⟩)
 |halt M=>exact λc b M=>M
section
variable {P:e_}
def lQ{h o:Type}{Q:h->Prop}{i:o->Prop}{g:Sem h}{k:h->Sem o}(b:Nm P Q g)(q:∀d,Q d->Nm P i (k d)):Nm P i (g>>=k):=by
 show Nm P i (g.bind k)
 induction g with
 |pure d=>exact q d b
 |load m d c a=>exact λl=>a l<|b l
 |store m d l c a=>exact a b
 |new f c a=>exact λe=>a e<|b e
 |shape e c a=>exact λp=>a p<|b p
 |freeze d j c a=>exact a b
 |frozen d c a=>exact λn=>a n<|b n
 |getObj e c a=>exact λf=>a f<|b f
 |setObj e f c a=>exact a b
 |choose t c a=>exact λj=>a j<|b j
 |sys r c a=>exact⟨b.1,λe=>a e<|b.2 e⟩
 |program c a=>exact a P b
 |mark m c a=>exact⟨b.1,a b.2⟩
 |halt s=>exact b
def ru{j:Type}{Q l:j->Prop}{h:Sem j}(b:Nm P Q h)(n:∀d,Q d->l d):Nm P l h:=by
 induction h with
 |pure d=>exact n d b
 |load k d c a=>exact λi=>a i<|b i
 |store k d i c a=>exact a b
 |new f c a=>exact λe=>a e<|b e
 |shape e c a=>exact λo=>a o<|b o
 |freeze d g c a=>exact a b
 |frozen d c a=>exact λm=>a m<|b m
 |getObj e c a=>exact λf=>a f<|b f
 |setObj e f c a=>exact a b
 |choose q c a=>exact λg=>a g<|b g
 |sys p c a=>exact⟨b.1,λe=>a e<|b.2 e⟩
 |program c a=>exact a P b
 |mark k c a=>exact⟨b.1,a b.2⟩
 |halt n=>exact b
def Nt(P:e_){a:Type}(b:Sem a):Prop:=Nm P (λ_=>True) b
def kF{b e:Type}{c:Sem b}{d:b->Sem e}(f:Nt P c)(g:∀a,Nt P<|d a):Nt P (c>>=d):=lQ f λa _=>g a
def Mh{a e:Type}{b:Sem a}{c:a->e}(d:Nt P b):Nt P (Functor.map c b):=lQ d λ_ _=>trivial
def pt{d:Type}{a:Prop}[Decidable a]{c b:Sem d}(f:Nt P c)(e:Nt P b):Nt P (if a then c else b):=by split<;>assumption
def n0{a:Type}(b:a):Nt P (pure b:Sem a):=trivial
def nw{a:Type}(b:String):Nt P (stuck b:Sem a):=trivial
def n6{a:Type}(b:Unsupported):Nt P (unsupported b:Sem a):=trivial
def Fz{b:Type}(a:f_):Nt P (goPanic a:Sem b):=trivial
def BI(a:Addr)(b:Mode):Nt P (load a b):=λ_=>trivial
def Dw(b:Addr)(a:f_)(c:Mode):Nt P (store b a c):=trivial
def IE(a:Obj):Nt P (newObj a):=λ_=>trivial
def Mi(a:Nat):Nt P (shape a):=λ_=>trivial
def IF(a:Addr)(b:Nat):Nt P (freeze a b):=trivial
def IG(a:Addr):Nt P (frozen a):=λ_=>trivial
def IH(a:Nat):Nt P (getObj a):=λ_=>trivial
def qM(a:Question):Nt P (choose a):=λ_=>trivial
def tX:Nt P program:=trivial
def AC:Nt P<|mark .noRoom:=⟨⟨si,si⟩,trivial⟩
def vE(a:g_):Nt P (mark<|.extern a):=⟨⟨si,si⟩,trivial⟩
def II:Nt P<|sys .env:=⟨λ_=>⟨_,rfl⟩,λ_=>trivial⟩
def lH{a:Prop}(b:a:=by repeat' first|exact trivial|assumption|(with_reducible first|apply tX|apply nw|apply qb|apply n6|apply lF|apply qN|apply ul|apply Mj|apply s7|apply BI|apply qt|apply IE|apply vG|apply IJ|apply IK|apply Fz|apply nG|apply vE|apply qM|apply FA|apply IH|apply Mi|apply Dx|apply IL|apply IF|apply IG|apply BJ|apply Dy|apply IM|apply wB|apply AC|apply AD|apply IN|apply Dz|apply uM|apply DC|apply rx|apply tx|apply yD|apply zB|apply yE|apply s8|apply xQ|apply uk|apply yF|apply G5|apply uN|apply tY|apply uO|apply yG|apply II|apply DD|apply FB|apply DE|apply FC|apply BK|apply BL|apply zC|apply rL|apply DF|apply zD|apply DI|apply AE|apply xw|apply Mk|apply Dw|apply TD|apply TE|apply Ml|apply BM|apply TF|apply TG|apply DJ|apply FD|apply O1|apply BN|apply xx|apply yH|apply FE|apply FF|apply FG|apply Mm|apply DK|apply Mn|apply IP|apply IQ|apply vH|apply IR|apply FH|apply vI|apply vJ|apply vK|apply vL|apply vM|apply yI|apply tg|apply zE|apply zF|apply DL|apply zG|apply tz|apply DM|apply G6|apply BO|apply n0|apply Mh|apply pt|apply kF|intro _)|split|dsimp only|apply kF):a:=b
def qb(a:d_):Nt P (typeInfo a):=by unfold typeInfo;exact lH
def lF(a:d_):Nt P (underlying a):=by unfold underlying;exact lH
def uM(a:d_):Nt P (zeroValue a):=by unfold zeroValue;exact lH
def s7(a:d_):Nt P (sizeOf a):=by unfold sizeOf;exact lH
def Mj(a:d_):Nt P (isAgg a):=by unfold isAgg;exact lH
def qN(d:Addr):∀(b c:Nat) (a:Array f_),Nt P (loadCellsFrom d c b a)
 |0,_,_=>trivial
 |b+1,c,a=>kF (BI _ _) λe=>qN d b (c+1) (a.push e)
def qt(c:Addr):∀(a:List f_) (b:Nat),Nt P (storeCells c a b)
 |[],_=>trivial
 |_::a,b=>kF (Dw _ _ _) λ_=>qt c a (b+1)
def ul(a:Addr)(b:Nat):Nt P (loadCells a b):=by unfold loadCells;exact lH
def rx(b:d_)(a:Addr):Nt P (loadVar b a):=by unfold loadVar;exact lH
def Dz(c:d_)(b:Addr)(a:f_):Nt P (storeVar c b a):=by unfold storeVar;exact lH
def vG(b:d_)(a:Array f_):Nt P (newRow b a):=by unfold newRow;exact lH
def IK(b:d_)(a:f_):Nt P (newVar b a):=by unfold newVar;exact lH
def IJ(a:d_):Nt P (elemOf a):=by unfold elemOf;exact lH
def uN(b:d_)(a:Array f_)(c:Nat):Nt P (part b a c):=by unfold part;exact lH
def nG{b:Type}(a:RuntimeError):Nt P ((runtimePanic a:Sem b)):=by unfold runtimePanic;exact lH
def yD{b:Type}(d:IntKind)(c e:Int)(a:BoundsCode):Nt P ((boundsPanic d c e a:Sem b)):=by unfold boundsPanic;exact lH
def FA(a:f_):Nt P (asIntOf a):=by unfold asIntOf;exact lH
def xQ(a:f_):Nt P (asInt a):=by unfold asInt;exact lH
def AE(a:f_):Nt P (asBool a):=by unfold asBool;exact lH
def s8(a:f_):Nt P (asAddr a):=by unfold asAddr;exact lH
def FI(a:d_):Nt P (typeStr a):=by unfold typeStr;exact lH
def IL(a:Nat):Nt P (viewAt a):=by unfold viewAt;exact lH
def Dx(a:Nat):Nt P (numberAt a):=by unfold numberAt;exact lH
def FH(a:Nat):Nt P (cellsIn a):=by unfold cellsIn;exact lH
def DF(b:Addr)(a:Bool):Nt P (asNumber b a):=by unfold asNumber;exact lH
def rL(a:Addr):Nt P (behindNumber a):=by unfold behindNumber;exact lH
def IM(a:Addr):Nt P (noView a):=by unfold noView;exact lH
def vH(a:Addr):Nt P (markStringish a):=by unfold markStringish;exact lH
def BJ(a:Addr):Nt P (stringish a):=by unfold stringish;exact lH
def Dy(b a:Addr):Nt P (mayBeOne b a):=by unfold mayBeOne;exact lH
def wB(b a:Addr):Nt P (sameAddr b a):=by unfold sameAddr;exact lH
def yJ(b a:Option Addr):Nt P (samePointer b a):=by unfold samePointer;exact lH
def tY(a:Nat):Nt P (askRoom a):=by unfold askRoom;exact lH
def AD(a:Addr):Nt P (byteOf a):=by unfold byteOf;exact lH
def IN(b:Addr)(c a:Nat):Nt P (partAt b c a):=by unfold partAt;exact lH
def tx(b:Addr)(a:Field):Nt P (fieldPlace b a):=by unfold fieldPlace;exact lH
def yF(a:Addr)(c:d_)(b:Nat):Nt P (variablesAt a c b):=by unfold variablesAt;exact lH
def BO(c:Addr)(b:a_)(a:Nat):Nt P (loadBytes c b a):=by
 induction a generalizing c b with
 |zero=>exact trivial
 |succ a d=>
  unfold loadBytes
  repeat' first|exact trivial|assumption|apply d|with_reducible apply BI|with_reducible apply nw|with_reducible apply n0|with_reducible apply pt|with_reducible apply kF|with_reducible intro _|split|dsimp only|apply kF
def Mo(b:d_)(a:Bool)(c:f_):Nt P (Instr.alloc b a c):=by unfold Instr.alloc;exact lH
def DC(a:f_):Nt P (Instr.sureAddr a):=by unfold Instr.sureAddr;exact lH
def IS(b:d_)(a:f_):Nt P (Instr.loadAt b a):=by unfold Instr.loadAt;exact lH
def FJ(b:d_)(a c:f_):Nt P (Instr.storeAt b a c):=by unfold Instr.storeAt;exact lH
def FK(b:d_)(a:f_)(c:Nat):Nt P (Instr.fieldAt b a c):=by unfold Instr.fieldAt;exact lH
def FL(b:d_)(a c:f_):Nt P (Instr.indexAt b a c):=by unfold Instr.indexAt;exact lH
def zB(a:f_)(b:Nat)(c:BoundsCode):Nt P (Instr.sliceBound a b c):=by unfold Instr.sliceBound;exact lH
def yE(d:Bool)(f a:Nat)(c e b:Option f_):Nt P (Instr.sliceBounds d f a c e b):=by unfold Instr.sliceBounds;exact lH
def uk(a:d_)(e:f_)(c d b:Option f_):Nt P (Instr.slice a e c d b):=by unfold Instr.slice;exact lH
def FM(a:d_)(e:f_)(c d b:Option f_):Nt P (Instr.sliceAt a e c d b):=by unfold Instr.sliceAt;exact lH
def TH(b:d_)(a:f_):Nt P (Instr.box b a):=by unfold Instr.box;exact lH
def wC{d f:Type}(a:d->Sem f)(e:∀b,Nt P<|a b):∀c:List d,Nt P (c.mapM a)
 |[]=>by rw[List.mapM_nil];trivial
 |b::c=>by rw[List.mapM_cons];exact kF (e b) λ_=>kF (wC a e c) λ_=>trivial
def G5{b e:Type}(a:b->Sem e)(f:∀c,Nt P<|a c)(d:Array b):Nt P (d.mapM a):=by rw[Array.mapM_eq_mapM_toList];exact Mh (wC a f _)
def Mp(b:d_)(a:Array<|Nat×f_):Nt P (Instr.build b a):=by unfold Instr.build;exact lH
def zH(b:d_)(c:Nat)(a:Array<|Nat×f_):Nt P (Instr.buildSlice b c a):=by unfold Instr.buildSlice;exact lH
def vN(b:d_)(a:f_):Nt P (Instr.makeInterface b a):=by unfold Instr.makeInterface;exact lH
def BP(b:d_)(a c:f_):Nt P (Instr.makeSlice b a c):=by unfold Instr.makeSlice;exact lH
def uO(b:d_)(a c:f_):Nt P (Instr.index b a c):=by unfold Instr.index;exact lH
def zI(a:f_)(c d:d_)(b:Bool):Nt P (Instr.typeAssert a c d b):=by unfold Instr.typeAssert;exact lH
def yG(a:f_)(b:Nat):Nt P (Instr.extract a b):=by unfold Instr.extract;exact lH
def DD:Nt P Instr.panicnil:=by unfold Instr.panicnil;exact lH
def Mq(a:f_):Nt P (Instr.panic a):=by unfold Instr.panic;exact lH
def DE(c:BinOp)(a:IntKind)(d b:Int):Nt P (Op.intArith c a d b):=by unfold Op.intArith;exact lH
def FB(c:BinOp)(a:IntKind)(d b:Int):Nt P (Op.intBits c a d b):=by unfold Op.intBits;exact lH
def IQ(b:BinOp)(c a:Int):Nt P (Op.intCmp b c a):=by unfold Op.intCmp;exact lH
def IP(c:BinOp)(a:IntKind)(d b:Int):Nt P (Op.intDiv c a d b):=by unfold Op.intDiv;exact lH
def Mn(a:BinOp)(d:IntKind)(c:Int)(b:IntKind)(e:Int):Nt P (Op.shift a d c b e):=by unfold Op.shift;exact lH
def DK(b:BinOp)(c a:a_):Nt P (Op.stringOp b c a):=by unfold Op.stringOp;exact lH
def Mr(a:UnOp)(b:f_):Nt P (Op.unary a b):=by unfold Op.unary;exact lH
end
section
variable {P:e_}
def ry{f d:Type}(e:f->d->Sem (ForInStep d))(g:∀b a,Nt P<|e b a):∀(c:List f) (a:d),Nt P (forIn c a e)
 |[],a=>by rw[List.forIn_nil];trivial
 |b::c,a=>by
  rw[List.forIn_cons];refine kF (g b a) λh=>?_
  cases h with
  |done a=>exact trivial
  |yield a=>exact ry e g c a
def rW{d c:Type}(f:Array d)(b:c)(a:d->c->Sem (ForInStep c))(g:∀e b,Nt P<|a e b):Nt P (forIn f b a):=by rw[<-Array.forIn_toList];exact ry a g _ _
def tA{c:Type}(e:Std.Legacy.Range)(b:c)(a:Nat->c->Sem (ForInStep c))(f:∀d b,Nt P<|a d b):Nt P (forIn e b a):=by rw[Std.Legacy.Range.forIn_eq_forIn_range'];exact ry a f _ _
def FC(a:Nat)(c:d_)(d b:f_):Nt P (Op.equalIn a c d b):=by
 induction a generalizing c d b with
 |zero=>exact trivial
 |succ a e=>
  unfold Op.equalIn
  repeat' first|exact trivial|assumption|apply e|apply rW|apply tA|with_reducible apply uk|with_reducible apply AD|with_reducible apply yJ|with_reducible apply wB|with_reducible apply rL|with_reducible apply FI|with_reducible apply nG|with_reducible apply uN|with_reducible apply s7|with_reducible apply lF|with_reducible apply qb|with_reducible apply tX|with_reducible apply qM|with_reducible apply n6|with_reducible apply nw|with_reducible apply n0|with_reducible apply pt|with_reducible apply kF|with_reducible intro _|split|dsimp only|apply kF
def BK(a:Nat)(c:d_)(d b:f_):Nt P (Op.eqGuardIn a c d b):=by
 induction a generalizing c d b with
 |zero=>exact trivial
 |succ a e=>
  unfold Op.eqGuardIn
  repeat' first|exact trivial|assumption|apply e|apply rW|apply tA|with_reducible apply uN|with_reducible apply s7|with_reducible apply lF|with_reducible apply n6|with_reducible apply n0|with_reducible apply pt|with_reducible apply kF|with_reducible intro _|split|dsimp only|apply kF
def Mm(b:d_)(c a:f_):Nt P (Op.equal b c a):=by unfold Op.equal;exact lH
def FN(c:BinOp)(b:d_)(d e:Operand)(a f:f_):Nt P (eqGuard c b d e a f):=by unfold eqGuard;exact lH
def BL(b a:Addr):Nt P (Op.twoPlaces b a):=by unfold Op.twoPlaces;exact lH
def FG(b:IntKind)(c a:Addr):Nt P (Op.addrSub b c a):=by unfold Op.addrSub;exact lH
def FF(c:BinOp)(b a:Addr):Nt P (Op.addrCmp c b a):=by unfold Op.addrCmp;exact lH
def FE(a:IntKind)(b:Addr)(c:Int):Nt P (Op.addrMod a b c):=by unfold Op.addrMod;exact lH
def zC(a:Array d_)(b:d_)(v:Array f_):Nt P (Builtin.unsafeAdd_ a b v):=by unfold Builtin.unsafeAdd_;exact QP
def yH(b:d_)(c a:f_):Nt P (movedNumber b c a):=by unfold movedNumber;exact lH
def xx(b:d_)(c a:f_):Nt P (movedPointer b c a):=by unfold movedPointer;exact lH
def zD(c:BinOp)(a:FloatKind)(d b:Nat):Nt P (Op.floatArith c a d b):=by unfold Op.floatArith;exact lH
def DI(c:BinOp)(a:FloatKind)(d b:Nat):Nt P (Op.floatCmp c a d b):=by unfold Op.floatCmp;exact lH
def xw(c:FloatKind)(b:Nat)(a:FloatKind):Nt P (Conv.floatToFloat c b a):=by unfold Conv.floatToFloat;exact lH
def Mk(c:BinOp)(a:FloatKind)(d b:Nat):Nt P (Op.Complex.arith c a d b):=by unfold Op.Complex.arith;exact lH
def TG(c:BinOp)(a:FloatKind)(d b:Nat):Nt P (Op.Complex.cmp c a d b):=by unfold Op.Complex.cmp;exact lH
def O1(b:FloatKind)(a:Nat)(c:FloatKind):Nt P (Op.Complex.conv b a c):=by unfold Op.Complex.conv;exact lH
def Ml(b a:Nat):Nt P (Op.Complex.add b a):=by unfold Op.Complex.add;exact lH
def TE(b a:Nat):Nt P (Op.Complex.sub b a):=by unfold Op.Complex.sub;exact lH
def TD(b a:Nat):Nt P (Op.Complex.mul b a):=by unfold Op.Complex.mul;exact lH
def TF(b a:Nat):Nt P (Op.Complex.quo b a):=by unfold Op.Complex.quo;exact lH
def FD(c b a d:Nat):Nt P (Op.Complex.product c b a d):=by unfold Op.Complex.product;exact lH
def BM(e c d a b:Nat):Nt P (Op.Complex.corrected e c d a b):=by unfold Op.Complex.corrected;exact lH
def DJ(c b a d:Nat):Nt P (Op.Complex.quotient c b a d):=by unfold Op.Complex.quotient;exact lH
def BN(d:BinOp)(e:FloatKind)(c f a b:Nat):Nt P (Op.complexOp d e c f a b):=by unfold Op.complexOp;exact lH
def Ms(c:BinOp)(b:d_)(d a:f_):Nt P (binOp c b d a):=by unfold binOp;exact lH
end
section
variable {P:e_}
def DL(a:IntKind)(b:Int):Nt P (Conv.intToInt a b):=by unfold Conv.intToInt;exact lH
def zF(a:FloatKind)(b:Int):Nt P (Conv.intToFloat a b):=by unfold Conv.intToFloat;exact lH
def zE(b:FloatKind)(c:Nat)(a:IntKind):Nt P (Conv.floatToInt b c a):=by unfold Conv.floatToInt;exact lH
def tg(c:FloatKind)(d a:Nat)(b:FloatKind):Nt P (Conv.complexToComplex c d a b):=by unfold Conv.complexToComplex;exact lH
def yI(a:Int):Nt P (Conv.intToString a):=by unfold Conv.intToString;exact lH
def vM(b:d_)(a:a_):Nt P (Conv.stringToBytes b a):=by unfold Conv.stringToBytes;exact lH
def vL(b:d_)(a:a_):Nt P (Conv.stringToRunes b a):=by unfold Conv.stringToRunes;exact lH
def vK(a:f_):Nt P (Conv.bytesToString a):=by unfold Conv.bytesToString;exact Qd
def vJ(a:f_):Nt P (Conv.runesToString a):=by unfold Conv.runesToString;exact Qd
def IR(a:Addr):Nt P (Conv.seenAt a):=by unfold Conv.seenAt;exact lH
def vI(b a:d_)(c:f_):Nt P (Conv.unsafePointer b a c):=by unfold Conv.unsafePointer;exact lH
def FO(b a:d_)(c:f_):Nt P (convert b a c):=by unfold convert;exact lH
def zG(a:Addr)(b:Nat):Nt P (Builtin.holdsCells a b):=by unfold Builtin.holdsCells;exact lH
def DN(a d e:Nat)(b:Option Addr)(c:f_):Nt P (Builtin.mayShare a d e b c):=by unfold Builtin.mayShare;exact lH
def DM(a:f_):Nt P (Builtin.lenOf a):=by unfold Builtin.lenOf;exact lH
def tz(b a:Nat)(c:f_):Nt P (Builtin.firstCells b a c):=by unfold Builtin.firstCells;exact lH
def FP(c:Array d_)(d:d_)(a:Array f_):Nt P (Builtin.append_ c d a):=by
 unfold Builtin.append_
 repeat' first|exact trivial|assumption|(with_reducible intro (b:Bool);cases b)|with_reducible apply tz|with_reducible apply DM|with_reducible apply DN|with_reducible apply Ml|with_reducible apply uk|with_reducible apply tY|with_reducible apply xQ|with_reducible apply nG|with_reducible apply vG|with_reducible apply qt|with_reducible apply s7|with_reducible apply uM|with_reducible apply lF|with_reducible apply qb|with_reducible apply vE|with_reducible apply AC|with_reducible apply qM|with_reducible apply n6|with_reducible apply nw|with_reducible apply n0|with_reducible apply pt|with_reducible apply kF|with_reducible intro _|split|dsimp only|apply kF
def O2(b:Array d_)(c:d_)(a:Array f_):Nt P (Builtin.cap_ b c a):=by unfold Builtin.cap_;exact lH
def G6(b:Array d_)(c:d_)(a:Array f_):Nt P (Builtin.len_ b c a):=by unfold Builtin.len_;exact lH
def Mt(b:Array d_)(c:d_)(a:Array f_):Nt P (Builtin.copy_ b c a):=by unfold Builtin.copy_;exact lH
def O3(b a:f_):Nt P (Builtin.min2 b a):=by unfold Builtin.min2;exact lH
def O4(b a:f_):Nt P (Builtin.max2 b a):=by unfold Builtin.max2;exact lH
def vP{f d:Type}(e:d->f->Sem d)(g:∀a b,Nt P<|e a b):∀(c:List f) (a:d),Nt P (c.foldlM e a)
 |[],a=>by rw[List.foldlM_nil];trivial
 |b::c,a=>by rw[List.foldlM_cons];exact kF (g a b) λh=>vP e g c h
def O5(b:Array d_)(c:d_)(a:Array f_):Nt P (Builtin.min_ b c a):=by
 unfold Builtin.min_;split
 .exact trivial
 .exact vP _ O3 _ _
def O6(b:Array d_)(c:d_)(a:Array f_):Nt P (Builtin.max_ b c a):=by
 unfold Builtin.max_;split
 .exact trivial
 .exact vP _ O4 _ _
def vQ(a:Array d_)(b:d_)(v:Array f_):Nt P (Builtin.unsafeString_ a b v):=by unfold Builtin.unsafeString_;exact QP
def th(d:Array d_)(e:d_)(a:Array f_):Nt P (Builtin.unsafeSliceData_ d e a):=by
 unfold Builtin.unsafeSliceData_;rcases a with⟨_|⟨f,_|⟨h,g⟩⟩⟩
 .exact trivial
 .cases f with
  |slice b i c=>
   cases b with
   |none=>exact trivial
   |some b=>show Nt P (if c≠0 then _ else _);exact lH
  |_=>exact trivial
 .exact trivial
def qc(c:Array d_)(d:d_)(a:f_)(f e:a_):Nt P (Builtin.ssaWrapNilChk_ c d #[a,.string f,.string e]):=by
 unfold Builtin.ssaWrapNilChk_
 cases a with
 |pointer b=>
  cases b with
  |some b=>exact trivial
  |none=>refine kF (qM _) λg=>?_;exact lH
 |_=>exact trivial
def FQ(b:d_)(a:Place):Nt P (a.get b):=by
 cases a
 .exact trivial
 .exact rx _ _
def IT(a:List FieldStep)(b:d_)(c:Place):Nt P (follow a b c):=by
 induction a generalizing b c with
 |nil=>exact trivial
 |cons e a d=>
  unfold follow
  repeat' first|exact trivial|assumption|apply d|with_reducible apply FQ|with_reducible apply uO|with_reducible apply tx|with_reducible apply s8|with_reducible apply uN|with_reducible apply lF|with_reducible apply nw|with_reducible apply n0|with_reducible apply pt|with_reducible apply kF|with_reducible intro _|split|dsimp only|apply kF
def zJ(a:d_)(d:Place)(c:Bool)(b:Option String):Nt P (receiverAt a d c b):=by
 unfold receiverAt
 repeat' first|exact trivial|assumption|apply qc|with_reducible apply FQ|with_reducible apply qc|with_reducible apply s8|with_reducible apply rx|with_reducible apply lF|with_reducible apply nw|with_reducible apply n0|with_reducible apply pt|with_reducible apply kF|with_reducible intro _|split|dsimp only|apply kF
def yK(a:List FieldStep)(b:d_)(c:Option f_):Nt P (followBlind a b c):=by
 induction a generalizing b c with
 |nil=>exact trivial
 |cons e a d=>
  unfold followBlind
  repeat' first|exact trivial|assumption|apply d|with_reducible apply uO|with_reducible apply uN|with_reducible apply lF|with_reducible apply nw|with_reducible apply n0|with_reducible apply pt|with_reducible apply kF|with_reducible intro _|split|dsimp only|apply kF
def DO(a:Nat)(b:d_)(c:f_)(e:String):Nt P (nilAhead a b c e):=by
 induction a generalizing b c with
 |zero=>exact trivial
 |succ a d=>
  unfold nilAhead
  repeat' first|exact trivial|assumption|apply d|with_reducible apply yK|with_reducible apply lF|with_reducible apply qb|with_reducible apply nw|with_reducible apply n0|with_reducible apply pt|with_reducible apply kF|with_reducible intro _|split|dsimp only|apply kF
end
structure Env where
 S:g_->Bool
 M:g_->List Nat
 E:List g_
 nm:List String
 cf:g_
def Env.cv(V:Env):f_:=.func (.func V.cf) #[] #[]
def okArg(V:Env)(c:g_):Operand->Bool
 |.tmp b=>(V.M c).contains b
 |.func a=>a==V.cf
 |_=>false
def okB:Builtin->Bool
 |.append|.cap|.copy|.len|.max|.min|.unsafeString|.unsafeSliceData=>true
 |_=>false
def okCallee(V:Env)(b:g_)(h:Array Operand):Callee->Bool
 |.builtin g=>okB g
 |.value (.func a)=>V.E.contains a||(V.S a&&(V.M a).all λd=>match h[d]? with|some e=>okArg V b e|none=>true)
 |.value (.tmp c)=>(V.M b).contains c
 |.invoke _ f=>V.nm.contains f
 |_=>false
def DP{P:e_}(b:d_)(a:f_):Nt P (Instr.makeChan b a):=by unfold Instr.makeChan;exact lH
def okOp(V:Env)(a:g_)(c:Oper):Bool:=
 let free:=match c.dst with|some e=> !(V.M a).contains e|none=>true
 match c.op with
 |.move d|.assign d=>free||okArg V a d
 |.pick .. |.alloc .. |.box .. |.build .. |.buildSlice .. |.load .. |.store .. |.nilCheck .. |.binOp .. |.unOp .. |.convert .. |.makeInterface .. |.makeSlice .. |.makeChan .. |.slice .. |.fieldAddr .. |.indexAddr .. |.index .. |.typeAssert .. |.extract .. |.panic .. =>free
 |.call b=>free&&okCallee V a b.args b.callee
 |_=>false
def okCode(V:Env)(a:g_):Code->Bool
 |.skip|.exit _|.ret|.refuse _=>true
 |.region _ e _=>e.all<|okOp V a
 |.seq c d|.cond _ c d=>okCode V a c&&okCode V a d
 |.block _ b|.loop b=>okCode V a b
 |_=>false
structure Fit(P:e_)(V:Env):Prop where
 body:∀f,V.S f=true->∃fn c,P.funcs[f]?=some fn/\(fn.name== "runtime.NumGoroutine")=false/\fn.body=some c/\okCode V f c=true
 ext:∀f∈V.E,∀args,Nm P (λn=>∃v,n=.value v)<|callFunc f args
 VO:∀name∈V.nm,∀d t v,Nm P (λr=>(V.S r.1=true/\V.M r.1=[])\/r.1∈V.E)<|method d t v name
 cmp:V.S V.cf=true/\V.M V.cf=[]
 ready:∀g,P.stepOf g=none
def Slot(V:Env)(a:f_):Prop:=a=undef\/a=V.cv
def Mu(V:Env)(a:g_)(c:Array f_):Prop:=∀b∈V.M a,Slot V (c.getD b undef)
def su(V:Env)(d:g_)(c:Oper):Next->Prop
 |.value e=>∀a,c.dst=some a->a∈V.M d->Slot V e
 |.skip=>True
 |.enter b f=>V.S b=true/\Mu V b f/\∀a,c.dst=some a->a∉V.M d
 |_=>False
section
variable {P:e_}{V:Env}
def sw(e:Fit P V){a:g_}(i:V.S a=true)(b:Array f_):Nm P (λc=>c=.enter a b) (callFunc a b):=by
 obtain⟨g,j,d,f,h,_⟩:=e.body a i;unfold callFunc;show Nm P _ (match P.funcs[a]? with|none=>_|some g=>_)
 rw[d];show Nm P _ (if _ then _ else if _ then _ else _);rw[Yo (by simp[f]),Yo<|by simp[h]];exact rfl
def TI(V:Env)(b:g_)(c:Oper):Prop:=∀a,c.dst=some a->a∉V.M b
def oS{c:g_}{a:Oper}(e:TI V c a){b:Sem f_}(h:Nt P b):Nm P (su V c a) (do pure (.value<|<-b)):=
 lQ h λ_ _ d f g=>absurd g (e d f)
def WV{c:g_}{b:Oper}{a:Sem Unit}(d:Nt P a):Nm P (su V c b) (do a;pure .skip):=
 lQ d λ_ _=>trivial
def IU(d:Fit P V){k:g_}{g:Oper}(f:TI V k g){e:String}(b:e∈V.nm)(h:f_)(q:Array f_):Nm P (su V k g) (callMethod h e q):=by
 unfold callMethod
 cases h with
 |iface m j=>
  refine lQ (Q:=λi=>i=P) rfl λi v=>?_;refine lQ (d.VO e b _ m j) λs l=>?_;let⟨t,w⟩:=s;rcases l with⟨a,c⟩|a
  .exact ru (sw d a _) λp b=>by subst b;exact⟨a,(λu n=>by have:=c▸n;cases this),f⟩
  .exact ru (d.ext t a _) λp b=>by obtain⟨j,rfl⟩:=b;exact λr a c=>absurd c (f r a)
 |nilIface=>exact ru (Q:=λ_=>False) (by unfold runtimePanic;exact trivial) λ_ o=>o.elim
 |_=>exact trivial
def G7(k:Fit P V){i:g_}{A:Oper}(a:okOp V i A=true){d:Operand->f_}(S:∀c∈V.M i,Slot V<|d<|.tmp c)(U:∀p,d (.func p)=.func (.func p) #[] #[]):
 Nm P (su V i A) (execOp d A):=by
 have T:∀b,okArg V i b=true->Slot V (d b):=by
  intro b z
  cases b with
  |tmp c=>exact S c<|by simpa[okArg]using z
  |func p=>
   have:p=V.cf:=by simpa[okArg]using z
   rw[U,this];exact .inr rfl
  |const u=>simp[okArg]at z
  |global q=>simp[okArg]at z
 obtain⟨x,op,s,M,J,L⟩:=A;have free:∀{op},(match x with|some e=> !(V.M i).contains e|none=>true)=true->TI V i ⟨x,op,s,M,J,L⟩:=by intro op f e r;simp only at r;subst r;simpa using f
 cases op with
 |move b|assign b=>
  simp only[okOp,aag]at a;intro e n m;rcases a with f|f
  .exact absurd m (free f e n)
  .exact T b f
 |pick v O j=>exact lQ (AE _) λ_ _ e n m=>absurd m (free a e n)
 |alloc c=>exact oS (free a)<|Mo ..
 |box c b=>exact oS (free a)<|TH _ _
 |build c b=>exact oS (free a)<|Mp ..
 |buildSlice c t b=>exact oS (free a)<|zH ..
 |makeChan c b=>exact oS (free a)<|DP ..
 |load c b=>exact oS (free a)<|IS ..
 |store c b C=>exact WV<|FJ ..
 |nilCheck b=>
  have g:=free (op:=.nilCheck b) a;have D:∀u,Nm P (su V i ⟨x,.nilCheck b,s,M,J,L⟩)<|pure<|.value u:=λu e n m=>absurd m (g e n);have w:Nm P (su V i ⟨x,.nilCheck b,s,M,J,L⟩)<|runtimePanic .nilDeref:=by unfold runtimePanic;exact trivial
  unfold execOp;dsimp only;split
  .exact w
  .exact w
  .exact w
  .split
   .exact w
   .refine lQ tX λ_ _=>lQ (DO ..) λ_ _=>?_;split
    .exact lQ (Q:=λ_=>False) trivial λ_ f=>f.elim
    .exact D _
   .exact D _
  .exact D _
 |binOp j c b C ab=>exact oS (free a)<|kF (FN ..) λ_=>Ms ..
 |unOp j c b=>exact oS (free a)<|Mr ..
 |convert Z e b=>exact oS (free a)<|FO ..
 |makeInterface c b=>exact oS (free a)<|vN ..
 |makeSlice c b C=>exact oS (free a)<|BP ..
 |slice c b O j v=>exact oS (free a)<|FM ..
 |fieldAddr c b t=>exact oS (free a)<|FK ..
 |indexAddr c b C=>exact oS (free a)<|FL ..
 |index c b C=>exact oS (free a)<|uO ..
 |typeAssert b c aa j=>exact oS (free a)<|zI ..
 |extract b t=>exact oS (free a)<|yG ..
 |panic b=>exact oS (free a)<|Mq _
 |call v=>
  obtain⟨F,h,I⟩:=v;simp only[okOp,Zw]at a;have g:=free (op:=.call ⟨F,h,I⟩) a.1;have a:=a.2;show Nm P _ (resolve d ⟨F,h,I⟩ s>>=λe=>invoke e.target e.args)
  cases F with
  |builtin j=>
   show Nm P _ (builtin j I s ..)
   cases j with
   |append=>exact oS g<|FP ..
   |cap=>exact oS g<|O2 ..
   |copy=>exact oS g<|Mt ..
   |len=>exact oS g<|G6 ..
   |max=>exact oS g<|O6 ..
   |min=>exact oS g<|O5 ..
   |unsafeString=>exact oS g<|vQ ..
   |unsafeSliceData=>exact oS g<|th ..
   |_=>simp[okCallee,okB]at a
  |invoke l N=>
   have o:N∈V.nm:=by simpa[okCallee]using a
   unfold invoke;have W:(#[d l]++h.map d)[0]?=some (d l):=by rw[Array.getElem?_append_left Nat.one_pos];rfl
   show Nm P _ (match (#[d l]++h.map d)[0]? with|some l=>callMethod l N _|_=>_)
   rw[W];exact IU k g o ..
  |value p=>
   cases p with
   |func q=>
    refine lQ (Q:=λe=>e={target:=.fn (.func q) #[],args:=#[]++h.map d}) (by show Nm P _ (Deferred.ofValue (d<|.func q) _);rw[U];exact rfl) λe r=>?_;subst r;simp only[okCallee,aag,List.contains_iff_mem,Zw,acd]at a;rcases a with f|⟨f,Y⟩
    .exact ru (k.ext q f _) λt o=>by obtain⟨u,rfl⟩:=o;exact λe n m=>absurd m (g e n)
    .refine ru (sw k f _) λt o=>?_;subst o;refine⟨f,λy K=>?_,g⟩;have R:=Y y K;rw[ab0,abm]
     cases B:h[y]? with
     |none=>
      refine .inl ?_;have:¬y<h.size:=λE=>by rw[aau E]at B;cases B
      simp[Array.getD,this]
     |some b=>rw[B]at R;obtain⟨E,rfl⟩:=YU.1 B;have:=T _ R;simpa[Array.getD,E]using this
   |tmp c=>
    have X:c∈V.M i:=by simpa[okCallee]using a
    rcases S c X with f|f
    .refine lQ (Q:=λ_=>False) (by show Nm P _ (Deferred.ofValue (d<|.tmp c) _);rw[f];exact trivial) λ_ f=>f.elim
    .refine lQ (Q:=λe=>e={target:=.fn (.func V.cf) #[],args:=#[]++h.map d}) (by show Nm P _ (Deferred.ofValue (d<|.tmp c) _);rw[f];exact rfl) λe r=>?_;subst r;refine ru (sw k k.cmp.1 _) λt o=>?_;subst o;exact⟨k.cmp.1,(λy K=>by have:=k.cmp.2▸K;cases this),g⟩
   |const u=>simp[okCallee]at a
   |global q=>simp[okCallee]at a
 |_=>simp[okOp]at a
end
structure LF where
 fn:g_
 tmps:Array f_
 todo:List Item
def LF.fr(a:LF)(b:List Item)(c:FrameMode):Frame:={fn:=a.fn,tmps:=a.tmps,todo:=a.todo++b,defers:=[],mode:=c,kind:=.normal}
def sfx(a:List Item):List LF->List Item
 |[]=>a
 |_::_=>[]
def B6(b:List Item)(c:List Frame):List LF->List Frame
 |[]=>c
 |f::a=>f.fr (sfx b a) .run::B6 b c a
structure u4 where
 top:LF
 ret:Bool
 rest:List LF
def oJ(b:List Item)(c:List Frame)(a:u4):c_:=G (a.top.fr (sfx b a.rest) (if a.ret then .returning else .run)) (B6 b c a.rest)
def ItemOk(b:Env)(c:g_):Item->Prop
 |.code a|.inLoop a=>okCode b c a=true
 |.inBlock _=>True
 |.inRegion d _=>∀e∈d,okOp b c e=true
 |_=>False
def tB(a:Env)(b:g_)(d:Array f_):Prop:=∀c∈a.M b,Slot a (d.getD c undef)
structure FR(V:Env)(f:LF):Prop where
 items:∀it∈f.todo,ItemOk V f.fn it
 AF:tB V f.fn f.tmps
structure yL(V:Env)(f:LF):Prop where
 ok:FR V f
 at_:∃ops i r t,f.todo=.inRegion ops (i::r)::t/\∀d,((ops[i]?).bind (·.dst))=some d->d∉V.M f.fn
structure FS(V:Env)(c:u4):Prop where
 top:FR V c.top
 rest:∀f∈c.rest,yL V f
def FT:Frame:={(default:Frame)with todo:=[.code<|.refuse ""],defers:=[{target:=.nil,args:=#[]}],mode:=.run}
def k0:List Item:=[.code<|.refuse ""]
def B0:List Frame:=[FT]
def WW(f:e_)(b:List Item)(a:u4)(e:b_):Prop:=
 (∃g d c,stepG f true (oJ b B0 a) e=.ended g d c)\/∃(h:LF) (i:List PanicEntry) (d:b_) (c:Array Event),stepG f true (oJ b B0 a) e=.go (G (h.fr (sfx b a.rest)<|.panicking i)<|B6 b B0 a.rest) d c
def DR(m:e_)(n:Env)(j:u4)(a:b_):Prop:=
 ∃e g c f,FS n g/\(∀k∈f,pU k)/\c.tape=a.tape/\c.drawn=a.drawn+e/\∀d b,tv e a d b->∀l i h,stepG m l (oJ i h j) (rt a d b)=.go (oJ i h g) (rt c d<|b+e) f
def G8(e:Bool×Array Event->Event->Bool×Array Event)(g:∀b a,(e b a).2=b.2\/(e b a).2=b.2.push a):
 ∀(c:List Event) (b:Bool×Array Event),(∀a∈b.2,pU a)->(∀a∈c,pU a)->∀a∈(c.foldl e b).2,pU a
 |[],_,d,_=>d
 |a::c,b,h,i=>by
  rw[aa1];refine G8 e g c _ ?_ λa k=>i a<|Y8 _ k;rcases g b a with d|d<;>rw[d]
  .exact h
  .intro j f;rcases abq.1 f with f|rfl
   .exact h j f
   .exact i _ (YD ..)
def BQ(c:e_)(e:g_){b:Array Event}(d:∀a∈b,pU a):∀a∈seen c e b,pU a:=by
 unfold seen;dsimp only;rw[<-Array.foldl_toList];refine G8 _ ?_ _ _ si λa f=>d a (by simpa using f);rintro ⟨g,h⟩ a;dsimp only;split
 .exact .inl rfl
 .split
  .exact .inl rfl
  .exact .inr rfl
def exitTo_app(id:Nat)(a b:List Item):exitTo id (a++b)=match exitTo id a with|some e=>some (e++b)|none=>exitTo id b:=by
 induction a with
 |nil=>rfl
 |cons g a c=>
  cases g with
  |inBlock f=>
   simp only[Y1,exitTo];by_cases d:f==id
   .simp[d]
   .simp only[d,YY,Y5];exact c
  |_=>simp only[Y1,exitTo];exact c
def vR{e:Env}{g:g_}{id:Nat}:∀{c d:List Item},exitTo id c=some d->(∀b∈c,ItemOk e g b)->∀b∈d,ItemOk e g b
 |[],_,a,_=>by cases a
 |i::c,d,a,h=>by
  have f:∀b∈c,ItemOk e g b:=λb j=>h b<|Y8 _ j
  cases i with
  |inBlock k=>
   simp only[exitTo]at a;split at a
   .cases a;exact f
   .exact vR a f
  |_=>simp only[exitTo]at a;exact vR a f
def putT(a:Option Nat)(b:Array f_)(c:f_):Array f_:=match a with|some a=>b.setIfInBounds a c|none=>b
def rz{a:Array Oper}{c:Nat}{e:List Nat}{d:List Item}{b:LF}(i:b.todo=.inRegion a (c::e)::d)(g:List Item)(f:FrameMode)(h:f_):
 (b.fr g f).finish h=({b with tmps:=putT ((a[c]?).bind (·.dst)) b.tmps h,todo:=.inRegion a e::d}:LF).fr g f:=by
 unfold LF.fr Frame.finish putT;rw[i];simp only[Y1];cases (a[c]?).bind (·.dst)<;>rfl
def yM(b:Array f_)(a c:Nat)(e:f_):(b.setIfInBounds a e).getD c undef=if a=c/\a<b.size then e else b.getD c undef:=by
 rw[Zr,Zr,Y6];by_cases f:a=c
 .subst f;by_cases d:a<b.size
  .simp[d]
  .simp[d]
 .simp[f]
def IV{b:Env}{e:g_}{d:Array f_}(i:tB b e d)(a:Option Nat)(c:f_)(k:∀h,a=some h->h∈b.M e->Slot b c):
 tB b e (putT a d c):=by
 cases a with
 |none=>exact i
 |some a=>
  intro g f;show Slot b ((d.setIfInBounds a c).getD g undef);rw[yM];split
  .rename_i j;exact k a rfl (j.1▸f)
  .exact i g f
def FR.finish{d:Env}{a:LF}{b:Array Oper}{c:Nat}{f:List Nat}{i:List Item}(h:FR d a)(k:a.todo=.inRegion b (c::f)::i)(e:f_)
 (l:∀j,((b[c]?).bind (·.dst))=some j->j∈d.M a.fn->Slot d e):
 FR d {a with tmps:=putT ((b[c]?).bind (·.dst)) a.tmps e,todo:=.inRegion b f::i}:=by
 refine⟨λm g=>?_,IV h.AF _ e l⟩;rcases Y7.1 g with rfl|g
 .exact h.items (.inRegion b (c::f)) (by rw[k];exact YD ..)
 .exact h.items m (by rw[k];exact Y8 _ g)
def pf{f:e_}{g:Env}{e c':u4}{a:b_}(h:FS g c')(i:∀a d c b,stepG f d (oJ c b e) a=.go (oJ c b c') a #[]):DR f g e a:=
 ⟨0,c',a,#[],h,si,rfl,rfl,λk j _ d c b=>i _ d c b⟩
section
variable {P:e_}{V:Env}{kk:List Item}
def yN(b:Func)(c:Array f_):Nt P (results b c):=by
 unfold results;refine kF (G5 _ (λa=>?_) _) λ_=>trivial;cases a
 .exact trivial
 .exact kF (s8 _) λ_=>rx ..
def kW{b:LF}{rest:List LF}(a:List Item)(c:List Frame):oJ a c ⟨b,false,rest⟩=G (b.fr (sfx a rest) .run) (B6 a c rest):=rfl
def G9{b:LF}{rest:List LF}(a:List Item)(c:List Frame):oJ a c ⟨b,true,rest⟩=G (b.fr (sfx a rest) .returning) (B6 a c rest):=rfl
def mv{a:LF}{rest:List LF}{c:b_}{l:Item}{d s:List Item}(k:FR V a)(m:∀p∈rest,yL V p)(j:a.todo=l::d)(o:∀e∈s,ItemOk V a.fn e)
 (n:∀(f:Array f_) (g:List Item) (i:List Frame) (c:b_) (h:Bool),stepG P h (G {fn:=a.fn,tmps:=f,todo:=l::(d++g),defers:=[],mode:=.run,kind:=.normal} i) c=.go (G {fn:=a.fn,tmps:=f,todo:=s++(d++g),defers:=[],mode:=.run,kind:=.normal} i) c #[]):
 DR P V ⟨a,false,rest⟩ c:=by
 refine pf (c':=⟨{a with todo:=s++d},false,rest⟩) ⟨⟨λe b=>?_,k.AF⟩,m⟩ λc h g q=>?_
 .rcases ZU.1 b with b|b
  .exact o e b
  .exact k.items e (by rw[j];exact Y8 _ b)
 .rw[kW,kW];unfold LF.fr;rw[j,Y1,n,aaz]
theorem Yd(M:Fit P V){b:LF}{rest:List LF}(a:b_)(x:FR V b)(j:∀h∈rest,yL V h){o:Array Oper}{u:Nat}{D:List Nat}{z:List Item}(p:b.todo=.inRegion o (u::D)::z){f:Oper}(E:o[u]?=some f)
 (aA:Region.wanted f (yielded o b.tmps)=true):DR P V ⟨b,false,rest⟩ a\/WW P kk ⟨b,false,rest⟩ a:=by
 have ar:okOp V b.fn f=true:=x.items (.inRegion o (u::D)) (by rw[p];exact YD ..) f<|Array.mem_of_getElem? E;let g:Operand->f_:=({fn:=b.fn,tmps:=b.tmps,todo:=[],defers:=[],mode:=.run,kind:=.normal}:Frame).eval;have af:∀(c:List Item),(b.fr c .run).eval=g:=λc=>by funext q;cases q<;>rfl
 have X:Nm P (su V b.fn f)<|execOp g f:=G7 M ar (λz ay=>x.AF z ay) λb=>rfl
 have m:∀t c (e:List Frame) a,stepG P t (G (b.fr c .run) e) a=stepG.apply P true (b.fr c .run) e none (execOp g f) a:=by
  intro t c e a;have r:=af c;have ao:(b.fr c .run).oper?=some f:=by unfold LF.fr Frame.oper?;rw[p];exact E
  have aC:stepG P t (G (b.fr c .run) e) a=stepG.oper P true (b.fr c .run) e none a:=by unfold LF.fr at r⊢;rw[p];simp[G,stepG,stepG.exec,E,aA]
  rw[aC];unfold stepG.oper;rw[ao];simp only;rw[r];rfl
 obtain⟨J,w,y,ak,ag,L⟩:=rr_run P _ (execOp g f) X a;have U:∀r∈(execOp g f).events P a #[],pU r:=Mg P _ _ X a #[] si;have ae:∀c (e:List Frame) a d v,(execOp g f).run P a=.ok (.value v) d->stepG.apply P true (b.fr c .run) e none (execOp g f) a=.go (G ((b.fr c .run).finish v) e) d (seen P b.fn<|(execOp g f).events P a #[]):=by intro c e a d v j;simp[stepG.apply,j,G,LF.fr,GStep.after]
 have aD:∀c (e:List Frame) a d,(execOp g f).run P a=.ok .skip d->stepG.apply P true (b.fr c .run) e none (execOp g f) a=.go (G ((b.fr c .run).finish undef) e) d (seen P b.fn<|(execOp g f).events P a #[]):=by intro c e a d j;simp[stepG.apply,j,G,LF.fr,GStep.after]
 have ap:∀c (e:List Frame) a d h k,(execOp g f).run P a=.ok (.enter h k) d->stepG.apply P true (b.fr c .run) e none (execOp g f) a=.go (G (Frame.enter P h k .normal) (b.fr c .run::e)) d (seen P b.fn<|(execOp g f).events P a #[]):=by intro c e a d h k j;simp[stepG.apply,j,G,LF.fr,GStep.after,p]
 have W:(o[u]?).bind (·.dst)=f.dst:=nY E
 cases i:(execOp g f).run P a with
 |ok Q d=>
  rw[i]at w y;have S:=ak Q d i;have Z:∀v,(∀l,f.dst=some l->l∈V.M b.fn->Slot V v)->(∀c (e:List Frame) a d,(execOp g f).run P a=.ok Q d->stepG.apply P true (b.fr c .run) e none (execOp g f) a=.go (G ((b.fr c .run).finish v) e) d (seen P b.fn<|(execOp g f).events P a #[]))->DR P V ⟨b,false,rest⟩ a:=by intro v aq aB;refine⟨J,⟨{b with tmps:=putT ((o[u]?).bind (·.dst)) b.tmps v,todo:=.inRegion o D::z},false,rest⟩,d,_,⟨x.finish p v (by rw[W];exact aq),j⟩,BQ P b.fn U,w,y,λs l A t c ac=>?_⟩;obtain⟨n,I⟩:=L s l A;rw[i]at n;rw[kW,kW,m,aB _ _ _ _ n,I,rz p]
  cases Q with
  |value v=>exact .inl<|Z v S λc e a d q=>ae c e a d v q
  |skip=>exact .inl<|Z undef (λ_ _ _=>.inl rfl) λc e a d q=>aD c e a d q
  |enter h k=>
   obtain⟨aw,ax,al⟩:=S;obtain⟨N,O,aj,aG,ah,ai⟩:=M.body h aw;refine .inl ⟨J,⟨⟨h,k++Array.replicate (N.ntmps-k.size) undef,[.code O]⟩,false,b::rest⟩,d,_,⟨⟨?_,?_⟩,?_⟩,BQ P b.fn U,w,y,λs l A t c ac=>?_⟩
   .intro au av;obtain rfl:au=.code O:=by simpa using av
    exact ai
   .intro an az;have:=ax an az;rw[Zr,Array.getElem?_append];rw[Zr]at this;split
    .exact this
    .rw[Array.getElem?_replicate];split<;>exact .inl rfl
   .intro q R;rcases Y7.1 R with rfl|R
    .exact⟨x,o,u,D,z,p,by rw[W];exact al⟩
    .exact j q R
   .obtain⟨n,I⟩:=L s l A;rw[i]at n;rw[kW,kW,m,ap _ _ _ _ _ _ n,I];have r:Frame.enter P h k .normal=(⟨h,k++Array.replicate (N.ntmps-k.size) undef,[.code O]⟩:LF).fr [] .run:=by simp[Frame.enter,aj,ah,LF.fr]
    rw[r];rfl
  |_=>exact S.elim
 |halt ab d=>
  rw[i]at w y;have am:=ag ab d i
  cases ab with
  |panic v=>refine .inr<|.inr ⟨b,[{v,recovered:=false}],d,seen P b.fn<|(execOp g f).events P a #[],?_⟩;rw[kW,m];simp[stepG.apply,i,G,LF.fr,GStep.after,Frame.raise]
  |stuck aE=>refine .inr<|.inl ?_;rw[kW,m];simp[stepG.apply,i,GStep.after]
  |unsupported ad=>
   by_cases aa:∃h,ad=.initOrder h
   .obtain⟨h,rfl⟩:=aa;have K:∀c (e:List Frame) a d,(execOp g f).run P a=.halt (.unsupported<|.initOrder h) d->stepG.apply P true (b.fr c .run) e none (execOp g f) a=GStep.after #[] (early P (b.fr c .run) e none h d):=by intro c e a d j;simp[stepG.apply,j,LF.fr,seen]
    by_cases B:P.follows .staticDataAhead=true
    .refine .inr<|.inl ?_;rw[kW,m,K _ _ _ _ i];simp[early,B,M.ready,GStep.after]
    .cases F:d.heap[h]? with
     |none=>refine .inr<|.inl ?_;rw[kW,m,K _ _ _ _ i];simp[early,B,F,GStep.after]
     |some T=>
      by_cases Y:∃C el,T=.pending C el
      .obtain⟨C,el,rfl⟩:=Y;refine .inl ⟨J,⟨b,false,rest⟩,{d with heap:=d.heap.setIfInBounds h<|.cells C el},#[],⟨x,j⟩,si,w,y,λs l A t c ac=>?_⟩;obtain⟨n,I⟩:=L s l A;rw[i]at n;have aF:(rt d s<|l+J).heap[h]?=some (.pending C el):=F;rw[kW,m,K _ _ _ _ n];simp[early,B,F,GStep.after];exact⟨rfl,rfl⟩
      .refine .inr<|.inl ?_;rw[kW,m,K _ _ _ _ i];cases T<;>first|(exact absurd ⟨_,_,rfl⟩ Y)|simp[early,B,F,GStep.after]
   .refine .inr<|.inl ?_;rw[kW,m];cases ad<;>first|(exact absurd ⟨_,rfl⟩ aa)|simp[stepG.apply,i,GStep.after]
  |_=>exact am.elim
def Sn(ac:Fit P V)(ag:∀id,exitTo id kk=none)(j:u4)(af:FS V j)(L:¬(j.rest=[]/\(j.top.todo=[]\/j.ret=true)))(b:b_):DR P V j b\/WW P kk j b:=by
 let⟨a,ret,rest⟩:=j;let⟨h,g⟩:=af;simp only at h g L
 cases ret with
 |true=>
  cases rest with
  |nil=>exact absurd ⟨rfl,.inr rfl⟩ L
  |cons o q=>
   have al:=g o<|YD ..;let⟨aj,l,E,M,w,d,ae⟩:=al;have S:∀e c i b,stepG P e (oJ c i ⟨a,true,o::q⟩) b=unwind P e (a.fr [] .returning) (B6 c i (o::q)) none b:=by intro e c i b;rfl
   have W:∀e c i k b,doReturn P e (a.fr [] .returning) (B6 c i (o::q)) none k b=.go (G ((o.fr (sfx c q) .run).finish k)<|B6 c i q) b #[]:=by intro e c i k b;rfl
   have Z:∀k,FS V ⟨{o with tmps:=putT ((l[E]?).bind (·.dst)) o.tmps k,todo:=.inRegion l M::w},false,q⟩:=λk=>
    ⟨aj.finish d k λy F J=>absurd J (ae y F),λy r=>g y<|Y8 _ r⟩
   cases Q:P.funcs[a.fn]? with
   |none=>refine .inl ⟨0,_,b,#[],Z<|a.tmps.getD 0 undef,si,rfl,rfl,λO N _ e c i=>?_⟩;rw[S];unfold unwind;simp only[LF.fr,Q];exact(W e c i ..).trans (by rw[rz d];rfl)
   |some t=>
    let⟨ap,F,J,av,au,aa⟩:=rr_run P _ (results t a.tmps) (yN t a.tmps) b;have ab:=Mg P _ _ (yN t a.tmps) b #[] si;have am:∀e c i b k z,(results t a.tmps).run P b=.ok k z->unwind P e (a.fr [] .returning) (B6 c i (o::q)) none b=GStep.after (seen P a.fn<|(results t a.tmps).events P b #[]) (doReturn P e (a.fr [] .returning) (B6 c i (o::q)) none k z):=by intro e c i b k z g;unfold unwind;simp only[LF.fr,Q,aci,g]
    cases K:(results t a.tmps).run P b with
    |ok k z=>rw[K]at F J;refine .inl ⟨ap,_,z,_,Z k,BQ P a.fn ab,F,J,λO N T e c i=>?_⟩;let⟨U,ak⟩:=aa O N T;rw[K]at U;rw[S,am _ _ _ _ _ _ U,ak,W,rz d];simp[GStep.after];rfl
    |halt ao z=>refine .inr<|.inl ?_;rw[S];unfold unwind;simp only[LF.fr,Q,aci,K];cases ao<;>exact⟨_,_,_,rfl⟩
 |false=>
  cases d:a.todo with
  |nil=>
   cases rest with
   |nil=>exact absurd ⟨rfl,.inl d⟩ L
   |cons o q=>refine .inl<|pf (c':=⟨a,true,o::q⟩) ⟨h,g⟩ λb e c i=>?_;rw[kW,G9];unfold LF.fr;rw[d];simp[G,stepG,stepG.exec,sfx]
  |cons y w=>
   have r:=h.items y (by rw[d];exact YD ..)
   cases y with
   |code j=>
    cases j with
    |skip=>exact .inl<|mv (s:=[]) h g d si λn c v b e=>by simp[G,stepG,stepG.exec]
    |region id l ad=>
     have ah:=r;have X:=Z4.1 ah
     cases ad with
     |false=>exact .inl<|mv (s:=[.inRegion l<|List.range l.size]) h g d (by intro p f;obtain rfl:=Y'.1 f;exact X) λn c v b e=>by simp[G,stepG,stepG.exec]
     |true=>
      refine .inl ⟨1,⟨{a with todo:=.inRegion l (Region.schedule (P.follows .mixedOrders) l<|b.tape b.drawn<|.order a.fn id)::w},false,rest⟩,{b with drawn:=b.drawn+1},#[],⟨⟨λp f=>?_,h.AF⟩,g⟩,si,rfl,rfl,λO N T e c i=>?_⟩
      .rcases Y7.1 f with rfl|f
       .exact X
       .exact h.items p (by rw[d];exact Y8 _ f)
      .have Y:=T 0 om (.order a.fn id);simp only[YE]at Y;rw[kW,kW];unfold LF.fr;rw[d];simp[G,stepG,stepG.exec,choose,Sem.run,Question.forced,Question.cut,Y];rfl
    |seq C B=>
     have A:okCode V a.fn C=true/\okCode V a.fn B=true:=by simpa[ItemOk,okCode]using r
     refine .inl (mv (s:=[.code C,.code B]) h g d ?_ λn c v b e=>by simp[G,stepG,stepG.exec]);intro p f;simp only[Y7,Zc,aac]at f;rcases f with rfl|rfl
     .exact A.1
     .exact A.2
    |cond u C B=>
     have A:okCode V a.fn C=true/\okCode V a.fn B=true:=by simpa[ItemOk,okCode]using r
     cases x:(a.fr [] .run).eval u with
     |bool k=>
      have I:∀(m:List Item),({fn:=a.fn,tmps:=a.tmps,todo:=m,defers:=[],mode:=.run,kind:=.normal}:Frame).eval u=.bool k:=λm=>by rw[<-x];cases u<;>rfl
      refine .inl (pf (c':=⟨{a with todo:=.code (if k then C else B)::w},false,rest⟩) ⟨⟨λp f=>?_,h.AF⟩,g⟩ λb e c i=>?_)
      .rcases Y7.1 f with rfl|f
       .cases k
        .exact A.2
        .exact A.1
       .exact h.items p (by rw[d];exact Y8 _ f)
      .rw[kW,kW];unfold LF.fr;rw[d];simp[G,stepG,stepG.exec,I]
     |_=>
      refine .inr<|.inl ?_;have I:∀(m:List Item),({fn:=a.fn,tmps:=a.tmps,todo:=m,defers:=[],mode:=.run,kind:=.normal}:Frame).eval u=(a.fr [] .run).eval u:=λm=>by cases u<;>rfl
      simp only[x]at I;rw[kW];unfold LF.fr;rw[d];simp[G,stepG,stepG.exec,I]
    |block id j=>exact .inl (mv (s:=[.code j,.inBlock id]) h g d (by intro p f;simp only[Y7,Zc,aac]at f;rcases f with rfl|rfl;exact r;trivial) λn c v b e=>by simp[G,stepG,stepG.exec])
    |loop j=>exact .inl (mv (s:=[.code j,.inLoop j]) h g d (by intro p f;simp only[Y7,Zc,aac]at f;rcases f with rfl|rfl<;>exact r) λn c v b e=>by simp[G,stepG,stepG.exec])
    |exit id=>
     cases R:exitTo id w with
     |some aq=>refine .inl (pf (c':=⟨{a with todo:=aq},false,rest⟩) ⟨⟨vR R λp f=>h.items p (by rw[d];exact Y8 _ f),h.AF⟩,g⟩ λb e c i=>?_);rw[kW,kW];unfold LF.fr;rw[d];simp[G,stepG,stepG.exec,exitTo_app,R]
     |none=>
      refine .inr<|.inl ?_
      have an:exitTo id (w++sfx kk rest)=none:=by
       rw[exitTo_app,R];cases rest
       .exact ag id
       .rfl
      rw[kW];unfold LF.fr;rw[d];simp[G,stepG,stepG.exec,an]
    |ret=>refine .inl<|pf (c':=⟨a,true,rest⟩) ⟨h,g⟩ λb e c i=>?_;rw[kW,G9];unfold LF.fr;rw[d];simp[G,stepG,stepG.exec]
    |refuse ar=>refine .inr<|.inl ?_;rw[kW];unfold LF.fr;rw[d];simp[G,stepG,stepG.exec]
    |_=>simp[ItemOk,okCode]at r
   |inBlock id=>exact .inl<|mv (s:=[]) h g d si λn c v b e=>by simp[G,stepG,stepG.exec]
   |inLoop j=>exact .inl (mv (s:=[.code j,.inLoop j]) h g d (by intro p f;simp only[Y7,Zc,aac]at f;rcases f with rfl|rfl<;>exact r) λn c v b e=>by simp[G,stepG,stepG.exec])
   |inRegion l m=>
    cases m with
    |nil=>exact .inl<|mv (s:=[]) h g d si λn c v b e=>by simp[G,stepG,stepG.exec]
    |cons E M=>
     by_cases D:((l[E]?).map (Region.wanted · (yielded l a.tmps))).getD false=true
     .cases x:l[E]? with
      |none=>rw[x]at D;simp at D
      |some u=>exact Yd ac b h g d x (by rw[x]at D;simpa using D)
     .refine .inl<|pf (c':=⟨{a with tmps:=putT ((l[E]?).bind (·.dst)) a.tmps undef,todo:=.inRegion l M::w},false,rest⟩) ⟨h.finish d undef λ_ _ _=>.inl rfl,g⟩ λb e c i=>?_;rw[kW,kW,<-rz d];unfold LF.fr;rw[d];simp[G,stepG,stepG.exec,D]
   |_=>exact r.elim
end
section
variable {P:e_}{V:Env}
variable {kk:List Item}
def stop(kk:List Item)(a:LF)(b:Bool):c_:=oJ kk B0 ⟨a,b,[]⟩
def Halt(a:LF)(b:Bool):Prop:=b=true\/a.todo=[]
def Reach(P:e_)(kk:List Item)(e:LF->Bool->b_->Prop)(g:c_)(d:b_):Prop:=∃f a b c,runN P f (solo g d)=.next (solo (stop kk a b) c)/\Halt a b/\e a b c
def pD{b d:c_}{c e:b_}(a:solo b c=solo d e):b=d/\c=e:=by unfold solo at a;simp only[Machine.mk.injEq,Array.mk.injEq,aaL,ZV]at a;exact⟨a.2,a.1⟩
def s9{a c:c_}{b d:b_}{f:Array Event}(h:a.status=.running)(g:stepG P true a b=.go c d f)(e:Nat):runN P (e+1) (solo a b)=runN P e (solo c d):=by rw[runN,step_solo_go h g]
def runN_ended{a:c_}{b d:b_}{e:Array Event}{c:Outcome}(g:a.status=.running)(f:stepG P true a b=.ended c d e)(h:Nat):runN P (h+1) (solo a b)=.ended c d:=by
 have:step P (solo a b)=.ended c d:=by rw[step,stepT_solo g];show(runT P {world:=b,gs:=#[a],rest:={timers:=#[],alone:=none,slice:=none}} 0).1=_;simp[runT,Array.swapAt!,f]
 rw[runN,this]
def sx{f:LF->Bool->b_->Prop}{c g:c_}{h j:b_}{l:Array Event}(p:c.status=.running)(n:∀b a,Halt b a->c≠stop kk b a)(o:stepG P true c h=.go g j l)(k:Reach P kk f c h):Reach P kk f g j:=by
 let⟨e,b,a,m,d,i,q⟩:=k
 cases e with
 |zero=>simp only[runN,aap]at d;exact absurd (pD d).1 (n b a i)
 |succ e=>rw[s9 p o]at d;exact⟨e,b,a,m,d,i,q⟩
def oU{j:LF->Bool->b_->Prop}{a:c_}{e n:b_}{h:Array Event}{l:Outcome}(o:a.status=.running)(i:∀d c,Halt d c->a≠stop kk d c)(k:stepG P true a e=.ended l n h)(g:Reach P kk j a e):False:=by
 let⟨f,d,c,p,b,m,q⟩:=g
 cases f with
 |zero=>simp only[runN,aap]at b;exact i d c m (pD b).1
 |succ f=>rw[runN_ended o k]at b;cases b
def G_(d:List Item)(b:List Frame)(a:List LF):(B6 d b a).length=a.length+b.length:=by
 induction a with
 |nil=>simp[B6]
 |cons e a c=>simp[B6,c];omega
def s_{c:u4}{d:LF}{a:Bool}(b:oJ kk B0 c=stop kk d a):c=⟨d,a,[]⟩:=by
 let⟨⟨r,o,q⟩,i,rest⟩:=c;let⟨k,n,m⟩:=d;unfold stop oJ G at b;simp only[Goroutine.mk.injEq]at b;let⟨e,h,_⟩:=b;have f:=ZD List.length h;rw[G_,G_]at f
 have j:rest=[]:=by
  cases rest with
  |nil=>rfl
  |cons l p=>simp at f
 subst j;simp only[LF.fr,sfx,Frame.mk.injEq,List.append_cancel_right_eq]at e;obtain⟨rfl,rfl,rfl,_,g,_⟩:=e;cases i<;>cases a<;>first|rfl|simp at g
def Mv(e:LF)(f:List Item)(b:List PanicEntry)(c:Frame)(d:List Frame)(a:b_):
 (∃i,stepG P true (G (e.fr f<|.panicking b) (c::d)) a=.ended i a #[])\/stepG P true (G (e.fr f<|.panicking b) (c::d)) a=.go (G (c.raise b) d) a #[]:=by
 have h:stepG P true (G (e.fr f<|.panicking b) (c::d)) a=unwind P true (e.fr f<|.panicking b) (c::d) none a:=rfl;rw[h];unfold unwind
 cases g:(e.fr f<|.panicking b).catches P with
 |true=>refine .inl ?_;simp only[LF.fr]at g⊢;simp
 |false=>refine .inr ?_;simp only[LF.fr]at g⊢;simp;rfl
def Mw{n:LF->Bool->b_->Prop}:∀(rest:List LF) (d:LF) (c:List PanicEntry) (e:b_),¬Reach P kk n (G (d.fr (sfx kk rest)<|.panicking c)<|B6 kk B0 rest) e:=by
 intro rest;have g:∀(d:LF) (k:List Item) (c:List PanicEntry) (j:List Frame) (f':LF) (b:Bool),Halt f' b->G (d.fr k<|.panicking c) j≠stop kk f' b:=by intro d k c j f' b _ M;unfold stop oJ G LF.fr at M;cases b<;>simp at M
 induction rest with
 |nil=>
  intro d c e f;rcases Mv d kk c FT [] e with⟨h,M⟩|M
  .exact oU rfl (g d _ c _) M f
  .have q:=sx rfl (g d _ c _) M f;have i:∃h,stepG P true (G (FT.raise c) []) e=.ended h e #[]:=⟨_,rfl⟩;let⟨h,i⟩:=i;refine oU rfl ?_ i q;exact Rr
 |cons m l o=>
  intro d c e f;rcases Mv d [] c (m.fr (sfx kk l) .run) (B6 kk B0 l) e with⟨h,M⟩|M
  .exact oU rfl (g d _ c _) M f
  .exact o m c e (sx rfl (g d _ c _) M f)
def DT{K:LF->Bool->b_->Prop}{a:LF}{c:b_}(t:Reach P kk K (oJ kk B0 ⟨a,true,[]⟩) c):K a true c:=by
 have r:∀h d,Reach P kk K (G (FT.finish h) []) d->False:=by intro h d w;have g:∃f,stepG P true (G (FT.finish h) []) d=.ended f d #[]:=⟨_,rfl⟩;let⟨f,g⟩:=g;refine oU rfl ?_ g w;exact Rr
 let⟨i,f1,s,q,e,g,m⟩:=t
 cases i with
 |zero=>simp only[runN,aap]at e;obtain⟨n,rfl⟩:=pD e;have:=s_ n;simp only[u4.mk.injEq,ZV]at this;rw[this.1,this.2];exact m
 |succ i=>
  exfalso
  cases j:P.funcs[a.fn]? with
  |none=>
   have l:stepG P true (oJ kk B0 ⟨a,true,[]⟩) c=.go (G (FT.finish<|a.tmps.getD 0 undef) []) c #[]:=by show unwind P true (a.fr kk .returning) B0 none c=_;unfold unwind;simp only[LF.fr,j];rfl
   rw[s9 rfl l]at e;exact r _ _ ⟨i,f1,s,q,e,g,m⟩
  |some k=>
   cases o:(results k a.tmps).run P c with
   |ok h d=>
    have l:stepG P true (oJ kk B0 ⟨a,true,[]⟩) c=.go (G (FT.finish h) []) d (seen P a.fn<|(results k a.tmps).events P c #[]):=by show unwind P true (a.fr kk .returning) B0 none c=_;unfold unwind;simp only[LF.fr,j,aci,o];show GStep.after _ (.go _ d)=_;simp[GStep.after,G]
    rw[s9 rfl l]at e;exact r _ _ ⟨i,f1,s,q,e,g,m⟩
   |halt v d=>
    have:∃f,stepG P true (oJ kk B0 ⟨a,true,[]⟩) c=.ended f d (seen P a.fn<|(results k a.tmps).events P c #[]):=by
     show∃f,unwind P true (a.fr kk .returning) B0 none c=_
     unfold unwind;simp only[LF.fr,j,aci,o];cases v<;>exact⟨_,by simp[GStep.after];rfl⟩
    let⟨f,u⟩:=this;rw[runN_ended rfl u]at e;cases e
end
section
variable {P:e_}{V:Env}{kk:List Item}
inductive Ends (P:e_)(K:LF->Bool->b_->Prop):u4->b_->Prop
 |stop {f:LF}{b:Bool}{w:b_} (hf:Halt f b) (hk:K f b w):Ends P K ⟨f,b,[]⟩ w
 |step {c:u4}{w:b_} (c':Tp->Nat->u4) (w':Tp->Nat->b_) (es:Tp->Nat->Array Event) (he:∀τ d,∀e∈es τ d,pU e)
  (hs:∀τ d main k B,stepG P main (oJ k B c) (rt w τ d)=.go (oJ k B<|c' τ d) (w' τ d) (es τ d)) (hn:∀τ d,Ends P K (c' τ d)<|w' τ d):Ends P K c w
def IW{K:LF->Bool->b_->Prop}{g:u4}{i:b_}
 (l:∀c a,∃b:u4×b_×Array Event,(∀h∈b.2.2,pU h)/\(∀j e d,stepG P j (oJ e d g) (rt i c a)=.go (oJ e d b.1) b.2.1 b.2.2)/\Ends P K b.1 b.2.1):Ends P K g i:=by
 have m:∀f:Tp×Nat,∃b:u4×b_×Array Event,(∀h∈b.2.2,pU h)/\(∀j e d,stepG P j (oJ e d g) (rt i f.1 f.2)=.go (oJ e d b.1) b.2.1 b.2.2)/\Ends P K b.1 b.2.1:=λf=>l f.1 f.2;let⟨k,hF⟩:=Classical.skolem.1 m;exact .step (λc a=>(k (c,a)).1) (λc a=>(k (c,a)).2.1) (λc a=>(k (c,a)).2.2) (λc a=>(hF (c,a)).1) (λc a=>(hF (c,a)).2.1) (λc a=>(hF (c,a)).2.2)
section
variable {K:LF->Bool->b_->Prop}
def ta(P:e_)(kk:List Item)(K:LF->Bool->b_->Prop):Prop:=∀a b,a.todo=[]->Reach P kk K (stop kk a false) b->K a false b
def yO(e:ta P kk K){a:LF}{b:Bool}{c:b_}(f:Halt a b)(d:Reach P kk K (stop kk a b) c):K a b c:=by
 cases b with
 |true=>exact DT d
 |false=>exact e a c (f.resolve_left dc) d
def yP{a:u4}(d:¬(a.rest=[]/\(a.top.todo=[]\/a.ret=true))):∀b c,Halt b c->oJ kk B0 a≠stop kk b c:=by intro b c f e;have:=s_ e;subst this;exact d ⟨rfl,f.symm⟩
def DU{a:u4}{d:b_}(e:¬(a.rest=[]/\(a.top.todo=[]\/a.ret=true)))(g:WW P kk a d)(c:Reach P kk K (oJ kk B0 a) d):False:=by
 rcases g with⟨i,h,f,b⟩|⟨j,k,h,f,b⟩
 .exact oU rfl (yP e) b c
 .exact Mw _ _ _ _ (sx rfl (yP e) b c)
def DV(c:u4):(∃a d,c=⟨a,d,[]⟩/\Halt a d)\/¬(c.rest=[]/\(c.top.todo=[]\/c.ret=true)):=by
 let⟨a,g,rest⟩:=c
 cases rest with
 |cons e f=>exact .inr λb=>by cases b.1
 |nil=>
  cases g with
  |true=>exact .inl ⟨a,true,rfl,.inl rfl⟩
  |false=>
   cases h:a.todo with
   |nil=>exact .inl ⟨a,false,rfl,.inr h⟩
   |cons e f=>exact .inr (λb=>by rcases b.2 with b|b<;>cases b)
def IX(F:Fit P V)(N:∀id,exitTo id kk=none)(R:ta P kk K)(t:∀a b d L E,K a b d->K a b (rt d L E)):∀(n:Nat) (f:u4) (d:b_) (e g:Tp) (c i:Nat),FS V f->(∀m k,e (c+m) k=g (i+m) k)->
 (∃a b j,runN P n (solo (oJ kk B0 f)<|rt d e c)=.next (solo (stop kk a b) j)/\Halt a b/\K a b j)->Reach P kk K (oJ kk B0 f) (rt d g i):=by
 intro n
 induction n with
 |zero=>intro f d e g c i x r ⟨a,b,j,p,I,M⟩;simp only[runN,aap]at p;obtain⟨D,rfl⟩:=pD p;rw[D];exact⟨0,a,b,_,rfl,I,by have:=t a b _ g i M;rwa[tu]at this⟩
 |succ n Q=>
  intro f d e g c i x r u;have w:Reach P kk K (oJ kk B0 f)<|rt d e c:=let ⟨a,b,j,h⟩:=u;⟨n+1,a,b,j,h⟩
  rcases DV f with⟨a,b,rfl,A⟩|y
  .have:=yO R A w;exact⟨0,a,b,_,rfl,A,by have:=t a b _ g i this;rwa[tu]at this⟩
  .rcases Sn F N f x y (rt d e c)with⟨s,v,j,U,p,_,_,_,C⟩|S
   .have B:=C e c (λm _ k=>rfl) true kk B0;have z:=C g i (λm _ k=>(r m k).symm) true kk B0;rw[tu]at B z;have T:∃a b l,runN P n (solo (oJ kk B0 v)<|rt j e<|c+s)=.next (solo (stop kk a b) l)/\Halt a b/\K a b l:=by let⟨a,b,l,o,q⟩:=u;rw[s9 rfl B]at o;exact⟨a,b,l,o,q⟩
    let⟨O,a,b,l,o,q,J⟩:=Q v j e g (c+s) (i+s) p (λm k=>by rw[aaC,aaC];exact r _ k) T;exact⟨O+1,a,b,l,by rw[s9 rfl z];exact o,q,J⟩
   .exact(DU y S w).elim
structure Un(P:e_)(V:Env)(kk:List Item)(K:LF->Bool->b_->Prop)(x:u4×b_):Prop where
 ok:FS V x.1
 reach:∀τ d,Reach P kk K (oJ kk B0 x.1)<|rt x.2 τ d
 not:¬Ends P K x.1 x.2
structure Nx where
 c:u4
 w:b_
 τ:Tp
 d:Nat
 n:Nat
 es:Array Event
def O7(A:Fit P V)(E:∀id,exitTo id kk=none)(J:ta P kk K)(z:∀k l g c b,K k l g->K k l (rt g c b))(d:u4×b_)(aa:Un P V kk K d):
 ∃h:Nx,Un P V kk K (h.c,h.w)/\∀n m,(∀a,a<h.n->∀e,n (m+a) e=h.τ (h.d+a) e)->stepG P true (oJ kk B0 d.1) (rt d.2 n m)=.go (oJ kk B0 h.c) (rt h.w n<|m+h.n) h.es:=by
 let⟨i,g⟩:=d;let⟨B,p,u⟩:=aa;simp only at B p u⊢
 have o:¬(i.rest=[]/\(i.top.todo=[]\/i.ret=true)):=by
  rcases DV i with⟨k,l,rfl,I⟩|o
  .have:=z k l _ g.tape g.drawn (yO J I<|p g.tape g.drawn);exact absurd (Ends.stop I this) u
  .exact o
 have:∃c b,∀d:u4×b_×Array Event,(∀N∈d.2.2,pU N)->(∀Y D C,stepG P Y (oJ D C i) (rt g c b)=.go (oJ D C d.1) d.2.1 d.2.2)->¬Ends P K d.1 d.2.1:=by refine Zb λr=>u<|IW λc b=>Zb λS=>r ⟨c,b,λd q t W=>S ⟨d,q,t,W⟩⟩
 let⟨c,b,r⟩:=this;rcases Sn A E i B o (rt g c b)with⟨f,v,w,y,q,t,_,_,x⟩|ab
 .have Q:=x c b λa _ e=>rfl;refine⟨⟨v,rt w c<|b+f,c,b,f,y⟩,⟨q,λF M=>?_,r (v,rt w c<|b+f,y) t Q⟩,λn m R=>?_⟩
  .simp only;rw[tu];let j:Tp:=λa e=>if a<f then c (b+a) e else F (M+(a-f)) e;have Z:tv f (rt g c b) j 0:=λa s e=>by show j (0+a) e=c (b+a) e;simp[j,s]
   have L:=x j 0 Z true kk B0;rw[tu]at L;let⟨ac,k,l,X,U,O,T⟩:=sx rfl (yP o) L (p j 0);refine IX A E J z ac v w j F (0+f) M q (λa e=>?_) ⟨k,l,X,U,O,T⟩;have:¬0+f+a<f:=om;show(if 0+f+a<f then _ else _)=_;rw[Yo this];congr 2;omega
  .have:=x n m (λa s e=>R a s e) true kk B0;rw[tu]at this;rw[tu];exact this
 .exact(DU o ab<|p c b).elim
def ends(F:Fit P V)(O:∀id,exitTo id kk=none)(S:ta P kk K)(A:∀o p m h u,K o p m->K o p (rt m h u))(n:u4)(C:FS V n)(m:b_)(g:∀h u,Reach P kk K (oJ kk B0 n)<|rt m h u):Ends P K n m:=by
 refine Zb λN=>?_
 classical
 let B:={d:u4×b_ // Un P V kk K d};have Q:∀d:B,∃j:Nx,Un P V kk K (j.c,j.w)/\∀v t,(∀a,a<j.n->∀l,v (t+a) l=j.τ (j.d+a) l)->stepG P true (oJ kk B0 d.1.1) (rt d.1.2 v t)=.go (oJ kk B0 j.c) (rt j.w v<|t+j.n) j.es:=λd=>O7 F O S A d.1 d.2;let⟨i,hF⟩:=Classical.skolem.1 Q;let c:Nat->B:=λa=>Nat.rec ⟨(n,m),C,g,N⟩ (λ_ d=>⟨((i d).c,(i d).w),(hF d).1⟩) a;let b:Nat->Nat:=λa=>Nat.rec 0 (λa s=>s+(i<|c a).n) a;have y:∀a,b (a+1)=b a+(i<|c a).n:=λa=>rfl
 have z:∀a f,a<=f->b a<=b f:=by
  intro a f U
  induction f with
  |zero=>
   obtain rfl:a=0:=by omega
   exact YC _
  |succ f x=>
   rcases Zj a (f+1)with g|g
   .exact YH (x<|by omega) (by rw[y];omega)
   .obtain rfl:a=f+1:=by omega
    exact YC _
 let h:Tp:=λf l=>if e:∃a,b a<=f/\f<b (a+1)then(i<|c<|Classical.choose e).τ ((i<|c<|Classical.choose e).d+(f-b (Classical.choose e))) l else 0
 have L:∀a k,k<(i<|c a).n->∀l,h (b a+k) l=(i<|c a).τ ((i<|c a).d+k) l:=by
  intro a k W l;have e:∃q,b q<=b a+k/\b a+k<b (q+1):=⟨a,by omega,by rw[y];omega⟩;have C:=abK e
  have R:Classical.choose e=a:=by
   rcases ab5 (Classical.choose e) a with g|g|g
   .have:=z (Classical.choose e+1) a g;omega
   .exact g
   .have:=z (a+1) (Classical.choose e) g;have:=y a;omega
  show(if e:∃q,b q<=b a+k/\b a+k<b (q+1)then _ else _)=_;rw[abw e,R];congr 2;omega
 have E:∀a,runN P a (solo (oJ kk B0 n)<|rt m h 0)=.next (solo (oJ kk B0 (c a).1.1)<|rt (c a).1.2 h<|b a):=by
  intro a
  induction a with
  |zero=>rfl
  |succ a x=>rw[runN_add,x];simp only[runN];have:=(hF (c a)).2 h (b a)<|L a;rw[step_solo_go rfl this]
 let⟨r,o,p,X,w,I,M⟩:=g h 0;rw[E r]at w;simp only[aap]at w;let⟨s,D⟩:=pD w;have T:=s_ s;have J:K o p (c r).1.2:=by have:=A o p _ (c r).1.2.tape (c r).1.2.drawn M;rwa[<-D,tu,qa]at this
 refine(c r).2.not ?_;rw[T];exact Ends.stop I J
end
end
section
variable {P:e_}{V:Env}
structure zK(t:Trace):Prop where
 clean:∀said,¬Race said t
 known:∀i a,touchAt t i=some a->a.loc.isMemory=true->Knows t 0 i
 over:t.HandedOver
 hears:Deaf t 0=0
def O8:zK #[]:=⟨past_nil.clean,λe c d a=>(past_nil.known e c d a).elim id λb=>b.1.elim,past_nil.over,past_nil.hears⟩
def zK.app0{b c:Trace}(a:zK b)(f:∀d∈c,d.g=0)(k:Deaf (b++c) 0=Deaf b 0):zK (b++c):=by
 refine⟨λr=>noRace_append (a.clean r) f λh e g d j s t l=>a.known h e g l.2.1,λh e g o=>?_,handedOver_app a.over λd j=>.inl<|f d j,k.trans a.hears⟩;let⟨q,i,n⟩:=touch_of g;rcases getElem?_append_cases i with⟨_,p⟩|⟨_,m⟩
 .exact(a.known h e (by rw[touchAt_of p];exact n) o).app c
 .have:=knows_own i;rw[f q m]at this;exact this
def zK.appMute{d b:Trace}{l:Nat}(c:zK d)(p:l≠0)(i:∀a∈b,a.g=l)(e:∀a∈b,a.act.touch?=none):zK (d++b):=by
 refine⟨λt=>noRace_append (c.clean t) i λk h _ a g u j _=>(by rw[e a g]at j;cases j),λk h q o=>?_,handedOver_app c.over λa g=>.inr<|e a g,(Deaf_other d p b i).trans c.hears⟩;let⟨s,n,f⟩:=touch_of q;rcases getElem?_append_cases n with⟨_,r⟩|⟨_,m⟩
 .exact(c.known k h (by rw[touchAt_of r];exact f) o).app b
 .rw[e s m]at f;cases f
def zK.own{b:Trace}(e:zK b){fn:g_}{pos:String}{es:Array Event}(c:∀a∈es,pU a):zK (b++MemOp.ofEvents 0 fn pos es):=by refine e.app0 (λg f=>by obtain⟨a,_,rfl⟩:=Zi f;rfl) ?_;rw[Deaf_own];exact deafBehind_still (λa d=>c a d) _
def zK.mute{c:Trace}(j:zK c){e:Nat}(g:e≠0){k:g_}{h:String}{d:Array Event}(f:∀a∈d,a.mute=true):zK (c++MemOp.ofEvents e k h d):=
 j.appMute g (λi b=>by obtain⟨a,_,rfl⟩:=Zi b;rfl) (λi b=>by obtain⟨a,he,rfl⟩:=Zi b;exact touch_mute<|f a he)
structure Beside(P:e_)(gs:Array c_)(t:Trace)(a:c_):Prop where
 Ym:gs[0]?=some a
 leave:∃q,Leavers P t gs q
 past:zK t
def oe(P:e_)(f:Array c_)(e:b_)(d:Trace)(j:Array c_->b_->Trace->Prop):Prop:=
 ∀h,∃i b c g a,runNT P i (crowd f e h) d=(.next<|crowd b c g,a)/\j b c a
def oe.here{c:Array c_}{b:b_}{a:Trace}{d:Array c_->b_->Trace->Prop}(f:d c b a):oe P c b a d:=λe=>⟨0,c,b,e,a,rfl,f⟩
def oe.bind{a:Array c_}{c:b_}{b:Trace}{e d:Array c_->b_->Trace->Prop}(g:oe P a c b e)(l:∀a c b,e a c b->oe P a c b d):oe P a c b d:=by intro i;let⟨q,oZ,r,p,t1,m,h⟩:=g i;let⟨o,pj,n,f,t2,k,j⟩:=l _ _ _ h p;exact⟨q+o,pj,n,f,t2,by rw[runNT_add,m];exact k,j⟩
def wD{v:Array c_->b_->Trace->Prop}{n:c_}{c:b_}(L:n.status=.running)(w:Nat)
 (am:∀o a b h,a.size=w->Beside P a b n->∃f x s O,runT P (crowd a (rt c c.tape o) h) 0=(.next<|crowd f x s,O)/\oe P f x (b++O) v):
 ∀a b,a.size=w->Beside P a b n->oe P a c b v:=by
 have move:∀(a:Array c_) (d0:Nat) (b:Trace) (d:Nat->Nat) (h:Option<|Nat×Nat) (m:Nat),sumTo a.size d<=m->a.size=w->a[0]?=some n->Leavers P b a d->zK b->
  (∀(f:Array c_) (K:Nat) (g:Trace) (z:Nat->Nat) (l:Nat),sumTo f.size z+1<=m->f.size=w->f[0]?=some n->Leavers P g f z->zK g->oe P f (rt c c.tape K) g v)->
  ∃y f x s g,runNT P y (crowd a (rt c c.tape d0) h) b=(.next<|crowd f x s,g)/\v f x g:=by
  intro a d0 b d h m F q j i r R
  have au:∀k∈a,awake k:=by
   intro k t;obtain⟨e,p,rfl⟩:=Array.mem_iff_getElem.1 t;rcases ZR e with rfl|T
   .have:a[0]=n:=by simpa[aau p]using j
    rw[this];exact awake_of<|.inl L
   .exact awake_of<|(i.old e _ T (aau p)).status.elim .inl λaa=>.inr<|.inr aa
  obtain⟨e,k,o,s,p,t,W⟩:=crowd_pick (P:=P) (w:=rt c c.tape d0) (sl:=h) au ⟨0,n,j,L⟩;have ac:(rt c c.tape d0).at o=rt c c.tape o:=rfl;rw[ac]at W;rcases ZR e with rfl|T
  .obtain rfl:k=n:=by rw[j]at p;exact(YR p).symm
   obtain⟨oZ,az,an,O,J,aj⟩:=am o a b s q ⟨j,⟨d,i⟩,r⟩;obtain⟨y,f,U,M,g,N,S⟩:=aj an;exact⟨y+1,f,U,M,g,by simp only[runNT,W,J];exact N,S⟩
  .have C:=i.old e k T p;have ad:(e==0)=false:=so;have Y:e<a.size:=(YU.1 p).1
   cases I:d e with
   |zero=>rw[I]at C;rw[C.1]at t;cases t
   |succ l=>
    rw[I]at C;rcases C with⟨ak,_⟩|⟨_,u,ab,al,ao,ae⟩
    .rw[ak]at t;cases t
    have J:=runT_crowd_go (P:=P) (sl:=s) (i:=e) p (by rw[ad];exact ao<|rt c c.tape o);have X:((a.map<|woken P k u<|rt c c.tape o).setIfInBounds e u).size=a.size:=si;have aA:sumTo a.size (upd d e l)+(l+1)=sumTo a.size d+l:=by have:=sumTo_upd d l id Y;simpa[I]using this
    let⟨y,f,U,M,g,N,S⟩:=R ((a.map<|woken P k u<|rt c c.tape o).setIfInBounds e u) o (b++MemOp.ofEvents e k.frame.fn k.frame.place ab) (upd d e l) 0 (p1 X) (X.trans q)
     (by
      have aq:e≠0:=om;rw[Ze aq,aa4,j]
      simp[woken_run L])
     ⟨λA aa D E=>by
      by_cases B:e=A
      .subst B;rw[Array.getElem?_setIfInBounds_self_of_lt<|by simpa using Y]at E;obtain rfl:=YR E;rw[upd_same,Deaf_own];exact ae
      .rw[Ze B,aa4]at E;obtain⟨ax,av,rfl⟩:=Zk.1 E;have Z:=i.old A ax D av;rw[woken_quitsD Z,upd_ne d l<|Ne.symm B,Deaf_other b B _ (λay Q=>by obtain⟨ap,_,rfl⟩:=Zi Q;rfl)]
       exact Z,λA D=>by
      rw[Deaf_other b (g':=e) (by simp at D;omega) _ (λay Q=>by obtain⟨ap,_,rfl⟩:=Zi Q;rfl)]
      exact i.above A<|by simpa using D⟩
     (r.mute om al) s
    exact⟨y+1,f,U,M,g,by simp only[runNT,W,J];exact N,S⟩
 have aw:∀(m:Nat) (a:Array c_) (d0:Nat) (b:Trace) (d:Nat->Nat),sumTo a.size d<=m->a.size=w->a[0]?=some n->Leavers P b a d->zK b->oe P a (rt c c.tape d0) b v:=by
  intro m
  induction m with
  |zero=>intro a d0 b d F q j i r h;exact move a d0 b d h 0 F q j i r λ_ _ _ _ l af=>om
  |succ m R=>intro a d0 b d F q j i r h;exact move a d0 b d h (m+1) F q j i r λf K g z l af ai ar ah ag=>R f K g z om ai ar ah ag
 intro a b q ⟨j,⟨d,i⟩,r⟩;exact aw _ a c.drawn b d kM q j i r
def nR{p:Array c_->b_->Trace->Prop}{d:c_}{c:b_}(v:d.status=.running)
 (B:∀e,∃k m j,stepG P true d (rt c c.tape e)=.go k m j/\(∀h∈j,pU h)/\∀a b,Beside P a b k->oe P a m b p):
 ∀a b,Beside P a b d->oe P a c b p:=by
 intro a b C;refine wD v a.size (λe a b w _ J=>?_) a b rfl C;obtain⟨o,⟨E,r⟩,y⟩:=J;obtain⟨k,m,j,z,F,A⟩:=B e;have s:=runT_crowd_go (P:=P) (sl:=w) o z;have t:=(YU.1 o).1;refine⟨_,_,_,_,s,A _ _ ⟨by simp[t],⟨E,λg K f q=>?_,λg f=>?_⟩,y.own F⟩⟩
 .have u:0≠g:=om;rw[Ze u,aa4]at q;obtain⟨D,x,rfl⟩:=Zk.1 q;have n:=r.old g D f x;rw[woken_quitsD n,Deaf_other b om _ (λI l=>by obtain⟨h,_,rfl⟩:=Zi l;rfl)];exact n
 .rw[Deaf_other b (g':=0) (by simp at f;omega) _ (λI l=>by obtain⟨h,_,rfl⟩:=Zi l;rfl)];exact r.above g (by simpa using f)
def uP{k:LF->Bool->b_->Prop}{j:u4}{l:b_}(m:Ends P k j l)(f:List Item)(e:List Frame):
 ∀d a,Beside P d a (oJ f e j)->oe P d l a λp i u=>∃h g,Halt h g/\k h g i/\Beside P p u (oJ f e ⟨h,g,[]⟩):=by
 induction m with
 |stop s v=>exact λd a q=>oe.here ⟨_,_,s,v,q⟩
 |step o i n r w y t=>rename_i z c;refine nR rfl λb=>⟨oJ f e<|o c.tape b,i c.tape b,n c.tape b,w c.tape b true f e,r _ _,λd a x=>t c.tape b d a x⟩
end
section
variable {P:e_}{V:Env}
def Fr(fn:g_)(tmps:Array f_)(todo:List Item):Frame:={fn,tmps,todo,defers:=[],mode:=.run,kind:=.normal}
def Cl(I:b_->Prop):Prop:=∀a c b,I a->I (rt a c b)
def kI(P:e_)(d:c_)(I:b_->Prop)(Q:Array c_->b_->Trace->Prop):Prop:=∀b c a,I c->Beside P b a d->oe P b c a Q
def kI.ctl{b f:c_}{I:b_->Prop}{Q:Array c_->b_->Trace->Prop}(i:Cl I)(h:b.status=.running)(m:∀a,stepG P true b a=.go f a #[])(j:kI P f I Q):kI P b I Q:=
 λe a c l d=>nR h (λg=>⟨f,rt a a.tape g,#[],m _,si,λe c d=>j e _ c (i _ _ _ l) d⟩) e c d
def kI.pre{b:c_}{I c:b_->Prop}{Q:Array c_->b_->Trace->Prop}(i:kI P b c Q)(h:∀a,I a->c a):kI P b I Q:=λg a d e f=>i g a d (h a e) f
def kI.bind{d:c_}{I:b_->Prop}{Q e:Array c_->b_->Trace->Prop}(i:kI P d I Q)(f:∀c b a,Q c b a->oe P c b a e):kI P d I e:=λc b a g h=>(i c b a g h).bind f
def TJ{fn:g_}{m:Array f_->b_->Prop}:ta P k0 (λa j f=>j=false/\a.fn=fn/\m a.tmps f):=by
 intro a e n l;let⟨g,p,q,f,b,r,o⟩:=l
 cases g with
 |zero=>simp only[runN,aap]at b;obtain⟨h,rfl⟩:=pD b;have:=s_ h;simp only[u4.mk.injEq,ZV]at this;rw[this.1];exact⟨rfl,o.2⟩
 |succ g=>
  have:∃d,stepG P true (stop k0 a false) e=.ended d e #[]:=by unfold stop oJ LF.fr;simp only[n];exact⟨_,rfl⟩
  let⟨d,i⟩:=this;rw[runN_ended rfl i]at b;cases b
def kI.wp(t:Fit P V){e:Code}{fn:g_}(C:okCode V fn e=true){tmps:Array f_}(D:tB V fn tmps){I:b_->Prop}(y:Cl I){J:Array f_->b_->Prop}(M:∀f,Cl<|J f){k:List Item}{B:List Frame}{Q:Array c_->b_->Trace->Prop}
 (E:∀b,I b->e.wp P (λl f c=>l=.normal/\f.defers=[]/\J f.tmps c) ⟨tmps,[]⟩ b) (h:∀q,kI P (G (Fr fn q k) B) (J q) Q):kI P (G (Fr fn tmps (.code e::k)) B) I Q:=by
 intro w b z s O
 have x:Ends P (λa i c=>i=false/\a.fn=fn/\J a.tmps c) ⟨⟨fn,tmps,[.code e]⟩,false,[]⟩ b:=by
  refine ends t (λ_=>rfl) TJ (λa i b n m j=>⟨j.1,j.2.1,M _ _ _ _ j.2.2⟩) _ ⟨⟨λS r=>?_,D⟩,λa d=>by cases d⟩ b λn m=>?_
  .obtain rfl:=Y'.1 r;exact C
  .obtain⟨l,g,c,⟨rfl,o,A⟩,L,h⟩:=E (rt b n m) (y _ _ _ s) {(default:Frame)with fn:=fn,kind:=.normal} k0 B0;refine⟨L,⟨fn,g.tmps,[]⟩,false,c,?_,.inr rfl,rfl,rfl,A⟩;have F:({(default:Frame)with fn:=fn,kind:=.normal}:Frame).at g k0=(⟨fn,g.tmps,[]⟩:LF).fr k0 .run:=by let⟨U,T⟩:=g;simp only at o;subst o;rfl
   rw[F]at h;exact h
 refine(uP x k B w z O).bind λK c N ⟨a,i,d,⟨R,p,u⟩,v⟩=>h a.tmps K c N u ?_;subst R;have d:=d.resolve_left dc;have:oJ k B ⟨a,false,[]⟩=G (Fr fn a.tmps k) B:=by let⟨f,i,e⟩:=a;simp only at d p;subst d p;rfl
 rw[<-this];exact v
section ctl
variable {fn:g_}{tmps:Array f_}{k:List Item}{B:List Frame}{I:b_->Prop}{Q:Array c_->b_->Trace->Prop}
end ctl
end
structure Ch where
 base:Nat
 c:Bool->Nat
 ix:Bool->Nat
structure pV(C:Ch):Prop where
 low:∀s,C.c s<C.base
 two:C.c false≠C.c true
 pos:∀s,0<C.ix s
 ne:C.ix false≠C.ix true
def qu(C:Ch)(a:Nat):Prop:=a<C.base/\∀s,a≠C.c s
structure Rel(C:Ch)(mine:List Nat)(w w₁:b_):Prop where
 tape:w₁.tape=w.tape
 os:w₁.os=w.os
 output:w₁.output=w.output
 size:w.heap.size<=w₁.heap.size
 keep:∀b,qu C b\/b∈mine->w₁.heap[b]?=w.heap[b]?
def Rel.refl(C:Ch)(b:List Nat)(a:b_):Rel C b a a:=⟨rfl,rfl,rfl,YC _,λ_ _=>rfl⟩
def Rel.trans{C:Ch}{c:List Nat}{e h d:b_}(b:Rel C c e h)(a:Rel C c h d):Rel C c e d:=
 ⟨a.tape.trans b.tape,a.os.trans b.os,a.output.trans b.output,YH b.size a.size,λg f=>(a.keep g f).trans<|b.keep g f⟩
def Rel.at(C:Ch)(b:List Nat)(w:b_)(a:Nat):Rel C b w (w.at a):=⟨rfl,rfl,rfl,YC _,λ_ _=>rfl⟩
def JW(C:Ch)(d:List Nat)(c:Event):Prop:=
 pU c/\∀a,(MemAct.ofEvent c).touch?=some a->(∃b,a.loc=.cell b/\(b.block∈d\/(a.write=false/\qu C b.block)))\/(a.write=false/\∃s,a.loc=.obj (C.c s))
def grow(b:List Nat)(a c:b_):List Nat:=List.range' a.heap.size (c.heap.size-a.heap.size)++b
structure xy(C:Ch)(mine:List Nat)(w w':b_)(es:Array Event):Prop where
 tape:w'.tape=w.tape
 os:w'.os=w.os
 output:w'.output=w.output
 size:w.heap.size<=w'.heap.size
 keep:∀b,b<w.heap.size->b∉mine->w'.heap[b]?=w.heap[b]?
 ev:∀e∈es,JW C (grow mine w w') e
def mem_grow{e:List Nat}{c d:b_}{b:Nat}(f:c.heap.size<=d.heap.size):b∈grow e c d↔(c.heap.size<=b/\b<d.heap.size)\/b∈e:=by
 unfold grow;rw[ZU,List.mem_range'_1];constructor
 .rintro (a|a)
  .exact .inl om
  .exact .inr a
 .rintro (a|a)
  .exact .inl om
  .exact .inr a
def zL(C:Ch)(b:List Nat)(c:b_):Prop:=∀a∈b,C.base<=a/\a<c.heap.size
def Apart(b c:List Nat):Prop:=∀a,a∈b->a∉c
def xy.rel{C:Ch}{e f:List Nat}{c g:b_}{i:Array Event}(b:xy C e c g i)(j:C.base<=c.heap.size)(h:zL C e c)(m:zL C f c)(k:Apart f e):Rel C f c g:=by
 refine⟨b.tape,b.os,b.output,b.size,λd a=>?_⟩;rcases a with a|a
 .exact b.keep d (Yy a.1 j) λl=>by have:=(h d l).1;have:=a.1;omega
 .exact b.keep d (m d a).2 (k d a)
def xy.mine{C:Ch}{c:List Nat}{b d:b_}{es:Array Event}(e:xy C c b d es)(h:C.base<=b.heap.size)(f:zL C c b):zL C (grow c b d) d:=by
 intro g a;rcases(mem_grow e.size).1 a with a|a
 .omega
 .have:=f g a;have:=e.size;omega
def xy.apart{C:Ch}{c d:List Nat}{b g:b_}{h:Array Event}(k:xy C c b g h)(j:zL C d b)(i:Apart c d):Apart (grow c b g) d:=by
 intro f a e;rcases(mem_grow k.size).1 a with a|a
 .have:=(j f e).2;omega
 .exact i f a e
def Apart.symm{b a:List Nat}(f:Apart b a):Apart a b:=λe c d=>f e d c
def zL.mono{C:Ch}{c:List Nat}{a f:b_}(e:zL C c a)(g:a.heap.size<=f.heap.size):zL C c f:=λd b=>⟨(e d b).1,by have:=(e d b).2;omega⟩
def wE{C:Ch}(i:pV C){c:List Nat}{b:b_}(k:zL C c b)(s:Bool)(g:Nat)(l:Array f_)(m:Bool)(f h:Nat)(n:Bool):Rel C c b (b.setChan (C.c s) g l m f h n):=by
 refine⟨rfl,rfl,rfl,by simp[World.setChan],λd a=>?_⟩
 have j:C.c s≠d:=by
  rcases a with a|a
  .exact λe=>a.2 s e.symm
  .have:=(k d a).1;have:=i.low s;omega
 simp[World.setChan,Ze j]
section
variable (P:e_)(C:Ch)(main:Bool)(Stop:List Nat->c_->b_->Prop)
def Gb:Nat->List Nat->c_->b_->Prop
 |0,b,c,d=>∀a,Rel C b d a->Stop b c a
 |h+1,b,c,d=>(∀a,Rel C b d a->Stop b c a)\/(c.status=.running/\∀a,Rel C b d a->∃f e g,stepG P main c a=.go f e g/\f.status=.running/\xy C b a e g/\Gb h (grow b a e) f e)
end
def Gb.rel{P:e_}{C:Ch}{main:Bool}{Stop:List Nat->c_->b_->Prop}{d:Nat}{f:List Nat}{i:c_}{h g:b_}(c:Gb P C main Stop d f i h)(e:Rel C f h g):Gb P C main Stop d f i g:=by
 cases d with
 |zero=>exact λa b=>c a<|e.trans b
 |succ d=>exact c.imp (λc a b=>c a<|e.trans b) λ⟨j,k⟩=>⟨j,λa b=>k a<|e.trans b⟩
def Gb.cases{P:e_}{C:Ch}{main:Bool}{Stop:List Nat->c_->b_->Prop}{b:Nat}{c:List Nat}{f:c_}{a:b_}(d:Gb P C main Stop b c f a):
 (∀i,Rel C c a i->Stop c f i)\/∃h,b=h+1/\f.status=.running/\∃g e j,stepG P main f a=.go g e j/\g.status=.running/\xy C c a e j/\Gb P C main Stop h (grow c a e) g e:=by
 cases b with
 |zero=>exact .inl d
 |succ b=>
  rcases d with d|⟨k,l⟩
  .exact .inl d
  .exact .inr ⟨b,rfl,k,l a<|.refl ..⟩
def Gb.running{P:e_}{C:Ch}{main:Bool}{Stop:List Nat->c_->b_->Prop}(f:∀e b c,Stop e b c->b.status=.running){g:Nat}{d:List Nat}{b:c_}{c:b_}(a:Gb P C main Stop g d b c):b.status=.running:=by
 rcases a.cases with a|⟨_,_,a,_⟩
 .exact f _ _ _ (a c<|.refl ..)
 .exact a
section
variable (P:e_)(C:Ch)(s:Bool)
def BR(d:f_)(Next:List Nat->c_->b_->Prop)(e:List Nat)(c:c_)(a:b_):Prop:=
 c.status=.running/\∃b z,stepG P false c a=.comm b #[scase (C.c s) d z] true .send a #[]/\Next e (Conc.served b undef) a
def yQ(b:c_)(a:b_):Prop:=
 b.status=.running/\mayWake P b=true/\∃e g,(∀c f d,a.heap[C.c s]?=some (.chan 0 #[] false c f d)->stepG P false b a=.go e (a.setChan (C.c s) 0 #[] true c f d) #[⟨.obj<|C.c s,false,true⟩,⟨.obj<|C.c s,true,true⟩])/\QuitsIn P g e
def FU:List f_->List Nat->c_->b_->Prop
 |[],c,b,a=>∃d,Gb P C false (λ_ b a=>yQ P C s b a) d c b a
 |e::f,c,b,a=>∃d,Gb P C false (BR P C s e<|FU f) d c b a
def DW:List f_->List Nat->c_->b_->Prop
 |[]=>λ_ b a=>yQ P C s b a
 |v::c=>BR P C s v (FU P C s c)
def qd(a:List f_)(c:List Nat)(d:c_)(b:b_):FU P C s a c d b↔∃e,Gb P C false (DW P C s a) e c d b:=by cases a<;>exact Iff.rfl
def mP(b:List f_)(d:List Nat)(a:c_)(c:b_)(e:DW P C s b d a c):a.status=.running:=by cases b<;>exact e.1
end
def FU.rel{P:e_}{C:Ch}{s:Bool}{e:List f_}{a:List Nat}{d:c_}{c b:b_}(g:FU P C s e a d c)(f:Rel C a c b):FU P C s e a d b:=by let⟨i,h⟩:=(qd ..).1 g;exact(qd ..).2 ⟨i,h.rel f⟩
abbrev uf:=Bool->Option (List f_)
def np(b:uf)(s:Bool)(c:Option<|List f_):uf:=λa=>if a=s then c else b a
def wg1:Option (List f_)->Nat
 |none=>0
 |some a=>a.length+1
def Mx(a:uf):Nat:=wg1 (a false)+wg1 (a true)
def G'(a:uf)(s:Bool)(b:Option<|List f_):Mx (np a s b)+wg1 (a s)=Mx a+wg1 b:=by cases s<;>simp[Mx,np]<;>omega
def mL(C:Ch)(a:uf)(z:f_)(s:Bool):CommCase:=if (a s).isSome then rcase (C.c s) z else rcaseNil z
def mcases(C:Ch)(a:uf)(z:f_):Array CommCase:=#[mL C a z false,mL C a z true]
def zd(z:f_)(s:Bool)(a:f_)(ok:Bool):f_:=.tuple #[goInt (if s then 1 else 0),.bool ok,(if s then z else a),(if s then a else z)]
section
variable (P:e_)(C:Ch)(z:f_)(K:List Nat->c_->b_->Prop)
def yR(a:uf)(Next:uf->List Nat->c_->b_->Prop)(c:List Nat)(f:c_)(b:b_):Prop:=
 (∀s d e,a s=some (d::e)->Next (np a s<|some e) c (Conc.served f<|zd z s d true) b)/\(∀s,a s=some []->Next (np a s none) c (Conc.served f<|zd z s z false) b)
def My(c:uf)(Next:uf->List Nat->c_->b_->Prop)(d:List Nat)(a:c_)(b:b_):Prop:=
 a.status=.running/\stepG P true a b=.comm (core a) (mcases C c z) true .select b #[]/\yR z c Next d (core a) b
def tZ:Nat->uf->List Nat->c_->b_->Prop
 |0,_,c,a,b=>∃d,Gb P C true (λc a b=>a.status=.running/\K c a b) d c a b
 |e+1,f,c,a,b=>∃d,Gb P C true (My P C z f<|tZ e) d c a b
def DX:Nat->uf->List Nat->c_->b_->Prop
 |0,_=>λd a c=>a.status=.running/\K d a c
 |b+1,e=>My P C z e (tZ P C z K b)
def oE(a:Nat)(d:uf)(c:List Nat)(e:c_)(b:b_):tZ P C z K a d c e b↔∃f,Gb P C true (DX P C z K a d) f c e b:=by cases a<;>exact Iff.rfl
def nx(a:Nat)(e:uf)(d:List Nat)(b:c_)(c:b_)(f:DX P C z K a e d b c):b.status=.running:=by cases a<;>exact f.1
def So(e b:List f_)(g:List Nat)(f:c_)(a:b_):Prop:=
 f.status=.running/\∃c d,stepG P true f a=.spawn c d a #[]/\FU P C true b [] d a/\tZ P C z K (e.length+1+(b.length+1)) (λs=>if s then some b else some e) g c a
end
def tZ.rel{P:e_}{C:Ch}{z:f_}{K:List Nat->c_->b_->Prop}{d:Nat}{e:uf}{a:List Nat}{f:c_}{c b:b_}(i:tZ P C z K d e a f c)(g:Rel C a c b):tZ P C z K d e a f b:=by let⟨j,h⟩:=(oE ..).1 i;exact(oE ..).2 ⟨j,h.rel g⟩
def yR.rel{P:e_}{C:Ch}{z:f_}{K:List Nat->c_->b_->Prop}{h:Nat}{e:uf}{b:List Nat}{i:c_}{g d:b_}(f:yR z e (tZ P C z K h) b i g)(c:Rel C b g d):yR z e (tZ P C z K h) b i d:=
 ⟨λs k j a=>(f.1 s k j a).rel c,λs a=>(f.2 s a).rel c⟩
def Part(c:Ch)(d:Bool->Bool)(a:Nat):Prop:=a=0\/∃b,d b=true/\a=c.ix b
def Sp(c:Ch)(e:List Nat)(a:Touch):Prop:=(∃b,a.loc=.cell b/\(b.block∈e\/(a.write=false/\qu c b.block)))\/(a.write=false/\∃d,a.loc=.obj (c.c d))
def Sp.mono{c:Ch}{b d:List Nat}{a:Touch}(j:Sp c b a)(e:∀i∈b,i∈d):Sp c d a:=
 j.imp (λ⟨g,f,h⟩=>⟨g,f,h.imp (e _) id⟩) id
structure zg(C:Ch)(on:Bool->Bool)(mi:Nat->List Nat)(t:Trace):Prop where
 clean:∀said,¬Race said t
 cls:∀i a,touchAt t i=some a->a.loc.isMemory=true->(∀x,Part C on x->Knows t x i)\/∃x,Part C on x/\t.g? i=some x/\Sp C (mi x) a
 hears:∀x,Part C on x->Deaf t x=0
def BS{e:Ch}{g i:List Nat}{w:Bool}{j l:Touch}(d:Sp e g j)(a:Sp e i l)(s:∀h∈g,e.base<=h)(v:∀h∈i,e.base<=h)(o:Go.Proofs.YtcpldcojckhapaaGreat.Apart g i)(r:j.conflicts w l):False:=by
 let⟨b,_,h3,_⟩:=r;rcases d with⟨t,f,d⟩|⟨jC,q,f⟩
 .rcases a with⟨m,c,a⟩|⟨iw,q,c⟩
  .rw[f,c]at b;have n:t=m:=by simpa using b
   subst n;rcases d with d|⟨jC,u⟩
   .rcases a with a|⟨iw,k⟩
    .exact o _ d a
    .have:=s _ d;have:=k.1;omega
   .rcases a with a|⟨iw,k⟩
    .have:=v _ a;have:=u.1;omega
    .exact Sb
  .rw[f,c]at b;cases b
 .rcases a with⟨m,c,a⟩|⟨iw,x,c⟩
  .rw[f,c]at b;cases b
  .exact Sb
def IY{c:Ch}{d:List Nat}{b:Event}{a:Touch}(e:JW c d b)(f:(MemAct.ofEvent b).touch?=some a):Sp c d a:=by exact e.2 a f
def zg.own{c:Ch}{o:Bool->Bool}{k:Nat->List Nat}{t:Trace}(h:zg c o k t){x:Nat}(v:Part c o x){m:List Nat}(L:∀b∈k x,b∈m)
 (F:∀a,∀b∈k a,c.base<=b) (M:∀b∈m,c.base<=b) (O:∀a,Part c o a->a≠x->Go.Proofs.YtcpldcojckhapaaGreat.Apart m (k a)) {fn:g_}{pos:String}{es:Array Event} (D:∀g∈es,JW c m g):
 zg c o (upd k x m) (t++MemOp.ofEvents x fn pos es):=by
 have u:∀e∈MemOp.ofEvents x fn pos es,e.g=x:=λe j=>by obtain⟨g,_,rfl⟩:=Zi j;rfl
 have B:∀e∈MemOp.ofEvents x fn pos es,∀b,e.act.touch?=some b->Sp c m b:=λe j b y=>by obtain⟨g,w,rfl⟩:=Zi j;exact IY (D g w) y
 refine⟨λK=>noRace_append (h.clean K) u λz l q e j b y C=>?_,λz l q N=>?_,λa f=>?_⟩
 .rcases h.cls z l q C.2.1 with s|⟨a,f,r,n⟩
  .exact s x v
  .by_cases d:a=x
   .subst d;let⟨p,i,_⟩:=touch_of q;have P:p.g=a:=by simpa[Trace.g?,i]using r
    have:=knows_own i;rwa[P]at this
   .exact(BS n (B e j b y) (F a) M (O a f d).symm C).elim
 .let⟨p,i,A⟩:=touch_of q;rcases getElem?_append_cases i with⟨I,J⟩|⟨_,E⟩
  .rcases h.cls z l (by rw[touchAt_of J];exact A) N with s|⟨a,f,r,n⟩
   .exact .inl λa f=>(s a f).app _
   .refine .inr ⟨a,f,by rw[g?_old I];exact r,?_⟩;by_cases d:a=x
    .subst d;rw[upd_same];exact n.mono L
    .rw[upd_ne _ _ d];exact n
  .refine .inr ⟨x,v,by simp[Trace.g?,i,u p E],?_⟩;rw[upd_same];exact B p E l A
 .by_cases d:x=a
  .subst d;rw[Deaf_own,deafBehind_still λg w=>(D g w).1];exact h.hears x v
  .rw[Deaf_other t d _ u];exact h.hears a f
def zg.still{l:Ch}{h:Bool->Bool}{k:Nat->List Nat}{d:Trace}(M:zg l h k d)(b:MemOp)(j:b.act.touch?=none)(g:b.act≠.mark .disable/\b.act≠.mark .enable):zg l h k (d++#[b]):=by
 have q:∀c∈#[b],c.g=b.g:=λc f=>by obtain rfl:c=b:=(by simpa using f);rfl
 refine⟨λs=>noRace_append (M.clean s) q λi a m c f v n u=>?_,λi a m hm=>?_,λy ax=>?_⟩
 .obtain rfl:c=b:=by simpa using f
  rw[j]at n;cases n
 .let⟨r,o,dH⟩:=touch_of m;rcases getElem?_append_cases o with⟨hi,jD⟩|⟨_,t⟩
  .exact QZ
  .obtain rfl:r=b:=by simpa using t
   rw[j]at dH;cases dH
 .rw[Deaf_push]
  have:deafStep y (Deaf d y) b=Deaf d y:=by
   unfold deafStep;split
   .rename_i e;exact absurd e g.1
   .rename_i e;exact absurd e g.2
   .rfl
  rw[this];exact M.hears y ax
def zg.mute{j:Ch}{h:Bool->Bool}{r:Nat->List Nat}{g:Trace}(M:zg j h r g){b:Nat}(hg:¬Part j h b){f:g_}{l:String}{e:Array Event}(hm:∀c∈e,c.mute=true):zg j h r (g++MemOp.ofEvents b f l e):=by
 have m:∀d∈MemOp.ofEvents b f l e,d.g=b:=λd k=>by obtain⟨c,_,rfl⟩:=Zi k;rfl
 have n:∀d∈MemOp.ofEvents b f l e,d.act.touch?=none:=λd k=>by obtain⟨c,v,rfl⟩:=Zi k;exact touch_mute<|hm c v
 refine⟨λt=>noRace_append (M.clean t) m λi a o x s B q A=>?_,λi a o hm=>?_,λy ax=>?_⟩
 .rw[n x s]at q;cases q
 .let⟨w,u,dH⟩:=touch_of o;rcases getElem?_append_cases u with⟨hi,jD⟩|⟨_,z⟩
  .exact QZ
  .rw[n w z]at dH;cases dH
 .rw[Deaf_other g (λc=>hg (by rw[c];exact ax)) _ m];exact M.hears y ax
def rA{b:Trace}{a:MemOp}(c:Deaf b a.g=0):(b++#[a]).heard b.size:=by
 have d:(b++#[a])[b.size]?=some a:=by rw[acn kM];simp
 refine⟨a.g,by unfold Trace.g?;rw[d];rfl,?_⟩;rw[deaf_old kM];exact c
def qO(b:Trace)(a:MemOp):(b++#[a])[b.size]?=some a:=by rw[acn kM];simp
def zg.spawn{b:Ch}{g:Bool->Bool}{C:Nat->List Nat}{a:Trace}(q:zg b g C a){s:Bool}(Y:g s=false)(W:Deaf a (b.ix s)=0)(L:b.ix s≠0){x y:MemOp}(h:x.g=0/\x.act=.go (b.ix s))(e:y.g=b.ix s/\y.act=.start):
 zg b (λd=>if d=s then true else g d) C (a++#[x]++#[y]):=by
 have N:=q.still x (nY h.2) (by rw[h.2];exact⟨si,si⟩);have z:=N.still y (nY e.2) (by rw[e.2];exact⟨si,si⟩)
 have A:∀c,Part b (λd=>if d=s then true else g d) c->Part b g c\/c=b.ix s:=by
  rintro c (rfl|⟨d,p,rfl⟩)
  .exact .inl<|.inl rfl
  .by_cases n:d=s
   .subst n;exact .inr rfl
   .simp only[n,Y5]at p;exact .inl<|.inr ⟨d,p,rfl⟩
 have O:∀c,Part b g c->Part b (λd=>if d=s then true else g d) c:=by
  rintro c (rfl|⟨d,p,rfl⟩)
  .exact .inl rfl
  .exact .inr ⟨d,by simp[p],rfl⟩
 have d0:=q.hears 0<|.inl rfl;have w:Deaf (a++#[x]) (b.ix s)=0:=by rw[Deaf_other a (λn=>L n.symm) _ (λS E=>by obtain rfl:S=x:=(by simpa using E);exact h.1)];exact W
 have B:(a++#[x]++#[y])[a.size]?=some x:=by rw[getElem?_append_old si];exact qO a x
 have r:(a++#[x]++#[y])[(a++#[x]).size]?=some y:=qO _ y;have M:(a++#[x]++#[y]).heard a.size:=(heard_old si).2 (rA (by rw[h.1];exact d0));have X:(a++#[x]++#[y]).heard (a++#[x]).size:=rA (by rw[e.1];exact w)
 have P:HappensBefore (a++#[x]++#[y]) a.size (a++#[x]).size:=
  .single (.inr ⟨.spawn (by rw[act?_of B,h.2]) (by rw[act?_of r,e.2]) (by simp only[Trace.g?,r,aaY,e.1]),M,X⟩)
 have J:∀f,Knows a 0 f->Knows (a++#[x]++#[y]) (b.ix s) f:=by
  intro f o;have U:HappensBefore (a++#[x]++#[y]) f a.size:=by have:=o.hb_new kM (by rw[<-aa5];exact B) h.1;rwa[<-aa5]at this
  exact⟨_,y,r,e.1,.inr<|U.trans P⟩
 refine⟨z.clean,λf D T R=>?_,λc l=>?_⟩
 .let⟨c,l,i⟩:=touch_of T
  have v:a[f]?=some c:=by
   rcases getElem?_append_cases l with⟨_,Q⟩|⟨_,t⟩
   .rcases getElem?_append_cases Q with⟨_,V⟩|⟨_,t⟩
    .exact V
    .obtain rfl:c=x:=by simpa using t
     rw[h.2]at i;cases i
   .obtain rfl:c=y:=by simpa using t
    rw[e.2]at i;cases i
  have I:=lt_size_of_getElem? v;rcases q.cls f D (by rw[touchAt_of v];exact i) R with o|⟨m,k,K,F⟩
  .refine .inl λm k=>?_;rcases A m k with k|rfl
   .exact((o m k).app _).app _
   .exact J f<|o 0<|.inl rfl
  .exact .inr ⟨m,O m k,by rw[g?_old so,g?_old I];exact K,F⟩
 .rcases A c l with l|rfl
  .exact z.hears c l
  .rw[Deaf_push];have:deafStep (b.ix s) (Deaf (a++#[x])<|b.ix s) y=Deaf (a++#[x]) (b.ix s):=by unfold deafStep;rw[e.2]
   rw[this];exact w
def tb(b:Ch)(a:Trace)(d:Bool):Prop:=∃(e:Nat) (c:MemOp),a[e]?=some c/\c.g=b.ix d/\c.act=.close (b.c d)/\a.heard e/\∀f g,touchAt a f=some g->a.g? f=some (b.ix d)->Before a f e
def yS(d:Ch)(a:Trace)(e:Bool):Prop:=∀b c,touchAt a b=some c->c.loc.isMemory=true->a.g? b=some (d.ix e)->Knows a 0 b
def tb.app{c:Ch}{e a:Trace}{d:Bool}(M:tb c e d)(hu:∀b∈a,b.act.touch?=none\/b.g≠c.ix d):tb c (e++a) d:=by
 let⟨i,b,f,o,r,q,j⟩:=M;have g:=lt_size_of_getElem? f;refine⟨i,b,by rw[getElem?_append_old g];exact f,o,r,(heard_old g).2 q,λn h m hg=>?_⟩;let⟨z,cj,dH⟩:=touch_of m;rcases getElem?_append_cases cj with⟨k,l⟩|⟨_,jE⟩
 .exact(j n h (by rw[touchAt_of l];exact dH) (by rw[<-g?_old k];exact hg)).app a
 .exact RA
def yS.app{b:Ch}{d a:Trace}{c:Bool}(M:yS b d c)(hu:∀e∈a,e.act.touch?=none\/e.g≠b.ix c):yS b (d++a) c:=by
 intro k f j h hg;let⟨z,cj,dH⟩:=touch_of j;rcases getElem?_append_cases cj with⟨g,i⟩|⟨_,jE⟩
 .exact(M k f (by rw[touchAt_of i];exact dH) h (by rw[<-g?_old g];exact hg)).app a
 .exact RA
def DY{c:Ch}{b:Trace}{d:Bool}{a:MemOp}(j:Deaf b (c.ix d)=0)(g:a.g=c.ix d)(i:a.act=.close (c.c d)):tb c (b++#[a]) d:=by
 refine⟨b.size,a,qO b a,g,i,rA (by rw[g];exact j),λq o m f=>?_⟩;let⟨l,e,h⟩:=touch_of m;rcases getElem?_append_cases e with⟨k,p⟩|⟨_,n⟩
 .exact .inr (hb_po k e (qO b a) (by unfold Trace.g? at f;rw[e]at f;rw[g];exact YR f))
 .obtain rfl:l=a:=by simpa using n
  rw[i]at h;cases h
def IZ{d:Ch}{b:Trace}{e:Bool}{a:MemOp}(r:tb d b e)(k:Deaf b 0=0)(h:a.g=0)(j:a.act=.recvClosed (d.c e)):yS d (b++#[a]) e:=by
 let⟨n,D,i,B,y,z,o⟩:=r;have g:=lt_size_of_getElem? i
 have p:HappensBefore (b++#[a]) n b.size:=
  .single (.inr ⟨.closed (by rw[act?_old g,act?_of i,y]) (by rw[act?_of<|qO b a,j]),(heard_old g).2 z,rA (by rw[h];exact k)⟩)
 intro x l v C s;let⟨t,m,f⟩:=touch_of v;rcases getElem?_append_cases m with⟨q,w⟩|⟨_,A⟩
 .have:=(o x l (by rw[touchAt_of w];exact f) (by rw[<-g?_old q];exact s)).app #[a];exact⟨_,a,qO b a,h,.inr<|this.hb p⟩
 .obtain rfl:t=a:=by simpa using A
  rw[j]at f;cases f
def zg.done{o:Ch}{m:Bool->Bool}{w:Nat->List Nat}{c:Trace}(i:zg o m w c)(x:∀h,m h=true->yS o c h):zK c:=by
 have g:∀a b,touchAt c a=some b->b.loc.isMemory=true->Knows c 0 a:=by
  intro a b k e;rcases i.cls a b k e with g|⟨q,j,f,_⟩
  .exact g 0<|.inl rfl
  .rcases j with rfl|⟨h,d,rfl⟩
   .let⟨p,n,_⟩:=touch_of k;have t:p.g=0:=by simpa[Trace.g?,n]using f
    have:=knows_own n;rwa[t]at this
   .exact x h d a b k e f
 refine⟨i.clean,g,λa y f u s=>?_,i.hears 0<|.inl rfl⟩;let⟨q,j,e,_⟩:=s;let⟨v,p,d,r,l⟩:=g a q j e;refine⟨v,by simp[Trace.g?,d,r],?_⟩;rcases l with rfl|l
 .exact absurd (by simpa[Trace.g?,d,r]using f.symm) u
 .exact l
def zg.begin{C:Ch}{d:Trace}(b:zK d)(k:Nat->List Nat):zg C (λ_=>false) k d:=by
 have e:∀a,Part C (λ_=>false) a->a=0:=by
  rintro a (b|⟨l,h,_⟩)
  .exact b
  .cases h
 exact⟨b.clean,λj g i f=>.inl λa c=>by rw[e a c];exact b.known j g i f,λa c=>by rw[e a c];exact b.hears⟩
inductive rM where
 |none
 |act (n:Nat) (vs:List f_)
 |pW (v:f_) (vs:List f_)
 |gone (n:Nat)
def rM.on:rM->Bool
 |.none=>false
 |_=>true
def rM.closed:rM->Bool
 |.gone _=>true
 |_=>false
inductive zM where
 |one (n:Nat)
 |two (n f:Nat) (l:uf)
 |wait (f:Nat) (l:uf)
def zM.seen:zM->Bool->Bool
 |.one _,_=>false
 |.two _ _ a,b|.wait _ a,b=>(a b).isNone
def Agree:rM->Option (List f_)->Prop
 |.none,_=>False
 |.act _ b,a=>a=some b
 |.pW c b,a=>a=some (c::b)
 |.gone _,a=>a=some []\/a=none
section
variable (P:e_)(C:Ch)(z:f_)(K:List Nat->c_->b_->Prop)(vl vr:List f_)
def sy(b:Bool)(g:List Nat)(a:c_)(f:b_):rM->Prop
 |.none=>False
 |.act c d=>Gb P C false (DW P C b d) c g a f
 |.pW h d=>∃e z,a=parked e #[scase (C.c b) h z] .send/\FU P C b d g (Conc.served e undef) f
 |.gone c=>QuitsIn P c a
def JY(d:Bool->rM)(f:List Nat)(h:c_)(g:b_):zM->Prop
 |.one e=>Gb P C true (So P C z K vl vr) e f h g/\d true=.none/\Agree (d false) (some vl)
 |.two e c a=>Gb P C true (DX P C z K c a) e f h g/\c=Mx a/\∀b,Agree (d b)<|a b
 |.wait c a=>(∃j,h=parked (core j) (mcases C a z) .select/\∀i,Rel C f g i->My P C z a (tZ P C z K c) f j i)/\c+1=Mx a/\(∀b,Agree (d b)<|a b)/\∀b,(a b).isSome=true->∃e k,d b=.act e k
structure GI(st:Bool->rM)(mst:zM)(mi:Nat->List Nat)(q:Nat->Nat)(gs:Array c_)(w:b_)(t:Trace):Prop where
 base:C.base<=w.heap.size
 mine:∀x,zL C (mi x) w
 ap:∀x y,x≠y->Go.Proofs.YtcpldcojckhapaaGreat.Apart (mi x) (mi y)
 chan:∀s,∃a b,w.heap[C.c s]?=some (.chan 0 #[] (st s).closed a b false)
 g0:∃g,gs[0]?=some g/\JY P C z K vl vr st (mi 0) g w mst
 gS:∀s,(st s).on=true->∃g,gs[C.ix s]?=some g/\sy P C s (mi<|C.ix s) g w (st s)
 next:(st true).on=false->C.ix true=gs.size/\(st false).on=true/\mi (C.ix true)=[]
 old:∀i g,0<i->(∀s,(st s).on=true->i≠C.ix s)->gs[i]?=some g->QuitsD P (q i) (Deaf t i) g
 above:∀j,gs.size<=j->Deaf t j=0
 tr:zg C (λs=>(st s).on) mi t
 cl:∀s,(st s).closed=true->tb C t s
 sn:∀s,mst.seen s=true->yS C t s
end
section
variable {P:e_}{C:Ch}{z:f_}{K:List Nat->c_->b_->Prop}{vl vr:List f_}
def sy.rel{f:Bool}{b:List Nat}{h:c_}{e g:b_}{c:rM}(a:sy P C f b h e c)(d:Rel C b e g):sy P C f b h g c:=by
 cases c with
 |none=>exact a
 |act i m=>exact Gb.rel a d
 |pW n m=>let⟨k,z,j,l⟩:=a;exact⟨k,z,j,l.rel d⟩
 |gone i=>exact a
def JY.rel{f:Bool->rM}{d:List Nat}{h:c_}{e g:b_}{c:zM}(a:JY P C z K vl vr f d h e c)(b:Rel C d e g):JY P C z K vl vr f d h g c:=by
 cases c with
 |one p=>exact⟨a.1.rel b,a.2⟩
 |two p m n=>exact⟨a.1.rel b,a.2⟩
 |wait m n=>let⟨⟨o,j,l⟩,q⟩:=a;exact⟨⟨o,j,λi k=>l i<|b.trans k⟩,q⟩
def yT{d:Bool}{j:List Nat}{e n k:c_}{m i:b_}{c:rM}(a:sy P C d j e m c)(b:c.closed=false->∃f g,i.heap[C.c d]?=some (.chan 0 #[] false f g false)):woken P n k i e=e:=by
 cases c with
 |none=>exact a.elim
 |act l h=>exact woken_run<|Gb.running (mP P C d h) a
 |pW p h=>obtain⟨o,z,rfl,_⟩:=a;let⟨f,g,b⟩:=b rfl;exact woken_send_open _ _ b
 |gone l=>exact woken_quitsD (QuitsD.of_quitsIn a)
def BT{b:uf}{i:c_}{g:b_}(f:∀h,(b h).isSome=true->∃c e,g.heap[C.c h]?=some (.chan 0 #[] false c e false)):(parked i (mcases C b z) .select).again g=parked i (mcases C b z) .select:=by
 simp[Goroutine.again,parked,mcases];refine⟨?_,?_⟩
 .unfold mL;by_cases a:(b false).isSome=true
  .rw[Ys a];let⟨c,e,d⟩:=f _ a;simp[rcase,d]
  .rw[Yo a];simp[rcaseNil]
 .unfold mL;by_cases a:(b true).isSome=true
  .rw[Ys a];let⟨c,e,d⟩:=f _ a;simp[rcase,d]
  .rw[Yo a];simp[rcaseNil]
def FV{d:Bool->rM}{m:List Nat}{c r o:c_}{q j:b_}{h:zM}(a:JY P C z K vl vr d m c q h)(n:∀b,(d b).closed=false->∃k p,j.heap[C.c b]?=some (.chan 0 #[] false k p false)):woken P r o j c=c:=by
 cases h with
 |one g=>exact woken_run<|Gb.running (λ_ _ _ a=>a.1) a.1
 |two g i f=>exact woken_run<|Gb.running (nx P C z K i f) a.1
 |wait i f=>
  obtain⟨⟨t,rfl,_⟩,_,_,l⟩:=a;unfold woken;split
  .refine BT λb s=>?_;let⟨g,u,e⟩:=l b s;exact n b<|nY e
  .rfl
def BU{d:Array c_}{f:c_->c_}{c:Nat}{g':c_}(j:c<d.size)(i:∀a b,a≠c->d[a]?=some b->f b=b)(a:Nat):((d.map f).setIfInBounds c g')[a]?=if a=c then some g' else d[a]?:=by
 by_cases e:a=c
 .subst e;simp[j]
 .rw[Yo e,Ze λg=>e g.symm,aa4]
  cases h:d[a]? with
  |none=>rfl
  |some b=>simp[i a b e h]
end
section
variable {P:e_}{C:Ch}{z:f_}{K:List Nat->c_->b_->Prop}{vl vr:List f_}
variable {st:Bool->rM}{A0:zM}{mi:Nat->List Nat}{q:Nat->Nat}{gs:Array c_}{w:b_}{t:Trace}
def wG{j:List Nat}{k:c_}(i:JY P C z K vl vr st j k w A0){a:Bool}(g:A0.seen a=true):(st a).closed=true:=by
 have h:∀c:uf,(c a).isNone=true->Agree (st a) (c a)->(st a).closed=true:=by
  intro c d b;have d:=abo.1 d;rw[d]at b
  cases e:st a with
  |none=>rw[e]at b;exact b.elim
  |act f m=>rw[e]at b;cases b
  |pW n m=>rw[e]at b;cases b
  |gone f=>rfl
 cases A0 with
 |one f=>cases g
 |two f l c=>exact h c g<|i.2.2 a
 |wait l c=>exact h c g (i.2.2.1 a)
def GI.TK(b:GI P C z K vl vr st A0 mi q gs w t):0<gs.size:=by let⟨c,a,_⟩:=b.g0;exact(YU.1 a).1
def GI.O9(b:GI P C z K vl vr st A0 mi q gs w t){c:Nat}(e:Part C (λa=>(st a).on) c):c<gs.size:=by
 rcases e with rfl|⟨a,f,rfl⟩
 .exact b.TK
 .let⟨g,d,_⟩:=b.gS a f;exact(YU.1 d).1
def GI.awake(f:GI P C z K vl vr st A0 mi q gs w t):∀d∈gs,Conc.awake d:=by
 intro d b;obtain⟨i,s,rfl⟩:=Array.mem_iff_getElem.1 b;have m:=aau s;by_cases j:Part C (λa=>(st a).on) i
 .rcases j with rfl|⟨a,g,rfl⟩
  .let⟨d,b,k⟩:=f.g0;have e:gs[0]=d:=by rw[m]at b;exact YR b
   rw[e]
   cases A0 with
   |one l=>exact awake_of<|.inl<|Gb.running (λ_ _ _ f=>f.1) k.1
   |two l r o=>exact awake_of<|.inl<|Gb.running (nx P C z K r o) k.1
   |wait r o=>obtain⟨⟨v,rfl,_⟩,_⟩:=k;exact awake_of<|uq rfl
  .let⟨d,b,c⟩:=f.gS a g;have e:gs[C.ix a]=d:=by rw[m]at b;exact YR b
   rw[e]
   cases h:st a with
   |none=>simp only[h]at g;cases g
   |act l p=>rw[h]at c;exact awake_of<|.inl<|Gb.running (mP P C a p) c
   |pW y p=>rw[h]at c;obtain⟨x,z,rfl,_⟩:=c;exact awake_of<|uq rfl
   |gone l=>rw[h]at c;exact awake_of<|(QuitsD.of_quitsIn c).status.elim .inl λn=>.inr<|.inr n
 .have u:=Z0 λe=>j<|.inl e;have:=f.old i gs[i] u (λa g e=>j<|.inr ⟨a,g,e⟩) m;exact awake_of (this.status.elim .inl λn=>.inr<|.inr n)
def GI.t_(h:GI P C z K vl vr st A0 mi q gs w t){x:Nat}{g g':c_}{m:b_}(j:∀a,(st a).closed=false->∃n p,m.heap[C.c a]?=some (.chan 0 #[] false n p false)):
 ∀b c,b≠x->gs[b]?=some c->woken P g g' m c=c:=by
 intro b c _ e;by_cases f:Part C (λa=>(st a).on) b
 .rcases f with rfl|⟨a,i,rfl⟩
  .let⟨v,k,r⟩:=h.g0;rw[e]at k;obtain rfl:=YR k;exact FV r j
  .let⟨u,l,o⟩:=h.gS a i;rw[e]at l;obtain rfl:=YR l;exact yT o<|j a
 .have s:=Z0 λd=>f<|.inl d;exact woken_quitsD (h.old b c s (λa i d=>f<|.inr ⟨a,i,d⟩) e)
def I0{mi:Nat->List Nat}{a:Nat}{g:List Nat}(k:∀a d,a≠d->Go.Proofs.YtcpldcojckhapaaGreat.Apart (mi a) (mi d))(i:∀d,d≠a->Go.Proofs.YtcpldcojckhapaaGreat.Apart g (mi d)):∀b c,b≠c->Go.Proofs.YtcpldcojckhapaaGreat.Apart (upd mi a g b) (upd mi a g c):=by
 intro b c h;by_cases f:b=a
 .subst f;rw[upd_same,upd_ne _ _ (λe=>h e.symm)];exact i c λe=>h e.symm
 .rw[upd_ne _ _ f];by_cases j:c=a
  .subst j;rw[upd_same];exact(i b f).symm
  .rw[upd_ne _ _ j];exact k b c h
def GI.own(A:pV C)(b:GI P C z K vl vr st A0 mi q gs w t){x:Nat}{g d:c_}{f:b_}{es:Array Event}{fn:g_}{pos:String}(I:Part C (λa=>(st a).on) x)(S:∀a,(st a).closed=true->x≠C.ix a)
 (j:xy C (mi x) w f es) {o:Bool->rM}{J:zM} (n:∀a,(o a).on=(st a).on) (L:∀a,(o a).closed=(st a).closed) (ac:∀a,J.seen a=A0.seen a)
 (R:∀y,(if 0=x then some d else gs[0]?)=some y->JY P C z K vl vr o (upd mi x (grow (mi x) w f) 0) y f J)
 (N:∀a s,(st a).on=true->(if C.ix a=x then some d else gs[C.ix a]?)=some s->sy P C a (upd mi x (grow (mi x) w f)<|C.ix a) s f (o a)):
 GI P C z K vl vr o J (upd mi x<|grow (mi x) w f) q ((gs.map<|woken P g d f).setIfInBounds x d) f (t++MemOp.ofEvents x fn pos es):=by
 have aa:=b.O9 I;have O:∀a,f.heap[C.c a]?=w.heap[C.c a]?:=λa=>j.keep _ (Yy (A.low a) b.base) λah=>by have:=(b.mine x _ ah).1;have:=A.low a;omega
 have ae:∀a,(st a).closed=false->∃p h,f.heap[C.c a]?=some (.chan 0 #[] false p h false):=λa c=>by let⟨p,h,E⟩:=b.chan a;rw[c]at E;exact⟨p,h,by rw[O];exact E⟩
 have r:=BU (g':=d) aa<|b.t_ (x:=x) (g:=g) (g':=d) ae;have F:∀m∈MemOp.ofEvents x fn pos es,m.g=x:=λm u=>by obtain⟨l,_,rfl⟩:=Zi u;rfl
 have M:((gs.map<|woken P g d f).setIfInBounds x d).size=gs.size:=si;have Y:=funext n;let⟨y,Q,Z⟩:=b.g0;refine⟨YH b.base j.size,λe=>?_,I0 b.ap λe k=>j.apart (b.mine e)<|b.ap x e λl=>k l.symm,λa=>?_,?_,λa c=>?_,λD=>?_,λW e ab B k=>?_,λag T=>?_,?_,λa c=>?_,λa c=>?_⟩
 .by_cases k:e=x
  .subst k;rw[upd_same];exact j.mine b.base<|b.mine e
  .rw[upd_ne _ _ k];exact(b.mine e).mono j.size
 .let⟨p,h,E⟩:=b.chan a;exact⟨p,h,by rw[O,E,L]⟩
 .by_cases i:0=x
  .exact⟨d,by rw[r,Ys i],R d<|by rw[Ys i]⟩
  .exact⟨y,by rw[r,Yo i];exact Q,R y (by rw[Yo i];exact Q)⟩
 .rw[n]at c;let⟨s,V,_⟩:=b.gS a c;by_cases i:C.ix a=x
  .exact⟨d,by rw[r,Ys i],N a d c<|by rw[Ys i]⟩
  .exact⟨s,by rw[r,Yo i];exact V,N a s c (by rw[Yo i];exact V)⟩
 .rw[n]at D;rw[M,n];let⟨af,X,ad⟩:=b.next D;refine⟨af,X,?_⟩
  have B:C.ix true≠x:=by
   rcases I with rfl|⟨a,c,rfl⟩
   .have:=A.pos true;omega
   .cases a with
    |false=>exact A.ne.symm
    |true=>simp only at c;rw[c]at D;cases D
  rw[upd_ne _ _ B];exact ad
 .have U:W≠x:=by
   rcases I with rfl|⟨a,c,rfl⟩
   .omega
   .exact B a (by rw[n];exact c)
  rw[r,Yo U]at k;rw[Deaf_other t (λl=>U l.symm) _ F];exact b.old W e ab (λa c=>B a (by rw[n];exact c)) k
 .rw[M]at T;rw[Deaf_other t om _ F];exact b.above ag T
 .rw[Y];refine b.tr.own I (λh v=>(mem_grow j.size).2<|.inr v) (λe h v=>(b.mine e h v).1) (λh v=>?_) (λe _ k=>j.apart (b.mine e)<|b.ap x e λl=>k l.symm) j.ev;exact(j.mine b.base (b.mine x) h v).1
 .rw[L]at c;exact(b.cl a c).app λm u=>.inr (by rw[F m u];exact S a c)
 .rw[ac]at c;exact(b.sn a c).app λm u=>.inr (by rw[F m u];exact S a<|wG Z c)
def GI.Bk(f:GI P C z K vl vr st A0 mi q gs w t){d:Bool->rM}{m:zM}{r:Nat->Nat}{g:Array c_}{h:b_}{c:Trace}(i:∀a,(d a).on=(st a).on)(o:∀a,(d a).closed=(st a).closed)
 (u:∀n,Rel C (mi n) w h) (p:g.size=gs.size) (D:∀a,∃y Q,h.heap[C.c a]?=some (.chan 0 #[] (st a).closed y Q false))
 (M:∀l∈c,l.act.touch?=none) (N:zg C (λa=>(st a).on) mi<|t++c) (E:∀k,gs.size<=k->Deaf (t++c) k=0)
 (J:∃x,g[0]?=some x/\JY P C z K vl vr d (mi 0) x h m) (B:∀a,(st a).on=true->∃s,g[C.ix a]?=some s/\sy P C a (mi<|C.ix a) s h (d a))
 (L:∀b j,0<b->(∀a,(st a).on=true->b≠C.ix a)->g[b]?=some j->QuitsD P (r b) (Deaf (t++c) b) j)
 (S:∀a,m.seen a=true->yS C (t++c) a):GI P C z K vl vr d m mi r g h (t++c):=by
 have A:=funext i;refine⟨YH f.base (u 0).size,λn=>(f.mine n).mono (u 0).size,f.ap,λa=>by rw[o];exact D a,J,λa e=>B a (by rw[<-i];exact e),λv=>?_,λb j F I=>L b j F λa e=>I a (by rw[i];exact e),λk O=>E k (by rw[<-p];exact O),by rw[A];exact N,λa e=>?_,S⟩
 .rw[i]at v⊢;rw[p];exact f.next v
 .rw[o]at e;exact(f.cl a e).app λl R=>.inl (M l R)
def GI.at(a:GI P C z K vl vr st A0 mi q gs w t)(d:Nat):GI P C z K vl vr st A0 mi q gs (w.at d) t:=by have b:t=t++#[]:=si;rw[b];let⟨l,f,j⟩:=a.g0;refine a.Bk (λ_=>rfl) (λ_=>rfl) (λi=>.at C (mi i) w d) rfl (λc=>a.chan c) si (by rw[<-b];exact a.tr) (by rw[<-b];exact a.above) ⟨l,f,j.rel<|.at ..⟩ (λc k=>?_) (by rw[<-b];exact a.old) (by rw[<-b];exact a.sn);let⟨g,h,e⟩:=a.gS c k;exact⟨g,h,e.rel<|.at ..⟩
def GI.TL(M:GI P C z K vl vr st A0 mi q gs w t){c k:Nat}{j e:c_}{g:Array Event}{r:g_}{v:String}(hi:gs[c]?=some j)(n:¬Part C (λs=>(st s).on) c)(B:∀d∈g,d.mute=true)(E:QuitsD P k (deafBehind (Deaf t c) g) e):
 GI P C z K vl vr st A0 mi (upd q c k) ((gs.map<|woken P j e w).setIfInBounds c e) w (t++MemOp.ofEvents c r v g):=by
 refine Qy ?_;intro mY gX;have o:=BU (g':=e) mY<|M.t_ (x:=c) (g:=j) (g':=e) gX;have y:∀f∈MemOp.ofEvents c r v g,f.g=c:=λf i=>by obtain⟨d,_,rfl⟩:=Zi i;rfl
 have A:∀f∈MemOp.ofEvents c r v g,f.act.touch?=none:=λf i=>by obtain⟨d,O,rfl⟩:=Zi i;exact touch_mute<|B d O
 have D:c≠0:=λd=>n<|.inl d;have N:∀s,(st s).on=true->C.ix s≠c:=λs hs d=>n<|.inr ⟨s,hs,d.symm⟩;let⟨T,I,Q⟩:=M.g0;refine M.Bk (λ_=>rfl) (λ_=>rfl) (λx=>.refl C (mi x) w) si (λs=>M.chan s) A (M.tr.mute n B) (λl u=>?_) ⟨T,by rw[o,Yo λd=>D d.symm];exact I,Q⟩ (λs hs=>?_) (λl S u F h=>?_) (λs hs=>?_)
 .rw[Deaf_other t om _ y];exact M.above l u
 .let⟨J,R,L⟩:=M.gS s hs;exact⟨J,by rw[o,Yo<|N s hs];exact R,L⟩
 .rw[o]at h;by_cases m:l=c
  .subst m;rw[Ys rfl]at h;obtain rfl:=YR h;rw[upd_same,Deaf_own];exact E
  .rw[Yo m]at h;rw[upd_ne _ _ m,Deaf_other t (λd=>m d.symm) _ y];exact M.old l S u F h
 .exact(M.sn s hs).app λf i=>.inl (A f i)
def o3(st:Bool->rM)(b:Bool)(c:rM):Bool->rM:=λa=>if a=b then c else st a
def lq(st:Bool->rM)(a:Bool)(b:rM):o3 st a b a=b:=by simp[o3]
def lZ(st:Bool->rM){b a:Bool}(c:a≠b)(d:rM):o3 st b d a=st a:=by simp[o3,c]
theorem JY.o3{m:List Nat}{n:c_}(a:JY P C z K vl vr st m n w A0){c:Bool}{j:rM}(l:(st c).on=true)(i:∀p,Agree (st c) p->Agree j p)(r:∀g h,A0=.wait g h->(∃f k,st c=.act f k)->∃f k,j=.act f k):JY P C z K vl vr (o3 st c j) m n w A0:=by
 cases A0 with
 |one f=>
  refine⟨a.1,?_,?_⟩
  .have b:true≠c:=λe=>by subst e;rw[a.2.1]at l;cases l
   rw[lZ _ b];exact a.2.1
  .by_cases b:false=c
   .subst b;rw[lq];exact i _ a.2.2
   .rw[lZ _ b];exact a.2.2
 |two f g h=>
  refine⟨a.1,a.2.1,λd=>?_⟩;by_cases b:d=c
  .subst b;rw[lq];exact i _ (a.2.2 _)
  .rw[lZ _ b];exact a.2.2 d
 |wait g h=>
  refine⟨a.1,a.2.1,λd=>?_,λd o=>?_⟩
  .by_cases b:d=c
   .subst b;rw[lq];exact i _ (a.2.2.1 _)
   .rw[lZ _ b];exact a.2.2.1 d
  .by_cases b:d=c
   .subst b;rw[lq];exact r g h rfl (a.2.2.2 _ o)
   .rw[lZ _ b];exact a.2.2.2 d o
def GI.quit(i:pV C)(M:GI P C z K vl vr st A0 mi q gs w t){s:Bool}{D m:Nat}(hs:st s=.gone D){g d:c_}(hi:gs[C.ix s]?=some g)(r:QuitsIn P m d):
 GI P C z K vl vr (o3 st s<|.gone m) A0 mi q ((gs.map<|woken P g d w).setIfInBounds (C.ix s) d) w t:=by
 refine Qy ?_;intro mY gX;have e:=BU (g':=d) mY<|M.t_ (x:=C.ix s) (g:=g) (g':=d) gX;have c:t=t++#[]:=si;have j:(st s).on=true:=nY hs;obtain⟨J,u,E⟩:=M.g0;have I:(0:Nat)≠C.ix s:=λc=>li<|i.pos s;rw[c]
 refine M.Bk (λam=>?_) (λam=>?_) (λl=>.refl C (mi l) w) si (λs=>M.chan s) si (by rw[<-c];exact M.tr) (by rw[<-c];exact M.above)
  ⟨J,by rw[e,Yo I];exact u,E.o3 j (λo h=>by rw[hs]at h;exact h) λ_ _ _ ⟨_,_,n⟩=>by rw[hs]at n;cases n⟩ (λam v=>?_) (λB o A f h=>?_) (by rw[<-c];exact M.sn)
 .exact Cc
 .exact Cc
 .by_cases aF:am=s
  .subst aF;exact⟨d,by rw[e,Ys rfl],by rw[lq];exact r⟩
  .let⟨x,F,y⟩:=M.gS am v;have f:C.ix am≠C.ix s:=by intro c;cases s<;>cases am<;>first|exact aF rfl|exact i.ne c|exact i.ne c.symm
   exact⟨x,by rw[e,Yo f];exact F,by rw[lZ _ aF];exact y⟩
 .rw[<-c,e,Yo<|f s j]at*;exact M.old B o A f h
end
section
variable {P:e_}
def I1{rest:Rest}{h:Array c_}{i d e:Nat}{g:c_}{a:f_}{c:b_}{m n:Way}(v:illMade c (rcase d a)=false)(t:illMade c (rcase e a)=false)(p:ways c h (rcase d a)=[m])(r:ways c h (rcase e a)=[n]):
 communicate P rest h i g #[rcase d a,rcase e a] true .select c=communicate P rest h i g #[rcase d a,rcaseNil a] true .select c.drew\/
 communicate P rest h i g #[rcase d a,rcase e a] true .select c=communicate P rest h i g #[rcaseNil a,rcase e a] true .select c.drew:=by
 have q:(#[rcase d a,rcase e a]:Array CommCase).any (illMade c)=false:=any_ill (by intro j k;simp at k;rcases k with rfl|rfl;exact v;exact t)
 have y:(#[rcase d a,rcaseNil a]:Array CommCase).any (illMade c.drew)=false:=any_ill (by intro j k;simp at k;rcases k with rfl|rfl;exact v;rfl)
 have D:(#[rcaseNil a,rcase e a]:Array CommCase).any (illMade c.drew)=false:=any_ill (by intro j k;simp at k;rcases k with rfl|rfl;rfl;exact t)
 have s:ways c.drew h (rcaseNil a)=[]:=rfl;have z:ways c.drew h (rcase d a)=[m]:=p;have A:ways c.drew h (rcase e a)=[n]:=r;have u:(((#[rcase d a,rcase e a]:Array CommCase).zipIdx.toList.map λ(j,b)=>(b,j,ways c h j)).filter λ(_,_,l)=> !l.isEmpty)=[(0,rcase d a,[m]),(1,rcase e a,[n])]:=by simp[aak,p,r]
 have B:(((#[rcase d a,rcaseNil a]:Array CommCase).zipIdx.toList.map λ(j,b)=>(b,j,ways c.drew h j)).filter λ(_,_,l)=> !l.isEmpty)=[(0,rcase d a,[m])]:=by simp[aak,z,s]
 have C:(((#[rcaseNil a,rcase e a]:Array CommCase).zipIdx.toList.map λ(j,b)=>(b,j,ways c.drew h j)).filter λ(_,_,l)=> !l.isEmpty)=[(1,rcase e a,[n])]:=by simp[aak,A,s]
 have x:∀(b:Int) f ok,commResult #[rcase d a,rcaseNil a] .select b f ok=commResult #[rcase d a,rcase e a] .select b f ok:=by intro b f ok;simp[commResult,rcase,rcaseNil,aak]
 have w:∀(b:Int) f ok,commResult #[rcaseNil a,rcase e a] .select b f ok=commResult #[rcase d a,rcase e a] .select b f ok:=by intro b f ok;simp[commResult,rcase,rcaseNil,aak]
 have f1:∀(b:Int) f ok,g.finishComm P #[rcase d a,rcaseNil a] .select b f ok=g.finishComm P #[rcase d a,rcase e a] .select b f ok:=by intro b f ok;unfold Goroutine.finishComm;rw[x]
 have f2:∀(b:Int) f ok,g.finishComm P #[rcaseNil a,rcase e a] .select b f ok=g.finishComm P #[rcase d a,rcase e a] .select b f ok:=by intro b f ok;unfold Goroutine.finishComm;rw[w]
 rcases aai (c.tape c.drawn<|.select 2)with o|o
 .left;unfold communicate;simp only[u,B,f1];refine(Yo (by rw[aaR];exact q)).trans (Eq.trans ?_ (Yo (by rw[aaR];exact y)).symm);simp[choose,Sem.run,Question.forced,Question.cut,bind,Sem.bind,pure,o]
 .right;unfold communicate;simp only[u,C,f2];refine(Yo (by rw[aaR];exact q)).trans (Eq.trans ?_ (Yo (by rw[aaR];exact D)).symm);simp[choose,Sem.run,Question.forced,Question.cut,bind,Sem.bind,pure,o]
end
section
variable {P:e_}{C:Ch}{z:f_}
def two(a b:CommCase)(c:Bool):Array CommCase:=if c then #[b,a]else #[a,b]
def BV(c b:CommCase)(f:c.send=none/\c.zero=z)(e:b.send=none/\b.zero=z)(a:Bool)(d:f_)(ok:Bool):commResult (two c b a) .select ((if a then 1 else 0:Nat):Int) d ok=zd z a d ok:=by cases a<;>simp[two,commResult,f,e,aak,zd]
theorem DZ{rest:Rest}{e:Array c_}{i d:Nat}{g:c_}{b c:CommCase}{w:b_}(a:Bool)(k:b=rcase d z)(l:c.send=none/\c.zero=z)(h:illMade w c=false/\ways w e c=[])(q:illMade w b=false)(n:ways w e b=[.closed]):
 communicate P rest e i g (two b c a) true .select w=(.next {world:=w,gs:=e.setIfInBounds i<|Conc.served g<|zd z a z false,rest},#[{g:=i,fn:=g.frame.fn,pos:=g.frame.place,act:=.recvClosed d}]):=by
 have s:=BV b c (by rw[k];exact⟨rfl,rfl⟩) l a z false;have f:g.finishComm P (two b c a) .select ((if a then 1 else 0:Nat):Int) z false=Conc.served g (zd z a z false):=by unfold Goroutine.finishComm;rw[s];rfl
 have r:(two b c a).any (illMade w)=false:=any_ill (by
  intro d j
  cases a<;>simp[two]at j<;>rcases j with rfl|rfl<;>first|exact q|exact h.1)
 have m:(((two b c a).zipIdx.toList.map λ(d,o)=>(o,d,ways w e d)).filter λ(_,_,p)=> !p.isEmpty)=[((if a then 1 else 0),b,[.closed])]:=by cases a<;>simp[two,aak,n,h.2]
 unfold communicate;simp only[m];refine(Yo (by rw[aaR];exact r)).trans ?_;simp only[k]at f⊢;simp[choose,Sem.run,Question.forced,bind,Sem.bind,pure,rcase];simp[rcase]at f;rw[f]
theorem FW{rest:Rest}{c:Array c_}{i d a l m:Nat}{g j:c_}{f e:CommCase}{w:b_}{h q:f_}(b:Bool)(n:f=rcase a z)(x:e.send=none/\e.zero=z)(r:illMade w e=false/\ways w c e=[])(k:w.heap[a]?=some (.chan 0 #[] false l m false))
 (p:c[d]?=some (parked j #[scase a h q] .send)) (s:partners c a true=[(d,0)]):
 communicate P rest c i g (two f e b) true .select w=(.next {world:=w.setChan a 0 #[] false (l+1) (m+1) false,gs:=(c.setIfInBounds d<|Conc.served j undef).setIfInBounds i<|Conc.served g<|zd z b h true,rest},
  #[{g:=d,fn:=j.frame.fn,pos:=j.frame.place,act:=.send a l},{g:=i,fn:=g.frame.fn,pos:=g.frame.place,act:=.recv a m 0},{g:=d,fn:=j.frame.fn,pos:=j.frame.place,act:=.sendDone a l},{g:=i,fn:=g.frame.fn,pos:=g.frame.place,act:=.recvDone a m}]):=by
 have D:ways w c (rcase a z)=[.partner d 0]:=by simp[ways,rcase,k,s]
 have u:=BV f e (by rw[n];exact⟨rfl,rfl⟩) x b h true;have o:g.finishComm P (two f e b) .select ((if b then 1 else 0:Nat):Int) h true=Conc.served g (zd z b h true):=by unfold Goroutine.finishComm;rw[u];rfl
 have I:illMade w f=false:=by rw[n];exact made_recv z k
 have t:(two f e b).any (illMade w)=false:=any_ill (by
  intro a k
  cases b<;>simp[two]at k<;>rcases k with rfl|rfl<;>first|exact I|exact r.1)
 have y:(((two f e b).zipIdx.toList.map λ(a,B)=>(B,a,ways w c a)).filter λ(_,_,E)=> !E.isEmpty)=[((if b then 1 else 0),f,[.partner d 0])]:=by cases b<;>simp[two,aak,n,D,r.2]
 have F:=finishPartner_at P c p (cs:=#[scase a h q]) (sh:=.send) rfl 0 undef;have A:c.getD d default=parked j #[scase a h q] .send:=by rw[Zr,p];rfl
 have v:offeredValue c d 0=h:=by simp[offeredValue,p,parked,scase]
 unfold communicate;simp only[y];refine(Yo (by rw[aaR];exact t)).trans ?_;simp only[n]at o⊢;simp[choose,Sem.run,Question.forced,bind,Sem.bind,pure,rcase,k,F,A,v,scase,parked,World.setChan];simp[rcase]at o;rw[o];rfl
end
section
variable {P:e_}{C:Ch}{z:f_}{K:List Nat->c_->b_->Prop}{vl vr:List f_}
variable {st:Bool->rM}{A0:zM}{mi:Nat->List Nat}{q:Nat->Nat}{gs:Array c_}{w:b_}{t:Trace}
def pV.tC(d:pV C){a b:Bool}(e:b≠a):C.ix b≠C.ix a:=by intro c;cases a<;>cases b<;>first|exact e rfl|exact d.ne c|exact d.ne c.symm
def pV.O_(d:pV C){a b:Bool}(e:b≠a):C.c b≠C.c a:=by intro c;cases a<;>cases b<;>first|exact e rfl|exact d.two c|exact d.two c.symm
def pV.xz(b:pV C)(a:Bool):C.ix a≠0:=λc=>li (b.pos a)
def GI.Ha(m:pV C)(M:GI P C z K vl vr st A0 mi q gs w t){s:Bool}{j:Nat}{y:c_}(ax:gs[j]?=some y)(l:j≠C.ix s):offersAt y (C.c s) true=[]:=by
 by_cases hp:Part C (λs=>(st s).on) j
 .rcases hp with rfl|⟨a,n,rfl⟩
  .let⟨D,g,b⟩:=M.g0;rw[ax]at g;obtain rfl:=YR g
   cases A0 with
   |one c=>exact offersAt_of_not_blocked (by rw[Gb.running (λ_ _ _ M=>M.1) b.1];simp) ..
   |two c i d=>exact offersAt_of_not_blocked (by rw[Gb.running (nx P C z K i d) b.1];simp) ..
   |wait i d=>obtain⟨⟨u,rfl,_⟩,_⟩:=b;refine offersAt_parked_sends ?_ _;intro r k;simp only[mcases,aam,Y7,Zc,aac]at k;rcases k with rfl|rfl<;>(unfold mL;split<;>rfl)
  .let⟨x,h,bf⟩:=M.gS a n;rw[ax]at h;obtain rfl:=YR h;have o:a≠s:=λe=>l<|by rw[e]
   cases hst:st a with
   |none=>rw[hst]at bf;exact bf.elim
   |act c f=>rw[hst]at bf;exact offersAt_of_not_blocked (by rw[Gb.running (mP P C a f) bf];simp) ..
   |pW B f=>rw[hst]at bf;obtain⟨v,A,rfl,_⟩:=bf;rw[offersAt_parked_send,Yo<|m.O_ o]
   |gone c=>exact Kf
 .exact QL
def GI.Hb(M:GI P C z K vl vr st A0 mi q gs w t){s:Bool}{j:Nat}{y:c_}(ax:gs[j]?=some y)(d:j≠0):offersAt y (C.c s) false=[]:=by
 by_cases hp:Part C (λs=>(st s).on) j
 .rcases hp with rfl|⟨a,g,rfl⟩
  .exact absurd rfl d
  .let⟨l,c,bf⟩:=M.gS a g;rw[ax]at c;obtain rfl:=YR c
   cases hst:st a with
   |none=>rw[hst]at bf;exact bf.elim
   |act f b=>rw[hst]at bf;exact offersAt_of_not_blocked (by rw[Gb.running (mP P C a b) bf];simp) ..
   |pW k b=>rw[hst]at bf;obtain⟨h,i,rfl,_⟩:=bf;exact offersAt_parked_send' ..
   |gone f=>exact Kf
 .exact QL
def lG{gs:Array c_}{a:Nat}{g:c_}(f:a<gs.size)(b:Nat):(gs.setIfInBounds a g)[b]?=if b=a then some g else gs[b]?:=by
 by_cases c:b=a
 .subst c;simp[f]
 .rw[Yo c,Ze λe=>c e.symm]
def qe(a b i d e:Nat)(c j:g_)(h f:String):Trace:=#[{g:=d,fn:=c,pos:=h,act:=.send a b},{g:=e,fn:=j,pos:=f,act:=.recv a i 0},{g:=d,fn:=c,pos:=h,act:=.sendDone a b},{g:=e,fn:=j,pos:=f,act:=.recvDone a i}]
def zg.four{k:Bool->Bool}(m:zg C k mi t)(a b i d e:Nat)(c j:g_)(h f:String):zg C k mi (t++qe a b i d e c j h f):=by
 have l:t++qe a b i d e c j h f=t++#[{g:=d,fn:=c,pos:=h,act:=.send a b}]++#[{g:=e,fn:=j,pos:=f,act:=.recv a i 0}]++#[{g:=d,fn:=c,pos:=h,act:=.sendDone a b}]++#[{g:=e,fn:=j,pos:=f,act:=.recvDone a i}]:=by apply abN;simp[qe]
 rw[l];exact(((m.still _ rfl ⟨si,si⟩).still _ rfl ⟨si,si⟩).still _ rfl ⟨si,si⟩).still _ rfl ⟨si,si⟩
def wH(c d j f g:Nat)(e k:g_)(i h:String):∀a∈qe c d j f g e k i h,a.act.touch?=none:=by intro a b;simp only[qe,aam,Y7,Zc,aac]at b;rcases b with rfl|rfl|rfl|rfl<;>rfl
def oq(t d:Trace)(e:Nat)(m:∀a∈d,a.act≠.mark .disable/\a.act≠.mark .enable):Deaf (t++d) e=Deaf t e:=by
 have j:=Deaf_append t e d.toList;have l:t++d.toList.toArray=t++d:=si;rw[l]at j;rw[j]
 have n:∀(c:List MemOp) (b:Nat),(∀a∈c,a.act≠.mark .disable/\a.act≠.mark .enable)->c.foldl (deafStep e) b=b:=by
  intro c
  induction c with
  |nil=>exact λ_ _=>rfl
  |cons k c o=>
   intro b h;rw[aa1];have i:=h k<|YD ..
   have:deafStep e b k=b:=by
    unfold deafStep;split
    .rename_i f;exact absurd f i.1
    .rename_i f;exact absurd f i.2
    .rfl
   rw[this];exact o b λa g=>h a<|Y8 _ g
 exact n _ _ λa g=>m a (by simpa using g)
def yU(c d j f g:Nat)(e k:g_)(i h:String):∀a∈qe c d j f g e k i h,a.act≠.mark .disable/\a.act≠.mark .enable:=by intro a b;simp only[qe,aam,Y7,Zc,aac]at b;rcases b with rfl|rfl|rfl|rfl<;>exact⟨si,si⟩
def Mz(f:pV C)(h:GI P C z K vl vr st A0 mi q gs w t)(b:Bool)(e g:Nat)(l:(st b).closed=false):∀a,∃d c,(w.setChan (C.c b) 0 #[] false e g false).heap[C.c a]?=some (.chan 0 #[] (st a).closed d c false):=by
 intro a;by_cases i:a=b
 .subst i;exact⟨e,g,by rw[l];exact heap_setChan w _ _ _ _ _ _ _ (Yy (f.low _) h.base)⟩
 .let⟨d,c,k⟩:=h.chan a;refine⟨d,c,?_⟩;have:=f.O_ i;simp only[World.setChan];rw[Ze λj=>this j.symm];exact k
def GI.VP(m:pV C)(M:GI P C z K vl vr st A0 mi q gs w t){s:Bool}{J:Nat}{c l:f_}{f:List f_}(hs:st s=.act J (c::f))(D:∀j h,A0≠.wait j h){e:c_}(N:FU P C s f (mi<|C.ix s) (Conc.served e undef) w):
 GI P C z K vl vr (o3 st s<|.pW c f) A0 mi q (gs.setIfInBounds (C.ix s)<|parked e #[scase (C.c s) c l] .send) w t:=by
 have i:(st s).on=true:=nY hs;obtain⟨o,k,_⟩:=M.gS s i;have v:=(YU.1 k).1;have d:=lG (g:=parked e #[scase (C.c s) c l] .send) v;have a:t=t++#[]:=si;let⟨u,x,L⟩:=M.g0;have B:JY P C z K vl vr (o3 st s<|.pW c f) (mi 0) u w A0:=L.o3 i (λr b=>by rw[hs]at b;exact b) λj h a=>absurd a (D j h);rw[a]
 refine M.Bk (λam=>?_) (λam=>?_) (λA=>.refl C (mi A) w) si (λs=>M.chan s) si (by rw[<-a];exact M.tr) (by rw[<-a];exact M.above)
  ⟨u,by rw[d,Yo λa=>m.xz s a.symm];exact x,B⟩ (λam y=>?_) (λI r F n b=>?_) (by rw[<-a];exact M.sn)
 .exact Cc
 .exact Cc
 .by_cases aF:am=s
  .subst aF;exact⟨_,by rw[d,Ys rfl],by rw[lq];exact⟨e,l,rfl,N⟩⟩
  .let⟨o,k,E⟩:=M.gS am y;exact⟨o,by rw[d,Yo<|m.tC aF];exact k,by rw[lZ _ aF];exact E⟩
 .rw[<-a];rw[d,Yo<|n s i]at b;exact M.old I r F n b
theorem Agree.some{b:rM}{c:uf}{a:Bool}{e:List f_}{f:Nat}(d:Agree b<|c a)(g:b=.act f e):c a=some e:=by rw[g]at d;exact d
def GI.meet(j:pV C){l:Nat}{f:uf}(h:GI P C z K vl vr st A0 mi q gs w t){c:Bool}{u:f_}{g:List f_}(B:(st c).on=true)(v:(st c).closed=false)(m:f c=some (u::g))(S:∀d,Agree (st d)<|f d)(ad:l+1=Mx f)(N:∀d,A0.seen d=(f d).isNone)
 {A x:c_} (W:FU P C c g (mi<|C.ix c) (Conc.served A undef) w) (R:yR z f (tZ P C z K l) (mi 0) x w) {a b:Nat} (X T:g_) (ab Z:String) {gs':Array c_} (L:gs'.size=gs.size)
 (k:∀i,gs'[i]?=if i=C.ix c then some (Conc.served A undef)else if i=0 then some (Conc.served x<|zd z c u true)else gs[i]?):
 ∃n o,GI P C z K vl vr (o3 st c<|.act n g) (.two o l<|np f c<|some g) mi q gs' (w.setChan (C.c c) 0 #[] false (a+1) (b+1) false)<|t++qe (C.c c) a b (C.ix c) 0 X T ab Z:=by
 have hrel:∀r,Rel C (mi r) w<|w.setChan (C.c c) 0 #[] false (a+1) (b+1) false:=λr=>wE j (h.mine r) c ..;let⟨n,V⟩:=(qd ..).1<|W.rel<|hrel (C.ix c);let⟨o,J⟩:=(oE ..).1<|(R.1 c u g m).rel<|hrel 0;have E:=G' f c<|some g;have I:l=Mx (np f c<|some g):=by rw[m]at E;simp only[wg1,YA]at E;omega
 have M:∀d,(np f c (some g) d).isNone=(f d).isNone:=by
  intro d;by_cases e:d=c
  .subst e;simp[np,m]
  .simp[np,e]
 refine⟨n,o,?_⟩
 refine h.Bk (λd=>?_) (λd=>?_) hrel L (Mz j h c _ _ v) (wH _ _ _ _ _ _ _ _ _) (h.tr.four ..) (λi s=>by rw[oq _ _ _ (yU _ _ _ _ _ _ _ _ _)];exact h.above i s)
  ⟨_,by rw[k,Yo λF=>j.xz c F.symm,Ys rfl],?_⟩ (λd p=>?_) (λi aa s y D=>?_) (λd p=>?_)
 .by_cases e:d=c
  .subst e;rw[lq,B];rfl
  .rw[lZ _ e]
 .by_cases e:d=c
  .subst e;rw[lq,v];rfl
  .rw[lZ _ e]
 .refine⟨J,I,λd=>?_⟩;by_cases e:d=c
  .subst e;rw[lq];simp[np,Agree]
  .rw[lZ _ e];have:np f c (some g) d=f d:=by simp[np,e]
   rw[this];exact S d
 .by_cases e:d=c
  .subst e;exact⟨_,by rw[k,Ys rfl],by rw[lq];exact V⟩
  .let⟨O,Y,Q⟩:=h.gS d p;exact⟨O,by rw[k,Yo<|j.tC e,Yo<|j.xz d];exact Y,by rw[lZ _ e];exact Q.rel<|hrel _⟩
 .rw[oq _ _ _ (yU _ _ _ _ _ _ _ _ _)];rw[k,Yo<|y c B,Yo om]at D;exact h.old i aa s y D
 .exact(h.sn d (by rw[N,<-M d];exact p)).app λac U=>.inl (wH _ _ _ _ _ _ _ _ _ ac U)
end
section
variable {P:e_}{C:Ch}{z:f_}{K:List Nat->c_->b_->Prop}{vl vr:List f_}
variable {st:Bool->rM}{mst:zM}{mi:Nat->List Nat}{q:Nat->Nat}{gs:Array c_}{w:b_}{t:Trace}
def MA{gs:Array c_}{f:c_->c_}{b:Nat}{g':c_}(e:b<gs.size)(a:Nat):((gs.map f).setIfInBounds b g')[a]?=if a=b then some g' else(gs[a]?).map f:=by
 by_cases c:a=b
 .subst c;simp[e]
 .rw[Yo c,Ze λd=>c d.symm,aa4]
def MB(mi:Nat->List Nat)(a:Nat):upd mi a (mi a)=mi:=by
 funext y;by_cases b:y=a
 .subst b;rw[upd_same]
 .rw[upd_ne _ _ b]
def TM(a:Nat):Array Event:=#[⟨.obj a,false,true⟩,⟨.obj a,true,true⟩]
def TN(C:Ch)(e:List Nat)(c:Bool):∀b∈TM (C.c c),JW C e b:=by
 intro b d;simp only[TM,aam,Y7,Zc,aac]at d;rcases d with rfl|rfl
 .refine⟨⟨si,si⟩,λf a=>.inr ?_⟩;simp only[MemAct.ofEvent,MemAct.touch?,Yz]at a;subst a;exact⟨rfl,c,rfl⟩
 .exact⟨⟨si,si⟩,λf a=>by simp[MemAct.ofEvent,MemAct.touch?]at a⟩
def Hc:zM->zM
 |.wait a b=>.two 0 (a+1) b
 |m=>m
def yV(a:zM)(b:Bool):(Hc a).seen b=a.seen b:=by cases a<;>rfl
theorem GI.TO(j:pV C)(M:GI P C z K vl vr st mst mi q gs w t){s:Bool}{n B e b:Nat}(hs:st s=.act n []){i g:c_}(aB:gs[C.ix s]?=some i)(al:mayWake P i=true)(X:QuitsIn P B g)(h:g_)(o:String):
 GI P C z K vl vr (o3 st s<|.gone B) (Hc mst) mi q ((gs.map<|woken P i g<|w.setChan (C.c s) 0 #[] true e b false).setIfInBounds (C.ix s) g) (w.setChan (C.c s) 0 #[] true e b false) (t++MemOp.ofEvents (C.ix s) h o (TM<|C.c s)):=by
 have F:(st s).on=true:=nY hs;have aj:=(YU.1 aB).1;have y:=MA (f:=woken P i g<|w.setChan (C.c s) 0 #[] true e b false) (g':=g) aj;have hrel:∀v,Rel C (mi v) w<|w.setChan (C.c s) 0 #[] true e b false:=λv=>wE j (M.mine v) s _ _ _ _ _ _;have ae:(w.setChan (C.c s) 0 #[] true e b false).heap[C.c s]?=some (.chan 0 #[] true e b false):=heap_setChan w _ _ _ _ _ _ _ (Yy (j.low _) M.base);have ac:∀am,am≠s->(w.setChan (C.c s) 0 #[] true e b false).heap[C.c am]?=w.heap[C.c am]?:=λam aF=>by have:=j.O_ aF;simp only[World.setChan];rw[Ze λa=>this a.symm]
 have I:∀x∈MemOp.ofEvents (C.ix s) h o (TM<|C.c s),x.g=C.ix s:=λx A=>by obtain⟨a,_,rfl⟩:=Zi A;rfl
 have T:(λam=>(o3 st s (.gone B) am).on)=(λam=>(st am).on):=by funext am;exact Cc
 have O:∀am,(o3 st s (.gone B) am).on=(st am).on:=λam=>congrFun T am;have ar:∀am,mst.seen am=true->am≠s:=by intro am E a;subst a;obtain⟨dI,_,bC⟩:=M.g0;have:=wG bC E;rw[hs]at this;cases this
 have V:=M.tr.own (x:=C.ix s) (.inr ⟨s,F,rfl⟩) (m:=mi<|C.ix s) (λb D=>D) (λu b D=>(M.mine u b D).1) (λb D=>(M.mine _ b D).1) (λu _ r=>M.ap _ _ λa=>r a.symm) (fn:=h) (pos:=o) (es:=TM<|C.c s)<|TN C _ s;rw[MB]at V;have au:Deaf t (C.ix s)=0:=M.tr.hears _ (.inr ⟨s,F,rfl⟩);obtain⟨dI,aa,bC⟩:=M.g0;refine⟨YH M.base (hrel 0).size,λv=>(M.mine v).mono (hrel 0).size,M.ap,λam=>?_,?_,λam d=>?_,λab=>?_,λaf u ax az r=>?_,λW aE=>?_,by rw[T];exact V,λam d=>?_,λam d=>?_⟩
 .by_cases aF:am=s
  .subst aF;exact⟨e,b,by rw[lq];exact ae⟩
  .obtain⟨J,S,Q⟩:=M.chan am;exact⟨J,S,by rw[lZ _ aF,ac am aF];exact Q⟩
 .have Y:∀u,Agree (st s) u->Agree (.gone B) u:=by intro u r;rw[hs]at r;exact .inl r
  by_cases fv:∃f l,mst=.wait f l
  .obtain⟨f,l,rfl⟩:=fv;have aK:=bC;obtain⟨⟨aM,Z,aG⟩,aL,L,aO⟩:=bC;have ai:l s=some []:=(L s).some hs
   have R:woken P i g (w.setChan (C.c s) 0 #[] true e b false) dI={dI with status:=.running}:=by
    have aA:(mayWake P i&&g.status !=.blocked&&g.status !=.waiting)=true:=by rcases X.status with a|a<;>rw[al,a]<;>rfl
    unfold woken;rw[Ys aA,Z];refine again_some_closed (k:=if s then 1 else 0) (c:=C.c s) (z:=z) ?_ ae;cases s<;>simp[mcases,mL,ai]
   refine⟨_,by rw[y,Yo λa=>j.xz s a.symm,aa];rfl,?_⟩;rw[R,Z];refine⟨λap ah=>?_,om,λam=>?_⟩
   .obtain⟨aN,ak,aD⟩:=aG ap<|(hrel 0).trans ah;refine⟨rfl,?_,aD⟩;rw[stepG_tries];exact ak
   .by_cases aF:am=s
    .subst aF;rw[lq];exact Y _ (L am)
    .rw[lZ _ aF];exact L am
  .have aC:Hc mst=mst:=by
    cases mst with
    |wait f l=>exact absurd ⟨f,l,rfl⟩ fv
    |_=>rfl
   have gY:dI.status=.running:=by
    cases mst with
    |one n=>exact Gb.running (λ_ _ _ M=>M.1) bC.1
    |two n f l=>exact Gb.running (nx P C z K f l) bC.1
    |wait f l=>exact absurd ⟨f,l,rfl⟩ fv
   refine⟨dI,by rw[y,Yo λa=>j.xz s a.symm,aa,aaY,woken_run gY],?_⟩;rw[aC];exact(bC.rel<|hrel 0).o3 F Y λf l a=>absurd ⟨f,l,a⟩ fv
 .rw[O]at d;by_cases aF:am=s
  .subst aF;exact⟨g,by rw[y,Ys rfl],by rw[lq];exact X⟩
  .obtain⟨N,aJ,E⟩:=M.gS am d;have R:woken P i g (w.setChan (C.c s) 0 #[] true e b false) N=N:=yT E λaw=>by obtain⟨J,S,Q⟩:=M.chan am;exact⟨J,S,by rw[ac am aF,Q,aw]⟩
   exact⟨N,by rw[y,Yo<|j.tC aF,aJ,aaY,R],by rw[lZ _ aF];exact E.rel<|hrel _⟩
 .rw[O]at ab⊢;obtain⟨ao,av,an⟩:=M.next ab;exact⟨by simpa using ao,av,an⟩
 .have ag:∀am,(st am).on=true->af≠C.ix am:=λam d=>az am (by rw[O];exact d);have ad:=ag s F;rw[y,Yo ad]at r;obtain⟨aq,aI,rfl⟩:=Zk.1 r;have U:=M.old af aq ax ag aI;rw[woken_quitsD U,Deaf_other t (λa=>ad a.symm) _ I];exact U
 .have ay:gs.size<=W:=by simpa using aE
  rw[Deaf_other t (g':=C.ix s) om _ I];exact M.above W ay
 .by_cases aF:am=s
  .subst aF;have a:t++MemOp.ofEvents (C.ix am) h o (TM<|C.c am)=(t++MemOp.ofEvents (C.ix am) h o #[⟨.obj<|C.c am,false,true⟩])++#[{g:=C.ix am,fn:=h,pos:=o,act:=.close<|C.c am}]:=by apply abN;simp[ofEvents_eq,TM,MemAct.ofEvent]
   rw[a];refine DY ?_ rfl rfl;rw[Deaf_own,deafBehind_still (λa aH=>by obtain rfl:a=_:=(by simpa using aH);exact⟨si,si⟩)];exact au
  .rw[lZ _ aF]at d;exact(M.cl am d).app λx A=>.inr (by rw[I x A];exact λa=>j.tC aF a.symm)
 .rw[yV]at d;have aF:=ar am d;exact(M.sn am d).app λx A=>.inr (by rw[I x A];exact λa=>j.tC aF a.symm)
end
section
variable {P:e_}{C:Ch}{z:f_}{K:List Nat->c_->b_->Prop}{vl vr:List f_}
variable {st:Bool->rM}{A0:zM}{mi:Nat->List Nat}{q:Nat->Nat}{gs:Array c_}{w:b_}{t:Trace}
def GI.VQ(p:pV C){f h:Nat}{c:uf}(a:GI P C z K vl vr st (.two f (h+1) c) mi q gs w t){e:c_}(r:∀i,Rel C (mi 0) w i->My P C z c (tZ P C z K h) (mi 0) e i)(n:∀b,(c b).isSome=true->∃f u,st b=.act f u):
 GI P C z K vl vr st (.wait h c) mi q (gs.setIfInBounds 0<|parked (core e) (mcases C c z) .select) w t:=by
 have g:=lG (g:=parked (core e) (mcases C c z) .select) a.TK;have d:t=t++#[]:=si;obtain⟨E,D,k⟩:=a.g0;rw[d]
 refine a.Bk (λ_=>rfl) (λ_=>rfl) (λy=>.refl C (mi y) w) si (λb=>a.chan b) si (by rw[<-d];exact a.tr) (by rw[<-d];exact a.above)
  ⟨_,by rw[g,Ys rfl],⟨e,rfl,r⟩,k.2.1,k.2.2,n⟩ (λb B=>?_) (λo A m s j=>?_) (by rw[<-d];exact a.sn)
 .let⟨v,x,l⟩:=a.gS b B;exact⟨v,by rw[g,Yo<|p.xz b];exact x,l⟩
 .rw[<-d];rw[g,Yo om]at j;exact a.old o A m s j
def GI.WX(F:pV C){B k:Nat}{c:uf}(d:GI P C z K vl vr st (.two B (k+1) c) mi q gs w t){a:Bool}(l:(st a).closed=true)(u:c a=some []){m:c_}(N:yR z c (tZ P C z K k) (mi 0) m w)(f:g_)(h:String):
 ∃o,GI P C z K vl vr st (.two o k<|np c a none) mi q (gs.setIfInBounds 0<|Conc.served m<|zd z a z false) w<|t++#[{g:=0,fn:=f,pos:=h,act:=.recvClosed<|C.c a}]:=by
 have n:=lG (g:=Conc.served m<|zd z a z false) d.TK;obtain⟨W,T,V,U,O⟩:=d.g0;obtain⟨o,E⟩:=(oE ..).1<|N.2 a u;have A:=G' c a none;have D:k=Mx (np c a none):=by rw[u]at A;simp only[wg1,YI]at A;omega
 have v:∀e∈(#[{g:=0,fn:=f,pos:=h,act:=.recvClosed<|C.c a}]:Trace),e.act.touch?=none:=by
  intro e i;obtain rfl:=by simpa using i
  rfl
 have x:∀e∈(#[{g:=0,fn:=f,pos:=h,act:=.recvClosed<|C.c a}]:Trace),e.act≠.mark .disable/\e.act≠.mark .enable:=by
  intro e i;obtain rfl:=by simpa using i
  exact⟨si,si⟩
 refine⟨o,d.Bk (λ_=>rfl) (λ_=>rfl) (λJ=>.refl C (mi J) w) si (λa=>d.chan a) v (d.tr.still _ rfl ⟨si,si⟩) (λs r=>by rw[oq _ _ _ x];exact d.above s r)
  ⟨_,by rw[n,Ys rfl],E,D,λb=>?_⟩ (λb p=>?_) (λs S r I y=>?_) (λb p=>?_)⟩
 .by_cases j:b=a
  .subst j;have:np c b none b=none:=by simp[np]
   rw[this]
   cases Q:st b with
   |gone B=>exact .inr rfl
   |_=>rw[Q]at l;cases l
  .have:np c a none b=c b:=by simp[np,j]
   rw[this];exact O b
 .let⟨L,R,M⟩:=d.gS b p;exact⟨L,by rw[n,Yo<|F.xz b];exact R,M⟩
 .rw[oq _ _ _ x];rw[n,Yo om]at y;exact d.old s S r I y
 .by_cases j:b=a
  .subst j;exact IZ (d.cl b l) (d.tr.hears 0<|.inl rfl) rfl rfl
  .refine(d.sn b ?_).app λe i=>.inl<|v e i;have:np c a none b=c b:=by simp[np,j]
   show(c b).isNone=true;rw[<-this];exact p
def GI.TP(B:pV C){ai:Nat}(b:GI P C z K vl vr st (.one ai) mi q gs w t){e h:c_}(V:FU P C true vr [] h w)(ad:tZ P C z K (vl.length+1+(vr.length+1)) (λa=>if a then some vr else some vl) (mi 0) e w)(p o:g_)(s r:String):
 ∃l v Y D,GI P C z K vl vr (o3 st true (.act l vr)) (.two v Y D) mi q ((gs.setIfInBounds 0 e).push h) w (t++#[{g:=0,fn:=p,pos:=s,act:=.go gs.size}]++#[{g:=gs.size,fn:=o,pos:=r,act:=.start}])/\∀a,(D a).isSome=true:=by
 let⟨an,ak,am,M,ah⟩:=b.g0;have I:(st true).on=false:=nY M;obtain⟨j,u,aa⟩:=b.next I;have W:=b.TK;have m:∀c,((gs.setIfInBounds 0 e).push h)[c]?=if c=gs.size then some h else if c=0 then some e else gs[c]?:=by intro c;rw[aaU,Y3,lG W]
 obtain⟨l,aj⟩:=(qd ..).1 V;obtain⟨v,S⟩:=(oE ..).1 ad;have ae:Deaf t (C.ix true)=0:=b.above _ (by rw[j];exact YC _);have af:=b.tr.spawn (s:=true) I ae (B.xz true) (x:={g:=0,fn:=p,pos:=s,act:=.go gs.size}) (y:={g:=gs.size,fn:=o,pos:=r,act:=.start}) ⟨rfl,by rw[j]⟩ ⟨j.symm,rfl⟩;have T:(λf=>(o3 st true (.act l vr) f).on)=(λf=>if f=true then true else(st f).on):=by funext f;cases f<;>rfl
 have F:∀d∈(#[{g:=0,fn:=p,pos:=s,act:=.go gs.size}]++#[{g:=gs.size,fn:=o,pos:=r,act:=.start}]:Trace),d.act.touch?=none/\d.act≠.mark .disable/\d.act≠.mark .enable:=by intro d i;simp only[abB,aam,Y7,Zc,aac]at i;rcases i with rfl|rfl<;>exact⟨rfl,si,si⟩
 have Q:∀c,Deaf (t++#[{g:=0,fn:=p,pos:=s,act:=.go gs.size}]++#[{g:=gs.size,fn:=o,pos:=r,act:=.start}]) c=Deaf t c:=by intro c;rw[aa5];exact oq _ _ _ λd i=>(F d i).2
 have U:((gs.setIfInBounds 0 e).push h).size=gs.size+1:=si;have al:C.ix false<gs.size:=by let⟨J,y,_⟩:=b.gS false u;exact(YU.1 y).1
 refine⟨l,v,vl.length+1+(vr.length+1),λa=>if a then some vr else some vl,⟨b.base,b.mine,b.ap,λa=>?_,?_,λa k=>?_,λab=>?_,λA O X E L=>?_,λc ac=>?_,by rw[T];exact af,λa k=>?_,λa k=>?_⟩,λa=>by cases a<;>rfl⟩
 .cases a with
  |true=>let⟨R,ag,N⟩:=b.chan true;rw[M]at N;exact⟨R,ag,N⟩
  |false=>exact b.chan false
 .refine⟨e,by rw[m,Yo om,Ys rfl],S,rfl,λa=>?_⟩
  cases a with
  |true=>rfl
  |false=>exact ah
 .cases a with
  |true=>exact⟨h,by rw[m,Ys j],by rw[aa];exact aj⟩
  |false=>let⟨J,y,n⟩:=b.gS false u;exact⟨J,by rw[m,Yo om,Yo<|B.xz false];exact y,n⟩
 .cases ab
 .have n:=E true rfl;have Z:=E false u;rw[m,Yo (by rw[<-j];exact n),Yo om]at L;rw[Q];exact b.old A O X (λa _=>by cases a;exact Z;exact n) L
 .rw[Q];exact b.above c (by rw[U]at ac;omega)
 .cases a with
  |true=>cases k
  |false=>rw[aa5];exact(b.cl false k).app λd i=>.inl (F d i).1
 .cases a<;>cases k
end
section
variable {P:e_}{C:Ch}{z:f_}{K:List Nat->c_->b_->Prop}{vl vr:List f_}
def oe.step1{f:Array c_}{i:b_}{h:Trace}{g:Array c_->b_->Trace->Prop}(k:∀b,∃d e a c,stepT P (crowd f i b)=(.next<|crowd d e a,c)/\oe P d e (h++c) g):oe P f i h g:=by intro b;let⟨d,e,a,c,o,l⟩:=k b;let⟨q,pj,p,j,t2,n,m⟩:=l a;exact⟨q+1,pj,p,j,t2,by simp only[runNT,o];exact n,m⟩
def wS(vr:List f_):rM->Nat
 |.none=>2*vr.length+4
 |.act _ a=>2*a.length+3
 |.pW _ a=>2*a.length+4
 |.gone _=>0
def wM(a:zM):Nat:=(if a.seen false then 0 else 1)+(if a.seen true then 0 else 1)
def MC(vr:List f_)(a:Bool->rM)(b:zM):Nat:=wS vr (a false)+wS vr (a true)+wM b
def mS:rM->Nat
 |.act a _=>a+1
 |.gone a=>a
 |_=>0
def mM:zM->Nat
 |.one a=>a+1
 |.two a _ _=>a+1
 |.wait _ _=>0
def UG(a:Bool->rM)(b:zM)(d:Array c_)(c:Nat->Nat):Nat:=mM b+(mS (a false)+mS (a true))+sumTo d.size c
def n7(a:rM->Nat)(b:Bool->rM)(c:Bool)(d:rM):a (o3 b c d false)+a (o3 b c d true)+a (b c)=a (b false)+a (b true)+a d:=by cases c<;>simp[o3]<;>omega
def MD{c a:zM}(b:∀d,c.seen d=a.seen d):wM c=wM a:=by unfold wM;rw[b,b]
def ME{g:Bool->rM}{av:Nat->List Nat}{aj:Nat->Nat}{h:Array c_}{d:b_}{ap:Trace}(s:pV C){f af:Nat}{c:uf}(M:GI P C z K vl vr g (.two f (af+1) c) av aj h d ap)(rest:Rest)(B:c_):
 ((∀a,(c a).isSome=true->∃f b,g a=.act f b)/\∀W∈mcases C c z,NoWays d (h.setIfInBounds 0 ph) W)\/
 ∃a q m,((∃j b,g a=.pW j b/\partners (h.setIfInBounds 0 ph) (C.c a) true=[(C.ix a,0)])\/((g a).closed=true/\ways d (h.setIfInBounds 0 ph) (rcase (C.c a) z)=[.closed]))/\(c a).isSome=true/\m.send=none/\m.zero=z/\illMade (d.at q) m=false/\ways (d.at q) (h.setIfInBounds 0 ph) m=[]/\
  communicate P rest (h.setIfInBounds 0 ph) 0 B (mcases C c z) true .select d=communicate P rest (h.setIfInBounds 0 ph) 0 B (two (rcase (C.c a) z) m a) true .select (d.at q):=by
 let⟨aC,ay,aA,az,ai⟩:=M.g0
 have X:∀a,(¬∃j b,g a=.pW j b)->partners (h.setIfInBounds 0 ph) (C.c a) true=[]:=by
  intro a l;refine partners_nil λE m T=>?_;rcases getElem?_stand h 0 E m T with⟨_,rfl⟩|⟨aw,A⟩
  .rfl
  .by_cases I:E=C.ix a
   .subst I;by_cases ab:Part C (λa=>(g a).on)<|C.ix a
    .have x:(g a).on=true:=by
      rcases ab with e|⟨S,ah,ao⟩
      .exact absurd e (s.xz a)
      .by_cases Z:S=a
       .subst Z;exact ah
       .exact absurd ao.symm (s.tC Z)
     let⟨ag,L,bf⟩:=M.gS a x;rw[A]at L;obtain rfl:=YR L
     cases hst:g a with
     |none=>rw[hst]at x;cases x
     |act f b=>rw[hst]at bf;exact offersAt_of_not_blocked (by rw[Gb.running (mP P C a b) bf];simp) ..
     |pW j b=>exact absurd ⟨j,b,hst⟩ l
     |gone f=>exact Kf
    .have:=M.old (C.ix a) m (s.pos a) (λS an e=>ab<|.inr ⟨S,an,e⟩) A;rcases this.status with e|e<;>exact offersAt_of_not_blocked (by rw[e];simp) ..
   .exact M.Ha s A I
 have Y:∀a j b,g a=.pW j b->partners (h.setIfInBounds 0 ph) (C.c a) true=[(C.ix a,0)]:=by
  intro a j b l;have x:(g a).on=true:=nY l;let⟨ag,L,bf⟩:=M.gS a x;rw[l]at bf;obtain⟨ax,aB,rfl,_⟩:=bf;have ar:=stand_get (s.xz a) L
  rw[partners_one ar (λE m I T=>by
   rcases getElem?_stand h 0 E m T with⟨_,rfl⟩|⟨_,A⟩
   .rfl
   .exact M.Ha s A I),offersAt_parked_send,Ys rfl]
  rfl
 have r:∀a q,((c a).isSome=true->∃f b,g a=.act f b)->illMade (d.at q) (mL C c z a)=false/\ways (d.at q) (h.setIfInBounds 0 ph) (mL C c z a)=[]:=by
  intro a q au;unfold mL;by_cases l:(c a).isSome=true
  .rw[Ys l];obtain⟨f,b,e⟩:=au l;obtain⟨v,R,k⟩:=M.chan a;rw[e]at k;exact ways_recv_none k (X a (by rintro ⟨j,b,w⟩;rw[e]at w;cases w))
  .rw[Yo l];exact⟨rfl,rfl⟩
 have O:∀a,(c a).isSome=true->(¬∃f b,g a=.act f b)->((∃j b,g a=.pW j b/\partners (h.setIfInBounds 0 ph) (C.c a) true=[(C.ix a,0)])\/((g a).closed=true/\ways d (h.setIfInBounds 0 ph) (rcase (C.c a) z)=[.closed]))/\illMade d (rcase (C.c a) z)=false/\∃v,ways d (h.setIfInBounds 0 ph) (rcase (C.c a) z)=[v]:=by
  intro a l ak;obtain⟨v,R,k⟩:=M.chan a;have ac:=ai a
  cases hst:g a with
  |none=>rw[hst]at ac;exact ac.elim
  |act f b=>exact absurd ⟨f,b,hst⟩ ak
  |pW j b=>rw[hst]at k;exact⟨.inl ⟨j,b,rfl,Y a j b hst⟩,made_recv z k,.partner (C.ix a) 0,by simp[ways,rcase,k,Y a j b hst]⟩
  |gone f=>
   rw[hst]at k;have am:d.heap[C.c a]?=some (.chan 0 #[] true v R false):=k;have aa:ways d (h.setIfInBounds 0 ph) (rcase (C.c a) z)=[.closed]:=by simp[ways,rcase,am,X a (by rintro ⟨j,b,w⟩;rw[hst]at w;cases w)]
   exact⟨.inr ⟨rfl,aa⟩,made_recv z k,.closed,aa⟩
 have D:∀a,(mL C c z a).send=none/\(mL C c z a).zero=z:=by intro a;unfold mL;split<;>exact⟨rfl,rfl⟩
 by_cases J:∀a,(c a).isSome=true->∃f b,g a=.act f b
 .refine .inl ⟨J,λW ad=>?_⟩;simp only[mcases,aam,Y7,Zc,aac]at ad;rcases ad with rfl|rfl
  .exact r false d.drawn (J false)
  .exact r true d.drawn (J true)
 .refine .inr ?_;have N:∀a,(c a).isSome=true->mL C c z a=rcase (C.c a) z:=λa l=>by unfold mL;rw[Ys l]
  by_cases u:(c false).isSome=true->∃f b,g false=.act f b
  .have o:¬((c true).isSome=true->∃f b,g true=.act f b):=λo=>J λa=>by cases a;exact u;exact o
   have n:(c true).isSome=true:=Zb λk=>o λM=>absurd M k;obtain⟨F,V,U⟩:=O true n λt=>o λ_=>t;refine⟨true,d.drawn,mL C c z false,F,n,(D false).1,(D false).2,(r false _ u).1,(r false _ u).2,?_⟩;unfold mcases two;rw[Ys rfl,N true n];rfl
  .have n:(c false).isSome=true:=Zb λk=>u λM=>absurd M k;obtain⟨F,V,v,U⟩:=O false n λt=>u λ_=>t;by_cases o:(c true).isSome=true->∃f b,g true=.act f b
   .refine⟨false,d.drawn,mL C c z true,F,n,(D true).1,(D true).2,(r true _ o).1,(r true _ o).2,?_⟩;unfold mcases two;rw[N false n];rfl
   .have Q:(c true).isSome=true:=Zb λk=>o λM=>absurd M k;obtain⟨al,aq,R,ae⟩:=O true Q λt=>o λ_=>t;have y:=I1 (P:=P) (rest:=rest) (i:=0) (g:=B) V aq U ae;have e:mcases C c z=#[rcase (C.c false) z,rcase (C.c true) z]:=by unfold mcases;rw[N false n,N true Q]
    rw[e];rcases y with y|y
    .exact⟨false,d.drawn+1,rcaseNil z,F,n,rfl,rfl,rfl,rfl,y⟩
    .exact⟨true,d.drawn+1,rcaseNil z,al,Q,rfl,rfl,rfl,rfl,y⟩
end
section
variable {P:e_}{C:Ch}{z:f_}{K:List Nat->c_->b_->Prop}{vl vr:List f_}
def TQ(P:e_)(K:List Nat->c_->b_->Prop):Array c_->b_->Trace->Prop:=λe c b=>∃d a,K d a c/\Beside P e b a
def WY{b:uf}(c:Mx b=0)(a:Bool):b a=none:=by
 unfold Mx at c
 cases d:b a with
 |none=>rfl
 |some e=>cases a<;>rw[d]at c<;>simp[wg1]at c
def GI.done{d:Bool->rM}{J:Nat->List Nat}{w:Nat->Nat}{j:Array c_}{I:b_}{k:Trace}(A:pV C){b:Nat}{i:uf}(e:GI P C z K vl vr d (.two b 0 i) J w j I k){r:c_}(B:j[0]?=some r):Beside P j k r:=by
 let⟨Q,L,N,D,E⟩:=e.g0;have s:=WY D.symm
 have p:∀a,∃b,d a=.gone b:=by
  intro a;have:=E a;rw[s a]at this
  cases l:d a with
  |gone b=>exact⟨b,rfl⟩
  |none=>rw[l]at this;exact this.elim
  |act b F=>rw[l]at this;cases this
  |pW O F=>rw[l]at this;cases this
 refine⟨B,⟨λc=>if c=C.ix false then(match d false with|.gone b=>b|_=>0)else if c=C.ix true then(match d true with|.gone b=>b|_=>0)else w c,λc q y u=>?_,e.above⟩,e.tr.done λa _=>e.sn a (by show(i a).isNone=true;rw[s a];rfl)⟩;have n:∀a b,d a=.gone b->c=C.ix a->QuitsD P b (Deaf k c) q:=by intro a b t x;have o:(d a).on=true:=nY t;let⟨M,v,m⟩:=e.gS a o;subst x;rw[u]at v;obtain rfl:=YR v;rw[t]at m;rw[e.tr.hears _ (.inr ⟨a,o,rfl⟩)];exact QuitsD.of_quitsIn m
 by_cases h:c=C.ix false
 .let⟨b,g⟩:=p false;simp only[h,Y_,g];rw[<-h];exact n false b g h
 .by_cases f:c=C.ix true
  .let⟨b,g⟩:=p true;simp only[f,Y_,g];rw[Yo A.ne.symm,<-f];exact n true b g f
  .simp only[h,Y5,f];exact e.old c q y (λa _=>by cases a;exact h;exact f) u
def MF(c:pV C):∀(al au:Nat) (g:Bool->rM) (mst:zM) (L:Nat->List Nat) (q:Nat->Nat) (d:Array c_) (b:b_) (Z:Trace),GI P C z K vl vr g mst L q d b Z->MC vr g mst=al->UG g mst d q=au->oe P d b Z (TQ P K):=by
 intro al
 induction al using Nat.strongRecOn with
 |_ al bD=>
 intro au
 induction au using Nat.strongRecOn with
 |_ au bl=>
 intro g mst L q d b Z M hF hm
 have B:∀ae ah aO ar U v aE,GI P C z K vl vr ae ah aO ar U v aE->(MC vr ae ah<al\/(MC vr ae ah=al/\UG ae ah U ar<au))->oe P U v aE (TQ P K):=by
  intro ae ah aO ar U v aE a5 ac;rcases ac with ac|⟨X,aN⟩
  .exact bD _ ac _ ae ah aO ar U v aE a5 rfl rfl
  .exact bl _ aN ae ah aO ar U v aE a5 X rfl
 by_cases aM:∃n l,mst=.two n 0 l/\∃a,d[0]?=some a/\K (L 0) a b
 .obtain⟨n,l,rfl,a,bJ,aL⟩:=aM;exact oe.here ⟨L 0,a,aL,M.done c bJ⟩
 refine oe.step1 λy=>?_
 have bk:∃(h:Nat) (a:c_),d[h]?=some a/\a.status=.running:=by
  obtain⟨dI,I,bC⟩:=M.g0
  cases mst with
  |one n=>exact⟨0,dI,I,Gb.running (λ_ _ _ M=>M.1) bC.1⟩
  |two n f l=>exact⟨0,dI,I,Gb.running (nx P C z K f l) bC.1⟩
  |wait f l=>
   have:∃s,(l s).isSome=true:=by refine Zb λaQ=>?_;have bp:∀s,l s=none:=λs=>Zb λu=>aQ ⟨s,by cases e:l s;exact absurd e u;rfl⟩;have:=bC.2.1;simp[Mx,bp,wg1]at this
   obtain⟨s,u⟩:=this;obtain⟨n,aX,e⟩:=bC.2.2.2 s u;obtain⟨Q,J,t⟩:=M.gS s<|nY e;rw[e]at t;exact⟨C.ix s,Q,J,Gb.running (mP P C s aX) t⟩
 obtain⟨h,a,aS,w,m,F,bu⟩:=crowd_pick (P:=P) (w:=b) (sl:=y) M.awake bk;rw[bu];have aD:Rel C (L 0) (b.at aS) b:=⟨rfl,rfl,rfl,YC _,λ_ _=>rfl⟩;replace M:=M.at aS
 revert M aD
 generalize b.at aS=v
 revert aM
 generalize b=w0
 intro aM aD M
 revert aD M
 generalize v=b
 intro aD M;have ac:=(YU.1 m).1;by_cases aH:Part C (λs=>(g s).on) h
 .rcases aH with rfl|⟨s,N,rfl⟩
  .obtain⟨dI,I,bC⟩:=M.g0;rw[m]at I;obtain rfl:=YR I;have a6:∀{v:b_}{aj:Array Event} (D:xy C (L 0) b v aj) (A:c_) (s:Bool) (Q:c_),(g s).on=true->(if C.ix s=0 then some A else d[C.ix s]?)=some Q->sy P C s (upd L 0 (grow (L 0) b v)<|C.ix s) Q v (g s):=by intro v aj D A s Q u J;rw[Yo<|c.xz s]at J;obtain⟨bw,ay,t⟩:=M.gS s u;rw[J]at ay;obtain rfl:=YR ay;rw[upd_ne _ _ (c.xz s)];exact t.rel<|D.rel M.base (M.mine _) (M.mine _)<|M.ap _ _ (c.xz s)
   cases mst with
   |one n=>
    rcases bC.1.cases with W|⟨o,rfl,_,A,v,aj,aa,_,D,ix⟩
    .obtain⟨_,A,aU,bo,t,bs⟩:=W b<|.refl ..;have j:=runT_crowd_spawn (P:=P) (sl:=w) (i:=0) m (show stepG P (0==0) a b=_ from bo);obtain⟨O,ag,f,l,af,a9⟩:=M.TP c t bs a.frame.fn aU.frame.fn a.frame.place a.frame.place
     refine⟨_,_,_,_,j,B _ _ _ _ _ _ _ (by
      have e:Z++((MemOp.ofEvents 0 a.frame.fn a.frame.place #[]).push {g:=0,fn:=a.frame.fn,pos:=a.frame.place,act:=.go d.size}|>.push {g:=d.size,fn:=aU.frame.fn,pos:=a.frame.place,act:=.start})=Z++#[{g:=0,fn:=a.frame.fn,pos:=a.frame.place,act:=.go d.size}]++#[{g:=d.size,fn:=aU.frame.fn,pos:=a.frame.place,act:=.start}]:=by apply abN;simp[ofEvents_eq]
      rw[e];exact af) (.inl ?_)⟩
     have u:=n7 (wS vr) g true (.act O vr);rw[bC.2.1]at u
     have bR:wM (.two ag f l)=2:=by
      have X:=a9 false;have aN:=a9 true;show(if (l false).isNone=true then 0 else 1)+(if (l true).isNone=true then 0 else 1)=2
      cases bK:l false with
      |none=>rw[bK]at X;cases X
      |some bP=>cases aV:l true with
       |none=>rw[aV]at aN;cases aN
       |some aq=>rfl
     have bN:wM (.one n)=2:=rfl;have V:wS vr .none=2*vr.length+4:=rfl;have ad:wS vr (.act O vr)=2*vr.length+3:=rfl;unfold MC at hF⊢;rw[bC.2.1]at hF;omega
    .have j:=runT_crowd_go (P:=P) (sl:=w) (i:=0) m (show stepG P (0==0) a b=_ from aa);refine⟨_,_,_,_,j,B g (.one o) _ q _ _ _ (M.own c (.inl rfl) (λs _ e=>c.xz s e.symm) D (λ_=>rfl) (λ_=>rfl) (λ_=>rfl) (λdI e=>?_)<|a6 D A) (.inr ⟨hF,?_⟩)⟩
     .exact RQ
     .exact RJ
   |two n f l=>
    rcases bC.1.cases with W|⟨o,rfl,_,A,v,aj,aa,_,D,ix⟩
    .cases f with
     |zero=>exact absurd ⟨n,l,rfl,a,m,(W w0 aD).2⟩ aM
     |succ f=>
      obtain⟨_,aJ,bj⟩:=W b<|.refl ..;have aC:=runT_crowd_comm (P:=P) (sl:=w) (i:=0) m (show stepG P (0==0) a b=_ from aJ);have an:MemOp.ofEvents 0 a.frame.fn a.frame.place #[]=#[]:=by simp[ofEvents_eq]
      rcases ME c M (crowd d b w).rest (core a)with⟨bM,aQ⟩|⟨s,aA,aq,bE,a0,be,bb,a',a7,a3⟩
      .have j:=crowd_waits (P:=P) (sl:=w) (i:=0) m (show stepG P (0==0) a b=_ from aJ) aQ;refine⟨_,_,_,_,j,?_⟩;rw[an,ab0];refine B _ _ _ _ _ _ _ (M.VQ c W bM) (.inr ⟨?_,?_⟩)
       .rw[<-hF];rfl
       .unfold UG at hm⊢;simp only[mM,Y3]at hm⊢;omega
      .have aB:GI P C z K vl vr g (.two n (f+1) l) L q d (b.at aA) Z:=M.at aA;have a2:yR z l (tZ P C z K f) (L 0) (core a)<|b.at aA:=bj.rel<|.at ..;rcases bE with⟨r,aX,ai,aw⟩|⟨aR,bv⟩
       .have N:(g s).on=true:=nY ai;obtain⟨Q,J,t⟩:=aB.gS s N;rw[ai]at t;obtain⟨E,aK,rfl,aG⟩:=t;obtain⟨Y,S,x⟩:=aB.chan s;rw[ai]at x;have aT:=FW (P:=P) (rest:=(crowd d b w).rest) (i:=0) (g:=core a) (w:=b.at aA) s rfl ⟨be,bb⟩ ⟨a',a7⟩ x (stand_get (i:=0) (c.xz s) J) aw;rw[a3,aT,an]at aC;have g0:l s=some (r::aX):=by have:=bC.2.2 s;rw[ai]at this;exact this
        have bA:=(YU.1 J).1;have bF:((d.setIfInBounds 0 ph).setIfInBounds (C.ix s)<|Conc.served E undef).setIfInBounds 0 (Conc.served (core a)<|zd z s r true)=(d.setIfInBounds (C.ix s)<|Conc.served E undef).setIfInBounds 0 (Conc.served (core a)<|zd z s r true):=set_stand2 d 0 (C.ix s) _ _;rw[bF]at aC
        obtain⟨O,ag,af⟩:=aB.meet (gs':=(d.setIfInBounds (C.ix s)<|Conc.served E undef).setIfInBounds 0<|Conc.served (core a)<|zd z s r true) c N (nY ai) g0 bC.2.2 bC.2.1 (λ_=>rfl) aG a2 (a:=Y) (b:=S) E.frame.fn (core a).frame.fn E.frame.place (core a).frame.place si (λR=>by
         rw[lG (by simpa using ac),lG bA];by_cases X:R=0
         .subst X;rw[Ys rfl,Yo λe=>c.xz s e.symm,Ys rfl]
         .rw[Yo X,Yo X])
        refine⟨_,_,_,_,aC,B _ _ _ _ _ _ _ (by rw[abm];exact af) (.inl ?_)⟩;have u:=n7 (wS vr) g s<|.act O aX;rw[ai]at u;have V:wS vr (.pW r aX)=2*aX.length+4:=rfl;have ad:wS vr (.act O aX)=2*aX.length+3:=rfl;have aZ:wM (.two ag f<|np l s<|some aX)=wM (.two n (f+1) l):=MD λam=>by exact Rl
        unfold MC at hF⊢;omega
       .have aT:=DZ (P:=P) (rest:=(crowd d b w).rest) (i:=0) (g:=core a) (w:=b.at aA) s rfl ⟨be,bb⟩ ⟨a',a7⟩ (by let⟨Y,S,x⟩:=aB.chan s;exact made_recv z x) bv;rw[a3,aT,an,set_stand]at aC
        have bf:l s=some []:=by
         have:=bC.2.2 s
         cases i:g s with
         |gone k=>
          rw[i]at this;rcases this with e|e
          .exact e
          .rw[e]at a0;cases a0
         |_=>rw[i]at aR;cases aR
        let⟨ag,af⟩:=aB.WX c aR bf a2 (core a).frame.fn (core a).frame.place;refine⟨_,_,_,_,aC,B _ _ _ _ _ _ _ (by rw[abm];exact af) (.inl ?_)⟩;have aZ:wM (.two ag f<|np l s none)<wM (.two n (f+1) l):=by show(if (np l s none false).isNone=true then 0 else 1)+(if (np l s none true).isNone=true then 0 else 1)<(if (l false).isNone=true then 0 else 1)+(if (l true).isNone=true then 0 else 1);cases s<;>simp[np,bf]
        unfold MC at hF⊢;omega
    .have j:=runT_crowd_go (P:=P) (sl:=w) (i:=0) m (show stepG P (0==0) a b=_ from aa);refine⟨_,_,_,_,j,B g (.two o f l) _ q _ _ _ (M.own c (.inl rfl) (λs _ e=>c.xz s e.symm) D (λ_=>rfl) (λ_=>rfl) (λ_=>rfl) (λdI e=>?_)<|a6 D A) (.inr ⟨hF,?_⟩)⟩
     .exact RQ
     .exact RJ
   |wait f l=>obtain⟨⟨ao,rfl,_⟩,_⟩:=bC;cases F
  .let⟨Q,J,t⟩:=M.gS s N;rw[m]at J;obtain rfl:=YR J;have ak:(C.ix s==0)=false:=by simp;exact c.xz s
   let⟨dI,I,bC⟩:=M.g0
   cases i:g s with
   |none=>simp only[i]at N;cases N
   |act n aX=>
    rw[i]at t;rcases t.cases with W|⟨o,rfl,_,A,v,aj,aa,_,D,ix⟩
    .cases aX with
     |nil=>let⟨_,bi,E,o,bI,T⟩:=W b<|.refl ..;let⟨Y,S,x⟩:=M.chan s;rw[i]at x;have aa:=bI Y S false x;have j:=runT_crowd_go (P:=P) (sl:=w) (i:=C.ix s) m (by rw[ak];exact aa);refine⟨_,_,_,_,j,B _ _ _ _ _ _ _ (M.TO c i m bi T a.frame.fn a.frame.place) (.inl ?_)⟩;have u:=n7 (wS vr) g s<|.gone o;rw[i]at u;have V:wS vr (.act n [])=3:=rfl;have ad:wS vr (.gone o)=0:=rfl;have aZ:wM (Hc mst)=wM mst:=MD<|yV mst;unfold MC at hF⊢;omega
     |cons r aX=>
      let⟨_,E,aK,aJ,aG⟩:=W b<|.refl ..;let⟨Y,S,x⟩:=M.chan s;rw[i]at x;have bc:stepG P (C.ix s==0) a b=.comm E #[scase (C.c s) r aK] true .send b #[]:=by rw[ak];exact aJ
      have an:MemOp.ofEvents (C.ix s) a.frame.fn a.frame.place #[]=#[]:=by simp[ofEvents_eq]
      by_cases fv:∃f l,mst=.wait f l
      .obtain⟨f,l,rfl⟩:=fv;obtain⟨⟨ao,rfl,bt⟩,bq,bd,bT⟩:=bC;have g0:l s=some (r::aX):=(bd s).some i;have aL:(mcases C l z)[(if s then 1 else 0:Nat)]?=some (rcase (C.c s) z):=by cases s<;>simp[mcases,mL,g0]
       have bB:∀(az:Nat) (av:CommCase),az≠(if s then 1 else 0:Nat)->(mcases C l z)[az]?=some av->av.chan≠.chan (some (C.c s)):=by
        intro az av a8 ab;have bQ:=c.two
        have bg:∀am,am≠s->(mL C l z am).chan≠.chan (some (C.c s)):=by
         intro am aF;unfold mL;split
         .intro e;simp only[rcase,Value.chan.injEq,Yz]at e;exact c.O_ aF e
         .intro e;simp[rcaseNil]at e
        rcases az with _|_|az
        .simp only[mcases,aat,ZO,Yz]at ab;subst ab
         cases s with
         |false=>exact absurd rfl a8
         |true=>exact bg false si
        .simp only[mcases,aat,abz,ZO,Yz]at ab;subst ab
         cases s with
         |false=>exact bg true si
         |true=>exact absurd rfl a8
        .simp[mcases]at ab
       have bz:=stand_get (i:=C.ix s) (λe=>c.xz s e.symm) I
       have aw:partners (d.setIfInBounds (C.ix s) ph) (C.c s) false=[(0,(if s then 1 else 0:Nat))]:=by
        rw[partners_one bz (λR aq aI ap=>by
         rcases getElem?_stand d (C.ix s) R aq ap with⟨_,rfl⟩|⟨_,ax⟩
         .rfl
         .exact M.Hb ax aI),offersAt_parked_at aL bB]
        rfl
       have j:=crowd_send_meets_sel (P:=P) (sl:=w) (i:=C.ix s) (j:=0) m bc x (λe=>c.xz s e.symm) I aL aw
       have bm:(core ao).finishComm P (mcases C l z) .select ((if s then 1 else 0:Nat):Int) r true=Conc.served (core ao) (zd z s r true):=by
        have a4:∀s,(mL C l z s).send=none/\(mL C l z s).zero=z:=by intro s;unfold mL;split<;>exact⟨rfl,rfl⟩
        have aV:mcases C l z=two (mL C l z s) (mL C l z<|!s) s:=by cases s<;>rfl
        unfold Goroutine.finishComm;rw[aV,BV _ _ (a4 s) (a4<|!s) s r true];rfl
       rw[bm,finishComm_send,an,abm]at j;let⟨O,ag,af⟩:=M.meet (gs':=(d.setIfInBounds 0<|Conc.served (core ao)<|zd z s r true).setIfInBounds (C.ix s)<|Conc.served E undef) c N (nY i) g0 bd bq (λ_=>rfl) aG (bt b<|.refl ..).2.2 (a:=Y) (b:=S) E.frame.fn (core ao).frame.fn E.frame.place (core ao).frame.place si (λR=>by rw[lG (by simpa using ac),lG M.TK]);refine⟨_,_,_,_,j,B _ _ _ _ _ _ _ af (.inl ?_)⟩;have u:=n7 (wS vr) g s<|.act O aX;rw[i]at u;have V:wS vr (.act n (r::aX))=2*(aX.length+1)+3:=rfl;have ad:wS vr (.act O aX)=2*aX.length+3:=rfl;have aZ:wM (.two ag f<|np l s<|some aX)=wM (.wait f l):=MD λam=>by exact Rl
       unfold MC at hF⊢;omega
      .refine QF ?_;intro gY
       have aw:partners (d.setIfInBounds (C.ix s) ph) (C.c s) false=[]:=partners_nil λR aq ap=>by
        rcases getElem?_stand d (C.ix s) R aq ap with⟨_,rfl⟩|⟨_,ax⟩
        .rfl
        .by_cases aI:R=0
         .subst aI;rw[I]at ax;obtain rfl:=YR ax;exact offersAt_of_not_blocked (by rw[gY];simp) ..
         .exact M.Hb ax aI
       have j:=crowd_waits (P:=P) (sl:=w) (i:=C.ix s) m bc (λav ab=>by
        obtain rfl:av=scase (C.c s) r aK:=by simpa using ab
        exact ways_send_none x kM aw)
       refine⟨_,_,_,_,j,?_⟩;rw[an,ab0];refine B _ _ _ _ _ _ _ (M.VP c i (λf l e=>fv ⟨f,l,e⟩) aG) (.inl ?_);have u:=n7 (wS vr) g s<|.pW r aX;rw[i]at u;have V:wS vr (.act n (r::aX))=2*(aX.length+1)+3:=rfl;have ad:wS vr (.pW r aX)=2*aX.length+4:=rfl;unfold MC at hF⊢;omega
    .have j:=runT_crowd_go (P:=P) (sl:=w) (i:=C.ix s) m (by rw[ak];exact aa)
     have a1:∀am,(o3 g s (.act o aX) am).on=(g am).on/\(o3 g s (.act o aX) am).closed=(g am).closed:=by
      intro am;by_cases aF:am=s
      .subst aF;rw[lq,i];exact⟨rfl,rfl⟩
      .rw[lZ _ aF];exact⟨rfl,rfl⟩
     refine⟨_,_,_,_,j,B (o3 g s<|.act o aX) mst _ q _ _ _ (M.own c (.inr ⟨s,N,rfl⟩) (λam x e=>?_) D (λam=>(a1 am).1) (λam=>(a1 am).2) (λ_=>rfl) (λbO e=>?_) λam Q bn e=>?_) (.inr ⟨?_,?_⟩)⟩
     .by_cases aF:am=s
      .subst aF;rw[i]at x;cases x
      .exact c.tC aF e.symm
     .rw[Yo λe=>c.xz s e.symm,I]at e;obtain rfl:=YR e;rw[upd_ne _ _ (λe=>c.xz s e.symm)];exact(bC.rel<|D.rel M.base (M.mine _) (M.mine _)<|M.ap _ _ (λe=>c.xz s e.symm)).o3 N (λaq ap=>by rw[i]at ap;exact ap) λ_ _ _ _=>⟨o,aX,rfl⟩
     .by_cases aF:am=s
      .subst aF;rw[Ys rfl]at e;obtain rfl:=YR e;rw[upd_same,lq];exact ix
      .rw[Yo<|c.tC aF]at e;let⟨bw,ay,bG⟩:=M.gS am bn;rw[e]at ay;obtain rfl:=YR ay;rw[upd_ne _ _ (c.tC aF),lZ _ aF];exact bG.rel<|D.rel M.base (M.mine _) (M.mine _)<|M.ap _ _ (c.tC aF)
     .have:=n7 (wS vr) g s<|.act o aX;rw[i]at this;have V:wS vr (.act (o+1) aX)=wS vr (.act o aX):=rfl;unfold MC at hF⊢;omega
     .have:=n7 mS g s<|.act o aX;rw[i]at this;have V:mS (.act (o+1) aX)=o+2:=rfl;have ad:mS (.act o aX)=o+1:=rfl;exact RV
   |pW r aX=>rw[i]at t;obtain⟨E,aK,rfl,_⟩:=t;cases F
   |gone n=>
    rw[i]at t
    cases n with
    |zero=>rw[show a.status=.finished from t]at F;cases F
    |succ n=>
     rcases t with aW|⟨_,A,aY,T⟩
     .rw[aW]at F;cases F
     .have j:=runT_crowd_go (P:=P) (sl:=w) (i:=C.ix s) m (by rw[ak];exact aY b);have e:Z++MemOp.ofEvents (C.ix s) a.frame.fn a.frame.place #[]=Z:=by simp[ofEvents_eq]
      refine⟨_,_,_,_,j,?_⟩;rw[e];refine B _ _ _ _ _ _ _ (M.quit c i m T) (.inr ⟨?_,?_⟩)
      .have:=n7 (wS vr) g s<|.gone n;rw[i]at this;have V:wS vr (.gone<|n+1)=0:=rfl;have ad:wS vr (.gone n)=0:=rfl;unfold MC at hF⊢;omega
      .have:=n7 mS g s<|.gone n;rw[i]at this;have V:mS (.gone<|n+1)=n+1:=rfl;have ad:mS (.gone n)=n:=rfl;exact RV
 ·
  have bL:0<h:=Z0 λe=>aH<|.inl e;have T:=M.old h a bL (λs u e=>aH<|.inr ⟨s,u,e⟩) m;have ak:(h==0)=false:=so
  cases aP:q h with
  |zero=>rw[aP]at T;rw[T.1]at F;cases F
  |succ k=>
   rw[aP]at T;rcases T with⟨aW,_⟩|⟨_,A,aj,bH,aY,bx⟩
   .rw[aW]at F;cases F
   have j:=runT_crowd_go (P:=P) (sl:=w) (i:=h) m (by rw[ak];exact aY b);refine⟨_,_,_,_,j,B _ _ _ _ _ _ _ (M.TL m aH bH bx) (.inr ⟨hF,?_⟩)⟩;have bS:sumTo d.size (upd q h k)+(k+1)=sumTo d.size q+k:=by have:=sumTo_upd q k id ac;simpa[aP]using this
   unfold UG at hm⊢;have bh:((d.map<|woken P a A b).setIfInBounds h A).size=d.size:=si;rw[bh];omega
def sc(a:Nat)(vl:List f_):Bool->rM
 |true=>.none
 |false=>.act a vl
def phase(u:pV C){a:Array c_}{i:b_}{h:Trace}{b k d:c_}(m:Beside P a h b)(j:C.ix false=a.size/\C.ix true=a.size+1)(ag:C.base<=i.heap.size)
 (M:∀c,i.heap[C.c c]?=some (.chan 0 #[] false 0 0 false)) (T:b.status=.running)
 (V:∀l,stepG P true b (i.at l)=.spawn k d (i.at l) #[]) (L:FU P C false vl [] d i) (ae:∃ad,Gb P C true (So P C z K vl vr) ad [] k i):oe P a i h (TQ P K):=by
 refine wD T a.size (λl a h w W ai=>?_) a h rfl m;obtain⟨x,⟨ah,q⟩,Y⟩:=ai;rw[<-W]at j;have N:=runT_crowd_spawn (P:=P) (sl:=w) x<|V l;have O:=(YU.1 x).1;refine⟨_,_,_,_,N,?_⟩;have e:h++((MemOp.ofEvents 0 b.frame.fn b.frame.place #[]).push {g:=0,fn:=b.frame.fn,pos:=b.frame.place,act:=.go a.size}|>.push {g:=a.size,fn:=d.frame.fn,pos:=b.frame.place,act:=.start})=h++#[{g:=0,fn:=b.frame.fn,pos:=b.frame.place,act:=.go a.size}]++#[{g:=a.size,fn:=d.frame.fn,pos:=b.frame.place,act:=.start}]:=by apply abN;simp[ofEvents_eq]
 rw[e];obtain⟨o,af⟩:=(qd ..).1<|L.rel<|.at C [] i l;obtain⟨S,F⟩:=ae;have p:∀f,((a.setIfInBounds 0 k).push d)[f]?=if f=a.size then some d else if f=0 then some k else a[f]?:=by intro f;rw[aaU,Y3,lG O]
 have Z:Deaf h (C.ix false)=0:=q.above _ (by rw[j.1];exact YC _);have aa:=(zg.begin (C:=C) Y λ_=>[]).spawn (s:=false) rfl Z (u.xz false) (x:={g:=0,fn:=b.frame.fn,pos:=b.frame.place,act:=.go a.size}) (y:={g:=a.size,fn:=d.frame.fn,pos:=b.frame.place,act:=.start}) ⟨rfl,by rw[j.1]⟩ ⟨j.1.symm,rfl⟩;have U:∀s∈(#[{g:=0,fn:=b.frame.fn,pos:=b.frame.place,act:=.go a.size}]++#[{g:=a.size,fn:=d.frame.fn,pos:=b.frame.place,act:=.start}]:Trace),s.act≠.mark .disable/\s.act≠.mark .enable:=by intro s B;simp only[abB,aam,Y7,Zc,aac]at B;rcases B with rfl|rfl<;>exact⟨si,si⟩
 have E:∀f,Deaf (h++#[{g:=0,fn:=b.frame.fn,pos:=b.frame.place,act:=.go a.size}]++#[{g:=a.size,fn:=d.frame.fn,pos:=b.frame.place,act:=.start}]) f=Deaf h f:=by intro f;rw[aa5];exact oq _ _ _ U
 have t:((a.setIfInBounds 0 k).push d).size=a.size+1:=si;have I:(λc=>(sc o vl c).on)=(λy=>if y=false then true else(λ_=>false) y):=by funext c;cases c<;>rfl
 refine MF (z:=z) (vl:=vl) (vr:=vr) u _ _ (sc o vl) (.one S) (λ_=>[]) ah _ _ _ ⟨ag,(λv ac m=>by cases m),(λv r _ ac m=>by cases m),λc=>?_,?_,λc n=>?_,λ_=>⟨by rw[t];exact j.2,rfl,rfl⟩,λD r Q R A=>?_,λf X=>?_,by rw[I];exact aa,λc n=>?_,λc n=>?_⟩ rfl rfl
 .refine⟨0,0,?_⟩;have J:(sc o vl c).closed=false:=by cases c<;>rfl
  rw[J];exact M c
 .exact⟨k,by rw[p,Yo om,Ys rfl],F.rel<|.at ..,rfl,rfl⟩
 .cases c with
  |true=>cases n
  |false=>exact⟨d,by rw[p,Ys j.1],af⟩
 .have ab:=R false rfl;rw[p,Yo (by rw[<-j.1];exact ab),Yo om]at A;rw[E];exact q.old D r Q A
 .rw[E];exact q.above f (by rw[t]at X;omega)
 .cases c<;>cases n
 .cases n
end
section
variable {P:e_}{C:Ch}{main:Bool}
def m8(A0:List Nat)(w:b_):grow A0 w w=A0:=by simp[grow]
def xy.idle(C:Ch)(A0:List Nat)(w:b_):xy C A0 w w #[]:=⟨rfl,rfl,rfl,YC _,λ_ _ _=>rfl,si⟩
section
variable {Stop:List Nat->c_->b_->Prop}{n n':Nat}{A0:List Nat}{g g':c_}{w:b_}
def Gb.more(b:Gb P C main Stop n A0 g w):Gb P C main Stop (n+1) A0 g w:=by
 induction n generalizing A0 g w with
 |zero=>exact .inl b
 |succ n c=>
  rcases b with b|⟨i,k⟩
  .exact .inl b
  .refine .inr ⟨i,λd e=>?_⟩;let⟨g',o,h,j,f,l,m⟩:=k d e;exact⟨g',o,h,j,f,l,c m⟩
def Gb.mono(d:Gb P C main Stop n A0 g w)(c:n<=n'):Gb P C main Stop n' A0 g w:=by
 induction c with
 |refl=>exact d
 |step _ b=>exact b.more
def Gb.stop(b:∀c,Rel C A0 w c->Stop A0 g c):Gb P C main Stop n A0 g w:=by
 cases n with
 |zero=>exact b
 |succ n=>exact .inl b
def Gb.ctl(c:g.status=.running)(f:g'.status=.running)(h:∀w,stepG P main g w=.go g' w #[])(d:Gb P C main Stop n A0 g' w):Gb P C main Stop (n+1) A0 g w:=
 .inr ⟨c,λb e=>⟨g',b,#[],h b,f,.idle ..,by rw[m8];exact d.rel e⟩⟩
end
def sA(P:e_)(C:Ch)(main:Bool)(Stop:List Nat->c_->b_->Prop)(c:Nat)(d:Frame)(e:List Item)(b:List Frame):Exit->Act->List Nat->b_->Prop
 |.normal,a,A0,w=>Gb P C main Stop c A0 (G (d.at a e) b) w
 |.exit id,a,A0,w=>∃f,exitTo id e=some f/\Gb P C main Stop c A0 (G (d.at a f) b) w
 |.ret,a,A0,w=>∀h,Gb P C main Stop c A0 (G {d.at a h with mode:=.returning} b) w
 |_,_,_,_=>False
def sA.mono{Stop:List Nat->c_->b_->Prop}{f j:Nat}{i:Frame}{h:List Item}{e:List Frame}{c:Exit}{a:Act}{A0:List Nat}{w:b_}(b:sA P C main Stop f i h e c a A0 w)(d:f<=j):sA P C main Stop j i h e c a A0 w:=by
 cases c with
 |normal=>exact Gb.mono b d
 |exit id=>let⟨o,m,l⟩:=b;exact⟨o,m,l.mono d⟩
 |ret=>exact λk=>(b k).mono d
 |_=>exact b
def sA.push{Stop:List Nat->c_->b_->Prop}{e:Nat}{h:Frame}{x:Item}{f:List Item}{d:List Frame}{b:Exit}{a:Act}{A0:List Nat}{w:b_}(l:x.plain=true)(i:b≠.normal)
 (c:sA P C main Stop e h f d b a A0 w):sA P C main Stop e h (x::f) d b a A0 w:=by
 cases b with
 |normal=>exact absurd rfl i
 |exit id=>let⟨k,m,j⟩:=c;exact⟨k,by cases x<;>simp_all[exitTo,Item.plain],j⟩
 |ret=>exact c
 |_=>exact c
abbrev qf:=Exit->Act->List Nat->b_->Prop
def xG(P:e_)(C:Ch)(main:Bool)(fn:g_)(k:Code)(n:Nat)(Q:qf)(a:Act)(A0:List Nat)(w:b_):Prop:=
 ∀(b:Frame) (f:List Item) (d:List Frame) (Stop:List Nat->c_->b_->Prop) (e:Nat),b.fn=fn->b.kind≠.early->
  (∀c h i j,Q c h i j->sA P C main Stop e b f d c h i j)->Gb P C main Stop (e+n) A0 (G (b.at a (.code k::f)) d) w
def mQ(P:e_)(C:Ch)(main:Bool)(fn:g_)(k:Array Oper)(l:List Nat)(n:Nat)(Q:qf)(a:Act)(A0:List Nat)(w:b_):Prop:=
 ∀(b:Frame) (f:List Item) (d:List Frame) (Stop:List Nat->c_->b_->Prop) (e:Nat),b.fn=fn->b.kind≠.early->
  (∀c h i j,Q c h i j->sA P C main Stop e b f d c h i j)->Gb P C main Stop (e+n) A0 (G (b.at a (.inRegion k l::f)) d) w
def thenB(c:Act->List Nat->b_->Prop)(Q:qf):qf
 |.normal,a,A0,w=>c a A0 w
 |b,a,A0,w=>Q b a A0 w
def inBlockB(id:Nat)(Q:qf):qf
 |.exit b,a,A0,w=>if b=id then Q .normal a A0 w else Q (.exit b) a A0 w
 |c,a,A0,w=>Q c a A0 w
section rules
variable {fn:g_}{Q:qf}{a:Act}{A0:List Nat}{w:b_}
def yW{b:Code}{n n':Nat}(k:xG P C main fn b n Q a A0 w)(l:n<=n'):xG P C main fn b n' Q a A0 w:=
 λj h d Stop e c i f=>(k j h d Stop e c i f).mono om
def MG{d:Code}{n:Nat}{f:qf}(p:xG P C main fn d n Q a A0 w)(l:∀b a c w,Q b a c w->f b a c w):xG P C main fn d n f a A0 w:=
 λo m j Stop c q r k=>p o m j Stop c q r λb e h i s=>k b e h i (l b e h i s)
def lD{b:Code}{n:Nat}{c:b_}(m:xG P C main fn b n Q a A0 w)(d:Rel C A0 w c):xG P C main fn b n Q a A0 c:=
 λl j f Stop h e k i=>(m l j f Stop h e k i).rel d
def pl(b:Q .normal a A0 w):xG P C main fn .skip 1 Q a A0 w:=λ_ _ _ _ _ _ _ c=>Gb.ctl rfl rfl (λ_=>stepG_skip) (c _ _ _ _ b)
def sJ(b:Q .ret a A0 w):xG P C main fn .ret 1 Q a A0 w:=λ_ _ _ _ _ _ _ c=>Gb.ctl rfl rfl (λ_=>stepG_ret') (c _ _ _ _ b _)
def qy{id:Nat}(e:Q (.exit id) a A0 w):xG P C main fn (.exit id) 1 Q a A0 w:=λj i f Stop h _ _ c=>by let⟨k,d,b⟩:=c _ _ _ _ e;exact Gb.ctl rfl rfl (λ_=>stepG_exit d) b
def lY{f d:Code}{c n₂:Nat}(s:xG P C main fn f c (thenB (λm p r=>xG P C main fn d n₂ Q m p r) Q) a A0 w):xG P C main fn (.seq f d) (c+n₂+1) Q a A0 w:=by
 intro l k j Stop b o q e
 have t:Gb P C main Stop (b+n₂+c) A0 (G (l.at a (.code f:: .code d::k)) j) w:=by
  refine s l (.code d::k) j Stop (b+n₂) o q λi m p r h=>?_
  cases i with
  |normal=>exact h l k j Stop b o q e
  |exit id=>exact((e _ _ _ _ h).mono<|ab' ..).push rfl si
  |ret=>exact((e _ _ _ _ h).mono<|ab' ..).push rfl si
  |_=>exact e _ _ _ _ h
 have i:b+(c+n₂+1)=(b+n₂+c)+1:=om;rw[i];exact Gb.ctl rfl rfl (λ_=>stepG_seq) t
def nv{b:Operand}{d e:Code}{c:Bool}{n:Nat}(h:a.eval b=.bool c)(m:xG P C main fn (if c then d else e) n Q a A0 w):xG P C main fn (.cond b d e) (n+1) Q a A0 w:=
 λl k f Stop i o p j=>Gb.ctl rfl rfl (λ_=>stepG_cond h) (m l k f Stop i o p j)
def AG{b:Operand}{d e:Code}{t:Bool}{f c:Nat}(h:a.eval b=.bool t)(i:t=true->xG P C main fn d f Q a A0 w)(j:t=false->xG P C main fn e c Q a A0 w):xG P C main fn (.cond b d e) (max f c+1) Q a A0 w:=by
 apply nv h
 cases t with
 |true=>exact yW (i rfl)<|Nat.le_max_left ..
 |false=>exact yW (j rfl) (Nat.le_max_right ..)
def pa{id n:Nat}{f:Code}(j:xG P C main fn f n (inBlockB id Q) a A0 w):xG P C main fn (.block id f) (n+2) Q a A0 w:=by
 intro l i k Stop d s t c
 have p:Gb P C main Stop (d+1+n) A0 (G (l.at a (.code f:: .inBlock id::i)) k) w:=by
  refine j l (.inBlock id::i) k Stop (d+1) s t λh v x y b=>?_
  cases h with
  |normal=>exact Gb.ctl rfl rfl (λ_=>stepG_inBlock) (c _ _ _ _ b)
  |exit m=>
   by_cases e:m=id
   .simp only[inBlockB,e,Y_]at b;exact⟨i,by simp[exitTo,e],Gb.more<|c _ _ _ _ b⟩
   .simp only[inBlockB,e,Y5]at b;let⟨u,o,r⟩:=c _ _ _ _ b;have:(id==m)=false:=by simp;exact λj=>e j.symm
    exact⟨u,by simp[exitTo,this,o],r.more⟩
  |ret=>exact λq=>(c _ _ _ _ b q).more
  |_=>exact c _ _ _ _ b
 have h:d+(n+2)=(d+1+n)+1:=om;rw[h];exact Gb.ctl rfl rfl (λ_=>stepG_block) p
def nH{id n:Nat}{b:Array Oper}(k:mQ P C main fn b (List.range b.size) n Q a A0 w):xG P C main fn (.region id b false) (n+1) Q a A0 w:=
 λj h d Stop e c i f=>Gb.ctl rfl rfl (λ_=>stepG_region) (k j h d Stop e c i f)
def nX{b:Array Oper}(c:Q .normal a A0 w):mQ P C main fn b [] 1 Q a A0 w:=λ_ _ _ _ _ _ _ d=>Gb.ctl rfl rfl (λ_=>stepG_region_end) (d _ _ _ _ c)
def ot{h:Array Oper}{s n:Nat}{rest:List Nat}{d:Oper}(k:h[s]?=some d)(p:Region.wanted d (yielded h a.tmps)=true)
 (u:∀b,Rel C A0 w b->uponK d a (λa' e=>xy C A0 b e (listed P fn a d b)/\mQ P C main fn h rest n Q a' (grow A0 b e) e) ((execOp a.eval d).run P b)):mQ P C main fn h (s::rest) (n+1) Q a A0 w:=by
 intro r q l Stop m i j o;refine .inr ⟨rfl,λb t=>?_⟩;have c:=u b t
 cases f:(execOp a.eval d).run P b with
 |ok v e=>
  rw[f]at c
  cases v with
  |value x=>exact⟨_,e,_,stepG_value k p j f,rfl,i▸c.1,c.2 r q l Stop m i j o⟩
  |skip=>exact⟨_,e,_,stepG_none k p j f,rfl,i▸c.1,c.2 r q l Stop m i j o⟩
  |_=>exact c.elim
 |halt _ _=>rw[f]at c;exact c.elim
def qh{b:Array Oper}{d n:Nat}{rest:List Nat}{c:Oper}(e:b[d]?=some c)(j:Region.wanted c (yielded b a.tmps)=false)(m:mQ P C main fn b rest n Q (a.put c.dst undef) A0 w):mQ P C main fn b (d::rest) (n+1) Q a A0 w:=
 λl k f Stop h o p i=>Gb.ctl rfl rfl (λ_=>stepG_unwanted e j) (m l k f Stop h o p i)
end rules
end
section
variable {P:e_}{C:Ch}{main:Bool}{fn:g_}{Q:qf}{a:Act}{A0:List Nat}{w:b_}{ops:Array Oper}{i:Nat}{rest:List Nat}{o:Oper}{n:Nat}
def MH{c:List Nat}{b:b_}(m:mQ P C main fn ops c n Q a A0 w)(d:Rel C A0 w b):mQ P C main fn ops c n Q a A0 b:=
 λl j f Stop g e k h=>(m l j f Stop g e k h).rel d
def pg{c:List Nat}{b:Nat}(l:mQ P C main fn ops c n Q a A0 w)(m:n<=b):mQ P C main fn ops c b Q a A0 w:=
 λk h e Stop f d j g=>(l k h e Stop f d j g).mono om
def oi{d:f_}(g:ops[i]?=some o)(h:Region.wanted o (yielded ops a.tmps)=true)(e:∀(w:b_) (c:Result Next->Prop),c (.ok (.value d) w)->c ((execOp a.eval o).run P w))(k:∀w:b_,(execOp a.eval o).events P w #[]=#[])
 (j:mQ P C main fn ops rest n Q (a.put o.dst d) A0 w):mQ P C main fn ops (i::rest) (n+1) Q a A0 w:=by
 refine ot g h λb f=>?_;rw[run_eq_of<|e b];refine⟨?_,by rw[m8];exact MH j f⟩;rw[listed_nil<|k b];exact .idle ..
def I2{w c:b_}{b:Nat}(f:c.heap[b]?=w.heap[b]?)(e:Nat)(d:Option d_):c.cell? ⟨b,e,d⟩=w.cell? ⟨b,e,d⟩:=by unfold World.cell?;simp only[f]
def mF{w c:b_}{b o:Nat}{d:List f_}(j:c.heap[b]?=w.heap[b]?)(e:w.rangeAt b o d):c.rangeAt b o d:=λg h f=>by rw[I2 j];exact e g h f
def ns(P:e_)(e:d_)(c:List f_)(d:f_):Prop:=
 (P.info? e).map (·.size)=some c.length/\∃b,P.underlying e=some b/\((b.isRow=true/\d=.agg c.toArray)\/(b.isRow=false/\c=[d]))
def vS{c:d_}{b:TypeDesc}(d:P.underlying c=some b)(w:b_):(isAgg c).run P w=.ok b.isRow w:=by unfold isAgg;rw[Zp,Zm d w];cases b<;>simp_all[TypeDesc.isRow]
def nL{g:d_}{d:List f_}{e:f_}(m:ns P g d e){f b:Nat}(j:w.rangeAt f b d):(loadVar g<|μ f b).run P w=.ok e w:=by
 obtain⟨l,k,h,⟨c,rfl⟩|⟨c,rfl⟩⟩:=m
 .exact run_loadVar_mid w f b g d k j h c l
 .have:=j 0 e si;simp only[YE]at this;simp[loadVar,Zp,vS h,c,this]
def q7{k:d_}{b:List f_}{l:f_}(h:ns P k b l){c e:Nat}(p:w.rangeAt c e b):∀f∈(loadVar k<|μ c e).events P w #[],f.readsIn (· =c):=by
 intro f d;let⟨r,A,q,g⟩:=h
 cases m:P.info? k with
 |none=>simp[m]at r
 |some y=>
  have z:y.size=b.length:=by simpa[m]using r
  have u:(sizeOf k).run P w=.ok b.length w:=by simp[sizeOf,typeInfo,m,z]
  rcases g with⟨g,rfl⟩|⟨g,rfl⟩
  .simp only[loadVar,ZG,vS q,g,ZH,events_isAgg,Y_,u,events_sizeOf]at d
   have v:∀f∈(loadCells (μ c e) b.length).events P w #[],f∈(#[]:Array Event)\/f.readsIn (· =c):=
    events_loadCellsFrom_at (μ c e) (· =c) rfl b.length 0 #[] w #[] λj s=>by rw[YF,aaX,p j b[j]<|Yw s];rfl
   have x:(loadCells (μ c e) b.length).run P w=.ok b.toArray w:=Z9 (P:=P) w (μ c e) b (λj l t=>by rw[aaX];exact p j l t);rw[x]at d;simp only[ZH,Z7]at d;rcases v f d with h|h
   .simp at h
   .exact h
  .have:=p 0 l si;simp only[YE]at this;simp only[loadVar,ZG,vS q,g,ZH,events_isAgg,YY,Y5,events_load,this]at d;simp at d;exact⟨_,by rw[d],by rw[d],rfl⟩
def xR{e:Nat}(b:qu C e\/e∈A0){d:Event}(j:d.readsIn (· =e)):JW C A0 d:=by
 let⟨k,c,f,h⟩:=j;refine⟨by simp[pU,c],λm g=>?_⟩;let⟨l,wr,p⟩:=d;simp only at c f;subst c f;simp only[MemAct.ofEvent,MemAct.touch?,Yz]at g;subst g;refine .inl ⟨k,rfl,?_⟩;rcases b with b|b
 .exact .inr ⟨rfl,h▸b⟩
 .exact .inl (h▸b)
def sM{e:Nat}(g:e∈A0){d:Event}{c:Addr}(b:d.loc=.cell c)(h:c.block=e):JW C A0 d:=by refine⟨by simp[pU,b],λk f=>?_⟩;let⟨j,wr,l⟩:=d;simp only at b;subst b;simp only[MemAct.ofEvent,MemAct.touch?,Yz]at f;subst f;exact .inl ⟨c,rfl,.inl<|h▸g⟩
def xy.read{b:Array Event}(d:∀c∈b,JW C A0 c):xy C A0 w w b:=⟨rfl,rfl,rfl,YC _,λ_ _ _=>rfl,by rw[m8];exact d⟩
def tG(A0:List Nat)(w:b_)(b:Obj):grow A0 w (w.alloc b)=w.heap.size::A0:=by
 have:(w.alloc b).heap.size=w.heap.size+1:=by show(w.heap.push b).size=_;simp
 unfold grow;rw[this,aby];rfl
def rU(A0:List Nat)(w:b_)(c:Nat)(b:Array f_):grow A0 w (w.setRow c b)=A0:=by simp[grow]
def xy.alloc(b:Obj):xy C A0 w (w.alloc b) #[]:=by refine⟨rfl,rfl,rfl,by show w.heap.size<=(w.heap.push b).size;simp,λc d _=>?_,si⟩;show(w.heap.push b)[c]?=_;rw[aaU,Yo om]
def xy.setRow{c:Nat}(d:Array f_){e:Array Event}(g:c∈A0)(j:∀b∈e,JW C A0 b):xy C A0 w (w.setRow c d) e:=by refine⟨rfl,rfl,rfl,si,λh _ f=>abD w c h d λb=>f<|b▸g,by rw[rU];exact j⟩
def Rel.look{d:b_}(e:Rel C A0 w d){b:Nat}{c:Obj}(f:qu C b\/b∈A0)(g:w.heap[b]?=some c):d.heap[b]?=some c:=(e.keep b f).trans g
def xP{b:Nat}{c e:Obj}(d:w.heap[b]?=some c):(w.alloc e).heap[b]?=some c:=by have:b<w.heap.size:=(YU.1 d).1;show(w.heap.push e)[b]?=_;rw[aaU,Yo om];exact d
def pm{b:Obj}:(w.alloc b).heap[w.heap.size]?=some b:=by show(w.heap.push b)[w.heap.size]?=_;simp
def yX{b c:Nat}{d:Obj}{e:Array f_}(h:c≠b)(f:w.heap[b]?=some d):(w.setRow c e).heap[b]?=some d:=by rw[abD w c b e λg=>h g.symm];exact f
def oG{f:Nat}{d:Array f_}{g:d_}{h:Nat×Nat}(l:w.heap[f]?=some (.cells d g h))(e:Nat){cs:List f_}(j:∀b c,cs[b]?=some c->d[e+b]?=some c):w.rangeAt f e cs:=
 λb c k=>by simp only[World.cell?,l];exact j b c k
def rB(b:ops[i]?=some o)(c:Region.wanted o (yielded ops a.tmps)=true){cA:d_}(bs:o.op=.alloc cA){z:f_}(cj:∀w,(zeroValue cA).run P w=.ok z w)
 (M:∀aa,Rel C A0 w aa->mQ P C main fn ops rest n Q (a.put o.dst<|π aa.heap.size) (aa.heap.size::A0) (aa.alloc<|.cells z.cells cA)):mQ P C main fn ops (i::rest) (n+1) Q a A0 w:=by
 refine ot b c λaa h₁=>?_;exact Vb
def tF(f:ops[i]?=some o)(h:Region.wanted o (yielded ops a.tmps)=true){cA:d_}{c d:Operand}(bs:o.op=.store cA c d){b:Nat}{v:f_}(hx:a.eval c=π b)(ax:a.eval d=v)
 {cur:Array f_}{t:d_} (hb:b∈A0) (g:w.heap[b]?=some (.cells cur t)) (hs:cur.size=v.cells.size) (hi:(P.info? cA).map (·.size)=some v.cells.size) (h1:v.cells.all (·.oneCell')=true)
 (M:∀aa,Rel C A0 w aa->mQ P C main fn ops rest n Q (a.put o.dst undef) A0 (aa.setRow b v.cells)):mQ P C main fn ops (i::rest) (n+1) Q a A0 w:=by
 refine ot f h λaa h₁=>?_;have ec:=h₁.look (.inr hb) g
 cases eT:P.info? cA with
 |none=>simp[eT]at hi
 |some jF=>
 exact U8
def qP(P:e_)(C:Ch)(fn:Func)(e:f_->List Nat->b_->Prop):qf
 |.normal,a,A0,w|.ret,a,A0,w=>a.defers=[]/\∀b,Rel C A0 w b->∃c,(results fn a.tmps).run P b=.ok c b/\(∀d∈(results fn a.tmps).events P b #[],JW C A0 d)/\e c A0 b
 |_,_,_,_=>False
def l6(P:e_)(C:Ch)(main:Bool)(c:g_)(d:Array f_)(n:Nat)(A0:List Nat)(w:b_)(e:f_->List Nat->b_->Prop):Prop:=
 ∃fn b,P.funcs[c]?=some fn/\(fn.name== "runtime.NumGoroutine")=false/\fn.body=some b/\
  xG P C main c b n (qP P C fn e) {tmps:=d++Array.replicate (fn.ntmps-d.size) undef,defers:=[]} A0 w
def nZ{b c:Frame}{fn:Func}{todo:List Item}{cs:List Frame}{d:f_}(g:b.kind=.normal)(e:a.defers=[])(h:P.funcs[b.fn]?=some fn)(f:(results fn a.tmps).run P w=.ok d w):
 stepG P main (G {b.at a todo with mode:=.returning} (c::cs)) w=.go (G (c.finish d) cs) w (seen P b.fn<|(results fn a.tmps).events P w #[]):=by
 simp[G,stepG,unwind,doReturn,Frame.at,g,e,h,f,GStep.after]
def Gb.step{Stop:List Nat->c_->b_->Prop}{e:c_}(g:e.status=.running)(h:∀b,Rel C A0 w b->∃d c f,stepG P main e b=.go d c f/\d.status=.running/\xy C A0 b c f/\Gb P C main Stop n (grow A0 b c) d c):Gb P C main Stop (n+1) A0 e w:=.inr ⟨g,h⟩
theorem I3{f:g_}{args:Array Operand}{j:Array d_}{d:Nat}{gc:f_->List Nat->b_->Prop}(aO:ops[i]?=some o)(bh:Region.wanted o (yielded ops a.tmps)=true)(bs:o.op=.call {callee:=.value<|.func f,args,argTypes:=j})
 (r:l6 P C main f (args.map a.eval) d A0 w gc) (g3:∀v c w',gc v c w'->mQ P C main fn ops rest n Q (a.put o.dst v) c w'):mQ P C main fn ops (i::rest) (n+d+3) Q a A0 w:=by
 intro b k g4 Stop m hb hk hc;obtain⟨ge,g,hf,g2,eZ,h⟩:=r;refine U' ?_;intro dD fw
 have l:Gb P C main Stop (m+n+2+d) A0 (G ((base f).at {tmps:=args.map a.eval++Array.replicate (ge.ntmps-(args.map a.eval).size) undef,defers:=[]} [.code g]) (b.at a (.inRegion ops (i::rest)::k)::g4)) w:=by
  refine h (base f) [] _ Stop (m+n+2) rfl (by simp[base]) λe a' c w' q=>?_
  cases e with
  |normal=>exact Gb.ctl rfl rfl (λ_=>stepG_end) (fw a' c w' [] q)
  |ret=>exact λgd=>(fw a' c w' gd q).more
  |_=>exact q.elim
 have e:m+(n+d+3)=(m+n+2+d)+1:=om;rw[e];have g1:ge.body.isNone=false:=nY eZ;refine Gb.ctl rfl rfl (λaa=>?_) l;exact NM
def rD{e:Func}{c:Tmp}(f:e.results=#[.tmp c]){d:f_->List Nat->b_->Prop}(g:a.defers=[])(j:∀b,Rel C A0 w b->d (a.tmps.getD c undef) A0 b):qP P C e d .ret a A0 w:=
 ⟨g,λb h=>⟨_,abv f _ P b,by rw[events_results_tmp f];simp,j b h⟩⟩
end
section
variable {P:e_}{C:Ch}{main:Bool}{fn:g_}{a:Act}{A0:List Nat}{w:b_}
def DG(C:Ch)(A0:List Nat)(w b:b_)(c:Array Event):Prop:=xy C A0 w b c/\b.heap.size=w.heap.size
def MI(C:Ch)(A0:List Nat):Terms (Rel C A0) (DG C A0):=⟨λ_ _ _ c b=>c.trans b,λ_=>⟨.idle ..,rfl⟩⟩
def xy.draw:xy C A0 w {w with drawn:=w.drawn+1} #[]:=⟨rfl,rfl,rfl,YC _,λ_ _ _=>rfl,si⟩
def O'(C:Ch)(A0:List Nat)(w:b_):Rel C A0 w {w with drawn:=w.drawn+1}:=⟨rfl,rfl,rfl,YC _,λ_ _=>rfl⟩
def yY{Stop:List Nat->c_->b_->Prop}{g:Nat}:∀(d:Nat) (c:c_) (w:b_),Goes P main (Rel C A0) (DG C A0) (λc w=>c.status=.running/\Gb P C main Stop g A0 c w) d c w->c.status=.running/\Gb P C main Stop (g+d) A0 c w
 |0,c,w,b=>b w<|.refl ..
 |d+1,c,w,b=>by
  rcases b with b|⟨j,b⟩
  .exact⟨(b w<|.refl ..).1,(b w<|.refl ..).2.mono om⟩
  .refine⟨j,Gb.step j λe k=>?_⟩;have:=b e k
   revert this
   cases n:stepG P main c e with
   |go i f l=>
    rintro ⟨⟨d1,d2⟩,m⟩;have h:=yY d i f m;refine⟨i,f,l,rfl,h.1,d1,?_⟩;have:grow A0 e f=A0:=by simp[grow,d2]
    rw[this];exact h.2
   |_=>exact λb=>b.elim
def FX{h:Code}{f:Nat}{j:Exit->Act->b_->Prop}(r:h.wpC P main (Rel C A0) (DG C A0) fn f j a w):xG P C main fn h f (λc e v g=>v=A0/\j c e g) a A0 w:=by
 intro q p l Stop m u y n;refine(yY f _ _ ?_).2
 have:=r q p l (λk w=>k.status=.running/\Gb P C main Stop m A0 k w) 0 u y λc e g z=>by
  have d:=n c e A0 g ⟨rfl,z⟩
  cases c with
  |normal=>exact λi b=>⟨rfl,Gb.rel d b⟩
  |exit id=>let⟨x,o,t⟩:=d;exact⟨x,o,λi b=>⟨rfl,t.rel b⟩⟩
  |ret=>exact λs i b=>⟨rfl,(d s).rel b⟩
  |_=>exact d
 rw[YF]at this;exact this
def vT{k:g_}{j:Array f_}{i:Nat}{f:f_->b_->Prop}(s:CallsC P main (Rel C A0) (DG C A0) k j i w f):l6 P C main k j i A0 w λc l d=>l=A0/\∃h,Rel C A0 h d/\f c h:=by
 let⟨v,n,t,p,u,r⟩:=s;refine⟨v,n,t,p,u,MG (FX r) λm x l d b=>?_⟩;obtain⟨rfl,b⟩:=b
 cases m<;>first|exact b.elim|exact⟨b.1,λe o=>by
  let⟨c,g,q⟩:=b.2
  exact⟨c,(g e).1,by rw[(g e).2];simp,rfl,d,o,q⟩⟩
end
section
variable {C:Ch}{main:Bool}{A0:List Nat}
def qg{c:e_}{d:b_}{b:Array Event}{a g:d_}(e:a_)(f:c.underlying a=some .string):(Builtin.len_ #[a] g #[.string e]).events c d b=b:=by simp[Builtin.len_,Zm f d]
def nu{f:e_}{e:b_}{d:Array Event}{c:d_}{a:Nat}{b:a_}(h:f.underlying c=some .string)(i:a<b.size):(Instr.index c (.string b)<|ν a).events f e d=d:=by
 have g:b[a]?=some b[a]:=by simp[i]
 simp[Instr.index,asIntOf,Zm h e,g]
def FY{f:e_}{c:b_->b_->Prop}{d:b_->b_->Array Event->Prop}(w:Terms c d){o k:g_}{q:Exit->Act->b_->Prop}{a:Act}{i:b_}{b:Array Oper}{j p h:Nat}{rest:List Nat}{e:Oper}{args:Array Operand}{x:Array d_}{l:Array f_}{g:f_->b_->Prop}
 (r:b[j]?=some e) (s:Region.wanted e (yielded b a.tmps)=true) (v:e.op=.call {callee:=.value<|.func k,args,argTypes:=x}) (t:CallsC f main c d k l p i g) (y:args.map a.eval=l)
 (u:∀n m,g n m->OpsC f main c d o b rest h q (a.put e.dst n) m):OpsC f main c d o b (j::rest) (h+p+3) q a i:=opsC_call w r s v (y▸t) u
def n8{a c b:b_}(d:Rel C A0 a c)(e:Rel C A0 c b):Rel C A0 a b:=d.trans e
def TR(d c:Nat)(e:Act)(b:Nat):Prop:=∃a:Nat,∃o r l w f p g h j t u x q m i s n k v:f_,a<65536/\b<=8/\a=Pl.bsteps b (d^^^c)/\
 e=⟨#[.int .u16 a,.int .u8 c,o,r,l,w,f,p,g,h,ν b,j,t,u,x,q,m,i,s,n,k,v],[]⟩
def TR.mk{b a m k:Nat}{c q v n D e s g h d j x y E u o i w p l B:f_}(t:m<65536)(z:k<=8)(r:m=Pl.bsteps k (b^^^a))(A:c=.int .u16 m)(f:d=ν k):TR b a ⟨#[c,.int .u8 a,q,v,n,D,e,s,g,h,d,j,x,y,E,u,o,i,w,p,l,B],[]⟩ k:=by subst A f;exact⟨m,_,_,_,_,_,_,_,_,_,_,_,_,_,_,_,_,_,_,_,t,z,r,rfl⟩
def pi{a:Nat}(d:a<2^62):IntKind.i64.wrap ((a:Int)+1)=(a:Int)+1:=by have b:(2:Int)^IntKind.i64.bits=18446744073709551616:=rfl;have c:(2:Int)^(IntKind.i64.bits-1)=9223372036854775808:=rfl;simp only[IntKind.wrap,b,c,IntKind.signed,abd];split<;>simp_all<;>omega
def vU{a:Nat}(b:a<256):IntKind.u16.wrap (a:Int)=a:=by exact Re
def D2(C:Ch)(main:Bool):∃m,∀(A0:List Nat) (d e:Nat),d<65536->e<256->∀g:b_,CallsC prog main (Rel C A0) (DG C A0) 147 #[.int .u16 d,.int .u8 e] m g λu v=>u=.int .u16 (Pl.lT d e:Nat)/\Rel C A0 g v:=by
 co_apply Exists.intro;intro A0 d e r s l;have hF:Rel C A0 l l:=.refl ..;co_apply callsC_of_wpC func147 rf rfl;simp only[ntmps147,YJ,YA,YI,Nat.reduceAdd,Nat.reduceSub,Zu,Zt,ZK,Zz,YT,Y1];have b:=MI C A0
 co_go b n8 hF (co_quiet b)
 co_apply wpC_loop b (λi g=>(∃c,TR d e i c)/\Rel C A0 l g) (λi _=>8-(intOf<|i.tmps.getD 10 undef).toNat) _ 8
 .exact⟨⟨0,.mk (m:=d^^^e) (Z_ (n:=16) om om) om rfl (by rw[vU s,u16_xor_nat d e r om]) rfl⟩,hF⟩
 .simp[intOf]
 .rintro _ g ⟨⟨c,a,N,P,z,T,I,O,J,w,K,Q,R,F,B,L,x,D,M,y,S,n,E,q,rfl⟩,hF⟩;have o:Hid<|a=Pl.bsteps c (d^^^e):=q;clear q
  co_go b n8 hF (co_quiet b)
  co_split b (decide ((c:Int)<8))
  .intro k;have A:c<8:=by simp at k;omega
   have h:c<2^62:=om;have p:Hid (Pl.bsteps (c+1) (d^^^e)=if a%2=1 then(a/2)^^^40961 else a/2):=by show Pl.rZ (Pl.bsteps c<|d^^^e)=_;rw[<-o.o];rfl
   co_go b n8 hF (co_quiet b)
   co_split b (bits BinOp.and IntKind.u16 (a:Int) 1==1)
   .intro f;have j:Hid<|a%2=1:=by rw[S9 a n]at f;show a%2=1;simp at f;omega
    clear f
    co_go b n8 hF (co_quiet b)
    refine⟨⟨⟨c+1,.mk (m:=a/2^^^40961) (Z_ (n:=16) om om) om (by rw[p.o,Ys j.o]) (by rw[Vw a n]) (ur (by rw[pi h];omega))⟩,hF⟩,?_⟩;simp[intOf,pi h];omega
   .intro f
    have j:Hid<|¬a%2=1:=by
     rw[S9 a n]at f
     show¬a%2=1
     simp at f;omega
    clear f
    co_go b n8 hF (co_quiet b)
    refine⟨⟨⟨c+1,.mk (m:=a/2) om om (by rw[p.o,Yo j.o]) (ur om) (ur (by rw[pi h];omega))⟩,hF⟩,?_⟩;simp[intOf,pi h];omega
  .intro k;have t:Hid<|c=8:=by show c=8;simp at k;omega
   co_go b n8 hF (co_quiet b)
   refine⟨rfl,_,resultsC_tmp rf _,?_,hF⟩;show Value.int .u16 (a:Nat)=_;rw[o.o,t.o];rfl
def TS(a:a_)(d:Act):Prop:=∃c b:Nat,∃o j i p e f k g m n q l h:f_,b<65536/\c<=a.size/\b=Pl.wb (a.data.toList.take c)/\
 d=⟨#[.string a,o,j,.int .u16 b,i,p,ν a.size,ν c,e,f,k,g,m,n,q,l,h],[]⟩
def TS.mk{a:a_}{m k:Nat}{u j c i v b e f o g q r w p h:f_}(n:m<65536)(s:k<=a.size)(l:m=Pl.wb (a.data.toList.take k))(t:c=.int .u16 m)(d:b=ν k):TS a ⟨#[.string a,u,j,c,i,v,ν a.size,b,e,f,o,g,q,r,w,p,h],[]⟩:=by subst t d;exact⟨k,m,_,_,_,_,_,_,_,_,_,_,_,_,_,n,s,l,rfl⟩
def Pa(C:Ch)(main:Bool)(i:Nat)(I:i<2^62):∃t,∀(A0:List Nat) (a:a_),a.size<=i->∀e:b_,CallsC prog main (Rel C A0) (DG C A0) 118 #[.string a] t e λp q=>p=.int .u16 (Pl.wb a.data.toList:Nat)/\Rel C A0 e q:=by
 obtain⟨M,u⟩:=D2 C main;co_apply Exists.intro;intro A0 a Q h;have y:a.size<=2^63-1:=om;have hF:Rel C A0 h h:=.refl ..;co_apply callsC_of_wpC func118 rf rfl;simp only[ntmps118,YJ,YA,YI,Nat.reduceAdd,Nat.reduceSub,Zu,Zt,ZK,Zz,YT,Y1];have c:=MI C A0
 co_go c n8 hF ((rw[listed_nil<|by simp[go_sem,qg, *]];exact Terms.idle c _))
 co_apply wpC_loop c (λg e=>TS a g/\Rel C A0 h e) (λg _=>a.size-(intOf<|g.tmps.getD 7 undef).toNat) _ i
 .exact⟨⟨0,65535,_,_,_,_,_,_,_,_,_,_,_,_,_,om,om,rfl,rfl⟩,hF⟩
 .simp[intOf];omega
 .rintro _ e ⟨⟨b,d,P,L,z,R,F,x,A,J,N,O,E,B,K,n,D,m,rfl⟩,hF⟩;have l:Hid<|d=Pl.wb (a.data.toList.take b):=m;clear m
  co_go c n8 hF (co_quiet c)
  co_split c (decide ((b:Int)<a.size))
  .intro f;have r:b<a.size:=by simp at f;omega
   have v:Hid<|Pl.wb (a.data.toList.take<|b+1)=Pl.lT d a[b].toNat:=by show _=_;rw[Pl.uo a b r,l.o]
   have o:a[b].toNat<256:=a[b].toNat_lt;have s:Hid<|Pl.lT d a[b].toNat<65536:=Pl.p2 d _ n o;clear f
   co_go c n8 hF ((rw[listed_nil<|by simp[go_sem,nu, *]];exact Terms.idle c _))
   co_apply FY c rfl rf rfl (u A0 d a[b].toNat n o _) (by walk_nrm);rintro p q ⟨rfl,j⟩;replace hF:=hF.trans j;clear j;walk_nrm
   co_go c n8 hF (co_quiet c)
   have k:b<2^62:=om;refine⟨⟨.mk (k:=b+1) (m:=Pl.lT d a[b].toNat) s.o om v.o.symm rfl (ur (by rw[pi k];omega)),hF⟩,?_⟩;simp[intOf,pi k];omega
  .intro f;have w:Hid<|b=a.size:=by show b=a.size;simp at f;omega
   co_go c n8 hF (co_quiet c)
   refine⟨rfl,_,resultsC_tmp rf _,?_,hF⟩;show Value.int .u16 (d:Nat)=_;rw[l.o,w.o,Zf si]
end
structure Sits(C:Ch)(m:List Nat)(w:b_):Prop where
 base:C.base<=w.heap.size
 mine:∀b∈m,b<w.heap.size
structure lz(C:Ch)(m₀:List Nat)(w₀:b_)(m:List Nat)(w:b_):Prop where
 rel:Rel C m₀ w₀ w
 sub:∀b∈m₀,b∈m
 o0:Sits C m w
 D3:Sits C m₀ w₀
section
variable {C:Ch}{m₀ m m':List Nat}{w₀ w w' w₁:b_}
def Sits.rel(c:Sits C m w)(b:Rel C m w w₁):Sits C m w₁:=⟨YH c.base b.size,λe d=>Yy (c.mine e d) b.size⟩
def lz.refl(b:Sits C m w):lz C m w m w:=⟨.refl ..,λ_ b=>b,b,b⟩
def Rel.less(b:Rel C m w w₁)(e:∀c∈m₀,c∈m):Rel C m₀ w w₁:=⟨b.tape,b.os,b.output,b.size,λc d=>b.keep c<|d.imp id<|e c⟩
def lz.step(b:lz C m₀ w₀ m w)(c:Rel C m w w₁):lz C m₀ w₀ m w₁:=⟨b.rel.trans<|c.less b.sub,b.sub,b.o0.rel c,b.D3⟩
def lz.trans(b:lz C m₀ w₀ m w)(c:lz C m w m' w'):lz C m₀ w₀ m' w':=⟨b.rel.trans<|c.rel.less b.sub,λd e=>c.sub d<|b.sub d e,c.o0,b.D3⟩
def FZ(b:Obj):(w.alloc b).heap.size=w.heap.size+1:=by show(w.heap.push b).size=_;simp
def lz.alloc(d:lz C m₀ w₀ m w)(e:Obj):lz C m₀ w₀ (w.heap.size::m) (w.alloc e):=by
 have f:=FZ (w:=w) e;refine⟨d.rel.trans ⟨rfl,rfl,rfl,om,λc b=>?_⟩,λc b=>Y8 _ (d.sub c b),⟨by have:=d.o0.base;omega,λc b=>?_⟩,d.D3⟩
 .have:c<w.heap.size:=by
   rcases b with b|b
   .exact Yy b.1 d.o0.base
   .exact d.o0.mine c<|d.sub c b
  show(w.heap.push e)[c]?=_;rw[aaU,Yo om]
 .rcases Y7.1 b with rfl|b
  .omega
  .have:=d.o0.mine c b;omega
def NC(C:Ch)(m₀:List Nat)(b:Nat):Prop:=b∉m₀/\¬qu C b
def lz.new(c:lz C m₀ w₀ m w):NC C m₀ w.heap.size:=⟨λb=>aaZ _ (c.o0.mine _ (c.sub _ b)),λb=>by have:=b.1;have:=c.o0.base;omega⟩
def lz.xl(c:lz C m₀ w₀ m w){d:Nat}(e:NC C m₀ d)(h:w'.tape=w.tape)(l:w'.os=w.os)(q:w'.output=w.output)(f:w'.heap.size=w.heap.size)(p:∀b,b≠d->w'.heap[b]?=w.heap[b]?):lz C m₀ w₀ m w':=
 ⟨c.rel.trans ⟨h,l,q,om,λb j=>p b λg=>by subst g;exact j.elim e.2 e.1⟩,c.sub,⟨by rw[f];exact c.o0.base,λd k=>by rw[f];exact c.o0.mine d k⟩,c.D3⟩
def lz.row(f:lz C m₀ w₀ m w){b:Nat}(d:NC C m₀ b)(c:Array f_):lz C m₀ w₀ m (w.setRow b c):=
 f.xl d rfl rfl rfl si λg e=>abD w b g c e
def uQ(w:b_)(a:Addr)(n b:Nat)(c:b≠a.block):(w.freeze a n).heap[b]?=w.heap[b]?:=by
 unfold World.freeze;split
 .rfl
 .simp[aaM,c.symm]
def wJ(w:b_)(a:Addr)(n:Nat):(w.freeze a n).heap.size=w.heap.size/\(w.freeze a n).tape=w.tape/\(w.freeze a n).os=w.os/\(w.freeze a n).output=w.output:=by unfold World.freeze;split<;>simp
def lz.freeze(c:lz C m₀ w₀ m w){b:Nat}(e:NC C m₀ b)(n:Nat):lz C m₀ w₀ m (w.freeze (μ b 0) n):=by let⟨d,g,k,h⟩:=wJ w (μ b 0) n;exact c.xl e g k h d λf j=>uQ w _ n f j
end
section
variable {P:e_}{C:Ch}{main:Bool}{fn:g_}{Q:qf}{a:Act}{mine:List Nat}{w:b_}{A0:Array Oper}{i:Nat}{rest:List Nat}{o:Oper}{n:Nat}
def Pb(c b:d_)(i:TypeInfo)(p:f_)(j:P.underlying c=some (.slice b))(e:P.info? b=some i)(k:i.zero=some p)(n:Nat)(q:n*i.bytes<=roomBytes)(s:n<=9223372036854775807):
 (Instr.makeSlice c (ν n)<|ν n).events P w #[]=#[]:=by
 have f:IntKind.i64.wrap n=n:=wo;have d:¬(n:Int)<0:=om;have r:i.bytes*n<=281474976710656:=by rw[aa_];unfold roomBytes at q;omega
 have g:¬(281474976710656<(i.bytes:Int)*n):=by have:((i.bytes*n:Nat):Int)<=281474976710656:=om;rw[abJ]at this;omega
 have h:¬(n*i.bytes>roomBytes):=om;by_cases l:n*i.size=0
 .simp[Instr.makeSlice,Zm j,asInt,asIntOf,typeInfo,e,sizeOf,f,d,g,l,newRow,askRoom,h]
 .simp[Instr.makeSlice,Zm j,asInt,asIntOf,typeInfo,e,sizeOf,zeroValue,k,f,d,g,newRow,askRoom,h]
def I4(v:A0[i]?=some o)(x:Region.wanted o (yielded A0 a.tmps)=true){e c:d_}{q r:Operand}(l:o.op=.makeSlice e q r){b:TypeInfo}{d:f_}(s:P.underlying e=some (.slice c))(j:P.info? c=some b)(g:b.zero=some d)
 {N:Nat} (k:a.eval q=ν N) (h:a.eval r=ν N) (p:N*b.bytes<=roomBytes) (A:N<=9223372036854775807)
 (y:∀w₁,Rel C mine w w₁->mQ P C main fn A0 rest n Q (a.put o.dst<|ω w₁.heap.size N N) (w₁.heap.size::mine) (w₁.alloc<|.cells (madeCells d.cells<|N*b.size) c)):mQ P C main fn A0 (i::rest) (n+1) Q a mine w:=by
 refine ot v x λw₁ u=>?_;have B:b.bytes*N<=281474976710656:=by rw[aa_];unfold roomBytes at p;omega
 have f:=run_make w₁ e c b d s j g .i64 .i64 (N:Int) (N:Int) om om (by
  have:((b.bytes*N:Nat):Int)<=281474976710656:=om
  rwa[abJ]at this) om
 simp only[Int.toNat_natCast]at f;have t:(execOp a.eval o).run P w₁=.ok (.value<|ω w₁.heap.size N N) (w₁.alloc<|.cells (madeCells d.cells<|N*b.size) c):=by unfold execOp;simp only[l,k,h,Zp,f,Za,ZE]
 have z:(execOp a.eval o).events P w₁ #[]=#[]:=by unfold execOp;simp only[l,k,h,ZG,f,ZH,Z7,Pb e c b d s j g N p A]
 rw[t];exact⟨by rw[listed_nil z];exact .alloc _,by rw[tG];exact y w₁ u⟩
def MJ(p s u e:d_)(d:Nat)(c:a_)(f:Array f_)(k:d_)(t:P.underlying p=some (.slice e))(z:(P.info? e).map (·.size)=some 1)(v:w.heap[d]?=some (.cells f k))(A:f.size=c.size):
 ∀j∈(Builtin.copy_ #[p,s] u #[ω d c.size c.size,.string c]).events P w #[],∃q,j.loc=.cell q/\q.block=d:=by
 intro j h;have x:(Lib.byteCells c.data.toList).length=c.size:=by rw[Z2,<-Z']
 have r:Nat.min c.size c.size=c.size:=Nat.min_self _;have y:List.take c.size (List.map (λb:UInt8=>Value.int IntKind.u8 (b.toNat:Int)) c.data.toList)=Lib.byteCells c.data.toList:=by rw[Zf (by rw[Zx,<-Z'];exact YC _)];rfl
 cases l:P.info? e with
 |none=>simp[l]at z
 |some i=>
  simp[Builtin.copy_,Zm t,Builtin.lenOf,Builtin.firstCells,sizeOf,typeInfo,l,r]at h;rw[y]at h;rcases events_storeCells_at d 0 k (Lib.byteCells c.data.toList) 0 f w _ v (p1 x) (Lib.byteCells_one _) j h with g|g
  .simp at g
  .exact g
def F0(x:A0[i]?=some o)(D:Region.wanted o (yielded A0 a.tmps)=true){d e c h:d_}{q u:Operand}(bs:o.op=.call {callee:=.builtin .copy,args:=#[q,u],argTypes:=#[d,e]})(r:P.underlying d=some (.slice c))(v:(P.info? c).map (·.size)=some 1)
 {g:Nat}{s:a_}{b:Array f_} (hx:a.eval q=ω g s.size s.size) (ax:a.eval u=.string s) (f:g∈mine) (B:w.heap[g]?=some (.cells b h)) (t:b.size=s.size)
 (M:∀w₁,Rel C mine w w₁->mQ P C main fn A0 rest n Q (a.put o.dst<|goInt s.size) mine (w₁.setRow g (Lib.byteCells s.data.toList).toArray)):mQ P C main fn A0 (i::rest) (n+1) Q a mine w:=by
 refine ot x D λw₁ k=>?_;have l:=k.look (.inr f) B;have gf:=Lib.run_copy_row_string (P:=P) w₁ d e o.type c g 0 s.size s.size s b h r v l kM om;have z:b.toList.drop (0+s.size)=[]:=aa6 (by simp[t]);rw[z,abQ,YT,Zy]at gf;have A:(execOp a.eval o).run P w₁=.ok (.value<|goInt s.size) (w₁.setRow g (Lib.byteCells s.data.toList).toArray):=by exact Q3
 rw[A];refine⟨.setRow _ f λI F=>?_,by rw[rU];exact M w₁ k⟩;have j:=mem_listed F;unfold execOp at j;simp only[bs,resolve,invoke,builtin,ZG,ZE,Z7,ZH,aaF,ZW,aas,hx,ax,gf]at j;have K:(Lib.byteCells s.data.toList).length=s.size:=by rw[Z2,<-Z']
 rcases MJ d e o.type c g s b h r v l t I j with⟨J,y,E⟩;exact sM f y E
def uR:∀(g:List UInt8) (a:Addr) (h:a_) (e:Array Event),(∀f c,g[f]?=some c->w.cell? (a.add f)=some (.int .u8 c.toNat))->∀d∈(loadBytes a h g.length).events P w e,d∈e\/d.readsIn (· =a.block)
 |[],a,h,e,_=>λd b=>.inl<|by simpa[loadBytes]using b
 |c::g,a,h,e,j=>λd b=>by
  have k:w.cell? a=some (.int .u8 c.toNat):=by have:=j 0 c rfl;rwa[show a.add 0=a by unfold Addr.add;split<;>simp_all]at this
  have l:(load a).run P w=.ok (.int .u8 c.toNat) w:=by simp[k]
  simp only[YA,loadBytes,ZG,l,ZH]at b
  rcases uR g (a.add 1) _ _ (λf s q=>by
   have:=j (f+1) s (by simpa using q);rw[<-this];congr 1;unfold Addr.add
   split<;>simp_all<;>omega) d b with b|b
  .rcases events_load_at w a _ e k d b with b|⟨p,r⟩
   .exact .inl b
   .exact .inr ⟨_,p,r,rfl⟩
  .rw[addBlock]at b;exact .inr b
def I5(e q t d:d_)(A:P.underlying e=some (.pointer d))(l:P.cellsOf d=1)(c j:Nat)(J:w.shape? c=some (d,j))(b:List UInt8)(K:b≠[])(z:b.length<=j)(M:b.length<=9223372036854775807)
 (k:∀p v,b[p]?=some v->w.cell? (((μ c 0):Addr).add p)=some (.int .u8 v.toNat)):∀h∈(Builtin.unsafeString_ #[e,q] t #[π c,ν b.length]).events P w #[],h.readsIn (· =c):=by
 intro h g;have B:b.length≠0:=by simpa using K
 have y:=Lib.run_loadBytes (P:=P) w b (μ c 0) .empty k;have I:=Lib.liesAt_bytes (P:=P) l (j/P.cellsOf d) b.length (by rw[l];simpa using z);have L:¬(9223372036854775807:Int)<(b.length:Int):=om
 obtain⟨x,r,u,F⟩:∃x r u:String,Builtin.unsafeString_ #[e,q] t #[π c,ν b.length]=
  (do
   let n<-asInt (ν b.length)
   if n<0 then runtimePanic (.error x)
   if n>IntKind.i64.max then unsupported (.unsafePointer r)
   if n=0 then pure (.string .empty)
   else if<-variablesAt (μ c 0) (<-elemOf e) n.toNat then do
    let s<-loadBytes (μ c 0) .empty n.toNat
    freeze (μ c 0) n.toNat
    pure (.string s)
   else unsupported (.unsafePointer u)):=⟨_,_,_,rfl⟩
 rw[F]at g;have D:IntKind.i64.max=9223372036854775807:=rfl;have E:¬(b.length:Int)<0:=om;simp[asInt,asIntOf,D,L,E,B,variablesAt,J,elemOf,Zm A,I,y]at g;rcases uR b (μ c 0) .empty #[] k h g with f|f
 .simp at f
 .exact f
def D4(D:A0[i]?=some o)(K:Region.wanted o (yielded A0 a.tmps)=true){c d b:d_}{x z:Operand}(bs:o.op=.call {callee:=.builtin .unsafeString,args:=#[x,z],argTypes:=#[c,d]})(q:P.underlying c=some (.pointer b))(r:P.cellsOf b=1)
 {g:Nat}{s:a_} (hx:a.eval x=π g) (ax:a.eval z=ν s.size) (e:g∈mine) (J:w.heap[g]?=some (.cells (Lib.byteCells s.data.toList).toArray b (0,0))) (E:s.size≠0) (S:s.size<=9223372036854775807)
 (M:∀w₁,Rel C mine w w₁->mQ P C main fn A0 rest n Q (a.put o.dst<|.string s) mine (w₁.freeze (μ g 0) s.size)):mQ P C main fn A0 (i::rest) (n+1) Q a mine w:=by
 refine ot D K λw₁ l=>?_;have t:=l.look (.inr e) J;have y:=(Z' s).symm;have u:s.data.toList≠[]:=λb=>E (by rw[Z',b];rfl);have B:w₁.shape? g=some (b,s.size):=by unfold World.shape?;rw[t];simp[Z2,y]
 have k:∀f j,s.data.toList[f]?=some j->w₁.cell? (((μ g 0):Addr).add f)=some (.int .u8 j.toNat):=λf j I=>by rw[aaX];simp only[World.cell?,t,YF];simp[Lib.byteCells,I]
 have gf:=Lib.run_unsafeString_row w₁ c d o.type b q r g s.size B s.data.toList u om om k;have v:=I5 c d o.type b q r g s.size B s.data.toList u om om k;rw[y]at gf v;have F:(execOp a.eval o).run P w₁=.ok (.value<|.string s) (w₁.freeze (μ g 0) s.size):=by exact Q3
 rw[F];let⟨f1,f2,f3,f4⟩:=wJ w₁ (μ g 0) s.size;have A:grow mine w₁ (w₁.freeze (μ g 0) s.size)=mine:=by simp[grow,f1]
 refine⟨⟨f2,f3,f4,om,λR _ N=>uQ _ _ _ _ λb=>N<|b▸e,λO L=>?_⟩,by rw[A];exact M w₁ l⟩;rw[A];have h:=mem_listed L;unfold execOp at h;simp only[bs,resolve,invoke,builtin,ZG,ZE,Z7,ZH,aaF,ZW,aas,hx,ax,gf]at h;exact xR (.inr e) (v O h)
def ox{d:g_}{b:Func}{c:Code}{e:Array f_}{f:f_->List Nat->b_->Prop}(k:P.funcs[d]?=some b)(j:(b.name== "runtime.NumGoroutine")=false)(g:b.body=some c)
 (h:xG P C main d c n (qP P C b f) {tmps:=e++Array.replicate (b.ntmps-e.size) undef,defers:=[]} mine w):l6 P C main d e n mine w f:=⟨b,c,k,j,g,h⟩
def ua{c:g_}{args:Array Operand}{h:Array d_}{f:Nat}{d:Array f_}{b:f_->List Nat->b_->Prop}(g:A0[i]?=some o)(k:Region.wanted o (yielded A0 a.tmps)=true)(q:o.op=.call {callee:=.value<|.func c,args,argTypes:=h})
 (l:l6 P C main c d f mine w b) (j:args.map a.eval=d) (p:∀e m' w',b e m' w'->mQ P C main fn A0 rest n Q (a.put o.dst e) m' w'):mQ P C main fn A0 (i::rest) (n+f+3) Q a mine w:=I3 g k q (j▸l) p
end
section
variable {P:e_}{C:Ch}{main:Bool}{fn:g_}{ops:Array Oper}{Q:qf}{md:Region.Mode}{nf:Nat}
def l6.rel{e:g_}{g:Array f_}{f:Nat}{a:List Nat}{c b:b_}{d:f_->List Nat->b_->Prop}(n:l6 P C main e g f a c d)(i:Rel C a c b):l6 P C main e g f a b d:=by let⟨m,h,o,k,j,l⟩:=n;exact⟨m,h,o,k,j,lD l i⟩
def Enters(P:e_)(c:Oper)(b:Act)(d:g_)(e:Array f_):Prop:=∀a,(execOp b.eval c).run P a=.ok (.enter d e) a/\(execOp b.eval c).events P a #[]=#[]
theorem F1{a:Act}{h rest:List Nat}{g:b_}{i n:Nat}{o:Oper}{f:g_}{d:Array f_}{gc:f_->List Nat->b_->Prop}(aO:ops[i]?=some o)(s:Region.wanted o (yielded ops a.tmps)=true)(he:Enters P o a f d)
 (t:l6 P C main f d nf h g gc) (g3:∀v c w',gc v c w'->mQ P C main fn ops rest n Q (a.put o.dst v) c w'):mQ P C main fn ops (i::rest) (n+nf+3) Q a h g:=by
 intro b k g4 Stop m hb hk hc;obtain⟨ge,j,hf,w,u,l⟩:=t;refine U' ?_;intro dD fw
 have r:Gb P C main Stop (m+n+2+nf) h (G ((base f).at {tmps:=d++Array.replicate (ge.ntmps-d.size) undef,defers:=[]} [.code j]) (b.at a (.inRegion ops (i::rest)::k)::g4)) g:=by
  refine l (base f) [] _ Stop (m+n+2) rfl (by simp[base]) λe a' c w' q=>?_
  cases e with
  |normal=>exact Gb.ctl rfl rfl (λ_=>stepG_end) (fw a' c w' [] q)
  |ret=>exact λgd=>(fw a' c w' gd q).more
  |_=>exact q.elim
 have e:m+(n+nf+3)=(m+n+2+nf)+1:=om;rw[e];refine Gb.ctl rfl rfl (λaa=>?_) r;rw[stepG_enter aO s hk (he aa).1,enter_at _ hf u,listed_nil (he aa).2]
def OpB(P:e_)(C:Ch)(main:Bool)(fn:g_)(ops:Array Oper)(nf n:Nat)(f:Act->List Nat->b_->Prop)(a:Act)(e:List Nat)(g:b_):Prop:=
 match ops[n]? with
 |none=>False
 |some b=>if Region.wanted b (yielded ops a.tmps)then
  (∀d,Rel C e g d->uponK b a (λm c=>xy C e d c (listed P fn a b d)/\f m (grow e d c) c) ((execOp a.eval b).run P d))\/
  (∃i j h,Enters P b a i j/\l6 P C main i j nf e g h/\∀l k c,h l k c->f (a.put b.dst l) k c)
  else f (a.put b.dst undef) e g
def D5{e:Oper}{a:Act}{g d:Act->b_->Prop}(i:∀a f,g a f->d a f){c:Result Next}(b:uponK e a g c):uponK e a d c:=by
 cases c with
 |ok j h=>cases j<;>first|exact i _ _ b|exact b
 |halt k h=>exact b
def OpB.mono{j:Nat}{b:Act}{i:List Nat}{c:b_}{h f:Act->List Nat->b_->Prop}(e:∀b g c,h b g c->f b g c)(a:OpB P C main fn ops nf j h b i c):OpB P C main fn ops nf j f b i c:=by
 unfold OpB at*;split
 .simp_all
 .rename_i z p;simp only[p]at a;split
  .rename_i d;simp only[d,Y_]at a;rcases a with a|⟨t,u,q,o,v,x⟩
   .exact .inl λm n=>D5 (λy l k=>⟨k.1,e _ _ _ k.2⟩)<|a m n
   .exact .inr ⟨t,u,q,o,v,λw s l r=>e _ _ _ (x w s l r)⟩
  .rename_i d;simp only[d]at a;exact e _ _ _ a
def D6{h e:Nat}{rest g:List Nat}{d:Act}{f:b_}(a:OpB P C main fn ops nf h (λa' m' w'=>mQ P C main fn ops rest e Q a' m' w') d g f):mQ P C main fn ops (h::rest) (e+(nf+3)) Q d g f:=by
 unfold OpB at a;split at a
 .exact a.elim
 .rename_i m c;split at a
  .rename_i b;rcases a with a|⟨n,o,l,i,j,k⟩
   .exact pg (ot c b a) om
   .exact pg (F1 c b i j k) om
  .rename_i b;exact pg (qh c (by simpa using b) a) om
def lK(P:e_)(ops:Array Oper)(b:Oper)(d:f_)(a:Act):Prop:=
 (Region.wanted b (yielded ops a.tmps)=true/\∀c,(execOp a.eval b).run P c=.ok (.value d) c/\(execOp a.eval b).events P c #[]=#[])\/(Region.wanted b (yielded ops a.tmps)=false/\d=undef)
def lK.of_same{a:Oper}{d:f_}{b c:Act}(f:lK P ops a d b)(g:execOp c.eval a=execOp b.eval a)(e:Region.wanted a (yielded ops c.tmps)=Region.wanted a (yielded ops b.tmps)):lK P ops a d c:=by unfold lK at*;rw[g,e];exact f
def rE(P:e_)(C:Ch)(main:Bool)(fn:g_)(md:Region.Mode)(ops:Array Oper)(nf:Nat)(Q:qf):Nat->Array Bool->Act->List Nat->b_->Prop
 |0,a,b,d,c=>Region.ready md ops a=[]/\Q .normal b d c
 |g+1,a,b,d,c=>
  (Region.ready md ops a=[]->Q .normal b d c)/\
  ∀e∈Region.ready md ops a,OpB P C main fn ops nf e (λf h i=>rE P C main fn md ops nf Q g (a.setIfInBounds e true) f h i) b d c
def rE.rel(j:∀a g l m,Q .normal a g l->Rel C g l m->Q .normal a g m):∀(e:Nat) (i:Array Bool) (a:Act) (d:List Nat) (k f:b_),rE P C main fn md ops nf Q e i a d k->Rel C d k f->rE P C main fn md ops nf Q e i a d f
 |0,_,_,_,_,_,c,b=>⟨c.1,j _ _ _ _ c.2 b⟩
 |e+1,i,a,d,k,f,c,b=>⟨λn=>j _ _ _ _ (c.1 n) b,λt s=>by
  have:=c.2 t s;unfold OpB at*;split
  .simp_all
  .rename_i z q;simp only[q]at this;split
   .rename_i h;simp only[h,Y_]at this;rcases this with this|⟨u,v,r,p,w,y⟩
    .exact .inl λx o=>this x (b.trans o)
    .exact .inr ⟨u,v,r,p,w.rel b,y⟩
   .rename_i h;simp only[h]at this;exact rE.rel j e _ _ _ _ _ this b⟩
def F2:∀(a t:Nat) (aE:Array Bool) (b:Act) (d:List Nat) (c:b_),rE P C main fn md ops nf Q a aE b d c->mQ P C main fn ops (Region.linearise.go md ops a t aE []) (a*(nf+3)+1) Q b d c:=by
 intro a
 induction a with
 |zero=>intro t aE b d c M;exact pg (by simpa[Region.linearise.go]using nX M.2) om
 |succ a i=>
  intro t aE b d c M;let⟨h,f⟩:=M;simp only[Region.linearise.go]
  change mQ P C main fn ops (match (Region.ready md ops aE)[t%(Region.ready md ops aE).length]? with
   |some e=>Region.linearise.go md ops a (t/(Region.ready md ops aE).length) (aE.setIfInBounds e true) [e]
   |none=>[].reverse) ((a+1)*(nf+3)+1) Q b d c
  cases hi:(Region.ready md ops aE)[t%(Region.ready md ops aE).length]? with
  |none=>refine QC ?_;intro g5;exact pg (by simpa using nX (h g5)) om
  |some e=>simp only[];rw[linearise_go_acc,List.reverse_singleton,abH];have:=D6<|OpB.mono (λg j l x=>i (t/(Region.ready md ops aE).length) _ g j l x)<|f e<|ZQ hi;apply pg this;rw[aa9];omega
def lK.XY{k:Nat}{e:Oper}{n:f_}{a:Act}{i:List Nat}{j:b_}(q:ops[k]?=some e)(p:lK P ops e n a){b:Act->List Nat->b_->Prop}(r:∀a c l m,b a c l->Rel C c l m->b a c m)(h:b (a.put e.dst n) i j):OpB P C main fn ops nf k b a i j:=by
 unfold OpB;simp only[q];rcases p with⟨d,g⟩|⟨d,rfl⟩
 .simp only[d,Y_];refine .inl λf o=>?_;rw[(g f).1];exact⟨by rw[listed_nil (g f).2];exact .idle ..,by rw[m8];exact r _ _ _ _ h o⟩
 .simp only[d,YY,Y5];exact h
def I6{d:Nat}{aY a4:Oper}{v:f_}(x:ops[d]?=some a4)(cI:aY.apart ops a4=true)(jG:∀c e,aY.op≠.select c e)(i:∀c e,a4.op≠.select c e){g:Act->List Nat->b_->Prop}{a:Act}{n:List Nat}{m:b_}
 (ax:lK P ops aY v a) (M:OpB P C main fn ops nf d g (a.put aY.dst v) n m):OpB P C main fn ops nf d (λh f b=>lK P ops aY v h/\g (h.put aY.dst v) f b) a n m:=by
 refine QA ?_;intro h1 h2 h3 ex;unfold OpB at*;simp only[x]at*;rw[wanted_put a4 a aY.dst v h1]at M;split
 .rename_i bh;simp only[bh,Y_]at M;rcases M with M|⟨t,A,y,j,s,w⟩
  .refine .inl λl o=>?_;have M:=M l o;unfold listed at*;rw[ab2 a4 i a aY.dst v h1]at M
   generalize (execOp a.eval a4).run P l=r at*
   cases r with
   |ok z b=>
    cases z<;>simp only[uponK]at M⊢
    case value u=>exact⟨M.1,ex a ax u,by rw[<-aa' a v u h2];exact M.2⟩
    case skip=>exact⟨M.1,ex a ax _,by rw[<-aa' a v undef h2];exact M.2⟩
   |halt B b=>simp only[uponK]at M
  .refine .inr ⟨t,A,y,?_,s,λu f b p=>⟨ex a ax u,by rw[<-aa' a v u h2];exact w u f b p⟩⟩;unfold Enters at*;rw[ab2 a4 i a aY.dst v h1]at j;exact j
 .exact RB
theorem F3(A:∀a c f g,Q .normal a c f->Rel C c f g->Q .normal a c g){i:Nat}{aY:Oper}{w:f_}(r:ops[i]?=some aY)(u:∀(j:Nat) (v:Oper) h l,ops[j]?=some v->v.op≠.select h l):
 ∀(b:Nat) (aE:Array Bool) (a:Act) (o:List Nat) (n:b_),
  (∀j a4,ops[j]?=some a4->j≠i->aE.getD j true=false->(∀e∈a4.after,Region.binds md e=true->e.on≠i)->aY.apart ops a4=true)->
  i∈Region.ready md ops aE->lK P ops aY w a->
  rE P C main fn md ops nf Q b (aE.setIfInBounds i true) (a.put aY.dst w) o n->rE P C main fn md ops nf Q (b+1) aE a o n:=by
 have s:∀b aE,∀a c f g,rE P C main fn md ops nf Q b aE a c f->Rel C c f g->rE P C main fn md ops nf Q b aE a c g:=λb aE a c f g M B=>rE.rel A b aE a c f g M B;intro b
 induction b with
 |zero=>
  intro aE a o n _ hr m H;refine⟨λM=>(by rw[M]at hr;cases hr),λj hj=>?_⟩;by_cases d:j=i
  .subst d;exact m.XY r (s _ _) H
  .have:=abL hj d;rw[H.1]at this;cases this
 |succ b z=>
  intro aE a o n iy hr m H;refine⟨λM=>(by rw[M]at hr;cases hr),λj hj=>?_⟩;by_cases d:j=i
  .subst d;exact m.XY r (s _ _) H
  .have h1:=H.2 j<|abL hj d;refine Vn ?_;intro gg a4 ey iz g7;have y:=I6 ey (iy j a4 ey d gg g7) (λh l=>u i aY h l r) (λh l=>u j a4 h l ey) m h1;refine Vo ?_;intro g6;refine OpB.mono (λx D E t=>z (aE.setIfInBounds j true) x D E g6 (abL hr<|Ne.symm d) t.1 ?_) y;rw[Array.setIfInBounds_comm _ _ d];exact t.2
def kX(q:∀a c j k,Q .normal a c j->Rel C c j k->Q .normal a c k){i g:Nat}{d:Oper}{l:f_}{b:Array Bool}{a:Act}{f:List Nat}{e:b_}(h:ops[i]?=some d)
 (r:Region.noSelect ops=true) (p:Region.free md ops b i=true) (m:(Region.ready md ops b).contains i=true) (n:lK P ops d l a) (o:rE P C main fn md ops nf Q g (b.setIfInBounds i true) (a.put d.dst l) f e):rE P C main fn md ops nf Q (g+1) b a f e:=
 F3 q h (Region.noSelect_spec r) g b a f e (Region.free_spec h p) (by simpa using m) n o
def D7{i f:Nat}{a:Array Bool}{c:Act}{e:List Nat}{d:b_}(b:Region.ready md ops a=[i])(j:OpB P C main fn ops nf i (λa' m' w'=>rE P C main fn md ops nf Q f (a.setIfInBounds i true) a' m' w') c e d):rE P C main fn md ops nf Q (f+1) a c e d:=
 ⟨λh=>absurd (b▸h) si,b▸λk g=>by obtain rfl:=Y'.1 g;exact j⟩
def AH{g:Array Bool}{b:Act}{d:List Nat}{c:b_}(a:Region.ready md ops g=[])(f:Q .normal b d c):∀h,rE P C main fn md ops nf Q h g b d c
 |0=>⟨a,f⟩
 |_+1=>⟨λ_=>f,λi e=>by rw[a]at e;cases e⟩
def sB{id:Nat}{a:Act}{b:List Nat}{e:b_}(n:P.follows .mixedOrders=true)(o:∀a c f g,Q .normal a c f->Rel C c f g->Q .normal a c g)(m:rE P C main fn .any ops nf Q ops.size (Array.replicate ops.size false) a b e):xG P C main fn (.region id ops true) (ops.size*(nf+3)+1+1) Q a b e:=by
 intro l k i Stop c p r j;refine Gb.step rfl λd h=>⟨_,_,_,stepG_region_draw,rfl,.draw,?_⟩;have:grow b d {d with drawn:=d.drawn+1}=b:=by simp[grow]
 rw[this];simp only[Region.schedule,n,ab9,Y_];have q:=rE.rel o _ _ _ _ _ _ m (h.trans<|O' C b d);exact F2 ops.size _ _ a b _ q l k i Stop c p r j
end
section
variable {P:e_}{C:Ch}{main:Bool}{fn:g_}{A1:Array Oper}{Q:qf}{nf:Nat}{a:Act}{A0:List Nat}{w:b_}{i:Nat}{o:Oper}
def AI{c:Act->List Nat->b_->Prop}(g:A1[i]?=some o)(j:Region.wanted o (yielded A1 a.tmps)=true){cA:d_}{d f:Operand}(bs:o.op=.store cA d f){b:Nat}{v:f_}(hx:a.eval d=π b)(ax:a.eval f=v)
 {cur:Array f_}{t:d_} (hb:b∈A0) (h:w.heap[b]?=some (.cells cur t)) (hs:cur.size=v.cells.size) (hi:(P.info? cA).map (·.size)=some v.cells.size) (h1:v.cells.all (·.oneCell')=true)
 (M:∀aa,Rel C A0 w aa->c (a.put o.dst undef) A0 (aa.setRow b v.cells)):OpB P C main fn A1 nf i c a A0 w:=by
 unfold OpB;simp only[g,j,Y_];refine .inl λaa h₁=>?_;have ec:=h₁.look (.inr hb) h
 cases eT:P.info? cA with
 |none=>simp[eT]at hi
 |some jF=>
 exact U8
theorem MK{j:Act->List Nat->b_->Prop}(r:A1[i]?=some o)(t:Region.wanted o (yielded A1 a.tmps)=true){e:g_}{args:Array Operand}{x:Array d_}{f:Array f_}{b:f_->List Nat->b_->Prop}(k:o.op=.call {callee:=.value<|.func e,args,argTypes:=x})
 (u:l6 P C main e f nf A0 w b) (y:args.map a.eval=f) (v:∀h l p,b h l p->j (a.put o.dst h) l p):OpB P C main fn A1 nf i j a A0 w:=by
 unfold OpB;simp only[r,t,Y_];obtain⟨m,q,d,c,n,s⟩:=u;have g:m.body.isNone=false:=nY n;exact .inr ⟨e,f,b,λz=>⟨by rw[run_call_body k d c g,y],events_call_body k d c g _⟩,⟨m,q,d,c,n,s⟩,v⟩
def lJ{c:f_}(e:Region.wanted o (yielded A1 a.tmps)=true)(d:∀(w:b_) (b:Result Next->Prop),b (.ok (.value c) w)->b ((execOp a.eval o).run P w))(f:∀w:b_,(execOp a.eval o).events P w #[]=#[]):lK P A1 o c a:=
 .inl ⟨e,λw=>⟨run_eq_of<|d w,f w⟩⟩
def zN{k:Func}{d:Tmp}{j:d_}(M:k.results=#[.cell d j]){g:f_->List Nat->b_->Prop}(l:a.defers=[]){b:Nat}(m:a.tmps.getD d undef=π b)(hb:qu C b\/b∈A0){h:List f_}{f:f_}(hc:w.rangeAt b 0 h)(hv:ns P j h f)
 (n:∀c,Rel C A0 w c->g f A0 c):qP P C k g .ret a A0 w:=by
 have iA:a.tmps[d]?.getD undef=π b:=by rw[<-Zr];exact m
 refine⟨l,λc h₁=>⟨f,?_,λe he=>?_,n c h₁⟩⟩
 .simp[results,M,iA,asAddr,nL hv<|mF (h₁.keep b hb) hc]
 .exact Ro
def rV{l:Func}{d f:Tmp}{k:d_}(M:l.results=#[.cell d k,.tmp f]){h:f_->List Nat->b_->Prop}(m:a.defers=[]){b:Nat}(n:a.tmps.getD d undef=π b)(hb:qu C b\/b∈A0){j:List f_}{g:f_}(hc:w.rangeAt b 0 j)(hv:ns P k j g)
 (q:∀c,Rel C A0 w c->h (.tuple #[g,a.tmps.getD f undef]) A0 c):qP P C l h .ret a A0 w:=by
 have iA:a.tmps[d]?.getD undef=π b:=by rw[<-Zr];exact n
 refine⟨m,λc h₁=>⟨.tuple #[g,a.tmps.getD f undef],?_,λe he=>?_,q c h₁⟩⟩
 .simp[results,M,iA,asAddr,nL hv<|mF (h₁.keep b hb) hc]
 .exact Ro
end
def fS(a:Nat):Bool:=(5<=a&&a<=169&& !(a==6||a==9||a==30||a==67||a==101||a==102))||(172<=a&&a<=177)||(194<=a&&a<=197)
def fM:g_->List Nat
 |103=>[1,12]
 |130=>[4,29,36,43,51,60,79,84,102,110,133,145]
 |153=>[3,22]
 |154=>[3,28,58]
 |155=>[3]
 |156=>[3,39,43,47,53]
 |157=>[3]
 |158=>[3,23,72,112]
 |159=>[4,35,54]
 |160=>[4,36,54,109,127]
 |172=>[4,24,43]
 |175=>[3,16]
 |176=>[5,18,27,36]
 |177=>[4,12]
 |_=>[]
def fV:Env:={S:=fS,M:=fM,E:=[170,171,191],nm:=["Len","Swap","Less","Push","Pop"],cf:=104}
def fnOk(d:e_)(e:Env)(a:g_):Bool:=
 match d.funcs[a]? with
 |some b=> !(b.name== "runtime.NumGoroutine")&&(match b.body with|some c=>okCode e a c|none=>false)
 |none=>false
def TT:((List.range 200).all λa=> !fS a||fnOk prog fV a)=true:=kr
def n170:(Extern.findNext Tryz.f170).isNone=true:=kr
def n171:(Extern.findNext Tryz.f171).isNone=true:=kr
def n191:(Extern.findNext Tryz.f191).isNone=true:=kr
def WZ:(Extern.find Tryz.f191).isNone=true:=kr
def W1:Extern.find Tryz.f170=some Extern.AbiNoEscape.same:=kr
def W2:Extern.find Tryz.f171=some (Extern.BytealgMakeNoZero.makeNoZero Tryz.f171.params Tryz.f171.resultTypes):=kr
def ML(a:Nat):Bool:=(a==88||a==125||a==191||(194<=a&&a<=197))
def VR:(prog.types.all λc=>c.methods.all λa=> !(fV.nm.contains a.name)||(match a.func with|some (b,_)=>ML b|none=>true))=true:=kr
def Pd:(prog.funcs.all λb=>match b.body with|some a=>(readies a).isEmpty|none=>true)=true:=kr
def D8{d:d_->Option TypeInfo}{c:Array Field}{b:TypeInfo}(a:Made.reckonStruct d c=some b):b.methods=#[]:=by
 unfold Made.reckonStruct at a;simp only[bind,Zg,pure]at a;obtain⟨e,_,a⟩:=a
 revert a
 repeat' split
 all_goals (intro a;first|(subst a;rfl)|(simp only[Yz]at a;subst a;rfl))
def I7{e:d_->Option TypeInfo}{c:TypeDesc}{d:TypeInfo}(M:Made.reckon e c=some d):d.methods=#[]:=by
 unfold Made.reckon at M;simp only[bind,pure]at M
 cases c with
 |pointer b=>
  obtain⟨a,_,M⟩:=Zg.1 M;split at M
  .cases M
  .split at M
   .cases M
   .exact J_
  .exact J_
 |slice b=>obtain⟨a,_,M⟩:=Zg.1 M;exact J_
 |map b g=>obtain⟨a,_,M⟩:=Zg.1 M;obtain⟨s,_,M⟩:=Zg.1 M;obtain⟨a,_,M⟩:=Zg.1 M;exact J_
 |chan i b=>obtain⟨a,_,M⟩:=Zg.1 M;exact J_
 |func h f k=>obtain⟨a,_,M⟩:=Zg.1 M;rw[<-YR M];rfl
 |array l b=>obtain⟨a,_,M⟩:=Zg.1 M;obtain⟨s,_,M⟩:=Zg.1 M;rw[<-YR M]
 |struct j=>exact D8 M
 |_=>cases M
def I8{d:Tables}{c:d_}{b:TypeInfo}(a:d.info? c=some b):(∃f:Nat,d.types[f]?=some b)\/b.methods=#[]:=by
 unfold Tables.info? at a;split at a
 .exact .inl ⟨c,a⟩
 .rename_i g;unfold Made.depth at a;rw[Made.infoAt,Yo g]at a;obtain⟨h,_,e⟩:=Zg.1 a;exact .inr (I7 e)
def TU{a:Nat}(b:ML a=true):(fV.S a=true/\fV.M a=[])\/a∈fV.E:=by
 have d:a<200:=by unfold ML at b;simp only[aag,beq_iff_eq,Zw,Zq]at b;omega
 have:((List.range 200).all λa=> !ML a||((fV.S a&&(fV.M a).isEmpty)||fV.E.contains a))=true:=kr
 have c:=acd.1 this a (aad.2 d);simp only[b,abZ,Bool.false_or,aag,Zw,acb,List.contains_iff_mem]at c;exact c
theorem Pe{P:e_}(hM:(P.types.all λi=>i.methods.all λm=> !(fV.nm.contains m.name)||(match m.func with|some (f,_)=>ML f|none=>true))=true)(name:String)(hn:name∈fV.nm)(d:Nat)(t:d_)(v:f_):Nm P (λr=>(fV.S r.1=true/\fV.M r.1=[])\/r.1∈fV.E) (method d t v name):=by
 induction d generalizing t v with
 |zero=>exact trivial
 |succ d ih=>
  unfold method
  refine lQ (Q:=λi=>P.info? t=some i) ?_ λi hi=>?_
  .unfold typeInfo
   show Nm _ _ (match P.info? t with|some i=>pure i|none=>stuck "no such type")
   cases hi:P.info? t with
   |none=>exact trivial
   |some i=>exact rfl
  .split
   .rename_i m hm
    refine lQ (IT _ _ _) λx _=>?_
    obtain⟨xt,x⟩:=x
    dsimp only
    split
    .refine lQ (FQ _ _) λy _=>?_
     split
     .exact ih _ _
     .exact ru (Q:=λ_=>False) (by unfold runtimePanic;exact trivial) λ_ h=>h.elim
     .exact trivial
    .rename_i f pr hf
     refine lQ (zJ _ _ _ _) λy _=>?_
     show(fV.S f=true/\fV.M f=[])\/f∈fV.E
     refine TU ?_
     have hmem:=Array.mem_of_find?_eq_some hm
     have hname:(m.name==name)=true:=by simpa using Array.find?_some hm
     rcases I8 hi with⟨k,hk⟩|h0
     .have h1:=Z4.1 hM i<|Array.mem_of_getElem? hk
      have h2:=Z4.1 h1 m hmem
      have e:m.name=name:=by simpa using hname
      rw[hf,e]at h2
      simpa[hn]using h2
     .rw[h0]at hmem;simp at hmem
   .exact trivial
def nt_makeNoZero{f:e_}(c a:Array d_)(b:Array f_):Nt f (Extern.BytealgMakeNoZero.makeNoZero c a b):=by
 rcases b with⟨_|⟨d,_|⟨h,i⟩⟩⟩
 .exact trivial
 .cases d with
  |int e j=>
   cases e with
   |i64=>
    show Nt _ (match a[0]? with|some g=>_|_=>_)
    repeat' first|exact trivial|assumption|with_reducible apply lF|with_reducible apply nG|with_reducible apply qM|with_reducible apply tY|with_reducible apply vG|with_reducible apply nw|with_reducible apply n0|with_reducible apply pt|with_reducible apply kF|with_reducible intro _|split|dsimp only
   |_=>exact trivial
  |_=>exact trivial
 .exact trivial
def Pf{b:e_}(a:Array f_):Nt b (Extern.AbiNoEscape.same a):=by rcases a with⟨_|⟨e,_|⟨c,d⟩⟩⟩<;>exact trivial
def uS(c:e_)(a:Func)(d:Array f_):Prop:=match Extern.find a with|some b=>Nt c (b d)|none=>a=Tryz.f191
def Pg{b:Bool}(c:b=true)(a:b=false):False:=by rw[c]at a;cases a
def yZ{b:e_}{c:Func}{d:Array f_}{a:Array f_->Sem f_}(f:Extern.find c=some a)(e:Nt b<|a d):uS b c d:=by unfold uS;rw[f];exact e
def F4{b:e_}{c:Array f_}(a:(Extern.find Tryz.f191).isNone=true):uS b Tryz.f191 c:=by unfold uS;rw[abo.1 a]
def W3(a:Array f_):uS prog Tryz.f170 a:=yZ W1 (Pf a)
def W4(a:Array f_):uS prog Tryz.f171 a:=yZ W2 (nt_makeNoZero _ _ a)
def W5(a:Array f_):uS prog Tryz.f191 a:=F4 WZ
def Ph{P:e_}{f:g_}(e:Array f_):∀a,P.funcs[f]?=some a->(a.name== "runtime.NumGoroutine")=false->a.body.isNone=true->Extern.findNext a=none->
 uS P a e->Nm P (λm=>∃c,m=.value c) (callFunc f e):=by
 intro a i k h l b;unfold uS at b;unfold callFunc;show Nm _ _ (match P.funcs[f]? with|none=>_|some a=>_)
 rw[i];show Nm _ _ (if _ then _ else if _ then _ else _);rw[Yo (by simp[k]),Ys h];refine lQ (vE f) λ_ _=>?_;rw[l];show Nm _ _ (match Extern.find a with|some g=>_|none=>_)
 cases d:Extern.find a with
 |some g=>rw[d]at b;exact lQ b λc _=>⟨c,rfl⟩
 |none=>
  rw[d]at b;subst b;show Nm _ _ (if _ then _ else _);split
  .rename_i j;exact(Pg j kr).elim
  .exact trivial
def TV(b:g_)(e:b∈fV.E)(a:Array f_):Nm prog (λh=>∃f,h=.value f) (callFunc b a):=by
 have c:=Ph (P:=prog) (f:=b) a;have d:∀{x:Option<|Array f_->Sem Next},x.isNone=true->x=none:=λg=>abo.1 g;simp only[fV,Y7,Zc,aac]at e;rcases e with rfl|rfl|rfl
 .exact c _ func170 kr kr (d n170) (W3 a)
 .exact c _ func171 kr kr (d n171) (W4 a)
 .exact c _ func191 kr kr (d n191) (W5 a)
def D9{d:e_}(f:(d.funcs.all λa=>match a.body with|some c=>(readies c).isEmpty|none=>true)=true)(g:Nat):d.stepOf g=none:=by
 unfold Program.stepOf;rw[Array.findIdx?_eq_none_iff];intro a h;have b:=Z4.1 f a h
 cases e:a.body with
 |none=>simp
 |some c=>rw[e]at b;simp only[acb]at b;simp[b]
def qQ:Fit prog fV where
 body:=by
  intro b e;have j: @LT.lt Nat _ b 200:=by have c:fS b=true:=e;unfold fS at c;simp only[aag,Zw,Zq]at c;omega
  have a:=acd.1 TT b<|aad.2 j;have c:fS b=true:=e;simp only[c,abZ,Bool.false_or]at a;unfold fnOk at a;split at a
  .rename_i k h;simp only[Zw]at a;obtain⟨g,d⟩:=a;split at d
   .rename_i f i;exact⟨k,f,h,by simpa using g,i,d⟩
   .cases d
  .cases a
 ext:=TV
 VO:=Pe VR
 cmp:=⟨rfl,rfl⟩
 ready:=by intro l;exact D9 Pd l
theorem I9(C:Ch)(A:Bool):∃I,∀(ap:List Nat) (a:a_),a.size<=4194304->∀e:b_,Sits C ap e->l6 prog C A 112 #[.string a] I ap e λQ O R=>Q=.string a/\lz C ap e O R:=by
 obtain⟨b,L,J,y,z,E,D⟩:∃b:TypeInfo,Hid (prog.info? 5=some b)/\Hid (b.zero=some (.int .u8 0))/\Hid (b.size=1)/\Hid (b.bytes=1)/\Hid ((prog.info? 5).map (·.size)=some 1)/\Hid (prog.cellsOf 5=1):=by obtain⟨b,r,K,x,P⟩:=Y4 Tryz.Se;exact⟨b,r,K,x,P,by show _=_;rw[r];simp[x],by show _=_;kernel_rfl⟩
 co_apply Exists.intro;intro ap a Y e bf;have S:a.size<=2^63-1:=om;co_apply ox func112 rf rfl;simp only[ntmps112,YJ,YA,YI,Nat.reduceAdd,Nat.reduceSub,Zu,Zt,ZK,Zz,YT,Y1];apply jS ?_;co_apply AG (t:=(a.size:Int)==0) rf
 .intro g;have B:Hid<|a=⟨#[]⟩:=Z6 (ab_ (by have:a.size=0:=(by simpa using g);exact this));clear g
  repeat(first|(co_apply nH;simp only[YJ,YA,YI,Nat.reduceAdd,YF,List.range,List.range.loop])|(co_apply oi rfl rf oZ (by intro _;simp[go_sem,qg,nu, *]);walk_nrm)|(co_apply nX;try simp only[thenB,inBlockB,Y_,Y5,reduceIte,Nat.reduceEqDiff])|(first|co_apply lY|co_apply pa|(co_apply pl;try simp only[thenB,inBlockB,Y_,Y5,reduceIte,Nat.reduceEqDiff])|(co_apply sJ;try simp only[thenB,inBlockB,Y_,Y5,reduceIte,Nat.reduceEqDiff])|(co_apply qy;try simp only[thenB,inBlockB,Y_,Y5,reduceIte,Nat.reduceEqDiff]))|(co_apply nv;focus (exact rfl);simp only[Y_,Y5,reduceIte,YY]))
  refine rD rfl rfl λaa h₁=>⟨?_,(lz.refl bf).step h₁⟩;rw[B.o];rfl
 .intro g;have o:Hid<|a.size≠0:=λM=>by simp[M]at g
  clear g;apply jS ?_;co_apply I4 rfl rf rfl underlying114 L.o J.o (N:=a.size) rf rf (by rw[z.o];unfold roomBytes;omega) om;refine NT ?_;intro aa h₁ ah aA;replace ah:Hid<|lz C ap e (aa.heap.size::ap)<|aa.alloc<|.cells (madeCells (Value.int .u8 0).cells<|a.size*b.size) 5:=ah.alloc _;have f:Hid<|(aa.alloc<|.cells (madeCells (Value.int .u8 0).cells<|a.size*b.size) 5).heap[aa.heap.size]?=some (.cells (madeCells (Value.int .u8 0).cells<|a.size*b.size) 5):=pm;have m:Hid<|(madeCells (Value.int .u8 0).cells<|a.size*b.size).size=a.size:=by show _=_;rw[aaG,y.o];simp
  clear h₁;obtain⟨F,w⟩:=j5<|madeCells (Value.int .u8 0).cells<|a.size*b.size;rw[<-w]at ah f m⊢;clear w;obtain⟨U,d⟩:=j5<|aa.alloc<|.cells F 5;rw[<-d]at ah f⊢;obtain⟨c,s⟩:=j5 aa.heap.size;rw[<-s]at ah f aA⊢;clear d s aa;walk_nrm;apply jS ?_;co_apply F0 rfl rf rfl underlying114 E.o (g:=c) (s:=a) rf rf (YD ..) f.o m.o;intro h j;have l:Hid<|lz C ap e (c::ap)<|h.setRow c (Lib.byteCells a.data.toList).toArray:=(ah.o.step j).row aA.o _;have i:Hid<|(h.setRow c (Lib.byteCells a.data.toList).toArray).heap[c]?=some (.cells (Lib.byteCells a.data.toList).toArray 5 (0,0)):=aae _ _ _ _ _ _ (j.look (.inr<|YD ..) f.o);clear j ah f m;obtain⟨W,d⟩:=j5<|h.setRow c (Lib.byteCells a.data.toList).toArray;rw[<-d]at l i⊢;clear d h;walk_nrm;have T:0<a.size:=Z0 o.o;have V:(0:Int)<a.size:=om;apply jS ?_;co_apply D4 rfl rf rfl underlying217 D.o (g:=c) (s:=a) rf rf (YD ..) i.o o.o om;intro n v;have u:Hid<|lz C ap e (c::ap)<|n.freeze (μ c 0) a.size:=(l.o.step v).freeze aA.o _;clear v l i;obtain⟨X,d⟩:=j5<|n.freeze (μ c 0) a.size;rw[<-d]at u⊢;clear d n;walk_nrm;apply jS ?_;exact rD rfl rfl λaa h₁=>⟨rfl,u.o.step h₁⟩
theorem Pj(c:Ch)(h:Bool):∃o,∀(b:List Nat) (d:a_),d.size<=4194304->∀a:b_,Sits c b a->l6 prog c h 76 #[.string d] o b a λi f g=>i=.string d/\lz c b a f g:=by obtain⟨nc,l⟩:=I9 c h;co_apply Exists.intro;intro b d n a m;co_apply ox func76 rf rfl;simp only[ntmps76,YJ,YA,YI,Nat.reduceAdd,Nat.reduceSub,Zu,Zt,ZK,Zz,YT,Y1];apply jS ?_;co_apply ua rfl rf rfl (l b d n a m) (by walk_nrm);rintro i f g ⟨rfl,e⟩;replace e:Hid<|lz c b a f g:=e;walk_nrm;apply jS ?_;exact rD rfl rfl λr j=>⟨rfl,e.o.step j⟩
def mr{c:e_}{w:b_}{b:Array Event}{a:d_}{s:a_}{k:Int}(M:c.underlying a=some .string)(h0:0<=k)(h1:k<=s.size):(Instr.sliceAt a (.string s) (some (ν k)) none none).events c w b=b:=by exact Rf
def ms{c:e_}{w:b_}{b:Array Event}{a:d_}{s:a_}{k:Int}(M:c.underlying a=some .string)(h0:0<=k)(h1:k<=s.size):(Instr.sliceAt a (.string s) none (some (ν k)) none).events c w b=b:=by exact Rf
def nO{f:e_}{e:b_}{d:Array Event}{c:d_}{b:a_}{a:Int}(h:f.underlying c=some .string)(j:0<=a)(k:a<b.size):(Instr.index c (.string b)<|ν a).events f e d=d:=by
 have i:a.toNat<b.size:=om;have g:b[a.toNat]?=some b[a.toNat]:=by simp[i]
 simp[Instr.index,asIntOf,Zm h e,j,g]
def AX(c a b:f_):ns prog 94 [c,a,b] (.agg #[c,a,b]):=⟨kr,_,underlying94,.inl ⟨rfl,rfl⟩⟩
theorem TW(C:Ch)(u:Bool):∃z,∀(ap:List Nat) (a:a_),1<=a.size->a.size<=4194304->∀d:b_,Sits C ap d->l6 prog C u 137 #[.string a] z ap d λh e j=>h=.agg #[ν 0,ν<|Pl.j2 a 0,.string<|a.extract 1 a.size]/\lz C ap d e j:=by
 obtain⟨nc,w⟩:=Pj C u;refine SW ?_;intro cS;co_apply Exists.intro;intro ap a y L d bf;have A:0<a.size:=y;have B:(1:Int)<=a.size:=om;have J:(0:Int)<a.size:=om;have D:=Pl.kG a;have K:=Pl.kz a 0;have E:IntKind.i64.wrap (Pl.j2 a 0:Int)=Pl.j2 a 0:=wo;co_apply ox func137 rf rfl;simp only[ntmps137,YJ,YA,YI,Nat.reduceAdd,Nat.reduceSub,Zu,Zt,ZK,Zz,YT,Y1];apply GD ?_;co_apply rB rfl rf rfl zeroValue94;refine NT ?_;intro aa h₁ ah aA;replace ah:Hid<|lz C ap d (aa.heap.size::ap)<|aa.alloc<|.cells #[ν 0,ν 0,.string ⟨#[]⟩] 94:=ah.alloc _;refine SS ?_;intro hc;clear h₁;refine SQ ?_;intro W U;rw[<-U]at ah hc⊢;obtain⟨c,o⟩:=j5 aa.heap.size;rw[<-o]at ah hc aA⊢;clear U o aa;walk_nrm;apply GD ?_;co_apply sB (nf:=nc) kr (λ_ _ _ _ M r=>lD M r);apply WG ?_;refine D7 (i:=5) fk ?_;refine MK rfl rf rfl (w (c::ap) (a.extract 1 a.size) so W ah.o.o0) (by walk_nrm) ?_;rintro h e j ⟨rfl,g⟩;have l:Hid<|j.heap[c]?=some (.cells #[ν 0,ν 0,.string ⟨#[]⟩] 94):=g.rel.look (.inr<|YD ..) hc.o;have n:Hid<|c∈e:=g.sub c<|YD ..;have t:Hid<|lz C ap d e j:=ah.o.trans g;clear g ah hc;walk_nrm
 co_applyP kX (λ_ _ _ _ M r=>lD M r) (i:=6) rfl fk fk fk (lJ rf oZ pj)
 walk_nrm;refine D7 (i:=7) fk ?_;refine AI rfl rf rfl (b:=c) (v:=.agg #[ν 0,ν<|Pl.j2 a 0,.string<|a.extract 1 a.size]) rf rf n.o l.o rf cS.o (by simp[Value.cells,Value.oneCell']) ?_;intro f m;have s:Hid<|lz C ap d e<|f.setRow c #[ν 0,ν<|Pl.j2 a 0,.string<|a.extract 1 a.size]:=(t.o.step m).row aA.o _;have v:Hid<|(f.setRow c #[ν 0,ν<|Pl.j2 a 0,.string<|a.extract 1 a.size]).heap[c]?=some (.cells #[ν 0,ν<|Pl.j2 a 0,.string<|a.extract 1 a.size] 94):=aae _ _ _ _ _ _ (m.look (.inr n.o) l.o);clear m t l;show rE _ _ _ _ _ _ _ _ _ _ _ _ (f.setRow c #[ν 0,ν<|Pl.j2 a 0,.string<|a.extract 1 a.size]);obtain⟨I,U⟩:=j5<|f.setRow c #[ν 0,ν<|Pl.j2 a 0,.string<|a.extract 1 a.size];rw[<-U]at s v⊢;clear U f;walk_nrm;refine AH fk ?_ _;refine Q' ?_;apply GD ?_;exact zN rfl rfl rfl (.inr n.o) (oG v.o 0 λF h x=>by rw[YF];simpa using x) (AX _ _ _) λaa h₁=>⟨rfl,s.o.step h₁⟩
def TX(c:Nat)(a:a_)(b:Int):f_:=.tuple #[.agg #[ν 0,ν c,.string a],ν b]
def Pk(f:Ch)(e:List Nat)(d:b_)(i:a_)(h:f_)(g:List Nat)(j:b_):Prop:=∃(c:Nat) (b:a_) (a:Int),h=TX c b a/\Pl.qD i c b a/\lz f e d g j
theorem I_(C:Ch)(c:Bool):∃d,∀(ap:List Nat) (a:a_),a.size<4->∀w:b_,Sits C ap w->l6 prog C c 129 #[.string a] d ap w (Pk C ap w a):=by
 refine SW ?_;intro cS;co_apply Exists.intro;intro ap a l w bf;have h:a.size<=2^63-1:=om;have f:IntKind.i64.wrap ((a.size:Int)-2)=(a.size:Int)-2:=wo;have i:(a.size:Int)-2<2:=om;have HK:Hid<|Pl.qD a 0 ⟨#[]⟩ 4:=.inr ⟨λM=>by have:=M.1;omega,rfl,rfl,rfl⟩
 co_apply ox func129 rf rfl;simp only[ntmps129,YJ,YA,YI,Nat.reduceAdd,Nat.reduceSub,Zu,Zt,ZK,Zz,YT,Y1]
 apply JZ ?_;co_apply rB rfl rf rfl zeroValue94;refine NT ?_;intro aa h₁ ah aA;replace ah:Hid<|lz C ap w (aa.heap.size::ap)<|aa.alloc<|.cells #[ν 0,ν 0,.string ⟨#[]⟩] 94:=ah.alloc _;refine SS ?_;intro hc;refine SQ ?_;intro W U;rw[<-U]at ah hc⊢;obtain⟨g,e⟩:=j5 aa.heap.size;rw[<-e]at ah hc aA⊢;walk_nrm
 repeat(first|(co_apply nH;simp only[YJ,YA,YI,Nat.reduceAdd,YF,List.range,List.range.loop])|(co_apply oi rfl rf oZ pj;walk_nrm)|(co_apply qh rfl rf;walk_nrm)|(co_apply nX;try simp only[thenB,inBlockB,Y_,Y5,reduceIte,Nat.reduceEqDiff]))
 co_apply lY
 repeat(first|(co_apply nH;simp only[YJ,YA,YI,Nat.reduceAdd,YF,List.range,List.range.loop])|(co_apply oi rfl rf oZ pj;walk_nrm)|(co_apply qh rfl rf;walk_nrm)|(co_apply nX;try simp only[thenB,inBlockB,Y_,Y5,reduceIte,Nat.reduceEqDiff]))
 co_apply lY (n₂:=0);co_apply lY
 repeat(first|(co_apply nH;simp only[YJ,YA,YI,Nat.reduceAdd,YF,List.range,List.range.loop])|(co_apply oi rfl rf oZ pj;walk_nrm)|(co_apply qh rfl rf;walk_nrm)|(co_apply nX;try simp only[thenB,inBlockB,Y_,Y5,reduceIte,Nat.reduceEqDiff]))
 co_apply nv
 focus (exact rfl)
 simp only[Y_,Y5,reduceIte,YY]
 repeat(first|(co_apply nH;simp only[YJ,YA,YI,Nat.reduceAdd,YF,List.range,List.range.loop])|((first|co_apply oi rfl rf oZ pj|co_apply qh rfl rf);walk_nrm)|((first|co_apply nX|co_apply pl|co_apply sJ|co_apply qy);try simp only[thenB,inBlockB,Y_,Y5,reduceIte,Nat.reduceEqDiff])|co_apply lY|co_apply pa|(co_apply nv;focus (exact rfl);simp only[Y_,Y5,reduceIte,YY]))
 co_apply tF rfl rf rfl (b:=g) (v:=.agg #[ν 0,ν 0,.string ⟨#[]⟩]) rf rf (YD ..) hc.o rf cS.o (by simp[Value.cells,Value.oneCell']);intro aM h₂;have ck:Hid<|lz C ap w (g::ap)<|aM.setRow g #[ν 0,ν 0,.string ⟨#[]⟩]:=(ah.o.step h₂).row aA.o _;have aV:Hid<|(aM.setRow g #[ν 0,ν 0,.string ⟨#[]⟩]).heap[g]?=some (.cells #[ν 0,ν 0,.string ⟨#[]⟩] 94):=aae _ _ _ _ _ _ (h₂.look (.inr<|YD ..) hc.o);show mQ _ _ _ _ _ _ _ _ _ _ (aM.setRow g #[ν 0,ν 0,.string ⟨#[]⟩]);obtain⟨jc,U⟩:=j5<|aM.setRow g #[ν 0,ν 0,.string ⟨#[]⟩]
 rw[<-U]at ck aV⊢;walk_nrm;apply JZ ?_;exact SX
theorem Ja(C:Ch)(c:Bool):∃d,∀(ap:List Nat) (a:a_),256<a.size->a.size<=4194304->∀w:b_,Sits C ap w->l6 prog C c 129 #[.string a] d ap w (Pk C ap w a):=by
 refine SW ?_;intro cS;co_apply Exists.intro;intro ap a m n w bf;have h:a.size<=2^63-1:=om;have f:IntKind.i64.wrap ((a.size:Int)-2)=(a.size:Int)-2:=wo;have i:¬((a.size:Int)-2<2):=om;have l:(254:Int)<(a.size:Int)-2:=om;have HK:Hid<|Pl.qD a 0 ⟨#[]⟩ 4:=.inr ⟨λM=>by have:=M.2.1;omega,rfl,rfl,rfl⟩
 co_apply ox func129 rf rfl;simp only[ntmps129,YJ,YA,YI,Nat.reduceAdd,Nat.reduceSub,Zu,Zt,ZK,Zz,YT,Y1]
 apply JZ ?_;co_apply rB rfl rf rfl zeroValue94;refine NT ?_;intro aa h₁ ah aA;replace ah:Hid<|lz C ap w (aa.heap.size::ap)<|aa.alloc<|.cells #[ν 0,ν 0,.string ⟨#[]⟩] 94:=ah.alloc _;refine SS ?_;intro hc;refine SQ ?_;intro W U;rw[<-U]at ah hc⊢;obtain⟨g,e⟩:=j5 aa.heap.size;rw[<-e]at ah hc aA⊢;walk_nrm
 repeat(first|(co_apply nH;simp only[YJ,YA,YI,Nat.reduceAdd,YF,List.range,List.range.loop])|(co_apply oi rfl rf oZ pj;walk_nrm)|(co_apply qh rfl rf;walk_nrm)|(co_apply nX;try simp only[thenB,inBlockB,Y_,Y5,reduceIte,Nat.reduceEqDiff]))
 co_apply lY
 repeat(first|(co_apply nH;simp only[YJ,YA,YI,Nat.reduceAdd,YF,List.range,List.range.loop])|(co_apply oi rfl rf oZ pj;walk_nrm)|(co_apply qh rfl rf;walk_nrm)|(co_apply nX;try simp only[thenB,inBlockB,Y_,Y5,reduceIte,Nat.reduceEqDiff]))
 co_apply lY (n₂:=0);co_apply lY
 repeat(first|(co_apply nH;simp only[YJ,YA,YI,Nat.reduceAdd,YF,List.range,List.range.loop])|(co_apply oi rfl rf oZ pj;walk_nrm)|(co_apply qh rfl rf;walk_nrm)|(co_apply nX;try simp only[thenB,inBlockB,Y_,Y5,reduceIte,Nat.reduceEqDiff]))
 co_apply nv
 focus (exact rfl)
 simp only[Y_,Y5,reduceIte,YY]
 repeat(first|(co_apply nH;simp only[YJ,YA,YI,Nat.reduceAdd,YF,List.range,List.range.loop])|((first|co_apply oi rfl rf oZ pj|co_apply qh rfl rf);walk_nrm)|((first|co_apply nX|co_apply pl|co_apply sJ|co_apply qy);try simp only[thenB,inBlockB,Y_,Y5,reduceIte,Nat.reduceEqDiff])|co_apply lY|co_apply pa|(co_apply nv;focus (exact rfl);simp only[Y_,Y5,reduceIte,YY]))
 co_apply tF rfl rf rfl (b:=g) (v:=.agg #[ν 0,ν 0,.string ⟨#[]⟩]) rf rf (YD ..) hc.o rf cS.o (by simp[Value.cells,Value.oneCell']);intro aM h₂;have ck:Hid<|lz C ap w (g::ap)<|aM.setRow g #[ν 0,ν 0,.string ⟨#[]⟩]:=(ah.o.step h₂).row aA.o _;have aV:Hid<|(aM.setRow g #[ν 0,ν 0,.string ⟨#[]⟩]).heap[g]?=some (.cells #[ν 0,ν 0,.string ⟨#[]⟩] 94):=aae _ _ _ _ _ _ (h₂.look (.inr<|YD ..) hc.o);show mQ _ _ _ _ _ _ _ _ _ _ (aM.setRow g #[ν 0,ν 0,.string ⟨#[]⟩]);obtain⟨jc,U⟩:=j5<|aM.setRow g #[ν 0,ν 0,.string ⟨#[]⟩]
 rw[<-U]at ck aV⊢;walk_nrm;apply JZ ?_;exact SX
theorem Jb(h:Ch)(D:Bool):∃ac,∀(g:List Nat) (a:a_),4<=a.size->a.size<=256->∀l:b_,Sits h g l->l6 prog h D 129 #[.string a] ac g l (Pk h g l a):=by
 obtain⟨ao,ai⟩:=Pa h D 254 om;obtain⟨ad,ah⟩:=TW h D;have aa:Hid<|(prog.info? 94).map (·.size)=some 3:=by show _=_;kernel_rfl
 co_apply Exists.intro;intro g a ay ak l aj;have av:a.size<=2^63-1:=om;obtain⟨c,U⟩:∃c,a.size=c+2:=⟨a.size-2,om⟩;have am:IntKind.i64.wrap ((a.size:Int)-2)=(c:Int):=wo;have aq:IntKind.i64.wrap ((c:Int)+1)=((c+1:Nat):Int):=wo;have aA:c<a.size:=om;have aC:c+1<a.size:=om;have ax:(c:Int)<=a.size:=om;have an:(0:Int)<=(c:Int)+1:=om;have al:(c:Int)+1<a.size:=om;have au:¬((c:Int)<2):=om;have az:¬((254:Int)<c):=om;have ap:=Pl.kG a;have b0:=Pl.kz a c;have X:=Pl.kz a<|c+1;have ar:=vU b0;have aw:=vU X;obtain⟨I,M⟩:∃I,Hid<|I=Pl.j2 a c+256*Pl.j2 a (c+1):=⟨_,rfl⟩;have aE:IntKind.u16.wrap ((Pl.j2 a (c+1):Int)*256)=(Pl.j2 a (c+1):Int)*256:=by have:(2:Int)^IntKind.u16.bits=65536:=rfl;simp only[IntKind.wrap,this,IntKind.signed,abS,YY,Y5];omega
 have aB:bits .or .u16 (Pl.j2 a c:Int) ((Pl.j2 a (c+1):Int)*256)=(I:Int):=by rw[M.o];exact Pl.KM _ _ b0 X
 have A:Hid<|a.size=c+2:=U;clear U;co_apply ox func129 rf rfl;simp only[ntmps129,YJ,YA,YI,Nat.reduceAdd,Nat.reduceSub,Zu,Zt,ZK,Zz,YT,Y1]
 repeat(first|(co_apply nH;simp only[YJ,YA,YI,Nat.reduceAdd,YF,List.range,List.range.loop])|((first|co_apply oi rfl rf oZ pj|co_apply qh rfl rf);walk_nrm)|((first|co_apply nX|co_apply pl|co_apply sJ|co_apply qy);try simp only[thenB,inBlockB,Y_,Y5,reduceIte,Nat.reduceEqDiff])|co_apply lY|co_apply pa|(co_apply nv;focus (exact rfl);simp only[Y_,Y5,reduceIte,YY]))
 co_apply rB rfl rf rfl zeroValue94;intro j r;have q:=(lz.refl aj).step r;have O:Hid<|NC h g j.heap.size:=q.new;replace q:Hid<|lz h g l (j.heap.size::g)<|j.alloc<|.cells #[ν 0,ν 0,.string ⟨#[]⟩] 94:=q.alloc _;have E:Hid<|(j.alloc<|.cells #[ν 0,ν 0,.string ⟨#[]⟩] 94).heap[j.heap.size]?=some (.cells #[ν 0,ν 0,.string ⟨#[]⟩] 94):=pm;clear r;show mQ _ _ _ _ _ _ _ _ _ _ (j.alloc<|.cells #[ν 0,ν 0,.string ⟨#[]⟩] 94);obtain⟨ae,m⟩:=j5<|j.alloc<|.cells #[ν 0,ν 0,.string ⟨#[]⟩] 94;rw[<-m]at q E⊢;obtain⟨f,T⟩:=j5 j.heap.size;rw[<-T]at q E O⊢;clear m T j;walk_nrm
 repeat(first|(co_apply nH;simp only[YJ,YA,YI,Nat.reduceAdd,YF,List.range,List.range.loop])|(co_apply oi rfl rf oZ pj;walk_nrm)|(co_apply qh rfl rf;walk_nrm)|(co_apply nX;try simp only[thenB,inBlockB,Y_,Y5,reduceIte,Nat.reduceEqDiff]))
 co_apply lY
 repeat(first|(co_apply nH;simp only[YJ,YA,YI,Nat.reduceAdd,YF,List.range,List.range.loop])|(co_apply oi rfl rf oZ pj;walk_nrm)|(co_apply qh rfl rf;walk_nrm)|(co_apply nX;try simp only[thenB,inBlockB,Y_,Y5,reduceIte,Nat.reduceEqDiff]))
 co_apply lY;co_apply lY
 repeat(first|(co_apply nH;simp only[YJ,YA,YI,Nat.reduceAdd,YF,List.range,List.range.loop])|(co_apply oi rfl rf oZ pj;walk_nrm)|(co_apply qh rfl rf;walk_nrm)|(co_apply nX;try simp only[thenB,inBlockB,Y_,Y5,reduceIte,Nat.reduceEqDiff]))
 co_apply nv
 focus (exact rfl)
 simp only[Y_,Y5,reduceIte,YY];co_apply pl;simp only[thenB,inBlockB,Y_,Y5,reduceIte,Nat.reduceEqDiff];co_apply lY;co_apply sB (nf:=0) kr (λ_ _ _ _ d e=>lD d e);simp only[YJ,YA,YI,Nat.reduceAdd,YF]
 co_applyP kX (λ_ _ _ _ d e=>lD d e) (i:=0) rfl fk fk fk (lJ rf oZ pj)
 walk_nrm
 co_applyP kX (λ_ _ _ _ d e=>lD d e) (i:=1) rfl fk fk fk (lJ rf oZ pj)
 walk_nrm
 co_applyP kX (λ_ _ _ _ d e=>lD d e) (i:=2) rfl fk fk fk (lJ rf oZ pj)
 walk_nrm
 co_applyP kX (λ_ _ _ _ d e=>lD d e) (i:=3) rfl fk fk fk (lJ rf oZ pj)
 walk_nrm
 co_applyP kX (λ_ _ _ _ d e=>lD d e) (i:=4) rfl fk fk fk (lJ rf oZ pj)
 walk_nrm
 co_applyP kX (λ_ _ _ _ d e=>lD d e) (i:=5) rfl fk fk fk (lJ rf oZ pj)
 walk_nrm
 co_applyP kX (λ_ _ _ _ d e=>lD d e) (i:=6) rfl fk fk fk (lJ rf oZ pj)
 walk_nrm
 co_applyP kX (λ_ _ _ _ d e=>lD d e) (i:=7) rfl fk fk fk (lJ rf oZ pj)
 walk_nrm
 co_applyP kX (λ_ _ _ _ d e=>lD d e) (i:=8) rfl fk fk fk (lJ rf oZ pj)
 walk_nrm
 co_applyP kX (λ_ _ _ _ d e=>lD d e) (i:=9) rfl fk fk fk (lJ rf oZ pj)
 walk_nrm
 co_applyP kX (λ_ _ _ _ d e=>lD d e) (i:=10) rfl fk fk fk (lJ rf oZ pj)
 walk_nrm
 co_applyP kX (λ_ _ _ _ d e=>lD d e) (i:=11) rfl fk fk fk (lJ rf oZ pj)
 walk_nrm;refine AH fk ?_ _;simp only[thenB,inBlockB,Y_,Y5,reduceIte,Nat.reduceEqDiff];co_apply lY;co_apply lY
 repeat(first|(co_apply nH;simp only[YJ,YA,YI,Nat.reduceAdd,YF,List.range,List.range.loop])|(co_apply oi rfl rf oZ pj;walk_nrm)|(co_apply qh rfl rf;walk_nrm)|(co_apply nX;try simp only[thenB,inBlockB,Y_,Y5,reduceIte,Nat.reduceEqDiff]))
 co_apply ua rfl rf rfl (vT<|ai (f::g) (a.extract 0 c) so ae) (by walk_nrm);rintro o aF v ⟨rfl,aD,W,rfl,V⟩;have J:=V.trans W;have w:Hid<|lz h g l (f::g) v:=q.o.step J;have y:Hid<|v.heap[f]?=some (.cells #[ν 0,ν 0,.string ⟨#[]⟩] 94):=J.look (.inr<|YD ..) E.o;clear J W V q E;obtain⟨Q,R⟩:∃Q,Hid<|Q=Pl.wb (a.extract 0 c).data.toList:=⟨_,rfl⟩;rw[<-R.o];walk_nrm
 repeat(first|(co_apply nH;simp only[YJ,YA,YI,Nat.reduceAdd,YF,List.range,List.range.loop])|(co_apply oi rfl rf oZ pj;walk_nrm)|(co_apply qh rfl rf;walk_nrm)|(co_apply nX;try simp only[thenB,inBlockB,Y_,Y5,reduceIte,Nat.reduceEqDiff]))
 co_apply AG (t:=(I:Int)!=(Q:Int)) rf
 .intro t1
  have K:Hid<|Pl.qD a 0 ⟨#[]⟩ 4:=.inr ⟨λd=>by
   have ab:=d.2.2;have u:a.size-2=c:=li A.o;have p:a.size-1=c+1:=li A.o;rw[u,p,<-R.o,<-M.o]at ab
   simp[ab]at t1,rfl,rfl,rfl⟩
  clear t1
  repeat(first|(co_apply nH;simp only[YJ,YA,YI,Nat.reduceAdd,YF,List.range,List.range.loop])|((first|co_apply oi rfl rf oZ pj|co_apply qh rfl rf);walk_nrm)|((first|co_apply nX|co_apply pl|co_apply sJ|co_apply qy);try simp only[thenB,inBlockB,Y_,Y5,reduceIte,Nat.reduceEqDiff])|co_apply lY|co_apply pa|(co_apply nv;focus (exact rfl);simp only[Y_,Y5,reduceIte,YY]))
  co_apply tF rfl rf rfl (b:=f) (v:=.agg #[ν 0,ν 0,.string ⟨#[]⟩]) rf rf (YD ..) y.o rf aa.o (by simp[Value.cells,Value.oneCell']);intro k n;have z:Hid<|lz h g l (f::g)<|k.setRow f #[ν 0,ν 0,.string ⟨#[]⟩]:=(w.o.step n).row O.o _;have s:Hid<|(k.setRow f #[ν 0,ν 0,.string ⟨#[]⟩]).heap[f]?=some (.cells #[ν 0,ν 0,.string ⟨#[]⟩] 94):=aae _ _ _ _ _ _ (n.look (.inr<|YD ..) y.o);clear n w y;show mQ _ _ _ _ _ _ _ _ _ _ (k.setRow f #[ν 0,ν 0,.string ⟨#[]⟩]);obtain⟨af,m⟩:=j5<|k.setRow f #[ν 0,ν 0,.string ⟨#[]⟩];rw[<-m]at z s⊢;clear m k;walk_nrm
  repeat(first|(co_apply nH;simp only[YJ,YA,YI,Nat.reduceAdd,YF,List.range,List.range.loop])|((first|co_apply oi rfl rf oZ pj|co_apply qh rfl rf);walk_nrm)|((first|co_apply nX|co_apply pl|co_apply sJ|co_apply qy);try simp only[thenB,inBlockB,Y_,Y5,reduceIte,Nat.reduceEqDiff])|co_apply lY|co_apply pa|(co_apply nv;focus (exact rfl);simp only[Y_,Y5,reduceIte,YY]))
  exact rV rfl rfl rfl (.inr<|YD ..) (oG s.o 0 λag o L=>by rw[YF];simpa using L) (AX _ _ _) λj r=>⟨0,⟨#[]⟩,4,rfl,K.o,z.o.step r⟩
 .intro t1
  have K:Hid<|Pl.qD a (Pl.j2 a 0) (a.extract 1 c) 0:=.inl ⟨⟨om,om,by
   have u:a.size-2=c:=li A.o;have p:a.size-1=c+1:=li A.o;rw[u,p,<-R.o,<-M.o];simp at t1
   omega⟩,rfl,by have u:a.size-2=c:=li A.o;rw[u],rfl⟩
  have P:=Pl.ld a 0 c 0 om om;have p:=Pl.extract_extract a 0 c 1 c om;have B:(a.extract 0 c).size=c:=so;simp only[YF]at P p;have Z:Hid<|l6 prog h D 137 #[.string<|a.extract 0 c] ad (f::g) v λo x F=>o=.agg #[ν 0,ν<|Pl.j2 a 0,.string<|a.extract 1 c]/\lz h (f::g) v x F:=by have:=ah (f::g) (a.extract 0 c) (p1 B) (p1 B) v w.o.o0;rw[B,P,p]at this;exact this
  clear t1 P p B
  repeat(first|(co_apply nH;simp only[YJ,YA,YI,Nat.reduceAdd,YF,List.range,List.range.loop])|((first|co_apply oi rfl rf oZ pj|co_apply qh rfl rf);walk_nrm)|((first|co_apply nX|co_apply pl|co_apply sJ|co_apply qy);try simp only[thenB,inBlockB,Y_,Y5,reduceIte,Nat.reduceEqDiff])|co_apply lY|co_apply pa|(co_apply nv;focus (exact rfl);simp only[Y_,Y5,reduceIte,YY]))
  co_apply ua rfl rf rfl Z.o (by walk_nrm);rintro o x F ⟨rfl,C⟩;have z:Hid<|lz h g l x F:=w.o.trans C;have N:Hid<|f∈x:=C.sub f<|YD ..;have s:Hid<|F.heap[f]?=some (.cells #[ν 0,ν 0,.string ⟨#[]⟩] 94):=C.rel.look (.inr<|YD ..) y.o;clear C w y Z;walk_nrm;co_apply tF rfl rf rfl (b:=f) (v:=.agg #[ν 0,ν<|Pl.j2 a 0,.string<|a.extract 1 c]) rf rf N.o s.o rf aa.o (by simp[Value.cells,Value.oneCell']);intro k n;have Y:Hid<|lz h g l x<|k.setRow f #[ν 0,ν<|Pl.j2 a 0,.string<|a.extract 1 c]:=(z.o.step n).row O.o _;have S:Hid<|(k.setRow f #[ν 0,ν<|Pl.j2 a 0,.string<|a.extract 1 c]).heap[f]?=some (.cells #[ν 0,ν<|Pl.j2 a 0,.string<|a.extract 1 c] 94):=aae _ _ _ _ _ _ (n.look (.inr N.o) s.o);clear n z s;show mQ _ _ _ _ _ _ _ _ _ _ (k.setRow f #[ν 0,ν<|Pl.j2 a 0,.string<|a.extract 1 c]);obtain⟨af,m⟩:=j5<|k.setRow f #[ν 0,ν<|Pl.j2 a 0,.string<|a.extract 1 c];rw[<-m]at Y S⊢;clear m k;walk_nrm
  repeat(first|(co_apply nH;simp only[YJ,YA,YI,Nat.reduceAdd,YF,List.range,List.range.loop])|((first|co_apply oi rfl rf oZ pj|co_apply qh rfl rf);walk_nrm)|((first|co_apply nX|co_apply pl|co_apply sJ|co_apply qy);try simp only[thenB,inBlockB,Y_,Y5,reduceIte,Nat.reduceEqDiff])|co_apply lY|co_apply pa|(co_apply nv;focus (exact rfl);simp only[Y_,Y5,reduceIte,YY]))
  exact rV rfl rfl rfl (.inr N.o) (oG S.o 0 λag o L=>by rw[YF];simpa using L) (AX _ _ _) λj r=>⟨Pl.j2 a 0,a.extract 1 c,0,rfl,K.o,Y.o.step r⟩
def l6.more{e:e_}{d:Ch}{b:Bool}{j:g_}{g:Array f_}{f a:Nat}{i:List Nat}{h:b_}{c:f_->List Nat->b_->Prop}(n:l6 e d b j g f i h c)(l:f<=a):l6 e d b j g a i h c:=by let⟨r,k,p,o,q,m⟩:=n;exact⟨r,k,p,o,q,yW m l⟩
def J8(d:Ch)(e:Bool):∃i,∀(c:List Nat) (a:a_),a.size<=4194304->∀b:b_,Sits d c b->l6 prog d e 129 #[.string a] i c b (Pk d c b a):=by
 let⟨h,g⟩:=I_ d e;let⟨j,m⟩:=Ja d e;let⟨k,p⟩:=Jb d e;refine⟨h+j+k,λc a o b f=>?_⟩;by_cases n:a.size<4
 .exact(g c a n b f).more om
 .by_cases l:256<a.size
  .exact(m c a l o b f).more om
  .exact(p c a om om b f).more om
section
variable {P:e_}{main:Bool}{w:b_}
def b0(P:e_):Frame:={(default:Frame)with fn:=P.funcs.size,mode:=.panicking [goexitEntry]}
def Ez{c:g_}{b:Array f_}{a:Func}{d:Code}(f:P.funcs[c]?=some a)(h:(a.name== "runtime.NumGoroutine")=false)(e:a.body=some d):
 stepG P main (born P<|dcall c b) w=.go (G ((baseD c).at {tmps:=b++Array.replicate (a.ntmps-b.size) undef,defers:=[]} [.code d]) [b0 P]) w #[]:=by
 have i:¬a.name= "runtime.NumGoroutine" :=by simpa using h
 rw[<-enter_atD b f e];have g:(default:Frame).defers=[]:=rfl;simp[g,born,G,stepG,unwind,callDeferred,dcall,invoke,callFunc,f,i,e,GStep.after,seen_none,b0]
def MM:QuitsIn P 1<|G (b0 P) []:=by refine .inr ⟨rfl,{frame:=b0 P,callers:=[],status:=.finished,dying:=none},λw=>?_,rfl⟩;have a:(default:Frame).defers=[]:=rfl;have b:(default:Frame).todo=[]:=rfl;simp[a,b,G,stepG,unwind,b0,goexitEntry,Frame.catches]
def D_{c:g_}{d:Func}{a:Act}{todo:List Item}(e:a.defers=[])(f:P.funcs[c]?=some d)(b:d.results=#[]):QuitsIn P 2 (G {(baseD c).at a todo with mode:=.returning} [b0 P]):=by refine .inr ⟨rfl,G (b0 P) [],λw=>?_,MM⟩;simp[G,stepG,unwind,doReturn,Frame.at,baseD,e,f,results_none b,events_results_none b,b0,goexitEntry,seen,GStep.after]
def qv(ats:Array d_)(ty:d_)(cn:Array Bool)(a:Nat):Deferred:={target:=.builtin .close ats ty cn,args:=#[.chan<|some a]}
def F5{b:g_}{d:Act}{o:List Item}{m:List Frame}{h:Array d_}{f:d_}{g:Array Bool}{a e l i:Nat}{j:Array f_}{k:Bool}(p:d.defers=[qv h f g a])(n:w.heap[a]?=some (.chan e j false l i k))(r:(P.funcs[b]?).any (·.norace)=false):
 stepG P main (G {(baseD b).at d o with mode:=.returning} m) w=.go (G {(baseD b).at ⟨d.tmps,[]⟩ o with mode:=.returning} m) (w.setChan a e j true l i k) #[⟨.obj a,false,true⟩,⟨.obj a,true,true⟩]:=by
 have q:(invoke (.builtin .close h f g) #[.chan<|some a]).run P w=.ok (.value<|.tuple #[]) (w.setChan a e j true l i k):=by simp[invoke,go_sem,run_close_open _ _ n,World.setChan]
 have c:(invoke (.builtin .close h f g) #[.chan<|some a]).events P w #[]=#[⟨.obj a,false,true⟩,⟨.obj a,true,true⟩]:=by simp[invoke,go_sem,events_close_open _ _ n]
 have s:seen P b #[⟨.obj a,false,true⟩,⟨.obj a,true,true⟩]=#[⟨.obj a,false,true⟩,⟨.obj a,true,true⟩]:=seen_eq r (by intro t c b;simp only[aam,Y7,Zc,aac]at c;rcases c with rfl|rfl<;>simp)
 simp[G,stepG,unwind,callDeferred,Frame.at,baseD,p,qv,q,c,s,GStep.after]
def uT{e:Frame}{a:Act}{f:List Item}{i:List Frame}{d:Array Oper}{g c:Nat}{rest:List Nat}{b:Oper}{t:Tmp}{ats:Array d_}(h:d[g]?=some b)(n:Region.wanted b (yielded d a.tmps)=true)(q:e.kind≠.early)
 (j:b.op=.defer {callee:=.builtin .close,args:=#[.tmp t],argTypes:=ats}) (o:a.eval (.tmp t)=.chan (some c)):
 stepG P main (G (e.at a (.inRegion d (g::rest)::f)) i) w=.go (G (e.at (Act.put ⟨a.tmps,qv ats b.type #[false] c::a.defers⟩ b.dst undef) (.inRegion d rest::f)) i) w #[]:=by
 have l:(execOp a.eval b).run P w=.ok (.defer<|qv ats b.type #[false] c) w:=by unfold execOp;simp[j,resolve,o,qv]
 have p:(execOp a.eval b).events P w #[]=#[]:=by unfold execOp;simp[j,resolve]
 have k:(e.at ⟨a.tmps,qv ats b.type #[false] c::a.defers⟩ (.inRegion d (g::rest)::f)).finish undef=e.at (Act.put ⟨a.tmps,qv ats b.type #[false] c::a.defers⟩ b.dst undef) (.inRegion d rest::f):=by rw[aa2,h];rfl
 have m:(e.kind==CallKind.early)=false:=by simpa using q
 rw[stepG_oper h n,<-k];simp[stepG.apply,l,p,G,Frame.at,m,GStep.after,seen_none]
def Pm{c:Ch}{e:Bool}{f:g_}{b:Func}{a:Act}{todo:List Item}{ats:Array d_}{ty:d_}{cn:Array Bool}(g:a.defers=[qv ats ty cn<|c.c e])(d:P.funcs[f]?=some b)(h:b.results=#[])(j:b.norace=false):
 yQ P c e (G {(baseD f).at a todo with mode:=.returning} [b0 P]) w:=by
 refine⟨rfl,rfl,_,2,λk l m i=>?_,D_ (a:=⟨a.tmps,[]⟩) (todo:=todo) rfl d h⟩;exact F5 g i (by simp[d,j])
def Pn{h:Ch}{j:Bool}{c:Frame}{a:Act}{e:List Item}{f:List Frame}{b:Array Oper}{g:Nat}{rest m:List Nat}{d:Oper}{n o:Operand}{i:f_}{Next:List Nat->c_->b_->Prop}(k:b[g]?=some d)(t:Region.wanted d (yielded b a.tmps)=true)(x:c.kind≠.early)
 (l:d.op=.send n o) (u:a.eval n=.chan (some (h.c j))) (r:a.eval o=i) (s:Next m (G (c.at (a.put d.dst undef) (.inRegion b rest::e)) f) w):BR P h j i Next m (G (c.at a (.inRegion b (g::rest)::e)) f) w:=by
 have q:(execOp a.eval d).run P w=.ok (.comm #[scase (h.c j) i<|.tuple #[]] true .send) w:=by unfold execOp;simp[l,u,r,scase]
 have v:(execOp a.eval d).events P w #[]=#[]:=by unfold execOp;simp[l]
 refine⟨rfl,G (c.at a (.inRegion b (g::rest)::e)) f,.tuple #[],?_,?_⟩
 .rw[stepG_comm k t x q,listed_nil v]
 .have p:(c.at a (.inRegion b (g::rest)::e)).finish undef=c.at (a.put d.dst undef) (.inRegion b rest::e):=by rw[aa2,k];rfl
  have:Conc.served (G (c.at a (.inRegion b (g::rest)::e)) f) undef=G (c.at (a.put d.dst undef) (.inRegion b rest::e)) f:=by unfold Conc.served G;simp only[p]
  rw[this];exact s
end
section
variable {P:e_}{C:Ch}{main:Bool}{a:Act}{A0:List Nat}{w:b_}{A1:Array Oper}{i:Nat}{rest:List Nat}{o:Oper}{n:Nat}{b:Frame}{k:List Item}{cs:List Frame}{Stop:List Nat->c_->b_->Prop}
def qR(g:A1[i]?=some o)(h:Region.wanted o (yielded A1 a.tmps)=true)(j:b.kind≠.early)
 (p:∀c,Rel C A0 w c->uponK o a (λa' e=>xy C A0 c e (listed P b.fn a o c)/\Gb P C main Stop n (grow A0 c e) (G (b.at a' (.inRegion A1 rest::k)) cs) e) ((execOp a.eval o).run P c)):Gb P C main Stop (n+1) A0 (G (b.at a (.inRegion A1 (i::rest)::k)) cs) w:=by
 refine .inr ⟨rfl,λc l=>?_⟩;have d:=p c l
 cases f:(execOp a.eval o).run P c with
 |ok m e=>
  rw[f]at d
  cases m with
  |value q=>exact⟨_,e,_,stepG_value g h j f,rfl,d.1,d.2⟩
  |skip=>exact⟨_,e,_,stepG_none g h j f,rfl,d.1,d.2⟩
  |_=>exact d.elim
 |halt _ _=>rw[f]at d;exact d.elim
def nV{e:f_}(h:A1[i]?=some o)(j:Region.wanted o (yielded A1 a.tmps)=true)(l:b.kind≠.early)(f:∀(w:b_) (d:Result Next->Prop),d (.ok (.value e) w)->d ((execOp a.eval o).run P w))(p:∀w:b_,(execOp a.eval o).events P w #[]=#[])
 (m:Gb P C main Stop n A0 (G (b.at (a.put o.dst e) (.inRegion A1 rest::k)) cs) w):Gb P C main Stop (n+1) A0 (G (b.at a (.inRegion A1 (i::rest)::k)) cs) w:=by
 refine qR h j l λc g=>?_;rw[run_eq_of<|f c];refine⟨?_,by rw[m8];exact m.rel g⟩;rw[listed_nil<|p c];exact .idle ..
def qz(l:A1[i]?=some o)(r:Region.wanted o (yielded A1 a.tmps)=true)(t:b.kind≠.early){e:d_}{h:Operand}(bs:o.op=.load e h){bl off:Nat}(hx:a.eval h=.pointer (some (μ bl off)))
 {f:List f_}{v:f_} (g:qu C bl\/bl∈A0) (m:w.rangeAt bl off f) (hv:ns P e f v) (M:Gb P C main Stop n A0 (G (b.at (a.put o.dst v) (.inRegion A1 rest::k)) cs) w):Gb P C main Stop (n+1) A0 (G (b.at a (.inRegion A1 (i::rest)::k)) cs) w:=by
 refine qR l r t λaa d=>?_;have ec:=mF (d.keep bl g) m;refine QQ ?_;intro hr;rw[hr];refine⟨.read λj s=>?_,by rw[m8];exact M.rel d⟩;have c:=mem_listed s;unfold execOp at c;simp only[bs,hx,Instr.loadAt,Instr.sureAddr,ZG,Zp,ZE,Za,ZH,Z7,nL hv ec]at c;exact xR g (q7 hv ec j c)
def mC{id:Nat}(c:Gb P C main Stop n A0 (G (b.at a (.inRegion A1 (List.range A1.size)::k)) cs) w):Gb P C main Stop (n+1) A0 (G (b.at a (.code (.region id A1 false)::k)) cs) w:=Gb.ctl rfl rfl (λ_=>stepG_region) c
def o5(c:Gb P C main Stop n A0 (G (b.at a k) cs) w):Gb P C main Stop (n+1) A0 (G (b.at a (.inRegion A1 []::k)) cs) w:=Gb.ctl rfl rfl (λ_=>stepG_region_end) c
def nW(e:A1[i]?=some o)(c:Region.wanted o (yielded A1 a.tmps)=false)(d:Gb P C main Stop n A0 (G (b.at (a.put o.dst undef) (.inRegion A1 rest::k)) cs) w):Gb P C main Stop (n+1) A0 (G (b.at a (.inRegion A1 (i::rest)::k)) cs) w:=Gb.ctl rfl rfl (λ_=>stepG_unwanted e c) d
def o6{d c:Code}(e:Gb P C main Stop n A0 (G (b.at a (.code d:: .code c::k)) cs) w):Gb P C main Stop (n+1) A0 (G (b.at a (.code (.seq d c)::k)) cs) w:=Gb.ctl rfl rfl (λ_=>stepG_seq) e
def oz(c:Gb P C main Stop n A0 (G (b.at a k) cs) w):Gb P C main Stop (n+1) A0 (G (b.at a (.code .skip::k)) cs) w:=Gb.ctl rfl rfl (λ_=>stepG_skip) c
def m7{id:Nat}{c:Code}(d:Gb P C main Stop n A0 (G (b.at a (.code c:: .inBlock id::k)) cs) w):Gb P C main Stop (n+1) A0 (G (b.at a (.code (.block id c)::k)) cs) w:=Gb.ctl rfl rfl (λ_=>stepG_block) d
def mu{id:Nat}(c:Gb P C main Stop n A0 (G (b.at a k) cs) w):Gb P C main Stop (n+1) A0 (G (b.at a (.inBlock id::k)) cs) w:=Gb.ctl rfl rfl (λ_=>stepG_inBlock) c
def y0{c:Code}(d:Gb P C main Stop n A0 (G (b.at a (.code c:: .inLoop c::k)) cs) w):Gb P C main Stop (n+1) A0 (G (b.at a (.code (.loop c)::k)) cs) w:=Gb.ctl rfl rfl (λ_=>stepG_loop) d
def nK{c:Code}(d:Gb P C main Stop n A0 (G (b.at a (.code c:: .inLoop c::k)) cs) w):Gb P C main Stop (n+1) A0 (G (b.at a (.inLoop c::k)) cs) w:=Gb.ctl rfl rfl (λ_=>stepG_inLoop) d
def qS{id:Nat}{c:List Item}(d:exitTo id k=some c)(e:Gb P C main Stop n A0 (G (b.at a c) cs) w):Gb P C main Stop (n+1) A0 (G (b.at a (.code (.exit id)::k)) cs) w:=Gb.ctl rfl rfl (λ_=>stepG_exit d) e
def J2{c:Operand}{f d:Code}{e:Bool}(h:a.eval c=.bool e)(g:Gb P C main Stop n A0 (G (b.at a (.code (if e then f else d)::k)) cs) w):Gb P C main Stop (n+1) A0 (G (b.at a (.code (.cond c f d)::k)) cs) w:=Gb.ctl rfl rfl (λ_=>stepG_cond h) g
def Po(c:Gb P C main Stop n A0 (G {b.at a []with mode:=.returning} cs) w):Gb P C main Stop (n+1) A0 (G (b.at a []) cs) w:=Gb.ctl rfl rfl (λ_=>stepG_end) c
def u6(c:A1[i]?=some o)(d:Region.wanted o (yielded A1 a.tmps)=true)(e:b.kind≠.early){cA:d_}(bs:o.op=.alloc cA){z:f_}(cj:∀w,(zeroValue cA).run P w=.ok z w)
 (M:∀aa,Rel C A0 w aa->Gb P C main Stop n (aa.heap.size::A0) (G (b.at (a.put o.dst<|π aa.heap.size) (.inRegion A1 rest::k)) cs) (aa.alloc<|.cells z.cells cA)):Gb P C main Stop (n+1) A0 (G (b.at a (.inRegion A1 (i::rest)::k)) cs) w:=by
 refine qR c d e λaa h₁=>?_;exact Vb
def qA(e:A1[i]?=some o)(f:Region.wanted o (yielded A1 a.tmps)=true)(E:b.kind≠.early){g:d_}{h j:Operand}(p:o.op=.store g h j){bl:Nat}{v:f_}(A:a.eval h=π bl)(s:a.eval j=v)
 {m:Array f_}{q:d_} (B:bl∈A0) (u:w.heap[bl]?=some (.cells m q)) (J:m.size=v.cells.size) (x:(P.info? g).map (·.size)=some v.cells.size) (r:v.cells.all (·.oneCell')=true)
 (z:∀l,Rel C A0 w l->Gb P C main Stop n A0 (G (b.at (a.put o.dst undef) (.inRegion A1 rest::k)) cs) (l.setRow bl v.cells)):Gb P C main Stop (n+1) A0 (G (b.at a (.inRegion A1 (i::rest)::k)) cs) w:=by
 have c:OpB P C main b.fn A1 0 i (λy D F=>Gb P C main Stop n D (G (b.at y (.inRegion A1 rest::k)) cs) F) a A0 w:=AI e f p A s B u J x r z;unfold OpB at c;simp only[e,f,Y_]at c;rcases c with c|⟨L,M,K,I,_,_⟩
 .exact qR e f E c
 .exfalso;have d:=(I w).1;unfold execOp at d;simp only[p,Zp]at d;cases t:(Instr.storeAt g (a.eval h)<|a.eval j).run P w<;>rw[t]at d<;>simp at d
theorem Ea{g:g_}{args:Array Operand}{D:Array d_}{l:Nat}{u:Array f_}{r:f_->List Nat->b_->Prop}(aO:A1[i]?=some o)(bh:Region.wanted o (yielded A1 a.tmps)=true)(hk:b.kind≠.early)(bs:o.op=.call {callee:=.value<|.func g,args,argTypes:=D})
 (L:l6 P C main g u l A0 w r) (E:args.map a.eval=u) (N:∀c j d,r c j d->Gb P C main Stop n j (G (b.at (a.put o.dst c) (.inRegion A1 rest::k)) cs) d):Gb P C main Stop (n+l+3) A0 (G (b.at a (.inRegion A1 (i::rest)::k)) cs) w:=by
 subst E;obtain⟨q,v,hf,g2,eZ,B⟩:=L;have x:∀c,(b.at a (.inRegion A1 (i::rest)::k)).finish c=b.at (a.put o.dst c) (.inRegion A1 rest::k):=λc=>by rw[aa2,aO];rfl
 have t:∀(e:Act) (h:List Nat) (d:b_) (m:List Item),(e.defers=[]/\∀aa,Rel C h d aa->∃c,(results q e.tmps).run P aa=.ok c aa/\(∀f∈(results q e.tmps).events P aa #[],JW C h f)/\r c h aa)->
  Gb P C main Stop (n+1) h (G {(base g).at e m with mode:=.returning} (b.at a (.inRegion A1 (i::rest)::k)::cs)) d:=by
  rintro e h d m ⟨K,A⟩;refine Gb.step rfl λaa y=>?_;obtain⟨c,J,z,I⟩:=A aa y;refine⟨_,aa,_,nZ (b:=base g) rfl K hf J,rfl,.read λf O=>z f<|mem_seen O,?_⟩;rw[m8,x];exact N c h aa I
 have F:Gb P C main Stop (n+2+l) A0 (G ((base g).at {tmps:=args.map a.eval++Array.replicate (q.ntmps-(args.map a.eval).size) undef,defers:=[]} [.code v]) (b.at a (.inRegion A1 (i::rest)::k)::cs)) w:=by
  refine B (base g) [] _ Stop (n+2) rfl (by simp[base]) λf e j d s=>?_
  cases f with
  |normal=>exact Gb.ctl rfl rfl (λ_=>stepG_end) (t e j d [] s)
  |ret=>exact λm=>(t e j d m s).more
  |_=>exact s.elim
 have f:n+l+3=(n+2+l)+1:=om;rw[f];have g1:q.body.isNone=false:=nY eZ;refine Gb.ctl rfl rfl (λaa=>?_) F;exact NM
end
section
variable {P:e_}{C:Ch}{main:Bool}{a:Act}{A0:List Nat}{w w₁ w':b_}{A1:Array Oper}{i:Nat}{rest:List Nat}{o:Oper}{n:Nat}{b:Frame}{k:List Item}{cs:List Frame}{Stop:List Nat->c_->b_->Prop}
def MQ{e:Mark}(d:Neutral e):JW C A0 ⟨.mark e,false,true⟩:=by
 refine⟨⟨λc=>?_,λc=>?_⟩,λg f=>?_⟩
 .simp only[Loc.mark.injEq]at c;exact d.ne_disable c
 .simp only[Loc.mark.injEq]at c;exact d.ne_enable c
 .have:(MemAct.ofEvent ⟨.mark e,false,true⟩).touch?=none:=d.touch;rw[this]at f;cases f
def wL(A0:List Nat)(d:f_):Prop:=∀c,d.ownBlock=some c->c∈A0
def Hd{base g j:Nat}{e:d_}{c:f_}{f:List f_}(h:w.ownsRow base e g c j f)(r:wL A0 c)(l:Rel C A0 w w₁):w₁.ownsRow base e g c j f:=by refine⟨h.1,h.2.imp id ?_⟩;rintro ⟨d,p,q,rfl,m,s,t⟩;exact⟨d,p,q,rfl,m,(l.keep d<|.inr<|r d rfl).trans s,t⟩
def rF(au:A1[i]?=some o)(aA:Region.wanted o (yielded A1 a.tmps)=true)(al:b.kind≠.early){D L:Operand}{h:d_}(Z:o.op=.call {callee:=.builtin .append,args:=#[D,L],argTypes:=#[h,h]})
 {bs:Nat}{f:d_}{d:TypeInfo}{r:f_}{p bytes:Nat} (y:P.underlying h=some (.slice f)) (x:P.info? f=some d) (I:d.zero=some r) (S:d.size=p) (U:d.bytes=bytes) (ab:r.cells.size=p) (V:0<p)
 {v:f_}{nn:Nat}{xs:List f_} (ah:a.eval D=v) (ap:w.ownsRow bs f p v nn xs) (B:wL A0 v)
 {g m c:Nat}{news:List f_} (ag:a.eval L=.slice (some (μ g 0)) m c) (X:g∈A0) (s:news.length=m*p) (ay:w.rangeAt g 0 news) (F:∀l∈news,l.oneCell'=true)
 (aQ:0<m) (J:nn+m<=maxLen) (M:(nn+m)*bytes<=140737488355328) (am:bs<=w.heap.size)
 (aw:∀u w₁ w',Rel C A0 w w₁->w'.ownsRow bs f p u (nn+m) (xs++news)->w₁.grownBy w' v.ownBlock->wL (grow A0 w₁ w') u->Gb P C main Stop n (grow A0 w₁ w') (G (b.at (a.put o.dst u) (.inRegion A1 rest::k)) cs) w'):Gb P C main Stop (n+1) A0 (G (b.at a (.inRegion A1 (i::rest)::k)) cs) w:=by
 refine qR au aA al λw₁ A=>?_;have t:=Hd ap B A;have z:∀q l,news[q]?=some l->w₁.cell? (((μ g 0):Addr).add q)=some l:=λq l az=>by rw[aaX];exact mF (A.keep g<|.inr X) ay q l az
 have ai:=YH am A.size;let⟨u,w',E,af,j,aJ⟩:=run_append_own w₁ bs h o.type f d r p bytes y x I S U ab V v nn xs t (μ g 0) m c news s z F J M ai;refine uponK_append D L h Z ah ag E ⟨⟨j.tape,j.os,j.output,j.size,λK T aq=>j.block K T λf=>aq<|B K f.symm,λan aE=>?_⟩,aw u w₁ w' A af j ?_⟩
 .have aa:=mem_listed aE;rw[events_append_op D L h Z ah ag]at aa;rcases events_append_where w₁ bs h o.type f d r p bytes y x I S U v nn xs t (μ g 0) m c news s z F J M an aa with⟨aR,ae,⟨Y,aG⟩|Y⟩|⟨mk,rfl,ak⟩
  .exact sM ((mem_grow j.size).2<|.inr X) ae aG
  .exact sM ((mem_grow j.size).2<|.inr<|B _ Y.symm) ae rfl
  .exact MQ ak
 .intro K T;rw[mem_grow j.size];rcases af.2 with⟨rfl,aP⟩|⟨Q,aM,aO,rfl,_,aB,_⟩
  .omega
  .have:Q=K:=by simpa[Value.ownBlock]using T
   subst this;have aC:=(YU.1 aB).1;by_cases O:w₁.heap.size<=Q
   .exact .inl ⟨O,aC⟩
   .refine .inr ?_;subst S;subst U;rcases t.2 with⟨rfl,rfl⟩|⟨N,R,ad,rfl,aU,ax,aS,aN,aF,aT⟩
    .let⟨aH,aL,e,ar,_,_⟩:=run_append_own w₁ w₁.heap.size h o.type f d r d.size d.bytes y x I rfl rfl ab V σ 0 xs ⟨t.1,.inl ⟨rfl,rfl⟩⟩ (μ g 0) m c news s z F J M kM;rw[E]at e;simp only[ZT]at e;obtain⟨rfl,rfl⟩:=e;rcases ar.2 with⟨av,_⟩|⟨aK,_,_,W,aj,_⟩
     .cases av
     .simp only[YN,Yz,ZP]at W;obtain⟨⟨rfl,_⟩,_⟩:=W;exact absurd aj O
    .by_cases ac:nn+m<=R
     .have aD:nn*d.size+news.length<=ad.size:=by rw[s,aF,<-abT];exact ZB _ ac
      have e:=acg w₁ h o.type f d y x N nn R ad ax (μ g 0) m c news s z F ac aD;rw[E]at e;simp only[ZT,YN,Yz,ZP]at e;obtain⟨⟨⟨rfl,_⟩,_⟩,_⟩:=e;exact B _ rfl
     .have ao:=t.cells rfl;have aI:nn+m<=9223372036854775807:=by simp only[maxLen]at J;omega
      have e:=ach w₁ h o.type f d r y x I (μ N 0) nn R xs t.1 ao (μ g 0) m c news s z om om (growslice_fits om M);rw[E]at e;simp only[ZT,YN,Yz,ZP]at e;obtain⟨⟨⟨rfl,_⟩,_⟩,_⟩:=e;exact absurd kM O
def Hv(q:A1[i]?=some o)(t:Region.wanted o (yielded A1 a.tmps)=true)(y:b.kind≠.early){g e:d_}{c:Nat}{parts:Array<|Nat×Operand}{cells:Array f_}(l:o.op=.buildSlice g c parts)
 (m:∀(w:b_) (j:Result f_->Prop),j (.ok (.slice (some (μ w.heap.size 0)) c c)<|w.alloc<|.cells cells e)->j ((Instr.buildSlice g c<|parts.map λ(d,f)=>(d,a.eval f)).run P w)) (v:∀w:b_,(Instr.buildSlice g c<|parts.map λ(d,f)=>(d,a.eval f)).events P w #[]=#[])
 (u:∀w₁,Rel C A0 w w₁->Gb P C main Stop n (w₁.heap.size::A0) (G (b.at (a.put o.dst<|.slice (some (μ w₁.heap.size 0)) c c) (.inRegion A1 rest::k)) cs) (w₁.alloc<|.cells cells e)):Gb P C main Stop (n+1) A0 (G (b.at a (.inRegion A1 (i::rest)::k)) cs) w:=by
 refine qR q t y λw₁ p=>?_;have h:=m w₁ (λx=>x=_) rfl;have r:(execOp a.eval o).run P w₁=.ok (.value<|ω w₁.heap.size c c) (w₁.alloc<|.cells cells e):=by unfold execOp;simp only[l,Zp,h,Za,ZE]
 have s:(execOp a.eval o).events P w₁ #[]=#[]:=by unfold execOp;simp only[l,ZG,h,ZH,Z7,v]
 rw[r];exact⟨by rw[listed_nil s];exact .alloc _,by rw[tG];exact u w₁ p⟩
end
