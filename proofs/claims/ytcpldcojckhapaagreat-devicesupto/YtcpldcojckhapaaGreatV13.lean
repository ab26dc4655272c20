import Derived.Test.YtcpldcojckhapaaGreatV7
import Derived.Test.YtcpldcojckhapaaGreatV10
set_option maxRecDepth 100000
set_option maxHeartbeats 16000000
set_option linter.all false
noncomputable section
namespace Go.Proofs.YtcpldcojckhapaaGreat
open Go.Conc Go.Proofs.Tryz Go.RowKit
abbrev Pc:=Nat×a_
structure VS(C:Ch)(B off:Nat)(ps:List Pc)(w:b_):Prop where
 sh:qu C B
 here:∀(j:Nat) (p:Pc),ps[j]?=some p->w.rangeAt B (off+j*2) [ν p.1,.string p.2]
def VS.rel{b:Ch}{a d:Nat}{g:List Pc}{j:List Nat}{f e:b_}(c:VS b a d g f)(h:Rel b j f e):VS b a d g e:=⟨c.sh,λk i l=>mF (h.keep a<|.inl c.sh)<|c.here k i l⟩
open Classical in
def qC (ps:List Pc):List f_:=ps.filterMap λp=>if Pl.nQ p.2 then some (.agg #[.int .i64 p.1,.int .i64 0,.int .i64 (Pl.j2 p.2 0:Nat),.string<|p.2.extract 1<|p.2.size-2])else none
def vV(b:Code):Prop:=∃c a,Tryz.f101.body=some (.seq c<|.seq a<|.block 0<|.loop b)
def AJ(b:Ch)(c:Bool)(B:Code)(N:vV B)(d:Nat)(R:d<1000000)(e:f_):∃P,∀(K:List Nat) (J:b_) (w m F r x A L C u l y g o z j E n v s t D i h:f_),
 Gb prog b false (DW prog b c []) P K (G ((baseD 101).at ⟨#[e,.chan<|some (b.c c),w,m,F,r,x,A,.chan<|some (b.c c),e,ν d,ν d,L,C,u,l,y,g,o,z,j,E,n,v,s,t,D,i,h],[qv #[210] 0 #[false]<|b.c c]⟩ [.code B,.inLoop B,.inBlock 0]) [b0 prog]) J:=by
 obtain⟨S,U,O⟩:=N;have I:=O.symm;simp only[Tryz.f101,Yz,ZN,ZX,Z1]at I;obtain⟨_,_,_,rfl⟩:=I;have hk:(baseD 101).kind≠.early:=by simp[baseD]
 co_apply Exists.intro;intro K J w m F r x A L C u l y g o z j E n v s t D i h;apply B7 ?_;apply ug ?_;co_apply qS rfl;co_apply Po;refine Gb.stop (n:=0) λT Q=>?_;exact Pm (f:=101) (a:=⟨#[e,.chan<|some (b.c c),w,m,F,r,x,A,.chan<|some (b.c c),e,ν d,ν d,.bool false,C,u,l,y,g,o,z,j,E,n,v,s,t,D,i,h],[qv #[210] 0 #[false]<|b.c c]⟩) (todo:=[]) (ats:=#[210]) (ty:=0) (cn:=#[false]) rf func101 rf rf
def TY(a:Ch)(b:Bool)(c:Code)(p:Nat)(d:f_)(i:Nat)(D:c_):Prop:=∃f s o C g q w x u r m h v n l B t e z A y k j:f_,
 D=G ((baseD 101).at ⟨#[d,.chan<|some (a.c b),f,s,o,C,g,q,.chan<|some (a.c b),d,ν p,ν i,w,x,u,r,m,h,v,n,l,B,t,e,z,A,y,k,j],[qv #[210] 0 #[false]<|a.c b]⟩ [.code c,.inLoop c,.inBlock 0]) [b0 prog]
def Sq(a:f_):ns prog 9 [a] a:=⟨kr,_,underlying9,.inr ⟨rfl,rfl⟩⟩
def VT(a:f_):ns prog 3 [a] a:=⟨kr,_,underlying3,.inr ⟨rfl,rfl⟩⟩
def N2(b a:f_):ns prog 178 [b,a] (.agg #[b,a]):=⟨kr,_,underlying178,.inl ⟨rfl,rfl⟩⟩
def Jc{a:List Pc}{b:Nat}{p:Pc}(hp:a[b]?=some p)(M:Pl.nQ p.2):qC (a.drop b)=.agg #[ν p.1,ν 0,ν<|Pl.j2 p.2 0,.string<|p.2.extract 1<|p.2.size-2]::qC (a.drop<|b+1):=by exact Q5
def MN{a:List Pc}{b:Nat}{p:Pc}(hp:a[b]?=some p)(M:¬Pl.nQ p.2):qC (a.drop b)=qC (a.drop<|b+1):=by exact Q5
def wK(a:Ch)(i:Bool)(k:Code)(f c j l:Nat)(h:List Pc)(e:Nat):Prop:=∃m,∀(d:List Nat) (b:b_) (g:c_),Sits a d b->VS a f c h b->TY a i k j (.slice (some (μ f c)) j l) e g->Gb prog a false (DW prog a i<|qC<|h.drop e) m d g b
theorem MO(f:Ch)(V:Bool)(Q:Code)(ap:vV Q)(N o m W:Nat)(w:List Pc)(ao:w.length=m)(aM:m<1000000)(h:Nat)(a:Pc)(F:w[h]?=some a)(an:a.2.size<=4194304)(P:Pl.nQ a.2)(ai:wK f V Q N o m W w (h+1)):wK f V Q N o m W w h:=by
 obtain⟨aV,aN,ab⟩:=ap;have ad:=ab.symm;simp only[Tryz.f101,Yz,ZN,ZX,Z1]at ad;obtain⟨_,_,_,rfl⟩:=ad;have ah:Hid ((prog.info? 178).map (·.size)=some 2):=by show _=_;kernel_rfl
 have au:Hid ((prog.info? 94).map (·.size)=some 3):=by show _=_;kernel_rfl
 obtain⟨aL,aq⟩:=J8 f false;have c:(baseD 101).kind≠.early:=by simp[baseD]
 have aC:h<m:=by rw[<-ao];exact(Yr.1 F).1
 have ax:(h:Int)<m:=om;have ar:Hid (w[h]?=some a):=F;have aG:IntKind.i64.wrap ((h:Int)+1)=((h+1:Nat):Int):=wo;obtain⟨a5,x⟩:=ai;have aR:Hid _:=x;have ag:=Jc F P;have aj:∀B A v,Pl.qD a.2 B A v->B=Pl.j2 a.2 0/\A=a.2.extract 1 (a.2.size-2)/\v=0:=λB A v l=>l.elim (λl=>⟨l.2.1,l.2.2.1,l.2.2.2⟩) λl=>absurd P l.1;clear F ab x P;unfold wK;rw[ag];co_apply Exists.intro;rintro g r a2 af ac ⟨aW,aX,a3,aZ,aF,aH,aQ,aI,aY,a0,aU,aw,aO,az,aP,ay,aS,aK,aT,a4,aA,av,aJ,rfl⟩
 repeat(first|(co_apply mC;simp only[YJ,YA,YI,Nat.reduceAdd,YF,List.range,List.range.loop])|(co_apply nV rfl rf c oZ pj;walk_nrm)|co_apply o5|co_apply o6|co_apply m7|co_apply oz|co_apply mu)
 co_apply J2
 focus (exact rfl)
 simp only[Y_,Y5,reduceIte,YY]
 repeat(first|(co_apply mC;simp only[YJ,YA,YI,Nat.reduceAdd,YF,List.range,List.range.loop])|(co_apply nV rfl rf c oZ pj;walk_nrm)|co_apply o5|co_apply o6|co_apply m7|co_apply oz|co_apply mu)
 co_apply qz rfl rf c rfl (bl:=N) (off:=o+h*2) rf (.inl ac.sh) (ac.here h a ar.o) (N2 _ _);walk_nrm;co_apply u6 rfl rf c rfl zeroValue178;intro i O;have p:=((lz.refl af).step O);replace p:Hid (lz f g r (i.heap.size::g) (i.alloc (.cells #[ν 0,.string ⟨#[]⟩] 178))):=p.alloc _;have z:Hid ((i.alloc (.cells #[ν 0,.string ⟨#[]⟩] 178)).heap[i.heap.size]?=some (.cells #[ν 0,.string ⟨#[]⟩] 178)):=pm;have x:Hid (NC f g i.heap.size):=((lz.refl af).step O).new;clear O;show Gb _ _ _ _ _ _ _ (i.alloc (.cells #[ν 0,.string ⟨#[]⟩] 178));obtain⟨aD,e⟩:=j5 (i.alloc (.cells #[ν 0,.string ⟨#[]⟩] 178));rw[<-e]at p z⊢;obtain⟨b,s⟩:=j5 i.heap.size;rw[<-s]at p z x⊢;clear e s i;walk_nrm;co_apply qA rfl rf c rfl (bl:=b) (v:=.agg #[ν a.1,.string a.2]) rf rf (YD ..) z.o rf ah.o (by simp[Value.cells,Value.oneCell']);intro y R;have I:Hid (lz f g r (b::g) (y.setRow b #[ν a.1,.string a.2])):=(p.o.step R).row x.o _;have L:Hid ((y.setRow b #[ν a.1,.string a.2]).heap[b]?=some (.cells #[ν a.1,.string a.2] 178)):=aae _ _ _ _ _ _ (R.look (.inr (YD ..)) z.o);clear R p z;show Gb _ _ _ _ _ _ _ (y.setRow b #[ν a.1,.string a.2]);obtain⟨ak,e⟩:=j5 (y.setRow b #[ν a.1,.string a.2]);rw[<-e]at I L⊢;clear e y;walk_nrm
 repeat(first|(co_apply mC;simp only[YJ,YA,YI,Nat.reduceAdd,YF,List.range,List.range.loop])|(co_apply nV rfl rf c oZ pj;walk_nrm)|co_apply o5|co_apply o6|co_apply m7|co_apply oz|co_apply mu)
 co_apply qz rfl rf c rfl (bl:=b) (off:=1) rf (.inr (YD ..)) (oG L.o 1 (cs:=[.string a.2]) λu J t=>by cases u with|zero=>simpa using t|succ u=>simp at t) (Sq _)
 walk_nrm;co_apply Ea rfl rf c rfl (aq (b::g) a.2 an ak I.o.o0) (by walk_nrm);rintro J M U ⟨B,A,v,rfl,ae,E⟩;have T:Hid (lz f g r M U):=I.o.trans E;have K:Hid (b∈M):=E.sub b (YD ..);have aa:Hid (U.heap[b]?=some (.cells #[ν a.1,.string a.2] 178)):=E.rel.look (.inr (YD ..)) L.o;obtain⟨rfl,rfl,rfl⟩:=aj B A v ae;clear E I L ae;unfold TX;walk_nrm
 repeat(first|(co_apply mC;simp only[YJ,YA,YI,Nat.reduceAdd,YF,List.range,List.range.loop])|(co_apply nV rfl rf c oZ pj;walk_nrm)|co_apply o5|co_apply o6|co_apply m7|co_apply oz|co_apply mu)
 co_apply u6 rfl rf c rfl zeroValue94;intro d D;have k:=T.o.step D;have X:Hid (NC f g d.heap.size):=k.new;have Z:Hid (d.heap.size≠b):=λa1=>li ((T.o.step D).o0.mine b K.o);replace k:Hid (lz f g r (d.heap.size::M) (d.alloc (.cells #[ν 0,ν 0,.string ⟨#[]⟩] 94))):=k.alloc _;have q:Hid ((d.alloc (.cells #[ν 0,ν 0,.string ⟨#[]⟩] 94)).heap[d.heap.size]?=some (.cells #[ν 0,ν 0,.string ⟨#[]⟩] 94)):=pm;have S:Hid ((d.alloc (.cells #[ν 0,ν 0,.string ⟨#[]⟩] 94)).heap[b]?=some (.cells #[ν a.1,.string a.2] 178)):=xP (D.look (.inr K.o) aa.o);clear D T aa;show Gb _ _ _ _ _ _ _ (d.alloc (.cells #[ν 0,ν 0,.string ⟨#[]⟩] 94));obtain⟨aB,e⟩:=j5 (d.alloc (.cells #[ν 0,ν 0,.string ⟨#[]⟩] 94));rw[<-e]at k q S⊢;obtain⟨j,s⟩:=j5 d.heap.size;rw[<-s]at k q X Z⊢;clear e s d;walk_nrm;co_apply qA rfl rf c rfl (bl:=j) (v:=.agg #[ν 0,ν (Pl.j2 a.2 0),.string (a.2.extract 1 (a.2.size-2))]) rf rf (YD ..) q.o rf au.o (by simp[Value.cells,Value.oneCell']);intro n C;have am:Hid (lz f g r (j::M) (n.setRow j #[ν 0,ν (Pl.j2 a.2 0),.string (a.2.extract 1 (a.2.size-2))])):=(k.o.step C).row X.o _;have al:Hid ((n.setRow j #[ν 0,ν (Pl.j2 a.2 0),.string (a.2.extract 1 (a.2.size-2))]).heap[j]?=some (.cells #[ν 0,ν (Pl.j2 a.2 0),.string (a.2.extract 1 (a.2.size-2))] 94)):=aae _ _ _ _ _ _ (C.look (.inr (YD ..)) q.o);have Y:Hid ((n.setRow j #[ν 0,ν (Pl.j2 a.2 0),.string (a.2.extract 1 (a.2.size-2))]).heap[b]?=some (.cells #[ν a.1,.string a.2] 178)):=yX Z.o (C.look (.inr (Y8 _ K.o)) S.o);clear C k q S;show Gb _ _ _ _ _ _ _ (n.setRow j #[ν 0,ν (Pl.j2 a.2 0),.string (a.2.extract 1 (a.2.size-2))]);obtain⟨aE,e⟩:=j5 (n.setRow j #[ν 0,ν (Pl.j2 a.2 0),.string (a.2.extract 1 (a.2.size-2))]);rw[<-e]at am al Y⊢;clear e n;walk_nrm
 repeat(first|(co_apply mC;simp only[YJ,YA,YI,Nat.reduceAdd,YF,List.range,List.range.loop])|(co_apply nV rfl rf c oZ pj;walk_nrm)|co_apply o5|co_apply o6|co_apply m7|co_apply oz|co_apply mu)
 co_apply J2
 focus (exact rfl)
 simp only[Y_,Y5,reduceIte,YY]
 repeat(first|(co_apply mC;simp only[YJ,YA,YI,Nat.reduceAdd,YF,List.range,List.range.loop])|(co_apply nV rfl rf c oZ pj;walk_nrm)|co_apply o5|co_apply o6|co_apply m7|co_apply oz|co_apply mu)
 co_apply qz rfl rf c rfl (bl:=b) (off:=0) rf (.inr (Y8 _ K.o)) (oG Y.o 0 (cs:=[ν a.1]) (λu J t=>by cases u with|zero=>simpa using t|succ u=>simp at t
 )) (VT _)
 walk_nrm
 co_apply qz rfl rf c rfl (bl:=j) (off:=0) rf (.inr (YD ..)) (oG al.o 0 (cs:=[ν 0,ν (Pl.j2 a.2 0),.string (a.2.extract 1 (a.2.size-2))]) (λq v y=>by
  match q,y with
  |0,y=>simpa using y
  |1,y=>simpa using y
  |2,y=>simpa using y
  |q+3,y=>simp at y
 )) (AX _ _ _)
 walk_nrm
 repeat(first|(co_apply mC;simp only[YJ,YA,YI,Nat.reduceAdd,YF,List.range,List.range.loop])|(co_apply nV rfl rf c oZ pj;walk_nrm)|co_apply o5|co_apply o6|co_apply m7|co_apply oz|co_apply mu)
 refine Gb.stop (n:=0) λu t=>?_;have l:=am.o.step t;have v:=ac.rel l.rel;have x:=l.o0;refine Pn rfl rf c rfl rf rf ?_;rw[qd];co_apply Exists.intro
 repeat(first|(co_apply mC;simp only[YJ,YA,YI,Nat.reduceAdd,YF,List.range,List.range.loop])|(co_apply nV rfl rf c oZ pj;walk_nrm)|co_apply o5|co_apply o6|co_apply m7|co_apply oz|co_apply mu)
 co_apply nK;exact aR.o _ _ _ x v ⟨_,_,_,_,_,_,_,_,_,_,_,_,_,_,_,_,_,_,_,_,_,_,_,rfl⟩
theorem Pp(f:Ch)(V:Bool)(M:Code)(aq:vV M)(J x m W:Nat)(t:List Pc)(ao:t.length=m)(aN:m<1000000)(h:Nat)(a:Pc)(D:t[h]?=some a)(an:a.2.size<=4194304)(L:¬Pl.nQ a.2)(ai:wK f V M J x m W t<|h+1):wK f V M J x m W t h:=by
 obtain⟨aV,aO,ac⟩:=aq;have ad:=ac.symm;simp only[Tryz.f101,Yz,ZN,ZX,Z1]at ad;obtain⟨_,_,_,rfl⟩:=ad;have ah:Hid<|(prog.info? 178).map (·.size)=some 2:=by show _=_;kernel_rfl
 have av:Hid<|(prog.info? 94).map (·.size)=some 3:=by show _=_;kernel_rfl
 obtain⟨aM,ar⟩:=J8 f false;have c:(baseD 101).kind≠.early:=by simp[baseD]
 have aD:h<m:=by rw[<-ao];exact(Yr.1 D).1
 have ay:(h:Int)<m:=om;have au:Hid<|t[h]?=some a:=D;have aH:IntKind.i64.wrap ((h:Int)+1)=((h+1:Nat):Int):=wo;obtain⟨a5,u⟩:=ai;have ap:Hid _:=u;have ag:=MN D L;have ak:∀z y s,Pl.qD a.2 z y s->z=0/\y=⟨#[]⟩/\s=4:=λz y s l=>l.elim (λl=>absurd l.1 L) λl=>⟨l.2.1,l.2.2.1,l.2.2.2⟩;clear D ac u L;unfold wK;rw[ag];co_apply Exists.intro;rintro g q a2 af Q ⟨aW,aX,a3,aZ,aG,aI,aR,aJ,aY,a0,aU,ax,aP,aA,aQ,az,aS,aL,aT,a4,aB,aw,aK,rfl⟩
 repeat(first|(co_apply mC;simp only[YJ,YA,YI,Nat.reduceAdd,YF,List.range,List.range.loop])|(co_apply nV rfl rf c oZ pj;walk_nrm)|co_apply o5|co_apply o6|co_apply m7|co_apply oz|co_apply mu)
 co_apply J2
 focus (exact rfl)
 simp only[Y_,Y5,reduceIte,YY]
 repeat(first|(co_apply mC;simp only[YJ,YA,YI,Nat.reduceAdd,YF,List.range,List.range.loop])|(co_apply nV rfl rf c oZ pj;walk_nrm)|co_apply o5|co_apply o6|co_apply m7|co_apply oz|co_apply mu)
 co_apply qz rfl rf c rfl (bl:=J) (off:=x+h*2) rf (.inl Q.sh) (Q.here h a au.o) (N2 _ _);walk_nrm;co_apply u6 rfl rf c rfl zeroValue178;intro i K;have o:=(lz.refl af).step K;replace o:Hid<|lz f g q (i.heap.size::g)<|i.alloc<|.cells #[ν 0,.string ⟨#[]⟩] 178:=o.alloc _;have w:Hid<|(i.alloc<|.cells #[ν 0,.string ⟨#[]⟩] 178).heap[i.heap.size]?=some (.cells #[ν 0,.string ⟨#[]⟩] 178):=pm;have u:Hid<|NC f g i.heap.size:=((lz.refl af).step K).new;clear K;show Gb _ _ _ _ _ _ _ (i.alloc<|.cells #[ν 0,.string ⟨#[]⟩] 178);obtain⟨aE,e⟩:=j5<|i.alloc<|.cells #[ν 0,.string ⟨#[]⟩] 178;rw[<-e]at o w⊢;obtain⟨b,r⟩:=j5 i.heap.size;rw[<-r]at o w u⊢;clear e r i;walk_nrm;co_apply qA rfl rf c rfl (bl:=b) (v:=.agg #[ν a.1,.string a.2]) rf rf (YD ..) w.o rf ah.o (by simp[Value.cells,Value.oneCell']);intro v N;have E:Hid<|lz f g q (b::g)<|v.setRow b #[ν a.1,.string a.2]:=(o.o.step N).row u.o _;have F:Hid<|(v.setRow b #[ν a.1,.string a.2]).heap[b]?=some (.cells #[ν a.1,.string a.2] 178):=aae _ _ _ _ _ _ (N.look (.inr<|YD ..) w.o);clear N o w;show Gb _ _ _ _ _ _ _ (v.setRow b #[ν a.1,.string a.2]);obtain⟨al,e⟩:=j5<|v.setRow b #[ν a.1,.string a.2];rw[<-e]at E F⊢;clear e v;walk_nrm
 repeat(first|(co_apply mC;simp only[YJ,YA,YI,Nat.reduceAdd,YF,List.range,List.range.loop])|(co_apply nV rfl rf c oZ pj;walk_nrm)|co_apply o5|co_apply o6|co_apply m7|co_apply oz|co_apply mu)
 co_apply qz rfl rf c rfl (bl:=b) (off:=1) rf (.inr<|YD ..) (oG F.o 1 (cs:=[.string a.2]) λZ R Y=>by cases Z with|zero=>simpa using Y|succ Z=>simp at Y) (Sq _)
 walk_nrm;co_apply Ea rfl rf c rfl (ar (b::g) a.2 an al E.o.o0) (by walk_nrm);rintro R I U ⟨z,y,s,rfl,ae,C⟩;have T:Hid<|lz f g q I U:=E.o.trans C;have S:Hid<|b∈I:=C.sub b<|YD ..;have ab:Hid<|U.heap[b]?=some (.cells #[ν a.1,.string a.2] 178):=C.rel.look (.inr<|YD ..) F.o;obtain⟨rfl,rfl,rfl⟩:=ak z y s ae;clear C E F ae;unfold TX;walk_nrm
 repeat(first|(co_apply mC;simp only[YJ,YA,YI,Nat.reduceAdd,YF,List.range,List.range.loop])|(co_apply nV rfl rf c oZ pj;walk_nrm)|co_apply o5|co_apply o6|co_apply m7|co_apply oz|co_apply mu)
 co_apply u6 rfl rf c rfl zeroValue94;intro d B;have k:=T.o.step B;have X:Hid<|NC f g d.heap.size:=k.new;have aa:Hid<|d.heap.size≠b:=λa1=>li<|(T.o.step B).o0.mine b S.o;replace k:Hid<|lz f g q (d.heap.size::I)<|d.alloc<|.cells #[ν 0,ν 0,.string ⟨#[]⟩] 94:=k.alloc _;have p:Hid<|(d.alloc<|.cells #[ν 0,ν 0,.string ⟨#[]⟩] 94).heap[d.heap.size]?=some (.cells #[ν 0,ν 0,.string ⟨#[]⟩] 94):=pm;have P:Hid<|(d.alloc<|.cells #[ν 0,ν 0,.string ⟨#[]⟩] 94).heap[b]?=some (.cells #[ν a.1,.string a.2] 178):=xP<|B.look (.inr S.o) ab.o;clear B T ab;show Gb _ _ _ _ _ _ _ (d.alloc<|.cells #[ν 0,ν 0,.string ⟨#[]⟩] 94);obtain⟨aC,e⟩:=j5<|d.alloc<|.cells #[ν 0,ν 0,.string ⟨#[]⟩] 94;rw[<-e]at k p P⊢;obtain⟨j,r⟩:=j5 d.heap.size;rw[<-r]at k p X aa⊢;clear e r d;walk_nrm;co_apply qA rfl rf c rfl (bl:=j) (v:=.agg #[ν 0,ν 0,.string ⟨#[]⟩]) rf rf (YD ..) p.o rf av.o (by simp[Value.cells,Value.oneCell']);intro n A;have O:Hid<|lz f g q (j::I)<|n.setRow j #[ν 0,ν 0,.string ⟨#[]⟩]:=(k.o.step A).row X.o _;have am:Hid<|(n.setRow j #[ν 0,ν 0,.string ⟨#[]⟩]).heap[j]?=some (.cells #[ν 0,ν 0,.string ⟨#[]⟩] 94):=aae _ _ _ _ _ _ (A.look (.inr<|YD ..) p.o);have aj:Hid<|(n.setRow j #[ν 0,ν 0,.string ⟨#[]⟩]).heap[b]?=some (.cells #[ν a.1,.string a.2] 178):=yX aa.o<|A.look (.inr<|Y8 _ S.o) P.o;clear A k p P;show Gb _ _ _ _ _ _ _ (n.setRow j #[ν 0,ν 0,.string ⟨#[]⟩]);obtain⟨aF,e⟩:=j5<|n.setRow j #[ν 0,ν 0,.string ⟨#[]⟩];rw[<-e]at O am aj⊢;clear e n;walk_nrm
 repeat(first|(co_apply mC;simp only[YJ,YA,YI,Nat.reduceAdd,YF,List.range,List.range.loop])|(co_apply nV rfl rf c oZ pj;walk_nrm)|co_apply o5|co_apply o6|co_apply m7|co_apply oz|co_apply mu)
 co_apply J2
 focus (exact rfl)
 simp only[Y_,Y5,reduceIte,YY]
 repeat(first|(co_apply mC;simp only[YJ,YA,YI,Nat.reduceAdd,YF,List.range,List.range.loop])|(co_apply nV rfl rf c oZ pj;walk_nrm)|co_apply o5|co_apply o6|co_apply m7|co_apply oz|co_apply mu)
 co_apply nK;exact ap.o _ _ _ O.o.o0 (Q.rel O.o.rel) ⟨_,_,_,_,_,_,_,_,_,_,_,_,_,_,_,_,_,_,_,_,_,_,_,rfl⟩
def looks(i:Ch)(e:Bool)(d:Code)(k:vV d)(h f c g:Nat)(b:List Pc)(m:b.length=c)(j:c<1000000)(l:∀y∈b,y.2.size<=4194304):∀o a,a+o=c->wK i e d h f c g b a
 |0,a,x=>by
  obtain⟨X,M⟩:=AJ i e d k c j<|.slice (some (μ h f)) c g;have s:qC (b.drop a)=[]:=by rw[aa6 om];rfl
  unfold wK;rw[s];refine⟨X,?_⟩;rintro R Q Z Y aa ⟨K,A,W,D,L,P,S,T,I,z,N,t,C,O,w,V,B,J,E,F,U,u,v,rfl⟩;have:a=c:=om;subst this;exact M R Q K A W D L P S T I z N t C O w V B J E F U u v
 |o+1,a,x=>by
  have n:a<b.length:=om;have r:=Yw n;have p:=looks i e d k h f c g b m j l o (a+1) om;by_cases q:Pl.nQ b[a].2
  .exact MO i e d k h f c g b m j a _ r (l _ (aan n)) q p
  .exact Pp i e d k h f c g b m j a _ r (l _ (aan n)) q p
theorem MP(a:Ch)(f:Bool)(h g d l:Nat)(e:List Pc)(r:e.length=d)(q:d<1000000)(o:∀p∈e,p.2.size<=4194304)(b:b_)(w:Sits a [] b)(u:VS a h g e b):
 FU prog a f (qC e) [] (born prog<|dcall 101 #[.slice (some (μ h g)) d l,.chan<|some (a.c f)]) b:=by
 obtain⟨i,k⟩:∃i,vV i:=⟨_,_,_,rfl⟩;obtain⟨z,n⟩:=looks a f i k h g d l e r q o d 0 om;have s:Hid _:=n;obtain⟨y,x,v⟩:=k;have m:=v.symm;simp only[Tryz.f101,Yz,ZN,ZX,Z1]at m;obtain⟨_,_,_,rfl⟩:=m;have j:(baseD 101).kind≠.early:=by simp[baseD]
 rw[qd];co_apply Exists.intro;co_apply Gb.ctl rfl rfl (λb=>Ez func101 rf rfl);simp only[ntmps101,YJ,YA,YI,Nat.reduceAdd,Nat.reduceSub,Zu,Zt,ZK,Zz,YT,Y1]
 repeat(first|(co_apply mC;simp only[YJ,YA,YI,Nat.reduceAdd,YF,List.range,List.range.loop])|(co_apply nV rfl rf j oZ pj;walk_nrm)|co_apply o5|co_apply o6|co_apply m7|co_apply oz|co_apply mu)
 co_apply Gb.ctl rfl rfl (λb=>uT (c:=a.c f) (ats:=#[210]) (t:=8) rfl rf j rfl rf);walk_nrm
 repeat(first|(co_apply mC;simp only[YJ,YA,YI,Nat.reduceAdd,YF,List.range,List.range.loop])|(co_apply nV rfl rf j oZ pj;walk_nrm)|co_apply o5|co_apply o6|co_apply m7|co_apply oz|co_apply mu)
 co_apply y0;exact s.o [] b _ w u ⟨_,_,_,_,_,_,_,_,_,_,_,_,_,_,_,_,_,_,_,_,_,_,_,rfl⟩
theorem Jd(a:Ch)(d:Bool)(b:b_):
 FU prog a d [] [] (born prog<|dcall 101 #[σ,.chan<|some (a.c d)]) b:=by
 obtain⟨e,g⟩:∃e,vV e:=⟨_,_,_,rfl⟩;obtain⟨n,j⟩:=AJ a d e g 0 om σ;have i:Hid _:=j;obtain⟨m,l,k⟩:=g;have h:=k.symm;simp only[Tryz.f101,Yz,ZN,ZX,Z1]at h;obtain⟨_,_,_,rfl⟩:=h;have f:(baseD 101).kind≠.early:=by simp[baseD]
 rw[qd];co_apply Exists.intro;co_apply Gb.ctl rfl rfl (λb=>Ez func101 rf rfl);simp only[ntmps101,YJ,YA,YI,Nat.reduceAdd,Nat.reduceSub,Zu,Zt,ZK,Zz,YT,Y1]
 repeat(first|(co_apply mC;simp only[YJ,YA,YI,Nat.reduceAdd,YF,List.range,List.range.loop])|(co_apply nV rfl rf f oZ pj;walk_nrm)|co_apply o5|co_apply o6|co_apply m7|co_apply oz|co_apply mu)
 co_apply Gb.ctl rfl rfl (λb=>uT (c:=a.c d) (ats:=#[210]) (t:=8) rfl rf f rfl rf);walk_nrm
 repeat(first|(co_apply mC;simp only[YJ,YA,YI,Nat.reduceAdd,YF,List.range,List.range.loop])|(co_apply nV rfl rf f oZ pj;walk_nrm)|co_apply o5|co_apply o6|co_apply m7|co_apply oz|co_apply mu)
 co_apply y0;exact i.o [] b _ _ _ _ _ _ _ _ _ _ _ _ _ _ _ _ _ _ _ _ _ _ _
section
variable {P:e_}{C:Ch}{z:f_}{mine:List Nat}{w:b_}{a:Act}{A0:Array Oper}{i:Nat}{rest:List Nat}{o:Oper}{b:Frame}{k:List Item}{cs:List Frame}
def MR{e:uf}{Next:uf->List Nat->c_->b_->Prop}(j:A0[i]?=some o)(p:Region.wanted o (yielded A0 a.tmps)=true)(q:b.kind≠.early)(l:∀w,(execOp a.eval o).run P w=.ok (.comm (mcases C e z) true .select) w)(r:∀w,(execOp a.eval o).events P w #[]=#[])
 (m:∀c d f,e c=some (d::f)->Next (np e c<|some f) mine (G (b.at (a.put o.dst<|zd z c d true) (.inRegion A0 rest::k)) cs) w) (n:∀c,e c=some []->Next (np e c none) mine (G (b.at (a.put o.dst<|zd z c z false) (.inRegion A0 rest::k)) cs) w):
 My P C z e Next mine (G (b.at a (.inRegion A0 (i::rest)::k)) cs) w:=by
 have h:∀d,Conc.served (G (b.at a (.inRegion A0 (i::rest)::k)) cs) d=G (b.at (a.put o.dst d) (.inRegion A0 rest::k)) cs:=λd=>by
  have:(b.at a (.inRegion A0 (i::rest)::k)).finish d=b.at (a.put o.dst d) (.inRegion A0 rest::k):=by rw[aa2,j];rfl
  unfold Conc.served G;simp only[this]
 refine⟨rfl,?_,λc d f g=>?_,λc g=>?_⟩
 .rw[stepG_comm j p q<|l w,listed_nil<|r w];rfl
 .show Next _ mine (Conc.served (G (b.at a (.inRegion A0 (i::rest)::k)) cs)<|zd z c d true) w;rw[h];exact m c d f g
 .show Next _ mine (Conc.served (G (b.at a (.inRegion A0 (i::rest)::k)) cs)<|zd z c z false) w;rw[h];exact n c g
end
def xB{P:e_}(d:Nat)(c:d_)(e:ChanDir)(f:d_)(g h:Option Nat)(w:b_)(j:P.underlying c=some (.chan e f)):Sem.events P (Op.equalIn (d+1) c (.chan g)<|.chan h) w #[]=#[]:=by simp[Op.equalIn,Zm j]
def oy(d c:Option Nat)(w:b_):Sem.events prog (binOp .neq 211 (.chan d)<|.chan c) w #[]=#[]:=by
 have f:binOp .neq 211 (.chan d) (.chan c)=(do pure (.bool<|!(<-Op.equal 211 (.chan d) (.chan c)))):=by simp[binOp]
 rw[f];have e:=xB 9999 211 _ _ d c w underlying211;rw[ZG];unfold Op.equal Op.maxDepth;rw[e];cases (Op.equalIn 10000 211 (.chan d)<|.chan c).run prog w<;>simp
def MS{P:e_}{C:Ch}{g:Bool}{Stop:List Nat->c_->b_->Prop}{j dU:Nat}{mine dE:List Nat}{w:b_}{a dF:Act}{k bW:List Item}{c:g_}{l:Func}{e:Tmp}(s:P.funcs[c]?=some l)(d:l.results=#[.tmp e])(m:a.defers=[]){dG:Frame}{cR:Array Oper}{oc:Oper}{h:List Frame}(aO:cR[dU]?=some oc)
 (M:Gb P C g Stop j mine (G (dG.at (dF.put oc.dst<|a.tmps.getD e undef) (.inRegion cR dE::bW)) h) w):Gb P C g Stop (j+2) mine (G ((base c).at a (.code .ret::k)) (dG.at dF (.inRegion cR (dU::dE)::bW)::h)) w:=by
 refine S1 ?_;intro dD;refine Gb.ctl rfl rfl (λ_=>stepG_ret') (Gb.step rfl λf n=>?_);refine⟨_,f,_,nZ rfl m s (abv d _ P f),rfl,.read λt r=>?_,?_⟩
 .have:=mem_seen r;rw[events_results_tmp d]at this;simp at this
 .rw[m8,dD];exact M.rel n
def gZ:f_:=.agg #[ν 0,ν 0,ν 0,.string ⟨#[]⟩]
structure zQ(C:Ch)(w0:b_)(mine:List Nat)(w:b_)(v:f_)(fs:List Fd):Prop where
 tE:lz C [] w0 mine w
 own:w.ownsRow C.base 134 4 v fs.length<|fs.flatMap Fd.c
 rP:wL mine v
def zQ.step{C:Ch}{f w e:b_}{mine:List Nat}{h:f_}{g:List Fd}(c:zQ C f mine w h g)(d:Rel C mine w e):zQ C f mine e h g:=⟨c.tE.step d,Hd c.own c.rP d,c.rP⟩
def wL.cons{d:List Nat}{c:f_}(f:wL d c)(h:Nat):wL (h::d) c:=λg e=>Y8 _ (f g e)
def zQ.alloc{C:Ch}{d w:b_}{mine:List Nat}{g:f_}{f:List Fd}(c:zQ C d mine w g f)(e:Obj):zQ C d (w.heap.size::mine) (w.alloc e) g f:=
 ⟨c.tE.alloc e,⟨c.own.1,c.own.2.imp id λ⟨q,l,n,h,j,m,p⟩=>⟨q,l,n,h,j,xP m,p⟩⟩,c.rP.cons _⟩
def zQ.row{C:Ch}{h w:b_}{mine:List Nat}{d:f_}{g:List Fd}(c:zQ C h mine w d g){b:Nat}(m:NC C [] b)(p:d.ownBlock≠some b)(e:Array f_):zQ C h mine (w.setRow b e) d g:=
 ⟨c.tE.row m e,⟨c.own.1,c.own.2.imp id λ⟨t,l,n,f,j,r,s⟩=>⟨t,l,n,f,j,yX (λq=>p (by rw[f,q];rfl)) r,s⟩⟩,c.rP⟩
def zQ.app{C:Ch}{n w g f:b_}{mine:List Nat}{q j:f_}{h:List Fd}{p:Fd}(m:zQ C n mine w q h)(r:Rel C mine w g)(s:f.ownsRow C.base 134 4 j (h.length+1)<|h.flatMap Fd.c++p.c)(d:g.grownBy f q.ownBlock)(t:wL (grow mine g f) j):zQ C n (grow mine g f) f j (h++[p]):=by
 have e:=m.step r;refine⟨⟨e.tE.rel.trans ⟨d.tape,d.os,d.output,d.size,λb c=>?_⟩,λb c=>(by cases c),⟨YH e.tE.o0.base d.size,λb c=>?_⟩,e.tE.D3⟩,?_,t⟩
 .rcases c with c|c
  .refine d.block b (Yy c.1 e.tE.o0.base) λl=>?_;rcases m.own.2 with⟨rfl,_⟩|⟨y,u,v,rfl,x,_⟩
   .cases l
   .simp only[Value.ownBlock,Yz]at l;have:=c.1;omega
  .cases c
 .rcases(mem_grow d.size).1 c with c|c
  .exact c.2
  .exact Yy (e.tE.o0.mine b c) d.size
 .simpa using s
def AK(d rest:Code):Prop:=∃e c,Tryz.f102.body=some (.seq e<|.seq c<|.seq (.block 0<|.loop d) rest)
def XZ(m q:Option Nat)(Y:f_)(c rest:Code)(cs:List Frame)(D:c_):Prop:=∃Q T p I R L e s M U W E t N f v O n Z u F y A l g h X B V S J j K x d r:f_,
 D=G ((base 102).at ⟨#[.chan m,.chan q,Q,T,p,Y,I,R,L,e,s,M,U,W,E,t,N,f,v,O,n,Z,u,F,y,A,l,g,h,X,B,V,S,J,j,K,x,d,r],[]⟩ [.code c,.inLoop c,.inBlock 0,.code rest]) cs
def lv(c:Bool->Option (List Fd)):uf:=λd=>(c d).map (·.map Fd.v)
def rG(C:Ch)(d:Bool->Option (List Fd))(c:Bool):Option Nat:=if (d c).isSome then some (C.c c)else none
def oV(d:Bool->Option (List Fd))(e:Bool)(f:Option<|List Fd):Bool->Option (List Fd):=λc=>if c=e then f else d c
def J6(c:Bool->Option (List Fd))(d:Bool)(e:Option<|List Fd):np (lv c) d (e.map (·.map Fd.v))=lv (oV c d e):=by funext s';unfold np lv oV;split<;>rfl
def xH{f:Bool->Option (List Fd)}{g:Bool}{l:f_}{j:List f_}(c:lv f g=some (l::j)):∃e d,f g=some (e::d)/\l=e.v/\j=d.map Fd.v:=by
 unfold lv at c
 cases h:f g with
 |none=>rw[h]at c;cases c
 |some m=>
  rw[h]at c
  cases m with
  |nil=>cases c
  |cons e d=>simp only[aaY,ZW,Yz,aaL]at c;exact⟨e,d,rfl,c.1.symm,c.2.symm⟩
def BW{d:Bool->Option (List Fd)}{e:Bool}(c:lv d e=some []):d e=some []:=by
 unfold lv at c
 cases f:d e with
 |none=>rw[f]at c;cases c
 |some g=>
  rw[f]at c
  cases g with
  |nil=>rfl
  |cons j h=>cases c
def pp(C:Ch)(g:b_)(f rest:Code)(cs:List Frame)(j:List Nat->c_->b_->Prop)(h:Nat)(c:Bool->Option (List Fd))(l:List Fd):Prop:=∃m,∀(mine:List Nat) (w:b_) (e:f_) (d:c_),zQ C g mine w e l->XZ (rG C c false) (rG C c true) e f rest cs d->Gb prog C true (DX prog C gZ j h<|lv c) m mine d w
def xM{w:b_}{b:Nat}{j:d_}{e d h f:f_}(l:w.heap[b]?=some (.cells #[e,d,h,f] j)):w.rangeAt b 0 [e,d,h,f]:=oG l 0 λg m c=>by
 match g,c with
 |0,c=>simpa using c
 |1,c=>simpa using c
 |2,c=>simpa using c
 |3,c=>simpa using c
 |g+4,c=>simp at c
def Tryz.SJ:(prog.info? 134).map (λi=>(i.zero,i.size,i.bytes))=some (some gZ,4,40):=kr
def NI(a b c d:f_):ns prog 134 [a,b,c,d] (.agg #[a,b,c,d]):=⟨kr,_,underlying134,.inl ⟨rfl,rfl⟩⟩
def tc{C:Ch}{a:Act}{o:Oper}(c:Bool->Option (List Fd))(h:o.op=.select #[{chan:=.tmp 16,send:=none,elem:=134},{chan:=.tmp 17,send:=none,elem:=134}] true)(g:a.eval (.tmp 16)=.chan (rG C c false))(e:a.eval (.tmp 17)=.chan (rG C c true))(w:b_):
 (execOp a.eval o).run prog w=.ok (.comm (mcases C (lv c) gZ) true .select) w/\(execOp a.eval o).events prog w #[]=#[]:=by
 have d:mcases C (lv c) gZ=#[{chan:=.chan<|rG C c false,send:=none,zero:=gZ},{chan:=.chan<|rG C c true,send:=none,zero:=gZ}]:=by unfold mcases mL rG lv;cases c false<;>cases c true<;>rfl
 have f:∀w,(zeroValue 134).run prog w=.ok gZ w:=zeroValue134;rw[d];unfold execOp;simp[h,g,e,f]
theorem F7(C:Ch)(w0:b_)(l rest:Code)(Q:AK l rest)(cs:List Frame)(A:List Nat->c_->b_->Prop)(t:Nat)(d:Bool->Option (List Fd))(af:List Fd)(al:af.length<=1000000)(R K:List Fd)(h0:d false=some R)(h1:d true=some K)
 (hn:∀g x xs,d g=some (x::xs)->pp C w0 l rest cs A t (oV d g<|some xs) (af++[x])) (hc:∀g,d g=some []->pp C w0 l rest cs A t (oV d g none) af):pp C w0 l rest cs A (t+1) d af:=by
 obtain⟨x,V,T⟩:=Q;have E:=T.symm;simp only[Tryz.f102,Yz,ZN,ZX,Z1]at E;obtain⟨_,_,⟨_,rfl⟩,rfl⟩:=E;have hk:(base 102).kind≠.early:=by simp[base]
 have aK:rG C d false=some (C.c false):=by unfold rG;rw[h0];rfl
 have e1:rG C d true=some (C.c true):=by unfold rG;rw[h1];rfl
 refine SI ?_;intro e3 e4 gi gh i0 ep ho hq g9 hi hz0 hz1 hz2 gj;co_apply Exists.intro;rintro ap w v F L ⟨ao,aR,ay,aF,aP,aJ,ax,ae,aL,aS,au,aE,ag,aN,Y,az,aO,ac,aw,ah,an,aj,aD,av,aa,Z,aT,ak,ar,aQ,aG,ab,aH,aB,X,ad,rfl⟩;apply pX ?_;apply ug ?_;apply pX ?_;refine Gb.stop (n:=0) λam I=>?_;have gl:=L.step I;refine MR rfl rf hk (λw=>(tc d rfl (nY aK) (nY e1) w).1) (λw=>(tc d rfl (nY aK) (nY e1) w).2) (λg V aq e=>?_) (λg e=>?_)
 .cases g
  .obtain⟨x,xs,h,rfl,rfl⟩:=xH e;obtain⟨u,cB⟩:=e3.o false x xs h;have d0:rG C (oV d false (some xs)) false=some (C.c false):=rfl;have d1:rG C (oV d false (some xs)) true=some (C.c true):=e1;rw[d0,d1]at cB;refine NP ?_;intro dp;co_apply Exists.intro;walk_nrm;apply pX ?_;apply ug ?_;apply pX ?_;apply Qa ?_;intro aM h₂ hA aA hne hc W U;rw[<-U]at hA hc⊢;obtain⟨aI,f⟩:=j5 aM.heap.size;rw[<-f]at hA hc aA hne⊢;apply NJ ?_;intro aZ bT aC bD be U;rw[<-U]at aC bD⊢;walk_nrm;apply pX ?_;apply ug ?_;apply pX ?_;apply NH ?_;intro cT gm ai aV bv U;rw[<-U]at ai aV⊢;obtain⟨s,f⟩:=j5 cT.heap.size;rw[<-f]at ai aV⊢;walk_nrm;co_apply rF rfl rf hk rfl (bs:=C.base) underlying129 hi.o hz0.o hz1.o hz2.o rf om (v:=v) (nn:=af.length) (xs:=af.flatMap Fd.c) rf ai.o.own ai.o.rP (g:=s) (m:=1) (c:=1) (news:=x.c) rf (YD ..) rf (xM aV.o) (by intro S j;simp only[Fd.c,Y7,Zc,aac]at j;rcases j with rfl|rfl|rfl|rfl<;>rfl) om ml om ai.o.tE.o0.base
   intro O N J D y r B;have iF:=ai.o.app D y r B;walk_nrm;apply pX ?_;exact NV
  .obtain⟨x,xs,h,rfl,rfl⟩:=xH e;obtain⟨u,cB⟩:=e3.o true x xs h;have d0:rG C (oV d true (some xs)) false=some (C.c false):=aK;have d1:rG C (oV d true (some xs)) true=some (C.c true):=rfl;rw[d0,d1]at cB;refine NP ?_;intro dp;co_apply Exists.intro;walk_nrm;apply pX ?_;apply ug ?_;apply ug ?_;apply pX ?_;apply Qa ?_;intro aM h₂ hA aA hne hc W U;rw[<-U]at hA hc⊢;obtain⟨aI,f⟩:=j5 aM.heap.size;rw[<-f]at hA hc aA hne⊢;apply NJ ?_;intro aZ bT aC bD be U;rw[<-U]at aC bD⊢;walk_nrm;apply pX ?_;apply ug ?_;apply pX ?_;apply NH ?_;intro cT gm ai aV bv U;rw[<-U]at ai aV⊢;obtain⟨s,f⟩:=j5 cT.heap.size;rw[<-f]at ai aV⊢;walk_nrm;co_apply rF rfl rf hk rfl (bs:=C.base) underlying129 hi.o hz0.o hz1.o hz2.o rf om (v:=v) (nn:=af.length) (xs:=af.flatMap Fd.c) rf ai.o.own ai.o.rP (g:=s) (m:=1) (c:=1) (news:=x.c) rf (YD ..) rf (xM aV.o) (by intro S j;simp only[Fd.c,Y7,Zc,aac]at j;rcases j with rfl|rfl|rfl|rfl<;>rfl) om ml om ai.o.tE.o0.base
   intro O N J D y r B;have iF:=ai.o.app D y r B;walk_nrm;apply pX ?_;exact NV
 .cases g
  .have h:=BW e;obtain⟨u,cB⟩:=e4.o false h;have d0:rG C (oV d false none) false=none:=rfl;have d1:rG C (oV d false none) true=some (C.c true):=e1;rw[d0,d1]at cB;refine NN ?_;intro dp;co_apply Exists.intro;walk_nrm;apply pX ?_;apply ug ?_;apply pX ?_;apply Qa ?_;intro aM h₂ hA aA hne hc W U;rw[<-U]at hA hc⊢;obtain⟨aI,f⟩:=j5 aM.heap.size;rw[<-f]at hA hc aA hne⊢;apply NL ?_;intro aZ bT aC be U;rw[<-U]at aC⊢;walk_nrm;apply pX ?_;apply ug ?_;apply pX ?_;co_apply qS rfl
   repeat(first|(co_apply mC;simp only[YJ,YA,YI,Nat.reduceAdd,YF,List.range,List.range.loop])|(co_apply nV rfl rf hk oZ (by intro _;simp[go_sem,qg,nu,nO,mr,ms,oy, *]);walk_nrm)|(co_apply nW rfl rf;walk_nrm)|co_apply o5|co_apply o6|co_apply m7|co_apply oz|co_apply mu)
   co_apply nK;exact N1
  .have h:=BW e;obtain⟨u,cB⟩:=e4.o true h;have d0:rG C (oV d true none) false=some (C.c false):=aK;have d1:rG C (oV d true none) true=none:=rfl;rw[d0,d1]at cB;refine NN ?_;intro dp;co_apply Exists.intro;walk_nrm;apply pX ?_;apply ug ?_;apply ug ?_;apply pX ?_;apply Qa ?_;intro aM h₂ hA aA hne hc W U;rw[<-U]at hA hc⊢;obtain⟨aI,f⟩:=j5 aM.heap.size;rw[<-f]at hA hc aA hne⊢;apply NL ?_;intro aZ bT aC be U;rw[<-U]at aC⊢;walk_nrm;apply pX ?_;apply ug ?_;apply pX ?_;co_apply qS rfl
   repeat(first|(co_apply mC;simp only[YJ,YA,YI,Nat.reduceAdd,YF,List.range,List.range.loop])|(co_apply nV rfl rf hk oZ (by intro _;simp[go_sem,qg,nu,nO,mr,ms,oy, *]);walk_nrm)|(co_apply nW rfl rf;walk_nrm)|co_apply o5|co_apply o6|co_apply m7|co_apply oz|co_apply mu)
   co_apply nK;exact N1
theorem Eb(C:Ch)(w0:b_)(h rest:Code)(J:AK h rest)(cs:List Frame)(l:List Nat->c_->b_->Prop)(j:Nat)(d:Bool->Option (List Fd))(af:List Fd)(ag:af.length<=1000000)(K:List Fd)(h0:d false=some K)(h1:d true=none)
 (hn:∀f x xs,d f=some (x::xs)->pp C w0 h rest cs l j (oV d f<|some xs) (af++[x])) (hc:∀f,d f=some []->pp C w0 h rest cs l j (oV d f none) af):pp C w0 h rest cs l (j+1) d af:=by
 obtain⟨x,O,N⟩:=J;have s:=N.symm;simp only[Tryz.f102,Yz,ZN,ZX,Z1]at s;obtain⟨_,_,⟨_,rfl⟩,rfl⟩:=s;have hk:(base 102).kind≠.early:=by simp[base]
 have aK:rG C d false=some (C.c false):=by unfold rG;rw[h0];rfl
 have e1:rG C d true=none:=by unfold rG;rw[h1];rfl
 refine SI ?_;intro e3 e4 gi gh i0 ep ho hq g9 hi hz0 hz1 hz2 gj;co_apply Exists.intro;rintro ap w v B D ⟨ak,aQ,aw,aD,aO,aG,au,Z,aH,aR,an,aB,aa,aJ,R,ax,aL,X,aq,ab,ah,ad,az,ao,T,S,aS,ae,am,aP,aE,V,aF,ay,Q,Y,rfl⟩;apply pX ?_;apply ug ?_;apply pX ?_;refine Gb.stop (n:=0) λaj y=>?_;have gl:=D.step y;refine MR rfl rf hk (λw=>(tc d rfl (nY aK) (nY e1) w).1) (λw=>(tc d rfl (nY aK) (nY e1) w).2) (λf O al e=>?_) (λf e=>?_)
 .cases f
  .obtain⟨x,xs,r,rfl,rfl⟩:=xH e;obtain⟨E,cB⟩:=e3.o false x xs r;have d0:rG C (oV d false (some xs)) false=some (C.c false):=rfl;have d1:rG C (oV d false (some xs)) true=none:=e1;rw[d0,d1]at cB;refine NP ?_;intro dp;co_apply Exists.intro;walk_nrm;apply pX ?_;apply ug ?_;apply pX ?_;apply Qa ?_;intro aM h₂ hA aA hne hc W U;rw[<-U]at hA hc⊢;obtain⟨aI,g⟩:=j5 aM.heap.size;rw[<-g]at hA hc aA hne⊢;apply NJ ?_;intro aZ bT aC bD be U;rw[<-U]at aC bD⊢;walk_nrm;apply pX ?_;apply ug ?_;apply pX ?_;apply NH ?_;intro cT gm ai aV bv U;rw[<-U]at ai aV⊢;obtain⟨A,g⟩:=j5 cT.heap.size;rw[<-g]at ai aV⊢;walk_nrm;co_apply rF rfl rf hk rfl (bs:=C.base) underlying129 hi.o hz0.o hz1.o hz2.o rf om (v:=v) (nn:=af.length) (xs:=af.flatMap Fd.c) rf ai.o.own ai.o.rP (g:=A) (m:=1) (c:=1) (news:=x.c) rf (YD ..) rf (xM aV.o) (by intro aN t;simp only[Fd.c,Y7,Zc,aac]at t;rcases t with rfl|rfl|rfl|rfl<;>rfl) om ml om ai.o.tE.o0.base
   intro av ar ac L F u I;have iF:=ai.o.app L F u I;walk_nrm;apply pX ?_;exact NV
  .simp[lv,gh.o]at e
 .cases f
  .have r:=BW e;obtain⟨E,cB⟩:=e4.o false r;have d0:rG C (oV d false none) false=none:=rfl;have d1:rG C (oV d false none) true=none:=e1;rw[d0,d1]at cB;refine NN ?_;intro dp;co_apply Exists.intro;walk_nrm;apply pX ?_;apply ug ?_;apply pX ?_;apply Qa ?_;intro aM h₂ hA aA hne hc W U;rw[<-U]at hA hc⊢;obtain⟨aI,g⟩:=j5 aM.heap.size;rw[<-g]at hA hc aA hne⊢;apply NL ?_;intro aZ bT aC be U;rw[<-U]at aC⊢;walk_nrm;apply pX ?_;apply ug ?_;apply pX ?_;co_apply qS rfl
   repeat(first|(co_apply mC;simp only[YJ,YA,YI,Nat.reduceAdd,YF,List.range,List.range.loop])|(co_apply nV rfl rf hk oZ (by intro _;simp[go_sem,qg,nu,nO,mr,ms,oy, *]);walk_nrm)|(co_apply nW rfl rf;walk_nrm)|co_apply o5|co_apply o6|co_apply m7|co_apply oz|co_apply mu)
   co_apply nK;exact N1
  .simp[lv,gh.o]at e
theorem BX(C:Ch)(w0:b_)(h rest:Code)(K:AK h rest)(cs:List Frame)(l:List Nat->c_->b_->Prop)(j:Nat)(d:Bool->Option (List Fd))(af:List Fd)(ag:af.length<=1000000)(D:List Fd)(h0:d false=none)(h1:d true=some D)
 (hn:∀f x xs,d f=some (x::xs)->pp C w0 h rest cs l j (oV d f<|some xs) (af++[x])) (hc:∀f,d f=some []->pp C w0 h rest cs l j (oV d f none) af):pp C w0 h rest cs l (j+1) d af:=by
 obtain⟨x,O,N⟩:=K;have s:=N.symm;simp only[Tryz.f102,Yz,ZN,ZX,Z1]at s;obtain⟨_,_,⟨_,rfl⟩,rfl⟩:=s;have hk:(base 102).kind≠.early:=by simp[base]
 have aK:rG C d false=none:=by unfold rG;rw[h0];rfl
 have e1:rG C d true=some (C.c true):=by unfold rG;rw[h1];rfl
 refine SI ?_;intro e3 e4 gi gh i0 ep ho hq g9 hi hz0 hz1 hz2 gj;co_apply Exists.intro;rintro ap w v B E ⟨ak,aQ,aw,aD,aO,aG,au,Z,aH,aR,an,aB,aa,aJ,R,ax,aL,X,aq,ab,aj,ad,az,ao,T,S,aS,ae,am,aP,aE,V,aF,ay,Q,Y,rfl⟩;apply pX ?_;apply ug ?_;apply pX ?_;refine Gb.stop (n:=0) λah y=>?_;have gl:=E.step y;refine MR rfl rf hk (λw=>(tc d rfl (nY aK) (nY e1) w).1) (λw=>(tc d rfl (nY aK) (nY e1) w).2) (λf O al e=>?_) (λf e=>?_)
 .cases f
  .simp[lv,gi.o]at e
  .obtain⟨x,xs,r,rfl,rfl⟩:=xH e;obtain⟨F,cB⟩:=e3.o true x xs r;have d0:rG C (oV d true (some xs)) false=none:=aK;have d1:rG C (oV d true (some xs)) true=some (C.c true):=rfl;rw[d0,d1]at cB;refine NP ?_;intro dp;co_apply Exists.intro;walk_nrm;apply pX ?_;apply ug ?_;apply ug ?_;apply pX ?_;apply Qa ?_;intro aM h₂ hA aA hne hc W U;rw[<-U]at hA hc⊢;obtain⟨aI,g⟩:=j5 aM.heap.size;rw[<-g]at hA hc aA hne⊢;apply NJ ?_;intro aZ bT aC bD be U;rw[<-U]at aC bD⊢;walk_nrm;apply pX ?_;apply ug ?_;apply pX ?_;apply NH ?_;intro cT gm ai aV bv U;rw[<-U]at ai aV⊢;obtain⟨A,g⟩:=j5 cT.heap.size;rw[<-g]at ai aV⊢;walk_nrm;co_apply rF rfl rf hk rfl (bs:=C.base) underlying129 hi.o hz0.o hz1.o hz2.o rf om (v:=v) (nn:=af.length) (xs:=af.flatMap Fd.c) rf ai.o.own ai.o.rP (g:=A) (m:=1) (c:=1) (news:=x.c) rf (YD ..) rf (xM aV.o) (by intro aN t;simp only[Fd.c,Y7,Zc,aac]at t;rcases t with rfl|rfl|rfl|rfl<;>rfl) om ml om ai.o.tE.o0.base
   intro av ar ac L I u J;have iF:=ai.o.app L I u J;walk_nrm;apply pX ?_;exact NV
 .cases f
  .simp[lv,gi.o]at e
  .have r:=BW e;obtain⟨F,cB⟩:=e4.o true r;have d0:rG C (oV d true none) false=none:=aK;have d1:rG C (oV d true none) true=none:=rfl;rw[d0,d1]at cB;refine NN ?_;intro dp;co_apply Exists.intro;walk_nrm;apply pX ?_;apply ug ?_;apply ug ?_;apply pX ?_;apply Qa ?_;intro aM h₂ hA aA hne hc W U;rw[<-U]at hA hc⊢;obtain⟨aI,g⟩:=j5 aM.heap.size;rw[<-g]at hA hc aA hne⊢;apply NL ?_;intro aZ bT aC be U;rw[<-U]at aC⊢;walk_nrm;apply pX ?_;apply ug ?_;apply pX ?_;co_apply qS rfl
   repeat(first|(co_apply mC;simp only[YJ,YA,YI,Nat.reduceAdd,YF,List.range,List.range.loop])|(co_apply nV rfl rf hk oZ (by intro _;simp[go_sem,qg,nu,nO,mr,ms,oy, *]);walk_nrm)|(co_apply nW rfl rf;walk_nrm)|co_apply o5|co_apply o6|co_apply m7|co_apply oz|co_apply mu)
   co_apply nK;exact N1
def Ec(C:Ch)(m:b_)(u rest:Code)(D:AK u rest){r:Frame}{l:Act}{d:Array Oper}{t:Nat}{j:List Nat}{oc:Oper}{g:List Item}{s:List Frame}(y:d[t]?=some oc)(v:List Nat->c_->b_->Prop)(c:Bool->Option (List Fd))(h:List Fd)(J:c false=none)(A:c true=none)
 (E:∀mine w e,zQ C m mine w e h->v mine (G (r.at (l.put oc.dst e) (.inRegion d j::g)) s) w):pp C m u rest (r.at l (.inRegion d (t::j)::g)::s) v 0 c h:=by
 obtain⟨ak,aC,K⟩:=D;have f:=K.symm;simp only[Tryz.f102,Yz,ZN,ZX,Z1]at f;obtain⟨_,_,⟨_,rfl⟩,rfl⟩:=f;have hk:(base 102).kind≠.early:=by simp[base]
 have I:rG C c false=none:=by unfold rG;rw[J];rfl
 have F:rG C c true=none:=by unfold rG;rw[A];rfl
 unfold pp;rw[I,F];co_apply Exists.intro;rintro mine w e Z B ⟨ac,az,ai,ao,ax,ar,ah,U,au,aA,ae,an,V,av,N,aj,aw,S,ag,W,aa,X,am,af,Q,O,aB,Y,ad,ay,ap,R,aq,al,L,T,rfl⟩;apply pX ?_;apply ug ?_;co_apply qS rfl;apply pX ?_;co_apply MS func102 rf rfl y;refine Gb.stop (n:=0) λab x=>⟨rfl,?_⟩;exact E _ _ _ (B.step x)
def wf1:Option (List Fd)->Nat
 |none=>0
 |some c=>c.length+1
def Pq:Option (List Fd)->List Fd
 |none=>[]
 |some c=>c
def He(C:Ch)(j:b_)(p rest:Code)(v:AK p rest){bc:Frame}{ac:Act}{u:Array Oper}{z:Nat}{restc:List Nat}{oc:Oper}{kc:List Item}{csc:List Frame}(I:u[z]?=some oc)(h:List Nat->c_->b_->Prop)(t:List Fd)(hA:t.length<=1000000)
 (J:∀d,d.Perm t->∀A1 w K,zQ C j A1 w K d->h A1 (G (bc.at (ac.put oc.dst K) (.inRegion u restc::kc)) csc) w):∀(f:Nat) (c:Bool->Option (List Fd)) (d:List Fd),wf1 (c false)+wf1 (c true)=f->(d++(Pq (c false)++Pq (c true))).Perm t->pp C j p rest (bc.at ac (.inRegion u (z::restc)::kc)::csc) h f c d
 |0,c,d,e,g=>by
  cases r:c false with
  |some y=>rw[r]at e;simp only[wf1]at e;omega
  |none=>
   cases m:c true with
   |some y=>rw[m]at e;simp only[wf1]at e;omega
   |none=>rw[r,m]at g;exact Ec C j p rest v I h c d r m<|J d<|by simpa[Pq]using g
 |f+1,c,d,e,g=>by
  have A:=He C j p rest v (restc:=restc) (kc:=kc) (bc:=bc) (ac:=ac) (csc:=csc) I h t hA J f;have B:d.length<=1000000:=by have:=g.length_eq;rw[Yv]at this;omega
  have E:∀l x s,c l=some (x::s)->pp C j p rest (bc.at ac (.inRegion u (z::restc)::kc)::csc) h f (oV c l<|some s) (d++[x]):=by
   intro l x s q;cases l
   .refine A _ _ ?_ ?_
    .rw[q]at e;show wf1 (some s)+wf1 (c true)=f;simp only[wf1,YA]at e⊢;omega
    .rw[q]at g;show((d++[x])++(Pq (some s)++Pq (c true))).Perm t;simpa[Pq]using g
   .refine A _ _ ?_ ?_
    .rw[q]at e;show wf1 (c false)+wf1 (some s)=f;simp only[wf1,YA]at e⊢;omega
    .rw[q]at g;show((d++[x])++(Pq (c false)++Pq (some s))).Perm t;refine List.Perm.trans ?_ g;simp only[Pq,aaz,abH];exact(List.perm_append_left_iff d).2 List.perm_middle.symm
  have F:∀l,c l=some []->pp C j p rest (bc.at ac (.inRegion u (z::restc)::kc)::csc) h f (oV c l none) d:=by
   intro l q;cases l
   .refine A _ _ ?_ ?_
    .rw[q]at e;show wf1 none+wf1 (c true)=f;simp only[wf1,YI]at e⊢;omega
    .rw[q]at g;exact g
   .refine A _ _ ?_ ?_
    .rw[q]at e;show wf1 (c false)+wf1 none=f;simp only[wf1,YI]at e⊢;omega
    .rw[q]at g;exact g
  cases r:c false with
  |some y=>
   cases m:c true with
   |some D=>exact F7 C j p rest v _ h f c d B y D r m E F
   |none=>exact Eb C j p rest v _ h f c d B y r m E F
  |none=>
   cases m:c true with
   |some D=>exact BX C j p rest v _ h f c d B D r m E F
   |none=>rw[r,m]at e;simp[wf1]at e
section
variable {P:e_}{C:Ch}{main:Bool}{a:Act}{A1:List Nat}{w:b_}{A0:Array Oper}{i:Nat}{rest:List Nat}{o:Oper}{n:Nat}{b:Frame}{k:List Item}{cs:List Frame}{Stop:List Nat->c_->b_->Prop}
theorem Je{d:g_}{args:Array Operand}{g:Array d_}{c:Func}{f:Code}{e:Array f_}(aO:A0[i]?=some o)(bh:Region.wanted o (yielded A0 a.tmps)=true)(hk:b.kind≠.early)(bs:o.op=.call {callee:=.value<|.func d,args,argTypes:=g})(h:args.map a.eval=e)(hf:P.funcs[d]?=some c)(g2:(c.name== "runtime.NumGoroutine")=false)(eZ:c.body=some f)
 (M:Gb P C main Stop n A1 (G ((base d).at {tmps:=e++Array.replicate (c.ntmps-e.size) undef,defers:=[]} [.code f]) (b.at a (.inRegion A0 (i::rest)::k)::cs)) w):Gb P C main Stop (n+1) A1 (G (b.at a (.inRegion A0 (i::rest)::k)) cs) w:=by
 subst h;have g1:c.body.isNone=false:=nY eZ;refine Gb.ctl rfl rfl (λaa=>?_) M;exact NM
theorem Ed{c:g_}{args:Array Operand}{g:Array d_}(f:A0[i]?=some o)(h:Region.wanted o (yielded A0 a.tmps)=true)(j:b.kind≠.early)(d:o.op=.go {callee:=.value<|.func c,args,argTypes:=g}):
 stepG P main (G (b.at a (.inRegion A0 (i::rest)::k)) cs) w=.spawn (G (b.at (a.put o.dst undef) (.inRegion A0 rest::k)) cs) (born P<|dcall c<|args.map a.eval) w #[]:=by
 have e:(execOp a.eval o).run P w=.ok (.spawn<|dcall c<|args.map a.eval) w:=by unfold execOp;simp[d,resolve,dcall,Deferred.ofValue,Act.eval]
 have l:(execOp a.eval o).events P w #[]=#[]:=by unfold execOp;simp[d,resolve,Deferred.ofValue,Act.eval]
 rw[stepG_spawn f h j e rfl,listed_nil l]
end
section
variable {P:e_}{V:Env}{a:Act}{A0:Array Oper}{i:Nat}{rest:List Nat}{o:Oper}{b:Frame}{k:List Item}{cs:List Frame}{I:b_->Prop}{Q:Array c_->b_->Trace->Prop}
def Tr.seq{d c:Code}(e:Cl I)(f:kI P (G (b.at a (.code d:: .code c::k)) cs) I Q):kI P (G (b.at a (.code (.seq d c)::k)) cs) I Q:=kI.ctl e rfl (λ_=>stepG_seq) f
def Tr.skip(d:Cl I)(c:kI P (G (b.at a k) cs) I Q):kI P (G (b.at a (.code .skip::k)) cs) I Q:=kI.ctl d rfl (λ_=>stepG_skip) c
def Tr.block{id:Nat}{c:Code}(d:Cl I)(e:kI P (G (b.at a (.code c:: .inBlock id::k)) cs) I Q):kI P (G (b.at a (.code (.block id c)::k)) cs) I Q:=kI.ctl d rfl (λ_=>stepG_block) e
def Tr.inBlock{id:Nat}(d:Cl I)(c:kI P (G (b.at a k) cs) I Q):kI P (G (b.at a (.inBlock id::k)) cs) I Q:=kI.ctl d rfl (λ_=>stepG_inBlock) c
def Tr.loop{c:Code}(e:Cl I)(d:kI P (G (b.at a (.code c:: .inLoop c::k)) cs) I Q):kI P (G (b.at a (.code (.loop c)::k)) cs) I Q:=kI.ctl e rfl (λ_=>stepG_loop) d
def Tr.inLoop{c:Code}(e:Cl I)(d:kI P (G (b.at a (.code c:: .inLoop c::k)) cs) I Q):kI P (G (b.at a (.inLoop c::k)) cs) I Q:=kI.ctl e rfl (λ_=>stepG_inLoop) d
def Tr.exit{id:Nat}{c:List Item}(d:Cl I)(e:exitTo id k=some c)(f:kI P (G (b.at a c) cs) I Q):kI P (G (b.at a (.code (.exit id)::k)) cs) I Q:=kI.ctl d rfl (λ_=>stepG_exit e) f
def Tr.cond{c:Operand}{d e:Code}{t:Bool}(f:Cl I)(g:a.eval c=.bool t)(h:kI P (G (b.at a (.code (if t then d else e)::k)) cs) I Q):kI P (G (b.at a (.code (.cond c d e)::k)) cs) I Q:=kI.ctl f rfl (λ_=>stepG_cond g) h
def Tr.region{id:Nat}(d:Cl I)(c:kI P (G (b.at a (.inRegion A0 (List.range A0.size)::k)) cs) I Q):kI P (G (b.at a (.code (.region id A0 false)::k)) cs) I Q:=kI.ctl d rfl (λ_=>stepG_region) c
def Tr.nil(d:Cl I)(c:kI P (G (b.at a k) cs) I Q):kI P (G (b.at a (.inRegion A0 []::k)) cs) I Q:=kI.ctl d rfl (λ_=>stepG_region_end) c
def Tr.unwanted(d:Cl I)(e:A0[i]?=some o)(c:Region.wanted o (yielded A0 a.tmps)=false)(f:kI P (G (b.at (a.put o.dst undef) (.inRegion A0 rest::k)) cs) I Q):kI P (G (b.at a (.inRegion A0 (i::rest)::k)) cs) I Q:=kI.ctl d rfl (λ_=>stepG_unwanted e c) f
def Tr.pure{v:f_}(f:Cl I)(g:A0[i]?=some o)(h:Region.wanted o (yielded A0 a.tmps)=true)(j:b.kind≠.early)(e:∀(c:b_) (d:Result Next->Prop),d (.ok (.value v) c)->d ((execOp a.eval o).run P c))(m:∀c:b_,(execOp a.eval o).events P c #[]=#[])
 (l:kI P (G (b.at (a.put o.dst v) (.inRegion A0 rest::k)) cs) I Q):kI P (G (b.at a (.inRegion A0 (i::rest)::k)) cs) I Q:=by
 refine kI.ctl f rfl (λc=>?_) l;rw[stepG_value g h j<|run_eq_of<|e c,listed_nil<|m c]
def Tr.load(w:Cl I)(r:A0[i]?=some o)(z:Region.wanted o (yielded A0 a.tmps)=true)(t:b.kind≠.early){j:d_}{m:Operand}(bs:o.op=.load j m){bl off:Nat}(hx:a.eval m=.pointer (some (μ bl off)))
 {vs:List f_}{v:f_} (y:∀c,I c->c.rangeAt bl off vs) (hv:ns P j vs v) (M:kI P (G (b.at (a.put o.dst v) (.inRegion A0 rest::k)) cs) I Q):kI P (G (b.at a (.inRegion A0 (i::rest)::k)) cs) I Q:=by
 intro d c e s h;refine nR rfl (λl=>?_) d e h;have g:=w c c.tape l s;let⟨aa,u⟩:=j5<|rt c c.tape l;rw[<-u]at g⊢;have ec:=y _ g;refine QQ ?_;intro hr;refine⟨_,aa,_,stepG_value r z t hr,λn A=>?_,λd e h=>M d aa e g h⟩;have f:=mem_listed A;unfold execOp at f;simp only[bs,hx,Instr.loadAt,Instr.sureAddr,ZG,Zp,ZE,Za,ZH,Z7,nL hv ec]at f;let⟨B,x,_⟩:=q7 hv ec n f;simp[pU,x]
theorem Tr.enter{d:g_}{args:Array Operand}{g:Array d_}{c:Func}{e:Code}{vals:Array f_}(f:Cl I)(aO:A0[i]?=some o)(bh:Region.wanted o (yielded A0 a.tmps)=true)(hk:b.kind≠.early)(bs:o.op=.call {callee:=.value<|.func d,args,argTypes:=g})(h:args.map a.eval=vals)(hf:P.funcs[d]?=some c)(g2:(c.name== "runtime.NumGoroutine")=false)(eZ:c.body=some e)
 (M:kI P (G ((base d).at {tmps:=vals++Array.replicate (c.ntmps-vals.size) undef,defers:=[]} [.code e]) (b.at a (.inRegion A0 (i::rest)::k)::cs)) I Q):kI P (G (b.at a (.inRegion A0 (i::rest)::k)) cs) I Q:=by
 subst h;have g1:c.body.isNone=false:=nY eZ;refine kI.ctl f rfl (λaa=>?_) M;exact NM
def Tr.Pr{c:g_}{h:Func}{e:Tmp}(f:Cl I)(l:P.funcs[c]?=some h)(d:h.results=#[.tmp e])(j:a.defers=[]){dG:Frame}{dF:Act}{cR:Array Oper}{dU:Nat}{dE:List Nat}{oc:Oper}{bW:List Item}{g:List Frame}(aO:cR[dU]?=some oc)
 (M:kI P (G (dG.at (dF.put oc.dst<|a.tmps.getD e undef) (.inRegion cR dE::bW)) g) I Q):kI P (G ((base c).at a (.code .ret::k)) (dG.at dF (.inRegion cR (dU::dE)::bW)::g)) I Q:=by
 refine S1 ?_;intro dD;refine kI.ctl f rfl (λ_=>stepG_ret') (kI.ctl f rfl (λm=>?_) (by rw[<-dD]at M;exact M));rw[nZ rfl j l (abv d _ P m),events_results_tmp d,seen_none]
def Tr.wp(p:Fit P V){d:Code}{c:g_}(n:okCode V c d=true){f:Array f_}(r:tB V c f){I:b_->Prop}(j:Cl I){J:Array f_->b_->Prop}(l:∀a,Cl<|J a)
 (q:∀g,I g->d.wp P (λe a w'=>e=.normal/\a.defers=[]/\J a.tmps w') ⟨f,[]⟩ g) (m:∀h,kI P (G ((base c).at ⟨h,[]⟩ k) cs) (J h) Q):kI P (G ((base c).at ⟨f,[]⟩ (.code d::k)) cs) I Q:=kI.wp p n r j l q m
end
section
variable {P:e_}{ops:Array Oper}{md:Region.Mode}{b:Frame}{k:List Item}{cs:List Frame}{Q:Array c_->b_->Trace->Prop}
def ub(P:e_)(Q:Array c_->b_->Trace->Prop)(j:g_)(l:Array f_)(o:b_->Prop)(p:f_->b_->Prop):Prop:=
 ∃a d,P.funcs[j]?=some a/\(a.name== "runtime.NumGoroutine")=false/\a.body=some d/\∀(n:Frame) (i:Act) (c:Array Oper) (g:Nat) (h:List Nat) (oc:Oper) (e:List Item) (f:List Frame),c[g]?=some oc->(∀m,kI P (G (n.at (i.put oc.dst m) (.inRegion c h::e)) f) (p m) Q)->
  kI P (G ((base j).at {tmps:=l++Array.replicate (a.ntmps-l.size) undef,defers:=[]} [.code d]) (n.at i (.inRegion c (g::h)::e)::f)) o Q
def Tr.ent{a:Act}{i:Nat}{rest:List Nat}{c:Oper}{j:g_}{l:Array f_}{d:b_->Prop}{h:f_->b_->Prop}(o:Cl d)(f:ops[i]?=some c)(q:Region.wanted c (yielded ops a.tmps)=true)(u:b.kind≠.early)(g:Enters P c a j l)(n:ub P Q j l d h)
 (r:∀m,kI P (G (b.at (a.put c.dst m) (.inRegion ops rest::k)) cs) (h m) Q):kI P (G (b.at a (.inRegion ops (i::rest)::k)) cs) d Q:=by
 let⟨x,v,s,w,p,t⟩:=n;refine kI.ctl o rfl (λe=>?_) (t b a ops i rest c k cs f r);rw[stepG_enter f q u (g e).1,enter_at _ s p,listed_nil (g e).2]
def OpT(P:e_)(Q:Array c_->b_->Trace->Prop)(ops:Array Oper)(m:Nat)(g:Act->(b_->Prop)->Prop)(a:Act)(f:b_->Prop):Prop:=
 match ops[m]? with
 |none=>False
 |some c=>if Region.wanted c (yielded ops a.tmps)then
  (∃d,(∀e,f e->(execOp a.eval c).run P e=.ok (.value d) e/\∀l∈(execOp a.eval c).events P e #[],pU l)/\g (a.put c.dst d) f)\/
  (∃i j h,Enters P c a i j/\ub P Q i j f h/\(∀d,Cl<|h d)/\∀d,g (a.put c.dst d)<|h d)
  else g (a.put c.dst undef) f
def OpT.mono{n:Nat}{c:Act}{a:b_->Prop}{m l:Act->(b_->Prop)->Prop}(j:Cl a)(h:∀c a,Cl a->m c a->l c a)(d:OpT P Q ops n m c a):OpT P Q ops n l c a:=by
 unfold OpT at*;split
 .simp_all
 .rename_i u p;simp only[p]at d;split
  .rename_i g;simp only[g,Y_]at d;rcases d with⟨e,f,i⟩|⟨r,s,q,f,i,o,t⟩
   .exact .inl ⟨e,f,h _ _ j i⟩
   .exact .inr ⟨r,s,q,f,i,o,λe=>h _ _ (o e) (t e)⟩
  .rename_i g;simp only[g]at d;exact h _ _ j d
def Jf{r:Nat}{rest:List Nat}{p:Act}{n:b_->Prop}(h:Cl n)(s:b.kind≠.early)(a:OpT P Q ops r (λa' I'=>kI P (G (b.at a' (.inRegion ops rest::k)) cs) I' Q) p n):kI P (G (b.at p (.inRegion ops (r::rest)::k)) cs) n Q:=by
 unfold OpT at a;split at a
 .exact a.elim
 .rename_i z j;split at a
  .rename_i e;rcases a with⟨C,d,m⟩|⟨A,B,y,d,m,D,w⟩
   .intro o g i u l;refine nR rfl (λq=>?_) o i l;have f:=h g g.tape q u;let⟨c,x⟩:=j5<|rt g g.tape q;rw[<-x]at f⊢;exact⟨_,c,_,stepG_value j e s (d c f).1,λt v=>(d c f).2 t<|mem_listed v,λo i l=>m o c i f l⟩
   .exact Tr.ent h j e s d m w
  .rename_i e;exact Tr.unwanted h j (by simpa using e) a
def sC(P:e_)(Q:Array c_->b_->Trace->Prop)(b:Frame)(k:List Item)(cs:List Frame)(md:Region.Mode)(ops:Array Oper):Nat->Array Bool->Act->(b_->Prop)->Prop
 |0,a,d,c=>Region.ready md ops a=[]/\kI P (G (b.at d k) cs) c Q
 |f+1,a,d,c=>
  (Region.ready md ops a=[]->kI P (G (b.at d k) cs) c Q)/\
  ∀e∈Region.ready md ops a,OpT P Q ops e (λg h=>sC P Q b k cs md ops f (a.setIfInBounds e true) g h) d c
def F8(m:b.kind≠.early):∀(a t:Nat) (aE:Array Bool) (d:Act) (c:b_->Prop),Cl c->sC P Q b k cs md ops a aE d c->kI P (G (b.at d (.inRegion ops (Region.linearise.go md ops a t aE [])::k)) cs) c Q:=by
 intro a
 induction a with
 |zero=>intro t aE d c e M;simpa[Region.linearise.go]using Tr.nil e M.2
 |succ a l=>
  intro t aE d c e M;let⟨i,g⟩:=M;simp only[Region.linearise.go]
  change kI P (G (b.at d (.inRegion ops (match (Region.ready md ops aE)[t%(Region.ready md ops aE).length]? with
   |some f=>Region.linearise.go md ops a (t/(Region.ready md ops aE).length) (aE.setIfInBounds f true) [f]
   |none=>[].reverse)::k)) cs) c Q
  cases hi:(Region.ready md ops aE)[t%(Region.ready md ops aE).length]? with
  |none=>refine QC ?_;intro g5;simpa using Tr.nil e (i g5)
  |some f=>simp only[];rw[linearise_go_acc,List.reverse_singleton,abH];exact Jf e m (OpT.mono e (λh n j x=>l (t/(Region.ready md ops aE).length) _ h n j x)<|g f<|ZQ hi)
def lK.W6{i:Nat}{c:Oper}{v:f_}{a:Act}{h:b_->Prop}(m:ops[i]?=some c)(l:lK P ops c v a){g:Act->(b_->Prop)->Prop}(j:g (a.put c.dst v) h):OpT P Q ops i g a h:=by
 unfold OpT;simp only[m];rcases l with⟨d,f⟩|⟨d,rfl⟩
 .simp only[d,Y_];exact .inl ⟨v,λe _=>⟨(f e).1,by rw[(f e).2];simp⟩,j⟩
 .simp only[d,YY,Y5];exact j
def Jg{e:Nat}{aY a4:Oper}{v:f_}(j:ops[e]?=some a4)(cI:aY.apart ops a4=true)(jG:∀cs b,aY.op≠.select cs b)(h:∀cs b,a4.op≠.select cs b){f:Act->(b_->Prop)->Prop}{a:Act}{i:b_->Prop}
 (ax:lK P ops aY v a) (M:OpT P Q ops e f (a.put aY.dst v) i):OpT P Q ops e (λg s=>lK P ops aY v g/\f (g.put aY.dst v) s) a i:=by
 refine QA ?_;intro h1 h2 h3 ex;unfold OpT at*;simp only[j]at*;rw[wanted_put a4 a aY.dst v h1]at M;split
 .rename_i bh;simp only[bh,Y_]at M;rw[ab2 a4 h a aY.dst v h1]at M;rcases M with⟨u,c,d⟩|⟨n,o,l,c,d,r,m⟩
  .exact .inl ⟨u,c,ex a ax u,by rw[<-aa' a v u h2];exact d⟩
  .refine .inr ⟨n,o,l,?_,d,r,λu=>⟨ex a ax u,by rw[<-aa' a v u h2];exact m u⟩⟩;unfold Enters at*;rw[ab2 a4 h a aY.dst v h1]at c;exact c
 .exact RB
theorem F9{i:Nat}{aY:Oper}{r:f_}(h:ops[i]?=some aY)(n:∀(j:Nat) (o:Oper) cs b,ops[j]?=some o->o.op≠.select cs b):
 ∀(f:Nat) (aE:Array Bool) (c:Act) (d:b_->Prop),Cl d->
  (∀j a4,ops[j]?=some a4->j≠i->aE.getD j true=false->(∀e∈a4.after,Region.binds md e=true->e.on≠i)->aY.apart ops a4=true)->
  i∈Region.ready md ops aE->lK P ops aY r c->
  sC P Q b k cs md ops f (aE.setIfInBounds i true) (c.put aY.dst r) d->sC P Q b k cs md ops (f+1) aE c d:=by
 intro f
 induction f with
 |zero=>
  intro aE c d m _ hr g H;refine⟨λM=>(by rw[M]at hr;cases hr),λj hj=>?_⟩;by_cases a:j=i
  .subst a;exact g.W6 h H
  .have:=abL hj a;rw[H.1]at this;cases this
 |succ f w=>
  intro aE c d m iy hr g H;refine⟨λM=>(by rw[M]at hr;cases hr),λj hj=>?_⟩;by_cases a:j=i
  .subst a;exact g.W6 h H
  .have h1:=H.2 j<|abL hj a;refine Vn ?_;intro gg a4 ey iz g7;have u:=Jg ey (iy j a4 ey a gg g7) (λcs b=>n i aY cs b h) (λcs b=>n j a4 cs b ey) g h1;refine Vo ?_;intro g6;refine OpT.mono m (λs v t l=>w (aE.setIfInBounds j true) s v t g6 (abL hr<|Ne.symm a) l.1 ?_) u;rw[Array.setIfInBounds_comm _ _ a];exact l.2
def Jh{d f:Nat}{g:Oper}{h:f_}{a:Array Bool}{c:Act}{e:b_->Prop}(l:Cl e)(i:ops[d]?=some g)
 (n:Region.noSelect ops=true) (p:Region.free md ops a d=true) (j:(Region.ready md ops a).contains d=true) (m:lK P ops g h c) (o:sC P Q b k cs md ops f (a.setIfInBounds d true) (c.put g.dst h) e):sC P Q b k cs md ops (f+1) a c e:=
 F9 i (Region.noSelect_spec n) f a c e l (Region.free_spec i p) (by simpa using j) m o
def pE{l:List Nat}{f:Nat}{a:Array Bool}{e:Act}{c:b_->Prop}(d:Region.ready md ops a=l)(h:l≠[])(j:∀g∈l,OpT P Q ops g (λa' I'=>sC P Q b k cs md ops f (a.setIfInBounds g true) a' I') e c):sC P Q b k cs md ops (f+1) a e c:=
 ⟨λi=>absurd (d▸i) h,d▸j⟩
def Ji{g:Array Bool}{c:Act}{e:b_->Prop}(a:Region.ready md ops g=[])(f:kI P (G (b.at c k) cs) e Q):∀h,sC P Q b k cs md ops h g c e
 |0=>⟨a,f⟩
 |_+1=>⟨λ_=>f,λi d=>by rw[a]at d;cases d⟩
def Tr.Ps{id:Nat}{f:Act}{c:b_->Prop}(i:Cl c)(m:b.kind≠.early)(j:P.follows .mixedOrders=true)(o:sC P Q b k cs .any ops ops.size (Array.replicate ops.size false) f c):kI P (G (b.at f (.code (.region id ops true)::k)) cs) c Q:=by intro h a g n d;refine nR rfl (λe=>⟨_,_,_,stepG_region_draw,si,λh g d=>?_⟩) h g d;simp only[Region.schedule,j,ab9,Y_]at d;have l:=i a a.tape (e+1) n;exact F8 m ops.size _ _ f c i o h _ g l d
end
section
variable {P:e_}{A0:Array Oper}{Q:Array c_->b_->Trace->Prop}{i:Nat}{o:Oper}{a:Act}{I:b_->Prop}{K:Act->(b_->Prop)->Prop}
def uU(p:A0[i]?=some o)(q:Region.wanted o (yielded A0 a.tmps)=true){h:d_}{l:Operand}(j:o.op=.load h l){bl off:Nat}(g:a.eval l=.pointer (some (μ bl off))){k:List f_}{v:f_}(d:∀b,I b->b.rangeAt bl off k)(c:ns P h k v)(r:K (a.put o.dst v) I):OpT P Q A0 i K a I:=by
 unfold OpT;simp only[p,q,Y_];refine .inl ⟨v,λb e=>⟨?_,λm f=>?_⟩,r⟩
 .unfold execOp;simp only[j,g,Instr.loadAt,Instr.sureAddr,Zp,ZE,Za,nL c<|d b e]
 .unfold execOp at f;simp only[j,g,Instr.loadAt,Instr.sureAddr,ZG,Zp,ZE,Za,ZH,Z7,nL c<|d b e]at f;let⟨s,n,_⟩:=q7 c (d b e) m f;simp[pU,n]
theorem wN{b:g_}{args:Array Operand}{h:Array d_}{c:Func}{vals:Array f_}(f:o.op=.call {callee:=.value<|.func b,args,argTypes:=h})(j:args.map a.eval=vals)(g:P.funcs[b]?=some c)(e:(c.name== "runtime.NumGoroutine")=false)(d:c.body.isNone=false):Enters P o a b vals:=by subst j;exact λk=>⟨run_call_body f g e d,events_call_body f g e d #[]⟩
def MT(h:A0[i]?=some o)(j:Region.wanted o (yielded A0 a.tmps)=true){d:g_}{e:Array f_}{c:f_->b_->Prop}(l:Enters P o a d e)(f:ub P Q d e I c)(g:∀b,Cl<|c b)(k:∀b,K (a.put o.dst b)<|c b):OpT P Q A0 i K a I:=by unfold OpT;simp only[h,j,Y_];exact .inr ⟨d,e,c,l,f,g,k⟩
def ub.pre{d:g_}{e:Array f_}{I f:b_->Prop}{b:f_->b_->Prop}(s:ub P Q d e I b)(n:∀c,f c->I c):ub P Q d e f b:=by let⟨r,g,h,v,y,w⟩:=s;exact⟨r,g,h,v,y,λx u p q t oc j l m k=>kI.pre (w x u p q t oc j l m k) n⟩
end
def tD(a:Nat×a_):List f_:=[ν a.1,.string a.2]
def pcsUp(a:Nat->Ln):Nat->List (Nat×a_)
 |0=>[]
 |q+1=>if (a q).kind=1 then pcsUp a q++[(q,(a q).bytes)]else pcsUp a q
def vY(b:Nat->Ln):∀a,(pcsUp b a).length<=a
 |0=>YC _
 |a+1=>by
  have:=vY b a;unfold pcsUp;split
  .rw[Yv];simp;omega
  .omega
def ou(a:Ln):Ln:=if a.kind=1 then{a with bytes:=⟨#[]⟩}else a
def Tryz.Nb:(prog.info? 178).map (λa=>(a.zero,a.size,a.bytes))=some (some (.agg #[ν 0,.string ⟨#[]⟩]),2,24):=kr
def PG{h m l:Nat}{c:d_}{g:f_}{j:List f_}{e wr i:b_}{f:Obj}(a:kf h e wr)(k:wr.ownsRow e.heap.size c l g m j)(b:(wr.alloc f).grownBy i g.ownBlock):kf h e i:=by have q:=a.size;have p:(wr.alloc f).heap.size=wr.heap.size+1:=si;refine⟨b.os.trans a.os,b.tape.trans a.tape,b.output.trans a.output,by have:=b.size;omega,λd o n=>?_⟩;refine(b.block d om λc=>?_).trans ((YQ wr f om).trans<|a.block d o n);have:=(k.lt d c.symm).1;omega
def V3(a rest:Code):Prop:=∃c b,Tryz.f68.body=some (.seq c<|.seq b<|.seq a rest)
def k'(c:Array f_->b_->Prop):Exit->Act->b_->Prop
 |.normal,a,b=>a.defers=[]/\c a.tmps b
 |_,_,_=>False
def Eh{e:Array f_->b_->Prop}{a:Exit}{b:Act}{c:b_}(d:k' e a b c):a=.normal/\b.defers=[]/\e b.tmps c:=by
 cases a with
 |normal=>exact⟨rfl,d⟩
 |_=>exact d.elim
def W_(b a:Nat)(c:Nat->Ln)(f:b_)(r:Array f_)(d:b_):Prop:=
 ∃e m M x D y h n A E I v o B i q C l L p w s t K j k J u F:f_,r=#[.slice (some (μ b 0)) a a,undef,σ,e,m,M,x,D,y,h,n,A,E,I,v,o,B,i,q,C,l,L,p,w,s,t,K,j,k,J,u,F]/\d.ownsRow f.heap.size 178 2 e (pcsUp c a).length ((pcsUp c a).flatMap tD)/\kE d b 116 a 3 (λg z=>qk (ou<|c g) z)/\kf b f d
def Gg(A rest:Code)(Q:V3 A rest)(b d:Nat)(a:Nat->Ln)(j:b_)(ab:d<=4)(y:kE j b 116 d 3 λk c=>qk (a k) c):
 A.wp prog (k'<|W_ b d a j) ⟨#[.slice (some (μ b 0)) d d,undef,σ,σ,undef,undef,undef,undef,undef,undef,undef,undef,undef,undef,undef,undef,undef,undef,undef,undef,undef,undef,undef,undef,undef,undef,undef,undef,undef,undef,undef,undef],[]⟩ j:=by
 obtain⟨Z,ai,F⟩:=Q;have B:=F.symm;simp only[Tryz.f68,Yz,ZN]at B;obtain⟨_,_,rfl,_⟩:=B;clear F;obtain⟨L,l,T,R,U⟩:=Y4 Tryz.Nb;have ag:=y.lt;have K:=h_ y;clear y
 go_wp2_with fail
 go_loopw [7,3] (λi S wr=>∃q:Nat,q<=d/\i=ν q/\wr.ownsRow j.heap.size 178 2 S (pcsUp a q).length ((pcsUp a q).flatMap tD)/\kE wr b 116 d 3 (λk c=>qk (if k<q then ou (a k)else a k) c)/\kf b j wr) (λi _ _=>d-(intOf i).toNat)
 case atStart=>exact⟨0,om,rfl,Yq _ _ _ _,K.o.congr λi c _ _=>by simp,kf.refl _ _⟩
 case round=>
  obtain⟨q,W,rfl,s,g,m⟩:=hrel;by_cases t:q<d
  .have ac:=vY a q;have Y:wr.cell? (μ b<|q*3)=some (ν ((a q).kind:Nat)):=by have:=g.cell t (j:=0) om;rw[YE]at this;rw[this,Yo<|aaZ _];rfl
   have O:wr.cell? (μ b<|q*3+1)=some (.string (a q).bytes):=by have:=g.cell t (j:=1) om;rw[this,Yo<|aaZ _];rfl
   have V:=g.frozen<|q*3+1;have h:=h_ s;have o:=h_ g;have n:=h_ m;have aa:(q:Int)<(d:Int):=om;have ad:=m.size;clear s g m;by_cases f:(a q).kind=1
   .have t1:(((a q).kind:Int)==1)=true:=by simp[f]
    have w:Hid<|pcsUp a (q+1)=pcsUp a q++[(q,(a q).bytes)]:=by show _=_;rw[pcsUp,Ys f]
    have r:=h_ f;clear f
    go_wp2_with (at_builtin;refine Zl _ rfl (.tmp 16) (.tmp 24) 131 rfl j.heap.size 178 L (.agg #[ν 0,.string ⟨#[]⟩]) 2 24 underlying131 l T R U rfl dc u3 (pcsUp a q).length _ rfl (h.o.alloc _) (μ wr.heap.size 0) 1 1 [ν q,.string (a q).bytes] rfl rfl (cell_two_new _ _ _ _) (by intro af E;simp at E;rcases E with rfl|rfl<;>rfl) ml om so ?_;intro X z I C _;have J:z.heap[b]?=wr.heap[b]?:=(C.block b so (λe=>by have:=(h.o.lt b e.symm).1;omega)).trans<|YQ wr _ om;have u:=o.o.same J;have ae:z.cell? (μ b<|q*3+1)=some (.string (a q).bytes):=(ZL J).trans O;have ah:=u.frozen<|q*3+1;have P:=h_ u;clear u)
    go_roundw
    case rel=>
     refine⟨q+1,om,gn,?_,?_,?_⟩
     .rw[w.o,Yv,YX];exact jV I (λv N=>Yp z (μ b<|q*3+1) v _ (by have:=(I.lt v N).1;show v≠b;omega))
     .refine(P.o.set t (j:=1) om (.string ⟨#[]⟩)).congr λi c l D=>?_;by_cases e:i=q/\c=1
      .rw[Ys e,e.1,e.2,Ys<|Zo q];simp[qk,ou,r.o]
      .rw[Yo e];by_cases x:i=q
       .subst x;rw[Yo<|aaZ _,Ys<|Zo _];have:c≠1:=λM=>e ⟨rfl,M⟩;unfold ou;rw[Ys r.o];simp[qk,this]
       .exact KB
     .exact(PG n.o h.o C).setCell _ _
    case measure=>simp[intOf];omega
   .have t1:(((a q).kind:Int)==1)=false:=nU;have w:Hid<|pcsUp a (q+1)=pcsUp a q:=by show _=_;rw[pcsUp,Yo f]
    have r:=h_ f;clear f
    go_wp2_with fail
    go_roundw
    case rel=>
     refine⟨q+1,om,gn,by rw[w.o];exact h.o,o.o.congr λi c l D=>?_,n.o⟩;by_cases x:i=q
     .subst x;rw[Yo<|aaZ _,Ys<|Zo _];unfold ou;rw[Yo r.o]
     .exact KB
    case measure=>simp[intOf];omega
  .obtain rfl:q=d:=om;have h:=h_ s;have o:=h_ g;have n:=h_ m;clear s g m;go_wp2;exact⟨rfl,_,_,_,_,_,_,_,_,_,_,_,_,_,_,_,_,_,_,_,_,_,_,_,_,_,_,_,_,_,rfl,h.o,o.o.congr λi c l D=>by rw[Ys l],n.o⟩
def PH(a:Nat)(f:a<=4)(b:b_):Calls prog 162 #[.int .u64 (a:Nat)] b λc d=>∃e,c=.returned (ν e)/\d=b:=by
 rcases(show a=0\/a=1\/a=2\/a=3\/a=4 by omega)with rfl|rfl|rfl|rfl|rfl
 all_goals
  go_enter func162,ntmps162
  go_wp2;go_ret;exact⟨_,rfl,rfl⟩
def Sw(a:Nat)(e:a<=4)(b:b_):Calls prog 131 #[.int .u64 (a:Nat)] b λc f=>∃d,c=.returned (ν d)/\f=b:=by
 go_enter func131,ntmps131
 go_wp2_with fail
 refine(PH a e b).mono ?_;rintro c g ⟨d,rfl,rfl⟩;go_wp2;go_ret;exact⟨_,rfl,rfl⟩
def Nc(b:Nat)(i:b<=1)(c f:f_)(a:b_):Calls prog 153 #[c,ν 0,ν b,f] a λd g=>d=.returned (.tuple #[])/\g=a:=by
 have h:decide ((1:Int)<(b:Int))=false:=so
 go_enter func153,ntmps153
 go_wp2_with fail
 go_loopw [8] (λe wr=>e=ν 1/\wr=a) (λ_ _=>0)
 case atStart=>exact⟨rfl,rfl⟩
 case round=>obtain⟨rfl,rfl⟩:=hrel;go_wp2;exact ab7 (v:=.tuple #[]) (by simp[results,results153,go_sem]) rfl ⟨rfl,rfl⟩
def V4(a:Nat)(f:a<=1)(c e:f_)(h:Int)(b:b_):Calls prog 130 #[c,ν 0,ν a,ν h,e] b λd k=>d=.returned (.tuple #[])/\k=b:=by
 have l:decide ((a:Int)<=12)=true:=so;have j:=h_<|Nc a f c e b
 go_enter func130,ntmps130
 go_wp2_with fail
 go_loopw [1,2] (λi g wr=>i=ν 0/\g=ν a/\wr=b) (λ_ _ _=>0)
 case atStart=>exact⟨rfl,rfl,rfl⟩
 case round=>
  obtain⟨rfl,rfl,rfl⟩:=hrel
  go_wp2_with fail
  refine j.o.mono ?_;rintro d m ⟨rfl,rfl⟩;go_wp2;exact Yx (v:=.tuple #[]) (by simp[results,results130,go_sem]) rfl ⟨rfl,rfl⟩
def sort_1(a e:Nat)(g:a<=1)(f:Option Addr)(d:f_)(c:b_):Calls prog 103 #[.slice f a e,d] c λb i=>b=.returned (.tuple #[])/\i=c:=by
 go_enter func103,ntmps103
 go_wp2_with fail
 refine(Sw a om c).mono ?_;rintro b j ⟨h,rfl,rfl⟩
 go_wp2_with fail
 refine(V4 a g _ d h j).mono ?_;rintro b k ⟨rfl,rfl⟩;go_wp2;exact ab7 (v:=.tuple #[]) (by simp[results,results103,go_sem]) rfl ⟨rfl,rfl⟩
def Xa(c rest:Code):Prop:=∃a b,Tryz.f67.body=some (.seq a<|.seq b<|.seq c rest)
def PJ(b:b_):(Instr.makeChan 172<|ν 0).run prog b=.ok (.chan<|some b.heap.size) (b.alloc<|.chan 0 #[] false 0 0 false):=by
 have c:∃a,prog.info? 134=some a:=by
  cases c:prog.info? 134 with
  |none=>have:(prog.info? 134).isSome=true:=kr;rw[c]at this;cases this
  |some a=>exact⟨a,rfl⟩
 let⟨a,d⟩:=c;simp[Instr.makeChan,asInt,asIntOf,Zm underlying172,typeInfo,d]
def Nd(k rest:Code)(n:Xa k rest)(a:b_)(l f h d e:f_)(g:Array f_->b_->Prop)(m:∀(b:Bool) (o:Nat),g #[l,undef,σ,f,.chan (some (if b then a.heap.size else a.heap.size+1)),.chan (some (if b then a.heap.size+1 else a.heap.size)),undef,h,d,e,.chan (some (if b then a.heap.size else a.heap.size+1)),.chan (some (if b then a.heap.size+1 else a.heap.size)),undef,undef,undef,undef,undef,undef,undef,undef,undef,undef,undef,undef,undef,undef]<|((a.alloc<|.chan 0 #[] false 0 0 false).alloc<|.chan 0 #[] false 0 0 false).drewN o):
 k.wp prog (k' g) ⟨#[l,undef,σ,f,undef,undef,undef,h,d,e,undef,undef,undef,undef,undef,undef,undef,undef,undef,undef,undef,undef,undef,undef,undef,undef],[]⟩ a:=by
 let⟨b,q,i⟩:=n;have c:=i.symm;simp only[Tryz.f67,Yz,ZN]at c;obtain⟨_,_,rfl,_⟩:=c;clear i;have j:=h_ m;have p:=PJ;clear m
 go_region_with (simp only[p])
 .exact⟨rfl,j true _⟩
 .exact⟨rfl,j false _⟩
section
variable {O:Nat->Bool}
def lB (D:j4)(fs:List Fd):j4×List (Int×Int×Int×a_):=
 fs.foldl (λp f=>((kD p.1 f.line 0 f.unit f.body).1,p.2++(kD p.1 f.line 0 f.unit f.body).2)) (D,[])
def wU(b:j4)(c:List Fd)(a:Fd):lB b (c++[a])=((kD (lB b c).1 a.line 0 a.unit a.body).1,(lB b c).2++(kD (lB b c).1 a.line 0 a.unit a.body).2):=by unfold lB;rw[aay];rfl
def vZ{d:j4}(f:kQ d)(c:List Fd):∀a,a<=c.length->kQ (lB d<|c.take a).1/\oa d (lB d<|c.take a).1/\(lB d<|c.take a).1.arr<=d.arr+a/\(lB d<|c.take a).2.length<=20*a
 |0,_=>⟨f,oa.refl _,YC _,YC _⟩
 |a+1,j=>by
  obtain⟨b,i⟩:∃b,c[a]?=some b:=⟨_,Yw om⟩;let⟨e,h,m,l⟩:=vZ f c a om;rw[m9 c a b i,wU];let⟨g,k⟩:=tT (lB d<|c.take a).1 b.line 0 b.unit b.body;have n:=sY e b.line 0 b.unit b.body;refine⟨yc e ..,h.trans g,?_,?_⟩
  .show(kD ..).1.arr<=_;omega
  .show(_++_:List _).length<=_;rw[Yv];omega
def Ju{i b d l j m:Nat}{n:Nat->Nat}{g:f_}{a:List f_}{e f:b_}(c:e.ownsRow b 134 4 g d a)(k:lC i (lS O l j m n) e f):f.ownsRow b 134 4 g d a:=
 jV c (λh o=>by let⟨p,q⟩:=jU c h o;exact k.keep h p 134 q rfl)
def Jv{b:b_}{e k:Nat}{c:Option Addr}{l:List Fd}(M:b.ownsRow e 134 4 (.slice c l.length k) l.length<|l.flatMap Fd.c)(q:Nat)(x:Fd)(hx:l[q]?=some x):
 ∃a,c=some (μ a 0)/\a<b.heap.size/\b.cell? (μ a<|q*4)=some (ν x.line)/\b.cell? (μ a<|q*4+1)=some (ν 0)/\b.cell? (μ a<|q*4+2)=some (ν x.unit)/\b.cell? (μ a<|q*4+3)=some (.string x.body):=by
 let⟨f,d,g,i⟩:=i_ M;obtain⟨rfl,rfl⟩:f=c/\d=k:=by simpa using g.symm
 refine J' ?_;intro mY cE;obtain⟨a,rfl,h,hc⟩:=i q mY;refine⟨a,rfl,h,?_,?_,?_,?_⟩
 .have:=kj Fd.c 4 (λ_=>rfl) l q 0 mY om;exact GF
 .have:=kj Fd.c 4 (λ_=>rfl) l q 1 mY om;rw[hc _ om,this,cE];rfl
 .have:=kj Fd.c 4 (λ_=>rfl) l q 2 mY om;rw[hc _ om,this,cE];rfl
 .have:=kj Fd.c 4 (λ_=>rfl) l q 3 mY om;rw[hc _ om,this,cE];rfl
def Xb(a rest:Code):Prop:=∃d b c,Tryz.f30.body=some (.seq d<|.seq b<|.seq (.seq c a) rest)
structure V5(D:j4)(f:Fd):Prop where
 line:f.line<D.nl
 kind:(D.ln f.line).kind=1
 un:f.unit<256
 lo:1<=f.body.size
 hi:f.body.size<=253
def V7(O:Nat->Bool)(c e g:Nat)(h:Nat->Nat)(a:j4)(b:List Fd)(i:b_)(r:Array f_)(d:b_):Prop:=
 ∃f y m J w C x j n z D E u o A k q B l I p v s t F:f_,r=#[π c,undef,σ,f,m,J,w,C,x,j,n,z,D,E,u,o,A,k,q,B,l,I,p,v,s,t,F]/\d.ownsRow i.heap.size 77 4 f (lB a b).2.length ((lB a b).2.flatMap ku)/\j1 O d c e g h y (lB a b).1/\lC a.base (lS O c e g h) i d
def PK(S rest:Code)(ak:Xb S rest)(c j h:Nat)(i:Nat->Nat)(o:f_)(a:j4)(af:List Fd)(B y:Nat)(D:Option Addr)(aC au ad:f_)(d:b_)(M:j1 O d c j h i o a)(T:kQ a)(aR:a.arr<=300000000)(aQ:af.length<=4)(N:∀aj∈af,V5 a aj)(b:d.ownsRow B 134 4 (.slice D af.length y) af.length<|af.flatMap Fd.c):
 S.wp prog (k'<|V7 O c j h i a af d) ⟨#[π c,undef,σ,σ,undef,undef,π c,π c,aC,au,ad,.slice D af.length y,ν af.length,ν 0,undef,undef,undef,undef,undef,undef,undef,undef,undef,undef,undef,undef,undef],[]⟩ d:=by
 let⟨x,aT,aM,Y⟩:=ak;have F:=Y.symm;simp only[Tryz.f30,Yz,ZN]at F;obtain⟨_,_,⟨_,rfl⟩,_⟩:=F;clear Y;let⟨ac,ae,aE,al,aF⟩:=Y4 Tryz.po;have aB:=h_<|vZ T af;have eI:=h_ N;have an:=h_ M;have ao:=h_ b;clear M b T N
 go_wp2_with fail
 go_loopw [13,3] (λq aG wr=>∃(n:Nat) (o:f_),n<=af.length/\q=ν n/\wr.ownsRow d.heap.size 77 4 aG (lB a<|af.take n).2.length ((lB a<|af.take n).2.flatMap ku)/\j1 O wr c j h i o (lB a<|af.take n).1/\wr.ownsRow B 134 4 (.slice D af.length y) af.length (af.flatMap Fd.c)/\lC a.base (lS O c j h i) d wr) (λq _ _=>af.length-(intOf q).toNat)
 case atStart=>exact⟨0,o,YG _,rfl,Yq ..,an,ao,lC.refl ..⟩
 case round=>
  obtain⟨n,aw,aD,rfl,b,e,v,hF⟩:=hrel;by_cases mY:n<af.length
  .refine SZ ?_;intro x hx cY e1;have g:=wU a (af.take n) x;rw[<-e1]at g;let⟨u,l,K,ay⟩:=aB n aD;let⟨w,I⟩:=j5<|(lB a<|af.take n).1;obtain⟨R,Z⟩:=j5<|(lB a<|af.take n).2;rw[<-I]at e g u l K;rw[<-Z]at b g ay;have aa:=sY u x.line 0 x.unit x.body;obtain⟨aK,rfl,aS,f0,f1,f2,f3⟩:=Jv v n x hx;obtain⟨W,z⟩:=j5<|wr.alloc<|.cells #[ν x.line,ν 0,ν x.unit,.string x.body] 134;have f:=ba z;have Q:w.base=a.base:=l.base;have E:=h_ (CX c j h x.line 0 x.unit i aw w x.body W (e.mR f) u (by rw[l.nl];exact cY.line) (by rw[l.ln,cY.kind];omega) ⟨(show(0:Nat)<65536 by decide),cY.un,cY.lo,cY.hi⟩ om);rw[Q]at E;have C:=h_<|hF.kt f;have J:=h_<|jY b f;have P:=h_<|jY v f;have aP:=C.o.size;have iO:=h_ g;clear f b e v hF g e1 cY u l K hx Q I Z
   go_wp2_with fail
   rw[<-z];clear z f0 f1 f2 f3;refine E.o.mono ?_;rintro aN ag ⟨aH,jh,rfl,m,X,r⟩;obtain⟨s,A⟩:=j5<|(kD w x.line 0 x.unit x.body).2;rw[<-A]at m aa;obtain⟨ap,az,rfl,_⟩:=i_ m;have jl:=h_ A;have ji:=h_ X;have ca:=h_<|C.o.trans r;have ce:=h_<|GO J r;have U:=h_<|Ju P r;have ax:=h_ m;have ai:=ca.o.size;clear m X r E A C J P;have aO:R.length+s.length<=100:=om
   go_wp2_with (at_builtin;refine mU rfl (.tmp 17) (.tmp 23) 31 rfl d.heap.size W.heap.size 77 ac _ 4 40 underlying31 ae aE al aF rfl dc _ R.length _ rfl ce (.slice ap s.length az) s.length (s.flatMap ku) rfl ax (oC _) ml om ai ?_;intro aL av V gt)
   refine Vt ?_;intro hI bE hH;have jj:=h_ (jV (w':=av) U.o (λL aA=>by obtain⟨aq,ar⟩:=jU U.o L aA;exact bE.keep L aq 134 ar rfl));have jk:=h_ V;clear V gt bE
   go_roundw
   case rel=>exact Ra
   case measure=>exact mz
  .obtain rfl:n=af.length:=om;rw[aal]at b e;have ab:=h_ b;have ah:=h_ e;have am:=h_ hF;obtain⟨aI,aJ,rfl,_⟩:=i_ b;clear b e hF v;go_wp2;exact⟨rfl,_,_,_,_,_,_,_,_,_,_,_,_,_,_,_,_,_,_,_,_,_,_,_,_,_,rfl,ab,ah,am⟩
end
def PL{n:Nat}{s:Nat->Nat}(f:∀a e,a<e->e<n->s a<s e)(g:∀a,a<n->s a<n):∀a,a<n->s a=a:=by
 have h:∀a,a<n->a<=s a:=by
  intro a
  induction a with
  |zero=>intro _;exact YG _
  |succ a d=>intro b;have:=d om;have:=f a (a+1) om b;omega
 have i:∀c a,a+c+1=n->s a+c+1<=n:=by
  intro c
  induction c with
  |zero=>intro a b;have:=g a om;omega
  |succ c d=>intro a b;have:=d (a+1) om;have:=f a (a+1) om om;omega
 intro a b;have j:=h a b;have k:=i (n-a-1) a om;omega
structure Laid(n:Nat)(l f:Nat->Fd):Prop where
 map:∃s:Nat->Nat,(∀p,p<n->s p<n/\f p=l (s p))/\∀p q,p<n->q<n->s p=s q->p=q
def Laid.refl(d:Nat)(a:Nat->Fd):Laid d a a:=⟨λc=>c,λ_ e=>⟨e,rfl⟩,λ_ _ _ _ b=>b⟩
def wV(a:Nat->Fd)(d c:Nat):Nat->Fd:=λb=>if b=d then a c else if b=c then a d else a b
def Laid.swap{l b a:Nat}{u y:Nat->Fd}(K:Laid l u y)(t:b<l)(C:a<l)(w:b≠a):Laid l u (wV y b a):=by
 let⟨f,r,N⟩:=K.map;refine⟨λc=>if c=b then f a else if c=a then f b else f c,λh q=>?_,λh k q J F=>?_⟩
 .unfold wV;by_cases e:h=b
  .simp only[e,Y_];exact r a C
  .by_cases j:h=a
   .simp only[j,Y_,Yo (show¬a=b from λd=>w d.symm)];exact r b t
   .simp only[Yo e,Yo j];exact r h q
 .have D:∀c,c<l->∃o,o<l/\(if c=b then f a else if c=a then f b else f c)=f o/\(c=b->o=a)/\(c=a->o=b)/\(c≠b->c≠a->o=c):=λc O=>by
   by_cases e:c=b
   .exact⟨a,C,by rw[Ys e],λ_=>rfl,λd=>absurd (e.symm.trans d) w,λd=>absurd e d⟩
   .by_cases j:c=a
    .exact⟨b,t,by rw[Yo e,Ys j],λd=>absurd d e,λ_=>rfl,λ_ d=>absurd j d⟩
    .exact⟨c,O,by rw[Yo e,Yo j],λd=>absurd d e,λd=>absurd d j,λ_ _=>rfl⟩
  let⟨x,L,Q,v,E,s⟩:=D h q;let⟨z,P,I,A,B,p⟩:=D k J;have M:=Q.symm.trans<|F.trans I;have R:=N x z L P M;by_cases n:h=b
  .by_cases i:k=b
   .omega
   .by_cases g:k=a
    .have:=v n;have:=B g;omega
    .have:=v n;have:=p i g;omega
  .by_cases m:h=a
   .by_cases i:k=b
    .have:=E m;have:=A i;omega
    .by_cases g:k=a
     .omega
     .have:=E m;have:=p i g;omega
   .by_cases i:k=b
    .have:=s n m;have:=A i;omega
    .by_cases g:k=a
     .have:=s n m;have:=B g;omega
     .have:=s n m;have:=p i g;omega
def Laid.sorted{c:Nat}{h i:Nat->Fd}(o:Laid c h i)(m:∀a b,a<b->b<c->(h a).line<(h b).line)(q:∀a b,a<b->b<c->(i a).line<=(i b).line):∀a,a<c->i a=h a:=by
 let⟨d,f,s⟩:=o.map
 have k:=PL (λa b p j=>by
  let⟨r,n⟩:=f a om;let⟨t,l⟩:=f b j;have:=q a b p j;rw[n,l]at this;rcases ab5 (d a) (d b)with e|e|e
  .exact e
  .have:=s a b om j e;omega
  .have:=m (d b) (d a) e r;omega) λa g=>(f a g).1
 intro a g;rw[(f a g).2,k a g]
def PM(e c:Nat)(b:Nat->Fd):Prop:=(∀d a,d<a->a<=e->d≠c->a≠c->(b d).line<=(b a).line)/\∀a,c<a->a<=e->(b c).line<(b a).line
def PM.start{c:Nat}{d:Nat->Fd}(g:∀b a,b<a->a<c->(d b).line<=(d a).line):PM c c d:=⟨λb a e f _ h=>g b a e om,λa e f=>by omega⟩
def PM.step{j a:Nat}{b:Nat->Fd}(f:PM j a b)(p:0<a)(q:a<=j)(n:(b a).line<(b<|a-1).line):PM j (a-1) (wV b a<|a-1):=by
 have i:∀e,wV b a (a-1) e=if e=a then b (a-1)else if e=a-1 then b a else b e:=λ_=>rfl;refine⟨λk d l h o m=>?_,λd l h=>?_⟩
 .rw[i,i];by_cases g:k=a
  .rw[Ys g,Yo om,Yo m];exact f.1 (a-1) d om h om om
  .rw[Yo g,Yo o];by_cases c:d=a
   .rw[Ys c];exact f.1 k (a-1) om om g om
   .rw[Yo c,Yo m];exact f.1 k d l h g c
 .rw[i,i,Yo om,Ys rfl];by_cases c:d=a
  .rw[Ys c];exact n
  .rw[Yo c,Yo om];exact f.2 d om h
def PM.stop{e c:Nat}{d:Nat->Fd}(h:PM e c d)(m:c<=e)(l:c=0\/(d<|c-1).line<=(d c).line):∀b a,b<a->a<e+1->(d b).line<=(d a).line:=λb a i n=>by
 by_cases f:b=c
 .subst f;exact aaV<|h.2 a i om
 .by_cases j:a=c
  .subst j;rcases l with g|g
   .omega
   .rcases Zj b (a-1)with k|k
    .exact YH (h.1 b (a-1) k om f om) g
    .rw[show b=a-1 by omega];exact g
  .exact h.1 b a i om f j
def lm(w:b_)(L:Nat)(t:d_)(C n m:Nat)(f:Nat->Nat->f_):Prop:=
 ∃c:Array f_,w.heap[L]?=some (.cells c t)/\c.size=C/\n*m<=C/\∀b a,b<n->a<m->c[b*m+a]?=some (f b a)
section
variable {w w':b_}{L:Nat}{t:d_}{C n m:Nat}{f g:Nat->Nat->f_}
def lm.cell(e:lm w L t C n m f){i j:Nat}(d:i<n)(b:j<m):w.cell? (μ L<|i*m+j)=some (f i j):=by let⟨c,a,k,_,h⟩:=e;rw[Yu w L _ c t (0,0) a];exact h i j d b
def lm.frozen(d:lm w L t C n m f)(a:Nat):w.frozen? (μ L a)=false:=by let⟨c,b,_⟩:=d;exact Y2 w L a c t b
def lm.lt(a:lm w L t C n m f):L<w.heap.size:=by let⟨c,b,_⟩:=a;exact Yn b
def lm.same(e:lm w L t C n m f)(a:w'.heap[L]?=w.heap[L]?):lm w' L t C n m f:=by let⟨d,c,b⟩:=e;exact⟨d,a.trans c,b⟩
def lm.below{B:Nat}(b:lm w L t C n m f)(a:Below B w w')(c:L<B):lm w' L t C n m f:=b.same (a.block L c)
def lm.congr(l:lm w L t C n m f)(e:∀b a,b<n->a<m->f b a=g b a):lm w L t C n m g:=by let⟨j,h,i,k,o⟩:=l;exact⟨j,h,i,k,λb a d c=>by rw[o b a d c,e b a d c]⟩
def lm.set(M:lm w L t C n m f){i j:Nat}(hi:i<n)(hj:j<m)(v:f_):lm (w.setCell (μ L<|i*m+j) v) L t C n m (λa b=>if a=i/\b=j then v else f a b):=by
 obtain⟨c,h,d,k,h3⟩:=M;have mY:i*m+j<c.size:=by rw[d];exact Ku
 refine⟨c.setIfInBounds (i*m+j) v,YB w L _ c t v h,by rw[Y3];exact d,k,λa b ha hb=>?_⟩;exact Qe
end
def y8{g:Nat}{w w':b_}(a:kf g w w')(n:Nat):kf g w (w'.drewN n):=⟨a.os,a.tape,a.output,a.size,a.block⟩
def Ei(f:Fd)(a:Nat):f_:=if a=0 then ν f.line else if a=1 then ν 0 else if a=2 then ν f.unit else .string f.body
def Jw{w:b_}{g t C n a:Nat}{f:Nat->Nat->f_}(q:lm w g t C n 4 f)(d:a<n)(h k i l:f_):lm ((((w.setCell (μ g<|a*4) h).setCell (μ g<|a*4+1) k).setCell (μ g<|a*4+2) i).setCell (μ g<|a*4+3) l) g t C n 4 (λc b=>if c=a then(if b=0 then h else if b=1 then k else if b=2 then i else l)else f c b):=by
 have p:=(((q.set (j:=0) d om h).set (i:=a) (j:=1) d om k).set (i:=a) (j:=2) d om i).set (i:=a) (j:=3) d om l;refine p.congr λc b _ r=>?_;by_cases o:c=a
 .rcases(show b=0\/b=1\/b=2\/b=3 by omega)with e|e|e|e<;>simp[o,e]
 .simp[o]
def zP(w:b_)(g a:Nat)(d e b c:f_):b_:=(((w.setCell (μ g a) d).setCell (μ g<|a+1) e).setCell (μ g<|a+2) b).setCell (μ g<|a+3) c
def Xc(a:Code):Prop:=∃c e b d h i,Tryz.f153.body=some (.seq c<|.block 0<|.loop<|.seq e<|.seq (.block 1<|.seq b<|.block 2<|.loop<|.seq d<|.seq (.block 3 a) h) i)
def V8(z:Code)(al:Xc z)(g n s a b c j i d:Nat)(h e:a_)(aw:a=b+1)(a4:a<n)(bs:n<=4)(w:b_)(be:w.cell? (μ g<|a*4)=some (ν c))(a1:w.cell? (μ g<|a*4+1)=some (ν 0))(bu:w.cell? (μ g<|a*4+2)=some (ν j))(bj:w.cell? (μ g<|a*4+3)=some (.string h))(bc:w.cell? (μ g<|b*4)=some (ν i))(bq:w.cell? (μ g<|b*4+1)=some (ν 0))(bk:w.cell? (μ g<|b*4+2)=some (ν d))(bg:w.cell? (μ g<|b*4+3)=some (.string e))(bd:∀aN,w.frozen? (μ g aN)=false)(O u ab A P E M I p J ac v Y S K k B aa o y T r U X x l Q ad q V N Z R F D aC ai ae ay ap ag af av aM am an aG aB ax aI aO:f_):
 z.wp prog (k' λar w'=>∃aj au aL aA aD aJ aP ao ak aq aE aK aF ah az aH:f_,ar=#[ω g n s,O,u,ab,A,P,E,M,I,ν a,p,J,ac,v,Y,S,K,k,B,aa,o,y,T,r,U,X,x,l,Q,ad,q,V,N,Z,R,F,D,aj,au,aL,aA,aD,aJ,aP,ao,ak,aq,aE,aK,aF,ah,az,aH]/\(w'=(zP (zP w g (a*4) (ν i) (ν 0) (ν d)<|.string e) g (b*4) (ν c) (ν 0) (ν j)<|.string h).drew\/w'=(zP (zP w g (b*4) (ν c) (ν 0) (ν j)<|.string h) g (a*4) (ν i) (ν 0) (ν d)<|.string e).drew)) ⟨#[ω g n s,O,u,ab,A,P,E,M,I,ν a,p,J,ac,v,Y,S,K,k,B,aa,o,y,T,r,U,X,x,l,Q,ad,q,V,N,Z,R,F,D,aC,ai,ae,ay,ap,ag,af,av,aM,am,an,aG,aB,ax,aI,aO],[]⟩ w:=by
 have a9:(a:Int)<(n:Int):=om;have aS:(b:Int)<(n:Int):=om;have hA:(1:Int)<=(a:Int):=om;have bb:(a:Int)-1<(n:Int):=om;have a0:((a:Int)-1).toNat=b:=om;have aX:a-1=b:=om;have bt:1<=a:=om;have a5:b<n:=om;have a2:IntKind.i64.wrap ((a:Int)-1)=(b:Int):=wo;have a':b*4≠a*4:=om;have bi:b*4≠a*4+1:=om;have bl:b*4≠a*4+2:=om;have bh:b*4≠a*4+3:=om;have aZ:b*4+1≠a*4:=om;have aU:b*4+1≠a*4+1:=om;have aW:b*4+1≠a*4+2:=om;have aT:b*4+1≠a*4+3:=om;have a6:b*4+2≠a*4:=om;have bv:b*4+2≠a*4+1:=om;have aV:b*4+2≠a*4+2:=om;have a3:b*4+2≠a*4+3:=om;have bp:b*4+3≠a*4:=om;have a7:b*4+3≠a*4+1:=om;have aR:b*4+3≠a*4+2:=om;have aQ:b*4+3≠a*4+3:=om;clear aw;let⟨bm,a8,bn,bf,bo,aY,W⟩:=al;simp only[Tryz.f153,Yz,ZN,ZX,Z1]at W;obtain⟨-, -, -,⟨-, -, -, -,⟨-,rfl⟩, -⟩, -⟩:=W
 go_region
 all_goals first|exact⟨rfl,_,_,_,_,_,_,_,_,_,_,_,_,_,_,_,_,rfl,.inl rfl⟩|exact⟨rfl,_,_,_,_,_,_,_,_,_,_,_,_,_,_,_,_,rfl,.inr rfl⟩
def td{w:b_}{g t C n d:Nat}{f:Nat->Nat->f_}(k:lm w g t C n 4 f)(j:d<n)(c b h e:f_):lm (zP w g (d*4) c b h e) g t C n 4 (λi a=>if i=d then(if a=0 then c else if a=1 then b else if a=2 then h else e)else f i a):=Jw k j c b h e
def uW{w a:b_}{g e:Nat}{d h b c:f_}(i:kf g w a):kf g w (zP a g e d h b c):=(((i.setCell ..).setCell ..).setCell ..).setCell ..
def lm.drew{w:b_}{g t C n m:Nat}{f:Nat->Nat->f_}(a:lm w g t C n m f):lm w.drew g t C n m f:=a.same rfl
def Jx{w w':b_}{g C n a b:Nat}{f:Nat->Fd}(k:lm w g 134 C n 4 λi h=>Ei (f i) h)(j:a<n)(l:b<n)(q:a≠b)
 (o:w'=(zP (zP w g (a*4) (ν ((f b).line:Nat)) (ν 0) (ν ((f b).unit:Nat))<|.string (f b).body) g (b*4) (ν ((f a).line:Nat)) (ν 0) (ν ((f a).unit:Nat))<|.string (f a).body).drew\/w'=(zP (zP w g (b*4) (ν ((f a).line:Nat)) (ν 0) (ν ((f a).unit:Nat))<|.string (f a).body) g (a*4) (ν ((f b).line:Nat)) (ν 0) (ν ((f b).unit:Nat))<|.string (f b).body).drew):
 lm w' g 134 C n 4 (λi h=>Ei (wV f a b i) h)/\kf g w w':=by
 rcases o with rfl|rfl
 .refine⟨(lm.congr (td (td k j ..) l ..) λe h _ p=>?_).drew,y8 (uW<|uW<|kf.refl ..) 1⟩;unfold wV Ei;by_cases d:e=b
  .rw[Ys d,Yo (show¬e=a by omega),Ys d]
  .rw[Yo d];by_cases c:e=a
   .rw[Ys c,Ys c]
   .rw[Yo c,Yo c,Yo d]
 .refine⟨(lm.congr (td (td k l ..) j ..) λe h _ p=>?_).drew,y8 (uW<|uW<|kf.refl ..) 1⟩;unfold wV Ei;by_cases c:e=a
  .rw[Ys c,Ys c]
  .rw[Yo c,Yo c];by_cases d:e=b
   .rw[Ys d,Ys d]
   .rw[Yo d,Yo d]
def PN(b a:Fd)(d:b.line<=1000)(e:a.line<=1000)(w:b_):Calls prog 104 #[b.v,a.v] w λc w'=>c=.returned (ν<|(b.line:Int)-(a.line:Int))/\Below w.heap.size w w':=by
 unfold Fd.v
 go_enter func104,ntmps104
 go_wp2;go_ret;exact⟨rfl,jT (jT br _) _⟩
def Gh(n aa g C:Nat)(x:Nat->Fd)(w:b_)(aK:n<=4)(af:∀d,(x d).line<=1000)(W:lm w g 134 C n 4 λd a=>Ei (x d) a):
 Calls prog 153 #[ω g n aa,ν 0,ν n,.func (.func 104) #[] #[]] w λF w'=>F=.returned (.tuple #[])/\∃f,Laid n x f/\(∀j h,j<h->h<n->(f j).line<=(f h).line)/\lm w' g 134 C n 4 (λd a=>Ei (f d) a)/\kf g w w':=by
 have aG:=h_ W;have ah:=h_ af;clear W af
 go_enter func153,ntmps153
 go_wp2_with fail
 go_loopw [8,9] (λd _ wr=>∃(k:Nat) (f:Nat->Fd),d=ν k/\1<=k/\k<=5/\Laid n x f/\(∀j h,j<h->h<k->h<n->(f j).line<=(f h).line)/\lm wr g 134 C n 4 (λd a=>Ei (f d) a)/\kf g w wr) (λd _ _=>n+1-(intOf d).toNat)
 case atStart=>exact⟨1,x,rfl,om,om,Laid.refl n x,λj h aq aA _=>by omega,aG,kf.refl ..⟩
 case round=>
  obtain⟨k,f,rfl,a4,bv,l,D,e,p⟩:=hrel;by_cases v':k<n
  .have aq:decide ((k:Int)<(n:Int))=true:=so;have A:=h_<|And.intro l<|And.intro D<|And.intro e p;clear l D e p
   go_wp2_with fail
   go_loopw [9] (λS ar=>∃(a:Nat) (c:Nat->Fd),S=ν a/\a<=k/\Laid n x c/\PM k a c/\lm ar g 134 C n 4 (λd a=>Ei (c d) a)/\kf g w ar) (λS _=>(intOf S).toNat)
   case atStart=>exact⟨k,f,rfl,YC _,A.o.1,PM.start λj h r u=>A.o.2.1 j h r u om,A.o.2.2.1,A.o.2.2.2⟩
   case round=>
    obtain⟨a,c,rfl,K,l,I,e,p⟩:=hrel;by_cases aS:0<a
    .obtain⟨b,ao⟩:∃b,a=b+1:=⟨a-1,om⟩;have aA:decide ((0:Int)<(a:Int))=true:=so;have bj:decide (0<a)=true:=so;have hA:(1:Int)<=(a:Int):=om;have bh:(a:Int)-1<(n:Int):=om;have a8:((a:Int)-1).toNat=b:=om;have a6:a-1=b:=om;have bt:1<=a:=om;have a':IntKind.i64.wrap ((a:Int)-1)=(b:Int):=wo;have B:a<n:=om;have ae:b<n:=om;have bd:(a:Int)<(n:Int):=om;have q:=e.lt;have aj:wr.cell? (μ g<|a*4)=some (ν ((c a).line:Nat)):=e.cell (j:=0) om om;have ac:wr.cell? (μ g<|a*4+1)=some (ν 0):=e.cell (i:=a) (j:=1) om om;have aB:wr.cell? (μ g<|a*4+2)=some (ν ((c a).unit:Nat)):=e.cell (i:=a) (j:=2) om om;have al:wr.cell? (μ g<|a*4+3)=some (.string (c a).body):=e.cell (i:=a) (j:=3) om om;have ai:wr.cell? (μ g<|b*4)=some (ν ((c b).line:Nat)):=e.cell (i:=b) (j:=0) om om;have az:wr.cell? (μ g<|b*4+1)=some (ν 0):=e.cell (i:=b) (j:=1) om om;have an:wr.cell? (μ g<|b*4+2)=some (ν ((c b).unit:Nat)):=e.cell (i:=b) (j:=2) om om;have ak:wr.cell? (μ g<|b*4+3)=some (.string (c b).body):=e.cell (i:=b) (j:=3) om om;obtain⟨bf,t1,_⟩:=l.map;have aE:(c a).line<=1000:=by rw[(t1 a B).2];exact ah _
     have aZ:(c b).line<=1000:=by rw[(t1 b om).2];exact ah _
     have a0:(b:Int)<(n:Int):=om;have z:=h_ ao;obtain⟨P,M⟩:∃aJ:Int,aJ=((c a).line:Int)-((c b).line:Int):=⟨_,rfl⟩;have Z:=h_ M;have aV:Hid (∀y:b_,Calls prog 104 #[.agg #[ν ((c a).line:Nat),ν 0,ν ((c a).unit:Nat),.string (c a).body],.agg #[ν ((c b).line:Nat),ν 0,ν ((c b).unit:Nat),.string (c b).body]] y λF w'=>F=.returned (ν P)/\Below y.heap.size y w'):=λy=>by rw[M];exact PN _ _ aE aZ y
     have i:=h_<|And.intro l<|And.intro I<|And.intro e p;clear l I e p t1 ao aS M
     go_wp2_with fail
     go_region_held3 (λw'=>w'.cell? (μ g<|a*4)=some (ν ((c a).line:Nat))/\w'.cell? (μ g<|a*4+1)=some (ν 0)/\w'.cell? (μ g<|a*4+2)=some (ν ((c a).unit:Nat))/\w'.cell? (μ g<|a*4+3)=some (.string (c a).body)/\w'.cell? (μ g<|b*4)=some (ν ((c b).line:Nat))/\w'.cell? (μ g<|b*4+1)=some (ν 0)/\w'.cell? (μ g<|b*4+2)=some (ν ((c b).unit:Nat))/\w'.cell? (μ g<|b*4+3)=some (.string (c b).body)) (go_keep)
      (first
       |(go_at_call 104;refine(aV _).mono ?_;rintro F Q ⟨rfl,o⟩;have ab:=((ke o).1 _ _ q).trans aj;have am:=((ke o).1 _ _ q).trans ac;have ag:=((ke o).1 _ _ q).trans aB;have ax:=((ke o).1 _ _ q).trans al;have Y:=((ke o).1 _ _ q).trans ai;have U:=((ke o).1 _ _ q).trans az;have au:=((ke o).1 _ _ q).trans an;have T:=((ke o).1 _ _ q).trans ak))
     have s:=kx o;let⟨aY,aI⟩:∃y:b_,y=Q:=⟨_,rfl⟩;have R:=h_<|i.o.2.2.1.below s q;have V:Hid<|kf g w Q:=⟨s.os.trans i.o.2.2.2.os,s.tape.trans i.o.2.2.2.tape,s.output.trans i.o.2.2.2.output,YH i.o.2.2.2.size s.size,λX ap aF=>(s.block X<|Yy ap i.o.2.2.2.size).trans<|i.o.2.2.2.block X ap aF⟩;clear o s aI aY aj ac aB al ai az an ak;by_cases E:(c a).line<(c b).line
     .have aH:P<0:=li Z.o;have aL:=λaX=>R.o.frozen aX;have O:=h_ E;clear E;have aR:=h_ ab;have aO:=h_ am;have aP:=h_ ag;have aT:=h_ ax;have aM:=h_ Y;have aQ:=h_ U;have aW:=h_ au;have aU:=h_ T;clear ab am ag ax Y U au T
      go_wp2_with fail
      refine wp_mono (V8 _ ⟨_,_,_,_,_,_,rfl⟩ g n aa a b (c a).line (c a).unit (c b).line (c b).unit (c a).body (c b).body z.o B aK Q aR.o aO.o aP.o aT.o aM.o aQ.o aW.o aU.o aL _ _ _ _ _ _ _ _ _ _ _ _ _ _ _ _ _ _ _ _ _ _ _ _ _ _ _ _ _ _ _ _ _ _ _ _ _ _ _ _ _ _ _ _ _ _ _ _ _ _ _) ?_;intro a3 aN bi ay;obtain⟨rfl,aw,a2,bb,bu,bg,bk,bq,bw,a7,a5,a9,bl,bs,bm,a1,be,bo,aD,aC⟩:=Eh ay;obtain⟨bc,bp⟩:=aN;simp only at aw aD;subst aw aD;have ad:=Jx R.o B ae (by have N:=z.o;omega) aC;have av:=h_ ad;clear ad aC ay;go_wp2
      go_roundw
      case rel=>have N:=z;refine⟨b,wV c a b,gn,om,i.o.1.swap B ae om,?_,av.o.1,V.o.trans av.o.2⟩;have:=i.o.2.1.step om K (by rw[show a-1=b by omega];exact O);rw[show a-1=b by omega]at this;exact this
      case measure=>have N:=z;simp[intOf];omega
     .have aH:¬P<0:=li Z.o;have O:=h_ E;clear E;go_wp2
      go_roundw
      case rel=>have N:=z.o;have bn:=O.o;exact⟨k+1,c,gn,om,om,i.o.1,λj h r u _=>i.o.2.1.stop K (.inr (by rw[show a-1=b by omega];omega)) j h r u,R.o,V.o⟩
      case measure=>exact mz
    .have aA:decide ((0:Int)<(a:Int))=false:=so;have i:=h_<|And.intro l<|And.intro I<|And.intro e p;clear l I e p
     go_wp2_with fail
     go_quiet (fail)
     go_wp2
     go_roundw
     case rel=>
      refine⟨k+1,c,gn,om,om,i.o.1,λj h r u _=>i.o.2.1.stop K (.inl om) j h r u,?_,?_⟩
      .exact i.o.2.2.1.same rfl
      .exact(y8 i.o.2.2.2 nq)
     case measure=>exact mz
  .have aq:decide ((k:Int)<(n:Int))=false:=so;have J:=h_<|And.intro l<|And.intro D<|And.intro e p;clear l D e p;go_wp2;exact ab7 (v:=.tuple #[]) (by simp[results,results153,go_sem]) rfl ⟨rfl,f,J.o.1,λj h r u=>J.o.2.1 j h r om u,J.o.2.2.1,J.o.2.2.2⟩
def PO(n e g C:Nat)(c:Nat->Fd)(p:Int)(w:b_)(j:n<=4)(k:∀a,(c a).line<=1000)(l:lm w g 134 C n 4 λa b=>Ei (c a) b):Calls prog 130 #[ω g n e,ν 0,ν n,ν p,.func (.func 104) #[] #[]] w λh w'=>h=.returned (.tuple #[])/\∃f,Laid n c f/\(∀i d,i<d->d<n->(f i).line<=(f d).line)/\lm w' g 134 C n 4 (λa b=>Ei (f a) b)/\kf g w w':=by
 have s:decide ((n:Int)<=12)=true:=so;have r:=h_<|Gh n e g C c w j k l
 go_enter func130,ntmps130
 go_wp2_with fail
 go_loopw [1,2] (λa b wr=>a=ν 0/\b=ν n/\wr=w) (λ_ _ _=>0)
 case atStart=>exact⟨rfl,rfl,rfl⟩
 case round=>
  obtain⟨rfl,rfl,rfl⟩:=hrel
  go_wp2_with fail
  apply r.o.mono;rintro h u ⟨rfl,q⟩;have o:=h_ q;go_wp2;exact Yx (v:=.tuple #[]) (by simp[results,results130,go_sem]) rfl ⟨rfl,o⟩
def Nf(n j g C:Nat)(e:Nat->Fd)(w:b_)(k:n<=4)(l:∀a,(e a).line<=1000)(o:lm w g 134 C n 4 λa d=>Ei (e a) d):Calls prog 103 #[ω g n j,.func (.func 104) #[] #[]] w λc w'=>c=.returned (.tuple #[])/\∃f,Laid n e f/\(∀h b,h<b->b<n->(f h).line<=(f b).line)/\lm w' g 134 C n 4 (λa d=>Ei (f a) d)/\kf g w w':=by
 have r:Hid (∀i,Calls prog 130 #[ω g n j,ν 0,ν n,ν i,.func (.func 104) #[] #[]] w λc w'=>c=.returned (.tuple #[])/\∃f,Laid n e f/\(∀h b,h<b->b<n->(f h).line<=(f b).line)/\lm w' g 134 C n 4 (λa d=>Ei (f a) d)/\kf g w w'):=λi=>PO n j g C e i w k l o
 go_enter func103,ntmps103
 go_wp2_with fail
 refine(Sw n om w).mono ?_;rintro c u ⟨i,rfl,rfl⟩
 go_wp2_with fail
 refine(r i).mono ?_;rintro c s ⟨rfl,q⟩;have p:=h_ q;go_wp2;exact ab7 (v:=.tuple #[]) (by simp[results,results103,go_sem]) rfl ⟨rfl,p⟩
def Tr.UJ{P:e_}{f:Env}{k:List Item}{cs:List Frame}{Q:Array c_->b_->Trace->Prop}(q:Fit P f){d:Code}{c:g_}(l:okCode f c d=true){e:Array f_}(s:tB f c e){I:b_->Prop}(h:Cl I){J:Array f_->b_->Prop}(p:∀a,Cl<|J a)
 (m:∀w,I w->d.wp P (k' J) ⟨e,[]⟩ w) (j:∀g,kI P (G ((base c).at ⟨g,[]⟩ k) cs) (J g) Q):kI P (G ((base c).at ⟨e,[]⟩ (.code d::k)) cs) I Q:=
 Tr.wp q l s h p (λw n=>aaA (λ_ _ _ r=>Eh r)<|m w n) j
open Classical in
def findF (ps:List Pc):List Fd:=ps.filterMap λp=>if Pl.nQ p.2 then some ⟨p.1,Pl.j2 p.2 0,p.2.extract 1<|p.2.size-2⟩else none
def AO(c:List Pc):qC c=(findF c).map Fd.v:=by
 induction c with
 |nil=>rfl
 |cons f c d=>
  unfold qC findF at d⊢;rw[abi,abi];by_cases e:Pl.nQ f.2
  .simp only[e,Y_,ZW,d];rfl
  .simp only[e,Y5,d]
def wW(c:List Pc)(k:Nat):findF (c.take k)++findF (c.drop k)=findF c:=by unfold findF;rw[<-abI,List.take_append_drop]
def AP(c:List Pc):(findF c).length<=c.length:=List.length_filterMap_le ..
def PP{P:e_}{w:b_}{g:Array Event}{d f:d_}{i:TypeInfo}{e o m c k:Nat}(l:P.underlying d=some (.slice f))(j:P.info? f=some i)(h:k<=c):(Instr.sliceAt d (.slice (some (μ e o)) m c) none (some (ν k)) none).events P w g=g/\(Instr.sliceAt d (.slice (some (μ e o)) m c) none (some (ν k)) none).run P w=.ok (.slice (some (μ e o)) k c) w:=by
 have n:¬c<k:=om;constructor
 .simp[Instr.sliceAt,Instr.slice,Instr.sliceBounds,Instr.sliceBound,Zm l,asIntOf,h,sizeOf,typeInfo,j]
 .simp[Instr.sliceAt,Instr.slice,Instr.sliceBounds,Instr.sliceBound,Zm l,asIntOf,h,n,sizeOf,typeInfo,j,Addr.add]
def PQ{P:e_}{w:b_}{es:Array Event}{d e:d_}{i:TypeInfo}{g n c k:Nat}(M:P.underlying d=some (.slice e))(hi:P.info? e=some i)(f:k<n\/k=0)(h:n<=c):(Instr.sliceAt d (ω g n c) (some (ν k)) none none).events P w es=es/\(Instr.sliceAt d (ω g n c) (some (ν k)) none none).run P w=.ok (.slice (some (μ g<|k*i.size)) (n-k)<|c-k) w:=by
 rcases f with f|rfl
 .have h3:k<=n:=om;have hne:¬c=k:=om;constructor
  .simp[Instr.sliceAt,Instr.slice,Instr.sliceBounds,Instr.sliceBound,Zm M,asIntOf,h3,sizeOf,typeInfo,hi]
  .by_cases cj:k*i.size=0
   .exact Rg
   .exact Rg
 .constructor
  .simp[Instr.sliceAt,Instr.slice,Instr.sliceBounds,Instr.sliceBound,Zm M,asIntOf,sizeOf,typeInfo,hi]
  .simp[Instr.sliceAt,Instr.slice,Instr.sliceBounds,Instr.sliceBound,Zm M,asIntOf,sizeOf,typeInfo,hi,Addr.add]
def AQ{P:e_}{w:b_}{d:Array Event}{c e:d_}{i:TypeInfo}(g:P.underlying c=some (.slice e))(f:P.info? e=some i):((Instr.sliceAt c σ none (some (ν 0)) none).events P w d=d/\(Instr.sliceAt c σ none (some (ν 0)) none).run P w=.ok σ w)/\((Instr.sliceAt c σ (some (ν 0)) none none).events P w d=d/\(Instr.sliceAt c σ (some (ν 0)) none none).run P w=.ok σ w):=by refine⟨⟨?_,?_⟩,?_,?_⟩<;>simp[Instr.sliceAt,Instr.slice,Instr.sliceBounds,Instr.sliceBound,Zm g,asIntOf,sizeOf,typeInfo,f,Addr.add]
section
variable {P:e_}{a:Act}{A0:Array Oper}{i:Nat}{o:Oper}
def Sx{c:d_}{g h:Operand}{d e j:f_}(bs:o.op=.slice c g none (some h) none)(hx:a.eval g=d)(ax:a.eval h=e)(M:∀(w:b_) (f:Array Event),(Instr.sliceAt c d none (some e) none).events P w f=f/\(Instr.sliceAt c d none (some e) none).run P w=.ok j w)(w:b_):(execOp a.eval o).run P w=.ok (.value j) w/\(execOp a.eval o).events P w #[]=#[]:=by exact Qh
def Sy{c:d_}{g h:Operand}{d e j:f_}(bs:o.op=.slice c g (some h) none none)(hx:a.eval g=d)(ax:a.eval h=e)(M:∀(w:b_) (f:Array Event),(Instr.sliceAt c d (some e) none none).events P w f=f/\(Instr.sliceAt c d (some e) none none).run P w=.ok j w)(w:b_):(execOp a.eval o).run P w=.ok (.value j) w/\(execOp a.eval o).events P w #[]=#[]:=by exact Qh
end
section
variable {P:e_}{C:Ch}{main:Bool}{a:Act}{A1:List Nat}{w:b_}{A0:Array Oper}{i:Nat}{rest:List Nat}{o:Oper}{b:Frame}{k:List Item}{cs:List Frame}{Stop:List Nat->c_->b_->Prop}
def oY{f:f_}(h:A0[i]?=some o)(j:Region.wanted o (yielded A0 a.tmps)=true)(l:b.kind≠.early)(g:∀(w:b_) (e:Result Next->Prop),e (.ok (.value f) w)->e ((execOp a.eval o).run P w))(m:∀w:b_,(execOp a.eval o).events P w #[]=#[])
 (d:∃c,Gb P C main Stop c A1 (G (b.at (a.put o.dst f) (.inRegion A0 rest::k)) cs) w):∃c,Gb P C main Stop c A1 (G (b.at a (.inRegion A0 (i::rest)::k)) cs) w:=d.elim λc d=>⟨c+1,nV h j l g m d⟩
def rH{id:Nat}(d:∃c,Gb P C main Stop c A1 (G (b.at a (.inRegion A0 (List.range A0.size)::k)) cs) w):∃c,Gb P C main Stop c A1 (G (b.at a (.code (.region id A0 false)::k)) cs) w:=d.elim λc d=>⟨c+1,mC d⟩
def xJ(d:∃c,Gb P C main Stop c A1 (G (b.at a k) cs) w):∃c,Gb P C main Stop c A1 (G (b.at a (.inRegion A0 []::k)) cs) w:=d.elim λc d=>⟨c+1,o5 d⟩
def uX{f e:Code}(d:∃c,Gb P C main Stop c A1 (G (b.at a (.code f:: .code e::k)) cs) w):∃c,Gb P C main Stop c A1 (G (b.at a (.code (.seq f e)::k)) cs) w:=d.elim λc d=>⟨c+1,o6 d⟩
def Jy{id:Nat}{e:Code}(d:∃c,Gb P C main Stop c A1 (G (b.at a (.code e:: .inBlock id::k)) cs) w):∃c,Gb P C main Stop c A1 (G (b.at a (.code (.block id e)::k)) cs) w:=d.elim λc d=>⟨c+1,m7 d⟩
def Ng{d:Code}(e:∃c,Gb P C main Stop c A1 (G (b.at a (.code d:: .inLoop d::k)) cs) w):∃c,Gb P C main Stop c A1 (G (b.at a (.code (.loop d)::k)) cs) w:=e.elim λc e=>⟨c+1,y0 e⟩
theorem Jz{e:g_}{args:Array Operand}{l:Array d_}{d:Func}{g:Code}{vals:Array f_}(j:A0[i]?=some o)(n:Region.wanted o (yielded A0 a.tmps)=true)(p:b.kind≠.early)(r:o.op=.call {callee:=.value<|.func e,args,argTypes:=l})(m:args.map a.eval=vals)(s:P.funcs[e]?=some d)(h:(d.name== "runtime.NumGoroutine")=false)(q:d.body=some g)
 (f:∃c,Gb P C main Stop c A1 (G ((base e).at {tmps:=vals++Array.replicate (d.ntmps-vals.size) undef,defers:=[]} [.code g]) (b.at a (.inRegion A0 (i::rest)::k)::cs)) w):∃c,Gb P C main Stop c A1 (G (b.at a (.inRegion A0 (i::rest)::k)) cs) w:=f.elim λc f=>⟨c+1,Je j n p r m s h q f⟩
end
def PR{C:Ch}{w j:b_}{h rest:Code}{bc:Frame}{ac:Act}{A2:Array Oper}{ic:Nat}{restc:List Nat}{oc:Oper}{kc:List Item}{csc:List Frame}{f:List Nat->c_->b_->Prop}{c e:List Fd}{g:c_}(v:XZ (some (C.c false)) (some (C.c true)) σ h rest (bc.at ac (.inRegion A2 (ic::restc)::kc)::csc) g)(t:AK h rest)(s:A2[ic]?=some oc)(q:Sits C [] w)(x:Rel C [] w j)(hA:(c++e).length<=1000000)
 (u:∀l,l.Perm (c++e)->∀A1 n m,zQ C w A1 n m l->f A1 (G (bc.at (ac.put oc.dst m) (.inRegion A2 restc::kc)) csc) n):
 ∃z,Gb prog C true (DX prog C gZ f ((c.map Fd.v).length+1+((e.map Fd.v).length+1)) (λd=>if d then some (e.map Fd.v)else some (c.map Fd.v))) z [] g j:=by
 let⟨A,y⟩:=He C w h rest t s f (c++e) hA u (c.length+1+(e.length+1)) (λd=>if d then some e else some c) [] rfl (List.Perm.refl _);have p:(λd:Bool=>if d=true then some (e.map Fd.v)else some (c.map Fd.v))=lv (λd=>if d then some e else some c):=by funext d;cases d<;>rfl
 rw[Zx,Zx,p];exact⟨A,y [] j _ g ⟨(lz.refl q).step x,Yq ..,λB r=>by cases r⟩ v⟩
def pH(I:b_->Prop)(e:List Fd)(f:f_)(d:b_):Prop:=∃c,I c/\c.heap.size<=d.heap.size/\(∀b,b<c.heap.size->d.heap[b]?=c.heap[b]?)/\d.os=c.os/\d.output=c.output/\d.ownsRow c.heap.size 134 4 f e.length (e.flatMap Fd.c)
def pH.cl{I:b_->Prop}{fs:List Fd}{v:f_}:Cl (pH I fs v):=λ_ _ _ ⟨d,c,e,j,g,f,h⟩=>⟨d,c,e,j,g,f,h⟩
def Heap(c w:b_):Prop:=w.heap=c.heap/\w.os=c.os/\w.output=c.output
def Hn(d:b_):Cl (Heap d):=λ_ _ _ c=>c
def PS(c:b_)(o:Obj):((c.alloc o).alloc o).heap[c.heap.size]?=some o/\((c.alloc o).alloc o).heap[c.heap.size+1]?=some o/\(∀b,b<c.heap.size->((c.alloc o).alloc o).heap[b]?=c.heap[b]?)/\((c.alloc o).alloc o).heap.size=c.heap.size+2/\(((c.alloc o).alloc o).os=c.os/\((c.alloc o).alloc o).output=c.output):=by
 have e:(c.alloc o).heap.size=c.heap.size+1:=si;refine⟨?_,?_,λb d=>?_,si,rfl,rfl⟩
 .rw[YQ (c.alloc o) o om];exact YO c o
 .rw[<-e];exact YO (c.alloc o) o
 .rw[YQ (c.alloc o) o om,YQ c o d]
def Uc{w:b_}{r f t n:Nat}{e:List Pc}(m:w.ownsRow r 178 2 (ω f t n) e.length<|e.flatMap tD):f<w.heap.size/\∀(c:Nat) (g:Pc),e[c]?=some g->w.rangeAt f (c*2) (tD g):=by
 have p:=m.cells rfl;refine⟨?_,λc g j h x l=>?_⟩
 .rcases m.2 with⟨d,_⟩|⟨y,_,_,d,_,u,_⟩
  .cases d
  .simp only[YN,Yz,ZP]at d;rw[d.1.1];exact Yn u
 .have s:=(Yr.1 j).1;have q:h<2:=by have:=(Yr.1 l).1;simpa[tD]using this
  have:=kj tD 2 (λ_=>rfl) e c h s q;have d:=(Yr.1 j).2;rw[d]at this;have v:=p (c*2+h) x (by rw[this];exact l);rwa[aaX,YF]at v
def o4(d:b_)(e:f_)(f:List Pc):Prop:=∀(C:Ch) (c:Bool) (w:b_),Sits C [] w->d.heap.size<=C.base->(∀c,d.heap.size<=C.c c)->(∀b,b<d.heap.size->w.heap[b]?=d.heap[b]?)->FU prog C c (qC f) [] (born prog<|dcall 101 #[e,.chan<|some (C.c c)]) w
def o4.none(d:b_):o4 d σ []:=λC c w _ _ _ _=>Jd C c w
def o4.some{p:b_}{g B q h f m u:Nat}{j e:List Pc}(A:p.ownsRow u 178 2 (.slice (Option.some ⟨g,0,.none⟩) B q) j.length<|j.flatMap tD)(k:Nat)(r:h=k*2)(v:∀d c,e[d]?=Option.some c->j[k+d]?=Option.some c)(E:e.length=f)(z:f<1000000)(s:∀c∈e,c.2.size<=4194304):o4 p (.slice (Option.some ⟨g,h,.none⟩) f m) e:=by let⟨F,J⟩:=Uc A;intro C l w y K x D;refine MP C l g h f m e E z s w y ⟨⟨om,λl=>by have:=x l;omega⟩,λd c t=>?_⟩;have n:=J (k+d) c<|v d c t;rw[abT,<-r]at n;exact mF (D g F) n
def Gi{w:b_}{l h g f:Nat}{d:List Fd}(s:w.ownsRow l 134 4 (ω h g f) d.length<|d.flatMap Fd.c):g=d.length/\l<=h/\g<=f/\f<=maxLen/\lm w h 134 (f*4) g 4 (λi c=>Ei (d.getD i ⟨0,0,⟨#[]⟩⟩) c):=by
 rcases s.2 with⟨e,_⟩|⟨A,z,r,e,u,t,j,v,y,x⟩
 .cases e
 .simp only[YN,Yz,ZP,ZV]at e;obtain⟨rfl,rfl,rfl⟩:=e;refine⟨rfl,u,j,v,r,t,y,ZB 4 j,λi c n p=>?_⟩;have m:=kj Fd.c 4 (λ_=>rfl) d i c n p;have q:i*4+c<d.length*4:=om;rw[<-x,ZC q,ZZ]at m;rw[m];have:d.getD i ⟨0,0,⟨#[]⟩⟩=d[i]:=by rw[Yt,Yw n];rfl
  show _=some (Ei (d.getD i ⟨0,0,⟨#[]⟩⟩) c);rw[this];rcases(show c=0\/c=1\/c=2\/c=3 by omega)with rfl|rfl|rfl|rfl<;>rfl
def Gj{w:b_}{B h f e:Nat}{d:List Fd}{m:Nat->Fd}(D:lm w h 134 (e*4) f 4 λi j=>Ei (m i) j)(x:f=d.length)(L:B<=h)(v:f<=e)(J:e<=maxLen)(E:∀r s,d[r]?=some s->m r=s):w.ownsRow B 134 4 (ω h f e) d.length (d.flatMap Fd.c):=by
 let⟨z,t,K,M,A⟩:=D;subst x;have F:=mn Fd.c 4 (λ_=>rfl) d;refine⟨F,.inr ⟨h,e,z,rfl,L,t,v,J,K,?_⟩⟩;apply abu;intro c;by_cases y:c<d.length*4
 .rw[ZC y,ZZ];have l:c/4<d.length:=om;have n:c%4<4:=om;have u:c/4*4+c%4=c:=om;have q:=A (c/4) (c%4) l n;have p:=kj Fd.c 4 (λ_=>rfl) d (c/4) (c%4) l n;rw[u]at q p;rw[q,p];show some (Ei (m<|c/4)<|c%4)=_;rw[E (c/4) _ (Yw l)];rcases(show c%4=0\/c%4=1\/c%4=2\/c%4=3 by omega)with g|g|g|g<;>(rw[g];rfl)
 .rw[ZF (by rw[ZJ];omega),ZF om]
def JA{l n:List Fd}(r:l.Perm n):∃g:Nat->Nat,(∀c,c<l.length->g c<n.length/\l[c]?=n[g c]?)/\∀c e,c<l.length->e<l.length->g c=g e->c=e:=by
 induction r with
 |nil=>exact⟨λc=>c,λc d=>absurd d (Zh _),λc e d=>absurd d (Zh _)⟩
 |cons y _ u=>
  let⟨g,h,m⟩:=u;refine⟨λc=>match c with|0=>0|c+1=>g c+1,λc d=>?_,λc e d j f=>?_⟩
  .cases c with
   |zero=>exact⟨Nat.succ_pos _,rfl⟩
   |succ c=>have:=h c (by simpa using d);exact⟨by simpa using this.1,by simpa using this.2⟩
  .cases c with
   |zero=>cases e with
    |zero=>rfl
    |succ e=>exact absurd f si
   |succ c=>cases e with
    |zero=>exact absurd f si
    |succ e=>have:=m c e (by simpa using d) (by simpa using j) (by simpa using f);omega
 |swap y E D=>
  refine⟨λc=>if c=0 then 1 else if c=1 then 0 else c,λc d=>?_,λc e d j f=>?_⟩
  .match c with
   |0=>exact⟨si,rfl⟩
   |1=>exact⟨si,rfl⟩
   |c+2=>exact⟨by simpa using d,rfl⟩
  .simp only at f;split at f<;>split at f<;>(try split at f)<;>(try split at f)<;>omega
 |trans _ _ p s=>
  let⟨g,h,m⟩:=p;let⟨x,B,A⟩:=s;refine⟨λc=>x<|g c,λc d=>?_,λc e d j f=>?_⟩
  .let⟨v,q⟩:=h c d;let⟨z,t⟩:=B (g c) v;exact⟨z,q.trans t⟩
  .exact m c e d j (A _ _ (h c d).1 (h e j).1 f)
def JB{p j:Nat}{s:Option Addr}{e f:List Fd}{w:b_}(r:w.ownsRow p 134 4 (.slice s e.length j) e.length<|e.flatMap Fd.c)(q:e.Perm f)(U:f.Pairwise λa b=>a.line<b.line)(aj:f.length<=4)(ad:∀x∈f,x.line<=1000):
 Calls prog 103 #[.slice s e.length j,.func (.func 104) #[] #[]] w λd h=>d=.returned (.tuple #[])/\h.ownsRow p 134 4 (.slice s e.length j) f.length (f.flatMap Fd.c)/\w.heap.size<=h.heap.size/\(∀b,b<p->b<w.heap.size->h.heap[b]?=w.heap[b]?)/\h.os=w.os/\h.output=w.output:=by
 have z:=q.length_eq
 cases s with
 |none=>
  have R:e.length=0:=by
   rcases r.2 with⟨_,d⟩|⟨l,W,J,d,_⟩
   .exact d
   .cases d
  have ab:=YV R;subst ab;have v:=q.symm.eq_nil;subst v;refine(sort_1 0 j om none _ w).mono ?_;rintro d h ⟨rfl,rfl⟩;exact⟨rfl,r,YC _,λ_ _ _=>rfl,rfl,rfl⟩
 |some N=>
  let⟨l,v⟩:∃l,N=(μ l 0):=by
   rcases r.2 with⟨d,_⟩|⟨l,W,J,d,_⟩
   .cases d
   .simp only[YN,Yz]at d;exact⟨l,d.1⟩
  subst v;let⟨_,ah,V,O,Y⟩:=Gi r;let⟨B,E,Z⟩:=JA q;have ag:∀c,c<e.length->e.getD c ⟨0,0,⟨#[]⟩⟩=f.getD (B c) ⟨0,0,⟨#[]⟩⟩:=λc g=>by rw[Yt,Yt,(E c g).2]
  refine(Nf e.length j l (j*4) (λi=>e.getD i ⟨0,0,⟨#[]⟩⟩) w om (λi=>?_) Y).mono ?_
  .rw[Yt]
   cases K:e[i]? with
   |none=>exact YG _
   |some A=>exact ad A<|q.mem_iff.1<|ZQ K
  .rintro d h ⟨rfl,x,S,T,L,t⟩;have M:Laid e.length (λi=>f.getD i ⟨0,0,⟨#[]⟩⟩) x:=by let⟨ae,n,af⟩:=S.map;refine⟨λc=>B<|ae c,λc g=>⟨by rw[z];exact(E _ (n c g).1).1,?_⟩,λc m g u d=>af c m g u<|Z _ _ (n c g).1 (n m u).1 d⟩;rw[(n c g).2];exact ag _ (n c g).1
   have F:=M.sorted (λc m aa u=>by
    have y:m<f.length:=om;have:=(aaQ.1 U) c m om y aa;show(f.getD c _).line<(f.getD m _).line;rw[Yt,Yt,Yw y,Yw om]
    exact this) T
   refine⟨rfl,Gj L z ah V O λc A D=>?_,t.size,λb ak X=>t.block b X om,t.os,t.output⟩;have ai:=(Yr.1 D).1;rw[F c om,Yt,D];rfl
section
variable {I:b_->Prop}{Q:Array c_->b_->Trace->Prop}{bc:Frame}{ac:Act}{A2:Array Oper}{ic:Nat}{restc:List Nat}{oc:Oper}{kc:List Item}{csc:List Frame}
def Gk(aj:Cl I)(a5:Code)(bb:Tryz.f67.body=some a5)(c:List Pc)(a aq al:Option Addr)(s az ax H:Nat)(bu:H=c.length/2)(aJ:∀(w:b_) (T:Array Event),(Instr.sliceAt 131 (.slice a c.length s) none (some (ν H)) none).events prog w T=T/\(Instr.sliceAt 131 (.slice a c.length s) none (some (ν H)) none).run prog w=.ok (.slice aq H az) w)(a0:∀(w:b_) (T:Array Event),(Instr.sliceAt 131 (.slice a c.length s) (some (ν H)) none none).events prog w T=T/\(Instr.sliceAt 131 (.slice a c.length s) (some (ν H)) none none).run prog w=.ok (.slice al (c.length-H) ax) w)
 (aL:∀w,I w->o4 w (.slice aq H az) (c.take H)/\o4 w (.slice al (c.length-H) ax) (c.drop H)) (bC:c.length<=1000) (aG:(findF c).length<=4) (a8:(findF c).Pairwise λa b=>a.line<b.line) (aK:∀bs∈findF c,bs.line<=1000) (bk:A2[ic]?=some oc)
 (aS:∀D,kI prog (G (bc.at (ac.put oc.dst D) (.inRegion A2 restc::kc)) csc) (pH I (findF c) D) Q):
 kI prog (G ((base 67).at {tmps:=#[.slice a c.length s]++Array.replicate (Tryz.f67.ntmps-1) undef,defers:=[]} [.code a5]) (bc.at ac (.inRegion A2 (ic::restc)::kc)::csc)) I Q:=by
 have B:=bb.symm;simp only[Tryz.f67,Yz]at B;subst B;clear bb;have hk:(base 67).kind≠.early:=by simp[base]
 simp only[ntmps67,YJ,YA,YI,Nat.reduceAdd,Nat.reduceSub,Zu,Zt,ZK,Zz,YT,Y1];have aZ:Hid _:=aS;have a1:Hid _:=aL;clear aS aL;have aC:Hid _:=aJ;have aA:Hid _:=a0;clear aJ a0;refine J3 ?_;have a3:((c.length:Int)/2)=(H:Int):=by omega
 have aR:IntKind.i64.wrap (H:Int)=(H:Int):=by rw[aao];omega
 simp only[a3,aR];clear a3 aR bu
 co_apply Tr.UJ qQ (by kernel_rfl) (λbn R=>by have E:fV.M 67=[]:=kr;rw[E]at R;cases R) aj
  (J:=λY f=>∃(l:Bool) (d:b_),I d/\Y=#[.slice a c.length s,undef,σ,ν (H:Int),.chan (some (if l then d.heap.size else d.heap.size+1)),.chan (some (if l then d.heap.size+1 else d.heap.size)),undef,.slice a c.length s,ν c.length,ν (H:Int),.chan (some (if l then d.heap.size else d.heap.size+1)),.chan (some (if l then d.heap.size+1 else d.heap.size)),undef,undef,undef,undef,undef,undef,undef,undef,undef,undef,undef,undef,undef,undef]/\Heap ((d.alloc<|.chan 0 #[] false 0 0 false).alloc<|.chan 0 #[] false 0 0 false) f)
  (λ_ _ _ _ ⟨l,d,W,ae,V⟩=>⟨l,d,W,ae,V⟩)
  (λw ay=>Nd _ _ ⟨_,_,rfl⟩ w _ _ _ _ _ _ (λl k=>⟨l,w,ay,rfl,rfl,rfl,rfl⟩))
 rintro bB t w F ⟨l,d,aY,rfl,U⟩ r
 obtain⟨n,m,be,aO,au⟩:∃n m:Nat,n=(if l then d.heap.size else d.heap.size+1)/\m=(if l then d.heap.size+1 else d.heap.size)/\((n=d.heap.size/\m=d.heap.size+1)\/(n=d.heap.size+1/\m=d.heap.size)):=by
  cases l
  .exact⟨_,_,rfl,rfl,.inr ⟨rfl,rfl⟩⟩
  .exact⟨_,_,rfl,rfl,.inl ⟨rfl,rfl⟩⟩
 rw[<-be,<-aO]at r;obtain⟨x,am⟩:=j5<|(d.alloc<|.chan 0 #[] false 0 0 false).alloc<|.chan 0 #[] false 0 0 false;rw[<-am]at U;refine(?_:kI prog _ (Heap x) Q) t w F U r;clear U r t w F;have aF:Hid<|I d:=aY;have aU:Hid _:=au;have bz:Cl I:=aj;have aj:=Hn x;clear aY be aO au l;co_apply Tr.seq aj
 (co_apply Tr.region aj;simp only[YJ,YA,YI,Nat.reduceAdd,YF,List.range,List.range.loop])
 (co_apply Tr.pure aj rfl (by rfl) hk oZ pj;walk_nrm)
 (co_apply Tr.pure aj rfl (by rfl) hk oZ pj;walk_nrm)
 co_apply Tr.pure aj rfl (by rfl) hk (λw aN N=>by rw[(Sx rfl (by rfl) (by rfl) aC.o w).1];exact N) (λw=>(Sx rfl (by rfl) (by rfl) aC.o w).2);walk_nrm
 (co_apply Tr.pure aj rfl (by rfl) hk oZ pj;walk_nrm)
 obtain⟨ak,af,av,bd,ar⟩:=PS d<|.chan 0 #[] false 0 0 false;rw[<-am]at ak af av bd ar
 have aX:Hid<|x.heap[n]?=some (.chan 0 #[] false 0 0 false)/\x.heap[m]?=some (.chan 0 #[] false 0 0 false):=by
  rcases aU with⟨rfl,rfl⟩|⟨rfl,rfl⟩
  .exact⟨ak,af⟩
  .exact⟨af,ak⟩
 have bg:Hid (∀b,b<d.heap.size->x.heap[b]?=d.heap[b]?):=av;have bf:Hid<|x.os=d.os/\x.output=d.output:=ar;clear ak af av ar;have au:=aU.o;clear am;intro t w F U r;obtain⟨O,aP,aE⟩:=U;have bh:0<t.size:=(YU.1 r.1).1;obtain⟨C,L⟩:∃C:Ch,C=⟨w.heap.size,λe=>if e then m else n,λe=>if e then t.size+1 else t.size⟩:=⟨_,rfl⟩;have u:C.base=w.heap.size:=by rw[L]
 have v:C.c false=n:=by rw[L];rfl
 have y:C.c true=m:=by rw[L];rfl
 have K:C.ix false=t.size/\C.ix true=t.size+1:=by rw[L];exact⟨rfl,rfl⟩
 have bo:w.heap.size=d.heap.size+2:=by rw[O];exact bd
 have a9:pV C:=by
  refine⟨λe=>?_,by rw[v,y];omega,λe=>?_,by rw[K.1,K.2];omega⟩
  .cases e
   .rw[v,u];omega
   .rw[y,u];omega
  .cases e
   .rw[K.1];exact bh
   .rw[K.2];omega
 clear L;obtain⟨aM,a7⟩:=a1 d aF;have ai:∀e,d.heap.size<=C.c e:=λe=>by cases e;(rw[v];omega);(rw[y];omega)
 have aB:∀b,b<d.heap.size->w.heap[b]?=d.heap[b]?:=λb B=>by rw[O];exact bg b B
 have ab:Sits C [] w:=⟨by rw[u];exact YC _,λb r=>by cases r⟩;refine oe.bind (phase (C:=C) (z:=gZ) (K:=λ_ bm f=>∀t F,Beside prog t F bm->oe prog t f F Q) (vl:=qC<|c.take H) (vr:=qC<|c.drop H) a9 r K (by rw[u];exact YC _) (λe=>by rw[O];cases e;(rw[v];exact aX.o.1);(rw[y];exact aX.o.2)) rfl (λbA=>Ed rfl (by rfl) hk rfl) ?_ ?_) λaa f ah ⟨bx,bw,N,S⟩=>N aa ah S
 .have M:=aM C false w ab (by rw[u];omega) ai aB;rw[v]at M;simp only[aaF,ZW,aas];exact M
 .co_apply xJ;co_apply uX
  (co_apply rH;simp only[YJ,YA,YI,Nat.reduceAdd,YF,List.range,List.range.loop])
  (co_apply oY rfl (by rfl) hk oZ pj;walk_nrm)
  (co_apply oY rfl (by rfl) hk oZ pj;walk_nrm)
  co_apply oY rfl (by rfl) hk (λw aN N=>by rw[(Sy rfl (by rfl) (by rfl) aA.o w).1];exact N) (λw=>(Sy rfl (by rfl) (by rfl) aA.o w).2);walk_nrm
  (co_apply oY rfl (by rfl) hk oZ pj;walk_nrm)
  refine⟨0,λbt Z=>⟨rfl,_,_,Ed rfl (by rfl) hk rfl,?_,?_⟩⟩
  .have M:=a7 C true bt (ab.rel Z) (by rw[u];omega) ai (λb B=>(Z.keep b (.inl ⟨by rw[u];omega,λe=>by have:=ai e;omega⟩)).trans<|aB b B);rw[y]at M;simp only[aaF,ZW,aas];exact M
  .rw[oE,AO,AO];walk_nrm;co_apply xJ;co_apply uX
   (co_apply rH;simp only[YJ,YA,YI,Nat.reduceAdd,YF,List.range,List.range.loop])
   (co_apply oY rfl (by rfl) hk oZ pj;walk_nrm)
   (co_apply oY rfl (by rfl) hk oZ pj;walk_nrm)
   co_apply Jz rfl (by rfl) hk rfl (vals:=#[.chan<|some n,.chan<|some m]) (by walk_nrm) func102 (by rfl) rfl;simp only[ntmps102,YJ,YA,YI,Nat.reduceAdd,Nat.reduceSub,Zu,Zt,ZK,Zz,YT,Y1];have bv:=hk;have hk:(base 102).kind≠.early:=by simp[base]
   co_apply uX
   (co_apply rH;simp only[YJ,YA,YI,Nat.reduceAdd,YF,List.range,List.range.loop])
   (co_apply oY rfl (by rfl) hk oZ pj;walk_nrm)
   co_apply xJ;co_apply uX
   (co_apply rH;simp only[YJ,YA,YI,Nat.reduceAdd,YF,List.range,List.range.loop])
   (co_apply oY rfl (by rfl) hk oZ pj;walk_nrm)
   co_apply xJ;co_apply uX;co_apply Jy;co_apply Ng;rw[<-v,<-y];refine PR ⟨_,_,_,_,_,_,_,_,_,_,_,_,_,_,_,_,_,_,_,_,_,_,_,_,_,_,_,_,_,_,_,_,_,_,_,_,rfl⟩ ⟨_,_,rfl⟩ rfl ab Z (by rw[wW];have:=AP c;omega) ?_;intro g an A1 f D X aa ah S;rw[wW]at an;rw[v,y]at S
   have aV:pH I g D f:=by
    have ad:=X.tE.rel;refine⟨d,aF,by have:=ad.size;omega,λb B=>?_,?_,?_,j9 X.own (by rw[u];omega)⟩
    .refine(ad.keep b<|.inl ⟨by rw[u];omega,λe=>by cases e;(rw[v];omega);(rw[y];omega)⟩).trans ?_;rw[O];exact bg b B
    .exact ad.os.trans<|aP.trans bf.o.1
    .exact ad.output.trans<|aE.trans bf.o.2
   obtain⟨j,h,rfl,bp⟩:=i_ X.own;clear bp;refine(?_:kI prog _ (pH I g<|.slice j g.length h) Q) aa f ah aV S;obtain⟨A,aw⟩:=j5 g.length;have a':Hid _:=aZ.o<|.slice j g.length h;have a6:Hid (∀ag w,w.ownsRow ag 134 4 (.slice j g.length h) g.length (g.flatMap Fd.c)->Calls prog 103 #[.slice j g.length h,.func (.func 104) #[] #[]] w λE f=>E=.returned (.tuple #[])/\f.ownsRow ag 134 4 (.slice j g.length h) (findF c).length ((findF c).flatMap Fd.c)/\w.heap.size<=f.heap.size/\(∀b,b<ag->b<w.heap.size->f.heap[b]?=w.heap[b]?)/\f.os=w.os/\f.output=w.output):=λag w M=>JB M an a8 aG aK;have bq:=h_ aw;rw[<-aw]at a' a6⊢;clear aV S aa ah X an ab aM a7 ai aB a9 K v y u bh Z bo O aP aE aw A1 f aZ a1 aC aA a8 aG aK;have aj:=pH.cl (I:=I) (fs:=g) (v:=.slice j A h);have hk:=bv;walk_nrm
   (co_apply Tr.pure aj rfl (by rfl) hk oZ pj;walk_nrm)
   co_apply Tr.nil aj;co_apply Tr.seq aj
   co_apply Tr.UJ qQ (by kernel_rfl) (λbn R=>by have E:fV.M 67=[]:=kr;rw[E]at R;cases R) aj
    (J:=λY f=>Y=#[.slice a c.length s,undef,σ,ν (H:Int),.chan<|some n,.chan<|some m,.slice j A h,.slice a c.length s,ν c.length,ν (H:Int),.chan<|some n,.chan<|some m,.slice a c.length s,ν (H:Int),.slice aq H az,.chan<|some n,.slice a c.length s,ν (H:Int),.slice al (c.length-H) ax,.chan<|some m,.chan<|some n,.chan<|some m,.slice j A h,.slice j A h,.tuple #[],undef]/\pH I (findF c) (.slice j A h) f)
    (λ_ _ _ _ q=>⟨q.1,pH.cl (I:=I) _ _ _ q.2⟩)
    (by
     intro w ay
     go_wp2_with fail
     let⟨wo,aQ,ap,a2,aW,aT,ao⟩:=ay;refine(a6 _ w (by rw[<-bq.o]at ao;exact ao)).mono ?_;rintro E x ⟨rfl,W,ae,V,aH,aD⟩;have bl:Hid<|pH I (findF c) (.slice j A h) x:=⟨wo,aQ,YH ap ae,λb r=>(V b r<|Yy r ap).trans<|a2 b r,aH.trans aW,aD.trans aT,W⟩;clear aQ ap a2 aW aT ao W ae V aH aD;go_wp2
     exact⟨rfl,rfl,bl⟩)
   rintro Y a4 bi t3 ⟨rfl,aI⟩ bj;refine(?_:kI prog _ (pH I (findF c)<|.slice j A h) Q) a4 bi t3 aI bj;clear aI bj a4 bi t3;have aj:=pH.cl (I:=I) (fs:=findF c) (v:=.slice j A h);refine J3 ?_;co_apply Tr.Pr aj func67 (by rfl) rfl bk;exact a'.o
end
section
variable {P:e_}
def P2(a:Loc):∃d,a.low d:=by
 cases a with
 |cell b=>exact⟨b.block+1,Zo _⟩
 |obj c=>exact⟨c+1,Zo _⟩
 |_=>exact⟨0,trivial⟩
def P3(c:MemAct):∃f,c.low f:=by
 cases c with
 |access d=>exact P2 d.loc
 |mark e=>
  cases e with
  |acquire b=>exact⟨b.block+1,Zo _⟩
  |release b=>exact⟨b.block+1,Zo _⟩
  |releaseMerge b=>exact⟨b.block+1,Zo _⟩
  |read b=>exact⟨b.block+1,Zo _⟩
  |write b=>exact⟨b.block+1,Zo _⟩
  |_=>exact⟨0,trivial⟩
 |send a _=>exact⟨a+1,Zo _⟩
 |sendDone a _=>exact⟨a+1,Zo _⟩
 |recv a _ _=>exact⟨a+1,Zo _⟩
 |recvDone a _=>exact⟨a+1,Zo _⟩
 |close a=>exact⟨a+1,Zo _⟩
 |recvClosed a=>exact⟨a+1,Zo _⟩
 |_=>exact⟨0,trivial⟩
def Em:∀a:List MemOp,∃b,∀c∈a,c.act.low b
 |[]=>⟨0,λ_ g=>by cases g⟩
 |x::a=>by
  obtain⟨b,h⟩:=Em a;let⟨f,e⟩:=P3 x.act;refine⟨max b f,λc d=>?_⟩;rcases Y7.1 d with rfl|d
  .exact MemAct.low_mono (Nat.le_max_right ..) e
  .exact MemAct.low_mono (Nat.le_max_left ..) (h c d)
def zK.past{b:Trace}(a:zK b):∃c,Past (λ_=>False) c b:=by let⟨c,j⟩:=Em b.toList;exact⟨c,a.clean,λf d e g=>.inl<|a.known f d e g,a.over,a.hears,λh i=>j h<|by simpa using i⟩
def Gn{b:g_}{f:Func}{d:Tmp}{a:Act}{h:List Item}{e:b_}(j:P.funcs[b]?=some f)(c:f.results=#[.tmp d])(i:P.inits.idxOf? b=none)(g:a.defers=[]):
 stepG P true (G {(base b).at a h with mode:=.returning} []) e=.ended (.done<|a.tmps.getD d undef) e #[]:=by
 simp[G,stepG,unwind,doReturn,Frame.at,base,g,j,abv c,events_results_tmp c,GStep.after,seen_none,i]
def JM{b:g_}{k:Func}{l:Tmp}{a:Act}{C:List Item}{c:Array c_}{e:b_}{i:Trace}{sl:Option<|Nat×Nat}{m:f_->b_->Prop}(F:P.funcs[b]?=some k)(y:k.results=#[.tmp l])(t:P.inits.idxOf? b=none)(z:a.defers=[])
 (J:Beside P c i<|G ((base b).at a (.code .ret::C)) []) (s:∀j,m (a.tmps.getD l undef)<|e.at j):
 ∃q d f g p,runNT P (q+1) (crowd c e sl) i=(.ended f g,p)/\runN P q (crowd c e sl)=.next d/\step P d=.ended f g/\Go.Conc.Good P m d f g p:=by
 let⟨x,⟨M,I⟩,B⟩:=J;let⟨o,w⟩:=B.past;refine beside_ends (D:=λ_ _ h=>h=#[]) (λ_ _ h u K E=>by subst u;simp at E) x I w (n:=1)<|.inr ⟨rfl,λL r=>?_⟩;rw[stepG_ret'];refine⟨rfl,λN A=>⟨rfl,_,#[],Gn F y t z,si,?_⟩⟩;obtain⟨j,rfl⟩:=r;obtain⟨v,rfl⟩:=A;exact s v
def No{b:g_}{c:Func}{o:Tmp}{e:Code}{a:Array f_}{g:b_}{p:f_->b_->Prop}(s:P.funcs[b]?=some c)(x:c.body=some e)(D:c.results=#[.tmp o])(w:P.inits.idxOf? b=none){t:b_->Prop}(F:t g)
 (y:kI P (G ((base b).at {tmps:=a++Array.replicate (c.ntmps-a.size) undef,defers:=[]} [.code e]) []) t (λgs d tr=>∃i q,i.defers=[]/\Beside P gs tr (G ((base b).at i (.code .ret::q)) [])/\∀z,p (i.tmps.getD o undef)<|d.at z)):
 ∃r f h d k,runNT P (r+1) (solo (G (Frame.enter P b a .normal) []) g) #[]=(.ended h d,k)/\runN P r (solo (G (Frame.enter P b a .normal) []) g)=.next f/\step P f=.ended h d/\Go.Conc.Good P p f h d k:=by
 rw[enter_at a s x,solo_eq_crowd];have L:Beside P #[G ((base b).at {tmps:=a++Array.replicate (c.ntmps-a.size) undef,defers:=[]} [.code e]) []] #[]<|G ((base b).at {tmps:=a++Array.replicate (c.ntmps-a.size) undef,defers:=[]} [.code e]) []:=⟨rfl,⟨_,leavers_one P _⟩,O8⟩;let⟨j,K,d,n,k,m,i,q,E,M,v⟩:=y _ g #[] F L none;obtain⟨l,f,h,I,t2,C,u,A,B⟩:=JM (sl:=n) s D w E M v;refine⟨j+l,f,h,I,t2,?_,?_,A,B⟩
 .rw[show j+l+1=j+(l+1)by omega,runNT_add,m];exact C
 .have J:runN P j (crowd #[G ((base b).at {tmps:=a++Array.replicate (c.ntmps-a.size) undef,defers:=[]} [.code e]) []] g none)=.next (crowd K d n):=by rw[<-runNT_fst _ _ _ #[],m]
  rw[runN_add,J];exact u
end
