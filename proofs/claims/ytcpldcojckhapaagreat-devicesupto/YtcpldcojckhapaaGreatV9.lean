import Derived.Test.YtcpldcojckhapaaGreatV3
import Derived.Test.YtcpldcojckhapaaGreatV4
import Derived.Test.YtcpldcojckhapaaGreatV8
set_option maxRecDepth 100000
set_option maxHeartbeats 16000000
set_option linter.all false
noncomputable section
namespace Go.Proofs.YtcpldcojckhapaaGreat
open Go Go.Proofs.Tryz Go.RowKit Go.Shelf
def mU{j:e_}{w:b_}{u:Array Oper}{rest:List Oper}{k:Oper}{g:Act}{q:Exit->Act->b_->Prop}(ht:k.guard=none)(s x:Operand)(t:d_)
 (aO:k.op=.call {callee:=.builtin .append,args:=#[s,x],argTypes:=#[t,t]})
 (base S:Nat) (e:d_) (i:TypeInfo) (m:f_) (cu bytes:Nat) (bQ:j.underlying t=some (.slice e)) (hi:j.info? e=some i) (N:i.zero=some m)
 (z:i.size=cu) (F:i.bytes=bytes) (R:m.cells.size=cu) (A:0<cu)
 (v:f_) (n:Nat) (xs:List f_) (hs:g.eval s=v) (hown:w.ownsRow base e cu v n xs)
 (o:f_) (a:Nat) (c:List f_) (hx:g.eval x=o) (b:w.ownsRow S e cu o a c) (K:∀y∈c,y.oneCell'=true)
 (P:n+a<=maxLen) (E:(n+a)*bytes<=140737488355328) (Q:base<=w.heap.size)
 (M:∀h f,f.ownsRow base e cu h (n+a) (xs++c)->w.grownBy f v.ownBlock->wpList j u q rest (g.put k.dst h) f):wpList j u q (k::rest) g w:=by
 rcases b.2 with⟨rfl,rfl⟩|⟨l,L,U,rfl,Y,V,W,T,Z,X⟩
 .have O:=YV (by rw[b.1];simp);subst O;exact QT
 .refine Zl w ht s x t aO base e i m cu bytes bQ hi N z F R A v n xs hs hown (μ l 0) a L c hx b.1 (λd y r=>?_) K P E Q λh f D J _=>M h f D J;have C:((μ l 0):Addr).add d=(μ l d):=by by_cases I:d=0<;>simp[Addr.add,I]
  have B:d<a*cu:=by rw[<-b.1];exact(Yr.1 r).1
  rw[C,b.cellAt d B,r]
def x0:Go.Shelf.Ren:=⟨λ|105=>93|212=>121|99=>122|165=>123|166=>124|170=>125|169=>126|263=>148|264=>149|206=>150|240=>151|241=>152|276=>170|277=>171|n=>n,λ|9=>9|3=>3|4=>4|20=>20|0=>0|46=>128|109=>198|5=>5|72=>203|76=>207|51=>225|146=>226|53=>228|148=>229|70=>201|37=>114|75=>206|127=>217|164=>248|80=>120|n=>n,λ|n=>n⟩
def EO:Go.Proofs.Lays.n105 prog x0:={
 mixed:=kr
 f99:=Tryz.func122.trans (ZD some kr)
 f105:=Tryz.func93.trans (ZD some kr)
 f165:=Tryz.func123.trans (ZD some kr)
 f166:=Tryz.func124.trans (ZD some kr)
 f169:=Tryz.func126.trans (ZD some kr)
 f170:=Tryz.func125.trans (ZD some kr)
 f206:=Tryz.func150.trans (ZD some kr)
 f212:=Tryz.func121.trans (ZD some kr)
 f240:=Tryz.func151.trans (ZD some kr)
 f241:=Tryz.func152.trans (ZD some kr)
 f263:=Tryz.func148.trans (ZD some kr)
 f264:=Tryz.func149.trans (ZD some kr)
 f276:=Tryz.func170.trans (ZD some kr)
 f277:=Tryz.func171.trans (ZD some kr)
 t0:=underlying0
 a0:=isAgg0
 z0:=sizeOf0
 v0:=zeroValue0
 t3:=underlying3
 a3:=isAgg3
 z3:=sizeOf3
 v3:=zeroValue3
 t4:=underlying4
 a4:=isAgg4
 z4:=sizeOf4
 v4:=zeroValue4
 t5:=underlying5
 a5:=isAgg5
 z5:=sizeOf5
 v5:=zeroValue5
 t9:=underlying9
 a9:=isAgg9
 z9:=sizeOf9
 v9:=zeroValue9
 t20:=underlying20
 a20:=isAgg20
 z20:=sizeOf20
 v20:=zeroValue20
 t37:=underlying114
 a37:=isAgg114
 z37:=sizeOf114
 v37:=zeroValue114
 t46:=underlying128
 a46:=isAgg128
 z46:=sizeOf128
 v46:=zeroValue128
 t51:=underlying225
 a51:=isAgg225
 z51:=sizeOf225
 v51:=zeroValue225
 t53:=underlying228
 a53:=isAgg228
 z53:=sizeOf228
 v53:=zeroValue228
 t70:=underlying201
 a70:=isAgg201
 z70:=sizeOf201
 v70:=zeroValue201
 t72:=underlying203
 a72:=isAgg203
 z72:=sizeOf203
 v72:=zeroValue203
 t75:=underlying206
 a75:=isAgg206
 z75:=sizeOf206
 v75:=zeroValue206
 t76:=underlying207
 a76:=isAgg207
 z76:=sizeOf207
 v76:=zeroValue207
 t109:=underlying198
 a109:=isAgg198
 z109:=sizeOf198
 v109:=zeroValue198
 t127:=underlying217
 a127:=isAgg217
 z127:=sizeOf217
 v127:=zeroValue217
 t146:=underlying226
 a146:=isAgg226
 z146:=sizeOf226
 v146:=zeroValue226
 t148:=underlying229
 a148:=isAgg229
 z148:=sizeOf229
 v148:=zeroValue229
 t164:=underlying248
 a164:=isAgg248
 z164:=sizeOf248
 v164:=zeroValue248}
def Ba:Builder.Extra prog x0:={
 sizeBuilder:=kr
 liesBuilder:=kr
 t5:=underlying5
 a5:=isAgg5
 z5:=sizeOf5
 v5:=zeroValue5
 infoByte:=kr
 cellsByte:=kr
 sizeByte:=kr
 neB5:=by decide}
open Go.RowKit Go.Lib in
def EP(c:a_)(a:Nat)(b:b_)(g:a<=9223372036854775807)(f:c.size*a<=140737488355328):
 Calls prog 93 #[.string c,ν a] b λd e=>d=.returned (.string ⟨(Lib.repeatL c.data.toList a).toArray⟩)/\Below b.heap.size b e:=Any.strings_Repeat EO Ba c a b g f
def ql(a:Nat):a_:=⟨(Lib.repeatL [0] a).toArray⟩
def CB(a:Nat):(ql a).size=a:=by show(Lib.repeatL [0] a).toArray.size=a;rw[YJ,Lib.repeatL_length];simp
def lr(s:a_)(k:Nat):Pl.j2 s k=(s.data.toList.getD k 0).toNat:=by unfold Pl.j2;exact Qc
def tN(b f:Nat):Pl.j2 (ql b) f=0:=by
 have c:∀a,Lib.repeatL [0] a=List.replicate a (0:UInt8):=by
  intro a
  induction a with
  |zero=>rfl
  |succ a e=>rw[Lib.repeatL,e];rfl
 have d:(ql b).data.toList=List.replicate b (0:UInt8):=by show(Lib.repeatL [0] b).toArray.toList=_;rw[abU,c]
 rw[lr,d,Yt,aaD];split<;>rfl
def H0(b a:Nat):Pl.wd (ql b) a=0:=by unfold Pl.wd;rw[tN,tN]
section
variable {O:Nat->Bool}
def CE(d:b_)(a c:Nat)(b:c≠a)(g e n m h l j i f k:f_):((((((((((d.setCell (μ a 0) g).setCell (μ a 1) e).setCell (μ a 2) n).setCell (μ a 3) m).setCell (μ a 4) h).setCell (μ a 5) l).setCell (μ a 6) j).setCell (μ a 7) i).setCell (μ a 8) f).setCell (μ a 9) k).heap[c]?=d.heap[c]?:=by rw[Yp _ _ _ _ b,Yp _ _ _ _ b,Yp _ _ _ _ b,Yp _ _ _ _ b,Yp _ _ _ _ b,Yp _ _ _ _ b,Yp _ _ _ _ b,Yp _ _ _ _ b,Yp _ _ _ _ b,Yp _ _ _ _ b]
def Vy{a b:b_}(m:Below a.heap.size a b)(e c l k f j g h d i:f_):Below a.heap.size a ((((((((((b.setCell (μ a.heap.size 0) e).setCell (μ a.heap.size 1) c).setCell (μ a.heap.size 2) l).setCell (μ a.heap.size 3) k).setCell (μ a.heap.size 4) f).setCell (μ a.heap.size 5) j).setCell (μ a.heap.size 6) g).setCell (μ a.heap.size 7) h).setCell (μ a.heap.size 8) d).setCell (μ a.heap.size 9) i):=
 (((((((((m.setCell kM _).setCell kM _).setCell kM _).setCell kM _).setCell kM _).setCell kM _).setCell kM _).setCell kM _).setCell kM _).setCell kM _
def qn(d:a_)(a:Pl.mW)(b:f_)(c:Nat):f_:=.agg #[.string d,ν a.fn,ν a.kA,ν a.l7,ν a.cnt,ν a.kd,ν a.to_,ν a.many,b,.int .u8 (c:Nat)]
def x3(e:a_)(a:b_):Calls prog 77 #[.string e] a λm s=>∃(d:Pl.mW) (j:f_) (g:Nat),m=.returned (qn e d j g)/\s.ownsRow a.heap.size 3 1 j d.vals.length (d.vals.flatMap ka)/\Pl.lj e d g/\d.vals.length<=2000/\Below a.heap.size a s:=by
 let⟨p,f⟩:=j5<|a.alloc<|.cells #[.string ⟨#[]⟩,ν 0,ν 0,ν 0,ν 0,ν 0,ν 0,ν 0,σ,.int .u8 0] 146;have n:=ba f;have q:=v' f;have Q:p.heap.size=a.heap.size+1:=by rw[f];simp
 have N:=h_ n;have K:=h_ q;clear n q
 go_enter func77,ntmps77
 go_wp2_with fail
 rw[<-f];clear f;refine(H1 e p).mono ?_;rintro m b ⟨d,j,g,rfl,l,r,C,h⟩;unfold u1;obtain⟨D,v,rfl,_⟩:=i_ l;have i:=(h.block a.heap.size om).trans K;have S:=h.size;have o:=h_ l;have L:=h_ r;have t:=h_<|jZ N h;have c:=λk=>Yu b a.heap.size k _ _ _ i;have R:=λk=>Y2 b a.heap.size k _ _ i;have z:=c 0;have x:=c 1;have u:=c 2;have P:=c 3;have y:=c 4;have B:=c 5;have M:=c 6;have F:=c 7;have E:=c 8;have I:=c 9;have w:=Yn i;clear l r h i c
 go_wp2_with fail
 refine Yx (v:=qn e d (.slice D d.vals.length v) g) (by unfold qn;simp[results,results77,go_sem,w,z,x,u,P,y,B,M,F,E,I]) rfl ?_;refine⟨d,_,g,rfl,?_,L,C,?_⟩
 .exact(jV (j9 o om) λJ A=>CE _ _ _ (li<|(o.o.lt J A).1) ..).alloc _
 .exact jT (Vy t ..) _
def j1.r6{d:b_}{b g e i:Nat}{c:Nat->Nat}{f:f_}{a:j4}(M:j1 O d b g e c f a)(h:i<4):d.cell? (μ b<|3+i)=some (.slice (some (μ (c i) 0)) (a.sz i)<|a.sz i):=by exact Rp
def j1.CG{c:b_}{a g d i:Nat}{e:Nat->Nat}{f:f_}{b:j4}(M:j1 O c a g d e f b)(h:i<4):c.cell? (μ a<|7+i)=some (ν<|b.kp i):=by exact Rp
def hasB(b:j4)(a:Pl.mW):Bool:=decide (a.l7+a.cnt<=b.sz a.kA)&&decide (a.to_+a.many<=b.sz a.kd)
def GK(e m t:Nat)(u:Nat->Nat)(r:f_)(b:j4)(a:Pl.mW)(g:f_)(s:Nat)(j:Option Addr)(h:Nat)(c:b_)(M:j1 O c e m t u r b)(n:a.kA<4)(l:a.kd<4)(B:a.l7<=100000)(y:a.cnt<=100000)(A:a.to_<=100000)(z:a.many<=100000)(k:g=.slice j s h):
 Calls prog 114 #[.pointer<|some (μ e 3),u1 a g] c λi v=>i=.returned (.bool<|hasB b a)/\Below c.heap.size c v:=by
 subst k;unfold u1 hasB;have w:=M.r6 n;have D:=M.r6 l;have x:=Yn M.dev;have C:(a.kA:Int)<4:=om;have E:(a.kd:Int)<4:=om;clear M;by_cases f:a.l7+a.cnt<=b.sz a.kA
 .have o:(a.l7:Int)+(a.cnt:Int)<=(b.sz a.kA:Int):=om;have d1:decide (a.l7+a.cnt<=b.sz a.kA)=true:=by simp[f]
  rw[d1,abd];clear d1;by_cases d:a.to_+a.many<=b.sz a.kd
  .have q:(a.to_:Int)+(a.many:Int)<=(b.sz a.kd:Int):=om;have d2:decide (a.to_+a.many<=b.sz a.kd)=true:=by simp[d]
   rw[d2];clear d2;exact Ka
  .have q:decide ((a.to_:Int)+(a.many:Int)<=(b.sz a.kd:Int))=false:=so;have d2:decide (a.to_+a.many<=b.sz a.kd)=false:=so;rw[d2];clear d2 d;exact Ka
 .have o:decide ((a.l7:Int)+(a.cnt:Int)<=(b.sz a.kA:Int))=false:=so;have d1:decide (a.l7+a.cnt<=b.sz a.kA)=false:=so;rw[d1,abS];clear d1 f;exact Ka
end
section
variable {O:Nat->Bool}
def H2{e:Type}(d:List e)(a:Nat)(c:List e)(h:a+c.length<=d.length)(b:Nat):(splice d a c)[b]?=if a<=b/\b<a+c.length then c[b-a]? else d[b]?:=by
 unfold splice;by_cases f:b<a
 .rw[Yo om,YK (by rw[ZJ];omega),ZC f]
 .rw[YP (by rw[ZJ];omega),ZJ,Z8 om];by_cases g:b<a+c.length
  .rw[Ys ⟨om,g⟩,YK om]
  .rw[Yo om,YP om,abl,show a+c.length+(b-a-c.length)=b by omega]
def zo(d:j4)(a:Pl.mW)(c b:Nat):Int:=if c=a.kd/\a.to_<=b/\b<a.to_+a.vals.length then a.vals.getD (b-a.to_) 0 else d.ent c b
def j1.mR{e k:b_}{c l d:Nat}{f:Nat->Nat}{i:f_}{g:j4}(a:j1 O e c l d f i g)(b:Below e.heap.size e k):j1 O k c l d f i g:=
 ⟨(b.block c<|Yn a.dev).trans a.dev,a.lines.below b a.lines.lt,λh j=>(a.ent h j).below b (a.ent h j).lt,a.inj,(b.block d<|Yn a.store).trans a.store,jY a.wait b,a.lo,a.ow.grow b.size⟩
def j1.drewN{e:b_}{a g b:Nat}{c:Nat->Nat}{f:f_}{d:j4}(i:j1 O e a g b c f d)(h:Nat):j1 O (e.drewN h) a g b c f d:=i.mR (YL br _)
def j1.put{t p:b_}{d n o j:Nat}{e:Nat->Nat}{s:f_}{g:j4}(a:j1 O t d n o e s g)(r:j<4){f:Nat->Nat->Int}(c:kf (e j) t p)(w:kE p (e j) 3 (g.sz j) 1 λh _=>ν<|f j h)(x:∀b h,b≠j->f b h=g.ent b h):
 j1 O p d n o e s {g with ent:=f}:=by
 obtain⟨z,i⟩:=(a.ent j r).block;obtain⟨A,q⟩:=a.lines.block;refine⟨(c.block d (Yn a.dev)<|kg a.dev i dc).trans a.dev,a.lines.same<|c.block n (Yn q)<|kg q i dc,λb m=>?_,a.inj,(c.block o (Yn a.store)<|kg a.store i dc).trans a.store,jV a.wait λv y=>?_,a.lo,a.ow.grow c.size⟩
 .by_cases k:b=j
  .subst k;exact w
  .refine((a.ent b m).same<|c.block (e b) (a.ent b m).lt<|a.inj b j m r k).congr λl B _ _=>?_;show ν (g.ent b l)=ν (f b l);rw[x b l k]
 .obtain⟨C,u⟩:=jU a.wait v y;exact c.block v (Yn u) (kg u i dc)
def r7{j:b_}{k e off:Nat}{c:Array f_}{f:Nat->Int}{vs:List Int}(o:c.size=e)(p:∀b,b<e->c[b]?=some (ν<|f b))(r:off+vs.length<=e)(n:j.heap[k]?=some (.cells (splice c.toList off<|vs.flatMap ka).toArray 3 (0,0))):
 kE j k 3 e 1 (λb _=>ν (if off<=b/\b<off+vs.length then vs.getD (b-off) 0 else f b)):=by
 have h:(vs.flatMap ka).length=vs.length:=by rw[lW,YS]
 have g:off+(vs.flatMap ka).length<=c.toList.length:=by rw[h];have:=Y0 (xs:=c);omega
 refine⟨_,n,by rw[YJ,length_splice _ _ _ g,Y0,o,YS],λa l m q=>?_⟩;obtain rfl:l=0:=om;rw[YS,YE,aat,H2 _ _ _ g,h];by_cases d:off<=a/\a<off+vs.length
 .have i:a-off<vs.length:=om;rw[Ys d,p5 vs (a-off) vs[a-off]<|Yw i];show _=some (ν (if off<=a/\a<off+vs.length then vs.getD (a-off) 0 else f a));rw[Ys d,Yt,Yw i];rfl
 .rw[Yo d,ZZ,p a m];show _=some (ν (if off<=a/\a<off+vs.length then vs.getD (a-off) 0 else f a));rw[Yo d]
def ES(g z v ay:Nat)(d:Nat->Nat)(u:f_)(b:j4)(a:Pl.mW)(ab:f_)(K:Bool)(c:b_)(i:j1 O c g z v d u b)(o:a.kd<4)(aj:a.fn≠22)(w:c.ownsRow ay 3 1 ab a.vals.length<|a.vals.flatMap ka)(Y:a.to_+a.vals.length<=b.sz a.kd)(aG:a.many<=100000)
 (Z:K=(decide (0<a.many)&&decide (a.to_<b.kp a.kd))):
 Calls prog 115 #[.pointer<|some (μ g 3),u1 a ab] c λal D=>al=.returned (.bool K)/\j1 O D g z v d u {b with ent:=zo b a}/\kf (d a.kd) c D:=by
 obtain⟨R,Q,rfl,_⟩:=i_ w;unfold u1;have ai:=i.r6 o;have V:=i.CG o;have aq:=Yn i.dev;have aH:(a.kd:Int)<4:=om;have aF:((a.fn:Int)==22)=false:=nU;obtain⟨n,A,B,U⟩:=i.ent a.kd o;rw[YS]at B;have aB:=Yn A;have F:∀e,e<b.sz a.kd->n[e]?=some (ν<|b.ent a.kd e):=λe r=>by have:=U e 0 r om;rwa[YS,YE]at this
 have aa:Hid<|c.heap[d a.kd]?=some (.cells n.toList.toArray 3):=by show _=_;rw[aaa];exact A
 have ax:=h_ F;have M:=h_ B;have ah:=h_ w;have m:=h_ i;have C:=h_ Z;have aK:(a.to_:Int)<=(b.sz a.kd:Int):=om;clear i w U F A B aj Z
 go_enter func115,ntmps115
 go_wp2_with fail
 go_quiet (fail)
 go_wp2_with fail
 obtain⟨j,l⟩:∃j,j=(c.alloc<|.cells #[ν a.fn,ν a.kA,ν a.l7,ν a.cnt,ν a.kd,ν a.to_,ν a.many,.slice R a.vals.length Q] 144).drewN nq:=⟨_,rfl⟩;have k:Below c.heap.size c j:=by rw[l];exact YL (jT (Below.refl _ _) _) _
 have t:j.heap[c.heap.size]?=some (.cells #[ν a.fn,ν a.kA,ν a.l7,ν a.cnt,ν a.kd,ν a.to_,ν a.many,.slice R a.vals.length Q] 144):=by rw[l];exact YO c _
 obtain⟨ac,ap,ae,ad,ao,au,aA,ag,am⟩:=kq t;have h:=h_ k;have af:=h_ t;have I:=h_<|(k.block (d a.kd) aB).trans aa.out;have L:=h_<|jY ah.out k;rw[<-l];clear l k t ai;have X:(a.vals.flatMap ka).length=Nat.min a.vals.length (b.sz a.kd-a.to_):=by rw[lW,YS];exact(Z8 om).symm
 have S:=Y0 (xs:=n);have an:=h_ X;have aw:=h_ S;clear X S
 go_region_law (first
  |(refine qm rfl (.tmp 44) (.tmp 46) 28 28 rfl 3 underlying28 Tryz.Bb _ _ _ _ _ _ rfl rfl (d a.kd) a.to_ n.toList 3 I.out (a.vals.flatMap ka) an.out (λx=>⟨Yo (by rw[lW,YS]at x;omega),Bc (jV (w':=j.drew) L.out λ_ _=>rfl) (by rw[lW,YS]at x;exact x)⟩) (by rw[lW,YS,aw.out,M.out];exact Y) (m4 _) ?_;intro s P f))
 all_goals
  have ak:g≠d a.kd:=kg m.out.dev (show c.heap[d a.kd]?=_ from aa.out) dc;have T:=(f.block g ak).trans<|(h.out.block g aq).trans m.out.dev;have N:=(f.block c.heap.size om).trans af.out;have aD:s.cell? (μ g<|7+a.kd)=some (ν<|b.kp a.kd):=by rw[Yu _ _ _ _ _ _ T,<-Yu _ _ _ _ _ _ m.out.dev];exact V
  obtain⟨aC,aM,aI,aJ,aE,aO,aL,aN,z8⟩:=kq N;have p:Hid<|kf (d a.kd) c s:=⟨f.os.trans h.out.os,f.tape.trans h.out.tape,f.output.trans h.out.output,YH h.out.size<|Nat.le_of_eq f.size.symm,λe r y=>(f.block e y).trans<|h.out.block e r⟩;have J:=h_<|r7 M.out ax.out Y P.out;have q:Hid<|j1 O s g z v d u {b with ent:=zo b a}:=m.out.put o p.out (J.out.congr λaz _ _ _=>by simp[zo]) (λaz e y=>by simp[zo,y]);clear T N f P ac ap ae ad ao au aA ag am V J I L;by_cases E:0<a.many
  .have ar:(0:Int)<(a.many:Int):=om;by_cases W:a.to_<b.kp a.kd
   .have av:(a.to_:Int)<(b.kp a.kd:Int):=om
    go_wp2_with fail
    all_goals
     go_quiet (fail)
     go_wp2;go_ret;refine⟨?_,q.out.drewN _,p.out.drewN _⟩;rw[C.out];simp[E,W]
   .have av:decide ((a.to_:Int)<(b.kp a.kd:Int))=false:=so
    go_wp2_with fail
    all_goals
     go_quiet (fail)
     go_wp2;go_ret;refine⟨?_,q.out.drewN _,p.out.drewN _⟩;rw[C.out];simp[E,W]
  .have ar:decide ((0:Int)<(a.many:Int))=false:=so
   go_wp2_with fail
   all_goals
    go_quiet (fail)
    go_wp2;go_ret;refine⟨?_,q.out.drewN _,p.out.drewN _⟩;rw[C.out];simp[E]
end
def bytesOf(a:List Int):a_:=⟨(a.map λb=>UInt8.ofNat b.toNat).toArray⟩
def ET(c:List Int):∀a:a_,(c.foldl (λe b=>e.push<|UInt8.ofNat b.toNat) a).data.toList=a.data.toList++c.map λb=>UInt8.ofNat b.toNat:=by
 induction c with
 |nil=>intro a;simp
 |cons b c d=>intro a;rw[aa1,d,ZW];simp
def qF(e:b_)(d i f:Nat)(c:List Int)(l:c.length=i)(k:∀a b,c[a]?=some b->e.cell? (μ d a)=some (.int .u8 b)):(convert 114 9<|.slice (some (μ d 0)) i f).run prog e=.ok (.string<|bytesOf c) e:=by
 subst l;rw[aaw _ 114 9 5 _ _ f underlying114 underlying5 underlying9,aa7 _ _ _ f c]
 .congr 2;apply Z6;apply acf.1;rw[ET];simp[bytesOf]
 .have h:=Z9 (P:=prog) e (μ d 0) (c.map λb=>Value.int .u8 b) (λa o g=>by
   have j:(((μ d 0):Addr).add a)=(μ d a):=by by_cases n:a=0<;>simp[Addr.add,n]
   rw[j];rw[Y9]at g;obtain⟨b,m,rfl⟩:=Zk.1 g
   exact k a b m)
  rw[Zx]at h;exact h
def GL:(prog.info? 5).map (λa=>(a.zero,a.size,a.bytes))=some (some (.int .u8 0),1,1):=kr
def wa(a:Nat)(c:a<=100000)(b:b_):(Instr.makeSlice 114 (ν (a:Int))<|ν (a:Int)).run prog b=.ok (.slice (some (μ b.heap.size 0)) a a) (b.alloc<|.cells (madeCells #[.int .u8 0] a) 5):=
 abW 114 5 _ 1 underlying114 GL rfl .i64 .i64 a om om b
def rj(a b:Nat)(c:b<a):(madeCells #[.int .u8 0] a)[b]?=some (.int .u8 0):=by rw[<-ZZ,toList_madeCells_one,aaD,Ys c]
def j0:a_:=bytesOf (List.replicate 64 0)
def Bg:j0.data.toList=List.replicate 64 (0:UInt8):=by decide+kernel
def uh:j0.size=64:=by decide+kernel
def m5(b:List Nat):List Int:=b.flatMap λa=>[((a/256:Nat):Int),((a%256:Nat):Int)]
def lp(a:List Nat):a_:=bytesOf (m5 a)
def Ag(a:Int):f_:=.int .u8 a
def x4(a:List Nat):(m5 a).length=2*a.length:=by
 induction a with
 |nil=>rfl
 |cons c a b=>unfold m5 at b⊢;rw[ZY,Yv,b];simp;omega
def K'(c:b_)(l b:Nat)(h:f_)(a:List Int)(g:a.length=b)(m:c.ownsRow l 5 1 h b<|a.map Ag):(convert 114 9 h).run prog c=.ok (.string<|bytesOf a) c:=by
 rcases m.2 with⟨rfl,u⟩|⟨i,k,e,rfl,r,n,p,t,v,o⟩
 .obtain rfl:a=[]:=YV om
  kernel_rfl
 .refine qF c i b k a g λd s f=>?_;rw[Yu c i d e 5 (0,0) n,<-ZZ];have q:d<b:=by rw[<-g];exact(Yr.1 f).1
  have j:(e.toList.take<|b*1)[d]?=e.toList[d]?:=ZC om;rw[<-j,o,Y9,f];rfl
def cell_two_new(f:b_)(e d:f_)(g:d_):∀b c,[e,d][b]?=some c->(f.alloc<|.cells #[e,d] g).cell? (((μ f.heap.size 0):Addr).add b)=some c:=by
 intro b c a
 match b,a with
 |0,a=>simp at a;subst a;simp[Addr.add]
 |1,a=>simp at a;subst a;simp[Addr.add]
def vj(e:List Nat)(a I g l:Nat)(q:Option Addr)(d:b_)(z:e.length=a)(ag:a<=10000)(r:∀b∈e,b<65536)(O:g<d.heap.size)
 (C:0<a->q=some ⟨g,l,none⟩) (x:∀y b,e[y]?=some b->d.cell? ⟨g,l+y,none⟩=some (.int .i64 (b:Nat))):
 Calls prog 87 #[.slice q a I] d λk Y=>k=.returned (.string<|lp e)/\Below d.heap.size d Y:=by
 obtain⟨v,t,D,A,F⟩:=Y4 GL;have S:∀f:b_,(Instr.makeSlice 114 (.int .i64 0)<|.int .i64<|2*(a:Int)).run prog f=.ok (.slice (some ⟨f.heap.size,0,none⟩) 0<|2*a) (f.alloc<|.cells (madeCells #[.int .u8 0]<|2*a) 5):=λf=>by have u:=run_make (P:=prog) f 114 5 v (.int .u8 0) underlying114 t D .i64 .i64 0 (2*(a:Int)) om om (p1 F) om;rw[A]at u;have k:(2*(a:Int)).toNat=2*a:=om;simpa[Value.cells,k]using u
 obtain⟨B,m⟩:=j5<|madeCells #[Value.int .u8 0]<|2*a;have E:B.size=2*a*1:=by rw[m,aaG];omega
 rw[<-m]at S;have af:IntKind.i64.wrap (2*(a:Int))=2*(a:Int):=wo;have N:=h_ x;have M:=h_ r;have Q:=h_ C;have o:=h_ z;have J:=h_ E;clear x r C z m E
 go_enter func87,ntmps87
 go_wp2_with fail
 go_loopw [12,3] (λn U wr=>∃c:Nat,c<=a/\n=.int .i64 (c:Nat)/\wr.ownsRow d.heap.size 5 1 U (2*c) ((m5<|e.take c).map Ag)/\Below d.heap.size d wr) (λn _ _=>a-(intOf n).toNat)
 case atStart=>exact⟨0,om,rfl,World.ownsRow_made d B (2*a) kM ml J.o,jT br _⟩
 case round=>
  obtain⟨c,ab,rfl,j,h⟩:=hrel;have ai:=h.size;by_cases L:c<a
  .obtain⟨b,i⟩:∃b,e[c]?=some b:=⟨_,Yw (by rw[o.o];exact L)⟩;have Z:b<65536:=M.o b<|ZQ i;have aa:wr.cell? ⟨g,l+c,none⟩=some (.int .i64 (b:Nat)):=by rw[(ke h).1 g _ O];exact N.o c b i
   have K:=Q.o om;have V:=h_<|m9 e c b i;subst K;have s:=h_ j;have p:=h_ h;have ad:IntKind.u8.wrap ((b:Int)/256)=((b/256:Nat):Int):=by rw[aaf];omega
   have ah:IntKind.u8.wrap (b:Int)=((b%256:Nat):Int):=by rw[aaf];omega
   clear j h i
   go_wp2_with (at_builtin;refine Zl _ rfl (.tmp 16) (.tmp 22) 114 rfl d.heap.size 5 v (.int .u8 0) 1 1 underlying114 t D A F rfl dc u3 (2*c) _ rfl (s.o.alloc _) ⟨wr.heap.size,0,none⟩ 2 2 [.int .u8 (b/256:Nat),.int .u8 (b%256:Nat)] rfl rfl (cell_two_new _ _ _ _) (by intro aj w;simp at w;rcases w with rfl|rfl<;>rfl) ml om so ?_;intro ac ak X R _)
   go_roundw
   case rel=>
    refine⟨c+1,om,gn,?_,?_⟩
    .rw[V.o];unfold m5;rw[YX,ZI,show 2*(c+1)=2*c+2 by omega];exact X
    .exact(p.o.alloc p.o.size _).grown R (by have:=p.o.size;simp;omega) (λW T=>(s.o.lt W T).1)
   case measure=>simp[intOf];omega
  .obtain rfl:c=a:=om;rw[Zf (by rw[o.o];exact YC _)]at j;have ae:=K' wr d.heap.size (2*c) u3 (m5 e) (by rw[x4,o.o]) j;go_wp2;go_ret;exact⟨rfl,h⟩

section
variable {O:Nat->Bool}
def Bh(a:Nat)(b:b_)(M:2<=a):Calls prog 100 #[ν a] b λc d=>c=.returned (.bool false)/\d=b:=by have f:((a:Int)==0)=false:=nU;have e:((a:Int)==1)=false:=nU;exact Ky
def EU(t z D:Nat)(j:Nat->Nat)(C:f_)(g:j4)(a:Pl.mW)(w:Nat)(o:Option Addr)(m:Nat)(e:List Nat)(d:b_)(f:j1 O d t z D j C g)(l:a.kA<4)(x:2<=a.kA)(U:a.l7+a.cnt<=g.sz a.kA)(J:g.sz a.kA<=1000)(v:e.length=a.cnt)(q:∀c∈e,c<65536)(r:∀b c,e[b]?=some c->g.ent a.kA (a.l7+b)=(c:Nat)):
 Calls prog 145 #[.pointer<|some ⟨t,3,none⟩,u1 a<|.slice o w m] d λk I=>k=.returned (.string<|lp e)/\Below d.heap.size d I:=by
 unfold u1;have N:=f.r6 l;have P:=Yn f.dev;have B:=(f.ent a.kA l).lt;have S:(a.kA:Int)<4:=om;have p:∀b c,e[b]?=some c->d.cell? ⟨j a.kA,a.l7+b,none⟩=some (.int .i64 (c:Nat)):=λb c h=>by have T:=(Yr.1 h).1;have:=(f.ent a.kA l).cell (i:=a.l7+b) (j:=0) om om;rw[YS,YE]at this;rw[this,r b c h]
 have A:=h_ p;have y:=h_ q;have F:=h_ v;have Q:(a.l7:Int)+(a.cnt:Int)<=(g.sz a.kA:Int):=om;have M:(a.l7:Int)<=(a.l7:Int)+(a.cnt:Int):=om;have V:a.l7+a.cnt<=1000:=om;clear f p q v r
 go_enter func145,ntmps145
 go_wp2_with fail
 go_quiet (fail)
 go_wp2_with fail
 all_goals
  refine(Bh a.kA _ x).mono ?_;rintro k L ⟨rfl,rfl⟩
  go_wp2_with fail
 all_goals
  have n:Below d.heap.size d<|(d.alloc<|.cells #[.int .i64 (a.fn:Nat),.int .i64 (a.kA:Nat),.int .i64 (a.l7:Nat),.int .i64 (a.cnt:Nat),.int .i64 (a.kd:Nat),.int .i64 (a.to_:Nat),.int .i64 (a.many:Nat),.slice o w m] 144).drewN nq:=YL (jT br _) _;have u:=h_ n;refine(vj e a.cnt _ (j a.kA) a.l7 _ _ F om y so (λK=>by first|rfl|(exfalso;omega)) (λb c h=>by rw[(ke u.o).1 (j a.kA) _ B];exact A b c h)).mono ?_
  rintro k R ⟨rfl,s⟩;have E:=h_<|jZ u s;clear n s;go_wp2;go_ret;exact⟨rfl,E⟩
end
section
variable {O:Nat->Bool}
def o_{a:b_}{b:Nat}{n:d_}{f d m l g k i h e j:f_}(c:a.heap[b]?=some (.cells #[f,d,m,l,g,k,i,h,e,j] n)):a.cell? (μ b 0)=some f/\a.cell? (μ b 1)=some d/\a.cell? (μ b 2)=some m/\a.cell? (μ b 3)=some l/\a.cell? (μ b 4)=some g/\a.cell? (μ b 5)=some k/\a.cell? (μ b 6)=some i/\a.cell? (μ b 7)=some h/\a.cell? (μ b 8)=some e/\a.cell? (μ b 9)=some j:=
 ⟨cr c,cr c,cr c,cr c,cr c,cr c,cr c,cr c,cr c,cr c⟩
def p6(a:List Nat):(lp a).size=2*a.length:=by
 have b:(lp a).size=(m5 a).length:=by simp[lp,bytesOf,ByteArray.size]
 rw[b,x4]
end
def Bi(b:Nat)(a:a_):List Int:=(List.range b).map λc=>((Pl.j2 a c:Nat):Int)
def tO(a:Nat)(b:a_):List Int:=[(a:Int)]++Bi 62 b++[(a:Int)]
def nb(b:Nat)(a:a_):a_:=bytesOf (tO b a)
def x5(b:Nat)(a:a_):(tO b a).length=64:=by simp[tO,Bi]
def Bj(a:a_)(c b:Nat)(f:b<c)(h:c<=a.size):(Lib.byteCells<|a.data.toList.take c)[b]?=some (.int .u8 (Pl.j2 a b:Nat)):=by
 have g:b<a.data.toList.length:=by rw[Y0];show b<a.size;omega
 have d:(a.data.toList.take c)[b]?=some a.data.toList[b]:=by rw[ZC f,Yw g]
 have e:Pl.j2 a b=(a.data.toList[b]).toNat:=by unfold Pl.j2;rw[abw om];rfl
 rw[e];unfold Lib.byteCells;rw[Y9,d];rfl
def te{P:e_}(f:b_)(m p t i:d_)(g e l r a:Nat)(c:a_)(d:Array f_)(j:d_)
 (q:P.underlying m=some (.slice i)) (w:(P.info? i).map (·.size)=some 1) (u:f.heap[g]?=some (.cells d j)) (n:Nat.min c.size l=a) (s:e+a<=d.size):
 (Builtin.copy_ #[m,p] t #[.slice (some (μ g e)) l r,.string c]).run P f=
  .ok (goInt a) (f.setRow g (d.toList.take e++(Lib.byteCells (c.data.toList.take a)++d.toList.drop (e+a))).toArray):=by
 have x:a<=c.size:=by rw[<-n];exact acj ..
 have o:(Lib.byteCells<|c.data.toList.take a).length=a:=by rw[Z2,ZJ,<-Z'];omega
 have h:=ab1 P g e j (Lib.byteCells<|c.data.toList.take a) 0 d f u (by rw[o];simpa using s)<|Lib.byteCells_one _;have v:List.take a (List.map (λb:UInt8=>Value.int IntKind.u8 (b.toNat:Int)) c.data.toList)=Lib.byteCells (c.data.toList.take a):=by rw[<-List.map_take];rfl
 rw[o]at h;simp only[YE,aaz]at h
 cases k:P.info? i with
 |none=>simp[k]at w
 |some y=>simp[Builtin.copy_,Zm q,Builtin.lenOf,Builtin.firstCells,sizeOf,typeInfo,k,n];rw[v,h];simp[Result.andThen]
def Ou:(prog.info? 5).map (·.size)=some 1:=kr
def Tj{a:b_}{b:Nat}{h:d_}{e d g f:f_}(c:a.heap[b]?=some (.cells #[e,d,g,f] h)):a.cell? (μ b 0)=some e/\a.cell? (μ b 1)=some d/\a.cell? (μ b 2)=some g/\a.cell? (μ b 3)=some f:=
 ⟨cr c,cr c,cr c,cr c⟩
def EV(a:a_)(d c:Nat)(h:Nat.min a.size 62=c)(b:Nat)(q:b<64):
 (((splice ((madeCells #[Value.int .u8 0] 64).setIfInBounds 0<|.int .u8 (d:Nat)).toList 1<|Lib.byteCells<|a.data.toList.take c).toArray.setIfInBounds 63<|.int .u8 (d:Nat))[b]?)=(tO d a)[b]?.map Ag:=by
 have j:c<=a.size:=by rw[<-h];exact acj ..
 have p:c<=62:=by rw[<-h];exact Nat.min_le_right ..
 have f:(Lib.byteCells<|a.data.toList.take c).length=c:=by rw[Z2,ZJ,<-Z'];omega
 have e:((madeCells #[Value.int .u8 0] 64).setIfInBounds 0<|.int .u8 (d:Nat)).toList.length=64:=by simp[aaG]
 have o:(splice ((madeCells #[Value.int .u8 0] 64).setIfInBounds 0<|.int .u8 (d:Nat)).toList 1<|Lib.byteCells<|a.data.toList.take c).length=64:=by rw[length_splice _ _ _ (by rw[e,f];omega),e]
 rw[Y6];by_cases k:b=63
 .subst k;rw[Ys rfl,Ys (by rw[YJ,o];omega)];simp[tO,Bi,Ag]
 .rw[Yo om,aat];unfold splice;by_cases n:b=0
  .subst n;rw[YK (by rw[ZJ,e];omega),ZC om,ZZ,Y6];simp[aaG,tO,Ag]
  .have l:(tO d a)[b]?=some ((Pl.j2 a (b-1):Nat):Int):=by unfold tO;rw[aaz,YP so,YK (by simp[Bi];omega)];simp[Bi,show b-1<62 by omega]
   rw[l,YP (by rw[ZJ,e];omega),ZJ,e];by_cases i:b-1<c
   .rw[YK<|p1 f,show b-min 1 64=b-1 by omega,Bj a c (b-1) i j];rfl
   .have m:=Pl.o9 a (b-1) (by
     have:=h;rcases Nat.le_total a.size 62 with g|g
     .rw[show Nat.min a.size 62=a.size from Z8 g]at this;omega
     .rw[show Nat.min a.size 62=62 from Nat.min_eq_right g]at this;omega)
    rw[YP<|p1 f,f,abl,ZZ,m,Y6,Yo om,rj 64 _ om];rfl
def uC(o e g i b:Nat)(ai an:f_)(N:a_)(a:b_)(t:a.heap[o]?=some (.cells #[ν e,ai,an] 155))(ab:e<=100)(aa:g<=100)(av:i<=100)(aq:b<256):
 Calls prog 85 #[π o,ν g,ν i,.string N,.int .u8 (b:Nat)] a λad ao=>ad=.returned (.agg #[.int .u8 0,ν (g*e+i:Nat),ν 0,.string<|nb b N])/\Below a.heap.size a ao:=by
 let⟨m,hm⟩:∃m,Nat.min N.size 62=m:=⟨_,rfl⟩;have ay:m<=62:=by rw[<-hm];exact Nat.min_le_right ..
 have R:=Yn t;refine QI ?_;intro bj;let⟨z,s⟩:=j5<|madeCells #[Value.int .u8 0] 64;have D:z.size=64:=by rw[s,aaG]
 rw[<-s]at bj;have ar:z[0]?=some (.int .u8 0):=by rw[s];exact rj 64 0 om
 have ae:=h_ s;clear s;let⟨f,j⟩:=j5<|z.setIfInBounds 0<|.int .u8 (b:Nat);let⟨h,r⟩:=j5<|(a.alloc<|.cells #[.int .u8 0,ν 0,ν 0,.string ⟨#[]⟩] 77).alloc<|.cells f 5;have U:Below a.heap.size a h:=by rw[r];exact jT (jT br _) _
 have B:h.heap[a.heap.size+1]?=some (.cells f 5):=by rw[r];have:=YO (a.alloc<|.cells #[.int .u8 0,ν 0,ν 0,.string ⟨#[]⟩] 77)<|.cells f 5;simpa using this
 have S:h.heap[a.heap.size]?=some (.cells #[.int .u8 0,ν 0,ν 0,.string ⟨#[]⟩] 77):=by rw[r,YQ _ _ si];exact YO a _
 let⟨c,ak,w,C⟩:∃c,(Builtin.copy_ #[114,9] 3 #[.slice (some (μ (a.heap.size+1) 1)) 62 63,.string N]).run prog h=.ok (goInt m) c/\c.heap[a.heap.size+1]?=some (.cells (splice f.toList 1<|Lib.byteCells<|N.data.toList.take m).toArray 5 (0,0))/\Below (a.heap.size+1) h c:=by refine⟨_,te h 114 9 3 5 (a.heap.size+1) 1 62 63 m N f 5 underlying114 Ou B hm (by rw[j,Y3,D];omega),?_,below_setRow br kM _⟩;rw[aae h _ f _ 5 (0,0) B];refine QU ?_;intro gP;unfold splice;rw[gP]
 rw[r,j]at ak;have I:∀d,d<64->((splice f.toList 1<|Lib.byteCells<|N.data.toList.take m).toArray.setIfInBounds 63<|.int .u8 (b:Nat))[d]?=(tO b N)[d]?.map Ag:=λd u=>by rw[j,ae.o];exact EV N b m hm d u
 have y:=U.trans<|C.mono om;have V:=(C.block a.heap.size om).trans S;have af:=(y.block o R).trans t
 have L:∃K,c.cell? (μ (a.heap.size+1) 63)=some K:=by
  rw[Yu _ _ _ _ _ _ w,aat];have:63<(splice f.toList 1<|Lib.byteCells<|N.data.toList.take m).length:=by refine QU ?_;intro gP;rw[length_splice _ _ _ (by rw[gP,Y0,j,Y3,D];omega),Y0,j,Y3,D];omega
  exact⟨_,Yw this⟩
 let⟨K,L⟩:=L;have f63:c.frozen? (μ (a.heap.size+1) 63)=false:=Y2 _ _ _ _ _ w
 have Q:∀k,(convert 114 9<|ω (a.heap.size+1) 64 64).run prog ((c.setCell (μ (a.heap.size+1) 63)<|.int .u8 (b:Nat)).drewN k)=.ok (.string<|nb b N) ((c.setCell (μ (a.heap.size+1) 63)<|.int .u8 (b:Nat)).drewN k):=λk=>
  qF _ (a.heap.size+1) 64 64 (tO b N) (x5 b N) (λd aw u=>by
   have ah:d<64:=by rw[<-x5 b N];exact(Yr.1 u).1
   have E:=YB c (a.heap.size+1) 63 _ 5 (.int .u8 (b:Nat)) w;have al:((c.setCell (μ (a.heap.size+1) 63)<|.int .u8 (b:Nat)).drewN k).heap=(c.setCell (μ (a.heap.size+1) 63)<|.int .u8 (b:Nat)).heap:=si;rw[<-al]at E;rw[Yu _ _ _ _ _ _ E,I d ah,u]
   rfl)
 let⟨l,n⟩:=j5<|c.setCell (μ (a.heap.size+1) 63)<|.int .u8 (b:Nat);have az:(convert 114 9<|ω (a.heap.size+1) 64 64).run prog l.drew=.ok (.string<|nb b N) l.drew:=by rw[n];exact Q 1
 have x:Below a.heap.size a l:=by rw[n];exact y.setCell si _
 have A:l.heap[a.heap.size]?=some (.cells #[.int .u8 0,ν 0,ν 0,.string ⟨#[]⟩] 77):=by rw[n,Yp _ _ _ _ si];exact V
 have T:=(x.block o R).trans t;have d0:l.cell? (μ o 0)=some (ν e):=cr T;let⟨X,aj,Z,ac⟩:=Tj A;have ax:=λd=>Y2 l a.heap.size d _ _ A;have am:=h_ x;have J:=Nat.mul_le_mul aa ab
 have F:wrap64 (wrap64 ((g:Int)*(e:Int))+(i:Int))=(g:Int)*(e:Int)+(i:Int):=by
  let⟨p,ag,ap⟩:∃p:Nat,(g:Int)*(e:Int)=(p:Nat)/\p<=10000:=⟨g*e,(abJ ..).symm,J⟩;have O:∀q:Nat,q<=20000->wrap64 (q:Int)=q:=λq au=>by unfold wrap64;omega
  rw[ag,O p om,<-Int.natCast_add,O (p+i) om]
 have Y:=h_ F;clear F J;clear j r U B S w C I V af t y Q x A T
 go_enter func85,ntmps85
 go_wp2_with fail
 rw[<-n];clear n
 go_region
 go_wp2;refine Yx (v:=.agg #[.int .u8 0,ν (g*e+i:Nat),ν 0,.string<|nb b N]) (by simp[results,results85,go_sem,X,aj,Z,ac,Y.o]) rfl ⟨rfl,?_⟩;exact((((am.o.setCell kM _).setCell kM _).setCell kM _).setCell kM _).drew
def x6(c e d:Nat)(a:a_)(b:Nat):Ac:=(0,(e*c+b:Nat),0,nb d<|a.extract (b*62) a.size)
def my(a c b:Nat)(d:a_):List Ac:=(List.range a).map (x6 a c b d)++[(1,0,0,⟨#[]⟩)]
def Ov(a:f_)(b:b_):(callFunc 83 #[a]).run prog b=.ok (.enter 83 #[a]) b:=kr
def Ox(a:f_)(b:b_):(callFunc 84 #[a]).run prog b=.ok (.enter 84 #[a]) b:=kr
def Oy(f a b e d:f_)(c:b_):(callFunc 85 #[f,a,b,e,d]).run prog c=.ok (.enter 85 #[f,a,b,e,d]) c:=kr
def EW(a c:Nat)(b:b_)(i:a<=1)(g:c=(a+1)%2):
 Calls prog 83 #[ν a] b λf h=>∃d,f=.returned d/\(d=ν c/\h=b):=
 (Cu a c g b om).mono λ_ _ e=>⟨_,e.1,rfl,e.2⟩
def H3(a c:Nat)(b:b_)(i:a<=3)(g:c=a%3+1):
 Calls prog 84 #[.int .u8 (a:Nat)] b λf h=>∃d,f=.returned d/\(d=.int .u8 (c:Nat)/\h=b):=
 (xD a c g b om).mono λ_ _ e=>⟨_,e.1,rfl,e.2⟩
def zp(f d b e c:Nat)(i k:f_)(g:a_)(a:b_)(m:a.heap[f]?=some (.cells #[ν d,i,k] 155))(r:d<=100)(o:b<=100)(n:e<=100)(p:c<256):
 Calls prog 85 #[π f,ν b,ν e,.string g,.int .u8 (c:Nat)] a λl q=>∃j,l=.returned j/\(j=.agg #[.int .u8 0,ν (b*d+e:Nat),ν 0,.string<|nb c g]/\Below a.heap.size a q):=
 (uC f d b e c i k g a m r o n p).mono λ_ _ h=>⟨_,h.1,rfl,h.2⟩
def l8{a:b_}{b:Nat}{h:d_}{e d g:f_}(c:a.heap[b]?=some (.cells #[e,d,g] h)):a.cell? (μ b 0)=some e/\a.cell? (μ b 1)=some d/\a.cell? (μ b 2)=some g/\∀f,a.frozen? (μ b f)=false:=
 ⟨cr c,cr c,cr c,λf=>Y2 _ _ _ _ _ c⟩
def kf.grown{i:Nat}{d h e:b_}{f:Option Nat}(b:kf i d h)(c:h.grownBy e f)(k:∀a,f=some a->d.heap.size<=a):kf i d e:=
 ⟨c.os.trans b.os,c.tape.trans b.tape,c.output.trans b.output,YH b.size c.size,λa g l=>(c.block a (Yy g b.size) (λj=>by have:=k a j.symm;omega)).trans<|b.block a g l⟩
def EX(c e d b:Nat)(a:a_):((List.range<|b+1).map<|x6 c e d a).flatMap ku=((List.range b).map<|x6 c e d a).flatMap ku++[.int .u8 0,ν (e*c+b:Nat),ν 0,.string<|nb d<|a.extract (b*62) a.size]:=by rw[aax,ZI,YX];rfl
def La(b c r q e d:Nat)(f:a_)(g:b_)(u:g.heap[b]?=some (.cells #[ν c,ν r,.int .u8 (q:Nat)] 155))(av:c<=64)(J:∀l,l<c->l*62<=f.size)(ap:f.size<=10000)
 (V:r<=1) (h:q<=3) (N:e=(r+1)%2) (M:d=q%3+1):
 Calls prog 58 #[π b,.string f] g λp E=>∃i,p=.returned i/\E.ownsRow g.heap.size 77 4 i (c+1) ((my c e d f).flatMap ku)/\
  E.heap[b]?=some (.cells #[ν c,ν e,.int .u8 (d:Nat)] 155)/\kf b g E:=by
 obtain⟨F,L,P,K,Q⟩:=Y4 Tryz.po;have aF:=Yn u;obtain⟨af,T,R,an⟩:=l8 u;have au:e<=1:=om;have aC:d<=3:=om;have ao:=h_ N;have aa:=h_ M;have ai:=h_ u;have X:=h_ J;clear N M u J
 go_enter func58,ntmps58
 go_wp2_with fail
 go_region_law (first
  |(refine ki rfl 83 #[.tmp 12] #[3] rfl #[ν r] qU (Ov _ _) _ (EW r e _ V ao.o) ?_;rintro i m ⟨rfl,rfl⟩)
  |(refine ki rfl 84 #[.tmp 17] #[5] rfl #[.int .u8 (q:Nat)] qU (Ox _ _) _ (H3 q d _ h aa.o) ?_;rintro i m ⟨rfl,rfl⟩))
 all_goals
  obtain⟨O,v⟩:=j5<|((g.setCell (μ b 1)<|ν e).setCell (μ b 2)<|.int .u8 (d:Nat)).drew;rw[<-v];have D:O.heap[b]?=some (.cells #[ν c,ν e,.int .u8 (d:Nat)] 155):=by rw[v];have Z:=YB g b 1 _ 155 (ν e) ai.o;have ah:=YB _ b 2 _ 155 (.int .u8 (d:Nat)) Z;exact ah
  have I:kf b g O:=by rw[v];exact(((kf.refl b g).setCell _ _).setCell _ _).drewN 1
  clear v;obtain⟨aq,aB,aH,aE⟩:=l8 D;have ak:=h_ D;have am:=h_ I;clear D I af T R an
  go_wp2_with fail
  go_loopw [27,5] (λl i wr=>∃a:Nat,a<=c/\l=ν a/\wr.ownsRow g.heap.size 77 4 i a (((List.range a).map<|x6 c e d f).flatMap ku)/\wr.heap[b]?=some (.cells #[ν c,ν e,.int .u8 (d:Nat)] 155)/\kf b g wr) (λl _ _=>c-(intOf l).toNat)
  case atStart=>exact⟨0,om,rfl,Yq _ _ _ _,ak.o,am.o⟩
  case round=>
   obtain⟨a,aA,rfl,o,h,n⟩:=hrel;have aG:=n.size;by_cases U:a<c
   .have az:=X.o a U;obtain⟨S,ag,W,ae⟩:=l8 h;have w:=h_ h;have z:=h_ n;have j:=h_ o;have aj:Hid<|wr.drew.ownsRow g.heap.size 77 4 u5 a<|((List.range a).map<|x6 c e d f).flatMap ku:=jV o λaw _=>rfl;have aD:IntKind.i64.wrap ((a:Int)*62)=(a:Int)*62:=wo;have ay:((a:Int)*62).toNat=a*62:=om;have aI:(0:Int)<=(a:Int)*62:=om;have ax:(a:Int)*62<=(f.size:Int):=om;clear h n o
    go_wp2_with fail
    go_region_law (first
     |(refine ki rfl 85 #[.tmp 31,.tmp 35,.tmp 36,.tmp 40,.tmp 44] #[106,3,3,9,5] rfl #[π b,ν e,ν a,.string<|f.extract (a*62) f.size,.int .u8 (d:Nat)] qU (Oy _ _ _ _ _ _) _ (zp b c e a d _ _ (f.extract (a*62) f.size) _ w.o om om om om) ?_;rintro i m ⟨rfl,y⟩)
     |(refine nC rfl (.tmp 30) (.tmp 46) 31 rfl g.heap.size 77 F _ 4 40 underlying31 L P K Q rfl dc u5 a _ rfl ((jY aj.o y).alloc _) (μ m.heap.size 0) 1 1 [.int .u8 0,ν (e*c+a:Nat),ν 0,.string<|nb d<|f.extract (a*62) f.size] rfl rfl (lR _ _ _ _ _ _) (by intro al s;simp at s;rcases s with rfl|rfl|rfl|rfl<;>rfl) ml om (by have:=y.size;simp at this⊢;omega) ?_;intro ad Y C k))
    all_goals
     have t:=kx y;have x:=(t.block b om).trans w.o;have ar:Hid<|wr.heap.size<=m.heap.size:=t.size;have ab:=h_<|((z.o.kt t).alloc<|.cells #[.int .u8 0,ν (e*c+a:Nat),ν 0,.string<|nb d<|f.extract (a*62) f.size] 77).grown k λB A=>(j.o.lt B A).1;have ac:=h_ ((k.block b (by have:=Yn x;simp;omega) (λp=>by have:=(j.o.lt b p.symm).1;omega)).trans<|(YQ m _ (Yn x)).trans x);clear x t y k S ag W ae;go_wp2
     go_roundw
     case rel=>refine⟨a+1,om,gn,?_,ac.o,ab.o⟩;rw[EX];exact C
     case measure=>simp[intOf];omega
   .obtain rfl:a=c:=om;have w:=h_ h;have z:=h_ n;have j:=h_ o;clear h n o
    go_wp2_with (at_builtin;refine Zl _ rfl (.tmp 49) (.tmp 51) 31 rfl g.heap.size 77 F _ 4 40 underlying31 L P K Q rfl dc u5 a _ rfl (j.o.alloc _) (μ wr.heap.size 0) 1 1 [.int .u8 1,ν 0,ν 0,.string ⟨#[]⟩] rfl rfl (lR _ _ _ _ _ _) (by intro al s;simp at s;rcases s with rfl|rfl|rfl|rfl<;>rfl) ml om so ?_;intro ad Y C k _)
    go_ret;refine⟨_,rfl,?_,?_,(z.o.alloc _).grown k λB A=>(j.o.lt B A).1⟩
    .unfold my;rw[YX];exact C
    .exact(k.block b so (λp=>by have:=(j.o.lt b p.symm).1;omega)).trans ((YQ wr _ om).trans w.o)
section
variable {O:Nat->Bool}
def zq(b c:Nat)(a:a_):lp [b,0,a.size+1]++(⟨#[UInt8.ofNat c]⟩++a)=rh b c a:=by apply Z6;apply acf.1;simp[rh,lp,bytesOf,m5,r3];refine⟨?_,?_,?_,?_⟩<;>congr 1<;>omega
def zr(j i w d u:Nat)(b:a_)(x:Nat->Ln)(c:b_)(m:kE c j 116 w 3 λa f=>qk (x a) f)(z:i<w)(t:(x i).kind=0)(P:d<65536)(N:u<256)(R:b.size<=253):
 Calls prog 82 #[.pointer<|some (μ j<|i*3),.agg #[ν d,ν u,.string b]] c λo C=>o=.returned (.string<|rh d u b)/\Below c.heap.size c C:=by
 have K:c.cell? (μ j<|i*3)=some (ν 0):=by have:=m.cell z (j:=0) om;rw[YE]at this;rw[this];simp[qk,t]
 have Q:=m.lt;refine SK ?_;intro c1 ib ie;have E:=h_<|zq d u b;have r:(lp [d,0,b.size+1]).size=6:=rf;refine Kj ?_;intro dC;have F:=h_ r;let⟨n,h⟩:=j5<|((c.alloc<|.cells #[ν d,ν u,.string b] 94).alloc<|.cells #[.int .u8 (u:Nat)] 5).alloc<|.cells #[ν d,ν 0,ν<|1+(b.size:Int)] 3;have l:n.heap[c.heap.size+1+1]?=some (.cells #[ν d,ν 0,ν<|1+(b.size:Int)] 3):=by rw[h];have:=YO ((c.alloc<|.cells #[ν d,ν u,.string b] 94).alloc<|.cells #[.int .u8 (u:Nat)] 5)<|.cells #[ν d,ν 0,ν<|1+(b.size:Int)] 3;simpa using this
 have D:Hid<|Below c.heap.size c n:=by rw[h];exact jT (jT (jT (Below.refl c.heap.size c) _) _) _
 have A:=h_ l;have I:=Yn l;clear m t l
 go_enter func82,ntmps82
 go_wp2_with fail
 rw[<-h];clear h
 refine(vj [d,0,b.size+1] 3 3 (c.heap.size+1+1) 0 _ n rfl om (by intro B v;simp at v;rcases v with rfl|rfl|rfl<;>omega) om (λ_=>rfl) (λf B e=>by
  rw[YF,Yu _ _ _ _ _ _ A.o]
  match f,e with
  |0,e=>simp at e;subst e;rfl
  |1,e=>simp at e;subst e;rfl
  |2,e=>simp at e;subst e;simp;omega)).mono ?_
 rintro o L ⟨rfl,s⟩;have y:=h_<|jZ D s;have J:¬9223372036854775807<6+(1+b.size):=om;clear s;have r:=F;go_wp2;go_ret;exact⟨by rw[<-E.o];rfl,y⟩
def j1.Lb{g:b_}{d h e:Nat}{f:Nat->Nat}{c:f_}{a:j4}(b:j1 O g d h e f c a):ky O a.base g d (KT a h e f c) c a.wait:=⟨b.dev,rfl,rfl,b.wait,b.lo.1,b.ow⟩
def j1.Lc{o k:b_}{d c e:Nat}{f:Nat->Nat}{l j:f_}{b:j4}{n:List Sv}(a:j1 O o d c e f l b)(g:ky O b.base k d ((KT b c e f l).setIfInBounds 14 j) j n)(h:lC b.base (uZ O d) o k):j1 O k d c e f j {b with wait:=n}:=by let⟨q,r⟩:=a.lines.block;refine⟨g.dev,a.lines.same<|h.keep c q 116 r rfl,λi m=>?_,a.inj,(h.keep e _ 155 a.store rfl).trans a.store,g.own,a.lo,g.ow⟩;let⟨p,s⟩:=(a.ent i m).block;exact(a.ent i m).same (h.keep (f i) p 3 s rfl)
def j1.cells{b:b_}{a h e:Nat}{i:Nat->Nat}{g:f_}{d:j4}(c:j1 O b a h e i g d):
 b.cell? (μ a 0)=some (ν d.unit)/\b.cell? (μ a 1)=some (ν d.batch)/\b.cell? (μ a 2)=some (.slice (some (μ h 0)) d.nl d.nl)/\b.cell? (μ a 11)=some (π e)/\b.cell? (μ a 12)=some (ν d.arr)/\b.cell? (μ a 13)=some (ν d.uns)/\b.cell? (μ a 14)=some g/\(∀f,b.frozen? (μ a f)=false)/\a<b.heap.size:=
 ⟨cr c.dev,cr c.dev,cr c.dev,cr c.dev,cr c.dev,cr c.dev,cr c.dev,λf=>Y2 _ _ _ _ _ c.dev,Yn c.dev⟩
def H4(k o p c:Nat)(q:Nat->Nat)(n:f_)(b:j4)(d:a_)(a:b_)(i:j1 O a k o p q n b)(h:b.uns=0):
 Calls prog 81 #[π k,ν c,.string d] a λe m=>∃l,e=.returned l/\m.ownsRow a.heap.size 77 4 l 1 ([(2,0,((c:Nat):Int),d)].flatMap ku)/\Below a.heap.size a m:=by
 let⟨w,u,t,x,v,s,z,A,y⟩:=i.cells;rw[h]at s;clear i h
 go_enter func81,ntmps81
 go_wp2_with fail
 refine(z_ ((b.arr:Int),((c:Nat):Int),d) _).mono ?_;rintro e j ⟨rfl,f⟩;have g:=h_<|jZ (jT (Below.refl a.heap.size a) _) f;have r:=g.o.size;clear f;go_wp2;go_ret;refine⟨_,rfl,?_,jT g _⟩;exact⟨rfl,.inr ⟨j.heap.size,1,_,rfl,r,YO j _,YC _,ml,rfl,rfl⟩⟩
def EY(b l r g:Nat)(s:Nat->Nat)(o:f_)(a:j4)(d:a_)(f:b_)(c:j1 O f b l r s o a)(P:0<a.uns)(v:a.wait.length<=1000)(q:∀z∈a.wait,z.1<(a.arr:Int)):
 Calls prog 81 #[π b,ν g,.string d] f λj t=>∃k,j=.returned σ/\j1 O t b l r s k {a with wait:=a.wait++[((a.arr:Int),((g:Nat):Int),d)]}/\lC a.base (uZ O b) f t:=by
 let⟨J,E,C,Q,F,V,T,U,M⟩:=c.cells;have K:(0:Int)<(a.uns:Int):=om;let⟨R,e⟩:=j5<|f.alloc<|.cells #[ν a.arr,ν g,.string d] 163;have h:=ba e;have n:=v' e;let⟨D,I,S,N⟩:=l8 n;have m:=h_ h;have w:=h_ q;have y:=h_ c;have A:=h_ ((c.mR h).drewN 1).Lb;clear c q h n
 go_enter func81,ntmps81
 go_wp2_with fail
 rw[<-e];clear e
 go_region_with (go_at_call 117;refine(K2 b _ o a.wait ((a.arr:Int),((g:Nat):Int),d) _ v A w).mono ?_;rintro j L ⟨k,rfl,p,i⟩)
 all_goals
  have u:=h_<|j1.Lc ((y.o.mR m).drewN 1) p i;have x:=h_<|((lC.jX (uZ O b) m).drewN 1).trans i;clear p i;go_wp2;go_ret;exact⟨_,rfl,u,x⟩
end
section
variable {O:Nat->Bool}
def Vz(O:Nat->Bool)(d L S:Nat)(E:Nat->Nat)(wv:f_)(D:j4)(f k:a_)(j:Bool)(l:Nat->Nat->Int):Prop:=
 ∀(a:Pl.mW) (e:f_) (c i:Nat) (w:b_),Pl.lj f a c->j1 O w d L S E wv {D with arr:=D.arr+1}->w.ownsRow i 3 1 e a.vals.length (a.vals.flatMap ka)->
  Calls prog 80 #[qn f a e c,.pointer<|some (μ d 3)] w λh g=>h=.returned (.tuple #[.string k,.bool j])/\j1 O g d L S E wv {D with arr:=D.arr+1,ent:=l}/\∃b,b<4/\kf (E b) w g
section
variable {w:b_}{d L S:Nat}{E:Nat->Nat}{wv:f_}{D:j4}
def j1.other(a:j1 O w d L S E wv D){e:f_}{c:Nat}{b:j4}(i:(KT D L S E wv).setIfInBounds c e=KT b L S E wv)(j:b.nl=D.nl)(r:b.ln=D.ln)(u:b.sz=D.sz)(s:b.ent=D.ent)(m:b.sec=D.sec)(o:b.lat=D.lat)(p:b.stamp=D.stamp)(l:b.wait=D.wait)(g:b.base=D.base):
 j1 O (w.setCell (μ d c) e) d L S E wv b:=by
 let⟨z,k⟩:=a.lines.block;refine⟨?_,?_,λh f=>?_,a.inj,?_,?_,by rw[g];exact a.lo,a.ow.grow si⟩
 .rw[YB w d c _ 110 e a.dev,i]
 .rw[j,r];exact a.lines.lL _ (kg k a.dev dc) _
 .let⟨y,n⟩:=(a.ent h f).block;rw[u,s];exact(a.ent h f).lL _ (kg n a.dev dc) _
 .rw[Yp _ _ _ _ (kg a.store a.dev dc),m,o,p];exact a.store
 .rw[l,g];exact jV a.wait (λv q=>by let⟨x,t⟩:=jU a.wait v q;exact Yp _ _ _ _ (kg t a.dev dc))
def j1.Tk(b:j1 O w d L S E wv D)(a:Nat):j1 O (w.setCell (μ d 12)<|ν a) d L S E wv {D with arr:=a}:=b.other rfl rfl rfl rfl rfl rfl rfl rfl rfl rfl
def j1.Ld(b:j1 O w d L S E wv D)(a:Nat):j1 O (w.setCell (μ d 13)<|ν a) d L S E wv {D with uns:=a}:=b.other rfl rfl rfl rfl rfl rfl rfl rfl rfl rfl
end
def lC.Bk{g b:Nat}{h:Nat->d_->Bool}{w j:b_}{l:Array f_}{e:d_}(a:kf b w j)(m:w.heap[b]?=some (.cells l e))(o:h b e=true)(s:g<=b):lC g h w j:=
 ⟨a.os,a.tape,a.output,a.size,λc p r i f=>a.block c (Yn i) (λk=>by
  subst k;rw[oM i m,o]at f
  exact absurd f dc),λc q n=>a.block c n om⟩
def lC.Tl{g:Nat}{h:Nat->d_->Bool}{c w:b_}(a:lC g h c w)(f k:Nat)(p:c.heap.size<=f)(e:f_):lC g h c (w.setCell (μ f k) e):=
 ⟨a.os,a.tape,a.output,YH a.size si,λb l j i o=>(Yp w _ _ e (by have:=Yn i;simp;omega)).trans<|a.keep b l j i o,λb m n=>(Yp w _ _ e (by show b≠f;omega)).trans<|a.low b m n⟩
def j1.keep{n d L S:Nat}{e:Nat->d_->Bool}{w h:b_}{E:Nat->Nat}{wv:f_}{D:j4}(a:j1 O w d L S E wv D)(c:lC n e w h)(k:∀b,e b 110=false)(r:∀b,e b 116=false)(u:∀b,e b 3=false)(s:∀b,e b 155=false)(o:∀b,e b 163=false):j1 O h d L S E wv D:=by
 let⟨l,m⟩:=a.lines.block;refine⟨(c.keep d _ 110 a.dev (k _)).trans a.dev,a.lines.same<|c.keep L l 116 m<|r _,λf g=>?_,a.inj,(c.keep S _ 155 a.store (s _)).trans a.store,jV a.wait λb q=>?_,a.lo,a.ow.grow c.size⟩
 .let⟨j,p⟩:=(a.ent f g).block;exact(a.ent f g).same (c.keep (E f) j 3 p<|u _)
 .let⟨i,t⟩:=jU a.wait b q;exact c.keep b i 163 t (o _)
def x7(L h l e m:Nat)(f:a_)(g:Nat->Ln)(j:a_):Prop:=∀a:b_,kE a L 116 l 3 (λc i=>qk (g c) i)->Calls prog 82 #[.pointer<|some (μ L<|h*3),.agg #[ν e,ν m,.string f]] a λb k=>b=.returned (.string j)/\Below a.heap.size a k
def Oz(c a b:f_)(w:b_):(callFunc 81 #[c,a,b]).run prog w=.ok (.enter 81 #[c,a,b]) w:=kr
def OA(a b:f_)(w:b_):(callFunc 82 #[a,b]).run prog w=.ok (.enter 82 #[a,b]) w:=kr
def OB(a b:f_)(w:b_):(callFunc 80 #[a,b]).run prog w=.ok (.enter 80 #[a,b]) w:=kr
def Le(d L S:Nat)(E:Nat->Nat):∀c a,lS O d L S E c a=false->uZ O d c a=false:=λc a b=>by simp only[lS,uZ,abc]at b⊢;exact⟨b.1.1.1.1,b.2⟩
def EZ(d L S c:Nat)(E:Nat->Nat)(wv:f_)(D:j4)(e:a_)(w:b_)(b:j1 O w d L S E wv D)(j:0<D.uns)(k:D.wait.length<=1000)(l:∀n∈D.wait,n.1<(D.arr:Int)):
 Calls prog 81 #[π d,ν c,.string e] w λh g=>∃f,h=.returned f/\(f=σ/\∃a,j1 O g d L S E a {D with wait:=D.wait++[((D.arr:Int),((c:Nat):Int),e)]}/\lC D.base (uZ O d) w g):=
 (EY d L S c E wv D e w b j k l).mono λ_ _ b=>by let⟨a,i,m,o⟩:=b;exact⟨_,i,rfl,a,m,o⟩
end
section
variable {O:Nat->Bool}
def OC(a b:f_)(c:b_):(callFunc 58 #[a,b]).run prog c=.ok (.enter 58 #[a,b]) c:=kr
def OD(a:f_)(b:b_):(callFunc 59 #[a]).run prog b=.ok (.enter 59 #[a]) b:=kr
def j1.saved{p j:b_}{f e c d m:Nat}{g:Nat->Nat}{l:f_}{h:j4}(a:j1 O p f e c g l h)(b:kf c p j)(s:j.heap[c]?=some (.cells #[ν h.sec,ν d,.int .u8 (m:Nat)] 155)):j1 O j f e c g l {h with lat:=d,stamp:=m}:=by
 let⟨v,k⟩:=a.lines.block;refine⟨(b.block f (Yn a.dev)<|kg a.dev a.store dc).trans a.dev,a.lines.same<|b.block e (Yn k)<|kg k a.store dc,λi n=>?_,a.inj,s,jV a.wait λr t=>?_,a.lo,a.ow.grow b.size⟩
 .let⟨u,o⟩:=(a.ent i n).block;exact(a.ent i n).same (b.block (g i) (Yn o)<|kg o a.store dc)
 .let⟨w,q⟩:=jU a.wait r t;exact b.block r (Yn q) (kg q a.store dc)
def vk(a c b:Nat)(d:a_):(my a c b d).length=a+1:=by simp[my]
end
section
variable {O:Nat->Bool}
def lX(a b c:Int)(d:b_)(f:b<=a)(g:a<=c):Calls prog 53 #[ν a,ν b,ν c] d λe h=>e=.returned (.bool true)/\h=d:=by
 have d1:decide (b<=a)=true:=by simp[f]
 have d2:decide (a<=c)=true:=by simp[g]
 exact KA
def j1.heard{q m:b_}{f e h:Nat}{i:Nat->Nat}{n:f_}{k:j4}{g:Nat->Ln}(b:j1 O q f e h i n k)(s:kE m e 116 k.nl 3 λa j=>qk (g a) j)(c:kf e q m):j1 O m f e h i n {k with ln:=g}:=by
 obtain⟨v,d⟩:=b.lines.block;refine⟨(c.block f (Yn b.dev)<|kg b.dev d dc).trans b.dev,s,λl o=>?_,b.inj,(c.block h (Yn b.store)<|kg b.store d dc).trans b.store,jV b.wait λg t=>?_,b.lo,b.ow.grow c.size⟩
 .obtain⟨u,p⟩:=(b.ent l o).block;exact(b.ent l o).same (c.block (i l) (Yn p)<|kg p d dc)
 .obtain⟨w,r⟩:=jU b.wait g t;exact c.block g (Yn r) (kg r d dc)
end
section
variable {O:Nat->Bool}
def qo(e:b_)(g:Option Addr)(f:Nat)(b:Nat->Int):Prop:=
 ∀a,a<f->∃c d,g=some (μ c d)/\c<e.heap.size/\e.cell? (μ c<|d+a)=some (ν<|b a)/\ -9223372036854775808<=b a/\b a<=9223372036854775807
def x8(b:List Int):∀(c:Nat) (d:f_),(b.flatMap ka)[c]?=some d->∃a,b[c]?=some a/\d=ν a:=by
 have f:b.flatMap ka=b.map λa=>ν a:=by
  induction b with
  |nil=>rfl
  |cons a b g=>rw[ZY,g];rfl
 intro c d e;rw[f,Y9]at e;obtain⟨a,h,rfl⟩:=Zk.1 e;exact⟨a,h,rfl⟩
def H6(c:Addr)(d b:Nat)(a:b_):(binOp .eql 28 (.slice (some c) d b) σ).run prog a=.ok (.bool false) a:=kr
def E0(b:List Int)(c g i:Nat)(a:b_)(r:b.length=c)(J:c<=1000)(w:g<a.heap.size)(o:∀j f,b[j]?=some f->a.cell? (μ g j)=some (ν f)):
 Calls prog 54 #[.slice (some (μ g 0)) c i] a λe s=>∃n,e=.returned n/\s.ownsRow a.heap.size 3 1 n c (b.flatMap ka)/\Below a.heap.size a s:=by
 let⟨v,t,A,y,B⟩:=Y4 Tryz.qj;have u:Hid (∀j h,(b.flatMap ka)[j]?=some h->(a.alloc<|.cells #[] 3).cell? (((μ g 0):Addr).add j)=some h):=λj h x=>by obtain⟨f,z,rfl⟩:=x8 b j h x;refine J9 ?_;intro e;rw[e,(ke<|jT (Below.refl _ a) _).1 g j w];exact o j f z
 have C:Hid<|(b.flatMap ka).length=c*1:=by show _=_;rw[lW,r,YS]
 have m:Hid<|(a.alloc<|.cells #[] 3).ownsRow a.heap.size 3 1 (.slice (some (μ a.heap.size 0)) 0 0) 0 []:=World.ownsRow_made a #[] 0 kM ml rfl;have K:=H6 (μ g 0) c i;clear o r
 go_enter func54,ntmps54
 go_wp2_with (at_builtin;apply Zl _ rfl (.tmp 5) (.tmp 6) 28 rfl a.heap.size 3 v _ 1 8 underlying28 t A y B rfl dc (ω a.heap.size 0 0) 0 [] rfl m (μ g 0) c i (b.flatMap ka) rfl C u (m4 _) ml om si;intro E D l d _;obtain⟨L,F,rfl,_⟩:=i_ l)
 go_ret;refine⟨_,rfl,?_,?_⟩
 .rw[YF,YT]at l;exact l
 .exact(jT (Below.refl _ a) _).trans ⟨d.os,d.tape,d.output,d.size,λk I=>d.block k so (λe=>by have:=(m.o.lt k e.symm).1;omega)⟩
def uD(n w B a:Nat)(m:Nat->Nat)(A:f_)(c:j4)(e:List Int)(f:b_)(g:j1 O f n w B m A c)(l:a<4)(p:e.length=c.sz a)(z:c.sz a<=1000)(q:∀b d,e[b]?=some d->c.ent a b=d):
 Calls prog 14 #[π n,ν a] f λj s=>∃h,j=.returned (.tuple #[h,ν 0])/\s.ownsRow f.heap.size 3 1 h (c.sz a) (e.flatMap ka)/\Below f.heap.size f s:=by
 have E:=g.r6 l;have t:Hid (∀b d,e[b]?=some d->f.cell? (μ (m a) b)=some (ν d)):=λb d o=>by have J:=(Yr.1 o).1;have:=(g.ent a l).cell (i:=b) (j:=0) om om;rw[YS,YE]at this;rw[this,q b d o]
 have y:=(g.ent a l).lt;have C:=h_ p;clear g q p
 go_enter func14,ntmps14
 go_wp2_with fail
 refine(lX _ _ _ _ om om).mono ?_;rintro j F ⟨rfl,rfl⟩
 go_wp2_with fail
 refine(E0 e (c.sz a) (m a) (c.sz a) _ C z y t).mono ?_;rintro j I ⟨h,rfl,k,r⟩;obtain⟨v,x,rfl,_⟩:=i_ k;have u:=h_ k;have D:=h_ r;clear k r;go_wp2;refine Yx (v:=.tuple #[.slice v (c.sz a) x,ν 0]) (by simp[results,results14,go_sem]) rfl ⟨_,rfl,u,D⟩
end
section
variable {O:Nat->Bool}
def H7(a:Nat):Pl.j2 j0 a=0:=by rw[lr,Bg,Yt,aaD];split<;>rfl
def j1.below{e k:b_}{c l d:Nat}{f:Nat->Nat}{i:f_}{g:j4}(a:j1 O e c l d f i g)(b:Below e.heap.size e k):j1 O k c l d f i g:=
 ⟨(b.block c<|Yn a.dev).trans a.dev,a.lines.below b a.lines.lt,λh j=>(a.ent h j).below b (a.ent h j).lt,a.inj,(b.block d<|Yn a.store).trans a.store,jY a.wait b,a.lo,a.ow.grow b.size⟩
end
def qp(c:j4)(d e b a:Nat):Int:=if b=2/\a=d then(e:Nat)else c.ent b a
namespace Pl
def pkd(c:Nat->Nat):Nat->Nat->Nat
 |0,_=>0
 |a+1,b=>if a/8=b then pkd c a b+c a*2^(a%8)else pkd c a b
def tP(d:Nat->Nat)(a b:Nat)(e:a<=8*b):pkd d a b=0:=by
 induction a with
 |zero=>rfl
 |succ a c=>rw[pkd,Yo om];exact c om
def E1(c:Nat->Nat)(g:∀h,c h<2)(b a:Nat)(j:a<=8):pkd c (8*b+a) b<2^a:=by
 induction a with
 |zero=>rw[YE,tP c _ b kM];omega
 |succ a e=>have k:=e om;have f:(8*b+a)/8=b:=om;have i:(8*b+a)%8=a:=om;rw[<-aaC,pkd,Ys f,i,abF];have:=g<|8*b+a;rcases(show c (8*b+a)=0\/c (8*b+a)=1 by omega)with d|d<;>rw[d]<;>omega
def Ah(c:Nat->Nat)(b a:Nat)(f:8*b+8<=a):pkd c a b=pkd c (8*b+8) b:=by
 induction a with
 |zero=>omega
 |succ a d=>
  by_cases e:8*b+8=a+1
  .rw[e]
  .rw[pkd,Yo om];exact d om
def r8(c:Nat->Nat)(e:∀g,c g<2)(b a:Nat):pkd c b a<256:=by
 rcases Zj b (8*a+8)with f|f
 .rcases Zj b (8*a)with h|h
  .rw[tP c b a om];omega
  .obtain⟨d,rfl⟩:∃d,b=8*a+d:=⟨b-8*a,om⟩;have i:=E1 c e a d om;have:(2:Nat)^d<=2^8:=aaN om om;omega
 .rw[Ah c a b f];exact E1 c e a 8 kM
def CH(b:Nat->Nat)(c:∀d,b d<2)(a:Nat):pkd b a (a/8)<2^(a%8):=by have:=E1 b c (a/8) (a%8) om;rwa[show 8*(a/8)+a%8=a by omega]at this
def CJ(e d c a:Nat)(g:a<c):(e+d*2^c)/2^a%2=e/2^a%2:=by
 obtain⟨b,rfl⟩:∃b,c=a+1+b:=⟨c-(a+1),om⟩;have f:d*2^(a+1+b)=2^a*(2*(d*2^b)):=by rw[Nat.pow_add,Nat.pow_add,Nat.pow_one];simp only[Nat.mul_assoc,Nat.mul_left_comm]
 rw[f,Nat.add_mul_div_left _ _ (Nat.pow_pos om)];omega
def OE(c:Nat->Nat)(e:∀a,c a<2)(b a:Nat)(h:a<b):pkd c b (a/8)/2^(a%8)%2=c a:=by
 induction b with
 |zero=>omega
 |succ b d=>
  rw[pkd];by_cases g:a<b
  .by_cases f:b/8=a/8
   .rw[Ys f,CJ _ _ _ _ om];exact d g
   .rw[Yo f];exact d g
  .obtain rfl:a=b:=om;rw[Ys rfl,aa_,Nat.add_mul_div_left _ _ (Nat.pow_pos om),aca<|CH c e a];have:=e a;omega
def nj(d:Nat->Nat)(b a:Nat):a_:=⟨((List.range a).map λc=>UInt8.ofNat<|pkd d b c).toArray⟩
def ol(c:Nat->Nat)(b a:Nat):(nj c b a).size=a:=by show((List.range a).map λd=>UInt8.ofNat<|pkd c b d).toArray.size=a;simp
def H8(a:Nat->Nat)(f:∀g,a g<2)(c d b:Nat)(e:b<d):j2 (nj a c d) b=pkd a c b:=by rw[KV];simp only[nj,Yt,Y9,Z5 e];have:=r8 a f c b;simp;omega
end Pl
def GM(d:Nat->Nat)(a b:Nat):Array f_:=((List.range b).map λc=>Value.int .u8 (Pl.pkd d a c:Nat)).toArray
def Bl(b:Nat->Nat)(c d a:Nat)(e:a<d):(GM b c d)[a]?=some (.int .u8 (Pl.pkd b c a:Nat)):=by simp[GM,e]
def Lf(b:Nat->Nat)(a:Nat):GM b 0 a=madeCells #[.int .u8 0] a:=by apply acf.1;rw[toList_madeCells_one];simp[GM,Pl.pkd,List.map_const']
def Lg(b:Nat->Nat)(a c:Nat):(GM b a c).setIfInBounds (a/8) (.int .u8 (Pl.pkd b (a+1) (a/8):Nat))=GM b (a+1) c:=by
 apply ZS;intro d;rw[Y6];by_cases f:d<c
 .rw[Bl b (a+1) c d f];by_cases e:a/8=d
  .subst e;simp[GM,f]
  .rw[Yo e,Bl b a c d f,Pl.pkd,Yo e]
 .have g:(GM b a c)[d]?=none:=by simp[GM];omega
  have h:(GM b (a+1) c)[d]?=none:=by simp[GM];omega
  rw[g,h];split
  .rename_i e;rw[Yo (by simp[GM];omega)]
  .rfl
def u8_or_nat(b a:Nat)(e:b<256)(f:a<256):bits .or .u8 (b:Int) (a:Int)=((b|||a:Nat):Int):=by
 have g:b|||a<2^8:=abr om om
 show IntKind.u8.wrap ((BitVec.ofInt 8 (b:Int)|||BitVec.ofInt 8 (a:Int)).toNat:Int)=_
 have c:(BitVec.ofInt 8 (b:Int)).toNat=b:=by rw[aaP,aa3];exact aaE om
 have d:(BitVec.ofInt 8 (a:Int)).toNat=a:=by rw[aaP,aa3];exact aaE om
 rw[acm,c,d,aaf];omega
def Lh(b:Nat->Nat)(e:∀k,b k<2)(a:Nat):bits BinOp.or IntKind.u8 ((Pl.pkd b a (a/8):Nat):Int) (((b a:Nat):Int)*2^(a%8)%256)=((Pl.pkd b (a+1) (a/8):Nat):Int):=by
 have i:=Pl.r8 b e a<|a/8;have l:=Pl.CH b e a;have n:=e a;have m:2^(a%8)<=2^7:=aaN om om;obtain⟨d,c⟩:=j5<|b a*2^(a%8);have h:d<256:=by rcases(show b a=0\/b a=1 by omega)with f|f<;>rw[c,f]<;>omega
 have j:d%2^(a%8)=0:=by rw[c];exact Nat.mul_mod_left ..
 have g:((b a:Nat):Int)*2^(a%8)%256=((d:Nat):Int):=by
  have:((b a:Nat):Int)*2^(a%8)=((b a*2^(a%8):Nat):Int):=by rw[abJ,Int.natCast_pow];rfl
  rw[this,<-c];omega
 rw[g,u8_or_nat _ _ i h,Nat.or_comm,nat_join (a%8) d _ j l,Pl.pkd,Ys rfl,<-c,Nat.add_comm]
def E2(e:b_)(g a c:Nat)(b:Nat->Nat)(i:e.heap[g]?=some (.cells (GM b c a) 5)):(convert 114 9<|.slice (some (μ g 0)) a a).run prog e=.ok (.string<|Pl.nj b c a) e:=by
 have:=qF e g a a ((List.range a).map λd=>((Pl.pkd b c d:Nat):Int)) si (λd j f=>by
  have h:d<a:=by have:=(Yr.1 f).1;simpa using this
  rw[Yu _ _ _ _ _ _ i,Bl b c a d h];simp[h]at f
  rw[f])
 rw[this];congr 2;apply Z6;simp[bytesOf,Pl.nj]
def CK(c:Nat->Nat)(b v g k:Nat)(p:Option Addr)(f:b_)(t:∀h,c h<2)(N:b<=10000)(A:g<f.heap.size)(u:0<b->p=some (μ g k))(s:∀m,m<b->f.cell? (μ g<|k+m)=some (ν<|c m)):
 Calls prog 86 #[.slice p b v] f λo I=>o=.returned (.string<|Pl.nj c b<|(b+7)/8)/\Below f.heap.size f I:=by
 let⟨e,l⟩:=j5<|(b+7)/8;have C:=wa e om;have z:=h_ s;have B:=h_ u;have n:=h_ t;rw[<-l];have q:=h_ l;have R:e<=2000:=om;clear s u t l
 go_enter func86,ntmps86
 go_wp2_with fail
 refine(ra b f om).mono ?_;rintro o d ⟨E,rfl,r,rfl⟩;obtain rfl:e=E:=by rw[r,q.o]
 clear r
 go_wp2_with fail
 clear C
 go_loopw [12] (λh wr=>∃a:Nat,a<=b/\h=ν a/\wr.heap[d.heap.size]?=some (.cells (GM c a e) 5)/\Below d.heap.size d wr) (λh _=>b-(intOf h).toNat)
 case atStart=>exact⟨0,YG _,rfl,by rw[Lf];exact YO d _,jT br _⟩
 case round=>
  obtain⟨a,J,rfl,i,j⟩:=hrel;by_cases x:a<b
  .obtain rfl:=B om;have M:=((ke j).1 g _ A).trans<|z a x;have D:a/8<e:=li q.o;have O:=n a;have Q:wr.cell? (μ d.heap.size<|a/8)=some (.int .u8 (Pl.pkd c a (a/8):Nat)):=by rw[Yu wr _ _ _ 5 (0,0) i];exact Bl c a e _ D
   have P:wr.frozen? (μ d.heap.size<|a/8)=false:=Y2 wr _ _ _ 5 i;have S:=Pl.r8 c n a<|a/8;have w:=h_ i;have y:=h_ j;clear i j
   go_wp2_with fail
   go_region
   rw[Lh c n.o a];go_wp2
   go_roundw
   case rel=>exact⟨a+1,om,gn,by
    show(wr.setCell (μ d.heap.size<|a/8)<|.int .u8 (Pl.pkd c (a+1) (a/8):Nat)).heap[d.heap.size]?=_
    rw[YB wr d.heap.size (a/8) _ 5 _ w.o,Lg],y.o.trans ⟨rfl,rfl,rfl,si,λF L=>Yp wr _ _ _ (by show F≠d.heap.size;omega)⟩⟩
   case measure=>exact mz
  .obtain rfl:a=b:=om;have K:=E2 wr d.heap.size e a c i;go_wp2;go_ret;exact⟨rfl,j⟩
section
variable {O:Nat->Bool}
def zt(a:Nat)(b:b_)(M:a<2):Calls prog 100 #[ν a] b λc d=>c=.returned (.bool true)/\d=b:=by
 rcases(show a=0\/a=1 by omega)with rfl|rfl
 .exact Ky
 .exact Ky
def H9(q w A:Nat)(g:Nat->Nat)(z:f_)(f:j4)(a:Pl.mW)(s:Nat)(m:Option Addr)(k:Nat)(d:Nat->Nat)(c:b_)(e:j1 O c q w A g z f)(v:a.kA<2)(Q:a.l7+a.cnt<=f.sz a.kA)(E:f.sz a.kA<=1000)(t:∀u,d u<2)(o:∀b,b<a.cnt->f.ent a.kA (a.l7+b)=(d b:Nat)):
 Calls prog 145 #[.pointer<|some (μ q 3),u1 a<|.slice m s k] c λh D=>h=.returned (.string<|Pl.nj d a.cnt<|(a.cnt+7)/8)/\Below c.heap.size c D:=by
 unfold u1;have i:a.kA<4:=om;have K:=e.r6 i;have L:=Yn e.dev;have y:=(e.ent a.kA i).lt;have P:(a.kA:Int)<4:=om;have n:∀b,b<a.cnt->c.cell? (μ (g a.kA)<|a.l7+b)=some (ν<|d b):=λb j=>by have:=(e.ent a.kA i).cell (i:=a.l7+b) (j:=0) om om;rw[YS,YE]at this;rw[this,o b j]
 have x:=h_ n;have B:=h_ t;have M:(a.l7:Int)+(a.cnt:Int)<=(f.sz a.kA:Int):=om;have J:(a.l7:Int)<=(a.l7:Int)+(a.cnt:Int):=om;have R:a.l7+a.cnt<=1000:=om;clear e n o t
 go_enter func145,ntmps145
 go_wp2_with fail
 go_quiet (fail)
 go_wp2_with fail
 all_goals
  refine(zt a.kA _ v).mono ?_;rintro h I ⟨rfl,rfl⟩
  go_wp2_with fail
 all_goals
  have l:Below c.heap.size c<|(c.alloc<|.cells #[ν a.fn,ν a.kA,ν a.l7,ν a.cnt,ν a.kd,ν a.to_,ν a.many,.slice m s k] 144).drewN nq:=YL (jT br _) _;have r:=h_ l;refine(CK d a.cnt _ (g a.kA) a.l7 _ _ B om so (λF=>by first|rfl|(exfalso;omega)) (λb j=>by rw[(ke r.o).1 (g a.kA) _ y];exact x b j)).mono ?_
  rintro h N ⟨rfl,p⟩;have C:=h_<|jZ r p;clear l p;go_wp2;go_ret;exact⟨rfl,C⟩
theorem CL(e:Nat)(d:a_)(b:Pl.mW)(h:Option Addr)(k f i:Nat)(c:b_)(a:b.fn=5\/b.fn=6\/b.fn=22):
 Calls prog 116 #[qn d b (.slice h k f) i,.pointer<|some (μ e 3)] c λg j=>g=.returned (.string d)/\Below c.heap.size c j:=by
 unfold qn;rcases a with a|a|a
 all_goals
  rw[a];clear a
  go_enter func116,ntmps116
  go_wp2;go_ret;exact⟨rfl,jT br _⟩
theorem CM(e:Nat)(b:a_)(d:Pl.mW)(h:Option Addr)(k f i:Nat)(c:b_)(a:d.fn=15\/d.fn=16)(m:5<=b.size):
 Calls prog 116 #[qn b d (.slice h k f) i,.pointer<|some (μ e 3)] c λg j=>g=.returned (.string<|b.extract 0 5)/\Below c.heap.size c j:=by
 unfold qn;have l:(5:Int)<=(b.size:Int):=om;rcases a with a|a
 all_goals
  rw[a];clear a
  go_enter func116,ntmps116
  go_wp2;go_ret;exact⟨rfl,jT br _⟩
def Ai(b a:a_):a_:=⟨#[UInt8.ofNat<|Pl.j2 b 0,UInt8.ofNat a.size]⟩++a
def CN(s:Nat)(c f:a_)(a:Pl.mW)(l:Option Addr)(o j k:Nat)(w:b_)(K:a.fn≠5/\a.fn≠6/\a.fn≠22/\a.fn≠15/\a.fn≠16)(Y:0<c.size)(U:f.size<=250)
 (t:∀b:b_,Below w.heap.size w b->Calls prog 145 #[.pointer<|some (μ s 3),u1 a<|.slice l o j] b λi r=>i=.returned (.string f)/\Below b.heap.size b r):
 Calls prog 116 #[qn c a (.slice l o j) k,.pointer<|some (μ s 3)] w λi r=>i=.returned (.string<|Ai c f)/\Below w.heap.size w r:=by
 let⟨b,h⟩:=j5<|w.alloc<|.cells #[.string c,ν a.fn,ν a.kA,ν a.l7,ν a.cnt,ν a.kd,ν a.to_,ν a.many,.slice l o j,.int .u8 (k:Nat)] 146;have m:=ba h;have n:=v' h;have L:=h_<|t b m;have iM:=h_ m;have iL:=h_ n;have T:=Pl.kG c;have R:=Pl.kz c 0;have S:(0:Int)<(c.size:Int):=om;have W:¬9223372036854775807<2+f.size:=om;have Q:b.heap.size=w.heap.size+1:=by rw[h];simp
 have N:∀(e:b_) (g:Nat) (p q:Int),e.cell? (μ g 0)=some (.int .u8 p)->e.cell? (μ g 1)=some (.int .u8 q)->(convert 114 9<|ω g 2 2).run prog e=.ok (.string ⟨#[UInt8.ofNat p.toNat,UInt8.ofNat q.toNat]⟩) e:=λe g p q F I=>by
  have:=qF e g 2 2 [p,q] rfl (λJ X d=>by
   match J,d with
   |0,d=>simp at d;subst d;exact F
   |1,d=>simp at d;subst d;exact I)
  exact this
 let⟨u,x,B,C,z,D,A,y,v,r9⟩:=o_ n;unfold qn;clear t m n;have t5:((a.fn:Int)==5)=false:=nU;have t6:((a.fn:Int)==6)=false:=nU;have t22:((a.fn:Int)==22)=false:=nU;have t15:((a.fn:Int)==15)=false:=nU;have t16:((a.fn:Int)==16)=false:=nU;clear K
 go_enter func116,ntmps116
 go_wp2_with fail
 rw[<-h];clear h;apply L.o.mono;rintro i E ⟨rfl,aP⟩;refine Kh ?_;intro a6 dP cp;clear u x B C z D A y v r9 aP;let⟨u,x,B,C,z,D,A,y,v,r9⟩:=o_ dP;clear dP;have V:IntKind.u8.wrap (f.size:Int)=(f.size:Int):=by rw[aaf];omega
 have P:w.heap.size<E.heap.size:=om
 go_wp2_with fail
 go_ret;refine⟨?_,jT cp _⟩;unfold Ai;rfl
def maskN(b a c:Nat):Nat:=(b&&&a)|||(c&&&(65535^^^a))
def CO(c a b:Nat)(g:a<65536)(f:b<65536):maskN c a b<65536:=by unfold maskN;have e:c&&&a<2^16:=aaq Nat.and_le_right g;have d:b&&&(65535^^^a)<2^16:=aaq abG f;exact abr e d
def H_(c a b:Nat)(l:c<65536)(h:a<65536)(f:b<65536):bits .or .i64 (bits .and .i64 (c:Int) (a:Int)) (bits .andNot .i64 (b:Int) (a:Int))=((maskN c a b:Nat):Int):=by
 have d:∀g:Nat,g<65536->(BitVec.ofInt 64 (g:Int)).toNat=g:=λg q=>by rw[aaP,aa3];exact aaE om
 have o:c&&&a<65536:=aaq Nat.and_le_right h;have k:b&&&(65535^^^a)<65536:=aaq abG f;have p:bits .and .i64 (c:Int) (a:Int)=((c&&&a:Nat):Int):=by show IntKind.i64.wrap ((BitVec.ofInt 64 (c:Int)&&&BitVec.ofInt 64 (a:Int)).toNat:Int)=_;rw[ace,d c l,d a h,aao];omega
 have m:bits .andNot .i64 (b:Int) (a:Int)=((b&&&(65535^^^a):Nat):Int):=by
  show IntKind.i64.wrap ((BitVec.ofInt 64 (b:Int)&&& ~~~BitVec.ofInt 64 (a:Int)).toNat:Int)=_
  have:(BitVec.ofInt 64 (b:Int)&&& ~~~BitVec.ofInt 64 (a:Int)).toNat=b&&&(65535^^^a):=by
   rw[ace,BitVec.toNat_not,d b f,d a h];apply Nat.eq_of_testBit_eq;intro e;rw[abE,abE,Nat.testBit_xor];by_cases i:e<16
   .have j:(2^64-1-a).testBit e= !a.testBit e:=by rw[Nat.sub_sub,Nat.add_comm 1 a,Nat.testBit_two_pow_sub_succ om];simp;omega
    have n:(65535:Nat).testBit e=true:=by rw[show(65535:Nat)=2^16-1 by rfl,Nat.testBit_two_pow_sub_one];simp[i]
    rw[j,n];simp
   .have:b.testBit e=false:=Nat.testBit_lt_two_pow<|Yy f<|aaN Nat.zero_lt_two<|abA i;rw[this];simp
  rw[this,aao];omega
 rw[p,m];show IntKind.i64.wrap ((BitVec.ofInt 64 ((c&&&a:Nat):Int)|||BitVec.ofInt 64 ((b&&&(65535^^^a):Nat):Int)).toNat:Int)=_
 rw[acm,d _ o,d _ k,aao];have:=CO c a b h f;unfold maskN at this⊢;omega
end
section
variable {O:Nat->Bool}
def oo{e:b_}{c h t:Nat}{f:Nat->Int}{v:Int}(l:kE e c 3 h 1 λa _=>ν<|f a)(r:t<h):kE (e.setCell (μ c t)<|ν v) c 3 h 1 (λa _=>ν (if a=t then v else f a)):=by
 let⟨q,i,n,o⟩:=l;refine⟨_,YB e c t _ 3 _ i,by rw[Y3];exact n,λb j k p=>?_⟩;obtain rfl:j=0:=om;have g:=o b 0 k om;rw[YS,YE]at g⊢;rw[Y6];show _=some (ν (if b=t then v else f b));by_cases d:t=b
 .subst d;rw[Ys rfl,Ys rfl,Ys (YU.1 g).1]
 .rw[Yo d,Yo λm=>d m.symm];exact g
def E3(B R Q aF a g e h:Nat)(b:Nat->Nat)(P:f_)(d:j4)(X:f_)(af:Bool)(c:b_)(M:j1 O c B R Q b P d)(aj:c.ownsRow aF 3 1 X 2<|[((e:Nat):Int),((h:Nat):Int)].flatMap ka)(aE:a<d.sz 2)(an:d.ent 2 a=(g:Nat))(aI:g<65536)(aw:e<65536)(aJ:h<65536)
 (ap:af=decide (a<d.kp 2)):
 Calls prog 115 #[.pointer<|some (μ B 3),u1 ⟨22,2,a,1,2,a,1,[((e:Nat):Int),((h:Nat):Int)]⟩ X] c λo ar=>o=.returned (.bool af)/\j1 O ar B R Q b P {d with ent:=qp d a<|maskN g e h}/\kf (b 2) c ar:=by
 obtain⟨aL,ai,rfl,aq⟩:=i_ aj;obtain⟨r,rfl,ad,S⟩:=aq 0 om;have F:c.cell? (μ r 0)=some (ν e):=S 0 om;have y:c.cell? (μ r 1)=some (ν h):=S 1 om;unfold u1;have ae:=M.r6 (i:=2) om;have U:=M.CG (i:=2) om;have aT:=Yn M.dev;have Y:=(M.ent 2 om).lt;have N:=(M.ent 2 om).cell (i:=a) (j:=0) om om;rw[YS,YE,an]at N;obtain⟨aQ,n⟩:=(M.ent 2 om).block;have ak:c.frozen? (μ (b 2) a)=false:=Y2 _ _ _ _ _ n;have aR:(a:Int)<(d.sz 2:Int):=om;have ab:=H_ g e h aI aw aJ;have az:=h_ M;have HB:=h_ ap;have aG:=h_ ab;have au:=h_ F;have ay:=h_ y;have aK:=h_ ae;have aC:=h_ N;have aM:=h_ ak;have aP:=h_ U;have al:=h_ n;clear M aj aq S ap an ab n
 go_enter func115,ntmps115
 go_wp2_with fail
 go_quiet (fail)
 obtain⟨k,z⟩:∃k,k=(c.alloc<|.cells #[ν 22,ν 2,ν a,ν 1,ν 2,ν a,ν 1,ω r 2 ai] 144).drewN nq:=⟨_,rfl⟩;have m:Below c.heap.size c k:=by rw[z];exact YL (jT (Below.refl ..) _) _
 have K:k.heap[c.heap.size]?=some (.cells #[ν 22,ν 2,ν a,ν 1,ν 2,ν a,ν 1,ω r 2 ai] 144):=by rw[z];exact YO c _
 rw[<-z];have aU:=m.size;clear z F y ae U N ak;obtain⟨u,D,w,v,C,E,I,x,A⟩:=kq K;have F:=((ke m).1 r 0 ad).trans au.out;have y:=((ke m).1 r 1 ad).trans ay.out;have n:=(m.block (b 2) Y).trans al.out;have ac:k.cell? (μ (b 2) a)=some (ν g):=((ke m).1 (b 2) a Y).trans aC.out;have av:k.frozen? (μ (b 2) a)=false:=Y2 _ _ _ _ _ n;have aa:=h_ m;have Z:=h_ K;clear m K n
 go_wp2_with fail
 go_quiet (fail)
 obtain⟨i,V⟩:∃i,i=k.drewN nq:=⟨_,rfl⟩;have q:Below k.heap.size k i:=by rw[V];exact YL (Below.refl ..) _
 rw[<-V];clear V F y u D w v C E I x A;have W:=(q.block _ (Yn Z.out)).trans Z.out;obtain⟨u,D,w,v,C,E,I,x,A⟩:=kq W;have ah:b 2<k.heap.size:=om;have ax:i.cell? (μ (b 2) a)=some (ν g):=((ke q).1 (b 2) a ah).trans ac;have J:=(q.block (b 2) ah).trans<|(aa.out.block (b 2) Y).trans al.out;have aH:i.frozen? (μ (b 2) a)=false:=Y2 _ _ _ _ _ J;have ao:=h_<|jZ aa.out q;have aA:=h_ W;have aS:=h_ J;have aO:=q.size;clear q W ac av J
 go_wp2_with fail
 go_region
 rw[aG.out];obtain⟨s,t⟩:∃s,s=(i.setCell (μ (b 2) a)<|ν ((maskN g e h:Nat):Int)).drew:=⟨_,rfl⟩;have L:=az.out.mR ao.out;have am:=oo (v:=((maskN g e h:Nat):Int)) (L.ent 2 om) aE;have T:kf (b 2) i<|i.setCell (μ (b 2) a)<|ν ((maskN g e h:Nat):Int):=(kf.refl _ _).setCell _ _
 have jg:Hid<|j1 O s B R Q b P {d with ent:=qp d a<|maskN g e h}:=by
  rw[t];refine j1.drewN (L.put om T (am.congr λl _ _ _=>?_) (λl aN aB=>?_)) 1
  .show ν (if l=a then _ else d.ent 2 l)=ν (qp d a (maskN g e h) 2 l);unfold qp;by_cases o:l=a
   .rw[Ys o,Ys ⟨rfl,o⟩]
   .rw[Yo o,Yo λM=>o M.2]
  .unfold qp;rw[Yo λM=>aB M.1]
 have eH:Hid<|kf (b 2) c s:=by rw[t];exact((kf.jX _ ao.out).trans T).drewN 1
 have ag:s.heap[c.heap.size]?=i.heap[c.heap.size]?:=by rw[t];exact Yp i (μ (b 2) a) c.heap.size _ (by show c.heap.size≠b 2;omega)
 rw[<-t];clear t L am T u D w v C E I x A ax aH;obtain⟨u,D,w,v,C,E,I,x,A⟩:=kq<|ag.trans aA.out;have U:=jg.out.CG (i:=2) om;clear ag;by_cases iN:a<d.kp 2
 .have aD:(a:Int)<(d.kp 2:Int):=om;exact Rj
 .have aD:decide ((a:Int)<(d.kp 2:Int))=false:=so;exact Rj
end
section
variable {O:Nat->Bool}
def Li(d m l V r:Nat)(c:Nat->Nat)(j:f_)(f:j4)(I:a_)(a:Pl.mW)(o:f_)(P:Bool)(R:a_)(F:Nat->Nat->Int)(w:b_)(M:j1 O w d m l c j f)(am:a.kA<4)(aj:a.kd<4)(ao:r<4)(J:w.ownsRow V 3 1 o a.vals.length<|a.vals.flatMap ka)(Q:hasB f a=true)(ac:a.l7<=100000)(al:a.cnt<=100000)(ab:a.to_<=100000)(Z:a.many<=100000)
 (N:∀b:b_,j1 O b d m l c j f->b.ownsRow V 3 1 o a.vals.length (a.vals.flatMap ka)->Calls prog 115 #[.pointer<|some (μ d 3),u1 a o] b λe i=>e=.returned (.bool P)/\j1 O i d m l c j {f with ent:=F}/\kf (c r) b i)
 (hA:∀(h:Option Addr) (W g:Nat) (b:b_),o=.slice h W g->j1 O b d m l c j {f with ent:=F}->Calls prog 116 #[qn I a (.slice h W g) 0,.pointer<|some (μ d 3)] b λe i=>e=.returned (.string R)/\Below b.heap.size b i):
 Calls prog 80 #[qn I a o 0,.pointer<|some (μ d 3)] w λe i=>e=.returned (.tuple #[.string R,.bool P])/\j1 O i d m l c j {f with ent:=F}/\kf (c r) w i:=by
 obtain⟨h,g,rfl,_⟩:=i_ J;let⟨U,n⟩:=j5<|w.alloc<|.cells #[.string I,ν a.fn,ν a.kA,ν a.l7,ν a.cnt,ν a.kd,ν a.to_,ν a.many,.slice h a.vals.length g,.int .u8 0] 146;have D:=ba n;have K:=v' n;have aq:U.heap.size=w.heap.size+1:=by rw[n];simp
 have ar:=(M.ent r ao).lt;let⟨s,C,y,z,v,A,x,u,t,r9⟩:=o_ K;have ap:=h_<|GK d m l c j f a (.slice h a.vals.length g) a.vals.length h g U (M.mR D) am aj ac al ab Z rfl;have af:=h_ M;have aa:=h_ J;have iM:=h_ D;have iL:=h_ K;have ah:=h_ N;have ak:=h_ hA;have ae:=h_ Q;unfold qn;clear M J D K N hA Q
 go_enter func80,ntmps80
 go_wp2_with fail
 rw[<-n];clear n;apply ap.o.mono;rintro e b ⟨rfl,aP⟩;rw[ae.o];refine Kh ?_;intro a6 dP cp;clear s C y z v A x u t r9 aP;let⟨s,C,y,z,v,A,x,u,t,r9⟩:=o_ dP;have T:=h_ dP;clear dP
 go_wp2_with fail
 refine(ah b (af.o.mR cp)<|jY aa cp).mono ?_;rintro e ad ⟨rfl,S,B⟩;have au:=B.size;have ag:=Yn T;have X:=(B.block w.heap.size ag om).trans T;have L:=h_ S;have ai:=h_<|(kf.jX (c r) cp).trans B;clear s C y z v A x u t r9 S B;let⟨s,C,y,z,v,A,x,u,t,r9⟩:=o_ X;clear X
 go_wp2_with fail
 refine(ak h a.vals.length g ad rfl L).mono ?_;rintro e av ⟨rfl,E⟩;have Y:=h_<|L.o.mR E;have an:=h_<|ai.o.kt E;clear E;go_wp2
 go_ret2
 exact⟨rfl,Y,an⟩
def Bm(b:a_)(a:Nat):a_:=⟨#[UInt8.ofNat (Pl.j2 b 0)|||128,UInt8.ofNat a]⟩
def x9(b:b_)(c:Nat)(d e:Int)(h:b.cell? (μ c 0)=some (.int .u8 d))(f:b.cell? (μ c 1)=some (.int .u8 e)):(convert 114 9<|.slice (some (μ c 0)) 2 2).run prog b=.ok (.string ⟨#[UInt8.ofNat d.toNat,UInt8.ofNat e.toNat]⟩) b:=
 qF b c 2 2 [d,e] rfl (λg i a=>by
  match g,a with
  |0,a=>simp at a;subst a;exact h
  |1,a=>simp at a;subst a;exact f)
def E4(j b:Nat)(a:a_)(k:Pl.mW)(d:f_)(i:Nat)(g:Option Addr)(e:Nat)(c:b_)(h:d=.slice g i e)(t:0<b)(p:b<=255)(u:0<a.size):
 Calls prog 80 #[qn a k d b,.pointer<|some (μ j 3)] c λf m=>f=.returned (.tuple #[.string<|Bm a b,.bool false])/\Below c.heap.size c m:=by
 subst h;have s:=Pl.kG a;have l:=Pl.kz a 0;have r:(0:Int)<(a.size:Int):=om;have o:((b:Int)==0)=false:=nU;have q:bits .or .u8 ((Pl.j2 a 0:Nat):Int) 128=((Pl.j2 a 0|||128:Nat):Int):=u8_or_nat _ 128 l om
 have n:=x9;unfold qn
 go_enter func80,ntmps80
 go_wp2_with fail
 go_ret2
 exact⟨rfl,jT (jT br _) _⟩
def E5(h m z:Nat)(A:Nat->Nat)(u:f_)(j:j4)(b:a_)(a:Pl.mW)(D:f_)(f:Nat)(e:Option Addr)(d:Nat)(w:b_)(M:j1 O w h m z A u j)(P:a.kA<4)(I:a.kd<4)(R:a.l7<=100000)(K:a.cnt<=100000)(Q:a.to_<=100000)(L:a.many<=100000)(F:D=.slice e f d)(y:hasB j a=false)(ab:0<b.size):
 Calls prog 80 #[qn b a D 0,.pointer<|some (μ h 3)] w λl U=>l=.returned (.tuple #[.string<|Bm b 2,.bool false])/\Below w.heap.size w U:=by
 subst F;let⟨n,c⟩:=j5<|w.alloc<|.cells #[.string b,ν a.fn,ν a.kA,ν a.l7,ν a.cnt,ν a.kd,ν a.to_,ν a.many,.slice e f d,.int .u8 0] 146;have g:=ba c;have i:=v' c;have X:n.heap.size=w.heap.size+1:=by rw[c];simp
 let⟨o,s,B,C,v,E,x,t,r,r9⟩:=o_ i;have T:=h_<|GK h m z A u j a (.slice e f d) f e d n (M.mR g) P I R K Q L rfl;have aa:=Pl.kG b;have N:=Pl.kz b 0;have Z:(0:Int)<(b.size:Int):=om;have Y:bits .or .u8 ((Pl.j2 b 0:Nat):Int) 128=((Pl.j2 b 0|||128:Nat):Int):=u8_or_nat _ 128 N om
 have V:=x9;have iM:=h_ g;have iL:=h_ i;have S:=h_ y;unfold qn;clear M g i y
 go_enter func80,ntmps80
 go_wp2_with fail
 rw[<-c];clear c;apply T.o.mono;rintro l J ⟨rfl,aP⟩;rw[S.o];refine Kh ?_;intro a6 dP cp;clear o s B C v E x t r r9 aP;let⟨o,s,B,C,v,E,x,t,r,r9⟩:=o_ dP;clear dP;have W:w.heap.size<J.heap.size:=om
 go_wp2_with fail
 go_ret2
 exact⟨rfl,jT cp.o _⟩
end
section
variable {O:Nat->Bool}
structure Lj(s:a_)(x:Pl.mW):Prop where
 size:0<s.size
 kA:x.kA<4
 kd:x.kd<4
 l7:x.l7<=100000
 cnt:x.cnt<=100000
 VA:x.to_<=100000
 many:x.many<=100000
 kind:(∃t a o:Nat,a<65536/\o<65536/\x=⟨22,2,t,1,2,t,1,[((a:Nat):Int),((o:Nat):Int)]⟩)\/(x.fn≠22/\x.vals.length=x.many)
 vals:∀v∈x.vals,0<=v/\v<65536/\(x.kd<2->v<2)
 fn:(x.fn=5\/x.fn=6\/x.fn=22)\/((x.fn=15\/x.fn=16)/\5<=s.size)\/(x.fn≠5/\x.fn≠6/\x.fn≠22/\x.fn≠15/\x.fn≠16)
def tQ(d:a_)(b f:Nat):∀a∈Pl.kJ d b f,0<=a/\a<65536:=λa c=>by unfold Pl.kJ at c;obtain⟨e,_,rfl⟩:=aaW.1 c;have:=Pl.pZ d<|b+2*e;omega
def H'(d:a_)(b f:Nat):∀a∈Pl.mx d b f,0<=a/\a<2:=λa c=>by unfold Pl.mx at c;obtain⟨e,_,rfl⟩:=aaW.1 c;have:=Pl.S_ d b e;omega
def tR{a:a_}{f:Pl.mW}{e:Nat}(M:Pl.lj a f e):(e=0/\Lj a f)\/((e=1\/e=3)/\f=Pl.j6):=by
 have j:=Pl.pZ a 1;have i:=Pl.pZ a 3;have h:=Pl.pZ a 5;have k:=Pl.pZ a 7;unfold Pl.lj at M;rcases M with⟨_,rfl,rfl⟩|⟨hs,M⟩
 .exact .inr ⟨.inr rfl,rfl⟩
 .rcases M with⟨d,M⟩|⟨d,M⟩|⟨d,M⟩|⟨d,M⟩|⟨d,M⟩|⟨d,M⟩|⟨d,M⟩|⟨d,M⟩|⟨d,M⟩|⟨d,M⟩|⟨d,rfl,rfl⟩
  .exact NO
  .exact NO
  .exact NO
  .exact NO
  .rcases M with⟨hr,rfl,rfl⟩|⟨_,rfl,rfl⟩
   .exact .inl ⟨rfl,hs.1,si,si,si,si,by simp only;omega,si,.inr ⟨si,rfl⟩,λb c=>by
     have:b=((Pl.wd a 3/65280:Nat):Int):=by simpa using c
     subst this
     exact⟨om,om,λ_=>by omega⟩,si⟩
   .exact .inr ⟨.inr rfl,rfl⟩
  .rcases M with⟨hr,rfl,rfl⟩|⟨_,rfl,rfl⟩
   .exact .inl ⟨rfl,hs.1,si,si,si,si,by simp only;omega,si,.inr ⟨si,rfl⟩,λb c=>by
     have:b=((Pl.wd a 3:Nat):Int):=by simpa using c
     subst this
     exact⟨om,om,λM=>absurd M si⟩,si⟩
   .exact .inr ⟨.inr rfl,rfl⟩
  .rcases M with⟨hr,rfl,rfl⟩|⟨_,rfl,rfl⟩
   .exact .inl ⟨rfl,hs.1,si,si,si,si,by simp only;omega,by simp only;omega,.inr ⟨si,Pl.mp ..⟩,λb c=>by
     have:=H' a 6 _ b c
     exact⟨this.1,om,λ_=>this.2⟩,.inr (.inl ⟨.inl rfl,by have:=hr.1;omega⟩)⟩
   .exact .inr ⟨.inr rfl,rfl⟩
  .rcases M with⟨hr,rfl,rfl⟩|⟨_,rfl,rfl⟩
   .exact .inl ⟨rfl,hs.1,si,si,si,si,by simp only;omega,by simp only;omega,.inr ⟨si,Pl.kO ..⟩,λb c=>by
     have:=tQ a 6 _ b c
     exact⟨this.1,this.2,λM=>absurd M si⟩,.inr (.inl ⟨.inr rfl,by have:=hr.1;omega⟩)⟩
   .exact .inr ⟨.inr rfl,rfl⟩
  .rcases M with⟨hr,rfl,rfl⟩|⟨_,rfl,rfl⟩
   .have g:Pl.kJ a 3 2=[((Pl.wd a 3:Nat):Int),((Pl.wd a 5:Nat):Int)]:=rfl
    exact .inl ⟨rfl,hs.1,si,si,by simp only;omega,si,by simp only;omega,si,.inl ⟨Pl.wd a 1,Pl.wd a 3,Pl.wd a 5,i,h,by rw[g]⟩,λb c=>by
     have:=tQ a 3 _ b c
     exact⟨this.1,this.2,λM=>absurd M si⟩,si⟩
   .exact .inr ⟨.inr rfl,rfl⟩
  .rcases M with⟨hr,rfl,rfl⟩|⟨_,rfl,rfl⟩
   .exact .inl ⟨rfl,hs.1,si,si,by simp only;omega,by simp only;omega,by simp only;omega,by simp only;omega,.inr ⟨si,Pl.kO ..⟩,λb c=>by
     have:=tQ a 10 _ b c
     exact⟨this.1,this.2,λM=>absurd M si⟩,si⟩
   .exact .inr ⟨.inr rfl,rfl⟩
  .exact .inr ⟨.inl rfl,rfl⟩
def n4(b:Nat->Nat->Int):Prop:=∀a c,0<=b a c/\b a c<65536/\(a<2->b a c<2)
def rR(b:j4)(c:Pl.mW)(a:Nat):Nat:=if a≠0 then a else if hasB b c=true then 0 else 2
def pw(c:Nat->Nat->Int)(a:Pl.mW):a_:=if a.kA<2 then Pl.nj (λb=>(c a.kA<|a.l7+b).toNat) a.cnt ((a.cnt+7)/8)else lp ((List.range a.cnt).map λb=>(c a.kA<|a.l7+b).toNat)
def oH(c:Nat->Nat->Int)(b:a_)(a:Pl.mW):a_:=if a.fn=5\/a.fn=6\/a.fn=22 then b else if a.fn=15\/a.fn=16 then b.extract 0 5 else Ai b (pw c a)
def mh(b:j4)(a:Pl.mW):Nat->Nat->Int:=if a.fn=22 then qp b a.to_ (maskN (b.ent 2 a.to_).toNat (a.vals.getD 0 0).toNat (a.vals.getD 1 0).toNat)else zo b a
def tn(a:j4)(b:Pl.mW)(c:Nat):Nat->Nat->Int:=if rR a b c=0 then mh a b else a.ent
def vm(b:j4)(d:a_)(a:Pl.mW)(c:Nat):a_:=if rR b a c=0 then oH (mh b a) d a else Bm d (rR b a c)
def tj(b:j4)(a:Pl.mW)(c:Nat):Bool:=decide (rR b a c=0)&&(decide (0<a.many)&&decide (a.to_<b.kp a.kd))
def Bn{b:j4}{r:a_}{a:Pl.mW}(h:n4 b.ent)(i:Lj r a):n4 (mh b a):=by
 intro j d;unfold mh;split
 .rename_i o;rcases i.kind with⟨f,c,e,q,l,rfl⟩|⟨n,_⟩
  .unfold qp;split
   .have:=CO (b.ent 2 f).toNat c e q l;refine⟨om,?_,λm=>by omega⟩;have k:((maskN (b.ent 2 f).toNat (([((c:Nat):Int),((e:Nat):Int)]:List Int).getD 0 0).toNat (([((c:Nat):Int),((e:Nat):Int)]:List Int).getD 1 0).toNat:Nat):Int)=((maskN (b.ent 2 f).toNat c e:Nat):Int):=rfl;simp only;rw[k];omega
   .exact h j d
  .exact absurd o n
 .unfold zo;split
  .rename_i s;have g:d-a.to_<a.vals.length:=om;have p:a.vals.getD (d-a.to_) 0∈a.vals:=by rw[Yt,Yw g];exact aan g
   have:=i.vals _ p;exact⟨this.1,this.2.1,λm=>this.2.2 om⟩
  .exact h j d
def Bo{a:j4}{h:a_}{c:Pl.mW}{d:Nat}(b:n4 a.ent)(f:Pl.lj h c d):n4 (tn a c d):=by
 unfold tn;split
 .rename_i e;rcases tR f with⟨_,g⟩|⟨i,_⟩
  .exact Bn b g
  .unfold rR at e;rw[Ys om]at e;omega
 .exact b
def tS(b:Nat->Nat->Int)(a:Pl.mW)(c:a.cnt<=100):(pw b a).size<=200:=by
 unfold pw;split
 .rw[Pl.ol];omega
 .rw[p6];simp;omega
def Tm(c i g:Nat)(h:Nat->Nat)(f:f_)(D:j4)(b:a_)(F:Pl.mW)(C:Nat)(U:Pl.lj b F C)(R:0<b.size)(ae:∀s,s<4->D.sz s<=60)(Y:n4 D.ent):Vz O c i g h f D b (vm D b F C) (tj D F C) (tn D F C):=by
 intro an ar m J x ak E L;obtain⟨rfl,rfl⟩:=Pl.lj.eq ak U;obtain⟨w,u,rfl,_⟩:=i_ L;have S:=E;rcases tR U with⟨rfl,a⟩|⟨ao,_⟩
 .by_cases q:hasB D an=true
  .have k:rR D an 0=0:=by unfold rR;rw[Yo om,Ys q]
   have A:tn D an 0=mh D an:=by unfold tn;rw[Ys k]
   have z:vm D b an 0=oH (mh D an) b an:=by unfold vm;rw[Ys k]
   have t:tj D an 0=(decide (0<an.many)&&decide (an.to_<D.kp an.kd)):=by unfold tj;rw[k];rfl
   rw[A,z,t];have ay:=Bn Y a;have ag:an.l7+an.cnt<=D.sz an.kA/\an.to_+an.many<=D.sz an.kd:=by unfold hasB at q;simpa only[Zw,Zq]using q
   have hA:∀(e:Option Addr) (o l:Nat) (d:b_),Value.slice w an.vals.length u=.slice e o l->j1 O d c i g h f {D with arr:=D.arr+1,ent:=mh D an}->Calls prog 116 #[qn b an (.slice e o l) 0,.pointer<|some (μ c 3)] d λy B=>y=.returned (.string<|oH (mh D an) b an)/\Below d.heap.size d B:=by
    intro e o l d _ v;have ap:=ae an.kA a.kA;rcases a.fn with r|⟨r,ab⟩|r
    .unfold oH;rw[Ys r];exact CL c b an e o l 0 d r
    .unfold oH;rw[Yo om,Ys r];exact CM c b an e o l 0 d r ab
    .unfold oH;rw[Yo om,Yo om];refine CN c b (pw (mh D an) an) an e o l 0 d r R (li<|tS (mh D an) an om) λW ad=>?_;have T:=v.mR ad;unfold pw;by_cases I:an.kA<2
     .rw[Ys I];refine H9 c i g h f _ an o e l _ W T I (by show _<=D.sz an.kA;omega) (by show D.sz an.kA<=1000;omega) (λs=>?_) (λj _=>?_)
      .have:=ay an.kA<|an.l7+s;have:=this.2.2 I;omega
      .exact RX
     .rw[Yo I];refine EU c i g h f _ an o e l _ W T a.kA om (by show _<=D.sz an.kA;omega) (by show D.sz an.kA<=1000;omega) si (λaa X=>?_) (λj aa P=>?_)
      .obtain⟨s,_,rfl⟩:=aaW.1 X;have:=ay an.kA<|an.l7+s;omega
      .have af:j<an.cnt:=by have:=(Yr.1 P).1;simpa using this
       rw[Y9,Z5 af]at P;have X:(mh D an an.kA<|an.l7+j).toNat=aa:=by simpa using P
       exact RX
   rcases a.kind with⟨n,e,Z,al,ah,K⟩|⟨V,am⟩
   .have aj:n<D.sz 2:=by have:=ag.2;rw[K]at this;simp only at this;omega
    have aq:=Y 2 n;have ac:D.ent 2 n=(((D.ent 2 n).toNat:Nat):Int):=om;have N:mh D an=qp D n (maskN (D.ent 2 n).toNat e Z):=nY K
    have:=Li c i g J 2 h f {D with arr:=D.arr+1} b an (.slice w an.vals.length u) (decide (0<an.many)&&decide (an.to_<D.kp an.kd)) (oH (mh D an) b an) (mh D an) x E a.kA a.kd om L q a.l7 a.cnt a.VA a.many (by
     intro d v Q;rw[N];subst K
     exact E3 c i g J n (D.ent 2 n).toNat e Z h f {D with arr:=D.arr+1} _ _ d v Q aj ac om al ah si) hA
    exact this.mono λy B M=>⟨M.1,M.2.1,2,om,M.2.2⟩
   .have N:mh D an=zo D an:=by unfold mh;rw[Yo V]
    have:=Li c i g J an.kd h f {D with arr:=D.arr+1} b an (.slice w an.vals.length u) (decide (0<an.many)&&decide (an.to_<D.kp an.kd)) (oH (mh D an) b an) (mh D an) x E a.kA a.kd a.kd L q a.l7 a.cnt a.VA a.many (by
     intro d v Q;rw[N]
     exact ES c i g J h f {D with arr:=D.arr+1} an _ _ d v a.kd V Q (by show _<=D.sz an.kd;omega) a.many rfl) hA
    exact this.mono λy B M=>⟨M.1,M.2.1,an.kd,a.kd,M.2.2⟩
  .have ai:hasB D an=false:=by simpa using q
   have k:rR D an 0=2:=by unfold rR;rw[Yo om,Yo q]
   have A:tn D an 0=D.ent:=by unfold tn;rw[Yo om]
   have z:vm D b an 0=Bm b 2:=by unfold vm;rw[Yo om,k]
   have t:tj D an 0=false:=by unfold tj;rw[k];rfl
   rw[A,z,t];refine(E5 c i g h f {D with arr:=D.arr+1} b an _ _ w u x E a.kA a.kd a.l7 a.cnt a.VA a.many rfl ai R).mono λy B M=>⟨M.1,S.mR M.2,0,om,kf.jX _ M.2⟩
 .have k:rR D an m=m:=by unfold rR;rw[Ys om]
  have A:tn D an m=D.ent:=by unfold tn;rw[Yo om]
  have z:vm D b an m=Bm b m:=by unfold vm;rw[Yo om,k]
  have t:tj D an m=false:=by unfold tj;rw[k];have:decide (m=0)=false:=so;rw[this];rfl
  rw[A,z,t];refine(E4 c m b an _ _ w u x rfl om om R).mono λy B M=>⟨M.1,S.mR M.2,0,om,kf.jX _ M.2⟩
end
section
variable {O:Nat->Bool}
def Ia(b k f o n:Nat)(i:Nat->Nat)(v:f_)(a:j4)(h:a_)(u:List Sv->List Sv->Prop)(ah:∀d e,u d e->d.length=e.length)(af:Ti O a.base b u)(e:List Sv)(c:b_)(d:j1 O c b k f i v a)(a7:0<a.uns)(al:∀p:b_,j1 O p b k f i v a->Calls prog 59 #[.pointer<|some (μ b 3)] p λj g=>j=.returned (.string h)/\Below p.heap.size p g)(aV:h.size<=1000)
 (ay:a.sec<=64) (ak:∀am,am<a.sec->am*62<=h.size) (ar:a.lat<=1) (aR:a.stamp<=3) (ag:o=(a.lat+1)%2) (ae:n=a.stamp%3+1) (Y:u a.wait e) (aK:e.length<=1000):
 Calls prog 24 #[π b] c λj g=>∃r,j=.returned r/\g.ownsRow c.heap.size 77 4 r (a.sec+1+e.length) ((my a.sec o n h++e.map kS).flatMap ku)/\j1 O g b k f i σ {a with lat:=o,stamp:=n,uns:=0,wait:=[]}/\lC a.base (lS O b k f i) c g:=by
 obtain⟨au,aG,aS,az,aU⟩:=Y4 Tryz.po;obtain⟨N,C,x,F,L,W,U,V,a5⟩:=d.cells;have aW:((a.uns:Int)==0)=false:=nU;have ad:Hid (Calls prog 59 #[.pointer<|some (μ b 3)] c.drew λj g=>∃r,j=.returned r/\(r=.string h/\Below c.drew.heap.size c.drew g)):=(al c.drew<|d.drewN 1).mono λj g d=>⟨_,d.1,rfl,d.2⟩;have aP:=h_ ak;have aA:=h_ d;have aT:=h_ ag;have aO:=h_ ae;have aH:=h_ ah;have ax:=h_ af;have aq:=h_ Y;clear d al ag ae ah af Y ak
 go_enter func24,ntmps24
 go_wp2_with fail
 go_region_law (first
  |(refine ki rfl 59 #[.tmp 15] #[104] rfl #[.pointer<|some (μ b 3)] (by simp[Act.eval,Act.put]) (OD ..) _ ad ?_;rintro aF p ⟨rfl,y⟩;have m:=(aA.o.drewN 1).mR y;obtain⟨k0,aE,aJ,aC,aD,aw,aI,aL,aX⟩:=m.cells)
  |(refine ki rfl 58 #[.tmp 12,.tmp 16] #[106,9] rfl #[π f,.string h] qU (OC ..) _ (La f a.sec a.lat a.stamp o n h _ m.store ay aP om ar aR aT aO) ?_;rintro aF aa ⟨z,Z,S⟩))
 all_goals
  obtain⟨ap,aQ,rfl,_⟩:=i_ z;have R:=kx y;have l:=h_<|m.saved S Z;have ac:=h_<|(lC.jX (B:=a.base) (lS O b k f i) R).trans<|lC.Bk S m.store (Tg ..) m.lo.2.2.1;have P:=h_<|j9 (B:=c.heap.size) z R.size;clear N C x F L W U V k0 aE aJ aC aD aw aI aL z Z S m y R ad;obtain⟨N,C,x,F,L,W,U,V,aB⟩:=l.o.cells
  go_wp2_with fail
  obtain⟨s,t⟩:=j5<|aa.setCell (μ b 13)<|ν 0;have J:Hid<|j1 O s b k f i v {a with lat:=o,stamp:=n,uns:=0}:=by rw[t];exact l.o.Ld 0
  have A:Hid<|lC a.base (lS O b k f i) c s:=by rw[t];exact ac.o.setCell l.o.dev (EJ ..) l.o.lo.1 ..
  have M:Hid<|s.ownsRow c.heap.size 77 4 (.slice ap (a.sec+1) aQ) (a.sec+1)<|(my a.sec o n h).flatMap ku:=by rw[t];exact jV P (λq Q=>by obtain⟨ab,K⟩:=jU P q Q;exact Yp aa (μ b 13) q _ (kg K l.o.dev dc))
  rw[<-t];clear t N C x F L W U V l ac P aB;refine(Cy b u aH.o ax.o _ v a.wait e s aK aq.o J.o.Lb).mono ?_;rintro j ao ⟨a6,rfl,I,X,w⟩;have av:=h_<|J.o.Lc X w;have an:=h_<|A.o.trans<|w.mono<|Le _ _ _ _;have T:=h_ (jV (w':=ao) M.o (λq Q=>by obtain⟨ab,K⟩:=jU M.o q Q;exact w.keep q ab 77 K rfl));have aZ:=A.o.size;have aY:=an.o.size;obtain⟨a1,a4,rfl,_⟩:=i_ I;have aN:=h_ I;clear I X w J A M
  go_wp2_with (at_builtin;refine mU rfl (.tmp 21) (.tmp 25) 31 rfl c.heap.size s.heap.size 77 au _ 4 40 underlying31 aG aS az aU rfl dc _ (a.sec+1) _ rfl T _ e.length _ rfl aN (oC _) ml om om ?_;intro a3 a2 ai aj;obtain⟨a0,a8,rfl,_⟩:=i_ ai)
  go_ret;refine⟨_,rfl,?_,?_,an.o.sL aj λE D=>(T.o.lt E D).1⟩
  .rw[YX];exact ai
  .exact av.o.keep ((lC.refl (B:=0) (λ_ aM=>aM==77) ao).grown aj (λE D=>⟨YG _,jU T E D⟩) λ_ _=>rfl) (λ_=>rfl) (λ_=>rfl) (λ_=>rfl) (λ_=>rfl) (λ_=>rfl)
def mJ(b:Nat->Nat->Int)(k0 c:Nat):a_:=Pl.nj (λa=>(b 0 a).toNat) k0 ((k0+7)/8)++lp ((List.range c).map λa=>(b 2 a).toNat)
def x_(b:Nat->Nat->Int)(k0 a:Nat):(mJ b k0 a).size=(k0+7)/8+2*a:=by unfold mJ;rw[Zd,Pl.ol,p6];simp
def Lk(j I W:Nat)(i:Nat->Nat)(T:f_)(b:j4)(d:b_)(e:j1 O d j I W i T b)(q:∀c,c<4->b.sz c<=60)(u:b.kp 0<=b.sz 0)(A:b.kp 2<=b.sz 2)(k:n4 b.ent):
 Calls prog 59 #[.pointer<|some ⟨j,3,none⟩] d λn ae=>n=.returned (.string<|mJ b.ent (b.kp 0)<|b.kp 2)/\Below d.heap.size d ae:=by
 have K:=q 0 om;have X:=q 2 om;have ab:=e.r6 (i:=0) om;have L:d.cell? ⟨j,5,none⟩=_:=e.r6 (i:=2) om;have P:d.cell? ⟨j,7,none⟩=_:=e.CG (i:=0) om;have Q:d.cell? ⟨j,9,none⟩=_:=e.CG (i:=2) om;have aa:=(e.ent 0 om).lt;have ad:=(e.ent 2 om).lt;let⟨k0,r⟩:=j5<|b.kp 0;let⟨g,p⟩:=j5<|b.kp 2;let⟨v,w⟩:=j5<|b.sz 0;let⟨y,B⟩:=j5<|b.sz 2;have N:Hid (∀c,(λa=>(b.ent 0 a).toNat) c<2):=λc=>by have:=k 0 c;have:=this.2.2 om;simp only;omega
 have E:Hid (∀a,a<k0->d.cell? ⟨i 0,0+a,none⟩=some (.int .i64 ((λa=>(b.ent 0 a).toNat) a:Nat))):=λa h=>by have:=(e.ent 0 om).cell (i:=a) (j:=0) om om;rw[YS,YE]at this;rw[YF,this];have:=(k 0 a).1;simp only;congr 2;omega
 have F:Hid (∀z∈(List.range g).map (λa=>(b.ent 2 a).toNat),z<65536):=λz x=>by obtain⟨c,_,rfl⟩:=aaW.1 x;have:=k 2 c;omega
 have C:Hid (∀a f,((List.range g).map λa=>(b.ent 2 a).toNat)[a]?=some f->d.cell? ⟨i 2,0+a,none⟩=some (.int .i64 (f:Nat))):=λa f h=>by
  have U:a<g:=by have:=(Yr.1 h).1;simpa using this
  rw[Y9,Z5 U]at h;have x:(b.ent 2 a).toNat=f:=by simpa using h
  have:=(e.ent 2 om).cell (i:=a) (j:=0) om om;rw[YS,YE]at this;rw[YF,this];have:=(k 2 a).1;congr 2;omega
 have ac:(lp<|(List.range g).map λa=>(b.ent 2 a).toNat).size<=200:=by rw[p6];simp;omega
 have V:(Pl.nj (λa=>(b.ent 0 a).toNat) k0<|(k0+7)/8).size<=200:=by rw[Pl.ol];omega
 rw[<-r,<-p];rw[<-r]at P u;rw[<-p]at Q A;rw[<-w]at ab u K;rw[<-B]at L A X;have af:(k0:Int)<=(v:Int):=om;have ah:(g:Int)<=(y:Int):=om;unfold mJ;let⟨D,m⟩:=j5<|Pl.nj (λa=>(b.ent 0 a).toNat) k0<|(k0+7)/8;let⟨S,l⟩:=j5<|lp<|(List.range g).map λa=>(b.ent 2 a).toNat;rw[<-m,<-l];rw[<-m]at V;rw[<-l]at ac;have ai:¬9223372036854775807<D.size+S.size:=om;have R:=h_ m;have M:=h_ l;clear e q k r p w B m l
 go_enter func59,ntmps59
 go_wp2_with fail
 go_quiet (fail)
 go_wp2_with fail
 go_quiet (fail)
 go_wp2_with fail
 refine(CK (λa=>(b.ent 0 a).toNat) k0 v (i 0) 0 _ _ N om (by exact aa) (λ_=>rfl) (by intro a h;exact E a h)).mono ?_;rintro n J ⟨rfl,s⟩;have o:=h_<|jZ (YL (Below.refl d.heap.size d) _) s;have aj:=o.o.size;have Y:Hid (∀a f,((List.range g).map λa=>(b.ent 2 a).toNat)[a]?=some f->J.cell? ⟨i 2,0+a,none⟩=some (.int .i64 (f:Nat))):=λa f h=>by rw[(ke o.o).1 (i 2) _ ad];exact C a f h
 rw[<-R.o];clear s
 go_wp2_with fail
 refine(vj _ g y (i 2) 0 _ _ si om F om (λ_=>rfl) Y).mono ?_;rintro n ag ⟨rfl,t⟩;have Z:=h_<|jZ o t;rw[<-M.o];clear t;go_wp2;go_ret;exact⟨rfl,Z⟩
end
section
variable {O:Nat->Bool}
def wj(c b:Nat)(e:a_)(a:b_)(h:a.cell? (μ c b)=some (ν 0))(g:a.cell? (μ c<|b+2)=some (.bool true)):
 Calls prog 56 #[.pointer<|some (μ c b),.string e] a λd f=>d=.returned σ/\f=a:=by
 go_enter func56,ntmps56
 go_wp2;go_ret;exact⟨rfl,rfl⟩
def E6(a:f_)(b:b_):(callFunc 76 #[a]).run prog b=.ok (.enter 76 #[a]) b:=kr
def r_(a b:a_):a_:=a++b.extract 0 (min b.size<|257-a.size)
def CP(e b n:Nat)(g:Nat->Ln)(a:a_)(f:b_)(j:kE f e 116 n 3 λl i=>qk (g l) i)(q:b<n)(D:(g b).bytes.size<=257)(S:a.size<=4194304):
 Calls prog 74 #[.pointer<|some (μ e<|b*3),.string a] f λk h=>k=.returned (.tuple #[])/\kE h e 116 n 3 (λl i=>qk (if l=b then{g b with bytes:=r_ (g b).bytes a}else g l) i)/\kf e f h:=by
 have p:f.cell? (μ e<|b*3+1)=some (.string (g b).bytes):=by have:=j.cell q (j:=1) om;rw[this];simp[qk]
 have v:=j.lt;obtain⟨d,hA⟩:=j5<|(g b).bytes;rw[<-hA]at p D⊢;obtain⟨c,t⟩:∃c:Nat,c=min a.size (257-d.size):=⟨_,rfl⟩;have y:min (a.size:Int) (257-(d.size:Int))=(c:Int):=om;have M:(c:Int)<=(a.size:Int):=om;have Q:c<=257:=om;have w:=h_ j;have K:=h_ hA;have E:=h_ t;have F:=j.frozen<|b*3+1;have N:(a.extract 0 c).size<=257:=by rw[YM];omega
 have R:¬9223372036854775807<d.size+min c a.size:=om;clear j hA t
 go_enter func74,ntmps74
 go_wp2_with fail
 clear y;have A:Hid (Calls prog 76 #[.string<|d++a.extract 0 c] f.drew λk h=>∃o,k=.returned o/\(o=.string (d++a.extract 0 c)/\Below f.drew.heap.size f.drew h)):=(va (d++a.extract 0 c) f.drew (by rw[Zd];omega)).mono λk h r=>⟨_,r.1,rfl,r.2⟩
 go_region_law (first
  |(refine ki rfl 76 #[.tmp 22] #[9] rfl #[.string<|d++a.extract 0 c] (by simp[Act.eval,Act.put]) (E6 ..) _ A ?_;rintro I C ⟨rfl,z⟩;have m:=kx z;have L:C.cell? (μ e<|b*3+1)=some (.string d):=((ke m).1 e _ v).trans p;have s:=h_<|w.o.below m v;have f1:=s.o.frozen<|b*3+1))
 all_goals
  go_end0
  refine⟨rfl,?_,(kf.jX e m).setCell _ _⟩;have B:=r4 (x:={g b with bytes:=r_ d a}) (v:=.string<|d++a.extract 0 c) s.o q (j:=1) om (by simp[qk,r_,E.o]) (λu P J=>by rcases(show u=0\/u=2 by omega)with rfl|rfl<;>rfl)
  exact B
end
section
variable {O:Nat->Bool}
def wk(a:List Nat)(c b:Nat):List Nat:=(a.set c<|a.getD b 0).set b (a.getD c 0)
def wm(c a:Nat)(b:List Nat):Nat:=if 2*a+1+1<c/\b.getD (2*a+1+1) 0<b.getD (2*a+1) 0 then 2*a+1+1 else 2*a+1
def downI:Nat->Nat->Nat->List Nat->List Nat
 |0,_,_,a=>a
 |d+1,c,b,a=>if c<=2*b+1 then a else if a.getD (wm c b a) 0<a.getD b 0 then downI d c (wm c b a) (wk a b<|wm c b a)else a
def VB(a:Nat->u2):Prop:=∀c b,(a c).1<(a b).1↔c<b
def Aj(a:List Nat)(c b:Nat):(wk a c b).length=a.length:=by simp[wk]
def getD_map(c:Nat->u2)(a:List Nat)(b:Nat)(d:b<a.length):(a.map c).getD b (0,0,⟨#[]⟩)=c (a.getD b 0):=by simp[Yt,d]
def qG(c:Nat->u2)(a:List Nat)(b:Nat)(d:b<a.length):o7 (a.map c) b=(c<|a.getD b 0).1:=by unfold o7;rw[getD_map c a b d]
def Ak(b:Nat->u2)(a:List Nat)(d c:Nat)(e:d<a.length)(f:c<a.length):sa (a.map b) d c=(wk a d c).map b:=by unfold sa wk;rw[getD_map b a d e,getD_map b a c f,List.map_set,List.map_set]
def Al{e:Nat->u2}(h:VB e)(b:List Nat)(d c:Nat)(j:d<=b.length)(i:2*c+1<d):pY d c (b.map e)=wm d c b:=by
 unfold pY wm;by_cases g:2*c+1+1<d
 .rw[qG e b _ om,qG e b _ om];by_cases f:b.getD (2*c+1+1) 0<b.getD (2*c+1) 0
  .rw[Ys ⟨g,(h ..).2 f⟩,Ys ⟨g,f⟩]
  .rw[Yo λa=>f<|(h ..).1 a.2,Yo λa=>f a.2]
 .rw[Yo λa=>g a.1,Yo λa=>g a.1]
def CQ(a b:Nat)(c:List Nat)(d:2*b+1<a):wm a b c<a/\b<wm a b c:=by unfold wm;split<;>omega
def Lo{c:Nat->u2}(g:VB c){f h:Nat}{i k:List u2}(b:rk f h i k):∀(is:List Nat) (a:Nat),i=is.map c->f<=is.length->f<=a+h->k=(downI a f h is).map c:=by
 induction b with
 |leaf b=>
  rintro is a rfl _ _
  cases a with
  |zero=>rfl
  |succ a=>unfold downI;rw[Ys b]
 |stop b d=>
  rintro is a rfl e m
  cases a with
  |zero=>rfl
  |succ a=>unfold downI;rw[Yo om];rw[Al g is _ _ e b,qG c is _ (li<|CQ _ _ is b),qG c is _ om]at d;rw[Yo λl=>d<|(g ..).2 l]
 |step b d n j=>
  rintro is a rfl e m
  cases a with
  |zero=>omega
  |succ a=>have o:=CQ _ _ is b;unfold downI;rw[Yo om];rw[Al g is _ _ e b]at d j;rw[qG c is _ om,qG c is _ om]at d;rw[Ys<|(g ..).1 d];exact j _ a (Ak c is _ _ om om) (by rw[Aj];exact e) om
def idxs(a:Nat):Nat->List Nat
 |0=>List.range a
 |j+1=>(downI 8 ((idxs a j).length-1) 0<|wk (idxs a j) 0<|(idxs a j).length-1).dropLast
def CR:∀a,a<9->∀b,b<a->(idxs a b).length=a-b/\downI 8 ((idxs a b).length-1) 0 (wk (idxs a b) 0<|(idxs a b).length-1)=idxs a (b+1)++[b]:=by decide+kernel
def Lp:∀a,a<9->idxs a a=[]:=by decide+kernel
def Lq(a b:Nat)(d:a<=8)(e:b<=a):(idxs a b).length=a-b:=by
 rcases Zj b a with c|c
 .exact(CR a om b c).1
 .obtain rfl:b=a:=om;rw[Lp b om];simp
def VC(d e:List u2):Prop:=∃(c:Nat->u2) (a b:Nat),a<=8/\b<=a/\VB c/\d=(idxs a b).map c/\e=(List.range' b<|a-b).map c
def OF(a b:List u2)(c:VC a b):a.length=b.length:=by obtain⟨h,f,e,g,d,_,rfl,rfl⟩:=c;simp[Lq f e g d]
def Ib(a:Nat->u2)(d:VB a)(b:Nat)(c:b<=8):VC ((List.range b).map a) ((List.range b).map a):=
 ⟨a,b,0,c,om,d,rfl,by rw[List.range_eq_range'];rfl⟩
def Bp{n:Nat}(b a:Nat)(j:Array f_)(J:f_)(e:List u2)(g:b_)(w:e.length=a+1)(X:1<=a)(Q:a<=900)(i:ky O n g b j J e):
 Calls prog 89 #[.iface 160<|.pointer<|some (μ b 14)] g λd A=>∃l h c f,h=f++[c]/\rk a 0 (sa e 0 a) h/\d=.returned (.iface 163<|.agg #[ν c.1,ν c.2.1,.string c.2.2])/\ky O n A b (j.setIfInBounds 14 l) l f/\lC n (uZ O b) g A:=by
 obtain⟨V,p,rfl,T,_,_,_⟩:=o8 i.own<|sN e 0 om;have o:=i.cell;have E:=EN b _ p _ g o;have B:=uA b _ p _ g o;have I:=h_<|uE i.own (0:Int) (a:Int) 0 a rfl rfl om om om;have M:=h_ i;have Y:(e.length:Int)-1=(a:Int):=om;have m:=h_ w;clear w;clear i
 go_enter func89,ntmps89
 go_wp2_with fail
 refine(r5 _ _ _ _).mono ?_;rintro d S ⟨rfl,rfl⟩
 go_wp2_with fail
 apply I.o.mono;rintro d W ⟨rfl,r,u⟩;let⟨v,y⟩:=M.o.uB (mN e 0 a).symm r u;have D:=h_ v;have F:=h_ y;clear r u v y E B o
 go_wp2_with fail
 refine(Lm b 0 a j _ (sa e 0 a) _ D (by rw[mN,m.o];omega) (by rw[mN,m.o];omega) om).mono ?_;rintro d Z ⟨aa,h,rfl,s,k,q,x⟩;have U:=K1<|some (μ b 14);have K:=h_ q;have N:=h_<|F.o.trans x;have C:=h_ s;rw[mN,m.o]at k;obtain⟨f,c,rfl⟩:∃f c,h=f++[c]:=⟨h.dropLast,h.getLast (by intro d;rw[d]at k;simp at k),(List.dropLast_concat_getLast _).symm⟩;clear q x s
 go_wp2_with fail
 refine(z7 b a j _ f c _ (by simp at k;omega) om K).mono ?_;rintro d R ⟨l,rfl,t,z⟩;have P:=h_ t;have L:=h_<|N.o.trans z;clear t z;go_wp2;go_ret;exact⟨_,_,c,f,rfl,C,rfl,P,L⟩
def CS(b a:Nat)(d:0<a):List.range' b a=b::List.range' (b+1) (a-1):=by obtain⟨c,rfl⟩:∃c,a=c+1:=⟨a-1,om⟩;rfl
def Lt{B:Nat}(i:Nat):Ti O B i VC:=by
 rintro e L K q w x ⟨f,b,a,t,M,o,rfl,g⟩ m
 have A:a<b:=by
  rcases Zj a b with e|e
  .exact e
  .have:b-a=0:=by omega
   rw[this]at g;simp at g
 rw[CS a (b-a)<|by omega]at g;obtain⟨rfl,rfl⟩:=List.cons.inj g;let⟨J,r⟩:=CR b (by omega) a A;rcases Zj (b-a) 2 with l|l
 .have I:b-a=1:=by omega
  have v:(idxs b a).length=1:=by omega
  have s:downI 8 0 0 (wk (idxs b a) 0 0)=idxs b (a+1)++[a]:=by rw[<-r,v]
  match hi:idxs b a,v with
  |[d],_=>
   rw[hi]at s;have c:[d]=idxs b (a+1)++[a]:=s
   have n:idxs b (a+1)=[]/\d=a:=by
    match e:idxs b (a+1)with
    |[]=>rw[e]at c;exact⟨rfl,by simpa using c⟩
    |_::_=>rw[e]at c;simp at c
   rw[hi]at m;obtain⟨p,rfl⟩:=n;refine(Cx i q w (f d) x m).mono λy F ⟨h,l,j,k⟩=>⟨h,[],l,⟨f,b,d+1,t,by omega,o,by rw[p];rfl,by rw[show b-d-1=b-(d+1)by omega]⟩,j,k⟩
 .refine(Bp i (b-a-1) q w _ x (by simp;omega) (by omega) (by omega) m).mono ?_;rintro y F ⟨h,N,E,D,z,u,C,j,k⟩;rw[Ak f _ _ _ (by omega) (by omega)]at u;have c:=Lo o u _ 8 rfl (by rw[Aj];omega) (by omega);rw[show b-a-1=(idxs b a).length-1 by omega,r,ZI,z]at c;let⟨n,p⟩:=List.append_inj' c rfl;obtain rfl:E=f a:=by simpa using p
  exact⟨h,D,C,⟨f,b,a+1,t,by omega,o,n,by rw[show b-a-1=b-(a+1)by omega]⟩,j,k⟩
end
def p7(b:Nat)(a:a_):a_:=(⟨#[UInt8.ofNat b]⟩++a)++⟨#[UInt8.ofNat<|Pl.wb ((⟨#[UInt8.ofNat b]⟩++a:a_).data.toList)%256,UInt8.ofNat<|Pl.wb ((⟨#[UInt8.ofNat b]⟩++a:a_).data.toList)/256]⟩
def zu(i h t s u:Nat)(b:a_)(w:Nat->Ln)(c:b_)(l:kE c i 116 t 3 λa j=>qk (w a) j)(x:h<t)(o:(w h).kind=1)(C:u<256)(E:b.size<=253):
 Calls prog 82 #[.pointer<|some (μ i<|h*3),.agg #[ν s,ν u,.string b]] c λe y=>e=.returned (.string<|p7 u b)/\Below c.heap.size c y:=by
 have B:c.cell? (μ i<|h*3)=some (ν 1):=by have:=l.cell x (j:=0) om;rw[YE]at this;rw[this];simp[qk,o]
 have F:=l.lt;refine SK ?_;intro c1 ib ie;refine Kj ?_;intro dC;let⟨n,f⟩:=j5<|(⟨#[UInt8.ofNat u]⟩:a_)++b;let⟨d,hc⟩:=j5<|Pl.wb n.data.toList;have A:d<65536:=by rw[hc];exact Pl.EE _
 let⟨v,m⟩:=j5<|(c.alloc<|.cells #[ν s,ν u,.string b] 94).alloc<|.cells #[.int .u8 (u:Nat)] 5;have js:Hid<|Below c.heap.size c v:=by rw[m];exact jT (jT (Below.refl c.heap.size c) _) _
 have r:p7 u b=n++⟨#[UInt8.ofNat<|d%256,UInt8.ofNat<|d/256]⟩:=by unfold p7;rw[<-f,<-hc]
 have jt:=h_ r;have HC:=h_ hc;rw[<-f]at dC;have z:=KS;have D:IntKind.u8.wrap (d:Int)=((d%256:Nat):Int):=by rw[aaf];omega
 clear l o r hc
 go_enter func82,ntmps82
 go_wp2_with fail
 rw[<-m,<-f];clear m f;refine(HP n v ml).mono ?_;exact Rz
def E7(g a e f c:Nat)(b:a_)(d:Nat->Ln)(m:a<e)(l:(d a).kind=1)(i:c<256)(h:b.size<=253):x7 g a e f c b d (p7 c b):=λj k=>zu g a e f c b d j k m l i h
def CU(c b:Nat)(a:b_)(f:a.cell? (μ c b)=some (ν 1)):Calls prog 78 #[.pointer<|some (μ c b),ν 0] a λd e=>d=.returned (.bool true)/\e=a:=by
 go_enter func78,ntmps78
 go_wp2;go_ret;exact⟨rfl,rfl⟩
def CV(d c:Nat)(b:Int)(a:b_)(h:a.cell? (μ d c)=some (ν 1))(f:b≠0):Calls prog 78 #[.pointer<|some (μ d c),ν b] a λe g=>e=.returned (.bool false)/\g=a:=by
 have i:(b==0)=false:=by rw[aaS];exact f
 go_enter func78,ntmps78
 go_wp2;go_ret;exact⟨rfl,rfl⟩
def p8(a:Pl.mW):Bool:=decide (0<a.many)&&decide (a.fn≠23)
def x'(i:a_)(a:Pl.mW)(h:f_)(f:Nat)(c:b_):Calls prog 79 #[qn i a h f] c λe j=>e=.returned (.bool<|p8 a)/\Below c.heap.size c j:=by
 unfold qn p8;by_cases b:0<a.many
 .have k:decide ((0:Int)<(a.many:Int))=true:=so;by_cases d:a.fn=23
  .have g:((a.fn:Int)==23)=true:=nY d
   go_enter func79,ntmps79
   go_wp2;go_ret;exact⟨by simp[b,d],jT br _⟩
  .have g:((a.fn:Int)==23)=false:=nU;have l:¬(a.fn:Int)=23:=om
   go_enter func79,ntmps79
   go_wp2;go_ret;exact⟨by simp[b,d,l],jT br _⟩
 .have k:decide ((0:Int)<(a.many:Int))=false:=so
  go_enter func79,ntmps79
  go_wp2;go_ret;exact⟨by simp[b],jT br _⟩
def Ic(b:a_):∃n o,Pl.lj b n o:=by
 by_cases c:0<b.size/\b.size<=253
 .rcases ZA (Pl.j2 b 0=1)with e|e
  .rcases ZA (Pl.pP 2000 b)with a|a
   .exact⟨_,_,.inr ⟨c,.inl ⟨e,.inl ⟨a,rfl,rfl⟩⟩⟩⟩
   .exact⟨_,_,.inr ⟨c,.inl ⟨e,.inr ⟨a,rfl,rfl⟩⟩⟩⟩
  rcases ZA (Pl.j2 b 0=2)with l|l
  .rcases ZA (Pl.pP 2000 b)with a|a
   .exact⟨_,_,.inr ⟨c,.inr<|.inl ⟨l,.inl ⟨a,rfl,rfl⟩⟩⟩⟩
   .exact⟨_,_,.inr ⟨c,.inr<|.inl ⟨l,.inr ⟨a,rfl,rfl⟩⟩⟩⟩
  rcases ZA (Pl.j2 b 0=3)with k|k
  .rcases ZA (Pl.pP 125 b)with a|a
   .exact⟨_,_,.inr ⟨c,.inr<|.inr<|.inl ⟨k,.inl ⟨a,rfl,rfl⟩⟩⟩⟩
   .exact⟨_,_,.inr ⟨c,.inr<|.inr<|.inl ⟨k,.inr ⟨a,rfl,rfl⟩⟩⟩⟩
  rcases ZA (Pl.j2 b 0=4)with h|h
  .rcases ZA (Pl.pP 125 b)with a|a
   .exact⟨_,_,.inr ⟨c,.inr<|.inr<|.inr<|.inl ⟨h,.inl ⟨a,rfl,rfl⟩⟩⟩⟩
   .exact⟨_,_,.inr ⟨c,.inr<|.inr<|.inr<|.inl ⟨h,.inr ⟨a,rfl,rfl⟩⟩⟩⟩
  rcases ZA (Pl.j2 b 0=5)with g|g
  .rcases ZA (Pl.tJ b)with a|a
   .exact⟨_,_,.inr ⟨c,.inr<|.inr<|.inr<|.inr<|.inl ⟨g,.inl ⟨a,rfl,rfl⟩⟩⟩⟩
   .exact⟨_,_,.inr ⟨c,.inr<|.inr<|.inr<|.inr<|.inl ⟨g,.inr ⟨a,rfl,rfl⟩⟩⟩⟩
  rcases ZA (Pl.j2 b 0=6)with f|f
  .rcases ZA (b.size=5)with a|a
   .exact⟨_,_,.inr ⟨c,.inr<|.inr<|.inr<|.inr<|.inr<|.inl ⟨f,.inl ⟨a,rfl,rfl⟩⟩⟩⟩
   .exact⟨_,_,.inr ⟨c,.inr<|.inr<|.inr<|.inr<|.inr<|.inl ⟨f,.inr ⟨a,rfl,rfl⟩⟩⟩⟩
  rcases ZA (Pl.j2 b 0=15)with i|i
  .rcases ZA (Pl.p3 b)with a|a
   .exact⟨_,_,.inr ⟨c,.inr<|.inr<|.inr<|.inr<|.inr<|.inr<|.inl ⟨i,.inl ⟨a,rfl,rfl⟩⟩⟩⟩
   .exact⟨_,_,.inr ⟨c,.inr<|.inr<|.inr<|.inr<|.inr<|.inr<|.inl ⟨i,.inr ⟨a,rfl,rfl⟩⟩⟩⟩
  rcases ZA (Pl.j2 b 0=16)with m|m
  .rcases ZA (Pl.p4 b)with a|a
   .exact⟨_,_,.inr ⟨c,.inr<|.inr<|.inr<|.inr<|.inr<|.inr<|.inr<|.inl ⟨m,.inl ⟨a,rfl,rfl⟩⟩⟩⟩
   .exact⟨_,_,.inr ⟨c,.inr<|.inr<|.inr<|.inr<|.inr<|.inr<|.inr<|.inl ⟨m,.inr ⟨a,rfl,rfl⟩⟩⟩⟩
  rcases ZA (Pl.j2 b 0=22)with d|d
  .rcases ZA (b.size=7)with a|a
   .exact⟨_,_,.inr ⟨c,.inr<|.inr<|.inr<|.inr<|.inr<|.inr<|.inr<|.inr<|.inl ⟨d,.inl ⟨a,rfl,rfl⟩⟩⟩⟩
   .exact⟨_,_,.inr ⟨c,.inr<|.inr<|.inr<|.inr<|.inr<|.inr<|.inr<|.inr<|.inl ⟨d,.inr ⟨a,rfl,rfl⟩⟩⟩⟩
  rcases ZA (Pl.j2 b 0=23)with j|j
  .rcases ZA (Pl.tK b)with a|a
   .exact⟨_,_,.inr ⟨c,.inr<|.inr<|.inr<|.inr<|.inr<|.inr<|.inr<|.inr<|.inr<|.inl ⟨j,.inl ⟨a,rfl,rfl⟩⟩⟩⟩
   .exact⟨_,_,.inr ⟨c,.inr<|.inr<|.inr<|.inr<|.inr<|.inr<|.inr<|.inr<|.inr<|.inl ⟨j,.inr ⟨a,rfl,rfl⟩⟩⟩⟩
  exact⟨_,_,.inr ⟨c,.inr<|.inr<|.inr<|.inr<|.inr<|.inr<|.inr<|.inr<|.inr<|.inr ⟨⟨e,l,k,h,g,f,i,m,d,j⟩,rfl,rfl⟩⟩⟩
 .exact⟨Pl.j6,3,.inl ⟨om,rfl,rfl⟩⟩
open Classical in
def kv (s:a_):Pl.mW×Nat:=if h:∃p:Pl.mW×Nat,Pl.lj s p.1 p.2 then Classical.choose h else(Pl.j6,3)
def nz(a:a_):Pl.lj a (kv a).1 (kv a).2:=by let⟨f,d,e⟩:=Ic a;have c:∃b:Pl.mW×Nat,Pl.lj a b.1 b.2:=⟨(f,d),e⟩;unfold kv;rw[abw c];exact abK c
def ya(b:a_):∀(c a:Nat),∃d:List<|Nat×Nat×a_,(Pl.w4 b c a).1=d.flatMap Pl.zf/\(∀g∈d,Pl.Oa g)/\(a<=b.size->d.length*8+a<=b.size):=by
 intro c
 induction c with
 |zero=>intro a;exact⟨[],rfl,si,si⟩
 |succ c j=>
  intro a;by_cases e:Pl.ko b a=0
  .rw[Pl.ut b _ a e];exact⟨[],rfl,si,si⟩
  .let⟨d,h,k,l⟩:=j<|a+Pl.ko b a;have n:=Pl.q_ b a e;rw[Pl.uu b c a e];refine⟨(256*Pl.j2 b a+Pl.j2 b (a+1),Pl.j2 b<|a+6,b.extract (a+7)<|a+Pl.ko b a)::d,?_,λg f=>?_,λ_=>?_⟩
   .show Pl.wZ b a (Pl.ko b a)++(Pl.w4 b c<|a+Pl.ko b a).1=_;rw[h,ZY];rfl
   .rcases Y7.1 f with rfl|f
    .have o:=Pl.kz b a;have m:=Pl.kz b<|a+1;have i:=Pl.kz b<|a+6;refine⟨by simp only;omega,i,?_,?_⟩
     .simp only[YM];omega
     .simp only[YM];omega
    .exact k g f
   .have:=l om;simp only[YA];omega
structure kQ(D:j4):Prop where
 sz:∀i,i<4->D.sz i<=60
 ent:n4 D.ent
 xe:D.kp 0<=D.sz 0
 xg:D.kp 2<=D.sz 2
 unit:1<=D.unit/\D.unit<=247
 batch:1<=D.batch/\D.batch<=8
 nl:1<=D.nl/\D.nl<=4
 lat:D.lat<=1
 stamp:D.stamp<=3
 sec:D.sec=max 1 (((D.kp 0+7)/8+2*D.kp 2+61)/62)
 qq:D.wait.length<D.batch
 uns:D.uns<D.batch
 w0:D.uns=0->D.wait=[]
 GN:D.wait.Pairwise λa b=>a.1<b.1
 top:∀y∈D.wait,y.1<=(D.arr:Int)
def j'(a:j4):j4×List Ac:=
 if a.uns=0 then(a,[])else({a with lat:=(a.lat+1)%2,stamp:=a.stamp%3+1,uns:=0,wait:=[]},my a.sec ((a.lat+1)%2) (a.stamp%3+1) (mJ a.ent (a.kp 0)<|a.kp 2)++a.wait.map kS)
def Sg(c d b:Nat)(a:a_):a_:=if c=1 then p7 b a else rh d b a
def mf (D:j4)(i m:Nat)(s:a_):Int×Int×a_:=(((D.arr+1:Nat):Int),((i:Nat):Int),Sg (D.ln i).kind m D.unit<|vm D s (kv s).1 (kv s).2)
def ks (D:j4)(s:a_):j4:={D with arr:=D.arr+1,ent:=tn D (kv s).1 (kv s).2,uns:=if tj D (kv s).1 (kv s).2=true then D.uns+1 else D.uns}
def Ie(a:j4):j4×List Ac:=if a.batch<=a.uns then j' a else(a,[])
def kD (D:j4)(i m u:Nat)(s:a_):j4×List (Int×Int×Int×a_):=
 if u≠D.unit then(if (D.ln i).kind=1/\u=0/\p8 (kv s).1=true then Ie (ks D s)else(D,[]))
 else if (ks D s).uns=0 then(ks D s,[kS<|mf D i m s])
 else if D.batch<=D.wait.length+1\/D.batch<=(ks D s).uns then j' {ks D s with wait:=D.wait++[mf D i m s]}
 else({ks D s with wait:=D.wait++[mf D i m s]},[])
def CW(b:j4)(e:a_)(a:Pl.mW)(f:Nat)(h:kQ b)(i:Pl.lj e a f)(j:e.size<=253):(vm b e a f).size<=253:=by
 unfold vm;split
 .rename_i c;rcases tR i with⟨rfl,g⟩|⟨m,_⟩
  .have k:a.l7+a.cnt<=b.sz a.kA:=by
    unfold rR at c;rw[Yo om]at c;by_cases d:hasB b a=true
    .unfold hasB at d;simp only[Zw,Zq]at d;exact d.1
    .rw[Yo d]at c;omega
   have:=h.sz a.kA g.kA;unfold oH;split
   .exact j
   .split
    .rw[YM];omega
    .unfold Ai;rw[Zd];have l:=tS (mh b a) a om;show 2+_<=253;omega
  .unfold rR at c;rw[Ys om]at c;omega
 .show 2<=253;omega
def E8(b:List Sv)(h:b.Pairwise λa f=>a.1<f.1)(l:b.length<=8):VC b b:=by
 let⟨g,i⟩:∃g:Int,∀k∈b,k.1<=g:=by
  clear h l
  induction b with
  |nil=>exact⟨0,si⟩
  |cons a b p=>
   let⟨g,i⟩:=p;refine⟨max a.1 g,λk j=>?_⟩;rcases Y7.1 j with rfl|j
   .omega
   .have:=i k j;omega
 have o:VB (λa=>if h:a<b.length then b[a]else(g+1+(a:Int),0,⟨#[]⟩)):=by
  intro a f;simp only;by_cases c:a<b.length<;>by_cases d:f<b.length
  .rw[abw c,abw d];constructor
   .intro m;rcases ab5 a f with e|e|e
    .exact e
    .subst e;omega
    .have:=aaQ.1 h f a d c e;omega
   .intro m;exact aaQ.1 h a f c d m
  .rw[abw c,dif_neg d];have:=i _ (aan c);simp only;omega
  .rw[dif_neg c,abw d];have:=i _ (aan d);simp only;omega
  .rw[dif_neg c,dif_neg d];simp only;omega
 have n:(List.range b.length).map (λa=>if h:a<b.length then b[a]else(g+1+(a:Int),0,⟨#[]⟩))=b:=by
  apply List.ext_getElem
  .simp
  .intro r e q;simp[q]
 have:=Ib _ o b.length l;rw[n]at this;exact this
section
variable {O:Nat->Bool}
def E9(c h i:Nat)(j:Nat->Nat)(g:f_)(a:b_)(d:j4)(b:j1 O a c h i j g d)(f:d.uns=0):Calls prog 24 #[π c] a λe k=>e=.returned σ/\k=a:=by
 let⟨p,n,m,q,o,l,s,t,r⟩:=b.cells;rw[f]at l;clear b
 go_enter func24,ntmps24
 go_wp2;go_ret;exact⟨rfl,rfl⟩
structure xh(D:j4):Prop where
 sz:∀i,i<4->D.sz i<=60
 ent:n4 D.ent
 xe:D.kp 0<=D.sz 0
 xg:D.kp 2<=D.sz 2
 lat:D.lat<=1
 stamp:D.stamp<=3
 sec:D.sec=max 1 (((D.kp 0+7)/8+2*D.kp 2+61)/62)
 qq:D.wait.length<=8
 uns:D.uns<=8
 GN:D.wait.Pairwise (λa b=>a.1<b.1)
def kQ.fl{b:j4}(a:kQ b):xh b:=⟨a.sz,a.ent,a.xe,a.xg,a.lat,a.stamp,a.sec,by have:=a.qq;have:=a.batch;omega,by have:=a.uns;have:=a.batch;omega,a.GN⟩
def AU(c e f:Nat)(g:Nat->Nat)(j:f_)(a:j4)(h:b_)(i:j1 O h c e f g j a)(b:xh a):
 Calls prog 24 #[π c] h λd k=>∃m p,d=.returned m/\k.ownsRow h.heap.size 77 4 m (j' a).2.length ((j' a).2.flatMap ku)/\(a.uns≠0->p=σ)/\j1 O k c e f g p (j' a).1/\lC a.base (lS O c e f g) h k:=by
 by_cases l:a.uns=0
 .have d:j' a=(a,[]):=by unfold j';rw[Ys l]
  rw[d];refine(E9 c e f g j h a i l).mono ?_;rintro d k ⟨n,rfl⟩;exact⟨_,j,n,Yq ..,λi=>absurd l i,i,lC.refl ..⟩
 .have d:j' a=({a with lat:=(a.lat+1)%2,stamp:=a.stamp%3+1,uns:=0,wait:=[]},my a.sec ((a.lat+1)%2) (a.stamp%3+1) (mJ a.ent (a.kp 0)<|a.kp 2)++a.wait.map kS):=by unfold j';rw[Yo l]
  rw[d];have o:=x_ a.ent (a.kp 0)<|a.kp 2;have x:=b.sz 0 om;have B:=b.sz 2 om;have k0:=b.xe;have y:=b.xg;have A:=b.sec;have u:=b.qq;have z:=b.uns;refine(Ia c e f ((a.lat+1)%2) (a.stamp%3+1) g j a (mJ a.ent (a.kp 0)<|a.kp 2) VC OF (Lt c) a.wait h i om (λr s=>Lk c e f g j a r s b.sz b.xe b.xg b.ent) (p1 o) om (λC w=>by rw[o];omega) b.lat b.stamp rfl rfl (E8 _ b.GN u) om).mono ?_;rintro d k ⟨m,n,q,v,hF⟩;refine⟨m,_,n,?_,λ_=>rfl,v,hF⟩;have t:(my a.sec ((a.lat+1)%2) (a.stamp%3+1) (mJ a.ent (a.kp 0)<|a.kp 2)++a.wait.map kS).length=a.sec+1+a.wait.length:=by rw[Yv,vk,Zx]
  rw[t];exact q
def rl(b:j4)(a:xh b):(j' b).2.length<=20:=by
 unfold j';split
 .simp
 .have g:=a.sz 0 om;have c:=a.sz 2 om;have k0:=a.xe;have e:=a.xg;have f:=a.sec;have d:=a.qq;rw[Yv,vk,Zx];omega
def Lu{a:j4}{s:a_}(b:kQ a):(ks a s).uns<=a.batch:=by show(if tj a (kv s).1 (kv s).2=true then a.uns+1 else a.uns)<=a.batch;have:=b.uns;split<;>omega
def sX{b:j4}{s:a_}(a:kQ b):xh (ks b s):=
 ⟨a.sz,Bo a.ent<|nz s,a.xe,a.xg,a.lat,a.stamp,a.sec,by show b.wait.length<=8;have:=a.qq;have:=a.batch;omega,by have:=Lu (s:=s) a;have:=a.batch;omega,a.GN⟩
def Bq{b:j4}{i m:Nat}{c:a_}(a:kQ b)(h:0<(ks b c).uns):xh {ks b c with wait:=b.wait++[mf b i m c]}:=by
 refine⟨a.sz,Bo a.ent<|nz c,a.xe,a.xg,a.lat,a.stamp,a.sec,?_,?_,?_⟩
 .show(b.wait++[mf b i m c]).length<=8;have:=a.qq;have:=a.batch;simp;omega
 .have:=Lu (s:=c) a;have:=a.batch;show(ks b c).uns<=8;omega
 .show(b.wait++[mf b i m c]).Pairwise (λd e=>d.1<e.1);rw[abP];refine⟨a.GN,si,λd f e g=>?_⟩;rw[Y'.1 g];have:=a.top d f;show d.1<((b.arr+1:Nat):Int);omega
def vn{a:j4}(b:xh a)(f:1<=a.unit/\a.unit<=247)(e:1<=a.batch/\a.batch<=8)(c:1<=a.nl/\a.nl<=4)(d:a.uns≠0):kQ (j' a).1:=by unfold j';rw[Yo d];exact⟨b.sz,b.ent,b.xe,b.xg,f,e,c,by show(a.lat+1)%2<=1;omega,by show a.stamp%3+1<=3;omega,b.sec,by show 0<a.batch;omega,by show 0<a.batch;omega,λ_=>rfl,si,si⟩
def yc{D:j4}(ay:kQ D)(b a f:Nat)(s:a_):kQ (kD D b a f s).1:=by
 have i:=ay.batch;have j:=ay.qq;have k:=ay.uns;unfold kD;split
 .split
  .unfold Ie;have e:=sX (s:=s) ay;split
   .rename_i d;exact vn e ay.unit ay.batch ay.nl (by have:D.batch<=(ks D s).uns:=d;omega)
   .rename_i d;refine⟨ay.sz,e.ent,ay.xe,ay.xg,ay.unit,ay.batch,ay.nl,ay.lat,ay.stamp,ay.sec,ay.qq,by have:¬D.batch<=(ks D s).uns:=d;show(ks D s).uns<D.batch;omega,λh0=>ay.w0 ?_,ay.GN,λy ax=>?_⟩
    .exact RD
    .exact KF
  .exact ay
 .split
  .rename_i h0;have h:D.uns=0:=by exact RD
   refine⟨ay.sz,Bo ay.ent<|nz s,ay.xe,ay.xg,ay.unit,ay.batch,ay.nl,ay.lat,ay.stamp,ay.sec,ay.qq,?_,λ_=>ay.w0 h,ay.GN,λy ax=>?_⟩
   .show(ks D s).uns<D.batch;rw[h0];omega
   .exact KF
  .rename_i h0;have c:=Bq (i:=b) (m:=a) ay (show 0<(ks D s).uns by omega);split
   .exact vn c ay.unit ay.batch ay.nl h0
   .rename_i l;refine⟨ay.sz,c.ent,ay.xe,ay.xg,ay.unit,ay.batch,ay.nl,ay.lat,ay.stamp,ay.sec,?_,by show(ks D s).uns<D.batch;omega,λM=>absurd M h0,c.GN,λy ax=>?_⟩
    .show(D.wait++[mf D b a s]).length<D.batch;simp;omega
    .have g:=ax;rcases ZU.1 g with ax|ax
     .exact KF
     .rw[Y'.1 ax];exact Int.le_refl _
end
