import Derived.Test.YtcpldcojckhapaaGreatV5
import Derived.Test.YtcpldcojckhapaaGreatV6
import Derived.Test.YtcpldcojckhapaaGreatV9
set_option maxRecDepth 100000
set_option maxHeartbeats 16000000
set_option linter.all false
noncomputable section
namespace Go.Proofs.YtcpldcojckhapaaGreat
open Go.Proofs.Tryz Go.RowKit
def Src(h:b_)(d:f_)(b:Nat)(e:List f_):Prop:=(d=σ/\b=0/\e=[])\/∃(a:Addr) (g:Nat),d=.slice (some a) b g/\∀c f,e[c]?=some f->h.cell? (a.add c)=some f
theorem uF{g:e_}{w:b_}{m:Array Oper}{rest:List Oper}{h:Oper}{d:Act}{l:Exit->Act->b_->Prop}(ht:h.guard=none)(s x:Operand)(t:d_)
 (aO:h.op=.call {callee:=.builtin .append,args:=#[s,x],argTypes:=#[t,t]})
 (base:Nat) (e:d_) (i:TypeInfo) (j:f_) (cu bytes:Nat) (bQ:g.underlying t=some (.slice e)) (hi:g.info? e=some i) (D:i.zero=some j)
 (q:i.size=cu) (A:i.bytes=bytes) (N:j.cells.size=cu) (r:0<cu)
 (v:f_) (n:Nat) (xs:List f_) (hs:d.eval s=v) (hown:w.ownsRow base e cu v n xs)
 (k:f_) (a:Nat) (b:List f_) (hx:d.eval x=k) (J:Src w k a b) (F:b.length=a*cu) (C:∀I∈b,I.oneCell'=true)
 (K:n+a<=maxLen) (z:(n+a)*bytes<=140737488355328) (L:base<=w.heap.size)
 (M:∀f c,c.ownsRow base e cu f (n+a) (xs++b)->w.grownBy c v.ownBlock->wpList g m l rest (d.put h.dst f) c):wpList g m l (h::rest) d w:=by
 rcases J with⟨rfl,rfl,rfl⟩|⟨u,o,rfl,E⟩
 .exact QT
 .exact Zl w ht s x t aO base e i j cu bytes bQ hi D q A N r v n xs hs hown u a o b hx F E C K z L (λf c y B _=>M f c y B)
def Src.nD{d n:b_}{k:f_}{h:Nat}{l:List f_}(i:Src d k h l)(o:∀a e,k=.slice (some a) h e->l≠[]->a.block<d.heap.size)(s:Below d.heap.size d n):Src n k h l:=by
 rcases i with i|⟨a,e,rfl,p⟩
 .exact .inl i
 .refine .inr ⟨a,e,rfl,λb r g=>?_⟩;have:=o a e rfl (λf=>by rw[f]at g;simp at g);obtain⟨c,j,m⟩:=a;have f:((⟨c,j,m⟩:Addr).add b).block=c:=by by_cases t:b=0<;>simp[Addr.add,t]
  have q:n.heap[((⟨c,j,m⟩:Addr).add b).block]?=d.heap[((⟨c,j,m⟩:Addr).add b).block]?:=by rw[f];exact s.block c this
  exact(ZL q).trans (p b r g)
def l_{a:b_}{b f i:Nat}{d:d_}{g:f_}{e:List f_}(h:a.ownsRow b d f g i e)(c m:Nat)(l:f_)(n:c<b):(a.setCell (μ c m) l).ownsRow b d f g i e:=
 jV h (λj k=>Yp a _ _ _ (by have:=(h.lt j k).1;show j≠c;omega))
def ti(x z s y j u g r:Int)(b d:Nat)(m:Option Addr)(w:List Int)(a:b_)(F:w.length=b)(a9:b<=1900000)(ae:Src a (.slice m b d) b<|w.flatMap ka)(S:∀D,m=some D->0<b->D.block<a.heap.size):
 Calls prog 15 #[.agg #[ν x,ν z,ν s,ν y,ν j,ν u,ν g,.slice m b d,ν r]] a λk av=>∃Z ab,k=.returned (.agg #[ν x,ν z,ν s,ν y,ν j,ν u,ν g,.slice (some (μ Z 0)) b ab,ν r])/\av.ownsRow a.heap.size 3 1 (.slice (some (μ Z 0)) (b+1) ab) (b+1) ((w++[70000]).flatMap ka)/\Below a.heap.size a av:=by
 let⟨V,ah,ap,ad,au⟩:=Y4 Tryz.qj;let⟨al,aa,aO,P,ao⟩:=rb a x z s y j u g r<|.slice m b d;let⟨c,i⟩:=j5<|al.alloc<|.cells #[ν 0,ν 0,ν 0,ν 0,ν 0,ν 0,ν 0,σ,ν 0] 39;have I:Below a.heap.size a c:=by rw[i];exact jT P _
 have a5:c.heap.size=a.heap.size+2:=by rw[i];simp;omega
 have K:c.heap[a.heap.size]?=some (.cells #[ν x,ν z,ν s,ν y,ν j,ν u,ν g,.slice m b d,ν r] 39):=by rw[i,YQ _ _ om];exact ao
 have X:c.heap[a.heap.size+1]?=some (.cells #[ν 0,ν 0,ν 0,ν 0,ν 0,ν 0,ν 0,σ,ν 0] 39):=by rw[i,<-aO];exact YO al _
 have aS:=h_ (ae.nD (λD j k aK=>S D (by simp at k;exact k.1)<|Z0 λaM=>aK (by rw[YV<|F.trans aM];rfl)) I);let⟨ai,T,Q,ag,U,W,ar,am,aj⟩:=kH K;have J:=h_ I;have aQ:=h_ K;have az:=h_ X;have a':=h_ F;have aI:Hid<|(w.flatMap ka).length=b*1:=by show _=_;rw[mn ka 1 λ_=>rfl,F]
 clear ao P ae S I K X F
 go_enter func15,ntmps15
 go_upto_region 1 with fail
 rw[<-aa,<-i];clear aa i
 go_upto_region 3 with(at_builtin;refine uF rfl (.tmp 4) (.tmp 6) 28 rfl c.heap.size 3 V (ν 0) 1 8 underlying28 ah ap ad au rfl dc σ 0 [] rfl uY (.slice m b d) b (w.flatMap ka) rfl aS aI (m4 _) ml om kM ?_;intro ay C O n)
 have A:Below c.heap.size c C:=⟨n.os,n.tape,n.output,n.size,λd Y=>n.block d Y<|by simp[Value.ownBlock]⟩;rw[YF,YT]at O;have af:=h_ O;have aE:=A.size;have aq:=(A.block a.heap.size om).trans aQ;have R:=h_ A;clear O n ai T Q ag U W ar am aj A
 go_upto_region 4 with(at_builtin;refine Zl _ rfl (.tmp 8) (.tmp 9) 28 rfl c.heap.size 3 V (ν 0) 1 8 underlying28 ah ap ad au rfl dc ay b _ rfl (af.o.alloc _) (μ C.heap.size 0) 1 1 [ν 70000] rfl rfl (λf g E=>by match f,E with|0,E=>(simp at E;subst E;simp[Addr.add])) (by intro g an;simp at an;subst an;rfl) ml om so ?_;intro aT L o l _)
 have t:Below c.heap.size C L:=(jT (Below.refl _ C) _|>.mono aE).trans ⟨l.os,l.tape,l.output,l.size,λd Y=>l.block d so (λk=>by have:=(af.o.lt d k.symm).1;omega)⟩
 obtain⟨aX,h,rfl,ac⟩:=i_ o;obtain⟨p,rfl,bb,_⟩:=ac 0 om;have a3:c.heap.size<=p:=(o.lt p rfl).1
 have a7:b+1<=h:=by
  rcases o.2 with⟨q,ak⟩|⟨aZ,aC,a6,q,ak,a2,a1,aV,aY,a8⟩
  .exact absurd ak om
  .have:h=aC:=by simp at q;exact q.2
   omega
 have aL:=h_ o;have M:=(t.block a.heap.size om).trans aq;have N:=(t.block (a.heap.size+1) om).trans<|(R.o.block _ om).trans az;have aR:=h_<|J.o.trans<|(R.o.mono J.o.size).trans<|t.mono J.o.size;have a0:=t.size;let⟨ai,T,Q,ag,U,W,ar,am,aj⟩:=kH M;let⟨aw,aP,aG,aH,aB,aJ,aD,aA,ax⟩:=kH N;have aW:∀f,L.frozen? (μ a.heap.size f)=false:=λf=>Y2 _ _ _ _ _ M;have aU:∀f,L.frozen? (μ (a.heap.size+1) f)=false:=λf=>Y2 _ _ _ _ _ N;have a4:(b:Int)<=(h:Int):=om;clear o l ac t aq M N
 go_wp2_with fail
 refine Yx (v:=.agg #[ν x,ν z,ν s,ν y,ν j,ν u,ν g,ω p b h,ν r]) (by simp[results,results15,go_sem,aw,aP,aG,aH,aB,aJ,aD,aA,ax]) rfl ⟨p,h,rfl,?_,?_⟩
 .rw[YX];have aN:=aL;have q:=l_ aN a.heap.size 7 (ω p b h) om;refine j9 (B:=a.heap.size) ?_ (show a.heap.size<=c.heap.size by omega);exact l_ (l_ (l_ (l_ (l_ (l_ (l_ (l_ (l_ q _ _ _ om) _ _ _ om) _ _ _ om) _ _ _ om) _ _ _ om) _ _ _ om) _ _ _ om) _ _ _ om) _ _ _ om
 .have aF:a.heap.size<=a.heap.size:=YC _;have e:a.heap.size<=a.heap.size+1:=om;exact(((((((((aR.o.setCell aF _).setCell e _).setCell e _).setCell e _).setCell e _).setCell e _).setCell e _).setCell e _).setCell e _).setCell e _
structure qs(w w':b_)(kb:Nat)(b b':lu)(v:f_):Prop where
 os:w'.os=w.os
 tape:w'.tape=w.tape
 output:w'.output=w.output
 size:w.heap.size<=w'.heap.size
 keep:∀g,g<w.heap.size->¬b.on kb g->v.ownBlock≠some g->w'.heap[g]?=w.heap[g]?
 wt:∀(g:Nat) (cur:Array f_),w.heap[g]?=some (.cells cur 163)->w'.heap[g]?=w.heap[g]?
 on:∀g,b'.on kb g->b.on kb g\/v.ownBlock=some g\/w.heap.size<=g
def oO.ft{c g:b_}{d:Nat}{f b:lu}{e:f_}(a:oO c g d f b e):qs c g d f b e:=⟨a.os,a.tape,a.output,a.size,λj h i _=>a.keep j h i,a.wt,a.on⟩
def qs.then{n p h:b_}{g:Nat}{k m l:lu}{o:f_}(a:qs n p g k m o)(e:oO p h g m l σ):qs n h g k l o:=by
 refine⟨e.os.trans a.os,e.tape.trans a.tape,e.output.trans a.output,YH a.size e.size,λc d i j=>(e.keep c (Yy d a.size) λq=>?_).trans<|a.keep c d i j,λc f d=>(e.wt c f<|(a.wt c f d).trans d).trans<|a.wt c f d,λc d=>?_⟩
 .rcases a.on c q with b|b|b
  .exact i b
  .exact j b
  .omega
 .rcases e.on c d with b|b|b
  .exact a.on c b
  .simp[Value.ownBlock]at b
  .exact Vu (YH a.size b)
def yg(al aw Y av af ai ar an t0 t1 t2 t3 aj am M Q:Int)(a e i c k s t:Nat)(x:Option Addr)(m:Nat->Int)(u:lu)(j:b_)(N:kP j t k s u)(a9:s<=1850000)(v:qo j x a m)(ao:a<=1800000)
 (p:j.ownsRow t 3 1 (.slice (some (μ c 0)) (a+1) i) (a+1)<|((List.range a).map m++[70000]).flatMap ka) (ab:¬u.on k c):
 Calls prog 50 #[.agg #[ν al,ν aw,ν Y,ν av,ν af,ν ai,ν ar,.slice (some (μ c 0)) a i,ν an],.agg #[ν t0,ν t1,ν t2,ν t3,ν aj,ν am,ν M,.slice x a e,ν Q],π k] j λD ax=>D=.returned (.bool true)/\∃au,kP ax t k (s+2) au/\qs j ax k u au (.slice (some (μ c 0)) (a+1) i):=by
 let⟨aV,S,aY,I,aq⟩:=rb j al aw Y av af ai ar an<|ω c a i;obtain⟨o,aa,bb,B,T⟩:=rb aV t0 t1 t2 t3 aj am M Q<|.slice x a e;have n:=jZ I B;have V:=(B.block j.heap.size om).trans aq
 have bf:a+1<=i:=by
  rcases p.2 with⟨r,y⟩|⟨g,aI,bc,r,y,U,aG,a3,a4,bg⟩
  .exact absurd y om
  .have:i=aI:=by simp at r;exact r.2
   omega
 have ak:=(p.lt c rfl).2;have aT:Hid (∀b,b<a->o.cell? (μ c b)=some (ν<|m b)):=λb A=>by rw[(ke n).1 c b ak];have a5:b<((List.range a).map m++[70000]).length:=so;have:=p.cellAt b om;rw[this,p5 _ b (m b) (by rw[YK<|by simpa using A];simp[A])]
 have a':o.cell? (μ c a)=some (ν 70000):=by rw[(ke n).1 c a ak];have:=p.cellAt a om;rw[this,p5 _ a 70000 (by rw[YP si];simp)]
 have aH:=h_ (λb (A:b<a)=>by
  obtain⟨g,q,r,y,U,aG⟩:=v b A
  exact(⟨g,q,r,((ke n).1 g (q+b) y).trans U⟩:∃g q,x=some (μ g q)/\o.cell? (μ g<|q+b)=some (ν<|m b)))
 let⟨aR,aA,ay,aK,aB,aE,a2,aW,aU⟩:=kH V;let⟨O,ap,ac,ad,X,ae,Z,W,P⟩:=kH T;have aN:=h_<|N.below n;have aM:=h_<|jY p n;have aC:=h_ n;have a8:(a:Int)+1<=(i:Int):=om;have aJ:=h_ ab;rw[aY]at O ap ac ad X ae Z W P;clear aq I T B n V v p N ab
 go_enter func50,ntmps50
 go_upto_region 1 with fail
 rw[<-S,<-aa];clear S aa
 go_wp2_with fail
 go_loopw [9,10] (λok F wr=>∃d z:Nat,d<=a/\F=ν d/\ok=.bool true/\wr=o.drewN z) (λ_ F _=>a-(intOf F).toNat)
 case atStart=>exact⟨0,0,YG _,rfl,rfl,rfl⟩
 case round=>
  obtain⟨d,z,be,rfl,rfl,rfl⟩:=hrel;by_cases L:d<a
  .obtain⟨g,q,rfl,a7⟩:=aH d L;have bd:=aT d L;have bh:(d:Int)<(a:Int):=om;have bi:(d:Int)<(a:Int)+1:=om
   go_wp2_with fail
   go_quiet (fail)
   go_wp2
   go_roundw
   case rel=>exact⟨d+1,z+nq,om,gn,rfl,si⟩
   case measure=>exact mz
  .obtain rfl:d=a:=om;obtain⟨ag,E⟩:=j5<|o.drewN z;have w:Below o.heap.size o ag:=by rw[E];exact YL br _
   have a1:=h_<|aN.o.below w;have aO:=h_<|jY aM w;have aZ:=h_<|jZ aC w;rw[<-E];clear E w aR aA ay aK aB aE a2 aW aU O ap ac ad X ae Z W P
   go_wp2_with fail
   refine(C5 ag t k s u (.slice (some (μ c 0)) (d+1) i) ((List.range d).map m++[70000]) a1.o om (by simpa using aO.o) so (λg aQ=>by
    have:c=g:=by simpa[Value.ownBlock]using aQ
    rw[<-this];exact aJ)).mono ?_
   rintro D aD ⟨rfl,aF,J,K,_,_⟩;have az:=h_ J;have aL:=h_ K;clear J K
   go_wp2_with fail
   refine(yf aD t k (s+1) aF az om).mono ?_;rintro D a6 ⟨rfl,aS,ah,R,_,_⟩;have a0:=h_ ah;have aX:=h_<|aL.o.ft.then R;clear ah R;go_wp2;go_ret;have l:=aX;have f:=aZ;exact⟨rfl,aS,a0,l.os.trans f.os,l.tape.trans f.tape,l.output.trans f.output,YH f.size l.size,λe h ao v=>(l.keep e (Yy h f.size) ao v).trans<|f.block e h,λe aP h=>(l.wt e aP<|(f.block e<|Yn h).trans h).trans<|f.block e<|Yn h,λe h=>(l.on e h).imp id λC=>C.imp id λC=>YH f.size C⟩
structure Fc(c:Nat->Nat)(k:Nat)(w w':b_):Prop where
 os:w'.os=w.os
 tape:w'.tape=w.tape
 output:w'.output=w.output
 size:w.heap.size<=w'.heap.size
 all:∀(g:Nat) (cur:Array f_) (t:d_),w.heap[g]?=some (.cells cur t)->c g≠k->w'.heap[g]?=w.heap[g]?
 low:∀g,g<w.heap.size->c g=0->k≠0->w'.heap[g]?=w.heap[g]?
def Fc.keep{c:Nat->Nat}{d:Nat}{w w':b_}(h:Fc c d w w')(a:Nat)(e:Array f_)(b:d_)(f:w.heap[a]?=some (.cells e b))(_:b≠163\/d≠2)(g:c a≠d):w'.heap[a]?=w.heap[a]?:=h.all a e b f g
def mD(w:b_)(c c':Nat->Nat):Prop:=∀a,a<w.heap.size->c' a=c a
def mD.refl(w:b_)(c:Nat->Nat):mD w c c:=λ_ _=>rfl
def mD.trans{w e:b_}{c d a:Nat->Nat}(h:mD w c d)(g:mD e d a)(i:w.heap.size<=e.heap.size):mD w c a:=λf b=>(g f<|Yy b i).trans (h f b)
def kU(w:b_)(c:Nat->Nat)(b:Nat):Nat->Nat:=λa=>if a<w.heap.size then c a else b
def jW(w:b_)(c:Nat->Nat)(a:Nat):mD w c (kU w c a):=λd b=>by unfold kU;rw[Ys b]
def kB(w:b_)(c:Nat->Nat)(a b:Nat)(d:w.heap.size<=b):kU w c a b=a:=by unfold kU;rw[Yo om]
def Fc.refl(c:Nat->Nat)(a:Nat)(w:b_):Fc c a w w:=⟨rfl,rfl,rfl,YC _,λ_ _ _ _ _=>rfl,λ_ _ _ _=>rfl⟩
def Fc.jX{c:Nat->Nat}{k:Nat}{w w':b_}(a:Below w.heap.size w w'):Fc c k w w':=⟨a.os,a.tape,a.output,a.size,λd _ _ b _=>a.block d<|Yn b,λd b _ _=>a.block d b⟩
def Fc.trans{c l:Nat->Nat}{h:Nat}{w m j:b_}(a:Fc c h w m)(e:Fc l h m j)(n:mD w c l):Fc c h w j:=
 ⟨e.os.trans a.os,e.tape.trans a.tape,e.output.trans a.output,YH a.size e.size,λd i f b g=>(e.all d i f ((a.all d i f b g).trans b) (by rw[n d<|Yn b];exact g)).trans<|a.all d i f b g,λd b k o=>(e.low d (Yy b a.size) ((n d b).trans k) o).trans<|a.low d b k o⟩
def Fc.kt{c:Nat->Nat}{b:Nat}{w a d:b_}(f:Fc c b w a)(e:Below a.heap.size a d):Fc c b w d:=f.trans (Fc.jX e) (mD.refl _ _)
def Fc.drewN{c:Nat->Nat}{a:Nat}{w b:b_}(d:Fc c a w b)(e:Nat):Fc c a w (b.drewN e):=d.kt (YL br _)
def Fc.setCell{c:Nat->Nat}{f:Nat}{w d:b_}(M:Fc c f w d)(b g:Nat)(hg:w.heap.size<=b\/c b=f)(h:f_):Fc c f w (d.setCell (μ b g) h):=
 ⟨M.os,M.tape,M.output,by simp;exact M.size,λa l k hb hc=>by
  have:a≠b:=λe=>by exact R_
  rw[Yp d (μ b g) a h this]
  exact M.all a l k hb hc,λa hb i j=>by
  have:a≠b:=λe=>by
   subst e;rcases hg with r|r
   .omega
   .exact j (r.symm.trans i)
  rw[Yp d (μ b g) a h this]
  exact M.low a hb i j⟩
def Fc.Bk{c:Nat->Nat}{f d:Nat}{w j h:b_}(M:Fc c f w j)(b:kf d j h)(hg:w.heap.size<=d\/c d=f):Fc c f w h:=
 ⟨b.os.trans M.os,b.tape.trans M.tape,b.output.trans M.output,YH M.size b.size,λa m l hb hc=>by
  have g:a≠d:=λe=>by exact R_
  exact(b.block a (Yy (Yn hb) M.size) g).trans (M.all a m l hb hc),λa hb i k=>by
  have g:a≠d:=λe=>by
   subst e;rcases hg with r|r
   .omega
   .exact k (r.symm.trans i)
  exact(b.block a (Yy hb M.size) g).trans (M.low a hb i k)⟩
def Fc.grown{c:Nat->Nat}{h:Nat}{w o k:b_}{m:Option Nat}(a:Fc c h w o)(d:o.grownBy k m)(j:∀i,m=some i->w.heap.size<=i\/c i=h):Fc c h w k:=
 ⟨d.os.trans a.os,d.tape.trans a.tape,d.output.trans a.output,YH a.size d.size,λb s r e n=>by
  refine(d.block b (Yy (Yn e) a.size) λg=>?_).trans (a.all b s r e n);rcases j b g.symm with f|f
  .have:=Yn e;omega
  .exact n f,λb e l q=>by
  refine(d.block b (Yy e a.size) λg=>?_).trans (a.low b e l q);rcases j b g.symm with f|f
  .omega
  .exact q<|f.symm.trans l⟩
def Fc.LH{c:Nat->Nat}{f b h d:Nat}{w w':b_}{a:d_}{e:Nat->Nat->f_}(m:Fc c f w w')(g:kE w b a h d e)(l:a≠163)(i:c b≠f):kE w' b a h d e:=by let⟨j,k⟩:=g.block;exact g.same (m.keep b j a k (.inl l) i)
def Fc.own{c:Nat->Nat}{g B i h:Nat}{b:d_}{d:f_}{e:List f_}{w w':b_}(m:Fc c g w w')(f:w.ownsRow B b h d i e)(o:b≠163)(k:∀a,d.ownBlock=some a->c a≠g):w'.ownsRow B b h d i e:=
 jV f λa j=>by let⟨l,n⟩:=jU f a j;exact m.keep a l b n (.inl o) (k a j)
structure pL where
 (r yb zb lb cap:Nat)
 G:Nat->Nat
 (wv lv:f_)
 vs:List f_
 rd:j4
def C7(p:pL)(D:j4)(A0:Nat):Array f_:=
 #[ν<|D.sz 0,ν<|D.sz 1,ν<|D.sz 2,ν<|D.sz 3,ν<|D.kp 0,ν<|D.kp 2,ν D.unit,.slice (some (μ p.lb 0)) D.nl p.cap,ν D.batch,
  .slice (some (μ (p.G 0) 0)) (D.sz 0) (D.sz 0),.slice (some (μ (p.G 1) 0)) (D.sz 1)<|D.sz 1,.slice (some (μ (p.G 2) 0)) (D.sz 2)<|D.sz 2,.slice (some (μ (p.G 3) 0)) (D.sz 3)<|D.sz 3,
  .slice (some (μ p.yb 0)) D.nl D.nl,.slice (some (μ p.zb 0)) D.nl D.nl,p.wv,ν D.uns,p.lv,ν A0]
def ng(a:Sv):List f_:=[ν a.2.1,.string a.2.2,ν a.1]
structure j3(w:b_)(B:Nat)(c:Nat->Nat)(p:pL)(D:j4)(left:lw)(A0:Nat)(ys:Nat->a_)(zs:Nat->Bool):Prop where
 dev:w.heap[p.r]?=some (.cells (C7 p D A0) 48)
 kA:∀i,i<4->kE w (p.G i) 3 (D.sz i) 1 (λk _=>ν<|D.ent i k)
 inj:∀i j,i<4->j<4->i≠j->p.G i≠p.G j
 Aq:∃cur,w.heap[p.lb]?=some (.cells cur 3)
 Cd:∀i,i<D.nl->w.cell? (μ p.lb i)=some (ν ((D.ln i).kind:Nat))
 qI:kE w p.yb 9 D.nl 1 λk _=>.string<|ys k
 tf:kE w p.zb 4 D.nl 1 λk _=>.bool<|zs k
 wt:w.ownsRow B 113 3 p.wv D.wait.length<|D.wait.flatMap ng
 lf:w.ownsRow B 28 1 p.lv left.length p.vs
 GH:∀(j:Nat) (l:List Int),left[j]?=some l->∃v,p.vs[j]?=some v/\w.ownsRow B 3 1 v l.length (l.flatMap ka)/\∀g,v.ownBlock=some g->c g=4
 cr:c p.r=3
 cG:∀i,i<4->c (p.G i)=3
 cy:c p.yb=3
 cz:c p.zb=3
 cw:∀g,p.wv.ownBlock=some g->c g=3
 cl:∀g,p.lv.ownBlock=some g->c g=3
 cb:c p.lb=5
 lo:B<=p.r/\(∀i,i<4->B<=p.G i)/\B<=p.yb/\B<=p.zb/\B<=w.heap.size
section
variable {w w':b_}{B:Nat}{c c':Nat->Nat}{p:pL}{D:j4}{left:lw}{A0:Nat}{ys:Nat->a_}{zs:Nat->Bool}
def j3.frame{k:Nat}(M:j3 w B c p D left A0 ys zs)(b:Fc c k w w')(f:mD w c c')(A:k≠3)(z:k≠4)(y:k≠5):j3 w' B c' p D left A0 ys zs:=by
 let⟨n,h⟩:=M.Aq;have hl:=b.keep p.lb n 3 h (.inl dc)<|p1 M.cb;have j:∀{i} (e:f_) (l:d_) (o q:Nat) (m:List f_),w.ownsRow B l o e q m->(∀a,e.ownBlock=some a->c a=i)->∀a,e.ownBlock=some a->c' a=i:=λe l o q m t g a d=>by rw[f a (t.lt a d).2];exact g a d
 refine⟨(b.keep p.r _ 48 M.dev (.inl dc) (p1 M.cr)).trans M.dev,λi hi=>b.LH (M.kA i hi) dc (by rw[M.cG i hi];omega),M.inj,⟨n,hl.trans h⟩,λi hi=>?_,b.LH M.qI dc (p1 M.cy),b.LH M.tf dc (p1 M.cz),b.own M.wt dc (λa d=>by rw[M.cw a d];omega),b.own M.lf dc (λa d=>by rw[M.cl a d];omega),λv x u=>?_,(f _ (Yn M.dev)).trans M.cr,λi hi=>(f _ (M.kA i hi).lt).trans<|M.cG i hi,(f _ M.qI.lt).trans M.cy,(f _ M.tf.lt).trans M.cz,j _ _ _ _ _ M.wt M.cw,j _ _ _ _ _ M.lf M.cl,(f _ (Yn h)).trans M.cb,M.lo.1,M.lo.2.1,M.lo.2.2.1,M.lo.2.2.2.1,YH M.lo.2.2.2.2 b.size⟩
 .exact Gz
 .let⟨e,s,r,g⟩:=M.GH v x u;exact⟨e,s,b.own r dc (λa d=>by rw[g a d];omega),j _ _ _ _ _ r g⟩
def j3.below(b:j3 w B c p D left A0 ys zs)(a:Below w.heap.size w w'):j3 w' B c p D left A0 ys zs:=b.frame (k:=9) (Fc.jX a) (mD.refl _ _) om om om
def j3.Yc(b:j3 w B c p D left A0 ys zs)(a:mD w c c'):j3 w B c' p D left A0 ys zs:=b.frame (k:=9) (Fc.refl _ _ _) a om om om
def j3.cells(a:j3 w B c p D left A0 ys zs):
 w.cell? (μ p.r 4)=some (ν<|D.kp 0)/\w.cell? (μ p.r 5)=some (ν<|D.kp 2)/\w.cell? (μ p.r 6)=some (ν D.unit)/\w.cell? (μ p.r 7)=some (.slice (some (μ p.lb 0)) D.nl p.cap)/\w.cell? (μ p.r 8)=some (ν D.batch)/\
 w.cell? (μ p.r 13)=some (.slice (some (μ p.yb 0)) D.nl D.nl)/\w.cell? (μ p.r 14)=some (.slice (some (μ p.zb 0)) D.nl D.nl)/\w.cell? (μ p.r 15)=some p.wv/\w.cell? (μ p.r 16)=some (ν D.uns)/\w.cell? (μ p.r 17)=some p.lv/\w.cell? (μ p.r 18)=some (ν A0)/\(∀b,w.frozen? (μ p.r b)=false)/\p.r<w.heap.size:=
 ⟨(Yu _ _ _ _ _ _ a.dev).trans rfl,(Yu _ _ _ _ _ _ a.dev).trans rfl,(Yu _ _ _ _ _ _ a.dev).trans rfl,(Yu _ _ _ _ _ _ a.dev).trans rfl,(Yu _ _ _ _ _ _ a.dev).trans rfl,(Yu _ _ _ _ _ _ a.dev).trans rfl,(Yu _ _ _ _ _ _ a.dev).trans rfl,(Yu _ _ _ _ _ _ a.dev).trans rfl,(Yu _ _ _ _ _ _ a.dev).trans rfl,(Yu _ _ _ _ _ _ a.dev).trans rfl,(Yu _ _ _ _ _ _ a.dev).trans rfl,λ_=>Y2 _ _ _ _ _ a.dev,Yn a.dev⟩
def j3.tq(a:j3 w B c p D left A0 ys zs){i:Nat}(b:i<4):w.cell? (μ p.r<|9+i)=some (.slice (some (μ (p.G i) 0)) (D.sz i)<|D.sz i):=by rcases(show i=0\/i=1\/i=2\/i=3 by omega)with rfl|rfl|rfl|rfl<;>exact(Yu _ _ _ _ _ _ a.dev).trans rfl
def j3.C8(d:j3 w B c p D left A0 ys zs){i k:Nat}(b:i<4)(a:k<D.sz i):w.cell? (μ (p.G i) k)=some (ν<|D.ent i k):=by have:=(d.kA i b).cell (i:=k) (j:=0) a om;rw[YS,YE]at this;exact this
def j3.ghost(a:j3 w B c p D left A0 ys zs)(b:j4):j3 w B c {p with rd:=b} D left A0 ys zs:=⟨a.dev,a.kA,a.inj,a.Aq,a.Cd,a.qI,a.tf,a.wt,a.lf,a.GH,a.cr,a.cG,a.cy,a.cz,a.cw,a.cl,a.cb,a.lo⟩
end
def Fe(a:Nat):r3 a=lp [a]:=by unfold r3 lp m5 bytesOf;simp;constructor<;>congr 1<;>omega
def C9(b:Nat)(a:b_)(f:b<65536):Calls prog 136 #[ν b] a λc d=>c=.returned (.string<|r3 b)/\Below a.heap.size a d:=by
 have e:=KS
 go_enter func136,ntmps136
 go_wp2;go_ret;exact⟨rfl,br.alloc kM _⟩
def Ik(d:Int)(b:Nat)(i:d=b)(a:b_)(h:b<65536):
 Calls prog 136 #[ν d] a λc e=>∃f,c=.returned f/\(f=.string (r3 b)/\Below a.heap.size a e):=by
 subst i;refine(C9 b a h).mono ?_;rintro c e ⟨rfl,g⟩;exact⟨_,rfl,rfl,g⟩
def LK(a:f_)(b:b_):(callFunc 136 #[a]).run prog b=.ok (.enter 136 #[a]) b:=kr
def Ce(e:b_)(k:Nat)(h:Nat->Nat)(g:pL)(d:j4)(left:lw)(j:Nat)(l:Nat->a_)(o:Nat->Bool)(b a c:Nat)(f:j3 e k h g d left j l o)(n:b<4)(s:a<=100000)(p:c<=100000):
 Calls prog 133 #[π g.r,ν b,ν a,ν c] e λi m=>i=.returned (.bool<|decide (a+c<=d.sz b))/\m=e:=by
 have q:=f.tq n;clear f;have r:decide ((a:Int)+(c:Int)<=(d.sz b:Int))=decide (a+c<=d.sz b):=by apply aba.2;omega
 go_enter func133,ntmps133
 go_wp2;go_ret;exact⟨rfl,rfl⟩
def LL(f c e a:Nat)(h:a<16):maskN f c e/2^a%2=if c/2^a%2=1 then f/2^a%2 else e/2^a%2:=by
 have d:(maskN f c e).testBit a=if c.testBit a then f.testBit a else e.testBit a:=by
  unfold maskN;rw[Nat.testBit_or,abE,abE,Nat.testBit_xor];have:(65535:Nat).testBit a=true:=by rcases(show a=0\/a=1\/a=2\/a=3\/a=4\/a=5\/a=6\/a=7\/a=8\/a=9\/a=10\/a=11\/a=12\/a=13\/a=14\/a=15 by omega)with b|b|b|b|b|b|b|b|b|b|b|b|b|b|b|b<;>subst b<;>decide
  rw[this];cases c.testBit a<;>cases f.testBit a<;>cases e.testBit a<;>rfl
 rw[aav,aav,aav,aav]at d;by_cases g:c/2^a%2=1
 .simp only[g,decide_true,Y_]at d⊢;have:=aba.1 d;omega
 .simp only[g,decide_false,Y5]at d⊢;have:=aba.1 d;omega
def OH(a c b:Nat)(e:a<65536)(d:b<65536):maskN a c b<65536:=by
 unfold maskN;refine abr (n:=16) ?_ ?_
 .exact aaq abG e
 .exact aaq abG d
def C_(c b d:Nat)(v:b_)(O:c<65536)(ah:b<65536)(N:d<65536):Calls prog 134 #[ν c,ν b,ν d] v λK S=>K=.returned (ν<|maskN c b d)/\S=v:=by
 have Q:=OH c b d O N;obtain⟨e,A⟩:=j5<|maskN c b d;have L:=h_ A;rw[<-A]at Q⊢;clear A
 go_enter func134,ntmps134
 go_wp2_with fail
 go_loopw [7,8] (λR t wr=>∃q:Nat,q<=16/\t=ν ((2^q:Nat):Int)/\R=ν ((e%2^q:Nat):Int)/\wr=v) (λ_ t _=>65536-(intOf t).toNat)
 case atStart=>exact⟨0,om,rfl,by simp[Nat.mod_one],rfl⟩
 case round=>
  obtain⟨q,aa,rfl,rfl,rfl⟩:=hrel;by_cases I:q<16
  .have P:2^q<=2^15:=aaN om om;have E:0<2^q:=Nat.pow_pos om;have w:2^(q+1)=2*2^q:=by rw[abF];omega
   have y:e%2^(q+1)=e%2^q+2^q*(e/2^q%2):=Nat.mod_pow_succ;have s:=LL c b d q I;rw[<-L.o]at s;obtain⟨a,f⟩:=j5<|2^q;obtain⟨F,o⟩:=j5<|e%a;have Z:F<a:=by rw[o];exact ab4 _ (by rw[f];exact E)
   let⟨h,r⟩:=j5<|d/a;let⟨k,z⟩:=j5<|h%2;let⟨g,m⟩:=j5<|b/a;let⟨i,B⟩:=j5<|g%2;let⟨j,n⟩:=j5<|c/a;let⟨l,u⟩:=j5<|j%2;have af:Int.tdiv (d:Int) (a:Int)=(h:Int):=by rw[r];exact(Int.ofNat_tdiv d a).symm
   have U:Int.tmod (h:Int) 2=(k:Int):=by rw[z];exact(abR h 2).symm
   have X:Int.tdiv (b:Int) (a:Int)=(g:Int):=by rw[m];exact(Int.ofNat_tdiv b a).symm
   have V:Int.tmod (g:Int) 2=(i:Int):=by rw[B];exact(abR g 2).symm
   have ag:Int.tdiv (c:Int) (a:Int)=(j:Int):=by rw[n];exact(Int.ofNat_tdiv c a).symm
   have W:Int.tmod (j:Int) 2=(l:Int):=by rw[u];exact(abR j 2).symm
   have ai:h<=d:=by rw[r];exact abg ..
   have Y:g<=b:=by rw[m];exact abg ..
   have aj:j<=c:=by rw[n];exact abg ..
   have ab:k<=1:=om;have T:i<=1:=om;have ac:l<=1:=om;have ae:¬((a:Int)=0):=om;have ad:(a:Int)<65536:=om;rw[<-f,<-m,<-B,<-n,<-u,<-r,<-z]at s;rw[<-f,<-o,s]at y;rw[<-f]at P E w;rw[<-f,<-o];have C:=h_ y;have iW:=h_ w;clear y s f o r z m B n u w;by_cases D:i=1
   .have t4:((i:Int)==1)=true:=so;have x:l=0\/l=1:=om;rcases x with rfl|rfl
    all_goals
     go_wp2
     go_roundw
     case rel=>have:=C;rw[Ys D]at this;exact RZ
     case measure=>have:=iW;simp[intOf];omega
   .have t4:((i:Int)==1)=false:=so;have x:k=0\/k=1:=om;rcases x with rfl|rfl
    all_goals
     go_wp2
     go_roundw
     case rel=>have:=C;rw[Yo D]at this;exact RZ
     case measure=>have:=iW;simp[intOf];omega
  .obtain rfl:q=16:=om;have J:=aaE om;rw[J];go_wp2;go_ret;exact⟨rfl,rfl⟩
def kC(a:Nat->Nat->Int)(k0 b:Nat):List Int:=(List.range k0).map (a 0)++(List.range b).map (a 2)
def pd(b:Nat->Nat->Int)(k0 a:Nat):(kC b k0 a).length=k0+a:=by simp[kC]
def km{w:b_}{f a:Nat}{g h:Array f_}{b d:d_}(M:w.heap[f]?=some (.cells g b))(h':w.heap[a]?=some (.cells h d))(bQ:b≠d):f≠a:=λe=>by exact RI
section
variable {w w':b_}{B:Nat}{c:Nat->Nat}{p:pL}{D:j4}{left:lw}{A0:Nat}{ys:Nat->a_}{zs:Nat->Bool}
def j3.xl{wv' lv':f_}{vs':List f_}{D':j4}{h:lw}{n:Nat}{d:Nat->Nat}(M:j3 w B c p D left A0 ys zs)(e:kf p.r w w')(f:mD w c d)(r:w'.heap[p.r]?=some (.cells (C7 {p with wv:=wv',lv:=lv',vs:=vs'} D' n) 48))
 (A:D'.sz=D.sz) (x:D'.ent=D.ent) (k:D'.nl=D.nl) (u:D'.ln=D.ln) (z:w'.ownsRow B 113 3 wv' D'.wait.length<|D'.wait.flatMap ng) (q:w'.ownsRow B 28 1 lv' h.length vs') (y:∀(m:Nat) (j:List Int),h[m]?=some j->∃l,vs'[m]?=some l/\w'.ownsRow B 3 1 l j.length (j.flatMap ka)/\∀b,l.ownBlock=some b->d b=4) (s:∀b,wv'.ownBlock=some b->d b=3) (t:∀b,lv'.ownBlock=some b->d b=3):
 j3 w' B d {p with wv:=wv',lv:=lv',vs:=vs'} D' h n ys zs:=by
 let⟨v,g⟩:=M.Aq;have hl:=e.block _ (Yn g) (km g M.dev dc);refine⟨r,λi hi=>?_,M.inj,⟨v,hl.trans g⟩,λi hi=>?_,?_,?_,z,q,y,(f _ (Yn M.dev)).trans M.cr,λi hi=>(f _ (M.kA i hi).lt).trans<|M.cG i hi,(f _ M.qI.lt).trans M.cy,(f _ M.tf.lt).trans M.cz,s,t,(f _ (Yn g)).trans M.cb,M.lo.1,M.lo.2.1,M.lo.2.2.1,M.lo.2.2.2.1,YH M.lo.2.2.2.2 e.size⟩
 .let⟨o,a⟩:=(M.kA i hi).block;rw[A,x];exact(M.kA i hi).same (e.block _ (Yn a) (km a M.dev dc))
 .rw[k]at hi;rw[u];exact Gz
 .let⟨o,a⟩:=M.qI.block;rw[k];exact M.qI.same<|e.block _ (Yn a) (km a M.dev dc)
 .let⟨o,a⟩:=M.tf.block;rw[k];exact M.tf.same (e.block _ (Yn a) (km a M.dev dc))
def j3.put{j:Nat}{f:Nat->Nat->Int}(M:j3 w B c p D left A0 ys zs)(e:j<4)(d:kf (p.G j) w w')(s:kE w' (p.G j) 3 (D.sz j) 1 λb _=>ν<|f j b)(n:∀i b,i≠j->f i b=D.ent i b):
 j3 w' B c p {D with ent:=f} left A0 ys zs:=by
 let⟨q,l⟩:=M.Aq;let⟨A,u⟩:=(M.kA j e).block;have hne:∀{g:Nat}{cur:Array f_}{t:d_},w.heap[g]?=some (.cells cur t)->t≠3->w'.heap[g]?=w.heap[g]?:=λhg y=>d.block _ (Yn hg) (km hg u y);have hl:=d.block _ (Yn l) (λa=>by have h:=M.cb;have k:=M.cG j e;rw[a]at h;omega);refine⟨(hne M.dev dc).trans M.dev,λi hi=>?_,M.inj,⟨q,hl.trans l⟩,λi hi=>?_,?_,?_,jV M.wt λg hg=>?_,jV M.lf λg hg=>?_,λv r o=>?_,M.cr,M.cG,M.cy,M.cz,M.cw,M.cl,M.cb,M.lo.1,M.lo.2.1,M.lo.2.2.1,M.lo.2.2.2.1,YH M.lo.2.2.2.2 d.size⟩
 .by_cases a:i=j
  .subst a;exact s
  .have:=(M.kA i hi).same<|d.block _ (M.kA i hi).lt (M.inj i j hi e a);exact this.congr λb _ _ _=>by show ν _=ν (f i b);rw[n i b a]
 .exact Gz
 .let⟨cg,hcg⟩:=M.qI.block;exact M.qI.same<|hne hcg dc
 .let⟨cg,hcg⟩:=M.tf.block;exact M.tf.same<|hne hcg dc
 .exact KC
 .exact KD
 .let⟨x,h,k,m⟩:=M.GH v r o;refine⟨x,h,jV k λg hg=>d.block g (k.lt g hg).2 λa=>?_,m⟩;have:=m g hg;have z:=M.cG j e;rw[a]at this;omega
end
def Ff(e:Nat->Int)(h a:Nat)(b:f_)(k:(((List.range h).map e).flatMap ka)[a]?=some b):a<h/\b=ν (e a):=by let⟨m,d,i⟩:=x8 _ a b k;rw[Y9]at d;let⟨n,l,j⟩:=Zk.1 d;let⟨f,g⟩:=Yr.1 l;simp at f g;exact⟨f,by rw[i,<-j,g]⟩
def Bs{w:b_}{B A0 i n:Nat}{c:Nat->Nat}{p:pL}{D:j4}{left:lw}{ys:Nat->a_}{zs:Nat->Bool}(g:j3 w B c p D left A0 ys zs)(f:i<4)(k:n<=D.sz i):
 ∀a b,(((List.range n).map<|D.ent i).flatMap ka)[a]?=some b->w.cell? (((μ (p.G i) 0):Addr).add a)=some b:=λa b e=>by
 obtain⟨j,rfl⟩:=Ff _ _ _ _ e;have d:((μ (p.G i) 0):Addr).add a=(μ (p.G i) a):=by by_cases h:a=0<;>simp[Addr.add,h]
 rw[d];exact g.C8 f om
def uG(b:Nat->Int)(a:Nat):(((List.range a).map b).flatMap ka).length=a*1:=by rw[lW];simp
def Ar(w:b_)(B:Nat)(c:Nat->Nat)(p:pL)(D:j4)(left:lw)(A0:Nat)(ys:Nat->a_)(zs:Nat->Bool)(d:j3 w B c p D left A0 ys zs)(o:∀i,i<4->D.sz i<=60)(K:D.kp 0<=D.sz 0)(Q:D.kp 2<=D.sz 2):
 Calls prog 55 #[.pointer<|some ⟨p.r,0,none⟩] w λf w'=>∃F,f=.returned F/\w'.ownsRow w.heap.size 3 1 F (D.kp 0+D.kp 2) ((kC D.ent (D.kp 0)<|D.kp 2).flatMap ka)/\Below w.heap.size w w':=by
 let⟨u,A,C,x,E⟩:=Y4 Tryz.qj;have aa:=o 0 om;have ab:=o 2 om;obtain⟨J,v,_,_,_,_,_,_,_,_,_,_,r⟩:=d.cells;have t0:w.cell? ⟨p.r,9,none⟩=_:=d.tq (i:=0) om;have t2:w.cell? ⟨p.r,11,none⟩=_:=d.tq (i:=2) om;have O:=h_<|Bs d (i:=0) om K;have T:=h_<|Bs d om Q;have W:=(d.kA 2 om).lt;have S:=h_<|uG (D.ent 0)<|D.kp 0;have M:=h_<|uG (D.ent 2)<|D.kp 2;have k0:(D.kp 0:Int)<=(D.sz 0:Int):=om;have ac:(D.kp 2:Int)<=(D.sz 2:Int):=om;clear d o
 go_enter func55,ntmps55
 go_wp2_with fail
 go_region_law (refine nC rfl (.tmp 4) (.tmp 15) 28 rfl w.heap.size 3 u (.int .i64 0) 1 8 underlying28 A C x E rfl dc (.slice none 0 0) 0 [] (by simp[Act.eval,Act.put]) uY ⟨p.G 0,0,none⟩ (D.kp 0) (D.sz 0) (((List.range<|D.kp 0).map<|D.ent 0).flatMap ka) (by simp[Act.eval,Act.put]) S.o (by intro a b j;exact O.o a b j) (m4 _) ml om si ?_;intro L t q g)
 all_goals
  have e:Below w.heap.size w t:=(YL br 1).trans ⟨g.os,g.tape,g.output,g.size,λk m=>g.block k m<|by simp[Value.ownBlock]⟩;rw[YF,YT]at q;have y:=h_ q;have I:=h_ e;have P:=e.size
  have V:Hid (∀a b,(((List.range<|D.kp 2).map<|D.ent 2).flatMap ka)[a]?=some b->t.cell? ((⟨p.G 2,0,none⟩:Addr).add a)=some b):=λa b j=>by
   have f:(⟨p.G 2,0,none⟩:Addr).add a=⟨p.G 2,a,none⟩:=by by_cases U:a=0<;>simp[Addr.add,U]
   rw[f,(ke e).1 _ _ W];have s:=T a b j;rw[f]at s;exact s
  have d5:=((ke e).1 _ _ r).trans v;have d2:=((ke e).1 _ _ r).trans t2;clear J v t0 t2 g e q
  go_wp2_with fail
  go_region_law (refine nC rfl (.tmp 17) (.tmp 28) 28 rfl w.heap.size 3 u (.int .i64 0) 1 8 underlying28 A C x E rfl dc L (D.kp 0) (((List.range<|D.kp 0).map<|D.ent 0).flatMap ka) (by simp[Act.eval,Act.put]) (q8 rfl y) ⟨p.G 2,0,none⟩ (D.kp 2) (D.sz 2) (((List.range<|D.kp 2).map<|D.ent 2).flatMap ka) (by simp[Act.eval,Act.put]) M (by intro a b j;exact V a b j) (m4 _) ml om so ?_;intro Y N l h)
  all_goals
   have z:Below w.heap.size w N:=I.o.trans ((YL br 1).trans ⟨h.os,h.tape,h.output,h.size,λk m=>h.block k (Yy m P) (λf=>by have:=(y.o.lt k f.symm).1;omega)⟩);obtain⟨Z,ad,rfl,_⟩:=i_ l;have R:=h_ l;have X:=h_ z;clear l h z;go_wp2;go_ret;refine⟨_,rfl,?_,X.o⟩;unfold kC;rw[YX];exact R.o
def As(c:b_)(v:Nat)(l:Nat->Nat)(g:pL)(b:j4)(left:lw)(t:Nat)(A:Nat->a_)(s:Nat->Bool)(a:Nat)(e:j3 c v l g b left t A s)(j:a<4)(I:b.sz a<=60):
 Calls prog 38 #[π g.r,ν a] c λm k=>∃h,m=.returned (.tuple #[h,ν 0])/\k.ownsRow c.heap.size 3 1 h (b.sz a) (((List.range<|b.sz a).map<|b.ent a).flatMap ka)/\Below c.heap.size c k:=by
 let⟨p,o,z,x,C⟩:=Y4 Tryz.qj;have J:=e.tq j;have u:=h_<|Bs e j kM;have B:=h_<|uG (b.ent a)<|b.sz a;have F:(a:Int)<=3:=om;clear e
 go_enter func38,ntmps38
 go_wp2_with (at_builtin;apply Zl _ rfl (.tmp 13) (.tmp 19) 28 rfl c.heap.size 3 p _ 1 8 underlying28 o z x C rfl dc σ 0 [] rfl uY (μ (g.G a) 0) (b.sz a) (b.sz a) _ rfl B u (m4 _) ml om si;intro E D f d _;obtain⟨y,q,rfl,_⟩:=i_ f)
 rw[YF,YT]at f;refine Yx (v:=.tuple #[.slice y (b.sz a) q,ν 0]) (by simp[results,results38,go_sem]) rfl ⟨_,rfl,f,?_⟩;exact⟨d.os,d.tape,d.output,d.size,λw r=>d.block w r<|by simp[Value.ownBlock]⟩
def tU(a:b_)(d:Nat)(b:Nat->Nat)(p:pL)(e:j4)(left:lw)(C:Nat)(r:Nat->a_)(o:Nat->Bool)(M:j3 a d b p e left C r o)(U:1<=left.length)(V:left.length<=1000000):
 Calls prog 35 #[π p.r] a λc k=>c=.returned p.wv/\k.ownsRow d 113 3 p.wv e.wait.length (e.wait.flatMap ng)/\j3 k d b {p with wv:=σ} {e with uns:=0,wait:=[]} left (left.length-1) r o/\Fc b 3 a k/\k.heap.size=a.heap.size:=by
 obtain⟨_,_,_,_,_,_,_,z,T,t,O,W,P⟩:=M.cells;obtain⟨x,u,s,_⟩:=i_ M.wt;obtain⟨Q,S,I,_⟩:=i_ M.lf;rw[s]at z;rw[I]at t;have n:=YB _ _ 18 _ _ (ν ((left.length-1:Nat):Int)) (YB _ _ 16 _ _ (ν 0) (YB a p.r 15 _ 48 σ M.dev));obtain⟨h,j⟩:=j5<|((a.setCell (μ p.r 15) σ).setCell (μ p.r 16)<|ν 0).setCell (μ p.r 18)<|ν ((left.length-1:Nat):Int);rw[<-j]at n;have ai:kf p.r a h:=by rw[j];exact(((kf.refl _ _).setCell _ _).setCell _ _).setCell _ _
 have K:=M.cr;have hF:Fc b 3 a h:=(Fc.refl b 3 a).Bk ai<|.inr K;have i:∀(f:f_) (c:d_) (m q:Nat) (l:List f_),a.ownsRow d c m f q l->c≠48->h.ownsRow d c m f q l:=λf c m q l aO he=>jV aO λg hg=>by exact RC
 have y:Hid<|j3 h d b {p with wv:=σ} {e with uns:=0,wait:=[]} left (left.length-1) r o:=by refine M.xl (lv':=p.lv) (vs':=p.vs) ai (mD.refl _ _) n rfl rfl rfl rfl uY (i _ _ _ _ _ M.lf dc) (λF w D=>?_) (λg hg=>by simp[Value.ownBlock]at hg) M.cl;obtain⟨f,B,v,N⟩:=M.GH F w D;exact⟨f,B,i _ _ _ _ _ v dc,N⟩
 have L:=h_<|i _ _ _ _ _ M.wt dc;have J:=h_ hF;have E:=h_ s;have A:h.heap.size=a.heap.size:=by rw[j];simp
 have R:IntKind.i64.wrap ((left.length:Int)-1)=((left.length-1:Nat):Int):=wo;clear M n ai hF i
 go_enter func35,ntmps35
 go_wp2;rw[<-j];refine Yx (v:=.slice x e.wait.length u) (by simp[results,results35,go_sem]) rfl ⟨by rw[<-E.o],L.o,y.o,J.o,A⟩
def C'(a:List Nat)(b:Nat):lp (a++[b])=lp a++r3 b:=by
 rw[Fe];unfold lp;have:m5 (a++[b])=m5 a++m5 [b]:=by unfold m5;rw[YX]
 rw[this];unfold bytesOf;apply Z6;simp[ZM]
def Fg(c:Nat->Nat)(a b:Nat):Pl.nj c a (b+1)=Pl.nj c a b++⟨#[UInt8.ofNat<|Pl.pkd c a b]⟩:=by unfold Pl.nj;apply Z6;rw[ZM,aax,ZI];simp
def rY(a:a_):a_:=⟨#[UInt8.ofNat a.size]⟩++a
def Da(w:b_)(V:Nat)(O:Nat->Nat)(p:pL)(D:j4)(left:lw)(J:Nat)(L:Nat->a_)(I:Nat->Bool)(x:Pl.mW)(a:Option Addr)(n k:Nat)(M:j3 w V O p D left J L I)(h:x.kA<4)(av:1<x.kA)(ar:x.l7+x.cnt<=D.sz x.kA)(ai:D.sz x.kA<=60)(C:n4 D.ent):
 Calls prog 135 #[π p.r,u1 x<|.slice a n k] w λQ ac=>Q=.returned (.string<|rY<|pw D.ent x)/\Below w.heap.size w ac:=by
 refine Qp ?_;intro W U a2 bq dY dh;have T:Hid<|pw D.ent x=lp ((List.range x.cnt).map λb=>(D.ent x.kA<|x.l7+b).toNat):=by show _=_;unfold pw;rw[Yo om]
 have S:=h_ C;have Y:=h_ bq;have ab:=h_ a2;have ag:=Yn M.dev;have an:=(M.kA x.kA h).lt;have F:=kq bq;have au:x.l7<=60:=om;have al:x.cnt<=60:=om;have ah:(1:Int)<(x.kA:Int):=om;have aq:(x.kA:Int)<4:=om;unfold u1;clear M bq a2 C
 go_enter func135,ntmps135
 let⟨l,A,o,m,z,B,E,r,u⟩:=F
 go_wp2_with fail
 rw[<-U];clear U
 go_wp2_with fail
 go_loopw [5,6] (λaa j wr=>∃q:Nat,q<=x.cnt/\j=ν q/\aa=.string (lp<|(List.range q).map λb=>(D.ent x.kA<|x.l7+b).toNat)/\Below W.heap.size W wr) (λ_ j _=>x.cnt-(intOf j).toNat)
 case atStart=>exact⟨0,YG _,rfl,rfl,Below.refl ..⟩
 case round=>
  obtain⟨q,am,rfl,rfl,e⟩:=hrel;have ax:=e.size;have i:=(e.block w.heap.size om).trans Y;clear l A o m z B E r u;let⟨l,A,o,m,z,B,E,r,u⟩:=kq i;have t:=h_<|dY.o.below e;have ao:=t.o.tq h;have g:(lp<|(List.range q).map λb=>(D.ent x.kA<|x.l7+b).toNat).size=2*q:=by rw[p6];simp
  by_cases af:q<x.cnt
  .have K:=t.o.C8 h (k:=x.l7+q) om;have R:=S x.kA<|x.l7+q;let⟨c,s⟩:∃c:Nat,c=(D.ent x.kA<|x.l7+q).toNat:=⟨_,rfl⟩;have v:D.ent x.kA (x.l7+q)=(c:Int):=om;have X:c<65536:=om;have ap:(q:Int)<(x.cnt:Int):=om;refine QE ?_;intro hW iX iZ iY;rw[v]at K;let⟨f,d⟩:=j5<|lp<|(List.range q).map λb=>(D.ent x.kA<|x.l7+b).toNat;rw[<-d]at g⊢;have ad:(r3 c).size=2:=rfl;have N:¬9223372036854775807<2*q+2:=om;have P:Hid<|lp ((List.range<|q+1).map λb=>(D.ent x.kA<|x.l7+b).toNat)=f++r3 c:=by show _=_;rw[aax,ZI,abX,C',d,s]
   have HB:=h_ e;clear i e R v d s
   go_wp2_with fail
   go_region_law (refine ki rfl 136 #[.tmp 33] #[3] rfl #[ν c] qU (LK ..) _ (Ik _ c rfl _ X) ?_;rintro aw aj ⟨rfl,y⟩)
   all_goals
    have Z:=h_<|jZ HB<|jZ (YL br 1) y;clear y;go_wp2
    go_roundw
    case rel=>exact⟨q+1,om,gn,by rw[P.o],Z⟩
    case measure=>exact mz
  .obtain rfl:q=x.cnt:=om;have HB:=h_<|jZ ab e;let⟨f,d⟩:=j5<|lp<|(List.range x.cnt).map λb=>(D.ent x.kA<|x.l7+b).toNat;have HQ:Hid<|pw D.ent x=f:=by show _=_;rw[T.o,d]
   rw[<-d]at g⊢;have ae:=KR;have ak:f.size<=200:=om;clear g;have N:¬9223372036854775807<(ByteArray.mk #[UInt8.ofNat f.size]).size+f.size:=by show¬_<1+_;omega
   clear i e d;exact RM
def Fh(w:b_)(aB:Nat)(ar:Nat->Nat)(p:pL)(D:j4)(left:lw)(aj:Nat)(ap:Nat->a_)(ah:Nat->Bool)(x:Pl.mW)(a:Option Addr)(n k:Nat)(M:j3 w aB ar p D left aj ap ah)(aa:x.kA<2)(aS:x.l7+x.cnt<=D.sz x.kA)(aK:D.sz x.kA<=60)(A:n4 D.ent):
 Calls prog 135 #[π p.r,u1 x<|.slice a n k] w λau aF=>au=.returned (.string<|rY<|pw D.ent x)/\Below w.heap.size w aF:=by
 refine Qp ?_;intro W U a2 bq dY dh;obtain⟨d,o⟩:∃d:Nat->Nat,d=λb=>(D.ent x.kA<|x.l7+b).toNat:=⟨_,rfl⟩;have T:∀c,d c<2:=λc=>by rw[o];have:=A x.kA<|x.l7+c;have ai:=this.2.2 aa;simp only;omega
 have C:=h_ T;have aA:Hid<|pw D.ent x=Pl.nj d x.cnt ((x.cnt+7)/8):=by show _=_;unfold pw;rw[Ys aa,o]
 have ao:Hid (∀b,b<x.cnt->D.ent x.kA (x.l7+b)=((d b:Nat):Int)):=λb _=>by rw[o];have:=(A x.kA<|x.l7+b).1;simp only;omega
 have aC:=h_ bq;have aE:=h_ a2;have aH:=Yn M.dev;have aN:=(M.kA x.kA om).lt;have ad:=kq bq;have aT:x.l7<=60:=om;have aM:x.cnt<=60:=om;have aI:¬(1:Int)<(x.kA:Int):=om;have aQ:(x.kA:Int)<4:=om;unfold u1;clear M bq a2 A o T
 go_enter func135,ntmps135
 let⟨E,X,K,I,V,Y,ac,L,S⟩:=ad
 go_wp2_with fail
 rw[<-U];clear U
 go_wp2_with fail
 go_loopw [5,7] (λaD c wr=>∃b:Nat,b<=(x.cnt+7)/8/\c=ν ((8*b:Nat):Int)/\aD=.string (Pl.nj d x.cnt b)/\Below W.heap.size W wr) (λ_ c _=>100-(intOf c).toNat)
 case atStart=>exact⟨0,YG _,rfl,rfl,Below.refl ..⟩
 case round=>
  obtain⟨b,aR,rfl,rfl,j⟩:=hrel;have aU:=j.size;have B:=(j.block w.heap.size om).trans aC;clear E X K I V Y ac L S;let⟨E,X,K,I,V,Y,ac,L,S⟩:=kq B;have Q:=h_<|dY.o.below j;have aP:=Q.o.tq (i:=x.kA) om;have m:(Pl.nj d x.cnt b).size=b:=Pl.ol ..;have F:=h_ m;by_cases ae:8*b<x.cnt
  .have z:((8*b:Nat):Int)<(x.cnt:Int):=om;let⟨e,g⟩:=j5<|Pl.nj d x.cnt b;rw[<-g]at m⊢;have HQ:=h_ g;have HB:=h_ j;let⟨c,l⟩:=j5<|8*b;have hW:c<x.cnt:=om;rw[<-l]at z⊢;have f:=h_ l;clear B j g m l ae
   go_wp2_with fail
   go_loopw [8,9,10] (λaw am t ag=>∃(q i:Nat),c<=q/\q<=c+8/\q<=x.cnt/\t=ν q/\am=ν ((2^(q-c):Nat):Int)/\aw=ν ((Pl.pkd d q b:Nat):Int)/\ag=wr.drewN i) (λ_ _ t _=>100-(intOf t).toNat)
   case atStart=>exact⟨c,0,om,om,om,rfl,si,by rw[Pl.tP d c b<|li f.o];rfl,rfl⟩
   case round=>
    obtain⟨q,i,aJ,aO,ai,rfl,rfl,rfl,rfl⟩:=hrel;by_cases ax:q<c+8/\q<x.cnt
    .have N:(q:Int)<(c:Int)+8:=om;have av:(q:Int)<(x.cnt:Int):=om;have P:=Q.o.C8 (i:=x.kA) om (k:=x.l7+q) om;rw[ao.o q ax.2]at P;refine QE ?_;intro hW iX iZ iY;have al:=C q;have u:=Pl.r8 d C q b;have az:2^(q-c)<=2^8:=aaN om om;have R:Hid<|Pl.pkd d (q+1) b=Pl.pkd d q b+d q*2^(q-c):=by show _=_;rw[Pl.pkd,Ys<|li f.o,show q%8=q-c by have:=f.o;omega]
     have Z:Hid<|2^(q+1-c)=2*2^(q-c):=by show _=_;rw[show q+1-c=(q-c)+1 by omega,abF];omega
     let⟨aG,r⟩:=j5<|2^(q-c);let⟨v,h⟩:=j5<|Pl.pkd d q b;let⟨O,y⟩:=j5<|d q;rw[<-r,<-h,<-y]at R;rw[<-r]at Z az;rw[<-h]at u;rw[<-y]at P al;rw[<-r,<-h];clear r h y;rcases(show O=0\/O=1 by omega)with rfl|rfl
     all_goals
      go_wp2_with fail
      go_quiet (fail)
      go_wp2
      go_roundw
      case rel=>exact⟨q+1,i+nq,om,om,om,gn,by rw[Z.o];go_num,by rw[R.o];go_num,si⟩
      case measure=>exact mz
    .have h:Pl.pkd d q b=Pl.pkd d x.cnt b:=by
      rcases Zj q x.cnt with ak|ak
      .have:q=8*b+8:=li f.o;rw[this,Pl.Ah d b x.cnt om]
      .rw[show q=x.cnt by omega]
     have u:=Pl.r8 d C x.cnt b;rw[h];let⟨v,s⟩:=j5<|Pl.pkd d x.cnt b;rw[<-s]at u⊢;have ay:=h_ s;clear h s;have af:∀x:Int,(convert 114 9<|ω wr.heap.size 1 1).run prog ((wr.drewN i).alloc<|.cells #[.int .u8 x] 5)=.ok (.string ⟨#[UInt8.ofNat x.toNat]⟩) ((wr.drewN i).alloc<|.cells #[.int .u8 x] 5):=λx=>KR (wr.drewN i) x;have an:e.size<=200:=by rw[HQ.o,F.o];omega
     have aq:¬9223372036854775807<e.size+(ByteArray.mk #[UInt8.ofNat v]).size:=by show¬_<_+1;omega
     have J:Hid<|Pl.nj d x.cnt (b+1)=e++⟨#[UInt8.ofNat v]⟩:=by show _=_;rw[Fg,HQ.o,ay.o]
     have ab:=h_<|jZ HB<|YL (Below.refl _ wr) i;by_cases aL:q<c+8
     .have N:(q:Int)<(c:Int)+8:=om;have av:¬(q:Int)<(x.cnt:Int):=om;go_wp2
      go_roundw
      case rel=>exact⟨b+1,by have:=f.o;omega,by have:=f.o;go_num,by rw[J.o],jT ab.o _⟩
      case measure=>exact mz
     .have N:¬(q:Int)<(c:Int)+8:=om;go_wp2
      go_roundw
      case rel=>exact⟨b+1,by have:=f.o;omega,by have:=f.o;go_num,by rw[J.o],jT ab.o _⟩
      case measure=>exact mz
  .obtain rfl:b=(x.cnt+7)/8:=om;have HB:=h_<|jZ aE j;have z:¬((8*((x.cnt+7)/8):Nat):Int)<(x.cnt:Int):=om;let⟨c,l⟩:=j5<|8*((x.cnt+7)/8);let⟨e,g⟩:=j5<|Pl.nj d x.cnt<|(x.cnt+7)/8;have HQ:Hid<|pw D.ent x=e:=by show _=_;rw[aA.o,g]
   rw[<-l]at z⊢;clear l;rw[<-g]at m⊢;have af:=KR;have an:e.size<=200:=om;have aq:¬9223372036854775807<(ByteArray.mk #[UInt8.ofNat e.size]).size+e.size:=by show¬_<1+_;omega
   clear B j g m F;exact RM
def WH(a:b_)(d c j i e h f g:f_):
 ∃b,b=a.alloc (.cells #[d,c,j,i,e,h,f,g] 144)/\Below a.heap.size a b/\b.heap.size=a.heap.size+1/\b.heap[a.heap.size]?=some (.cells #[d,c,j,i,e,h,f,g] 144):=
 ⟨_,rfl,jT br _,si,YO a _⟩
def Dc{e:a_}{c:Pl.mW}(a:Pl.lj e c 0):(c.kd=0\/c.kd=2)/\(c.cnt=0->c.l7=0)/\(c.many=0->c.to_=0):=by
 rcases a with⟨_,_,a⟩|⟨_,a⟩
 .omega
 .rcases a with⟨_,⟨b,rfl,_⟩|⟨_,_,a⟩⟩|⟨_,⟨b,rfl,_⟩|⟨_,_,a⟩⟩|⟨_,⟨b,rfl,_⟩|⟨_,_,a⟩⟩|⟨_,⟨b,rfl,_⟩|⟨_,_,a⟩⟩|⟨_,⟨b,rfl,_⟩|⟨_,_,a⟩⟩|⟨_,⟨b,rfl,_⟩|⟨_,_,a⟩⟩|⟨_,⟨b,rfl,_⟩|⟨_,_,a⟩⟩|⟨_,⟨b,rfl,_⟩|⟨_,_,a⟩⟩|⟨_,⟨b,rfl,_⟩|⟨_,_,a⟩⟩|⟨_,⟨b,rfl,_⟩|⟨_,_,a⟩⟩|⟨_,_,a⟩
  all_goals try (exfalso;omega)
  all_goals refine⟨?_,λd=>?_,λd=>?_⟩
  all_goals first
   |exact .inl rfl
   |exact .inr rfl
   |rfl
   |exact absurd d (show¬((1:Nat)=0)by decide)
   |exact absurd (show Pl.wd e 3=0 from d) (li b.2.1)
   |exact absurd (show Pl.wd e 7=0 from d) (li b.2.2.2.1)
def VF(a:Nat)(b:a<256):a%128+128=a|||128:=by
 have:∀a:Fin 256,a.val%128+128=a.val|||128:=by decide+kernel
 exact this ⟨a,b⟩
def Fj(g:b_)(B:Nat)(c:Nat->Nat)(p:pL)(D:j4)(left:lw)(safe:Nat)(bL:Nat->a_)(bK:Nat->Bool)(b:a_)(n:Pl.mW)(k:Nat)(M:j3 g B c p D left safe bL bK)(x:Pl.lj b n k)(ae:0<b.size)(I:rR D n k≠0):
 Calls prog 106 #[π p.r,.string b] g λd J=>d=.returned (.tuple #[.string<|Bm b<|rR D n k,.bool false])/\Below g.heap.size g J:=by
 have Z:=Pl.kG b;have K:=Pl.kz b 0;have X:(0:Int)<(b.size:Int):=om;have S:=x9;have dY:=h_ M;have W:=Yn M.dev;have N:Int.tmod ((Pl.j2 b 0:Nat):Int) 128=((Pl.j2 b 0%128:Nat):Int):=(abR _ 128).symm;have C:=h_<|VF (Pl.j2 b 0) K;obtain⟨b0,s⟩:=j5<|Pl.j2 b 0%128;have U:b0<128:=om;rw[<-s]at N C;have ac:=h_ s
 have jo:Hid (∀k,ByteArray.mk #[UInt8.ofNat<|b0+128,UInt8.ofNat k]=Bm b k):=λk=>by
  unfold Bm;rw[C.o];congr 3;have:(UInt8.ofNat (Pl.j2 b 0)|||128)=UInt8.ofNat (Pl.j2 b 0|||128):=by rw[UInt8.ofNat_or];rfl
  exact this.symm
 have l:=h_ x;have F:=h_ I;obtain⟨ab,r⟩:=j5<|rR D n k;rw[<-r];have A:=h_ r;clear M x I s r
 go_enter func106,ntmps106
 go_wp2_with fail
 refine(yj b g).mono ?_;rintro d w1 ⟨T,ad,i,rfl,z,y,Y,gM⟩;obtain⟨rfl,rfl⟩:=y.eq l.o;obtain⟨a,fT,rfl,_⟩:=i_ z;refine Vp ?_;intro V er fp i1 fo fm b3 bS b5 b4 b8 b9 b' b7 bX a6 fU;clear z y fp fo gM;by_cases j:i=0
 .subst j;obtain⟨Q,t,E⟩:=Dc l.o;rcases tR l.o with⟨_,e⟩|⟨w,_⟩
  .have h:rR D T 0=2:=by
    have:=F.o;unfold rR at this⊢;rw[Yo om]at this⊢;by_cases f:hasB D T=true
    .rw[Ys f]at this;exact absurd rfl this
    .rw[Yo f]
   have u:¬(T.l7+T.cnt<=D.sz T.kA)\/¬(T.to_+T.many<=D.sz T.kd):=by
    by_cases f:hasB D T=true
    .have:=F.o;unfold rR at this;rw[Yo om,Ys f]at this;exact absurd rfl this
    .unfold hasB at f;simp only[Zw,Zq]at f;omega
   have cn:=h_<|A.o.trans h;have gN:=e.kA;have dj:=e.kd;have jp:=e.l7;have jn:=e.cnt;have jr:=e.VA;have jq:=e.many;have o:=h_<|And.intro t E;clear Q t E h e;by_cases v:T.l7+T.cnt<=D.sz T.kA
   .have m:¬(T.to_+T.many<=D.sz T.kd):=om;have O:((T.many:Int)==0)=false:=by rw[aaS];intro d;have:=o.o.2 om;omega
    clear u
    go_wp2_with fail
    refine Kg ?_;clear er;rintro d ag ⟨rfl,rfl⟩;rw[YW v]
    go_wp2_with fail
    refine Kp ?_;rintro d L ⟨rfl,rfl⟩;rw[YZ m];exact Kx
   .have aa:((T.cnt:Int)==0)=false:=by rw[aaS];intro d;have:=o.o.1 om;omega
    clear u
    go_wp2_with fail
    refine Kg ?_;clear er;rintro d ag ⟨rfl,rfl⟩;rw[YZ v]
    go_wp2_with fail
    refine Kp ?_;rintro d L ⟨rfl,rfl⟩;by_cases m:T.to_+T.many<=D.sz T.kd
    .rw[YW m];exact Kx
    .have O:((T.many:Int)==0)=false:=by rw[aaS];intro d;have:=o.o.2 om;omega
     rw[YZ m];exact Kx
  .omega
 .have h:rR D T i=i:=by unfold rR;rw[Ys j]
  have cn:=h_<|A.o.trans h
  have R:i=1\/i=3:=by
   rcases tR l.o with⟨P,_⟩|⟨w,_⟩
   .exact absurd P j
   .exact w
  clear j h;rcases R with rfl|rfl
  all_goals
   go_wp2_with fail
   rw[<-er];clear er;go_wp2
   go_ret2
   exact⟨by rw[cn.o,<-jo.o];rfl,jT fm.o _⟩
def Fl(b:j4)(a:Pl.mW)(c:Nat):Int:=if a.fn=22 then((maskN (b.ent 2 a.to_).toNat (a.vals.getD 0 0).toNat (a.vals.getD 1 0).toNat:Nat):Int)else a.vals.getD c 0
def rQ(c:j4)(a:Pl.mW)(e:Nat):Nat->Nat->Int:=λd b=>if d=a.kd/\a.to_<=b/\b<a.to_+e then Fl c a (b-a.to_)else c.ent d b
def Au(a:j4)(b:Pl.mW):rQ a b 0=a.ent:=by funext i k;unfold rQ;rw[Yo om]
def zV(e:j4)(a:Pl.mW)(c d b:Nat):rQ e a (c+1) d b=if d=a.kd/\b=a.to_+c then Fl e a c else rQ e a c d b:=by
 unfold rQ;by_cases g:d=a.kd/\b=a.to_+c
 .obtain⟨rfl,rfl⟩:=g;rw[Ys om,Ys ⟨rfl,rfl⟩];congr 1;omega
 .rw[Yo g];by_cases f:d=a.kd/\a.to_<=b/\b<a.to_+c
  .rw[Ys f,Ys om]
  .rw[Yo f,Yo om]
def Av{h:a_}(b:j4)(a:Pl.mW)(e:Lj h a):rQ b a a.many=mh b a:=by
 rcases e.kind with⟨f,j,l,_,_,rfl⟩|⟨c,g⟩
 .funext i k;unfold rQ mh Fl qp;simp only[Y_];by_cases d:i=2/\k=f
  .rw[Ys om,Ys d]
  .rw[Yo om,Yo d]
 .funext i k;unfold rQ mh Fl zo;rw[Yo c,Yo c,g]
def LS(a b:f_)(c:b_):(callFunc 135 #[a,b]).run prog c=.ok (.enter 135 #[a,b]) c:=kr
def vt{f:b_}{k d g:Nat}{e:Option Addr}{c:List Int}(h:f.ownsRow k 3 1 (.slice e d g) d<|c.flatMap ka)(o:c.length=d)(a:Nat)(p:a<d):∃b,e=some (μ b 0)/\b<f.heap.size/\f.cell? (μ b a)=some (ν<|c.getD a 0):=by
 let⟨m,j,i,n⟩:=i_ h;obtain⟨rfl,rfl⟩:e=m/\g=j:=by simpa using i
 obtain⟨b,rfl,l,q⟩:=n a om;refine⟨b,rfl,l,?_⟩;have:=h.cellAt a om;rw[this,p5 _ a (c.getD a 0)];rw[Yt,Yw om];rfl
def Fo(c:b_)(i:Nat)(e:Nat->Nat)(d:pL)(b:j4)(left:lw)(h:Nat)(m:Nat->a_)(o:Nat->Bool)(a:Pl.mW)(g:Option Addr)(k j:Nat)(r:j3 c i e d b left h m o)(v:a.kA<4)(q:a.l7+a.cnt<=b.sz a.kA)(p:b.sz a.kA<=60)(s:n4 b.ent):
 Calls prog 135 #[π d.r,u1 a<|.slice g k j] c λf n=>∃u,f=.returned u/\(u=.string (rY<|pw b.ent a)/\Below c.heap.size c n):=by
 rcases Zj a.kA 2 with t|t
 .refine(Fh c i e d b left h m o a g k j r t q p s).mono ?_;rintro f n ⟨rfl,l⟩;exact⟨_,rfl,rfl,l⟩
 .refine(Da c i e d b left h m o a g k j r v om q p s).mono ?_;rintro f n ⟨rfl,l⟩;exact⟨_,rfl,rfl,l⟩
def OJ(a b:a_)(i:0<a.size):a.extract 0 1++rY b=Ai a b:=by
 unfold rY Ai
 have e:a.extract 0 1=⟨#[UInt8.ofNat<|Pl.j2 a 0]⟩:=by
  have f:(a.extract 0 1).size=1:=by rw[YM];omega
  apply Z6;apply Array.ext
  .exact f
  .intro g h d;obtain rfl:g=0:=by simp at d;exact d
   have c:=Pl.kG (a.extract 0 1) 0 om;rw[Pl.ld a 0 1 0 om om]at c;show(a.extract 0 1)[0]=UInt8.ofNat (Pl.j2 a 0);rw[<-c];simp
 rw[e,<-ByteArray.append_assoc];rfl
def Dd(v:b_)(B:Nat)(c:Nat->Nat)(p:pL)(D:j4)(left:lw)(safe:Nat)(bL:Nat->a_)(bK:Nat->Bool)(s:a_)(d:Pl.mW)(M:j3 v B c p D left safe bL bK)(az:Pl.lj s d 0)(a5:0<s.size)(bq:s.size<=253)(ah:hasB D d=true)(am:∀i,i<4->D.sz i<=60)(au:n4 D.ent):
 Calls prog 106 #[π p.r,.string s] v λe O=>e=.returned (.tuple #[.string<|oH (mh D d) s d,.bool<|decide (0<d.many)&&decide (d.to_<D.kp d.kd)])/\j3 O B c p {D with ent:=mh D d} left safe bL bK/\Fc c 3 v O:=by
 have dY:=h_ M;have a8:=Yn M.dev;have ac:=h_ az;have X:=h_ am;have ao:=h_ au;obtain⟨al,aV⟩:d.l7+d.cnt<=D.sz d.kA/\d.to_+d.many<=D.sz d.kd:=by unfold hasB at ah;simpa only[Zw,Zq]using ah
 clear M az ah am au
 go_enter func106,ntmps106
 go_wp2_with fail
 refine(yj s v).mono ?_;rintro e w1 ⟨T,r,bl,rfl,W,aA,a',gM⟩;obtain⟨rfl,rfl⟩:=aA.eq ac.o;obtain⟨a,fT,rfl,a3⟩:=i_ W;refine Vp ?_;intro V er fp i1 fo fm b3 bS b5 b4 b8 b9 b' b7 bX a6 fU;have aa:=h_<|jY W fp;have aC:=h_ fo;clear W aA fp fo gM a3;obtain⟨iN,aF,aX⟩:=Dc ac.o;rcases tR ac.o with⟨_,l⟩|⟨bu,_⟩
 rotate_left
 .omega
 have gN:=l.kA;have dj:=l.kd;have jp:=l.l7;have jn:=l.cnt;have jr:=l.VA;have jq:=l.many;have Q:=h_ l;clear l aF aX
 go_wp2_with fail
 refine Kg ?_;clear er;rintro e ag ⟨rfl,rfl⟩;rw[YW al]
 go_wp2_with fail
 refine Kp ?_;rintro e ab ⟨rfl,rfl⟩;rw[YW aV];have bg:=(dY.o.kA T.kd dj).lt;have bz:=X.o T.kd dj;clear b3 bS b5 b4 b8 b9 b' b7 bX;obtain⟨b3,bS,b5,b4,b8,b9,b',b7,bX⟩:=kq aC.o
 go_wp2_with fail
 go_loopw [10,11] (λa1 i wr=>∃q:Nat,q<=T.many/\i=ν q/\a1=.bool (decide (0<q/\T.to_<D.kp T.kd))/\j3 wr B c p {D with ent:=rQ D T q} left safe bL bK/\kf (p.G T.kd) ab wr) (λ_ i _=>T.many-(intOf i).toNat)
 case atStart=>exact⟨0,YG _,rfl,si,by rw[Au];exact fU.o,kf.refl _ _⟩
 case round=>
  obtain⟨q,bf,rfl,rfl,j,t⟩:=hrel;obtain⟨b,R⟩:=j5<|decide (0<q/\T.to_<D.kp T.kd);have dZ:Hid<|decide (0<q+1/\T.to_<D.kp T.kd)=(b||decide (T.to_+q<D.kp T.kd)):=by show _=_;rw[R,<-Bool.decide_or];apply aba.2;omega
  rw[<-R];have aZ:=h_ R;clear R;have bB:=t.size;have L:=(t.block w1.heap.size om om).trans aC.o;clear b3 bS b5 b4 b8 b9 b' b7 bX;obtain⟨b3,bS,b5,b4,b8,b9,b',b7,bX⟩:=kq L;have u:wr.ownsRow v.heap.size 3 1 (.slice a T.vals.length fT) T.vals.length<|T.vals.flatMap ka:=jV aa.o λU aB=>t.block U (aa.o.lt U aB).2<|li<|(aa.o.lt U aB).1;have N:=h_ j;have Y:=h_ t;have ai:=h_ L;by_cases mY:q<T.many
  .have o:=j.tq dj;have bd:(q:Int)<(T.many:Int):=om;have bk:(T.to_:Int)+(q:Int)<(D.sz T.kd:Int):=om;have bE:((T.to_:Int)+(q:Int)).toNat=T.to_+q:=om;have bs:IntKind.i64.wrap ((T.to_:Int)+(q:Int))=(T.to_:Int)+(q:Int):=wo;have bn:0<=(T.to_:Int)+(q:Int):=om;obtain⟨bx,aj⟩:=(j.kA T.kd dj).block;have w:wr.frozen? (μ (p.G T.kd)<|T.to_+q)=false:=Y2 _ _ _ _ _ aj;have aw:=h_ w;have ap:=h_ o;have aY:=h_ (j.C8 dj (k:=T.to_+q) (by show T.to_+q<D.sz T.kd;omega));have a9:=Yn j.dev;have bt:(T.kd:Int)<4:=om;clear t L aj w o;have a0:∃dS:Int,dS=Fl D T q:=⟨_,rfl⟩;obtain⟨dS,F⟩:=a0;have jK:=h_ F;rcases Q.o.kind with⟨aD,y,K,aH,a2,x⟩|⟨av,aK⟩
   .have f1:T.fn=22:=by rw[x]
    have f2:T.kd=2:=by rw[x]
    have f3:T.many=1:=by rw[x]
    have f4:T.vals=[((y:Nat):Int),((K:Nat):Int)]:=by rw[x]
    have ae:q=0:=om;have aW:wr.cell? (μ p.r 11)=_:=j.tq (i:=2) om;have aO:=ao.o 2 T.to_;obtain⟨g,ar⟩:∃g:Nat,g=(D.ent 2 T.to_).toNat:=⟨_,rfl⟩
    have aS:wr.cell? (μ (p.G 2) T.to_)=some (ν g):=by
     have:=j.C8 (i:=2) om (k:=T.to_) (by show T.to_<D.sz 2;rw[<-f2];omega);rw[this];have aM:rQ D T q 2 T.to_=(g:Int):=by rw[ae,Au];omega
     show some (ν<|rQ D T q 2 T.to_)=_;rw[aM]
    have aR:g<65536:=om;obtain⟨A,rfl,aI,z⟩:=vt u rfl 0 (by rw[f4];simp);have ax:wr.cell? (μ A 0)=some (ν y):=by rw[z,f4];rfl
    have aQ:wr.cell? (μ A 1)=some (ν K):=by
     obtain⟨aG,aN,_,aL⟩:=vt u rfl 1 (by rw[f4];simp);obtain rfl:A=aG:=by simpa using aN
     rw[aL,f4];rfl
    have aq:T.vals.length=2:=nY f4;have aP:((T.fn:Int)==22)=true:=nY f1;have aT:((maskN g y K:Nat):Int)=dS:=by rw[F];unfold Fl;rw[Ys f1,f4,<-ar];rfl
    have bv:(T.to_:Int)<(D.sz 2:Int):=by rw[<-f2];omega
    have aJ:wr.cell? (μ A q)=some (ν y):=by rw[ae];exact ax
    have bj:(q:Int)<2:=om;rw[aq]at bX;clear F x f1 f4 f3 ar z u aO j f2 aq ae
    go_wp2_with fail
    go_quiet (first|(go_at_call 134;refine abV<|C_ g y K _ aR aH a2))
    rw[aT];obtain⟨m,E⟩:=j5<|wr.drewN nq;have J:Below wr.heap.size wr m:=by rw[E];exact YL br _
    rw[<-E];have af:=h_<|N.o.below J;have a4:=h_<|Y.o.trans<|kf.jX (p.G T.kd) J;have ay:=h_<|(J.block w1.heap.size om).trans ai.o;have w:m.frozen? (μ (p.G T.kd)<|T.to_+q)=false:=by rw[E];exact aw.o
    have o:m.cell? (μ p.r<|9+T.kd)=some (ω (p.G T.kd) (D.sz T.kd)<|D.sz T.kd):=by rw[E];exact ap.o
    have S:=af.o.C8 dj (k:=T.to_+q) (by show T.to_+q<D.sz T.kd;omega);clear E J b3 bS b5 b4 b8 b9 b' b7 bX ax aQ aW aS aJ;obtain⟨b3,bS,b5,b4,b8,b9,b',b7,bX⟩:=kq ay.o
    go_wp2_with fail
    go_region
    obtain⟨Z,h⟩:=j5<|(m.setCell (μ (p.G T.kd)<|T.to_+q)<|ν dS).drew;have n:kf (p.G T.kd) m<|m.setCell (μ (p.G T.kd)<|T.to_+q)<|ν dS:=(kf.refl _ _).setCell _ _;have C:=oo (v:=dS) (af.o.kA T.kd dj) (t:=T.to_+q) (by show T.to_+q<D.sz T.kd;omega)
    have fq:Hid<|j3 Z B c p {D with ent:=rQ D T<|q+1} left safe bL bK:=by
     rw[h];refine j3.below (af.o.put (f:=rQ D T<|q+1) dj n (C.congr λi _ _ _=>?_) λi k hne=>?_)<|YL br 1
     .exact QH
     .exact RS
    have eH:Hid<|kf (p.G T.kd) ab Z:=by rw[h];exact(a4.o.trans n).drewN 1
    have hZg:Z.heap[w1.heap.size]?=m.heap[w1.heap.size]?:=by rw[h];exact Yp m (μ (p.G T.kd)<|T.to_+q) w1.heap.size _ (by show w1.heap.size≠p.G T.kd;omega)
    rw[<-h];clear h n C b3 bS b5 b4 b8 b9 b' b7 bX o w S;obtain⟨b3,bS,b5,b4,b8,b9,b',b7,bX⟩:=kq<|hZg.trans ay.o;exact U5
   .obtain⟨A,rfl,aI,z⟩:=vt u rfl q om;have aP:((T.fn:Int)==22)=false:=nU;have ak:T.vals.getD q 0=dS:=by rw[F];unfold Fl;rw[Yo av]
    have bp:(q:Int)<(T.vals.length:Int):=om;rw[ak]at z;clear F ak aK av u j
    go_wp2_with fail
    have o:=ap.o;have w:=aw.o;have S:=aY.o
    go_region
    obtain⟨Z,h⟩:=j5<|(wr.setCell (μ (p.G T.kd)<|T.to_+q)<|ν dS).drew;have n:kf (p.G T.kd) wr (wr.setCell (μ (p.G T.kd)<|T.to_+q)<|ν dS):=(kf.refl _ _).setCell _ _;have C:=oo (v:=dS) (N.o.kA T.kd dj) (t:=T.to_+q) (by show T.to_+q<D.sz T.kd;omega)
    have fq:Hid<|j3 Z B c p {D with ent:=rQ D T<|q+1} left safe bL bK:=by
     rw[h];refine j3.below (N.o.put (f:=rQ D T<|q+1) dj n (C.congr λi _ _ _=>?_) λi k hne=>?_)<|YL br 1
     .exact QH
     .exact RS
    have eH:Hid<|kf (p.G T.kd) ab Z:=by rw[h];exact(Y.o.trans n).drewN 1
    have hZg:Z.heap[w1.heap.size]?=wr.heap[w1.heap.size]?:=by rw[h];exact Yp wr (μ (p.G T.kd)<|T.to_+q) w1.heap.size _ (by show w1.heap.size≠p.G T.kd;omega)
    rw[<-h];clear h n C b3 bS b5 b4 b8 b9 b' b7 bX o w S z;obtain⟨b3,bS,b5,b4,b8,b9,b',b7,bX⟩:=kq<|hZg.trans ai.o;exact U5
  .have ad:q=T.many:=om;have hX:Hid<|j3 wr B c p {D with ent:=mh D T} left safe bL bK:=by have:=N.o;rw[ad,Av D T Q.o]at this;exact this
   have i3:Hid<|(decide (0<T.many)&&decide (T.to_<D.kp T.kd))=b:=by show _=_;rw[aZ.o,ad,Bool.decide_and]
   have i2:Hid<|Fc c 3 v wr:=(Fc.jX fm.o).Bk Y.o<|.inr<|dY.o.cG _ dj;have bi:¬(q:Int)<(T.many:Int):=om;have bo:(1:Int)<=(s.size:Int):=om;clear t j L u ad;rcases Q.o.fn with(f|f|f)|⟨f|f,a7⟩|⟨f1,f2,f3,f4,f5⟩
   .exact S2
   .exact S2
   .exact S2
   .exact QD
   .exact QD
   .obtain⟨I,P⟩:=j5<|pw (mh D T) T;have gO:Hid<|oH (mh D T) s T=s.extract 0 1++rY I:=by show _=_;unfold oH;rw[Yo om,Yo om,OJ s _ a5,P]
    have bb:((T.fn:Int)==5)=false:=nU;have bm:((T.fn:Int)==6)=false:=nU;have be:((T.fn:Int)==22)=false:=nU;have bA:((T.fn:Int)==15)=false:=nU;have bc:((T.fn:Int)==16)=false:=nU;have aU:Hid (∀g:Nat,Calls prog 135 #[π p.r,u1 T<|.slice a T.vals.length fT] (wr.drewN g) λe O=>∃r,e=.returned r/\(r=.string (rY I)/\Below (wr.drewN g).heap.size (wr.drewN g) O)):=λg=>by rw[P];exact Fo (wr.drewN g) B c p {D with ent:=mh D T} left safe bL bK T a T.vals.length fT (hX.o.below<|YL (Below.refl _ wr) g) gN al (X.o _ gN) (Bn ao.o Q.o)
    have bh:(rY I).size<=300:=by unfold rY;rw[Zd,P];have:=tS (mh D T) T<|li<|X.o _ gN;show 1+_<=300;omega
    have bD:(s.extract 0 1).size=1:=by rw[YM];omega
    have bw:¬9223372036854775807<1+(rY I).size:=om;clear f1 f2 f3 f4 f5 P
    go_wp2_with fail
    go_region_law (refine ki rfl 135 #[.tmp 157,.tmp 158] #[50,144] rfl #[π p.r,u1 T<|.slice a T.vals.length fT] (by simp[Act.eval,u1]) (LS _ _ _) _ (aU.o 1) ?_;rintro r bC ⟨rfl,an⟩)
    all_goals
     have aE:=h_ an;clear an;go_wp2
     go_ret2
     exact⟨by rw[gO.o,i3.o];rfl,(hX.o.below<|YL (Below.refl _ wr) 1).below aE.o,(i2.o.drewN 1).kt aE.o⟩
def De(h:b_)(k:Nat)(f:Nat->Nat)(g:pL)(a:j4)(left:lw)(i:Nat)(l:Nat->a_)(n:Nat->Bool)(e:a_)(b:Pl.mW)(d:Nat)(q:j3 h k f g a left i l n)(v:Pl.lj e b d)(w:0<e.size)(A:e.size<=253)(x:∀u,u<4->a.sz u<=60)(z:n4 a.ent):
 Calls prog 106 #[π g.r,.string e] h λo m=>o=.returned (.tuple #[.string<|vm a e b d,.bool<|tj a b d])/\j3 m k f g {a with ent:=tn a b d} left i l n/\Fc f 3 h m:=by
 by_cases c:rR a b d=0
 .have C:d=0:=by unfold rR at c;split at c<;>omega
  subst C
  have y:hasB a b=true:=by
   unfold rR at c;rw[Yo om]at c;by_cases t:hasB a b=true
   .exact t
   .rw[Yo t]at c;omega
  refine(Dd h k f g a left i l n e b q v w A y x z).mono ?_;rintro o m ⟨rfl,j,B⟩;have r:vm a e b 0=oH (mh a b) e b:=by unfold vm;rw[Ys c]
  have p:tn a b 0=mh a b:=by unfold tn;rw[Ys c]
  have s:tj a b 0=(decide (0<b.many)&&decide (b.to_<a.kp b.kd)):=by unfold tj;rw[YW c,abd]
  rw[r,p,s];exact⟨rfl,j,B⟩
 .refine(Fj h k f g a left i l n e b d q v w c).mono ?_;rintro o m ⟨rfl,j⟩;have r:vm a e b d=Bm e (rR a b d):=by unfold vm;rw[Yo c]
  have p:tn a b d=a.ent:=by unfold tn;rw[Yo c]
  have s:tj a b d=false:=by unfold tj;rw[YZ c,abS]
  rw[r,p,s];exact⟨rfl,q.below j,Fc.jX j⟩
def Ip(b c:Nat)(a:a_):r3 b++r3 0++r3 (a.size+1)++(⟨#[UInt8.ofNat c]⟩++a)=rh b c a:=by unfold rh;rw[<-ByteArray.append_assoc];rfl
def Fp(c:Int)(a:Nat)(f:c=a)(b:b_)(e:a<65536):Calls prog 136 #[ν c] b λd g=>d=.returned (.string<|r3 a)/\Below b.heap.size b g:=by subst f;exact C9 a b e
def Bt(a:b_)(E:Nat)(u:Nat->Nat)(j:pL)(g:j4)(left:lw)(D:Nat)(J:Nat->a_)(B:Nat->Bool)(e b d:Nat)(q c:a_)(i:j3 a E u j g left D J B)(x:e<g.nl)(Q:g.nl<=4)(p:(g.ln e).kind=0)(F:b<65536)(T:d<256)(Z:c.size<=300):
 Calls prog 107 #[π j.r,ν e,.agg #[ν b,ν d,.string q],.string c] a λh K=>h=.returned (.string<|rh b d c)/\Below a.heap.size a K:=by
 let⟨o,f⟩:=j5<|a.alloc<|.cells #[ν b,ν d,.string q] 94;have k:=ba f;have R:o.heap.size=a.heap.size+1:=by rw[f];simp
 have r:=v' f;let⟨_,_,_,A,_,_,_,_,_,_,_,_,M⟩:=i.cells;have s:=i.Cd e x;let⟨L,t⟩:=i.Aq;have P:=Yn t;have v:a.cell? (μ j.lb e)=some (ν 0):=by rw[s,p];rfl
 clear s;have W:(e:Int)<(g.nl:Int):=om;have y:=B_;have C:=h_ k;have U:=h_ r;have V:¬9223372036854775807<(ByteArray.mk #[UInt8.ofNat d]).size+c.size:=by show¬_<1+_;omega
 clear i k r t p
 go_enter func107,ntmps107
 go_wp2_with fail
 rw[<-f];clear f;refine(Fp _ b rfl _ F).mono ?_;rintro h N ⟨rfl,l⟩;have w:=h_<|jZ C<|jZ (jT (Below.refl _ o) _) l;clear l y A v
 go_wp2_with fail
 refine(Fp _ 0 rfl _ om).mono ?_;rintro h S ⟨rfl,n⟩;have I:=h_<|jZ w n;clear n;have aa:(r3 b).size=2:=rfl;have O:(r3 0).size=2:=rfl;have X:(r3<|c.size+1).size=2:=rfl;have Y:(ByteArray.mk #[UInt8.ofNat d]).size=1:=rfl
 go_wp2_with fail
 refine(Fp _ (c.size+1) so _ om).mono ?_;rintro h ab ⟨rfl,m⟩;have z:=h_<|jZ I m;clear m;go_wp2;go_ret;exact⟨by rw[<-Ip];rfl,z⟩
def zx(a:a_)(l:b_)(F:a.size<=4194304):
 Calls prog 71 #[.string a] l λm s=>∃(q:Nat) (o:a_) (n:Int),m=.returned (.tuple #[.agg #[ν 0,ν q,.string o],ν n])/\Pl.qD a q o n/\Below l.heap.size l s:=by
 have x:=Pl.kG a;by_cases A:a.size<4
 .have HK:Pl.qD a 0 ⟨#[]⟩ 4:=.inr ⟨λM=>by have:=M.1;omega,rfl,rfl,rfl⟩
  go_enter func71,ntmps71
  exact NQ
 .by_cases D:256<a.size
  .have HK:Pl.qD a 0 ⟨#[]⟩ 4:=.inr ⟨λM=>by have:=M.2.1;omega,rfl,rfl,rfl⟩
   go_enter func71,ntmps71
   exact NQ
  .obtain⟨b,r⟩:∃b,a.size=b+2:=⟨a.size-2,om⟩;have z:(a.size:Int)-2=b:=om;have E:(a.size:Int)-1=b+1:=om;have C:b<a.size:=om;have t:b+1<a.size:=om;have b0:=Pl.kz a b;have y:=Pl.kz a<|b+1;have u:=Pl.kz a 0;have e:Hid<|a.size=b+2:=r;clear r
   go_enter func71,ntmps71
   go_wp2_with fail
   refine(uv _ _ (by unfold maxLen;simp;omega)).mono ?_;rintro m w ⟨rfl,rfl⟩;obtain⟨c,h⟩:=j5<|Pl.wb (a.extract 0 b).data.toList;have B:c<65536:=by rw[h];exact Pl.EE _
   rw[<-h];have j:Hid<|c=Pl.wb (a.extract 0 b).data.toList:=h;clear h;by_cases f:Pl.j2 a b=c%256
   .have t1:((Pl.j2 a b:Int)!=(c:Int)%256)=false:=so;by_cases i:Pl.j2 a (b+1)=c/256
    .have t2:((Pl.j2 a (b+1):Int)!=(c:Int)/256)=false:=so
     have HK:Pl.qD a (Pl.j2 a 0) (a.extract 1 b) 0:=.inl ⟨⟨om,om,by
      have d:a.size-2=b:=li e.out;have g:a.size-1=b+1:=li e.out
      rw[d,g,<-j.out,f,i];omega⟩,rfl,by have d:a.size-2=b:=li e.out;rw[d],rfl⟩
     clear f i;go_wp2
     go_region
     all_goals go_wp2
     all_goals
      refine Yx (v:=.tuple #[.agg #[ν 0,ν<|Pl.j2 a 0,.string<|a.extract 1 b],ν 0]) (by simp[results,results71,go_sem]) rfl ⟨_,_,0,rfl,HK,?_⟩;exact(br.alloc kM _).drew
    .have t2:((Pl.j2 a (b+1):Int)!=(c:Int)/256)=true:=so
     have HK:Pl.qD a 0 ⟨#[]⟩ 4:=.inr ⟨λM=>i (by
      have k:=M.2.2;have d:a.size-2=b:=li e.out;have g:a.size-1=b+1:=li e.out;rw[d,g,<-j.out]at k
      omega),rfl,rfl,rfl⟩
     clear f i;exact NQ
   .have t1:((Pl.j2 a b:Int)!=(c:Int)%256)=true:=so
    have HK:Pl.qD a 0 ⟨#[]⟩ 4:=.inr ⟨λM=>f (by
     have k:=M.2.2;have d:a.size-2=b:=li e.out;have g:a.size-1=b+1:=li e.out;rw[d,g,<-j.out]at k
     omega),rfl,rfl,rfl⟩
    clear f;exact NQ
def Bu(a:b_)(z:Nat)(v:Nat->Nat)(p:pL)(f:j4)(left:lw)(y:Nat)(A:Nat->a_)(x:Nat->Bool)(d o u:Nat)(n b:a_)(M:j3 a z v p f left y A x)(w:d<f.nl)(L:f.nl<=4)(l:(f.ln d).kind=1)(O:u<256)(R:b.size<=300):
 Calls prog 107 #[π p.r,ν d,.agg #[ν o,ν u,.string n],.string b] a λe B=>e=.returned (.string<|p7 u b)/\Below a.heap.size a B:=by
 obtain⟨_,_,_,K,_,_,_,_,_,_,_,_,I⟩:=M.cells;have r:=M.Cd d w;obtain⟨F,s⟩:=M.Aq;have J:=Yn s;have C:a.cell? (μ p.lb d)=some (ν 1):=by rw[r,l];rfl
 clear r;have Q:(d:Int)<(f.nl:Int):=om;refine SK ?_;intro c1 ib ie;refine Kj ?_;intro dC;obtain⟨j,h⟩:=j5<|(⟨#[UInt8.ofNat u]⟩:a_)++b;obtain⟨c,hc⟩:=j5<|Pl.wb j.data.toList;have E:c<65536:=by rw[hc];exact Pl.EE _
 obtain⟨t,i⟩:=j5<|(a.alloc<|.cells #[ν o,ν u,.string n] 94).alloc<|.cells #[.int .u8 (u:Nat)] 5;have js:Hid<|Below a.heap.size a t:=by rw[i];exact jT (jT (Below.refl a.heap.size a) _) _
 have m:p7 u b=j++⟨#[UInt8.ofNat<|c%256,UInt8.ofNat<|c/256]⟩:=by unfold p7;rw[<-h,<-hc]
 have jt:=h_ m;have HC:=h_ hc;rw[<-h]at dC;have D:=KS;have P:IntKind.u8.wrap ((c%256:Nat):Int)=((c%256:Nat):Int):=by rw[aaf];omega
 have N:IntKind.u8.wrap ((c/256:Nat):Int)=((c/256:Nat):Int):=by rw[aaf];omega
 clear M s l m hc
 go_enter func107,ntmps107
 go_wp2_with fail
 rw[<-i,<-h];clear i h;refine(uv j t ml).mono ?_;exact Rz
def Df(c:b_)(j:Nat)(h:Nat->Nat)(g:pL)(a:j4)(left:lw)(i:Nat)(k:Nat->a_)(m:Nat->Bool)(b d f:Nat)(l e:a_)(r:j3 c j h g a left i k m)(q:b<a.nl)(o:a.nl<=4)(x:(a.ln b).kind<=1)(u:d<65536)(p:f<256)(s:e.size<=300):
 Calls prog 107 #[π g.r,ν b,.agg #[ν d,ν f,.string l],.string e] c λt v=>t=.returned (.string<|Sg (a.ln b).kind d f e)/\Below c.heap.size c v:=by
 unfold Sg;rcases(show(a.ln b).kind=0\/(a.ln b).kind=1 by omega)with w|n
 .rw[Yo om];exact Bt c j h g a left i k m b d f l e r q o w u p s
 .rw[Ys n];exact Bu c j h g a left i k m b d f l e r q o n p s
section
variable {w w':b_}{B:Nat}{c c':Nat->Nat}{p:pL}{D:j4}{left:lw}{A0:Nat}{ys:Nat->a_}{zs:Nat->Bool}
def j3.Sh{wv' lv':f_}{vs':List f_}{D':j4}{left':lw}{n:Nat}(M:j3 w B c p D left A0 ys zs)(I:w.heap.size<=w'.heap.size)(x:∀a,a<w.heap.size->a≠p.r->p.wv.ownBlock≠some a->p.lv.ownBlock≠some a->w'.heap[a]?=w.heap[a]?)(b:mD w c c')(y:w'.heap[p.r]?=some (.cells (C7 {p with wv:=wv',lv:=lv',vs:=vs'} D' n) 48))
 (v:D'.sz=D.sz) (A:D'.ent=D.ent) (l:D'.nl=D.nl) (z:D'.ln=D.ln) (C:w'.ownsRow B 113 3 wv' D'.wait.length<|D'.wait.flatMap ng) (F:w'.ownsRow B 28 1 lv' left'.length vs') (E:∀(m:Nat) (g:List Int),left'[m]?=some g->∃h,vs'[m]?=some h/\w'.ownsRow B 3 1 h g.length (g.flatMap ka)/\∀a,h.ownBlock=some a->c' a=4) (q:∀a,wv'.ownBlock=some a->c' a=3) (r:∀a,lv'.ownBlock=some a->c' a=3):
 j3 w' B c' {p with wv:=wv',lv:=lv',vs:=vs'} D' left' n ys zs:=by
 let⟨s,k⟩:=M.Aq
 have e:∀{a:Nat}{cur:Array f_}{t:d_},w.heap[a]?=some (.cells cur t)->t≠48->t≠113->t≠28->w'.heap[a]?=w.heap[a]?:=λ{a cur t} hg t1 t2 t3=>by
  refine x a (Yn hg) (km hg M.dev t1) (λf=>?_) λf=>?_
  .let⟨u,j⟩:=jU M.wt a f;exact km hg j t2 rfl
  .let⟨u,j⟩:=jU M.lf a f;exact km hg j t3 rfl
 have hl:=e k dc dc dc;refine⟨y,λi hi=>?_,M.inj,⟨s,hl.trans k⟩,λi hi=>?_,?_,?_,C,F,E,(b _ (Yn M.dev)).trans M.cr,λi hi=>(b _ (M.kA i hi).lt).trans<|M.cG i hi,(b _ M.qI.lt).trans M.cy,(b _ M.tf.lt).trans M.cz,q,r,(b _ (Yn k)).trans M.cb,M.lo.1,M.lo.2.1,M.lo.2.2.1,M.lo.2.2.2.1,YH M.lo.2.2.2.2 I⟩
 .let⟨o,d⟩:=(M.kA i hi).block;rw[v,A];exact(M.kA i hi).same (e d dc dc dc)
 .rw[l]at hi;rw[z];exact Gz
 .let⟨o,d⟩:=M.qI.block;rw[l];exact M.qI.same<|e d dc dc dc
 .let⟨o,d⟩:=M.tf.block;rw[l];exact M.tf.same (e d dc dc dc)
end
def Tryz.GR:(prog.info? 28).map (λa=>(a.zero,a.size,a.bytes))=some (some σ,1,24):=kr
def Tryz.yk:(prog.info? 113).map (λa=>(a.zero,a.size,a.bytes))=some (some (.agg #[ν 0,.string ⟨#[]⟩,ν 0]),3,32):=kr
def Iq(a:Nat):Bool:=decide (a=5)||decide (a=6)||decide (a=15)||decide (a=16)||decide (a=22)
def o'(d:j4)(e b:Nat)(a:a_):Bool:=decide ((d.ln e).kind=1)&&decide (b=0)&&Iq (Pl.j2 a 0)
def yl(b:j4)(e a:Nat)(d:a_):Bool:=decide (a=b.unit)||o' b e a d
def mG (R:j4)(i m u:Nat)(s:a_):j4:=if o' R i u s=true then ks R s else{ks R s with wait:=R.wait++[mf R i m s]}
def nB(a:j4):Bool:=decide (a.uns=0)||decide (a.batch<=a.uns)||decide (a.batch<=a.wait.length)
def m3 (R:j4)(i m u:Nat)(s:a_):j4:=if yl R i u s=true then(if nB (mG R i m u s)=true then{mG R i m u s with uns:=0,wait:=[]}else mG R i m u s)else R
def mZ (R:j4)(i m u:Nat)(s:a_):List (Int×Int×a_):=if yl R i u s=true/\nB (mG R i m u s)=true then(mG R i m u s).wait else []
def py (R:j4)(i u:Nat)(s:a_)(left:List<|List Int):List (List Int):=if yl R i u s=true then left++[kC (ks R s).ent (R.kp 0)<|R.kp 2]else left
def pN (R:j4)(i m u:Nat)(s:a_)(A0:Nat):Nat:=if yl R i u s=true/\nB (mG R i m u s)=true then R.arr+1 else A0
def j3.as{w:b_}{B A0:Nat}{c:Nat->Nat}{p:pL}{D b:j4}{left:lw}{ys:Nat->a_}{zs:Nat->Bool}(a:j3 w B c p D left A0 ys zs)(f:b.sz=D.sz)(k:b.kp=D.kp)(o:b.unit=D.unit)(d:b.nl=D.nl)(i:b.batch=D.batch)(h:b.ent=D.ent)(l:b.uns=D.uns)(m:b.wait=D.wait)(n:∀e,(b.ln e).kind=(D.ln e).kind):j3 w B c p b left A0 ys zs:=by
 have g:C7 p b A0=C7 p D A0:=by unfold C7;rw[f,k,o,d,i,l]
 refine⟨by rw[g];exact a.dev,by rw[f,h];exact a.kA,a.inj,a.Aq,λe j=>by rw[n];exact a.Cd e (by rw[<-d];exact j),by rw[d];exact a.qI,by rw[d];exact a.tf,by rw[m];exact a.wt,a.lf,a.GH,a.cr,a.cG,a.cy,a.cz,a.cw,a.cl,a.cb,a.lo⟩
structure xn(D:j4):Prop where
 sz:∀i,i<4->D.sz i<=60
 ent:n4 D.ent
 xe:D.kp 0<=D.sz 0
 xg:D.kp 2<=D.sz 2
 unit:1<=D.unit/\D.unit<=247
 batch:1<=D.batch/\D.batch<=8
 nl:1<=D.nl/\D.nl<=4
 wl:D.wait.length<D.batch
 un:D.uns<D.batch
def Tt{D:j4}(a:xn D)(b:a_)(e:b.size<=253):(vm D b (kv b).1 (kv b).2).size<=253:=
 CW {D with wait:=[],uns:=0,lat:=0,stamp:=0,arr:=0,sec:=max 1<|((D.kp 0+7)/8+2*D.kp 2+61)/62} b _ _ ⟨a.sz,a.ent,a.xe,a.xg,a.unit,a.batch,a.nl,YG _,YG _,rfl,a.batch.1,a.batch.1,λ_=>rfl,.nil,λf d=>by cases d⟩ (nz b) e
def OK(w:b_)(B:Nat)(c:Nat->Nat)(p:pL)(D:j4)(left:lw)(A0:Nat)(ys:Nat->a_)(zs:Nat->Bool)(b e a:Nat)(d:a_)(j:Ending)(g:b_):Prop:=
 ∃i f h,j=.returned i/\g.ownsRow B 113 3 i (mZ D b e a d).length ((mZ D b e a d).flatMap ng)/\j3 g B h f (m3 D b e a d) (py D b a d left) (pN D b e a d A0) ys zs/\mD w c h/\Fc c 3 w g/\f.r=p.r/\f.lb=p.lb/\f.cap=p.cap
section
variable {w X w3:b_}{B:Nat}{c:Nat->Nat}{p:pL}{D:j4}{left:lw}{A0:Nat}{ys:Nat->a_}{zs:Nat->Bool}
def j3.GS{g d:f_}{l:List Int}{z:Nat}(M:j3 w B c p D left A0 ys zs)(x:Below w.heap.size w X)(C:w3.ownsRow B 28 1 d (left.length+1)<|p.vs++[g])(b:X.grownBy w3 p.lv.ownBlock)(h9:∀s,d.ownBlock=some s->p.lv.ownBlock=some s\/X.heap.size<=s)
 (n:w.ownsRow z 3 1 g l.length<|l.flatMap ka) (J:B<=z) (L:∀a,g.ownBlock=some a->c a=4):
 j3 (w3.setCell (μ p.r 17) d) B (kU w c 3) {p with lv:=d,vs:=p.vs++[g]} D (left++[l]) A0 ys zs/\(∀a,a<w.heap.size->a≠p.r->p.lv.ownBlock≠some a->(w3.setCell (μ p.r 17) d).heap[a]?=w.heap[a]?)/\w.heap.size<=w3.heap.size:=by
 have U:=x.size;have T:=b.size;have I:=Yn M.dev;have hY:p.lv.ownBlock≠some p.r:=λe=>by let⟨O,m⟩:=jU M.lf _ e;exact km m M.dev dc rfl
 have u:∀a,a<w.heap.size->a≠p.r->p.lv.ownBlock≠some a->(w3.setCell (μ p.r 17) d).heap[a]?=w.heap[a]?:=λa f h i=>by rw[Yp w3 (μ p.r 17) a d h,b.block a om (λe=>i e.symm)];exact x.block a f
 have E:=((b.block p.r om (λe=>hY e.symm)).trans<|x.block p.r I).trans M.dev;have K:p.vs.length=left.length:=li M.lf.1
 have q:∀{a:Nat}{cur:Array f_}{t:d_},w.heap[a]?=some (.cells cur t)->t≠48->t≠28->(w3.setCell (μ p.r 17) d).heap[a]?=w.heap[a]?:=λ{a cur t} f h i=>u a (Yn f) (km f M.dev h) (λe=>by
  let⟨O,m⟩:=jU M.lf _ e
  exact km f m i rfl)
 refine⟨M.Sh so (λa f h _ i=>u a f h i) (jW w c 3) (YB w3 p.r 17 _ 48 d E) rfl rfl rfl rfl (jV M.wt λa b=>?_) ?_ (λv y j=>?_) (λa b=>?_) (λa b=>?_),u,om⟩
 .let⟨A,k⟩:=jU M.wt a b;exact q k dc dc
 .rw[Yv,Zn];refine jV C λa bM=>Yp w3 (μ p.r 17) a d λe=>?_;exact RN
 .rcases Zj v left.length with F|S
  .rw[YK F]at j;let⟨R,N,o,Q⟩:=M.GH v y j;refine⟨R,by rw[YK om];exact N,jV o λa bM=>?_,λa bM=>by rw[jW w c 3 a (o.lt a bM).2];exact Q a bM⟩;let⟨A,k⟩:=jU o a bM;exact q k dc dc
  .have P:v=left.length:=by have:=(Yr.1 j).1;simp at this;omega
   subst P;rw[YP kM,abk]at j;obtain rfl:l=y:=by simpa using j
   refine⟨g,by rw[YP om,K,abk];rfl,jV (j9 n J) λa bM=>?_,λa bM=>by rw[jW w c 3 a (n.lt a bM).2];exact L a bM⟩;let⟨A,k⟩:=jU n a bM;exact q k dc dc
 .rw[jW w c 3 a (M.wt.lt a b).2];exact M.cw a b
 .rcases h9 a b with r|r
  .rw[jW w c 3 a (M.lf.lt a r).2];exact M.cl a r
  .exact kB w c 3 a om
def j3.OL{f:f_}{a:Sv}(M:j3 w B c p D left A0 ys zs)(m:Below w.heap.size w X)(s:w3.ownsRow B 113 3 f (D.wait.length+1)<|D.wait.flatMap ng++ng a)(d:X.grownBy w3 p.wv.ownBlock)(h9:∀l,f.ownBlock=some l->p.wv.ownBlock=some l\/X.heap.size<=l):
 j3 (w3.setCell (μ p.r 15) f) B (kU w c 3) {p with wv:=f} {D with wait:=D.wait++[a]} left A0 ys zs/\w.heap.size<=w3.heap.size:=by
 have L:=m.size;have K:=d.size;have v:=Yn M.dev;have hY:p.wv.ownBlock≠some p.r:=λe=>by let⟨A,j⟩:=jU M.wt _ e;exact km j M.dev dc rfl
 have q:∀b,b<w.heap.size->b≠p.r->p.wv.ownBlock≠some b->(w3.setCell (μ p.r 15) f).heap[b]?=w.heap[b]?:=λb g h i=>by rw[Yp w3 (μ p.r 15) b f h,d.block b om (λe=>i e.symm)];exact m.block b g
 have u:=((d.block p.r om (λe=>hY e.symm)).trans<|m.block p.r v).trans M.dev
 have o:∀{b:Nat}{cur:Array f_}{t:d_},w.heap[b]?=some (.cells cur t)->t≠48->t≠113->(w3.setCell (μ p.r 15) f).heap[b]?=w.heap[b]?:=λ{b cur t} g h i=>q b (Yn g) (km g M.dev h) (λe=>by
  let⟨A,j⟩:=jU M.wt _ e
  exact km g j i rfl)
 refine⟨M.Sh so (λb g h i _=>q b g h i) (jW w c 3) (YB w3 p.r 15 _ 48 f u) rfl rfl rfl rfl ?_ (jV M.lf λb d=>?_) (λE x C=>?_) (λb d=>?_) (λb d=>?_),om⟩
 .have e:(D.wait++[a]).length=D.wait.length+1:=si;have F:(D.wait++[a]).flatMap ng=D.wait.flatMap ng++ng a:=si;rw[e,F];refine jV s λb bM=>Yp w3 (μ p.r 15) b f λe=>?_;exact RN
 .let⟨y,n⟩:=jU M.lf b d;exact o n dc dc
 .let⟨J,z,k,I⟩:=M.GH E x C;refine⟨J,z,jV k λb bM=>?_,λb bM=>by rw[jW w c 3 b (k.lt b bM).2];exact I b bM⟩;let⟨y,n⟩:=jU k b bM;exact o n dc dc
 .rcases h9 b d with r|r
  .rw[jW w c 3 b (M.wt.lt b r).2];exact M.cw b r
  .exact kB w c 3 b om
 .rw[jW w c 3 b (M.lf.lt b d).2];exact M.cl b d
def j3.Tu(M:j3 w B c p D left A0 ys zs)(a:Nat):j3 (w.setCell (μ p.r 16)<|ν a) B c p {D with uns:=a} left A0 ys zs:=by
 have ai:kf p.r w<|w.setCell (μ p.r 16)<|ν a:=(kf.refl _ _).setCell _ _;have i:∀(b:f_) (d:d_) (h f:Nat) (e:List f_),w.ownsRow B d h b f e->d≠48->(w.setCell (μ p.r 16)<|ν a).ownsRow B d h b f e:=λb d h f e aO he=>jV aO λg hg=>by exact RC
 refine M.xl ai (mD.refl _ _) (YB w p.r 16 _ 48 _ M.dev) rfl rfl rfl rfl (i _ _ _ _ _ M.wt dc) (i _ _ _ _ _ M.lf dc) (λk m j=>?_) M.cw M.cl;obtain⟨b,o,l,n⟩:=M.GH k m j;exact⟨b,o,i _ _ _ _ _ l dc,n⟩
end
def pz(w:b_)(d:List f_)(f:d_):∀a b,d[a]?=some b->(w.alloc<|.cells d.toArray f).cell? (((μ w.heap.size 0):Addr).add a)=some b:=λa b g=>by
 have e:((μ w.heap.size 0):Addr).add a=(μ w.heap.size a):=by by_cases h:a=0<;>simp[Addr.add,h]
 rw[e,Yu _ _ _ _ _ _ (YO w _)];simpa using g
def Aw(w:b_)(B:Nat)(c:Nat->Nat)(p:pL)(D:j4)(left:lw)(A0:Nat)(ys:Nat->a_)(zs:Nat->Bool)(f g d:Nat)(b:a_)(M:j3 w B c p D left A0 ys zs)(a8:xn D)(bx:f<D.nl)(bR:(D.ln f).kind<=1)(ak:Pl.Oa (g,d,b))(bG:left.length=D.arr+1)(c5:D.arr<=900000):
 Calls prog 70 #[π p.r,ν f,.agg #[ν g,ν d,.string b]] w (OK w B c p D left A0 ys zs f g d b):=by
 obtain⟨cL,b8,cB,cI,ck⟩:=Y4 Tryz.GR;obtain⟨b9,cc,cN,cb,cq⟩:=Y4 Tryz.yk;have b4:g<65536:=ak.1;have b7:d<256:=ak.2.1;have cY:0<b.size:=ak.2.2.1;have bQ:b.size<=253:=ak.2.2.2;have c0:=Yn M.dev;have cf:=a8.nl;have dp:(f:Int)<(D.nl:Int):=om;have df:=Pl.kG b;have cw:=Pl.kz b 0;obtain⟨X,ae⟩:=j5<|w.alloc<|.cells #[ν g,ν d,.string b] 94;have Z:=ba ae;refine HD ?_;intro bH;have aT:=v' ae;have aW:=h_<|M.below Z;obtain⟨_,_,Q,cS,_,_,_,_,_,_,_,_,c3⟩:=aW.o.cells;have bK:=aW.o.Cd f bx;obtain⟨de,bB⟩:=aW.o.Aq;have dm:=Yn bB;obtain⟨a4,aa,ao,aY⟩:=l8 aT;have P:=h_ M;have n:=h_ a8;have cg:=h_ Z;have bo:=h_ aT;have cU:=h_ bH;have aS:=h_ bG;have cm:=h_ bR;obtain⟨cM,bF⟩:=j5<|tj D (kv b).1 (kv b).2;have a':=h_ bF;obtain⟨h,az⟩:=j5<|Pl.j2 b 0;have cC:=h_ az;have dl:h<256:=by rw[az];exact cw
 obtain⟨au,a1⟩:=j5<|(D.ln f).kind;rw[<-a1]at bK;have bZ:o' D f d b=(decide (au=1)&&decide (d=0)&&Iq h):=by unfold o';rw[az,a1]
 have aJ:=h_ bZ;clear bB M a8 Z aT bG bR ak bH az a1 bZ bF
 go_enter func70,ntmps70
 go_upto_region 2 with fail
 rw[<-ae]
 try rw[<-cC.o]
 clear ae
 go_cut [7,8]from 16 to 50 (λ_ ag r=>ag=.bool (o' D f d b)/\r=X)
 case first=>
  by_cases ab:au=1
  .have cy:((au:Int)==1)=true:=so;by_cases aw:d=0
   .have cj:((d:Int)==0)=true:=so;have dT:=h_ (show o' D f d b=Iq h by rw[aJ.o];simp[ab,aw]);clear ab aw;by_cases R:h=5
    .have f5:((h:Int)==5)=true:=so;have s:=h_ (show o' D f d b=true by rw[dT.o];simp[Iq,R]);clear R;go_wp2
     go_meet
     exact⟨by rw[s.o],rfl⟩
    .have f5:((h:Int)==5)=false:=nU;by_cases N:h=6
     .have f6:((h:Int)==6)=true:=so;have s:=h_ (show o' D f d b=true by rw[dT.o];simp[Iq,N]);clear R N;go_wp2
      go_meet
      exact⟨by rw[s.o],rfl⟩
     .have f6:((h:Int)==6)=false:=nU;by_cases I:h=15
      .have f15:((h:Int)==15)=true:=so;have s:=h_ (show o' D f d b=true by rw[dT.o];simp[Iq,I]);clear R N I;go_wp2
       go_meet
       exact⟨by rw[s.o],rfl⟩
      .have f15:((h:Int)==15)=false:=nU;by_cases V:h=16
       .have f16:((h:Int)==16)=true:=so;have s:=h_ (show o' D f d b=true by rw[dT.o];simp[Iq,V]);clear R N I V;go_wp2
        go_meet
        exact⟨by rw[s.o],rfl⟩
       .have f16:((h:Int)==16)=false:=nU;obtain⟨q,S⟩:=j5<|decide (h=22)
        have f22:((h:Int)==22)=q:=by
         rw[S];by_cases e:h=22
         .simp[e]
         .rw[YZ e,aaS];omega
        have s:=h_ (show o' D f d b=q by rw[dT.o,S];simp[Iq,R,N,I,V]);clear R N I V S;go_wp2
        go_meet
        exact⟨by rw[s.o],rfl⟩
   .have cj:((d:Int)==0)=false:=nU;have s:=h_ (show o' D f d b=false by rw[aJ.o];simp[aw]);clear ab aw;go_wp2
    go_meet
    exact⟨by rw[s.o],rfl⟩
  .have cy:((au:Int)==1)=false:=nU;have s:=h_ (show o' D f d b=false by rw[aJ.o];simp[ab]);clear ab;go_wp2
   go_meet
   exact⟨by rw[s.o],rfl⟩
 case rest=>
  obtain⟨rfl,cO⟩:=hcut;subst cO;obtain⟨X,rfl⟩:=j5 wc;obtain⟨aR,aO⟩:=j5<|o' D f d b;have aH:=h_ aO;rw[<-aO];clear aO
  go_upto_region 3 with fail
  go_cut [62]from 51 to 61 (λag r=>ag=.bool (!yl D f d b)/\Below X.heap.size X r)
  case first=>
   have o:yl D f d b=(decide (d=D.unit)||aR):=by unfold yl;rw[aH.o]
   by_cases y:d=D.unit
   .have cA:((d:Int)!=(D.unit:Int))=false:=by simp[y]
    have dT:=h_ (show(!yl D f d b)=false by rw[o];simp[y]);clear y o;exact Cb
   .have cA:((d:Int)!=(D.unit:Int))=true:=so;have dT:=h_ (show(!yl D f d b)= !aR by rw[o];simp[y]);clear y o;exact Cb
  case rest=>
   obtain⟨rfl,am⟩:=hcut;obtain⟨a9,rfl⟩:=j5 wc;obtain⟨b5,o⟩:=j5<|yl D f d b;have ap:=h_ o;rw[<-o];have aD:=h_<|jZ cg.o am;have bd:=(am.block _ (Yn bo.o)).trans bo.o;have bu:=h_ bd;have b3:Hid<|w.heap.size+1<=a9.heap.size:=by have:=am.size;have:=cU.o;show _<=_;omega
   clear o am a4 aa ao aY Q cS bK;cases b5
   .go_wp2;go_ret;refine⟨σ,p,c,rfl,?_,?_,mD.refl _ _,Fc.jX aD.o,rfl,rfl,rfl⟩
    .unfold mZ;rw[<-ap.o,Yo si];exact Yq _ _ _ _
    .unfold m3 py pN;rw[<-ap.o,Yo si,Yo si,Yo si];exact P.o.below aD.o
   .obtain⟨a4,aa,ao,aY⟩:=l8 bd;have bY:Fc c 3 w a9:=Fc.jX aD.o;clear bd
    go_wp2_with fail
    refine(De a9 B (kU w c 9) p D left A0 ys zs b (kv b).1 (kv b).2 (P.o.frame (k:=9) (Fc.jX aD.o) (jW w c 9) om om om) (nz b) cY bQ n.o.sz n.o.ent).mono ?_;rintro e T ⟨rfl,bX,aF⟩;rw[<-a'.o];have cG:=h_<|bY.trans aF<|jW w c 9;have aL:=h_ bX;have cV:Hid<|T.heap[w.heap.size]?=some (.cells #[ν g,ν d,.string b] 94):=(aF.keep _ _ _ bu.o (.inl dc) (by rw[kB w c 9 _ kM];omega)).trans bu.o;have dk:w.heap.size+1<=T.heap.size:=by have:=aF.size;have:=b3.o;omega
    clear bX aF bY
    go_wp2_with fail
    refine(Ar T B (kU w c 9) p {D with ent:=tn D (kv b).1 (kv b).2} left A0 ys zs aL.o n.o.sz n.o.xe n.o.xg).mono ?_;rintro e j ⟨cZ,rfl,aG,ac⟩;obtain⟨u,x,rfl,_⟩:=i_ aG;have dv:=ac.size;obtain⟨z,aB⟩:=j5<|kU T (kU w c 9) 4;have cE:Hid<|mD w c z:=by rw[aB];exact(jW w c 9).trans (jW T _ 4) om
    have U:Hid<|j3 j B z p {D with ent:=tn D (kv b).1 (kv b).2} left A0 ys zs:=aL.o.frame (k:=9) (Fc.jX ac) (by rw[aB];exact jW T _ 4) om om om;have cn:=h_<|cG.o.kt ac;have bV:Hid<|j.heap[w.heap.size]?=some (.cells #[ν g,ν d,.string b] 94)/\z w.heap.size=9:=⟨(ac.block _ om).trans cV.o,by rw[aB,jW T _ 4 _ om,kB w c 9 _ kM]⟩;have cQ:=h_ aG;have cP:Hid (∀t,Value.ownBlock (.slice u (D.kp 0+D.kp 2) x)=some t->z t=4):=λt W=>by rw[aB];exact kB _ _ _ _ (aG.lt t W).1
    obtain⟨_,_,_,_,_,_,_,_,_,bw,_,bN,bn⟩:=U.o.cells;obtain⟨ah,a7⟩:=j5<|j.alloc<|.cells #[.slice u (D.kp 0+D.kp 2) x] 28;have Y:=ba a7;have bm:Hid<|ah.ownsRow B 28 1 p.lv left.length p.vs:=jV U.o.lf λt W=>Y.block t (U.o.lf.lt t W).2;have bD:Hid (∀m d,([.slice u (D.kp 0+D.kp 2) x]:List f_)[m]?=some d->ah.cell? (((μ j.heap.size 0):Addr).add m)=some d):=by rw[a7];exact pz j [.slice u (D.kp 0+D.kp 2) x] 28
    have cJ:B<=ah.heap.size:=by have:=U.o.lo.2.2.2.2;have:=Y.size;omega
    have d17:=((ke Y).1 _ 17 bn).trans bw;have a6:∀m,ah.frozen? (μ p.r m)=false:=λm=>((ke Y).2 _ m bn).trans<|bN m;have dy:left.length<=900001:=p1 aS.o;have bv:p.lv.ownBlock≠some p.r:=λe=>by obtain⟨cl,hcl⟩:=jU U.o.lf _ e;exact km hcl U.o.dev dc rfl
    have b':p.r<ah.heap.size:=li Y.size;subst a7;clear aG ac Y
    go_upto_region 8 with(at_builtin;go_must (refine j7 rfl (.tmp 76) (.tmp 78) 24 rfl B 28 cL _ 1 24 underlying24 b8 cB cI ck rfl dc p.lv left.length p.vs rfl bm.o (μ j.heap.size 0) 1 1 [.slice u (D.kp 0+D.kp 2) x] rfl rfl bD.o (by simp[Value.oneCell']) ml om cJ ?_;intro dn w3 a3 af _ bJ;have cW:=af.cell d17 (by exact bv.symm);have cu:∀m,w3.frozen? (μ p.r m)=false:=λm=>(aaI<|af.block p.r b' bv.symm).trans<|a6 m;obtain⟨J,L,rfl,_⟩:=i_ a3))
    have aP:Below j.heap.size j<|j.alloc<|.cells #[.slice u (D.kp 0+D.kp 2) x] 28:=jT br _;obtain⟨av,bM,dh⟩:=U.o.GS (l:=kC (tn D (kv b).1 (kv b).2) (D.kp 0)<|D.kp 2) aP a3 af bJ (by rw[pd];exact cQ.o) (li aL.o.lo.2.2.2.2) cP.o;have a0:Fc c 3 w<|w3.setCell (μ p.r 17)<|.slice J (left.length+1) L:=((cn.o.kt aP).grown af λt W=>.inr<|P.o.cl t W).setCell p.r 17 (.inr P.o.cr) _;have a2:Hid<|(w3.setCell (μ p.r 17)<|.slice J (left.length+1) L).heap[w.heap.size]?=some (.cells #[ν g,ν d,.string b] 94)/\kU j z 3 w.heap.size=9:=⟨(bM _ om om (λe=>by have:=(P.o.lf.lt _ e).2;omega)).trans bV.o.1,by rw[jW j z 3 _ om];exact bV.o.2⟩;have bW:Hid<|mD w c<|kU j z 3:=cE.o.trans (jW j z 3) om;obtain⟨bi,aQ⟩:=j5<|w3.setCell (μ p.r 17)<|.slice J (left.length+1) L;have bl:bi.heap.size=w3.heap.size:=by rw[aQ];simp
    rw[<-aQ]at av a0 a2⊢;have bq:=h_ av;have bP:=h_ a0;obtain⟨_,_,_,_,_,_,_,_,dg,_,_,dt,db⟩:=av.cells;clear av a0 bM a3 af bJ cW cu aQ aP bm bD d17 a6 bw bN;have c4:IntKind.i64.wrap ((D.uns:Int)+1)=((D.uns+1:Nat):Int):=by have:=n.o.un;have:=n.o.batch;rw[aao];omega
    go_upto_if 82 with fail
    go_cut []from 82 to 89 (λr=>j3 r B (kU j z 3) {p with lv:=.slice J (left.length+1) L,vs:=p.vs++[.slice u (D.kp 0+D.kp 2) x]} (ks D b) (left++[kC (tn D (kv b).1 (kv b).2) (D.kp 0)<|D.kp 2]) A0 ys zs/\Fc c 3 w r/\r.heap[w.heap.size]?=some (.cells #[ν g,ν d,.string b] 94)/\r.heap.size=w3.heap.size)
    case first=>
     cases cM
     .go_wp2_with fail
      go_meet
      exact⟨bq.o.as rfl rfl rfl rfl rfl rfl (by show(if tj D (kv b).1 (kv b).2=true then D.uns+1 else D.uns)=D.uns;rw[<-a'.o];rfl) rfl (λ_=>rfl),bP.o,a2.o.1,bl⟩
     .go_wp2_with fail
      go_meet
      refine⟨(bq.o.Tu<|D.uns+1).as rfl rfl rfl rfl rfl rfl (by show(if tj D (kv b).1 (kv b).2=true then D.uns+1 else D.uns)=D.uns+1;rw[<-a'.o];rfl) rfl (λ_=>rfl),bP.o.setCell p.r 16 (.inr P.o.cr) _,?_,by simp;exact bl⟩;rw[Yp bi (μ p.r 16) _ _ (by show w.heap.size≠p.r;omega)];exact a2.o.1
    case rest=>
     obtain⟨bL,bp,aM,c8⟩:=hcut;obtain⟨cp,rfl⟩:=j5 wc;obtain⟨b0,bg,bk,_⟩:=l8 aM;have aq:=h_ bL;have aN:=h_ bp;have ds:=h_ aM;clear bL bp aM a4 aa ao aY;have dd:=n.o.unit;have c9:=Tt n.o b bQ
     go_upto_if 91 with fail
     go_cut [12]from 90 to 114 (λ_ r=>∃Q F E,j3 r B Q {p with lv:=.slice J (left.length+1) L,vs:=p.vs++[.slice u (D.kp 0+D.kp 2) x],wv:=.slice F (mG D f g d b).wait.length E} (mG D f g d b) (left++[kC (tn D (kv b).1 (kv b).2) (D.kp 0)<|D.kp 2]) A0 ys zs/\Fc c 3 w r/\mD w c Q)
     case first=>
      cases aR
      .have y:d=D.unit:=by have C:=ap.o;unfold yl at C;rw[<-aH.o]at C;simpa using C.symm
       have ar:mG D f g d b={ks D b with wait:=D.wait++[mf D f g b]}:=by unfold mG;rw[<-aH.o];rfl
       have cv:=h_ ar;have cs:=h_ y;clear ar y
       go_wp2_with fail
       refine(Df cp B (kU j z 3) _ (ks D b) _ A0 ys zs f g d b (vm D b (kv b).1 (kv b).2) aq.o bx cf.2 cm.o b4 b7 om).mono ?_;rintro e K ⟨rfl,al⟩;obtain⟨aC,aU⟩:=j5<|Sg ((ks D b).ln f).kind g d<|vm D b (kv b).1 (kv b).2;rw[<-aU];have cK:Hid<|mf D f g b=(((D.arr+1:Nat):Int),((f:Nat):Int),aC):=by rw[aU,cs.o];exact rfl
       have ad:=h_<|aq.o.below al;have cT:=h_<|aN.o.kt al;have c1:=al.size;obtain⟨_,_,_,_,d8,_,_,d15,d16,d17,_,a6,ch⟩:=ad.o.cells;have ia:Hid<|K.ownsRow B 113 3 p.wv D.wait.length<|D.wait.flatMap ng:=ad.o.wt;have HDV:Hid<|K.heap[p.r]?=some (.cells (C7 {p with lv:=.slice J (left.length+1) L,vs:=p.vs++[.slice u (D.kp 0+D.kp 2) x]} (ks D b) A0) 48):=ad.o.dev;have ci:p.wv.ownBlock≠some p.r:=λe=>by exact RY
       have dq:B<=K.heap.size:=ad.o.lo.2.2.2.2;have an:D.wait.length<=8:=by have:=n.o.wl;have:=n.o.batch;omega
       have dj:IntKind.i64.wrap (left.length:Int)=((D.arr+1:Nat):Int):=by rw[aS.o,aao];omega
       clear b0 bg bk al aU
       go_upto_region 12 with fail
       go_region_law (first
        |(refine na rfl (.tmp 101) (.tmp 111) 46 rfl B 113 b9 _ 3 32 underlying46 cc cN cb cq rfl dc p.wv D.wait.length (D.wait.flatMap ng) rfl ((jV ia.o λt _=>rfl).alloc _) (μ K.heap.size 0) 1 1 [_,_,_] rfl rfl (mm _ _ _ _ _) (by intro d y;simp at y;rcases y with rfl|rfl|rfl<;>rfl) ml om so ?_;intro da O bs aZ cX;obtain⟨F,E,rfl,_⟩:=i_ bs;have bT:=(aZ.block p.r so (λe=>ci e.symm)).trans ((YQ _ _ (by exact ch)).trans HDV.o);have c2:O.cell? (μ p.r 15)=some p.wv:=cr bT;have f6:∀m,O.frozen? (μ p.r m)=false:=λm=>Y2 _ _ _ _ _ bT))
       all_goals
        go_wp2
        go_meet
        have Z:Below K.heap.size K (K.alloc<|.cells #[ν f,.string aC,ν<|(D.arr:Int)+1] 113).drew:=(jT br _).drew;have cz:=(ad.o.OL (a:=(((D.arr+1:Nat):Int),((f:Nat):Int),aC)) Z bs aZ cX).1;rw[cv.o,cK.o];refine⟨_,F,E,?_,((cT.o.kt Z).grown aZ λt W=>.inr<|P.o.cw t W).setCell p.r 15 (.inr P.o.cr) _,bW.o.trans (jW K _ 3)<|li aN.o.size⟩;rw[show(D.wait++[((((D.arr+1:Nat):Int),((f:Nat):Int),aC):Sv)]).length=D.wait.length+1 by simp];exact cz
      .have ar:mG D f g d b=ks D b:=by unfold mG;rw[<-aH.o];rfl
       go_wp2_with fail
       go_meet
       obtain⟨F,E,N,_⟩:=i_ aq.o.wt;have cF:p.wv=.slice F (ks D b).wait.length E:=N;rw[ar];refine⟨_,F,E,?_,aN.o,bW.o⟩;have:=aq.o;rw[<-cF];exact this
     case rest=>
      obtain⟨Q,F,E,ay,bC,bO⟩:=hcut;obtain⟨O,rfl⟩:=j5 wc;obtain⟨i,aI⟩:=j5<|mG D f g d b;rw[<-aI]at ay;have ax:=h_ aI;obtain⟨_,_,_,_,bE,_,_,I,V,_,_,_,dx⟩:=ay.cells;have cd:=h_ ay;have cR:=h_ bC;have bc:=h_ bO
      have c6:i.wait.length<=100/\i.batch<=100/\i.uns<=100:=by
       have C:=n.o.wl;have aj:=n.o.un;have c7:=n.o.batch;have du:(ks D b).uns<=D.uns+1:=by show(if tj D (kv b).1 (kv b).2=true then D.uns+1 else D.uns)<=_;split<;>omega
       have bh:(ks D b).batch=D.batch:=rfl;have b2:(ks D b).wait=D.wait:=rfl;rw[aI];unfold mG;split
       .rw[b2,bh];omega
       .show(D.wait++[mf D f g b]).length<=100/\(ks D b).batch<=100/\(ks D b).uns<=100;rw[bh,Yv,Zn];omega
      have bj:(left++[kC (tn D (kv b).1 (kv b).2) (D.kp 0)<|D.kp 2]).length=D.arr+2:=by rw[Yv,aS.o];rfl
      have bb:=h_ bj;have bf:O.cell? (μ p.r 15)=some (.slice F i.wait.length E):=I;have b1:O.cell? (μ p.r 8)=some (ν i.batch):=bE;have bA:O.cell? (μ p.r 16)=some (ν i.uns):=V;clear ay bC bO aI bE I V bj b0 bg bk;obtain⟨v,aX⟩:=j5 i.uns;obtain⟨A,be⟩:=j5 i.batch;obtain⟨ai,an⟩:=j5 i.wait.length;rw[<-aX]at bA;rw[<-be]at b1;rw[<-an]at bf;have bU:nB i=(decide (v=0)||decide (A<=v)||decide (A<=ai)):=by unfold nB;rw[<-aX,<-be,<-an]
      have aV:=h_ bU;have di:ai<=100:=om;clear aX be an bU
      go_upto_region 13 with fail
      go_cut [144]from 115 to 143 (λag r=>ag=.bool (nB i)/\Below O.heap.size O r)
      case first=>
       by_cases C:v=0
       .have aa:((v:Int)==0)=true:=so;have dT:=h_ (show nB i=true by rw[aV.o];simp[C]);clear C;exact Cb
       .have aa:((v:Int)==0)=false:=nU;have ao:decide ((v:Int)=0)=false:=so;by_cases aj:A<=v
        .have b6:decide ((A:Int)<=(v:Int))=true:=so;have ct:decide (A<=v)=true:=so;have dT:=h_ (show nB i=true by rw[aV.o];simp[aj]);clear C aj;exact Cb
        .have b6:decide ((A:Int)<=(v:Int))=false:=so;have ct:decide (A<=v)=false:=so;obtain⟨q,S⟩:=j5<|decide (A<=ai);have c':decide ((A:Int)<=(ai:Int))=q:=by rw[S];simp
         have cH:decide (A<=ai)=q:=S.symm;have dT:=h_ (show nB i=q by rw[aV.o];rw[cH];simp[C,aj]);clear C aj S;exact Cb
      case rest=>
       obtain⟨rfl,a5⟩:=hcut;obtain⟨cD,rfl⟩:=j5 wc;obtain⟨ce,aK⟩:=j5<|nB i;rw[<-aK];have aA:=h_ aK;have bS:=h_<|cd.o.below a5;have bz:=h_<|cR.o.kt a5;clear b1 bf bA aK a5;have o:=ap.o;cases ce
       .have aE:=h_ o;clear o;go_wp2;go_ret;refine⟨_,{p with lv:=.slice J (left.length+1) L,vs:=p.vs++[.slice u (D.kp 0+D.kp 2) x],wv:=.slice F i.wait.length E},Q,rfl,?_,?_,bc.o,bz.o,rfl,rfl,rfl⟩
        .unfold mZ;rw[<-ax.o,<-aA.o,Yo si];exact Yq _ _ _ _
        .unfold m3 py pN;rw[<-ax.o,<-aA.o,<-aE.o,Ys rfl,Yo si,Ys rfl,Yo si];exact bS.o
       .have aE:=h_ o;clear o
        go_wp2_with fail
        refine(tU cD B Q _ _ _ A0 ys zs bS.o (p1 bb.o) (p1 bb.o)).mono ?_;rintro e dr ⟨rfl,cx,bt,ca,_⟩;go_wp2;go_ret;refine⟨_,{p with lv:=.slice J (left.length+1) L,vs:=p.vs++[.slice u (D.kp 0+D.kp 2) x],wv:=σ},Q,rfl,?_,?_,bc.o,bz.o.trans ca bc.o,rfl,rfl,rfl⟩
        .unfold mZ;rw[<-ax.o,<-aA.o,<-aE.o,Ys ⟨rfl,rfl⟩];exact cx
        .unfold m3 py pN;rw[<-ax.o,<-aA.o,<-aE.o,Ys rfl,Ys rfl,Ys rfl,Ys ⟨rfl,rfl⟩];rw[bb.o,show D.arr+2-1=D.arr+1 by omega]at bt;exact bt
