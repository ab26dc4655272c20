import Derived.Test.YtcpldcojckhapaaGreatRows
import Derived.Test.YtcpldcojckhapaaGreatV0
import Derived.Test.YtcpldcojckhapaaGreatV1
set_option maxRecDepth 100000
set_option maxHeartbeats 16000000
set_option linter.all false
noncomputable section
namespace Go.Proofs.YtcpldcojckhapaaGreat
open Go.Proofs.Tryz Go.RowKit
def ur{b:IntKind}{c a:Int}(d:c=a):Value.int b c=Value.int b a:=by rw[d]
def um{b:IntKind}{c a:Int}(d:c=a):Ending.returned (.int b c)=.returned (.int b a):=by rw[d]
def ke{c f:b_}(g:Below c.heap.size c f):(∀a b,a<c.heap.size->f.cell? (μ a b)=c.cell? (μ a b))/\(∀a b,a<c.heap.size->f.frozen? (μ a b)=c.frozen? (μ a b)):=
 ⟨λa b d=>g.cell d,λa b d=>g.frozen d⟩
def up{b a:Bool}(c:b=a):Ending.returned (.bool b)=.returned (.bool a):=by rw[c]
def jY{w w':b_}{base size n:Nat}{e:d_}{v:f_}{xs:List f_}(b:w.ownsRow base e size v n xs)(j:Below w.heap.size w w'):w'.ownsRow base e size v n xs:=by
 refine⟨b.1,?_⟩;rcases b.2 with l|⟨c,d,h,g,i,a,f,k,p,o⟩
 .exact .inl l
 .exact .inr ⟨c,d,h,g,i,(j.block c<|Yn a).trans a,f,k,p,o⟩
def mm(w:b_)(f g d:f_)(h:d_):∀b c,[f,g,d][b]?=some c->(w.alloc<|.cells #[f,g,d] h).cell? (((μ w.heap.size 0):Addr).add b)=some c:=by
 intro b c a
 match b,a with
 |0,a=>simp at a;subst a;simp[Addr.add]
 |1,a=>simp at a;subst a;simp[Addr.add]
 |2,a=>simp at a;subst a;simp[Addr.add]
def ki{d:e_}{ops:Array Oper}{o:Oper}{a:Act}{w:b_}{K:Act->b_->Prop}{Q:Exit->Act->b_->Prop}{s:Prop}
 (hg:o.guard=none) (c:g_) (xs:Array Operand) (t:Array d_) (j:o.op=Op.call {callee:=Callee.value<|Operand.func c,args:=xs,argTypes:=t})
 (b:Array f_) (i:xs.map a.eval=b) (r:(callFunc c b).run d w=.ok (.enter c b) w)
 (f:f_->b_->Prop) (h:Calls d c b w λe w'=>∃v,e=.returned v/\f v w')
 (l:∀v w',f v w'->K (a.put o.dst v) w'):
 if Region.wanted o (yielded ops a.tmps)=true then Oper.wp d o a w K Q else s:=by
 refine Gv ?_;intro bh;unfold Oper.wp;have:(execOp a.eval o).run d w=.ok (.enter c b) w:=by simp[execOp,j,resolve,invoke,i,r,Act.eval,Deferred.ofValue]
 rw[this,Oper.upon_enter];apply h.mono;rintro e w' ⟨v,rfl,g⟩;exact l v w' g
def nC{h:e_}{ops:Array Oper}{o:Oper}{a:Act}{w:b_}{K:Act->b_->Prop}{Q:Exit->Act->b_->Prop}{S:Prop}
 (hg:o.guard=none) (l j:Operand) (f:d_) (P:o.op=Op.call {callee:=Callee.builtin Builtin.append,args:=#[l,j],argTypes:=#[f,f]})
 (base:Nat) (e:d_) (c:TypeInfo) (r:f_) (size bytes:Nat) (I:h.underlying f=some (.slice e)) (C:h.info? e=some c) (F:c.zero=some r) (E:c.size=size) (u:c.bytes=bytes) (x:r.cells.size=size) (y:0<size)
 (v:f_) (n:Nat) (xs:List f_) (W:a.eval l=v) (V:w.ownsRow base e size v n xs)
 (i:Addr) (m s:Nat) (b:List f_) (R:a.eval j=.slice (some i) m s) (J:b.length=m*size) (O:∀t g,b[t]?=some g->w.cell? (i.add t)=some g) (X:∀g∈b,g.oneCell'=true)
 (D:n+m<=maxLen) (z:(n+m)*bytes<=140737488355328) (T:base<=w.heap.size)
 (A:∀d w',w'.ownsRow base e size d (n+m) (xs++b)->w.grownBy w' v.ownBlock->K (a.put o.dst d) w'):
 if Region.wanted o (yielded ops a.tmps)=true then Oper.wp h o a w K Q else S:=by
 refine Gv ?_;intro bh;exact wp_append_own w l j f P base e c r size bytes I C F E u x y v n xs W V i m s b R J O X D z T λd w' L U _=>A d w' L U
def jT{w a:b_}(b:Below w.heap.size w a)(c:Obj):Below w.heap.size w (a.alloc c):=b.alloc b.size c
def jZ{w a c:b_}(b:Below w.heap.size w a)(d:Below a.heap.size a c):Below w.heap.size w c:=b.trans (d.mono b.size)
def i_{w:b_}{base n size:Nat}{e:d_}{v:f_}{xs:List f_}(g:w.ownsRow base e size v n xs):
 ∃d h,v=.slice d n h/\∀c,c<n->∃a,d=some (μ a 0)/\a<w.heap.size/\∀b,b<n*size->w.cell? (μ a b)=xs[b]?:=by
 rcases g.2 with⟨rfl,rfl⟩|⟨a,i,o,rfl,p,k,l,r,t,s⟩
 .exact⟨none,0,rfl,λc f=>absurd f (Zh _)⟩
 .exact⟨some (μ a 0),i,rfl,λc f=>⟨a,rfl,Yn k,λb j=>g.cellAt b j⟩⟩
def h_{a:Prop}(b:a):Hid a:=b
def q8{w w':b_}(b:w'.heap=w.heap){base size n:Nat}{e:d_}{v:f_}{xs:List f_}(a:w.ownsRow base e size v n xs):w'.ownsRow base e size v n xs:=by unfold World.ownsRow at a⊢;rw[b];exact a
def Reads(w:b_)(B:Nat)(e:d_)(size:Nat)(v:f_)(n:Nat)(xs:List f_):Prop:=
 xs.length=n*size/\((v=σ/\n=0)\/∃a c b,v=ω a n c/\B<=a/\w.heap[a]?=some (.cells b e)/\b.toList.take (n*size)=xs)
section
variable {w w':b_}{B:Nat}{e:d_}{size:Nat}{v:f_}{n:Nat}{xs:List f_}
def Reads.u_(a:w.ownsRow B e size v n xs):Reads w B e size v n xs:=by
 refine⟨a.1,?_⟩;rcases a.2 with h|⟨j,c,g,d,b,f,_,_,_,i⟩
 .exact .inl h
 .exact .inr ⟨j,c,g,d,b,f,i⟩
def Reads.lt(f:Reads w B e size v n xs):∀a,v.ownBlock=some a->B<=a/\a<w.heap.size:=by
 intro a b;rcases f.2 with⟨rfl,_⟩|⟨g,h,i,rfl,c,d,_⟩
 .simp[Value.ownBlock]at b
 .simp[Value.ownBlock]at b;subst b;exact⟨c,Yn d⟩
def Reads.same(b:Reads w B e size v n xs)(j:∀a,v.ownBlock=some a->w'.heap[a]?=w.heap[a]?):Reads w' B e size v n xs:=by
 refine⟨b.1,?_⟩;rcases b.2 with h|⟨a,d,g,rfl,c,f,i⟩
 .exact .inl h
 .exact .inr ⟨a,d,g,rfl,c,(j a rfl).trans f,i⟩
def jV(b:w.ownsRow B e size v n xs)(l:∀a,v.ownBlock=some a->w'.heap[a]?=w.heap[a]?):w'.ownsRow B e size v n xs:=by
 refine⟨b.1,?_⟩;rcases b.2 with j|⟨a,d,i,rfl,c,g,f,h,o,k⟩
 .exact .inl j
 .exact .inr ⟨a,d,i,rfl,c,(l a rfl).trans g,f,h,o,k⟩
def jU(M:w.ownsRow B e size v n xs):∀g,v.ownBlock=some g->∃cur,w.heap[g]?=some (.cells cur e):=by exact Q2
def Reads.block(M:Reads w B e size v n xs):∀g,v.ownBlock=some g->∃cur,w.heap[g]?=some (.cells cur e):=by exact Q2
def Reads.view(o:Reads w B e size v n xs):
 ∃f h,v=.slice f n h/\∀c,c<n->∃a,f=some (μ a 0)/\a<w.heap.size/\∀b,b<n*size->w.cell? (μ a b)=xs[b]?:=by
 rcases o.2 with⟨rfl,rfl⟩|⟨a,i,k,rfl,p,d,l⟩
 .exact⟨none,0,rfl,λc g=>absurd g (Zh _)⟩
 .refine⟨some (μ a 0),i,rfl,λc g=>⟨a,rfl,Yn d,λb j=>?_⟩⟩;rw[Yu w a b k e (0,0) d,<-l,abY,Ys j];simp
end
def Cg(w w':b_)(e:d_)(v:f_)(c:Nat):Prop:=
 ∀a d,v.ownBlock=some a->w.heap[a]?=some (.cells d e)->∃b,w'.heap[a]?=some (.cells b e)/\b.toList.take c=d.toList.take c
def rK{P:e_}(w:b_)(base:Nat)(f o e:d_)(b:TypeInfo)(z:f_)(size bytes:Nat)(s:P.underlying f=some (.slice e))(r:P.info? e=some b)(J:b.zero=some z)
 (U:b.size=size) (I:b.bytes=bytes) (ai:z.cells.size=size) (X:0<size)
 (v:f_) (n:Nat) (xs:List f_) (x:w.ownsRow base e size v n xs)
 (i:Addr) (m l:Nat) (c:List f_) (k:c.length=m*size) (y:∀p h,c[p]?=some h->w.cell? (i.add p)=some h) (O:∀h∈c,h.oneCell'=true)
 (V:n+m<=maxLen) (F:(n+m)*bytes<=140737488355328) (ac:base<=w.heap.size):
 ∃C w',(Builtin.append_ #[f,f] o #[v,.slice (some i) m l]).run P w=.ok C w'/\w'.ownsRow base e size C (n+m) (xs++c)/\w.grownBy w' v.ownBlock/\
  Cg w w' e v (n*size)/\∀g,C.ownBlock=some g->v.ownBlock=some g\/w.heap.size<=g:=by
 let⟨C,w',a,aa,af,_⟩:=run_append_own w base f o e b z size bytes s r J U I ai X v n xs x i m l c k y O V F ac;refine⟨C,w',a,aa,af,?_,?_⟩
 all_goals
  subst U;have aj:n+m<=9223372036854775807:=by simp only[maxLen]at V;omega
 .intro t d M D;rcases x.2 with⟨rfl,_⟩|⟨g,u,W,rfl,ag,L,ad,ah,S,ae⟩
  .simp[Value.ownBlock]at M
  .simp[Value.ownBlock]at M;subst M;rw[D]at L;obtain rfl:d=W:=by simpa using L
   by_cases A:n+m<=u
   .have R:n*b.size+c.length<=d.size:=by rw[k,S,<-abT];exact ZB _ A
    have j:=acg w f o e b s r g n u d D i m l c k y O A R;rw[j]at a;simp only[ZT]at a;obtain⟨rfl,rfl⟩:=a;refine⟨_,aae w g d _ e _ D,?_⟩;rw[abU,aaz];have Y:(d.toList.take<|n*b.size).length=n*b.size:=by rw[ZJ,Y0];omega
    have:=List.take_left (l₁:=d.toList.take<|n*b.size) (l₂:=c++d.toList.drop (n*b.size+c.length));rw[Y]at this;exact this
   .have T:=x.cells rfl;have j:=ach w f o e b z s r J (μ g 0) n u xs x.1 T i m l c k y om om (growslice_fits om (by rw[I];exact F));rw[j]at a;simp only[ZT]at a;obtain⟨rfl,rfl⟩:=a;exact⟨d,(YQ w.drew _ (Yn D)).trans D,rfl⟩
 .intro g E;rcases x.2 with⟨rfl,rfl⟩|⟨t,u,d,rfl,ag,L,ad,ah,S,ae⟩
  .right;by_cases ab:m=0
   .subst ab;have Z:=YV (by simpa using k);subst Z;have:(Builtin.append_ #[f,f] o #[σ,.slice (some i) 0 l]).run P w=.ok σ w:=by simp[Builtin.append_,Zm s,sizeOf,typeInfo,r,Builtin.lenOf,Builtin.firstCells,loadCells,loadCellsFrom]
    rw[this]at a;simp only[ZT]at a;obtain⟨rfl,rfl⟩:=a;simp[Value.ownBlock]at E
   .have j:=run_append_nil w f o e b z s r J i m l c k y om om (by rw[I];simp only[YF]at F;omega);rw[j]at a;simp only[ZT]at a;obtain⟨rfl,rfl⟩:=a;simp[Value.ownBlock]at E;omega
  .by_cases A:n+m<=u
   .have R:n*b.size+c.length<=d.size:=by rw[k,S,<-abT];exact ZB _ A
    have j:=acg w f o e b s r t n u d L i m l c k y O A R;rw[j]at a;simp only[ZT]at a;obtain⟨rfl,rfl⟩:=a;left;simpa[Value.ownBlock]using E
   .have T:=x.cells rfl;have j:=ach w f o e b z s r J (μ t 0) n u xs x.1 T i m l c k y om om (growslice_fits om (by rw[I];exact F));rw[j]at a;simp only[ZT]at a;obtain⟨rfl,rfl⟩:=a;right;simp[Value.ownBlock]at E;omega
def j7{a:e_}{w:b_}{t:Array Oper}{rest:List Oper}{d:Oper}{g:Act}{Q:Exit->Act->b_->Prop}(S:d.guard=none)(r p:Operand)(h:d_)
 (x:d.op=.call {callee:=.builtin .append,args:=#[r,p],argTypes:=#[h,h]})
 (base:Nat) (e:d_) (f:TypeInfo) (l:f_) (size bytes:Nat) (M:a.underlying h=some (.slice e)) (A:a.info? e=some f) (T:f.zero=some l)
 (u:f.size=size) (J:f.bytes=bytes) (Y:l.cells.size=size) (y:0<size)
 (v:f_) (n:Nat) (xs:List f_) (aa:g.eval r=v) (Z:w.ownsRow base e size v n xs)
 (k:Addr) (m o:Nat) (c:List f_) (V:g.eval p=.slice (some k) m o) (U:c.length=m*size) (E:∀s i,c[s]?=some i->w.cell? (k.add s)=some i) (R:∀i∈c,i.oneCell'=true)
 (W:n+m<=maxLen) (I:(n+m)*bytes<=140737488355328) (X:base<=w.heap.size)
 (C:∀b w',w'.ownsRow base e size b (n+m) (xs++c)->w.grownBy w' v.ownBlock->Cg w w' e v (n*size)->(∀j,b.ownBlock=some j->v.ownBlock=some j\/w.heap.size<=j)->wpList a t Q rest (g.put d.dst b) w'):wpList a t Q (d::rest) g w:=by
 refine wpList_plain S λK D=>?_;let⟨b,w',P,F,O,L,z⟩:=rK w base h d.type e f l size bytes M A T u J Y y v n xs Z k m o c U E R W I X;unfold Oper.wp execOp;simp only[x,resolve,invoke,builtin,Zp,ZE,Za,aaF,ZW,aas,aa,V,P];exact D _ _ (C b w' F O L z)
def Reads.append{w w':b_}{B size b n:Nat}{e:d_}{h v:f_}{ys:List f_}(j:Reads w B e size h b ys)(u:w.grownBy w' v.ownBlock)(z:Cg w w' e v<|n*size)
 (r:∀a,h.ownBlock=some a->v.ownBlock=some a->b<=n):Reads w' B e size h b ys:=by
 refine⟨j.1,?_⟩;rcases j.2 with A|⟨a,i,c,rfl,l,f,o⟩
 .exact .inl A
 .by_cases g:v.ownBlock=some a
  .have y:=r a rfl g;let⟨d,p,t⟩:=z a c g f;refine .inr ⟨a,i,d,rfl,l,p,?_⟩;have k:b*size<=n*size:=ZB _ y;rw[<-o];have x:d.toList.take (b*size)=(d.toList.take<|n*size).take (b*size):=by rw[List.take_take,Z8 k]
   have s:c.toList.take (b*size)=(c.toList.take<|n*size).take (b*size):=by rw[List.take_take,Z8 k]
   rw[x,s,t]
  .exact .inr ⟨a,i,c,rfl,l,(u.block a (Yn f) λe=>g e.symm).trans f,o⟩
def xS(w:b_)(B:Nat)(eO e:d_)(size:Nat)(mk:Nat->List f_)(vO:f_)(N:Nat):Prop:=
 ∃Ls,w.ownsRow B eO 1 vO N Ls/\∀a v,Ls[a]?=some v->∃m,m<=2000000/\Reads w B e size v m ((List.replicate m<|mk (a/4*4)).flatten)
def qi(cs:List f_)(size m a b:Nat)(d:cs.length=size)(f:a<m)(h:b<size):((List.replicate m cs).flatten)[a*size+b]?=cs[b]?:=by
 induction m generalizing a with
 |zero=>exact absurd f (Zh _)
 |succ m c=>
  rw[abh,List.flatten_cons]
  cases a with
  |zero=>rw[Z3,YF,YK om]
  |succ a=>have g:(a+1)*size=a*size+size:=aa9 a size;rw[YP om,d,show(a+1)*size+b-size=a*size+b by omega];exact c a om
def xS.view{w:b_}{B size N:Nat}{eO e:d_}{mk:Nat->List f_}{vO:f_}(t:xS w B eO e size mk vO N)(y:∀a,(mk a).length=size):
 ∃g i,vO=.slice g N i/\∀a,a<N->∃d,g=some (μ d 0)/\d<w.heap.size/\∃h m k,w.cell? (μ d a)=some (.slice h m k)/\m<=2000000/\
  ∀b,b<m->∃f,h=some (μ f 0)/\f<w.heap.size/\∀c,c<size->w.cell? (μ f<|b*size+c)=(mk (a/4*4))[c]?:=by
 let⟨Ls,l,C⟩:=t;let⟨g,i,r,D⟩:=i_ l;refine⟨g,i,r,λa s=>?_⟩;let⟨d,I,x,p⟩:=D a s;have o:a<Ls.length:=p1 l.1;let⟨m,F,z⟩:=C a Ls[a]<|Yw o;let⟨h,k,E,u⟩:=z.view;refine⟨d,I,x,h,m,k,?_,F,λb j=>?_⟩
 .rw[p a om,Yw o,E]
 .let⟨f,L,M,O⟩:=u b j;refine⟨f,L,M,λc A=>?_⟩;have J:b*size+c<m*size:=by have:(b+1)*size<=m*size:=ZB _ j;rw[aa9]at this;omega
  rw[O _ J,qi _ size m b c (y _) j A]
def l2(m:Nat)(cs:List f_):List f_:=(List.replicate m cs).flatten
def HI(m:Nat)(cs:List f_):l2 (m+1) cs=l2 m cs++cs:=by unfold l2;rw[List.replicate_succ',List.flatten_append];simp
def us(m size:Nat)(cs:List f_)(b:cs.length=size):(l2 m cs).length=m*size:=by
 unfold l2
 induction m with
 |zero=>simp
 |succ m a=>rw[abh,List.flatten_cons,Yv,a,b,aa9];omega
structure no(w w':b_)(kb:Nat)(vO vC:f_):Prop where
 os:w'.os=w.os
 tape:w'.tape=w.tape
 output:w'.output=w.output
 size:w.heap.size<=w'.heap.size
 block:∀k,k<w.heap.size->k≠kb->vO.ownBlock≠some k->vC.ownBlock≠some k->w'.heap[k]?=w.heap[k]?
def no.trans{f c b:b_}{kb:Nat}{vO vC:f_}(d:no f c kb vO vC)(o:b.os=c.os)(l:b.tape=c.tape)(k:b.output=c.output)(size:c.heap.size<=b.heap.size)
 (p:∀a,a<f.heap.size->a≠kb->vO.ownBlock≠some a->vC.ownBlock≠some a->b.heap[a]?=c.heap[a]?):no f b kb vO vC:=
 ⟨o.trans d.os,l.trans d.tape,k.trans d.output,YH d.size size,λa g h j i=>(p a g h j i).trans<|d.block a g h j i⟩
def no.below{w w':b_}{kb B:Nat}{vO vC:f_}(a:no w w' kb vO vC)(h:B<=kb)(d:∀b,vO.ownBlock=some b->B<=b)(f:∀b,vC.ownBlock=some b->B<=b)(i:B<=w.heap.size):Below B w w':=
 ⟨a.os,a.tape,a.output,a.size,λc g=>a.block c om om (λe=>by have:=d c e;omega) (λe=>by have:=f c e;omega)⟩
def no.setCell{w w':b_}{kb:Nat}{vO vC:f_}(c:no w w' kb vO vC)(b:Addr)(v:f_)(d:b.block=kb\/vO.ownBlock=some b.block\/vC.ownBlock=some b.block\/w.heap.size<=b.block):no w (w'.setCell b v) kb vO vC:=
 c.trans rfl rfl rfl si (λj i f h g=>Yp _ _ _ _ (λe=>by
  subst e;rcases d with a|a|a|a
  .exact f a
  .exact h a
  .exact g a
  .omega))
def no.alloc{w w':b_}{kb:Nat}{vO vC:f_}(b:no w w' kb vO vC)(a:Obj):no w (w'.alloc a) kb vO vC:=
 b.trans rfl rfl rfl si (λd c _ _ _=>YQ w' a<|li b.size)
def no.grown{w w' g:b_}{kb:Nat}{vO vC v:f_}(f:no w w' kb vO vC)(a:w'.grownBy g v.ownBlock)(h:∀c,v.ownBlock=some c->vO.ownBlock=some c\/vC.ownBlock=some c\/w.heap.size<=c):no w g kb vO vC:=
 f.trans a.os a.tape a.output a.size (λd k _ j i=>a.block d (li f.size) (λe=>by
  rcases h d e.symm with b|b|b
  .exact j b
  .exact i b
  .omega))
def j8(w:b_)(B:Nat)(eO e:d_)(size:Nat)(mk:Nat->List f_)(vO:f_)(N:Nat)(Q:Nat->Prop):Prop:=
 ∃Ls:List f_,w.ownsRow B eO 1 vO N Ls/\∀(d:Nat) (a:f_),Ls[d]?=some a->∃b,b<=2000000/\Reads w B e size a b (l2 b<|mk (d/4*4))/\∀c,a.ownBlock=some c->Q c
structure Rec(w:b_)(B:Nat)(eO e:d_)(size:Nat)(mk:Nat->List f_)(Q:Nat->Prop)(N q:Nat)(vO v:f_)(m:Nat):Prop where
 outer:∃Ls:List f_,w.ownsRow B eO 1 vO (N+q) Ls/\∀(i:Nat) (u:f_),Ls[i]?=some u->∃k,k<=2000000/\Reads w B e size u k (l2 k<|mk (i/4*4))/\(∀g,u.ownBlock=some g->Q g)/\(∀g,u.ownBlock=some g->v.ownBlock=some g->k<=m)
 list:w.ownsRow B e size v m<|l2 m<|mk N
 Yj:∀g,v.ownBlock=some g->Q g
section
variable {w w':b_}{B:Nat}{eO e:d_}{size:Nat}{mk:Nat->List f_}{Q:Nat->Prop}{N q:Nat}{vO v:f_}{m:Nat}
def j8.lists(i:j8 w B eO e size mk vO N Q):xS w B eO e size mk vO N:=by let⟨Ls,a,f⟩:=i;exact⟨Ls,a,λd j b=>by let⟨h,c,g,_⟩:=f d j b;exact⟨h,c,g⟩⟩
def j8.weaken{c:Nat->Prop}(p:j8 w B eO e size mk vO N Q)(r:∀a,a<w.heap.size->Q a->c a):j8 w B eO e size mk vO N c:=by let⟨Ls,f,k⟩:=p;exact⟨Ls,f,λj h g=>by let⟨o,i,d,l⟩:=k j h g;exact⟨o,i,d,λa b=>r a (d.lt a b).2<|l a b⟩⟩
def j8.carry(p:j8 w B eO e size mk vO N Q)(k:∀(a:Nat) (c:Array f_) (f:d_),w.heap[a]?=some (Obj.cells c f)->(vO.ownBlock=some a\/Q a)->(f=eO\/f=e)->w'.heap[a]?=w.heap[a]?):j8 w' B eO e size mk vO N Q:=by
 let⟨Ls,h,t⟩:=p;refine⟨Ls,jV h λb d=>?_,λs r l=>?_⟩
 .let⟨c,g⟩:=jU h b d;exact k b c eO g (.inl d)<|.inl rfl
 .let⟨a,o,j,i⟩:=t s r l;refine⟨a,o,j.same λb d=>?_,i⟩;let⟨c,g⟩:=j.block b d;exact k b c e g (.inr<|i b d) (.inr rfl)
def Rec.carry(r:Rec w B eO e size mk Q N q vO v m)(h:∀(d:Nat) (b:Array f_) (g:d_),w.heap[d]?=some (Obj.cells b g)->(g=eO\/g=e)->w'.heap[d]?=w.heap[d]?):Rec w' B eO e size mk Q N q vO v m:=by
 let⟨⟨Ls,i,u⟩,k,p⟩:=r;refine⟨⟨Ls,jV i λa f=>?_,λt s l=>?_⟩,jV k λa f=>?_,p⟩
 .let⟨b,c⟩:=jU i a f;exact h a b eO c<|.inl rfl
 .let⟨d,o,j,x⟩:=u t s l;refine⟨d,o,j.same λa f=>?_,x⟩;let⟨b,c⟩:=j.block a f;exact h a b e c<|.inr rfl
 .let⟨b,c⟩:=jU k a f;exact h a b e c (.inr rfl)
def Rec.alloc(b:Rec w B eO e size mk Q N q vO v m)(a:Obj):Rec (w.alloc a) B eO e size mk Q N q vO v m:=
 b.carry (λ_ _ _ c _=>YQ w a<|Yn c)
def Rec.setCell(i:Rec w B eO e size mk Q N q vO v m)(kb k:Nat)(j:f_)(h:Array f_)(c:d_)(o:w.heap[kb]?=some (Obj.cells h c))(f:c≠eO)(l:c≠e):Rec (w.setCell (μ kb k) j) B eO e size mk Q N q vO v m:=
 i.carry (λg r s a p=>Yp _ _ _ _ (λb=>by
  have b:=b;rw[b,o]at a;simp only[Yz,abf]at a;rcases p with d|d
  .exact f (a.2.1.trans d)
  .exact l<|a.2.1.trans d))
def Rec.push(u:Rec w B eO e size mk Q N q vO v m)(M:q<4)(P:N%4=0)(y:eO≠e)(D:m<=2000000){l:f_}(I:w.grownBy w' vO.ownBlock)(J:∀Ls,w.ownsRow B eO 1 vO (N+q) Ls->w'.ownsRow B eO 1 l (N+q+1) (Ls++[v])):
 Rec w' B eO e size mk Q N (q+1) l v m:=by
 let⟨⟨Ls,h,z⟩,k,i⟩:=u;have j:∀(a:Nat) (c:Array f_),w.heap[a]?=some (Obj.cells c e)->w'.heap[a]?=w.heap[a]?:=by intro a c b;refine I.block a (Yn b) λs=>?_;let⟨L,x⟩:=jU h a s.symm;rw[x]at b;simp at b;exact y b.2
 have p:=jV k (λa g=>by let⟨c,b⟩:=jU k a g;exact j a c b);have O:Ls.length=N+q:=li h.1;refine⟨⟨Ls++[v],J Ls h,λf o d=>?_⟩,p,i⟩;by_cases t:f<Ls.length
 .rw[YK t]at d;let⟨C,A,r,F⟩:=z f o d;exact⟨C,A,r.same (λa g=>by let⟨c,b⟩:=r.block a g;exact j a c b),F⟩
 .rw[YP om]at d;have E:f-Ls.length=0:=by have:=(Yr.1 d).1;simpa using this
  rw[E]at d;obtain rfl:v=o:=by simpa using d
  refine⟨m,D,?_,i,λ_ _ _=>YC _⟩;rw[show f/4*4=N by omega];exact Reads.u_ p
def Rec.grow(y:Rec w B eO e size mk Q N q vO v m)(A:eO≠e){d:f_}(l:w.grownBy w' v.ownBlock)(F:Cg w w' e v<|m*size)(h:∀f,d.ownBlock=some f->v.ownBlock=some f\/w.heap.size<=f)
 (J:∀a,w.heap.size<=a->Q a) (I:w'.ownsRow B e size d (m+1)<|l2 m (mk N)++mk N):Rec w' B eO e size mk Q N q vO d (m+1):=by
 let⟨⟨Ls,g,E⟩,L,s⟩:=y;refine⟨⟨Ls,jV g λa b=>?_,λD C p=>?_⟩,by rw[HI];exact I,λa b=>(h a b).elim (s a)<|J a⟩
 .let⟨O,c⟩:=jU g a b;refine l.block a (Yn c) λo=>?_;let⟨M,z⟩:=jU L a o.symm;rw[z]at c;simp at c;exact A c.2.symm
 .let⟨u,r,j,t,k⟩:=E D C p;refine⟨u,r,j.append l F k,t,λa b x=>?_⟩;rcases h a x with i|i
  .have:=k a b i;omega
  .have:=(j.lt a b).2;omega
def Rec.lists(j:Rec w B eO e size mk Q N q vO v m):j8 w B eO e size mk vO (N+q) Q:=by let⟨⟨Ls,a,f⟩,_,_⟩:=j;exact⟨Ls,a,λd k b=>by let⟨i,c,g,h,_⟩:=f d k b;exact⟨i,c,g,h⟩⟩
def Rec.start{b:Nat->Prop}(l:j8 w B eO e size mk vO N b)(h:w.ownsRow B e size v m<|l2 m<|mk N)(u:∀a,b a->v.ownBlock≠some a)(x:∀a,b a->Q a)(o:∀a,v.ownBlock=some a->Q a):Rec w B eO e size mk Q N 0 vO v m:=by
 let⟨Ls,f,s⟩:=l
 exact⟨⟨Ls,f,λr p g=>by
  let⟨j,i,t,d⟩:=s r p g
  exact⟨j,i,t,λa c=>x a<|d a c,λa c k=>absurd k (u a<|d a c)⟩⟩,h,o⟩
end
def ma(w:b_)(B:Nat)(e:d_)(size:Nat)(v:f_)(n K:Nat)(xs:List f_):Prop:=
 (v=σ/\n=0)\/∃d a c,v=ω d n a/\B<=d/\w.heap[d]?=some (Obj.cells c e)/\n<=a/\a<=maxLen/\c.size=a*size/\∀b,b<K->c[b]?=xs[b]?
section
variable {w w':b_}{B:Nat}{e:d_}{size:Nat}{v:f_}{n K:Nat}{xs ys:List f_}
def ma.u_(k:w.ownsRow B e size v n ys):ma w B e size v n 0 xs:=by
 rcases k.2 with j|⟨o,b,i,f,a,g,d,h,l,_⟩
 .exact .inl j
 .exact .inr ⟨o,b,i,f,a,g,d,h,l,λp c=>absurd c (Zh _)⟩
def ma.own(i:ma w B e size v n K xs)(h:xs.length=n*size)(u:K=n*size):w.ownsRow B e size v n xs:=by
 refine⟨h,?_⟩;rcases i with o|⟨s,a,g,c,j,d,b,l,r,p⟩
 .exact .inl o
 .refine .inr ⟨s,a,g,c,j,d,b,l,r,?_⟩;have t:n*size<=a*size:=ZB _ b;apply abu;intro k;rw[abY];split
  .rename_i f;rw[<-p k om];simp
  .rename_i f;rw[ZF om]
def ma.same(i:ma w B e size v n K xs)(j:∀a,v.ownBlock=some a->w'.heap[a]?=w.heap[a]?):ma w' B e size v n K xs:=by
 rcases i with h|⟨a,c,g,rfl,b,d,f⟩
 .exact .inl h
 .exact .inr ⟨a,c,g,rfl,b,(j a rfl).trans d,f⟩
def ma.step{a c:Nat}{b:f_}(k:ma w B e size (ω a n c) n K xs)(o:xs[K]?=some b)(z:K<n*size):ma (w.setCell (μ a K) b) B e size (ω a n c) n (K+1) xs:=by
 rcases k with⟨r,_⟩|⟨A,u,g,f,l,j,d,p,t,s⟩
 .simp at r
 .simp only[YN,Yz,ZP,ZV,aab]at f;obtain⟨rfl,rfl⟩:=f;refine .inr ⟨a,c,g.setIfInBounds K b,rfl,l,YB w a K g e b j,d,p,by rw[Y3];exact t,λi y=>?_⟩;have x:n*size<=c*size:=ZB _ d;rw[Y6];by_cases h:K=i
  .subst h;rw[Ys rfl,Ys om,o]
  .rw[Yo h];exact s i om
def ma.cells{g b:Nat}(i:ma w B e size (ω g n b) n K xs):(∀a,a<n*size->∃j,w.cell? (μ g a)=some j)/\∀a,w.frozen? (μ g a)=false:=by
 rcases i with⟨k,_⟩|⟨s,o,f,c,r,d,h,t,x,u⟩
 .simp at k
 .simp only[YN,Yz,ZP,ZV,aab]at c;obtain⟨rfl,rfl⟩:=c;have p:n*size<=b*size:=ZB _ h;refine⟨λa l=>?_,λa=>Y2 w g a f e d⟩;rw[Yu w g a f e (0,0) d,aau om];exact⟨_,rfl⟩
end
structure ni(w w':b_):Prop where
 heap:w'.heap=w.heap
 os:w'.os=w.os
 tape:w'.tape=w.tape
 output:w'.output=w.output
def ni.refl(w:b_):ni w w:=⟨rfl,rfl,rfl,rfl⟩
def ni.cell{w w':b_}(b:ni w w')(a:Addr):w'.cell? a=w.cell? a:=by unfold World.cell?;rw[b.heap]
def ni.frozen{w w':b_}(b:ni w w')(a:Addr):w'.frozen? a=w.frozen? a:=by unfold World.frozen?;rw[b.heap]
def ni.drew{w w':b_}(a:ni w w'):ni w w'.drew:=⟨a.heap,a.os,a.tape,a.output⟩
def ni.setCell{w w':b_}(a:ni w w')(kb b:Nat)(v:f_)(c:Array f_)(d:d_)(h:w.heap[kb]?=some (Obj.cells c d))(f:c[b]?=some v):ni w (w'.setCell (μ kb b) v):=by
 refine⟨?_,a.os,a.tape,a.output⟩;rw[<-a.heap];apply ZS;intro g;by_cases e:g=kb
 .subst e;rw[YB w' g b c d v (by rw[a.heap];exact h),a.heap,h];congr 2;apply ZS;intro k;rw[Y6];split
  .rename_i i;subst i;have j:=(YU.1 f).1;rw[Ys j,f]
  .rfl
 .exact Yp _ _ _ _ e
def ni.pq{w w':b_}(a:ni w w')(kb:Nat)(vO vC:f_):no w w' kb vO vC:=⟨a.os,a.tape,a.output,by rw[a.heap];exact YC _,λb _ _ _ _=>by rw[a.heap]⟩
def EC{w:b_}{B size n:Nat}{e:d_}{v:f_}{xs ys:List f_}(f:w.ownsRow B e size v n xs)(g:w.ownsRow B e size v n ys):xs=ys:=by
 rcases f.2 with⟨c,i⟩|⟨u,o,s,c,_,j,_,_,_,l⟩
 .have d:=f.1;have h:=g.1;rw[i,Z3]at d h;rw[YV d,YV h]
 .rcases g.2 with⟨a,_⟩|⟨t,r,p,a,_,b,_,_,_,k⟩
  .rw[c]at a;simp at a
  .rw[c]at a;simp only[YN,Yz,ZP,ZV,aab]at a;obtain⟨rfl,rfl⟩:=a;rw[j]at b;simp only[Yz,abf]at b;rw[<-l,<-k,b.1]
structure l3(w wr:b_)(B kb mb:Nat)(cs:f_->Array f_)(mc:Option<|Array f_)(eO e:d_)(size:Nat)(mk:Nat->List f_)(Q:Nat->Prop)(N q:Nat)(vF vC vO v:f_)(m:Nat):Prop where
 o2:Rec wr B eO e size mk Q N q vO v m
 book:wr.heap[kb]?=some (Obj.cells (cs vO) 33)
 mark:∀c,mc=some c->wr.heap[mb]?=some (Obj.cells c e)
 pq:no w wr kb vF vC
 oB:∀g,vO.ownBlock=some g->vF.ownBlock=some g\/w.heap.size<=g
 vB:∀g,v.ownBlock=some g->vC.ownBlock=some g\/(w.heap.size<=g/\mb<g)
section
variable {w wr w3:b_}{B kb mb:Nat}{cs:f_->Array f_}{mc:Option<|Array f_}{eO e:d_}{size:Nat}{mk:Nat->List f_}{Q:Nat->Prop}{N q:Nat}{vF vC vO v:f_}{m:Nat}
def l3.push(b:l3 w wr B kb mb cs mc eO e size mk Q N q vF vC vO v m)(j:Nat)(O:∀C z,(cs C).setIfInBounds j z=cs z)(D:q<4)(I:N%4=0)(s:eO≠e)(y:eO≠33)(R:e≠33)(L:m<=2000000)(J:∀f,mc=some f->mb≠kb)
 {a:Obj}{d:f_}{Ls:List f_} (t:wr.ownsRow B eO 1 vO (N+q) Ls) (o:(wr.alloc a).grownBy w3 vO.ownBlock) (P:∀r,d.ownBlock=some r->vO.ownBlock=some r\/(wr.alloc a).heap.size<=r) (S:w3.ownsRow B eO 1 d (N+q+1)<|Ls++[v]):
 l3 w (w3.setCell (μ kb j) d) B kb mb cs mc eO e size mk Q N (q+1) vF vC d v m:=by
 have T:=b.pq.size;have x:=jU<|t.alloc a;have h:=(YQ wr a (Yn b.book)).trans b.book
 have u:=(o.block kb (Yn h) (λc=>by
  let⟨f,l⟩:=x kb c.symm;rw[l]at h;simp at h
  exact y h.2)).trans h
 have F:=(b.o2.alloc a).push D I s L o (λU M=>by rw[EC M<|t.alloc a];exact S);refine⟨F.setCell kb j d _ 33 u (λc=>y c.symm) (λc=>R c.symm),?_,?_,?_,?_,b.vB⟩
 .rw[YB w3 kb j _ 33 d u,O]
 .intro f l;have A:=b.mark f l;have g:=(YQ wr a (Yn A)).trans A;rw[Yp _ _ _ _ (J f l)];refine(o.block mb (Yn g) λc=>?_).trans g;let⟨V,E⟩:=x mb c.symm;rw[E]at g;simp at g;exact s g.2
 .exact((b.pq.alloc a).grown o λk p=>(b.oB k p).elim .inl λi=>.inr<|.inr i).setCell _ _ (.inl rfl)
 .intro k p;rcases P k p with i|i
  .exact b.oB k i
  .right;simp at i;omega
def l3.grow(a:l3 w wr B kb mb cs mc eO e size mk Q N q vF vC vO v m)(u:eO≠e)(y:e≠33)(C:∀d,w.heap.size<=d->Q d)(D:mb<=wr.heap.size)(x:∀f,mc=some f->vC.ownBlock≠some mb)
 {b:Obj}{l:f_} (j:(wr.alloc b).grownBy w3 v.ownBlock) (z:Cg (wr.alloc b) w3 e v<|m*size) (r:∀o,l.ownBlock=some o->v.ownBlock=some o\/(wr.alloc b).heap.size<=o) (A:w3.ownsRow B e size l (m+1)<|l2 m (mk N)++mk N):
 l3 w w3 B kb mb cs mc eO e size mk Q N q vF vC vO l (m+1):=by
 have E:=a.pq.size;have t:=jU<|a.o2.list.alloc b;have g:=(YQ wr b (Yn a.book)).trans a.book;refine⟨(a.o2.alloc b).grow u j z r (λd h=>C d (by simp at h;omega)) A,?_,?_,?_,a.oB,?_⟩
 .exact(j.block kb (Yn g) (λk=>by
   let⟨f,i⟩:=t kb k.symm;rw[i]at g;simp at g
   exact y g.2)).trans g
 .intro f i;have s:=a.mark f i;have p:=(YQ wr b (Yn s)).trans s;refine(j.block mb (Yn p) λk=>?_).trans p;rcases a.vB mb k.symm with c|c
  .exact x f i c
  .omega
 .exact(a.pq.alloc b).grown j (λd h=>(a.vB d h).elim (λc=> uq c) λc=>.inr<|.inr c.1)
 .intro d h;rcases r d h with c|c
  .exact a.vB d c
  .right;simp at c;omega
def l3.field(a:l3 w wr B kb mb cs mc eO e size mk Q N q vF vC vO v m)(h:f_->Array f_)(d:Nat)(c:f_)(j:∀g,(cs g).setIfInBounds d c=h g)(k:eO≠33)(l:e≠33)(o:∀b,mc=some b->mb≠kb):
 l3 w (wr.setCell (μ kb d) c) B kb mb h mc eO e size mk Q N q vF vC vO v m:=by
 refine⟨a.o2.setCell kb d c _ 33 a.book (λf=>k f.symm) (λf=>l f.symm),?_,?_,a.pq.setCell _ _ (.inl rfl),a.oB,a.vB⟩
 .rw[YB wr kb d _ 33 c a.book,j]
 .intro b i;rw[Yp _ _ _ _ (o b i)];exact a.mark b i
end
def lE{w w':b_}{b i:Nat}(a:w.grownBy w'<|some b)(v:f_):w.grownBy (w'.setCell (μ b i) v) (some b):=
 ⟨a.os,a.tape,a.output,by simpa using a.size,λd f c=>(Yp _ _ _ _ (λe=>c<|by rw[e])).trans<|a.block d f c⟩
def pr(w:b_)(a:Option Nat):w.grownBy w a:=⟨rfl,rfl,rfl,YC _,λ_ _ _=>rfl⟩
def sP{w wr w3:b_}{B kb mb size N q m:Nat}{cs:f_->Array f_}{mc:Option<|Array f_}{eO e:d_}{mk:Nat->List f_}{Q:Nat->Prop}{vF vC vO v:f_}{Ls:List f_}{b:Obj}
 (a:l3 w wr B kb mb cs mc eO e size mk Q N q vF vC vO v m) (i:wr.ownsRow B eO 1 vO (N+q) Ls) (f:eO≠33) (h:(wr.alloc b).grownBy w3 vO.ownBlock):w3.heap[kb]?=wr.heap[kb]?:=by
 have g:=YQ wr b (Yn a.book);refine(h.block kb (by rw[World.size_alloc];have:=Yn a.book;omega) λc=>?_).trans g;let⟨j,d⟩:=jU i kb c.symm;have:=a.book;rw[d]at this;simp at this;exact f this.2
def tH{w w':b_}{kb:Nat}{vO vC:f_}{j:Array f_}{h i:d_}(hF:no w w' kb vO vC)(s:w.heap[kb]?=some (Obj.cells j 33))
 (o:∀a,vO.ownBlock=some a->∃d,w.heap[a]?=some (Obj.cells d h)) (p:∀a,vC.ownBlock=some a->∃d,w.heap[a]?=some (Obj.cells d i))
 (a:Nat) (d:Array f_) (f:d_) (b:w.heap[a]?=some (Obj.cells d f)) (l:f≠33) (r:f≠h) (t:f≠i):w'.heap[a]?=w.heap[a]?:=by
 refine hF.block a (Yn b) (λc=>?_) (λc=>?_) λc=>?_
 .rw[c,s]at b;simp at b;exact l b.2.symm
 .let⟨k,g⟩:=o a c;rw[g]at b;simp at b;exact r b.2.symm
 .let⟨k,g⟩:=p a c;rw[g]at b;simp at b;exact t b.2.symm
def kh{w w':b_}{kb:Nat}{vO vC:f_}{s:Array f_}{c f:d_}(hF:no w w' kb vO vC)(j:w.heap[kb]?=some (Obj.cells s 33))
 (g:∀b,vO.ownBlock=some b->∃a,w.heap[b]?=some (Obj.cells a c)) (h:∀b,vC.ownBlock=some b->∃a,w.heap[b]?=some (Obj.cells a f))
 {B:Nat}{eO e:d_}{size:Nat}{mk:Nat->List f_}{v:f_}{N:Nat}{Q:Nat->Prop} (t:j8 w B eO e size mk v N Q) (o:eO≠33/\e≠33) (i:eO≠c/\e≠c) (k:eO≠f/\e≠f):j8 w' B eO e size mk v N Q:=
 t.carry (λr a l p _ u=>by
  rcases u with d|d
  .subst d;exact tH hF j g h r a l p o.1 i.1 k.1
  .subst d;exact tH hF j g h r a l p o.2 i.2 k.2)
def j_{w w':b_}{kb:Nat}{vO vC:f_}{g:Array f_}{c f:d_}(hF:no w w' kb vO vC)(r:w.heap[kb]?=some (Obj.cells g 33))
 (j:∀a,vO.ownBlock=some a->∃b,w.heap[a]?=some (Obj.cells b c)) (l:∀a,vC.ownBlock=some a->∃b,w.heap[a]?=some (Obj.cells b f))
 {B:Nat}{e:d_}{size:Nat}{v:f_}{n:Nat}{xs:List f_} (d:w.ownsRow B e size v n xs) (i:e≠33) (p:e≠c) (s:e≠f):w'.ownsRow B e size v n xs:=
 jV d (λa o=>by let⟨h,k⟩:=jU d a o;exact tH hF r j l a h e k i p s)
def sQ(w:b_)(B:Nat)(eO e:d_)(size:Nat)(mk:Nat->List f_)(Q:Nat->Prop):j8 w B eO e size mk σ 0 Q:=
 ⟨[],Yq ..,λc b a=>by simp at a⟩
def kL{w:b_}{B size N:Nat}{eO e:d_}{mk:Nat->List f_}{v:f_}{Q:Nat->Prop}(d:j8 w B eO e size mk v N Q):∀a,v.ownBlock=some a->∃c,w.heap[a]?=some (Obj.cells c eO):=by let⟨Ls,b,_⟩:=d;exact jU b
def q9{w:b_}{B size N:Nat}{eO e:d_}{mk:Nat->List f_}{v:f_}{Q:Nat->Prop}(d:j8 w B eO e size mk v N Q):∀a,v.ownBlock=some a->B<=a:=by let⟨Ls,c,_⟩:=d;exact λa b=>(c.lt a b).1
def j9{w:b_}{B b size n:Nat}{e:d_}{v:f_}{xs:List f_}(a:w.ownsRow b e size v n xs)(h:B<=b):w.ownsRow B e size v n xs:=by
 refine⟨a.1,?_⟩;rcases a.2 with j|⟨k,c,f,d,g,i⟩
 .exact .inl j
 .exact .inr ⟨k,c,f,d,YH h g,i⟩
def lR(w:b_)(g h d f:f_)(i:d_):∀b c,[g,h,d,f][b]?=some c->(w.alloc<|.cells #[g,h,d,f] i).cell? (((μ w.heap.size 0):Addr).add b)=some c:=by
 intro b c a
 match b,a with
 |0,a=>simp at a;subst a;simp[Addr.add]
 |1,a=>simp at a;subst a;simp[Addr.add]
 |2,a=>simp at a;subst a;simp[Addr.add]
 |3,a=>simp at a;subst a;simp[Addr.add]
def kj{f:Type}(c:f->List f_)(size:Nat)(d:∀g,(c g).length=size)(b:List f)(q a:Nat)(h:q<b.length)(j:a<size):(b.flatMap c)[q*size+a]?=(c b[q])[a]?:=by
 induction b generalizing q with
 |nil=>exact absurd h (by simp)
 |cons g b i=>
  rw[ZY]
  cases q with
  |zero=>rw[Z3,YF,YK (by rw[d];exact j)];rfl
  |succ q=>have k:(q+1)*size=q*size+size:=aa9 q size;rw[YP (by rw[d];omega),d,show(q+1)*size+a-size=q*size+a by omega];exact i q (by simpa using h)
def mn{b:Type}(c:b->List f_)(size:Nat)(g:∀d,(c d).length=size)(a:List b):(a.flatMap c).length=a.length*size:=by
 induction a with
 |nil=>simp
 |cons d a f=>rw[ZY,Yv,f,g,YA,aa9];omega
def Tryz.S4:(prog.info? 28).map (λa=>(a.zero,a.size,a.bytes))=some (some σ,1,24):=kr
def Tryz.qj:(prog.info? 3).map (λa=>(a.zero,a.size,a.bytes))=some (some (ν 0),1,8):=kr
def ka(a:Int):List f_:=[ν a]
def m4(c:List Int):∀b∈c.flatMap ka,b.oneCell'=true:=by intro b d;let⟨e,_,a⟩:=abb.1 d;simp[ka]at a;subst a;rfl
def XR(b:List Int)(a:Nat)(M:a<b.length):∃c:Int,(b.flatMap ka)[a]?=some (ν c):=by
 refine⟨b[a],?_⟩
 .have:=kj ka 1 (λ_=>rfl) b a 0 M om;exact KE
def Tryz.S5:(prog.info? 29).map (λa=>(a.zero,a.size,a.bytes))=some (some σ,1,24):=kr
def Tryz.S6:(prog.info? 94).map (λa=>(a.zero,a.size,a.bytes))=some (some (.agg #[ν 0,ν 0,.string ⟨#[]⟩]),3,32):=kr
def lU(a:Sv):List f_:=[ν a.1,ν a.2.1,.string a.2.2]
def XS(b:List Sv)(a:Nat)(c:a<b.length):∃d:Sv,(b.flatMap lU)[a*3]?=some (ν d.1)/\(b.flatMap lU)[a*3+1]?=some (ν d.2.1)/\(b.flatMap lU)[a*3+2]?=some (.string d.2.2):=by
 refine⟨b[a],?_,?_,?_⟩
 .have:=kj lU 3 (λ_=>rfl) b a 0 c om;rw[YE]at this;rw[this];rfl
 .have:=kj lU 3 (λ_=>rfl) b a 1 c om;rw[this];rfl
 .have:=kj lU 3 (λ_=>rfl) b a 2 c om;rw[this];rfl
def Tryz.S7:(prog.info? 31).map (λa=>(a.zero,a.size,a.bytes))=some (some σ,1,24):=kr
def Tryz.po:(prog.info? 77).map (λa=>(a.zero,a.size,a.bytes))=some (some (.agg #[.int .u8 0,ν 0,ν 0,.string ⟨#[]⟩]),4,40):=kr
def ku(a:Ac):List f_:=[.int .u8 a.1,ν a.2.1,ν a.2.2.1,.string a.2.2.2]
def oC(c:List Ac):∀b∈c.flatMap ku,b.oneCell'=true:=by intro b d;let⟨e,_,a⟩:=abb.1 d;simp[ku]at a;rcases a with rfl|rfl|rfl|rfl<;>rfl
def XT(b:List Ac)(a:Nat)(c:a<b.length):∃d:Ac,(b.flatMap ku)[a*4]?=some (.int .u8 d.1)/\(b.flatMap ku)[a*4+1]?=some (ν d.2.1)/\(b.flatMap ku)[a*4+2]?=some (ν d.2.2.1)/\(b.flatMap ku)[a*4+3]?=some (.string d.2.2.2):=by
 refine⟨b[a],?_,?_,?_,?_⟩
 .have:=kj ku 4 (λ_=>rfl) b a 0 c om;rw[YE]at this;rw[this];rfl
 .have:=kj ku 4 (λ_=>rfl) b a 1 c om;rw[this];rfl
 .have:=kj ku 4 (λ_=>rfl) b a 2 c om;rw[this];rfl
 .have:=kj ku 4 (λ_=>rfl) b a 3 c om;rw[this];rfl
def Tryz.S8:(prog.info? 30).map (λa=>(a.zero,a.size,a.bytes))=some (some σ,1,24):=kr
def Tryz.xU:(prog.info? 9).map (λa=>(a.zero,a.size,a.bytes))=some (some (.string ⟨#[]⟩),1,16):=kr
def nS(a:a_):List f_:=[.string a]
def KI(c:List a_):∀b∈c.flatMap nS,b.oneCell'=true:=by intro b d;let⟨e,_,a⟩:=abb.1 d;simp[nS]at a;subst a;rfl
def XU(b:List a_)(a:Nat)(M:a<b.length):∃c:a_,(b.flatMap nS)[a]?=some (.string c):=by
 refine⟨b[a],?_⟩
 .have:=kj nS 1 (λ_=>rfl) b a 0 M om;exact KE
def tk(a:Nat):a_:=⟨#[UInt8.ofNat<|a%256,UInt8.ofNat<|a/256%256,UInt8.ofNat<|a/65536%256,109]⟩
def ze(a:Nat):List f_:=[ν<|70000+(a:Int),ν 0,.string ⟨#[]⟩]
def zk(a:Nat):List f_:=[ν<|70000+(a:Int)]
def u'(a:Nat):List f_:=[.int .u8 0,ν<|70000+(a:Int),ν 0,.string ⟨#[]⟩]
def mkT(a:Nat):List f_:=[.string<|tk a]
namespace Pl
def rZ(a:Nat):Nat:=if a%2=1 then(a/2)^^^40961 else a/2
def bsteps:Nat->Nat->Nat
 |0,a=>a
 |b+1,a=>rZ (bsteps b a)
def lT(a b:Nat):Nat:=bsteps 8 (a^^^b)
def A4(a:Nat)(b:List UInt8):Nat:=b.foldl (λa c=>lT a c.toNat) a
def wb(a:List UInt8):Nat:=A4 65535 a
def KJ(a:Nat)(b:a<65536):rZ a<65536:=by
 unfold rZ;split
 .exact Z_ (n:=16) om om
 .omega
def HJ(a b:Nat)(c:b<65536):bsteps a b<65536:=by
 induction a with
 |zero=>exact c
 |succ a d=>exact KJ _ d
def p2(a b:Nat)(c:a<65536)(d:b<256):lT a b<65536:=
 HJ 8 _ (Z_ (n:=16) om om)
def ED(b:List UInt8)(a:Nat)(d:a<65536):A4 a b<65536:=by
 induction b generalizing a with
 |nil=>exact d
 |cons c b e=>exact e _ (p2 a c.toNat d c.toNat_lt)
def EE(a:List UInt8):wb a<65536:=ED a 65535 om
def KK(b:List UInt8)(a:UInt8):wb (b++[a])=lT (wb b) a.toNat:=by simp[wb,A4,aay]
def HM(b:a_)(a:Nat)(c:a<b.size):b.data.toList.take (a+1)=b.data.toList.take a++[b[a]]:=by rw[List.take_succ_eq_append_getElem<|by simpa using c];rfl
def uo(b:a_)(a:Nat)(c:a<b.size):wb (b.data.toList.take<|a+1)=lT (wb<|b.data.toList.take a) b[a].toNat:=by rw[HM b a c,KK]
def Ci(b a:Nat):(b^^^a)/2=b/2^^^a/2:=by have:=Nat.shiftRight_xor_distrib (a:=b) (b:=a) (i:=1);simpa[Nat.shiftRight_eq_div_pow]using this
def Cj(a b:Nat):(a^^^b)%2=(a+b)%2:=by have e:=Nat.xor_mod_two_pow (a:=a) (b:=b) (n:=1);simp only[Nat.pow_one]at e;rw[e];rcases aai a with c|c<;>rcases aai b with d|d<;>rw[c,d]<;>simp<;>omega
def N5(a b:Nat)(c:a%2≠b%2):(a/2^^^40961)^^^(b/2)=rZ (a^^^b):=by unfold rZ;rw[Ys (by rw[Cj];omega),Ci,Nat.xor_assoc,Nat.xor_assoc,Nat.xor_comm 40961]
def KL(a b:Nat)(c:a%2=b%2):(a/2)^^^(b/2)=rZ (a^^^b):=by unfold rZ;rw[Yo (by rw[Cj];omega),Ci]
def sR(a:Nat)(b:a<9223372036854775808):(BitVec.ofInt 64 (a:Int)).toNat=a:=by rw[aaP,aa3];exact aaE om
def Ck(b a:Nat)(c:b<65536)(d:a<65536):bits .xor .i64 (b:Int) (a:Int)=((b^^^a:Nat):Int):=by have e:b^^^a<2^16:=Z_ om om;show IntKind.i64.wrap ((BitVec.ofInt 64 (b:Int)^^^BitVec.ofInt 64 (a:Int)).toNat:Int)=_;rw[BitVec.toNat_xor,sR b om,sR a om];simp only[IntKind.wrap,IntKind.bits,IntKind.signed];simp;omega
def EF(b a:Nat)(c:b<65536)(d:a<65536):bits .or .i64 (b:Int) (a:Int)=((b|||a:Nat):Int):=by
 have e:b|||a<2^16:=abr om om
 show IntKind.i64.wrap ((BitVec.ofInt 64 (b:Int)|||BitVec.ofInt 64 (a:Int)).toNat:Int)=_
 rw[acm,sR b om,sR a om];simp only[IntKind.wrap,IntKind.bits,IntKind.signed];simp;omega
def Cm(b a:Nat)(d:b<256)(e:a<256):bits .or .i64 ((b:Int)*256) (a:Int)=((256*b+a:Nat):Int):=by have c:=EF (b*256) a om om;rw[nat_join 8 (b*256) a om om]at c;rw[show((256*b+a:Nat):Int)=((b*256+a:Nat):Int)by omega,<-c];congr 1
def j2(b:a_)(a:Nat):Nat:=if c:a<b.size then(b[a]'c).toNat else 0
theorem kG(b:a_):∀(a:Nat) (c:a<b.size),(b[a]'c).toNat=j2 b a:=λa c=>by unfold j2;rw[abw c]
def kz(b:a_)(a:Nat):j2 b a<256:=by
 unfold j2;split
 .exact UInt8.toNat_lt _
 .omega
def ld(a:a_)(c d b:Nat)(e:d<=a.size)(f:c+b<d):j2 (a.extract c d) b=j2 a (c+b):=by unfold j2;rw[abw so,abw om];congr 1;simp[ByteArray.getElem_extract]
def extract_extract(e:a_)(a d c b:Nat)(f:a+b<=d):(e.extract a d).extract c b=e.extract (a+c) (a+b):=by rw[ByteArray.extract_extract,Z8 f]
def tl(a:a_):Bool:=decide (j2 a 2≠0\/j2 a 3≠0\/j2 a 4≠0\/(5<a.size/\(j2 a 5<2\/254<j2 a 5)))
def whole(a:a_):Nat:=if a.size<6\/tl a=true then 0 else if a.size<6+j2 a 5 then 0 else 6+j2 a 5
def o9(b:a_)(a:Nat)(c:b.size<=a):j2 b a=0:=by unfold j2;rw[dif_neg om]
def r1(a:a_)(b:j2 a 2≠0\/j2 a 3≠0\/j2 a 4≠0\/(5<a.size/\(j2 a 5<2\/254<j2 a 5))):tl a=true:=by simpa[tl]using b
def sS(a:a_)(b:j2 a 2=0)(f:j2 a 3=0)(d:j2 a 4=0)(c:5<a.size->2<=j2 a 5/\j2 a 5<=254):tl a=false:=by simp[tl,b,f,d];intro e;have:=c e;omega
def ko(a:a_)(b:Nat):Nat:=whole (a.extract b a.size)
def wZ(b:a_)(a c:Nat):List f_:=[ν (256*j2 b a+j2 b (a+1):Nat),ν (j2 b (a+6):Nat),.string<|b.extract (a+7)<|a+c]
def w4(b:a_):Nat->Nat->List f_×Nat
 |0,a=>([],a)
 |c+1,a=>if ko b a=0 then([],a)else(wZ b a (ko b a)++(w4 b c<|a+ko b a).1,(w4 b c<|a+ko b a).2)
def pO(a:a_):List f_×Nat:=w4 a (a.size+1) 0
def Cn(a:a_)(b:whole a≠0):8<=whole a/\whole a<=260/\whole a<=a.size/\tl a=false/\whole a=6+j2 a 5:=by
 unfold whole at b⊢;by_cases e:a.size<6\/tl a=true
 .rw[Ys e]at b;exact absurd rfl b
 .rw[Yo e]at b⊢;by_cases f:a.size<6+j2 a 5
  .rw[Ys f]at b;exact absurd rfl b
  .rw[Yo f]at b⊢
   have d:tl a=false:=by
    cases d:tl a
    .rfl
    .exact absurd (.inr d) e
   have h:¬(5<a.size/\(j2 a 5<2\/254<j2 a 5)):=λc=>by have:=r1 a<|Vu<|.inr c;rw[d]at this;exact absurd this si
   have g:5<a.size:=om;refine⟨?_,?_,om,d,rfl⟩
   .have:¬j2 a 5<2:=λc=>h ⟨g,.inl c⟩;omega
   .have:¬254<j2 a 5:=λc=>h ⟨g,.inr c⟩;omega
def q_(a:a_)(b:Nat)(c:ko a b≠0):8<=ko a b/\ko a b<=260/\b+ko a b<=a.size:=by have e:=Cn _ c;have d:(a.extract b a.size).size=a.size-b:=si;unfold ko at c⊢;omega
def A5(a:a_):ko a 0=whole a:=by unfold ko;rw[abj]
def ut(c:a_)(a b:Nat)(d:ko c b=0):w4 c a b=([],b):=by
 cases a with
 |zero=>rfl
 |succ a=>show(if _ then _ else _)=_;rw[Ys d]
def uu(a:a_)(c b:Nat)(d:ko a b≠0):w4 a (c+1) b=(wZ a b (ko a b)++(w4 a c<|b+ko a b).1,(w4 a c<|b+ko a b).2):=by show(if _ then _ else _)=_;rw[Yo d]
def N7(b:a_)(c a:Nat)(e:a<=b.size):a<=(w4 b c a).2/\(w4 b c a).2<=b.size:=by
 induction c generalizing a with
 |zero=>exact⟨YC _,e⟩
 |succ c f=>
  by_cases d:ko b a=0
  .rw[ut b _ a d];exact⟨YC _,e⟩
  .have g:=q_ b a d;rw[uu b c a d];have:=f (a+ko b a) om;exact⟨by show a<=(w4 b c<|a+ko b a).2;omega,this.2⟩
def lV(a:a_)(c b:Nat):j2 (a.extract c a.size) b=j2 a (c+b):=by
 by_cases d:c+b<a.size
 .exact ld a c a.size b kM d
 .rw[o9 _ b so,o9 a (c+b) om]
def tI(a:a_)(b:Nat)(c:j2 a (b+2)≠0\/j2 a (b+3)≠0\/j2 a (b+4)≠0\/(5<a.size-b/\(j2 a (b+5)<2\/254<j2 a (b+5)))):tl (a.extract b a.size)=true:=by apply r1 _;simp only[lV];simpa using c
def we(a:a_)(b:Nat)(c:j2 a (b+2)=0)(g:j2 a (b+3)=0)(e:j2 a (b+4)=0)(d:5<a.size-b->2<=j2 a (b+5)/\j2 a (b+5)<=254):tl (a.extract b a.size)=false:=by
 refine sS _ ?_ ?_ ?_ ?_<;>simp only[lV]
 .exact c
 .exact g
 .exact e
 .intro f;exact d (by simpa using f)
def qZ(a:a_)(b:Nat)(c:a.size-b<6\/tl (a.extract b a.size)=true\/a.size-b<6+j2 a (b+5)):ko a b=0:=by
 have e:(a.extract b a.size).size=a.size-b:=si;unfold ko whole;rw[lV,e];split
 .rfl
 .rename_i d;rcases c with c|c|c
  .exact absurd (.inl c) d
  .exact absurd (.inr c) d
  .rw[Ys c]
def A6(a:a_)(b:Nat)(e:6<=a.size-b)(c:tl (a.extract b a.size)=false)(f:6+j2 a (b+5)<=a.size-b):ko a b=6+j2 a (b+5):=by have d:(a.extract b a.size).size=a.size-b:=si;unfold ko whole;rw[lV,d,Yo (by rw[c];simp;omega),Yo om]
def nQ(a:a_):Prop:=4<=a.size/\a.size<=256/\wb (a.extract 0<|a.size-2).data.toList=j2 a (a.size-2)+256*j2 a (a.size-1)
def qD(a:a_)(d:Nat)(b:a_)(c:Int):Prop:=
 (nQ a/\d=j2 a 0/\b=a.extract 1 (a.size-2)/\c=0)\/(¬nQ a/\d=0/\b=⟨#[]⟩/\c=4)
def KM(b a:Nat)(d:b<256)(e:a<256):bits .or .u16 (b:Int) ((a:Int)*256)=((b+256*a:Nat):Int):=by have c:=u16_or_nat b (a*256) om om;rw[Nat.or_comm,nat_join 8 (a*256) b om om]at c;rw[show((b+256*a:Nat):Int)=((a*256+b:Nat):Int)by omega,<-c];congr 1
end Pl
def Tryz.Se:(prog.info? 5).map (λa=>(a.zero,a.size,a.bytes))=some (some (.int .u8 0),1,1):=kr
def Co(a:a_)(b:b_)(K:a.size<=4194304):
 Calls prog 112 #[.string a] b λf B=>f=.returned (.string a)/\Below b.heap.size b B:=by
 by_cases n:a.size=0
 .obtain rfl:a=⟨#[]⟩:=Z6<|ab_ n
  go_enter func112,ntmps112
  go_wp2;go_ret;exact⟨rfl,Below.refl ..⟩
 .let⟨l,i,z,o,A⟩:=Y4 Tryz.Se;have w:(prog.info? 5).map (·.size)=some 1:=by rw[i];simp[o]
  have v:prog.cellsOf 5=1:=kr;obtain⟨c,h⟩:=j5<|madeCells (Value.int .u8 0).cells<|((a.size:Nat):Int).toNat*l.size;have J:c.size=a.size:=by rw[h,aaG,o];simp
  have D:∀e:b_,(Instr.makeSlice 114 (ν (a.size:Int))<|ν (a.size:Int)).run prog e=.ok (ω e.heap.size a.size a.size) (e.alloc<|.cells c 5):=λe=>by have k:=run_make e 114 5 l (.int .u8 0) underlying114 i z .i64 .i64 (a.size:Int) (a.size:Int) om om (p1 A) om;rw[<-h]at k;simpa using k
  clear h;have x:=Lib.run_copy_row_string (b.alloc<|.cells c 5) 114 9 3 5 b.heap.size 0 a.size a.size a c 5 underlying114 w (YO b _) kM om;obtain⟨d,g⟩:=j5<|(c.toList.take 0++Lib.byteCells a.data.toList++c.toList.drop (0+a.size)).toArray;rw[<-g]at x;have j:d.toList=Lib.byteCells a.data.toList:=by rw[g,abU,abQ,YT,List.drop_of_length_le (by rw[Y0];omega),Zy]
  have F:d.size=a.size:=by rw[<-Y0,j,Z2,<-Z']
  have m:((b.alloc<|.cells c 5).setRow b.heap.size d).heap[b.heap.size]?=some (.cells d 5):=aae _ _ c _ 5 (0,0) (YO b _);have t:a.data.toList≠[]:=λf=>n (by rw[Z',f];rfl)
  have r:=Lib.run_unsafeString_row ((b.alloc<|.cells c 5).setRow b.heap.size d) 217 3 9 5 underlying217 v b.heap.size d.size (by unfold World.shape?;rw[m]) a.data.toList t (by rw[<-Z'];omega) (by rw[<-Z'];omega)
   (λu C y=>Lib.cells_of_row m d.size u _ (by rw[Zf (by rw[Y0];exact YC _),j];simp[Lib.byteCells,y]))
  rw[<-Z']at r;clear g
  go_enter func112,ntmps112
  go_wp2;go_ret;have q:Below b.heap.size b<|b.alloc<|.cells c 5:=(Below.refl _ b).alloc kM _;have s:Below b.heap.size (b.alloc<|.cells c 5)<|(b.alloc<|.cells c 5).setRow b.heap.size d:=⟨rfl,rfl,rfl,si,λI E=>abD _ _ _ _ om⟩;exact⟨rfl,Lib.below_freeze (q.trans s) (p:=μ b.heap.size 0) kM _⟩
def va(a:a_)(b:b_)(f:a.size<=4194304):
 Calls prog 76 #[.string a] b λc d=>c=.returned (.string a)/\Below b.heap.size b d:=by
 go_enter func76,ntmps76
 go_wp2_with fail
 refine(Co a _ f).mono ?_;rintro c d ⟨rfl,e⟩;go_wp2;go_ret;exact⟨rfl,e⟩
namespace Pl
def wd(b:a_)(a:Nat):Nat:=256*j2 b a+j2 b (a+1)
def pZ(b:a_)(a:Nat):wd b a<65536:=by have:=kz b a;have:=kz b<|a+1;unfold wd;omega
def kJ(b:a_)(c a:Nat):List Int:=(List.range a).map λd=>((wd b (c+2*d):Nat):Int)
def bit(b:a_)(c a:Nat):Nat:=j2 b (c+a/8)/2^(a%8)%2
def mx(b:a_)(c a:Nat):List Int:=(List.range a).map λd=>((bit b c d:Nat):Int)
def kO(b:a_)(c a:Nat):(kJ b c a).length=a:=by simp[kJ]
def mp(b:a_)(c a:Nat):(mx b c a).length=a:=by simp[mx]
def Cp(a:a_)(c b:Nat):kJ a c (b+1)=kJ a c b++[((wd a (c+2*b):Nat):Int)]:=by simp[kJ,aax]
def EH(a:a_)(c b:Nat):mx a c (b+1)=mx a c b++[((bit a c b:Nat):Int)]:=by simp[mx,aax]
def zW(c:a_)(b d a:Nat)(e:a<d):(kJ c b d)[a]?=some ((wd c (b+2*a):Nat):Int):=by simp[kJ,e]
def Cq(c:a_)(b d a:Nat)(e:a<d):(mx c b d)[a]?=some ((bit c b a:Nat):Int):=by simp[mx,e]
def S_(a:a_)(b c:Nat):bit a b c<2:=by unfold bit;omega
def m_(a:a_)(c b:Nat):wd (a.extract c a.size) b=wd a (c+b):=by unfold wd;rw[lV,lV,aaC]
def ny(a:a_)(c b d:Nat):kJ (a.extract c a.size) b d=kJ a (c+b) d:=by unfold kJ;apply aaT;intro e _;rw[m_,aaC]
def uw(a:a_)(c b d:Nat):mx (a.extract c a.size) b d=mx a (c+b) d:=by unfold mx;apply aaT;intro e _;unfold bit;rw[lV,aaC]
structure mW where
 fn:Nat
 kA:Nat
 l7:Nat
 cnt:Nat
 kd:Nat
 to_:Nat
 many:Nat
 vals:List Int
def j6:mW:=⟨0,0,0,0,0,0,0,[]⟩
def pP(b:Nat)(a:a_):Prop:=a.size=5/\1<=wd a 3/\wd a 3<=b
def tJ(a:a_):Prop:=a.size=5/\(wd a 3=0\/wd a 3=65280)
def p3(a:a_):Prop:=6<=a.size/\1<=wd a 3/\wd a 3<=1968/\j2 a 5=(wd a 3+7)/8/\a.size=6+j2 a 5
def p4(a:a_):Prop:=6<=a.size/\1<=wd a 3/\wd a 3<=123/\j2 a 5=2*wd a 3/\a.size=6+j2 a 5
def tK(a:a_):Prop:=10<=a.size/\1<=wd a 3/\wd a 3<=125/\1<=wd a 7/\wd a 7<=121/\j2 a 9=2*wd a 7/\a.size=10+j2 a 9
def lj(a:a_)(c:mW)(b:Nat):Prop:=
 (a.size=0\/253<a.size)/\c=j6/\b=3\/
 (0<a.size/\a.size<=253)/\
  ((j2 a 0=1/\(pP 2000 a/\c=⟨1,0,wd a 1,wd a 3,0,0,0,[]⟩/\b=0\/¬pP 2000 a/\c=j6/\b=3))\/
   (j2 a 0=2/\(pP 2000 a/\c=⟨2,1,wd a 1,wd a 3,0,0,0,[]⟩/\b=0\/¬pP 2000 a/\c=j6/\b=3))\/
   (j2 a 0=3/\(pP 125 a/\c=⟨3,2,wd a 1,wd a 3,0,0,0,[]⟩/\b=0\/¬pP 125 a/\c=j6/\b=3))\/
   (j2 a 0=4/\(pP 125 a/\c=⟨4,3,wd a 1,wd a 3,0,0,0,[]⟩/\b=0\/¬pP 125 a/\c=j6/\b=3))\/
   (j2 a 0=5/\(tJ a/\c=⟨5,0,0,0,0,wd a 1,1,[((wd a 3/65280:Nat):Int)]⟩/\b=0\/¬tJ a/\c=j6/\b=3))\/
   (j2 a 0=6/\(a.size=5/\c=⟨6,0,0,0,2,wd a 1,1,[((wd a 3:Nat):Int)]⟩/\b=0\/¬a.size=5/\c=j6/\b=3))\/
   (j2 a 0=15/\(p3 a/\c=⟨15,0,0,0,0,wd a 1,wd a 3,mx a 6<|wd a 3⟩/\b=0\/¬p3 a/\c=j6/\b=3))\/
   (j2 a 0=16/\(p4 a/\c=⟨16,0,0,0,2,wd a 1,wd a 3,kJ a 6<|wd a 3⟩/\b=0\/¬p4 a/\c=j6/\b=3))\/
   (j2 a 0=22/\(a.size=7/\c=⟨22,2,wd a 1,1,2,wd a 1,1,kJ a 3 2⟩/\b=0\/¬a.size=7/\c=j6/\b=3))\/
   (j2 a 0=23/\(tK a/\c=⟨23,2,wd a 1,wd a 3,2,wd a 5,wd a 7,kJ a 10<|wd a 7⟩/\b=0\/¬tK a/\c=j6/\b=3))\/
   (j2 a 0≠1/\j2 a 0≠2/\j2 a 0≠3/\j2 a 0≠4/\j2 a 0≠5/\j2 a 0≠6/\j2 a 0≠15/\j2 a 0≠16/\j2 a 0≠22/\j2 a 0≠23)/\c=j6/\b=1)
def KO{a:Prop}{d f h i:mW}{e c:Nat}(j:a/\d=h/\e=0\/¬a/\d=i/\e=3)(k:a/\f=h/\c=0\/¬a/\f=i/\c=3):d=f/\e=c:=by rcases j with⟨b,rfl,rfl⟩|⟨b,rfl,rfl⟩<;>rcases k with⟨g,rfl,rfl⟩|⟨g,rfl,rfl⟩<;>first|exact⟨rfl,rfl⟩|exact absurd b g|exact absurd g b
def lj.eq{i:a_}{e g:mW}{f h:Nat}(b:lj i e f)(a:lj i g h):e=g/\f=h:=by
 unfold lj at b a;rcases b with⟨k,rfl,rfl⟩|⟨k,b⟩
 .rcases a with⟨_,rfl,rfl⟩|⟨j,_⟩
  .exact⟨rfl,rfl⟩
  .omega
 .rcases a with⟨j,_,_⟩|⟨_,a⟩
  .omega
  .rcases b with⟨c,b⟩|⟨c,b⟩|⟨c,b⟩|⟨c,b⟩|⟨c,b⟩|⟨c,b⟩|⟨c,b⟩|⟨c,b⟩|⟨c,b⟩|⟨c,b⟩|⟨c,b⟩<;>
    rcases a with⟨d,a⟩|⟨d,a⟩|⟨d,a⟩|⟨d,a⟩|⟨d,a⟩|⟨d,a⟩|⟨d,a⟩|⟨d,a⟩|⟨d,a⟩|⟨d,a⟩|⟨d,a⟩<;>
    first
    |exact KO b a
    |exact absurd c om
    |exact⟨b.1.trans a.1.symm,b.2.trans a.2.symm⟩
end Pl
def qE(a:a_)(b:b_)(k:2<=a.size):
 Calls prog 128 #[.string a] b λc e=>c=.returned (ν<|Pl.wd a 0)/\∃g,e=b.drewN g:=by
 have h:=Pl.kG a;have f:=Pl.kz a 0;have d:=Pl.kz a 1;have j:0<a.size:=om;have i:1<a.size:=om
 go_enter func128,ntmps128
 go_wp2
 go_quiet (fail)
 go_wp2;go_ret;exact⟨um (by unfold Pl.wd;first|omega|(rw[Pl.Cm _ _ f d])),_,rfl⟩
def sT(a:Nat)(c:a<=100000)(b:b_):(Instr.makeSlice 28 (ν (a:Int))<|ν (a:Int)).run prog b=.ok (.slice (some (μ b.heap.size 0)) a a) (b.alloc<|.cells (madeCells #[ν 0] a) 3):=
 abW 28 3 _ 8 underlying28 Tryz.qj rfl .i64 .i64 a om om b
def zX(b:b_)(a:Nat)(e:a<=100000)(c:List f_):ma (b.alloc<|.cells (madeCells #[ν 0] a) 3) b.heap.size 3 1 (.slice (some (μ b.heap.size 0)) a a) a 0 c:=
 .inr ⟨b.heap.size,a,_,rfl,YC _,YO b _,YC _,ml,by rw[aaG];simp,λf d=>absurd d (Zh _)⟩
def p5(b:List Int)(a:Nat)(c:Int)(M:b[a]?=some c):(b.flatMap ka)[a]?=some (ν c):=by obtain⟨d,rfl⟩:=Yr.1 M;have:=kj ka 1 (λ_=>rfl) b a 0 d om;exact KE
def lW(a:List Int):(a.flatMap ka).length=a.length*1:=mn ka 1 (λ_=>rfl) a
def tL(b:a_)(a:Nat)(d:b_)(D:b.size/2=a)(I:b.size<=100000):
 Calls prog 99 #[.string b] d λk q=>∃p,k=.returned p/\q.ownsRow d.heap.size 3 1 p a ((Pl.kJ b 0 a).flatMap ka)/\Below d.heap.size d q:=by
 have B:=sT a om;have x:IntKind.i64.wrap ((b.size:Int).tdiv 2)=(a:Int):=by rw[aao,Int.tdiv_eq_ediv_of_nonneg om];omega
 have F:(b.size:Int)/2=(a:Int):=om;have w:2*a<=b.size:=om
 go_enter func99,ntmps99
 go_wp2_with fail
 go_loopw [11] (λj wr=>∃c:Nat,c<=a/\j=ν c/\ma wr d.heap.size 3 1 (ω d.heap.size a a) a c ((Pl.kJ b 0 a).flatMap ka)/\Below d.heap.size d wr) (λj _=>a-(intOf j).toNat)
 case atStart=>exact⟨0,YG _,rfl,zX d a om _,br.alloc kM _⟩
 case round=>
  obtain⟨c,A,rfl,g,i⟩:=hrel;let⟨f,e⟩:=g.cells;by_cases s:c<a
  .let⟨v,m⟩:=f c om;have o:=e c;have E:c*2<=b.size:=om;have r:2<=(b.extract (c*2) b.size).size:=so;clear f e
   go_wp2_with fail
   refine(qE (b.extract (c*2) b.size) _ r).mono ?_;rintro k y ⟨rfl,u,rfl⟩;rw[Pl.m_];let⟨l,h⟩:=j5<|wr.drewN u;rw[<-h];have t:Below d.heap.size d l:=by rw[h];exact YL i _
   have n:ma l d.heap.size 3 1 (ω d.heap.size a a) a c<|(Pl.kJ b 0 a).flatMap ka:=by rw[h];exact g.same λC z=>by simp
   clear m o;let⟨f,e⟩:=n.cells;let⟨v,m⟩:=f c om;have o:=e c;clear h g i f e
   go_wp2_with fail
   go_roundw
   case rel=>exact⟨c+1,om,gn,n.step (by rw[p5 _ _ _ (Pl.zW b 0 a c s)];congr 2;rw[YF,aa_]) om,t.setCell kM _⟩
   case measure=>exact mz
  .go_wp2;go_ret;exact⟨_,rfl,g.own (by rw[lW,Pl.kO]) om,i⟩
def EI(a:Nat)(d:a<256):bits .and .u8 (a:Int) 1=((a%2:Nat):Int):=by
 show IntKind.u8.wrap ((BitVec.ofInt 8 (a:Int)&&&BitVec.ofInt 8 1).toNat:Int)=_;have b:(BitVec.ofInt 8 (a:Int)).toNat=a:=by rw[aaP,aa3];exact aaE om
 have c:(BitVec.ofInt 8 (1:Int)).toNat=1:=rfl;rw[ace,b,c,Nat.and_one_is_mod,aaf];omega
def N8(b:a_)(a:Nat):wrap64 (bits BinOp.and IntKind.u8 ((Pl.j2 b (a/8):Int)/2^(a%8)) 1)=((Pl.bit b 0 a:Nat):Int):=by
 have e:=Pl.kz b<|a/8;have c:((Pl.j2 b (a/8):Nat):Int)/2^(a%8)=((Pl.j2 b (a/8)/2^(a%8):Nat):Int):=by rw[Int.natCast_ediv,Int.natCast_pow];rfl
 have d:Pl.j2 b (a/8)/2^(a%8)<=Pl.j2 b (a/8):=abg _ _;rw[c,EI _ om];unfold Pl.bit;rw[YF];simp only[wrap64];omega
def zY(d:a_)(a:Nat)(c:b_)(n:(a+7)/8<=d.size)(w:a<=100000):
 Calls prog 98 #[.string d,ν a] c λl k=>∃j,l=.returned j/\k.ownsRow c.heap.size 3 1 j a ((Pl.mx d 0 a).flatMap ka)/\Below c.heap.size c k:=by
 have v:=sT a om;have u:=Pl.kG d
 go_enter func98,ntmps98
 go_wp2_with fail
 go_loopw [11] (λf wr=>∃b:Nat,b<=a/\f=ν b/\ma wr c.heap.size 3 1 (ω c.heap.size a a) a b ((Pl.mx d 0 a).flatMap ka)/\Below c.heap.size c wr) (λf _=>a-(intOf f).toNat)
 case atStart=>exact⟨0,YG _,rfl,zX c a om _,br.alloc kM _⟩
 case round=>
  obtain⟨b,s,rfl,e,i⟩:=hrel;let⟨h,g⟩:=e.cells;by_cases m:b<a
  .let⟨q,o⟩:=h b om;have r:=g b;have p:b/8<d.size:=om;have t:=Pl.kz d<|b/8;clear h g
   go_wp2_with fail
   go_roundw
   case rel=>exact⟨b+1,om,gn,e.step (by rw[p5 _ _ _ (Pl.Cq d 0 a b m)];exact ZD some (ur (N8 d b).symm)) om,i.setCell kM _⟩
   case measure=>exact mz
  .go_wp2;go_ret;exact⟨_,rfl,e.own (by rw[lW,Pl.mp]) om,i⟩
def q'(a:f_)(b:b_):(callFunc 128 #[a]).run prog b=.ok (.enter 128 #[a]) b:=kr
def pu(a:a_)(b:b_)(g:2<=a.size):
 Calls prog 128 #[.string a] b λd e=>∃f,d=.returned f/\(f=ν (Pl.wd a 0)/\∃c,e=b.drewN c):=by
 refine(qE a b g).mono ?_;rintro d e ⟨rfl,c,rfl⟩;exact⟨_,rfl,rfl,c,rfl⟩
def N9(b a:Nat):((b:Int)==(a:Int))=decide (b=a):=by rw[ack];simp;omega
def zZ(c:b_)(b a:Nat):∃d,(c.drewN b).drewN a=c.drewN d:=⟨b+a,by rw[World.drewN_drewN]⟩
def vb(a:a_)(b:Nat):Pl.wd (a.extract b a.size) 0=Pl.wd a b:=Pl.m_ a b 0
def Cr(a:a_)(c:Nat)(k:b_)(v:4<=a.size)(x:a.size<=4194304)(u:c<=4194304):
 Calls prog 166 #[.string a,ν c] k λe g=>∃l:Bool,e=.returned (.tuple #[ν<|Pl.wd a 0,ν<|Pl.wd a 2,.bool l])/\(l=true↔1<=Pl.wd a 2/\Pl.wd a 2<=c)/\∃f,g=k.drewN f:=by
 have o:2<=(a.extract 2 a.size).size:=so;have i:2<=a.size:=om;have j:=pu a;have h:∀d:b_,Calls prog 128 #[.string<|a.extract 2 a.size] d λe g=>∃b,e=.returned b/\(b=ν (Pl.wd a 2)/\∃f,g=d.drewN f):=λd=>by have:=pu (a.extract 2 a.size) d o;rwa[vb]at this
 have w:=Pl.pZ a 2;have b0:=Pl.pZ a 0;have t:(2:Int)<=a.size:=om;by_cases m:1<=Pl.wd a 2
 .by_cases s:Pl.wd a 2<=c
  all_goals
   go_enter func166,ntmps166
   go_wp2_with fail
   go_region_law (first
    |(refine ki rfl 128 #[.tmp 9] #[9] rfl #[.string a] (by simp[Act.eval,Act.put]) (q' _ _) _ (j _ i) ?_;rintro b q ⟨rfl,p,rfl⟩)
    |(refine ki rfl 128 #[.tmp 12] #[9] rfl #[.string<|a.extract 2 a.size] qU (q' _ _) _ (h _) ?_;rintro b n ⟨rfl,r,rfl⟩))
   all_goals go_wp2
   all_goals refine Yx (v:=.tuple #[ν<|Pl.wd a 0,ν<|Pl.wd a 2,.bool<|decide (1<=Pl.wd a 2/\Pl.wd a 2<=c)]) (by simp[results,results166,go_sem,m,s]) rfl ⟨decide (1<=Pl.wd a 2/\Pl.wd a 2<=c),rfl,si,?_⟩
   all_goals exact⟨_,rfl⟩
 .go_enter func166,ntmps166
  go_wp2_with fail
  go_region_law (first
   |(refine ki rfl 128 #[.tmp 9] #[9] rfl #[.string a] (by simp[Act.eval,Act.put]) (q' _ _) _ (j _ i) ?_;rintro b q ⟨rfl,p,rfl⟩)
   |(refine ki rfl 128 #[.tmp 12] #[9] rfl #[.string<|a.extract 2 a.size] qU (q' _ _) _ (h _) ?_;rintro b n ⟨rfl,r,rfl⟩))
  all_goals go_wp2
  all_goals refine Yx (v:=.tuple #[ν<|Pl.wd a 0,ν<|Pl.wd a 2,.bool false]) (by simp[results,results166,go_sem]) rfl ⟨rfl,?_⟩
  all_goals exact⟨_,rfl⟩
def u1(a:Pl.mW)(b:f_):f_:=.agg #[ν a.fn,ν a.kA,ν a.l7,ν a.cnt,ν a.kd,ν a.to_,ν a.many,b]
def oK(d c a:Nat)(f:Option Addr)(b:Nat)(e:b_)(i:a<=4194304):
 Calls prog 167 #[ν d,ν c,.slice f a b] e λg h=>g=.returned (.agg #[ν 0,ν 0,ν 0,ν 0,ν d,ν c,ν a,.slice f a b])/\Below e.heap.size e h:=by
 go_enter func167,ntmps167
 go_wp2;refine Yx (v:=.agg #[ν 0,ν 0,ν 0,ν 0,ν d,ν c,ν a,.slice f a b]) (by simp[results,results167,go_sem]) rfl ⟨rfl,?_⟩;exact br.alloc kM _
def z1(a:a_)(c:Nat)(f:b_)(q:a.size<=4194304)(m:c<=4194304):
 Calls prog 168 #[.string a,ν c] f λd p=>∃b:Bool,(a.size<=4/\d=.returned (.tuple #[ν 0,ν 0,.string ⟨#[]⟩,.bool b])/\b=false\/
  4<a.size/\d=.returned (.tuple #[ν<|Pl.wd a 0,ν<|Pl.wd a 2,.string<|a.extract 5 a.size,.bool b])/\(b=true↔(1<=Pl.wd a 2/\Pl.wd a 2<=c)/\a.size-5=Pl.j2 a 4))/\∃l,p=f.drewN l:=by
 have u:=Pl.kG a;by_cases o:a.size<=4
 .go_enter func168,ntmps168
  go_wp2;refine Yx (v:=.tuple #[ν 0,ν 0,.string ⟨#[]⟩,.bool false]) (by simp[results,results168,go_sem]) rfl ⟨false,.inl ⟨o,rfl,rfl⟩,0,rfl⟩
 .have i:4<a.size:=om;have t:(5:Int)<=a.size:=om;have n:=Pl.kz a 4;have r:(a.extract 5 a.size).size=a.size-5:=si;have x:Hid<|Pl.j2 a 4<256:=n
  go_enter func168,ntmps168
  go_wp2_with fail
  refine(Cr a c _ om q m).mono ?_;rintro d s ⟨b,rfl,g,k,rfl⟩;have h:=h_ g;clear g;obtain⟨w,e⟩:=j5<|f.drewN k;rw[<-e];have j:=h_ e;clear e
  cases b with
  |false=>
   go_wp2_with fail
   go_quiet (fail)
   go_wp2;refine Yx (v:=.tuple #[ν<|Pl.wd a 0,ν<|Pl.wd a 2,.string<|a.extract 5 a.size,.bool false]) (by simp[results,results168,go_sem]) rfl ⟨false,.inr ⟨i,rfl,?_⟩,by rw[j.o];exact zZ _ _ _⟩;have:=h.o;simp at this⊢;omega
  |true=>
   go_wp2_with fail
   go_quiet (fail)
   go_wp2;refine Yx (v:=.tuple #[ν<|Pl.wd a 0,ν<|Pl.wd a 2,.string<|a.extract 5 a.size,.bool<|decide (a.size-5=Pl.j2 a 4)]) (by simp[results,results168,go_sem];exact N9 _ _) rfl ⟨_,.inr ⟨i,rfl,?_⟩,by rw[j.o];exact zZ _ _ _⟩;have:=h.o;simp at this⊢;omega
def tM(b e:b_)(f:Ending)(ok:Prop)(g:Pl.mW):Prop:=
 ∃(a:Pl.mW) (d:f_) (c:Bool),f=.returned (.tuple #[u1 a d,.bool c])/\e.ownsRow b.heap.size 3 1 d a.vals.length (a.vals.flatMap ka)/\(c=true↔ok)/\(c=true->a=g)/\a.vals.length<=2000/\Below b.heap.size b e
def mE{c d:b_}{b g:Nat}(n:Below b c d)(a:b<=g)(f e m l h k i j:f_):Below b c ((((((((d.setCell (μ g 0) f).setCell (μ g 1) e).setCell (μ g 2) m).setCell (μ g 3) l).setCell (μ g 4) h).setCell (μ g 5) k).setCell (μ g 6) i).setCell (μ g 7) j):=
 (((((((n.setCell a _).setCell a _).setCell a _).setCell a _).setCell a _).setCell a _).setCell a _).setCell a _
def Cs{k:b_}{a h j:Nat}{l:f_}{f:List f_}(i:k.ownsRow (a+1) 3 1 l j f)(w:h<=a)(n q p u r o t s:f_):((((((((k.setCell (μ a 0) n).setCell (μ a 1) q).setCell (μ a 2) p).setCell (μ a 3) u).setCell (μ a 4) r).setCell (μ a 5) o).setCell (μ a 6) t).setCell (μ a 7) s).ownsRow h 3 1 l j f:=by refine j9 (jV i λd v=>?_)<|Nat.le_succ_of_le w;have m:d≠a:=li<|(i.lt d v).1;have b:∀(c:b_) (g:Nat) (e:f_),(c.setCell (μ a g) e).heap[d]?=c.heap[d]?:=λc g e=>Yp c _ _ e m;rw[b,b,b,b,b,b,b,b]
def kq{a:b_}{b:Nat}{f e l k g j i h:f_}(c:a.heap[b]?=some (.cells #[f,e,l,k,g,j,i,h] 144)):(∀d,a.frozen? (μ b d)=false)/\a.cell? (μ b 0)=some f/\a.cell? (μ b 1)=some e/\a.cell? (μ b 2)=some l/\a.cell? (μ b 3)=some k/\a.cell? (μ b 4)=some g/\a.cell? (μ b 5)=some j/\a.cell? (μ b 6)=some i/\a.cell? (μ b 7)=some h:=
 ⟨λd=>Y2 a b d _ 144 c,Yu a b 0 _ 144 (0,0) c,Yu a b 1 _ 144 (0,0) c,Yu a b 2 _ 144 (0,0) c,Yu a b 3 _ 144 (0,0) c,Yu a b 4 _ 144 (0,0) c,Yu a b 5 _ 144 (0,0) c,Yu a b 6 _ 144 (0,0) c,Yu a b 7 _ 144 (0,0) c⟩
def oL(b c:Nat)(a:a_)(g:b_)(n:a.size<=4194304)(k:c<=4194304):
 Calls prog 138 #[ν b,ν c,.string a] g λe m=>tM g m e (a.size=4/\1<=Pl.wd a 2/\Pl.wd a 2<=c) ⟨0,b,Pl.wd a 0,Pl.wd a 2,0,0,0,[]⟩:=by
 by_cases d:a.size=4
 .have t4:((a.size:Int)!=4)=false:=so;have j:4<=a.size:=om;have l:=h_ d;clear d
  go_enter func138,ntmps138
  go_wp2_with fail
  refine(Cr a c _ j n k).mono ?_;rintro e p ⟨h,rfl,f,o,rfl⟩;have i:=h_ f;clear f;go_wp2
  refine Yx (v:=.tuple #[.agg #[ν 0,ν b,ν<|Pl.wd a 0,ν<|Pl.wd a 2,ν 0,ν 0,ν 0,σ],.bool h]) (by simp[results,results138,go_sem]) rfl
   ⟨⟨0,b,Pl.wd a 0,Pl.wd a 2,0,0,0,[]⟩,σ,h,rfl,Yq ..,?_,λ_=>rfl,si,?_⟩
  .rw[i.o];simp[l.o]
  .exact mE (YL (jT br _) _) kM ..
 .have t4:((a.size:Int)!=4)=true:=so
  go_enter func138,ntmps138
  go_wp2
  refine Yx (v:=.tuple #[.agg z8,.bool false]) (by simp[results,results138,go_sem]) rfl
   ⟨Pl.j6,σ,false,rfl,Yq ..,by simp[d],si,by simp[Pl.j6],?_⟩
  exact br.alloc kM _
def Ct(a:b_)(c:Int)(b:Nat)(d:b<=a.heap.size):(a.alloc<|.cells #[ν c] 3).ownsRow b 3 1 (.slice (some (μ a.heap.size 0)) 1 1) 1 ([c].flatMap ka):=
 ⟨rfl,.inr ⟨a.heap.size,1,_,rfl,d,YO a _,YC _,ml,rfl,rfl⟩⟩
def vd{w d:b_}{k:Nat}{a:Int}(b:Below (((w.alloc<|.cells z8 144).drewN k).alloc<|.cells #[ν a] 3).heap.size (((w.alloc<|.cells z8 144).drewN k).alloc<|.cells #[ν a] 3) d):
 d.heap[w.heap.size]?=some (.cells z8 144)/\d.ownsRow (w.heap.size+1) 3 1 (.slice (some (μ (w.heap.size+1) 0)) 1 1) 1 ([a].flatMap ka)/\Below w.heap.size w d:=by
 let⟨X,ae⟩:=j5<|w.alloc<|.cells z8 144;refine HD ?_;intro bH;have h:=ba ae;have g:=v' ae;rw[<-ae]at b;clear ae;let⟨f,c⟩:=j5<|(X.drewN k).alloc<|.cells #[ν a] 3;have e:Below X.heap.size X f:=by rw[c];exact jT (YL br _) _
 have i:f.ownsRow (w.heap.size+1) 3 1 (ω (w.heap.size+1) 1 1) 1<|[a].flatMap ka:=by rw[c,<-bH];exact Ct (X.drewN k) a _ kM
 rw[<-c]at b;clear c;exact⟨(b.block w.heap.size<|li e.size).trans<|(e.block w.heap.size om).trans g,jY i b,jZ (jZ h e) b⟩
def xd(a:a_)(i:b_)(J:a.size<=4194304):
 Calls prog 139 #[.string a] i λb D=>tM i D b (a.size=4/\(Pl.wd a 2=0\/Pl.wd a 2=65280)) ⟨0,0,0,0,0,Pl.wd a 0,1,[((Pl.wd a 2/65280:Nat):Int)]⟩:=by
 by_cases r:a.size=4
 .have t4:((a.size:Int)!=4)=false:=so;have u:2<=a.size:=om;have F:(2:Int)<=a.size:=om;have y:2<=(a.extract 2 a.size).size:=so;have x:=h_ r;clear r
  go_enter func139,ntmps139
  go_wp2_with fail
  refine(qE (a.extract 2 a.size) _ y).mono ?_;rintro b I ⟨rfl,E,rfl⟩;rw[vb];let⟨d,g⟩:=j5<|Pl.wd a 2;rw[<-g];have e:=h_ g;have w:d<65536:=by rw[g];exact Pl.pZ a 2
  clear g;by_cases h:d=0
  .clear w;subst h
   go_wp2_with fail
   refine(qE a _ u).mono ?_;rintro b A ⟨rfl,z,rfl⟩
   go_wp2_with fail
   refine(oK 0 (Pl.wd a 0) 1 _ 1 _ om).mono ?_;rintro b C ⟨rfl,c⟩;let⟨f,m,p⟩:=vd c;let⟨B,n,k,j,t,l,o,s,q⟩:=kq f;clear c f;go_wp2
   refine Yx (v:=.tuple #[.agg #[ν 0,ν 0,ν 0,ν 0,ν 0,ν<|Pl.wd a 0,ν 1,ω (i.heap.size+1) 1 1],.bool true]) (by simp[results,results139,go_sem,n,k,j,t,l,o,s,q]) rfl
    ⟨⟨0,0,0,0,0,Pl.wd a 0,1,[0]⟩,_,true,rfl,Cs m kM ..,?_,?_,si,mE p kM ..⟩
   .simp[x.o,<-e.o]
   .simp[<-e.o]
  .have t0:((d:Int)!=0)=true:=so;clear h;by_cases h:d=65280
   .clear w;subst h
    go_wp2_with fail
    refine(qE a _ u).mono ?_;rintro b A ⟨rfl,z,rfl⟩
    go_wp2_with fail
    refine(oK 0 (Pl.wd a 0) 1 _ 1 _ om).mono ?_;rintro b C ⟨rfl,c⟩;let⟨f,m,p⟩:=vd c;let⟨B,n,k,j,t,l,o,s,q⟩:=kq f;clear c f;go_wp2
    refine Yx (v:=.tuple #[.agg #[ν 0,ν 0,ν 0,ν 0,ν 0,ν<|Pl.wd a 0,ν 1,ω (i.heap.size+1) 1 1],.bool true]) (by simp[results,results139,go_sem,n,k,j,t,l,o,s,q]) rfl
     ⟨⟨0,0,0,0,0,Pl.wd a 0,1,[1]⟩,_,true,rfl,Cs m kM ..,?_,?_,si,mE p kM ..⟩
    .simp[x.o,<-e.o]
    .simp[<-e.o]
   .have t1:((d:Int)!=65280)=true:=so;go_wp2
    refine Yx (v:=.tuple #[.agg z8,.bool false]) (by simp[results,results139,go_sem]) rfl
     ⟨Pl.j6,σ,false,rfl,Yq ..,?_,si,by simp[Pl.j6],mE (YL (jT br _) _) kM ..⟩
    simp at t0 t1;rw[<-e.o];simp;omega
 .have t4:((a.size:Int)!=4)=true:=so
  go_enter func139,ntmps139
  go_wp2
  refine Yx (v:=.tuple #[.agg z8,.bool false]) (by simp[results,results139,go_sem]) rfl
   ⟨Pl.j6,σ,false,rfl,Yq ..,by simp[r],si,by simp[Pl.j6],?_⟩
  exact br.alloc kM _
def N_(d a c:f_)(b:b_):(callFunc 167 #[d,a,c]).run prog b=.ok (.enter 167 #[d,a,c]) b:=kr
def A7(e d a:Nat)(f:Option Addr)(c:Nat)(b:b_)(k:a<=4194304):
 Calls prog 167 #[ν e,ν d,.slice f a c] b λg h=>∃i,g=.returned i/\(i=.agg #[ν 0,ν 0,ν 0,ν 0,ν e,ν d,ν a,.slice f a c]/\Below b.heap.size b h):=by
 refine(oK e d a f c b k).mono ?_;rintro g h ⟨rfl,j⟩;exact⟨_,rfl,rfl,j⟩
def ux(a:a_)(c:b_)(q:a.size<=4194304):
 Calls prog 140 #[.string a] c λe h=>tM c h e (a.size=4) ⟨0,0,0,0,2,Pl.wd a 0,1,[((Pl.wd a 2:Nat):Int)]⟩:=by
 by_cases g:a.size=4
 .have t4:((a.size:Int)!=4)=false:=so;have k:2<=a.size:=om;have s:(2:Int)<=a.size:=om;have m:2<=(a.extract 2 a.size).size:=so;have f:∀d:b_,Calls prog 128 #[.string<|a.extract 2 a.size] d λe h=>∃b,e=.returned b/\(b=ν (Pl.wd a 2)/\∃n,h=d.drewN n):=λd=>by have:=pu (a.extract 2 a.size) d m;rwa[vb]at this
  have o:=h_ g;clear g
  go_enter func140,ntmps140
  go_wp2_with fail
  go_region_law (first
   |(refine ki rfl 128 #[.tmp 8] #[9] rfl #[.string a] (by simp[Act.eval,Act.put]) (q' ..) _ (pu a _ k) ?_;rintro b v ⟨rfl,t,rfl⟩)
   |(refine ki rfl 128 #[.tmp 11] #[9] rfl #[.string<|a.extract 2 a.size] qU (q' ..) _ (f _) ?_;rintro b r ⟨rfl,u,rfl⟩)
   |(refine ki rfl 167 #[.const<|ν 2,.tmp 9,.tmp 13] #[3,3,28] rfl #[ν 2,ν<|Pl.wd a 0,ω (c.heap.size+1) 1 1] qU (N_ ..) _ (A7 2 (Pl.wd a 0) 1 (some (μ (c.heap.size+1) 0)) 1 _ om) ?_;rintro b w ⟨rfl,i⟩;let⟨j,l,p⟩:=vd i;let⟨hz,c0,c1,f,c3,c4,c5,c6,c7⟩:=kq j;clear i j))
  all_goals go_wp2
  all_goals
   refine Yx (v:=.tuple #[.agg #[ν 0,ν 0,ν 0,ν 0,ν 2,ν<|Pl.wd a 0,ν 1,ω (c.heap.size+1) 1 1],.bool true]) (by simp[results,results140,go_sem,c0,c1,f,c3,c4,c5,c6,c7]) rfl
    ⟨⟨0,0,0,0,2,Pl.wd a 0,1,[((Pl.wd a 2:Nat):Int)]⟩,_,true,rfl,Cs l kM ..,?_,?_,si,mE p kM ..⟩
  all_goals simp[o.o]
 .have t4:((a.size:Int)!=4)=true:=so
  go_enter func140,ntmps140
  go_wp2
  refine Yx (v:=.tuple #[.agg z8,.bool false]) (by simp[results,results140,go_sem]) rfl
   ⟨Pl.j6,σ,false,rfl,Yq ..,by simp[g],si,by simp[Pl.j6],?_⟩
  exact br.alloc kM _
def ra(a:Nat)(b:b_)(f:a<=100000):
 Calls prog 97 #[ν a] b λd e=>∃c:Nat,d=.returned (ν c)/\c=(a+7)/8/\e=b:=by
 go_enter func97,ntmps97
 go_wp2;go_ret;exact⟨(a+7)/8,um (by first|omega|(rw[Int.tdiv_eq_ediv_of_nonneg om];omega)),rfl,rfl⟩
def ve(a:a_)(w:b_)(ad:a.size<=100000):
 Calls prog 141 #[.string a] w λe Q=>tM w Q e (4<a.size/\(1<=Pl.wd a 2/\Pl.wd a 2<=1968)/\a.size-5=Pl.j2 a 4/\a.size-5=(Pl.wd a 2+7)/8) ⟨0,0,0,0,0,Pl.wd a 0,Pl.wd a 2,Pl.mx a 5<|Pl.wd a 2⟩:=by
 go_enter func141,ntmps141
 go_wp2_with fail
 refine(z1 a 1968 _ om om).mono ?_;rintro e T ⟨K,N,C,rfl⟩;rcases N with⟨m,rfl,rfl⟩|⟨m,rfl,r⟩
 ·
  go_wp2
  refine Yx (v:=.tuple #[.agg #[ν 0,ν 0,ν 0,ν 0,ν 0,ν 0,ν 0,σ],.bool false]) (by simp[results,results141,go_sem]) rfl
   ⟨Pl.j6,σ,false,rfl,Yq ..,so,si,by simp[Pl.j6],mE (YL (jT (Below.refl ..) _) _) (YC _) ..⟩
 .have s:=h_ r;clear r;have P:=Pl.pZ a 2;have h:(a.extract 5 a.size).size=a.size-5:=si;let⟨c,i⟩:∃c,c=a.extract 5 a.size:=⟨_,rfl⟩;rw[<-i]at h⊢;have D:=h_ i;clear i;have l:=h_ h;let⟨b,j⟩:∃b,b=Pl.wd a 2:=⟨_,rfl⟩;rw[<-j]at P⊢;have g:=h_ j;clear j;have V:c.size<=100000:=om;clear h
  cases K with
  |false=>go_wp2;refine Vr ?_;have:=s.out;simp at this⊢;intro _ F A o;omega
  |true=>
   have d:=s.out.1 rfl;have y:=h_ d;clear d
   go_wp2_with fail
   refine(ra b _ om).mono ?_;rintro e Y ⟨f,rfl,B,rfl⟩;have u:=h_ B;have aa:f<=100000:=om;clear B;have d:=y.out;clear y;by_cases U:c.size=f
   .have O:((c.size:Int)!=(f:Int))=false:=so;have J:=u.out;rw[<-g.out]at d;have n:c.size=(b+7)/8:=om;have t:=h_ n;clear J n;have ab:=d.1;have L:=h_ d.2;clear d;let⟨X,ae⟩:∃X,X=(w.alloc<|.cells #[ν 0,ν 0,ν 0,ν 0,ν 0,ν 0,ν 0,σ] 144).drewN C:=⟨_,rfl⟩;refine SN ?_;intro ar bH ao;rw[<-ae];clear ae
    go_wp2_with fail
    refine(zY c b X (li t.out) om).mono ?_;rintro e I ⟨v,rfl,hown,gb⟩;rw[bH]at hown;have ac:=hown.1;obtain⟨z,x,rfl,_⟩:=i_ hown
    go_wp2_with fail
    refine(oK 0 (Pl.wd a 0) b z x I om).mono ?_;rintro e w3 ⟨rfl,ga⟩;refine Qg ?_;intro gW db cj c0 c1 c2 c3 c4 c5 c6 c7;clear ga gb hown ar ao;go_wp2
    refine Yx (v:=.tuple #[.agg #[ν 0,ν 0,ν 0,ν 0,ν 0,ν<|Pl.wd a 0,ν b,.slice z b x],.bool true]) (by simp[results,results141,go_sem,c0,c1,c2,c3,c4,c5,c6,c7]) rfl
     ⟨⟨0,0,0,0,0,Pl.wd a 0,b,Pl.mx c 0 b⟩,_,true,rfl,by rw[Pl.mp];exact Cs db (YC _) ..,?_,?_,by rw[Pl.mp];omega,mE gW (YC _) ..⟩
    .have F:=L.out;have A:=l.out;have o:=g.out;have E:=t.out;simp only[true_iff];refine⟨m,?_,?_,?_⟩<;>omega
    .intro _;rw[D.out,Pl.uw,g.out]
   .have O:((c.size:Int)!=(f:Int))=true:=so;clear d;go_wp2;refine Vr ?_;have A:=l.out;have o:=g.out;have W:=u.out;simp;intro _ E R S Z;omega
def pv(g:Nat)(a:a_)(w:b_)(U:a.size<=100000)(T:g<=2000):
 Calls prog 142 #[ν g,.string a] w λe I=>tM w I e (4<a.size/\(1<=Pl.wd a 2/\Pl.wd a 2<=g)/\a.size-5=Pl.j2 a 4/\a.size-5=2*Pl.wd a 2) ⟨0,0,0,0,2,Pl.wd a 0,Pl.wd a 2,Pl.kJ a 5<|Pl.wd a 2⟩:=by
 go_enter func142,ntmps142
 go_wp2_with fail
 refine(z1 a g _ om om).mono ?_;rintro e N ⟨E,B,x,rfl⟩;rcases B with⟨n,rfl,rfl⟩|⟨n,rfl,t⟩
 ·
  go_wp2
  refine Yx (v:=.tuple #[.agg #[ν 0,ν 0,ν 0,ν 0,ν 0,ν 0,ν 0,σ],.bool false]) (by simp[results,results142,go_sem]) rfl
   ⟨Pl.j6,σ,false,rfl,Yq ..,so,si,by simp[Pl.j6],mE (YL (jT (Below.refl ..) _) _) (YC _) ..⟩
 .have u:=h_ t;clear t;have F:=Pl.pZ a 2;have h:(a.extract 5 a.size).size=a.size-5:=si;let⟨c,j⟩:∃c,c=a.extract 5 a.size:=⟨_,rfl⟩;rw[<-j]at h⊢;have y:=h_ j;clear j;have m:=h_ h;let⟨b,i⟩:∃b,b=Pl.wd a 2:=⟨_,rfl⟩;rw[<-i]at F⊢;have f:=h_ i;clear i;have S:c.size<=100000:=om;clear h
  cases E with
  |false=>go_wp2;refine Vq ?_;have:=u.out;simp at this⊢;intro _ z r s;omega
  |true=>
   have d:=u.out.1 rfl;by_cases Q:c.size=2*b
   .have C:((c.size:Int)!=2*(b:Int))=false:=so;rw[<-f.out]at d;have P:=d.1;have D:=h_ d.2;clear d;let⟨X,ae⟩:∃X,X=(w.alloc<|.cells #[ν 0,ν 0,ν 0,ν 0,ν 0,ν 0,ν 0,σ] 144).drewN x:=⟨_,rfl⟩;refine SN ?_;intro ar bH ao;rw[<-ae];clear ae
    go_wp2_with fail
    refine(tL c b X om om).mono ?_;rintro e A ⟨v,rfl,hown,gb⟩;rw[bH]at hown;have R:=hown.1;obtain⟨o,l,rfl,_⟩:=i_ hown
    go_wp2_with fail
    refine(oK 2 (Pl.wd a 0) b o l A om).mono ?_;rintro e w3 ⟨rfl,ga⟩;refine Qg ?_;intro gW db cj c0 c1 c2 c3 c4 c5 c6 c7;clear ga gb hown ar ao;go_wp2
    refine Yx (v:=.tuple #[.agg #[ν 0,ν 0,ν 0,ν 0,ν 2,ν<|Pl.wd a 0,ν b,.slice o b l],.bool true]) (by simp[results,results142,go_sem,c0,c1,c2,c3,c4,c5,c6,c7]) rfl
     ⟨⟨0,0,0,0,2,Pl.wd a 0,b,Pl.kJ c 0 b⟩,_,true,rfl,by rw[Pl.kO];exact Cs db (YC _) ..,?_,?_,by rw[Pl.kO];omega,mE gW (YC _) ..⟩
    .have z:=D.out;have r:=m.out;have s:=f.out;simp only[true_iff];refine⟨n,?_,?_,?_⟩<;>omega
    .intro _;rw[y.out,Pl.ny,f.out]
   .have C:((c.size:Int)!=2*(b:Int))=true:=so;clear d;go_wp2;refine Vq ?_;have r:=m.out;have s:=f.out;simp;intro _ O J K L;omega
def wi(a e:Nat)(f:e=(a+7)/8)(b:b_)(g:a<=100000):
 Calls prog 97 #[ν a] b λc d=>c=.returned (ν e)/\d=b:=by
 refine(ra a b g).mono ?_;rintro c d ⟨h,rfl,rfl,rfl⟩;exact⟨by rw[f],rfl⟩
def oj(a b g:Int)(f:Bool)(c:f=true↔b<=a/\a<=g)(e:b_):
 Calls prog 53 #[ν a,ν b,ν g] e λh j=>h=.returned (.bool f)/\j=e:=by
 have d:=h_ c;clear c;by_cases i:b<=a
 .go_enter func53,ntmps53
  go_wp2;go_ret;exact⟨up (by rw[ack,d.o];simp[i]),rfl⟩
 .go_enter func53,ntmps53
  go_wp2;go_ret;exact⟨up (by rw[ack,d.o];simp;intro k;omega),rfl⟩
def uy(a d:Nat)(c:d=max 1 ((a+61)/62))(b:b_)(h:a<=100000):
 Calls prog 91 #[ν a] b λe f=>e=.returned (ν d)/\f=b:=by
 have g:=h_ c;clear c
 go_enter func91,ntmps91
 go_wp2
 all_goals go_ret
 all_goals exact⟨um<|p1 g,rfl⟩
def uz(a c:Nat)(g:c=2*max 1 ((a+61)/62))(f:b_)(k:a<=100000):
 Calls prog 73 #[ν a] f λe i=>e=.returned (ν c)/\i=f:=by
 let⟨b,d⟩:=j5<|max 1<|(a+61)/62;have l:b<=100000:=om;have j:Hid<|c=2*b:=by show c=2*b;rw[g,d]
 have h:=h_ d;clear g d
 go_enter func73,ntmps73
 go_wp2_with fail
 refine(uy a b h _ k).mono ?_;rintro e m ⟨rfl,rfl⟩;go_wp2;go_ret;exact⟨um<|p1 j,rfl⟩
def r2(p r l q a b o m j k c:Nat)(i:Option Addr)(f:b_)(v:a<=60)(u:b<=60)(g:c=(a+7)/8+2*b):
 Calls prog 63 #[.agg #[ν p,ν r,ν l,ν q,ν a,ν b,ν o,.slice i m j,ν k]] f λh t=>h=.returned (ν c)/\Below f.heap.size f t:=by
 let⟨d,e⟩:=j5<|(a+7)/8;have w:d<=8:=om;have s:Hid<|c=d+2*b:=by show c=d+2*b;rw[g,e]
 have n:=h_ e;clear g e
 go_enter func63,ntmps63
 go_wp2_with fail
 go_quiet (first|(go_at_call 97;refine abV<|wi a d n _ om))
 go_wp2;go_ret;exact⟨um<|p1 s,YL (jT br _) _⟩
def Cu(a d:Nat)(b:d=(a+1)%2)(c:b_)(h:a<=100000):
 Calls prog 83 #[ν a] c λe g=>e=.returned (ν d)/\g=c:=by
 have f:=h_ b;clear b
 go_enter func83,ntmps83
 go_wp2;go_ret;exact⟨um<|p1 f,rfl⟩
def Wy{b a:Int}(c:b=a):Ending.returned (.int .u8 b)=.returned (.int .u8 a):=by rw[c]
def xD(a d:Nat)(b:d=a%3+1)(c:b_)(h:a<256):
 Calls prog 84 #[.int .u8 (a:Nat)] c λe g=>e=.returned (.int .u8 (d:Nat))/\g=c:=by
 have f:=h_ b;clear b
 go_enter func84,ntmps84
 go_wp2;go_ret;exact⟨Wy<|p1 f,rfl⟩
def xX(a:a_)(b:b_)(d:a.size=64):
 Calls prog 127 #[.string a] b λc e=>c=.returned (.int .u8 (Pl.j2 a 63:Nat))/\e=b:=by
 have g:=Pl.kG a;have h:63<a.size:=om;have f:(63:Int)<a.size:=om;clear d
 go_enter func127,ntmps127
 go_wp2;go_ret;exact⟨rfl,rfl⟩
def rb(a:b_)(d g i e c j k h:Int)(f:f_):∃b,b=a.alloc (.cells #[ν d,ν g,ν i,ν e,ν c,ν j,ν k,f,ν h] 39)/\b.heap.size=a.heap.size+1/\Below a.heap.size a b/\
 b.heap[a.heap.size]?=some (.cells #[ν d,ν g,ν i,ν e,ν c,ν j,ν k,f,ν h] 39):=
 ⟨_,rfl,si,jT br _,YO a _⟩
def kH{a:b_}{b:Nat}{c:d_}{g e m l h k j i f:f_}(d:a.heap[b]?=some (.cells #[g,e,m,l,h,k,j,i,f] c)):a.cell? (μ b 0)=some g/\a.cell? (μ b 1)=some e/\a.cell? (μ b 2)=some m/\a.cell? (μ b 3)=some l/\a.cell? (μ b 4)=some h/\a.cell? (μ b 5)=some k/\a.cell? (μ b 6)=some j/\a.cell? (μ b 7)=some i/\a.cell? (μ b 8)=some f:=
 ⟨Yu a b 0 _ c (0,0) d,Yu a b 1 _ c (0,0) d,Yu a b 2 _ c (0,0) d,Yu a b 3 _ c (0,0) d,Yu a b 4 _ c (0,0) d,Yu a b 5 _ c (0,0) d,Yu a b 6 _ c (0,0) d,Yu a b 7 _ c (0,0) d,Yu a b 8 _ c (0,0) d⟩
def Kq(b e c d:f_)(a:b_):(Instr.index 37 (.agg #[b,e,c,d])<|ν 0).run prog a=.ok b a:=kr
def Kr(e b c d:f_)(a:b_):(Instr.index 37 (.agg #[e,b,c,d])<|ν 1).run prog a=.ok b a:=kr
def Ks(d e a c:f_)(b:b_):(Instr.index 37 (.agg #[d,e,a,c])<|ν 2).run prog b=.ok a b:=kr
def Kt(d e c a:f_)(b:b_):(Instr.index 37 (.agg #[d,e,c,a])<|ν 3).run prog b=.ok a b:=kr
def WM(f g d e b c:Nat)(j:f<=c)(k:g<=c)(l:d<=c)(i:e<=c)(m:b<4):∃h:Nat,(∀a,(Instr.index 37 (.agg #[ν f,ν g,ν d,ν e])<|ν b).run prog a=.ok (ν h) a)/\h<=c:=by
 rcases(show b=0\/b=1\/b=2\/b=3 by omega)with rfl|rfl|rfl|rfl
 .exact⟨f,λa=>Kq _ _ _ _ a,j⟩
 .exact⟨g,λa=>Kr _ _ _ _ a,k⟩
 .exact⟨d,λa=>Ks _ _ _ _ a,l⟩
 .exact⟨e,λa=>Kt _ _ _ _ a,i⟩
def KQ(j o i n q r m c v l f:Nat)(k:Nat->Nat)(g:b_)(b0:j<=60)(C:o<=60)(I:i<=60)(O:n<=60)(W:q<=j)(R:r<=i)(Z:1<=m)(V:m<=247)(ab:1<=c)(X:c<=4)(Y:1<=l)(ai:l<=8)
 (J:f<g.heap.size) (w:∀b,b<c->g.cell? (μ f b)=some (ν<|k b)) (D:∀b,b<c->k b<=1):
 Calls prog 72 #[.agg #[ν j,ν o,ν i,ν n,ν q,ν r,ν m,.slice (some (μ f 0)) c v,ν l]] g λd P=>d=.returned (.bool true)/\Below g.heap.size g P:=by
 let⟨t,u,L,p,A⟩:=rb g j o i n q r m l<|ω f c v;let⟨ac,S,Q,aa,T,U,aj,af,ad⟩:=kH A;have B:∀b,b<c->t.cell? (μ f b)=some (ν<|k b):=λb M=>by rw[(ke p).1 f b J];exact w b M
 have F:=h_ B;have N:=h_ p;clear w A B p L
 go_enter func72,ntmps72
 go_wp2_with fail
 rw[<-u];clear u
 go_loopw [9] (λe wr=>∃a:Nat,a<=4/\e=ν a/\t=wr) (λe _=>4-(intOf e).toNat)
 case atStart=>exact⟨0,om,rfl,rfl⟩
 case round=>
  obtain⟨a,x,rfl,rfl⟩:=hrel;by_cases y:a<4
  .let⟨ae,ah,ag⟩:=WM j o i n a 60 b0 C I O y
   go_wp2_with fail
   refine(oj _ 0 60 true ?_ _).mono ?_
   .simp;omega
   rintro d h ⟨rfl,rfl⟩;go_wp2
   go_roundw
   case rel=>exact⟨a+1,om,gn,trivial⟩
   case measure=>exact mz
  .obtain rfl:a=4:=om
   go_wp2_with fail
   clear x y
   go_loopw [19] (λe wr=>∃a:Nat,a<=c/\e=ν a/\t=wr) (λe _=>c-(intOf e).toNat)
   case atStart=>exact⟨0,om,rfl,rfl⟩
   case round=>
    obtain⟨a,x,rfl,rfl⟩:=hrel;by_cases z:a<c
    .have E:=F a z;have K:=D a z;rcases(show k a=0\/k a=1 by omega)with s|s
     all_goals
      rw[s]at E;clear K s
      go_wp2_with fail
      go_roundw
      case rel=>exact⟨a+1,om,gn,trivial⟩
      case measure=>exact mz
    .go_wp2_with fail
     refine(oj _ 0 _ true ?_ _).mono ?_
     .simp;omega
     rintro d h ⟨rfl,rfl⟩
     go_wp2_with fail
     refine(oj _ 0 _ true ?_ _).mono ?_
     .simp;omega
     rintro d h ⟨rfl,rfl⟩
     go_wp2_with fail
     refine(oj _ 1 247 true ?_ _).mono ?_
     .simp;omega
     rintro d h ⟨rfl,rfl⟩
     go_wp2_with fail
     refine(oj _ 1 4 true ?_ _).mono ?_
     .simp;omega
     rintro d h ⟨rfl,rfl⟩
     go_wp2_with fail
     refine(oj _ 1 8 true ?_ _).mono ?_
     .simp;omega
     rintro d h ⟨rfl,rfl⟩;go_wp2;go_ret;exact⟨rfl,N⟩
def N'(j m h l e f k b o g c i:Nat)(q:Nat->Nat)(d:b_)(b0:j<=60)(T:m<=60)(ad:h<=60)(al:l<=60)(V:e<=j)(Q:f<=h)(Z:1<=k)(S:k<=247)(aa:1<=b)(X:b<=4)(Y:1<=g)(ai:g<=8)
 (ae:c<d.heap.size) (E:∀a,a<b->d.cell? (μ c a)=some (ν<|q a)) (U:∀a,a<b->q a<=1) (C:i=2*max 1 (((e+7)/8+2*f+61)/62)):
 Calls prog 48 #[.agg #[ν j,ν m,ν h,ν l,ν e,ν f,ν k,.slice (some (μ c 0)) b o,ν g]] d λp am=>p=.returned (.tuple #[ν i,ν 0])/\Below d.heap.size d am:=by
 let⟨K,B,an,s,u⟩:=rb d j m h l e f k g<|ω c b o;let⟨I,x,w,D,y,A,O,L,J⟩:=kH u;have M:∀a,a<b->K.cell? (μ c a)=some (ν<|q a):=λa ah=>by rw[(ke s).1 c a ae];exact E a ah
 have ac:=h_ M;have ak:=h_ s;let⟨r,t⟩:=j5<|(e+7)/8+2*f;have R:=h_ t;have af:r<=100000:=om;have ag:Hid<|i=2*max 1 ((r+61)/62):=by show i=_;rw[C,t]
 have ab:=h_ u;clear E u M s C t
 go_enter func48,ntmps48
 go_wp2_with fail
 rw[<-B];clear B;refine(KQ j m h l e f k b o g c q K b0 T ad al V Q Z S aa X Y ai om ac U).mono ?_;rintro p z ⟨rfl,n⟩;have N:=(n.block d.heap.size om).trans ab;have P:=h_<|jZ ak n;have ao:Hid<|d.heap.size<z.heap.size:=by have:=n.size;show _<_;omega
 clear I x w D y A O L J n;let⟨I,x,w,D,y,A,O,L,J⟩:=kH N;clear N
 go_wp2_with fail
 refine(r2 j m h l e f k b o g r (some (μ c 0)) z om om R).mono ?_;rintro p W ⟨rfl,F⟩;have aj:=h_<|jZ P F;clear F
 go_wp2_with fail
 refine(uz r i ag W af).mono ?_;rintro p ap ⟨rfl,rfl⟩;go_wp2;refine Yx (v:=.tuple #[ν i,ν 0]) (by simp[results,results48,go_sem]) rfl ⟨rfl,aj⟩
def pk(a b:Int):Int:=(if a<0 then-(a+1)else a)%b
theorem KR(b:b_)(a:Int):(convert 114 9<|.slice (some (μ b.heap.size 0)) 1 1).run prog (b.alloc<|.cells #[.int .u8 a] 5)=.ok (.string ⟨#[UInt8.ofNat a.toNat]⟩) (b.alloc<|.cells #[.int .u8 a] 5):=by
 rw[aaw _ 114 9 5 _ 1 1 underlying114 underlying5 underlying9,aa7 _ _ 1 1 [a]]
 .rfl
 .have d:=Z9 (P:=prog) (b.alloc<|.cells #[.int .u8 a] 5) (μ b.heap.size 0) [.int .u8 a] (λe f c=>by
   match e,c with
   |0,c=>simp at c;subst c;simp[Addr.add])
  simpa using d
def KS(d:b_)(c b:Int):(convert 114 9<|.slice (some (μ d.heap.size 0)) 2 2).run prog (d.alloc<|.cells #[.int .u8 c,.int .u8 b] 5)=.ok (.string ⟨#[UInt8.ofNat c.toNat,UInt8.ofNat b.toNat]⟩) (d.alloc<|.cells #[.int .u8 c,.int .u8 b] 5):=by
 rw[aaw _ 114 9 5 _ 2 2 underlying114 underlying5 underlying9,aa7 _ _ 2 2 [c,b]]
 .rfl
 .have e:=Z9 (P:=prog) (d.alloc<|.cells #[.int .u8 c,.int .u8 b] 5) (μ d.heap.size 0) [.int .u8 c,.int .u8 b] (λf g a=>by
   match f,a with
   |0,a=>simp at a;subst a;simp[Addr.add]
   |1,a=>simp at a;subst a;simp[Addr.add])
  simpa using e
def r3(a:Nat):a_:=⟨#[UInt8.ofNat<|a/256,UInt8.ofNat<|a%256]⟩
theorem B_(c:b_)(d:Nat)(b:Int)(e:c.cell? (μ d 0)=some (.int .u8 b)):(convert 114 9<|.slice (some (μ d 0)) 1 1).run prog c=.ok (.string ⟨#[UInt8.ofNat b.toNat]⟩) c:=by
 rw[aaw _ 114 9 5 _ 1 1 underlying114 underlying5 underlying9,aa7 _ _ 1 1 [b]]
 .rfl
 .have g:=Z9 (P:=prog) c (μ d 0) [.int .u8 b] (λf h a=>by
   match f,a with
   |0,a=>simp at a;subst a;simpa[Addr.add]using e)
  simpa using g
def cell_one_new(e:b_)(d:f_)(f:d_):∀b c,[d][b]?=some c->(e.alloc<|.cells #[d] f).cell? (((μ e.heap.size 0):Addr).add b)=some c:=by
 intro b c a
 match b,a with
 |0,a=>simp at a;subst a;simp[Addr.add]
def m9{c:Type}(b:List c)(a:Nat)(d:c)(e:b[a]?=some d):b.take (a+1)=b.take a++[d]:=by rw[List.take_add_one,e];rfl
def kE(w:b_)(L:Nat)(t:d_)(n m:Nat)(f:Nat->Nat->f_):Prop:=
 ∃c:Array f_,w.heap[L]?=some (.cells c t)/\c.size=n*m/\∀b a,b<n->a<m->c[b*m+a]?=some (f b a)
section
variable {w w':b_}{L:Nat}{t:d_}{n m:Nat}{f g:Nat->Nat->f_}
def kE.cell(e:kE w L t n m f){i j:Nat}(d:i<n)(b:j<m):w.cell? (μ L<|i*m+j)=some (f i j):=by let⟨c,a,k,h⟩:=e;rw[Yu w L _ c t (0,0) a];exact h i j d b
def kE.frozen(d:kE w L t n m f)(a:Nat):w.frozen? (μ L a)=false:=by let⟨c,b,_⟩:=d;exact Y2 w L a c t b
def kE.lt(a:kE w L t n m f):L<w.heap.size:=by let⟨c,b,_⟩:=a;exact Yn b
def kE.block(b:kE w L t n m f):∃a,w.heap[L]?=some (.cells a t):=by let⟨a,c,_⟩:=b;exact⟨a,c⟩
def kE.same(e:kE w L t n m f)(a:w'.heap[L]?=w.heap[L]?):kE w' L t n m f:=by let⟨d,c,b⟩:=e;exact⟨d,a.trans c,b⟩
def kE.below{B:Nat}(b:kE w L t n m f)(a:Below B w w')(c:L<B):kE w' L t n m f:=b.same (a.block L c)
def kE.congr(k:kE w L t n m f)(e:∀b a,b<n->a<m->f b a=g b a):kE w L t n m g:=by let⟨j,h,i,l⟩:=k;exact⟨j,h,i,λb a d c=>by rw[l b a d c,e b a d c]⟩
def pos_eq{m a d b c:Nat}(j:d<m)(k:c<m)(h:a*m+d=b*m+c):a=b/\d=c:=by
 have e:0<m:=om;have i:(a*m+d)/m=a:=by rw[aa_,Nat.mul_add_div e,aca j,YE]
 have l:(b*m+c)/m=b:=by rw[aa_,Nat.mul_add_div e,aca k,YE]
 have o:a=b:=by rw[<-i,<-l,h]
 subst o;exact⟨rfl,om⟩
def kE.set(M:kE w L t n m f){i j:Nat}(hi:i<n)(hj:j<m)(v:f_):kE (w.setCell (μ L<|i*m+j) v) L t n m (λa b=>if a=i/\b=j then v else f a b):=by
 let⟨c,h,d,h3⟩:=M;have mY:i*m+j<c.size:=by rw[d];exact Ku
 refine⟨c.setIfInBounds (i*m+j) v,YB w L _ c t v h,by rw[Y3];exact d,λa b ha hb=>?_⟩;exact Qe
def kE.lL(d:kE w L t n m f){K:Nat}(c:Nat)(b:L≠K)(a:f_):kE (w.setCell (μ K c) a) L t n m f:=d.same (Yp w _ _ a b)
def kE.alloc(a:kE w L t n m f)(b:Obj):kE (w.alloc b) L t n m f:=a.same (YQ w b a.lt)
def vf(w:b_)(b:Array f_)(n m:Nat)(t:d_)(d:b.size=m):kE (w.alloc<|.cells (madeCells b<|n*m) t) w.heap.size t n m (λ_ a=>b[a]!):=by
 refine⟨_,YO w _,aaG ..,λi a hi e=>?_⟩;have h:i*m+a<n*m:=by exact Ku
 have c:(i*m+a)%m=a:=by rw[aa_,Nat.mul_add_mod,aaE e]
 simp[madeCells,h,d,c]
end
def S'(b a:Nat):f_:=if a=0 then ν b else if a=1 then .string ⟨#[]⟩else .bool false
def Tryz.Tf:(prog.info? 116).map (λa=>(a.zero,a.size,a.bytes))=some (some (.agg #[ν 0,.string ⟨#[]⟩,.bool false]),3,32):=kr
def Cv(n C g:Nat)(d:Nat->Nat)(w:b_)(R:n<=100)(A:g<w.heap.size)(r:∀a,a<n->w.cell? (μ g a)=some (ν<|d a)):
 Calls prog 64 #[.slice (some (μ g 0)) n C] w λc w'=>c=.returned (.slice (some (μ w.heap.size 0)) n n)/\kE w' w.heap.size 116 n 3 (λi a=>S' (d i) a)/\Below w.heap.size w w':=by
 let⟨z,h,F,D,x⟩:=Y4 Tryz.Tf;have Q:∀e:b_,(Instr.makeSlice 105 (ν (n:Int))<|ν (n:Int)).run prog e=.ok (ω e.heap.size n n) (e.alloc<|.cells (madeCells #[ν 0,.string ⟨#[]⟩,.bool false]<|n*3) 116):=λe=>by have M:=run_make e 105 116 z (.agg #[ν 0,.string ⟨#[]⟩,.bool false]) underlying105 h F .i64 .i64 (n:Int) (n:Int) om om (p1 x) om;rw[D]at M;simpa[Value.cells]using M
 have b:=vf w #[ν 0,.string ⟨#[]⟩,.bool false] n 3 116 rfl;let⟨e,j⟩:=j5<|w.alloc<|.cells (madeCells #[ν 0,.string ⟨#[]⟩,.bool false]<|n*3) 116;have o:=ba j;rw[<-j]at b;have y:=h_ r;have s:=h_ b;have I:=h_ o;clear r b o
 go_enter func64,ntmps64
 go_wp2_with fail
 rw[<-j];clear j
 go_loopw [11] (λi wr=>∃q:Nat,q<=n/\i=ν q/\kE wr w.heap.size 116 n 3 (λi a=>S' (if i<q then d i else 0) a)/\Below w.heap.size w wr) (λi _=>n-(intOf i).toNat)
 case atStart=>refine⟨0,om,rfl,s.o.congr λi a _ B=>?_,I⟩;rcases(show a=0\/a=1\/a=2 by omega)with rfl|rfl|rfl<;>simp[S']
 case round=>
  obtain⟨q,O,rfl,b,k⟩:=hrel;by_cases l:q<n
  .have J:wr.cell? (μ g q)=some (ν<|d q):=by rw[(ke k).1 g _ A];exact y q l
   have K:wr.cell? (μ w.heap.size<|q*3)=some (S' (if q<q then d q else 0) 0):=by have:=b.cell l (j:=0) om;rwa[YE]at this
   have N:=b.frozen<|q*3;have u:=h_ b;have v:=h_ k;clear b k
   go_wp2_with fail
   go_roundw
   case rel=>
    refine⟨q+1,om,gn,?_,v.o.setCell kM _⟩;have:=u.o.set l (j:=0) om (ν<|d q);rw[YE]at this;refine this.congr λi a h B=>?_;by_cases c:i=q/\a=0
    .rw[Ys c,c.1,c.2];simp[S']
    .rw[Yo c];by_cases E:i=q
     .have:a≠0:=λM=>c ⟨E,M⟩;simp[S',this]
     .exact KB
   case measure=>exact mz
  .obtain rfl:q=n:=om;go_wp2;go_ret;exact⟨rfl,b.congr λi a h _=>by rw[Ys h],k⟩
structure Ln where
 kind:Nat
 bytes:a_
 broken:Bool
def qk(a:Ln)(b:Nat):f_:=if b=0 then ν a.kind else if b=1 then .string a.bytes else .bool a.broken
structure j4 where
 unit:Nat
 batch:Nat
 nl:Nat
 ln:Nat->Ln
 sz:Nat->Nat
 ent:Nat->Nat->Int
 kp:Nat->Nat
 sec:Nat
 lat:Nat
 stamp:Nat
 arr:Nat
 uns:Nat
 wait:List Sv
 base:Nat
def KT(a:j4)(e d:Nat)(b:Nat->Nat)(c:f_):Array f_:=
 #[ν a.unit,ν a.batch,.slice (some (μ e 0)) a.nl a.nl,
  .slice (some (μ (b 0) 0)) (a.sz 0) (a.sz 0),.slice (some (μ (b 1) 0)) (a.sz 1)<|a.sz 1,.slice (some (μ (b 2) 0)) (a.sz 2)<|a.sz 2,.slice (some (μ (b 3) 0)) (a.sz 3)<|a.sz 3,
  ν (a.kp 0),ν<|a.kp 1,ν<|a.kp 2,ν<|a.kp 3,
  π d,ν a.arr,ν a.uns,c]
structure Ow(O:Nat->Bool)(w:b_)(wv:f_):Prop where
 own:∀g,wv.ownBlock=some g->O g=true
 new:∀g,w.heap.size<=g->O g=true
def Ow.grow{O:Nat->Bool}{w w':b_}{a:f_}(b:Ow O w a)(d:w.heap.size<=w'.heap.size):Ow O w' a:=⟨b.own,λg c=>b.new g<|YH d c⟩
structure j1(O:Nat->Bool)(w:b_)(d L S:Nat)(E:Nat->Nat)(wv:f_)(D:j4):Prop where
 dev:w.heap[d]?=some (.cells (KT D L S E wv) 110)
 lines:kE w L 116 D.nl 3 λi j=>qk (D.ln i) j
 ent:∀i,i<4->kE w (E i) 3 (D.sz i) 1 (λk _=>ν<|D.ent i k)
 inj:∀i j,i<4->j<4->i≠j->E i≠E j
 store:w.heap[S]?=some (.cells #[ν D.sec,ν D.lat,.int .u8 (D.stamp:Nat)] 155)
 wait:w.ownsRow D.base 163 3 wv D.wait.length<|D.wait.flatMap lU
 lo:D.base<=d/\D.base<=L/\D.base<=S/\∀i,i<4->D.base<=E i
 ow:Ow O w wv
def j1.re{O h:Nat->Bool}{w:b_}{c i d:Nat}{e:Nat->Nat}{b:f_}{f:j4}(a:j1 O w c i d e b f)(j:Ow h w b):j1 h w c i d e b f:=⟨a.dev,a.lines,a.ent,a.inj,a.store,a.wait,a.lo,j⟩
def Sf(w:b_)(a:Nat)(b:j4):Prop:=∃f c d e,j1 (λ_=>true) w a f c d e b
structure kf(g:Nat)(w w':b_):Prop where
 os:w'.os=w.os
 tape:w'.tape=w.tape
 output:w'.output=w.output
 size:w.heap.size<=w'.heap.size
 block:∀k,k<w.heap.size->k≠g->w'.heap[k]?=w.heap[k]?
section
variable {g:Nat}{w w' w2:b_}
def kf.refl(g:Nat)(w:b_):kf g w w:=⟨rfl,rfl,rfl,YC _,λ_ _ _=>rfl⟩
def kf.jX(g:Nat)(a:Below w.heap.size w w'):kf g w w':=⟨a.os,a.tape,a.output,a.size,λb c _=>a.block b c⟩
def kf.trans(a:kf g w w')(b:kf g w' w2):kf g w w2:=
 ⟨b.os.trans a.os,b.tape.trans a.tape,b.output.trans a.output,YH a.size b.size,λd e c=>(b.block d (Yy e a.size) c).trans<|a.block d e c⟩
def kf.kt(a:kf g w w')(b:Below w'.heap.size w' w2):kf g w w2:=a.trans (kf.jX g b)
def kf.setCell(d:kf g w w')(b:Nat)(a:f_):kf g w (w'.setCell (μ g b) a):=
 d.trans ⟨rfl,rfl,rfl,si,λe _ c=>Yp w' _ _ a (by simpa using c)⟩
def kf.alloc(a:kf g w w')(b:Obj):kf g w (w'.alloc b):=a.kt (jT br _)
def kf.drewN(b:kf g w w')(a:Nat):kf g w (w'.drewN a):=b.kt (YL br _)
end
def lS(O:Nat->Bool)(c e d:Nat)(b:Nat->Nat)(g:Nat)(a:d_):Bool:=(a==110&&g==c)||(a==116&&g==e)||(a==155&&g==d)||(a==3&&(g==b 0||g==b 1||g==b 2||g==b 3))||(a==163&&O g)
section
variable {O:Nat->Bool}
def EJ(a d b:Nat)(c:Nat->Nat):lS O a d b c a 110=true:=by simp[lS]
def KU(b a c:Nat)(d:Nat->Nat):lS O b a c d a 116=true:=by simp[lS]
def Tg(b d a:Nat)(c:Nat->Nat):lS O b d a c a 155=true:=by simp[lS]
def EK(c e d:Nat)(b:Nat->Nat)(a:Nat)(f:a<4):lS O c e d b (b a) 3=true:=by rcases(show a=0\/a=1\/a=2\/a=3 by omega)with rfl|rfl|rfl|rfl<;>simp[lS]
end
section
variable {O:Nat->Bool}
def na{h:e_}{ops:Array Oper}{o:Oper}{a:Act}{w:b_}{z:Act->b_->Prop}{S:Exit->Act->b_->Prop}{aa:Prop}
 (hg:o.guard=none) (C A:Operand) (s:d_) (Y:o.op=Op.call {callee:=Callee.builtin Builtin.append,args:=#[C,A],argTypes:=#[s,s]})
 (base:Nat) (g:d_) (m:TypeInfo) (y:f_) (e bytes:Nat) (V:h.underlying s=some (.slice g)) (N:h.info? g=some m) (R:m.zero=some y) (Q:m.size=e) (F:m.bytes=bytes) (I:y.cells.size=e) (J:0<e)
 (n:f_) (j:Nat) (u:List f_) (af:a.eval C=n) (ae:w.ownsRow base g e n j u)
 (x:Addr) (f c:Nat) (i:List f_) (Z:a.eval A=.slice (some x) f c) (W:i.length=f*e) (X:∀D t,i[D]?=some t->w.cell? (x.add D)=some t) (ag:∀t∈i,t.oneCell'=true)
 (P:j+f<=maxLen) (K:(j+f)*bytes<=140737488355328) (ab:base<=w.heap.size)
 (L:∀r w',w'.ownsRow base g e r (j+f) (u++i)->w.grownBy w' n.ownBlock->(∀v,r.ownBlock=some v->n.ownBlock=some v\/w.heap.size<=v)->z (a.put o.dst r) w'):
 if Region.wanted o (yielded ops a.tmps)=true then Oper.wp h o a w z S else aa:=by
 refine Gv ?_;intro bh;let⟨r,w',U,ac,ad,_,E⟩:=rK w base s o.type g m y e bytes V N R Q F I J n j u ae x f c i W X ag P K ab;unfold Oper.wp execOp;simp only[Y,resolve,invoke,builtin,Zp,ZE,Za,aaF,ZW,aas,af,Z,U];exact L _ _ ac ad E
structure lC(B:Nat)(T:Nat->d_->Bool)(w w':b_):Prop where
 os:w'.os=w.os
 tape:w'.tape=w.tape
 output:w'.output=w.output
 size:w.heap.size<=w'.heap.size
 keep:∀(g:Nat) (A0:Array f_) (t:d_),w.heap[g]?=some (.cells A0 t)->T g t=false->w'.heap[g]?=w.heap[g]?
 low:∀g,g<B->g<w.heap.size->w'.heap[g]?=w.heap[g]?
section
variable {B:Nat}{T:Nat->d_->Bool}{a b c w w':b_}
def lC.refl(T:Nat->d_->Bool)(w:b_):lC B T w w:=⟨rfl,rfl,rfl,YC _,λ_ _ _ _ _=>rfl,λ_ _ _=>rfl⟩
def lC.trans(e:lC B T a b)(g:lC B T b c):lC B T a c:=
 ⟨g.os.trans e.os,g.tape.trans e.tape,g.output.trans e.output,YH e.size g.size,λh A0 i f j=>(g.keep h A0 i ((e.keep h A0 i f j).trans f) j).trans<|e.keep h A0 i f j,λh f k=>(g.low h f<|Yy k e.size).trans<|e.low h f k⟩
def lC.jX(T:Nat->d_->Bool)(e:Below w.heap.size w w'):lC B T w w':=⟨e.os,e.tape,e.output,e.size,λf _ _ g _=>e.block f<|Yn g,λf _ h=>e.block f h⟩
def lC.kt(e:lC B T a w)(f:Below w.heap.size w w'):lC B T a w':=e.trans (lC.jX T f)
def lC.alloc(e:lC B T a w)(f:Obj):lC B T a (w.alloc f):=e.kt (jT br _)
def lC.drewN(f:lC B T a w)(e:Nat):lC B T a (w.drewN e):=f.kt (YL br _)
def kg{i h:Nat}{A0 j:Array f_}{f g:d_}(M:w.heap[i]?=some (.cells A0 f))(h':w.heap[h]?=some (.cells j g))(bQ:f≠g):i≠h:=λe=>by exact RI
def oM{h:Nat}{A0 i:Array f_}{g f:d_}(j:w.heap[h]?=some (.cells A0 g))(e:w.heap[h]?=some (.cells i f)):g=f:=by rw[j]at e;simp only[Yz,abf,ZV]at e;exact e.2
def lC.setCell{e:Nat}{A0:Array f_}{i:d_}(n:lC B T a w)(o:w.heap[e]?=some (.cells A0 i))(p:T e i=true)(s:B<=e)(m:Nat)(h:f_):lC B T a (w.setCell (μ e m) h):=
 n.trans ⟨rfl,rfl,rfl,si,λg q r k j=>Yp w _ _ h (λf=>by
  have f:=f;subst f;rw[oM k o,p]at j
  exact absurd j dc),λg k _=>Yp w _ _ h (by show g≠e;omega)⟩
def lC.grown{i:Option Nat}{k:d_}(p:lC B T a w)(f:w.grownBy w' i)(j:∀e,i=some e->B<=e/\∃A0,w.heap[e]?=some (.cells A0 k))(r:∀e,i=some e->T e k=true):lC B T a w':=
 p.trans ⟨f.os,f.tape,f.output,f.size,λg A0 u n m=>f.block g (Yn n) (λh=>by
  let⟨_,s,o⟩:=j g h.symm;rw[oM n o,r g h.symm]at m
  exact absurd m dc),λg t q=>f.block g q (λh=>by have:=(j g h.symm).1;omega)⟩
def lC.mono{h:Nat->d_->Bool}(e:lC B T w w')(k:∀g f,h g f=false->T g f=false):lC B h w w':=⟨e.os,e.tape,e.output,e.size,λg A0 f i j=>e.keep g A0 f i<|k g f j,e.low⟩
end
def uZ(O:Nat->Bool)(d f:Nat)(e:d_):Bool:=(e==110&&f==d)||(e==163&&O f)
def KW(d:Nat):uZ O d d 110=true:=by simp[uZ]
structure ky(O:Nat->Bool)(B:Nat)(w:b_)(d:Nat)(A0:Array f_)(wv:f_)(l:List Sv):Prop where
 dev:w.heap[d]?=some (.cells A0 110)
 size:A0.size=15
 KX:A0[14]?=some wv
 own:w.ownsRow B 163 3 wv l.length<|l.flatMap lU
 lo:B<=d
 ow:Ow O w wv
section
variable {B:Nat}{w w':b_}{d:Nat}{A0:Array f_}{wv:f_}{l:List Sv}
def ky.cell(e:ky O B w d A0 wv l):w.cell? (μ d 14)=some wv:=by rw[Yu _ _ _ _ _ _ e.dev];exact e.KX
def ky.fz(e:ky O B w d A0 wv l):w.frozen? (μ d 14)=false:=Y2 _ _ _ _ _ e.dev
def ky.below(e:ky O B w d A0 wv l)(f:Below w.heap.size w w'):ky O B w' d A0 wv l:=
 ⟨(f.block d<|Yn e.dev).trans e.dev,e.size,e.KX,jY e.own f,e.lo,e.ow.grow f.size⟩
def ky.set(g:w.heap[d]?=some (.cells A0 110))(f:A0.size=15)(k:B<=d){v:f_}{l':List Sv}(e:w.ownsRow B 163 3 v l'.length<|l'.flatMap lU)(i:Ow O w v):ky O B (w.setCell (μ d 14) v) d (A0.setIfInBounds 14 v) v l':=by refine⟨YB w d 14 A0 110 v g,by rw[Y3];exact f,by rw[Y6,Ys rfl,Ys<|p1 f],jV e λm h=>?_,k,i.grow si⟩;let⟨c,j⟩:=jU e m h;exact Yp w _ _ v (kg j g dc)
end
def Tryz.Ob:(prog.info? 163).map (λe=>(e.zero,e.size,e.bytes))=some (some (.agg #[ν 0,ν 0,.string ⟨#[]⟩]),3,32):=kr
def HT(l:List Sv)(e:Sv):(l++[e]).flatMap lU=l.flatMap lU++[ν e.1,ν e.2.1,.string e.2.2]:=by rw[YX];simp[lU]
def HU{B d:Nat}{w g h:b_}{A0:Array f_}{wv:f_}{l:List Sv}(e:ky O B w d A0 wv l)(i:g.grownBy h wv.ownBlock)(f:g.heap[d]?=w.heap[d]?):h.heap[d]?=some (.cells A0 110):=by rw[i.block d (Yn<|f.trans e.dev) (λj=>by let⟨c,k⟩:=jU e.own d j.symm;exact kg k e.dev dc rfl),f];exact e.dev
def z2(e:Sv)(f:b_):(Instr.typeAssert (.iface 163<|.agg #[ν e.1,ν e.2.1,.string e.2.2]) 20 163 false).run prog f=.ok (.agg #[ν e.1,ν e.2.1,.string e.2.2]) f:=kr
def HV{B:Nat}(d:Nat)(A0:Array f_)(wv:f_)(l:List Sv)(f:Sv)(w:b_)(N:l.length<=1000)(h:ky O B w d A0 wv l):
 Calls prog 197 #[.pointer<|some (μ d 14),.iface 163<|.agg #[ν f.1,ν f.2.1,.string f.2.2]] w λx w'=>∃m,x=.returned (.tuple #[])/\ky O B w' d (A0.setIfInBounds 14 m) m (l++[f])/\lC B (uZ O d) w w':=by
 obtain⟨A,z,J,E,L⟩:=Y4 Tryz.Ob;have Q:=h.cell;have f14:=h.fz;have M:=z2 f;have C:=Yn h.dev;have e:=h_ h;clear h
 go_enter func197,ntmps197
 go_wp2_with fail
 go_region_law (first
  |(refine na rfl (.tmp 7) (.tmp 10) 108 rfl B 163 A _ 3 32 underlying108 z J E L rfl dc wv l.length _ rfl ((jV (w':=w.drew) e.o.own λg _=>rfl).alloc _) (μ w.heap.size 0) 1 1 [ν f.1,ν f.2.1,.string f.2.2] rfl rfl (mm _ _ _ _ _) (by intro P s;simp at s;rcases s with rfl|rfl|rfl<;>rfl) ml om (by have:=e.o.lo;simp;omega) ?_;intro m v o n u;obtain⟨D,y,rfl,_⟩:=i_ o;have i:=HU e.o n<|YQ w _ C;have R:v.cell? (μ d 14)=some wv:=(by rw[Yu _ _ _ _ _ _ i];exact e.o.KX);have f3:v.frozen? (μ d 14)=false:=Y2 _ _ _ _ _ i))
 all_goals
  have F:=h_ o;have r:=h_ n;have K:=h_ u;have p:=h_ i;clear o n u i;go_wp2
  go_end0
  refine⟨.slice D (l.length+1) y,rfl,?_,?_⟩
  .exact ky.set p e.o.size e.o.lo (by rw[HT,Yv];exact F) ⟨λg q=>(K g q).elim (e.o.ow.own g) (λI=>e.o.ow.new g (by simp at I;omega)),λg q=>e.o.ow.new g (by have:=r.o.size;simp at this;omega)⟩
  .exact((((lC.refl (uZ O d) w).alloc _).drewN 1).grown r (λk j=>⟨(e.o.own.lt k j).1,by let⟨c,t⟩:=jU e.o.own k j;exact⟨c,(YQ _ _ (Yn t)).trans t⟩⟩) λk j=>by simp[uZ,e.o.ow.own k j]).setCell p (KW _) e.o.lo ..
end
def Of(a h l n:Nat)(d:Nat->a_)(e:b_)(r:h<=a)(v:a<=64)(i:∀c,c<a->e.cell? (μ l c)=some (.string<|d c))(k:∀c,c<a->(d c).size=64):
 Calls prog 61 #[.slice (some (μ l 0)) a n,ν h] e λg q=>g=.returned (.bool true)/\q=e:=by
 have p:=h_ i;have m:=h_ k;clear i k
 go_enter func61,ntmps61
 go_wp2_with fail
 refine(oj _ _ 64 true ?_ _).mono ?_
 .simp;omega
 rintro g o ⟨rfl,rfl⟩
 go_wp2_with fail
 go_loopw [14] (λf wr=>∃b:Nat,b<=a/\f=ν b/\o=wr) (λf _=>a-(intOf f).toNat)
 case atStart=>exact⟨0,om,rfl,rfl⟩
 case round=>
  obtain⟨b,t,rfl,rfl⟩:=hrel;by_cases j:b<a
  .have s:=p.o b j;have u:((d b).size:Int)=64:=li<|m.o b j
   go_wp2_with fail
   go_roundw
   case rel=>exact⟨b+1,om,gn,trivial⟩
   case measure=>simp[intOf];omega
  .go_wp2;go_ret;exact⟨rfl,rfl⟩

structure Fd where
 line:Nat
 unit:Nat
 body:a_
def Fd.v(a:Fd):f_:=.agg #[ν a.line,ν 0,ν a.unit,.string a.body]
def Fd.c(a:Fd):List f_:=[ν a.line,ν 0,ν a.unit,.string a.body]
