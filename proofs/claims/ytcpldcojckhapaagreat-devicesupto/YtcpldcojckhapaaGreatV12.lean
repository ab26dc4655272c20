import Derived.Test.YtcpldcojckhapaaGreatV10
import Derived.Test.YtcpldcojckhapaaGreatV11
set_option maxRecDepth 100000
set_option maxHeartbeats 16000000
set_option linter.all false
noncomputable section
namespace Go.Proofs.YtcpldcojckhapaaGreat
open Go.Proofs.Tryz Go.RowKit
def kT{m:e_}{w:b_}{E:Array Oper}{rest:List Oper}{q:Oper}{k:Act}{A:Exit->Act->b_->Prop}(C:q.guard=none)(o n:Operand)(j:d_)
 (u:q.op=.call {callee:=.builtin .append,args:=#[o,n],argTypes:=#[j,j]})
 (base:Nat) (d:d_) (g:TypeInfo) (s:f_) (a bytes:Nat) (z:m.underlying j=some (.slice d)) (x:m.info? d=some g) (T:g.zero=some s)
 (J:g.size=a) (Q:g.bytes=bytes) (aa:s.cells.size=a) (K:0<a)
 (b:f_) (f:Nat) (l:List f_) (I:k.eval o=b) (t:w.ownsRow base d a b f l)
 (v:f_) (e:Nat) (i:List f_) (F:k.eval n=v) (X:Src w v e i) (V:i.length=e*a) (S:∀W∈i,W.oneCell'=true)
 (Y:f+e<=maxLen) (P:(f+e)*bytes<=140737488355328) (Z:base<=w.heap.size)
 (y:∀h w',w'.ownsRow base d a h (f+e) (l++i)->w.grownBy w' b.ownBlock->(∀r,h.ownBlock=some r->b.ownBlock=some r\/w.heap.size<=r)->wpList m E A rest (k.put q.dst h) w'):wpList m E A (q::rest) k w:=by
 rcases X with⟨rfl,rfl,rfl⟩|⟨N,c,rfl,U⟩
 .refine aaH C o n j u base d g a z x b f l I t F<|y b w ?_ ⟨rfl,rfl,rfl,YC _,λ_ _ _=>rfl⟩ λ_ M=>.inl M;rw[Zy,YE];exact t
 .exact j7 C o n j u base d g s a bytes z x T J Q aa K b f l I t N e c i F V U S Y P Z (λh w' O R _ L=>y h w' O R L)
def ym(a:List Sv):(a.flatMap ng).length=a.length*3:=by
 induction a with
 |nil=>rfl
 |cons d a b=>rw[ZY,Yv,b,YA];show 3+_=_;omega
def Dg(d:List Sv):∀b∈d.flatMap ng,b.oneCell'=true:=by intro b e;let⟨f,_,a⟩:=abb.1 e;simp only[ng,Y7,Zc,aac]at a;rcases a with rfl|rfl|rfl<;>rfl
section
variable {w w':b_}{B:Nat}{c:Nat->Nat}{p:pL}{D:j4}{left:lw}{A0:Nat}{ys:Nat->a_}{zs:Nat->Bool}
def j3.WO{a:Nat->a_}(M:j3 w B c p D left A0 ys zs)(b:kf p.yb w w')(f:kE w' p.yb 9 D.nl 1 λk _=>.string<|a k):j3 w' B c p D left A0 a zs:=by
 let⟨e,fW⟩:=M.Aq;let⟨j,d⟩:=M.qI.block;have hne:∀{g:Nat}{cur:Array f_}{t:d_},w.heap[g]?=some (.cells cur t)->t≠9->w'.heap[g]?=w.heap[g]?:=λhg h=>b.block _ (Yn hg) (km hg d h);refine⟨(hne M.dev dc).trans M.dev,λi hi=>?_,M.inj,⟨e,(hne fW dc).trans fW⟩,λi hi=>?_,f,?_,jV M.wt λg hg=>?_,jV M.lf λg hg=>?_,λq l eT=>?_,M.cr,M.cG,M.cy,M.cz,M.cw,M.cl,M.cb,M.lo.1,M.lo.2.1,M.lo.2.2.1,M.lo.2.2.2.1,YH M.lo.2.2.2.2 b.size⟩
 .let⟨cg,hcg⟩:=(M.kA i hi).block;exact(M.kA i hi).same (hne hcg dc)
 .exact RF
 .let⟨cg,hcg⟩:=M.tf.block;exact M.tf.same<|hne hcg dc
 .exact KC
 .exact KD
 .exact Rd
def j3.WP{b:Nat->Bool}(M:j3 w B c p D left A0 ys zs)(a:kf p.zb w w')(f:kE w' p.zb 4 D.nl 1 λk _=>.bool<|b k):j3 w' B c p D left A0 ys b:=by
 let⟨e,fW⟩:=M.Aq;let⟨j,d⟩:=M.tf.block;have hne:∀{g:Nat}{cur:Array f_}{t:d_},w.heap[g]?=some (.cells cur t)->t≠4->w'.heap[g]?=w.heap[g]?:=λhg h=>a.block _ (Yn hg) (km hg d h);refine⟨(hne M.dev dc).trans M.dev,λi hi=>?_,M.inj,⟨e,(hne fW dc).trans fW⟩,λi hi=>?_,?_,f,jV M.wt λg hg=>?_,jV M.lf λg hg=>?_,λq l eT=>?_,M.cr,M.cG,M.cy,M.cz,M.cw,M.cl,M.cb,M.lo.1,M.lo.2.1,M.lo.2.2.1,M.lo.2.2.2.1,YH M.lo.2.2.2.2 a.size⟩
 .let⟨cg,hcg⟩:=(M.kA i hi).block;exact(M.kA i hi).same (hne hcg dc)
 .exact RF
 .let⟨cg,hcg⟩:=M.qI.block;exact M.qI.same<|hne hcg dc
 .exact KC
 .exact KD
 .exact Rd
def j3.OM{a:Nat}(f:j3 w B c p D left A0 ys zs)(i:a<D.nl)(b:a_):j3 (w.setCell (μ p.yb a)<|.string b) B c p D left A0 (λe=>if e=a then b else ys e) zs:=by have d:=f.qI.set (i:=a) (j:=0) i om (.string b);rw[YS,YE]at d;refine f.WO ((kf.refl ..).setCell ..)<|d.congr λh k _ l=>?_;obtain rfl:k=0:=om;by_cases g:h=a<;>simp[g]
def j3.WQ{a:Nat}(f:j3 w B c p D left A0 ys zs)(i:a<D.nl)(b:Bool):j3 (w.setCell (μ p.zb a)<|.bool b) B c p D left A0 ys (λe=>if e=a then b else zs e):=by have d:=f.tf.set (i:=a) (j:=0) i om (.bool b);rw[YS,YE]at d;refine f.WP ((kf.refl ..).setCell ..)<|d.congr λh k _ l=>?_;obtain rfl:k=0:=om;by_cases g:h=a<;>simp[g]
end
def LU(a:a_):∀(d b:Nat),b<=a.size->(Pl.w4 a d b).2<=a.size:=by
 intro d
 induction d with
 |zero=>intro b f;exact f
 |succ d g=>
  intro b f;rw[Pl.w4];by_cases e:Pl.ko a b=0
  .rw[Ys e];exact f
  .rw[Yo e];apply g _;have:=(Pl.Cn (a.extract b a.size) e).2.2.1;rw[YM]at this;have h:Pl.ko a b=Pl.whole (a.extract b a.size):=rfl;omega
def sZ{w:b_}{B g d:Nat}{f:d_}{e:f_}{b:List f_}(a:w.ownsRow B f g e d b):Src w e d b:=by
 rcases a.2 with⟨rfl,rfl⟩|⟨q,h,j,rfl,l,k,i,m,o,n⟩
 .exact .inl ⟨rfl,rfl,YV<|li a.1⟩
 .exact .inr ⟨_,_,rfl,a.cells rfl⟩
def wu(D:j4)(b:Nat)(e:a_)(f:(D.ln b).kind<=1)(a:Nat):((qH D b e).ln a).kind=(D.ln a).kind:=by
 by_cases d:a=b
 .subst d;show(if a=a then _ else _:Ln).kind=_;rw[Ys rfl];split
  .rfl
  .split
   .rfl
   .unfold rm;split<;>(show 0=_;omega)
 .show(if a=b then _ else _:Ln).kind=_;rw[Yo d]
def kR (R:j4)(i:Nat)(left:List<|List Int)(A0:Nat)(fs:List<|Nat×Nat×a_):j4×List (Int×Int×a_)×List (List Int)×Nat:=
 fs.foldl (λst f=>(m3 st.1 i f.1 f.2.1 f.2.2,st.2.1++mZ st.1 i f.1 f.2.1 f.2.2,py st.1 i f.2.1 f.2.2 st.2.2.1,pN st.1 i f.1 f.2.1 f.2.2 st.2.2.2)) (R,[],left,A0)
def yn(d:j4)(b:Nat)(left:lw)(A0:Nat)(e:List<|Nat×Nat×a_)(a:Nat×Nat×a_):kR d b left A0 (e++[a])=(m3 (kR d b left A0 e).1 b a.1 a.2.1 a.2.2,(kR d b left A0 e).2.1++mZ (kR d b left A0 e).1 b a.1 a.2.1 a.2.2,py (kR d b left A0 e).1 b a.2.1 a.2.2 (kR d b left A0 e).2.2.1,pN (kR d b left A0 e).1 b a.1 a.2.1 a.2.2 (kR d b left A0 e).2.2.2):=by unfold kR;rw[aay];rfl
def vu(a:j4)(e d f:Nat)(b:a_):oa a (mG a e d f b)/\(mG a e d f b).arr=a.arr+1/\(mG a e d f b).uns=(ks a b).uns/\(mG a e d f b).ent=(ks a b).ent/\(mG a e d f b).wait.length<=a.wait.length+1:=by
 unfold mG;split
 .exact⟨⟨rfl,rfl,rfl,rfl,rfl,rfl,rfl,rfl⟩,rfl,rfl,rfl,by show a.wait.length<=_;omega⟩
 .exact⟨⟨rfl,rfl,rfl,rfl,rfl,rfl,rfl,rfl⟩,rfl,rfl,rfl,by show(a.wait++[mf a e d b]).length<=_;simp⟩
def s4(b:j4)(d g f:Nat)(e:a_):oa b (m3 b d g f e)/\(m3 b d g f e).arr=if yl b d f e=true then b.arr+1 else b.arr:=by
 let⟨a,h,_⟩:=vu b d g f e;unfold m3;split
 .split
  .exact⟨⟨a.unit,a.batch,a.nl,a.ln,a.sz,a.kp,a.sec,a.base⟩,h⟩
  .exact⟨a,h⟩
 .exact⟨oa.refl b,rfl⟩
def GU{e:j4}(d:xn e)(b g h:Nat)(f:a_):xn (m3 e b g h f):=by
 let⟨a,m,o,l,n⟩:=vu e b g h f;have k:n4 (mG e b g h f).ent:=by rw[l];exact Bo d.ent<|nz f
 unfold m3;split
 .split
  .exact⟨λb i=>by show(mG e _ g h f).sz b<=60;rw[a.sz];exact d.sz b i,k,by show(mG e b g h f).kp 0<=(mG e b g h f).sz 0;rw[a.kp,a.sz];exact d.xe,by show(mG e b g h f).kp 2<=(mG e b g h f).sz 2;rw[a.kp,a.sz];exact d.xg,by show 1<=(mG e b g h f).unit/\_;rw[a.unit];exact d.unit,by show 1<=(mG e b g h f).batch/\_;rw[a.batch];exact d.batch,by show 1<=(mG e b g h f).nl/\_;rw[a.nl];exact d.nl,by show 0<(mG e b g h f).batch;rw[a.batch];exact d.batch.1,by show 0<(mG e b g h f).batch;rw[a.batch];exact d.batch.1⟩
  .rename_i j;unfold nB at j;simp only[aag,Zq]at j;refine⟨λb i=>by rw[a.sz];exact d.sz b i,k,by rw[a.kp,a.sz];exact d.xe,by rw[a.kp,a.sz];exact d.xg,by rw[a.unit];exact d.unit,by rw[a.batch];exact d.batch,by rw[a.nl];exact d.nl,om,om⟩
 .exact d
def uH{a:j4}(b:xn a)(e d g:Nat)(f:a_):(mZ a e d g f).length<=9:=by
 let⟨_,_,_,_,h⟩:=vu a e d g f;have:=b.wl;have:=b.batch;unfold mZ;split
 .omega
 .simp
def Dh{a:j4}(e f b:Nat)(d:a_)(left:lw)(g:left.length=a.arr+1):(py a e b d left).length=(m3 a e f b d).arr+1:=by
 rw[(s4 a e f b d).2];unfold py;split
 .rw[Yv,g];rfl
 .exact g
def LV{a:j4}(h:xn a)(d:Nat)(left:lw)(A0:Nat)(i:left.length=a.arr+1):∀(e b:List<|Nat×Nat×a_),b=e.reverse->xn (kR a d left A0 b).1/\oa a (kR a d left A0 b).1/\(kR a d left A0 b).2.2.1.length=(kR a d left A0 b).1.arr+1/\(kR a d left A0 b).2.1.length<=9*b.length/\(kR a d left A0 b).1.arr<=a.arr+b.length:=by
 intro e
 induction e with
 |nil=>rintro b rfl;exact⟨h,oa.refl a,i,by simp[kR],by simp[kR]⟩
 |cons f e j=>
  rintro b rfl;rw[ab6,yn];let⟨g,k,l,n,m⟩:=j e.reverse rfl;have hs:=s4 (kR a d left A0 e.reverse).1 d f.1 f.2.1 f.2.2;refine⟨GU g ..,k.trans hs.1,Dh _ _ _ _ _ l,?_,?_⟩
  .have:=uH g d f.1 f.2.1 f.2.2;show((kR a d left A0 e.reverse).2.1++mZ ..).length<=_;rw[Yv,Yv,Zn];omega
  .exact RH
def Ax (R:j4)(ys:Nat->a_)(zs:Nat->Bool)(i:Nat)(s:a_):Nat->a_:=λk=>if k=i then(if zs i=true then ys i else if (R.ln i).kind=1 then ys i++s else(ys i++s).extract (Pl.pO<|ys i++s).2 (ys i++s).size)else ys k
def Di (R:j4)(ys:Nat->a_)(zs:Nat->Bool)(i:Nat)(s:a_):Nat->Bool:=λk=>if k=i then(if zs i=true then true else if (R.ln i).kind=1 then false else Pl.tl ((ys i++s).extract (Pl.pO<|ys i++s).2 (ys i++s).size))else zs k
def lx (R:j4)(ys:Nat->a_)(zs:Nat->Bool)(i:Nat)(s:a_):List (Nat×Nat×a_):=if (R.ln i).kind=1\/zs i=true then []else lI (ys i++s)
def Bv{d:j4}{ys:Nat->a_}{zs:Nat->Bool}{a:Nat}(e:a_)(f:zs a=false)(g:(d.ln a).kind=1):Ax d ys zs a e=λb=>if b=a then ys a++e else ys b:=by unfold Ax;simp[f,g]
def GV{d:j4}{ys:Nat->a_}{zs:Nat->Bool}{a:Nat}(g:a_)(e:zs a=false)(f:(d.ln a).kind=1):Di d ys zs a g=zs:=by
 unfold Di;funext k;by_cases b:k=a
 .simp[b,e,f]
 .simp[b]
def Bw{e:j4}{ys:Nat->a_}{zs:Nat->Bool}{a:Nat}(b:a_)(f:zs a=false)(g:(e.ln a).kind≠1):Ax e ys zs a b=λd=>if d=a then(ys a++b).extract (Pl.pO<|ys a++b).2 (ys a++b).size else ys d:=by unfold Ax;simp[f,g]
def GW{e:j4}{ys:Nat->a_}{zs:Nat->Bool}{a:Nat}(b:a_)(f:zs a=false)(g:(e.ln a).kind≠1):Di e ys zs a b=λd=>if d=a then Pl.tl ((ys a++b).extract (Pl.pO<|ys a++b).2 (ys a++b).size)else zs d:=by unfold Di;simp[f,g]
def j3.XV{w:b_}{B A0:Nat}{c:Nat->Nat}{p:pL}{D:j4}{left:lw}{ys b:Nat->a_}{zs a:Nat->Bool}(d:j3 w B c p D left A0 ys zs)(e:b=ys)(f:a=zs):j3 w B c p D left A0 b a:=by rw[e,f];exact d
def Ir(w:b_)(B:Nat)(c:Nat->Nat)(p:pL)(D:j4)(left:lw)(A0:Nat)(ys:Nat->a_)(zs:Nat->Bool)(a:Nat)(h:a_)(M:j3 w B c p D left A0 ys zs)(aQ:xn D)(i:a<D.nl)(b6:(D.ln a).kind<=1)(bz:(ys a).size+h.size<=4194304)(a2:left.length=D.arr+1)(cK:D.arr<=300000):
 Calls prog 32 #[π p.r,ν a,.string h] w λg w'=>∃J s v,g=.returned (.tuple #[J,ν 0])/\w'.ownsRow w.heap.size 113 3 J (kR D a left A0 (lx D ys zs a h)).2.1.length ((kR D a left A0 (lx D ys zs a h)).2.1.flatMap ng)/\
  j3 w' B v s (kR D a left A0 (lx D ys zs a h)).1 (kR D a left A0 (lx D ys zs a h)).2.2.1 (kR D a left A0 (lx D ys zs a h)).2.2.2 (Ax D ys zs a h) (Di D ys zs a h)/\mD w c v/\Fc c 3 w w'/\s.r=p.r/\s.lb=p.lb/\s.cap=p.cap/\∀b,J.ownBlock=some b->v b=9:=by
 let⟨bR,bY,ca,bX,cp⟩:=Y4 Tryz.yk;obtain⟨_,_,_,bt,_,bc,bw,_,_,_,_,_,cy⟩:=M.cells;have aJ:w.cell? (μ p.yb a)=some (.string<|ys a):=by have:=M.qI.cell (j:=0) i om;rw[YS,YE]at this;exact this
 have ai:w.cell? (μ p.zb a)=some (.bool<|zs a):=by have:=M.tf.cell (j:=0) i om;rw[YS,YE]at this;exact this
 have a5:=λf=>M.qI.frozen f;have cX:=M.qI.lt;have aC:=M.Cd a i;have cM:=aQ.nl;have cH:(a:Int)<(D.nl:Int):=om;have u:=h_ M;have cl:=h_ aQ;have cb:¬9223372036854775807<(ys a).size+h.size:=om;have cW:p.yb≠p.r:=λg=>by let⟨cU,cq⟩:=M.qI.block;exact km cq M.dev dc g
 let⟨bo,av⟩:=j5<|(D.ln a).kind;rw[<-av]at aC b6;have z:=h_ av;have b7:=h_ a2;let⟨ay,ar⟩:=j5<|ys a;have ah:=h_ ar;rw[<-ar]at aJ cb bz;cases A:zs a
 case true=>
  rw[A]at ai;clear ar
  go_enter func32,ntmps32
  go_wp2
  go_ret2
  have aU:lx D ys zs a h=[]:=by unfold lx;rw[Ys<|.inr A]
  rw[aU];refine⟨σ,p,c,rfl,Yq ..,?_,mD.refl _ _,Fc.refl ..,rfl,rfl,rfl,λb d=>by simp[Value.ownBlock]at d⟩;refine u.o.XV (funext λk=>?_)<|funext λk=>?_
  .unfold Ax;rw[Ys A];by_cases g:k=a
   .rw[Ys g,g]
   .rw[Yo g]
  .unfold Di;rw[Ys A];by_cases g:k=a
   .rw[Ys g,g,A]
   .rw[Yo g]
 case false=>
 rw[A]at ai;have R:=h_ A;clear M aQ av a2 ar A;rcases(show bo=1\/bo=0 by omega)with rfl|rfl
 .go_enter func32,ntmps32
  go_wp2_with fail
  go_region
  obtain⟨j,m⟩:=j5<|(w.setCell (μ p.yb a)<|.string<|ay++h).drew;have l:j3 j B c p D left A0 (λk=>if k=a then ay++h else ys k) zs:=by rw[m];exact(u.o.OM i _).below br.drew
  have W:Fc c 3 w j:=by rw[m];exact((Fc.refl c 3 w).setCell p.yb a (.inr u.o.cy) _).kt br.drew
  rw[<-m];obtain⟨_,_,_,d7,_,_,_,_,_,_,_,_,b5⟩:=l.cells;have ap:=l.Cd a i;rw[<-z.o]at ap;have al:=h_ l;have aO:=h_ W;clear l W m bt bc bw aJ ai a5 aC;go_wp2
  go_ret2
  have aU:lx D ys zs a h=[]:=by unfold lx;rw[Ys<|.inl z.o.symm]
  rw[aU];refine⟨σ,p,c,rfl,Yq ..,?_,mD.refl _ _,aO,rfl,rfl,rfl,λb d=>by simp[Value.ownBlock]at d⟩;exact al.o.XV (by rw[Bv h R.o z.o.symm,<-ah.o])<|GV h R z.o.symm
 .go_enter func32,ntmps32
  go_wp2_with fail
  go_region
  obtain⟨e,X⟩:=j5<|ay++h;rw[<-X];have aE:=h_ X;have bF:e.size<=4194304:=by rw[X,Zd];exact bz
  clear X;obtain⟨j,m⟩:=j5<|(w.setCell (μ p.yb a)<|.string e).drew;have l:j3 j B c p D left A0 (λk=>if k=a then e else ys k) zs:=by rw[m];exact(u.o.OM i _).below br.drew
  have W:Fc c 3 w j:=by rw[m];exact((Fc.refl c 3 w).setCell p.yb a (.inr u.o.cy) _).kt br.drew
  rw[<-m];have a4:j.heap.size=w.heap.size:=by rw[m];simp
  obtain⟨_,_,_,d7,_,d13,_,_,_,_,_,_,b5⟩:=l.cells;have ap:=l.Cd a i;rw[<-z.o]at ap;have bv:j.cell? (μ p.yb a)=some (.string e):=by have:=l.qI.cell (j:=0) i om;rw[YS,YE,Ys rfl]at this;exact this
  have al:=h_ l;have aO:=h_ W;clear l W m bt bc bw aJ ai a5 aC
  go_wp2_with fail
  refine(zw e j bF).mono ?_;rintro g I ⟨cR,aw,ax,r,k,rfl,aH,aN,cI,O⟩;obtain⟨Q,L,rfl,_⟩:=i_ aH;have cB:r<=e.size:=by have:=LU e (e.size+1) 0<|YG _;have cS:(Pl.w4 e (e.size+1) 0).2=r:=(by rw[show Pl.w4 e (e.size+1) 0=(ax,r)from aN.1]);omega
  have b9:kU j c 9=kU w c 9:=by unfold kU;rw[a4]
  have P:Hid (j3 I B (kU w c 9) p D left A0 (λk=>if k=a then e else ys k) zs):=al.o.frame (k:=9) (Fc.jX O) (by rw[<-b9];exact jW j c 9) om om om;have b2:=h_<|aO.o.kt O;have bn:=h_ aH;have aP:=h_ aN;obtain⟨_,_,_,f7,_,f13,f14,_,_,_,_,_,cV⟩:=P.o.cells;have ct:I.cell? (μ p.yb a)=some (.string e):=((ke O).1 _ _ al.o.qI.lt).trans bv;have bB:=λf=>P.o.qI.frozen f;have cv:=λf=>P.o.tf.frozen f;have cC:=O.size;have aK:∃bI,I.cell? (μ p.zb a)=some (.bool bI):=⟨_,by have:=P.o.tf.cell (i:=a) (j:=0) i om;rw[YS,YE]at this;exact this⟩;obtain⟨cO,aK⟩:=aK;clear aH aN O d7 d13 ap bv;have cF:(r:Int)<=(e.size:Int):=om
  go_wp2_with fail
  go_region
  obtain⟨C,N⟩:=j5<|(I.setCell (μ p.yb a)<|.string<|e.extract r e.size).drew;have U:j3 C B (kU w c 9) p D left A0 (λf=>if f=a then e.extract r e.size else if f=a then e else ys f) zs:=by rw[N];exact(P.o.OM i _).below br.drew
  have bm:Fc c 3 w C:=by rw[N];exact(b2.o.setCell p.yb a (.inr u.o.cy) _).kt br.drew
  have a9:C.ownsRow j.heap.size 94 3 (.slice Q aw L) aw ax:=by rw[N];refine jV bn.o λb d=>?_;show(I.setCell (μ p.yb a) _).heap[b]?=_;exact Yp I _ _ _ (λg=>by have:=(bn.o.lt b d).1;have:=u.o.qI.lt;have bO:b=p.yb:=g;omega)
  rw[<-N];have cT:C.heap.size=I.heap.size:=by rw[N];simp
  obtain⟨_,_,_,_,_,_,bL,_,_,_,_,_,cG⟩:=U.cells;have bK:=λf=>U.tf.frozen f;have cu:C.cell? (μ p.zb a)=some (.bool<|zs a):=by have:=U.tf.cell (i:=a) (j:=0) i om;rw[YS,YE]at this;exact this
  have cm:=h_ U;have cc:=h_ bm;have aR:=h_ a9;clear U bm a9 N f7 f13 f14 ct bB cv aK
  go_upto_region 11 with fail
  obtain⟨aA,S⟩:=j5<|C.setCell (μ p.zb a)<|.bool<|k !=0;let⟨Z,aD⟩:=j5 (λf=>if f=a then e.extract r e.size else if f=a then e else ys f);let⟨aa,aM⟩:=j5 (λf=>if f=a then(k !=0)else zs f);obtain⟨af,K⟩:=j5<|lI e;have aL:ax=af.flatMap Pl.zf:=by rw[K,<-(l9 _).1,aP.o.1]
  have ad:aw=af.length:=by rw[K];exact ye aR<|by rw[aL,K]
  have aZ:lx D ys zs a h=af:=by unfold lx;rw[Yo (by rw[<-z.o,R.o];simp),<-ah,<-aE,K]
  have bh:∀x∈af,Pl.Oa x:=by rw[K];exact(l9 e).2.1
  have V:j3 aA B (kU w c 9) p D left A0 Z aa:=by rw[S,aD,aM];exact cm.o.WQ i<|k !=0
  have bb:Fc c 3 w aA:=by rw[S];exact cc.o.setCell p.zb a (.inr u.o.cz) _
  have aW:aA.ownsRow w.heap.size 94 3 (.slice Q af.length L) af.length<|af.flatMap Pl.zf:=by rw[S,<-ad,<-aL,<-a4];refine jV aR.o λb d=>Yp C _ _ _ (λg=>by have:=(aR.o.lt b d).1;have:=u.o.tf.lt;have bO:b=p.zb:=g;omega)
  rw[<-S,ad]
  have a1:Hid<|Ax D ys zs a h=Z/\Di D ys zs a h=aa:=by
   have bu:r=(Pl.pO e).2:=by rw[aP.o.1]
   have aj:(k !=0)=Pl.tl (e.extract r e.size):=by rw[aP.o.2];cases cZ:Pl.tl (e.extract r e.size)<;>simp
   have a6:(D.ln a).kind≠1:=by rw[<-z.o];decide
   refine⟨?_,?_⟩
   .rw[aD,Bw h R.o a6,<-ah.o,<-aE.o,bu];funext f;by_cases g:f=a
    .rw[Ys g,Ys g]
    .rw[Yo g,Yo g,Yo g]
   .rw[aM,GW h R.o a6,<-ah.o,<-aE.o,aj,bu]
  have cj:=h_ aZ;have bQ:=h_ λq=>LV cl a left A0 b7 (af.take q).reverse (af.take q) (abO _).symm;have aj:=z.o.symm;have bi:∀b,Value.ownBlock (.slice Q af.length L)=some b->kU w c 9 b=9:=λb d=>kB w c 9 b (aW.lt b d).1;have bM:=h_ aj;have b4:=h_ V;have b1:=h_ bb;have bU:=h_ aW;have b':=h_ bi;have eI:=h_ bh;have cJ:af.length<=524288:=om;clear V bb aW bi bh S aD aM K aL aZ aj bL bK cu;subst ad
  go_wp2_with fail
  go_loopw [12,11,13] (λq J x wr=>∃(n:Nat) (s:pL) (v:Nat->Nat),n<=af.length/\q=ν n/\wr.ownsRow w.heap.size 113 3 J (kR D a left A0 (af.take n)).2.1.length ((kR D a left A0 (af.take n)).2.1.flatMap ng)/\j3 wr B v s (kR D a left A0 (af.take n)).1 (kR D a left A0 (af.take n)).2.2.1 (kR D a left A0 (af.take n)).2.2.2 Z aa/\wr.ownsRow w.heap.size 94 3 (.slice Q af.length L) af.length (af.flatMap Pl.zf)/\(∀b,Value.ownBlock (.slice Q af.length L)=some b->v b=9)/\(∀b,J.ownBlock=some b->v b=9)/\mD w c v/\Fc c 3 w wr/\s.r=p.r/\s.lb=p.lb/\s.cap=p.cap) (λq _ _ _=>af.length-(intOf q).toNat)
  case atStart=>exact⟨0,p,_,YG _,rfl,Yq ..,b4,bU,b',λb d=>by simp[Value.ownBlock]at d,jW w c 9,b1,rfl,rfl,rfl⟩
  case round=>
   obtain⟨n,a8,bd,ad,rfl,F,t,ae,aV,ab,hA,hF,aF,a3,bl⟩:=hrel;by_cases mY:n<af.length
   .refine SZ ?_;intro x hx cY e1;have E:=yn D a left A0 (af.take n) x;rw[<-e1]at E;let⟨an,au,ao,aX,aS⟩:=bQ n;let⟨bf,aY⟩:=j5<|(kR D a left A0 (af.take n)).1;rw[<-aY]at an ao au aS t E;let⟨aG,be⟩:=j5<|(kR D a left A0 (af.take n)).2.1;let⟨bG,bk⟩:=j5<|(kR D a left A0 (af.take n)).2.2.1;let⟨cn,bq⟩:=j5<|(kR D a left A0 (af.take n)).2.2.2;rw[<-be]at F E aX;rw[<-bk]at t E ao;rw[<-bq]at t E;have b3:=uH an a x.1 x.2.1 x.2.2;rw[ZJ]at aX aS;have cx:aG.length<=9*524288:=om;obtain⟨bD,rfl,c0,f0,f1,f2⟩:=An ae n x hx;have bx:=h_ (Aw wr B bd a8 bf bG cn Z aa a x.1 x.2.1 x.2.2 t an (by rw[au.nl];exact i) (by rw[au.ln,bM.o];omega) cY ao om);rw[aF]at bx;have bs:=h_ F;have bg:=h_ ae;have bj:=h_ aV;have ac:=h_ ab;have aq:=h_ hA;have aB:=h_ hF;have a7:=h_ E;have bV:=hF.size;have cL:=h_ t.lo.2.2.2.2;clear F t ae aV ab hA hF E e1 cY an ao au aS hx aY be bk bq
    go_wp2_with fail
    clear f0 f1 f2;apply bx.o.mono;rintro g y ⟨cw,ci,o,rfl,ag,V,am,T,bE,cd,bC⟩;let⟨a',az⟩:=j5<|mZ bf a x.1 x.2.1 x.2.2;rw[<-az]at ag b3;obtain⟨cD,cP,rfl,_⟩:=i_ ag;have cg:=h_ az;have b8:=h_ V;have bW:=h_<|aq.o.trans am bV;have bP:=h_<|aB.o.trans T aq;have ak:=h_ (T.own bs dc (λb d=>by rw[ac.o b d];omega));have aI:=h_ (T.own bg dc (λb d=>by rw[bj.o b d];omega));have a0:Hid (∀b,u11.ownBlock=some b->o b=9):=λb d=>by rw[am b (bs.o.lt b d).2];exact ac b d
    have bN:Hid (∀b,Value.ownBlock (ω bD af.length L)=some b->o b=9):=λb d=>by rw[am b (bg.o.lt b d).2];exact bj b d
    have bZ:=h_<|sZ ag;have cA:=T.size;have ce:=bE.trans aF;have cs:=cd.trans a3;have ch:=bC.trans bl;clear ag V am T az
    go_wp2_with (at_builtin;go_must (refine kT rfl (.tmp 105) (.tmp 106) 46 rfl w.heap.size 113 bR _ 3 32 underlying46 bY ca bX cp rfl dc u11 aG.length (aG.flatMap ng) rfl ak _ a'.length (a'.flatMap ng) rfl bZ (ym _) (Dg _) ml om om ?_;intro cz cf bS aT bJ))
    go_roundw
    case rel=>
     have bT:=(Fc.refl o 9 y).grown aT λb d=>.inr<|a0 b d;refine⟨n+1,ci,kU y o 9,om,gn,?_,?_,jV aI λb d=>?_,λb d=>by rw[jW y o 9 b (aI.o.lt b d).2];exact bN b d,λb d=>?_,bW.o.trans (jW y o 9) om,bP.o.grown aT λb d=>.inl (ak.o.lt b d).1,ce,cs,ch⟩
     .rw[a7.o,<-cg.o,Yv,YX];exact bS
     .rw[a7.o];exact b8.o.frame bT (jW y o 9) om om om
     .let⟨cE,bp⟩:=jU aI b d;refine aT.block b (Yn bp) λg=>?_;let⟨c1,bH⟩:=jU ak b g.symm;exact km bp bH dc rfl
     .rcases bJ b d with Y|Y
      .rw[jW y o 9 b (ak.o.lt b Y).2];exact a0 b Y
      .exact kB y o 9 b Y
    case measure=>exact mz
   .obtain rfl:n=af.length:=om;rw[aal]at F t;have bA:=h_ F;have ck:=h_ t;have aq:=h_ hA;have aB:=h_ hF;have ac:=h_ ab;obtain⟨cN,cQ,rfl,_⟩:=i_ F;clear F t hF ae hA ab aV;go_wp2
    go_ret2
    rw[cj.o,a1.o.1,a1.o.2];exact⟨_,a8,bd,rfl,bA,ck,aq,aB,aF,a3,bl,ac⟩
def Tryz.Tv:(prog.info? 4).map (λa=>(a.zero,a.size,a.bytes))=some (some (.bool false),1,1):=kr
def Is(a:Nat)(c:a<=1000)(b:b_):(Instr.makeSlice 30 (ν (a:Int))<|ν (a:Int)).run prog b=.ok (ω b.heap.size a a) (b.alloc<|.cells (madeCells #[.string ⟨#[]⟩] a) 9):=
 abW 30 9 _ 16 underlying30 Tryz.xU rfl .i64 .i64 a om om b
def Fq(a:Nat)(c:a<=1000)(b:b_):(Instr.makeSlice 45 (ν (a:Int))<|ν (a:Int)).run prog b=.ok (ω b.heap.size a a) (b.alloc<|.cells (madeCells #[.bool false] a) 4):=
 abW 45 4 _ 1 underlying45 Tryz.Tv rfl .i64 .i64 a om om b
def vv(b:Nat)(K:List Int)(c a:Nat):Int:=if c=0 then(if a<b then K.getD a 0 else 0)else if c=2 then K.getD (b+a) 0 else 0
def It(K:List Int)(q a:Nat)(b:Int)(d:K[q]?=some b):(K.take<|q+1).getD a 0=if a=q then b else(K.take q).getD a 0:=by
 rw[m9 K q b d];have f:(K.take q).length=q:=by have:=(Yr.1 d).1;simp;omega
 rw[Yt,Yt];by_cases c:a=q
 .subst c;rw[YP om,f,abk,Ys rfl];rfl
 .rw[Yo c];rcases Zj a q with e|e
  .rw[YK om]
  .rw[ZF so,ZF om]
def Fs(a c:Nat)(f:a_)(d e:Nat):vv a (kC (nM a c f) a c) d e=nM a c f d e:=by
 have i:((List.range a).map<|nM a c f 0).length=a:=si;unfold vv kC;by_cases h:d=0
 .subst h;rw[Ys rfl];by_cases b:e<a
  .rw[Ys b,Yt,YK om,Y9,Z5 b];rfl
  .rw[Yo b];unfold nM;rw[Ys rfl,Yo b];rfl
 .rw[Yo h];by_cases g:d=2
  .subst g;rw[Ys rfl,Yt,YP om,i,aby];by_cases b:e<c
   .rw[Y9,Z5 b];rfl
   .rw[ZF so];unfold nM;rw[Yo dc,Ys rfl,Yo b];rfl
  .rw[Yo g];unfold nM;rw[Yo h,Yo g]
def WB(D:j4)(b q a:Nat):f_:=if a<q then ω (b+4+a) (D.sz a) (D.sz a)else σ
def opC(D:j4)(lb cap yb zb a q:Nat):Array f_:=
 #[ν<|D.sz 0,ν<|D.sz 1,ν<|D.sz 2,ν<|D.sz 3,ν<|D.kp 0,ν<|D.kp 2,ν D.unit,ω lb D.nl cap,ν D.batch,
  WB D a q 0,WB D a q 1,WB D a q 2,WB D a q 3,ω yb D.nl D.nl,ω zb D.nl D.nl,σ,ν 0,σ,ν 0]
def xp(D:j4)(lb cap:Nat):Array f_:=#[ν<|D.sz 0,ν<|D.sz 1,ν<|D.sz 2,ν<|D.sz 3,ν<|D.kp 0,ν<|D.kp 2,ν D.unit,ω lb D.nl cap,ν D.batch]
structure rS(w wr:b_)(D:j4)(lb cap yb zb q:Nat)(K:List Int):Prop where
 box:wr.heap[w.heap.size]?=some (.cells (xp D lb cap) 39)
 dev:wr.heap[w.heap.size+3]?=some (.cells (opC D lb cap yb zb w.heap.size q) 48)
 qI:kE wr yb 9 D.nl 1 (λ_ _=>.string ⟨#[]⟩)
 tf:kE wr zb 4 D.nl 1 (λ_ _=>.bool false)
 kA:∀j,j<q->kE wr (w.heap.size+4+j) 3 (D.sz j) 1 (λk _=>ν<|vv (D.kp 0) K j k)
 yz:(yb=w.heap.size+1/\zb=w.heap.size+2)\/(yb=w.heap.size+2/\zb=w.heap.size+1)
 size:wr.heap.size=w.heap.size+4+q
 nD:Below w.heap.size w wr
section
variable {w wr:b_}{D:j4}{lb cap yb zb q:Nat}{K:List Int}
def rS.drew(a:rS w wr D lb cap yb zb q K):rS w wr.drew D lb cap yb zb q K:=
 ⟨a.box,a.dev,a.qI.same rfl,a.tf.same rfl,λc b=>(a.kA c b).same rfl,a.yz,a.size,a.nD.drew⟩
def rS.step(M:rS w wr D lb cap yb zb q [])(l:q<4):
 rS w ((wr.alloc<|.cells (madeCells #[ν 0]<|D.sz q) 3).setCell (μ (w.heap.size+3)<|9+q)<|ω (w.heap.size+4+q) (D.sz q)<|D.sz q) D lb cap yb zb (q+1) []:=by
 have g:=M.size;have j:=M.yz;have e:=YB (wr.alloc<|.cells (madeCells #[ν 0]<|D.sz q) 3) (w.heap.size+3) (9+q) _ 48 (ω (w.heap.size+4+q) (D.sz q)<|D.sz q) ((YQ wr _ om).trans M.dev);have c:∀a,a≠w.heap.size+3->a<wr.heap.size->((wr.alloc<|.cells (madeCells #[ν 0]<|D.sz q) 3).setCell (μ (w.heap.size+3)<|9+q)<|ω (w.heap.size+4+q) (D.sz q)<|D.sz q).heap[a]?=wr.heap[a]?:=λa f h=>by rw[Yp _ (μ (w.heap.size+3)<|9+q) a _ f];exact YQ wr _ h
 refine⟨(c _ om om).trans M.box,?_,M.qI.same<|c _ om om,M.tf.same<|c _ om om,λb k=>?_,j,so,?_⟩
 .rw[e];exact Kw
 .by_cases d:b=q
  .subst d;have:=Ab wr (D.sz b);rw[g]at this;refine(this.lL (K:=w.heap.size+3) (9+b) om _).congr λi _ _ _=>?_;show _=ν (vv _ [] b i);unfold vv;simp
  .exact(M.kA b om).same (c _ om om)
 .exact(M.nD.alloc M.nD.size _).setCell (show w.heap.size<=w.heap.size+3 by omega) _
def rS.put{a:Int}(b:rS w wr D lb cap yb zb 4 (K.take q))(f:K[q]?=some a)(j d:Nat)(r:(q<D.kp 0/\j=0/\d=q)\/(¬q<D.kp 0/\j=2/\d=q-D.kp 0))(A:d<D.sz j):rS w (wr.setCell (μ (w.heap.size+4+j) d)<|ν a) D lb cap yb zb 4 (K.take<|q+1):=by
 have x:=b.size;have y:=b.yz;have B:j<4:=om;have i:∀k,k≠w.heap.size+4+j->(wr.setCell (μ (w.heap.size+4+j) d)<|ν a).heap[k]?=wr.heap[k]?:=λk c=>Yp wr (μ (w.heap.size+4+j) d) k _ c;have h:=It K q;refine⟨(i _ om).trans b.box,(i _ om).trans b.dev,b.qI.same<|i _ om,b.tf.same<|i _ om,λg t=>?_,y,by simp;exact x,b.nD.setCell (show w.heap.size<=w.heap.size+4+j by omega) _⟩;by_cases e:g=j
 .subst e;have v:=(b.kA g t).set (i:=d) (j:=0) A om (ν a);rw[YS,YE]at v;refine v.congr λp u _ z=>?_;obtain rfl:u=0:=om;by_cases s:p=d
  .subst s;rw[Ys ⟨rfl,rfl⟩];congr 1;unfold vv;rcases r with⟨c,rfl,rfl⟩|⟨c,rfl,rfl⟩
   .rw[Ys rfl,Ys c,h _ a f,Ys rfl]
   .have o:¬(2:Nat)=0:=dc;rw[Yo o,Ys rfl,h _ a f,Ys om]
  .rw[Yo λe=>s e.1];congr 1;unfold vv;rcases r with⟨c,rfl,rfl⟩|⟨c,rfl,rfl⟩
   .rw[Ys rfl,Ys rfl,h _ a f,Yo s]
   .have o:¬(2:Nat)=0:=dc;rw[Yo o,Yo o,Ys rfl,Ys rfl,h _ a f,Yo om]
 .refine((b.kA g t).same<|i _ om).congr λp u _ z=>?_;congr 1;unfold vv;rcases r with⟨c,rfl,rfl⟩|⟨c,rfl,rfl⟩
  .rw[Yo e,Yo e];by_cases l:g=2
   .rw[Ys l,Ys l,h _ a f,Yo om]
   .rw[Yo l,Yo l]
  .by_cases m:g=0
   .rw[Ys m,Ys m];by_cases n:p<D.kp 0
    .rw[Ys n,Ys n,h _ a f,Yo om]
    .rw[Yo n,Yo n]
   .rw[Yo m,Yo m,Yo e,Yo e]
end
def p'(w:b_)(a:Obj):(w.alloc a).heap.size=w.heap.size+1:=si
def uI(w:b_)(b:f_)(c:Nat)(a:d_):kE (w.alloc<|.cells (madeCells #[b] c) a) w.heap.size a c 1 (λ_ _=>b):=by have:=vf w #[b] c 1 a rfl;rw[YS]at this;refine this.congr λ_ d _ e=>?_;obtain rfl:d=0:=om;rfl
def LW(w:b_)(D:j4)(lb cap:Nat):rS w (((((w.alloc<|.cells (xp D lb cap) 39).alloc<|.cells (madeCells #[.string ⟨#[]⟩] D.nl) 9).alloc<|.cells (madeCells #[.bool false] D.nl) 4).alloc<|.cells (opC D lb cap (w.heap.size+1) (w.heap.size+1+1) w.heap.size 0) 48).drew) D lb cap (w.heap.size+1) (w.heap.size+1+1) 0 []:=by
 refine rS.drew ?_;have a:Below w.heap.size w<|w.alloc<|.cells (xp D lb cap) 39:=jT br _;refine⟨?_,?_,?_,?_,λc b=>absurd b (Zh _),.inl ⟨rfl,rfl⟩,by simp only[p'],jT (jT (jT a _) _) _⟩
 .exact RE
 .have:=YO (((w.alloc<|.cells (xp D lb cap) 39).alloc<|.cells (madeCells #[.string ⟨#[]⟩] D.nl) 9).alloc<|.cells (madeCells #[.bool false] D.nl) 4)<|.cells (opC D lb cap (w.heap.size+1) (w.heap.size+1+1) w.heap.size 0) 48;simp only[p']at this;exact this
 .have:=uI (w.alloc<|.cells (xp D lb cap) 39) (.string ⟨#[]⟩) D.nl 9;simp only[p']at this;exact(this.alloc _).alloc _
 .have:=uI ((w.alloc<|.cells (xp D lb cap) 39).alloc<|.cells (madeCells #[.string ⟨#[]⟩] D.nl) 9) (.bool false) D.nl 4;simp only[p']at this;exact this.alloc _
def LX(w:b_)(D:j4)(lb cap:Nat):rS w (((((w.alloc<|.cells (xp D lb cap) 39).alloc<|.cells (madeCells #[.bool false] D.nl) 4).alloc<|.cells (madeCells #[.string ⟨#[]⟩] D.nl) 9).alloc<|.cells (opC D lb cap (w.heap.size+1+1) (w.heap.size+1) w.heap.size 0) 48).drew) D lb cap (w.heap.size+1+1) (w.heap.size+1) 0 []:=by
 refine rS.drew ?_;have a:Below w.heap.size w<|w.alloc<|.cells (xp D lb cap) 39:=jT br _;refine⟨?_,?_,?_,?_,λc b=>absurd b (Zh _),.inr ⟨rfl,rfl⟩,by simp only[p'],jT (jT (jT a _) _) _⟩
 .exact RE
 .have:=YO (((w.alloc<|.cells (xp D lb cap) 39).alloc<|.cells (madeCells #[.bool false] D.nl) 4).alloc<|.cells (madeCells #[.string ⟨#[]⟩] D.nl) 9)<|.cells (opC D lb cap (w.heap.size+1+1) (w.heap.size+1) w.heap.size 0) 48;simp only[p']at this;exact this
 .have:=uI ((w.alloc<|.cells (xp D lb cap) 39).alloc<|.cells (madeCells #[.bool false] D.nl) 4) (.string ⟨#[]⟩) D.nl 9;simp only[p']at this;exact this.alloc _
 .have:=uI (w.alloc<|.cells (xp D lb cap) 39) (.bool false) D.nl 4;simp only[p']at this;exact(this.alloc _).alloc _
def ON(a:f_)(w:b_):(callFunc 55 #[a]).run prog w=.ok (.enter 55 #[a]) w:=kr
def zR(D:j4)(lb cap g aN:Nat)(d:Nat->Nat)(aa:f_)(K:List Int)(w:b_)(R:∀b,b<4->D.sz b<=60)(ae:D.kp 0<=D.sz 0)(aK:D.kp 2<=D.sz 2)(bi:D.nl<=4)(bC:K.length<=D.kp 0+D.kp 2)(aY:w.ownsRow aN 3 1 aa K.length<|K.flatMap ka)(aO:∀b n,b<4->D.ent b n=vv (D.kp 0) K b n)
 (al:∃am,w.heap[lb]?=some (.cells am 3)) (ak:∀b,b<D.nl->w.cell? (μ lb b)=some (ν ((D.ln b).kind:Nat))) (aS:d lb=5) (bk:g<=w.heap.size) (a0:D.uns=0) (ax:D.wait=[]):
 Calls prog 16 #[.agg<|xp D lb cap,aa] w λaQ W=>∃p V,aQ=.returned (π p.r)/\j3 W g V p D [kC D.ent (D.kp 0)<|D.kp 2] 0 (λ_=>⟨#[]⟩) (λ_=>false)/\mD w d V/\Below w.heap.size w W/\p.lb=lb/\p.cap=cap/\w.heap.size<=p.r/\p.rd=D:=by
 have bx:=Is D.nl om;have bb:=Fq D.nl om;obtain⟨h,a9,bh,a4,ay⟩:=rb w (D.sz 0:Nat) (D.sz 1:Nat) (D.sz 2:Nat) (D.sz 3:Nat) (D.kp 0:Nat) (D.kp 2:Nat) (D.unit:Nat) (D.batch:Nat)<|ω lb D.nl cap;obtain⟨bf,a6,bl,aP,bm,bo,bD,bA,bz⟩:=kH ay;unfold xp
 go_enter func16,ntmps16
 go_upto_region 1 with fail
 go_cut [5]from 8 to 18 (λu o=>u=π (w.heap.size+3)/\∃yb zb,rS w o D lb cap yb zb 0 [])
 case first=>
  go_region
  .go_wp2
   go_meet
   exact⟨rfl,_,_,LW w D lb cap⟩
  .go_wp2
   go_meet
   exact⟨rfl,_,_,LX w D lb cap⟩
 case rest=>
  obtain⟨rfl,yb,zb,az⟩:=hcut;have aA:=h_ az;have Y:=h_ aY;have aD:=h_ aO;have aF:=h_ al;have ai:=h_ ak;have j:=h_ R;have aI:∀(h:b_) (q:Nat),q<4->(Instr.makeSlice 28 (ν<|D.sz q)<|ν<|D.sz q).run prog h=.ok (ω h.heap.size (D.sz q)<|D.sz q) (h.alloc<|.cells (madeCells #[ν 0]<|D.sz q) 3):=λh q z=>sT _ (li<|R q z) h;have aL:=h_ aI
  go_upto_block 0 with fail
  go_cut [6]from 19 to 32 (λb o=>rS w o D lb cap yb zb 4 [])
  case first=>
   go_wp2_with fail
   go_loopw [6] (λb wr=>∃q:Nat,q<=4/\b=ν q/\rS w wr D lb cap yb zb q []) (λb _=>4-(intOf b).toNat)
   case atStart=>exact⟨0,om,rfl,aA.o⟩
   case round=>
    obtain⟨q,z,rfl,a⟩:=hrel;by_cases U:q<4
    .have P:=a.size;have bd:=λh=>aL.o h q U;have bp:wr.cell? (μ w.heap.size q)=some (ν<|D.sz q):=by rw[Yu _ _ _ _ _ _ a.box];exact Kw
     have A:=Yn a.dev;have bB:∀f,(wr.alloc f).cell? (μ (w.heap.size+3)<|9+q)=some σ:=λf=>by rw[Yu _ _ _ _ _ _ ((YQ wr f A).trans a.dev)];exact Kw
     have bv:∀f,(wr.alloc f).frozen? (μ (w.heap.size+3)<|9+q)=false:=λf=>Y2 _ _ _ _ _ ((YQ wr f A).trans a.dev);have k:=h_<|a.step U
     go_wp2_with fail
     go_region
     go_wp2
     go_roundw
     case rel=>exact⟨q+1,om,gn,k.o.drew⟩
     case measure=>exact mz
    .obtain rfl:q=4:=om;have k:=h_ a;go_wp2
     go_meet
     exact k.o
  case rest=>
   have a:=hcut;have k:=h_ a;obtain⟨a',a7,rfl,_⟩:=i_ Y.o
   go_upto_block 2 with fail
   go_cut [7]from 33 to 67 (λb o=>rS w o D lb cap yb zb 4 K)
   case first=>
    go_wp2_with fail
    go_loopw [7] (λb wr=>∃q:Nat,q<=K.length/\b=ν q/\rS w wr D lb cap yb zb 4 (K.take q)) (λb _=>K.length-(intOf b).toNat)
    case atStart=>exact⟨0,om,rfl,k.o⟩
    case round=>
     obtain⟨q,z,rfl,a⟩:=hrel;by_cases y:q<K.length
     .obtain⟨B,L⟩:∃B,K[q]?=some B:=⟨_,Yw y⟩;have v:=h_ y;have x:Hid<|wrap64 ((q:Int)+1)=((q+1:Nat):Int):=by show _=_;have:=j.o 0 om;have:=j.o 2 om;simp only[wrap64];omega
      have bs:Hid<|q<=200:=by show q<=200;have:=j.o 0 om;have:=j.o 2 om;omega
      obtain⟨aq,rfl,af,an⟩:=vt Y.o rfl q y;have a8:wr.cell? (μ aq q)=some (ν B):=by rw[(ke a.nD).1 _ _ af,an,Yt,L];rfl
      have P:=a.size;have bu:wr.cell? (μ w.heap.size 4)=some (ν<|D.kp 0):=(Yu _ _ _ _ _ _ a.box).trans rfl;have a5:wr.cell? (μ (w.heap.size+3) 9)=some (ω (w.heap.size+4+0) (D.sz 0)<|D.sz 0):=(Yu _ _ _ _ _ _ a.dev).trans rfl;have bn:wr.cell? (μ (w.heap.size+3) 11)=some (ω (w.heap.size+4+2) (D.sz 2)<|D.sz 2):=(Yu _ _ _ _ _ _ a.dev).trans rfl;by_cases X:q<D.kp 0
      .have ar:(q:Int)<(D.kp 0:Int):=om;have a2:(q:Int)<(D.sz 0:Int):=om;have aW:wr.cell? (μ (w.heap.size+4+0) q)=some (ν<|vv (D.kp 0) (K.take q) 0 q):=by have:=(a.kA 0 om).cell (i:=q) (j:=0) om om;rwa[YS,YE]at this
       have a1:=(a.kA 0 om).frozen q;have J:=h_<|a.put L 0 q (.inl ⟨X,rfl,rfl⟩) om
       go_wp2_with fail
       go_region
       go_wp2
       go_roundw
       case rel=>exact⟨q+1,v.o,by rw[x.o],J.o.drew⟩
       case measure=>have:=v.o;rw[x.o];simp only[intOf];omega
      .have ar:(D.kp 0:Int)<=(q:Int):=om;have bw:IntKind.i64.wrap ((q:Int)-(D.kp 0:Int))=((q-D.kp 0:Nat):Int):=by have:=j.o 0 om;have:=j.o 2 om;rw[aao];omega
       have a2:((q-D.kp 0:Nat):Int)<(D.sz 2:Int):=om;have aW:wr.cell? (μ (w.heap.size+4+2)<|q-D.kp 0)=some (ν<|vv (D.kp 0) (K.take q) 2<|q-D.kp 0):=by have:=(a.kA 2 om).cell (i:=q-D.kp 0) (j:=0) om om;rwa[YS,YE]at this
       have a1:=(a.kA 2 om).frozen<|q-D.kp 0;have J:=h_<|a.put L 2 (q-D.kp 0) (.inr ⟨X,rfl,rfl⟩) om
       go_wp2_with fail
       go_region
       go_wp2
       go_roundw
       case rel=>exact⟨q+1,v.o,by rw[x.o],J.o.drew⟩
       case measure=>have:=v.o;rw[x.o];simp only[intOf];omega
     .obtain rfl:q=K.length:=om;rw[aal]at a;have k:=h_ a;go_wp2
      go_meet
      exact k.o
   case rest=>
    have a:=hcut;have P:=a.size;have bj:=a.yz;obtain⟨aZ,ab⟩:=aF.o;have E:=Yn ab
    have av:j3 wc g (kU w d 3) {r:=w.heap.size+3,yb:=yb,zb:=zb,lb:=lb,cap:=cap,G:=λc=>w.heap.size+4+c,wv:=σ,lv:=σ,vs:=[],rd:=D} D [] 0 (λ_=>⟨#[]⟩) (λ_=>false):=by
     refine⟨?_,λc l=>(a.kA c l).congr λn _ _ _=>by rw[aD.o c n l],λaR ag _ _ bc=>?_,⟨aZ,(a.nD.block lb E).trans ab⟩,λc l=>((ke a.nD).1 _ _ E).trans<|ai.o c l,a.qI,a.tf,by rw[ax];exact Yq _ _ _ _,Yq _ _ _ _,λc aU l=>by simp at l,kB w d 3 _ (by show w.heap.size<=w.heap.size+3;omega),λc _=>kB w d 3 _ (by show w.heap.size<=w.heap.size+4+c;omega),kB w d 3 _ (by show w.heap.size<=yb;omega),kB w d 3 _ (by show w.heap.size<=zb;omega),λt s=>by simp[Value.ownBlock]at s,λt s=>by simp[Value.ownBlock]at s,(jW w d 3 lb E).trans aS,by show g<=w.heap.size+3;omega,λc _=>by show g<=w.heap.size+4+c;omega,by show g<=yb;omega,by show g<=zb;omega,om⟩
     .rw[a.dev];unfold C7 opC;rw[a0];rfl
     .show w.heap.size+4+aR≠w.heap.size+4+ag;omega
    have aJ:=a.nD;have au:wc.cell? (μ (w.heap.size+3) 17)=some σ:=(Yu _ _ _ _ _ _ a.dev).trans rfl;have F:=h_ av;have aV:=h_ aJ;have aw:=h_ a.dev;have A:=Yn a.dev;obtain⟨aG,ap,ao,aB,aM⟩:=Y4 Tryz.GR
    go_wp2_with fail
    go_region_law (first
     |(refine ki rfl 55 #[.tmp 73] #[50] rfl #[π<|w.heap.size+3] (by first|(simp[Act.eval];done)|simp[Act.eval,Act.put]) (ON _ _) _ (Ar _ g (kU w d 3) {r:=w.heap.size+3,yb:=yb,zb:=zb,lb:=lb,cap:=cap,G:=λc=>w.heap.size+4+c,wv:=σ,lv:=σ,vs:=[],rd:=D} D [] 0 (λ_=>⟨#[]⟩) (λ_=>false) (by first|exact F.o|exact F.o.below br.drew) j.o ae aK) ?_;rintro bq e ⟨N,i⟩;obtain⟨m,r,rfl,_⟩:=i_ N;have ac:e.cell? (μ (w.heap.size+3) 17)=some σ:=((ke i).1 _ _ so).trans au;have aj:w.heap.size+3<e.heap.size:=(by have:=i.size;simp at this;omega);have bt:∀f,(e.alloc f).cell? (μ (w.heap.size+3) 17)=some σ:=λf=>(ZL<|YQ e f aj).trans ac)
     |(refine na rfl (.tmp 72) (.tmp 75) 24 rfl g 28 aG _ 1 24 underlying24 ap ao aB aM rfl dc σ 0 [] (by first|(simp[Act.eval];done)|simp[Act.eval,Act.put]) uY (μ e.heap.size 0) 1 1 [.slice m (D.kp 0+D.kp 2) r] rfl rfl (pz e [.slice m (D.kp 0+D.kp 2) r] 28) (by simp[Value.oneCell']) ml om (by have:=i.size;simp at this⊢;omega) ?_;intro bg O S I ah;obtain⟨T,Q,rfl,_⟩:=i_ S;have Z:=(I.block (w.heap.size+3) (by have:=i.size;simp at this⊢;omega)<|by simp[Value.ownBlock]).trans ((YQ e _ (by have:=i.size;simp at this⊢;omega)).trans<|(i.block (w.heap.size+3) so).trans aw.o);have aP:O.cell? (μ (w.heap.size+3) 17)=some σ:=cr Z;have f3:O.frozen? (μ (w.heap.size+3) 17)=false:=Y2 _ _ _ _ _ Z))
    all_goals
     have C:Below wc.heap.size wc e:=kx i;have be:=C.size;have aT:=F.o.frame (k:=9) (Fc.jX C) (jW wc (kU w d 3) 4) om om om;have aC:Below e.heap.size e<|e.alloc<|.cells #[.slice m (D.kp 0+D.kp 2) r] 28:=jT br _;have aH:=(aT.GS (l:=kC D.ent (D.kp 0)<|D.kp 2) aC S I ah (by rw[pd];exact N) (by show g<=wc.heap.size;omega) λt s=>kB wc (kU w d 3) 4 t (N.lt t s).1).1;have aX:Below w.heap.size w<|O.setCell (μ (w.heap.size+3) 17)<|.slice T 1 Q:=((jT (jZ aV.o C)<|.cells #[.slice m (D.kp 0+D.kp 2) r] 28).grown I so (by simp[Value.ownBlock])).setCell (show w.heap.size<=w.heap.size+3 by omega) _;have a3:=h_ aH;have aE:=h_ aX;have ad:Hid<|mD w d<|kU e (kU wc (kU w d 3) 4) 3:=((jW w d 3).trans (jW wc _ 4) om).trans (jW e _ 3) om;go_wp2;go_ret;exact⟨{r:=w.heap.size+3,yb:=yb,zb:=zb,lb:=lb,cap:=cap,G:=λc=>w.heap.size+4+c,wv:=σ,lv:=.slice T (0+1) Q,vs:=[]++[.slice m (D.kp 0+D.kp 2) r],rd:=D},rfl,_,a3.o,ad.o,aE.o,rfl,rfl,by show w.heap.size<=w.heap.size+3;omega,rfl⟩
structure Ls where
 dk:Nat->a_
 wet:List Ac
 least:Nat
def tt(a:Ls):Ls:={a with dk:=a.wet.foldl pQ a.dk,wet:=[]}
def runL:Nat->List Sv->List Ac->Ls->Ls
 |0,_,_,a=>a
 |_+1,_,[],a=>a
 |c+1,W,b::A,a=>if b.1=0 then runL c W A {a with wet:=a.wet++[b]}else if b.1=1 then runL c W A (tt a)else runL c W.tail A {a with least:=max a.least (W.headD (0,0,⟨#[]⟩)).1.toNat}
inductive pR (nd:Nat):List Sv->List Ac->Prop
 |nil:pR nd [] []
 |write {W:List Sv}{A:List Ac} (q:Nat) (x:a_):q<nd->x.size=64->pR nd W A->pR nd W ((0,(q:Int),0,x)::A)
 |sync {W:List Sv}{A:List Ac}:pR nd W A->pR nd W ((1,0,0,⟨#[]⟩)::A)
 |send {W:List Sv}{A:List Ac} (x:Sv):pR nd W A->pR nd (x::W) (kS x::A)
section
variable {nd:Nat}{W W':List Sv}{A A':List Ac}
def pR.append(f:pR nd W A)(g:pR nd W' A'):pR nd (W++W') (A++A'):=by
 induction f with
 |nil=>exact g
 |write e b d c _ a=>exact .write e b d c a
 |sync _ a=>exact .sync a
 |send b _ a=>exact .send b a
def pR.sends:∀(W:List Sv),pR nd W<|W.map kS:=by
 intro W
 induction W with
 |nil=>exact .nil
 |cons b W a=>exact .send b a
def pR.writes:∀(a:List Ac),(∀d∈a,∃(c:Nat) (b:a_),d=(0,(c:Int),0,b)/\c<nd/\b.size=64)->pR nd [] a:=by
 intro a
 induction a with
 |nil=>intro _;exact .nil
 |cons d a f=>intro e;obtain⟨c,b,rfl,i,g⟩:=e d YD;exact .write c b i g (f λj h=>e j<|Y8 _ h)
def AZ(g:pR nd W A):∀(a:Nat) (c:Ls),a<=A.length->runL a (W++W') (A++A') c=runL a W A c:=by
 induction g with
 |nil=>
  intro a c b;obtain rfl:a=0:=by simpa using b
  rw[runL,runL]
 |write j f i h _ d=>
  intro a c b
  cases a with
  |zero=>rw[runL,runL]
  |succ a=>rw[Y1,runL,runL,Ys rfl,Ys rfl];exact d a _ (by simpa using b)
 |sync _ d=>
  intro a c b
  cases a with
  |zero=>rw[runL,runL]
  |succ a=>rw[Y1,runL,runL,Yo dc,Ys rfl,Yo dc,Ys rfl];exact d a _ (by simpa using b)
 |send f _ d=>
  intro a c b
  cases a with
  |zero=>rw[runL,runL]
  |succ a=>have e:(kS f).1=2:=rfl;rw[Y1,Y1,runL,runL,Yo<|qx e,Yo<|qx e,Yo<|qx e,Yo<|qx e];exact d a _ (by simpa using b)
def sj(f:pR nd W A):∀(a:Nat) (b:Ls),runL (A.length+a) (W++W') (A++A') b=runL a W' A' (runL A.length W A b):=by
 induction f with
 |nil=>intro a b;simp[runL]
 | @write W A i e h g _ c=>intro a b;rw[Y1,YA,show A.length+1+a=(A.length+a)+1 by omega,runL,runL,Ys rfl,Ys rfl];exact c a _
 | @sync W A _ c=>intro a b;rw[Y1,YA,show A.length+1+a=(A.length+a)+1 by omega,runL,runL,Yo dc,Ys rfl,Yo dc,Ys rfl];exact c a _
 | @send W A e _ c=>intro a b;have d:(kS e).1=2:=rfl;rw[Y1,Y1,YA,show A.length+1+a=(A.length+a)+1 by omega,runL,runL,Yo<|qx d,Yo<|qx d,Yo<|qx d,Yo<|qx d];exact c a _
end
def rX{nd:Nat}(b:List Ac):∀(a:Nat) (c:Ls),(∀d∈b,∃(g:Nat) (f:a_),d=(0,(g:Int),0,f)/\g<nd/\f.size=64)->a<=b.length->runL a [] b c={c with wet:=c.wet++b.take a}:=by
 induction b with
 |nil=>
  intro a c _ e;obtain rfl:a=0:=by simpa using e
  simp[runL]
 |cons d b i=>
  intro a c h e
  cases a with
  |zero=>simp[runL]
  |succ a=>obtain⟨g,f,rfl,_,_⟩:=h d YD;rw[runL,Ys rfl,i a _ (λk j=>h k<|Y8 _ j) (by simpa using e)];simp
def Fy:∀(W:List Sv) (c:Nat) (a:Ls),∃e,runL c W (W.map kS) a={a with least:=e}/\a.least<=e/\∀b,a.least<=b->(∀d∈W,d.1<=(b:Int))->e<=b:=by
 intro W
 induction W with
 |nil=>intro c a;cases c<;>exact⟨a.least,by simp[runL],YC _,λb f _=>f⟩
 |cons d W k=>
  intro c a
  cases c with
  |zero=>exact⟨a.least,by simp[runL],YC _,λb f _=>f⟩
  |succ c=>
   have h:(kS d).1=2:=rfl;obtain⟨e,i,l,n⟩:=k c {a with least:=max a.least d.1.toNat};refine⟨e,?_,?_,λb o g=>n b ?_ λm j=>g m<|Y8 _ j⟩
   .rw[ZW,runL,Yo<|qx h,Yo<|qx h];exact i
   .have:max a.least d.1.toNat<=e:=l;omega
   .have:=g d YD;show max a.least d.1.toNat<=b;omega
def uJ(b:Nat->a_)(f:List Ac)(e:Nat->a_):Prop:=∀a,e a=b a\/∃c∈f,c.2.1.toNat=a/\∃d,d<=64/\e a=nk c.2.2.2 (b a) d
def uJ.nil{a b:Nat->a_}(d:uJ a [] b):b=a:=by
 funext j;rcases d j with e|⟨f,c,_⟩
 .exact e
 .simp at c
structure sk(nd:Nat)(wet:List Ac):Prop where
 all:∀a∈wet,∃(q:Nat) (x:a_),a=(0,(q:Int),0,x)/\q<nd/\x.size=64
 one:wet.Pairwise (λa b=>a.2.1.toNat≠b.2.1.toNat)
def sk.take{nd:Nat}{a:List Ac}(b:sk nd a)(e:Nat):sk nd (a.take e):=⟨λc d=>b.all c<|aaO d,b.one.sublist<|List.take_sublist ..⟩
def sk.nil(nd:Nat):sk nd []:=⟨si,.nil⟩
def GY:∀(b:List Ac) (d:Nat->a_),b.Pairwise (λa f=>a.2.1.toNat≠f.2.1.toNat)->(∀a∈b,(b.foldl pQ d) a.2.1.toNat=a.2.2.2)/\∀c,(∀a∈b,a.2.1.toNat≠c)->(b.foldl pQ d) c=d c:=by
 intro b
 induction b with
 |nil=>intro d _;exact⟨si,λc _=>rfl⟩
 |cons a b n=>
  intro d m;let⟨l,o⟩:=List.pairwise_cons.1 m;let⟨p,j⟩:=n (pQ d a) o;refine⟨λf g=>?_,λc i=>?_⟩
  .rcases Y7.1 g with rfl|g
   .rw[aa1,j _ (λh e=>(l h e).symm)];unfold pQ;rw[Ys rfl]
   .exact p f g
  .rw[aa1,j c λh e=>i h<|Y8 _ e];unfold pQ;rw[Yo λk=>i a YD k.symm]
def GZ(a b:Nat)(left:lw)(d:Nat)(e:a_):Prop:=∃c,d<=c/\left[c]?=some (kC (nM a b e) a b)
def GZ.more{a e b:Nat}{left:lw}{c:a_}(h:GZ a e left b c)(i:lw):GZ a e (left++i) b c:=by let⟨g,f,d⟩:=h;refine⟨g,f,?_⟩;rw[YK (Yr.1 d).1];exact d
structure l0(z sec nd c h:Nat)(left:lw)(s:Ls):Prop where
 size:∀j,j<nd->(s.dk j).size=64
 wet:sk nd s.wet
 oQ:∀f',uJ s.dk s.wet f'->∃lat st d,rT z sec f' lat st d/\GZ c h left s.least d
def l0.more{f e nd b d:Nat}{left:lw}{g:Ls}(a:l0 f e nd b d left g)(c:lw):l0 f e nd b d (left++c) g:=⟨a.size,a.wet,λj l=>by let⟨h,k,m,i,n⟩:=a.oQ j l;exact⟨h,k,m,i,n.more c⟩⟩
structure Calm(z sec nd lat st:Nat)(d:a_)(s:Ls):Prop where
 size:∀j,j<nd->(s.dk j).size=64
 wet:s.wet=[]
 dk:rT z sec s.dk lat st d
def Calm.oQ{f c nd lat st e g:Nat}{d:a_}{b:Ls}{left:lw}(a:Calm f c nd lat st d b)(i:GZ e g left b.least d):l0 f c nd e g left b:=
 ⟨a.size,by rw[a.wet];exact sk.nil nd,λj h=>by rw[a.wet]at h;rw[h.nil];exact⟨lat,st,d,a.dk,i⟩⟩
def Dk(a nd b g:Nat)(d:a_)(k:b<=1)(j:2*a<=nd):sk nd ((List.range a).map<|x6 a b g d):=by
 have l:b*a<=a:=by rcases(show b=0\/b=1 by omega)with rfl|rfl<;>omega
 refine⟨λc e=>?_,?_⟩
 .obtain⟨f,h,rfl⟩:=aaW.1 e;have:=aad.1 h;exact⟨b*a+f,_,rfl,om,nh ..⟩
 .rw[List.pairwise_map];apply List.nodup_range.imp;intro c i m;show(((b*a+c:Nat):Int)).toNat≠(((b*a+i:Nat):Int)).toNat;omega
def Calm.save{g ak nd aq b o M:Nat}{t a:a_}{s:Ls}{left:lw}(hc:Calm g ak nd aq b t s)(v:Si ak s.dk aq b)(w:1<=ak)(E:2*ak<=nd)(D:a.size=g)(L:g<=62*ak)(hi:GZ o M left s.least t)(J:GZ o M left s.least a):
 (∀n,n<=(my ak (1-aq) (b%3+1) a).length->l0 g ak nd o M left (runL n [] (my ak (1-aq) (b%3+1) a) s))/\
 (runL (my ak (1-aq) (b%3+1) a).length [] (my ak (1-aq) (b%3+1) a) s).least=s.least/\Calm g ak nd (1-aq) (b%3+1) a (runL (my ak (1-aq) (b%3+1) a).length [] (my ak (1-aq) (b%3+1) a) s)/\Si ak (runL (my ak (1-aq) (b%3+1) a).length [] (my ak (1-aq) (b%3+1) a) s).dk (1-aq) (b%3+1):=by
 obtain⟨X,Y,_⟩:=hc.dk.sg;have bh:=Dk ak nd (1-aq) (b%3+1) a om E;obtain⟨az,m⟩:=j5<|(List.range ak).map<|x6 ak (1-aq) (b%3+1) a;have hA:my ak (1-aq) (b%3+1) a=az++[(1,0,0,⟨#[]⟩)]:=nY m;rw[<-m]at bh;have K:az.length=ak:=by rw[m];simp
 have h:∀c,c∈az↔∃i,i<ak/\c=(0,(((1-aq)*ak+i:Nat):Int),0,nb (b%3+1)<|a.extract (i*62) a.size):=λc=>by rw[m,aaW];exact⟨λ⟨i,hi,e⟩=>⟨i,aad.1 hi,e.symm⟩,λ⟨i,hi,e⟩=>⟨i,aad.2 hi,e.symm⟩⟩
 refine Qq ?_;intro fX;rw[hA];have hchk:pR nd [] az:=pR.writes az bh.all;have x:∀n,n<=ak->runL n [] (az++[(1,0,0,⟨#[]⟩)]) s={s with wet:=az.take n}:=λn E=>by exact Q6
 have z:runL (ak+1) [] (az++[(1,0,0,⟨#[]⟩)]) s={s with dk:=az.foldl pQ s.dk,wet:=[]}:=by have:=sj (W':=[]) (A':=[(1,0,0,⟨#[]⟩)]) hchk 1 s;rw[Zy,K]at this;rw[this];have h2:=x ak kM;have S:=rX az ak s bh.all om;rw[S,hc.wet,YT,Zf om];simp[runL,tt]
 obtain⟨y,I⟩:=GY az s.dk bh.one;have P:∀i,i<ak->(az.foldl pQ s.dk) ((1-aq)*ak+i)=nb (b%3+1) (a.extract (i*62) a.size):=λi hi=>by exact y _ ((h _).2 ⟨i,hi,rfl⟩)
 have R:∀i,i<ak->(az.foldl pQ s.dk) (aq*ak+i)=s.dk (aq*ak+i):=λi hi=>I _ λc d=>by obtain⟨j,hj,rfl⟩:=(h c).1 d;show(((1-aq)*ak+j:Nat):Int).toNat≠_;have:=fX.2.2 i j hi hj;omega
 have N:∀j,j<nd->((az.foldl pQ s.dk) j).size=64:=λj hj=>by
  by_cases C:∃c∈az,c.2.1.toNat=j
  .obtain⟨c,d,rfl⟩:=C;rw[y c d];obtain⟨i,_,rfl⟩:=(h c).1 d;exact nh _ _
  .rw[I j λc d e=>C ⟨c,d,e⟩];exact hc.size j hj
 obtain⟨O,Q⟩:=hc.dk.save v w D L R P;have B:Calm g ak nd (1-aq) (b%3+1) a {s with dk:=az.foldl pQ s.dk,wet:=[]}:=⟨N,rfl,O⟩;rw[Yv,K,Zn,z];refine⟨λn V=>?_,rfl,B,Q⟩;rcases(show n<=ak\/n=ak+1 by omega)with T|rfl
 .rw[x n T];refine⟨hc.size,bh.take n,λr U=>?_⟩;have F:uJ s.dk (az.take n) r:=U
  have d:∀i,i<ak->r (aq*ak+i)=s.dk (aq*ak+i):=λi hi=>by
   rcases F (aq*ak+i)with f|⟨c,d,e,_⟩
   .exact f
   .obtain⟨j,hj,rfl⟩:=(h c).1<|aaO d;exact RP
  have u:∀i,i<ak->∃l,l<=64/\r ((1-aq)*ak+i)=nk (nb (b%3+1)<|a.extract (i*62) a.size) (s.dk<|(1-aq)*ak+i) l:=λi hi=>by
   rcases F ((1-aq)*ak+i)with f|⟨c,d,e,l,u,f⟩
   .exact⟨0,om,by rw[tV<|hc.size _ om];exact f⟩
   .obtain⟨j,hj,rfl⟩:=(h c).1<|aaO d;have ju:(((1-aq)*ak+j:Nat):Int).toNat=(1-aq)*ak+i:=e;obtain rfl:j=i:=om;exact⟨l,u,f⟩
  rcases hc.dk.WR v w (λi=>nb (b%3+1)<|a.extract (i*62) a.size) (λi _=>⟨nh _ _,by rw[Bz];omega⟩) (λi hi=>hc.size _ om) d u with f|f
  .exact⟨_,_,a,(hc.dk.save v w D L d f).1,J⟩
  .exact⟨_,_,t,f,hi⟩
 .rw[z];exact B.oQ J
def l4(b:e_)(e:g_)(d:Array f_)(g:b_)(f:Ending->b_->Prop):Prop:=∃a c,b.funcs[e]?=some a/\a.body=some c/\c.wp b (bodyPost b a f) {tmps:=d++Array.replicate (a.ntmps-d.size) undef,defers:=[]} g
def AT{b:e_}{f:g_}{a:Func}{c:Code}{d:Array f_}{e:b_}{g:Ending->b_->Prop}(j:b.funcs[f]?=some a)(h:a.body=some c)(i:c.wp b (bodyPost b a g) {tmps:=d++Array.replicate (a.ntmps-d.size) undef,defers:=[]} e):l4 b f d e g:=⟨a,c,j,h,i⟩
def l4.mono{k:e_}{m:g_}{l:Array f_}{a:b_}{j i:Ending->b_->Prop}(p:l4 k m l a j)(d:∀c a,j c a->i c a):l4 k m l a i:=by
 let⟨q,n,o,r,s⟩:=p;refine⟨q,n,o,r,wp_mono s λc t a b=>?_⟩
 cases c with
 |normal=>let⟨h,g,e,f⟩:=b;exact⟨h,g,e,d _ _ f⟩
 |ret=>let⟨h,g,e,f⟩:=b;exact⟨h,g,e,d _ _ f⟩
 |panic _=>exact⟨b.1,d _ _ b.2⟩
 |outgrown=>exact d _ _ b
 |_=>exact b
def nc(_:b_)(c:Nat)(b:Nat->Nat):Nat->Nat:=λa=>if a<c then 0 else if b a=0 then 9 else b a
structure wX(_:b_)(B:Nat)(c:Nat->Nat):Prop where
 zero:∀g,c g=0↔g<B
def qW(b:b_)(a:Nat)(c:Nat->Nat):wX b a (nc b a c):=by
 refine⟨λd=>?_⟩;unfold nc;split
 .simp[*]
 .split<;>simp[*]
def Ay{e:b_}{d b a:Nat}{c:Nat->Nat}(g:d<=b)(f:c b=a)(h:a≠0):nc e d c b=a:=by unfold nc;rw[Yo om,Yo om,f]
def mD.nc{d k:b_}{e:Nat}{c g:Nat->Nat}(j:mD d c g)(f:wX d e c):mD d c (nc k e g):=λb i=>by
 unfold Go.Proofs.YtcpldcojckhapaaGreat.nc;rw[j b i];by_cases a:b<e
 .rw[Ys a,(f.zero b).2 a]
 .rw[Yo a,Yo λh=>a<|(f.zero b).1 h]
def mg{w:b_}{e a b:Nat}{c:Nat->Nat}{h:Array f_}{d:d_}(f:e<=a)(_:w.heap[a]?=some (.cells h d))(_:d≠163)(g:c a=b)(i:b≠0):nc w e c a=b:=Ay f g i
def lN{i:b_}{B h l m b:Nat}{e:Nat->Nat}{f:d_}{d:f_}{j:List f_}(g:i.ownsRow h f l d m j)(q:B<=h)(n:f≠163)(o:b≠0)(k:∀a,d.ownBlock=some a->e a=b):∀a,d.ownBlock=some a->nc i B e a=b:=λa c=>by let⟨r,p⟩:=jU g a c;exact mg (YH q (g.lt a c).1) p n (k a c) o
def j3.nc{e:b_}{b h:Nat}{g:Nat->Nat}{d:pL}{i:j4}{left:lw}{j:Nat->a_}{l:Nat->Bool}(a:j3 e b g d i left h j l)(q:b<=d.lb):j3 e b (nc e b g) d i left h j l:=by
 let⟨x,s⟩:=a.Aq;let⟨y,m⟩:=a.qI.block;let⟨z,t⟩:=a.tf.block;refine⟨a.dev,a.kA,a.inj,a.Aq,a.Cd,a.qI,a.tf,a.wt,a.lf,λp r o=>?_,mg a.lo.1 a.dev dc a.cr dc,λf c=>?_,mg a.lo.2.2.1 m dc a.cy dc,mg a.lo.2.2.2.1 t dc a.cz dc,lN a.wt kM dc dc a.cw,lN a.lf kM dc dc a.cl,mg q s dc a.cb dc,a.lo⟩
 .let⟨v,n,k,w⟩:=a.GH p r o;exact⟨v,n,k,lN k kM dc dc w⟩
 .let⟨A,u⟩:=(a.kA f c).block;exact mg (a.lo.2.1 f c) u dc (a.cG f c) dc
def oc(b:Nat->Nat)(c:b_):Nat->Bool:=λa=>decide (b a=2)||decide (c.heap.size<=a)
def Fc.VG{B0 k j l:Nat}{m b:Nat->Nat}{h n:b_}(e:lC B0 (lS (oc b h) k j l m) h n)(o:b k=2)(y:b j=2)(t:b l=2)(p:∀d,d<4->b (m d)=2)(A:∀a,a<h.heap.size->b a=0->a<B0):Fc b 2 h n:=by
 refine⟨e.os,e.tape,e.output,e.size,λa u q g f=>e.keep a u q g ?_,λa g r _=>e.low a (A a g r) g⟩;have x:a≠k:=λc=>f (by rw[c];exact o);have w:a≠j:=λc=>f (by rw[c];exact y);have z:a≠l:=λc=>f (by rw[c];exact t);have i:∀d,d<4->a≠m d:=λd v c=>f (by rw[c];exact p d v);have s:oc b h a=false:=by have:=Yn g;simp[oc,f];omega
 simp[lS,x,w,z,i 0 om,i 1 om,i 2 om,i 3 om,s]
def j8.trim{c:b_}{g h j:Nat}{f b:d_}{mk:Nat->List f_}{d:f_}{i:Nat->Prop}(q:j8 c g f b h mk d j i):j8 c g f b h mk d j (λa=>i a/\∃p,c.heap[a]?=some (.cells p b)):=by let⟨Ls,l,t⟩:=q;exact⟨Ls,l,λs r m=>by let⟨o,u,e,n⟩:=t s r m;exact⟨o,u,e,λa k=>⟨n a k,e.block a k⟩⟩⟩
def lu.trim(c:lu)(d:b_):lu:={c with pI:=λa=>c.pI a/\∃b,d.heap[a]?=some (.cells b 3),pF:=λa=>c.pF a/\∃b,d.heap[a]?=some (.cells b 94),pA:=λa=>c.pA a/\∃b,d.heap[a]?=some (.cells b 77),pT:=λa=>c.pT a/\∃b,d.heap[a]?=some (.cells b 9)}
def lu.sO{b:lu}{f:b_}{d e:Nat}(c:(b.trim f).on d e):b.on d e:=by
 unfold lu.on lu.ints at c⊢;rcases c with a|a|a|a|a|(a|a)|(a|a)|(a|a)|(a|a)
 .exact .inl a
 .exact uq a
 .exact KG a
 .exact KH a
 .exact S3 a
 .exact A3<|.inl a.1
 .exact A3<|.inr a
 .exact HE<|.inl a.1
 .exact HE<|.inr a
 .exact zj<|.inl a.1
 .exact zj<|.inr a
 .exact N3 a.1
 .exact WK (.inr a)
def kP.trim{d:b_}{g f e:Nat}{h:lu}(a:kP d g f e h):kP d g f e (h.trim d):=
 ⟨a.mw,a.LI.trim,a.LF.trim,a.LA.trim,a.LT.trim,λc b=>a.PI c b.1,λc b=>a.PF c b.1,λc b=>a.PA c b.1,λc b=>a.PT c b.1,a.CI,a.WI,a.CF,a.WF,a.CA,a.WA,a.CT,a.WT,a.nI,a.nF,a.nA,a.nT,a.xI,a.xF,a.xA,a.xT,λc b=>a.here c<|lu.sO b,a.lo⟩
def BB(d:b_)(b:Nat):Prop:=∃(c:Array f_) (a:d_),d.heap[b]?=some (.cells c a)/\a≠34
def kP.plain{e:b_}{k h j c:Nat}{i:lu}(d:kP e k h j i)(g:(i.trim e).on h c):BB e c:=by
 have b:∀{t:d_},t≠34->(∃f,e.heap[c]?=some (.cells f t))->BB e c:=λm ⟨f,l⟩=>⟨f,_,l,m⟩;unfold lu.on lu.ints at g;rcases g with a|a|a|a|a|(a|a|a)|(a|a|a)|(a|a|a)|(a|a|a)
 .subst a;exact b dc ⟨_,d.mw⟩
 .exact b dc (kL d.LI c a)
 .exact b dc (kL d.LF c a)
 .exact b dc (kL d.LA c a)
 .exact b dc (kL d.LT c a)
 .exact b dc a.2
 .exact b dc (jU d.CI c a)
 .exact b dc (jU d.WI c a)
 .exact b dc a.2
 .exact b dc (jU d.CF c a)
 .exact b dc (jU d.WF c a)
 .exact b dc a.2
 .exact b dc (jU d.CA c a)
 .exact b dc (jU d.WA c a)
 .exact b dc a.2
 .exact b dc (jU d.CT c a)
 .exact b dc (jU d.WT c a)
def Fc.OR{k:Nat}{i n:lu}{l:f_}{d:Nat->Nat}{j m:b_}(c:qs j m k i n l)(h:∀a,i.on k a->d a=1)(g:∀a,l.ownBlock=some a->d a=1):Fc d 1 j m:=
 ⟨c.os,c.tape,c.output,c.size,λa _ _ e f=>c.keep a (Yn e) (λb=>f<|h a b) λb=>f<|g a b,λa e o _=>c.keep a e (λb=>by have:=h a b;omega) (λb=>by have:=g a b;omega)⟩
structure rI(w:b_)(B:Nat)(c:Nat->Nat)(kb m:Nat)(b:lu):Prop where
 bk:kP w B kb m b
 ob:∀g,b.on kb g->c g=1
 hi:∀g,b.on kb g->B<=g
 ty:∀g,b.on kb g->BB w g
def rI.frame{h w':b_}{m o l k:Nat}{f j:Nat->Nat}{n:lu}(b:rI h m f o l n)(g:Fc f k h w')(q:mD h f j)(t:k≠1):rI w' m j o l n:=
 ⟨b.bk.frame g.size (λa e d c r _ p=>g.keep a e d c (.inl p) (by rw[b.ob a r];omega)),λa c=>(q a<|b.bk.here a c).trans<|b.ob a c,b.hi,λa c=>by
  let⟨e,d,i,s⟩:=b.ty a c
  exact⟨e,d,(g.all a e d i (by rw[b.ob a c];omega)).trans i,s⟩⟩
def rI.nc{b:b_}{c g f:Nat}{d:Nat->Nat}{h:lu}(a:rI b c d g f h):rI b c (nc b c d) g f h:=
 ⟨a.bk,λi e=>Ay (a.hi i e) (a.ob i e) dc,a.hi,a.ty⟩
def rI.step{c g:b_}{i j q o:Nat}{d:Nat->Nat}{m k:lu}{p:f_}(f:rI c i d j q m)(n:kP g i j o k)(l:qs c g j m k p)(h:∀a,p.ownBlock=some a->d a=1/\i<=a/\a<c.heap.size):rI g i (kU c d 1) j o (k.trim g)/\Fc d 1 c g:=by
 refine⟨⟨n.trim,λa e=>?_,λa e=>?_,λa e=>n.plain e⟩,Fc.OR l f.ob λa e=>(h a e).1⟩
 .rcases l.on a (lu.sO e)with b|b|b
  .rw[jW c d 1 a<|f.bk.here a b];exact f.ob a b
  .rw[jW c d 1 a (h a b).2.2];exact(h a b).1
  .exact kB c d 1 a b
 .rcases l.on a (lu.sO e)with b|b|b
  .exact f.hi a b
  .exact(h a b).2.1
  .exact YH f.bk.lo.2 b
structure me where
 (g d L S:Nat)
 E:Nat->Nat
 wv:f_
 p:pL
 (dv wt:f_)
structure lA(w:b_)(B:Nat)(c:Nat->Nat)(q:me)(D:j4):Prop where
 rP:j1 (oc c w) w q.d q.L q.S q.E q.wv D
 cd:c q.d=2
 cL:c q.L=2
 cS:c q.S=2
 cE:∀i,i<4->c (q.E i)=2
 cv:∀g,q.wv.ownBlock=some g->c g=2
 lo:B<=D.base
def VH{c:Nat->Nat}{e:b_}{d:f_}(f:∀a,d.ownBlock=some a->c a=2):Ow (oc c e) e d:=⟨λa b=>by simp[oc,f a b],λa b=>by simp[oc,b]⟩
def lA.of{d:b_}{f:Nat}{b:Nat->Nat}{a:me}{c:j4}{O:Nat->Bool}(n:j1 O d a.d a.L a.S a.E a.wv c)(i:b a.d=2)(k:b a.L=2)(l:b a.S=2)(j:∀g,g<4->b (a.E g)=2)(e:∀h,a.wv.ownBlock=some h->b h=2)(m:f<=c.base):lA d f b a c:=⟨n.re<|VH e,i,k,l,j,e,m⟩
def lA.frame{g w':b_}{l k:Nat}{e n:Nat->Nat}{p:me}{o:j4}(b:lA g l e p o)(_:wX g l e)(d:Fc e k g w')(h:mD g e n)(m:k≠2):lA w' l n p o:=by have a:=b.rP;refine lA.of ⟨(d.keep _ _ _ a.dev (.inr m) (p1 b.cd)).trans a.dev,d.LH a.lines dc (p1 b.cL),λi j=>d.LH (a.ent i j) dc (by rw[b.cE i j];omega),a.inj,(d.keep _ _ _ a.store (.inr m) (p1 b.cS)).trans a.store,jV a.wait λc f=>?_,a.lo,a.ow.grow d.size⟩ ((h _ (Yn a.dev)).trans b.cd) ((h _ a.lines.lt).trans b.cL) ((h _ (Yn a.store)).trans b.cS) (λi j=>(h _ (a.ent i j).lt).trans<|b.cE i j) (λc f=>(h c (a.wait.lt c f).2).trans<|b.cv c f) b.lo;let⟨q,r⟩:=jU a.wait c f;exact d.keep c q 163 r (.inr m) (by rw[b.cv c f];omega)
def lA.nc{e:b_}{c:Nat}{g:Nat->Nat}{k:me}{i:j4}(b:lA e c g k i):lA e c (nc e c g) k i:=by have a:=b.rP;have h:=b.lo;let⟨o,m⟩:=a.lines.block;refine lA.of a (mg (li a.lo.1) a.dev dc b.cd dc) (mg (li a.lo.2.1) m dc b.cL dc) (mg (li a.lo.2.2.1) a.store dc b.cS dc) (λf d=>?_) (λl j=>Ay (YH h (a.wait.lt l j).1) (b.cv l j) dc) h;let⟨p,n⟩:=(a.ent f d).block;exact mg (li<|a.lo.2.2.2 f d) n dc (b.cE f d) dc
def Dl(e:b_)(b:Nat->Nat)(c:f_)(d:Nat):Nat->Nat:=λa=>if a<e.heap.size then b a else if c.ownBlock=some a then 2 else d
def oD(b:b_)(a:Nat->Nat)(c:f_)(d:Nat):mD b a (Dl b a c d):=λf e=>by unfold Dl;rw[Ys e]
def xO{i j:b_}{k:Nat->Nat}{f c:f_}{g e n b p r t m:Nat}{l u:List f_}(d:j.ownsRow e b p c r l)(o:j.ownsRow n 163 t f m u)(s:b≠163)(A:i.heap.size<=e):∀a,c.ownBlock=some a->Dl i k f g a=g:=λa h=>by have y:=(d.lt a h).1;unfold Dl;rw[Yo om,Yo];intro q;let⟨z,v⟩:=jU d a h;let⟨x,w⟩:=jU o a q;exact s (oM v w)
def od(a:Nat->a_)(b:Nat):List f_:=((List.range b).map a).flatMap nS
def Dm(b:me)(a:j4)(c:Nat):Array f_:=
 #[π b.d,π b.p.r,ν<|a.sz 0,ν<|a.sz 1,ν<|a.sz 2,ν<|a.sz 3,ν<|a.kp 0,ν<|a.kp 2,ν a.unit,ω b.p.lb a.nl b.p.cap,ν a.batch,b.dv,b.wt,ν c]
structure kw(w:b_)(B:Nat)(c:Nat->Nat)(q:me)(D:j4)(s:Ls)(nd:Nat):Prop where
 n_:w.heap[q.g]?=some (.cells (Dm q D s.least) 52)
 dk:w.ownsRow B 9 1 q.dv nd<|od s.dk nd
 wet:w.ownsRow B 77 4 q.wt s.wet.length<|s.wet.flatMap ku
 cg:c q.g=7
 cd:∀g,q.dv.ownBlock=some g->c g=7
 cw:∀g,q.wt.ownBlock=some g->c g=7
 lo:B<=q.g
def kw.frame{f w':b_}{i l k:Nat}{d h:Nat->Nat}{m:me}{j:j4}{n:Ls}(a:kw f i d m j n l)(e:Fc d k f w')(g:mD f d h)(o:k≠7):kw w' i h m j n l:=
 ⟨(e.keep _ _ _ a.n_ (.inl dc) (p1 a.cg)).trans a.n_,e.own a.dk dc (λb c=>by rw[a.cd b c];omega),e.own a.wet dc (λb c=>by rw[a.cw b c];omega),(g _ (Yn a.n_)).trans a.cg,λb c=>(g b (a.dk.lt b c).2).trans<|a.cd b c,λb c=>(g b (a.wet.lt b c).2).trans<|a.cw b c,a.lo⟩
def kw.nc{b:b_}{c f:Nat}{d:Nat->Nat}{g:me}{e:j4}{h:Ls}(a:kw b c d g e h f):kw b c (nc b c d) g e h f:=
 ⟨a.n_,a.dk,a.wet,mg a.lo a.n_ dc a.cg dc,lN a.dk kM dc dc a.cd,lN a.wet kM dc dc a.cw,a.lo⟩
def BC{w:b_}{B k:Nat}{b:Option Addr}{l:List Ac}(M:w.ownsRow B 77 4 (.slice b l.length k) l.length<|l.flatMap ku)(q:Nat)(x:Ac)(hx:l[q]?=some x):
 ∃a,b=some (μ a 0)/\a<w.heap.size/\w.cell? (μ a<|q*4)=some (.int .u8 x.1)/\w.cell? (μ a<|q*4+1)=some (ν x.2.1)/\w.cell? (μ a<|q*4+2)=some (ν x.2.2.1)/\w.cell? (μ a<|q*4+3)=some (.string x.2.2.2):=by
 let⟨e,d,f,h⟩:=i_ M;obtain⟨rfl,rfl⟩:e=b/\d=k:=by simpa using f.symm
 refine J' ?_;intro mY cE;obtain⟨a,rfl,g,hc⟩:=h q mY;refine⟨a,rfl,g,?_,?_,?_,?_⟩
 .have:=kj ku 4 (λ_=>rfl) l q 0 mY om;exact GF
 .have:=kj ku 4 (λ_=>rfl) l q 1 mY om;rw[hc _ om,this,cE];rfl
 .have:=kj ku 4 (λ_=>rfl) l q 2 mY om;rw[hc _ om,this,cE];rfl
 .have:=kj ku 4 (λ_=>rfl) l q 3 mY om;rw[hc _ om,this,cE];rfl
section
variable {w X w3:b_}{B:Nat}{c:Nat->Nat}{q:me}{D:j4}{s:Ls}{nd:Nat}
def kw.cells(a:kw w B c q D s nd):w.cell? (μ q.g 0)=some (π q.d)/\w.cell? (μ q.g 1)=some (π q.p.r)/\w.cell? (μ q.g 11)=some q.dv/\w.cell? (μ q.g 12)=some q.wt/\w.cell? (μ q.g 13)=some (ν s.least)/\(∀b,w.frozen? (μ q.g b)=false)/\q.g<w.heap.size:=
 ⟨(Yu _ _ _ _ _ _ a.n_).trans rfl,(Yu _ _ _ _ _ _ a.n_).trans rfl,(Yu _ _ _ _ _ _ a.n_).trans rfl,(Yu _ _ _ _ _ _ a.n_).trans rfl,(Yu _ _ _ _ _ _ a.n_).trans rfl,λ_=>Y2 _ _ _ _ _ a.n_,Yn a.n_⟩
def kw.Tx{e:f_}{a:Ac}(d:kw w B c q D s nd)(i:Below w.heap.size w X)(t:w3.ownsRow B 77 4 e (s.wet.length+1)<|s.wet.flatMap ku++ku a)(j:X.grownBy w3 q.wt.ownBlock)(o:∀m,e.ownBlock=some m->q.wt.ownBlock=some m\/X.heap.size<=m):
 kw (w3.setCell (μ q.g 12) e) B (kU w c 7) {q with wt:=e} D {s with wet:=s.wet++[a]} nd/\Fc c 7 w (w3.setCell (μ q.g 12) e):=by
 have x:=i.size;have v:=j.size;have n:=Yn d.n_;have p:q.wt.ownBlock≠some q.g:=λg=>by let⟨r,l⟩:=jU d.wet _ g;exact km l d.n_ dc rfl
 have u:=((j.block q.g om (λg=>p g.symm)).trans<|i.block q.g n).trans d.n_;refine⟨⟨YB w3 q.g 12 _ 52 e u,jV d.dk λb f=>?_,?_,(jW w c 7 _ n).trans d.cg,λb f=>(jW w c 7 b (d.dk.lt b f).2).trans<|d.cd b f,λb f=>?_,d.lo⟩,((Fc.jX i).grown j λb f=>.inr<|d.cw b f).setCell q.g 12 (.inr d.cg) e⟩
 .let⟨y,k⟩:=jU d.dk b f
  rw[Yp w3 (μ q.g 12) b e<|km k d.n_ dc,j.block b (li<|Yn k) (λg=>by
   let⟨r,l⟩:=jU d.wet _ g.symm
   exact km k l dc rfl)]
  exact i.block b<|Yn k
 .show World.ownsRow _ B 77 4 e (s.wet++[a]).length ((s.wet++[a]).flatMap ku);rw[Yv,Zn,YX,show [a].flatMap ku=ku a by simp];refine jV t λb f=>Yp w3 (μ q.g 12) b e λg=>?_;subst g;rcases o _ f with h|h
  .exact p h
  .have:X.heap.size<=q.g:=h;omega
 .rcases o b f with h|h
  .rw[jW w c 7 b (d.wet.lt b h).2];exact d.cw b h
  .exact kB w c 7 b om
def kw.L1(a:kw w B c q D s nd):kw (w.setCell (μ q.g 12) σ) B c {q with wt:=σ} D {s with wet:=[]} nd/\Fc c 7 w (w.setCell (μ q.g 12) σ):=by refine⟨⟨YB w q.g 12 _ 52 _ a.n_,jV a.dk λd b=>?_,Yq ..,a.cg,a.cd,λd b=>by simp[Value.ownBlock]at b,a.lo⟩,(Fc.refl c 7 w).setCell q.g 12 (.inr a.cg) _⟩;let⟨f,e⟩:=jU a.dk d b;exact Yp w (μ q.g 12) d _ (km e a.n_ dc)
def kw.Dn(a:kw w B c q D s nd)(f:Nat):kw (w.setCell (μ q.g 13)<|ν f) B c q D {s with least:=f} nd/\Fc c 7 w (w.setCell (μ q.g 13)<|ν f):=by
 refine⟨⟨YB w q.g 13 _ 52 _ a.n_,jV a.dk λb d=>?_,jV a.wet λb d=>?_,a.cg,a.cd,a.cw,a.lo⟩,(Fc.refl c 7 w).setCell q.g 13 (.inr a.cg) _⟩
 .let⟨g,e⟩:=jU a.dk b d;exact Yp w (μ q.g 13) b _ (km e a.n_ dc)
 .let⟨g,e⟩:=jU a.wet b d;exact Yp w (μ q.g 13) b _ (km e a.n_ dc)
def pB(a:Nat->a_)(nd:Nat):(od a nd).length=nd:=by unfold od;rw[mn nS 1 λ_=>rfl];simp
def uK(b:Nat->a_)(nd a:Nat)(d:a<nd):(od b nd)[a]?=some (.string<|b a):=by unfold od;have:=kj nS 1 (λ_=>rfl) ((List.range nd).map b) a 0 (by simpa using d) om;rw[YS,YE]at this;rw[this];simp[nS]
def kw.OS(M:kw w B c q D s nd)(l:0<nd):∃a b,q.dv=.slice (some (μ a 0)) nd b/\a<w.heap.size/\c a=7/\(∀j,j<nd->w.cell? (μ a j)=some (.string<|s.dk j))/\(∀j,w.frozen? (μ a j)=false):=by
 rcases M.dk.2 with⟨_,e⟩|⟨g,b,m,d,n,f,i,o,t,r⟩
 .omega
 .refine⟨g,b,d,Yn f,M.cd g<|nY d,λj h=>?_,λj=>Y2 _ _ _ _ _ f⟩;have:=M.dk.cells (nY d) j _ (uK s.dk nd j h);refine J9 ?_;intro e;rwa[e]at this
def kw.Sj{d m b:Nat}{x:a_}(a:kw w B c q D s nd)(i:q.dv=.slice (some (μ d 0)) nd m)(z:b<nd):kw (w.setCell (μ d b)<|.string x) B c q D {s with dk:=λe=>if e=b then x else s.dk e} nd/\Fc c 7 w (w.setCell (μ d b)<|.string x):=by
 rcases a.dk.2 with⟨f,_⟩|⟨F,A,j,l,t,k,p,u,E,r⟩
 .rw[i]at f;simp at f
 .rw[i]at l;simp only[YN,Yz,ZP,ZV,aab]at l;obtain⟨rfl,rfl⟩:=l;have o:c d=7:=a.cd d (by rw[i];rfl);refine⟨⟨(Yp w (μ d b) q.g _ (λf=>km k a.n_ (by decide) f.symm)).trans a.n_,?_,jV a.wet λn v=>?_,a.cg,a.cd,a.cw,a.lo⟩,(Fc.refl c 7 w).setCell d b (.inr o) _⟩
  .refine⟨by rw[pB];omega,.inr ⟨d,m,j.setIfInBounds b<|.string x,i,t,YB w d b _ 9 _ k,p,u,by simp;omega,?_⟩⟩;apply abu;intro e;have g:(j.toList.take<|nd*1)[e]?=(od s.dk nd)[e]?:=by rw[r]
   rw[YS]at g⊢;by_cases h:e<nd
   .rw[ZC h,uK _ _ _ h];rw[ZC h,uK _ _ _ h]at g;show _=some (Value.string (if e=b then x else s.dk e));by_cases f:e=b
    .subst f;rw[Ys rfl];have:e<j.size:=by omega
     simp[this]
    .rw[Yo f];simp only[ZZ]at g⊢;rw[Ze λa=>f a.symm];exact g
   .rw[ZF (by simp;omega),ZF (by rw[pB];omega)]
  .let⟨C,y⟩:=jU a.wet n v;exact Yp w (μ d b) n _ (km y k<|by decide)
end
def L2{w:b_}{B j:Nat}{i:Option Addr}{a:List Sv}(l:w.ownsRow B 113 3 (.slice i a.length j) a.length<|a.flatMap ng)(q:Nat)(f:Sv)(k:a[q]?=some f):
 ∃b,i=some (μ b 0)/\b<w.heap.size/\w.cell? (μ b<|q*3)=some (ν f.2.1)/\w.cell? (μ b<|q*3+1)=some (.string f.2.2)/\w.cell? (μ b<|q*3+2)=some (ν f.1):=by
 let⟨e,g⟩:=Yr.1 k;let⟨p,n,h,d⟩:=i_ l;simp only[YN,aab]at h;obtain⟨rfl,rfl⟩:=h;obtain⟨b,rfl,m,d⟩:=d q e;have o:=(ym a).symm;refine⟨b,rfl,m,?_,?_,?_⟩
 .have:=kj ng 3 (λ_=>rfl) a q 0 e om;rw[d _ om,<-YE<|q*3,this,g];rfl
 .have:=kj ng 3 (λ_=>rfl) a q 1 e om;rw[d _ om,this,g];rfl
 .have:=kj ng 3 (λ_=>rfl) a q 2 e om;rw[d _ om,this,g];rfl
def yr{n i:Nat}(d:n<=i)(W b:List Sv)(A a:List Ac)(s:Ls):runL (n-i) W A s=runL (n-(i+1)) b a s:=by rw[show n-i=0 by omega,show n-(i+1)=0 by omega];simp[runL]
def Ix{n i:Nat}(b:i<n)(W:List Sv)(A:List Ac)(q:Int)(a:a_)(s:Ls):runL (n-i) W ((0,q,0,a)::A) s=runL (n-(i+1)) W A {s with wet:=s.wet++[(0,q,0,a)]}:=by rw[show n-i=(n-(i+1))+1 by omega,runL,Ys rfl]
def L3{n i:Nat}(a:i<n)(W:List Sv)(A:List Ac)(s:Ls):runL (n-i) W ((1,0,0,⟨#[]⟩)::A) s=runL (n-(i+1)) W A (tt s):=by rw[show n-i=(n-(i+1))+1 by omega,runL,Yo dc,Ys rfl]
def Do{n i:Nat}(d:i<n)(W:List Sv)(A:List Ac)(a:Sv)(s:Ls):runL (n-i) (a::W) (kS a::A) s=runL (n-(i+1)) W A {s with least:=max s.least a.1.toNat}:=by have b:(kS a).1=2:=rfl;rw[show n-i=(n-(i+1))+1 by omega,runL,Yo<|qx b,Yo<|qx b];rfl
def OT{b:Type}{a:List b}{i:Nat}{d:b}{e:List b}(f:a.drop i=d::e):a[i]?=some d/\a.drop (i+1)=e:=by
 refine⟨?_,?_⟩
 .have:=abl (xs:=a) (i:=i) (j:=0);rw[f,YE]at this;exact this.symm
 .rw[<-List.drop_drop,f];rfl
structure yt(w wr:b_)(B:Nat)(c:Nat->Nat)(q:me)(D:j4)(s:Ls)(nd n:Nat)(lv sv:f_)(C1 C2:Nat)(A:List Ac)(W:List Sv)(i k:Nat)(s1:Ls)(v:f_)(c1:Nat->Nat):Prop where
 rg:kw wr B c1 {q with wt:=v} D s1 nd
 il:i<=A.length
 kl:k<=W.length
 ck:pR nd (W.drop k)<|A.drop i
 rn:runL (n-i) (W.drop k) (A.drop i) s1=runL n W A s
 Ty:∀a∈s1.wet,∃(j:Nat) (x:a_),a=(0,(j:Int),0,x)/\j<nd/\x.size=64
 wl:s1.wet.length<=s.wet.length+i
 al:wr.ownsRow C1 77 4 lv A.length<|A.flatMap ku
 WS:wr.ownsRow C2 113 3 sv W.length<|W.flatMap ng
 ca:∀g,lv.ownBlock=some g->c1 g≠7
 cs:∀g,sv.ownBlock=some g->c1 g≠7
 ag:mD w c c1
 fc:Fc c 7 w wr
 ls:s1.least<=1000000000
section
variable {w wr w':b_}{B:Nat}{c:Nat->Nat}{q:me}{D:j4}{s:Ls}{nd n:Nat}{lv sv:f_}{C1 C2:Nat}{A:List Ac}{W:List Sv}{i k:Nat}{s1:Ls}{v:f_}{c1:Nat->Nat}
def yt.next(a:yt w wr B c q D s nd n lv sv C1 C2 A W i k s1 v c1){e:Ls}{l:f_}{g:Nat->Nat}{f:Nat}(h:Fc c1 7 wr w')(j:mD wr c1 g)(C:kw w' B g {q with wt:=l} D e nd)(t:i+1<=A.length)(u:f<=W.length)(p:pR nd (W.drop f)<|A.drop<|i+1)(z:runL (n-(i+1)) (W.drop f) (A.drop<|i+1) e=runL n W A s)(wt:∀r∈e.wet,∃(m:Nat) (o:a_),r=(0,(m:Int),0,o)/\m<nd/\o.size=64)(x:e.wet.length<=s.wet.length+(i+1))(y:e.least<=1000000000):
 yt w w' B c q D s nd n lv sv C1 C2 A W (i+1) f e l g:=
 ⟨C,t,u,p,z,wt,x,h.own a.al dc (λb d=>a.ca b d),h.own a.WS dc (λb d=>a.cs b d),λb d=>by rw[j b (a.al.lt b d).2];exact a.ca b d,λb d=>by rw[j b (a.WS.lt b d).2];exact a.cs b d,a.ag.trans j a.fc.size,a.fc.trans h a.ag,y⟩
end
theorem ui(w:b_)(B:Nat)(c:Nat->Nat)(q:me)(D:j4)(s:Ls)(nd n:Nat)(lv sv:f_)(C1 C2:Nat)(A:List Ac)(W:List Sv)(a8:kw w B c q D s nd)(aS:0<nd/\nd<=64)(aI:w.ownsRow C1 77 4 lv A.length<|A.flatMap ku)(aN:w.ownsRow C2 113 3 sv W.length<|W.flatMap ng)
 (bs:∀S,lv.ownBlock=some S->c S≠7) (aT:∀S,sv.ownBlock=some S->c S≠7) (bC:pR nd W A) (hA:A.length<=1000000) (cV:W.length<=1000000) (aH:s.wet=[]) (bh:s.least<=1000000000) (bo:∀h∈W,0<=h.1/\h.1<=1000000000):
 Calls prog 17 #[π q.g,lv,sv,ν n] w λM w'=>M=.returned (.bool true)/\∃v be,kw w' B be {q with wt:=v} D (runL n W A s) nd/\mD w c be/\Fc c 7 w w':=by
 obtain⟨bX,cq,cj,ce,bW⟩:=Y4 Tryz.po;have ca:Hid<|yt w w B c q D s nd n lv sv C1 C2 A W 0 0 s q.wt c:=⟨a8,YG _,YG _,bC,rfl,by rw[aH];simp,om,aI,aN,bs,aT,mD.refl _ _,Fc.refl _ _ _,bh⟩;obtain⟨cf,bT,rfl,_⟩:=i_ aI;obtain⟨ch,ck,rfl,_⟩:=i_ aN;have bL:=h_ bo;have bN:=h_ aH;clear a8 aI aN bs aT bC bo bh aH
 go_enter func17,ntmps17
 go_wp2_with fail
 go_loopw [10,9,11,12,25,64,115] (λaB T _ _ _ _ _ wr=>∃(i k:Nat) (s1:Ls) (v:f_) (c1:Nat->Nat),aB=ν i/\T=ν k/\yt w wr B c q D s nd n (.slice cf A.length bT) (.slice ch W.length ck) C1 C2 A W i k s1 v c1) (λaB _ _ _ _ _ _ _=>A.length-(intOf aB).toNat)
 case atStart=>exact⟨0,0,s,q.wt,c,rfl,rfl,ca.o⟩
 case round=>
  obtain⟨i,k,s1,v,c1,rfl,rfl,p⟩:=hrel;by_cases aK:i<A.length
  .obtain⟨y,a6⟩:∃y,A[i]?=some y:=⟨_,Yw aK⟩;have bz:A.drop i=y::A.drop (i+1):=by rw[abp aK,(Yr.1 a6).2]
   obtain⟨ai,rfl,cu,ao,ar,aj,af⟩:=BC p.al i y a6;have O:=p.ck;have m:=p.rn;rw[bz]at O m;obtain⟨bw,g⟩:=j5<|W.drop k;rw[<-g]at O m;have ad:=p.rg;obtain⟨_,_,ac,am,ak,rf,cG⟩:=ad.cells;obtain⟨cP,cv,bY,cS,cy,ae,al⟩:=ad.OS aS.1;rw[bY]at ac;have ci:=h_<|i_ ad.wet;have E:=h_ ad;have a:=h_ p;have j:Hid<|i+1<=A.length:=aK;have cd:=p.wl;rw[bN.o,YI]at cd;have o:Hid<|wrap64 ((i:Int)+1)=((i+1:Nat):Int):=by show _=_;simp only[wrap64];omega
   clear p ad bz
   cases O with
   |write d h aW bH P=>
    obtain⟨Q,f⟩:=j5<|wr.alloc<|.cells #[.int .u8 0,ν d,ν 0,.string h] 77;have C:=ba f;have cl:decide ((d:Int)<0)=false:=si;have a7:decide (nd<=d)=false:=so;have F:=h_ C;have I:=h_ P;have J:=h_ m;have bV:=h_ bH;clear P m C;by_cases z:i<n
    .have ab:(i:Int)<(n:Int):=om;have x:=h_ z;clear z
     go_wp2_with fail
     go_quiet (fail)
     go_upto_region 12 with fail
     rw[<-f];have bF:Q.heap.size=wr.heap.size+1:=by rw[f];simp
     have aU:=v' f;obtain⟨b,u⟩:=j5<|Q.drewN nq;have r:Below wr.heap.size wr b:=by rw[u];exact YL F.o nq
     have bc:b.heap.size=wr.heap.size+1:=by rw[u];exact bF
     have Z:b.heap[wr.heap.size]?=some (.cells #[.int .u8 0,ν d,ν 0,.string h] 77):=by rw[u];exact aU
     rw[<-u];have t:kw b B (kU wr c1 9) {q with wt:=v} D s1 nd:=E.o.frame (k:=9) (Fc.jX r) (jW wr c1 9) om;obtain⟨_,_,_,bk,_,bm,aA⟩:=t.cells;have cF:b.cell? (μ q.g 12)=some v:=bk;obtain⟨cI,cB,cD,cJ⟩:b.cell? (μ wr.heap.size 0)=some (.int .u8 0)/\b.cell? (μ wr.heap.size 1)=some (ν d)/\b.cell? (μ wr.heap.size 2)=some (ν 0)/\b.cell? (μ wr.heap.size 3)=some (.string h):=⟨(Yu _ _ _ _ _ _ Z).trans rfl,(Yu _ _ _ _ _ _ Z).trans rfl,(Yu _ _ _ _ _ _ Z).trans rfl,(Yu _ _ _ _ _ _ Z).trans rfl⟩;have ap:=h_ t;have K:=h_ r;have bE:Hid<|b.ownsRow B 77 4 v s1.wet.length<|s1.wet.flatMap ku:=t.wet;have bD:Hid<|b.heap[q.g]?=some (.cells (Dm {q with wt:=v} D s1.least) 52):=t.n_;have bO:v.ownBlock≠some q.g:=λM=>by obtain⟨cw,b1⟩:=jU bE.o _ M;exact km b1 bD.o dc rfl
     have cA:B<=b.heap.size:=by have:=E.o.lo;have:B<=q.g:=this;omega
     have bK:q.g<b.heap.size:=aA;have b9:=h_ bc;clear t r aU Z bk f u ac am ak rf ae al ao ar aj af bc bF
     go_region_law (first
      |(refine na rfl (.tmp 58) (.tmp 60) 31 rfl B 77 bX _ 4 40 underlying31 cq cj ce bW rfl dc v s1.wet.length (s1.wet.flatMap ku) rfl ((jV bE.o λS _=>rfl).alloc _) (μ b.heap.size 0) 1 1 [_,_,_,_] rfl rfl (lR _ _ _ _ _ _) (by intro cT bb;simp at bb;rcases bb with rfl|rfl|rfl|rfl<;>rfl) ml om so ?_;intro cH aL aM aP bd;obtain⟨bZ,b8,rfl,_⟩:=i_ aM;have ay:=(aP.block q.g so (λM=>bO M.symm)).trans ((YQ _ _ (by exact bK)).trans bD.o);have bG:aL.cell? (μ q.g 12)=some v:=cr ay;have f6:∀d,aL.frozen? (μ q.g d)=false:=λd=>Y2 _ _ _ _ _ ay))
     all_goals
      have bp:Below b.heap.size b (b.alloc<|.cells #[.int .u8 0,ν d,ν 0,.string h] 77).drew:=(jT br _).drew;obtain⟨a5,a9⟩:=ap.o.Tx (a:=(0,(d:Int),0,h)) bp aM aP bd;have b4:=h_ a5;have cg:Hid<|Fc c1 7 wr (aL.setCell (μ q.g 12)<|.slice bZ (s1.wet.length+1) b8):=(Fc.jX K.o).trans a9<|jW wr c1 9;clear a5 a9 bp aM aP bd ay bG f6;go_wp2
      go_roundw
      case rel=>
       refine⟨i+1,k,_,_,_,by first|rw[o.o]|rfl,rfl,a.o.next cg.o ((jW wr c1 9).trans (jW b _ 7)<|li b9.o) b4.o j.o a.o.kl ?_ ?_ (λy N=>?_) ?_ a.o.ls⟩
       .rw[<-g];exact I.o
       .rw[<-g,<-J.o,Ix x.o]
       .rcases ZU.1 N with aQ|aQ
        .exact a.o.Ty y aQ
        .exact⟨d,h,Y'.1 aQ,aW,bV.o⟩
       .have:=a.o.wl;rw[Yv,Zn];omega
      case measure=>have:=j.o;first|(rw[o.o];simp only[intOf];omega)|(simp only[intOf];omega)
    .have ab:(n:Int)<=(i:Int):=om;have x:Hid<|n<=i:=by show n<=i;omega
     clear z
     go_wp2_with fail
     go_quiet (fail)
     rw[<-f];have K:=h_<|YL F.o nq;clear f;go_wp2
     go_roundw
     case rel=>
      refine⟨i+1,k,s1,v,kU wr c1 9,by first|rw[o.o]|rfl,rfl,a.o.next (Fc.jX K.o) (jW wr c1 9) (E.o.frame (k:=9) (Fc.jX K.o) (jW wr c1 9) om) j.o a.o.kl ?_ ?_ a.o.Ty (li a.o.wl) a.o.ls⟩
      .rw[<-g];exact I.o
      .rw[<-g,<-J.o];exact(yr x.o _ _ _ _ _).symm
     case measure=>have:=j.o;first|(rw[o.o];simp only[intOf];omega)|(simp only[intOf];omega)
   |sync P=>
    obtain⟨Q,f⟩:=j5<|wr.alloc<|.cells #[.int .u8 1,ν 0,ν 0,.string ⟨#[]⟩] 77;have C:=ba f;have F:=h_ C;have I:=h_ P;have J:=h_ m;clear P m;by_cases z:i<n
    .have ab:(i:Int)<(n:Int):=om;have x:=h_ z;clear z;have aX:kw Q B (kU wr c1 9) {q with wt:=v} D s1 nd:=E.o.frame (k:=9) (Fc.jX C) (jW wr c1 9) om;have bJ:=h_ aX;clear aX C;obtain⟨an,Y,bf,_⟩:=ci.o;have cb:v=.slice an s1.wet.length Y:=bf;subst cb;clear bf
     go_wp2_with fail
     rw[<-f];clear f ac am ak rf ae al ao ar aj af
     go_loopw [12] (λT a3=>∃(d:Nat),T=ν d/\d<=s1.wet.length/\kw a3 B (kU wr c1 9) {q with wt:=.slice an s1.wet.length Y} D {s1 with dk:=(s1.wet.take d).foldl pQ s1.dk} nd/\Fc c1 7 wr a3) (λT _=>s1.wet.length-(intOf T).toNat)
     case atStart=>exact⟨0,rfl,YG _,bJ.o,Fc.jX F.o⟩
     case round=>
      obtain⟨d,rfl,aW,L,aq⟩:=hrel;by_cases bv:d<s1.wet.length
      .obtain⟨y,N⟩:∃y,s1.wet[d]?=some y:=⟨_,Yw bv⟩;obtain⟨aD,h,rfl,a',b7⟩:=a.o.Ty y<|ZQ N;obtain⟨_,_,b6,aa,_,bQ,bM⟩:=L.cells;obtain⟨cx,cs,bt,cE,_,aV,ct⟩:=L.OS aS.1;rw[bt]at b6;obtain⟨bP,rfl,cQ,cO,cK,cz,cM⟩:=BC (l:=s1.wet) (show wr.ownsRow B 77 4 (.slice an s1.wet.length Y) s1.wet.length (s1.wet.flatMap ku)from L.wet) d _ N;have b':wr.cell? (μ q.g 12)=some (ω bP s1.wet.length Y):=aa;have cN:(aD:Int)<(nd:Int):=om;have cU:=aV aD a';obtain⟨V,X⟩:=L.Sj (x:=h) bt a';have aJ:=h_ V;have az:=h_<|aq.trans (X.trans (Fc.jX br.drew)<|mD.refl _ _)<|jW _ c1 9;have bI:Hid ((s1.wet.take<|d+1).foldl pQ s1.dk=λi=>if i=aD then h else((s1.wet.take d).foldl pQ s1.dk) i):=by show _=_;rw[m9 _ _ _ N,aay];rfl
       have aR:Hid<|wrap64 ((d:Int)+1)=((d+1:Nat):Int):=by show _=_;simp only[wrap64];omega
       have bj:Hid<|d+1<=s1.wet.length:=bv;clear L aq V X N b7 aa aV
       go_wp2_with fail
       go_region
       go_wp2
       go_roundw
       case rel=>refine⟨d+1,by first|rw[aR.o]|rfl,bj.o,?_,az.o⟩;rw[bI.o];exact aJ.o.frame (k:=9) (Fc.jX br.drew) (mD.refl _ _) om
       case measure=>have:=bj.o;first|(rw[aR.o];simp only[intOf];omega)|(simp only[intOf];omega)
      .obtain rfl:d=s1.wet.length:=om;rw[aal]at L;obtain⟨_,_,_,aa,_,bQ,bM⟩:=L.cells;have b':wr.cell? (μ q.g 12)=some (.slice an s1.wet.length Y):=aa;obtain⟨V,X⟩:=L.L1;have aJ:=h_ V;have az:=h_<|aq.trans X<|jW _ c1 9;clear L aq V X aa;go_wp2
       go_roundw
       case rel=>
        refine⟨i+1,k,tt s1,σ,_,by first|rw[o.o]|rfl,rfl,a.o.next az.o (jW _ c1 9) aJ.o j.o a.o.kl ?_ ?_ (λy N=>by simp[tt]at N) (by simp[tt]) a.o.ls⟩
        .rw[<-g];exact I.o
        .rw[<-g,<-J.o,L3 x.o]
       case measure=>have:=j.o;first|(rw[o.o];simp only[intOf];omega)|(simp only[intOf];omega)
    .have ab:(n:Int)<=(i:Int):=om;have x:Hid<|n<=i:=by show n<=i;omega
     clear z C
     go_wp2_with fail
     rw[<-f];clear f
     go_roundw
     case rel=>
      refine⟨i+1,k,s1,v,kU wr c1 9,by first|rw[o.o]|rfl,rfl,a.o.next (Fc.jX F.o) (jW wr c1 9) (E.o.frame (k:=9) (Fc.jX F.o) (jW wr c1 9) om) j.o a.o.kl ?_ ?_ a.o.Ty (li a.o.wl) a.o.ls⟩
      .rw[<-g];exact I.o
      .rw[<-g,<-J.o];exact(yr x.o _ _ _ _ _).symm
     case measure=>have:=j.o;first|(rw[o.o];simp only[intOf];omega)|(simp only[intOf];omega)
   | @send cL _ h P=>
    obtain⟨ah,bB⟩:=OT g.symm;obtain⟨bS,_⟩:=Yr.1 ah;obtain⟨aG,au,aC⟩:=h;obtain⟨bn,bx⟩:=bL.o _ (ZQ ah);obtain⟨e,rfl⟩:∃e:Nat,aG=(e:Int):=⟨aG.toNat,by have:0<=aG:=bn;omega⟩;have bU:e<=1000000000:=by have:(e:Int)<=1000000000:=bx;omega
    have a0:=a.o.WS;obtain⟨ax,rfl,bg,b0,a1,bq⟩:=L2 a0 k _ ah;obtain⟨Q,f⟩:=j5<|wr.alloc<|.cells #[.int .u8 2,ν 0,ν au,.string aC] 77;have C:=ba f;have F:=h_ C;have I:=h_ P;have J:=h_ m;have R:=h_ bB;have aO:Hid<|k+1<=W.length:=bS;have cl:decide (W.length<=k)=false:=so;have cR:(k:Int)<(W.length:Int):=om;have aw:Hid<|wrap64 ((k:Int)+1)=((k+1:Nat):Int):=by show _=_;simp only[wrap64];omega
    have bi:wr.cell? (μ ai<|i*4)=some (.int .u8 2):=ao;have bl:wr.cell? (μ ai<|i*4+1)=some (ν 0):=ar;have bA:wr.cell? (μ ai<|i*4+2)=some (ν au):=aj;have a4:wr.cell? (μ ai<|i*4+3)=some (.string aC):=af;have aZ:wr.cell? (μ ax<|k*3)=some (ν au):=b0;have bu:wr.cell? (μ ax<|k*3+1)=some (.string aC):=a1;have ag:wr.cell? (μ ax<|k*3+2)=some (ν e):=bq;clear P m C a0 ah bB g bn bx ao ar aj af b0 a1 bq;by_cases z:i<n
    .have ab:(i:Int)<(n:Int):=om;have a7:decide (i<n)=true:=so;have x:=h_ z;clear z
     go_wp2_with fail
     go_quiet (fail)
     rw[<-f];obtain⟨b,u⟩:=j5<|Q.drewN nq;have r:Below wr.heap.size wr b:=by rw[u];exact YL F.o nq
     rw[<-u];have t:kw b B (kU wr c1 9) {q with wt:=v} D s1 nd:=E.o.frame (k:=9) (Fc.jX r) (jW wr c1 9) om;obtain⟨_,_,_,_,b2,bm,aA⟩:=t.cells;have cc:=((ke r).1 _ _ bg).trans ag;have ap:=h_ t;have K:=h_ r;clear t r f u ac am ak rf ae al bi bl bA a4 aZ bu ag;by_cases aF:s1.least<e
     .have cn:decide (s1.least<e)=true:=so;have cp:decide ((s1.least:Int)<(e:Int))=true:=so;have av:=h_ aF;clear aF
      go_wp2_with fail
      go_quiet (fail)
      have aE:=(ap.o.frame (k:=9) (Fc.jX<|YL (Below.refl b.heap.size b) nq) (mD.refl _ _) om).Dn e;have cm:=h_ aE.1;have b5:=h_<|((Fc.jX K.o).trans (Fc.jX<|YL (Below.refl b.heap.size b) nq)<|jW wr c1 9).trans aE.2<|jW wr c1 9;clear aE;go_wp2
      go_roundw
      case rel=>
       refine⟨i+1,k+1,_,_,_,by first|rw[o.o]|rfl,by first|rw[aw.o]|rfl,a.o.next b5.o (jW wr c1 9) cm.o j.o aO.o ?_ ?_ a.o.Ty (by have:=a.o.wl;show s1.wet.length<=_;omega) bU⟩
       .rw[R.o];exact I.o
       .rw[R.o,<-J.o,Do x.o];have M:max s1.least ((e:Int)).toNat=e:=by have:=av.o;show max s1.least e=e;omega
        rw[M]
      case measure=>have:=j.o;first|(rw[o.o];simp only[intOf];omega)|(simp only[intOf];omega)
     .have cn:decide (s1.least<e)=false:=so;have cp:decide ((s1.least:Int)<(e:Int))=false:=so;have av:Hid<|e<=s1.least:=by show e<=s1.least;omega
      clear aF
      go_wp2_with fail
      go_quiet (fail)
      have U:=h_<|YL K.o nq;go_wp2
      go_roundw
      case rel=>
       refine⟨i+1,k+1,s1,v,_,by first|rw[o.o]|rfl,by first|rw[aw.o]|rfl,a.o.next (Fc.jX U.o) (jW wr c1 9) (E.o.frame (k:=9) (Fc.jX U.o) (jW wr c1 9) om) j.o aO.o ?_ ?_ a.o.Ty (li a.o.wl) a.o.ls⟩
       .rw[R.o];exact I.o
       .rw[R.o,<-J.o,Do x.o];have M:max s1.least ((e:Int)).toNat=s1.least:=by have:=av.o;show max s1.least e=s1.least;omega
        rw[M]
      case measure=>have:=j.o;first|(rw[o.o];simp only[intOf];omega)|(simp only[intOf];omega)
    .have ab:(n:Int)<=(i:Int):=om;have a7:decide (i<n)=false:=so;have cC:decide ((i:Int)<(n:Int))=false:=so;have x:Hid<|n<=i:=by show n<=i;omega
     clear z
     go_wp2_with fail
     go_quiet (fail)
     rw[<-f];obtain⟨b,u⟩:=j5<|Q.drewN nq;have r:Below wr.heap.size wr b:=by rw[u];exact YL F.o nq
     rw[<-u];have t:kw b B (kU wr c1 9) {q with wt:=v} D s1 nd:=E.o.frame (k:=9) (Fc.jX r) (jW wr c1 9) om;obtain⟨_,_,_,_,b2,bm,aA⟩:=t.cells;have cc:=((ke r).1 _ _ bg).trans ag;have ap:=h_ t;have K:=h_ r;clear t r f u ac am ak rf ae al bi bl bA a4 aZ bu ag
     go_wp2_with fail
     go_quiet (fail)
     have U:=h_<|YL K.o nq;go_wp2
     go_roundw
     case rel=>
      refine⟨i+1,k+1,s1,v,_,by first|rw[o.o]|rfl,by first|rw[aw.o]|rfl,a.o.next (Fc.jX U.o) (jW wr c1 9) (E.o.frame (k:=9) (Fc.jX U.o) (jW wr c1 9) om) j.o aO.o ?_ ?_ a.o.Ty (li a.o.wl) a.o.ls⟩
      .rw[R.o];exact I.o
      .rw[R.o,<-J.o];exact(yr x.o _ _ _ _ _).symm
     case measure=>have:=j.o;first|(rw[o.o];simp only[intOf];omega)|(simp only[intOf];omega)
  .obtain rfl:i=A.length:=li p.il;have O:=p.ck;have m:=p.rn;rw[List.drop_length]at O m;obtain⟨bw,g⟩:=j5<|W.drop k;rw[<-g]at O m;have a2:bw=[]:=by cases O;rfl
   rw[a2]at g m;have b3:k=W.length:=by have:=ZD List.length g;have:=p.kl;simp at*;omega
   have aY:runL n W A s=s1:=by rw[<-m];cases (n-A.length)<;>rfl
   have bR:=h_ aY;have a:=h_ p;clear p O m g a2 aY;subst b3;go_wp2;go_ret;exact⟨rfl,v,c1,by rw[bR.o];exact a.o.rg,a.o.ag,a.o.fc⟩
structure nE where
 (kind on a b c cut bits Dp mw again:Int)
 s:a_
 (g0 g1 g2 g3 g4 g5 g6 g7 g8:f_)
def k9(a:nE):Array f_:=#[ν a.kind,ν a.on,ν a.a,ν a.b,ν a.c,.string a.s,a.g0,a.g1,a.g2,a.g3,a.g4,a.g5,a.g6,a.g7,a.g8,ν a.cut,ν a.bits,ν a.Dp,ν a.mw,ν a.again]
def mq(a:Int):Prop:= -9223372036854775808<=a/\a<=9223372036854775807
structure yu(o:nE):Prop where
 cut:mq o.cut
 bits:mq o.bits
 Dp:mq o.Dp
 mw:mq o.mw
 again:mq o.again
def uJ.skip{d c:Nat->a_}{e:List Ac}{b:Nat}(i:uJ d (e.take b) c):uJ d (e.take<|b+1) c:=λh=>by
 rcases i h with a|⟨f,g,a⟩
 .exact .inl a
 .exact .inr ⟨f,(List.take_subset_take_left _ om) g,a⟩
def uJ.put{f b:Nat->a_}{w j c d:Nat}{h:List Ac}{g:a_}(o:uJ f (h.take j) b)(s:sk w h)(k:h[j]?=some (0,(c:Int),0,g))(x:d<=64):uJ f (h.take<|j+1) (λa=>if a=c then nk g (b c) d else b a):=λa=>by
 by_cases e:a=c
 .subst e;right;have z:=(Yr.1 k).1
  have t:b a=f a:=by
   rcases o a with y|⟨A,v,u,_⟩
   .exact y
   .obtain⟨n,i⟩:=List.getElem?_of_mem v;have q:n<j:=by have:=(Yr.1 i).1;simp at this;omega
    rw[ZC q]at i;have m:=Yr.1 i;have r:=Yr.1 k;have:=aaQ.1 s.one n j m.1 r.1 q;rw[m.2,r.2]at this;exact absurd u this
  refine⟨(0,(a:Int),0,g),?_,rfl,d,x,by show(if a=a then nk g (b a) d else b a)=nk g (f a) d;rw[Ys rfl,t]⟩;rw[m9 _ _ _ k];simp
 .show(if a=c then nk g (b c) d else b a)=f a\/∃l∈h.take (j+1),l.2.1.toNat=a/\∃p,p<=64/\(if a=c then nk g (b c) d else b a)=nk l.2.2.2 (f a) p;rw[Yo e];exact o.skip a
def yv(w:b_)(n:Nat)(g:Nat->Nat)(q:me)(o:j4)(b:Ls)(e:Nat)(a:nE)(M:kw w n g q o b e)(aO:0<e/\e<=64)(ak:sk e b.wet)(ab:∀j,j<e->(b.dk j).size=64)(bl:b.wet.length<=1000000)(aq:yu a):
 Calls prog 41 #[π q.g,.agg<|k9 a] w λa3 an=>a3=.returned (.tuple #[])/\∃c ai,uJ b.dk b.wet c/\(∀j,j<e->(c j).size=64)/\kw an n ai {q with wt:=σ} o {dk:=c,wet:=[],least:=b.least} e/\mD w g ai/\Fc g 7 w an:=by
 obtain⟨X,ae⟩:=j5<|w.alloc<|.cells (k9 a) 42;have V:=ba ae;refine HD ?_;intro bH;have A:=v' ae;have aA:X.cell? (μ w.heap.size 16)=some (ν a.bits):=(Yu _ _ _ _ _ _ A).trans rfl;have aI:X.cell? (μ w.heap.size 17)=some (ν a.Dp):=(Yu _ _ _ _ _ _ A).trans rfl;have a9:X.cell? (μ w.heap.size 18)=some (ν a.mw):=(Yu _ _ _ _ _ _ A).trans rfl;have K:kw X n (kU w g 9) q o b e:=M.frame (k:=9) (Fc.jX V) (jW w g 9) om;obtain⟨_,_,_,ar,_,rf,aQ⟩:=K.cells;obtain⟨a5,bb,R,_⟩:=i_ K.wet;rw[R]at ar;have aT:=h_ ae;have aS:=h_ A;have a0:=h_ V;have a2:=h_ K;have ap:=h_ R;have ah:=h_ ak;have aZ:=h_ ab;obtain⟨ac,ag⟩:=(⟨aq.Dp,aq.mw⟩:mq a.Dp/\mq a.mw);unfold mq at ac ag;clear V A K R ak ab M;unfold k9
 go_enter func41,ntmps41
 go_upto_region 1 with fail
 have aj:w.alloc (.cells #[ν a.kind,ν a.on,ν a.a,ν a.b,ν a.c,.string a.s,a.g0,a.g1,a.g2,a.g3,a.g4,a.g5,a.g6,a.g7,a.g8,ν a.cut,ν a.bits,ν a.Dp,ν a.mw,ν a.again] 42)=X:=aT.o.symm;rw[aj];clear aj ae
 go_upto_if 14 with fail
 go_cut [4,5]from 9 to 29 (λx aE W=>(∃I:Int,x=ν I)/\W=X)
 case first=>
  have bw:¬IntKind.i64.wrap ((b.wet.length:Int)+1)=0:=wo;have bm:¬((b.wet.length:Int)+1)=0:=om;by_cases bC:0<b.wet.length
  .by_cases bd:a.Dp<0
   .go_wp2
    go_meet
    exact⟨⟨_,rfl⟩,rfl⟩
   .go_wp2
    go_meet
    exact⟨⟨_,rfl⟩,rfl⟩
  .go_wp2
   go_meet
   exact⟨⟨_,rfl⟩,rfl⟩
 case rest=>
  obtain⟨⟨I,rfl⟩,rfl⟩:=hcut
  go_upto_if 33 with fail
  go_cut [6]from 32 to 38 (λaE W=>(∃t:Int,aE=ν t/\0<=t/\t<=9223372036854775807)/\W=wc)
  case first=>
   by_cases bf:a.mw<0
   .go_wp2
    go_meet
    refine⟨⟨_,rfl,?_⟩,rfl⟩
    first|(simp only[wrap64];omega)|omega
   .go_wp2
    go_meet
    exact⟨⟨_,rfl,om,om⟩,rfl⟩
  case rest=>
   obtain⟨⟨t,rfl,aJ,a1⟩,a4⟩:=hcut;subst a4
   go_wp2_with fail
   obtain⟨i,am⟩:∃i:Nat,t%65=(i:Int):=⟨(t%65).toNat,om⟩;have a8:i<=64:=om;rw[am];have aM:=h_ a8;clear am aJ a1 aI a9 ac ag;have a6:Hid (∃(j:Nat) (c:Nat->a_) (d:Nat->Nat),ν 0=ν j/\j<=b.wet.length/\uJ b.dk (b.wet.take j) c/\(∀h,h<e->(c h).size=64)/\kw wc n d q o {b with dk:=c} e/\Fc g 7 w wc/\mD w g d/\wc.heap[w.heap.size]?=some (.cells (k9 a) 42)/\d w.heap.size=9):=⟨0,b.dk,kU w g 9,rfl,YG _,λh=>.inl rfl,aZ.o,a2.o,Fc.jX a0.o,jW w g 9,aS.o,kB w g 9 _ kM⟩;clear ar rf aQ aA
   go_loopw [7,8] (λZ _ wr=>∃(j:Nat) (c:Nat->a_) (d:Nat->Nat),Z=ν j/\j<=b.wet.length/\uJ b.dk (b.wet.take j) c/\(∀h,h<e->(c h).size=64)/\kw wr n d q o {b with dk:=c} e/\Fc g 7 w wr/\mD w g d/\wr.heap[w.heap.size]?=some (.cells (k9 a) 42)/\d w.heap.size=9) (λZ _ _=>b.wet.length-(intOf Z).toNat)
   case atStart=>exact a6.o
   case round=>
    obtain⟨j,c,d,rfl,bj,s,E,m,B,v,r,y⟩:=hrel;obtain⟨_,_,aN,aR,_,bE,bz⟩:=m.cells;rw[ap.o]at aR;have aV:=h_ s;have au:=h_ E;have bD:=h_ m;have ay:=h_ B;have T:=h_ v;have aw:Hid<|wr.heap[w.heap.size]?=some (.cells (k9 a) 42)/\d w.heap.size=9:=⟨r,y⟩;by_cases Q:j<b.wet.length
    .obtain⟨aa,F⟩:∃aa,b.wet[j]?=some aa:=⟨_,Yw Q⟩;obtain⟨f,l,rfl,C,aD⟩:=ah.o.all aa<|ZQ F;obtain⟨S,bs,N,bx,aY,ao,bk⟩:=m.OS aO.1;rw[N]at aN;have ax:wr.ownsRow n 77 4 (.slice a5 b.wet.length bb) b.wet.length<|b.wet.flatMap ku:=by have:=m.wet;rw[ap.o]at this;exact this
     obtain⟨bo,rfl,bn,bq,bp,bu,bF⟩:=BC ax j _ F;have aA:wr.cell? (μ w.heap.size 16)=some (ν a.bits):=(Yu _ _ _ _ _ _ r).trans rfl;have av:=Yn r;have bv:(f:Int)<(e:Int):=om;have bc:wr.cell? (μ S f)=some (.string<|c f):=ao f C;have af:=E f C;obtain⟨aP,z⟩:=j5<|wr.alloc<|.cells #[.int .u8 0,ν f,ν 0,.string l] 77;have P:=ba z;have ad:kw aP n (kU wr d 9) q o {b with dk:=c} e:=m.frame (k:=9) (Fc.jX P) (jW wr d 9) om;have aH:=h_ ad;have al:=h_ P;have bh:=h_ N;have be:=h_ F;have a':=h_ aD;have aK:=h_ af;have bt:=h_ C;have J:Hid<|j+1<=b.wet.length:=Q;refine Gy ?_;intro cz;have bi:=h_ aY
     have aC:Hid (∀(u:b_) (D:a_) (x:Nat),x<=64->D=nk l (c f) x->Below (wr.setCell (μ S f)<|.string D).heap.size (wr.setCell (μ S f)<|.string D) u->∃(Y:Nat) (f2:Nat->a_) (U:Nat->Nat),ν ((j+1:Nat):Int)=ν Y/\Y<=b.wet.length/\uJ b.dk (b.wet.take Y) f2/\(∀h,h<e->(f2 h).size=64)/\kw u n U q o {b with dk:=f2} e/\Fc g 7 w u/\mD w g U/\u.heap[w.heap.size]?=some (.cells (k9 a) 42)/\U w.heap.size=9):=λu D x aB aU aG=>by
      obtain⟨L,O⟩:=m.Sj (x:=D) N C;have aF:Fc d 7 wr u:=O.kt aG;refine⟨j+1,_,d,rfl,Q,s.put ah.o F aB,λh a7=>?_,?_,B.trans aF v,v,(aF.keep _ _ _ r (.inl dc) (p1 y)).trans r,y⟩
      .show(if h=f then nk l (c f) x else c h).size=64;split
       .exact Fv aD af aB
       .exact E h a7
      .have:=L.frame (k:=9) (Fc.jX aG) (mD.refl _ _) om;rw[aU]at this;exact this
     clear s E m B v r y P ad F ax N ao C;by_cases az:(j:Int)=I
     .subst az;have bB:(i:Int)<=64:=om;have bA:¬9223372036854775807<(l.extract 0 i).size+((c f).extract i 64).size:=by rw[YM,YM];omega
      go_wp2_with fail
      go_region
      clear z;go_wp2
      go_roundw
      case rel=>
       have:=aC.o _ _ i aM.o (show l.extract 0 i++(c f).extract i 64=nk l (c f) i from rfl) (jT br (.cells #[.int .u8 0,ν f,ν 0,.string l] 77)).drew
       first|exact this|(rw[cz.o];exact this)
      case measure=>have:=J.o;first|(rw[cz.o];simp only[intOf];omega)|(simp only[intOf];omega)
     .have bg:((j:Int)==I)=false:=by simpa using az
      go_wp2_with fail
      .go_region
       clear z;go_wp2
       go_roundw
       case rel=>
        have:=aC.o _ _ 64 kM (tW a'.o aK.o).symm (jT br (.cells #[.int .u8 0,ν f,ν 0,.string l] 77)).drew
        first|exact this|(rw[cz.o];exact this)
       case measure=>have:=J.o;first|(rw[cz.o];simp only[intOf];omega)|(simp only[intOf];omega)
      .rw[<-z];clear z
       go_roundw
       case rel=>refine⟨j+1,c,kU wr d 9,by first|rw[cz.o]|rfl,J.o,aV.o.skip,au.o,aH.o,ay.o.trans (Fc.jX al.o) T.o,T.o.trans (jW wr d 9) ay.o.size,(al.o.block _ av).trans aw.o.1,by rw[jW wr d 9 _ av];exact aw.o.2⟩
       case measure=>have:=J.o;first|(rw[cz.o];simp only[intOf];omega)|(simp only[intOf];omega)
    .obtain rfl:j=b.wet.length:=om;rw[aal]at s;obtain⟨L,O⟩:=m.L1;have aX:=h_ L;have aW:=h_<|B.trans O v;have aL:=h_ s;clear s E m B v r y L O;go_wp2
     go_end0
     exact⟨rfl,c,aL.o,au.o,d,aX.o,T.o,aW.o⟩
def rp(g:Nat->a_)(sec c h:Nat)(f:Ac):f∈mH g sec c h sec↔∃a,a<sec/\Pl.j2 (g<|c*sec+a) 63=h/\f=(0,((c*sec+a:Nat):Int),0,nb 0 ⟨#[]⟩):=by
 unfold mH;rw[aaW];refine⟨λ⟨a,e,b⟩=>?_,λ⟨a,e,j,b⟩=>⟨a,?_,b.symm⟩⟩
 .let⟨i,k⟩:=List.mem_filter.1 e;exact⟨a,aad.1 i,by simpa using k,b.symm⟩
 .exact List.mem_filter.2 ⟨aad.2 e,by simpa using j⟩
def yx(e:Nat->a_)(sec b f:Nat):(mH e sec b f sec).Pairwise (λa c=>a.2.1.toNat≠c.2.1.toNat):=by unfold mH;rw[List.pairwise_map];refine(List.nodup_range.filter _).imp ?_;intro a c g;show(((b*sec+a:Nat):Int)).toNat≠(((b*sec+c:Nat):Int)).toNat;omega
def L6(b:Nat->a_)(sec a c:Nat)(e:a<=1):(rdS b sec a c 2).2.2=mH b sec (1-a) (c%3+1) sec++mH b sec a ((c%3+1)%3+1) sec:=by show([]++mH b sec ((a+1)%2) (c%3+1) sec)++mH b sec (((a+1)%2+1)%2) ((c%3+1)%3+1) sec=_;rw[YT,show(a+1)%2=1-a by omega,show(1-a+1)%2=a by omega]
def Iy{f:Nat->a_}{c sec a:Nat}(b:kV f c sec=a)(h:a≠0):∀e,e<sec->se (f<|c+e) a:=by
 unfold kV at b;split at b
 .rename_i g;subst b;exact g.1
 .omega
def Calm.ready{z ak nd aq b:Nat}{d:a_}{s:Ls}(hc:Calm z ak nd aq b d s)(T:1<=ak)(W:2*ak<=nd):
 pR nd [] (kN s.dk ak aq b)/\(∀n,n<=(kN s.dk ak aq b).length->∀o M left,GZ o M left s.least d->l0 z ak nd o M left (runL n [] (kN s.dk ak aq b) s))/\
 (runL (kN s.dk ak aq b).length [] (kN s.dk ak aq b) s).least=s.least/\Calm z ak nd aq b d (runL (kN s.dk ak aq b).length [] (kN s.dk ak aq b) s)/\Si ak (runL (kN s.dk ak aq b).length [] (kN s.dk ak aq b) s).dk aq b:=by
 obtain⟨X,ae,O,_,_,_⟩:=hc.dk.sg;let⟨az,L⟩:=j5<|(rdS s.dk ak aq b 2).2.2;have hA:kN s.dk ak aq b=if az=[]then []else az++[(1,0,0,⟨#[]⟩)]:=nY L;have E:=L.trans<|L6 s.dk ak aq b X;refine Qq ?_;intro fX;have g:∀a,a∈az↔(∃i,i<ak/\Pl.j2 (s.dk<|(1-aq)*ak+i) 63=b%3+1/\a=(0,(((1-aq)*ak+i:Nat):Int),0,nb 0 ⟨#[]⟩))\/(∃i,i<ak/\Pl.j2 (s.dk<|aq*ak+i) 63=(b%3+1)%3+1/\a=(0,((aq*ak+i:Nat):Int),0,nb 0 ⟨#[]⟩)):=λa=>by rw[E,ZU,rp,rp]
 have bh:sk nd az:=by
  refine⟨λa c=>?_,?_⟩
  .rcases(g a).1 c with⟨i,hi,_,e⟩|⟨i,hi,_,e⟩
   .exact⟨_,_,e,om,nh ..⟩
   .exact⟨_,_,e,om,nh ..⟩
  .rw[E,abP];refine⟨yx ..,yx ..,λa c ab y=>?_⟩;obtain⟨i,hi,_,rfl⟩:=(rp ..).1 c;obtain⟨j,hj,_,rfl⟩:=(rp ..).1 y;have:=fX.2.2 j i hj hi;show(((1-aq)*ak+i:Nat):Int).toNat≠((aq*ak+j:Nat):Int).toNat;omega
 have Z:∀i,i<ak->Pl.j2 (s.dk<|aq*ak+i) 63=(b%3+1)%3+1->b=0:=λi hi e=>by
  rcases ZR b with l|l
  .exact l
  .have:=(Iy O.symm om i hi).2;omega
 have aa:Pl.j2 (nb 0 ⟨#[]⟩) 0=0:=by rw[Bz]
 have F:Pl.j2 (nb 0 ⟨#[]⟩) 63=0:=by rw[BA]
 have J:∀n h,uJ s.dk (az.take n) h->rT z ak h aq b d:=λn h w=>by
  have A:∀j,j<nd->h j=s.dk j\/(∃a∈az,a.2.1.toNat=j)/\Pl.j2 (h j) 0=0:=λj hj=>by
   rcases w j with f|⟨a,c,e,V,U,f⟩
   .exact .inl f
   .have N:=aaO c;have t:a.2.2.2=nb 0 ⟨#[]⟩:=by rcases(g a).1 N with⟨i,_,_,e⟩|⟨i,_,_,e⟩<;>rw[e]
    rw[t]at f;rcases ZR V with l|l
    .left;rw[f,l,tV<|hc.size j hj]
    .right;exact⟨⟨a,N,e⟩,by rw[f,GX (nh ..) U l,aa]⟩
  refine hc.dk.blank T (λi hi=>(A _ om).imp id (·.2)) λi hi=>?_;rcases A (aq*ak+i) om with f|⟨⟨a,c,e⟩,f⟩
  .exact .inl f
  .right;refine⟨?_,f⟩;rcases(g a).1 c with⟨j,hj,_,rfl⟩|⟨j,hj,y,rfl⟩
   .exact RP
   .exact Z j hj y
 rw[hA];by_cases u:az=[]
 .rw[Ys u];refine⟨.nil,λn B o M left hi=>?_,by simp[runL],by simpa[runL]using hc,?_⟩
  .obtain rfl:n=0:=by simpa using B
   rw[runL];exact hc.oQ hi
  .rw[YI,runL];refine⟨λi hi e=>?_,λi hi e=>?_⟩
   .have:=(g _).2<|.inl ⟨i,hi,e,rfl⟩;rw[u]at this;simp at this
   .have:=(g _).2<|.inr ⟨i,hi,e,rfl⟩;rw[u]at this;simp at this
 .rw[Yo u];have hchk:pR nd [] az:=pR.writes az bh.all;have P:∀n,n<=az.length->runL n [] (az++[(1,0,0,⟨#[]⟩)]) s={s with wet:=az.take n}:=λn W=>by exact Q6
  have K:runL (az.length+1) [] (az++[(1,0,0,⟨#[]⟩)]) s={s with dk:=az.foldl pQ s.dk,wet:=[]}:=by have:=sj (W':=[]) (A':=[(1,0,0,⟨#[]⟩)]) hchk 1 s;rw[Zy]at this;rw[this,rX az az.length s bh.all om,hc.wet,YT,Zf om];simp[runL,tt]
  let⟨Q,Y⟩:=GY az s.dk bh.one;have t:∀a∈az,a.2.2.2=nb 0 ⟨#[]⟩:=λa c=>by rcases(g a).1 c with⟨i,_,_,e⟩|⟨i,_,_,e⟩<;>rw[e]
  have r:∀j,(∃a∈az,a.2.1.toNat=j)/\(az.foldl pQ s.dk) j=nb 0 ⟨#[]⟩\/(∀a∈az,a.2.1.toNat≠j)/\(az.foldl pQ s.dk) j=s.dk j:=λj=>by
   by_cases x:∃a∈az,a.2.1.toNat=j
   .left;refine⟨x,?_⟩;obtain⟨a,c,rfl⟩:=x;rw[Q a c,t a c]
   .right;have:∀a∈az,a.2.1.toNat≠j:=λa c e=>x ⟨a,c,e⟩;exact⟨this,Y j this⟩
  have C:∀j,j<nd->((az.foldl pQ s.dk) j).size=64:=λj hj=>by
   rcases r j with⟨_,e⟩|⟨_,e⟩
   .rw[e,nh]
   .rw[e];exact hc.size j hj
  have I:rT z ak (az.foldl pQ s.dk) aq b d:=by
   refine J az.length _ λj=>?_;rcases r j with⟨⟨a,c,e⟩,m⟩|⟨_,e⟩
   .by_cases hj:j<nd
    .right;refine⟨a,by rw[Zf kM];exact c,e,64,YC _,?_⟩;rw[m,t a c,tW (nh ..)<|hc.size j hj]
    .obtain⟨q,ad,rfl,ac,_⟩:=bh.all a c;have ju:((q:Nat):Int).toNat=j:=e;omega
   .exact .inl e
  rw[Yv,Zn,K];refine⟨by have:=pR.append hchk<|pR.sync pR.nil;simpa using this,λn B o M left hi=>?_,rfl,⟨C,rfl,I⟩,?_,?_⟩
  .rcases(show n<=az.length\/n=az.length+1 by omega)with S|rfl
   .rw[P n S];exact⟨hc.size,bh.take n,λh w=>⟨aq,b,d,J n h w,hi⟩⟩
   .rw[K];exact Calm.oQ ⟨C,rfl,I⟩ hi
  .intro i hi;show Pl.j2 ((az.foldl pQ s.dk)<|(1-aq)*ak+i) 63≠_;rcases r ((1-aq)*ak+i)with⟨_,e⟩|⟨v,e⟩
   .rw[e,F];omega
   .rw[e];intro m;exact v _ ((g _).2<|.inl ⟨i,hi,m,rfl⟩) rfl
  .intro i hi;show Pl.j2 ((az.foldl pQ s.dk)<|aq*ak+i) 63≠_;rcases r (aq*ak+i)with⟨_,e⟩|⟨v,e⟩
   .rw[e,F];omega
   .rw[e];intro m;exact v _ ((g _).2<|.inr ⟨i,hi,m,rfl⟩) rfl
def xu(b c:a_)(a:Nat)(e:a<b.size):Pl.j2 (b++c) a=Pl.j2 b a:=by rw[lr,ZM,aah,Yt,YK (by rw[Y0];exact e),<-Yt,<-lr]
def qK(a c:a_)(b:Nat):Pl.j2 (a++c) (a.size+b)=Pl.j2 c b:=by have e:a.data.toList.length=a.size:=Y0;rw[lr,ZM,aah,Yt,YP om,e,aby,<-Yt,<-lr]
def sm{c g:Nat->Nat->Int}{b f:Nat}(i:∀a,a<b->c 0 a=g 0 a)(h:∀a,a<f->c 2 a=g 2 a):kC c b f=kC g b f:=by unfold kC;rw[aaT λa e=>i a<|aad.1 e,aaT λa e=>h a<|aad.1 e]
def Dq{b:Nat->Nat->Int}(i:n4 b)(a f:Nat):kC (nM a f<|mJ b a f) a f=kC b a f:=by
 refine sm (λe g=>?_) λe g=>?_
 .have m:∀h,(λc=>(b 0 c).toNat) h<2:=λh=>by have:=i 0 h;have:=this.2.2 om;simp only;omega
  have j:Pl.bit (mJ b a f) 0 e=(b 0 e).toNat:=by unfold Pl.bit mJ;rw[YF,xu _ _ _ (by rw[Pl.ol];omega),Pl.H8 _ m _ _ _ om];exact Pl.OE _ m a e g
  unfold nM;rw[Ys rfl,Ys g,j];have:=(i 0 e).1;omega
 .have o:∀n∈(List.range f).map (λc=>(b 2 c).toNat),n<65536:=λn q=>by obtain⟨h,_,rfl⟩:=aaW.1 q;have:=i 2 h;omega
  have j:Pl.wd (mJ b a f) ((a+7)/8+2*e)=(b 2 e).toNat:=by
   have l:=Iw _ o e (by simpa using g);have k:=Pl.ol (λc=>(b 0 c).toNat) a<|(a+7)/8;have r:Pl.j2 (mJ b a f) ((a+7)/8+2*e)=Pl.j2 (lp<|(List.range f).map λc=>(b 2 c).toNat) (2*e):=by have:=qK (Pl.nj (λc=>(b 0 c).toNat) a<|(a+7)/8) (lp<|(List.range f).map λc=>(b 2 c).toNat)<|2*e;rw[k]at this;exact this
   have p:Pl.j2 (mJ b a f) ((a+7)/8+2*e+1)=Pl.j2 (lp<|(List.range f).map λc=>(b 2 c).toNat) (2*e+1):=by have:=qK (Pl.nj (λc=>(b 0 c).toNat) a<|(a+7)/8) (lp<|(List.range f).map λc=>(b 2 c).toNat)<|2*e+1;rw[k]at this;exact this
   unfold Pl.wd at l⊢;rw[r,p,l,Yt,Y9,Z5 g];rfl
  unfold nM;rw[Yo dc,Ys rfl,Ys g,j];have:=(i 2 e).1;omega
def Iz{D:j4}{s:a_}{b:Pl.mW}{f:Nat}(k:Pl.lj s b f)(i:tj D b f=false):kC (tn D b f) (D.kp 0) (D.kp 2)=kC D.ent (D.kp 0) (D.kp 2):=by
 unfold tn;split
 .rename_i g;rcases tR k with⟨_,j⟩|⟨n,_⟩
  .unfold tj at i;rw[YW g,abd,Bool.and_eq_false_iff,aaB,aaB]at i;rw[<-Av D b j];have h:∀e a,a<D.kp e->rQ D b b.many e a=D.ent e a:=λe a c=>by unfold rQ;rw[Yo];rintro ⟨rfl,l,m⟩;omega
   exact sm (λa c=>h 0 a c) λa c=>h 2 a c
  .unfold rR at g;rw[Ys om]at g;omega
 .rfl
structure Twin(D R:j4):Prop where
 sz:R.sz=D.sz
 kp:R.kp=D.kp
 unit:R.unit=D.unit
 nl:R.nl=D.nl
 batch:R.batch=D.batch
 ent:R.ent=D.ent
 uns:R.uns=D.uns
 kind:∀i,(R.ln i).kind=(D.ln i).kind
 wt:R.wait.map (·.2)=D.wait.map (·.2)
def G0(a:List Sv):a.map kS=(a.map (·.2)).map (λb=>((2,0,b.1,b.2):Ac)):=by rw[List.map_map];rfl
section
variable {D R:j4}
def Twin.send(a:Twin D R):D.wait.map kS=R.wait.map kS:=by rw[G0,G0,a.wt]
def Twin.len(a:Twin D R):R.wait.length=D.wait.length:=by have:=ZD List.length a.wt;simpa using this
def Twin.none(a:Twin D R)(b:D.wait=[]):R.wait=[]:=YV (by rw[a.len,b];rfl)
def Twin.OU{b c:Nat}(a:Twin D R):Twin {D with lat:=b,stamp:=c,uns:=0,wait:=[]} {R with uns:=0,wait:=[]}:=⟨a.sz,a.kp,a.unit,a.nl,a.batch,a.ent,rfl,a.kind,rfl⟩
theorem Twin.rR(c:Twin D R)(b:Pl.mW)(a:Nat):rR R b a=rR D b a:=by unfold Go.Proofs.YtcpldcojckhapaaGreat.rR hasB;rw[c.sz]
theorem Twin.mh(c:Twin D R)(e:Pl.mW):mh R e=mh D e:=by
 unfold Go.Proofs.YtcpldcojckhapaaGreat.mh;split
 .funext a b;unfold qp;rw[c.ent]
 .funext a b;unfold zo;rw[c.ent]
theorem Twin.tn(a:Twin D R)(c:Pl.mW)(b:Nat):tn R c b=tn D c b:=by unfold Go.Proofs.YtcpldcojckhapaaGreat.tn;rw[a.rR,a.mh,a.ent]
theorem Twin.vm(b:Twin D R)(s:a_)(c:Pl.mW)(a:Nat):vm R s c a=vm D s c a:=by unfold Go.Proofs.YtcpldcojckhapaaGreat.vm;rw[b.rR,b.mh]
theorem Twin.tj(b:Twin D R)(c:Pl.mW)(a:Nat):tj R c a=tj D c a:=by unfold Go.Proofs.YtcpldcojckhapaaGreat.tj;rw[b.rR,b.kp]
def Twin.Sk(a:Twin D R)(s:a_):Twin (ks D s) (ks R s):=⟨a.sz,a.kp,a.unit,a.nl,a.batch,a.tn ..,by show(if Go.Proofs.YtcpldcojckhapaaGreat.tj R _ _=true then R.uns+1 else R.uns)=(if Go.Proofs.YtcpldcojckhapaaGreat.tj D _ _=true then D.uns+1 else D.uns);rw[a.tj,a.uns],a.kind,a.wt⟩
def Twin.XX(c:Twin D R)(a b:Nat)(s:a_):(mf R a b s).2=(mf D a b s).2:=by show(((a:Nat):Int),Sg (R.ln a).kind b R.unit<|Go.Proofs.YtcpldcojckhapaaGreat.vm R s ..)=(((a:Nat):Int),Sg (D.ln a).kind b D.unit<|Go.Proofs.YtcpldcojckhapaaGreat.vm D s ..);rw[c.kind,c.unit,c.vm]
def Twin.more(a:Twin D R){c b:Sv}(e:b.2=c.2):Twin {D with wait:=D.wait++[c]} {R with wait:=R.wait++[b]}:=⟨a.sz,a.kp,a.unit,a.nl,a.batch,a.ent,a.uns,a.kind,by show(R.wait++[b]).map _=(D.wait++[c]).map _;rw[ZI,ZI,a.wt,abX,abX,e]⟩
def G1{R:j4}{s:a_}(a:(kv s).2≠0):ks R s={R with arr:=R.arr+1}:=by
 have b:Go.Proofs.YtcpldcojckhapaaGreat.rR R (kv s).1 (kv s).2≠0:=by unfold Go.Proofs.YtcpldcojckhapaaGreat.rR;rw[Ys a];exact a
 have c:Go.Proofs.YtcpldcojckhapaaGreat.tn R (kv s).1 (kv s).2=R.ent:=by unfold Go.Proofs.YtcpldcojckhapaaGreat.tn;rw[Yo b]
 have e:Go.Proofs.YtcpldcojckhapaaGreat.tj R (kv s).1 (kv s).2=false:=by unfold Go.Proofs.YtcpldcojckhapaaGreat.tj;rw[YZ b,abS]
 unfold ks;rw[c,e];rfl
def s6(s:a_):p8 (kv s).1=(Iq (Pl.j2 s 0)&&decide ((kv s).2=0)):=by
 have a:=nz s
 generalize (kv s).1=x at a⊢
 generalize (kv s).2=k at a⊢
 have c:p8 Pl.j6=false:=rfl;unfold Pl.lj at a;rcases a with⟨_,rfl,rfl⟩|⟨_,a⟩
 .simp[c]
 .rcases a with⟨b,a⟩|⟨b,a⟩|⟨b,a⟩|⟨b,a⟩|⟨b,a⟩|⟨b,a⟩|⟨b,a⟩|⟨b,a⟩|⟨b,a⟩|⟨b,a⟩|⟨⟨_,_,_,_,h,g,i,j,f,_⟩,rfl,rfl⟩
  case inr.inr.inr.inr.inr.inr.inr.inr.inr.inr=>simp[c]
  all_goals
   rcases a with⟨e,rfl,rfl⟩|⟨_,rfl,rfl⟩
   .first
     |(simp[p8,Iq,b];done)
     |(unfold Pl.p3 at e;simp[p8,Iq,b];omega)
     |(unfold Pl.p4 at e;simp[p8,Iq,b];omega)
   .simp[c]
end
structure oR(z sec nd:Nat)(D R:j4)(s:Ls)(left:lw)(safe:Nat)(d:a_):Prop where
 fl:xh D
 tw:Twin D R
 top:∀y∈R.wait,0<=y.1/\y.1<=(R.arr:Int)
 cm:Calm z sec nd D.lat D.stamp d s
 rd:Si sec s.dk D.lat D.stamp
 ll:left.length=R.arr+1
 la:left[R.arr]?=some (kC D.ent (D.kp 0)<|D.kp 2)
 ix:∃j,s.least<=j/\safe<=j/\left[j]?=some (kC (nM (D.kp 0) (D.kp 2) d) (D.kp 0)<|D.kp 2)
 u0:D.uns=0->kC (nM (D.kp 0) (D.kp 2) d) (D.kp 0) (D.kp 2)=kC D.ent (D.kp 0) (D.kp 2)
 le:s.least<=R.arr
 sf:safe<=R.arr
 hz:z=(D.kp 0+7)/8+2*D.kp 2
 hs:sec=D.sec
 hn:2*sec<=nd
section
variable {z sec nd:Nat}{D R:j4}{s:Ls}{left:lw}{safe:Nat}{d:a_}
def oR.idx(c:oR z sec nd D R s left safe d):GZ (D.kp 0) (D.kp 2) left s.least d:=by let⟨e,b,_,a⟩:=c.ix;exact⟨e,b,a⟩
def oR.oQ(a:oR z sec nd D R s left safe d):l0 z sec nd (D.kp 0) (D.kp 2) left s:=a.cm.oQ a.idx
def oR.WU(a:oR z sec nd D R s left safe d):1<=sec/\z<=62*sec:=by have:=a.fl.sec;have:=a.hs;have:=a.hz;omega
def oR.L7(a:oR z sec nd D R s left safe d)(b:D.uns=0)(c:D.wait=[]):oR z sec nd D {R with uns:=0,wait:=[]} s left R.arr d:=
 ⟨a.fl,⟨a.tw.sz,a.tw.kp,a.tw.unit,a.tw.nl,a.tw.batch,a.tw.ent,b.symm,a.tw.kind,by rw[c]⟩,(λf e=>by cases e),a.cm,a.rd,a.ll,a.la,⟨R.arr,a.le,YC _,by rw[a.u0 b];exact a.la⟩,a.u0,a.le,YC _,a.hz,a.hs,a.hn⟩
def oR.more(a:oR z sec nd D R s left safe d){D1 R1:j4}(m:xh D1)(n:Twin D1 R1)(f:R1.arr=R.arr+1)(o:∀h∈R1.wait,0<=h.1/\h.1<=(R1.arr:Int))(c:D1.lat=D.lat)(g:D1.stamp=D.stamp)(b:D1.kp=D.kp)(p:D1.sec=D.sec)(i:D1.uns=0->D.uns=0/\kC D1.ent (D.kp 0) (D.kp 2)=kC D.ent (D.kp 0) (D.kp 2)):
 oR z sec nd D1 R1 s (left++[kC D1.ent (D.kp 0)<|D.kp 2]) safe d:=by
 let⟨j,q,k,e⟩:=a.ix;have u:=a.le;have v:=a.sf;refine⟨m,n,o,by rw[c,g];exact a.cm,by rw[c,g];exact a.rd,by rw[Yv,a.ll,f];rfl,?_,⟨j,q,k,?_⟩,λt=>?_,om,om,by rw[b];exact a.hz,by rw[p];exact a.hs,a.hn⟩
 .rw[b,f,YP (by rw[a.ll];exact YC _),a.ll];simp
 .rw[b,YK (Yr.1 e).1];exact e
 .let⟨r,l⟩:=i t;rw[b,l];exact a.u0 r
def oR.flush(a:oR z sec nd D R s left safe d)(y:D.uns≠0):
 pR nd R.wait (j' D).2/\(∀b,b<=(j' D).2.length->l0 z sec nd (D.kp 0) (D.kp 2) left (runL b R.wait (j' D).2 s))/\oR z sec nd (j' D).1 {R with uns:=0,wait:=[]} (runL (j' D).2.length R.wait (j' D).2 s) left R.arr (mJ D.ent (D.kp 0)<|D.kp 2):=by
 have J:=a.fl.lat;have r:j' D=({D with lat:=1-D.lat,stamp:=D.stamp%3+1,uns:=0,wait:=[]},my sec (1-D.lat) (D.stamp%3+1) (mJ D.ent (D.kp 0)<|D.kp 2)++R.wait.map kS):=by unfold j';rw[Yo y,show(D.lat+1)%2=1-D.lat by omega,a.hs,a.tw.send]
 rw[r];let⟨w,F⟩:=a.WU;have v:=x_ D.ent (D.kp 0)<|D.kp 2;have j:=Dq a.fl.ent (D.kp 0)<|D.kp 2;have q:∀e,e<=R.arr->GZ (D.kp 0) (D.kp 2) left e (mJ D.ent (D.kp 0)<|D.kp 2):=λe u=>⟨R.arr,u,by rw[j];exact a.la⟩;obtain⟨o,l,f,p⟩:=a.cm.save a.rd w a.hn (by rw[v,a.hz]) F a.idx<|q _ a.le;let⟨c,hA⟩:=j5<|my sec (1-D.lat) (D.stamp%3+1)<|mJ D.ent (D.kp 0)<|D.kp 2;rw[<-hA]at o l f p;have k:pR nd [] c:=by have C:=Dk sec nd (1-D.lat) (D.stamp%3+1) (mJ D.ent (D.kp 0)<|D.kp 2) om a.hn;rw[hA];have:=(pR.writes _ C.all).append<|pR.sync pR.nil;rw[Zy]at this;exact this
 have B:=pR.sends (nd:=nd) R.wait;show pR nd R.wait (my sec (1-D.lat) (D.stamp%3+1) (mJ D.ent (D.kp 0)<|D.kp 2)++R.wait.map kS)/\(∀b,b<=(my sec (1-D.lat) (D.stamp%3+1) (mJ D.ent (D.kp 0)<|D.kp 2)++R.wait.map kS).length->l0 z sec nd (D.kp 0) (D.kp 2) left (runL b R.wait (my sec (1-D.lat) (D.stamp%3+1) (mJ D.ent (D.kp 0)<|D.kp 2)++R.wait.map kS) s))/\oR z sec nd {D with lat:=1-D.lat,stamp:=D.stamp%3+1,uns:=0,wait:=[]} {R with uns:=0,wait:=[]} (runL (my sec (1-D.lat) (D.stamp%3+1) (mJ D.ent (D.kp 0)<|D.kp 2)++R.wait.map kS).length R.wait (my sec (1-D.lat) (D.stamp%3+1) (mJ D.ent (D.kp 0)<|D.kp 2)++R.wait.map kS) s) left R.arr (mJ D.ent (D.kp 0)<|D.kp 2);rw[<-hA];have n:∀h,h<=R.wait.length->∃e,runL (c.length+h) R.wait (c++R.wait.map kS) s={runL c.length [] c s with least:=e}/\e<=R.arr:=λh _=>by have:=sj (W':=R.wait) (A':=R.wait.map kS) k h s;rw[YT]at this;rw[this];obtain⟨e,g,_,t⟩:=Fy R.wait h<|runL c.length [] c s;exact⟨e,g,t R.arr (by rw[l];exact a.le) λE x=>(a.top E x).2⟩
 refine⟨by have:=k.append B;simpa using this,λb A=>?_,?_⟩
 .rcases Zj c.length b with I|m
  .rw[Yv,Zx]at A;let⟨e,g,i⟩:=n (b-c.length) om;rw[show c.length+(b-c.length)=b by omega]at g;rw[g];exact Calm.oQ ⟨f.size,f.wet,f.dk⟩<|q e i
  .have:=AZ (W':=R.wait) (A':=R.wait.map kS) k b s m;rw[YT]at this;rw[this];exact o b m
 .let⟨e,g,i⟩:=n R.wait.length kM;rw[Yv,Zx,g];exact⟨⟨a.fl.sz,a.fl.ent,a.fl.xe,a.fl.xg,by show 1-D.lat<=1;omega,by show D.stamp%3+1<=3;omega,a.fl.sec,si,YG _,.nil⟩,a.tw.OU,si,⟨f.size,f.wet,f.dk⟩,p,a.ll,a.la,⟨R.arr,i,YC _,by show _=some (kC ..);rw[j];exact a.la⟩,λ_=>j,i,YC _,a.hz,a.hs,a.hn⟩
def L8{D:j4}{a:a_}(e:(ks D a).uns=0):D.uns=0/\kC (ks D a).ent (D.kp 0) (D.kp 2)=kC D.ent (D.kp 0) (D.kp 2):=by
 have b:(if tj D (kv a).1 (kv a).2=true then D.uns+1 else D.uns)=0:=e;cases c:tj D (kv a).1 (kv a).2
 .rw[c]at b;exact⟨b,Iz (nz a) c⟩
 .rw[c]at b;simp at b
def oR.take(M:oR z sec nd D R s left safe d)(v:kQ D)(i m u:Nat)(b:a_):
 pR nd (mZ R i m u b) (kD D i m u b).2/\(∀j,j<=(kD D i m u b).2.length->l0 z sec nd (D.kp 0) (D.kp 2) (py R i u b left) (runL j (mZ R i m u b) (kD D i m u b).2 s))/\∃ap,oR z sec nd (kD D i m u b).1 (m3 R i m u b) (runL (kD D i m u b).2.length (mZ R i m u b) (kD D i m u b).2 s) (py R i u b left) (pN R i m u b safe) ap:=by
 have c:=M.tw;have aI:=v.batch;have aH:=v.qq;have aF:=v.uns;have ac:=c.unit;have Y:=c.len;have ai:kC (ks R b).ent (R.kp 0) (R.kp 2)=kC (ks D b).ent (D.kp 0) (D.kp 2):=by rw[(c.Sk b).ent,c.kp]
 have none:∀{a R1:j4}{l:lw}{sf:Nat},oR z sec nd a R1 s (left++l) sf d->(∀j,j<=([]:List Ac).length->l0 z sec nd (D.kp 0) (D.kp 2) (left++l) (runL j [] [] s))/\oR z sec nd a R1 (runL 0 [] [] s) (left++l) sf d:=λan=>by
  refine⟨λj K=>?_,by rw[runL];exact an⟩;obtain rfl:j=0:=by simpa using K
  rw[runL];exact M.oQ.more _
 have ad:∀o∈R.wait,0<=o.1/\o.1<=((R.arr+1:Nat):Int):=λo n=>li<|M.top o n;by_cases C:u=D.unit
 .have hA:o' R i u b=false:=by have:=v.unit;unfold o';rw[YZ (p:=u=0) om];simp
  have ah:yl R i u b=true:=by unfold yl;rw[ac,YW C];rfl
  have dl:mG R i m u b={ks R b with wait:=R.wait++[mf R i m b]}:=by unfold mG;rw[hA];rfl
  obtain⟨e,g⟩:=j5<|mG R i m u b;have T:e.wait=R.wait++[mf R i m b]:=by rw[g,dl]
  have A:e.arr=R.arr+1:=by rw[g,dl];rfl
  have aq:e.uns=(ks D b).uns:=by rw[g,dl];exact(c.Sk b).uns
  have al:e.batch=D.batch:=by rw[g,dl];exact c.batch
  have x:Twin {ks D b with wait:=D.wait++[mf D i m b]} e:=by rw[g,dl];exact(c.Sk b).more (c.XX i m b)
  have ao:∀o∈e.wait,0<=o.1/\o.1<=(e.arr:Int):=λo n=>by
   rw[T]at n;rw[A];rcases ZU.1 n with n|n
   .exact ad o n
   .rw[Y'.1 n];exact⟨Int.natCast_nonneg _,Int.le_refl _⟩
  have P:kD D i m u b=if (ks D b).uns=0 then(ks D b,[kS<|mf D i m b])else if D.batch<=D.wait.length+1\/D.batch<=(ks D b).uns then j' {ks D b with wait:=D.wait++[mf D i m b]}else({ks D b with wait:=D.wait++[mf D i m b]},[]):=by unfold kD;rw[Yo λr=>r C]
  have B:py R i u b left=left++[kC (ks D b).ent (D.kp 0)<|D.kp 2]:=by unfold py;rw[ah,Ys rfl,ai]
  have y:nB e=(decide ((ks D b).uns=0)||decide (D.batch<=(ks D b).uns)||decide (D.batch<=D.wait.length+1)):=by unfold nB;rw[aq,al,T,Yv,Zn,Y]
  by_cases t:(ks D b).uns=0
  .let⟨V,ae⟩:=L8 t;have J:=v.w0 V;have aB:=c.none J;have hf:nB e=true:=by rw[y,YW t];rfl
   have h:mZ R i m u b=[mf R i m b]:=by unfold mZ;rw[<-g,hf,ah,Ys ⟨rfl,rfl⟩,T,aB];rfl
   have cK:m3 R i m u b={e with uns:=0,wait:=[]}:=by unfold m3;rw[<-g,hf,ah,Ys rfl,Ys rfl]
   have cJ:pN R i m u b safe=R.arr+1:=by unfold pN;rw[<-g,hf,ah,Ys ⟨rfl,rfl⟩]
   have f:=M.more (R1:={e with uns:=0,wait:=[]}) (sX v) ⟨x.sz,x.kp,x.unit,x.nl,x.batch,x.ent,t.symm,x.kind,by show []=D.wait.map _;rw[J];rfl⟩ A (λo n=>by cases n) rfl rfl rfl rfl (λ_=>⟨V,ae⟩);rw[P,Ys t,B,h,cK,cJ];have ak:kS (mf D i m b)=kS (mf R i m b):=by show(2,0,(mf D i m b).2.1,(mf D i m b).2.2)=(2,0,(mf R i m b).2.1,(mf R i m b).2.2);rw[c.XX]
   have aG:(mf R i m b).1=((R.arr+1:Nat):Int):=rfl;have Z:runL 1 [mf R i m b] [kS<|mf D i m b] s={s with least:=max s.least<|R.arr+1}:=by rw[ak];have ab:(kS<|mf R i m b).1=2:=rfl;rw[runL,Yo<|qx ab,Yo<|qx ab,runL];rfl
   have aE:=M.le;have aD:max s.least (R.arr+1)=R.arr+1:=om;have aa:(left++[kC (ks D b).ent (D.kp 0)<|D.kp 2])[R.arr+1]?=some (kC (nM (D.kp 0) (D.kp 2) d) (D.kp 0)<|D.kp 2):=by have:=f.la;have aC:=A;rw[aC]at this;rw[M.u0 V,<-ae];exact this
   refine⟨by rw[ak];exact pR.sends [mf R i m b],λj K=>?_,d,?_⟩
   .rcases(show j=0\/j=1 by have:j<=1:=K;omega)with rfl|rfl
    .rw[runL];exact M.oQ.more _
    .rw[Z];exact Calm.oQ ⟨M.cm.size,M.cm.wet,M.cm.dk⟩ ⟨R.arr+1,by show max s.least (R.arr+1)<=_;omega,aa⟩
   .show oR z sec nd (ks D b) {e with uns:=0,wait:=[]} (runL 1 _ _ s) _ _ d;rw[Z];exact⟨f.fl,f.tw,f.top,⟨M.cm.size,M.cm.wet,M.cm.dk⟩,f.rd,f.ll,f.la,⟨R.arr+1,by show max s.least (R.arr+1)<=_;omega,YC _,aa⟩,f.u0,by show max s.least (R.arr+1)<=e.arr;rw[A];omega,by show R.arr+1<=e.arr;omega,f.hz,f.hs,f.hn⟩
  .have f:=M.more (Bq v om) x A ao rfl rfl rfl rfl (λr=>absurd r t);rw[P,Yo t,B];by_cases F:D.batch<=D.wait.length+1\/D.batch<=(ks D b).uns
   .have hf:nB e=true:=by rw[y];simp only[aag,Zq];omega
    have h:mZ R i m u b=e.wait:=by unfold mZ;rw[<-g,hf,ah,Ys ⟨rfl,rfl⟩]
    have cK:m3 R i m u b={e with uns:=0,wait:=[]}:=by unfold m3;rw[<-g,hf,ah,Ys rfl,Ys rfl]
    have cJ:pN R i m u b safe=e.arr:=by unfold pN;rw[<-g,hf,ah,Ys ⟨rfl,rfl⟩,A]
    rw[Ys F,h,cK,cJ];let⟨U,Q,N⟩:=f.flush t;exact⟨U,Q,_,N⟩
   .have hf:nB e=false:=by rw[y];simp only[abc,aaB];omega
    have h:mZ R i m u b=[]:=by unfold mZ;rw[<-g,hf,Yo si]
    have cK:m3 R i m u b=e:=by unfold m3;rw[<-g,hf,ah,Ys rfl,Yo si]
    have cJ:pN R i m u b safe=safe:=by unfold pN;rw[<-g,hf,Yo si]
    rw[Yo F,h,cK,cJ];let⟨E,I⟩:=none f;exact⟨.nil,E,d,I⟩
 .have az:(decide (u=R.unit))=false:=by rw[ac];exact YZ C
  by_cases w:(D.ln i).kind=1/\u=0/\Iq (Pl.j2 b 0)=true
  .have hA:o' R i u b=true:=by unfold o';rw[c.kind,YW w.1,YW w.2.1,w.2.2];rfl
   have ah:yl R i u b=true:=by unfold yl;rw[hA];simp
   have dl:mG R i m u b=ks R b:=by unfold mG;rw[hA];rfl
   have B:py R i u b left=left++[kC (ks D b).ent (D.kp 0)<|D.kp 2]:=by unfold py;rw[ah,Ys rfl,ai]
   have aj:=c.Sk b;have y:nB (ks R b)=(decide ((ks D b).uns=0)||decide (D.batch<=(ks D b).uns)):=by unfold nB;rw[aj.uns,show(ks R b).batch=D.batch from c.batch,show(ks R b).wait=R.wait from rfl,Y,YZ (p:=D.batch<=D.wait.length) om,Bool.or_false]
   let⟨a,ar,aA,am⟩:∃a,(xh a/\Twin a (ks R b)/\a.lat=D.lat/\a.stamp=D.stamp/\a.kp=D.kp/\a.sec=D.sec/\(a.uns=0->D.uns=0/\kC a.ent (D.kp 0) (D.kp 2)=kC D.ent (D.kp 0) (D.kp 2))/\a.wait=D.wait/\a.uns=(ks D b).uns)/\kC (ks D b).ent (D.kp 0) (D.kp 2)=kC a.ent (D.kp 0) (D.kp 2)/\kD D i m u b=if D.batch<=a.uns then j' a else(a,[]):=by
    by_cases O:(kv b).2=0
    .refine⟨ks D b,⟨sX v,aj,rfl,rfl,rfl,rfl,L8,rfl,rfl⟩,rfl,?_⟩;unfold kD;rw[Ys C,Ys ⟨w.1,w.2.1,by rw[s6,w.2.2,YW O];rfl⟩];rfl
    .have ag:ks D b={D with arr:=D.arr+1}:=G1 O;refine⟨D,⟨v.fl,?_,rfl,rfl,rfl,rfl,λr=>⟨r,rfl⟩,rfl,by rw[ag]⟩,by rw[ag],?_⟩
     .rw[G1 O];exact⟨c.sz,c.kp,c.unit,c.nl,c.batch,c.ent,c.uns,c.kind,c.wt⟩
     .unfold kD;rw[Ys C,Yo (λr=>by have:=r.2.2;rw[s6,YZ O]at this;simp at this),Yo om]
   let⟨aw,ax,au,av,S,ay,af,X,W⟩:=ar;have f:=M.more aw ax rfl (λo n=>ad o n) au av S ay af;rw[am,B,aA];by_cases F:D.batch<=a.uns
   .have hf:nB (ks R b)=true:=by rw[y,<-W];simp only[aag,Zq];omega
    have h:mZ R i m u b=(ks R b).wait:=by unfold mZ;rw[dl,hf,ah,Ys ⟨rfl,rfl⟩]
    refine QG ?_;intro cK cJ;rw[Ys F,h,cK,cJ];let⟨U,Q,N⟩:=f.flush om;exact⟨U,by rw[S]at Q;exact Q,_,by rw[S]at N;exact N⟩
   .rw[Yo F];by_cases t:a.uns=0
    .have hf:nB (ks R b)=true:=by rw[y,<-W,t];rfl
     have J:a.wait=[]:=by rw[X];exact v.w0 (af t).1
     have h:mZ R i m u b=[]:=by unfold mZ;rw[dl,hf,ah,Ys ⟨rfl,rfl⟩];exact c.none (by rw[<-X];exact J)
     refine QG ?_;intro cK cJ;rw[h,cK,cJ];let⟨E,I⟩:=none (f.L7 t J);exact⟨.nil,E,d,I⟩
    .have hf:nB (ks R b)=false:=by rw[y,<-W];simp only[abc,aaB];omega
     have h:mZ R i m u b=[]:=by unfold mZ;rw[dl,hf,Yo si]
     have cK:m3 R i m u b=ks R b:=by unfold m3;rw[dl,hf,ah,Ys rfl,Yo si]
     have cJ:pN R i m u b safe=safe:=by unfold pN;rw[dl,hf,Yo si]
     rw[h,cK,cJ];let⟨E,I⟩:=none f;exact⟨.nil,E,d,I⟩
  .have hA:o' R i u b=false:=by
    cases L:o' R i u b
    .rfl
    .unfold o' at L;simp only[Zw,Zq]at L;exact absurd ⟨(c.kind i).symm.trans L.1.1,L.1.2,L.2⟩ w
   have ah:yl R i u b=false:=by unfold yl;rw[hA,az];rfl
   have P:kD D i m u b=(D,[]):=by unfold kD;rw[Ys C,Yo];intro r;refine w ⟨r.1,r.2.1,?_⟩;have:=r.2.2;rw[s6,Zw]at this;exact this.1
   have h:mZ R i m u b=[]:=by unfold mZ;rw[ah,Yo si]
   have cK:m3 R i m u b=R:=by unfold m3;rw[ah,Yo si]
   have cJ:pN R i m u b safe=safe:=by unfold pN;rw[ah,Yo si]
   have B:py R i u b left=left:=by unfold py;rw[ah,Yo si]
   rw[P,h,cK,cJ,B];refine⟨.nil,λj K=>?_,d,?_⟩
   .obtain rfl:j=0:=by simpa using K
    rw[runL];exact M.oQ
   .rw[YI,runL];exact M
end
def L9(R:j4)(e b:Nat)(a:a_)(left:lw):∃c,py R e b a left=left++c:=by
 unfold py;split
 .exact⟨_,rfl⟩
 .exact⟨[],(Zy _).symm⟩
def rq(a b:List Int)(x u:f_)(E J:Nat)(f:b_)(e:f.ownsRow E 3 1 x a.length<|a.flatMap ka)(g:f.ownsRow J 3 1 u b.length<|b.flatMap ka)(Z:a.length<=1000000)(U:b.length<=1000000):
 Calls prog 39 #[x,u] f λd P=>d=.returned (.bool<|decide (a=b))/\Below f.heap.size f P:=by
 obtain⟨T,Q,rfl,_⟩:=i_ e;obtain⟨S,V,rfl,_⟩:=i_ g;have F:=h_ e;have L:=h_ g;clear e g;by_cases m:a.length=b.length
 .have i:=h_ m;have N:((a.length:Int)!=(b.length:Int))=false:=so;clear m
  go_enter func39,ntmps39
  go_wp2_with fail
  go_loopw [5] (λo wr=>∃(j C:Nat),o=ν j/\j<=a.length/\wr=f.drewN C/\∀c,c<j->a.getD c 0=b.getD c 0) (λo _=>a.length-(intOf o).toNat)
  case atStart=>exact⟨0,0,rfl,YG _,rfl,λc v=>absurd v (Zh _)⟩
  case round=>
   obtain⟨j,C,rfl,Y,rfl,h⟩:=hrel;by_cases A:j<a.length
   .obtain⟨W,rfl,aa,I⟩:=vt F rfl j A;obtain⟨R,rfl,ac,O⟩:=vt L rfl j (li i.o);have ab:(j:Int)<(b.length:Int):=li i.o;have n:=h_ h;have B:Hid<|j+1<=a.length:=A;refine Gy ?_;intro cz;let⟨w,t⟩:=j5<|a.getD j 0;let⟨D,s⟩:=j5<|b.getD j 0;rw[<-t]at I;rw[<-s]at O;have y:=h_ t;have z:=h_ s;clear t s;by_cases l:w=D
    .have r:Hid<|a.getD j 0=b.getD j 0:=by show _=_;rw[<-y.o,<-z.o,l]
     subst l;clear h
     go_wp2_with fail
     go_quiet (fail)
     go_wp2
     go_roundw
     case rel=>
      refine⟨j+1,_,by first|rw[cz.o]|rfl,B,rfl,λc v=>?_⟩;by_cases d:c=j
      .subst d;exact r
      .exact n c om
     case measure=>have:=B;first|(rw[cz.o];simp only[intOf];omega)|(simp only[intOf];omega)
    .have r:Hid<|¬a.getD j 0=b.getD j 0:=by show¬_;rw[<-y.o,<-z.o];exact l
     have X:(w !=D)=true:=by simpa using l
     clear h l
     go_wp2_with fail
     go_quiet (fail)
     go_wp2;go_ret;refine⟨?_,YL (YL br _) _⟩;have:¬a=b:=λd=>r (by rw[d]);rw[YZ this];rfl
   .obtain rfl:j=a.length:=om;have n:=h_ h;clear h;go_wp2;go_ret;refine⟨?_,YL br _⟩;have:a=b:=by have K:=i;refine List.ext_getElem K λc e g=>?_;have:=n c e;rw[Yt,Yt,Yw e,Yw g]at this;exact this
    rw[YW this];rfl
 .have N:((a.length:Int)!=(b.length:Int))=true:=so;have i:=h_ m;clear m
  go_enter func39,ntmps39
  go_wp2;go_ret;refine⟨?_,Below.refl ..⟩;have:¬a=b:=λd=>i (by rw[d]);rw[YZ this];rfl
def IB(a:Nat->a_)(b:Nat):od a (b+1)=od a b++[.string<|a b]:=by unfold od;rw[aax,ZI,YX];rfl
def vy(b:Nat)(a:b_)(L:b<=100):
 Calls prog 31 #[ν b] a λr o=>∃n,r=.returned n/\o.ownsRow a.heap.size 9 1 n b (od (λ_=>j0) b)/\Below a.heap.size a o:=by
 let⟨t,s,B,z,C⟩:=Y4 Tryz.xU;refine QI ?_;intro bj
 have u:∀W:b_,(convert 114 9<|ω W.heap.size 64 64).run prog (W.alloc<|.cells (madeCells #[.int .u8 0] 64) 5)=.ok (.string j0) (W.alloc<|.cells (madeCells #[.int .u8 0] 64) 5):=λW=>
  qF _ W.heap.size 64 64 (List.replicate 64 0) si (λm K f=>by
   rw[aaD]at f;split at f
   .rename_i l;obtain rfl:=(YR f).symm;rw[Yu _ W.heap.size m _ 5 (0,0) (YO W _)];exact rj 64 m l
   .simp at f)
 let⟨W,g⟩:=j5<|a.alloc<|.cells (madeCells #[.int .u8 0] 64) 5;have j:=ba g;have w:=h_ j;clear j
 go_enter func31,ntmps31
 go_wp2_with fail
 rw[<-g];clear g bj u
 go_loopw [5,4] (λh A wr=>∃q:Nat,q<=b/\h=ν q/\wr.ownsRow a.heap.size 9 1 A q (od (λ_=>j0) q)/\Below a.heap.size a wr) (λh _ _=>b-(intOf h).toNat)
 case atStart=>exact⟨0,om,rfl,Yq ..,w⟩
 case round=>
  obtain⟨q,E,rfl,d,c⟩:=hrel;have N:=c.size;by_cases l:q<b
  .have e:=h_ d;have i:=h_ c;clear d c
   go_wp2_with (at_builtin;go_must (refine Zl _ rfl (.tmp 13) (.tmp 15) 30 rfl a.heap.size 9 t _ 1 16 underlying30 s B z C rfl dc _ q _ rfl (e.o.alloc _) (μ wr.heap.size 0) 1 1 [.string j0] rfl rfl (pz wr [.string j0] 9) (by simp[Value.oneCell']) ml om so ?_;intro F D x y _))
   go_roundw
   case rel=>refine⟨q+1,om,gn,?_,(jT i<|.cells #[.string j0] 9).grown y so (λk v=>(e.o.lt k v).1)⟩;rw[IB];exact x
   case measure=>exact mz
  .obtain rfl:q=b:=om;obtain⟨I,J,rfl,_⟩:=i_ d;have e:=h_ d;have i:=h_ c;clear d c;go_wp2;go_ret;exact⟨_,rfl,e,i⟩
structure qL(w w':b_)(kb:Nat)(b b':lu):Prop where
 os:w'.os=w.os
 tape:w'.tape=w.tape
 output:w'.output=w.output
 size:w.heap.size<=w'.heap.size
 keep:∀g,g<w.heap.size->¬b.on kb g->w'.heap[g]?=w.heap[g]?
 on:∀g,b'.on kb g->b.on kb g\/w.heap.size<=g
def qL.refl(a:b_)(d:Nat)(b:lu):qL a a d b b:=⟨rfl,rfl,rfl,YC _,λ_ _ _=>rfl,λ_ c=>.inl c⟩
def qL.below{f c e:b_}{g:Nat}{i h:lu}(a:qL f c g i h)(b:Below c.heap.size c e):qL f e g i h:=
 ⟨b.os.trans a.os,b.tape.trans a.tape,b.output.trans a.output,YH a.size b.size,λj d k=>(b.block j<|Yy d a.size).trans<|a.keep j d k,a.on⟩
def qL.grown{d k f:b_}{h:Nat}{j i:lu}{g:Option Nat}(a:qL d k h j i)(c:k.grownBy f g)(m:∀b,g=some b->d.heap.size<=b):qL d f h j i:=
 ⟨c.os.trans a.os,c.tape.trans a.tape,c.output.trans a.output,YH a.size c.size,λb e n=>(c.block b (Yy e a.size) (λl=>by have:=m b l.symm;omega)).trans<|a.keep b e n,a.on⟩
def qL.book{f n h:b_}{g:Nat}{m k o:lu}{l:f_}(c:qL f n g m k)(d:qs n h g k o l)(j:∀b,l.ownBlock=some b->f.heap.size<=b):qL f h g m o:=by
 refine⟨d.os.trans c.os,d.tape.trans c.tape,d.output.trans c.output,YH c.size d.size,λb e i=>(d.keep b (Yy e c.size) (λa=>?_) (λa=>by have:=j b a;omega)).trans<|c.keep b e i,λb e=>?_⟩
 .rcases c.on b a with a|a
  .exact i a
  .omega
 .rcases d.on b e with a|a|a
  .exact c.on b a
  .exact .inr<|j b a
  .exact .inr (YH c.size a)
def L_(d:Nat->a_)(e:Nat):∀c∈od d e,c.oneCell'=true:=by intro c a;unfold od at a;let⟨f,_,b⟩:=abb.1 a;simp only[nS,Y']at b;subst b;rfl
def yA{f:b_}{e j c:Nat}{d:d_}{g:f_}{i:List f_}(k:f.ownsRow e d j g c i)(o:0<c):∃a b,g=ω a c b/\c<=b/\a<f.heap.size/\e<=a:=by
 rcases k.2 with⟨_,d⟩|⟨a,b,p,m,n,l,h,_⟩
 .omega
 .exact⟨a,b,m,h,Yn l,n⟩
def OW(d:b_)(g:Option Addr)(f:Nat)(e:Nat->a_):Prop:=∀a,a<f->∃b c,g=some (μ b c)/\b<d.heap.size/\d.cell? (μ b<|c+a)=some (.string<|e a)
def G2{wc d h:b_}{f:Nat}{k j:lu}{m:f_}{e:Nat->Prop}(o:∀a,e a->a<wc.heap.size/\d.heap[a]?=wc.heap[a]?/\¬k.on f a)(r:wc.heap.size<=d.heap.size)(g:qs d h f k j m)(i:∀a,e a->m.ownBlock≠some a):∀a,e a->a<wc.heap.size/\h.heap[a]?=wc.heap[a]?/\¬j.on f a:=λa c=>by
 let⟨q,n,l⟩:=o a c;refine⟨q,(g.keep a om l (i a c)).trans n,λp=>?_⟩;rcases g.on a p with b|b|b
 .exact l b
 .exact i a c b
 .omega
def BF{f:Func}{b g e d:Tmp}(i:f.results=#[.tmp b,.tmp g,.tmp e,.tmp d])(a:Array f_)(h:e_)(c:b_):
 (results f a).run h c=.ok (.tuple #[a.getD b undef,a.getD g undef,a.getD e undef,a.getD d undef]) c:=by
 simp[results,i]
def spare:a_:=⟨#[115,112,97,114,101]⟩
def IC(a b:f_)(c:b_):(callFunc 25 #[a,b]).run prog c=.ok (.enter 25 #[a,b]) c:=kr
def Az(d:b_)(I f P:Nat)(b0:lu)(v A z B r M x y:Int)(h k b bb:Nat)(C S:Option Addr)(u:Nat->Int)(l:Nat->a_)(a8:Int)(i:List Ac)(aQ:Nat->f_->b_->Prop)
 (a5:kP d I f P b0) (ci:P<=1850000) (bC:qo d C h u) (b6:Src d (.slice C h k) h<|((List.range h).map u).flatMap ka) (dI:h<=1800000) (b3:∀o,C=some o->0<h->o.block<d.heap.size/\¬b0.on f o.block)
 (aR:Src d (.slice S b bb) b<|od l b) (bG:OW d S b l) (dR:b<=1800000) (aW:∀o,S=some o->o.block<d.heap.size/\¬b0.on f o.block) (hA:i.length<=1800000)
 (b':∀(w:b_) (bg E g O:Nat),Below d.heap.size d w->bg<w.heap.size->qJ w bg b l->g<w.heap.size->(∀j,j<h->w.cell? (μ g j)=some (ν<|u j))->b<=E->Calls prog 25 #[.agg #[ν v,ν A,ν z,ν B,ν r,ν M,ν x,ω g h O,ν y],ω bg b E] w λe D=>∃aO,e=.returned aO/\∃K W,aO=.tuple #[K,W,ν a8]/\D.ownsRow w.heap.size 77 4 W i.length (i.flatMap ku)/\Below w.heap.size w D/\aQ w.heap.size K D):
 Calls prog 13 #[.agg #[ν v,ν A,ν z,ν B,ν r,ν M,ν x,.slice C h k,ν y],.slice S b bb,π f] d λe D=>∃K am ao bi X,e=.returned (.tuple #[K,am,ν a8,.bool true])/\kP D I f (P+5) ao/\qL d D f b0 ao/\D.ownsRow d.heap.size 77 4 am i.length (i.flatMap ku)/\(∀g,am.ownBlock=some g->¬ao.on f g/\X.heap.size<=g)/\
  d.heap.size<=bi/\aQ bi K X/\(∀(g:Nat) (aA:Array f_) (V:d_),bi<=g->X.heap[g]?=some (.cells aA V)->V≠77->D.heap[g]?=X.heap[g]?/\¬ao.on f g)/\X.heap.size<=D.heap.size:=by
 obtain⟨b4,bu,bK,bz,bt⟩:=Y4 Tryz.xU;obtain⟨cx,cw,c9,df,cQ⟩:=Y4 Tryz.po;obtain⟨L,bP,cA,a2,bZ⟩:=B9 d v A z B r M x y<|.slice C h k;have dy:=h_ a2;have de:=h_ bZ;have b8:=h_ a5;have c2:=h_ bC;have cE:=h_ b6;have bv:=h_ b3;have dL:=h_ aR;have cf:=h_ bG;have c':=h_ aW;have cI:=h_ b';have cY:Hid<|Src L (.slice S b bb) b<|od l b:=aR.nD (λo r e _=>by cases e;exact(aW o rfl).1) a2;have dx:Hid (∀g,b0.on f g->g<d.heap.size):=a5.here;clear a2 bZ a5 bC b6 b3 aR aW b' bG
 go_enter func13,ntmps13
 go_upto_region 1 with fail
 rw[<-bP];clear bP
 go_upto_region 3 with(at_builtin;go_must (refine kT rfl (.tmp 18) (.tmp 19) 30 rfl L.heap.size 9 b4 _ 1 16 underlying30 bu bK bz bt rfl (by decide) σ 0 [] rfl uY _ b (od l b) rfl cY.o (by rw[pB];omega) (L_ _ _) (by unfold maxLen;omega) (by omega) kM ?_;intro cc aD aP bY _))
 rw[YF,YT]at aP;have ar:Below L.heap.size L aD:=br.grown bY kM (λk ad=>by simp[Value.ownBlock]at ad);have cb:=h_<|jZ dy.o ar;have dV:=ar.size;have aF:=h_ aP;have b9:=h_ ((ar.block _ (by omega)).trans de.o);clear aP bY ar
 go_upto_region 4 with(at_builtin;go_must (refine Zl _ rfl (.tmp 21) (.tmp 22) 30 rfl L.heap.size 9 b4 _ 1 16 underlying30 bu bK bz bt rfl (by decide) cc b (od l b) rfl (aF.o.alloc _) (μ aD.heap.size 0) 1 1 [.string spare] rfl rfl (pz aD [.string spare] 9) (by simp[Value.oneCell']) (by unfold maxLen;omega) (by omega) (by simp;omega) ?_;intro dT ag ay aX _))
 have a3:Below d.heap.size d ag:=(jT cb.o<|.cells #[.string spare] 9).grown aX (by simp;omega) (λk ad=>by have:=(aF.o.lt k ad).1;omega);have aK:ag.heap[d.heap.size]?=some (.cells #[ν v,ν A,ν z,ν B,ν r,ν M,ν x,.slice C h k,ν y] 39):=(aX.block _ (by simp;omega) (λe=>by have:=(aF.o.lt _ e.symm).1;omega)).trans ((YQ aD _ (by omega)).trans b9.o);obtain⟨bg,E,rfl,dU,ce,dH⟩:=yA ay (by omega);have bM:qJ ag bg b l:=λj t=>by have:=ay.cells (g:=bg) rfl j (.string<|l j) (by rw[YK (by rw[pB];exact t)];exact uK l b j t);exact RG
 obtain⟨d0,d1,d2,d3,d4,d5,d6,d7,d8⟩:=kH aK;have c4:=a3.size;have bw:=h_ a3;have a6:=h_ aK;have bs:=h_ ay;have bX:=h_ bM;clear a3 aK ay bM aX aF b9 cb
 go_wp2_with fail
 refine(ti v A z B r M x y h k C ((List.range h).map u) ag (by simp) (by omega) (cE.o.nD (λo r e a9=>by cases e;exact(bv.o o rfl (Z0 λaL=>a9 (by rw[aL];rfl))).1) bw.o) λo e h0=>Yy (bv.o o e h0).1 c4).mono ?_;rintro e bD ⟨g,O,rfl,aB,aa⟩;have aI:=(aa.block d.heap.size (by have:=Yn a6.o;exact this)).trans a6.o;have bq:=h_<|jZ bw.o aa;have bk:=h_ aa;have aM:=h_ aB;have dN:=aa.size;have cX:=aB.lt g rfl;have dY:h+1<=O:=by obtain⟨dE,dJ,e,ae,_,_⟩:=yA aB (by omega);simp only[YN,aab]at e;omega
 obtain⟨aL,dv,cR,dB,cP,cq,c5,c7,c0⟩:=kH aI;have aS:=h_ aI;clear aB aa aI d0 d1 d2 d3 d4 d5 d6 d7 d8;have dD:(b:Int)<=(E:Int):=by omega
 go_upto_region 5 with fail
 obtain⟨m,ac⟩:=j5<|bD.alloc<|.cells #[ν v,ν A,ν z,ν B,ν r,ν M,ν x,ω g h O,ν y] 39;have N:=ba ac;have dF:m.heap.size=bD.heap.size+1:=by rw[ac];simp
 have az:=v' ac;rw[<-ac];clear ac;obtain⟨di,ct,dm,cm,c3,dC,dw,dA,z8⟩:=kH az;have bU:qJ m bg b l:=(bX.o.nD ce bk.o).nD (by omega) N
 have b2:∀j,j<h->m.cell? (μ g j)=some (ν<|u j):=λj t=>by
  rw[(ke N).1 _ _ cX.2]
  have:=aM.o.cells (g:=g) rfl j (ν<|u j) (by
   have e:((List.range h).map u++[70000])[j]?=some (u j):=by rw[YK (by simpa using t),Y9,Z5 t];rfl
   exact p5 _ j _ e)
  refine J9 ?_;intro e;rwa[e]at this
 have cW:=h_<|jZ bq.o N;have dr:=h_ (cI.o m.drew bg E g O (jZ bq.o N).drew (by show bg<m.heap.size;omega) bU (by show g<m.heap.size;omega) b2<|by omega);have aY:Hid<|m.heap[d.heap.size]?=some (.cells #[ν v,ν A,ν z,ν B,ν r,ν M,ν x,.slice C h k,ν y] 39):=(N.block _ (Yn aS.o)).trans aS.o;have bj:=h_ az;have cF:Hid<|m.ownsRow L.heap.size 9 1 (ω bg (b+1) E) (b+1)<|od l b++[.string spare]:=jY (jY bs.o bk.o) N;have dj:Hid<|m.ownsRow ag.heap.size 3 1 (ω g (h+1) O) (h+1)<|((List.range h).map u++[70000]).flatMap ka:=jY aM.o N;have cn:=Yn aY.o;have cK:=Yn az;clear N az bU b2 aL dv cR dB cP cq c5 c7 c0 bs aM bX aS a6
 go_cut [12,13,14]from 26 to 35 (λK W cl aU=>cl=ν a8/\aU.ownsRow m.heap.size 77 4 W i.length (i.flatMap ku)/\Below m.heap.size m aU/\aQ m.heap.size K aU)
 case first=>
  go_region_law (first
   |(refine ki rfl 25 #[.tmp 27,.tmp 31] #[39,30] rfl #[.agg #[ν v,ν A,ν z,ν B,ν r,ν M,ν x,ω g h O,ν y],ω bg b E] (by first|(simp[Act.eval];done)|simp[Act.eval,Act.put]) (IC _ _ _) _ dr.o ?_;rintro aO ea ⟨K,W,rfl,ax,F,an⟩))
  all_goals
   go_wp2
   go_meet
   exact⟨rfl,ax,kx F,an⟩
 case rest=>
  obtain⟨rfl,ax,F,an⟩:=hcut;have dG:=F.size;have aN:=h_<|jZ cW.o F;have dK:I<=d.heap.size:=b8.o.lo.2;have dz:=h_ F;have cO:=h_ an;have U:=h_ ax;obtain⟨cs,cL,dd,ds,cD,cT,cJ,cH,cM⟩:=kH<|(F.block _ cK).trans bj.o;obtain⟨dk,cB,ck,dn,c6,dp,cS,dl,cg⟩:=kH<|(F.block _ cn).trans aY.o;have be:∀a,d.heap.size<=a->¬b0.on f a:=λa c J=>by have:=dx.o a J;omega
  have bT:=h_ be;have bV:=h_ (yg v A z B r M x y v A z B r M x y h k O g f P I C u b0 wc (b8.o.below aN.o) ci (c2.o.nD aN.o) (by omega) (j9 (jY dj.o F)<|by omega) (be g<|by omega));clear F an ax be di ct dm cm c3 dC dw dA z8 bj aY
  go_wp2_with fail
  refine bV.o.mono ?_;rintro e s ⟨rfl,ai,bx,Y⟩;have aZ:Hid<|qL d s f b0 ai:=((qL.refl d f b0).below aN.o).book Y (λa c=>by have e:some g=some a:=c;cases e;omega);have cu:=h_ bx
  have dh:∀a,d.heap.size<=a->a<wc.heap.size->a≠g->s.heap[a]?=wc.heap[a]?/\¬ai.on f a:=λa ae aG ap=>⟨Y.keep a aG (bT.o a ae) (λe=>ap (by have a':some g=some a:=e;cases a';rfl)),λJ=>by
   rcases Y.on a J with n|n|n
   .exact bT.o a ae n
   .exact ap (by have a':some g=some a:=n;cases a';rfl)
   .omega⟩
  have a4:=h_ dh;have dX:=Y.size;clear bx Y cs cL dd ds cD cT cJ cH cM dk cB ck dn c6 dp cS dl cg bV;have bH:bg≠g:=by omega
  have eb:L.heap.size=d.heap.size+1:=cA;have aJ:Hid<|s.ownsRow L.heap.size 9 1 (ω bg (b+1) E) (b+1)<|od l b++[.string spare]:=jV (jY cF.o dz.o) λa c=>by have e:some bg=some a:=c;cases e;exact(a4.o bg (by omega) (by omega) bH).1
  have dt:Hid (∀j,j<b->s.cell? (μ bg j)=some (.string<|l j)):=λj t=>by have:=aJ.o.cells (g:=bg) rfl j (.string<|l j) (by rw[YK (by rw[pB];exact t)];exact uK l b j t);exact RG
  have cy:Hid<|s.cell? (μ bg b)=some (.string spare):=by
   have:=aJ.o.cells (g:=bg) rfl b (.string spare) (by rw[YP (by rw[pB];exact YC _),pB,abk];rfl);have e:((μ bg 0):Addr).add b=(μ bg b):=by by_cases h0:b=0<;>simp[Addr.add,h0]
   rwa[e]at this
  have da:Hid<|OW s S b l:=λj t=>by obtain⟨a,au,e,c,ch⟩:=cf.o j t;have bc:=c'.o (μ a au) e;refine⟨a,au,e,Yy c aZ.o.size,?_⟩;rw[ZL (a:=μ a<|au+j)<|aZ.o.keep a bc.1 bc.2];exact ch
  go_wp2_with fail
  go_loopw [15,16] (λdq bd wr=>∃(j Z:Nat),dq=.bool true/\bd=ν j/\j<=b/\wr=s.drewN Z) (λ_ bd _=>b-(intOf bd).toNat)
  case atStart=>exact⟨0,0,rfl,rfl,YG _,rfl⟩
  case round=>
   obtain⟨j,Z,rfl,rfl,t,rfl⟩:=hrel;by_cases a7:j<b
   .obtain⟨a,au,rfl,c,d'⟩:=da.o j a7;have bB:=dt.o j a7;have bS:Hid<|j+1<=b:=a7;refine Gy ?_;intro cz;have ec:(j:Int)<(b:Int)+1:=by omega
    go_wp2_with fail
    go_quiet (fail)
    go_wp2
    go_roundw
    case rel=>exact⟨j+1,_,rfl,by first|rw[cz.o]|rfl,bS.o,rfl⟩
    case measure=>have:=bS.o;first|(rw[cz.o];simp only[intOf];omega)|(simp only[intOf];omega)
   .obtain rfl:j=b:=by omega
    have bJ:=cy.o;unfold spare at bJ
    go_wp2_with fail
    have T:Below s.heap.size s<|s.drewN Z:=YL br Z;obtain⟨aE,bf⟩:=j5<|s.drewN Z;rw[<-bf]at T⊢;have dM:aE.heap.size=s.heap.size:=by rw[bf];rfl
    clear bf;have ca:∀a,(m.heap.size<=a/\a<wc.heap.size)->a<wc.heap.size/\aE.heap[a]?=wc.heap[a]?/\¬ai.on f a:=λa c=>by obtain⟨ak,af⟩:=a4.o a (by omega) c.2 (by omega);exact⟨c.2,(T.block a<|by omega).trans ak,af⟩
    have c1:=h_ ca;have a1:((List.range j).map l++[spare]).length=j+1:=by simp
    have b5:aE.ownsRow I 9 1 (ω bg (j+1) E) ((List.range j).map l++[spare]).length<|((List.range j).map l++[spare]).flatMap nS:=by rw[a1,YX];exact j9 (jY aJ.o T)<|by omega
    refine(Ih aE I f (P+2) ai _ ((List.range j).map l++[spare]) (cu.o.below T) (by omega) b5 (by rw[a1];omega) (λa c=>?_)).mono ?_
    .have e:some bg=some a:=c;cases e;exact(a4.o bg (by omega) (by omega) bH).2
    rintro e b1 ⟨rfl,bp,bN,al,_,_⟩;have dg:Hid<|qL d b1 f b0 bp:=(aZ.o.below T).book al.ft (λa c=>by have e:some bg=some a:=c;cases e;omega);have du:=h_ (G2 c1.o (by omega) al.ft (λa c e=>by have e:some bg=some a:=e;cases e;omega));have cd:=h_ bN;have dZ:=al.size;clear bN al b5 a1 bJ ca T
    go_wp2_with fail
    refine(xk b1 I f (P+2+1) bp cd.o<|by omega).mono ?_;rintro e ab ⟨rfl,bh,bR,aw,_,_⟩;have bA:Hid<|qL d ab f b0 bh:=dg.o.book aw.ft (λa c=>by simp[Value.ownBlock]at c);have b7:=h_ (G2 du.o (by omega) aw.ft (λa c e=>by simp[Value.ownBlock]at e));have aT:=h_ bR;have dQ:=aw.size;have aC:ab.ownsRow m.heap.size 77 4 u13 i.length<|i.flatMap ku:=jV U.o λa c=>(b7.o a<|U.o.lt a c).2.1;have db:=h_ aC;have cC:=h_<|sZ aC;obtain⟨bl,bL,cV,_⟩:=i_ aC;clear bR aw aC;subst cV
    go_upto_region 16 with(at_builtin;go_must (refine kT rfl (.tmp 72) (.tmp 73) 31 rfl ab.heap.size 77 cx _ 4 40 underlying31 cw c9 df cQ rfl (by decide) σ 0 [] rfl uY _ i.length (i.flatMap ku) rfl cC.o (mn ku 4 (λ_=>rfl) _) (oC _) (by unfold maxLen;omega) (by omega) kM ?_;intro am av aq bI _))
    rw[YF,YT]at aq;have R:Below ab.heap.size ab av:=br.grown bI kM (λk ad=>by simp[Value.ownBlock]at ad);have dS:=R.size;have bm:Hid (∀a,(m.heap.size<=a/\a<wc.heap.size)->a<wc.heap.size/\av.heap[a]?=wc.heap[a]?/\¬bh.on f a):=λa c=>by obtain⟨ak,af,aj⟩:=b7.o a c;exact⟨ak,(R.block a<|by omega).trans af,aj⟩
    have bW:av.ownsRow I 77 4 (.slice bl i.length bL) i.length<|i.flatMap ku:=j9 (jY db.o R) (by omega);have aH:=h_ aq;have cU:=h_<|bA.o.below R;have dW:=h_ R;have bO:=aT.o.below R;obtain⟨a0,co,cp,_⟩:=i_ aq;subst cp;clear aq bI
    go_wp2_with fail
    refine(C6 av I f (P+2+1+1) bh _ i bO (by omega) bW (by omega) (λa c=>(bm.o a<|U.o.lt a c).2.2)).mono ?_;rintro e aV ⟨rfl,ah,bE,Q,_,_⟩
    have bn:∀a,Value.ownBlock (.slice a0 i.length co)=some a->¬ah.on f a/\wc.heap.size<=a:=λa c=>by
     have bc:=aH.o.lt a c;refine⟨λJ=>?_,by omega⟩;rcases Q.on a J with n|n|n
     .have:=aT.o.here a n;omega
     .have:=(U.o.lt a n).2;omega
     .omega
    have bo:aV.ownsRow d.heap.size 77 4 (.slice a0 i.length co) i.length<|i.flatMap ku:=j9 (jV aH.o λa c=>Q.keep a (aH.o.lt a c).2 (λJ=>by have:=aT.o.here a J;have:=(aH.o.lt a c).1;omega)) (by have:=bA.o.size;omega);have bF:qL d aV f b0 ah:=cU.o.book Q.ft (λa c=>by have:=(U.o.lt a c).1;omega)
    have bQ:∀(a:Nat) (aA:Array f_) (V:d_),m.heap.size<=a->wc.heap[a]?=some (.cells aA V)->V≠77->aV.heap[a]?=wc.heap[a]?/\¬ah.on f a:=λa aA V ae aG ap=>by
     have cG:=Yn aG;have a9:Value.ownBlock (.slice bl i.length bL)≠some a:=λe=>by obtain⟨dO,bB⟩:=jU U.o a e;exact km aG bB ap rfl
     obtain⟨ak,af,aj⟩:=bm.o a ⟨ae,cG⟩;refine⟨(Q.keep a (by omega) aj).trans af,λJ=>?_⟩;rcases Q.on a J with n|n|n
     .exact aj n
     .exact a9 n
     .omega
    have dP:=Q.size;have cv:=h_ bE;have cN:=h_ bn;have cj:=h_ bo;have cZ:=h_ bF;have c8:=h_ bQ;clear bE Q bn bo bF bQ bO bW R;go_wp2;refine Yx (BF rfl _ _ _) rfl ?_;exact⟨u12,.slice a0 i.length co,ah,m.heap.size,wc,rfl,cv.o,cZ.o,cj.o,cN.o,by omega,cO.o,c8.o,by omega⟩
def yB(w:b_)(c c':Nat->Nat):Prop:=∀a,a<w.heap.size->c a≠1->c' a=c a
def yB.Sk{w:b_}{c c':Nat->Nat}(f:yB w c c'):∃e,mD w c e/\∀a,e a≠1->c' a=e a:=by
 refine⟨λa=>if a<w.heap.size then c a else c' a,λa b=>Ys b,λa b=>?_⟩;by_cases d:a<w.heap.size
 .simp only[Ys d]at b⊢;exact f a d b
 .simp only[Yo d]
section
variable {w w':b_}{B:Nat}{c c':Nat->Nat}{k:Nat}
def j3.Dt{j:pL}{i:j4}{left:lw}{h:Nat}{l:Nat->a_}{m:Nat->Bool}(a:j3 w B c j i left h l m)(p:∀b,c b≠1->c' b=c b):j3 w B c' j i left h l m:=by have d:∀{b n},c b=n->n≠1->c' b=n:=λ{b n} f g=>(p b (by rw[f];exact g)).trans f;refine⟨a.dev,a.kA,a.inj,a.Aq,a.Cd,a.qI,a.tf,a.wt,a.lf,λq s o=>?_,d a.cr dc,λt r=>d (a.cG t r) dc,d a.cy dc,d a.cz dc,λb e=>d (a.cw b e) dc,λb e=>d (a.cl b e) dc,d a.cb dc,a.lo⟩;let⟨u,f,g,v⟩:=a.GH q s o;exact⟨u,f,g,λb e=>d (v b e) dc⟩
def kw.Dt{h:me}{f:j4}{i:Ls}{g:Nat}(b:kw w B c h f i g)(j:∀a,c a≠1->c' a=c a):kw w B c' h f i g:=by have e:∀{a n},c a=n->n≠1->c' a=n:=λ{a n} h1 h2=>(j a (by rw[h1];exact h2)).trans h1;exact⟨b.n_,b.dk,b.wet,e b.cg dc,λa d=>e (b.cd a d) dc,λa d=>e (b.cw a d) dc,b.lo⟩
def j3.vz{b:pL}{a:j4}{left:lw}{d:Nat}{e:Nat->a_}{f:Nat->Bool}(m:j3 w B c b a left d e f)(o:Fc c k w w')(h:yB w c c')(n:k≠3)(l:k≠4)(i:k≠5):j3 w' B c' b a left d e f:=by let⟨p,g,j⟩:=h.Sk;exact(m.frame o g n l i).Dt j
def kw.vz{d:me}{a:j4}{e:Ls}{b:Nat}(f:kw w B c d a e b)(l:Fc c k w w')(h:yB w c c')(j:k≠7):kw w' B c' d a e b:=by let⟨m,g,i⟩:=h.Sk;exact(f.frame l g j).Dt i
end
structure Cf where
 (s0 s1 s2 s3 c h u n b:Nat)
 kn:Nat->Nat
 hp:Nat->Option Obj
structure Fx(F:Cf)(w:b_)(B:Nat)(c:Nat->Nat):Prop where
 mw:∀g o,F.hp g=some o->w.heap[g]?=some o
 ob:∀g o,F.hp g=some o->c g=6
 lo:∀g o,F.hp g=some o->B<=g
 ty:∀g o,F.hp g=some o->∃(cur:Array f_) (t:d_),o=.cells cur t
section
variable {F:Cf}{w w':b_}{B:Nat}{c c':Nat->Nat}{k:Nat}
def Fx.frame(b:Fx F w B c)(i:Fc c k w w')(h:mD w c c')(j:k≠6):Fx F w' B c':=by
 refine⟨λa e d=>?_,λa e d=>(h a ?_).trans<|b.ob a e d,b.lo,b.ty⟩
 .obtain⟨g,f,rfl⟩:=b.ty a e d;exact(i.all a g f (b.mw a _ d) (by rw[b.ob a _ d];omega)).trans (b.mw a _ d)
 .obtain⟨g,f,rfl⟩:=b.ty a e d;exact Yn (b.mw a _ d)
theorem Fx.nc(a:Fx F w B c):Fx F w B (nc w B c):=⟨a.mw,λd e b=>Ay (a.lo d e b) (a.ob d e b) dc,a.lo,a.ty⟩
def Fx.Dt(b:Fx F w B c)(f:∀a,c a≠1->c' a=c a):Fx F w B c':=⟨b.mw,λa e d=>(f a (by rw[b.ob a e d];decide)).trans<|b.ob a e d,b.lo,b.ty⟩
def Fx.vz(f:Fx F w B c)(g:Fc c k w w')(e:yB w c c')(b:k≠6):Fx F w' B c':=by let⟨h,d,a⟩:=e.Sk;exact(f.frame g d b).Dt a
end
def Cf.z(F:Cf):Nat:=(F.c+7)/8+2*F.h
def Cf.sec(F:Cf):Nat:=max 1 ((F.z+61)/62)
structure nN(F:Cf):Prop where
 s0:F.s0<=60
 s1:F.s1<=60
 s2:F.s2<=60
 s3:F.s3<=60
 c:F.c<=F.s0
 h:F.h<=F.s2
 u:1<=F.u/\F.u<=247
 n:1<=F.n/\F.n<=4
 b:1<=F.b/\F.b<=8
 kn:∀j,j<F.n->F.kn j<=1
def Cf.dev(F:Cf)(B b d:Nat)(a:a_):j4:=Tz F.s0 F.s1 F.s2 F.s3 F.c F.h F.u F.n F.b F.sec F.kn B b d a
def AA(w:b_)(B e z:Nat)(c:Nat->Nat)(A:lu)(F:Cf)(k h S:Nat)(E y:Option Addr)(a:Nat->a_)
 (bz:rI w B c e z A) (X:wX w B c) (hF:nN F) (aq:z<=1850000) (aA:qo w E F.n λm=>(F.kn m:Nat)) (aw:Src w (.slice E F.n k) F.n<|((List.range F.n).map λm=>((F.kn m:Nat):Int)).flatMap ka) (af:∀s,E=some s->0<F.n->s.block<w.heap.size/\¬A.on e s.block)
 (al:Src w (.slice y h S) h<|od a h) (aG:OW w y h a) (Z:2*F.sec<=h/\h<=64) (aE:∀s,y=some s->s.block<w.heap.size/\¬A.on e s.block) (aB:∀m,m<h->(a m).size=64):
 Calls prog 13 #[.agg #[ν F.s0,ν F.s1,ν F.s2,ν F.s3,ν F.c,ν F.h,ν F.u,.slice E F.n k,ν F.b],.slice y h S,π e] w λD w'=>∃J C o c' j,D=.returned (.tuple #[π J.d,C,ν 0,.bool true])/\rI w' B c' e (z+5) o/\wX w' B c'/\lA w' B c' J (F.dev j (lM a F.sec) (o1 a F.sec)<|ly F.z F.sec a)/\
  w'.ownsRow w.heap.size 77 4 C (kN a F.sec (lM a F.sec)<|o1 a F.sec).length ((kN a F.sec (lM a F.sec)<|o1 a F.sec).flatMap ku)/\(∀g,C.ownBlock=some g->c' g=9)/\yB w c c'/\Fc c 1 w w':=by
 have aK:=bz.bk.lo.2;have ak:F.sec=max 1 ((F.z+61)/62):=rfl;have ao:F.z=(F.c+7)/8+2*F.h:=rfl;have aO:=hF.c;have aN:=hF.h;have aP:=hF.s0;have n:=hF.s2
 have aL:(kN a F.sec (lM a F.sec)<|o1 a F.sec).length<=900000:=by
  have:=(yq a F.sec (lM a F.sec) (o1 a F.sec) (sK ..) (xN ..) 2).2.2;unfold kN;split
  .simp
  .exact zU
 refine(Az w B e z A F.s0 F.s1 F.s2 F.s3 F.c F.h F.u F.b F.n k h S E y (λm=>(F.kn m:Nat)) a 0 (kN a F.sec (lM a F.sec)<|o1 a F.sec) (λj aa l=>∃v,aa=π v/\Sf l v (F.dev j (lM a F.sec) (o1 a F.sec)<|ly F.z F.sec a)) bz.bk aq aA aw (li hF.n) af al aG om aE om ?_).mono ?_
 .intro ag ae ai g am _ aJ aI hg L aH;refine(L5 F.s0 F.s1 F.s2 F.s3 F.c F.h F.u F.n am F.b g ae h ai F.z F.sec F.kn a ag hF.s0 hF.s1 hF.s2 hF.s3 hF.c hF.h ao ak hF.u.1 hF.u.2 hF.n.1 hF.n.2 hF.b.1 hF.b.2 hg L hF.kn aH Z.1 Z.2 aJ aI aB).mono ?_;rintro D w' ⟨v,ah,rfl,aj,an,ax⟩;exact⟨_,rfl,_,ah,rfl,an,ax,v,rfl,aj⟩
 .rintro D w' ⟨aa,C,o,j,l,rfl,ad,hK,T,ab,aR,⟨v,rfl,aC,ar,au,ap,b⟩,aF,aM⟩;have Y:(F.dev j (lM a F.sec) (o1 a F.sec)<|ly F.z F.sec a).base=j:=rfl
  let⟨i,I⟩:∃i:Nat->Nat,∀g,(g<w.heap.size->i g=c g)/\(w.heap.size<=g->o.on e g->i g=1)/\(w.heap.size<=g->¬o.on e g->g<l.heap.size->i g=2)/\(w.heap.size<=g->¬o.on e g->l.heap.size<=g->i g=9):=by
   classical
   refine⟨λg=>if g<w.heap.size then c g else if o.on e g then 1 else if g<l.heap.size then 2 else 9,λg=>⟨λM=>Ys M,λM d=>?_,λM d n=>?_,λM d n=>?_⟩⟩
   .simp only[Yo (show¬g<w.heap.size by omega),Ys d]
   .simp only[Yo (show¬g<w.heap.size by omega),Yo d,Ys n]
   .simp only[Yo (show¬g<w.heap.size by omega),Yo d,Yo (show¬g<l.heap.size by omega)]
  have f:∀{g:Nat}{cur:Array f_}{t:d_},j<=g->l.heap[g]?=some (.cells cur t)->t≠77->w'.heap[g]?=l.heap[g]?/\i g=2:=λ{g cur t} d n h3=>by let⟨J,az⟩:=aF g cur t d n h3;exact⟨J,(I g).2.2.1 om az (Yn n)⟩
  have av:rI w' B i e (z+5)<|o.trim w':=by
   refine⟨ad.trim,λg hg=>?_,λg hg=>?_,λg hg=>ad.plain hg⟩
   .have ac:=lu.sO hg;rcases Zj g w.heap.size with U|U
    .rw[(I g).1 U];rcases hK.on g ac with r|r
     .exact bz.ob g r
     .omega
    .exact(I g).2.1 U ac
   .exact Sa
  let⟨N,P,V,R⟩:=b.lo;rw[Y]at N P V R;let⟨aQ,L⟩:=b.lines.block
  have ay:lA w' B i ⟨0,v,aC,ar,au,ap,⟨0,0,0,0,0,λ_=>0,σ,σ,[],F.dev 0 0 0 ⟨#[]⟩⟩,σ,σ⟩<|F.dev j (lM a F.sec) (o1 a F.sec)<|ly F.z F.sec a:=by
   refine lA.of ⟨(f N b.dev dc).1.trans b.dev,b.lines.same (f P L dc).1,λx u=>?_,b.inj,(f V b.store dc).1.trans b.store,jV b.wait λg hg=>?_,b.lo,⟨λ_ _=>rfl,λ_ _=>rfl⟩⟩ (f N b.dev dc).2 (f P L dc).2 (f V b.store dc).2 (λx u=>?_) (λg hg=>?_)<|p1 Y
   .let⟨Q,q⟩:=(b.ent x u).block;exact(b.ent x u).same (f (R x u) q dc).1
   .let⟨Q,q⟩:=jU b.wait g hg;exact(f (b.wait.lt g hg).1 q dc).1
   .let⟨Q,q⟩:=(b.ent x u).block;exact(f (R x u) q dc).2
   .let⟨Q,q⟩:=jU b.wait g hg;exact(f (b.wait.lt g hg).1 q dc).2
  have W:∀g,c g≠1->¬A.on e g:=λg d n=>d<|bz.ob g n;refine⟨_,C,o.trim w',nc w' B i,j,rfl,av.nc,qW ..,ay.nc,T,lN T aK dc dc (λg hg=>(I g).2.2.2 (T.lt g hg).1 (ab g hg).1 (ab g hg).2),λg hg d=>?_,⟨hK.os,hK.tape,hK.output,hK.size,λg _ _ hg d=>hK.keep g (Yn hg)<|W g d,λg hg d _=>hK.keep g hg<|W g om⟩⟩;unfold nc;by_cases K:g<B
  .rw[Ys K,(X.zero g).2 K]
  .rw[Yo K];have aD:c g≠0:=λD=>K<|(X.zero g).1 D;rw[(I g).1 hg,Yo aD]
structure mK(D:j4)(F:Cf):Prop where
 sz:D.sz=ue F.s0 F.s1 F.s2 F.s3
 kp:D.kp=λi=>if i=0 then F.c else if i=2 then F.h else 0
 unit:D.unit=F.u
 nl:D.nl=F.n
 batch:D.batch=F.b
 sec:D.sec=F.sec
 kind:∀i,(D.ln i).kind=F.kn i
def Cf.Ev(F:Cf)(B d e:Nat)(a:a_):mK (F.dev B d e a) F:=⟨rfl,rfl,rfl,rfl,rfl,rfl,λ_=>rfl⟩
structure nJ(w:b_)(B:Nat)(c:Nat->Nat)(q:me)(kb m:Nat)(b:lu)(F:Cf)(D:j4)(s:Ls)(left:lw)(A0:Nat)(ys:Nat->a_)(zs:Nat->Bool)(nd:Nat):Prop where
 bk:rI w B c kb m b
 rf:j3 w B c q.p q.p.rd left A0 ys zs
 rg:kw w B c q D s nd
 nr:wX w B c
 lb:B<=q.p.lb
 cf:mK D F
 cr:mK q.p.rd F
 fx:Fx F w B c
def Fc.toBelow{w w':b_}{B d:Nat}{c:Nat->Nat}(a:Fc c d w w')(g:wX w B c)(h:d≠0)(i:B<=w.heap.size):Below B w w':=⟨a.os,a.tape,a.output,a.size,λe f=>a.low e om ((g.zero e).2 f) h⟩
section
variable {w w':b_}{B:Nat}{c c':Nat->Nat}{q:me}{kb m:Nat}{b:lu}{F:Cf}{D:j4}{s:Ls}{left:lw}{A0:Nat}{ys:Nat->a_}{zs:Nat->Bool}{nd:Nat}
def nJ.norm(g:rI w B c kb m b)(rf:j3 w B c q.p q.p.rd left A0 ys zs)(f:kw w B c q D s nd)(a:B<=q.p.lb)(d:mK D F)(cr:mK q.p.rd F)(e:Fx F w B c):nJ w B (nc w B c) q kb m b F D s left A0 ys zs nd:=
 ⟨g.nc,rf.nc a,f.nc,qW ..,a,d,cr,e.nc⟩
def nJ.below(a:nJ w B c q kb m b F D s left A0 ys zs nd)(d:Below w.heap.size w w'):nJ w' B (nc w' B<|kU w c 9) q kb m b F D s left A0 ys zs nd:=
 nJ.norm (a.bk.frame (k:=9) (Fc.jX d) (jW w c 9) dc) (a.rf.frame (k:=9) (Fc.jX d) (jW w c 9) dc dc dc) (a.rg.frame (k:=9) (Fc.jX d) (jW w c 9) dc) a.lb a.cf a.cr (a.fx.frame (k:=9) (Fc.jX d) (jW w c 9) dc)
def nJ.cells(d:nJ w B c q kb m b F D s left A0 ys zs nd)(x:0<nd):∃e g,q.dv=.slice (some (μ e 0)) nd g/\e<w.heap.size/\c e=7/\(∀f,f<nd->w.cell? (μ e f)=some (.string<|s.dk f))/\
 w.cell? (μ q.g 0)=some (π q.d)/\w.cell? (μ q.g 1)=some (π q.p.r)/\w.cell? (μ q.g 2)=some (ν F.s0)/\w.cell? (μ q.g 3)=some (ν F.s1)/\w.cell? (μ q.g 4)=some (ν F.s2)/\w.cell? (μ q.g 5)=some (ν F.s3)/\w.cell? (μ q.g 6)=some (ν F.c)/\w.cell? (μ q.g 7)=some (ν F.h)/\w.cell? (μ q.g 8)=some (ν F.u)/\w.cell? (μ q.g 9)=some (.slice (some (μ q.p.lb 0)) F.n q.p.cap)/\w.cell? (μ q.g 10)=some (ν F.b)/\w.cell? (μ q.g 11)=some (.slice (some (μ e 0)) nd g)/\w.cell? (μ q.g 12)=some q.wt/\w.cell? (μ q.g 13)=some (ν s.least)/\(∀f,w.frozen? (μ q.g f)=false)/\q.g<w.heap.size:=by
 let⟨e,g,i,t,y,v,z⟩:=d.rg.OS x;let⟨o,l,p,n,r,u,k⟩:=d.rg.cells;have a:=d.rg.n_;have h:=d.cf.sz;have j:=d.cf.kp;refine⟨e,g,i,t,y,v,o,l,?_,?_,?_,?_,?_,?_,?_,?_,?_,?_,n,r,u,k⟩
 .rw[Yu _ _ _ _ _ _ a];show some (ν ((D.sz 0:Nat):Int))=_;rw[h];rfl
 .rw[Yu _ _ _ _ _ _ a];show some (ν ((D.sz 1:Nat):Int))=_;rw[h];rfl
 .rw[Yu _ _ _ _ _ _ a];show some (ν ((D.sz 2:Nat):Int))=_;rw[h];rfl
 .rw[Yu _ _ _ _ _ _ a];show some (ν ((D.sz 3:Nat):Int))=_;rw[h];rfl
 .rw[Yu _ _ _ _ _ _ a];show some (ν ((D.kp 0:Nat):Int))=_;rw[j];rfl
 .rw[Yu _ _ _ _ _ _ a];show some (ν ((D.kp 2:Nat):Int))=_;rw[j];rfl
 .rw[Yu _ _ _ _ _ _ a];show some (ν ((D.unit:Nat):Int))=_;rw[d.cf.unit]
 .rw[Yu _ _ _ _ _ _ a];show some (Value.slice (some (μ q.p.lb 0)) D.nl q.p.cap)=_;rw[d.cf.nl]
 .rw[Yu _ _ _ _ _ _ a];show some (ν ((D.batch:Nat):Int))=_;rw[d.cf.batch]
 .rw[p,i]
end
structure VJ(w0 wx:b_)(B:Nat)(c1:Nat->Nat)(q:me)(kb m1:Nat)(b1:lu)(F:Cf)(D:j4)(s:Ls)(left:lw)(A0:Nat)(ys:Nat->a_)(zs:Nat->Bool)(nd lat st:Nat)(d:a_)(q1:me)(ov:f_)(N:Nat)(o:nE):Prop where
 sb:nJ wx B c1 q kb m1 b1 F D s left A0 ys zs nd
 dv:lA wx B c1 q1<|F.dev N lat st d
 ow:wx.ownsRow B 77 4 ov (kN s.dk F.sec lat st).length<|(kN s.dk F.sec lat st).flatMap ku
 co:∀g,ov.ownBlock=some g->c1 g=9
 cm:Calm F.z F.sec nd lat st d s
 ix:GZ F.c F.h left s.least d
 bx:wx.heap[w0.heap.size]?=some (.cells (k9 o) 42)
 cb:c1 w0.heap.size=9
 bl:Below B w0 wx
def L'(g w:b_)(B:Nat)(c:Nat->Nat)(q:me)(kb m:Nat)(b:lu)(F:Cf)(D:j4)(s:Ls)(left:lw)(A0:Nat)(ys:Nat->a_)(zs:Nat->Bool)(nd Q O l u:Nat)(v:a_)(S:nE)(d:nJ w B c q kb m b F D s left A0 ys zs nd)(hF:nN F)(Z:m<=1850000)(N:2*F.sec<=nd/\nd<=64)(t:Calm F.z F.sec nd Q O v s)(ak:GZ F.c F.h left s.least v)(R:q.dv=.slice (some (μ l 0)) nd u)
 (p:w.heap[g.heap.size]?=some (.cells (k9 S) 42)) (z:c g.heap.size=9) (ae:Below B g w):
 Calls prog 13 #[.agg #[ν F.s0,ν F.s1,ν F.s2,ν F.s3,ν F.c,ν F.h,ν F.u,.slice (some (μ q.p.lb 0)) F.n q.p.cap,ν F.b],.slice (some (μ l 0)) nd u,π kb] w λn w'=>∃U,n=.returned U/\∃h k A c' E,U=.tuple #[π h.d,k,ν 0,.bool true]/\VJ g w' B c' q kb (m+5) A F D s left A0 ys zs nd Q O v h k E S:=by
 have V:=d.bk.bk.lo.2;let⟨aj,Y,W⟩:=t.dk;have an:1<=F.sec:=by unfold Cf.sec;omega
 let⟨am,ao,x,P,ab,af,_⟩:=d.cells<|li N.1;rw[R]at x;simp only[YN,Yz,ZP,ZV,aab]at x;obtain⟨rfl,rfl⟩:=x;let⟨aq,ad⟩:=d.rf.Aq;have K:=Yn ad;have J:∀i,c i≠1->¬b.on kb i:=λi j y=>j<|d.bk.ob i y;have I:∀a,a<F.n->w.cell? (μ q.p.lb a)=some (ν<|F.kn a):=λa e=>by rw[d.rf.Cd a (by rw[d.cr.nl];exact e),d.cr.kind]
 have ai:=hF.kn;refine(AA w B kb m c b F q.p.cap nd u (some (μ q.p.lb 0)) (some (μ l 0)) s.dk d.bk d.nr hF Z ?_ ?_ ?_ ?_ ?_ N ?_ t.size).mono ?_
 .intro a e;refine⟨q.p.lb,0,rfl,K,by rw[YF];exact I a e,?_,?_⟩
  .show(-9223372036854775808:Int)<=((F.kn a:Nat):Int);omega
  .show((F.kn a:Nat):Int)<=9223372036854775807;have:=ai a e;omega
 .refine .inr ⟨_,_,rfl,λa al e=>?_⟩;obtain⟨ap,j,rfl⟩:=x8 _ a al e;rw[Y9]at j;obtain⟨ar,y,rfl⟩:=Zk.1 j;let⟨M,L⟩:=Yr.1 y;simp at M L;subst L;have n:((μ q.p.lb 0):Addr).add a=(μ q.p.lb a):=by by_cases ag:a=0<;>simp[Addr.add,ag]
  rw[n];exact I a M
 .intro ac C _;cases C;exact⟨K,J _ (qx d.rf.cb)⟩
 .have:=sZ d.rg.dk;rw[R]at this;exact this
 .exact λa e=>⟨l,0,rfl,P,by rw[YF];exact af a e⟩
 .intro ac C;cases C;exact⟨P,J _ (qx ab)⟩
 .rintro n w' ⟨h,k,A,c',E,rfl,ah,X,r,T,aa,o,f⟩;rw[aj,Y]at T r;rw[W]at r;refine⟨_,rfl,h,k,A,c',E,rfl,⟨ah,d.rf.vz f o dc dc dc,d.rg.vz f o dc,X,d.lb,d.cf,d.cr,d.fx.vz f o dc⟩,r,j9 T V,aa,t,ak,(f.keep _ _ _ p (.inl dc) (qx z)).trans p,(o _ (Yn p) (qx z)).trans z,ae.trans<|f.toBelow d.nr dc V⟩
def kP.more{b:b_}{e d c m':Nat}{f:lu}(a:kP b e d c f)(g:c<=m'):kP b e d m' f:=
 ⟨a.mw,a.LI,a.LF,a.LA,a.LT,a.PI,a.PF,a.PA,a.PT,a.CI,a.WI,a.CF,a.WF,a.CA,a.WA,a.CT,a.WT,⟨a.nI.1,by have:=a.nI.2;omega⟩,⟨a.nF.1,by have:=a.nF.2;omega⟩,⟨a.nA.1,by have:=a.nA.2;omega⟩,⟨a.nT.1,by have:=a.nT.2;omega⟩,a.xI,a.xF,a.xA,a.xT,a.here,a.lo⟩
def nJ.more{h:b_}{e i d m' c k:Nat}{b:Nat->Nat}{m:me}{f:lu}{l:Cf}{g:j4}{n:Ls}{left:lw}{j:Nat->a_}{o:Nat->Bool}(a:nJ h e b m i d f l g n left c j o k)(p:d<=m'):nJ h e b m i m' f l g n left c j o k:=
 ⟨⟨a.bk.bk.more p,a.bk.ob,a.bk.hi,a.bk.ty⟩,a.rf,a.rg,a.nr,a.lb,a.cf,a.cr,a.fx⟩
def Cf.u9{a:Cf}(hF:nN a):1<=a.sec/\a.sec<=3/\a.z<=62*a.sec:=by have b:=hF.c;have d:=hF.h;have g:=hF.s0;have e:=hF.s2;have c:a.z=(a.c+7)/8+2*a.h:=rfl;have f:a.sec=max 1 ((a.z+61)/62):=rfl;omega
def VK(o j:b_)(g:Nat)(v:me)(q c:Nat)(u:Cf)(l:j4)(b:Nat)(left:lw)(d:Nat)(s:Nat->a_)(r:Nat->Bool)(t:Nat)(p:nE)(w:me)(k:f_):Prop:=
 ∃n f x a i e h m,VJ o j g f {v with wt:=i} q c n u l a left d s r t e h m w k x p/\a.least=b
def Du:∀(d:Nat) (c:List Sv) (b:List Ac) (a:Ls),(runL d c b a).wet.length<=a.wet.length+d:=by
 intro d
 induction d with
 |zero=>intro c b a;rw[runL];omega
 |succ d f=>
  intro c b a
  cases b with
  |nil=>rw[runL];omega
  |cons g b=>
   rw[runL];split
   .have:=f c b {a with wet:=a.wet++[g]};have e:(a.wet++[g]).length=a.wet.length+1:=si;simp only[e]at this;omega
   .split
    .have:=f c b<|tt a;have e:(tt a).wet.length=0:=rfl;rw[e]at this;omega
    .have:=f c.tail b {a with least:=max a.least (c.headD (0,0,⟨#[]⟩)).1.toNat};exact YH this (by show a.wet.length+d<=_;omega)
def Dv{i:Nat}{e:List Sv}{f:List Ac}(g:pR i e f):e=[]->∀(a:Nat) (c:Ls),(runL a e f c).least=c.least:=by
 induction g with
 |nil=>intro _ a c;cases a<;>rfl
 |write j h _ _ _ d=>
  intro b a c
  cases a with
  |zero=>rfl
  |succ a=>rw[runL,Ys rfl];exact d b a _
 |sync _ d=>
  intro b a c
  cases a with
  |zero=>rfl
  |succ a=>rw[runL,Yo dc,Ys rfl];exact d b a _
 |send h _ _=>intro b;simp at b
def Ma(a:b_)(g:Nat)(b:nE)(M:a.heap[g]?=some (.cells (k9 b) 42)):(Instr.loadAt 42<|π g).run prog a=.ok (.agg<|k9 b) a:=by
 have hl:=Z9 (P:=prog) a (μ g 0) (k9 b).toList (λj f c=>by
  refine J9 ?_;intro e;rw[e,Yu _ _ _ _ _ _ M]
  simpa using c)
 have d:(k9 b).toList.length=20:=rfl;rw[d,aaa]at hl;unfold Instr.loadAt loadVar;have h0:(Instr.sureAddr<|π g).run prog a=Result.ok (μ g 0) a:=rfl;exact QS
def mO{b:b_}{g:Array Oper}{rest:List Oper}{a:Oper}{c:Act}{h:Exit->Act->b_->Prop}(j:a.guard=none)(f:Nat)(i:a.op=.load 42 (.tmp f))(e:Nat)(l:c.eval (.tmp f)=π e)(d:nE)(n:b.heap[e]?=some (.cells (k9 d) 42))
 (k:wpList prog g h rest (c.put a.dst<|.agg<|k9 d) b):wpList prog g h (a::rest) c b:=by
 refine wpList_plain j λo m=>?_;unfold Oper.wp execOp;simp only[i,l,Zp,Ma b e d n,Za,ZE];exact m _ _ k
def kw.TA{c:b_}{j k:Nat}{e:Nat->Nat}{b:me}{i:j4}{l:Ls}(a:kw c j e b i l k)(g:me):kw (c.setCell (μ b.g 0)<|π g.d) j e {g with g:=b.g,p:=b.p,dv:=b.dv,wt:=b.wt} i l k/\Fc e 7 c (c.setCell (μ b.g 0)<|π g.d):=by
 refine⟨⟨YB c b.g 0 _ 52 _ a.n_,jV a.dk λd f=>?_,jV a.wet λd f=>?_,a.cg,a.cd,a.cw,a.lo⟩,(Fc.refl e 7 c).setCell b.g 0 (.inr a.cg) _⟩
 .obtain⟨m,h⟩:=jU a.dk d f;exact Yp c (μ b.g 0) d _ (km h a.n_ dc)
 .obtain⟨m,h⟩:=jU a.wet d f;exact Yp c (μ b.g 0) d _ (km h a.n_ dc)
def lA.at{w:b_}{e:Nat}{b:Nat->Nat}{f:me}{c:j4}(a:lA w e b f c)(h:Nat)(d:pL)(g wt:f_):lA w e b {f with g:=h,p:=d,dv:=g,wt:=wt} c:=⟨a.rP,a.cd,a.cL,a.cS,a.cE,a.cv,a.lo⟩
def AB{e:b_}{j f g b a:Nat}{d:Nat->Int}(l:e.ownsRow j 3 1 (.slice (some (μ f 0)) b g) b<|((List.range b).map d).flatMap ka)(m:a<=b)(k:Nat):Src e (.slice (some (μ f 0)) a k) a (((List.range a).map d).flatMap ka):=by refine .inr ⟨_,_,rfl,λc i h=>?_⟩;obtain⟨n,rfl⟩:=Ff d a c i h;refine l.cells rfl c _ (p5 _ c _ ?_);rw[Y9,Z5 om];rfl
def kw.TB{e:b_}{m n:Nat}{h:Nat->Nat}{a:me}{j i:j4}{q:Ls}{o:Cf}(b:kw e m h a j q n)(g:mK j o)(f:mK i o)(c:pL)(w:c.lb=a.p.lb)(u:c.cap=a.p.cap):kw ((e.setCell (μ a.g 1)<|π c.r).setCell (μ a.g 13)<|ν 0) m h {a with p:=c} i {q with least:=0} n/\Fc h 7 e ((e.setCell (μ a.g 1)<|π c.r).setCell (μ a.g 13)<|ν 0):=by
 have y:=f.sz.trans g.sz.symm;have x:=f.kp.trans g.kp.symm;have z:=f.unit.trans g.unit.symm;have v:=f.nl.trans g.nl.symm;have s:=f.batch.trans g.batch.symm;have r:=YB _ a.g 13 _ 52 (ν 0) (YB e a.g 1 _ 52 (π c.r) b.n_);have p:∀{d:Nat}{cur:Array f_}{t:d_},e.heap[d]?=some (.cells cur t)->t≠52->((e.setCell (μ a.g 1)<|π c.r).setCell (μ a.g 13)<|ν 0).heap[d]?=e.heap[d]?:=λ{d cur t} h1 h2=>by rw[Yp _ (μ a.g 13) d _ (km h1 b.n_ h2),Yp _ (μ a.g 1) d _ (km h1 b.n_ h2)]
 refine⟨⟨?_,jV b.dk λd k=>?_,jV b.wet λd k=>?_,b.cg,b.cd,b.cw,b.lo⟩,((Fc.refl h 7 e).setCell a.g 1 (.inr b.cg) _).setCell a.g 13 (.inr b.cg) _⟩
 .show _=some (Obj.cells (Dm {a with p:=c} i 0) 52);rw[r];unfold Dm;rw[y,x,z,v,s];show _=some (Obj.cells #[_,_,_,_,_,_,_,_,_,.slice (some (μ c.lb 0)) j.nl c.cap,_,_,_,_] 52);rw[w,u];rfl
 .obtain⟨A,l⟩:=jU b.dk d k;exact p l dc
 .obtain⟨A,l⟩:=jU b.wet d k;exact p l dc
def OX(a d:Nat)(b:a_):n4 (nM a d b):=λg c=>by
 have f:=Pl.kz b<|(a+7)/8+2*c;have e:=Pl.kz b<|(a+7)/8+2*c+1;unfold nM Pl.wd Pl.bit;split
 .split<;>omega
 .split
  .split<;>omega
  .omega
def G3(p:b_)(g:Nat)(r:me)(q n:Nat)(a:Cf)(k:Nat)(left:lw)(m:Nat)(l:Ending)(h:b_):Prop:=
 l=.returned (.bool true)/\∃f j o e c d b i,nJ h g j f q (n+10) o a (a.dev e c d b) i [kC (a.dev e c d b).ent a.c a.h] 0 (λ_=>⟨#[]⟩) (λ_=>false) k/\lA h g j f (a.dev e c d b)/\oR a.z a.sec k (a.dev e c d b) f.p.rd i [kC (a.dev e c d b).ent a.c a.h] 0 b/\kQ (a.dev e c d b)/\f.g=r.g/\Below g p h/\f.p.rd=a.dev e c d b/\GZ a.c a.h left m b
def Cf.Ew{a:Cf}(hF:nN a)(i c d:Nat)(b:a_)(f:c<=1)(h:d<=3):kQ (a.dev i c d b):=
 ⟨λg _=>xL a.s0 a.s1 a.s2 a.s3 g 60 hF.s0 hF.s1 hF.s2 hF.s3,OX a.c a.h b,hF.c,hF.h,hF.u,hF.b,hF.n,f,h,rfl,by have:=hF.b.1;exact this,by have:=hF.b.1;exact this,λ_=>rfl,.nil,λj e=>by cases e⟩
def Cf.Gr{a:Cf}(hF:nN a)(f b c g:Nat)(d:a_)(e:Ls)(h:Calm a.z a.sec g b c d e)(i:Si a.sec e.dk b c)(n:e.least=0)(l:2*a.sec<=g):oR a.z a.sec g (a.dev f b c d) (a.dev f b c d) e [kC (a.dev f b c d).ent a.c a.h] 0 d:=by obtain⟨j,m,_⟩:=h.dk.sg;exact⟨(Cf.Ew hF f b c d j m).fl,⟨rfl,rfl,rfl,rfl,rfl,rfl,rfl,λ_=>rfl,rfl⟩,(λo k=>by cases k),h,i,rfl,rfl,⟨0,om,YC _,rfl⟩,λ_=>rfl,by rw[n];exact YG _,YG _,rfl,rfl,l⟩
def slice_inj{d b f g c e:Nat}(a:Value.slice (some (μ d 0)) f c=.slice (some (μ b 0)) g e):d=b/\c=e:=by simp only[YN,Yz,ZP,ZV]at a;exact⟨a.1,a.2.2⟩
def wy(w:b_)(a:Nat)(c:Nat->Nat)(q:me)(I E:Nat)(c8:lu)(F:Cf)(x:j4)(v:Ls)(left:lw)(S:Nat)(T:Nat->a_)(P:Nat->Bool)(Y cg cT:Nat)(bS:a_)(i:nE)(M:nJ w a c q I E c8 F x v left S T P Y)(hF:nN F)(g3:E<=1800000)(bB:2*F.sec<=Y/\Y<=64)(fv:Calm F.z F.sec Y cg cT bS v)(go:GZ F.c F.h left v.least bS)(eQ:v.least<=1000000000)(gH:yu i)(fI:∀ad∈left,ad.length<=1000)(hi:left.length<=1000000):
 Calls prog 42 #[π q.g,.agg<|k9 i,π I] w (G3 w a q I E F Y left v.least):=by
 refine Ca ?_;intro a6 ev a3;obtain⟨X,ae⟩:=j5<|w.alloc<|.cells (k9 i) 42;have cB:=ba ae;refine HD ?_;intro bH;have ao:=v' ae;have aC:=M.bk.bk.lo.2;obtain⟨bN,bZ⟩:=j5<|nc X.drew a<|kU w c 9;have cY:nJ X.drew a bN q I E c8 F x v left S T P Y:=by rw[bZ];exact M.below cB.drew
 refine Gt ?_;intro bo;obtain⟨bt,b6,bi,g6,hT,fd,gP,gm,fh,fQ,fG,fT,gs,fP,fb,r9,fe,gQ,fO,fn,rf,hK⟩:=cY.cells a3;have ec:=h_<|L' w X.drew a bN q I E c8 F x v left S T P Y cg cT bt b6 bS i cY hF om bB fv go bi ao bo (cB.drew.mono aC);have hn:=h_ ae;have g7:=h_ ao;clear ao cB cY bo bZ
 go_enter func42,ntmps42
 go_upto_region 1 with fail
 rw[<-ae];clear ae
 go_cut [7,8,9,10]from 26 to 40 (λcG bh bg de C=>∃W ai,cG=π W.d/\bh=ai/\bg=ν 0/\de=.bool true/\VK w C a q I (E+5) F x v.least left S T P Y i W ai)
 case first=>
  go_region_held3 (λf=>f.cell? (μ q.g 2)=some (ν F.s0)/\f.cell? (μ q.g 3)=some (ν F.s1)/\f.cell? (μ q.g 4)=some (ν F.s2)/\f.cell? (μ q.g 5)=some (ν F.s3)/\f.cell? (μ q.g 6)=some (ν F.c)/\f.cell? (μ q.g 7)=some (ν F.h)/\f.cell? (μ q.g 8)=some (ν F.u)/\f.cell? (μ q.g 9)=some (.slice (some (μ q.p.lb 0)) F.n q.p.cap)/\f.cell? (μ q.g 10)=some (ν F.b)/\f.cell? (μ q.g 11)=some (.slice (some (μ bt 0)) Y b6)) (go_keep)
   (first
    |(go_at_call 13;refine ec.o.mono ?_;rintro h u ⟨R,rfl,W,ai,bh,bg,cM,rfl,Z⟩;obtain⟨fu,fi,c9,_,_,_,_,_,f2,f3,f4,f5,f6,f7,f8,f9,f10,f11,_⟩:=Z.sb.cells a3;obtain⟨rfl,rfl⟩:=slice_inj<|bi.symm.trans c9))
  go_wp2
  go_meet
  exact⟨W,ai,rfl,rfl,rfl,rfl,bh,bg,cM,v,q.wt,cg,cT,bS,Z,rfl⟩
 case rest=>
  obtain⟨W,ai,rfl,rfl,rfl,rfl,cc,en,cM,L,dp,cf,sc,d1,Z,ee⟩:=hcut;obtain⟨r,hA⟩:=j5<|kN L.dk F.sec cf sc;have bq:=Z.ow;rw[<-hA]at bq;obtain⟨gx,co,rfl,_⟩:=i_ bq;have dt:wc.cell? (μ w.heap.size 19)=some (ν i.again):=(Yu _ _ _ _ _ _ Z.bx).trans rfl
  have hx:r.length<=100:=by
   have:=(yq L.dk F.sec cf sc Z.cm.dk.sg.1 Z.cm.dk.sg.2.1 2).2.2;rw[hA];unfold kN;split
   .simp
   .exact zU
  have d:=h_ Z;have eI:=h_ hA;have eb:=h_ bq;have bW:=h_ ee;clear Z hA bq ee gP gm fh fQ fG fT gs fP fb r9 fe gQ fO fn rf fd ec
  go_upto_region 4 with fail
  go_cut [58]from 51 to 57 (λt C=>t=.bool (decide (0<=i.again)&&decide (0<r.length))/\C=wc)
  case first=>
   by_cases bV:0<=i.again
   .go_wp2
    go_meet
    exact⟨by simp[bV],rfl⟩
   .go_wp2
    go_meet
    exact⟨by rw[YZ (p:=0<=i.again) om];rfl,rfl⟩
  case rest=>
   obtain⟨rfl,gT⟩:=hcut;subst gT;obtain⟨gX,aF⟩:=j5<|decide (0<=i.again)&&decide (0<r.length);rw[<-aF];have dH:=h_ aF;clear aF
   go_upto_if 58 with fail
   go_cut [7,8,9,10,11]from 41 to 97 (λcG bh bg de hm C=>∃W ai,cG=π W.d/\bh=ai/\bg=ν 0/\de=.bool true/\VK w C a q I (E+10) F x v.least left S T P Y i W ai)
   case first=>
    cases gX
    .go_wp2
     go_meet
     exact⟨W,_,rfl,rfl,rfl,rfl,cc,en,cM,L,dp,cf,sc,d1,⟨d.o.sb.more om,d.o.dv,d.o.ow,d.o.co,d.o.cm,d.o.ix,d.o.bx,d.o.cb,d.o.bl⟩,bW.o⟩
    .have g9:¬((r.length:Int)+1)=0:=om;have bV:0<=i.again:=by have:=dH.o.symm;rw[Zw,Zq,Zq]at this;exact this.1
     obtain⟨e,eS⟩:∃e:Nat,i.again%((r.length:Int)+1)=(e:Int):=⟨(i.again%((r.length:Int)+1)).toNat,by have:=Int.emod_nonneg i.again (show((r.length:Int)+1)≠0 by omega);omega⟩;have bp:e<=r.length:=li (Int.emod_lt_of_pos i.again (show(0:Int)<(r.length:Int)+1 by omega));have gC:=h_ eS;have gA:=h_ bV;clear eS bV
     go_wp2_with fail
     rw[show i.again.tmod ((r.length:Int)+1)=(e:Int)from by rw[Zv gA.o];exact gC.o];obtain⟨ax,aY,_⟩:=d.o.cm.ready a6 bB.1;rw[<-eI.o]at ax aY;have b9:=aY e bp F.c F.h left d.o.ix;refine(ui wc a en {q with wt:=dp} x L Y e (.slice gx r.length co) σ a 0 r [] d.o.sb.rg ⟨a3,bB.2⟩ eb.o uY (λg B=>by rw[d.o.co g B];decide) (λg B=>by simp[Value.ownBlock]at B) ax om si d.o.cm.wet (by rw[bW.o];exact eQ) si).mono ?_;rintro h cF ⟨rfl,gc,ab,eG,aO,aT⟩;have dV:=(aT.keep _ _ _ d.o.bx (.inl dc) (qx d.o.cb)).trans d.o.bx;have eO:=(aO _ (Yn d.o.bx)).trans d.o.cb;have dO:=d.o.sb.bk.frame aT aO dc;have dy:=d.o.sb.rf.frame aT aO dc dc dc;have fD:=h_<|d.o.sb.fx.frame aT aO dc;have dS:=d.o.bl.trans<|aT.toBelow d.o.sb.nr dc d.o.sb.bk.bk.lo.2;have eg:(runL e [] r L).least=L.least:=Dv ax rfl e L;have du:(runL e [] r L).wet.length<=1000000:=by have:=Du e [] r L;rw[d.o.cm.wet,YI]at this;omega
     have eu:=h_<|yv cF a ab {q with wt:=gc} x (runL e [] r L) Y i eG ⟨a3,bB.2⟩ b9.wet b9.size du gH;have b7:=h_ dV;have eC:=h_ eO;have dq:=h_ dO;have gl:=h_ dy;have gK:=h_ dS;have gt:=h_ eg;have g1:=h_ b9;have f':Hid (∀g,g<a->ab g=0):=λg B=>(aO g<|li d.o.sb.bk.bk.lo.2).trans<|(d.o.sb.nr.zero g).2 B;clear ax aY b9 eG aO aT dV eO dO dy dS eg du dt
     go_wp2_with (refine mO rfl 4 rfl w.heap.size rfl i b7.o ?_)
     refine eu.o.mono ?_;rintro h K ⟨rfl,f3,cn,es,dr,eJ,bn,Q⟩;have bm:=(Q.keep _ _ _ b7.o (.inl dc) (qx eC.o)).trans b7.o;have eh:=(bn _ (Yn b7.o)).trans eC.o;have bF:nJ K a (nc K a cn) {q with wt:=σ} I (E+5) cc F x {dk:=f3,wet:=[],least:=(runL e [] r L).least} left S T P Y:=nJ.norm (dq.o.frame Q bn dc) (gl.o.frame Q bn dc dc dc) eJ d.o.sb.lb d.o.sb.cf d.o.sb.cr<|fD.o.frame Q bn dc;have ej:Below a w K:=by refine gK.o.trans ⟨Q.os,Q.tape,Q.output,Q.size,λg B=>?_⟩;have hf:=dq.o.bk.lo.2;exact Q.low g om (f'.o g B) dc
     obtain⟨dl,dj,d3,eE,cI⟩:=g1.o.oQ f3 es;rw[gt.o]at cI bF;have eT:Calm F.z F.sec Y dl dj d3 {dk:=f3,wet:=[],least:=L.least}:=⟨dr,rfl,eE⟩;have ft:=bF.bk.bk.lo.2;have dQ:nc K a cn w.heap.size=9:=mg aC bm dc eh dc;have am:=bF.below br.drew;have dY:nc K.drew a (kU K (nc K a cn) 9) w.heap.size=9:=mg (w:=K.drew) aC bm dc ((jW K _ 9 _ (Yn bm)).trans dQ) dc;obtain⟨hk,hI,fA,hG,hS,_,h1,hu,hQ,hP,hL,h5,hN,hj,hb,hZ,hs,hV,hv,hO,g4,he⟩:=am.cells a3;obtain⟨rfl,rfl⟩:=slice_inj<|bi.symm.trans fA;have fl:=h_<|L' w K.drew a _ _ I (E+5) cc F x _ left S T P Y dl dj bt b6 d3 i am hF om bB eT cI bi bm dY (ej.trans<|(Below.refl K.heap.size K).drew.mono ft);clear bm eh bF ej eE cI eT dQ am dY es dr eJ bn Q eu
     go_wp2_with fail
     go_region_held3 (λf=>f.cell? (μ q.g 2)=some (ν F.s0)/\f.cell? (μ q.g 3)=some (ν F.s1)/\f.cell? (μ q.g 4)=some (ν F.s2)/\f.cell? (μ q.g 5)=some (ν F.s3)/\f.cell? (μ q.g 6)=some (ν F.c)/\f.cell? (μ q.g 7)=some (ν F.h)/\f.cell? (μ q.g 8)=some (ν F.u)/\f.cell? (μ q.g 9)=some (.slice (some (μ q.p.lb 0)) F.n q.p.cap)/\f.cell? (μ q.g 10)=some (ν F.b)/\f.cell? (μ q.g 11)=some (.slice (some (μ bt 0)) Y b6)) (go_keep)
      (first
       |(go_at_call 13;refine fl.o.mono ?_;rintro h u ⟨R,rfl,e8,gw,gI,gN,gL,rfl,ch⟩;obtain⟨fu,fi,c9,_,_,_,_,_,f2,f3,f4,f5,f6,f7,f8,f9,f10,f11,_⟩:=ch.sb.cells a3;obtain⟨rfl,rfl⟩:=slice_inj<|bi.symm.trans c9))
     have gz:=h_ ch;clear ch;go_wp2
     go_meet
     exact⟨e8,gw,rfl,rfl,rfl,rfl,gI,gN,gL,_,_,dl,dj,d3,gz.o,bW.o⟩
   case rest=>
    obtain⟨ah,hU,rfl,rfl,rfl,rfl,a2,ab,aP,O,fJ,ar,aj,d2,N,ce⟩:=hcut;clear d eI eb bW dH dt;obtain⟨l,bJ⟩:=j5<|kN O.dk F.sec ar aj;have bO:=N.ow;rw[<-bJ]at bO;obtain⟨fR,gr,rfl,_⟩:=i_ bO
    have h6:l.length<=100:=by
     have:=(yq O.dk F.sec ar aj N.cm.dk.sg.1 N.cm.dk.sg.2.1 2).2.2;rw[bJ];unfold kN;split
     .simp
     .exact zU
    obtain⟨_,_,_,_,_,_,gi,_,_,_,_,_,_,_,_,_,_,_,_,_,fz,g'⟩:=N.sb.cells a3;obtain⟨aS,bK⟩:∃aS:me,aS={ah with g:=q.g,p:=q.p,dv:=q.dv,wt:=fJ}:=⟨_,rfl⟩;obtain⟨e2,e1⟩:=N.sb.rg.TA ah;obtain⟨bI,a9⟩:=j5<|wc.setCell (μ q.g 0)<|π ah.d;have e0:kw bI a ab aS x O Y:=by rw[a9,bK];exact e2
    have db:Fc ab 7 wc bI:=by rw[a9];exact e1
    obtain⟨ax,aY,cN,dn,dh⟩:=N.cm.ready a6 bB.1;rw[<-bJ]at ax aY cN dn dh;have eL:aS.g=q.g:=by rw[bK]
    have c5:=h_ (ui bI a ab aS x O Y l.length (.slice fR l.length gr) σ a 0 l [] e0 ⟨a3,bB.2⟩ (db.own bO dc (λg B=>by rw[N.co g B];decide)) uY (λg B=>by rw[N.co g B];decide) (λg B=>by simp[Value.ownBlock]at B) ax om si N.cm.wet (by rw[ce];exact eQ) si);rw[eL]at c5;have A:=h_ N;have dX:=h_ db;have fE:=h_ a9;have fj:=h_ cN;have cH:=h_ dn;have ff:=h_ dh;have cR:=h_ ce;have e3:=h_ bK;clear N bO bJ e2 e1 e0 db ax aY cN dn dh ce bK eL
    go_wp2_with fail
    rw[<-a9];clear a9 gi fz;refine c5.o.mono ?_;rintro h D ⟨rfl,bP,bL,dT,eR,et⟩;have g5:bI.heap.size=wc.heap.size:=by have aw:=dX.o.size;rw[fE.o];simp
    have aU:Fc ab 7 wc D:=dX.o.trans et<|mD.refl wc ab;have a5:mD wc ab bL:=λg B=>eR g om;obtain⟨aD,a4⟩:=j5<|F.dev aP ar aj d2;obtain⟨b,ey⟩:∃b:me,b={aS with wt:=bP}:=⟨_,rfl⟩;have V:b={ah with g:=q.g,p:=q.p,dv:=q.dv,wt:=bP}:=by rw[ey,e3.o]
    have am:nJ D a (nc D a bL) b I (E+10) a2 F x (runL l.length [] l O) left S T P Y:=nJ.norm (A.o.sb.bk.frame aU a5 dc) (by rw[V];exact A.o.sb.rf.frame aU a5 dc dc dc) (by rw[V];have:=dT;rw[e3.o]at this;exact this) (by rw[V];exact A.o.sb.lb) A.o.sb.cf (by rw[V];exact A.o.sb.cr)<|A.o.sb.fx.frame aU a5 dc;have bR:lA D a (nc D a bL) b aD:=by rw[V,a4];exact((A.o.dv.at q.g q.p q.dv bP).frame A.o.sb.nr aU a5 dc).nc
    have dJ:Below a w D:=A.o.bl.trans<|aU.toBelow A.o.sb.nr dc A.o.sb.bk.bk.lo.2;have ei:b.g=q.g:=by rw[V]
    have cD:b.d=ah.d:=by rw[V]
    have bY:aD.sz 0=F.s0:=nY a4;have bw:aD.sz 2=F.s2:=nY a4;have cs:=uD b.d b.L b.S 0 b.E b.wv aD ((List.range F.s0).map<|aD.ent 0) D bR.rP om (by rw[bY];simp) (by rw[bY];have:=hF.s0;omega) (λz eY aq=>by rw[Y9]at aq;obtain⟨e6,y,rfl⟩:=Zk.1 aq;obtain⟨h3,h4⟩:=Yr.1 y;simp at h3 h4;rw[h4]);rw[cD,bY]at cs;have eX:=h_ cs;have cP:=h_ am;have gR:=h_ bR;have gy:=h_ dJ;have ct:=h_ a4;have aB:Hid<|b={ah with g:=q.g,p:=q.p,dv:=q.dv,wt:=bP}:=V;have dF:∀af,Below D.heap.size D af->Calls prog 14 #[π ah.d,ν 2] af λh f=>∃R,h=.returned (.tuple #[R,ν 0])/\f.ownsRow af.heap.size 3 1 R F.s2 (((List.range F.s2).map<|aD.ent 2).flatMap ka)/\Below af.heap.size af f:=λaf bQ=>by have cE:=(bR.frame am.nr (Fc.jX (k:=9) bQ) (mD.refl _ _) dc).rP;have:=uD b.d b.L b.S 2 b.E b.wv aD ((List.range F.s2).map<|aD.ent 2) af cE om (by rw[bw];simp) (by rw[bw];have:=hF.s2;omega) (λz eY aq=>by rw[Y9]at aq;obtain⟨e6,y,rfl⟩:=Zk.1 aq;obtain⟨h3,h4⟩:=Yr.1 y;simp at h3 h4;rw[h4]);rw[cD,bw]at this;exact this
    have er:=h_ dF;obtain⟨_,_,_,_,_,_,k0,ac,al,aN,av,a0,an,ap,aV,aM,aW,bd,a7,aa,aE,bj⟩:=am.cells a3;rw[ei]at al av an ap bj;clear dT eR et aU a5 am bR dJ a4 ey V ei cD bY bw cs dF k0 ac aN a0 aV aM aW bd a7 aa aE c5
    go_wp2_with fail
    refine eX.o.mono ?_;rintro h af ⟨hR,rfl,c6,bQ⟩;obtain⟨dm,bA,rfl,_⟩:=i_ c6;have dC:=h_ c6;have dM:=h_ bQ;clear c6 bQ
    go_wp2_with fail
    refine(er.o af dM.o).mono ?_;rintro h u ⟨hg,rfl,c3,da⟩;obtain⟨cO,bX,rfl,_⟩:=i_ c3;have fU:=h_ c3;have a1:=h_<|jZ dM.o da;have eW:=h_<|jY dC.o da;have fX:=((ke a1.o).1 _ _ bj).trans al;have e7:=((ke a1.o).1 _ _ bj).trans av;have dK:=((ke a1.o).1 _ _ bj).trans an;have dW:=((ke a1.o).1 _ _ bj).trans ap;have hJ:=a1.o.size;clear c3 da al av an ap dC eX er;obtain⟨bM,b8,bT,bD,bs⟩:=Y4 Tryz.qj;have fW:=hF.c;have fr:=hF.h;have ht:=hF.s0;have h2:=hF.s2;have hE:(F.c:Int)<=(F.s0:Int):=om;have hY:(F.h:Int)<=(F.s2:Int):=om
    go_upto_region 19 with fail
    go_cut [13,17]from 107 to 157 (λcC J C=>cC=.slice dm F.s0 bA/\C.ownsRow u.heap.size 3 1 J F.c (((List.range F.c).map<|aD.ent 0).flatMap ka)/\Below u.heap.size u C)
    case first=>
     rcases eW.o.2 with⟨o,aA⟩|⟨cd,cx,e9,o,gj,cw,fx,_,_,_⟩
     .have cv:F.s0=0:=aA;have aJ:F.c=0:=om;have aK:dm=none/\bA=0:=by simp only[YN]at o;exact⟨o.1,o.2.2⟩
      obtain⟨rfl,rfl⟩:=aK;rw[aJ]at dK;have cA:=h_ aJ;have aG:Hid<|Src u σ 0<|((List.range 0).map<|aD.ent 0).flatMap ka:=.inl ⟨rfl,rfl,rfl⟩;clear aJ o aA
      go_wp2_with (at_builtin;go_must (refine kT rfl (.tmp 149) (.tmp 156) 28 rfl u.heap.size 3 bM _ 1 8 underlying28 b8 bT bD bs rfl dc σ 0 [] rfl uY _ 0 _ rfl aG.o rfl si ml om kM ?_;intro J dg au az _))
      go_meet
      rw[cA.o];exact⟨by rw[cv],au,br.grown az kM (λk aH=>by simp[Value.ownBlock]at aH)⟩
     .have aK:dm=some (μ cd 0)/\bA=cx:=by simp only[YN,aab]at o;exact o
      obtain⟨rfl,rfl⟩:=aK;have aG:=λk=>h_<|AB eW.o fW k;have fp:(F.c:Int)<=(bA:Int):=om;clear o cw
      go_wp2_with (at_builtin;go_must (refine kT rfl (.tmp 149) (.tmp 156) 28 rfl u.heap.size 3 bM _ 1 8 underlying28 b8 bT bD bs rfl dc σ 0 [] rfl uY _ F.c _ rfl (aG _).out (uG _ _) (m4 _) ml om kM ?_;intro J dg au az _))
      go_meet
      rw[YF,YT]at au;exact⟨rfl,au,br.grown az kM (λk aH=>by simp[Value.ownBlock]at aH)⟩
    case rest=>
     obtain⟨rfl,ew,a8⟩:=hcut;have b':=h_ ew;have dZ:=h_ a8;have eU:=h_<|jY fU.o a8;have gp:=((ke a8).1 _ _ (show q.g<u.heap.size by omega)).trans dW;have hr:=a8.size;clear ew a8 fX e7 dK dW
     go_upto_region 20 with fail
     go_cut [15,17]from 107 to 166 (λcC J C=>cC=.slice cO F.s2 bX/\C.ownsRow u.heap.size 3 1 J (F.c+F.h) ((kC aD.ent F.c F.h).flatMap ka)/\Below u.heap.size u C)
     case first=>
      rcases eU.o.2 with⟨o,aA⟩|⟨cd,cx,e9,o,gj,cw,fx,_,_,_⟩
      .have cv:F.s2=0:=aA;have aJ:F.h=0:=om;have aK:cO=none/\bX=0:=by simp only[YN]at o;exact⟨o.1,o.2.2⟩
       obtain⟨rfl,rfl⟩:=aK;rw[aJ]at gp;have cA:=h_ aJ;have aG:Hid<|Src wc σ 0 (((List.range 0).map<|aD.ent 2).flatMap ka):=.inl ⟨rfl,rfl,rfl⟩;clear aJ o aA
       go_wp2_with (at_builtin;go_must (refine kT rfl (.tmp 158) (.tmp 165) 28 rfl u.heap.size 3 bM _ 1 8 underlying28 b8 bT bD bs rfl dc u17 F.c _ rfl b'.o _ 0 _ rfl aG.o rfl si ml om om ?_;intro J dg au az _))
       go_meet
       rw[cA.o];refine⟨by rw[cv],?_,dZ.o.grown az om (λk aH=>(b'.o.lt k aH).1)⟩;unfold kC;rw[YX];exact au
      .have aK:cO=some (μ cd 0)/\bX=cx:=by simp only[YN,aab]at o;exact o
       obtain⟨rfl,rfl⟩:=aK;have aG:=λk=>h_<|AB eU.o fr k;have fp:(F.h:Int)<=(bX:Int):=om;clear o cw
       go_wp2_with (at_builtin;go_must (refine kT rfl (.tmp 158) (.tmp 165) 28 rfl u.heap.size 3 bM _ 1 8 underlying28 b8 bT bD bs rfl dc u17 F.c _ rfl b'.o _ F.h _ rfl (aG _).out (uG _ _) (m4 _) ml om om ?_;intro J dg au az _))
       go_meet
       refine⟨rfl,?_,dZ.o.grown az om (λk aH=>(b'.o.lt k aH).1)⟩;unfold kC;rw[YX];exact au
     case rest=>
      obtain⟨s,rfl⟩:=j5 wc;obtain⟨rfl,bx,df⟩:=hcut;have bf:=jZ a1.o df;obtain⟨cq,bE⟩:=j5<|nc s a<|kU D (nc D a bL) 9;have bc:nJ s a cq b I (E+10) a2 F x (runL l.length [] l O) left S T P Y:=by rw[bE];exact cP.o.below bf
      have eM:lA s a cq b aD:=by rw[bE];exact(gR.o.frame cP.o.nr (Fc.jX (k:=9) bf) (jW D _ 9) dc).nc
      have g0:a<=D.heap.size:=cP.o.bk.bk.lo.2;have dR:Below a w s:=gy.o.trans<|bf.mono g0;obtain⟨ag,be⟩:=j5<|kC aD.ent F.c F.h;have cK:ag.length=F.c+F.h:=by rw[be,pd]
      rw[<-be,<-cK]at bx;obtain⟨fm,pk,rfl,_⟩:=i_ bx;have eD:∃z,v.least<=z/\left[z]?=some ag:=by obtain⟨z,aw,y⟩:=A.o.ix;rw[cR.o]at aw;refine⟨z,aw,?_⟩;rw[y,be,ct.o];rfl
      have ea:(runL l.length [] l O).least=v.least:=fj.o.trans cR.o;obtain⟨_,_,_,_,_,_,k0,ac,al,aN,av,a0,an,ap,aV,aM,aW,bd,a7,aa,aE,c4⟩:=bc.cells a3;rw[ea]at aa;obtain⟨_,_,_,_,_,_,_,_,_,b1,_,_,cm⟩:=bc.rf.cells;obtain⟨gq,fY,ck,_⟩:=i_ bc.rf.lf;rw[ck]at b1;rw[aB.o]at ac aa b1 c4 cm;have bk:=h_ bc;have gO:=h_ eM;have fg:=h_ dR;have em:=h_ bx;have fH:=h_ be;have eK:=h_ cK;have gh:=h_ eD;have ho:=h_ bE;have hM:=h_ bf;have gV:=h_ ck;have g8:=h_ df;clear bc eM dR bx be cK eD bE bf df k0 al aN av a0 an ap aV aM aW bd a7 aE ck ea;have dz:s.cell? (μ q.g 1)=some (π q.p.r):=ac;have gS:s.cell? (μ q.g 13)=some (ν v.least):=aa;have eo:s.cell? (μ q.p.r 17)=some (.slice gq left.length fY):=b1;have gg:q.g<s.heap.size:=c4;have fZ:q.p.r<s.heap.size:=cm;clear ac aa b1 c4 cm
      go_upto_block 0 with fail
      go_cut [18,19]from 167 to 198 (λdi J C=>di=.bool true/\Below s.heap.size s C)
      case first=>
       go_wp2_with fail
       go_loopw [18,19] (λdi J wr=>∃(b4:Bool) (e:Nat),di=.bool b4/\J=ν e/\Below s.heap.size s wr/\e<=1000000001/\(b4=false->∀n,v.least<=n->n<e->left[n]?≠some ag)) (λ_ J _=>left.length-(intOf J).toNat)
       case atStart=>exact⟨false,v.least,rfl,rfl,Below.refl _ _,om,λ_ n aw y=>by omega⟩
       case round=>
        obtain⟨b4,e,rfl,rfl,j,hl,bz⟩:=hrel;have dN:=((ke j).1 _ _ gg).trans dz;have g2:=((ke j).1 _ _ fZ).trans eo;have aR:=h_ j;have fK:=h_ bz;have hq:=j.size;cases b4
        .by_cases bp:e<left.length
         .obtain⟨ad,b3⟩:∃ad,left[e]?=some ad:=⟨_,Yw bp⟩;obtain⟨dD,ds,c2,_⟩:=bk.o.rf.GH e ad b3;have bU:=bk.o.rf.lf;rw[gV.o]at bU;obtain⟨cb,hc,ep,_,aL,_⟩:=yA bU om;simp only[YN,aab]at ep;obtain⟨rfl,rfl⟩:=ep
          have dw:s.cell? (μ cb e)=some dD:=by
           have:=bU.cells (g:=cb) rfl e dD ds;have h:((μ cb 0):Addr).add e=(μ cb e):=by by_cases fo:e=0<;>simp[Addr.add,fo]
           rwa[h]at this
          obtain⟨hX,hh,rfl,_⟩:=i_ c2;have hp:=((ke j).1 _ _ aL).trans dw;have gu:=h_<|rq ag ad _ _ u.heap.size a wr (jY em.o j) (jY c2 j) (li eK.o) (li<|fI ad<|ZQ b3);have ci:=h_ b3;have dB:Hid<|wrap64 ((e:Int)+1)=((e+1:Nat):Int):=by show _=_;simp only[wrap64];omega
          have ek:=h_ bp;have hy:(e:Int)<(left.length:Int):=om;clear j bz b3 ds c2 bU dw
          go_wp2_with fail
          refine gu.o.mono ?_;rintro h U ⟨rfl,ak⟩;have fq:=h_<|jZ aR.o ak;clear ak;go_wp2
          go_roundw
          case rel=>
           refine⟨decide (ag=ad),e+1,rfl,by first|rw[dB.o]|rfl,fq.o,by have:=ek.o;omega,λeB n aw y=>?_⟩;by_cases h:n=e
           .subst h;rw[ci.o];intro aA;have:ad=ag:=by simpa using aA
            rw[this]at eB;simp at eB
           .exact fK.o (by first|rfl|trivial) n aw om
          case measure=>have:=ek.o;first|(rw[dB.o];simp only[intOf];omega)|(simp only[intOf];omega)
         .exfalso;obtain⟨z,aw,y⟩:=gh.o;have:=(Yr.1 y).1;exact bz rfl z aw om y
        .clear j bz;by_cases bp:e<left.length
         .go_wp2
          go_meet
          exact⟨rfl,aR.o⟩
         .go_wp2
          go_meet
          exact⟨rfl,aR.o⟩
      case rest=>
       obtain⟨rfl,ak⟩:=hcut;obtain⟨U,rfl⟩:=j5 wc;obtain⟨bu,bo⟩:=j5<|nc U a<|kU s cq 9;have aX:nJ U a bu b I (E+10) a2 F x (runL l.length [] l O) left S T P Y:=by rw[bo];exact bk.o.below ak
       have dL:lA U a bu b aD:=by rw[bo];exact(gO.o.frame bk.o.nr (Fc.jX (k:=9) ak) (jW s _ 9) dc).nc
       have gE:a<=s.heap.size:=bk.o.bk.bk.lo.2;have d':Below a w U:=fg.o.trans<|ak.mono gE;have ex:a<=U.heap.size:=aX.bk.bk.lo.2;obtain⟨_,_,_,_,_,_,k0,ac,al,aN,av,a0,an,ap,aV,aM,aW,bd,a7,aa,aE,aL⟩:=aX.cells a3;rw[aB.o]at ac al aN av a0 an ap aV aM aW aE aL;have ef:mK aD F:=by rw[ct.o];exact Cf.Ev F aP ar aj d2
       have aQ:b.p=q.p:=by rw[aB.o]
       have dG:(.agg (xp aD q.p.lb q.p.cap):f_)=.agg #[ν F.s0,ν F.s1,ν F.s2,ν F.s3,ν F.c,ν F.h,ν F.u,.slice (some (μ q.p.lb 0)) F.n q.p.cap,ν F.b]:=nY ct.o;have bl:=aX.rf;have cu:=aX.cr;rw[aQ]at bl cu;have dU:aD.kp 0=F.c:=nY ct.o;have gb:aD.kp 2=F.h:=nY ct.o;have dI:∀n k,n<4->aD.ent n k=vv (aD.kp 0) ag n k:=λn k _=>by rw[dU,fH.o,ct.o];exact(Fs F.c F.h d2 n k).symm
       have cy:=h_ (zR aD q.p.lb q.p.cap a u.heap.size bu (.slice fm ag.length pk) ag U (λn c0=>by rw[ct.o];exact xL F.s0 F.s1 F.s2 F.s3 n 60 hF.s0 hF.s1 hF.s2 hF.s3) (by rw[ct.o];exact hF.c) (by rw[ct.o];exact hF.h) (by rw[ct.o];exact hF.n.2) (by rw[dU,gb,eK.o];exact YC _) (jY em.o ak) dI bl.Aq (λn c0=>by rw[bl.Cd n (by rw[cu.nl];rw[ct.o]at c0;exact c0),cu.kind,ct.o];rfl) bl.cb ex (nY ct.o)<|nY ct.o);rw[dG]at cy;have aI:=h_ aX;have gd:=h_ dL;have fF:=h_ d';have cL:=h_ ef;have cU:=h_ aQ;have dP:U.cell? (μ q.g 1)=some (π q.p.r):=ac;have e5:U.cell? (μ q.g 13)=some (ν ((runL l.length [] l O).least:Nat)):=by have:=aa;rw[aB.o]at this;exact this
       clear aX dL d' ef aQ bl dI dG ak bo k0 ac bd a7 aa dz gS eo
       go_wp2_with fail
       refine cy.o.mono ?_;rintro h bC ⟨p,cW,rfl,c1,aZ,ay,aQ,fc,hz,bv⟩;have cl:=h_ bv;have ha:=ay.size;have dx:kw bC a cW b x (runL l.length [] l O) Y:=aI.o.rg.frame (k:=9) (Fc.jX ay) aZ dc;obtain⟨cX,bG⟩:=dx.TB aI.o.cf cL.o p (by rw[cU.o];exact aQ) (by rw[cU.o];exact fc);obtain⟨m,b5⟩:=j5<|(bC.setCell (μ q.g 1)<|π p.r).setCell (μ q.g 13)<|ν 0;have eP:b.g=q.g:=by rw[aB.o]
       have eV:m=(bC.setCell (μ b.g 1)<|π p.r).setCell (μ b.g 13) (ν 0):=by rw[b5,eP]
       rw[<-eV]at cX bG;clear eV;have a':Fc bu 7 U m:=(Fc.jX ay).trans bG aZ;have cQ:nJ m a (nc m a cW) {b with p:=p} I (E+10) a2 F aD {(runL l.length [] l O)with least:=0} [kC aD.ent (aD.kp 0)<|aD.kp 2] 0 (λ_=>⟨#[]⟩) (λ_=>false) Y:=nJ.norm (aI.o.bk.frame a' aZ dc) (by show j3 _ _ _ p p.rd _ _ _ _;rw[bv];exact c1.frame bG (mD.refl _ _) dc dc dc) cX (by show a<=p.lb;rw[aQ,<-cU.o];exact aI.o.lb) cL.o (by show mK p.rd F;rw[bv];exact cL.o)<|aI.o.fx.frame a' aZ dc;have eZ:lA m a (nc m a cW) {b with p:=p} aD:=((gd.o.frame aI.o.nr a' aZ dc).at b.g p b.dv b.wt).nc;have dE:Below a w m:=fF.o.trans<|a'.toBelow aI.o.nr dc ex;have dN:=((ke ay).1 _ _ aL).trans dP;have gf:=((ke ay).1 _ _ aL).trans e5;have gG:∀z,bC.frozen? (μ q.g z)=false:=λz=>((ke ay).2 _ z aL).trans<|aE z;obtain⟨_,_,_,_,_,_,_,t1,_⟩:=cQ.cells a3;have fa:m.cell? (μ q.g 1)=some (π p.r):=by have:=t1;rw[show({b with p:=p}:me).g=q.g from eP]at this;exact this
       have fB:q.g<m.heap.size:=by rw[b5];simp;omega
       have bb:=h_ cQ;have e4:=h_ eZ;have gW:=h_ dE;have h0:=h_ c1;clear bv c1 aZ ay dx cX bG a' cQ eZ dE t1 dP e5 al aN av a0 an ap aV aM aW aE cy
       go_wp2_with fail
       rw[<-b5];clear b5 dN gf gG;have gD:b.d=ah.d:=by rw[aB.o]
       have ge:Hid (∀(wr:b_) (t:Nat),t<4->Below m.heap.size m wr->Calls prog 14 #[π ah.d,ν t] wr λh f=>∃R,h=.returned (.tuple #[R,ν 0])/\f.ownsRow wr.heap.size 3 1 R (((List.range<|aD.sz t).map<|aD.ent t).length) (((List.range<|aD.sz t).map<|aD.ent t).flatMap ka)/\Below wr.heap.size wr f):=λwr t ca j=>by have cE:=(e4.o.frame bb.o.nr (Fc.jX (k:=9) j) (mD.refl _ _) dc).rP;refine Kb ?_;intro cj ii;have:=uD b.d b.L b.S t b.E b.wv aD ((List.range<|aD.sz t).map<|aD.ent t) wr cE ca si om (λz eY aq=>by rw[Y9]at aq;obtain⟨e6,y,rfl⟩:=Zk.1 aq;obtain⟨h3,h4⟩:=Yr.1 y;simp at h3 h4;rw[h4]);rw[gD]at this;refine Kv ?_;exact this
       have gY:Hid (∀(wr:b_) (t:Nat),t<4->Below m.heap.size m wr->Calls prog 38 #[π p.r,ν t] wr λh f=>∃R,h=.returned (.tuple #[R,ν 0])/\f.ownsRow wr.heap.size 3 1 R (((List.range<|aD.sz t).map<|aD.ent t).length) (((List.range<|aD.sz t).map<|aD.ent t).flatMap ka)/\Below wr.heap.size wr f):=λwr t ca j=>by refine Kb ?_;intro cj ii;have dA:=bb.o.rf.below j;rw[show({b with p:=p}:me).p.rd=aD from cl.o]at dA;have:=As wr a _ p aD _ 0 _ _ t dA ca om;refine Kv ?_;exact this
       have fs:Hid (∀t,((List.range<|aD.sz t).map<|aD.ent t).length<=1000000):=λt=>by refine Kb ?_;intro cj ii;refine Kv ?_;omega
       go_loopw [20,21,22,23,24,25] (λdd _ _ _ _ _ wr=>∃t:Nat,dd=ν t/\t<=4/\Below m.heap.size m wr) (λdd _ _ _ _ _ _=>4-(intOf dd).toNat)
       case atStart=>exact⟨0,rfl,om,Below.refl _ _⟩
       case round=>
        obtain⟨t,rfl,ca,j⟩:=hrel;have aR:=h_ j;by_cases ed:t<4
        .clear j;obtain⟨b2,eN⟩:=j5<|(List.range<|aD.sz t).map<|aD.ent t;have c':=ge.o wr t ed aR.o;have c7:=λcF y=>gY.o cF t ed y;have cV:=fs.o t;rw[<-eN]at c' c7 cV;have ci:=h_ c';have fL:=h_ c7;clear c' c7 eN
         go_wp2_with fail
         refine ci.o.mono ?_;rintro h gB ⟨hC,rfl,cp,ez⟩;obtain⟨hW,hB,rfl,_⟩:=i_ cp;have cZ:=jZ aR.o ez;have fy:=((ke cZ).1 _ _ fB).trans fa;have ga:=h_ cp;have eA:=h_ cZ;clear cp ez cZ
         go_wp2_with fail
         refine(fL.o gB eA.o).mono ?_;rintro h gM ⟨hD,rfl,cz,aF⟩;obtain⟨hH,hd,rfl,_⟩:=i_ cz;have fw:=h_ cz;have e':=h_<|jY ga.o aF;have fN:=h_<|jZ eA.o aF;clear cz aF fy
         go_wp2_with fail
         refine(rq b2 b2 _ _ _ _ gM e'.o fw.o cV cV).mono ?_;rintro h wd ⟨rfl,eF⟩;have fC:=h_<|jZ fN.o eF;have hw:decide (b2=b2)=true:=si;clear eF;go_wp2
         go_roundw
         case rel=>exact⟨t+1,gn,om,fC.o⟩
         case measure=>simp[intOf];omega
        .obtain rfl:t=4:=om;have cS:=bb.o.below j;have cJ:=(e4.o.frame bb.o.nr (Fc.jX (k:=9) j) (jW m _ 9) dc).nc;have gF:a<=m.heap.size:=bb.o.bk.bk.lo.2;have eH:=gW.o.trans<|j.mono gF;have eq:=A.o.cm.dk.sg;rw[ct.o]at cS cJ;have gJ:=h_ cS;have gv:=h_ cJ;have gU:=h_ eH;clear cS cJ eH j;go_wp2;go_ret;refine⟨rfl,{b with p:=p},_,a2,aP,ar,aj,d2,_,gJ.o,gv.o,(by rw[show({b with p:=p}:me).p.rd=F.dev aP ar aj d2 from cl.o.trans ct.o];exact Cf.Gr hF aP ar aj Y d2 _ ⟨cH.o.size,cH.o.wet,cH.o.dk⟩ ff.o rfl bB.1),Cf.Ew hF aP ar aj d2 eq.1 eq.2.1,by rw[aB.o],gU.o,cl.o.trans ct.o,by rw[<-cR.o];exact A.o.ix⟩
structure Lr(l:Ln)(y:a_)(z:Bool):Prop where
 VU:l.kind=1->z=false/\l.bytes=y.extract 0 257
 str:l.kind=0->l.broken=z/\(z=false->l.bytes=y)
def zO(a:Nat->a_):Nat->Nat
 |0=>0
 |n+1=>zO a n+(a n).size
def MV(a:Nat):zO (λ_=>⟨#[]⟩) a=0:=by
 induction a with
 |zero=>rfl
 |succ a b=>show zO (λ_=>⟨#[]⟩) a+0=0;rw[b]
def MW(a:Nat->a_){i n:Nat}(d:i<n):(a i).size<=zO a n:=by
 induction n with
 |zero=>omega
 |succ n c=>
  show _<=zO a n+(a n).size;rcases Zj i n with b|b
  .have:=c b;omega
  .obtain rfl:i=n:=om;omega
def Hf(a:Nat->a_)(e:a_){d b:Nat}(k:d<b):zO (λf=>if f=d then e else a f) b+(a d).size=zO a b+e.size:=by
 have i:∀c,c<=d->zO (λf=>if f=d then e else a f) c=zO a c:=by
  intro c
  induction c with
  |zero=>intro _;rfl
  |succ c h=>intro j;show zO _ c+(if c=d then e else a c).size=zO a c+(a c).size;rw[h om,Yo om]
 induction b with
 |zero=>omega
 |succ b h=>
  show zO _ b+(if b=d then e else a b).size+(a d).size=zO a b+(a b).size+e.size;by_cases g:b=d
  .rw[Ys g,i b om,g];omega
  .rw[Yo g];have:=h om;omega
structure Bd(F:Cf)(D R:j4)(ys:Nat->a_)(zs:Nat->Bool)(bd:Nat):Prop where
 ar:D.arr<=R.arr
 pn:4*R.arr+zO ys F.n<=bd
 ln:∀i,Lr (D.ln i) (ys i) (zs i)
def Bd.more{g:Cf}{b f:j4}{e:Nat->a_}{h:Nat->Bool}{c d:Nat}(a:Bd g b f e h c)(i:c<=d):Bd g b f e h d:=⟨a.ar,YH a.pn i,a.ln⟩
def Bd.fresh(a:Cf)(e c d f:Nat)(b:a_):Bd a (a.dev e c d b) (a.dev e c d b) (λ_=>⟨#[]⟩) (λ_=>false) f:=
 ⟨YC _,by rw[MV];exact YG _,λg=>⟨λ_=>⟨rfl,rfl⟩,λ_=>⟨rfl,λ_=>rfl⟩⟩⟩
def lc(o f:b_)(d:Nat)(s:me)(q r:Nat)(c:Cf)(k p:Nat):Prop:=
 ∃b g n a j e i l h d2,nJ f d g b q r n c a j e i l h k/\lA f d g b a/\oR c.z c.sec k a b.p.rd j e i d2/\kQ a/\Bd c a b.p.rd l h p/\(∀m∈e,m.length<=1000)/\b.g=s.g/\Below d o f
def mT(n:j4->j4->Ls->lw->Nat->(Nat->a_)->(Nat->Bool)->Prop)(p j:b_)(e:Nat)(t:me)(r s:Nat)(d:Cf)(l q:Nat):Prop:=
 ∃b k o a h c g i f d2,nJ j e k b r s o d a h c g i f l/\lA j e k b a/\oR d.z d.sec l a b.p.rd h c g d2/\kQ a/\Bd d a b.p.rd i f q/\(∀m∈c,m.length<=1000)/\b.g=t.g/\Below e p j/\n a b.p.rd h c g i f
def mT.qw{s:j4->j4->Ls->lw->Nat->(Nat->a_)->(Nat->Bool)->Prop}{b i:b_}{a d e f c:Nat}{h:me}{g:Cf}(r:mT s b i a h d e g f c):lc b i a h d e g f c:=by let⟨y,p,t,k,o,m,q,u,A,d4,z,l,x,j,B,v,n,w,_⟩:=r;exact⟨y,p,t,k,o,m,q,u,A,d4,z,l,x,j,B,v,n,w⟩
def G3.qw{h k:b_}{g d f e v:Nat}{j:me}{a:Cf}{left:lw}{b:Ending}(o:G3 h g j d f a e left v b k)(hF:nN a)(i:Nat):b=.returned (.bool true)/\lc h k g j d (f+10) a e i:=by let⟨s,r,z,B,C,w,m,c,x,y,q,u,t,l,n,p,_⟩:=o;refine⟨s,r,z,B,_,x,_,_,_,_,c,y,q,u,t,by rw[p];exact Bd.fresh a C w m i c,λD A=>?_,l,n⟩;rw[Y'.1 A,pd];have:=hF.c;have:=hF.h;have:=hF.s0;have:=hF.s2;omega
def oR.raise{f c h b:Nat}{d i:j4}{j:Ls}{left:lw}{e:a_}(a:oR f c h d i j left b e):oR f c h d i {j with least:=b} left b e:=by let⟨k,_,g,l⟩:=a.ix;exact⟨a.fl,a.tw,a.top,⟨a.cm.size,a.cm.wet,a.cm.dk⟩,a.rd,a.ll,a.la,⟨k,g,g,l⟩,a.u0,a.sf,a.sf,a.hz,a.hs,a.hn⟩
def sE(w:b_)(c:Nat)(F:Nat->Nat)(q:me)(A y:Nat)(Z:lu)(m:Cf)(g:j4)(f:Ls)(left:lw)(h:Nat)(C:Nat->a_)(B:Nat->Bool)(Y:Nat)(o:nE)(lv U:f_)(aC a7:Nat)(a:List Ac)(e:List Sv)(aE:a_)(M:nJ w c F q A y Z m g f left h C B Y)(be:lA w c F q g)(hF:nN m)(cv:y<=1700000)(bB:2*m.sec<=Y/\Y<=64)(a2:yu o)
 (ah:w.ownsRow aC 77 4 lv a.length<|a.flatMap ku) (aK:c<=aC) (aH:∀b,lv.ownBlock=some b->F b=1/\¬Z.on A b) (aI:w.ownsRow a7 113 3 U e.length<|e.flatMap ng) (bd:∀b,U.ownBlock=some b->F b≠7) (cd:pR Y e a) (hA:a.length<=900000) (ct:e.length<=900000) (bb:f.wet=[]) (cq:f.least<=900000) (bO:∀a8∈e,0<=a8.1/\a8.1<=1000000000)
 (ch:∀l,l<=a.length->l0 m.z m.sec Y m.c m.h left (runL l e a f)) (bR:∀l,l<=a.length->(runL l e a f).least<=900000) (aL:oR m.z m.sec Y g q.p.rd (runL a.length e a f) left h aE) (bi:kQ g) (av:Nat) (aO:Bd m g q.p.rd C B av) (cB:av<=1100000) (aF:∀ci∈left,ci.length<=1000):
 Calls prog 33 #[π q.g,lv,U,.agg<|k9 o,π A] w λv ak=>v=.returned (.bool true)/\mT (λb7 ce bN bU cp ca cf=>o.cut<0->b7=g/\ce=q.p.rd/\bU=left/\cp=h/\h<=bN.least/\ca=C/\cf=B) w ak c q A (y+11) m Y av:=by
 refine Ca ?_;intro a6 ev a3;have ad:=M.bk.bk.lo.2;refine AW ?_;intro X ae ar ao;obtain⟨E,T⟩:=j5<|nc X c<|kU w F 9;have D:nJ X c E q A y Z m g f left h C B Y:=by rw[T];exact M.below ar
 have bn:lA X c E q g:=by rw[T];exact(be.frame M.nr (Fc.jX (k:=9) ar) (jW w F 9) dc).nc
 have az:E w.heap.size=9:=by rw[T];exact mg ad ao dc (kB w F 9 _ kM) dc
 have ab:=jY ah ar;have bc:=jY aI ar;have au:∀b,lv.ownBlock=some b->E b=1:=by rw[T];exact lN ab aK dc dc (λb i=>(jW w F 9 b (ah.lt b i).2).trans (aH b i).1)
 have bl:∀b,U.ownBlock=some b->E b≠7:=λb i=>by
  rw[T];have cj:=jW w F 9 b (aI.lt b i).2;unfold nc;split
  .decide
  .split
   .decide
   .rw[cj];exact bd b i
 obtain⟨aJ,aD,rfl,_⟩:=i_ ah;have aW:X.cell? (μ w.heap.size 15)=some (ν o.cut):=(Yu _ _ _ _ _ _ ao).trans rfl;have a5:∀l,l<=a.length->Calls prog 17 #[π q.g,.slice aJ a.length aD,U,ν l] X λv ak=>v=.returned (.bool true)/\∃K a9,kw ak c a9 {q with wt:=K} g (runL l e a f) Y/\mD X E a9/\Fc E 7 X ak:=λl cy=>ui X c E q g f Y l _ U aC a7 a e D.rg ⟨a3,bB.2⟩ ab bc (λb i=>by rw[au b i];decide) bl cd om om bb om bO;have bt:∀(l:Nat) (j:b_) (K:f_) (t:Nat->Nat),kw j c t {q with wt:=K} g (runL l e a f) Y->mD X E t->Fc E 7 X j->Calls prog 52 #[π A,.slice aJ a.length aD] j λv d=>v=.returned (.tuple #[])/\∃R L,nJ d c L {q with wt:=K} A (y+1) R m g (runL l e a f) left h C B Y/\lA d c L {q with wt:=K} g/\d.heap[w.heap.size]?=some (.cells (k9 o) 42)/\L w.heap.size=9/\Below c w d:=λl j K t O x r=>by have cb:=D.bk.frame r x dc;have bS:=D.rf.frame r x dc dc dc;have bY:=(bn.at q.g q.p q.dv K).frame D.nr r x dc;have aq:=r.own ab dc (λb i=>by rw[au b i];decide);have Q:=(r.keep _ _ _ ao (.inl dc) (qx az)).trans ao;have ay:nc j c t w.heap.size=9:=mg ad Q dc ((x _ (Yn ao)).trans az) dc;have z:nJ j c (nc j c t) {q with wt:=K} A y Z m g (runL l e a f) left h C B Y:=nJ.norm cb bS O D.lb D.cf D.cr<|D.fx.frame r x dc;have cc:=bY.nc;have b3:∀b,Value.ownBlock (.slice aJ a.length aD)=some b->nc j c t b=1:=lN aq aK dc dc (λb i=>(x b (ab.lt b i).2).trans<|au b i);refine(C6 j c A y Z _ a z.bk.bk om (j9 aq aK) om (λb i=>(aH b i).2)).mono ?_;rintro v d ⟨rfl,R,bC,bG,_,_⟩;obtain⟨an,N⟩:=z.bk.step bC bG.ft (λb i=>⟨b3 b i,by have:=(aq.lt b i).1;omega,(aq.lt b i).2⟩);have ac:=jW j (nc j c t) 1;refine⟨rfl,_,nc d c<|kU j (nc j c t) 1,nJ.norm an (z.rf.frame N ac dc dc dc) (z.rg.frame N ac dc) z.lb z.cf z.cr<|z.fx.frame N ac dc,(cc.frame z.nr N ac dc).nc,(N.keep _ _ _ Q (.inl dc) (qx ay)).trans Q,mg ad ((N.keep _ _ _ Q (.inl dc) (qx ay)).trans Q) dc ((ac _ (Yn Q)).trans ay) dc,?_⟩;exact((ar.mono ad).trans<|r.toBelow D.nr dc (YH ad ar.size)).trans (N.toBelow z.nr dc z.bk.bk.lo.2)
 have aT:=h_ a5;have bg:=h_ bt;have cz:=h_ ae;clear a5 bt ao ar D bn ab bc au bl T az M be ah aI aH bd;by_cases hcut:o.cut<0
 .go_enter func33,ntmps33
  go_upto_region 1 with fail
  rw[<-ae];clear ae
  go_wp2_with fail
  refine(aT a.length kM).mono ?_;rintro v j ⟨rfl,al,t,O,x,r⟩;have ax:=h_<|bg a.length j al t O x r;clear O x r aW
  go_wp2_with fail
  refine ax.o.mono ?_;rintro v d ⟨rfl,R,L,J,ag,S,af,aa⟩;have bJ:d.cell? (μ w.heap.size 15)=some (ν o.cut):=(Yu _ _ _ _ _ _ S).trans rfl;obtain⟨_,_,_,_,_,_,_,bj,_,_,_,_,_,_,_,_,_,_,_,bf,bp,cx⟩:=J.cells a3;obtain⟨_,_,_,_,_,_,_,_,_,_,aS,_,cs⟩:=J.rf.cells;have cu:d.cell? (μ q.g 1)=some (π q.p.r):=bj;have bM:d.cell? (μ q.g 13)=some (ν ((runL a.length e a f).least:Nat)):=bf;have cA:d.cell? (μ q.p.r 18)=some (ν h):=aS;have cw:∀bK,d.frozen? (μ q.g bK)=false:=bp;obtain⟨W,aB⟩:=j5<|(runL a.length e a f).least;rw[<-aB]at bM;have bT:=h_ aB;have s:=h_ J;have aV:=h_ ag;have ai:=h_ aa;have an:c<=d.heap.size:=J.bk.bk.lo.2;clear J ag aa S af bj bf aS bp aB;by_cases ap:W<h
  .have aA:decide (W<h)=true:=so;have aQ:decide ((W:Int)<(h:Int))=true:=so;have aG:=h_ ap;clear ap
   go_wp2_with fail
   go_quiet (fail)
   have I:Below d.heap.size d<|d.drewN nq:=YL br nq;have n:=s.o.below I;have bs:=(aV.o.frame s.o.nr (Fc.jX (k:=9) I) (jW d L 9) dc).nc;obtain⟨a4,P⟩:=n.rg.Dn h;have bu:=nJ.norm (n.bk.frame P (mD.refl _ _) dc) (n.rf.frame P (mD.refl _ _) dc dc dc) a4 n.lb n.cf n.cr<|n.fx.frame P (mD.refl _ _) dc;have aZ:=(bs.frame n.nr P (mD.refl _ _) dc).nc;have bk:=ai.o.trans<|(I.mono an).trans<|P.toBelow n.nr dc n.bk.bk.lo.2;have bQ:=h_<|bu.more (m':=y+11) om;have b4:=h_ aZ;have aR:=h_ bk;clear n bs a4 P bu aZ bk I;go_wp2;go_ret;exact⟨rfl,_,_,_,g,_,left,h,C,B,aE,bQ.o,b4.o,aL.raise,bi,aO,aF,rfl,aR.o,by first|exact⟨rfl,rfl,rfl,rfl,YC _,rfl,rfl⟩|exact λ_=>⟨rfl,rfl,rfl,rfl,YC _,rfl,rfl⟩⟩
  .have aA:decide (W<h)=false:=so;have aQ:decide ((W:Int)<(h:Int))=false:=so;have aG:Hid<|h<=(runL a.length e a f).least:=by rw[<-bT.o];exact abA ap
   clear ap
   go_wp2_with fail
   go_quiet (fail)
   have I:Below d.heap.size d<|d.drewN nq:=YL br nq;have b':=h_<|(s.o.below I).more (m':=y+11) om;have bz:=h_ (aV.o.frame s.o.nr (Fc.jX (k:=9) I) (jW d L 9) dc).nc;have aM:=h_<|ai.o.trans<|I.mono an;clear I;go_wp2;go_ret;exact⟨rfl,_,_,_,g,_,left,h,C,B,aE,b'.o,bz.o,aL,bi,aO,aF,rfl,aM.o,by first|exact⟨rfl,rfl,rfl,rfl,aG.o,rfl,rfl⟩|exact λ_=>⟨rfl,rfl,rfl,rfl,aG.o,rfl,rfl⟩⟩
 .obtain⟨u,aY⟩:∃u:Nat,o.cut%((a.length:Int)+1)=(u:Int):=⟨(o.cut%((a.length:Int)+1)).toNat,by have:=Int.emod_nonneg o.cut (show((a.length:Int)+1)≠0 by omega);omega⟩;have aP:u<=a.length:=li (Int.emod_lt_of_pos o.cut (show(0:Int)<(a.length:Int)+1 by omega));have cm:0<=o.cut:=om;have bI:=h_ aY;have cC:¬((a.length:Int)+1)=0:=om;have bX:=h_ cm;clear aY hcut
  go_enter func33,ntmps33
  go_upto_region 1 with fail
  rw[<-ae];clear ae
  go_wp2_with fail
  rw[bI.o];refine(aT u aP).mono ?_;rintro v j ⟨rfl,al,t,O,x,r⟩;have ax:=h_<|bg u j al t O x r;clear O x r aW
  go_wp2_with fail
  refine ax.o.mono ?_;rintro v d ⟨rfl,R,L,J,ag,S,af,aa⟩;have bJ:d.cell? (μ w.heap.size 15)=some (ν o.cut):=(Yu _ _ _ _ _ _ S).trans rfl;have am:=ch u aP;have a1:(runL u e a f).wet.length<=1000000:=by have:=Du u e a f;rw[bb,YI]at this;omega
  have a0:=h_<|yv d c L {q with wt:=al} g (runL u e a f) Y o J.rg ⟨a3,bB.2⟩ am.wet am.size a1 a2;have cn:=h_ am;have s:=h_ J;have aN:=h_ S;have b9:=h_ af;have ai:=h_ aa;clear am J ag S af aa a1
  go_wp2_with (refine mO rfl 8 rfl w.heap.size rfl o aN ?_)
  refine a0.o.mono ?_;rintro v aw ⟨rfl,f3,cg,aX,aU,bo,aj,V⟩;have a':=(V.keep _ _ _ aN.o (.inl dc) (qx b9.o)).trans aN.o;have n:nJ aw c (nc aw c cg) {q with wt:=σ} A (y+1) R m g {dk:=f3,wet:=[],least:=(runL u e a f).least} left h C B Y:=nJ.norm (s.o.bk.frame V aj dc) (s.o.rf.frame V aj dc dc dc) bo s.o.lb s.o.cf s.o.cr<|s.o.fx.frame V aj dc;have bq:Below c w aw:=ai.o.trans<|V.toBelow s.o.nr dc s.o.bk.bk.lo.2;obtain⟨cl,ck,d3,bh,bm⟩:=cn.o.oQ f3 aX;have bP:=h_ (wy aw c _ _ A (y+1) R m g _ left h C B Y cl ck d3 o n hF om bB ⟨aU,rfl,bh⟩ bm (by have:=bR u aP;show(runL u e a f).least<=_;omega) a2 aF (by have:=aL.ll;have:=aO.pn;omega));have bx:=h_ a';have aM:=h_ bq;clear a' n bq bh bm aX aU bo aj V a0
  go_wp2_with (refine mO rfl 8 rfl w.heap.size rfl o bx ?_)
  apply bP.o.mono;intro v cD bW;obtain⟨rfl,bD,b8,bA,b5,bV,bv,bL,bZ,bF,d4,bE,b6,aA,aQ,bH,b1,bw,b2⟩:=bW.qw hF av;have aR:=h_<|aM.o.trans b2;go_wp2;go_ret;exact⟨rfl,bD,b8,bA,b5,bV,bv,bL,bZ,bF,d4,bE,b6,aA,aQ,bH,b1,bw,aR,by first|trivial|exact λM=>absurd M (li bX)⟩
def wO(f:b_)(l:Nat)(j:Nat->Nat)(g:me)(k p:Nat)(u:lu)(a:Cf)(i:j4)(e:Ls)(left:lw)(t:Nat)(w:Nat->a_)(s:Nat->Bool)(d:Nat)(v:nE)(lv o:f_)(r y:Nat)(b:List Ac)(c:List Sv)(x:a_)(n:nJ f l j g k p u a i e left t w s d)(X:lA f l j g i)(hF:nN a)(U:p<=1700000)(Y:2*a.sec<=d/\d<=64)(D:yu v)
 (P:f.ownsRow r 77 4 lv b.length<|b.flatMap ku) (R:l<=r) (C:∀h,lv.ownBlock=some h->j h=1/\¬u.on k h) (K:f.ownsRow y 113 3 o c.length<|c.flatMap ng) (T:∀h,o.ownBlock=some h->j h≠7) (S:pR d c b) (hA:b.length<=900000) (J:c.length<=900000) (Q:e.wet=[]) (I:e.least<=900000) (V:∀z∈c,0<=z.1/\z.1<=1000000000)
 (F:∀m,m<=b.length->l0 a.z a.sec d a.c a.h left (runL m c b e)) (A:∀m,m<=b.length->(runL m c b e).least<=900000) (W:oR a.z a.sec d i g.p.rd (runL b.length c b e) left t x) (E:kQ i) (q:Nat) (M:Bd a i g.p.rd w s q) (O:q<=1100000) (N:∀L∈left,L.length<=1000):
 Calls prog 33 #[π g.g,lv,o,.agg<|k9 v,π k] f λB Z=>B=.returned (.bool true)/\lc f Z l g k (p+11) a d q:=
 (sE f l j g k p u a i e left t w s d v lv o r y b c x n X hF U Y D P R C K T S hA J Q I V F A W E q M O N).mono λ_ _ n=>⟨n.1,n.2.qw⟩
structure Full(w:b_)(B:Nat)(c:Nat->Nat)(q:me)(kb m:Nat)(b:lu)(F:Cf)(D:j4)(s:Ls)(left:lw)(safe:Nat)(ys:Nat->a_)(zs:Nat->Bool)(nd:Nat)(d:a_)(bdn:Nat):Prop where
 sb:nJ w B c q kb m b F D s left safe ys zs nd
 dv:lA w B c q D
 qB:oR F.z F.sec nd D q.p.rd s left safe d
 ok:kQ D
 bd:Bd F D q.p.rd ys zs bdn
 bn:bdn<=1100000
 ll:∀l∈left,l.length<=1000
def Full.qw{l c:b_}{b k g f o m:Nat}{e:Nat->Nat}{d q0:me}{h:lu}{p:Cf}{j:j4}{q:Ls}{left:lw}{n:Nat->a_}{r:Nat->Bool}{i:a_}(a:Full c b e d k g h p j q left f n r o i m)(s:d.g=q0.g)(t:Below b l c):lc l c b q0 k g p o m:=
 ⟨d,e,h,j,q,left,f,n,r,i,a.sb,a.dv,a.qB,a.ok,a.bd,a.ll,s,t⟩
def Full.below{b d:b_}{B l f e o m:Nat}{c:Nat->Nat}{q:me}{g:lu}{p:Cf}{i:j4}{r:Ls}{left:lw}{n:Nat->a_}{s:Nat->Bool}{h:a_}(a:Full b B c q l f g p i r left e n s o h m)(j:Below b.heap.size b d):Full d B (nc d B<|kU b c 9) q l f g p i r left e n s o h m:=
 ⟨a.sb.below j,(a.dv.frame a.sb.nr (Fc.jX (k:=9) j) (jW b c 9) dc).nc,a.qB,a.ok,a.bd,a.bn,a.ll⟩
def Full.kp{j:b_}{f k e d n l:Nat}{c:Nat->Nat}{o:me}{g:lu}{b:Cf}{a:j4}{p:Ls}{left:lw}{m:Nat->a_}{q:Nat->Bool}{i:a_}(h:Full j f c o k e g b a p left d m q n i l):a.kp 0=b.c/\a.kp 2=b.h:=by rw[h.sb.cf.kp];exact⟨rfl,rfl⟩
theorem AL(w:b_)(d:Nat)(v:Nat->Nat)(q:me)(g h:Nat)(t:lu)(b:Cf)(i:j4)(e:Ls)(left:lw)(r:Nat)(u:Nat->a_)(n:Nat->Bool)(Y:Nat)(ap:a_)(aa:Nat)(o:nE)(M:Full w d v q g h t b i e left r u n Y ap aa)(hF:nN b)(aB:h<=1700000)(bB:2*b.sec<=Y/\Y<=64)(I:yu o)(C:o.kind=8):
 l4 prog 9 #[π q.g,.agg<|k9 o,π g] w λx aA=>G3 w d q g h b Y left e.least x aA:=by
 refine Ca ?_;intro a6 ev a3;have P:=M.sb.bk.bk.lo.2;refine AW ?_;intro X ae ar ao;have c:=M.below ar;obtain⟨N,s⟩:=j5<|nc X d<|kU w v 9;rw[<-s]at c;have z:N w.heap.size=9:=by rw[s];exact mg P ao dc (kB w v 9 _ kM) dc
 have W:X.cell? (μ w.heap.size 0)=some (ν 8):=by rw[Yu _ _ _ _ _ _ ao];show some (ν o.kind)=_;rw[C]
 have j:l0 b.z b.sec Y b.c b.h left e:=by have:=c.qB.oQ;rw[c.kp.1,c.kp.2]at this;exact this
 have F:=h_ (yv X d N q i e Y o c.sb.rg ⟨a3,bB.2⟩ j.wet j.size (by rw[c.qB.cm.wet];simp) I);have ay:=h_ j;have a:=h_ c;have y:=h_ ao;have ag:=h_ z;have ah:=h_<|ar.mono P;clear j c ao z s ar M C;refine B8 ?_
 go_upto_region 1 with fail
 rw[<-ae];clear ae
 go_wp2_with (refine mO rfl 4 rfl w.heap.size rfl o y.o ?_)
 refine F.o.mono ?_;rintro x m ⟨rfl,f3,al,D,A,K,l,f⟩;have L:=(f.keep _ _ _ y.o (.inl dc) (qx ag.o)).trans y.o;have B:nJ m d (nc m d al) {q with wt:=σ} g h t b i {dk:=f3,wet:=[],least:=e.least} left r u n Y:=nJ.norm (a.o.sb.bk.frame f l dc) (a.o.sb.rf.frame f l dc dc dc) K a.o.sb.lb a.o.sb.cf a.o.sb.cr<|a.o.sb.fx.frame f l dc;have O:Below d w m:=ah.o.trans<|f.toBelow a.o.sb.nr dc a.o.sb.bk.bk.lo.2;obtain⟨aw,au,d3,E,J⟩:=ay.o.oQ f3 D;have ai:=h_ (wy m d _ _ g h t b i _ left r u n Y aw au d3 o B hF om bB ⟨A,rfl,E⟩ J (by have:=a.o.qB.le;have:=a.o.bd.pn;have:=a.o.bn;show e.least<=_;omega) I a.o.ll (by have:=a.o.qB.ll;have:=a.o.bd.pn;have:=a.o.bn;omega));have V:=h_ L;have aj:=h_ O;clear L B O E J D A K l f F W
 go_wp2_with (refine mO rfl 4 rfl w.heap.size rfl o V.o ?_)
 refine ai.o.mono ?_;intro x aC an;obtain⟨rfl,ab,U,Z,Q,T,af,d4,am,ac,R,ak,ax,ad,aq,S,av⟩:=an;have az:=h_<|aj.o.trans aq;go_wp2;go_ret;exact⟨rfl,ab,U,Z,Q,T,af,d4,am,ac,R,ak,ax,ad,az.o,S,av⟩
def MX(d:b_)(i:Nat)(k:Nat->Nat)(h:me)(f c:Nat)(m:lu)(b:Cf)(o:j4)(q:Ls)(left:lw)(l:Nat)(p:Nat->a_)(r:Nat->Bool)(a:Nat)(n:a_)(g:Nat)(e:nE)(j:Full d i k h f c m b o q left l p r a n g)(hF:nN b)(u:c<=1700000)(x:2*b.sec<=a/\a<=64)(t:yu e)(w:e.kind=8):
 l4 prog 9 #[π h.g,.agg<|k9 e,π f] d λs v=>s=.returned (.bool true)/\lc d v i h f (c+10) b a g:=
 (AL d i k h f c m b o q left l p r a n g e j hF u x t w).mono λ_ _ j=>j.qw hF g
section
variable {w w':b_}{B:Nat}{c:Nat->Nat}{q:me}{kb m:Nat}{b:lu}{F:Cf}{D:j4}{s:Ls}{left:lw}{A0:Nat}{ys:Nat->a_}{zs:Nat->Bool}{nd bdn:Nat}{d:a_}
def Full.T0(a:Full w B c q kb m b F D s left A0 ys zs nd d bdn)(f:Below w.heap.size w w')(e:Nat):Full w' B (nc w' B<|kU w c e) q kb m b F D s left A0 ys zs nd d bdn:=
 ⟨nJ.norm (a.sb.bk.frame (k:=9) (Fc.jX f) (jW w c e) dc) (a.sb.rf.frame (k:=9) (Fc.jX f) (jW w c e) dc dc dc) (a.sb.rg.frame (k:=9) (Fc.jX f) (jW w c e) dc) a.sb.lb a.sb.cf a.sb.cr<|a.sb.fx.frame (k:=9) (Fc.jX f) (jW w c e) dc,(a.dv.frame a.sb.nr (Fc.jX (k:=9) f) (jW w c e) dc).nc,a.qB,a.ok,a.bd,a.bn,a.ll⟩
def Full.book{i:Nat}{h:lu}{j:f_}(a:Full w B c q kb m b F D s left A0 ys zs nd d bdn)(o:kP w' B kb i h)(n:qs w w' kb b h j)(k:∀g,j.ownBlock=some g->c g=1/\B<=g/\g<w.heap.size):Full w' B (nc w' B<|kU w c 1) q kb i (h.trim w') F D s left A0 ys zs nd d bdn/\Fc c 1 w w':=by let⟨l,e⟩:=a.sb.bk.step o n k;have f:=jW w c 1;exact⟨⟨nJ.norm l (a.sb.rf.frame e f dc dc dc) (a.sb.rg.frame e f dc) a.sb.lb a.sb.cf a.sb.cr<|a.sb.fx.frame e f dc,(a.dv.frame a.sb.nr e f dc).nc,a.qB,a.ok,a.bd,a.bn,a.ll⟩,e⟩
end
structure BZ(w wr:b_)(B:Nat)(c':Nat->Nat)(q:me)(kb m:Nat)(b':lu)(F:Cf)(D:j4)(s:Ls)(left:lw)(A0:Nat)(ys:Nat->a_)(zs:Nat->Bool)(nd:Nat)(d:a_)(bdn:Nat)(o:nE)(mv:f_)(xs:List Int):Prop where
 fu:Full wr B c' q kb m b' F D s left A0 ys zs nd d bdn
 mo:wr.ownsRow B 3 1 mv xs.length<|xs.flatMap ka
 mc:∀g,mv.ownBlock=some g->c' g=9
 bx:wr.heap[w.heap.size]?=some (.cells (k9 o) 42)
 cb:c' w.heap.size=9
 bl:Below B w wr
theorem wR(w:b_)(B:Nat)(c:Nat->Nat)(q:me)(kb m:Nat)(b:lu)(F:Cf)(D:j4)(s:Ls)(left:lw)(A0:Nat)(ys:Nat->a_)(zs:Nat->Bool)(nd:Nat)(d:a_)(bdn:Nat)(o:nE)(e:List Int)(z:Int)(M:Full w B c q kb m b F D s left A0 ys zs nd d bdn)(a6:m<=1700000)(aA:o.kind=7)(aJ:e.length<=1000)(am:0<nd)
 (au:∀(l:b_) (h:Nat->Nat),j3 l B h q.p q.p.rd left A0 ys zs->Calls prog 38 #[π q.p.r,ν o.a] l λj w'=>∃v,j=.returned (.tuple #[v,ν z])/\w'.ownsRow l.heap.size 3 1 v e.length (e.flatMap ka)/\Below l.heap.size l w')
 (ah:∀(l:b_) (aW:Nat->Bool),j1 aW l q.d q.L q.S q.E q.wv D->Calls prog 14 #[π q.d,ν o.a] l λj w'=>∃v,j=.returned (.tuple #[v,ν z])/\w'.ownsRow l.heap.size 3 1 v e.length (e.flatMap ka)/\Below l.heap.size l w'):
 l4 prog 9 #[π q.g,.agg<|k9 o,π kb] w λj w'=>j=.returned (.bool true)/\∃h u,Full w' B h q kb (m+2) u F D s left A0 ys zs nd d bdn/\Below B w w':=by
 have aC:=M.sb.bk.bk.lo.2;refine AW ?_;intro X ae ar ao;have C:=M.below ar.drew;obtain⟨bN,bZ⟩:=j5<|nc X.drew B<|kU w c 9;rw[<-bZ]at C;refine Gt ?_;intro bo;have aU:X.cell? (μ w.heap.size 0)=some (ν 7):=by rw[Yu _ _ _ _ _ _ ao];show some (ν o.kind)=_;rw[aA]
 refine Ko ?_;intro cq;obtain⟨_,_,_,_,_,_,_,aI,_,_,_,_,_,_,_,_,_,_,_,_,_,I⟩:=C.sb.cells am;have ag:X.cell? (μ q.g 1)=some (π q.p.r):=aI;have ac:q.g<X.heap.size:=I;have E:=Yn ao;have al:=h_<|au X.drew bN C.sb.rf;have aS:=h_ ah;have aj:=h_ C;have aq:=h_ ao;have aF:=h_ bo;have aG:=h_<|ar.drew.mono aC;have O:=h_ aJ;clear C ao bo bZ ar M aA aJ aI I au ah;refine B8 ?_
 go_upto_region 1 with fail
 rw[<-ae];clear ae
 go_upto_region 24 with fail
 go_cut [16,17]from 150 to 159 (λmv j aX=>j=ν z/\∃h u,BZ w aX B h q kb m u F D s left A0 ys zs nd d bdn o mv e)
 case first=>
  go_region_held3 (λw'=>w'.cell? (μ q.g 1)=some (π q.p.r)/\w'.cell? (μ w.heap.size 2)=some (ν o.a)) (go_keep)
   (first
    |(go_at_call 38;refine al.o.mono ?_;rintro j W ⟨v,rfl,t,n⟩;have f1:=((ke n).1 _ _ (show q.g<X.drew.heap.size from ac)).trans ag;have f2:=((ke n).1 _ _ (show w.heap.size<X.drew.heap.size from E)).trans cq))
  have aT:=aj.o.below n;have ad:=(n.block _ (show w.heap.size<X.drew.heap.size from E)).trans aq.o;have V:Hid<|BZ w W B _ q kb m b F D s left A0 ys zs nd d bdn o v e:=⟨aT,j9 t (by show B<=X.heap.size;omega),lN t (by show B<=X.heap.size;omega) dc dc (λa f=>kB _ _ 9 a (t.lt a f).1),ad,mg aC ad dc ((jW X.drew bN 9 _ E).trans aF.o) dc,aG.o.trans (n.mono (by show B<=X.heap.size;omega))⟩;go_wp2
  go_meet
  exact⟨rfl,_,_,V.o⟩
 case rest=>
  obtain⟨rfl,aM,aN,g⟩:=hcut;obtain⟨az,ap,rfl,_⟩:=i_ g.mo;have V:=h_ g;clear g aU cq ag ac E al aj aq aF aG
  go_wp2_with fail
  go_loopw [18,19,20,21] (λZ _ _ _ wr=>∃(r:Nat) (h:Nat->Nat) (u:lu),Z=ν r/\r<=2/\BZ w wr B h q kb (m+r) u F D s left A0 ys zs nd d bdn o (.slice az e.length ap) e) (λZ _ _ _ _=>2-(intOf Z).toNat)
  case atStart=>exact⟨0,aM,aN,rfl,om,V.o⟩
  case round=>
   obtain⟨r,h,u,rfl,a8,g⟩:=hrel;by_cases bb:r<2
   .have Q:B<=wr.heap.size:=g.fu.sb.bk.bk.lo.2;have aB:=(g.fu.dv.frame g.fu.sb.nr (Fc.jX (k:=9) (Below.refl wr.heap.size wr).drew) (mD.refl _ _) dc).rP;have aO:=h_<|aS.o wr.drew _ aB;obtain⟨_,_,_,_,_,_,k0,_,_,_,_,_,_,_,_,_,_,_,_,_,_,I⟩:=g.fu.sb.cells am;have cq:wr.cell? (μ w.heap.size 2)=some (ν o.a):=(Yu _ _ _ _ _ _ g.bx).trans rfl;have Y:=Yn g.bx;have i:=h_ g;clear g aB
    go_wp2_with fail
    go_region_held3 (λw'=>w'.cell? (μ q.g 0)=some (π q.d)/\w'.cell? (μ w.heap.size 2)=some (ν o.a)) (go_keep)
     (first
      |(go_at_call 14;refine aO.o.mono ?_;rintro j W ⟨v,rfl,t,n⟩;have f1:=((ke n).1 _ _ (show q.g<wr.drew.heap.size from I)).trans k0;have f2:=((ke n).1 _ _ (show w.heap.size<wr.drew.heap.size from Y)).trans cq))
    obtain⟨aP,a0,rfl,_⟩:=i_ t;have J:=kx n;have ax:=jY i.o.mo J;have aY:=h_<|rq e e _ _ _ _ W t ax (li O.o) (li O.o);have aV:=h_ t;have a1:=h_ J;have a7:=J.size;clear t n J ax f1 f2 k0 cq
    go_wp2_with fail
    refine aY.o.mono ?_;rintro j x ⟨rfl,U⟩;have A:=jZ a1.o U;have T:=i.o.fu.T0 A 1;have y:=jY aV.o U;have ak:=lN (B:=B) y (by show B<=wr.heap.size;exact Q) dc (show(1:Nat)≠0 by decide) (λa f=>kB wr h 1 a (y.lt a f).1);have L:=jY i.o.mo A;have aE:=lN (B:=B) L kM dc (show(9:Nat)≠0 by decide) (λa f=>(jW wr h 1 a (i.o.mo.lt a f).2).trans<|i.o.mc a f);have R:=(A.block _ Y).trans i.o.bx;have af:B<=w.heap.size:=by have:=i.o.bl;exact aC
    have aH:nc x B (kU wr h 1) w.heap.size=9:=mg af R dc ((jW wr h 1 _ Y).trans i.o.cb) dc;have aQ:=h_ (C5 x B kb (m+r) u (.slice aP e.length a0) e T.sb.bk.bk om (j9 y (by show B<=wr.heap.size;exact Q)) (li O.o) (λa f a3=>by have a9:=i.o.fu.sb.bk.bk.here a a3;have aZ:wr.heap.size<=a:=(y.lt a f).1;omega));have aa:=h_ T;have aK:=h_ y;have aR:=h_ ak;have av:=h_ L;have an:=h_ aE;have N:=h_ R;have aD:=h_ aH;have aL:=h_<|i.o.bl.trans<|A.mono Q;have a':decide (e=e)=true:=si;have a5:(z !=z)=false:=si;clear U A T y ak L aE R aH
    go_wp2_with fail
    refine aQ.o.mono ?_;rintro j S ⟨rfl,a4,ay,ai,_,_⟩;obtain⟨aw,K⟩:=aa.o.book ay ai.ft (λa f=>⟨aR.o a f,by have aZ:wr.heap.size<=a:=(aK.o.lt a f).1;omega,(aK.o.lt a f).2⟩);have ab:=K.own av.o dc (λa f=>by rw[an.o a f];decide);have P:=(K.keep _ _ _ N.o (.inl dc) (qx aD.o)).trans N.o;have a2:Hid<|BZ w S B (nc S B<|kU x (nc x B<|kU wr h 1) 1) q kb (m+r+1) (a4.trim S) F D s left A0 ys zs nd d bdn o (.slice az e.length ap) e:=⟨aw,ab,lN (B:=B) ab kM dc (show(9:Nat)≠0 by decide) (λa f=>(jW x _ 1 a (av.o.lt a f).2).trans<|an.o a f),P,mg af P dc ((jW x _ 1 _ (Yn N.o)).trans aD.o) dc,aL.o.trans<|K.toBelow aa.o.sb.nr dc aa.o.sb.bk.bk.lo.2⟩;clear ay ai aw K ab P;go_wp2
    go_roundw
    case rel=>exact⟨r+1,_,_,gn,om,a2.o⟩
    case measure=>exact mz
   .obtain rfl:r=2:=om;have i:=h_ g;clear g;go_wp2;go_ret;exact⟨rfl,h,u,i.o.fu,i.o.bl⟩
def Hj(w:b_)(B:Nat)(c:Nat->Nat)(q:me)(kb m:Nat)(b:lu)(F:Cf)(D:j4)(s:Ls)(left:lw)(A0:Nat)(ys:Nat->a_)(zs:Nat->Bool)(nd:Nat)(d:a_)(bdn:Nat)(f:nE)(a:Nat)(e:Full w B c q kb m b F D s left A0 ys zs nd d bdn)(x:m<=1700000)(r:f.kind=7)(l:f.a=(a:Nat))(h:a<4)(o:0<nd):
 l4 prog 9 #[π q.g,.agg<|k9 f,π kb] w λn w'=>n=.returned (.bool true)/\∃i y,Full w' B i q kb (m+2) y F D s left A0 ys zs nd d bdn/\Below B w w':=by
 have v:=e.ok.sz a h;have j:((List.range<|D.sz a).map<|D.ent a).length=D.sz a:=si;refine wR w B c q kb m b F D s left A0 ys zs nd d bdn f ((List.range<|D.sz a).map<|D.ent a) 0 e x r om o (λg i t=>?_) (λg A u=>?_)
 .rw[j,l];have:=As g B i q.p q.p.rd left A0 ys zs a t h (by rw[e.qB.tw.sz];exact v);rw[e.qB.tw.sz,e.qB.tw.ent]at this;exact this
 .rw[j,l];exact uD q.d q.L q.S a q.E q.wv D _ g u h j om (λC z k=>by rw[Y9]at k;obtain⟨E,p,rfl⟩:=Zk.1 k;let⟨h3,h4⟩:=Yr.1 p;simp at h3 h4;rw[h4])
def F_{h:Nat->Bool}(d j f:Nat)(g:Nat->Nat)(i:f_)(D:j4)(a:Int)(w:b_)(_:j1 h w d j f g i D)(k:a<0\/3<a):
 Calls prog 14 #[π d,ν a] w λe w'=>e=.returned (.tuple #[σ,ν 1])/\w'=w:=by
 go_enter func14,ntmps14
 exact Ri
def F'(f:Nat)(a:Int)(w:b_)(g:a<0\/3<a):
 Calls prog 38 #[π f,ν a] w λe w'=>e=.returned (.tuple #[σ,ν 1])/\w'=w:=by
 by_cases h:a<0
 .clear g
  go_enter func38,ntmps38
  go_wp2
  go_ret2
  exact⟨rfl,rfl⟩
 .have i:3<a:=om
  go_enter func38,ntmps38
  go_wp2
  go_ret2
  exact⟨rfl,rfl⟩
def Ga(w:b_)(B:Nat)(c:Nat->Nat)(q:me)(kb m:Nat)(b:lu)(F:Cf)(D:j4)(s:Ls)(left:lw)(A0:Nat)(ys:Nat->a_)(zs:Nat->Bool)(nd:Nat)(d:a_)(bdn:Nat)(a:nE)(k:Full w B c q kb m b F D s left A0 ys zs nd d bdn)(p:m<=1700000)(n:a.kind=7)(j:a.a<0\/3<a.a)(l:0<nd):
 l4 prog 9 #[π q.g,.agg<|k9 a,π kb] w λe w'=>e=.returned (.bool true)/\∃i r,Full w' B i q kb (m+2) r F D s left A0 ys zs nd d bdn/\Below B w w':=by
 refine wR w B c q kb m b F D s left A0 ys zs nd d bdn a [] 1 k p n si l (λg i _=>?_) (λg t o=>?_)
 .exact(F' q.p.r a.a g j).mono λe w' ⟨h,f⟩=>⟨_,h,Yq ..,by rw[f];exact Below.refl ..⟩
 .exact(F_ q.d q.L q.S q.E q.wv D a.a g o j).mono λe w' ⟨h,f⟩=>⟨_,h,Yq ..,by rw[f];exact Below.refl ..⟩
theorem Pt(w:b_)(B:Nat)(c:Nat->Nat)(q:me)(kb m:Nat)(b:lu)(F:Cf)(D:j4)(s:Ls)(left:lw)(A0:Nat)(ys:Nat->a_)(zs:Nat->Bool)(nd:Nat)(d:a_)(bdn:Nat)(o:nE)(M:Full w B c q kb m b F D s left A0 ys zs nd d bdn)(e:o.kind<2\/8<o.kind):
 l4 prog 9 #[π q.g,.agg<|k9 o,π kb] w λa w'=>a=.returned (.bool true)/\lc w w' B q kb m F nd bdn:=by
 have g:=M.sb.bk.bk.lo.2;refine AW ?_;intro X ae ar ao;have f:=h_<|(M.below ar).qw (q0:=q) rfl (ar.mono g);have i:X.cell? (μ w.heap.size 0)=some (ν o.kind):=(Yu _ _ _ _ _ _ ao).trans rfl;have r:(o.kind==2)=false:=nU;have n:(o.kind==3)=false:=nU;have h:(o.kind==4)=false:=nU;have t:(o.kind==5)=false:=nU;have l:(o.kind==6)=false:=nU;have j:(o.kind==7)=false:=nU;have u:(o.kind==8)=false:=nU;clear M ar ao e;refine B8 ?_
 go_upto_region 1 with fail
 rw[<-ae];clear ae;go_wp2;go_ret;exact⟨rfl,f.o⟩
def y3:∀(h:Nat) (a:List Sv) (c:List Ac) (d:Ls) (b:Nat),d.least<=b->(∀f∈a,f.1<=(b:Int))->(runL h a c d).least<=b:=by
 intro h
 induction h with
 |zero=>intro a c d b e _;rw[runL];exact e
 |succ h i=>
  intro a c d b e g
  cases c with
  |nil=>rw[runL];exact e
  |cons k c=>
   rw[runL];split
   .exact i a c _ b e g
   .split
    .exact i a c (tt d) b e g
    .refine i a.tail c _ b ?_ (λf j=>g f<|List.mem_of_mem_tail j);show max d.least (a.headD (0,0,⟨#[]⟩)).1.toNat<=b
     have:(a.headD (0,0,⟨#[]⟩)).1<=(b:Int):=by
      cases a with
      |nil=>show(0:Int)<=_;omega
      |cons f a=>exact g f YD
     omega
def Gc{D:j4}(d c h:Nat)(a:a_)(g:D.sec<=3):(kD D d c h a).2.length+(kD D d c h a).1.wait.length<=D.wait.length+5:=by
 have f:∀b:j4,b.sec<=3->(j' b).2.length+(j' b).1.wait.length<=b.wait.length+4:=λb i=>by
  unfold j';split
  .simp
  .show(my b.sec _ _ _++List.map kS b.wait).length+0<=_;rw[Yv,vk,Zx];omega
 unfold kD;split
 .split
  .unfold Ie;split
   .have:=f (ks D a) g;have e:(ks D a).wait=D.wait:=rfl;rw[e]at this;omega
   .show 0+D.wait.length<=_;omega
  .simp
 .split
  .show 1+D.wait.length<=_;omega
  .split
   .have:=f {ks D a with wait:=D.wait++[mf D d c a]} g;have e:({ks D a with wait:=D.wait++[mf D d c a]}:j4).wait.length=D.wait.length+1:=by show(D.wait++[mf D d c a]).length=_;simp
    omega
   .show 0+(D.wait++[mf D d c a]).length<=_;rw[Yv,Zn];omega
def M2{b h:j4}(g:Twin b h)(e k j:Nat)(i:a_)(a:yl h e j i=false):kD b e k j i=(b,[]):=by unfold yl o' at a;rw[abc,aaB,g.unit]at a;unfold kD;rw[Ys a.1,Yo];intro c;have d:=a.2;have f:=c.2.2;rw[s6,Zw]at f;rw[g.kind,YW c.1,YW c.2.1,f.1]at d;simp at d
def nt (D:j4)(fs:List<|Nat×Nat×Nat×a_):j4×List (Int×Int×Int×a_):=
 fs.foldl (λp f=>((kD p.1 f.1 f.2.1 f.2.2.1 f.2.2.2).1,p.2++(kD p.1 f.1 f.2.1 f.2.2.1 f.2.2.2).2)) (D,[])
def kZ (R:j4)(left:List<|List Int)(safe:Nat)(fs:List<|Nat×Nat×Nat×a_):j4×List (Int×Int×a_)×List (List Int)×Nat:=
 fs.foldl (λst f=>(m3 st.1 f.1 f.2.1 f.2.2.1 f.2.2.2,st.2.1++mZ st.1 f.1 f.2.1 f.2.2.1 f.2.2.2,py st.1 f.1 f.2.2.1 f.2.2.2 st.2.2.1,pN st.1 f.1 f.2.1 f.2.2.1 f.2.2.2 st.2.2.2)) (R,[],left,safe)
def Ef(b:j4)(c:List<|Nat×Nat×Nat×a_)(a:Nat×Nat×Nat×a_):nt b (c++[a])=((kD (nt b c).1 a.1 a.2.1 a.2.2.1 a.2.2.2).1,(nt b c).2++(kD (nt b c).1 a.1 a.2.1 a.2.2.1 a.2.2.2).2):=by unfold nt;rw[aay];rfl
def uc(b:j4)(left:lw)(c:Nat)(d:List<|Nat×Nat×Nat×a_)(a:Nat×Nat×Nat×a_):kZ b left c (d++[a])=(m3 (kZ b left c d).1 a.1 a.2.1 a.2.2.1 a.2.2.2,(kZ b left c d).2.1++mZ (kZ b left c d).1 a.1 a.2.1 a.2.2.1 a.2.2.2,py (kZ b left c d).1 a.1 a.2.2.1 a.2.2.2 (kZ b left c d).2.2.1,pN (kZ b left c d).1 a.1 a.2.1 a.2.2.1 a.2.2.2 (kZ b left c d).2.2.2):=by unfold kZ;rw[aay];rfl
def M3(a:j4)(c:Nat)(b:List<|Nat×Nat×a_):lP a c b=nt a (b.map λd=>(c,d)):=by unfold lP nt;rw[List.foldl_map]
def Pu(a:j4)(d:Nat)(left:lw)(b:Nat)(c:List<|Nat×Nat×a_):kR a d left b c=kZ a left b (c.map λe=>(d,e)):=by unfold kR kZ;rw[List.foldl_map]
structure W9(z sec nd:Nat)(D R:j4)(s:Ls)(n:Nat)(T:j4×List Ac)(Q:j4×List Sv×lw×Nat):Prop where
 ok:kQ T.1
 sd:oa D T.1
 sr:oa R Q.1
 M4:pR nd Q.2.1 T.2
 oQ:∀n,n<=T.2.length->l0 z sec nd (D.kp 0) (D.kp 2) Q.2.2.1 (runL n Q.2.1 T.2 s)
 qB:∃d',oR z sec nd T.1 Q.1 (runL T.2.length Q.2.1 T.2 s) Q.2.2.1 Q.2.2.2 d'
 ar:T.1.arr<=Q.1.arr
 rn:R.arr<=Q.1.arr/\Q.1.arr<=R.arr+n
 num:∀x∈Q.2.1,0<=x.1/\x.1<=(Q.1.arr:Int)
 VV:T.2.length+T.1.wait.length<=D.wait.length+5*n
 ll:∀l∈Q.2.2.1,l.length<=1000
def many{r q o v:Nat}{f h:j4}{m:Ls}{left:lw}{B:a_}(A:oR r q o f h m left v B)(C:kQ f)(E:f.arr<=h.arr)(N:f.sec<=3)(L:∀t∈left,t.length<=1000):∀(k l:List<|Nat×Nat×Nat×a_),l=k.reverse->W9 r q o f h m l.length (nt f l) (kZ h left v l):=by
 intro k
 induction k with
 |nil=>
  rintro l rfl;refine⟨C,oa.refl f,oa.refl h,.nil,λe w=>?_,⟨B,A⟩,E,⟨YC _,YC _⟩,λi j=>(by cases j),by simp[nt],L⟩;obtain rfl:e=0:=by simpa[nt]using w
  exact A.oQ
 |cons a k P=>
  rintro l rfl;have c:=P k.reverse rfl;rw[ab6,Yv,Zn,uc,Ef];let⟨b,R⟩:=j5<|kZ h left v k.reverse;let⟨d,F⟩:=j5<|nt f k.reverse;rw[<-R,<-F]at c⊢;let⟨d1,n⟩:=c.qB;let⟨I,D,d2,Q⟩:=n.take c.ok a.1 a.2.1 a.2.2.1 a.2.2.2;let⟨t,M⟩:=L9 b.1 a.1 a.2.2.1 a.2.2.2 b.2.2.1;have p:=s4 b.1 a.1 a.2.1 a.2.2.1 a.2.2.2;have y:=tT d.1 a.1 a.2.1 a.2.2.1 a.2.2.2;have S:=Gc a.1 a.2.1 a.2.2.1 a.2.2.2 (by rw[c.sd.sec];exact N);have U:=c.rn;refine⟨yc c.ok ..,c.sd.trans y.1,c.sr.trans p.1,c.M4.append I,λe w=>?_,⟨d2,?_⟩,?_,?_,λi j=>?_,?_,λx J=>?_⟩
  .show l0 r q o (f.kp 0) (f.kp 2) (py b.1 a.1 a.2.2.1 a.2.2.2 b.2.2.1) (runL e (b.2.1++mZ b.1 a.1 a.2.1 a.2.2.1 a.2.2.2) (d.2++(kD d.1 a.1 a.2.1 a.2.2.1 a.2.2.2).2) m);rcases Zj d.2.length e with T|z
   .have V:e<=d.2.length+(kD d.1 a.1 a.2.1 a.2.2.1 a.2.2.2).2.length:=by have:e<=(d.2++(kD d.1 a.1 a.2.1 a.2.2.1 a.2.2.2).2).length:=w;rwa[Yv]at this
    have:=sj (W':=mZ b.1 a.1 a.2.1 a.2.2.1 a.2.2.2) (A':=(kD d.1 a.1 a.2.1 a.2.2.1 a.2.2.2).2) c.M4 (e-d.2.length) m;rw[show d.2.length+(e-d.2.length)=e by omega]at this;rw[this,<-c.sd.kp];exact D _ om
   .rw[AZ c.M4 e m z,M];exact(c.oQ e z).more t
  .show oR r q o (kD d.1 a.1 a.2.1 a.2.2.1 a.2.2.2).1 (m3 b.1 a.1 a.2.1 a.2.2.1 a.2.2.2) (runL (d.2++(kD d.1 a.1 a.2.1 a.2.2.1 a.2.2.2).2).length (b.2.1++mZ b.1 a.1 a.2.1 a.2.2.1 a.2.2.2) (d.2++(kD d.1 a.1 a.2.1 a.2.2.1 a.2.2.2).2) m) (py b.1 a.1 a.2.2.1 a.2.2.2 b.2.2.1) (pN b.1 a.1 a.2.1 a.2.2.1 a.2.2.2 b.2.2.2) d2;rw[Yv,sj c.M4];exact Q
  .show(kD d.1 a.1 a.2.1 a.2.2.1 a.2.2.2).1.arr<=(m3 b.1 a.1 a.2.1 a.2.2.1 a.2.2.2).arr;have:=c.ar;rw[p.2];cases O:yl b.1 a.1 a.2.2.1 a.2.2.2
   .rw[M2 n.tw _ _ _ _ O,Yo si];exact this
   .rw[Ys rfl];have:=y.2;omega
  .show h.arr<=(m3 b.1 a.1 a.2.1 a.2.2.1 a.2.2.2).arr/\(m3 b.1 a.1 a.2.1 a.2.2.1 a.2.2.2).arr<=_;rw[p.2];split<;>omega
  .show 0<=i.1/\i.1<=((m3 b.1 a.1 a.2.1 a.2.2.1 a.2.2.2).arr:Int);rw[p.2];rcases ZU.1 j with j|j
   .have:=c.num i j;split<;>omega
   .have g:=j;unfold mZ at g;split at g
    .rename_i K;rw[K.1,Ys rfl];unfold mG at g;split at g
     .have:=n.top i g;omega
     .rcases ZU.1 g with g|g
      .have:=n.top i g;omega
      .rw[Y'.1 g];exact⟨Int.natCast_nonneg _,Int.le_refl _⟩
    .cases g
  .show(d.2++(kD d.1 a.1 a.2.1 a.2.2.1 a.2.2.2).2).length+(kD d.1 a.1 a.2.1 a.2.2.1 a.2.2.2).1.wait.length<=_;have:=c.VV;rw[Yv];omega
  .have s:=J;unfold py at s;split at s
   .rcases ZU.1 s with u|u
    .exact c.ll x u
    .rw[Y'.1 u,pd,n.tw.kp];have:=c.ok.xe;have:=c.ok.xg;have:=c.ok.sz 0 om;have:=c.ok.sz 2 om;omega
   .exact c.ll x s
structure Pv(F:Cf)(nd:Nat)(D' R':j4)(s:Ls)(left':lw)(safe':Nat)(ys':Nat->a_)(zs':Nat->Bool)(A:List Ac)(W:List Sv)(bd:Nat):Prop where
 M4:pR nd W A
 al:A.length<=900000
 wl:W.length<=900000
 wet:s.wet=[]
 ls:s.least<=900000
 num:∀x∈W,0<=x.1/\x.1<=1000000000
 oQ:∀n,n<=A.length->l0 F.z F.sec nd F.c F.h left' (runL n W A s)
 least:∀n,n<=A.length->(runL n W A s).least<=900000
 qB:∃d',oR F.z F.sec nd D' R' (runL A.length W A s) left' safe' d'
 ok:kQ D'
 bd:Bd F D' R' ys' zs' bd
 ll:∀l∈left',l.length<=1000
 cf:mK D' F
 cr:mK R' F
def pR.len{e:Nat}{c:List Sv}{a:List Ac}(f:pR e c a):c.length<=a.length:=by
 induction f with
 |nil=>exact YC _
 |write g d _ _ _ b=>simp only[YA];omega
 |sync _ b=>simp only[YA];omega
 |send d _ b=>simp only[YA];omega
def mK.same{c e:j4}{d:Cf}(a:mK c d)(b:oa c e):mK e d:=⟨b.sz.trans a.sz,b.kp.trans a.kp,b.unit.trans a.unit,b.nl.trans a.nl,b.batch.trans a.batch,b.sec.trans a.sec,λf=>by rw[b.ln];exact a.kind f⟩
def Eg{d:Cf}{o f:Nat}{c e:j4}{i:Ls}{left:lw}{t:a_}(m:oR d.z d.sec o c e i left f t)(h:kQ c)(j:mK c d)(B:mK e d)(hF:nN d)(u:∀s∈left,s.length<=1000)(w:c.arr<=e.arr)(l:Nat->a_)(p:Nat->Bool)(b:List<|Nat×Nat×Nat×a_)(k:Nat)(r:∀g,Lr (c.ln g) (l g)<|p g)(J:4*(e.arr+b.length)+zO l d.n<=k)(L:k<=1100000)(M:b.length<=150000):
 Pv d o (nt c b).1 (kZ e left f b).1 i (kZ e left f b).2.2.1 (kZ e left f b).2.2.2 l p (nt c b).2 (kZ e left f b).2.1 k:=by
 let⟨N,y,_⟩:=Cf.u9 hF;have a:=many m h w (by rw[j.sec];exact y) u b.reverse b (abO _).symm;have q:c.kp 0=d.c/\c.kp 2=d.h:=by rw[j.kp];exact⟨rfl,rfl⟩
 have n:=a.oQ;rw[q.1,q.2]at n;have O:=h.qq;have P:=h.batch;have F:=a.VV;have K:=a.rn;have D:(nt c b).2.length<=900000:=om;have I:=m.le;have E:=a.M4.len;refine⟨a.M4,D,om,m.cm.wet,om,λv z=>by have:=a.num v z;omega,n,λA _=>y3 A _ _ i 900000 om (λC x=>by have:=a.num C x;omega),a.qB,a.ok,⟨a.ar,om,λg=>by rw[a.sd.ln];exact r g⟩,a.ll,j.same a.sd,B.same a.sr⟩
def Pw(b:a_):∀(c a:Nat),(Pl.w4 b c a).1.length*8+3*a<=3*(Pl.w4 b c a).2:=by
 intro c
 induction c with
 |zero=>intro a;show 0*8+3*a<=3*a;omega
 |succ c e=>
  intro a;by_cases d:Pl.ko b a=0
  .rw[Pl.ut b _ a d];simp
  .have g:=Pl.q_ b a d;have:=e<|a+Pl.ko b a;rw[Pl.uu b c a d];show(Pl.wZ b a (Pl.ko b a)++(Pl.w4 b c<|a+Pl.ko b a).1).length*8+3*a<=3*(Pl.w4 b c<|a+Pl.ko b a).2;rw[Yv];have f:(Pl.wZ b a<|Pl.ko b a).length=3:=rfl;omega
def Gd(a:a_):(lI a).length*8<=(Pl.pO a).2/\(Pl.pO a).2<=a.size:=by
 have b:=(l9 a).1;have d:=Pw a (a.size+1) 0;have c:((lI a).flatMap Pl.zf).length=(lI a).length*3:=mn Pl.zf 3 (λ_=>rfl) _;have f:(Pl.w4 a (a.size+1) 0).1.length=(lI a).length*3:=by rw[<-c,<-b];rfl
 have e:(Pl.w4 a (a.size+1) 0).2=(Pl.pO a).2:=rfl;exact⟨om,by have:=LU a (a.size+1) 0<|YG _;omega⟩
def Px(a b:a_):r_ (a.extract 0 257) b=(a++b).extract 0 257:=by
 unfold r_;apply Z6;apply abN;simp only[ZM,ByteArray.data_extract,aah,Array.toList_extract,List.drop_zero,aaK,YM,List.extract_eq_take_drop];rw[List.take_append,show a.data.toList.length=a.size from Y0];congr 1;by_cases d:a.size<=257
 .rw[show min 257 a.size=a.size by omega];by_cases c:b.size<=257-a.size
  .rw[show min b.size (257-a.size)=b.size by omega,Zf (by rw[Y0];exact YC _),Zf (by rw[Y0];exact c)]
  .rw[show min b.size (257-a.size)=257-a.size by omega]
 .rw[show min b.size (257-min 257 a.size)=0 by omega,show 257-a.size=0 by omega]
def Py{d R:j4}{f:Nat->a_}{h:Nat->Bool}(o:∀a,Lr (d.ln a) (f a)<|h a)(a:Nat)(e:a_)(y:(d.ln a).kind<=1)(j:(R.ln a).kind=(d.ln a).kind):mA d a e=lx R f h a e/\∀b,Lr ((qH d a e).ln b) (Ax R f h a e b)<|Di R f h a e b:=by
 have r:=o a;have q:∀b,(qH d a e).ln b=if b=a then(if (d.ln a).kind=1 then{d.ln a with bytes:=r_ (d.ln a).bytes e}else if (d.ln a).broken=true then d.ln a else rm ((d.ln a).bytes++e))else d.ln b:=λ_=>rfl;rcases(show(d.ln a).kind=1\/(d.ln a).kind=0 by omega)with k|w
 .let⟨m,s⟩:=r.VU k;refine⟨by unfold mA lx;rw[Ys<|.inl k,Ys<|.inl<|j.trans k],λb=>?_⟩;rw[Bv e m<|j.trans k,GV e m<|j.trans k,q,Ys k];dsimp only;by_cases c:b=a
  .rw[Ys c,Ys c,c];exact⟨λ_=>⟨m,by show r_ (d.ln a).bytes e=_;rw[s,Px]⟩,λi=>by have:(d.ln a).kind=0:=i;omega⟩
  .rw[Yo c,Yo c];exact o b
 .let⟨m,s⟩:=r.str w;have l:¬(d.ln a).kind=1:=om;cases g:h a
  .have n:=m.trans g;have t:=s g;refine⟨by unfold mA lx;rw[Yo (by rw[n];simp[l]),Yo (by rw[g,j];simp[l]),t],λb=>?_⟩;rw[Bw e g (by rw[j];exact l),GW e g (by rw[j];exact l),q,Yo l,n,Yo (show¬false=true by decide),t];dsimp only;by_cases c:b=a
   .rw[Ys c,Ys c,Ys c];unfold rm;split
    .rename_i p;exact⟨λi=>(by cases i),λ_=>⟨p.symm,λi=>by rw[p]at i;cases i⟩⟩
    .rename_i p;have x:Pl.tl ((f a++e).extract (Pl.pO<|f a++e).2 (f a++e).size)=false:=by simpa using p
     exact⟨λi=>(by cases i),λ_=>⟨x.symm,λ_=>rfl⟩⟩
   .rw[Yo c,Yo c,Yo c];exact o b
  .have n:=m.trans g;refine⟨by unfold mA lx;rw[Ys<|.inr n,Ys<|.inr g],λb=>?_⟩;have v:Ax R f h a e b=f b:=by unfold Ax;by_cases c:b=a<;>simp[c,g]
   have u:Di R f h a e b=h b:=by unfold Di;by_cases c:b=a<;>simp[c,g]
   rw[v,u,q,Yo l,n,Ys rfl];by_cases c:b=a
   .rw[Ys c,c];exact r
   .rw[Yo c];exact o b
def M5{R:j4}{ys:Nat->a_}{zs:Nat->Bool}{a f:Nat}(b:a_)(g:a<f):zO (Ax R ys zs a b) f+8*(lx R ys zs a b).length<=zO ys f+b.size:=by
 cases d:zs a
 .by_cases e:(R.ln a).kind=1
  .rw[Bv b d e];have:=Hf ys (ys a++b) g;rw[Zd]at this;have c:lx R ys zs a b=[]:=by unfold lx;rw[Ys<|.inl e]
   rw[c];simp only[YI];omega
  .rw[Bw b d e];have:=Hf ys ((ys a++b).extract (Pl.pO<|ys a++b).2 (ys a++b).size) g;have i:=Gd<|ys a++b;rw[YM,Zd]at this;rw[Zd]at i;have c:lx R ys zs a b=lI (ys a++b):=by unfold lx;rw[Yo (by rw[d];simp[e])]
   rw[c];rw[Zd];omega
 .have c:lx R ys zs a b=[]:=by unfold lx;rw[Ys<|.inr d]
  have h:Ax R ys zs a b=ys:=by funext k;unfold Ax;by_cases c:k=a<;>simp[c,d]
  rw[c,h];simp only[YI];omega
def mK.line{b:j4}{d:Cf}(a:mK b d)(c:Nat)(e:a_)(g:(b.ln c).kind<=1):mK (qH b c e) d:=⟨a.sz,a.kp,a.unit,a.nl,a.batch,a.sec,λf=>by rw[wu b c e g];exact a.kind f⟩
def oR.line{g d i f:Nat}{b j:j4}{k:Ls}{left:lw}{e:a_}(a:oR g d i b j k left f e)(c:Nat)(h:a_)(m:(b.ln c).kind<=1):oR g d i (qH b c h) j k left f e:=
 ⟨⟨a.fl.sz,a.fl.ent,a.fl.xe,a.fl.xg,a.fl.lat,a.fl.stamp,a.fl.sec,a.fl.qq,a.fl.uns,a.fl.GN⟩,⟨a.tw.sz,a.tw.kp,a.tw.unit,a.tw.nl,a.tw.batch,a.tw.ent,a.tw.uns,λl=>by rw[wu b c h m];exact a.tw.kind l,a.tw.wt⟩,a.top,a.cm,a.rd,a.ll,a.la,a.ix,a.u0,a.le,a.sf,a.hz,a.hs,a.hn⟩
def Jq{g:Cf}{o h:Nat}{f b:j4}{p:Ls}{left:lw}{v:a_}(q:oR g.z g.sec o f b p left h v)(s:kQ f)(n:mK f g)(x:mK b g)(hF:nN g)(w:∀u∈left,u.length<=1000)(d:Nat->a_)(e:Nat->Bool)(k:Nat)(j:Bd g f b d e k)(a:Nat)(c:a_)(l:a<g.n)(r:k+c.size<=1100000):
 mA f a c=lx b d e a c/\Pv g o (m6 f a c).1 (kR b a left h (lx b d e a c)).1 p (kR b a left h (lx b d e a c)).2.2.1 (kR b a left h (lx b d e a c)).2.2.2 (Ax b d e a c) (Di b d e a c) (m6 f a c).2 (kR b a left h (lx b d e a c)).2.1 (k+c.size):=by
 have i:(f.ln a).kind<=1:=by rw[n.kind];exact hF.kn a l
 obtain⟨m,t⟩:=Py (R:=b) j.ln a c i<|q.tw.kind a;have y:=M5 (R:=b) (ys:=d) (zs:=e) c l;have z:=j.pn;refine⟨m,?_⟩;unfold m6;rw[M3,Pu,m];exact Eg (q.line a c i) (yd s a c) (n.line a c i) x hF w j.ar _ _ _ _ t (by rw[Zx];omega) r (by rw[Zx];omega)
section
variable {O:Nat->Bool}
def kw.Wx{n:b_}{m o:Nat}{l:Nat->Nat}{b a:me}{i h:j4}{f:Ls}{p:Cf}(c:kw n m l b i f o)(e:mK i p)(d:mK h p)(j:a.g=b.g)(t:a.d=b.d)(k:a.dv=b.dv)(g:a.wt=b.wt)(s:a.p.r=b.p.r)(r:a.p.lb=b.p.lb)(u:a.p.cap=b.p.cap):kw n m l a h f o:=by
 have q:Dm a h f.least=Dm b i f.least:=by unfold Dm;rw[t,k,g,s,r,u,d.sz.trans e.sz.symm,d.kp.trans e.kp.symm,d.unit.trans e.unit.symm,d.nl.trans e.nl.symm,d.batch.trans e.batch.symm]
 exact⟨by rw[q,j];exact c.n_,by rw[k];exact c.dk,by rw[g];exact c.wet,by rw[j];exact c.cg,by rw[k];exact c.cd,by rw[g];exact c.cw,by rw[j];exact c.lo⟩
def qX{a g:b_}{i:Nat}{b:Nat->Nat}{d:me}{m l:j4}{e:f_}(c:lA a i b d m)(u:wX a i b)(o:j1 (oc b a) g d.d d.L d.S d.E e l)(w:lC m.base (lS (oc b a) d.d d.L d.S d.E) a g)(x:l.base=m.base)(h:Nat):Fc b 2 a g/\lA g i (nc g i<|Dl a b e h) {d with wv:=e} l:=by
 have v:=c.lo;have t:=Fc.VG w c.cd c.cL c.cS c.cE (λj _ f=>by have:=(u.zero j).1 f;omega);have f:=c.rP;refine⟨t,lA.nc<|lA.of o ((oD a b e h _ (Yn f.dev)).trans c.cd) ((oD a b e h _ f.lines.lt).trans c.cL) ((oD a b e h _ (Yn f.store)).trans c.cS) (λs q=>(oD a b e h _ (f.ent s q).lt).trans<|c.cE s q) (λj p=>?_) (by rw[x];exact v)⟩;have k:=o.ow.own j p;unfold Dl;by_cases n:j<a.heap.size
 .rw[Ys n];unfold oc at k;rw[aag,Zq,Zq]at k;rcases k with r|r
  .exact r
  .omega
 .rw[Yo n];exact Ys p
structure NK(w wx:b_)(B:Nat)(c1:Nat->Nat)(q:me)(kb m:Nat)(b:lu)(F:Cf)(D D':j4)(s:Ls)(left:lw)(safe:Nat)(ys:Nat->a_)(zs:Nat->Bool)(nd:Nat)(o:nE)(A:List Ac)(v wv':f_):Prop where
 sb:nJ wx B c1 q kb m b F D s left safe ys zs nd
 dv:lA wx B c1 {q with wv:=wv'} D'
 row:wx.ownsRow B 77 4 v A.length<|A.flatMap ku
 vc:∀g,v.ownBlock=some g->c1 g=1/\¬b.on kb g
 bx:wx.heap[w.heap.size]?=some (.cells (k9 o) 42)
 cb:c1 w.heap.size=9
 bl:Below B w wx
structure VW(w wx:b_)(B:Nat)(c1:Nat->Nat)(q:me)(kb m:Nat)(b:lu)(F:Cf)(D:j4)(s:Ls)(left:lw)(safe:Nat)(ys:Nat->a_)(zs:Nat->Bool)(nd:Nat)(o:nE)(A:List Ac)(W:List Sv)(v rv:f_):Prop where
 sb:nJ wx B c1 q kb m b F D s left safe ys zs nd
 dv:lA wx B c1 q D
 row:wx.ownsRow B 77 4 v A.length<|A.flatMap ku
 vc:∀g,v.ownBlock=some g->c1 g=1/\¬b.on kb g
 X1:wx.ownsRow B 113 3 rv W.length<|W.flatMap ng
 rc:∀g,rv.ownBlock=some g->c1 g≠7
 bx:wx.heap[w.heap.size]?=some (.cells (k9 o) 42)
 bl:Below B w wx
def Jr(f e h b:Nat)(i:Nat->Nat)(o:f_)(a:j4)(c:a_)(d:b_)(m:j1 O d f e h i o a)(r:kQ a)(l:b<a.nl)(v:(a.ln b).kind<=1)(s:(a.ln b).kind=1->(a.ln b).bytes.size<=257)(n:(a.ln b).bytes.size<=1100000\/(a.ln b).broken=true)(I:c.size<=1100000)(t:a.arr<=300000000):
 Calls prog 20 #[π f,ν b,.string c] d λg k=>∃p C,g=.returned (.tuple #[p,ν 0])/\k.ownsRow d.heap.size 77 4 p (m6 a b c).2.length ((m6 a b c).2.flatMap ku)/\j1 O k f e h i C (m6 a b c).1/\lC a.base (lS O f e h i) d k:=by
 rcases n with n|n
 .exact CZ f e h b i o a c d m r l v s om t
 .by_cases w:(a.ln b).kind=1
  .have:=s w;exact CZ f e h b i o a c d m r l v s om t
  .have E:mA a b c=[]:=by unfold mA;rw[Ys<|.inr n]
   have y:qH a b c=a:=by
    have:(λq=>if q=b then(if (a.ln b).kind=1 then{a.ln b with bytes:=r_ (a.ln b).bytes c}else if (a.ln b).broken=true then a.ln b else rm ((a.ln b).bytes++c))else a.ln q)=a.ln:=by
     funext q;by_cases g:q=b
     .rw[Ys g,Yo w,Ys n,g]
     .rw[Yo g]
    unfold qH;rw[this]
   have u:=m.lines.cell l (j:=0) om;have x:=m.lines.cell l (j:=2) om;rw[YE]at u;have z:Calls prog 56 #[.pointer<|some (μ e<|b*3),.string c] d λg k=>∃p,g=.returned p/\k.ownsRow d.heap.size 94 3 p ([]:List (Nat×Nat×a_)).length (([]:List (Nat×Nat×a_)).flatMap Pl.zf)/\j1 O k f e h i o a/\lC a.base (lS O f e h i) d k:=by refine(wj e (b*3) c d (by rw[u];simp only[qk];rw[show(a.ln b).kind=0 by omega];rfl) (by rw[x];simp only[qk];rw[n];rfl)).mono ?_;rintro g k ⟨rfl,rfl⟩;exact⟨_,rfl,Yq _ _ _ _,m,lC.refl ..⟩
   have B:m6 a b c=lP a b []:=by unfold m6;rw[E,y]
   rw[B];exact ws f e h b i o a a c [] d m l r.nl.2 z r (λA=>by simp at A) l rfl (λF D=>by cases D) (YG _) t
def oR.VX{h e i g:Nat}{c d:j4}{j:Ls}{left:lw}{f:a_}(a:oR h e i c d j left g f)(b:kQ c):xn d:=
 ⟨by rw[a.tw.sz];exact b.sz,by rw[a.tw.ent];exact b.ent,by rw[a.tw.kp,a.tw.sz];exact b.xe,by rw[a.tw.kp,a.tw.sz];exact b.xg,by rw[a.tw.unit];exact b.unit,by rw[a.tw.batch];exact b.batch,by rw[a.tw.nl];exact b.nl,by rw[a.tw.len,a.tw.batch];exact b.qq,by rw[a.tw.uns,a.tw.batch];exact b.uns⟩
theorem y4(w:b_)(e:Nat)(c:Nat->Nat)(q:me)(B A:Nat)(L:lu)(v:Cf)(d:j4)(N:Ls)(left:lw)(r:Nat)(h:Nat->a_)(g:Nat->Bool)(Y:Nat)(bx:a_)(R:Nat)(o:nE)(a:Nat)(M:Full w e c q B A L v d N left r h g Y bx R)(hF:nN v)(b5:A<=1600000)(bB:2*v.sec<=Y/\Y<=64)(bs:yu o)(a5:o.kind=2)(aj:o.a=(a:Nat))(P:a<v.n)(a7:R+o.s.size<=1100000):
 l4 prog 9 #[π q.g,.agg<|k9 o,π B] w λD y=>D=.returned (.bool true)/\mT (λaD aG ax az U aE K=>o.cut<0->aD=(m6 d a o.s).1/\aG=(kR q.p.rd a left r (lx q.p.rd h g a o.s)).1/\az=(kR q.p.rd a left r (lx q.p.rd h g a o.s)).2.2.1/\U=(kR q.p.rd a left r (lx q.p.rd h g a o.s)).2.2.2/\U<=ax.least/\aE=Ax q.p.rd h g a o.s/\K=Di q.p.rd h g a o.s) w y e q B (A+11) v Y (R+o.s.size):=by
 refine Ca ?_;intro a6 ev a3;have aC:=M.sb.bk.bk.lo.2;have bu:a<d.nl:=by rw[M.sb.cf.nl];exact P
 have be:(d.ln a).kind<=1:=by rw[M.sb.cf.kind];exact hF.kn a P
 refine AW ?_;intro X ae ar ao;have b:=M.below ar.drew;obtain⟨bN,bZ⟩:=j5<|nc X.drew e<|kU w c 9;rw[<-bZ]at b;refine Gt ?_;intro bo;have bO:X.cell? (μ w.heap.size 0)=some (ν 2):=by rw[Yu _ _ _ _ _ _ ao];show some (ν o.kind)=_;rw[a5]
 have K:X.cell? (μ w.heap.size 2)=some (ν a):=by rw[Yu _ _ _ _ _ _ ao];show some (ν o.a)=_;rw[aj]
 have aK:X.cell? (μ w.heap.size 5)=some (.string o.s):=(Yu _ _ _ _ _ _ ao).trans rfl;obtain⟨_,_,_,_,_,_,k0,_⟩:=b.sb.cells a3;have b1:X.cell? (μ q.g 0)=some (π q.d):=k0;have aU:=Yn ao;have I:=h_<|Jq b.qB b.ok b.sb.cf b.sb.cr hF b.ll h g R b.bd a o.s P a7;have bF:=h_ b.qB.ll;have b4:=h_<|b.qB.VX b.ok;have b':=h_ b.ok;have b6:=MW h P;have b8:=b.bd.pn;have b9:=b.bn;have bS:=b.bd.ar;have aF:(d.ln a).kind=1->(d.ln a).bytes.size<=257:=λf=>by rw[((b.bd.ln a).VU f).2,YM];omega
 have aY:(d.ln a).bytes.size<=1100000\/(d.ln a).broken=true:=by
  rcases(show(d.ln a).kind=1\/(d.ln a).kind=0 by omega)with f|f
  .left;have:=aF f;omega
  .obtain⟨bz,bg⟩:=(b.bd.ln a).str f;cases a2:g a
   .left;rw[bg a2];omega
   .right;exact bz.trans a2
 have a9:=h_<|Jr q.d q.L q.S a q.E q.wv d o.s X.drew b.dv.rP b.ok bu be aF aY om om
 have aR:∀(V:b_) (J C:f_),V.ownsRow X.drew.heap.size 77 4 J (m6 d a o.s).2.length ((m6 d a o.s).2.flatMap ku)->j1 (oc bN X.drew) V q.d q.L q.S q.E C (m6 d a o.s).1->lC d.base (lS (oc bN X.drew) q.d q.L q.S q.E) X.drew V->∃z,NK w V e z q B A L v d (m6 d a o.s).1 N left r h g Y o (m6 d a o.s).2 J C:=λV J C am W ad=>by
  have bn:(m6 d a o.s).1.base=d.base:=by have:=(Am (yd b.ok a o.s) a (mA d a o.s) (mA d a o.s).length kM).2.1.base;rw[aal]at this;exact this
  obtain⟨l,bR⟩:=qX b.dv b.sb.nr W ad bn 1;have j:=oD X.drew bN C 1;have aT:=(l.keep _ _ _ ao (.inl dc) (qx bo)).trans ao;have aw:e<=X.drew.heap.size:=b.sb.bk.bk.lo.2;refine⟨_,nJ.norm (b.sb.bk.frame l j dc) (b.sb.rf.frame l j dc dc dc) (b.sb.rg.frame l j dc) b.sb.lb b.sb.cf b.sb.cr<|b.sb.fx.frame l j dc,bR,j9 am aw,λf t=>⟨lN (B:=e) am aw dc (show(1:Nat)≠0 by decide) (xO am W.wait dc kM) f t,λb3=>by have b7:=b.sb.bk.bk.here f b3;have ca:=(am.lt f t).1;omega⟩,aT,mg aC aT dc ((j _ aU).trans bo) dc,(ar.drew.mono aC).trans<|l.toBelow b.sb.nr dc aw⟩
 have aa:=h_ aR;have bp:=h_ b;clear aR b bo bZ ar M a5 k0 ao aF aY bS;refine B8 ?_
 go_upto_region 1 with fail
 rw[<-ae];clear ae
 go_upto_region 3 with fail
 go_cut [7,8]from 26 to 37 (λJ D al=>D=ν 0/\∃C z,NK w al e z q B A L v d (m6 d a o.s).1 N left r h g Y o (m6 d a o.s).2 J C)
 case first=>
  go_region_held3 (λy=>y.cell? (μ q.g 0)=some (π q.d)/\y.cell? (μ w.heap.size 2)=some (ν a)/\y.cell? (μ w.heap.size 5)=some (.string o.s)) (go_keep)
   (first
    |(go_at_call 20;refine a9.o.mono ?_;rintro D s ⟨J,C,rfl,aX,W,ad⟩;obtain⟨z,hA⟩:=aa.o s J C aX W ad;obtain⟨_,_,_,_,_,_,f1,_⟩:=hA.sb.cells a3;have f2:=(Yu _ _ 2 _ _ _ hA.bx).trans (show _=some (ν a)from ZD (λaA=>some (ν aA)) aj);have f3:=(Yu _ _ 5 _ _ _ hA.bx).trans (show _=some (Value.string o.s)from rfl)))
  have aI:=h_ hA;clear hA aX W ad f1 f2 f3;go_wp2
  go_meet
  exact⟨rfl,_,_,aI.o⟩
 case rest=>
  obtain⟨rfl,aB,z,hA⟩:=hcut;clear bO K aK b1 aU a9 aa bp;obtain⟨_,_,_,_,_,_,_,bW,_,_,_,_,_,_,_,_,_,_,_,_,_,bw⟩:=hA.sb.cells a3;have K:wc.cell? (μ w.heap.size 2)=some (ν a):=by rw[Yu _ _ _ _ _ _ hA.bx];show some (ν o.a)=_;rw[aj]
  have aK:wc.cell? (μ w.heap.size 5)=some (.string o.s):=(Yu _ _ _ _ _ _ hA.bx).trans rfl;have bb:=hA.sb.rf.frame (k:=9) (w':=wc.drew) (Fc.jX br.drew) (mD.refl _ _) dc dc dc;have aJ:=h_ (Ir wc.drew e z q.p q.p.rd left r h g a o.s bb b4.o (by rw[hA.sb.cr.nl];exact P) (by rw[hA.sb.cr.kind];exact hF.kn a P) om bF.o om);obtain⟨i,ai⟩:=j5<|kR q.p.rd a left r (lx q.p.rd h g a o.s);obtain⟨aM,ap⟩:=j5<|m6 d a o.s;obtain⟨Q,ak⟩:=j5<|Ax q.p.rd h g a o.s;obtain⟨T,au⟩:=j5<|Di q.p.rd h g a o.s;rw[<-ai,<-ak,<-au]at aJ;rw[<-ai,<-ap,<-ak,<-au]at I;rw[<-ap]at hA;obtain⟨ag,aH⟩:=j5 aM.1;obtain⟨ah,a1⟩:=j5 aM.2;rw[<-aH,<-a1]at I hA;have an:Hid<|ag=(m6 d a o.s).1/\i=kR q.p.rd a left r (lx q.p.rd h g a o.s)/\Q=Ax q.p.rd h g a o.s/\T=Di q.p.rd h g a o.s:=⟨by rw[aH,ap],ai,ak,au⟩;clear ai ap aH a1 bb ak au;have aO:∀(s:b_) (E:f_) (m:pL) (u:Nat->Nat),s.ownsRow wc.drew.heap.size 113 3 E i.2.1.length (i.2.1.flatMap ng)->j3 s e u m i.1 i.2.2.1 i.2.2.2 Q T->mD wc.drew z u->Fc z 3 wc.drew s->m.r=q.p.r->m.lb=q.p.lb->m.cap=q.p.cap->(∀f,E.ownBlock=some f->u f=9)->VW w s e (nc s e u) {q with wv:=aB,p:={m with rd:=i.1}} B A L v ag N i.2.2.1 i.2.2.2 Q T Y o ah i.2.1 u7 E:=λs E m u S ac j af ab Z av aq=>by have l:Fc z 3 wc s:=(Fc.jX (k:=3) br.drew).trans af<|mD.refl _ _;have b2:=ac.ghost i.1;have bc:e<=wc.drew.heap.size:=hA.sb.bk.bk.lo.2;have F:=hA.dv.frame hA.sb.nr l j dc;have bP:=(l.keep _ _ _ hA.bx (.inl dc) (qx hA.cb)).trans hA.bx;have aQ:=l.own hA.row dc (λf t=>by rw[(hA.vc f t).1];decide);refine⟨nJ.norm (hA.sb.bk.frame l j dc) b2 ((hA.sb.rg.frame l j dc).Wx hA.sb.cf I.o.2.cf rfl rfl rfl rfl ab Z av) (by show e<=m.lb;rw[Z];exact hA.sb.lb) I.o.2.cf I.o.2.cr<|hA.sb.fx.frame l j dc,lA.nc ⟨F.rP,F.cd,F.cL,F.cS,F.cE,F.cv,F.lo⟩,aQ,λf t=>⟨lN (B:=e) aQ kM dc (show(1:Nat)≠0 by decide) (λf t=>(j f (hA.row.lt f t).2).trans (hA.vc f t).1) f t,(hA.vc f t).2⟩,j9 S bc,λf t=>by rw[lN (B:=e) S bc dc (show(9:Nat)≠0 by decide) aq f t];decide,bP,hA.bl.trans<|l.toBelow hA.sb.nr dc hA.sb.bk.bk.lo.2⟩
  have aa:=h_ aO;have ay:=h_ I.o.2;clear aO hA I
  go_upto_region 4 with fail
  go_cut [9,10]from 38 to 49 (λE D al=>D=ν 0/\∃(m:pL) (u:Nat->Nat),VW w al e (nc al e u) {q with wv:=aB,p:={m with rd:=i.1}} B A L v ag N i.2.2.1 i.2.2.2 Q T Y o ah i.2.1 u7 E)
  case first=>
   go_region_held3 (λy=>y.cell? (μ q.g 1)=some (π q.p.r)/\y.cell? (μ w.heap.size 2)=some (ν a)/\y.cell? (μ w.heap.size 5)=some (.string o.s)) (go_keep)
    (first
     |(go_at_call 32;refine aJ.o.mono ?_;rintro D s ⟨E,m,u,rfl,S,ac,j,af,ab,Z,av,aq⟩;have hA:=aa.o s E m u S ac j af ab Z av aq;obtain⟨_,_,_,_,_,_,_,f1,_⟩:=hA.sb.cells a3;have bE:s.cell? (μ q.g 1)=some (π q.p.r):=(by rw[<-ab];exact f1);have f2:=(Yu _ _ 2 _ _ _ hA.bx).trans (show _=some (ν a)from ZD (λaA=>some (ν aA)) aj);have f3:=(Yu _ _ 5 _ _ _ hA.bx).trans (show _=some (Value.string o.s)from rfl)))
   have aI:=h_ hA;clear hA S ac j af ab Z av aq f1 f2 f3 bE;go_wp2
   go_meet
   exact⟨rfl,_,_,aI.o⟩
  case rest=>
   obtain⟨rfl,m,u,x⟩:=hcut;obtain⟨bU,bA,rfl,_⟩:=i_ x.row;obtain⟨bC,bv,rfl,_⟩:=i_ x.X1;clear bW bw K aK aJ aa;have bT:=h_ x.bx;have bi:=h_ x.bl;obtain⟨bL,a8⟩:=ay.o.qB;have n:=ay.o;have bd:=h_<|sE wc e (nc wc e u) {q with wv:=aB,p:={m with rd:=i.1}} B A L v ag N i.2.2.1 i.2.2.2 Q T Y o (.slice bU ah.length bA) (.slice bC i.2.1.length bv) e e ah i.2.1 bL x.sb x.dv hF om bB bs x.row kM x.vc x.X1 x.rc n.M4 n.al n.wl n.wet n.ls n.num n.oQ n.least a8 n.ok _ n.bd a7 n.ll;clear x a8 n ay
   go_wp2_with (refine mO rfl 4 rfl w.heap.size rfl o bT.o ?_)
   refine bd.o.mono ?_;rintro D bX ⟨rfl,bH⟩;obtain⟨bj,bK,bh,bI,bt,bf,bm,bD,bk,d4,aN,a4,aS,a',aP,aV,aL,aW,a0⟩:=bH;have bq:Hid<|mT (λaD aG ax az U aE K=>o.cut<0->aD=(m6 d a o.s).1/\aG=(kR q.p.rd a left r (lx q.p.rd h g a o.s)).1/\az=(kR q.p.rd a left r (lx q.p.rd h g a o.s)).2.2.1/\U=(kR q.p.rd a left r (lx q.p.rd h g a o.s)).2.2.2/\U<=ax.least/\aE=Ax q.p.rd h g a o.s/\K=Di q.p.rd h g a o.s) w bX e q B (A+11) v Y<|R+o.s.size:=⟨bj,bK,bh,bI,bt,bf,bm,bD,bk,d4,aN,a4,aS,a',aP,aV,aL,bi.o.trans aW,λbl=>by obtain⟨bQ,bG,bY,aZ,bV,bM,bJ⟩:=a0 bl;rw[<-an.o.1,<-an.o.2.1,<-an.o.2.2.1,<-an.o.2.2.2];exact⟨bQ,bG,bY,aZ,by rw[aZ];exact bV,bM,bJ⟩⟩;clear aN a4 aS a' aP aV aL aW a0;go_wp2;go_ret;exact⟨rfl,bq.o⟩
def Pz(f:b_)(j:Nat)(l:Nat->Nat)(i:me)(g d:Nat)(n:lu)(b:Cf)(p:j4)(r:Ls)(left:lw)(m:Nat)(q:Nat->a_)(s:Nat->Bool)(c:Nat)(o:a_)(h:Nat)(a:nE)(k:Nat)(e:Full f j l i g d n b p r left m q s c o h)(hF:nN b)(x:d<=1600000)(B:2*b.sec<=c/\c<=64)(u:yu a)(A:a.kind=2)(y:a.a=(k:Nat))(v:k<b.n)(w:h+a.s.size<=1100000):
 l4 prog 9 #[π i.g,.agg<|k9 a,π g] f λt z=>t=.returned (.bool true)/\lc f z j i g (d+11) b c (h+a.s.size):=
 (y4 f j l i g d n b p r left m q s c o h a k e hF x B u A y v w).mono λ_ _ e=>⟨e.1,e.2.qw⟩
end
def Ge(c:b_)(j:Nat)(f:Nat->Nat)(e:pL)(b:j4)(left:lw)(h:Nat)(k:Nat->a_)(n:Nat->Bool)(a:Int)(m:a_)(d:j3 c j f e b left h k n)(i:a<0\/(b.nl:Int)<=a):
 Calls prog 32 #[π e.r,ν a,.string m] c λg l=>g=.returned (.tuple #[σ,ν 1])/\l=c:=by
 obtain⟨_,_,_,r,_,_,_,_,_,_,_,_,p⟩:=d.cells;clear d;by_cases s:a<0
 .go_enter func32,ntmps32
  go_wp2
  go_ret2
  exact⟨rfl,rfl⟩
 .have o:(b.nl:Int)<=a:=om;have q:0<=a:=om;clear i
  go_enter func32,ntmps32
  go_wp2
  go_ret2
  exact⟨rfl,rfl⟩
def B1(w:b_)(h:Nat)(y:Nat->Nat)(q:me)(e u:Nat)(E:lu)(j:Cf)(b:j4)(D:Ls)(left:lw)(t:Nat)(v:Nat->a_)(r:Nat->Bool)(f:Nat)(B:a_)(m:Nat)(o:nE)(M:Full w h y q e u E j b D left t v r f B m)(J:0<f)(n:o.kind=2)(i:o.a<0\/(j.n:Int)<=o.a):
 l4 prog 9 #[π q.g,.agg<|k9 o,π e] w λc a=>c=.returned (.bool true)/\lc w a h q e u j f m:=by
 have L:=M.sb.bk.bk.lo.2;have A:1<=b.nl/\b.nl<=4:=M.ok.nl;have x:o.a<0\/(b.nl:Int)<=o.a:=by rw[M.sb.cf.nl];exact i
 have s:o.a<0\/(q.p.rd.nl:Int)<=o.a:=by rw[M.sb.cr.nl];exact i
 refine AW ?_;intro X ae ar ao;have d:=M.below ar.drew;have g:=M.below ar.drew.drew;have N:X.cell? (μ w.heap.size 0)=some (ν 2):=by rw[Yu _ _ _ _ _ _ ao];show some (ν o.kind)=_;rw[n]
 refine Ko ?_;intro cq;have Q:X.cell? (μ w.heap.size 5)=some (.string o.s):=(Yu _ _ _ _ _ _ ao).trans rfl;obtain⟨_,_,_,_,_,_,k0,l,_⟩:=d.sb.cells J;have P:X.cell? (μ q.g 0)=some (π q.d):=k0;have O:X.cell? (μ q.g 1)=some (π q.p.r):=l;have C:=h_<|If q.d q.L q.S q.E q.wv b o.a o.s X.drew d.dv.rP A x;have F:=h_<|Ge X.drew.drew h _ q.p q.p.rd left t v r o.a o.s g.sb.rf s;have K:=h_ g;have I:=h_<|ar.drew.drew.mono L;clear d g ar M n k0 l ao i x s;refine B8 ?_
 go_upto_region 1 with fail
 rw[<-ae];clear ae
 go_upto_region 3 with fail
 go_region_held3 (λa=>a=X.drew/\a.cell? (μ q.g 0)=some (π q.d)/\a.cell? (μ w.heap.size 2)=some (ν o.a)/\a.cell? (μ w.heap.size 5)=some (.string o.s)) (go_keep)
  (first
   |(go_at_call 20;refine C.o.mono ?_;rintro c z ⟨rfl,rfl⟩))
 go_upto_region 4 with fail
 go_region_held3 (λa=>a=X.drew.drew/\a.cell? (μ q.g 1)=some (π q.p.r)/\a.cell? (μ w.heap.size 2)=some (ν o.a)/\a.cell? (μ w.heap.size 5)=some (.string o.s)) (go_keep)
  (first
   |(go_at_call 32;refine F.o.mono ?_;rintro c z ⟨rfl,rfl⟩))
 go_wp2;go_ret;exact⟨rfl,K.o.qw rfl I.o⟩
def Gf{a:j4}(b:kQ a):kQ (j' a).1:=by
 by_cases c:a.uns=0
 .have d:j' a=(a,[]):=by unfold j';rw[Ys c]
  rw[d];exact b
 .exact vn b.fl b.unit b.batch b.nl c
def mK.flush{a:j4}{b:Cf}(c:mK a b):mK (j' a).1 b:=c.same (nP a).1
def EA{b:Cf}{i J n:Nat}{a c:j4}{h:Ls}{left:lw}{q:a_}(d:oR b.z b.sec i a c h left J q)(o:kQ a)(v:mK a b)(f:mK c b)(C:∀A∈left,A.length<=1000){w:Nat->a_}{t:Nat->Bool}(j:Bd b a c w t n)(T:n<=1100000):
 Pv b i (j' a).1 {c with uns:=0,wait:=[]} h left (left.length-1) w t (j' a).2 c.wait n:=by
 have l:a.kp 0=b.c/\a.kp 2=b.h:=by rw[v.kp];exact⟨rfl,rfl⟩
 have S:=d.le;have r:left.length-1=c.arr:=nY d.ll;have V:c.wait.length<=8:=by rw[d.tw.len];exact d.fl.qq
 have W:=rl a d.fl;have U:=j.pn;have p:∀g∈c.wait,0<=g.1/\g.1<=900000:=λg m=>li<|d.top g m;have R:∀e,e<=(j' a).2.length->(runL e c.wait (j' a).2 h).least<=900000:=λe _=>y3 e _ _ h 900000 om (λQ M=>by have:=p Q M;omega)
 have O:pR i c.wait (j' a).2/\(∀e,e<=(j' a).2.length->l0 b.z b.sec i b.c b.h left (runL e c.wait (j' a).2 h))/\∃B,oR b.z b.sec i (j' a).1 {c with uns:=0,wait:=[]} (runL (j' a).2.length c.wait (j' a).2 h) left (left.length-1) B:=by
  by_cases k:a.uns=0
  .have x:j' a=(a,[]):=by unfold j';rw[Ys k]
   have u:=o.w0 k;have L:=d.tw.none u;have y:=d.L7 k u;rw[r];rw[L];rw[x];refine⟨pR.nil,λe N=>?_,q,?_⟩
   .have E:e=0:=Nat.le_zero.1 N;subst E;have:=d.oQ;rw[l.1,l.2]at this;exact this
   .exact y
  .obtain⟨K,s,I⟩:=d.flush k;rw[l.1,l.2]at s;rw[r];exact⟨K,s,_,I⟩
 obtain⟨z,F,D⟩:=O;exact⟨z,om,om,d.cm.wet,om,λg m=>by have:=p g m;omega,F,R,D,Gf o,⟨by rw[(nP a).2];exact j.ar,j.pn,λP=>by rw[(nP a).1.ln];exact j.ln P⟩,C,v.flush,⟨f.sz,f.kp,f.unit,f.nl,f.batch,f.sec,f.kind⟩⟩
def P6:a_:=⟨#[0,1,0,0,0,6,1,6,0,7,0,9]⟩
def Gp:a_:=⟨#[0,2,0,0,0,6,1,6,0,2,0,9]⟩
def v8:a_:=⟨#[6,0,2,0,9]⟩
def Xx:(Pl.pO P6).2=12:=by decide+kernel
def Xy:(Pl.pO Gp).1=Pl.zf (2,1,v8):=kr
def P7:lI Gp=[(2,1,v8)]:=by
 have a:=(l9 Gp).1;rw[Xy]at a
 match hf:lI Gp,a with
 |[],a=>simp[Pl.zf]at a
 |[b],a=>let⟨c,e,h⟩:=b;simp only[Pl.zf,ZY,List.flatMap_nil,Zy,aaL,Value.int.injEq,Value.string.injEq,aab,ZV]at a;let⟨i,k,g⟩:=a;have f:c=2:=om;have d:e=1:=om;rw[f,d,<-g]
 |b::l::j,a=>have:=ZD List.length a;simp[Pl.zf]at this
def Wg:kv v8=(⟨6,0,0,0,2,2,1,[9]⟩,0):=by
 have c:Pl.lj v8 ⟨6,0,0,0,2,2,1,[9]⟩ 0:=by refine .inr ⟨dc,.inr<|.inr<|.inr<|.inr<|.inr<|.inl ⟨dc,.inl ⟨dc,?_,rfl⟩⟩⟩;have a:Pl.wd v8 1=2:=dc;have b:Pl.wd v8 3=9:=dc;rw[a,b];rfl
 let⟨a,b⟩:=Pl.lj.eq (nz v8) c;exact Prod.ext a b
def AS(a:a_):(⟨#[]⟩:a_)++a=a:=by apply Z6;simp
def JP(a:j4)(j:a.sz=ue 10 10 10 10)(h:a.unit=1)(e:(a.ln 0).kind=0)(b:Nat->a_)(c:Nat->Bool)(g:b 0=⟨#[]⟩)(i:c 0=false)(left:lw)(f:Nat):(kR a 0 left f (lx a b c 0 Gp)).1.ent 2 2=9:=by
 have k:lx a b c 0 Gp=[(2,1,v8)]:=by unfold lx;rw[Yo (by rw[e,i];simp),g,AS,P7]
 rw[k];show(m3 a 0 2 1 v8).ent 2 2=9;have l:yl a 0 1 v8=true:=by unfold yl;simp[h]
 have hA:o' a 0 1 v8=false:=by unfold o';simp[e]
 have d:(mG a 0 2 1 v8).ent 2 2=9:=by
  unfold mG;rw[Yo<|qx hA];show(ks a v8).ent 2 2=9;unfold ks;rw[Wg];show tn a _ _ 2 2=9;have m:rR a ⟨6,0,0,0,2,2,1,[9]⟩ 0=0:=by unfold rR hasB;rw[j];decide
  unfold tn;rw[Ys m];unfold mh;rw[Yo dc];unfold zo;rw[Ys dc];rfl
 unfold m3;rw[Ys l];split
 .exact d
 .exact d
def Nu(b:j4)(d:(b.ln 0).kind=0)(a:Nat->a_)(c:Nat->Bool)(f:a 0=⟨#[]⟩)(e:c 0=false):Ax b a c 0 P6 0=⟨#[]⟩/\Di b a c 0 P6 0=false:=by unfold Ax Di;rw[Ys rfl,Ys rfl,Yo<|qx e,Yo<|qx d,Yo<|qx e,Yo<|qx d,f,AS,Xx];exact⟨dc,dc⟩
