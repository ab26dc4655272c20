import Derived.Test.YtcpldcojckhapaaGreatV2
set_option maxRecDepth 100000
set_option maxHeartbeats 16000000
set_option linter.all false
noncomputable section
namespace Go.Proofs.YtcpldcojckhapaaGreat
open Go.Proofs.Tryz Go.RowKit
def Ok(a:f_)(b:b_):(callFunc 99 #[a]).run prog b=.ok (.enter 99 #[a]) b:=kr
def CC{w a:b_}{k f:Nat}{d:f_}{c:List f_}(b:Below ((w.alloc<|.cells #[ν 0,ν 0,ν 0,ν 0,ν 0,ν 0,ν 0,σ] 144).drewN k).heap.size ((w.alloc<|.cells #[ν 0,ν 0,ν 0,ν 0,ν 0,ν 0,ν 0,σ] 144).drewN k) a)
 (e:a.ownsRow ((w.alloc<|.cells #[ν 0,ν 0,ν 0,ν 0,ν 0,ν 0,ν 0,σ] 144).drewN k).heap.size 3 1 d f c):
 a.heap[w.heap.size]?=some (.cells #[ν 0,ν 0,ν 0,ν 0,ν 0,ν 0,ν 0,σ] 144)/\a.ownsRow (w.heap.size+1) 3 1 d f c/\Below w.heap.size w a:=by
 let⟨X,ae⟩:∃X,X=(w.alloc<|.cells #[ν 0,ν 0,ν 0,ν 0,ν 0,ν 0,ν 0,σ] 144).drewN k:=⟨_,rfl⟩;refine SN ?_;intro ar bH ao;rw[<-ae]at b e;exact⟨(b.block _ om).trans ao,by rw[<-bH];exact e,jZ ar b⟩
def CD(a:a_)(l:b_)(q:a.size<=100000):
 Calls prog 143 #[.string a] l λf e=>tM l e f (a.size=6) ⟨0,2,Pl.wd a 0,1,2,Pl.wd a 0,1,Pl.kJ a 2 2⟩:=by
 by_cases h:a.size=6
 .have t4:((a.size:Int)!=6)=false:=so;have n:2<=a.size:=om;have s:(2:Int)<=a.size:=om;have g:∀b:b_,Calls prog 99 #[.string<|a.extract 2 a.size] b λf e=>∃d,f=.returned d/\(e.ownsRow b.heap.size 3 1 d 2 ((Pl.kJ a 2 2).flatMap ka)/\Below b.heap.size b e):=λb=>by have:=tL (a.extract 2 a.size) 2 b so so;rwa[Pl.ny]at this
  have o:=h_ h;clear h
  go_enter func143,ntmps143
  go_wp2_with fail
  go_region_law (first
   |(refine ki rfl 128 #[.tmp 10] #[9] rfl #[.string a] (by simp[Act.eval,Act.put]) (q' ..) _ (pu a _ n) ?_;rintro d u ⟨rfl,t,rfl⟩)
   |(refine ki rfl 99 #[.tmp 13] #[9] rfl #[.string<|a.extract 2 a.size] qU (Ok ..) _ (g _) ?_;rintro d r ⟨i,j⟩;let⟨m,k,p⟩:=CC j i;obtain⟨ad,c,rfl,_⟩:=i_ k;let⟨hz,c0,c1,g,c3,c4,c5,c6,c7⟩:=kq m;clear j m i))
  all_goals go_wp2
  all_goals
   refine Yx (v:=.tuple #[.agg #[ν 0,ν 2,ν<|Pl.wd a 0,ν 1,ν 2,ν<|Pl.wd a 0,ν 1,.slice ad 2 c],.bool true]) (by simp[results,results143,go_sem,c0,c1,g,c3,c4,c5,c6,c7]) rfl
    ⟨⟨0,2,Pl.wd a 0,1,2,Pl.wd a 0,1,Pl.kJ a 2 2⟩,_,true,rfl,by rw[Pl.kO];exact Cs k kM ..,?_,?_,by rw[Pl.kO];omega,mE p kM ..⟩
  all_goals simp[o.o]
 .have t4:((a.size:Int)!=6)=true:=so
  go_enter func143,ntmps143
  go_wp2
  refine Yx (v:=.tuple #[.agg z8,.bool false]) (by simp[results,results143,go_sem]) rfl
   ⟨Pl.j6,σ,false,rfl,Yq ..,by simp[h],si,by simp[Pl.j6],?_⟩
  exact br.alloc kM _
def xE(b:a_)(a:Nat)(d:a+1<4)(c:4<=b.size):Pl.wd (b.extract 0 4) a=Pl.wd b a:=by unfold Pl.wd;rw[Pl.ld b 0 4 a c om,Pl.ld b 0 4 (a+1) c om,YF,YF]
def x1(a:a_)(w:b_)(bw:a.size<=100000):
 Calls prog 144 #[.string a] w λaf bb=>tM w bb af (9<=a.size/\(1<=Pl.wd a 2/\Pl.wd a 2<=125)/\(1<=Pl.wd a 6/\Pl.wd a 6<=121)/\a.size-9=Pl.j2 a 8/\a.size-9=2*Pl.wd a 6) ⟨0,2,Pl.wd a 0,Pl.wd a 2,2,Pl.wd a 4,Pl.wd a 6,Pl.kJ a 9<|Pl.wd a 6⟩:=by
 by_cases bn:a.size<4
 .go_enter func144,ntmps144
  go_wp2
  refine Yx (v:=.tuple #[.agg z8,.bool false]) (by simp[results,results144,go_sem]) rfl
   ⟨Pl.j6,σ,false,rfl,Yq ..,so,si,by simp[Pl.j6],?_⟩
  exact br.alloc kM _
 .have bl:(4:Int)<=a.size:=om;have z:(a.extract 0 4).size=4:=so;have f4:(a.extract 4 a.size).size=a.size-4:=si;have W:=h_ z;have ap:=h_ f4;clear z f4
  go_enter func144,ntmps144
  go_wp2_with fail
  let⟨X,ae⟩:=j5<|w.alloc<|.cells z8 144;have aG:=ba ae;refine HD ?_;intro bH;have aK:=v' ae;rw[<-ae];clear ae;refine(oL 2 125 (a.extract 0 4) X (p1 W) om).mono ?_;rintro af ac ⟨a6,bo,a9,rfl,aE,ak,ay,_,u⟩;let⟨aD,g,d,h,aU,ax,aq,aI⟩:=a6;have an:=h_ ak;have a7:=h_ ay;obtain⟨aB,aO,rfl,_⟩:=i_ aE;clear ak ay aE;simp only[u1]
  go_wp2_with fail
  let⟨y,B⟩:=j5<|ac.alloc<|.cells #[ν aD,ν g,ν d,ν h,ν aU,ν ax,ν aq,.slice aB aI.length aO] 144;rw[<-B];obtain⟨j,C⟩:=j5 ac.heap.size;have V:=ba B;have a0:y.heap[j]?=some (.cells #[ν aD,ν g,ν d,ν h,ν aU,ν ax,ν aq,.slice aB aI.length aO] 144):=by rw[B,C];exact YO ac _
  have bg:y.heap.size=j+1:=by rw[B,C];simp
  have am:y.heap[w.heap.size]?=_:=(V.block _ (li u.size)).trans<|(u.block _ om).trans aK;have bu:w.heap.size<j:=by rw[C];have:=u.size;omega
  have aF:Below w.heap.size w y:=jZ (jZ aG u) V;rw[<-C];clear B C V aG u aK bH;refine(pv 121 (a.extract 4 a.size) y (p1 ap) om).mono ?_;rintro af ad ⟨bj,bk,aw,rfl,L,aN,al,aQ,n⟩;obtain⟨l,aS,aR,aJ,i,o,m,c⟩:=bj;have bf:=h_ aN;have a5:=h_ al;have aL:=h_ aQ;obtain⟨e,f,rfl,_⟩:=i_ L;clear aN al aQ;simp only[u1]
  go_wp2_with fail
  obtain⟨r,P⟩:=j5<|ad.alloc<|.cells #[ν l,ν aS,ν aR,ν aJ,ν i,ν o,ν m,.slice e c.length f] 144;rw[<-P];obtain⟨b,J⟩:=j5 ad.heap.size;have x:=ba P;have ab:r.heap[b]?=some (.cells #[ν l,ν aS,ν aR,ν aJ,ν i,ν o,ν m,.slice e c.length f] 144):=by rw[P,J];exact YO ad _
  have bq:j<b:=by rw[J];have:=n.size;omega
  have Y:r.heap[w.heap.size]?=_:=(x.block _ (li n.size)).trans<|(n.block _ om).trans am;have aV:r.heap[j]?=_:=(x.block _ (li n.size)).trans<|(n.block _ om).trans a0;have aX:Below w.heap.size w r:=jZ (jZ aF n) x;have aj:r.ownsRow (w.heap.size+1) 3 1 (.slice e c.length f) c.length<|c.flatMap ka:=j9 (jY L x) om;have aY:∀E,Value.ownBlock (.slice e c.length f)=some E->E<b:=λE be=>li<|(L.lt E be).2;rw[<-J];clear P J x aF n L a0 am bg;obtain⟨aH,F,D,K,R,N,O,T,S⟩:=kq Y;obtain⟨bh,d0,d1,d2,d3,d4,d5,d6,d7⟩:=kq aV;obtain⟨aW,aC,aP,aM,aZ,z,az,ao,au⟩:=kq ab;have a3:=h_ aj;have a4:=h_ aY;have a':=h_ aX;have U:¬w.heap.size=b:=om;have bt:¬b=w.heap.size:=om;have bm:¬j=b:=om;have bs:¬b=j:=om;have a8:=h_ Y;have bi:=h_ ab;clear aj aY aX Y aV ab
  go_wp2_with fail
  go_region
  let⟨aa,t⟩:=j5<|((r.setCell (μ b 1)<|ν g).setCell (μ b 2)<|ν d).setCell (μ b 3)<|ν h;rw[<-t];let⟨A,I⟩:=j5 aa.drew;have Q:A.heap=aa.heap:=nY I;have ar:Below w.heap.size w aa:=by rw[t];exact((a'.o.setCell so _).setCell so _).setCell so _
  have av:Below w.heap.size w A:=by rw[I];exact ar.drew
  rw[<-I];clear I ar;have a1:A.heap[w.heap.size]?=some (.cells z8 144):=by rw[Q,t,Yp _ _ _ _ U,Yp _ _ _ _ U,Yp _ _ _ _ U];exact a8
  have ai:A.heap[b]?=some (.cells #[ν l,ν g,ν d,ν h,ν i,ν o,ν m,.slice e c.length f] 144):=by rw[Q,t];exact YB _ b 3 _ 144 _ (YB _ b 2 _ 144 _ (YB _ b 1 _ 144 _ bi))
  have aA:=jV a3 λk bc=>by have Z:k≠b:=li<|a4 k bc;rw[Q,t,Yp _ _ _ _ Z,Yp _ _ _ _ Z,Yp _ _ _ _ Z]
  clear t Q aH F D K R N O T S bh d0 d1 d2 d3 d4 d5 d6 d7 aW aC aP aM aZ z az ao au;let⟨aH,F,D,K,R,N,O,T,S⟩:=kq a1;let⟨aW,aC,aP,aM,aZ,z,az,ao,au⟩:=kq ai;clear a1 ai;have a2:=h_ aA;have aT:=h_ av;clear aA av
  cases a9 with
  |false=>
   go_wp2
   refine Yx (v:=.tuple #[.agg #[ν l,ν g,ν d,ν h,ν i,ν o,ν m,.slice e c.length f],.bool false]) (by simp[results,results144,go_sem,F,D,K,R,N,O,T,S]) rfl
    ⟨⟨l,g,d,h,i,o,m,c⟩,_,false,rfl,Cs a2 kM ..,?_,si,aL,mE aT kM ..⟩
   have s:=an.o;rw[xE a 2 om om,W.o]at s;simp at s⊢;intro _ bp bv;omega
  |true=>
   go_wp2
   refine Yx (v:=.tuple #[.agg #[ν l,ν g,ν d,ν h,ν i,ν o,ν m,.slice e c.length f],.bool aw]) (by simp[results,results144,go_sem,F,D,K,R,N,O,T,S]) rfl
    ⟨⟨l,g,d,h,i,o,m,c⟩,_,aw,rfl,Cs a2 kM ..,?_,?_,aL,mE aT kM ..⟩
   .have s:=an;rw[xE a 2 om om,W.o]at s;simp at s;rw[bf.o,Pl.m_,Pl.lV,ap.o];simp only[Nat.reduceAdd];constructor
    .intro M;refine⟨om,s,?_,?_,?_⟩<;>omega
    .intro M;refine⟨om,?_,?_,?_⟩<;>omega
   .intro bd;have ah:=a7 si;have ag:=a5 bd;rw[xE a 2 om om,xE a 0 om om]at ah;rw[Pl.m_,Pl.m_,Pl.ny]at ag;simp only[Pl.mW.mk.injEq]at ah ag⊢;simp[ah,ag]
def k_(b e:b_)(f:Ending)(g:a_):Prop:=
 ∃(a:Pl.mW) (d:f_) (c:Nat),f=.returned (.tuple #[u1 a d,.int .u8 (c:Nat)])/\e.ownsRow b.heap.size 3 1 d a.vals.length (a.vals.flatMap ka)/\Pl.lj g a c/\a.vals.length<=2000/\Below b.heap.size b e
def Ad{w:b_}:∃a,a=(w.alloc<|.cells z8 144).alloc (.cells z8 144)/\a.heap[w.heap.size]?=some (.cells z8 144)/\a.heap[w.heap.size+1]?=some (.cells z8 144)/\a.heap.size=w.heap.size+2/\Below w.heap.size w a:=by
 refine⟨_,rfl,?_,?_,si,jT (jT br _) _⟩
 .have:=YQ (w.alloc<|.cells z8 144) (.cells z8 144) (r:=w.heap.size) si;rw[this];exact YO w _
 .have:=YO (w.alloc<|.cells z8 144)<|.cells z8 144;simpa using this
def vi{b:b_}{g a i f:Nat}{d:f_}{c:List f_}(e:b.ownsRow a 3 1 d f c)(l:g<a)(h:f_):(b.setCell (μ g i) h).ownsRow a 3 1 d f c:=
 jV e λj k=>Yp b _ _ _ (by have:=(e.lt j k).1;simp;omega)
def Ae{e:b_}{g b d:Nat}{f:f_}{c:List f_}(k:e.ownsRow b 3 1 f d c)(a:g<b)(h l j p m i o n:f_):((((((((e.setCell (μ g 0) h).setCell (μ g 1) l).setCell (μ g 2) j).setCell (μ g 3) p).setCell (μ g 4) m).setCell (μ g 5) i).setCell (μ g 6) o).setCell (μ g 7) n).ownsRow b 3 1 f d c:=
 vi (vi (vi (vi (vi (vi (vi (vi k a _) a _) a _) a _) a _) a _) a _) a _
namespace Pl
def K3{a:a_}(e:0<a.size)(d:a.size<=253)(f:j2 a 0=1){c:mW}{b:Nat}(g:pP 2000 a/\c=⟨1,0,wd a 1,wd a 3,0,0,0,[]⟩/\b=0\/¬pP 2000 a/\c=j6/\b=3):lj a c b:=.inr ⟨⟨e,d⟩,.inl ⟨f,g⟩⟩
def K4{a:a_}(e:0<a.size)(d:a.size<=253)(f:j2 a 0=2){c:mW}{b:Nat}(g:pP 2000 a/\c=⟨2,1,wd a 1,wd a 3,0,0,0,[]⟩/\b=0\/¬pP 2000 a/\c=j6/\b=3):lj a c b:=.inr ⟨⟨e,d⟩,.inr<|.inl ⟨f,g⟩⟩
def K5{a:a_}(e:0<a.size)(d:a.size<=253)(f:j2 a 0=3){c:mW}{b:Nat}(g:pP 125 a/\c=⟨3,2,wd a 1,wd a 3,0,0,0,[]⟩/\b=0\/¬pP 125 a/\c=j6/\b=3):lj a c b:=.inr ⟨⟨e,d⟩,.inr<|.inr<|.inl ⟨f,g⟩⟩
def K6{a:a_}(e:0<a.size)(d:a.size<=253)(f:j2 a 0=4){c:mW}{b:Nat}(g:pP 125 a/\c=⟨4,3,wd a 1,wd a 3,0,0,0,[]⟩/\b=0\/¬pP 125 a/\c=j6/\b=3):lj a c b:=.inr ⟨⟨e,d⟩,.inr<|.inr<|.inr<|.inl ⟨f,g⟩⟩
def x2{a:a_}(e:0<a.size)(d:a.size<=253)(f:j2 a 0=5){c:mW}{b:Nat}(g:tJ a/\c=⟨5,0,0,0,0,wd a 1,1,[((wd a 3/65280:Nat):Int)]⟩/\b=0\/¬tJ a/\c=j6/\b=3):lj a c b:=.inr ⟨⟨e,d⟩,.inr<|.inr<|.inr<|.inr<|.inl ⟨f,g⟩⟩
def EQ{a:a_}(e:0<a.size)(d:a.size<=253)(f:j2 a 0=6){c:mW}{b:Nat}(g:a.size=5/\c=⟨6,0,0,0,2,wd a 1,1,[((wd a 3:Nat):Int)]⟩/\b=0\/¬a.size=5/\c=j6/\b=3):lj a c b:=.inr ⟨⟨e,d⟩,.inr<|.inr<|.inr<|.inr<|.inr<|.inl ⟨f,g⟩⟩
def sV{a:a_}(e:0<a.size)(d:a.size<=253)(f:j2 a 0=15){c:mW}{b:Nat}(g:p3 a/\c=⟨15,0,0,0,0,wd a 1,wd a 3,mx a 6<|wd a 3⟩/\b=0\/¬p3 a/\c=j6/\b=3):lj a c b:=.inr ⟨⟨e,d⟩,.inr<|.inr<|.inr<|.inr<|.inr<|.inr<|.inl ⟨f,g⟩⟩
def sW{a:a_}(e:0<a.size)(d:a.size<=253)(f:j2 a 0=16){c:mW}{b:Nat}(g:p4 a/\c=⟨16,0,0,0,2,wd a 1,wd a 3,kJ a 6<|wd a 3⟩/\b=0\/¬p4 a/\c=j6/\b=3):lj a c b:=.inr ⟨⟨e,d⟩,.inr<|.inr<|.inr<|.inr<|.inr<|.inr<|.inr<|.inl ⟨f,g⟩⟩
def Bf{a:a_}(e:0<a.size)(d:a.size<=253)(f:j2 a 0=22){c:mW}{b:Nat}(g:a.size=7/\c=⟨22,2,wd a 1,1,2,wd a 1,1,kJ a 3 2⟩/\b=0\/¬a.size=7/\c=j6/\b=3):lj a c b:=.inr ⟨⟨e,d⟩,.inr<|.inr<|.inr<|.inr<|.inr<|.inr<|.inr<|.inr<|.inl ⟨f,g⟩⟩
def ri{a:a_}(e:0<a.size)(d:a.size<=253)(f:j2 a 0=23){c:mW}{b:Nat}(g:tK a/\c=⟨23,2,wd a 1,wd a 3,2,wd a 5,wd a 7,kJ a 10<|wd a 7⟩/\b=0\/¬tK a/\c=j6/\b=3):lj a c b:=.inr ⟨⟨e,d⟩,.inr<|.inr<|.inr<|.inr<|.inr<|.inr<|.inr<|.inr<|.inr<|.inl ⟨f,g⟩⟩
def Af{a:a_}(e:0<a.size)(d:a.size<=253)(f:j2 a 0≠1/\j2 a 0≠2/\j2 a 0≠3/\j2 a 0≠4/\j2 a 0≠5/\j2 a 0≠6/\j2 a 0≠15/\j2 a 0≠16/\j2 a 0≠22/\j2 a 0≠23){c:mW}{b:Nat}(g:c=j6/\b=1):lj a c b:=.inr ⟨⟨e,d⟩,Vv<|.inr ⟨f,g⟩⟩
end Pl
def zn{p:Prop}(a:p:=by
 have gb:=Pl.kG s;have hB:(s.extract 1 s.size).size=s.size-1:=si;have HB:=h_ hB;clear hB;have HF:=h_ hf;have l1:(1:Int)<=s.size:=om;have t0:((s.size:Int)==0)=false:=nU
 go_enter func113,ntmps113
 go_wp2_with fail
 obtain⟨X,hX,hg,hg',hXs,hXb⟩:=Ad (w:=w);rw[<-hX];clear hX;refine(HC X HB.o).mono ?_;rintro e w1 ⟨x,v,r,rfl,hown,hr,hx,hl,hb1⟩;have HR:=h_ hr;simp only[Pl.m_,Pl.uw,Pl.ny,Nat.reduceAdd]at hx;have HX:=h_ hx;have HL:=h_ hl;clear hr hx hl;rw[hXs]at hown;obtain⟨xf,xt,xa,xc,xi,xo,xm,xv⟩:=x;obtain⟨ad,c,rfl,_⟩:=i_ hown;simp only[u1];have b1:=(hb1.block w.heap.size om).trans hg;have b2:=(hb1.block (w.heap.size+1) om).trans hg';have hbw:=jZ hXb hb1;obtain⟨fz,c0,c1,c2,c3,c4,c5,c6,c7⟩:=kq b1;obtain⟨fy,d0,d1,d2,d3,d4,d5,d6,d7⟩:=kq b2;have HO:=h_ hown;have HBW:=h_ hbw;clear hg hg' hb1 hXb b1 b2 hown hbw
 cases r with
 |false=>
  go_wp2
  refine Yx (v:=.tuple #[.agg z8,.int .u8 3]) (by simp[results,results113,go_sem,c0,c1,c2,c3,c4,c5,c6,c7]) rfl
   ⟨Pl.j6,σ,3,rfl,Yq _ _ _ _,?_,by simp[Pl.j6],?_⟩
  .exact HQ h0 h1 HF.o (.inr ⟨λhP=>Bool.false_ne_true (HR.o.2 (by(try simp only[Pl.pP,Pl.tJ,Pl.p3,Pl.p4,Pl.tK]at hP);(try simp only[Pl.m_,Pl.lV,HB.o,Nat.reduceAdd]);omega)),rfl,rfl⟩)
  .exact mE (mE HBW.o (g:=w.heap.size+1) om _ _ _ _ _ _ _ _) kM _ _ _ _ _ _ _ _
 |true=>
  go_wp2
  refine Yx (v:=.tuple #[.agg #[ν<|Pl.j2 s 0,ν xt,ν xa,ν xc,ν xi,ν xo,ν xm,.slice ad xv.length c],.int .u8 0]) (by simp[results,results113,go_sem,HF.o,c0,c1,c2,c3,c4,c5,c6,c7]) rfl
   ⟨⟨Pl.j2 s 0,xt,xa,xc,xi,xo,xm,xv⟩,.slice ad xv.length c,0,rfl,?_,?_,HL.o,?_⟩
  .exact j9 (Ae (vi (Ae HO.o (g:=w.heap.size+1) om _ _ _ _ _ _ _ _) om _) om _ _ _ _ _ _ _ _) om
  .have h1':=HR.o.1 si;have h2':=HX.o si;simp only[Pl.mW.mk.injEq]at h2';exact HQ h0 h1 HF.o (.inl ⟨by(try simp only[Pl.m_,Pl.lV,HB.o,Nat.reduceAdd]at h1');(try simp only[Pl.pP,Pl.tJ,Pl.p3,Pl.p4,Pl.tK]);omega,by simp[h2',HF.o],rfl⟩)
  .exact mE ((mE HBW.o (g:=w.heap.size+1) om _ _ _ _ _ _ _ _).setCell (p:=μ (w.heap.size+1) 0) si _) kM _ _ _ _ _ _ _ _):p:=a
def Ol(s:a_)(w:b_)(h0:0<s.size)(h1:s.size<=253)(hf:Pl.j2 s 0=1):
 Calls prog 113 #[.string s] w λa b=>k_ w b a s:=by
 have HQ:= @Pl.K3 s;have HC:=λ(X:b_) (h:(s.extract 1 s.size).size=s.size-1)=>oL 0 2000 (s.extract 1 s.size) X (p1 h) om;exact zn
def Om(s:a_)(w:b_)(h0:0<s.size)(h1:s.size<=253)(hf:Pl.j2 s 0=2):
 Calls prog 113 #[.string s] w λa b=>k_ w b a s:=by
 have HQ:= @Pl.K4 s;have HC:=λ(X:b_) (h:(s.extract 1 s.size).size=s.size-1)=>oL 1 2000 (s.extract 1 s.size) X (p1 h) om;exact zn
def On(s:a_)(w:b_)(h0:0<s.size)(h1:s.size<=253)(hf:Pl.j2 s 0=3):
 Calls prog 113 #[.string s] w λa b=>k_ w b a s:=by
 have HQ:= @Pl.K5 s;have HC:=λ(X:b_) (h:(s.extract 1 s.size).size=s.size-1)=>oL 2 125 (s.extract 1 s.size) X (p1 h) om;exact zn
def Oo(s:a_)(w:b_)(h0:0<s.size)(h1:s.size<=253)(hf:Pl.j2 s 0=4):
 Calls prog 113 #[.string s] w λa b=>k_ w b a s:=by
 have HQ:= @Pl.K6 s;have HC:=λ(X:b_) (h:(s.extract 1 s.size).size=s.size-1)=>oL 3 125 (s.extract 1 s.size) X (p1 h) om;exact zn
def Oq(s:a_)(w:b_)(h0:0<s.size)(h1:s.size<=253)(hf:Pl.j2 s 0=5):
 Calls prog 113 #[.string s] w λa b=>k_ w b a s:=by
 have HQ:= @Pl.x2 s;have HC:=λ(X:b_) (h:(s.extract 1 s.size).size=s.size-1)=>xd (s.extract 1 s.size) X<|p1 h;exact zn
def Ot(s:a_)(w:b_)(h0:0<s.size)(h1:s.size<=253)(hf:Pl.j2 s 0=6):
 Calls prog 113 #[.string s] w λa b=>k_ w b a s:=by
 have HQ:= @Pl.EQ s;have HC:=λ(X:b_) (h:(s.extract 1 s.size).size=s.size-1)=>ux (s.extract 1 s.size) X<|p1 h;exact zn
def K7(s:a_)(w:b_)(h0:0<s.size)(h1:s.size<=253)(hf:Pl.j2 s 0=15):
 Calls prog 113 #[.string s] w λa b=>k_ w b a s:=by
 have HQ:= @Pl.sV s;have HC:=λ(X:b_) (h:(s.extract 1 s.size).size=s.size-1)=>ve (s.extract 1 s.size) X<|p1 h;exact zn
def K8(s:a_)(w:b_)(h0:0<s.size)(h1:s.size<=253)(hf:Pl.j2 s 0=16):
 Calls prog 113 #[.string s] w λa b=>k_ w b a s:=by
 have HQ:= @Pl.sW s;have HC:=λ(X:b_) (h:(s.extract 1 s.size).size=s.size-1)=>pv 123 (s.extract 1 s.size) X (p1 h) om;exact zn
def K9(s:a_)(w:b_)(h0:0<s.size)(h1:s.size<=253)(hf:Pl.j2 s 0=22):
 Calls prog 113 #[.string s] w λa b=>k_ w b a s:=by
 have HQ:= @Pl.Bf s;have HC:=λ(X:b_) (h:(s.extract 1 s.size).size=s.size-1)=>CD (s.extract 1 s.size) X<|p1 h;exact zn
def K_(s:a_)(w:b_)(h0:0<s.size)(h1:s.size<=253)(hf:Pl.j2 s 0=23):
 Calls prog 113 #[.string s] w λa b=>k_ w b a s:=by
 have HQ:= @Pl.ri s;have HC:=λ(X:b_) (h:(s.extract 1 s.size).size=s.size-1)=>x1 (s.extract 1 s.size) X<|p1 h;exact zn
def ER(s:a_)(b:b_)(f:0<s.size)(d:s.size<=253)(a:Pl.j2 s 0≠1/\Pl.j2 s 0≠2/\Pl.j2 s 0≠3/\Pl.j2 s 0≠4/\Pl.j2 s 0≠5/\Pl.j2 s 0≠6/\Pl.j2 s 0≠15/\Pl.j2 s 0≠16/\Pl.j2 s 0≠22/\Pl.j2 s 0≠23):
 Calls prog 113 #[.string s] b λc g=>k_ b g c s:=by
 have i:=Pl.kG s;have e:=h_ a;have h:(1:Int)<=s.size:=om;have t0:((s.size:Int)==0)=false:=nU;refine Vi ?_;intro eP eR eQ eS u5 eN i4 i5 i6 i7;clear a
 go_enter func113,ntmps113
 go_wp2
 refine Yx (v:=.tuple #[.agg z8,.int .u8 1]) (by simp[results,results113,go_sem]) rfl
  ⟨Pl.j6,σ,1,rfl,Yq ..,Pl.Af f d e ⟨rfl,rfl⟩,by simp[Pl.j6],?_⟩
 exact jT (jT br _) _
def H1(a:a_)(b:b_):Calls prog 113 #[.string a] b λf i=>k_ b i f a:=by
 by_cases e:a.size=0
 .have t0:((a.size:Int)==0)=true:=HH;have g:=h_ e;clear e
  go_enter func113,ntmps113
  go_wp2
  refine Yx (v:=.tuple #[.agg z8,.int .u8 3]) (by simp[results,results113,go_sem]) rfl
   ⟨Pl.j6,σ,3,rfl,Yq ..,.inl ⟨.inl g,rfl,rfl⟩,by simp[Pl.j6],?_⟩
  exact jT br _
 .by_cases h:253<a.size
  .have t0:((a.size:Int)==0)=false:=nU
   go_enter func113,ntmps113
   go_wp2
   refine Yx (v:=.tuple #[.agg z8,.int .u8 3]) (by simp[results,results113,go_sem]) rfl
    ⟨Pl.j6,σ,3,rfl,Yq ..,.inl ⟨.inr h,rfl,rfl⟩,by simp[Pl.j6],?_⟩
   exact jT br _
  .have c:0<a.size:=om;have d:a.size<=253:=om;by_cases f1:Pl.j2 a 0=1
   .exact Ol a b c d f1
   by_cases f2:Pl.j2 a 0=2
   .exact Om a b c d f2
   by_cases f3:Pl.j2 a 0=3
   .exact On a b c d f3
   by_cases f4:Pl.j2 a 0=4
   .exact Oo a b c d f4
   by_cases f5:Pl.j2 a 0=5
   .exact Oq a b c d f5
   by_cases f6:Pl.j2 a 0=6
   .exact Ot a b c d f6
   by_cases f15:Pl.j2 a 0=15
   .exact K7 a b c d f15
   by_cases f16:Pl.j2 a 0=16
   .exact K8 a b c d f16
   by_cases f22:Pl.j2 a 0=22
   .exact K9 a b c d f22
   by_cases f23:Pl.j2 a 0=23
   .exact K_ a b c d f23
   exact ER a b c d ⟨f1,f2,f3,f4,f5,f6,f15,f16,f22,f23⟩
