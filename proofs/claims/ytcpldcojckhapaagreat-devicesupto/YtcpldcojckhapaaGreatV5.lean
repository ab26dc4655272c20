import Derived.Test.YtcpldcojckhapaaGreatV3
import Derived.Test.YtcpldcojckhapaaGreatV4
set_option maxRecDepth 100000
set_option maxHeartbeats 16000000
set_option linter.all false
noncomputable section
namespace Go.Proofs.YtcpldcojckhapaaGreat
open Go.Proofs.Tryz Go.RowKit
structure kY(w W:b_)(cs:Array f_):Prop where
 b0:W.heap[w.heap.size]?=some (.cells z8 144)
 b1:W.heap[w.heap.size+1]?=some (.cells z8 144)
 b2:W.heap[w.heap.size+1+1]?=some (.cells cs 144)
 hs:w.heap.size+3<=W.heap.size
 hb:Below w.heap.size w W
def kY.start(a:b_)(d c j i e h f g:f_):kY a (((a.alloc<|.cells z8 144).alloc<|.cells z8 144).alloc<|.cells #[d,c,j,i,e,h,f,g] 144) #[d,c,j,i,e,h,f,g]:=by
 obtain⟨b,o,m,n,k,l⟩:=Ad (w:=a);rw[<-o];refine⟨?_,?_,?_,so,jT l _⟩
 .rw[YQ b _ om];exact m
 .rw[YQ b _ om];exact n
 .have:=YO b<|.cells #[d,c,j,i,e,h,f,g] 144;rwa[k]at this
def kY.set{c a:b_}{e:Array f_}(b:kY c a e)(i:Nat)(d:f_):kY c (a.setCell (μ (c.heap.size+1+1) i) d) (e.setIfInBounds i d):=
 ⟨(Yp a _ _ _ so).trans b.b0,(Yp a _ _ _ si).trans b.b1,YB a _ i e 144 d b.b2,by simpa using b.hs,b.hb.setCell (p:=μ (c.heap.size+1+1) i) so _⟩
def kY.drew{c b:b_}{d:Array f_}(a:kY c b d)(e:Nat):kY c (b.drewN e) d:=⟨a.b0,a.b1,a.b2,a.hs,YL a.hb e⟩
def kY.then{d c f:b_}{e:Array f_}(a:kY d c e)(b:Below c.heap.size c f):kY d f e:=
 ⟨(b.block _ (li a.hs)).trans a.b0,(b.block _ (li a.hs)).trans a.b1,(b.block _ (li a.hs)).trans a.b2,YH a.hs b.size,jZ a.hb b⟩
def kY.alloc{c a:b_}{b:Array f_}(d:kY c a b)(e:Obj):kY c (a.alloc e) b:=d.then (jT br _)
def vp(a:b_)(c:Int)(b d:Nat)(e:d=a.heap.size)(f:b<=a.heap.size):(a.alloc<|.cells #[ν c] 3).ownsRow b 3 1 (.slice (some (μ d 0)) 1 1) 1 ([c].flatMap ka):=by subst e;exact Ct a c b f
def Fi(a:a_)(b:b_)(M:a.size=0\/253<a.size):
 Calls prog 132 #[.string a] b λc d=>k_ b d c a:=by
 by_cases f:a.size<1
 .exact Qi
 .have e:253<a.size:=om;exact Qi
def Db(s:a_)(b:b_)(f:0<s.size)(d:s.size<=253)(a:Pl.j2 s 0≠1/\Pl.j2 s 0≠2/\Pl.j2 s 0≠3/\Pl.j2 s 0≠4/\Pl.j2 s 0≠5/\Pl.j2 s 0≠6/\Pl.j2 s 0≠15/\Pl.j2 s 0≠16/\Pl.j2 s 0≠22/\Pl.j2 s 0≠23):
 Calls prog 132 #[.string s] b λc g=>k_ b g c s:=by
 have h:=Pl.kG s;have e:=h_ a;have i:=Pl.kz s 0;refine Vi ?_;intro eP eR eQ eS u5 eN i4 i5 i6 i7;clear a
 go_enter func132,ntmps132
 go_wp2
 refine Yx (v:=.tuple #[.agg z8,.int .u8 1]) (by simp[results,results132,go_sem]) rfl
  ⟨Pl.j6,σ,1,rfl,Yq _ _ _ _,Pl.Af f d e.o ⟨rfl,rfl⟩,by simp[Pl.j6],jT (jT (jT br _) _) _⟩
def kY.of{c a d:b_}{b:Array f_}(e:d=a)(f:kY c a b):kY c d b:=by rw[e];exact f
def OI(a d b:Nat)(c:b_):Calls prog 163 #[ν a,ν d,ν b] c λe g=>∃f:Bool,e=.returned (.bool f)/\g=c/\(f=true↔d<=a/\a<=b):=
 (yh a d b c).mono (by rintro e g ⟨rfl,rfl⟩;exact⟨_,rfl,rfl,decide_eq_true_iff⟩)
def Wz{p:Prop}(M:p:=by
 have gb:=Pl.kG s;have HF:=h_ hf;by_cases h5:s.size=5
 .have t5:((s.size:Int)==5)=true:=HH;have l5:5<=s.size:=om;have H5:=h_ h5;clear h5
  go_enter func132,ntmps132
  go_wp2_with fail
  refine(lg s 1 1 _ rfl om om).mono ?_;rintro e w1 ⟨rfl,n1,hw1⟩;have sc:=kY.of hw1<|(kY.start w _ _ _ _ _ _ _ _).drew _;clear hw1;obtain⟨fz,e0,e1,e2,e3,e4,e5,e6,e7⟩:=kq sc.b2
  go_wp2_with fail
  refine(lg s 3 3 _ rfl om om).mono ?_;rintro e w2 ⟨rfl,n2,hw2⟩;have st2:=kY.of hw2<|(sc.set 2 _).drew _;simp only[aaj,aa0,aar]at st2;clear hw2 fz e0 e1 e2 e3 e4 e5 e6 e7;clear sc;obtain⟨fz,e0,e1,e2,e3,e4,e5,e6,e7⟩:=kq st2.b2
  go_wp2_with fail
  refine(OI (Pl.wd s 3) 1 _ _).mono ?_;rintro e w3 ⟨bd,rfl,rfl,hd⟩;refine zh ?_;intro fa c0 c1 c2 c3 c4 c5 c6 c7 fb d0 d1 d2 d3 d4 d5 d6 d7;have HS:=h_ st2;clear st2;cases bd
  .have hi:=λM=>Bool.false_ne_true<|hd.2 M;clear hd;go_wp2;exact Yx (by simp[results,results132,go_sem,c0,c1,c2,c3,c4,c5,c6,c7];rfl) rfl ⟨Pl.j6,σ,3,rfl,Yq _ _ _ _,HQ h0 h1 HF.o<|.inr ⟨λM=>hi M.2,rfl,rfl⟩,by simp[Pl.j6],mE (HS.o.hb.setCell (p:=μ (w.heap.size+1+1) 3) so _) kM _ _ _ _ _ _ _ _⟩
  .have hi:=hd.1 rfl;clear hd;have HX:=HQ h0 h1 HF.o<|.inl ⟨⟨H5.o,hi⟩,rfl,rfl⟩;go_wp2;exact Yx (by simp[results,results132,go_sem,u1,c0,c1,c2,c3,c4,c5,c6,c7]) rfl ⟨_,σ,0,rfl,Yq _ _ _ _,HX,si,mE (HS.o.hb.setCell (p:=μ (w.heap.size+1+1) 3) so _) kM _ _ _ _ _ _ _ _⟩
 .have t5:((s.size:Int)==5)=false:=nU
  go_enter func132,ntmps132
  go_wp2
  exact Yx (by simp[results,results132,go_sem];rfl) rfl ⟨Pl.j6,σ,3,rfl,Yq _ _ _ _,HQ h0 h1 HF.o<|.inr ⟨λM=>h5 M.1,rfl,rfl⟩,by simp[Pl.j6],jT (jT (jT br _) _) _⟩):p:=M
def LM(s:a_)(w:b_)(h0:0<s.size)(h1:s.size<=253)(hf:Pl.j2 s 0=1):
 Calls prog 132 #[.string s] w λa b=>k_ w b a s:=by
 have HQ:= @Pl.K3 s;exact Wz
def LN(s:a_)(w:b_)(h0:0<s.size)(h1:s.size<=253)(hf:Pl.j2 s 0=2):
 Calls prog 132 #[.string s] w λa b=>k_ w b a s:=by
 have HQ:= @Pl.K4 s;exact Wz
def LO(s:a_)(w:b_)(h0:0<s.size)(h1:s.size<=253)(hf:Pl.j2 s 0=3):
 Calls prog 132 #[.string s] w λa b=>k_ w b a s:=by
 have HQ:= @Pl.K5 s;exact Wz
def LP(s:a_)(w:b_)(h0:0<s.size)(h1:s.size<=253)(hf:Pl.j2 s 0=4):
 Calls prog 132 #[.string s] w λa b=>k_ w b a s:=by
 have HQ:= @Pl.K6 s;exact Wz
def vq(c:b_)(a b:Nat)(f d:f_):(c.setCell ⟨a,b,none⟩ f).setCell ⟨a,b,none⟩ d=c.setCell ⟨a,b,none⟩ d:=by
 have h:∀e:Nat,((c.setCell (μ a b) f).setCell (μ a b) d).heap[e]?=(c.setCell (μ a b) d).heap[e]?:=λe=>by
  simp only[World.setCell,aaM];by_cases g:a=e
  .subst g
   cases j:c.heap[a]? with
   |none=>simp
   |some i=>cases i<;>simp
  .simp[g]
 have:((c.setCell (μ a b) f).setCell (μ a b) d).heap=(c.setCell (μ a b) d).heap:=ZS h;unfold World.setCell at this⊢;simpa using this
def yi(d:b_)(a b c:Nat)(p:b≠c)(h e f:f_):((d.setCell ⟨a,b,none⟩ h).setCell ⟨a,c,none⟩ e).setCell ⟨a,b,none⟩ f=(d.setCell ⟨a,c,none⟩ e).setCell ⟨a,b,none⟩ f:=by
 have k:∀g:Nat,(((d.setCell (μ a b) h).setCell (μ a c) e).setCell (μ a b) f).heap[g]?=((d.setCell (μ a c) e).setCell (μ a b) f).heap[g]?:=λg=>by
  simp only[World.setCell,aaM];by_cases i:a=g
  .subst i
   cases q:d.heap[a]? with
   |none=>simp
   |some l=>
    cases l with
    |cells n o r=>
     simp;apply ZS;intro m;simp only[Y6,Y3];by_cases j:b=m
     .simp[j]
     .simp[j]
    |_=>simp
  .simp[i]
 have:(((d.setCell (μ a b) h).setCell (μ a c) e).setCell (μ a b) f).heap=((d.setCell (μ a c) e).setCell (μ a b) f).heap:=ZS k;unfold World.setCell at this⊢;simpa using this
def LQ(b:a_)(a:b_)(j:0<b.size)(h:b.size<=253)(O:Pl.j2 b 0=5):
 Calls prog 132 #[.string b] a λo Q=>k_ a Q o b:=by
 have S:=Pl.kG b;have i:=h_ O;by_cases l:b.size=5
 .have t5:((b.size:Int)==5)=true:=HH;have W:5<=b.size:=om;have F:=h_ l;clear l
  go_enter func132,ntmps132
  go_wp2_with fail
  refine(lg b 3 3 _ rfl om om).mono ?_;rintro o N ⟨rfl,R,A⟩;have sc:kY a N #[ν 5,ν 0,ν 0,ν 0,ν 0,ν 0,ν 0,σ]:=by rw[A];exact(kY.start a _ _ _ _ _ _ _ _).drew _
  clear A;obtain⟨s,J,I,C,L,z,E,y,D⟩:=kq sc.b2
  go_wp2_with fail
  refine(lg b 1 1 _ rfl om om).mono ?_;rintro o e ⟨rfl,U,x⟩;have st2:kY a e #[ν 5,ν 0,ν 0,ν 0,ν 0,ν 0,ν 0,σ]:=by rw[x];exact sc.drew _
  clear x s J I C L z E y D;clear sc;obtain⟨s,J,I,C,L,z,E,y,D⟩:=kq st2.b2;obtain⟨c,g⟩:=j5<|Pl.wd b 3;rw[<-g];have f:=h_ g;have K:c<65536:=by rw[g];exact Pl.pZ b 3
  clear g;refine zh ?_;intro fa c0 c1 c2 c3 c4 c5 c6 c7 fb d0 d1 d2 d3 d4 d5 d6 d7;have n:a.heap.size<e.heap.size:=li st2.hs;have V:a.heap.size+1<e.heap.size:=li st2.hs;have T:a.heap.size+1+1<e.heap.size:=li st2.hs;have r:=h_ st2;clear st2;by_cases m:c=0
  .have t0:((c:Int)==0)=true:=HH;have t2:¬0<c:=om;have t:=h_ m;clear K m;have u:=λ(d:b_)=>vq d (a.heap.size+1+1) 4;go_wp2
   refine Yx (v:=.tuple #[.agg #[ν 5,ν 0,ν 0,ν 0,ν 0,ν<|Pl.wd b 1,ν 1,.slice (some (μ e.heap.size 0)) 1 1],.int .u8 0]) (by simp[results,results132,go_sem,n,c0,c1,c2,c3,c4,c5,c6,c7]) rfl
    ⟨⟨5,0,0,0,0,Pl.wd b 1,1,[((c:Nat):Int)]⟩,_,0,rfl,vp _ (c:Nat) a.heap.size e.heap.size si so,Pl.x2 j h i.o (.inl ⟨⟨F.o,.inl (by rw[<-f.o];exact t.o)⟩,by rw[<-f.o,t.o],rfl⟩),si,jT (mE ((((r.o.hb.setCell (p:=μ (a.heap.size+1+1) 5) so _).setCell (p:=μ (a.heap.size+1+1) 6) so _).setCell (p:=μ (a.heap.size+1+1) 7) so _).setCell (p:=μ (a.heap.size+1+1) 4) so _) kM _ _ _ _ _ _ _ _) _⟩
  .have t0:((c:Int)==0)=false:=nU;have t2:0<c:=om;by_cases w:c=65280
   .have t1:((c:Int)==65280)=true:=HH;have B:=h_ w;clear K w m;have u:=λ(d:b_)=>vq d (a.heap.size+1+1) 4;have P:=λ(d:b_)=>yi d (a.heap.size+1+1) 7 4 dc;go_wp2
    refine Yx (v:=.tuple #[.agg #[ν 5,ν 0,ν 0,ν 0,ν 0,ν<|Pl.wd b 1,ν 1,.slice (some (μ (e.heap.size+1) 0)) 1 1],.int .u8 0]) (by simp[results,results132,go_sem,n,c0,c1,c2,c3,c4,c5,c6,c7]) rfl
     ⟨⟨5,0,0,0,0,Pl.wd b 1,1,[1]⟩,_,0,rfl,vp _ 1 a.heap.size (e.heap.size+1) si so,Pl.x2 j h i.o (.inl ⟨⟨F.o,.inr (by rw[<-f.o];exact B.o)⟩,by rw[<-f.o,B.o];rfl,rfl⟩),si,jT (jT (mE ((((r.o.hb.setCell (p:=μ (a.heap.size+1+1) 5) so _).setCell (p:=μ (a.heap.size+1+1) 6) so _).setCell (p:=μ (a.heap.size+1+1) 4) so _).setCell (p:=μ (a.heap.size+1+1) 7) so _) kM _ _ _ _ _ _ _ _) _) _⟩
   .have t1:((c:Int)==65280)=false:=nU;have u:=λ(d:b_)=>vq d (a.heap.size+1+1) 4;have P:=λ(d:b_)=>yi d (a.heap.size+1+1) 7 4 dc;go_wp2
    refine Yx (v:=.tuple #[.agg z8,.int .u8 3]) (by simp[results,results132,go_sem,n,c0,c1,c2,c3,c4,c5,c6,c7]) rfl
     ⟨Pl.j6,σ,3,rfl,Yq _ _ _ _,Pl.x2 j h i.o (.inr ⟨λM=>by have:=M.2;rw[<-f.o]at this;omega,rfl,rfl⟩),by simp[Pl.j6],jT (jT (mE ((((r.o.hb.setCell (p:=μ (a.heap.size+1+1) 5) so _).setCell (p:=μ (a.heap.size+1+1) 6) so _).setCell (p:=μ (a.heap.size+1+1) 4) so _).setCell (p:=μ (a.heap.size+1+1) 7) so _) kM _ _ _ _ _ _ _ _) _) _⟩
 .have t5:((b.size:Int)==5)=false:=nU
  go_enter func132,ntmps132
  go_wp2
  refine Yx (v:=.tuple #[.agg z8,.int .u8 3]) (by simp[results,results132,go_sem]) rfl
   ⟨Pl.j6,σ,3,rfl,Yq _ _ _ _,Pl.x2 j h i.o<|.inr ⟨λM=>l M.1,rfl,rfl⟩,by simp[Pl.j6],jT (jT (jT br _) _) _⟩
def LR(a:a_)(b:b_)(m:0<a.size)(n:a.size<=253)(E:Pl.j2 a 0=6):
 Calls prog 132 #[.string a] b λe F=>k_ b F e a:=by
 have L:=Pl.kG a;have w:=h_ E;by_cases f:a.size=5
 .have t5:((a.size:Int)==5)=true:=HH;have O:5<=a.size:=om;have z:=h_ f;clear f
  go_enter func132,ntmps132
  go_wp2_with fail
  refine(lg a 3 3 _ rfl om om).mono ?_;rintro e A ⟨rfl,I,t⟩;have sc:kY b A #[ν 6,ν 0,ν 0,ν 0,ν 0,ν 0,ν 0,σ]:=by rw[t];exact(kY.start b _ _ _ _ _ _ _ _).drew _
  clear t;obtain⟨i,l,j,u,y,s,h,r,x⟩:=kq sc.b2
  go_wp2_with fail
  refine(lg a 1 1 _ rfl om om).mono ?_;rintro e c ⟨rfl,J,o⟩;have st2:kY b c #[ν 6,ν 0,ν 0,ν 0,ν 0,ν 0,ν 0,σ]:=by rw[o];exact sc.drew _
  clear o i l j u y s h r x;clear sc;obtain⟨i,l,j,u,y,s,h,r,x⟩:=kq st2.b2;obtain⟨g,d⟩:=j5<|Pl.wd a 3;rw[<-d];have C:=h_ d;have N:g<65536:=by rw[d];exact Pl.pZ a 3
  clear d;refine zh ?_;intro fa c0 c1 c2 c3 c4 c5 c6 c7 fb d0 d1 d2 d3 d4 d5 d6 d7;have B:b.heap.size<c.heap.size:=li st2.hs;have K:b.heap.size+1<c.heap.size:=li st2.hs;have P:b.heap.size+1+1<c.heap.size:=li st2.hs;have D:=h_ st2;clear st2;go_wp2
  refine Yx (v:=.tuple #[.agg #[ν 6,ν 0,ν 0,ν 0,ν 2,ν<|Pl.wd a 1,ν 1,.slice (some (μ c.heap.size 0)) 1 1],.int .u8 0]) (by simp[results,results132,go_sem,B,c0,c1,c2,c3,c4,c5,c6,c7]) rfl
   ⟨⟨6,0,0,0,2,Pl.wd a 1,1,[((g:Nat):Int)]⟩,_,0,rfl,vp _ (g:Nat) b.heap.size c.heap.size si so,Pl.EQ m n w.o (.inl ⟨z.o,by rw[C.o],rfl⟩),si,jT (mE ((((D.o.hb.setCell (p:=μ (b.heap.size+1+1) 5) so _).setCell (p:=μ (b.heap.size+1+1) 6) so _).setCell (p:=μ (b.heap.size+1+1) 7) so _).setCell (p:=μ (b.heap.size+1+1) 4) so _) kM _ _ _ _ _ _ _ _) _⟩
 .have t5:((a.size:Int)==5)=false:=nU
  go_enter func132,ntmps132
  go_wp2
  refine Yx (v:=.tuple #[.agg z8,.int .u8 3]) (by simp[results,results132,go_sem]) rfl
   ⟨Pl.j6,σ,3,rfl,Yq _ _ _ _,Pl.EQ m n w.o<|.inr ⟨f,rfl,rfl⟩,by simp[Pl.j6],jT (jT (jT br _) _) _⟩
theorem Il(a:a_)(d:b_)(s:0<a.size)(x:a.size<=253)(an:Pl.j2 a 0=15):
 Calls prog 132 #[.string a] d λy ai=>k_ d ai y a:=by
 have S:=Pl.kG a;have w:=h_ an;by_cases ad:6<=a.size
 .have ak:=Pl.kz a 5;have af:5<a.size:=om
  go_enter func132,ntmps132
  go_wp2_with fail
  refine(lg a 1 1 _ rfl om om).mono ?_;rintro y aj ⟨rfl,av,ae⟩;have sc:kY d aj #[ν 15,ν 0,ν 0,ν 0,ν 0,ν 0,ν 0,σ]:=by rw[ae];exact(kY.start d _ _ _ _ _ _ _ _).drew _
  clear ae;obtain⟨D,K,B,L,M,C,A,E,z⟩:=kq sc.b2
  go_wp2_with fail
  refine(lg a 3 3 _ rfl om om).mono ?_;rintro y ab ⟨rfl,ap,ac⟩;have b:kY d ab #[ν 15,ν 0,ν 0,ν 0,ν 0,ν<|Pl.wd a 1,ν 0,σ]:=by rw[ac];exact(sc.set 5 _).drew _
  clear ac D K B L M C A E z;clear sc;obtain⟨D,K,B,L,M,C,A,E,z⟩:=kq b.b2;obtain⟨c,F⟩:=j5<|Pl.wd a 3;rw[<-F];have r:=h_ F;have ar:c<65536:=by rw[F];exact Pl.pZ a 3
  clear F;obtain⟨f,N⟩:=j5<|Pl.j2 a 5;rw[<-N]at ak;have au:(a[5]'af).toNat=f:=by rw[N];exact S 5 af
  have O:=h_ N;have aq:=h_ S;clear N S
  go_wp2_with fail
  refine(yh c 1 1968 _).mono ?_;rintro y al ⟨rfl,rfl⟩;by_cases q:1<=c/\c<=1968
  .rw[YW q];by_cases J:f=(c+7)/8
   .have ao:((f:Int)==((c:Int)+7)/8)=true:=HH;by_cases I:a.size=6+f
    .have ah:((a.size:Int)==6+(f:Int))=true:=HH;have U:=h_ I;have T:=h_ J
     go_wp2_with fail
     obtain⟨aa,R⟩:=j5<|ab.setCell (μ (d.heap.size+1+1) 6)<|ν c;have V:kY d aa #[ν 15,ν 0,ν 0,ν 0,ν 0,ν<|Pl.wd a 1,ν c,σ]:=by rw[R];exact(b.set 6 _)
     rw[<-R];clear R;refine(Ii a 6 c aa om om om).mono ?_;rintro y al ⟨u,rfl,Y,ag⟩;have P:=j9 Y V.hs;obtain⟨Z,X,rfl,_⟩:=i_ P;have v:=V.then ag;clear ag Y V b D K B L M C A E z;obtain⟨D,K,B,L,M,C,A,E,z⟩:=kq v.b2;have t:=h_ q;clear q J I;obtain⟨W,m,j,g,i,l,k,n,h⟩:=kq v.b0;obtain⟨Q,d0,d1,d2,d3,d4,d5,d6,d7⟩:=kq v.b1;have o:=h_ v;have am:=h_ P;clear P;clear v;go_wp2
     refine Yx (v:=.tuple #[.agg #[ν 15,ν 0,ν 0,ν 0,ν 0,ν<|Pl.wd a 1,ν c,.slice Z c X],.int .u8 0]) (by simp[results,results132,go_sem,m,j,g,i,l,k,n,h]) rfl
      ⟨⟨15,0,0,0,0,Pl.wd a 1,c,Pl.mx a 6 c⟩,.slice Z c X,0,rfl,by rw[Pl.mp];exact j9 (Ae (vi am.o om _) om _ _ _ _ _ _ _ _) om,Pl.sV s x w.o (.inl ⟨⟨ad,by rw[<-r.o];exact t.o.1,by rw[<-r.o];exact t.o.2,by rw[<-r.o,<-O.o];exact T.o,by rw[<-O.o];exact U.o⟩,by rw[r.o],rfl⟩),by rw[Pl.mp];have:=t.o;omega,mE (o.o.hb.setCell (p:=μ (d.heap.size+1+1) 7) so _) kM _ _ _ _ _ _ _ _⟩
    .have ah:((a.size:Int)==6+(f:Int))=false:=nU;have U:=h_ I;clear I;obtain⟨W,m,j,g,i,l,k,n,h⟩:=kq b.b0;obtain⟨Q,d0,d1,d2,d3,d4,d5,d6,d7⟩:=kq b.b1;have o:=h_ b;clear b;go_wp2
     refine Yx (v:=.tuple #[.agg z8,.int .u8 3]) (by simp[results,results132,go_sem,m,j,g,i,l,k,n,h]) rfl
      ⟨Pl.j6,σ,3,rfl,Yq _ _ _ _,Pl.sV s x w.o (.inr ⟨λe=>U.o (by rw[O.o];exact e.2.2.2.2),rfl,rfl⟩),by simp[Pl.j6],mE (o.o.hb.setCell (p:=μ (d.heap.size+1+1) 6) so _) kM _ _ _ _ _ _ _ _⟩
   .have ao:((f:Int)==((c:Int)+7)/8)=false:=nU;have T:=h_ J;clear J;obtain⟨W,m,j,g,i,l,k,n,h⟩:=kq b.b0;obtain⟨Q,d0,d1,d2,d3,d4,d5,d6,d7⟩:=kq b.b1;have o:=h_ b;clear b;go_wp2
    refine Yx (v:=.tuple #[.agg z8,.int .u8 3]) (by simp[results,results132,go_sem,m,j,g,i,l,k,n,h]) rfl
     ⟨Pl.j6,σ,3,rfl,Yq _ _ _ _,Pl.sV s x w.o (.inr ⟨λe=>T.o (by rw[O.o,r.o];exact e.2.2.2.1),rfl,rfl⟩),by simp[Pl.j6],mE (o.o.hb.setCell (p:=μ (d.heap.size+1+1) 6) so _) kM _ _ _ _ _ _ _ _⟩
  .rw[YZ q];have t:=h_ q;clear q;obtain⟨W,m,j,g,i,l,k,n,h⟩:=kq b.b0;obtain⟨Q,d0,d1,d2,d3,d4,d5,d6,d7⟩:=kq b.b1;have o:=h_ b;clear b;go_wp2
   refine Yx (v:=.tuple #[.agg z8,.int .u8 3]) (by simp[results,results132,go_sem,m,j,g,i,l,k,n,h]) rfl
    ⟨Pl.j6,σ,3,rfl,Yq _ _ _ _,Pl.sV s x w.o (.inr ⟨λe=>t.o (by rw[r.o];exact⟨e.2.1,e.2.2.1⟩),rfl,rfl⟩),by simp[Pl.j6],mE (o.o.hb.setCell (p:=μ (d.heap.size+1+1) 6) so _) kM _ _ _ _ _ _ _ _⟩
 .go_enter func132,ntmps132
  go_wp2
  refine Yx (v:=.tuple #[.agg z8,.int .u8 3]) (by simp[results,results132,go_sem]) rfl
   ⟨Pl.j6,σ,3,rfl,Yq _ _ _ _,Pl.sV s x w.o<|.inr ⟨λe=>ad e.1,rfl,rfl⟩,by simp[Pl.j6],jT (jT (jT br _) _) _⟩
theorem Im(a:a_)(d:b_)(s:0<a.size)(x:a.size<=253)(an:Pl.j2 a 0=16):
 Calls prog 132 #[.string a] d λy ai=>k_ d ai y a:=by
 have S:=Pl.kG a;have w:=h_ an;by_cases ad:6<=a.size
 .have ak:=Pl.kz a 5;have af:5<a.size:=om
  go_enter func132,ntmps132
  go_wp2_with fail
  refine(lg a 1 1 _ rfl om om).mono ?_;rintro y aj ⟨rfl,av,ae⟩;have sc:kY d aj #[ν 16,ν 0,ν 0,ν 0,ν 0,ν 0,ν 0,σ]:=by rw[ae];exact(kY.start d _ _ _ _ _ _ _ _).drew _
  clear ae;obtain⟨D,K,B,L,M,C,A,E,z⟩:=kq sc.b2
  go_wp2_with fail
  refine(lg a 3 3 _ rfl om om).mono ?_;rintro y ab ⟨rfl,ap,ac⟩;have b:kY d ab #[ν 16,ν 0,ν 0,ν 0,ν 0,ν<|Pl.wd a 1,ν 0,σ]:=by rw[ac];exact(sc.set 5 _).drew _
  clear ac D K B L M C A E z;clear sc;obtain⟨D,K,B,L,M,C,A,E,z⟩:=kq b.b2;obtain⟨c,F⟩:=j5<|Pl.wd a 3;rw[<-F];have r:=h_ F;have ar:c<65536:=by rw[F];exact Pl.pZ a 3
  clear F;obtain⟨f,N⟩:=j5<|Pl.j2 a 5;rw[<-N]at ak;have au:(a[5]'af).toNat=f:=by rw[N];exact S 5 af
  have O:=h_ N;have aq:=h_ S;clear N S
  go_wp2_with fail
  refine(yh c 1 123 _).mono ?_;rintro y al ⟨rfl,rfl⟩;by_cases q:1<=c/\c<=123
  .rw[YW q];by_cases J:f=2*c
   .have ao:((f:Int)==2*(c:Int))=true:=HH;by_cases I:a.size=6+f
    .have ah:((a.size:Int)==6+(f:Int))=true:=HH;have U:=h_ I;have T:=h_ J
     go_wp2_with fail
     obtain⟨aa,R⟩:=j5<|(ab.setCell (μ (d.heap.size+1+1) 6)<|ν c).setCell (μ (d.heap.size+1+1) 4)<|ν 2;have V:kY d aa #[ν 16,ν 0,ν 0,ν 0,ν 2,ν<|Pl.wd a 1,ν c,σ]:=by rw[R];exact((b.set 6 _).set 4 _)
     rw[<-R];clear R;refine(q4 a 6 c aa om om om).mono ?_;rintro y al ⟨u,rfl,Y,ag⟩;have P:=j9 Y V.hs;obtain⟨Z,X,rfl,_⟩:=i_ P;have v:=V.then ag;clear ag Y V b D K B L M C A E z;obtain⟨D,K,B,L,M,C,A,E,z⟩:=kq v.b2;have t:=h_ q;clear q J I;obtain⟨W,m,j,g,i,l,k,n,h⟩:=kq v.b0;obtain⟨Q,d0,d1,d2,d3,d4,d5,d6,d7⟩:=kq v.b1;have o:=h_ v;have am:=h_ P;clear P;clear v;go_wp2
     refine Yx (v:=.tuple #[.agg #[ν 16,ν 0,ν 0,ν 0,ν 2,ν<|Pl.wd a 1,ν c,.slice Z c X],.int .u8 0]) (by simp[results,results132,go_sem,m,j,g,i,l,k,n,h]) rfl
      ⟨⟨16,0,0,0,2,Pl.wd a 1,c,Pl.kJ a 6 c⟩,.slice Z c X,0,rfl,by rw[Pl.kO];exact j9 (Ae (vi am.o om _) om _ _ _ _ _ _ _ _) om,Pl.sW s x w.o (.inl ⟨⟨ad,by rw[<-r.o];exact t.o.1,by rw[<-r.o];exact t.o.2,by rw[<-r.o,<-O.o];exact T.o,by rw[<-O.o];exact U.o⟩,by rw[r.o],rfl⟩),by rw[Pl.kO];have:=t.o;omega,mE (o.o.hb.setCell (p:=μ (d.heap.size+1+1) 7) so _) kM _ _ _ _ _ _ _ _⟩
    .have ah:((a.size:Int)==6+(f:Int))=false:=nU;have U:=h_ I;clear I;obtain⟨W,m,j,g,i,l,k,n,h⟩:=kq b.b0;obtain⟨Q,d0,d1,d2,d3,d4,d5,d6,d7⟩:=kq b.b1;have o:=h_ b;clear b;go_wp2
     refine Yx (v:=.tuple #[.agg z8,.int .u8 3]) (by simp[results,results132,go_sem,m,j,g,i,l,k,n,h]) rfl
      ⟨Pl.j6,σ,3,rfl,Yq _ _ _ _,Pl.sW s x w.o (.inr ⟨λe=>U.o (by rw[O.o];exact e.2.2.2.2),rfl,rfl⟩),by simp[Pl.j6],mE (o.o.hb.setCell (p:=μ (d.heap.size+1+1) 6) so _) kM _ _ _ _ _ _ _ _⟩
   .have ao:((f:Int)==2*(c:Int))=false:=nU;have T:=h_ J;clear J;obtain⟨W,m,j,g,i,l,k,n,h⟩:=kq b.b0;obtain⟨Q,d0,d1,d2,d3,d4,d5,d6,d7⟩:=kq b.b1;have o:=h_ b;clear b;go_wp2
    refine Yx (v:=.tuple #[.agg z8,.int .u8 3]) (by simp[results,results132,go_sem,m,j,g,i,l,k,n,h]) rfl
     ⟨Pl.j6,σ,3,rfl,Yq _ _ _ _,Pl.sW s x w.o (.inr ⟨λe=>T.o (by rw[O.o,r.o];exact e.2.2.2.1),rfl,rfl⟩),by simp[Pl.j6],mE (o.o.hb.setCell (p:=μ (d.heap.size+1+1) 6) so _) kM _ _ _ _ _ _ _ _⟩
  .rw[YZ q];have t:=h_ q;clear q;obtain⟨W,m,j,g,i,l,k,n,h⟩:=kq b.b0;obtain⟨Q,d0,d1,d2,d3,d4,d5,d6,d7⟩:=kq b.b1;have o:=h_ b;clear b;go_wp2
   refine Yx (v:=.tuple #[.agg z8,.int .u8 3]) (by simp[results,results132,go_sem,m,j,g,i,l,k,n,h]) rfl
    ⟨Pl.j6,σ,3,rfl,Yq _ _ _ _,Pl.sW s x w.o (.inr ⟨λe=>t.o (by rw[r.o];exact⟨e.2.1,e.2.2.1⟩),rfl,rfl⟩),by simp[Pl.j6],mE (o.o.hb.setCell (p:=μ (d.heap.size+1+1) 6) so _) kM _ _ _ _ _ _ _ _⟩
 .go_enter func132,ntmps132
  go_wp2
  refine Yx (v:=.tuple #[.agg z8,.int .u8 3]) (by simp[results,results132,go_sem]) rfl
   ⟨Pl.j6,σ,3,rfl,Yq _ _ _ _,Pl.sW s x w.o<|.inr ⟨λe=>ad e.1,rfl,rfl⟩,by simp[Pl.j6],jT (jT (jT br _) _) _⟩
def In(a:a_)(b:b_)(t:0<a.size)(u:a.size<=253)(J:Pl.j2 a 0=22):
 Calls prog 132 #[.string a] b λc K=>k_ b K c a:=by
 have O:=Pl.kG a;have z:=h_ J;by_cases e:a.size=7
 .have t5:((a.size:Int)==7)=true:=HH;have Q:7<=a.size:=om;have N:a.size<=7:=om;have E:=h_ e;clear e
  go_enter func132,ntmps132
  go_wp2_with fail
  refine(lg a 1 1 _ rfl om om).mono ?_;rintro c m ⟨rfl,L,x⟩;have sc:kY b m #[ν 22,ν 2,ν 0,ν 0,ν 0,ν 0,ν 0,σ]:=by rw[x];exact(kY.start b _ _ _ _ _ _ _ _).drew _
  clear x;obtain⟨j,r,o,y,B,w,i,v,A⟩:=kq sc.b2
  go_wp2_with fail
  obtain⟨n,f⟩:=j5<|((((m.setCell (μ (b.heap.size+1+1) 2)<|ν<|Pl.wd a 1).setCell (μ (b.heap.size+1+1) 3)<|ν 1).setCell (μ (b.heap.size+1+1) 4)<|ν 2).setCell (μ (b.heap.size+1+1) 5)<|ν<|Pl.wd a 1).setCell (μ (b.heap.size+1+1) 6)<|ν 1;have d:kY b n #[ν 22,ν 2,ν<|Pl.wd a 1,ν 1,ν 2,ν<|Pl.wd a 1,ν 1,σ]:=by rw[f];exact(((((sc.set 2 _).set 3 _).set 4 _).set 5 _).set 6 _)
  rw[<-f];clear f;refine(q4 a 3 2 n om om om).mono ?_;rintro c P ⟨C,rfl,D,l⟩;have g:=j9 D d.hs;obtain⟨s,h,rfl,_⟩:=i_ g;have st2:=d.then l;clear l D d sc j r o y B w i v A;obtain⟨j,r,o,y,B,w,i,v,A⟩:=kq st2.b2;refine zh ?_;intro fa c0 c1 c2 c3 c4 c5 c6 c7 fb d0 d1 d2 d3 d4 d5 d6 d7;have I:=h_ st2;have F:=h_ g;clear g;clear st2;go_wp2
  refine Yx (v:=.tuple #[.agg #[ν 22,ν 2,ν<|Pl.wd a 1,ν 1,ν 2,ν<|Pl.wd a 1,ν 1,.slice s 2 h],.int .u8 0]) (by simp[results,results132,go_sem,c0,c1,c2,c3,c4,c5,c6,c7]) rfl
   ⟨⟨22,2,Pl.wd a 1,1,2,Pl.wd a 1,1,Pl.kJ a 3 2⟩,.slice s 2 h,0,rfl,by rw[Pl.kO];exact j9 (Ae (vi F.o om _) om _ _ _ _ _ _ _ _) om,Pl.Bf t u z.o<|.inl ⟨E.o,rfl,rfl⟩,by rw[Pl.kO];omega,mE (I.o.hb.setCell (p:=μ (b.heap.size+1+1) 7) so _) kM _ _ _ _ _ _ _ _⟩
 .have t5:((a.size:Int)==7)=false:=nU
  go_enter func132,ntmps132
  go_wp2
  refine Yx (v:=.tuple #[.agg z8,.int .u8 3]) (by simp[results,results132,go_sem]) rfl
   ⟨Pl.j6,σ,3,rfl,Yq _ _ _ _,Pl.Bf t u z.o<|.inr ⟨e,rfl,rfl⟩,by simp[Pl.j6],jT (jT (jT br _) _) _⟩
theorem Io(a:a_)(d:b_)(Q:0<a.size)(T:a.size<=253)(aB:Pl.j2 a 0=23):
 Calls prog 132 #[.string a] d λu av=>k_ d av u a:=by
 have ah:=Pl.kG a;have S:=h_ aB;by_cases ap:10<=a.size
 .have aC:=Pl.kz a 9;have am:9<a.size:=om
  go_enter func132,ntmps132
  go_wp2_with fail
  refine(lg a 1 1 _ rfl om om).mono ?_;rintro u aw ⟨rfl,aK,ar⟩;have sc:kY d aw #[ν 23,ν 2,ν 0,ν 0,ν 0,ν 0,ν 0,σ]:=by rw[ar];exact(kY.start d _ _ _ _ _ _ _ _).drew _
  clear ar;obtain⟨k,m,i,n,o,j,h,l,g⟩:=kq sc.b2
  go_wp2_with fail
  refine(lg a 3 3 _ rfl om om).mono ?_;rintro u aA ⟨rfl,aE,ao⟩;have ag:kY d aA #[ν 23,ν 2,ν<|Pl.wd a 1,ν 0,ν 0,ν 0,ν 0,σ]:=by rw[ao];exact(sc.set 2 _).drew _
  clear ao k m i n o j h l g;clear sc;obtain⟨k,m,i,n,o,j,h,l,g⟩:=kq ag.b2;obtain⟨t,ac⟩:=j5<|Pl.wd a 3;rw[<-ac];have Y:=h_ ac;have aI:t<65536:=by rw[ac];exact Pl.pZ a 3
  clear ac
  go_wp2_with fail
  refine(lg a 5 5 _ rfl om om).mono ?_;rintro u ay ⟨rfl,aH,an⟩;have ak:kY d ay #[ν 23,ν 2,ν<|Pl.wd a 1,ν t,ν 2,ν 0,ν 0,σ]:=by rw[an];exact((ag.set 3 _).set 4 _).drew _
  clear an k m i n o j h l g;clear ag;obtain⟨k,m,i,n,o,j,h,l,g⟩:=kq ak.b2
  go_wp2_with fail
  refine(lg a 7 7 _ rfl om om).mono ?_;rintro u U ⟨rfl,aJ,aq⟩;have x:kY d U #[ν 23,ν 2,ν<|Pl.wd a 1,ν t,ν 2,ν<|Pl.wd a 5,ν 0,σ]:=by rw[aq];exact(ak.set 5 _).drew _
  clear aq k m i n o j h l g;clear ak;obtain⟨k,m,i,n,o,j,h,l,g⟩:=kq x.b2;obtain⟨c,Z⟩:=j5<|Pl.wd a 7;rw[<-Z];have O:=h_ Z;have aL:c<65536:=by rw[Z];exact Pl.pZ a 7
  clear Z;obtain⟨K,ae⟩:=j5<|Pl.j2 a 9;rw[<-ae]at aC;have aF:(a[9]'am).toNat=K:=by rw[ae];exact ah 9 am
  have af:=h_ ae;have aG:=h_ ah;clear ae ah
  go_wp2_with fail
  refine(yh t 1 125 _).mono ?_;rintro u M ⟨rfl,rfl⟩;by_cases N:1<=t/\t<=125
  .rw[YW N];have aa:=h_ N;clear N
   go_wp2_with fail
   refine(yh c 1 121 _).mono ?_;rintro u M ⟨rfl,rfl⟩;by_cases P:1<=c/\c<=121
   .rw[YW P];by_cases W:K=2*c
    .have aD:((K:Int)==2*(c:Int))=true:=HH;by_cases ab:a.size=10+K
     .have au:((a.size:Int)==10+(K:Int))=true:=HH;have aj:=h_ ab;have ai:=h_ W;have V:=h_ P;have al:(a.size-10)/2=c:=om;have ax:=h_ al;clear ab W P al
      go_wp2_with fail
      obtain⟨r,e⟩:=j5<|U.setCell (μ (d.heap.size+1+1) 6)<|ν c;have f:kY d r #[ν 23,ν 2,ν<|Pl.wd a 1,ν t,ν 2,ν<|Pl.wd a 5,ν c,σ]:=by rw[e];exact(x.set 6 _)
      rw[<-e];clear e;refine(q4 a 10 c r ax.o om om).mono ?_;rintro u M ⟨y,rfl,q,s⟩;have v:=j9 q f.hs;obtain⟨R,L,rfl,_⟩:=i_ v;have b:=f.then s;clear s q f x k m i n o j h l g;obtain⟨k,m,i,n,o,j,h,l,g⟩:=kq b.b2;obtain⟨ad,F,C,z,B,E,D,I,A⟩:=kq b.b0;obtain⟨X,d0,d1,d2,d3,d4,d5,d6,d7⟩:=kq b.b1;have J:=h_ b;have az:=h_ v;clear v;clear b;go_wp2
      refine Yx (v:=.tuple #[.agg #[ν 23,ν 2,ν<|Pl.wd a 1,ν t,ν 2,ν<|Pl.wd a 5,ν c,.slice R c L],.int .u8 0]) (by simp[results,results132,go_sem,F,C,z,B,E,D,I,A]) rfl
       ⟨⟨23,2,Pl.wd a 1,t,2,Pl.wd a 5,c,Pl.kJ a 10 c⟩,.slice R c L,0,rfl,by rw[Pl.kO];exact j9 (Ae (vi az.o om _) om _ _ _ _ _ _ _ _) om,Pl.ri Q T S.o (.inl ⟨⟨ap,by rw[<-Y.o];exact aa.o.1,by rw[<-Y.o];exact aa.o.2,by rw[<-O.o];exact V.o.1,by rw[<-O.o];exact V.o.2,by rw[<-O.o,<-af.o];exact ai.o,by rw[<-af.o];exact aj.o⟩,by rw[Y.o,O.o],rfl⟩),by rw[Pl.kO];have:=V.o;omega,mE (J.o.hb.setCell (p:=μ (d.heap.size+1+1) 7) so _) kM _ _ _ _ _ _ _ _⟩
     .have au:((a.size:Int)==10+(K:Int))=false:=nU;have aj:=h_ ab;clear ab W
      go_wp2_with fail
      obtain⟨r,e⟩:=j5<|U.setCell (μ (d.heap.size+1+1) 6)<|ν c;have f:kY d r #[ν 23,ν 2,ν<|Pl.wd a 1,ν t,ν 2,ν<|Pl.wd a 5,ν c,σ]:=by rw[e];exact(x.set 6 _)
      rw[<-e];clear e;refine(q4 a 10 ((a.size-10)/2) r rfl om om).mono ?_;rintro u M ⟨y,rfl,q,s⟩;have v:=j9 q f.hs;obtain⟨R,L,rfl,_⟩:=i_ v;have b:=f.then s;clear s q f x k m i n o j h l g;obtain⟨k,m,i,n,o,j,h,l,g⟩:=kq b.b2;obtain⟨ad,F,C,z,B,E,D,I,A⟩:=kq b.b0;obtain⟨X,d0,d1,d2,d3,d4,d5,d6,d7⟩:=kq b.b1;have J:=h_ b;clear b;go_wp2
      refine Yx (v:=.tuple #[.agg z8,.int .u8 3]) (by simp[results,results132,go_sem,F,C,z,B,E,D,I,A]) rfl
       ⟨Pl.j6,σ,3,rfl,Yq _ _ _ _,Pl.ri Q T S.o (.inr ⟨λw=>aj.o (by rw[af.o];exact w.2.2.2.2.2.2),rfl,rfl⟩),by simp[Pl.j6],mE (J.o.hb.setCell (p:=μ (d.heap.size+1+1) 7) so _) kM _ _ _ _ _ _ _ _⟩
    .have aD:((K:Int)==2*(c:Int))=false:=nU;have ai:=h_ W;clear W
     go_wp2_with fail
     obtain⟨r,e⟩:=j5<|U.setCell (μ (d.heap.size+1+1) 6)<|ν c;have f:kY d r #[ν 23,ν 2,ν<|Pl.wd a 1,ν t,ν 2,ν<|Pl.wd a 5,ν c,σ]:=by rw[e];exact(x.set 6 _)
     rw[<-e];clear e;refine(q4 a 10 ((a.size-10)/2) r rfl om om).mono ?_;rintro u M ⟨y,rfl,q,s⟩;have v:=j9 q f.hs;obtain⟨R,L,rfl,_⟩:=i_ v;have b:=f.then s;clear s q f x k m i n o j h l g;obtain⟨k,m,i,n,o,j,h,l,g⟩:=kq b.b2;obtain⟨ad,F,C,z,B,E,D,I,A⟩:=kq b.b0;obtain⟨X,d0,d1,d2,d3,d4,d5,d6,d7⟩:=kq b.b1;have J:=h_ b;clear b;go_wp2
     refine Yx (v:=.tuple #[.agg z8,.int .u8 3]) (by simp[results,results132,go_sem,F,C,z,B,E,D,I,A]) rfl
      ⟨Pl.j6,σ,3,rfl,Yq _ _ _ _,Pl.ri Q T S.o (.inr ⟨λw=>ai.o (by rw[af.o,O.o];exact w.2.2.2.2.2.1),rfl,rfl⟩),by simp[Pl.j6],mE (J.o.hb.setCell (p:=μ (d.heap.size+1+1) 7) so _) kM _ _ _ _ _ _ _ _⟩
   .rw[YZ P];have V:=h_ P;clear P
    go_wp2_with fail
    obtain⟨r,e⟩:=j5<|U.setCell (μ (d.heap.size+1+1) 6)<|ν c;have f:kY d r #[ν 23,ν 2,ν<|Pl.wd a 1,ν t,ν 2,ν<|Pl.wd a 5,ν c,σ]:=by rw[e];exact(x.set 6 _)
    rw[<-e];clear e;refine(q4 a 10 ((a.size-10)/2) r rfl om om).mono ?_;rintro u M ⟨y,rfl,q,s⟩;have v:=j9 q f.hs;obtain⟨R,L,rfl,_⟩:=i_ v;have b:=f.then s;clear s q f x k m i n o j h l g;obtain⟨k,m,i,n,o,j,h,l,g⟩:=kq b.b2;obtain⟨ad,F,C,z,B,E,D,I,A⟩:=kq b.b0;obtain⟨X,d0,d1,d2,d3,d4,d5,d6,d7⟩:=kq b.b1;have J:=h_ b;clear b;go_wp2
    refine Yx (v:=.tuple #[.agg z8,.int .u8 3]) (by simp[results,results132,go_sem,F,C,z,B,E,D,I,A]) rfl
     ⟨Pl.j6,σ,3,rfl,Yq _ _ _ _,Pl.ri Q T S.o (.inr ⟨λw=>V.o (by rw[O.o];exact⟨w.2.2.2.1,w.2.2.2.2.1⟩),rfl,rfl⟩),by simp[Pl.j6],mE (J.o.hb.setCell (p:=μ (d.heap.size+1+1) 7) so _) kM _ _ _ _ _ _ _ _⟩
  .rw[YZ N];have aa:=h_ N;clear N
   go_wp2_with fail
   obtain⟨r,e⟩:=j5<|U.setCell (μ (d.heap.size+1+1) 6)<|ν c;have f:kY d r #[ν 23,ν 2,ν<|Pl.wd a 1,ν t,ν 2,ν<|Pl.wd a 5,ν c,σ]:=by rw[e];exact(x.set 6 _)
   rw[<-e];clear e;refine(q4 a 10 ((a.size-10)/2) r rfl om om).mono ?_;rintro u M ⟨y,rfl,q,s⟩;have v:=j9 q f.hs;obtain⟨R,L,rfl,_⟩:=i_ v;have b:=f.then s;clear s q f x k m i n o j h l g;obtain⟨k,m,i,n,o,j,h,l,g⟩:=kq b.b2;obtain⟨ad,F,C,z,B,E,D,I,A⟩:=kq b.b0;obtain⟨X,d0,d1,d2,d3,d4,d5,d6,d7⟩:=kq b.b1;have J:=h_ b;clear b;go_wp2
   refine Yx (v:=.tuple #[.agg z8,.int .u8 3]) (by simp[results,results132,go_sem,F,C,z,B,E,D,I,A]) rfl
    ⟨Pl.j6,σ,3,rfl,Yq _ _ _ _,Pl.ri Q T S.o (.inr ⟨λw=>aa.o (by rw[Y.o];exact⟨w.2.1,w.2.2.1⟩),rfl,rfl⟩),by simp[Pl.j6],mE (J.o.hb.setCell (p:=μ (d.heap.size+1+1) 7) so _) kM _ _ _ _ _ _ _ _⟩
 .go_enter func132,ntmps132
  go_wp2
  refine Yx (v:=.tuple #[.agg z8,.int .u8 3]) (by simp[results,results132,go_sem]) rfl
   ⟨Pl.j6,σ,3,rfl,Yq _ _ _ _,Pl.ri Q T S.o<|.inr ⟨λw=>ap w.1,rfl,rfl⟩,by simp[Pl.j6],jT (jT (jT br _) _) _⟩
def yj(a:a_)(b:b_):Calls prog 132 #[.string a] b λe g=>k_ b g e a:=by
 by_cases f:a.size=0\/253<a.size
 .exact Fi a b f
 .have c:0<a.size:=om;have d:a.size<=253:=om;by_cases f1:Pl.j2 a 0=1
  .exact LM a b c d f1
  by_cases f2:Pl.j2 a 0=2
  .exact LN a b c d f2
  by_cases f3:Pl.j2 a 0=3
  .exact LO a b c d f3
  by_cases f4:Pl.j2 a 0=4
  .exact LP a b c d f4
  by_cases f5:Pl.j2 a 0=5
  .exact LQ a b c d f5
  by_cases f6:Pl.j2 a 0=6
  .exact LR a b c d f6
  by_cases f15:Pl.j2 a 0=15
  .exact Il a b c d f15
  by_cases f16:Pl.j2 a 0=16
  .exact Im a b c d f16
  by_cases f22:Pl.j2 a 0=22
  .exact In a b c d f22
  by_cases f23:Pl.j2 a 0=23
  .exact Io a b c d f23
  exact Db a b c d ⟨f1,f2,f3,f4,f5,f6,f15,f16,f22,f23⟩
