import Derived.Test.YtcpldcojckhapaaGreatV2
set_option maxRecDepth 100000
set_option maxHeartbeats 16000000
set_option linter.all false
noncomputable section
namespace Go.Proofs.YtcpldcojckhapaaGreat
open Go.Proofs.Tryz Go.RowKit
def A8{g:b_}{k d e i a:Nat}{c:d_}{h b:f_}{j:List f_}(m:g.ownsRow k c d h e j)(n:h.ownBlock=some i)(v:a<e*d):(g.setCell (μ i a) b).ownsRow k c d h e (j.set a b):=by
 refine⟨by rw[List.length_set];exact m.1,?_⟩;rcases m.2 with⟨rfl,_⟩|⟨f,o,l,rfl,r,q,p,s,u,t⟩
 .simp[Value.ownBlock]at n
 .obtain rfl:f=i:=by simpa[Value.ownBlock]using n
  refine .inr ⟨f,o,l.setIfInBounds a b,rfl,r,YB g f a l c b q,p,s,by rw[Y3];exact u,?_⟩;rw[Array.toList_setIfInBounds,List.take_set,t]
def KY(b:List Sv)(c:Sv):∀a,a<b.length->(((b.flatMap lU).set (a*3)<|ν c.1).set (a*3+1)<|ν c.2.1).set (a*3+2) (.string c.2.2)=(b.set a c).flatMap lU:=by
 induction b with
 |nil=>intro a d;exact absurd d (Zh _)
 |cons f b e=>
  intro a d
  cases a with
  |zero=>simp[lU]
  |succ a=>have:=e a (by simpa using d);rw[ZY,show(a+1)*3=(a*3)+1+1+1 by omega,aar,ZY];unfold lU at this⊢;simp only[Y1,YT,aar];rw[<-this]
def GJ{g:b_}{h c a f:Nat}{e:f_}{l:List Sv}(b:Sv)(j:g.ownsRow h 163 3 e f<|l.flatMap lU)(k:f=l.length)(d:e.ownBlock=some c)(i:a<l.length):
 (((g.setCell (μ c<|a*3)<|ν b.1).setCell (μ c<|a*3+1)<|ν b.2.1).setCell (μ c<|a*3+2)<|.string b.2.2).ownsRow h 163 3 e f ((l.set a b).flatMap lU):=by
 rw[<-KY l b a i];exact A8 (A8 (A8 j d om) d om) d om
def o8{c:b_}{h i:Nat}{g:f_}{a:List Sv}(M:c.ownsRow h 163 3 g a.length<|a.flatMap lU){x:Sv}(f:a[i]?=some x):
 ∃b e,g=.slice (some (μ b 0)) a.length e/\b<c.heap.size/\c.cell? (μ b<|i*3)=some (ν x.1)/\c.cell? (μ b<|i*3+1)=some (ν x.2.1)/\c.cell? (μ b<|i*3+2)=some (.string x.2.2):=by
 obtain⟨l,e,rfl,k⟩:=i_ M;have d:=(Yr.1 f).1;have cE:=(Yr.1 f).2;obtain⟨b,rfl,j,hc⟩:=k i d;refine⟨b,e,rfl,j,?_,?_,?_⟩
 .have:=kj lU 3 (λ_=>rfl) a i 0 d om;exact GF
 .rw[hc _ om,kj lU 3 (λ_=>rfl) a i 1 d om,cE];rfl
 .rw[hc _ om,kj lU 3 (λ_=>rfl) a i 2 d om,cE];rfl
def KZ{b:b_}{i a d c j:Nat}{e:d_}{f:List f_}(k:b.ownsRow i e j (.slice (some (μ a 0)) c d) c f)(h:Nat):b.frozen? (μ a h)=false:=by let⟨l,g⟩:=jU k a rfl;exact Y2 _ _ _ _ _ g
def r5(e:Option Addr)(b c:Nat)(a:b_):Calls prog 88 #[.slice e b c] a λd f=>d=.returned (ν b)/\f=a:=by
 go_enter func88,ntmps88
 go_wp2;go_ret;exact⟨rfl,rfl⟩
def z6(m i j:Nat)(g:f_)(l:List Sv)(e f:Sv)(b:Bool)(a:b_)(M:a.ownsRow m 163 3 g l.length<|l.flatMap lU)(hx:l[i]?=some e)(ax:l[j]?=some f)(d:decide (e.1<f.1)=b):
 Calls prog 194 #[g,ν i,ν j] a λh o=>h=.returned (.bool b)/\∃k,o=a.drewN k:=by
 obtain⟨w,r,rfl,u,s,_,_⟩:=o8 M hx;let⟨v,t,c,_,b0,_,_⟩:=o8 M ax;simp only[YN,Yz,ZP,aab,ZV]at c;obtain⟨rfl,rfl⟩:=c;refine QV ?_;intro hi hj ep ff;have n:=h_ d;clear M hx ax d
 go_enter func194,ntmps194
 go_wp2_with fail
 go_quiet (fail)
 go_wp2;go_ret;exact⟨up n,_,rfl⟩
def xY{d:b_}{c e g:Nat}{a:d_}{f:f_}{b:List f_}(h:d.ownsRow c a e f g b):d.drew.ownsRow c a e f g b:=jV h (λ_ _=>rfl)
def kf.drew{c:Nat}{b a:b_}(d:kf c b a):kf c b a.drew:=d.drewN 1
def xZ{a:b_}{d c:Nat}{e:Array f_}{i:d_}{b:f_}(h:a.heap[d]?=some (.cells e i))(j:a.cell? (μ d c)=some b):a.setCell (μ d c) b=a:=by
 have l:e[c]?=some b:=by rw[Yu _ _ _ _ _ _ h]at j;exact j
 have n:e.setIfInBounds c b=e:=by
  apply Array.ext
  .simp
  .intro g o p;rw[Array.getElem_setIfInBounds]
   .split
    .rename_i f;subst f;exact((YU.1 l).2).symm
    .rfl
 have m:(a.setCell (μ d c) b).heap=a.heap:=by
  apply ZS;intro g;by_cases k:g=d
  .subst k;rw[YB a g c e i b h,n,h]
  .exact Yp a _ _ b (by simpa using k)
 have f:a.setCell (μ d c) b={a with heap:=(a.setCell (μ d c) b).heap}:=rfl;rw[f,m]
def A9(c:b_)(a b e d:Nat)(q:b≠e)(r:b≠d)(i g f h:f_):(((c.setCell (μ a b) i).setCell (μ a e) g).setCell (μ a d) f).setCell (μ a b) h=((c.setCell (μ a e) g).setCell (μ a d) f).setCell (μ a b) h:=by
 have o:((((c.setCell (μ a b) i).setCell (μ a e) g).setCell (μ a d) f).setCell (μ a b) h).heap=(((c.setCell (μ a e) g).setCell (μ a d) f).setCell (μ a b) h).heap:=by
  apply ZS;intro n;simp only[World.setCell,aaM];by_cases k:a=n
  .subst k;simp only[Y_]
   cases s:c.heap[a]? with
   |none=>simp
   |some m=>
    cases m<;>simp
    apply ZS;intro p;simp only[Y6,Y3];by_cases j:b=p
    .subst j;simp
    .simp[j]
  .simp[k]
 have l:∀t:b_,(((c.setCell (μ a b) i).setCell (μ a e) g).setCell (μ a d) f).setCell (μ a b) h={c with heap:=((((c.setCell (μ a b) i).setCell (μ a e) g).setCell (μ a d) f).setCell (μ a b) h).heap}:=λ_=>rfl;rw[l c,o];rfl
def K0(g i j a d:Nat)(l:List Sv)(e c:Sv)(b:b_)(M:b.ownsRow g 163 3 (.slice (some (μ a 0)) l.length d) l.length<|l.flatMap lU)(hx:l[i]?=some e)(ax:l[j]?=some c)(z:i≠j):
 Calls prog 195 #[.slice (some (μ a 0)) l.length d,ν i,ν j] b λn m=>n=.returned (.tuple #[])/\m.ownsRow g 163 3 (.slice (some (μ a 0)) l.length d) l.length (((l.set i c).set j e).flatMap lU)/\kf a b m:=by
 let⟨I,w,h,_,t,B,x⟩:=o8 M hx;let⟨C,J,f,_,b0,E,A⟩:=o8 M ax;simp only[YN,Yz,ZP,aab,ZV]at h f;obtain⟨rfl,rfl⟩:=h;obtain⟨rfl,rfl⟩:=f;refine QV ?_;intro hi hj ep ff;have v:=KZ M;have s:=h_ M;have P:j*3≠i*3:=om;have y:j*3≠i*3+1:=om;have D:j*3≠i*3+2:=om;have u:j*3+1≠i*3:=om;have K:j*3+1≠i*3+1:=om;have N:j*3+1≠i*3+2:=om;have F:j*3+2≠i*3:=om;have O:j*3+2≠i*3+1:=om;have L:j*3+2≠i*3+2:=om;clear M hx ax
 go_enter func195,ntmps195
 go_wp2_with fail
 go_region
 go_end0
 refine⟨rfl,?_,?_⟩
 .have r:=GJ c s rfl rfl hi;have o:=GJ e r si rfl (by simpa using hj);exact xY o
 .exact(((((((kf.refl a b).setCell ..).setCell ..).setCell ..).setCell ..).setCell ..).setCell ..).drew
def EL(r a l:Nat)(g:List Sv)(j:Sv)(h:b_)(i:h.ownsRow r 163 3 (.slice (some (μ a 0)) g.length l) g.length<|g.flatMap lU)(m:g[0]?=some j):
 Calls prog 195 #[.slice (some (μ a 0)) g.length l,ν 0,ν 0] h λu t=>u=.returned (.tuple #[])/\t.ownsRow r 163 3 (.slice (some (μ a 0)) g.length l) g.length (g.flatMap lU)/\kf a h t:=by
 let⟨B,y,s,_,o,q,p⟩:=o8 i m;simp only[YN,Yz,ZP,aab,ZV]at s;obtain⟨rfl,rfl⟩:=s;have A:=(Yr.1 m).1;have D:(0:Int)<(g.length:Int):=om;have x:=KZ i;have v:=h_ i;let⟨z,k⟩:=jU i a rfl;rw[show 0*3=0 from rfl]at o q p;have n:Hid<|h.setCell (μ a 0) (ν j.1)=h/\h.setCell (μ a 1) (ν j.2.1)=h/\h.setCell (μ a 2) (.string j.2.2)=h:=⟨xZ k o,xZ k q,xZ k p⟩;have E:∀(d:b_) (f e c b:f_),(((d.setCell (μ a 0) f).setCell (μ a 1) e).setCell (μ a 2) c).setCell (μ a 0) b=((d.setCell (μ a 1) e).setCell (μ a 2) c).setCell (μ a 0) b:=λd f e c b=>A9 d a 0 1 2 om om f e c b;have C:∀(d:b_) (f e c b:f_),(((d.setCell (μ a 1) f).setCell (μ a 2) e).setCell (μ a 0) c).setCell (μ a 1) b=((d.setCell (μ a 2) e).setCell (μ a 0) c).setCell (μ a 1) b:=λd f e c b=>A9 d a 1 2 0 om om f e c b;have w:∀(d:b_) (f e c b:f_),(((d.setCell (μ a 2) f).setCell (μ a 0) e).setCell (μ a 1) c).setCell (μ a 2) b=((d.setCell (μ a 0) e).setCell (μ a 1) c).setCell (μ a 2) b:=λd f e c b=>A9 d a 2 0 1 om om f e c b;clear i m k
 go_enter func195,ntmps195
 go_wp2_with fail
 go_region
 go_end0
 rw[n.o.1,n.o.2.1,n.o.2.2];exact⟨rfl,xY v,(kf.refl a h).drew⟩
section
variable {O:Nat->Bool}
def HW{i:b_}{g d b h:Nat}{a:List Sv}{c:Sv}(o:i.ownsRow g 163 3 (.slice (some (μ d 0)) (a++[c]).length b) (a++[c]).length<|(a++[c]).flatMap lU)(m:a.length=h):i.ownsRow g 163 3 (.slice (some (μ d 0)) h b) a.length (a.flatMap lU):=by
 refine⟨mn lU 3 (λ_=>rfl) a,?_⟩;rcases o.2 with⟨p,_⟩|⟨u,t,k,f,q,n,l,r,s,j⟩
 .simp at p
 .simp only[YN,Yz,ZP,ZV,aab]at f;obtain⟨rfl,rfl⟩:=f;rw[Yv]at l j;refine .inr ⟨d,b,k,by rw[m],q,n,om,r,s,?_⟩;have e:=ZD (List.take<|a.length*3) j;rw[List.take_take,Z8 om,YX,List.take_append_of_le_length (by rw[mn lU 3 (λ_=>rfl) a];omega)]at e;rw[e,Zf (by rw[mn lU 3 (λ_=>rfl) a];omega)]
def z7{j:Nat}(d e:Nat)(l:Array f_)(t:f_)(h:List Sv)(b:Sv)(g:b_)(f:h.length=e)(P:e<=1000)(a:ky O j g d l t<|h++[b]):
 Calls prog 196 #[.pointer<|some (μ d 14)] g λo n=>∃k,o=.returned (.iface 163<|.agg #[ν b.1,ν b.2.1,.string b.2.2])/\ky O j n d (l.setIfInBounds 14 k) k h/\lC j (uZ O d) g n:=by
 have w:=a.cell;have f14:=a.fz;have E:=Yn a.dev;obtain⟨K,p,rfl,B,x,A,z⟩:=o8 a.own (i:=e) (x:=b) (by rw[<-f];simp);have m:(h++[b]).length=e+1:=by rw[Yv,f];rfl
 have D:e+1<=p:=by
  rcases a.own.2 with⟨v,_⟩|⟨C,L,y,q,Q,N,M,F,J,I⟩
  .simp at v
  .simp only[YN]at q;omega
 rw[m]at w;have c:=h_ a;have s:=h_<|HW a.own f;clear a f m
 go_enter func196,ntmps196
 go_wp2_with fail
 go_ret;refine⟨_,rfl,(ky.set c.o.dev c.o.size c.o.lo s ⟨λu r=>c.o.ow.own u r,c.o.ow.new⟩).below<|jT br _,?_⟩;exact((lC.refl (uZ O d) g).setCell c.o.dev (KW _) c.o.lo ..).alloc _
def WN(d:String)(e:g_)(n:((prog.info? 160).bind λg=>(g.methods.find? (·.name==d)).map λb=>(b.path.toList.isEmpty,b.func))=some (true,some (e,false)))(c:Addr)(f:f_)(a:b_)(l:(loadVar 108 c).run prog a=.ok f a):
 (method 372 160 (.pointer<|some c) d).run prog a=.ok (e,f) a:=by
 let⟨g,i,q⟩:=Zg.1 n;let⟨b,p,r⟩:=Zk.1 q;let⟨k,o⟩:=Prod.mk.inj r;have s:=acb.1 k;have t:=Array.toList_eq_nil_iff.1 s;have j:=Zm underlying160 a;have m:∀h:String,(Builtin.ssaWrapNilChk_ #[160] 160 #[.pointer<|some c,strVal "",strVal h]).run prog a=.ok (.pointer<|some c) a:=λh=>rfl;unfold method;simp[typeInfo,i,p,t,follow,o,receiverAt,j,Place.get,m,asAddr,l,Result.andThen]
def EM(c:String)(b:g_)(i:((prog.info? 160).bind λI=>(I.methods.find? (·.name==c)).map λm=>(m.path.toList.isEmpty,m.func))=some (true,some (b,false)))(d g e:Nat)(f:Option Addr)(a:b_)(h:a.cell? (μ d 14)=some (.slice f g e)):
 (method 372 160 (.pointer<|some (μ d 14)) c).run prog a=.ok (b,.slice f g e) a:=WN c b i _ _ a (by simp[go_sem,loadVar,h])
def EN(b e c:Nat)(d:Option Addr)(a:b_)(f:a.cell? (μ b 14)=some (.slice d e c)):(method 372 160 (.pointer<|some (μ b 14)) "Len").run prog a=.ok (88,.slice d e c) a:=EM "Len" 88 kr b e c d a f
def xC(b e c:Nat)(d:Option Addr)(a:b_)(f:a.cell? (μ b 14)=some (.slice d e c)):(method 372 160 (.pointer<|some (μ b 14)) "Less").run prog a=.ok (194,.slice d e c) a:=EM "Less" 194 kr b e c d a f
def uA(b e c:Nat)(d:Option Addr)(a:b_)(f:a.cell? (μ b 14)=some (.slice d e c)):(method 372 160 (.pointer<|some (μ b 14)) "Swap").run prog a=.ok (195,.slice d e c) a:=EM "Swap" 195 kr b e c d a f
def Oc(b:Option Addr)(a:b_):(method 372 160 (.pointer b) "Push").run prog a=.ok (197,.pointer b) a:=kr
def K1(b:Option Addr)(a:b_):(method 372 160 (.pointer b) "Pop").run prog a=.ok (196,.pointer b) a:=kr
def Od(b h c:Nat)(e:Option Addr)(a:b_)(i:a.cell? (μ b 14)=some (.slice e h c)):
 Calls prog 169 #[.iface 160<|.pointer<|some (μ b 14),ν 0] a λd g=>d=.returned (.tuple #[])/\g=a:=by
 go_enter func169,ntmps169
 go_wp2_with fail
 go_loopw [1] (λf wr=>f=ν 0/\wr=a) (λ_ _=>0)
 case atStart=>exact⟨rfl,rfl⟩
 case round=>
  obtain⟨rfl,rfl⟩:=hrel
  go_wp2_with fail
  go_end0
  exact⟨rfl,rfl⟩
def Th(f a m:Nat)(j:f_)(c:List Sv)(h i:Sv)(b:b_)(t:b.cell? (μ f 14)=some j)(e:b.ownsRow m 163 3 j c.length<|c.flatMap lU)(o:c[a+1]?=some h)(l:c[a/2]?=some i)(q:decide (h.1<i.1)=false)(z:a<=100000):
 Calls prog 169 #[.iface 160<|.pointer<|some (μ f 14),ν<|(a:Int)+1] b λk w=>k=.returned (.tuple #[])/\∃d,w=b.drewN d:=by
 have g:=z6 m (a+1) (a/2) j c h i false b e o l q;obtain⟨s,r,rfl,_⟩:=i_ e;have x:=xC f c.length r s b t;have A:((a:Int)/2==(a:Int)+1)=false:=nU;have p:((a+1:Nat):Int)=(a:Int)+1:=om;have n:((a/2:Nat):Int)=(a:Int)/2:=om;rw[p,n]at g;have v:=h_ g;clear g o l q e p n
 go_enter func169,ntmps169
 go_wp2_with fail
 go_loopw [1] (λu wr=>u=ν ((a:Int)+1)/\wr=b) (λ_ _=>0)
 case atStart=>exact⟨rfl,rfl⟩
 case round=>
  obtain⟨rfl,rfl⟩:=hrel
  go_wp2_with fail
  apply v.o.mono;rintro k y ⟨rfl,d,rfl⟩
  go_wp2_with fail
  go_end0
  exact⟨rfl,d,rfl⟩
def Oe{h:Nat}(f:Nat)(p:Array f_)(i:f_)(a:List Sv)(d:Sv)(e:b_)(t:a.length<=1000)(c:ky O h e f p i<|a++[d])(q:∀s∈a,s.1<d.1):
 Calls prog 169 #[.iface 160<|.pointer<|some (μ f 14),ν a.length] e λg j=>g=.returned (.tuple #[])/\∃o,j=e.drewN o:=by
 cases n:a.length with
 |zero=>obtain⟨l,k,rfl,_⟩:=i_ c.own;exact(Od f _ k l e c.cell).mono λg j c=>⟨c.1,0,c.2⟩
 |succ b=>
  have m:(a++[d])[b+1]?=some d:=by rw[<-n];simp
  have r:(a++[d])[b/2]?=some a[b/2]:=by rw[YK om];exact Yw om
  have u:=q a[b/2]<|aan om;have:=Th f b h i (a++[d]) d _ e c.cell c.own m r so om;rwa[show((b+1:Nat):Int)=(b:Int)+1 by omega]
def ky.drewN{c a:Nat}{b:b_}{e:Array f_}{d:f_}{f:List Sv}(h:ky O c b a e d f)(g:Nat):ky O c (b.drewN g) a e d f:=h.below (YL br _)
def A_{i:Nat}(a:Nat)(h:Array f_)(n:f_)(c:List Sv)(b:Sv)(f:b_)(m:c.length<=1000)(j:ky O i f a h n c)(q:∀x∈c,x.1<b.1):
 Calls prog 146 #[.iface 160<|.pointer<|some (μ a 14),.iface 163<|.agg #[ν b.1,ν b.2.1,.string b.2.2]] f λd r=>∃g,d=.returned (.tuple #[])/\ky O i r a (h.setIfInBounds 14 g) g (c++[b])/\lC i (uZ O a) f r:=by
 have C:=Oc<|some (μ a 14);have v:=h_ q;have y:=h_ j;clear q j
 go_enter func146,ntmps146
 go_wp2_with fail
 refine(HV a h n c b f m y).mono ?_;rintro d u ⟨g,rfl,e,l⟩;obtain⟨t,s,p,_⟩:=i_ e.own;rw[Yv]at p;have w:=e.cell;have k:=h_ e;have z:=h_ l;clear e l;subst p;have A:=EN a _ s t u w
 go_wp2_with fail
 refine(r5 _ _ _ _).mono ?_;rintro d D ⟨rfl,rfl⟩
 go_wp2_with fail
 refine(Oe a _ _ c b _ m k v).mono ?_;rintro d B ⟨rfl,o,rfl⟩;go_wp2
 go_end0
 exact⟨_,rfl,k.o.drewN o,z.o.drewN o⟩
def K2{c:Nat}(b:Nat)(g:Array f_)(j:f_)(d:List Sv)(a:Sv)(e:b_)(o:d.length<=1000)(m:ky O c e b g j d)(l:∀s∈d,s.1<a.1):
 Calls prog 117 #[.pointer<|some (μ b 14),.agg #[ν a.1,ν a.2.1,.string a.2.2]] e λh n=>∃f,h=.returned (.tuple #[])/\ky O c n b (g.setIfInBounds 14 f) f (d++[a])/\lC c (uZ O b) e n:=by
 have t:=h_<|m.below<|jT br (.cells #[ν a.1,ν a.2.1,.string a.2.2] 163);have q:=h_<|(lC.refl (B:=c) (uZ O b) e).alloc<|.cells #[ν a.1,ν a.2.1,.string a.2.2] 163;have p:=h_ l;clear l m
 go_enter func117,ntmps117
 go_wp2_with fail
 refine(A_ b g j d a _ o t p).mono ?_;rintro h v ⟨f,rfl,k,i⟩;have r:=h_ k;have u:=h_<|q.o.trans i;clear k i;go_wp2
 go_end0
 exact⟨_,rfl,r,u⟩
end
section
variable {O:Nat->Bool}
def HY(d:f_)(a:Int)(b:b_)(h:a<=1):
 Calls prog 119 #[.iface 160 d,ν 0,ν a] b λc f=>c=.returned (.bool false)/\f=b:=by
 have g:decide ((1:Int)>=a)=true:=so
 go_enter func119,ntmps119
 go_wp2_with fail
 go_loopw [7] (λe wr=>e=ν 0/\wr=b) (λ_ _=>0)
 case atStart=>exact⟨rfl,rfl⟩
 case round=>
  obtain⟨rfl,rfl⟩:=hrel
  go_wp2_with fail
  go_ret;exact⟨rfl,rfl⟩
def ky.uB{e g d i:Nat}{j h:b_}{l:Array f_}{c k:List Sv}(a:ky O e j g l (.slice (some (μ d 0)) c.length i) c)(q:c.length=k.length)(p:h.ownsRow e 163 3 (.slice (some (μ d 0)) c.length i) c.length<|k.flatMap lU)(b:kf d j h):
 ky O e h g l (.slice (some (μ d 0)) c.length i) k/\lC e (uZ O g) j h:=by
 obtain⟨x,n⟩:=jU a.own d rfl;refine⟨⟨(b.block g (Yn a.dev)<|kg a.dev n dc).trans a.dev,a.size,a.KX,by rw[<-q];exact p,a.lo,a.ow.grow b.size⟩,?_⟩;exact⟨b.os,b.tape,b.output,b.size,λf v u m t=>b.block f (Yn m) (λo=>by subst o;have r:=oM m n;subst r;simp[uZ,a.ow.own f rfl]at t),λf w s=>b.block f s<|li<|(a.own.lt d rfl).1⟩
def Cx{f:Nat}(b:Nat)(j:Array f_)(x:f_)(a:Sv)(c:b_)(e:ky O f c b j x [a]):
 Calls prog 89 #[.iface 160<|.pointer<|some (μ b 14)] c λd n=>∃h,d=.returned (.iface 163<|.agg #[ν a.1,ν a.2.1,.string a.2.2])/\ky O f n b (j.setIfInBounds 14 h) h []/\lC f (uZ O b) c n:=by
 obtain⟨u,g,rfl,E,_,_,_⟩:=o8 e.own (i:=0) (x:=a) rfl;have k:=e.cell;have v:=EN b _ g _ c k;have s:=uA b _ g _ c k;have w:=h_<|EL f u g [a] a c e.own rfl;have z:=h_ e;clear e
 go_enter func89,ntmps89
 go_wp2_with fail
 refine(r5 _ _ _ _).mono ?_;rintro d D ⟨rfl,rfl⟩
 go_wp2_with fail
 refine w.o.mono ?_;rintro d I ⟨rfl,l,o⟩;obtain⟨p,q⟩:=z.o.uB rfl l o;have t:=h_ p;have B:=h_ q;clear l o p q v s k
 go_wp2_with fail
 refine(HY _ _ _ dc).mono ?_;rintro d J ⟨rfl,rfl⟩;have F:=K1<|some (μ b 14)
 go_wp2_with fail
 refine(z7 b 0 j _ [] a _ rfl om t.o).mono ?_;rintro d C ⟨h,rfl,m,r⟩;have A:=h_ m;have y:=h_<|B.o.trans r;clear m r;go_wp2;go_ret;exact⟨_,rfl,A.o,y.o⟩
end
section
variable {O:Nat->Bool}
def lC.sL{i:Nat}{l:Nat->d_->Bool}{e k n:b_}{h:Option Nat}(a:lC i l e k)(c:k.grownBy n h)(g:∀j,h=some j->e.heap.size<=j):lC i l e n:=
 ⟨c.os.trans a.os,c.tape.trans a.tape,c.output.trans a.output,YH a.size c.size,λb q o f r=>(c.block b (Yy (Yn f) a.size) (λd=>by have:=g b d.symm;have:=Yn f;omega)).trans<|a.keep b q o f r,λb p m=>(c.block b (Yy m a.size) (λd=>by have:=g b d.symm;omega)).trans<|a.low b p m⟩
def kS(a:Sv):Ac:=(2,0,a.2.1,a.2.2)
def z_(a:Sv)(b:b_):
 Calls prog 90 #[.agg #[ν a.1,ν a.2.1,.string a.2.2]] b λc d=>c=.returned (.agg #[.int .u8 2,ν 0,ν a.2.1,.string a.2.2])/\Below b.heap.size b d:=by
 go_enter func90,ntmps90
 go_wp2;refine Yx (v:=.agg #[.int .u8 2,ν 0,ν a.2.1,.string a.2.2]) (by simp[results,results90,go_sem]) rfl ⟨rfl,?_⟩;exact jT (jT br _) _
def sliceLen:f_->Nat
 |.slice _ a _=>a
 |_=>0
def Ti(O:Nat->Bool)(d a:Nat)(f:List Sv->List Sv->Prop):Prop:=
 ∀(i e:List Sv) (b:Sv) (h:Array f_) (m:f_) (c:b_),f i (b::e)->ky O d c a h m i->
  Calls prog 89 #[.iface 160<|.pointer<|some (μ a 14)] c λl j=>∃g k,l=.returned (.iface 163<|.agg #[ν b.1,ν b.2.1,.string b.2.2])/\f k e/\ky O d j a (h.setIfInBounds 14 g) g k/\lC d (uZ O a) c j
def Yk(b a:List Sv):Prop:=b=a/\a.length<=2
def Cy{r:Nat}(e:Nat)(u:List Sv->List Sv->Prop)(Z:∀q a,u q a->q.length=a.length)(Y:Ti O r e u)(y:Array f_)(P:f_)(q a:List Sv)(m:b_)(aR:a.length<=1000)(N:u q a)(l:ky O r m e y P q):
 Calls prog 60 #[.pointer<|some (μ e 14)] m λd A=>∃o,d=.returned o/\A.ownsRow m.heap.size 77 4 o a.length ((a.map kS).flatMap ku)/\ky O r A e (y.setIfInBounds 14 σ) σ []/\lC r (uZ O e) m A:=by
 obtain⟨ag,au,aB,ao,aD⟩:=Y4 Tryz.po;have aj:=h_ Y;have av:=h_ Z;have ap:=h_ N;have ar:=h_ l;clear Y Z N l
 go_enter func60,ntmps60
 go_wp2_with fail
 go_loopw [3] (λo wr=>∃(i c f:List Sv) (Q:f_) (x:Array f_),a=i++c/\u f c/\wr.ownsRow m.heap.size 77 4 o i.length ((i.map kS).flatMap ku)/\ky O r wr e x Q f/\x.setIfInBounds 14 σ=y.setIfInBounds 14 σ/\lC r (uZ O e) m wr) (λo _=>a.length-sliceLen o)
 case atStart=>exact⟨[],a,q,P,y,rfl,ap.o,Yq _ _ _ _,ar.o,rfl,lC.refl _ _⟩
 case round=>
  obtain⟨i,c,f,Q,x,J,I,E,l,W,B⟩:=hrel;obtain⟨aP,aL,rfl,_⟩:=i_ l.own;obtain⟨aq,ah,rfl,_⟩:=i_ E;have S:=av.o f c I;have aC:=l.cell;have f14:=l.fz;have p:=h_ E;have g:=h_ l;have ab:=h_ W;have T:=h_ B;have R:=h_ I;have K:=h_ J;have aE:=B.size;have aH:i.length+c.length=a.length:=by rw[J,Yv]
  clear E l W B I J
  cases c with
  |nil=>
   have ay:f.length=0:=S;have al:f=[]:=YV ay;subst al;have ak:decide ((0:Int)<((([]:List Sv).length:Nat):Int))=false:=rfl
   go_wp2_with fail
   refine(r5 _ _ _ _).mono ?_;rintro d af ⟨rfl,rfl⟩
   go_wp2_with fail
   go_ret;have az:a=i:=by have:=K.o;rwa[Zy]at this
   refine⟨_,rfl,?_,?_,T.o.setCell g.o.dev (KW _) g.o.lo _ _⟩
   .rw[az];refine jV p.o (λb h=>Yp _ _ _ _ (by have:=(p.o.lt b h).1;obtain⟨w,n⟩:=jU p.o b h;exact kg n g.o.dev dc))
   .have:=ky.set g.o.dev g.o.size g.o.lo (v:=σ) (l':=[]) uY ⟨λb h=>(by cases h),g.o.ow.new⟩;rw[ab.o]at this;exact this
  |cons k c=>
   have aK:f.length=c.length+1:=S;have ak:decide ((0:Int)<(f.length:Int))=true:=so;have aG:=z2 k
   go_wp2_with fail
   refine(r5 _ _ _ _).mono ?_;rintro d af ⟨rfl,rfl⟩
   go_wp2_with fail
   refine(aj.o f c k x _ _ R.o g.o).mono ?_;rintro d am ⟨ad,ax,rfl,U,M,D⟩;have aw:=h_ U;have L:=h_ M;have F:=h_<|T.o.trans D;have V:=h_ (jV (w':=am) p.o (λb h=>by obtain⟨w,n⟩:=jU p.o b h;exact D.keep b w 77 n rfl));have aQ:=F.o.size;clear U M D R g p aC f14
   go_wp2_with fail
   refine(z_ k _).mono ?_;rintro d v ⟨rfl,t⟩;have C:=h_<|L.o.below t;have ac:=h_<|F.o.kt t;have s:=h_<|jY V.o t;have aI:=ac.o.size;clear t L F V
   go_wp2_with (at_builtin;refine Zl _ rfl (.tmp 9) (.tmp 15) 31 rfl m.heap.size 77 ag _ 4 40 underlying31 au aB ao aD rfl dc (.slice aq i.length ah) i.length _ rfl (s.o.alloc _) (μ v.heap.size 0) 1 1 [.int .u8 2,ν 0,ν k.2.1,.string k.2.2] rfl rfl (lR _ _ _ _ _ _) (by intro aS X;simp at X;rcases X with rfl|rfl|rfl|rfl<;>rfl) ml om so ?_;intro aN aM aa z _;obtain⟨aJ,aO,rfl,_⟩:=i_ aa)
   go_roundw
   case rel=>
    have ae:Below v.heap.size v<|v.alloc<|.cells #[.int .u8 2,ν 0,ν k.2.1,.string k.2.2] 77:=jT br _;have j:=C.o.below ae;refine⟨i++[k],c,ax,ad,_,by rw[K.o];simp,aw.o,?_,⟨?_,j.size,j.KX,jV j.own λb h=>z.block b (j.own.lt b h).2 ?_,j.lo,j.ow.grow z.size⟩,?_,?_⟩
    .rw[ZI,YX,Yv];exact aa
    .rw[z.block e (Yn j.dev) (λd=>by have:=(s.o.lt e d.symm).1;obtain⟨w,n⟩:=jU s.o e d.symm;exact kg n C.o.dev dc rfl)];exact j.dev
    .intro d;obtain⟨w,n⟩:=jU s.o b d.symm;obtain⟨aF,aA⟩:=jU C.o.own b h;exact kg n aA dc rfl
    .rw[<-ab.o];simp
    .exact(ac.o.alloc _).sL z (λan ai=>(s.o.lt an ai).1)
   case measure=>simp[sliceLen];omega
end
def ue(b d e c a:Nat):Nat:=if a=0 then b else if a=1 then d else if a=2 then e else c
def Vx(c d a b q:Nat)(e:q<4)(W:b_):(Instr.index 37 (.agg #[ν c,ν d,ν a,ν b])<|ν q).run prog W=.ok (ν<|ue c d a b q) W:=by exact Q0
def xL(d e b c f a:Nat)(h:d<=a)(i:e<=a)(j:b<=a)(g:c<=a):ue d e b c f<=a:=by
 unfold ue;split<;>try split<;>try split
 all_goals omega
def vh(g b d e c f a:Nat):f_:=if a<4 then(if a<f then ω (g+3+a) (ue b d e c a) (ue b d e c a)else σ)else ν 0
structure z'(w wr:b_)(s0 s1 s2 s3 q:Nat)(cfg:Array f_):Prop where
 kA:kE wr (w.heap.size+2) 104 8 1 (λi _=>vh w.heap.size s0 s1 s2 s3 q i)
 ent:∀i,i<q->kE wr (w.heap.size+3+i) 3 (ue s0 s1 s2 s3 i) 1 (λ_ _=>ν 0)
 size:wr.heap.size=w.heap.size+3+q
 cfg:wr.heap[w.heap.size]?=some (.cells cfg 39)
 res:kE wr (w.heap.size+1) 104 8 1 (λi _=>vh w.heap.size s0 s1 s2 s3 0 i)
 nD:Below w.heap.size w wr
def Aa(c:b_)(d:d_)(e h g l i f k j:f_)(b:Nat->f_)(u:b 0=e)(n:b 1=h)(t:b 2=g)(w:b 3=l)(v:b 4=i)(p:b 5=f)(r:b 6=k)(s:b 7=j):
 kE (c.alloc<|.cells #[e,h,g,l,i,f,k,j] d) c.heap.size d 8 1 (λa _=>b a):=by
 refine⟨_,YO c _,rfl,λa m q o=>?_⟩;obtain rfl:m=0:=om;rcases(show a=0\/a=1\/a=2\/a=3\/a=4\/a=5\/a=6\/a=7 by omega)with rfl|rfl|rfl|rfl|rfl|rfl|rfl|rfl<;>simp[*]
def Cz(w:b_)(b d a c h M l j:Nat)(i:f_):∃o,o=(((w.alloc<|.cells #[ν b,ν d,ν a,ν c,ν h,ν M,ν l,i,ν j] 39).alloc<|.cells #[σ,σ,σ,σ,ν 0,ν 0,ν 0,ν 0] 104).alloc<|.cells #[σ,σ,σ,σ,ν 0,ν 0,ν 0,ν 0] 104)/\
 z' w o b d a c 0 #[ν b,ν d,ν a,ν c,ν h,ν M,ν l,i,ν j]:=by
 refine⟨_,rfl,?_⟩;obtain⟨X,ae⟩:=j5<|w.alloc<|.cells #[ν b,ν d,ν a,ν c,ν h,ν M,ν l,i,ν j] 39;refine HD ?_;intro bH;have m:=ba ae;have r:=v' ae;rw[<-ae];obtain⟨e,g⟩:=j5<|X.alloc<|.cells #[σ,σ,σ,σ,ν 0,ν 0,ν 0,ν 0] 104;have v:e.heap.size=w.heap.size+2:=by rw[g];simp;omega
 have n:Below w.heap.size w e:=by rw[g];exact m.alloc m.size _
 have u:e.heap[w.heap.size]?=X.heap[w.heap.size]?:=by rw[g];exact YQ X _ om
 have t:kE e (w.heap.size+1) 104 8 1 λf _=>vh w.heap.size b d a c 0 f:=by rw[g,<-bH];exact Aa X 104 _ _ _ _ _ _ _ _ (λf=>vh w.heap.size b d a c 0 f) rfl rfl rfl rfl rfl rfl rfl rfl
 rw[<-g];refine⟨?_,λf s=>absurd s (Zh _),so,?_,t.alloc _,n.alloc n.size _⟩
 .rw[<-v];exact Aa e 104 _ _ _ _ _ _ _ _ (λf=>vh w.heap.size b d a c 0 f) rfl rfl rfl rfl rfl rfl rfl rfl
 .rw[YQ e _ om,u];exact r
def Ab(b:b_)(a:Nat):kE (b.alloc<|.cells (madeCells #[ν 0] a) 3) b.heap.size 3 a 1 (λ_ _=>ν 0):=by have:=vf b #[ν 0] a 1 3 rfl;rw[YS]at this;exact this.congr λd c _ e=>by obtain rfl:c=0:=om;rfl
def z'.step{h wr:b_}{c e b d a:Nat}{k:Array f_}(g:z' h wr c e b d a k)(m:a<4):
 z' h ((wr.alloc<|.cells (madeCells #[ν 0]<|ue c e b d a) 3).setCell (μ (h.heap.size+2) a)<|ω (h.heap.size+3+a) (ue c e b d a)<|ue c e b d a) c e b d (a+1) k:=by
 have l:=g.size;refine⟨?_,λf n=>?_,so,?_,(g.res.alloc _).lL _ om _,?_⟩
 .have:=(g.kA.alloc<|.cells (madeCells #[ν 0]<|ue c e b d a) 3).set (i:=a) (j:=0) om om (ω (h.heap.size+3+a) (ue c e b d a)<|ue c e b d a);rw[YS,YE]at this;refine this.congr λf j n p=>?_;obtain rfl:j=0:=om;by_cases i:f=a
  .subst i;simp[vh,m]
  .have o:(f<a+1)=(f<a):=by apply propext;omega
   simp[vh,i,o]
 .by_cases i:f=a
  .subst i;have:=Ab wr (ue c e b d f);rw[l]at this;exact this.lL _ om _
  .exact((g.ent f om).alloc _).lL _ om _
 .rw[Yp _ _ _ _ si,YQ wr _ om];exact g.cfg
 .exact(g.nD.alloc g.nD.size _).setCell si _
def HZ{b wr:b_}{i k h j:Nat}{o:Array f_}(m:z' b wr i k h j 4 o)(c e:Nat):
 kE ((wr.setCell (μ (b.heap.size+1+1) 4)<|ν c).setCell (μ (b.heap.size+1+1) 6)<|ν e) (b.heap.size+2) 104 8 1 (λa _=>if a=4 then ν c else if a=6 then ν e else vh b.heap.size i k h j 4 a):=by
 have l:=m.kA.set (i:=4) (j:=0) om om (ν c);have n:=l.set (i:=6) (j:=0) om om (ν e);refine n.congr λa d q p=>?_;obtain rfl:d=0:=om;by_cases g:a=4
 .subst g;simp
 .by_cases f:a=6
  .subst f;simp
  .simp[g,f]
structure Og(g:Nat)(w w':b_):Prop where
 os:w'.os=w.os
 tape:w'.tape=w.tape
 output:w'.output=w.output
 size:w'.heap.size=w.heap.size
 block:∀k,k≠g->w'.heap[k]?=w.heap[k]?
def Og.refl(b:Nat)(a:b_):Og b a a:=⟨rfl,rfl,rfl,rfl,λ_ _=>rfl⟩
def Og.setRow(b:Nat)(a:b_)(c:Array f_):Og b a (a.setRow b c):=⟨rfl,rfl,rfl,by simp[World.setRow],λd e=>abD a b d c e⟩
def Og.below{e B:Nat}{b d c:b_}(a:Og e b d)(f:Below B c b)(i:B<=e):Below B c d:=
 f.trans ⟨a.os,a.tape,a.output,by rw[a.size];exact YC _,λg h=>a.block g om⟩
def qm{d:e_}{J:Array Oper}{c:Oper}{e:Act}{b:b_}{z:Act->b_->Prop}{N:Exit->Act->b_->Prop}{S:Prop}(P:c.guard=none)(B C:Operand)(m p:d_)
 (x:c.op=.call {callee:=.builtin .copy,args:=#[B,C],argTypes:=#[m,p]}) (n:d_) (E:d.underlying m=some (.slice n)) (y:(d.info? n).map (·.size)=some 1)
 (q w:Option Addr) (l r g v:Nat) (D:e.eval B=.slice q l r) (K:e.eval C=.slice w g v)
 (f j:Nat) (h:List f_) (k:d_) (s:b.heap[f]?=some (.cells h.toArray k)) (a:List f_) (F:a.length=Nat.min g l)
 (L:0<a.length->q=some (μ f j)/\∃i,w=some i/\∀I o,a[I]?=some o->b.cell? (i.add I)=some o)
 (R:j+a.length<=h.length) (O:∀o∈a,o.oneCell'=true)
 (A:∀u,Hid (u.heap[f]?=some (.cells (splice h j a).toArray k (0,0)))->Og f b u->z (e.put c.dst<|goInt a.length) u):
 if Region.wanted c (yielded J e.tmps)=true then Oper.wp d c e b z N else S:=by
 have Q:Region.wanted c (yielded J e.tmps)=true:=by simp[Region.wanted,P]
 rw[Ys Q];by_cases M:a.length=0
 .obtain rfl:a=[]:=YV M;have t:=run_copy_none (P:=d) b m p c.type n q w l r g v E y (by simpa using F.symm);unfold Oper.wp;simp[execOp,x,resolve,invoke,builtin,D,K,t,Result.andThen];exact A b (show _=_ by simpa[splice]using s)<|Og.refl _ _
 .obtain⟨rfl,i,rfl,T⟩:=L om;have t:=run_copy_row (P:=d) b m p c.type n f j l r i g v h.toArray k a E y s F T (by simpa using R) O;unfold Oper.wp;simp[execOp,x,resolve,invoke,builtin,D,K,t,Result.andThen];exact A _ (show _=_ by simpa[splice]using aae b f _ _ k _ s) (Og.setRow _ _ _)
def Tryz.Bb:(prog.info? 3).map (·.size)=some 1:=kr
def Oh(a b:f_)(c:b_):(callFunc 98 #[a,b]).run prog c=.ok (.enter 98 #[a,b]) c:=kr
def Oi(a:f_)(b:b_):(callFunc 99 #[a]).run prog b=.ok (.enter 99 #[a]) b:=kr
def Oj(a:f_)(b:b_):(callFunc 97 #[a]).run prog b=.ok (.enter 97 #[a]) b:=kr
def Bc{l:b_}{r d n:Nat}{e:d_}{m:Option Addr}{a:List f_}(M:l.ownsRow r e 1 (.slice m d n) d a)(o:0<d):∃h,m=some h/\∀j f,a[j]?=some f->l.cell? (h.add j)=some f:=by
 obtain⟨x,u,i,t⟩:=i_ M;simp only[YN]at i;obtain⟨rfl,_,_⟩:=i;obtain⟨g,rfl,_,s⟩:=t 0 o;refine⟨_,rfl,λj f c=>?_⟩;have v:=M.1
 have w:j<a.length:=by
  rcases Zj j a.length with b|b
  .exact b
  .rw[ZF b]at c;simp at c
 have:=s j om;refine J9 ?_;intro e;rw[e,this,c]
def kx{a b:b_}(c:Below a.drew.heap.size a.drew b):Below a.heap.size a b:=jZ (Below.refl a.heap.size a).drew c
def zm(a c:Nat)(g:c=(a+7)/8)(b:b_)(h:a<=100000):
 Calls prog 97 #[ν a] b λd e=>∃f,d=.returned f/\(f=ν c/\e=b):=by
 refine(wi a c g b h).mono ?_;rintro d e ⟨rfl,rfl⟩;exact⟨_,rfl,rfl,rfl⟩
def Be(d:a_)(a:Nat)(b:b_)(f:d.size/2=a)(g:d.size<=100000):
 Calls prog 99 #[.string d] b λe w'=>∃v,e=.returned v/\∃ad c,v=.slice ad a c/\(w'.ownsRow b.heap.size 3 1 (.slice ad a c) a ((Pl.kJ d 0 a).flatMap ka)/\Below b.heap.size b w'):=by
 refine(tL d a b f g).mono ?_;exact Rq
def sU{h:b_}{c d f e a:Nat}{g:Nat->Nat->f_}(l:kE h c d f e g)(b:c≠a)(i m k q n j p o:f_):kE ((((((((h.setCell (μ a 0) i).setCell (μ a 1) m).setCell (μ a 2) k).setCell (μ a 3) q).setCell (μ a 4) n).setCell (μ a 5) j).setCell (μ a 6) p).setCell (μ a 7) o) c d f e g:=
 (((((((l.lL _ b _).lL _ b _).lL _ b _).lL _ b _).lL _ b _).lL _ b _).lL _ b _).lL _ b _
section
variable {O:Nat->Bool}
abbrev u2:=Sv
def o7(a:List u2)(b:Nat):Int:=(a.getD b (0,0,⟨#[]⟩)).1
def pY(c a:Nat)(b:List u2):Nat:=if 2*a+1+1<c/\o7 b (2*a+1+1)<o7 b (2*a+1)then 2*a+1+1 else 2*a+1
def sa(a:List u2)(c b:Nat):List u2:=(a.set c<|a.getD b (0,0,⟨#[]⟩)).set b (a.getD c (0,0,⟨#[]⟩))
inductive rk (n:Nat):Nat->List u2->List u2->Prop
 |leaf {i:Nat}{l:List u2} (h:n<=2*i+1):rk n i l l
 |stop {i:Nat}{l:List u2} (h:2*i+1<n) (hk:¬o7 l (pY n i l)<o7 l i):rk n i l l
 |step {i:Nat}{l r:List u2} (h:2*i+1<n) (hk:o7 l (pY n i l)<o7 l i) (hr:rk n (pY n i l) (sa l i<|pY n i l) r):rk n i l r
def sN(a:List u2)(b:Nat)(c:b<a.length):a[b]?=some (a.getD b (0,0,⟨#[]⟩)):=by rw[Yt,Yw c];rfl
def Ll{g:Nat}{f:f_}{a:List u2}{d:b_}(m:d.ownsRow g 163 3 f a.length<|a.flatMap lU)(c b:Nat)(l:c<a.length)(j:b<a.length)(e:Bool)(i:decide (o7 a c<o7 a b)=e):
 Calls prog 194 #[f,ν c,ν b] d λh n=>h=.returned (.bool e)/\∃k,n=d.drewN k:=
 z6 g c b f a _ _ e d m (sN a c l) (sN a b j) i
def oN{k:Nat}{g:f_}{a:List u2}{w:b_}(n:w.ownsRow k 163 3 g a.length<|a.flatMap lU)(f e:Int)(c b:Nat)(o:f=(c:Nat))(j:e=(b:Nat))(m:c<a.length)(i:b<a.length)(d:Bool)(p:decide (o7 a c<o7 a b)=d):
 Calls prog 194 #[g,ν f,ν e] w λh q=>h=.returned (.bool d)/\∃l,q=w.drewN l:=by
 subst o j;exact Ll n c b m i d p
def uE{g d e:Nat}{a:List u2}{w:b_}(l:w.ownsRow g 163 3 (.slice (some (μ d 0)) a.length e) a.length<|a.flatMap lU)(h f:Int)(c b:Nat)(o:h=(c:Nat))(m:f=(b:Nat))(k:c<a.length)(j:b<a.length)(n:c≠b):
 Calls prog 195 #[.slice (some (μ d 0)) a.length e,ν h,ν f] w λf i=>f=.returned (.tuple #[])/\i.ownsRow g 163 3 (.slice (some (μ d 0)) a.length e) a.length ((sa a c b).flatMap lU)/\kf d w i:=by
 subst o m;exact K0 g c b d e a _ _ w l (sN a c k) (sN a b j) n
def mN(a:List u2)(c b:Nat):(sa a c b).length=a.length:=by simp[sa]
theorem Lm{B:Nat}(N j n:Nat)(cur:Array f_)(y:f_)(g:List u2)(w:b_)(M:ky O B w N cur y g)(X:n<=g.length)(Y:g.length<=1000)(K:j<=1000):
 Calls prog 119 #[.iface 160<|.pointer<|some (μ N 14),ν j,ν n] w λe J=>∃Q a,e=.returned (.bool Q)/\rk n j g a/\a.length=g.length/\ky O B J N cur y a/\lC B (uZ O N) w J:=by
 have R:=h_ M;clear M
 go_enter func119,ntmps119
 go_wp2_with fail
 go_loopw [7] (λx wr=>∃(i:Nat) (aS:List u2),i<=1000/\x=ν i/\aS.length=g.length/\(∀a,rk n i aS a->rk n j g a)/\ky O B wr N cur y aS/\lC B (uZ O N) w wr) (λx _=>n-(intOf x).toNat)
 case atStart=>exact⟨j,g,K,rfl,rfl,λ_ M=>M,R.o,lC.refl _ _⟩
 case round=>
  obtain⟨i,aS,W,rfl,I,F,u,C⟩:=hrel;have gu:=h_ F;have cH:=h_ u;have iT:=h_ C;have v:=u.cell;obtain⟨fE,em,rfl,_⟩:=i_ u.own;have T:n<=aS.length:=om;have V:aS.length<=1000:=om;have di:=h_ I;clear F u C I;by_cases L:n<=2*i+1
  .have P:(n:Int)<=2*(i:Int)+1:=om
   go_wp2_with fail
   go_ret;exact⟨_,aS,rfl,gu.o _ (.leaf L),di.o,cH.o,iT.o⟩
  .have P:decide ((n:Int)<=2*(i:Int)+1)=false:=so;have U:decide (2*(i:Int)+1<0)=false:=so;have A:=xC N _ em fE wr v;by_cases D:2*i+1+1<n
   .have S:2*(i:Int)+1+1<(n:Int):=om
    go_wp2_with fail
    cases t:decide (o7 aS (2*i+1+1)<o7 aS (2*i+1))with
    |false=>
     have z:=h_<|oN (w:=wr) cH.o.own (2*(i:Int)+1+1) (2*(i:Int)+1) (2*i+1+1) (2*i+1) om om om om false t;refine z.o.mono ?_;rintro e be ⟨rfl,k2,en⟩;refine jv ?_;intro bp ca hL;clear en A v;have hj:pY n i aS=2*i+1:=by unfold pY;rw[Yo (λM=>by have:=M.2;simp[this]at t)]
     cases c9:decide (o7 aS (2*i+1)<o7 aS i)with
     |false=>have cm:=h_<|oN (w:=be) bp.o.own (2*(i:Int)+1) (i:Int) (2*i+1) i om rfl om om false c9;exact J4
     |true=>
      have cm:=h_<|oN (w:=be) bp.o.own (2*(i:Int)+1) (i:Int) (2*i+1) i om rfl om om true c9;refine ig ?_;intro eo fd;clear c9 hj
      go_wp2_with fail
      refine cm.o.mono ?_;rintro e w3 ⟨rfl,k3,dQ⟩
      have dB:Hid<|ky O B w3 N cur (.slice fE aS.length em) aS:=by rw[dQ];exact bp.o.drewN k3
      have fe:Hid<|lC B (uZ O N) w w3:=by rw[dQ];exact ca.o.drewN k3
      have c3:=dB.o.cell;obtain⟨hM,hJ,dW,_,_,_,_⟩:=o8 dB.o.own<|sN aS i om
      simp only[YN,aab]at dW;obtain⟨rfl,rfl⟩:=dW;have o:=uA N _ em _ w3 c3;have c:=h_<|uE (w:=w3) dB.o.own (i:Int) (2*(i:Int)+1) i (2*i+1) rfl om om om om;clear dQ
      go_wp2_with fail
      refine c.o.mono ?_;rintro e E ⟨rfl,h,d⟩;obtain⟨b,f⟩:=dB.o.uB (mN aS i<|2*i+1).symm h d;have m:=h_ b;have r:=h_<|fe.o.trans f;clear h d b f c3 o c
      go_wp2_with fail
      go_roundw
      case rel=>exact⟨2*i+1,sa aS i<|2*i+1,om,gn,by rw[mN];exact di.o,λa l=>gu.o _ (.step om eo.o (by rw[fd.o];exact l)),m.o,r.o⟩
      case measure=>simp[intOf];omega
    |true=>
     have z:=h_<|oN (w:=wr) cH.o.own (2*(i:Int)+1+1) (2*(i:Int)+1) (2*i+1+1) (2*i+1) om om om om true t;refine z.o.mono ?_;rintro e be ⟨rfl,k2,en⟩;refine jv ?_;intro bp ca hL;clear en A v;have hj:pY n i aS=2*i+1+1:=by unfold pY;rw[Ys ⟨D,by simpa using t⟩]
     cases c9:decide (o7 aS (2*i+1+1)<o7 aS i)with
     |false=>have cm:=h_<|oN (w:=be) bp.o.own (2*(i:Int)+1+1) (i:Int) (2*i+1+1) i om rfl om om false c9;exact J4
     |true=>
      have cm:=h_<|oN (w:=be) bp.o.own (2*(i:Int)+1+1) (i:Int) (2*i+1+1) i om rfl om om true c9;refine ig ?_;intro eo fd;clear c9 hj
      go_wp2_with fail
      refine cm.o.mono ?_;rintro e w3 ⟨rfl,k3,dQ⟩
      have dB:Hid<|ky O B w3 N cur (.slice fE aS.length em) aS:=by rw[dQ];exact bp.o.drewN k3
      have fe:Hid<|lC B (uZ O N) w w3:=by rw[dQ];exact ca.o.drewN k3
      have c3:=dB.o.cell;obtain⟨hM,hJ,dW,_,_,_,_⟩:=o8 dB.o.own<|sN aS i om
      simp only[YN,aab]at dW;obtain⟨rfl,rfl⟩:=dW;have o:=uA N _ em _ w3 c3;have c:=h_<|uE (w:=w3) dB.o.own (i:Int) (2*(i:Int)+1+1) i (2*i+1+1) rfl om om om om;clear dQ
      go_wp2_with fail
      refine c.o.mono ?_;rintro e E ⟨rfl,h,d⟩;obtain⟨b,f⟩:=dB.o.uB (mN aS i<|2*i+1+1).symm h d;have m:=h_ b;have r:=h_<|fe.o.trans f;clear h d b f c3 o c
      go_wp2_with fail
      go_roundw
      case rel=>exact⟨2*i+1+1,sa aS i<|2*i+1+1,om,gn,by rw[mN];exact di.o,λa l=>gu.o _ (.step om eo.o (by rw[fd.o];exact l)),m.o,r.o⟩
      case measure=>simp[intOf];omega
   .have S:decide (2*(i:Int)+1+1<(n:Int))=false:=so;obtain⟨be,s⟩:=j5 wr;have bp:Hid<|ky O B be N cur (.slice fE aS.length em) aS:=by rw[s];exact cH.o
    have ca:Hid<|lC B (uZ O N) w be:=by rw[s];exact iT.o
    have hL:=xC N _ em fE be bp.o.cell;rw[<-s];clear s A v;have hj:pY n i aS=2*i+1:=by unfold pY;rw[Yo λM=>D M.1]
    cases c9:decide (o7 aS (2*i+1)<o7 aS i)with
    |false=>have cm:=h_<|oN (w:=be) bp.o.own (2*(i:Int)+1) (i:Int) (2*i+1) i om rfl om om false c9;exact J4
    |true=>
     have cm:=h_<|oN (w:=be) bp.o.own (2*(i:Int)+1) (i:Int) (2*i+1) i om rfl om om true c9;refine ig ?_;intro eo fd;clear c9 hj
     go_wp2_with fail
     refine cm.o.mono ?_;rintro e w3 ⟨rfl,k3,dQ⟩
     have dB:Hid<|ky O B w3 N cur (.slice fE aS.length em) aS:=by rw[dQ];exact bp.o.drewN k3
     have fe:Hid<|lC B (uZ O N) w w3:=by rw[dQ];exact ca.o.drewN k3
     have c3:=dB.o.cell;obtain⟨hM,hJ,dW,_,_,_,_⟩:=o8 dB.o.own<|sN aS i om
     simp only[YN,aab]at dW;obtain⟨rfl,rfl⟩:=dW;have o:=uA N _ em _ w3 c3;have c:=h_<|uE (w:=w3) dB.o.own (i:Int) (2*(i:Int)+1) i (2*i+1) rfl om om om om;clear dQ
     go_wp2_with fail
     refine c.o.mono ?_;rintro e E ⟨rfl,h,d⟩;obtain⟨b,f⟩:=dB.o.uB (mN aS i<|2*i+1).symm h d;have m:=h_ b;have r:=h_<|fe.o.trans f;clear h d b f c3 o c
     go_wp2_with fail
     go_roundw
     case rel=>exact⟨2*i+1,sa aS i<|2*i+1,om,gn,by rw[mN];exact di.o,λa l=>gu.o _ (.step om eo.o (by rw[fd.o];exact l)),m.o,r.o⟩
     case measure=>simp[intOf];omega
end
