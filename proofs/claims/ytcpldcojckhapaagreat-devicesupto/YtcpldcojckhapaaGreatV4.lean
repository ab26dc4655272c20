import Derived.Test.YtcpldcojckhapaaGreatV2
set_option maxRecDepth 100000
set_option maxHeartbeats 16000000
set_option linter.all false
noncomputable section
namespace Go.Proofs.YtcpldcojckhapaaGreat
open Go.Proofs.Tryz Go.RowKit
def S9(a:Nat)(b:a<65536):bits .and .u16 (a:Int) 1=((a%2:Nat):Int):=by have:=u16_and_nat a 1 b om;rw[nat_mask1]at this;exact this
def Vw(a:Nat)(b:a<65536):bits .xor .u16 ((a:Int)/2) 40961=((a/2^^^40961:Nat):Int):=by have:=u16_xor_nat (a/2) 40961 om om;exact this
def zl(c d:Nat)(l:b_)(q:c<65536)(x:d<256):
 Calls prog 147 #[.int .u16 c,.int .u8 d] l λo v=>o=.returned (.int .u16 (Pl.lT c d:Nat))/\v=l:=by
 go_enter func147,ntmps147
 go_wp2
 go_loop [0,10] (λu i=>∃b a:Nat,b<=8/\a<65536/\i=ν b/\u=.int .u16 a/\Hid (a=Pl.bsteps b (c^^^d))) (λ_ i=>8-(intOf i).toNat)
 case atStart=>exact⟨0,c^^^d,om,Z_ (n:=16) om om,rfl,ur<|u16_xor_nat c d q om,rfl⟩
 case round=>
  obtain⟨b,a,y,k,rfl,rfl,j⟩:=hrel;by_cases w:b<8
  .have m:Hid (Pl.bsteps (b+1) (c^^^d)=if a%2=1 then(a/2)^^^40961 else a/2):=by show Pl.rZ (Pl.bsteps b<|c^^^d)=_;rw[<-j.o];rfl
   have f:=S9 a k;have h:=Vw a k;have r:Hid<|a/2^^^40961<65536:=Z_ (n:=16) om om;by_cases e:a%2=1
   .have p:(bits BinOp.and IntKind.u16 (a:Int) 1==1)=true:=by rw[f,e];rfl
    have s:Hid<|bits .xor .u16 ((a:Int)/2) 40961=((a/2^^^40961:Nat):Int):=h;have g:Hid<|a%2=1:=e;clear f h e;go_wp2
    go_round
    case rel=>exact⟨b+1,a/2^^^40961,om,r.o,gn,ur s.o,by show _=_;rw[m.o,Ys g.o]⟩
    case measure=>exact mz
   .have p:(bits BinOp.and IntKind.u16 (a:Int) 1==1)=false:=by rw[f];simp;omega
    have g:Hid<|¬a%2=1:=e;clear f h e;go_wp2
    go_round
    case rel=>exact⟨b+1,a/2,om,om,gn,ur om,by show _=_;rw[m.o,Yo g.o]⟩
    case measure=>exact mz
  .go_wp2;go_ret;have t:b=8:=om;subst t;exact⟨um<|nY j,rfl⟩
theorem HP(a:a_)(e:b_)(i:a.size<=maxLen):
 Calls prog 118 #[.string a] e λf h=>f=.returned (.int .u16 (Pl.wb a.data.toList:Nat))/\h=e:=by
 unfold maxLen at i
 go_enter func118,ntmps118
 go_wp2
 go_loop [3,7] (λj d=>∃b c:Nat,b<=a.size/\c<65536/\d=ν b/\j=.int .u16 c/\Hid (c=Pl.wb (a.data.toList.take b))) (λ_ d=>a.size-(intOf d).toNat)
 case atStart=>exact⟨0,65535,YG _,om,rfl,rfl,rfl⟩
 case round=>
  obtain⟨b,c,p,k,rfl,rfl,g⟩:=hrel;by_cases l:b<a.size
  .have m:Hid<|Pl.wb (a.data.toList.take<|b+1)=Pl.lT c a[b].toNat:=by show _=_;rw[Pl.uo a b l,g.o]
   have n:a[b].toNat<256:=a[b].toNat_lt;have o:Hid<|Pl.lT c a[b].toNat<65536:=Pl.p2 c _ k n
   go_wp2_with (go_at_call 147;refine(zl _ _ _ om om).mono ?_;rintro f h ⟨rfl,rfl⟩)
   go_round
   case rel=>exact⟨b+1,Pl.lT c a[b].toNat,om,o.o,gn,rfl,m.o.symm⟩
   case measure=>simp[intOf];omega
  .go_wp2;go_ret;exact⟨um (by rw[g.o,Zf so]),rfl⟩
def WL(a:Nat)(b:a<65536):bits .xor .i64 ((a:Int)/2) 40961=((a/2^^^40961:Nat):Int):=by have:=Pl.Ck (a/2) 40961 om om;exact this
theorem uv(a:a_)(o:b_)(D:a.size<=maxLen):
 Calls prog 108 #[.string a] o λF A=>F=.returned (.int .u16 (Pl.wb a.data.toList:Nat))/\A=o:=by
 unfold maxLen at D
 go_enter func108,ntmps108
 go_wp2
 go_loop [3,4] (λk l=>∃c f:Nat,c<=a.size/\f<65536/\l=ν c/\k=ν f/\Hid (f=Pl.wb (a.data.toList.take c))) (λ_ l=>a.size-(intOf l).toNat)
 case atStart=>exact⟨0,65535,YG _,om,rfl,rfl,rfl⟩
 case round=>
  obtain⟨c,f,K,p,rfl,rfl,t⟩:=hrel;by_cases x:c<a.size
  .have y:Hid<|Pl.wb (a.data.toList.take<|c+1)=Pl.lT f a[c].toNat:=by show _=_;rw[Pl.uo a c x,t.o]
   have v:a[c].toNat<256:=a[c].toNat_lt;have M:Hid<|Pl.lT f a[c].toNat<65536:=Pl.p2 f _ p v;go_wp2
   go_loop [3,5,6] (λk C i=>∃e b d:Nat,e<=8/\b<65536/\d<256/\i=ν e/\k=ν b/\C=ν d/\Hid (d=a[c].toNat/2^e)/\Hid (b^^^d=Pl.bsteps e (f^^^a[c].toNat))) (λ_ _ i=>8-(intOf i).toNat)
   case atStart=>exact⟨0,f,a[c].toNat,om,p,v,rfl,rfl,rfl,by simp[Hid],rfl⟩
   case round=>
    obtain⟨e,b,d,I,r,L,rfl,rfl,rfl,q,m⟩:=hrel;by_cases J:e<8
    .have u:Hid<|d/2=a[c].toNat/2^(e+1):=by show _=_;rw[q.o,abF,Nat.div_div_eq_div_mul]
     have h:=WL b r;have w:Hid<|b/2^^^40961<65536:=Z_ (n:=16) om om;by_cases g:b%2=d%2
     .have E:((b:Int)%2 !=(d:Int)%2)=false:=so;have j:Hid<|b/2^^^d/2=Pl.bsteps (e+1) (f^^^a[c].toNat):=by show _=Pl.rZ _;rw[<-m.o,Pl.KL b d g]
      clear g h;go_wp2
      go_round
      case rel=>exact⟨e+1,b/2,d/2,om,om,om,gn,ur om,ur om,u,j⟩
      case measure=>simp[intOf];omega
     .have E:((b:Int)%2 !=(d:Int)%2)=true:=so;have j:Hid<|(b/2^^^40961)^^^d/2=Pl.bsteps (e+1) (f^^^a[c].toNat):=by show _=Pl.rZ _;rw[<-m.o,Pl.N5 b d g]
      have B:Hid<|bits .xor .i64 ((b:Int)/2) 40961=((b/2^^^40961:Nat):Int):=h;clear g h;go_wp2
      go_round
      case rel=>exact⟨e+1,b/2^^^40961,d/2,om,w.o,om,gn,ur B.o,ur om,u,j⟩
      case measure=>simp[intOf];omega
    .have s:Hid<|e=8:=by show _=_;omega
     have z:Hid<|d=0:=by show _=_;rw[q.o,s.o];omega
     go_wp2
     go_round
     case rel=>exact⟨c+1,b,om,r,gn,rfl,by show _=_;rw[y.o];have:=m.o;rw[z.o,s.o,Nat.xor_zero]at this;exact this⟩
     case measure=>simp[intOf];omega
  .go_wp2;go_ret;exact⟨um (by rw[t.o,Zf so]),rfl⟩
def w_(a:a_)(b:b_)(f:1<=a.size)(l:a.size<=4194304):
 Calls prog 137 #[.string a] b λc e=>c=.returned (.agg #[ν 0,ν<|Pl.j2 a 0,.string<|a.extract 1 a.size])/\Below b.heap.size b e:=by
 have j:0<a.size:=f;have i:=Pl.kG a;have k:=Pl.kz a 0
 go_enter func137,ntmps137
 go_wp2_with fail
 go_region_with (go_at_call 76;refine(va _ _ so).mono ?_;rintro c e ⟨rfl,d⟩;obtain⟨h,m⟩:=ke d)
 all_goals go_wp2
 all_goals
  have g:IntKind.i64.wrap (Pl.j2 a 0:Int)=Pl.j2 a 0:=wo
  try simp only[g]
  refine Yx (v:=.agg #[ν 0,ν<|Pl.j2 a 0,.string<|a.extract 1 a.size]) (by simp[results,results137,go_sem,h]) rfl ⟨rfl,?_⟩;exact((((br.alloc kM _).drew.trans<|d.mono si).setCell kM _).setCell kM _).setCell kM _
def xb(a:a_)(b:b_)(m:7<=a.size)(s:a.size<=4194304):
 Calls prog 110 #[.string a] b λd l=>d=.returned (.agg #[ν (256*Pl.j2 a 0+Pl.j2 a 1:Nat),ν<|Pl.j2 a 6,.string<|a.extract 7 a.size])/\Below b.heap.size b l:=by
 have o:0<a.size:=om;have r:1<a.size:=om;have q:=Pl.kG a;have k:=Pl.kz a 0;have e:=Pl.kz a 1;have p:=Pl.ld a 6 a.size 0 kM om;have h:=Pl.extract_extract a 6 a.size 1 (a.size-6) om;rw[show 6+(a.size-6)=a.size by omega]at h
 go_enter func110,ntmps110
 go_wp2_with fail
 refine(w_ _ _ so so).mono ?_;rintro d i ⟨rfl,c⟩;let⟨g,n⟩:=ke c;have f:b.heap.size<i.heap.size:=by have:=c.size;simp at this;omega
 go_wp2
 go_region
 all_goals go_wp2
 all_goals
  have j:=Pl.Cm _ _ k e;refine Yx (v:=.agg #[ν (256*Pl.j2 a 0+Pl.j2 a 1:Nat),ν<|Pl.j2 a 6,.string<|a.extract 7 a.size]) (by simp[results,results110,go_sem,g,f,j]) rfl ⟨rfl,?_⟩;exact((((((br.alloc kM _).trans<|c.mono si).setCell kM _).setCell kM _).setCell kM _).alloc so _).drew
def q5(a:a_)(h:b_)(s:a.size<=4194304):
 Calls prog 111 #[.string a] h λc l=>c=.returned (.bool<|Pl.tl a)/\l=h:=by
 have r:=Pl.kG a
 go_enter func111,ntmps111
 go_wp2
 go_loop [3] (λg=>∃b:Nat,2<=b/\b<=5/\g=ν b/\Hid ((2<b->Pl.j2 a 2=0)/\(3<b->Pl.j2 a 3=0)/\(4<b->Pl.j2 a 4=0))) (λg=>5-(intOf g).toNat)
 case atStart=>exact⟨2,om,om,rfl,by simp[Hid]⟩
 case round=>
  obtain⟨b,q,m,rfl,d⟩:=hrel;by_cases n:b<5
  .by_cases o:b<a.size
   .by_cases e:Pl.j2 a b=0
    .have t1:((Pl.j2 a b:Int)!=0)=false:=so;have i:=e;clear e;go_wp2
     go_round
     case rel=>exact⟨b+1,om,om,gn,by
      have d:=d;have e:=i;refine⟨λM=>?_,λM=>?_,λM=>?_⟩
      .by_cases c:b=2
       .subst c;exact e
       .exact d.1 om
      .by_cases c:b=3
       .subst c;exact e
       .exact d.2.1 om
      .by_cases c:b=4
       .subst c;exact e
       .exact d.2.2 om⟩
     case measure=>exact mz
    .have t1:((Pl.j2 a b:Int)!=0)=true:=so
     have HB:Hid<|Pl.tl a=true:=Pl.r1 a (by
      rcases(show b=2\/b=3\/b=4 by omega)with c|c|c
      .subst c;exact .inl e
      .subst c;exact uq e
      .subst c;exact KG e)
     clear e;go_wp2;go_ret;exact⟨up HB.o.symm,rfl⟩
   .have HB:Hid<|Pl.tl a=false:=Pl.sS a (Zb λM=>M (if c:2<b then d.o.1 c else Pl.o9 a 2 om)) (if c:3<b then d.o.2.1 c else Pl.o9 a 3 om) (if c:4<b then d.o.2.2 c else Pl.o9 a 4 om) (λM=>by omega);have f:¬5<a.size:=om;go_wp2;go_ret;exact⟨up HB.o.symm,rfl⟩
  .have hz2:=d.o.1 om;have hG:=d.o.2.1 om;have du:=d.o.2.2 om;by_cases f:5<a.size
   .by_cases j:Pl.j2 a 5<2
    .have HB:Hid<|Pl.tl a=true:=Pl.r1 a<|.inr<|.inr<|.inr ⟨f,.inl j⟩;exact Sc
    .by_cases k:254<Pl.j2 a 5
     .have HB:Hid<|Pl.tl a=true:=Pl.r1 a<|.inr<|.inr<|.inr ⟨f,.inr k⟩;exact RU
     .have HB:Hid<|Pl.tl a=false:=Pl.sS a hz2 hG du (λ_=>by omega);exact RU
   .have HB:Hid<|Pl.tl a=false:=Pl.sS a hz2 hG du (λ_=>by omega);exact Sc
def tm(s:a_)(a:b_)(hs:s.size<=4194304):
 Calls prog 109 #[.string s] a λe w'=>e=.returned (ν<|Pl.whole s)/\w'=a:=by
 have d:=Pl.kG s;have f:=Pl.kz s 5;by_cases c:s.size<6
 .have HB:Hid<|Pl.whole s=0:=by show _=_;unfold Pl.whole;rw[Ys<|.inl c]
  go_enter func109,ntmps109
  go_wp2;go_ret;exact⟨um<|nY HB,rfl⟩
 .cases e':Pl.tl s
  .by_cases b:s.size<6+Pl.j2 s 5
   .have HB:Hid<|Pl.whole s=0:=by show _=_;unfold Pl.whole;rw[Yo (by simp[e'];omega),Ys b]
    exact QX
   .have HB:Hid<|Pl.whole s=6+Pl.j2 s 5:=by show _=_;unfold Pl.whole;rw[Yo (by simp[e'];omega),Yo b]
    go_enter func109,ntmps109
    go_wp2_with fail
    refine(q5 s _ hs).mono ?_;rintro e w' ⟨rfl,rfl⟩;rw[e'];clear e';go_wp2;go_ret;exact⟨um<|p1 HB,rfl⟩
  .have HB:Hid<|Pl.whole s=0:=by show _=_;unfold Pl.whole;rw[Ys<|.inr e']
   exact QX
def Tryz.KN:(prog.info? 94).map (λa=>(a.zero,a.size,a.bytes))=some (some (.agg #[ν 0,ν 0,.string ⟨#[]⟩]),3,32):=kr
def rJ(a:a_)(c:List f_)(b:Nat)(d:Int):Prop:=Pl.pO a=(c,b)/\d=if Pl.tl (a.extract b a.size)then 4 else 0
def wg(a:a_)(b c:Nat)(d:List f_):Prop:=d++(Pl.w4 a b c).1=(Pl.pO a).1/\(Pl.w4 a b c).2=(Pl.pO a).2
def wh(a:a_):wg a (a.size+1) 0 []:=⟨rfl,rfl⟩
def xV{a:a_}{c b:Nat}{d:List f_}(f:wg a (c+1) b d)(e:Pl.ko a b≠0):wg a c (b+Pl.ko a b) (d++Pl.wZ a b (Pl.ko a b)):=by have:=f;unfold wg at this⊢;rw[Pl.uu a c b e]at this;exact⟨by rw[aaz];exact this.1,this.2⟩
def qY{a:a_}{c b:Nat}{d:List f_}(f:wg a c b d)(e:Pl.ko a b=0):Pl.pO a=(d,b):=by have:=f;unfold wg at this;rw[Pl.ut a c b e]at this;exact Prod.ext (by simpa using this.1.symm) this.2.symm
def xW(c:a_)(a b:Nat)(d:b_)(m:8<=b)(e:a+b<=c.size)(n:c.size<=4194304):
 Calls prog 110 #[.string<|c.extract a<|a+b] d λf j=>∃(g h:Nat) (i:a_),f=.returned (.agg #[ν g,ν h,.string i])/\Hid (Pl.wZ c a b=[ν g,ν h,.string i])/\Below d.heap.size d j:=by
 have l:(c.extract a<|a+b).size=b:=so;refine(xb (c.extract a<|a+b) d om om).mono ?_;rintro f j ⟨rfl,k⟩;refine⟨_,_,_,rfl,?_,k⟩;unfold Pl.wZ;rw[Pl.ld c a (a+b) 0 e om,Pl.ld c a (a+b) 1 e om,Pl.ld c a (a+b) 6 e om,l,Pl.extract_extract c a (a+b) 7 b om];rfl
def EG(a:a_)(o:b_)(C:a.size<=4194304):
 Calls prog 75 #[.string a] o λd b=>∃j n bA t m,d=.returned (.tuple #[j,.int .i64 (t:Nat),.int .i64 m])/\
  b.ownsRow o.heap.size 94 3 j n bA/\rJ a bA t m/\n<=524288/\Below o.heap.size o b:=by
 obtain⟨I,F,Q,O,U⟩:=Y4 Tryz.KN
 go_enter func75,ntmps75
 go_wp2_with fail
 refine(tm a _ C).mono ?_;rintro d b ⟨rfl,rfl⟩
 go_wp2_with fail
 go_loopw [5,6,7] (λj t h wr=>∃e n c bA B,e<=a.size/\8*n<=e/\t=.int .i64 (e:Nat)/\h=.int .i64 (B:Nat)/\Hid (B=Pl.ko a e)/\wr.ownsRow b.heap.size 94 3 j n bA/\a.size<e+c/\
  wg a c e bA/\Below b.heap.size b wr) (λ_ t _ _=>a.size-(intOf t).toNat)
 case atStart=>exact⟨0,0,a.size+1,[],Pl.whole a,om,om,rfl,rfl,(Pl.A5 a).symm,Yq _ _ _ _,om,wh a,Below.refl _ _⟩
 case round=>
  obtain⟨t,n,c,bA,h,W,X,rfl,rfl,f,hown,aa,k,d'⟩:=hrel;by_cases w:h=0
  .have l:Hid<|Pl.pO a=(bA,t):=qY k (by rw[<-f.o];exact w);subst w;clear k f;cases g:Pl.tl<|a.extract t a.size
   .have HK:rJ a bA t 0:=⟨l.o,by rw[g];rfl⟩;clear l
    go_wp2_with fail
    refine(q5 _ _ so).mono ?_;rintro d i ⟨rfl,rfl⟩;rw[g];clear g;go_wp2
    go_ret3
    exact⟨u5,n,bA,t,0,rfl,hown,HK,om,d'⟩
   .have HK:rJ a bA t 4:=⟨l.o,by rw[g];rfl⟩;clear l
    go_wp2_with fail
    refine(q5 _ _ so).mono ?_;rintro d i ⟨rfl,rfl⟩;rw[g];clear g;exact zS
  .have u:Pl.ko a t≠0:=by rw[<-f.o];exact w
   have y:=Pl.q_ a t u;rw[<-f.o]at y;obtain⟨N,Y,D⟩:=y;obtain⟨c,rfl⟩:∃L,c=L+1:=⟨c-1,om⟩;have s:=xV k u;rw[<-f.o]at s;clear k u f
   go_wp2_with fail
   refine(xW a t h _ N D C).mono ?_;rintro d i ⟨p,T,P,rfl,A,r⟩;rw[A.o]at s;have q:i.ownsRow b.heap.size 94 3 u5 n bA:=jY hown r;have v:Below b.heap.size b i:=d'.trans<|r.mono d'.size;have J:=v.size;clear hown d' r A
   go_wp2_with (at_builtin;refine Zl _ rfl (.tmp 16) (.tmp 24) 29 rfl b.heap.size 94 I (.agg #[.int .i64 0,.int .i64 0,.string ⟨#[]⟩]) 3 32 underlying29 F Q O U rfl dc u5 n bA rfl (q.alloc _) ⟨i.heap.size,0,none⟩ 1 1 [.int .i64 (p:Nat),.int .i64 (T:Nat),.string P] rfl rfl (mm _ _ _ _ _) (by intro Z z;simp at z;rcases z with rfl|rfl|rfl<;>rfl) ml om so ?_;intro V ab R x _)
   refine(tm _ _ so).mono ?_;rintro d E ⟨rfl,rfl⟩;have S:Below b.heap.size b E:=(v.alloc J _).grown x so (λm K=>(q.lt m K).1);clear q v x;go_wp2
   go_roundw
   case rel=>exact⟨t+h,n+1,c,_,Pl.whole<|a.extract (t+h) a.size,om,om,gn,rfl,rfl,R,om,s,S⟩
   case measure=>simp[intOf];omega
def vg(a:a_)(c:Nat)(b:Int):Ln:=if b=0 then⟨0,a.extract c a.size,false⟩else⟨0,⟨#[]⟩,true⟩
def rJ.le{a:a_}{c:List f_}{b:Nat}{e:Int}(f:rJ a c b e):b<=a.size:=by have:=(Pl.N7 a (a.size+1) 0<|YG _).2;have d:Pl.w4 a (a.size+1) 0=(c,b):=f.1;rw[d]at this;exact this
def rJ.code{b:a_}{e:List f_}{c:Nat}{a:Int}(f:rJ b e c a):a=0\/a=4:=by
 have:=f.2;by_cases d:Pl.tl (b.extract c b.size)=true
 .rw[Ys d]at this;exact .inr this
 .rw[Yo d]at this;exact .inl this
def r4{i:b_}{g f c j:Nat}{h:Nat->Ln}{x:Ln}{v:f_}(n:kE i g 116 f 3 λb a=>qk (h b) a)(m:c<f)(k:j<3)(l:qk x j=v)(o:∀a,a<3->a≠j->qk x a=qk (h c) a):
 kE (i.setCell (μ g<|c*3+j) v) g 116 f 3 (λb a=>qk (if b=c then x else h b) a):=by
 refine(n.set m k v).congr λb a _ q=>?_;by_cases d:b=c/\a=j
 .rw[Ys d,Ys d.1,d.2,l]
 .rw[Yo d];by_cases e:b=c
  .rw[Ys e,o a q λp=>d ⟨e,p⟩,e]
  .rw[Yo e]
def Cw(f a I:Nat)(d:Nat->Ln)(g:a_)(h:b_)(j:kE h f 116 I 3 λl c=>qk (d l) c)(e:a<I)(p:(d a).kind=0)(A:(d a).broken=false)(r:((d a).bytes++g).size<=4194304):
 Calls prog 56 #[.pointer<|some (μ f<|a*3),.string g] h λk L=>∃n q o i C,k=.returned n/\L.ownsRow h.heap.size 94 3 n q o/\rJ ((d a).bytes++g) o i C/\q<=524288/\
  kE L f 116 I 3 (λl c=>qk (if l=a then vg ((d a).bytes++g) i C else d l) c)/\kf f h L:=by
 have aa:h.cell? (μ f<|a*3)=some (ν 0):=by have:=j.cell e (j:=0) om;rw[YE]at this;rw[this];simp[qk,p]
 have N:h.cell? (μ f<|a*3+1)=some (.string (d a).bytes):=by have:=j.cell e (j:=1) om;rw[this];simp[qk]
 have V:h.cell? (μ f<|a*3+2)=some (.bool false):=by have:=j.cell e (j:=2) om;rw[this];simp[qk,A]
 have R:=h_ j;have X:=j.lt;obtain⟨u,hA⟩:=j5<|(d a).bytes;have aj:=h_ hA;rw[<-hA]at r N⊢;clear hA j;have af:u.size+g.size<=4194304:=by rw[Zd]at r;exact r
 have ah:¬9223372036854775807<u.size+g.size:=om;have S:=h_ p;have T:=h_ A;clear p A
 go_enter func56,ntmps56
 go_wp2_with fail
 refine(EG (u++g) _ r).mono ?_;rintro k ad ⟨n,q,o,i,C,rfl,Q,s,P,y⟩;have ac:=s.le;have F:=h_ s;have M:=h_ Q;have K:=h_ y;have ab:=ke y;have p:=s.code;clear s Q y aa N V;obtain⟨t,z⟩:=j5<|u++g;rw[<-z]at ac F r⊢;have O:=h_ z;clear z
 go_wp2_with fail
 refine(va _ _ so).mono ?_;rintro k ae ⟨rfl,v⟩;have m:=h_<|R.o.below (jZ K v) X;have U:=h_<|jZ K v;have w:=h_<|jY M v;have ag:=m.o.frozen<|a*3+1;have ak:=m.o.frozen<|a*3+2;have d1:=m.o.cell e (j:=1) om;have d2:=m.o.cell e (j:=2) om;clear R M K v ab;rcases p with rfl|rfl
 .go_wp2_with fail
  go_ret;rw[<-O.o];refine⟨_,q,o,i,0,rfl,jV w (λB E=>Yp _ _ _ _ (by have:=(w.o.lt B E).1;simp;omega)),F,P,?_,(kf.jX f U).setCell ..⟩;refine r4 m e om rfl λb J D=>?_;rcases(show b=0\/b=2 by omega)with rfl|rfl
  .simp[qk,vg,S.o]
  .simp[qk,vg,T.o]
 .go_wp2_with fail
  go_ret;rw[<-O.o];refine⟨_,q,o,i,4,rfl,jV w λB E=>?_,F,P,?_,(((kf.jX f U).setCell ..).setCell ..).setCell ..⟩
  .have ai:=(w.o.lt B E).1;rw[Yp _ _ _ _ so,Yp _ _ _ _ so,Yp _ _ _ _ so]
  .have Y:=r4 (x:=⟨0,t.extract i t.size,false⟩) (v:=.string<|t.extract i t.size) m.o e (j:=1) om rfl (λb J D=>by
    rcases(show b=0\/b=2 by omega)with rfl|rfl
    .simp[qk,S.o]
    .simp[qk,T.o])
   have W:=r4 (x:=⟨0,⟨#[]⟩,false⟩) (v:=.string ⟨#[]⟩) Y e (j:=1) om rfl (λb J D=>by
    rcases(show b=0\/b=2 by omega)with rfl|rfl
    .simp[qk]
    .simp[qk])
   have Z:=r4 (x:=⟨0,⟨#[]⟩,true⟩) (v:=.bool true) W e (j:=2) om rfl (λb J D=>by
    rcases(show b=0\/b=1 by omega)with rfl|rfl
    .simp[qk]
    .simp[qk])
   refine Z.congr λl b _ _=>?_;by_cases k:l=a
   .simp[k,vg]
   .simp[k]
def rh(b c:Nat)(a:a_):a_:=r3 b++⟨#[0,0]⟩++r3 (a.size+1)++⟨#[UInt8.ofNat c]⟩++a
namespace Pl
def KV(s:a_)(k:Nat):j2 s k=(s.data.toList.getD k 0).toNat:=by unfold j2;exact Qc
def Oa(a:Nat×Nat×a_):Prop:=a.1<65536/\a.2.1<256/\1<=a.2.2.size/\a.2.2.size<=253
def zf(a:Nat×Nat×a_):List f_:=[ν a.1,ν a.2.1,.string a.2.2]
end Pl
def lg(a:a_)(d:Int)(b:Nat)(c:b_)(g:d=b)(i:b+1<a.size)(n:a.size<=4194304):
 Calls prog 105 #[.string a,ν d] c λe h=>e=.returned (ν<|Pl.wd a b)/\∃f,h=c.drewN f:=by
 subst g;have k:=Pl.kG a;have m:=Pl.kz a b;have j:=Pl.kz a<|b+1;have l:b<a.size:=om
 go_enter func105,ntmps105
 go_wp2
 go_quiet (fail)
 go_wp2;go_ret;exact⟨um (by unfold Pl.wd;omega),_,rfl⟩
def yh(a c b:Nat)(d:b_):
 Calls prog 163 #[ν a,ν c,ν b] d λe f=>e=.returned (.bool<|decide (c<=a/\a<=b))/\f=d:=by
 by_cases h1:c<=a
 .by_cases h2:a<=b
  .exact RL
  .exact RL
 .go_enter func163,ntmps163
  go_wp2;go_ret;exact⟨up (by simp[h1]),rfl⟩
def GP(e:b_)(f:Nat)(g:f=e.heap.size)(d:Int):∀b c,(ka d)[b]?=some c->(e.alloc<|.cells #[ν d] 3).cell? (((μ f 0):Addr).add b)=some c:=by
 subst g;intro b c a
 match b,a with
 |0,a=>simp[ka]at a;subst a;simp[Addr.add]
def GQ(c:Int):∀b∈ka c,b.oneCell'=true:=by intro b a;simp[ka]at a;subst a;rfl
def q4(c:a_)(a e:Nat)(d:b_)(z:(c.size-a)/2=e)(M:a<=c.size)(N:c.size<=100000):
 Calls prog 165 #[.string c,ν a] d λn m=>∃h,n=.returned h/\m.ownsRow d.heap.size 3 1 h e ((Pl.kJ c a e).flatMap ka)/\Below d.heap.size d m:=by
 let⟨v,u,B,A,D⟩:=Y4 Tryz.qj;have E:a+2*e<=c.size:=om;have L:c.size<=a+2*e+1:=om;clear z
 go_enter func165,ntmps165
 go_wp2_with fail
 go_loopw [5,6] (λh k wr=>∃b:Nat,b<=e/\k=ν (a+2*b:Nat)/\wr.ownsRow d.heap.size 3 1 h b ((Pl.kJ c a b).flatMap ka)/\Below d.heap.size d wr) (λ_ k _=>a+2*e-(intOf k).toNat)
 case atStart=>exact⟨0,YG _,rfl,Yq ..,Below.refl ..⟩
 case round=>
  obtain⟨b,K,rfl,l,j⟩:=hrel;by_cases F:b<e
  .have r:a+2*b+1<c.size:=om
   go_wp2_with fail
   refine(lg c _ (a+2*b) _ om r om).mono ?_;rintro n J ⟨rfl,i,rfl⟩;have f:=q8 (w':=wr.drewN i) rfl l;have g:=YL j i;obtain⟨p,q⟩:=j5<|wr.drewN i;rw[<-q]at f g⊢;clear q;have t:d.heap.size<=p.heap.size:=g.size
   go_wp2_with (at_builtin;apply Zl _ rfl (.tmp 15) (.tmp 19) 28 rfl d.heap.size 3 v (ν 0) 1 8 underlying28 u B A D rfl dc u5 b _ rfl (f.alloc _) (μ p.heap.size 0) 1 1 (ka (Pl.wd c (a+2*b):Nat)) rfl rfl (GP _ _ rfl _) (GQ _) ml om so;intro I x C o _)
   have s:=(g.alloc t _).grown o so (λy w=>(f.lt y w).1);clear o f l g j;go_wp2
   go_roundw
   case rel=>exact⟨b+1,om,gn,by rw[Pl.Cp,YX];simpa using C,s⟩
   case measure=>exact mz
  .obtain rfl:b=e:=om;have r:¬((a:Int)+2*(b:Int)+1<c.size):=om;go_wp2;go_ret;exact⟨_,rfl,l,j⟩
def Ii(b:a_)(d e:Nat)(c:b_)(W:d+(e+7)/8<=b.size)(Z:b.size<=100000)(X:e<=100000):
 Calls prog 164 #[.string b,ν d,ν e] c λu t=>∃h,u=.returned h/\t.ownsRow c.heap.size 3 1 h e ((Pl.mx b d e).flatMap ka)/\Below c.heap.size c t:=by
 let⟨A,z,M,L,O⟩:=Y4 Tryz.qj;have V:=Pl.kG b
 go_enter func164,ntmps164
 go_wp2_with fail
 go_loopw [7,8] (λh o wr=>∃a:Nat,a<=e/\o=ν a/\wr.ownsRow c.heap.size 3 1 h a ((Pl.mx b d a).flatMap ka)/\Below c.heap.size c wr) (λ_ o _=>e-(intOf o).toNat)
 case atStart=>exact⟨0,YG _,rfl,Yq ..,Below.refl ..⟩
 case round=>
  obtain⟨a,U,rfl,p,n⟩:=hrel;by_cases P:a<e
  .have Y:d+a/8<b.size:=om;have K:=Pl.kz b<|d+a/8;have y:=h_ p;have F:=h_ n;clear p n
   go_wp2_with fail
   go_loopw [9,10] (λC m w=>∃f:Nat,f<=a%8/\m=ν f/\C=ν (Pl.j2 b (d+a/8)/2^f:Nat)/\w=wr) (λ_ m _=>a%8-(intOf m).toNat)
   case atStart=>exact⟨0,YG _,rfl,si,rfl⟩
   case round=>
    obtain⟨f,E,rfl,rfl,rfl⟩:=hrel;let⟨i,g⟩:=j5<|Pl.j2 b (d+a/8)/2^f;have S:i<256:=by rw[g];exact aaq (abg ..) K
    rw[<-g];have q:=h_ g;clear g;by_cases T:f<a%8
    .go_wp2
     go_roundw
     case rel=>exact⟨f+1,om,gn,ur (by rw[abF,<-Nat.div_div_eq_div_mul,<-q.o];omega),trivial⟩
     case measure=>exact mz
    .have k:f=a%8:=om;have s:i%2=Pl.bit b d a:=by unfold Pl.bit;rw[q.o,k]
     have D:=h_ s;have R:=h_ k;clear s k E;have j:=y;have l:=F;have x:=l.size
     go_wp2_with (at_builtin;apply Zl _ rfl (.tmp 31) (.tmp 34) 28 rfl c.heap.size 3 A (ν 0) 1 8 underlying28 z M L O rfl dc u7 a _ rfl (j.alloc _) (μ wr.heap.size 0) 1 1 (ka (i%2:Nat)) rfl rfl (GP _ _ rfl _) (GQ _) ml om so;intro Q I N r _)
     have v:=(l.alloc x _).grown r so (λJ B=>(j.lt J B).1);clear r j l;go_wp2
     go_roundw
     case rel=>exact⟨a+1,om,gn,by rw[Pl.EH,YX,<-D.o];simpa using N,v⟩
     case measure=>exact mz
  .obtain rfl:a=e:=om;go_wp2;go_ret;exact⟨_,rfl,p,n⟩
def Ij(a:a_)(b:Nat)(d:b_)(h:b+1<a.size)(i:a.size<=4194304):
 Calls prog 105 #[.string a,ν b] d λe g=>∃f,e=.returned f/\(f=ν (256*Pl.j2 a b+Pl.j2 a (b+1):Nat)/\∃c,g=d.drewN c):=by
 refine(lg a b b d rfl h i).mono ?_;rintro e g ⟨rfl,c,rfl⟩;exact⟨_,rfl,by unfold Pl.wd;rfl,c,rfl⟩
def LJ(a b:f_)(c:b_):(callFunc 105 #[a,b]).run prog c=.ok (.enter 105 #[a,b]) c:=kr
def Tq(b:a_)(a d:Nat)(c:b_)(g:Nat)(h:g=c.heap.size):∀f e,(Pl.wZ b a d)[f]?=some e->(c.alloc<|.cells #[ν (256*Pl.j2 b a+Pl.j2 b (a+1):Nat),ν (Pl.j2 b (a+6):Nat),.string<|b.extract (a+7)<|a+d] 94).cell? (((μ g 0):Addr).add f)=some e:=by subst h;exact mm c _ _ _ 94
def Ts(e:a_)(c d:Nat):∀b∈Pl.wZ e c d,b.oneCell'=true:=by intro b a;simp[Pl.wZ]at a;rcases a with rfl|rfl|rfl<;>rfl
def zw(s:a_)(d:b_)(Y:s.size<=4194304):
 Calls prog 69 #[.string s] d λN j=>∃h n bA t k,N=.returned (.tuple #[h,.int .i64 (t:Nat),.int .i64 k])/\
  j.ownsRow d.heap.size 94 3 h n bA/\rJ s bA t k/\n<=524288/\Below d.heap.size d j:=by
 obtain⟨C,S,W,J,X⟩:=Y4 Tryz.KN;have aa:=Pl.kG s
 go_enter func69,ntmps69
 go_wp2_with fail
 go_loopw [5,6] (λh t wr=>∃g n e bA,g<=s.size/\8*n<=g/\t=.int .i64 (g:Nat)/\wr.ownsRow d.heap.size 94 3 h n bA/\s.size<g+e/\
  wg s e g bA/\Below d.heap.size d wr) (λ_ t _=>s.size-(intOf t).toNat)
 case atStart=>exact⟨0,0,s.size+1,[],om,om,rfl,Yq _ _ _ _,om,wh s,Below.refl _ _⟩
 case round=>
  obtain⟨t,n,e,bA,ag,ah,rfl,hown,ab,bY,d'⟩:=hrel;have af:=Pl.kz s<|t+2;have ai:=Pl.kz s<|t+3;have Z:=Pl.kz s<|t+4;have ae:=Pl.kz s<|t+5;by_cases hA:Pl.j2 s (t+2)≠0\/Pl.j2 s (t+3)≠0\/Pl.j2 s (t+4)≠0
  .have aJ:=Pl.tI s t<|hA.elim .inl λM=>M.elim (λM=>.inr<|.inl M) λM=>.inr<|.inr<|.inl M;refine Ki ?_;intro HK;clear bY aJ;by_cases a:Pl.j2 s (t+2)=0
   .have t2:((Pl.j2 s (t+2):Int)!=0)=false:=so;by_cases b:Pl.j2 s (t+3)=0
    .have c:Pl.j2 s (t+4)≠0:=om;have t3:((Pl.j2 s (t+3):Int)!=0)=false:=so;have t4:((Pl.j2 s (t+4):Int)!=0)=true:=so;have f:t+4<s.size:=Zb λM=>c<|Pl.o9 s _ om;clear hA a b c;exact zS
    .have t3:((Pl.j2 s (t+3):Int)!=0)=true:=so;have f:t+3<s.size:=Zb λM=>b<|Pl.o9 s _ om;clear hA a b;exact zS
   .have t2:((Pl.j2 s (t+2):Int)!=0)=true:=so;have f:t+2<s.size:=Zb λM=>a<|Pl.o9 s _ om;clear hA a;exact zS
  .have a:Pl.j2 s (t+2)=0:=om;have b:Pl.j2 s (t+3)=0:=om;have c:Pl.j2 s (t+4)=0:=om;have t2:((Pl.j2 s (t+2):Int)!=0)=false:=so;have t3:((Pl.j2 s (t+3):Int)!=0)=false:=so;have t4:((Pl.j2 s (t+4):Int)!=0)=false:=so;clear hA;by_cases A:s.size-t<6
   .have aJ:=Pl.we s t a b c (λM=>by omega);have HK:rJ s bA t 0:=⟨qY bY<|Pl.qZ s t<|.inl A,by rw[aJ];rfl⟩;clear bY aJ a b c;rcases(show s.size<=t+2\/(t+3<=s.size/\s.size<=t+3)\/(t+4<=s.size/\s.size<=t+4)\/(t+5<=s.size/\s.size<=t+5)by omega)with f|⟨f,r⟩|⟨f,r⟩|⟨f,r⟩
    all_goals
     go_wp2
     go_ret3
     exact⟨u5,n,bA,t,0,rfl,hown,HK,om,d'⟩
   .by_cases l:Pl.j2 s (t+5)<2
    .have aJ:=Pl.tI s t<|.inr<|.inr<|.inr ⟨om,.inl l⟩;refine Ki ?_;intro HK;clear bY aJ a b c;exact zS
    .by_cases w:254<Pl.j2 s (t+5)
     .have aJ:=Pl.tI s t<|.inr<|.inr<|.inr ⟨om,.inr w⟩;refine Ki ?_;intro HK;clear bY aJ a b c;exact zS
     .have aJ:=Pl.we s t a b c (λM=>by omega);by_cases o:s.size-t<6+Pl.j2 s (t+5)
      .have HK:rJ s bA t 0:=⟨qY bY<|Pl.qZ s t<|.inr<|.inr o,by rw[aJ];rfl⟩;clear bY aJ a b c;go_wp2
       go_ret3
       exact⟨u5,n,bA,t,0,rfl,hown,HK,om,d'⟩
      .have v:=Pl.A6 s t om aJ om;obtain⟨e,rfl⟩:∃F,e=F+1:=⟨e-1,om⟩;have i:=xV bY om;rw[v]at i;obtain⟨k,m⟩:=j5<|Pl.j2 s<|t+5;have gk:(Pl.j2 s<|t+5)=k:=m.symm;rw[gk]at i o w l;have x:=d'.size;have ac:=Pl.kz s<|t+6;have O:IntKind.i64.wrap ((t:Int)+6)=(t:Int)+6:=wo;have V:IntKind.i64.wrap ((t:Int)+7)=(t:Int)+7:=wo;have I:IntKind.i64.wrap ((t:Int)+6+(k:Int))=(t:Int)+6+(k:Int):=wo;have y:IntKind.i64.wrap (Pl.j2 s (t+6):Int)=Pl.j2 s (t+6):=wo;have Q:(t:Int)+6<s.size:=om;have D:0<=(t:Int)+6:=om;have z:0<=(t:Int)+7:=om;have U:(t:Int)+7<=(t:Int)+6+(k:Int):=om;have lk:(t:Int)+6+(k:Int)<=s.size:=om;have T:((t:Int)+6).toNat=t+6:=om;have B:((t:Int)+7).toNat=t+7:=om;have R:((t:Int)+6+(k:Int)).toNat=t+(6+k):=om;clear bY aJ a b c v m
       go_wp2_with fail
       go_region_law (first
        |(refine ki rfl 105 #[.tmp 70,.tmp 71] #[9,3] rfl #[.string s,.int .i64 (t:Nat)] (by simp[Act.eval,Act.put]) (LJ _ _ _) _ (Ij s t _ om Y) ?_;rintro h j ⟨rfl,nq,rfl⟩)
        |(refine nC rfl (.tmp 69) (.tmp 87) 29 rfl d.heap.size 94 C (.agg #[.int .i64 0,.int .i64 0,.string ⟨#[]⟩]) 3 32 underlying29 S W J X rfl dc u5 n bA qU ((q8 rfl hown).alloc _) ⟨wr.heap.size,0,none⟩ 1 1 (Pl.wZ s t<|6+k) qU rfl (Tq _ _ _ _ _ rfl) (Ts _ _ _) ml om so ?_;intro ad E K u))
       all_goals
        have L:Below d.heap.size d E:=((YL d' _).alloc x _).grown u so (λq P=>(hown.lt q P).1);clear u hown O V I y Q D z U T B R t2 t3 t4 gk;go_wp2
        go_roundw
        case rel=>exact⟨t+(6+k),n+1,e,_,om,om,ur om,K,om,i,L⟩
        case measure=>simp[intOf];omega
