import Derived.Test.YtcpldcojckhapaaGreatV12
import Derived.Test.YtcpldcojckhapaaGreatV13
set_option maxRecDepth 100000
set_option maxHeartbeats 16000000
set_option linter.all false
noncomputable section
namespace Go.Proofs.YtcpldcojckhapaaGreat
open Go.ChangeAt Go.ChangeShapes Go.Conc Go.Deep Go.Proofs.Tryz Go.RowKit Go.WideShapes
def sp(a:Act)(d c:Nat)(e:f_)(j:d<a.tmps.size):(a.put (some d) e).eval (.tmp c)=if c=d then e else a.eval (.tmp c):=by
 show(a.tmps.setIfInBounds d e).getD c undef=if c=d then e else a.tmps.getD c undef;rw[Zr,Zr,Y6];by_cases h:c=d
 .subst h;simp[j]
 .rw[Yo λi=>h i.symm,Yo h]
def vD(a:Act)(d:Nat)(c:f_):(a.put (some d) c).tmps.size=a.tmps.size:=by show(a.tmps.setIfInBounds d c).size=_;simp
def sq{ops:Array Oper}{o:Oper}{a:Act}{w:b_}{e:Act->b_->Prop}{Q:Exit->Act->b_->Prop}{j:Prop}(hg:o.guard=none)(d:Nat)(h:o.op=.load 42 (.tmp d))(g:Nat)(i:a.eval (.tmp d)=π g)(c:nE)(l:w.heap[g]?=some (.cells (k9 c) 42))(M:e (a.put o.dst<|.agg<|k9 c) w):
 if Region.wanted o (yielded ops a.tmps)=true then Oper.wp prog o a w e Q else j:=by
 refine Gv ?_;intro bh;unfold Oper.wp execOp;simp only[h,i,Zp,Ma w g c l,Za,ZE];exact M
def G4(c:f_)(w:b_):(callFunc 35 #[c]).run prog w=.ok (.enter 35 #[c]) w:=kr
def OY(h d c e i:f_)(w:b_):(callFunc 33 #[h,d,c,e,i]).run prog w=.ok (.enter 33 #[h,d,c,e,i]) w:=kr
def ID(g:Nat)(w:b_):(Instr.fieldAt 52 (π g) 1).run prog w=.ok (.pointer<|some (μ g 1)) w:=by go_simp
def TC(g:Nat)(c:f_)(w:b_)(d:w.cell? (μ g 1)=some c):(Instr.loadAt 50<|.pointer<|some (μ g 1)).run prog w=.ok c w:=by go_simp
def OZ(c:f_)(w:b_):(callFunc 34 #[c]).run prog w=.ok (.enter 34 #[c]) w:=kr
def pS(b s fn:Nat)(ps:String):Array Oper:=#[⟨some b,.move<|.tmp 0,34,ps,#[],none⟩,⟨some (b+1),.move<|.tmp s,31,ps,#[],none⟩,⟨some (b+2),.move<|.tmp 0,34,ps,#[],none⟩,⟨some (b+3),.nilCheck<|.tmp<|b+2,0,ps,#[⟨2,.data⟩],none⟩,⟨some (b+4),.fieldAddr 52 (.tmp<|b+3) 1,0,ps,#[⟨3,.data⟩],none⟩,⟨some (b+5),.load 50<|.tmp<|b+4,50,ps,#[⟨4,.data⟩],none⟩,⟨some (b+6),.call {callee:=.value<|.func fn,args:=#[.tmp<|b+5],argTypes:=#[50]},46,ps,#[⟨5,.data⟩],none⟩,⟨some (b+7),.load 42<|.tmp 4,42,ps,#[],none⟩,⟨some (b+8),.move<|.tmp 2,23,ps,#[],none⟩,⟨some (b+9),.call {callee:=.value<|.func 33,args:=#[.tmp b,.tmp<|b+1,.tmp<|b+6,.tmp<|b+7,.tmp<|b+8],argTypes:=#[34,31,46,42,23]},4,ps,#[⟨0,.data⟩,⟨1,.data⟩,⟨6,.data⟩,⟨7,.data⟩,⟨8,.data⟩,⟨6,.chain⟩],none⟩,⟨some 6,.assign<|.tmp<|b+9,4,ps,#[⟨9,.data⟩,⟨9,.chain⟩,⟨0,.phase⟩,⟨1,.phase⟩,⟨2,.phase⟩,⟨3,.phase⟩,⟨4,.phase⟩,⟨5,.phase⟩,⟨6,.phase⟩,⟨7,.phase⟩,⟨8,.phase⟩,⟨9,.phase⟩],none⟩]
def Kz(n:Nat)(ds:List Deferred)(a:Act)(f:Nat->f_):Prop:=a.tmps.size=n/\a.defers=ds/\∀c,a.eval (.tmp c)=f c
def Kz.put{n d:Nat}{ds:List Deferred}{a:Act}{f:Nat->f_}(e:Kz n ds a f)(h:f_)(i:d<n):Kz n ds (a.put (some d) h) (λc=>if c=d then h else f c):=
 ⟨(vD _ _ _).trans e.1,e.2.1,λc=>by rw[sp _ _ _ _ (by rw[e.1];exact i),e.2.2 c]⟩
def Kz.gen{n c:Nat}{ds:List Deferred}{a:Act}{f:Nat->f_}(m:Kz n ds a f){d:f_}(k:c<n)(i:Array Oper)(Q:Exit->Act->b_->Prop)(h:Nat)(e:Array Bool)(w:b_)(l:∀j,Kz n ds j (λt=>if t=c then d else f t)->wpAny prog .any i Q h e j w):wpAny prog .any i Q h e (a.put (some c) d) w:=l _ (m.put d k)
def lk{c:Prop}(d:c:=by(try dsimp only);(repeat' (first|rw[Ys rfl]|rw[Yo om]));all_goals first|assumption|rfl):c:=d
section
variable {a:Act}{w:b_}{Q:Exit->Act->b_->Prop}{n g r kb bx b s fn A0:Nat}{ps:String}{ds:List Deferred}{vl:f_}{o:nE}{R:f_->b_->Prop}{f:Nat->f_}
def yC{p:Nat}{h:Array Bool}{q:Op}{m:d_}{k:Array Edge}(i c:Nat)(d:f_)(A:Kz n ds a f)(u:c<n)(y:∀e a (c:Nat) d w,Q (.panic e) (Act.put a (some c) d) w->Q (.panic e) a w)(z:(pS b s fn ps)[i]?=some ⟨some c,q,m,ps,k,none⟩)(x:∀w,(execOp a.eval ⟨some c,q,m,ps,k,none⟩).run prog w=.ok (.value d) w)
 (j:∀l,Kz n ds l (λt=>if t=c then d else f t)->wpAny prog .any (pS b s fn ps) Q p (h.setIfInBounds i true) l w) (B:Region.noSelect (pS b s fn ps)=true:=by kernel_rfl) (hf:Region.free .any (pS b s fn ps) h i=true:=by kernel_rfl) (v:(Region.ready .any (pS b s fn ps) h).contains i=true:=by kernel_rfl):
 wpAny prog .any (pS b s fn ps) Q (p+1) h a w:=
 wpAny_take z B hf v (λe a w j=>y e a _ _ w j) (Or.inl ⟨rfl,x⟩) (j _ (A.put d u))
def Sl{i:Act->b_->Prop}{j:Prop}{c d:Nat}{h:d_}{e:Array Edge}(k:w.cell? (μ g 1)=some (π r))(m:a.eval (.tmp d)=.pointer (some (μ g 1)))(l:i (a.put (some c)<|π r) w):
 if Region.wanted (⟨some c,.load 50<|.tmp d,h,ps,e,none⟩:Oper) (yielded (pS b s fn ps) a.tmps)=true then Oper.wp prog (⟨some c,.load 50<|.tmp d,h,ps,e,none⟩:Oper) a w i Q else j:=by
 refine(Ys (show Region.wanted (⟨some c,.load 50<|.tmp d,h,ps,e,none⟩:Oper) (yielded (pS b s fn ps) a.tmps)=true from rfl)).mpr ?_;unfold Oper.wp;have:(execOp a.eval (⟨some c,.load 50<|.tmp d,h,ps,e,none⟩:Oper)).run prog w=.ok (.value<|π r) w:=by simp[execOp,m,TC g _ w k]
 rw[this];exact l
def rC{i j c:Nat}{l:Array Bool}{k:Op}{h:d_}{d:Array Edge}{m:List Nat}(q:∀e:Act->b_->Prop,(∀a w,wpAny prog .any (pS b s fn ps) Q i (l.setIfInBounds j true) a w->e a w)->if Region.wanted (⟨some c,k,h,ps,d,none⟩:Oper) (yielded (pS b s fn ps) a.tmps)=true then Oper.wp prog ⟨some c,k,h,ps,d,none⟩ a w e Q else e (a.put (some c) undef) w)
 (p:AllReady prog .any (pS b s fn ps) Q i l a w m) (hi:(pS b s fn ps)[j]?=some ⟨some c,k,h,ps,d,none⟩:=by rfl):AllReady prog .any (pS b s fn ps) Q i l a w (j::m):=AllReady.cons hi q p
def UF{e:Nat}{h:Array Bool}(d:Array Bool)(c:List Nat)(k:AllReady prog .any (pS b s fn ps) Q e d a w c)(i:h=d:=by kernel_rfl)(j:Region.ready .any (pS b s fn ps) d=c:=by kernel_rfl)(l:c≠[]:=by simp):wpAny prog .any (pS b s fn ps) Q (e+1) h a w:=by subst i;exact wpAny_ready j l k
def Mb{l:Array Bool}{h:f_}(C:20<=b)(B:b+10<=n)(p:Kz n ds a f)(f0:f b=π g)(f1:f (b+1)=vl)(f6:f (b+6)=h)(f7:f (b+7)=.agg (k9 o))(f8:f (b+8)=π kb)
 (x:Calls prog 33 #[π g,vl,h,.agg<|k9 o,π kb] w λe d=>∃c,e=.returned c/\R c d)
 (u:∀k a (m:Nat) h w,Q (.panic k) (Act.put a (some m) h) w->Q (.panic k) a w)
 (z:∀(i:Act) c d,i.eval (.tmp 6)=c->i.tmps.size=n->i.defers=ds->R c d->Q .normal i d) (v:l=#[true,true,true,true,true,true,true,true,true,false,false]:=by rfl):
 wpAny prog .any (pS b s fn ps) Q 2 l a w:=by
 subst v;refine UF #[true,true,true,true,true,true,true,true,true,false,false] [9]<|rC (hi:=rfl) (λA y=>?_) abn;refine ki rfl 33 _ _ rfl #[π g,vl,h,.agg<|k9 o,π kb] (by simp[p.2.2,f0,f1,f6,f7,f8]) (OY _ _ _ _ _ _) R x ?_;intro c d t;refine y _ _ ?_;have q:=p.put (d:=b+9) c om;refine yC 10 6 c q om u rfl (λw=>?_) (λD j=>?_)
 .have:=(q.2.2<|b+9).trans<|Ys rfl;simp[execOp,this]
 .exact wpAny_done kr (z _ c d ((j.2.2 6).trans<|Ys rfl) j.1 j.2.1 t) _
def F6(c:Array Oper):Prop:=
 have j:=Array.replicate c.size false;have h:=j.setIfInBounds 0 true;have d:=h.setIfInBounds 1 true;have i:=d.setIfInBounds 2 true;have e:=i.setIfInBounds 3 true
 Region.free .any c j 0=true/\Region.free .any c h 1=true/\Region.free .any c d 2=true/\Region.free .any c i 3=true/\Region.free .any c e 4=true/\Region.free .any c (e.setIfInBounds 4 true) 8=true
def BG(D:20<=b)(ac:s<20)(x:b+10<=a.tmps.size)(I:a.eval (.tmp 0)=π g)(J:a.eval (.tmp s)=vl)(W:a.eval (.tmp 4)=π bx)(U:a.eval (.tmp 2)=π kb)
 (O:w.cell? (μ g 1)=some (π r)) (P:w.heap[bx]?=some (.cells (k9 o) 42))
 (jw:Calls prog fn #[π r] w.drew λd t=>∃l,d=.returned l/\(t.heap[bx]?=some (.cells (k9 o) 42)/\Calls prog 33 #[π g,vl,l,.agg<|k9 o,π kb] t λd A=>∃v,d=.returned v/\R v A))
 (e:∀E a (T:Nat) l w,Q (.panic E) (Act.put a (some T) l) w->Q (.panic E) a w)
 (z:∀(y:Act) v A,y.eval (.tmp 6)=v->y.tmps.size=a.tmps.size->y.defers=a.defers->R v A->Q .normal y A) (jx:∀F w,(callFunc fn #[F]).run prog w=.ok (.enter fn #[F]) w) (hF:F6<|pS b s fn ps:=by refine⟨?_,?_,?_,?_,?_,?_⟩<;>kernel_rfl):
 (Code.region A0 (pS b s fn ps) true).wp prog Q a w:=by
 obtain⟨f,c,j⟩:∃f,Kz a.tmps.size a.defers a f/\∀L,a.eval (.tmp L)=f L:=⟨_,⟨rfl,rfl,λ_=>rfl⟩,λ_=>rfl⟩;rw[j]at I J W U;obtain⟨n,N⟩:=j5 a.tmps.size;obtain⟨ds,Z⟩:=j5 a.defers;rw[<-N,<-Z]at c z;rw[<-N]at x;refine wp_region_any kr ?_;change wpAny _ _ _ _ _ _ _ (World.drew _);obtain⟨ab,X,S,aa,Y,V⟩:=hF;refine yC 0 b (π g) c om e rfl (λw=>by simp[execOp,c.2.2,I]) (λa c=>?_) (hf:=ab);refine yC 1 (b+1) vl c om e rfl (λw=>by have d:=(c.2.2 s).trans<|Yo om;simp[execOp,d,J]) (λa c=>?_) (hf:=X);refine yC 2 (b+2) (π g) c om e rfl (λw=>by have d:a.eval (.tmp 0)=π g:=(c.2.2 0).trans lk;simp[execOp,d]) (λa c=>?_) (hf:=S);refine yC 3 (b+3) (π g) c om e rfl (λw=>by have d:=(c.2.2<|b+2).trans<|Ys rfl;simp[execOp,d]) (λa c=>?_) (hf:=aa);refine yC 4 (b+4) (.pointer<|some (μ g 1)) c om e rfl (λw=>by have d:=(c.2.2<|b+3).trans<|Ys rfl;simp[execOp,d,ID]) (λa c=>?_) (hf:=Y);refine yC 8 (b+8) (π kb) c om e rfl (λw=>by have d:a.eval (.tmp 2)=π kb:=(c.2.2 2).trans lk;simp[execOp,d]) (λa c=>?_) (hf:=V);have aU:a.eval (.tmp<|b+4)=.pointer (some (μ g 1)):=(c.2.2<|b+4).trans lk;have C:a.eval (.tmp 4)=π bx:=(c.2.2 4).trans lk;refine UF #[true,true,true,true,true,false,false,false,true,false,false] [5,7]<|rC (hi:=rfl) (λK hK=>?_)<|rC (hi:=rfl) (λK hK=>?_) abn
 .refine Sl O aU<|hK _ _ (c.gen om _ _ _ _ _ λa i=>?_);have C:a.eval (.tmp 4)=π bx:=(i.2.2 4).trans lk;have aU:a.eval (.tmp<|b+5)=π r:=(i.2.2<|b+5).trans lk;refine UF #[true,true,true,true,true,true,false,false,true,false,false] [6,7]<|rC (hi:=rfl) (λK hK=>?_)<|rC (hi:=rfl) (λK hK=>?_) abn
  .refine ki rfl fn _ _ rfl #[π r] (by simp[aU]) (jx _ _) _ jw ?_;rintro l t ⟨B,u⟩;refine hK _ _ (i.gen om _ _ _ _ _ λa m=>?_);refine UF #[true,true,true,true,true,true,true,false,true,false,false] [7]<|rC (hi:=rfl) (λK hK=>?_) abn;refine sq rfl 4 rfl bx ((m.2.2 4).trans lk) o B (hK _ _ (m.gen om _ _ _ _ _ λa h=>?_));exact Mb D x h lk lk lk lk lk u e z
  .refine sq rfl 4 rfl bx C o P (hK _ _ (i.gen om _ _ _ _ _ λa h=>?_));have aU:a.eval (.tmp<|b+5)=π r:=(h.2.2<|b+5).trans lk;refine UF #[true,true,true,true,true,true,false,true,true,false,false] [6]<|rC (hi:=rfl) (λK hK=>?_) abn;refine ki rfl fn _ _ rfl #[π r] (by simp[aU]) (jx _ _) _ jw ?_;rintro l t ⟨B,u⟩;exact hK _ _ (h.gen om _ _ _ _ _ λa m=>Mb D x m lk lk lk lk lk u e z)
 .refine sq rfl 4 rfl bx C o P (hK _ _ (c.gen om _ _ _ _ _ λa h=>?_));refine UF #[true,true,true,true,true,false,false,true,true,false,false] [5]<|rC (hi:=rfl) (λK hK=>?_) abn;refine Sl O ((h.2.2<|b+4).trans lk)<|hK _ _ (h.gen om _ _ _ _ _ λa i=>?_);have aU:a.eval (.tmp<|b+5)=π r:=(i.2.2<|b+5).trans lk;refine UF #[true,true,true,true,true,true,false,true,true,false,false] [6]<|rC (hi:=rfl) (λK hK=>?_) abn;refine ki rfl fn _ _ rfl #[π r] (by simp[aU]) (jx _ _) _ jw ?_;rintro l t ⟨B,u⟩;exact hK _ _ (i.gen om _ _ _ _ _ λa m=>Mb D x m lk lk lk lk lk u e z)
def VL:Array Oper:=pS 94 12 35 "device.go:279"
def Mc(z:110<=a.tmps.size)(u:a.eval (.tmp 0)=π g)(x:a.eval (.tmp 12)=vl)(v:a.eval (.tmp 4)=π bx)(t:a.eval (.tmp 2)=π kb)
 (k:w.cell? (μ g 1)=some (π r)) (q:w.heap[bx]?=some (.cells (k9 o) 42))
 (m:Calls prog 35 #[π r] w.drew λe w1=>∃i,e=.returned i/\(w1.heap[bx]?=some (.cells (k9 o) 42)/\Calls prog 33 #[π g,vl,i,.agg<|k9 o,π kb] w1 λe d=>∃c,e=.returned c/\R c d))
 (l:∀j a (p:Nat) i w,Q (.panic j) (Act.put a (some p) i) w->Q (.panic j) a w)
 (y:∀(h:Act) c d,h.eval (.tmp 6)=c->h.tmps.size=a.tmps.size->h.defers=a.defers->R c d->Q .normal h d):
 (Code.region 15 VL true).wp prog Q a w:=
 BG dc dc om u x v t k q m l y G4
def VM:Array Oper:=pS 111 13 35 "device.go:282"
def Md(z:130<=a.tmps.size)(u:a.eval (.tmp 0)=π g)(x:a.eval (.tmp 13)=vl)(v:a.eval (.tmp 4)=π bx)(t:a.eval (.tmp 2)=π kb)
 (k:w.cell? (μ g 1)=some (π r)) (q:w.heap[bx]?=some (.cells (k9 o) 42))
 (m:Calls prog 35 #[π r] w.drew λe w1=>∃i,e=.returned i/\(w1.heap[bx]?=some (.cells (k9 o) 42)/\Calls prog 33 #[π g,vl,i,.agg<|k9 o,π kb] w1 λe d=>∃c,e=.returned c/\R c d))
 (l:∀j a (p:Nat) i w,Q (.panic j) (Act.put a (some p) i) w->Q (.panic j) a w)
 (y:∀(h:Act) c d,h.eval (.tmp 6)=c->h.tmps.size=a.tmps.size->h.defers=a.defers->R c d->Q .normal h d):
 (Code.region 18 VM true).wp prog Q a w:=
 BG dc dc om u x v t k q m l y G4
def Sm:Array Oper:=pS 77 11 34 "device.go:276"
def Me(z:130<=a.tmps.size)(u:a.eval (.tmp 0)=π g)(x:a.eval (.tmp 11)=vl)(v:a.eval (.tmp 4)=π bx)(t:a.eval (.tmp 2)=π kb)
 (k:w.cell? (μ g 1)=some (π r)) (q:w.heap[bx]?=some (.cells (k9 o) 42))
 (m:Calls prog 34 #[π r] w.drew λe w1=>∃i,e=.returned i/\(w1.heap[bx]?=some (.cells (k9 o) 42)/\Calls prog 33 #[π g,vl,i,.agg<|k9 o,π kb] w1 λe d=>∃c,e=.returned c/\R c d))
 (l:∀j a (p:Nat) i w,Q (.panic j) (Act.put a (some p) i) w->Q (.panic j) a w)
 (y:∀(h:Act) c d,h.eval (.tmp 6)=c->h.tmps.size=a.tmps.size->h.defers=a.defers->R c d->Q .normal h d):
 (Code.region 12 Sm true).wp prog Q a w:=
 BG dc dc om u x v t k q m l y OZ
end
def Kn(a:Act)(c:Nat->f_):Prop:=a.tmps.size=164/\∀b,a.eval (.tmp b)=c b
def Kn.put{c:Act}{f:Nat->f_}(b:Kn c f){d:Nat}(e:f_)(g:d<164):Kn (c.put (some d) e) (λa=>if a=d then e else f a):=
 ⟨(vD ..).trans b.1,λa=>by rw[sp _ _ _ _ (by rw[b.1];exact g),b.2 a]⟩
def Kn.fn{a:Act}(d:a.tmps.size=164):∃b,Kn a b/\∀c,a.eval (.tmp c)=b c:=⟨_,⟨d,λ_=>rfl⟩,λ_=>rfl⟩
def Yl(f:e_)(h:Nat->f_)(e:Oper)(i:f_):Prop:=∀a:Operand->f_,(∀d,a (.tmp d)=h d)->(∀c,a (.const c)=c)->∀b:b_,(∀g:Result Next->Prop,g (.ok (.value i) b)->g ((execOp a e).run f b))/\(execOp a e).events f b #[]=#[]
def sD{i:e_}{c:Array Oper}{f:Region.Mode}{x:Frame}{w:List Item}{o:List Frame}{s:Array c_->b_->Trace->Prop}{a:Act}{k:Nat->f_}{n:Op}{q:d_}{r:String}{u:Array Edge}{y:Nat}{e:Array Bool}{m:b_->Prop}(h b:Nat)(d:f_)(C:Cl m)(l:Kn a k)
 (A:Kn (a.put (some b) d) (λt=>if t=b then d else k t)->sC i s x w o f c y (e.setIfInBounds h true) (a.put (some b) d) m) (z:c[h]?=some ⟨some b,n,q,r,u,none⟩:=by rfl) (E:b<164:=by decide)
 (F:Region.noSelect c=true:=by kernel_rfl) (D:Region.free f c e h=true:=by kernel_rfl) (B:(Region.ready f c e).contains h=true:=by kernel_rfl)
 (v:Yl i k ⟨some b,n,q,r,u,none⟩ d:=by intro ρ hρ hc g;(try dsimp only at hρ);exact⟨λp j=>by go_simp;exact j,by simp[go_sem,qg,nu,nO,mr,ms, *]⟩):sC i s x w o f c (y+1) e a m:=
 Jh C z F D B (lJ rfl (λg p j=>(v a.eval l.2 (λ_=>rfl) g).1 p j) (λg=>(v a.eval l.2 (λ_=>rfl) g).2)) (A<|l.put d E)
def pG{g:e_}{f:Array Oper}{h:Frame}{o:List Item}{n:List Frame}{v:Array c_->b_->Trace->Prop}{a:Act}{j:Nat->f_}{u:Op}{q:d_}{s:String}{l:Array Edge}{r:Nat}{rest:List Nat}{e:b_->Prop}(b:Nat)(c:f_)(w:Cl e)(k:Kn a j)
 (y:Kn (a.put (some b) c) (λt=>if t=b then c else j t)->kI g (G (h.at (a.put (some b) c) (.inRegion f rest::o)) n) e v) (x:f[r]?=some ⟨some b,u,q,s,l,none⟩:=by rfl) (A:b<164:=by decide) (z:h.kind≠.early:=by simp[base])
 (m:Yl g j ⟨some b,u,q,s,l,none⟩ c:=by intro ρ hρ hc d;(try dsimp only at hρ);exact⟨λp i=>by go_simp;exact i,by simp[go_sem,qg,nu,nO,mr,ms, *]⟩):kI g (G (h.at a (.inRegion f (r::rest)::o)) n) e v:=
 Tr.pure w x rfl z (λd p i=>(m a.eval k.2 (λ_=>rfl) d).1 p i) (λd=>(m a.eval k.2 (λ_=>rfl) d).2) (y<|k.put c A)
def MU{g:e_}{f:Array Oper}{h:Frame}{m:List Item}{l:List Frame}{s:Array c_->b_->Trace->Prop}{d:Act}{i:Nat->f_}{D n:d_}{B:String}{t:Array Edge}{q k j:Nat}{rest:List Nat}{e:b_->Prop}{a:Tmp}{o:List f_}{c:f_}(b:Nat)(u:Cl e)(r:Kn d i)(w:∀p,e p->p.rangeAt k j o)(v:ns g n o c)
 (y:Kn (d.put (some b) c) (λa=>if a=b then c else i a)->kI g (G (h.at (d.put (some b) c) (.inRegion f rest::m)) l) e s) (x:f[q]?=some ⟨some b,.load n<|.tmp a,D,B,t,none⟩:=by rfl) (z:i a=.pointer (some (μ k j)):=by simp) (C:b<164:=by decide) (A:h.kind≠.early:=by simp[base]):kI g (G (h.at d (.inRegion f (q::rest)::m)) l) e s:=
 Tr.load u x rfl A rfl ((r.2 a).trans z) w v (y<|r.put c C)
def TZ{d:e_}{f:Array Oper}{g:Frame}{r:List Item}{l:List Frame}{e:Array c_->b_->Trace->Prop}{c:Act}{B:Nat->f_}{k:Op}{m K:d_}{n C:String}{p D:Array Edge}{v q:Nat}{i:b_->Prop}{h:f_->b_->Prop}{o:g_}{w:Array f_}(b j:Nat)(F:Cl i)(s:∀a,Cl<|h a)(hk:Kn c B)(E:ub d e o w i h)
 (z:∀a,kI d (G (g.at ((c.put (some b) a).put (some j) a) r) l) (h a) e) (y:f[v]?=some ⟨some b,k,m,n,p,none⟩:=by rfl) (J:Enters d ⟨some b,k,m,n,p,none⟩ c o w:=by exact wN rfl (by simp[hk.2]) func9 rf rf) (M:b<164:=by decide) (u:g.kind≠.early:=by simp[base]) (L:f[q]?=some ⟨some j,.assign<|.tmp b,K,C,D,none⟩:=by rfl):kI d (G (g.at c (.inRegion f [v,q]::r)) l) i e:=by
 refine Tr.ent F y rfl u J E λa=>?_;have I:=((hk.put a M).2 b).trans<|Ys rfl;refine Tr.pure (v:=a) (s a) L rfl u (λt x A=>?_) (λt=>?_) (Tr.nil (s a)<|z a)
 .change x (Sem.run d (pure<|Next.value<|(c.put (some b) a).eval<|.tmp b) t);rw[I];exact A
 .rfl
def lO(a:Nat):Prop:=a=2\/a=3\/a=4\/a=5\/a=7
def rN(w:b_)(d:Nat):Prop:=∃(e:Array f_) (a:d_),w.heap[d]?=some (.cells e a)/\a≠34
def uV(w:b_)(d:Nat):Prop:=∃(e:Array f_) (a:d_),w.heap[d]?=some (.cells e a)
section
variable {w w':b_}{B:Nat}{c c':Nat->Nat}
def rN.one{w:b_}{d:Nat}(e:rN w d):uV w d:=let ⟨a,b,c,_⟩:=e;⟨a,b,c⟩
def j3.re{p:pL}{u:j4}{left:lw}{s:Nat}{x:Nat->a_}{r:Nat->Bool}(a:j3 w B c p u left s x r)(I:∀d,rN w d->lO (c d)->c' d=c d):j3 w B c' p u left s x r:=by
 have h:∀{d n k t},w.heap[d]?=some (.cells k t)->t≠34->c d=n->lO n->c' d=n:=λ{d n k t} h0 ht g f=>(I d ⟨k,t,h0,ht⟩ (by rw[g];exact f)).trans g;have i:lO 3:= uq rfl;have l:∀{j:f_}{e:d_}{size m:Nat}{xs:List f_}{n:Nat},w.ownsRow B e size j m xs->e≠34->(∀d,j.ownBlock=some d->c d=n)->lO n->∀d,j.ownBlock=some d->c' d=n:=λy K g f d q=>by let⟨k,C⟩:=jU y d q;exact h C K (g d q) f
 let⟨O,z⟩:=a.Aq;let⟨P,E⟩:=a.qI.block;let⟨N,L⟩:=a.tf.block;refine⟨a.dev,a.kA,a.inj,a.Aq,a.Cd,a.qI,a.tf,a.wt,a.lf,λJ A F=>?_,h a.dev dc a.cr i,λv o=>?_,h E dc a.cy i,h L dc a.cz i,l a.wt dc a.cw i,l a.lf dc a.cl i,h z dc a.cb (KH rfl),a.lo⟩
 .let⟨j,g,f,D⟩:=a.GH J A F;exact⟨j,g,f,l f dc D (KG rfl)⟩
 .let⟨Q,M⟩:=(a.kA v o).block;exact h M dc (a.cG v o) i
def kw.re{k:me}{i:j4}{l:Ls}{j:Nat}(d:kw w B c k i l j)(g:∀a,rN w a->lO (c a)->c' a=c a):kw w B c' k i l j:=by
 have f:lO 7:= WJ (.inr rfl);refine⟨d.n_,d.dk,d.wet,(g _ ⟨_,_,d.n_,dc⟩ (by rw[d.cg];exact f)).trans d.cg,λa e=>?_,λa e=>?_,d.lo⟩
 .let⟨n,h⟩:=jU d.dk a e;exact(g a ⟨_,_,h,dc⟩ (by rw[d.cd a e];exact f)).trans (d.cd a e)
 .let⟨n,h⟩:=jU d.wet a e;exact(g a ⟨_,_,h,dc⟩ (by rw[d.cw a e];exact f)).trans (d.cw a e)
def lA.WC{l:me}{k:j4}(a:lA w B c l k)(f:∀d,rN w d->lO (c d)->c' d=c d):lA w B c' l k:=by
 have e:lO 2:=.inl rfl;let⟨p,o⟩:=a.rP.lines.block;refine lA.of a.rP ((f _ ⟨_,_,a.rP.dev,dc⟩ (by rw[a.cd];exact e)).trans a.cd) ((f _ ⟨_,_,o,dc⟩ (by rw[a.cL];exact e)).trans a.cL) ((f _ ⟨_,_,a.rP.store,dc⟩ (by rw[a.cS];exact e)).trans a.cS) (λh i=>?_) (λd g=>?_) a.lo
 .let⟨n,j⟩:=(a.rP.ent h i).block;exact(f _ ⟨_,_,j,dc⟩ (by rw[a.cE h i];exact e)).trans (a.cE h i)
 .let⟨n,j⟩:=jU a.rP.wait d g;exact(f _ ⟨_,_,j,dc⟩ (by rw[a.cv d g];exact e)).trans (a.cv d g)
end
structure oW where
 q:me
 F:Cf
 D:j4
 s:Ls
 left:lw
 safe:Nat
 ys:Nat->a_
 zs:Nat->Bool
 nd:Nat
 d:a_
 ob:Nat->Nat
structure y1(w:b_)(B:Nat)(r:oW)(bdn:Nat):Prop where
 rf:j3 w B r.ob r.q.p r.q.p.rd r.left r.safe r.ys r.zs
 rg:kw w B r.ob r.q r.D r.s r.nd
 dv:lA w B r.ob r.q r.D
 lb:B<=r.q.p.lb
 cf:mK r.D r.F
 cr:mK r.q.p.rd r.F
 qB:oR r.F.z r.F.sec r.nd r.D r.q.p.rd r.s r.left r.safe r.d
 ok:kQ r.D
 bd:Bd r.F r.D r.q.p.rd r.ys r.zs bdn
 ll:∀l∈r.left,l.length<=1000
 hF:nN r.F
 nd:2*r.F.sec<=r.nd/\r.nd<=64
 own:∀g,lO (r.ob g)->B<=g/\rN w g
def y1.more{w:b_}{B b d:Nat}{e:oW}(a:y1 w B e b)(f:b<=d):y1 w B e d:=⟨a.rf,a.rg,a.dv,a.lb,a.cf,a.cr,a.qB,a.ok,a.bd.more f,a.ll,a.hF,a.nd,a.own⟩
def y1.frame{w w':b_}{B bdn:Nat}{e:oW}(d:y1 w B e bdn)(k:Below B w w')(u:∀a,lO (e.ob a)->w'.heap[a]?=w.heap[a]?):y1 w' B e bdn:=by
 classical
 let⟨i,n⟩:∃i:Nat->Nat,i=λa=>if a<B then 0 else if lO (e.ob a)then e.ob a else 8:=⟨_,rfl⟩;have x:¬lO 8:=λv=>by unfold lO at v;omega
 have o:∀a,rN w a->lO (e.ob a)->i a=e.ob a:=λa _ g=>by rw[n];simp only[Yo (show¬a<B by have:=(d.own a g).1;omega),Ys g]
 have q:∀a,rN w' a->lO (i a)->e.ob a=i a:=λa _ g=>by
  rw[n]at g⊢;simp only at g⊢;by_cases f:a<B
  .rw[Ys f]at g;unfold lO at g;omega
  .by_cases h:lO<|e.ob a
   .rw[Yo f,Ys h]
   .rw[Yo f,Yo h]at g;exact absurd g x
 have s:wX w B i:=⟨λa=>by
  rw[n];by_cases f:a<B
  .simp[f]
  .by_cases h:lO (e.ob a)
   .have:e.ob a≠0:=by unfold lO at h;omega
    simp[f,h,this]
   .simp[f,h]⟩
 have p:Fc i 8 w w':=⟨k.os,k.tape,k.output,k.size,λa t r l j=>by
  rw[n]at j;simp only at j;by_cases f:a<B
  .exact k.block a f
  .by_cases h:lO (e.ob a)
   .exact u a h
   .rw[Yo f,Yo h]at j;exact absurd rfl j,λa _ y _=>k.block a<|(s.zero a).1 y⟩
 refine⟨((d.rf.re o).frame p (mD.refl _ _) dc dc dc).re q,((d.rg.re o).frame p (mD.refl _ _) dc).re q,((d.dv.WC o).frame s p (mD.refl _ _) dc).WC q,d.lb,d.cf,d.cr,d.qB,d.ok,d.bd,d.ll,d.hF,d.nd,λa l=>⟨(d.own a l).1,?_⟩⟩;let⟨t,r,j,z⟩:=(d.own a l).2;exact⟨t,r,(u a l).trans j,z⟩
structure X0(w:b_)(B kb m:Nat)(b:lu):Prop where
 bk:kP w B kb m b
 hi:∀g,b.on kb g->B<=g
 ty:∀g,b.on kb g->BB w g
structure qV(w:b_)(B kb m:Nat)(b:lu)(KP:Nat->Prop)(rs:List oW)(bdn:Nat):Prop where
 bk:X0 w B kb m b
 n_:∀(i:Nat) r,rs[i]?=some r->y1 w B r bdn
 Sr:∀(i j:Nat) r r',rs[i]?=some r->rs[j]?=some r'->i≠j->∀g,lO (r.ob g)->¬lO (r'.ob g)
 bo:∀(i:Nat) r,rs[i]?=some r->∀g,lO (r.ob g)->¬b.on kb g
 kp:∀g,KP g->B<=g/\uV w g/\¬b.on kb g/\∀(i:Nat) r,rs[i]?=some r->¬lO (r.ob g)
 bn:bdn<=1100000
def m2(KP:Nat->Prop)(rs:List oW)(f e:Nat):Prop:=KP e\/∃(d:Nat) (a:oW),d≠f/\rs[d]?=some a/\lO (a.ob e)
open Classical in
def Eu (w:b_)(P:Nat->Prop):Nat->Option Obj:=λg=>if P g then w.heap[g]? else none
open Classical in
def oX (B kb:Nat)(b:lu)(P:Nat->Prop)(ob:Nat->Nat):Nat->Nat:=λg=>if g<B then 0 else if b.on kb g then 1 else if lO (ob g)then ob g else if P g then 6 else 9
section
variable {w w':b_}{B kb m m':Nat}{b:lu}{KP:Nat->Prop}{rs:List oW}{bdn:Nat}
def MY{f:Nat->Prop}{d:Nat->Nat}{a:Nat}(h:B<=a)(e:¬b.on kb a)(g:lO<|d a):oX B kb b f d a=d a:=by unfold oX;rw[Yo om,Yo e,Ys g]
def Ee{d:Nat->Prop}{e:Nat->Nat}{a:Nat}(i:B<=a)(f:¬b.on kb a)(h:¬lO (e a))(g:d a):oX B kb b d e a=6:=by unfold oX;rw[Yo om,Yo f,Yo h,Ys g]
def y2(h:Nat->Prop)(f:Nat->Nat):wX w B (oX B kb b h f):=⟨λd=>by
 unfold oX;by_cases a:d<B
 .simp[a]
 .rw[Yo a];by_cases g:b.on kb d
  .simp[g,a]
  .by_cases e:lO (f d)
   .have:f d≠0:=by unfold lO at e;omega
    simp[g,e,this,a]
   .by_cases i:h d<;>simp[g,e,i,a]⟩
def Hg(a:X0 w B kb m b)(e:Nat->Prop)(f:Nat->Nat):rI w B (oX B kb b e f) kb m b:=⟨a.bk,λg d=>by unfold oX;rw[Yo<|li<|a.hi g d,Ys d],a.hi,a.ty⟩
def qV.Ss(f:qV w B kb m b KP rs bdn){e a:Nat}(o:m2 KP rs e a):B<=a/\uV w a/\¬b.on kb a/\∀d,rs[e]?=some d->¬lO (d.ob a):=by
 rcases o with q|⟨k,g,p,j,i⟩
 .let⟨h,l,s,r⟩:=f.kp a q;exact⟨h,l,s,r e⟩
 .let⟨h,l⟩:=(f.n_ k g j).own a i;exact⟨h,l.one,f.bo k g j a i,λd n=>f.Sr k e g d j n p a i⟩
def qV.fx(h:qV w B kb m b KP rs bdn){g:Nat}{i:Cf}{j:Nat->Nat}(hF:i.hp=Eu w (m2 KP rs g))(o:∀a,m2 KP rs g a->¬lO (j a)):Fx i w B (oX B kb b (m2 KP rs g) j):=by
 have f:∀a e,i.hp a=some e->m2 KP rs g a/\w.heap[a]?=some e:=λa e d=>by
  rw[hF]at d;unfold Eu at d;split at d
  .exact⟨by assumption,d⟩
  .cases d
 refine⟨λa e d=>(f a e d).2,λa e d=>?_,λa e d=>(h.Ss (f a e d).1).1,λa e d=>?_⟩
 .let⟨n,_,q,_⟩:=h.Ss (f a e d).1;exact Ee n q (o a (f a e d).1) (f a e d).1
 .let⟨_,⟨p,l,k⟩,_⟩:=h.Ss (f a e d).1;rw[(f a e d).2]at k;exact⟨p,l,YR k⟩
def qV.view(g:qV w B kb m b KP rs bdn){f:Nat}{d:oW}(h:rs[f]?=some d):Full w B (oX B kb b (m2 KP rs f) d.ob) d.q kb m b {d.F with hp:=Eu w<|m2 KP rs f} d.D d.s d.left d.safe d.ys d.zs d.nd d.d bdn:=by have a:=g.n_ f d h;have j:∀e,rN w e->lO (d.ob e)->oX B kb b (m2 KP rs f) d.ob e=d.ob e:=λe _ i=>MY (a.own e i).1 (g.bo f d h e i) i;exact⟨⟨Hg g.bk ..,a.rf.re j,a.rg.re j,y2 ..,a.lb,⟨a.cf.sz,a.cf.kp,a.cf.unit,a.cf.nl,a.cf.batch,a.cf.sec,a.cf.kind⟩,⟨a.cr.sz,a.cr.kp,a.cr.unit,a.cr.nl,a.cr.batch,a.cr.sec,a.cr.kind⟩,g.fx rfl (λe k=>(g.Ss k).2.2.2 d h)⟩,a.dv.WC j,a.qB,a.ok,⟨a.bd.ar,a.bd.pn,a.bd.ln⟩,g.bn,a.ll⟩
open Classical in
def rO (w:b_)(c:Nat->Nat):Nat->Nat:=λg=>if lO (c g)/\rN w g then c g else 8
def sF{w:b_}{c:Nat->Nat}{a:Nat}(e:lO<|rO w c a):lO (c a)/\rN w a/\rO w c a=c a:=by
 unfold rO at e⊢;split at e
 .rename_i d;exact⟨d.1,d.2,by rw[Ys d]⟩
 .unfold lO at e;omega
def vW{w:b_}{c:Nat->Nat}(a:Nat)(e:rN w a)(d:lO<|c a):rO w c a=c a:=by unfold rO;rw[Ys ⟨d,e⟩]
def Hh{c:Nat->Nat}{k:me}{e:Cf}{i:j4}{l:Ls}{left:lw}{f d:Nat}{j:Nat->a_}{n:Nat->Bool}{h:a_}(a:Full w B c k kb m b e i l left f j n d h bdn)(hF:nN e)(r:2*e.sec<=d/\d<=64):
 y1 w B ⟨k,e,i,l,left,f,j,n,d,h,rO w c⟩ bdn:=by
 refine⟨a.sb.rf.re vW,a.sb.rg.re vW,a.dv.WC vW,a.sb.lb,a.sb.cf,a.sb.cr,a.qB,a.ok,a.bd,a.ll,hF,r,λs p=>?_⟩;let⟨g,q,_⟩:=sF p;refine⟨abA λo=>?_,q⟩;have:=(a.sb.nr.zero s).2 o;rw[this]at g;unfold lO at g;omega
def Fx.kept{d:Cf}{c':Nat->Nat}{g:Nat->Prop}(h:Fx d w' B c')(hF:d.hp=Eu w g){a:Nat}(i:g a)(k:uV w a):w'.heap[a]?=w.heap[a]?/\c' a=6:=by
 let⟨l,j,e⟩:=k;have f:d.hp a=some (.cells l j):=by rw[hF];unfold Eu;rw[Ys i];exact e
 exact⟨(h.mw a _ f).trans e.symm,h.ob a _ f⟩
def qV.St{Q:j4->j4->Ls->lw->Nat->(Nat->a_)->(Nat->Bool)->Prop}(q:qV w B kb m b KP rs bdn){i x:Nat}{h:oW}(N:rs[i]?=some h)(ak:mT Q w w' B h.q kb m' {h.F with hp:=Eu w<|m2 KP rs i} h.nd x)(E:bdn<=x)(R:x<=1100000):
 ∃r j,qV w' B kb m' r KP (rs.set i j) x/\j.q.g=h.q.g/\Below B w w'/\(∀a,KP a->w'.heap[a]?=w.heap[a]?)/\Q j.D j.q.p.rd j.s j.left j.safe j.ys j.zs/\j.F={h.F with hp:=Eu w<|m2 KP rs i}/\j.nd=h.nd:=by
 let⟨U,c,r,S,L,left,O,T,M,J,ad,V,ab,ae,ag,aj,p,K,ah⟩:=ak;have hF:Full w' B c U kb m' r {h.F with hp:=Eu w<|m2 KP rs i} S L left O T M h.nd J x:=⟨ad,V,ab,ae,ag,R,aj⟩;have k:=q.n_ i h N;have Y:=(Yr.1 N).1;have Z:=Hh hF ⟨k.hF.s0,k.hF.s1,k.hF.s2,k.hF.s3,k.hF.c,k.hF.h,k.hF.u,k.hF.n,k.hF.b,k.hF.kn⟩ k.nd;have y:∀a,m2 KP rs i a->w'.heap[a]?=w.heap[a]?/\c a=6:=λa p=>hF.sb.fx.kept rfl p (q.Ss p).2.1;have aa:¬lO 6:=λu=>by unfold lO at u;omega
 have C:∀a,m2 KP rs i a->¬lO (rO w' c a):=λa p f=>by have o:=(sF f).1;rw[(y a p).2]at o;exact aa o
 have s:∀(d:Nat) (e:oW) (v:oW),(rs.set i v)[d]?=some e->(d=i/\e=v)\/(d≠i/\rs[d]?=some e):=λd e v g=>by
  by_cases u:i=d
  .subst u;rw[List.getElem?_set_self Y]at g;exact .inl ⟨rfl,(YR g).symm⟩
  .rw[List.getElem?_set_ne u]at g;exact .inr ⟨λv=>u v.symm,g⟩
 have P:∀a,m2 KP rs i a->¬r.on kb a:=λa p f=>by have o:=hF.sb.bk.ob a f;rw[(y a p).2]at o;omega
 have ai:∀a,lO (rO w' c a)->¬r.on kb a:=λa f E=>by have o:=(sF f).1;rw[hF.sb.bk.ob a E]at o;unfold lO at o;omega
 refine⟨r,⟨U,{h.F with hp:=Eu w<|m2 KP rs i},S,L,left,O,T,M,h.nd,J,rO w' c⟩,⟨⟨hF.sb.bk.bk,hF.sb.bk.hi,hF.sb.bk.ty⟩,λd e g=>?_,λd z e A g l I a f=>?_,λd e g a f=>?_,λa l=>?_,R⟩,p,K,λa l=>(y a<|.inl l).1,ah,rfl,rfl⟩
 .rcases s d e _ g with⟨rfl,rfl⟩|⟨t,n⟩
  .exact Z
  .exact((q.n_ d e n).frame K λa f=>(y a<|.inr ⟨d,e,t,n,f⟩).1).more E
 .rcases s d e _ g with⟨rfl,rfl⟩|⟨t,n⟩
  .rcases s z A _ l with⟨rfl,rfl⟩|⟨F,D⟩
   .exact absurd rfl I
   .exact λW=>C a (.inr ⟨z,A,F,D,W⟩) f
  .rcases s z A _ l with⟨rfl,rfl⟩|⟨F,D⟩
   .exact C a<|.inr ⟨d,e,t,n,f⟩
   .exact q.Sr d z e A n D I a f
 .rcases s d e _ g with⟨rfl,rfl⟩|⟨t,n⟩
  .exact ai a f
  .exact P a<|.inr ⟨d,e,t,n,f⟩
 .let⟨o,⟨X,af,ac⟩,_⟩:=q.kp a l;refine⟨o,⟨X,af,(y a<|.inl l).1.trans ac⟩,P a<|.inl l,λd e g=>?_⟩;rcases s d e _ g with⟨rfl,rfl⟩|⟨t,n⟩
  .exact C a<|.inl l
  .exact(q.kp a l).2.2.2 d e n
def lc.x{w w':b_}{B kb m' d a:Nat}{f:me}{e:Cf}(p:lc w w' B f kb m' e d a):mT (λ_ _ _ _ _ _ _=>True) w w' B f kb m' e d a:=by let⟨v,n,q,h,l,j,o,r,y,d4,x,i,u,g,z,s,k,t⟩:=p;exact⟨v,n,q,h,l,j,o,r,y,d4,x,i,u,g,z,s,k,t,trivial⟩
def qV.back(k:qV w B kb m b KP rs bdn){g e:Nat}{a:oW}(i:rs[g]?=some a)(q:lc w w' B a.q kb m' {a.F with hp:=Eu w<|m2 KP rs g} a.nd e)(n:bdn<=e)(l:e<=1100000):
 ∃f d,qV w' B kb m' f KP (rs.set g d) e/\d.q.g=a.q.g/\Below B w w'/\∀h,KP h->w'.heap[h]?=w.heap[h]?:=by
 let⟨f,d,j,o,r,p,_⟩:=k.St i q.x n l;exact⟨f,d,j,o,r,p⟩
end
def Jj:lu:=⟨σ,σ,σ,σ,σ,σ,σ,σ,σ,σ,σ,σ,0,0,0,0,λ_=>False,λ_=>False,λ_=>False,λ_=>False,[],[],[],[]⟩
def BY{b c:Nat}(a:Jj.on b c):c=b:=by unfold lu.on lu.ints Jj at a;simpa[Value.ownBlock]using a
def MZ(c:b_)(d b:Nat)(a:c.heap[b]?=some (.cells #[σ,σ,σ,σ,.bool false,σ,σ,σ,σ,σ,σ,σ,σ] 33))(g:d<=b):kP c d b 0 Jj:=by have f:=Yn a;exact⟨a,sQ ..,sQ ..,sQ ..,sQ ..,λ_ a=>a.elim,λ_ a=>a.elim,λ_ a=>a.elim,λ_ a=>a.elim,Yq ..,Yq ..,Yq ..,Yq ..,Yq ..,Yq ..,Yq ..,Yq ..,⟨rfl,YC _⟩,⟨rfl,YC _⟩,⟨rfl,YC _⟩,⟨rfl,YC _⟩,YG _,YG _,YG _,YG _,λh e=>by rw[BY e];exact f,g,om⟩
def Jk(c:b_)(e d f:Nat)(b:lu)(a:kP c e d f b)(i:f<=1750000):
 Calls prog 11 #[π d] c λg h=>g=.returned (.bool true)/\Below e c h:=
 LG c e d b.oI b.oF b.oA b.oT b.cI b.wI b.cF b.wF b.cA b.wA b.cT b.wT b.nI b.nF b.nA b.nT b.pI b.pF b.pA b.pT b.xI b.xF b.xA b.xT a.mw a.LI a.PI a.LF a.PF a.LA a.PA a.LT a.PT a.CI a.WI a.CF a.WF a.CA a.WA a.CT a.WT ⟨a.nI.1,by have:=a.nI.2;omega⟩ a.xI ⟨a.nF.1,by have:=a.nF.2;omega⟩ a.xF ⟨a.nA.1,by have:=a.nA.2;omega⟩ a.xA ⟨a.nT.1,by have:=a.nT.2;omega⟩ a.xT a.lo.2 a.lo.1
def Jl(a:b_):Calls prog 8 #[] a λi h=>∃f,i=.returned (.agg #[ν 10,ν 10,ν 10,ν 10,ν 5,ν 5,ν 1,.slice (some (μ f 0)) 1 1,ν 3])/\h.heap[f]?=some (.cells #[ν 0] 3)/\a.heap.size<=f/\Below a.heap.size a h:=by
 go_enter func8,ntmps8
 go_wp2;let⟨b,c⟩:=j5<|a.alloc<|Obj.cells #[ν 10,ν 10,ν 10,ν 10,ν 5,ν 5,ν 1,ω (a.heap.size+1) 1 1,ν 3] 39;have u:b.heap.size=a.heap.size+1:=by rw[c];generalize Obj.cells _ _=o;simp
 have j:=ba c;have e:(b.alloc<|Obj.cells #[ν 0] 3).heap[a.heap.size]?=some (.cells #[ν 10,ν 10,ν 10,ν 10,ν 5,ν 5,ν 1,ω (a.heap.size+1) 1 1,ν 3] 39):=by rw[(jT (Below.refl b.heap.size b) _).block _ om,c];exact YO a _
 rw[<-c];let⟨g,d⟩:=j5<|b.alloc<|Obj.cells #[ν 0] 3;have p:Below a.heap.size a g:=by rw[d];exact jT j _
 have q:g.heap[a.heap.size+1]?=some (.cells #[ν 0] 3):=by rw[d,<-u];exact YO b _
 rw[<-d]at e⊢;let⟨t,k,r,s,m,x,n,l,w⟩:=kH e;clear c d e;refine Yx (v:=.agg #[ν 10,ν 10,ν 10,ν 10,ν 5,ν 5,ν 1,ω (a.heap.size+1) 1 1,ν 3]) ?_ rfl ⟨_,rfl,q,om,p⟩;simp[results,results8,go_sem,t,k,r,s,m,x,n,l,w]
def M0{w:b_}{B kb:Nat}(d:w.heap[kb]?=some (.cells #[σ,σ,σ,σ,.bool false,σ,σ,σ,σ,σ,σ,σ,σ] 33))(e:B<=kb):∃c,rI w B c kb 0 Jj/\wX w B c:=
 ⟨nc w B λ_=>1,rI.nc ⟨MZ w B kb d e,λ_ _=>rfl,λg a=>by rw[BY a];exact e,λg a=>by rw[BY a];exact⟨_,_,d,dc⟩⟩,qW ..⟩
def mV.cf{n q j o c k l b:Int}{h:Nat}{e:Nat->Int}(d:mV n q j o c k l h e b):∃F:Cf,nN F/\n=(F.s0:Nat)/\q=(F.s1:Nat)/\j=(F.s2:Nat)/\o=(F.s3:Nat)/\c=(F.c:Nat)/\k=(F.h:Nat)/\l=(F.u:Nat)/\h=F.n/\b=(F.b:Nat)/\∀a,a<h->e a=(F.kn a:Nat):=by
 have t:=d.sz 0 om;have r:=d.sz 1 om;have s:=d.sz 2 om;have u:=d.sz 3 om;simp only[BD]at t r s u;simp at t r s u;have y:=d.c;have v:=d.h;have x:=d.u;have z:=d.b;refine⟨⟨n.toNat,q.toNat,j.toNat,o.toNat,c.toNat,k.toNat,l.toNat,h,b.toNat,λa=>(e a).toNat,λ_=>none⟩,⟨?_,?_,?_,?_,?_,?_,⟨?_,?_⟩,d.n,⟨?_,?_⟩,λa i=>?_⟩,?_,?_,?_,?_,?_,?_,?_,rfl,?_,λa i=>?_⟩
 all_goals first
  |(have:=d.ln a i;show _=((e a).toNat:Int);omega)
  |(have:=d.ln a i;show(e a).toNat<=1;omega)
  |(simp only[];omega)
section
variable {w w':b_}{B:Nat}{c:Nat->Nat}{q1:me}{D:j4}{kb m:Nat}{b:lu}{F:Cf}{p:pL}{left:lw}{A0:Nat}{ys:Nat->a_}{zs:Nat->Bool}{nd g:Nat}{f:Nat->a_}{dv:f_}
def J1(h:rI w B c kb m b)(o:j3 w B c p p.rd left A0 ys zs)(n:B<=p.lb)(l:mK D F)(r:mK p.rd F)(s:Fx F w B c)(a:Below w.heap.size w w')(j:w'.heap[g]?=some (.cells (Dm {q1 with g:=g,p:=p,dv:=dv,wt:=σ} D 0) 52))(q:w.heap.size<=g)(i:w'.ownsRow w.heap.size 9 1 dv nd<|od f nd):
 nJ w' B (nc w' B<|kU w c 7) {q1 with g:=g,p:=p,dv:=dv,wt:=σ} kb m b F D {dk:=f,wet:=[],least:=0} left A0 ys zs nd:=by
 have t:=h.bk.lo.2;exact nJ.norm (h.frame (k:=9) (Fc.jX a) (jW w c 7) dc) (o.frame (k:=9) (Fc.jX a) (jW w c 7) dc dc dc) ⟨j,j9 i t,Yq _ _ _ _,kB _ _ 7 _ q,λd e=>kB _ _ 7 d (i.lt d e).1,(λd e=>by cases e),by show B<=g;omega⟩ n l r (s.frame (k:=9) (Fc.jX a) (jW w c 7) dc)
end
structure qT(w:b_)(B:Nat)(c:Nat->Nat)(ad:Option Addr)(n k:Nat)(ln:Nat->Int):Prop where
 hv:qo w ad n ln
 Ey:Src w (.slice ad n k) n<|((List.range n).map ln).flatMap ka
 hn:n<=1048576
 hk:∀a,ad=some a->0<n->a.block<w.heap.size/\(a.block<B\/(uV w a.block/\c a.block=6))
def qT.same{w l:b_}{B n k:Nat}{c v:Nat->Nat}{ad:Option Addr}{ln:Nat->Int}(h:qT w B c ad n k ln)(x:w.heap.size<=l.heap.size)(s:∀a,a<w.heap.size->(a<B\/(uV w a/\c a=6))->l.heap[a]?=w.heap[a]?)(E:∀a,a<w.heap.size->uV w a->c a=6->v a=6):qT l B v ad n k ln:=by
 have L:∀a t,l.heap[a]?=w.heap[a]?->l.cell? (μ a t)=w.cell? (μ a t):=λa t g=>by simp only[World.cell?,g]
 refine⟨λp j=>?_,?_,h.hn,λe I D=>?_⟩
 .let⟨a,J,d,f,i,o⟩:=h.hv p j;exact⟨a,J,d,Yy f x,(L _ _ (s a f (h.hk _ d om).2)).trans i,o⟩
 .rcases h.Ey with K|⟨e,y,g,z⟩
  .exact .inl K
  .refine .inr ⟨e,y,g,λp C j=>?_⟩;simp only[YN]at g;have d:=h.hk e g.1 (Z0 λA=>by rw[A]at j;simp at j);have f:=z p C j;rw[<-f];have F:(e.add p).block=e.block:=by unfold Addr.add;split<;>rfl
   unfold World.cell?;rw[F,s e.block d.1 d.2]
 .let⟨d,f⟩:=h.hk e I D;refine⟨Yy d x,f.imp id λ⟨⟨q,r,i⟩,o⟩=>⟨⟨q,r,(s _ d (.inr ⟨⟨q,r,i⟩,o⟩)).trans i⟩,E _ d ⟨q,r,i⟩ o⟩⟩
def qT.nD{w d:b_}{B n k:Nat}{c:Nat->Nat}{ad:Option Addr}{ln:Nat->Int}(h:qT w B c ad n k ln)(i:wX w B c)(f:Below w.heap.size w d):qT d B (nc d B<|kU w c 9) ad n k ln:=
 h.same f.size (λe a _=>f.block e a) (λe a _ g=>((jW w c 9).nc i e a).trans g)
def qT.fc{w i:b_}{B n k:Nat}{c f:Nat->Nat}{ad:Option Addr}{ln:Nat->Int}(h:qT w B c ad n k ln)(p:wX w B c)(d:Fc c 1 w i)(r:yB w c f):qT i B f ad n k ln:=
 h.same d.size (λa e j=>by
  rcases j with s|⟨⟨q,l,o⟩,t⟩
  .exact d.low a e ((p.zero a).2 s) dc
  .exact d.all a q l o<|qx t) (λa e _ g=>(r a e<|qx g).trans g)
def qT.mY{w:b_}{B kb m n k:Nat}{c:Nat->Nat}{b:lu}{ad:Option Addr}{ln:Nat->Int}(h:qT w B c ad n k ln)(e:rI w B c kb m b):∀a,ad=some a->0<n->a.block<w.heap.size/\¬b.on kb a.block:=λa g l=>by
 let⟨f,j⟩:=h.hk a g l;refine⟨f,λd=>?_⟩;rcases j with i|⟨_,i⟩
 .have:=e.hi _ d;omega
 .have:=e.ob _ d;omega
def Jm(w:b_)(B kb m:Nat)(c:Nat->Nat)(b:lu)(s0 s1 s2 s3 cc M u bb:Int)(n k e F:Nat)(ad o:Option Addr)(ln:Nat->Int)(q:Nat->a_)(A:Int)(bz:rI w B c kb m b)(N:wX w B c)(T:m<=1850000)(t:qT w B c ad n k ln)
 (S:Src w (.slice o e F) e<|od q e) (Z:OW w o e q) (af:e<=100) (X:∀C,o=some C->C.block<w.heap.size/\¬b.on kb C.block)
 (V:∀(d:b_) (j x g y:Nat),j<d.heap.size->qJ d j e q->g<d.heap.size->(∀z,z<n->d.cell? (μ g z)=some (ν<|ln z))->Calls prog 25 #[.agg #[ν s0,ν s1,ν s2,ν s3,ν cc,ν M,ν u,ω g n y,ν bb],ω j e x] d λi a=>i=.returned (.tuple #[.pointer none,σ,ν A])/\Below d.heap.size d a):
 Calls prog 13 #[.agg #[ν s0,ν s1,ν s2,ν s3,ν cc,ν M,ν u,.slice ad n k,ν bb],.slice o e F,π kb] w λi a=>∃J K v I,i=.returned (.tuple #[.pointer none,.slice J 0 K,ν A,.bool true])/\rI a B I kb (m+5) v/\wX a B I/\yB w c I/\Fc c 1 w a:=by
 have ag:=bz.bk.lo.2
 refine(Az w B kb m b s0 s1 s2 s3 cc M u bb n k e F ad o ln q A [] (λ_ O _=>O=.pointer none) bz.bk T t.hv t.Ey (li t.hn) (t.mY bz) S Z om X si (λd j x g y _ f D R Q _=>(V d j x g y f D R Q).mono (by
  rintro i a ⟨rfl,aa⟩
  exact⟨_,rfl,_,_,rfl,Yq ..,aa,rfl⟩))).mono ?_
 rintro i a ⟨O,ae,v,ab,ac,rfl,P,hK,Y,_,_,rfl,_⟩;obtain⟨J,K,rfl,_⟩:=i_ Y;let⟨l,E⟩:∃l:Nat->Nat,∀g,(g<w.heap.size->l g=c g)/\(w.heap.size<=g->l g=1):=⟨kU w c 1,λg=>⟨λM=>jW w c 1 g M,λM=>kB w c 1 g M⟩⟩
 have U:rI a B l kb (m+5)<|v.trim a:=by
  refine⟨P.trim,λg hg=>?_,λg hg=>?_,λg hg=>P.plain hg⟩
  .rcases hK.on g (lu.sO hg)with r|r
   .rw[(E g).1<|bz.bk.here g r];exact bz.ob g r
   .exact(E g).2 r
  .exact Sa
 have L:∀g,c g≠1->¬b.on kb g:=λg f D=>f<|bz.ob g D;refine⟨J,K,v.trim a,nc a B l,rfl,U.nc,qW ..,λg hg f=>?_,⟨hK.os,hK.tape,hK.output,hK.size,λg _ _ hg f=>hK.keep g (Yn hg)<|L g f,λg hg f _=>hK.keep g hg<|L g om⟩⟩;unfold nc;by_cases s:g<B
 .rw[Ys s,(N.zero g).2 s]
 .have W:c g≠0:=λi=>s<|(N.zero g).1 i;rw[Yo s,(E g).1 hg,Yo W]
def Hi{w e:b_}{ad:Option Addr}{n d:Nat}{ln:Nat->Int}(j:qo w ad n ln)(g:d<e.heap.size)(l:∀a,a<n->e.cell? (μ d a)=some (ν<|ln a)):qo e (some (μ d 0)) n ln:=λa f=>by let⟨_,_,_,_,_,i,o⟩:=j a f;exact⟨d,0,rfl,g,by rw[YF];exact l a f,i,o⟩
def mV.W7{s0 s1 s2 s3 c h u b:Int}{n:Nat}{ln:Nat->Int}(a:mV s0 s1 s2 s3 c h u n ln b):2<=2*max 1 (((c.toNat+7)/8+2*h.toNat+61)/62)/\2*max 1 (((c.toNat+7)/8+2*h.toNat+61)/62)<=6:=by have e:=a.sz 0 om;have d:=a.sz 2 om;simp only[BD]at e d;simp at e d;have g:=a.c;have f:=a.h;omega
def EB(a:Nat):od (λ_=>j0) a=List.replicate a (Value.string j0):=by
 unfold od;rw[List.map_const',abt]
 induction a with
 |zero=>rfl
 |succ e d=>rw[abh,ZY,d,abh];rfl
def Su(w d:b_)(B kb m:Nat)(c:Nat->Nat)(e:Ending):Prop:=e=.returned (.tuple #[.pointer none,.bool true])/\∃a f,rI d B a kb m f/\wX d B a/\yB w c a/\Fc c 1 w d
def wP(w d:b_)(B kb m:Nat)(c:Nat->Nat):Prop:=∃a e,rI d B a kb m e/\wX d B a/\yB w c a/\Fc c 1 w d
section
variable (w:b_)(B kb m:Nat)(c:Nat->Nat)(b:lu)(s0 s1 s2 s3 cc h u bb:Int)(n k:Nat)(ad:Option Addr)(ln:Nat->Int)
def wQ(bz:rI w B c kb m b)(o:wX w B c)(S:m<=1800000)(F:qT w B c ad n k ln)(z:Int)(f:Nat)(R:f<=100)
 (E:∀(d:b_) (q J g cap:Nat),q<d.heap.size->qJ d q f (λ_=>j0)->g<d.heap.size->(∀j,j<n->d.cell? (μ g j)=some (ν<|ln j))->Calls prog 25 #[.agg #[ν s0,ν s1,ν s2,ν s3,ν cc,ν h,ν u,ω g n cap,ν bb],ω q f J] d λe i=>e=.returned (.tuple #[.pointer none,σ,ν z])/\Below d.heap.size d i)
 (d:b_) (r:Option Addr) (t:Nat) (l:Below w.heap.size w d) (aO:d.ownsRow w.heap.size 9 1 (.slice r f t) f<|od (λ_=>j0) f):
 Calls prog 13 #[.agg #[ν s0,ν s1,ν s2,ν s3,ν cc,ν h,ν u,.slice ad n k,ν bb],.slice r f t,π kb] d λe i=>∃v y,e=.returned (.tuple #[.pointer none,.slice v 0 y,ν z,.bool true])/\wP w i B kb (m+5) c/\∀g cur s,w.heap.size<=g->d.heap[g]?=some (.cells cur s)->i.heap[g]?=d.heap[g]?:=by
 have T:=bz.bk.lo.2;have I:rI d B (nc d B<|kU w c 9) kb m b:=(bz.frame (k:=9) (Fc.jX l) (jW w c 9) dc).nc;obtain⟨_,_,A,cb⟩:=i_ aO;simp only[YN,aab]at A;obtain⟨rfl,rfl⟩:=A;refine(Jm d B kb m _ b s0 s1 s2 s3 cc h u bb n k f t ad r ln (λ_=>j0) z I (qW _ _ _) om (F.nD o l) (sZ aO) ?_ R ?_ E).mono ?_
 .exact Rc
 .exact QB
 .rintro e i ⟨v,y,Q,N,rfl,L,D,K,C⟩;refine⟨v,y,rfl,⟨N,Q,L,D,λg hg O=>(K g (Yy hg l.size) (by rw[(jW w c 9).nc o g hg];exact O)).trans<|(jW w c 9).nc o g hg,(Fc.jX l).trans C<|(jW w c 9).nc o⟩,λg cur s hg P=>C.all g cur s P ?_⟩;rw[Ay om (kB w c 9 g hg) dc];decide
def Jn(O:Int)(bz:rI w B c kb m b)(j:wX w B c)(E:m<=1800000)(a:qT w B c ad n k ln)(i:¬mV s0 s1 s2 s3 cc h u n ln bb):
 Calls prog 7 #[.agg #[ν s0,ν s1,ν s2,ν s3,ν cc,ν h,ν u,.slice ad n k,ν bb],ν O,π kb] w λe w'=>Su w w' B kb (m+5) c e:=by
 refine Qo ?_;intro aC X ae ar bH ao
 have v:Hid<|Calls prog 12 #[.agg #[ν s0,ν s1,ν s2,ν s3,ν cc,ν h,ν u,.slice ad n k,ν bb]] X λe w'=>e=.returned (.tuple #[ν 0,.bool true])/\Below X.heap.size X w':=(vx s0 s1 s2 s3 cc h u bb n k ad ln X (a.hv.nD ar)<|li a.hn).mono (by
  rintro e w' ⟨⟨_,h2⟩|⟨h1,_⟩,R⟩
  .exact⟨h2,R⟩
  .exact absurd h1 i)
 obtain⟨s,J,Q,y,t,S,K,r,z⟩:=kH ao;have da:=h_ ar;have gv:=h_ ao;have fF:Hid (∀(w1:b_) (f:Option Addr) (g:Nat),Below w.heap.size w w1->w1.ownsRow w.heap.size 9 1 (.slice f 64 g) 64 (od (λ_=>j0) 64)->Calls prog 13 #[.agg #[ν s0,ν s1,ν s2,ν s3,ν cc,ν h,ν u,.slice ad n k,ν bb],.slice f 64 g,π kb] w1 λe w'=>∃bI bJ,e=.returned (.tuple #[.pointer none,.slice bI 0 bJ,ν 2,.bool true])/\wP w w' B kb (m+5) c/\∀d I L,w.heap.size<=d->w1.heap[d]?=some (.cells I L)->w'.heap[d]?=w1.heap[d]?):=λw1 f g h1 h2=>wQ w B kb m c b s0 s1 s2 s3 cc h u bb n k ad ln bz j E a 2 64 om (λw1 T A d C h1 h2 h3 h4=>zz s0 s1 s2 s3 cc h u bb n C 64 A _ _ ln w1 (Hi a.hv h3 h4) (li a.hn) i) w1 f g h1 h2;clear ao ar a i bz j
 go_enter func7,ntmps7
 go_upto_region 1 with fail
 rw[<-ae];clear ae
 go_wp2_with fail
 refine v.o.mono ?_;rintro e w1 ⟨rfl,aP⟩;refine SY ?_;intro cp hbx1 a6 b3 bS b5 b4 b8 b9 b' b7 bX eK;have fG:Hid (Calls prog 31 #[ν 64] w1.drew λe w'=>∃l,e=.returned l/\w'.ownsRow w1.drew.heap.size 9 1 l 64 (od (λ_=>j0) 64)/\Below w1.drew.heap.size w1.drew w'):=vy 64 w1.drew om;clear aP hbx1 s J Q y t S K r z
 go_upto_region 5 with fail
 go_cut [10,11,12,13]from 35 to 43 (λF P N x D=>∃bI bJ,F=.pointer none/\P=.slice bI 0 bJ/\N=ν 2/\x=.bool true/\wP w D B kb (m+5) c)
 case first=>exact U3
 case rest=>exact J7
def mj(a:Int):Nat:=if a<0 then(-(a+1)).toNat else a.toNat
def Jo(ch:Int)(W:mq ch)(bz:rI w B c kb m b)(J:wX w B c)(Y:m<=1800000)(t:qT w B c ad n k ln)(y:mV s0 s1 s2 s3 cc h u n ln bb)(ah:mj ch%7=6):
 Calls prog 7 #[.agg #[ν s0,ν s1,ν s2,ν s3,ν cc,ν h,ν u,.slice ad n k,ν bb],ν ch,π kb] w λe w'=>Su w w' B kb (m+5) c e:=by
 refine Qo ?_;intro aC X ae ar bH ao;have aj:=y.W7;obtain⟨d,E⟩:=j5<|2*max 1 (((cc.toNat+7)/8+2*h.toNat+61)/62);rw[<-E]at aj;obtain⟨M,F⟩:=j5<|mj ch;obtain⟨a,z⟩:=j5 (if M%2=0 then 65 else d-1)
 have R:Hid<|Calls prog 12 #[.agg #[ν s0,ν s1,ν s2,ν s3,ν cc,ν h,ν u,.slice ad n k,ν bb]] X λe w'=>e=.returned (.tuple #[ν d,.bool true])/\Below X.heap.size X w':=(vx s0 s1 s2 s3 cc h u bb n k ad ln X (t.hv.nD ar)<|li t.hn).mono (by
  rintro e w' ⟨⟨h1,_⟩|⟨_,h2⟩,ak⟩
  .exact absurd y h1
  .rw[E];exact⟨h2,ak⟩)
 obtain⟨P,ac,ai,S,Q,al,af,N,T⟩:=kH ao;have da:=h_ ar;have gv:=h_ ao;have an:a<=65:=by rw[z];split<;>omega
 have I:BE a d λ_=>j0:=by
  rw[z];split
  .exact .inr<|.inl om
  .exact .inl om
 have fF:Hid (∀(w1:b_) (C:Option Addr) (D:Nat),Below w.heap.size w w1->w1.ownsRow w.heap.size 9 1 (.slice C a D) a (od (λ_=>j0) a)->Calls prog 13 #[.agg #[ν s0,ν s1,ν s2,ν s3,ν cc,ν h,ν u,.slice ad n k,ν bb],.slice C a D,π kb] w1 λe w'=>∃bI bJ,e=.returned (.tuple #[.pointer none,.slice bI 0 bJ,ν 3,.bool true])/\wP w w' B kb (m+5) c/\∀x ab ag,w.heap.size<=x->w1.heap[x]?=some (.cells ab ag)->w'.heap[x]?=w1.heap[x]?):=λw1 C D h1 h2=>wQ w B kb m c b s0 s1 s2 s3 cc h u bb n k ad ln bz J Y t 3 a om (λw1 O U x V h1 h2 h3 h4=>Dr s0 s1 s2 s3 cc h u bb n V a U O d _ ln _ w1 (Hi t.hv h3 h4) (li t.hn) y E om h1 om h2 I) w1 C D h1 h2;unfold mq at W;have am:(M:Int)<=9223372036854775807:=by rw[F];unfold mj;split<;>omega
 have eI:=h_ F;have A:=h_ z;have h7:(M:Int).tmod 7=6:=by rw[Zv om];omega
 obtain⟨v,Z⟩:∃v:Nat,v=65-d:=⟨_,rfl⟩;have ax:IntKind.i64.wrap (65-(d:Int))=(v:Int):=wo;have au:¬(v:Int)=0:=om;have av:¬v=0:=om;have K:IntKind.i64.wrap ((d:Int)-1)=((d-1:Nat):Int):=wo;have ap:¬(d:Int)=0:=om;have aa:¬d=0:=om;have aw:((d:Int)==0)=false:=by simpa using aa
 clear ao ar t y bz J F z I E Z ah
 go_enter func7,ntmps7
 go_upto_region 1 with fail
 rw[<-ae];clear ae
 go_wp2_with fail
 refine R.o.mono ?_;rintro e w1 ⟨rfl,aP⟩;refine SY ?_;intro cp hbx1 a6 b3 bS b5 b4 b8 b9 b' b7 bX eK;have fG:Hid (Calls prog 31 #[ν a] w1.drew λe w'=>∃L,e=.returned L/\w'.ownsRow w1.drew.heap.size 9 1 L a (od (λ_=>j0) a)/\Below w1.drew.heap.size w1.drew w'):=vy a w1.drew om;clear aP hbx1 P ac ai S Q al af N T;by_cases hN:ch<0
 .refine QW ?_;intro en dQ;rcases aai M with f|f
  .have h2:(M:Int).tmod 2=0:=by rw[Zv om];omega
   have g:a=65:=by rw[A.o,Ys f]
   subst g;clear f
   go_upto_region 14 with fail
   go_cut [15,16,17,18]from 77 to 86 (λl s r i j=>∃bI bJ,l=.pointer none/\s=.slice bI 0 bJ/\r=ν 3/\i=.bool true/\wP w j B kb (m+5) c)
   case first=>exact U3
   case rest=>exact J7
  .have h2:(M:Int).tmod 2=1:=by rw[Zv om];omega
   have g:a=d-1:=by rw[A.o,Yo om]
   rw[<-g]at K;clear f g
   go_upto_region 14 with fail
   go_cut [15,16,17,18]from 77 to 86 (λl s r i j=>∃bI bJ,l=.pointer none/\s=.slice bI 0 bJ/\r=ν 3/\i=.bool true/\wP w j B kb (m+5) c)
   case first=>exact U3
   case rest=>exact J7
 .have gw:ch=(M:Int):=by rw[eI.o];unfold mj;rw[Yo hN];omega
  subst gw;have aq:¬(M:Int)<0:=om;rcases aai M with f|f
  .have h2:(M:Int).tmod 2=0:=by rw[Zv om];omega
   have g:a=65:=by rw[A.o,Ys f]
   subst g;clear f
   go_upto_region 14 with fail
   go_cut [15,16,17,18]from 77 to 86 (λl s r i j=>∃bI bJ,l=.pointer none/\s=.slice bI 0 bJ/\r=ν 3/\i=.bool true/\wP w j B kb (m+5) c)
   case first=>exact U3
   case rest=>exact J7
  .have h2:(M:Int).tmod 2=1:=by rw[Zv om];omega
   have g:a=d-1:=by rw[A.o,Yo om]
   rw[<-g]at K;clear f g
   go_upto_region 14 with fail
   go_cut [15,16,17,18]from 77 to 86 (λl s r i j=>∃bI bJ,l=.pointer none/\s=.slice bI 0 bJ/\r=ν 3/\i=.bool true/\wP w j B kb (m+5) c)
   case first=>exact U3
   case rest=>exact J7
end
def Ex(d:Nat->a_)(a:Nat)(e:a<=3):(kN d a (lM d a)<|o1 d a).length<=100:=by
 have:=(yq d a (lM d a) (o1 d a) (sK _ _) (xN _ _) 2).2.2;unfold kN;split
 .simp
 .exact zU
def Hu(c l h g e k:Nat):nM c l (ly h g λ_=>j0) e k=vv c [] e k:=by
 have j:∀i,kV (λ_=>j0) i g=0:=λi=>by unfold kV;rw[H7];split<;>rfl
 have n:o1 (λ_=>j0) g=0:=by unfold o1;rw[j,j];rfl
 unfold ly;rw[Ys n];unfold nM vv;by_cases d:e=0
 .rw[Ys d,Ys d];have:Pl.bit (ql h) 0 k=0:=by unfold Pl.bit;rw[tN];simp
  by_cases a:k<c
  .rw[Ys a,Ys a,this];rfl
  .rw[Yo a,Yo a];rfl
 .rw[Yo d,Yo d];by_cases f:e=2
  .rw[Ys f,Ys f,H0];by_cases a:k<l
   .rw[Ys a];rfl
   .rw[Yo a];rfl
  .rw[Yo f,Yo f]
@[reducible] def SG : j4 -> j4 -> Ls -> lw -> Nat -> (Nat -> a_) -> (Nat -> Bool) -> Prop := λ_ _ _ _ _ a d => a = (λ_ => ⟨#[]⟩) /\ d = λ_ => false
def Made(w f:b_)(B kb m:Nat)(F:Cf)(e:Nat)(d:Ending):Prop:=∃a,d=.returned (.tuple #[π a.g,.bool true])/\mT SG w f B a kb m F e 0
structure W8(w wx:b_)(B kb m:Nat)(F:Cf)(ad:Option Addr)(k:Nat)(c1:Nat->Nat)(b1:lu)(q1:me)(N:Nat)(ov:f_):Prop where
 bk:rI wx B c1 kb m b1
 nr:wX wx B c1
 dv:lA wx B c1 q1<|F.dev N (lM (λ_=>j0) F.sec) (o1 (λ_=>j0) F.sec)<|ly F.z F.sec λ_=>j0
 ow:wx.ownsRow B 77 4 ov (kN (λ_=>j0) F.sec (lM (λ_=>j0) F.sec)<|o1 (λ_=>j0) F.sec).length<|(kN (λ_=>j0) F.sec (lM (λ_=>j0) F.sec)<|o1 (λ_=>j0) F.sec).flatMap ku
 co:∀x,ov.ownBlock=some x->c1 x=9
 bx:wx.heap[w.heap.size]?=some (.cells #[ν F.s0,ν F.s1,ν F.s2,ν F.s3,ν F.c,ν F.h,ν F.u,.slice ad F.n k,ν F.b] 39)
 ci:qT wx B c1 ad F.n k λj=>(F.kn j:Nat)
 bl:Below B w wx
 fx:Fx F wx B c1
section
variable (w:b_)(B kb m:Nat)(c:Nat->Nat)(b:lu)(F:Cf)(k:Nat)(ad:Option Addr)
def M1(bz:rI w B c kb m b)(O:wX w B c)(hF:nN F)(W:m<=1800000)(E:qT w B c ad F.n k λj=>(F.kn j:Nat))(T:Fx F w B c)(f:Nat)(U:2*F.sec<=f/\f<=64)(d:b_)(r:Option Addr)(s:Nat)(h:Below w.heap.size w d)(v:d.heap[w.heap.size]?=some (.cells #[ν F.s0,ν F.s1,ν F.s2,ν F.s3,ν F.c,ν F.h,ν F.u,.slice ad F.n k,ν F.b] 39))(aO:d.ownsRow w.heap.size 9 1 (.slice r f s) f<|od (λ_=>j0) f):
 Calls prog 13 #[.agg #[ν F.s0,ν F.s1,ν F.s2,ν F.s3,ν F.c,ν F.h,ν F.u,.slice ad F.n k,ν F.b],.slice r f s,π kb] d λe z=>∃l o D J t,e=.returned (.tuple #[π l.d,o,ν 0,.bool true])/\W8 w z B kb (m+5) F ad k D J l t o:=by
 have C:=bz.bk.lo.2;have q:rI d B (nc d B<|kU w c 9) kb m b:=(bz.frame (k:=9) (Fc.jX h) (jW w c 9) dc).nc;have i:=E.nD O h;obtain⟨_,_,y,cb⟩:=i_ aO;simp only[YN,aab]at y;obtain⟨rfl,rfl⟩:=y;have L:Fx F d B<|nc d B<|kU w c 9:=(T.frame (k:=9) (Fc.jX h) (jW w c 9) dc).nc;refine(AA d B kb m (nc d B<|kU w c 9) b F k f s ad r (λ_=>j0) q (qW _ _ _) hF om i.hv i.Ey (i.mY q) (sZ aO) ?_ U ?_ (λ_ _=>uh)).mono ?_
 .exact Rc
 .exact QB
 .rintro e z ⟨l,o,R,N,t,rfl,K,I,Q,S,V,u,n⟩;have A:B<=d.heap.size:=q.bk.lo.2;have P:nc d B (kU w c 9) w.heap.size=9:=Ay C (kB w c 9 _ kM) dc;exact⟨l,o,N,R,t,rfl,K,I,Q,j9 S A,V,(n.keep _ _ _ v (.inl dc) (qx P)).trans v,i.fc (qW _ _ _) n u,(h.mono C).trans<|n.toBelow (qW _ _ _) dc A,L.vz n u dc⟩
def Jp(ch:Int)(aa:mq ch)(z:rI w B c kb m b)(Q:wX w B c)(hF:nN F)(X:m<=1800000)(hi:qT w B c ad F.n k λj=>(F.kn j:Nat))(P:Fx F w B c)(T:mV F.s0 F.s1 F.s2 F.s3 F.c F.h F.u F.n (λj=>(F.kn j:Nat)) F.b)(V:mj ch%7≠6)(nd:Nat)(v:nd=2*F.sec+mj ch%(65-2*F.sec)):
 Calls prog 7 #[.agg #[ν F.s0,ν F.s1,ν F.s2,ν F.s3,ν F.c,ν F.h,ν F.u,.slice ad F.n k,ν F.b],ν ch,π kb] w λe w'=>Made w w' B kb (m+5) F nd e:=by
 obtain⟨jJ,jI,_⟩:=Cf.u9 hF;have ax:=z.bk.lo.2;obtain⟨u,t⟩:=j5<|w.alloc<|.cells #[ν F.s0,ν F.s1,ν F.s2,ν F.s3,ν F.c,ν F.h,ν F.u,.slice ad F.n k,ν F.b] 39;have J:=ba t;have az:u.heap.size=w.heap.size+1:=by rw[t];generalize Obj.cells _ _=o;simp
 have O:=v' t;obtain⟨h,E⟩:=j5<|2*F.sec;rw[<-E]at v;obtain⟨M,y⟩:=j5<|mj ch;rw[<-y]at v V
 have K:Hid<|Calls prog 12 #[.agg #[ν F.s0,ν F.s1,ν F.s2,ν F.s3,ν F.c,ν F.h,ν F.u,.slice ad F.n k,ν F.b]] u λe w'=>e=.returned (.tuple #[ν h,.bool true])/\Below u.heap.size u w':=(vx F.s0 F.s1 F.s2 F.s3 F.c F.h F.u F.b F.n k ad (λj=>(F.kn j:Nat)) u (hi.hv.nD J)<|li hi.hn).mono (by
  rintro e w' ⟨⟨h1,_⟩|⟨_,h2⟩,an⟩
  .exact absurd T h1
  .rw[E];exact⟨h2,an⟩)
 obtain⟨ai,af,am,ak,aj,ao,ag,ah,al⟩:=kH O;have da:=h_ J;have gv:=h_ O;have ab:M%(65-h)<65-h:=ab4 _ om;have hQ:2*F.sec<=nd/\nd<=64:=om;have fF:=h_<|M1 w B kb m c b F k ad z Q hF X hi P nd hQ;unfold mq at aa;have ay:(M:Int)<=9223372036854775807:=by rw[y];unfold mj;split<;>omega
 have eI:=h_ y;obtain⟨s,W⟩:∃s:Nat,s=M%7:=⟨_,rfl⟩;have h7:(M:Int).tmod 7=(s:Int):=by rw[Zv om];omega
 have ac:¬(s:Int)=6:=om;have ap:¬s=6:=om;obtain⟨n,R⟩:∃n:Nat,n=65-h:=⟨_,rfl⟩;have aF:IntKind.i64.wrap (65-(h:Int))=(n:Int):=wo;have au:¬(n:Int)=0:=om;have aC:¬n=0:=om;rw[<-R]at v;obtain⟨r,U⟩:∃r:Nat,r=M%n:=⟨_,rfl⟩;have aq:(M:Int).tmod (n:Int)=(r:Int):=by rw[Zv om,U];exact(Int.natCast_emod M n).symm
 have ar:IntKind.i64.wrap ((h:Int)+(r:Int))=(nd:Int):=wo;have aA:¬(h:Int)=0:=om;have ae:¬h=0:=om;have aE:((h:Int)==0)=false:=by simpa using ae
 have aw:((s:Int)==6)=false:=by simpa using ac
 have aD:IntKind.i64.wrap (r:Int)=(r:Int):=wo;have av:=h_ P;clear O J hi T z Q y v E R V U ab P W
 go_enter func7,ntmps7
 go_upto_region 1 with fail
 rw[<-t];clear t
 go_wp2_with fail
 refine K.o.mono ?_;rintro e w1 ⟨rfl,aP⟩;refine SY ?_;intro cp hbx1 a6 b3 bS b5 b4 b8 b9 b' b7 bX eK;have fG:Hid (∀w8:b_,Calls prog 31 #[ν nd] w8 λe w'=>∃S,e=.returned S/\w'.ownsRow w8.heap.size 9 1 S nd (od (λ_=>j0) nd)/\Below w8.heap.size w8 w'):=λw8=>vy nd w8 om;clear aP hbx1 ai af am ak aj ao ag ah al;by_cases hN:ch<0
 .refine QW ?_;intro en dQ
  go_upto_region 16 with fail
  go_cut [19,20,21,22]from 101 to 110 (λa I c' L d=>∃q1 eM c1 dX N,a=π q1.d/\I=eM/\c'=ν 0/\L=.bool true/\W8 w d B kb (m+5) F ad k c1 dX q1 N eM)
  case first=>exact U7
  case rest=>
   obtain⟨q1,eM,c1,dX,N,rfl,rfl,rfl,rfl,hK⟩:=hcut;obtain⟨A,hA⟩:=j5<|kN (λ_=>j0) F.sec (lM (λ_=>j0) F.sec)<|o1 (λ_=>j0) F.sec;have db:=hK.ow;rw[<-hA]at db;obtain⟨bI,bJ,rfl,_⟩:=i_ db;refine Vd ?_;intro gG dC cq gz gC gL gJ gK z8 iU fi eq gH hR hU;clear hK db hA b3 bS b5 b4 b8 b9 b' b7 bX fF K eK cp gv da a6
   go_wp2_with fail
   refine fi.o.mono ?_;rintro e w7 ⟨cG,fh,rfl,ho7,gF⟩;refine XH ?_;intro Y cd hs7 iV eL hYg ci hV eP eR eQ eS u5 eN hT hO eO gB fQ fg c7 dR fP fj fH fR fI fl fN fO gE fK gA gx gy fL gD gI fJ hS;clear gF ho7 eL hYg ci eO fQ fg fP dR fj fH fR fI fl fN fO fi gG dC cq gz gC gL gJ gK z8
   go_upto_region 20 with fail
   rw[<-cd];clear cd
   go_cut [24]from 123 to 130 (λC d=>∃(q:me) (c':Nat->Nat),C=π q.g/\nJ d B c' q kb (m+5) dX F (F.dev N (lM (λ_=>j0) F.sec) (o1 (λ_=>j0) F.sec)<|ly F.z F.sec λ_=>j0) {dk:=λ_=>j0,wet:=[],least:=0} [kC (F.dev N (lM (λ_=>j0) F.sec) (o1 (λ_=>j0) F.sec)<|ly F.z F.sec λ_=>j0).ent F.c F.h] 0 (λ_=>⟨#[]⟩) (λ_=>false) nd/\lA d B c' q (F.dev N (lM (λ_=>j0) F.sec) (o1 (λ_=>j0) F.sec)<|ly F.z F.sec λ_=>j0)/\q.p.rd=(F.dev N (lM (λ_=>j0) F.sec) (o1 (λ_=>j0) F.sec)<|ly F.z F.sec λ_=>j0)/\d.ownsRow B 77 4 (.slice bI A.length bJ) A.length (A.flatMap ku)/\(∀x,(Value.slice bI A.length bJ).ownBlock=some x->c' x=9)/\Below B w d)
   case first=>exact XI
   case rest=>exact U4
 .have gw:ch=(M:Int):=by rw[eI.o];unfold mj;rw[Yo hN];omega
  subst gw;have aB:¬(M:Int)<0:=om
  go_upto_region 16 with fail
  go_cut [19,20,21,22]from 101 to 110 (λa I c' L d=>∃q1 eM c1 dX N,a=π q1.d/\I=eM/\c'=ν 0/\L=.bool true/\W8 w d B kb (m+5) F ad k c1 dX q1 N eM)
  case first=>exact U7
  case rest=>
   obtain⟨q1,eM,c1,dX,N,rfl,rfl,rfl,rfl,hK⟩:=hcut;obtain⟨A,hA⟩:=j5<|kN (λ_=>j0) F.sec (lM (λ_=>j0) F.sec)<|o1 (λ_=>j0) F.sec;have db:=hK.ow;rw[<-hA]at db;obtain⟨bI,bJ,rfl,_⟩:=i_ db;refine Vd ?_;intro gG dC cq gz gC gL gJ gK z8 iU fi eq gH hR hU;clear hK db hA b3 bS b5 b4 b8 b9 b' b7 bX fF K eK cp gv da a6
   go_wp2_with fail
   refine fi.o.mono ?_;rintro e w7 ⟨cG,fh,rfl,ho7,gF⟩;refine XH ?_;intro Y cd hs7 iV eL hYg ci hV eP eR eQ eS u5 eN hT hO eO gB fQ fg c7 dR fP fj fH fR fI fl fN fO gE fK gA gx gy fL gD gI fJ hS;clear gF ho7 eL hYg ci eO fQ fg fP dR fj fH fR fI fl fN fO fi gG dC cq gz gC gL gJ gK z8
   go_upto_region 20 with fail
   rw[<-cd];clear cd
   go_cut [24]from 123 to 130 (λC d=>∃(q:me) (c':Nat->Nat),C=π q.g/\nJ d B c' q kb (m+5) dX F (F.dev N (lM (λ_=>j0) F.sec) (o1 (λ_=>j0) F.sec)<|ly F.z F.sec λ_=>j0) {dk:=λ_=>j0,wet:=[],least:=0} [kC (F.dev N (lM (λ_=>j0) F.sec) (o1 (λ_=>j0) F.sec)<|ly F.z F.sec λ_=>j0).ent F.c F.h] 0 (λ_=>⟨#[]⟩) (λ_=>false) nd/\lA d B c' q (F.dev N (lM (λ_=>j0) F.sec) (o1 (λ_=>j0) F.sec)<|ly F.z F.sec λ_=>j0)/\q.p.rd=(F.dev N (lM (λ_=>j0) F.sec) (o1 (λ_=>j0) F.sec)<|ly F.z F.sec λ_=>j0)/\d.ownsRow B 77 4 (.slice bI A.length bJ) A.length (A.flatMap ku)/\(∀x,(Value.slice bI A.length bJ).ownBlock=some x->c' x=9)/\Below B w d)
   case first=>exact XI
   case rest=>exact U4
end

def T8{i:Nat->Bool}(b e f:Nat)(g:Nat->Nat)(n:f_)(a:j4)(c:b_)(p:j1 i c b e f g n a)(m:xh a):
 Calls prog 36 #[π b] c λl k=>∃j o,l=.returned j/\k.ownsRow c.heap.size 77 4 j (j' a).2.length ((j' a).2.flatMap ku)/\(a.uns≠0->o=σ)/\j1 i k b e f g o (j' a).1/\lC a.base (lS i b e f g) c k:=by
 have t:=h_<|AU b e f g n a c p m;clear p m
 go_enter func36,ntmps36
 go_wp2_with fail
 apply t.o.mono;rintro l w ⟨j,u,rfl,h,q,s,r⟩;obtain⟨x,v,rfl,_⟩:=i_ h;have d:=h_<|And.intro h<|And.intro q<|And.intro s r;clear h q s r;go_wp2;go_ret;exact⟨_,u,rfl,d.o.1,d.o.2.1,d.o.2.2.1,d.o.2.2.2⟩
theorem PB(w:b_)(B:Nat)(c:Nat->Nat)(q:me)(kb m:Nat)(b:lu)(F:Cf)(D:j4)(s:Ls)(left:lw)(safe:Nat)(bL:Nat->a_)(bK:Nat->Bool)(Y:Nat)(ab:a_)(d:Nat)(o:nE)(M:Full w B c q kb m b F D s left safe bL bK Y ab d)(hF:nN F)(ai:m<=1600000)(bB:2*F.sec<=Y/\Y<=64)(Z:yu o)(l:o.kind=5):
 l4 prog 9 #[π q.g,.agg<|k9 o,π kb] w λa w'=>a=.returned (.bool true)/\lc w w' B q kb (m+11) F Y d:=by
 refine Ca ?_;intro a6 ev a3;have aC:=M.sb.bk.bk.lo.2;refine AW ?_;intro X ae ar ao;have bd:=M.below ar;obtain⟨bN,bZ⟩:=j5<|nc X B<|kU w c 9;rw[<-bZ]at bd;refine Kk ?_;intro bo;have L:X.cell? (μ w.heap.size 0)=some (ν 5):=by rw[Yu _ _ _ _ _ _ ao];show some (ν o.kind)=_;rw[l]
 refine QM ?_;intro k0 ik T eX dd;have e:=h_<|T8 q.d q.L q.S q.E q.wv D X bd.dv.rP bd.ok.fl;refine QR ?_;intro eb di gR gV;rw[<-eX]at dd e eb;obtain⟨eV,f⟩:=j5 T.1;obtain⟨A,z⟩:=j5 T.2;rw[<-f,<-z]at dd e;rw[<-f]at eb;refine U9 ?_;intro fZ HST;clear fZ bd bo bZ ar M l ao eX f z;refine B8 ?_
 go_upto_region 1 with fail
 rw[<-ae];clear ae
 go_upto_region 17 with fail
 go_wp2_with fail
 refine e.o.mono ?_;rintro a w1 ⟨v,ft,rfl,t,_,eW,fr⟩;obtain⟨c1,hA⟩:=HST.o w1 v ft t eW fr;obtain⟨i,h,rfl,_⟩:=i_ hA.row;refine Kl ?_;intro ew;have y:=hA.sb.rf.cw;have il:Hid (Calls prog 35 #[π q.p.r] w1.drew λa ag=>∃v,a=.returned v/\(ag.heap[w.heap.size]?=some (.cells (k9 o) 42)/\Calls prog 33 #[π q.g,.slice i A.length h,v,.agg<|k9 o,π kb] ag λa j=>∃u,a=.returned u/\(u=.bool true/\lc w j B q kb (m+11) F Y d))):=by refine(tU w1.drew B c1 q.p q.p.rd left safe bL bK ew (li di.o) (by have:=di.o;have:=gR.o;omega)).mono ?_;rintro a ag ⟨rfl,n,jy,jz,_⟩;refine U_ ?_;intro hf dm ip ea im fs gS gT gU hsim P;refine(wO ag B (nc ag B c1) {q with wv:=ft,p:={q.p with wv:=σ,rd:={q.p.rd with uns:=0,wait:=[]}}} kb m b F eV s left (left.length-1) bL bK Y o (.slice i A.length h) q.p.wv B B A q.p.rd.wait gU gS gT hF om bB Z fs kM (λg hg=>⟨lN (B:=B) fs kM dc (show(1:Nat)≠0 by decide) (λg hg=>(hA.vc g hg).1) g hg,(hA.vc g hg).2⟩) n (λg hg=>by rw[lN (B:=B) n kM dc (show(3:Nat)≠0 by decide) y g hg];decide) P.M4 P.al P.wl P.wet P.ls P.num P.oQ P.least hsim P.ok d P.bd gV P.ll).mono ?_;rintro a aj ⟨rfl,hst⟩;obtain⟨O,K,N,C,aa,I,V,ac,S,d4,Q,E,W,ah,U,ad,J,af⟩:=hst;exact⟨_,rfl,rfl,O,K,N,C,aa,I,V,ac,S,d4,Q,E,W,ah,U,ad,J,(hA.bl.trans<|hf.toBelow hA.sb.nr dc hA.sb.bk.bk.lo.2).trans af⟩
 obtain⟨_,_,_,_,_,_,_,ij,_⟩:=hA.sb.cells a3;have io:=h_ hA.bx;clear t eW fr hA ew y L k0 HST e dd eb
 go_upto_region 18 with fail
 refine Md (bx:=w.heap.size) (g:=q.g) (r:=q.p.r) (kb:=kb) (vl:=.slice i A.length h) (o:=o) (R:=λu j=>u=.bool true/\lc w j B q kb (m+11) F Y d) si qU qU qU qU ij io.o il.o (λ_ _ _ _ _ M=>M) ?_;exact Qw
section
variable {O:Nat->Bool}
def pM(c:Nat->Nat->Int)(e d:Nat)(f:Int):Nat->Nat->Int:=λb a=>if b=e/\a=d then f else c b a
def mB(d:Nat->Nat)(a c b:Int):Prop:=(a=1\/a=3)/\0<=c/\c<(d a.toNat:Int)/\0<=b/\b<=65535/\(a=1->b<=1)
def sG(a:j4)(d c b:Int):j4:={a with ent:=pM a.ent d.toNat c.toNat b}
def Hk(O:Nat->Bool)(f k g:Nat)(h:Nat->Nat)(l:f_)(a:j4)(b c d:Int)(j:b_)(i:Ending)(e:b_):Prop:=(mB a.sz b c d/\i=.returned (ν 0)/\j1 O e f k g h l (sG a b c d)/\lC a.base (lS O f k g h) j e)\/(¬mB a.sz b c d/\i=.returned (ν 1)/\e=j)
def y5(k:Nat)(f:Nat->Nat)(i:pL)(a:j4)(left:lw)(j:Nat)(l:Nat->a_)(m:Nat->Bool)(c b e:Int)(h:b_)(g:Ending)(d:b_):Prop:=(mB a.sz c b e/\g=.returned (ν 0)/\j3 d k f i (sG a c b e) left j l m/\Fc f 3 h d)\/(¬mB a.sz c b e/\g=.returned (ν 1)/\d=h)
def y6(a:b_):Calls prog 66 #[ν 1] a λb c=>b=.returned (ν 1)/\c=a:=by
 go_enter func66,ntmps66
 go_wp2;go_ret;exact⟨rfl,rfl⟩
def VY(l r u:Nat)(c b:Int)(g:Nat->Nat)(t:f_)(a:j4)(h:b_)(M:j1 O h l r u g t a)(L:a.sz 1<=60):
 Calls prog 28 #[π l,ν 1,ν c,ν b] h (Hk O l r u g t a 1 c b h):=by
 have I:=M.r6 (i:=1) om;have K:=(M.ent 1 om).lt;let⟨E,o⟩:=(M.ent 1 om).block;have m:=h_ M;have z:=h_ o;by_cases D:0<=c/\c<(a.sz 1:Int)
 .obtain⟨k,rfl⟩:∃k:Nat,c=(k:Int):=⟨c.toNat,om⟩;have s:k<a.sz 1:=om;have B:=(M.ent 1 om).cell (j:=0) s om;rw[YS,YE]at B;have F:h.frozen? (μ (g 1) k)=false:=Y2 _ _ _ _ _ o;have v:(k:Int)<(a.sz 1:Int):=om;by_cases n:0<=b/\b<=1
  .have A:Hid<|mB a.sz 1 (k:Int) b:=⟨si,om,v,n.1,om,λd=>by omega⟩
   go_enter func28,ntmps28
   go_wp2_with fail
   refine(lX _ _ _ _ om om).mono ?_;rintro e w1 ⟨rfl,rfl⟩
   go_wp2_with fail
   refine(y6 _).mono ?_;rintro e ag ⟨rfl,rfl⟩
   go_wp2_with fail
   refine(lX _ _ _ _ om om).mono ?_;rintro e w3 ⟨rfl,rfl⟩;go_wp2;go_ret;have C:=oo (v:=b) (m.o.ent 1 om) s;have q:kf (g 1) w3<|w3.setCell (μ (g 1) k)<|ν b:=(kf.refl ..).setCell ..;refine .inl ⟨A,rfl,m.o.put om q (C.congr λi _ _ _=>?_) (λi J y=>?_),lC.Bk q z (EK _ _ _ _ _ om)<|m.o.lo.2.2.2 1 om⟩
   .show ν (if i=k then _ else a.ent 1 i)=ν (pM a.ent 1 k b 1 i);exact Gs
   .unfold pM;rw[Yo λM=>y M.1]
  .have cZ:Hid<|¬mB a.sz 1 (k:Int) b:=λd=>n ⟨d.2.2.2.1,by have w:=d.2.2.2.2.1;have x:=d.2.2.2.2.2;first|exact w|exact x rfl⟩
   go_enter func28,ntmps28
   go_wp2_with fail
   refine(lX _ _ _ _ om om).mono ?_;rintro e w1 ⟨rfl,rfl⟩
   go_wp2_with fail
   refine(y6 _).mono ?_;exact Q4
 .have cZ:Hid<|¬mB a.sz 1 c b:=λd=>D ⟨d.2.1,d.2.2.1⟩;exact Q1
def T_(d:b_)(r:Nat)(l:Nat->Nat)(p:pL)(b:j4)(left:lw)(q:Nat)(t:Nat->a_)(o:Nat->Bool)(c a:Int)(M:j3 d r l p b left q t o)(_:b.sz 1<=60):
 Calls prog 37 #[π p.r,ν 1,ν c,ν a] d (y5 r l p b left q t o 1 c a d):=by
 have Q:=M.tq (i:=1) om;have D:d.cell? (μ p.r 1)=some (ν<|b.sz 1):=(Yu _ _ _ _ _ _ M.dev).trans rfl;have F:=(M.kA 1 om).lt;have I:=Yn M.dev;have m:=h_ M;by_cases s:0<=c/\c<(b.sz 1:Int)
 .obtain⟨k,rfl⟩:∃k:Nat,c=(k:Int):=⟨c.toNat,om⟩;have n:k<b.sz 1:=om;have P:=M.C8 (i:=1) (k:=k) om n;obtain⟨C,w⟩:=(M.kA 1 om).block;have E:d.frozen? (μ (p.G 1) k)=false:=Y2 _ _ _ _ _ w;have u:(k:Int)<(b.sz 1:Int):=om;by_cases h:0<=a/\a<=1
  .have A:Hid<|mB b.sz 1 (k:Int) a:=⟨si,om,u,h.1,om,λg=>by omega⟩;have d1:decide (a<0)=false:=so;have d2:decide (65535<a)=false:=so;have d3:decide (1<a)=decide (1<a):=rfl
   go_enter func37,ntmps37
   go_wp2;go_ret;have B:=oo (v:=a) (m.o.kA 1 om) n;have x:kf (p.G 1) d<|d.setCell (μ (p.G 1) k)<|ν a:=(kf.refl _ _).setCell _ _;refine .inl ⟨A.o,rfl,m.o.put (f:=pM b.ent 1 k a) (j:=1) om x (B.congr λi _ _ _=>?_) (λi R z=>?_),(Fc.refl l 3 d).setCell _ _ (.inr<|m.o.cG 1 om) _⟩
   .show ν (if i=k then _ else b.ent 1 i)=ν (pM b.ent 1 k a 1 i);exact Gs
   .unfold pM;rw[Yo λM=>z M.1]
  .have cZ:Hid<|¬mB b.sz 1 (k:Int) a:=λg=>h ⟨g.2.2.2.1,by have v:=g.2.2.2.2.1;have y:=g.2.2.2.2.2;first|exact v|exact y rfl⟩;by_cases K:a<0
   .clear h;exact zi
   .by_cases S:65535<a
    .clear h;exact zi
    .have J:1<a:=om;exact zi
 .have cZ:Hid<|¬mB b.sz 1 c a:=λg=>s ⟨g.2.1,g.2.2.1⟩;by_cases L:c<0
  .clear s M;exact zi
  .have N:(b.sz 1:Int)<=c:=om;exact zi
def y7(a:b_):Calls prog 66 #[ν 3] a λb c=>b=.returned (ν 65535)/\c=a:=by
 go_enter func66,ntmps66
 go_wp2;go_ret;exact⟨rfl,rfl⟩
def VZ(l r u:Nat)(c b:Int)(g:Nat->Nat)(t:f_)(a:j4)(h:b_)(M:j1 O h l r u g t a)(L:a.sz 3<=60):
 Calls prog 28 #[π l,ν 3,ν c,ν b] h (Hk O l r u g t a 3 c b h):=by
 have I:=M.r6 (i:=3) om;have K:=(M.ent 3 om).lt;let⟨E,o⟩:=(M.ent 3 om).block;have m:=h_ M;have z:=h_ o;by_cases D:0<=c/\c<(a.sz 3:Int)
 .obtain⟨k,rfl⟩:∃k:Nat,c=(k:Int):=⟨c.toNat,om⟩;have s:k<a.sz 3:=om;have B:=(M.ent 3 om).cell (j:=0) s om;rw[YS,YE]at B;have F:h.frozen? (μ (g 3) k)=false:=Y2 _ _ _ _ _ o;have v:(k:Int)<(a.sz 3:Int):=om;by_cases n:0<=b/\b<=65535
  .have A:Hid<|mB a.sz 3 (k:Int) b:=⟨si,om,v,n.1,om,λd=>by omega⟩
   go_enter func28,ntmps28
   go_wp2_with fail
   refine(lX _ _ _ _ om om).mono ?_;rintro e w1 ⟨rfl,rfl⟩
   go_wp2_with fail
   refine(y7 _).mono ?_;rintro e ag ⟨rfl,rfl⟩
   go_wp2_with fail
   refine(lX _ _ _ _ om om).mono ?_;rintro e w3 ⟨rfl,rfl⟩;go_wp2;go_ret;have C:=oo (v:=b) (m.o.ent 3 om) s;have q:kf (g 3) w3<|w3.setCell (μ (g 3) k)<|ν b:=(kf.refl ..).setCell ..;refine .inl ⟨A,rfl,m.o.put om q (C.congr λi _ _ _=>?_) (λi J y=>?_),lC.Bk q z (EK _ _ _ _ _ om)<|m.o.lo.2.2.2 3 om⟩
   .show ν (if i=k then _ else a.ent 3 i)=ν (pM a.ent 3 k b 3 i);exact Gs
   .unfold pM;rw[Yo λM=>y M.1]
  .have cZ:Hid<|¬mB a.sz 3 (k:Int) b:=λd=>n ⟨d.2.2.2.1,by have w:=d.2.2.2.2.1;have x:=d.2.2.2.2.2;first|exact w|exact x rfl⟩
   go_enter func28,ntmps28
   go_wp2_with fail
   refine(lX _ _ _ _ om om).mono ?_;rintro e w1 ⟨rfl,rfl⟩
   go_wp2_with fail
   refine(y7 _).mono ?_;exact Q4
 .have cZ:Hid<|¬mB a.sz 3 c b:=λd=>D ⟨d.2.1,d.2.2.1⟩;exact Q1
def T'(d:b_)(r:Nat)(l:Nat->Nat)(p:pL)(b:j4)(left:lw)(q:Nat)(t:Nat->a_)(o:Nat->Bool)(c a:Int)(M:j3 d r l p b left q t o)(_:b.sz 3<=60):
 Calls prog 37 #[π p.r,ν 3,ν c,ν a] d (y5 r l p b left q t o 3 c a d):=by
 have P:=M.tq (i:=3) om;have D:d.cell? (μ p.r 3)=some (ν<|b.sz 3):=(Yu _ _ _ _ _ _ M.dev).trans rfl;have F:=(M.kA 3 om).lt;have I:=Yn M.dev;have m:=h_ M;by_cases s:0<=c/\c<(b.sz 3:Int)
 .obtain⟨k,rfl⟩:∃k:Nat,c=(k:Int):=⟨c.toNat,om⟩;have n:k<b.sz 3:=om;have N:=M.C8 (i:=3) (k:=k) om n;obtain⟨C,w⟩:=(M.kA 3 om).block;have E:d.frozen? (μ (p.G 3) k)=false:=Y2 _ _ _ _ _ w;have u:(k:Int)<(b.sz 3:Int):=om;by_cases h:0<=a/\a<=65535
  .have A:Hid<|mB b.sz 3 (k:Int) a:=⟨si,om,u,h.1,om,λg=>by omega⟩;have d1:decide (a<0)=false:=so;have d2:decide (65535<a)=false:=so;have d3:decide (1<a)=decide (1<a):=rfl
   go_enter func37,ntmps37
   go_wp2;go_ret;have B:=oo (v:=a) (m.o.kA 3 om) n;have x:kf (p.G 3) d<|d.setCell (μ (p.G 3) k)<|ν a:=(kf.refl _ _).setCell _ _;refine .inl ⟨A.o,rfl,m.o.put (f:=pM b.ent 3 k a) (j:=3) om x (B.congr λi _ _ _=>?_) (λi Q z=>?_),(Fc.refl l 3 d).setCell _ _ (.inr<|m.o.cG 3 om) _⟩
   .show ν (if i=k then _ else b.ent 3 i)=ν (pM b.ent 3 k a 3 i);exact Gs
   .unfold pM;rw[Yo λM=>z M.1]
  .have cZ:Hid<|¬mB b.sz 3 (k:Int) a:=λg=>h ⟨g.2.2.2.1,by have v:=g.2.2.2.2.1;have y:=g.2.2.2.2.2;first|exact v|exact y rfl⟩;by_cases J:a<0
   .clear h;exact zi
   .by_cases R:65535<a
    .clear h;exact zi
    .exact absurd h om
 .have cZ:Hid<|¬mB b.sz 3 c a:=λg=>s ⟨g.2.1,g.2.2.1⟩;by_cases K:c<0
  .clear s M;exact zi
  .have L:(b.sz 3:Int)<=c:=om;exact zi
def PC(d h i:Nat)(a c f:Int)(j:Nat->Nat)(g:f_)(b:j4)(e:b_)(l:j1 O e d h i j g b)(n:∀m,m<4->b.sz m<=60):
 Calls prog 28 #[π d,ν a,ν c,ν f] e (Hk O d h i j g b a c f e):=by
 by_cases k:a=1
 .subst k;exact VY d h i c f j g b e l<|n 1 om
 .by_cases o:a=3
  .subst o;exact VZ d h i c f j g b e l<|n 3 om
  .have p:Hid<|¬mB b.sz a c f:=λr=>by rcases r.1 with q|q<;>omega
   have d1:(a !=1)=true:=by simp[k]
   have d3:(a !=3)=true:=by simp[o]
   go_enter func28,ntmps28
   go_wp2;go_ret;exact .inr ⟨p,rfl,rfl⟩
def M6(d:b_)(h:Nat)(f:Nat->Nat)(p:pL)(b:j4)(left:lw)(g:Nat)(i:Nat->a_)(j:Nat->Bool)(a c e:Int)(M:j3 d h f p b left g i j)(m:∀l,l<4->b.sz l<=60):
 Calls prog 37 #[π p.r,ν a,ν c,ν e] d (y5 h f p b left g i j a c e d):=by
 by_cases k:a=1
 .subst k;exact T_ d h f p b left g i j c e M (m 1 om)
 .by_cases n:a=3
  .subst n;exact T' d h f p b left g i j c e M (m 3 om)
  .have cZ:Hid<|¬mB b.sz a c e:=λq=>by rcases q.1 with o|o<;>omega
   have d1:(a !=1)=true:=by simp[k]
   have d3:(a !=3)=true:=by simp[n]
   exact zi
end
def mB.ent{a:j4}{c b e:Int}(j:mB a.sz c b e)(k:n4 a.ent):n4 (sG a c b e).ent:=λd f=>by
 let⟨h,p,q,l,n,i⟩:=j;show 0<=pM a.ent c.toNat b.toNat e d f/\pM a.ent c.toNat b.toNat e d f<65536/\(d<2->pM a.ent c.toNat b.toNat e d f<2);unfold pM;split
 .rename_i m;refine⟨l,om,λo=>?_⟩;rcases h with g|g
  .have:=i g;omega
  .subst g;have:=m.1;simp at this;omega
 .exact k d f
def mB.kept{b:j4}{a c d:Int}(k:mB b.sz a c d)(g h:Nat):kC (sG b a c d).ent g h=kC b.ent g h:=by
 have j:a.toNat≠0/\a.toNat≠2:=by rcases k.1 with i|i<;>subst i<;>decide
 exact sm (λe _=>by show pM b.ent a.toNat c.toNat d 0 e=_;unfold pM;rw[Yo λf=>j.1 f.1.symm]) (λe _=>by show pM b.ent a.toNat c.toNat d 2 e=_;unfold pM;rw[Yo λf=>j.2 f.1.symm])
def oR.put{k i l j:Nat}{b h:j4}{m:Ls}{left:lw}{d:a_}{e c f:Int}(a:oR k i l b h m left j d)(g:mB b.sz e c f):oR k i l (sG b e c f) (sG h e c f) m left j d:=
 ⟨⟨a.fl.sz,g.ent a.fl.ent,a.fl.xe,a.fl.xg,a.fl.lat,a.fl.stamp,a.fl.sec,a.fl.qq,a.fl.uns,a.fl.GN⟩,⟨a.tw.sz,a.tw.kp,a.tw.unit,a.tw.nl,a.tw.batch,by show pM h.ent _ _ _=pM b.ent _ _ _;rw[a.tw.ent],a.tw.uns,a.tw.kind,a.tw.wt⟩,a.top,a.cm,a.rd,a.ll,by rw[show kC (sG b e c f).ent ((sG b e c f).kp 0) ((sG b e c f).kp 2)=kC b.ent (b.kp 0) (b.kp 2)from g.kept ..];exact a.la,a.ix,λn=>(a.u0 n).trans (g.kept ..).symm,a.le,a.sf,a.hz,a.hs,a.hn⟩
def kQ.put{b:j4}{d c e:Int}(a:kQ b)(f:mB b.sz d c e):kQ (sG b d c e):=⟨a.sz,f.ent a.ent,a.xe,a.xg,a.unit,a.batch,a.nl,a.lat,a.stamp,a.sec,a.qq,a.uns,a.w0,a.GN,a.top⟩
def mK.put{b:j4}{c:Cf}{e d f:Int}(a:mK b c):mK (sG b e d f) c:=⟨a.sz,a.kp,a.unit,a.nl,a.batch,a.sec,a.kind⟩
def V0(a f:j4)(c b d e:Int):Prop:=(mB a.sz c b d/\e=0/\f=sG a c b d)\/(¬mB a.sz c b d/\e=1/\f=a)
structure V1(w wx:b_)(B:Nat)(c1:Nat->Nat)(q:me)(kb m:Nat)(b:lu)(F:Cf)(D D':j4)(s:Ls)(left:lw)(safe:Nat)(ys:Nat->a_)(zs:Nat->Bool)(nd:Nat)(o:nE):Prop where
 sb:nJ wx B c1 q kb m b F D s left safe ys zs nd
 dv:lA wx B c1 q D'
 bx:wx.heap[w.heap.size]?=some (.cells (k9 o) 42)
 cb:c1 w.heap.size=9
 bl:Below B w wx
theorem Ua(w:b_)(g:Nat)(c:Nat->Nat)(q:me)(r z:Nat)(E:lu)(v:Cf)(l:j4)(D:Ls)(left:lw)(t:Nat)(u:Nat->a_)(s:Nat->Bool)(x:Nat)(V:a_)(K:Nat)(o:nE)(M:Full w g c q r z E v l D left t u s x V K)(L:0<x)(Y:o.kind=6):
 l4 prog 9 #[π q.g,.agg<|k9 o,π r] w λb j=>b=.returned (.bool true)/\lc w j g q r z v x K:=by
 have aC:=M.sb.bk.bk.lo.2;refine AW ?_;intro X ae ar ao;have a:=M.below ar.drew;obtain⟨bN,bZ⟩:=j5<|nc X.drew g<|kU w c 9;rw[<-bZ]at a;refine Gt ?_;intro bo;have am:X.cell? (μ w.heap.size 0)=some (ν 6):=by rw[Yu _ _ _ _ _ _ ao];show some (ν o.kind)=_;rw[Y]
 refine Ko ?_;intro cq;have S:X.cell? (μ w.heap.size 3)=some (ν o.b):=(Yu _ _ _ _ _ _ ao).trans rfl;have P:X.cell? (μ w.heap.size 4)=some (ν o.c):=(Yu _ _ _ _ _ _ ao).trans rfl;obtain⟨_,_,_,_,_,_,k0,_⟩:=a.sb.cells L;have ax:X.cell? (μ q.g 0)=some (π q.d):=k0;have ad:=Yn ao;have ac:=h_<|PC q.d q.L q.S o.a o.b o.c q.E q.wv l X.drew a.dv.rP a.ok.sz
 have aa:∀(O:b_) (b:Ending),Hk (oc bN X.drew) q.d q.L q.S q.E q.wv l o.a o.b o.c X.drew b O->∃m A h,b=.returned (ν m)/\V0 l A o.a o.b o.c m/\V1 w O g h q r z E v l A D left t u s x o:=λO b d=>by
  rcases d with⟨d,rfl,av,ap⟩|⟨d,rfl,rfl⟩
  .obtain⟨i,aq⟩:=qX a.dv a.sb.nr av ap rfl 9;have n:=oD X.drew bN q.wv 9;have ab:=(i.keep _ _ _ ao (.inl dc) (qx bo)).trans ao;have ak:g<=X.drew.heap.size:=a.sb.bk.bk.lo.2;exact⟨0,_,_,rfl,.inl ⟨d,rfl,rfl⟩,nJ.norm (a.sb.bk.frame i n dc) (a.sb.rf.frame i n dc dc dc) (a.sb.rg.frame i n dc) a.sb.lb a.sb.cf a.sb.cr<|a.sb.fx.frame i n dc,aq,ab,mg aC ab dc ((n _ ad).trans bo) dc,(ar.drew.mono aC).trans<|i.toBelow a.sb.nr dc ak⟩
  .exact⟨1,l,bN,rfl,.inr ⟨d,rfl,rfl⟩,a.sb,a.dv,ao,bo,ar.drew.mono aC⟩
 have I:=h_ aa;have e:=h_ a;clear aa a bo bZ ar M Y k0 ao;refine B8 ?_
 go_upto_region 1 with fail
 rw[<-ae];clear ae
 go_upto_region 20 with fail
 go_cut [14]from 123 to 133 (λb Q=>∃(m:Int) (A:j4) (h:Nat->Nat),b=ν m/\V0 l A o.a o.b o.c m/\V1 w Q g h q r z E v l A D left t u s x o)
 case first=>
  go_region_held3 (λj=>j.cell? (μ q.g 0)=some (π q.d)/\j.cell? (μ w.heap.size 2)=some (ν o.a)/\j.cell? (μ w.heap.size 3)=some (ν o.b)/\j.cell? (μ w.heap.size 4)=some (ν o.c)) (go_keep)
   (first
    |(go_at_call 28;refine ac.o.mono ?_;intro b f J;obtain⟨m,A,h,rfl,B,hA⟩:=I.o f b J;obtain⟨_,_,_,_,_,_,f1,_⟩:=hA.sb.cells L;have f2:=(Yu _ _ 2 _ _ _ hA.bx).trans (show _=some (ν o.a)from rfl);have f3:=(Yu _ _ 3 _ _ _ hA.bx).trans (show _=some (ν o.b)from rfl);have f4:=(Yu _ _ 4 _ _ _ hA.bx).trans (show _=some (ν o.c)from rfl)))
  have ag:=h_<|And.intro B hA;clear hA J B f1 f2 f3 f4;go_wp2
  go_meet
  exact⟨_,_,_,rfl,ag.o.1,ag.o.2⟩
 case rest=>
  obtain⟨m,A,h,rfl,B,hA⟩:=hcut;clear am cq S P ax ad ac I;obtain⟨_,_,_,_,_,_,_,af,_,_,_,_,_,_,_,_,_,_,_,_,_,aw⟩:=hA.sb.cells L;have cq:wc.cell? (μ w.heap.size 2)=some (ν o.a):=(Yu _ _ _ _ _ _ hA.bx).trans rfl;have S:wc.cell? (μ w.heap.size 3)=some (ν o.b):=(Yu _ _ _ _ _ _ hA.bx).trans rfl;have P:wc.cell? (μ w.heap.size 4)=some (ν o.c):=(Yu _ _ _ _ _ _ hA.bx).trans rfl;have ai:=hA.sb.rf.frame (k:=9) (w':=wc.drew) (Fc.jX br.drew) (mD.refl _ _) dc dc dc;have aj:=h_<|M6 wc.drew g h q.p q.p.rd left t u s o.a o.b o.c ai (by rw[e.o.qB.tw.sz];exact e.o.ok.sz)
  have Z:∀(f:b_) (b:Ending),y5 g h q.p q.p.rd left t u s o.a o.b o.c wc.drew b f->b=.returned (ν m)/\f.heap[w.heap.size]?=some (.cells (k9 o) 42)/\f.cell? (μ q.g 1)=some (π q.p.r)/\lc w f g q r z v x K:=λf b d=>by
   have al:=e.o.qB.tw.sz;unfold y5 at d;rw[al]at d;rcases d with⟨d,rfl,an,au⟩|⟨d,rfl,rfl⟩
   .rcases B with⟨_,rfl,rfl⟩|⟨T,_,_⟩
    .have i:Fc h 3 wc f:=(Fc.jX (k:=3) br.drew).trans au<|mD.refl _ _;have n:mD wc h h:=mD.refl _ _;have y:=hA.dv.frame hA.sb.nr i n dc;have C:=(i.keep _ _ _ hA.bx (.inl dc) (qx hA.cb)).trans hA.bx;have ah:mK (sG l o.a o.b o.c) v:=hA.sb.cf.put;have N:nJ f g (nc f g h) {q with p:={q.p with rd:=sG q.p.rd o.a o.b o.c}} r z E v (sG l o.a o.b o.c) D left t u s x:=nJ.norm (hA.sb.bk.frame i n dc) (an.ghost _) ((hA.sb.rg.frame i n dc).Wx hA.sb.cf ah rfl rfl rfl rfl rfl rfl rfl) hA.sb.lb ah hA.sb.cr.put<|hA.sb.fx.frame i n dc;have R:lA f g (nc f g h) {q with p:={q.p with rd:=sG q.p.rd o.a o.b o.c}}<|sG l o.a o.b o.c:=lA.nc ⟨y.rP,y.cd,y.cL,y.cS,y.cE,y.cv,y.lo⟩;obtain⟨_,_,_,_,_,_,_,t1,_⟩:=N.cells L;refine⟨rfl,C,t1,?_⟩;exact⟨_,_,E,_,D,left,t,u,s,V,N,R,e.o.qB.put d,e.o.ok.put d,⟨e.o.bd.ar,e.o.bd.pn,e.o.bd.ln⟩,e.o.ll,rfl,hA.bl.trans<|i.toBelow hA.sb.nr dc hA.sb.bk.bk.lo.2⟩
    .exact absurd d T
   .rcases B with⟨T,_,_⟩|⟨_,rfl,rfl⟩
    .exact absurd T d
    .have U:Below wc.heap.size wc wc.drew:=br.drew;have N:=hA.sb.below U;have R:=(hA.dv.frame hA.sb.nr (Fc.jX (k:=9) U) (jW wc h 9) dc).nc;refine⟨rfl,hA.bx,af,?_⟩;exact⟨q,_,E,_,D,left,t,u,s,V,N,R,e.o.qB,e.o.ok,e.o.bd,e.o.ll,rfl,hA.bl.trans<|U.mono hA.sb.bk.bk.lo.2⟩
  have I:=h_ Z;clear Z hA ai e B
  go_upto_region 21 with fail
  go_cut [15]from 134 to 144 (λb Q=>b=ν m/\lc w Q g q r z v x K)
  case first=>
   go_region_held3 (λj=>j.cell? (μ q.g 1)=some (π q.p.r)/\j.cell? (μ w.heap.size 2)=some (ν o.a)/\j.cell? (μ w.heap.size 3)=some (ν o.b)/\j.cell? (μ w.heap.size 4)=some (ν o.c)) (go_keep)
    (first
     |(go_at_call 37;refine aj.o.mono ?_;intro b f J;obtain⟨rfl,C,f1,F⟩:=I.o f b J;have f2:=(Yu _ _ 2 _ _ _ C).trans (show _=some (ν o.a)from rfl);have f3:=(Yu _ _ 3 _ _ _ C).trans (show _=some (ν o.b)from rfl);have f4:=(Yu _ _ 4 _ _ _ C).trans (show _=some (ν o.c)from rfl)))
   have W:=h_ F;clear F J f1 f2 f3 f4 C;go_wp2
   go_meet
   exact⟨rfl,W.o⟩
  case rest=>obtain⟨rfl,F⟩:=hcut;have W:=h_ F;have ay:(m==m)=true:=si;clear F af aw cq S P aj I;go_wp2;go_ret;exact⟨rfl,W.o⟩
theorem AM(w:b_)(B:Nat)(c:Nat->Nat)(q:me)(kb m:Nat)(b:lu)(F:Cf)(D:j4)(s:Ls)(left:lw)(safe:Nat)(bL:Nat->a_)(bK:Nat->Bool)(Y:Nat)(aj:a_)(e:Nat)(o:nE)(M:Full w B c q kb m b F D s left safe bL bK Y aj e)(hF:nN F)(aE:m<=1600000)(bB:2*F.sec<=Y/\Y<=64)(ah:yu o)(N:o.kind=4):
 l4 prog 9 #[π q.g,.agg<|k9 o,π kb] w λa w'=>a=.returned (.bool true)/\mT (λi l f h d j n=>o.cut<0->i=(j' D).1/\l={q.p.rd with uns:=0,wait:=[]}/\h=left/\d=left.length-1/\d<=f.least/\j=bL/\n=bK) w w' B q kb (m+11) F Y e:=by
 refine Ca ?_;intro a6 ev a3;have aC:=M.sb.bk.bk.lo.2;refine AW ?_;intro X ae ar ao;have bd:=M.below ar;obtain⟨bN,bZ⟩:=j5<|nc X B<|kU w c 9;rw[<-bZ]at bd;refine Kk ?_;intro bo;have ay:X.cell? (μ w.heap.size 0)=some (ν 4):=by rw[Yu _ _ _ _ _ _ ao];show some (ν o.kind)=_;rw[N]
 refine QM ?_;intro k0 ik T eX dd;have y:=h_<|AU q.d q.L q.S q.E q.wv D X bd.dv.rP bd.ok.fl;refine QR ?_;intro eb di gR gV;rw[<-eX]at dd y eb;obtain⟨eV,t⟩:=j5 T.1;obtain⟨A,L⟩:=j5 T.2;rw[<-t,<-L]at dd y;rw[<-t]at eb;refine U9 ?_;intro fZ HST;have Q:Hid<|eV=(j' D).1:=by rw[t,eX];exact rfl
 clear fZ bd bo bZ ar M N ao eX t L;refine B8 ?_
 go_upto_region 1 with fail
 rw[<-ae];clear ae
 go_upto_region 14 with fail
 go_wp2_with fail
 refine y.o.mono ?_;rintro a w1 ⟨v,ft,rfl,J,_,eW,fr⟩;obtain⟨c1,hA⟩:=HST.o w1 v ft J eW fr;obtain⟨z,C,rfl,_⟩:=i_ hA.row;refine Kl ?_;intro ew;have O:=hA.sb.rf.cw;have il:Hid (Calls prog 35 #[π q.p.r] w1.drew λa ag=>∃v,a=.returned v/\(ag.heap[w.heap.size]?=some (.cells (k9 o) 42)/\Calls prog 33 #[π q.g,.slice z A.length C,v,.agg<|k9 o,π kb] ag λa E=>∃u,a=.returned u/\(u=.bool true/\mT (λi l f h d j n=>o.cut<0->i=(j' D).1/\l={q.p.rd with uns:=0,wait:=[]}/\h=left/\d=left.length-1/\d<=f.least/\j=bL/\n=bK) w E B q kb (m+11) F Y e))):=by refine(tU w1.drew B c1 q.p q.p.rd left safe bL bK ew (li di.o) (by have:=di.o;have:=gR.o;omega)).mono ?_;rintro a ag ⟨rfl,I,jy,jz,_⟩;refine U_ ?_;intro hf dm ip ea im fs gS gT gU hsim P;refine(sE ag B (nc ag B c1) {q with wv:=ft,p:={q.p with wv:=σ,rd:={q.p.rd with uns:=0,wait:=[]}}} kb m b F eV s left (left.length-1) bL bK Y o (.slice z A.length C) q.p.wv B B A q.p.rd.wait gU gS gT hF om bB ah fs kM (λg hg=>⟨lN (B:=B) fs kM dc (show(1:Nat)≠0 by decide) (λg hg=>(hA.vc g hg).1) g hg,(hA.vc g hg).2⟩) I (λg hg=>by rw[lN (B:=B) I kM dc (show(3:Nat)≠0 by decide) O g hg];decide) P.M4 P.al P.wl P.wet P.ls P.num P.oQ P.least hsim P.ok e P.bd gV P.ll).mono ?_;rintro a aF ⟨rfl,hst⟩;obtain⟨W,aw,V,aq,ai,S,ad,ak,aa,d4,Z,au,af,aD,ab,al,U,am,an⟩:=hst;exact⟨_,rfl,rfl,W,aw,V,aq,ai,S,ad,ak,aa,d4,Z,au,af,aD,ab,al,U,(hA.bl.trans<|hf.toBelow hA.sb.nr dc hA.sb.bk.bk.lo.2).trans am,λac=>by obtain⟨az,ap,aB,K,aA,ax,av⟩:=an ac;rw[<-Q.o];exact⟨az,ap,aB,K,by rw[K];exact aA,ax,av⟩⟩
 obtain⟨_,_,_,_,_,_,_,ij,_⟩:=hA.sb.cells a3;have io:=h_ hA.bx;clear J eW fr hA ew O ay k0 HST y dd eb
 go_upto_region 15 with fail
 refine Mc (bx:=w.heap.size) (g:=q.g) (r:=q.p.r) (kb:=kb) (vl:=.slice z A.length C) (o:=o) (R:=λu E=>u=.bool true/\mT (λi l f h d j n=>o.cut<0->i=(j' D).1/\l={q.p.rd with uns:=0,wait:=[]}/\h=left/\d=left.length-1/\d<=f.least/\j=bL/\n=bK) w E B q kb (m+11) F Y e) si qU qU qU qU ij io.o il.o (λ_ _ _ _ _ M=>M) ?_;exact Qw
def M7(e:b_)(i:Nat)(k:Nat->Nat)(h:me)(g c:Nat)(m:lu)(b:Cf)(o:j4)(q:Ls)(left:lw)(l:Nat)(p:Nat->a_)(r:Nat->Bool)(a:Nat)(n:a_)(j:Nat)(f:nE)(d:Full e i k h g c m b o q left l p r a n j)(hF:nN b)(u:c<=1600000)(x:2*b.sec<=a/\a<=64)(t:yu f)(w:f.kind=4):
 l4 prog 9 #[π h.g,.agg<|k9 f,π g] e λs v=>s=.returned (.bool true)/\lc e v i h g (c+11) b a j:=
 (AM e i k h g c m b o q left l p r a n j f d hF u x t w).mono λ_ _ d=>⟨d.1,d.2.qw⟩

section
variable {P:e_}{V:Env}
def At(c w:b_):Prop:=∃b a,w=rt c b a
def At.cl(d:b_):Cl (At d):=λ_ c a ⟨_,_,b⟩=>⟨c,a,by rw[b,tu]⟩
def At.self(w:b_):At w w:=⟨w.tape,w.drawn,rfl⟩
def Rk(P:e_)(K:LF->Bool->b_->Prop)(fn:g_)(tmps:Array f_)(todo:List Item)(w:b_):Prop:=∀b a,Reach P [] K (oJ [] B0 ⟨⟨fn,tmps,todo⟩,false,[]⟩) (rt w b a)
section
variable {K:LF->Bool->b_->Prop}{fn:g_}{tmps A1:Array f_}{x:Item}{todo A0:List Item}{w w':b_}{B:List Frame}{Q:Array c_->b_->Trace->Prop}
def M8(fn:g_)(tmps:Array f_)(x:List Item)(B:List Frame):oJ [] B ⟨⟨fn,tmps,x⟩,false,[]⟩=G (Fr fn tmps x) B:=by simp[oJ,LF.fr,sfx,B6,Fr]
def Rk.go{f:Tp->Nat->Array Event}(g:Rk P K fn tmps (x::todo) w)(h:∀b a,stepG P true (G (Fr fn tmps (x::todo)) B0) (rt w b a)=.go (G (Fr fn A1 A0) B0) (rt w' b a) (f b a)):Rk P K fn A1 A0 w':=by
 intro b a;have e:=g b a;rw[M8]at e⊢;refine sx rfl (λi j c d=>?_) (h b a) e;rw[<-M8]at d;have:=s_ d;simp only[u4.mk.injEq,ZV]at this;rcases c with c|c
 .rw[c]at this;exact absurd this.2 dc
 .rw[<-this.1]at c;cases c
def Goes(P:e_)(fn:g_)(RR:Array f_->List Item->b_->Prop):Prop:=∀{tmps A1:Array f_}{x:Item}{todo A0:List Item}{w w':b_}{es:Tp->Nat->Array Event},RR tmps (x::todo) w->(∀b a,stepG P true (G (Fr fn tmps (x::todo)) B0) (rt w b a)=.go (G (Fr fn A1 A0) B0) (rt w' b a) (es b a))->RR A1 A0 w'
variable {RR:Array f_->List Item->b_->Prop}
def Rk.ctl(c:Goes P fn RR)(b:RR tmps (x::todo) w)(a:∀w B,stepG P true (G (Fr fn tmps (x::todo)) B) w=.go (G (Fr fn tmps A0) B) w #[])(d:RR tmps A0 w->kI P (G (Fr fn tmps A0) B) (At w) Q):kI P (G (Fr fn tmps (x::todo)) B) (At w) Q:=
 kI.ctl (At.cl w) rfl (λw=>a w B) (d<|c b λ_ _=>a ..)
def Rk.op{f:Array Oper}{j:Nat}{h:List Nat}{g:List Item}{e:Oper}{v:f_}(E:Goes P fn RR)(C:RR tmps (.inRegion f (j::h)::g) w)(o:f[j]?=some e)(D:Region.wanted e (yielded f tmps)=true)
 (s:Fit P V) (p:okOp V fn e=true) (y:tB V fn tmps) (z:∀d c (m:Result Next->Prop),m (.ok (.value v)<|rt w' d c)->m ((execOp (Act.mk tmps []).eval e).run P<|rt w d c))
 (r:RR (putT e.dst tmps v) (.inRegion f h::g) w'->kI P (G (Fr fn (putT e.dst tmps v) (.inRegion f h::g)) B) (At w') Q):kI P (G (Fr fn tmps (.inRegion f (j::h)::g)) B) (At w) Q:=by
 have A:∀d c,(execOp (Act.mk tmps []).eval e).run P (rt w d c)=.ok (.value v) (rt w' d c):=λd c=>run_eq_of<|z d c;have t:(Act.mk tmps []).eval=({fn:=fn,tmps:=tmps,todo:=[],defers:=[],mode:=.run,kind:=.normal}:Frame).eval:=by funext x;cases x<;>rfl
 have F:Nm P (su V fn e)<|execOp (Act.mk tmps []).eval e:=by rw[t];exact G7 s p (λi u=>y i u) λR=>rfl
 have I:∀d c,∀k∈(execOp (Act.mk tmps []).eval e).events P (rt w d c) #[],pU k:=λd c=>Mg P _ _ F (rt w d c) #[] si;have n:∀d c B,stepG P true (G (Fr fn tmps (.inRegion f (j::h)::g)) B) (rt w d c)=.go (G (Fr fn (putT e.dst tmps v) (.inRegion f h::g)) B) (rt w' d c) (listed P fn ⟨tmps,[]⟩ e<|rt w d c):=by intro d c B;have:=stepG_value (P:=P) (main:=true) (b:=base fn) (a:=⟨tmps,[]⟩) (k:=g) (cs:=B) (rest:=h) o D (by simp[base])<|A d c;refine this.trans ?_;cases S:e.dst<;>rfl
 have J:=r<|E C λd c=>n d c B0;intro l O i q M;obtain⟨d,d0,rfl⟩:=q;refine nR rfl (λc=>⟨_,rt w' d c,_,n d c B,λk L=>I d c k<|mem_listed L,λl i N=>J l _ i ⟨_,_,rfl⟩ N⟩) l i M
end
def Ub{fn:g_}{J:Array f_->b_->Prop}:ta P [] (λa _ w'=>a.fn=fn/\J a.tmps w'):=by
 intro a w i h;let⟨d,g,j,w',b,k,e⟩:=h
 cases d with
 |zero=>simp only[runN,aap]at b;obtain⟨f,rfl⟩:=pD b;have:=s_ f;simp only[u4.mk.injEq,ZV]at this;rw[this.1];exact e
 |succ d=>
  have l:stepG P true (stop [] a false) w=.go (oJ [] B0 ⟨a,true,[]⟩) w #[]:=by unfold stop oJ LF.fr;rw[i];simp[G,stepG,stepG.exec,sfx]
  rw[s9 rfl l]at b;exact DT (K:=λa _ w'=>a.fn=fn/\J a.tmps w') ⟨d,g,j,w',b,k,e⟩
def Rk.fin(N:Fit P V){fn:g_}{l:Func}{rv:Array f_->f_}(i:P.funcs[fn]?=some l)(o:∀e w,(results l e).run P w=.ok (rv e) w/\(results l e).events P w #[]=#[]){tmps:Array f_}{todo:List Item}{w:b_}{J:f_->b_->Prop}(A:∀v,Cl<|J v)(F:∀I∈todo,ItemOk V fn I)(Y:tB V fn tmps)
 (U:Rk P (λb _ w'=>b.fn=fn/\J (rv b.tmps) w') fn tmps todo w) {dG:Frame}{dF:Act}{cR:Array Oper}{dU:Nat}{dE:List Nat}{oc:Oper}{bW:List Item}{f:List Frame} (aO:cR[dU]?=some oc) {Q:Array c_->b_->Trace->Prop}
 (T:∀v,kI P (G (dG.at (dF.put oc.dst v) (.inRegion cR dE::bW)) f) (J v) Q):kI P (G (Fr fn tmps todo) (dG.at dF (.inRegion cR (dU::dE)::bW)::f)) (At w) Q:=by
 intro R Z E L D;obtain⟨O,d0,rfl⟩:=L;have S:=ends N (λ_=>rfl) (Ub (J:=λe w'=>J (rv e) w')) (λb h w r n M=>⟨M.1,A _ _ _ _ M.2⟩) ⟨⟨fn,tmps,todo⟩,false,[]⟩ ⟨⟨F,Y⟩,λb i=>by cases i⟩ (rt w O d0) (λr n=>by rw[tu];exact U r n);rw[<-M8]at D;refine(uP S [] _ R E D).bind λz w' C ⟨b,h,W,⟨u,g⟩,s⟩=>?_;have t:Cl<|J<|rv b.tmps:=A _;obtain⟨m,d,j⟩:=b;simp only at u g;subst u;have y:kI P (oJ [] (dG.at dF (.inRegion cR (dU::dE)::bW)::f) ⟨⟨m,d,j⟩,true,[]⟩) (J<|rv d) Q:=by refine S1 ?_;intro dD;refine kI.ctl t rfl (λw=>?_) (T<|rv d);have:=nZ (P:=P) (main:=true) (b:=base m) (a:=⟨d,[]⟩) (todo:=j++[]) (c:=dG.at dF (.inRegion cR (dU::dE)::bW)) (cs:=f) (w:=w) rfl rfl i (o d w).1;rw[(o d w).2,seen_none,dD]at this;exact this
 cases h with
 |true=>exact y z w' C g s
 |false=>have X:j=[]:=W.resolve_left dc;refine kI.ctl t rfl (λw=>?_) y z w' C g s;unfold oJ LF.fr;simp only[X];simp[G,stepG,stepG.exec,sfx]
def Rk.M9{fn:g_}{g:Func}{p:Code}{rv:Array f_->f_}(D:P.funcs[fn]?=some g)(E:g.body=some p)(s:∀k w,(results g k).run P w=.ok (rv k) w/\(results g k).events P w #[]=#[]){args:Array f_}{w:b_}{J:f_->b_->Prop}(z:∀l j,l4 P fn args (rt w l j) λi w'=>∃c,i=.returned c/\J c w'):
 Rk P (λq _ w'=>q.fn=fn/\J (rv q.tmps) w') fn (args++Array.replicate (g.ntmps-args.size) undef) [.code p] w:=by
 intro l j;let⟨I,F,t,r,A⟩:=z l j;rw[D]at t;obtain rfl:=YR t;rw[E]at r;obtain rfl:=YR r;let⟨i,y,w',d,u⟩:=A (base fn) [] B0;let⟨h,L⟩:=y
 cases i with
 |normal=>let⟨e,c,a,v,b,f⟩:=d;simp only at e;subst e;obtain rfl:=Ending.returned.inj b;rw[(s ..).1]at a;simp only[ZT,ZV]at a;let⟨o,m⟩:=u;exact⟨o,⟨fn,h,[]⟩,false,w',m,.inr rfl,rfl,by rw[<-a]at f;exact f⟩
 |ret=>
  let⟨e,c,a,v,b,f⟩:=d;simp only at e;subst e;obtain rfl:=Ending.returned.inj b;rw[(s ..).1]at a;simp only[ZT,ZV]at a;let⟨n,o,m⟩:=u;refine⟨o,⟨fn,h,n⟩,true,w',?_,.inl rfl,rfl,by rw[<-a]at f;exact f⟩;have C:stop [] ⟨fn,h,n⟩ true=G {(base fn).at ⟨h,[]⟩ n with mode:=.returning} B0:=by simp[stop,oJ,LF.fr,sfx,B6,Frame.at,base]
  rw[C];exact m
 |panic M=>let⟨_,c,b,_⟩:=d;cases b
 |outgrown=>let⟨c,b,_⟩:=d;cases b
 |_=>exact d.elim
def Hl{b:Func}{d:Tmp}(c:b.results=#[.tmp d])(a:Array f_)(w:b_):(results b a).run P w=.ok (a.getD d undef) w/\(results b a).events P w #[]=#[]:=⟨abv c _ P w,events_results_tmp c ..⟩
end
def V2:∃a d b c,Tryz.f9.body=some (.seq (.region 0 #[{dst:=some 4,op:=.box 42<|.tmp 1,type:=0,pos:= "device.go:262",after:=#[],guard:=none},{dst:=some 6,op:=.assign<|.const<|.bool false,type:=4,pos:= "device.go:262",after:=#[],guard:=none}] false) (.seq (.seq (.region 1 #[{dst:=some 22,op:=.fieldAddr 42 (.tmp 4) 0,type:=0,pos:= "device.go:263",after:=#[],guard:=none},{dst:=some 23,op:=.load 3<|.tmp 22,type:=3,pos:= "device.go:263",after:=#[{on:=0,ground:=.data}],guard:=none}] false)
 (.block 0<|.seq (.region 2 #[{dst:=some 25,op:=.binOp .eql 3 (.tmp 23) (.const<|ν 2) 3,type:=4,pos:= "device.go:264",after:=#[],guard:=none},{dst:=some 24,op:=.assign<|.tmp 25,type:=4,pos:= "device.go:264",after:=#[{on:=0,ground:=.data}],guard:=none}] false)<|.cond (.tmp 24) a<|.seq (.region 10 #[{dst:=some 71,op:=.binOp .eql 3 (.tmp 23) (.const<|ν 3) 3,type:=4,pos:= "device.go:274",after:=#[],guard:=none},{dst:=some 70,op:=.assign<|.tmp 71,type:=4,pos:= "device.go:274",after:=#[{on:=0,ground:=.data}],guard:=none}] false)<|.cond (.tmp 70) d b)) c))
 /\okCode fV 9 a=true/\okCode fV 9 b=true/\okCode fV 9 c=true:=⟨_,_,_,_,rfl,kr,kr,kr⟩
def n9(c:Array f_):tB fV 9 c:=λd a=>by have b:fV.M 9=[]:=kr;rw[b]at a;cases a
def mX{a:Array f_}{d:Nat}{v:f_}(f:a.size=196)(g:d<196):(putT (some d) a v).size=196/\(Act.mk (putT (some d) a v) []).eval (.tmp d)=v/\∀b,b≠d->(Act.mk (putT (some d) a v) []).eval (.tmp b)=(Act.mk a []).eval (.tmp b):=by
 refine⟨by simp[putT,f],?_,λb e=>?_⟩
 .show(a.setIfInBounds d v).getD d undef=v;rw[yM,Ys ⟨rfl,om⟩]
 .show(a.setIfInBounds d v).getD b undef=a.getD b undef;rw[yM,Yo λc=>e c.1.symm]
section
variable {I:b_->Prop}{Q:Array c_->b_->Trace->Prop}{bc:Frame}{ac:Act}{A0:Array Oper}{ic:Nat}{restc:List Nat}{oc:Oper}{kc:List Item}{csc:List Frame}
def Hm{RR:Array f_->List Item->b_->Prop}(ah:Goes prog 9 RR){P O:Nat}{y:List Frame}{u r o l:Code}(aB:okCode fV 9 u=true)(ak:okCode fV 9 o=true)(ML:okCode fV 9 l=true)(w:b_)(a:nE)(i:Array f_)(aa:i.size=196)(av:(Act.mk i []).eval (.tmp 1)=.agg (k9 a))(d:(Act.mk i []).eval (.tmp 0)=π P)(e:(Act.mk i []).eval (.tmp 2)=π O)
 (au:RR i [.code (.seq (.region 0 #[{dst:=some 4,op:=.box 42<|.tmp 1,type:=0,pos:= "device.go:262",after:=#[],guard:=none},{dst:=some 6,op:=.assign<|.const<|.bool false,type:=4,pos:= "device.go:262",after:=#[],guard:=none}] false) (.seq (.seq (.region 1 #[{dst:=some 22,op:=.fieldAddr 42 (.tmp 4) 0,type:=0,pos:= "device.go:263",after:=#[],guard:=none},{dst:=some 23,op:=.load 3<|.tmp 22,type:=3,pos:= "device.go:263",after:=#[{on:=0,ground:=.data}],guard:=none}] false)
 (.block 0<|.seq (.region 2 #[{dst:=some 25,op:=.binOp .eql 3 (.tmp 23) (.const<|ν 2) 3,type:=4,pos:= "device.go:264",after:=#[],guard:=none},{dst:=some 24,op:=.assign<|.tmp 25,type:=4,pos:= "device.go:264",after:=#[{on:=0,ground:=.data}],guard:=none}] false)<|.cond (.tmp 24) u<|.seq (.region 10 #[{dst:=some 71,op:=.binOp .eql 3 (.tmp 23) (.const<|ν 3) 3,type:=4,pos:= "device.go:274",after:=#[],guard:=none},{dst:=some 70,op:=.assign<|.tmp 71,type:=4,pos:= "device.go:274",after:=#[{on:=0,ground:=.data}],guard:=none}] false)<|.cond (.tmp 70) r o)) l))] w)
 (X:∀(L:Array f_) (j:List Item) (w:b_),a.kind≠3->(∀T∈j,ItemOk fV 9 T)->RR L j w->kI prog (G (Fr 9 L j) y) (At w) Q)
 (V:∀(h:Array f_) (b:b_),a.kind=3->h.size=196->(Act.mk h []).eval (.tmp 0)=π P->(Act.mk h []).eval (.tmp 2)=π O->(Act.mk h []).eval (.tmp 4)=π w.heap.size->b=w.alloc (.cells (k9 a) 42)->RR h [.code r,.inBlock 0,.code l] b->kI prog (G (Fr 9 h [.code r,.inBlock 0,.code l]) y) (At b) Q):
 kI prog (G (Fr 9 i [.code (.seq (.region 0 #[{dst:=some 4,op:=.box 42<|.tmp 1,type:=0,pos:= "device.go:262",after:=#[],guard:=none},{dst:=some 6,op:=.assign<|.const<|.bool false,type:=4,pos:= "device.go:262",after:=#[],guard:=none}] false) (.seq (.seq (.region 1 #[{dst:=some 22,op:=.fieldAddr 42 (.tmp 4) 0,type:=0,pos:= "device.go:263",after:=#[],guard:=none},{dst:=some 23,op:=.load 3<|.tmp 22,type:=3,pos:= "device.go:263",after:=#[{on:=0,ground:=.data}],guard:=none}] false)
 (.block 0<|.seq (.region 2 #[{dst:=some 25,op:=.binOp .eql 3 (.tmp 23) (.const<|ν 2) 3,type:=4,pos:= "device.go:264",after:=#[],guard:=none},{dst:=some 24,op:=.assign<|.tmp 25,type:=4,pos:= "device.go:264",after:=#[{on:=0,ground:=.data}],guard:=none}] false)<|.cond (.tmp 24) u<|.seq (.region 10 #[{dst:=some 71,op:=.binOp .eql 3 (.tmp 23) (.const<|ν 3) 3,type:=4,pos:= "device.go:274",after:=#[],guard:=none},{dst:=some 70,op:=.assign<|.tmp 71,type:=4,pos:= "device.go:274",after:=#[{on:=0,ground:=.data}],guard:=none}] false)<|.cond (.tmp 70) r o)) l))]) y) (At w) Q:=by
 have am:=h_ X;have aC:=h_ V;clear X V;refine uj ?_;clear au;intro au;refine uj ?_;clear au;intro au;simp only[List.range,List.range.loop]at au⊢;refine Rk.op (v:=π w.heap.size) (w':=w.alloc<|.cells (k9 a) 42) ah au rfl rf qQ kr (n9 _) (λg c b ae=>?_) λM=>?_
 .let⟨eY,bO⟩:=j5<|(Act.mk i []).eval;rw[<-bO];rw[<-bO]at av;exact B'
 replace au:=M;clear M;let⟨ax,af,F⟩:=mX (v:=π w.heap.size) (d:=4) aa om;have d:=(F 0 dc).trans d;have e:=(F 2 dc).trans e;clear F;change RR (putT (some 4) i<|π w.heap.size) _ _ at au;change kI _ (G (Fr _ (putT (some 4) i<|π w.heap.size) _) _) _ _
 generalize putT (some 4) i (π w.heap.size)=T1 at*
 have R:(w.alloc<|.cells (k9 a) 42).heap[w.heap.size]?=some (.cells (k9 a) 42):=YO w _;let⟨b,J⟩:=j5<|w.alloc<|.cells (k9 a) 42;rw[<-J]at au R⊢;have ap:=h_ J;clear J;have aF:∀g c,(rt b g c).cell? (μ w.heap.size 0)=some (ν a.kind):=λg c=>(Yu (rt b g c) _ _ _ _ _ R).trans rfl;refine Rk.op (v:=.bool false) (w':=b) ah au rfl rf qQ kr (n9 _) (λg c b ae=>?_) λM=>?_
 .let⟨eY,bO⟩:=j5<|(Act.mk T1 []).eval;rw[<-bO];exact B'
 replace au:=M;clear M;let⟨an,aE,E⟩:=mX (v:=.bool false) (d:=6) ax om;have f:=(E 4 dc).trans af;have d:=(E 0 dc).trans d;have e:=(E 2 dc).trans e;clear E;change RR (putT (some 6) T1<|.bool false) _ _ at au;change kI _ (G (Fr _ (putT (some 6) T1<|.bool false) _) _) _ _
 generalize putT (some 6) T1 (.bool false)=T2 at*
 refine uj ?_;clear au;intro au;refine uj ?_;clear au;intro au;refine uj ?_;clear au;intro au;refine uj ?_;clear au;intro au;simp only[List.range,List.range.loop]at au⊢;refine Rk.op (v:=π w.heap.size) (w':=b) ah au rfl rf qQ kr (n9 _) (λg c b ae=>?_) λM=>?_
 .let⟨eY,bO⟩:=j5<|(Act.mk T2 []).eval;rw[<-bO];rw[<-bO]at f;exact B'
 replace au:=M;clear M;let⟨ar,aq,z⟩:=mX (v:=π w.heap.size) (d:=22) an om;have f:=(z 4 dc).trans f;have d:=(z 0 dc).trans d;have e:=(z 2 dc).trans e;clear z;change RR (putT (some 22) T2<|π w.heap.size) _ _ at au;change kI _ (G (Fr _ (putT (some 22) T2<|π w.heap.size) _) _) _ _
 generalize putT (some 22) T2 (π w.heap.size)=T3 at*
 refine Rk.op (v:=ν a.kind) (w':=b) ah au rfl rf qQ kr (n9 _) (λg c b ae=>?_) λM=>?_
 .let⟨eY,bO⟩:=j5<|(Act.mk T3 []).eval;rw[<-bO];rw[<-bO]at aq;exact B'
 replace au:=M;clear M;let⟨ai,N,t⟩:=mX (v:=ν a.kind) (d:=23) ar om;have f:=(t 4 dc).trans f;have d:=(t 0 dc).trans d;have e:=(t 2 dc).trans e;clear t;change RR (putT (some 23) T3<|ν a.kind) _ _ at au;change kI _ (G (Fr _ (putT (some 23) T3<|ν a.kind) _) _) _ _
 generalize putT (some 23) T3 (ν a.kind)=T4 at*
 refine uj ?_;clear au;intro au;refine uj ?_;clear au;intro au;refine uj ?_;clear au;intro au;refine uj ?_;clear au;intro au;simp only[List.range,List.range.loop]at au⊢;refine Rk.op (v:=.bool<|decide (a.kind=2)) (w':=b) ah au rfl rf qQ kr (n9 _) (λg c b ae=>?_) λM=>?_
 .let⟨eY,bO⟩:=j5<|(Act.mk T4 []).eval;rw[<-bO];rw[<-bO]at N;exact B'
 replace au:=M;clear M;let⟨aD,ao,n⟩:=mX (v:=.bool<|decide (a.kind=2)) (d:=25) ai om;have ay:=(n 23 dc).trans N;have f:=(n 4 dc).trans f;have d:=(n 0 dc).trans d;have e:=(n 2 dc).trans e;clear n;change RR (putT (some 25) T4<|.bool<|decide (a.kind=2)) _ _ at au;change kI _ (G (Fr _ (putT (some 25) T4<|.bool<|decide (a.kind=2)) _) _) _ _
 generalize putT (some 25) T4 (.bool<|decide (a.kind=2))=T5 at*
 refine Rk.op (v:=.bool<|decide (a.kind=2)) (w':=b) ah au rfl rf qQ kr (n9 _) (λg c b ae=>?_) λM=>?_
 .let⟨eY,bO⟩:=j5<|(Act.mk T5 []).eval;rw[<-bO];rw[<-bO]at ao;exact B'
 replace au:=M;clear M;let⟨aw,Z,m⟩:=mX (v:=.bool<|decide (a.kind=2)) (d:=24) aD om;have ad:=(m 23 dc).trans ay;have f:=(m 4 dc).trans f;have d:=(m 0 dc).trans d;have e:=(m 2 dc).trans e;clear m;change RR (putT (some 24) T5<|.bool<|decide (a.kind=2)) _ _ at au;change kI _ (G (Fr _ (putT (some 24) T5<|.bool<|decide (a.kind=2)) _) _) _ _
 generalize putT (some 24) T5 (.bool<|decide (a.kind=2))=T6 at*
 refine uj ?_;clear au;intro au;have Y:∀j:List Item,(Fr 9 T6 j).eval (.tmp 24)=.bool (decide (a.kind=2)):=λ_=>Z;simp only[Fr]at Y;refine Rk.ctl ah au (λw B=>by simp[Fr,G,stepG,stepG.exec,Y];rfl) λM=>?_;replace au:=M;clear M
 have S:∀(C:Code) (D:Array f_),okCode fV 9 C=true->a.kind≠3->RR D [.code C,.inBlock 0,.code l] b->kI prog (G (Fr 9 D [.code C,.inBlock 0,.code l]) y) (At b) Q:=λC D az ab aj=>am D _ b ab (λT K=>by
  simp only[Y7,Zc,aac]at K;rcases K with rfl|rfl|rfl
  .exact az
  .trivial
  .exact ML) aj
 by_cases W:a.kind=2
 .simp only[W,Y_]at au⊢;exact S u T6 aB om au
 simp only[W,Y5]at au⊢;refine uj ?_;clear au;intro au;refine uj ?_;clear au;intro au;simp only[List.range,List.range.loop]at au⊢;refine Rk.op (v:=.bool<|decide (a.kind=3)) (w':=b) ah au rfl rf qQ kr (n9 _) (λg c b ae=>?_) λM=>?_
 .let⟨eY,bO⟩:=j5<|(Act.mk T6 []).eval;rw[<-bO];rw[<-bO]at ad;exact B'
 replace au:=M;clear M;let⟨aA,ag,x⟩:=mX (v:=.bool<|decide (a.kind=3)) (d:=71) aw om;have f:=(x 4 dc).trans f;have d:=(x 0 dc).trans d;have e:=(x 2 dc).trans e;clear x;change RR (putT (some 71) T6<|.bool<|decide (a.kind=3)) _ _ at au;change kI _ (G (Fr _ (putT (some 71) T6<|.bool<|decide (a.kind=3)) _) _) _ _
 generalize putT (some 71) T6 (.bool<|decide (a.kind=3))=T7 at*
 refine Rk.op (v:=.bool<|decide (a.kind=3)) (w':=b) ah au rfl rf qQ kr (n9 _) (λg c b ae=>?_) λM=>?_
 .let⟨eY,bO⟩:=j5<|(Act.mk T7 []).eval;rw[<-bO];rw[<-bO]at ag;exact B'
 replace au:=M;clear M;let⟨z8,al,A⟩:=mX (v:=.bool<|decide (a.kind=3)) (d:=70) aA om;have f:=(A 4 dc).trans f;have d:=(A 0 dc).trans d;have e:=(A 2 dc).trans e;clear A;change RR (putT (some 70) T7<|.bool<|decide (a.kind=3)) _ _ at au;change kI _ (G (Fr _ (putT (some 70) T7<|.bool<|decide (a.kind=3)) _) _) _ _
 generalize putT (some 70) T7 (.bool<|decide (a.kind=3))=h at*
 refine uj ?_;clear au;intro au;have U:∀j:List Item,(Fr 9 h j).eval (.tmp 70)=.bool (decide (a.kind=3)):=λ_=>al;simp only[Fr]at U;refine Rk.ctl ah au (λw B=>by simp[Fr,G,stepG,stepG.exec,U];rfl) λM=>?_;replace au:=M;clear M;by_cases s:a.kind=3
 .simp only[s,Y_]at au⊢;exact aC h b s z8 d e f ap au
 simp only[s,Y5]at au⊢;exact S o h ak s au
def M_(v:Cl I){J:f_->b_->Prop}(B:∀b,Cl<|J b)(n:Code)(f:Tryz.f9.body=some n)(c:nE)(i g:Nat)(A:c.kind≠3)(p:A0[ic]?=some oc)
 (z:∀a,I a->l4 prog 9 #[π i,.agg<|k9 c,π g] a λe k=>∃b,e=.returned b/\J b k)
 (y:∀b,kI prog (G (bc.at (ac.put oc.dst b) (.inRegion A0 restc::kc)) csc) (J b) Q):
 kI prog (G ((base 9).at {tmps:=#[π i,.agg<|k9 c,π g]++Array.replicate (Tryz.f9.ntmps-3) undef,defers:=[]} [.code n]) (bc.at ac (.inRegion A0 (ic::restc)::kc)::csc)) I Q:=by
 intro t a w q C;have j:=Rk.M9 (P:=prog) (fn:=9) (rv:=λh=>h.getD 6 undef) (J:=J) func9 f (Hl rf) (args:=#[π i,.agg<|k9 c,π g]) (w:=a) λN L=>z _ (v _ _ _ q);let⟨F,M,K,O,u,D,x,ML⟩:=V2;rw[u]at f;obtain rfl:=YR f;exact Hm (RR:=Rk prog (λl _ k=>l.fn=9/\J (l.tmps.getD 6 undef) k) 9) (λr E=>Rk.go r E) D x ML a c _ (by rw[Array.size_append,Array.size_replicate,ntmps9];rfl) qU (by simp[Act.eval];rfl) (by simp[Act.eval];rfl) j (λd m a _ o j=>Rk.fin (P:=prog) qQ (fn:=9) (rv:=λh=>h.getD 6 undef) (J:=J) (tmps:=d) (todo:=m) (w:=a) func9 (Hl rf) B o (n9 _) j p y) (λ_ _ s=>absurd s A) t a w (At.self a) C
end
open Classical in
def tickA (R:j4)(ys:Nat->a_):Nat->List (Nat×Nat×Nat×a_)
 |0=>[]
 |q+1=>if (R.ln q).kind=1/\Pl.nQ (ys q)then tickA R ys q++[(q,0,Pl.j2 (ys q) 0,(ys q).extract 1<|(ys q).size-2)]else tickA R ys q
def vX(c:j4)(b:Nat->a_)(d:Nat):Nat->a_:=λa=>if a<d/\(c.ln a).kind=1 then⟨#[]⟩else b a
def PD(c:j4)(f:Nat->a_)(b:Nat)(g:(c.ln b).kind=1):(λa=>if a=b then⟨#[]⟩else vX c f b a)=vX c f (b+1):=by
 funext a;unfold vX;by_cases e:a=b
 .subst e;rw[Ys rfl,Ys ⟨om,g⟩]
 .rw[Yo e];by_cases d:a<b/\(c.ln a).kind=1
  .rw[Ys d,Ys ⟨om,d.2⟩]
  .rw[Yo d,Yo λh=>d ⟨om,h.2⟩]
def M'(b:j4)(d:Nat->a_)(a:Nat)(g:(b.ln a).kind≠1):vX b d a=vX b d (a+1):=by
 funext k;unfold vX;by_cases c:k<a/\(b.ln k).kind=1
 .rw[Ys c,Ys ⟨om,c.2⟩]
 .rw[Yo c,Yo (λf=>c ⟨by rcases Zj k a with e|e;exact e;exact absurd (by rw[<-show k=a by omega];exact f.2) g,f.2⟩)]
def Js(a:Nat->a_)(b:Nat)(c:Pl.nQ<|a b):Pl.Oa (0,Pl.j2 (a b) 0,(a b).extract 1<|(a b).size-2):=by
 have e:=c.1;have d:=c.2.1;refine⟨(show(0:Nat)<65536 by decide),Pl.kz ..,?_,?_⟩
 .show 1<=((a b).extract 1<|(a b).size-2).size;rw[YM];omega
 .show((a b).extract 1<|(a b).size-2).size<=253;rw[YM];omega
def AN(c:j4)(b:Nat->a_):∀a,(tickA c b a).length<=a:=by
 intro a
 induction a with
 |zero=>exact YC _
 |succ a d=>
  unfold tickA;split
  .exact zU
  .omega
def Na{a:j4}(g:xn a)(left:lw)(c:Nat)(h:left.length=a.arr+1):∀(e b:List<|Nat×Nat×Nat×a_),b=e.reverse->xn (kZ a left c b).1/\oa a (kZ a left c b).1/\(kZ a left c b).2.2.1.length=(kZ a left c b).1.arr+1/\(kZ a left c b).2.1.length<=9*b.length/\(kZ a left c b).1.arr<=a.arr+b.length:=by
 intro e
 induction e with
 |nil=>rintro b rfl;exact⟨g,oa.refl a,h,by simp[kZ],by simp[kZ]⟩
 |cons d e i=>
  rintro b rfl;rw[ab6,uc];let⟨f,j,k,m,l⟩:=i e.reverse rfl;have hs:=s4 (kZ a left c e.reverse).1 d.1 d.2.1 d.2.2.1 d.2.2.2;refine⟨GU f ..,j.trans hs.1,Dh _ _ _ _ _ k,?_,?_⟩
  .have:=uH f d.1 d.2.1 d.2.2.1 d.2.2.2;show((kZ a left c e.reverse).2.1++mZ ..).length<=_;rw[Yv,Yv,Zn];omega
  .exact RH
def PE(d:b_)(k:Nat)(h:Nat->Nat)(c:pL)(a:j4×List Sv×lw×Nat)(l:Nat->a_)(m:Nat->Bool)(j:Ending)(f:b_):Prop:=
 ∃g b e,j=.returned g/\f.ownsRow d.heap.size 113 3 g a.2.1.length (a.2.1.flatMap ng)/\j3 f k e b a.1 a.2.2.1 a.2.2.2 l m/\mD d h e/\Fc h 3 d f/\b.r=c.r/\b.lb=c.lb/\b.cap=c.cap/\∀i,g.ownBlock=some i->e i=9
def Jt(f:b_)(J:Nat)(o:Nat->Nat)(u:pL)(a:j4)(left:lw)(h:Nat)(d:Nat->a_)(y:Nat->Bool)(aK:j3 f J o u a left h d y)(n:xn a)(aN:∀A,A<a.nl->(a.ln A).kind<=1)(aO:∀A,A<a.nl->(d A).size<=4194304)(aT:left.length=a.arr+1)(b5:a.arr<=300000):
 Calls prog 34 #[π u.r] f (PE f J o u (kZ a left h (tickA a d a.nl)) (vX a d a.nl) y):=by
 let⟨bn,bw,bF,bu,bK⟩:=Y4 Tryz.yk;have b7:=n.nl;have bO:=h_ λaP=>Na n left h aT aP.reverse aP (abO _).symm;have cd:=h_ aK;have bC:=h_ aN;have bA:=h_ aO;have bM:=h_<|AN a d;have T:vX a d 0=d:=by funext k;unfold vX;rw[Yo om]
 have bv:Hid<|j3 f J (kU f o 9) u a left h (vX a d 0) y:=by rw[T];exact aK.Yc<|jW f o 9
 clear aK n aN aO T aT
 go_enter func34,ntmps34
 go_wp2_with fail
 go_loopw [4,3,5,6,7] (λaG aY _ _ _ wr=>∃(b:Nat) (ad:pL) (ay:Nat->Nat),b<=a.nl/\aG=ν b/\wr.ownsRow f.heap.size 113 3 aY (kZ a left h (tickA a d b)).2.1.length ((kZ a left h (tickA a d b)).2.1.flatMap ng)/\j3 wr J ay ad (kZ a left h (tickA a d b)).1 (kZ a left h (tickA a d b)).2.2.1 (kZ a left h (tickA a d b)).2.2.2 (vX a d b) y/\(∀c,aY.ownBlock=some c->ay c=9)/\mD f o ay/\Fc o 3 f wr/\ad.r=u.r/\ad.lb=u.lb/\ad.cap=u.cap) (λaG _ _ _ _ _=>a.nl-(intOf aG).toNat)
 case atStart=>exact⟨0,u,_,YG _,rfl,Yq ..,bv,λc e=>by simp[Value.ownBlock]at e,jW f o 9,Fc.refl ..,rfl,rfl,rfl⟩
 case round=>
  obtain⟨b,j,W,b2,rfl,r,g,L,hA,hF,ah,K,am⟩:=hrel;let⟨Z,q,M,ac,ab⟩:=bO<|tickA a d b;have bZ:=bM b;obtain⟨B,aq⟩:=j5<|(kZ a left h (tickA a d b)).1;let⟨s,aA⟩:=j5<|(kZ a left h (tickA a d b)).2.1;obtain⟨ae,aF⟩:=j5<|(kZ a left h (tickA a d b)).2.2.1;obtain⟨an,aJ⟩:=j5<|(kZ a left h (tickA a d b)).2.2.2;have F:Hid<|kZ a left h (tickA a d b)=(B,s,ae,an):=by rw[aq,aA,aF,aJ];exact rfl
  rw[<-aq]at Z M q ab g;rw[<-aA]at r ac;rw[<-aF]at M g;rw[<-aJ]at g;clear aq aA aF aJ;have bS:s.length<=100:=om;obtain⟨_,_,_,aL,_,aZ,_,_,_,_,_,_,bf⟩:=g.cells;rw[ah]at aL aZ bf;rw[q.nl]at aL aZ;rw[K,am]at aL;have i:=h_<|And.intro ah<|And.intro K am;by_cases C:b<a.nl
  .have aV:=bC b C;have av:=g.Cd b (by rw[q.nl];exact C);rw[q.ln,K]at av;let⟨bQ,ao⟩:=g.Aq;rw[K]at ao;have ca:=Yn ao;have bU:wr.cell? (μ j.yb b)=some (.string<|d b):=by have:=g.qI.cell (j:=0) (by rw[q.nl];exact C) om;rw[YS,YE]at this;rw[this];unfold vX;rw[Yo om]
   have b3:=λO=>g.qI.frozen O;have ce:=g.qI.lt;have bk:(b:Int)<(a.nl:Int):=om;clear ah K am;rcases(show(a.ln b).kind=0\/(a.ln b).kind=1 by omega)with T|aD
   .rw[T]at av;have v:Hid<|tickA a d (b+1)=tickA a d b/\vX a d b=vX a d (b+1):=⟨by rw[tickA,Yo om],M' a d b om⟩;have x:=h_ r;have aa:=h_ g;have aw:=h_ L;have N:=h_ hA;have Q:=h_ hF;clear r g L hA hF Z M ac q ab ao T aV;go_wp2
    go_roundw
    case rel=>
     refine⟨b+1,j,W,om,gn,?_,?_,aw,N,Q,i.o.1,i.o.2.1,i.o.2.2⟩
     .rw[v.o.1,F.o];exact x
     .rw[v.o.1,<-v.o.2,F.o];exact aa
    case measure=>exact mz
   .rw[aD]at av;have P:=bA b C;have x:=h_ r;have aa:=h_ g;have aw:=h_ L;have N:=h_ hA;have Q:=h_ hF;have a3:=h_ Z;have R:=h_ q;have bj:=h_ M;have b4:=ab;have au:=h_ aD;have bs:=hF.size;clear r g L hA hF Z M ac q ab ao aD aV
    go_wp2_with fail
    refine(zx (d b) wr P).mono ?_;rintro Y X ⟨m,l,bR,rfl,bg,ap⟩;obtain⟨w,E⟩:=j5<|X.alloc<|.cells #[ν 0,ν m,.string l] 94;have a0:=ba E;have a5:=v' E;have ak:Below wr.heap.size wr w:=jZ ap a0;have bW:=ap.size;have cc:w.heap.size=X.heap.size+1:=by rw[E];simp
    obtain⟨I,a6⟩:=j5<|kU wr W 9;have ai:mD wr W I:=by rw[a6];exact jW wr W 9
    have S:j3 w J I j B ae an (vX a d b) y:=aa.o.frame (k:=9) (Fc.jX ak) ai om om om;obtain⟨_,_,_,d7,_,d13,_,_,_,_,_,_,bm⟩:=S.cells;rw[i.o.1]at d13 bm;rw[R.o.nl]at d13;have aQ:=λO=>S.qI.frozen O;have ag:∃bE,w.cell? (μ j.yb b)=some (.string bE):=⟨_,by have:=S.qI.cell (i:=b) (j:=0) (by rw[R.o.nl];exact C) om;rw[YS,YE]at this;exact this⟩;obtain⟨b6,ag⟩:=ag;obtain⟨z,p⟩:=j5<|w.setCell (μ j.yb b)<|.string ⟨#[]⟩;have bz:j.yb≠X.heap.size:=om;have aW:j3 z J I j B ae an (vX a d<|b+1) y:=by rw[p,<-PD a d b au.o];exact S.OM (by rw[R.o.nl];exact C) _
    have a2:z.heap[X.heap.size]?=some (.cells #[ν 0,ν m,.string l] 94):=by rw[p,Yp w (μ j.yb b) X.heap.size _ (λY=>bz Y.symm)];exact a5
    have be:Fc o 3 f z:=by rw[p];exact(Q.o.kt ak).setCell j.yb b (by rcases Zj j.yb f.heap.size with c|c;exact .inr<|(N _ c).symm.trans aa.o.cy;exact .inl c) _
    have a1:z.ownsRow f.heap.size 113 3 u3 s.length<|s.flatMap ng:=by rw[p];refine jV (jY x ak) λc e=>Yp w _ _ _ (λY=>?_);let⟨bY,bG⟩:=jU x c e;let⟨cb,bL⟩:=aa.o.qI.block;exact km bG bL dc Y
    have a8:=N.o.trans ai bs;have bb:∀c,u3.ownBlock=some c->I c=9:=λc e=>(ai c (x.o.lt c e).2).trans<|aw c e;have b1:z.heap.size=w.heap.size:=by rw[p];simp
    let⟨f0,f1,f2,bh⟩:=l8 a2;have a7:=h_ aW;have aE:=h_ be;have aB:=h_ a1;have aH:=h_ a8;have ax:=h_ bb;clear S aW a2 be a1 a8 bb ai a6 ap a0 a5 ak d7;rcases bg with⟨n,V,U,rfl⟩|⟨n,V,U,rfl⟩
    .have v:Hid<|tickA a d (b+1)=tickA a d b++[(b,0,m,l)]:=by rw[V,U,tickA,Ys ⟨au.o,n⟩];exact rfl
     have a4:Pl.Oa (0,m,l):=by rw[V,U];exact Js d b n
     have aM:=h_ (Aw z J I j B ae an (vX a d<|b+1) y b 0 m l a7 a3 (by rw[R.o.nl];exact C) (by rw[R.o.ln,au.o];exact YC _) a4 bj om);have bN:=uH a3 b 0 m l;rw[i.o.1]at aM;clear n V U a4
     go_upto_region 7 with fail
     rw[<-E];clear E
     go_upto_region 8 with fail
     rw[<-p];clear p d13 aQ ag
     go_wp2_with fail
     apply aM.o.mono;rintro Y D ⟨bP,bI,t,rfl,aj,bc,aI,al,aU,a9,aS⟩;let⟨aX,ar⟩:=j5<|mZ B b 0 m l;rw[<-ar]at aj bN;obtain⟨bX,b9,rfl,_⟩:=i_ aj;have bH:=h_ ar;have bB:=h_ bc;have bD:=aE.o.size;have bt:=h_<|aH.o.trans aI bD;have bl:=h_<|aE.o.trans al aH;have aC:=h_ (al.own aB dc (λc e=>by rw[ax.o c e];omega));have aR:Hid (∀c,u3.ownBlock=some c->t c=9):=λc e=>by rw[aI c (aB.o.lt c e).2];exact ax c e
     have bx:=h_<|sZ aj;have bV:=al.size;have az:=h_<|And.intro (aU.trans i.o.1)<|And.intro (a9.trans i.o.2.1)<|aS.trans i.o.2.2;clear aj bc aI al ar aU a9 aS aM f0 f1 f2 bh
     go_wp2_with (at_builtin;go_must (refine kT rfl (.tmp 50) (.tmp 51) 46 rfl f.heap.size 113 bn _ 3 32 underlying46 bw bF bu bK rfl dc u3 s.length (s.flatMap ng) rfl aC _ aX.length (aX.flatMap ng) rfl bx (ym _) (Dg _) ml om om ?_;intro bT a' bp bd bi))
     go_roundw
     case rel=>
      have bq:=(Fc.refl t 9 D).grown bd λc e=>.inr<|aR c e;have P:=uc a left h (tickA a d b) (b,0,m,l);rw[<-v.o,F.o]at P;refine⟨b+1,bI,kU D t 9,om,gn,?_,?_,λc e=>?_,bt.o.trans (jW D t 9) om,bl.o.grown bd λc e=>.inl (aC.o.lt c e).1,az.o.1,az.o.2.1,az.o.2.2⟩
      .rw[P];rw[<-bH.o,Yv,YX];exact bp
      .rw[P];exact bB.o.frame bq (jW D t 9) om om om
      .rcases bi c e with af|af
       .rw[jW D t 9 c (aC.o.lt c af).2];exact aR c af
       .exact kB D t 9 c af
     case measure=>exact mz
    .have v:Hid<|tickA a d (b+1)=tickA a d b:=by rw[tickA,Yo λc=>n c.2];exact rfl
     clear n V U
     go_upto_region 7 with fail
     rw[<-E];clear E
     go_upto_region 8 with fail
     rw[<-p];clear p d13 aQ ag;go_wp2
     go_roundw
     case rel=>
      refine⟨b+1,j,I,om,gn,?_,?_,ax,aH,aE,i.o.1,i.o.2.1,i.o.2.2⟩
      .rw[v.o,F.o];exact aB
      .rw[v.o,F.o];exact a7
     case measure=>exact mz
  .obtain rfl:b=a.nl:=om;have x:=h_ r;have bJ:=h_ g;have N:=h_ hA;have Q:=h_ hF;have bo:=h_ L;obtain⟨b8,b',rfl,_⟩:=i_ r;have bk:¬(a.nl:Int)<(a.nl:Int):=om;clear r g hF hA L Z M ac q ab ah K am;go_wp2;go_ret;refine⟨_,j,W,rfl,?_,?_,N,Q,i.o.1,i.o.2.1,i.o.2.2,bo⟩
   .rw[F.o];exact x
   .rw[F.o];exact bJ
def Nh{a:a_}(b:a.size<=257):a.extract 0 257=a:=by apply Z6;apply abN;simp only[ByteArray.data_extract,Array.toList_extract,List.extract_eq_take_drop,List.drop_zero,aaK];exact Zf (by rw[Y0];exact b)
def PU(a:a_):(Pl.nQ (a.extract 0 257)↔Pl.nQ a)/\(Pl.nQ a->a.extract 0 257=a):=by
 by_cases c:a.size<=257
 .rw[Nh c];exact⟨Iff.rfl,λ_=>rfl⟩
 .refine⟨⟨λb=>?_,λb=>?_⟩,λb=>?_⟩
  .have:=b.2.1;rw[YM]at this;omega
  .have:=b.2.1;omega
  .have:=b.2.1;omega
def X2(a:Fd):Nat×Nat×Nat×a_:=(a.line,0,a.unit,a.body)
def Ni(a:j4)(b:List Fd):lB a b=nt a (b.map X2):=by unfold lB nt;rw[List.foldl_map];rfl
def JC{D i:j4}{a:Nat->a_}{s:Nat->Bool}(o:∀b,Lr (D.ln b) (a b)<|s b)(l:∀b,(i.ln b).kind=(D.ln b).kind):∀n,(findF<|pcsUp D.ln n).map X2=tickA i a n:=by
 intro n
 induction n with
 |zero=>rfl
 |succ n j=>
  unfold pcsUp tickA;by_cases c:(D.ln n).kind=1
  .rw[Ys c];have h:=((o n).VU c).2;let⟨r,m⟩:=PU<|a n;refine Q_ ?_;intro e;rw[e,ZI,j];by_cases d:Pl.nQ<|a n
   .rw[Ys ⟨(l n).trans c,d⟩];have g:findF [(n,(D.ln n).bytes)]=[⟨n,Pl.j2 (a n) 0,(a n).extract 1<|(a n).size-2⟩]:=by rw[h,m d];unfold findF;simp[d]
    rw[g];rfl
   .rw[Yo λf=>d f.2]
    have g:findF [(n,(D.ln n).bytes)]=[]:=by
     have:¬Pl.nQ (D.ln n).bytes:=by rw[h];exact λf=>d<|r.1 f
     unfold findF;simp[this]
    rw[g,aas,Zy]
  .rw[Yo c,Yo λf=>c<|(l n).symm.trans f.1];exact j
def oh(a:j4):j4:={a with ln:=λb=>if b<a.nl then ou (a.ln b)else a.ln b}
def Ej(a:Ln):(ou a).kind=a.kind:=by unfold ou;split<;>rfl
def v1(a:j4)(b:Nat):((oh a).ln b).kind=(a.ln b).kind:=by
 show(if b<a.nl then ou (a.ln b)else a.ln b:Ln).kind=_;split
 .exact Ej _
 .rfl
def PV{b h:j4}{g:Nat->a_}{j:Nat->Bool}(f:∀a,Lr (b.ln a) (g a)<|j a)(i:∀a,(h.ln a).kind=(b.ln a).kind):∀a,Lr ((oh b).ln a) (vX h g b.nl a)<|j a:=λa=>by
 show Lr (if a<b.nl then ou (b.ln a)else b.ln a) _ _;unfold vX;by_cases e:a<b.nl
 .rw[Ys e];unfold ou;by_cases c:(b.ln a).kind=1
  .rw[Ys c,Ys ⟨e,(i a).trans c⟩];exact⟨λ_=>⟨((f a).VU c).1,rfl⟩,λd=>by have:(b.ln a).kind=0:=d;omega⟩
  .rw[Yo c,Yo λd=>c<|(i a).symm.trans d.2];exact f a
 .rw[Yo e,Yo λd=>e d.1];exact f a
def Nj(e:j4)(b:Nat->a_):∀a d,a<=d->zO (vX e b d) a+4*(tickA e b a).length<=zO b a:=by
 intro a
 induction a with
 |zero=>intro d _;exact YC _
 |succ a h=>
  intro d j;have:=h d om;show zO (vX e b d) a+(vX e b d a).size+_<=zO b a+(b a).size;unfold tickA
  have i:(vX e b d a)=if (e.ln a).kind=1 then⟨#[]⟩else b a:=by
   unfold vX;by_cases c:(e.ln a).kind=1
   .rw[Ys ⟨om,c⟩,Ys c]
   .rw[Yo λf=>c f.2,Yo c]
  rw[i];by_cases c:(e.ln a).kind=1
  .rw[Ys c];have k:(⟨#[]⟩:a_).size=0:=rfl;by_cases g:Pl.nQ<|b a
   .have:=g.1;rw[Ys ⟨c,g⟩,Yv,Zn];omega
   .rw[Yo λf=>g f.2];omega
  .rw[Yo c,Yo λf=>c f.1];omega
def oR.Xd{f b g e:Nat}{c h:j4}{i:Ls}{left:lw}{d:a_}(a:oR f b g c h i left e d):oR f b g (oh c) h i left e d:=
 ⟨⟨a.fl.sz,a.fl.ent,a.fl.xe,a.fl.xg,a.fl.lat,a.fl.stamp,a.fl.sec,a.fl.qq,a.fl.uns,a.fl.GN⟩,⟨a.tw.sz,a.tw.kp,a.tw.unit,a.tw.nl,a.tw.batch,a.tw.ent,a.tw.uns,λj=>by rw[v1];exact a.tw.kind j,a.tw.wt⟩,a.top,a.cm,a.rd,a.ll,a.la,a.ix,a.u0,a.le,a.sf,a.hz,a.hs,a.hn⟩
def B2{b:j4}(a:kQ b):kQ (oh b):=⟨a.sz,a.ent,a.xe,a.xg,a.unit,a.batch,a.nl,a.lat,a.stamp,a.sec,a.qq,a.uns,a.w0,a.GN,a.top⟩
def JD{c:Cf}{l f:Nat}{b a:j4}{m:Ls}{left:lw}{s:a_}(h:oR c.z c.sec l b a m left f s)(j:kQ b)(d:mK b c)(w:mK a c)(hF:nN c)(t:∀r∈left,r.length<=1000)(e:Nat->a_)(n:Nat->Bool)(i:Nat)(g:Bd c b a e n i)(p:i<=1100000):
 Pv c l (lB (oh b)<|findF<|pcsUp b.ln b.nl).1 (kZ a left f (tickA a e a.nl)).1 m (kZ a left f (tickA a e a.nl)).2.2.1 (kZ a left f (tickA a e a.nl)).2.2.2 (vX a e a.nl) n (lB (oh b)<|findF<|pcsUp b.ln b.nl).2 (kZ a left f (tickA a e a.nl)).2.1 i:=by
 have o:=h.tw.nl;have q:=Nj a e c.n c.n kM;have v:=g.pn;have x:=AN a e b.nl;have y:=j.nl;rw[Ni,JC g.ln h.tw.kind,o];have k:=d.nl;rw[<-k]at q;refine Eg h.Xd (B2 j) ⟨d.sz,d.kp,d.unit,d.nl,d.batch,d.sec,λu=>by rw[v1];exact d.kind u⟩ w hF t g.ar _ _ _ _ (PV g.ln h.tw.kind) ?_ p om;rw[<-k]at v⊢;omega
def PW{D:j4}:∀n,n<=D.nl->∀b∈findF (pcsUp D.ln n),V5 (oh D) b:=by
 intro n
 induction n with
 |zero=>intro _ b a;cases a
 |succ n d=>
  intro h b a;unfold pcsUp at a;split at a
  .rename_i f;refine Q_ ?_;intro e;rw[e]at a;rcases ZU.1 a with a|a
   .exact d om b a
   .unfold findF at a;by_cases c:Pl.nQ (D.ln n).bytes
    .simp[c]at a;have g:=c.1;have i:=c.2.1;subst a;refine⟨by show n<D.nl;omega,by show((oh D).ln n).kind=1;rw[v1];exact f,Pl.kz ..,?_,?_⟩
     .show 1<=((D.ln n).bytes.extract 1<|(D.ln n).bytes.size-2).size;rw[YM];omega
     .show((D.ln n).bytes.extract 1<|(D.ln n).bytes.size-2).size<=253;rw[YM];omega
    .simp[c]at a
  .exact d om b a
structure xK(B:Nat)(T:Nat->d_->Bool)(w w':b_):Prop where
 os:w'.os=w.os
 output:w'.output=w.output
 size:w.heap.size<=w'.heap.size
 keep:∀(g:Nat) (cur:Array f_) (t:d_),w.heap[g]?=some (.cells cur t)->T g t=false->w'.heap[g]?=w.heap[g]?
 low:∀g,g<B->g<w.heap.size->w'.heap[g]?=w.heap[g]?
section
variable {B:Nat}{T:Nat->d_->Bool}{w w' w1:b_}
theorem xK.to_(a:xK B T w w'):lC B T (rt w w'.tape w'.drawn) w':=⟨a.os,rfl,a.output,a.size,a.keep,a.low⟩
theorem xK.trans(a:xK B T w w1)(c:xK B T w1 w'):xK B T w w':=⟨c.os.trans a.os,c.output.trans a.output,YH a.size c.size,λb g f e h=>(c.keep b g f ((a.keep b g f e h).trans e) h).trans<|a.keep b g f e h,λb i j=>(c.low b i<|Yy j a.size).trans<|a.low b i j⟩
theorem xK.of(a:lC B T w w'):xK B T w w':=⟨a.os,a.output,a.size,a.keep,a.low⟩
theorem xK.cl{b:Tp}{d:Nat}(a:xK B T w w'):xK B T w (rt w' b d):=⟨a.os,a.output,a.size,a.keep,a.low⟩
theorem xK.at(a:Tp)(d:Nat):xK B T w (rt w a d):=⟨rfl,rfl,YC _,λ_ _ _ _ _=>rfl,λ_ _ _=>rfl⟩
theorem xK.old(i:w.heap.size<=w'.heap.size)(c:∀a,a<w.heap.size->w'.heap[a]?=w.heap[a]?)(f:w'.os=w.os)(g:w'.output=w.output):xK B T w w':=⟨f,g,i,λb _ _ e _=>c b<|Yn e,λb _ h=>c b h⟩
end
section
variable {O:Nat->Bool}{X:b_}{d L S:Nat}{E:Nat->Nat}{wv:f_}{D:j4}
theorem j1.Sz{w w':b_}(a:j1 O w d L S E wv D)(i:w.heap.size<=w'.heap.size)(b:∀e,e<w.heap.size->w'.heap[e]?=w.heap[e]?):j1 O w' d L S E wv D:=
 ⟨(b d<|Yn a.dev).trans a.dev,a.lines.same<|b L a.lines.lt,λc f=>(a.ent c f).same<|b (E c) (a.ent c f).lt,a.inj,(b S<|Yn a.store).trans a.store,jV a.wait λg h=>b g (a.wait.lt g h).2,a.lo,a.ow.grow i⟩
theorem j1.rt{w:b_}{τ:Tp}{n:Nat}(a:j1 O w d L S E wv D):j1 O (rt w τ n) d L S E wv D:=a.Sz kM (λ_ _=>rfl)
def xK.Bk{w w':b_}(a:kf L w w')(n:D.base<=L)(g:∃e,w.heap[L]?=some (.cells e 116)):xK D.base (lS O d L S E) w w':=by obtain⟨l,h⟩:=g;refine⟨a.os,a.output,a.size,λb e k c i=>a.block b (Yn c) λf=>?_,λb m j=>a.block b j om⟩;subst f;have:=oM c h;subst this;simp[lS]at i
theorem pJ{B c g:Nat}{a:d_}{e:f_}{b:List f_}:Cl (λw=>w.ownsRow B a c e g b):=λ_ _ _ f=>jV f (λ_ _=>rfl)
theorem JE(b:List Pc)(a:Pc):findF (b++[a])=findF b++findF [a]:=by unfold findF;rw[abI]
def Ek(b:Pc):∀c∈findF [b],c.line=b.1:=λc f=>by
 unfold findF at f;obtain⟨g,h,a⟩:=List.mem_filterMap.1 f;obtain rfl:=Y'.1 h;by_cases e:Pl.nQ g.2
 .rw[Ys e]at a;rw[<-YR a]
 .rw[Yo e]at a;cases a
def AR(f:Nat->Ln):∀b,(findF<|pcsUp f b).Pairwise (λe h=>e.line<h.line)/\∀a∈findF (pcsUp f b),a.line<b
 |0=>⟨List.Pairwise.nil,λa c=>by cases c⟩
 |b+1=>by
  obtain⟨j,g⟩:=AR f b;unfold pcsUp;split
  .rw[JE];refine⟨abP.2 ⟨j,?_,λe k h l=>?_⟩,λa c=>?_⟩
   .unfold findF;rw[abi];split
    .exact List.Pairwise.nil
    .exact List.pairwise_singleton _ _
   .rw[Ek _ h l];exact g e k
   .rcases ZU.1 c with i|i
    .exact Nat.lt_succ_of_lt<|g a i
    .rw[Ek _ a i];exact Zo _
  .exact⟨j,λa c=>Nat.lt_succ_of_lt<|g a c⟩
def Ud{B:Nat}{w:b_}{m:f_}{a:List Pc}(y:w.ownsRow B 178 2 m a.length<|a.flatMap tD)(C:a.length<=1000)(o:∀g∈a,g.2.size<=4194304):∃(h s r:Option Addr) (e t q H:Nat),m=.slice h a.length e/\H=a.length/2/\(∀(w:b_) (b:Array Event),(Instr.sliceAt 131 (.slice h a.length e) none (some (ν H)) none).events prog w b=b/\(Instr.sliceAt 131 (.slice h a.length e) none (some (ν H)) none).run prog w=.ok (.slice s H t) w)
 /\(∀(w:b_) (b:Array Event),(Instr.sliceAt 131 (.slice h a.length e) (some (ν H)) none none).events prog w b=b/\(Instr.sliceAt 131 (.slice h a.length e) (some (ν H)) none none).run prog w=.ok (.slice r (a.length-H) q) w)
 /\∀(w:b_) (B:Nat),w.ownsRow B 178 2 m a.length (a.flatMap tD)->o4 w (.slice s H t) (a.take H)/\o4 w (.slice r (a.length-H) q) (a.drop H):=by
 let⟨I,j,_,u,_⟩:=Y4 Tryz.Nb;rcases y.2 with⟨rfl,z⟩|⟨l,e,F,rfl,_,_,x,_⟩
 .have i:a=[]:=YV z;subst i;refine⟨none,none,none,0,0,0,0,rfl,rfl,λw b=>(AQ underlying131 j).1,λw b=>(AQ underlying131 j).2,λw B _=>⟨o4.none w,o4.none w⟩⟩
 .let⟨H,A⟩:=j5<|a.length/2;refine⟨_,some (μ l 0),some (μ l<|H*2),e,e,e-H,H,rfl,A,λw b=>PP underlying131 j om,λw b=>?_,λw B p=>⟨o4.some p 0 om (λv g f=>?_) (by rw[ZJ];omega) om (λg i=>o g<|aaO i),o4.some p H rfl (λv g f=>?_) (by rw[List.length_drop]) om (λg i=>o g<|List.mem_of_mem_drop i)⟩⟩
  .have:=PQ (P:=prog) (w:=w) (es:=b) (g:=l) (n:=a.length) (c:=e) (k:=H) underlying131 j om x;rw[u]at this;exact this
  .rw[abY]at f;split at f
   .rw[YF];exact f
   .cases f
  .rw[abl]at f;exact f
def UK(O:Nat->Bool)(X:b_)(d L S:Nat)(E:Nat->Nat)(wv:f_)(D:j4)(a:f_)(w:b_):Prop:=j1 O w d L S E wv (oh D)/\w.ownsRow X.heap.size 178 2 a (pcsUp D.ln D.nl).length ((pcsUp D.ln D.nl).flatMap tD)/\xK D.base (lS O d L S E) X w
def Nk(O:Nat->Bool)(X:b_)(d L S:Nat)(E:Nat->Nat)(wv:f_)(D:j4)(a:f_)(w:b_):Prop:=j1 O w d L S E wv (oh D)/\w.ownsRow X.heap.size 134 4 a (findF<|pcsUp D.ln D.nl).length ((findF<|pcsUp D.ln D.nl).flatMap Fd.c)/\xK D.base (lS O d L S E) X w
def sH(O:Nat->Bool)(X:b_)(d L S:Nat)(E:Nat->Nat)(D:j4)(a:f_)(w:b_):Prop:=∃b,w.ownsRow X.heap.size 77 4 a (lB (oh D)<|findF<|pcsUp D.ln D.nl).2.length ((lB (oh D)<|findF<|pcsUp D.ln D.nl).2.flatMap ku)/\j1 O w d L S E b (lB (oh D)<|findF<|pcsUp D.ln D.nl).1/\xK D.base (lS O d L S E) X w
theorem UK.cl{v:f_}:Cl (UK O X d L S E wv D v):=λw b d a=>⟨a.1.rt,pJ w b d a.2.1,a.2.2.cl⟩
theorem Nk.cl{v:f_}:Cl (Nk O X d L S E wv D v):=λw b d a=>⟨a.1.rt,pJ w b d a.2.1,a.2.2.cl⟩
theorem sH.cl{v:f_}:Cl (sH O X d L S E D v):=λw e d ⟨c,a,b,f⟩=>⟨c,pJ w e d a,b.rt,f.cl⟩
theorem PX(a:f_):ns prog 105 [a] a:=⟨kr,_,underlying105,.inr ⟨rfl,rfl⟩⟩
end
theorem mI{g e:Array f_->b_->Prop}(h:∀f w,g f w->e f w){a:Exit}{c:Act}{w:b_}(b:k' g a c w):k' e a c w:=by
 cases a with
 |normal=>exact⟨b.1,h _ _ b.2⟩
 |_=>exact b.elim
section
variable {O:Nat->Bool}{Q:Array c_->b_->Trace->Prop}{bc:Frame}{ac:Act}{A0:Array Oper}{ic:Nat}{restc:List Nat}{oc:Oper}{kc:List Item}{csc:List Frame}
def Nl(aA:Code)(aW:Tryz.f30.body=some aA)(X:b_)(d L S:Nat)(E:Nat->Nat)(wv:f_)(D:j4)(af:j1 O X d L S E wv D)(aB:kQ D)(a2:D.arr<=300000000)(aP:∀p∈pcsUp D.ln D.nl,p.2.size<=4194304)(aF:A0[ic]?=some oc)
 (a1:∀a,kI prog (G (bc.at (ac.put oc.dst a) (.inRegion A0 restc::kc)) csc) (sH O X d L S E D a) Q):
 kI prog (G ((base 30).at {tmps:=#[π d]++Array.replicate (Tryz.f30.ntmps-1) undef,defers:=[]} [.code aA]) (bc.at ac (.inRegion A0 (ic::restc)::kc)::csc)) (At X) Q:=by
 have ax:=aW.symm;simp only[Tryz.f30,Yz]at ax;subst ax;have hk:(base 30).kind≠.early:=by simp[base]
 have aj:=At.cl X;simp only[ntmps30,YJ,YA,YI,Nat.reduceAdd,Nat.reduceSub,Zu,Zt,ZK,Zz,YT,Y1];have aG:Hid _:=a1;have aw:Hid<|D.nl<=4:=aB.nl.2;refine J3 ?_;co_apply Tr.load aj rfl (by rfl) hk rfl (bl:=d) (off:=2) (by rfl) (vs:=[ω L D.nl D.nl]) (λw K q a aC=>by obtain⟨P,ak,rfl⟩:=K;cases q with|zero=>(have:=af.cells.2.2.1;simpa using aC▸this)|succ q=>simp at aC) (PX _)
 walk_nrm;co_apply Tr.enter aj rfl (by rfl) hk rfl (vals:=#[ω L D.nl D.nl]) (by walk_nrm) func68 (by rfl) rfl;simp only[ntmps68,YJ,YA,YI,Nat.reduceAdd,Nat.reduceSub,Zu,Zt,ZK,Zz,YT,Y1];have aK:=hk;have hk:(base 68).kind≠.early:=by simp[base]
 co_apply Tr.seq aj
 (co_apply Tr.region aj;simp only[YJ,YA,YI,Nat.reduceAdd,YF,List.range,List.range.loop])
 (co_apply Tr.pure aj rfl (by rfl) hk oZ pj;walk_nrm)
 co_apply Tr.nil aj;co_apply Tr.seq aj
 (co_apply Tr.region aj;simp only[YJ,YA,YI,Nat.reduceAdd,YF,List.range,List.range.loop])
 (co_apply Tr.pure aj rfl (by rfl) hk oZ pj;walk_nrm)
 co_apply Tr.nil aj;co_apply Tr.seq aj
 co_apply Tr.UJ qQ (by kernel_rfl) (λap ai=>by have N:fV.M 68=[]:=kr;rw[N]at ai;cases ai) aj
  (J:=λR w'=>∃a r I v C x o e y F l u f z b s A c n h j i t m V U ae Z aa:f_,R=#[ω L D.nl D.nl,undef,σ,a,r,I,v,C,x,o,e,y,F,l,u,f,z,b,s,A,c,n,h,j,i,t,m,V,U,ae,Z,aa]/\UK O X d L S E wv D a w')
  (λ_ w P d ⟨a,r,I,v,C,x,o,e,y,F,l,u,f,z,b,s,A,c,n,h,j,i,t,m,V,U,ae,Z,aa,N,M⟩=>⟨a,r,I,v,C,x,o,e,y,F,l,u,f,z,b,s,A,c,n,h,j,i,t,m,V,U,ae,Z,aa,N,UK.cl w P d M⟩)
  (λw K=>by
   obtain⟨P,ak,rfl⟩:=K
   exact aaA (λ_ _ _ q=>mI (λR w' ⟨a,r,I,v,C,x,o,e,y,F,l,u,f,z,b,s,A,c,n,h,j,i,t,m,V,U,ae,Z,aa,N,Y,ab,W⟩=>⟨a,r,I,v,C,x,o,e,y,F,l,u,f,z,b,s,A,c,n,h,j,i,t,m,V,U,ae,Z,aa,N,(af.rt (τ:=P) (n:=ak)).heard (g:=(oh D).ln) (ab.congr (λar ap K _=>by show qk (ou<|D.ln ar) ap=qk (if ar<D.nl then ou (D.ln ar)else D.ln ar) ap;rw[Ys K])) W,Y,(xK.at P ak).trans<|xK.Bk W af.lo.2.1 af.lines.block⟩) q)<|Gg _ _ ⟨_,_,rfl⟩ L D.nl D.ln (rt X P ak) aw af.rt.lines)
 rintro R ag w ah ⟨a,r,I,v,C,x,o,e,y,F,l,u,f,z,b,s,A,c,n,h,j,i,t,m,V,U,ae,Z,aa,rfl,ad⟩ al;have a3:(pcsUp D.ln D.nl).length<=4:=YH (vY D.ln D.nl) aw;obtain⟨aq,aX,aH,an,aY,aQ,H,rfl,aN,aT,aL,aI⟩:=Ud ad.2.1 (by omega) aP;have aO:Hid _:=aI;have aV:Hid _:=aT;have a0:Hid _:=aL;have aJ:Hid _:=aN;refine(?_:kI prog _ (UK O X d L S E wv D<|.slice aq (pcsUp D.ln D.nl).length an) Q) ag w ah ad al;have aj:=UK.cl (O:=O) (X:=X) (d:=d) (L:=L) (S:=S) (E:=E) (wv:=wv) (D:=D) (v:=.slice aq (pcsUp D.ln D.nl).length an);refine J3 ?_;co_apply Tr.Pr aj func68 (by rfl) rfl rfl;have hk:=aK;walk_nrm;co_apply Tr.enter aj rfl (by rfl) hk rfl (vals:=#[.slice aq (pcsUp D.ln D.nl).length an]) (by walk_nrm) func67 (by rfl) rfl;have aD:=AR D.ln D.nl;have ay:(findF<|pcsUp D.ln D.nl).length<=4:=by have:=AP<|pcsUp D.ln D.nl;omega
 refine Gk aj _ rfl (pcsUp D.ln D.nl) aq aX aH an aY aQ H aJ.o aV.o a0.o (λw K=>aO.o w _ K.2.1) (by omega) ay aD.1 (λau av=>by have:=aD.2 au av;have:=aw.o;omega) rfl (λa=>?_);intro ag w ah aU al;obtain⟨w1,ad,Y,ab,W,aM,az⟩:=aU;obtain⟨ao,am,rfl,a4⟩:=i_ az;have aS:Nk O X d L S E wv D (.slice ao (findF<|pcsUp D.ln D.nl).length am) w:=⟨ad.1.Sz Y ab,j9 az ad.2.2.size,ad.2.2.trans<|xK.old Y ab W aM⟩;refine(?_:kI prog _ (Nk O X d L S E wv D<|.slice ao (findF<|pcsUp D.ln D.nl).length am) Q) ag w ah aS al;have aj:=Nk.cl (O:=O) (X:=X) (d:=d) (L:=L) (S:=S) (E:=E) (wv:=wv) (D:=D) (v:=.slice ao (findF<|pcsUp D.ln D.nl).length am);have aE:kQ<|oh D:=B2 aB;walk_nrm
 (co_apply Tr.pure aj rfl (by rfl) hk oZ pj;walk_nrm)
 (co_apply Tr.pure aj rfl (by rfl) hk oZ pj;walk_nrm)
 co_apply Tr.nil aj
 co_apply Tr.UJ qQ (by kernel_rfl) (λap ai=>by have N:fV.M 30=[]:=kr;rw[N]at ai;cases ai) aj
  (J:=λR w'=>∃a r I v C x o e y F l u f z b s A c n h j i t m:f_,R=#[π d,undef,σ,a,r,I,v,C,x,o,e,y,F,l,u,f,z,b,s,A,c,n,h,j,i,t,m]/\sH O X d L S E D a w')
  (λ_ w P d ⟨a,r,I,v,C,x,o,e,y,F,l,u,f,z,b,s,A,c,n,h,j,i,t,m,N,M⟩=>⟨a,r,I,v,C,x,o,e,y,F,l,u,f,z,b,s,A,c,n,h,j,i,t,m,N,sH.cl w P d M⟩)
  (λw K=>aaA (λ_ _ _ q=>mI (λR w' ⟨a,aR,r,I,v,C,x,o,e,y,F,l,u,f,z,b,s,A,c,n,h,j,i,t,m,N,Y,ab,W⟩=>⟨a,r,I,v,C,x,o,e,y,F,l,u,f,z,b,s,A,c,n,h,j,i,t,m,N,aR,j9 Y K.2.2.size,ab,K.2.2.trans<|xK.of W⟩) q)<|PK _ _ ⟨_,_,_,rfl⟩ d L S E wv (oh D) (findF<|pcsUp D.ln D.nl) X.heap.size am ao _ _ _ w K.1 aE a2 ay (λau av=>PW D.nl kM au av) K.2.1)
 rintro R ag w ah ⟨a,r,I,v,C,x,o,e,y,F,l,u,f,z,b,s,A,c,n,h,j,i,t,m,rfl,aZ⟩ al;refine(?_:kI prog _ (sH O X d L S E D a) Q) ag w ah aZ al;have aj:=sH.cl (O:=O) (X:=X) (d:=d) (L:=L) (S:=S) (E:=E) (D:=D) (v:=a);refine J3 ?_;co_apply Tr.Pr aj func30 (by rfl) rfl aF;exact aG a
end
section
variable {w:b_}{B:Nat}{c:Nat->Nat}{τ:Tp}{n:Nat}
theorem j3.rt{e:pL}{d:j4}{left:lw}{f:Nat}{b:Nat->a_}{g:Nat->Bool}(a:j3 w B c e d left f b g):j3 (rt w τ n) B c e d left f b g:=⟨a.dev,a.kA,a.inj,a.Aq,a.Cd,a.qI,a.tf,a.wt,a.lf,a.GH,a.cr,a.cG,a.cy,a.cz,a.cw,a.cl,a.cb,a.lo⟩
theorem kw.rt{f:me}{b:j4}{e:Ls}{d:Nat}(a:kw w B c f b e d):kw (rt w τ n) B c f b e d:=⟨a.n_,a.dk,a.wet,a.cg,a.cd,a.cw,a.lo⟩
theorem kP.rt{d e:Nat}{b:lu}(a:kP w B d e b):kP (rt w τ n) B d e b:=⟨a.mw,a.LI,a.LF,a.LA,a.LT,a.PI,a.PF,a.PA,a.PT,a.CI,a.WI,a.CF,a.WF,a.CA,a.WA,a.CT,a.WT,a.nI,a.nF,a.nA,a.nT,a.xI,a.xF,a.xA,a.xT,a.here,a.lo⟩
theorem rI.rt{d e:Nat}{b:lu}(a:rI w B c d e b):rI (rt w τ n) B c d e b:=⟨a.bk.rt,a.ob,a.hi,a.ty⟩
theorem lA.rt{d:me}{b:j4}(a:lA w B c d b):lA (rt w τ n) B c d b:=⟨a.rP.rt,a.cd,a.cL,a.cS,a.cE,a.cv,a.lo⟩
theorem nJ.rt{j:me}{e f d h:Nat}{k:lu}{i:Cf}{b:j4}{l:Ls}{left:lw}{g:Nat->a_}{m:Nat->Bool}(a:nJ w B c j e f k i b l left d g m h):nJ (rt w τ n) B c j e f k i b l left d g m h:=⟨a.bk.rt,a.rf.rt,a.rg.rt,⟨a.nr.zero⟩,a.lb,a.cf,a.cr,⟨a.fx.mw,a.fx.ob,a.fx.lo,a.fx.ty⟩⟩
theorem Full.rt{l:me}{f g e j h:Nat}{m:lu}{k:Cf}{d:j4}{o:Ls}{left:lw}{i:Nat->a_}{p:Nat->Bool}{b:a_}(a:Full w B c l f g m k d o left e i p j b h):Full (rt w τ n) B c l f g m k d o left e i p j b h:=⟨a.sb.rt,a.dv.rt,a.qB,a.ok,a.bd,a.bn,a.ll⟩
theorem lc.rt{i:b_}{h:me}{e b f d:Nat}{g:Cf}(s:lc w i B h e b g f d):lc (rt w τ n) (rt i τ n) B h e b g f d:=by obtain⟨y,q,t,k,p,m,r,u,A,d4,z,l,x,j,C,v,o,a⟩:=s;exact⟨y,q,t,k,p,m,r,u,A,d4,z.rt,l.rt,x,j,C,v,o,⟨a.os,rfl,a.output,a.size,a.block⟩⟩
end
def SA:Array Oper:=#[{dst:=some 72,op:=.move<|.tmp 0,type:=34,pos:= "device.go:275",after:=#[],guard:=none},
 {dst:=some 73,op:=.nilCheck<|.tmp 72,type:=0,pos:= "device.go:275",after:=#[{on:=0,ground:=.data}],guard:=none},
 {dst:=some 74,op:=.fieldAddr 52 (.tmp 73) 0,type:=0,pos:= "device.go:275",after:=#[{on:=1,ground:=.data}],guard:=none},
 {dst:=some 75,op:=.load 49<|.tmp 74,type:=49,pos:= "device.go:275",after:=#[{on:=2,ground:=.data}],guard:=none},
 {dst:=some 76,op:=.call {callee:=.value<|.func 30,args:=#[.tmp 75],argTypes:=#[49]},type:=31,pos:= "device.go:275",after:=#[{on:=3,ground:=.data}],guard:=none},
 {dst:=some 11,op:=.assign<|.tmp 76,type:=31,pos:= "device.go:275",after:=#[{on:=4,ground:=.data},{on:=4,ground:=.chain},{on:=0,ground:=.phase},{on:=1,ground:=.phase},{on:=2,ground:=.phase},{on:=3,ground:=.phase},{on:=4,ground:=.phase}],guard:=none}]
def Ue:∃a b d,Tryz.f9.body=some (.seq (.region 0 #[{dst:=some 4,op:=.box 42<|.tmp 1,type:=0,pos:= "device.go:262",after:=#[],guard:=none},{dst:=some 6,op:=.assign<|.const<|.bool false,type:=4,pos:= "device.go:262",after:=#[],guard:=none}] false) (.seq (.seq (.region 1 #[{dst:=some 22,op:=.fieldAddr 42 (.tmp 4) 0,type:=0,pos:= "device.go:263",after:=#[],guard:=none},{dst:=some 23,op:=.load 3<|.tmp 22,type:=3,pos:= "device.go:263",after:=#[{on:=0,ground:=.data}],guard:=none}] false)
 (.block 0<|.seq (.region 2 #[{dst:=some 25,op:=.binOp .eql 3 (.tmp 23) (.const<|ν 2) 3,type:=4,pos:= "device.go:264",after:=#[],guard:=none},{dst:=some 24,op:=.assign<|.tmp 25,type:=4,pos:= "device.go:264",after:=#[{on:=0,ground:=.data}],guard:=none}] false)<|.cond (.tmp 24) a<|.seq (.region 10 #[{dst:=some 71,op:=.binOp .eql 3 (.tmp 23) (.const<|ν 3) 3,type:=4,pos:= "device.go:274",after:=#[],guard:=none},{dst:=some 70,op:=.assign<|.tmp 71,type:=4,pos:= "device.go:274",after:=#[{on:=0,ground:=.data}],guard:=none}] false)<|.cond (.tmp 70) (.seq (.region 11 SA false)<|.seq (.region 12 Sm true) .ret) b)) d))
 /\okCode fV 9 a=true/\okCode fV 9 b=true/\okCode fV 9 d=true:=⟨_,_,_,rfl,kr,kr,kr⟩
def y9{d:j4}{i:Nat->a_}{h:Nat->Bool}(e:∀f,Lr (d.ln f) (i f)<|h f):∀n,∀b∈pcsUp d.ln n,b.2.size<=4194304
 |0,b,a=>by cases a
 |n+1,b,a=>by
  unfold pcsUp at a;split at a
  .rename_i j;rcases ZU.1 a with g|g
   .exact y9 e n b g
   .rw[Y'.1 g];show(d.ln n).bytes.size<=_;rw[((e n).VU j).2,YM];omega
  .exact y9 e n b a
def Gl(w g w1:b_)(B:Nat)(c:Nat->Nat)(q:me)(v y:Nat)(O:lu)(l:Cf)(e:j4)(K:Ls)(left:lw)(N:Nat)(i:Nat->a_)(x:Nat->Bool)(Y:Nat)(aT:a_)(J:Nat)(t:nE)(L:f_)(U:g.heap[w.heap.size]?=some (.cells (k9 t) 42))(aj:Below w.heap.size w g)(ai:B<=w.heap.size)(Z:c w.heap.size=9)(a:Full g B c q v y O l e K left N i x Y aT J)(hF:nN l)(a9:y<=1600000)(bB:2*l.sec<=Y/\Y<=64)(aO:yu t)
 (m:f_) (C:List Ac) (s:j4) (a4:C=(lB (oh e)<|findF<|pcsUp e.ln e.nl).2) (af:s=(lB (oh e)<|findF<|pcsUp e.ln e.nl).1) (P:w1.ownsRow g.heap.size 77 4 L C.length<|C.flatMap ku) (ab:j1 (oc c g) w1 q.d q.L q.S q.E m s) (aw:lC e.base (lS (oc c g) q.d q.L q.S q.E) g w1):
 w1.cell? (μ q.g 1)=some (π q.p.r)/\w1.heap[w.heap.size]?=some (.cells (k9 t) 42)/\Calls prog 34 #[π q.p.r] w1.drew λD h=>∃R,D=.returned R/\(h.heap[w.heap.size]?=some (.cells (k9 t) 42)/\Calls prog 33 #[π q.g,L,R,.agg<|k9 t,π v] h λD a8=>∃ag,D=.returned ag/\(ag=.bool true/\lc w a8 B q v (y+11) l Y J)):=by
 refine Ca ?_;intro a6 ev a3;have aP:=Yn U;have aU:=a.bn;have b:=JD a.qB a.ok a.sb.cf a.sb.cr hF a.ll i x J a.bd a.bn;have ah:=vZ (B2 a.ok) (findF<|pcsUp e.ln e.nl) _ kM;rw[aal]at ah;have aI:s.base=e.base:=by rw[af];exact ah.2.1.base
 rw[<-a4,<-af]at b;have aB:left.length=q.p.rd.arr+1:=a.qB.ll;have ay:q.p.rd.arr<=300000:=li a.bd.pn;let⟨z,ax⟩:=qX a.dv a.sb.nr ab aw aI 1;have E:=oD g c m 1;have W:=(z.keep _ _ _ U (.inl dc) (qx Z)).trans U;have S:=a.sb.bk.bk.lo.2;have hA:NK w w1 B (nc w1 B<|Dl g c m 1) q v y O l e s K left N i x Y t C L m:=⟨nJ.norm (a.sb.bk.frame z E dc) (a.sb.rf.frame z E dc dc dc) (a.sb.rg.frame z E dc) a.sb.lb a.sb.cf a.sb.cr<|a.sb.fx.frame z E dc,ax,j9 P S,λd f=>⟨lN P S dc (show(1:Nat)≠0 by decide) (xO P ab.wait dc kM) d f,λa5=>by have aF:=a.sb.bk.bk.here d a5;have bb:=(P.lt d f).1;omega⟩,W,mg ai W dc ((E _ aP).trans Z) dc,(aj.mono ai).trans<|z.toBelow a.sb.nr dc S⟩;obtain⟨T,aY⟩:=j5<|nc w1 B<|Dl g c m 1;rw[<-aY]at hA;obtain⟨_,_,_,_,_,_,_,az,_⟩:=hA.sb.cells a3;refine⟨az,W,?_⟩;refine Kl ?_;intro ew;have aL:∀u,u<q.p.rd.nl->(i u).size<=4194304:=λu X=>by have aF:=MW i (n:=l.n) (by rw[<-a.sb.cr.nl];exact X);have:=a.bd.pn;omega
 refine(Jt w1.drew B T q.p q.p.rd left N i x ew (a.qB.VX a.ok) (λu X=>by rw[a.sb.cr.kind];exact hF.kn u (by rw[<-a.sb.cr.nl];exact X)) aL aB ay).mono ?_;rintro D h ⟨R,I,F,rfl,V,aa,aQ,aJ,aR,ad,aH,a1⟩;have r:Fc T 3 w1 h:=(Fc.jX br.drew).trans aJ<|mD.refl _ _;have A:mD w1 T F:=aQ;obtain⟨j,al⟩:=j5<|kZ q.p.rd left N (tickA q.p.rd i q.p.rd.nl);rw[<-al]at V aa b;have a2:=aa.ghost j.1;have o:=hA.dv.frame hA.sb.nr r A dc;have au:=(r.keep _ _ _ hA.bx (.inl dc) (qx hA.cb)).trans hA.bx;have ae:=r.own hA.row dc (λd f=>by rw[(hA.vc d f).1];decide);have aN:B<=w1.heap.size:=hA.sb.bk.bk.lo.2;have av:nJ h B (nc h B F) {q with wv:=m,p:={I with rd:=j.1}} v y O l s K j.2.2.1 j.2.2.2 (vX q.p.rd i q.p.rd.nl) x Y:=nJ.norm (hA.sb.bk.frame r A dc) a2 ((hA.sb.rg.frame r A dc).Wx hA.sb.cf b.cf rfl rfl rfl rfl aR ad aH) (by show B<=I.lb;rw[ad];exact hA.sb.lb) b.cf b.cr<|hA.sb.fx.frame r A dc;have aZ:lA h B (nc h B F) {q with wv:=m,p:={I with rd:=j.1}} s:=lA.nc ⟨o.rP,o.cd,o.cL,o.cS,o.cE,o.cv,o.lo⟩;obtain⟨aq,aK⟩:=b.qB;refine⟨_,rfl,au,?_⟩;refine(wO h B (nc h B F) {q with wv:=m,p:={I with rd:=j.1}} v y O l s K j.2.2.1 j.2.2.2 (vX q.p.rd i q.p.rd.nl) x Y t L R B w1.heap.size C j.2.1 aq av aZ hF om bB aO ae kM (λd f=>⟨lN ae kM dc (show(1:Nat)≠0 by decide) (λd f=>(A d (hA.row.lt d f).2).trans (hA.vc d f).1) d f,(hA.vc d f).2⟩) V (λd f=>by rw[lN V aN dc (show(9:Nat)≠0 by decide) a1 d f];decide) b.M4 b.al b.wl b.wet b.ls b.num b.oQ b.least aK b.ok J b.bd aU b.ll).mono ?_;rintro D a' ⟨rfl,a7⟩;obtain⟨aA,ap,ar,ak,aS,an,aG,aV,aD,d4,aC,am,aM,a0,aE,aW,ao,aX⟩:=a7;exact⟨_,rfl,rfl,aA,ap,ar,ak,aS,an,aG,aV,aD,d4,aC,am,aM,a0,aE,aW,ao,(hA.bl.trans<|r.toBelow hA.sb.nr dc hA.sb.bk.bk.lo.2).trans aX⟩
section
variable {Q:Array c_->b_->Trace->Prop}{bc:Frame}{ac:Act}{A0:Array Oper}{ic:Nat}{restc:List Nat}{A1:Oper}{kc:List Item}{csc:List Frame}
def El(w:b_)(B:Nat)(c:Nat->Nat)(q:me)(j o:Nat)(U:lu)(l:Cf)(y:j4)(aa:Ls)(left:lw)(af:Nat)(ai:Nat->a_)(ab:Nat->Bool)(Y:Nat)(b:a_)(x:Nat)(v:nE)(M:Full w B c q j o U l y aa left af ai ab Y b x)(hF:nN l)(aI:o<=1600000)(bB:2*l.sec<=Y/\Y<=64)(aO:yu v)(ax:v.kind=3)(ah:Code)(aj:Tryz.f9.body=some ah)(an:A0[ic]?=some A1)
 (ak:∀a,kI prog (G (bc.at (ac.put A1.dst a) (.inRegion A0 restc::kc)) csc) (λe=>a=.bool true/\lc (rt w e.tape e.drawn) e B q j (o+11) l Y x) Q):
 kI prog (G ((base 9).at {tmps:=#[π q.g,.agg<|k9 v,π j]++Array.replicate (Tryz.f9.ntmps-3) undef,defers:=[]} [.code ah]) (bc.at ac (.inRegion A0 (ic::restc)::kc)::csc)) (At w) Q:=by
 refine Ca ?_;intro a6 ev a3;have aC:=M.sb.bk.bk.lo.2;let⟨aZ,ap,a4,ad,aW,aD,ML⟩:=Ue;rw[ad]at aj;obtain rfl:=YR aj;have s:Goes prog 9 λ_ _ _=>True:=λ_ _=>trivial;refine Hm (RR:=λ_ _ _=>True) s aW aD ML w v _ (by rw[Array.size_append,Array.size_replicate,ntmps9];rfl) qU (by simp[Act.eval];rfl) (by simp[Act.eval];rfl) trivial (λ_ _ _ aA=>absurd ax aA) (λT X _ z8 f h i V _=>?_);have z:=ba V;have ao:=v' V;clear V ad;have D:=M.below z;let⟨bN,bZ⟩:=j5<|nc X B<|kU w c 9;rw[<-bZ]at D;refine Kk ?_;intro bo;clear bZ;have a0:=Yn ao;have k0:∀τ b,(rt X τ b).cell? (μ q.g 0)=some (π q.d):=λτ b=>by obtain⟨_,_,_,_,_,_,k0,_⟩:=D.sb.cells a3;exact k0
 have t:=h_ D;have aq:=h_ ak;clear D ak M;refine Rk.ctl (RR:=λ_ _ _=>True) s trivial (λw B=>by simp[Fr,G,stepG,stepG.exec];rfl) λ_=>?_;refine Rk.ctl (RR:=λ_ _ _=>True) s trivial (λw B=>by simp[Fr,G,stepG,stepG.exec];rfl) λ_=>?_;simp only[SA,List.range];refine Rk.op (v:=π q.g) (w':=X) (RR:=λ_ _ _=>True) s trivial rfl rf qQ kr (n9 _) (λτ b W u=>?_) λ_=>?_
 .obtain⟨N,d⟩:=j5<|(Act.mk T []).eval;rw[<-d];rw[<-d]at f;clear d
  go_simp
  exact u
 obtain⟨ar,aJ,R⟩:=mX (v:=π q.g) (d:=72) z8 om;have f:=(R 0 dc).trans f;have h:=(R 2 dc).trans h;have i:=(R 4 dc).trans i;clear R;change kI _ (G (Fr _ (putT (some 72) T<|π q.g) _) _) _ _
 generalize putT (some 72) T (π q.g)=T9 at*
 refine Rk.op (v:=π q.g) (w':=X) (RR:=λ_ _ _=>True) s trivial rfl rf qQ kr (n9 _) (λτ b W u=>?_) λ_=>?_
 .obtain⟨N,d⟩:=j5<|(Act.mk T9 []).eval;rw[<-d];rw[<-d]at aJ;clear d
  go_simp
  exact u
 obtain⟨aV,aF,F⟩:=mX (v:=π q.g) (d:=73) ar om;have f:=(F 0 dc).trans f;have h:=(F 2 dc).trans h;have i:=(F 4 dc).trans i;clear F;change kI _ (G (Fr _ (putT (some 73) T9<|π q.g) _) _) _ _
 generalize putT (some 73) T9 (π q.g)=Ta at*
 refine Rk.op (v:=π q.g) (w':=X) (RR:=λ_ _ _=>True) s trivial rfl rf qQ kr (n9 _) (λτ b W u=>?_) λ_=>?_
 .obtain⟨N,d⟩:=j5<|(Act.mk Ta []).eval;rw[<-d];rw[<-d]at aF;clear d
  go_simp
  exact u
 obtain⟨aK,am,A⟩:=mX (v:=π q.g) (d:=74) aV om;have f:=(A 0 dc).trans f;have h:=(A 2 dc).trans h;have i:=(A 4 dc).trans i;clear A;change kI _ (G (Fr _ (putT (some 74) Ta<|π q.g) _) _) _ _
 generalize putT (some 74) Ta (π q.g)=Tb at*
 refine Rk.op (v:=π q.d) (w':=X) (RR:=λ_ _ _=>True) s trivial rfl rf qQ kr (n9 _) (λτ b W u=>?_) λ_=>?_
 .let⟨N,d⟩:=j5<|(Act.mk Tb []).eval;rw[<-d];rw[<-d]at am;clear d
  go_simp
  exact u
 let⟨au,av,P⟩:=mX (v:=π q.d) (d:=75) aK om;have f:=(P 0 dc).trans f;have h:=(P 2 dc).trans h;have i:=(P 4 dc).trans i;clear P;change kI _ (G (Fr _ (putT (some 75) Tb<|π q.d) _) _) ..
 generalize putT (some 75) Tb (π q.d)=Tc at*
 refine Tr.enter (b:=base 9) (a:=⟨Tc,[]⟩) (At.cl X) rfl rf (by simp[base]) rfl (vals:=#[π q.d]) (by simp[av]) func30 rf rfl ?_;refine Nl (O:=oc bN X) (bc:=base 9) (ac:=⟨Tc,[]⟩) _ rfl X q.d q.L q.S q.E q.wv y t.o.dv.rP t.o.ok (by have:=t.o.bd.ar;have:=t.o.bd.pn;have:=t.o.bn;omega) (y9 t.o.bd.ln y.nl) rfl (λa=>?_);have I:=sH.cl (O:=oc bN X) (X:=X) (d:=q.d) (L:=q.L) (S:=q.S) (E:=q.E) (D:=y) (v:=a);let⟨aS,aH,C⟩:=mX (v:=a) (d:=76) au om;have f:=(C 0 dc).trans f;have h:=(C 2 dc).trans h;have i:=(C 4 dc).trans i;clear C;change kI _ (G ((base 9).at ⟨putT (some 76) Tc a,[]⟩ _) _) ..
 generalize putT (some 76) Tc a=Td at*
 refine Tr.pure (v:=a) I rfl rf (by simp[base]) (λw a1 aP=>?_) (λw=>by simp[go_sem]) ?_
 .let⟨N,d⟩:=j5<|(Act.mk Td []).eval;rw[<-d];rw[<-d]at aH;clear d
  go_simp
  exact aP
 let⟨a2,aL,K⟩:=mX (v:=a) (d:=11) aS om;have f:=(K 0 dc).trans f;have h:=(K 2 dc).trans h;have i:=(K 4 dc).trans i;clear K;change kI _ (G ((base 9).at ⟨putT (some 11) Td a,[]⟩ _) _) ..
 generalize putT (some 11) Td a=Te at*
 refine Tr.nil I ?_;refine Tr.seq I ?_;refine Tr.wp qQ kr (n9 _) I (J:=λZ e=>Z.getD 6 undef=.bool true/\lc (rt w e.tape e.drawn) e B q j (o+11) l Y x) (λaM w τ b M=>⟨M.1,by have:=M.2.rt (τ:=τ) (n:=b);exact this⟩) (λm aR=>?_) (λZ=>?_)
 .let⟨aT,aU,az,aw⟩:=aR;let⟨aQ,aN,ay⟩:=Gl (rt w m.tape m.drawn) (rt X m.tape m.drawn) m B bN q j o U l y aa left af ai ab Y b x v a ao ⟨z.os,rfl,z.output,z.size,z.block⟩ aC bo t.o.rt hF aI bB aO aT _ _ rfl rfl aU az aw.to_;refine Me (bx:=w.heap.size) (g:=q.g) (r:=q.p.r) (kb:=j) (vl:=a) (o:=v) (R:=λal aX=>al=.bool true/\lc (rt w m.tape m.drawn) aX B q j (o+11) l Y x) (by show 130<=Te.size;omega) f aL i h aQ aN ay (λ_ _ _ _ _ M=>by cases M.1) ?_;intro aY al ag aE _ aB ae;refine⟨rfl,aB,?_,?_⟩
  .rw[<-ae.1,<-aE];rfl
  .have:=ae.2.rt (τ:=ag.tape) (n:=ag.drawn);exact this
 .have aG:Cl λe=>Z.getD 6 undef=.bool true/\lc (rt w e.tape e.drawn) e B q j (o+11) l Y x:=λw τ b M=>⟨M.1,by have:=M.2.rt (τ:=τ) (n:=b);exact this⟩;exact Tr.Pr aG func9 rf rfl an (aq _)
end
def lc.more{w w':b_}{B kb m m' c d e:Nat}{g:me}{f:Cf}(o:lc w w' B g kb m f c d)(z:m<=m')(A:d<=e):lc w w' B g kb m' f c e:=by let⟨t,n,p,h,l,j,y,q,u,d4,a,i,C,x,v,r,k,s⟩:=o;exact⟨t,n,p,h,l,j,y,q,u,d4,⟨⟨a.bk.bk.more z,a.bk.ob,a.bk.hi,a.bk.ty⟩,a.rf,a.rg,a.nr,a.lb,a.cf,a.cr,a.fx⟩,i,C,x,v.more A,r,k,s⟩
def PY(w:b_)(B:Nat)(o:Nat->Nat)(f:me)(kb m:Nat)(b:lu)(e:Cf)(l:j4)(i:Ls)(left:lw)(k:Nat)(n:Nat->a_)(j:Nat->Bool)(d:Nat)(h:a_)(bdn:Nat)(a:nE)(p:Full w B o f kb m b e l i left k n j d h bdn)(hF:nN e)(t:m<=1600000)(s:2*e.sec<=d/\d<=64)(q:yu a)(L:a.kind≠3)(J:bdn+a.s.size<=1100000):
 l4 prog 9 #[π f.g,.agg<|k9 a,π kb] w λg w'=>g=.returned (.bool true)/\lc w w' B f kb (m+11) e d (bdn+a.s.size):=by
 let⟨M,_,_⟩:=Cf.u9 hF;have r:0<d:=om;have look:∀{g w'},(g=.returned (.bool true)/\∃y z,Full w' B y f kb (m+2) z e l i left k n j d h bdn/\Below B w w')->g=Ending.returned (.bool true)/\lc w w' B f kb (m+11) e d (bdn+a.s.size):=λ⟨I,y,z,D,E⟩=>⟨I,(D.qw rfl E).more om om⟩;by_cases x:a.kind=2
 .by_cases u:a.a<0\/(e.n:Int)<=a.a
  .exact(B1 w B o f kb m b e l i left k n j d h bdn a p r x u).mono λg w' c=>⟨c.1,c.2.more om om⟩
  .exact Pz w B o f kb m b e l i left k n j d h bdn a a.a.toNat p hF t s q x om om J
 .by_cases A:a.kind=4
  .exact(M7 w B o f kb m b e l i left k n j d h bdn a p hF t s q A).mono λg w' c=>⟨c.1,c.2.more om om⟩
  .by_cases F:a.kind=5
   .exact(PB w B o f kb m b e l i left k n j d h bdn a p hF t s q F).mono λg w' c=>⟨c.1,c.2.more om om⟩
   .by_cases C:a.kind=6
    .exact(Ua w B o f kb m b e l i left k n j d h bdn a p r C).mono λg w' c=>⟨c.1,c.2.more om om⟩
    .by_cases v:a.kind=7
     .by_cases u:a.a<0\/3<a.a
      .exact(Ga w B o f kb m b e l i left k n j d h bdn a p om v u r).mono λg w' c=>look c
      .exact(Hj w B o f kb m b e l i left k n j d h bdn a a.a.toNat p om v om om r).mono λg w' c=>look c
     .by_cases K:a.kind=8
      .exact(MX w B o f kb m b e l i left k n j d h bdn a p hF om s q K).mono λg w' c=>⟨c.1,c.2.more om om⟩
      .exact(Pt w B o f kb m b e l i left k n j d h bdn a p om).mono λg w' c=>⟨c.1,c.2.more om om⟩
section
variable {w w':b_}{B kb m m':Nat}{b:lu}{KP:Nat->Prop}{rs:List oW}{bdn:Nat}
theorem y1.rt{c:oW}{τ:Tp}{n:Nat}(a:y1 w B c bdn):y1 (rt w τ n) B c bdn:=⟨a.rf.rt,a.rg.rt,a.dv.rt,a.lb,a.cf,a.cr,a.qB,a.ok,a.bd,a.ll,a.hF,a.nd,a.own⟩
theorem qV.rt{τ:Tp}{n:Nat}(a:qV w B kb m b KP rs bdn):qV (rt w τ n) B kb m b KP rs bdn:=⟨⟨a.bk.bk.rt,a.bk.hi,a.bk.ty⟩,λe c d=>(a.n_ e c d).rt,a.Sr,a.bo,a.kp,a.bn⟩
def Next(w w':b_)(B kb m:Nat)(KP:Nat->Prop)(rs:List oW)(e:Nat)(f:oW)(bdn:Nat):Prop:=∃d c,qV w' B kb m d KP (rs.set e c) bdn/\c.q.g=f.q.g/\Below B w w'/\∀a,KP a->w'.heap[a]?=w.heap[a]?
def Uf(g:qV w B kb m b KP rs bdn){f:Nat}{a:oW}(e:rs[f]?=some a)(d:nE)(k:m<=1600000)(l:yu d)(o:d.kind≠3)(i:bdn+d.s.size<=1100000):
 l4 prog 9 #[π a.q.g,.agg<|k9 d,π kb] w λh w'=>∃j,h=.returned j/\j=.bool true/\Next w w' B kb (m+11) KP rs f a (bdn+d.s.size):=by
 have c:=g.n_ f a e;refine(PY w B _ a.q kb m b _ a.D a.s a.left a.safe a.ys a.zs a.nd a.d bdn d (g.view e) ⟨c.hF.s0,c.hF.s1,c.hF.s2,c.hF.s3,c.hF.c,c.hF.h,c.hF.u,c.hF.n,c.hF.b,c.hF.kn⟩ k c.nd l o i).mono ?_;rintro h w' ⟨rfl,n⟩;exact⟨_,rfl,rfl,g.back e n om i⟩
def qV.PZ(f:qV w B kb m b KP rs bdn){c:Nat}(a:m2 KP rs rs.length c):oX B kb b (m2 KP rs rs.length) (λ_=>9) c=6:=by let⟨e,_,g,_⟩:=f.Ss a;exact Ee e g (λd=>by unfold lO at d;omega) a
def v2{e d:Nat}{a:oW}(c:rs[e]?=some a)(f:lO<|a.ob d):m2 KP rs rs.length d:=.inr ⟨e,a,λg=>by have:=(Yr.1 c).1;omega,c,f⟩
def qV.none(c:qV w B kb m b KP rs bdn)(u:∃h d,rI w' B h kb m' d/\wX w' B h/\yB w (oX B kb b (m2 KP rs rs.length) λ_=>9) h/\Fc (oX B kb b (m2 KP rs rs.length) λ_=>9) 1 w w'):
 ∃d,qV w' B kb m' d KP rs bdn/\Below B w w'/\∀a,KP a->w'.heap[a]?=w.heap[a]?:=by
 let⟨h,d,j,A,v,q⟩:=u;have r:=q.toBelow (y2 ..) dc c.bk.bk.lo.2;have e:∀a,m2 KP rs rs.length a->w'.heap[a]?=w.heap[a]?/\¬d.on kb a:=λa i=>by let⟨p,⟨o,l,k⟩,_⟩:=c.Ss i;refine⟨q.all a o l k (by rw[c.PZ i];decide),λx=>?_⟩;have z:=j.ob a x;rw[v a (Yn k) (by rw[c.PZ i];decide),c.PZ i]at z;omega
 refine⟨d,⟨⟨j.bk,j.hi,j.ty⟩,λt s g=>(c.n_ t s g).frame r λa n=>(e a<|v2 g n).1,c.Sr,λt s g a n=>(e a<|v2 g n).2,λa f=>?_,c.bn⟩,r,λa f=>(e a<|.inl f).1⟩;let⟨p,⟨o,l,k⟩,_,y⟩:=c.kp a f;exact⟨p,⟨o,l,(e a<|.inl f).1.trans k⟩,(e a<|.inl f).2,y⟩
def qV.add(k:qV w B kb m b KP rs bdn){n:Cf}{M:me}{s:Nat}(hF:nN n)(ai:2*n.sec<=s/\s<=64)(S:n.hp=Eu w (m2 KP rs rs.length))(aj:mT SG w w' B M kb m' n s 0):
 ∃p r,qV w' B kb m' p KP (rs++[r]) bdn/\r.q.g=M.g/\Below B w w'/\(∀a,KP a->w'.heap[a]?=w.heap[a]?)/\r.F=n/\r.ys=(λ_=>⟨#[]⟩)/\r.zs=λ_=>false:=by
 let⟨O,q,p,L,F,left,J,N,I,D,Y,Q,W,Z,ae,ah,j,E,ab,ac⟩:=aj;have l:Full w' B q O kb m' p n L F left J N I s D bdn:=⟨Y,Q,W,Z,ae.more<|YG _,k.bn,ah⟩;have V:=Hh l hF ai;have t:∀a,m2 KP rs rs.length a->w'.heap[a]?=w.heap[a]?/\q a=6:=λa j=>l.sb.fx.kept S j (k.Ss j).2.1;have u:∀a,m2 KP rs rs.length a->¬lO (rO w' q a):=λa j e=>by have i:=(sF e).1;rw[(t a j).2]at i;unfold lO at i;omega
 have o:∀(c:Nat) (d v:oW),(rs++[v])[c]?=some d->(c=rs.length/\d=v)\/(c≠rs.length/\rs[c]?=some d):=λc d v f=>by
  by_cases P:c<rs.length
  .rw[YK P]at f;exact .inr ⟨om,f⟩
  .rw[YP om]at f;have ad:=(Yr.1 f).1;have:c-rs.length=0:=by simpa using ad
   rw[this]at f;exact .inl ⟨om,(YR f).symm⟩
 have K:∀a,m2 KP rs rs.length a->¬p.on kb a:=λa j e=>by have i:=l.sb.bk.ob a e;rw[(t a j).2]at i;omega
 have af:∀a,lO (rO w' q a)->¬p.on kb a:=λa e ag=>by have i:=(sF e).1;rw[l.sb.bk.ob a ag]at i;unfold lO at i;omega
 refine⟨p,⟨O,n,L,F,left,J,N,I,s,D,rO w' q⟩,⟨⟨l.sb.bk.bk,l.sb.bk.hi,l.sb.bk.ty⟩,λc d f=>?_,λc y d A f g C a e=>?_,λc d f a e=>?_,λa g=>?_,k.bn⟩,j,E,λa g=>(t a<|.inl g).1,rfl,ab,ac⟩
 .rcases o c d _ f with⟨rfl,rfl⟩|⟨z,h⟩
  .exact V
  .exact(k.n_ c d h).frame E (λa e=>(t a<|v2 h e).1)
 .rcases o c d _ f with⟨rfl,rfl⟩|⟨z,h⟩
  .rcases o y A _ g with⟨rfl,rfl⟩|⟨T,x⟩
   .exact absurd rfl C
   .exact λR=>u a (v2 x R) e
  .rcases o y A _ g with⟨rfl,rfl⟩|⟨T,x⟩
   .exact u a<|v2 h e
   .exact k.Sr c y d A h x C a e
 .rcases o c d _ f with⟨rfl,rfl⟩|⟨z,h⟩
  .exact af a e
  .exact K a<|v2 h e
 .let⟨i,⟨U,aa,X⟩,_⟩:=k.kp a g;refine⟨i,⟨U,aa,(t a<|.inl g).1.trans X⟩,K a<|.inl g,λc d f=>?_⟩;rcases o c d _ f with⟨rfl,rfl⟩|⟨z,h⟩
  .exact u a<|.inl g
  .exact(k.kp a g).2.2.2 c d h
structure Xe(F:Cf)(s0 s1 s2 s3 cc hh u:Int)(n:Nat)(ln:Nat->Int)(bb:Int):Prop where
 s0:s0=(F.s0:Nat)
 s1:s1=(F.s1:Nat)
 s2:s2=(F.s2:Nat)
 s3:s3=(F.s3:Nat)
 c:cc=(F.c:Nat)
 h:hh=(F.h:Nat)
 u:u=(F.u:Nat)
 n:n=F.n
 b:bb=(F.b:Nat)
 kn:∀j,j<F.n->ln j=(F.kn j:Nat)
def y_(r:qV w B kb m b KP rs bdn)(t z o y l k x u j:Int)(c n:Nat)(i:Option Addr)(g:Nat->Int)(Q:mq j)(an:m<=1600000)(ag:qo w i c g)(ad:Src w (.slice i c n) c<|((List.range c).map g).flatMap ka)(aj:c<=1048576)(N:∀q,i=some q->0<c->q.block<w.heap.size/\(q.block<B\/KP q.block)):
 Calls prog 7 #[.agg #[ν t,ν z,ν o,ν y,ν l,ν k,ν x,.slice i c n,ν u],ν j,π kb] w λp w'=>
  (p=.returned (.tuple #[.pointer none,.bool true])/\(¬(mV t z o y l k x c g u/\mj j%7≠6))/\∃D,qV w' B kb (m+5) D KP rs bdn/\Below B w w'/\∀f,KP f->w'.heap[f]?=w.heap[f]?)
  \/(∃D s,p=.returned (.tuple #[π s.q.g,.bool true])/\(mV t z o y l k x c g u/\mj j%7≠6)/\qV w' B kb (m+5) D KP (rs++[s]) bdn/\Below B w w'/\(∀f,KP f->w'.heap[f]?=w.heap[f]?)/\Xe s.F t z o y l k x c g u/\s.ys=(λ_=>⟨#[]⟩)/\s.zs=λ_=>false):=by
 have J:=Hg (w:=w) r.bk (m2 KP rs rs.length) λ_=>9;have K:=y2 (w:=w) (B:=B) (kb:=kb) (b:=b) (m2 KP rs rs.length) λ_=>9;have C:qT w B (oX B kb b (m2 KP rs rs.length) λ_=>9) i c n g:=⟨ag,ad,aj,λq T S=>⟨(N q T S).1,(N q T S).2.imp id λR=>⟨(r.kp _ R).2.1,r.PZ<|.inl R⟩⟩⟩;by_cases e:mV t z o y l k x c g u
 .by_cases F:mj j%7=6
  .refine(Jo w B kb m _ b t z o y l k x u c n i g j Q J K om C e F).mono ?_;rintro p w' ⟨rfl,I⟩;exact .inl ⟨rfl,λM=>M.2 F,r.none I⟩
  .obtain⟨a,h,rfl,rfl,rfl,rfl,rfl,rfl,rfl,rfl,rfl,E⟩:=e.cf;obtain⟨A,L⟩:∃A:Cf,A={a with hp:=Eu w<|m2 KP rs rs.length}:=⟨_,rfl⟩;have hF:nN A:=by rw[L];exact⟨h.s0,h.s1,h.s2,h.s3,h.c,h.h,h.u,h.n,h.b,h.kn⟩
   have ae:Fx A w B<|oX B kb b (m2 KP rs rs.length) λ_=>9:=r.fx (by rw[L]) (λf _ p=>by unfold lO at p;omega);obtain⟨ao,am,_⟩:=Cf.u9 hF;have ap:mj j%(65-2*A.sec)<65-2*A.sec:=ab4 _ om;have W:(List.range a.n).map g=(List.range a.n).map (λd=>((a.kn d:Nat):Int)):=aaT λd v=>E d<|aad.1 v;have ac:qT w B (oX B kb b (m2 KP rs rs.length) λ_=>9) i a.n n λd=>(a.kn d:Nat):=⟨λd v=>by obtain⟨f,ak,Y,af,O,P⟩:=C.hv d v;rw[E d v]at O P;exact⟨f,ak,Y,af,O,P⟩,by rw[<-W];exact C.Ey,C.hn,C.hk⟩;have Z:mV a.s0 a.s1 a.s2 a.s3 a.c a.h a.u a.n (λd=>(a.kn d:Nat)) a.b:=⟨e.sz,λd v=>by rw[<-E d v];exact e.ln d v,e.c,e.h,e.u,e.n,e.b⟩;subst L;refine(Jp w B kb m _ b {a with hp:=Eu w<|m2 KP rs rs.length} n i j Q J K hF om ac ae Z F _ rfl).mono ?_;rintro p w' ⟨aq,rfl,al⟩;obtain⟨D,s,ab,ai,aa,X,U,V,ah⟩:=r.add hF om rfl al;exact .inr ⟨D,s,by rw[ai],⟨e,F⟩,ab,aa,X,by rw[U];exact⟨rfl,rfl,rfl,rfl,rfl,rfl,rfl,rfl,rfl,E⟩,V,ah⟩
 .refine(Jn w B kb m _ b t z o y l k x u c n i g j J K om C e).mono ?_;rintro p w' ⟨rfl,I⟩;exact .inl ⟨rfl,λM=>e M.1,r.none I⟩
def JF(y:qV w B kb m b KP rs bdn)(j r o q n l p k e:Int)(a u:Nat)(d:Option Addr)(g:Nat->Int)(F:mq e)(I:m<=1600000)(v:qo w d a g)(J:Src w (.slice d a u) a<|((List.range a).map g).flatMap ka)(E:a<=1048576)(A:∀h,d=some h->0<a->h.block<w.heap.size/\(h.block<B\/KP h.block)):
 Calls prog 7 #[.agg #[ν j,ν r,ν o,ν q,ν n,ν l,ν p,.slice d a u,ν k],ν e,π kb] w λs w'=>
  (s=.returned (.tuple #[.pointer none,.bool true])/\(¬(mV j r o q n l p a g k/\mj e%7≠6))/\∃f,qV w' B kb (m+5) f KP rs bdn/\Below B w w'/\∀c,KP c->w'.heap[c]?=w.heap[c]?)
  \/(∃f i,s=.returned (.tuple #[π i.q.g,.bool true])/\(mV j r o q n l p a g k/\mj e%7≠6)/\qV w' B kb (m+5) f KP (rs++[i]) bdn/\Below B w w'/\∀c,KP c->w'.heap[c]?=w.heap[c]?):=by
 refine(y_ y j r o q n l p k e a u d g F I v J E A).mono ?_;rintro s w' (t|⟨f,i,t,z,D,C,x,_⟩)
 .exact .inl t
 .exact .inr ⟨f,i,t,z,D,C,x⟩
end
def JG(a:Nat):List f_:=[π a]
structure JH(W0:b_)(B:Nat)(w:b_):Prop where
 here:B<=w.heap.size
 low:∀g,g<B->w.heap[g]?=W0.heap[g]?
 os:w.os=W0.os
 output:w.output=W0.output
theorem JH.rt{W0 b:b_}{B n:Nat}{τ:Tp}(a:JH W0 B b):JH W0 B (rt b τ n):=⟨a.here,a.low,a.os,a.output⟩
def JH.nD{W0 d e:b_}{B:Nat}(b:JH W0 B d)(a:Below B d e):JH W0 B e:=⟨YH b.here a.size,λf c=>(a.block f c).trans<|b.low f c,a.os.trans b.os,a.output.trans b.output⟩
def Lw(W0:b_)(B kb m:Nat)(gs:List Nat)(rv:f_)(bdn:Nat)(a:b_):Prop:=∃e b,qV a B kb m e (λc=>rv.ownBlock=some c) b bdn/\b.map (λd=>d.q.g)=gs/\a.ownsRow B 34 1 rv gs.length (gs.flatMap JG)/\JH W0 B a
section
variable {W0:b_}{B kb m:Nat}{gs:List Nat}{rv:f_}{bdn:Nat}
def Lw.cl:Cl<|Lw W0 B kb m gs rv bdn:=λ_ g a ⟨f,b,c,d,h,e⟩=>⟨f,b,c.rt,d,pJ _ g a h,e.rt⟩
def Lw.n_{c:List oW}(h:c.map (λa=>a.q.g)=gs){d e:Nat}(b:gs[d]?=some e):∃a,c[d]?=some a/\a.q.g=e:=by rw[<-h,Y9]at b;let⟨a,g,f⟩:=Zk.1 b;exact⟨a,g,f⟩
def Lw.of_next{w j:b_}{c:List oW}{b h i:Nat}{a:oW}(d:c.map (λa=>a.q.g)=gs)(v:w.ownsRow B 34 1 rv gs.length<|gs.flatMap JG)(t:JH W0 B w)(g:c[b]?=some a)(l:Next w j B kb h (λe=>rv.ownBlock=some e) c b a i):Lw W0 B kb h gs rv i j:=by
 let⟨q,x,r,k,s,u⟩:=l;refine⟨q,_,r,?_,jV v λe p=>u e p,t.nD s⟩;rw[List.map_set,k,d];refine abu λn=>?_;by_cases f:b=n
 .subst f;have o:b<gs.length:=by rw[<-d,Zx];exact(Yr.1 g).1
  rw[List.getElem?_set_self o,<-d,Y9,g];rfl
 .rw[List.getElem?_set_ne f]
def Gm{F:Array c_->b_->Trace->Prop}{D q:Nat}(v:gs[D]?=some q)(c:nE)(C:m<=1600000)(s:yu c)(z:bdn+c.s.size<=1100000):
 ub prog F 9 #[π q,.agg<|k9 c,π kb] (Lw W0 B kb m gs rv bdn) (λf d=>f=.bool true/\Lw W0 B kb (m+11) gs rv (bdn+c.s.size) d):=by
 let⟨j,k⟩:∃j,Tryz.f9.body=some j:=⟨_,rfl⟩;refine⟨Tryz.f9,j,func9,rf,k,λU T R W S oc Q V t x=>?_⟩;by_cases l:c.kind=3
 .intro M e K r N;let⟨A,I,i,h,p,o⟩:=r;obtain⟨a,g,rfl⟩:=Lw.n_ h v;have b:=i.n_ D a g;refine El e B _ a.q kb m A _ a.D a.s a.left a.safe a.ys a.zs a.nd a.d bdn c (i.view g) ⟨b.hF.s0,b.hF.s1,b.hF.s2,b.hF.s3,b.hF.c,b.hF.h,b.hF.u,b.hF.n,b.hF.b,b.hF.kn⟩ C b.nd s l j k t (λf=>kI.pre (x f) λd y=>⟨y.1,?_⟩) M e K (At.self e) N;have L:=i.rt.back g (y.2.more kM<|ab' bdn c.s.size) om z;exact Lw.of_next h (pJ _ _ _ p) o.rt g L
 .refine M_ Lw.cl (J:=λf d=>f=.bool true/\Lw W0 B kb (m+11) gs rv (bdn+c.s.size) d) (λf e w E u=>⟨u.1,Lw.cl e w E u.2⟩) j k c q kb l t (λe r=>?_) x;let⟨A,I,i,h,p,o⟩:=r;obtain⟨a,g,rfl⟩:=Lw.n_ h v;refine(Uf i g c C s l z).mono ?_;rintro P d ⟨f,rfl,rfl,O⟩;exact⟨_,rfl,rfl,Lw.of_next h p o g O⟩
end
structure og where
 (R0 R1 R2 R3 R4 R5 R6 R7 R8 R9 UL X3 UM X4 UN UO UP Ug UQ UR US UT UU UV UW UX UY P0 Uh Ui Xf UZ U0 U1 WD WE U2 X5 Uj:Code)
def og.body(a:og):Code:=(.seq a.R0<|.seq a.R1<|.seq a.R2<|.seq (.seq a.R3<|.cond (.tmp 30) (.seq a.R4 .ret) .skip)<|.seq a.R5<|.seq (.seq a.R6<|.block 0<|.loop<|.seq (.seq a.R7<|.cond (.tmp 40) .skip<|.exit 0)<|.seq (.block 1<|.seq a.R9<|.seq a.UL<|.cond (.tmp 51) (.seq a.X3 .ret) .skip) a.R8)<|.seq (.seq a.UM<|.cond (.tmp 75) (.seq a.X4 .ret) .skip)<|.seq a.UN<|.seq (.seq a.UO<|.block 2<|.loop<|.seq (.seq a.UP<|.cond (.tmp 81) .skip<|.exit 2)<|.seq (.block 3<|.seq a.UQ<|.seq (.seq a.UR<|.cond (.tmp 90) (.seq a.US<|.seq (.seq a.UT<|.cond (.tmp 101) a.UU .skip) a.UV)<|.seq a.UW<|.seq (.seq a.UX<|.cond (.tmp 110) a.UY .skip) a.P0)<|.seq a.Uh<|.seq a.Ui<|.cond (.tmp 135) (.seq a.Xf .ret) .skip) a.Ug)<|.seq (.seq a.UZ<|.block 4<|.loop<|.seq (.seq a.U0<|.cond (.tmp 139) .skip<|.exit 4)<|.seq (.block 5<|.seq a.WD<|.seq a.WE<|.seq a.U2<|.cond (.tmp 161) (.seq a.X5 .ret) .skip) a.U1)<|.seq a.Uj .ret)
def pK(a:og):Prop:=Tryz.f3.body=some a.body
def V9:∃a,pK a:=⟨⟨_,_,_,_,_,_,_,_,_,_,_,_,_,_,_,_,_,_,_,_,_,_,_,_,_,_,_,_,_,_,_,_,_,_,_,_,_,_,_⟩,rfl⟩
def og.inj{a E:og}(c:pK a)(hE:pK E):a=E:=by unfold pK at c hE;rw[c]at hE;have b:=YR hE;unfold og.body at b;obtain⟨e,ac,k,M,C,ar,F,D,l,ae,O,ax,y,d,aq,h,ah,q,ad,Q,aa,m,T,X,af,t,f,U,I,am,o,ai,j,L,z,aB,R,K,A⟩:=a;obtain⟨b0,u,ab,aG,n,Y,B,aw,aD,p,v,s,aC,ap,P,aA,aj,ao,g,N,x,aF,r,av,ag,J,ak,w,i,az,ay,aE,Z,an,S,W,al,V,au⟩:=E;simp only[ZN,ZX,Z1,Code.cond.injEq,aab,ZV]at b;simp only[og.mk.injEq];simp only[b,and_self]
def ud:{D:og // pK D}:=⟨⟨_,_,_,_,_,_,_,_,_,_,_,_,_,_,_,_,_,_,_,_,_,_,_,_,_,_,_,_,_,_,_,_,_,_,_,_,_,_,_⟩,rfl⟩
@[reducible] def vA (a: Nat -> f_)(e i h p m n b k f j o c q g l d: f_) : Array f_ := #[e,a 1,i,h,a 4,p,a 6,a 7,m,n,b,a 11,a 12,k,f,j,o,a 17,a 18,a 19,a 20,a 21,a 22,a 23,a 24,a 25,a 26,a 27,a 28,a 29,a 30,a 31,a 32,a 33,a 34,a 35,a 36,a 37,a 38,a 39,a 40,a 41,a 42,a 43,a 44,a 45,a 46,a 47,a 48,a 49,a 50,a 51,a 52,a 53,a 54,a 55,a 56,a 57,a 58,a 59,a 60,a 61,a 62,a 63,a 64,a 65,a 66,a 67,a 68,a 69,a 70,a 71,a 72,a 73,a 74,a 75,a 76,a 77,a 78,a 79,a 80,c,a 82,a 83,a 84,a 85,a 86,a 87,a 88,a 89,q,a 91,a 92,a 93,a 94,a 95,a 96,a 97,a 98,a 99,a 100,a 101,a 102,a 103,a 104,a 105,a 106,a 107,a 108,a 109,a 110,a 111,a 112,a 113,a 114,a 115,a 116,a 117,a 118,a 119,a 120,a 121,a 122,a 123,a 124,a 125,a 126,a 127,a 128,a 129,a 130,a 131,a 132,a 133,a 134,g,a 136,a 137,a 138,l,a 140,a 141,a 142,a 143,a 144,a 145,a 146,a 147,a 148,a 149,a 150,a 151,a 152,a 153,a 154,a 155,a 156,a 157,a 158,a 159,a 160,d,a 162,a 163]
def JI(c:b_)(b a:Nat)(d:nE)(M:∀p f,(k9 d).toList[p]?=some f->c.cell? (μ b<|a+p)=some f):(Instr.loadAt 42<|.pointer<|some (μ b a)).run prog c=.ok (.agg<|k9 d) c:=by
 have hl:=Z9 (P:=prog) c (μ b a) (k9 d).toList (λe f h=>by
  have g:((μ b a):Addr).add e=(μ b<|a+e):=by by_cases h0:e=0<;>simp[Addr.add,h0]
  rw[g]
  exact M e f h)
 have i:(k9 d).toList.length=20:=rfl;rw[i,aaa]at hl;unfold Instr.loadAt loadVar;have h0:(Instr.sureAddr<|.pointer<|some (μ b a)).run prog c=Result.ok (μ b a) c:=rfl;exact QS
def v6{b:b_}{h:Array Oper}{rest:List Oper}{a:Oper}{d:Act}{i:Exit->Act->b_->Prop}(m:a.guard=none)(g:Nat)(l:a.op=.load 42 (.tmp g))(f c:Nat)(o:d.eval (.tmp g)=.pointer (some (μ f c)))(e:nE)(q:∀j k,(k9 e).toList[j]?=some k->b.cell? (μ f<|c+j)=some k)
 (n:wpList prog h i rest (d.put a.dst<|.agg<|k9 e) b):wpList prog h i (a::rest) d b:=by
 refine wpList_plain m λr p=>?_;unfold Oper.wp execOp;simp only[l,o,Zp,JI b f c e q,Za,ZE];exact p _ _ n
def JJ(a:b_)(d b:Array f_)(c:d_)(i:b.size=d.size)(l:∀n∈b.toList,n.oneCell'=true):(storeCells (μ a.heap.size 0) b.toList).run prog (a.alloc<|.cells d c)=.ok () (a.alloc<|.cells b c):=by
 have e:=ab1 (P:=prog) a.heap.size 0 c b.toList 0 d (a.alloc<|.cells d c) (YO a _) (by simp[i]) l;have k:d.toList.drop (0+0+b.toList.length)=[]:=aa6 (by simp[i]);rw[k]at e;simp only[YE,abQ,YT,Zy,aaa]at e;rw[e];congr 1;have j:∀o:b_,(a.alloc<|.cells d c).setRow a.heap.size b={a with heap:=((a.alloc<|.cells d c).setRow a.heap.size b).heap}:=λ_=>rfl;have m:a.alloc (.cells b c)={a with heap:=(a.alloc<|.cells b c).heap}:=rfl;rw[j a,m];congr 1;apply ZS;intro h;simp only[World.setRow,aaM];by_cases f:a.heap.size=h
 .subst f;rw[Ys rfl,YO,YO];rfl
 .rw[Yo f];by_cases g:h<a.heap.size
  .rw[YQ a _ g,YQ a _ g]
  .rw[abC so,abC so]
def AV{mk:(Nat->f_)->Array f_}{c:b_->Prop}{a:Array f_}{b:b_}(e:a=mk λj=>a.getD j undef)(f:c b):k' (λa g=>∃d:Nat->f_,a=mk d/\c g) .normal ⟨a,[]⟩ b:=⟨rfl,_,e,f⟩
def Xg{mk:(Nat->f_)->Array f_}{c:b_->Prop}{a:Array f_}{b:b_}(e:a=mk λj=>a.getD j undef)(f:c b):k' (λa g=>(∃d:Nat->f_,a=mk d)/\c g) .normal ⟨a,[]⟩ b:=⟨rfl,⟨_,e⟩,f⟩
section
variable (E:og)(hE:pK E)
include hE
def Xh(i f g j c m:Nat)(l:f_)(d:nE)(a:Nat->f_)(e:b_)(r:c<g)(o:∀k h,(k9 d).toList[k]?=some h->e.cell? (μ i<|f+c*20+k)=some h)(n:∀h∈(k9 d).toList,h.oneCell'=true):
 E.UQ.wp prog (k' λp q=>∃b:Nat->f_,p=vA b (.slice (some (μ i f)) g j) (b 2) (π m) (b 5) l (ν c) (π e.heap.size) (b 13) (b 14) (b 15) (b 16) (b 81) (b 90) (b 135) (b 139) (b 161)/\q=e.alloc (.cells (k9 d) 42)) ⟨vA a (.slice (some (μ i f)) g j) (a 2) (π m) (a 5) l (ν c) (a 10) (a 13) (a 14) (a 15) (a 16) (a 81) (a 90) (a 135) (a 139)<|a 161,[]⟩ e:=by
 obtain rfl:=og.inj hE ud.2;dsimp only[ud];have s:(c:Int)<(g:Int):=om;have t:=JJ e #[ν 0,ν 0,ν 0,ν 0,ν 0,.string ⟨#[]⟩,ν 0,ν 0,ν 0,ν 0,ν 0,ν 0,ν 0,σ,ν 0,ν 0,ν 0,ν 0,ν 0,ν 0] (k9 d) 42 rfl n
 go_wp2_with (refine v6 rfl 86 rfl i (f+c*20) rfl d o ?_)
 exact AV rfl rfl
def Xi(f:Option Addr)(i h g k d:Nat)(j:f_)(c:nE)(a:Nat->f_)(e:b_)(l:e.heap[d]?=some (.cells (k9 c) 42)):
 E.UR.wp prog (k' λm n=>∃b:Nat->f_,m=vA b (.slice f i h) (b 2) (π k) (b 5) j (ν g) (π d) (b 13) (b 14) (b 15) (b 16) (b 81) (.bool<|decide (c.kind=1)) (b 135) (b 139) (b 161)/\n=e) ⟨vA a (.slice f i h) (a 2) (π k) (a 5) j (ν g) (π d) (a 13) (a 14) (a 15) (a 16) (a 81) (a 90) (a 135) (a 139)<|a 161,[]⟩ e:=by
 obtain rfl:=og.inj hE ud.2;dsimp only[ud];have o:e.cell? (μ d 0)=some (ν c.kind):=(Yu _ _ _ _ _ _ l).trans rfl;have p:(c.kind==1)=decide (c.kind=1):=rfl;go_wp2;exact AV rfl rfl
def Xj(f:Option Addr)(i h g k c:Nat)(j:f_)(e:nE)(a:Nat->f_)(d:b_)(l:d.heap[c]?=some (.cells (k9 e) 42)):
 E.UW.wp prog (k' λm n=>∃b:Nat->f_,m=vA b (.slice f i h) (b 2) (π k) (b 5) j (ν g) (π c) (ν e.on) (b 14) (b 15) (b 16) (b 81) (b 90) (b 135) (b 139) (b 161)/\n=d) ⟨vA a (.slice f i h) (a 2) (π k) (a 5) j (ν g) (π c) (a 13) (a 14) (a 15) (a 16) (a 81) (a 90) (a 135) (a 139)<|a 161,[]⟩ d:=by
 obtain rfl:=og.inj hE ud.2;dsimp only[ud];have o:d.cell? (μ c 1)=some (ν e.on):=(Yu _ _ _ _ _ _ l).trans rfl;go_wp2;exact AV rfl rfl
def Xk(e:Option Addr)(h g f l i:Nat)(k:f_)(a:Int)(c:Nat->f_)(j:b_)(n:mq a):
 (Code.seq E.UX<|.cond (.tmp 110) E.UY .skip).wp prog (k' λo p=>∃b:Nat->f_,o=vA b (.slice e h g) (b 2) (π l) (b 5) k (ν f) (π i) (ν<|mj a) (b 14) (b 15) (b 16) (b 81) (b 90) (b 135) (b 139) (b 161)/\p=j) ⟨vA c (.slice e h g) (c 2) (π l) (c 5) k (ν f) (π i) (ν a) (c 14) (c 15) (c 16) (c 81) (c 90) (c 135) (c 139)<|c 161,[]⟩ j:=by
 obtain rfl:=og.inj hE ud.2;dsimp only[ud];unfold mq at n;by_cases m:a<0
 .have d:(mj a:Int)= -(a+1):=by unfold mj;rw[Ys m];omega
  have r:IntKind.i64.wrap (a+1)=a+1:=wo;have s:IntKind.i64.wrap (-(a+1))=(mj a:Int):=wo;clear d;go_wp2;exact AV rfl rfl
 .have d:a=(mj a:Int):=by unfold mj;rw[Yo m];omega
  have q:=h_ d;clear d;go_wp2;refine Xg ?_ rfl;rw[<-q.o];rfl
def Xl(g:Option Addr)(k j i d:Nat)(h:f_)(a:Nat->f_)(c:b_)(hc:Calls prog 10 #[π d] c λe f=>e=.returned (.bool true)/\Below c.heap.size c f):
 E.Uh.wp prog (k' λl f=>∃b:Nat->f_,l=vA b (.slice g k j) (b 2) (π d) (.bool true) h (ν i) (b 10) (b 13) (.bool true) (b 15) (b 16) (b 81) (b 90) (b 135) (b 139) (b 161)/\Below c.heap.size c f) ⟨vA a (.slice g k j) (a 2) (π d) (.bool true) h (ν i) (a 10) (a 13) (a 14) (a 15) (a 16) (a 81) (a 90) (a 135) (a 139)<|a 161,[]⟩ c:=by
 exact QO
def Xm(c:Option Addr)(i h g f:Nat)(e:f_)(b:Nat->f_)(d:b_):
 E.Ui.wp prog (k' λj k=>∃a:Nat->f_,j=vA a (.slice c i h) (a 2) (π f) (a 5) e (ν g) (a 10) (a 13) (a 14) (a 15) (a 16) (a 81) (a 90) (.bool false) (a 139) (a 161)/\k=d) ⟨vA b (.slice c i h) (b 2) (π f) (.bool true) e (ν g) (b 10) (b 13) (.bool true) (b 15) (b 16) (b 81) (b 90) (b 135) (b 139)<|b 161,[]⟩ d:=by
 exact wY
def Xn(d:Option Addr)(i h c g:Nat)(f:f_)(b:Nat->f_)(e:b_)(l:c<1000000):
 E.Ug.wp prog (k' λj k=>∃a:Nat->f_,j=vA a (.slice d i h) (a 2) (π g) (a 5) f (ν ((c+1:Nat):Int)) (a 10) (a 13) (a 14) (a 15) (a 16) (a 81) (a 90) (a 135) (a 139) (a 161)/\k=e) ⟨vA b (.slice d i h) (b 2) (π g) (b 5) f (ν c) (b 10) (b 13) (b 14) (b 15) (b 16) (b 81) (b 90) (b 135) (b 139)<|b 161,[]⟩ e:=by
 obtain rfl:=og.inj hE ud.2;dsimp only[ud];have m:IntKind.i64.wrap ((c:Int)+1)=((c+1:Nat):Int):=wo;go_wp2
 first
  |exact AV rfl rfl
  |(refine AV ?_ rfl;congr 1)
def V_(e:Option Addr)(d i c h:Nat)(g:f_)(a:Nat->f_)(f:b_):
 E.UP.wp prog (k' λk l=>∃b:Nat->f_,k=vA b (.slice e d i) (b 2) (π h) (b 5) g (ν c) (b 10) (b 13) (b 14) (b 15) (b 16) (.bool<|decide (c<d)) (b 90) (b 135) (b 139) (b 161)/\l=f) ⟨vA a (.slice e d i) (a 2) (π h) (a 5) g (ν c) (a 10) (a 13) (a 14) (a 15) (a 16) (a 81) (a 90) (a 135) (a 139)<|a 161,[]⟩ f:=by
 obtain rfl:=og.inj hE ud.2;dsimp only[ud];have j:decide ((c:Int)<(d:Int))=decide (c<d):=si;go_wp2
 first
  |exact AV rfl rfl
  |(refine AV ?_ rfl;simp only[<-j];rfl)
end
def Tryz.P1:(prog.info? 34).map (λa=>(a.zero,a.size,a.bytes))=some (some (.pointer none),1,8):=kr
section
variable {w w':b_}{B kb m:Nat}{b:lu}{KP KP':Nat->Prop}{rs:List oW}{bdn:Nat}
def qV.xl(a:qV w B kb m b KP rs bdn)(A:w'.os=w.os)(E:w'.tape=w.tape)(F:w'.output=w.output)(v:w.heap.size<=w'.heap.size)(t:∀g,g<w.heap.size->¬KP g->w'.heap[g]?=w.heap[g]?)(D:∀g,KP' g->B<=g/\uV w' g/\(KP g\/w.heap.size<=g\/∃n,w.heap[g]?=some (.cells n 34))):qV w' B kb m b KP' rs bdn/\Below B w w':=by
 have I:=a.bk.bk.lo.2;have y:Below B w w':=⟨A,E,F,v,λg d=>t g om (λj=>by have:=(a.kp g j).1;omega)⟩;have z:∀{g},uV w g->g<w.heap.size:=λ⟨_,_,e⟩=>Yn e;have x:∀g,b.on kb g->w'.heap[g]?=w.heap[g]?:=λg d=>t g (a.bk.bk.here g d) λj=>(a.kp g j).2.2.1 d;refine⟨⟨⟨a.bk.bk.frame v λg n l _ k _ _=>x g k,a.bk.hi,λg d=>?_⟩,λh c f=>(a.n_ h c f).frame y λg i=>t g (z ((a.n_ h c f).own g i).2.one) λj=>(a.kp g j).2.2.2 h c f i,a.Sr,a.bo,λg d=>?_,a.bn⟩,y⟩
 .let⟨n,l,p,s⟩:=a.bk.ty g d;exact⟨n,l,(x g d).trans p,s⟩
 .let⟨p,s,u⟩:=D g d;refine⟨p,s,λk=>?_,λh c f i=>?_⟩
  .rcases u with c|c|⟨C,c⟩
   .exact(a.kp g c).2.2.1 k
   .have:=a.bk.bk.here g k;omega
   .let⟨_,l,q,r⟩:=a.bk.ty g k;exact r<|oM q c
  .rcases u with o|o|⟨C,o⟩
   .exact(a.kp g o).2.2.2 h c f i
   .have:=z ((a.n_ h c f).own g i).2.one;omega
   .let⟨_,l,q,r⟩:=((a.n_ h c f).own g i).2;exact r (oM q o)
end
section
variable {W0 w w':b_}{B kb m:Nat}{gs:List Nat}{rv:f_}{bdn:Nat}
def Lw.nD(k:Lw W0 B kb m gs rv bdn w)(c:Below w.heap.size w w'):Lw W0 B kb m gs rv bdn w':=by
 obtain⟨b,rs,e,n,g,o⟩:=k
 obtain⟨p,i⟩:=e.xl c.os c.tape c.output c.size (λa d _=>c.block a d) (λa d=>by
  let⟨l,⟨j,h,f⟩,_⟩:=e.kp a d
  exact⟨l,⟨j,h,(c.block a<|Yn f).trans f⟩,.inl d⟩)
 exact⟨b,rs,p,n,jV g λa d=>c.block a (g.lt a d).2,o.nD i⟩
def Lw.more{m':Nat}(f:Lw W0 B kb m gs rv bdn w)(c:m<=m'):Lw W0 B kb m' gs rv bdn w:=by let⟨b,rs,a,d,g,e⟩:=f;exact⟨b,rs,⟨⟨a.bk.bk.more c,a.bk.hi,a.bk.ty⟩,a.n_,a.Sr,a.bo,a.kp,a.bn⟩,d,g,e⟩
def Lw.still(e:Lw W0 B kb m gs rv bdn w)(f:m<=1700000):Calls prog 10 #[π kb] w λc w'=>c=.returned (.bool true)/\Below w.heap.size w w':=by let⟨b,rs,d,_⟩:=e;have a:=d.bk.bk;exact Ap w B kb b.oI b.oF b.oA b.oT b.cI b.wI b.cF b.wF b.cA b.wA b.cT b.wT b.nI b.nF b.nA b.nT b.xI b.xF b.xA b.xT a.mw a.LI.lists a.LF.lists a.LA.lists a.LT.lists a.CI a.WI a.CF a.WF a.CA a.WA a.CT a.WT (li a.nI.2) (li a.xI) (li a.nF.2) (li a.xF) (li a.nA.2) (li a.xA) (li a.nT.2) (li a.xT)
def Lw.push{h:f_}{b:lu}{rs:List oW}{f:oW}{c p:b_}(r:qV c B kb m b (λa=>rv.ownBlock=some a) (rs++[f]) bdn)(x:rs.map (λf=>f.q.g)=gs)(y:JH W0 B c)(d:Below c.heap.size c p)(e:p.grownBy w' rv.ownBlock)(g:w'.ownsRow B 34 1 h (gs.length+1)<|gs.flatMap JG++JG f.q.g):Lw W0 B kb m (gs++[f.q.g]) h bdn w':=by
 have u:c.heap.size<=w'.heap.size:=YH d.size e.size;have j:∀a,a<c.heap.size->¬rv.ownBlock=some a->w'.heap[a]?=c.heap[a]?:=λa l t=>(e.block a (Yy l d.size) λq=>t q.symm).trans<|d.block a l
 obtain⟨z,s⟩:=r.xl (e.os.trans d.os) (e.tape.trans d.tape) (e.output.trans d.output) u j (λa i=>by
  let⟨k,o⟩:=jU g a i;refine⟨(g.lt a i).1,⟨k,_,o⟩,?_⟩;by_cases n:rv.ownBlock=some a
  .exact .inl n
  .by_cases v:a<c.heap.size
   .exact .inr (.inr ⟨k,(j a v n).symm.trans o⟩)
   .exact uq om)
 refine⟨b,_,z,by rw[ZI,x];rfl,?_,y.nD s⟩;rw[Yv,YX];exact g
def B3(W0:b_)(B kb m:Nat)(gs:List Nat)(bdn:Nat)(c:f_)(w':b_):Prop:=∃a,a.length<=gs.length+1/\gs.length<=a.length/\Lw W0 B kb m a c bdn w'
end
def V'{mk:f_->(Nat->f_)->Array f_}{d:f_->b_->Prop}{a:Array f_}{w:b_}{c:f_}(g:a=mk c λj=>a.getD j undef)(h:d c w):k' (λa w'=>∃(e:f_) (f:Nat->f_),a=mk e f/\d e w') .normal ⟨a,[]⟩ w:=⟨rfl,c,_,g,h⟩
def Xo(h:og)(aA:pK h)(W0:b_)(B m bdn:Nat)(gs:List Nat)(y k:Option Addr)(ad L J kb d e u:Nat)(V ai N ag K F af X x:Int)(r:Nat->Int)(rv:f_)(a:Nat->f_)(w:b_)(au:Lw W0 B kb m gs rv bdn w)(aq:m<=1600000)(aH:gs.length<=1000000)(ar:mq x)(R:qo w k e r)(P:Src w (.slice k e u) e<|((List.range e).map r).flatMap ka)(aB:e<=1048576)(o:∀j,k=some j->0<e->j.block<B)(O:w.cell? (μ d 2)=some (ν x))(W:w.cell? (μ d 6)=some (ν V))(ae:w.cell? (μ d 7)=some (ν ai))(z8:w.cell? (μ d 8)=some (ν N))(A:w.cell? (μ d 9)=some (ν ag))(C:w.cell? (μ d 10)=some (ν K))(aj:w.cell? (μ d 11)=some (ν F))(I:w.cell? (μ d 12)=some (ν af))(z:w.cell? (μ d 13)=some (.slice k e u))(T:w.cell? (μ d 14)=some (ν X)):
 (Code.seq h.US<|.seq (.seq h.UT<|.cond (.tmp 101) h.UU .skip) h.UV).wp prog (k' λaz w'=>∃(S:f_) (c:Nat->f_),az=vA c (.slice y ad L) (c 2) (π kb) (.bool true) S (ν J) (c 10) (c 13) (c 14) (c 15) (c 16) (c 81) (c 90) (c 135) (c 139) (c 161)/\B3 W0 B kb (m+5) gs bdn S w') ⟨vA a (.slice y ad L) (a 2) (π kb) (a 5) rv (ν J) (π d) (a 13) (a 14) (a 15) (a 16) (a 81) (a 90) (a 135) (a 139)<|a 161,[]⟩ w:=by
 obtain rfl:=og.inj aA ud.2;dsimp only[ud];let⟨am,ay,aC,ap,aE⟩:=Y4 Tryz.P1;let⟨b,rs,E,Y,D,p⟩:=au;have av:=p.here;have aD:=h_<|JF E V ai N ag K F af X x e u k r ar aq R P aB λj ah Z=>⟨Yy (o j ah Z) av,.inl<|o j ah Z⟩;have Q:=h_ D;have t:=h_ p;have aa:=h_ Y;clear E Y D p R P o
 go_wp2_with fail
 apply aD.o.mono;intro aG g ak;rcases ak with⟨rfl,_,U,i,f,l⟩|⟨U,s,rfl,_,i,f,l⟩
 .have n:Hid<|B3 W0 B kb (m+5) gs bdn rv g:=⟨gs,om,YC _,U,rs,i,aa,jV Q λq v=>l q v,t.o.nD f⟩;clear i f l O W ae z8 A C aj I z T;go_wp2;exact V' rfl n
 .have M:=jV Q λq v=>l q v;have an:=h_ M;have ao:=h_ i;have al:=h_<|t.o.nD f;have aF:=(t.o.nD f).here;clear i f l O W ae z8 A C aj I z T M
  go_wp2_with (at_builtin;go_must (refine Zl _ rfl (.tmp 102) (.tmp 104) 53 rfl B 34 am _ 1 8 underlying53 ay aC ap aE rfl dc _ gs.length _ rfl (an.o.alloc _) (μ g.heap.size 0) 1 1 [π s.q.g] rfl rfl (pz g [π s.q.g] 34) (by simp[Value.oneCell']) ml om so ?_;intro ax aw ab ac _))
  have n:Hid<|B3 W0 B kb (m+5) gs bdn ax aw:=⟨gs++[s.q.g],si,si,Lw.push ao aa al (jT br _) ac ab⟩;clear ab ac;go_wp2;exact V' rfl n
def Nn(c:Array f_):tB fV 3 c:=λd a=>by have b:fV.M 3=[]:=kr;rw[b]at a;cases a
def Tr.shape{d:e_}{f:g_}{c:List Item}{b:List Frame}{e:b_->Prop}{Q:Array c_->b_->Trace->Prop}{a:Array f_}{mkT:(Nat->f_)->Array f_}(g:a=mkT λj=>a.getD j undef)(i:∀h,kI d (G ((base f).at ⟨mkT h,[]⟩ c) b) e Q):kI d (G ((base f).at ⟨a,[]⟩ c) b) e Q:=by rw[g];exact i _
def B4(a:f_):ns prog 34 [a] a:=⟨kr,_,underlying34,.inr ⟨rfl,rfl⟩⟩
def y'(a:nE):ns prog 42 (k9 a).toList (.agg<|k9 a):=⟨kr,_,underlying42,.inl ⟨rfl,rfl⟩⟩
def za:Array Oper:=#[{dst:=some 114,op:=.move<|.tmp 8,type:=53,pos:= "device.go:341",after:=#[],guard:=none},{dst:=some 115,op:=.move<|.tmp 8,type:=53,pos:= "device.go:341",after:=#[],guard:=none},{dst:=some 116,op:=.call {callee:=.builtin .len,args:=#[.tmp 115],argTypes:=#[53]},type:=3,pos:= "device.go:341",after:=#[{on:=1,ground:=.data}],guard:=none},{dst:=some 117,op:=.binOp .sub 3 (.tmp 116) (.const<|ν 1) 3,type:=3,pos:= "device.go:341",after:=#[{on:=2,ground:=.data}],guard:=none},{dst:=some 118,op:=.move<|.tmp 13,type:=3,pos:= "device.go:341",after:=#[],guard:=none},{dst:=some 119,op:=.move<|.tmp 8,type:=53,pos:= "device.go:341",after:=#[],guard:=none},{dst:=some 120,op:=.call {callee:=.builtin .len,args:=#[.tmp 119],argTypes:=#[53]},type:=3,pos:= "device.go:341",after:=#[{on:=5,ground:=.data}],guard:=none},{dst:=some 121,op:=.binOp .rem 3 (.tmp 118) (.tmp 120) 3,type:=3,pos:= "device.go:341",after:=#[{on:=4,ground:=.data},{on:=6,ground:=.data}],guard:=none},{dst:=some 122,op:=.binOp .sub 3 (.tmp 117) (.tmp 121) 3,type:=3,pos:= "device.go:341",after:=#[{on:=3,ground:=.data},{on:=7,ground:=.data}],guard:=none},{dst:=some 123,op:=.indexAddr 53 (.tmp 114)<|.tmp 122,type:=0,pos:= "device.go:341",after:=#[{on:=0,ground:=.data},{on:=8,ground:=.data}],guard:=none},{dst:=some 124,op:=.load 34<|.tmp 123,type:=34,pos:= "device.go:341",after:=#[{on:=9,ground:=.data}],guard:=none},{dst:=some 125,op:=.load 42<|.tmp 10,type:=42,pos:= "device.go:341",after:=#[],guard:=none},{dst:=some 126,op:=.move<|.tmp 3,type:=23,pos:= "device.go:341",after:=#[],guard:=none},{dst:=some 127,op:=.call {callee:=.value<|.func 9,args:=#[.tmp 124,.tmp 125,.tmp 126],argTypes:=#[34,42,23]},type:=4,pos:= "device.go:341",after:=#[{on:=10,ground:=.data},{on:=11,ground:=.data},{on:=12,ground:=.data}],guard:=none},{dst:=some 5,op:=.assign<|.tmp 127,type:=4,pos:= "device.go:341",after:=#[{on:=13,ground:=.data},{on:=13,ground:=.chain},{on:=0,ground:=.phase},{on:=1,ground:=.phase},{on:=2,ground:=.phase},{on:=3,ground:=.phase},{on:=4,ground:=.phase},{on:=5,ground:=.phase},{on:=6,ground:=.phase},{on:=7,ground:=.phase},{on:=8,ground:=.phase},{on:=9,ground:=.phase},{on:=10,ground:=.phase},{on:=11,ground:=.phase},{on:=12,ground:=.phase},{on:=13,ground:=.phase}],guard:=none}]
section
variable {Q:Array c_->b_->Trace->Prop}
def JK(b:Act)(h:b_->Prop)(t:f_->b_->Prop)(K:∀a,Cl<|t a)(j:List Item)(i:List Frame)(r q f o n:Nat)(c:nE)(P:b.tmps.size=164)(z:b.eval (.tmp 123)=.pointer (some (μ r q)))(u:b.eval (.tmp 10)=π o)(B:b.eval (.tmp 126)=π n)(v:∀g,h g->g.rangeAt r q [π f])(w:∀g,h g->g.rangeAt o 0 (k9 c).toList)
 (I:ub prog Q 9 #[π f,.agg<|k9 c,π n] h t)
 (J:∀a,kI prog (G ((base 3).at ((((b.put (some 124)<|π f).put (some 125)<|.agg<|k9 c).put (some 127) a).put (some 5) a) j) i) (t a) Q):
 sC prog Q (base 3) j i .any za 4 #[true,true,true,true,true,true,true,true,true,true,false,false,true,false,false] b h:=by
 have s:124<b.tmps.size:=om;have p:125<b.tmps.size:=om;have O:127<b.tmps.size:=om
 have A:∀e:Act,e=(b.put (some 124)<|π f).put (some 125) (.agg<|k9 c)->sC prog Q (base 3) j i .any za 2 #[true,true,true,true,true,true,true,true,true,true,true,true,true,false,false] e h:=λe k=>by
  have C:e.eval (.tmp 124)=π f:=by rw[k];simp[sp,vD,s,p]
  have M:e.eval (.tmp 125)=.agg (k9 c):=by rw[k];simp[sp,vD,p]
  have N:e.eval (.tmp 126)=π n:=by rw[k];simp[sp,vD,s,p,B]
  have F:127<e.tmps.size:=by rw[k];simp[vD,O]
  refine pE (l:=[13]) kr si (λm d=>?_);obtain rfl:=Y'.1 d;refine MT (o:=({dst:=some 127,op:=.call {callee:=.value<|.func 9,args:=#[.tmp 124,.tmp 125,.tmp 126],argTypes:=#[34,42,23]},type:=4,pos:= "device.go:341",after:=#[{on:=10,ground:=.data},{on:=11,ground:=.data},{on:=12,ground:=.data}],guard:=none}:Oper)) rfl rfl (wN rfl (vals:=#[π f,.agg<|k9 c,π n]) (by simp[C,M,N]) func9 rf rf) I K (λa=>?_);refine pE (l:=[14]) kr si (λm d=>?_);obtain rfl:=Y'.1 d;have L:(e.put (some 127) a).eval (.tmp 127)=a:=by simp[sp,F]
  refine lK.W6 (v:=a) rfl (lJ rfl (λg D E=>?_) (λg=>?_)) ?_
  .change D (Sem.run prog (pure<|Next.value<|(e.put (some 127) a).eval<|.tmp 127) g);rw[L];exact E
  .change Sem.events prog (pure<|Next.value<|(e.put (some 127) a).eval<|.tmp 127) g #[]=#[];rfl
  .refine Ji kr ?_ _;have:=J a;rw[<-k]at this;exact this
 refine pE (l:=[10,11]) kr si (λm d=>?_);simp only[Y7,Zc,aac]at d;rcases d with rfl|rfl
 .apply uU (v:=π f) rfl rfl rfl z v (B4 _);change sC prog Q (base 3) j i .any za 3 #[true,true,true,true,true,true,true,true,true,true,true,false,true,false,false] (b.put (some 124)<|π f) h;refine pE (l:=[11]) kr si (λm d=>?_);obtain rfl:=Y'.1 d;apply uU (v:=.agg<|k9 c) (bl:=o) (off:=0) rfl rfl rfl (by simp[sp,s,u]) w (y' c);exact A _ rfl
 .apply uU (v:=.agg<|k9 c) rfl rfl rfl u w (y' c);change sC prog Q (base 3) j i .any za 3 #[true,true,true,true,true,true,true,true,true,true,false,true,true,false,false] (b.put (some 125)<|.agg<|k9 c) h;refine pE (l:=[10]) kr si (λm d=>?_);obtain rfl:=Y'.1 d;apply uU (v:=π f) (bl:=r) (off:=q) rfl rfl rfl (by simp[sp,p,z]) v (B4 _);change sC prog Q (base 3) j i .any za 2 #[true,true,true,true,true,true,true,true,true,true,true,true,true,false,false] ((b.put (some 125)<|.agg<|k9 c).put (some 124)<|π f) h;exact A _ (aa' b (x:=some 125) (y:=some 124) _ _ si)
def JL(f:Act)(h:b_->Prop)(c:Cl h)(n:f_->b_->Prop)(B:∀k,Cl<|n k)(r:List Item)(q:List Frame)(d b kr p m g e l s i:Nat)(o:nE)(u:f.tmps.size=164)(w:f.eval (.tmp 8)=ω d b kr)(D:f.eval (.tmp 13)=ν p)(t:f.eval (.tmp 10)=π s)(C:f.eval (.tmp 3)=π i)
 (N:(p:Int).tmod (b:Int)=(g:Int)) (K:¬(b:Int)=0) (O:¬b=0) (L:IntKind.i64.wrap ((b:Int)-1)=(m:Int)) (M:IntKind.i64.wrap (g:Int)=(g:Int)) (J:IntKind.i64.wrap ((m:Int)-(g:Int))=(e:Int)) (I:(e:Int)<(b:Int)) (E:e<b)
 (v:∀j,h j->j.rangeAt d e [π l]) (x:∀j,h j->j.rangeAt s 0 (k9 o).toList)
 (y:ub prog Q 9 #[π l,.agg<|k9 o,π i] h n)
 (z:∀k,kI prog (G ((base 3).at (((((((((((((((f.put (some 114)<|ω d b kr).put (some 115)<|ω d b kr).put (some 116)<|ν b).put (some 117)<|ν m).put (some 118)<|ν p).put (some 119)<|ω d b kr).put (some 120)<|ν b).put (some 121)<|ν g).put (some 122)<|ν e).put (some 123)<|.pointer<|some (μ d e)).put (some 126)<|π i).put (some 124)<|π l).put (some 125)<|.agg<|k9 o).put (some 127) k).put (some 5) k) r) q) (n k) Q):
 kI prog (G ((base 3).at f (.code (.region 27 za true)::r)) q) h Q:=by
 apply Tr.Ps c (by simp[base]) (by kernel_rfl);let⟨F,a,A⟩:=Kn.fn u;rw[A]at w D t C;refine sD 0 114 (ω d b kr) c a λa=>?_;refine sD 1 115 (ω d b kr) c a λa=>?_;refine sD 2 116 (ν b) c a λa=>?_;refine sD 3 117 (ν m) c a λa=>?_;refine sD 4 118 (ν p) c a λa=>?_;refine sD 5 119 (ω d b kr) c a λa=>?_;refine sD 6 120 (ν b) c a λa=>?_;refine sD 7 121 (ν g) c a λa=>?_;refine sD 8 122 (ν e) c a λa=>?_;refine sD 9 123 (.pointer<|some (μ d e)) c a λa=>?_;refine sD 12 126 (π i) c a λa=>?_;exact JK _ h n B r q d e l s i o a.1 ((a.2 123).trans<|by simp) ((a.2 10).trans<|by simp[t]) ((a.2 126).trans<|by simp) v x y z
def Ye(a:og)(hE:pK a):a.P0=.region 27 za true:=by exact GG
def Xp(y:og)(ab:pK y)(p:b_)(o k j:Nat)(h:List Nat)(u:Option Addr)(F w v f l d b kr q r:Nat)(e:nE)(g:Nat->f_)(x:List Item)(aj:b=h.length)(an:1<=b/\b<=1000000)(ao:(q:Int)<=9223372036854775807)(K:h[b-1-q%b]?=some r)(Y:k<=1600000)(aa:yu e)(W:j+e.s.size<=1100000)
 (ad:∀c:Nat->f_,kI prog (G ((base 3).at ⟨vA c (.slice u F w) (c 2) (π f) (.bool true) (ω d b kr) (ν v) (c 10) (c 13) (c 14) (c 15) (c 16) (c 81) (c 90) (c 135) (c 139)<|c 161,[]⟩ x) []) (Lw p o f (k+11) h (ω d b kr)<|j+e.s.size) Q):
 kI prog (G ((base 3).at ⟨vA g (.slice u F w) (g 2) (π f) (g 5) (ω d b kr) (ν v) (π l) (ν q) (g 14) (g 15) (g 16) (g 81) (g 90) (g 135) (g 139)<|g 161,[]⟩ (.code y.P0::x)) []) (λa=>Lw p o f k h (ω d b kr) j a/\a.heap[l]?=some (.cells (k9 e) 42)) Q:=by
 rw[Ye y ab];have T:Cl λa=>Lw p o f k h (ω d b kr) j a/\a.heap[l]?=some (.cells (k9 e) 42):=λa E C n=>⟨Lw.cl a E C n.1,n.2⟩;obtain⟨i,D⟩:∃i:Nat,i=q%b:=⟨_,rfl⟩;have ak:i<b:=by rw[D];exact ab4 _ om
 obtain⟨m,ag⟩:∃m:Nat,m=b-1-i:=⟨_,rfl⟩;have X:(q:Int).tmod (b:Int)=(i:Int):=by rw[Zv om,D];exact(Int.natCast_emod q b).symm
 have V:IntKind.i64.wrap ((b:Int)-1)=((b-1:Nat):Int):=wo;have ae:IntKind.i64.wrap (i:Int)=(i:Int):=wo;have U:IntKind.i64.wrap (((b-1:Nat):Int)-(i:Int))=(m:Int):=wo;rw[<-D,<-ag]at K;have A:=h_ K;have R:=h_ ad
 have Z:Hid (∀a,(Lw p o f k h (ω d b kr) j a/\a.heap[l]?=some (.cells (k9 e) 42))->a.rangeAt d m [π r]):=λa B z t s=>by
  obtain⟨⟨am,al,_,_,S,_⟩,_⟩:=B
  cases z with
  |succ z=>simp at s
  |zero=>simp only[ZO,Yz]at s;subst s;have P:=(Yr.1 A).1;have I:=kj JG 1 (λ_=>rfl) h m 0 P om;rw[YS,YE]at I;have J:=S.cells rfl m (π r) (by rw[I,(Yr.1 A.o).2];rfl);rw[aaX,YF]at J;exact J
 have O:Hid (∀a,(Lw p o f k h (ω d b kr) j a/\a.heap[l]?=some (.cells (k9 e) 42))->a.rangeAt l 0 (k9 e).toList):=λa B z t s=>by rw[Yu _ _ _ _ _ _ B.2,YF];simpa using s
 have N:Hid<|ub prog Q 9 #[π r,.agg<|k9 e,π f] (λa=>Lw p o f k h (ω d b kr) j a/\a.heap[l]?=some (.cells (k9 e) 42)) λt ai=>t=.bool true/\Lw p o f (k+11) h (ω d b kr) (j+e.s.size) ai:=(Gm A.o e Y aa W).pre λa n=>n.1;refine JL _ _ T _ (λt a E C n=>⟨n.1,Lw.cl a E C n.2⟩) x [] d b kr q (b-1) i m r l f e si qU qU qU qU X om om V ae U om om Z O N (λt=>?_);intro af a ac ah L;obtain⟨rfl,M⟩:=ah;simp only[Act.put,aaj,aa0,aar]at L;exact(Tr.shape (mkT:=λc=>vA c (.slice u F w) (c 2) (π f) (.bool true) (ω d b kr) (ν v) (c 10) (c 13) (c 14) (c 15) (c 16) (c 81) (c 90) (c 135) (c 139)<|c 161) rfl R) af a ac M L
end
def Uk:∃E:og,pK E/\okCode fV 3 E.UP=true/\okCode fV 3 E.UQ=true/\okCode fV 3 E.UR=true/\okCode fV 3 (.seq E.US<|.seq (.seq E.UT<|.cond (.tmp 101) E.UU .skip) E.UV)=true/\okCode fV 3 E.UW=true/\okCode fV 3 (.seq E.UX<|.cond (.tmp 110) E.UY .skip)=true/\okCode fV 3 E.Uh=true/\okCode fV 3 E.Ui=true/\okCode fV 3 E.Ug=true/\okCode fV 3 E.UZ=true/\okCode fV 3 E.U0=true/\okCode fV 3 E.U1=true/\okCode fV 3 E.U2=true/\okCode fV 3 E.Uj=true/\okCode fV 3 E.UM=true/\okCode fV 3 E.UN=true/\okCode fV 3 E.UO=true:=⟨⟨_,_,_,_,_,_,_,_,_,_,_,_,_,_,_,_,_,_,_,_,_,_,_,_,_,_,_,_,_,_,_,_,_,_,_,_,_,_,_⟩,rfl,kr,kr,kr,kr,kr,kr,kr,kr,kr,kr,kr,kr,kr,kr,kr,kr,kr⟩
section
variable {E:og}(hE:pK E)
include hE
def En:okCode fV 3 E.UP=true/\okCode fV 3 E.UQ=true/\okCode fV 3 E.UR=true/\okCode fV 3 (.seq E.US<|.seq (.seq E.UT<|.cond (.tmp 101) E.UU .skip) E.UV)=true/\okCode fV 3 E.UW=true/\okCode fV 3 (.seq E.UX<|.cond (.tmp 110) E.UY .skip)=true/\okCode fV 3 E.Uh=true/\okCode fV 3 E.Ui=true/\okCode fV 3 E.Ug=true/\okCode fV 3 E.UZ=true/\okCode fV 3 E.U0=true/\okCode fV 3 E.U1=true/\okCode fV 3 E.U2=true/\okCode fV 3 E.Uj=true/\okCode fV 3 E.UM=true/\okCode fV 3 E.UN=true/\okCode fV 3 E.UO=true:=by let⟨b,a,ok⟩:=Uk;rw[og.inj hE a];exact ok
def Np:okCode fV 3 E.UP=true:=(En hE).1
def Ul:okCode fV 3 E.UQ=true:=(En hE).2.1
def Um:okCode fV 3 E.UR=true:=(En hE).2.2.1
def Wa:okCode fV 3 (.seq E.US<|.seq (.seq E.UT<|.cond (.tmp 101) E.UU .skip) E.UV)=true:=(En hE).2.2.2.1
def Uo:okCode fV 3 E.UW=true:=(En hE).2.2.2.2.1
def Up:okCode fV 3 (.seq E.UX<|.cond (.tmp 110) E.UY .skip)=true:=(En hE).2.2.2.2.2.1
def Uq:okCode fV 3 E.Uh=true:=(En hE).2.2.2.2.2.2.1
def Ur:okCode fV 3 E.Ui=true:=(En hE).2.2.2.2.2.2.2.1
def Us:okCode fV 3 E.Ug=true:=(En hE).2.2.2.2.2.2.2.2.1
def Ut:okCode fV 3 E.UZ=true:=(En hE).2.2.2.2.2.2.2.2.2.1
def Nq:okCode fV 3 E.U0=true:=(En hE).2.2.2.2.2.2.2.2.2.2.1
def Uu:okCode fV 3 E.U1=true:=(En hE).2.2.2.2.2.2.2.2.2.2.2.1
def Uv:okCode fV 3 E.U2=true:=(En hE).2.2.2.2.2.2.2.2.2.2.2.2.1
def Uw:okCode fV 3 E.Uj=true:=(En hE).2.2.2.2.2.2.2.2.2.2.2.2.2.1
def Ux:okCode fV 3 E.UM=true:=(En hE).2.2.2.2.2.2.2.2.2.2.2.2.2.2.1
def Uy:okCode fV 3 E.UN=true:=(En hE).2.2.2.2.2.2.2.2.2.2.2.2.2.2.2.1
def Uz:okCode fV 3 E.UO=true:=(En hE).2.2.2.2.2.2.2.2.2.2.2.2.2.2.2.2
end
section
variable {Q:Array c_->b_->Trace->Prop}{k:List Item}{cs:List Frame}
def Tr.pc{e:Type}{f:Code}{d:Array f_}{i:b_->Prop}{J:e->b_->Prop}{mk:e->(Nat->f_)->Array f_}(p:okCode fV 3 f=true)(l:Cl i)(s:∀a,Cl<|J a)(q:∀c,i c->f.wp prog (k' λd j=>∃(a:e) (b:Nat->f_),d=mk a b/\J a j) ⟨d,[]⟩ c)
 (o:∀a b,kI prog (G ((base 3).at ⟨mk a b,[]⟩ k) cs) (J a) Q):kI prog (G ((base 3).at ⟨d,[]⟩ (.code f::k)) cs) i Q:=
 Tr.UJ qQ p (Nn _) l (J:=λd j=>∃(a:e) (b:Nat->f_),d=mk a b/\J a j) (λ_ c u r ⟨a,b,g,h⟩=>⟨a,b,g,s a c u r h⟩) q (λ_ v c m ⟨a,b,g,h⟩ t=>by subst g;exact o a b v c m h t)
def Tr.zc{e:Code}{c:Array f_}{h d:b_->Prop}{mk:(Nat->f_)->Array f_}(o:okCode fV 3 e=true)(j:Cl h)(r:Cl d)(p:∀b,h b->e.wp prog (k' λc i=>∃a:Nat->f_,c=mk a/\d i) ⟨c,[]⟩ b)
 (m:∀a,kI prog (G ((base 3).at ⟨mk a,[]⟩ k) cs) d Q):kI prog (G ((base 3).at ⟨c,[]⟩ (.code e::k)) cs) h Q:=
 Tr.UJ qQ o (Nn _) j (J:=λc i=>∃a:Nat->f_,c=mk a/\d i) (λ_ b t q ⟨a,f,g⟩=>⟨a,f,r b t q g⟩) p (λ_ u b l ⟨a,f,g⟩ s=>by subst f;exact m a u b l g s)
def kK{f:Code}{a:Array f_}{mk:(Nat->f_)->Array f_}{g:b_->Prop}{c:b_}(i:g c)(d:f.wp prog (k' λa e=>∃b:Nat->f_,a=mk b/\e=c) ⟨a,[]⟩ c):f.wp prog (k' λa e=>∃b:Nat->f_,a=mk b/\g e) ⟨a,[]⟩ c:=
 aaA (λ_ _ _ j=>mI (λ_ _ ⟨b,h,d⟩=>⟨b,h,d▸i⟩) j) d
end
def szU(A0:Nat->nE):Nat->Nat
 |0=>0
 |j+1=>szU A0 j+(A0 j).s.size
structure Ho(W0:b_)(B:Nat)(o:nE)(s0 s1 s2 s3 cc hh u bb:Int)(ad:Option Addr)(nl kl:Nat)(ln:Nat->Int):Prop where
 e0:o.g0=.int .i64 s0
 e1:o.g1=.int .i64 s1
 e2:o.g2=.int .i64 s2
 e3:o.g3=.int .i64 s3
 e4:o.g4=.int .i64 cc
 e5:o.g5=.int .i64 hh
 e6:o.g6=.int .i64 u
 e7:o.g7=.slice ad nl kl
 e8:o.g8=.int .i64 bb
 hv:qo W0 ad nl ln
 Ey:Src W0 (.slice ad nl kl) nl<|((List.range nl).map ln).flatMap ka
 hn:nl<=1048576
 hk:∀a,ad=some a->0<nl->a.block<B
structure Nr(W0:b_)(B:Nat)(a0:Option Addr)(n:Nat)(A0:Nat->nE):Prop where
 hB:B=W0.heap.size
 hn:n<=45590
 mw:∀j,j<n->∃g off,a0=some ⟨g,off,none⟩/\g<B/\∀p v,(k9<|A0 j).toList[p]?=some v->W0.cell? ⟨g,off+j*20+p,none⟩=some v
 Yf:∀j,j<n->yu (A0 j)/\mq (A0 j).on/\mq (A0 j).a
 cfg:∀j,j<n->∃s0 s1 s2 s3 cc hh u bb ad nl kl ln,Ho W0 B (A0 j) s0 s1 s2 s3 cc hh u bb ad nl kl ln
 sum:∀j,j<=n->szU A0 j<=1048576
def og.LB(E:og):Code:=.seq (.seq E.UP<|.cond (.tmp 81) .skip<|.exit 2) (.seq (.block 3<|.seq E.UQ<|.seq (.seq E.UR<|.cond (.tmp 90) (.seq E.US<|.seq (.seq E.UT<|.cond (.tmp 101) E.UU .skip) E.UV)<|.seq E.UW<|.seq (.seq E.UX<|.cond (.tmp 110) E.UY .skip) E.P0)<|.seq E.Uh<|.seq E.Ui<|.cond (.tmp 135) (.seq E.Xf .ret) .skip) E.Ug)
section
variable {Q:Array c_->b_->Trace->Prop}{E:og}(hE:pK E){W0:b_}{B kb:Nat}{a0:Option Addr}{n k:Nat}{A0:Nat->nE}{rest:Code}
def B5(E:og)(a0:Option Addr)(n k kb:Nat)(rest:Code)(b:f_)(c:Nat)(d:c_):Prop:=∃a:Nat->f_,d=G ((base 3).at ⟨vA a (.slice a0 n k) (a 2) (.pointer<|some ⟨kb,0,none⟩) (a 5) b (.int .i64 (c:Nat)) (a 10) (a 13) (a 14) (a 15) (a 16) (a 81) (a 90) (a 135) (a 139)<|a 161,[]⟩ [.code E.LB,.inLoop E.LB,.inBlock 2,.code rest]) []
include hE
def Hp{m bdn e:Nat}{h:List Nat}{c:f_}(v:m<=1600000)(o:e<1000000)(b:Nat->f_)
 (p:∀j,B5 E a0 n k kb rest c (e+1) j->kI prog j (Lw W0 B kb m h c bdn) Q):
 kI prog (G ((base 3).at ⟨vA b (.slice a0 n k) (b 2) (.pointer<|some ⟨kb,0,none⟩) (.bool true) c (.int .i64 (e:Nat)) (b 10) (b 13) (b 14) (b 15) (b 16) (b 81) (b 90) (b 135) (b 139)<|b 161,[]⟩ [.code<|.seq E.Uh<|.seq E.Ui<|.cond (.tmp 135) (.seq E.Xf .ret) .skip,.inBlock 3,.code E.Ug,.inLoop E.LB,.inBlock 2,.code rest]) []) (Lw W0 B kb m h c bdn) Q:=by
 have d:=Lw.cl (W0:=W0) (B:=B) (kb:=kb) (m:=m) (gs:=h) (rv:=c) (bdn:=bdn);refine Tr.seq d ?_;refine Tr.zc (Uq hE) d d (mk:=λa=>vA a (.slice a0 n k) (a 2) (.pointer<|some ⟨kb,0,none⟩) (.bool true) c (.int .i64 (e:Nat)) (a 10) (a 13) (.bool true) (a 15) (a 16) (a 81) (a 90) (a 135) (a 139)<|a 161) (λg f=>aaA (λ_ _ _ u=>mI (λ_ _ ⟨a,l,q⟩=>⟨a,l,f.nD q⟩) u)<|Xl E hE a0 n k e kb c b g<|f.still om) λs=>?_;refine Tr.seq d ?_;refine Tr.zc (Ur hE) d d (mk:=λa=>vA a (.slice a0 n k) (a 2) (.pointer<|some ⟨kb,0,none⟩) (a 5) c (.int .i64 (e:Nat)) (a 10) (a 13) (a 14) (a 15) (a 16) (a 81) (a 90) (.bool false) (a 139)<|a 161) (λg f=>kK f<|Xm E hE a0 n k e kb c s g) λi=>?_;refine Tr.cond d (t:=false) rf ?_;simp only[YY,Y5];refine Tr.skip d ?_;refine Tr.inBlock d ?_;refine Tr.shape (mkT:=λb=>vA b (.slice a0 n k) (b 2) (.pointer<|some ⟨kb,0,none⟩) (b 5) c (.int .i64 (e:Nat)) (b 10) (b 13) (b 14) (b 15) (b 16) (b 81) (b 90) (b 135) (b 139)<|b 161) rfl (λi=>?_);refine Tr.zc (Us hE) d d (mk:=λa=>vA a (.slice a0 n k) (a 2) (.pointer<|some ⟨kb,0,none⟩) (a 5) c (.int .i64 ((e+1:Nat):Int)) (a 10) (a 13) (a 14) (a 15) (a 16) (a 81) (a 90) (a 135) (a 139)<|a 161) (λg f=>kK f<|Xn E hE a0 n k e kb c i g o) λr=>?_;refine Tr.inLoop d ?_;exact p _ ⟨r,rfl⟩
omit hE in
def P4{W0:b_}{B h g:Nat}{c:nE}{l r i m f e j q:Int}{o:Option Addr}{p:Nat->Int}(a:Ho W0 B c l r i m f e j q o h g p):∀d∈(k9 c).toList,d.oneCell'=true:=by unfold k9;rw[a.e0,a.e1,a.e2,a.e3,a.e4,a.e5,a.e6,a.e7,a.e8];intro d b;simp only[Y7,Zc,aac]at b;rcases b with rfl|rfl|rfl|rfl|rfl|rfl|rfl|rfl|rfl|rfl|rfl|rfl|rfl|rfl|rfl|rfl|rfl|rfl|rfl|rfl<;>rfl
omit hE in
def Lw.Wb{d:b_}{c f b:Nat}{g:List Nat}{e:f_}(l:Lw W0 B kb c g e f d)(o:f<=b)(m:b<=1100000):Lw W0 B kb c g e b d:=by let⟨j,i,a,r,t,s⟩:=l;exact⟨j,i,⟨a.bk,λq p h=>(a.n_ q p h).more o,a.Sr,a.bo,a.kp,m⟩,r,t,s⟩
omit hE in
def Lw.cell{b:b_}{e f:Nat}{i:List Nat}{d:f_}(h:Lw W0 B kb e i d f b){a:Addr}(c:a.block<B):b.cell? a=W0.cell? a:=by let⟨_,_,_,_,_,g⟩:=h;exact ZL (g.low _ c)
def Ns(A:Nr W0 B a0 n A0){c o m:Nat}{l:List Nat}{f:f_}(hj:c<n)(T:o+11<=1600000)(Y:1<=l.length/\l.length<=c+1)(J:m+(A0 c).s.size<=1100000)(w:c_)(y:B5 E a0 n k kb rest f c w)
 (F:∀x v S,1<=x.length->x.length<=c+2->B5 E a0 n k kb rest v (c+1) S->kI prog S (Lw W0 B kb (o+11) x v<|m+(A0 c).s.size) Q):kI prog w (Lw W0 B kb o l f m) Q:=by
 obtain⟨b,rfl⟩:=y;have aj:=Lw.cl (W0:=W0) (B:=B) (kb:=kb) (m:=o) (gs:=l) (rv:=f) (bdn:=m);have aK:=A.hn;obtain⟨ax,aI,am,aF,ak,ag,aE,aC,aA,av,au,ao,j⟩:=A.cfg c hj;obtain⟨Z,N,W⟩:=A.Yf c hj;obtain⟨t,s,rfl,ah,V⟩:=A.mw c hj;have az:=A.hB;obtain⟨g,aq⟩:=j5<|A0 c;rw[<-aq]at j Z N W V J F;refine Tr.seq aj ?_;refine Tr.seq aj ?_;refine Tr.zc (Np hE) aj aj (mk:=λa=>vA a (.slice (some ⟨t,s,none⟩) n k) (a 2) (.pointer<|some ⟨kb,0,none⟩) (a 5) f (.int .i64 (c:Nat)) (a 10) (a 13) (a 14) (a 15) (a 16) (.bool<|decide (c<n)) (a 90) (a 135) (a 139)<|a 161) (λd h=>kK h<|V_ E hE _ n k c kb f b d) λb=>?_;refine Tr.cond aj (t:=decide (c<n)) rf ?_;refine Kc ?_;refine Tr.shape (mkT:=λb=>vA b (.slice (some ⟨t,s,none⟩) n k) (b 2) (.pointer<|some ⟨kb,0,none⟩) (b 5) f (.int .i64 (c:Nat)) (b 10) (b 13) (b 14) (b 15) (b 16) (b 81) (b 90) (b 135) (b 139)<|b 161) rfl (λb=>?_);have aa:∀i:Nat,Cl λd=>Lw W0 B kb o l f m d/\d.heap[i]?=some (Obj.cells (k9 g) 42 (0,0)):=λi d O L M=>⟨Lw.cl d O L M.1,M.2⟩;refine Tr.pc (Ul hE) aj aa (mk:=λi a=>vA a (.slice (some ⟨t,s,none⟩) n k) (a 2) (.pointer<|some ⟨kb,0,none⟩) (a 5) f (.int .i64 (c:Nat)) (.pointer<|some ⟨i,0,none⟩) (a 13) (a 14) (a 15) (a 16) (a 81) (a 90) (a 135) (a 139)<|a 161) (λd h=>aaA (λ_ _ _ q=>mI (λ_ _ ⟨a,e,M⟩=>⟨d.heap.size,a,e,by rw[M];exact h.nD<|jT br _,by rw[M];exact YO d _⟩) q)<|Xh E hE t s n k c kb f g b d hj (λp D I=>by rw[h.cell (a:=⟨t,s+c*20+p,none⟩) ah];exact V p D I)<|P4 j) λi b=>?_;have r:=aa i;refine Tr.seq r ?_;refine Tr.seq r ?_;refine Tr.zc (Um hE) r r (mk:=λa=>vA a (.slice (some ⟨t,s,none⟩) n k) (a 2) (.pointer<|some ⟨kb,0,none⟩) (a 5) f (.int .i64 (c:Nat)) (.pointer<|some ⟨i,0,none⟩) (a 13) (a 14) (a 15) (a 16) (a 81) (.bool<|decide (g.kind=1)) (a 135) (a 139)<|a 161) (λd h=>kK h<|Xi E hE _ n k c kb i f g b d h.2) λb=>?_;refine Tr.cond r (t:=decide (g.kind=1)) rf ?_;refine Tr.shape (mkT:=λb=>vA b (.slice (some ⟨t,s,none⟩) n k) (b 2) (.pointer<|some ⟨kb,0,none⟩) (b 5) f (.int .i64 (c:Nat)) (.pointer<|some ⟨i,0,none⟩) (b 13) (b 14) (b 15) (b 16) (b 81) (b 90) (b 135) (b 139)<|b 161) rfl (λb=>?_);by_cases ab:g.kind=1
 .simp only[ab,decide_true,Y_];have aG:∀v,Cl<|B3 W0 B kb (o+5) l m v:=λv d O L ⟨x,R,ac,K⟩=>⟨x,R,ac,Lw.cl d O L K⟩;refine Tr.pc (Wa hE) r aG (mk:=λv a=>vA a (.slice (some ⟨t,s,none⟩) n k) (a 2) (.pointer<|some ⟨kb,0,none⟩) (.bool true) v (.int .i64 (c:Nat)) (a 10) (a 13) (a 14) (a 15) (a 16) (a 81) (a 90) (a 135) (a 139)<|a 161) (λd h=>?_) λv b=>?_
  .let⟨⟨al,af,ae,ap,q3,z⟩,ai⟩:=h;have u:∀p D,(k9 g)[p]?=some D->d.cell? ⟨i,p,none⟩=some D:=λp D I=>by rw[Yu _ _ _ _ _ _ ai];exact I
   have X:Below W0.heap.size W0<|rt d W0.tape d.drawn:=⟨z.os,rfl,z.output,by rw[<-az];exact z.here,λw y=>z.low w om⟩;have aD:=j.hv.nD X;have aB:=j.Ey.nD (λU aJ e aw=>by simp only[YN]at e;have:=j.hk U e.1<|Z0 λay=>aw<|nY ay;omega) X;exact Xo E hE W0 B o m l _ aA n k c kb i av au ax aI am aF ak ag aE aC g.a ao f b d ⟨al,af,ae,ap,q3,z⟩ om om W aD aB j.hn j.hk (u 2 _ rfl) (u 6 _ (ZD some j.e0)) (u 7 _ (ZD some j.e1)) (u 8 _ (ZD some j.e2)) (u 9 _ (ZD some j.e3)) (u 10 _ (ZD some j.e4)) (u 11 _ (ZD some j.e5)) (u 12 _ (ZD some j.e6)) (u 13 _ (ZD some j.e7)) (u 14 _ (ZD some j.e8))
  .intro UH d C ar P;let⟨x,R,ac,K⟩:=ar;exact Hp hE T om b (λw y=>F x v w om om y) UH d C ((K.more om).Wb om J) P
 .simp only[ab,decide_false,YY,Y5];apply Tr.seq r;refine Tr.zc (Uo hE) r r (mk:=λa=>vA a (.slice (some ⟨t,s,none⟩) n k) (a 2) (.pointer<|some ⟨kb,0,none⟩) (a 5) f (.int .i64 (c:Nat)) (.pointer<|some ⟨i,0,none⟩) (.int .i64 g.on) (a 14) (a 15) (a 16) (a 81) (a 90) (a 135) (a 139)<|a 161) (λd h=>kK h<|Xj E hE _ n k c kb i f g b d h.2) λb=>?_;apply Tr.seq r;refine Tr.zc (Up hE) r r (mk:=λa=>vA a (.slice (some ⟨t,s,none⟩) n k) (a 2) (.pointer<|some ⟨kb,0,none⟩) (a 5) f (.int .i64 (c:Nat)) (.pointer<|some ⟨i,0,none⟩) (.int .i64 (mj g.on:Nat)) (a 14) (a 15) (a 16) (a 81) (a 90) (a 135) (a 139)<|a 161) (λd h=>kK h<|Xk E hE _ n k c kb i f g.on b d N) λb=>?_;intro UH d C h P;let⟨gr,kr,an⟩:∃gr kr,f=.slice (some ⟨gr,0,none⟩) l.length kr:=by let⟨⟨_,_,_,_,q3,_⟩,_⟩:=h;exact RW
  subst an;unfold mq at N;have aH:((mj g.on:Nat):Int)<=9223372036854775807:=by unfold mj;split<;>omega
  have ad:l.length-1-mj g.on%l.length<l.length:=om;exact Xp E hE W0 B o m l _ n k c kb i gr l.length kr (mj g.on) _ g b _ rfl ⟨Y.1,om⟩ aH (Yw ad) om Z J (λa=>Hp hE T om a (λw y=>F l _ w Y.1 om y)) UH d C h P
end
section
variable {Q:Array c_->b_->Trace->Prop}{E:og}(hE:pK E){W0:b_}{B kb:Nat}{a0:Option Addr}{n k:Nat}{A0:Nat->nE}{rest:Code}
include hE
def Hr(i:Nr W0 B a0 n A0)(f b0:Nat)(z:f+11*n+11<=1600000)(F:b0<=1000)
 (o:∀e c (a:Nat->f_),1<=e.length->e.length<=n+1->kI prog (G ((base 3).at ⟨vA a (a 0) (a 2) (π kb) (a 5) c (a 9) (a 10) (a 13) (a 14) (a 15) (a 16) (a 81) (a 90) (a 135) (a 139)<|a 161,[]⟩ [.code rest]) []) (Lw W0 B kb (f+11*n) e c<|b0+szU A0 n) Q):
 ∀(q b:Nat),b+q=n->∀e c g,1<=e.length->e.length<=b+1->B5 E a0 n k kb rest c b g->kI prog g (Lw W0 B kb (f+11*b) e c<|b0+szU A0 b) Q
 |0,b,u,e,c,g,h,l,j=>by obtain rfl:b=n:=om;obtain⟨a,rfl⟩:=j;have aj:=Lw.cl (W0:=W0) (B:=B) (kb:=kb) (m:=f+11*b) (gs:=e) (rv:=c) (bdn:=b0+szU A0 b);refine Tr.seq aj ?_;refine Tr.seq aj ?_;refine Tr.zc (Np hE) aj aj (mk:=λd=>vA d (.slice a0 b k) (d 2) (π kb) (d 5) c (ν b) (d 10) (d 13) (d 14) (d 15) (d 16) (.bool<|decide (b<b)) (d 90) (d 135) (d 139)<|d 161) (λD v=>kK v<|V_ E hE a0 b k b kb c a D) λa=>?_;refine Tr.cond aj (t:=decide (b<b)) rf ?_;refine Km ?_;exact Tr.shape (mkT:=λa=>vA a (a 0) (a 2) (π kb) (a 5) c (a 9) (a 10) (a 13) (a 14) (a 15) (a 16) (a 81) (a 90) (a 135) (a 139)<|a 161) rfl (λa=>o e c a h l)
 |q+1,b,u,e,c,g,h,l,j=>by have I:=i.sum (b+1) om;have r:szU A0 (b+1)=szU A0 b+(A0 b).s.size:=rfl;refine Ns hE i om om ⟨h,l⟩ om g j (λx s A C w y=>?_);have:=Hr i f b0 z F o q (b+1) om x s A C w y;rw[r,<-aaC,Nat.mul_add,YS,<-aaC]at this;exact this
end
section
variable (E:og)(hE:pK E)
include hE
def Wc(kb e d kr c:Nat)(a:Nat->f_)(f:b_):
 E.U0.wp prog (k' λh i=>∃b:Nat->f_,h=vA b (b 0) (b 2) (π kb) (b 5) (.slice (some (μ e 0)) d kr) (b 9) (b 10) (b 13) (b 14) (ν c) (b 16) (b 81) (b 90) (b 135) (.bool<|decide (c<d)) (b 161)/\i=f) ⟨vA a (a 0) (a 2) (π kb) (a 5) (.slice (some (μ e 0)) d kr) (a 9) (a 10) (a 13) (a 14) (ν c) (a 16) (a 81) (a 90) (a 135) (a 139)<|a 161,[]⟩ f:=by
 obtain rfl:=og.inj hE ud.2;dsimp only[ud];have g:decide ((c:Int)<(d:Int))=decide (c<d):=si;go_wp2
 first
  |exact AV rfl rfl
  |(refine AV ?_ rfl;simp only[<-g];rfl)
def Xq(kb:Nat)(d:f_)(a:Nat->f_)(c:b_):
 E.UZ.wp prog (k' λe f=>∃b:Nat->f_,e=vA b (b 0) (b 2) (π kb) (b 5) d (b 9) (b 10) (b 13) (b 14) (ν ((0:Nat):Int)) (b 16) (b 81) (b 90) (b 135) (b 139) (b 161)/\f=c) ⟨vA a (a 0) (a 2) (π kb) (a 5) d (a 9) (a 10) (a 13) (a 14) (a 15) (a 16) (a 81) (a 90) (a 135) (a 139)<|a 161,[]⟩ c:=by
 exact wY
def Xr(kb c f kr e:Nat)(b:Nat->f_)(d:b_):
 E.U2.wp prog (k' λg h=>∃a:Nat->f_,g=vA a (a 0) (a 2) (π kb) (a 5) (.slice (some (μ c 0)) f kr) (a 9) (a 10) (a 13) (a 14) (ν e) (a 16) (a 81) (a 90) (a 135) (a 139) (.bool false)/\h=d) ⟨vA b (b 0) (b 2) (π kb) (.bool true) (.slice (some (μ c 0)) f kr) (b 9) (b 10) (b 13) (b 14) (ν e) (.bool true) (b 81) (b 90) (b 135) (b 139)<|b 161,[]⟩ d:=by
 exact wY
def Xs(kb d f kr c:Nat)(b:Nat->f_)(e:b_)(i:c<1000000):
 E.U1.wp prog (k' λg h=>∃a:Nat->f_,g=vA a (a 0) (a 2) (π kb) (a 5) (.slice (some (μ d 0)) f kr) (a 9) (a 10) (a 13) (a 14) (ν ((c+1:Nat):Int)) (a 16) (a 81) (a 90) (a 135) (a 139) (a 161)/\h=e) ⟨vA b (b 0) (b 2) (π kb) (b 5) (.slice (some (μ d 0)) f kr) (b 9) (b 10) (b 13) (b 14) (ν c) (b 16) (b 81) (b 90) (b 135) (b 139)<|b 161,[]⟩ e:=by
 obtain rfl:=og.inj hE ud.2;dsimp only[ud];have j:IntKind.i64.wrap ((c:Int)+1)=((c+1:Nat):Int):=wo;go_wp2
 first
  |exact AV rfl rfl
  |(refine AV ?_ rfl;congr 1)
def Xt(kb f h kr B:Nat)(b:Nat->f_)(c:b_)(hc:Calls prog 11 #[π kb] c λe d=>e=.returned (.bool true)/\Below B c d):
 E.Uj.wp prog (k' λg d=>∃a:Nat->f_,g=vA a (a 0) (.bool true) (a 3) (a 5) (a 8) (a 9) (a 10) (a 13) (a 14) (a 15) (a 16) (a 81) (a 90) (a 135) (a 139) (a 161)/\Below B c d) ⟨vA b (b 0) (b 2) (π kb) (b 5) (.slice (some (μ f 0)) h kr) (b 9) (b 10) (b 13) (b 14) (b 15) (b 16) (b 81) (b 90) (b 135) (b 139)<|b 161,[]⟩ c:=by
 exact QO
end
def NF:nE:=⟨4,0,0,0,0, -1,0,0,0,0,⟨#[]⟩,ν 0,ν 0,ν 0,ν 0,ν 0,ν 0,ν 0,σ,ν 0⟩
def NG:nE:=⟨8,0,0,0,0,0,0,0,0, -1,⟨#[]⟩,ν 0,ν 0,ν 0,ν 0,ν 0,ν 0,ν 0,σ,ν 0⟩
def Wd:yu NF:=⟨by unfold mq NF;decide,by unfold mq NF;decide,by unfold mq NF;decide,by unfold mq NF;decide,by unfold mq NF;decide⟩
def We:yu NG:=⟨by unfold mq NG;decide,by unfold mq NG;decide,by unfold mq NG;decide,by unfold mq NG;decide,by unfold mq NG;decide⟩
def SB:Array Oper:=#[{dst:=some 142,op:=.move<|.tmp 8,type:=53,pos:= "device.go:349",after:=#[],guard:=none},{dst:=some 143,op:=.move<|.tmp 15,type:=3,pos:= "device.go:349",after:=#[],guard:=none},{dst:=some 144,op:=.indexAddr 53 (.tmp 142)<|.tmp 143,type:=0,pos:= "device.go:349",after:=#[{on:=0,ground:=.data},{on:=1,ground:=.data}],guard:=none},{dst:=some 145,op:=.load 34<|.tmp 144,type:=34,pos:= "device.go:349",after:=#[{on:=2,ground:=.data}],guard:=none},{dst:=some 146,op:=.build 42 #[(0,.const<|ν 4),(7,.const<|ν (-1))],type:=42,pos:= "device.go:349",after:=#[],guard:=none},{dst:=some 147,op:=.move<|.tmp 3,type:=23,pos:= "device.go:349",after:=#[],guard:=none},{dst:=some 148,op:=.call {callee:=.value<|.func 9,args:=#[.tmp 145,.tmp 146,.tmp 147],argTypes:=#[34,42,23]},type:=4,pos:= "device.go:349",after:=#[{on:=3,ground:=.data},{on:=4,ground:=.data},{on:=5,ground:=.data}],guard:=none},{dst:=some 5,op:=.assign<|.tmp 148,type:=4,pos:= "device.go:349",after:=#[{on:=6,ground:=.data},{on:=6,ground:=.chain},{on:=0,ground:=.phase},{on:=1,ground:=.phase},{on:=2,ground:=.phase},{on:=3,ground:=.phase},{on:=4,ground:=.phase},{on:=5,ground:=.phase},{on:=6,ground:=.phase}],guard:=none}]
def SC:Array Oper:=#[{dst:=some 149,op:=.move<|.tmp 8,type:=53,pos:= "device.go:350",after:=#[],guard:=none},{dst:=some 150,op:=.move<|.tmp 15,type:=3,pos:= "device.go:350",after:=#[],guard:=none},{dst:=some 151,op:=.indexAddr 53 (.tmp 149)<|.tmp 150,type:=0,pos:= "device.go:350",after:=#[{on:=0,ground:=.data},{on:=1,ground:=.data}],guard:=none},{dst:=some 152,op:=.load 34<|.tmp 151,type:=34,pos:= "device.go:350",after:=#[{on:=2,ground:=.data}],guard:=none},{dst:=some 153,op:=.build 42 #[(0,.const<|ν 8),(11,.const<|ν (-1))],type:=42,pos:= "device.go:350",after:=#[],guard:=none},{dst:=some 154,op:=.move<|.tmp 3,type:=23,pos:= "device.go:350",after:=#[],guard:=none},{dst:=some 155,op:=.call {callee:=.value<|.func 9,args:=#[.tmp 152,.tmp 153,.tmp 154],argTypes:=#[34,42,23]},type:=4,pos:= "device.go:350",after:=#[{on:=3,ground:=.data},{on:=4,ground:=.data},{on:=5,ground:=.data}],guard:=none},{dst:=some 16,op:=.assign<|.tmp 155,type:=4,pos:= "device.go:350",after:=#[{on:=6,ground:=.data},{on:=6,ground:=.chain},{on:=0,ground:=.phase},{on:=1,ground:=.phase},{on:=2,ground:=.phase},{on:=3,ground:=.phase},{on:=4,ground:=.phase},{on:=5,ground:=.phase},{on:=6,ground:=.phase}],guard:=none}]
section
variable {Q:Array c_->b_->Trace->Prop}
def JN(c:Act)(h:b_->Prop)(a:Cl h)(j:f_->b_->Prop)(t:∀e,Cl<|j e)(l:List Item)(k:List Frame)(d f kr b i g:Nat)(o:c.tmps.size=164)(q:c.eval (.tmp 8)=.slice (some (μ d 0)) f kr)(u:c.eval (.tmp 15)=ν b)(v:c.eval (.tmp 3)=π g)(x:(b:Int)<(f:Int))
 (p:∀n,h n->n.rangeAt d b [π i]) (r:ub prog Q 9 #[π i,.agg<|k9 NF,π g] h j)
 (s:∀e,kI prog (G ((base 3).at ((((((((c.put (some 142)<|.slice (some (μ d 0)) f kr).put (some 143)<|ν b).put (some 144)<|.pointer<|some (μ d b)).put (some 145)<|π i).put (some 146)<|.agg<|k9 NF).put (some 147)<|π g).put (some 148) e).put (some 5) e) l) k) (j e) Q):
 kI prog (G ((base 3).at c (.code (.region 34 SB false)::l)) k) h Q:=by
 refine Tr.region a ?_;obtain⟨w,hk,m⟩:=Kn.fn o;rw[m]at q u v;clear m;refine pG 142 (.slice (some (μ d 0)) f kr) a hk λhk=>?_;refine pG 143 (ν b) a hk λhk=>?_;refine pG 144 (.pointer<|some (μ d b)) a hk λhk=>?_;refine MU 145 a hk p (B4 _) λhk=>?_;refine pG 146 (.agg<|k9 NF) a hk λhk=>?_;refine pG 147 (π g) a hk λhk=>?_;exact TZ 148 5 a t hk r s
def JO(c:Act)(h:b_->Prop)(a:Cl h)(j:f_->b_->Prop)(t:∀e,Cl<|j e)(l:List Item)(k:List Frame)(d f kr b i g:Nat)(o:c.tmps.size=164)(q:c.eval (.tmp 8)=.slice (some (μ d 0)) f kr)(u:c.eval (.tmp 15)=ν b)(v:c.eval (.tmp 3)=π g)(x:(b:Int)<(f:Int))
 (p:∀n,h n->n.rangeAt d b [π i]) (r:ub prog Q 9 #[π i,.agg<|k9 NG,π g] h j)
 (s:∀e,kI prog (G ((base 3).at ((((((((c.put (some 149)<|.slice (some (μ d 0)) f kr).put (some 150)<|ν b).put (some 151)<|.pointer<|some (μ d b)).put (some 152)<|π i).put (some 153)<|.agg<|k9 NG).put (some 154)<|π g).put (some 155) e).put (some 16) e) l) k) (j e) Q):
 kI prog (G ((base 3).at c (.code (.region 35 SC false)::l)) k) h Q:=by
 refine Tr.region a ?_;obtain⟨w,hk,m⟩:=Kn.fn o;rw[m]at q u v;clear m;refine pG 149 (.slice (some (μ d 0)) f kr) a hk λhk=>?_;refine pG 150 (ν b) a hk λhk=>?_;refine pG 151 (.pointer<|some (μ d b)) a hk λhk=>?_;refine MU 152 a hk p (B4 _) λhk=>?_;refine pG 153 (.agg<|k9 NG) a hk λhk=>?_;refine pG 154 (π g) a hk λhk=>?_;exact TZ 155 16 a t hk r s
end
def Yg(E:og)(hE:pK E):E.WD=.region 34 SB false:=by exact GG
def Yh(E:og)(hE:pK E):E.WE=.region 35 SC false:=by exact GG
def Lw.ptr{W0 g:b_}{B kb m bdn gr L kr a b:Nat}{gs:List Nat}(j:Lw W0 B kb m gs (.slice (some (μ gr 0)) L kr) bdn g)(f:gs[a]?=some b):g.rangeAt gr a [π b]:=λh o c=>by
 let⟨n,l,_,_,k,_⟩:=j
 cases h with
 |succ h=>simp at c
 |zero=>simp only[ZO,Yz]at c;subst c;have i:=(Yr.1 f).1;have d:=kj JG 1 (λ_=>rfl) gs a 0 i om;rw[YS,YE]at d;have e:=k.cells rfl a (π b) (by rw[d,(Yr.1 f).2];rfl);rw[aaX,YF]at e;exact e
section
variable {Q:Array c_->b_->Trace->Prop}{E:og}(hE:pK E){W0:b_}{B kb m bdn gr L kr:Nat}{gs:List Nat}
include hE
def Xu{c k:Nat}(w:c<L)(j:gs[c]?=some k)(s:m<=1600000)(e:bdn<=1100000)(b:Nat->f_)(f:List Item)
 (h:∀a:Nat->f_,kI prog (G ((base 3).at ⟨vA a (a 0) (a 2) (π kb) (.bool true) (.slice (some (μ gr 0)) L kr) (a 9) (a 10) (a 13) (a 14) (ν c) (a 16) (a 81) (a 90) (a 135) (a 139)<|a 161,[]⟩ f) []) (Lw W0 B kb (m+11) gs (.slice (some (μ gr 0)) L kr) bdn) Q):
 kI prog (G ((base 3).at ⟨vA b (b 0) (b 2) (π kb) (b 5) (.slice (some (μ gr 0)) L kr) (b 9) (b 10) (b 13) (b 14) (ν c) (b 16) (b 81) (b 90) (b 135) (b 139)<|b 161,[]⟩ (.code E.WD::f)) []) (Lw W0 B kb m gs (.slice (some (μ gr 0)) L kr) bdn) Q:=by
 rw[Yg E hE];have q:=h_ h;clear h;refine JN _ _ Lw.cl (λg v=>g=.bool true/\Lw W0 B kb (m+11) gs (ω gr L kr) bdn v) (λg d u r i=>⟨i.1,Lw.cl d u r i.2⟩) f [] gr L kr c k kb si qU qU qU om (λd o=>o.ptr j) (Gm j NF s Wd e) (λg=>?_);intro p d l t e;obtain⟨rfl,n⟩:=t;simp only[Act.put,aaj,aa0,aar]at e;exact(Tr.shape (mkT:=λa=>vA a (a 0) (a 2) (π kb) (.bool true) (ω gr L kr) (a 9) (a 10) (a 13) (a 14) (ν c) (a 16) (a 81) (a 90) (a 135) (a 139)<|a 161) rfl q) p d l n e
def Xv{c k:Nat}(w:c<L)(j:gs[c]?=some k)(s:m<=1600000)(e:bdn<=1100000)(b:Nat->f_)(f:List Item)
 (h:∀a:Nat->f_,kI prog (G ((base 3).at ⟨vA a (a 0) (a 2) (π kb) (.bool true) (.slice (some (μ gr 0)) L kr) (a 9) (a 10) (a 13) (a 14) (ν c) (.bool true) (a 81) (a 90) (a 135) (a 139)<|a 161,[]⟩ f) []) (Lw W0 B kb (m+11) gs (.slice (some (μ gr 0)) L kr) bdn) Q):
 kI prog (G ((base 3).at ⟨vA b (b 0) (b 2) (π kb) (.bool true) (.slice (some (μ gr 0)) L kr) (b 9) (b 10) (b 13) (b 14) (ν c) (b 16) (b 81) (b 90) (b 135) (b 139)<|b 161,[]⟩ (.code E.WE::f)) []) (Lw W0 B kb m gs (.slice (some (μ gr 0)) L kr) bdn) Q:=by
 rw[Yh E hE];have q:=h_ h;clear h;refine JO _ _ Lw.cl (λg v=>g=.bool true/\Lw W0 B kb (m+11) gs (ω gr L kr) bdn v) (λg d u r i=>⟨i.1,Lw.cl d u r i.2⟩) f [] gr L kr c k kb si qU qU qU om (λd o=>o.ptr j) (Gm j NG s We e) (λg=>?_);intro p d l t e;obtain⟨rfl,n⟩:=t;simp only[Act.put,aaj,aa0,aar]at e;exact(Tr.shape (mkT:=λa=>vA a (a 0) (a 2) (π kb) (.bool true) (ω gr L kr) (a 9) (a 10) (a 13) (a 14) (ν c) (.bool true) (a 81) (a 90) (a 135) (a 139)<|a 161) rfl q) p d l n e
end
def og.Xw(E:og):Code:=.seq (.seq E.U0<|.cond (.tmp 139) .skip<|.exit 4) (.seq (.block 5<|.seq E.WD<|.seq E.WE<|.seq E.U2<|.cond (.tmp 161) (.seq E.X5 .ret) .skip) E.U1)
def og.rest(E:og):Code:=.seq (.seq E.UZ<|.block 4<|.loop E.Xw) (.seq E.Uj .ret)
def Hs(W0:b_)(B:Nat):Array c_->b_->Trace->Prop:=λgs a d=>∃b e,b.defers=[]/\Beside prog gs d (G ((base 3).at b (.code .ret::e)) [])/\b.tmps.getD 2 undef=.bool true/\B<=a.heap.size/\(∀c,c<B->a.heap[c]?=W0.heap[c]?)/\a.os=W0.os/\a.output=W0.output
section
variable {E:og}(hE:pK E){W0:b_}{B kb gr L kr:Nat}{gs:List Nat}
def Wf(E:og)(kb gr L kr b:Nat)(c:c_):Prop:=∃a:Nat->f_,c=G ((base 3).at ⟨vA a (a 0) (a 2) (π kb) (a 5) (.slice (some (μ gr 0)) L kr) (a 9) (a 10) (a 13) (a 14) (ν b) (a 16) (a 81) (a 90) (a 135) (a 139)<|a 161,[]⟩ [.code E.Xw,.inLoop E.Xw,.inBlock 4,.code<|.seq E.Uj .ret]) []
include hE
def Ht(bdn e:Nat)(A:L=gs.length)(y:e+22*L+22<=1600000)(f:bdn<=1100000):∀(q j:Nat),j+q=L->∀g,Wf E kb gr L kr j g->kI prog g (Lw W0 B kb (e+22*j) gs (.slice (some (μ gr 0)) L kr) bdn) (Hs W0 B)
 |0,j,r,g,i=>by
  obtain rfl:j=L:=om;obtain⟨s,rfl⟩:=i;have aj:=Lw.cl (W0:=W0) (B:=B) (kb:=kb) (m:=e+22*j) (gs:=gs) (rv:=.slice (some (μ gr 0)) j kr) (bdn:=bdn);refine Tr.seq aj ?_;refine Tr.seq aj ?_;refine Tr.zc (Nq hE) aj aj (mk:=λa=>vA a (a 0) (a 2) (π kb) (a 5) (.slice (some (μ gr 0)) j kr) (a 9) (a 10) (a 13) (a 14) (ν j) (a 16) (a 81) (a 90) (a 135) (.bool<|decide (j<j))<|a 161) (λb c=>kK c<|Wc E hE kb gr j kr j s b) λs=>?_;refine Tr.cond aj (t:=decide (j<j)) rf ?_;refine Km ?_;refine Tr.seq aj ?_;refine Tr.shape (mkT:=λs=>vA s (s 0) (s 2) (π kb) (s 5) (.slice (some (μ gr 0)) j kr) (s 9) (s 10) (s 13) (s 14) (s 15) (s 16) (s 81) (s 90) (s 135) (s 139)<|s 161) rfl (λs=>?_);have z:Cl<|JH W0 B:=λb D C M=>M.rt;refine Tr.zc (Uw hE) aj z (mk:=λa=>vA a (a 0) (.bool true) (a 3) (a 5) (a 8) (a 9) (a 10) (a 13) (a 14) (a 15) (a 16) (a 81) (a 90) (a 135) (a 139)<|a 161) (λb c=>?_) λs=>?_
  .obtain⟨w,F,u,_,_,t⟩:=c;exact aaA (λ_ _ _ q=>mI (λ_ _ ⟨a,o,M⟩=>⟨a,o,t.nD M⟩) q)<|Xt E hE kb gr j kr B s b (Jk b B kb _ w u.bk.bk om)
  .intro I b l h f;exact oe.here ⟨_,_,rfl,f,rfl,h.here,h.low,h.os,h.output⟩
 |q+1,j,r,g,i=>by obtain⟨s,rfl⟩:=i;have aj:=Lw.cl (W0:=W0) (B:=B) (kb:=kb) (m:=e+22*j) (gs:=gs) (rv:=.slice (some (μ gr 0)) L kr) (bdn:=bdn);have hj:j<L:=om;have n:j<gs.length:=om;have x:=Ht bdn e A y f q (j+1) om;refine Tr.seq aj ?_;refine Tr.seq aj ?_;refine Tr.zc (Nq hE) aj aj (mk:=λa=>vA a (a 0) (a 2) (π kb) (a 5) (.slice (some (μ gr 0)) L kr) (a 9) (a 10) (a 13) (a 14) (ν j) (a 16) (a 81) (a 90) (a 135) (.bool<|decide (j<L))<|a 161) (λb c=>kK c<|Wc E hE kb gr L kr j s b) λs=>?_;refine Tr.cond aj (t:=decide (j<L)) rf ?_;refine Kc ?_;refine QN ?_;intro s;refine Xu hE hj (Yw n) om f s _ (λs=>?_);have v:=Lw.cl (W0:=W0) (B:=B) (kb:=kb) (m:=e+22*j+11) (gs:=gs) (rv:=.slice (some (μ gr 0)) L kr) (bdn:=bdn);refine Tr.seq v ?_;refine Xv hE hj (Yw n) om f s _ (λs=>?_);have d:=Lw.cl (W0:=W0) (B:=B) (kb:=kb) (m:=e+22*j+11+11) (gs:=gs) (rv:=.slice (some (μ gr 0)) L kr) (bdn:=bdn);refine Tr.seq d ?_;refine Tr.zc (Uv hE) d d (mk:=λa=>vA a (a 0) (a 2) (π kb) (a 5) (.slice (some (μ gr 0)) L kr) (a 9) (a 10) (a 13) (a 14) (ν j) (a 16) (a 81) (a 90) (a 135) (a 139)<|.bool false) (λb c=>kK c<|Xr E hE kb gr L kr j s b) λs=>?_;refine Tr.cond d (t:=false) rf ?_;simp only[YY,Y5];refine Tr.skip d ?_;refine Tr.inBlock d ?_;refine QN ?_;intro s;refine Tr.zc (Uu hE) d d (mk:=λa=>vA a (a 0) (a 2) (π kb) (a 5) (.slice (some (μ gr 0)) L kr) (a 9) (a 10) (a 13) (a 14) (ν ((j+1:Nat):Int)) (a 16) (a 81) (a 90) (a 135) (a 139)<|a 161) (λb c=>kK c<|Xs E hE kb gr L kr j s b om) λs=>?_;refine Tr.inLoop d ?_;have:=x _ ⟨s,rfl⟩;rw[show e+22*(j+1)=e+22*j+11+11 by omega]at this;exact this
def P5(bdn f:Nat)(c:f_)(o:1<=gs.length)(k:f+22*gs.length+22<=1600000)(n:bdn<=1100000)(a:Nat->f_):kI prog (G ((base 3).at ⟨vA a (a 0) (a 2) (π kb) (a 5) c (a 9) (a 10) (a 13) (a 14) (a 15) (a 16) (a 81) (a 90) (a 135) (a 139)<|a 161,[]⟩ [.code E.rest]) []) (Lw W0 B kb f gs c bdn) (Hs W0 B):=by
 have d:=Lw.cl (W0:=W0) (B:=B) (kb:=kb) (m:=f) (gs:=gs) (rv:=c) (bdn:=bdn);refine Tr.seq d ?_;apply Tr.seq d;refine Tr.zc (Ut hE) d d (mk:=λb=>vA b (b 0) (b 2) (π kb) (b 5) c (b 9) (b 10) (b 13) (b 14) (ν ((0:Nat):Int)) (b 16) (b 81) (b 90) (b 135) (b 139)<|b 161) (λh g=>kK g<|Xq E hE kb c a h) λa=>?_;apply Tr.block d;apply Tr.loop d;intro UH h i g j;obtain⟨gr,kr,l⟩:∃gr kr,c= ω gr gs.length kr:=by obtain⟨_,_,_,_,q3,_⟩:=g;exact RW
 subst l;exact Ht hE bdn f rfl k n gs.length 0 om _ ⟨a,rfl⟩ UH h i g j
end
def Wh(e d:Int)(a:a_)(f c:Int):nE:=⟨e,0,d,0,0,f,0,0,0,c,a,ν 0,ν 0,ν 0,ν 0,ν 0,ν 0,ν 0,σ,ν 0⟩
def Eo(a:Nat):nE:=if a=0 then Wh 2 0 P6 (-1) 0 else if a=1 then Wh 2 0 Gp (-1) 0 else if a=2 then Wh 4 0 ⟨#[]⟩ (-1) 0 else if a=3 then Wh 8 0 ⟨#[]⟩ 0 (-1)else Wh 7 2 ⟨#[]⟩ (-1) 0
def SD(a:Nat)(c:a<5):yu (Eo a)/\(Eo a).kind≠3/\(Eo a).s.size<=12:=by rcases(show a=0\/a=1\/a=2\/a=3\/a=4 by omega)with rfl|rfl|rfl|rfl|rfl<;>exact⟨⟨by unfold mq;decide,by unfold mq;decide,by unfold mq;decide,by unfold mq;decide,by unfold mq;decide⟩,dc,dc⟩
structure X6(F:Cf):Prop where
 s0:F.s0=10
 s1:F.s1=10
 s2:F.s2=10
 s3:F.s3=10
 c:F.c=5
 h:F.h=5
 u:F.u=1
 n:F.n=1
 kn:F.kn 0=0
def VD(a:Nat)(c:j4)(e:Ls)(left:lw)(d:Nat->a_)(f:Nat->Bool):Prop:=
 (a<=1->d 0=⟨#[]⟩/\f 0=false)/\(2<=a->c.ent 2 2=9)/\(a=3->left.length-1<=e.least)/\(4<=a->c.ent 2 7=0)
section
variable {w:b_}{B kb m:Nat}{b:lu}{KP:Nat->Prop}{r:oW}{bdn:Nat}
def Wi{c:Cf}(a:nN c)(d:Nat->Option Obj):nN {c with hp:=d}:=⟨a.s0,a.s1,a.s2,a.s3,a.c,a.h,a.u,a.n,a.b,a.kn⟩
def P8(e:Nat)(ag:e<5)(a:qV w B kb m b KP [r] bdn)(hF:X6 r.F)(i:VD e r.q.p.rd r.s r.left r.ys r.zs)(an:m<=1000)(ao:bdn<=1000):
 l4 prog 9 #[π r.q.g,.agg<|k9<|Eo e,π kb] w λx C=>x=.returned (.bool true)/\mT (λ_ L h g _ A z=>VD (e+1) L h g A z) w C B r.q kb (m+11) {r.F with hp:=Eu w<|m2 KP [r] 0} r.nd (bdn+12):=by
 have V:[r][0]?=some r:=rfl;have d:=a.n_ 0 r V;have D:=a.view V;have K:=Wi d.hF<|Eu w<|m2 KP [r] 0;let⟨J,_,_⟩:=SD e ag;have U:(r.q.p.rd.ln 0).kind=0:=by rw[d.cr.kind];exact hF.kn
 have aj:0<2*r.F.sec:=li<|(Cf.u9 d.hF).1;have R:∀{F l L ys zs}{o:Nat},o<=bdn+12->Bd F l L ys zs o->Bd F l L ys zs (bdn+12):=λi a=>a.more i;rcases(show e=0\/e=1\/e=2\/e=3\/e=4 by omega)with rfl|rfl|rfl|rfl|rfl
 .let⟨N,O⟩:=i.1 om;refine(y4 w B _ r.q kb m b _ r.D r.s r.left r.safe r.ys r.zs r.nd r.d bdn (Eo 0) 0 D K om d.nd J rfl rfl (by show 0<r.F.n;rw[hF.n];omega) (by show bdn+12<=_;omega)).mono ?_;rintro x C ⟨rfl,v,f,j,l,h,g,M,A,z,c,q,n,p,s,t,u,k,E,I⟩;obtain⟨_,_,_,_,_,rfl,rfl⟩:=I dc;exact⟨rfl,v,f,j,l,h,g,M,_,_,c,q,n,p,s,t,u,k,E,λ_=>Nu _ U _ _ N O,λa=>absurd a om,λa=>absurd a om,λa=>absurd a om⟩
 .let⟨N,O⟩:=i.1 om;refine(y4 w B _ r.q kb m b _ r.D r.s r.left r.safe r.ys r.zs r.nd r.d bdn (Eo 1) 0 D K om d.nd J rfl rfl (by show 0<r.F.n;rw[hF.n];omega) (by show bdn+12<=_;omega)).mono ?_;rintro x C ⟨rfl,v,f,j,l,h,g,M,A,z,c,q,n,p,s,t,u,k,E,I⟩;let⟨_,P,_⟩:=I dc;exact⟨rfl,v,f,j,l,h,g,M,A,z,c,q,n,p,s,t,u,k,E,λa=>absurd a om,λ_=>by rw[P];exact JP _ (by rw[d.cr.sz,hF.s0,hF.s1,hF.s2,hF.s3]) (by rw[d.cr.unit,hF.u]) U _ _ N O ..,λa=>absurd a om,λa=>absurd a om⟩
 .refine(AM w B _ r.q kb m b _ r.D r.s r.left r.safe r.ys r.zs r.nd r.d bdn (Eo 2) D K om d.nd J rfl).mono ?_;rintro x C ⟨rfl,v,f,j,l,h,g,M,A,z,c,q,n,p,s,t,u,k,E,I⟩;obtain⟨_,P,rfl,rfl,T,_⟩:=I dc;exact⟨rfl,v,f,j,l,h,_,_,A,z,c,q,n,p,s,R om t,u,k,E,λa=>absurd a om,λ_=>by rw[P];exact i.2.1 om,λ_=>T,λa=>absurd a om⟩
 .have ai:=i.2.1 om;have T:=i.2.2.1 rfl;refine(AL w B _ r.q kb m b _ r.D r.s r.left r.safe r.ys r.zs r.nd r.d bdn (Eo 3) D K om d.nd J rfl).mono ?_;rintro x C ⟨rfl,v,f,j,Z,W,S,c,h,q,n,p,s,t,u,k,e,am,Q⟩;have al:=(Yr.1 Q).1;have ak:=d.qB.ll;have af:=d.qB.la;have aa:e=r.q.p.rd.arr:=om;rw[aa,af,d.cf.kp]at Q;have X:=YR Q;rw[hF.c,hF.h]at X;have ab:=ZD (λg:List Int=>g[7]?) X;have ae:nM 5 5 c 2 2=9:=by have ac:=YR ab;rw[<-ac,<-d.qB.tw.ent];exact ai
  have Y:∀o,((Cf.dev {r.F with hp:=Eu w<|m2 KP [r] 0} Z W S c).ent 2 o)=nM 5 5 c 2 o:=λo=>by show nM r.F.c r.F.h c 2 o=_;rw[hF.c,hF.h]
  refine⟨rfl,v,f,j,_,h,_,_,_,_,c,q.more om,n,p,s,by rw[k];exact Bd.fresh _ Z W S _ c,λg ah=>?_,t,u,λa=>absurd a om,λ_=>by rw[k,Y];exact ae,λa=>absurd a om,λ_=>by rw[k,Y];rfl⟩;rw[Y'.1 ah,pd];rw[hF.c,hF.h];omega
 .refine(Hj w B _ r.q kb m b _ r.D r.s r.left r.safe r.ys r.zs r.nd r.d bdn (Eo 4) 2 D om rfl rfl om (li d.nd.1)).mono ?_;rintro x C ⟨rfl,f,j,y,ad⟩;exact⟨rfl,r.q,f,j,_,_,_,_,_,_,_,y.sb.more om,y.dv,y.qB,y.ok,R om y.bd,y.ll,rfl,ad,λa=>absurd a om,λ_=>i.2.1 om,λa=>absurd a om,λ_=>i.2.2.2 om⟩
end
def Nv(W0:b_)(B kb m:Nat)(KP:Nat->Prop)(bdn g j:Nat)(w:b_):Prop:=∃b a,qV w B kb m b KP [a] bdn/\a.q.g=g/\X6 a.F/\VD j a.q.p.rd a.s a.left a.ys a.zs/\JH W0 B w
def v_(W0:b_)(B kb m bdn g hb j:Nat)(w:b_):Prop:=Nv W0 B kb m (λa=>a=hb) bdn g j w/\w.heap[hb]?=some (.cells (((List.range 5).flatMap λj=>(k9<|Eo j).toList).toArray) 42 (0,0))
section
variable {W0 w w':b_}{B kb m bdn g hb j:Nat}{KP:Nat->Prop}
def Nv.cl:Cl<|Nv W0 B kb m KP bdn g j:=λ_ _ _ ⟨f,b,a,c,h,e,d⟩=>⟨f,b,a.rt,c,h,e,d.rt⟩
def v_.cl:Cl<|v_ W0 B kb m bdn g hb j:=λw c b a=>⟨Nv.cl w c b a.1,a.2⟩
def UA:mV 10 10 10 10 5 5 1 1 (λ_=>0) 3:=⟨λa _=>by unfold BD;split;omega;split;omega;split<;>omega,λ_ _=>.inl rfl,om,om,om,om,om⟩
def JQ(a:qV w B kb 0 Jj (λ_=>False) [] 0)(z:JH W0 B w):
 Calls prog 8 #[] w λb f=>∃o,b=.returned o/\Calls prog 7 #[o,ν 0,π kb] f λb n=>∃g,b=.returned (.tuple #[π g,.bool true])/\Nv W0 B kb 5 (λ_=>False) 0 g 0 n:=by
 refine(Jl w).mono ?_;rintro b f ⟨d,rfl,e,p,c⟩;refine⟨_,rfl,?_⟩;have S:=a.bk.bk.lo.2;obtain⟨u,q⟩:=a.xl (KP':=λs=>s=d) c.os c.tape c.output c.size (λg h _=>c.block g h) (λg h=>by subst h;exact⟨om,⟨_,_,e⟩,.inr<|.inl p⟩);have i:=Yn e;have k:f.cell? (μ d 0)=some (ν 0):=(Yu _ _ _ _ _ _ e).trans rfl;refine(y_ u 10 10 10 10 5 5 1 3 0 1 1 (some (μ d 0)) (λ_=>0) (by unfold mq;omega) om (λj M=>⟨d,0,rfl,i,by rw[show 0+j=0 by omega];exact k,by show(-9223372036854775808:Int)<=0;omega,by show(0:Int)<=_;omega⟩) (.inr ⟨_,_,rfl,λj P l=>?_⟩) om (λE C _=>?_)).mono ?_
 .cases j with
  |zero=>cases l;exact k
  |succ j=>simp[ka]at l
 .cases C;exact⟨i,.inr rfl⟩
 .rintro b n (⟨_,r,_⟩|⟨A,D,rfl,_,v,t,_,hF,y,x⟩)
  .exact absurd ⟨UA,dc⟩ r
  .refine⟨_,rfl,A,D,(v.xl rfl rfl rfl kM (λ_ _ _=>rfl) (λg a=>a.elim)).1,rfl,?_,⟨λ_=>by rw[y,x];exact⟨rfl,rfl⟩,λa=>absurd a om,λa=>absurd a om,λa=>absurd a om⟩,(z.nD q).nD t⟩;have J:=hF.s0;have I:=hF.s1;have O:=hF.s2;have R:=hF.s3;have N:=hF.c;have F:=hF.h;have L:=hF.u;have Q:=hF.n;have K:=hF.kn 0 om;exact⟨om,om,om,om,om,om,om,om,om⟩
def Nv.ops(l:Nv W0 B kb m (λ_=>False) bdn g j w)(a:Below w.heap.size w w')(d:w'.heap[hb]?=some (.cells (((List.range 5).flatMap λj=>(k9<|Eo j).toList).toArray) 42 (0,0)))(i:w.heap.size<=hb):v_ W0 B kb m bdn g hb j w':=by let⟨k,n,c,p,e,q,h⟩:=l;have s:=c.bk.bk.lo.2;obtain⟨r,f⟩:=c.xl (KP':=λo=>o=hb) a.os a.tape a.output a.size (λg b _=>a.block g b) (λg b=>by subst b;exact⟨om,⟨_,_,d⟩,.inr<|.inl i⟩);exact⟨⟨k,n,r,p,e,q,h.nD f⟩,d⟩
def v_.cell(f:v_ W0 B kb m bdn g hb j w){i:Nat}(e:i<5):w.rangeAt hb (i*20) (k9<|Eo i).toList:=λb h a=>by rw[Yu _ _ _ _ _ _ f.2];have c:=(Yr.1 a).1;rw[aat];have d:=kj (λj=>(k9<|Eo j).toList) 20 (λ_=>rfl) (List.range 5) i b (by simpa using e) c;rw[d];simpa using a
def v_.Xz(l:v_ W0 B kb m bdn g hb j w){a:Nat}(b:Below w.heap.size w w')(e:w'.heap[a]?=some (.cells #[π g] 34))(i:w.heap.size<=a):Lw W0 B kb m [g] (.slice (some (μ a 0)) 1 1) bdn w':=by
 obtain⟨⟨k,n,d,rfl,s,r,h⟩,_⟩:=l;have q:=d.bk.bk.lo.2
 obtain⟨p,f⟩:=d.xl b.os b.tape b.output b.size (λg c _=>b.block g c) (λg c=>by
  obtain rfl:a=g:=YR c
  exact⟨om,⟨_,_,e⟩,uq i⟩)
 refine⟨k,[n],p,rfl,?_,h.nD f⟩;exact⟨rfl,.inr ⟨a,1,_,rfl,om,e,YC _,dc,rfl,rfl⟩⟩
def UB{A:Array c_->b_->Trace->Prop}(h:j<5)(D:m<=1000)(k:bdn<=1000):
 ub prog A 9 #[π g,.agg<|k9<|Eo j,π kb] (v_ W0 B kb m bdn g hb j) (λc w'=>c=.bool true/\v_ W0 B kb (m+11) (bdn+12) g hb (j+1) w'):=by
 let⟨b,d⟩:∃b,Tryz.f9.body=some b:=⟨_,rfl⟩;refine⟨Tryz.f9,b,func9,rf,d,λP O M R N oc L Q p C=>?_⟩;refine M_ v_.cl (J:=λc w'=>c=.bool true/\v_ W0 B kb (m+11) (bdn+12) g hb (j+1) w') (λc w y s e=>⟨e.1,v_.cl w y s e.2⟩) b d (Eo j) g kb (SD j h).2.1 p (λw F=>?_) C;obtain⟨⟨S,T,f,rfl,a,u,o⟩,r⟩:=F;refine(P8 j h f a u D k).mono ?_;rintro K w' ⟨rfl,I⟩;let⟨E,t,z,l,v,x,n,q,_⟩:=f.St rfl I om om;refine⟨_,rfl,rfl,⟨E,t,z,l,?_,n,o.nD v⟩,(x hb rfl).trans r⟩;rw[q];exact⟨a.s0,a.s1,a.s2,a.s3,a.c,a.h,a.u,a.n,a.kn⟩
end
@[reducible] def hA (a: Nat -> f_)(j b k l d e g i m h f c: f_) : Array f_ := #[j,a 1,a 2,b,k,l,d,e,g,i,a 10,a 11,a 12,a 13,a 14,a 15,a 16,a 17,a 18,a 19,a 20,a 21,a 22,a 23,a 24,a 25,a 26,a 27,a 28,a 29,m,a 31,a 32,a 33,a 34,a 35,a 36,a 37,a 38,a 39,h,a 41,a 42,a 43,a 44,a 45,a 46,a 47,a 48,a 49,a 50,f,a 52,a 53,a 54,a 55,a 56,a 57,a 58,a 59,a 60,a 61,a 62,a 63,a 64,a 65,a 66,a 67,a 68,a 69,a 70,a 71,a 72,a 73,a 74,c,a 76,a 77,a 78,a 79,a 80,a 81,a 82,a 83,a 84,a 85,a 86,a 87,a 88,a 89,a 90,a 91,a 92,a 93,a 94,a 95,a 96,a 97,a 98,a 99,a 100,a 101,a 102,a 103,a 104,a 105,a 106,a 107,a 108,a 109,a 110,a 111,a 112,a 113,a 114,a 115,a 116,a 117,a 118,a 119,a 120,a 121,a 122,a 123,a 124,a 125,a 126,a 127,a 128,a 129,a 130,a 131,a 132,a 133,a 134,a 135,a 136,a 137,a 138,a 139,a 140,a 141,a 142,a 143,a 144,a 145,a 146,a 147,a 148,a 149,a 150,a 151,a 152,a 153,a 154,a 155,a 156,a 157,a 158,a 159,a 160,a 161,a 162,a 163]
section
variable (E:og)(hE:pK E)
include hE
def XA(c:Option Addr)(f e:Nat)(b:Nat->f_)(d:b_):
 E.R0.wp prog (k' λg h=>∃(a:Nat->f_),g=hA a (.slice c f e) (a 3) (a 4) (a 5) (a 6) (a 7) (a 8) (a 9) (a 30) (a 40) (a 51) (a 75)/\h=d) ⟨hA b (.slice c f e) (b 3) (b 4) (b 5) (b 6) (b 7) (b 8) (b 9) (b 30) (b 40) (b 51)<|b 75,[]⟩ d:=by
 exact wY
def XB(d:Option Addr)(f e:Nat)(a:Nat->f_)(c:b_):
 E.R1.wp prog (k' λg h=>∃(b:Nat->f_),g=hA b (.slice d f e) (π c.heap.size) (b 4) (b 5) (b 6) (b 7) (b 8) (b 9) (b 30) (b 40) (b 51) (b 75)/\h=c.alloc (.cells #[σ,σ,σ,σ,.bool false,σ,σ,σ,σ,σ,σ,σ,σ] 33)) ⟨hA a (.slice d f e) (a 3) (a 4) (a 5) (a 6) (a 7) (a 8) (a 9) (a 30) (a 40) (a 51)<|a 75,[]⟩ c:=by
 exact wY
def XC(g:Option Addr)(i h e:Nat)(j:Nat->b_->Prop)(b:Nat->f_)(t:b_)(n:Calls prog 8 #[] t λc o=>∃v,c=.returned v/\Calls prog 7 #[v,ν 0,π e] o λc u=>∃d,c=.returned (.tuple #[π d,.bool true])/\j d u):
 E.R2.wp prog (k' λk l=>∃(d:Nat) (a:Nat->f_),k=hA a (.slice g i h) (π e) (π d) (.bool true) (a 6) (a 7) (a 8) (a 9) (a 30) (a 40) (a 51) (a 75)/\j d l) ⟨hA b (.slice g i h) (π e) (b 4) (b 5) (b 6) (b 7) (b 8) (b 9) (b 30) (b 40) (b 51)<|b 75,[]⟩ t:=by
 obtain rfl:=og.inj hE ud.2;dsimp only[ud];have q:=h_ n;clear n
 go_wp2_with fail
 refine q.o.mono ?_;rintro c o ⟨x,rfl,m⟩;have r:=h_ m;clear m q
 go_wp2_with fail
 refine r.o.mono ?_;rintro c u ⟨f,rfl,s⟩;have w:=h_ s;clear s r;go_wp2;exact(λp=>⟨p.1,f,p.2⟩:k' (λk l=>∃a:Nat->f_,k=hA a (.slice g i h) (π e) (π f) (.bool true) (a 6) (a 7) (a 8) (a 9) (a 30) (a 40) (a 51) (a 75)/\j f l) .normal _ _->_) (AV rfl w.o)
def XD(c:Option Addr)(g f e h:Nat)(b:Nat->f_)(d:b_):
 E.R3.wp prog (k' λi j=>∃(a:Nat->f_),i=hA a (.slice c g f) (π e) (π h) (a 5) (a 6) (a 7) (a 8) (a 9) (.bool false) (a 40) (a 51) (a 75)/\j=d) ⟨hA b (.slice c g f) (π e) (π h) (.bool true) (b 6) (b 7) (b 8) (b 9) (b 30) (b 40) (b 51)<|b 75,[]⟩ d:=by
 exact wY
def XE(d:Option Addr)(g f e h:Nat)(a:Nat->f_)(c:b_):
 E.R5.wp prog (k' λj k=>∃(b:Nat->f_),j=hA b (.slice d g f) (π e) (π h) (b 5) (.slice (some (μ c.heap.size 0)) 5 5) (b 7) (b 8) (b 9) (b 30) (b 40) (b 51) (b 75)/\k=c.alloc (.cells (((List.range 5).flatMap λi=>(k9<|Eo i).toList).toArray) 42)) ⟨hA a (.slice d g f) (π e) (π h) (a 5) (a 6) (a 7) (a 8) (a 9) (a 30) (a 40) (a 51)<|a 75,[]⟩ c:=by
 exact wY
def XF(c:Option Addr)(h g f i e:Nat)(a:Nat->f_)(d:b_):
 E.R6.wp prog (k' λj k=>∃(b:Nat->f_),j=hA b (.slice c h g) (π f) (π i) (b 5) (.slice (some (μ e 0)) 5 5) (ν ((0:Nat):Int)) (b 8) (b 9) (b 30) (b 40) (b 51) (b 75)/\k=d) ⟨hA a (.slice c h g) (π f) (π i) (a 5) (.slice (some (μ e 0)) 5 5) (a 7) (a 8) (a 9) (a 30) (a 40) (a 51)<|a 75,[]⟩ d:=by
 exact wY
def Wj(d:Option Addr)(i h g j f c:Nat)(a:Nat->f_)(e:b_):
 E.R7.wp prog (k' λm n=>∃(b:Nat->f_),m=hA b (.slice d i h) (π g) (π j) (b 5) (.slice (some (μ f 0)) 5 5) (ν c) (b 8) (b 9) (b 30) (.bool<|decide (c<5)) (b 51) (b 75)/\n=e) ⟨hA a (.slice d i h) (π g) (π j) (a 5) (.slice (some (μ f 0)) 5 5) (ν c) (a 8) (a 9) (a 30) (a 40) (a 51)<|a 75,[]⟩ e:=by
 obtain rfl:=og.inj hE ud.2;dsimp only[ud];have k:decide ((c:Int)<5)=decide (c<5):=aba.2 ⟨λl=>by omega,λl=>by omega⟩;go_wp2
 first
  |exact AV rfl rfl
  |(refine AV ?_ rfl;simp only[<-k];rfl)
def Wk(c:Option Addr)(i h f j e g:Nat)(b:Nat->f_)(d:b_):
 E.UL.wp prog (k' λk l=>∃(a:Nat->f_),k=hA a (.slice c i h) (π f) (π j) (a 5) (.slice (some (μ e 0)) 5 5) (ν g) (a 8) (a 9) (a 30) (a 40) (.bool false) (a 75)/\l=d) ⟨hA b (.slice c i h) (π f) (π j) (.bool true) (.slice (some (μ e 0)) 5 5) (ν g) (b 8) (b 9) (b 30) (b 40) (b 51)<|b 75,[]⟩ d:=by
 exact wY
def XG(d:Option Addr)(i h g j f c:Nat)(b:Nat->f_)(e:b_)(m:c<1000000):
 E.R8.wp prog (k' λk l=>∃(a:Nat->f_),k=hA a (.slice d i h) (π g) (π j) (a 5) (.slice (some (μ f 0)) 5 5) (ν ((c+1:Nat):Int)) (a 8) (a 9) (a 30) (a 40) (a 51) (a 75)/\l=e) ⟨hA b (.slice d i h) (π g) (π j) (b 5) (.slice (some (μ f 0)) 5 5) (ν c) (b 8) (b 9) (b 30) (b 40) (b 51)<|b 75,[]⟩ e:=by
 obtain rfl:=og.inj hE ud.2;dsimp only[ud];have n:IntKind.i64.wrap ((c:Int)+1)=((c+1:Nat):Int):=wo;go_wp2
 first
  |exact AV rfl rfl
  |(refine AV ?_ rfl;congr 1)
def Wl(e:Option Addr)(g f h d i G:Nat)(a:Nat->f_)(c:b_)(l:c.cell? (μ d 1)=some (π i))(m:c.cell? (μ i 11)=some (.slice (some (μ G 0)) 10 10))(o:c.cell? (μ G 2)=some (ν 9))(n:c.cell? (μ G 7)=some (ν 0)):
 E.UM.wp prog (k' λj k=>∃(b:Nat->f_),j=hA b (.slice e g f) (π h) (π d) (b 5) (b 6) (b 7) (b 8) (b 9) (b 30) (b 40) (b 51) (.bool false)/\k=c) ⟨hA a (.slice e g f) (π h) (π d) (a 5) (a 6) (a 7) (a 8) (a 9) (a 30) (a 40) (a 51)<|a 75,[]⟩ c:=by
 exact wY
def Wm(d:Option Addr)(g f e h:Nat)(b:Nat->f_)(c:b_):
 E.UN.wp prog (k' λi j=>∃(a:Nat->f_),i=hA a (.slice d g f) (π e) (a 4) (a 5) (a 6) (a 7) (.slice (some (μ c.heap.size 0)) 1 1) (a 9) (a 30) (a 40) (a 51) (a 75)/\j=c.alloc (.cells #[π h] 34)) ⟨hA b (.slice d g f) (π e) (π h) (b 5) (b 6) (b 7) (b 8) (b 9) (b 30) (b 40) (b 51)<|b 75,[]⟩ c:=by
 exact wY
def Wn(c:Option Addr)(h g f:Nat)(e:f_)(a:Nat->f_)(d:b_):
 E.UO.wp prog (k' λi j=>∃(b:Nat->f_),i=hA b (.slice c h g) (π f) (b 4) (b 5) (b 6) (b 7) e (ν ((0:Nat):Int)) (b 30) (b 40) (b 51) (b 75)/\j=d) ⟨hA a (.slice c h g) (π f) (a 4) (a 5) (a 6) (a 7) e (a 9) (a 30) (a 40) (a 51)<|a 75,[]⟩ d:=by
 exact wY
end
def Wo:Array Oper:=#[{dst:=some 43,op:=.move<|.tmp 4,type:=34,pos:= "device.go:319",after:=#[],guard:=none},{dst:=some 44,op:=.move<|.tmp 6,type:=22,pos:= "device.go:319",after:=#[],guard:=none},{dst:=some 45,op:=.move<|.tmp 7,type:=3,pos:= "device.go:319",after:=#[],guard:=none},{dst:=some 46,op:=.indexAddr 22 (.tmp 44)<|.tmp 45,type:=0,pos:= "device.go:319",after:=#[{on:=1,ground:=.data},{on:=2,ground:=.data}],guard:=none},{dst:=some 47,op:=.load 42<|.tmp 46,type:=42,pos:= "device.go:319",after:=#[{on:=3,ground:=.data}],guard:=none},{dst:=some 48,op:=.move<|.tmp 3,type:=23,pos:= "device.go:319",after:=#[],guard:=none},{dst:=some 49,op:=.call {callee:=.value<|.func 9,args:=#[.tmp 43,.tmp 47,.tmp 48],argTypes:=#[34,42,23]},type:=4,pos:= "device.go:319",after:=#[{on:=0,ground:=.data},{on:=4,ground:=.data},{on:=5,ground:=.data}],guard:=none},{dst:=some 5,op:=.assign<|.tmp 49,type:=4,pos:= "device.go:319",after:=#[{on:=6,ground:=.data},{on:=6,ground:=.chain},{on:=0,ground:=.phase},{on:=1,ground:=.phase},{on:=2,ground:=.phase},{on:=3,ground:=.phase},{on:=4,ground:=.phase},{on:=5,ground:=.phase},{on:=6,ground:=.phase}],guard:=none}]
section
variable {Q:Array c_->b_->Trace->Prop}
def Nw(b:Act)(f:b_->Prop)(a:Cl f)(h:f_->b_->Prop)(u:∀d,Cl<|h d)(j:List Item)(i:List Frame)(hb c g kb:Nat)(e:nE)(m:b.tmps.size=164)(r:b.eval (.tmp 4)=π g)(q:b.eval (.tmp 6)=ω hb 5 5)(t:b.eval (.tmp 7)=ν c)(v:b.eval (.tmp 3)=π kb)(x:(c:Int)<5)
 (o:∀l,f l->l.rangeAt hb (c*20) (k9 e).toList) (hE:ub prog Q 9 #[π g,.agg<|k9 e,π kb] f h)
 (p:∀d,kI prog (G ((base 3).at ((((((((b.put (some 43)<|π g).put (some 44)<|ω hb 5 5).put (some 45)<|ν c).put (some 46)<|.pointer<|some (μ hb<|c*20)).put (some 47)<|.agg<|k9 e).put (some 48)<|π kb).put (some 49) d).put (some 5) d) j) i) (h d) Q):
 kI prog (G ((base 3).at b (.code (.region 9 Wo false)::j)) i) f Q:=by
 apply Tr.region a;let⟨w,hk,s⟩:=Kn.fn m;rw[s]at r q t v;refine pG 43 (π g) a hk λhk=>?_;refine pG 44 (ω hb 5 5) a hk λhk=>?_;refine pG 45 (ν c) a hk λhk=>?_;refine pG 46 (.pointer<|some (μ hb<|c*20)) a hk λhk=>?_;refine MU 47 a hk o (y' e) λhk=>?_;refine pG 48 (π kb) a hk λhk=>?_;exact TZ 49 5 a u hk hE p
def r9(E:og)(hE:pK E):E.R9=.region 9 Wo false:=by exact GG
def P9:∃E:og,pK E/\okCode fV 3 E.R0=true/\okCode fV 3 E.R1=true/\okCode fV 3 E.R2=true/\okCode fV 3 E.R3=true/\okCode fV 3 E.R5=true/\okCode fV 3 E.R6=true/\okCode fV 3 E.R7=true/\okCode fV 3 E.R8=true/\okCode fV 3 E.UL=true:=⟨⟨_,_,_,_,_,_,_,_,_,_,_,_,_,_,_,_,_,_,_,_,_,_,_,_,_,_,_,_,_,_,_,_,_,_,_,_,_,_,_⟩,rfl,kr,kr,kr,kr,kr,kr,kr,kr,kr⟩
section
variable {E:og}(hE:pK E)
include hE
def P_:okCode fV 3 E.R0=true/\okCode fV 3 E.R1=true/\okCode fV 3 E.R2=true/\okCode fV 3 E.R3=true/\okCode fV 3 E.R5=true/\okCode fV 3 E.R6=true/\okCode fV 3 E.R7=true/\okCode fV 3 E.R8=true/\okCode fV 3 E.UL=true:=by let⟨b,a,ok⟩:=P9;rw[og.inj hE a];exact ok
def Wp:okCode fV 3 E.R0=true:=(P_ hE).1
def Wq:okCode fV 3 E.R1=true:=(P_ hE).2.1
def Wr:okCode fV 3 E.R2=true:=(P_ hE).2.2.1
def Ws:okCode fV 3 E.R3=true:=(P_ hE).2.2.2.1
def Wt:okCode fV 3 E.R5=true:=(P_ hE).2.2.2.2.1
def Wu:okCode fV 3 E.R6=true:=(P_ hE).2.2.2.2.2.1
def SE:okCode fV 3 E.R7=true:=(P_ hE).2.2.2.2.2.2.1
def Wv:okCode fV 3 E.R8=true:=(P_ hE).2.2.2.2.2.2.2.1
def UC:okCode fV 3 E.UL=true:=(P_ hE).2.2.2.2.2.2.2.2
end
def og.X7(E:og):Code:=.seq (.seq E.R7<|.cond (.tmp 40) .skip<|.exit 0) (.seq (.block 1<|.seq E.R9<|.seq E.UL<|.cond (.tmp 51) (.seq E.X3 .ret) .skip) E.R8)
def og.X8(E:og):Code:=.seq (.seq E.UM<|.cond (.tmp 75) (.seq E.X4 .ret) .skip) (.seq E.UN<|.seq (.seq E.UO<|.block 2<|.loop E.LB) E.rest)
section
variable {E:og}(hE:pK E){W0:b_}{B kb g hb:Nat}{a0:Option Addr}{n k:Nat}{A0:Nat->nE}
include hE
def Yi{b d f:Nat}(j:b<5)(w:d<=1000)(u:f<=1000)(c:Nat->f_)(h:List Item)
 (q:∀a:Nat->f_,kI prog (G ((base 3).at ⟨hA a (.slice a0 n k) (π kb) (π g) (.bool true) (ω hb 5 5) (ν b) (a 8) (a 9) (a 30) (a 40) (a 51)<|a 75,[]⟩ h) []) (v_ W0 B kb (d+11) (f+12) g hb<|b+1) Q):
 kI prog (G ((base 3).at ⟨hA c (.slice a0 n k) (π kb) (π g) (c 5) (ω hb 5 5) (ν b) (c 8) (c 9) (c 30) (c 40) (c 51)<|c 75,[]⟩ (.code E.R9::h)) []) (v_ W0 B kb d f g hb b) Q:=by
 rw[r9 E hE];have t:=h_ q;refine Nw _ _ v_.cl (λi z=>i=.bool true/\v_ W0 B kb (d+11) (f+12) g hb (b+1) z) (λi e y v l=>⟨l.1,v_.cl e y v l.2⟩) h [] hb b g kb (Eo b) si qU qU qU qU om (λe r=>r.cell j) (UB j w u) (λi=>?_);intro s e o x m;obtain⟨rfl,p⟩:=x;simp only[Act.put,aaj,aa0,aar]at m;exact(Tr.shape (mkT:=λa=>hA a (.slice a0 n k) (π kb) (π g) (.bool true) (ω hb 5 5) (ν b) (a 8) (a 9) (a 30) (a 40) (a 51)<|a 75) rfl t) s e o p m
def Ww(E:og)(a0:Option Addr)(n k kb g hb:Nat)(rest:Code)(b:Nat)(c:c_):Prop:=∃a:Nat->f_,c=G ((base 3).at ⟨hA a (.slice a0 n k) (π kb) (π g) (a 5) (ω hb 5 5) (ν b) (a 8) (a 9) (a 30) (a 40) (a 51)<|a 75,[]⟩ [.code E.X7,.inLoop E.X7,.inBlock 0,.code rest]) []
def Ep{rest:Code}(h:∀s:Nat->f_,kI prog (G ((base 3).at ⟨hA s (.slice a0 n k) (π kb) (π g) (s 5) (s 6) (s 7) (s 8) (s 9) (s 30) (s 40) (s 51)<|s 75,[]⟩ [.code rest]) []) (v_ W0 B kb 60 60 g hb 5) Q):∀(q j:Nat),j+q=5->∀e,Ww E a0 n k kb g hb rest j e->kI prog e (v_ W0 B kb (5+11*j) (12*j) g hb j) Q
 |0,j,i,e,f=>by obtain rfl:j=5:=om;obtain⟨s,rfl⟩:=f;have aj:=v_.cl (W0:=W0) (B:=B) (kb:=kb) (m:=60) (bdn:=60) (g:=g) (hb:=hb) (j:=5);refine Tr.seq aj ?_;refine Tr.seq aj ?_;refine Tr.zc (SE hE) aj aj (mk:=λa=>hA a (.slice a0 n k) (π kb) (π g) (a 5) (ω hb 5 5) (ν ((5:Nat):Int)) (a 8) (a 9) (a 30) (.bool<|decide (5<5)) (a 51)<|a 75) (λd c=>kK c<|Wj E hE a0 n k kb g hb 5 s d) λs=>?_;refine Tr.cond aj (t:=decide (5<5)) rf ?_;refine Km ?_;exact Tr.shape (mkT:=λs=>hA s (.slice a0 n k) (π kb) (π g) (s 5) (s 6) (s 7) (s 8) (s 9) (s 30) (s 40) (s 51)<|s 75) rfl (λs=>h s)
 |q+1,j,i,e,f=>by obtain⟨s,rfl⟩:=f;have hj:j<5:=om;have l:=Ep h q (j+1) om;have aj:=v_.cl (W0:=W0) (B:=B) (kb:=kb) (m:=5+11*j) (bdn:=12*j) (g:=g) (hb:=hb) (j:=j);refine Tr.seq aj ?_;refine Tr.seq aj ?_;refine Tr.zc (SE hE) aj aj (mk:=λa=>hA a (.slice a0 n k) (π kb) (π g) (a 5) (ω hb 5 5) (ν j) (a 8) (a 9) (a 30) (.bool<|decide (j<5)) (a 51)<|a 75) (λd c=>kK c<|Wj E hE a0 n k kb g hb j s d) λs=>?_;refine Tr.cond aj (t:=decide (j<5)) rf ?_;refine Kc ?_;refine Q7 ?_;intro s;refine Yi hE hj om om s _ (λs=>?_);have b:=v_.cl (W0:=W0) (B:=B) (kb:=kb) (m:=5+11*j+11) (bdn:=12*j+12) (g:=g) (hb:=hb) (j:=j+1);refine Tr.seq b ?_;refine Tr.zc (UC hE) b b (mk:=λa=>hA a (.slice a0 n k) (π kb) (π g) (a 5) (ω hb 5 5) (ν j) (a 8) (a 9) (a 30) (a 40) (.bool false)<|a 75) (λd c=>kK c<|Wk E hE a0 n k kb g hb j s d) λs=>?_;refine Tr.cond b (t:=false) rf ?_;simp only[YY,Y5];refine Tr.skip b ?_;refine Tr.inBlock b ?_;refine Q7 ?_;intro s;refine Tr.zc (Wv hE) b b (mk:=λa=>hA a (.slice a0 n k) (π kb) (π g) (a 5) (ω hb 5 5) (ν ((j+1:Nat):Int)) (a 8) (a 9) (a 30) (a 40) (a 51)<|a 75) (λd c=>kK c<|XG E hE a0 n k kb g hb j s d om) λs=>?_;refine Tr.inLoop b ?_;have:=l _ ⟨s,rfl⟩;rw[show 5+11*(j+1)=5+11*j+11 by omega,show 12*(j+1)=12*j+12 by omega]at this;exact this
def UD(r:Nr W0 B a0 n A0)(s:Nat->f_):kI prog (G ((base 3).at ⟨hA s (.slice a0 n k) (π kb) (π g) (s 5) (s 6) (s 7) (s 8) (s 9) (s 30) (s 40) (s 51)<|s 75,[]⟩ [.code E.X8]) []) (v_ W0 B kb 60 60 g hb 5) (Hs W0 B):=by
 have c:=v_.cl (W0:=W0) (B:=B) (kb:=kb) (m:=60) (bdn:=60) (g:=g) (hb:=hb) (j:=5);have N:=r.hn;refine Tr.seq c ?_;refine Tr.seq c ?_;refine Tr.zc (Ux hE) c c (mk:=λa=>hA a (.slice a0 n k) (π kb) (π g) (a 5) (a 6) (a 7) (a 8) (a 9) (a 30) (a 40) (a 51)<|.bool false) (λb e=>kK e ?_) λs=>?_
 .obtain⟨⟨L,h,o,w,F,x,K⟩,_⟩:=e;have l:=o.n_ 0 h rfl;have C:h.q.p.rd.sz 2=10:=by rw[l.cr.sz];exact F.s2
  have D:b.cell? (μ g 1)=some (π h.q.p.r):=by rw[<-w,Yu _ _ _ _ _ _ l.rg.n_];rfl
  have A:b.cell? (μ h.q.p.r 11)=some (ω (h.q.p.G 2) 10 10):=by rw[Yu _ _ _ _ _ _ l.rf.dev,<-C];rfl
  have y:=(l.rf.kA 2 om).cell (i:=2) (j:=0) om om;have u:=(l.rf.kA 2 om).cell (i:=7) (j:=0) om om;rw[x.2.1 om]at y;rw[x.2.2.2 om]at u;exact Wl E hE a0 n k kb g _ _ s b D A y u
 .refine Tr.cond c (t:=false) rf ?_;simp only[YY,Y5];refine Tr.skip c ?_;refine Tr.seq c ?_;refine Rb ?_;intro s;refine Tr.pc (Uy hE) c (J:=λf=>Lw W0 B kb 60 [g] (ω f 1 1) 60) (λ_=>Lw.cl) (mk:=λf a=>hA a (.slice a0 n k) (π kb) (a 4) (a 5) (a 6) (a 7) (ω f 1 1) (a 9) (a 30) (a 40) (a 51)<|a 75) (λb e=>aaA (λ_ _ _ q=>mI (λ_ _ ⟨a,z,M⟩=>⟨b.heap.size,a,z,by rw[M];exact e.Xz (jT br _) (YO b _) kM⟩) q)<|Wm E hE a0 n k kb g s b) λf s=>?_;have d:=Lw.cl (W0:=W0) (B:=B) (kb:=kb) (m:=60) (gs:=[g]) (rv:=ω f 1 1) (bdn:=60);refine Tr.seq d ?_;refine Tr.seq d ?_;refine Tr.zc (Uz hE) d d (mk:=λa=>hA a (.slice a0 n k) (π kb) (a 4) (a 5) (a 6) (a 7) (ω f 1 1) (ν ((0:Nat):Int)) (a 30) (a 40) (a 51)<|a 75) (λb e=>kK e<|Wn E hE a0 n k kb _ s b) λs=>?_;refine Tr.block d ?_;refine Tr.loop d ?_;exact Hr hE r 60 60 om om (λI v s o w=>P5 hE _ _ v o om (li<|r.sum n kM) s) n 0 om [g] _ _ si si ⟨s,rfl⟩
def UE(r:Nr W0 B a0 n A0)(s:Nat->f_):kI prog (G ((base 3).at ⟨hA s (.slice a0 n k) (s 3) (s 4) (s 5) (s 6) (s 7) (s 8) (s 9) (s 30) (s 40) (s 51)<|s 75,[]⟩ [.code E.body]) []) (Heap W0) (Hs W0 B):=by
 have A:=r.hB;have h:=Hn W0;refine Tr.seq h ?_;refine Tr.zc (Wp hE) h h (mk:=λa=>hA a (.slice a0 n k) (a 3) (a 4) (a 5) (a 6) (a 7) (a 8) (a 9) (a 30) (a 40) (a 51)<|a 75) (λb c=>kK c<|XA E hE a0 n k s b) λs=>?_;refine Tr.seq h ?_;have u:∀kb,Cl λb=>qV b B kb 0 Jj (λ_=>False) [] 0/\JH W0 B b:=λkb b K D M=>⟨M.1.rt,M.2.rt⟩;refine Tr.pc (Wq hE) h u (mk:=λkb a=>hA a (.slice a0 n k) (π kb) (a 4) (a 5) (a 6) (a 7) (a 8) (a 9) (a 30) (a 40) (a 51)<|a 75) (λb c=>aaA (λ_ _ _ q=>mI (λ_ y z=>?_) q)<|XB E hE a0 n k s b) λkb s=>?_
 .obtain⟨a,j,M⟩:=z;refine⟨b.heap.size,a,j,?_⟩;have L:b.heap.size=B:=by rw[c.1,A]
  have i:=ba M;obtain⟨C,l,_⟩:=M0 (w:=y) (B:=B) (kb:=b.heap.size) (by rw[M];exact YO b _) om;refine⟨⟨⟨l.bk,l.hi,l.ty⟩,λx w f=>by simp at f,λx v w F f=>by simp at f,λx w f=>by simp at f,λg M=>M.elim,om⟩,?_,λg I=>?_,?_,?_⟩
  .have:=i.size;omega
  .rw[i.block g om,c.1]
  .rw[i.os,c.2.1]
  .rw[i.output,c.2.2]
 have o:=u kb;refine Tr.seq o ?_;refine Tr.pc (Wr hE) o (J:=λg=>Nv W0 B kb 5 (λ_=>False) 0 g 0) (λ_=>Nv.cl) (mk:=λg a=>hA a (.slice a0 n k) (π kb) (π g) (.bool true) (a 6) (a 7) (a 8) (a 9) (a 30) (a 40) (a 51)<|a 75) (λb c=>XC E hE a0 n k kb (λg=>Nv W0 B kb 5 (λ_=>False) 0 g 0) s b<|JQ c.1 c.2) λg s=>?_;have d:=Nv.cl (W0:=W0) (B:=B) (kb:=kb) (m:=5) (KP:=λ_=>False) (bdn:=0) (g:=g) (j:=0);refine Tr.seq d ?_;refine Tr.seq d ?_;refine Tr.zc (Ws hE) d d (mk:=λa=>hA a (.slice a0 n k) (π kb) (π g) (a 5) (a 6) (a 7) (a 8) (a 9) (.bool false) (a 40) (a 51)<|a 75) (λb c=>kK c<|XD E hE a0 n k kb g s b) λs=>?_;refine Tr.cond d (t:=false) rf ?_;simp only[YY,Y5];refine Tr.skip d ?_;refine Tr.seq d ?_;refine Rb ?_;intro s;refine Tr.pc (Wt hE) d (J:=λhb=>v_ W0 B kb 5 0 g hb 0) (λ_=>v_.cl) (mk:=λhb a=>hA a (.slice a0 n k) (π kb) (π g) (a 5) (ω hb 5 5) (a 7) (a 8) (a 9) (a 30) (a 40) (a 51)<|a 75) (λb c=>aaA (λ_ _ _ q=>mI (λ_ _ ⟨a,j,M⟩=>⟨b.heap.size,a,j,by rw[M];exact c.ops (jT br _) (YO b _) kM⟩) q)<|XE E hE a0 n k kb g s b) λhb s=>?_;have e:=v_.cl (W0:=W0) (B:=B) (kb:=kb) (m:=5) (bdn:=0) (g:=g) (hb:=hb) (j:=0);refine Tr.seq e ?_;refine Tr.seq e ?_;refine Tr.zc (Wu hE) e e (mk:=λa=>hA a (.slice a0 n k) (π kb) (π g) (a 5) (ω hb 5 5) (ν ((0:Nat):Int)) (a 8) (a 9) (a 30) (a 40) (a 51)<|a 75) (λb c=>kK c<|XF E hE a0 n k kb g hb s b) λs=>?_;refine Tr.block e ?_;refine Tr.loop e ?_;exact Ep hE (rest:=E.X8) (λs=>UD hE r s) 5 0 om _ ⟨s,rfl⟩
end
end
def JR:prog.cellsOf 42=20:=kr
def JS:prog.cellsOf 39=9:=kr
def JT:prog.cellsOf 37=4:=kr
def JU:prog.cellsOf 28=1:=kr
def sI:prog.cellsOf 3=1:=kr
def Ny:prog.cellsOf 9=1:=kr
section
variable {H:Type}{A0:d_×f_->H}
def lh(a:DataW H):1<=Rows.uptoBulk a:=by
 cases a with
 |lit b=>cases b<;>simp[Rows.uptoBulk]
 |_=>simp[Rows.uptoBulk]
def Nz(a:List<|DataW H):a.length<=Rows.uptoBulkAll a:=by
 induction a with
 |nil=>simp[Rows.uptoBulkAll]
 |cons b d c=>have:=lh b;simp only[Rows.uptoBulkAll,YA];omega
def Er(a b:List<|DataW H):Rows.uptoBulkAll (a++b)=Rows.uptoBulkAll a+Rows.uptoBulkAll b:=by
 induction a with
 |nil=>simp[Rows.uptoBulkAll]
 |cons e d c=>simp only[Y1,Rows.uptoBulkAll,c];omega
def Es(d:Nat->nE)(c:Nat->DataW H):∀a,(∀b,b<a->(d b).s.size+23<=Rows.uptoBulk (c b))->szU d a+23*a<=Rows.uptoBulkAll ((List.range a).map c)
 |0,_=>by simp[szU,Rows.uptoBulkAll]
 |a+1,e=>by have f:=Es d c a λb h=>e b om;have g:=e a om;rw[aax,ZI,Er];simp only[ZW,aas,Rows.uptoBulkAll,szU];omega
def Et(c:Nat->nE):∀a b,b<=a->szU c b<=szU c a
 |0,b,e=>by obtain rfl:b=0:=om;exact YC _
 |a+1,b,e=>by
  by_cases d:b=a+1
  .subst d;exact YC _
  .have:=Et c a b om;show _<=szU c a+(c a).s.size;omega
def Gq{e:b_}{i:Option Addr}{a g y:Nat}{p:DataW H}{s:List MemPlace}(r:DataW.trod A0 prog e 0 (λ_=>true) true y 28 [.slice i a g]=some (p,s)):
 ∃o:Nat->Int,qo e i a o/\Src e (.slice i a g) a (((List.range a).map o).flatMap ka)/\a<=Rows.uptoBulk p:=by
 rcases open_ints underlying28 underlying3 sI r with⟨d,l⟩|⟨m,B,F,c,d,J,E,I,x,l,h,q⟩
 .simp only[aaL,YN,ZV]at d;obtain⟨rfl,rfl,rfl⟩:=d;exact⟨λ_=>0,λb f=>absurd f (Zh _),.inl ⟨rfl,rfl,rfl⟩,YG _⟩
 .simp only[aaL,YN,ZV]at d;obtain⟨rfl,rfl,rfl⟩:=d;have D:c.length=g:=by simpa using x
  refine⟨λb=>c.getD b 0,λb f=>?_,.inr ⟨m,g,rfl,λb A f=>?_⟩,?_⟩
  .have j:b<c.length:=om;have k:=h b j;let⟨z,u,v⟩:=m;have t:v=none:=by have:=World.cell?_spot<|h 0 om;simpa[Addr.add]using this
   subst t;rw[Addr.add_lit]at k;have n:=abe (q (c.getD b 0) (by rw[Yt,Yw j];exact aan j));exact⟨z,u,rfl,World.block_lt_of_cell? e _ k,k,n.1,n.2⟩
  .obtain⟨w,rfl⟩:=Ff _ a b A f;exact h b om
  .simp only[abx]at l;rw[l.1];have w:=Nz (H:=H)<|lits .i64<|c.take a;have C:(lits (H:=H) .i64<|c.take a).length=a:=by simp[lits];omega
   simp only[Rows.uptoBulk];omega
def JV{m:b_}{U:Nat}{D t s B v w K n I:f_}{f:DataW H}{ae:List MemPlace}(V:DataW.trod A0 prog m 0 (λ_=>true) true U 39 [D,t,s,B,v,w,K,n,I]=some (f,ae)):
 ∃(l q i p j k o h:Int) (a:Option Addr) (b c:Nat) (e:Nat->Int),D=ν l/\t=ν q/\s=ν i/\B=ν p/\v=ν j/\w=ν k/\K=ν o/\n=.slice a b c/\I=ν h/\qo m a b e/\Src m (.slice a b c) b (((List.range b).map e).flatMap ka)/\b<=Rows.uptoBulk f/\11<=Rows.uptoBulk f:=by
 let⟨aa,b,_,J,ax,S,d⟩:=DataW.trod_struct underlying39 V
 match aa,S with
 |[am,ac,ai,Q,u,aj],_=>
  have t0:=d 0 _ rfl;have t1:=d 1 _ rfl;have t2:=d 2 _ rfl;have t3:=d 3 _ rfl;have t4:=d 4 _ rfl;have t5:=d 5 _ rfl;simp[JT,sI,JU]at t0 t1 t2 t3 t4 t5;let⟨N,af,R,P,aB,ag,M,ad,O,Y⟩:=trod_array4 underlying37 sI t0;let⟨l,F,_,_⟩:=Zs underlying3 M;let⟨q,E,_,_⟩:=Zs underlying3 ad;let⟨i,A,_,_⟩:=Zs underlying3 O;let⟨p,L,_,_⟩:=Zs underlying3 Y;let⟨j,z,_,_⟩:=Zs underlying3 t1;let⟨k,C,_,_⟩:=Zs underlying3 t2;let⟨o,y,_,_⟩:=Zs underlying3 t3;let⟨h,x,_,_⟩:=Zs underlying3 t5
  have W:∃a r c,n=.slice a r c:=by
   rcases open_ints underlying28 underlying3 sI t4 with⟨g,_⟩|⟨Z,ah,T,aq,g,_⟩
   .exact⟨none,0,0,by simpa using g⟩
   .exact⟨some Z,ah,T,by simpa using g⟩
  obtain⟨a,r,c,rfl⟩:=W;let⟨e,ab,ak,aw⟩:=Gq t4;simp only[aaL,ZV]at F E A L z C y x;have aA:Rows.uptoBulk u.1+10<=Rows.uptoBulk f:=by simp only[abx]at J;rw[J.1];have b0:=ZD (λX=>Rows.uptoBulk X.1) ag;have au:=lh N.1;have ao:=lh af.1;have az:=lh R.1;have av:=lh P.1;have ar:=lh ac.1;have an:=lh ai.1;have al:=lh Q.1;have ap:=lh aj.1;simp only[ZW,aas,Rows.uptoBulk,Rows.uptoBulkAll]at b0⊢;omega
  have ay:=lh u.1;exact⟨l,q,i,p,j,k,o,h,a,r,c,e,F,E,A,L,z,C,y,rfl,x,ab,ak,om,om⟩
def NA{p:b_}{N:Nat}{e:List f_}{d:DataW H}{av:List MemPlace}(y:e.length=20)(aq:DataW.trod A0 prog p 0 (λ_=>true) true N 42 e=some (d,av))(I:Rows.uptoBulk d<=1048576):
 ∃b:nE,e=(k9 b).toList/\(yu b/\mq b.on/\mq b.a)/\b.s.size+23<=Rows.uptoBulk d/\∃i k g r f l q o j n m h,Ho p p.heap.size b i k g r f l q o j n m h:=by
 match e,y with
 |[aO,aI,aT,a0,aV,aW,aE,ay,ax,X,aa,ap,S,ad,aD,a6,aL,a1,aG,aK],_=>
  let⟨Q,aS,_,F,y,L,a⟩:=DataW.trod_struct underlying42 aq
  match Q,L with
  |[ah,U,aC,al,ai,a7,Z,ag,am,W,R,O],_=>
   have t0:=a 0 _ rfl;have t1:=a 1 _ rfl;have t2:=a 2 _ rfl;have t3:=a 3 _ rfl;have t4:=a 4 _ rfl;have t5:=a 5 _ rfl;have t6:=a 6 _ rfl;have t7:=a 7 _ rfl;have t8:=a 8 _ rfl;have t9:=a 9 _ rfl;have t10:=a 10 _ rfl;have t11:=a 11 _ rfl;simp[sI,Ny,JS]at t0 t1 t2 t3 t4 t5 t6 t7 t8 t9 t10 t11;let⟨ak,x,_,_⟩:=Zs underlying3 t0;let⟨V,E,_,aj⟩:=Zs underlying3 t1;let⟨ar,A,_,ao⟩:=Zs underlying3 t2;let⟨P,J,_,_⟩:=Zs underlying3 t3;let⟨M,z,_,_⟩:=Zs underlying3 t4;let⟨c,w,aA,_⟩:=DataW.trod_string underlying9 t5;let⟨aB,u,_,ab⟩:=Zs underlying3 t7;let⟨z8,s,_,ae⟩:=Zs underlying3 t8;let⟨K,t,_,T⟩:=Zs underlying3 t9;let⟨an,B,_,aw⟩:=Zs underlying3 t10;let⟨au,v,_,az⟩:=Zs underlying3 t11;let⟨i,k,g,r,f,l,q,o,j,n,m,h,f0,f1,f2,f3,f4,f5,f6,f7,f8,D,aF,aP,aJ⟩:=JV t6;simp only[aaL,ZV]at x E A J z w u s t B v;subst x E A J z w u s t B v
   have aH:c.size+12+Rows.uptoBulk Z.1<=Rows.uptoBulk d:=by
    simp only[abx]at F;rw[F.1,aA];have af:c.data.toList.length=c.size:=by rw[Y0];rfl
    have aN:=lh ah.1;have aX:=lh U.1;have aR:=lh aC.1;have a4:=lh al.1;have aQ:=lh ai.1;have aU:=lh ag.1;have aY:=lh am.1;have a5:=lh W.1;have a3:=lh R.1;have aZ:=lh O.1;simp only[ZW,aas,Rows.uptoBulk,Rows.uptoBulkAll,af];omega
   exact⟨⟨ak,V,ar,P,M,aB,z8,K,an,au,c,aE,ay,ax,X,aa,ap,S,ad,aD⟩,rfl,⟨⟨abe ab,abe ae,abe T,abe aw,abe az⟩,abe aj,abe ao⟩,by show c.size+23<=_;omega,i,k,g,r,f,l,q,o,j,n,m,h,f0,f1,f2,f3,f4,f5,f6,f7,f8,D,aF,om,λa2 ac Y=>by
    let⟨aM,b,C,I,_⟩:=D 0 Y;rw[ac]at C;cases C
    exact I⟩
def NB{f:b_}{b0:Nat}{p:f_}{E:DataW H}{l:List MemPlace}(R:Value.okWide prog f .any b0 22 p)(W:DataW.Trod A0 prog f 0 (λ_=>true) true 22 p E l)(o:Rows.uptoBulk E<=1048576):
 ∃q b B g,p=.slice q b B/\Nr f f.heap.size q b g:=by
 obtain⟨q,b,B,rfl⟩:=okWide_slice underlying22 R;obtain⟨al,P⟩:=W;have y:nE:=⟨0,0,0,0,0,0,0,0,0,0,⟨#[]⟩,undef,undef,undef,undef,undef,undef,undef,undef,undef⟩
 letI:Inhabited nE:=⟨y⟩
 rcases open_slice underlying22 P with⟨m,w⟩|⟨t,ao,ah,aj,ag,e,Pl,m,_,an,ak,x,w,C⟩
 .simp[Value.cells]at m;obtain⟨rfl,rfl,rfl⟩:=m;exact⟨none,0,0,λ_=>y,rfl,rfl,dc,λd c=>absurd c (Zh _),λd c=>absurd c (Zh _),λd c=>absurd c (Zh _),λd c=>by have n:d=0:=Nat.le_zero.1 c;subst n;exact YG _⟩
 .simp[Value.cells]at m;obtain⟨rfl,rfl,rfl⟩:=m;simp only[Y_]at x;subst x;simp only[abx]at w;have z:=w.1;rw[JR]at C
  have V:∀a,a<b->Rows.uptoBulk (e a)<=1048576:=λa i=>by
   have j:Rows.uptoBulkAll ((List.range b).map e)<=1048576:=by rw[z]at o;simp only[Rows.uptoBulk]at o;omega
   have u:(List.range b).map e=(List.range a).map e++(e a::((List.range b).map e).drop (a+1)):=by
    have F:=List.take_append_drop a<|(List.range b).map e;have N:((List.range b).map e).drop a=e a::((List.range b).map e).drop (a+1):=by rw[abp<|by simpa using i];simp
    have af:((List.range b).map e).take a=(List.range a).map e:=by rw[<-List.map_take,List.take_range,Z8<|aaV i]
    rw[N,af]at F;exact F.symm
   rw[u,Er]at j;simp only[Rows.uptoBulkAll]at j;omega
  obtain⟨g,k⟩:=choose_lt (α:=nE) (n:=b) (p:=λa h=>f.cells? 0 (t.add<|a*20) 20=some (k9 h).toList/\(yu h/\mq h.on/\mq h.a)/\h.s.size+23<=Rows.uptoBulk (e a)/\∃X ae O ad M L ac Z Y U T Q,Ho f f.heap.size h X ae O ad M L ac Z Y U T Q) (λa i=>by
   obtain⟨am,j,u⟩:=C a om;obtain⟨_,K,_⟩:=ab3 j;obtain⟨h,rfl,J⟩:=NA K u (V a i)
   exact⟨h,j,J⟩)
  have ai:=Es g e b λa i=>(k a i).2.2.1;have ap:szU g b+23*b+1<=1048576:=by rw[z]at o;simp only[Rows.uptoBulk]at o;omega
  refine⟨some t,b,_,g,rfl,rfl,om,λd c=>?_,λd c=>(k d c).2.1,λd c=>(k d c).2.2.2,λd c=>by have:=Et g b d c;omega⟩;obtain⟨_,_,A⟩:=ab3 (k d c).1;obtain⟨s,v,r⟩:=t;have n:f.cell? (((⟨s,v,r⟩:Addr).add<|d*20).add 0)=some (ν (g d).kind):=A 0 om;have ab:r=none:=by obtain⟨_,_,aa⟩:=ab3 (k 0 om).1;have S:f.cell? (((⟨s,v,r⟩:Addr).add<|0*20).add 0)=some (ν (g 0).kind):=aa 0 om;have:=World.cell?_spot S;simpa[Addr.add]using this
  subst ab;refine⟨s,v,rfl,?_,λl p D=>?_⟩
  .rw[add_add,Addr.add_lit]at n;exact World.block_lt_of_cell? f _ n
  .have I:l<20:=(Yr.1 D).1;have:=A l I;rw[add_add,Addr.add_lit,D,<-aaC]at this;exact this
end
