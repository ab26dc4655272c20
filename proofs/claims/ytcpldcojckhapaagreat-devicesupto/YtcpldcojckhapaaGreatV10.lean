import Derived.Test.YtcpldcojckhapaaGreatV9
set_option maxRecDepth 100000
set_option maxHeartbeats 16000000
set_option linter.all false
noncomputable section
namespace Go.Proofs.YtcpldcojckhapaaGreat
open Go.Proofs.Tryz Go.RowKit
section
variable {O:Nat->Bool}
def wn(d b c e:Nat)(a:b_)(i:a.cell? (μ d b)=some (ν c)):Calls prog 78 #[.pointer<|some (μ d b),ν e] a λg j=>g=.returned (.bool<|decide (c=1)&&decide (e=0))/\j=a:=by
 by_cases f:c=1
 .by_cases h:e=0
  .subst f h;exact CU d b a i
  .subst f;refine(CV d b e a i om).mono ?_;rintro g j ⟨rfl,rfl⟩;exact⟨by simp[h],rfl⟩
 .have k:((c:Int)==1)=false:=nU
  go_enter func78,ntmps78
  go_wp2;go_ret;exact⟨by simp[f],rfl⟩
def vo(a:j4)(c:Bool)(b:Sv):j4×List Ac:=if c=true then(if a.uns=0 then(a,[kS b])else({a with wait:=a.wait++[b]},[]))else(a,[])
def p_(a:j4×List Ac):j4×List Ac:=if a.1.batch<=a.1.wait.length\/a.1.batch<=a.1.uns then((j' a.1).1,a.2++(j' a.1).2)else a
structure UI(O:Nat->Bool)(w wx:b_)(d L S:Nat)(E:Nat->Nat)(wv:f_)(D:j4)(B m u:Nat)(s:a_):Prop where
 dv:j1 O wx d L S E wv D
 ft:lC B (lS O d L S E) w wx
 bx:wx.heap[w.heap.size]?=some (.cells #[ν m,ν u,.string s] 94)
def UI.drewN{g n:b_}{c m d j i h:Nat}{e:Nat->Nat}{k:f_}{f:j4}{l:a_}(a:UI O g n c m d e k f j i h l)(b:Nat):UI O g (n.drewN b) c m d e k f j i h l:=⟨a.dv.drewN b,a.ft.drewN b,a.bx⟩
def Lv(N L S b n c:Nat)(E:Nat->Nat)(bt:f_)(D:j4)(i u r:a_)(ah v:Bool)(aw:Nat->Nat->Int)(w:b_)(M:j1 O w N L S E bt D)(cx:b<D.nl)(cW:D.arr<=1000000000)(cR:D.uns<=1000)(ch:D.wait.length<=1000)
 (bu:v=(decide (c=D.unit)||(decide ((D.ln b).kind=1)&&decide (c=0)&&p8 (kv i).1))) (bl:∀a k,Pl.lj i a k->p8 a=p8 (kv i).1)
 (bL:c=D.unit->x7 L b D.nl n c u D.ln r) (bn:Vz O N L S E bt D i u ah aw) (bZ:∀bg∈D.wait,bg.1<((D.arr+1:Nat):Int))
 (d:j4) (bN:d={D with arr:=D.arr+1,ent:=aw,uns:=if ah=true then D.uns+1 else D.uns}) (T:j4×List Ac) (bX:T=vo d (decide (c=D.unit)) (((D.arr+1:Nat):Int),((b:Nat):Int),r)) (bJ:xh T.1):
 Calls prog 57 #[π N,ν b,.agg #[ν n,ν c,.string i]] w λe w'=>∃f ak,e=.returned f/\w'.ownsRow w.heap.size 77 4 f (if v=true then(p_ T).2 else []).length ((if v=true then(p_ T).2 else []).flatMap ku)/\j1 O w' N L S E ak (if v=true then(p_ T).1 else D)/\lC D.base (lS O N L S E) w w':=by
 obtain⟨R,W,rfl,_⟩:=i_ M.wait;obtain⟨c0,c1,c2,cL,cM,cP,cN,cO,cQ⟩:=M.cells;let⟨bd,ag⟩:=j5<|w.alloc<|.cells #[ν n,ν c,.string i] 94;have bi:=ba ag;have bI:=v' ag;have bm:bd.heap.size=w.heap.size+1:=by rw[ag];simp
 have bS:=h_ M;have cB:=h_ bi;have cf:=h_ bI;have b7:=h_ bn;have bV:=h_ bL;have bx:=h_ bZ;have aT:=h_ bu;have cv:=h_ bl;have q:=h_ bN;have aj:=h_ bX;have dg:=h_ bJ;have au:=h_ bm;clear M bi bI bn bL bZ bu bl bN bX bJ bm
 go_enter func57,ntmps57
 go_wp2_with fail
 rw[<-ag];clear ag;refine(x3 i bd).mono ?_;rintro e h ⟨a,f,k,rfl,aL,a5,cC,K⟩;unfold qn;obtain⟨Z,Y,rfl,_⟩:=i_ aL;let⟨z,aC⟩:=j5<|h.alloc<|.cells #[.string i,ν a.fn,ν a.kA,ν a.l7,ν a.cnt,ν a.kd,ν a.to_,ν a.many,.slice Z a.vals.length Y,.int .u8 (k:Nat)] 146;have aD:=ba aC;have aS:=jZ (jZ cB K) aD;have aX:=(aD.block _ (by have:=K.size;have:=au.o;omega)).trans<|(K.block _ (li au.o)).trans cf;have aU:=v' aC;have bk:=h_<|jY aL aD;have bO:=h_ aS;have av:=h_ aX;have az:=h_ aU;have c4:w.heap.size<h.heap.size:=by have:=K.size;have:=au.o;omega
 have cu:=h_ a5;have cn:=h_<|cv a k a5;have ab:=h_<|bS.o.mR aS;clear c0 c1 c2 cL cM cP cN cO aL a5 K aD;obtain⟨c0,c1,c2,cL,cM,cP,cN,cO,VD⟩:=ab.o.cells;obtain⟨X,C,U,V⟩:=l8 aX;have ar:z.cell? (μ L<|b*3)=some (ν ((D.ln b).kind:Nat)):=by have:=ab.o.lines.cell cx (j:=0) om;rw[YE]at this;rw[this];rfl
 let⟨aW,aO,aK,a4,aI,a6,a2,a0,aG,r9⟩:=o_ aU;have cV:(b:Int)<(D.nl:Int):=om;clear aS aX aU
 go_upto_region 2 with fail
 rw[<-aC];clear aC
 go_cut [36]from 14 to 36 (λt y=>t=.bool (!v)/\Below z.heap.size z y)
 case first=>
  by_cases l:c=D.unit
  .have ai:v=true:=by rw[aT.o];simp[l]
   subst ai;have cb:((c:Int)!=(D.unit:Int))=false:=by simp[l]
   clear l
   go_quiet (fail)
   go_wp2
   go_meet
   exact⟨rfl,YL br _⟩
  .have cb:((c:Int)!=(D.unit:Int))=true:=so;by_cases hk:(decide ((D.ln b).kind=1)&&decide (c=0))=true
   .let⟨bg,be⟩:=j5<|p8 a;have ai:v=bg:=by rw[aT.o,be,cn.o,hk];simp[l]
    subst ai;have b6:=h_ be;have aJ:∀w',w'.cell? (μ L<|b*3)=some (ν ((D.ln b).kind:Nat))->Calls prog 78 #[.pointer<|some (μ L<|b*3),ν c] w' λe aA=>e=.returned (.bool true)/\aA=w':=λw' aR=>by have:=wn L (b*3) (D.ln b).kind c w' aR;rw[hk]at this;exact this
    have cy:=Yn av;have bP:=Yn ab.o.dev;have cq:=ab.o.lines.lt;have o:=Yn az;clear hk be l
    go_region_held3 (λw'=>w'.cell? (μ w.heap.size 1)=some (ν c)/\w'.cell? (μ N 0)=some (ν D.unit)/\w'.cell? (μ N 2)=some (ω L D.nl D.nl)/\w'.cell? (μ L<|b*3)=some (ν ((D.ln b).kind:Nat))/\w'.cell? (μ h.heap.size 0)=some (.string i)/\w'.cell? (μ h.heap.size 1)=some (ν a.fn)/\w'.cell? (μ h.heap.size 2)=some (ν a.kA)/\w'.cell? (μ h.heap.size 3)=some (ν a.l7)/\w'.cell? (μ h.heap.size 4)=some (ν a.cnt)/\w'.cell? (μ h.heap.size 5)=some (ν a.kd)/\w'.cell? (μ h.heap.size 6)=some (ν a.to_)/\w'.cell? (μ h.heap.size 7)=some (ν a.many)/\w'.cell? (μ h.heap.size 8)=some (.slice Z a.vals.length Y)/\w'.cell? (μ h.heap.size 9)=some (.int .u8 (k:Nat))) (go_keep)
     (first
      |(go_at_call 78;refine(aJ _ (by simpa using ar)).mono ?_;rintro e aA ⟨rfl,rfl⟩)
      |(go_at_call 79;refine(x' i a (.slice Z a.vals.length Y) k _).mono ?_;rintro e da ⟨rfl,j⟩;have cI:=((ke j).1 _ _ cy).trans C;have bo:=((ke j).1 _ _ bP).trans c0;have bT:=((ke j).1 _ _ bP).trans c2;have cD:=((ke j).1 _ _ cq).trans ar;have cJ:=((ke j).1 _ _ o).trans aW;have cZ:=((ke j).1 _ _ o).trans aO;have cU:=((ke j).1 _ _ o).trans aK;have c9:=((ke j).1 _ _ o).trans a4;have cT:=((ke j).1 _ _ o).trans aI;have c6:=((ke j).1 _ _ o).trans a6;have ja:=((ke j).1 _ _ o).trans a2;have jM:=((ke j).1 _ _ o).trans a0;have jN:=((ke j).1 _ _ o).trans aG;have c':=((ke j).1 _ _ o).trans r9))
    go_wp2
    go_meet
    exact⟨by rw[b6.o],kx j⟩
   .have aP:(decide ((D.ln b).kind=1)&&decide (c=0))=false:=by simpa using hk
    have ai:v=false:=by rw[aT.o,aP];simp[l]
    subst ai;have aJ:∀w',w'.cell? (μ L<|b*3)=some (ν ((D.ln b).kind:Nat))->Calls prog 78 #[.pointer<|some (μ L<|b*3),ν c] w' λe aA=>e=.returned (.bool false)/\aA=w':=λw' aR=>by have:=wn L (b*3) (D.ln b).kind c w' aR;rw[aP]at this;exact this
    clear hk aP l
    go_quiet (first|(go_at_call 78;refine abV<|aJ _ (by simpa using ar)))
    go_wp2
    go_meet
    exact⟨rfl,YL br _⟩
 case rest=>
  obtain⟨rfl,aa⟩:=hcut;obtain⟨J,rfl⟩:=j5 wc;have ap:=h_<|jZ bO aa;have b1:=(aa.block _ (Yn av)).trans av;have bW:=(aa.block _ (Yn az)).trans az;have aM:=h_<|jY bk aa;have ad:=h_<|ab.o.mR aa;have bE:=h_ b1;have a':=h_ bW;clear c0 c1 c2 cL cM cP cN cO X C U V VD bO av az bk ab aW aO aK a4 aI a6 a2 a0 aG r9 ar;obtain⟨c0,c1,c2,cL,cM,cP,cN,cO,cA⟩:=ad.o.cells;clear aa b1 bW;cases v
  .go_wp2;go_ret;exact⟨_,rfl,Yq ..,⟨_,ad⟩,lC.jX _ ap⟩
  .have bF:N≠w.heap.size:=om;have cc:N≠h.heap.size:=om;have cw:IntKind.i64.wrap ((D.arr:Int)+1)=(D.arr:Int)+1:=wo
   go_upto_region 5 with fail
   go_cut [8,9]from 45 to 51 (λcd b5 y=>cd=.string u/\b5=.bool ah/\UI O w y N L S E (.slice R D.wait.length W) {D with arr:=D.arr+1,ent:=aw} D.base n c i)
   case first=>
    let⟨A,F⟩:=j5<|(J.setCell (μ N 12)<|ν<|(D.arr:Int)+1).drew;have aY:Hid<|j1 O A N L S E (.slice R D.wait.length W) {D with arr:=D.arr+1}:=by rw[F];have:=(ad.o.Tk<|D.arr+1).drewN 1;rw[show((D.arr+1:Nat):Int)=(D.arr:Int)+1 by omega]at this;exact this
    have bY:A.heap[h.heap.size]?=J.heap[h.heap.size]?:=by rw[F];exact Yp J (μ N 12) h.heap.size _ (by simpa using λe=>cc e.symm)
    have bz:A.heap[w.heap.size]?=J.heap[w.heap.size]?:=by rw[F];exact Yp J (μ N 12) w.heap.size _ (by simpa using λe=>bF e.symm)
    have cH:=h_<|bY.trans a';have bG:=h_<|bz.trans bE;have cl:Hid<|A.ownsRow bd.heap.size 3 1 (.slice Z a.vals.length Y) a.vals.length<|a.vals.flatMap ka:=by rw[F];exact xY (jV aM (λg hg=>Yp J (μ N 12) g _ (by have:=(aM.o.lt g hg).1;have:=au.o;simp;omega)))
    have cp:Hid<|lC D.base (lS O N L S E) w A:=by rw[F];exact((lC.jX (lS O N L S E) ap).setCell ad.o.dev (EJ ..) ad.o.lo.1 ..).drewN 1
    have b3:Hid (Calls prog 80 #[.agg #[.string i,ν a.fn,ν a.kA,ν a.l7,ν a.cnt,ν a.kd,ν a.to_,ν a.many,.slice Z a.vals.length Y,.int .u8 (k:Nat)],.pointer<|some (μ N 3)] ((J.setCell (μ N 12)<|ν<|(D.arr:Int)+1).drew) λe w'=>∃f,e=.returned f/\(f=.tuple #[.string u,.bool ah]/\j1 O w' N L S E (.slice R D.wait.length W) {D with arr:=D.arr+1,ent:=aw}/\∃aH,aH<4/\kf (E aH) A w')):=by rw[<-F];exact(b7 a _ k _ A cu aY cl).mono λe w' M=>⟨_,M.1,rfl,M.2.1,M.2.2⟩
    let⟨aW,aO,aK,a4,aI,a6,a2,a0,aG,r9⟩:=o_ a';have cF:=ap.o.size;have cX:Hid<|J.heap.size=A.heap.size:=by rw[F];show _=_;simp
    clear F bY bz
    go_region_law (first
     |(refine ki rfl 80 #[.tmp 45,.tmp 48] #[146,151] rfl #[.agg #[.string i,ν a.fn,ν a.kA,ν a.l7,ν a.cnt,ν a.kd,ν a.to_,ν a.many,.slice Z a.vals.length Y,.int .u8 (k:Nat)],.pointer<|some (μ N 3)] qU (OB ..) _ b3 ?_;rintro bB bU ⟨rfl,aq,aE,an,bp⟩))
    all_goals
     let⟨c7,b4⟩:=(aY.o.ent aE an).block;have cY:=(bS.o.ent aE an).lt;have bH:=cp.o.trans<|lC.Bk bp b4 (EK _ _ _ _ _ an)<|aY.o.lo.2.2.2 aE an;have bj:=(bp.block w.heap.size (Yn bG) om).trans bG;have bc:=h_<|And.intro aq<|And.intro bH bj;clear aq bH bj;go_wp2
     go_meet
     exact⟨rfl,rfl,bc.o.1,bc.o.2.1,bc.o.2.2⟩
   case rest=>
    obtain⟨rfl,rfl,bC⟩:=hcut;obtain⟨bU,rfl⟩:=j5 wc;have x:=h_ bC;clear c0 c1 c2 cL cM cP cN cO ap ad bE a' aM bC cA;obtain⟨c0,c1,c2,cL,cM,cP,cN,cO,aq⟩:=x.o.dv.cells;have cz:IntKind.i64.wrap ((D.uns:Int)+1)=((D.uns+1:Nat):Int):=wo
    go_upto_if 52 with fail
    go_cut []from 52 to 59 (λy=>UI O w y N L S E (.slice R D.wait.length W) d D.base n c i)
    case first=>
     cases ah
     .go_wp2_with fail
      go_meet
      rw[q.o];exact x
     .go_wp2_with fail
      go_meet
      rw[q.o];have cm:=x.o.dv.Ld<|D.uns+1;exact⟨cm,x.o.ft.setCell x.o.dv.dev (EJ ..) x.o.dv.lo.1 ..,(Yp bU (μ N 13) w.heap.size _ (λe=>bF e.symm)).trans x.o.bx⟩
    case rest=>
     obtain⟨P,rfl⟩:=j5 wc;have ay:=h_ hcut;have bb:d.nl=D.nl:=by rw[q.o]
     have bQ:d.ln=D.ln:=by rw[q.o]
     have b2:d.batch=D.batch:=by rw[q.o]
     have aZ:d.unit=D.unit:=by rw[q.o]
     have bA:d.base=D.base:=by rw[q.o]
     have bs:d.wait=D.wait:=by rw[q.o]
     have bw:d.arr=D.arr+1:=by rw[q.o]
     have ci:=x.o.dv.wait;clear c0 c1 c2 cL cM cP cN cO x hcut aq cz cw;obtain⟨c0,c1,c2,cL,cM,cP,cN,cO,a9⟩:=ay.o.dv.cells;obtain⟨X,C,U,V⟩:=l8 ay.o.bx;rw[aZ]at c0;rw[bb]at c2;have m:=h_<|And.intro bb<|And.intro bQ<|And.intro b2<|And.intro aZ<|And.intro bA<|And.intro bs bw;clear bb bQ b2 aZ bA bs bw ci
     go_upto_region 9 with fail
     go_quiet (fail)
     let⟨ao,aV⟩:=j5<|P.drewN nq;have s:Hid<|UI O w ao N L S E (.slice R D.wait.length W) d D.base n c i:=by rw[aV];exact ay.o.drewN nq
     clear c0 c1 c2 cL cM cP cN cO X C U V a9 ay;rw[<-aV];clear aV;obtain⟨c0,c1,c2,cL,cM,cP,cN,cO,bM⟩:=s.o.dv.cells;obtain⟨X,C,U,V⟩:=l8 s.o.bx;rw[m.o.1]at c2
     go_upto_if 66 with fail
     go_cut [10]from 60 to 79 (λf y=>∃ak,j1 O y N L S E ak T.1/\lC D.base (lS O N L S E) w y/\y.ownsRow w.heap.size 77 4 f T.2.length (T.2.flatMap ku))
     case first=>
      by_cases l:c=D.unit
      .have b':((c:Int)==(D.unit:Int))=true:=by simp[l]
       have bK:=h_<|bV l;have bf:=h_ (show T=vo d true (((D.arr+1:Nat):Int),((b:Nat):Int),r)by rw[aj.o,l];simp);clear l
       go_wp2_with fail
       obtain⟨Q,am⟩:=j5<|ao.setCell (μ w.heap.size 2)<|.string u;have a1:Hid<|j1 O Q N L S E (.slice R D.wait.length W) d:=by rw[am];exact s.o.dv.keep ((lC.refl (λ_ t=>t==94) ao).setCell s.o.bx rfl (YG _) ..) (λ_=>rfl) (λ_=>rfl) (λ_=>rfl) (λ_=>rfl) λ_=>rfl
       have cs:Hid<|lC D.base (lS O N L S E) w Q:=by rw[am];exact s.o.ft.Tl _ _ kM _
       have a3:Q.heap[w.heap.size]?=some (.cells #[ν n,ν c,.string u] 94):=by rw[am];exact YB ao _ 2 _ 94 (.string u) s.o.bx
       rw[<-am];clear am c0 c1 c2 cL cM cP cN cO X C U V s bM;obtain⟨c0,c1,c2,cL,cM,cP,cN,cO,cS⟩:=a1.o.cells;rw[m.o.1]at c2;obtain⟨X,C,U,V⟩:=l8 a3;have c8:=Yn a3;clear a3;have cj:Hid (Calls prog 82 #[.pointer<|some (μ L<|b*3),.agg #[ν n,ν c,.string u]] Q.drew λe w'=>∃f,e=.returned f/\(f=.string r/\Below Q.drew.heap.size Q.drew w')):=(bK.o Q.drew (by have:=(a1.o.drewN 1).lines;rw[m.o.1,m.o.2.1]at this;exact this)).mono λe w' M=>⟨_,M.1,rfl,M.2⟩
       have b8:Hid (∀P:b_,j1 O P N L S E (.slice R D.wait.length W) d->Calls prog 81 #[π N,ν b,.string r] P λe w'=>∃f,e=.returned f/\∃ak,j1 O w' N L S E ak T.1/\lC D.base (lS O N L S E) P w'/\w'.ownsRow P.heap.size 77 4 f T.2.length (T.2.flatMap ku)):=λP aF=>by
        by_cases aN:d.uns=0
        .refine(H4 N L S b E _ _ r _ aF aN).mono ?_;rintro e w6 ⟨f,rfl,ca,K⟩;have al:T=(d,[kS (((D.arr+1:Nat):Int),((b:Nat):Int),r)]):=by rw[bf.o];unfold vo;rw[Ys rfl,Ys aN]
         rw[al];exact⟨f,rfl,_,aF.mR K,lC.jX _ K,ca⟩
        .refine(EZ N L S b E _ _ r _ aF om (by rw[m.o.2.2.2.2.2.1];exact ch) (by rw[m.o.2.2.2.2.2.1,m.o.2.2.2.2.2.2];exact bx)).mono ?_;rintro e w6 ⟨f,rfl,rfl,jB,ck,ct⟩;have al:T=({d with wait:=d.wait++[((d.arr:Int),((b:Nat):Int),r)]},[]):=by rw[bf.o];unfold vo;rw[Ys rfl,Yo aN,m.o.2.2.2.2.2.2]
         rw[al];have bR:=ct.mono<|Le N L S E;rw[m.o.2.2.2.2.1]at bR;exact⟨_,rfl,jB,ck,bR,Yq ..⟩
       clear bK bf
       go_region_law (first
        |(refine ki rfl 82 #[.tmp 76,.tmp 77] #[116,94] rfl #[.pointer<|some (μ L<|b*3),.agg #[ν n,ν c,.string u]] (by simp[Act.eval,Act.put]) (OA ..) _ cj ?_;rintro bB P ⟨rfl,bv⟩;have a9:=(a1.o.drewN 1).mR bv)
        |(refine ki rfl 81 #[.tmp 69,.tmp 70,.tmp 78] #[49,3,9] rfl #[π N,ν b,.string r] qU (Oz ..) _ (b8 _ a9) ?_;rintro bB w6 ⟨bq,ac,af,ae⟩))
       all_goals
        have bD:=kx bv;have cE:=bD.size;have ax:=h_<|And.intro ac<|And.intro af ae;clear ac af ae;obtain⟨jA,ja,rfl,_⟩:=i_ ax.o.2.2;go_wp2
        go_meet
        exact⟨bq,ax.o.1,(cs.o.kt bD).trans ax.o.2.1,j9 ax.o.2.2 om⟩
      .have b':((c:Int)==(D.unit:Int))=false:=nU;have al:T=(d,[]):=by rw[aj.o];simp[vo,l]
       clear l
       go_wp2_with fail
       go_meet
       rw[al];exact⟨_,s.o.dv,s.o.ft,Yq ..⟩
     case rest=>
      obtain⟨w6,rfl⟩:=j5 wc;let⟨bq,ac,af,ae⟩:=hcut;obtain⟨jP,jQ,rfl,_⟩:=i_ ac.wait;obtain⟨jA,ja,rfl,_⟩:=i_ ae;have iu:=h_ ac;have ir:=h_ af;have jb:=h_ ae;have cG:T.2.length<=1:=by rw[aj.o];unfold vo;split;split<;>simp;simp
      have bh:T.1.base=D.base:=by rw[aj.o];unfold vo;split;split<;>exact m.o.2.2.2.2.1;exact m.o.2.2.2.2.1
      have jO:=h_ bh;clear c0 c1 c2 cL cM cP cN cO X C U V s bM ac af ae bh m aj bV bx q;let⟨c0,c1,c2,cL,cM,cP,cN,cO,c3⟩:=iu.o.cells;have c5:=rl T.1 dg;have cK:=ir.o.size;by_cases aB:T.1.batch<=T.1.wait.length
      .have bo:decide ((T.1.batch:Int)<=(T.1.wait.length:Int))=true:=so;have ce:decide (T.1.batch<=T.1.wait.length)=true:=so;have I:p_ T=((j' T.1).1,T.2++(j' T.1).2):=by unfold p_;rw[Ys<|.inl aB]
       have iq:=h_ I;clear aB I;exact U6
      .have bo:decide ((T.1.batch:Int)<=(T.1.wait.length:Int))=false:=so;have ce:decide (T.1.batch<=T.1.wait.length)=false:=so;by_cases aQ:T.1.batch<=T.1.uns
       .have bT:decide ((T.1.batch:Int)<=(T.1.uns:Int))=true:=so;have b9:decide (T.1.batch<=T.1.uns)=true:=so;have I:p_ T=((j' T.1).1,T.2++(j' T.1).2):=by unfold p_;rw[Ys<|.inr aQ]
        have iq:=h_ I;clear aB aQ I;exact U6
       .have bT:decide ((T.1.batch:Int)<=(T.1.uns:Int))=false:=so;have b9:decide (T.1.batch<=T.1.uns)=false:=so;have I:p_ T=T:=by unfold p_;rw[Yo om]
        have iq:=h_ I;clear aB aQ I
        go_wp2_with fail
        go_quiet (fail)
        go_wp2;go_ret;rw[iq.o];exact⟨_,rfl,jV jb λ_ _=>rfl,⟨_,iu.o.drewN _⟩,ir.o.drewN _⟩
def VE (D:j4)(i u:Nat)(s:a_):Bool:=decide (u=D.unit)||(decide ((D.ln i).kind=1)&&decide (u=0)&&p8 (kv s).1)
def E_{a:j4}(m:kQ a)(g j f:Nat)(b:a_):kD a g j f b=if VE a g f b=true then p_ (vo (ks a b) (decide (f=a.unit))<|mf a g j b)else(a,[]):=by
 have t:=m.batch;have s:=m.qq;have o:(ks a b).batch=a.batch:=rfl;have l:(ks a b).wait=a.wait:=rfl;unfold kD VE;by_cases i:f=a.unit
 .rw[Yo λe=>e i,YW i,ab9,Ys rfl];unfold vo;rw[Ys rfl];by_cases h:(ks a b).uns=0
  .rw[Ys h,Ys h];unfold p_;rw[Yo]
   show¬((ks a b).batch<=(ks a b).wait.length\/(ks a b).batch<=(ks a b).uns)
   rw[o,l,h];omega
  .rw[Yo h,Yo h,l];have p:∀c:j4,c.batch=a.batch->c.wait.length=a.wait.length+1->c.uns=(ks a b).uns->(if a.batch<=a.wait.length+1\/a.batch<=(ks a b).uns then j' c else(c,[]))=p_ (c,[]):=λc n q r=>by unfold p_;simp only[n,q,r,YT]
   exact p _ rfl (by show(a.wait++[mf a g j b]).length=_;simp) rfl
 .rw[Ys i,YZ i,Bool.false_or];by_cases d:(a.ln g).kind=1/\f=0/\p8 (kv b).1=true
  .rw[Ys d,d.2.2,YW d.1,YW d.2.1,abd,abd,Ys rfl];unfold vo;rw[Yo dc];unfold p_ Ie;by_cases k:(ks a b).batch<=(ks a b).uns
   .rw[Ys k,Ys<|.inr k];rfl
   .rw[Yo k,Yo]
    show¬((ks a b).batch<=(ks a b).wait.length\/(ks a b).batch<=(ks a b).uns)
    rw[l];omega
  .rw[Yo d,Yo];intro e;simp only[Zw,Zq]at e;exact d ⟨e.1.1,e.1.2,e.2⟩
def Tn{a:j4}(b:kQ a)(f e:Nat)(c:a_)(d:Bool):xh (vo (ks a c) d<|mf a f e c).1:=by
 unfold vo;split
 .split
  .exact sX b
  .exact Bq b om
 .exact sX b
def OG{b:a_}{c a:Pl.mW}{e g:Nat}(f:Pl.lj b c e)(d:Pl.lj b a g):c=a:=(Pl.lj.eq f d).1
def CX(h g k c d e:Nat)(l:Nat->Nat)(s:f_)(a:j4)(b:a_)(m:b_)(A:j1 O m h g k l s a)(f:kQ a)(q:c<a.nl)(i:(a.ln c).kind<=1)(j:Pl.Oa (d,e,b))(R:a.arr<=900000000):
 Calls prog 57 #[π h,ν c,.agg #[ν d,ν e,.string b]] m λn p=>∃o t,n=.returned o/\p.ownsRow m.heap.size 77 4 o (kD a c d e b).2.length ((kD a c d e b).2.flatMap ku)/\j1 O p h g k l t (kD a c d e b).1/\lC a.base (lS O h g k l) m p:=by
 have Q:1<=b.size:=j.2.2.1;have C:b.size<=253:=j.2.2.2;have S:=f.unit;have L:=f.batch;have T:=f.qq;have N:=f.uns;have v:=nz b;have y:=CW a b _ _ f v C;have B:=Tm (O:=O) h g k l s a b _ _ v om f.sz f.ent;have z:∀u∈a.wait,u.1<((a.arr+1:Nat):Int):=λu I=>li<|f.top u I
 have K:e=a.unit->x7 g c a.nl d e (vm a b (kv b).1 (kv b).2) a.ln (Sg (a.ln c).kind d a.unit<|vm a b (kv b).1 (kv b).2):=λn=>by
  subst n;unfold Sg;rcases(show(a.ln c).kind=0\/(a.ln c).kind=1 by omega)with i|i
  .rw[Yo om];exact λD J=>zr g c a.nl d a.unit _ a.ln D J q i j.1 om y
  .rw[Ys i];exact E7 g c a.nl d a.unit _ a.ln q i om y
 refine(Lv h g k c d e l s a b _ _ _ (VE a c e b) _ m A q om om om rfl (λM P j=>by rw[OG j v]) K B z (ks a b) rfl (vo (ks a b) (decide (e=a.unit))<|mf a c d b) rfl (Tn f c d b _)).mono ?_;rintro n p ⟨o,t,F,w,x,E⟩;rw[E_ f];refine⟨o,t,F,?_,?_,E⟩
 .cases r:VE a c e b<;>rw[r]at w<;>exact w
 .cases r:VE a c e b<;>rw[r]at x<;>exact x
end
section
variable {O:Nat->Bool}
def lP (D:j4)(i:Nat)(fs:List<|Nat×Nat×a_):j4×List (Int×Int×Int×a_):=
 fs.foldl (λp f=>((kD p.1 i f.1 f.2.1 f.2.2).1,p.2++(kD p.1 i f.1 f.2.1 f.2.2).2)) (D,[])
def wq(c:j4)(b:Nat)(d:List<|Nat×Nat×a_)(a:Nat×Nat×a_):lP c b (d++[a])=((kD (lP c b d).1 b a.1 a.2.1 a.2.2).1,(lP c b d).2++(kD (lP c b d).1 b a.1 a.2.1 a.2.2).2):=by unfold lP;rw[aay];rfl
structure oa(D D':j4):Prop where
 unit:D'.unit=D.unit
 batch:D'.batch=D.batch
 nl:D'.nl=D.nl
 ln:D'.ln=D.ln
 sz:D'.sz=D.sz
 kp:D'.kp=D.kp
 sec:D'.sec=D.sec
 base:D'.base=D.base
def oa.refl(a:j4):oa a a:=⟨rfl,rfl,rfl,rfl,rfl,rfl,rfl,rfl⟩
def oa.trans{c e d:j4}(a:oa c e)(b:oa e d):oa c d:=⟨b.unit.trans a.unit,b.batch.trans a.batch,b.nl.trans a.nl,b.ln.trans a.ln,b.sz.trans a.sz,b.kp.trans a.kp,b.sec.trans a.sec,b.base.trans a.base⟩
def nP(a:j4):oa a (j' a).1/\(j' a).1.arr=a.arr:=by
 unfold j';split
 .exact⟨oa.refl a,rfl⟩
 .exact⟨⟨rfl,rfl,rfl,rfl,rfl,rfl,rfl,rfl⟩,rfl⟩
def tT(a:j4)(d c g:Nat)(b:a_):oa a (kD a d c g b).1/\(kD a d c g b).1.arr<=a.arr+1:=by
 have e:oa a<|ks a b:=⟨rfl,rfl,rfl,rfl,rfl,rfl,rfl,rfl⟩;have f:oa a {ks a b with wait:=a.wait++[mf a d c b]}:=⟨rfl,rfl,rfl,rfl,rfl,rfl,rfl,rfl⟩;unfold kD;split
 .split
  .unfold Ie;split
   .have:=nP<|ks a b;exact⟨e.trans this.1,by rw[this.2];exact YC _⟩
   .exact⟨e,YC _⟩
  .exact⟨oa.refl a,si⟩
 .split
  .exact⟨e,YC _⟩
  .split
   .have:=nP {ks a b with wait:=a.wait++[mf a d c b]};exact⟨f.trans this.1,by rw[this.2];exact YC _⟩
   .exact⟨f,YC _⟩
def sY{a:j4}(b:kQ a)(d c f:Nat)(e:a_):(kD a d c f e).2.length<=20:=by
 unfold kD;split
 .split
  .unfold Ie;split
   .exact rl _ (sX b)
   .simp
  .simp
 .split
  .simp
  .split
   .rename_i g _;exact rl _ (Bq b om)
   .simp
def Am{c:j4}(i:kQ c)(d:Nat)(b:List<|Nat×Nat×a_):∀a,a<=b.length->kQ (lP c d<|b.take a).1/\oa c (lP c d<|b.take a).1/\(lP c d<|b.take a).1.arr<=c.arr+a/\(lP c d<|b.take a).2.length<=20*a:=by
 intro a
 induction a with
 |zero=>intro _;exact⟨i,oa.refl c,by simp[lP],by simp[lP]⟩
 |succ a h=>
  intro k;let⟨e,j,n,m⟩:=h om;have g:b.take (a+1)=b.take a++[b[a]]:=by rw[List.take_add_one,Yw om];rfl
  rw[g,wq];have f:=tT (lP c d<|b.take a).1 d b[a].1 b[a].2.1 b[a].2.2;have l:=sY e d b[a].1 b[a].2.1 b[a].2.2;refine⟨yc e ..,j.trans f.1,?_,?_⟩
  .have:=f.2;show(kD ..).1.arr<=_;omega
  .show(_++_:List _).length<=_;rw[Yv];omega
def Lx{i b d l j m:Nat}{n:Nat->Nat}{g:f_}{a:List f_}{e f:b_}(c:e.ownsRow b 94 3 g d a)(k:lC i (lS O l j m n) e f):f.ownsRow b 94 3 g d a:=
 jV c (λh o=>by let⟨p,q⟩:=jU c h o;exact k.keep h p 94 q rfl)
def GO{i b d l j m:Nat}{n:Nat->Nat}{g:f_}{a:List f_}{e f:b_}(c:e.ownsRow b 77 4 g d a)(k:lC i (lS O l j m n) e f):f.ownsRow b 77 4 g d a:=
 jV c (λh o=>by let⟨p,q⟩:=jU c h o;exact k.keep h p 77 q rfl)
def An{b:b_}{e k:Nat}{c:Option Addr}{l:List<|Nat×Nat×a_}(M:b.ownsRow e 94 3 (.slice c l.length k) l.length<|l.flatMap Pl.zf)(q:Nat)(x:Nat×Nat×a_)(hx:l[q]?=some x):
 ∃a,c=some (μ a 0)/\a<b.heap.size/\b.cell? (μ a<|q*3)=some (ν x.1)/\b.cell? (μ a<|q*3+1)=some (ν x.2.1)/\b.cell? (μ a<|q*3+2)=some (.string x.2.2):=by
 let⟨f,d,g,i⟩:=i_ M;obtain⟨rfl,rfl⟩:f=c/\d=k:=by simpa using g.symm
 refine J' ?_;intro mY cE;obtain⟨a,rfl,h,hc⟩:=i q mY;refine⟨a,rfl,h,?_,?_,?_⟩
 .have:=kj Pl.zf 3 (λ_=>rfl) l q 0 mY om;exact GF
 .have:=kj Pl.zf 3 (λ_=>rfl) l q 1 mY om;rw[hc _ om,this,cE];rfl
 .have:=kj Pl.zf 3 (λ_=>rfl) l q 2 mY om;rw[hc _ om,this,cE];rfl
def ws(d e f a:Nat)(h:Nat->Nat)(A:f_)(c D0:j4)(aa:a_)(af:List<|Nat×Nat×a_)(b:b_)(M:j1 O b d e f h A c)(be:a<c.nl)(a7:c.nl<=4)
 (Z:Calls prog 56 #[.pointer<|some (μ e<|a*3),.string aa] b λm g=>∃j,m=.returned j/\g.ownsRow b.heap.size 94 3 j af.length (af.flatMap Pl.zf)/\j1 O g d e f h A D0/\lC c.base (lS O d e f h) b g)
 (ac:kQ D0) (hk:0<af.length->(D0.ln a).kind=0) (X:a<D0.nl) (al:D0.base=c.base) (T:∀x∈af,Pl.Oa x) (a5:af.length<=530000) (a6:D0.arr<=300000000):
 Calls prog 20 #[π d,ν a,.string aa] b λm g=>∃j E,m=.returned (.tuple #[j,ν 0])/\g.ownsRow b.heap.size 77 4 j (lP D0 a af).2.length ((lP D0 a af).2.flatMap ku)/\j1 O g d e f h E (lP D0 a af).1/\lC c.base (lS O d e f h) b g:=by
 let⟨aI,ao,aW,aM,aC⟩:=Y4 Tryz.po;let⟨ax,an,aF,aN,aw,aE,aX,aB,a2⟩:=M.cells;have ai:=h_ Z;have bd:=h_ M;have aU:=h_<|Am ac a af;have eI:=h_ T;have av:=h_ hk;have aV:=h_ al;have aq:=h_ X;have a4:(a:Int)<(c.nl:Int):=om;clear M Z ac T hk al X
 go_enter func20,ntmps20
 go_wp2_with fail
 refine(lX _ _ _ _ om om).mono ?_;rintro m bb ⟨rfl,ae⟩;rw[ae];clear ae
 go_wp2_with fail
 refine ai.o.mono ?_;rintro m a8 ⟨bc,rfl,C,Y,I⟩;obtain⟨az,aJ,rfl,_⟩:=i_ C;have aG:=h_ Y;have aD:=h_ I;have aO:=h_ C;have a1:=I.size;clear Y I C ai ax an aF aN aw aE aX aB
 go_wp2_with fail
 go_loopw [29,8] (λq j wr=>∃(n:Nat) (E:f_),n<=af.length/\q=ν n/\wr.ownsRow b.heap.size 77 4 j (lP D0 a<|af.take n).2.length ((lP D0 a<|af.take n).2.flatMap ku)/\j1 O wr d e f h E (lP D0 a<|af.take n).1/\wr.ownsRow b.heap.size 94 3 (.slice az af.length aJ) af.length (af.flatMap Pl.zf)/\lC c.base (lS O d e f h) b wr) (λq _ _=>af.length-(intOf q).toNat)
 case atStart=>exact⟨0,A,YG _,rfl,Yq ..,aG,aO,aD⟩
 case round=>
  obtain⟨n,ad,aA,rfl,i,l,v,hF⟩:=hrel;by_cases mY:n<af.length
  .refine SZ ?_;intro x hx cY e1;have o:=wq D0 a (af.take n) x;rw[<-e1]at o;let⟨z,r,Q,ay⟩:=aU n aA;obtain⟨D,N⟩:=j5<|(lP D0 a<|af.take n).1;obtain⟨ab,W⟩:=j5<|(lP D0 a<|af.take n).2;rw[<-N]at l o z r Q;rw[<-W]at i o ay;have aH:=sY z a x.1 x.2.1 x.2.2;obtain⟨aZ,rfl,bg,f0,f1,f2⟩:=An v n x hx;obtain⟨aj,F⟩:=j5<|wr.alloc<|.cells #[ν x.1,ν x.2.1,.string x.2.2] 94;have s:=ba F;have U:D.base=c.base:=r.base.trans aV;have L:=h_ (CX d e f a x.1 x.2.1 h ad D x.2.2 aj (l.mR s) z (by rw[r.nl];exact aq) (by rw[r.ln];have:=av om;omega) cY om);rw[U]at L;have K:=h_<|hF.kt s;have P:=h_<|jY i s;have S:=h_<|jY v s;have a3:=K.o.size;have iO:=h_ o;clear s i l v hF o e1 cY z r Q hx U N W
   go_wp2_with fail
   rw[<-F];clear F f0 f1 f2;refine L.o.mono ?_;rintro m ag ⟨aY,jh,rfl,w,ak,y⟩;obtain⟨u,J⟩:=j5<|(kD D a x.1 x.2.1 x.2.2).2;rw[<-J]at w aH;obtain⟨ar,aS,rfl,_⟩:=i_ w;have jl:=h_ J;have ji:=h_ ak;have ca:=h_<|K.o.trans y;have ce:=h_<|GO P y;have ah:=h_<|Lx S y;have aR:=h_ w;have aL:=ca.o.size;clear w ak y L J K P S;have bf:ab.length+u.length<=20000000:=om
   go_wp2_with (at_builtin;refine mU rfl (.tmp 33) (.tmp 37) 31 rfl b.heap.size aj.heap.size 77 aI _ 4 40 underlying31 ao aW aM aC rfl dc _ ab.length _ rfl ce (.slice ar u.length aS) u.length (u.flatMap ku) rfl aR (oC _) ml om aL ?_;intro a0 aQ V gt)
   refine Vt ?_;intro hI bE hH;have jj:=h_ (jV (w':=aQ) ah.o (λR aT=>by obtain⟨au,aP⟩:=jU ah.o R aT;exact bE.keep R au 94 aP rfl));have jk:=h_ V;clear V gt bE
   go_roundw
   case rel=>exact Ra
   case measure=>exact mz
  .obtain rfl:n=af.length:=om;rw[aal]at i l;have am:=h_ i;have aK:=h_ l;have ap:=h_ hF;obtain⟨a9,a',rfl,_⟩:=i_ i;clear i l hF v;go_wp2
   go_ret2
   exact⟨_,ad,rfl,am,aK,ap⟩
end
section
variable {O:Nat->Bool}
def lI (s:a_):List (Nat×Nat×a_):=Classical.choose (ya s (s.size+1) 0)
def l9(a:a_):(Pl.pO a).1=(lI a).flatMap Pl.zf/\(∀c∈lI a,Pl.Oa c)/\(lI a).length*8<=a.size:=by have b:=abK<|ya a (a.size+1) 0;exact⟨b.1,b.2.1,by have:=b.2.2<|YG _;exact this⟩
def rm (all:a_):Ln:=if Pl.tl (all.extract (Pl.pO all).2 all.size)=true then⟨0,⟨#[]⟩,true⟩else⟨0,all.extract (Pl.pO all).2 all.size,false⟩
def qH (D:j4)(i:Nat)(s:a_):j4:=
 {D with ln:=λa=>if a=i then(if (D.ln i).kind=1 then{D.ln i with bytes:=r_ (D.ln i).bytes s}else if (D.ln i).broken=true then D.ln i else rm ((D.ln i).bytes++s))else D.ln a}
def mA (D:j4)(i:Nat)(s:a_):List (Nat×Nat×a_):=if (D.ln i).kind=1\/(D.ln i).broken=true then []else lI ((D.ln i).bytes++s)
def m6 (D:j4)(i:Nat)(s:a_):j4×List (Int×Int×Int×a_):=lP (qH D i s) i (mA D i s)
def yd{b:j4}(a:kQ b)(d:Nat)(c:a_):kQ (qH b d c):=⟨a.sz,a.ent,a.xe,a.xg,a.unit,a.batch,a.nl,a.lat,a.stamp,a.sec,a.qq,a.uns,a.w0,a.GN,a.top⟩
def CY(c a g:Nat)(b:Nat->Ln)(h:a_)(d:b_)(i:kE d c 116 g 3 λe f=>qk (b e) f)(l:a<g)(t:(b a).kind=1)(o:(b a).bytes.size<=257)(u:h.size<=4194304):
 Calls prog 56 #[.pointer<|some (μ c<|a*3),.string h] d λj n=>j=.returned σ/\kE n c 116 g 3 (λe f=>qk (if e=a then{b a with bytes:=r_ (b a).bytes h}else b e) f)/\kf c d n:=by
 have p:d.cell? (μ c<|a*3)=some (ν 1):=by have:=i.cell l (j:=0) om;rw[YE]at this;rw[this];simp[qk,t]
 have q:=h_<|CP c a g b h d i l o u;clear i
 go_enter func56,ntmps56
 go_wp2_with fail
 apply q.o.mono;rintro j v ⟨rfl,k,m⟩;have r:=h_ k;have s:=h_ m;clear k m p;go_wp2;go_ret;exact⟨rfl,r,s⟩
def ye{b:a_}{a:List f_}{c g:Nat}{h:f_}{f:b_}(d:f.ownsRow g 94 3 h c a)(i:a=(lI b).flatMap Pl.zf):c=(lI b).length:=by have e:=d.1;rw[i,mn Pl.zf 3 λ_=>rfl]at e;omega
def Ly{a:a_}{b:Nat}{d:Int}(e:d=if Pl.tl (a.extract b a.size)=true then 4 else 0)(f:b=(Pl.pO a).2):vg a b d=rm a:=by
 unfold vg rm;rw[<-f,e];by_cases c:Pl.tl (a.extract b a.size)=true
 .rw[Ys c,Ys c,Yo dc]
 .rw[Yo c,Yo c,Ys rfl]
def Lz(p g s b:Nat)(t:Nat->Nat)(y:f_)(a:j4)(c:a_)(i:b_)(e:j1 O i p g s t y a)(n:b<a.nl)(M:(a.ln b).kind<=1)(I:(a.ln b).kind=1->(a.ln b).bytes.size<=257)(R:(a.ln b).bytes.size+c.size<=4194304):
 Calls prog 56 #[.pointer<|some (μ g<|b*3),.string c] i λd k=>∃o,d=.returned o/\k.ownsRow i.heap.size 94 3 o (mA a b c).length ((mA a b c).flatMap Pl.zf)/\(mA a b c).length<=524288/\j1 O k p g s t y (qH a b c)/\lC a.base (lS O p g s t) i k:=by
 let⟨N,v⟩:=e.lines.block;by_cases h:(a.ln b).kind=1
 .have m:mA a b c=[]:=by unfold mA;rw[Ys<|.inl h]
  rw[m];refine(CY g b a.nl a.ln c i e.lines n h (I h) om).mono ?_;rintro d k ⟨rfl,r,l⟩;refine⟨_,rfl,Yq ..,si,j1.heard e (r.congr λf q _ _=>?_) l,lC.Bk l v (KU ..) e.lo.2.1⟩;rw[Ys h]
 .by_cases j:(a.ln b).broken=true
  .have m:mA a b c=[]:=by unfold mA;rw[Ys<|.inr j]
   rw[m];have w:=e.lines.cell n (j:=0) om;have A:=e.lines.cell n (j:=2) om;rw[YE]at w;refine(wj g (b*3) c i (by rw[w];simp only[qk];rw[show(a.ln b).kind=0 by omega];rfl) (by rw[A];simp only[qk];rw[j];rfl)).mono ?_;rintro d k ⟨rfl,rfl⟩;refine⟨_,rfl,Yq _ _ _ _,si,?_,lC.refl ..⟩
   have C:(λf=>if f=b then(if (a.ln b).kind=1 then{a.ln b with bytes:=r_ (a.ln b).bytes c}else if (a.ln b).broken=true then a.ln b else rm ((a.ln b).bytes++c))else a.ln f)=a.ln:=by
    funext f;by_cases d:f=b
    .rw[Ys d,Yo h,Ys j,d]
    .rw[Yo d]
   unfold qH;rw[C];exact e
  .have m:mA a b c=lI ((a.ln b).bytes++c):=by unfold mA;rw[Yo<|by simp[h,j]]
   rw[m];refine(Cw g b a.nl a.ln c i e.lines n om (by simpa using j) (by rw[Zd];omega)).mono ?_;rintro d k ⟨o,P,B,F,Q,rfl,u,E,L,r,l⟩;let⟨z,K⟩:=E;have x:B=(lI<|(a.ln b).bytes++c).flatMap Pl.zf:=by rw[<-(l9 _).1,z]
   have D:F=(Pl.pO<|(a.ln b).bytes++c).2:=by rw[z]
   have J:=ye u x;subst J;rw[x]at u;refine⟨o,rfl,u,L,j1.heard e (r.congr λf q _ _=>?_) l,lC.Bk l v (KU ..) e.lo.2.1⟩;by_cases d:f=b
   .rw[Ys d,Ys d,Yo h,Yo j,Ly K D]
   .rw[Yo d,Yo d]
def E'(b:j4)(a:Nat)(e:a_)(f:(b.ln a).kind<=1):(b.ln a).kind=1\/((qH b a e).ln a).kind=0:=by
 by_cases d:(b.ln a).kind=1
 .exact .inl d
 .right;show(if a=a then _ else _:Ln).kind=0;rw[Ys rfl,Yo d];by_cases c:(b.ln a).broken=true
  .rw[Ys c];omega
  .rw[Yo c];unfold rm;split<;>rfl
def CZ(d f g b:Nat)(h:Nat->Nat)(m:f_)(a:j4)(c:a_)(e:b_)(q:j1 O e d f g h m a)(o:kQ a)(k:b<a.nl)(r:(a.ln b).kind<=1)(z:(a.ln b).kind=1->(a.ln b).bytes.size<=257)(E:(a.ln b).bytes.size+c.size<=4194304)(D:a.arr<=300000000):
 Calls prog 20 #[π d,ν b,.string c] e λn j=>∃i A,n=.returned (.tuple #[i,ν 0])/\j.ownsRow e.heap.size 77 4 i (m6 a b c).2.length ((m6 a b c).2.flatMap ku)/\j1 O j d f g h A (m6 a b c).1/\lC a.base (lS O d f g h) e j:=by
 have t:=(l9<|(a.ln b).bytes++c).2.2
 have y:∀u∈mA a b c,Pl.Oa u:=by
  unfold mA;split
  .simp
  .exact(l9 _).2.1
 have B:(mA a b c).length<=530000:=by
  unfold mA;split
  .simp
  .rw[Zd]at t;omega
 refine ws d f g b h m a (qH a b c) c (mA a b c) e q k o.nl.2 ((Lz d f g b h m a c e q k r z E).mono λn j ⟨i,l,v,_,x,s⟩=>⟨i,l,v,x,s⟩) (yd o b c) (λp=>?_) k rfl y B D;rcases E' a b c r with l|w
 .have C:mA a b c=[]:=by unfold mA;rw[Ys<|.inl l]
  rw[C]at p;simp at p
 .exact w
def pb(a b c:Int)(e:b_)(M:a<b\/c<a):Calls prog 53 #[ν a,ν b,ν c] e λf g=>f=.returned (.bool false)/\g=e:=by
 by_cases d:b<=a
 .have d1:decide (b<=a)=true:=by simp[d]
  have d2:decide (a<=c)=false:=so;clear M;exact KA
 .have d1:decide (b<=a)=false:=so;clear M d;exact KA
def If(d g h:Nat)(i:Nat->Nat)(f:f_)(a:j4)(b:Int)(j:a_)(c:b_)(M:j1 O c d g h i f a)(m:1<=a.nl/\a.nl<=4)(n:b<0\/(a.nl:Int)<=b):
 Calls prog 20 #[π d,ν b,.string j] c λe k=>e=.returned (.tuple #[σ,ν 1])/\k=c:=by
 let⟨r,o,l,s,q,w,u,v,t⟩:=M.cells;clear M
 go_enter func20,ntmps20
 exact Ri
end
def nM(b e:Nat)(c:a_)(d a:Nat):Int:=if d=0 then((if a<b then Pl.bit c 0 a else 0:Nat):Int)else if d=2 then((if a<e then Pl.wd c ((b+7)/8+2*a)else 0:Nat):Int)else 0
def C0(b e:Nat)(d:a_)(a:Nat):(Value.int .i64 (if 0<=a/\a<0+(Pl.mx d 0 b).length then(Pl.mx d 0 b).getD (a-0) 0 else 0))=Value.int .i64 (nM b e d 0 a):=by
 have c:nM b e d 0 a=((if a<b then Pl.bit d 0 a else 0:Nat):Int):=rfl;rw[c,Pl.mp,YF,aaK];by_cases c:a<b
 .rw[Ys ⟨YG _,c⟩,Ys c,Yt,Pl.Cq d 0 b a c];rfl
 .rw[Yo λe=>c e.2,Yo c];rfl
def LC(e a:Nat)(c:a_)(b:Nat):(Value.int .i64 (if 0<=b/\b<0+(Pl.kJ (c.extract ((e+7)/8) c.size) 0 a).length then(Pl.kJ (c.extract ((e+7)/8) c.size) 0 a).getD (b-0) 0 else 0))=Value.int .i64 (nM e a c 2 b):=by
 have d:nM e a c 2 b=((if b<a then Pl.wd c ((e+7)/8+2*b)else 0:Nat):Int):=rfl;rw[d,Pl.ny,Pl.kO,YF,aaK,YE];by_cases d:b<a
 .rw[Ys ⟨YG _,d⟩,Ys d,Yt,Pl.zW c _ a b d];rfl
 .rw[Yo λa=>d a.2,Yo d];rfl
def Fa(d:a_)(a:Nat)(b:b_)(f:(a+7)/8<=d.size)(g:a<=100000):
 Calls prog 98 #[.string d,.int .i64 (a:Nat)] b λe w'=>∃v,e=.returned v/\∃ad c,v=.slice ad a c/\(w'.ownsRow b.heap.size 3 1 (.slice ad a c) a ((Pl.mx d 0 a).flatMap ka)/\Below b.heap.size b w'):=by
 refine(zY d a b f g).mono ?_;exact Rq
def zv(d e c g i l av aj o af:Nat)(ar:Option Addr)(k:a_)(a:b_)(b0:d<=60)(a7:e<=60)(bj:c<=60)(bG:g<=60)(aB:i<=d)(bv:l<=c)(ax:k.size=(i+7)/8+2*l):
 Calls prog 65 #[.agg #[.int .i64 (d:Nat),.int .i64 (e:Nat),.int .i64 (c:Nat),.int .i64 (g:Nat),.int .i64 (i:Nat),.int .i64 (l:Nat),.int .i64 (av:Nat),.slice ar aj o,.int .i64 (af:Nat)],.string k] a λbB O=>
  bB=.returned (.agg #[.slice (some ⟨a.heap.size+3,0,none⟩) d d,.slice (some ⟨a.heap.size+4,0,none⟩) e e,.slice (some ⟨a.heap.size+5,0,none⟩) c c,.slice (some ⟨a.heap.size+6,0,none⟩) g g,.int .i64 (i:Nat),.int .i64 0,.int .i64 (l:Nat),.int .i64 0])/\
  kE O (a.heap.size+3) 3 d 1 (λb _=>.int .i64<|nM i l k 0 b)/\kE O (a.heap.size+4) 3 e 1 (λ_ _=>.int .i64 0)/\kE O (a.heap.size+5) 3 c 1 (λb _=>.int .i64<|nM i l k 2 b)/\kE O (a.heap.size+6) 3 g 1 (λ_ _=>.int .i64 0)/\Below a.heap.size a O:=by
 obtain⟨w,az,ap⟩:=Cz a d e c g i l av af<|.slice ar aj o;have N:=h_ aB;have am:=h_ ax;have bI:k.size<=1000:=om;clear aB ax;have aE:=h_ ap;obtain⟨z,y,A,D,B,C,J,F,E⟩:=kH ap.cfg;clear ap;have ao:∀(w:b_) (h:Nat),h<4->(Instr.makeSlice 28 (.int .i64 (ue d e c g h:Nat))<|.int .i64 (ue d e c g h:Nat)).run prog w=.ok (.slice (some ⟨w.heap.size,0,none⟩) (ue d e c g h)<|ue d e c g h) (w.alloc<|.cells (madeCells #[.int .i64 0]<|ue d e c g h) 3):=λw h _=>sT _ (li<|xL d e c g h 60 b0 a7 bj bG) w
 go_enter func65,ntmps65
 go_wp2_with fail
 rw[<-az];clear az
 go_loopw [10] (λb wr=>∃h:Nat,h<=4/\b=.int .i64 (h:Nat)/\z' a wr d e c g h #[.int .i64 (d:Nat),.int .i64 (e:Nat),.int .i64 (c:Nat),.int .i64 (g:Nat),.int .i64 (i:Nat),.int .i64 (l:Nat),.int .i64 (av:Nat),.slice ar aj o,.int .i64 (af:Nat)]) (λb _=>4-(intOf b).toNat)
 case atStart=>exact⟨0,om,rfl,aE.o⟩
 case round=>
  obtain⟨h,bh,rfl,n⟩:=hrel;clear z y A D B C J F E aE;by_cases V:h<4
  .have bZ:=Vx d e c g h V;have bN:=λw=>ao w h V;clear ao;have bH:=n.size;have bU:∀I,(wr.alloc I).cell? ⟨a.heap.size+1+1,h,none⟩=some (vh a.heap.size d e c g h h):=λI=>by have:=(n.kA.alloc I).cell (i:=h) (j:=0) om om;rwa[YS,YE]at this
   have aW:∀I,(wr.alloc I).frozen? ⟨a.heap.size+1+1,h,none⟩=false:=λI=>(n.kA.alloc I).frozen h;have v:=h_<|n.step V;clear n
   go_wp2_with fail
   go_roundw
   case rel=>exact⟨h+1,om,gn,v.o⟩
   case measure=>exact mz
  .obtain rfl:h=4:=om;clear ao bh V;obtain⟨z,y,A,D,B,C,J,F,E⟩:=kH n.cfg;have t0:wr.cell? ⟨a.heap.size+1+1,0,none⟩=some (vh a.heap.size d e c g 4 0):=n.kA.cell (i:=0) (j:=0) om om;have t2:wr.cell? ⟨a.heap.size+1+1,2,none⟩=some (vh a.heap.size d e c g 4 2):=n.kA.cell (i:=2) (j:=0) om om;have t4:wr.cell? ⟨a.heap.size+1+1,4,none⟩=some (.int .i64 0):=n.kA.cell (i:=4) (j:=0) om om;have t6:wr.cell? ⟨a.heap.size+1+1,6,none⟩=some (.int .i64 0):=n.kA.cell (i:=6) (j:=0) om om;have aW:∀o,wr.frozen? ⟨a.heap.size+1+1,o,none⟩=false:=λo=>n.kA.frozen o;have v:=h_ n;clear n
   go_wp2_with fail
   go_region
   go_wp2_with fail
   obtain⟨m,R⟩:=j5<|(wr.setCell ⟨a.heap.size+1+1,4,none⟩<|.int .i64 (i:Nat)).setCell ⟨a.heap.size+1+1,6,none⟩<|.int .i64 (l:Nat);have au:=HZ v.o i l;have aU:m.heap.size=a.heap.size+7:=by have:=v.o.size;rw[R];simp;omega
   have aM:Below a.heap.size a m:=by rw[R];exact(v.o.nD.setCell (show a.heap.size<=a.heap.size+1+1 by omega) _).setCell (show a.heap.size<=a.heap.size+1+1 by omega) _
   have W:∀r,r≠a.heap.size+2->m.heap[r]?=wr.heap[r]?:=λr Z=>by rw[R,Yp _ _ _ _ (by simpa using Z),Yp _ _ _ _ (by simpa using Z)]
   rw[<-R]at au⊢;clear R;have ac:=(W a.heap.size om).trans v.o.cfg;have aY:∀b,b<4->kE m (a.heap.size+3+b) 3 (ue d e c g b) 1 (λ_ _=>.int .i64 0):=λb p=>(v.o.ent b p).same<|W _ om;have aO:=v.o.res.same<|W (a.heap.size+1) om;have aq:=h_ aY;have ae:=h_ au;have aA:=h_ aO;have a2:=h_ ac;have an:=h_ aM;have L:=h_ aU;clear z y A D B C J F E t0 t2 t4 t6 aW v aY au aO W aM aU;obtain⟨z,y,A,D,B,C,J,F,E⟩:=kH ac;clear ac;have t0:m.cell? ⟨a.heap.size+1+1,0,none⟩=some (.slice (some ⟨a.heap.size+3,0,none⟩) d d):=ae.o.cell (i:=0) (j:=0) om om;have aC:a.heap.size+1+1<m.heap.size:=li L.o;have ay:a.heap.size<m.heap.size:=om;obtain⟨aa,aQ,aF,aS⟩:=aq.o 0 om;have bg:Hid<|m.heap[a.heap.size+3]?=some (.cells aa.toList.toArray 3 (0,0)):=by show _=_;rw[aaa];exact aQ
   have aV:Hid<|aa.size=d:=by show _=_;rw[aF];simp[ue]
   have be:Hid (∀b,b<d->aa[b]?=some (.int .i64 0)):=λb p=>by have:=aS b 0 (show b<ue d e c g 0 from p) om;rwa[YS,YE]at this
   have a6:a.heap.size+3<m.heap.size:=li L.o;clear aQ aF aS
   go_region_law (first
    |(refine ki rfl 98 #[.tmp 31,.tmp 33] #[9,3] rfl #[.string k,.int .i64 (i:Nat)] qU (Oh _ _ _) _ (Fa k i _ (li am.o) (li N.o)) ?_;rintro ak aP ⟨bQ,bL,rfl,aL,T⟩;obtain⟨aH,bp⟩:=ke T;have bb:aP.cell? ⟨a.heap.size+1+1,0,none⟩=some (.slice (some ⟨a.heap.size+3,0,none⟩) d d):=(by rw[aH _ _ (by simpa using aC)];simpa using t0))
    |(refine qm rfl (.tmp 30) (.tmp 34) 28 28 rfl 3 underlying28 Tryz.Bb _ _ _ _ _ _ rfl rfl (a.heap.size+3) 0 aa.toList 3 ((T.block _ (by simpa using a6)).trans bg.o) ((Pl.mx k 0 i).flatMap ka) (by rw[lW,Pl.mp,YS];exact(Z8 N.o).symm) (λM=>⟨rfl,Bc aL (by rw[lW,Pl.mp,YS]at M;exact M)⟩) (by rw[lW,Pl.mp,Y0,aV.o];have:=N.o;omega) (m4 _) ?_;intro s a3 x))
   all_goals
    have X:Below m.heap.size m aP:=jZ (Below.refl _ m).drew.drew T;have bT:=x.size;have P:∀r,r<m.heap.size->r≠a.heap.size+3->s.heap[r]?=m.heap[r]?:=λr Z bi=>(x.block r bi).trans<|X.block r Z;have bE:=h_ (r7 (f:=λ_=>0) aV.o be.o (off:=0) (vs:=Pl.mx k 0 i) (by rw[Pl.mp];have:=N.o;omega) a3.o);have aT:Below a.heap.size a s:=(an.o.trans<|X.mono an.o.size).trans ⟨x.os,x.tape,x.output,Nat.le_of_eq x.size.symm,λo bS=>x.block o om⟩;have bu:m.heap.size<=s.heap.size:=li X.size;clear T aH bp bb t0 z y A D B C J F E aL X x a3;have bm:=L.o;have ad:=(P a.heap.size ay om).trans a2.o;have aw:∀b,b<4->b≠0->kE s (a.heap.size+3+b) 3 (ue d e c g b) 1 (λ_ _=>.int .i64 0):=λb p aJ=>(aq.o b p).same<|P _ om om;have ag:=ae.o.same<|P _ om om;have aX:=aA.o.same<|P _ om om;clear P bm;obtain⟨z,y,A,D,B,C,J,F,E⟩:=kH ad;have t2:s.cell? ⟨a.heap.size+1+1,2,none⟩=some (.slice (some ⟨a.heap.size+5,0,none⟩) c c):=ag.cell (i:=2) (j:=0) om om;obtain⟨U,aI,a1,aG⟩:=aw 2 om om;have a9:Hid<|s.heap[a.heap.size+5]?=some (.cells U.toList.toArray 3 (0,0)):=by show _=_;rw[aaa];exact aI
    have aD:Hid<|U.size=c:=by show _=_;rw[a1];simp[ue]
    have bl:Hid (∀b,b<c->U[b]?=some (.int .i64 0)):=λb p=>by have:=aG b 0 (show b<ue d e c g 2 from p) om;rwa[YS,YE]at this
    have bq:a.heap.size+1+1<s.heap.size:=om;have bF:a.heap.size+5<s.heap.size:=li L.o;have bV:a.heap.size<s.heap.size:=om;obtain⟨K,aZ⟩:=j5<|(i+7)/8;have ab:=h_ aZ;have bX:(K:Int)<=k.size:=li am.o;have bM:(0:Int)<=K:=om;have bD:=h_ aw;have a5:=h_ ag;have bn:=h_ aX;have bY:=h_ ad;have a0:=h_ aT;have a8:Hid<|a.heap.size+7<=s.heap.size:=by show _<=_;have:=L.o;omega
    clear aq ae aA a2 an L aw ag aX aT aC ay bu aI a1 aG ad aZ
    go_wp2_with fail
    go_region_law (first
     |(refine ki rfl 97 #[.tmp 41] #[3] rfl #[.int .i64 (i:Nat)] qU (Oj _ _) _ (zm i K ab.o _ (li N.o)) ?_;rintro ak aR ⟨rfl,rfl⟩)
     |(refine ki rfl 99 #[.tmp 43] #[9] rfl #[.string<|k.extract K k.size] (by simp[Act.eval,Act.put]) (Oi _ _) _ (Be (k.extract K k.size) l _ (by have:=ab.o;have:=am.o;simp;omega) so) ?_;rintro ak aR ⟨bO,bJ,rfl,aN,Y⟩;obtain⟨aK,bc⟩:=ke Y;have bC:aR.cell? ⟨a.heap.size+1+1,2,none⟩=some (.slice (some ⟨a.heap.size+5,0,none⟩) c c):=(by rw[aK _ _ (by simpa using bq)];simpa using t2))
     |(refine qm rfl (.tmp 38) (.tmp 44) 28 28 rfl 3 underlying28 Tryz.Bb _ _ _ _ _ _ rfl rfl (a.heap.size+5) 0 U.toList 3 ((Y.block _ (by simpa using bF)).trans a9.o) ((Pl.kJ (k.extract K k.size) 0 l).flatMap ka) (by rw[lW,Pl.kO,YS];exact(Z8 bv).symm) (λM=>⟨rfl,Bc aN (by rw[lW,Pl.kO,YS]at M;exact M)⟩) (by rw[lW,Pl.kO,Y0,aD.o];omega) (m4 _) ?_;intro q bf Q))
    all_goals
     have S:=kx Y;have bK:=Q.size;have bR:=S.size;have bP:a.heap.size+7<=s.heap.size:=a8.o;have t:∀b,b<8->q.cell? ⟨a.heap.size+1+1,b,none⟩=some (if b=4 then .int .i64 (i:Nat)else if b=6 then .int .i64 (l:Nat)else vh a.heap.size d e c g 4 b):=λb p=>by have:=((a5.o.below S om).same<|Q.block _ om).cell (i:=b) (j:=0) p om;rwa[YS,YE]at this
     have d0:q.cell? ⟨a.heap.size+1+1,0,none⟩=some (.slice (some ⟨a.heap.size+3,0,none⟩) d d):=t 0 om;have d1:q.cell? ⟨a.heap.size+1+1,1,none⟩=some (.slice (some ⟨a.heap.size+4,0,none⟩) e e):=t 1 om;have d2:q.cell? ⟨a.heap.size+1+1,2,none⟩=some (.slice (some ⟨a.heap.size+5,0,none⟩) c c):=t 2 om;have d3:q.cell? ⟨a.heap.size+1+1,3,none⟩=some (.slice (some ⟨a.heap.size+6,0,none⟩) g g):=t 3 om;have d4:q.cell? ⟨a.heap.size+1+1,4,none⟩=some (.int .i64 (i:Nat)):=t 4 om;have d5:q.cell? ⟨a.heap.size+1+1,5,none⟩=some (.int .i64 0):=t 5 om;have d6:q.cell? ⟨a.heap.size+1+1,6,none⟩=some (.int .i64 (l:Nat)):=t 6 om;have d7:q.cell? ⟨a.heap.size+1+1,7,none⟩=some (.int .i64 0):=t 7 om;have al:=h_<|(bn.o.below S om).same<|Q.block _ om;have f3:∀o,q.frozen? ⟨a.heap.size+1,o,none⟩=false:=λo=>al.o.frozen o;have u:∀b,b<8->q.cell? ⟨a.heap.size+1,b,none⟩=some (vh a.heap.size d e c g 0 b):=λb p=>by have:=al.o.cell (i:=b) (j:=0) p om;rwa[YS,YE]at this
     have bt:=u 0 om;have bo:=u 1 om;have bd:=u 2 om;have bs:=u 3 om;have a':=u 4 om;have bA:=u 5 om;have bz:=u 6 om;have bw:=u 7 om;have ai:=h_ Q;have ah:=h_ S;clear t Q Y S aK bc bC z y A D B C J F E t2 aN al u
     go_wp2_with fail
     refine Yx (v:=.agg #[.slice (some ⟨a.heap.size+3,0,none⟩) d d,.slice (some ⟨a.heap.size+4,0,none⟩) e e,.slice (some ⟨a.heap.size+5,0,none⟩) c c,.slice (some ⟨a.heap.size+6,0,none⟩) g g,.int .i64 (i:Nat),.int .i64 0,.int .i64 (l:Nat),.int .i64 0]) (by simp[results,results65,go_sem,bt,bo,bd,bs,a',bA,bz,bw]) rfl ?_;have a4:=λb (p:b<4) (aJ:b≠0) (bW:b≠2)=>((bD.o b p aJ).below ah.o om).same (ai.o.block _ (show a.heap.size+3+b≠a.heap.size+5 by omega));have bx:kE q (a.heap.size+5) 3 c 1 λb _=>.int .i64<|nM i l k 2 b:=(r7 (f:=λ_=>0) aD.o bl.o (off:=0) (vs:=Pl.kJ (k.extract K k.size) 0 l) (by rw[Pl.kO];omega) bf.o).congr λb _ _ _=>by rw[ab.o];exact LC _ _ _ _
     have bk:kE q (a.heap.size+3) 3 d 1 λb _=>.int .i64<|nM i l k 0 b:=((bE.o.below ah.o om).same (ai.o.block _ (show a.heap.size+3≠a.heap.size+5 by omega))).congr λb _ _ _=>C0 _ _ _ _;refine⟨rfl,sU bk om _ _ _ _ _ _ _ _,sU (a4 1 om om om) om _ _ _ _ _ _ _ _,sU bx om _ _ _ _ _ _ _ _,sU (a4 3 om om om) om _ _ _ _ _ _ _ _,mE (ai.o.below (a0.o.trans<|ah.o.mono a0.o.size) om) om _ _ _ _ _ _ _ _⟩
def xq(b a:Nat):Nat:=if a≠0/\(b=0\/a=b%3+1)then 1 else 0
def JX(b a:Nat):Nat:=if a≠0/\(b=0\/a=b%3+1)then a else b
def OO(b a:Nat):xq b a<=1:=by unfold xq;split<;>omega
def Tw{b a:Nat}(c:b<=3)(d:a<=3):JX b a<=3:=by unfold JX;split<;>omega
def Iu{c:b_}{a:Nat}{e h g:f_}(b d:f_)(i:c.heap[a]?=some (.cells #[e,h,g] 155)):((c.setCell (μ a 1) b).setCell (μ a 2) d).heap[a]?=some (.cells #[e,b,d] 155):=by have f:=YB c a 1 _ 155 b i;exact YB _ a 2 _ 155 d f
def strCells_eq(a:a_):Lib.strCells a=Lib.byteCells a.data.toList:=rfl

def qJ(d:b_)(e c:Nat)(b:Nat->a_):Prop:=∀a,a<c->d.cell? (μ e a)=some (.string<|b a)
def qJ.nD{a f:b_}{b e:Nat}{d:Nat->a_}(j:qJ a b e d)(g:b<a.heap.size)(h:Below a.heap.size a f):qJ f b e d:=λc i=>((ke h).1 b c g).trans (j c i)
def se(a:a_)(b:Nat):Prop:=Pl.j2 a 0=b/\Pl.j2 a 63=b
instance (s:a_) (st:Nat):Decidable (se s st):=inferInstanceAs (Decidable<|_/\_)
def kV(a:Nat->a_)(b d:Nat):Nat:=if (∀c,c<d->se (a<|b+c) (Pl.j2 (a b) 0))/\Pl.j2 (a b) 0<=3 then Pl.j2 (a b) 0 else 0
def s5(a:Nat->a_)(c b:Nat):kV a c b<=3:=by unfold kV;split<;>omega
theorem ww(o c I e v:Nat)(d:Nat->a_)(i:b_)(V:1<=e)(n:e<=100)(r:∀f,f<e->i.cell? (μ o<|c+f)=some (.string<|d<|c+f))(t:∀f,f<e->(d<|c+f).size=64)(A:v=kV d c e):
 Calls prog 120 #[.slice (some (μ o c)) e I] i λl L=>l=.returned (.int .u8 (v:Nat))/\L=i:=by
 have x:=Pl.kG<|d c;have T:0<(d c).size:=by have:=t 0 om;rw[YE]at this;omega
 obtain⟨b,j⟩:=j5<|Pl.j2 (d c) 0;have b0:=Pl.kz (d c) 0;rw[<-j]at b0;have O:i.cell? (μ o c)=some (.string<|d c):=by have:=r 0 om;rwa[YE]at this
 have U:(0:Int)<(e:Int):=om;have C:=h_ r;have F:=h_ t;have iP:=h_ A;have iQ:=h_ j;have P:∀M,((d c)[0]'M).toNat=b:=λM=>by rw[x,j]
 clear r t A j x
 go_enter func120,ntmps120
 go_wp2_with fail
 go_loopw [12] (λf wr=>∃q:Nat,q<=e/\f=ν q/\i=wr/\∀g,g<q->se (d<|c+g) b) (λf _=>e-(intOf f).toNat)
 case atStart=>exact⟨0,om,rfl,rfl,λg y=>absurd y (Zh _)⟩
 case round=>
  obtain⟨q,N,rfl,rfl,z⟩:=hrel;have u:=h_ z;clear z;by_cases iR:q<e
  .have E:=C.o q iR;have s:=F.o q iR;obtain⟨a,m⟩:=j5<|d<|c+q;rw[<-m]at E s;have jm:=h_ m;have S:=Pl.kG a;have R:=Pl.kz a 0;have Q:=Pl.kz a 63;have W:0<a.size:=om;have w:=h_ s;clear m s;by_cases h:Pl.j2 a 0=b
   .have K:((Pl.j2 a 0:Int)!=(b:Int))=false:=so;by_cases k:Pl.j2 a 63=b
    .have J:((Pl.j2 a 63:Int)!=(b:Int))=false:=so;have D:Hid<|se a b:=⟨h,k⟩;clear h k
     go_wp2_with fail
     refine(xX a _ w.o).mono ?_;rintro l B ⟨rfl,rfl⟩
     go_wp2_with fail
     go_roundw
     case rel=>exact⟨q+1,om,gn,trivial,λg y=>by
      rcases Zj g q with M|M
      .exact u.o g M
      .obtain rfl:g=q:=om
       rw[<-jm.o];exact D.o⟩
     case measure=>simp[intOf];omega
    .have J:((Pl.j2 a 63:Int)!=(b:Int))=true:=so;have cZ:Hid<|¬se a b:=λM=>k M.2;clear h k
     go_wp2_with fail
     refine(xX a _ w.o).mono ?_;rintro l B ⟨rfl,rfl⟩;go_wp2;exact Rh
   .have K:((Pl.j2 a 0:Int)!=(b:Int))=true:=so;have cZ:Hid<|¬se a b:=λM=>h M.1;clear h
    go_wp2_with fail
    exact Rh
  .obtain rfl:q=e:=om;by_cases n:b<=3
   .have t3:decide ((3:Int)<(b:Int))=false:=so;go_wp2;go_ret;exact⟨Wy (by rw[iP.o];unfold kV;rw[<-iQ.o,Ys ⟨u.o,n⟩]),rfl⟩
   .have t3:(3:Int)<(b:Int):=om;go_wp2;go_ret;exact⟨Wy (by rw[iP.o];unfold kV;rw[<-iQ.o,Yo λM=>n M.2];rfl),rfl⟩
def ro(g f d b a c:Nat)(e:b_)(s:d<=b)(p:2*a<=d)(o:d<=1000)(m:1<=a)(n:c<=1)(r:e.cell? (μ g 0)=some (ν a)):
 Calls prog 95 #[π g,.slice (some (μ f 0)) d b,ν c] e λh k=>h=.returned (.slice (some (μ f<|c*a)) a<|b-c*a)/\∃j,k=e.drewN j:=by
 have v:(a:Int)<=(d:Int):=om;have l:(2:Int)*(a:Int)<=(d:Int):=om;have t:(a:Int)<=(b:Int):=om;have u:(2:Int)*(a:Int)<=(b:Int):=om;have q:¬b=a:=om;have i:2*a-a=a:=om;rcases(show c=0\/c=1 by omega)with rfl|rfl
 .rw[Z3,aaK]
  go_enter func95,ntmps95
  go_wp2
  go_quiet (fail)
  go_wp2;go_ret;exact⟨rfl,_,rfl⟩
 .rw[aa8]
  go_enter func95,ntmps95
  go_wp2
  go_quiet (fail)
  go_wp2;go_ret;refine⟨?_,_,rfl⟩;show Ending.returned (.slice (some (μ f a)) (2*a-a)<|b-a)=_;rw[i]
def catC(a:Nat->a_)(b:Nat):Nat->a_
 |0=>⟨#[]⟩
 |q+1=>catC a b q++(a<|b+q).extract 1 63
def pe(c:Nat->a_)(d a:Nat)(e:∀b,b<a->(c<|d+b).size=64):(catC c d a).size=62*a:=by
 induction a with
 |zero=>rfl
 |succ a f=>rw[catC,Zd,f λb g=>e b om,YM];have:=e a om;omega
def xr(b a:a_):Lib.strCells (b++a)=Lib.strCells b++Lib.strCells a:=by rw[strCells_eq,strCells_eq,strCells_eq];unfold Lib.byteCells;rw[ZM,aah,ZI]
def Bx(h c S f:Nat)(d:Nat->a_)(b:b_)(ae:1<=f)(ad:f<=100)(y:∀e,e<f->b.cell? (μ h<|c+e)=some (.string<|d<|c+e))(K:h<b.heap.size)(D:∀e,e<f->(d<|c+e).size=64):
 Calls prog 94 #[.slice (some (μ h c)) f S] b λg Y=>g=.returned (.string<|catC d c f)/\Below b.heap.size b Y:=by
 let⟨M,m⟩:=j5<|b.alloc<|.cells #[.pointer none,σ] 203;have n:=ba m;have x:Lib.IsBuilder 203 5 b.heap.size b.heap.size [] M:=by rw[m];exact Lib.fresh_isBuilder 203 5 b
 have Z:=n.size;have N:=h_ n;have V:=h_ x;have p:=h_ D;have J:=h_ y;clear n x D y
 go_enter func94,ntmps94
 go_wp2_with fail
 rw[<-m];clear m
 go_loopw [8] (λe wr=>∃a:Nat,a<=f/\e=ν a/\Lib.IsBuilder 203 5 b.heap.size b.heap.size (Lib.strCells<|catC d c a) wr/\Below b.heap.size b wr) (λe _=>f-(intOf e).toNat)
 case atStart=>exact⟨0,YG _,rfl,V,N⟩
 case round=>
  obtain⟨a,aa,rfl,E,B⟩:=hrel;have C:=h_ E;have k:=h_ B;clear E B;by_cases s:a<f
  .have O:=((ke k).1 h _ K).trans<|J a s;have z:=p a s;let⟨w,o⟩:=j5<|d<|c+a;rw[<-o]at O z;have ag:(1:Nat)<=63/\63<=w.size:=om;let⟨i,l⟩:∃i:a_,i=w.extract 1 63:=⟨_,rfl⟩;have A:i.size=62:=by rw[l,YM];omega
   have j:=pe d c a λe F=>p e om;have R:Hid<|catC d c (a+1)=catC d c a++i:=by show _=_;rw[l,o];rfl
   have q:(Lib.strCells<|catC d c a).length=62*a:=by rw[strCells_eq,Z2,<-Z',j]
   have L:=h_ q;have P:=h_ l;have Q:=h_ A;have ab:=k.o.size;clear o z l A j q
   go_wp2_with fail
   try rw[<-P.o]
   refine(Go.Proofs.Any.Builder_WriteString {EO with} Ba b.heap.size b.heap.size (Lib.strCells<|catC d c a) i _ C (by rw[Q.o,L.o];omega) om).mono ?_;rintro g af ⟨rfl,v,t⟩;have W:=h_ v;have X:=h_<|k.o.trans t;clear v t
   go_wp2_with fail
   go_roundw
   case rel=>exact⟨a+1,om,gn,.inr (by rw[R.o,xr];exact W),X⟩
   case measure=>exact mz
  .obtain rfl:a=f:=om;have j:=pe d c a λe F=>p e om;have U:=h_ j;clear j
   go_wp2_with fail
   refine(Go.Proofs.Any.Builder_String {EO with} Ba b.heap.size b.heap.size (catC d c a).data.toList _ (by rw[<-strCells_eq];exact C) (by intro g;have I:=U;have u:(catC d c a).data.toList.length=62*a:=I;rw[g]at u;simp at u;omega)).mono ?_;rintro g ac ⟨rfl,r⟩;have T:=h_<|k.o.trans r;clear r;go_wp2;go_ret;exact⟨rfl,T⟩
def yo(c n i o a d f j h:Nat)(m:Nat->a_)(g:b_)(F:i<=o)(w:2*a<=i)(am:i<=64)(s:1<=a)(z:g.heap[c]?=some (.cells #[ν a,ν 0,.int .u8 0] 155))(hF:qJ g n i m)(I:∀J,J<i->(m J).size=64)
 (B:d=kV m 0 a) (D:f=kV m a a) (Q:j=xq d f) (S:h=JX d f):
 Calls prog 92 #[π c,.slice (some (μ n 0)) i o] g λk T=>k=.returned (.tuple #[])/\T.heap[c]?=some (.cells #[ν a,ν j,.int .u8 (h:Nat)] 155)/\kf c g T:=by
 have ar:d<=3:=by rw[B];exact s5 _ _ _
 have ak:f<=3:=by rw[D];exact s5 _ _ _
 have L:=h_ hF;have N:=h_ I;have ab:=h_ B;have X:=h_ D;have x:=h_ Q;have r:=h_ S;obtain⟨b0,W,Z,Y⟩:=l8 z;have aa:=h_ z;clear hF I B D Q S z
 go_enter func92,ntmps92
 go_wp2_with fail
 refine(ro c n i o a 0 _ F w om s om b0).mono ?_;rintro k ag ⟨R,U,rfl⟩;rw[Z3,aaK]at R;subst R
 go_wp2_with fail
 refine(ww n 0 o a d m _ s om (by intro l C;exact L.o (0+l) om) (λl C=>N.o (0+l) om) ab.o).mono ?_;rintro k ai ⟨rfl,rfl⟩
 go_wp2_with fail
 refine(ro c n i o a 1 _ F w om s om (by simpa using b0)).mono ?_;rintro k av ⟨E,V,rfl⟩;rw[aa8]at E;subst E
 go_wp2_with fail
 refine(ww n a (o-a) a f m _ s om (by intro l C;exact L.o (a+l) om) (λl C=>N.o (a+l) om) X.o).mono ?_;rintro k an ⟨rfl,rfl⟩;obtain⟨v,q⟩:=j5<|g.drewN<|U+V;rw[<-q];have y:Hid<|v.heap[c]?=some (.cells #[ν a,ν 0,.int .u8 0] 155):=by show _=_;rw[q];simpa using aa.o
 have P:Hid<|kf c g v:=by rw[q];exact(kf.refl c g).drewN _
 obtain⟨af,ao,au,ap⟩:=l8 y.o;clear q b0 W Z Y;have O:∀p t:f_,p=ν j->t=.int .u8 (h:Nat)->((v.setCell (μ c 1) p).setCell (μ c 2) t).heap[c]?=some (.cells #[ν a,ν j,.int .u8 (h:Nat)] 155)/\kf c g ((v.setCell (μ c 1) p).setCell (μ c 2) t):=by rintro p t rfl rfl;exact⟨Iu _ _ y.o,(P.o.setCell _ _).setCell _ _⟩
 have jH:=h_ O;clear O;rcases ZR f with rfl|aj
 .have fc:Hid<|j=0/\h=d:=by have b:=x.o;have e:=r.o;unfold xq at b;unfold JX at e;simp at b e;exact⟨b,e⟩
  rcases ZR d with rfl|ad
  .go_wp2
   go_end0
   refine⟨rfl,?_,P.o⟩;rw[fc.o.1,fc.o.2];exact y.o
  .have ac:((d:Int)!=0)=true:=so;exact GB
 .have ah:((f:Int)!=0)=true:=so;rcases ZR d with rfl|ad
  .have fc:Hid<|j=1/\h=f:=by have b:=x.o;have e:=r.o;unfold xq at b;unfold JX at e;rw[Ys ⟨om,.inl rfl⟩]at b e;exact⟨b,e⟩
   exact GB
  .have ac:((d:Int)==0)=false:=so;have aq:((d:Int)!=0)=true:=so;obtain⟨A,K⟩:=j5<|d%3+1;have u:=h_ K;clear K;by_cases w:f=A
   .have fc:Hid<|j=1/\h=f:=by have b:=x.o;have e:=r.o;have:=u.o;unfold xq at b;unfold JX at e;rw[Ys ⟨om,.inr om⟩]at b e;exact⟨b,e⟩
    subst w
    go_wp2_with fail
    refine(xD d f u.o _ om).mono ?_;rintro k ae ⟨rfl,rfl⟩;exact GB
   .have fc:Hid<|j=0/\h=d:=by have b:=x.o;have e:=r.o;have:=u.o;unfold xq at b;unfold JX at e;rw[Yo om]at b e;exact⟨b,e⟩
    have al:((f:Int)==(A:Int))=false:=so
    go_wp2_with fail
    refine(xD d A u.o _ om).mono ?_;rintro k ae ⟨rfl,rfl⟩;exact GB
def mH(d:Nat->a_)(b c e f:Nat):List Ac:=((List.range f).filter λa=>Pl.j2 (d<|c*b+a) 63==e).map λa=>(0,((c*b+a:Nat):Int),0,nb 0 ⟨#[]⟩)
def Dj(d:Nat->a_)(a c e b:Nat):mH d a c e (b+1)=mH d a c e b++(if Pl.j2 (d<|c*a+b) 63=e then [(0,((c*a+b:Nat):Int),0,nb 0 ⟨#[]⟩)]else []):=by unfold mH;rw[aax,List.filter_append,ZI];congr 1;by_cases f:Pl.j2 (d<|c*a+b) 63=e<;>simp[f]
def yp(c:Nat->a_)(b e d a:Nat):(mH c b e d a).length<=a:=by unfold mH;rw[Zx];have:=List.length_filter_le (λf=>Pl.j2 (c<|e*b+f) 63==d)<|List.range a;simpa using this
def rdS(b:Nat->a_)(a d c:Nat):Nat->Nat×Nat×List Ac
 |0=>(d,c,[])
 |q+1=>(((rdS b a d c q).1+1)%2,(rdS b a d c q).2.1%3+1,(rdS b a d c q).2.2++mH b a (((rdS b a d c q).1+1)%2) ((rdS b a d c q).2.1%3+1) a)
def yq(c:Nat->a_)(a d e:Nat)(f:d<=1)(g:e<=3):∀b,(rdS c a d e b).1<=1/\(rdS c a d e b).2.1<=3/\(rdS c a d e b).2.2.length<=b*a:=by
 intro b
 induction b with
 |zero=>exact⟨f,g,by simp[rdS]⟩
 |succ b h=>
  have:=yp c a (((rdS c a d e b).1+1)%2) ((rdS c a d e b).2.1%3+1) a;refine⟨?_,?_,?_⟩
  .show((rdS c a d e b).1+1)%2<=1;omega
  .show(rdS c a d e b).2.1%3+1<=3;omega
  .show((rdS c a d e b).2.2++mH c a _ _ a).length<=_;rw[Yv,aa9];omega
def kN(a:Nat->a_)(b d c:Nat):List Ac:=if (rdS a b d c 2).2.2=[]then []else(rdS a b d c 2).2.2++[(1,0,0,⟨#[]⟩)]
def ts(o p t n a e d:Nat)(b:Nat->a_)(g:b_)(S:t<=n)(a3:2*a<=t)(bx:t<=64)(aO:1<=a)(y:g.heap[o]?=some (.cells #[ν a,ν e,.int .u8 (d:Nat)] 155))(a9:e<=1)(a7:d<=3)(bf:p<g.heap.size)
 (hF:qJ g p t b) (ad:∀ae,ae<t->(b ae).size=64):
 Calls prog 96 #[π o,.slice (some (μ p 0)) t n] g λi ao=>∃an,i=.returned an/\ao.ownsRow g.heap.size 77 4 an (kN b a e d).length ((kN b a e d).flatMap ku)/\Below g.heap.size g ao:=by
 obtain⟨aq,az,aG,ax,am⟩:=Y4 Tryz.po;have aB:=Yn y;have aN:=h_ hF;have a1:=h_ ad;have ai:=h_ y;have a8:=h_<|yq b a e d a9 a7;obtain⟨b0,aL,aX,aV⟩:=l8 y;clear hF ad y
 go_enter func96,ntmps96
 go_wp2_with fail
 go_quiet (fail)
 go_wp2_with fail
 go_loopw [18,6,7,5] (λq aT bd R wr=>∃(c:Nat),c<=2/\q=ν c/\aT=ν ((rdS b a e d c).1:Nat)/\bd=.int .u8 ((rdS b a e d c).2.1:Nat)/\wr.ownsRow g.heap.size 77 4 R (rdS b a e d c).2.2.length ((rdS b a e d c).2.2.flatMap ku)/\Below g.heap.size g wr) (λq _ _ _ _=>2-(intOf q).toNat)
 case atStart=>exact⟨0,om,rfl,rfl,rfl,Yq _ _ _ _,YL br _⟩
 case round=>
  clear b0 aL aX aV;obtain⟨c,aS,rfl,rfl,rfl,B,J⟩:=hrel;obtain⟨aR,a0,aY⟩:=a8.o c;have m:rdS b a e d (c+1)=(((rdS b a e d c).1+1)%2,(rdS b a e d c).2.1%3+1,(rdS b a e d c).2.2++mH b a (((rdS b a e d c).1+1)%2) ((rdS b a e d c).2.1%3+1) a):=rfl;obtain⟨aF,ag⟩:=j5<|(rdS b a e d c).1;obtain⟨aD,u⟩:=j5<|(rdS b a e d c).2.1;obtain⟨h,O⟩:=j5<|(rdS b a e d c).2.2;rw[<-ag]at aR m⊢;rw[<-u]at a0 m⊢;rw[<-O]at aY B m;have af:=h_ O;clear ag u O;have bl:=J.size;have z:=h_ B;have C:=h_ J;obtain⟨ac,ab,rfl,_⟩:=i_ B;have K:=(J.block o aB).trans ai.o;obtain⟨ap,aW,bh,a2⟩:=l8 K;have aC:=h_ K;have aj:=h_ m;clear B J K m;have bp:h.length<=200:=by have:c*a<=2*a:=ZB _ aS;omega
  by_cases bs:c<2
  .have a6:(c:Int)<2:=om;obtain⟨j,N⟩:=j5<|(aF+1)%2;obtain⟨l,U⟩:=j5<|aD%3+1;have m:=aj.o;rw[<-N,<-U]at m;have P:=h_ m;have bj:j<=1:=om;have bq:l<=3:=om;have bb:j*a<=a:=by rcases(show j=0\/j=1 by omega)with aA|aA<;>rw[aA]<;>omega
   have ah:=h_ N;have aa:=h_ U;clear N U m aj af
   go_wp2_with fail
   refine(Cu aF j ah.o _ om).mono ?_;rintro i bv ⟨rfl,rfl⟩
   go_wp2_with fail
   refine(xD aD l aa.o _ om).mono ?_;rintro i bw ⟨rfl,rfl⟩;clear ah aa
   go_wp2_with fail
   refine(ro o p t n a j _ S a3 om aO bj ap).mono ?_;rintro i x ⟨rfl,bm,D⟩;obtain⟨r,M⟩:=j5<|j*a;rw[<-M]at bb⊢;have a5:Hid<|x.ownsRow g.heap.size 77 4 (.slice ac h.length ab) h.length<|h.flatMap ku:=by rw[D];exact jV z.o λp _=>by simp
   have au:Hid<|Below g.heap.size g x:=by rw[D];exact YL C.o _
   have bn:=au.o.size;have a':Hid<|x.heap[o]?=some (.cells #[ν a,ν e,.int .u8 (d:Nat)] 155):=by show _=_;rw[D];simpa using aC.o
   have bk:o<x.heap.size:=Yn a'.o;have Z:=h_ M;clear D ap aW bh a2 z C aC M
   go_wp2_with fail
   go_loopw [29,5] (λq R wr=>∃f:Nat,f<=a/\q=ν f/\wr.ownsRow g.heap.size 77 4 R (h++mH b a j l f).length ((h++mH b a j l f).flatMap ku)/\Below g.heap.size g wr) (λq _ _=>a-(intOf q).toNat)
   case atStart=>exact⟨0,YG _,rfl,by show x.ownsRow _ _ _ _ (h++[]).length ((h++[]).flatMap ku);rw[Zy];exact a5.o,au.o⟩
   case round=>
    obtain⟨f,bB,rfl,A,Q⟩:=hrel;have aJ:=yp b a j l f;have ak:=Dj b a j l f;obtain⟨W,I⟩:=j5<|h++mH b a j l f;have bA:W.length<=400:=by rw[I,Yv];omega
    rw[<-I]at A;have X:=h_ A;have v:=h_ Q;have bt:=Q.size;have Y:=h_ I;have ay:=h_ ak;obtain⟨aI,a4,rfl,_⟩:=i_ A;clear A Q aJ ak I;by_cases bu:f<a
    .have aE:wr.cell? (μ p<|r+f)=some (.string<|b<|r+f):=((ke v.o).1 p _ bf).trans<|aN.o (r+f) om;have T:=a1.o (r+f) om;obtain⟨E,u⟩:=j5<|b<|r+f;rw[<-u]at aE T;have ar:=h_ u;have aQ:=h_ T;clear u T
     go_wp2_with fail
     refine(xX E _ aQ.o).mono ?_;rintro i bz ⟨rfl,rfl⟩;by_cases F:Pl.j2 E 63=l
     .have aM:((Pl.j2 E 63:Int)==(l:Int))=true:=so;have V:=h_ F;clear F
      go_wp2_with fail
      refine(uC o a j f 0 _ _ ⟨#[]⟩ _ ((v.o.block o aB).trans ai.o) om om om om).mono ?_;rintro i bi ⟨rfl,L⟩;have av:=h_<|jY X.o L;have aH:=h_<|jZ v.o L;have bo:=aH.o.size;rw[<-Z.o];clear L aE
      go_wp2_with (at_builtin;refine Zl _ rfl (.tmp 38) (.tmp 43) 31 rfl g.heap.size 77 aq _ 4 40 underlying31 az aG ax am rfl dc (.slice aI W.length a4) W.length _ rfl (av.o.alloc _) (μ bi.heap.size 0) 1 1 (ku (0,((r+f:Nat):Int),0,nb 0 ⟨#[]⟩)) rfl rfl (lR _ _ _ _ _ _) (by have:=oC [(0,((r+f:Nat):Int),0,nb 0 ⟨#[]⟩)];simpa using this) ml om so ?_;intro aU be w k _;obtain⟨aP,aK,rfl,_⟩:=i_ w)
      go_roundw
      case rel=>
       refine⟨f+1,om,gn,?_,?_⟩
       .rw[ay.o,<-Z.o,<-ar.o,Ys V.o,<-aaz,<-Y.o,YX,Yv];simpa using w
       .exact(jT aH.o _).trans ⟨k.os,k.tape,k.output,k.size,λn S=>k.block n so (λi=>by have:=(av.o.lt n i.symm).1;omega)⟩
      case measure=>simp[intOf];omega
     .have aM:((Pl.j2 E 63:Int)==(l:Int))=false:=so;have V:=h_ F;clear F
      go_wp2_with fail
      go_roundw
      case rel=>refine⟨f+1,om,gn,?_,v.o⟩;rw[ay.o,<-Z.o,<-ar.o,Yo V.o,Zy,<-Y.o];exact X.o
      case measure=>simp[intOf];omega
    .obtain rfl:f=a:=om
     go_wp2_with fail
     go_roundw
     case rel=>
      refine⟨c+1,om,gn,?_,?_,?_,v.o⟩
      .rw[P.o]
      .rw[P.o]
      .rw[P.o];simp only;rw[<-Y.o];exact X.o
     case measure=>simp[intOf];omega
  .have a6:decide ((c:Int)<2)=false:=so;obtain rfl:c=2:=om;have al:kN b a e d=if h=[]then []else h++[(1,0,0,⟨#[]⟩)]:=by unfold kN;rw[<-af.o]
   have aw:=h_ al;clear al;rcases ZR h.length with s|s
   .have bg:((h.length:Int)==0)=true:=by simp[s]
    have aZ:=h_ s;clear s;go_wp2;go_ret;refine⟨_,rfl,?_,C.o⟩;rw[aw.o,Ys<|YV aZ.o];exact Yq _ _ _ _
   .have bg:((h.length:Int)==0)=false:=by simp;intro i;simp[i]at s
    have bc:Hid<|¬h=[]:=λi=>by rw[i]at s;simp at s
    go_wp2_with (at_builtin;refine Zl _ rfl (.tmp 50) (.tmp 52) 31 rfl g.heap.size 77 aq _ 4 40 underlying31 az aG ax am rfl dc (.slice ac h.length ab) h.length _ rfl (z.o.alloc _) (μ wr.heap.size 0) 1 1 (ku (1,0,0,⟨#[]⟩)) rfl rfl (lR _ _ _ _ _ _) (by have:=oC [(1,0,0,⟨#[]⟩)];simpa using this) ml om so ?_;intro aU be w k _;obtain⟨aP,aK,rfl,_⟩:=i_ w)
    go_ret;refine⟨_,rfl,?_,?_⟩
    .rw[aw.o,Yo bc.o,YX,Yv];simpa using w
    .exact(jT C.o _).trans ⟨k.os,k.tape,k.output,k.size,λn S=>k.block n so (λi=>by have:=(z.o.lt n i.symm).1;omega)⟩
def lM(b:Nat->a_)(a:Nat):Nat:=xq (kV b 0 a) (kV b a a)
def o1(b:Nat->a_)(a:Nat):Nat:=JX (kV b 0 a) (kV b a a)
def ly(c a:Nat)(b:Nat->a_):a_:=if o1 b a=0 then ql c else(catC b (lM b a*a) a).extract 0 c
def sK(a:Nat->a_)(b:Nat):lM a b<=1:=OO ..
def xN(a:Nat->a_)(b:Nat):o1 a b<=3:=Tw (s5 ..) (s5 ..)
def Fu(c a e:Nat)(b:Nat->a_)(h:c<=62*a)(i:2*a<=e)(g:∀d,d<e->(b d).size=64):(ly c a b).size=c:=by
 unfold ly;split
 .exact CB c
 .have j:=sK b a;have l:lM b a*a<=a:=by rcases(show lM b a=0\/lM b a=1 by omega)with f|f<;>rw[f]<;>omega
  rw[YM,pe b _ _ (λk m=>g _ om)];omega
def zy(d a h g i e f:Nat)(c:Nat->a_)(k:b_)(aI:d<=186)(T:a=max 1 ((d+61)/62))(o:g<=i)(w:2*a<=g)(J:g<=64)(ae:h<k.heap.size)(hF:qJ k h g c)(Z:∀W,W<g->(c W).size=64)
 (N:e=lM c a) (O:f=o1 c a):
 Calls prog 62 #[ν d,.slice (some (μ h 0)) g i] k λl Q=>∃y,l=.returned (.tuple #[π k.heap.size,.string<|ly d a c,y])/\
  Q.heap[k.heap.size]?=some (.cells #[ν a,ν e,.int .u8 (f:Nat)] 155)/\Q.ownsRow k.heap.size 77 4 y (kN c a e f).length ((kN c a e f).flatMap ku)/\Below k.heap.size k Q:=by
 have I:e<=1:=by rw[N];exact sK ..
 have ai:f<=3:=by rw[O];exact xN ..
 have r:1<=a:=om;have ax:a<=4:=om;have aO:d<=62*a:=om;have am:=h_ N;have C:=h_ O;have ar:=h_ T;have Y:=h_ hF;have q:=h_ Z;clear N O T hF Z
 go_enter func62,ntmps62
 go_wp2_with fail
 refine(uy d a ar _ om).mono ?_;rintro l b ⟨rfl,rfl⟩;obtain⟨af,p⟩:=j5<|b.alloc<|.cells #[ν a,ν 0,.int .u8 0] 155;have aN:af.heap.size=b.heap.size+1:=by rw[p];simp
 have z:=ba p;have ah:=v' p
 go_wp2_with fail
 rw[<-p];clear p;refine(yo b.heap.size h g i a _ _ e f c af o w J r ah (Y.o.nD ae z) q rfl rfl am C).mono ?_;rintro l V ⟨rfl,an,m⟩;have aG:=m.size;have aa:=z.trans ⟨m.os,m.tape,m.output,m.size,λi o=>m.block i om om⟩;clear z ah m
 go_wp2_with fail
 refine(EP ⟨#[0]⟩ d V om (by show 1*d<=_;omega)).mono ?_;rintro l A ⟨rfl,t⟩;have aH:=t.size;have E:=(t.block b.heap.size om).trans an;have P:=jZ aa t;have S:=h_ P;have u:=h_ E;have D:=h_<|Y.o.nD ae P;let⟨ac,aq,ao,aE⟩:=l8 E;clear t aa an P E;rcases ZR f with x|x
 .have L:Hid<|ly d a c=ql d:=by show _=_;unfold ly;rw[Ys (by rw[<-C.o];exact x)]
  have az:((f:Int)!=0)=false:=so;clear x
  go_wp2_with fail
  refine(ts b.heap.size h g i a e f c A o w J r u.o I ai om D.o q.o).mono ?_;rintro l K ⟨U,rfl,ag,j⟩;have aB:=h_<|j9 (B:=b.heap.size) ag om;have M:=h_<|jZ S.o j;have av:=h_<|(j.block b.heap.size om).trans u.o;clear ag j;go_wp2;refine Yx (v:=.tuple #[π b.heap.size,.string<|ql d,U]) (by simp[results,results62,go_sem,ql]) rfl ⟨U,by rw[L.o],av.o,aB.o,M.o⟩
 .have az:((f:Int)!=0)=true:=so;have aF:e*a<=a:=by rcases(show e=0\/e=1 by omega)with ad|ad<;>rw[ad]<;>omega
  obtain⟨n,v⟩:∃n:a_,n=catC c (e*a) a:=⟨_,rfl⟩;have aw:n.size=62*a:=by rw[v];exact pe c _ _ (λal ab=>q _ om)
  have aK:(d:Int)<=(n.size:Int):=om;have L:Hid<|ly d a c=n.extract 0 d:=by show _=_;unfold ly;rw[Yo (by rw[<-C.o];omega),<-am,v]
  have ap:=h_ v;clear x v aw
  go_wp2_with fail
  refine(ro b.heap.size h g i a e _ o w om r I ac).mono ?_;rintro l K ⟨rfl,aM,R⟩;have j:Below A.heap.size A K:=by rw[R];exact YL br _
  have ax:=j.size;have M:=h_ j;have au:=h_<|D.o.nD om j;clear R j ac aq ao aE
  go_wp2_with fail
  refine(Bx h (e*a) _ a c K r om (λal ab=>au _ om) om (λal ab=>q _ om)).mono ?_;rintro l aD ⟨rfl,X⟩;rw[<-ap.o];have s:=h_<|jZ M X;have aJ:=s.o.size;clear X
  go_wp2_with fail
  refine(ts b.heap.size h g i a e f c aD o w J r ((s.o.block _ om).trans u.o) I ai om (D.o.nD om s.o) q.o).mono ?_;rintro l aL ⟨ak,rfl,aj,F⟩;have ay:=h_<|j9 (B:=b.heap.size) aj om;have aC:=h_<|jZ (jZ S.o s.o) F;have aA:=h_<|(F.block b.heap.size om).trans<|(s.o.block _ om).trans u.o;clear aj F;go_wp2;refine Yx (v:=.tuple #[π b.heap.size,.string<|n.extract 0 d,ak]) (by simp[results,results62,go_sem]) rfl ⟨ak,by rw[L.o],aA.o,ay.o,aC.o⟩

def left(a:Nat->Nat):Nat->List Nat
 |0=>List.replicate 8 0
 |j+1=>(left a j).set (a j) (j+1)
structure Ds where
 dk:Nat->a_
 wet:List Ac
 told:Nat
def pQ(c:Nat->a_)(a:Ac):Nat->a_:=λb=>if b=a.2.1.toNat then a.2.2.2 else c b
def LY(a:Ds)(b:Ac):Ds:=
 if b.1=0 then{a with wet:=a.wet++[b]}else if b.1=1 then{a with dk:=a.wet.foldl pQ a.dk,wet:=[]}else{a with told:=a.told+1}
def oP(a:List Int)(b:Nat):Pl.j2 (bytesOf a) b=(a.getD b 0).toNat%256:=by
 rw[lr];unfold bytesOf;rw[Yt,Yt,Y9]
 cases a[b]? with
 |none=>rfl
 |some c=>simp
def By(a:List Int):(bytesOf a).size=a.length:=by simp[bytesOf,ByteArray.size]
def nh(b:Nat)(a:a_):(nb b a).size=64:=by unfold nb;rw[By,x5]
def Bz(a:Nat)(b:a_):Pl.j2 (nb a b) 0=a%256:=by unfold nb;rw[oP];simp[tO]
def BA(a:Nat)(b:a_):Pl.j2 (nb a b) 63=a%256:=by
 unfold nb;rw[oP];have:(tO a b).getD 63 0=(a:Int):=by unfold tO;rw[Yt,YP<|by simp[Bi]];simp[Bi]
 rw[this];simp
def OP(c:Nat)(b:a_)(a:Nat)(d:a<62):Pl.j2 (nb c b) (1+a)=Pl.j2 b a:=by
 unfold nb;rw[oP];have:(tO c b).getD (1+a) 0=((Pl.j2 b a:Nat):Int):=by unfold tO;rw[Yt,YK (by simp[Bi];omega),YP si];simp[Bi,d]
 rw[this];have:=Pl.kz b a;simp;omega
def Iv(b:List Nat):∀a,a<b.length->(m5 b).getD (2*a) 0=((b.getD a 0/256:Nat):Int)/\(m5 b).getD (2*a+1) 0=((b.getD a 0%256:Nat):Int):=by
 induction b with
 |nil=>intro a c;simp at c
 |cons d b f=>
  intro a c;have e:m5 (d::b)=((d/256:Nat):Int)::((d%256:Nat):Int)::m5 b:=rfl;rw[e]
  cases a with
  |zero=>exact⟨rfl,rfl⟩
  |succ a=>have:=f a (by simpa using c);have g:2*(a+1)=2*a+1+1:=om;rw[g];simpa using this
def Iw(a:List Nat)(f:∀g∈a,g<65536)(b:Nat)(c:b<a.length):Pl.wd (lp a) (2*b)=a.getD b 0:=by
 let⟨e,d⟩:=Iv a b c;unfold Pl.wd lp;rw[oP,oP,e,d];have:a.getD b 0<65536:=by rw[Yt,Yw c];exact f _ (aan c)
 simp only[Int.toNat_natCast];omega
def XW(b:List Ac):∀(a:Ds),(∀c∈b,c.1=2)->b.foldl LY a={a with told:=a.told+b.length}:=by
 induction b with
 |nil=>intro a _;rfl
 |cons c b f=>
  intro a d;have i:=d c si;have e:LY a c={a with told:=a.told+1}:=by unfold LY;rw[Yo om,Yo om]
  rw[aa1,e,f _ (λh g=>d h<|by simp[g])];simp only[YA];rw[show a.told+1+b.length=a.told+(b.length+1)by omega]
def nk(c b:a_)(a:Nat):a_:=c.extract 0 a++b.extract a 64
def Fv{c a:a_}{b:Nat}(f:c.size=64)(d:a.size=64)(e:b<=64):(nk c a b).size=64:=by unfold nk;rw[Zd,YM,YM];omega
def tV{d a:a_}(c:a.size=64):nk d a 0=a:=by unfold nk;rw[ab8.2 om,ByteArray.empty_append];have:=abj (b:=a);rw[c]at this;exact this
def tW{a c:a_}(d:a.size=64)(f:c.size=64):nk a c 64=a:=by have e:c.extract 64 64=ByteArray.empty:=ab8.2 om;unfold nk;rw[e,ByteArray.append_empty];have:=abj (b:=a);rw[d]at this;exact this
def GX{b c:a_}{a:Nat}(f:b.size=64)(e:a<=64)(d:0<a):Pl.j2 (nk b c a) 0=Pl.j2 b 0:=by unfold nk;rw[lr,ZM,aah,Yt,YK (by rw[Y0];show 0<ByteArray.size _;rw[YM];omega),<-Yt,<-lr,Pl.ld _ 0 a 0 om om]
def LZ{c b:a_}{a:Nat}(g:c.size=64)(e:b.size=64)(f:a<64):Pl.j2 (nk c b a) 63=Pl.j2 b 63:=by
 have d:(c.extract 0 a).data.toList.length=a:=by rw[Y0];show ByteArray.size _=a;rw[YM];omega
 unfold nk;rw[lr,ZM,aah,Yt,YP<|p1 d,d,<-Yt,<-lr,Pl.ld _ a 64 (63-a) om om,show a+(63-a)=63 by omega]
def OQ{b c:a_}(g:b.size=c.size)(f:∀a,a<b.size->Pl.j2 b a=Pl.j2 c a):b=c:=by apply Z6;apply Array.ext g;intro a d e;have:=f a d;rw[lr,lr]at this;rw[Yt,Yt,Yw (by simpa using d),Yw<|by simpa using e]at this;simp only[Option.getD_some,Array.getElem_toList]at this;exact UInt8.toNat_inj.1 this
def rT(f a:Nat)(b:Nat->a_)(e d:Nat)(c:a_):Prop:=lM b a=e/\o1 b a=d/\ly f a b=c
def Si(b:Nat)(c:Nat->a_)(e d:Nat):Prop:=(∀a,a<b->Pl.j2 (c<|(1-e)*b+a) 63≠d%3+1)/\∀a,a<b->Pl.j2 (c<|e*b+a) 63≠(d%3+1)%3+1
def n5{d f:Nat->a_}{b c:Nat}(j:1<=c)(g:∀a,a<c->f (b+a)=d (b+a)):kV f b c=kV d b c:=by
 have i:f b=d b:=by have:=g 0 om;rwa[YE]at this
 unfold kV;rw[i];have:(∀a,a<c->se (f<|b+a) (Pl.j2 (d b) 0))↔(∀a,a<c->se (d<|b+a) (Pl.j2 (d b) 0)):=⟨λh a e=>by rw[<-g a e];exact h a e,λh a e=>by rw[g a e];exact h a e⟩;simp only[this]
def Fw{e d:Nat->a_}{c:Nat}:∀{a:Nat},(∀b,b<a->d (c+b)=e (c+b))->catC d c a=catC e c a:=by
 intro a
 induction a with
 |zero=>intro _;rfl
 |succ a g=>intro f;rw[catC,catC,g λb h=>f b om,f a om]
def vw{g d:Nat->a_}{c e b:Nat}(l:∀a,a<e->d (c+a)=g (c+a)\/Pl.j2 (d<|c+a) 0=b):
 (∀a,a<e->d (c+a)=g (c+a))\/kV d c e=0\/(kV d c e=b/\∀a,a<e->se (d<|c+a) b):=by
 by_cases i:∀a,a<e->d (c+a)=g (c+a)
 .exact .inl i
 .right;let⟨a,f⟩:=Classical.not_forall.1 i;let⟨f,m⟩:=Classical.not_imp.1 f;have k:=(l a f).resolve_left m;unfold kV;split
  .rename_i h;have j:Pl.j2 (d c) 0=b:=by rw[<-(h.1 a f).1];exact k
   right;rw[j]at h⊢;exact⟨rfl,h.1⟩
  .exact .inl rfl
def rT.sg{i c e g:Nat}{f:Nat->a_}{j:a_}(l:rT i c f e g j):e<=1/\g<=3/\g=kV f (e*c) c/\(e=1->g≠0)/\(g=0->e=0/\kV f c c=0)/\j=if g=0 then ql i else(catC f (e*c) c).extract 0 i:=by
 let⟨d,a,m⟩:=l;have n:=sK f c;have o:=xN f c;refine⟨om,om,?_,?_,?_,by rw[<-m,<-a,<-d];rfl⟩
 all_goals unfold lM xq at d;unfold o1 JX at a
 .split at d
  .rename_i b;rw[Ys b]at a;subst d;rw[aa8];exact a.symm
  .rename_i b;rw[Yo b]at a;subst d;rw[Z3];exact a.symm
 .intro h;subst h;split at d
  .rename_i b;rw[Ys b]at a;omega
  .omega
 .intro h;subst h;split at d
  .rename_i b;rw[Ys b]at a;omega
  .rename_i b;rw[Yo b]at a;exact⟨d.symm,Zb λk=>b ⟨k,.inl a⟩⟩
def rT.keep{r a b j:Nat}{l f:Nat->a_}{p:a_}(n:rT r a l b j p)(u:1<=a)(s:∀k,k<a->f (b*a+k)=l (b*a+k))(g:kV f ((1-b)*a) a=kV l ((1-b)*a) a\/kV f ((1-b)*a) a=0):rT r a f b j p:=by
 let⟨x,A,o,w,y,t⟩:=n.sg;have v:=Fw s;have i:=n5 u s;let⟨m,e,z⟩:=n
 have h:lM f a=b/\o1 f a=j:=by
  unfold lM xq at m⊢;unfold o1 JX at e⊢;rcases(show b=0\/b=1 by omega)with rfl|rfl
  .simp only[aaK,aa8,Z3]at g i o;rw[i];split at m
   .omega
   .rename_i c;rw[Yo c]at e;rcases g with d|d
    .rw[d,Yo c,Yo c];exact⟨rfl,e⟩
    .rw[d,Yo om,Yo om];exact⟨rfl,e⟩
  .simp only[abk,aa8,Z3]at g i o;rw[i];split at m
   .rename_i c;rw[Ys c]at e;rcases g with d|d
    .rw[d,Ys c,Ys c];exact⟨rfl,e⟩
    .rw[d,Ys ⟨c.1,.inl rfl⟩,Ys ⟨c.1,.inl rfl⟩];exact⟨rfl,e⟩
   .omega
 refine⟨h.1,h.2,?_⟩;unfold ly;rw[h.1,h.2,v];exact t.symm
def rT.blank{q a e h:Nat}{i f:Nat->a_}{p:a_}(o:rT q a i e h p)(j:1<=a)(t:∀d,d<a->f ((1-e)*a+d)=i ((1-e)*a+d)\/Pl.j2 (f<|(1-e)*a+d) 0=0)(l:∀d,d<a->f (e*a+d)=i (e*a+d)\/(h=0/\Pl.j2 (f<|e*a+d) 0=0)):rT q a f e h p:=by
 have m:kV f ((1-e)*a) a=kV i ((1-e)*a) a\/kV f ((1-e)*a) a=0:=by
  rcases vw t with c|c|c
  .exact .inl<|n5 j c
  .exact .inr c
  .exact .inr c.1
 by_cases g:h=0
 .let⟨x,_,u,_,v,s⟩:=o.sg;obtain⟨rfl,y⟩:=v g;simp only[Z3,aaK,aa8]at u m l
  have w:kV f 0 a=0:=by
   rcases vw (λd k=>(l d k).imp id (·.2))with c|c|c
   .rw[n5 j c];omega
   .exact c
   .exact c.1
  have n:kV f a a=0:=by rcases m with c|c<;>omega
  have r:o1 f a=0:=by unfold o1 JX;rw[w,n];simp
  refine⟨by unfold lM xq;rw[n];simp,by rw[r,g],?_⟩;unfold ly;rw[Ys r,s,Ys g]
 .exact o.keep j (λd k=>(l d k).elim id λc=>absurd c.1 g) m
def next_ne(a:Nat):(a%3+1)%3+1≠a%3+1/\((a%3+1)%3+1)%3+1≠a%3+1/\(1<=a->a<=3->a%3+1≠a/\(a%3+1)%3+1≠a):=om
def rT.WR{s b c i:Nat}{g f:Nat->a_}{r:a_}(q:rT s b g c i r)(u:Si b g c i)(n:1<=b)(m:Nat->a_)(l:∀a,a<b->(m a).size=64/\Pl.j2 (m a) 0=i%3+1)(o:∀a,a<b->(g<|(1-c)*b+a).size=64)
 (t:∀a,a<b->f (c*b+a)=g (c*b+a)) (j:∀a,a<b->∃e,e<=64/\f ((1-c)*b+a)=nk (m a) (g<|(1-c)*b+a) e):
 (∀a,a<b->f ((1-c)*b+a)=m a)\/rT s b f c i r:=by
 have v:∀a,a<b->f ((1-c)*b+a)=g ((1-c)*b+a)\/Pl.j2 (f<|(1-c)*b+a) 0=i%3+1:=λa d=>by
  let⟨e,j,h⟩:=j a d;rcases ZR e with p|p
  .left;rw[h,p,tV<|o a d]
  .right;rw[h,GX (l a d).1 j p];exact(l a d).2
 rcases vw v with k|k|k
 .exact .inr<|q.keep n t<|.inl<|n5 n k
 .exact .inr<|q.keep n t<|.inr k
 .left;intro a d;let⟨e,j,h⟩:=j a d;by_cases w:e=64
  .rw[h,w,tW (l a d).1<|o a d]
  .have:=(k.2 a d).2;rw[h,LZ (l a d).1 (o a d) om]at this;exact absurd this (u.1 a d)
def L0{e:Nat->a_}{d:Nat}:∀(a:Nat),(∀c,c<a->(e<|d+c).size=64)->∀b,b<62*a->Pl.j2 (catC e d a) b=Pl.j2 (e<|d+b/62) (1+b%62):=by
 intro a
 induction a with
 |zero=>intro _ b k;omega
 |succ a g=>
  intro f b k;have h:=pe e d a λc l=>f c om;have i:(catC e d a).data.toList.length=62*a:=by rw[Y0];exact h
  rw[catC,lr,ZM,aah,Yt];by_cases j:b<62*a
  .rw[YK om,<-Yt,<-lr];exact g (λc l=>f c om) b j
  .have m:=f a om;rw[YP om,i,<-Yt,<-lr,Pl.ld _ 1 63 _ om om,show b/62=a by omega,show b%62=b-62*a by omega]
def rT.save{h a c d:Nat}{o e:Nat->a_}{w j:a_}(v:rT h a o c d w)(z:Si a o c d)(A:1<=a)(E:j.size=h)(I:h<=62*a)
 (t:∀b,b<a->e (c*a+b)=o (c*a+b)) (g:∀b,b<a->e ((1-c)*a+b)=nb (d%3+1) (j.extract (b*62) j.size)):
 rT h a e (1-c) (d%3+1) j/\Si a e (1-c) (d%3+1):=by
 let⟨F,K,l,B,C,_⟩:=v.sg;have m:=n5 A t;have n:(d%3+1)%256=d%3+1:=om;have i:kV e ((1-c)*a) a=d%3+1:=by have q:=g 0 om;rw[YE]at q;have x:(∀b,b<a->se (e<|(1-c)*a+b) (d%3+1))/\d%3+1<=3:=⟨λb f=>by rw[g b f];exact⟨by rw[Bz,n],by rw[BA,n]⟩,om⟩;unfold kV;rw[q,Bz,n,Ys x]
 have J:=next_ne d
 have k:lM e a=1-c/\o1 e a=d%3+1:=by
  unfold lM o1 xq JX;rcases(show c=0\/c=1 by omega)with rfl|rfl
  .simp only[aaK,aa8,Z3]at i m l;rw[m,i,<-l,Ys ⟨om,.inr rfl⟩,Ys ⟨om,.inr rfl⟩];exact⟨rfl,rfl⟩
  .simp only[abk,aa8,Z3]at i m l;have D:=B rfl;rw[m,i,<-l,Yo om,Yo om];exact⟨rfl,rfl⟩
 refine⟨⟨k.1,k.2,?_⟩,?_,λb f=>?_⟩
 .unfold ly;rw[k.1,k.2,Yo om];have p:∀b,b<a->(e<|(1-c)*a+b).size=64:=λb f=>by rw[g b f,nh]
  have s:=pe e ((1-c)*a) a p;apply OQ
  .rw[YM,s];omega
  .intro r y;rw[YM,s]at y;rw[Pl.ld _ 0 h r om om,YF,L0 a p r om,g _ om,OP _ _ _ om,Pl.lV];congr 1;omega
 .have u:1-(1-c)=c:=om;rw[u];exact λb f=>by rw[t b f];exact z.2 b f
 .rw[g b f,BA,n];omega
def Tz(m p i n b d k j h e:Nat)(o:Nat->Nat)(f c g:Nat)(l:a_):j4:=
 {unit:=k,batch:=h,nl:=j,ln:=λa=>⟨o a,⟨#[]⟩,false⟩,sec:=e,sz:=ue m p i n,ent:=nM b d l,kp:=λa=>if a=0 then b else if a=2 then d else 0,lat:=c,stamp:=g,arr:=0,uns:=0,wait:=[],base:=f}
theorem yw(d j f i g h r q k p:Nat)(l:a_)(o:Option Addr)(b:b_)(b0:d<=60)(v:j<=60)(u:f<=60)(C:i<=60)(z:g<=d)(y:h<=f)(x:l.size=(g+7)/8+2*h):
 Calls prog 65 #[.agg #[ν d,ν j,ν f,ν i,ν g,ν h,ν r,.slice o q k,ν p],.string l] b λn m=>∃s,n=.returned s/\
  ∃c:Nat->Nat,s=.agg #[.slice (some (μ (c 0) 0)) d d,.slice (some (μ (c 1) 0)) j j,.slice (some (μ (c 2) 0)) f f,.slice (some (μ (c 3) 0)) i i,ν g,ν 0,ν h,ν 0]/\
  ((∀a,a<4->b.heap.size<=c a/\kE m (c a) 3 (ue d j f i a) 1 (λk _=>ν<|nM g h l a k))/\(∀a e,a<4->e<4->a≠e->c a≠c e)/\Below b.heap.size b m):=by
 refine(zv d j f i g h r q k p o l b b0 v u C z y x).mono ?_;rintro n m ⟨rfl,D,w,t,B,A⟩;refine⟨_,rfl,λa=>b.heap.size+3+a,rfl,λa E=>⟨show b.heap.size<=b.heap.size+3+a by omega,?_⟩,λa e _ _ F=>show b.heap.size+3+a≠b.heap.size+3+e by omega,A⟩;rcases(show a=0\/a=1\/a=2\/a=3 by omega)with rfl|rfl|rfl|rfl
 .exact D
 .exact w.congr λa e _ _=>rfl
 .exact t
 .exact B.congr λa e _ _=>rfl
def L4{c s:b_}{g j B lat st h l e i o r f q m sec:Nat}{b kn:Nat->Nat}{S:a_}(u:s=c.alloc (.cells #[ν r,ν q,.slice (some (μ g 0)) f f,.slice (some (μ (b 0) 0)) h h,.slice (some (μ (b 1) 0)) l l,.slice (some (μ (b 2) 0)) e e,.slice (some (μ (b 3) 0)) i i,ν m,ν 0,ν o,ν 0,π j,ν 0,ν 0,σ] 110))
 (v:kE c g 116 f 3 λa d=>S' (kn a) d) (t:∀a,a<4->kE c (b a) 3 (ue h l e i a) 1 (λk _=>ν<|nM m o S a k)) (n:∀a d,a<4->d<4->a≠d->b a≠b d) (p:c.heap[j]?=some (.cells #[ν sec,ν lat,.int .u8 (st:Nat)] 155)) (w:B<=c.heap.size/\B<=g/\B<=j/\∀a,a<4->B<=b a):
 j1 (λ_=>true) s c.heap.size g j b σ (Tz h l e i m o r f q sec kn B lat st S):=by
 subst u;exact⟨YO c _,v.alloc _,λa n=>(t a n).alloc _,n,(YQ c _ (Yn p)).trans p,Yq _ _ _ _,w,⟨λ_ _=>rfl,λ_ _=>rfl⟩⟩
def L5(k m j p f i o e s l g x r E n b:Nat)(q:Nat->Nat)(d:Nat->a_)(a:b_)(b0:k<=60)(av:m<=60)(aC:j<=60)(aR:p<=60)(aF:f<=k)(aG:i<=j)(Z:n=(f+7)/8+2*i)(Y:b=max 1 ((n+61)/62))(bk:1<=o)(bc:o<=247)(bl:1<=e)(bh:e<=4)(aV:1<=l)(a4:l<=8)
 (bq:g<a.heap.size) (aL:∀c,c<e->a.cell? (μ g c)=some (ν<|q c)) (be:∀c,c<e->q c<=1)
 (aW:r<=E) (ad:2*b<=r) (aN:r<=64) (a6:x<a.heap.size) (hF:qJ a x r d) (aO:∀c,c<r->(d c).size=64):
 Calls prog 25 #[.agg #[ν k,ν m,ν j,ν p,ν f,ν i,ν o,.slice (some (μ g 0)) e s,ν l],.slice (some (μ x 0)) r E] a λt h=>
  ∃aD W,t=.returned (.tuple #[π aD,W,ν 0])/\Sf h aD (Tz k m j p f i o e l b q a.heap.size (lM d b) (o1 d b)<|ly n b d)/\h.ownsRow a.heap.size 77 4 W (kN d b (lM d b)<|o1 d b).length ((kN d b (lM d b)<|o1 d b).flatMap ku)/\Below a.heap.size a h:=by
 let⟨aP,aw,bB,z,ae⟩:=rb a k m j p f i o l<|ω g e s;have aY:f<=60:=om;have aT:n<=186:=om;have a2:n<=62*b:=om;have au:Hid<|n=(f+7)/8+2*i:=Z;have bm:Hid<|2*b=2*max 1 (((f+7)/8+2*i+61)/62):=by show 2*b=_;rw[Y,Z]
 have bt:b<=4:=om;have a':=h_ Y;have aX:=h_ hF;have aj:=h_ aO;clear Z Y hF aO;obtain⟨ah,ag⟩:=j5<|lM d b;obtain⟨am,al⟩:=j5<|o1 d b;obtain⟨ab,Q⟩:=j5<|ly n b d;have aZ:Hid<|ab.size=(f+7)/8+2*i:=by show _=_;rw[Q,Fu n b r d a2 ad aj.o,au.o]
 have a7:=h_ ag;have a0:=h_ al;have aS:=h_ Q;rw[<-ag,<-al,<-Q];clear ag al Q;have aE:∀c,c<e->aP.cell? (μ g c)=some (ν<|q c):=λc w=>by rw[(ke z).1 g c bq];exact aL c w
 have ay:=h_ aE;have D0:=h_<|aX.o.nD a6 z;have aK:=h_ ae;have a1:=h_ z;let⟨D,C,I,M,J,K,R,P,O⟩:=kH ae;clear aL ae z aE
 go_enter func25,ntmps25
 go_wp2_with fail
 rw[<-aw];clear aw;refine(N' k m j p f i o e s l g (2*b) q aP b0 av aC aR aF aG bk bc bl bh aV a4 om ay be bm).mono ?_;rintro t a9 ⟨rfl,A⟩;have ap:=h_ A;have bw:=A.size;have an:=(A.block a.heap.size om).trans aK;have bx:=h_ an;clear D C I M J K R P O A;let⟨D,C,I,M,J,K,R,P,O⟩:=kH an;clear an
 go_wp2_with fail
 refine(Of r (2*b) x E d a9 ad aN (D0.o.nD om ap) aj).mono ?_;rintro t bg ⟨rfl,rfl⟩
 go_wp2_with fail
 refine(r2 k m j p f i o e s l n (some (μ g 0)) bg aY om au).mono ?_;rintro t ao ⟨rfl,U⟩;have aH:=h_<|jZ ap U;have bu:=U.size;clear U
 go_wp2_with fail
 refine(zy n b x r E ah am d ao aT a' aW ad aN om (D0.o.nD om aH) aj a7 a0).mono ?_;rintro t N ⟨W,rfl,ai,F,aa⟩;let⟨T,X⟩:=j5<|kN d b ah am;rw[<-X]at F;have bf:=h_ X;have bs:=h_<|j9 (B:=a.heap.size) F om;obtain⟨aI,aA,rfl,_⟩:=i_ F;rw[<-aS.o];clear F X;have ac:=h_<|jZ aH aa;have bp:=h_ ai;have bI:=aa.size;have V:=(ac.o.block a.heap.size om).trans aK;have bi:=h_ V;have aJ:Hid<|ao.heap.size<N.heap.size:=Yn ai;clear D C I M J K R P O aa ai;let⟨D,C,I,M,J,K,R,P,O⟩:=kH V;clear V;have bn:a.heap.size<N.heap.size:=om;have bo:Hid (∀c,c<e->N.cell? (μ g c)=some (ν<|q c)):=λc w=>by rw[(ke ac.o).1 g c om];exact ay c w
 go_wp2_with fail
 go_region_held3 (λh=>h.cell? (μ a.heap.size 0)=some (ν k)/\h.cell? (μ a.heap.size 1)=some (ν m)/\h.cell? (μ a.heap.size 2)=some (ν j)/\h.cell? (μ a.heap.size 3)=some (ν p)/\h.cell? (μ a.heap.size 4)=some (ν f)/\h.cell? (μ a.heap.size 5)=some (ν i)/\h.cell? (μ a.heap.size 6)=some (ν o)/\h.cell? (μ a.heap.size 7)=some (ω g e s)/\h.cell? (μ a.heap.size 8)=some (ν l)) (go_keep)
  (first
   |(go_at_call 64;refine(Cv e s g q _ om (by first|(simp;omega)|omega) (λc w=>by exact bo c w)).mono ?_;rintro t bL ⟨rfl,ar,aU⟩;have v:=kx aU;have bv:=v.size;have ax:=(v.block a.heap.size bn).trans bi;let⟨f0,f1,f2,f3,f4,f5,f6,f7,f8⟩:=kH ax)
   |(go_at_call 65;refine(yw k m j p f i o e s l ab (some (μ g 0)) _ b0 av aC aR aF aG aZ).mono ?_;rintro t aM ⟨a5,rfl,L,rfl,aB,bb,u⟩;have bA:=u.size;have a8:=(u.block a.heap.size om).trans ax;let⟨bz,bG,bD,bK,bC,bJ,bF,bE,bH⟩:=kH a8))
 obtain⟨aQ,y⟩:=j5<|aM.alloc<|.cells #[ν o,ν l,.slice (some (μ N.heap.size 0)) e e,.slice (some (μ (L 0) 0)) k k,.slice (some (μ (L 1) 0)) m m,.slice (some (μ (L 2) 0)) j j,.slice (some (μ (L 3) 0)) p p,ν f,ν 0,ν i,ν 0,π ao.heap.size,ν 0,ν 0,σ] 110;have az:=L4 (kn:=q) (lat:=ah) (st:=am) (S:=ab) (sec:=b) y (kE.below ar u (by have:=ar.lt;simpa using this)) (λaf ak=>(aB af ak).2) bb ((u.block _ (li aJ.o)).trans<|(v.block _ aJ.o).trans bp.o) (B:=a.heap.size) ⟨om,om,om,λaf ak=>YH om (aB af ak).1⟩;have aq:Below a.heap.size a aQ:=by rw[y];exact jT (jZ (jZ (jZ a1.o ac.o) v) u) _
 have a3:Hid<|aQ.ownsRow a.heap.size 77 4 (.slice aI T.length aA) T.length<|T.flatMap ku:=by rw[y];exact(jY (jY bs v) u).alloc _
 have bd:=h_ az;have bj:=h_ aq;clear az aq
 go_wp2_with fail
 rw[<-y];clear y;go_wp2;refine Yx (v:=.tuple #[π aM.heap.size,.slice aI T.length aA,ν 0]) (by simp[results,results25,go_sem]) rfl ⟨_,_,rfl,⟨_,_,_,_,bd⟩,by rw[<-bf.o];exact a3,bj⟩
def BD(b d e c:Int)(a:Nat):Int:=if a=0 then b else if a=1 then d else if a=2 then e else c
structure mV(s0 s1 s2 s3 c h u:Int)(n:Nat)(ln:Nat->Int)(b:Int):Prop where
 sz:∀q,q<4->0<=BD s0 s1 s2 s3 q/\BD s0 s1 s2 s3 q<=60
 ln:∀j,j<n->ln j=0\/ln j=1
 c:0<=c/\c<=s0
 h:0<=h/\h<=s2
 u:1<=u/\u<=247
 n:1<=n/\n<=4
 b:1<=b/\b<=8
def VI(a c d b:Int)(q:Nat)(e:q<4)(W:b_):(Instr.index 37 (.agg #[ν a,ν c,ν d,ν b])<|ν q).run prog W=.ok (ν<|BD a c d b q) W:=by exact Q0
def pC(a b c:Int)(e:b_):Calls prog 53 #[ν a,ν b,ν c] e λf h=>∃i:Bool,f=.returned (.bool i)/\(i=true↔b<=a/\a<=c)/\h=e:=by
 by_cases g:b<=a/\a<=c
 .exact(lX a b c e g.1 g.2).mono λf h d=>⟨true,d.1,by simp[g],d.2⟩
 .exact(pb a b c e om).mono λf h d=>⟨false,d.1,so,d.2⟩
def B9(a:b_)(d g i e c j k h:Int)(f:f_):∃b,b=a.alloc (.cells #[ν d,ν g,ν i,ν e,ν c,ν j,ν k,f,ν h] 39)/\b.heap.size=a.heap.size+1/\Below a.heap.size a b/\b.heap[a.heap.size]?=some (.cells #[ν d,ν g,ν i,ν e,ν c,ν j,ν k,f,ν h] 39):=
 ⟨_,rfl,si,jT br _,YO a _⟩
def qo.nD{a g:b_}{d:Option Addr}{i:Nat}{h:Nat->Int}(n:qo a d i h)(b:Below a.heap.size a g):qo g d i h:=λe l=>by let⟨j,c,k,f,o,m⟩:=n e l;exact⟨j,c,k,Yy f b.size,((ke b).1 j (c+e) f).trans o,m⟩
def IA(s0 s1 s2 s3 c M u b:Int)(n k:Nat)(ad:Option Addr)(cx:Nat->Int)(w:b_)(N:qo w ad n cx)(ar:n<=9223372036854775807):
 Calls prog 72 #[.agg #[ν s0,ν s1,ν s2,ν s3,ν c,ν M,ν u,.slice ad n k,ν b]] w λd ak=>∃I:Bool,d=.returned (.bool I)/\(I=true↔mV s0 s1 s2 s3 c M u n cx b)/\Below w.heap.size w ak:=by
 refine Hy ?_;intro W U dh a2 bq c0 c1 c2 c3 c4 c5 c6 c7 c8;have T:=h_<|N.nD a2;have h:=h_ a2;clear bq a2 dh N
 go_enter func72,ntmps72
 go_wp2_with fail
 rw[<-U];clear U
 go_loopw [9] (λf wr=>∃q:Nat,q<=4/\f=ν q/\W=wr/\∀a,a<q->0<=BD s0 s1 s2 s3 a/\BD s0 s1 s2 s3 a<=60) (λf _=>4-(intOf f).toNat)
 case atStart=>exact⟨0,om,rfl,rfl,λa m=>absurd m (Zh _)⟩
 case round=>
  obtain⟨q,O,rfl,rfl,y⟩:=hrel;have fC:=h_ y;clear y;by_cases t:q<4
  .have aj:=VI s0 s1 s2 s3 q t;let⟨g,e⟩:=j5<|BD s0 s1 s2 s3 q;rw[<-e]at aj;have i:=h_ e;clear e
   go_wp2_with fail
   by_cases l:0<=g/\g<=60
   .refine(lX _ _ _ _ l.1 l.2).mono ?_;rintro d j ⟨rfl,rfl⟩;have x:=h_ l;clear l;go_wp2
    go_roundw
    case rel=>exact⟨q+1,om,gn,trivial,λa m=>by
     rcases Zj a q with M|M
     .exact fC a M
     .obtain rfl:a=q:=om
      rw[<-i.o];exact x⟩
    case measure=>exact mz
   .refine(pb _ _ _ _ om).mono ?_;rintro d j ⟨rfl,rfl⟩;have x:=h_ l;clear l;go_wp2;go_ret;exact⟨_,rfl,by simp;intro hc;exact x (by rw[i.o];exact hc.sz q t),h⟩
  .obtain rfl:q=4:=om
   go_wp2_with fail
   clear O t
   go_loopw [19] (λf wr=>∃q:Nat,q<=n/\f=ν q/\W=wr/\∀a,a<q->cx a=0\/cx a=1) (λf _=>n-(intOf f).toNat)
   case atStart=>exact⟨0,om,rfl,rfl,λa m=>absurd m (Zh _)⟩
   case round=>
    obtain⟨q,O,rfl,rfl,L⟩:=hrel;have eJ:=h_ L;clear L;by_cases P:q<n
    .obtain⟨am,au,rfl,ap,ae,_,_⟩:=T q P;let⟨g,e⟩:=j5<|cx q;rw[<-e]at ae;have i:=h_ e;clear e;by_cases o:g=0
     .subst o
      go_wp2_with fail
      go_roundw
      case rel=>exact⟨q+1,om,gn,trivial,λa m=>by
       rcases Zj a q with M|M
       .exact eJ a M
       .obtain rfl:a=q:=om
        exact .inl i.o.symm⟩
      case measure=>exact mz
     .by_cases s:g=1
      .subst s;clear o
       go_wp2_with fail
       go_roundw
       case rel=>exact⟨q+1,om,gn,trivial,λa m=>by
        rcases Zj a q with M|M
        .exact eJ a M
        .obtain rfl:a=q:=om
         exact .inr i.o.symm⟩
       case measure=>exact mz
      .have t0:(g !=0)=true:=by simp[o]
       have t1:(g !=1)=true:=by simp[s]
       have ag:Hid<|¬(cx q=0\/cx q=1):=by show¬_;rw[<-i.o];omega
       clear o s;go_wp2;go_ret;exact⟨_,rfl,by simp;intro hc;exact ag<|hc.ln q P,h⟩
    .obtain rfl:q=n:=om;refine Ql ?_;intro cf;clear fC eJ
     go_wp2_with fail
     refine(pC _ _ _ _).mono ?_;rintro d j ⟨ah,rfl,C,rfl⟩;have D:=h_ C;clear C;cases ah
     .go_wp2;go_ret;exact⟨_,rfl,by rw[cf.o];have:=D.o;simp at this⊢;intro v r;omega,h.o⟩
     .go_wp2_with fail
      refine(pC _ _ _ _).mono ?_;rintro d j ⟨aa,rfl,K,rfl⟩;have Q:=h_ K;clear K;cases aa
      .go_wp2;go_ret;exact⟨_,rfl,by rw[cf.o];have:=Q.o;simp at this⊢;intro v r J F;omega,h.o⟩
      .go_wp2_with fail
       refine(pC _ _ _ _).mono ?_;rintro d j ⟨ab,rfl,R,rfl⟩;have z:=h_ R;clear R;cases ab
       .go_wp2;go_ret;exact⟨_,rfl,by rw[cf.o];have:=z.o;simp at this⊢;intro v r J F ai Z;omega,h.o⟩
       .go_wp2_with fail
        refine(pC _ _ _ _).mono ?_;rintro d j ⟨Y,rfl,B,rfl⟩;have A:=h_ B;clear B;cases Y
        .go_wp2;go_ret;exact⟨_,rfl,by rw[cf.o];have:=A.o;simp at this⊢;intro v r J F ai Z an al;omega,h.o⟩
        .go_wp2_with fail
         refine(pC _ _ _ _).mono ?_;rintro d j ⟨ao,rfl,E,rfl⟩;have af:=h_ E;clear E;go_wp2;go_ret;refine⟨_,rfl,?_,h.o⟩;rw[cf.o,af.o];have V:(0<=c/\c<=s0):=by have:=D.o;simpa using this
         have S:(0<=M/\M<=s2):=by have:=Q.o;simpa using this
         have ac:(1<=u/\u<=247):=by have:=z.o;simpa using this
         have aq:(1:Int)<=(q:Int)/\(q:Int)<=4:=by have:=A.o;simp at this;omega
         exact⟨λX=>⟨V,S,ac,om,X⟩,λhc=>hc.2.2.2.2⟩
def yy(s0 s1 s2 s3 c M u b:Int)(n k:Nat)(ad:Option Addr)(g:Nat->Int)(w:b_)(l:qo w ad n g)(Q:n<=9223372036854775807):
 Calls prog 48 #[.agg #[ν s0,ν s1,ν s2,ν s3,ν c,ν M,ν u,.slice ad n k,ν b]] w λe v=>((¬mV s0 s1 s2 s3 c M u n g b/\e=.returned (.tuple #[ν 0,ν 2]))\/(mV s0 s1 s2 s3 c M u n g b/\e=.returned (.tuple #[ν (2*max 1 (((c.toNat+7)/8+2*M.toNat+61)/62):Nat),ν 0])))/\Below w.heap.size w v:=by
 refine Hy ?_;intro W U dh a2 bq c0 c1 c2 c3 c4 c5 c6 c7 c8;have D:=h_<|IA s0 s1 s2 s3 c M u b n k ad g W (l.nD a2) Q;have V:=h_ a2;have C:=h_ bq;clear bq a2 l
 go_enter func48,ntmps48
 go_wp2_with fail
 rw[<-U];clear U;apply D.o.mono;rintro e t ⟨B,rfl,j,h⟩;have i:=h_<|jZ V h;have ab:=h.size;have r:=(h.block w.heap.size om).trans C;have o:=h_ j;clear c0 c1 c2 c3 c4 c5 c6 c7 c8 j;let⟨c0,c1,c2,c3,c4,c5,c6,c7,c8⟩:=kH r;clear r;cases B
 .go_wp2
  go_ret2
  exact⟨.inl ⟨λz=>by have:=o.o.2 z;simp at this,rfl⟩,i⟩
 .have d:=o.o.1 rfl;have ac:=d.sz 0 om;have ae:=d.sz 2 om;have af:BD s0 s1 s2 s3 0=s0:=rfl;have Z:BD s0 s1 s2 s3 2=s2:=rfl;let⟨J,P⟩:∃a:Nat,s0=(a:Int):=⟨s0.toNat,om⟩;let⟨y,K⟩:∃a:Nat,s1=(a:Int):=⟨s1.toNat,by have:=(d.sz 1 om).1;have I:BD s0 s1 s2 s3 1=s1:=rfl;omega⟩;let⟨O,E⟩:∃a:Nat,s2=(a:Int):=⟨s2.toNat,om⟩;let⟨T,s⟩:∃a:Nat,s3=(a:Int):=⟨s3.toNat,by have:=(d.sz 3 om).1;have I:BD s0 s1 s2 s3 3=s3:=rfl;omega⟩;let⟨f,F⟩:∃a:Nat,c=(a:Int):=⟨c.toNat,by have:=d.c;omega⟩;let⟨H,x⟩:∃a:Nat,M=(a:Int):=⟨M.toNat,by have:=d.h;omega⟩;let⟨N,A⟩:∃a:Nat,u=(a:Int):=⟨u.toNat,by have:=d.u;omega⟩;let⟨X,R⟩:∃a:Nat,b=(a:Int):=⟨b.toNat,by have:=d.b;omega⟩;have aa:=d.c;have ag:=d.h;have L:=h_ d;clear d;subst P K E s F x A R
  go_wp2_with fail
  refine(r2 J y O T f H N n k X ((f+7)/8+2*H) ad t om om rfl).mono ?_;rintro e Y ⟨rfl,m⟩;have S:=h_<|jZ i m;clear m
  go_wp2_with fail
  refine(uz ((f+7)/8+2*H) (2*max 1 (((f+7)/8+2*H+61)/62)) rfl _ om).mono ?_;rintro e ah ⟨rfl,rfl⟩;go_wp2
  go_ret2
  exact⟨.inr ⟨L,rfl⟩,S⟩
def uL(s0 s1 s2 s3 c M u b:Int)(n k:Nat)(ad:Option Addr)(cx:Nat->Int)(w:b_)(Q:qo w ad n cx)(ap:n<=9223372036854775807):
 Calls prog 49 #[.agg #[ν s0,ν s1,ν s2,ν s3,ν c,ν M,ν u,.slice ad n k,ν b]] w λP al=>((mV s0 s1 s2 s3 c M u n cx b/\P=.returned (.bool true))\/(¬mV s0 s1 s2 s3 c M u n cx b/\P=.returned (.bool false)))/\Below w.heap.size w al:=by
 refine Hy ?_;intro W U dh a2 bq c0 c1 c2 c3 c4 c5 c6 c7 c8;have V:=h_<|Q.nD a2;have HB:=h_ a2
 have af:Hid (∀q,q<4->W.cell? (μ w.heap.size q)=some (ν<|BD s0 s1 s2 s3 q)):=λq E=>by
  rcases(show q=0\/q=1\/q=2\/q=3 by omega)with rfl|rfl|rfl|rfl
  .exact c0
  .exact c1
  .exact c2
  .exact c3
 have ab:=h_ bq;clear bq a2 dh Q c0 c1 c2 c3 c4 c5 c6 c7 c8
 go_enter func49,ntmps49
 go_wp2_with fail
 rw[<-U];clear U
 go_loopw [3] (λg wr=>∃q:Nat,q<=4/\g=ν q/\W=wr/\∀a,a<q->0<=BD s0 s1 s2 s3 a/\BD s0 s1 s2 s3 a<=60) (λg _=>4-(intOf g).toNat)
 case atStart=>exact⟨0,om,rfl,rfl,λa h=>absurd h (Zh _)⟩
 case round=>
  obtain⟨q,E,rfl,rfl,N⟩:=hrel;have fC:=h_ N;clear N;by_cases iS:q<4
  .have ak:=af.o q iS;have ao:(q:Int)<4:=om;obtain⟨e,f⟩:=j5<|BD s0 s1 s2 s3 q;rw[<-f]at ak;have fD:=h_ f;clear f;by_cases L:e<0
   .have cF:=h_ L;exact Rm
   .have t0:decide (e<0)=false:=so;by_cases S:(60:Int)<e
    .have cF:=h_ S;clear L;exact Rm
    .have t6:decide ((60:Int)<e)=false:=so;have cF:Hid<|0<=e/\e<=60:=by show _/\_;omega
     clear L S;go_wp2
     go_roundw
     case rel=>exact⟨q+1,om,gn,trivial,λa h=>by
      rcases Zj a q with M|M
      .exact fC.o a M
      .obtain rfl:a=q:=om
       rw[<-fD.o];exact cF.o⟩
     case measure=>simp[intOf];omega
  .obtain rfl:q=4:=om;obtain⟨c0,c1,c2,c3,c4,c5,c6,c7,c8⟩:=kH ab.o
   go_wp2_with fail
   clear E iS
   go_loopw [4] (λg wr=>∃q:Nat,q<=n/\g=ν q/\W=wr/\∀a,a<q->cx a=0\/cx a=1) (λg _=>n-(intOf g).toNat)
   case atStart=>exact⟨0,om,rfl,rfl,λa h=>absurd h (Zh _)⟩
   case round=>
    obtain⟨q,E,rfl,rfl,O⟩:=hrel;have eJ:=h_ O;clear O;by_cases K:q<n
    .obtain⟨am,aq,rfl,an,ac,_,_⟩:=V.o q K;obtain⟨e,f⟩:=j5<|cx q;rw[<-f]at ac;have fD:=h_ f;clear f;by_cases I:e=0
     .subst I
      go_wp2_with fail
      go_roundw
      case rel=>exact⟨q+1,om,gn,trivial,λa h=>by
       rcases Zj a q with M|M
       .exact eJ.o a M
       .obtain rfl:a=q:=om
        exact .inl fD.o.symm⟩
      case measure=>simp[intOf];omega
     .by_cases d:e=1
      .subst d;clear I
       go_wp2_with fail
       go_roundw
       case rel=>exact⟨q+1,om,gn,trivial,λa h=>by
        rcases Zj a q with M|M
        .exact eJ.o a M
        .obtain rfl:a=q:=om
         exact .inr fD.o.symm⟩
       case measure=>simp[intOf];omega
      .have t0:(e !=0)=true:=by simp[I]
       have t1:(e !=1)=true:=by simp[d]
       have ai:Hid<|¬(cx q=0\/cx q=1):=by show¬_;rw[<-fD.o];omega
       clear I d;go_wp2;go_ret;exact⟨.inr ⟨λhc=>ai.o<|hc.ln q K,rfl⟩,HB.o⟩
    .obtain rfl:q=n:=om;refine Ql ?_;intro cf;clear fC eJ E K;by_cases m:(0:Int)<=c
     .have J:=h_ m;have aa:decide ((0:Int)<=c)=true:=YW m;by_cases o:c<=s0
      .have y:=h_ o;have Y:decide (c<=s0)=true:=YW o;by_cases r:(0:Int)<=M
       .have D:=h_ r;have ag:decide ((0:Int)<=M)=true:=YW r;by_cases i:M<=s2
        .have C:=h_ i;have T:decide (M<=s2)=true:=YW i;by_cases s:(0:Int)<u
         .have x:=h_ s;have X:decide ((0:Int)<u)=true:=YW s;by_cases t:u<248
          .have F:=h_ t;have ae:decide (u<248)=true:=YW t;by_cases v:(0:Int)<(q:Int)
           .have B:=h_ v;have ah:decide ((0:Int)<(q:Int))=true:=YW v;by_cases l:(q:Int)<5
            .have z:=h_ l;have Z:decide ((q:Int)<5)=true:=YW l;by_cases j:(0:Int)<b
             .have A:=h_ j;have aj:decide ((0:Int)<b)=true:=YW j;go_wp2;go_ret;refine⟨?_,HB.o⟩;by_cases R:b<9
              .exact .inl ⟨cf.o.2 (by have:=J.o;have:=y.o;have:=D.o;have:=C.o;have:=x.o;have:=F.o;have:=B.o;have:=z.o;have:=A.o;omega),by show Ending.returned (.bool<|decide (b<9))=_;rw[YW R]⟩
              .exact .inr ⟨λhc=>by have d:=cf.o.1 hc;omega,by show Ending.returned (.bool<|decide (b<9))=_;rw[YZ R]⟩
             .have A:=h_ j;have aj:decide ((0:Int)<b)=false:=YZ j;clear j;go_wp2
              all_goals first|(exfalso;have:=A.o;omega)|skip
              go_ret;exact⟨.inr ⟨λhc=>by have d:=cf.o.1 hc;have:=A.o;omega,rfl⟩,HB.o⟩
            .have z:=h_ l;have Z:decide ((q:Int)<5)=false:=YZ l;clear l;go_wp2
             all_goals first|(exfalso;have:=z.o;omega)|skip
             go_ret;exact⟨.inr ⟨λhc=>by have d:=cf.o.1 hc;have:=z.o;omega,rfl⟩,HB.o⟩
           .have B:=h_ v;have ah:decide ((0:Int)<(q:Int))=false:=YZ v;clear v;go_wp2
            all_goals first|(exfalso;have:=B.o;omega)|skip
            go_ret;exact⟨.inr ⟨λhc=>by have d:=cf.o.1 hc;have:=B.o;omega,rfl⟩,HB.o⟩
          .have F:=h_ t;have ae:decide (u<248)=false:=YZ t;clear t;go_wp2
           all_goals first|(exfalso;have:=F.o;omega)|skip
           go_ret;exact⟨.inr ⟨λhc=>by have d:=cf.o.1 hc;have:=F.o;omega,rfl⟩,HB.o⟩
         .have x:=h_ s;have X:decide ((0:Int)<u)=false:=YZ s;clear s;go_wp2
          all_goals first|(exfalso;have:=x.o;omega)|skip
          go_ret;exact⟨.inr ⟨λhc=>by have d:=cf.o.1 hc;have:=x.o;omega,rfl⟩,HB.o⟩
        .have C:=h_ i;have T:decide (M<=s2)=false:=YZ i;clear i;go_wp2
         all_goals first|(exfalso;have:=C.o;omega)|skip
         go_ret;exact⟨.inr ⟨λhc=>by have d:=cf.o.1 hc;have:=C.o;omega,rfl⟩,HB.o⟩
       .have D:=h_ r;have ag:decide ((0:Int)<=M)=false:=YZ r;clear r;go_wp2
        all_goals first|(exfalso;have:=D.o;omega)|skip
        go_ret;exact⟨.inr ⟨λhc=>by have d:=cf.o.1 hc;have:=D.o;omega,rfl⟩,HB.o⟩
      .have y:=h_ o;have Y:decide (c<=s0)=false:=YZ o;clear o;go_wp2
       all_goals first|(exfalso;have:=y.o;omega)|skip
       go_ret;exact⟨.inr ⟨λhc=>by have d:=cf.o.1 hc;have:=y.o;omega,rfl⟩,HB.o⟩
     .have J:=h_ m;have aa:decide ((0:Int)<=c)=false:=YZ m;clear m;go_wp2
      all_goals first|(exfalso;have:=J.o;omega)|skip
      go_ret;exact⟨.inr ⟨λhc=>by have d:=cf.o.1 hc;have:=J.o;omega,rfl⟩,HB.o⟩
def vx(s0 s1 s2 s3 c M u b:Int)(n k:Nat)(ad:Option Addr)(f:Nat->Int)(w:b_)(v:qo w ad n f)(m:n<=9223372036854775807):
 Calls prog 12 #[.agg #[ν s0,ν s1,ν s2,ν s3,ν c,ν M,ν u,.slice ad n k,ν b]] w λa K=>((¬mV s0 s1 s2 s3 c M u n f b/\a=.returned (.tuple #[ν 0,.bool true]))\/(mV s0 s1 s2 s3 c M u n f b/\a=.returned (.tuple #[ν (2*max 1 (((c.toNat+7)/8+2*M.toNat+61)/62):Nat),.bool true])))/\Below w.heap.size w K:=by
 refine Hy ?_;intro W U dh a2 bq c0 c1 c2 c3 c4 c5 c6 c7 c8;have y:=h_<|v.nD a2;have C:=h_<|yy s0 s1 s2 s3 c M u b n k ad f W y.o m;have J:=h_ a2;have B:=h_ bq;clear bq a2 v
 go_enter func12,ntmps12
 go_wp2_with fail
 rw[<-U];clear U;refine C.o.mono ?_;rintro a x ⟨d,g⟩;have s:=h_<|jZ J.o g;have R:=g.size;have A:=(g.block w.heap.size om).trans B.o;have z:=h_<|y.o.nD g;clear c0 c1 c2 c3 c4 c5 c6 c7 c8 g;obtain⟨c0,c1,c2,c3,c4,c5,c6,c7,c8⟩:=kH A;clear A;rcases d with⟨i,rfl⟩|⟨e,rfl⟩
 .go_wp2_with fail
  refine(uL s0 s1 s2 s3 c M u b n k ad f x z.o m).mono ?_;rintro a E ⟨d,h⟩
  obtain rfl:a=.returned (.bool false):=by
   rcases d with⟨F,_⟩|⟨_,o⟩
   .exact absurd F i
   .exact o
  have r:=h_<|jZ s.o h;have I:=h_ i;clear d h i;go_wp2
  go_ret2
  exact⟨.inl ⟨I.o,rfl⟩,r.o⟩
 .obtain⟨j,l⟩:=j5<|2*max 1 (((c.toNat+7)/8+2*M.toNat+61)/62);have P:1<=j:=om;have O:j<=64:=by have S:=e.sz 0 om;have L:=e.sz 2 om;have N:BD s0 s1 s2 s3 0=s0:=rfl;have Q:BD s0 s1 s2 s3 2=s2:=rfl;have:=e.c;have:=e.h;omega
  rw[<-l];have D:=h_ l;have t:=h_ e;clear l e
  go_wp2_with fail
  refine(uL s0 s1 s2 s3 c M u b n k ad f x z.o m).mono ?_;rintro a E ⟨d,h⟩
  obtain rfl:a=.returned (.bool true):=by
   rcases d with⟨_,o⟩|⟨i,_⟩
   .exact o
   .exact absurd t.o i
  have r:=h_<|jZ s.o h;clear d h;go_wp2
  go_ret2
  exact⟨.inr ⟨t.o,by show Ending.returned (.tuple #[ν j,.bool<|decide ((j:Int)<=64)])=_;rw[YW (show(j:Int)<=64 by omega),<-D.o]⟩,r.o⟩
def BE(a d:Nat)(c:Nat->a_):Prop:=a<d\/64<a\/∃b,b<a/\(c b).size≠64
def OV(b e m r:Nat)(d:Nat->a_)(h:b_)(A:b<=1900000)(w:e<=1000)(hF:qJ h m b d)(i:BE b e d):
 Calls prog 61 #[.slice (some (μ m 0)) b r,ν e] h λg u=>g=.returned (.bool false)/\u=h:=by
 by_cases x:e<=b/\b<=64
 .let⟨f,C,o⟩:∃n,n<b/\(d n).size≠64:=by
   rcases i with c|c|c
   .omega
   .omega
   .exact c
  have s:=h_ hF;have t:=h_ o;clear hF i o
  go_enter func61,ntmps61
  go_wp2_with fail
  refine(lX _ _ _ _ om om).mono ?_;rintro g l ⟨rfl,rfl⟩
  go_wp2_with fail
  go_loopw [14] (λj wr=>∃a:Nat,a<=f/\j=ν a/\wr=l) (λj _=>b-(intOf j).toNat)
  case atStart=>exact⟨0,YG _,rfl,rfl⟩
  case round=>
   obtain⟨a,v,rfl,rfl⟩:=hrel;have p:a<b:=om;have z:=s a p;have y:(a:Int)<(b:Int):=om;by_cases k:(d a).size=64
   .have B:a<f:=by
     rcases Zj a f with c|c
     .exact c
     .obtain rfl:a=f:=om;exact absurd k t
    have q:(((d a).size:Int)!=64)=false:=so;clear k
    go_wp2_with fail
    go_roundw
    case rel=>exact⟨a+1,om,gn,trivial⟩
    case measure=>exact mz
   .have q:(((d a).size:Int)!=64)=true:=so;clear k;go_wp2;go_ret;exact⟨rfl,rfl⟩
 .clear hF i
  go_enter func61,ntmps61
  go_wp2_with fail
  refine(pb _ _ _ _ om).mono ?_;rintro g l ⟨rfl,rfl⟩;go_wp2;go_ret;exact⟨rfl,rfl⟩
def zz(s0 s1 s2 s3 c M u b:Int)(n k m o:Nat)(ad l:Option Addr)(d:Nat->Int)(w:b_)(f:qo w ad n d)(s:n<=9223372036854775807)(g:¬mV s0 s1 s2 s3 c M u n d b):
 Calls prog 25 #[.agg #[ν s0,ν s1,ν s2,ν s3,ν c,ν M,ν u,.slice ad n k,ν b],.slice l m o] w λa z=>a=.returned (.tuple #[.pointer none,σ,ν 2])/\Below w.heap.size w z:=by
 refine Hy ?_;intro W U dh a2 bq c0 c1 c2 c3 c4 c5 c6 c7 c8;have j:=h_<|yy s0 s1 s2 s3 c M u b n k ad d W (f.nD a2) s;have y:=h_ a2;have t:=h_ g;clear bq a2 f g
 go_enter func25,ntmps25
 go_wp2_with fail
 rw[<-U];clear U;apply j.o.mono;rintro a A ⟨h,e⟩
 obtain rfl:a=.returned (.tuple #[ν 0,ν 2]):=by
  rcases h with⟨_,x⟩|⟨r,_⟩
  .exact x
  .exact absurd r t
 have i:=h_<|jZ y e;clear h e c0 c1 c2 c3 c4 c5 c6 c7 c8;go_wp2;refine Yx (v:=.tuple #[.pointer none,σ,ν 2]) (by simp[results,results25,go_sem]) rfl ⟨rfl,i⟩
def Dr(s0 s1 s2 s3 c M u b:Int)(n k d o f a:Nat)(ad:Option Addr)(i:Nat->Int)(h:Nat->a_)(w:b_)(j:qo w ad n i)(C:n<=9223372036854775807)(m:mV s0 s1 s2 s3 c M u n i b)(t:a=2*max 1 (((c.toNat+7)/8+2*M.toNat+61)/62))(y:a<=1000)(L:f<w.heap.size)(K:d<=1900000)(hF:qJ w f d h)(r:BE d a h):
 Calls prog 25 #[.agg #[ν s0,ν s1,ν s2,ν s3,ν c,ν M,ν u,.slice ad n k,ν b],.slice (some (μ f 0)) d o] w λe N=>e=.returned (.tuple #[.pointer none,σ,ν 3])/\Below w.heap.size w N:=by
 refine Hy ?_;intro W U dh a2 bq c0 c1 c2 c3 c4 c5 c6 c7 c8;have l:=h_<|yy s0 s1 s2 s3 c M u b n k ad i W (j.nD a2) C;rw[<-t]at l;have J:=h_ a2;have z:=h_ m;have F:=h_<|hF.nD L a2;have D:=h_ r;clear bq a2 j m hF r t
 go_enter func25,ntmps25
 go_wp2_with fail
 rw[<-U];clear U;apply l.o.mono;rintro e B ⟨s,g⟩
 obtain rfl:e=.returned (.tuple #[ν a,ν 0]):=by
  rcases s with⟨A,_⟩|⟨_,E⟩
  .exact absurd z A
  .exact E
 have x:=h_<|jZ J g;have I:=h_<|F.o.nD om g;clear s g c0 c1 c2 c3 c4 c5 c6 c7 c8
 go_wp2_with fail
 refine(OV d a f o h B K y I D).mono ?_;rintro e O ⟨rfl,rfl⟩;go_wp2;refine Yx (v:=.tuple #[.pointer none,σ,ν 3]) (by simp[results,results25,go_sem]) rfl ⟨rfl,x⟩
