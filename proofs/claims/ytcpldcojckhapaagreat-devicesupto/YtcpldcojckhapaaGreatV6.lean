import Derived.Test.YtcpldcojckhapaaGreatV2
set_option maxRecDepth 100000
set_option maxHeartbeats 16000000
set_option linter.all false
noncomputable section
namespace Go.Proofs.YtcpldcojckhapaaGreat
open Go.Proofs.Tryz Go.RowKit
def tp(w:b_)(b kb:Nat)(o m x u B z y s t K v an:f_)(N:Nat)(P:Nat->Prop)(xs:List Ac)
 (aH:w.heap[kb]?=some (.cells #[o,m,K,x,.bool false,u,B,z,y,s,t,v,an] 33))
 (a2:j8 w b 31 77 4 u' K N P) (cI:∀g,P g->v.ownBlock≠some g)
 (ai:w.ownsRow b 77 4 v xs.length<|xs.flatMap ku) (X:w.ownsRow b 77 4 an xs.length<|xs.flatMap ku) (a1:N%4=0) (bo:N<=8000000) (bb:xs.length<=1900000) (bJ:b<=w.heap.size):
 Calls prog 47 #[π kb] w λe aj=>e=.returned (.tuple #[])/\∃W,aj.heap[kb]?=some (.cells #[o,m,W,x,.bool false,u,B,z,y,s,t,σ,σ] 33)/\
  j8 aj b 31 77 4 u' W (N+4) (λg=>P g\/v.ownBlock=some g\/w.heap.size<=g)/\no w aj kb K v/\∀g,W.ownBlock=some g->K.ownBlock=some g\/w.heap.size<=g:=by
 have mY:=Yn aH;have bN:w.cell? (μ kb 2)=some K:=cr aH;have bn:w.cell? (μ kb 4)=some (.bool false):=cr aH;have a8:w.cell? (μ kb 11)=some v:=cr aH;have a9:w.cell? (μ kb 12)=some an:=cr aH;refine Gu ?_;intro aT cv;obtain⟨av,aw,rfl,dz⟩:=i_ ai;obtain⟨af,ak,rfl,dt⟩:=i_ X;obtain⟨bi,ac,aP⟩:=a2;obtain⟨cW,cU,rfl,_⟩:=i_ ac;have eF:j8 w b 31 77 4 u' (.slice cW N cU) N P:=⟨bi,ac,aP⟩;clear ac aP;obtain⟨n,dw⟩:=j5 xs.length;rw[<-dw]at a8 a9 dz dt bb ai X cv cI;refine NX ?_;intro dg HC cH dJ;clear dz dt X dw aH cI
 go_enter func47,ntmps47
 go_wp2_with fail
 go_loopw [3] (λa wr=>∃q:Nat,q<=n/\a=ν q/\ni w wr) (λa _=>n-(intOf a).toNat)
 case atStart=>exact⟨0,YG _,rfl,ni.refl _⟩
 case round=>
  obtain⟨q,aD,rfl,aW⟩:=hrel;refine NW ?_;intro bW bR;by_cases ad:q<n
  .obtain⟨O,rfl,b3,D⟩:=HC.o q ad;obtain⟨T,rfl,bI,F⟩:=cH.o q ad;obtain⟨f,al,ag,aa,ar⟩:=XT xs q (by rw[<-dg.o];exact ad);have d10:=((aW.cell<|μ O<|q*4).trans<|D (q*4) om).trans al;have d11:=((aW.cell<|μ O<|q*4+1).trans<|D (q*4+1) om).trans ag;have d12:=((aW.cell<|μ O<|q*4+2).trans<|D (q*4+2) om).trans aa;have d13:=((aW.cell<|μ O<|q*4+3).trans<|D (q*4+3) om).trans ar;have d20:=((aW.cell<|μ T<|q*4).trans<|F (q*4) om).trans al;have d21:=((aW.cell<|μ T<|q*4+1).trans<|F (q*4+1) om).trans ag;have d22:=((aW.cell<|μ T<|q*4+2).trans<|F (q*4+2) om).trans aa;have d23:=((aW.cell<|μ T<|q*4+3).trans<|F (q*4+3) om).trans ar;clear D F al ag aa ar;exact Qm
  .go_wp2_with fail
   have e7:=aW.heap;obtain⟨df,ef⟩:=j5<|wr.alloc<|.cells #[.int .u8 0,ν<|70000+(N:Int),ν 0,.string ⟨#[]⟩] 77;refine Qr ?_;intro aB eg fz cX;have dK:Hid<|df.heap[aB]?=some (Obj.cells #[.int .u8 0,ν<|70000+(N:Int),ν 0,.string ⟨#[]⟩] 77):=by show _=_;rw[ef,eg];exact YO wr _
   refine Qz ?_;intro dL hz1 dM;clear ef fz eg;have aO:df.ownsRow b 77 4 (.slice av n aw) n<|xs.flatMap ku:=jV ai λg hg=>cX g (ai.lt g hg).2;refine NS ?_;intro ei eD dV;have aF:ma df b 77 4 (.slice av n aw) n 0<|l2 n<|u' N:=ma.u_ aO;clear e7 cX aO ai bW bR aW
   go_loopw [5] (λa wr=>∃k:Nat,k<=n/\a=ν k/\ma wr b 77 4 (.slice av n aw) n (k*4) (l2 n<|u' N)/\df.grownBy wr (Value.ownBlock<|.slice av n aw)) (λa _=>n-(intOf a).toNat)
   case atStart=>exact⟨0,YG _,rfl,aF,pr _ _⟩
   case round=>
    obtain⟨k,hk,rfl,I,ah⟩:=hrel;refine QY ?_;intro dA;have S:wr.cell? (μ aB 0)=some (.int .u8 0):=(dA 0).trans<|cr dK.o;have R:wr.cell? (μ aB 1)=some (ν<|70000+(N:Int)):=(dA 1).trans<|cr dK.o;have L:wr.cell? (μ aB 2)=some (ν 0):=(dA 2).trans<|cr dK.o;have U:wr.cell? (μ aB 3)=some (.string ⟨#[]⟩):=(dA 3).trans<|cr dK.o;clear dA;by_cases E:k<n
    .obtain⟨g,rfl,_,_⟩:=HC.o k E;obtain⟨C,bC⟩:=I.cells;obtain⟨bX,bL⟩:=C (k*4) om;obtain⟨bS,bB⟩:=C (k*4+1) om;obtain⟨bT,bY⟩:=C (k*4+2) om;obtain⟨bm,bM⟩:=C (k*4+3) om;have aI:(l2 n<|u' N)[k*4]?=some (.int .u8 0):=by have:=qi (u' N) 4 n k 0 rfl E om;rw[YE]at this;unfold l2;rw[this];rfl
     have aU:(l2 n<|u' N)[k*4+1]?=some (ν<|70000+(N:Int)):=by have:=qi (u' N) 4 n k 1 rfl E om;unfold l2;rw[this];rfl
     have aK:(l2 n<|u' N)[k*4+2]?=some (ν 0):=by have:=qi (u' N) 4 n k 2 rfl E om;unfold l2;rw[this];rfl
     have aJ:(l2 n<|u' N)[k*4+3]?=some (.string ⟨#[]⟩):=by have:=qi (u' N) 4 n k 3 rfl E om;unfold l2;rw[this];rfl
     have bf:=h_<|(((I.step aI om).step aU om).step aK om).step aJ om;have a0:=h_<|lE (i:=k*4+3) (lE (i:=k*4+2) (lE (i:=k*4+1) (lE (i:=k*4) ah<|.int .u8 0)<|ν<|70000+(N:Int))<|ν 0)<|.string ⟨#[]⟩;clear C aI aU aK aJ I ah;go_wp2
     go_roundw
     case rel=>exact⟨k+1,om,gn,by rw[show(k+1)*4=k*4+1+1+1+1 by omega];exact bf.o,a0.o⟩
     case measure=>exact mz
    .go_wp2_with fail
     obtain⟨h,cb⟩:∃h:f_->Array f_,h=λf=>#[o,m,f,x,.bool false,u,B,z,y,s,t,.slice av n aw,.slice af n ak]:=⟨_,rfl⟩;refine NZ ?_;intro Q cV
     have aG:l3 w wr b kb aB h (some #[.int .u8 0,ν<|70000+(N:Int),ν 0,.string ⟨#[]⟩]) 31 77 4 u' Q N 0 (.slice cW N cU) (.slice av n aw) (.slice cW N cU) (.slice av n aw) n:=by
      have bk:k=n:=om;subst bk;refine NR ?_;intro dN;have hown:=I.own (us k 4 (u' N) rfl) om
      have gq:j8 wr b 31 77 4 u' (.slice cW N cU) N P:=eF.carry (λj bz bU hc aY _=>dN j (Yn hc) (λaR=>by
       rcases aY with r|r
       .exact NY
       .exact dJ.o j r aR))
      exact Vf
     have bg:=h_ aG;have a3:=h_ (show∀ao Y,(h ao).setIfInBounds 2 Y=h Y by rw[cb];intro ao Y;rfl);have az:Hid<|h=λf=>#[o,m,f,x,.bool false,u,B,z,y,s,t,.slice av n aw,.slice af n ak]:=cb;refine Gw ?_;intro HQ;have bs:kb<aB:=by rw[dM.o];exact mY
     clear aG cb cV I ah dV dL aF dK S R L U;obtain⟨a6,aZ,bc,bh,a4⟩:=Y4 Tryz.S7;obtain⟨ax,aV,aX,aN,aC⟩:=Y4 Tryz.po
     go_loopw [2,6] (λap a wr=>∃(q d:Nat) (l bF:f_),q<=4/\a=ν q/\ap=l/\d<=n+64*q/\l3 w wr b kb aB h (some #[.int .u8 0,ν<|70000+(N:Int),ν 0,.string ⟨#[]⟩]) 31 77 4 u' Q N q (.slice cW N cU) (.slice av n aw) bF l d) (λ_ a _=>4-(intOf a).toNat)
     case atStart=>exact⟨0,n,_,_,om,rfl,rfl,om,bg.o⟩
     case round=>
      obtain⟨q,d,l,bF,bA,rfl,rfl,bq,st⟩:=hrel;obtain⟨Ls,eB,_⟩:=st.o2.outer;obtain⟨au,aM,rfl,_⟩:=i_ st.o2.list;have bl:=st.pq.size;have bG:=st.book;rw[az.o]at bG;have aQ:wr.cell? (μ kb 2)=some bF:=cr bG;have ae:∃A,wr.cell? (μ kb 11)=some A:=⟨_,cr bG⟩;have am:∃A,wr.cell? (μ kb 12)=some A:=⟨_,cr bG⟩;refine NU ?_;intro bR b2 b1;clear bG;by_cases aD:q<4
      .go_upto_region 14 with(at_builtin;refine j7 rfl (.tmp 64) (.tmp 66) 26 rfl b 31 a6 σ 1 24 underlying26 aZ bc bh a4 rfl dc bF (N+q) Ls rfl (b1.o.alloc _) (μ wr.heap.size 0) 1 1 [.slice au d aM] rfl rfl (cell_one_new _ _ _) (by intro A i;simp at i;subst i;rfl) ml om so ?_;intro bD V Z aq _ aA;obtain⟨aE,aS,rfl,_⟩:=i_ Z;have ab:V.heap[kb]?=wr.heap[kb]?:=sP b2.o b1.o dc aq;have bd:V.cell? (μ kb 2)=some bF:=(ZL ab).trans aQ;have f3:V.frozen? (μ kb 2)=false:=(aaI ab).trans<|bR 2)
       have bu:=b2.o.push 2 a3.o aD a1 dc dc dc om (λ_ hc=>by omega) b1.o aq aA Z;obtain⟨bv,ay⟩:=j5<|V.setCell (μ kb 2)<|.slice aE (N+q+1) aS;rw[<-ay]at bu⊢;have bj:=bu.mark _ rfl;have S:bv.cell? (μ aB 0)=some (.int .u8 0):=cr bj;have R:bv.cell? (μ aB 1)=some (ν<|70000+(N:Int)):=cr bj;have L:bv.cell? (μ aB 2)=some (ν 0):=cr bj;have U:bv.cell? (μ aB 3)=some (.string ⟨#[]⟩):=cr bj;refine QJ ?_;intro cw du cD ek;have e9:Hid (∀c:Array f_,((some #[.int .u8 0,ν<|70000+(N:Int),ν 0,.string ⟨#[]⟩]):Option (Array f_))=some c->Value.ownBlock (.slice av n aw)≠some aB):=λc hc aR=>by have:=ei.o aB aR;have:=dM.o;omega
       clear ay bu aQ ae am bR st b2 b1 eB Z aq aA ab bd f3 bj
       go_wp2_with (at_builtin;refine j7 rfl (.tmp 70) (.tmp 72) 31 rfl b 77 ax (.agg #[.int .u8 0,ν 0,ν 0,.string ⟨#[]⟩]) 4 40 underlying31 aV aX aN aC rfl dc (.slice au d aM) d (l2 d<|u' N) rfl (cD.o.o2.list.alloc _) (μ bv.heap.size 0) 1 1 [.int .u8 0,ν<|70000+(N:Int),ν 0,.string ⟨#[]⟩] rfl rfl (lR _ _ _ _ _ _) (by intro A i;simp at i;rcases i with rfl|rfl|rfl|rfl<;>rfl) ml om so ?_;intro bP bZ dy eE eC eA;obtain⟨bV,d5,rfl,_⟩:=i_ dy)
       refine Gx ?_;intro bw ej;clear bw dy eE eC eA cD cw S R L U
       go_loopw [2,7] (λap a wr=>∃(r aL:Nat) (l:f_),r<=60/\a=ν r/\ap=l/\aL<=n+64*q+1+r/\l3 w wr b kb aB h (some #[.int .u8 0,ν<|70000+(N:Int),ν 0,.string ⟨#[]⟩]) 31 77 4 u' Q N (q+1) (.slice cW N cU) (.slice av n aw) (.slice aE (N+q+1) aS) l aL) (λ_ a _=>60-(intOf a).toNat)
       case atStart=>exact⟨0,d+1,_,om,rfl,rfl,om,ej.o⟩
       case round=>
        obtain⟨r,aL,l,bO,rfl,rfl,bt,J⟩:=hrel;obtain⟨a5,a',rfl,_⟩:=i_ J.o2.list;have bj:=J.mark _ rfl;have S:wr.cell? (μ aB 0)=some (.int .u8 0):=cr bj;have R:wr.cell? (μ aB 1)=some (ν<|70000+(N:Int)):=cr bj;have L:wr.cell? (μ aB 2)=some (ν 0):=cr bj;have U:wr.cell? (μ aB 3)=some (.string ⟨#[]⟩):=cr bj;have cw:Hid<|aB<=wr.heap.size:=aaV<|Yn bj;have bp:=J.pq.size;have dx:=h_ J;clear J bj;by_cases be:r<60/\q=2
        .obtain⟨gp,a7⟩:=be;have t2:((q:Int)==2)=true:=so;clear a7
         go_wp2_with (at_builtin;refine j7 rfl (.tmp 82) (.tmp 84) 31 rfl b 77 ax (.agg #[.int .u8 0,ν 0,ν 0,.string ⟨#[]⟩]) 4 40 underlying31 aV aX aN aC rfl dc (.slice a5 aL a') aL (l2 aL<|u' N) rfl (dx.o.o2.list.alloc _) (μ wr.heap.size 0) 1 1 [.int .u8 0,ν<|70000+(N:Int),ν 0,.string ⟨#[]⟩] rfl rfl (lR _ _ _ _ _ _) (by intro A i;simp at i;rcases i with rfl|rfl|rfl|rfl<;>rfl) ml om so ?_;intro bH bE eG hz hy hB;obtain⟨bQ,d7,rfl,_⟩:=i_ eG)
         refine GC ?_;intro eh
         go_roundw
         case rel=>exact⟨r+1,aL+1,_,om,gn,rfl,om,eh⟩
         case measure=>exact mz
        .exact Qn
      .obtain⟨bx,ae⟩:=ae;obtain⟨bK,am⟩:=am;go_wp2
       go_end0
       have hC:q=4:=om
       have e8:=(b2.o.field (λf=>#[o,m,f,x,.bool false,u,B,z,y,s,t,σ,.slice af n ak]) 11 σ (by rw[az.o];intro ao;rfl) dc dc (λ_ hc=>by omega)).field
        (λf=>#[o,m,f,x,.bool false,u,B,z,y,s,t,σ,σ]) 12 σ (λ_=>rfl) dc dc (λ_ hc=>by omega)
       exact N0
theorem xj(w:b_)(b kb:Nat)(o u z v B s t x m E y am:f_)(N:Nat)(P:Nat->Prop)(xs:List Sv)
 (aH:w.heap[kb]?=some (.cells #[o,E,u,z,.bool false,v,B,y,am,s,t,x,m] 33))
 (aZ:j8 w b 29 94 3 ze E N P) (cI:∀g,P g->y.ownBlock≠some g)
 (ai:w.ownsRow b 94 3 y xs.length<|xs.flatMap lU) (V:w.ownsRow b 94 3 am xs.length<|xs.flatMap lU) (aY:N%4=0) (bk:N<=8000000) (a8:xs.length<=1900000) (bD:b<=w.heap.size):
 Calls prog 45 #[π kb] w λe af=>e=.returned (.tuple #[])/\∃T,af.heap[kb]?=some (.cells #[o,T,u,z,.bool false,v,B,σ,σ,s,t,x,m] 33)/\
  j8 af b 29 94 3 ze T (N+4) (λg=>P g\/y.ownBlock=some g\/w.heap.size<=g)/\no w af kb E y/\∀g,T.ownBlock=some g->E.ownBlock=some g\/w.heap.size<=g:=by
 have mY:=Yn aH;have bI:w.cell? (μ kb 1)=some E:=cr aH;have bi:w.cell? (μ kb 4)=some (.bool false):=cr aH;have a5:w.cell? (μ kb 7)=some y:=cr aH;have a6:w.cell? (μ kb 8)=some am:=cr aH;refine Gu ?_;intro aT cv;obtain⟨av,aw,rfl,dz⟩:=i_ ai;obtain⟨ad,aj,rfl,dt⟩:=i_ V;obtain⟨bf,aa,aM⟩:=aZ;obtain⟨cW,cU,rfl,_⟩:=i_ aa;have eF:j8 w b 29 94 3 ze (.slice cW N cU) N P:=⟨bf,aa,aM⟩;clear aa aM;obtain⟨n,dw⟩:=j5 xs.length;rw[<-dw]at a5 a6 dz dt a8 ai V cv cI;refine NX ?_;intro dg HC cH dJ;clear dz dt V dw aH cI
 go_enter func45,ntmps45
 go_wp2_with fail
 go_loopw [3] (λa wr=>∃q:Nat,q<=n/\a=ν q/\ni w wr) (λa _=>n-(intOf a).toNat)
 case atStart=>exact⟨0,YG _,rfl,ni.refl _⟩
 case round=>
  obtain⟨q,aA,rfl,aW⟩:=hrel;refine NW ?_;intro bW bR;by_cases ab:q<n
  .obtain⟨U,rfl,bU,J⟩:=HC.o q ab;obtain⟨ag,rfl,bC,L⟩:=cH.o q ab;obtain⟨f,ak,ae,Y⟩:=XS xs q (by rw[<-dg.o];exact ab);have d10:=((aW.cell<|μ U<|q*3).trans<|J (q*3) om).trans ak;have d11:=((aW.cell<|μ U<|q*3+1).trans<|J (q*3+1) om).trans ae;have d12:=((aW.cell<|μ U<|q*3+2).trans<|J (q*3+2) om).trans Y;have d20:=((aW.cell<|μ ag<|q*3).trans<|L (q*3) om).trans ak;have d21:=((aW.cell<|μ ag<|q*3+1).trans<|L (q*3+1) om).trans ae;have d22:=((aW.cell<|μ ag<|q*3+2).trans<|L (q*3+2) om).trans Y;clear J L ak ae Y;exact Qm
  .go_wp2_with fail
   have e7:=aW.heap;obtain⟨df,ef⟩:=j5<|wr.alloc<|.cells #[ν<|70000+(N:Int),ν 0,.string ⟨#[]⟩] 94;refine Qr ?_;intro aB eg fz cX;have dK:Hid<|df.heap[aB]?=some (Obj.cells #[ν<|70000+(N:Int),ν 0,.string ⟨#[]⟩] 94):=by show _=_;rw[ef,eg];exact YO wr _
   refine Qz ?_;intro dL hz1 dM;clear ef fz eg;have aK:df.ownsRow b 94 3 (.slice av n aw) n<|xs.flatMap lU:=jV ai λg hg=>cX g (ai.lt g hg).2;refine NS ?_;intro ei eD dV;have aD:ma df b 94 3 (.slice av n aw) n 0<|l2 n<|ze N:=ma.u_ aK;clear e7 cX aK ai bW bR aW
   go_loopw [5] (λa wr=>∃k:Nat,k<=n/\a=ν k/\ma wr b 94 3 (.slice av n aw) n (k*3) (l2 n<|ze N)/\df.grownBy wr (Value.ownBlock<|.slice av n aw)) (λa _=>n-(intOf a).toNat)
   case atStart=>exact⟨0,YG _,rfl,aD,pr _ _⟩
   case round=>
    obtain⟨k,hk,rfl,C,ah⟩:=hrel;refine QY ?_;intro dA;have R:wr.cell? (μ aB 0)=some (ν<|70000+(N:Int)):=(dA 0).trans<|cr dK.o;have O:wr.cell? (μ aB 1)=some (ν 0):=(dA 1).trans<|cr dK.o;have F:wr.cell? (μ aB 2)=some (.string ⟨#[]⟩):=(dA 2).trans<|cr dK.o;clear dA;by_cases K:k<n
    .obtain⟨g,rfl,_,_⟩:=HC.o k K;obtain⟨I,bx⟩:=C.cells;obtain⟨bQ,bH⟩:=I (k*3) om;obtain⟨bM,bt⟩:=I (k*3+1) om;obtain⟨bN,bS⟩:=I (k*3+2) om;have aF:(l2 n<|ze N)[k*3]?=some (ν<|70000+(N:Int)):=by have:=qi (ze N) 3 n k 0 rfl K om;rw[YE]at this;unfold l2;rw[this];rfl
     have aP:(l2 n<|ze N)[k*3+1]?=some (ν 0):=by have:=qi (ze N) 3 n k 1 rfl K om;unfold l2;rw[this];rfl
     have aG:(l2 n<|ze N)[k*3+2]?=some (.string ⟨#[]⟩):=by have:=qi (ze N) 3 n k 2 rfl K om;unfold l2;rw[this];rfl
     have bc:=h_<|((C.step aF om).step aP om).step aG om;have aX:=h_<|lE (i:=k*3+2) (lE (i:=k*3+1) (lE (i:=k*3) ah<|ν<|70000+(N:Int))<|ν 0)<|.string ⟨#[]⟩;clear I aF aP aG C ah;go_wp2
     go_roundw
     case rel=>exact⟨k+1,om,gn,by rw[show(k+1)*3=k*3+1+1+1 by omega];exact bc.o,aX.o⟩
     case measure=>exact mz
    .go_wp2_with fail
     obtain⟨h,cb⟩:∃h:f_->Array f_,h=λf=>#[o,f,u,z,.bool false,v,B,.slice av n aw,.slice ad n aj,s,t,x,m]:=⟨_,rfl⟩;refine NZ ?_;intro Q cV
     have aE:l3 w wr b kb aB h (some #[ν<|70000+(N:Int),ν 0,.string ⟨#[]⟩]) 29 94 3 ze Q N 0 (.slice cW N cU) (.slice av n aw) (.slice cW N cU) (.slice av n aw) n:=by
      have bg:k=n:=om;subst bg;refine NR ?_;intro dN;have hown:=C.own (us k 3 (ze N) rfl) om
      have gq:j8 wr b 29 94 3 ze (.slice cW N cU) N P:=eF.carry (λj bq bO hc aU _=>dN j (Yn hc) (λaR=>by
       rcases aU with r|r
       .exact NY
       .exact dJ.o j r aR))
      exact Vf
     have bd:=h_ aE;have a0:=h_ (show∀an W,(h an).setIfInBounds 1 W=h W by rw[cb];intro an W;rfl);have ax:Hid<|h=λf=>#[o,f,u,z,.bool false,v,B,.slice av n aw,.slice ad n aj,s,t,x,m]:=cb;refine Gw ?_;intro HQ;have bn:kb<aB:=by rw[dM.o];exact mY
     clear aE cb cV C ah dV dL aD dK R O F;obtain⟨a3,aV,a9,be,a1⟩:=Y4 Tryz.S5;obtain⟨ar,aQ,aS,aJ,az⟩:=Y4 Tryz.S6
     go_loopw [2,6] (λao a wr=>∃(q d:Nat) (l bF:f_),q<=4/\a=ν q/\ao=l/\d<=n+64*q/\l3 w wr b kb aB h (some #[ν<|70000+(N:Int),ν 0,.string ⟨#[]⟩]) 29 94 3 ze Q N q (.slice cW N cU) (.slice av n aw) bF l d) (λ_ a _=>4-(intOf a).toNat)
     case atStart=>exact⟨0,n,_,_,om,rfl,rfl,om,bd.o⟩
     case round=>
      obtain⟨q,d,l,bF,bs,rfl,rfl,bm,st⟩:=hrel;obtain⟨Ls,eB,_⟩:=st.o2.outer;obtain⟨aq,aI,rfl,_⟩:=i_ st.o2.list;have bh:=st.pq.size;have bG:=st.book;rw[ax.o]at bG;have aN:wr.cell? (μ kb 1)=some bF:=cr bG;have ac:∃A,wr.cell? (μ kb 7)=some A:=⟨_,cr bG⟩;have al:∃A,wr.cell? (μ kb 8)=some A:=⟨_,cr bG⟩;refine NU ?_;intro bR b2 b1;clear bG;by_cases aA:q<4
      .go_upto_region 14 with(at_builtin;refine j7 rfl (.tmp 64) (.tmp 66) 25 rfl b 29 a3 σ 1 24 underlying25 aV a9 be a1 rfl dc bF (N+q) Ls rfl (b1.o.alloc _) (μ wr.heap.size 0) 1 1 [.slice aq d aI] rfl rfl (cell_one_new _ _ _) (by intro A i;simp at i;subst i;rfl) ml om so ?_;intro bz S X ap _ ay;obtain⟨aC,aO,rfl,_⟩:=i_ X;have Z:S.heap[kb]?=wr.heap[kb]?:=sP b2.o b1.o dc ap;have a':S.cell? (μ kb 1)=some bF:=(ZL Z).trans aN;have f3:S.frozen? (μ kb 1)=false:=(aaI Z).trans<|bR 1)
       have bu:=b2.o.push 1 a0.o aA aY dc dc dc om (λ_ hc=>by omega) b1.o ap ay X;obtain⟨bv,au⟩:=j5<|S.setCell (μ kb 1)<|.slice aC (N+q+1) aO;rw[<-au]at bu⊢;have bj:=bu.mark _ rfl;have R:bv.cell? (μ aB 0)=some (ν<|70000+(N:Int)):=cr bj;have O:bv.cell? (μ aB 1)=some (ν 0):=cr bj;have F:bv.cell? (μ aB 2)=some (.string ⟨#[]⟩):=cr bj;refine QJ ?_;intro cw du cD ek;have e9:Hid (∀c:Array f_,((some #[ν<|70000+(N:Int),ν 0,.string ⟨#[]⟩]):Option (Array f_))=some c->Value.ownBlock (.slice av n aw)≠some aB):=λc hc aR=>by have:=ei.o aB aR;have:=dM.o;omega
       clear au bu aN ac al bR st b2 b1 eB X ap ay Z a' f3 bj
       go_wp2_with (at_builtin;refine j7 rfl (.tmp 70) (.tmp 72) 29 rfl b 94 ar (.agg #[ν 0,ν 0,.string ⟨#[]⟩]) 3 32 underlying29 aQ aS aJ az rfl dc (.slice aq d aI) d (l2 d<|ze N) rfl (cD.o.o2.list.alloc _) (μ bv.heap.size 0) 1 1 [ν<|70000+(N:Int),ν 0,.string ⟨#[]⟩] rfl rfl (mm _ _ _ _ _) (by intro A i;simp at i;rcases i with rfl|rfl|rfl<;>rfl) ml om so ?_;intro bK bT dy eE eC eA;obtain⟨bP,d5,rfl,_⟩:=i_ dy)
       refine Gx ?_;intro bw ej;clear bw dy eE eC eA cD cw R O F
       go_loopw [2,7] (λao a wr=>∃(r aL:Nat) (l:f_),r<=60/\a=ν r/\ao=l/\aL<=n+64*q+1+r/\l3 w wr b kb aB h (some #[ν<|70000+(N:Int),ν 0,.string ⟨#[]⟩]) 29 94 3 ze Q N (q+1) (.slice cW N cU) (.slice av n aw) (.slice aC (N+q+1) aO) l aL) (λ_ a _=>60-(intOf a).toNat)
       case atStart=>exact⟨0,d+1,_,om,rfl,rfl,om,ej.o⟩
       case round=>
        obtain⟨r,aL,l,bJ,rfl,rfl,bo,D⟩:=hrel;obtain⟨a2,a7,rfl,_⟩:=i_ D.o2.list;have bj:=D.mark _ rfl;have R:wr.cell? (μ aB 0)=some (ν<|70000+(N:Int)):=cr bj;have O:wr.cell? (μ aB 1)=some (ν 0):=cr bj;have F:wr.cell? (μ aB 2)=some (.string ⟨#[]⟩):=cr bj;have cw:Hid<|aB<=wr.heap.size:=aaV<|Yn bj;have bl:=D.pq.size;have dx:=h_ D;clear D bj;by_cases bb:r<60/\q=2
        .obtain⟨gp,a4⟩:=bb;have t2:((q:Int)==2)=true:=so;clear a4
         go_wp2_with (at_builtin;refine j7 rfl (.tmp 82) (.tmp 84) 29 rfl b 94 ar (.agg #[ν 0,ν 0,.string ⟨#[]⟩]) 3 32 underlying29 aQ aS aJ az rfl dc (.slice a2 aL a7) aL (l2 aL<|ze N) rfl (dx.o.o2.list.alloc _) (μ wr.heap.size 0) 1 1 [ν<|70000+(N:Int),ν 0,.string ⟨#[]⟩] rfl rfl (mm _ _ _ _ _) (by intro A i;simp at i;rcases i with rfl|rfl|rfl<;>rfl) ml om so ?_;intro bB bA eG hz hy hB;obtain⟨bL,d7,rfl,_⟩:=i_ eG)
         refine GC ?_;intro eh
         go_roundw
         case rel=>exact⟨r+1,aL+1,_,om,gn,rfl,om,eh⟩
         case measure=>exact mz
        .exact Qn
      .obtain⟨bp,ac⟩:=ac;obtain⟨bE,al⟩:=al;go_wp2
       go_end0
       have hC:q=4:=om
       have e8:=(b2.o.field (λf=>#[o,f,u,z,.bool false,v,B,σ,.slice ad n aj,s,t,x,m]) 7 σ (by rw[ax.o];intro an;rfl) dc dc (λ_ hc=>by omega)).field
        (λf=>#[o,f,u,z,.bool false,v,B,σ,σ,s,t,x,m]) 8 σ (λ_=>rfl) dc dc (λ_ hc=>by omega)
       exact N0
def qr(w:b_)(d kb:Nat)(t y B D C v x z u K A ac:f_)(a:Nat)(P:Nat->Prop)(xs:List Int)
 (aH:w.heap[kb]?=some (.cells #[K,t,y,B,.bool false,A,ac,D,C,v,x,z,u] 33))
 (aO:j8 w d 28 3 1 zk K a P) (cI:∀g,P g->A.ownBlock≠some g)
 (ai:w.ownsRow d 3 1 A xs.length<|xs.flatMap ka) (O:w.ownsRow d 3 1 ac xs.length<|xs.flatMap ka) (aN:a%4=0) (bc:a<=8000000) (a0:xs.length<=1900000) (bp:d<=w.heap.size):
 Calls prog 44 #[π kb] w λa4 Y=>a4=.returned (.tuple #[])/\∃N,Y.heap[kb]?=some (.cells #[N,t,y,B,.bool false,σ,σ,D,C,v,x,z,u] 33)/\
  j8 Y d 28 3 1 zk N (a+4) (λg=>P g\/A.ownBlock=some g\/w.heap.size<=g)/\no w Y kb K A/\∀g,N.ownBlock=some g->K.ownBlock=some g\/w.heap.size<=g:=by
 have mY:=Yn aH;have bt:w.cell? (μ kb 0)=some K:=cr aH;have bb:w.cell? (μ kb 4)=some (.bool false):=cr aH;have aX:w.cell? (μ kb 5)=some A:=cr aH;have aY:w.cell? (μ kb 6)=some ac:=cr aH;refine Gu ?_;intro aT cv;obtain⟨av,aw,rfl,dz⟩:=i_ ai;obtain⟨X,Z,rfl,dt⟩:=i_ O;obtain⟨a8,U,aC⟩:=aO;obtain⟨o,l,rfl,_⟩:=i_ U;have eF:j8 w d 28 3 1 zk (.slice o a l) a P:=⟨a8,U,aC⟩;clear U aC;obtain⟨n,dw⟩:=j5 xs.length;rw[<-dw]at aX aY dz dt a0 ai O cv cI;refine NX ?_;intro dg HC cH dJ;clear dz dt O dw aH cI
 go_enter func44,ntmps44
 go_wp2_with fail
 go_loopw [3] (λb wr=>∃q:Nat,q<=n/\b=ν q/\ni w wr) (λb _=>n-(intOf b).toNat)
 case atStart=>exact⟨0,YG _,rfl,ni.refl _⟩
 case round=>
  obtain⟨q,ap,rfl,aW⟩:=hrel;refine NW ?_;intro bW bR;by_cases V:q<n
  .obtain⟨aI,rfl,bK,iJ⟩:=HC.o q V;obtain⟨bg,rfl,bo,bD⟩:=cH.o q V;obtain⟨f,hD⟩:=XR xs q (by rw[<-dg.o];exact V);exact Vk
  .go_wp2_with fail
   have aa:=aW.heap;obtain⟨s,F⟩:=j5 wr;rw[<-F];have cX:∀k,k<w.heap.size->s.heap[k]?=w.heap[k]?:=λk _=>by rw[F,aa]
   have dL:Hid<|no w s kb (.slice o a l)<|.slice av n aw:=by rw[F];exact aW.pq kb _ _
   have bB:w.heap.size<=s.heap.size:=by rw[F,aa];exact YC _
   clear F;have aB:s.ownsRow d 3 1 (.slice av n aw) n<|xs.flatMap ka:=jV ai λg hg=>cX g (ai.lt g hg).2;refine NS ?_;intro ei eD dV;have ar:ma s d 3 1 (.slice av n aw) n 0<|l2 n<|zk a:=ma.u_ aB;clear aa cX aB ai bW bR aW
   go_loopw [5] (λb wr=>∃k:Nat,k<=n/\b=ν k/\ma wr d 3 1 (.slice av n aw) n k (l2 n<|zk a)/\s.grownBy wr (Value.ownBlock<|.slice av n aw)) (λb _=>n-(intOf b).toNat)
   case atStart=>exact⟨0,YG _,rfl,ar,pr _ _⟩
   case round=>
    obtain⟨k,bx,rfl,I,ah⟩:=hrel;by_cases au:k<n
    .obtain⟨g,rfl,_,_⟩:=HC.o k au;obtain⟨ag,bk⟩:=I.cells;obtain⟨bI,bs⟩:=ag k om;have ay:(l2 n<|zk a)[k]?=some (ν<|70000+(a:Int)):=by have:=qi (zk a) 1 n k 0 rfl au om;simp only[YS,YE]at this;unfold l2;rw[this];rfl
     have a5:=h_<|I.step ay om;have aM:=h_<|lE (i:=k) ah<|ν<|70000+(a:Int);clear ag ay I ah;go_wp2
     go_roundw
     case rel=>exact⟨k+1,om,gn,a5.o,aM.o⟩
     case measure=>simp[intOf];omega
    .go_wp2_with fail
     obtain⟨h,cb⟩:∃h:f_->Array f_,h=λf=>#[f,t,y,B,.bool false,.slice av n aw,.slice X n Z,D,C,v,x,z,u]:=⟨_,rfl⟩;refine NZ ?_;intro Q cV
     have ax:l3 w wr d kb kb h none 28 3 1 zk Q a 0 (.slice o a l) (.slice av n aw) (.slice o a l) (.slice av n aw) n:=by
      have a9:k=n:=om;subst a9;refine NR ?_;intro dN;have hown:=I.own (us k 1 (zk a) rfl) om
      have gq:j8 wr d 28 3 1 zk (.slice o a l) a P:=eF.carry (λj bi bE hc aJ _=>dN j (Yn hc) (λaR=>by
       rcases aJ with r|r
       .exact NY
       .exact dJ.o j r aR))
      exact Vm
     have a6:=h_ ax;have aP:=h_ (show∀ad R,(h ad).setIfInBounds 0 R=h R by rw[cb];intro ad R;rfl);have am:Hid<|h=λf=>#[f,t,y,B,.bool false,.slice av n aw,.slice X n Z,D,C,v,x,z,u]:=cb;refine Gw ?_;intro HQ;clear ax cb cV I ah dV dL ar;obtain⟨aU,aK,a1,a7,aQ⟩:=Y4 Tryz.S4;obtain⟨ak,aF,aG,aA,ao⟩:=Y4 Tryz.qj
     go_loopw [2,6] (λae b wr=>∃(q e:Nat) (m bF:f_),q<=4/\b=ν q/\ae=m/\e<=n+64*q/\l3 w wr d kb kb h none 28 3 1 zk Q a q (.slice o a l) (.slice av n aw) bF m e) (λ_ b _=>4-(intOf b).toNat)
     case atStart=>exact⟨0,n,_,_,om,rfl,rfl,om,a6.o⟩
     case round=>
      obtain⟨q,e,m,bF,bj,rfl,rfl,be,st⟩:=hrel;obtain⟨Ls,eB,_⟩:=st.o2.outer;obtain⟨aj,az,rfl,_⟩:=i_ st.o2.list;have a':=st.pq.size;have bG:=st.book;rw[am.o]at bG;have aD:wr.cell? (μ kb 0)=some bF:=cr bG;have W:∃E,wr.cell? (μ kb 5)=some E:=⟨_,cr bG⟩;have ab:∃E,wr.cell? (μ kb 6)=some E:=⟨_,cr bG⟩;refine NU ?_;intro bR b2 b1;clear bG;by_cases ap:q<4
      .go_upto_region 14 with(at_builtin;refine j7 rfl (.tmp 63) (.tmp 65) 24 rfl d 28 aU σ 1 24 underlying24 aK a1 a7 aQ rfl dc bF (a+q) Ls rfl (b1.o.alloc _) (μ wr.heap.size 0) 1 1 [.slice aj e az] rfl rfl (cell_one_new _ _ _) (by intro E i;simp at i;subst i;rfl) ml om so ?_;intro bl L S af _ an;obtain⟨aq,aE,rfl,_⟩:=i_ S;have T:L.heap[kb]?=wr.heap[kb]?:=sP b2.o b1.o dc af;have a2:L.cell? (μ kb 0)=some bF:=(ZL T).trans aD;have f3:L.frozen? (μ kb 0)=false:=(aaI T).trans<|bR 0)
       have bu:=b2.o.push 0 aP.o ap aN dc dc dc om (λ_ hc=>by simp at hc) b1.o af an S;obtain⟨bv,al⟩:=j5<|L.setCell (μ kb 0)<|.slice aq (a+q+1) aE;rw[<-al]at bu⊢;refine Vj ?_;intro cw du cD ek e9;clear al bu aD W ab bR st b2 b1 eB S af an T a2 f3
       go_wp2_with (at_builtin;refine j7 rfl (.tmp 69) (.tmp 71) 28 rfl d 3 ak (ν 0) 1 8 underlying28 aF aG aA ao rfl dc (.slice aj e az) e (l2 e<|zk a) rfl (cD.o.o2.list.alloc _) (μ bv.heap.size 0) 1 1 [ν<|70000+(a:Int)] rfl rfl (cell_one_new _ _ _) (by intro E i;simp at i;subst i;rfl) ml om so ?_;intro bA bJ dy eE eC eA;obtain⟨bH,d5,rfl,_⟩:=i_ dy)
       refine Gx ?_;intro bw ej;clear bw dy eE eC eA cD cw
       go_loopw [2,7] (λae b wr=>∃(r aL:Nat) (m:f_),r<=60/\b=ν r/\ae=m/\aL<=n+64*q+1+r/\l3 w wr d kb kb h none 28 3 1 zk Q a (q+1) (.slice o a l) (.slice av n aw) (.slice aq (a+q+1) aE) m aL) (λ_ b _=>60-(intOf b).toNat)
       case atStart=>exact⟨0,e+1,_,om,rfl,rfl,om,ej.o⟩
       case round=>
        obtain⟨r,aL,m,bz,rfl,rfl,bf,J⟩:=hrel;obtain⟨aS,aZ,rfl,_⟩:=i_ J.o2.list;have cw:Hid<|kb<=wr.heap.size:=aaV<|Yy mY J.pq.size;have bd:=J.pq.size;have dx:=h_ J;clear J;by_cases a3:r<60/\q=2
        .obtain⟨gp,aV⟩:=a3;have t2:((q:Int)==2)=true:=so;clear aV
         go_wp2_with (at_builtin;refine j7 rfl (.tmp 81) (.tmp 83) 28 rfl d 3 ak (ν 0) 1 8 underlying28 aF aG aA ao rfl dc (.slice aS aL aZ) aL (l2 aL<|zk a) rfl (dx.o.o2.list.alloc _) (μ wr.heap.size 0) 1 1 [ν<|70000+(a:Int)] rfl rfl (cell_one_new _ _ _) (by intro E i;simp at i;subst i;rfl) ml om so ?_;intro bn bm eG hz hy hB;obtain⟨bC,d7,rfl,_⟩:=i_ eG)
         refine GC ?_;intro eh
         go_roundw
         case rel=>exact⟨r+1,aL+1,_,om,gn,rfl,om,eh⟩
         case measure=>simp[intOf];omega
        .exact Qj
      .obtain⟨bh,W⟩:=W;obtain⟨bq,ab⟩:=ab;go_wp2
       go_end0
       have hC:q=4:=om
       have e8:=(b2.o.field (λf=>#[f,t,y,B,.bool false,σ,.slice X n Z,D,C,v,x,z,u]) 5 σ (by rw[am.o];intro ad;rfl) dc dc (λ_ hc=>by simp at hc)).field
        (λf=>#[f,t,y,B,.bool false,σ,σ,D,C,v,x,z,u]) 6 σ (λ_=>rfl) dc dc (λ_ hc=>by simp at hc)
       exact N0
def LD(b:b_)(c:Nat)(e f d g:Int)(k:b.cell? (μ c 0)=some (.int .u8 e))(h:b.cell? (μ c 1)=some (.int .u8 f))(j:b.cell? (μ c 2)=some (.int .u8 d))(m:b.cell? (μ c 3)=some (.int .u8 g)):
 (convert 114 9<|.slice (some (μ c 0)) 4 4).run prog b=.ok (.string ⟨#[UInt8.ofNat e.toNat,UInt8.ofNat f.toNat,UInt8.ofNat d.toNat,UInt8.ofNat g.toNat]⟩) b:=by
 rw[aaw _ 114 9 5 _ 4 4 underlying114 underlying5 underlying9,aa7 _ _ 4 4 [e,f,d,g]]
 .rfl
 .have l:=Z9 (P:=prog) b (μ c 0) [.int .u8 e,.int .u8 f,.int .u8 d,.int .u8 g] (λi n a=>by
   match i,a with
   |0,a=>simp at a;subst a;simpa[Addr.add]using k
   |1,a=>simp at a;subst a;simpa[Addr.add]using h
   |2,a=>simp at a;subst a;simpa[Addr.add]using j
   |3,a=>simp at a;subst a;simpa[Addr.add]using m)
  simpa using l
def Ao(a:Nat)(d:b_)(l:a<16000000):
 Calls prog 43 #[ν a] d λe j=>e=.returned (.string<|tk a)/\Below d.heap.size d j:=by
 have k:∀(b:b_) (c:Nat),b.cell? (μ c 0)=some (.int .u8<|(a:Int)%256)->b.cell? (μ c 1)=some (.int .u8<|(a:Int)/256%256)->b.cell? (μ c 2)=some (.int .u8<|(a:Int)/65536)->b.cell? (μ c 3)=some (.int .u8 109)->
  (convert 114 9<|.slice (some (μ c 0)) 4 4).run prog b=.ok (.string<|tk a) b:=λb c h i f g=>by
  rw[LD b c _ _ _ _ h i f g];unfold tk;rw[show((a:Int)%256).toNat=a%256 by omega,show((a:Int)/256%256).toNat=a/256%256 by omega,show((a:Int)/65536).toNat=a/65536%256 by omega];rfl
 go_enter func43,ntmps43
 go_wp2;go_ret;exact⟨rfl,br.alloc kM _⟩
def Ig(a:f_)(b:b_):(callFunc 43 #[a]).run prog b=.ok (.enter 43 #[a]) b:=kr
def Fb(d:Int)(b:Nat)(i:d=b)(a:b_)(h:b<16000000):
 Calls prog 43 #[ν d] a λc e=>∃f,c=.returned f/\(f=.string (tk b)/\Below a.heap.size a e):=by
 subst i;refine(Ao b a h).mono ?_;rintro c e ⟨rfl,g⟩;exact⟨_,rfl,rfl,g⟩
def Ap(w:b_)(y kb:Nat)(aK au ao aN aj aG aI aM aB aS ak aP:f_)(U V R S:Nat)(I:List Int)(J:List Sv)(K:List Ac)(F:List a_)
 (l:w.heap[kb]?=some (.cells #[aK,au,ao,aN,.bool false,aj,aG,aI,aM,ak,aP,aB,aS] 33))
 (a6:xS w y 28 3 1 zk aK U) (a9:xS w y 29 94 3 ze au V) (a3:xS w y 31 77 4 u' ao R) (aV:xS w y 30 9 1 mkT aN S)
 (aW:w.ownsRow y 3 1 aj I.length<|I.flatMap ka) (a8:w.ownsRow y 3 1 aG I.length<|I.flatMap ka) (a7:w.ownsRow y 94 3 aI J.length<|J.flatMap lU) (aZ:w.ownsRow y 94 3 aM J.length<|J.flatMap lU) (a5:w.ownsRow y 77 4 aB K.length<|K.flatMap ku) (aU:w.ownsRow y 77 4 aS K.length<|K.flatMap ku) (aX:w.ownsRow y 9 1 ak F.length<|F.flatMap nS) (aY:w.ownsRow y 9 1 aP F.length<|F.flatMap nS)
 (ca:U<=8000000) (bL:I.length<=2000000) (b4:V<=8000000) (be:J.length<=2000000) (b6:R<=8000000) (bs:K.length<=2000000) (cq:S<=8000000) (bI:F.length<=2000000):
 Calls prog 10 #[π kb] w λbD bt=>bD=.returned (.bool true)/\Below w.heap.size w bt:=by
 have mY:=Yn l;have b0:w.cell? (μ kb 0)=some aK:=cr l;have bX:w.cell? (μ kb 1)=some au:=cr l;have cb:w.cell? (μ kb 2)=some ao:=cr l;have cK:w.cell? (μ kb 3)=some aN:=cr l;have bT:w.cell? (μ kb 4)=some (.bool false):=cr l;have bj:w.cell? (μ kb 5)=some aj:=cr l;have bg:w.cell? (μ kb 6)=some aG:=cr l;have bp:w.cell? (μ kb 7)=some aI:=cr l;have bM:w.cell? (μ kb 8)=some aM:=cr l;have bd:w.cell? (μ kb 9)=some ak:=cr l;have bx:w.cell? (μ kb 10)=some aP:=cr l;have bw:w.cell? (μ kb 11)=some aB:=cr l;have bq:w.cell? (μ kb 12)=some aS:=cr l;obtain⟨cu,b5,rfl,a2⟩:=a6.view λ_=>rfl;obtain⟨cp,cC,rfl,al⟩:=i_ aW;obtain⟨bS,cj,rfl,ax⟩:=i_ a8;obtain⟨af,aD⟩:=j5 I.length;rw[<-aD]at bj bg al ax bL;have bb:Hid<|af=I.length:=aD;have bB:=h_ a2;have bk:=h_ al;have bh:=h_ ax;clear a2 al ax a6 aW a8 aD;obtain⟨bY,ce,rfl,a4⟩:=a9.view λ_=>rfl;obtain⟨ct,cm,rfl,aC⟩:=i_ a7;obtain⟨ci,cA,rfl,aF⟩:=i_ aZ;obtain⟨ac,aA⟩:=j5 J.length;rw[<-aA]at bp bM aC aF be;have bv:Hid<|ac=J.length:=aA;have bn:=h_ a4;have bC:=h_ aC;have bJ:=h_ aF;clear a4 aC aF a9 a7 aZ aA;obtain⟨bP,b8,rfl,a'⟩:=a3.view λ_=>rfl;obtain⟨bR,cs,rfl,aO⟩:=i_ a5;obtain⟨cG,ch,rfl,aq⟩:=i_ aU;obtain⟨Z,aQ⟩:=j5 K.length;rw[<-aQ]at bw bq aO aq bs;have bK:Hid<|Z=K.length:=aQ;have bz:=h_ a';have bi:=h_ aO;have bl:=h_ aq;clear a' aO aq a3 a5 aU aQ;obtain⟨cD,cJ,rfl,a0⟩:=aV.view λ_=>rfl;obtain⟨cf,cF,rfl,ar⟩:=i_ aX;obtain⟨cg,b1,rfl,am⟩:=i_ aY;obtain⟨ah,aH⟩:=j5 F.length;rw[<-aH]at bd bx ar am bI;have bN:Hid<|ah=F.length:=aH;have bu:=h_ a0;have bm:=h_ ar;have bo:=h_ am;clear a0 ar am aV aX aY aH;clear l
 go_enter func10,ntmps10
 go_wp2_with fail
 go_loopw [3] (λa wr=>∃q:Nat,q<=af/\a=ν q/\Below w.heap.size w wr) (λa _=>af-(intOf a).toNat)
 case atStart=>exact⟨0,YG _,rfl,Below.refl _ _⟩
 case round=>
  obtain⟨D,ck,rfl,Q⟩:=hrel;have cc:∀j,wr.cell? (μ kb j)=w.cell? (μ kb j):=λj=>Q.cell (p:=μ kb j) mY;by_cases aT:D<af
  .obtain⟨r,rfl,z,f⟩:=bk.o D aT;obtain⟨u,rfl,t,g⟩:=bh.o D aT;obtain⟨aw,m⟩:=XR I D (by rw[<-bb.o];exact aT);have d10:=((Q.cell (p:=μ r D) z).trans<|f D om).trans m;have d20:=((Q.cell (p:=μ u D) t).trans<|g D om).trans m;clear f g m
   go_wp2_with fail
   go_quiet (fail)
   go_wp2
   go_roundw
   case rel=>exact⟨D+1,om,gn,YL Q _⟩
   case measure=>simp[intOf];omega
  .go_wp2_with fail
   go_loopw [4] (λa wr=>∃q:Nat,q<=ac/\a=ν q/\Below w.heap.size w wr) (λa _=>ac-(intOf a).toNat)
   case atStart=>exact⟨0,YG _,rfl,Q⟩
   case round=>
    obtain⟨e,b',rfl,E⟩:=hrel;have cz:∀j,wr.cell? (μ kb j)=w.cell? (μ kb j):=λj=>E.cell (p:=μ kb j) mY;by_cases aL:e<ac
    .obtain⟨r,rfl,z,f⟩:=bC.o e aL;obtain⟨u,rfl,t,g⟩:=bJ.o e aL;obtain⟨aw,m,O,L⟩:=XS J e (by rw[<-bv.o];exact aL);have d10:=((E.cell (p:=μ r<|e*3) z).trans<|f (e*3) om).trans m;have d11:=((E.cell (p:=μ r<|e*3+1) z).trans<|f (e*3+1) om).trans O;have d12:=((E.cell (p:=μ r<|e*3+2) z).trans<|f (e*3+2) om).trans L;have d20:=((E.cell (p:=μ u<|e*3) t).trans<|g (e*3) om).trans m;have d21:=((E.cell (p:=μ u<|e*3+1) t).trans<|g (e*3+1) om).trans O;have d22:=((E.cell (p:=μ u<|e*3+2) t).trans<|g (e*3+2) om).trans L;clear f g m O L
     go_wp2_with fail
     go_quiet (fail)
     go_wp2
     go_roundw
     case rel=>exact⟨e+1,om,gn,YL E _⟩
     case measure=>simp[intOf];omega
    .go_wp2_with fail
     go_loopw [5] (λa wr=>∃q:Nat,q<=ah/\a=ν q/\Below w.heap.size w wr) (λa _=>ah-(intOf a).toNat)
     case atStart=>exact⟨0,YG _,rfl,E⟩
     case round=>
      obtain⟨C,cx,rfl,T⟩:=hrel;have cH:∀j,wr.cell? (μ kb j)=w.cell? (μ kb j):=λj=>T.cell (p:=μ kb j) mY;by_cases az:C<ah
      .obtain⟨r,rfl,z,f⟩:=bm.o C az;obtain⟨u,rfl,t,g⟩:=bo.o C az;obtain⟨aw,m⟩:=XU F C (by rw[<-bN.o];exact az);have d10:=((T.cell (p:=μ r C) z).trans<|f C om).trans m;have d20:=((T.cell (p:=μ u C) t).trans<|g C om).trans m;clear f g m
       go_wp2_with fail
       go_quiet (fail)
       go_wp2
       go_roundw
       case rel=>exact⟨C+1,om,gn,YL T _⟩
       case measure=>simp[intOf];omega
      .go_wp2_with fail
       go_loopw [6] (λa wr=>∃q:Nat,q<=Z/\a=ν q/\Below w.heap.size w wr) (λa _=>Z-(intOf a).toNat)
       case atStart=>exact⟨0,YG _,rfl,T⟩
       case round=>
        obtain⟨c,cw,rfl,A⟩:=hrel;have bZ:∀j,wr.cell? (μ kb j)=w.cell? (μ kb j):=λj=>A.cell (p:=μ kb j) mY;by_cases av:c<Z
        .obtain⟨r,rfl,z,f⟩:=bi.o c av;obtain⟨u,rfl,t,g⟩:=bl.o c av;obtain⟨aw,m,O,L,aR⟩:=XT K c (by rw[<-bK.o];exact av);have d10:=((A.cell (p:=μ r<|c*4) z).trans<|f (c*4) om).trans m;have d11:=((A.cell (p:=μ r<|c*4+1) z).trans<|f (c*4+1) om).trans O;have d12:=((A.cell (p:=μ r<|c*4+2) z).trans<|f (c*4+2) om).trans L;have d13:=((A.cell (p:=μ r<|c*4+3) z).trans<|f (c*4+3) om).trans aR;have d20:=((A.cell (p:=μ u<|c*4) t).trans<|g (c*4) om).trans m;have d21:=((A.cell (p:=μ u<|c*4+1) t).trans<|g (c*4+1) om).trans O;have d22:=((A.cell (p:=μ u<|c*4+2) t).trans<|g (c*4+2) om).trans L;have d23:=((A.cell (p:=μ u<|c*4+3) t).trans<|g (c*4+3) om).trans aR;clear f g m O L aR
         go_wp2_with fail
         go_quiet (fail)
         go_wp2
         go_roundw
         case rel=>exact⟨c+1,om,gn,YL A _⟩
         case measure=>simp[intOf];omega
        .go_wp2_with fail
         go_loopw [7] (λa wr=>∃q:Nat,q<=U/\a=ν q/\Below w.heap.size w wr) (λa _=>U-(intOf a).toNat)
         case atStart=>exact⟨0,YG _,rfl,A⟩
         case round=>
          obtain⟨X,bQ,rfl,ag⟩:=hrel;have b7:∀j,wr.cell? (μ kb j)=w.cell? (μ kb j):=λj=>ag.cell (p:=μ kb j) mY;by_cases bF:X<U
          .obtain⟨x,rfl,v,ai,i,ay,s,an,B⟩:=bB.o X bF;have b2:=(ag.cell (p:=μ x X) v).trans s;have N:=h_ B;clear B
           go_wp2_with fail
           go_loopw [8] (λa wr=>∃b:Nat,b<=i/\a=ν b/\Below w.heap.size w wr) (λa _=>i-(intOf a).toNat)
           case atStart=>exact⟨0,YG _,rfl,ag⟩
           case round=>
            obtain⟨b,aE,rfl,aJ⟩:=hrel;refine GA ?_;intro kr;have ap:=(aJ.cell (p:=μ x X) v).trans s;by_cases P:b<i
            .obtain⟨h,rfl,n,d⟩:=N.o b P;simp only[YS]at d;have d0:=(aJ.cell (p:=μ h b) n).trans<|d 0 om;simp only[zk,ZO]at d0;clear d;go_wp2
             go_roundw
             case rel=>exact⟨b+1,om,gn,aJ⟩
             case measure=>simp[intOf];omega
            .go_wp2
             go_roundw
             case rel=>exact⟨X+1,om,gn,aJ⟩
             case measure=>simp[intOf];omega
          .go_wp2_with fail
           go_loopw [9] (λa wr=>∃q:Nat,q<=S/\a=ν q/\Below w.heap.size w wr) (λa _=>S-(intOf a).toNat)
           case atStart=>exact⟨0,YG _,rfl,ag⟩
           case round=>
            obtain⟨o,cd,rfl,ab⟩:=hrel;have b9:∀j,wr.cell? (μ kb j)=w.cell? (μ kb j):=λj=>ab.cell (p:=μ kb j) mY;by_cases bc:o<S
            .obtain⟨x,rfl,v,ai,i,ay,s,an,B⟩:=bu.o o bc;have bW:=(ab.cell (p:=μ x o) v).trans s;have N:=h_ B;clear B
             go_wp2_with fail
             go_loopw [10] (λa wr=>∃b:Nat,b<=i/\a=ν b/\Below w.heap.size w wr) (λa _=>i-(intOf a).toNat)
             case atStart=>exact⟨0,YG _,rfl,ab⟩
             case round=>
              obtain⟨b,aE,rfl,aJ⟩:=hrel;refine GA ?_;intro kr;have ap:=(aJ.cell (p:=μ x o) v).trans s;by_cases P:b<i
              .obtain⟨h,rfl,n,d⟩:=N.o b P;simp only[YS]at d;have d0:=(aJ.cell (p:=μ h b) n).trans<|d 0 om;simp only[mkT,ZO]at d0;clear d;have bf:o/4*4<16000000:=om;have bO:IntKind.i64.wrap ((o:Int)/4*4)=(o:Int)/4*4:=wo;have cy:IntKind.i64.wrap ((o:Int)/4)=(o:Int)/4:=wo;have bH:w.cell? (μ h b)=some (.string<|tk<|o/4*4):=(aJ.cell (p:=μ h b) n).symm.trans d0
               go_wp2_with fail
               go_region_law (refine ki rfl 43 #[.tmp 184] #[3] rfl #[ν<|(o:Int)/4*4] (by simp[Act.eval,Act.put]) (Ig _ _) _ (Fb _ (o/4*4) om _ bf) ?_;rintro cl a1 ⟨rfl,bA⟩;have ae:Below w.heap.size w a1:=(jZ (by first|exact aJ.drew|exact YL aJ _|exact aJ) bA);have cv:∀j,a1.cell? (μ kb j)=w.cell? (μ kb j):=λj=>ae.cell (p:=μ kb j) mY;have bV:=(ae.cell (p:=μ x o) v).trans s;have d8:=(ae.cell (p:=μ h b) n).trans bH)
               all_goals go_wp2
               all_goals
                go_roundw
                case rel=>exact⟨b+1,om,gn,ae⟩
                case measure=>simp[intOf];omega
              .go_wp2
               go_roundw
               case rel=>exact⟨o+1,om,gn,aJ⟩
               case measure=>simp[intOf];omega
            .go_wp2_with fail
             go_loopw [11] (λa wr=>∃q:Nat,q<=V/\a=ν q/\Below w.heap.size w wr) (λa _=>V-(intOf a).toNat)
             case atStart=>exact⟨0,YG _,rfl,ab⟩
             case round=>
              obtain⟨W,cE,rfl,aa⟩:=hrel;have cI:∀j,wr.cell? (μ kb j)=w.cell? (μ kb j):=λj=>aa.cell (p:=μ kb j) mY;by_cases bE:W<V
              .obtain⟨x,rfl,v,ai,i,ay,s,an,B⟩:=bn.o W bE;have b3:=(aa.cell (p:=μ x W) v).trans s;have N:=h_ B;clear B
               go_wp2_with fail
               go_loopw [12] (λa wr=>∃b:Nat,b<=i/\a=ν b/\Below w.heap.size w wr) (λa _=>i-(intOf a).toNat)
               case atStart=>exact⟨0,YG _,rfl,aa⟩
               case round=>
                obtain⟨b,aE,rfl,aJ⟩:=hrel;refine GA ?_;intro kr;have ap:=(aJ.cell (p:=μ x W) v).trans s;by_cases P:b<i
                .obtain⟨h,rfl,n,d⟩:=N.o b P;have d0:=(aJ.cell (p:=μ h<|b*3) n).trans<|d 0 om;have d1:=(aJ.cell (p:=μ h<|b*3+1) n).trans<|d 1 om;have d2:=(aJ.cell (p:=μ h<|b*3+2) n).trans<|d 2 om;simp only[ze,ZO,abz]at d0 d1 d2;clear d;go_wp2
                 go_roundw
                 case rel=>exact⟨b+1,om,gn,aJ⟩
                 case measure=>simp[intOf];omega
                .go_wp2
                 go_roundw
                 case rel=>exact⟨W+1,om,gn,aJ⟩
                 case measure=>simp[intOf];omega
              .go_wp2_with fail
               go_loopw [13] (λa wr=>∃q:Nat,q<=R/\a=ν q/\Below w.heap.size w wr) (λa _=>R-(intOf a).toNat)
               case atStart=>exact⟨0,YG _,rfl,aa⟩
               case round=>
                obtain⟨Y,bU,rfl,ad⟩:=hrel;have cB:∀j,wr.cell? (μ kb j)=w.cell? (μ kb j):=λj=>ad.cell (p:=μ kb j) mY;by_cases bG:Y<R
                .obtain⟨x,rfl,v,ai,i,ay,s,an,B⟩:=bz.o Y bG;have cn:=(ad.cell (p:=μ x Y) v).trans s;have N:=h_ B;clear B
                 go_wp2_with fail
                 go_loopw [14] (λa wr=>∃b:Nat,b<=i/\a=ν b/\Below w.heap.size w wr) (λa _=>i-(intOf a).toNat)
                 case atStart=>exact⟨0,YG _,rfl,ad⟩
                 case round=>
                  obtain⟨b,aE,rfl,aJ⟩:=hrel;refine GA ?_;intro kr;have ap:=(aJ.cell (p:=μ x Y) v).trans s;by_cases P:b<i
                  .obtain⟨h,rfl,n,d⟩:=N.o b P;have d0:=(aJ.cell (p:=μ h<|b*4) n).trans<|d 0 om;have d1:=(aJ.cell (p:=μ h<|b*4+1) n).trans<|d 1 om;have d2:=(aJ.cell (p:=μ h<|b*4+2) n).trans<|d 2 om;have d3:=(aJ.cell (p:=μ h<|b*4+3) n).trans<|d 3 om;simp only[u',ZO,abz]at d0 d1 d2 d3;clear d;go_wp2
                   go_roundw
                   case rel=>exact⟨b+1,om,gn,aJ⟩
                   case measure=>simp[intOf];omega
                  .go_wp2
                   go_roundw
                   case rel=>exact⟨Y+1,om,gn,aJ⟩
                   case measure=>simp[intOf];omega
                .go_wp2_with fail
                 go_wp2;go_ret;exact⟨rfl,ad⟩
def px(w:b_)(d kb:Nat)(x u y z F D C A v L B ad:f_)(a:Nat)(P:Nat->Prop)(xs:List a_)
 (aH:w.heap[kb]?=some (.cells #[x,u,y,L,.bool false,z,F,D,C,B,ad,A,v] 33))
 (aQ:j8 w d 30 9 1 mkT L a P) (cI:∀g,P g->B.ownBlock≠some g)
 (ai:w.ownsRow d 9 1 B xs.length<|xs.flatMap nS) (S:w.ownsRow d 9 1 ad xs.length<|xs.flatMap nS) (aP:a%4=0) (bd:a<=8000000) (a2:xs.length<=1900000) (bq:d<=w.heap.size):
 Calls prog 46 #[π kb] w λaE aa=>aE=.returned (.tuple #[])/\∃R,aa.heap[kb]?=some (.cells #[x,u,y,R,.bool false,z,F,D,C,σ,σ,A,v] 33)/\
  j8 aa d 30 9 1 mkT R (a+4) (λg=>P g\/B.ownBlock=some g\/w.heap.size<=g)/\no w aa kb L B/\∀g,R.ownBlock=some g->L.ownBlock=some g\/w.heap.size<=g:=by
 have mY:=Yn aH;have bx:w.cell? (μ kb 3)=some L:=cr aH;have bc:w.cell? (μ kb 4)=some (.bool false):=cr aH;have aZ:w.cell? (μ kb 9)=some B:=cr aH;have a0:w.cell? (μ kb 10)=some ad:=cr aH;refine Gu ?_;intro aT cv;obtain⟨av,aw,rfl,dz⟩:=i_ ai;obtain⟨Z,ab,rfl,dt⟩:=i_ S;obtain⟨a9,W,aD⟩:=aQ;obtain⟨s,m,rfl,_⟩:=i_ W;have eF:j8 w d 30 9 1 mkT (.slice s a m) a P:=⟨a9,W,aD⟩;clear W aD;obtain⟨n,dw⟩:=j5 xs.length;rw[<-dw]at aZ a0 dz dt a2 ai S cv cI;refine NX ?_;intro dg HC cH dJ;clear dz dt S dw aH cI
 go_enter func46,ntmps46
 go_wp2_with fail
 go_loopw [3] (λb wr=>∃q:Nat,q<=n/\b=ν q/\ni w wr) (λb _=>n-(intOf b).toNat)
 case atStart=>exact⟨0,YG _,rfl,ni.refl _⟩
 case round=>
  obtain⟨q,aq,rfl,aW⟩:=hrel;refine NW ?_;intro bW bR;by_cases X:q<n
  .obtain⟨aI,rfl,bK,iJ⟩:=HC.o q X;obtain⟨bg,rfl,bp,bD⟩:=cH.o q X;obtain⟨f,hD⟩:=XU xs q (by rw[<-dg.o];exact X);exact Vk
  .go_wp2_with fail
   have J:=aW.heap;refine(Ao a _ om).mono ?_;rintro aE t ⟨rfl,h⟩
   go_wp2_with fail
   have cX:∀k,k<w.heap.size->t.heap[k]?=w.heap[k]?:=λk N=>(h.block k (by rw[J];exact N)).trans (by rw[J]);have dL:Hid<|no w t kb (.slice s a m)<|.slice av n aw:=(aW.pq kb _ _).trans h.os h.tape h.output h.size (λk N _ _ _=>h.block k (by rw[J];exact N));have bB:w.heap.size<=t.heap.size:=by rw[<-J];exact h.size
   clear h;have aC:t.ownsRow d 9 1 (.slice av n aw) n<|xs.flatMap nS:=jV ai λg hg=>cX g (ai.lt g hg).2;refine NS ?_;intro ei eD dV;have au:ma t d 9 1 (.slice av n aw) n 0<|l2 n<|mkT a:=ma.u_ aC;clear J cX aC ai bW bR aW
   go_loopw [5] (λb wr=>∃k:Nat,k<=n/\b=ν k/\ma wr d 9 1 (.slice av n aw) n k (l2 n<|mkT a)/\t.grownBy wr (Value.ownBlock<|.slice av n aw)) (λb _=>n-(intOf b).toNat)
   case atStart=>exact⟨0,YG _,rfl,au,pr _ _⟩
   case round=>
    obtain⟨k,N,rfl,I,ah⟩:=hrel;by_cases ax:k<n
    .obtain⟨g,rfl,_,_⟩:=HC.o k ax;obtain⟨aj,bl⟩:=I.cells;obtain⟨bI,bt⟩:=aj k om;have az:(l2 n<|mkT a)[k]?=some (.string<|tk a):=by have:=qi (mkT a) 1 n k 0 rfl ax om;simp only[YS,YE]at this;unfold l2;rw[this];rfl
     have a6:=h_<|I.step az om;have aO:=h_<|lE (i:=k) ah<|.string<|tk a;clear aj az I ah;go_wp2
     go_roundw
     case rel=>exact⟨k+1,om,gn,a6.o,aO.o⟩
     case measure=>simp[intOf];omega
    .go_wp2_with fail
     obtain⟨i,cb⟩:∃i:f_->Array f_,i=λf=>#[x,u,y,f,.bool false,z,F,D,C,.slice av n aw,.slice Z n ab,A,v]:=⟨_,rfl⟩;refine NZ ?_;intro Q cV
     have ay:l3 w wr d kb kb i none 30 9 1 mkT Q a 0 (.slice s a m) (.slice av n aw) (.slice s a m) (.slice av n aw) n:=by
      have a':k=n:=om;subst a';refine NR ?_;intro dN;have hown:=I.own (us k 1 (mkT a) rfl) om
      have gq:j8 wr d 30 9 1 mkT (.slice s a m) a P:=eF.carry (λj bj bE hc aM _=>dN j (Yn hc) (λaR=>by
       rcases aM with r|r
       .exact NY
       .exact dJ.o j r aR))
      exact Vm
     have a7:=h_ ay;have aS:=h_ (show∀ae T,(i ae).setIfInBounds 3 T=i T by rw[cb];intro ae T;rfl);have an:Hid<|i=λf=>#[x,u,y,f,.bool false,z,F,D,C,.slice av n aw,.slice Z n ab,A,v]:=cb;refine Gw ?_;intro HQ;clear ay cb cV I ah dV dL au;obtain⟨aX,aN,a3,a8,aU⟩:=Y4 Tryz.S8;obtain⟨al,aJ,aK,aB,ap⟩:=Y4 Tryz.xU
     go_loopw [2,6] (λaf b wr=>∃(q e:Nat) (o bF:f_),q<=4/\b=ν q/\af=o/\e<=n+64*q/\l3 w wr d kb kb i none 30 9 1 mkT Q a q (.slice s a m) (.slice av n aw) bF o e) (λ_ b _=>4-(intOf b).toNat)
     case atStart=>exact⟨0,n,_,_,om,rfl,rfl,om,a7.o⟩
     case round=>
      obtain⟨q,e,o,bF,bk,rfl,rfl,bf,st⟩:=hrel;obtain⟨Ls,eB,_⟩:=st.o2.outer;obtain⟨ak,aA,rfl,_⟩:=i_ st.o2.list;have bb:=st.pq.size;have bG:=st.book;rw[an.o]at bG;have aF:wr.cell? (μ kb 3)=some bF:=cr bG;have Y:∃E,wr.cell? (μ kb 9)=some E:=⟨_,cr bG⟩;have ac:∃E,wr.cell? (μ kb 10)=some E:=⟨_,cr bG⟩;refine NU ?_;intro bR b2 b1;clear bG;by_cases aq:q<4
      .go_upto_region 14 with(at_builtin;refine j7 rfl (.tmp 63) (.tmp 65) 27 rfl d 30 aX σ 1 24 underlying27 aN a3 a8 aU rfl dc bF (a+q) Ls rfl (b1.o.alloc _) (μ wr.heap.size 0) 1 1 [.slice ak e aA] rfl rfl (cell_one_new _ _ _) (by intro E l;simp at l;subst l;rfl) ml om so ?_;intro bm O U ag _ ao;obtain⟨ar,aG,rfl,_⟩:=i_ U;have V:O.heap[kb]?=wr.heap[kb]?:=sP b2.o b1.o dc ag;have a4:O.cell? (μ kb 3)=some bF:=(ZL V).trans aF;have f3:O.frozen? (μ kb 3)=false:=(aaI V).trans<|bR 3)
       have bu:=b2.o.push 3 aS.o aq aP dc dc dc om (λ_ hc=>by simp at hc) b1.o ag ao U;obtain⟨bv,am⟩:=j5<|O.setCell (μ kb 3)<|.slice ar (a+q+1) aG;rw[<-am]at bu⊢;refine Vj ?_;intro cw du cD ek e9;clear am bu aF Y ac bR st b2 b1 eB U ag ao V a4 f3
       go_wp2_with (at_builtin;refine j7 rfl (.tmp 69) (.tmp 71) 30 rfl d 9 al (.string ⟨#[]⟩) 1 16 underlying30 aJ aK aB ap rfl dc (.slice ak e aA) e (l2 e<|mkT a) rfl (cD.o.o2.list.alloc _) (μ bv.heap.size 0) 1 1 [.string<|tk a] rfl rfl (cell_one_new _ _ _) (by intro E l;simp at l;subst l;rfl) ml om so ?_;intro bA bJ dy eE eC eA;obtain⟨bH,d5,rfl,_⟩:=i_ dy)
       refine Gx ?_;intro bw ej;clear bw dy eE eC eA cD cw
       go_loopw [2,7] (λaf b wr=>∃(r aL:Nat) (o:f_),r<=60/\b=ν r/\af=o/\aL<=n+64*q+1+r/\l3 w wr d kb kb i none 30 9 1 mkT Q a (q+1) (.slice s a m) (.slice av n aw) (.slice ar (a+q+1) aG) o aL) (λ_ b _=>60-(intOf b).toNat)
       case atStart=>exact⟨0,e+1,_,om,rfl,rfl,om,ej.o⟩
       case round=>
        obtain⟨r,aL,o,bz,rfl,rfl,bh,K⟩:=hrel;obtain⟨aV,a1,rfl,_⟩:=i_ K.o2.list;have cw:Hid<|kb<=wr.heap.size:=aaV<|Yy mY K.pq.size;have be:=K.pq.size;have dx:=h_ K;clear K;by_cases a5:r<60/\q=2
        .obtain⟨gp,aY⟩:=a5;have t2:((q:Int)==2)=true:=so;clear aY
         go_wp2_with (at_builtin;refine j7 rfl (.tmp 81) (.tmp 83) 30 rfl d 9 al (.string ⟨#[]⟩) 1 16 underlying30 aJ aK aB ap rfl dc (.slice aV aL a1) aL (l2 aL<|mkT a) rfl (dx.o.o2.list.alloc _) (μ wr.heap.size 0) 1 1 [.string<|tk a] rfl rfl (cell_one_new _ _ _) (by intro E l;simp at l;subst l;rfl) ml om so ?_;intro bo bn eG hz hy hB;obtain⟨bC,d7,rfl,_⟩:=i_ eG)
         refine GC ?_;intro eh
         go_roundw
         case rel=>exact⟨r+1,aL+1,_,om,gn,rfl,om,eh⟩
         case measure=>simp[intOf];omega
        .exact Qj
      .obtain⟨bi,Y⟩:=Y;obtain⟨bs,ac⟩:=ac;go_wp2
       go_end0
       have hC:q=4:=om
       have e8:=(b2.o.field (λf=>#[x,u,y,f,.bool false,z,F,D,C,σ,.slice Z n ab,A,v]) 9 σ (by rw[an.o];intro ae;rfl) dc dc (λ_ hc=>by simp at hc)).field
        (λf=>#[x,u,y,f,.bool false,z,F,D,C,σ,σ,A,v]) 10 σ (λ_=>rfl) dc dc (λ_ hc=>by simp at hc)
       exact N0
def LG(b:b_)(a i:Nat)(T W R Y B M E X C ad D aa:f_)(A w u v:Nat)(O V L ae:Nat->Prop)(s:List Int)(r:List Sv)(t:List Ac)(p:List a_)
 (e:b.heap[i]?=some (.cells #[T,W,R,Y,.bool false,B,M,E,X,D,aa,C,ad] 33))
 (Z:j8 b a 28 3 1 zk T A O) (au:∀c,O c->B.ownBlock≠some c) (a7:j8 b a 29 94 3 ze W w V) (an:∀c,V c->E.ownBlock≠some c) (aA:j8 b a 31 77 4 u' R u L) (av:∀c,L c->C.ownBlock≠some c) (ay:j8 b a 30 9 1 mkT Y v ae) (bd:∀c,ae c->D.ownBlock≠some c)
 (N:b.ownsRow a 3 1 B s.length<|s.flatMap ka) (aW:b.ownsRow a 3 1 M s.length<|s.flatMap ka) (aV:b.ownsRow a 94 3 E r.length<|r.flatMap lU) (a2:b.ownsRow a 94 3 X r.length<|r.flatMap lU) (aQ:b.ownsRow a 77 4 C t.length<|t.flatMap ku) (ap:b.ownsRow a 77 4 ad t.length<|t.flatMap ku) (aL:b.ownsRow a 9 1 D p.length<|p.flatMap nS) (aY:b.ownsRow a 9 1 aa p.length<|p.flatMap nS)
 (aK:A%4=0/\A<=7000000) (a3:s.length<=1900000) (aF:w%4=0/\w<=7000000) (aq:r.length<=1900000) (aH:u%4=0/\u<=7000000) (a8:t.length<=1900000) (ak:v%4=0/\v<=7000000) (aT:p.length<=1900000) (bj:a<=b.heap.size) (F:a<=i):
 Calls prog 11 #[π i] b λq bc=>q=.returned (.bool true)/\Below a b bc:=by
 go_enter func11,ntmps11
 have aM:Below a b b:=Below.refl _ _
 go_wp2_with fail
 refine(qr b a i _ _ _ _ _ _ _ _ _ T B M A O s e Z au N aW aK.1 om a3 om).mono ?_;rintro q af ⟨rfl,a1,j,aS,d,_⟩;have h:=kL Z;have f:=jU N;have P:=kh d e h f a7 dc dc dc;have Q:=j_ d e h f aV dc dc dc;have aZ:=j_ d e h f a2 dc dc dc;have bb:=kh d e h f aA dc dc dc;have aG:=j_ d e h f aQ dc dc dc;have aj:=j_ d e h f ap dc dc dc;have a6:=kh d e h f ay dc dc dc;have aD:=j_ d e h f aL dc dc dc;have aE:=j_ d e h f aY dc dc dc;have bh:=d.size;have am:=aM.trans<|d.below F (q9 Z) (λc l=>(N.lt c l).1) om
 go_wp2_with fail
 refine(xj af a i _ _ _ _ _ _ _ _ _ W E X w V r j P an Q aZ aF.1 om aq om).mono ?_;rintro q ag ⟨rfl,aI,o,a0,g,_⟩;have m:=kL P;have k:=jU Q;have ar:=kh g j m k aS dc dc dc;have a4:=kh g j m k bb dc dc dc;have aw:=j_ g j m k aG dc dc dc;have aN:=j_ g j m k aj dc dc dc;have ac:=kh g j m k a6 dc dc dc;have U:=j_ g j m k aD dc dc dc;have aU:=j_ g j m k aE dc dc dc;have be:=g.size;have ao:=am.trans<|g.below F (q9 P) (λc l=>(Q.lt c l).1) om
 go_wp2_with fail
 refine(px ag a i _ _ _ _ _ _ _ _ _ Y D aa v ae p o ac bd U aU ak.1 om aT om).mono ?_;rintro q ai ⟨rfl,aJ,I,a5,n,_⟩;have x:=kL ac;have y:=jU U;have aB:=kh n o x y ar dc dc dc;have a9:=kh n o x y a0 dc dc dc;have K:=kh n o x y a4 dc dc dc;have J:=j_ n o x y aw dc dc dc;have aR:=j_ n o x y aN dc dc dc;have bf:=n.size;have a':=ao.trans<|n.below F (q9 ac) (λc l=>(U.lt c l).1) om
 go_wp2_with fail
 refine(tp ai a i _ _ _ _ _ _ _ _ _ R C ad u L t I K av J aR aH.1 om a8 om).mono ?_;rintro q ah ⟨rfl,vA,al,aX,z,_⟩;have ab:=kL K;have S:=jU J;have aC:=kh z I ab S aB dc dc dc;have aO:=kh z I ab S a9 dc dc dc;have ax:=kh z I ab S a5 dc dc dc;have bg:=z.size;have aP:=a'.trans<|z.below F (q9 K) (λc l=>(J.lt c l).1) om
 go_wp2_with fail
 refine(Ap ah a i a1 aI vA aJ _ _ _ _ _ _ _ _ (A+4) (w+4) (u+4) (v+4) [] [] [] [] al aC.lists aO.lists aX.lists ax.lists uY uY uY uY uY uY uY uY om dc om dc om dc om dc).mono ?_;rintro q bi ⟨rfl,az⟩;go_wp2;go_ret;exact⟨rfl,aP.trans<|az.mono om⟩
def C3(w:b_)(b kb:Nat)(A v z x F C B D E f e P h:f_)(l:Nat)(m:Nat->Prop)(i a:List Ac)
 (aH:w.heap[kb]?=some (.cells #[A,v,f,z,.bool false,x,F,C,B,D,E,e,P] 33))
 (dq:j8 w b 31 77 4 u' f l m) (R:∀g,m g->e.ownBlock≠some g)
 (o:w.ownsRow b 77 4 e i.length<|i.flatMap ku) (y:w.ownsRow b 77 4 P i.length<|i.flatMap ku) (af:l%4=0) (ab:l<=8000000) (ai:i.length<=1900000) (ao:a.length<=1900000) (Y:b<=w.heap.size)
 (n:w.ownsRow b 77 4 h a.length<|a.flatMap ku) (aa:∀g,h.ownBlock=some g->e.ownBlock≠some g):
 Calls prog 52 #[π kb,h] w λW u=>W=.returned (.tuple #[])/\∃aG bi,u.heap[kb]?=some (.cells #[A,v,aG,z,.bool false,x,F,C,B,D,E,h,bi] 33)/\
  j8 u b 31 77 4 u' aG (l+4) (λg=>m g\/e.ownBlock=some g\/w.heap.size<=g)/\u.ownsRow b 77 4 h a.length (a.flatMap ku)/\u.ownsRow b 77 4 bi a.length (a.flatMap ku)/\no w u kb f e/\(∀g,aG.ownBlock=some g->f.ownBlock=some g\/w.heap.size<=g)/\(∀g,bi.ownBlock=some g->w.heap.size<=g):=by
 have mY:=Yn aH;let⟨T,X,an,ah,ak⟩:=Y4 Tryz.po;have U:=mn ku 4 (λ_=>rfl) a
 have V:∀(d:b_) (bi:f_),w.grownBy d none->d.ownsRow b 77 4 bi a.length (a.flatMap ku)->(∀g,bi.ownBlock=some g->w.heap.size<=g)->∀(I:Ending->b_->Prop),
  (∀ag aG,ag.heap[kb]?=some (.cells #[A,v,aG,z,.bool false,x,F,C,B,D,E,σ,σ] 33)->j8 ag b 31 77 4 u' aG (l+4) (λg=>m g\/e.ownBlock=some g\/w.heap.size<=g)->ag.ownsRow b 77 4 h a.length (a.flatMap ku)->ag.ownsRow b 77 4 bi a.length (a.flatMap ku)->no w ag kb f e->(∀g,aG.ownBlock=some g->f.ownBlock=some g\/w.heap.size<=g)->I (.returned<|.tuple #[]) ag)->
  Calls prog 47 #[π kb] d I:=by
  intro d bi hg N Z I am;have aP:∀k,k<w.heap.size->d.heap[k]?=w.heap[k]?:=λk hk=>hg.block k hk si;refine(tp d b kb A v z x F C B D E f e P l m i ((aP kb mY).trans aH) (dq.carry λk _ _ hc _ _=>aP k<|Yn hc) R (jV o λg M=>aP g (o.lt g M).2) (jV y λg M=>aP g (y.lt g M).2) af ab ai<|YH Y hg.size).mono ?_;rintro W ag ⟨rfl,aG,a1,bU,aQ,bV⟩;have K:=jV n λg M=>aP g (n.lt g M).2;have S:∀g,(∃cur,d.heap[g]?=some (Obj.cells cur 77))->g≠kb/\f.ownBlock≠some g:=by exact SV
  refine am ag aG a1 (bU.weaken λg _ al=>?_) (jV K λg M=>?_) (jV N λg M=>?_) ?_ λg M=>(bV g M).imp id λr=>YH hg.size r
  .rcases al with r|r|r
   .exact .inl r
   .exact uq r
   .have:=hg.size;exact .inr<|.inr om
  .let⟨h1,s⟩:=S g<|jU K g M;exact aQ.block g (K.lt g M).2 h1 s<|aa g M
  .let⟨h1,s⟩:=S g<|jU N g M;exact aQ.block g (N.lt g M).2 h1 s (λaR=>by have:=(o.lt g aR).2;have:=Z g M;omega)
  .refine⟨aQ.os.trans hg.os,aQ.tape.trans hg.tape,aQ.output.trans hg.output,YH hg.size aQ.size,λk hk h1 s ae=>?_⟩;exact(aQ.block k (Yy hk hg.size) h1 s ae).trans (aP k hk)
 have hw:=h_ V;clear V;have au:=h_ aH;have ad:=h_ n;clear aH;rcases n.2 with⟨rfl,h0⟩|⟨g,O,cur,rfl,aw,ax,av,aq,ar,ap⟩
 .have hfn:=YV<|by rw[U,h0,Z3]
  go_enter func52,ntmps52
  go_wp2_with (at_builtin;refine aaH rfl (.tmp 5) (.tmp 6) 31 rfl b 77 T 4 underlying31 X σ 0 [] rfl uY rfl ?_)
  refine S0 ?_;intro ag aG a1 bU cC bt aQ bV;have aj:ag.cell? (μ kb 11)=some σ:=cr a1;have ac:ag.cell? (μ kb 12)=some σ:=cr a1;refine Hw ?_;intro f2 cn cm de bp ca ce;clear a1 bU cC bt aQ bV dq R o y;go_wp2
  go_end0
  have dr:∀k cur t,ag.heap[k]?=some (Obj.cells cur t)->t≠33->((ag.setCell (μ kb 11) σ).setCell (μ kb 12) σ).heap[k]?=ag.heap[k]?:=λk cur t hc bQ=>by exact Hx
  refine⟨rfl,aG,σ,?_,?_,?_,?_,?_,ce,λg hg=>by simp[Value.ownBlock]at hg⟩
  .have Q:=YB ag kb 11 _ 33 σ cn;exact YB _ kb 12 _ 33 σ Q
  .exact Hz
  .exact Rt
  .exact Rs
  .exact zT
 .clear n
  go_enter func52,ntmps52
  go_wp2_with (at_builtin;apply j7 rfl (.tmp 5) (.tmp 6) 31 rfl b 77 T (.agg #[.int .u8 0,ν 0,ν 0,.string ⟨#[]⟩]) 4 40 underlying31 X an ah ak rfl dc σ 0 [] rfl uY (μ g 0) a.length O (a.flatMap ku) rfl U (ad.o.cells rfl) (oC a) ml om Y;intro bi d fy iI _ iH)
  simp only[YF,YT]at fy;refine SR ?_;intro e5 ag aG a1 bU cC bt aQ bV;obtain⟨J,L,rfl,_⟩:=i_ bt;have aj:ag.cell? (μ kb 11)=some σ:=cr a1;have ac:ag.cell? (μ kb 12)=some σ:=cr a1;refine Hw ?_;intro f2 cn cm de bp ca ce;clear a1 bU cC bt aQ bV dq R o y;go_wp2
  go_end0
  have dr:∀k cur t,ag.heap[k]?=some (Obj.cells cur t)->t≠33->((ag.setCell (μ kb 11)<|ω g a.length O).setCell (μ kb 12)<|.slice J a.length L).heap[k]?=ag.heap[k]?:=λk cur t hc bQ=>by exact Hx
  refine⟨rfl,aG,.slice J a.length L,?_,?_,?_,?_,?_,ce,e5⟩
  .have Q:=YB ag kb 11 _ 33 (ω g a.length O) cn;exact YB _ kb 12 _ 33 (.slice J a.length L) Q
  .exact Hz
  .exact Rt
  .exact Rs
  .exact zT
def C4(w:b_)(b kb:Nat)(x v A D C E F z B f e P h:f_)(l:Nat)(m:Nat->Prop)(i a:List Int)
 (aH:w.heap[kb]?=some (.cells #[f,x,v,A,.bool false,e,P,D,C,E,F,z,B] 33))
 (dq:j8 w b 28 3 1 zk f l m) (R:∀g,m g->e.ownBlock≠some g)
 (o:w.ownsRow b 3 1 e i.length<|i.flatMap ka) (y:w.ownsRow b 3 1 P i.length<|i.flatMap ka) (af:l%4=0) (ab:l<=8000000) (ai:i.length<=1900000) (ao:a.length<=1900000) (Y:b<=w.heap.size)
 (n:w.ownsRow b 3 1 h a.length<|a.flatMap ka) (aa:∀g,h.ownBlock=some g->e.ownBlock≠some g):
 Calls prog 40 #[π kb,h] w λW u=>W=.returned (.tuple #[])/\∃aG bi,u.heap[kb]?=some (.cells #[aG,x,v,A,.bool false,h,bi,D,C,E,F,z,B] 33)/\
  j8 u b 28 3 1 zk aG (l+4) (λg=>m g\/e.ownBlock=some g\/w.heap.size<=g)/\u.ownsRow b 3 1 h a.length (a.flatMap ka)/\u.ownsRow b 3 1 bi a.length (a.flatMap ka)/\no w u kb f e/\(∀g,aG.ownBlock=some g->f.ownBlock=some g\/w.heap.size<=g)/\(∀g,bi.ownBlock=some g->w.heap.size<=g):=by
 have mY:=Yn aH;let⟨T,X,an,ah,ak⟩:=Y4 Tryz.qj;have U:=mn ka 1 (λ_=>rfl) a
 have V:∀(d:b_) (bi:f_),w.grownBy d none->d.ownsRow b 3 1 bi a.length (a.flatMap ka)->(∀g,bi.ownBlock=some g->w.heap.size<=g)->∀(I:Ending->b_->Prop),
  (∀ag aG,ag.heap[kb]?=some (.cells #[aG,x,v,A,.bool false,σ,σ,D,C,E,F,z,B] 33)->j8 ag b 28 3 1 zk aG (l+4) (λg=>m g\/e.ownBlock=some g\/w.heap.size<=g)->ag.ownsRow b 3 1 h a.length (a.flatMap ka)->ag.ownsRow b 3 1 bi a.length (a.flatMap ka)->no w ag kb f e->(∀g,aG.ownBlock=some g->f.ownBlock=some g\/w.heap.size<=g)->I (.returned<|.tuple #[]) ag)->
  Calls prog 44 #[π kb] d I:=by
  intro d bi hg N Z I am;have aP:∀k,k<w.heap.size->d.heap[k]?=w.heap[k]?:=λk hk=>hg.block k hk si;refine(qr d b kb x v A D C E F z B f e P l m i ((aP kb mY).trans aH) (dq.carry λk _ _ hc _ _=>aP k<|Yn hc) R (jV o λg M=>aP g (o.lt g M).2) (jV y λg M=>aP g (y.lt g M).2) af ab ai<|YH Y hg.size).mono ?_;rintro W ag ⟨rfl,aG,a1,bU,aQ,bV⟩;have K:=jV n λg M=>aP g (n.lt g M).2;have S:∀g,(∃cur,d.heap[g]?=some (Obj.cells cur 3))->g≠kb/\f.ownBlock≠some g:=by exact SV
  refine am ag aG a1 (bU.weaken λg _ al=>?_) (jV K λg M=>?_) (jV N λg M=>?_) ?_ λg M=>(bV g M).imp id λr=>YH hg.size r
  .rcases al with r|r|r
   .exact .inl r
   .exact uq r
   .have:=hg.size;exact .inr<|.inr om
  .let⟨h1,s⟩:=S g<|jU K g M;exact aQ.block g (K.lt g M).2 h1 s<|aa g M
  .let⟨h1,s⟩:=S g<|jU N g M;exact aQ.block g (N.lt g M).2 h1 s (λaR=>by have:=(o.lt g aR).2;have:=Z g M;omega)
  .refine⟨aQ.os.trans hg.os,aQ.tape.trans hg.tape,aQ.output.trans hg.output,YH hg.size aQ.size,λk hk h1 s ae=>?_⟩;exact(aQ.block k (Yy hk hg.size) h1 s ae).trans (aP k hk)
 have hw:=h_ V;clear V;have au:=h_ aH;have ad:=h_ n;clear aH;rcases n.2 with⟨rfl,h0⟩|⟨g,O,cur,rfl,aw,ax,av,aq,ar,ap⟩
 .have hfn:=YV<|by rw[U,h0,Z3]
  go_enter func40,ntmps40
  go_wp2_with (at_builtin;refine aaH rfl (.tmp 5) (.tmp 6) 28 rfl b 3 T 1 underlying28 X σ 0 [] rfl uY rfl ?_)
  refine S0 ?_;intro ag aG a1 bU cC bt aQ bV;have aj:ag.cell? (μ kb 5)=some σ:=cr a1;have ac:ag.cell? (μ kb 6)=some σ:=cr a1;refine Hw ?_;intro f2 cn cm de bp ca ce;clear a1 bU cC bt aQ bV dq R o y;go_wp2
  go_end0
  have dr:∀k cur t,ag.heap[k]?=some (Obj.cells cur t)->t≠33->((ag.setCell (μ kb 5) σ).setCell (μ kb 6) σ).heap[k]?=ag.heap[k]?:=λk cur t hc bQ=>by exact Hx
  refine⟨rfl,aG,σ,?_,?_,?_,?_,?_,ce,λg hg=>by simp[Value.ownBlock]at hg⟩
  .have Q:=YB ag kb 5 _ 33 σ cn;exact YB _ kb 6 _ 33 σ Q
  .exact Hz
  .exact Ry
  .exact Rw
  .exact zT
 .clear n
  go_enter func40,ntmps40
  go_wp2_with (at_builtin;apply j7 rfl (.tmp 5) (.tmp 6) 28 rfl b 3 T (ν 0) 1 8 underlying28 X an ah ak rfl dc σ 0 [] rfl uY (μ g 0) a.length O (a.flatMap ka) rfl U (ad.o.cells rfl) (m4 a) ml om Y;intro bi d fy iI _ iH)
  simp only[YF,YT]at fy;refine SR ?_;intro e5 ag aG a1 bU cC bt aQ bV;obtain⟨J,L,rfl,_⟩:=i_ bt;have aj:ag.cell? (μ kb 5)=some σ:=cr a1;have ac:ag.cell? (μ kb 6)=some σ:=cr a1;refine Hw ?_;intro f2 cn cm de bp ca ce;clear a1 bU cC bt aQ bV dq R o y;go_wp2
  go_end0
  have dr:∀k cur t,ag.heap[k]?=some (Obj.cells cur t)->t≠33->((ag.setCell (μ kb 5)<|ω g a.length O).setCell (μ kb 6)<|.slice J a.length L).heap[k]?=ag.heap[k]?:=λk cur t hc bQ=>by exact Hx
  refine⟨rfl,aG,.slice J a.length L,?_,?_,?_,?_,?_,ce,e5⟩
  .have Q:=YB ag kb 5 _ 33 (ω g a.length O) cn;exact YB _ kb 6 _ 33 (.slice J a.length L) Q
  .exact Hz
  .exact Ry
  .exact Rw
  .exact zT
def Br(w:b_)(b kb:Nat)(C x v y F E D A B f e P h:f_)(l:Nat)(m:Nat->Prop)(i a:List a_)
 (aH:w.heap[kb]?=some (.cells #[C,x,v,f,.bool false,y,F,E,D,e,P,A,B] 33))
 (dq:j8 w b 30 9 1 mkT f l m) (R:∀g,m g->e.ownBlock≠some g)
 (o:w.ownsRow b 9 1 e i.length<|i.flatMap nS) (z:w.ownsRow b 9 1 P i.length<|i.flatMap nS) (af:l%4=0) (ab:l<=8000000) (ai:i.length<=1900000) (ao:a.length<=1900000) (Y:b<=w.heap.size)
 (n:w.ownsRow b 9 1 h a.length<|a.flatMap nS) (aa:∀g,h.ownBlock=some g->e.ownBlock≠some g):
 Calls prog 51 #[π kb,h] w λW u=>W=.returned (.tuple #[])/\∃aG bi,u.heap[kb]?=some (.cells #[C,x,v,aG,.bool false,y,F,E,D,h,bi,A,B] 33)/\
  j8 u b 30 9 1 mkT aG (l+4) (λg=>m g\/e.ownBlock=some g\/w.heap.size<=g)/\u.ownsRow b 9 1 h a.length (a.flatMap nS)/\u.ownsRow b 9 1 bi a.length (a.flatMap nS)/\no w u kb f e/\(∀g,aG.ownBlock=some g->f.ownBlock=some g\/w.heap.size<=g)/\(∀g,bi.ownBlock=some g->w.heap.size<=g):=by
 have mY:=Yn aH;let⟨T,X,an,ah,ak⟩:=Y4 Tryz.xU;have U:=mn nS 1 (λ_=>rfl) a
 have V:∀(d:b_) (bi:f_),w.grownBy d none->d.ownsRow b 9 1 bi a.length (a.flatMap nS)->(∀g,bi.ownBlock=some g->w.heap.size<=g)->∀(I:Ending->b_->Prop),
  (∀ag aG,ag.heap[kb]?=some (.cells #[C,x,v,aG,.bool false,y,F,E,D,σ,σ,A,B] 33)->j8 ag b 30 9 1 mkT aG (l+4) (λg=>m g\/e.ownBlock=some g\/w.heap.size<=g)->ag.ownsRow b 9 1 h a.length (a.flatMap nS)->ag.ownsRow b 9 1 bi a.length (a.flatMap nS)->no w ag kb f e->(∀g,aG.ownBlock=some g->f.ownBlock=some g\/w.heap.size<=g)->I (.returned<|.tuple #[]) ag)->
  Calls prog 46 #[π kb] d I:=by
  intro d bi hg N Z I am;have aP:∀k,k<w.heap.size->d.heap[k]?=w.heap[k]?:=λk hk=>hg.block k hk si;refine(px d b kb C x v y F E D A B f e P l m i ((aP kb mY).trans aH) (dq.carry λk _ _ hc _ _=>aP k<|Yn hc) R (jV o λg M=>aP g (o.lt g M).2) (jV z λg M=>aP g (z.lt g M).2) af ab ai<|YH Y hg.size).mono ?_;rintro W ag ⟨rfl,aG,a1,bU,aQ,bV⟩;have K:=jV n λg M=>aP g (n.lt g M).2;have S:∀g,(∃cur,d.heap[g]?=some (Obj.cells cur 9))->g≠kb/\f.ownBlock≠some g:=by exact SV
  refine am ag aG a1 (bU.weaken λg _ al=>?_) (jV K λg M=>?_) (jV N λg M=>?_) ?_ λg M=>(bV g M).imp id λr=>YH hg.size r
  .rcases al with r|r|r
   .exact .inl r
   .exact uq r
   .have:=hg.size;exact .inr<|.inr om
  .let⟨h1,s⟩:=S g<|jU K g M;exact aQ.block g (K.lt g M).2 h1 s<|aa g M
  .let⟨h1,s⟩:=S g<|jU N g M;exact aQ.block g (N.lt g M).2 h1 s (λaR=>by have:=(o.lt g aR).2;have:=Z g M;omega)
  .refine⟨aQ.os.trans hg.os,aQ.tape.trans hg.tape,aQ.output.trans hg.output,YH hg.size aQ.size,λk hk h1 s ae=>?_⟩;exact(aQ.block k (Yy hk hg.size) h1 s ae).trans (aP k hk)
 have hw:=h_ V;clear V;have au:=h_ aH;have ad:=h_ n;clear aH;rcases n.2 with⟨rfl,h0⟩|⟨g,O,cur,rfl,aw,ax,av,aq,ar,ap⟩
 .have hfn:=YV<|by rw[U,h0,Z3]
  go_enter func51,ntmps51
  go_wp2_with (at_builtin;refine aaH rfl (.tmp 5) (.tmp 6) 30 rfl b 9 T 1 underlying30 X σ 0 [] rfl uY rfl ?_)
  refine S0 ?_;intro ag aG a1 bU cC bt aQ bV;have aj:ag.cell? (μ kb 9)=some σ:=cr a1;have ac:ag.cell? (μ kb 10)=some σ:=cr a1;refine Hw ?_;intro f2 cn cm de bp ca ce;clear a1 bU cC bt aQ bV dq R o z;go_wp2
  go_end0
  have dr:∀k cur t,ag.heap[k]?=some (Obj.cells cur t)->t≠33->((ag.setCell (μ kb 9) σ).setCell (μ kb 10) σ).heap[k]?=ag.heap[k]?:=λk cur t hc bQ=>by exact Hx
  refine⟨rfl,aG,σ,?_,?_,?_,?_,?_,ce,λg hg=>by simp[Value.ownBlock]at hg⟩
  .have Q:=YB ag kb 9 _ 33 σ cn;exact YB _ kb 10 _ 33 σ Q
  .exact Hz
  .exact Rx
  .exact Rv
  .exact zT
 .clear n
  go_enter func51,ntmps51
  go_wp2_with (at_builtin;apply j7 rfl (.tmp 5) (.tmp 6) 30 rfl b 9 T (.string ⟨#[]⟩) 1 16 underlying30 X an ah ak rfl dc σ 0 [] rfl uY (μ g 0) a.length O (a.flatMap nS) rfl U (ad.o.cells rfl) (KI a) ml om Y;intro bi d fy iI _ iH)
  simp only[YF,YT]at fy;refine SR ?_;intro e5 ag aG a1 bU cC bt aQ bV;obtain⟨J,L,rfl,_⟩:=i_ bt;have aj:ag.cell? (μ kb 9)=some σ:=cr a1;have ac:ag.cell? (μ kb 10)=some σ:=cr a1;refine Hw ?_;intro f2 cn cm de bp ca ce;clear a1 bU cC bt aQ bV dq R o z;go_wp2
  go_end0
  have dr:∀k cur t,ag.heap[k]?=some (Obj.cells cur t)->t≠33->((ag.setCell (μ kb 9)<|ω g a.length O).setCell (μ kb 10)<|.slice J a.length L).heap[k]?=ag.heap[k]?:=λk cur t hc bQ=>by exact Hx
  refine⟨rfl,aG,.slice J a.length L,?_,?_,?_,?_,?_,ce,e5⟩
  .have Q:=YB ag kb 9 _ 33 (ω g a.length O) cn;exact YB _ kb 10 _ 33 (.slice J a.length L) Q
  .exact Hz
  .exact Rx
  .exact Rv
  .exact zT
structure lu where
 (oI oF oA oT cI wI cF wF cA wA cT wT:f_)
 (nI nF nA nT:Nat)
 (pI pF pA pT:Nat->Prop)
 xI:List Int
 xF:List Sv
 xA:List Ac
 xT:List a_
def lu.ints(a:lu)(b:Nat):Prop:=a.pI b\/a.cI.ownBlock=some b\/a.wI.ownBlock=some b
def lu.on(b:lu)(c a:Nat):Prop:=a=c\/b.oI.ownBlock=some a\/b.oF.ownBlock=some a\/b.oA.ownBlock=some a\/b.oT.ownBlock=some a\/b.ints a\/(b.pF a\/b.cF.ownBlock=some a\/b.wF.ownBlock=some a)\/(b.pA a\/b.cA.ownBlock=some a\/b.wA.ownBlock=some a)\/(b.pT a\/b.cT.ownBlock=some a\/b.wT.ownBlock=some a)
structure kP(w:b_)(B kb m:Nat)(b:lu):Prop where
 mw:w.heap[kb]?=some (.cells #[b.oI,b.oF,b.oA,b.oT,.bool false,b.cI,b.wI,b.cF,b.wF,b.cT,b.wT,b.cA,b.wA] 33)
 LI:j8 w B 28 3 1 zk b.oI b.nI b.pI
 LF:j8 w B 29 94 3 ze b.oF b.nF b.pF
 LA:j8 w B 31 77 4 u' b.oA b.nA b.pA
 LT:j8 w B 30 9 1 mkT b.oT b.nT b.pT
 PI:∀g,b.pI g->b.cI.ownBlock≠some g
 PF:∀g,b.pF g->b.cF.ownBlock≠some g
 PA:∀g,b.pA g->b.cA.ownBlock≠some g
 PT:∀g,b.pT g->b.cT.ownBlock≠some g
 CI:w.ownsRow B 3 1 b.cI b.xI.length<|b.xI.flatMap ka
 WI:w.ownsRow B 3 1 b.wI b.xI.length<|b.xI.flatMap ka
 CF:w.ownsRow B 94 3 b.cF b.xF.length<|b.xF.flatMap lU
 WF:w.ownsRow B 94 3 b.wF b.xF.length<|b.xF.flatMap lU
 CA:w.ownsRow B 77 4 b.cA b.xA.length<|b.xA.flatMap ku
 WA:w.ownsRow B 77 4 b.wA b.xA.length<|b.xA.flatMap ku
 CT:w.ownsRow B 9 1 b.cT b.xT.length<|b.xT.flatMap nS
 WT:w.ownsRow B 9 1 b.wT b.xT.length<|b.xT.flatMap nS
 nI:b.nI%4=0/\b.nI<=4*m
 nF:b.nF%4=0/\b.nF<=4*m
 nA:b.nA%4=0/\b.nA<=4*m
 nT:b.nT%4=0/\b.nT<=4*m
 xI:b.xI.length<=1900000
 xF:b.xF.length<=1900000
 xA:b.xA.length<=1900000
 xT:b.xT.length<=1900000
 here:∀g,b.on kb g->g<w.heap.size
 lo:B<=kb/\B<=w.heap.size
def kP.frame{j w':b_}{n l m:Nat}{i:lu}(M:kP j n l m i)(o:j.heap.size<=w'.heap.size)(e:∀a g t,j.heap[a]?=some (.cells g t)->i.on l a->(t=3->i.ints a)->t≠163->w'.heap[a]?=j.heap[a]?):kP w' n l m i:=by
 have s:=e l _ _ M.mw (.inl rfl) (λc=>absurd c dc) dc;refine⟨s.trans M.mw,M.LI.carry λk g t b h bQ=>?_,M.LF.carry λk g t b h bQ=>?_,M.LA.carry λk g t b h bQ=>?_,M.LT.carry λk g t b h bQ=>?_,M.PI,M.PF,M.PA,M.PT,jV M.CI λa d=>?_,jV M.WI λa d=>?_,jV M.CF λa d=>?_,jV M.WF λa d=>?_,jV M.CA λa d=>?_,jV M.WA λa d=>?_,jV M.CT λa d=>?_,jV M.WT λa d=>?_,M.nI,M.nF,M.nA,M.nT,M.xI,M.xF,M.xA,M.xT,λa d=>Yy (M.here a d) o,M.lo.1,YH M.lo.2 o⟩
 .have h6:t≠163:=by rcases bQ with r|r<;>subst r<;>decide
  rcases h with r|r
  .refine e k g t b (uq r) (λc=>?_) h6;let⟨v,u⟩:=kL M.LI k r;rw[u]at b;simp at b;rw[<-b.2]at c;exact absurd c dc
  .exact e k g t b (A3<|.inl r) (λ_=>.inl r) h6
 .refine Kd ?_;intro h3 h6;rcases h with r|r
  .exact e k g t b (KG r) (λc=>absurd c h3) h6
  .exact e k g t b (HE<|.inl r) (λc=>absurd c h3) h6
 .refine Kd ?_;intro h3 h6;rcases h with r|r
  .exact e k g t b (KH r) (λc=>absurd c h3) h6
  .exact e k g t b (zj<|.inl r) (λc=>absurd c h3) h6
 .refine Kd ?_;intro h3 h6;rcases h with r|r
  .exact e k g t b (S3 r) (λc=>absurd c h3) h6
  .exact e k g t b (N3 r) (λc=>absurd c h3) h6
 .let⟨f,b⟩:=jU M.CI a d;exact e a f 3 b (A3<|.inr<|.inl d) (λ_=> uq d) dc
 .let⟨f,b⟩:=jU M.WI a d;exact e a f 3 b (A3<|.inr<|.inr d) (λ_=>.inr<|.inr d) dc
 .let⟨f,b⟩:=jU M.CF a d;exact e a f 94 b (HE<|.inr<|.inl d) (λc=>absurd c dc) dc
 .let⟨f,b⟩:=jU M.WF a d;exact e a f 94 b (HE<|.inr<|.inr d) (λc=>absurd c dc) dc
 .let⟨f,b⟩:=jU M.CA a d;exact e a f 77 b (zj<|.inr<|.inl d) (λc=>absurd c dc) dc
 .let⟨f,b⟩:=jU M.WA a d;exact e a f 77 b (zj<|.inr<|.inr d) (λc=>absurd c dc) dc
 .let⟨f,b⟩:=jU M.CT a d;exact e a f 9 b (N4 d) (λc=>absurd c dc) dc
 .let⟨f,b⟩:=jU M.WT a d;exact e a f 9 b (Vv<|.inr d) (λc=>absurd c dc) dc
def kP.below{a f:b_}{B c d:Nat}{e:lu}(h:kP a B c d e)(b:Below a.heap.size a f):kP f B c d e:=
 h.frame b.size (λi _ _ g _ _ _=>b.block i<|Yn g)
structure oO(w w':b_)(kb:Nat)(b b':lu)(v:f_):Prop where
 os:w'.os=w.os
 tape:w'.tape=w.tape
 output:w'.output=w.output
 size:w.heap.size<=w'.heap.size
 keep:∀g,g<w.heap.size->¬b.on kb g->w'.heap[g]?=w.heap[g]?
 wt:∀(g:Nat) (cur:Array f_),w.heap[g]?=some (.cells cur 163)->w'.heap[g]?=w.heap[g]?
 on:∀g,b'.on kb g->b.on kb g\/v.ownBlock=some g\/w.heap.size<=g
def ND{a:Prop}(b:a:=by unfold lu.on lu.ints;(try dsimp only at r);simp only[r,true_or,or_true]):a:=b
def one{a:Prop}(b:a:=by unfold lu.on lu.ints;simp only[e,true_or,or_true]):a:=b
def AY{b o:b_}{m:Nat}{i k:f_}(hF:no b o m i k){p:Array f_}{t0 j n:d_}(w:b.heap[m]?=some (.cells p t0))(q:∀a,i.ownBlock=some a->∃c,b.heap[a]?=some (.cells c j))(r:∀a,k.ownBlock=some a->∃c,b.heap[a]?=some (.cells c n))(s:t0≠163)(x:j≠163)(v:n≠163):∀(a:Nat) (c:Array f_),b.heap[a]?=some (.cells c 163)->o.heap[a]?=b.heap[a]?:=λa c l=>by
 have g:∀{e:Array f_}{t:d_},b.heap[a]?=some (.cells e t)->t≠163->False:=λf u=>by rw[l]at f;simp only[Yz,abf,ZV]at f;exact u f.2.symm
 exact hF.block a (Yn l) (λd=>g (d▸w) s) (λd=>by let⟨e,h⟩:=q a d;exact g h x) (λd=>by let⟨e,h⟩:=r a d;exact g h v)
def C5(f:b_)(h kb c:Nat)(b:lu)(a:f_)(d:List Int)(M:kP f h kb c b)(u:c<=1900000)(l:f.ownsRow h 3 1 a d.length<|d.flatMap ka)(m:d.length<=1900000)(j:∀g,a.ownBlock=some g->¬b.on kb g):
 Calls prog 40 #[π kb,a] f λe w'=>e=.returned (.tuple #[])/\∃i,kP w' h kb (c+1) i/\oO f w' kb b i a/\i.xI=d/\i.cI=a:=by
 refine(C4 f h kb b.oF b.oA b.oT b.cF b.wF b.cT b.wT b.cA b.wA b.oI b.cI b.wI a b.nI b.pI b.xI d M.mw M.LI M.PI M.CI M.WI M.nI.1 (li M.nI.2) M.xI m M.lo.2 l λg hg e=>j g hg<|A3<|.inr<|.inl e).mono ?_;rintro e w' ⟨rfl,o,s,t,dO,fA,bt,hF,fB,iK⟩;have aN:=kL M.LI;have ai:=jU M.CI;have hs:=hF.size;refine⟨rfl,{b with oI:=o,cI:=a,wI:=s,nI:=b.nI+4,pI:=λg=>(b.pI g\/b.cI.ownBlock=some g\/f.heap.size<=g)/\g<w'.heap.size,xI:=d},?_,?_,rfl,rfl⟩
 .refine⟨t,dO.weaken λg hg n=>⟨n,hg⟩,kh hF M.mw aN ai M.LF dc dc dc,kh hF M.mw aN ai M.LA dc dc dc,kh hF M.mw aN ai M.LT dc dc dc,(λg hg e=>by
   rcases hg.1 with r|r|r
   .exact j g e (A3<|.inl r)
   .exact j g e (A3<|.inr<|.inl r)
   .have:=(l.lt g e).2;omega),M.PF,M.PA,M.PT,fA,bt,j_ hF M.mw aN ai M.CF dc dc dc,j_ hF M.mw aN ai M.WF dc dc dc,j_ hF M.mw aN ai M.CA dc dc dc,j_ hF M.mw aN ai M.WA dc dc dc,j_ hF M.mw aN ai M.CT dc dc dc,j_ hF M.mw aN ai M.WT dc dc dc,(by have:=M.nI;show(b.nI+4)%4=0/\b.nI+4<=4*(c+1);omega),(by have:=M.nF;show b.nF%4=0/\b.nF<=4*(c+1);omega),(by have:=M.nA;show b.nA%4=0/\b.nA<=4*(c+1);omega),(by have:=M.nT;show b.nT%4=0/\b.nT<=4*(c+1);omega),m,M.xF,M.xA,M.xT,?_,⟨M.lo.1,YH M.lo.2 hs⟩⟩
  exact SL
 .refine Qu ?_;exact SH
def C6(i:b_)(j kb f:Nat)(b:lu)(e:f_)(h:List Ac)(M:kP i j kb f b)(v:f<=1900000)(n:i.ownsRow j 77 4 e h.length<|h.flatMap ku)(o:h.length<=1900000)(m:∀g,e.ownBlock=some g->¬b.on kb g):
 Calls prog 52 #[π kb,e] i λa w'=>a=.returned (.tuple #[])/\∃k,kP w' j kb (f+1) k/\oO i w' kb b k e/\k.xA=h/\k.cA=e:=by
 refine(C3 i j kb b.oI b.oF b.oT b.cI b.wI b.cF b.wF b.cT b.wT b.oA b.cA b.wA e b.nA b.pA b.xA h M.mw M.LA M.PA M.CA M.WA M.nA.1 (li M.nA.2) M.xA o M.lo.2 n λg hg a=>m g hg<|zj<|.inr<|.inl a).mono ?_;rintro a w' ⟨rfl,s,t,u,dO,fA,bt,hF,fB,iK⟩;have c:=kL M.LA;have d:=jU M.CA;have hs:=hF.size;refine⟨rfl,{b with oA:=s,cA:=e,wA:=t,nA:=b.nA+4,pA:=λg=>(b.pA g\/b.cA.ownBlock=some g\/i.heap.size<=g)/\g<w'.heap.size,xA:=h},?_,?_,rfl,rfl⟩
 .refine⟨u,kh hF M.mw c d M.LI dc dc dc,kh hF M.mw c d M.LF dc dc dc,dO.weaken λg hg q=>⟨q,hg⟩,kh hF M.mw c d M.LT dc dc dc,M.PI,M.PF,(λg hg a=>by
   rcases hg.1 with r|r|r
   .exact m g a (zj<|.inl r)
   .exact m g a (zj<|.inr<|.inl r)
   .have:=(n.lt g a).2;omega),M.PT,j_ hF M.mw c d M.CI dc dc dc,j_ hF M.mw c d M.WI dc dc dc,j_ hF M.mw c d M.CF dc dc dc,j_ hF M.mw c d M.WF dc dc dc,fA,bt,j_ hF M.mw c d M.CT dc dc dc,j_ hF M.mw c d M.WT dc dc dc,(by have:=M.nI;show b.nI%4=0/\b.nI<=4*(f+1);omega),(by have:=M.nF;show b.nF%4=0/\b.nF<=4*(f+1);omega),(by have:=M.nA;show(b.nA+4)%4=0/\b.nA+4<=4*(f+1);omega),(by have:=M.nT;show b.nT%4=0/\b.nT<=4*(f+1);omega),M.xI,M.xF,o,M.xT,?_,⟨M.lo.1,YH M.lo.2 hs⟩⟩
  exact SL
 .refine⟨hF.os,hF.tape,hF.output,hF.size,λg hg l=>hF.block g hg (λa=>l<|.inl a) (λa=>l<|KH a) λa=>l<|zj<|.inr<|.inl a,AY hF M.mw c d dc dc dc,?_⟩;exact SH
def Ih(f:b_)(h kb c:Nat)(b:lu)(a:f_)(d:List a_)(M:kP f h kb c b)(u:c<=1900000)(l:f.ownsRow h 9 1 a d.length<|d.flatMap nS)(m:d.length<=1900000)(j:∀g,a.ownBlock=some g->¬b.on kb g):
 Calls prog 51 #[π kb,a] f λe w'=>e=.returned (.tuple #[])/\∃i,kP w' h kb (c+1) i/\oO f w' kb b i a/\i.xT=d/\i.cT=a:=by
 refine(Br f h kb b.oI b.oF b.oA b.cI b.wI b.cF b.wF b.cA b.wA b.oT b.cT b.wT a b.nT b.pT b.xT d M.mw M.LT M.PT M.CT M.WT M.nT.1 (li M.nT.2) M.xT m M.lo.2 l λg hg e=>j g hg<|N4 e).mono ?_;rintro e w' ⟨rfl,o,s,t,dO,fA,bt,hF,fB,iK⟩;have aN:=kL M.LT;have ai:=jU M.CT;have hs:=hF.size;refine⟨rfl,{b with oT:=o,cT:=a,wT:=s,nT:=b.nT+4,pT:=λg=>(b.pT g\/b.cT.ownBlock=some g\/f.heap.size<=g)/\g<w'.heap.size,xT:=d},?_,?_,rfl,rfl⟩
 .refine⟨t,kh hF M.mw aN ai M.LI dc dc dc,kh hF M.mw aN ai M.LF dc dc dc,kh hF M.mw aN ai M.LA dc dc dc,dO.weaken λg hg n=>⟨n,hg⟩,M.PI,M.PF,M.PA,(λg hg e=>by
   rcases hg.1 with r|r|r
   .exact j g e (N3 r)
   .exact j g e (N4 r)
   .have:=(l.lt g e).2;omega),j_ hF M.mw aN ai M.CI dc dc dc,j_ hF M.mw aN ai M.WI dc dc dc,j_ hF M.mw aN ai M.CF dc dc dc,j_ hF M.mw aN ai M.WF dc dc dc,j_ hF M.mw aN ai M.CA dc dc dc,j_ hF M.mw aN ai M.WA dc dc dc,fA,bt,(by have:=M.nI;show b.nI%4=0/\b.nI<=4*(c+1);omega),(by have:=M.nF;show b.nF%4=0/\b.nF<=4*(c+1);omega),(by have:=M.nA;show b.nA%4=0/\b.nA<=4*(c+1);omega),(by have:=M.nT;show(b.nT+4)%4=0/\b.nT+4<=4*(c+1);omega),M.xI,M.xF,M.xA,m,?_,⟨M.lo.1,YH M.lo.2 hs⟩⟩
  exact SL
 .refine Qk ?_;exact SH
def yf(c:b_)(f kb a:Nat)(b:lu)(M:kP c f kb a b)(l:a<=1900000):
 Calls prog 44 #[π kb] c λe w'=>e=.returned (.tuple #[])/\∃d,kP w' f kb (a+1) d/\oO c w' kb b d σ/\d.xI=[]/\d.cI=σ:=by
 refine(qr c f kb b.oF b.oA b.oT b.cF b.wF b.cT b.wT b.cA b.wA b.oI b.cI b.wI b.nI b.pI b.xI M.mw M.LI M.PI M.CI M.WI M.nI.1 (li M.nI.2) M.xI M.lo.2).mono ?_;rintro e w' ⟨rfl,j,h,dO,hF,fB⟩;have aN:=kL M.LI;have ai:=jU M.CI;have hs:=hF.size;refine⟨rfl,{b with oI:=j,cI:=σ,wI:=σ,nI:=b.nI+4,pI:=λg=>(b.pI g\/b.cI.ownBlock=some g\/c.heap.size<=g)/\g<w'.heap.size,xI:=[]},?_,?_,rfl,rfl⟩
 .refine⟨h,dO.weaken λg hg i=>⟨i,hg⟩,kh hF M.mw aN ai M.LF dc dc dc,kh hF M.mw aN ai M.LA dc dc dc,kh hF M.mw aN ai M.LT dc dc dc,(λg hg e=>by simp[Value.ownBlock]at e),M.PF,M.PA,M.PT,Yq ..,Yq ..,j_ hF M.mw aN ai M.CF dc dc dc,j_ hF M.mw aN ai M.WF dc dc dc,j_ hF M.mw aN ai M.CA dc dc dc,j_ hF M.mw aN ai M.WA dc dc dc,j_ hF M.mw aN ai M.CT dc dc dc,j_ hF M.mw aN ai M.WT dc dc dc,(by have:=M.nI;show(b.nI+4)%4=0/\b.nI+4<=4*(a+1);omega),(by have:=M.nF;show b.nF%4=0/\b.nF<=4*(a+1);omega),(by have:=M.nA;show b.nA%4=0/\b.nA<=4*(a+1);omega),(by have:=M.nT;show b.nT%4=0/\b.nT<=4*(a+1);omega),(by show 0<=1900000;omega),M.xF,M.xA,M.xT,?_,⟨M.lo.1,YH M.lo.2 hs⟩⟩;exact Qb
 .refine Qu ?_;exact Vs
def xk(c:b_)(f kb a:Nat)(b:lu)(M:kP c f kb a b)(l:a<=1900000):
 Calls prog 46 #[π kb] c λe w'=>e=.returned (.tuple #[])/\∃d,kP w' f kb (a+1) d/\oO c w' kb b d σ/\d.xT=[]/\d.cT=σ:=by
 refine(px c f kb b.oI b.oF b.oA b.cI b.wI b.cF b.wF b.cA b.wA b.oT b.cT b.wT b.nT b.pT b.xT M.mw M.LT M.PT M.CT M.WT M.nT.1 (li M.nT.2) M.xT M.lo.2).mono ?_;rintro e w' ⟨rfl,j,h,dO,hF,fB⟩;have aN:=kL M.LT;have ai:=jU M.CT;have hs:=hF.size;refine⟨rfl,{b with oT:=j,cT:=σ,wT:=σ,nT:=b.nT+4,pT:=λg=>(b.pT g\/b.cT.ownBlock=some g\/c.heap.size<=g)/\g<w'.heap.size,xT:=[]},?_,?_,rfl,rfl⟩
 .refine⟨h,kh hF M.mw aN ai M.LI dc dc dc,kh hF M.mw aN ai M.LF dc dc dc,kh hF M.mw aN ai M.LA dc dc dc,dO.weaken λg hg i=>⟨i,hg⟩,M.PI,M.PF,M.PA,(λg hg e=>by simp[Value.ownBlock]at e),j_ hF M.mw aN ai M.CI dc dc dc,j_ hF M.mw aN ai M.WI dc dc dc,j_ hF M.mw aN ai M.CF dc dc dc,j_ hF M.mw aN ai M.WF dc dc dc,j_ hF M.mw aN ai M.CA dc dc dc,j_ hF M.mw aN ai M.WA dc dc dc,Yq ..,Yq ..,(by have:=M.nI;show b.nI%4=0/\b.nI<=4*(a+1);omega),(by have:=M.nF;show b.nF%4=0/\b.nF<=4*(a+1);omega),(by have:=M.nA;show b.nA%4=0/\b.nA<=4*(a+1);omega),(by have:=M.nT;show(b.nT+4)%4=0/\b.nT+4<=4*(a+1);omega),M.xI,M.xF,M.xA,(by show 0<=1900000;omega),?_,⟨M.lo.1,YH M.lo.2 hs⟩⟩;exact Qb
 .refine Qk ?_;exact Vs
