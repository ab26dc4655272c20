import Derived.Below
import Derived.BigQuiet
import Derived.BigRegion
import Derived.Conc.AppendEvents3
import Derived.Conc.AppendWalk
import Derived.Conc.Beside
import Derived.Conc.CompanyMem
import Derived.Conc.CrowdSel
import Derived.Conc.DeferLaws
import Derived.Conc.LeavingOf
import Derived.Conc.LoneCalls
import Derived.Conc.LoneSelect
import Derived.Conc.TokenWalk
import Derived.Deep.Cut
import Derived.Deep.CutBlock
import Derived.Deep.CutRange
import Derived.Deep.DeepMust
import Derived.Deep.MidRow
import Derived.Deep.OwnRows
import Derived.Deep.QuietTactic
import Derived.Deep.RegionHeld3
import Derived.Deep.RegionLaw
import Derived.Deep.RegionWith
import Derived.Deep.Slices
import Derived.Deep.Strs
import Derived.DuoClaim
import Derived.Laws.AppendOwn
import Derived.Laws.AppendOwnNone
import Derived.Laws.BitsAllLaws
import Derived.Laws.CopyOwn
import Derived.Laws.IdiomArrays
import Derived.Laws.IdiomStrings
import Derived.Laws.MakeOwn
import Derived.Laws.Rows
import Derived.Laws.Sem
import Derived.Lib.BufferWrite
import Derived.Lib.UnsafeStr
import Derived.OpenShut
import Derived.PlainAid
import Derived.ProofKit
import Derived.Shelf.Strings.Repeat
import Derived.Test.YtcpldcojckhapaaGreatProg
import Derived.WalkKit
import Derived.WalkLawsBesides
import Derived.WalkSpells

set_option maxRecDepth 100000
set_option maxHeartbeats 16000000
set_option linter.all false
noncomputable section
namespace Go.Proofs.YtcpldcojckhapaaGreat
open Go.Proofs.Tryz
def Yn:=@Go.lt_of_block
def Yo:=@if_neg
def Yp:=@Go.heap_setCell_other
def Yq:=@Go.World.ownsRow_nil
def Yr:=@List.getElem?_eq_some_iff
def Ys:=@if_pos
def Yt:=@List.getD_eq_getElem?_getD
def Yu:=@Go.cell_of_row
def Yv:=@List.length_append
def Yw:=@List.getElem?_eq_getElem
def Yx:=@Go.bodyPost_ret
def Yy:=@Nat.lt_of_lt_of_le
def Yz:=@Option.some.injEq
def YA:=@List.length_cons
def YB:=@Go.heap_setCell_same
def YC:=@Nat.le_refl
def YD:=@List.mem_cons_self
def YE:=@Nat.add_zero
def YF:=@Nat.zero_add
def YG:=@Nat.zero_le
def YH:=@Nat.le_trans
def YI:=@List.length_nil
def YJ:=@List.size_toArray
def YK:=@List.getElem?_append_left
def YL:=@Go.below_drewN
def YM:=@ByteArray.size_extract
def YN:=@Go.Value.slice.injEq
def YO:=@Go.heap_alloc_new
def YP:=@List.getElem?_append_right
def YQ:=@Go.heap_alloc_old
def YR:=@Option.some.inj
def YS:=@Nat.mul_one
def YT:=@List.nil_append
def YU:=@Array.getElem?_eq_some_iff
def YV:=@List.eq_nil_of_length_eq_zero
def YW:=@decide_eq_true
def YX:=@List.flatMap_append
def YY:=@Bool.false_eq_true
def YZ:=@decide_eq_false
def Y0:=@Array.length_toList
def Y1:=@List.cons_append
def Y2:=@Go.frozen_of_row
def Y3:=@Array.size_setIfInBounds
def Y4:=@Go.info_parts
def Y5:=@if_false
def Y6:=@Array.getElem?_setIfInBounds
def Y7:=@List.mem_cons
def Y8:=@List.mem_cons_of_mem
def Y9:=@List.getElem?_map
def Y_:=@if_true
def Y':=@List.mem_singleton
def Za:=@Go.Result.andThen_ok
def Zb:=@Classical.byContradiction
def Zc:=@List.not_mem_nil
def Zd:=@ByteArray.size_append
def Ze:=@Array.getElem?_setIfInBounds_ne
def Zf:=@List.take_of_length_le
def Zg:=@Option.bind_eq_some_iff
def Zh:=@Nat.not_lt_zero
def Zi:=@Go.Conc.mem_ofEvents
def Zj:=@Nat.lt_or_ge
def Zk:=@Option.map_eq_some_iff
def Zl:=@Go.wpList_append_own
def Zm:=@Go.run_underlying
def Zn:=@List.length_singleton
def Zo:=@Nat.lt_succ_self
def Zp:=@Go.Sem.run_bind
def Zq:=@decide_eq_true_eq
def Zr:=@Array.getD_eq_getD_getElem?
def Zs:=@Go.DataW.trod_int
def Zt:=@Array.replicate_zero
def Zu:=@Array.replicate_succ
def Zv:=@Int.tmod_eq_emod_of_nonneg
def Zw:=@Bool.and_eq_true
def Zx:=@List.length_map
def Zy:=@List.append_nil
def Zz:=@List.append_toArray
def ZA:=@Classical.em
def ZB:=@Nat.mul_le_mul_right
def ZC:=@List.getElem?_take_of_lt
def ZD:=@congrArg
def ZE:=@Go.Sem.run_pure
def ZF:=@List.getElem?_eq_none
def ZG:=@Go.Sem.events_bind
def ZH:=@Go.Result.evThen_ok
def ZI:=@List.map_append
def ZJ:=@List.length_take
def ZK:=@List.push_toArray
def ZL:=@Go.World.cell?_of_block
def ZM:=@ByteArray.data_append
def ZN:=@Go.Code.seq.injEq
def ZO:=@List.getElem?_cons_zero
def ZP:=@Go.Addr.mk.injEq
def ZQ:=@List.mem_of_getElem?
def ZR:=@Nat.eq_zero_or_pos
def ZS:=@Array.ext_getElem?
def ZT:=@Go.Result.ok.injEq
def ZU:=@List.mem_append
def ZV:=@and_true
def ZW:=@List.map_cons
def ZX:=@Go.Code.block.injEq
def ZY:=@List.flatMap_cons
def ZZ:=@Array.getElem?_toList
def Z0:=@Nat.pos_of_ne_zero
def Z1:=@Go.Code.loop.injEq
def Z2:=@Go.Lib.byteCells_length
def Z3:=@Nat.zero_mul
def Z4:=@Array.all_eq_true_iff_forall_mem
def Z5:=@List.getElem?_range
def Z6:=@ByteArray.ext
def Z7:=@Go.Sem.events_pure
def Z8:=@Nat.min_eq_left
def Z9:=@Go.run_loadCells_list
def Z_:=@Nat.xor_lt_two_pow
def Z':=@Go.Lib.size_eq
def aaa:=@Array.toArray_toList
def aab:=@true_and
def aac:=@or_false
def aad:=@List.mem_range
def aae:=@Go.setRow_heap
def aaf:=@Go.IntKind.wrap_u8
def aag:=@Bool.or_eq_true
def aah:=@Array.toList_append
def aai:=@Nat.mod_two_eq_zero_or_one
def aaj:=@List.setIfInBounds_toArray
def aak:=@List.zipIdx_cons
def aal:=@List.take_length
def aam:=@List.mem_toArray
def aan:=@List.getElem_mem
def aao:=@Go.IntKind.wrap_i64
def aap:=@Go.Stepped.next.injEq
def aaq:=@Nat.lt_of_le_of_lt
def aar:=@List.set_cons_succ
def aas:=@List.map_nil
def aat:=@List.getElem?_toArray
def aau:=@Array.getElem?_eq_getElem
def aav:=@Nat.testBit_eq_decide_div_mod_eq
def aaw:=@Go.run_convert_bytes_string
def aax:=@List.range_succ
def aay:=@List.foldl_append
def aaz:=@List.append_assoc
def aaA:=@Go.Code.wp_mono
def aaB:=@decide_eq_false_iff_not
def aaC:=@Nat.add_assoc
def aaD:=@List.getElem?_replicate
def aaE:=@Nat.mod_eq_of_lt
def aaF:=@List.map_toArray
def aaG:=@Go.size_madeCells
def aaH:=@Go.wpList_append_own_none
def aaI:=@Go.World.frozen?_of_block
def aaK:=@Nat.sub_zero
def aaL:=@List.cons.injEq
def aaM:=@Array.getElem?_modify
def aaN:=@Nat.pow_le_pow_right
def aaO:=@List.mem_of_mem_take
def aaP:=@BitVec.ofInt_natCast
def aaQ:=@List.pairwise_iff_getElem
def aaR:=@Bool.not_eq_true
def aaS:=@beq_eq_false_iff_ne
def aaT:=@List.map_congr_left
def aaU:=@Array.getElem?_push
def aaV:=@Nat.le_of_lt
def aaW:=@List.mem_map
def aaX:=@Go.Addr.add_mid
def aaY:=@Option.map_some
def aaZ:=@Nat.lt_irrefl
def aa0:=@List.set_cons_zero
def aa1:=@List.foldl_cons
def aa2:=@Go.Frame.finish_at
def aa3:=@BitVec.toNat_ofNat
def aa4:=@Array.getElem?_map
def aa5:=@Array.append_assoc
def aa6:=@List.drop_eq_nil_of_le
def aa7:=@Go.run_bytesToString
def aa8:=@Nat.one_mul
def aa9:=@Nat.succ_mul
def aa_:=@Nat.mul_comm
def aa':=@Go.Act.put_comm
def aba:=@decide_eq_decide
def abb:=@List.mem_flatMap
def abc:=@Bool.or_eq_false_iff
def abd:=@Bool.true_and
def abe:=@Go.bounds_i64
def abf:=@Go.Obj.cells.injEq
def abg:=@Nat.div_le_self
def abh:=@List.replicate_succ
def abi:=@List.filterMap_cons
def abj:=@ByteArray.extract_zero_size
def jR:=@of_decide_eq_false
def abk:=@Nat.sub_self
def abl:=@List.getElem?_drop
def abm:=@Array.empty_append
def abn:=@Go.AllReady.nil
def abo:=@Option.isNone_iff_eq_none
def abp:=@List.drop_eq_getElem_cons
def abq:=@Array.mem_push
def abr:=@Nat.or_lt_two_pow
def abt:=@List.length_range
def abu:=@List.ext_getElem?
def abv:=@Go.results_tmp
def abw:=@dif_pos
def abx:=@Prod.mk.injEq
def aby:=@Nat.add_sub_cancel_left
def abz:=@List.getElem?_cons_succ
def abA:=@Nat.le_of_not_lt
def abB:=@Array.mem_append
def abC:=@Array.getElem?_eq_none
def abD:=@Go.setRow_other
def abE:=@Nat.testBit_and
def abF:=@Nat.pow_succ
def abG:=@Nat.and_le_left
def abH:=@List.singleton_append
def abI:=@List.filterMap_append
def abJ:=@Int.natCast_mul
def abK:=@Classical.choose_spec
def abL:=@Go.ready_mono
def abN:=@Array.ext'
def abO:=@List.reverse_reverse
def abP:=@List.pairwise_append
def abQ:=@List.take_zero
def abR:=@Int.ofNat_tmod
def abS:=@Bool.false_and
def abT:=@Nat.add_mul
def abU:=@List.toList_toArray
def abV:=@Go.Calls.quiet_of_same
def abW:=@Go.run_make_row'
def abX:=@List.map_singleton
def abY:=@List.getElem?_take
def abZ:=@Bool.not_true
def ab0:=@Array.append_empty
def ab1:=@Go.run_storeCells_at
def ab2:=@Go.execOp_put
def ab3:=@Go.World.cells?_some
def ab4:=@Nat.mod_lt
def ab5:=@Nat.lt_trichotomy
def ab6:=@List.reverse_cons
def ab7:=@Go.bodyPost_end
def ab8:=@ByteArray.extract_eq_empty_iff
def ab9:=@Bool.true_or
def ab_:=@Array.eq_empty_of_size_eq_zero
def ab':=@Nat.le_add_right
def aca:=@Nat.div_eq_of_lt
def acb:=@List.isEmpty_iff
def acd:=@List.all_eq_true
def ace:=@BitVec.toNat_and
def acf:=@Array.toList_inj
def acg:=@Go.run_append_room
def ach:=@Go.run_append_grow
def aci:=@Go.Sem.runT_eq
def acj:=@Nat.min_le_left
def ack:=@Bool.eq_iff_iff
def acm:=@BitVec.toNat_or
def acn:=@Array.getElem?_append_right
abbrev a_:=ByteArray
abbrev b_:=World
abbrev c_:=Goroutine
abbrev d_:=TypeId
abbrev e_:=Program
abbrev f_:=Value
abbrev g_:=FuncId
section
def Hq(p:Prop):Prop:=p
def Hq.e{q:Prop}(M:Hq q):q:=M
variable {p q:Prop}
def pX(k:q)(M:Hq q->p:=by
 intro H
 repeat(first|(co_apply mC;simp only[YJ,YA,YI,Nat.reduceAdd,YF,List.range,List.range.loop])|(co_apply nV rfl rf hk oZ (by intro _;simp[go_sem,qg,nu,nO,mr,ms,oy, *]);walk_nrm)|(co_apply nW rfl rf;walk_nrm)|co_apply o5|co_apply o6|co_apply m7|co_apply oz|co_apply mu)
 exact H.e):p:=M k
def JZ(k:q)(M:Hq q->p:=by
 intro H
 repeat(first|(co_apply nH;simp only[YJ,YA,YI,Nat.reduceAdd,YF,List.range,List.range.loop])|((first|co_apply oi rfl rf oZ pj|co_apply qh rfl rf);walk_nrm)|((first|co_apply nX|co_apply pl|co_apply sJ|co_apply qy);try simp only[thenB,inBlockB,Y_,Y5,reduceIte,Nat.reduceEqDiff])|co_apply lY|co_apply pa|(co_apply nv;focus (exact rfl);simp only[Y_,Y5,reduceIte,YY]))
 exact H.e):p:=M k
def jS(k:q)(M:Hq q->p:=by
 intro H
 repeat(first|(co_apply nH;simp only[YJ,YA,YI,Nat.reduceAdd,YF,List.range,List.range.loop])|(co_apply oi rfl rf oZ (by intro _;simp[go_sem,qg,nu, *]);walk_nrm)|(co_apply nX;try simp only[thenB,inBlockB,Y_,Y5,reduceIte,Nat.reduceEqDiff])|(first|co_apply lY|co_apply pa|(co_apply pl;try simp only[thenB,inBlockB,Y_,Y5,reduceIte,Nat.reduceEqDiff])|(co_apply sJ;try simp only[thenB,inBlockB,Y_,Y5,reduceIte,Nat.reduceEqDiff])|(co_apply qy;try simp only[thenB,inBlockB,Y_,Y5,reduceIte,Nat.reduceEqDiff]))|(co_apply nv;focus (exact rfl);simp only[Y_,Y5,reduceIte,YY]))
 exact H.e):p:=M k
def Qa(k:q)(M:Hq q->p:=by
 intro H;co_apply u6 rfl rf hk rfl zeroValue134;intro aM h₂;have hA:Hid<|zQ C w0 (aM.heap.size::ap) (aM.alloc<|.cells #[ν 0,ν 0,ν 0,.string ⟨#[]⟩] 134) v af:=(gl.step h₂).alloc _;have aA:Hid<|NC C [] aM.heap.size:=(gl.step h₂).tE.new;have hne:Hid<|v.ownBlock≠some aM.heap.size:=λe=>aaZ _ ((gl.step h₂).tE.o0.mine _ (gl.rP _ e));have hc:Hid<|(aM.alloc<|.cells #[ν 0,ν 0,ν 0,.string ⟨#[]⟩] 134).heap[aM.heap.size]?=some (.cells #[ν 0,ν 0,ν 0,.string ⟨#[]⟩] 134):=pm;show Gb _ _ _ _ _ _ _ (aM.alloc<|.cells #[ν 0,ν 0,ν 0,.string ⟨#[]⟩] 134);obtain⟨W,U⟩:=j5 (aM.alloc<|.cells #[ν 0,ν 0,ν 0,.string ⟨#[]⟩] 134)
 revert aM h₂ hA aA hne hc W U
 exact H.e):p:=M k
def B7(k:q)(M:Hq q->p:=by
 intro H
 repeat(first|(co_apply mC;simp only[YJ,YA,YI,Nat.reduceAdd,YF,List.range,List.range.loop])|(co_apply nV rfl rf hk oZ pj;walk_nrm)|co_apply o5|co_apply o6|co_apply m7|co_apply oz|co_apply mu)
 exact H.e):p:=M k
def U3(M:p:=by
 go_region_held3 (λw'=>w'.cell? (μ w.heap.size 0)=some (ν s0)/\w'.cell? (μ w.heap.size 1)=some (ν s1)/\w'.cell? (μ w.heap.size 2)=some (ν s2)/\w'.cell? (μ w.heap.size 3)=some (ν s3)/\w'.cell? (μ w.heap.size 4)=some (ν cc)/\w'.cell? (μ w.heap.size 5)=some (ν h)/\w'.cell? (μ w.heap.size 6)=some (ν u)/\w'.cell? (μ w.heap.size 7)=some (.slice ad n k)/\w'.cell? (μ w.heap.size 8)=some (ν bb)) (go_keep)
  (first
   |(go_at_call 31;refine fG.o.mono ?_;rintro e w5 ⟨v5,rfl,ho5,hb5⟩;obtain⟨a5,k5,rfl,_⟩:=i_ ho5;have hb15:=kx hb5;have hbx5:=(hb15.block w.heap.size om).trans eK.o;obtain⟨f0,f1,f2,f3,f4,f5,f6,f7,f8⟩:=kH hbx5;have HBX5:=h_ hbx5;have HO5:=h_ (j9 ho5 (show w.heap.size<=w1.heap.size by omega));have HB5:=h_<|jZ cp.o hb15;clear ho5 hb5 hb15 hbx5)
   |(go_at_call 13;refine(fF.o _ _ _ HB5.o HO5.o).mono ?_;rintro e w6 ⟨bI,bJ,rfl,hK6,hk6⟩;obtain⟨h0,h1,h2,h3,h4,h5,h6,h7,h8⟩:=kH<|(hk6 _ _ _ kM HBX5.o).trans HBX5.o;have HK6:=h_ hK6;clear hK6 hk6))
 go_wp2
 go_meet
 exact⟨_,_,rfl,rfl,rfl,rfl,HK6.o⟩):p:=M
def XH(k:q)(M:Hq q->p:=by
 intro H;obtain⟨Y,cd⟩:=j5<|w7.alloc<|.cells #[ν F.s0,ν F.s1,ν F.s2,ν F.s3,ν F.c,ν F.h,ν F.u,ω cG F.n fh,ν F.b] 39;have hs7:=gF.size;have iV:Y.heap.size=w7.heap.size+1:=by rw[cd];generalize Obj.cells _ _=o;simp
 have eL:=ba cd;have hYg:=v' cd;have ci:Below wc.heap.size wc Y.drew:=(jZ gF eL).drew;obtain⟨hV,eP,eR,eQ,eS,u5,eN,hT,hO⟩:=kH hYg;have eO:=ho7.lt cG rfl;obtain⟨gB,fQ⟩:=jU ho7 cG rfl;have fg:Y.drew.heap[cG]?=some (.cells gB 3):=(eL.drew.block cG eO.2).trans fQ;obtain⟨c7,dR⟩:=j5<|nc Y.drew B<|kU wc c1 5;have fP:c7 cG=5:=by rw[dR];exact mg om fg dc (kB wc c1 5 _ eO.1) dc
 have fj:rI Y.drew B c7 kb (m+5) dX:=by rw[dR];exact(eq.o.bk.frame (k:=9) (Fc.jX ci) (jW wc c1 5) dc).nc
 have fH:lA Y.drew B c7 q1<|F.dev N (lM (λ_=>j0) F.sec) (o1 (λ_=>j0) F.sec)<|ly F.z F.sec λ_=>j0:=by rw[dR];exact(eq.o.dv.frame eq.o.nr (Fc.jX (k:=9) ci) (jW wc c1 5) dc).nc
 have fR:Fx F Y.drew B c7:=by rw[dR];exact(eq.o.fx.frame (k:=9) (Fc.jX ci) (jW wc c1 5) dc).nc
 have fI:wX Y.drew B c7:=by rw[dR];exact qW _ _ _
 have fl:Y.drew.ownsRow B 77 4 (.slice bI A.length bJ) A.length<|A.flatMap ku:=jY gH.o ci;have fN:∀x,(Value.slice bI A.length bJ).ownBlock=some x->c7 x=9:=by rw[dR];exact lN (B:=B) fl kM dc dc (λx hx=>(jW wc c1 5 x (gH.o.lt x hx).2).trans<|eq.o.co x hx)
 have fO:∀i,i<F.n->Y.drew.cell? (μ cG i)=some (ν ((F.kn i:Nat):Int)):=λi hi=>by
  have h1:w7.cell? (μ cG i)=some (ν ((F.kn i:Nat):Int)):=by
   have h2:=ho7.cells (g:=cG) rfl i (ν ((F.kn i:Nat):Int)) (by
    have h3:=kj ka 1 (λ_=>rfl) ((List.range F.n).map (λj=>((F.kn j:Nat):Int))++[70000]) i 0 (by rw[Yv,Zx,abt];omega) om;rw[YS,YE]at h3;rw[h3];rw[List.getElem_append_left (by rw[Zx,abt];exact hi),List.getElem_map,List.getElem_range]
    rfl)
   rw[aaX,YF]at h2;exact h2
  exact((ke eL.drew).1 _ _ eO.2).trans h1
 have gE:Hid (Calls prog 16 #[.agg #[ν F.s0,ν F.s1,ν F.s2,ν F.s3,ν F.c,ν F.h,ν F.u,ω cG F.n fh,ν F.b],σ] Y.drew λe w'=>∃p c',e=.returned (π p.r)/\j3 w' B c' p (F.dev N (lM (λ_=>j0) F.sec) (o1 (λ_=>j0) F.sec)<|ly F.z F.sec λ_=>j0) [kC (F.dev N (lM (λ_=>j0) F.sec) (o1 (λ_=>j0) F.sec)<|ly F.z F.sec λ_=>j0).ent F.c F.h] 0 (λ_=>⟨#[]⟩) (λ_=>false)/\mD Y.drew c7 c'/\Below Y.drew.heap.size Y.drew w'/\p.lb=cG/\p.cap=fh/\Y.drew.heap.size<=p.r/\p.rd=(F.dev N (lM (λ_=>j0) F.sec) (o1 (λ_=>j0) F.sec)<|ly F.z F.sec λ_=>j0)):=
  zR (F.dev N (lM (λ_=>j0) F.sec) (o1 (λ_=>j0) F.sec)<|ly F.z F.sec λ_=>j0) cG fh B 0 c7 σ [] Y.drew (λi hi=>xL F.s0 F.s1 F.s2 F.s3 i 60 hF.s0 hF.s1 hF.s2 hF.s3) hF.c hF.h hF.n.2 (YG _) uY (λi k _=>Hu F.c F.h F.z F.sec i k) ⟨gB,fg⟩ fO fP fj.bk.lo.2 rfl rfl
 have fK:=h_ fj;have gA:=h_ fH;have gx:=h_ fR;have gy:=h_ fI;have fL:=h_ fl;have gD:=h_ fN;have gI:Hid<|Below B w Y.drew:=eq.o.bl.trans<|ci.mono hU;have fJ:=h_ hYg;have hS:B<=cG:=om
 revert Y cd hs7 iV eL hYg ci hV eP eR eQ eS u5 eN hT hO eO gB fQ fg c7 dR fP fj fH fR fI fl fN fO gE fK gA gx gy fL gD gI fJ hS
 exact H.e):p:=M k
def XI(M:p:=by
 go_region_held3 (λw'=>w'.cell? (μ w7.heap.size 0)=some (ν F.s0)/\w'.cell? (μ w7.heap.size 1)=some (ν F.s1)/\w'.cell? (μ w7.heap.size 2)=some (ν F.s2)/\w'.cell? (μ w7.heap.size 3)=some (ν F.s3)/\w'.cell? (μ w7.heap.size 4)=some (ν F.c)/\w'.cell? (μ w7.heap.size 5)=some (ν F.h)/\w'.cell? (μ w7.heap.size 6)=some (ν F.u)/\w'.cell? (μ w7.heap.size 7)=some (ω cG F.n fh)/\w'.cell? (μ w7.heap.size 8)=some (ν F.b)) (go_keep)
  (first
   |(go_at_call 16;refine gE.o.mono ?_;rintro e w8 ⟨p,c8,rfl,hRf,hag8,hb8,hpl,hpc,hpr,hpd⟩;obtain⟨f0,f1,f2,f3,f4,f5,f6,f7,f8⟩:=kH ((hb8.block w7.heap.size (show w7.heap.size<Y.drew.heap.size by show _<Y.heap.size;omega)).trans fJ.o);have HRF:=h_ hRf;have HAG8:=h_ hag8;have HB8:=h_ hb8;have HPL:=h_ hpl;have HPC:=h_ hpc;have HPD:=h_ hpd;have hs8:=hb8.size;clear hRf hag8 hb8 hpl hpc hpr hpd)
   |(go_at_call 31;refine(fG.o _).mono ?_;rintro e w9 ⟨v9,rfl,ho9,hb9⟩;obtain⟨k0,k1,k2,k3,k4,k5,k6,k7,k8⟩:=kH (((jZ HB8.o hb9).block w7.heap.size (show w7.heap.size<Y.drew.heap.size by show _<Y.heap.size;omega)).trans fJ.o);obtain⟨a9,p9,rfl,_⟩:=i_ ho9;have HO9:=h_ ho9;have HB9:=h_ hb9;clear ho9 hb9))
 go_wp2
 go_meet
 obtain⟨Z,hZ⟩:=j5<|w9.alloc<|Obj.cells #[π q1.d,π p.r,ν F.s0,ν F.s1,ν F.s2,ν F.s3,ν F.c,ν F.h,ν F.u,ω cG F.n fh,ν F.b,.slice a9 nd p9,σ,ν 0] 52;have hZb:=ba hZ;have hZg:=v' hZ;rw[<-hZ];clear hZ;have hbk8:rI w8 B c8 kb (m+5) dX:=fK.o.frame (k:=9) (Fc.jX HB8.o) HAG8.o dc;have hfx8:=gx.o.frame (k:=9) (Fc.jX HB8.o) HAG8.o dc;have hb8Z:=jZ HB9.o hZb;have hRf8:=HRF.o;rw[<-HPD.o]at hRf8;have hSB:=J1 (q1:=q1) (f:=λ_=>j0) (nd:=nd) (F:=F) (D:=F.dev N (lM (λ_=>j0) F.sec) (o1 (λ_=>j0) F.sec)<|ly F.z F.sec λ_=>j0) (g:=w9.heap.size) hbk8 hRf8 (by rw[HPL.o];exact hS) (Cf.Ev _ _ _ _ _) (by rw[HPD.o];exact Cf.Ev _ _ _ _ _) hfx8 hb8Z (by rw[hZg,<-HPL.o,<-HPC.o];rfl) HB9.o.size<|jY HO9.o hZb;have hov8:=jY fL.o HB8.o;have hovZ:=jY hov8 hb8Z;have hdvZ:=(gA.o.frame gy.o (Fc.jX (k:=9)<|jZ HB8.o hb8Z) (HAG8.o.trans (jW w8 c8 7) HB8.o.size) dc).nc
 exact⟨{q1 with g:=w9.heap.size,p:=p,dv:=.slice a9 nd p9,wt:=σ},_,rfl,by rw[HPD.o]at hSB;exact hSB,⟨hdvZ.rP,hdvZ.cd,hdvZ.cL,hdvZ.cS,hdvZ.cE,hdvZ.cv,hdvZ.lo⟩,HPD.o,hovZ,lN (B:=B) hovZ kM dc dc (λx hx=>(jW w8 c8 7 x (hov8.lt x hx).2).trans<|(HAG8.o x (fL.o.lt x hx).2).trans<|gD.o x hx),gI.o.trans<|(jZ HB8.o hb8Z).mono fK.o.bk.lo.2⟩):p:=M
def ug(k:q)(M:Hq q->p:=by
 intro H;co_apply J2
 focus (exact rfl)
 simp only[Y_,Y5,reduceIte,YY]
 exact H.e):p:=M k
def NH(k:q)(M:Hq q->p:=by
 intro H;co_apply qz rfl rf hk rfl (bl:=aI) (off:=0) rf (.inr<|YD ..) (xM bD.o) (NI _ _ _ _);walk_nrm;co_apply Hv rfl rf hk rfl (cells:=#[ν x.line,ν 0,ν x.unit,.string x.body]) (e:=134) oZ (by intro _;simp[go_sem, *]);intro cT gm;have ai:Hid<|zQ C w0 (cT.heap.size::aI::ap) (cT.alloc<|.cells #[ν x.line,ν 0,ν x.unit,.string x.body] 134) v af:=(aC.o.step gm).alloc _;have aV:Hid<|(cT.alloc<|.cells #[ν x.line,ν 0,ν x.unit,.string x.body] 134).heap[cT.heap.size]?=some (.cells #[ν x.line,ν 0,ν x.unit,.string x.body] 134):=pm;show Gb _ _ _ _ _ _ _ (cT.alloc<|.cells #[ν x.line,ν 0,ν x.unit,.string x.body] 134);obtain⟨bv,U⟩:=j5 (cT.alloc<|.cells #[ν x.line,ν 0,ν x.unit,.string x.body] 134)
 revert cT gm ai aV bv U
 exact H.e):p:=M k
def NJ(k:q)(M:Hq q->p:=by
 intro H;walk_nrm;co_apply qA rfl rf hk rfl (bl:=aI) (v:=.agg #[ν x.line,ν 0,ν x.unit,.string x.body]) rf rf (YD ..) hc.o rf gj.o (by simp[Value.cells,Value.oneCell']);intro aZ bT;have aC:Hid<|zQ C w0 (aI::ap) (aZ.setRow aI #[ν x.line,ν 0,ν x.unit,.string x.body]) v af:=(hA.o.step bT).row aA.o hne.o _;have bD:Hid<|(aZ.setRow aI #[ν x.line,ν 0,ν x.unit,.string x.body]).heap[aI]?=some (.cells #[ν x.line,ν 0,ν x.unit,.string x.body] 134):=aae _ _ _ _ _ _ (bT.look (.inr<|YD ..) hc.o);show Gb _ _ _ _ _ _ _ (aZ.setRow aI #[ν x.line,ν 0,ν x.unit,.string x.body]);obtain⟨be,U⟩:=j5 (aZ.setRow aI #[ν x.line,ν 0,ν x.unit,.string x.body])
 revert aZ bT aC bD be U
 exact H.e):p:=M k
def U4(M:p:=by
 obtain⟨q,c2,rfl,hSB,hDV,hpd,hov,hco,hbl⟩:=hcut;have hcm:Calm F.z F.sec nd (lM (λ_=>j0) F.sec) (o1 (λ_=>j0) F.sec) (ly F.z F.sec λ_=>j0) {dk:=λ_=>j0,wet:=[],least:=0}:=⟨λ_ _=>uh,rfl,rfl,rfl,rfl⟩;obtain⟨hchk,_,hle,hcm2,hrd⟩:=Calm.ready hcm jJ hQ.1;have hrA:(kN (λ_=>j0) F.sec (lM (λ_=>j0) F.sec)<|o1 (λ_=>j0) F.sec)=A:=hR.o.symm;simp only[hrA]at hchk hle hcm2 hrd;have HAC:=h_ (ui wc B c2 q (F.dev N (lM (λ_=>j0) F.sec) (o1 (λ_=>j0) F.sec)<|ly F.z F.sec λ_=>j0) _ nd A.length (.slice bI A.length bJ) σ B 0 A [] hSB.rg ⟨om,hQ.2⟩ hov uY (λx hx=>by rw[hco x hx];decide) (λx hx=>by simp[Value.ownBlock]at hx) hchk om si rfl dc si);have hsim:=Cf.Gr hF N (lM (λ_=>j0) F.sec) (o1 (λ_=>j0) F.sec) nd (ly F.z F.sec λ_=>j0) _ hcm2 hrd hle hQ.1;have HSIM:=h_ hsim;have HSB:=h_ hSB;have HDV:=h_ hDV;have HPD:=h_ hpd;have HBL2:=h_ hbl;clear hSB hov hco hbl hchk gE fG fK fL gD gI fJ hV eP eR eQ eS u5 eN hT hO hsim hcm hcm2 hrd hle hrA hDV hpd gA gx gy
 go_wp2_with fail
 refine HAC.o.mono ?_;rintro e w3 ⟨rfl,v3,c3,hR3,hag3,hf3⟩
 have hst:mT SG w w3 B q kb (m+5) F nd 0:=by
  refine⟨{q with wt:=v3},nc w3 B c3,dX,_,_,_,_,_,_,_,nJ.norm (HSB.o.bk.frame hf3 hag3 dc) (HSB.o.rf.frame hf3 hag3 dc dc dc) hR3 HSB.o.lb HSB.o.cf HSB.o.cr<|HSB.o.fx.frame hf3 hag3 dc,?_,by rw[show({q with wt:=v3}:me).p.rd=q.p.rd from rfl,HPD.o];exact HSIM.o,Cf.Ew hF _ _ _ _ (sK _ _) (xN _ _),by rw[show({q with wt:=v3}:me).p.rd=q.p.rd from rfl,HPD.o];exact Bd.fresh F _ _ _ _ _,λl hl=>?_,rfl,HBL2.o.trans<|hf3.toBelow HSB.o.nr dc HSB.o.bk.bk.lo.2,rfl,rfl⟩
  .have hd3:=(HDV.o.frame HSB.o.nr hf3 hag3 dc).nc;exact⟨hd3.rP,hd3.cd,hd3.cL,hd3.cS,hd3.cE,hd3.cv,hd3.lo⟩
  .rw[Y'.1 hl];unfold kC;simp;have:=hF.c;have:=hF.h;have:=hF.s0;have:=hF.s2;omega
 have HST:=h_ hst;clear hst hR3 hag3 hf3;go_wp2
 go_ret2
 exact⟨q,rfl,HST.o⟩):p:=M
def U5(M:p:=by
 obtain⟨k4,k5,_,_,_,_,_,_,_,_,_,_,_⟩:=fq.o.cells;clear hZg;cases b
 .rcases iN with m0|m0
  .have w0:((T.kd:Int)==0)=true:=nY m0;have ag:((T.kd:Int)==2)=false:=nY m0;by_cases hP:T.to_+q<D.kp T.kd
   .have hPI:decide ((T.to_:Int)+(q:Int)<(D.kp 0:Int))=true:=by rw[m0]at hP;exact YW om
    rw[YW hP]at dZ;clear hP m0
    go_wp2_with fail
    go_quiet (fail)
    go_wp2
    go_roundw
    case rel=>exact⟨q+1,mY,gn,by rw[dZ.o];rfl,fq.o.below<|YL (Below.refl _ Z) nq,eH.o.drewN nq⟩
    case measure=>exact mz
   .have hPI:decide ((T.to_:Int)+(q:Int)<(D.kp 0:Int))=false:=by rw[m0]at hP;exact YZ om
    rw[YZ hP]at dZ;clear hP m0
    go_wp2_with fail
    go_quiet (fail)
    go_wp2
    go_roundw
    case rel=>exact⟨q+1,mY,gn,by rw[dZ.o];rfl,fq.o.below<|YL (Below.refl _ Z) nq,eH.o.drewN nq⟩
    case measure=>exact mz
  .have w0:((T.kd:Int)==0)=false:=nY m0;have ag:((T.kd:Int)==2)=true:=nY m0;by_cases hP:T.to_+q<D.kp T.kd
   .have hPI:decide ((T.to_:Int)+(q:Int)<(D.kp 2:Int))=true:=by rw[m0]at hP;exact YW om
    rw[YW hP]at dZ;clear hP m0
    go_wp2_with fail
    go_quiet (fail)
    go_wp2
    go_roundw
    case rel=>exact⟨q+1,mY,gn,by rw[dZ.o];rfl,fq.o.below<|YL (Below.refl _ Z) nq,eH.o.drewN nq⟩
    case measure=>exact mz
   .have hPI:decide ((T.to_:Int)+(q:Int)<(D.kp 2:Int))=false:=by rw[m0]at hP;exact YZ om
    rw[YZ hP]at dZ;clear hP m0
    go_wp2_with fail
    go_quiet (fail)
    go_wp2
    go_roundw
    case rel=>exact⟨q+1,mY,gn,by rw[dZ.o];rfl,fq.o.below<|YL (Below.refl _ Z) nq,eH.o.drewN nq⟩
    case measure=>exact mz
 .rw[ab9]at dZ
  go_wp2_with fail
  go_quiet (fail)
  go_wp2
  go_roundw
  case rel=>exact⟨q+1,mY,gn,by rw[dZ.o],fq.o.below<|YL (Below.refl _ Z) nq,eH.o.drewN nq⟩
  case measure=>exact mz):p:=M
def B8(k:q)(M:Hq q->p:=by
 intro H;refine AT func9 rfl ?_;simp only[ntmps9,YJ,YA,YI,Nat.reduceAdd,Nat.reduceSub,Zu,Zt,ZK,Zz,YT,Y1]
 exact H.e):p:=M k
def U6(M:p:=by
 go_wp2_with fail
 go_quiet (fail)
 obtain⟨V6,hV6⟩:=j5<|w6.drewN nq;rw[<-hV6];have HV6:Hid<|j1 O V6 N L S E (.slice jP T.1.wait.length jQ) T.1/\lC D.base (lS O N L S E) w V6/\V6.ownsRow w.heap.size 77 4 (.slice jA T.2.length ja) T.2.length (T.2.flatMap ku):=by rw[hV6];exact⟨iu.o.drewN _,ir.o.drewN _,jV jb.o λ_ _=>rfl⟩
 clear hV6 c0 c1 c2 cL cM cP cN cO iu ir jb
 go_wp2_with fail
 refine(AU N L S E _ T.1 V6 HV6.o.1 dg.o).mono ?_;rintro e w7 ⟨v7,wv7,rfl,ho7,_,hd7,hf7⟩;obtain⟨a7,jM,rfl,_⟩:=i_ ho7;rw[jO.o]at hf7;have HO67:=h_ (jV (w':=w7) HV6.o.2.2 (λg hg=>by obtain⟨cg,hcg⟩:=jU HV6.o.2.2 g hg;exact hf7.keep g cg 77 hcg rfl));have HO7:=h_ ho7;have HD7:=h_ hd7;have HF7:=h_<|HV6.o.2.1.trans hf7;have hs7:=HF7.o.size;obtain⟨i0,hi0,hz0,hz1,hz2⟩:=Y4 Tryz.po;clear ho7 hd7 hf7 HV6
 go_wp2_with (at_builtin;refine mU rfl (.tmp 101) (.tmp 103) 31 rfl w.heap.size V6.heap.size 77 i0 _ 4 40 underlying31 hi0 hz0 hz1 hz2 rfl dc _ T.2.length _ rfl HO67.o _ (j' T.1).2.length _ rfl HO7.o (oC _) ml om om ?_;intro jB w8 hown8 hgrow8;obtain⟨a8,jN,rfl,_⟩:=i_ hown8)
 go_ret;rw[iq.o];refine⟨_,rfl,?_,⟨_,HD7.o.keep ((lC.refl (B:=0) (λ_ t=>t==77) w7).grown hgrow8 (λk hk=>⟨YG _,jU HO67.o k hk⟩) λ_ _=>rfl) (λ_=>rfl) (λ_=>rfl) (λ_=>rfl) (λ_=>rfl) λ_=>rfl⟩,HF7.o.sL hgrow8 λk hk=>(HO67.o.lt k hk).1⟩;show w8.ownsRow w.heap.size 77 4 _ (T.2++(j' T.1).2).length ((T.2++(j' T.1).2).flatMap ku);rw[YX,Yv]
 exact hown8):p:=M
def J3(k:q)(M:Hq q->p:=by
 intro H
 repeat(first|(co_apply Tr.region aj;simp only[YJ,YA,YI,Nat.reduceAdd,YF,List.range,List.range.loop])|(co_apply Tr.pure aj rfl (by rfl) hk oZ pj;walk_nrm)|(co_apply Tr.unwanted aj rfl (by rfl);walk_nrm)|co_apply Tr.nil aj|co_apply Tr.seq aj|co_apply Tr.block aj|co_apply Tr.skip aj|co_apply Tr.inBlock aj)
 exact H.e):p:=M k
def GD(k:q)(M:Hq q->p:=by
 intro H
 repeat(first|(co_apply nH;simp only[YJ,YA,YI,Nat.reduceAdd,YF,List.range,List.range.loop])|(co_apply oi rfl rf oZ pj;walk_nrm)|(co_apply nX;try simp only[thenB,inBlockB,Y_,Y5,reduceIte,Nat.reduceEqDiff])|(first|co_apply lY|co_apply pa|(co_apply pl;try simp only[thenB,inBlockB,Y_,Y5,reduceIte,Nat.reduceEqDiff])|(co_apply sJ;try simp only[thenB,inBlockB,Y_,Y5,reduceIte,Nat.reduceEqDiff])|(co_apply qy;try simp only[thenB,inBlockB,Y_,Y5,reduceIte,Nat.reduceEqDiff]))|(co_apply nv;focus (exact rfl);simp only[Y_,Y5,reduceIte,YY]))
 exact H.e):p:=M k
def Hw(k:q)(M:Hq q->p:=by
 intro H;have f2:∀j,ag.frozen? (μ kb j)=false:=λj=>Y2 ag kb j _ 33 a1;have cn:=h_ a1;have cm:=h_ bU;have de:=h_ cC;have bp:=h_ bt;have ca:=h_ aQ;have ce:=h_ bV
 revert f2 cn cm de bp ca ce
 exact H.e):p:=M k
def U7(M:p:=by
 go_region_held3 (λw'=>w'.cell? (μ w.heap.size 0)=some (ν F.s0)/\w'.cell? (μ w.heap.size 1)=some (ν F.s1)/\w'.cell? (μ w.heap.size 2)=some (ν F.s2)/\w'.cell? (μ w.heap.size 3)=some (ν F.s3)/\w'.cell? (μ w.heap.size 4)=some (ν F.c)/\w'.cell? (μ w.heap.size 5)=some (ν F.h)/\w'.cell? (μ w.heap.size 6)=some (ν F.u)/\w'.cell? (μ w.heap.size 7)=some (.slice ad F.n k)/\w'.cell? (μ w.heap.size 8)=some (ν F.b)) (go_keep)
  (first
   |(go_at_call 31;refine(fG.o _).mono ?_;rintro e w5 ⟨v5,rfl,ho5,hb5⟩;obtain⟨a5,k5,rfl,_⟩:=i_ ho5;have hb15:=kx hb5;have hbx5:=(hb15.block w.heap.size om).trans eK.o;obtain⟨f0,f1,f2,f3,f4,f5,f6,f7,f8⟩:=kH hbx5;have HBX5:=h_ hbx5;have HO5:=h_ (j9 ho5 (show w.heap.size<=w1.heap.size by omega));have HB5:=h_<|jZ cp.o hb15;clear ho5 hb5 hb15 hbx5)
   |(go_at_call 13;refine(fF.o _ _ _ HB5.o HBX5.o HO5.o).mono ?_;rintro e w6 ⟨q6,eM,c6,b6,N6,rfl,hK6⟩;obtain⟨h0,h1,h2,h3,h4,h5,h6,h7,h8⟩:=kH hK6.bx;have HK6:=h_ hK6;clear hK6))
 go_wp2
 go_meet
 exact⟨_,_,_,_,_,rfl,rfl,rfl,rfl,HK6.o⟩):p:=M
def U8(M:p:=by
 have hsz:v.cells.size=jF.size:=by simp[eT]at hi;omega
 have h1':∀u∈v.cells.toList,u.oneCell'=true:=λu hu=>(Z4.1 h1) u (by simpa using hu);have hst:=ab1 (P:=P) b 0 t v.cells.toList 0 cur aa ec (by simp[hs]) h1';have hd:cur.toList.drop (0+0+v.cells.toList.length)=[]:=aa6 (by simp[hs]);rw[hd]at hst;simp only[YE,abQ,YT,Zy,aaa]at hst;have hsv:(sizeOf cA).run P aa=.ok v.cells.size aa:=by simp[sizeOf,typeInfo,eT,hsz]
 have hr:(execOp a.eval o).run P aa=.ok .skip (aa.setRow b v.cells):=by unfold execOp;simp[bs,hx,ax,Instr.storeAt,Instr.sureAddr,storeVar,Zp,hsv,hst]
 rw[hr];refine⟨.setRow _ hb λe he=>?_,by rw[rU];exact M aa h₁⟩;have hm:=mem_listed he;unfold execOp at hm;simp[bs,hx,ax,Instr.storeAt,Instr.sureAddr,storeVar,hsv,ZG]at hm;rcases events_storeCells_at b 0 t v.cells.toList 0 cur aa _ ec (by simp[hs]) h1' e hm with M|⟨ad,e1,e2⟩
 .simp at M
 .exact sM hb e1 e2):p:=M
def uj(k:q)(M:Hq q->p:=by
 intro H;refine Rk.ctl ah au (λw B=>by simp[Fr,G,stepG,stepG.exec];rfl) ?_
 exact H.e):p:=M k
def U9(k:q)(M:Hq q->p:=by
 intro H;have fZ:∀(w1:b_) (v iG:f_),w1.ownsRow X.heap.size 77 4 v A.length (A.flatMap ku)->j1 (oc bN X) w1 q.d q.L q.S q.E iG eV->lC D.base (lS (oc bN X) q.d q.L q.S q.E) X w1->∃c1,NK w w1 B c1 q kb m b F D eV s left safe bL bK Y o A v iG:=λw1 v iG hv eW fr=>by obtain⟨hf,hD1⟩:=qX bd.dv bd.sb.nr eW fr eb.o.1.base 1;have dm:=oD X bN iG 1;have hbx1:=(hf.keep _ _ _ ao (.inl dc) (qx bo)).trans ao;have hBX:B<=X.heap.size:=bd.sb.bk.bk.lo.2;refine⟨_,nJ.norm (bd.sb.bk.frame hf dm dc) (bd.sb.rf.frame hf dm dc dc dc) (bd.sb.rg.frame hf dm dc) bd.sb.lb bd.sb.cf bd.sb.cr<|bd.sb.fx.frame hf dm dc,hD1,j9 hv hBX,λg hg=>⟨lN (B:=B) hv hBX dc (show(1:Nat)≠0 by decide) (xO hv eW.wait dc kM) g hg,λhb=>by have h1:=bd.sb.bk.bk.here g hb;have h2:=(hv.lt g hg).1;omega⟩,hbx1,mg aC hbx1 dc ((dm _ ik).trans bo) dc,(ar.mono aC).trans<|hf.toBelow bd.sb.nr dc hBX⟩
 have HST:=h_ fZ
 revert fZ HST
 exact H.e):p:=M k
def zh(k:q)(M:Hq q->p:=by
 intro H;obtain⟨fa,c0,c1,c2,c3,c4,c5,c6,c7⟩:=kq st2.b0;obtain⟨fb,d0,d1,d2,d3,d4,d5,d6,d7⟩:=kq st2.b1
 revert fa c0 c1 c2 c3 c4 c5 c6 c7 fb d0 d1 d2 d3 d4 d5 d6 d7
 exact H.e):p:=M k
def NL(k:q)(M:Hq q->p:=by
 intro H;walk_nrm;co_apply qA rfl rf hk rfl (bl:=aI) (v:=gZ) rf rf (YD ..) hc.o rf gj.o (by simp[gZ,Value.cells,Value.oneCell']);intro aZ bT;have aC:Hid<|zQ C w0 (aI::ap) (aZ.setRow aI gZ.cells) v af:=(hA.o.step bT).row aA.o hne.o _;obtain⟨be,U⟩:=j5 (aZ.setRow aI gZ.cells)
 revert aZ bT aC be U
 exact H.e):p:=M k
def U_(k:q)(M:Hq q->p:=by
 intro H;have hf:Fc c1 3 w1 ag:=(Fc.jX (k:=3) br.drew).trans jz<|mD.refl _ _;have dm:mD w1 c1 c1:=mD.refl _ _;have ip:=jy.ghost {q.p.rd with uns:=0,wait:=[]};have ea:=hA.dv.frame hA.sb.nr hf dm dc;have im:=(hf.keep _ _ _ hA.bx (.inl dc) (qx hA.cb)).trans hA.bx;have fs:=hf.own hA.row dc (λg hg=>by rw[(hA.vc g hg).1];decide);have gS:nJ ag B (nc ag B c1) {q with wv:=ft,p:={q.p with wv:=σ,rd:={q.p.rd with uns:=0,wait:=[]}}} kb m b F eV s left (left.length-1) bL bK Y:=nJ.norm (hA.sb.bk.frame hf dm dc) ip ((hA.sb.rg.frame hf dm dc).Wx hA.sb.cf dd.o.cf rfl rfl rfl rfl rfl rfl rfl) hA.sb.lb dd.o.cf dd.o.cr<|hA.sb.fx.frame hf dm dc;have gT:lA ag B (nc ag B c1) {q with wv:=ft,p:={q.p with wv:=σ,rd:={q.p.rd with uns:=0,wait:=[]}}} eV:=lA.nc ⟨ea.rP,ea.cd,ea.cL,ea.cS,ea.cE,ea.cv,ea.lo⟩;obtain⟨gU,hsim⟩:=dd.o.qB;have P:=dd.o;refine⟨_,rfl,im,?_⟩
 revert hf dm ip ea im fs gS gT gU hsim P
 exact H.e):p:=M k
def U'(k:q)(M:Hq q->p:=by
 intro H;have dD:∀v,(b.at a (.inRegion ops (i::rest)::k)).finish v=b.at (a.put o.dst v) (.inRegion ops rest::k):=λv=>by rw[aa2,aO];rfl
 have fw:∀(a':Act) (go:List Nat) (w':b_) (gd:List Item),(a'.defers=[]/\∀aa,Rel C go w' aa->∃v,(results ge a'.tmps).run P aa=.ok v aa/\(∀e∈(results ge a'.tmps).events P aa #[],JW C go e)/\gc v go aa)->
  Gb P C main Stop (m+n+1) go (G {(base f).at a' gd with mode:=.returning} (b.at a (.inRegion ops (i::rest)::k)::g4)) w':=by
  rintro a' go w' gd ⟨hd,hv⟩;refine Gb.step rfl λaa h₁=>?_;obtain⟨v,q1,q2,q3⟩:=hv aa h₁;refine⟨_,aa,_,nZ (b:=base f) rfl hd hf q1,rfl,.read λe he=>q2 e<|mem_seen he,?_⟩;rw[m8,dD];exact g3 v go aa q3 b k g4 Stop m hb hk hc
 revert dD fw
 exact H.e):p:=M k
def wY(M:p:=by
 obtain rfl:=og.inj hE ud.2;dsimp only[ud];go_wp2
 exact AV rfl rfl):p:=M
def zi(M:p:=by
 go_enter func37,ntmps37
 go_wp2;go_ret
 exact .inr ⟨cZ.o,rfl,rfl⟩):p:=M
def Hx(M:p:=by
 have hk:k≠kb:=λaR=>by rw[aR,cn.o]at hc;simp at hc;exact bQ hc.2.symm
 rw[Yp _ _ _ _ hk,Yp _ _ _ _ hk]):p:=M
def AW(k:q)(M:Hq q->p:=by
 intro H;obtain⟨X,ae⟩:=j5<|w.alloc<|.cells (k9 o) 42;have ar:=ba ae;have ao:=v' ae
 revert X ae ar ao
 exact H.e):p:=M k
def SH(M:p:=by
 intro g hg;unfold lu.on lu.ints at hg
 rcases hg with r|r|r|r|r|(r|r|r)|(r|r|r)|(r|r|r)|(r|r|r)<;>first|exact .inl ND|exact(fB g r).elim (λr=>.inl ND) (λr=>.inr<|.inr r)|exact(r.1).elim (λr=>.inl ND) λr=>r.elim (λr=>.inl ND) λr=>.inr (.inr r)|exact .inr (.inl r)|exact .inr<|.inr<|iK g r):p:=M
def SI(k:q)(M:Hq q->p:=by
 intro H;have e3:Hid _:=hn;have e4:Hid _:=hc;have gi:=h_ h0;have gh:=h_ h1;obtain⟨i0,ep,ho,hq,g9⟩:=Y4 Tryz.SJ;have hi:=h_ ep;have hz0:=h_ ho;have hz1:=h_ hq;have hz2:=h_ g9;have gj:Hid<|(prog.info? 134).map (·.size)=some 4:=by show _=_;kernel_rfl
 unfold pp;rw[aK,e1]
 revert e3 e4 gi gh i0 ep ho hq g9 hi hz0 hz1 hz2 gj
 exact H.e):p:=M k
def Hy(k:q)(M:Hq q->p:=by
 intro H;obtain⟨W,U,dh,a2,bq⟩:=B9 w s0 s1 s2 s3 c M u b<|.slice ad n k;obtain⟨c0,c1,c2,c3,c4,c5,c6,c7,c8⟩:=kH bq
 revert W U dh a2 bq c0 c1 c2 c3 c4 c5 c6 c7 c8
 exact H.e):p:=M k
def SK(k:q)(M:Hq q->p:=by
 intro H;have c1:∀(W:b_) (g:Nat),W.cell? (μ g 0)=some (.int .u8 (u:Int))->(convert 114 9<|.slice (some (μ g 0)) 1 1).run prog W=.ok (.string ⟨#[UInt8.ofNat u]⟩) W:=λW g hc=>B_ W g u hc;have ib:IntKind.u8.wrap (u:Int)=(u:Int):=by rw[aaf];omega
 have ie:¬9223372036854775807<1+b.size:=om
 revert c1 ib ie
 exact H.e):p:=M k
def Vb(M:p:=by
 have hn:∀x,(newObj x).run P aa=.ok aa.heap.size (aa.alloc x):=λ_=>rfl;have hr:(execOp a.eval o).run P aa=.ok (.value<|π aa.heap.size) (aa.alloc<|.cells z.cells cA):=by unfold execOp;simp only[bs,Instr.alloc,newVar,newRow,Zp,cj,Za,hn,ZE]
 have he:(execOp a.eval o).events P aa #[]=#[]:=by unfold execOp;simp only[bs,Instr.alloc,newVar,newRow,ZG,Zp,cj,Za,hn,ZE,ZH,Z7,events_newObj,events_zeroValue]
 rw[hr]
 exact⟨by rw[listed_nil he];exact .alloc _,by rw[tG];exact M aa h₁⟩):p:=M
def SL(M:p:=by
 intro g hg;unfold lu.on lu.ints at hg;have hh:∀g,b.on kb g->g<w'.heap.size:=λg hg=>Yy (M.here g hg) hs
 rcases hg with r|r|r|r|r|(r|r|r)|(r|r|r)|(r|r|r)|(r|r|r)<;>first|exact hh g ND|exact(kL dO g r).elim λ_ M=>Yn M|exact r.2|exact(fA.lt g r).2|exact(bt.lt g r).2):p:=M
def Hz(M:p:=by exact cm.o.carry λk cur t hc _ bQ=>dr k cur t hc (λaR=>by subst aR;rcases bQ with r|r<;>exact absurd r dc)):p:=M
def WG(k:q)(M:Hq q->p:=by
 intro H;simp only[YJ,YA,YI,Nat.reduceAdd,YF]
 co_applyP kX (λ_ _ _ _ M r=>lD M r) (i:=0) rfl fk fk fk (lJ rf oZ pj)
 walk_nrm
 co_applyP kX (λ_ _ _ _ M r=>lD M r) (i:=1) rfl fk fk fk (lJ rf oZ pj)
 walk_nrm
 co_applyP kX (λ_ _ _ _ M r=>lD M r) (i:=2) rfl fk fk fk (lJ rf oZ pj)
 walk_nrm
 co_applyP kX (λ_ _ _ _ M r=>lD M r) (i:=3) rfl fk fk fk (lJ rf oZ pj)
 walk_nrm
 co_applyP kX (λ_ _ _ _ M r=>lD M r) (i:=4) rfl fk fk fk (lJ rf oZ pj)
 walk_nrm
 exact H.e):p:=M k
def NM(M:p:=by
 rw[stepG_enter aO bh hk<|run_call_body bs hf g2 g1,enter_at _ hf eZ];have:listed P b.fn a o aa=#[]:=by unfold listed;rw[events_call_body bs hf g2 g1];exact seen_none P _
 rw[this]):p:=M
def J4(M:p:=by
 have eo:Hid<|¬o7 aS (pY n i aS)<o7 aS i:=by rw[hj];exact jR c9
 clear c9 hj
 go_wp2_with fail
 refine cm.o.mono ?_;rintro e w3 ⟨rfl,k3,rfl⟩
 go_wp2_with fail
 go_ret
 exact⟨_,aS,rfl,gu.o _ (.stop om (Int.not_lt.2 eo.o)),di.o,bp.o.drewN _,ca.o.drewN _⟩):p:=M
def NN(k:q)(M:Hq q->p:=by
 intro H;have dp:Hid _:=cB;rw[show(none:Option<|List f_)=(none:Option<|List Fd).map (·.map Fd.v)from rfl,J6,oE];unfold zd;simp only[YY,Y5,Y_,reduceIte]
 revert dp
 exact H.e):p:=M k
def NO(M:p:=by
 rcases M with⟨hr,rfl,rfl⟩|⟨_,rfl,rfl⟩
 .exact .inl ⟨rfl,hs.1,si,si,by simp only;omega,by simp only;omega,si,si,.inr ⟨si,rfl⟩,si,si⟩
 .exact .inr ⟨.inr rfl,rfl⟩):p:=M
def NP(k:q)(M:Hq q->p:=by
 intro H;have dp:Hid _:=cB;rw[show(some (List.map Fd.v xs))=(some xs).map (·.map Fd.v)from rfl,J6,oE];unfold zd Fd.v;simp only[YY,Y5,Y_,reduceIte]
 revert dp
 exact H.e):p:=M k
def NQ(M:p:=by
 go_wp2;refine Yx (v:=.tuple #[.agg #[ν 0,ν 0,.string ⟨#[]⟩],ν 4]) (by simp[results,results71,go_sem]) rfl ⟨0,⟨#[]⟩,4,rfl,HK,?_⟩
 exact br.alloc kM _):p:=M
def SN(k:q)(M:Hq q->p:=by
 intro H;have ar:Below w.heap.size w X:=by rw[ae];exact YL (jT (Below.refl _ _) _) _
 have bH:X.heap.size=w.heap.size+1:=by rw[ae];simp
 have ao:X.heap[w.heap.size]?=some (.cells #[ν 0,ν 0,ν 0,ν 0,ν 0,ν 0,ν 0,σ] 144):=by rw[ae];exact YO w _
 revert ar bH ao
 exact H.e):p:=M k
def J7(M:p:=by
 obtain⟨bI,bJ,rfl,rfl,rfl,rfl,hK⟩:=hcut;have HK:=h_ hK;clear hK b3 bS b5 b4 b8 b9 b' b7 bX;go_wp2
 go_ret2
 exact⟨rfl,HK.o⟩):p:=M
def B'(M:p:=by
 have hcst:∀v,eY (.const v)=v:=λv=>nY bO;clear bO
 go_simp
 exact ae):p:=M
def Vd(k:q)(M:Hq q->p:=by
 intro H;obtain⟨gG,dC,cq,gz,gC,gL,gJ,gK,z8⟩:=kH hK.bx;have iU:A.length<=100:=by rw[hA];exact Ex _ _ jI
 have fi:=h_ (ti F.s0 F.s1 F.s2 F.s3 F.c F.h F.u F.b F.n k ad ((List.range F.n).map λj=>((F.kn j:Nat):Int)) wc (by rw[Zx,abt]) (li hF.n) hK.ci.Ey (λa ha h0=>(hK.ci.hk a ha h0).1));have eq:=h_ hK;have gH:=h_ db;have hR:=h_ hA;have hU:B<=wc.heap.size:=hK.bk.bk.lo.2
 revert gG dC cq gz gC gL gJ gK z8 iU fi eq gH hR hU
 exact H.e):p:=M k
def NR(k:q)(M:Hq q->p:=by
 intro H;have dN:∀j,j<w.heap.size->Value.ownBlock (.slice av k aw)≠some j->wr.heap[j]?=w.heap[j]?:=λj hj hne=>(ah.block j om (λaR=>hne aR.symm)).trans (dV.o j hj)
 revert dN
 exact H.e):p:=M k
def SQ(k:q)(M:Hq q->p:=by
 intro H;show mQ _ _ _ _ _ _ _ _ _ _ (aa.alloc<|.cells #[ν 0,ν 0,.string ⟨#[]⟩] 94);obtain⟨W,U⟩:=j5 (aa.alloc<|.cells #[ν 0,ν 0,.string ⟨#[]⟩] 94)
 revert W U
 exact H.e):p:=M k
def Vf(M:p:=by
 refine⟨Rec.start gq hown dJ.o (λg hg=>by rw[cV];exact .inl hg) (λg hg=>by rw[cV];exact .inr<|.inl hg),?_,?_,?_,λg hg=>.inl hg,λg hg=>.inl hg⟩
 .rw[dN kb mY (λaR=>by
   obtain⟨c,h40⟩:=eD.o kb aR;rw[cv.o]at h40
   simp at h40),cv.o,cb]
 .intro c hc;simp only[Yz]at hc;subst hc;exact(ah.block aB (by rw[dM.o];exact hz1) (λaR=>by have:=ei.o aB aR.symm;have:=dM.o;omega)).trans dK.o
 .exact dL.o.grown ah λg hg=>.inr<|.inl hg):p:=M
def NS(k:q)(M:Hq q->p:=by
 intro H;have ei:Hid (∀g,Value.ownBlock (.slice av n aw)=some g->g<w.heap.size):=λg hg=>(ai.lt g hg).2;have eD:=h_<|jU ai;have dV:=h_ cX
 revert ei eD dV
 exact H.e):p:=M k
def SR(k:q)(M:Hq q->p:=by
 intro H;have hfw:∀g,bi.ownBlock=some g->w.heap.size<=g:=λg hg=>(iH g hg).elim (λaR=>by simp[Value.ownBlock]at aR) id;have e5:=h_ hfw;refine hw.o _ _ iI fy hfw _ ?_;clear hfw;intro ag aG a1 bU cC bt aQ bV
 revert e5 ag aG a1 bU cC bt aQ bV
 exact H.e):p:=M k
def SS(k:q)(M:Hq q->p:=by
 intro H;have hc:Hid<|(aa.alloc<|.cells #[ν 0,ν 0,.string ⟨#[]⟩] 94).heap[aa.heap.size]?=some (.cells #[ν 0,ν 0,.string ⟨#[]⟩] 94):=pm
 revert hc
 exact H.e):p:=M k
def SV(M:p:=by
 rintro g ⟨cur,hc⟩;refine⟨λaR=>?_,λaR=>?_⟩
 .rw[aR,(aP kb mY).trans aH]at hc;simp at hc
 .obtain⟨Ls,h1,_⟩:=dq;obtain⟨c',h31⟩:=jU h1 g aR;rw[aP g (h1.lt g aR).2,h31]at hc
  simp at hc):p:=M
def Ca(k:q)(M:Hq q->p:=by
 intro H;obtain⟨a6,ev,_⟩:=Cf.u9 hF;have a3:0<Y:=li bB.1
 revert a6 ev a3
 exact H.e):p:=M k
def Vi(k:q)(M:Hq q->p:=by
 intro H;have eP:((Pl.j2 s 0:Int)==1)=false:=nU;have eR:((Pl.j2 s 0:Int)==2)=false:=nU;have eQ:((Pl.j2 s 0:Int)==3)=false:=nU;have eS:((Pl.j2 s 0:Int)==4)=false:=nU;have u5:((Pl.j2 s 0:Int)==5)=false:=nU;have eN:((Pl.j2 s 0:Int)==6)=false:=nU;have i4:((Pl.j2 s 0:Int)==15)=false:=nU;have i5:((Pl.j2 s 0:Int)==16)=false:=nU;have i6:((Pl.j2 s 0:Int)==22)=false:=nU;have i7:((Pl.j2 s 0:Int)==23)=false:=nU
 revert eP eR eQ eS u5 eN i4 i5 i6 i7
 exact H.e):p:=M k
def Vj(k:q)(M:Hq q->p:=by
 intro H;have cw:Hid<|kb<=bv.heap.size:=aaV<|Yy mY bu.pq.size;have du:=bu.pq.size;have cD:=h_ bu;have ek:Hid (∀g,w.heap.size<=g->Q g):=λg hg=>by rw[HQ.o];exact .inr (.inr hg)
 have e9:Hid (∀c:Array f_,(none:Option<|Array f_)=some c->Value.ownBlock (.slice av n aw)≠some kb):=λc hc aR=>by simp at hc
 revert cw du cD ek e9
 exact H.e):p:=M k
def HA(M:p:=by exact⟨n,h1,h2,h3,h4,λab N hs=>⟨(h5 ab N hs).1,λal=>(h5 ab N hs).2 _⟩⟩):p:=M
def SW(k:q)(M:Hq q->p:=by
 intro H;have cS:Hid<|(prog.info? 94).map (·.size)=some 3:=by show _=_;kernel_rfl
 revert cS
 exact H.e):p:=M k
def SX(M:p:=by exact rV rfl rfl rfl (.inr<|YD ..) (oG aV.o 0 λj v hv=>by rw[YF];simpa using hv) (AX _ _ _) λaa h₁=>⟨0,⟨#[]⟩,4,rfl,HK.o,ck.o.step h₁⟩):p:=M
def HD(k:q)(M:Hq q->p:=by
 intro H;have bH:X.heap.size=w.heap.size+1:=by rw[ae];simp
 revert bH
 exact H.e):p:=M k
def NT(k:q)(M:Hq q->p:=by
 intro H;intro aa h₁;have ah:=(lz.refl bf).step h₁;have aA:Hid<|NC C ap aa.heap.size:=ah.new
 revert aa h₁ ah aA
 exact H.e):p:=M k
def NU(k:q)(M:Hq q->p:=by
 intro H;have bR:∀j,wr.frozen? (μ kb j)=false:=λj=>Y2 wr kb j _ 33 bG;have b2:=h_ st;have b1:=h_ eB
 revert bR b2 b1
 exact H.e):p:=M k
def Vk(M:p:=by
 have d10:=((aW.cell<|μ aI q).trans<|iJ q om).trans hD;have d20:=((aW.cell<|μ bg q).trans<|bD q om).trans hD;clear iJ bD hD
 go_wp2_with fail
 go_region
 all_goals go_wp2
 all_goals
  go_roundw
  case rel=>exact⟨q+1,om,gn,by first|exact(aW.setCell kb 4 (.bool false) _ 33 cv.o rfl).drew|exact aW.drew.setCell kb 4 (.bool false) _ 33 cv.o rfl⟩
  case measure=>simp[intOf];omega):p:=M
def NV(M:p:=by
 co_apply nK
 exact dp.o _ _ _ _ iF ⟨_,_,_,_,_,_,_,_,_,_,_,_,_,_,_,_,_,_,_,_,_,_,_,_,_,_,_,_,_,_,_,_,_,_,_,_,rfl⟩):p:=M
def SY(k:q)(M:Hq q->p:=by
 intro H;have cp:=h_<|jZ da.o aP;have hbx1:=(aP.block w.heap.size om).trans gv.o;have a6:=aP.size;obtain⟨b3,bS,b5,b4,b8,b9,b',b7,bX⟩:=kH hbx1;have eK:=h_ hbx1
 revert cp hbx1 a6 b3 bS b5 b4 b8 b9 b' b7 bX eK
 exact H.e):p:=M k
def NW(k:q)(M:Hq q->p:=by
 intro H;have bW:=λj=>aW.cell<|μ kb j;have bR:∀j,wr.frozen? (μ kb j)=false:=λj=>(aW.frozen<|μ kb j).trans (aT j)
 revert bW bR
 exact H.e):p:=M k
def NX(k:q)(M:Hq q->p:=by
 intro H;have dg:Hid<|n=xs.length:=dw;have HC:=h_ dz;have cH:=h_ dt;have dJ:=h_ cI
 revert dg HC cH dJ
 exact H.e):p:=M k
def SZ(k:q)(M:Hq q->p:=by
 intro H;obtain⟨x,hx⟩:∃x,af[n]?=some x:=⟨_,Yw mY⟩;have cY:=eI.o x<|ZQ hx;have e1:af.take (n+1)=af.take n++[x]:=m9 af n x hx
 revert x hx cY e1
 exact H.e):p:=M k
def NY(M:p:=by
 obtain⟨c,h40⟩:=eD.o j aR;obtain⟨Ls,h1,_⟩:=eF;obtain⟨c',h31⟩:=jU h1 j r;rw[h31]at h40
 simp at h40):p:=M
def NZ(k:q)(M:Hq q->p:=by
 intro H;obtain⟨Q,cV⟩:∃Q:Nat->Prop,Q=λg=>P g\/Value.ownBlock (.slice av n aw)=some g\/w.heap.size<=g:=⟨_,rfl⟩
 revert Q cV
 exact H.e):p:=M k
def Vm(M:p:=by
 refine⟨Rec.start gq hown dJ.o (λg hg=>by rw[cV];exact .inl hg) (λg hg=>by rw[cV];exact .inr<|.inl hg),?_,?_,?_,λg hg=>.inl hg,λg hg=>.inl hg⟩
 .rw[dN kb mY (λaR=>by
   obtain⟨c,h40⟩:=eD.o kb aR;rw[cv.o]at h40
   simp at h40),cv.o,cb]
 .intro c hc;simp at hc
 .exact dL.o.grown ah λg hg=>.inr<|.inl hg):p:=M
def S0(k:q)(M:Hq q->p:=by
 intro H;refine hw.o _ _ (pr _ _) (by rw[hfn,h0];exact Yq _ _ _ _) (λg hg=>by simp[Value.ownBlock]at hg) _ ?_;intro ag aG a1 bU cC bt aQ bV
 revert ag aG a1 bU cC bt aQ bV
 exact H.e):p:=M k
def N0(M:p:=by
 have hl:=e8.o2.lists;rw[hC,HQ.o]at hl;have hfn:=dg.o;subst hfn
 exact⟨rfl,bF,e8.book,hl,e8.pq,e8.oB⟩):p:=M
def N1(M:p:=by exact dp.o _ _ _ _ aC.o ⟨_,_,_,_,_,_,_,_,_,_,_,_,_,_,_,_,_,_,_,_,_,_,_,_,_,_,_,_,_,_,_,_,_,_,_,_,rfl⟩):p:=M
def Vn(k:q)(M:Hq q->p:=by
 intro H;obtain⟨gg,a4,ey,iz⟩:=mem_ready.1 hj
 have g7:∀e∈a4.after,Region.binds md e=true->e.on≠i:=λe he hb heq=>by
  have h1:=iz e he hb;have h0:=(mem_ready.1 hr).1;rw[heq]at h1;rcases Zj i aE.size with h'|h'
  .simp[h']at h0 h1;rw[h0]at h1;cases h1
  .simp[abC h']at h1
 revert gg a4 ey iz g7
 exact H.e):p:=M k
def Vo(k:q)(M:Hq q->p:=by
 intro H
 have g6:∀k ok,ops[k]?=some ok->k≠i->(aE.setIfInBounds j true).getD k true=false->(∀e∈ok.after,Region.binds md e=true->e.on≠i)->aY.apart ops ok=true:=λk ok hk hki hun hno=>by
  refine iy k ok hk hki ?_ hno;by_cases hjk:j=k
  .subst hjk;exact gg
  .rw[getD_set_ne true hjk]at hun;exact hun
 revert g6
 exact H.e):p:=M k
def S1(k:q)(M:Hq q->p:=by
 intro H;have dD:∀v,(dG.at dF (.inRegion cR (dU::dE)::bW)).finish v=dG.at (dF.put oc.dst v) (.inRegion cR dE::bW):=λv=>by rw[aa2,aO];rfl
 revert dD
 exact H.e):p:=M k
def J9(k:q)(M:Hq q->p:=by
 intro H;have e:((μ g 0):Addr).add j=(μ g j):=by by_cases h0:j=0<;>simp[Addr.add,h0]
 revert e
 exact H.e):p:=M k
def Vp(k:q)(M:Hq q->p:=by
 intro H;unfold u1;obtain⟨V,er,fp,i1,fo⟩:=WH w1 (ν T.fn) (ν T.kA) (ν T.l7) (ν T.cnt) (ν T.kd) (ν T.to_) (ν T.many)<|.slice a T.vals.length fT;have fm:=h_<|jZ gM fp;obtain⟨b3,bS,b5,b4,b8,b9,b',b7,bX⟩:=kq fo;have a6:=gM.size;have fU:=h_ (dY.o.below fm.o)
 revert V er fp i1 fo fm b3 bS b5 b4 b8 b9 b' b7 bX a6 fU
 exact H.e):p:=M k
def J_(M:p:=by
 obtain⟨s,_,M⟩:=Zg.1 M
 rw[<-YR M];rfl):p:=M
def S2(M:p:=by
 have gO:Hid<|oH (mh D T) s T=s:=by show _=_;unfold oH;rw[Ys om]
 rw[f]at bS;go_wp2
 go_ret2
 exact⟨by rw[gO.o,i3.o];rfl,hX.o,i2.o⟩):p:=M
def Vq(k:q)(M:Hq q->p:=by
 intro H
 refine Yx (v:=.tuple #[.agg #[ν 0,ν 0,ν 0,ν 0,ν 0,ν 0,ν 0,σ],.bool false]) (by simp[results,results142,go_sem]) rfl
  ⟨Pl.j6,σ,false,rfl,Yq _ _ _ _,?_,si,by simp[Pl.j6],mE (YL (jT (Below.refl _ _) _) _) (YC _) _ _ _ _ _ _ _ _⟩
 exact H.e):p:=M k
def Vr(k:q)(M:Hq q->p:=by
 intro H
 refine Yx (v:=.tuple #[.agg #[ν 0,ν 0,ν 0,ν 0,ν 0,ν 0,ν 0,σ],.bool false]) (by simp[results,results141,go_sem]) rfl
  ⟨Pl.j6,σ,false,rfl,Yq _ _ _ _,?_,si,by simp[Pl.j6],mE (YL (jT (Below.refl _ _) _) _) (YC _) _ _ _ _ _ _ _ _⟩
 exact H.e):p:=M k
def Vs(M:p:=by
 intro g hg;unfold lu.on lu.ints at hg
 rcases hg with r|r|r|r|r|(r|r|r)|(r|r|r)|(r|r|r)|(r|r|r)<;>first|exact .inl ND|exact(fB g r).elim (λr=>.inl ND) (λr=>.inr<|.inr r)|exact(r.1).elim (λr=>.inl ND) λr=>r.elim (λr=>.inl ND) λr=>.inr (.inr r)|simp[Value.ownBlock]at r):p:=M
def Vt(k:q)(M:Hq q->p:=by
 intro H;have hI:=h_<|ca.o.sL gt λk hk=>(ce.o.lt k hk).1;have bE:=(lC.refl (B:=0) (λ_ t=>t==77) ag).grown gt (λk hk=>⟨YG _,jU ce.o k hk⟩) λ_ _=>rfl;have hH:=h_ (ji.o.keep bE (λ_=>rfl) (λ_=>rfl) (λ_=>rfl) (λ_=>rfl) λ_=>rfl)
 revert hI bE hH
 exact H.e):p:=M k
def Qb(M:p:=by
 intro g hg;unfold lu.on lu.ints at hg;have hh:∀g,b.on kb g->g<w'.heap.size:=λg hg=>Yy (M.here g hg) hs
 rcases hg with r|r|r|r|r|(r|r|r)|(r|r|r)|(r|r|r)|(r|r|r)<;>first|exact hh g ND|exact(kL dO g r).elim λ_ M=>Yn M|exact r.2|simp[Value.ownBlock]at r):p:=M
def zS(M:p:=by
 go_wp2
 go_ret3
 exact⟨u5,n,bA,t,4,rfl,hown,HK,om,d'⟩):p:=M
def zT(M:p:=by exact(ca.o.setCell _ _ (.inl rfl)).setCell _ _ (.inl rfl)):p:=M
def Gs(M:p:=by
 unfold pM;by_cases e:i=k
 .rw[Ys e,Ys ⟨rfl,e⟩]
 .rw[Yo e,Yo λM=>e M.2]):p:=M
def Gt(k:q)(M:Hq q->p:=by
 intro H;have bo:bN w.heap.size=9:=by rw[bZ];exact mg (w:=X.drew) aC ao dc (kB w c 9 _ kM) dc
 revert bo
 exact H.e):p:=M k
def Qc(M:p:=by
 by_cases M:k<s.size
 .rw[abw M,Yt];have h2:k<s.data.toList.length:=by rw[Y0];exact M
  rw[Yw h2];rfl
 .rw[dif_neg M,Yt,ZF (by rw[Y0];exact abA M)]
  rfl):p:=M
def Qd(M:p:=by
 repeat' first|exact trivial|assumption|apply rW|with_reducible apply uk|with_reducible apply ul|with_reducible apply nw|with_reducible apply n0|with_reducible apply pt|with_reducible apply kF|with_reducible intro _|split|dsimp only|apply kF):p:=M
def Gu(k:q)(M:Hq q->p:=by
 intro H;have aT:∀j,w.frozen? (μ kb j)=false:=λj=>Y2 w kb j _ 33 aH;have cv:=h_ aH
 revert aT cv
 exact H.e):p:=M k
def Qe(M:p:=by
 rw[Y6];by_cases e:i*m+j=a*m+b
 .obtain⟨e1,e2⟩:=pos_eq hj hb e;subst e1;subst e2;rw[Ys rfl,Ys mY];simp
 .rw[Yo e];show _=some (if a=i/\b=j then v else f a b);rw[Yo (show¬(a=i/\b=j)from λx=>e<|by rw[x.1,x.2])]
  exact h3 a b ha hb):p:=M
def Cb(M:p:=by
 go_quiet (fail)
 go_wp2
 go_meet
 exact⟨by rw[dT.o],YL br _⟩):p:=M
def Cc(M:p:=by
 by_cases aF:am=s
 .subst aF;rw[lq,hs];rfl
 .rw[lZ _ aF]):p:=M
def J'(k:q)(M:Hq q->p:=by
 intro H;have mY:q<l.length:=(Yr.1 hx).1;have cE:l[q]=x:=by rw[Yw mY]at hx;exact YR hx
 revert mY cE
 exact H.e):p:=M k
def Qg(k:q)(M:Hq q->p:=by
 intro H;have hYg:=(ga.block w.heap.size<|li gb.size).trans<|(gb.block w.heap.size om).trans ao;have gW:Below w.heap.size w w3:=jZ (jZ ar gb) ga;have db:=jY hown ga;obtain⟨cj,c0,c1,c2,c3,c4,c5,c6,c7⟩:=kq hYg;clear hYg
 revert gW db cj c0 c1 c2 c3 c4 c5 c6 c7
 exact H.e):p:=M k
def Gv(k:q)(M:Hq q->p:=by
 intro H;have bh:Region.wanted o (yielded ops a.tmps)=true:=by simp[Region.wanted,hg]
 rw[Ys bh]
 revert bh
 exact H.e):p:=M k
def Gw(k:q)(M:Hq q->p:=by
 intro H;have HQ:Hid<|Q=λg=>P g\/Value.ownBlock (.slice av n aw)=some g\/w.heap.size<=g:=cV
 revert HQ
 exact H.e):p:=M k
def Gx(k:q)(M:Hq q->p:=by
 intro H;have bw:=cD.o.grow dc dc ek.o cw.o e9.o eE eC eA dy;have ej:=h_ bw
 revert bw ej
 exact H.e):p:=M k
def Qh(M:p:=by
 obtain⟨h2,h3⟩:=M w #[];unfold execOp;constructor
 .simp only[bs,hx,ax,Option.map_none,aaY,Zp,h3,Za,ZE]
 .simp only[bs,hx,ax,Option.map_none,aaY,ZG,h3,h2,ZH,Z7]):p:=M
def Qi(M:p:=by
 go_enter func132,ntmps132
 go_wp2
 refine Yx (v:=.tuple #[.agg z8,.int .u8 3]) (by simp[results,results132,go_sem]) rfl
  ⟨Pl.j6,σ,3,rfl,Yq _ _ _ _,.inl ⟨M,rfl,rfl⟩,by simp[Pl.j6],jT (jT br _) _⟩):p:=M
def Qj(M:p:=by
 by_cases gp:r<60
 .have t2:((q:Int)==2)=false:=so;go_wp2
  go_roundw
  case rel=>exact⟨q+1,aL,_,_,om,gn,rfl,om,dx.o⟩
  case measure=>simp[intOf];omega
 .go_wp2
  go_roundw
  case rel=>exact⟨q+1,aL,_,_,om,gn,rfl,om,dx.o⟩
  case measure=>simp[intOf];omega):p:=M
def Gy(k:q)(M:Hq q->p:=by
 intro H;have cz:Hid<|wrap64 ((j:Int)+1)=((j+1:Nat):Int):=by show _=_;simp only[wrap64];omega
 revert cz
 exact H.e):p:=M k
def Qk(k:q)(M:Hq q->p:=by
 intro H;refine⟨hF.os,hF.tape,hF.output,hF.size,λg hg hn=>hF.block g hg (λe=>hn<|.inl e) (λe=>hn<|.inr<|.inr<|.inr<|.inr<|.inl e) λe=>hn<|.inr<|.inr<|.inr<|.inr<|.inr<|.inr<|.inr<|.inr<|.inr<|.inl e,AY hF M.mw aN ai dc dc dc,?_⟩
 exact H.e):p:=M k
def Gz(M:p:=by
 have:=M.Cd i hi;unfold World.cell? at this⊢;simp only at this⊢
 rw[hl];exact this):p:=M
def GA(k:q)(M:Hq q->p:=by
 intro H;have kr:∀j,wr.cell? (μ kb j)=w.cell? (μ kb j):=λj=>aJ.cell (p:=μ kb j) mY
 revert kr
 exact H.e):p:=M k
def Ka(M:p:=by
 go_enter func114,ntmps114
 go_wp2_with fail
 go_quiet (fail)
 go_wp2;go_ret
 exact⟨rfl,YL (jT br _) _⟩):p:=M
def zU(M:p:=by rw[Yv,Zn];omega):p:=M
def Ql(k:q)(M:Hq q->p:=by
 intro H;have cf:Hid<|mV s0 s1 s2 s3 c M u q cx b↔(0<=c/\c<=s0)/\(0<=M/\M<=s2)/\(1<=u/\u<=247)/\(1<=q/\q<=4)/\(1<=b/\b<=8):=⟨λhc=>⟨hc.c,hc.h,hc.u,hc.n,hc.b⟩,λhc=>⟨fC.o,eJ.o,hc.1,hc.2.1,hc.2.2.1,hc.2.2.2.1,hc.2.2.2.2⟩⟩
 revert cf
 exact H.e):p:=M k
def Qm(M:p:=by
 go_wp2_with fail
 go_region
 all_goals go_wp2
 all_goals
  go_roundw
  case rel=>exact⟨q+1,om,gn,by first|exact(aW.setCell kb 4 (.bool false) _ 33 cv.o rfl).drew|exact aW.drew.setCell kb 4 (.bool false) _ 33 cv.o rfl⟩
  case measure=>exact mz):p:=M
def Qn(M:p:=by
 by_cases gp:r<60
 .have t2:((q:Int)==2)=false:=so;go_wp2
  go_roundw
  case rel=>exact⟨q+1,aL,_,_,om,gn,rfl,om,dx.o⟩
  case measure=>exact mz
 .go_wp2
  go_roundw
  case rel=>exact⟨q+1,aL,_,_,om,gn,rfl,om,dx.o⟩
  case measure=>exact mz):p:=M
def Qo(k:q)(M:Hq q->p:=by
 intro H;have aC:=bz.bk.lo.2;obtain⟨X,ae⟩:=j5<|w.alloc<|.cells #[ν s0,ν s1,ν s2,ν s3,ν cc,ν h,ν u,.slice ad n k,ν bb] 39;have ar:=ba ae;have bH:X.heap.size=w.heap.size+1:=by rw[ae];generalize Obj.cells _ _=o;simp
 have ao:=v' ae
 revert aC X ae ar bH ao
 exact H.e):p:=M k
def Kb(k:q)(M:Hq q->p:=by
 intro H;have cj:=xL F.s0 F.s1 F.s2 F.s3 t 60 hF.s0 hF.s1 hF.s2 hF.s3;have ii:aD.sz t=ue F.s0 F.s1 F.s2 F.s3 t:=nY ct.o
 revert cj ii
 exact H.e):p:=M k
def Qp(k:q)(M:Hq q->p:=by
 intro H;obtain⟨W,U⟩:=j5<|w.alloc<|.cells #[ν x.fn,ν x.kA,ν x.l7,ν x.cnt,ν x.kd,ν x.to_,ν x.many,.slice a n k] 144;have a2:=ba U;have bq:=v' U;have dY:=h_<|M.below a2;have dh:W.heap.size=w.heap.size+1:=by rw[U];simp
 revert W U a2 bq dY dh
 exact H.e):p:=M k
def Qq(k:q)(M:Hq q->p:=by
 intro H
 have fX:aq*ak<=ak/\(1-aq)*ak<=ak/\(∀i j,i<ak->j<ak->aq*ak+i≠(1-aq)*ak+j):=by
  rcases(show aq=0\/aq=1 by omega)with rfl|rfl
  .exact⟨om,om,λi j h1 h2=>by omega⟩
  .exact⟨om,om,λi j h1 h2=>by omega⟩
 revert fX
 exact H.e):p:=M k
def Kc(k:q)(M:Hq q->p:=by
 intro H;simp only[hj,decide_true,Y_];refine Tr.skip aj ?_;refine Tr.seq aj ?_;refine Tr.block aj ?_;refine Tr.seq aj ?_
 exact H.e):p:=M k
def Qr(k:q)(M:Hq q->p:=by
 intro H;rw[<-ef];obtain⟨aB,eg⟩:=j5 wr.heap.size;rw[<-eg];have fz:aB=w.heap.size:=by rw[eg,e7]
 have cX:∀k,k<w.heap.size->df.heap[k]?=w.heap[k]?:=λk hk=>by rw[ef,<-e7];exact YQ wr _ (by rw[e7];exact hk)
 revert aB eg fz cX
 exact H.e):p:=M k
def Kd(k:q)(M:Hq q->p:=by
 intro H;have h3:t≠3:=by rcases bQ with r|r<;>subst r<;>decide
 have h6:t≠163:=by rcases bQ with r|r<;>subst r<;>decide
 revert h3 h6
 exact H.e):p:=M k
def ig(k:q)(M:Hq q->p:=by
 intro H;have eo:Hid<|o7 aS (pY n i aS)<o7 aS i:=by show _<_;rw[hj];simpa using c9
 have fd:=h_ hj
 revert eo fd
 exact H.e):p:=M k
def Qu(k:q)(M:Hq q->p:=by
 intro H;refine⟨hF.os,hF.tape,hF.output,hF.size,λg hg hn=>hF.block g hg (λe=>hn<|.inl e) (λe=>hn<|.inr<|.inl e) λe=>hn<|.inr<|.inr<|.inr<|.inr<|.inr<|.inl<|.inr<|.inl e,AY hF M.mw aN ai dc dc dc,?_⟩
 exact H.e):p:=M k
def jv(k:q)(M:Hq q->p:=by
 intro H;have bp:Hid<|ky O B be N cur (.slice fE aS.length em) aS:=by rw[en];exact cH.o.drewN k2
 have ca:Hid<|lC B (uZ O N) w be:=by rw[en];exact iT.o.drewN k2
 have hL:=xC N _ em fE be bp.o.cell
 revert bp ca hL
 exact H.e):p:=M k
def Kf(M:p:=by
 rw[hst]at bf
 rcases(QuitsD.of_quitsIn bf).status with e|e<;>exact offersAt_of_not_blocked (by rw[e];simp) _ _):p:=M
def Qw(M:p:=by
 intro a' u ag e6 _ hd hr;obtain⟨rfl,hst⟩:=hr;have HG:=h_ hst;clear hst il io ij;go_wp2;refine Yx (v:=.bool true) ?_ hd ⟨rfl,HG.o⟩;rw[abv rfl]
 exact ZD (λx=>Result.ok x ag) e6):p:=M
def Qy(k:q)(M:Hq q->p:=by
 intro H;have mY:=(YU.1 hi).1;have gX:∀s,(st s).closed=false->∃a b,w.heap[C.c s]?=some (.chan 0 #[] false a b false):=λs hs=>by obtain⟨a,b,hc⟩:=M.chan s;rw[hs]at hc;exact⟨a,b,hc⟩
 revert mY gX
 exact H.e):p:=M k
def Qz(k:q)(M:Hq q->p:=by
 intro H;have dL:Hid<|no w df kb (.slice cW N cU)<|.slice av n aw:=by rw[ef];exact(aW.pq kb _ _).alloc _
 have hz1:w.heap.size<df.heap.size:=by rw[ef,<-e7];simp
 have dM:Hid<|aB=w.heap.size:=fz
 revert dL hz1 dM
 exact H.e):p:=M k
def QA(k:q)(M:Hq q->p:=by
 intro H;obtain⟨h1,h2,h3⟩:=Oper.apart_spec cI;have ex:∀(a:Act),lK P ops aY v a->∀u,lK P ops aY v<|a.put a4.dst u:=λa ax u=>ax.of_same (ab2 aY jG a a4.dst u h3) (wanted_put aY a a4.dst u h3)
 revert h1 h2 h3 ex
 exact H.e):p:=M k
def QB(M:p:=by
 intro a ha;subst ha;rcases aO.2 with⟨e,_⟩|⟨g,cap,cur,e,hg,hcur,_⟩
 .cases e
 .simp only[YN,Yz]at e;rw[e.1]
  exact⟨Yn hcur,λhb=>by have:=bz.bk.here g hb;omega⟩):p:=M
def GB(M:p:=by
 go_wp2
 go_end0
 exact⟨rfl,jH.o _ _ (nY fc.o.1) (by rw[fc.o.2])⟩):p:=M
def Kg(k:q)(M:Hq q->p:=by
 intro H;rw[<-er];refine(Ce V B c p D left safe bL bK T.kA T.l7 T.cnt fU.o gN jp jn).mono ?_
 exact H.e):p:=M k
def QC(k:q)(M:Hq q->p:=by
 intro H
 have g5:Region.ready md ops aE=[]:=by
  cases hr:Region.ready md ops aE with
  |nil=>rfl
  |cons x xs=>rw[hr]at hi;have mY:t%(x::xs).length<(x::xs).length:=ab4 _ si;simp at hi;simp at mY;omega
 revert g5
 exact H.e):p:=M k
def Kh(k:q)(M:Hq q->p:=by
 intro H;have a6:=aP.size;have dP:=(aP.block w.heap.size om).trans iL.o;have cp:=h_ (jZ iM.o aP)
 revert a6 dP cp
 exact H.e):p:=M k
def QD(M:p:=by
 have gO:Hid<|oH (mh D T) s T=s.extract 0 5:=by show _=_;unfold oH;rw[Yo om,Ys om]
 rw[f]at bS;have h5I:(5:Int)<=(s.size:Int):=om;go_wp2
 go_ret2
 exact⟨by rw[gO.o,i3.o];rfl,hX.o,i2.o⟩):p:=M
def QE(k:q)(M:Hq q->p:=by
 intro H;have hW:(x.l7:Int)+(q:Int)<(D.sz x.kA:Int):=om;have iX:((x.l7:Int)+(q:Int)).toNat=x.l7+q:=om;have iZ:IntKind.i64.wrap ((x.l7:Int)+(q:Int))=(x.l7:Int)+(q:Int):=wo;have iY:0<=(x.l7:Int)+(q:Int):=om
 revert hW iX iZ iY
 exact H.e):p:=M k
def QF(k:q)(M:Hq q->p:=by
 intro H
 have gY:dI.status=.running:=by
  cases mst with
  |one n=>exact Gb.running (λ_ _ _ M=>M.1) bC.1
  |two n f l=>exact Gb.running (nx P C z K f l) bC.1
  |wait f l=>exact absurd ⟨f,l,rfl⟩ fv
 revert gY
 exact H.e):p:=M k
def GC(k:q)(M:Hq q->p:=by
 intro H;have eh:=dx.o.grow dc dc ek.o cw.o e9.o hz hy hB eG
 revert eh
 exact H.e):p:=M k
def QG(k:q)(M:Hq q->p:=by
 intro H;have cK:m3 R i m u b={ks R b with uns:=0,wait:=[]}:=by unfold m3;rw[dl,hf,ah,Ys rfl,Ys rfl]
 have cJ:pN R i m u b safe=(ks R b).arr:=by unfold pN;rw[dl,hf,ah,Ys ⟨rfl,rfl⟩];rfl
 revert cK cJ
 exact H.e):p:=M k
def QH(M:p:=by
 show ν (if i=T.to_+q then dS else rQ D T q T.kd i)=ν (rQ D T (q+1) T.kd i);rw[zV,jK.o];by_cases e:i=T.to_+q
 .rw[Ys e,Ys ⟨rfl,e⟩]
 .rw[Yo e,Yo λM=>e M.2]):p:=M
def Ki(k:q)(M:Hq q->p:=by
 intro H;have HK:rJ s bA t 4:=⟨qY bY<|Pl.qZ s t<|.inr<|.inl aJ,by rw[aJ];rfl⟩
 revert HK
 exact H.e):p:=M k
def QI(k:q)(M:Hq q->p:=by
 intro H;have bj:∀W:b_,(Instr.makeSlice 114 (ν 64)<|ν 64).run prog W=.ok (.slice (some (μ W.heap.size 0)) 64 64) (W.alloc<|.cells (madeCells #[.int .u8 0] 64) 5):=λW=>wa 64 om W
 revert bj
 exact H.e):p:=M k
def QJ(k:q)(M:Hq q->p:=by
 intro H;have cw:Hid<|aB<=bv.heap.size:=aaV<|Yn bj;have du:=bu.pq.size;have cD:=h_ bu;have ek:Hid (∀g,w.heap.size<=g->Q g):=λg hg=>by rw[HQ.o];exact .inr (.inr hg)
 revert cw du cD ek
 exact H.e):p:=M k
def QL(M:p:=by
 have hpos:0<j:=Z0 λe=>hp<|.inl e;have:=M.old j y hpos (λs hs e=>hp<|.inr ⟨s,hs,e⟩) ax
 rcases this.status with e|e<;>exact offersAt_of_not_blocked (by rw[e];simp) _ _):p:=M
def QM(k:q)(M:Hq q->p:=by
 intro H;obtain⟨_,_,_,_,_,_,k0,_⟩:=bd.sb.cells a3;have ik:=Yn ao;obtain⟨T,eX⟩:=j5<|j' D;have dd:=h_ (EA bd.qB bd.ok bd.sb.cf bd.sb.cr bd.ll bd.bd bd.bn)
 revert k0 ik T eX dd
 exact H.e):p:=M k
def Kj(k:q)(M:Hq q->p:=by
 intro H;have dC:((⟨#[UInt8.ofNat u]⟩:a_)++b).size=1+b.size:=by rw[Zd];rfl
 revert dC
 exact H.e):p:=M k
def QN(k:q)(M:Hq q->p:=by
 intro H;refine Tr.shape (mkT:=λs=>vA s (s 0) (s 2) (π kb) (s 5) (.slice (some (μ gr 0)) L kr) (s 9) (s 10) (s 13) (s 14) (ν j) (s 16) (s 81) (s 90) (s 135) (s 139)<|s 161) rfl ?_
 exact H.e):p:=M k
def QO(M:p:=by
 obtain rfl:=og.inj hE ud.2;dsimp only[ud];have HC:=h_ hc;clear hc
 go_wp2_with fail
 refine HC.o.mono ?_;rintro e w1 ⟨rfl,hb⟩;have HB:=h_ hb;clear hb;go_wp2
 exact AV rfl HB.o):p:=M
def QP(M:p:=by
 rcases v with⟨_|⟨x,_|⟨y,_|⟨z,l⟩⟩⟩⟩
 .exact trivial
 .exact trivial
 .cases x<;>first|exact trivial|skip
  refine kF (xQ y) λn=>?_;exact lH
 .exact trivial):p:=M
def QQ(k:q)(M:Hq q->p:=by
 intro H;have hr:(execOp a.eval o).run P aa=.ok (.value v) aa:=by unfold execOp;simp only[bs,hx,Instr.loadAt,Instr.sureAddr,Zp,ZE,Za,nL hv ec]
 revert hr
 exact H.e):p:=M k
def Kk(k:q)(M:Hq q->p:=by
 intro H;have bo:bN w.heap.size=9:=by rw[bZ];exact mg (w:=X) aC ao dc (kB w c 9 _ kM) dc
 revert bo
 exact H.e):p:=M k
def QR(k:q)(M:Hq q->p:=by
 intro H;have eb:=h_<|nP D;have di:Hid<|left.length=q.p.rd.arr+1:=bd.qB.ll;have gR:Hid<|q.p.rd.arr<=300000:=by have:=bd.bd.pn;have:=bd.bn;show _<=_;omega
 have gV:=bd.bn
 revert eb di gR gV
 exact H.e):p:=M k
def QS(M:p:=by rw[Zp,h0,Za,Zp,isAgg42,Za,Ys rfl,Zp,sizeOf42,Za,Zp,hl,Za,ZE]):p:=M
def Kl(k:q)(M:Hq q->p:=by
 intro H;have ew:=hA.sb.rf.frame (k:=9) (w':=w1.drew) (Fc.jX br.drew) (mD.refl _ _) dc dc dc
 revert ew
 exact H.e):p:=M k
def QT(M:p:=by
 refine aaH ht s x t aO base e i cu bQ hi v n xs hs hown hx (M v w ?_ ⟨rfl,rfl,rfl,YC _,λ_ _ _=>rfl⟩)
 rw[Zy,YE];exact hown):p:=M
def QU(k:q)(M:Hq q->p:=by
 intro H;have gP:(Lib.byteCells<|N.data.toList.take m).length=m:=by rw[Z2,ZJ,<-Z'];have:m<=N.size:=(by rw[<-hm];exact acj _ _);omega
 revert gP
 exact H.e):p:=M k
def Km(k:q)(M:Hq q->p:=by
 intro H;simp only[aaZ,decide_false,YY,Y5];refine Tr.exit aj rfl ?_
 exact H.e):p:=M k
def QV(k:q)(M:Hq q->p:=by
 intro H;have hi:i<l.length:=(Yr.1 hx).1;have hj:j<l.length:=(Yr.1 ax).1;have ep:(i:Int)<(l.length:Int):=om;have ff:(j:Int)<(l.length:Int):=om
 revert hi hj ep ff
 exact H.e):p:=M k
def QW(k:q)(M:Hq q->p:=by
 intro H;have gw:(M:Int)= -(ch+1):=by rw[eI.o];unfold mj;rw[Ys hN];omega
 have en:IntKind.i64.wrap (ch+1)=ch+1:=wo;have dQ:IntKind.i64.wrap (-(ch+1))=(M:Int):=wo;clear gw
 revert en dQ
 exact H.e):p:=M k
def Ko(k:q)(M:Hq q->p:=by
 intro H;have cq:X.cell? (μ w.heap.size 2)=some (ν o.a):=(Yu _ _ _ _ _ _ ao).trans rfl
 revert cq
 exact H.e):p:=M k
def Kp(k:q)(M:Hq q->p:=by
 intro H;refine(Ce ag B c p D left safe bL bK T.kd T.to_ T.many fU.o dj jr jq).mono ?_
 exact H.e):p:=M k
def QX(M:p:=by
 go_enter func109,ntmps109
 go_wp2_with fail
 refine(q5 s _ hs).mono ?_;rintro e w' ⟨rfl,rfl⟩;rw[e'];clear e';go_wp2;go_ret
 exact⟨um<|nY HB.o,rfl⟩):p:=M
def QY(k:q)(M:Hq q->p:=by
 intro H;have dA:∀j,wr.cell? (μ aB j)=df.cell? (μ aB j):=λj=>ZL (ah.block aB (by rw[dM.o];exact hz1) (λe=>by have:=ei.o aB e.symm;have:=dM.o;omega))
 revert dA
 exact H.e):p:=M k
def QZ(M:p:=by
 rcases M.cls i a (by rw[touchAt_of jD];exact dH) hm with hk|⟨y,ax,hg,hp⟩
 .exact .inl λy ax=>(hk y ax).app _
 .exact .inr ⟨y,ax,by rw[g?_old hi];exact hg,hp⟩):p:=M
def Q0(M:p:=by
 rcases(show q=0\/q=1\/q=2\/q=3 by omega)with rfl|rfl|rfl|rfl
 .exact Kq _ _ _ _ W
 .exact Kr _ _ _ _ W
 .exact Ks _ _ _ _ W
 .exact Kt _ _ _ _ W):p:=M
def Q1(M:p:=by
 go_enter func28,ntmps28
 go_wp2_with fail
 refine(pb _ _ _ _ om).mono ?_;rintro e w1 ⟨rfl,rfl⟩;go_wp2;go_ret
 exact .inr ⟨cZ.o,rfl,rfl⟩):p:=M
def Q2(M:p:=by
 intro g hg;rcases M.2 with⟨rfl,_⟩|⟨g',cap,cur,rfl,hb,hh,_⟩
 .simp[Value.ownBlock]at hg
 .simp[Value.ownBlock]at hg;subst hg
  exact⟨cur,hh⟩):p:=M
def Q3(M:p:=by
 unfold execOp
 simp only[bs,resolve,invoke,builtin,Zp,ZE,Za,aaF,ZW,aas,hx,ax,gf]):p:=M
def Q4(M:p:=by
 rintro e ag ⟨rfl,rfl⟩
 go_wp2_with fail
 refine(pb _ _ _ _ om).mono ?_;rintro e w3 ⟨rfl,rfl⟩;go_wp2;go_ret
 exact .inr ⟨cZ.o,rfl,rfl⟩):p:=M
def Q5(M:p:=by
 obtain⟨hj,rfl⟩:=Yr.1 hp;rw[abp hj];unfold qC;rw[abi]
 simp only[M,Y_,Y5]):p:=M
def Ku(M:p:=by
 have:(i+1)*m<=n*m:=ZB m hi;rw[abT]at this
 omega):p:=M
def Q6(M:p:=by
 have:=AZ (W':=[]) (A':=[(1,0,0,⟨#[]⟩)]) hchk n s om;rw[Zy]at this
 rw[this,rX az n s bh.all om,hc.wet,YT]):p:=M
def GF(M:p:=by
 rw[YE]at this
 rw[hc _ om,this,cE];rfl):p:=M
def Q7(k:q)(M:Hq q->p:=by
 intro H;refine Tr.shape (mkT:=λs=>hA s (.slice a0 n k) (π kb) (π g) (s 5) (ω hb 5 5) (ν j) (s 8) (s 9) (s 30) (s 40) (s 51)<|s 75) rfl ?_
 exact H.e):p:=M k
def Q8(M:p:=by
 obtain⟨c,e,f,rfl⟩:=aO
 exact iv _ (λab N=>by simp only[Sem.run,n3,hr];rfl) (λab N al=>by simp only[Sem.events,Sem.runT,n3,hr])):p:=M
def GG(M:p:=by
 obtain rfl:=og.inj hE ud.2;dsimp only[ud]
 rfl):p:=M
def Q9(M:p:=by
 split at hf
 .split at hf<;>simp at hf
  subst hf;trivial
 .simp only[Except.error.injEq]at hf;subst hf;unfold World.noCell
  split<;>trivial):p:=M
def Kv(k:q)(M:Hq q->p:=by
 intro H;rw[show((List.range<|aD.sz t).map<|aD.ent t).length=aD.sz t by simp]
 exact H.e):p:=M k
def Q_(k:q)(M:Hq q->p:=by
 intro H;have e:findF (pcsUp D.ln n++[(n,(D.ln n).bytes)])=findF (pcsUp D.ln n)++findF [(n,(D.ln n).bytes)]:=by unfold findF;rw[abI]
 revert e
 exact H.e):p:=M k
def Q'(k:q)(M:Hq q->p:=by
 intro H;simp only[thenB,inBlockB,Y_,Y5,reduceIte,Nat.reduceEqDiff]
 exact H.e):p:=M k
def Ra(M:p:=by
 refine⟨n+1,jh,om,gn,?_,?_,jj.o,hI.o⟩
 .rw[iO.o,<-jl.o,Yv,YX];exact jk.o
 .rw[iO.o];exact hH.o):p:=M
def Rb(k:q)(M:Hq q->p:=by
 intro H;refine Tr.shape (mkT:=λs=>hA s (.slice a0 n k) (π kb) (π g) (s 5) (s 6) (s 7) (s 8) (s 9) (s 30) (s 40) (s 51)<|s 75) rfl ?_
 exact H.e):p:=M k
def Kw(M:p:=by rcases(show q=0\/q=1\/q=2\/q=3 by omega)with rfl|rfl|rfl|rfl<;>rfl):p:=M
def Kx(M:p:=by
 go_wp2
 go_ret2
 exact⟨by rw[cn.o,<-jo.o];rfl,jT fm.o _⟩):p:=M
def Rc(M:p:=by
 intro j hj;obtain⟨x,h1,h2,h3⟩:=cb j hj;refine⟨x,0,h1,h2,?_⟩
 rw[YF,h3 j om,EB,aaD,Ys hj]):p:=M
def Ky(M:p:=by
 go_enter func100,ntmps100
 go_wp2;go_ret
 exact⟨rfl,rfl⟩):p:=M
def Rd(M:p:=by
 obtain⟨v,h1,h2,h3⟩:=M.GH q l eT;refine⟨v,h1,jV h2 λg hg=>?_,h3⟩;obtain⟨cg,hcg⟩:=jU h2 g hg
 exact hne hcg dc):p:=M
def Re(M:p:=by
 have:(2:Int)^IntKind.u16.bits=65536:=rfl;simp only[IntKind.wrap,this,IntKind.signed,abS,YY,Y5]
 omega):p:=M
def KA(M:p:=by
 go_enter func53,ntmps53
 go_wp2;go_ret
 exact⟨rfl,rfl⟩):p:=M
def Rf(M:p:=by
 have:k.toNat<=s.size:=om
 simp[Instr.sliceAt,Instr.slice,Instr.sliceBounds,Instr.sliceBound,Zm M w,asIntOf,h0,h1,this]):p:=M
def Rg(M:p:=by simp[Instr.sliceAt,Instr.slice,Instr.sliceBounds,Instr.sliceBound,Zm M,asIntOf,h3,sizeOf,typeInfo,hi,hne,Addr.add,cj]):p:=M
def Rh(M:p:=by
 go_ret
 exact⟨Wy (by rw[iP.o];unfold kV;rw[Yo λM=>cZ.o (by rw[jm.o,iQ.o];exact M.1 q iR)];rfl),rfl⟩):p:=M
def KB(M:p:=by
 have:(i<q+1)=(i<q):=by apply propext;omega
 simp only[this]):p:=M
def KC(M:p:=by
 obtain⟨cg,hcg⟩:=jU M.wt g hg
 exact hne hcg dc):p:=M
def KD(M:p:=by
 obtain⟨cg,hcg⟩:=jU M.lf g hg
 exact hne hcg dc):p:=M
def Ri(M:p:=by
 go_wp2_with fail
 refine(pb _ _ _ _ om).mono ?_;rintro e w1 ⟨rfl,rfl⟩;go_wp2
 go_ret2
 exact⟨rfl,rfl⟩):p:=M
def Rj(M:p:=by
 go_wp2_with fail
 go_quiet (fail)
 go_wp2;go_ret;refine⟨?_,jg.out.drewN _,eH.out.drewN _⟩
 rw[HB.out];simp[iN]):p:=M
def KE(M:p:=by
 simp only[YS,YE]at this
 rw[this];rfl):p:=M
def Rl(M:p:=by
 show(np l s (some aX) am).isNone=(l am).isNone;by_cases aF:am=s
 .subst aF;simp[np,g0]
 .simp[np,aF]):p:=M
def KF(M:p:=by
 have:=ay.top y ax;show y.1<=((D.arr+1:Nat):Int)
 omega):p:=M
def Rm(M:p:=by
 go_wp2;go_ret
 exact⟨.inr ⟨λhc=>by have:=hc.sz q iS;rw[<-fD.o]at this;have:=cF.o;omega,rfl⟩,HB.o⟩):p:=M
def Rn(M:p:=by exact bP _ (hx _) _ _ (by intro e he;rcases abq.1 he with he|rfl;exact M e he;exact⟨si,si⟩)):p:=M
def Ro(M:p:=by
 simp[results,M,iA,asAddr]at he
 exact xR hb<|q7 hv (mF (h₁.keep b hb) hc) e he):p:=M
def Rp(M:p:=by
 rw[Yu _ _ _ _ _ _ M.dev]
 rcases(show i=0\/i=1\/i=2\/i=3 by omega)with rfl|rfl|rfl|rfl<;>rfl):p:=M
def Rq(M:p:=by
 rintro e w' ⟨v,rfl,hown,hb⟩;obtain⟨ad,c,rfl,_⟩:=i_ hown
 exact⟨_,rfl,ad,c,rfl,hown,hb⟩):p:=M
def Rr(M:p:=by
 intro f' b _ M;unfold stop oJ G at M;simp only[Goroutine.mk.injEq]at M;have:=M.2.1
 simp[B6,B0]at this):p:=M
def Rs(M:p:=by exact jV bp.o (λg hg=>by obtain⟨c,hc⟩:=jU bp.o g hg;exact dr g c 77 hc dc)):p:=M
def Rt(M:p:=by exact jV de.o (λg hg=>by obtain⟨c,hc⟩:=jU de.o g hg;exact dr g c 77 hc dc)):p:=M
def Ru(M:p:=by exact bP hx _ _ (by intro e he;rcases abq.1 he with he|rfl;exact M e he;exact⟨si,si⟩)):p:=M
def Rv(M:p:=by exact jV bp.o (λg hg=>by obtain⟨c,hc⟩:=jU bp.o g hg;exact dr g c 9 hc dc)):p:=M
def Rw(M:p:=by exact jV bp.o (λg hg=>by obtain⟨c,hc⟩:=jU bp.o g hg;exact dr g c 3 hc dc)):p:=M
def Rx(M:p:=by exact jV de.o (λg hg=>by obtain⟨c,hc⟩:=jU de.o g hg;exact dr g c 9 hc dc)):p:=M
def Ry(M:p:=by exact jV de.o (λg hg=>by obtain⟨c,hc⟩:=jU de.o g hg;exact dr g c 3 hc dc)):p:=M
def Rz(M:p:=by
 rintro e w1 ⟨rfl,rfl⟩;rw[<-HC.o];go_wp2;go_ret
 exact⟨by rw[jt.o];rfl,jT js.o _⟩):p:=M
def RA(M:p:=by
 rcases hu z jE with M|M
 .rw[M]at dH;cases dH
 .exact absurd (by simpa[Trace.g?,cj]using hg) M):p:=M
def RB(M:p:=by
 rename_i bh;simp only[bh]at M
 exact⟨ex a ax _,by rw[<-aa' a v undef h2];exact M⟩):p:=M
def RC(M:p:=by
 obtain⟨cg,hcg⟩:=jU aO g hg
 exact ai.block g (Yn hcg)<|km hcg M.dev he):p:=M
def RD(M:p:=by
 have:(if tj D (kv s).1 (kv s).2=true then D.uns+1 else D.uns)=0:=h0
 split at this<;>omega):p:=M
def RE(M:p:=by
 rw[YQ _ _ so,YQ _ _ so,YQ _ _ si]
 exact YO w _):p:=M
def RF(M:p:=by
 have:=M.Cd i hi;unfold World.cell? at this⊢;simp only at this⊢
 rw[hne fW dc];exact this):p:=M
def RG(M:p:=by
 have e:((μ bg 0):Addr).add j=(μ bg j):=by by_cases h0:j=0<;>simp[Addr.add,h0]
 rwa[e]at this):p:=M
def RH(M:p:=by
 show(m3 _ _ _ _ _).arr<=_;rw[hs.2,Yv,Zn]
 split<;>omega):p:=M
def RI(M:p:=by
 subst e;rw[M]at h';simp only[Yz,abf,ZV]at h'
 exact bQ h'.2):p:=M
def RJ(M:p:=by
 unfold UG at hm⊢;simp only[mM,Y3,Array.size_map]at hm⊢
 omega):p:=M
def RL(M:p:=by
 go_enter func163,ntmps163
 go_wp2;go_ret
 exact⟨up (by simp[h1,h2]),rfl⟩):p:=M
def RM(M:p:=by
 go_wp2;go_ret;refine⟨?_,?_⟩
 .rw[HQ.o];unfold rY;rfl
 .exact jT HB.o _):p:=M
def RN(M:p:=by
 subst e;rcases h9 _ bM with r|r
 .exact hY r
 .have:X.heap.size<=p.r:=r
  omega):p:=M
def RO(M:p:=by
 obtain⟨h6,h7⟩:=h5 ab N hs
 exact⟨by rw[cQ,e1,h6],λal=>by rw[fu,e2,h7]⟩):p:=M
def RP(M:p:=by
 have ju:(((1-aq)*ak+j:Nat):Int).toNat=aq*ak+i:=e;have:=fX.2.2 i j hi hj
 omega):p:=M
def RQ(M:p:=by
 rw[Ys rfl]at e;obtain rfl:=YR e;rw[upd_same]
 exact⟨ix,bC.2⟩):p:=M
def RS(M:p:=by
 show rQ D T (q+1) i k=rQ D T q i k
 rw[zV,Yo λM=>hne M.1]):p:=M
def RU(M:p:=by
 clear hz2 hG du;go_wp2;go_ret
 exact⟨up (by rw[HB.o];simp;omega),rfl⟩):p:=M
def RV(M:p:=by
 unfold UG at hm⊢;simp only[Y3,Array.size_map]
 omega):p:=M
def RW(M:p:=by
 rcases q3.2 with⟨_,e⟩|⟨gr,kr,cur,e,_⟩
 .omega
 .exact⟨gr,kr,e⟩):p:=M
def RX(M:p:=by
 have:=(ay an.kA<|an.l7+j).1;show mh D an an.kA (an.l7+j)=_
 omega):p:=M
def RY(M:p:=by
 obtain⟨cl,hcl⟩:=jU ia.o _ e
 exact km hcl HDV.o dc rfl):p:=M
def RZ(M:p:=by
 refine⟨q+1,om,?_,?_,trivial⟩
 .rw[iW.o];go_num
 .rw[this];go_num):p:=M
def R_(M:p:=by
 subst e;rcases hg with r|r
 .have:=Yn hb;omega
 .exact hc r):p:=M
def Sa(M:p:=by
 rcases hK.on g (lu.sO hg)with r|r
 .exact bz.hi g r
 .omega):p:=M
def Sb(M:p:=by
 rcases h3 with h3|h3
 .rw[jC]at h3;cases h3
 .rw[iw]at h3;cases h3):p:=M
def Sc(M:p:=by
 clear hz2 hG du;go_wp2;go_ret
 exact⟨up HB.o.symm,rfl⟩):p:=M
def uq{a0 b c:Prop}(h:b):a0\/b\/c:=.inr (.inl h)
def KG{a0 a1 b c:Prop}(h:b):a0\/a1\/b\/c:=.inr (.inr<|.inl h)
def Vu{a0 a1 c:Prop}(h:c):a0\/a1\/c:=.inr (.inr h)
def KH{a0 a1 a2 b c:Prop}(h:b):a0\/a1\/a2\/b\/c:=.inr (.inr<|.inr<|.inl h)
def WJ{a0 a1 a2 c:Prop}(h:c):a0\/a1\/a2\/c:=.inr (.inr<|.inr h)
def S3{a0 a1 a2 a3 b c:Prop}(h:b):a0\/a1\/a2\/a3\/b\/c:=.inr (.inr<|.inr<|.inr<|.inl h)
def A3{a0 a1 a2 a3 a4 b c:Prop}(h:b):a0\/a1\/a2\/a3\/a4\/b\/c:=.inr (.inr<|.inr<|.inr<|.inr<|.inl h)
def HE{a0 a1 a2 a3 a4 a5 b c:Prop}(h:b):a0\/a1\/a2\/a3\/a4\/a5\/b\/c:=.inr (.inr<|.inr<|.inr<|.inr<|.inr<|.inl h)
def zj{a0 a1 a2 a3 a4 a5 a6 b c:Prop}(h:b):a0\/a1\/a2\/a3\/a4\/a5\/a6\/b\/c:=.inr (.inr<|.inr<|.inr<|.inr<|.inr<|.inr<|.inl h)
def N3{a0 a1 a2 a3 a4 a5 a6 a7 b c:Prop}(h:b):a0\/a1\/a2\/a3\/a4\/a5\/a6\/a7\/b\/c:=.inr (.inr<|.inr<|.inr<|.inr<|.inr<|.inr<|.inr<|.inl h)
def WK{a0 a1 a2 a3 a4 a5 a6 a7 c:Prop}(h:c):a0\/a1\/a2\/a3\/a4\/a5\/a6\/a7\/c:=.inr (.inr<|.inr<|.inr<|.inr<|.inr<|.inr<|.inr h)
def N4{a0 a1 a2 a3 a4 a5 a6 a7 a8 b c:Prop}(h:b):a0\/a1\/a2\/a3\/a4\/a5\/a6\/a7\/a8\/b\/c:=.inr (.inr<|.inr<|.inr<|.inr<|.inr<|.inr<|.inr<|.inr<|.inl h)
def Vv{a0 a1 a2 a3 a4 a5 a6 a7 a8 c:Prop}(h:c):a0\/a1\/a2\/a3\/a4\/a5\/a6\/a7\/a8\/c:=.inr (.inr<|.inr<|.inr<|.inr<|.inr<|.inr<|.inr<|.inr h)
end
