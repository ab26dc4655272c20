/-
  For every script of operations of bulk at most 1048576, the law Devices of package latchlaw returns true: the devices of the script, and the document's device beside each of them, answer and keep alike at every step. Condition: the bound on what comes in.
-/
import Derived.Carry
import Derived.JoinedCond
import Derived.ShutString
import Derived.Test.YtcpldcojckhapaaGreatV14
set_option maxRecDepth 100000
namespace Go.Proofs.YtcpldcojckhapaaGreat.devices
open Go.ChangeShapes Go.WideShapes Go.ChangeAt Go.RowKit Go.Deep Go.Conc
theorem own:ownKnob Tryz.prog.godebug=none:=by kernel_rfl
theorem laidOut:laidOutB Tryz.prog=true:=by kernel_rfl
theorem start(v:Value):(#[v]++Array.replicate (Tryz.f3.ntmps-(#[v]:Array Value).size) undef:Array Value)=hA (fun _=>undef) v undef undef undef undef undef undef undef undef undef undef undef:=by
 rw[Tryz.ntmps3]
 kernel_rfl
theorem contract(H:Type)(enc:TypeId×Value→H)(W:World)(base:Nat)(args:Array Value)(ds gs:List (DataW H))(before:List MemPlace)
 (hval:∀(j:Nat) t v,Tryz.f3.params[j]?=some t→args[j]?=some v→Value.okWide Tryz.prog W .any base t v)
 (hW:DataW.Whole enc Tryz.prog Tryz.f3.params.toList Rows.devicesSpec.vars false W args.toList ds gs before) (hk:Rows.uptoSmall H (ds++gs)=true):
 ∃M last o w' t',runNT Tryz.prog (M+1) (solo (G (Frame.enter Tryz.prog 3 args .normal) []) W) #[]=(.ended o w',t')∧runN Tryz.prog M (solo (G (Frame.enter Tryz.prog 3 args .normal) []) W)= .next last∧step Tryz.prog last= .ended o w'∧
  Go.Conc.Good Tryz.prog (fun v W'=>Rows.devicesSpec.post enc Tryz.prog Tryz.f3 false true false false W.blind args v W'.blind) last o w' t':=by
 have hW':=hW
 obtain⟨p,q,hA0,hV,rfl,hfz,hnd⟩:=hW
 have hA:DataW.TrodAll enc Tryz.prog W 0 (fun _=>true) true Tryz.f3.params.toList args.toList ds p:=hA0
 rw[Tryz.params3]at hA hval
 obtain⟨v0,vs0,d0,ds0,p0,q0,hargs,rfl,rfl,h0,r0⟩:=trodAll_cons hA
 obtain⟨rfl,rfl,rfl⟩:=trodAll_nil r0
 obtain rfl:args=#[v0]:=by cases args;simp_all
 obtain⟨rfl,rfl⟩:=trodVars_none hV
 have k0:=h0
 have TK:∀x∈p0,x.block<W.heap.size:=by obtain⟨m,hm⟩:=k0;exact DataW.trod_lt m _ _ _ hm
 have hkb:Rows.uptoBulkAll ([d0]++[])≤1048576:=by
  unfold Rows.uptoSmall at hk
  exact of_decide_eq_true hk
 simp only[List.append_nil,Rows.uptoBulkAll]at hkb
 obtain⟨a0,n,k,ops,rfl,hin⟩:=NB (hval 0 22 v0 rfl rfl) h0 (by omega)
 obtain⟨E,hE⟩:=V9
 have hT:=UE hE (k:=k) hin (fun _=>undef)
 refine No (b:=3) (c:=Tryz.f3) (o:=2) (e:=E.body) Tryz.func3 hE Tryz.results3 (by kernel_rfl) (t:=Heap W) ⟨rfl,rfl,rfl⟩ ?_
 rw[start]
 refine hT.bind fun gs w' t hEn=>oe.here ?_
 obtain⟨a,k,hd,hB,h6,hs,hlow,hos,hou⟩:=hEn
 refine⟨a,k,hd,hB,fun dd=>?_⟩
 rw[h6]
 have nD:Below W.heap.size W (rt w' W.tape 0):=⟨hos,rfl,hou,hs,hlow⟩
 have hp:Rows.devicesSpec.post enc Tryz.prog Tryz.f3 false true false false W #[.slice a0 n _] (.bool true) (rt w' W.tape 0):=
  ⟨_,_,_,[],_,[],hW',trodAll_mk1 (shut_bool Tryz.underlying4 _),(trodAll_cons_mk (Below.trod laidOut (by kernel_rfl) (of_decide_eq_true (by kernel_rfl)) k0 nD TK) trodAll_mk0),rfl,nD.frame _,fun h=>by cases h⟩
 have hbl:(w'.at dd).blind=(rt w' W.tape 0).blind:=rfl
 rw[hbl]
 exact ChangeSpec.post_blind hp
theorem lifted(os:Os)(started:os.Started)(H:Type)(enc:TypeId×Value→H)(F:Stop.Interp):
 ReturnsInLeavingWide {} Tryz.checked os 3 .any ((Rows.OpenSpec.upto Rows.devicesSpec).pre6 enc Tryz.prog Tryz.f3 Rows.devicesUptoRow.domain false) (((Rows.OpenSpec.upto Rows.devicesSpec).at F).post enc Tryz.prog Tryz.f3 false true false false):=by
 refine returnsInLeavingWide_of_good own started
  (OpenSpec.witness (enc:=enc) (C:=Tryz.checked) (s:=Rows.OpenSpec.upto Rows.devicesSpec) (k:=Rows.uptoSmall) rfl false ⟨#[],#[.slice none 0 0],[]⟩ 8 (by kernel_rfl) (by kernel_rfl) (by kernel_rfl)
   (x:=([.nil],[],[])) (by kernel_rfl) rfl (by kernel_rfl)) ?_
 intro w tape i _ _ _ hok hpre _
 obtain⟨_,_,_,fn',hfn',_,_,_,_,hval⟩:=hok
 have e:fn'=Tryz.f3:=Option.some.inj (hfn'.symm.trans Tryz.func3)
 subst e
 obtain⟨ds,gs,before,hw,_,hkk⟩:=(OpenSpec.pre_some (s:=Rows.OpenSpec.upto Rows.devicesSpec) (k:=Rows.uptoSmall) rfl Rows.devicesUptoRow.domain false _ _).1 hpre.1
 have hw':=DataW.Whole.of_heap (w':=w.forCall tape i) (by rfl) hw
 exact contract H enc (w.forCall tape i) w.heap.size i.args ds gs before hval hw' hkk
theorem over:Rows.devicesUptoRow.holds Tryz.pinned (Rows.OpenSpec.upto Rows.devicesSpec):=by
 refine⟨by kernel_rfl,rfl,rfl,rfl,laidOut,by kernel_rfl,?_,?_,3,Tryz.f3,by kernel_rfl,Tryz.func3,of_decide_eq_true (by kernel_rfl),(fun h=>by cases h),by kernel_rfl,of_decide_eq_true (by kernel_rfl),?_,by kernel_rfl,⟨by kernel_rfl,by kernel_rfl,by kernel_rfl⟩,by kernel_rfl,by kernel_rfl,by kernel_rfl,by kernel_rfl,by kernel_rfl,⟨by kernel_rfl,by kernel_rfl,by kernel_rfl⟩,⟨by kernel_rfl,by kernel_rfl⟩,⟨by kernel_rfl,by kernel_rfl,by kernel_rfl,by kernel_rfl⟩,⟨by kernel_rfl,by kernel_rfl,by kernel_rfl,by kernel_rfl⟩,by kernel_rfl,?_,?_,[],?_,?_⟩
 ·show Tryz.prog.mayEnter=true
  kernel_rfl
 ·exact⟨rfl,rfl,rfl,rfl,rfl,rfl,rfl⟩
 ·unfold Func.isWrapper
  first|(rw[if_pos (by decide+kernel)];kernel_rfl)|(rw[if_neg (by decide+kernel)];exact⟨rfl,rfl⟩)
 ·intro n hn
  cases hn
 ·exact⟨_,WideRow.started_initial,fun k hk=>by cases hk⟩
 ·rfl
 ·intro os st hq H enc inj
  rw[OpenClaim.post_not_still rfl]
  intro F
  exact lifted os st H enc F (by kernel_rfl)
end Go.Proofs.YtcpldcojckhapaaGreat.devices
namespace Go.Proofs.YtcpldcojckhapaaGreat
theorem devices_holds:Rows.DevicesUptoSaid:=devices.over
#print axioms devices_holds
end Go.Proofs.YtcpldcojckhapaaGreat
