/-
  
-/
import Derived.Test.YtcpldcojckhapaaGreatZ9
import Derived.Conc.DeferLaws
import Derived.Conc.TokenWalk
import Derived.Conc.AppendWalk
import Derived.Test.YtcpldcojckhapaaGreatJ10
namespace Go.Proofs.YtcpldcojckhapaaGreat
open Go.Conc
variable {P : Program} {main : Bool} {w : World}
def b0 (P : Program) : Frame := { (default : Frame) with fn := P.funcs.size, mode := .panicking [goexitEntry] }
theorem stepG_born {f : FuncId} {args : Array Value} {fn : Func} {c : Code} (hf : P.funcs[f]? = some fn) (hname : (fn.name == "runtime.NumGoroutine") = false) (hb : fn.body = some c) :
    stepG P main (born P (dcall f args)) w = .go (G ((baseD f).at { tmps := args ++ Array.replicate (fn.ntmps - args.size) undef, defers := [] } [.code c]) [b0 P]) w #[] := by
  have h1 : ¬ fn.name = "runtime.NumGoroutine" := by simpa using hname
  rw [<- enter_atD args hf hb]
  have hd : (default : Frame).defers = [] := rfl
  simp [hd, born, G, stepG, unwind, callDeferred, dcall, invoke, callFunc, hf, h1, hb, GStep.after, seen_none, b0]
theorem quits_b0 : QuitsIn P 1 (G (b0 P) []) := by
  refine .inr ⟨rfl, { frame := b0 P, callers := [], status := .finished, dying := none }, fun w => ?_, rfl⟩
  have hd : (default : Frame).defers = [] := rfl
  have ht : (default : Frame).todo = [] := rfl
  simp [hd, ht, G, stepG, unwind, b0, goexitEntry, Frame.catches]
theorem quits_leave {f : FuncId} {fn : Func} {a : Act} {todo : List Item} (hd : a.defers = []) (hf : P.funcs[f]? = some fn) (hr : fn.results = #[]) : QuitsIn P 2 (G { (baseD f).at a todo with mode := .returning } [b0 P]) := by
  refine .inr ⟨rfl, G (b0 P) [], fun w => ?_, quits_b0⟩
  simp [G, stepG, unwind, doReturn, Frame.at, baseD, hd, hf, results_none hr, events_results_none hr, b0, goexitEntry, seen, GStep.after]
def dclose (ats : Array TypeId) (ty : TypeId) (cn : Array Bool) (c : Nat) : Deferred := { target := .builtin .close ats ty cn, args := #[.chan (some c)] }
theorem step_close {f : FuncId} {a : Act} {todo : List Item} {cs : List Frame} {ats : Array TypeId} {ty : TypeId} {cn : Array Bool} {c cap s r : Nat} {buf : Array Value} {tm : Bool} (hd : a.defers = [dclose ats ty cn c]) (hc : w.heap[c]? = some (.chan cap buf false s r tm)) (hq : (P.funcs[f]?).any (·.norace) = false) :
    stepG P main (G { (baseD f).at a todo with mode := .returning } cs) w = .go (G { (baseD f).at ⟨a.tmps, []⟩ todo with mode := .returning } cs) (w.setChan c cap buf true s r tm) #[⟨.obj c, false, true⟩, ⟨.obj c, true, true⟩] := by
  have hr : (invoke (.builtin .close ats ty cn) #[.chan (some c)]).run P w = .ok (.value (.tuple #[])) (w.setChan c cap buf true s r tm) := by
    simp [invoke, go_sem, run_close_open _ _ hc, World.setChan]
  have he : (invoke (.builtin .close ats ty cn) #[.chan (some c)]).events P w #[] = #[⟨.obj c, false, true⟩, ⟨.obj c, true, true⟩] := by
    simp [invoke, go_sem, events_close_open _ _ hc]
  have hs : seen P f #[⟨.obj c, false, true⟩, ⟨.obj c, true, true⟩] = #[⟨.obj c, false, true⟩, ⟨.obj c, true, true⟩] := seen_eq hq (by intro e he f; simp only [List.mem_toArray, List.mem_cons, List.not_mem_nil, or_false] at he; rcases he with rfl | rfl <;> simp)
  simp [G, stepG, unwind, callDeferred, Frame.at, baseD, hd, dclose, hr, he, hs, GStep.after]
theorem stepG_deferC {b : Frame} {a : Act} {k : List Item} {cs : List Frame} {ops : Array Oper} {i : Nat} {rest : List Nat} {o : Oper} {t : Tmp} {ats : Array TypeId} {c : Nat} (ho : ops[i]? = some o) (hw : Region.wanted o (yielded ops a.tmps) = true) (hk : b.kind ≠ .early)
    (hop : o.op = .defer { callee := .builtin .close, args := #[.tmp t], argTypes := ats }) (hx : a.eval (.tmp t) = .chan (some c)) :
    stepG P main (G (b.at a (.inRegion ops (i :: rest) :: k)) cs) w = .go (G (b.at (Act.put ⟨a.tmps, dclose ats o.type #[false] c :: a.defers⟩ o.dst undef) (.inRegion ops rest :: k)) cs) w #[] := by
  have hr : (execOp a.eval o).run P w = .ok (.defer (dclose ats o.type #[false] c)) w := by
    unfold execOp
    simp [hop, resolve, hx, dclose]
  have he : (execOp a.eval o).events P w #[] = #[] := by
    unfold execOp
    simp [hop, resolve]
  have hfin : (b.at ⟨a.tmps, dclose ats o.type #[false] c :: a.defers⟩ (.inRegion ops (i :: rest) :: k)).finish undef = b.at (Act.put ⟨a.tmps, dclose ats o.type #[false] c :: a.defers⟩ o.dst undef) (.inRegion ops rest :: k) := by rw [Frame.finish_at, ho]; rfl
  have hk' : (b.kind == CallKind.early) = false := by simpa using hk
  rw [stepG_oper ho hw, <- hfin]
  simp [stepG.apply, hr, he, G, Frame.at, hk', GStep.after, seen_none]
theorem atClose {C : Ch} {s : Bool} {f : FuncId} {fn : Func} {a : Act} {todo : List Item} {ats : Array TypeId} {ty : TypeId} {cn : Array Bool} (hd : a.defers = [dclose ats ty cn (C.c s)]) (hf : P.funcs[f]? = some fn) (hr : fn.results = #[]) (hq : fn.norace = false) :
    AtCloseL P C s (G { (baseD f).at a todo with mode := .returning } [b0 P]) w := by
  refine ⟨rfl, rfl, _, 2, fun x y tm hc => ?_, quits_leave (a := ⟨a.tmps, []⟩) (todo := todo) rfl hf hr⟩
  exact step_close hd hc (by simp [hf, hq])
theorem atSendB {C : Ch} {s : Bool} {b : Frame} {a : Act} {k : List Item} {cs : List Frame} {ops : Array Oper} {i : Nat} {rest : List Nat} {o : Oper} {x y : Operand} {v : Value} {mine : List Nat} {Next : List Nat -> Goroutine -> World -> Prop} (ho : ops[i]? = some o) (hw : Region.wanted o (yielded ops a.tmps) = true) (hk : b.kind ≠ .early)
    (hop : o.op = .send x y) (hx : a.eval x = .chan (some (C.c s))) (hy : a.eval y = v) (hn : Next mine (G (b.at (a.put o.dst undef) (.inRegion ops rest :: k)) cs) w) : AtSendL P C s v Next mine (G (b.at a (.inRegion ops (i :: rest) :: k)) cs) w := by
  have hr : (execOp a.eval o).run P w = .ok (.comm #[scase (C.c s) v (.tuple #[])] true .send) w := by
    unfold execOp
    simp [hop, hx, hy, scase]
  have he : (execOp a.eval o).events P w #[] = #[] := by
    unfold execOp
    simp [hop]
  refine ⟨rfl, G (b.at a (.inRegion ops (i :: rest) :: k)) cs, .tuple #[], ?_, ?_⟩
  . rw [stepG_comm ho hw hk hr, listed_nil he]
  . have hfin : (b.at a (.inRegion ops (i :: rest) :: k)).finish undef = b.at (a.put o.dst undef) (.inRegion ops rest :: k) := by rw [Frame.finish_at, ho]; rfl
    have : Conc.served (G (b.at a (.inRegion ops (i :: rest) :: k)) cs) undef = G (b.at (a.put o.dst undef) (.inRegion ops rest :: k)) cs := by
      unfold Conc.served G
      simp only [hfin]
    rw [this]
    exact hn
end Go.Proofs.YtcpldcojckhapaaGreat

namespace Go.Proofs.YtcpldcojckhapaaGreat
open Go.Conc
variable {P : Program} {C : Ch} {main : Bool} {a : Act} {mine : List Nat} {w : World} {ops : Array Oper} {i : Nat} {rest : List Nat} {o : Oper} {n : Nat} {b : Frame} {k : List Item} {cs : List Frame} {Stop : List Nat -> Goroutine -> World -> Prop}
theorem gbo_cons (ho : ops[i]? = some o) (hw : Region.wanted o (yielded ops a.tmps) = true) (hk : b.kind ≠ .early)
    (h : ∀ w₁, Rel C mine w w₁ -> uponK o a (fun a' w' => Gua C mine w₁ w' (listed P b.fn a o w₁) /\ Gb P C main Stop n (grow mine w₁ w') (G (b.at a' (.inRegion ops rest :: k)) cs) w') ((execOp a.eval o).run P w₁)) : Gb P C main Stop (n + 1) mine (G (b.at a (.inRegion ops (i :: rest) :: k)) cs) w := by
  refine .inr ⟨rfl, fun w₁ h₁ => ?_⟩
  have h2 := h w₁ h₁
  cases hr : (execOp a.eval o).run P w₁ with
  | ok x w' =>
    rw [hr] at h2
    cases x with
    | value v => exact ⟨_, w', _, stepG_value ho hw hk hr, rfl, h2.1, h2.2⟩
    | skip => exact ⟨_, w', _, stepG_none ho hw hk hr, rfl, h2.1, h2.2⟩
    | _ => exact h2.elim
  | halt _ _ => rw [hr] at h2; exact h2.elim
theorem gbo_pure {v : Value} (ho : ops[i]? = some o) (hw : Region.wanted o (yielded ops a.tmps) = true) (hk : b.kind ≠ .early) (hr : ∀ (w : World) (K : Result Next -> Prop), K (.ok (.value v) w) -> K ((execOp a.eval o).run P w)) (he : ∀ w : World, (execOp a.eval o).events P w #[] = #[])
    (h : Gb P C main Stop n mine (G (b.at (a.put o.dst v) (.inRegion ops rest :: k)) cs) w) : Gb P C main Stop (n + 1) mine (G (b.at a (.inRegion ops (i :: rest) :: k)) cs) w := by
  refine gbo_cons ho hw hk fun w₁ h₁ => ?_
  rw [run_eq_of (hr w₁)]
  refine ⟨?_, by rw [grow_self]; exact h.rel h₁⟩
  rw [listed_nil (he w₁)]
  exact .idle ..
theorem gbo_load (ho : ops[i]? = some o) (hw : Region.wanted o (yielded ops a.tmps) = true) (hk : b.kind ≠ .early) {ty : TypeId} {x : Operand} (hop : o.op = .load ty x) {bl off : Nat} (hx : a.eval x = .pointer (some ⟨bl, off, none⟩))
    {vs : List Value} {v : Value} (hb : Shared C bl ∨ bl ∈ mine) (hc : w.rangeAt bl off vs) (hv : LoadIs P ty vs v) (h : Gb P C main Stop n mine (G (b.at (a.put o.dst v) (.inRegion ops rest :: k)) cs) w) : Gb P C main Stop (n + 1) mine (G (b.at a (.inRegion ops (i :: rest) :: k)) cs) w := by
  refine gbo_cons ho hw hk fun w₁ h₁ => ?_
  have hc' := rangeAt_same (h₁.keep bl hb) hc
  have hr : (execOp a.eval o).run P w₁ = .ok (.value v) w₁ := by
    unfold execOp
    simp only [hop, hx, Instr.loadAt, Instr.sureAddr, Sem.run_bind, Sem.run_pure, Result.andThen_ok, loadVar_is hv hc']
  rw [hr]
  refine ⟨.read fun e he => ?_, by rw [grow_self]; exact h.rel h₁⟩
  have hm := mem_listed he
  unfold execOp at hm
  simp only [hop, hx, Instr.loadAt, Instr.sureAddr, Sem.events_bind, Sem.run_bind, Sem.run_pure, Result.andThen_ok, Result.evThen_ok, Sem.events_pure, loadVar_is hv hc'] at hm
  exact evM_read hb (loadVar_ev hv hc' e hm)
theorem gbo_region {id : Nat} (h : Gb P C main Stop n mine (G (b.at a (.inRegion ops (List.range ops.size) :: k)) cs) w) : Gb P C main Stop (n + 1) mine (G (b.at a (.code (.region id ops false) :: k)) cs) w := Gb.ctl rfl rfl (fun _ => stepG_region) h
theorem gbo_nil (h : Gb P C main Stop n mine (G (b.at a k) cs) w) : Gb P C main Stop (n + 1) mine (G (b.at a (.inRegion ops [] :: k)) cs) w := Gb.ctl rfl rfl (fun _ => stepG_region_end) h
theorem gbo_unwanted (ho : ops[i]? = some o) (hw : Region.wanted o (yielded ops a.tmps) = false) (h : Gb P C main Stop n mine (G (b.at (a.put o.dst undef) (.inRegion ops rest :: k)) cs) w) : Gb P C main Stop (n + 1) mine (G (b.at a (.inRegion ops (i :: rest) :: k)) cs) w := Gb.ctl rfl rfl (fun _ => stepG_unwanted ho hw) h
theorem gbo_seq {x y : Code} (h : Gb P C main Stop n mine (G (b.at a (.code x :: .code y :: k)) cs) w) : Gb P C main Stop (n + 1) mine (G (b.at a (.code (.seq x y) :: k)) cs) w := Gb.ctl rfl rfl (fun _ => stepG_seq) h
theorem gbo_skip (h : Gb P C main Stop n mine (G (b.at a k) cs) w) : Gb P C main Stop (n + 1) mine (G (b.at a (.code .skip :: k)) cs) w := Gb.ctl rfl rfl (fun _ => stepG_skip) h
theorem gbo_block {id : Nat} {c : Code} (h : Gb P C main Stop n mine (G (b.at a (.code c :: .inBlock id :: k)) cs) w) : Gb P C main Stop (n + 1) mine (G (b.at a (.code (.block id c) :: k)) cs) w := Gb.ctl rfl rfl (fun _ => stepG_block) h
theorem gbo_inBlock {id : Nat} (h : Gb P C main Stop n mine (G (b.at a k) cs) w) : Gb P C main Stop (n + 1) mine (G (b.at a (.inBlock id :: k)) cs) w := Gb.ctl rfl rfl (fun _ => stepG_inBlock) h
theorem gbo_loop {c : Code} (h : Gb P C main Stop n mine (G (b.at a (.code c :: .inLoop c :: k)) cs) w) : Gb P C main Stop (n + 1) mine (G (b.at a (.code (.loop c) :: k)) cs) w := Gb.ctl rfl rfl (fun _ => stepG_loop) h
theorem gbo_inLoop {c : Code} (h : Gb P C main Stop n mine (G (b.at a (.code c :: .inLoop c :: k)) cs) w) : Gb P C main Stop (n + 1) mine (G (b.at a (.inLoop c :: k)) cs) w := Gb.ctl rfl rfl (fun _ => stepG_inLoop) h
theorem gbo_exit {id : Nat} {k' : List Item} (hk : exitTo id k = some k') (h : Gb P C main Stop n mine (G (b.at a k') cs) w) : Gb P C main Stop (n + 1) mine (G (b.at a (.code (.exit id) :: k)) cs) w := Gb.ctl rfl rfl (fun _ => stepG_exit hk) h
theorem gbo_cond {c : Operand} {x y : Code} {t : Bool} (hc : a.eval c = .bool t) (h : Gb P C main Stop n mine (G (b.at a (.code (if t then x else y) :: k)) cs) w) : Gb P C main Stop (n + 1) mine (G (b.at a (.code (.cond c x y) :: k)) cs) w := Gb.ctl rfl rfl (fun _ => stepG_cond hc) h
theorem gbo_end (h : Gb P C main Stop n mine (G { b.at a [] with mode := .returning } cs) w) : Gb P C main Stop (n + 1) mine (G (b.at a []) cs) w := Gb.ctl rfl rfl (fun _ => stepG_end) h
theorem gbo_alloc (ho : ops[i]? = some o) (hw : Region.wanted o (yielded ops a.tmps) = true) (hk : b.kind ≠ .early) {ty : TypeId} (hop : o.op = .alloc ty) {z : Value} (hz : ∀ w, (zeroValue ty).run P w = .ok z w)
    (h : ∀ w₁, Rel C mine w w₁ -> Gb P C main Stop n (w₁.heap.size :: mine) (G (b.at (a.put o.dst (.pointer (some ⟨w₁.heap.size, 0, none⟩))) (.inRegion ops rest :: k)) cs) (w₁.alloc (.cells z.cells ty (0, 0)))) : Gb P C main Stop (n + 1) mine (G (b.at a (.inRegion ops (i :: rest) :: k)) cs) w := by
  refine gbo_cons ho hw hk fun w₁ h₁ => ?_
  have hn : ∀ x, (newObj x).run P w₁ = .ok w₁.heap.size (w₁.alloc x) := fun _ => rfl
  have hr : (execOp a.eval o).run P w₁ = .ok (.value (.pointer (some ⟨w₁.heap.size, 0, none⟩))) (w₁.alloc (.cells z.cells ty (0, 0))) := by
    unfold execOp
    simp only [hop, Instr.alloc, newVar, newRow, Sem.run_bind, hz, Result.andThen_ok, hn, Sem.run_pure]
  have he : (execOp a.eval o).events P w₁ #[] = #[] := by
    unfold execOp
    simp only [hop, Instr.alloc, newVar, newRow, Sem.events_bind, Sem.run_bind, hz, Result.andThen_ok, hn, Sem.run_pure, Result.evThen_ok, Sem.events_pure, events_newObj, events_zeroValue]
  rw [hr]
  exact ⟨by rw [listed_nil he]; exact .alloc _, by rw [grow_alloc]; exact h w₁ h₁⟩
theorem gbo_store (ho : ops[i]? = some o) (hw : Region.wanted o (yielded ops a.tmps) = true) (hk : b.kind ≠ .early) {ty : TypeId} {x y : Operand} (hop : o.op = .store ty x y) {bl : Nat} {v : Value} (hx : a.eval x = .pointer (some ⟨bl, 0, none⟩)) (hy : a.eval y = v)
    {cur : Array Value} {t : TypeId} (hb : bl ∈ mine) (hc : w.heap[bl]? = some (.cells cur t (0, 0))) (hs : cur.size = v.cells.size) (hi : (P.info? ty).map (·.size) = some v.cells.size) (h1 : v.cells.all (·.oneCell') = true)
    (h : ∀ w₁, Rel C mine w w₁ -> Gb P C main Stop n mine (G (b.at (a.put o.dst undef) (.inRegion ops rest :: k)) cs) (w₁.setRow bl v.cells)) : Gb P C main Stop (n + 1) mine (G (b.at a (.inRegion ops (i :: rest) :: k)) cs) w := by
  have hO : OpB P C main b.fn ops 0 i (fun a' m' w' => Gb P C main Stop n m' (G (b.at a' (.inRegion ops rest :: k)) cs) w') a mine w := opB_store ho hw hop hx hy hb hc hs hi h1 h
  unfold OpB at hO
  simp only [ho, hw, if_true] at hO
  rcases hO with hO | ⟨f, vals, Post, q1, _, _⟩
  . exact gbo_cons ho hw hk hO
  . exfalso
    have h2 := (q1 w).1
    unfold execOp at h2
    simp only [hop, Sem.run_bind] at h2
    cases hh : (Instr.storeAt ty (a.eval x) (a.eval y)).run P w <;> rw [hh] at h2 <;> simp at h2
theorem gbo_call {f : FuncId} {args : Array Operand} {ats : Array TypeId} {nf : Nat} {vals : Array Value} {Post : Value -> List Nat -> World -> Prop} (ho : ops[i]? = some o) (hw : Region.wanted o (yielded ops a.tmps) = true) (hk : b.kind ≠ .early) (hop : o.op = .call { callee := .value (.func f), args, argTypes := ats })
    (hcall : CallsB P C main f vals nf mine w Post) (hargs : args.map a.eval = vals) (hnext : ∀ v m' w', Post v m' w' -> Gb P C main Stop n m' (G (b.at (a.put o.dst v) (.inRegion ops rest :: k)) cs) w') : Gb P C main Stop (n + nf + 3) mine (G (b.at a (.inRegion ops (i :: rest) :: k)) cs) w := by
  subst hargs
  obtain ⟨fc, c, hf, hname, hbody, hwp⟩ := hcall
  have hfin : ∀ v, (b.at a (.inRegion ops (i :: rest) :: k)).finish v = b.at (a.put o.dst v) (.inRegion ops rest :: k) := fun v => by rw [Frame.finish_at, ho]; rfl
  have hleave : ∀ (a' : Act) (mine' : List Nat) (w' : World) (todo : List Item), (a'.defers = [] /\ ∀ w₁, Rel C mine' w' w₁ -> ∃ v, (results fc a'.tmps).run P w₁ = .ok v w₁ /\ (∀ e ∈ (results fc a'.tmps).events P w₁ #[], EvM C mine' e) /\ Post v mine' w₁) ->
      Gb P C main Stop (n + 1) mine' (G { (base f).at a' todo with mode := .returning } (b.at a (.inRegion ops (i :: rest) :: k) :: cs)) w' := by
    rintro a' mine' w' todo ⟨hd, hv⟩
    refine Gb.step rfl fun w₁ h₁ => ?_
    obtain ⟨v, q1, q2, q3⟩ := hv w₁ h₁
    refine ⟨_, w₁, _, stepG_leaveE (b := base f) rfl hd hf q1, rfl, .read fun e he => q2 e (mem_seen he), ?_⟩
    rw [grow_self, hfin]
    exact hnext v mine' w₁ q3
  have hbodyG : Gb P C main Stop (n + 2 + nf) mine (G ((base f).at { tmps := args.map a.eval ++ Array.replicate (fc.ntmps - (args.map a.eval).size) undef, defers := [] } [.code c]) (b.at a (.inRegion ops (i :: rest) :: k) :: cs)) w := by
    refine hwp (base f) [] _ Stop (n + 2) rfl (by simp [base]) fun e a' m' w' q => ?_
    cases e with
    | normal => exact Gb.ctl rfl rfl (fun _ => stepG_end) (hleave a' m' w' [] q)
    | ret => exact fun todo => (hleave a' m' w' todo q).more
    | _ => exact q.elim
  have e : n + nf + 3 = (n + 2 + nf) + 1 := by omega
  rw [e]
  have hb' : fc.body.isNone = false := by rw [hbody]; rfl
  refine Gb.ctl rfl rfl (fun w₁ => ?_) hbodyG
  rw [stepG_enter ho hw hk (run_call_body hop hf hname hb'), enter_at _ hf hbody]
  have : listed P b.fn a o w₁ = #[] := by unfold listed; rw [events_call_body hop hf hname hb']; exact seen_none P _
  rw [this]
end Go.Proofs.YtcpldcojckhapaaGreat

namespace Go.Proofs.YtcpldcojckhapaaGreat
open Go.Conc
variable {P : Program} {C : Ch} {main : Bool} {a : Act} {mine : List Nat} {w w₁ w' : World} {ops : Array Oper} {i : Nat} {rest : List Nat} {o : Oper} {n : Nat} {b : Frame} {k : List Item} {cs : List Frame} {Stop : List Nat -> Goroutine -> World -> Prop}
theorem evM_mark {m : Mark} (h : Neutral m) : EvM C mine ⟨.mark m, false, true⟩ := by
  refine ⟨⟨fun e => ?_, fun e => ?_⟩, fun x hx => ?_⟩
  . simp only [Loc.mark.injEq] at e
    exact h.ne_disable e
  . simp only [Loc.mark.injEq] at e
    exact h.ne_enable e
  . have : (MemAct.ofEvent ⟨.mark m, false, true⟩).touch? = none := h.touch
    rw [this] at hx
    cases hx
def OwnIn (mine : List Nat) (v : Value) : Prop := ∀ g, v.ownBlock = some g -> g ∈ mine
theorem own_rel {base size nn : Nat} {e : TypeId} {v : Value} {xs : List Value} (h : w.ownsRow base e size v nn xs) (hm : OwnIn mine v) (hr : Rel C mine w w₁) : w₁.ownsRow base e size v nn xs := by
  refine ⟨h.1, h.2.imp id ?_⟩
  rintro ⟨g, cap, cur, rfl, h1, h2, h3⟩
  exact ⟨g, cap, cur, rfl, h1, (hr.keep g (.inr (hm g rfl))).trans h2, h3⟩
theorem gbo_append (ho : ops[i]? = some o) (hw : Region.wanted o (yielded ops a.tmps) = true) (hk : b.kind ≠ .early) {s x : Operand} {t : TypeId} (hop : o.op = .call { callee := .builtin .append, args := #[s, x], argTypes := #[t, t] })
    {bs : Nat} {e : TypeId} {inf : TypeInfo} {z : Value} {size bytes : Nat} (ht : P.underlying t = some (.slice e)) (hi : P.info? e = some inf) (hz : inf.zero = some z) (hsize : inf.size = size) (hby : inf.bytes = bytes) (hzs : z.cells.size = size) (hsz : 0 < size)
    {v : Value} {nn : Nat} {xs : List Value} (hs : a.eval s = v) (hown : w.ownsRow bs e size v nn xs) (hvm : OwnIn mine v)
    {g m c : Nat} {news : List Value} (hx : a.eval x = .slice (some ⟨g, 0, none⟩) m c) (hgm : g ∈ mine) (hl : news.length = m * size) (hnews : w.rangeAt g 0 news) (h1 : ∀ u ∈ news, u.oneCell' = true)
    (hm0 : 0 < m) (h63 : nn + m <= maxLen) (hbytes : (nn + m) * bytes <= 140737488355328) (hbase : bs <= w.heap.size)
    (h : ∀ v' w₁ w', Rel C mine w w₁ -> w'.ownsRow bs e size v' (nn + m) (xs ++ news) -> w₁.grownBy w' v.ownBlock -> OwnIn (grow mine w₁ w') v' -> Gb P C main Stop n (grow mine w₁ w') (G (b.at (a.put o.dst v') (.inRegion ops rest :: k)) cs) w') : Gb P C main Stop (n + 1) mine (G (b.at a (.inRegion ops (i :: rest) :: k)) cs) w := by
  refine gbo_cons ho hw hk fun w₁ h₁ => ?_
  have hown1 := own_rel hown hvm h₁
  have hn1 : ∀ j u, news[j]? = some u -> w₁.cell? ((⟨g, 0, none⟩ : Addr).add j) = some u := fun j u hu => by
    rw [Addr.add_mid]
    exact rangeAt_same (h₁.keep g (.inr hgm)) hnews j u hu
  have hb1 : bs <= w₁.heap.size := Nat.le_trans hbase h₁.size
  obtain ⟨v', w', hr, h2, h3, h4⟩ := run_append_own (P := P) w₁ bs t o.type e inf z size bytes ht hi hz hsize hby hzs hsz v nn xs hown1 ⟨g, 0, none⟩ m c news hl hn1 h1 h63 hbytes hb1
  refine uponK_append s x t hop hs hx hr ⟨⟨h3.tape, h3.os, h3.output, h3.size, fun q hq hqm => h3.block q hq fun e => hqm (hvm q e.symm), fun ev he => ?_⟩, h v' w₁ w' h₁ h2 h3 ?_⟩
  . have hm := mem_listed he
    rw [events_append_op s x t hop hs hx] at hm
    rcases events_append_where (P := P) w₁ bs t o.type e inf z size bytes ht hi hz hsize hby v nn xs hown1 ⟨g, 0, none⟩ m c news hl hn1 h1 h63 hbytes ev hm with ⟨ad, e1, ⟨e2, e3⟩ | e2⟩ | ⟨mk, rfl, hmk⟩
    . exact evM_write ((mem_grow h3.size).2 (.inr hgm)) e1 e3
    . exact evM_write ((mem_grow h3.size).2 (.inr (hvm _ e2.symm))) e1 rfl
    . exact evM_mark hmk
  . intro q hq
    rw [mem_grow h3.size]
    rcases h2.2 with ⟨rfl, hn0⟩ | ⟨q', cap', cur', rfl, _, hq2, _⟩
    . omega
    . have : q' = q := by simpa [Value.ownBlock] using hq
      subst this
      have hqs : q' < w'.heap.size := (Array.getElem?_eq_some_iff.1 hq2).1
      by_cases hlt : w₁.heap.size <= q'
      . exact .inl ⟨hlt, hqs⟩
      . refine .inr ?_
        subst hsize
        subst hby
        rcases hown1.2 with ⟨rfl, rfl⟩ | ⟨g0, cap, cur, rfl, hbg, hg, hnc, hcm, hcs, htake⟩
        . obtain ⟨v2, w2, r2, o2, _, _⟩ := run_append_own (P := P) w₁ w₁.heap.size t o.type e inf z inf.size inf.bytes ht hi hz rfl rfl hzs hsz (.slice none 0 0) 0 xs ⟨hown1.1, .inl ⟨rfl, rfl⟩⟩ ⟨g, 0, none⟩ m c news hl hn1 h1 h63 hbytes (Nat.le_refl _)
          rw [hr] at r2
          simp only [Result.ok.injEq] at r2
          obtain ⟨rfl, rfl⟩ := r2
          rcases o2.2 with ⟨q2, _⟩ | ⟨q3, _, _, q4, q5, _⟩
          . cases q2
          . simp only [Value.slice.injEq, Option.some.injEq, Addr.mk.injEq] at q4
            obtain ⟨⟨rfl, _⟩, _⟩ := q4
            exact absurd q5 hlt
        . by_cases hroom : nn + m <= cap
          . have hfit : nn * inf.size + news.length <= cur.size := by rw [hl, hcs, <- Nat.add_mul]; exact Nat.mul_le_mul_right _ hroom
            have r2 := run_append_room (P := P) w₁ t o.type e inf ht hi g0 nn cap cur hg ⟨g, 0, none⟩ m c news hl hn1 h1 hroom hfit
            rw [hr] at r2
            simp only [Result.ok.injEq, Value.slice.injEq, Option.some.injEq, Addr.mk.injEq] at r2
            obtain ⟨⟨⟨rfl, _⟩, _⟩, _⟩ := r2
            exact hvm _ rfl
          . have holds : ∀ j u, xs[j]? = some u -> w₁.cell? ((⟨g0, 0, none⟩ : Addr).add j) = some u := hown1.cells (g := g0) rfl
            have hsmall : nn + m <= 9223372036854775807 := by simp only [maxLen] at h63; omega
            have r2 := run_append_grow (P := P) w₁ t o.type e inf z ht hi hz ⟨g0, 0, none⟩ nn cap xs hown1.1 holds ⟨g, 0, none⟩ m c news hl hn1 (by omega) (by omega) (growslice_fits (by omega) hbytes)
            rw [hr] at r2
            simp only [Result.ok.injEq, Value.slice.injEq, Option.some.injEq, Addr.mk.injEq] at r2
            obtain ⟨⟨⟨rfl, _⟩, _⟩, _⟩ := r2
            exact absurd (Nat.le_refl _) hlt
theorem gbo_build (ho : ops[i]? = some o) (hw : Region.wanted o (yielded ops a.tmps) = true) (hk : b.kind ≠ .early) {t e : TypeId} {len : Nat} {parts : Array (Nat × Operand)} {cells : Array Value} (hop : o.op = .buildSlice t len parts)
    (hr : ∀ (w : World) (K : Result Value -> Prop), K (.ok (.slice (some ⟨w.heap.size, 0, none⟩) len len) (w.alloc (.cells cells e (0, 0)))) -> K ((Instr.buildSlice t len (parts.map fun (j, x) => (j, a.eval x))).run P w)) (he : ∀ w : World, (Instr.buildSlice t len (parts.map fun (j, x) => (j, a.eval x))).events P w #[] = #[])
    (h : ∀ w₁, Rel C mine w w₁ -> Gb P C main Stop n (w₁.heap.size :: mine) (G (b.at (a.put o.dst (.slice (some ⟨w₁.heap.size, 0, none⟩) len len)) (.inRegion ops rest :: k)) cs) (w₁.alloc (.cells cells e (0, 0)))) : Gb P C main Stop (n + 1) mine (G (b.at a (.inRegion ops (i :: rest) :: k)) cs) w := by
  refine gbo_cons ho hw hk fun w₁ h₁ => ?_
  have hr0 : (Instr.buildSlice t len (parts.map fun (j, x) => (j, a.eval x))).run P w₁ = .ok (.slice (some ⟨w₁.heap.size, 0, none⟩) len len) (w₁.alloc (.cells cells e (0, 0))) := hr w₁ (fun r => r = _) rfl
  have hr' : (execOp a.eval o).run P w₁ = .ok (.value (.slice (some ⟨w₁.heap.size, 0, none⟩) len len)) (w₁.alloc (.cells cells e (0, 0))) := by
    unfold execOp
    simp only [hop, Sem.run_bind, hr0, Result.andThen_ok, Sem.run_pure]
  have he' : (execOp a.eval o).events P w₁ #[] = #[] := by
    unfold execOp
    simp only [hop, Sem.events_bind, hr0, Result.evThen_ok, Sem.events_pure, he]
  rw [hr']
  exact ⟨by rw [listed_nil he']; exact .alloc _, by rw [grow_alloc]; exact h w₁ h₁⟩
end Go.Proofs.YtcpldcojckhapaaGreat

namespace Go.Proofs.YtcpldcojckhapaaGreat
structure Fd where
  line : Nat
  unit : Nat
  body : ByteArray
def Fd.v (f : Fd) : Value := .agg #[.int .i64 f.line, .int .i64 0, .int .i64 f.unit, .string f.body]
def Fd.c (f : Fd) : List Value := [.int .i64 f.line, .int .i64 0, .int .i64 f.unit, .string f.body]
end Go.Proofs.YtcpldcojckhapaaGreat
