/-
  
-/
import Derived.Test.YtcpldcojckhapaaGreatJ3
namespace Go.Proofs.YtcpldcojckhapaaGreat
open Go.Conc
structure Env where
  S : FuncId -> Bool
  M : FuncId -> List Nat
  E : List FuncId
  nm : List String
  cf : FuncId
def Env.cv (V : Env) : Value := .func (.func V.cf) #[] #[]
def okArg (V : Env) (fn : FuncId) : Operand -> Bool
  | .tmp t => (V.M fn).contains t
  | .func f => f == V.cf
  | _ => false
def okB : Builtin -> Bool
  | .append | .cap | .copy | .len | .max | .min | .unsafeString | .unsafeSliceData => true
  | _ => false
def okCallee (V : Env) (fn : FuncId) (args : Array Operand) : Callee -> Bool
  | .builtin b => okB b
  | .value (.func g) => V.E.contains g || (V.S g && (V.M g).all fun j => match args[j]? with | some x => okArg V fn x | none => true)
  | .value (.tmp t) => (V.M fn).contains t
  | .invoke _ name => V.nm.contains name
  | _ => false
theorem nt_makeChan {P : Program} (t : TypeId) (v : Value) : Nt P (Instr.makeChan t v) := by
  unfold Instr.makeChan
  repeat' first | exact trivial | assumption | with_reducible apply nt_newObj | with_reducible apply nt_asInt | with_reducible apply nt_runtimePanic | with_reducible apply nt_underlying | with_reducible apply nt_typeInfo | with_reducible apply nt_stuck | with_reducible apply nt_pure | with_reducible apply nt_ite | with_reducible apply nt_bind | with_reducible intro _ | split | dsimp only | apply nt_bind
def okOp (V : Env) (fn : FuncId) (o : Oper) : Bool :=
  let free := match o.dst with | some d => !(V.M fn).contains d | none => true
  match o.op with
  | .move x | .assign x => free || okArg V fn x
  | .pick .. | .alloc .. | .box .. | .build .. | .buildSlice .. | .load .. | .store .. | .nilCheck .. | .binOp .. | .unOp .. | .convert .. | .makeInterface .. | .makeSlice .. | .makeChan .. | .slice .. | .fieldAddr .. | .indexAddr .. | .index .. | .typeAssert .. | .extract .. | .panic .. => free
  | .call c => free && okCallee V fn c.args c.callee
  | _ => false
def okCode (V : Env) (fn : FuncId) : Code -> Bool
  | .skip | .exit _ | .ret | .refuse _ => true
  | .region _ ops _ => ops.all (okOp V fn)
  | .seq a b | .cond _ a b => okCode V fn a && okCode V fn b
  | .block _ c | .loop c => okCode V fn c
  | _ => false
structure Fit (P : Program) (V : Env) : Prop where
  body : ∀ f, V.S f = true -> ∃ fn c, P.funcs[f]? = some fn /\ (fn.name == "runtime.NumGoroutine") = false /\ fn.body = some c /\ okCode V f c = true
  ext : ∀ f ∈ V.E, ∀ args, Nm P (fun n => ∃ v, n = .value v) (callFunc f args)
  meth : ∀ name ∈ V.nm, ∀ d t v, Nm P (fun r => (V.S r.1 = true /\ V.M r.1 = []) ∨ r.1 ∈ V.E) (method d t v name)
  cmp : V.S V.cf = true /\ V.M V.cf = []
  ready : ∀ g, P.stepOf g = none
def Slot (V : Env) (v : Value) : Prop := v = undef ∨ v = V.cv
def SlotArgs (V : Env) (f : FuncId) (args : Array Value) : Prop := ∀ j ∈ V.M f, Slot V (args.getD j undef)
def NextOk (V : Env) (fn : FuncId) (o : Oper) : Next -> Prop
  | .value v => ∀ d, o.dst = some d -> d ∈ V.M fn -> Slot V v
  | .skip => True
  | .enter f args => V.S f = true /\ SlotArgs V f args /\ ∀ d, o.dst = some d -> d ∉ V.M fn
  | _ => False
section
variable {P : Program} {V : Env}
theorem nm_callFunc (hV : Fit P V) {f : FuncId} (hf : V.S f = true) (args : Array Value) : Nm P (fun n => n = .enter f args) (callFunc f args) := by
  obtain ⟨fn, c, h1, h2, h3, _⟩ := hV.body f hf
  unfold callFunc
  show Nm P _ (match P.funcs[f]? with | none => _ | some fn => _)
  rw [h1]
  show Nm P _ (if _ then _ else if _ then _ else _)
  rw [if_neg (by simp [h2]), if_neg (by simp [h3])]
  exact rfl
def Free (V : Env) (fn : FuncId) (o : Oper) : Prop := ∀ d, o.dst = some d -> d ∉ V.M fn
theorem nm_v {fn : FuncId} {o : Oper} (hd : Free V fn o) {s : Sem Value} (hs : Nt P s) : Nm P (NextOk V fn o) (do pure (.value (<- s))) :=
  nm_bind hs fun _ _ d h1 h2 => absurd h2 (hd d h1)
theorem nm_u {fn : FuncId} {o : Oper} {s : Sem Unit} (hs : Nt P s) : Nm P (NextOk V fn o) (do s; pure .skip) :=
  nm_bind hs fun _ _ => trivial
theorem nm_method (hV : Fit P V) {fn : FuncId} {o : Oper} (hd : Free V fn o) {name : String} (hn : name ∈ V.nm) (recv : Value) (args : Array Value) : Nm P (NextOk V fn o) (callMethod recv name args) := by
  unfold callMethod
  cases recv with
  | iface t v =>
    refine nm_bind (Q := fun q => q = P) rfl fun q hq => ?_
    refine nm_bind (hV.meth name hn _ t v) fun r hr => ?_
    obtain ⟨f, rv⟩ := r
    rcases hr with ⟨h1, h2⟩ | h1
    . exact nm_mono (nm_callFunc hV h1 _) fun n hn => by subst hn; exact ⟨h1, (fun j hj => by have := h2 ▸ hj; cases this), hd⟩
    . exact nm_mono (hV.ext f h1 _) fun n hn => by obtain ⟨v, rfl⟩ := hn; exact fun d h1 h2 => absurd h2 (hd d h1)
  | nilIface => exact nm_mono (Q := fun _ => False) (by unfold runtimePanic; exact trivial) fun _ h => h.elim
  | _ => exact trivial
theorem nm_exec (hV : Fit P V) {fn : FuncId} {o : Oper} (ho : okOp V fn o = true) {ρ : Operand -> Value} (hρ : ∀ t ∈ V.M fn, Slot V (ρ (.tmp t))) (hf : ∀ f, ρ (.func f) = .func (.func f) #[] #[]) :
    Nm P (NextOk V fn o) (execOp ρ o) := by
  have harg : ∀ x, okArg V fn x = true -> Slot V (ρ x) := by
    intro x hx
    cases x with
    | tmp t => exact hρ t (by simpa [okArg] using hx)
    | func f => have : f = V.cf := by simpa [okArg] using hx
                rw [hf, this]; exact .inr rfl
    | const v => simp [okArg] at hx
    | global g => simp [okArg] at hx
  obtain ⟨dst, op, ty, pos, aft, gd⟩ := o
  have free : ∀ {op}, (match dst with | some d => !(V.M fn).contains d | none => true) = true -> Free V fn ⟨dst, op, ty, pos, aft, gd⟩ := by
    intro op h d hd
    simp only at hd
    subst hd
    simpa using h
  cases op with
  | move x | assign x =>
    simp only [okOp, Bool.or_eq_true] at ho
    intro d h1 h2
    rcases ho with h | h
    . exact absurd h2 (free (op := .move x) h d h1)
    . exact harg x h
  | pick c a b => exact nm_bind (nt_asBool _) fun _ _ d h1 h2 => absurd h2 (free (op := .pick c a b) ho d h1)
  | alloc t => exact nm_v (free ho) (nt_alloc _ _ _)
  | box t x => exact nm_v (free ho) (nt_box _ _)
  | build t x => exact nm_v (free ho) (nt_build _ _)
  | buildSlice t n x => exact nm_v (free ho) (nt_buildSlice _ _ _)
  | makeChan t x => exact nm_v (free ho) (nt_makeChan _ _)
  | load t x => exact nm_v (free ho) (nt_loadAt _ _)
  | store t x y => exact nm_u (nt_storeAt _ _ _)
  | nilCheck x =>
    have hfr := free (op := .nilCheck x) ho
    have hv : ∀ v, Nm P (NextOk V fn ⟨dst, .nilCheck x, ty, pos, aft, gd⟩) (pure (.value v)) := fun v d h1 h2 => absurd h2 (hfr d h1)
    have hp : Nm P (NextOk V fn ⟨dst, .nilCheck x, ty, pos, aft, gd⟩) (runtimePanic .nilDeref) := by unfold runtimePanic; exact trivial
    unfold execOp
    dsimp only
    split
    . exact hp
    . exact hp
    . exact hp
    . split
      . exact hp
      . refine nm_bind (nt_program) fun _ _ => nm_bind (nt_nilAhead _ _ _ _) fun _ _ => ?_
        split
        . exact nm_bind (Q := fun _ => False) trivial fun _ h => h.elim
        . exact hv _
      . exact hv _
    . exact hv _
  | binOp b t x y z => exact nm_v (free ho) (nt_bind (nt_eqGuard _ _ _ _ _ _) fun _ => nt_binOp _ _ _ _)
  | unOp b t x => exact nm_v (free ho) (nt_unary _ _)
  | convert s d x => exact nm_v (free ho) (nt_convert _ _ _)
  | makeInterface t x => exact nm_v (free ho) (nt_makeInterface _ _)
  | makeSlice t x y => exact nm_v (free ho) (nt_makeSlice _ _ _)
  | slice t x a b c => exact nm_v (free ho) (nt_sliceAt _ _ _ _ _)
  | fieldAddr t x n => exact nm_v (free ho) (nt_fieldAt _ _ _)
  | indexAddr t x y => exact nm_v (free ho) (nt_indexAt _ _ _)
  | index t x y => exact nm_v (free ho) (nt_index _ _ _)
  | typeAssert x t u b => exact nm_v (free ho) (nt_typeAssert _ _ _ _)
  | extract x n => exact nm_v (free ho) (nt_extract _ _)
  | panic x => exact nm_v (free ho) (nt_panic _)
  | call c =>
    obtain ⟨cal, args, at_⟩ := c
    simp only [okOp, Bool.and_eq_true] at ho
    have hfr := free (op := .call ⟨cal, args, at_⟩) ho.1
    have ho := ho.2
    show Nm P _ (resolve ρ ⟨cal, args, at_⟩ ty >>= fun d => invoke d.target d.args)
    cases cal with
    | builtin b =>
      show Nm P _ (builtin b at_ ty _ _)
      cases b with
      | append => exact nm_v hfr (nt_append_ _ _ _)
      | cap => exact nm_v hfr (nt_cap_ _ _ _)
      | copy => exact nm_v hfr (nt_copy_ _ _ _)
      | len => exact nm_v hfr (nt_len_ _ _ _)
      | max => exact nm_v hfr (nt_max_ _ _ _)
      | min => exact nm_v hfr (nt_min_ _ _ _)
      | unsafeString => exact nm_v hfr (nt_unsafeString_ _ _ _)
      | unsafeSliceData => exact nm_v hfr (nt_unsafeSliceData_ _ _ _)
      | _ => simp [okCallee, okB] at ho
    | invoke recv name =>
      have hn : name ∈ V.nm := by simpa [okCallee] using ho
      show Nm P _ (invoke (.fn (.method name) #[]) (#[ρ recv] ++ args.map ρ))
      unfold invoke
      have e : (#[ρ recv] ++ args.map ρ)[0]? = some (ρ recv) := by rw [Array.getElem?_append_left (show 0 < #[ρ recv].size from Nat.one_pos)]; rfl
      show Nm P _ (match (#[ρ recv] ++ args.map ρ)[0]? with | some recv => callMethod recv name _ | _ => _)
      rw [e]
      exact nm_method hV hfr hn _ _
    | value f =>
      cases f with
      | func g =>
        refine nm_bind (Q := fun d => d = { target := .fn (.func g) #[], args := #[] ++ args.map ρ }) (by show Nm P _ (Deferred.ofValue (ρ (.func g)) _); rw [hf]; exact rfl) fun d hd => ?_
        subst hd
        show Nm P _ (callFunc g (#[] ++ args.map ρ ++ #[]))
        simp only [okCallee, Bool.or_eq_true, List.contains_iff_mem, Bool.and_eq_true, List.all_eq_true] at ho
        rcases ho with h | ⟨h, hM⟩
        . exact nm_mono (hV.ext g h _) fun n hn => by obtain ⟨v, rfl⟩ := hn; exact fun d h1 h2 => absurd h2 (hfr d h1)
        . refine nm_mono (nm_callFunc hV h _) fun n hn => ?_
          subst hn
          refine ⟨h, fun j hj => ?_, hfr⟩
          have hj' := hM j hj
          rw [Array.append_empty, Array.empty_append]
          cases ha : args[j]? with
          | none =>
            refine .inl ?_
            have : ¬ j < args.size := fun hlt => by rw [Array.getElem?_eq_getElem hlt] at ha; cases ha
            simp [Array.getD, this]
          | some x =>
            rw [ha] at hj'
            obtain ⟨hlt, rfl⟩ := Array.getElem?_eq_some_iff.1 ha
            have := harg _ hj'
            simpa [Array.getD, hlt] using this
      | tmp t =>
        have ht : t ∈ V.M fn := by simpa [okCallee] using ho
        rcases hρ t ht with h | h
        . refine nm_bind (Q := fun _ => False) (by show Nm P _ (Deferred.ofValue (ρ (.tmp t)) _); rw [h]; exact trivial) fun _ h => h.elim
        . refine nm_bind (Q := fun d => d = { target := .fn (.func V.cf) #[], args := #[] ++ args.map ρ }) (by show Nm P _ (Deferred.ofValue (ρ (.tmp t)) _); rw [h]; exact rfl) fun d hd => ?_
          subst hd
          show Nm P _ (callFunc V.cf (#[] ++ args.map ρ ++ #[]))
          refine nm_mono (nm_callFunc hV hV.cmp.1 _) fun n hn => ?_
          subst hn
          exact ⟨hV.cmp.1, (fun j hj => by have := hV.cmp.2 ▸ hj; cases this), hfr⟩
      | const v => simp [okCallee] at ho
      | global g => simp [okCallee] at ho
  | _ => simp [okOp] at ho
end
end Go.Proofs.YtcpldcojckhapaaGreat

namespace Go.Proofs.YtcpldcojckhapaaGreat
open Go.Conc
structure LF where
  fn : FuncId
  tmps : Array Value
  todo : List Item
def LF.fr (f : LF) (k : List Item) (m : FrameMode) : Frame := { fn := f.fn, tmps := f.tmps, todo := f.todo ++ k, defers := [], mode := m, kind := .normal }
def sfx (k : List Item) : List LF -> List Item
  | [] => k
  | _ :: _ => []
def stk (k : List Item) (B : List Frame) : List LF -> List Frame
  | [] => B
  | f :: l => f.fr (sfx k l) .run :: stk k B l
structure Cfg where
  top : LF
  ret : Bool
  rest : List LF
def gor (k : List Item) (B : List Frame) (c : Cfg) : Goroutine := G (c.top.fr (sfx k c.rest) (if c.ret then .returning else .run)) (stk k B c.rest)
def ItemOk (V : Env) (fn : FuncId) : Item -> Prop
  | .code c | .inLoop c => okCode V fn c = true
  | .inBlock _ => True
  | .inRegion ops _ => ∀ o ∈ ops, okOp V fn o = true
  | _ => False
def Slots (V : Env) (fn : FuncId) (tmps : Array Value) : Prop := ∀ j ∈ V.M fn, Slot V (tmps.getD j undef)
structure LFok (V : Env) (f : LF) : Prop where
  items : ∀ it ∈ f.todo, ItemOk V f.fn it
  slots : Slots V f.fn f.tmps
structure CallerOk (V : Env) (f : LF) : Prop where
  ok : LFok V f
  at_ : ∃ ops i r t, f.todo = .inRegion ops (i :: r) :: t /\ ∀ d, ((ops[i]?).bind (·.dst)) = some d -> d ∉ V.M f.fn
structure CfgK (V : Env) (c : Cfg) : Prop where
  top : LFok V c.top
  rest : ∀ f ∈ c.rest, CallerOk V f
def endF : Frame := { (default : Frame) with todo := [.code (.refuse "")], defers := [{ target := .nil, args := #[] }], mode := .run }
def k0 : List Item := [.code (.refuse "")]
def B0 : List Frame := [endF]
def Bad (P : Program) (c : Cfg) (w : World) : Prop :=
  (∃ o w' es, stepG P true (gor k0 B0 c) w = .ended o w' es) ∨ ∃ (f : LF) (chain : List PanicEntry) (w' : World) (es : Array Event), stepG P true (gor k0 B0 c) w = .go (G (f.fr (sfx k0 c.rest) (.panicking chain)) (stk k0 B0 c.rest)) w' es
def Good1 (P : Program) (V : Env) (c : Cfg) (w : World) : Prop :=
  ∃ n c' w' es, CfgK V c' /\ (∀ e ∈ es, EvOk e) /\ w'.tape = w.tape /\ w'.drawn = w.drawn + n /\ ∀ τ d, SameT n w τ d -> ∀ main k B, stepG P main (gor k B c) (rt w τ d) = .go (gor k B c') (rt w' τ (d + n)) es
theorem fold_ok (g : Bool × Array Event -> Event -> Bool × Array Event) (hg : ∀ x e, (g x e).2 = x.2 ∨ (g x e).2 = x.2.push e) :
    ∀ (l : List Event) (x : Bool × Array Event), (∀ e ∈ x.2, EvOk e) -> (∀ e ∈ l, EvOk e) -> ∀ e ∈ (l.foldl g x).2, EvOk e
  | [], _, h, _ => h
  | e :: l, x, hx, hl => by
    rw [List.foldl_cons]
    refine fold_ok g hg l _ ?_ fun e he => hl e (List.mem_cons_of_mem _ he)
    rcases hg x e with h | h <;> rw [h]
    . exact hx
    . intro y hy
      rcases Array.mem_push.1 hy with hy | rfl
      . exact hx y hy
      . exact hl _ (List.mem_cons_self ..)
theorem seen_ok (P : Program) (fn : FuncId) {es : Array Event} (h : ∀ e ∈ es, EvOk e) : ∀ e ∈ seen P fn es, EvOk e := by
  unfold seen
  dsimp only
  rw [<- Array.foldl_toList]
  refine fold_ok _ ?_ _ _ (by simp) fun e he => h e (by simpa using he)
  rintro ⟨q, kept⟩ e
  dsimp only
  split
  . exact .inl rfl
  . split
    . exact .inl rfl
    . exact .inr rfl
theorem exitTo_app (id : Nat) (t s : List Item) : exitTo id (t ++ s) = match exitTo id t with | some t' => some (t' ++ s) | none => exitTo id s := by
  induction t with
  | nil => rfl
  | cons x t ih =>
    cases x with
    | inBlock i =>
      simp only [List.cons_append, exitTo]
      by_cases h : i == id
      . simp [h]
      . simp only [h, Bool.false_eq_true, if_false]; exact ih
    | _ => simp only [List.cons_append, exitTo]; exact ih
theorem exitTo_ok {V : Env} {fn : FuncId} {id : Nat} : ∀ {t t' : List Item}, exitTo id t = some t' -> (∀ it ∈ t, ItemOk V fn it) -> ∀ it ∈ t', ItemOk V fn it
  | [], _, h, _ => by cases h
  | x :: t, t', h, hok => by
    have ht : ∀ it ∈ t, ItemOk V fn it := fun it hi => hok it (List.mem_cons_of_mem _ hi)
    cases x with
    | inBlock i =>
      simp only [exitTo] at h
      split at h
      . cases h; exact ht
      . exact exitTo_ok h ht
    | _ => simp only [exitTo] at h; exact exitTo_ok h ht
def putT (d : Option Nat) (tmps : Array Value) (v : Value) : Array Value := match d with | some d => tmps.setIfInBounds d v | none => tmps
theorem finish_app {ops : Array Oper} {i : Nat} {r : List Nat} {t : List Item} {f : LF} (h : f.todo = .inRegion ops (i :: r) :: t) (k : List Item) (m : FrameMode) (v : Value) :
    (f.fr k m).finish v = ({ f with tmps := putT ((ops[i]?).bind (·.dst)) f.tmps v, todo := .inRegion ops r :: t } : LF).fr k m := by
  unfold LF.fr Frame.finish putT
  rw [h]
  simp only [List.cons_append]
  cases (ops[i]?).bind (·.dst) <;> rfl
theorem getD_set (a : Array Value) (d j : Nat) (v : Value) : (a.setIfInBounds d v).getD j undef = if d = j /\ d < a.size then v else a.getD j undef := by
  rw [Array.getD_eq_getD_getElem?, Array.getD_eq_getD_getElem?, Array.getElem?_setIfInBounds]
  by_cases h : d = j
  . subst h
    by_cases h2 : d < a.size
    . simp [h2]
    . simp [h2]
  . simp [h]
theorem slots_set {V : Env} {fn : FuncId} {tmps : Array Value} (h : Slots V fn tmps) (d : Option Nat) (v : Value) (hv : ∀ x, d = some x -> x ∈ V.M fn -> Slot V v) :
    Slots V fn (putT d tmps v) := by
  cases d with
  | none => exact h
  | some d =>
    intro j hj
    show Slot V ((tmps.setIfInBounds d v).getD j undef)
    rw [getD_set]
    split
    . rename_i hd
      exact hv d rfl (hd.1 ▸ hj)
    . exact h j hj
theorem LFok.finish {V : Env} {f : LF} {ops : Array Oper} {i : Nat} {r : List Nat} {t : List Item} (hf : LFok V f) (h : f.todo = .inRegion ops (i :: r) :: t) (v : Value)
    (hv : ∀ x, ((ops[i]?).bind (·.dst)) = some x -> x ∈ V.M f.fn -> Slot V v) :
    LFok V { f with tmps := putT ((ops[i]?).bind (·.dst)) f.tmps v, todo := .inRegion ops r :: t } := by
  refine ⟨fun it hi => ?_, slots_set hf.slots _ v hv⟩
  rcases List.mem_cons.1 hi with rfl | hi
  . exact hf.items (.inRegion ops (i :: r)) (by rw [h]; exact List.mem_cons_self ..)
  . exact hf.items it (by rw [h]; exact List.mem_cons_of_mem _ hi)
theorem good_move {P : Program} {V : Env} {c c' : Cfg} {w : World} (hc : CfgK V c') (h : ∀ w main k B, stepG P main (gor k B c) w = .go (gor k B c') w #[]) : Good1 P V c w :=
  ⟨0, c', w, #[], hc, by simp, rfl, rfl, fun τ d _ main k B => h _ main k B⟩
end Go.Proofs.YtcpldcojckhapaaGreat

namespace Go.Proofs.YtcpldcojckhapaaGreat
open Go.Conc
variable {P : Program} {V : Env}
theorem nt_results (fn : Func) (tmps : Array Value) : Nt P (results fn tmps) := by
  unfold results
  refine nt_bind (nt_mapM _ (fun x => ?_) _) fun _ => trivial
  cases x
  . exact trivial
  . exact nt_bind (nt_asAddr _) fun _ => nt_loadVar _ _
theorem gor_run {f : LF} {rest : List LF} (k : List Item) (B : List Frame) : gor k B ⟨f, false, rest⟩ = G (f.fr (sfx k rest) .run) (stk k B rest) := rfl
theorem gor_ret {f : LF} {rest : List LF} (k : List Item) (B : List Frame) : gor k B ⟨f, true, rest⟩ = G (f.fr (sfx k rest) .returning) (stk k B rest) := rfl
theorem mv {f : LF} {rest : List LF} {w : World} {x : Item} {t s : List Item} (hf : LFok V f) (hr : ∀ g ∈ rest, CallerOk V g) (h : f.todo = x :: t) (hs : ∀ it ∈ s, ItemOk V f.fn it)
    (hst : ∀ (tmps : Array Value) (k : List Item) (cs : List Frame) (w : World) (main : Bool), stepG P main (G { fn := f.fn, tmps := tmps, todo := x :: (t ++ k), defers := [], mode := .run, kind := .normal } cs) w = .go (G { fn := f.fn, tmps := tmps, todo := s ++ (t ++ k), defers := [], mode := .run, kind := .normal } cs) w #[]) :
    Good1 P V ⟨f, false, rest⟩ w := by
  refine good_move (c' := ⟨{ f with todo := s ++ t }, false, rest⟩) ⟨⟨fun it hi => ?_, hf.slots⟩, hr⟩ fun w main k B => ?_
  . rcases List.mem_append.1 hi with hi | hi
    . exact hs it hi
    . exact hf.items it (by rw [h]; exact List.mem_cons_of_mem _ hi)
  . rw [gor_run, gor_run]
    unfold LF.fr
    rw [h, List.cons_append, hst, List.append_assoc]
theorem lop (hV : Fit P V) {f : LF} {rest : List LF} (w : World) (hf : LFok V f) (hr : ∀ g ∈ rest, CallerOk V g) {ops : Array Oper} {i : Nat} {r : List Nat} {t : List Item} (h : f.todo = .inRegion ops (i :: r) :: t) {o : Oper} (ho : ops[i]? = some o)
    (hw : Region.wanted o (yielded ops f.tmps) = true) : Good1 P V ⟨f, false, rest⟩ w ∨ Bad P ⟨f, false, rest⟩ w := by
  have hok : okOp V f.fn o = true := hf.items (.inRegion ops (i :: r)) (by rw [h]; exact List.mem_cons_self ..) o (Array.mem_of_getElem? ho)
  let ρ : Operand -> Value := ({ fn := f.fn, tmps := f.tmps, todo := [], defers := [], mode := .run, kind := .normal } : Frame).eval
  have hρ : ∀ (k : List Item), (f.fr k .run).eval = ρ := fun k => by funext x; cases x <;> rfl
  have hnm : Nm P (NextOk V f.fn o) (execOp ρ o) := nm_exec hV hok (fun t ht => hf.slots t ht) (fun f => rfl)
  have hst : ∀ main k (cs : List Frame) w, stepG P main (G (f.fr k .run) cs) w = stepG.apply P true (f.fr k .run) cs none (execOp ρ o) w := by
    intro main k cs w
    have e := hρ k
    have e2 : (f.fr k .run).oper? = some o := by
      unfold LF.fr Frame.oper?
      rw [h]
      exact ho
    have e3 : stepG P main (G (f.fr k .run) cs) w = stepG.oper P true (f.fr k .run) cs none w := by
      unfold LF.fr at e ⊢
      rw [h]
      simp [G, stepG, stepG.exec, ho, hw]
    rw [e3]
    unfold stepG.oper
    rw [e2]
    simp only
    rw [e]
    rfl
  obtain ⟨n, h1, h2, h3, h4, h5⟩ := rr_run P _ (execOp ρ o) hnm w
  have hev : ∀ e ∈ (execOp ρ o).events P w #[], EvOk e := ev_ok P _ _ hnm w #[] (by simp)
  have ap_val : ∀ k (cs : List Frame) w w' v, (execOp ρ o).run P w = .ok (.value v) w' -> stepG.apply P true (f.fr k .run) cs none (execOp ρ o) w = .go (G ((f.fr k .run).finish v) cs) w' (seen P f.fn ((execOp ρ o).events P w #[])) := by
    intro k cs w w' v hr
    simp [stepG.apply, hr, G, LF.fr, GStep.after]
  have ap_skip : ∀ k (cs : List Frame) w w', (execOp ρ o).run P w = .ok .skip w' -> stepG.apply P true (f.fr k .run) cs none (execOp ρ o) w = .go (G ((f.fr k .run).finish undef) cs) w' (seen P f.fn ((execOp ρ o).events P w #[])) := by
    intro k cs w w' hr
    simp [stepG.apply, hr, G, LF.fr, GStep.after]
  have ap_enter : ∀ k (cs : List Frame) w w' g args, (execOp ρ o).run P w = .ok (.enter g args) w' -> stepG.apply P true (f.fr k .run) cs none (execOp ρ o) w = .go (G (Frame.enter P g args .normal) (f.fr k .run :: cs)) w' (seen P f.fn ((execOp ρ o).events P w #[])) := by
    intro k cs w w' g args hr
    simp [stepG.apply, hr, G, LF.fr, GStep.after, h]
  have hbo : (ops[i]?).bind (·.dst) = o.dst := by rw [ho]; rfl
  cases hr' : (execOp ρ o).run P w with
  | ok nx w' =>
    rw [hr'] at h1 h2
    have hnx := h3 nx w' hr'
    have fin : ∀ v, (∀ d, o.dst = some d -> d ∈ V.M f.fn -> Slot V v) -> (∀ k (cs : List Frame) w w', (execOp ρ o).run P w = .ok nx w' -> stepG.apply P true (f.fr k .run) cs none (execOp ρ o) w = .go (G ((f.fr k .run).finish v) cs) w' (seen P f.fn ((execOp ρ o).events P w #[]))) -> Good1 P V ⟨f, false, rest⟩ w := by
      intro v hv hap
      refine ⟨n, ⟨{ f with tmps := putT ((ops[i]?).bind (·.dst)) f.tmps v, todo := .inRegion ops r :: t }, false, rest⟩, w', _, ⟨hf.finish h v (by rw [hbo]; exact hv), hr⟩, seen_ok P f.fn hev, h1, h2, fun τ d hs main k B => ?_⟩
      obtain ⟨h6, h7⟩ := h5 τ d hs
      rw [hr'] at h6
      rw [gor_run, gor_run, hst, hap _ _ _ _ h6, h7, finish_app h]
    cases nx with
    | value v => exact .inl (fin v hnx fun k cs w w' x => ap_val k cs w w' v x)
    | skip => exact .inl (fin undef (fun _ _ _ => .inl rfl) fun k cs w w' x => ap_skip k cs w w' x)
    | enter g args =>
      obtain ⟨hg, hargs, hd⟩ := hnx
      obtain ⟨fn, c, q1, q2, q3, q4⟩ := hV.body g hg
      refine .inl ⟨n, ⟨⟨g, args ++ Array.replicate (fn.ntmps - args.size) undef, [.code c]⟩, false, f :: rest⟩, w', _, ⟨⟨?_, ?_⟩, ?_⟩, seen_ok P f.fn hev, h1, h2, fun τ d hs main k B => ?_⟩
      . intro it hi
        obtain rfl : it = .code c := by simpa using hi
        exact q4
      . intro j hj
        have := hargs j hj
        rw [Array.getD_eq_getD_getElem?, Array.getElem?_append]
        rw [Array.getD_eq_getD_getElem?] at this
        split
        . exact this
        . rw [Array.getElem?_replicate]
          split <;> exact .inl rfl
      . intro x hx
        rcases List.mem_cons.1 hx with rfl | hx
        . exact ⟨hf, ops, i, r, t, h, by rw [hbo]; exact hd⟩
        . exact hr x hx
      . obtain ⟨h6, h7⟩ := h5 τ d hs
        rw [hr'] at h6
        rw [gor_run, gor_run, hst, ap_enter _ _ _ _ _ _ h6, h7]
        have e : Frame.enter P g args .normal = (⟨g, args ++ Array.replicate (fn.ntmps - args.size) undef, [.code c]⟩ : LF).fr [] .run := by
          simp [Frame.enter, q1, q3, LF.fr]
        rw [e]
        rfl
    | _ => exact hnx.elim
  | halt hl w' =>
    rw [hr'] at h1 h2
    have hh := h4 hl w' hr'
    cases hl with
    | panic v =>
      refine .inr (.inr ⟨f, [{ v, recovered := false }], w', seen P f.fn ((execOp ρ o).events P w #[]), ?_⟩)
      rw [gor_run, hst]
      simp [stepG.apply, hr', G, LF.fr, GStep.after, Frame.raise]
    | stuck s =>
      refine .inr (.inl ?_)
      rw [gor_run, hst]
      simp [stepG.apply, hr', GStep.after]
    | unsupported u =>
      by_cases hu : ∃ g, u = .initOrder g
      . obtain ⟨g, rfl⟩ := hu
        have hea : ∀ k (cs : List Frame) w w', (execOp ρ o).run P w = .halt (.unsupported (.initOrder g)) w' -> stepG.apply P true (f.fr k .run) cs none (execOp ρ o) w = GStep.after #[] (early P (f.fr k .run) cs none g w') := by
          intro k cs w w' hr
          simp [stepG.apply, hr, LF.fr, seen]
        by_cases hfo : P.follows .staticDataAhead = true
        . refine .inr (.inl ?_)
          rw [gor_run, hst, hea _ _ _ _ hr']
          simp [early, hfo, hV.ready, GStep.after]
        . cases hp : w'.heap[g]? with
          | none =>
            refine .inr (.inl ?_)
            rw [gor_run, hst, hea _ _ _ _ hr']
            simp [early, hfo, hp, GStep.after]
          | some ob =>
            by_cases hob : ∃ cc el, ob = .pending cc el
            . obtain ⟨cc, el, rfl⟩ := hob
              refine .inl ⟨n, ⟨f, false, rest⟩, { w' with heap := w'.heap.setIfInBounds g (.cells cc el) }, #[], ⟨hf, hr⟩, by simp, h1, h2, fun τ d hs main k B => ?_⟩
              obtain ⟨h6, h7⟩ := h5 τ d hs
              rw [hr'] at h6
              have hp' : (rt w' τ (d + n)).heap[g]? = some (.pending cc el) := hp
              rw [gor_run, hst, hea _ _ _ _ h6]
              simp [early, hfo, hp, GStep.after]
              exact ⟨rfl, rfl⟩
            . refine .inr (.inl ?_)
              rw [gor_run, hst, hea _ _ _ _ hr']
              cases ob <;> first | (exact absurd ⟨_, _, rfl⟩ hob) | simp [early, hfo, hp, GStep.after]
      . refine .inr (.inl ?_)
        rw [gor_run, hst]
        cases u <;> first | (exact absurd ⟨_, rfl⟩ hu) | simp [stepG.apply, hr', GStep.after]
    | _ => exact hh.elim
theorem lstep (hV : Fit P V) (c : Cfg) (hc : CfgK V c) (hgo : ¬ (c.rest = [] /\ (c.top.todo = [] ∨ c.ret = true))) (w : World) : Good1 P V c w ∨ Bad P c w := by
  obtain ⟨f, ret, rest⟩ := c
  obtain ⟨hf, hr⟩ := hc
  simp only at hf hr hgo
  cases ret with
  | true =>
    cases rest with
    | nil => exact absurd ⟨rfl, .inr rfl⟩ hgo
    | cons g l =>
      have hg := hr g (List.mem_cons_self ..)
      obtain ⟨hgl, ops, i, r, t, ht, hd⟩ := hg
      have hst : ∀ main k B w, stepG P main (gor k B ⟨f, true, g :: l⟩) w = unwind P main (f.fr [] .returning) (stk k B (g :: l)) none w := by
        intro main k B w
        rfl
      have hdo : ∀ main k B v w, doReturn P main (f.fr [] .returning) (stk k B (g :: l)) none v w = .go (G ((g.fr (sfx k l) .run).finish v) (stk k B l)) w #[] := by
        intro main k B v w
        rfl
      have gok : ∀ v, CfgK V ⟨{ g with tmps := putT ((ops[i]?).bind (·.dst)) g.tmps v, todo := .inRegion ops r :: t }, false, l⟩ := fun v =>
        ⟨hgl.finish ht v fun x h1 h2 => absurd h2 (hd x h1), fun x hx => hr x (List.mem_cons_of_mem _ hx)⟩
      cases hfn : P.funcs[f.fn]? with
      | none =>
        refine .inl ⟨0, _, w, #[], gok (f.tmps.getD 0 undef), by simp, rfl, rfl, fun τ d _ main k B => ?_⟩
        rw [hst]
        unfold unwind
        simp only [LF.fr, hfn]
        exact (hdo main k B _ _).trans (by rw [finish_app ht]; rfl)
      | some fn =>
        obtain ⟨n, h1, h2, h3, h4, h5⟩ := rr_run P _ (results fn f.tmps) (nt_results fn f.tmps) w
        have hev : ∀ e ∈ (results fn f.tmps).events P w #[], EvOk e := ev_ok P _ _ (nt_results fn f.tmps) w #[] (by simp)
        have hun : ∀ main k B w v w', (results fn f.tmps).run P w = .ok v w' -> unwind P main (f.fr [] .returning) (stk k B (g :: l)) none w = GStep.after (seen P f.fn ((results fn f.tmps).events P w #[])) (doReturn P main (f.fr [] .returning) (stk k B (g :: l)) none v w') := by
          intro main k B w v w' hr
          unfold unwind
          simp only [LF.fr, hfn, Sem.runT_eq, hr]
        cases hr' : (results fn f.tmps).run P w with
        | ok v w' =>
          rw [hr'] at h1 h2
          refine .inl ⟨n, _, w', _, gok v, seen_ok P f.fn hev, h1, h2, fun τ d hs main k B => ?_⟩
          obtain ⟨h6, h7⟩ := h5 τ d hs
          rw [hr'] at h6
          rw [hst, hun _ _ _ _ _ _ h6, h7, hdo, finish_app ht]
          simp [GStep.after]
          rfl
        | halt hl w' =>
          refine .inr (.inl ?_)
          rw [hst]
          unfold unwind
          simp only [LF.fr, hfn, Sem.runT_eq, hr']
          cases hl <;> exact ⟨_, _, _, rfl⟩
  | false =>
    cases ht : f.todo with
    | nil =>
      cases rest with
      | nil => exact absurd ⟨rfl, .inl ht⟩ hgo
      | cons g l =>
        refine .inl (good_move (c' := ⟨f, true, g :: l⟩) ⟨hf, hr⟩ fun w main k B => ?_)
        rw [gor_run, gor_ret]
        unfold LF.fr
        rw [ht]
        simp [G, stepG, stepG.exec, sfx]
    | cons x t =>
      have hx := hf.items x (by rw [ht]; exact List.mem_cons_self ..)
      cases x with
      | code c =>
        cases c with
        | skip => exact .inl (mv (s := []) hf hr ht (by simp) fun tmps k cs w main => by simp [G, stepG, stepG.exec])
        | region id ops draw =>
          have hx' : ops.all (okOp V f.fn) = true := hx
          have hops : ∀ o ∈ ops, okOp V f.fn o = true := Array.all_eq_true_iff_forall_mem.1 hx'
          cases draw with
          | false => exact .inl (mv (s := [.inRegion ops (List.range ops.size)]) hf hr ht (by intro it hi; obtain rfl := List.mem_singleton.1 hi; exact hops) fun tmps k cs w main => by simp [G, stepG, stepG.exec])
          | true =>
            refine .inl ⟨1, ⟨{ f with todo := .inRegion ops (Region.schedule (P.follows .mixedOrders) ops (w.tape w.drawn (.order f.fn id))) :: t }, false, rest⟩, { w with drawn := w.drawn + 1 }, #[], ⟨⟨fun it hi => ?_, hf.slots⟩, hr⟩, by simp, rfl, rfl, fun τ d hs main k B => ?_⟩
            . rcases List.mem_cons.1 hi with rfl | hi
              . exact hops
              . exact hf.items it (by rw [ht]; exact List.mem_cons_of_mem _ hi)
            . have h0 := hs 0 (by omega) (.order f.fn id)
              simp only [Nat.add_zero] at h0
              rw [gor_run, gor_run]
              unfold LF.fr
              rw [ht]
              simp [G, stepG, stepG.exec, choose, Sem.run, Question.forced, Question.cut, h0]
              rfl
        | seq a b =>
          have hab : okCode V f.fn a = true /\ okCode V f.fn b = true := by simpa [ItemOk, okCode] using hx
          refine .inl (mv (s := [.code a, .code b]) hf hr ht ?_ fun tmps k cs w main => by simp [G, stepG, stepG.exec])
          intro it hi
          simp only [List.mem_cons, List.not_mem_nil, or_false] at hi
          rcases hi with rfl | rfl
          . exact hab.1
          . exact hab.2
        | cond o a b =>
          have hab : okCode V f.fn a = true /\ okCode V f.fn b = true := by simpa [ItemOk, okCode] using hx
          cases ho : (f.fr [] .run).eval o with
          | bool v =>
            have ho' : ∀ (todo : List Item), ({ fn := f.fn, tmps := f.tmps, todo := todo, defers := [], mode := .run, kind := .normal } : Frame).eval o = .bool v := fun todo => by
              rw [<- ho]
              cases o <;> rfl
            refine .inl (good_move (c' := ⟨{ f with todo := .code (if v then a else b) :: t }, false, rest⟩) ⟨⟨fun it hi => ?_, hf.slots⟩, hr⟩ fun w main k B => ?_)
            . rcases List.mem_cons.1 hi with rfl | hi
              . cases v
                . exact hab.2
                . exact hab.1
              . exact hf.items it (by rw [ht]; exact List.mem_cons_of_mem _ hi)
            . rw [gor_run, gor_run]
              unfold LF.fr
              rw [ht]
              simp [G, stepG, stepG.exec, ho']
          | _ =>
            refine .inr (.inl ?_)
            have ho' : ∀ (todo : List Item), ({ fn := f.fn, tmps := f.tmps, todo := todo, defers := [], mode := .run, kind := .normal } : Frame).eval o = (f.fr [] .run).eval o := fun todo => by cases o <;> rfl
            simp only [ho] at ho'
            rw [gor_run]
            unfold LF.fr
            rw [ht]
            simp [G, stepG, stepG.exec, ho']
        | block id c => exact .inl (mv (s := [.code c, .inBlock id]) hf hr ht (by intro it hi; simp only [List.mem_cons, List.not_mem_nil, or_false] at hi; rcases hi with rfl | rfl; exact hx; trivial) fun tmps k cs w main => by simp [G, stepG, stepG.exec])
        | loop c => exact .inl (mv (s := [.code c, .inLoop c]) hf hr ht (by intro it hi; simp only [List.mem_cons, List.not_mem_nil, or_false] at hi; rcases hi with rfl | rfl <;> exact hx) fun tmps k cs w main => by simp [G, stepG, stepG.exec])
        | exit id =>
          cases he : exitTo id t with
          | some t' =>
            refine .inl (good_move (c' := ⟨{ f with todo := t' }, false, rest⟩) ⟨⟨exitTo_ok he fun it hi => hf.items it (by rw [ht]; exact List.mem_cons_of_mem _ hi), hf.slots⟩, hr⟩ fun w main k B => ?_)
            rw [gor_run, gor_run]
            unfold LF.fr
            rw [ht]
            simp [G, stepG, stepG.exec, exitTo_app, he]
          | none =>
            refine .inr (.inl ?_)
            have he' : exitTo id (t ++ sfx k0 rest) = none := by rw [exitTo_app, he]; cases rest <;> rfl
            rw [gor_run]
            unfold LF.fr
            rw [ht]
            simp [G, stepG, stepG.exec, he']
        | ret =>
          refine .inl (good_move (c' := ⟨f, true, rest⟩) ⟨hf, hr⟩ fun w main k B => ?_)
          rw [gor_run, gor_ret]
          unfold LF.fr
          rw [ht]
          simp [G, stepG, stepG.exec]
        | refuse why =>
          refine .inr (.inl ?_)
          rw [gor_run]
          unfold LF.fr
          rw [ht]
          simp [G, stepG, stepG.exec]
        | _ => simp [ItemOk, okCode] at hx
      | inBlock id => exact .inl (mv (s := []) hf hr ht (by simp) fun tmps k cs w main => by simp [G, stepG, stepG.exec])
      | inLoop c => exact .inl (mv (s := [.code c, .inLoop c]) hf hr ht (by intro it hi; simp only [List.mem_cons, List.not_mem_nil, or_false] at hi; rcases hi with rfl | rfl <;> exact hx) fun tmps k cs w main => by simp [G, stepG, stepG.exec])
      | inRegion ops todo =>
        cases todo with
        | nil => exact .inl (mv (s := []) hf hr ht (by simp) fun tmps k cs w main => by simp [G, stepG, stepG.exec])
        | cons i r =>
          by_cases hwn : ((ops[i]?).map (Region.wanted · (yielded ops f.tmps))).getD false = true
          . cases ho : ops[i]? with
            | none => rw [ho] at hwn; simp at hwn
            | some o => exact lop hV w hf hr ht ho (by rw [ho] at hwn; simpa using hwn)
          . refine .inl (good_move (c' := ⟨{ f with tmps := putT ((ops[i]?).bind (·.dst)) f.tmps undef, todo := .inRegion ops r :: t }, false, rest⟩) ⟨hf.finish ht undef (fun _ _ _ => .inl rfl), hr⟩ fun w main k B => ?_)
            rw [gor_run, gor_run, <- finish_app ht]
            unfold LF.fr
            rw [ht]
            simp [G, stepG, stepG.exec, hwn]
      | _ => exact hx.elim
end Go.Proofs.YtcpldcojckhapaaGreat
