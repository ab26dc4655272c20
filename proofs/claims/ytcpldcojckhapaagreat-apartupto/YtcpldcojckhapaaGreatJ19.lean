/-
  
-/
import Derived.Test.YtcpldcojckhapaaGreatJ5
import Derived.Test.YtcpldcojckhapaaGreatProg
import Derived.WalkKit
import Derived.Test.YtcpldcojckhapaaGreatJ18
namespace Go.Proofs.YtcpldcojckhapaaGreat
open Go.Conc
def fS (f : Nat) : Bool := (5 <= f && f <= 169 && !(f == 6 || f == 9 || f == 30 || f == 67 || f == 101 || f == 102)) || (172 <= f && f <= 177) || (194 <= f && f <= 197)
def fM : FuncId -> List Nat
  | 103 => [1, 12]
  | 130 => [4, 29, 36, 43, 51, 60, 79, 84, 102, 110, 133, 145]
  | 153 => [3, 22]
  | 154 => [3, 28, 58]
  | 155 => [3]
  | 156 => [3, 39, 43, 47, 53]
  | 157 => [3]
  | 158 => [3, 23, 72, 112]
  | 159 => [4, 35, 54]
  | 160 => [4, 36, 54, 109, 127]
  | 172 => [4, 24, 43]
  | 175 => [3, 16]
  | 176 => [5, 18, 27, 36]
  | 177 => [4, 12]
  | _ => []
def fV : Env := { S := fS, M := fM, E := [170, 171, 191], nm := ["Len", "Swap", "Less", "Push", "Pop"], cf := 104 }
def fnOk (P : Program) (V : Env) (f : FuncId) : Bool :=
  match P.funcs[f]? with
  | some fn => !(fn.name == "runtime.NumGoroutine") && (match fn.body with | some c => okCode V f c | none => false)
  | none => false
theorem all_ok : ((List.range 200).all fun f => !fS f || fnOk Tryz.prog fV f) = true := by kernel_rfl
theorem n170 : (Extern.findNext Tryz.f170).isNone = true := by kernel_rfl
theorem n171 : (Extern.findNext Tryz.f171).isNone = true := by kernel_rfl
theorem n191 : (Extern.findNext Tryz.f191).isNone = true := by kernel_rfl
theorem m191 : (Extern.find Tryz.f191).isNone = true := by kernel_rfl
theorem m170 : Extern.find Tryz.f170 = some Extern.AbiNoEscape.same := by kernel_rfl
theorem m171 : Extern.find Tryz.f171 = some (Extern.BytealgMakeNoZero.makeNoZero Tryz.f171.params Tryz.f171.resultTypes) := by kernel_rfl
def okT (f : Nat) : Bool := (f == 88 || f == 125 || f == 191 || (194 <= f && f <= 197))
theorem meths : (Tryz.prog.types.all fun i => i.methods.all fun m => !(fV.nm.contains m.name) || (match m.func with | some (f, _) => okT f | none => true)) = true := by kernel_rfl
theorem noReady : (Tryz.prog.funcs.all fun f => match f.body with | some c => (readies c).isEmpty | none => true) = true := by kernel_rfl
theorem made_struct {info : TypeId -> Option TypeInfo} {fs : Array Field} {i : TypeInfo} (h : Made.reckonStruct info fs = some i) : i.methods = #[] := by
  unfold Made.reckonStruct at h
  simp only [bind, Option.bind_eq_some_iff, pure] at h
  obtain ⟨r, _, h⟩ := h
  revert h
  repeat' split
  all_goals (intro h; first | (subst h; rfl) | (simp only [Option.some.injEq] at h; subst h; rfl))
theorem made_meth {info : TypeId -> Option TypeInfo} {d : TypeDesc} {i : TypeInfo} (h : Made.reckon info d = some i) : i.methods = #[] := by
  unfold Made.reckon at h
  simp only [bind, pure] at h
  cases d with
  | pointer e =>
    obtain ⟨j, _, h⟩ := Option.bind_eq_some_iff.1 h
    split at h
    . cases h
    . split at h
      . cases h
      . obtain ⟨s, _, h⟩ := Option.bind_eq_some_iff.1 h
        rw [<- Option.some.inj h]; rfl
    . obtain ⟨s, _, h⟩ := Option.bind_eq_some_iff.1 h
      rw [<- Option.some.inj h]; rfl
  | slice e =>
    obtain ⟨j, _, h⟩ := Option.bind_eq_some_iff.1 h
    obtain ⟨s, _, h⟩ := Option.bind_eq_some_iff.1 h
    rw [<- Option.some.inj h]; rfl
  | map e f =>
    obtain ⟨j, _, h⟩ := Option.bind_eq_some_iff.1 h
    obtain ⟨s, _, h⟩ := Option.bind_eq_some_iff.1 h
    obtain ⟨j, _, h⟩ := Option.bind_eq_some_iff.1 h
    obtain ⟨s, _, h⟩ := Option.bind_eq_some_iff.1 h
    rw [<- Option.some.inj h]; rfl
  | chan dir e =>
    obtain ⟨j, _, h⟩ := Option.bind_eq_some_iff.1 h
    obtain ⟨s, _, h⟩ := Option.bind_eq_some_iff.1 h
    rw [<- Option.some.inj h]; rfl
  | func ps rs v =>
    obtain ⟨j, _, h⟩ := Option.bind_eq_some_iff.1 h
    rw [<- Option.some.inj h]; rfl
  | array n e =>
    obtain ⟨j, _, h⟩ := Option.bind_eq_some_iff.1 h
    obtain ⟨s, _, h⟩ := Option.bind_eq_some_iff.1 h
    rw [<- Option.some.inj h]
  | struct fs => exact made_struct h
  | _ => cases h
theorem info_meth {T : Tables} {t : TypeId} {i : TypeInfo} (h : T.info? t = some i) : (∃ k : Nat, T.types[k]? = some i) ∨ i.methods = #[] := by
  unfold Tables.info? at h
  split at h
  . exact .inl ⟨t, h⟩
  . rename_i hlt
    unfold Made.depth at h
    rw [Made.infoAt, if_neg hlt] at h
    obtain ⟨d, _, hd⟩ := Option.bind_eq_some_iff.1 h
    exact .inr (made_meth hd)
theorem okT_ok {f : Nat} (h : okT f = true) : (fV.S f = true /\ fV.M f = []) ∨ f ∈ fV.E := by
  have hl : f < 200 := by
    unfold okT at h
    simp only [Bool.or_eq_true, beq_iff_eq, Bool.and_eq_true, decide_eq_true_eq] at h
    omega
  have : ((List.range 200).all fun f => !okT f || ((fV.S f && (fV.M f).isEmpty) || fV.E.contains f)) = true := by kernel_rfl
  have h2 := List.all_eq_true.1 this f (List.mem_range.2 hl)
  simp only [h, Bool.not_true, Bool.false_or, Bool.or_eq_true, Bool.and_eq_true, List.isEmpty_iff, List.contains_iff_mem] at h2
  exact h2
theorem nm_meth {P : Program} (hM : (P.types.all fun i => i.methods.all fun m => !(fV.nm.contains m.name) || (match m.func with | some (f, _) => okT f | none => true)) = true) (name : String) (hn : name ∈ fV.nm) (d : Nat) (t : TypeId) (v : Value) : Nm P (fun r => (fV.S r.1 = true /\ fV.M r.1 = []) ∨ r.1 ∈ fV.E) (method d t v name) := by
  induction d generalizing t v with
  | zero => exact trivial
  | succ d ih =>
    unfold method
    refine nm_bind (Q := fun i => P.info? t = some i) ?_ fun i hi => ?_
    . unfold typeInfo
      show Nm _ _ (match P.info? t with | some i => pure i | none => stuck "no such type")
      cases hi : P.info? t with
      | none => exact trivial
      | some i => exact rfl
    . split
      . rename_i m hm
        refine nm_bind (nt_follow _ _ _) fun x _ => ?_
        obtain ⟨xt, x⟩ := x
        dsimp only
        split
        . refine nm_bind (nt_get _ _) fun y _ => ?_
          split
          . exact ih _ _
          . exact nm_mono (Q := fun _ => False) (by unfold runtimePanic; exact trivial) fun _ h => h.elim
          . exact trivial
        . rename_i f pr hf
          refine nm_bind (nt_receiverAt _ _ _ _) fun y _ => ?_
          show (fV.S f = true /\ fV.M f = []) ∨ f ∈ fV.E
          refine okT_ok ?_
          have hmem := Array.mem_of_find?_eq_some hm
          have hname : (m.name == name) = true := by simpa using Array.find?_some hm
          rcases info_meth hi with ⟨k, hk⟩ | h0
          . have h1 := Array.all_eq_true_iff_forall_mem.1 hM i (Array.mem_of_getElem? hk)
            have h2 := Array.all_eq_true_iff_forall_mem.1 h1 m hmem
            have e : m.name = name := by simpa using hname
            rw [hf, e] at h2
            simpa [hn] using h2
          . rw [h0] at hmem; simp at hmem
      . exact trivial
theorem nt_makeNoZero {P : Program} (a b : Array TypeId) (v : Array Value) : Nt P (Extern.BytealgMakeNoZero.makeNoZero a b v) := by
  rcases v with ⟨_ | ⟨x, _ | ⟨y, l⟩⟩⟩
  . exact trivial
  . cases x with
    | int k n =>
      cases k with
      | i64 =>
        show Nt _ (match b[0]? with | some t => _ | _ => _)
        repeat' first | exact trivial | assumption | with_reducible apply nt_underlying | with_reducible apply nt_runtimePanic | with_reducible apply nt_choose | with_reducible apply nt_askRoom | with_reducible apply nt_newRow | with_reducible apply nt_stuck | with_reducible apply nt_pure | with_reducible apply nt_ite | with_reducible apply nt_bind | with_reducible intro _ | split | dsimp only
      | _ => exact trivial
    | _ => exact trivial
  . exact trivial
theorem nt_same {P : Program} (v : Array Value) : Nt P (Extern.AbiNoEscape.same v) := by
  rcases v with ⟨_ | ⟨x, _ | ⟨y, l⟩⟩⟩ <;> exact trivial
def ExtOk (P : Program) (fn : Func) (args : Array Value) : Prop := match Extern.find fn with | some e => Nt P (e args) | none => fn = Tryz.f191
theorem bool_ne {b : Bool} (h : b = true) (h2 : b = false) : False := by rw [h] at h2; cases h2
theorem extOk_some {P : Program} {fn : Func} {args : Array Value} {e : Array Value -> Sem Value} (h : Extern.find fn = some e) (hn : Nt P (e args)) : ExtOk P fn args := by unfold ExtOk; rw [h]; exact hn
theorem extOk_none {P : Program} {args : Array Value} (h : (Extern.find Tryz.f191).isNone = true) : ExtOk P Tryz.f191 args := by unfold ExtOk; rw [Option.isNone_iff_eq_none.1 h]
set_option maxRecDepth 100000 in
theorem k170 (args : Array Value) : ExtOk Tryz.prog Tryz.f170 args := extOk_some m170 (nt_same args)
set_option maxRecDepth 100000 in
theorem k171 (args : Array Value) : ExtOk Tryz.prog Tryz.f171 args := extOk_some m171 (nt_makeNoZero _ _ args)
set_option maxRecDepth 100000 in
theorem k191 (args : Array Value) : ExtOk Tryz.prog Tryz.f191 args := extOk_none m191
theorem ext_key {P : Program} {f : FuncId} (args : Array Value) : ∀ fn, P.funcs[f]? = some fn -> (fn.name == "runtime.NumGoroutine") = false -> fn.body.isNone = true -> Extern.findNext fn = none ->
      ExtOk P fn args -> Nm P (fun n => ∃ v, n = .value v) (callFunc f args) := by
    intro fn h1 h2 h3 h4 h5
    unfold ExtOk at h5
    unfold callFunc
    show Nm _ _ (match P.funcs[f]? with | none => _ | some fn => _)
    rw [h1]
    show Nm _ _ (if _ then _ else if _ then _ else _)
    rw [if_neg (by simp [h2]), if_pos h3]
    refine nm_bind (nt_extern f) fun _ _ => ?_
    rw [h4]
    show Nm _ _ (match Extern.find fn with | some e => _ | none => _)
    cases he : Extern.find fn with
    | some e =>
      rw [he] at h5
      exact nm_bind h5 fun v _ => ⟨v, rfl⟩
    | none =>
      rw [he] at h5
      subst h5
      show Nm _ _ (if _ then _ else _)
      split
      . rename_i hc
        exact (bool_ne hc (by kernel_rfl)).elim
      . exact trivial
set_option maxRecDepth 100000 in
theorem nm_ext (f : FuncId) (hf : f ∈ fV.E) (args : Array Value) : Nm Tryz.prog (fun n => ∃ v, n = .value v) (callFunc f args) := by
  have key := ext_key (P := Tryz.prog) (f := f) args
  have n2 : ∀ {x : Option (Array Value -> Sem Next)}, x.isNone = true -> x = none := fun h => Option.isNone_iff_eq_none.1 h
  simp only [fV, List.mem_cons, List.not_mem_nil, or_false] at hf
  rcases hf with rfl | rfl | rfl
  . exact key _ Tryz.func170 (by kernel_rfl) (by kernel_rfl) (n2 n170) (k170 args)
  . exact key _ Tryz.func171 (by kernel_rfl) (by kernel_rfl) (n2 n171) (k171 args)
  . exact key _ Tryz.func191 (by kernel_rfl) (by kernel_rfl) (n2 n191) (k191 args)
theorem stepOf_none {P : Program} (hR : (P.funcs.all fun f => match f.body with | some c => (readies c).isEmpty | none => true) = true) (g : Nat) : P.stepOf g = none := by
  unfold Program.stepOf
  rw [Array.findIdx?_eq_none_iff]
  intro f hf
  have h := Array.all_eq_true_iff_forall_mem.1 hR f hf
  cases hb : f.body with
  | none => simp
  | some c =>
    rw [hb] at h
    simp only [List.isEmpty_iff] at h
    simp [h]
set_option maxRecDepth 100000 in
theorem fitV : Fit Tryz.prog fV where
  body := by
    intro f hf
    have hl : @LT.lt Nat _ f 200 := by
      have hf' : fS f = true := hf
      unfold fS at hf'
      simp only [Bool.or_eq_true, Bool.and_eq_true, decide_eq_true_eq] at hf'
      omega
    have h := List.all_eq_true.1 all_ok f (List.mem_range.2 hl)
    have hf' : fS f = true := hf
    simp only [hf', Bool.not_true, Bool.false_or] at h
    unfold fnOk at h
    split at h
    . rename_i fn hfn
      simp only [Bool.and_eq_true] at h
      obtain ⟨h1, h2⟩ := h
      split at h2
      . rename_i c hc
        exact ⟨fn, c, hfn, by simpa using h1, hc, h2⟩
      . cases h2
    . cases h
  ext := nm_ext
  meth := nm_meth meths
  cmp := ⟨rfl, rfl⟩
  ready := by
    intro g
    exact stepOf_none noReady g
end Go.Proofs.YtcpldcojckhapaaGreat

namespace Go.Proofs.YtcpldcojckhapaaGreat
open Go.Conc
variable {P : Program} {V : Env} {a : Act} {ops : Array Oper} {i : Nat} {rest : List Nat} {o : Oper} {b : Frame} {k : List Item} {cs : List Frame} {I : World -> Prop} {Q : Array Goroutine -> World -> Trace -> Prop}
theorem Tr.seq {x y : Code} (hI : Cl I) (h : Tri P (G (b.at a (.code x :: .code y :: k)) cs) I Q) : Tri P (G (b.at a (.code (.seq x y) :: k)) cs) I Q := Tri.ctl hI rfl (fun _ => stepG_seq) h
theorem Tr.skip (hI : Cl I) (h : Tri P (G (b.at a k) cs) I Q) : Tri P (G (b.at a (.code .skip :: k)) cs) I Q := Tri.ctl hI rfl (fun _ => stepG_skip) h
theorem Tr.block {id : Nat} {c : Code} (hI : Cl I) (h : Tri P (G (b.at a (.code c :: .inBlock id :: k)) cs) I Q) : Tri P (G (b.at a (.code (.block id c) :: k)) cs) I Q := Tri.ctl hI rfl (fun _ => stepG_block) h
theorem Tr.inBlock {id : Nat} (hI : Cl I) (h : Tri P (G (b.at a k) cs) I Q) : Tri P (G (b.at a (.inBlock id :: k)) cs) I Q := Tri.ctl hI rfl (fun _ => stepG_inBlock) h
theorem Tr.loop {c : Code} (hI : Cl I) (h : Tri P (G (b.at a (.code c :: .inLoop c :: k)) cs) I Q) : Tri P (G (b.at a (.code (.loop c) :: k)) cs) I Q := Tri.ctl hI rfl (fun _ => stepG_loop) h
theorem Tr.inLoop {c : Code} (hI : Cl I) (h : Tri P (G (b.at a (.code c :: .inLoop c :: k)) cs) I Q) : Tri P (G (b.at a (.inLoop c :: k)) cs) I Q := Tri.ctl hI rfl (fun _ => stepG_inLoop) h
theorem Tr.exit {id : Nat} {k' : List Item} (hI : Cl I) (hk : exitTo id k = some k') (h : Tri P (G (b.at a k') cs) I Q) : Tri P (G (b.at a (.code (.exit id) :: k)) cs) I Q := Tri.ctl hI rfl (fun _ => stepG_exit hk) h
theorem Tr.cond {c : Operand} {x y : Code} {t : Bool} (hI : Cl I) (hc : a.eval c = .bool t) (h : Tri P (G (b.at a (.code (if t then x else y) :: k)) cs) I Q) : Tri P (G (b.at a (.code (.cond c x y) :: k)) cs) I Q := Tri.ctl hI rfl (fun _ => stepG_cond hc) h
theorem Tr.region {id : Nat} (hI : Cl I) (h : Tri P (G (b.at a (.inRegion ops (List.range ops.size) :: k)) cs) I Q) : Tri P (G (b.at a (.code (.region id ops false) :: k)) cs) I Q := Tri.ctl hI rfl (fun _ => stepG_region) h
theorem Tr.nil (hI : Cl I) (h : Tri P (G (b.at a k) cs) I Q) : Tri P (G (b.at a (.inRegion ops [] :: k)) cs) I Q := Tri.ctl hI rfl (fun _ => stepG_region_end) h
theorem Tr.unwanted (hI : Cl I) (ho : ops[i]? = some o) (hw : Region.wanted o (yielded ops a.tmps) = false) (h : Tri P (G (b.at (a.put o.dst undef) (.inRegion ops rest :: k)) cs) I Q) : Tri P (G (b.at a (.inRegion ops (i :: rest) :: k)) cs) I Q := Tri.ctl hI rfl (fun _ => stepG_unwanted ho hw) h
theorem Tr.pure {v : Value} (hI : Cl I) (ho : ops[i]? = some o) (hw : Region.wanted o (yielded ops a.tmps) = true) (hk : b.kind ≠ .early) (hr : ∀ (w : World) (K : Result Next -> Prop), K (.ok (.value v) w) -> K ((execOp a.eval o).run P w)) (he : ∀ w : World, (execOp a.eval o).events P w #[] = #[])
    (h : Tri P (G (b.at (a.put o.dst v) (.inRegion ops rest :: k)) cs) I Q) : Tri P (G (b.at a (.inRegion ops (i :: rest) :: k)) cs) I Q := by
  refine Tri.ctl hI rfl (fun w => ?_) h
  rw [stepG_value ho hw hk (run_eq_of (hr w)), listed_nil (he w)]
theorem Tr.load (hI : Cl I) (ho : ops[i]? = some o) (hw : Region.wanted o (yielded ops a.tmps) = true) (hk : b.kind ≠ .early) {ty : TypeId} {x : Operand} (hop : o.op = .load ty x) {bl off : Nat} (hx : a.eval x = .pointer (some ⟨bl, off, none⟩))
    {vs : List Value} {v : Value} (hc : ∀ w, I w -> w.rangeAt bl off vs) (hv : LoadIs P ty vs v) (h : Tri P (G (b.at (a.put o.dst v) (.inRegion ops rest :: k)) cs) I Q) : Tri P (G (b.at a (.inRegion ops (i :: rest) :: k)) cs) I Q := by
  intro gs w t hi hb
  refine beside_move rfl (fun d => ?_) gs t hb
  have hi' := hI w w.tape d hi
  obtain ⟨w₁, hw₁⟩ : ∃ w₁, w₁ = rt w w.tape d := ⟨_, rfl⟩
  rw [<- hw₁] at hi' ⊢
  have hc' := hc _ hi'
  have hr : (execOp a.eval o).run P w₁ = .ok (.value v) w₁ := by
    unfold execOp
    simp only [hop, hx, Instr.loadAt, Instr.sureAddr, Sem.run_bind, Sem.run_pure, Result.andThen_ok, loadVar_is hv hc']
  refine ⟨_, w₁, _, stepG_value ho hw hk hr, fun e he => ?_, fun gs t hb => h gs w₁ t hi' hb⟩
  have hm := mem_listed he
  unfold execOp at hm
  simp only [hop, hx, Instr.loadAt, Instr.sureAddr, Sem.events_bind, Sem.run_bind, Sem.run_pure, Result.andThen_ok, Result.evThen_ok, Sem.events_pure, loadVar_is hv hc'] at hm
  obtain ⟨ad, h1, _⟩ := loadVar_ev hv hc' e hm
  simp [EvOk, h1]
theorem Tr.enter {f : FuncId} {args : Array Operand} {ats : Array TypeId} {fc : Func} {c : Code} {vals : Array Value} (hI : Cl I) (ho : ops[i]? = some o) (hw : Region.wanted o (yielded ops a.tmps) = true) (hk : b.kind ≠ .early) (hop : o.op = .call { callee := .value (.func f), args, argTypes := ats }) (hargs : args.map a.eval = vals) (hf : P.funcs[f]? = some fc) (hname : (fc.name == "runtime.NumGoroutine") = false) (hbody : fc.body = some c)
    (h : Tri P (G ((base f).at { tmps := vals ++ Array.replicate (fc.ntmps - vals.size) undef, defers := [] } [.code c]) (b.at a (.inRegion ops (i :: rest) :: k) :: cs)) I Q) : Tri P (G (b.at a (.inRegion ops (i :: rest) :: k)) cs) I Q := by
  subst hargs
  have hb' : fc.body.isNone = false := by rw [hbody]; rfl
  refine Tri.ctl hI rfl (fun w₁ => ?_) h
  rw [stepG_enter ho hw hk (run_call_body hop hf hname hb'), enter_at _ hf hbody]
  have : listed P b.fn a o w₁ = #[] := by unfold listed; rw [events_call_body hop hf hname hb']; exact seen_none P _
  rw [this]
theorem Tr.retT {f : FuncId} {fc : Func} {t : Tmp} (hI : Cl I) (hf : P.funcs[f]? = some fc) (hr : fc.results = #[.tmp t]) (hd : a.defers = []) {bc : Frame} {ac : Act} {opsc : Array Oper} {ic : Nat} {restc : List Nat} {oc : Oper} {kc : List Item} {csc : List Frame} (ho : opsc[ic]? = some oc)
    (h : Tri P (G (bc.at (ac.put oc.dst (a.tmps.getD t undef)) (.inRegion opsc restc :: kc)) csc) I Q) : Tri P (G ((base f).at a (.code .ret :: k)) (bc.at ac (.inRegion opsc (ic :: restc) :: kc) :: csc)) I Q := by
  have hfin : ∀ v, (bc.at ac (.inRegion opsc (ic :: restc) :: kc)).finish v = bc.at (ac.put oc.dst v) (.inRegion opsc restc :: kc) := fun v => by rw [Frame.finish_at, ho]; rfl
  refine Tri.ctl hI rfl (fun _ => stepG_ret') (Tri.ctl hI rfl (fun w => ?_) (by rw [<- hfin] at h; exact h))
  rw [stepG_leaveE (b := base f) rfl hd hf (results_tmp hr _ P w), events_results_tmp hr, seen_none]
theorem Tr.wp (hV : Fit P V) {c : Code} {fn : FuncId} (hc : okCode V fn c = true) {tmps : Array Value} (hs : Slots V fn tmps) {I : World -> Prop} (hI : Cl I) {J : Array Value -> World -> Prop} (hJ : ∀ a, Cl (J a))
    (hw : ∀ w, I w -> c.wp P (fun e a w' => e = .normal /\ a.defers = [] /\ J a.tmps w') ⟨tmps, []⟩ w) (hn : ∀ tmps', Tri P (G ((base fn).at ⟨tmps', []⟩ k) cs) (J tmps') Q) : Tri P (G ((base fn).at ⟨tmps, []⟩ (.code c :: k)) cs) I Q := Tri.wp hV hc hs hI hJ hw hn
end Go.Proofs.YtcpldcojckhapaaGreat
