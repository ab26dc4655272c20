/-
  
-/
import Derived.Test.YtcpldcojckhapaaGreatJ9
import Derived.Deep.MidRow
import Derived.Conc.AppendEvents3
import Derived.WalkKit
import Derived.WalkSpells
import Derived.WalkLawsBesides
import Derived.Below
import Derived.Deep.RegionWith
import Derived.Deep.RegionLaw
import Derived.Deep.QuietTactic
import Derived.BigQuiet
import Derived.BigRegion
import Derived.Deep.DeepMust
import Derived.Laws.IdiomStrings
import Derived.Laws.AppendOwnNone
import Derived.Laws.BitsAllLaws
import Derived.Deep.Cut
import Derived.Deep.CutRange
import Derived.Test.YtcpldcojckhapaaGreatRows
namespace Go.Proofs.YtcpldcojckhapaaGreat
open Go.Conc
variable {P : Program} {C : Ch} {main : Bool} {fn : FuncId} {Q : PostB} {a : Act} {mine : List Nat} {w : World} {ops : Array Oper} {i : Nat} {rest : List Nat} {o : Oper} {n : Nat}
theorem opsB_rel {todo : List Nat} {w₁ : World} (h : OpsB P C main fn ops todo n Q a mine w) (hr : Rel C mine w w₁) : OpsB P C main fn ops todo n Q a mine w₁ :=
  fun b k cs Stop m hb hk hc => (h b k cs Stop m hb hk hc).rel hr
theorem opsB_more {todo : List Nat} {n' : Nat} (h : OpsB P C main fn ops todo n Q a mine w) (hn : n <= n') : OpsB P C main fn ops todo n' Q a mine w :=
  fun b k cs Stop m hb hk hc => (h b k cs Stop m hb hk hc).mono (by omega)
theorem opsB_pure {v : Value} (ho : ops[i]? = some o) (hw : Region.wanted o (yielded ops a.tmps) = true) (hr : ∀ (w : World) (K : Result Next -> Prop), K (.ok (.value v) w) -> K ((execOp a.eval o).run P w)) (he : ∀ w : World, (execOp a.eval o).events P w #[] = #[])
    (h : OpsB P C main fn ops rest n Q (a.put o.dst v) mine w) : OpsB P C main fn ops (i :: rest) (n + 1) Q a mine w := by
  refine opsB_cons ho hw fun w₁ h₁ => ?_
  rw [run_eq_of (hr w₁)]
  refine ⟨?_, by rw [grow_self]; exact opsB_rel h h₁⟩
  rw [listed_nil (he w₁)]
  exact .idle ..
theorem cell_same {w w₁ : World} {b : Nat} (h : w₁.heap[b]? = w.heap[b]?) (x : Nat) (v : Option TypeId) : w₁.cell? ⟨b, x, v⟩ = w.cell? ⟨b, x, v⟩ := by unfold World.cell?; simp only [h]
theorem rangeAt_same {w w₁ : World} {b o : Nat} {cs : List Value} (h : w₁.heap[b]? = w.heap[b]?) (hr : w.rangeAt b o cs) : w₁.rangeAt b o cs := fun j v hv => by rw [cell_same h]; exact hr j v hv
def LoadIs (P : Program) (ty : TypeId) (cs : List Value) (v : Value) : Prop :=
  (P.info? ty).map (·.size) = some cs.length /\ ∃ d, P.underlying ty = some d /\ ((d.isRow = true /\ v = .agg cs.toArray) ∨ (d.isRow = false /\ cs = [v]))
theorem isAgg_run {ty : TypeId} {d : TypeDesc} (hu : P.underlying ty = some d) (w : World) : (isAgg ty).run P w = .ok d.isRow w := by
  unfold isAgg
  rw [Sem.run_bind, run_underlying hu w]
  cases d <;> simp_all [TypeDesc.isRow]
theorem loadVar_is {ty : TypeId} {cs : List Value} {v : Value} (h : LoadIs P ty cs v) {b off : Nat} (hc : w.rangeAt b off cs) : (loadVar ty ⟨b, off, none⟩).run P w = .ok v w := by
  obtain ⟨hi, d, hu, ⟨hd, rfl⟩ | ⟨hd, rfl⟩⟩ := h
  . exact run_loadVar_mid w b off ty cs d hc hu hd hi
  . have := hc 0 v (by simp)
    simp only [Nat.add_zero] at this
    simp [loadVar, Sem.run_bind, isAgg_run hu, hd, this]
theorem loadVar_ev {ty : TypeId} {cs : List Value} {v : Value} (h : LoadIs P ty cs v) {b off : Nat} (hc : w.rangeAt b off cs) : ∀ ev ∈ (loadVar ty ⟨b, off, none⟩).events P w #[], ev.readsIn (· = b) := by
  intro ev hev
  obtain ⟨hi, d, hu, hd⟩ := h
  cases hq : P.info? ty with
  | none => simp [hq] at hi
  | some inf =>
    have hs : inf.size = cs.length := by simpa [hq] using hi
    have hsz : (sizeOf ty).run P w = .ok cs.length w := by simp [sizeOf, typeInfo, hq, hs]
    rcases hd with ⟨hd, rfl⟩ | ⟨hd, rfl⟩
    . simp only [loadVar, Sem.events_bind, isAgg_run hu, hd, Result.evThen_ok, events_isAgg, if_true, hsz, events_sizeOf] at hev
      have hl : ∀ ev ∈ (loadCells ⟨b, off, none⟩ cs.length).events P w #[], ev ∈ (#[] : Array Event) ∨ ev.readsIn (· = b) :=
        events_loadCellsFrom_at ⟨b, off, none⟩ (· = b) rfl cs.length 0 #[] w #[] fun j hj => by
          rw [Nat.zero_add, Addr.add_mid, hc j cs[j] (List.getElem?_eq_getElem hj)]; rfl
      have hrun : (loadCells ⟨b, off, none⟩ cs.length).run P w = .ok cs.toArray w := run_loadCells_list (P := P) w ⟨b, off, none⟩ cs (fun j v hv => by rw [Addr.add_mid]; exact hc j v hv)
      rw [hrun] at hev
      simp only [Result.evThen_ok, Sem.events_pure] at hev
      rcases hl ev hev with h | h
      . simp at h
      . exact h
    . have := hc 0 v (by simp)
      simp only [Nat.add_zero] at this
      simp only [loadVar, Sem.events_bind, isAgg_run hu, hd, Result.evThen_ok, events_isAgg, Bool.false_eq_true, if_false, events_load, this] at hev
      simp at hev
      exact ⟨_, by rw [hev], by rw [hev], rfl⟩
theorem evM_read {b : Nat} (hb : Shared C b ∨ b ∈ mine) {ev : Event} (h : ev.readsIn (· = b)) : EvM C mine ev := by
  obtain ⟨ad, h1, h2, h3⟩ := h
  refine ⟨by simp [EvOk, h1], fun x hx => ?_⟩
  obtain ⟨l, wr, sy⟩ := ev
  simp only at h1 h2
  subst h1 h2
  simp only [MemAct.ofEvent, MemAct.touch?, Option.some.injEq] at hx
  subst hx
  refine .inl ⟨ad, rfl, ?_⟩
  rcases hb with hb | hb
  . exact .inr ⟨rfl, h3 ▸ hb⟩
  . exact .inl (h3 ▸ hb)
theorem evM_write {b : Nat} (hb : b ∈ mine) {ev : Event} {ad : Addr} (h1 : ev.loc = .cell ad) (h3 : ad.block = b) : EvM C mine ev := by
  refine ⟨by simp [EvOk, h1], fun x hx => ?_⟩
  obtain ⟨l, wr, sy⟩ := ev
  simp only at h1
  subst h1
  simp only [MemAct.ofEvent, MemAct.touch?, Option.some.injEq] at hx
  subst hx
  exact .inl ⟨ad, rfl, .inl (h3 ▸ hb)⟩
theorem Gua.read {es : Array Event} (h : ∀ e ∈ es, EvM C mine e) : Gua C mine w w es := ⟨rfl, rfl, rfl, Nat.le_refl _, fun _ _ _ => rfl, by rw [grow_self]; exact h⟩
theorem grow_alloc (mine : List Nat) (w : World) (x : Obj) : grow mine w (w.alloc x) = w.heap.size :: mine := by
  have : (w.alloc x).heap.size = w.heap.size + 1 := by show (w.heap.push x).size = _; simp
  unfold grow
  rw [this, Nat.add_sub_cancel_left]
  rfl
theorem grow_setRow (mine : List Nat) (w : World) (b : Nat) (c : Array Value) : grow mine w (w.setRow b c) = mine := by simp [grow]
theorem Gua.alloc (x : Obj) : Gua C mine w (w.alloc x) #[] := by
  refine ⟨rfl, rfl, rfl, by show w.heap.size <= (w.heap.push x).size; simp, fun b hb _ => ?_, by simp⟩
  show (w.heap.push x)[b]? = _
  rw [Array.getElem?_push, if_neg (by omega)]
theorem Gua.setRow {b : Nat} (c : Array Value) {es : Array Event} (hb : b ∈ mine) (h : ∀ e ∈ es, EvM C mine e) : Gua C mine w (w.setRow b c) es := by
  refine ⟨rfl, rfl, rfl, by simp, fun x _ hx => setRow_other w b x c (fun e => hx (e ▸ hb)), by rw [grow_setRow]; exact h⟩
theorem Rel.look {w₁ : World} (h : Rel C mine w w₁) {b : Nat} {X : Obj} (hb : Shared C b ∨ b ∈ mine) (hx : w.heap[b]? = some X) : w₁.heap[b]? = some X := (h.keep b hb).trans hx
theorem look_alloc {b : Nat} {X Y : Obj} (hx : w.heap[b]? = some X) : (w.alloc Y).heap[b]? = some X := by
  have : b < w.heap.size := (Array.getElem?_eq_some_iff.1 hx).1
  show (w.heap.push Y)[b]? = _
  rw [Array.getElem?_push, if_neg (by omega)]
  exact hx
theorem look_new {Y : Obj} : (w.alloc Y).heap[w.heap.size]? = some Y := by show (w.heap.push Y)[w.heap.size]? = _; simp
theorem look_row {b b' : Nat} {X : Obj} {c : Array Value} (hne : b' ≠ b) (hx : w.heap[b]? = some X) : (w.setRow b' c).heap[b]? = some X := by rw [setRow_other w b' b c (fun h => hne h.symm)]; exact hx
theorem range_of {b : Nat} {c : Array Value} {t : TypeId} {fr : Nat × Nat} (h : w.heap[b]? = some (.cells c t fr)) (off : Nat) {cs : List Value} (hc : ∀ j v, cs[j]? = some v -> c[off + j]? = some v) : w.rangeAt b off cs :=
  fun j v hv => by simp only [World.cell?, h]; exact hc j v hv
theorem opsB_alloc (ho : ops[i]? = some o) (hw : Region.wanted o (yielded ops a.tmps) = true) {ty : TypeId} (hop : o.op = .alloc ty) {z : Value} (hz : ∀ w, (zeroValue ty).run P w = .ok z w)
    (h : ∀ w₁, Rel C mine w w₁ -> OpsB P C main fn ops rest n Q (a.put o.dst (.pointer (some ⟨w₁.heap.size, 0, none⟩))) (w₁.heap.size :: mine) (w₁.alloc (.cells z.cells ty (0, 0)))) : OpsB P C main fn ops (i :: rest) (n + 1) Q a mine w := by
  refine opsB_cons ho hw fun w₁ h₁ => ?_
  have hn : ∀ x, (newObj x).run P w₁ = .ok w₁.heap.size (w₁.alloc x) := fun _ => rfl
  have hr : (execOp a.eval o).run P w₁ = .ok (.value (.pointer (some ⟨w₁.heap.size, 0, none⟩))) (w₁.alloc (.cells z.cells ty (0, 0))) := by
    unfold execOp
    simp only [hop, Instr.alloc, newVar, newRow, Sem.run_bind, hz, Result.andThen_ok, hn, Sem.run_pure]
  have he : (execOp a.eval o).events P w₁ #[] = #[] := by
    unfold execOp
    simp only [hop, Instr.alloc, newVar, newRow, Sem.events_bind, Sem.run_bind, hz, Result.andThen_ok, hn, Sem.run_pure, Result.evThen_ok, Sem.events_pure, events_newObj, events_zeroValue]
  rw [hr]
  exact ⟨by rw [listed_nil he]; exact .alloc _, by rw [grow_alloc]; exact h w₁ h₁⟩
theorem opsB_store (ho : ops[i]? = some o) (hw : Region.wanted o (yielded ops a.tmps) = true) {ty : TypeId} {x y : Operand} (hop : o.op = .store ty x y) {b : Nat} {v : Value} (hx : a.eval x = .pointer (some ⟨b, 0, none⟩)) (hy : a.eval y = v)
    {cur : Array Value} {t : TypeId} (hb : b ∈ mine) (hc : w.heap[b]? = some (.cells cur t (0, 0))) (hs : cur.size = v.cells.size) (hi : (P.info? ty).map (·.size) = some v.cells.size) (h1 : v.cells.all (·.oneCell') = true)
    (h : ∀ w₁, Rel C mine w w₁ -> OpsB P C main fn ops rest n Q (a.put o.dst undef) mine (w₁.setRow b v.cells)) : OpsB P C main fn ops (i :: rest) (n + 1) Q a mine w := by
  refine opsB_cons ho hw fun w₁ h₁ => ?_
  have hc' := h₁.look (.inr hb) hc
  cases hq : P.info? ty with
  | none => simp [hq] at hi
  | some inf =>
  have hsz : v.cells.size = inf.size := by simp [hq] at hi; omega
  have h1' : ∀ u ∈ v.cells.toList, u.oneCell' = true := fun u hu => (Array.all_eq_true_iff_forall_mem.1 h1) u (by simpa using hu)
  have hst := run_storeCells_at (P := P) b 0 t v.cells.toList 0 cur w₁ hc' (by simp [hs]) h1'
  have hd : cur.toList.drop (0 + 0 + v.cells.toList.length) = [] := List.drop_eq_nil_of_le (by simp [hs])
  rw [hd] at hst
  simp only [Nat.add_zero, List.take_zero, List.nil_append, List.append_nil, Array.toArray_toList] at hst
  have hsv : (sizeOf ty).run P w₁ = .ok v.cells.size w₁ := by simp [sizeOf, typeInfo, hq, hsz]
  have hr : (execOp a.eval o).run P w₁ = .ok .skip (w₁.setRow b v.cells) := by
    unfold execOp
    simp [hop, hx, hy, Instr.storeAt, Instr.sureAddr, storeVar, Sem.run_bind, hsv, hst]
  rw [hr]
  refine ⟨.setRow _ hb fun e he => ?_, by rw [grow_setRow]; exact h w₁ h₁⟩
  have hm := mem_listed he
  unfold execOp at hm
  simp [hop, hx, hy, Instr.storeAt, Instr.sureAddr, storeVar, hsv, Sem.events_bind] at hm
  rcases events_storeCells_at b 0 t v.cells.toList 0 cur w₁ _ hc' (by simp [hs]) h1' e hm with h | ⟨ad, e1, e2⟩
  . simp at h
  . exact evM_write hb e1 e2
/-! ### Calls -/
def bodyPostB (P : Program) (C : Ch) (fn : Func) (Post : Value -> List Nat -> World -> Prop) : PostB
  | .normal, a, mine, w | .ret, a, mine, w => a.defers = [] /\ ∀ w₁, Rel C mine w w₁ -> ∃ v, (results fn a.tmps).run P w₁ = .ok v w₁ /\ (∀ e ∈ (results fn a.tmps).events P w₁ #[], EvM C mine e) /\ Post v mine w₁
  | _, _, _, _ => False
def CallsB (P : Program) (C : Ch) (main : Bool) (f : FuncId) (args : Array Value) (n : Nat) (mine : List Nat) (w : World) (Post : Value -> List Nat -> World -> Prop) : Prop :=
  ∃ fn c, P.funcs[f]? = some fn /\ (fn.name == "runtime.NumGoroutine") = false /\ fn.body = some c /\
    WpB P C main f c n (bodyPostB P C fn Post) { tmps := args ++ Array.replicate (fn.ntmps - args.size) undef, defers := [] } mine w
theorem stepG_leaveE {b : Frame} {fn : Func} {todo : List Item} {c : Frame} {cs : List Frame} {v : Value} (hn : b.kind = .normal) (hd : a.defers = []) (hf : P.funcs[b.fn]? = some fn) (hr : (results fn a.tmps).run P w = .ok v w) :
    stepG P main (G { b.at a todo with mode := .returning } (c :: cs)) w = .go (G (c.finish v) cs) w (seen P b.fn ((results fn a.tmps).events P w #[])) := by
  simp [G, stepG, unwind, doReturn, Frame.at, hn, hd, hf, hr, GStep.after]
theorem Gb.step {Stop : List Nat -> Goroutine -> World -> Prop} {g : Goroutine} (hr : g.status = .running) (h : ∀ w₁, Rel C mine w w₁ -> ∃ g' w' es, stepG P main g w₁ = .go g' w' es /\ g'.status = .running /\ Gua C mine w₁ w' es /\ Gb P C main Stop n (grow mine w₁ w') g' w') : Gb P C main Stop (n + 1) mine g w := .inr ⟨hr, h⟩
theorem opsB_call {f : FuncId} {args : Array Operand} {ats : Array TypeId} {nf : Nat} {Post : Value -> List Nat -> World -> Prop} (ho : ops[i]? = some o) (hw : Region.wanted o (yielded ops a.tmps) = true) (hop : o.op = .call { callee := .value (.func f), args, argTypes := ats })
    (hcall : CallsB P C main f (args.map a.eval) nf mine w Post) (hnext : ∀ v m' w', Post v m' w' -> OpsB P C main fn ops rest n Q (a.put o.dst v) m' w') : OpsB P C main fn ops (i :: rest) (n + nf + 3) Q a mine w := by
  intro b k cs Stop m hb hk hc
  obtain ⟨fc, c, hf, hname, hbody, hwp⟩ := hcall
  have hfin : ∀ v, (b.at a (.inRegion ops (i :: rest) :: k)).finish v = b.at (a.put o.dst v) (.inRegion ops rest :: k) := fun v => by rw [Frame.finish_at, ho]; rfl
  have hleave : ∀ (a' : Act) (mine' : List Nat) (w' : World) (todo : List Item), (a'.defers = [] /\ ∀ w₁, Rel C mine' w' w₁ -> ∃ v, (results fc a'.tmps).run P w₁ = .ok v w₁ /\ (∀ e ∈ (results fc a'.tmps).events P w₁ #[], EvM C mine' e) /\ Post v mine' w₁) ->
      Gb P C main Stop (m + n + 1) mine' (G { (base f).at a' todo with mode := .returning } (b.at a (.inRegion ops (i :: rest) :: k) :: cs)) w' := by
    rintro a' mine' w' todo ⟨hd, hv⟩
    refine Gb.step rfl fun w₁ h₁ => ?_
    obtain ⟨v, q1, q2, q3⟩ := hv w₁ h₁
    refine ⟨_, w₁, _, stepG_leaveE (b := base f) rfl hd hf q1, rfl, .read fun e he => q2 e (mem_seen he), ?_⟩
    rw [grow_self, hfin]
    exact hnext v mine' w₁ q3 b k cs Stop m hb hk hc
  have hbodyG : Gb P C main Stop (m + n + 2 + nf) mine (G ((base f).at { tmps := args.map a.eval ++ Array.replicate (fc.ntmps - (args.map a.eval).size) undef, defers := [] } [.code c]) (b.at a (.inRegion ops (i :: rest) :: k) :: cs)) w := by
    refine hwp (base f) [] _ Stop (m + n + 2) rfl (by simp [base]) fun e a' m' w' q => ?_
    cases e with
    | normal => exact Gb.ctl rfl rfl (fun _ => stepG_end) (hleave a' m' w' [] q)
    | ret => exact fun todo => (hleave a' m' w' todo q).more
    | _ => exact q.elim
  have e : m + (n + nf + 3) = (m + n + 2 + nf) + 1 := by omega
  rw [e]
  have hb' : fc.body.isNone = false := by rw [hbody]; rfl
  refine Gb.ctl rfl rfl (fun w₁ => ?_) hbodyG
  rw [stepG_enter ho hw hk (run_call_body hop hf hname hb'), enter_at _ hf hbody]
  have : listed P b.fn a o w₁ = #[] := by unfold listed; rw [events_call_body hop hf hname hb']; exact seen_none P _
  rw [this]
theorem results_tmpB {fc : Func} {t : Tmp} (h : fc.results = #[.tmp t]) {Post : Value -> List Nat -> World -> Prop} (hd : a.defers = []) (hp : ∀ w₁, Rel C mine w w₁ -> Post (a.tmps.getD t undef) mine w₁) : bodyPostB P C fc Post .ret a mine w :=
  ⟨hd, fun w₁ h₁ => ⟨_, results_tmp h _ P w₁, by rw [events_results_tmp h]; simp, hp w₁ h₁⟩⟩
end Go.Proofs.YtcpldcojckhapaaGreat

namespace Go.Proofs.YtcpldcojckhapaaGreat
open Go.Conc
variable {P : Program} {C : Ch} {main : Bool} {fn : FuncId} {a : Act} {mine : List Nat} {w : World}
def DG (C : Ch) (mine : List Nat) (w w' : World) (es : Array Event) : Prop := Gua C mine w w' es /\ w'.heap.size = w.heap.size
theorem termsG (C : Ch) (mine : List Nat) : Terms (Rel C mine) (DG C mine) := ⟨fun _ _ _ h k => h.trans k, fun _ => ⟨.idle .., rfl⟩⟩
theorem Gua.draw : Gua C mine w { w with drawn := w.drawn + 1 } #[] := ⟨rfl, rfl, rfl, Nat.le_refl _, fun _ _ _ => rfl, by simp⟩
theorem relDraw (C : Ch) (mine : List Nat) (w : World) : Rel C mine w { w with drawn := w.drawn + 1 } := ⟨rfl, rfl, rfl, Nat.le_refl _, fun _ _ => rfl⟩
theorem gb_of_goes {Stop : List Nat -> Goroutine -> World -> Prop} {m : Nat} : ∀ (n : Nat) (g : Goroutine) (w : World), Goes P main (Rel C mine) (DG C mine) (fun g w => g.status = .running /\ Gb P C main Stop m mine g w) n g w -> g.status = .running /\ Gb P C main Stop (m + n) mine g w
  | 0, g, w, h => h w (.refl ..)
  | n + 1, g, w, h => by
    rcases h with h | ⟨hs, h⟩
    . exact ⟨(h w (.refl ..)).1, (h w (.refl ..)).2.mono (by omega)⟩
    . refine ⟨hs, Gb.step hs fun w₁ h₁ => ?_⟩
      have := h w₁ h₁
      revert this
      cases hg : stepG P main g w₁ with
      | go g' w' es =>
        rintro ⟨⟨d1, d2⟩, k⟩
        have ih := gb_of_goes n g' w' k
        refine ⟨g', w', es, rfl, ih.1, d1, ?_⟩
        have : grow mine w₁ w' = mine := by simp [grow, d2]
        rw [this]
        exact ih.2
      | _ => exact fun h => h.elim
theorem wpB_of_wpC {c : Code} {n : Nat} {Q : Exit -> Act -> World -> Prop} (h : c.wpC P main (Rel C mine) (DG C mine) fn n Q a w) : WpB P C main fn c n (fun e a' m' w' => m' = mine /\ Q e a' w') a mine w := by
  intro b k cs Stop m hb hk hc
  refine (gb_of_goes n _ _ ?_).2
  have := h b k cs (fun g w => g.status = .running /\ Gb P C main Stop m mine g w) 0 hb hk fun e a' w' q => by
    have h2 := hc e a' mine w' ⟨rfl, q⟩
    cases e with
    | normal => exact fun w₁ h₁ => ⟨rfl, Gb.rel h2 h₁⟩
    | exit id => obtain ⟨k', hk', hg⟩ := h2; exact ⟨k', hk', fun w₁ h₁ => ⟨rfl, hg.rel h₁⟩⟩
    | ret => exact fun todo w₁ h₁ => ⟨rfl, (h2 todo).rel h₁⟩
    | _ => exact h2
  rw [Nat.zero_add] at this
  exact this
theorem callsB_of_callsC {f : FuncId} {args : Array Value} {n : Nat} {Post : Value -> World -> Prop} (h : CallsC P main (Rel C mine) (DG C mine) f args n w Post) : CallsB P C main f args n mine w fun v m' w' => m' = mine /\ ∃ w₀, Rel C mine w₀ w' /\ Post v w₀ := by
  obtain ⟨fc, c, hf, hn, hb, hw⟩ := h
  refine ⟨fc, c, hf, hn, hb, wpB_mono (wpB_of_wpC hw) fun e a' m' w' q => ?_⟩
  obtain ⟨rfl, q⟩ := q
  cases e <;> first | exact q.elim | exact ⟨q.1, fun w₁ h₁ => by
    obtain ⟨v, hv, hp⟩ := q.2
    exact ⟨v, (hv w₁).1, by rw [(hv w₁).2]; simp, rfl, w', h₁, hp⟩⟩
end Go.Proofs.YtcpldcojckhapaaGreat

set_option maxRecDepth 100000
namespace Go.Proofs.YtcpldcojckhapaaGreat
open Go.RowKit
theorem vint {k : IntKind} {a b : Int} (h : a = b) : Value.int k a = Value.int k b := by rw [h]
theorem rint {k : IntKind} {a b : Int} (h : a = b) : Ending.returned (.int k a) = .returned (.int k b) := by rw [h]
theorem bcell {W w1 : World} (hb : Below W.heap.size W w1) : (∀ b o, b < W.heap.size -> w1.cell? ⟨b, o, none⟩ = W.cell? ⟨b, o, none⟩) /\ (∀ b o, b < W.heap.size -> w1.frozen? ⟨b, o, none⟩ = W.frozen? ⟨b, o, none⟩) :=
  ⟨fun b o h => hb.cell (p := ⟨b, o, none⟩) h, fun b o h => hb.frozen (p := ⟨b, o, none⟩) h⟩
theorem rbool {a b : Bool} (h : a = b) : Ending.returned (.bool a) = .returned (.bool b) := by rw [h]
theorem ownsRow_below {w w' : World} {base : Nat} {e : TypeId} {size : Nat} {v : Value} {n : Nat} {xs : List Value} (h : w.ownsRow base e size v n xs) (hb : Below w.heap.size w w') : w'.ownsRow base e size v n xs := by
  refine ⟨h.1, ?_⟩
  rcases h.2 with h0 | ⟨g, cap, cur, hv, hg, hh, h1, h2, h3, h4⟩
  . exact .inl h0
  . exact .inr ⟨g, cap, cur, hv, hg, (hb.block g (lt_of_block hh)).trans hh, h1, h2, h3, h4⟩
theorem cell_three_new (w : World) (a b c : Value) (t : TypeId) : ∀ j u, [a, b, c][j]? = some u -> (w.alloc (.cells #[a, b, c] t)).cell? ((⟨w.heap.size, 0, none⟩ : Addr).add j) = some u := by
  intro j u hj
  match j, hj with
  | 0, hj => simp at hj; subst hj; simp [Addr.add]
  | 1, hj => simp at hj; subst hj; simp [Addr.add]
  | 2, hj => simp at hj; subst hj; simp [Addr.add]
theorem step_call {P : Program} {ops : Array Oper} {o : Oper} {a : Act} {w : World} {K : Act -> World -> Prop} {Q : Exit -> Act -> World -> Prop} {E : Prop}
    (hg : o.guard = none) (f : FuncId) (xs : Array Operand) (ts : Array TypeId) (hop : o.op = Op.call { callee := Callee.value (Operand.func f), args := xs, argTypes := ts })
    (vs : Array Value) (hx : xs.map a.eval = vs) (hrun : (callFunc f vs).run P w = .ok (.enter f vs) w)
    (R : Value -> World -> Prop) (hc : Calls P f vs w fun e w' => ∃ v, e = .returned v /\ R v w')
    (hK : ∀ v w', R v w' -> K (a.put o.dst v) w') :
    if Region.wanted o (yielded ops a.tmps) = true then Oper.wp P o a w K Q else E := by
  have hw : Region.wanted o (yielded ops a.tmps) = true := by simp [Region.wanted, hg]
  rw [if_pos hw]
  unfold Oper.wp
  have : (execOp a.eval o).run P w = .ok (.enter f vs) w := by
    simp [execOp, hop, resolve, invoke, hx, hrun, Act.eval, Deferred.ofValue]
  rw [this, Oper.upon_enter]
  refine hc.mono ?_
  rintro e w' ⟨v, rfl, hr⟩
  exact hK v w' hr
theorem step_append_own {P : Program} {ops : Array Oper} {o : Oper} {a : Act} {w : World} {K : Act -> World -> Prop} {Q : Exit -> Act -> World -> Prop} {E : Prop}
    (hg : o.guard = none) (s x : Operand) (t : TypeId) (hop : o.op = Op.call { callee := Callee.builtin Builtin.append, args := #[s, x], argTypes := #[t, t] })
    (base : Nat) (e : TypeId) (i : TypeInfo) (z : Value) (size bytes : Nat) (h1 : P.underlying t = some (.slice e)) (h2 : P.info? e = some i) (h3 : i.zero = some z) (h4 : i.size = size) (h5 : i.bytes = bytes) (h6 : z.cells.size = size) (h7 : 0 < size)
    (v : Value) (n : Nat) (xs : List Value) (hs : a.eval s = v) (hown : w.ownsRow base e size v n xs)
    (ad : Addr) (m c : Nat) (news : List Value) (hx : a.eval x = .slice (some ad) m c) (hn : news.length = m * size) (hc : ∀ j u, news[j]? = some u -> w.cell? (ad.add j) = some u) (h1c : ∀ u ∈ news, u.oneCell' = true)
    (b1 : n + m <= maxLen) (b2 : (n + m) * bytes <= 140737488355328) (hbase : base <= w.heap.size)
    (hK : ∀ v' w', w'.ownsRow base e size v' (n + m) (xs ++ news) -> w.grownBy w' v.ownBlock -> K (a.put o.dst v') w') :
    if Region.wanted o (yielded ops a.tmps) = true then Oper.wp P o a w K Q else E := by
  have hw : Region.wanted o (yielded ops a.tmps) = true := by simp [Region.wanted, hg]
  rw [if_pos hw]
  exact wp_append_own w s x t hop base e i z size bytes h1 h2 h3 h4 h5 h6 h7 v n xs hs hown ad m c news hx hn hc h1c b1 b2 hbase fun v' w' r1 r2 _ => hK v' w' r1 r2
theorem bel_alloc {w W : World} (h : Below w.heap.size w W) (o : Obj) : Below w.heap.size w (W.alloc o) := h.alloc h.size o
theorem bel_then {w W W' : World} (h : Below w.heap.size w W) (h' : Below W.heap.size W W') : Below w.heap.size w W' := h.trans (h'.mono h.size)
theorem own_view {w : World} {base : Nat} {e : TypeId} {v : Value} {n : Nat} {xs : List Value} {size : Nat} (h : w.ownsRow base e size v n xs) :
    ∃ a c, v = .slice a n c /\ ∀ i, i < n -> ∃ g, a = some ⟨g, 0, none⟩ /\ g < w.heap.size /\ ∀ j, j < n * size -> w.cell? ⟨g, j, none⟩ = xs[j]? := by
  rcases h.2 with ⟨rfl, rfl⟩ | ⟨g, cap, cur, rfl, hb, hg, h1, h2, h3, h4⟩
  . exact ⟨none, 0, rfl, fun i hi => absurd hi (Nat.not_lt_zero _)⟩
  . exact ⟨some ⟨g, 0, none⟩, cap, rfl, fun i hi => ⟨g, rfl, lt_of_block hg, fun j hj => h.cellAt j hj⟩⟩
theorem hideF {p : Prop} (h : p) : Hid p := h
section
variable {w w' : World} {B : Nat} {e : TypeId} {size : Nat} {v : Value} {n : Nat} {xs : List Value}
theorem own_same (h : w.ownsRow B e size v n xs) (hs : ∀ g, v.ownBlock = some g -> w'.heap[g]? = w.heap[g]?) : w'.ownsRow B e size v n xs := by
  refine ⟨h.1, ?_⟩
  rcases h.2 with h0 | ⟨g, cap, cur, rfl, hg, hh, h1, h2, h3, h4⟩
  . exact .inl h0
  . exact .inr ⟨g, cap, cur, rfl, hg, (hs g rfl).trans hh, h1, h2, h3, h4⟩
theorem own_block (h : w.ownsRow B e size v n xs) : ∀ g, v.ownBlock = some g -> ∃ cur, w.heap[g]? = some (.cells cur e (0, 0)) := by
  intro g hg
  rcases h.2 with ⟨rfl, _⟩ | ⟨g', cap, cur, rfl, hb, hh, _⟩
  . simp [Value.ownBlock] at hg
  . simp [Value.ownBlock] at hg
    subst hg
    exact ⟨cur, hh⟩
end
section
variable {w w' : World} {B : Nat} {eO e : TypeId} {size : Nat} {mk : Nat -> List Value} {Q : Nat -> Prop} {N q : Nat} {vO v : Value} {m : Nat}
end
def PartC (w : World) (B : Nat) (e : TypeId) (size : Nat) (v : Value) (n K : Nat) (xs : List Value) : Prop :=
  (v = .slice none 0 0 /\ n = 0) ∨ ∃ g cap cur, v = .slice (some ⟨g, 0, none⟩) n cap /\ B <= g /\ w.heap[g]? = some (Obj.cells cur e (0, 0)) /\ n <= cap /\ cap <= maxLen /\ cur.size = cap * size /\ ∀ x, x < K -> cur[x]? = xs[x]?
section
variable {w w' : World} {B : Nat} {e : TypeId} {size : Nat} {v : Value} {n K : Nat} {xs ys : List Value}
theorem PartC.own (h : PartC w B e size v n K xs) (hx : xs.length = n * size) (hK : K = n * size) : w.ownsRow B e size v n xs := by
  refine ⟨hx, ?_⟩
  rcases h with h0 | ⟨g, cap, cur, hv, hg, hh, h1, h2, h3, h4⟩
  . exact .inl h0
  . refine .inr ⟨g, cap, cur, hv, hg, hh, h1, h2, h3, ?_⟩
    have hle : n * size <= cap * size := Nat.mul_le_mul_right _ h1
    apply List.ext_getElem?
    intro x
    rw [List.getElem?_take]
    split
    . rename_i hlt
      rw [<- h4 x (by omega)]
      simp
    . rename_i hlt
      rw [List.getElem?_eq_none (by omega)]
theorem PartC.same (h : PartC w B e size v n K xs) (hs : ∀ g, v.ownBlock = some g -> w'.heap[g]? = w.heap[g]?) : PartC w' B e size v n K xs := by
  rcases h with h0 | ⟨g, cap, cur, rfl, hg, hh, r⟩
  . exact .inl h0
  . exact .inr ⟨g, cap, cur, rfl, hg, (hs g rfl).trans hh, r⟩
theorem PartC.step {g cap : Nat} {a : Value} (h : PartC w B e size (.slice (some ⟨g, 0, none⟩) n cap) n K xs) (ha : xs[K]? = some a) (hK : K < n * size) : PartC (w.setCell ⟨g, K, none⟩ a) B e size (.slice (some ⟨g, 0, none⟩) n cap) n (K + 1) xs := by
  rcases h with ⟨h0, _⟩ | ⟨g', cap', cur, hv, hg, hh, h1, h2, h3, h4⟩
  . simp at h0
  . simp only [Value.slice.injEq, Option.some.injEq, Addr.mk.injEq, and_true, true_and] at hv
    obtain ⟨rfl, rfl⟩ := hv
    refine .inr ⟨g, cap, cur.setIfInBounds K a, rfl, hg, heap_setCell_same w g K cur e a hh, h1, h2, by rw [Array.size_setIfInBounds]; exact h3, fun x hx => ?_⟩
    have hle : n * size <= cap * size := Nat.mul_le_mul_right _ h1
    rw [Array.getElem?_setIfInBounds]
    by_cases e1 : K = x
    . subst e1
      rw [if_pos rfl, if_pos (by omega), ha]
    . rw [if_neg e1]
      exact h4 x (by omega)
theorem PartC.cells {g cap : Nat} (h : PartC w B e size (.slice (some ⟨g, 0, none⟩) n cap) n K xs) : (∀ j, j < n * size -> ∃ u, w.cell? ⟨g, j, none⟩ = some u) /\ ∀ j, w.frozen? ⟨g, j, none⟩ = false := by
  rcases h with ⟨h0, _⟩ | ⟨g', cap', cur, hv, hg, hh, h1, h2, h3, h4⟩
  . simp at h0
  . simp only [Value.slice.injEq, Option.some.injEq, Addr.mk.injEq, and_true, true_and] at hv
    obtain ⟨rfl, rfl⟩ := hv
    have hle : n * size <= cap * size := Nat.mul_le_mul_right _ h1
    refine ⟨fun j hj => ?_, fun j => frozen_of_row w g j cur e hh⟩
    rw [cell_of_row w g j cur e (0, 0) hh, Array.getElem?_eq_getElem (by omega)]
    exact ⟨_, rfl⟩
end
section
variable {w wr w3 : World} {B kb mb : Nat} {cs : Value -> Array Value} {mc : Option (Array Value)} {eO e : TypeId} {size : Nat} {mk : Nat -> List Value} {Q : Nat -> Prop} {N q : Nat} {vF vC vO v : Value} {m : Nat}
end
theorem own_base {w : World} {B B' : Nat} {e : TypeId} {size : Nat} {v : Value} {n : Nat} {xs : List Value} (h : w.ownsRow B' e size v n xs) (hb : B <= B') : w.ownsRow B e size v n xs := by
  refine ⟨h.1, ?_⟩
  rcases h.2 with h0 | ⟨g, cap, cur, hv, hg, r⟩
  . exact .inl h0
  . exact .inr ⟨g, cap, cur, hv, Nat.le_trans hb hg, r⟩
theorem cell_four_new (w : World) (a b c d : Value) (t : TypeId) : ∀ j u, [a, b, c, d][j]? = some u -> (w.alloc (.cells #[a, b, c, d] t)).cell? ((⟨w.heap.size, 0, none⟩ : Addr).add j) = some u := by
  intro j u hj
  match j, hj with
  | 0, hj => simp at hj; subst hj; simp [Addr.add]
  | 1, hj => simp at hj; subst hj; simp [Addr.add]
  | 2, hj => simp at hj; subst hj; simp [Addr.add]
  | 3, hj => simp at hj; subst hj; simp [Addr.add]
theorem flat_gen {α : Type} (enc : α -> List Value) (size : Nat) (henc : ∀ x, (enc x).length = size) (l : List α) (q j : Nat) (h : q < l.length) (hj : j < size) : (l.flatMap enc)[q * size + j]? = (enc l[q])[j]? := by
  induction l generalizing q with
  | nil => exact absurd h (by simp)
  | cons x l ih =>
    rw [List.flatMap_cons]
    cases q with
    | zero => rw [Nat.zero_mul, Nat.zero_add, List.getElem?_append_left (by rw [henc]; exact hj)]; rfl
    | succ q =>
      have hm : (q + 1) * size = q * size + size := Nat.succ_mul q size
      rw [List.getElem?_append_right (by rw [henc]; omega), henc, show (q + 1) * size + j - size = q * size + j by omega]
      exact ih q (by simpa using h)
theorem flat_len {α : Type} (enc : α -> List Value) (size : Nat) (henc : ∀ x, (enc x).length = size) (l : List α) : (l.flatMap enc).length = l.length * size := by
  induction l with
  | nil => simp
  | cons x l ih => rw [List.flatMap_cons, List.length_append, ih, henc, List.length_cons, Nat.succ_mul]; omega
end Go.Proofs.YtcpldcojckhapaaGreat

set_option maxRecDepth 100000
namespace Go.Proofs.YtcpldcojckhapaaGreat
open Go.RowKit
theorem Tryz.infoEI : (Tryz.prog.info? 3).map (fun i => (i.zero, i.size, i.bytes)) = some (some (.int .i64 0), 1, 8) := by kernel_rfl
def encI (x : Int) : List Value := [.int .i64 x]
theorem encI_one (l : List Int) : ∀ u ∈ l.flatMap encI, u.oneCell' = true := by
  intro u hu
  obtain ⟨x, _, hx⟩ := List.mem_flatMap.1 hu
  simp [encI] at hx
  subst hx; rfl
def encF (x : (Int × Int × ByteArray)) : List Value := [.int .i64 x.1, .int .i64 x.2.1, .string x.2.2]
theorem Tryz.infoEA : (Tryz.prog.info? 77).map (fun i => (i.zero, i.size, i.bytes)) = some (some (.agg #[.int .u8 0, .int .i64 0, .int .i64 0, .string ⟨#[]⟩]), 4, 40) := by kernel_rfl
def encA (x : (Int × Int × Int × ByteArray)) : List Value := [.int .u8 x.1, .int .i64 x.2.1, .int .i64 x.2.2.1, .string x.2.2.2]
theorem encA_one (l : List (Int × Int × Int × ByteArray)) : ∀ u ∈ l.flatMap encA, u.oneCell' = true := by
  intro u hu
  obtain ⟨x, _, hx⟩ := List.mem_flatMap.1 hu
  simp [encA] at hx
  rcases hx with rfl | rfl | rfl | rfl <;> rfl
theorem Tryz.infoET : (Tryz.prog.info? 9).map (fun i => (i.zero, i.size, i.bytes)) = some (some (.string ⟨#[]⟩), 1, 16) := by kernel_rfl
def encT (x : ByteArray) : List Value := [.string x]
def wordB (n : Nat) : ByteArray := ⟨#[UInt8.ofNat (n % 256), UInt8.ofNat (n / 256 % 256), UInt8.ofNat (n / 65536 % 256), 109]⟩
def mkT (i : Nat) : List Value := [.string (wordB i)]
end Go.Proofs.YtcpldcojckhapaaGreat
