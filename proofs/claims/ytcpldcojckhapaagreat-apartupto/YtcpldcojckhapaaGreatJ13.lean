/-
  
-/
import Derived.Test.YtcpldcojckhapaaGreatJ12
import Derived.Deep.RegionWith
import Derived.Deep.QuietTactic
import Derived.BigQuiet
import Derived.BigRegion
import Derived.PlainAid
namespace Go.Proofs.YtcpldcojckhapaaGreat
open Go.Conc
variable {P : Program} {C : Ch} {main : Bool} {fn : FuncId} {ops : Array Oper} {Q : PostB} {md : Region.Mode} {nf : Nat}
theorem CallsB.rel {f : FuncId} {args : Array Value} {n : Nat} {mine : List Nat} {w w₁ : World} {Post : Value -> List Nat -> World -> Prop} (h : CallsB P C main f args n mine w Post) (hr : Rel C mine w w₁) : CallsB P C main f args n mine w₁ Post := by
  obtain ⟨fc, c, hf, hn, hb, hw⟩ := h
  exact ⟨fc, c, hf, hn, hb, wpB_rel hw hr⟩
def Enters (P : Program) (o : Oper) (a : Act) (f : FuncId) (vals : Array Value) : Prop := ∀ w, (execOp a.eval o).run P w = .ok (.enter f vals) w /\ (execOp a.eval o).events P w #[] = #[]
theorem opsB_enter {a : Act} {mine : List Nat} {w : World} {i : Nat} {rest : List Nat} {o : Oper} {n : Nat} {f : FuncId} {vals : Array Value} {Post : Value -> List Nat -> World -> Prop} (ho : ops[i]? = some o) (hw : Region.wanted o (yielded ops a.tmps) = true) (he : Enters P o a f vals)
    (hcall : CallsB P C main f vals nf mine w Post) (hnext : ∀ v m' w', Post v m' w' -> OpsB P C main fn ops rest n Q (a.put o.dst v) m' w') : OpsB P C main fn ops (i :: rest) (n + nf + 3) Q a mine w := by
  intro b k cs Stop m hb hk hc
  obtain ⟨fc, c, hf, hname, hbody, hwp⟩ := hcall
  have hfin : ∀ v, (b.at a (.inRegion ops (i :: rest) :: k)).finish v = b.at (a.put o.dst v) (.inRegion ops rest :: k) := fun v => by rw [Frame.finish_at, ho]; rfl
  have hleave : ∀ (a' : Act) (mine' : List Nat) (w' : World) (todo : List Item), (a'.defers = [] /\ ∀ w₁, Rel C mine' w' w₁ -> ∃ v, (results fc a'.tmps).run P w₁ = .ok v w₁ /\ (∀ e ∈ (results fc a'.tmps).events P w₁ #[], EvM C mine' e) /\ Post v mine' w₁) ->
      Gb P C main Stop (m + n + 1) mine' (G { (base f).at a' todo with mode := .returning } (b.at a (.inRegion ops (i :: rest) :: k) :: cs)) w' := by
    rintro a' mine' w' todo ⟨hd, hv⟩
    refine Gb.step rfl fun w₁ h₁ => ?_
    obtain ⟨v, q1, q2, q3⟩ := hv w₁ h₁
    refine ⟨_, w₁, _, stepG_leaveE (b := base f) rfl hd hf q1, rfl, .read fun e he => q2 e (mem_seen he), ?_⟩
    rw [grow_self, hfin]
    exact hnext v mine' w₁ q3 b k cs Stop m hb hk hc
  have hbodyG : Gb P C main Stop (m + n + 2 + nf) mine (G ((base f).at { tmps := vals ++ Array.replicate (fc.ntmps - vals.size) undef, defers := [] } [.code c]) (b.at a (.inRegion ops (i :: rest) :: k) :: cs)) w := by
    refine hwp (base f) [] _ Stop (m + n + 2) rfl (by simp [base]) fun e a' m' w' q => ?_
    cases e with
    | normal => exact Gb.ctl rfl rfl (fun _ => stepG_end) (hleave a' m' w' [] q)
    | ret => exact fun todo => (hleave a' m' w' todo q).more
    | _ => exact q.elim
  have e : m + (n + nf + 3) = (m + n + 2 + nf) + 1 := by omega
  rw [e]
  refine Gb.ctl rfl rfl (fun w₁ => ?_) hbodyG
  rw [stepG_enter ho hw hk (he w₁).1, enter_at _ hf hbody, listed_nil (he w₁).2]
def OpB (P : Program) (C : Ch) (main : Bool) (fn : FuncId) (ops : Array Oper) (nf : Nat) (i : Nat) (K : Act -> List Nat -> World -> Prop) (a : Act) (mine : List Nat) (w : World) : Prop :=
  match ops[i]? with
  | none => False
  | some o => if Region.wanted o (yielded ops a.tmps) then
      (∀ w₁, Rel C mine w w₁ -> uponK o a (fun a' w' => Gua C mine w₁ w' (listed P fn a o w₁) /\ K a' (grow mine w₁ w') w') ((execOp a.eval o).run P w₁)) ∨
      (∃ f vals Post, Enters P o a f vals /\ CallsB P C main f vals nf mine w Post /\ ∀ v m' w', Post v m' w' -> K (a.put o.dst v) m' w')
    else K (a.put o.dst undef) mine w
theorem uponK_mono' {o : Oper} {a : Act} {K K' : Act -> World -> Prop} (h : ∀ a w, K a w -> K' a w) {r : Result Next} (hh : uponK o a K r) : uponK o a K' r := by
  cases r with
  | ok n w' => cases n <;> first | exact h _ _ hh | exact hh
  | halt x w' => exact hh
theorem OpB.mono {i : Nat} {a : Act} {mine : List Nat} {w : World} {K K' : Act -> List Nat -> World -> Prop} (h : ∀ a m w, K a m w -> K' a m w) (hh : OpB P C main fn ops nf i K a mine w) : OpB P C main fn ops nf i K' a mine w := by
  unfold OpB at *
  split
  . simp_all
  . rename_i o ho
    simp only [ho] at hh
    split
    . rename_i hw
      simp only [hw, if_true] at hh
      rcases hh with hh | ⟨f, vals, Post, h1, h2, h3⟩
      . exact .inl fun w₁ h₁ => uponK_mono' (fun a' w' x => ⟨x.1, h _ _ _ x.2⟩) (hh w₁ h₁)
      . exact .inr ⟨f, vals, Post, h1, h2, fun v m' w' p => h _ _ _ (h3 v m' w' p)⟩
    . rename_i hw; simp only [hw] at hh; exact h _ _ _ hh
theorem opsB_of_opB {i : Nat} {rest : List Nat} {n : Nat} {a : Act} {mine : List Nat} {w : World} (h : OpB P C main fn ops nf i (fun a' m' w' => OpsB P C main fn ops rest n Q a' m' w') a mine w) : OpsB P C main fn ops (i :: rest) (n + (nf + 3)) Q a mine w := by
  unfold OpB at h
  split at h
  . exact h.elim
  . rename_i o ho
    split at h
    . rename_i hw
      rcases h with h | ⟨f, vals, Post, h1, h2, h3⟩
      . exact opsB_more (opsB_cons ho hw h) (by omega)
      . exact opsB_more (opsB_enter ho hw h1 h2 h3) (by omega)
    . rename_i hw; exact opsB_more (opsB_unwanted ho (by simpa using hw) h) (by omega)
def YieldsB (P : Program) (ops : Array Oper) (o : Oper) (v : Value) (a : Act) : Prop :=
  (Region.wanted o (yielded ops a.tmps) = true /\ ∀ w, (execOp a.eval o).run P w = .ok (.value v) w /\ (execOp a.eval o).events P w #[] = #[]) ∨ (Region.wanted o (yielded ops a.tmps) = false /\ v = undef)
theorem YieldsB.of_same {o : Oper} {v : Value} {a a' : Act} (hy : YieldsB P ops o v a) (he : execOp a'.eval o = execOp a.eval o) (hw : Region.wanted o (yielded ops a'.tmps) = Region.wanted o (yielded ops a.tmps)) : YieldsB P ops o v a' := by
  unfold YieldsB at *
  rw [he, hw]
  exact hy
def AnyB (P : Program) (C : Ch) (main : Bool) (fn : FuncId) (md : Region.Mode) (ops : Array Oper) (nf : Nat) (Q : PostB) : Nat -> Array Bool -> Act -> List Nat -> World -> Prop
  | 0, ls, a, mine, w => Region.ready md ops ls = [] /\ Q .normal a mine w
  | fuel + 1, ls, a, mine, w =>
    (Region.ready md ops ls = [] -> Q .normal a mine w) /\
    ∀ i ∈ Region.ready md ops ls, OpB P C main fn ops nf i (fun a' m' w' => AnyB P C main fn md ops nf Q fuel (ls.setIfInBounds i true) a' m' w') a mine w
theorem AnyB.rel (hQR : ∀ a m x y, Q .normal a m x -> Rel C m x y -> Q .normal a m y) : ∀ (fuel : Nat) (ls : Array Bool) (a : Act) (mine : List Nat) (w w₁ : World), AnyB P C main fn md ops nf Q fuel ls a mine w -> Rel C mine w w₁ -> AnyB P C main fn md ops nf Q fuel ls a mine w₁
  | 0, _, _, _, _, _, h, r => ⟨h.1, hQR _ _ _ _ h.2 r⟩
  | fuel + 1, ls, a, mine, w, w₁, h, r => ⟨fun e => hQR _ _ _ _ (h.1 e) r, fun i hi => by
      have := h.2 i hi
      unfold OpB at *
      split
      . simp_all
      . rename_i o ho
        simp only [ho] at this
        split
        . rename_i hw
          simp only [hw, if_true] at this
          rcases this with this | ⟨f, vals, Post, h1, h2, h3⟩
          . exact .inl fun w₂ h₂ => this w₂ (r.trans h₂)
          . exact .inr ⟨f, vals, Post, h1, h2.rel r, h3⟩
        . rename_i hw; simp only [hw] at this; exact AnyB.rel hQR fuel _ _ _ _ _ this r⟩
theorem anyB_sound : ∀ (fuel t : Nat) (ls : Array Bool) (a : Act) (mine : List Nat) (w : World), AnyB P C main fn md ops nf Q fuel ls a mine w -> OpsB P C main fn ops (Region.linearise.go md ops fuel t ls []) (fuel * (nf + 3) + 1) Q a mine w := by
  intro fuel
  induction fuel with
  | zero => intro t ls a mine w h; exact opsB_more (by simpa [Region.linearise.go] using opsB_nil h.2) (by omega)
  | succ fuel ih =>
    intro t ls a mine w h
    obtain ⟨h₀, h₁⟩ := h
    simp only [Region.linearise.go]
    change OpsB P C main fn ops (match (Region.ready md ops ls)[t % (Region.ready md ops ls).length]? with
      | some i => Region.linearise.go md ops fuel (t / (Region.ready md ops ls).length) (ls.setIfInBounds i true) [i]
      | none => [].reverse) ((fuel + 1) * (nf + 3) + 1) Q a mine w
    cases hi : (Region.ready md ops ls)[t % (Region.ready md ops ls).length]? with
    | none =>
      have hnil : Region.ready md ops ls = [] := by
        cases hr : Region.ready md ops ls with
        | nil => rfl
        | cons x xs =>
          rw [hr] at hi
          have hlt : t % (x :: xs).length < (x :: xs).length := Nat.mod_lt _ (by simp)
          simp at hi
          simp at hlt
          omega
      exact opsB_more (by simpa using opsB_nil (h₀ hnil)) (by omega)
    | some i =>
      simp only []
      rw [linearise_go_acc, List.reverse_singleton, List.singleton_append]
      have := opsB_of_opB (OpB.mono (fun a' m' w' x => ih (t / (Region.ready md ops ls).length) _ a' m' w' x) (h₁ i (List.mem_of_getElem? hi)))
      refine opsB_more this ?_
      rw [Nat.succ_mul]
      omega
theorem YieldsB.opB {i : Nat} {o : Oper} {v : Value} {a : Act} {mine : List Nat} {w : World} (hi : ops[i]? = some o) (hy : YieldsB P ops o v a) {K : Act -> List Nat -> World -> Prop} (hK : ∀ a m x y, K a m x -> Rel C m x y -> K a m y) (h : K (a.put o.dst v) mine w) : OpB P C main fn ops nf i K a mine w := by
  unfold OpB
  simp only [hi]
  rcases hy with ⟨hw, hv⟩ | ⟨hw, rfl⟩
  . simp only [hw, if_true]
    refine .inl fun w₁ h₁ => ?_
    rw [(hv w₁).1]
    exact ⟨by rw [listed_nil (hv w₁).2]; exact .idle .., by rw [grow_self]; exact hK _ _ _ _ h h₁⟩
  . simp only [hw, Bool.false_eq_true, if_false]; exact h
theorem OpB_putIf {j : Nat} {oi oj : Oper} {v : Value} (hj : ops[j]? = some oj) (hap : oi.apart ops oj = true) (hsi : ∀ cs b, oi.op ≠ .select cs b) (hsj : ∀ cs b, oj.op ≠ .select cs b) {K : Act -> List Nat -> World -> Prop} {a : Act} {mine : List Nat} {w : World}
    (hy : YieldsB P ops oi v a) (h : OpB P C main fn ops nf j K (a.put oi.dst v) mine w) : OpB P C main fn ops nf j (fun a' m' w' => YieldsB P ops oi v a' /\ K (a'.put oi.dst v) m' w') a mine w := by
  obtain ⟨h1, h2, h3⟩ := Oper.apart_spec hap
  have keep : ∀ (a : Act), YieldsB P ops oi v a -> ∀ u, YieldsB P ops oi v (a.put oj.dst u) := fun a hy u => hy.of_same (execOp_put oi hsi a oj.dst u h3) (wanted_put oi a oj.dst u h3)
  unfold OpB at *
  simp only [hj] at *
  rw [wanted_put oj a oi.dst v h1] at h
  split
  . rename_i hw
    simp only [hw, if_true] at h
    rcases h with h | ⟨f, vals, Post, q1, q2, q3⟩
    . refine .inl fun w₁ h₁ => ?_
      have h := h w₁ h₁
      unfold listed at *
      rw [execOp_put oj hsj a oi.dst v h1] at h
      generalize (execOp a.eval oj).run P w₁ = r at *
      cases r with
      | ok n w' =>
        cases n <;> simp only [uponK] at h ⊢
        case value u => exact ⟨h.1, keep a hy u, by rw [<- Act.put_comm a v u h2]; exact h.2⟩
        case skip => exact ⟨h.1, keep a hy _, by rw [<- Act.put_comm a v undef h2]; exact h.2⟩
      | halt x w' => simp only [uponK] at h
    . refine .inr ⟨f, vals, Post, ?_, q2, fun u m' w' p => ⟨keep a hy u, by rw [<- Act.put_comm a v u h2]; exact q3 u m' w' p⟩⟩
      unfold Enters at *
      rw [execOp_put oj hsj a oi.dst v h1] at q1
      exact q1
  . rename_i hw
    simp only [hw] at h
    exact ⟨keep a hy _, by rw [<- Act.put_comm a v undef h2]; exact h⟩
theorem anyB_first (hQR : ∀ a m x y, Q .normal a m x -> Rel C m x y -> Q .normal a m y) {i : Nat} {oi : Oper} {v : Value} (hi : ops[i]? = some oi) (hsel : ∀ (j : Nat) (o : Oper) cs b, ops[j]? = some o -> o.op ≠ .select cs b) :
    ∀ (fuel : Nat) (ls : Array Bool) (a : Act) (mine : List Nat) (w : World),
      (∀ j oj, ops[j]? = some oj -> j ≠ i -> ls.getD j true = false -> (∀ e ∈ oj.after, Region.binds md e = true -> e.on ≠ i) -> oi.apart ops oj = true) ->
      i ∈ Region.ready md ops ls -> YieldsB P ops oi v a ->
      AnyB P C main fn md ops nf Q fuel (ls.setIfInBounds i true) (a.put oi.dst v) mine w -> AnyB P C main fn md ops nf Q (fuel + 1) ls a mine w := by
  have hK : ∀ fuel ls, ∀ a m x y, AnyB P C main fn md ops nf Q fuel ls a m x -> Rel C m x y -> AnyB P C main fn md ops nf Q fuel ls a m y := fun fuel ls a m x y h r => AnyB.rel hQR fuel ls a m x y h r
  intro fuel
  induction fuel with
  | zero =>
    intro ls a mine w _ hr hy H
    refine ⟨fun h => (by rw [h] at hr; cases hr), fun j hj => ?_⟩
    by_cases hji : j = i
    . subst hji; exact hy.opB hi (hK _ _) H
    . have := ready_mono hj hji
      rw [H.1] at this
      cases this
  | succ fuel ih =>
    intro ls a mine w hfree hr hy H
    refine ⟨fun h => (by rw [h] at hr; cases hr), fun j hj => ?_⟩
    by_cases hji : j = i
    . subst hji; exact hy.opB hi (hK _ _) H
    . have h1 := H.2 j (ready_mono hj hji)
      obtain ⟨hjun, oj, hoj, hall⟩ := mem_ready.1 hj
      have hnot : ∀ e ∈ oj.after, Region.binds md e = true -> e.on ≠ i := fun e he hb heq => by
        have h1 := hall e he hb
        have h0 := (mem_ready.1 hr).1
        rw [heq] at h1
        rcases Nat.lt_or_ge i ls.size with h' | h'
        . simp [h'] at h0 h1; rw [h0] at h1; cases h1
        . simp [Array.getElem?_eq_none h'] at h1
      have h2 := OpB_putIf hoj (hfree j oj hoj hji hjun hnot) (fun cs b => hsel i oi cs b hi) (fun cs b => hsel j oj cs b hoj) hy h1
      have hfree' : ∀ k ok, ops[k]? = some ok -> k ≠ i -> (ls.setIfInBounds j true).getD k true = false -> (∀ e ∈ ok.after, Region.binds md e = true -> e.on ≠ i) -> oi.apart ops ok = true := fun k ok hk hki hun hno => by
        refine hfree k ok hk hki ?_ hno
        by_cases hjk : j = k
        . subst hjk; exact hjun
        . rw [getD_set_ne true hjk] at hun; exact hun
      refine OpB.mono (fun a' m' w' h3 => ih (ls.setIfInBounds j true) a' m' w' hfree' (ready_mono hr (Ne.symm hji)) h3.1 ?_) h2
      rw [Array.setIfInBounds_comm _ _ hji]
      exact h3.2
theorem anyB_take (hQR : ∀ a m x y, Q .normal a m x -> Rel C m x y -> Q .normal a m y) {i : Nat} {oi : Oper} {v : Value} {fuel : Nat} {ls : Array Bool} {a : Act} {mine : List Nat} {w : World} (hi : ops[i]? = some oi)
    (hs : Region.noSelect ops = true) (hf : Region.free md ops ls i = true) (hr : (Region.ready md ops ls).contains i = true) (hy : YieldsB P ops oi v a) (h : AnyB P C main fn md ops nf Q fuel (ls.setIfInBounds i true) (a.put oi.dst v) mine w) : AnyB P C main fn md ops nf Q (fuel + 1) ls a mine w :=
  anyB_first hQR hi (Region.noSelect_spec hs) fuel ls a mine w (Region.free_spec hi hf) (by simpa using hr) hy h
theorem anyB_one {i fuel : Nat} {ls : Array Bool} {a : Act} {mine : List Nat} {w : World} (hr : Region.ready md ops ls = [i]) (h : OpB P C main fn ops nf i (fun a' m' w' => AnyB P C main fn md ops nf Q fuel (ls.setIfInBounds i true) a' m' w') a mine w) : AnyB P C main fn md ops nf Q (fuel + 1) ls a mine w :=
  ⟨fun h0 => absurd (hr ▸ h0) (by simp), hr ▸ fun j hj => by obtain rfl := List.mem_singleton.1 hj; exact h⟩
theorem anyB_done {ls : Array Bool} {a : Act} {mine : List Nat} {w : World} (hr : Region.ready md ops ls = []) (h : Q .normal a mine w) : ∀ fuel, AnyB P C main fn md ops nf Q fuel ls a mine w
  | 0 => ⟨hr, h⟩
  | _ + 1 => ⟨fun _ => h, fun i hi => by rw [hr] at hi; cases hi⟩
theorem wpB_region_any {id : Nat} {a : Act} {mine : List Nat} {w : World} (hm : P.follows .mixedOrders = true) (hQR : ∀ a m x y, Q .normal a m x -> Rel C m x y -> Q .normal a m y) (h : AnyB P C main fn .any ops nf Q ops.size (Array.replicate ops.size false) a mine w) : WpB P C main fn (.region id ops true) (ops.size * (nf + 3) + 1 + 1) Q a mine w := by
  intro b k cs Stop m hb hk hc
  refine Gb.step rfl fun w₁ h₁ => ⟨_, _, _, stepG_region_draw, rfl, .draw, ?_⟩
  have : grow mine w₁ { w₁ with drawn := w₁.drawn + 1 } = mine := by simp [grow]
  rw [this]
  simp only [Region.schedule, hm, Bool.true_or, if_true]
  have h2 := AnyB.rel hQR _ _ _ _ _ _ h (h₁.trans (relDraw C mine w₁))
  exact anyB_sound ops.size _ _ a mine _ h2 b k cs Stop m hb hk hc
end Go.Proofs.YtcpldcojckhapaaGreat

namespace Go.Proofs.YtcpldcojckhapaaGreat
open Go.Conc
variable {P : Program} {C : Ch} {main : Bool} {fn : FuncId} {ops : Array Oper} {Q : PostB} {nf : Nat} {a : Act} {mine : List Nat} {w : World} {i : Nat} {o : Oper}
theorem opB_store {K : Act -> List Nat -> World -> Prop} (ho : ops[i]? = some o) (hw : Region.wanted o (yielded ops a.tmps) = true) {ty : TypeId} {x y : Operand} (hop : o.op = .store ty x y) {b : Nat} {v : Value} (hx : a.eval x = .pointer (some ⟨b, 0, none⟩)) (hy : a.eval y = v)
    {cur : Array Value} {t : TypeId} (hb : b ∈ mine) (hc : w.heap[b]? = some (.cells cur t (0, 0))) (hs : cur.size = v.cells.size) (hi : (P.info? ty).map (·.size) = some v.cells.size) (h1 : v.cells.all (·.oneCell') = true)
    (h : ∀ w₁, Rel C mine w w₁ -> K (a.put o.dst undef) mine (w₁.setRow b v.cells)) : OpB P C main fn ops nf i K a mine w := by
  unfold OpB
  simp only [ho, hw, if_true]
  refine .inl fun w₁ h₁ => ?_
  have hc' := h₁.look (.inr hb) hc
  cases hq : P.info? ty with
  | none => simp [hq] at hi
  | some inf =>
  have hsz : v.cells.size = inf.size := by simp [hq] at hi; omega
  have h1' : ∀ u ∈ v.cells.toList, u.oneCell' = true := fun u hu => (Array.all_eq_true_iff_forall_mem.1 h1) u (by simpa using hu)
  have hst := run_storeCells_at (P := P) b 0 t v.cells.toList 0 cur w₁ hc' (by simp [hs]) h1'
  have hd : cur.toList.drop (0 + 0 + v.cells.toList.length) = [] := List.drop_eq_nil_of_le (by simp [hs])
  rw [hd] at hst
  simp only [Nat.add_zero, List.take_zero, List.nil_append, List.append_nil, Array.toArray_toList] at hst
  have hsv : (sizeOf ty).run P w₁ = .ok v.cells.size w₁ := by simp [sizeOf, typeInfo, hq, hsz]
  have hr : (execOp a.eval o).run P w₁ = .ok .skip (w₁.setRow b v.cells) := by
    unfold execOp
    simp [hop, hx, hy, Instr.storeAt, Instr.sureAddr, storeVar, Sem.run_bind, hsv, hst]
  rw [hr]
  refine ⟨.setRow _ hb fun e he => ?_, by rw [grow_setRow]; exact h w₁ h₁⟩
  have hm := mem_listed he
  unfold execOp at hm
  simp [hop, hx, hy, Instr.storeAt, Instr.sureAddr, storeVar, hsv, Sem.events_bind] at hm
  rcases events_storeCells_at b 0 t v.cells.toList 0 cur w₁ _ hc' (by simp [hs]) h1' e hm with h | ⟨ad, e1, e2⟩
  . simp at h
  . exact evM_write hb e1 e2
theorem opB_call {K : Act -> List Nat -> World -> Prop} (ho : ops[i]? = some o) (hw : Region.wanted o (yielded ops a.tmps) = true) {f : FuncId} {args : Array Operand} {ats : Array TypeId} {vals : Array Value} {Post : Value -> List Nat -> World -> Prop} (hop : o.op = .call { callee := .value (.func f), args, argTypes := ats })
    (hcall : CallsB P C main f vals nf mine w Post) (hargs : args.map a.eval = vals) (h : ∀ v m' w', Post v m' w' -> K (a.put o.dst v) m' w') : OpB P C main fn ops nf i K a mine w := by
  unfold OpB
  simp only [ho, hw, if_true]
  obtain ⟨fc, c, hf, hname, hbody, hwp⟩ := hcall
  have hb' : fc.body.isNone = false := by rw [hbody]; rfl
  exact .inr ⟨f, vals, Post, fun w₁ => ⟨by rw [run_call_body hop hf hname hb', hargs], events_call_body hop hf hname hb' _⟩, ⟨fc, c, hf, hname, hbody, hwp⟩, h⟩
theorem yieldsB {v : Value} (hw : Region.wanted o (yielded ops a.tmps) = true) (hr : ∀ (w : World) (K : Result Next -> Prop), K (.ok (.value v) w) -> K ((execOp a.eval o).run P w)) (he : ∀ w : World, (execOp a.eval o).events P w #[] = #[]) : YieldsB P ops o v a :=
  .inl ⟨hw, fun w => ⟨run_eq_of (hr w), he w⟩⟩
theorem results_cellB {fc : Func} {t : Tmp} {ty : TypeId} (h : fc.results = #[.cell t ty]) {Post : Value -> List Nat -> World -> Prop} (hd : a.defers = []) {b : Nat} (hp : a.tmps.getD t undef = .pointer (some ⟨b, 0, none⟩)) (hb : Shared C b ∨ b ∈ mine) {cs : List Value} {v : Value} (hc : w.rangeAt b 0 cs) (hv : LoadIs P ty cs v)
    (hq : ∀ w₁, Rel C mine w w₁ -> Post v mine w₁) : bodyPostB P C fc Post .ret a mine w := by
  have hp' : a.tmps[t]?.getD undef = .pointer (some ⟨b, 0, none⟩) := by rw [<- Array.getD_eq_getD_getElem?]; exact hp
  refine ⟨hd, fun w₁ h₁ => ⟨v, ?_, fun e he => ?_, hq w₁ h₁⟩⟩
  . simp [results, h, hp', asAddr, loadVar_is hv (rangeAt_same (h₁.keep b hb) hc)]
  . simp [results, h, hp', asAddr] at he
    exact evM_read hb (loadVar_ev hv (rangeAt_same (h₁.keep b hb) hc) e he)
theorem results_cell2B {fc : Func} {t u : Tmp} {ty : TypeId} (h : fc.results = #[.cell t ty, .tmp u]) {Post : Value -> List Nat -> World -> Prop} (hd : a.defers = []) {b : Nat} (hp : a.tmps.getD t undef = .pointer (some ⟨b, 0, none⟩)) (hb : Shared C b ∨ b ∈ mine) {cs : List Value} {v : Value} (hc : w.rangeAt b 0 cs) (hv : LoadIs P ty cs v)
    (hq : ∀ w₁, Rel C mine w w₁ -> Post (.tuple #[v, a.tmps.getD u undef]) mine w₁) : bodyPostB P C fc Post .ret a mine w := by
  have hp' : a.tmps[t]?.getD undef = .pointer (some ⟨b, 0, none⟩) := by rw [<- Array.getD_eq_getD_getElem?]; exact hp
  refine ⟨hd, fun w₁ h₁ => ⟨.tuple #[v, a.tmps.getD u undef], ?_, fun e he => ?_, hq w₁ h₁⟩⟩
  . simp [results, h, hp', asAddr, loadVar_is hv (rangeAt_same (h₁.keep b hb) hc)]
  . simp [results, h, hp', asAddr] at he
    exact evM_read hb (loadVar_ev hv (rangeAt_same (h₁.keep b hb) hc) e he)
end Go.Proofs.YtcpldcojckhapaaGreat

set_option maxRecDepth 100000
set_option linter.unusedSimpArgs false
namespace Go.Proofs.YtcpldcojckhapaaGreat
open Go.Conc Go.RowKit
set_option maxHeartbeats 4000000 in
theorem slClone_b (C : Ch) (main : Bool) : ∃ n, ∀ (mine : List Nat) (s : ByteArray), s.size <= 4194304 -> ∀ w : World, Sits C mine w -> CallsB Tryz.prog C main 112 #[.string s] n mine w fun v m' w' => v = .string s /\ Grew C mine w m' w' := by
  obtain ⟨i0, HI, HZ0, HZ1, HZ2, hinfo, hco⟩ : ∃ i0 : TypeInfo, Hid (Tryz.prog.info? 5 = some i0) /\ Hid (i0.zero = some (.int .u8 0)) /\ Hid (i0.size = 1) /\ Hid (i0.bytes = 1) /\ Hid ((Tryz.prog.info? 5).map (·.size) = some 1) /\ Hid (Tryz.prog.cellsOf 5 = 1) := by
    obtain ⟨i0, hi, hz0, hz1, hz2⟩ := info_parts Tryz.info5
    exact ⟨i0, hi, hz0, hz1, hz2, by show _ = _; rw [hi]; simp [hz1], by show _ = _; kernel_rfl⟩
  co_apply Exists.intro
  intro mine s hs w hS
  have hsz : s.size <= 2 ^ 63 - 1 := by omega
  co_apply callsB_of_wpB Tryz.func112 (by rfl) rfl
  simp only [Tryz.ntmps112, List.size_toArray, List.length_cons, List.length_nil, Nat.reduceAdd, Nat.reduceSub, Array.replicate_succ, Array.replicate_zero, List.push_toArray, List.append_toArray, List.nil_append, List.cons_append]
  repeat (first | (co_apply wpB_region; simp only [List.size_toArray, List.length_cons, List.length_nil, Nat.reduceAdd, Nat.zero_add, List.range, List.range.loop]) | (co_apply opsB_pure rfl (by rfl) (by intro _ K hK; go_simp; exact hK) (by intro _; simp [go_sem, ev_len, ev_index, *]); walk_nrm) | (co_apply opsB_nil; try simp only [thenB, inBlockB, if_true, if_false, reduceIte, Nat.reduceEqDiff]) | (first | co_apply wpB_seq | co_apply wpB_block | (co_apply wpB_skip; try simp only [thenB, inBlockB, if_true, if_false, reduceIte, Nat.reduceEqDiff]) | (co_apply wpB_ret; try simp only [thenB, inBlockB, if_true, if_false, reduceIte, Nat.reduceEqDiff]) | (co_apply wpB_exit; try simp only [thenB, inBlockB, if_true, if_false, reduceIte, Nat.reduceEqDiff])) | (co_apply wpB_cond; focus (exact rfl); simp only [if_true, if_false, reduceIte, Bool.false_eq_true]))
  co_apply wpB_split (t := ((s.size : Int) == 0)) (by rfl)
  . intro h0
    have HE : Hid (s = ⟨#[]⟩) := ByteArray.ext (Array.eq_empty_of_size_eq_zero (by have : s.size = 0 := (by simpa using h0); exact this))
    clear h0
    repeat (first | (co_apply wpB_region; simp only [List.size_toArray, List.length_cons, List.length_nil, Nat.reduceAdd, Nat.zero_add, List.range, List.range.loop]) | (co_apply opsB_pure rfl (by rfl) (by intro _ K hK; go_simp; exact hK) (by intro _; simp [go_sem, ev_len, ev_index, *]); walk_nrm) | (co_apply opsB_nil; try simp only [thenB, inBlockB, if_true, if_false, reduceIte, Nat.reduceEqDiff]) | (first | co_apply wpB_seq | co_apply wpB_block | (co_apply wpB_skip; try simp only [thenB, inBlockB, if_true, if_false, reduceIte, Nat.reduceEqDiff]) | (co_apply wpB_ret; try simp only [thenB, inBlockB, if_true, if_false, reduceIte, Nat.reduceEqDiff]) | (co_apply wpB_exit; try simp only [thenB, inBlockB, if_true, if_false, reduceIte, Nat.reduceEqDiff])) | (co_apply wpB_cond; focus (exact rfl); simp only [if_true, if_false, reduceIte, Bool.false_eq_true]))
    refine results_tmpB rfl rfl fun w₁ h₁ => ⟨?_, (Grew.refl hS).step h₁⟩
    rw [HE.out]
    rfl
  . intro h0
    have H0 : Hid (s.size ≠ 0) := fun h => by simp [h] at h0
    clear h0
    repeat (first | (co_apply wpB_region; simp only [List.size_toArray, List.length_cons, List.length_nil, Nat.reduceAdd, Nat.zero_add, List.range, List.range.loop]) | (co_apply opsB_pure rfl (by rfl) (by intro _ K hK; go_simp; exact hK) (by intro _; simp [go_sem, ev_len, ev_index, *]); walk_nrm) | (co_apply opsB_nil; try simp only [thenB, inBlockB, if_true, if_false, reduceIte, Nat.reduceEqDiff]) | (first | co_apply wpB_seq | co_apply wpB_block | (co_apply wpB_skip; try simp only [thenB, inBlockB, if_true, if_false, reduceIte, Nat.reduceEqDiff]) | (co_apply wpB_ret; try simp only [thenB, inBlockB, if_true, if_false, reduceIte, Nat.reduceEqDiff]) | (co_apply wpB_exit; try simp only [thenB, inBlockB, if_true, if_false, reduceIte, Nat.reduceEqDiff])) | (co_apply wpB_cond; focus (exact rfl); simp only [if_true, if_false, reduceIte, Bool.false_eq_true]))
    co_apply opsB_make rfl (by rfl) rfl Tryz.underlying114 HI.out HZ0.out (N := s.size) (by rfl) (by rfl) (by rw [HZ2.out]; unfold roomBytes; omega) (by omega)
    intro w₁ h₁
    have hG := ((Grew.refl hS).step h₁)
    have hN : Hid (New C mine w₁.heap.size) := hG.new
    replace hG : Hid (Grew C mine w (w₁.heap.size :: mine) (w₁.alloc (.cells (madeCells (Value.int .u8 0).cells (s.size * i0.size)) 5 (0, 0)))) := hG.alloc _
    have hc : Hid ((w₁.alloc (.cells (madeCells (Value.int .u8 0).cells (s.size * i0.size)) 5 (0, 0))).heap[w₁.heap.size]? = some (.cells (madeCells (Value.int .u8 0).cells (s.size * i0.size)) 5 (0, 0))) := look_new
    have hM : Hid ((madeCells (Value.int .u8 0).cells (s.size * i0.size)).size = s.size) := by show _ = _; rw [size_madeCells, HZ1.out]; simp
    clear h₁
    obtain ⟨M, hMM⟩ : ∃ M, M = madeCells (Value.int .u8 0).cells (s.size * i0.size) := ⟨_, rfl⟩
    rw [<- hMM] at hG hc hM ⊢
    clear hMM
    obtain ⟨W, hW⟩ : ∃ W, W = w₁.alloc (.cells M 5 (0, 0)) := ⟨_, rfl⟩
    rw [<- hW] at hG hc ⊢
    obtain ⟨g, hg⟩ : ∃ g, g = w₁.heap.size := ⟨_, rfl⟩
    rw [<- hg] at hG hc hN ⊢
    clear hW hg w₁
    walk_nrm
    repeat (first | (co_apply wpB_region; simp only [List.size_toArray, List.length_cons, List.length_nil, Nat.reduceAdd, Nat.zero_add, List.range, List.range.loop]) | (co_apply opsB_pure rfl (by rfl) (by intro _ K hK; go_simp; exact hK) (by intro _; simp [go_sem, ev_len, ev_index, *]); walk_nrm) | (co_apply opsB_nil; try simp only [thenB, inBlockB, if_true, if_false, reduceIte, Nat.reduceEqDiff]) | (first | co_apply wpB_seq | co_apply wpB_block | (co_apply wpB_skip; try simp only [thenB, inBlockB, if_true, if_false, reduceIte, Nat.reduceEqDiff]) | (co_apply wpB_ret; try simp only [thenB, inBlockB, if_true, if_false, reduceIte, Nat.reduceEqDiff]) | (co_apply wpB_exit; try simp only [thenB, inBlockB, if_true, if_false, reduceIte, Nat.reduceEqDiff])) | (co_apply wpB_cond; focus (exact rfl); simp only [if_true, if_false, reduceIte, Bool.false_eq_true]))
    co_apply opsB_copyS rfl (by rfl) rfl Tryz.underlying114 hinfo.out (g := g) (s := s) (by rfl) (by rfl) (List.mem_cons_self ..) hc.out hM.out
    intro w₂ h₂
    have hG2 : Hid (Grew C mine w (g :: mine) (w₂.setRow g (Lib.byteCells s.data.toList).toArray)) := (hG.out.step h₂).row hN.out _
    have hc2 : Hid ((w₂.setRow g (Lib.byteCells s.data.toList).toArray).heap[g]? = some (.cells (Lib.byteCells s.data.toList).toArray 5 (0, 0))) := setRow_heap _ _ _ _ _ _ (h₂.look (.inr (List.mem_cons_self ..)) hc.out)
    clear h₂ hG hc hM
    obtain ⟨W2, hW⟩ : ∃ W2, W2 = w₂.setRow g (Lib.byteCells s.data.toList).toArray := ⟨_, rfl⟩
    rw [<- hW] at hG2 hc2 ⊢
    clear hW w₂
    walk_nrm
    have hpos : 0 < s.size := Nat.pos_of_ne_zero H0.out
    have hpos' : (0 : Int) < s.size := by omega
    repeat (first | (co_apply wpB_region; simp only [List.size_toArray, List.length_cons, List.length_nil, Nat.reduceAdd, Nat.zero_add, List.range, List.range.loop]) | (co_apply opsB_pure rfl (by rfl) (by intro _ K hK; go_simp; exact hK) (by intro _; simp [go_sem, ev_len, ev_index, *]); walk_nrm) | (co_apply opsB_nil; try simp only [thenB, inBlockB, if_true, if_false, reduceIte, Nat.reduceEqDiff]) | (first | co_apply wpB_seq | co_apply wpB_block | (co_apply wpB_skip; try simp only [thenB, inBlockB, if_true, if_false, reduceIte, Nat.reduceEqDiff]) | (co_apply wpB_ret; try simp only [thenB, inBlockB, if_true, if_false, reduceIte, Nat.reduceEqDiff]) | (co_apply wpB_exit; try simp only [thenB, inBlockB, if_true, if_false, reduceIte, Nat.reduceEqDiff])) | (co_apply wpB_cond; focus (exact rfl); simp only [if_true, if_false, reduceIte, Bool.false_eq_true]))
    co_apply opsB_unsafe rfl (by rfl) rfl Tryz.underlying217 hco.out (g := g) (s := s) (by rfl) (by rfl) (List.mem_cons_self ..) hc2.out H0.out (by omega)
    intro w₃ h₃
    have hG3 : Hid (Grew C mine w (g :: mine) (w₃.freeze ⟨g, 0, none⟩ s.size)) := (hG2.out.step h₃).freeze hN.out _
    clear h₃ hG2 hc2
    obtain ⟨W3, hW⟩ : ∃ W3, W3 = w₃.freeze ⟨g, 0, none⟩ s.size := ⟨_, rfl⟩
    rw [<- hW] at hG3 ⊢
    clear hW w₃
    walk_nrm
    repeat (first | (co_apply wpB_region; simp only [List.size_toArray, List.length_cons, List.length_nil, Nat.reduceAdd, Nat.zero_add, List.range, List.range.loop]) | (co_apply opsB_pure rfl (by rfl) (by intro _ K hK; go_simp; exact hK) (by intro _; simp [go_sem, ev_len, ev_index, *]); walk_nrm) | (co_apply opsB_nil; try simp only [thenB, inBlockB, if_true, if_false, reduceIte, Nat.reduceEqDiff]) | (first | co_apply wpB_seq | co_apply wpB_block | (co_apply wpB_skip; try simp only [thenB, inBlockB, if_true, if_false, reduceIte, Nat.reduceEqDiff]) | (co_apply wpB_ret; try simp only [thenB, inBlockB, if_true, if_false, reduceIte, Nat.reduceEqDiff]) | (co_apply wpB_exit; try simp only [thenB, inBlockB, if_true, if_false, reduceIte, Nat.reduceEqDiff])) | (co_apply wpB_cond; focus (exact rfl); simp only [if_true, if_false, reduceIte, Bool.false_eq_true]))
    exact results_tmpB rfl rfl fun w₁ h₁ => ⟨rfl, hG3.out.step h₁⟩
set_option maxHeartbeats 4000000 in
theorem clone_b (C : Ch) (main : Bool) : ∃ n, ∀ (mine : List Nat) (s : ByteArray), s.size <= 4194304 -> ∀ w : World, Sits C mine w -> CallsB Tryz.prog C main 76 #[.string s] n mine w fun v m' w' => v = .string s /\ Grew C mine w m' w' := by
  obtain ⟨nc, hcl⟩ := slClone_b C main
  co_apply Exists.intro
  intro mine s hs w hS
  co_apply callsB_of_wpB Tryz.func76 (by rfl) rfl
  simp only [Tryz.ntmps76, List.size_toArray, List.length_cons, List.length_nil, Nat.reduceAdd, Nat.reduceSub, Array.replicate_succ, Array.replicate_zero, List.push_toArray, List.append_toArray, List.nil_append, List.cons_append]
  repeat (first | (co_apply wpB_region; simp only [List.size_toArray, List.length_cons, List.length_nil, Nat.reduceAdd, Nat.zero_add, List.range, List.range.loop]) | (co_apply opsB_pure rfl (by rfl) (by intro _ K hK; go_simp; exact hK) (by intro _; simp [go_sem, ev_len, ev_index, *]); walk_nrm) | (co_apply opsB_nil; try simp only [thenB, inBlockB, if_true, if_false, reduceIte, Nat.reduceEqDiff]) | (first | co_apply wpB_seq | co_apply wpB_block | (co_apply wpB_skip; try simp only [thenB, inBlockB, if_true, if_false, reduceIte, Nat.reduceEqDiff]) | (co_apply wpB_ret; try simp only [thenB, inBlockB, if_true, if_false, reduceIte, Nat.reduceEqDiff]) | (co_apply wpB_exit; try simp only [thenB, inBlockB, if_true, if_false, reduceIte, Nat.reduceEqDiff])) | (co_apply wpB_cond; focus (exact rfl); simp only [if_true, if_false, reduceIte, Bool.false_eq_true]))
  co_apply opsB_callE rfl (by rfl) rfl (hcl mine s hs w hS) (by walk_nrm)
  rintro v m' w' ⟨rfl, hG⟩
  replace hG : Hid (Grew C mine w m' w') := hG
  walk_nrm
  repeat (first | (co_apply wpB_region; simp only [List.size_toArray, List.length_cons, List.length_nil, Nat.reduceAdd, Nat.zero_add, List.range, List.range.loop]) | (co_apply opsB_pure rfl (by rfl) (by intro _ K hK; go_simp; exact hK) (by intro _; simp [go_sem, ev_len, ev_index, *]); walk_nrm) | (co_apply opsB_nil; try simp only [thenB, inBlockB, if_true, if_false, reduceIte, Nat.reduceEqDiff]) | (first | co_apply wpB_seq | co_apply wpB_block | (co_apply wpB_skip; try simp only [thenB, inBlockB, if_true, if_false, reduceIte, Nat.reduceEqDiff]) | (co_apply wpB_ret; try simp only [thenB, inBlockB, if_true, if_false, reduceIte, Nat.reduceEqDiff]) | (co_apply wpB_exit; try simp only [thenB, inBlockB, if_true, if_false, reduceIte, Nat.reduceEqDiff])) | (co_apply wpB_cond; focus (exact rfl); simp only [if_true, if_false, reduceIte, Bool.false_eq_true]))
  exact results_tmpB rfl rfl fun w₁ h₁ => ⟨rfl, hG.out.step h₁⟩
end Go.Proofs.YtcpldcojckhapaaGreat

set_option maxRecDepth 100000
namespace Go.Proofs.YtcpldcojckhapaaGreat
open Go.RowKit
set_option maxRecDepth 100000 in
set_option maxHeartbeats 1000000 in
theorem unitAndBody_any (s : ByteArray) (w : World) (h1 : 1 <= s.size) (hs : s.size <= 4194304) :
    Calls Tryz.prog 137 #[.string s] w fun e w' => e = .returned (.agg #[.int .i64 0, .int .i64 (Pl.byt s 0 : Nat), .string (s.extract 1 s.size)]) /\ Below w.heap.size w w' := by
  have hp : 0 < s.size := h1
  have gb := Pl.get_byt s
  have hb0 := Pl.byt_lt s 0
  go_enter Tryz.func137, Tryz.ntmps137
  go_wp2_with fail
  go_region_with (go_at_call 76; refine (clone_any _ _ (by simp; omega)).mono ?_; rintro e w' ⟨rfl, hb⟩; obtain ⟨hc, hf⟩ := bcell hb)
  all_goals go_wp2
  all_goals
    have ew : IntKind.i64.wrap (Pl.byt s 0 : Int) = Pl.byt s 0 := by rw [IntKind.wrap_i64]; omega
    try simp only [ew]
    refine bodyPost_ret (v := .agg #[.int .i64 0, .int .i64 (Pl.byt s 0 : Nat), .string (s.extract 1 s.size)]) (by simp [results, Tryz.results137, go_sem, hc]) rfl ⟨rfl, ?_⟩
    exact (((((Below.refl _ _).alloc (Nat.le_refl _) _).drew.trans (hb.mono (by simp))).setCell (Nat.le_refl _) _).setCell (Nat.le_refl _) _).setCell (Nat.le_refl _) _
end Go.Proofs.YtcpldcojckhapaaGreat
