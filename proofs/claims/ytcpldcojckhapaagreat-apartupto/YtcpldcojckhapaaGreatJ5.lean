/-
  
-/
import Derived.Test.YtcpldcojckhapaaGreatJ4
import Derived.Conc.LoneCalls
namespace Go.Proofs.YtcpldcojckhapaaGreat
open Go.Conc
variable {P : Program} {V : Env}
def stop (f : LF) : Goroutine := gor k0 B0 ⟨f, false, []⟩
def Reach (P : Program) (K : LF -> World -> Prop) (g : Goroutine) (w : World) : Prop := ∃ N f w', runN P N (solo g w) = .next (solo (stop f) w') /\ f.todo = [] /\ K f w'
theorem solo_inj {a b : Goroutine} {w w' : World} (h : solo a w = solo b w') : a = b /\ w = w' := by
  unfold solo at h
  simp only [Machine.mk.injEq, Array.mk.injEq, List.cons.injEq, and_true] at h
  exact ⟨h.2, h.1⟩
theorem runN_go {a a' : Goroutine} {w w' : World} {es : Array Event} (hs : a.status = .running) (h : stepG P true a w = .go a' w' es) (N : Nat) : runN P (N + 1) (solo a w) = runN P N (solo a' w') := by
  rw [runN, step_solo_go hs h]
theorem runN_ended {a : Goroutine} {w w' : World} {es : Array Event} {o : Outcome} (hs : a.status = .running) (h : stepG P true a w = .ended o w' es) (N : Nat) : runN P (N + 1) (solo a w) = .ended o w' := by
  have : step P (solo a w) = .ended o w' := by
    rw [step, stepT_solo hs]
    show (runT P { world := w, gs := #[a], rest := { timers := #[], alone := none, slice := none } } 0).1 = _
    simp [runT, Array.swapAt!, h]
  rw [runN, this]
theorem reach_go {K : LF -> World -> Prop} {a a' : Goroutine} {w w' : World} {es : Array Event} (hs : a.status = .running) (hn : ∀ f, f.todo = [] -> a ≠ stop f) (h : stepG P true a w = .go a' w' es) (hr : Reach P K a w) : Reach P K a' w' := by
  obtain ⟨N, f, w2, h1, h2, h3⟩ := hr
  cases N with
  | zero =>
    simp only [runN, Stepped.next.injEq] at h1
    exact absurd (solo_inj h1).1 (hn f h2)
  | succ N => rw [runN_go hs h] at h1; exact ⟨N, f, w2, h1, h2, h3⟩
theorem reach_ended {K : LF -> World -> Prop} {a : Goroutine} {w w' : World} {es : Array Event} {o : Outcome} (hs : a.status = .running) (hn : ∀ f, f.todo = [] -> a ≠ stop f) (h : stepG P true a w = .ended o w' es) (hr : Reach P K a w) : False := by
  obtain ⟨N, f, w2, h1, h2, h3⟩ := hr
  cases N with
  | zero =>
    simp only [runN, Stepped.next.injEq] at h1
    exact hn f h2 (solo_inj h1).1
  | succ N => rw [runN_ended hs h] at h1; cases h1
theorem stk_len (k : List Item) (B : List Frame) (l : List LF) : (stk k B l).length = l.length + B.length := by
  induction l with
  | nil => simp [stk]
  | cons f l ih => simp [stk, ih]; omega
theorem stop_eq {c : Cfg} {f : LF} (h : gor k0 B0 c = stop f) (hf : f.todo = []) : c = ⟨f, false, []⟩ := by
  obtain ⟨⟨fn, tmps, todo⟩, ret, rest⟩ := c
  obtain ⟨fn', tmps', todo'⟩ := f
  unfold stop gor G at h
  simp only [Goroutine.mk.injEq] at h
  obtain ⟨h1, h2, _⟩ := h
  have h3 := congrArg List.length h2
  rw [stk_len, stk_len] at h3
  have h4 : rest = [] := by
    cases rest with
    | nil => rfl
    | cons a l => simp at h3
  subst h4
  simp only at hf
  subst hf
  simp only [LF.fr, sfx, Frame.mk.injEq, List.append_cancel_right_eq] at h1
  obtain ⟨rfl, rfl, rfl, _, h5, _⟩ := h1
  cases ret with
  | true => simp at h5
  | false => rfl
theorem un_pan (f : LF) (k : List Item) (chain : List PanicEntry) (c : Frame) (cs : List Frame) (w : World) :
    (∃ o, stepG P true (G (f.fr k (.panicking chain)) (c :: cs)) w = .ended o w #[]) ∨ stepG P true (G (f.fr k (.panicking chain)) (c :: cs)) w = .go (G (c.raise chain) cs) w #[] := by
  have e : stepG P true (G (f.fr k (.panicking chain)) (c :: cs)) w = unwind P true (f.fr k (.panicking chain)) (c :: cs) none w := rfl
  rw [e]
  unfold unwind
  cases hc : (f.fr k (.panicking chain)).catches P with
  | true =>
    refine .inl ?_
    simp only [LF.fr] at hc ⊢
    simp
  | false =>
    refine .inr ?_
    simp only [LF.fr] at hc ⊢
    simp
    rfl
theorem pan_dead {K : LF -> World -> Prop} : ∀ (rest : List LF) (f : LF) (chain : List PanicEntry) (w : World), ¬ Reach P K (G (f.fr (sfx k0 rest) (.panicking chain)) (stk k0 B0 rest)) w := by
  intro rest
  have hne : ∀ (f : LF) (k : List Item) (chain : List PanicEntry) (cs : List Frame) (f' : LF), f'.todo = [] -> G (f.fr k (.panicking chain)) cs ≠ stop f' := by
    intro f k chain cs f' _ h
    unfold stop gor G LF.fr at h
    simp at h
  induction rest with
  | nil =>
    intro f chain w hr
    rcases un_pan (P := P) f k0 chain endF [] w with ⟨o, h⟩ | h
    . exact reach_ended rfl (hne f _ chain _) h hr
    . have hr2 := reach_go rfl (hne f _ chain _) h hr
      have h2 : ∃ o, stepG P true (G (endF.raise chain) []) w = .ended o w #[] := ⟨_, rfl⟩
      obtain ⟨o, h2⟩ := h2
      refine reach_ended (a := G (endF.raise chain) []) rfl ?_ h2 hr2
      intro f' _ h
      unfold stop gor G at h
      simp only [Goroutine.mk.injEq] at h
      have := h.2.1
      simp [stk, B0] at this
  | cons g l ih =>
    intro f chain w hr
    rcases un_pan (P := P) f [] chain (g.fr (sfx k0 l) .run) (stk k0 B0 l) w with ⟨o, h⟩ | h
    . exact reach_ended rfl (hne f _ chain _) h hr
    . exact ih g chain w (reach_go rfl (hne f _ chain _) h hr)
theorem ret_dead {K : LF -> World -> Prop} (f : LF) (w : World) : ¬ Reach P K (gor k0 B0 ⟨f, true, []⟩) w := by
  intro hr
  have hne : ∀ f', f'.todo = [] -> gor k0 B0 ⟨f, true, []⟩ ≠ stop f' := fun f' hf h => by
    have := stop_eq h hf
    simp at this
  have go : ∀ v w', Reach P K (G (endF.finish v) []) w' -> False := by
    intro v w' hr2
    have h2 : ∃ o, stepG P true (G (endF.finish v) []) w' = .ended o w' #[] := ⟨_, rfl⟩
    obtain ⟨o, h2⟩ := h2
    refine reach_ended (a := G (endF.finish v) []) rfl ?_ h2 hr2
    intro f' _ h
    unfold stop gor G at h
    simp only [Goroutine.mk.injEq] at h
    have := h.2.1
    simp [stk, B0] at this
  cases hfn : P.funcs[f.fn]? with
  | none =>
    refine go (f.tmps.getD 0 undef) w (reach_go rfl hne (es := #[]) ?_ hr)
    show unwind P true (f.fr k0 .returning) B0 none w = _
    unfold unwind
    simp only [LF.fr, hfn]
    rfl
  | some fn =>
    cases hr' : (results fn f.tmps).run P w with
    | ok v w' =>
      refine go v w' (reach_go rfl hne (es := seen P f.fn ((results fn f.tmps).events P w #[])) ?_ hr)
      show unwind P true (f.fr k0 .returning) B0 none w = _
      unfold unwind
      simp only [LF.fr, hfn, Sem.runT_eq, hr']
      show GStep.after _ (.go _ w') = _
      simp [GStep.after, G]
    | halt hl w' =>
      have : ∃ o, stepG P true (gor k0 B0 ⟨f, true, []⟩) w = .ended o w' (seen P f.fn ((results fn f.tmps).events P w #[])) := by
        show ∃ o, unwind P true (f.fr k0 .returning) B0 none w = _
        unfold unwind
        simp only [LF.fr, hfn, Sem.runT_eq, hr']
        cases hl <;> exact ⟨_, by simp [GStep.after]; rfl⟩
      obtain ⟨o, ho⟩ := this
      exact reach_ended rfl hne ho hr
end Go.Proofs.YtcpldcojckhapaaGreat

namespace Go.Proofs.YtcpldcojckhapaaGreat
open Go.Conc
variable {P : Program} {V : Env}
inductive Ends (P : Program) (K : LF -> World -> Prop) : Cfg -> World -> Prop
  | stop {f : LF} {w : World} (hf : f.todo = []) (hk : K f w) : Ends P K ⟨f, false, []⟩ w
  | step {c : Cfg} {w : World} (c' : Tp -> Nat -> Cfg) (w' : Tp -> Nat -> World) (es : Tp -> Nat -> Array Event) (he : ∀ τ d, ∀ e ∈ es τ d, EvOk e)
      (hs : ∀ τ d main k B, stepG P main (gor k B c) (rt w τ d) = .go (gor k B (c' τ d)) (w' τ d) (es τ d)) (hn : ∀ τ d, Ends P K (c' τ d) (w' τ d)) : Ends P K c w
theorem ends_step {K : LF -> World -> Prop} {c : Cfg} {w : World}
    (h : ∀ τ d, ∃ x : Cfg × World × Array Event, (∀ e ∈ x.2.2, EvOk e) /\ (∀ main k B, stepG P main (gor k B c) (rt w τ d) = .go (gor k B x.1) x.2.1 x.2.2) /\ Ends P K x.1 x.2.1) : Ends P K c w := by
  have h' : ∀ y : Tp × Nat, ∃ x : Cfg × World × Array Event, (∀ e ∈ x.2.2, EvOk e) /\ (∀ main k B, stepG P main (gor k B c) (rt w y.1 y.2) = .go (gor k B x.1) x.2.1 x.2.2) /\ Ends P K x.1 x.2.1 := fun y => h y.1 y.2
  obtain ⟨F, hF⟩ := Classical.skolem.1 h'
  exact .step (fun τ d => (F (τ, d)).1) (fun τ d => (F (τ, d)).2.1) (fun τ d => (F (τ, d)).2.2) (fun τ d => (hF (τ, d)).1) (fun τ d => (hF (τ, d)).2.1) (fun τ d => (hF (τ, d)).2.2)
section
variable {K : LF -> World -> Prop}
theorem reach_stop {f : LF} {w : World} (hf : f.todo = []) (h : Reach P K (stop f) w) : K f w := by
  obtain ⟨N, f', w', h1, h2, h3⟩ := h
  cases N with
  | zero =>
    simp only [runN, Stepped.next.injEq] at h1
    obtain ⟨a, rfl⟩ := solo_inj h1
    have := stop_eq (c := ⟨f, false, []⟩) a h2
    simp only [Cfg.mk.injEq, and_true] at this
    rw [this]; exact h3
  | succ N =>
    have : ∃ o, stepG P true (stop f) w = .ended o w #[] := by
      unfold stop gor LF.fr
      simp only [hf]
      exact ⟨_, rfl⟩
    obtain ⟨o, ho⟩ := this
    rw [runN_ended rfl ho] at h1
    cases h1
theorem not_stop {c : Cfg} (hgo : ¬ (c.rest = [] /\ (c.top.todo = [] ∨ c.ret = true))) : ∀ f, f.todo = [] -> gor k0 B0 c ≠ stop f := by
  intro f hf h
  have := stop_eq h hf
  subst this
  exact hgo ⟨rfl, .inl hf⟩
theorem bad_dead {c : Cfg} {w : World} (hgo : ¬ (c.rest = [] /\ (c.top.todo = [] ∨ c.ret = true))) (hb : Bad P c w) (hr : Reach P K (gor k0 B0 c) w) : False := by
  rcases hb with ⟨o, w', es, h⟩ | ⟨f, chain, w', es, h⟩
  . exact reach_ended rfl (not_stop hgo) h hr
  . exact pan_dead _ _ _ _ (reach_go rfl (not_stop hgo) h hr)
theorem go_cases (c : Cfg) : (∃ f, c = ⟨f, false, []⟩ /\ f.todo = []) ∨ (∃ f, c = ⟨f, true, []⟩) ∨ ¬ (c.rest = [] /\ (c.top.todo = [] ∨ c.ret = true)) := by
  obtain ⟨f, ret, rest⟩ := c
  cases rest with
  | cons a l => exact .inr (.inr fun h => by cases h.1)
  | nil =>
    cases ret with
    | true => exact .inr (.inl ⟨f, rfl⟩)
    | false =>
      cases ht : f.todo with
      | nil => exact .inl ⟨f, rfl, ht⟩
      | cons a l => exact .inr (.inr fun h => by rcases h.2 with h | h <;> cases h)
theorem reach_sim (hV : Fit P V) (hK : ∀ f w τ d, K f w -> K f (rt w τ d)) : ∀ (N : Nat) (c : Cfg) (w : World) (τ₁ τ₂ : Tp) (d₁ d₂ : Nat), CfgK V c -> (∀ i q, τ₁ (d₁ + i) q = τ₂ (d₂ + i) q) ->
    (∃ f w', runN P N (solo (gor k0 B0 c) (rt w τ₁ d₁)) = .next (solo (stop f) w') /\ f.todo = [] /\ K f w') -> Reach P K (gor k0 B0 c) (rt w τ₂ d₂) := by
  intro N
  induction N with
  | zero =>
    intro c w τ₁ τ₂ d₁ d₂ hc ht ⟨f, w', h1, h2, h3⟩
    simp only [runN, Stepped.next.injEq] at h1
    obtain ⟨a, rfl⟩ := solo_inj h1
    rw [a]
    exact ⟨0, f, _, rfl, h2, by have := hK f _ τ₂ d₂ h3; rwa [rt_rt] at this⟩
  | succ N ih =>
    intro c w τ₁ τ₂ d₁ d₂ hc ht hr
    have hr' : Reach P K (gor k0 B0 c) (rt w τ₁ d₁) := let ⟨f, w', h⟩ := hr; ⟨N + 1, f, w', h⟩
    rcases go_cases c with ⟨f, rfl, hf⟩ | ⟨f, rfl⟩ | hgo
    . have := reach_stop hf hr'
      exact ⟨0, f, _, rfl, hf, by have := hK f _ τ₂ d₂ this; rwa [rt_rt] at this⟩
    . exact absurd hr' (ret_dead f _)
    . rcases lstep hV c hc hgo (rt w τ₁ d₁) with ⟨n, c', w', es, h1, _, _, _, hs⟩ | hb
      . have s1 := hs τ₁ d₁ (fun i _ q => rfl) true k0 B0
        have s2 := hs τ₂ d₂ (fun i _ q => (ht i q).symm) true k0 B0
        rw [rt_rt] at s1 s2
        have hr2 : ∃ f w2, runN P N (solo (gor k0 B0 c') (rt w' τ₁ (d₁ + n))) = .next (solo (stop f) w2) /\ f.todo = [] /\ K f w2 := by
          obtain ⟨f, w2, q1, q2⟩ := hr
          rw [runN_go rfl s1] at q1
          exact ⟨f, w2, q1, q2⟩
        obtain ⟨M, f, w2, q1, q2, q3⟩ := ih c' w' τ₁ τ₂ (d₁ + n) (d₂ + n) h1 (fun i q => by rw [Nat.add_assoc, Nat.add_assoc]; exact ht _ q) hr2
        exact ⟨M + 1, f, w2, by rw [runN_go rfl s2]; exact q1, q2, q3⟩
      . exact (bad_dead hgo hb hr').elim
structure Un (P : Program) (V : Env) (K : LF -> World -> Prop) (x : Cfg × World) : Prop where
  ok : CfgK V x.1
  reach : ∀ τ d, Reach P K (gor k0 B0 x.1) (rt x.2 τ d)
  not : ¬ Ends P K x.1 x.2
structure Nx where
  c : Cfg
  w : World
  τ : Tp
  d : Nat
  n : Nat
  es : Array Event
theorem un_next (hV : Fit P V) (hK : ∀ f w τ d, K f w -> K f (rt w τ d)) (x : Cfg × World) (hx : Un P V K x) :
    ∃ y : Nx, Un P V K (y.c, y.w) /\ ∀ τ' d', (∀ i, i < y.n -> ∀ q, τ' (d' + i) q = y.τ (y.d + i) q) -> stepG P true (gor k0 B0 x.1) (rt x.2 τ' d') = .go (gor k0 B0 y.c) (rt y.w τ' (d' + y.n)) y.es := by
  obtain ⟨c, w⟩ := x
  obtain ⟨hc, hr, hn⟩ := hx
  simp only at hc hr hn ⊢
  have hgo : ¬ (c.rest = [] /\ (c.top.todo = [] ∨ c.ret = true)) := by
    rcases go_cases c with ⟨f, rfl, hf⟩ | ⟨f, rfl⟩ | hgo
    . have := hK f _ w.tape w.drawn (reach_stop hf (hr w.tape w.drawn))
      exact absurd (Ends.stop hf this) hn
    . exact absurd (hr w.tape w.drawn) (ret_dead f _)
    . exact hgo
  have : ∃ τ d, ∀ x : Cfg × World × Array Event, (∀ e ∈ x.2.2, EvOk e) -> (∀ main k B, stepG P main (gor k B c) (rt w τ d) = .go (gor k B x.1) x.2.1 x.2.2) -> ¬ Ends P K x.1 x.2.1 := by
    refine Classical.byContradiction fun hno => hn (ends_step fun τ d => Classical.byContradiction fun hno2 => hno ⟨τ, d, fun x h1 h2 h3 => hno2 ⟨x, h1, h2, h3⟩⟩)
  obtain ⟨τ, d, hno⟩ := this
  rcases lstep hV c hc hgo (rt w τ d) with ⟨n, c', w', es, h1, h2, _, _, hs⟩ | hb
  . have s0 := hs τ d (fun i _ q => rfl)
    refine ⟨⟨c', rt w' τ (d + n), τ, d, n, es⟩, ⟨h1, fun τ₂ d₂ => ?_, hno (c', rt w' τ (d + n), es) h2 s0⟩, fun τ' d' hs' => ?_⟩
    . simp only
      rw [rt_rt]
      let τs : Tp := fun i q => if i < n then τ (d + i) q else τ₂ (d₂ + (i - n)) q
      have hsame : SameT n (rt w τ d) τs 0 := fun i hi q => by show τs (0 + i) q = τ (d + i) q; simp [τs, hi]
      have s1 := hs τs 0 hsame true k0 B0
      rw [rt_rt] at s1
      obtain ⟨N, f, w2, q1, q2, q3⟩ := reach_go rfl (not_stop hgo) s1 (hr τs 0)
      refine reach_sim hV hK N c' w' τs τ₂ (0 + n) d₂ h1 (fun i q => ?_) ⟨f, w2, q1, q2, q3⟩
      have : ¬ 0 + n + i < n := by omega
      show (if 0 + n + i < n then _ else _) = _
      rw [if_neg this]
      congr 2
      omega
    . have := hs τ' d' (fun i hi q => hs' i hi q) true k0 B0
      rw [rt_rt] at this
      rw [rt_rt]
      exact this
  . exact (bad_dead hgo hb (hr τ d)).elim
theorem ends (hV : Fit P V) (hK : ∀ f w τ d, K f w -> K f (rt w τ d)) (c : Cfg) (hc : CfgK V c) (w : World) (h : ∀ τ d, Reach P K (gor k0 B0 c) (rt w τ d)) : Ends P K c w := by
  refine Classical.byContradiction fun hn => ?_
  classical
  let St := { x : Cfg × World // Un P V K x }
  have hx : ∀ x : St, ∃ y : Nx, Un P V K (y.c, y.w) /\ ∀ τ' d', (∀ i, i < y.n -> ∀ q, τ' (d' + i) q = y.τ (y.d + i) q) -> stepG P true (gor k0 B0 x.1.1) (rt x.1.2 τ' d') = .go (gor k0 B0 y.c) (rt y.w τ' (d' + y.n)) y.es := fun x => un_next hV hK x.1 x.2
  obtain ⟨F, hF⟩ := Classical.skolem.1 hx
  let xs : Nat -> St := fun i => Nat.rec ⟨(c, w), hc, h, hn⟩ (fun _ x => ⟨((F x).c, (F x).w), (hF x).1⟩) i
  let D : Nat -> Nat := fun i => Nat.rec 0 (fun i a => a + (F (xs i)).n) i
  have hD : ∀ i, D (i + 1) = D i + (F (xs i)).n := fun i => rfl
  have hmono : ∀ i j, i <= j -> D i <= D j := by
    intro i j hij
    induction j with
    | zero => obtain rfl : i = 0 := by omega
              exact Nat.le_refl _
    | succ j ih =>
      rcases Nat.lt_or_ge i (j + 1) with h | h
      . exact Nat.le_trans (ih (by omega)) (by rw [hD]; omega)
      . obtain rfl : i = j + 1 := by omega
        exact Nat.le_refl _
  let τ : Tp := fun j q => if hj : ∃ i, D i <= j /\ j < D (i + 1) then (F (xs (Classical.choose hj))).τ ((F (xs (Classical.choose hj))).d + (j - D (Classical.choose hj))) q else 0
  have hτ : ∀ i l, l < (F (xs i)).n -> ∀ q, τ (D i + l) q = (F (xs i)).τ ((F (xs i)).d + l) q := by
    intro i l hl q
    have hj : ∃ i', D i' <= D i + l /\ D i + l < D (i' + 1) := ⟨i, by omega, by rw [hD]; omega⟩
    have hc := Classical.choose_spec hj
    have he : Classical.choose hj = i := by
      rcases Nat.lt_trichotomy (Classical.choose hj) i with h | h | h
      . have := hmono (Classical.choose hj + 1) i h
        omega
      . exact h
      . have := hmono (i + 1) (Classical.choose hj) h
        have := hD i
        omega
    show (if hj : ∃ i', D i' <= D i + l /\ D i + l < D (i' + 1) then _ else _) = _
    rw [dif_pos hj, he]
    congr 2
    omega
  have hrun : ∀ i, runN P i (solo (gor k0 B0 c) (rt w τ 0)) = .next (solo (gor k0 B0 (xs i).1.1) (rt (xs i).1.2 τ (D i))) := by
    intro i
    induction i with
    | zero => rfl
    | succ i ih =>
      rw [runN_add, ih]
      simp only [runN]
      have := (hF (xs i)).2 τ (D i) (hτ i)
      rw [step_solo_go rfl this]
  obtain ⟨N, f, w', h1, h2, h3⟩ := h τ 0
  rw [hrun N] at h1
  simp only [Stepped.next.injEq] at h1
  obtain ⟨a, b⟩ := solo_inj h1
  have hs := stop_eq a h2
  have hk : K f (xs N).1.2 := by
    have := hK f _ (xs N).1.2.tape (xs N).1.2.drawn h3
    rwa [<- b, rt_rt, rt_self] at this
  refine (xs N).2.not ?_
  rw [hs]
  exact Ends.stop h2 hk
end
end Go.Proofs.YtcpldcojckhapaaGreat

namespace Go.Proofs.YtcpldcojckhapaaGreat
open Go.Conc
open Go.ConcN (sumTo upd sumTo_upd upd_ne upd_same)
variable {P : Program} {V : Env}
structure Pst (t : Trace) : Prop where
  clean : ∀ said, ¬ Race said t
  known : ∀ i a, touchAt t i = some a -> a.loc.isMemory = true -> Knows t 0 i
  over : t.HandedOver
  hears : Deaf t 0 = 0
theorem pst_nil : Pst #[] := ⟨past_nil.clean, fun i a h hm => (past_nil.known i a h hm).elim id fun x => x.1.elim, past_nil.over, past_nil.hears⟩
theorem Pst.app0 {t u : Trace} (h : Pst t) (hu : ∀ op ∈ u, op.g = 0) (hd : Deaf (t ++ u) 0 = Deaf t 0) : Pst (t ++ u) := by
  refine ⟨fun said => noRace_append (h.clean said) hu fun i a ha op hop b hb hc => h.known i a ha hc.2.1, fun i a ha hm => ?_, handedOver_app h.over fun op hop => .inl (hu op hop), hd.trans h.hears⟩
  obtain ⟨x, hx, hxa⟩ := touch_of ha
  rcases getElem?_append_cases hx with ⟨_, hx'⟩ | ⟨_, hxu⟩
  . exact (h.known i a (by rw [touchAt_of hx']; exact hxa) hm).app u
  . have := knows_own hx
    rw [hu x hxu] at this
    exact this
theorem Pst.appMute {t u : Trace} {g : Nat} (h : Pst t) (hg : g ≠ 0) (hu : ∀ op ∈ u, op.g = g) (hn : ∀ op ∈ u, op.act.touch? = none) : Pst (t ++ u) := by
  refine ⟨fun said => noRace_append (h.clean said) hu fun i a _ op hop b hb _ => (by rw [hn op hop] at hb; cases hb), fun i a ha hm => ?_, handedOver_app h.over fun op hop => .inr (hn op hop), (Deaf_other t hg u hu).trans h.hears⟩
  obtain ⟨x, hx, hxa⟩ := touch_of ha
  rcases getElem?_append_cases hx with ⟨_, hx'⟩ | ⟨_, hxu⟩
  . exact (h.known i a (by rw [touchAt_of hx']; exact hxa) hm).app u
  . rw [hn x hxu] at hxa; cases hxa
theorem Pst.own {t : Trace} (h : Pst t) {fn : FuncId} {pos : String} {es : Array Event} (hes : ∀ e ∈ es, EvOk e) : Pst (t ++ MemOp.ofEvents 0 fn pos es) := by
  refine h.app0 (fun op hop => by obtain ⟨e, _, rfl⟩ := Go.Conc.mem_ofEvents hop; rfl) ?_
  rw [Deaf_own]
  exact deafBehind_still (fun e he => hes e he) _
theorem Pst.mute {t : Trace} (h : Pst t) {g : Nat} (hg : g ≠ 0) {fn : FuncId} {pos : String} {es : Array Event} (hm : ∀ e ∈ es, e.mute = true) : Pst (t ++ MemOp.ofEvents g fn pos es) :=
  h.appMute hg (fun op hop => by obtain ⟨e, _, rfl⟩ := Go.Conc.mem_ofEvents hop; rfl) (fun op hop => by obtain ⟨e, he, rfl⟩ := Go.Conc.mem_ofEvents hop; exact touch_mute (hm e he))
structure Beside (P : Program) (gs : Array Goroutine) (t : Trace) (a : Goroutine) : Prop where
  at0 : gs[0]? = some a
  leave : ∃ q, Leavers P t gs q
  past : Pst t
def Runs (P : Program) (gs : Array Goroutine) (w : World) (t : Trace) (Q : Array Goroutine -> World -> Trace -> Prop) : Prop :=
  ∀ sl, ∃ N gs' w' sl' t', runNT P N (crowd gs w sl) t = (.next (crowd gs' w' sl'), t') /\ Q gs' w' t'
theorem Runs.here {gs : Array Goroutine} {w : World} {t : Trace} {Q : Array Goroutine -> World -> Trace -> Prop} (h : Q gs w t) : Runs P gs w t Q := fun sl => ⟨0, gs, w, sl, t, rfl, h⟩
theorem Runs.bind {gs : Array Goroutine} {w : World} {t : Trace} {Q R : Array Goroutine -> World -> Trace -> Prop} (h : Runs P gs w t Q) (hr : ∀ gs w t, Q gs w t -> Runs P gs w t R) : Runs P gs w t R := by
  intro sl
  obtain ⟨N, gs1, w1, sl1, t1, h1, h2⟩ := h sl
  obtain ⟨M, gs2, w2, sl2, t2, h3, h4⟩ := hr _ _ _ h2 sl1
  exact ⟨N + M, gs2, w2, sl2, t2, by rw [runNT_add, h1]; exact h3, h4⟩
theorem beside_turn {Q : Array Goroutine -> World -> Trace -> Prop} {a : Goroutine} {w : World} (hrun : a.status = .running) (n : Nat)
    (hstep : ∀ d gs t sl, gs.size = n -> Beside P gs t a -> ∃ gs' w' sl' ops, runT P (crowd gs (rt w w.tape d) sl) 0 = (.next (crowd gs' w' sl'), ops) /\ Runs P gs' w' (t ++ ops) Q) :
    ∀ gs t, gs.size = n -> Beside P gs t a -> Runs P gs w t Q := by
  have move : ∀ (gs : Array Goroutine) (d0 : Nat) (t : Trace) (q : Nat -> Nat) (sl : Option (Nat × Nat)) (M : Nat), sumTo gs.size q <= M -> gs.size = n -> gs[0]? = some a -> Leavers P t gs q -> Pst t ->
      (∀ (gs' : Array Goroutine) (d' : Nat) (t' : Trace) (q' : Nat -> Nat) (k : Nat), sumTo gs'.size q' + 1 <= M -> gs'.size = n -> gs'[0]? = some a -> Leavers P t' gs' q' -> Pst t' -> Runs P gs' (rt w w.tape d') t' Q) ->
      ∃ N gs' w' sl' t', runNT P N (crowd gs (rt w w.tape d0) sl) t = (.next (crowd gs' w' sl'), t') /\ Q gs' w' t' := by
    intro gs d0 t q sl M hM hn h0 hL hP ih
    have haw : ∀ g ∈ gs, awake g := by
      intro g hg
      obtain ⟨i, hi, rfl⟩ := Array.mem_iff_getElem.1 hg
      rcases Nat.eq_zero_or_pos i with rfl | hpos
      . have : gs[0] = a := by simpa [Array.getElem?_eq_getElem hi] using h0
        rw [this]; exact awake_of (.inl hrun)
      . exact awake_of ((hL.old i _ hpos (Array.getElem?_eq_getElem hi)).status.elim .inl fun x => .inr (.inr x))
    obtain ⟨i, g, d, sl', hi, hg, hst⟩ := crowd_pick (P := P) (w := rt w w.tape d0) (sl := sl) haw ⟨0, a, h0, hrun⟩
    have ed : (rt w w.tape d0).at d = rt w w.tape d := rfl
    rw [ed] at hst
    rcases Nat.eq_zero_or_pos i with rfl | hpos
    . obtain rfl : g = a := by rw [h0] at hi; exact (Option.some.inj hi).symm
      obtain ⟨gs1, w1, sl1, ops, hrunT, hnext⟩ := hstep d gs t sl' hn ⟨h0, ⟨q, hL⟩, hP⟩
      obtain ⟨N, gs', w'', sl'', t', hr, hQ⟩ := hnext sl1
      exact ⟨N + 1, gs', w'', sl'', t', by simp only [runNT, hst, hrunT]; exact hr, hQ⟩
    . have hq := hL.old i g hpos hi
      have hi0 : (i == 0) = false := by simp; omega
      have hlt : i < gs.size := (Array.getElem?_eq_some_iff.1 hi).1
      cases hqi : q i with
      | zero => rw [hqi] at hq; rw [hq.1] at hg; cases hg
      | succ k =>
        rw [hqi] at hq
        rcases hq with ⟨hf, _⟩ | ⟨_, g', es, hm, hstp, hq'⟩
        . rw [hf] at hg; cases hg
        have hrunT := runT_crowd_go (P := P) (sl := sl') (i := i) hi (by rw [hi0]; exact hstp (rt w w.tape d))
        have hsz : ((gs.map (woken P g g' (rt w w.tape d))).setIfInBounds i g').size = gs.size := by simp
        have hsum : sumTo gs.size (upd q i k) + (k + 1) = sumTo gs.size q + k := by
          have := sumTo_upd q k id hlt
          simpa [hqi] using this
        obtain ⟨N, gs', w'', sl'', t', hr, hQ⟩ := ih ((gs.map (woken P g g' (rt w w.tape d))).setIfInBounds i g') d (t ++ MemOp.ofEvents i g.frame.fn g.frame.place es) (upd q i k) 0 (by rw [hsz]; omega) (hsz.trans hn)
          (by
            have hne : i ≠ 0 := by omega
            rw [Array.getElem?_setIfInBounds_ne hne, Array.getElem?_map, h0]
            simp [woken_run hrun])
          ⟨fun j x hj hx => by
            by_cases hji : i = j
            . subst hji
              rw [Array.getElem?_setIfInBounds_self_of_lt (by simpa using hlt)] at hx
              obtain rfl := Option.some.inj hx
              rw [upd_same, Deaf_own]
              exact hq'
            . rw [Array.getElem?_setIfInBounds_ne hji, Array.getElem?_map] at hx
              obtain ⟨y, hy, rfl⟩ := Option.map_eq_some_iff.1 hx
              have hqj := hL.old j y hj hy
              rw [woken_quitsD hqj, upd_ne q k (Ne.symm hji), Deaf_other t hji _ (fun op hop => by obtain ⟨e, _, rfl⟩ := Go.Conc.mem_ofEvents hop; rfl)]
              exact hqj, fun j hj => by
            rw [Deaf_other t (g' := i) (by simp at hj; omega) _ (fun op hop => by obtain ⟨e, _, rfl⟩ := Go.Conc.mem_ofEvents hop; rfl)]
            exact hL.above j (by simpa using hj)⟩
          (hP.mute (by omega) hm) sl'
        exact ⟨N + 1, gs', w'', sl'', t', by simp only [runNT, hst, hrunT]; exact hr, hQ⟩
  have key : ∀ (M : Nat) (gs : Array Goroutine) (d0 : Nat) (t : Trace) (q : Nat -> Nat), sumTo gs.size q <= M -> gs.size = n -> gs[0]? = some a -> Leavers P t gs q -> Pst t -> Runs P gs (rt w w.tape d0) t Q := by
    intro M
    induction M with
    | zero =>
      intro gs d0 t q hM hn h0 hL hP sl
      exact move gs d0 t q sl 0 hM hn h0 hL hP fun _ _ _ _ k hk => by omega
    | succ M ih =>
      intro gs d0 t q hM hn h0 hL hP sl
      exact move gs d0 t q sl (M + 1) hM hn h0 hL hP fun gs' d' t' q' k hk h1 h2 h3 h4 => ih gs' d' t' q' (by omega) h1 h2 h3 h4
  intro gs t hn ⟨h0, ⟨q, hL⟩, hP⟩
  exact key _ gs w.drawn t q (Nat.le_refl _) hn h0 hL hP
theorem beside_move {Q : Array Goroutine -> World -> Trace -> Prop} {a : Goroutine} {w : World} (hrun : a.status = .running)
    (hstep : ∀ d, ∃ a' w' es, stepG P true a (rt w w.tape d) = .go a' w' es /\ (∀ e ∈ es, EvOk e) /\ ∀ gs t, Beside P gs t a' -> Runs P gs w' t Q) :
    ∀ gs t, Beside P gs t a -> Runs P gs w t Q := by
  intro gs t hb
  refine beside_turn hrun gs.size (fun d gs t sl' _ hB => ?_) gs t rfl hb
  obtain ⟨h0, ⟨q, hL⟩, hP⟩ := hB
  obtain ⟨a', w', es, hgo, hes, hnext⟩ := hstep d
  have hrunT := runT_crowd_go (P := P) (sl := sl') (i := 0) h0 (show stepG P (0 == 0) a (rt w w.tape d) = _ from hgo)
  have hlt : 0 < gs.size := (Array.getElem?_eq_some_iff.1 h0).1
  refine ⟨_, _, _, _, hrunT, hnext _ _ ⟨by simp [hlt], ⟨q, fun j x hj hx => ?_, fun j hj => ?_⟩, hP.own hes⟩⟩
  . have hne : 0 ≠ j := by omega
    rw [Array.getElem?_setIfInBounds_ne hne, Array.getElem?_map] at hx
    obtain ⟨y, hy, rfl⟩ := Option.map_eq_some_iff.1 hx
    have hq := hL.old j y hj hy
    rw [woken_quitsD hq, Deaf_other t (by omega) _ (fun op hop => by obtain ⟨e, _, rfl⟩ := Go.Conc.mem_ofEvents hop; rfl)]
    exact hq
  . rw [Deaf_other t (g' := 0) (by simp at hj; omega) _ (fun op hop => by obtain ⟨e, _, rfl⟩ := Go.Conc.mem_ofEvents hop; rfl)]
    exact hL.above j (by simpa using hj)
theorem beside_ends' {K : LF -> World -> Prop} {c : Cfg} {w : World} (hE : Ends P K c w) (k : List Item) (B : List Frame) :
    ∀ gs t, Beside P gs t (gor k B c) -> Runs P gs w t fun gs' w' t' => ∃ f, f.todo = [] /\ K f w' /\ Beside P gs' t' (gor k B ⟨f, false, []⟩) := by
  induction hE with
  | stop hf hk => exact fun gs t h => Runs.here ⟨_, hf, hk, h⟩
  | step c' w' es he hs hn ih =>
    rename_i c0 w0
    refine beside_move rfl fun d => ⟨gor k B (c' w0.tape d), w' w0.tape d, es w0.tape d, hs w0.tape d true k B, he _ _, fun gs t hB => ih w0.tape d gs t hB⟩
end Go.Proofs.YtcpldcojckhapaaGreat

namespace Go.Proofs.YtcpldcojckhapaaGreat
open Go.Conc
open Go.ConcN (sumTo upd sumTo_upd upd_ne upd_same)
variable {P : Program} {V : Env}
def Fr (fn : FuncId) (tmps : Array Value) (todo : List Item) : Frame := { fn, tmps, todo, defers := [], mode := .run, kind := .normal }
def Cl (I : World -> Prop) : Prop := ∀ w τ d, I w -> I (rt w τ d)
def Tri (P : Program) (a : Goroutine) (I : World -> Prop) (Q : Array Goroutine -> World -> Trace -> Prop) : Prop := ∀ gs w t, I w -> Beside P gs t a -> Runs P gs w t Q
theorem Tri.ctl {a a' : Goroutine} {I : World -> Prop} {Q : Array Goroutine -> World -> Trace -> Prop} (hI : Cl I) (hr : a.status = .running) (h : ∀ w, stepG P true a w = .go a' w #[]) (hn : Tri P a' I Q) : Tri P a I Q :=
  fun gs w t hi hb => beside_move hr (fun d => ⟨a', rt w w.tape d, #[], h _, by simp, fun gs t hb => hn gs _ t (hI _ _ _ hi) hb⟩) gs t hb
theorem Tri.pre {a : Goroutine} {I J : World -> Prop} {Q : Array Goroutine -> World -> Trace -> Prop} (h : Tri P a J Q) (hi : ∀ w, I w -> J w) : Tri P a I Q := fun gs w t h1 hb => h gs w t (hi w h1) hb
theorem Tri.bind {a : Goroutine} {I : World -> Prop} {Q R : Array Goroutine -> World -> Trace -> Prop} (h : Tri P a I Q) (hr : ∀ gs w t, Q gs w t -> Runs P gs w t R) : Tri P a I R := fun gs w t h1 hb => (h gs w t h1 hb).bind hr
theorem Tri.wp (hV : Fit P V) {c : Code} {fn : FuncId} (hc : okCode V fn c = true) {tmps : Array Value} (hs : Slots V fn tmps) {I : World -> Prop} (hI : Cl I) {J : Array Value -> World -> Prop} (hJ : ∀ a, Cl (J a)) {k : List Item} {B : List Frame} {Q : Array Goroutine -> World -> Trace -> Prop}
    (hw : ∀ w, I w -> c.wp P (fun e a w' => e = .normal /\ a.defers = [] /\ J a.tmps w') ⟨tmps, []⟩ w) (hn : ∀ tmps', Tri P (G (Fr fn tmps' k) B) (J tmps') Q) : Tri P (G (Fr fn tmps (.code c :: k)) B) I Q := by
  intro gs w t hi hb
  have hE : Ends P (fun f w' => f.fn = fn /\ J f.tmps w') ⟨⟨fn, tmps, [.code c]⟩, false, []⟩ w := by
    refine ends hV (fun f w τ d h => ⟨h.1, hJ _ _ _ _ h.2⟩) _ ⟨⟨fun it hit => ?_, hs⟩, fun f hf => by cases hf⟩ w fun τ d => ?_
    . obtain rfl := List.mem_singleton.1 hit
      exact hc
    . obtain ⟨e, a', w', ⟨rfl, hd, hj⟩, n, hn⟩ := hw (rt w τ d) (hI _ _ _ hi) { (default : Frame) with fn := fn, kind := .normal } k0 B0
      refine ⟨n, ⟨fn, a'.tmps, []⟩, w', ?_, rfl, rfl, hj⟩
      have e2 : ({ (default : Frame) with fn := fn, kind := .normal } : Frame).at a' k0 = (⟨fn, a'.tmps, []⟩ : LF).fr k0 .run := by
        obtain ⟨at_, ad⟩ := a'
        simp only at hd
        subst hd
        rfl
      rw [e2] at hn
      exact hn
  refine (beside_ends' hE k B gs t hb).bind fun gs' w' t' ⟨f, hf, ⟨h1, h2⟩, h3⟩ => hn f.tmps gs' w' t' h2 ?_
  have : gor k B ⟨f, false, []⟩ = G (Fr fn f.tmps k) B := by
    obtain ⟨a, b, c⟩ := f
    simp only at hf h1
    subst hf h1
    rfl
  rw [<- this]
  exact h3
section ctl
variable {fn : FuncId} {tmps : Array Value} {k : List Item} {B : List Frame} {I : World -> Prop} {Q : Array Goroutine -> World -> Trace -> Prop}
end ctl
end Go.Proofs.YtcpldcojckhapaaGreat
