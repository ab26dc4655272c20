/-
  
-/
import Derived.Conc.Beside
import Derived.Laws.Sem
namespace Go.Proofs.YtcpldcojckhapaaGreat
open Go.Conc
abbrev Tp := Nat -> Question -> Nat
def rt (w : World) (τ : Tp) (d : Nat) : World := { w with tape := τ, drawn := d }
@[simp] theorem rt_heap (w : World) (τ : Tp) (d : Nat) : (rt w τ d).heap = w.heap := rfl
@[simp] theorem rt_tape (w : World) (τ : Tp) (d : Nat) : (rt w τ d).tape = τ := rfl
@[simp] theorem rt_drawn (w : World) (τ : Tp) (d : Nat) : (rt w τ d).drawn = d := rfl
theorem rt_self (w : World) : rt w w.tape w.drawn = w := rfl
theorem rt_rt (w : World) (τ τ' : Tp) (d d' : Nat) : rt (rt w τ d) τ' d' = rt w τ' d' := rfl
def rr {α : Type} (r : Result α) (τ : Tp) (d : Nat) : Result α :=
  match r with
  | .ok a w => .ok a (rt w τ d)
  | .halt h w => .halt h (rt w τ d)
def rw_ {α : Type} : Result α -> World
  | .ok _ w => w
  | .halt _ w => w
def HaltOk : Halt -> Prop
  | .panic _ | .unsupported _ | .stuck _ => True
  | _ => False
def SysOk (c : Sys) : Prop := ∀ os, ∃ r, Kernel.perform c os = .done (r, os)
def Nm (P : Program) {α : Type} (Q : α -> Prop) : Sem α -> Prop
  | .pure a => Q a
  | .load _ _ k => ∀ v, Nm P Q (k v)
  | .store _ _ _ k => Nm P Q k
  | .new _ k => ∀ r, Nm P Q (k r)
  | .shape _ k => ∀ s, Nm P Q (k s)
  | .freeze _ _ k => Nm P Q k
  | .frozen _ k => ∀ b, Nm P Q (k b)
  | .getObj _ k => ∀ o, Nm P Q (k o)
  | .setObj _ _ k => Nm P Q k
  | .choose _ k => ∀ n, Nm P Q (k n)
  | .sys c k => SysOk c /\ ∀ r, Nm P Q (k r)
  | .program k => Nm P Q (k P)
  | .mark m k => (m ≠ .disable /\ m ≠ .enable) /\ Nm P Q k
  | .halt h => HaltOk h
def EvOk (e : Event) : Prop := e.loc ≠ .mark .disable /\ e.loc ≠ .mark .enable
def SameT (k : Nat) (w : World) (τ : Tp) (d : Nat) : Prop := ∀ i, i < k -> ∀ q, τ (d + i) q = w.tape (w.drawn + i) q
theorem viewStore_rt (P : Program) (w : World) (τ : Tp) (d : Nat) (at_ : Addr) (u : TypeId) (a : Addr) (v : Value) (b : Bool) :
    (rt w τ d).viewStore P at_ u a v b = (w.viewStore P at_ u a v b).map (fun x => (rt x.1 τ d, x.2)) := by
  have e : World.seen P (rt w τ d) at_ u a b = World.seen P w at_ u a b := rfl
  unfold World.viewStore
  rw [e]
  cases htt : tight P P.depth u with
  | false => rfl
  | true =>
  cases World.seen P w at_ u a b with
  | error s => rfl
  | ok x =>
  obtain ⟨c, e, fz, first, like, cells⟩ := x
  cases v.bytes? with
  | none => rfl
  | some bytes =>
  by_cases hb : some bytes.length ≠ like.bytes?.map (·.length)
  . simp only [bind, Except.bind, pure, Except.pure, hb, if_true, Bool.not_true, Bool.false_eq_true, if_false, ne_eq, not_false_eq_true]
    rfl
  . simp only [bind, Except.bind, pure, Except.pure, hb, if_false, Bool.not_true, Bool.false_eq_true]
    generalize List.foldlM (m := Except String) _ c cells = r
    cases r <;> rfl
theorem farStore_rt (P : Program) (w : World) (τ : Tp) (d : Nat) (a : Addr) (v : Value) (b : Bool) :
    (rt w τ d).farStore P a v b = (w.farStore P a v b).map (fun x => (rt x.1 τ d, x.2)) := by
  unfold World.farStore
  simp only [rt_heap]
  split
  . rw [viewStore_rt]
    generalize World.viewStore P w _ _ a v b = r
    cases r <;> rfl
  . rfl
theorem farStore_tape {P : Program} {w w' : World} {l : List Addr} {a : Addr} {v : Value} {b : Bool} (h : w.farStore P a v b = .ok (w', l)) : w'.tape = w.tape /\ w'.drawn = w.drawn := by
  have h1 := farStore_rt P w w.tape w.drawn a v b
  rw [rt_self, h] at h1
  simp only [Except.map, Except.ok.injEq, Prod.mk.injEq] at h1
  rw [h1.1]
  exact ⟨rfl, rfl⟩
theorem rr_run {α : Type} (P : Program) (Q : α -> Prop) (x : Sem α) (hx : Nm P Q x) : ∀ w : World, ∃ k,
    (rw_ (x.run P w)).tape = w.tape /\ (rw_ (x.run P w)).drawn = w.drawn + k /\ (∀ a w', x.run P w = .ok a w' -> Q a) /\ (∀ h w', x.run P w = .halt h w' -> HaltOk h) /\
    ∀ τ d, SameT k w τ d -> x.run P (rt w τ d) = rr (x.run P w) τ (d + k) /\ ∀ es, x.events P (rt w τ d) es = x.events P w es := by
  induction x with
  | pure a => exact fun w => ⟨0, rfl, rfl, (fun a w' h => by simp only [Sem.run, Result.ok.injEq] at h; rw [<- h.1]; exact hx), (fun h w' e => by simp [Sem.run] at e), fun τ d _ => ⟨rfl, fun es => rfl⟩⟩
  | load m a k ih =>
    intro w
    cases hc : w.cell? a with
    | some v =>
      have e1 : (Sem.load m a k).run P w = (k v).run P w := by simp only [Sem.run, hc]
      have e2 : ∀ es, (Sem.load m a k).events P w es = (k v).events P w (es.push ⟨.cell a, false, m == .atomic⟩) := fun es => by simp only [Sem.events, Sem.runT, hc]
      obtain ⟨n, h1, h2, h3, h4, h5⟩ := ih v (hx v) w
      refine ⟨n, by rw [e1]; exact h1, by rw [e1]; exact h2, by rw [e1]; exact h3, by rw [e1]; exact h4, fun τ d hs => ?_⟩
      have hc' : (rt w τ d).cell? a = some v := hc
      have e1' : (Sem.load m a k).run P (rt w τ d) = (k v).run P (rt w τ d) := by simp only [Sem.run, hc']
      have e2' : ∀ es, (Sem.load m a k).events P (rt w τ d) es = (k v).events P (rt w τ d) (es.push ⟨.cell a, false, m == .atomic⟩) := fun es => by simp only [Sem.events, Sem.runT, hc']
      obtain ⟨h6, h7⟩ := h5 τ d hs
      exact ⟨by rw [e1', e1, h6], fun es => by rw [e2', e2, h7]⟩
    | none =>
      cases hf : w.farLoad P a (m == .atomic) with
      | error h =>
        have e1 : (Sem.load m a k).run P w = .halt h w := by simp only [Sem.run, hc, hf]
        have hh : HaltOk h := by
          unfold World.farLoad at hf
          split at hf
          . split at hf <;> simp at hf
            subst hf; trivial
          . simp only [Except.error.injEq] at hf
            subst hf
            unfold World.noCell
            split <;> trivial
        refine ⟨0, by rw [e1]; rfl, by rw [e1]; rfl, (by rw [e1]; intro a w' x; cases x), (by rw [e1]; intro h' w' x; cases x; exact hh), fun τ d _ => ?_⟩
        have hc' : (rt w τ d).cell? a = none := hc
        have hf' : (rt w τ d).farLoad P a (m == .atomic) = .error h := hf
        exact ⟨by rw [e1]; simp only [Sem.run, hc', hf']; rfl, fun es => by simp only [Sem.events, Sem.runT, hc, hf, hc', hf']⟩
      | ok x =>
        obtain ⟨v, tl⟩ := x
        have e1 : (Sem.load m a k).run P w = (k v).run P w := by simp only [Sem.run, hc, hf]
        have e2 : ∀ es, (Sem.load m a k).events P w es = (k v).events P w (es ++ tl.toArray.map (⟨.cell ·, false, m == .atomic⟩)) := fun es => by simp only [Sem.events, Sem.runT, hc, hf]
        obtain ⟨n, h1, h2, h3, h4, h5⟩ := ih v (hx v) w
        refine ⟨n, by rw [e1]; exact h1, by rw [e1]; exact h2, by rw [e1]; exact h3, by rw [e1]; exact h4, fun τ d hs => ?_⟩
        have hc' : (rt w τ d).cell? a = none := hc
        have hf' : (rt w τ d).farLoad P a (m == .atomic) = .ok (v, tl) := hf
        have e1' : (Sem.load m a k).run P (rt w τ d) = (k v).run P (rt w τ d) := by simp only [Sem.run, hc', hf']
        have e2' : ∀ es, (Sem.load m a k).events P (rt w τ d) es = (k v).events P (rt w τ d) (es ++ tl.toArray.map (⟨.cell ·, false, m == .atomic⟩)) := fun es => by simp only [Sem.events, Sem.runT, hc', hf']
        obtain ⟨h6, h7⟩ := h5 τ d hs
        exact ⟨by rw [e1', e1, h6], fun es => by rw [e2', e2, h7]⟩
  | store m a v k ih =>
    intro w
    by_cases hb : (∃ x, v = .agg x) ∨ (∃ x, v = .tuple x)
    . obtain ⟨msg, e1⟩ : ∃ msg, ∀ w, (Sem.store m a v k).run P w = .halt (.stuck msg) w := by
        rcases hb with ⟨x, rfl⟩ | ⟨x, rfl⟩ <;> exact ⟨_, fun w => by simp only [Sem.run]; rfl⟩
      have e2 : ∀ w es, (Sem.store m a v k).events P w es = es := by
        intro w es; rcases hb with ⟨x, rfl⟩ | ⟨x, rfl⟩ <;> simp only [Sem.events, Sem.runT]
      exact ⟨0, by rw [e1]; rfl, by rw [e1]; rfl, (by rw [e1]; intro a w' x; cases x), (by rw [e1]; intro h' w' x; cases x; trivial), fun τ d _ => ⟨by rw [e1, e1]; rfl, fun es => by rw [e2, e2]⟩⟩
    . have e1 : ∀ w : World, (Sem.store m a v k).run P w = match w.cell? a with
          | some _ => if w.frozen? a then .halt (.unsupported (.unsafePointer "a write to bytes that a string shares")) w else k.run P (w.setCell a v)
          | none => match w.farStore P a v (m == .atomic) with
            | .ok (w, _) => k.run P w
            | .error h => .halt h w := by
        intro w
        rw [Sem.run]
        . rfl
        . exact fun x e => hb (.inl ⟨x, e⟩)
        . exact fun x e => hb (.inr ⟨x, e⟩)
      have e2 : ∀ (w : World) es, (Sem.store m a v k).events P w es = match w.cell? a with
          | some _ => if w.frozen? a then es else k.events P (w.setCell a v) (es.push ⟨.cell a, true, m == .atomic⟩)
          | none => match w.farStore P a v (m == .atomic) with
            | .ok (w, touched) => k.events P w (es ++ touched.toArray.map (⟨.cell ·, true, m == .atomic⟩))
            | .error h => es := by
        intro w es
        unfold Sem.events
        rw [Sem.runT]
        . cases w.cell? a with
          | some _ => simp only []; split <;> rfl
          | none => simp only []; cases w.farStore P a v (m == .atomic) <;> rfl
        . exact fun x e => hb (.inl ⟨x, e⟩)
        . exact fun x e => hb (.inr ⟨x, e⟩)
      have hfz : ∀ τ d, (rt w τ d).frozen? a = w.frozen? a := fun _ _ => rfl
      have hsc : ∀ τ d, (rt w τ d).setCell a v = rt (w.setCell a v) τ d := fun _ _ => rfl
      have hcc : ∀ τ d, (rt w τ d).cell? a = w.cell? a := fun _ _ => rfl
      simp only [e1, e2, hcc, hfz, hsc, farStore_rt]
      cases hc : w.cell? a with
      | some v0 =>
        simp only []
        cases hz : w.frozen? a with
        | true => exact ⟨0, rfl, rfl, (by intro a w' x; cases x), (by intro h' w' x; cases x; trivial), fun τ d _ => ⟨rfl, fun es => rfl⟩⟩
        | false =>
          simp only [Bool.false_eq_true, if_false]
          obtain ⟨n, h1, h2, h3, h4, h5⟩ := ih hx (w.setCell a v)
          exact ⟨n, h1, h2, h3, h4, fun τ d hs => ⟨(h5 τ d hs).1, fun es => (h5 τ d hs).2 _⟩⟩
      | none =>
        simp only []
        cases hf : w.farStore P a v (m == .atomic) with
        | error h =>
          have hh : HaltOk h := by
            unfold World.farStore at hf
            split at hf
            . split at hf <;> simp at hf
              subst hf; trivial
            . simp only [Except.error.injEq] at hf
              subst hf
              unfold World.noCell
              split <;> trivial
          exact ⟨0, rfl, rfl, (by intro a w' x; cases x), (by intro h' w' x; cases x; exact hh), fun τ d _ => ⟨rfl, fun es => rfl⟩⟩
        | ok x =>
          obtain ⟨w2, tl⟩ := x
          obtain ⟨t1, t2⟩ := farStore_tape hf
          simp only [Except.map]
          obtain ⟨n, h1, h2, h3, h4, h5⟩ := ih hx w2
          refine ⟨n, h1.trans t1, by rw [h2, t2], h3, h4, fun τ d hs => ?_⟩
          have hs' : SameT n w2 τ d := fun i hi q => by rw [hs i hi q, t1, t2]
          exact ⟨(h5 τ d hs').1, fun es => (h5 τ d hs').2 _⟩
  | new o k ih =>
    intro w
    obtain ⟨n, h1, h2, h3, h4, h5⟩ := ih w.heap.size (hx _) { w with heap := w.heap.push o }
    exact ⟨n, h1, h2, h3, h4, fun τ d hs => ⟨(h5 τ d hs).1, fun es => (h5 τ d hs).2 _⟩⟩
  | shape r k ih =>
    intro w
    obtain ⟨n, h1, h2, h3, h4, h5⟩ := ih (w.shape? r) (hx _) w
    exact ⟨n, h1, h2, h3, h4, fun τ d hs => ⟨(h5 τ d hs).1, fun es => (h5 τ d hs).2 _⟩⟩
  | freeze a m k ih =>
    intro w
    have t1 : (w.freeze a m).tape = w.tape /\ (w.freeze a m).drawn = w.drawn := by unfold World.freeze; split <;> exact ⟨rfl, rfl⟩
    have t2 : ∀ τ d, (rt w τ d).freeze a m = rt (w.freeze a m) τ d := fun τ d => by unfold World.freeze; split <;> rfl
    obtain ⟨n, h1, h2, h3, h4, h5⟩ := ih hx (w.freeze a m)
    refine ⟨n, h1.trans t1.1, by rw [<- t1.2]; exact h2, h3, h4, fun τ d hs => ?_⟩
    have hs' : SameT n (w.freeze a m) τ d := fun i hi q => by rw [hs i hi q, t1.1, t1.2]
    refine ⟨?_, fun es => ?_⟩
    . show k.run P ((rt w τ d).freeze a m) = _
      rw [t2]; exact (h5 τ d hs').1
    . show k.events P ((rt w τ d).freeze a m) es = _
      rw [t2]; exact (h5 τ d hs').2 _
  | frozen a k ih =>
    intro w
    obtain ⟨n, h1, h2, h3, h4, h5⟩ := ih (w.frozen? a) (hx _) w
    exact ⟨n, h1, h2, h3, h4, fun τ d hs => ⟨(h5 τ d hs).1, fun es => (h5 τ d hs).2 _⟩⟩
  | getObj r k ih =>
    intro w
    have bad : ∀ s, (∀ τ d, (Sem.getObj r k).run P (rt w τ d) = .halt (.stuck s) (rt w τ d)) -> (∀ τ d es, (Sem.getObj r k).events P (rt w τ d) es = es) -> ∃ n,
        (rw_ ((Sem.getObj r k).run P w)).tape = w.tape /\ (rw_ ((Sem.getObj r k).run P w)).drawn = w.drawn + n /\ (∀ a w', (Sem.getObj r k).run P w = .ok a w' -> Q a) /\ (∀ h w', (Sem.getObj r k).run P w = .halt h w' -> HaltOk h) /\
        ∀ τ d, SameT n w τ d -> (Sem.getObj r k).run P (rt w τ d) = rr ((Sem.getObj r k).run P w) τ (d + n) /\ ∀ es, (Sem.getObj r k).events P (rt w τ d) es = (Sem.getObj r k).events P w es := by
      intro s h1 h2
      have h1' := h1 w.tape w.drawn
      have h2' := h2 w.tape w.drawn
      rw [rt_self] at h1'
      simp only [rt_self] at h2'
      exact ⟨0, by rw [h1']; rfl, by rw [h1']; rfl, (by rw [h1']; intro a w' x; cases x), (by rw [h1']; intro h' w' x; cases x; trivial), fun τ d _ => ⟨by rw [h1, h1']; rfl, fun es => by rw [h2, h2']⟩⟩
    cases hr : w.heap[r]? with
    | none => exact bad _ (fun τ d => by simp only [Sem.run, rt_heap, hr]; rfl) (fun τ d es => by simp only [Sem.events, Sem.runT, rt_heap, hr])
    | some o =>
      have step : ∀ o, w.heap[r]? = some o -> (∀ c e f, o = .cells c e f -> False) -> ∃ n,
        (rw_ ((Sem.getObj r k).run P w)).tape = w.tape /\ (rw_ ((Sem.getObj r k).run P w)).drawn = w.drawn + n /\ (∀ a w', (Sem.getObj r k).run P w = .ok a w' -> Q a) /\ (∀ h w', (Sem.getObj r k).run P w = .halt h w' -> HaltOk h) /\
        ∀ τ d, SameT n w τ d -> (Sem.getObj r k).run P (rt w τ d) = rr ((Sem.getObj r k).run P w) τ (d + n) /\ ∀ es, (Sem.getObj r k).events P (rt w τ d) es = (Sem.getObj r k).events P w es := by
        intro o hr ho
        have e1 : ∀ τ d, (Sem.getObj r k).run P (rt w τ d) = (k o).run P (rt w τ d) := fun τ d => by
          cases o <;> first | (exfalso; exact ho _ _ _ rfl) | simp only [Sem.run, rt_heap, hr]
        have e2 : ∀ τ d es, (Sem.getObj r k).events P (rt w τ d) es = (k o).events P (rt w τ d) (es.push ⟨.obj r, false, o.isChan⟩) := fun τ d es => by
          cases o <;> first | (exfalso; exact ho _ _ _ rfl) | simp only [Sem.events, Sem.runT, rt_heap, hr]
        have e1' := e1 w.tape w.drawn
        have e2' := e2 w.tape w.drawn
        rw [rt_self] at e1'
        simp only [rt_self] at e2'
        obtain ⟨n, h1, h2, h3, h4, h5⟩ := ih o (hx o) w
        exact ⟨n, by rw [e1']; exact h1, by rw [e1']; exact h2, by rw [e1']; exact h3, by rw [e1']; exact h4, fun τ d hs => ⟨by rw [e1, e1', (h5 τ d hs).1], fun es => by rw [e2, e2', (h5 τ d hs).2]⟩⟩
      by_cases ho : ∃ c e f, o = .cells c e f
      . obtain ⟨c, e, f, rfl⟩ := ho
        exact bad _ (fun τ d => by simp only [Sem.run, rt_heap, hr]; rfl) (fun τ d es => by simp only [Sem.events, Sem.runT, rt_heap, hr])
      . exact step o hr fun c e f x => ho ⟨c, e, f, x⟩
  | setObj r o k ih =>
    intro w
    have bad : ∀ s, (∀ τ d, (Sem.setObj r o k).run P (rt w τ d) = .halt (.stuck s) (rt w τ d)) -> (∀ τ d es, (Sem.setObj r o k).events P (rt w τ d) es = es) -> ∃ n,
        (rw_ ((Sem.setObj r o k).run P w)).tape = w.tape /\ (rw_ ((Sem.setObj r o k).run P w)).drawn = w.drawn + n /\ (∀ a w', (Sem.setObj r o k).run P w = .ok a w' -> Q a) /\ (∀ h w', (Sem.setObj r o k).run P w = .halt h w' -> HaltOk h) /\
        ∀ τ d, SameT n w τ d -> (Sem.setObj r o k).run P (rt w τ d) = rr ((Sem.setObj r o k).run P w) τ (d + n) /\ ∀ es, (Sem.setObj r o k).events P (rt w τ d) es = (Sem.setObj r o k).events P w es := by
      intro s h1 h2
      have h1' := h1 w.tape w.drawn
      have h2' := h2 w.tape w.drawn
      rw [rt_self] at h1'
      simp only [rt_self] at h2'
      exact ⟨0, by rw [h1']; rfl, by rw [h1']; rfl, (by rw [h1']; intro a w' x; cases x), (by rw [h1']; intro h' w' x; cases x; trivial), fun τ d _ => ⟨by rw [h1, h1']; rfl, fun es => by rw [h2, h2']⟩⟩
    cases hr : w.heap[r]? with
    | none => exact bad _ (fun τ d => by simp only [Sem.run, rt_heap, hr]; rfl) (fun τ d es => by simp only [Sem.events, Sem.runT, rt_heap, hr])
    | some o' =>
      have step : ∀ o', w.heap[r]? = some o' -> (∀ c e f, o' = .cells c e f -> False) -> ∃ n,
        (rw_ ((Sem.setObj r o k).run P w)).tape = w.tape /\ (rw_ ((Sem.setObj r o k).run P w)).drawn = w.drawn + n /\ (∀ a w', (Sem.setObj r o k).run P w = .ok a w' -> Q a) /\ (∀ h w', (Sem.setObj r o k).run P w = .halt h w' -> HaltOk h) /\
        ∀ τ d, SameT n w τ d -> (Sem.setObj r o k).run P (rt w τ d) = rr ((Sem.setObj r o k).run P w) τ (d + n) /\ ∀ es, (Sem.setObj r o k).events P (rt w τ d) es = (Sem.setObj r o k).events P w es := by
        intro o1 hr ho
        have e1 : ∀ τ d, (Sem.setObj r o k).run P (rt w τ d) = k.run P (rt { w with heap := w.heap.setIfInBounds r o } τ d) := fun τ d => by
          cases o1 <;> first | (exfalso; exact ho _ _ _ rfl) | (simp only [Sem.run, rt_heap, hr]; rfl)
        have e2 : ∀ τ d es, (Sem.setObj r o k).events P (rt w τ d) es = k.events P (rt { w with heap := w.heap.setIfInBounds r o } τ d) (es.push ⟨.obj r, true, o.isChan⟩) := fun τ d es => by
          cases o1 <;> first | (exfalso; exact ho _ _ _ rfl) | (simp only [Sem.events, Sem.runT, rt_heap, hr]; rfl)
        have e1' : (Sem.setObj r o k).run P w = k.run P { w with heap := w.heap.setIfInBounds r o } := e1 w.tape w.drawn
        have e2' : ∀ es, (Sem.setObj r o k).events P w es = k.events P { w with heap := w.heap.setIfInBounds r o } (es.push ⟨.obj r, true, o.isChan⟩) := e2 w.tape w.drawn
        obtain ⟨n, h1, h2, h3, h4, h5⟩ := ih hx { w with heap := w.heap.setIfInBounds r o }
        exact ⟨n, by rw [e1']; exact h1, by rw [e1']; exact h2, by rw [e1']; exact h3, by rw [e1']; exact h4, fun τ d hs => ⟨by rw [e1, e1', (h5 τ d hs).1], fun es => by rw [e2, e2', (h5 τ d hs).2]⟩⟩
      by_cases ho : ∃ c e f, o' = .cells c e f
      . obtain ⟨c, e, f, rfl⟩ := ho
        exact bad _ (fun τ d => by simp only [Sem.run, rt_heap, hr]; rfl) (fun τ d es => by simp only [Sem.events, Sem.runT, rt_heap, hr])
      . exact step o' hr fun c e f x => ho ⟨c, e, f, x⟩
  | choose q k ih =>
    intro w
    have e1 : ∀ w : World, (Sem.choose q k).run P w = if q.forced then (k 0).run P w else (k (q.cut (w.tape w.drawn q))).run P { w with drawn := w.drawn + 1 } := fun w => by rw [Sem.run]
    have e2 : ∀ (w : World) es, (Sem.choose q k).events P w es = if q.forced then (k 0).events P w es else (k (q.cut (w.tape w.drawn q))).events P { w with drawn := w.drawn + 1 } es := fun w es => by
      unfold Sem.events
      rw [Sem.runT]
      split <;> rfl
    cases hq : q.forced with
    | true =>
      simp only [e1, e2, hq, if_true]
      obtain ⟨n, h1, h2, h3, h4, h5⟩ := ih 0 (hx _) w
      exact ⟨n, h1, h2, h3, h4, h5⟩
    | false =>
      simp only [e1, e2, hq, Bool.false_eq_true, if_false]
      obtain ⟨n, h1, h2, h3, h4, h5⟩ := ih (q.cut (w.tape w.drawn q)) (hx _) { w with drawn := w.drawn + 1 }
      refine ⟨n + 1, h1, by rw [h2]; show w.drawn + 1 + n = _; omega, h3, h4, fun τ d hs => ?_⟩
      have h0 : τ d q = w.tape w.drawn q := hs 0 (by omega) q
      have hs' : SameT n { w with drawn := w.drawn + 1 } τ (d + 1) := fun i hi q => by
        have := hs (i + 1) (by omega) q
        show τ (d + 1 + i) q = w.tape (w.drawn + 1 + i) q
        rw [show d + 1 + i = d + (i + 1) by omega, this, show w.drawn + 1 + i = w.drawn + (i + 1) by omega]
      simp only [rt_tape, rt_drawn, h0]
      obtain ⟨h6, h7⟩ := h5 τ (d + 1) hs'
      refine ⟨?_, fun es => h7 es⟩
      rw [show d + (n + 1) = d + 1 + n by omega]
      exact h6
  | sys c k ih =>
    intro w
    obtain ⟨hc, hx⟩ := hx
    obtain ⟨r, hr⟩ := hc w.os
    have es1 : ∀ w' : World, w'.os = w.os -> w'.sys c = (r, w') := fun w' hw => by
      unfold World.sys
      rw [hw, hr, World.ask]
      cases r <;> first | rfl | (simp only [<- hw])
    have e1 : ∀ w' : World, w'.os = w.os -> (Sem.sys c k).run P w' = (k r).run P w' := fun w' hw => by rw [Sem.run, es1 w' hw]
    have e2 : ∀ (w' : World) es, w'.os = w.os -> (Sem.sys c k).events P w' es = (k r).events P w' (es.push ⟨.output, true, false⟩) := fun w' es hw => by
      unfold Sem.events
      rw [Sem.runT, es1 w' hw]
    rw [e1 w rfl]
    obtain ⟨n, h1, h2, h3, h4, h5⟩ := ih r (hx r) w
    refine ⟨n, h1, h2, h3, h4, fun τ d hs => ?_⟩
    rw [e1 (rt w τ d) rfl]
    refine ⟨(h5 τ d hs).1, fun es => ?_⟩
    rw [e2 (rt w τ d) es rfl, e2 w es rfl]
    exact (h5 τ d hs).2 _
  | program k ih =>
    intro w
    obtain ⟨n, h1, h2, h3, h4, h5⟩ := ih P hx w
    exact ⟨n, h1, h2, h3, h4, fun τ d hs => ⟨(h5 τ d hs).1, fun es => (h5 τ d hs).2 _⟩⟩
  | mark m k ih =>
    intro w
    obtain ⟨n, h1, h2, h3, h4, h5⟩ := ih hx.2 w
    exact ⟨n, h1, h2, h3, h4, fun τ d hs => ⟨(h5 τ d hs).1, fun es => (h5 τ d hs).2 _⟩⟩
  | halt h => exact fun w => ⟨0, rfl, rfl, (fun a w' e => by simp [Sem.run] at e), (fun h' w' e => by simp only [Sem.run, Result.halt.injEq] at e; rw [<- e.1]; exact hx), fun τ d _ => ⟨rfl, fun es => rfl⟩⟩
theorem ev_ok {α : Type} (P : Program) (Q : α -> Prop) (x : Sem α) (hx : Nm P Q x) : ∀ (w : World) (es : Array Event), (∀ e ∈ es, EvOk e) -> ∀ e ∈ x.events P w es, EvOk e := by
  induction x with
  | pure a => exact fun w es h => h
  | load m a k ih =>
    intro w es h
    unfold Sem.events
    rw [Sem.runT]
    split
    . exact ih _ (hx _) _ _ (by intro e he; rcases Array.mem_push.1 he with he | rfl; exact h e he; exact ⟨by simp, by simp⟩)
    . split
      . exact ih _ (hx _) _ _ (by
          intro e he
          rcases Array.mem_append.1 he with he | he
          . exact h e he
          . obtain ⟨x, _, rfl⟩ := Array.mem_map.1 he; exact ⟨by simp, by simp⟩)
      . exact h
  | store m a v k ih =>
    intro w es h
    by_cases hb : (∃ x, v = .agg x) ∨ (∃ x, v = .tuple x)
    . rcases hb with ⟨x, rfl⟩ | ⟨x, rfl⟩ <;> (unfold Sem.events; simp only [Sem.runT]; exact h)
    . unfold Sem.events
      rw [Sem.runT]
      . split
        . split
          . exact h
          . exact ih hx _ _ (by intro e he; rcases Array.mem_push.1 he with he | rfl; exact h e he; exact ⟨by simp, by simp⟩)
        . split
          . exact ih hx _ _ (by
              intro e he
              rcases Array.mem_append.1 he with he | he
              . exact h e he
              . obtain ⟨x, _, rfl⟩ := Array.mem_map.1 he; exact ⟨by simp, by simp⟩)
          . exact h
      . exact fun x e => hb (.inl ⟨x, e⟩)
      . exact fun x e => hb (.inr ⟨x, e⟩)
  | new o k ih => exact fun w es h => ih _ (hx _) _ _ h
  | shape r k ih => exact fun w es h => ih _ (hx _) _ _ h
  | freeze a m k ih => exact fun w es h => ih hx _ _ h
  | frozen a k ih => exact fun w es h => ih _ (hx _) _ _ h
  | getObj r k ih =>
    intro w es h
    unfold Sem.events
    rw [Sem.runT]
    split
    . exact h
    . exact ih _ (hx _) _ _ (by intro e he; rcases Array.mem_push.1 he with he | rfl; exact h e he; exact ⟨by simp, by simp⟩)
    . exact h
  | setObj r o k ih =>
    intro w es h
    unfold Sem.events
    rw [Sem.runT]
    split
    . exact h
    . exact ih hx _ _ (by intro e he; rcases Array.mem_push.1 he with he | rfl; exact h e he; exact ⟨by simp, by simp⟩)
    . exact h
  | choose q k ih =>
    intro w es h
    unfold Sem.events
    rw [Sem.runT]
    split
    . exact ih _ (hx _) _ _ h
    . exact ih _ (hx _) _ _ h
  | sys c k ih =>
    intro w es h
    unfold Sem.events
    rw [Sem.runT]
    exact ih _ (hx.2 _) _ _ (by intro e he; rcases Array.mem_push.1 he with he | rfl; exact h e he; exact ⟨by simp, by simp⟩)
  | program k ih => exact fun w es h => ih _ hx _ _ h
  | mark m k ih =>
    intro w es h
    unfold Sem.events
    rw [Sem.runT]
    exact ih hx.2 _ _ (by
      intro e he
      rcases Array.mem_push.1 he with he | rfl
      . exact h e he
      . exact ⟨fun x => hx.1.1 (Loc.mark.inj x), fun x => hx.1.2 (Loc.mark.inj x)⟩)
  | halt h => exact fun w es h => h
end Go.Proofs.YtcpldcojckhapaaGreat
