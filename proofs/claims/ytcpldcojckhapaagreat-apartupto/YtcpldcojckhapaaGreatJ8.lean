/-
  
-/
import Derived.Test.YtcpldcojckhapaaGreatJ7
namespace Go.Proofs.YtcpldcojckhapaaGreat
open Go.Conc
open Go.ConcN (sumTo upd sumTo_upd upd_ne upd_same)
variable {P : Program} {C : Ch} {z : Value} {K : List Nat -> Goroutine -> World -> Prop} {vl vr : List Value}
variable {st : Bool -> SSt} {mst : MSt} {mi : Nat -> List Nat} {q : Nat -> Nat} {gs : Array Goroutine} {w : World} {t : Trace}
theorem get_upd' {gs : Array Goroutine} {f : Goroutine -> Goroutine} {x : Nat} {g' : Goroutine} (hx : x < gs.size) (j : Nat) : ((gs.map f).setIfInBounds x g')[j]? = if j = x then some g' else (gs[j]?).map f := by
  by_cases hj : j = x
  . subst hj
    simp [hx]
  . rw [if_neg hj, Array.getElem?_setIfInBounds_ne (fun e => hj e.symm), Array.getElem?_map]
theorem upd_self (mi : Nat -> List Nat) (x : Nat) : upd mi x (mi x) = mi := by
  funext y
  by_cases h : y = x
  . subst h; rw [upd_same]
  . rw [upd_ne _ _ h]
def evC (c : Nat) : Array Event := #[⟨.obj c, false, true⟩, ⟨.obj c, true, true⟩]
theorem evC_ok (C : Ch) (m : List Nat) (s : Bool) : ∀ e ∈ evC (C.c s), EvM C m e := by
  intro e he
  simp only [evC, List.mem_toArray, List.mem_cons, List.not_mem_nil, or_false] at he
  rcases he with rfl | rfl
  . refine ⟨⟨by simp, by simp⟩, fun x hx => .inr ?_⟩
    simp only [MemAct.ofEvent, MemAct.touch?, Option.some.injEq] at hx
    subst hx
    exact ⟨rfl, s, rfl⟩
  . exact ⟨⟨by simp, by simp⟩, fun x hx => by simp [MemAct.ofEvent, MemAct.touch?] at hx⟩
def wakeM : MSt -> MSt
  | .wait f l => .two 0 (f + 1) l
  | m => m
theorem wakeM_seen (m : MSt) (s : Bool) : (wakeM m).seen s = m.seen s := by cases m <;> rfl
theorem GI.closeS (hC : ChOk C) (h : GI P C z K vl vr st mst mi q gs w t) {s : Bool} {n : Nat} (hs : st s = .act n []) {g g₂ : Goroutine} {n' a b : Nat} (hg : gs[C.ix s]? = some g) (hmw : mayWake P g = true) (hq : QuitsIn P n' g₂) (fn : FuncId) (pos : String) :
    GI P C z K vl vr (setS st s (.gone n')) (wakeM mst) mi q ((gs.map (woken P g g₂ (w.setChan (C.c s) 0 #[] true a b false))).setIfInBounds (C.ix s) g₂) (w.setChan (C.c s) 0 #[] true a b false) (t ++ MemOp.ofEvents (C.ix s) fn pos (evC (C.c s))) := by
  have hon : (st s).on = true := by rw [hs]; rfl
  have hlt := (Array.getElem?_eq_some_iff.1 hg).1
  have get := get_upd' (f := woken P g g₂ (w.setChan (C.c s) 0 #[] true a b false)) (g' := g₂) hlt
  have hrel : ∀ x, Rel C (mi x) w (w.setChan (C.c s) 0 #[] true a b false) := fun x => setChan_rel hC (h.mine x) s _ _ _ _ _ _
  have hcs : (w.setChan (C.c s) 0 #[] true a b false).heap[C.c s]? = some (.chan 0 #[] true a b false) := heap_setChan w _ _ _ _ _ _ _ (Nat.lt_of_lt_of_le (hC.low _) h.base)
  have hco : ∀ s', s' ≠ s -> (w.setChan (C.c s) 0 #[] true a b false).heap[C.c s']? = w.heap[C.c s']? := fun s' hss => by
    have := hC.c_ne hss
    simp only [World.setChan]
    rw [Array.getElem?_setIfInBounds_ne (fun e => this e.symm)]
  have hu : ∀ op ∈ MemOp.ofEvents (C.ix s) fn pos (evC (C.c s)), op.g = C.ix s := fun op hop => by obtain ⟨e, _, rfl⟩ := Go.Conc.mem_ofEvents hop; rfl
  have eon : (fun s' => (setS st s (.gone n') s').on) = (fun s' => (st s').on) := by
    funext s'
    by_cases hss : s' = s
    . subst hss; rw [setS_same, hs]; rfl
    . rw [setS_ne _ hss]
  have hon' : ∀ s', (setS st s (.gone n') s').on = (st s').on := fun s' => congrFun eon s'
  have hseencl : ∀ s', mst.seen s' = true -> s' ≠ s := by
    intro s' h1 e
    subst e
    obtain ⟨g0, _, hM⟩ := h.g0
    have := seen_closed hM h1
    rw [hs] at this
    cases this
  have htr := h.tr.own (x := C.ix s) (.inr ⟨s, hon, rfl⟩) (m := mi (C.ix s)) (fun b hb => hb) (fun y b hb => (h.mine y b hb).1) (fun b hb => (h.mine _ b hb).1) (fun y _ hy => h.ap _ _ fun e => hy e.symm) (fn := fn) (pos := pos) (es := evC (C.c s)) (evC_ok C _ s)
  rw [upd_self] at htr
  have hdx : Deaf t (C.ix s) = 0 := h.tr.hears _ (.inr ⟨s, hon, rfl⟩)
  obtain ⟨g0, hg0, hM⟩ := h.g0
  refine ⟨Nat.le_trans h.base (hrel 0).size, fun x => (h.mine x).mono (hrel 0).size, h.ap, fun s' => ?_, ?_, fun s' hs' => ?_, fun hn => ?_, fun i y hi hne hy => ?_, fun j hj => ?_, by rw [eon]; exact htr, fun s' hs' => ?_, fun s' hs' => ?_⟩
  . by_cases hss : s' = s
    . subst hss
      exact ⟨a, b, by rw [setS_same]; exact hcs⟩
    . obtain ⟨a', b', hc⟩ := h.chan s'
      exact ⟨a', b', by rw [setS_ne _ hss, hco s' hss]; exact hc⟩
  . have hag : ∀ y, Agree (st s) y -> Agree (.gone n') y := by
      intro y hy
      rw [hs] at hy
      exact .inl hy
    by_cases hwt : ∃ f l, mst = .wait f l
    . obtain ⟨f, l, rfl⟩ := hwt
      have hM' := hM
      obtain ⟨⟨g₁, e1, hsel⟩, hf, hagr, hact⟩ := hM
      have hls : l s = some [] := (hagr s).some hs
      have hwk : woken P g g₂ (w.setChan (C.c s) 0 #[] true a b false) g0 = { g0 with status := .running } := by
        have hcond : (mayWake P g && g₂.status != .blocked && g₂.status != .waiting) = true := by
          rcases hq.status with e | e <;> rw [hmw, e] <;> rfl
        unfold woken
        rw [if_pos hcond, e1]
        refine again_some_closed (k := if s then 1 else 0) (c := C.c s) (z := z) ?_ hcs
        cases s <;> simp [mcases, mcase, hls]
      refine ⟨_, by rw [get, if_neg (fun e => hC.ix0 s e.symm), hg0]; rfl, ?_⟩
      rw [hwk, e1]
      refine ⟨fun w₁ h₁ => ?_, by omega, fun s' => ?_⟩
      . obtain ⟨m1, m2, m3⟩ := hsel w₁ ((hrel 0).trans h₁)
        refine ⟨rfl, ?_, m3⟩
        rw [stepG_tries]
        exact m2
      . by_cases hss : s' = s
        . subst hss; rw [setS_same]; exact hag _ (hagr s')
        . rw [setS_ne _ hss]; exact hagr s'
    . have hwm : wakeM mst = mst := by
        cases mst with
        | wait f l => exact absurd ⟨f, l, rfl⟩ hwt
        | _ => rfl
      have hrn : g0.status = .running := by
        cases mst with
        | one n => exact Gb.running (fun _ _ _ h => h.1) hM.1
        | two n f l => exact Gb.running (stopM_running P C z K f l) hM.1
        | wait f l => exact absurd ⟨f, l, rfl⟩ hwt
      refine ⟨g0, by rw [get, if_neg (fun e => hC.ix0 s e.symm), hg0, Option.map_some, woken_run hrn], ?_⟩
      rw [hwm]
      exact (hM.rel (hrel 0)).setS hon hag fun f l e => absurd ⟨f, l, e⟩ hwt
  . rw [hon'] at hs'
    by_cases hss : s' = s
    . subst hss
      exact ⟨g₂, by rw [get, if_pos rfl], by rw [setS_same]; exact hq⟩
    . obtain ⟨g1, hg1, h1⟩ := h.gS s' hs'
      have hwk : woken P g g₂ (w.setChan (C.c s) 0 #[] true a b false) g1 = g1 := woken_side h1 fun hcl => by
        obtain ⟨a', b', hc⟩ := h.chan s'
        exact ⟨a', b', by rw [hco s' hss, hc, hcl]⟩
      exact ⟨g1, by rw [get, if_neg (hC.ix_ne hss), hg1, Option.map_some, hwk], by rw [setS_ne _ hss]; exact h1.rel (hrel _)⟩
  . rw [hon'] at hn ⊢
    obtain ⟨q1, q2, q3⟩ := h.next hn
    exact ⟨by simpa using q1, q2, q3⟩
  . have hne' : ∀ s', (st s').on = true -> i ≠ C.ix s' := fun s' hs' => hne s' (by rw [hon']; exact hs')
    have hix := hne' s hon
    rw [get, if_neg hix] at hy
    obtain ⟨y', hy', rfl⟩ := Option.map_eq_some_iff.1 hy
    have hq' := h.old i y' hi hne' hy'
    rw [woken_quitsD hq', Deaf_other t (fun e => hix e.symm) _ hu]
    exact hq'
  . have hj' : gs.size <= j := by simpa using hj
    rw [Deaf_other t (g' := C.ix s) (by omega) _ hu]
    exact h.above j hj'
  . by_cases hss : s' = s
    . subst hss
      have e : t ++ MemOp.ofEvents (C.ix s') fn pos (evC (C.c s')) = (t ++ MemOp.ofEvents (C.ix s') fn pos #[⟨.obj (C.c s'), false, true⟩]) ++ #[{ g := C.ix s', fn := fn, pos := pos, act := .close (C.c s') }] := by
        apply Array.ext'
        simp [ofEvents_eq, evC, MemAct.ofEvent]
      rw [e]
      refine closedT_new ?_ rfl rfl
      rw [Deaf_own, deafBehind_still (fun e he => by obtain rfl : e = _ := by simpa using he
                                                     exact ⟨by simp, by simp⟩)]
      exact hdx
    . rw [setS_ne _ hss] at hs'
      exact (h.cl s' hs').app fun op hop => .inr (by rw [hu op hop]; exact fun e => hC.ix_ne hss e.symm)
  . rw [wakeM_seen] at hs'
    have hss := hseencl s' hs'
    exact (h.sn s' hs').app fun op hop => .inr (by rw [hu op hop]; exact fun e => hC.ix_ne hss e.symm)
end Go.Proofs.YtcpldcojckhapaaGreat

namespace Go.Proofs.YtcpldcojckhapaaGreat
open Go.Conc
open Go.ConcN (sumTo upd sumTo_upd upd_ne upd_same)
variable {P : Program} {C : Ch} {z : Value} {K : List Nat -> Goroutine -> World -> Prop} {vl vr : List Value}
variable {st : Bool -> SSt} {mst : MSt} {mi : Nat -> List Nat} {q : Nat -> Nat} {gs : Array Goroutine} {w : World} {t : Trace}
theorem GI.parkM (hC : ChOk C) {n f : Nat} {l : Lft} (h : GI P C z K vl vr st (.two n (f + 1) l) mi q gs w t) {g : Goroutine} (hsel : ∀ w₁, Rel C (mi 0) w w₁ -> MSel P C z l (MScr P C z K f) (mi 0) g w₁) (hact : ∀ s, (l s).isSome = true -> ∃ n vs, st s = .act n vs) :
    GI P C z K vl vr st (.wait f l) mi q (gs.setIfInBounds 0 (parked (core g) (mcases C l z) .select)) w t := by
  have get := getElem?_set2 (g := parked (core g) (mcases C l z) .select) h.lt0
  have e : t = t ++ #[] := by simp
  obtain ⟨g0, hg0, hM⟩ := h.g0
  rw [e]
  refine h.chg (fun _ => rfl) (fun _ => rfl) (fun x => .refl C (mi x) w) (by simp) (fun s => h.chan s) (by simp) (by rw [<- e]; exact h.tr) (by rw [<- e]; exact h.above)
    ⟨_, by rw [get, if_pos rfl], ⟨g, rfl, hsel⟩, hM.2.1, hM.2.2, hact⟩ (fun s hs => ?_) (fun j y hj hne hy => ?_) (by rw [<- e]; exact h.sn)
  . obtain ⟨g1, hg1, h1⟩ := h.gS s hs
    exact ⟨g1, by rw [get, if_neg (hC.ix0 s)]; exact hg1, h1⟩
  . rw [<- e]
    rw [get, if_neg (by omega)] at hy
    exact h.old j y hj hne hy
theorem GI.seeM (hC : ChOk C) {n f : Nat} {l : Lft} (h : GI P C z K vl vr st (.two n (f + 1) l) mi q gs w t) {s : Bool} (hcl : (st s).closed = true) (hls : l s = some []) {g₁ : Goroutine} (hN : Nexts z l (MScr P C z K f) (mi 0) g₁ w) (fn : FuncId) (pos : String) :
    ∃ n2, GI P C z K vl vr st (.two n2 f (setL l s none)) mi q (gs.setIfInBounds 0 (Conc.served g₁ (tup z s z false))) w (t ++ #[{ g := 0, fn := fn, pos := pos, act := .recvClosed (C.c s) }]) := by
  have get := getElem?_set2 (g := Conc.served g₁ (tup z s z false)) h.lt0
  obtain ⟨g0, hg0, hM1, hM2, hM3⟩ := h.g0
  obtain ⟨n2, hn2⟩ := (mscr_iff ..).1 (hN.2 s hls)
  have hw := wgt_set l s none
  have hwf : f = wgt (setL l s none) := by
    rw [hls] at hw
    simp only [wg1, List.length_nil] at hw
    omega
  have hsil : ∀ op ∈ (#[{ g := 0, fn := fn, pos := pos, act := .recvClosed (C.c s) }] : Trace), op.act.touch? = none := by
    intro op hop
    obtain rfl := by simpa using hop
    rfl
  have hmk : ∀ op ∈ (#[{ g := 0, fn := fn, pos := pos, act := .recvClosed (C.c s) }] : Trace), op.act ≠ .mark .disable /\ op.act ≠ .mark .enable := by
    intro op hop
    obtain rfl := by simpa using hop
    exact ⟨by simp, by simp⟩
  refine ⟨n2, h.chg (fun _ => rfl) (fun _ => rfl) (fun x => .refl C (mi x) w) (by simp) (fun s => h.chan s) hsil (h.tr.still _ rfl ⟨by simp, by simp⟩) (fun j hj => by rw [Deaf_still _ _ _ hmk]; exact h.above j hj)
    ⟨_, by rw [get, if_pos rfl], hn2, hwf, fun s' => ?_⟩ (fun s' hs' => ?_) (fun j y hj hne hy => ?_) (fun s' hs' => ?_)⟩
  . by_cases hss : s' = s
    . subst hss
      have : setL l s' none s' = none := by simp [setL]
      rw [this]
      cases hst : st s' with
      | gone n => exact .inr rfl
      | _ => rw [hst] at hcl; cases hcl
    . have : setL l s none s' = l s' := by simp [setL, hss]
      rw [this]; exact hM3 s'
  . obtain ⟨g1, hg1, h1⟩ := h.gS s' hs'
    exact ⟨g1, by rw [get, if_neg (hC.ix0 s')]; exact hg1, h1⟩
  . rw [Deaf_still _ _ _ hmk]
    rw [get, if_neg (by omega)] at hy
    exact h.old j y hj hne hy
  . by_cases hss : s' = s
    . subst hss
      exact seenT_new (h.cl s' hcl) (h.tr.hears 0 (.inl rfl)) rfl rfl
    . refine (h.sn s' ?_).app fun op hop => .inl (hsil op hop)
      have : setL l s none s' = l s' := by simp [setL, hss]
      show (l s').isNone = true
      rw [<- this]; exact hs'
theorem GI.spawn2 (hC : ChOk C) {n : Nat} (h : GI P C z K vl vr st (.one n) mi q gs w t) {g' child : Goroutine} (hS : Snd P C true vr [] child w) (hMS : MScr P C z K (vl.length + 1 + (vr.length + 1)) (fun s => if s then some vr else some vl) (mi 0) g' w) (fx fy : FuncId) (px py : String) :
    ∃ n1 n2 f l, GI P C z K vl vr (setS st true (.act n1 vr)) (.two n2 f l) mi q ((gs.setIfInBounds 0 g').push child) w (t ++ #[{ g := 0, fn := fx, pos := px, act := .go gs.size }] ++ #[{ g := gs.size, fn := fy, pos := py, act := .start }]) /\ ∀ s, (l s).isSome = true := by
  obtain ⟨g0, hg0, hM1, hM2, hM3⟩ := h.g0
  have hoff : (st true).on = false := by rw [hM2]; rfl
  obtain ⟨q1, q2, q3⟩ := h.next hoff
  have hlt := h.lt0
  have get : ∀ j, ((gs.setIfInBounds 0 g').push child)[j]? = if j = gs.size then some child else if j = 0 then some g' else gs[j]? := by
    intro j
    rw [Array.getElem?_push, Array.size_setIfInBounds, getElem?_set2 hlt]
  obtain ⟨n1, hn1⟩ := (snd_iff ..).1 hS
  obtain ⟨n2, hn2⟩ := (mscr_iff ..).1 hMS
  have hdt : Deaf t (C.ix true) = 0 := h.above _ (by rw [q1]; exact Nat.le_refl _)
  have htr := h.tr.spawn (s := true) hoff hdt (hC.ix0 true) (x := { g := 0, fn := fx, pos := px, act := .go gs.size }) (y := { g := gs.size, fn := fy, pos := py, act := .start }) ⟨rfl, by rw [q1]⟩ ⟨q1.symm, rfl⟩
  have eon : (fun s' => (setS st true (.act n1 vr) s').on) = (fun s' => if s' = true then true else (st s').on) := by
    funext s'
    cases s' <;> rfl
  have hsil : ∀ op ∈ (#[{ g := 0, fn := fx, pos := px, act := .go gs.size }] ++ #[{ g := gs.size, fn := fy, pos := py, act := .start }] : Trace), op.act.touch? = none /\ op.act ≠ .mark .disable /\ op.act ≠ .mark .enable := by
    intro op hop
    simp only [Array.mem_append, List.mem_toArray, List.mem_cons, List.not_mem_nil, or_false] at hop
    rcases hop with rfl | rfl <;> exact ⟨rfl, by simp, by simp⟩
  have hdeaf : ∀ j, Deaf (t ++ #[{ g := 0, fn := fx, pos := px, act := .go gs.size }] ++ #[{ g := gs.size, fn := fy, pos := py, act := .start }]) j = Deaf t j := by
    intro j
    rw [Array.append_assoc]
    exact Deaf_still _ _ _ fun op hop => (hsil op hop).2
  have hsz : ((gs.setIfInBounds 0 g').push child).size = gs.size + 1 := by simp
  have hfi : C.ix false < gs.size := by
    obtain ⟨g1, hg1, _⟩ := h.gS false q2
    exact (Array.getElem?_eq_some_iff.1 hg1).1
  refine ⟨n1, n2, vl.length + 1 + (vr.length + 1), (fun s => if s then some vr else some vl), ⟨h.base, h.mine, h.ap, fun s => ?_, ?_, fun s hs => ?_, fun hn => ?_, fun i y hi hne hy => ?_, fun j hj => ?_, by rw [eon]; exact htr, fun s hs => ?_, fun s hs => ?_⟩, fun s => by cases s <;> rfl⟩
  . cases s with
    | true =>
      obtain ⟨a, b, hc⟩ := h.chan true
      rw [hM2] at hc
      exact ⟨a, b, hc⟩
    | false => exact h.chan false
  . refine ⟨g', by rw [get, if_neg (by omega), if_pos rfl], hn2, rfl, fun s => ?_⟩
    cases s with
    | true => rfl
    | false => exact hM3
  . cases s with
    | true => exact ⟨child, by rw [get, if_pos q1], by rw [q3]; exact hn1⟩
    | false =>
      obtain ⟨g1, hg1, h1⟩ := h.gS false q2
      exact ⟨g1, by rw [get, if_neg (by omega), if_neg (hC.ix0 false)]; exact hg1, h1⟩
  . cases hn
  . have h1 : i ≠ C.ix true := hne true rfl
    have h2 : i ≠ C.ix false := hne false q2
    rw [get, if_neg (by rw [<- q1]; exact h1), if_neg (by omega)] at hy
    rw [hdeaf]
    exact h.old i y hi (fun s _ => by cases s; exact h2; exact h1) hy
  . rw [hdeaf]
    exact h.above j (by rw [hsz] at hj; omega)
  . cases s with
    | true => cases hs
    | false =>
      rw [Array.append_assoc]
      exact (h.cl false hs).app fun op hop => .inl (hsil op hop).1
  . cases s <;> cases hs
end Go.Proofs.YtcpldcojckhapaaGreat

namespace Go.Proofs.YtcpldcojckhapaaGreat
open Go.Conc
open Go.ConcN (sumTo upd sumTo_upd upd_ne upd_same)
variable {P : Program} {C : Ch} {z : Value} {K : List Nat -> Goroutine -> World -> Prop} {vl vr : List Value}
theorem Runs.step1 {gs : Array Goroutine} {w : World} {t : Trace} {Q : Array Goroutine -> World -> Trace -> Prop} (h : ∀ sl, ∃ gs' w' sl' ops, stepT P (crowd gs w sl) = (.next (crowd gs' w' sl'), ops) /\ Runs P gs' w' (t ++ ops) Q) : Runs P gs w t Q := by
  intro sl
  obtain ⟨gs', w', sl', ops, h1, h2⟩ := h sl
  obtain ⟨N, gs2, w2, sl2, t2, h3, h4⟩ := h2 sl'
  exact ⟨N + 1, gs2, w2, sl2, t2, by simp only [runNT, h1]; exact h3, h4⟩
def wS (vr : List Value) : SSt -> Nat
  | .none => 2 * vr.length + 4
  | .act _ vs => 2 * vs.length + 3
  | .park _ vs => 2 * vs.length + 4
  | .gone _ => 0
def wM (m : MSt) : Nat := (if m.seen false then 0 else 1) + (if m.seen true then 0 else 1)
def big (vr : List Value) (st : Bool -> SSt) (mst : MSt) : Nat := wS vr (st false) + wS vr (st true) + wM mst
def mS : SSt -> Nat
  | .act n _ => n + 1
  | .gone n => n
  | _ => 0
def mM : MSt -> Nat
  | .one n => n + 1
  | .two n _ _ => n + 1
  | .wait _ _ => 0
def sml (st : Bool -> SSt) (mst : MSt) (gs : Array Goroutine) (q : Nat -> Nat) : Nat := mM mst + (mS (st false) + mS (st true)) + sumTo gs.size q
theorem sum_setS (f : SSt -> Nat) (st : Bool -> SSt) (s : Bool) (x : SSt) : f (setS st s x false) + f (setS st s x true) + f (st s) = f (st false) + f (st true) + f x := by
  cases s <;> simp [setS] <;> omega
theorem wM_eq {m m' : MSt} (h : ∀ s, m.seen s = m'.seen s) : wM m = wM m' := by unfold wM; rw [h, h]
theorem sel_pick {st : Bool -> SSt} {mi : Nat -> List Nat} {q : Nat -> Nat} {gs : Array Goroutine} {w : World} {t : Trace} (hC : ChOk C) {n f : Nat} {l : Lft} (h : GI P C z K vl vr st (.two n (f + 1) l) mi q gs w t) (rest : Rest) (g : Goroutine) :
    ((∀ s, (l s).isSome = true -> ∃ n vs, st s = .act n vs) /\ ∀ cc ∈ mcases C l z, NoWays w (gs.setIfInBounds 0 ph) cc) ∨
    ∃ s d y, ((∃ v vs, st s = .park v vs /\ partners (gs.setIfInBounds 0 ph) (C.c s) true = [(C.ix s, 0)]) ∨ ((st s).closed = true /\ ways w (gs.setIfInBounds 0 ph) (rcase (C.c s) z) = [.closed])) /\ (l s).isSome = true /\ y.send = none /\ y.zero = z /\ illMade (w.at d) y = false /\ ways (w.at d) (gs.setIfInBounds 0 ph) y = [] /\
      communicate P rest (gs.setIfInBounds 0 ph) 0 g (mcases C l z) true .select w = communicate P rest (gs.setIfInBounds 0 ph) 0 g (two (rcase (C.c s) z) y s) true .select (w.at d) := by
  obtain ⟨g0, hg0, hM1, hM2, hM3⟩ := h.g0
  have hpart : ∀ s, (¬ ∃ v vs, st s = .park v vs) -> partners (gs.setIfInBounds 0 ph) (C.c s) true = [] := by
    intro s hs
    refine partners_nil fun j y hy => ?_
    rcases getElem?_stand gs 0 j y hy with ⟨_, rfl⟩ | ⟨hj0, hy'⟩
    . rfl
    . by_cases hj : j = C.ix s
      . subst hj
        by_cases hp : Part C (fun s => (st s).on) (C.ix s)
        . have hon : (st s).on = true := by
            rcases hp with e | ⟨s', h1, h2⟩
            . exact absurd e (hC.ix0 s)
            . by_cases hss : s' = s
              . subst hss; exact h1
              . exact absurd h2.symm (hC.ix_ne hss)
          obtain ⟨g1, hg1, hS⟩ := h.gS s hon
          rw [hy'] at hg1
          obtain rfl := Option.some.inj hg1
          cases hst : st s with
          | none => rw [hst] at hon; cases hon
          | act n vs => rw [hst] at hS; exact offersAt_of_not_blocked (by rw [Gb.running (stopS_running P C s vs) hS]; simp) _ _
          | park v vs => exact absurd ⟨v, vs, hst⟩ hs
          | gone n =>
            rw [hst] at hS
            rcases (QuitsD.of_quitsIn hS).status with e | e <;> exact offersAt_of_not_blocked (by rw [e]; simp) _ _
        . have := h.old (C.ix s) y (hC.pos s) (fun s' hs' e => hp (.inr ⟨s', hs', e⟩)) hy'
          rcases this.status with e | e <;> exact offersAt_of_not_blocked (by rw [e]; simp) _ _
      . exact h.sendOff hC hy' hj
  have hpk : ∀ s v vs, st s = .park v vs -> partners (gs.setIfInBounds 0 ph) (C.c s) true = [(C.ix s, 0)] := by
    intro s v vs hs
    have hon : (st s).on = true := by rw [hs]; rfl
    obtain ⟨g1, hg1, hS⟩ := h.gS s hon
    rw [hs] at hS
    obtain ⟨g₂, zz, rfl, _⟩ := hS
    have hg1' := stand_get (i := 0) (hC.ix0 s) hg1
    rw [partners_one hg1' (fun j y hj hy => by
      rcases getElem?_stand gs 0 j y hy with ⟨_, rfl⟩ | ⟨_, hy'⟩
      . rfl
      . exact h.sendOff hC hy' hj), offersAt_parked_send, if_pos rfl]
    rfl
  have hno : ∀ s d, ((l s).isSome = true -> ∃ n vs, st s = .act n vs) -> illMade (w.at d) (mcase C l z s) = false /\ ways (w.at d) (gs.setIfInBounds 0 ph) (mcase C l z s) = [] := by
    intro s d ha
    unfold mcase
    by_cases hs : (l s).isSome = true
    . rw [if_pos hs]
      obtain ⟨n, vs, e⟩ := ha hs
      obtain ⟨a, b, hc⟩ := h.chan s
      rw [e] at hc
      exact ways_recv_none (w₁ := w.at d) hc (hpart s (by rintro ⟨v, vs, e'⟩; rw [e] at e'; cases e'))
    . rw [if_neg hs]; exact ⟨rfl, rfl⟩
  have hyes : ∀ s, (l s).isSome = true -> (¬ ∃ n vs, st s = .act n vs) -> ((∃ v vs, st s = .park v vs /\ partners (gs.setIfInBounds 0 ph) (C.c s) true = [(C.ix s, 0)]) ∨ ((st s).closed = true /\ ways w (gs.setIfInBounds 0 ph) (rcase (C.c s) z) = [.closed])) /\ illMade w (rcase (C.c s) z) = false /\ ∃ a, ways w (gs.setIfInBounds 0 ph) (rcase (C.c s) z) = [a] := by
    intro s hs hna
    obtain ⟨a, b, hc⟩ := h.chan s
    have hag := hM3 s
    cases hst : st s with
    | none => rw [hst] at hag; exact hag.elim
    | act n vs => exact absurd ⟨n, vs, hst⟩ hna
    | park v vs =>
      rw [hst] at hc
      exact ⟨.inl ⟨v, vs, rfl, hpk s v vs hst⟩, made_recv z hc, .partner (C.ix s) 0, by simp [ways, rcase, hc, hpk s v vs hst]⟩
    | gone n =>
      rw [hst] at hc
      have hc' : w.heap[C.c s]? = some (.chan 0 #[] true a b false) := hc
      have hcw : ways w (gs.setIfInBounds 0 ph) (rcase (C.c s) z) = [.closed] := by simp [ways, rcase, hc', hpart s (by rintro ⟨v, vs, e'⟩; rw [hst] at e'; cases e')]
      exact ⟨.inr ⟨rfl, hcw⟩, made_recv z hc, .closed, hcw⟩
  have hz : ∀ s, (mcase C l z s).send = none /\ (mcase C l z s).zero = z := by intro s; unfold mcase; split <;> exact ⟨rfl, rfl⟩
  by_cases hall : ∀ s, (l s).isSome = true -> ∃ n vs, st s = .act n vs
  . refine .inl ⟨hall, fun cc hcc => ?_⟩
    simp only [mcases, List.mem_toArray, List.mem_cons, List.not_mem_nil, or_false] at hcc
    rcases hcc with rfl | rfl
    . exact hno false w.drawn (hall false)
    . exact hno true w.drawn (hall true)
  . refine .inr ?_
    have hmc : ∀ s, (l s).isSome = true -> mcase C l z s = rcase (C.c s) z := fun s hs => by unfold mcase; rw [if_pos hs]
    by_cases hL : (l false).isSome = true -> ∃ n vs, st false = .act n vs
    . have hR : ¬ ((l true).isSome = true -> ∃ n vs, st true = .act n vs) := fun hR => hall fun s => by cases s; exact hL; exact hR
      have hls : (l true).isSome = true := Classical.byContradiction fun hc => hR fun h => absurd h hc
      obtain ⟨y1, y2, y3⟩ := hyes true hls fun hh => hR fun _ => hh
      refine ⟨true, w.drawn, mcase C l z false, y1, hls, (hz false).1, (hz false).2, (hno false _ hL).1, (hno false _ hL).2, ?_⟩
      unfold mcases two
      rw [if_pos rfl, hmc true hls]
      rfl
    . have hls : (l false).isSome = true := Classical.byContradiction fun hc => hL fun h => absurd h hc
      obtain ⟨y1, y2, a, y3⟩ := hyes false hls fun hh => hL fun _ => hh
      by_cases hR : (l true).isSome = true -> ∃ n vs, st true = .act n vs
      . refine ⟨false, w.drawn, mcase C l z true, y1, hls, (hz true).1, (hz true).2, (hno true _ hR).1, (hno true _ hR).2, ?_⟩
        unfold mcases two
        rw [hmc false hls]
        rfl
      . have hrs : (l true).isSome = true := Classical.byContradiction fun hc => hR fun h => absurd h hc
        obtain ⟨x1, x2, b, x3⟩ := hyes true hrs fun hh => hR fun _ => hh
        have hb := comm_both (P := P) (rest := rest) (i := 0) (g := g) y2 x2 y3 x3
        have e : mcases C l z = #[rcase (C.c false) z, rcase (C.c true) z] := by unfold mcases; rw [hmc false hls, hmc true hrs]
        rw [e]
        rcases hb with hb | hb
        . exact ⟨false, w.drawn + 1, rcaseNil z, y1, hls, rfl, rfl, rfl, rfl, hb⟩
        . exact ⟨true, w.drawn + 1, rcaseNil z, x1, hrs, rfl, rfl, rfl, rfl, hb⟩
end Go.Proofs.YtcpldcojckhapaaGreat
