/-
  
-/
import Derived.Test.YtcpldcojckhapaaGreatJ6
namespace Go.Proofs.YtcpldcojckhapaaGreat
open Go.Conc
open Go.ConcN (sumTo upd sumTo_upd upd_ne upd_same)
variable {P : Program} {C : Ch} {z : Value} {K : List Nat -> Goroutine -> World -> Prop} {vl vr : List Value}
variable {st : Bool -> SSt} {mst : MSt} {mi : Nat -> List Nat} {q : Nat -> Nat} {gs : Array Goroutine} {w : World} {t : Trace}
theorem seen_closed {m : List Nat} {g : Goroutine} (h : MOk P C z K vl vr st m g w mst) {s : Bool} (hs : mst.seen s = true) : (st s).closed = true := by
  have key : ∀ l : Lft, (l s).isNone = true -> Agree (st s) (l s) -> (st s).closed = true := by
    intro l h1 h2
    have h1 := Option.isNone_iff_eq_none.1 h1
    rw [h1] at h2
    cases e : st s with
    | none => rw [e] at h2; exact h2.elim
    | act n vs => rw [e] at h2; cases h2
    | park v vs => rw [e] at h2; cases h2
    | gone n => rfl
  cases mst with
  | one n => cases hs
  | two n f l => exact key l hs (h.2.2 s)
  | wait f l => exact key l hs (h.2.2.1 s)
theorem GI.lt0 (h : GI P C z K vl vr st mst mi q gs w t) : 0 < gs.size := by
  obtain ⟨g, hg, _⟩ := h.g0
  exact (Array.getElem?_eq_some_iff.1 hg).1
theorem GI.part_lt (h : GI P C z K vl vr st mst mi q gs w t) {x : Nat} (hx : Part C (fun s => (st s).on) x) : x < gs.size := by
  rcases hx with rfl | ⟨s, hs, rfl⟩
  . exact h.lt0
  . obtain ⟨g, hg, _⟩ := h.gS s hs
    exact (Array.getElem?_eq_some_iff.1 hg).1
theorem GI.awake (h : GI P C z K vl vr st mst mi q gs w t) : ∀ g ∈ gs, Conc.awake g := by
  intro g hg
  obtain ⟨i, hi, rfl⟩ := Array.mem_iff_getElem.1 hg
  have hget := Array.getElem?_eq_getElem hi
  by_cases hp : Part C (fun s => (st s).on) i
  . rcases hp with rfl | ⟨s, hs, rfl⟩
    . obtain ⟨g, hg, hM⟩ := h.g0
      have e : gs[0] = g := by rw [hget] at hg; exact Option.some.inj hg
      rw [e]
      cases mst with
      | one n => exact awake_of (.inl (Gb.running (fun _ _ _ h => h.1) hM.1))
      | two n f l => exact awake_of (.inl (Gb.running (stopM_running P C z K f l) hM.1))
      | wait f l => obtain ⟨⟨g₁, rfl, _⟩, _⟩ := hM; exact awake_of (.inr (.inl rfl))
    . obtain ⟨g, hg, hS⟩ := h.gS s hs
      have e : gs[C.ix s] = g := by rw [hget] at hg; exact Option.some.inj hg
      rw [e]
      cases hst : st s with
      | none => simp only [hst] at hs; cases hs
      | act n vs => rw [hst] at hS; exact awake_of (.inl (Gb.running (stopS_running P C s vs) hS))
      | park v vs => rw [hst] at hS; obtain ⟨g₂, z, rfl, _⟩ := hS; exact awake_of (.inr (.inl rfl))
      | gone n => rw [hst] at hS; exact awake_of ((QuitsD.of_quitsIn hS).status.elim .inl fun x => .inr (.inr x))
  . have hpos : 0 < i := Nat.pos_of_ne_zero fun e => hp (.inl e)
    have := h.old i gs[i] hpos (fun s hs e => hp (.inr ⟨s, hs, e⟩)) hget
    exact awake_of (this.status.elim .inl fun x => .inr (.inr x))
theorem GI.still_ones (h : GI P C z K vl vr st mst mi q gs w t) {x : Nat} {g g' : Goroutine} {w' : World} (hc : ∀ s, (st s).closed = false -> ∃ a b, w'.heap[C.c s]? = some (.chan 0 #[] false a b false)) :
    ∀ j y, j ≠ x -> gs[j]? = some y -> woken P g g' w' y = y := by
  intro j y _ hy
  by_cases hp : Part C (fun s => (st s).on) j
  . rcases hp with rfl | ⟨s, hs, rfl⟩
    . obtain ⟨g0, hg0, hM⟩ := h.g0
      rw [hy] at hg0
      obtain rfl := Option.some.inj hg0
      exact woken_main hM hc
    . obtain ⟨g1, hg1, hS⟩ := h.gS s hs
      rw [hy] at hg1
      obtain rfl := Option.some.inj hg1
      exact woken_side hS (hc s)
  . have hpos : 0 < j := Nat.pos_of_ne_zero fun e => hp (.inl e)
    exact woken_quitsD (h.old j y hpos (fun s hs e => hp (.inr ⟨s, hs, e⟩)) hy)
theorem upd_apart {mi : Nat -> List Nat} {x : Nat} {m : List Nat} (hap : ∀ x y, x ≠ y -> Go.Proofs.YtcpldcojckhapaaGreat.Apart (mi x) (mi y)) (hm : ∀ y, y ≠ x -> Go.Proofs.YtcpldcojckhapaaGreat.Apart m (mi y)) : ∀ a b, a ≠ b -> Go.Proofs.YtcpldcojckhapaaGreat.Apart (upd mi x m a) (upd mi x m b) := by
  intro a b hab
  by_cases ha : a = x
  . subst ha
    rw [upd_same, upd_ne _ _ (fun e => hab e.symm)]
    exact hm b fun e => hab e.symm
  . rw [upd_ne _ _ ha]
    by_cases hb : b = x
    . subst hb
      rw [upd_same]
      exact (hm a ha).symm
    . rw [upd_ne _ _ hb]
      exact hap a b hab
theorem GI.own (hC : ChOk C) (h : GI P C z K vl vr st mst mi q gs w t) {x : Nat} {g g' : Goroutine} {w' : World} {es : Array Event} {fn : FuncId} {pos : String} (hxp : Part C (fun s => (st s).on) x) (hxc : ∀ s, (st s).closed = true -> x ≠ C.ix s)
    (hgua : Gua C (mi x) w w' es) {st' : Bool -> SSt} {mst' : MSt} (hon : ∀ s, (st' s).on = (st s).on) (hcl : ∀ s, (st' s).closed = (st s).closed) (hseen : ∀ s, mst'.seen s = mst.seen s)
    (h0 : ∀ g0, (if 0 = x then some g' else gs[0]?) = some g0 -> MOk P C z K vl vr st' (upd mi x (grow (mi x) w w') 0) g0 w' mst')
    (hS : ∀ s g1, (st s).on = true -> (if C.ix s = x then some g' else gs[C.ix s]?) = some g1 -> SideOk P C s (upd mi x (grow (mi x) w w') (C.ix s)) g1 w' (st' s)) :
    GI P C z K vl vr st' mst' (upd mi x (grow (mi x) w w')) q ((gs.map (woken P g g' w')).setIfInBounds x g') w' (t ++ MemOp.ofEvents x fn pos es) := by
  have hlt := h.part_lt hxp
  have hchan : ∀ s, w'.heap[C.c s]? = w.heap[C.c s]? := fun s => hgua.keep _ (Nat.lt_of_lt_of_le (hC.low s) h.base) fun hm => by
    have := (h.mine x _ hm).1
    have := hC.low s
    omega
  have hopen : ∀ s, (st s).closed = false -> ∃ a b, w'.heap[C.c s]? = some (.chan 0 #[] false a b false) := fun s hs => by
    obtain ⟨a, b, hc⟩ := h.chan s
    rw [hs] at hc
    exact ⟨a, b, by rw [hchan]; exact hc⟩
  have get := get_upd (g' := g') hlt (h.still_ones (x := x) (g := g) (g' := g') hopen)
  have hu : ∀ op ∈ MemOp.ofEvents x fn pos es, op.g = x := fun op hop => by obtain ⟨e, _, rfl⟩ := Go.Conc.mem_ofEvents hop; rfl
  have hsz : ((gs.map (woken P g g' w')).setIfInBounds x g').size = gs.size := by simp
  have eon : (fun s => (st' s).on) = (fun s => (st s).on) := funext hon
  obtain ⟨g0, hg0, hM0⟩ := h.g0
  refine ⟨Nat.le_trans h.base hgua.size, fun y => ?_, upd_apart h.ap fun y hy => hgua.apart (h.mine y) (h.ap x y fun e => hy e.symm), fun s => ?_, ?_, fun s hs => ?_, fun hn => ?_, fun i y hi hne hy => ?_, fun j hj => ?_, ?_, fun s hs => ?_, fun s hs => ?_⟩
  . by_cases hy : y = x
    . subst hy; rw [upd_same]; exact hgua.mine h.base (h.mine y)
    . rw [upd_ne _ _ hy]; exact (h.mine y).mono hgua.size
  . obtain ⟨a, b, hc⟩ := h.chan s
    exact ⟨a, b, by rw [hchan, hc, hcl]⟩
  . by_cases hx0 : 0 = x
    . exact ⟨g', by rw [get, if_pos hx0], h0 g' (by rw [if_pos hx0])⟩
    . exact ⟨g0, by rw [get, if_neg hx0]; exact hg0, h0 g0 (by rw [if_neg hx0]; exact hg0)⟩
  . rw [hon] at hs
    obtain ⟨g1, hg1, _⟩ := h.gS s hs
    by_cases hx0 : C.ix s = x
    . exact ⟨g', by rw [get, if_pos hx0], hS s g' hs (by rw [if_pos hx0])⟩
    . exact ⟨g1, by rw [get, if_neg hx0]; exact hg1, hS s g1 hs (by rw [if_neg hx0]; exact hg1)⟩
  . rw [hon] at hn
    rw [hsz, hon]
    obtain ⟨q1, q2, q3⟩ := h.next hn
    refine ⟨q1, q2, ?_⟩
    have hne : C.ix true ≠ x := by
      rcases hxp with rfl | ⟨s, hs, rfl⟩
      . have := hC.pos true
        omega
      . cases s with
        | false => exact hC.ne.symm
        | true => simp only at hs; rw [hs] at hn; cases hn
    rw [upd_ne _ _ hne]
    exact q3
  . have hix : i ≠ x := by
      rcases hxp with rfl | ⟨s, hs, rfl⟩
      . omega
      . exact hne s (by rw [hon]; exact hs)
    rw [get, if_neg hix] at hy
    rw [Deaf_other t (fun e => hix e.symm) _ hu]
    exact h.old i y hi (fun s hs => hne s (by rw [hon]; exact hs)) hy
  . rw [hsz] at hj
    rw [Deaf_other t (g' := x) (by omega) _ hu]
    exact h.above j hj
  . rw [eon]
    refine h.tr.own hxp (fun b hb => (mem_grow hgua.size).2 (.inr hb)) (fun y b hb => (h.mine y b hb).1) (fun b hb => ?_) (fun y _ hy => hgua.apart (h.mine y) (h.ap x y fun e => hy e.symm)) hgua.ev
    exact (hgua.mine h.base (h.mine x) b hb).1
  . rw [hcl] at hs
    exact (h.cl s hs).app fun op hop => .inr (by rw [hu op hop]; exact hxc s hs)
  . rw [hseen] at hs
    exact (h.sn s hs).app fun op hop => .inr (by rw [hu op hop]; exact hxc s (seen_closed hM0 hs))
theorem GI.chg (h : GI P C z K vl vr st mst mi q gs w t) {st' : Bool -> SSt} {mst' : MSt} {q' : Nat -> Nat} {gs' : Array Goroutine} {w' : World} {u : Trace} (hon : ∀ s, (st' s).on = (st s).on) (hcl : ∀ s, (st' s).closed = (st s).closed)
    (hr : ∀ x, Rel C (mi x) w w') (hsz : gs'.size = gs.size) (hchan : ∀ s, ∃ a b, w'.heap[C.c s]? = some (.chan 0 #[] (st s).closed a b false))
    (hu : ∀ op ∈ u, op.act.touch? = none) (htr : TrI C (fun s => (st s).on) mi (t ++ u)) (habove : ∀ j, gs.size <= j -> Deaf (t ++ u) j = 0)
    (h0 : ∃ g0, gs'[0]? = some g0 /\ MOk P C z K vl vr st' (mi 0) g0 w' mst') (hS : ∀ s, (st s).on = true -> ∃ g1, gs'[C.ix s]? = some g1 /\ SideOk P C s (mi (C.ix s)) g1 w' (st' s))
    (hold : ∀ i g, 0 < i -> (∀ s, (st s).on = true -> i ≠ C.ix s) -> gs'[i]? = some g -> QuitsD P (q' i) (Deaf (t ++ u) i) g)
    (hsn : ∀ s, mst'.seen s = true -> SeenT C (t ++ u) s) : GI P C z K vl vr st' mst' mi q' gs' w' (t ++ u) := by
  have eon : (fun s => (st' s).on) = (fun s => (st s).on) := funext hon
  refine ⟨Nat.le_trans h.base (hr 0).size, fun x => (h.mine x).mono (hr 0).size, h.ap, fun s => by rw [hcl]; exact hchan s, h0, fun s hs => hS s (by rw [<- hon]; exact hs), fun hn => ?_, fun i g hi hne => hold i g hi fun s hs => hne s (by rw [hon]; exact hs), fun j hj => habove j (by rw [<- hsz]; exact hj), by rw [eon]; exact htr, fun s hs => ?_, hsn⟩
  . rw [hon] at hn ⊢
    rw [hsz]
    exact h.next hn
  . rw [hcl] at hs
    exact (h.cl s hs).app fun op hop => .inl (hu op hop)
theorem GI.at (h : GI P C z K vl vr st mst mi q gs w t) (d : Nat) : GI P C z K vl vr st mst mi q gs (w.at d) t := by
  have e : t = t ++ #[] := by simp
  rw [e]
  obtain ⟨g0, hg0, hM⟩ := h.g0
  refine h.chg (fun _ => rfl) (fun _ => rfl) (fun x => .at C (mi x) w d) rfl (fun s => h.chan s) (by simp) (by rw [<- e]; exact h.tr) (by rw [<- e]; exact h.above) ⟨g0, hg0, hM.rel (.at ..)⟩ (fun s hs => ?_) (by rw [<- e]; exact h.old) (by rw [<- e]; exact h.sn)
  obtain ⟨g1, hg1, h1⟩ := h.gS s hs
  exact ⟨g1, hg1, h1.rel (.at ..)⟩
theorem GI.leaver (h : GI P C z K vl vr st mst mi q gs w t) {i k : Nat} {g g' : Goroutine} {es : Array Event} {fn : FuncId} {pos : String} (hi : gs[i]? = some g) (hp : ¬ Part C (fun s => (st s).on) i) (hm : ∀ e ∈ es, e.mute = true) (hq : QuitsD P k (deafBehind (Deaf t i) es) g') :
    GI P C z K vl vr st mst mi (upd q i k) ((gs.map (woken P g g' w)).setIfInBounds i g') w (t ++ MemOp.ofEvents i fn pos es) := by
  have hlt := (Array.getElem?_eq_some_iff.1 hi).1
  have hopen : ∀ s, (st s).closed = false -> ∃ a b, w.heap[C.c s]? = some (.chan 0 #[] false a b false) := fun s hs => by
    obtain ⟨a, b, hc⟩ := h.chan s
    rw [hs] at hc
    exact ⟨a, b, hc⟩
  have get := get_upd (g' := g') hlt (h.still_ones (x := i) (g := g) (g' := g') hopen)
  have hu : ∀ op ∈ MemOp.ofEvents i fn pos es, op.g = i := fun op hop => by obtain ⟨e, _, rfl⟩ := Go.Conc.mem_ofEvents hop; rfl
  have hn : ∀ op ∈ MemOp.ofEvents i fn pos es, op.act.touch? = none := fun op hop => by obtain ⟨e, he, rfl⟩ := Go.Conc.mem_ofEvents hop; exact touch_mute (hm e he)
  have hi0 : i ≠ 0 := fun e => hp (.inl e)
  have his : ∀ s, (st s).on = true -> C.ix s ≠ i := fun s hs e => hp (.inr ⟨s, hs, e.symm⟩)
  obtain ⟨g0, hg0, hM⟩ := h.g0
  refine h.chg (fun _ => rfl) (fun _ => rfl) (fun x => .refl C (mi x) w) (by simp) (fun s => h.chan s) hn (h.tr.mute hp hm) (fun j hj => ?_) ⟨g0, by rw [get, if_neg (fun e => hi0 e.symm)]; exact hg0, hM⟩ (fun s hs => ?_) (fun j y hj hne hy => ?_) (fun s hs => ?_)
  . rw [Deaf_other t (g' := i) (by omega) _ hu]; exact h.above j hj
  . obtain ⟨g1, hg1, h1⟩ := h.gS s hs
    exact ⟨g1, by rw [get, if_neg (his s hs)]; exact hg1, h1⟩
  . rw [get] at hy
    by_cases hji : j = i
    . subst hji
      rw [if_pos rfl] at hy
      obtain rfl := Option.some.inj hy
      rw [upd_same, Deaf_own]
      exact hq
    . rw [if_neg hji] at hy
      rw [upd_ne _ _ hji, Deaf_other t (fun e => hji e.symm) _ hu]
      exact h.old j y hj hne hy
  . exact (h.sn s hs).app fun op hop => .inl (hn op hop)
def setS (st : Bool -> SSt) (s : Bool) (x : SSt) : Bool -> SSt := fun s' => if s' = s then x else st s'
theorem setS_same (st : Bool -> SSt) (s : Bool) (x : SSt) : setS st s x s = x := by simp [setS]
theorem setS_ne (st : Bool -> SSt) {s s' : Bool} (h : s' ≠ s) (x : SSt) : setS st s x s' = st s' := by simp [setS, h]
theorem MOk.setS {m : List Nat} {g : Goroutine} (h : MOk P C z K vl vr st m g w mst) {s : Bool} {x : SSt} (hon : (st s).on = true) (ha : ∀ y, Agree (st s) y -> Agree x y) (hact : ∀ f l, mst = .wait f l -> (∃ n vs, st s = .act n vs) -> ∃ n vs, x = .act n vs) : MOk P C z K vl vr (setS st s x) m g w mst := by
  cases mst with
  | one n =>
    refine ⟨h.1, ?_, ?_⟩
    . have hs : true ≠ s := fun e => by subst e; rw [h.2.1] at hon; cases hon
      rw [setS_ne _ hs]; exact h.2.1
    . by_cases hs : false = s
      . subst hs; rw [setS_same]; exact ha _ h.2.2
      . rw [setS_ne _ hs]; exact h.2.2
  | two n f l =>
    refine ⟨h.1, h.2.1, fun s' => ?_⟩
    by_cases hs : s' = s
    . subst hs; rw [setS_same]; exact ha _ (h.2.2 _)
    . rw [setS_ne _ hs]; exact h.2.2 s'
  | wait f l =>
    refine ⟨h.1, h.2.1, fun s' => ?_, fun s' hl => ?_⟩
    . by_cases hs : s' = s
      . subst hs; rw [setS_same]; exact ha _ (h.2.2.1 _)
      . rw [setS_ne _ hs]; exact h.2.2.1 s'
    . by_cases hs : s' = s
      . subst hs; rw [setS_same]; exact hact f l rfl (h.2.2.2 _ hl)
      . rw [setS_ne _ hs]; exact h.2.2.2 s' hl
theorem GI.quit (hC : ChOk C) (h : GI P C z K vl vr st mst mi q gs w t) {s : Bool} {n n' : Nat} (hs : st s = .gone n) {g g' : Goroutine} (hi : gs[C.ix s]? = some g) (hq : QuitsIn P n' g') :
    GI P C z K vl vr (setS st s (.gone n')) mst mi q ((gs.map (woken P g g' w)).setIfInBounds (C.ix s) g') w t := by
  have hlt := (Array.getElem?_eq_some_iff.1 hi).1
  have hopen : ∀ s, (st s).closed = false -> ∃ a b, w.heap[C.c s]? = some (.chan 0 #[] false a b false) := fun s hs => by
    obtain ⟨a, b, hc⟩ := h.chan s
    rw [hs] at hc
    exact ⟨a, b, hc⟩
  have get := get_upd (g' := g') hlt (h.still_ones (x := C.ix s) (g := g) (g' := g') hopen)
  have e : t = t ++ #[] := by simp
  have hon : (st s).on = true := by rw [hs]; rfl
  obtain ⟨g0, hg0, hM⟩ := h.g0
  have hix0 : (0 : Nat) ≠ C.ix s := fun e => by have := hC.pos s; omega
  rw [e]
  refine h.chg (fun s' => ?_) (fun s' => ?_) (fun x => .refl C (mi x) w) (by simp) (fun s => h.chan s) (by simp) (by rw [<- e]; exact h.tr) (by rw [<- e]; exact h.above)
    ⟨g0, by rw [get, if_neg hix0]; exact hg0, hM.setS hon (fun y hy => by rw [hs] at hy; exact hy) fun _ _ _ ⟨_, _, hh⟩ => by rw [hs] at hh; cases hh⟩ (fun s' hs' => ?_) (fun j y hj hne hy => ?_) (by rw [<- e]; exact h.sn)
  . by_cases hss : s' = s
    . subst hss; rw [setS_same, hs]; rfl
    . rw [setS_ne _ hss]
  . by_cases hss : s' = s
    . subst hss; rw [setS_same, hs]; rfl
    . rw [setS_ne _ hss]
  . by_cases hss : s' = s
    . subst hss
      exact ⟨g', by rw [get, if_pos rfl], by rw [setS_same]; exact hq⟩
    . obtain ⟨g1, hg1, h1⟩ := h.gS s' hs'
      have hne : C.ix s' ≠ C.ix s := by
        intro e
        cases s <;> cases s' <;> first | exact hss rfl | exact hC.ne e | exact hC.ne e.symm
      exact ⟨g1, by rw [get, if_neg hne]; exact hg1, by rw [setS_ne _ hss]; exact h1⟩
  . rw [<- e, get, if_neg (hne s hon)] at *
    exact h.old j y hj hne hy
end Go.Proofs.YtcpldcojckhapaaGreat

namespace Go.Proofs.YtcpldcojckhapaaGreat
open Go.Conc
open Go.ConcN (sumTo upd sumTo_upd upd_ne upd_same)
variable {P : Program}
theorem comm_both {rest : Rest} {gs : Array Goroutine} {i : Nat} {g : Goroutine} {cx cy : Nat} {z : Value} {w : World} {a b : Way} (hx : illMade w (rcase cx z) = false) (hy : illMade w (rcase cy z) = false) (ex : ways w gs (rcase cx z) = [a]) (ey : ways w gs (rcase cy z) = [b]) :
    communicate P rest gs i g #[rcase cx z, rcase cy z] true .select w = communicate P rest gs i g #[rcase cx z, rcaseNil z] true .select w.drew ∨
    communicate P rest gs i g #[rcase cx z, rcase cy z] true .select w = communicate P rest gs i g #[rcaseNil z, rcase cy z] true .select w.drew := by
  have a1 : (#[rcase cx z, rcase cy z] : Array CommCase).any (illMade w) = false := any_ill (by intro c hc; simp at hc; rcases hc with rfl | rfl; exact hx; exact hy)
  have a2 : (#[rcase cx z, rcaseNil z] : Array CommCase).any (illMade w.drew) = false := any_ill (by intro c hc; simp at hc; rcases hc with rfl | rfl; exact hx; rfl)
  have a3 : (#[rcaseNil z, rcase cy z] : Array CommCase).any (illMade w.drew) = false := any_ill (by intro c hc; simp at hc; rcases hc with rfl | rfl; rfl; exact hy)
  have en : ways w.drew gs (rcaseNil z) = [] := rfl
  have ex' : ways w.drew gs (rcase cx z) = [a] := ex
  have ey' : ways w.drew gs (rcase cy z) = [b] := ey
  have r1 : (((#[rcase cx z, rcase cy z] : Array CommCase).zipIdx.toList.map fun (c, k) => (k, c, ways w gs c)).filter fun (_, _, ws) => !ws.isEmpty) = [(0, rcase cx z, [a]), (1, rcase cy z, [b])] := by
    simp [List.zipIdx_cons, ex, ey]
  have r2 : (((#[rcase cx z, rcaseNil z] : Array CommCase).zipIdx.toList.map fun (c, k) => (k, c, ways w.drew gs c)).filter fun (_, _, ws) => !ws.isEmpty) = [(0, rcase cx z, [a])] := by
    simp [List.zipIdx_cons, ex', en]
  have r3 : (((#[rcaseNil z, rcase cy z] : Array CommCase).zipIdx.toList.map fun (c, k) => (k, c, ways w.drew gs c)).filter fun (_, _, ws) => !ws.isEmpty) = [(1, rcase cy z, [b])] := by
    simp [List.zipIdx_cons, ey', en]
  have c1 : ∀ (k : Int) v ok, commResult #[rcase cx z, rcaseNil z] .select k v ok = commResult #[rcase cx z, rcase cy z] .select k v ok := by
    intro k v ok; simp [commResult, rcase, rcaseNil, List.zipIdx_cons]
  have c2 : ∀ (k : Int) v ok, commResult #[rcaseNil z, rcase cy z] .select k v ok = commResult #[rcase cx z, rcase cy z] .select k v ok := by
    intro k v ok; simp [commResult, rcase, rcaseNil, List.zipIdx_cons]
  have f1 : ∀ (k : Int) v ok, g.finishComm P #[rcase cx z, rcaseNil z] .select k v ok = g.finishComm P #[rcase cx z, rcase cy z] .select k v ok := by
    intro k v ok; unfold Goroutine.finishComm; rw [c1]
  have f2 : ∀ (k : Int) v ok, g.finishComm P #[rcaseNil z, rcase cy z] .select k v ok = g.finishComm P #[rcase cx z, rcase cy z] .select k v ok := by
    intro k v ok; unfold Goroutine.finishComm; rw [c2]
  rcases Nat.mod_two_eq_zero_or_one (w.tape w.drawn (.select 2)) with h0 | h0
  . left
    unfold communicate
    simp only [r1, r2, f1]
    refine (if_neg (by rw [Bool.not_eq_true]; exact a1)).trans (Eq.trans ?_ (if_neg (by rw [Bool.not_eq_true]; exact a2)).symm)
    simp [choose, Sem.run, Question.forced, Question.cut, bind, Sem.bind, pure, h0]
  . right
    unfold communicate
    simp only [r1, r3, f2]
    refine (if_neg (by rw [Bool.not_eq_true]; exact a1)).trans (Eq.trans ?_ (if_neg (by rw [Bool.not_eq_true]; exact a3)).symm)
    simp [choose, Sem.run, Question.forced, Question.cut, bind, Sem.bind, pure, h0]
end Go.Proofs.YtcpldcojckhapaaGreat

namespace Go.Proofs.YtcpldcojckhapaaGreat
open Go.Conc
open Go.ConcN (sumTo upd sumTo_upd upd_ne upd_same)
variable {P : Program} {C : Ch} {z : Value}
def two (x y : CommCase) (s : Bool) : Array CommCase := if s then #[y, x] else #[x, y]
theorem two_res (x y : CommCase) (hx : x.send = none /\ x.zero = z) (hy : y.send = none /\ y.zero = z) (s : Bool) (v : Value) (ok : Bool) : commResult (two x y s) .select ((if s then 1 else 0 : Nat) : Int) v ok = tup z s v ok := by
  cases s <;> simp [two, commResult, hx, hy, List.zipIdx_cons, tup]
theorem comm_closed {rest : Rest} {gs : Array Goroutine} {i : Nat} {g : Goroutine} {x y : CommCase} {c : Nat} {w : World} (s : Bool) (hx : x = rcase c z) (hy : y.send = none /\ y.zero = z) (hn : illMade w y = false /\ ways w gs y = []) (hm : illMade w x = false) (hw : ways w gs x = [.closed]) :
    communicate P rest gs i g (two x y s) true .select w = (.next { world := w, gs := gs.setIfInBounds i (Conc.served g (tup z s z false)), rest }, #[{ g := i, fn := g.frame.fn, pos := g.frame.place, act := .recvClosed c }]) := by
  have hres := two_res x y (by rw [hx]; exact ⟨rfl, rfl⟩) hy s z false
  have hfin : g.finishComm P (two x y s) .select ((if s then 1 else 0 : Nat) : Int) z false = Conc.served g (tup z s z false) := by unfold Goroutine.finishComm; rw [hres]; rfl
  have a1 : (two x y s).any (illMade w) = false := any_ill (by
    intro c hc
    cases s <;> simp [two] at hc <;> rcases hc with rfl | rfl <;> first | exact hm | exact hn.1)
  have r1 : (((two x y s).zipIdx.toList.map fun (c, k) => (k, c, ways w gs c)).filter fun (_, _, ws) => !ws.isEmpty) = [((if s then 1 else 0), x, [.closed])] := by
    cases s <;> simp [two, List.zipIdx_cons, hw, hn.2]
  unfold communicate
  simp only [r1]
  refine (if_neg (by rw [Bool.not_eq_true]; exact a1)).trans ?_
  simp only [hx] at hfin ⊢
  simp [choose, Sem.run, Question.forced, bind, Sem.bind, pure, rcase]
  simp [rcase] at hfin
  rw [hfin]
theorem comm_meets {rest : Rest} {gs : Array Goroutine} {i j : Nat} {g gj : Goroutine} {x y : CommCase} {c a b : Nat} {w : World} {v zj : Value} (s : Bool) (hx : x = rcase c z) (hy : y.send = none /\ y.zero = z) (hn : illMade w y = false /\ ways w gs y = []) (hc : w.heap[c]? = some (.chan 0 #[] false a b false))
    (hj : gs[j]? = some (parked gj #[scase c v zj] .send)) (hp : partners gs c true = [(j, 0)]) :
    communicate P rest gs i g (two x y s) true .select w = (.next { world := w.setChan c 0 #[] false (a + 1) (b + 1) false, gs := (gs.setIfInBounds j (Conc.served gj undef)).setIfInBounds i (Conc.served g (tup z s v true)), rest },
      #[{ g := j, fn := gj.frame.fn, pos := gj.frame.place, act := .send c a }, { g := i, fn := g.frame.fn, pos := g.frame.place, act := .recv c b 0 }, { g := j, fn := gj.frame.fn, pos := gj.frame.place, act := .sendDone c a }, { g := i, fn := g.frame.fn, pos := g.frame.place, act := .recvDone c b }]) := by
  have hw : ways w gs (rcase c z) = [.partner j 0] := by simp [ways, rcase, hc, hp]
  have hres := two_res x y (by rw [hx]; exact ⟨rfl, rfl⟩) hy s v true
  have hfin : g.finishComm P (two x y s) .select ((if s then 1 else 0 : Nat) : Int) v true = Conc.served g (tup z s v true) := by unfold Goroutine.finishComm; rw [hres]; rfl
  have hm : illMade w x = false := by rw [hx]; exact made_recv z hc
  have a1 : (two x y s).any (illMade w) = false := any_ill (by
    intro c hc
    cases s <;> simp [two] at hc <;> rcases hc with rfl | rfl <;> first | exact hm | exact hn.1)
  have r1 : (((two x y s).zipIdx.toList.map fun (c, k) => (k, c, ways w gs c)).filter fun (_, _, ws) => !ws.isEmpty) = [((if s then 1 else 0), x, [.partner j 0])] := by
    cases s <;> simp [two, List.zipIdx_cons, hx, hw, hn.2]
  have hfp := finishPartner_at P gs hj (cs := #[scase c v zj]) (sh := .send) rfl 0 undef
  have hgd : gs.getD j default = parked gj #[scase c v zj] .send := by rw [Array.getD_eq_getD_getElem?, hj]; rfl
  have hov : offeredValue gs j 0 = v := by simp [offeredValue, hj, parked, scase]
  unfold communicate
  simp only [r1]
  refine (if_neg (by rw [Bool.not_eq_true]; exact a1)).trans ?_
  simp only [hx] at hfin ⊢
  simp [choose, Sem.run, Question.forced, bind, Sem.bind, pure, rcase, hc, hfp, hgd, hov, scase, parked, World.setChan]
  simp [rcase] at hfin
  rw [hfin]
  rfl
end Go.Proofs.YtcpldcojckhapaaGreat

namespace Go.Proofs.YtcpldcojckhapaaGreat
open Go.Conc
open Go.ConcN (sumTo upd sumTo_upd upd_ne upd_same)
variable {P : Program} {C : Ch} {z : Value} {K : List Nat -> Goroutine -> World -> Prop} {vl vr : List Value}
variable {st : Bool -> SSt} {mst : MSt} {mi : Nat -> List Nat} {q : Nat -> Nat} {gs : Array Goroutine} {w : World} {t : Trace}
theorem ChOk.ix_ne (hC : ChOk C) {s s' : Bool} (h : s' ≠ s) : C.ix s' ≠ C.ix s := by
  intro e
  cases s <;> cases s' <;> first | exact h rfl | exact hC.ne e | exact hC.ne e.symm
theorem ChOk.c_ne (hC : ChOk C) {s s' : Bool} (h : s' ≠ s) : C.c s' ≠ C.c s := by
  intro e
  cases s <;> cases s' <;> first | exact h rfl | exact hC.two e | exact hC.two e.symm
theorem ChOk.ix0 (hC : ChOk C) (s : Bool) : C.ix s ≠ 0 := fun e => by have := hC.pos s; omega
theorem GI.sendOff (hC : ChOk C) (h : GI P C z K vl vr st mst mi q gs w t) {s : Bool} {j : Nat} {y : Goroutine} (hy : gs[j]? = some y) (hj : j ≠ C.ix s) : offersAt y (C.c s) true = [] := by
  by_cases hp : Part C (fun s => (st s).on) j
  . rcases hp with rfl | ⟨s', hs', rfl⟩
    . obtain ⟨g0, hg0, hM⟩ := h.g0
      rw [hy] at hg0
      obtain rfl := Option.some.inj hg0
      cases mst with
      | one n => exact offersAt_of_not_blocked (by rw [Gb.running (fun _ _ _ h => h.1) hM.1]; simp) _ _
      | two n f l => exact offersAt_of_not_blocked (by rw [Gb.running (stopM_running P C z K f l) hM.1]; simp) _ _
      | wait f l =>
        obtain ⟨⟨g₁, rfl, _⟩, _⟩ := hM
        refine offersAt_parked_sends ?_ _
        intro cc hcc
        simp only [mcases, List.mem_toArray, List.mem_cons, List.not_mem_nil, or_false] at hcc
        rcases hcc with rfl | rfl <;> (unfold mcase; split <;> rfl)
    . obtain ⟨g1, hg1, hS⟩ := h.gS s' hs'
      rw [hy] at hg1
      obtain rfl := Option.some.inj hg1
      have hss : s' ≠ s := fun e => hj (by rw [e])
      cases hst : st s' with
      | none => rw [hst] at hS; exact hS.elim
      | act n vs => rw [hst] at hS; exact offersAt_of_not_blocked (by rw [Gb.running (stopS_running P C s' vs) hS]; simp) _ _
      | park v vs =>
        rw [hst] at hS
        obtain ⟨g₂, zz, rfl, _⟩ := hS
        rw [offersAt_parked_send, if_neg (hC.c_ne hss)]
      | gone n =>
        rw [hst] at hS
        rcases (QuitsD.of_quitsIn hS).status with e | e <;> exact offersAt_of_not_blocked (by rw [e]; simp) _ _
  . have hpos : 0 < j := Nat.pos_of_ne_zero fun e => hp (.inl e)
    have := h.old j y hpos (fun s hs e => hp (.inr ⟨s, hs, e⟩)) hy
    rcases this.status with e | e <;> exact offersAt_of_not_blocked (by rw [e]; simp) _ _
theorem GI.recvOff (h : GI P C z K vl vr st mst mi q gs w t) {s : Bool} {j : Nat} {y : Goroutine} (hy : gs[j]? = some y) (hj : j ≠ 0) : offersAt y (C.c s) false = [] := by
  by_cases hp : Part C (fun s => (st s).on) j
  . rcases hp with rfl | ⟨s', hs', rfl⟩
    . exact absurd rfl hj
    . obtain ⟨g1, hg1, hS⟩ := h.gS s' hs'
      rw [hy] at hg1
      obtain rfl := Option.some.inj hg1
      cases hst : st s' with
      | none => rw [hst] at hS; exact hS.elim
      | act n vs => rw [hst] at hS; exact offersAt_of_not_blocked (by rw [Gb.running (stopS_running P C s' vs) hS]; simp) _ _
      | park v vs =>
        rw [hst] at hS
        obtain ⟨g₂, zz, rfl, _⟩ := hS
        exact offersAt_parked_send' _ _ _ _ _ _
      | gone n =>
        rw [hst] at hS
        rcases (QuitsD.of_quitsIn hS).status with e | e <;> exact offersAt_of_not_blocked (by rw [e]; simp) _ _
  . have hpos : 0 < j := Nat.pos_of_ne_zero fun e => hp (.inl e)
    have := h.old j y hpos (fun s hs e => hp (.inr ⟨s, hs, e⟩)) hy
    rcases this.status with e | e <;> exact offersAt_of_not_blocked (by rw [e]; simp) _ _
theorem getElem?_set2 {gs : Array Goroutine} {x : Nat} {g : Goroutine} (hx : x < gs.size) (j : Nat) : (gs.setIfInBounds x g)[j]? = if j = x then some g else gs[j]? := by
  by_cases hj : j = x
  . subst hj; simp [hx]
  . rw [if_neg hj, Array.getElem?_setIfInBounds_ne (fun e => hj e.symm)]
def fourOps (c a b x y : Nat) (fx fy : FuncId) (px py : String) : Trace := #[{ g := x, fn := fx, pos := px, act := .send c a }, { g := y, fn := fy, pos := py, act := .recv c b 0 }, { g := x, fn := fx, pos := px, act := .sendDone c a }, { g := y, fn := fy, pos := py, act := .recvDone c b }]
theorem TrI.four {on : Bool -> Bool} (h : TrI C on mi t) (c a b x y : Nat) (fx fy : FuncId) (px py : String) : TrI C on mi (t ++ fourOps c a b x y fx fy px py) := by
  have e : t ++ fourOps c a b x y fx fy px py = t ++ #[{ g := x, fn := fx, pos := px, act := .send c a }] ++ #[{ g := y, fn := fy, pos := py, act := .recv c b 0 }] ++ #[{ g := x, fn := fx, pos := px, act := .sendDone c a }] ++ #[{ g := y, fn := fy, pos := py, act := .recvDone c b }] := by
    apply Array.ext'
    simp [fourOps]
  rw [e]
  exact (((h.still _ rfl ⟨by simp, by simp⟩).still _ rfl ⟨by simp, by simp⟩).still _ rfl ⟨by simp, by simp⟩).still _ rfl ⟨by simp, by simp⟩
theorem four_silent (c a b x y : Nat) (fx fy : FuncId) (px py : String) : ∀ op ∈ fourOps c a b x y fx fy px py, op.act.touch? = none := by
  intro op hop
  simp only [fourOps, List.mem_toArray, List.mem_cons, List.not_mem_nil, or_false] at hop
  rcases hop with rfl | rfl | rfl | rfl <;> rfl
theorem Deaf_still (t u : Trace) (g : Nat) (hu : ∀ op ∈ u, op.act ≠ .mark .disable /\ op.act ≠ .mark .enable) : Deaf (t ++ u) g = Deaf t g := by
  have h := Deaf_append t g u.toList
  have e : t ++ u.toList.toArray = t ++ u := by simp
  rw [e] at h
  rw [h]
  have key : ∀ (l : List MemOp) (d : Nat), (∀ op ∈ l, op.act ≠ .mark .disable /\ op.act ≠ .mark .enable) -> l.foldl (deafStep g) d = d := by
    intro l
    induction l with
    | nil => exact fun _ _ => rfl
    | cons x l ih =>
      intro d hl
      rw [List.foldl_cons]
      have hx := hl x (List.mem_cons_self ..)
      have : deafStep g d x = d := by
        unfold deafStep
        split
        . rename_i h1; exact absurd h1 hx.1
        . rename_i h1; exact absurd h1 hx.2
        . rfl
      rw [this]
      exact ih d fun op ho => hl op (List.mem_cons_of_mem _ ho)
  exact key _ _ fun op ho => hu op (by simpa using ho)
theorem four_marks (c a b x y : Nat) (fx fy : FuncId) (px py : String) : ∀ op ∈ fourOps c a b x y fx fy px py, op.act ≠ .mark .disable /\ op.act ≠ .mark .enable := by
  intro op hop
  simp only [fourOps, List.mem_toArray, List.mem_cons, List.not_mem_nil, or_false] at hop
  rcases hop with rfl | rfl | rfl | rfl <;> exact ⟨by simp, by simp⟩
theorem chan_set (hC : ChOk C) (h : GI P C z K vl vr st mst mi q gs w t) (s : Bool) (a b : Nat) (hs : (st s).closed = false) : ∀ s', ∃ a' b', (w.setChan (C.c s) 0 #[] false a b false).heap[C.c s']? = some (.chan 0 #[] (st s').closed a' b' false) := by
  intro s'
  by_cases hss : s' = s
  . subst hss
    exact ⟨a, b, by rw [hs]; exact heap_setChan w _ _ _ _ _ _ _ (Nat.lt_of_lt_of_le (hC.low _) h.base)⟩
  . obtain ⟨a', b', hc⟩ := h.chan s'
    refine ⟨a', b', ?_⟩
    have := hC.c_ne hss
    simp only [World.setChan]
    rw [Array.getElem?_setIfInBounds_ne (fun e => this e.symm)]
    exact hc
theorem GI.parkS (hC : ChOk C) (h : GI P C z K vl vr st mst mi q gs w t) {s : Bool} {n : Nat} {v : Value} {vs : List Value} (hs : st s = .act n (v :: vs)) (hnw : ∀ f l, mst ≠ .wait f l) {g₂ : Goroutine} {zz : Value} (hsn : Snd P C s vs (mi (C.ix s)) (Conc.served g₂ undef) w) :
    GI P C z K vl vr (setS st s (.park v vs)) mst mi q (gs.setIfInBounds (C.ix s) (parked g₂ #[scase (C.c s) v zz] .send)) w t := by
  have hon : (st s).on = true := by rw [hs]; rfl
  obtain ⟨g1, hg1, _⟩ := h.gS s hon
  have hlt := (Array.getElem?_eq_some_iff.1 hg1).1
  have get := getElem?_set2 (g := parked g₂ #[scase (C.c s) v zz] .send) hlt
  have e : t = t ++ #[] := by simp
  obtain ⟨g0, hg0, hM⟩ := h.g0
  have hM' : MOk P C z K vl vr (setS st s (.park v vs)) (mi 0) g0 w mst := hM.setS hon (fun y hy => by rw [hs] at hy; exact hy) fun f l e => absurd e (hnw f l)
  rw [e]
  refine h.chg (fun s' => ?_) (fun s' => ?_) (fun x => .refl C (mi x) w) (by simp) (fun s => h.chan s) (by simp) (by rw [<- e]; exact h.tr) (by rw [<- e]; exact h.above)
    ⟨g0, by rw [get, if_neg (fun e => hC.ix0 s e.symm)]; exact hg0, hM'⟩ (fun s' hs' => ?_) (fun j y hj hne hy => ?_) (by rw [<- e]; exact h.sn)
  . by_cases hss : s' = s
    . subst hss; rw [setS_same, hs]; rfl
    . rw [setS_ne _ hss]
  . by_cases hss : s' = s
    . subst hss; rw [setS_same, hs]; rfl
    . rw [setS_ne _ hss]
  . by_cases hss : s' = s
    . subst hss
      exact ⟨_, by rw [get, if_pos rfl], by rw [setS_same]; exact ⟨g₂, zz, rfl, hsn⟩⟩
    . obtain ⟨g1, hg1, h1⟩ := h.gS s' hs'
      exact ⟨g1, by rw [get, if_neg (hC.ix_ne hss)]; exact hg1, by rw [setS_ne _ hss]; exact h1⟩
  . rw [<- e]
    rw [get, if_neg (hne s hon)] at hy
    exact h.old j y hj hne hy
theorem Agree.some {s : SSt} {l : Lft} {b : Bool} {vs : List Value} {n : Nat} (h : Agree s (l b)) (hs : s = .act n vs) : l b = some vs := by rw [hs] at h; exact h
theorem GI.meet (hC : ChOk C) {f : Nat} {l : Lft} (h : GI P C z K vl vr st mst mi q gs w t) {s : Bool} {v : Value} {vs : List Value} (hon : (st s).on = true) (hcl : (st s).closed = false) (hls : l s = some (v :: vs)) (hM3 : ∀ s', Agree (st s') (l s')) (hM2 : f + 1 = wgt l) (hms : ∀ s', mst.seen s' = (l s').isNone)
    {g₂ g₁ : Goroutine} (hsn : Snd P C s vs (mi (C.ix s)) (Conc.served g₂ undef) w) (hN : Nexts z l (MScr P C z K f) (mi 0) g₁ w) {a b : Nat} (fx fy : FuncId) (px py : String) {gs' : Array Goroutine} (hsz : gs'.size = gs.size)
    (get : ∀ j, gs'[j]? = if j = C.ix s then some (Conc.served g₂ undef) else if j = 0 then some (Conc.served g₁ (tup z s v true)) else gs[j]?) :
    ∃ n1 n2, GI P C z K vl vr (setS st s (.act n1 vs)) (.two n2 f (setL l s (some vs))) mi q gs' (w.setChan (C.c s) 0 #[] false (a + 1) (b + 1) false) (t ++ fourOps (C.c s) a b (C.ix s) 0 fx fy px py) := by
  have hrel : ∀ x, Rel C (mi x) w (w.setChan (C.c s) 0 #[] false (a + 1) (b + 1) false) := fun x => setChan_rel hC (h.mine x) s _ _ _ _ _ _
  obtain ⟨n1, hn1⟩ := (snd_iff ..).1 (hsn.rel (hrel (C.ix s)))
  obtain ⟨n2, hn2⟩ := (mscr_iff ..).1 ((hN.1 s v vs hls).rel (hrel 0))
  have hw := wgt_set l s (some vs)
  have hwf : f = wgt (setL l s (some vs)) := by
    rw [hls] at hw
    simp only [wg1, List.length_cons] at hw
    omega
  have hseen : ∀ s', (setL l s (some vs) s').isNone = (l s').isNone := by
    intro s'
    by_cases hss : s' = s
    . subst hss; simp [setL, hls]
    . simp [setL, hss]
  refine ⟨n1, n2, ?_⟩
  refine h.chg (fun s' => ?_) (fun s' => ?_) hrel hsz (chan_set hC h s _ _ hcl) (four_silent _ _ _ _ _ _ _ _ _) (h.tr.four ..) (fun j hj => by rw [Deaf_still _ _ _ (four_marks _ _ _ _ _ _ _ _ _)]; exact h.above j hj)
    ⟨_, by rw [get, if_neg (fun e => hC.ix0 s e.symm), if_pos rfl], ?_⟩ (fun s' hs' => ?_) (fun j y hj hne hy => ?_) (fun s' hs' => ?_)
  . by_cases hss : s' = s
    . subst hss; rw [setS_same, hon]; rfl
    . rw [setS_ne _ hss]
  . by_cases hss : s' = s
    . subst hss; rw [setS_same, hcl]; rfl
    . rw [setS_ne _ hss]
  . refine ⟨hn2, hwf, fun s' => ?_⟩
    by_cases hss : s' = s
    . subst hss; rw [setS_same]; simp [setL, Agree]
    . rw [setS_ne _ hss]
      have : setL l s (some vs) s' = l s' := by simp [setL, hss]
      rw [this]; exact hM3 s'
  . by_cases hss : s' = s
    . subst hss
      exact ⟨_, by rw [get, if_pos rfl], by rw [setS_same]; exact hn1⟩
    . obtain ⟨g1, hg1, h1⟩ := h.gS s' hs'
      exact ⟨g1, by rw [get, if_neg (hC.ix_ne hss), if_neg (hC.ix0 s')]; exact hg1, by rw [setS_ne _ hss]; exact h1.rel (hrel _)⟩
  . rw [Deaf_still _ _ _ (four_marks _ _ _ _ _ _ _ _ _)]
    rw [get, if_neg (hne s hon), if_neg (by omega)] at hy
    exact h.old j y hj hne hy
  . exact (h.sn s' (by rw [hms, <- hseen s']; exact hs')).app fun op hop => .inl (four_silent _ _ _ _ _ _ _ _ _ op hop)
end Go.Proofs.YtcpldcojckhapaaGreat
