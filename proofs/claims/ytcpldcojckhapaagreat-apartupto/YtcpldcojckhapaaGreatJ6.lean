/-
  
-/
import Derived.Test.YtcpldcojckhapaaGreatJ5
import Derived.Conc.CrowdSel
import Derived.Conc.LoneSelect
namespace Go.Proofs.YtcpldcojckhapaaGreat
open Go.Conc
open Go.ConcN (sumTo upd sumTo_upd upd_ne upd_same)
structure Ch where
  base : Nat
  c : Bool -> Nat
  ix : Bool -> Nat
structure ChOk (C : Ch) : Prop where
  low : ∀ s, C.c s < C.base
  two : C.c false ≠ C.c true
  pos : ∀ s, 0 < C.ix s
  ne : C.ix false ≠ C.ix true
def Shared (C : Ch) (b : Nat) : Prop := b < C.base /\ ∀ s, b ≠ C.c s
structure Rel (C : Ch) (mine : List Nat) (w w₁ : World) : Prop where
  tape : w₁.tape = w.tape
  os : w₁.os = w.os
  output : w₁.output = w.output
  size : w.heap.size <= w₁.heap.size
  keep : ∀ b, Shared C b ∨ b ∈ mine -> w₁.heap[b]? = w.heap[b]?
theorem Rel.refl (C : Ch) (mine : List Nat) (w : World) : Rel C mine w w := ⟨rfl, rfl, rfl, Nat.le_refl _, fun _ _ => rfl⟩
theorem Rel.trans {C : Ch} {mine : List Nat} {a b c : World} (h : Rel C mine a b) (k : Rel C mine b c) : Rel C mine a c :=
  ⟨k.tape.trans h.tape, k.os.trans h.os, k.output.trans h.output, Nat.le_trans h.size k.size, fun x hx => (k.keep x hx).trans (h.keep x hx)⟩
theorem Rel.at (C : Ch) (mine : List Nat) (w : World) (d : Nat) : Rel C mine w (w.at d) := ⟨rfl, rfl, rfl, Nat.le_refl _, fun _ _ => rfl⟩
def EvM (C : Ch) (mine : List Nat) (e : Event) : Prop :=
  EvOk e /\ ∀ x, (MemAct.ofEvent e).touch? = some x -> (∃ a, x.loc = .cell a /\ (a.block ∈ mine ∨ (x.write = false /\ Shared C a.block))) ∨ (x.write = false /\ ∃ s, x.loc = .obj (C.c s))
def grow (mine : List Nat) (w w' : World) : List Nat := List.range' w.heap.size (w'.heap.size - w.heap.size) ++ mine
structure Gua (C : Ch) (mine : List Nat) (w w' : World) (es : Array Event) : Prop where
  tape : w'.tape = w.tape
  os : w'.os = w.os
  output : w'.output = w.output
  size : w.heap.size <= w'.heap.size
  keep : ∀ b, b < w.heap.size -> b ∉ mine -> w'.heap[b]? = w.heap[b]?
  ev : ∀ e ∈ es, EvM C (grow mine w w') e
theorem mem_grow {mine : List Nat} {w w' : World} {b : Nat} (hs : w.heap.size <= w'.heap.size) : b ∈ grow mine w w' ↔ (w.heap.size <= b /\ b < w'.heap.size) ∨ b ∈ mine := by
  unfold grow
  rw [List.mem_append, List.mem_range'_1]
  constructor
  . rintro (h | h)
    . exact .inl (by omega)
    . exact .inr h
  . rintro (h | h)
    . exact .inl (by omega)
    . exact .inr h
def Mine (C : Ch) (mine : List Nat) (w : World) : Prop := ∀ b ∈ mine, C.base <= b /\ b < w.heap.size
def Apart (m m' : List Nat) : Prop := ∀ b, b ∈ m -> b ∉ m'
theorem Gua.rel {C : Ch} {m m' : List Nat} {w w' : World} {es : Array Event} (h : Gua C m w w' es) (hb : C.base <= w.heap.size) (hm : Mine C m w) (hm' : Mine C m' w) (ha : Apart m' m) : Rel C m' w w' := by
  refine ⟨h.tape, h.os, h.output, h.size, fun b hx => ?_⟩
  rcases hx with hx | hx
  . exact h.keep b (Nat.lt_of_lt_of_le hx.1 hb) fun hmem => by have := (hm b hmem).1; have := hx.1; omega
  . exact h.keep b (hm' b hx).2 (ha b hx)
theorem Gua.mine {C : Ch} {m : List Nat} {w w' : World} {es : Array Event} (h : Gua C m w w' es) (hb : C.base <= w.heap.size) (hm : Mine C m w) : Mine C (grow m w w') w' := by
  intro b hx
  rcases (mem_grow h.size).1 hx with hx | hx
  . omega
  . have := hm b hx
    have := h.size
    omega
theorem Gua.apart {C : Ch} {m m' : List Nat} {w w' : World} {es : Array Event} (h : Gua C m w w' es) (hm' : Mine C m' w) (ha : Apart m m') : Apart (grow m w w') m' := by
  intro b hx hy
  rcases (mem_grow h.size).1 hx with hx | hx
  . have := (hm' b hy).2; omega
  . exact ha b hx hy
theorem Apart.symm {m m' : List Nat} (h : Apart m m') : Apart m' m := fun b hx hy => h b hy hx
theorem Mine.mono {C : Ch} {m : List Nat} {w w' : World} (h : Mine C m w) (hs : w.heap.size <= w'.heap.size) : Mine C m w' := fun b hb => ⟨(h b hb).1, by have := (h b hb).2; omega⟩
theorem setChan_rel {C : Ch} (hC : ChOk C) {m : List Nat} {w : World} (hm : Mine C m w) (s : Bool) (cap : Nat) (buf : Array Value) (closed : Bool) (a b : Nat) (tm : Bool) : Rel C m w (w.setChan (C.c s) cap buf closed a b tm) := by
  refine ⟨rfl, rfl, rfl, by simp [World.setChan], fun x hx => ?_⟩
  have hne : C.c s ≠ x := by
    rcases hx with hx | hx
    . exact fun e => hx.2 s e.symm
    . have := (hm x hx).1
      have := hC.low s
      omega
  simp [World.setChan, Array.getElem?_setIfInBounds_ne hne]
section
variable (P : Program) (C : Ch) (main : Bool) (Stop : List Nat -> Goroutine -> World -> Prop)
def Gb : Nat -> List Nat -> Goroutine -> World -> Prop
  | 0, mine, g, w => ∀ w₁, Rel C mine w w₁ -> Stop mine g w₁
  | n + 1, mine, g, w => (∀ w₁, Rel C mine w w₁ -> Stop mine g w₁) ∨ (g.status = .running /\ ∀ w₁, Rel C mine w w₁ -> ∃ g' w' es, stepG P main g w₁ = .go g' w' es /\ g'.status = .running /\ Gua C mine w₁ w' es /\ Gb n (grow mine w₁ w') g' w')
end
theorem Gb.rel {P : Program} {C : Ch} {main : Bool} {Stop : List Nat -> Goroutine -> World -> Prop} {n : Nat} {mine : List Nat} {g : Goroutine} {w w₁ : World} (h : Gb P C main Stop n mine g w) (hr : Rel C mine w w₁) : Gb P C main Stop n mine g w₁ := by
  cases n with
  | zero => exact fun w₂ h₂ => h w₂ (hr.trans h₂)
  | succ n => exact h.imp (fun h w₂ h₂ => h w₂ (hr.trans h₂)) fun ⟨h1, h2⟩ => ⟨h1, fun w₂ h₂ => h2 w₂ (hr.trans h₂)⟩
theorem Gb.cases {P : Program} {C : Ch} {main : Bool} {Stop : List Nat -> Goroutine -> World -> Prop} {n : Nat} {mine : List Nat} {g : Goroutine} {w : World} (h : Gb P C main Stop n mine g w) :
    (∀ w₁, Rel C mine w w₁ -> Stop mine g w₁) ∨ ∃ n', n = n' + 1 /\ g.status = .running /\ ∃ g' w' es, stepG P main g w = .go g' w' es /\ g'.status = .running /\ Gua C mine w w' es /\ Gb P C main Stop n' (grow mine w w') g' w' := by
  cases n with
  | zero => exact .inl h
  | succ n =>
    rcases h with h | ⟨h1, h2⟩
    . exact .inl h
    . exact .inr ⟨n, rfl, h1, h2 w (.refl ..)⟩
theorem Gb.running {P : Program} {C : Ch} {main : Bool} {Stop : List Nat -> Goroutine -> World -> Prop} (hS : ∀ m g w, Stop m g w -> g.status = .running) {n : Nat} {mine : List Nat} {g : Goroutine} {w : World} (h : Gb P C main Stop n mine g w) : g.status = .running := by
  rcases h.cases with h | ⟨_, _, h, _⟩
  . exact hS _ _ _ (h w (.refl ..))
  . exact h
section
variable (P : Program) (C : Ch) (s : Bool)
def AtSendL (v : Value) (Next : List Nat -> Goroutine -> World -> Prop) (mine : List Nat) (g : Goroutine) (w : World) : Prop :=
  g.status = .running /\ ∃ g₂ z, stepG P false g w = .comm g₂ #[scase (C.c s) v z] true .send w #[] /\ Next mine (Conc.served g₂ undef) w
def AtCloseL (g : Goroutine) (w : World) : Prop :=
  g.status = .running /\ mayWake P g = true /\ ∃ g₂ n, (∀ a b tm, w.heap[C.c s]? = some (.chan 0 #[] false a b tm) -> stepG P false g w = .go g₂ (w.setChan (C.c s) 0 #[] true a b tm) #[⟨.obj (C.c s), false, true⟩, ⟨.obj (C.c s), true, true⟩]) /\ QuitsIn P n g₂
def Snd : List Value -> List Nat -> Goroutine -> World -> Prop
  | [], mine, g, w => ∃ n, Gb P C false (fun _ g w => AtCloseL P C s g w) n mine g w
  | v :: vs, mine, g, w => ∃ n, Gb P C false (AtSendL P C s v (Snd vs)) n mine g w
def StopS : List Value -> List Nat -> Goroutine -> World -> Prop
  | [] => fun _ g w => AtCloseL P C s g w
  | v :: vs => AtSendL P C s v (Snd P C s vs)
theorem snd_iff (vs : List Value) (mine : List Nat) (g : Goroutine) (w : World) : Snd P C s vs mine g w ↔ ∃ n, Gb P C false (StopS P C s vs) n mine g w := by cases vs <;> exact Iff.rfl
theorem stopS_running (vs : List Value) (mine : List Nat) (g : Goroutine) (w : World) (h : StopS P C s vs mine g w) : g.status = .running := by
  cases vs <;> exact h.1
end
theorem Snd.rel {P : Program} {C : Ch} {s : Bool} {vs : List Value} {mine : List Nat} {g : Goroutine} {w w₁ : World} (h : Snd P C s vs mine g w) (hr : Rel C mine w w₁) : Snd P C s vs mine g w₁ := by
  obtain ⟨n, hn⟩ := (snd_iff ..).1 h
  exact (snd_iff ..).2 ⟨n, hn.rel hr⟩
abbrev Lft := Bool -> Option (List Value)
def setL (l : Lft) (s : Bool) (x : Option (List Value)) : Lft := fun s' => if s' = s then x else l s'
def wg1 : Option (List Value) -> Nat
  | none => 0
  | some vs => vs.length + 1
def wgt (l : Lft) : Nat := wg1 (l false) + wg1 (l true)
theorem wgt_set (l : Lft) (s : Bool) (x : Option (List Value)) : wgt (setL l s x) + wg1 (l s) = wgt l + wg1 x := by
  cases s <;> simp [wgt, setL] <;> omega
def mcase (C : Ch) (l : Lft) (z : Value) (s : Bool) : CommCase := if (l s).isSome then rcase (C.c s) z else rcaseNil z
def mcases (C : Ch) (l : Lft) (z : Value) : Array CommCase := #[mcase C l z false, mcase C l z true]
def tup (z : Value) (s : Bool) (v : Value) (ok : Bool) : Value := .tuple #[goInt (if s then 1 else 0), .bool ok, (if s then z else v), (if s then v else z)]
section
variable (P : Program) (C : Ch) (z : Value) (K : List Nat -> Goroutine -> World -> Prop)
def Nexts (l : Lft) (Next : Lft -> List Nat -> Goroutine -> World -> Prop) (mine : List Nat) (g : Goroutine) (w : World) : Prop :=
  (∀ s v vs, l s = some (v :: vs) -> Next (setL l s (some vs)) mine (Conc.served g (tup z s v true)) w) /\ (∀ s, l s = some [] -> Next (setL l s none) mine (Conc.served g (tup z s z false)) w)
def MSel (l : Lft) (Next : Lft -> List Nat -> Goroutine -> World -> Prop) (mine : List Nat) (g : Goroutine) (w : World) : Prop :=
  g.status = .running /\ stepG P true g w = .comm (core g) (mcases C l z) true .select w #[] /\ Nexts z l Next mine (core g) w
def MScr : Nat -> Lft -> List Nat -> Goroutine -> World -> Prop
  | 0, _, mine, g, w => ∃ n, Gb P C true (fun mine g w => g.status = .running /\ K mine g w) n mine g w
  | f + 1, l, mine, g, w => ∃ n, Gb P C true (MSel P C z l (MScr f)) n mine g w
def StopM : Nat -> Lft -> List Nat -> Goroutine -> World -> Prop
  | 0, _ => fun mine g w => g.status = .running /\ K mine g w
  | f + 1, l => MSel P C z l (MScr P C z K f)
theorem mscr_iff (f : Nat) (l : Lft) (mine : List Nat) (g : Goroutine) (w : World) : MScr P C z K f l mine g w ↔ ∃ n, Gb P C true (StopM P C z K f l) n mine g w := by cases f <;> exact Iff.rfl
theorem stopM_running (f : Nat) (l : Lft) (mine : List Nat) (g : Goroutine) (w : World) (h : StopM P C z K f l mine g w) : g.status = .running := by
  cases f <;> exact h.1
def AtGo2 (vl vr : List Value) (mine : List Nat) (g : Goroutine) (w : World) : Prop :=
  g.status = .running /\ ∃ g' child, stepG P true g w = .spawn g' child w #[] /\ Snd P C true vr [] child w /\ MScr P C z K (vl.length + 1 + (vr.length + 1)) (fun s => if s then some vr else some vl) mine g' w
end
theorem MScr.rel {P : Program} {C : Ch} {z : Value} {K : List Nat -> Goroutine -> World -> Prop} {f : Nat} {l : Lft} {mine : List Nat} {g : Goroutine} {w w₁ : World} (h : MScr P C z K f l mine g w) (hr : Rel C mine w w₁) : MScr P C z K f l mine g w₁ := by
  obtain ⟨n, hn⟩ := (mscr_iff ..).1 h
  exact (mscr_iff ..).2 ⟨n, hn.rel hr⟩
theorem Nexts.rel {P : Program} {C : Ch} {z : Value} {K : List Nat -> Goroutine -> World -> Prop} {f : Nat} {l : Lft} {mine : List Nat} {g : Goroutine} {w w₁ : World} (h : Nexts z l (MScr P C z K f) mine g w) (hr : Rel C mine w w₁) : Nexts z l (MScr P C z K f) mine g w₁ :=
  ⟨fun s v vs e => (h.1 s v vs e).rel hr, fun s e => (h.2 s e).rel hr⟩
end Go.Proofs.YtcpldcojckhapaaGreat

namespace Go.Proofs.YtcpldcojckhapaaGreat
open Go.Conc
open Go.ConcN (sumTo upd sumTo_upd upd_ne upd_same)
def Part (C : Ch) (on : Bool -> Bool) (x : Nat) : Prop := x = 0 ∨ ∃ s, on s = true /\ x = C.ix s
def PhT (C : Ch) (m : List Nat) (a : Touch) : Prop := (∃ ad, a.loc = .cell ad /\ (ad.block ∈ m ∨ (a.write = false /\ Shared C ad.block))) ∨ (a.write = false /\ ∃ s, a.loc = .obj (C.c s))
theorem PhT.mono {C : Ch} {m m' : List Nat} {a : Touch} (h : PhT C m a) (hm : ∀ b ∈ m, b ∈ m') : PhT C m' a :=
  h.imp (fun ⟨ad, h1, h2⟩ => ⟨ad, h1, h2.imp (hm _) id⟩) id
structure TrI (C : Ch) (on : Bool -> Bool) (mi : Nat -> List Nat) (t : Trace) : Prop where
  clean : ∀ said, ¬ Race said t
  cls : ∀ i a, touchAt t i = some a -> a.loc.isMemory = true -> (∀ x, Part C on x -> Knows t x i) ∨ ∃ x, Part C on x /\ t.g? i = some x /\ PhT C (mi x) a
  hears : ∀ x, Part C on x -> Deaf t x = 0
theorem phT_conflict {C : Ch} {m m' : List Nat} {said : Bool} {a b : Touch} (ha : PhT C m a) (hb : PhT C m' b) (hm : ∀ x ∈ m, C.base <= x) (hm' : ∀ x ∈ m', C.base <= x) (hd : Go.Proofs.YtcpldcojckhapaaGreat.Apart m m') (hc : a.conflicts said b) : False := by
  obtain ⟨h1, _, h3, _⟩ := hc
  rcases ha with ⟨ad, e1, ha⟩ | ⟨wa, s, e1⟩
  . rcases hb with ⟨bd, e2, hb⟩ | ⟨wb, s, e2⟩
    . rw [e1, e2] at h1
      have e : ad = bd := by simpa using h1
      subst e
      rcases ha with ha | ⟨wa, sa⟩
      . rcases hb with hb | ⟨wb, sb⟩
        . exact hd _ ha hb
        . have := hm _ ha
          have := sb.1
          omega
      . rcases hb with hb | ⟨wb, sb⟩
        . have := hm' _ hb
          have := sa.1
          omega
        . rcases h3 with h3 | h3
          . rw [wa] at h3; cases h3
          . rw [wb] at h3; cases h3
    . rw [e1, e2] at h1; cases h1
  . rcases hb with ⟨bd, e2, hb⟩ | ⟨wb, s', e2⟩
    . rw [e1, e2] at h1; cases h1
    . rcases h3 with h3 | h3
      . rw [wa] at h3; cases h3
      . rw [wb] at h3; cases h3
theorem evM_touch {C : Ch} {m : List Nat} {e : Event} {x : Touch} (h : EvM C m e) (hx : (MemAct.ofEvent e).touch? = some x) : PhT C m x := by
  exact h.2 x hx
theorem TrI.own {C : Ch} {on : Bool -> Bool} {mi : Nat -> List Nat} {t : Trace} (h : TrI C on mi t) {x : Nat} (hx : Part C on x) {m : List Nat} (hsub : ∀ b ∈ mi x, b ∈ m)
    (hlow : ∀ y, ∀ b ∈ mi y, C.base <= b) (hml : ∀ b ∈ m, C.base <= b) (hap : ∀ y, Part C on y -> y ≠ x -> Go.Proofs.YtcpldcojckhapaaGreat.Apart m (mi y)) {fn : FuncId} {pos : String} {es : Array Event} (hes : ∀ e ∈ es, EvM C m e) :
    TrI C on (upd mi x m) (t ++ MemOp.ofEvents x fn pos es) := by
  have hu : ∀ op ∈ MemOp.ofEvents x fn pos es, op.g = x := fun op hop => by obtain ⟨e, _, rfl⟩ := Go.Conc.mem_ofEvents hop; rfl
  have hut : ∀ op ∈ MemOp.ofEvents x fn pos es, ∀ b, op.act.touch? = some b -> PhT C m b := fun op hop b hb => by
    obtain ⟨e, he, rfl⟩ := Go.Conc.mem_ofEvents hop
    exact evM_touch (hes e he) hb
  refine ⟨fun said => noRace_append (h.clean said) hu fun i a ha op hop b hb hc => ?_, fun i a ha hm => ?_, fun y hy => ?_⟩
  . rcases h.cls i a ha hc.2.1 with hk | ⟨y, hy, hg, hp⟩
    . exact hk x hx
    . by_cases hyx : y = x
      . subst hyx
        obtain ⟨z, hz, _⟩ := touch_of ha
        have hzg : z.g = y := by simpa [Trace.g?, hz] using hg
        have := knows_own hz
        rwa [hzg] at this
      . exact (phT_conflict hp (hut op hop b hb) (hlow y) hml (hap y hy hyx).symm hc).elim
  . obtain ⟨z, hz, hza⟩ := touch_of ha
    rcases getElem?_append_cases hz with ⟨hi, hz'⟩ | ⟨_, hzu⟩
    . rcases h.cls i a (by rw [touchAt_of hz']; exact hza) hm with hk | ⟨y, hy, hg, hp⟩
      . exact .inl fun y hy => (hk y hy).app _
      . refine .inr ⟨y, hy, by rw [g?_old hi]; exact hg, ?_⟩
        by_cases hyx : y = x
        . subst hyx
          rw [upd_same]
          exact hp.mono hsub
        . rw [upd_ne _ _ hyx]
          exact hp
    . refine .inr ⟨x, hx, by simp [Trace.g?, hz, hu z hzu], ?_⟩
      rw [upd_same]
      exact hut z hzu a hza
  . by_cases hyx : x = y
    . subst hyx
      rw [Deaf_own, deafBehind_still (fun e he => (hes e he).1)]
      exact h.hears x hx
    . rw [Deaf_other t hyx _ hu]
      exact h.hears y hy
theorem TrI.still {C : Ch} {on : Bool -> Bool} {mi : Nat -> List Nat} {t : Trace} (h : TrI C on mi t) (op : MemOp) (hn : op.act.touch? = none) (hd : op.act ≠ .mark .disable /\ op.act ≠ .mark .enable) : TrI C on mi (t ++ #[op]) := by
  have hu : ∀ o ∈ #[op], o.g = op.g := fun o ho => by obtain rfl : o = op := by simpa using ho
                                                      rfl
  refine ⟨fun said => noRace_append (h.clean said) hu fun i a ha o ho b hb hc => ?_, fun i a ha hm => ?_, fun y hy => ?_⟩
  . obtain rfl : o = op := by simpa using ho
    rw [hn] at hb; cases hb
  . obtain ⟨z, hz, hza⟩ := touch_of ha
    rcases getElem?_append_cases hz with ⟨hi, hz'⟩ | ⟨_, hzu⟩
    . rcases h.cls i a (by rw [touchAt_of hz']; exact hza) hm with hk | ⟨y, hy, hg, hp⟩
      . exact .inl fun y hy => (hk y hy).app _
      . exact .inr ⟨y, hy, by rw [g?_old hi]; exact hg, hp⟩
    . obtain rfl : z = op := by simpa using hzu
      rw [hn] at hza; cases hza
  . rw [Deaf_push]
    have : deafStep y (Deaf t y) op = Deaf t y := by
      unfold deafStep
      split
      . rename_i h1; exact absurd h1 hd.1
      . rename_i h1; exact absurd h1 hd.2
      . rfl
    rw [this]
    exact h.hears y hy
theorem TrI.mute {C : Ch} {on : Bool -> Bool} {mi : Nat -> List Nat} {t : Trace} (h : TrI C on mi t) {g : Nat} (hg : ¬ Part C on g) {fn : FuncId} {pos : String} {es : Array Event} (hm : ∀ e ∈ es, e.mute = true) : TrI C on mi (t ++ MemOp.ofEvents g fn pos es) := by
  have hu : ∀ op ∈ MemOp.ofEvents g fn pos es, op.g = g := fun op hop => by obtain ⟨e, _, rfl⟩ := Go.Conc.mem_ofEvents hop; rfl
  have hn : ∀ op ∈ MemOp.ofEvents g fn pos es, op.act.touch? = none := fun op hop => by obtain ⟨e, he, rfl⟩ := Go.Conc.mem_ofEvents hop; exact touch_mute (hm e he)
  refine ⟨fun said => noRace_append (h.clean said) hu fun i a ha o ho b hb hc => ?_, fun i a ha hm => ?_, fun y hy => ?_⟩
  . rw [hn o ho] at hb; cases hb
  . obtain ⟨z, hz, hza⟩ := touch_of ha
    rcases getElem?_append_cases hz with ⟨hi, hz'⟩ | ⟨_, hzu⟩
    . rcases h.cls i a (by rw [touchAt_of hz']; exact hza) hm with hk | ⟨y, hy, hg, hp⟩
      . exact .inl fun y hy => (hk y hy).app _
      . exact .inr ⟨y, hy, by rw [g?_old hi]; exact hg, hp⟩
    . rw [hn z hzu] at hza; cases hza
  . rw [Deaf_other t (g := y) (g' := g) (fun e => hg (by rw [e]; exact hy)) _ hu]
    exact h.hears y hy
theorem heard_last {t : Trace} {op : MemOp} (hd : Deaf t op.g = 0) : (t ++ #[op]).heard t.size := by
  have hlast : (t ++ #[op])[t.size]? = some op := by rw [Array.getElem?_append_right (Nat.le_refl _)]; simp
  refine ⟨op.g, by unfold Trace.g?; rw [hlast]; rfl, ?_⟩
  rw [deaf_old (Nat.le_refl _)]
  exact hd
theorem last_get (t : Trace) (op : MemOp) : (t ++ #[op])[t.size]? = some op := by rw [Array.getElem?_append_right (Nat.le_refl _)]; simp
theorem TrI.spawn {C : Ch} {on : Bool -> Bool} {mi : Nat -> List Nat} {t : Trace} (h : TrI C on mi t) {s : Bool} (hs : on s = false) (hdeaf : Deaf t (C.ix s) = 0) (hpos : C.ix s ≠ 0) {x y : MemOp} (hx : x.g = 0 /\ x.act = .go (C.ix s)) (hy : y.g = C.ix s /\ y.act = .start) :
    TrI C (fun s' => if s' = s then true else on s') mi (t ++ #[x] ++ #[y]) := by
  have h1 := h.still x (by rw [hx.2]; rfl) (by rw [hx.2]; exact ⟨by simp, by simp⟩)
  have h2 := h1.still y (by rw [hy.2]; rfl) (by rw [hy.2]; exact ⟨by simp, by simp⟩)
  have hpart : ∀ z, Part C (fun s' => if s' = s then true else on s') z -> Part C on z ∨ z = C.ix s := by
    rintro z (rfl | ⟨s', h3, rfl⟩)
    . exact .inl (.inl rfl)
    . by_cases e : s' = s
      . subst e; exact .inr rfl
      . simp only [e, if_false] at h3
        exact .inl (.inr ⟨s', h3, rfl⟩)
  have hback : ∀ z, Part C on z -> Part C (fun s' => if s' = s then true else on s') z := by
    rintro z (rfl | ⟨s', h3, rfl⟩)
    . exact .inl rfl
    . exact .inr ⟨s', by simp [h3], rfl⟩
  have d0 : Deaf t 0 = 0 := h.hears 0 (.inl rfl)
  have dx : Deaf (t ++ #[x]) (C.ix s) = 0 := by
    rw [Deaf_other t (g' := 0) (fun e => hpos e.symm) _ (fun o ho => by obtain rfl : o = x := by simpa using ho
                                                                        exact hx.1)]
    exact hdeaf
  have hgo : (t ++ #[x] ++ #[y])[t.size]? = some x := by rw [getElem?_append_old (by simp)]; exact last_get t x
  have hst : (t ++ #[x] ++ #[y])[(t ++ #[x]).size]? = some y := last_get _ y
  have hh1 : (t ++ #[x] ++ #[y]).heard t.size := (heard_old (by simp)).2 (heard_last (by rw [hx.1]; exact d0))
  have hh2 : (t ++ #[x] ++ #[y]).heard (t ++ #[x]).size := heard_last (by rw [hy.1]; exact dx)
  have hedge : HappensBefore (t ++ #[x] ++ #[y]) t.size (t ++ #[x]).size :=
    .single (.inr ⟨.spawn (child := C.ix s) (by rw [act?_of hgo, hx.2]) (by rw [act?_of hst, hy.2]) (by simp only [Trace.g?, hst, Option.map_some, hy.1]), hh1, hh2⟩)
  have hknow : ∀ i, Knows t 0 i -> Knows (t ++ #[x] ++ #[y]) (C.ix s) i := by
    intro i hk
    have hb : HappensBefore (t ++ #[x] ++ #[y]) i t.size := by
      have := hk.hb_new (u := #[x] ++ #[y]) (j := t.size) (y := x) (Nat.le_refl _) (by rw [<- Array.append_assoc]; exact hgo) hx.1
      rwa [<- Array.append_assoc] at this
    exact ⟨_, y, hst, hy.1, .inr (hb.trans hedge)⟩
  refine ⟨h2.clean, fun i a ha hm => ?_, fun z hz => ?_⟩
  . obtain ⟨z, hz, hza⟩ := touch_of ha
    have hz' : t[i]? = some z := by
      rcases getElem?_append_cases hz with ⟨_, hz1⟩ | ⟨_, hzu⟩
      . rcases getElem?_append_cases hz1 with ⟨_, hz2⟩ | ⟨_, hzu⟩
        . exact hz2
        . obtain rfl : z = x := by simpa using hzu
          rw [hx.2] at hza; cases hza
      . obtain rfl : z = y := by simpa using hzu
        rw [hy.2] at hza; cases hza
    have hi := lt_size_of_getElem? hz'
    rcases h.cls i a (by rw [touchAt_of hz']; exact hza) hm with hk | ⟨q, hq, hg, hp⟩
    . refine .inl fun q hq => ?_
      rcases hpart q hq with hq | rfl
      . exact ((hk q hq).app _).app _
      . exact hknow i (hk 0 (.inl rfl))
    . exact .inr ⟨q, hback q hq, by rw [g?_old (by simp; omega), g?_old hi]; exact hg, hp⟩
  . rcases hpart z hz with hz | rfl
    . exact h2.hears z hz
    . rw [Deaf_push]
      have : deafStep (C.ix s) (Deaf (t ++ #[x]) (C.ix s)) y = Deaf (t ++ #[x]) (C.ix s) := by
        unfold deafStep
        rw [hy.2]
      rw [this]; exact dx
def ClosedT (C : Ch) (t : Trace) (s : Bool) : Prop := ∃ (j : Nat) (op : MemOp), t[j]? = some op /\ op.g = C.ix s /\ op.act = .close (C.c s) /\ t.heard j /\ ∀ i a, touchAt t i = some a -> t.g? i = some (C.ix s) -> Before t i j
def SeenT (C : Ch) (t : Trace) (s : Bool) : Prop := ∀ i a, touchAt t i = some a -> a.loc.isMemory = true -> t.g? i = some (C.ix s) -> Knows t 0 i
theorem ClosedT.app {C : Ch} {t u : Trace} {s : Bool} (h : ClosedT C t s) (hu : ∀ op ∈ u, op.act.touch? = none ∨ op.g ≠ C.ix s) : ClosedT C (t ++ u) s := by
  obtain ⟨j, op, h1, h2, h3, h4, h5⟩ := h
  have hj := lt_size_of_getElem? h1
  refine ⟨j, op, by rw [getElem?_append_old hj]; exact h1, h2, h3, (heard_old hj).2 h4, fun i a ha hg => ?_⟩
  obtain ⟨z, hz, hza⟩ := touch_of ha
  rcases getElem?_append_cases hz with ⟨hi, hz'⟩ | ⟨_, hzu⟩
  . exact (h5 i a (by rw [touchAt_of hz']; exact hza) (by rw [<- g?_old (u := u) hi]; exact hg)).app u
  . rcases hu z hzu with h | h
    . rw [h] at hza; cases hza
    . exact absurd (by simpa [Trace.g?, hz] using hg) h
theorem SeenT.app {C : Ch} {t u : Trace} {s : Bool} (h : SeenT C t s) (hu : ∀ op ∈ u, op.act.touch? = none ∨ op.g ≠ C.ix s) : SeenT C (t ++ u) s := by
  intro i a ha hm hg
  obtain ⟨z, hz, hza⟩ := touch_of ha
  rcases getElem?_append_cases hz with ⟨hi, hz'⟩ | ⟨_, hzu⟩
  . exact (h i a (by rw [touchAt_of hz']; exact hza) hm (by rw [<- g?_old (u := u) hi]; exact hg)).app u
  . rcases hu z hzu with h | h
    . rw [h] at hza; cases hza
    . exact absurd (by simpa [Trace.g?, hz] using hg) h
theorem closedT_new {C : Ch} {t : Trace} {s : Bool} {op : MemOp} (hd : Deaf t (C.ix s) = 0) (h2 : op.g = C.ix s) (h3 : op.act = .close (C.c s)) : ClosedT C (t ++ #[op]) s := by
  refine ⟨t.size, op, last_get t op, h2, h3, heard_last (by rw [h2]; exact hd), fun i a ha hg => ?_⟩
  obtain ⟨z, hz, hza⟩ := touch_of ha
  rcases getElem?_append_cases hz with ⟨hi, hz'⟩ | ⟨_, hzu⟩
  . exact .inr (hb_po hi hz (last_get t op) (by unfold Trace.g? at hg; rw [hz] at hg; rw [h2]; exact Option.some.inj hg))
  . obtain rfl : z = op := by simpa using hzu
    rw [h3] at hza; cases hza
theorem seenT_new {C : Ch} {t : Trace} {s : Bool} {op : MemOp} (h : ClosedT C t s) (hd : Deaf t 0 = 0) (h2 : op.g = 0) (h3 : op.act = .recvClosed (C.c s)) : SeenT C (t ++ #[op]) s := by
  obtain ⟨j, o, q1, q2, q3, q4, q5⟩ := h
  have hj := lt_size_of_getElem? q1
  have hedge : HappensBefore (t ++ #[op]) j t.size :=
    .single (.inr ⟨.closed (c := C.c s) (by rw [act?_old hj, act?_of q1, q3]) (by rw [act?_of (last_get t op), h3]), (heard_old hj).2 q4, heard_last (by rw [h2]; exact hd)⟩)
  intro i a ha hm hg
  obtain ⟨z, hz, hza⟩ := touch_of ha
  rcases getElem?_append_cases hz with ⟨hi, hz'⟩ | ⟨_, hzu⟩
  . have := (q5 i a (by rw [touchAt_of hz']; exact hza) (by rw [<- g?_old (u := #[op]) hi]; exact hg)).app #[op]
    exact ⟨_, op, last_get t op, h2, .inr (this.hb hedge)⟩
  . obtain rfl : z = op := by simpa using hzu
    rw [h3] at hza; cases hza
theorem TrI.done {C : Ch} {on : Bool -> Bool} {mi : Nat -> List Nat} {t : Trace} (h : TrI C on mi t) (hs : ∀ s, on s = true -> SeenT C t s) : Pst t := by
  have hk : ∀ i a, touchAt t i = some a -> a.loc.isMemory = true -> Knows t 0 i := by
    intro i a ha hm
    rcases h.cls i a ha hm with hk | ⟨x, hx, hg, _⟩
    . exact hk 0 (.inl rfl)
    . rcases hx with rfl | ⟨s, h1, rfl⟩
      . obtain ⟨z, hz, _⟩ := touch_of ha
        have hzg : z.g = 0 := by simpa [Trace.g?, hz] using hg
        have := knows_own hz
        rwa [hzg] at this
      . exact hs s h1 i a ha hm hg
  refine ⟨h.clean, hk, fun i g hg hne hc => ?_, h.hears 0 (.inl rfl)⟩
  obtain ⟨x, hx, hm, _⟩ := hc
  obtain ⟨q, z, h1, h2, h3⟩ := hk i x hx hm
  refine ⟨q, by simp [Trace.g?, h1, h2], ?_⟩
  rcases h3 with rfl | h3
  . exact absurd (by simpa [Trace.g?, h1, h2] using hg.symm) hne
  . exact h3
theorem TrI.begin {C : Ch} {t : Trace} (h : Pst t) (mi : Nat -> List Nat) : TrI C (fun _ => false) mi t := by
  have hp : ∀ x, Part C (fun _ => false) x -> x = 0 := by
    rintro x (h | ⟨s, h1, _⟩)
    . exact h
    . cases h1
  exact ⟨h.clean, fun i a ha hm => .inl fun x hx => by rw [hp x hx]; exact h.known i a ha hm, fun x hx => by rw [hp x hx]; exact h.hears⟩
end Go.Proofs.YtcpldcojckhapaaGreat

namespace Go.Proofs.YtcpldcojckhapaaGreat
open Go.Conc
open Go.ConcN (sumTo upd sumTo_upd upd_ne upd_same)
inductive SSt where
  | none
  | act (n : Nat) (vs : List Value)
  | park (v : Value) (vs : List Value)
  | gone (n : Nat)
def SSt.on : SSt -> Bool
  | .none => false
  | _ => true
def SSt.closed : SSt -> Bool
  | .gone _ => true
  | _ => false
inductive MSt where
  | one (n : Nat)
  | two (n f : Nat) (l : Lft)
  | wait (f : Nat) (l : Lft)
def MSt.seen : MSt -> Bool -> Bool
  | .one _, _ => false
  | .two _ _ l, s | .wait _ l, s => (l s).isNone
def Agree : SSt -> Option (List Value) -> Prop
  | .none, _ => False
  | .act _ vs, x => x = some vs
  | .park v vs, x => x = some (v :: vs)
  | .gone _, x => x = some [] ∨ x = none
section
variable (P : Program) (C : Ch) (z : Value) (K : List Nat -> Goroutine -> World -> Prop) (vl vr : List Value)
def SideOk (s : Bool) (m : List Nat) (g : Goroutine) (w : World) : SSt -> Prop
  | .none => False
  | .act n vs => Gb P C false (StopS P C s vs) n m g w
  | .park v vs => ∃ g₂ z, g = parked g₂ #[scase (C.c s) v z] .send /\ Snd P C s vs m (Conc.served g₂ undef) w
  | .gone n => QuitsIn P n g
def MOk (st : Bool -> SSt) (m : List Nat) (g : Goroutine) (w : World) : MSt -> Prop
  | .one n => Gb P C true (AtGo2 P C z K vl vr) n m g w /\ st true = .none /\ Agree (st false) (some vl)
  | .two n f l => Gb P C true (StopM P C z K f l) n m g w /\ f = wgt l /\ ∀ s, Agree (st s) (l s)
  | .wait f l => (∃ g₁, g = parked (core g₁) (mcases C l z) .select /\ ∀ w₁, Rel C m w w₁ -> MSel P C z l (MScr P C z K f) m g₁ w₁) /\ f + 1 = wgt l /\ (∀ s, Agree (st s) (l s)) /\ ∀ s, (l s).isSome = true -> ∃ n vs, st s = .act n vs
structure GI (st : Bool -> SSt) (mst : MSt) (mi : Nat -> List Nat) (q : Nat -> Nat) (gs : Array Goroutine) (w : World) (t : Trace) : Prop where
  base : C.base <= w.heap.size
  mine : ∀ x, Mine C (mi x) w
  ap : ∀ x y, x ≠ y -> Go.Proofs.YtcpldcojckhapaaGreat.Apart (mi x) (mi y)
  chan : ∀ s, ∃ a b, w.heap[C.c s]? = some (.chan 0 #[] (st s).closed a b false)
  g0 : ∃ g, gs[0]? = some g /\ MOk P C z K vl vr st (mi 0) g w mst
  gS : ∀ s, (st s).on = true -> ∃ g, gs[C.ix s]? = some g /\ SideOk P C s (mi (C.ix s)) g w (st s)
  next : (st true).on = false -> C.ix true = gs.size /\ (st false).on = true /\ mi (C.ix true) = []
  old : ∀ i g, 0 < i -> (∀ s, (st s).on = true -> i ≠ C.ix s) -> gs[i]? = some g -> QuitsD P (q i) (Deaf t i) g
  above : ∀ j, gs.size <= j -> Deaf t j = 0
  tr : TrI C (fun s => (st s).on) mi t
  cl : ∀ s, (st s).closed = true -> ClosedT C t s
  sn : ∀ s, mst.seen s = true -> SeenT C t s
end
section
variable {P : Program} {C : Ch} {z : Value} {K : List Nat -> Goroutine -> World -> Prop} {vl vr : List Value}
theorem SideOk.rel {s : Bool} {m : List Nat} {g : Goroutine} {w w' : World} {st : SSt} (h : SideOk P C s m g w st) (hr : Rel C m w w') : SideOk P C s m g w' st := by
  cases st with
  | none => exact h
  | act n vs => exact Gb.rel h hr
  | park v vs => obtain ⟨g₂, z, h1, h2⟩ := h; exact ⟨g₂, z, h1, h2.rel hr⟩
  | gone n => exact h
theorem MOk.rel {st : Bool -> SSt} {m : List Nat} {g : Goroutine} {w w' : World} {mst : MSt} (h : MOk P C z K vl vr st m g w mst) (hr : Rel C m w w') : MOk P C z K vl vr st m g w' mst := by
  cases mst with
  | one n => exact ⟨h.1.rel hr, h.2⟩
  | two n f l => exact ⟨h.1.rel hr, h.2⟩
  | wait f l => obtain ⟨⟨g₁, h1, h2⟩, h3⟩ := h; exact ⟨⟨g₁, h1, fun w₁ h₁ => h2 w₁ (hr.trans h₁)⟩, h3⟩
theorem woken_side {s : Bool} {m : List Nat} {g x x' : Goroutine} {w w' : World} {st : SSt} (h : SideOk P C s m g w st) (hc : st.closed = false -> ∃ a b, w'.heap[C.c s]? = some (.chan 0 #[] false a b false)) : woken P x x' w' g = g := by
  cases st with
  | none => exact h.elim
  | act n vs => exact woken_run (Gb.running (stopS_running P C s vs) h)
  | park v vs =>
    obtain ⟨g₂, z, rfl, _⟩ := h
    obtain ⟨a, b, hc⟩ := hc rfl
    exact woken_send_open _ _ hc
  | gone n => exact woken_quitsD (QuitsD.of_quitsIn h)
theorem again_mcases {l : Lft} {g : Goroutine} {w : World} (h : ∀ s, (l s).isSome = true -> ∃ a b, w.heap[C.c s]? = some (.chan 0 #[] false a b false)) : (parked g (mcases C l z) .select).again w = parked g (mcases C l z) .select := by
  simp [Goroutine.again, parked, mcases]
  refine ⟨?_, ?_⟩
  . unfold mcase
    by_cases hs : (l false).isSome = true
    . rw [if_pos hs]
      obtain ⟨a, b, hc⟩ := h _ hs
      simp [rcase, hc]
    . rw [if_neg hs]
      simp [rcaseNil]
  . unfold mcase
    by_cases hs : (l true).isSome = true
    . rw [if_pos hs]
      obtain ⟨a, b, hc⟩ := h _ hs
      simp [rcase, hc]
    . rw [if_neg hs]
      simp [rcaseNil]
theorem woken_main {st : Bool -> SSt} {m : List Nat} {g x x' : Goroutine} {w w' : World} {mst : MSt} (h : MOk P C z K vl vr st m g w mst) (hc : ∀ s, (st s).closed = false -> ∃ a b, w'.heap[C.c s]? = some (.chan 0 #[] false a b false)) : woken P x x' w' g = g := by
  cases mst with
  | one n => exact woken_run (Gb.running (fun _ _ _ h => h.1) h.1)
  | two n f l => exact woken_run (Gb.running (stopM_running P C z K f l) h.1)
  | wait f l =>
    obtain ⟨⟨g₁, rfl, _⟩, _, _, hact⟩ := h
    unfold woken
    split
    . refine again_mcases fun s hs => ?_
      obtain ⟨n, vs, e⟩ := hact s hs
      exact hc s (by rw [e]; rfl)
    . rfl
theorem get_upd {gs : Array Goroutine} {f : Goroutine -> Goroutine} {x : Nat} {g' : Goroutine} (hx : x < gs.size) (hf : ∀ j g, j ≠ x -> gs[j]? = some g -> f g = g) (j : Nat) : ((gs.map f).setIfInBounds x g')[j]? = if j = x then some g' else gs[j]? := by
  by_cases hj : j = x
  . subst hj
    simp [hx]
  . rw [if_neg hj, Array.getElem?_setIfInBounds_ne (fun e => hj e.symm), Array.getElem?_map]
    cases hg : gs[j]? with
    | none => rfl
    | some g => simp [hf j g hj hg]
end
end Go.Proofs.YtcpldcojckhapaaGreat
