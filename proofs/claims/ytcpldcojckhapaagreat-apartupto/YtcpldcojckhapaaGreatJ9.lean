/-
  
-/
import Derived.Test.YtcpldcojckhapaaGreatJ8
import Derived.Conc.CompanyMem
namespace Go.Proofs.YtcpldcojckhapaaGreat
open Go.Conc
open Go.ConcN (sumTo upd sumTo_upd upd_ne upd_same)
variable {P : Program} {C : Ch} {z : Value} {K : List Nat -> Goroutine -> World -> Prop} {vl vr : List Value}
def Done (P : Program) (K : List Nat -> Goroutine -> World -> Prop) : Array Goroutine -> World -> Trace -> Prop := fun gs w t => ∃ m g, K m g w /\ Beside P gs t g
theorem wgt0 {l : Lft} (h : wgt l = 0) (s : Bool) : l s = none := by
  unfold wgt at h
  cases hs : l s with
  | none => rfl
  | some vs => cases s <;> rw [hs] at h <;> simp [wg1] at h
theorem GI.done {st : Bool -> SSt} {mi : Nat -> List Nat} {q : Nat -> Nat} {gs : Array Goroutine} {w : World} {t : Trace} (hC : ChOk C) {n : Nat} {l : Lft} (h : GI P C z K vl vr st (.two n 0 l) mi q gs w t) {g : Goroutine} (hg : gs[0]? = some g) : Beside P gs t g := by
  obtain ⟨g0, hg0, hM1, hM2, hM3⟩ := h.g0
  have hl : ∀ s, l s = none := wgt0 hM2.symm
  have hgone : ∀ s, ∃ n, st s = .gone n := by
    intro s
    have := hM3 s
    rw [hl s] at this
    cases hst : st s with
    | gone n => exact ⟨n, rfl⟩
    | none => rw [hst] at this; exact this.elim
    | act n vs => rw [hst] at this; cases this
    | park v vs => rw [hst] at this; cases this
  refine ⟨hg, ⟨fun i => if i = C.ix false then (match st false with | .gone n => n | _ => 0) else if i = C.ix true then (match st true with | .gone n => n | _ => 0) else q i, fun i x hi hx => ?_, h.above⟩, h.tr.done fun s _ => h.sn s (by show (l s).isNone = true; rw [hl s]; rfl)⟩
  have side : ∀ s n, st s = .gone n -> i = C.ix s -> QuitsD P n (Deaf t i) x := by
    intro s n hs e
    have hon : (st s).on = true := by rw [hs]; rfl
    obtain ⟨g1, hg1, hS⟩ := h.gS s hon
    subst e
    rw [hx] at hg1
    obtain rfl := Option.some.inj hg1
    rw [hs] at hS
    rw [h.tr.hears _ (.inr ⟨s, hon, rfl⟩)]
    exact QuitsD.of_quitsIn hS
  by_cases hf : i = C.ix false
  . obtain ⟨n, hn⟩ := hgone false
    simp only [hf, if_true, hn]
    rw [<- hf]
    exact side false n hn hf
  . by_cases ht : i = C.ix true
    . obtain ⟨n, hn⟩ := hgone true
      simp only [ht, if_true, hn]
      rw [if_neg (hC.ne.symm), <- ht]
      exact side true n hn ht
    . simp only [hf, if_false, ht]
      exact h.old i x hi (fun s _ => by cases s; exact hf; exact ht) hx
theorem phase_go (hC : ChOk C) : ∀ (F m : Nat) (st : Bool -> SSt) (mst : MSt) (mi : Nat -> List Nat) (q : Nat -> Nat) (gs : Array Goroutine) (w : World) (t : Trace), GI P C z K vl vr st mst mi q gs w t -> big vr st mst = F -> sml st mst gs q = m -> Runs P gs w t (Done P K) := by
  intro F
  induction F using Nat.strongRecOn with
  | _ F ihF =>
  intro m
  induction m using Nat.strongRecOn with
  | _ m ihm =>
  intro st mst mi q gs w t h hF hm
  have go : ∀ st' mst' mi' q' gs' w' t', GI P C z K vl vr st' mst' mi' q' gs' w' t' -> (big vr st' mst' < F ∨ (big vr st' mst' = F /\ sml st' mst' gs' q' < m)) -> Runs P gs' w' t' (Done P K) := by
    intro st' mst' mi' q' gs' w' t' h' hlt
    rcases hlt with hlt | ⟨h1, h2⟩
    . exact ihF _ hlt _ st' mst' mi' q' gs' w' t' h' rfl rfl
    . exact ihm _ h2 st' mst' mi' q' gs' w' t' h' h1 rfl
  -- it may be done
  by_cases hdone : ∃ n l, mst = .two n 0 l /\ ∃ g, gs[0]? = some g /\ K (mi 0) g w
  . obtain ⟨n, l, rfl, g, hg, hk⟩ := hdone
    exact Runs.here ⟨mi 0, g, hk, h.done hC hg⟩
  refine Runs.step1 fun sl => ?_
  have hsome : ∃ (i : Nat) (g : Goroutine), gs[i]? = some g /\ g.status = .running := by
    obtain ⟨g0, hg0, hM⟩ := h.g0
    cases mst with
    | one n => exact ⟨0, g0, hg0, Gb.running (fun _ _ _ h => h.1) hM.1⟩
    | two n f l => exact ⟨0, g0, hg0, Gb.running (stopM_running P C z K f l) hM.1⟩
    | wait f l =>
      have : ∃ s, (l s).isSome = true := by
        refine Classical.byContradiction fun hno => ?_
        have hn : ∀ s, l s = none := fun s => Classical.byContradiction fun hs => hno ⟨s, by cases e : l s; exact absurd e hs; rfl⟩
        have := hM.2.1
        simp [wgt, hn, wg1] at this
      obtain ⟨s, hs⟩ := this
      obtain ⟨n, vs, e⟩ := hM.2.2.2 s hs
      obtain ⟨g1, hg1, hS⟩ := h.gS s (by rw [e]; rfl)
      rw [e] at hS
      exact ⟨C.ix s, g1, hg1, Gb.running (stopS_running P C s vs) hS⟩
  obtain ⟨i, g, d, sl', hi, hrun, hst⟩ := crowd_pick (P := P) (w := w) (sl := sl) h.awake hsome
  rw [hst]
  have hback : Rel C (mi 0) (w.at d) w := ⟨rfl, rfl, rfl, Nat.le_refl _, fun _ _ => rfl⟩
  replace h := h.at d
  clear hst
  revert h hback
  generalize w.at d = w'
  revert hdone
  generalize w = w0
  intro hdone hback h
  revert hback h
  generalize w' = w
  intro hback h
  have hlt := (Array.getElem?_eq_some_iff.1 hi).1
  by_cases hp : Part C (fun s => (st s).on) i
  . rcases hp with rfl | ⟨s, hon, rfl⟩
    . obtain ⟨g0, hg0, hM⟩ := h.g0
      rw [hi] at hg0
      obtain rfl := Option.some.inj hg0
      have hother : ∀ {w' : World} {es : Array Event} (hgua : Gua C (mi 0) w w' es) (g' : Goroutine) (s : Bool) (g1 : Goroutine), (st s).on = true -> (if C.ix s = 0 then some g' else gs[C.ix s]?) = some g1 -> SideOk P C s (upd mi 0 (grow (mi 0) w w') (C.ix s)) g1 w' (st s) := by
        intro w' es hgua g' s g1 hs hg1
        rw [if_neg (hC.ix0 s)] at hg1
        obtain ⟨g2, hg2, hS⟩ := h.gS s hs
        rw [hg1] at hg2
        obtain rfl := Option.some.inj hg2
        rw [upd_ne _ _ (hC.ix0 s)]
        exact hS.rel (hgua.rel h.base (h.mine _) (h.mine _) (h.ap _ _ (hC.ix0 s)))
      cases mst with
      | one n =>
        rcases hM.1.cases with hstop | ⟨n', rfl, _, g', w', es, hgo, _, hgua, hgb⟩
        . obtain ⟨_, g', child, hsp, hS, hMS⟩ := hstop w (.refl ..)
          have hrunT := runT_crowd_spawn (P := P) (sl := sl') (i := 0) hi (show stepG P (0 == 0) g w = _ from hsp)
          obtain ⟨n1, n2, f, l, hGI, hl⟩ := h.spawn2 hC hS hMS g.frame.fn child.frame.fn g.frame.place g.frame.place
          refine ⟨_, _, _, _, hrunT, go _ _ _ _ _ _ _ (by
            have e : t ++ ((MemOp.ofEvents 0 g.frame.fn g.frame.place #[]).push { g := 0, fn := g.frame.fn, pos := g.frame.place, act := .go gs.size } |>.push { g := gs.size, fn := child.frame.fn, pos := g.frame.place, act := .start }) = t ++ #[{ g := 0, fn := g.frame.fn, pos := g.frame.place, act := .go gs.size }] ++ #[{ g := gs.size, fn := child.frame.fn, pos := g.frame.place, act := .start }] := by
              apply Array.ext'
              simp [ofEvents_eq]
            rw [e]; exact hGI) (.inl ?_)⟩
          have hs := sum_setS (wS vr) st true (.act n1 vr)
          rw [hM.2.1] at hs
          have hw : wM (.two n2 f l) = 2 := by
            have h1 := hl false
            have h2 := hl true
            show (if (l false).isNone = true then 0 else 1) + (if (l true).isNone = true then 0 else 1) = 2
            cases e1 : l false with
            | none => rw [e1] at h1; cases h1
            | some x => cases e2 : l true with
              | none => rw [e2] at h2; cases h2
              | some y => rfl
          have hw1 : wM (.one n) = 2 := rfl
          have w1 : wS vr .none = 2 * vr.length + 4 := rfl
          have w2 : wS vr (.act n1 vr) = 2 * vr.length + 3 := rfl
          unfold big at hF ⊢
          rw [hM.2.1] at hF
          omega
        . have hrunT := runT_crowd_go (P := P) (sl := sl') (i := 0) hi (show stepG P (0 == 0) g w = _ from hgo)
          refine ⟨_, _, _, _, hrunT, go st (.one n') _ q _ _ _ (h.own hC (.inl rfl) (fun s _ e => hC.ix0 s e.symm) hgua (fun _ => rfl) (fun _ => rfl) (fun _ => rfl) (fun g0 e => ?_) (hother hgua g')) (.inr ⟨hF, ?_⟩)⟩
          . rw [if_pos rfl] at e
            obtain rfl := Option.some.inj e
            rw [upd_same]
            exact ⟨hgb, hM.2⟩
          . unfold sml at hm ⊢
            simp only [mM, Array.size_setIfInBounds, Array.size_map] at hm ⊢
            omega
      | two n f l =>
        rcases hM.1.cases with hstop | ⟨n', rfl, _, g', w', es, hgo, _, hgua, hgb⟩
        . cases f with
          | zero => exact absurd ⟨n, l, rfl, g, hi, (hstop w0 hback).2⟩ hdone
          | succ f =>
            obtain ⟨_, hcomm, hN⟩ := hstop w (.refl ..)
            have hrunC := runT_crowd_comm (P := P) (sl := sl') (i := 0) hi (show stepG P (0 == 0) g w = _ from hcomm)
            have hnil : MemOp.ofEvents 0 g.frame.fn g.frame.place #[] = #[] := by simp [ofEvents_eq]
            rcases sel_pick hC h (crowd gs w sl').rest (core g) with ⟨hact, hno⟩ | ⟨s, d', y, hrdy, hls, y1, y2, y3, y4, hcq⟩
            . have hrunT := crowd_waits (P := P) (sl := sl') (i := 0) hi (show stepG P (0 == 0) g w = _ from hcomm) hno
              refine ⟨_, _, _, _, hrunT, ?_⟩
              rw [hnil, Array.append_empty]
              refine go _ _ _ _ _ _ _ (h.parkM hC hstop hact) (.inr ⟨?_, ?_⟩)
              . rw [<- hF]; rfl
              . unfold sml at hm ⊢
                simp only [mM, Array.size_setIfInBounds] at hm ⊢
                omega
            . have hd : GI P C z K vl vr st (.two n (f + 1) l) mi q gs (w.at d') t := h.at d'
              have hNd : Nexts z l (MScr P C z K f) (mi 0) (core g) (w.at d') := hN.rel (.at ..)
              rcases hrdy with ⟨v, vs, hpk, hpart⟩ | ⟨hclo, hway⟩
              . have hon : (st s).on = true := by rw [hpk]; rfl
                obtain ⟨g1, hg1, hS⟩ := hd.gS s hon
                rw [hpk] at hS
                obtain ⟨g₂, zz, rfl, hsn⟩ := hS
                obtain ⟨a, b, hc⟩ := hd.chan s
                rw [hpk] at hc
                have hres := comm_meets (P := P) (rest := (crowd gs w sl').rest) (i := 0) (g := core g) (w := w.at d') s rfl ⟨y1, y2⟩ ⟨y3, y4⟩ hc (stand_get (i := 0) (hC.ix0 s) hg1) hpart
                rw [hcq, hres, hnil] at hrunC
                have hlsv : l s = some (v :: vs) := by have := hM.2.2 s; rw [hpk] at this; exact this
                have hixlt := (Array.getElem?_eq_some_iff.1 hg1).1
                have hsh : ((gs.setIfInBounds 0 ph).setIfInBounds (C.ix s) (Conc.served g₂ undef)).setIfInBounds 0 (Conc.served (core g) (tup z s v true)) = (gs.setIfInBounds (C.ix s) (Conc.served g₂ undef)).setIfInBounds 0 (Conc.served (core g) (tup z s v true)) := set_stand2 gs 0 (C.ix s) _ _
                rw [hsh] at hrunC
                obtain ⟨n1, n2, hGI⟩ := hd.meet (gs' := (gs.setIfInBounds (C.ix s) (Conc.served g₂ undef)).setIfInBounds 0 (Conc.served (core g) (tup z s v true))) hC hon (by rw [hpk]; rfl) hlsv hM.2.2 hM.2.1 (fun _ => rfl) hsn hNd (a := a) (b := b) g₂.frame.fn (core g).frame.fn g₂.frame.place (core g).frame.place (by simp) (fun j => by
                  rw [getElem?_set2 (by simpa using hlt), getElem?_set2 hixlt]
                  by_cases h1 : j = 0
                  . subst h1; rw [if_pos rfl, if_neg (fun e => hC.ix0 s e.symm), if_pos rfl]
                  . rw [if_neg h1, if_neg h1])
                refine ⟨_, _, _, _, hrunC, go _ _ _ _ _ _ _ (by rw [Array.empty_append]; exact hGI) (.inl ?_)⟩
                have hs := sum_setS (wS vr) st s (.act n1 vs)
                rw [hpk] at hs
                have w1 : wS vr (.park v vs) = 2 * vs.length + 4 := rfl
                have w2 : wS vr (.act n1 vs) = 2 * vs.length + 3 := rfl
                have hwm : wM (.two n2 f (setL l s (some vs))) = wM (.two n (f + 1) l) := wM_eq fun s' => by
                  show (setL l s (some vs) s').isNone = (l s').isNone
                  by_cases hss : s' = s
                  . subst hss; simp [setL, hlsv]
                  . simp [setL, hss]
                unfold big at hF ⊢
                omega
              . have hres := comm_closed (P := P) (rest := (crowd gs w sl').rest) (i := 0) (g := core g) (w := w.at d') s rfl ⟨y1, y2⟩ ⟨y3, y4⟩ (by obtain ⟨a, b, hc⟩ := hd.chan s; exact made_recv z hc) hway
                rw [hcq, hres, hnil, set_stand] at hrunC
                have hlsn : l s = some [] := by
                  have := hM.2.2 s
                  cases hst' : st s with
                  | gone k =>
                    rw [hst'] at this
                    rcases this with e | e
                    . exact e
                    . rw [e] at hls; cases hls
                  | _ => rw [hst'] at hclo; cases hclo
                obtain ⟨n2, hGI⟩ := hd.seeM hC hclo hlsn hNd (core g).frame.fn (core g).frame.place
                refine ⟨_, _, _, _, hrunC, go _ _ _ _ _ _ _ (by rw [Array.empty_append]; exact hGI) (.inl ?_)⟩
                have hwm : wM (.two n2 f (setL l s none)) < wM (.two n (f + 1) l) := by
                  show (if (setL l s none false).isNone = true then 0 else 1) + (if (setL l s none true).isNone = true then 0 else 1) < (if (l false).isNone = true then 0 else 1) + (if (l true).isNone = true then 0 else 1)
                  cases s <;> simp [setL, hlsn]
                unfold big at hF ⊢
                omega
        . have hrunT := runT_crowd_go (P := P) (sl := sl') (i := 0) hi (show stepG P (0 == 0) g w = _ from hgo)
          refine ⟨_, _, _, _, hrunT, go st (.two n' f l) _ q _ _ _ (h.own hC (.inl rfl) (fun s _ e => hC.ix0 s e.symm) hgua (fun _ => rfl) (fun _ => rfl) (fun _ => rfl) (fun g0 e => ?_) (hother hgua g')) (.inr ⟨hF, ?_⟩)⟩
          . rw [if_pos rfl] at e
            obtain rfl := Option.some.inj e
            rw [upd_same]
            exact ⟨hgb, hM.2⟩
          . unfold sml at hm ⊢
            simp only [mM, Array.size_setIfInBounds, Array.size_map] at hm ⊢
            omega
      | wait f l =>
        obtain ⟨⟨g₁, rfl, _⟩, _⟩ := hM
        cases hrun
    . obtain ⟨g1, hg1, hS⟩ := h.gS s hon
      rw [hi] at hg1
      obtain rfl := Option.some.inj hg1
      have hi0 : (C.ix s == 0) = false := by simp; exact hC.ix0 s
      obtain ⟨g0, hg0, hM⟩ := h.g0
      cases hst' : st s with
      | none => simp only [hst'] at hon; cases hon
      | act n vs =>
        rw [hst'] at hS
        rcases hS.cases with hstop | ⟨n', rfl, _, g', w', es, hgo, _, hgua, hgb⟩
        . cases vs with
          | nil =>
            obtain ⟨_, hmw, g₂, n', hcl, hq⟩ := hstop w (.refl ..)
            obtain ⟨a, b, hc⟩ := h.chan s
            rw [hst'] at hc
            have hgo := hcl a b false hc
            have hrunT := runT_crowd_go (P := P) (sl := sl') (i := C.ix s) hi (by rw [hi0]; exact hgo)
            refine ⟨_, _, _, _, hrunT, go _ _ _ _ _ _ _ (h.closeS hC hst' hi hmw hq g.frame.fn g.frame.place) (.inl ?_)⟩
            have hs := sum_setS (wS vr) st s (.gone n')
            rw [hst'] at hs
            have w1 : wS vr (.act n []) = 3 := rfl
            have w2 : wS vr (.gone n') = 0 := rfl
            have hwm : wM (wakeM mst) = wM mst := wM_eq (wakeM_seen mst)
            unfold big at hF ⊢
            omega
          | cons v vs =>
            obtain ⟨_, g₂, zz, hcomm, hsn⟩ := hstop w (.refl ..)
            obtain ⟨a, b, hc⟩ := h.chan s
            rw [hst'] at hc
            have hcomm' : stepG P (C.ix s == 0) g w = .comm g₂ #[scase (C.c s) v zz] true .send w #[] := by rw [hi0]; exact hcomm
            have hnil : MemOp.ofEvents (C.ix s) g.frame.fn g.frame.place #[] = #[] := by simp [ofEvents_eq]
            by_cases hwt : ∃ f l, mst = .wait f l
            . obtain ⟨f, l, rfl⟩ := hwt
              obtain ⟨⟨g₁, rfl, hsel⟩, hM2, hM3, hM4⟩ := hM
              have hlsv : l s = some (v :: vs) := (hM3 s).some hst'
              have hk : (mcases C l z)[(if s then 1 else 0 : Nat)]? = some (rcase (C.c s) z) := by cases s <;> simp [mcases, mcase, hlsv]
              have hoth : ∀ (k' : Nat) (cc : CommCase), k' ≠ (if s then 1 else 0 : Nat) -> (mcases C l z)[k']? = some cc -> cc.chan ≠ .chan (some (C.c s)) := by
                intro k' cc hk' hcc
                have hc2 := hC.two
                have key : ∀ s', s' ≠ s -> (mcase C l z s').chan ≠ .chan (some (C.c s)) := by
                  intro s' hss
                  unfold mcase
                  split
                  . intro e
                    simp only [rcase, Value.chan.injEq, Option.some.injEq] at e
                    exact hC.c_ne hss e
                  . intro e; simp [rcaseNil] at e
                rcases k' with _ | _ | k'
                . simp only [mcases, List.getElem?_toArray, List.getElem?_cons_zero, Option.some.injEq] at hcc
                  subst hcc
                  cases s with
                  | false => exact absurd rfl hk'
                  | true => exact key false (by simp)
                . simp only [mcases, List.getElem?_toArray, List.getElem?_cons_succ, List.getElem?_cons_zero, Option.some.injEq] at hcc
                  subst hcc
                  cases s with
                  | false => exact key true (by simp)
                  | true => exact absurd rfl hk'
                . simp [mcases] at hcc
              have hg0' := stand_get (i := C.ix s) (fun e => hC.ix0 s e.symm) hg0
              have hpart : partners (gs.setIfInBounds (C.ix s) ph) (C.c s) false = [(0, (if s then 1 else 0 : Nat))] := by
                rw [partners_one hg0' (fun j y hj hy => by
                  rcases getElem?_stand gs (C.ix s) j y hy with ⟨_, rfl⟩ | ⟨_, hy'⟩
                  . rfl
                  . exact h.recvOff hy' hj), offersAt_parked_at hk hoth]
                rfl
              have hrunT := crowd_send_meets_sel (P := P) (sl := sl') (i := C.ix s) (j := 0) hi hcomm' hc (fun e => hC.ix0 s e.symm) hg0 hk hpart
              have hfin : (core g₁).finishComm P (mcases C l z) .select ((if s then 1 else 0 : Nat) : Int) v true = Conc.served (core g₁) (tup z s v true) := by
                have hz : ∀ s, (mcase C l z s).send = none /\ (mcase C l z s).zero = z := by intro s; unfold mcase; split <;> exact ⟨rfl, rfl⟩
                have e2 : mcases C l z = two (mcase C l z s) (mcase C l z (!s)) s := by cases s <;> rfl
                unfold Goroutine.finishComm
                rw [e2, two_res _ _ (hz s) (hz (!s)) s v true]
                rfl
              rw [hfin, finishComm_send, hnil, Array.empty_append] at hrunT
              obtain ⟨n1, n2, hGI⟩ := h.meet (gs' := (gs.setIfInBounds 0 (Conc.served (core g₁) (tup z s v true))).setIfInBounds (C.ix s) (Conc.served g₂ undef)) hC hon (by rw [hst']; rfl) hlsv hM3 hM2 (fun _ => rfl) hsn (hsel w (.refl ..)).2.2 (a := a) (b := b) g₂.frame.fn (core g₁).frame.fn g₂.frame.place (core g₁).frame.place (by simp) (fun j => by
                rw [getElem?_set2 (by simpa using hlt), getElem?_set2 h.lt0])
              refine ⟨_, _, _, _, hrunT, go _ _ _ _ _ _ _ hGI (.inl ?_)⟩
              have hs := sum_setS (wS vr) st s (.act n1 vs)
              rw [hst'] at hs
              have w1 : wS vr (.act n (v :: vs)) = 2 * (vs.length + 1) + 3 := rfl
              have w2 : wS vr (.act n1 vs) = 2 * vs.length + 3 := rfl
              have hwm : wM (.two n2 f (setL l s (some vs))) = wM (.wait f l) := wM_eq fun s' => by
                show (setL l s (some vs) s').isNone = (l s').isNone
                by_cases hss : s' = s
                . subst hss; simp [setL, hlsv]
                . simp [setL, hss]
              unfold big at hF ⊢
              omega
            . have hrn : g0.status = .running := by
                cases mst with
                | one n => exact Gb.running (fun _ _ _ h => h.1) hM.1
                | two n f l => exact Gb.running (stopM_running P C z K f l) hM.1
                | wait f l => exact absurd ⟨f, l, rfl⟩ hwt
              have hpart : partners (gs.setIfInBounds (C.ix s) ph) (C.c s) false = [] := partners_nil fun j y hy => by
                rcases getElem?_stand gs (C.ix s) j y hy with ⟨_, rfl⟩ | ⟨_, hy'⟩
                . rfl
                . by_cases hj : j = 0
                  . subst hj
                    rw [hg0] at hy'
                    obtain rfl := Option.some.inj hy'
                    exact offersAt_of_not_blocked (by rw [hrn]; simp) _ _
                  . exact h.recvOff hy' hj
              have hrunT := crowd_waits (P := P) (sl := sl') (i := C.ix s) hi hcomm' (fun cc hcc => by
                obtain rfl : cc = scase (C.c s) v zz := by simpa using hcc
                exact ways_send_none hc (Nat.le_refl _) hpart)
              refine ⟨_, _, _, _, hrunT, ?_⟩
              rw [hnil, Array.append_empty]
              refine go _ _ _ _ _ _ _ (h.parkS hC hst' (fun f l e => hwt ⟨f, l, e⟩) hsn) (.inl ?_)
              have hs := sum_setS (wS vr) st s (.park v vs)
              rw [hst'] at hs
              have w1 : wS vr (.act n (v :: vs)) = 2 * (vs.length + 1) + 3 := rfl
              have w2 : wS vr (.park v vs) = 2 * vs.length + 4 := rfl
              unfold big at hF ⊢
              omega
        . have hrunT := runT_crowd_go (P := P) (sl := sl') (i := C.ix s) hi (by rw [hi0]; exact hgo)
          have hset : ∀ s', (setS st s (.act n' vs) s').on = (st s').on /\ (setS st s (.act n' vs) s').closed = (st s').closed := by
            intro s'
            by_cases hss : s' = s
            . subst hss; rw [setS_same, hst']; exact ⟨rfl, rfl⟩
            . rw [setS_ne _ hss]; exact ⟨rfl, rfl⟩
          refine ⟨_, _, _, _, hrunT, go (setS st s (.act n' vs)) mst _ q _ _ _ (h.own hC (.inr ⟨s, hon, rfl⟩) (fun s' hc e => ?_) hgua (fun s' => (hset s').1) (fun s' => (hset s').2) (fun _ => rfl) (fun g0' e => ?_) (fun s' g1 hs' e => ?_)) (.inr ⟨?_, ?_⟩)⟩
          . by_cases hss : s' = s
            . subst hss; rw [hst'] at hc; cases hc
            . exact hC.ix_ne hss e.symm
          . rw [if_neg (fun e => hC.ix0 s e.symm), hg0] at e
            obtain rfl := Option.some.inj e
            rw [upd_ne _ _ (fun e => hC.ix0 s e.symm)]
            exact (hM.rel (hgua.rel h.base (h.mine _) (h.mine _) (h.ap _ _ (fun e => hC.ix0 s e.symm)))).setS hon (fun y hy => by rw [hst'] at hy; exact hy) fun _ _ _ _ => ⟨n', vs, rfl⟩
          . by_cases hss : s' = s
            . subst hss
              rw [if_pos rfl] at e
              obtain rfl := Option.some.inj e
              rw [upd_same, setS_same]
              exact hgb
            . rw [if_neg (hC.ix_ne hss)] at e
              obtain ⟨g2, hg2, hS2⟩ := h.gS s' hs'
              rw [e] at hg2
              obtain rfl := Option.some.inj hg2
              rw [upd_ne _ _ (hC.ix_ne hss), setS_ne _ hss]
              exact hS2.rel (hgua.rel h.base (h.mine _) (h.mine _) (h.ap _ _ (hC.ix_ne hss)))
          . have := sum_setS (wS vr) st s (.act n' vs)
            rw [hst'] at this
            have w1 : wS vr (.act (n' + 1) vs) = wS vr (.act n' vs) := rfl
            unfold big at hF ⊢
            omega
          . have := sum_setS mS st s (.act n' vs)
            rw [hst'] at this
            have w1 : mS (.act (n' + 1) vs) = n' + 2 := rfl
            have w2 : mS (.act n' vs) = n' + 1 := rfl
            unfold sml at hm ⊢
            simp only [Array.size_setIfInBounds, Array.size_map]
            omega
      | park v vs => rw [hst'] at hS; obtain ⟨g₂, zz, rfl, _⟩ := hS; cases hrun
      | gone n =>
        rw [hst'] at hS
        cases n with
        | zero => rw [show g.status = .finished from hS] at hrun; cases hrun
        | succ n =>
          rcases hS with hf | ⟨_, g', hstp, hq⟩
          . rw [hf] at hrun; cases hrun
          . have hrunT := runT_crowd_go (P := P) (sl := sl') (i := C.ix s) hi (by rw [hi0]; exact hstp w)
            have e : t ++ MemOp.ofEvents (C.ix s) g.frame.fn g.frame.place #[] = t := by simp [ofEvents_eq]
            refine ⟨_, _, _, _, hrunT, ?_⟩
            rw [e]
            refine go _ _ _ _ _ _ _ (h.quit hC hst' hi hq) (.inr ⟨?_, ?_⟩)
            . have := sum_setS (wS vr) st s (.gone n)
              rw [hst'] at this
              have w1 : wS vr (.gone (n + 1)) = 0 := rfl
              have w2 : wS vr (.gone n) = 0 := rfl
              unfold big at hF ⊢
              omega
            . have := sum_setS mS st s (.gone n)
              rw [hst'] at this
              have w1 : mS (.gone (n + 1)) = n + 1 := rfl
              have w2 : mS (.gone n) = n := rfl
              unfold sml at hm ⊢
              simp only [Array.size_setIfInBounds, Array.size_map]
              omega
  . -- a leaver slips
    have hpos : 0 < i := Nat.pos_of_ne_zero fun e => hp (.inl e)
    have hq := h.old i g hpos (fun s hs e => hp (.inr ⟨s, hs, e⟩)) hi
    have hi0 : (i == 0) = false := by simp; omega
    cases hqi : q i with
    | zero => rw [hqi] at hq; rw [hq.1] at hrun; cases hrun
    | succ k =>
      rw [hqi] at hq
      rcases hq with ⟨hf, _⟩ | ⟨_, g', es, hmu, hstp, hq'⟩
      . rw [hf] at hrun; cases hrun
      have hrunT := runT_crowd_go (P := P) (sl := sl') (i := i) hi (by rw [hi0]; exact hstp w)
      refine ⟨_, _, _, _, hrunT, go _ _ _ _ _ _ _ (h.leaver hi hp hmu hq') (.inr ⟨hF, ?_⟩)⟩
      have hsum : sumTo gs.size (upd q i k) + (k + 1) = sumTo gs.size q + k := by
        have := sumTo_upd q k id hlt
        simpa [hqi] using this
      unfold sml at hm ⊢
      have hsz : ((gs.map (woken P g g' w)).setIfInBounds i g').size = gs.size := by simp
      rw [hsz]
      omega
def st1 (n : Nat) (vl : List Value) : Bool -> SSt
  | true => .none
  | false => .act n vl
theorem phase (hC : ChOk C) {gs : Array Goroutine} {w : World} {t : Trace} {a a' child : Goroutine} (hb : Beside P gs t a) (hix : C.ix false = gs.size /\ C.ix true = gs.size + 1) (hbase : C.base <= w.heap.size)
    (hchan : ∀ s, w.heap[C.c s]? = some (.chan 0 #[] false 0 0 false)) (hrun : a.status = .running)
    (hsp : ∀ d, stepG P true a (w.at d) = .spawn a' child (w.at d) #[]) (hS : Snd P C false vl [] child w) (hM : ∃ n, Gb P C true (AtGo2 P C z K vl vr) n [] a' w) : Runs P gs w t (Done P K) := by
  refine beside_turn hrun gs.size (fun d gs t sl hn hB => ?_) gs t rfl hb
  obtain ⟨h0, ⟨q, hL⟩, hP⟩ := hB
  rw [<- hn] at hix
  have hrunT := runT_crowd_spawn (P := P) (sl := sl) (i := 0) h0 (show stepG P (0 == 0) a (w.at d) = _ from hsp d)
  have hlt : 0 < gs.size := (Array.getElem?_eq_some_iff.1 h0).1
  refine ⟨_, _, _, _, hrunT, ?_⟩
  have e : t ++ ((MemOp.ofEvents 0 a.frame.fn a.frame.place #[]).push { g := 0, fn := a.frame.fn, pos := a.frame.place, act := .go gs.size } |>.push { g := gs.size, fn := child.frame.fn, pos := a.frame.place, act := .start }) = t ++ #[{ g := 0, fn := a.frame.fn, pos := a.frame.place, act := .go gs.size }] ++ #[{ g := gs.size, fn := child.frame.fn, pos := a.frame.place, act := .start }] := by
    apply Array.ext'
    simp [ofEvents_eq]
  rw [e]
  obtain ⟨n1, hn1⟩ := (snd_iff ..).1 (hS.rel (.at C [] w d))
  obtain ⟨n2, hn2⟩ := hM
  have get : ∀ j, ((gs.setIfInBounds 0 a').push child)[j]? = if j = gs.size then some child else if j = 0 then some a' else gs[j]? := by
    intro j
    rw [Array.getElem?_push, Array.size_setIfInBounds, getElem?_set2 hlt]
  have hdt : Deaf t (C.ix false) = 0 := hL.above _ (by rw [hix.1]; exact Nat.le_refl _)
  have htr := (TrI.begin (C := C) hP (fun _ => [])).spawn (s := false) rfl hdt (hC.ix0 false) (x := { g := 0, fn := a.frame.fn, pos := a.frame.place, act := .go gs.size }) (y := { g := gs.size, fn := child.frame.fn, pos := a.frame.place, act := .start }) ⟨rfl, by rw [hix.1]⟩ ⟨hix.1.symm, rfl⟩
  have hsil : ∀ op ∈ (#[{ g := 0, fn := a.frame.fn, pos := a.frame.place, act := .go gs.size }] ++ #[{ g := gs.size, fn := child.frame.fn, pos := a.frame.place, act := .start }] : Trace), op.act ≠ .mark .disable /\ op.act ≠ .mark .enable := by
    intro op hop
    simp only [Array.mem_append, List.mem_toArray, List.mem_cons, List.not_mem_nil, or_false] at hop
    rcases hop with rfl | rfl <;> exact ⟨by simp, by simp⟩
  have hdeaf : ∀ j, Deaf (t ++ #[{ g := 0, fn := a.frame.fn, pos := a.frame.place, act := .go gs.size }] ++ #[{ g := gs.size, fn := child.frame.fn, pos := a.frame.place, act := .start }]) j = Deaf t j := by
    intro j
    rw [Array.append_assoc]
    exact Deaf_still _ _ _ hsil
  have hsz : ((gs.setIfInBounds 0 a').push child).size = gs.size + 1 := by simp
  have eon : (fun s => (st1 n1 vl s).on) = (fun s' => if s' = false then true else (fun _ => false) s') := by
    funext s
    cases s <;> rfl
  refine phase_go (z := z) (vl := vl) (vr := vr) hC _ _ (st1 n1 vl) (.one n2) (fun _ => []) q _ _ _ ⟨hbase, (fun x b hb => by cases hb), (fun x y _ b hb => by cases hb), fun s => ?_, ?_, fun s hs => ?_, fun _ => ⟨by rw [hsz]; exact hix.2, rfl, rfl⟩, fun i y hi hne hy => ?_, fun j hj => ?_, by rw [eon]; exact htr, fun s hs => ?_, fun s hs => ?_⟩ rfl rfl
  . refine ⟨0, 0, ?_⟩
    have hcl : (st1 n1 vl s).closed = false := by cases s <;> rfl
    rw [hcl]
    exact hchan s
  . exact ⟨a', by rw [get, if_neg (by omega), if_pos rfl], hn2.rel (.at ..), rfl, rfl⟩
  . cases s with
    | true => cases hs
    | false => exact ⟨child, by rw [get, if_pos hix.1], hn1⟩
  . have h1 := hne false rfl
    rw [get, if_neg (by rw [<- hix.1]; exact h1), if_neg (by omega)] at hy
    rw [hdeaf]
    exact hL.old i y hi hy
  . rw [hdeaf]
    exact hL.above j (by rw [hsz] at hj; omega)
  . cases s <;> cases hs
  . cases hs
end Go.Proofs.YtcpldcojckhapaaGreat

namespace Go.Proofs.YtcpldcojckhapaaGreat
open Go.Conc
open Go.ConcN (sumTo upd sumTo_upd upd_ne upd_same)
variable {P : Program} {C : Ch} {main : Bool}
theorem grow_self (mine : List Nat) (w : World) : grow mine w w = mine := by simp [grow]
theorem Gua.idle (C : Ch) (mine : List Nat) (w : World) : Gua C mine w w #[] := ⟨rfl, rfl, rfl, Nat.le_refl _, fun _ _ _ => rfl, by simp⟩
section
variable {Stop : List Nat -> Goroutine -> World -> Prop} {n n' : Nat} {mine : List Nat} {g g' : Goroutine} {w : World}
theorem Gb.more (h : Gb P C main Stop n mine g w) : Gb P C main Stop (n + 1) mine g w := by
  induction n generalizing mine g w with
  | zero => exact .inl h
  | succ n ih =>
    rcases h with h | ⟨h1, h2⟩
    . exact .inl h
    . refine .inr ⟨h1, fun w₁ h₁ => ?_⟩
      obtain ⟨g', w', es, q1, q2, q3, q4⟩ := h2 w₁ h₁
      exact ⟨g', w', es, q1, q2, q3, ih q4⟩
theorem Gb.mono (h : Gb P C main Stop n mine g w) (hn : n <= n') : Gb P C main Stop n' mine g w := by
  induction hn with
  | refl => exact h
  | step _ ih => exact ih.more
theorem Gb.stop (h : ∀ w₁, Rel C mine w w₁ -> Stop mine g w₁) : Gb P C main Stop n mine g w := by
  cases n with
  | zero => exact h
  | succ n => exact .inl h
theorem Gb.ctl (hr : g.status = .running) (hr' : g'.status = .running) (hs : ∀ w, stepG P main g w = .go g' w #[]) (h : Gb P C main Stop n mine g' w) : Gb P C main Stop (n + 1) mine g w :=
  .inr ⟨hr, fun w₁ h₁ => ⟨g', w₁, #[], hs w₁, hr', .idle .., by rw [grow_self]; exact h.rel h₁⟩⟩
end
def AfterB (P : Program) (C : Ch) (main : Bool) (Stop : List Nat -> Goroutine -> World -> Prop) (m : Nat) (b : Frame) (k : List Item) (cs : List Frame) : Exit -> Act -> List Nat -> World -> Prop
  | .normal, a, mine, w => Gb P C main Stop m mine (G (b.at a k) cs) w
  | .exit id, a, mine, w => ∃ k', exitTo id k = some k' /\ Gb P C main Stop m mine (G (b.at a k') cs) w
  | .ret, a, mine, w => ∀ todo, Gb P C main Stop m mine (G { b.at a todo with mode := .returning } cs) w
  | _, _, _, _ => False
theorem AfterB.mono {Stop : List Nat -> Goroutine -> World -> Prop} {m m' : Nat} {b : Frame} {k : List Item} {cs : List Frame} {e : Exit} {a : Act} {mine : List Nat} {w : World} (h : AfterB P C main Stop m b k cs e a mine w) (hm : m <= m') : AfterB P C main Stop m' b k cs e a mine w := by
  cases e with
  | normal => exact Gb.mono h hm
  | exit id => obtain ⟨k', hk, hg⟩ := h; exact ⟨k', hk, hg.mono hm⟩
  | ret => exact fun todo => (h todo).mono hm
  | _ => exact h
theorem AfterB.push {Stop : List Nat -> Goroutine -> World -> Prop} {m : Nat} {b : Frame} {x : Item} {k : List Item} {cs : List Frame} {e : Exit} {a : Act} {mine : List Nat} {w : World} (hx : x.plain = true) (he : e ≠ .normal)
    (h : AfterB P C main Stop m b k cs e a mine w) : AfterB P C main Stop m b (x :: k) cs e a mine w := by
  cases e with
  | normal => exact absurd rfl he
  | exit id => obtain ⟨k', hk, hg⟩ := h; exact ⟨k', by cases x <;> simp_all [exitTo, Item.plain], hg⟩
  | ret => exact h
  | _ => exact h
abbrev PostB := Exit -> Act -> List Nat -> World -> Prop
def WpB (P : Program) (C : Ch) (main : Bool) (fn : FuncId) (c : Code) (n : Nat) (Q : PostB) (a : Act) (mine : List Nat) (w : World) : Prop :=
  ∀ (b : Frame) (k : List Item) (cs : List Frame) (Stop : List Nat -> Goroutine -> World -> Prop) (m : Nat), b.fn = fn -> b.kind ≠ .early ->
    (∀ e a' mine' w', Q e a' mine' w' -> AfterB P C main Stop m b k cs e a' mine' w') -> Gb P C main Stop (m + n) mine (G (b.at a (.code c :: k)) cs) w
def OpsB (P : Program) (C : Ch) (main : Bool) (fn : FuncId) (ops : Array Oper) (todo : List Nat) (n : Nat) (Q : PostB) (a : Act) (mine : List Nat) (w : World) : Prop :=
  ∀ (b : Frame) (k : List Item) (cs : List Frame) (Stop : List Nat -> Goroutine -> World -> Prop) (m : Nat), b.fn = fn -> b.kind ≠ .early ->
    (∀ e a' mine' w', Q e a' mine' w' -> AfterB P C main Stop m b k cs e a' mine' w') -> Gb P C main Stop (m + n) mine (G (b.at a (.inRegion ops todo :: k)) cs) w
def thenB (N : Act -> List Nat -> World -> Prop) (Q : PostB) : PostB
  | .normal, a, mine, w => N a mine w
  | e, a, mine, w => Q e a mine w
def inBlockB (id : Nat) (Q : PostB) : PostB
  | .exit id', a, mine, w => if id' = id then Q .normal a mine w else Q (.exit id') a mine w
  | e, a, mine, w => Q e a mine w
section rules
variable {fn : FuncId} {Q : PostB} {a : Act} {mine : List Nat} {w : World}
theorem wpB_more {c : Code} {n n' : Nat} (h : WpB P C main fn c n Q a mine w) (hn : n <= n') : WpB P C main fn c n' Q a mine w :=
  fun b k cs Stop m hb hk hc => (h b k cs Stop m hb hk hc).mono (by omega)
theorem wpB_mono {c : Code} {n : Nat} {Q' : PostB} (h : WpB P C main fn c n Q a mine w) (hq : ∀ e a m w, Q e a m w -> Q' e a m w) : WpB P C main fn c n Q' a mine w :=
  fun b k cs Stop m hb hk hc => h b k cs Stop m hb hk fun e a' m' w' q => hc e a' m' w' (hq e a' m' w' q)
theorem wpB_rel {c : Code} {n : Nat} {w₁ : World} (h : WpB P C main fn c n Q a mine w) (hr : Rel C mine w w₁) : WpB P C main fn c n Q a mine w₁ :=
  fun b k cs Stop m hb hk hc => (h b k cs Stop m hb hk hc).rel hr
theorem wpB_skip (h : Q .normal a mine w) : WpB P C main fn .skip 1 Q a mine w := fun _ _ _ _ _ _ _ hc => Gb.ctl rfl rfl (fun _ => stepG_skip) (hc _ _ _ _ h)
theorem wpB_ret (h : Q .ret a mine w) : WpB P C main fn .ret 1 Q a mine w := fun _ _ _ _ _ _ _ hc => Gb.ctl rfl rfl (fun _ => stepG_ret') (hc _ _ _ _ h _)
theorem wpB_exit {id : Nat} (h : Q (.exit id) a mine w) : WpB P C main fn (.exit id) 1 Q a mine w := fun b k cs Stop m _ _ hc => by
  obtain ⟨k', hk', hg⟩ := hc _ _ _ _ h
  exact Gb.ctl rfl rfl (fun _ => stepG_exit hk') hg
theorem wpB_seq {x y : Code} {n₁ n₂ : Nat} (h : WpB P C main fn x n₁ (thenB (fun a' m' w' => WpB P C main fn y n₂ Q a' m' w') Q) a mine w) : WpB P C main fn (.seq x y) (n₁ + n₂ + 1) Q a mine w := by
  intro b k cs Stop m hb hk hc
  have hx : Gb P C main Stop (m + n₂ + n₁) mine (G (b.at a (.code x :: .code y :: k)) cs) w := by
    refine h b (.code y :: k) cs Stop (m + n₂) hb hk fun e a' m' w' q => ?_
    cases e with
    | normal => exact q b k cs Stop m hb hk hc
    | exit id => exact ((hc _ _ _ _ q).mono (Nat.le_add_right _ _)).push rfl (by simp)
    | ret => exact ((hc _ _ _ _ q).mono (Nat.le_add_right _ _)).push (x := .code y) rfl (by simp)
    | _ => exact hc _ _ _ _ q
  have e : m + (n₁ + n₂ + 1) = (m + n₂ + n₁) + 1 := by omega
  rw [e]
  exact Gb.ctl rfl rfl (fun _ => stepG_seq) hx
theorem wpB_cond {c : Operand} {x y : Code} {t : Bool} {n : Nat} (hc : a.eval c = .bool t) (h : WpB P C main fn (if t then x else y) n Q a mine w) : WpB P C main fn (.cond c x y) (n + 1) Q a mine w :=
  fun b k cs Stop m hb hk hq => Gb.ctl rfl rfl (fun _ => stepG_cond hc) (h b k cs Stop m hb hk hq)
theorem wpB_split {c : Operand} {x y : Code} {t : Bool} {n₁ n₂ : Nat} (hc : a.eval c = .bool t) (ht : t = true -> WpB P C main fn x n₁ Q a mine w) (hf : t = false -> WpB P C main fn y n₂ Q a mine w) : WpB P C main fn (.cond c x y) (max n₁ n₂ + 1) Q a mine w := by
  refine wpB_cond hc ?_
  cases t with
  | true => exact wpB_more (ht rfl) (Nat.le_max_left _ _)
  | false => exact wpB_more (hf rfl) (Nat.le_max_right _ _)
theorem wpB_block {id : Nat} {c : Code} {n : Nat} (h : WpB P C main fn c n (inBlockB id Q) a mine w) : WpB P C main fn (.block id c) (n + 2) Q a mine w := by
  intro b k cs Stop m hb hk hc
  have hx : Gb P C main Stop (m + 1 + n) mine (G (b.at a (.code c :: .inBlock id :: k)) cs) w := by
    refine h b (.inBlock id :: k) cs Stop (m + 1) hb hk fun e a' m' w' q => ?_
    cases e with
    | normal => exact Gb.ctl rfl rfl (fun _ => stepG_inBlock) (hc _ _ _ _ q)
    | exit id' =>
      by_cases hid : id' = id
      . simp only [inBlockB, hid, if_true] at q
        exact ⟨k, by simp [exitTo, hid], Gb.more (hc _ _ _ _ q)⟩
      . simp only [inBlockB, hid, if_false] at q
        obtain ⟨k', hk', hg⟩ := hc _ _ _ _ q
        have : (id == id') = false := by simp; exact fun h => hid h.symm
        exact ⟨k', by simp [exitTo, this, hk'], hg.more⟩
    | ret => exact fun todo => (hc _ _ _ _ q todo).more
    | _ => exact hc _ _ _ _ q
  have e : m + (n + 2) = (m + 1 + n) + 1 := by omega
  rw [e]
  exact Gb.ctl rfl rfl (fun _ => stepG_block) hx
theorem wpB_region {id : Nat} {ops : Array Oper} {n : Nat} (h : OpsB P C main fn ops (List.range ops.size) n Q a mine w) : WpB P C main fn (.region id ops false) (n + 1) Q a mine w :=
  fun b k cs Stop m hb hk hc => Gb.ctl rfl rfl (fun _ => stepG_region) (h b k cs Stop m hb hk hc)
theorem opsB_nil {ops : Array Oper} (h : Q .normal a mine w) : OpsB P C main fn ops [] 1 Q a mine w := fun _ _ _ _ _ _ _ hc => Gb.ctl rfl rfl (fun _ => stepG_region_end) (hc _ _ _ _ h)
theorem opsB_cons {ops : Array Oper} {i : Nat} {rest : List Nat} {o : Oper} {n : Nat} (ho : ops[i]? = some o) (hw : Region.wanted o (yielded ops a.tmps) = true)
    (h : ∀ w₁, Rel C mine w w₁ -> uponK o a (fun a' w' => Gua C mine w₁ w' (listed P fn a o w₁) /\ OpsB P C main fn ops rest n Q a' (grow mine w₁ w') w') ((execOp a.eval o).run P w₁)) : OpsB P C main fn ops (i :: rest) (n + 1) Q a mine w := by
  intro b k cs Stop m hb hk hc
  refine .inr ⟨rfl, fun w₁ h₁ => ?_⟩
  have h2 := h w₁ h₁
  cases hr : (execOp a.eval o).run P w₁ with
  | ok x w' =>
    rw [hr] at h2
    cases x with
    | value v => exact ⟨_, w', _, stepG_value ho hw hk hr, rfl, hb ▸ h2.1, h2.2 b k cs Stop m hb hk hc⟩
    | skip => exact ⟨_, w', _, stepG_none ho hw hk hr, rfl, hb ▸ h2.1, h2.2 b k cs Stop m hb hk hc⟩
    | _ => exact h2.elim
  | halt _ _ => rw [hr] at h2; exact h2.elim
theorem opsB_unwanted {ops : Array Oper} {i : Nat} {rest : List Nat} {o : Oper} {n : Nat} (ho : ops[i]? = some o) (hw : Region.wanted o (yielded ops a.tmps) = false) (h : OpsB P C main fn ops rest n Q (a.put o.dst undef) mine w) : OpsB P C main fn ops (i :: rest) (n + 1) Q a mine w :=
  fun b k cs Stop m hb hk hc => Gb.ctl rfl rfl (fun _ => stepG_unwanted ho hw) (h b k cs Stop m hb hk hc)
end rules
end Go.Proofs.YtcpldcojckhapaaGreat
