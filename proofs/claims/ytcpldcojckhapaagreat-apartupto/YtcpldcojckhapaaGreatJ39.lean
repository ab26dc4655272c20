/-
  
-/
import Derived.Test.YtcpldcojckhapaaGreatJ37
import Derived.Test.YtcpldcojckhapaaGreatJ38
import Derived.Test.YtcpldcojckhapaaGreatJ29
import Derived.Test.YtcpldcojckhapaaGreatJ31
set_option maxRecDepth 100000
set_option linter.unusedSimpArgs false
namespace Go.Proofs.YtcpldcojckhapaaGreat
open Go.Conc Go.RowKit
structure Ground (w0 : World) (B : Nat) (w : World) : Prop where
  here : B <= w.heap.size
  low : ∀ b, b < B -> w.heap[b]? = w0.heap[b]?
  os : w.os = w0.os
  output : w.output = w0.output
theorem Ground.cl (w0 : World) (B : Nat) : Cl (Ground w0 B) := fun _ _ _ h => ⟨h.here, h.low, h.os, h.output⟩
theorem Ground.next {w0 w w' : World} {B : Nat} (h : Ground w0 B w) (hs : w.heap.size <= w'.heap.size) (hb : ∀ b, b < B -> w'.heap[b]? = w.heap[b]?) (ho : w'.os = w.os) (hu : w'.output = w.output) : Ground w0 B w' := ⟨Nat.le_trans h.here hs, fun b hb' => (hb b hb').trans (h.low b hb'), ho.trans h.os, hu.trans h.output⟩
theorem Ground.ft {w0 w w' : World} {B : Nat} {T : Nat -> TypeId -> Bool} (h : Ground w0 B w) (hf : FtT B T w w') : Ground w0 B w' := h.next hf.size (fun b hb => hf.low b hb (Nat.lt_of_lt_of_le hb h.here)) hf.os hf.output
theorem Ground.chg {w0 w w' : World} {B g : Nat} (h : Ground w0 B w) (hf : Chg1 g w w') (hg : B <= g) : Ground w0 B w' := h.next hf.size (fun b hb => hf.block b (Nat.lt_of_lt_of_le hb h.here) (by omega)) hf.os hf.output
theorem DevIn.sameH {w w' : World} {d L S : Nat} {E : Nat -> Nat} {wv : Value} {D : Dev} (h : DevIn w d L S E wv D) (hb : ∀ b, b < w.heap.size -> w'.heap[b]? = w.heap[b]?) : DevIn w' d L S E wv D :=
  ⟨(hb d (lt_of_block h.dev)).trans h.dev, h.lines.same (hb L h.lines.lt), fun i hi => (h.ent i hi).same (hb (E i) (h.ent i hi).lt), h.inj, (hb S (lt_of_block h.store)).trans h.store, own_same h.wait (fun g hg => hb g (h.wait.lt g hg).2), h.lo⟩
theorem DevIn.cl {d L S : Nat} {E : Nat -> Nat} {wv : Value} {D : Dev} : Cl (fun w => DevIn w d L S E wv D) := fun _ _ _ h => h.sameH (fun _ _ => rfl)
theorem ownsRow_cl {B : Nat} {e : TypeId} {size : Nat} {v : Value} {n : Nat} {xs : List Value} : Cl (fun w => w.ownsRow B e size v n xs) := fun _ _ _ h => own_same h (fun _ _ => rfl)
def hushD (D : Dev) : Dev := { D with ln := fun a => hushed (D.ln a) }
def DvG (w0 : World) (d L S : Nat) (E : Nat -> Nat) (wv : Value) (D : Dev) (w : World) : Prop := DevIn w d L S E wv D /\ Ground w0 D.base w
theorem DvG.cl {w0 : World} {d L S : Nat} {E : Nat -> Nat} {wv : Value} {D : Dev} : Cl (DvG w0 d L S E wv D) := fun w τ d h => ⟨DevIn.cl w τ d h.1, Ground.cl _ _ w τ d h.2⟩
theorem nPost_mono {J J' : Array Value -> World -> Prop} (h : ∀ tm w, J tm w -> J' tm w) {e : Exit} {a : Act} {w : World} (hp : nPost J e a w) : nPost J' e a w := by
  cases e with
  | normal => exact ⟨hp.1, h _ _ hp.2⟩
  | _ => exact hp.elim
theorem pcsUp_mem {ln : Nat -> Ln} : ∀ {n : Nat} {p : Nat × ByteArray}, p ∈ pcsUp ln n -> p.1 < n /\ (ln p.1).kind = 1 /\ p.2 = (ln p.1).bytes
  | 0, p, h => by cases h
  | n + 1, p, h => by
    unfold pcsUp at h
    split at h
    . rename_i hk
      rcases List.mem_append.1 h with h | h
      . have := pcsUp_mem h
        exact ⟨by omega, this.2⟩
      . rw [List.mem_singleton.1 h]
        exact ⟨Nat.lt_succ_self _, hk, rfl⟩
    . have := pcsUp_mem h
      exact ⟨by omega, this.2⟩
theorem findF_mem {ps : List Pc} {f : Fd} (h : f ∈ findF ps) : ∃ p ∈ ps, Pl.serOk p.2 /\ f = ⟨p.1, Pl.byt p.2 0, p.2.extract 1 (p.2.size - 2)⟩ := by
  unfold findF at h
  obtain ⟨p, hp, e⟩ := List.mem_filterMap.1 h
  by_cases hs : Pl.serOk p.2
  . rw [if_pos hs] at e
    exact ⟨p, hp, hs, (Option.some.inj e).symm⟩
  . rw [if_neg hs] at e; cases e
theorem finds_ok {D : Dev} {f : Fd} (h : f ∈ findF (pcsUp D.ln D.nl)) : FdOk (hushD D) f := by
  obtain ⟨p, hp, hs, rfl⟩ := findF_mem h
  obtain ⟨h1, h2, _⟩ := pcsUp_mem hp
  have h4 := hs.1
  have h5 := hs.2.1
  refine ⟨h1, ?_, ?_, ?_⟩
  . show (hushed (D.ln p.1)).kind = 1
    unfold hushed
    rw [if_pos h2]
    exact h2
  . show 1 <= (p.2.extract 1 (p.2.size - 2)).size
    rw [ByteArray.size_extract]; omega
  . show (p.2.extract 1 (p.2.size - 2)).size <= 253
    rw [ByteArray.size_extract]; omega
noncomputable def tickP (D : Dev) : Dev × List (Int × Int × Int × ByteArray) := takesZ (hushD D) (findF (pcsUp D.ln D.nl))
def Mid (w0 : World) (d L S : Nat) (E : Nat -> Nat) (wv : Value) (D : Dev) (pv : Value) (w : World) : Prop := DevIn w d L S E wv (hushD D) /\ w.ownsRow D.base 178 2 pv (pcsUp D.ln D.nl).length ((pcsUp D.ln D.nl).flatMap encPc) /\ Ground w0 D.base w
def Mid3 (w0 : World) (d L S : Nat) (E : Nat -> Nat) (wv : Value) (D : Dev) (v : Value) (w : World) : Prop := DevIn w d L S E wv (hushD D) /\ w.ownsRow D.base 134 4 v (findF (pcsUp D.ln D.nl)).length ((findF (pcsUp D.ln D.nl)).flatMap Fd.c) /\ Ground w0 D.base w
def Ticked (w0 : World) (d L S : Nat) (E : Nat -> Nat) (wv : Value) (D : Dev) (v : Value) (w : World) : Prop := DevIn w d L S E wv (tickP D).1 /\ w.ownsRow D.base 77 4 v (tickP D).2.length ((tickP D).2.flatMap encA) /\ Ground w0 D.base w
theorem Mid.cl {w0 : World} {d L S : Nat} {E : Nat -> Nat} {wv : Value} {D : Dev} {v : Value} : Cl (Mid w0 d L S E wv D v) := fun w τ d h => ⟨DevIn.cl w τ d h.1, ownsRow_cl w τ d h.2.1, Ground.cl _ _ w τ d h.2.2⟩
theorem Mid3.cl {w0 : World} {d L S : Nat} {E : Nat -> Nat} {wv : Value} {D : Dev} {v : Value} : Cl (Mid3 w0 d L S E wv D v) := fun w τ d h => ⟨DevIn.cl w τ d h.1, ownsRow_cl w τ d h.2.1, Ground.cl _ _ w τ d h.2.2⟩
theorem Ticked.cl {w0 : World} {d L S : Nat} {E : Nat -> Nat} {wv : Value} {D : Dev} {v : Value} : Cl (Ticked w0 d L S E wv D v) := fun w τ d h => ⟨DevIn.cl w τ d h.1, ownsRow_cl w τ d h.2.1, Ground.cl _ _ w τ d h.2.2⟩
theorem load105 (x : Value) : LoadIs Tryz.prog 105 [x] x := ⟨by kernel_rfl, _, Tryz.underlying105, .inr ⟨rfl, rfl⟩⟩
section
variable {Q : Array Goroutine -> World -> Trace -> Prop} {bc : Frame} {ac : Act} {opsc : Array Oper} {ic : Nat} {restc : List Nat} {oc : Oper} {kc : List Item} {csc : List Frame}
set_option maxHeartbeats 4000000 in
theorem tick_tri (body : Code) (hbd : Tryz.f30.body = some body) (w0 : World) (d L S : Nat) (E : Nat -> Nat) (wv : Value) (D : Dev) (hok : DevOk D) (hkp : ∀ i, D.kp i = 0) (h0 : D.uns = 0) (ha : D.arr <= 300000000) (hps : 0 < (pcsUp D.ln D.nl).length) (h1 : (pcsUp D.ln D.nl).length <= 1) (hz : ∀ p ∈ pcsUp D.ln D.nl, p.2.size <= 4194304) (hoc : opsc[ic]? = some oc)
    (hn : ∀ v, Tri Tryz.prog (G (bc.at (ac.put oc.dst v) (.inRegion opsc restc :: kc)) csc) (Ticked w0 d L S E wv D v) Q) :
    Tri Tryz.prog (G ((base 30).at { tmps := #[.pointer (some ⟨d, 0, none⟩)] ++ Array.replicate (Tryz.f30.ntmps - 1) undef, defers := [] } [.code body]) (bc.at ac (.inRegion opsc (ic :: restc) :: kc) :: csc)) (DvG w0 d L S E wv D) Q := by
  have hb' := hbd.symm
  simp only [Tryz.f30, Option.some.injEq] at hb'
  subst hb'
  clear hbd
  have hk : (base 30).kind ≠ .early := by simp [base]
  have hI := DvG.cl (w0 := w0) (d := d) (L := L) (S := S) (E := E) (wv := wv) (D := D)
  simp only [Tryz.ntmps30, List.size_toArray, List.length_cons, List.length_nil, Nat.reduceAdd, Nat.reduceSub, Array.replicate_succ, Array.replicate_zero, List.push_toArray, List.append_toArray, List.nil_append, List.cons_append]
  have HN : Hid _ := hn
  have HNL : Hid (D.nl <= 4) := hok.nl.2
  clear hn
  repeat (first | (co_apply Tr.region hI; simp only [List.size_toArray, List.length_cons, List.length_nil, Nat.reduceAdd, Nat.zero_add, List.range, List.range.loop]) | (co_apply Tr.pure hI rfl (by rfl) hk (by intro _ K hK; go_simp; exact hK) (by intro _; simp [go_sem, ev_len, ev_index, ev_indexI, ev_slice_lo, ev_slice_hi, *]); walk_nrm) | (co_apply Tr.unwanted hI rfl (by rfl); walk_nrm) | co_apply Tr.nil hI | co_apply Tr.seq hI | co_apply Tr.block hI | co_apply Tr.skip hI | co_apply Tr.inBlock hI)
  co_apply Tr.load hI rfl (by rfl) hk rfl (bl := d) (off := 2) (by rfl) (vs := [.slice (some ⟨L, 0, none⟩) D.nl D.nl]) (fun w hi q v hq => by cases q with | zero => (have := hi.1.cells.2.2.1; simpa using hq ▸ this) | succ q => simp at hq) (load105 _)
  walk_nrm
  co_apply Tr.enter hI rfl (by rfl) hk rfl (vals := #[.slice (some ⟨L, 0, none⟩) D.nl D.nl]) (by walk_nrm) Tryz.func68 (by rfl) rfl
  simp only [Tryz.ntmps68, List.size_toArray, List.length_cons, List.length_nil, Nat.reduceAdd, Nat.reduceSub, Array.replicate_succ, Array.replicate_zero, List.push_toArray, List.append_toArray, List.nil_append, List.cons_append]
  have hk30 := hk
  have hk : (base 68).kind ≠ .early := by simp [base]
  co_apply Tr.seq hI
  (co_apply Tr.region hI; simp only [List.size_toArray, List.length_cons, List.length_nil, Nat.reduceAdd, Nat.zero_add, List.range, List.range.loop])
  (co_apply Tr.pure hI rfl (by rfl) hk (by intro _ K hK; go_simp; exact hK) (by intro _; simp [go_sem, ev_len, ev_index, ev_indexI, ev_slice_lo, ev_slice_hi, *]); walk_nrm)
  co_apply Tr.nil hI
  co_apply Tr.seq hI
  (co_apply Tr.region hI; simp only [List.size_toArray, List.length_cons, List.length_nil, Nat.reduceAdd, Nat.zero_add, List.range, List.range.loop])
  (co_apply Tr.pure hI rfl (by rfl) hk (by intro _ K hK; go_simp; exact hK) (by intro _; simp [go_sem, ev_len, ev_index, ev_indexI, ev_slice_lo, ev_slice_hi, *]); walk_nrm)
  co_apply Tr.nil hI
  co_apply Tr.seq hI
  co_apply Tr.wpN fitV (by kernel_rfl) (fun j hj => by have e : fV.M 68 = [] := by kernel_rfl
                                                       rw [e] at hj; cases hj) hI
    (J := fun tm w' => ∃ v s4 s5 s6 s7 s8 s9 s10 s11 s12 s13 s14 s15 s16 s17 s18 s19 s20 s21 s22 s23 s24 s25 s26 s27 s28 s29 s30 s31 : Value, tm = #[.slice (some ⟨L, 0, none⟩) D.nl D.nl, undef, .slice none 0 0, v, s4, s5, s6, s7, s8, s9, s10, s11, s12, s13, s14, s15, s16, s17, s18, s19, s20, s21, s22, s23, s24, s25, s26, s27, s28, s29, s30, s31] /\ Mid w0 d L S E wv D v w')
    (fun _ w τ d ⟨v, s4, s5, s6, s7, s8, s9, s10, s11, s12, s13, s14, s15, s16, s17, s18, s19, s20, s21, s22, s23, s24, s25, s26, s27, s28, s29, s30, s31, e, h⟩ => ⟨v, s4, s5, s6, s7, s8, s9, s10, s11, s12, s13, s14, s15, s16, s17, s18, s19, s20, s21, s22, s23, s24, s25, s26, s27, s28, s29, s30, s31, e, Mid.cl w τ d h⟩)
    (fun w hi => Code.wp_mono (fun _ _ _ q => nPost_mono (fun tm w' ⟨v, s4, s5, s6, s7, s8, s9, s10, s11, s12, s13, s14, s15, s16, s17, s18, s19, s20, s21, s22, s23, s24, s25, s26, s27, s28, s29, s30, s31, e, q1, q2, q3⟩ => ⟨v, s4, s5, s6, s7, s8, s9, s10, s11, s12, s13, s14, s15, s16, s17, s18, s19, s20, s21, s22, s23, s24, s25, s26, s27, s28, s29, s30, s31, e, hi.1.heard q2 q3, own_base q1 hi.2.here, hi.2.chg q3 hi.1.lo.2.1⟩) q) (silence_wp _ _ ⟨_, _, rfl⟩ L D.nl D.ln w HNL.out hi.1.lines))
  rintro tm gs w t ⟨v, s4, s5, s6, s7, s8, s9, s10, s11, s12, s13, s14, s15, s16, s17, s18, s19, s20, s21, s22, s23, s24, s25, s26, s27, s28, s29, s30, s31, rfl, hM⟩ hb
  obtain ⟨g, cap, rfl, hcap⟩ : ∃ g cap, v = .slice (some ⟨g, 0, none⟩) (pcsUp D.ln D.nl).length cap /\ (pcsUp D.ln D.nl).length <= cap := by
    rcases hM.2.1.2 with ⟨_, e⟩ | ⟨g, cap, cur, e, _, _, e2, _⟩
    . omega
    . exact ⟨g, cap, e, e2⟩
  refine (?_ : Tri Tryz.prog _ (Mid w0 d L S E wv D (.slice (some ⟨g, 0, none⟩) (pcsUp D.ln D.nl).length cap)) Q) gs w t hM hb
  clear hM hb gs w t
  have hI := Mid.cl (w0 := w0) (d := d) (L := L) (S := S) (E := E) (wv := wv) (D := D) (v := .slice (some ⟨g, 0, none⟩) (pcsUp D.ln D.nl).length cap)
  repeat (first | (co_apply Tr.region hI; simp only [List.size_toArray, List.length_cons, List.length_nil, Nat.reduceAdd, Nat.zero_add, List.range, List.range.loop]) | (co_apply Tr.pure hI rfl (by rfl) hk (by intro _ K hK; go_simp; exact hK) (by intro _; simp [go_sem, ev_len, ev_index, ev_indexI, ev_slice_lo, ev_slice_hi, *]); walk_nrm) | (co_apply Tr.unwanted hI rfl (by rfl); walk_nrm) | co_apply Tr.nil hI | co_apply Tr.seq hI | co_apply Tr.block hI | co_apply Tr.skip hI | co_apply Tr.inBlock hI)
  co_apply Tr.retT hI Tryz.func68 (by rfl) rfl rfl
  have hk := hk30
  walk_nrm
  co_apply Tr.enter hI rfl (by rfl) hk rfl (vals := #[.slice (some ⟨g, 0, none⟩) (pcsUp D.ln D.nl).length cap]) (by walk_nrm) Tryz.func67 (by rfl) rfl
  refine lookAt_tri hI _ rfl D.base cap g (pcsUp D.ln D.nl) hcap hps (fun w hi => hi.2.1) hz (by omega) (Nat.le_trans (findF_len _) h1) rfl (fun v => ?_)
  intro gs w t hL hb
  obtain ⟨w1, hM, q1, q2, q3, q4, q5⟩ := hL
  obtain ⟨av, cv, rfl, hvw⟩ := own_view q5
  clear hvw
  have hM3 : Mid3 w0 d L S E wv D (.slice av (findF (pcsUp D.ln D.nl)).length cv) w := ⟨hM.1.sameH q2, own_base q5 hM.2.2.here, hM.2.2.next q1 (fun b hb => q2 b (Nat.lt_of_lt_of_le hb hM.2.2.here)) q3 q4⟩
  refine (?_ : Tri Tryz.prog _ (Mid3 w0 d L S E wv D (.slice av (findF (pcsUp D.ln D.nl)).length cv)) Q) gs w t hM3 hb
  clear hM3 hM hb q1 q2 q3 q4 q5 gs w t w1
  have hI := Mid3.cl (w0 := w0) (d := d) (L := L) (S := S) (E := E) (wv := wv) (D := D) (v := .slice av (findF (pcsUp D.ln D.nl)).length cv)
  have hfl : (findF (pcsUp D.ln D.nl)).length <= 4 := by have := findF_len (pcsUp D.ln D.nl); omega
  have hokh : DevOk (hushD D) := ⟨hok.sz, hok.ent, hok.kp0, hok.kp2, hok.unit, hok.batch, hok.nl, hok.lat, hok.stamp, hok.sec, hok.wlen, hok.uns, hok.w0, hok.asc, hok.top⟩
  walk_nrm
  (co_apply Tr.pure hI rfl (by rfl) hk (by intro _ K hK; go_simp; exact hK) (by intro _; simp [go_sem, ev_len, ev_index, ev_indexI, ev_slice_lo, ev_slice_hi, *]); walk_nrm)
  (co_apply Tr.pure hI rfl (by rfl) hk (by intro _ K hK; go_simp; exact hK) (by intro _; simp [go_sem, ev_len, ev_index, ev_indexI, ev_slice_lo, ev_slice_hi, *]); walk_nrm)
  co_apply Tr.nil hI
  co_apply Tr.wpN fitV (by kernel_rfl) (fun j hj => by have e : fV.M 30 = [] := by kernel_rfl
                                                       rw [e] at hj; cases hj) hI
    (J := fun tm w' => ∃ v s4 s5 s6 s7 s8 s9 s10 s11 s12 s13 s14 s15 s16 s17 s18 s19 s20 s21 s22 s23 s24 s25 s26 : Value, tm = #[.pointer (some ⟨d, 0, none⟩), undef, .slice none 0 0, v, s4, s5, s6, s7, s8, s9, s10, s11, s12, s13, s14, s15, s16, s17, s18, s19, s20, s21, s22, s23, s24, s25, s26] /\ Ticked w0 d L S E wv D v w')
    (fun _ w τ d ⟨v, s4, s5, s6, s7, s8, s9, s10, s11, s12, s13, s14, s15, s16, s17, s18, s19, s20, s21, s22, s23, s24, s25, s26, e, h⟩ => ⟨v, s4, s5, s6, s7, s8, s9, s10, s11, s12, s13, s14, s15, s16, s17, s18, s19, s20, s21, s22, s23, s24, s25, s26, e, Ticked.cl w τ d h⟩)
    (fun w hi => Code.wp_mono (fun _ _ _ q => nPost_mono (fun tm w' ⟨v, s4, s5, s6, s7, s8, s9, s10, s11, s12, s13, s14, s15, s16, s17, s18, s19, s20, s21, s22, s23, s24, s25, s26, e, q1, q2, q3⟩ => ⟨v, s4, s5, s6, s7, s8, s9, s10, s11, s12, s13, s14, s15, s16, s17, s18, s19, s20, s21, s22, s23, s24, s25, s26, e, q2, own_base q1 hi.2.2.here, hi.2.2.ft q3⟩) q) (tick_wp _ _ ⟨_, _, _, rfl⟩ d L S E wv (hushD D) (findF (pcsUp D.ln D.nl)) D.base cv av _ _ _ w hi.1 hokh hkp h0 ha hfl (fun f hf => finds_ok hf) hi.2.1))
  rintro tm gs w t ⟨v, s4, s5, s6, s7, s8, s9, s10, s11, s12, s13, s14, s15, s16, s17, s18, s19, s20, s21, s22, s23, s24, s25, s26, rfl, hT⟩ hb
  refine (?_ : Tri Tryz.prog _ (Ticked w0 d L S E wv D v) Q) gs w t hT hb
  clear hT hb gs w t
  have hI := Ticked.cl (w0 := w0) (d := d) (L := L) (S := S) (E := E) (wv := wv) (D := D) (v := v)
  repeat (first | (co_apply Tr.region hI; simp only [List.size_toArray, List.length_cons, List.length_nil, Nat.reduceAdd, Nat.zero_add, List.range, List.range.loop]) | (co_apply Tr.pure hI rfl (by rfl) hk (by intro _ K hK; go_simp; exact hK) (by intro _; simp [go_sem, ev_len, ev_index, ev_indexI, ev_slice_lo, ev_slice_hi, *]); walk_nrm) | (co_apply Tr.unwanted hI rfl (by rfl); walk_nrm) | co_apply Tr.nil hI | co_apply Tr.seq hI | co_apply Tr.block hI | co_apply Tr.skip hI | co_apply Tr.inBlock hI)
  co_apply Tr.retT hI Tryz.func30 (by rfl) rfl hoc
  exact HN.out v
end
end Go.Proofs.YtcpldcojckhapaaGreat

set_option maxRecDepth 100000
namespace Go.Proofs.YtcpldcojckhapaaGreat
open Go.RowKit
def Vals (w : World) (ad : Option Addr) (len : Nat) (vals : Nat -> Int) : Prop :=
  ∀ j, j < len -> ∃ g o, ad = some ⟨g, o, none⟩ /\ g < w.heap.size /\ w.cell? ⟨g, o + j, none⟩ = some (.int .i64 (vals j)) /\ -9223372036854775808 <= vals j /\ vals j <= 9223372036854775807
end Go.Proofs.YtcpldcojckhapaaGreat

set_option maxRecDepth 100000
namespace Go.Proofs.YtcpldcojckhapaaGreat
open Go.RowKit
def setE (f : Nat -> Nat -> Int) (t k : Nat) (v : Int) : Nat -> Nat -> Int := fun i j => if i = t /\ j = k then v else f i j
set_option maxHeartbeats 1000000 in
theorem greatest_3 (w : World) : Calls Tryz.prog 66 #[.int .i64 3] w fun e w' => e = .returned (.int .i64 65535) /\ w' = w := by
  go_enter Tryz.func66, Tryz.ntmps66
  go_wp2
  go_ret
  exact ⟨rfl, rfl⟩
set_option maxHeartbeats 2000000 in
theorem put_in (d L S k v : Nat) (E : Nat -> Nat) (wv : Value) (D : Dev) (w : World) (h : DevIn w d L S E wv D) (hk : k < D.sz 3) (hs : D.sz 3 <= 60) (hv : v < 65536) :
    Calls Tryz.prog 28 #[.pointer (some ⟨d, 0, none⟩), .int .i64 3, .int .i64 (k : Nat), .int .i64 (v : Nat)] w fun e w' => e = .returned (.int .i64 0) /\ DevIn w' d L S E wv { D with ent := setE D.ent 3 k (v : Nat) } /\ FtT D.base (devT d L S E) w w' := by
  have e3 := h.cellE (i := 3) (by omega)
  have hEl := (h.ent 3 (by omega)).lt
  obtain ⟨ce, hce⟩ := (h.ent 3 (by omega)).block
  have hc := (h.ent 3 (by omega)).cell (i := k) (j := 0) (by omega) (by omega)
  rw [Nat.mul_one, Nat.add_zero] at hc
  have hfz : w.frozen? ⟨E 3, k, none⟩ = false := frozen_of_row _ _ _ _ _ hce
  have hkI : (k : Int) < (D.sz 3 : Int) := by omega
  have HH := hideF h
  have HCE := hideF hce
  clear h hce
  go_enter Tryz.func28, Tryz.ntmps28
  go_wp2_with fail
  refine (within_yes _ _ _ _ (by omega) (by omega)).mono ?_
  rintro e w1 ⟨rfl, rfl⟩
  go_wp2_with fail
  refine (greatest_3 _).mono ?_
  rintro e w2 ⟨rfl, rfl⟩
  go_wp2_with fail
  refine (within_yes _ _ _ _ (by omega) (by omega)).mono ?_
  rintro e w3 ⟨rfl, rfl⟩
  go_wp2
  go_ret
  have hG := grid_set1 (v := ((v : Nat) : Int)) (HH.out.ent 3 (by omega)) hk
  have hC : Chg1 (E 3) w3 (w3.setCell ⟨E 3, k, none⟩ (.int .i64 ((v : Nat) : Int))) := (Chg1.refl _ _).setCell _ _
  refine ⟨rfl, HH.out.put (f := setE D.ent 3 k (v : Nat)) (j := 3) (by omega) hC (hG.congr fun i _ _ _ => ?_) (fun i q hne => ?_), FtT.chg hC HCE.out (devT_E _ _ _ _ _ (by omega)) (HH.out.lo.2.2.2 3 (by omega))⟩
  . show Value.int .i64 (if i = k then _ else D.ent 3 i) = Value.int .i64 (setE D.ent 3 k (v : Nat) 3 i)
    unfold setE
    by_cases e : i = k
    . rw [if_pos e, if_pos ⟨rfl, e⟩]
    . rw [if_neg e, if_neg (fun h => e h.2)]
  . unfold setE
    rw [if_neg (fun h => hne h.1)]
def atV (len : Nat) (vals : Nat -> Int) (i : Nat) : Int := if len = 0 then 0 else vals (i % len)
set_option maxHeartbeats 1000000 in
theorem at_val (i len cap : Nat) (ad : Option Addr) (vals : Nat -> Int) (w : World) (h : Vals w ad len vals) (hl : len <= 9223372036854775807) (_hi : i <= 1000000000) :
    Calls Tryz.prog 23 #[.slice ad len cap, .int .i64 (i : Nat)] w fun e w' => e = .returned (.int .i64 (atV len vals i)) /\ w' = w := by
  unfold atV
  rcases Nat.eq_zero_or_pos len with rfl | hp
  . clear h
    go_enter Tryz.func23, Tryz.ntmps23
    go_wp2
    go_ret
    exact ⟨rfl, rfl⟩
  . have hm : i % len < len := Nat.mod_lt _ hp
    obtain ⟨g, o, rfl, hg, hc, h1, h2⟩ := h _ hm
    have hne : ((len : Int) == 0) = false := by rw [beq_eq_false_iff_ne]; omega
    have hre : Int.tmod (i : Int) (len : Int) = ((i % len : Nat) : Int) := rfl
    have hl0 : len ≠ 0 := by omega
    clear h
    go_enter Tryz.func23, Tryz.ntmps23
    go_wp2
    go_ret
    exact ⟨rfl, rfl⟩
theorem atV_bd {w : World} {ad : Option Addr} {len : Nat} {vals : Nat -> Int} (h : Vals w ad len vals) (i : Nat) : -9223372036854775808 <= atV len vals i /\ atV len vals i <= 9223372036854775807 := by
  unfold atV
  split
  . exact ⟨by omega, by omega⟩
  . obtain ⟨_, _, _, _, _, h1, h2⟩ := h _ (Nat.mod_lt i (by omega))
    exact ⟨h1, h2⟩
end Go.Proofs.YtcpldcojckhapaaGreat

set_option maxRecDepth 100000
namespace Go.Proofs.YtcpldcojckhapaaGreat
open Go.RowKit
def readI (a : Nat) : ByteArray := ⟨#[4]⟩ ++ twoB a ++ twoB 1
theorem readI_list (a : Nat) : (readI a).data.toList = [4, UInt8.ofNat (a / 256), UInt8.ofNat (a % 256), 0, 1] := by simp [readI, twoB]
theorem readI_size (a : Nat) : (readI a).size = 5 := by rw [Pl.size_list, readI_list]; rfl
theorem shp_readI (a : Nat) (ha : a < 65536) {x : Pl.Shp} {k : Nat} (h : Pl.ShpIs (readI a) x k) : x = ⟨4, 3, a, 1, 0, 0, 0, []⟩ /\ k = 0 := by
  have hz := readI_size a
  have hw1 : Pl.wd (readI a) 1 = a := by
    unfold Pl.wd; rw [byt_data _ _ (readI_list a), byt_data _ _ (readI_list a)]; simp; omega
  have hw3 : Pl.wd (readI a) 3 = 1 := by
    unfold Pl.wd; rw [byt_data _ _ (readI_list a), byt_data _ _ (readI_list a)]; rfl
  have h0 : Pl.byt (readI a) 0 = 4 := by rw [byt_data _ _ (readI_list a)]; rfl
  have h' := Pl.shpIs4 (s := readI a) (by omega) (by omega) h0 (x := ⟨4, 3, a, 1, 0, 0, 0, []⟩) (k := 0) (.inl ⟨⟨hz, by omega, by omega⟩, by rw [hw1, hw3], rfl⟩)
  exact Pl.ShpIs.eq h h'
theorem words1 (n : Nat) : twoB n = wordsB [n] := by
  unfold twoB wordsB wordsI bytesOf
  simp
  constructor <;> congr 1 <;> omega
structure ApD (B A : Nat) (vals : Nat -> Nat) (D : Dev) : Prop where
  ok : DevOk D
  unit : D.unit = 3
  nl : D.nl = 3
  sz : D.sz 3 = 20
  kp : ∀ i, D.kp i = 0
  uns : D.uns = 0
  k0 : (D.ln 0).kind = 0
  k1 : (D.ln 1).kind = 1
  l2 : D.ln 2 = ⟨0, ⟨#[]⟩, false⟩
  b0 : (D.ln 0).bytes.size <= 300
  b1 : (D.ln 1).bytes.size <= 257
  arr : D.arr <= A
  base : D.base = B
  ent : ∀ j, j < 20 -> D.ent 3 j = (vals j : Nat)
theorem doR_readI {D : Dev} {a : Nat} (ha : a < 20) {B A : Nat} {vals : Nat -> Nat} (h : ApD B A vals D) : doR D (readI a) (shpOf (readI a)).1 (shpOf (readI a)).2 = ⟨#[4, 2]⟩ ++ twoB (vals a) := by
  obtain ⟨e1, e2⟩ := shp_readI a (by omega) (shpOf_is (readI a))
  rw [e1, e2]
  have hb : hasB D ⟨4, 3, a, 1, 0, 0, 0, []⟩ = true := by
    unfold hasB
    have := h.sz
    simp only [Bool.and_eq_true, decide_eq_true_eq]
    exact ⟨by omega, by omega⟩
  have hx : doX D ⟨4, 3, a, 1, 0, 0, 0, []⟩ 0 = 0 := by unfold doX; rw [if_neg (by omega), if_pos hb]
  unfold doR
  rw [if_pos hx]
  have he : entD D ⟨4, 3, a, 1, 0, 0, 0, []⟩ 3 a = (vals a : Nat) := by
    unfold entD
    rw [if_neg (by simp)]
    unfold entW
    rw [if_neg (fun q => by have := q.1; simp at this)]
    exact h.ent a ha
  unfold answP
  rw [if_neg (by simp), if_neg (by simp)]
  unfold readP
  rw [if_neg (by simp)]
  simp only [List.range_one, List.map_cons, List.map_nil, Nat.add_zero, he, Int.toNat_natCast]
  unfold toldB
  have h0 : Pl.byt (readI a) 0 = 4 := by rw [byt_data _ _ (readI_list a)]; rfl
  rw [h0, wordsB_size]
  show (⟨#[UInt8.ofNat 4, UInt8.ofNat (2 * 1)]⟩ : ByteArray) ++ wordsB [vals a] = _
  rw [<- words1]
  rfl
theorem takeP_two {D : Dev} (hkp : ∀ i, D.kp i = 0) (h0 : D.uns = 0) (i m u : Nat) (s : ByteArray) : takeP D i m u s = (if u ≠ D.unit then (D, []) else (midP D s, [sendOf (ansP D i m s)])) /\ (midP D s).uns = 0 := by
  have hm : (midP D s).uns = 0 := by
    show (if doB D (shpOf s).1 (shpOf s).2 = true then D.uns + 1 else D.uns) = 0
    rw [doB_no hkp]
    exact h0
  refine ⟨?_, hm⟩
  unfold takeP
  by_cases hu : u ≠ D.unit
  . rw [if_pos hu, if_pos hu]
  . rw [if_neg hu, if_neg hu, if_pos hm]
theorem takeP_keeps {D : Dev} (hkp : ∀ i, D.kp i = 0) (h0 : D.uns = 0) (i m u : Nat) (s : ByteArray) : (takeP D i m u s).1.uns = 0 /\ ∀ j, (takeP D i m u s).1.ent 3 j = D.ent 3 j := by
  obtain ⟨e, hm⟩ := takeP_two hkp h0 i m u s
  rw [e]
  split
  . exact ⟨h0, fun _ => rfl⟩
  . exact ⟨hm, fun j => doE_3 (shpOf_is s) j⟩
theorem takesP_keeps {D : Dev} (hok : DevOk D) (hkp : ∀ i, D.kp i = 0) (h0 : D.uns = 0) (i : Nat) (fs : List (Nat × Nat × ByteArray)) : ∀ q, q <= fs.length -> (takesP D i (fs.take q)).1.uns = 0 /\ ∀ j, (takesP D i (fs.take q)).1.ent 3 j = D.ent 3 j
  | 0, _ => ⟨h0, fun _ => rfl⟩
  | q + 1, h => by
    obtain ⟨x, hx⟩ : ∃ x, fs[q]? = some x := ⟨_, List.getElem?_eq_getElem (by omega)⟩
    obtain ⟨h1, h2⟩ := takesP_keeps hok hkp h0 i fs q (by omega)
    have hs := (takesP_ok hok i fs q (by omega)).2.1
    rw [take_succ_at fs q x hx, takesP_snoc]
    obtain ⟨g1, g2⟩ := takeP_keeps (D := (takesP D i (fs.take q)).1) (fun i => by rw [hs.kp]; exact hkp i) h1 i x.1 x.2.1 x.2.2
    exact ⟨g1, fun j => (g2 j).trans (h2 j)⟩
theorem spl_done (s : ByteArray) : ∀ (f t : Nat), t <= s.size -> s.size < f + t -> Pl.wholeAt s (Pl.spl s f t).2 = 0
  | 0, t, h1, h2 => by omega
  | f + 1, t, h1, h2 => by
    by_cases hw : Pl.wholeAt s t = 0
    . rw [Pl.spl_stop s _ t hw]; exact hw
    . rw [Pl.spl_step s f t hw]
      have hb := Pl.wholeAt_bd s t hw
      exact spl_done s f (t + Pl.wholeAt s t) hb.2.2 (by omega)
theorem rest_small (all : ByteArray) : (heardP all).bytes.size <= 300 /\ (heardP all).kind = 0 := by
  unfold heardP
  split
  . exact ⟨Nat.zero_le _, rfl⟩
  . rename_i hb
    refine ⟨?_, rfl⟩
    have hd : Pl.whole (all.extract (Pl.splF all).2 all.size) = 0 := spl_done all (all.size + 1) 0 (Nat.zero_le _) (by omega)
    show (all.extract (Pl.splF all).2 all.size).size <= 300
    obtain ⟨r, hr⟩ : ∃ r, r = all.extract (Pl.splF all).2 all.size := ⟨_, rfl⟩
    rw [<- hr] at hb hd ⊢
    have hb' : Pl.brk r = false := by simpa using hb
    by_cases h6 : r.size < 6
    . omega
    . unfold Pl.whole at hd
      rw [if_neg (by rw [hb']; simp; omega)] at hd
      have h5 := Pl.byt_lt r 5
      split at hd <;> omega
theorem asks_len (D : Dev) (i : Nat) (s : ByteArray) : (asksP D i s).length * 8 <= (D.ln i).bytes.size + s.size := by
  unfold asksP
  split
  . simp
  . have := (framesOf_spec ((D.ln i).bytes ++ s)).2.2
    rw [ByteArray.size_append] at this
    exact this
theorem collB_size (b s : ByteArray) (h : b.size <= 257) : (collB b s).size <= 257 := by
  unfold collB
  rw [ByteArray.size_append, ByteArray.size_extract]
  omega
theorem feedP_ap {B A : Nat} {vals : Nat -> Nat} {D : Dev} (h : ApD B A vals D) (i : Nat) (hi : i < 2) (s : ByteArray) : ApD B (A + 38 + s.size) vals (feedP D i s).1 := by
  have hlen := asks_len D i s
  have hok : DevOk (lineP D i s) := lineP_ok h.ok i s
  obtain ⟨k1, k2, k3, _⟩ := takesP_ok hok i (asksP D i s) (asksP D i s).length (Nat.le_refl _)
  obtain ⟨g1, g2⟩ := takesP_keeps hok (D := lineP D i s) h.kp h.uns i (asksP D i s) (asksP D i s).length (Nat.le_refl _)
  rw [List.take_length] at k1 k2 k3 g1 g2
  have e : (takesP (lineP D i s) i (asksP D i s)).1 = (feedP D i s).1 := rfl
  rw [e] at k1 k2 k3 g1 g2
  have hb0 := h.b0
  have hb1 := h.b1
  have hl : ∀ a, a ≠ i -> (feedP D i s).1.ln a = D.ln a := fun a ha => by rw [k2.ln]; show (if a = i then _ else D.ln a) = _; rw [if_neg ha]
  have hli : (feedP D i s).1.ln i = if (D.ln i).kind = 1 then { D.ln i with bytes := collB (D.ln i).bytes s } else if (D.ln i).broken = true then D.ln i else heardP ((D.ln i).bytes ++ s) := by rw [k2.ln]; show (if i = i then _ else D.ln i) = _; rw [if_pos rfl]
  have harr : (feedP D i s).1.arr <= D.arr + (asksP D i s).length := k3
  have hA := h.arr
  refine ⟨k1, k2.unit.trans h.unit, k2.nl.trans h.nl, by rw [k2.sz]; exact h.sz, fun i => by rw [k2.kp]; exact h.kp i, g1, ?_, ?_, ?_, ?_, ?_, ?_, k2.base.trans h.base, fun j hj => (g2 j).trans (h.ent j hj)⟩
  . rcases (show i = 0 ∨ i = 1 by omega) with rfl | rfl
    . rw [hli, if_neg (by rw [h.k0]; omega)]
      split
      . exact h.k0
      . exact (rest_small _).2
    . rw [hl 0 (by omega)]; exact h.k0
  . rcases (show i = 0 ∨ i = 1 by omega) with rfl | rfl
    . rw [hl 1 (by omega)]; exact h.k1
    . rw [hli, if_pos h.k1]; exact h.k1
  . rw [hl 2 (by omega)]; exact h.l2
  . rcases (show i = 0 ∨ i = 1 by omega) with rfl | rfl
    . rw [hli, if_neg (by rw [h.k0]; omega)]
      split
      . exact h.b0
      . exact (rest_small _).1
    . rw [hl 0 (by omega)]; exact h.b0
  . rcases (show i = 0 ∨ i = 1 by omega) with rfl | rfl
    . rw [hl 1 (by omega)]; exact h.b1
    . rw [hli, if_pos h.k1]; exact collB_size _ _ h.b1
  . rcases (show i = 0 ∨ i = 1 by omega) with rfl | rfl <;> omega
theorem own_ap {B A : Nat} {vals : Nat -> Nat} {D : Dev} (h : ApD B A vals D) (m a : Nat) (ha : a < 20) : ApD B (A + 1) vals (takeP D 2 m 3 (readI a)).1 /\ (takeP D 2 m 3 (readI a)).2 = [(2, 0, 2, streamB m 3 (⟨#[4, 2]⟩ ++ twoB (vals a)))] := by
  have hk := takeP_ok h.ok 2 m 3 (readI a)
  obtain ⟨k2, k3⟩ := takeP_same D 2 m 3 (readI a)
  obtain ⟨g1, g2⟩ := takeP_keeps h.kp h.uns 2 m 3 (readI a)
  have hA := h.arr
  refine ⟨⟨hk, k2.unit.trans h.unit, k2.nl.trans h.nl, by rw [k2.sz]; exact h.sz, fun i => by rw [k2.kp]; exact h.kp i, g1, by rw [k2.ln]; exact h.k0, by rw [k2.ln]; exact h.k1, by rw [k2.ln]; exact h.l2, by rw [k2.ln]; exact h.b0, by rw [k2.ln]; exact h.b1, by omega, k2.base.trans h.base, fun j hj => (g2 j).trans (h.ent j hj)⟩, ?_⟩
  rw [(takeP_two h.kp h.uns 2 m 3 (readI a)).1, if_neg (by rw [h.unit]; simp)]
  show [sendOf (ansP D 2 m (readI a))] = _
  unfold ansP sendOf
  rw [doR_readI ha h, h.unit]
  rfl
theorem feed_own (d L S : Nat) (E : Nat -> Nat) (wv : Value) (D : Dev) (w : World) (m a B A : Nat) (vals : Nat -> Nat) (h : DevIn w d L S E wv D) (hA : ApD B A vals D) (ha : a < 20) (hm : m < 65536) (hb : A <= 900000000) :
    Calls Tryz.prog 20 #[.pointer (some ⟨d, 0, none⟩), .int .i64 2, .string (streamB m 3 (readI a))] w fun e w' => ∃ v wv' D', e = .returned (.tuple #[v, .int .i64 0]) /\ w'.ownsRow w.heap.size 77 4 v 1 ([(2, 0, 2, streamB m 3 (⟨#[4, 2]⟩ ++ twoB (vals a)))].flatMap encA) /\ DevIn w' d L S E wv' D' /\ ApD B (A + 1) vals D' /\ FtT B (devT d L S E) w w' := by
  obtain ⟨hap, hacts⟩ := own_ap hA m a ha
  have hz := readI_size a
  have hmay : Pl.May (m, D.unit, readI a) := ⟨hm, by show D.unit < 256; rw [hA.unit]; omega, by show 1 <= (readI a).size; omega, by show (readI a).size <= 253; omega⟩
  have harr := hA.arr
  have htk : TakeIs d L S E wv D (takeP D 2 m 3 (readI a)).1 2 m (readI a) (takeP D 2 m 3 (readI a)).2 := by
    intro w1 h1
    have := take_any d L S 2 m D.unit E wv D (readI a) w1 h1 hA.ok (by rw [hA.nl]; omega) (by rw [hA.l2]) hmay (by omega)
    refine this.mono ?_
    rintro e w' ⟨v, wv', q1, q2, q3, q4⟩
    rw [hA.unit] at q2 q3
    refine ⟨v, wv', q1, q2, fun e0 => ?_, q3, q4⟩
    rw [hacts] at e0
    cases e0
  have := feed_one d L S 2 m E wv D _ (readI a) _ w h (by rw [hA.nl]; omega) (by rw [hA.nl]; omega) hA.l2 hmay htk (by rw [hacts]; exact Nat.le_refl _) (streamB m 3 (readI a)) (by rw [hA.unit])
  refine this.mono ?_
  rintro e w' ⟨v, wv', q1, q2, q3, q4⟩
  rw [hacts] at q2
  rw [hA.base] at q4
  exact ⟨v, wv', _, q1, q2, q3, hap, q4⟩
theorem feed_noise (d L S i : Nat) (E : Nat -> Nat) (wv : Value) (D : Dev) (s : ByteArray) (w : World) (B A : Nat) (vals : Nat -> Nat) (h : DevIn w d L S E wv D) (hA : ApD B A vals D) (hi : i < 2) (hs : s.size <= 1048576) (hb : A <= 300000000) :
    Calls Tryz.prog 20 #[.pointer (some ⟨d, 0, none⟩), .int .i64 (i : Nat), .string s] w fun e w' => ∃ v wv' D', e = .returned (.tuple #[v, .int .i64 0]) /\ DevIn w' d L S E wv' D' /\ ApD B (A + 38 + s.size) vals D' /\ FtT B (devT d L S E) w w' := by
  have harr := hA.arr
  have h0 := hA.b0
  have h1 := hA.b1
  have hk0 := hA.k0
  have hk1 := hA.k1
  have := feed_any d L S i E wv D s w h hA.ok (by rw [hA.nl]; omega) (by rcases (show i = 0 ∨ i = 1 by omega) with rfl | rfl <;> omega) (fun hk => by rcases (show i = 0 ∨ i = 1 by omega) with rfl | rfl <;> omega) (by rcases (show i = 0 ∨ i = 1 by omega) with rfl | rfl <;> omega) (by omega)
  refine this.mono ?_
  rintro e w' ⟨v, wv', q1, q2, q3, q4⟩
  rw [hA.base] at q4
  exact ⟨v, wv', _, q1, q3, feedP_ap hA i hi s, q4⟩
theorem put_ap {B A : Nat} {vals : Nat -> Nat} {D : Dev} (h : ApD B A vals D) (k v : Nat) (hv : v < 65536) : ApD B A (fun j => if j = k then v else vals j) { D with ent := setE D.ent 3 k (v : Nat) } := by
  refine ⟨⟨h.ok.sz, fun i j => ?_, h.ok.kp0, h.ok.kp2, h.ok.unit, h.ok.batch, h.ok.nl, h.ok.lat, h.ok.stamp, h.ok.sec, h.ok.wlen, h.ok.uns, h.ok.w0, h.ok.asc, h.ok.top⟩, h.unit, h.nl, h.sz, h.kp, h.uns, h.k0, h.k1, h.l2, h.b0, h.b1, h.arr, h.base, fun j hj => ?_⟩
  . have := h.ok.ent i j
    show 0 <= setE D.ent 3 k (v : Nat) i j /\ setE D.ent 3 k (v : Nat) i j < 65536 /\ (i < 2 -> setE D.ent 3 k (v : Nat) i j < 2)
    unfold setE
    split
    . rename_i e
      exact ⟨by omega, by omega, fun hi => by have := e.1; omega⟩
    . exact this
  . show setE D.ent 3 k (v : Nat) 3 j = ((if j = k then v else vals j : Nat) : Int)
    unfold setE
    by_cases e : j = k
    . rw [if_pos ⟨rfl, e⟩, if_pos e]
    . rw [if_neg (fun q => e q.2), if_neg e]; exact h.ent j hj
theorem dev0_ap (B : Nat) (kn : Nat -> Nat) (h0 : kn 0 = 0) (h1 : kn 1 = 1) (h2 : kn 2 = 0) : ApD B 0 (fun _ => 0) (dev0 4 4 4 20 0 3 3 2 kn B) := by
  refine ⟨⟨fun i hi => ?_, fun i k => ⟨by show (0 : Int) <= 0; omega, by show (0 : Int) < 65536; omega, fun _ => by show (0 : Int) < 2; omega⟩, Nat.zero_le _, Nat.zero_le _, ⟨by show 1 <= 3; omega, by show 3 <= 247; omega⟩, ⟨by show 1 <= 2; omega, by show 2 <= 8; omega⟩, ⟨by show 1 <= 3; omega, by show 3 <= 4; omega⟩, Nat.zero_le _, Nat.zero_le _, by show 1 = max 1 ((((if (0 : Nat) = 2 then 0 else 0) + 7) / 8 + 2 * (if (2 : Nat) = 2 then 0 else 0) + 61) / 62); decide, by show 0 < 2; omega, Nat.zero_le _, fun _ => rfl, List.Pairwise.nil, fun y hy => by cases hy⟩, rfl, rfl, rfl, fun i => ?_, rfl, h0, h1, ?_, Nat.zero_le _, Nat.zero_le _, Nat.le_refl _, rfl, fun _ _ => rfl⟩
  . show szF 4 4 4 20 i <= 60
    rcases (show i = 0 ∨ i = 1 ∨ i = 2 ∨ i = 3 by omega) with rfl | rfl | rfl | rfl <;> decide
  . show (if i = 2 then 0 else 0) = 0
    split <;> rfl
  . show (⟨kn 2, ⟨#[]⟩, false⟩ : Ln) = _
    rw [h2]
end Go.Proofs.YtcpldcojckhapaaGreat

set_option maxRecDepth 100000
namespace Go.Proofs.YtcpldcojckhapaaGreat
open Go.RowKit
theorem ap_pcs {B A : Nat} {vals : Nat -> Nat} {D : Dev} (h : ApD B A vals D) : pcsUp D.ln D.nl = [(1, (D.ln 1).bytes)] := by
  rw [h.nl]
  have h2 : (D.ln 2).kind = 0 := by rw [h.l2]
  have h0 := h.k0
  have h1 := h.k1
  simp [pcsUp, h0, h1, h2]
theorem tick_ap {B A : Nat} {vals : Nat -> Nat} {D : Dev} (h : ApD B A vals D) : ApD B (A + 1) vals (tickP D).1 /\ (tickP D).2.length <= 1 /\ ∀ x ∈ (tickP D).2, x.2.2.1 = 1 := by
  have hps := ap_pcs h
  have hfl : (findF (pcsUp D.ln D.nl)).length <= 1 := by have := findF_len (pcsUp D.ln D.nl); rw [hps] at this ⊢; exact this
  have hokh : DevOk (hushD D) := ⟨h.ok.sz, h.ok.ent, h.ok.kp0, h.ok.kp2, h.ok.unit, h.ok.batch, h.ok.nl, h.ok.lat, h.ok.stamp, h.ok.sec, h.ok.wlen, h.ok.uns, h.ok.w0, h.ok.asc, h.ok.top⟩
  obtain ⟨k1, k2, k3, k4, k5, k6, k7⟩ := takesZ_ok hokh h.uns (findF (pcsUp D.ln D.nl)) _ (Nat.le_refl _)
  rw [List.take_length] at k1 k2 k3 k4 k5 k6 k7
  have e : takesZ (hushD D) (findF (pcsUp D.ln D.nl)) = tickP D := rfl
  rw [e] at k1 k2 k3 k4 k5 k6 k7
  have hA := h.arr
  have ha : (tickP D).1.arr <= D.arr + (findF (pcsUp D.ln D.nl)).length := k3
  have l0 : hushed (D.ln 0) = D.ln 0 := by unfold hushed; rw [if_neg (by rw [h.k0]; omega)]
  have l1 : hushed (D.ln 1) = { D.ln 1 with bytes := ⟨#[]⟩ } := by unfold hushed; rw [if_pos h.k1]
  have l2 : hushed (D.ln 2) = D.ln 2 := by unfold hushed; rw [if_neg (by rw [h.l2]; simp)]
  have hln : ∀ a, (tickP D).1.ln a = hushed (D.ln a) := fun a => by rw [k2.ln]; rfl
  refine ⟨⟨k1, k2.unit.trans h.unit, k2.nl.trans h.nl, by rw [k2.sz]; exact h.sz, fun i => by rw [k2.kp]; exact h.kp i, k5, by rw [hln, l0]; exact h.k0, by rw [hln, l1]; exact h.k1, by rw [hln, l2]; exact h.l2, by rw [hln, l0]; exact h.b0, by rw [hln, l1]; exact Nat.zero_le _, by omega, k2.base.trans h.base, fun j hj => (k7 j).trans (h.ent j hj)⟩, by omega, ?_⟩
  intro x hx
  have hx' : x ∈ (takesZ (hushD D) (findF (pcsUp D.ln D.nl))).2 := hx
  match hF : findF (pcsUp D.ln D.nl), hfl with
  | [], _ => rw [hF] at hx'; cases hx'
  | [f], _ =>
    have hf : f ∈ findF (pcsUp D.ln D.nl) := by rw [hF]; exact List.mem_singleton.2 rfl
    obtain ⟨p, hp, _, rfl⟩ := findF_mem hf
    rw [hps] at hp
    rw [hF] at hx'
    have h2 : takesZ (hushD D) [⟨p.1, Pl.byt p.2 0, p.2.extract 1 (p.2.size - 2)⟩] = ((takeZ (hushD D) p.1 (Pl.byt p.2 0) (p.2.extract 1 (p.2.size - 2))).1, [] ++ (takeZ (hushD D) p.1 (Pl.byt p.2 0) (p.2.extract 1 (p.2.size - 2))).2) := rfl
    rw [h2, List.nil_append] at hx'
    rw [takeZ_line _ _ _ _ x hx', List.mem_singleton.1 hp]
    rfl
  | f :: f' :: fs, hfl => simp at hfl
end Go.Proofs.YtcpldcojckhapaaGreat
