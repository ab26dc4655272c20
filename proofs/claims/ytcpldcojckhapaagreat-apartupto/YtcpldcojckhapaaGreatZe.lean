/-
  
-/
import Derived.Test.YtcpldcojckhapaaGreatJ16
set_option maxRecDepth 100000
set_option linter.unusedSimpArgs false
namespace Go.Proofs.YtcpldcojckhapaaGreat
open Go.Conc Go.RowKit
section
variable {P : Program} {C : Ch} {z : Value} {mine : List Nat} {w : World} {a : Act} {ops : Array Oper} {i : Nat} {rest : List Nat} {o : Oper} {b : Frame} {k : List Item} {cs : List Frame}
theorem atSel {l : Lft} {Next : Lft -> List Nat -> Goroutine -> World -> Prop} (ho : ops[i]? = some o) (hw : Region.wanted o (yielded ops a.tmps) = true) (hk : b.kind ≠ .early) (hr : ∀ w, (execOp a.eval o).run P w = .ok (.comm (mcases C l z) true .select) w) (he : ∀ w, (execOp a.eval o).events P w #[] = #[])
    (h1 : ∀ s v vs, l s = some (v :: vs) -> Next (setL l s (some vs)) mine (G (b.at (a.put o.dst (tup z s v true)) (.inRegion ops rest :: k)) cs) w) (h2 : ∀ s, l s = some [] -> Next (setL l s none) mine (G (b.at (a.put o.dst (tup z s z false)) (.inRegion ops rest :: k)) cs) w) :
    MSel P C z l Next mine (G (b.at a (.inRegion ops (i :: rest) :: k)) cs) w := by
  have hfin : ∀ v, Conc.served (G (b.at a (.inRegion ops (i :: rest) :: k)) cs) v = G (b.at (a.put o.dst v) (.inRegion ops rest :: k)) cs := fun v => by
    have : (b.at a (.inRegion ops (i :: rest) :: k)).finish v = b.at (a.put o.dst v) (.inRegion ops rest :: k) := by rw [Frame.finish_at, ho]; rfl
    unfold Conc.served G
    simp only [this]
  refine ⟨rfl, ?_, fun s v vs e => ?_, fun s e => ?_⟩
  . rw [stepG_comm ho hw hk (hr w), listed_nil (he w)]
    rfl
  . show Next _ mine (Conc.served (G (b.at a (.inRegion ops (i :: rest) :: k)) cs) (tup z s v true)) w
    rw [hfin]
    exact h1 s v vs e
  . show Next _ mine (Conc.served (G (b.at a (.inRegion ops (i :: rest) :: k)) cs) (tup z s z false)) w
    rw [hfin]
    exact h2 s e
end
theorem ev_equalIn_chan {P : Program} (d : Nat) (t : TypeId) (dr : ChanDir) (e : TypeId) (x y : Option Nat) (w : World) (h : P.underlying t = some (.chan dr e)) : Sem.events P (Op.equalIn (d + 1) t (.chan x) (.chan y)) w #[] = #[] := by
  simp [Op.equalIn, run_underlying h]
theorem ev_neq_chan (x y : Option Nat) (w : World) : Sem.events Tryz.prog (binOp .neq 211 (.chan x) (.chan y)) w #[] = #[] := by
  have h : binOp .neq 211 (.chan x) (.chan y) = (do pure (.bool (!(<- Op.equal 211 (.chan x) (.chan y))))) := by simp [binOp]
  rw [h]
  have e := ev_equalIn_chan (P := Tryz.prog) 9999 211 _ _ x y w Tryz.underlying211
  rw [Sem.events_bind]
  unfold Op.equal Op.maxDepth
  rw [e]
  cases (Op.equalIn 10000 211 (.chan x) (.chan y)).run Tryz.prog w <;> simp
theorem gbo_retT {P : Program} {C : Ch} {main : Bool} {Stop : List Nat -> Goroutine -> World -> Prop} {n : Nat} {mine : List Nat} {w : World} {a : Act} {k : List Item} {f : FuncId} {fc : Func} {t : Tmp} (hf : P.funcs[f]? = some fc) (hr : fc.results = #[.tmp t]) (hd : a.defers = []) {bc : Frame} {ac : Act} {opsc : Array Oper} {ic : Nat} {restc : List Nat} {oc : Oper} {kc : List Item} {csc : List Frame} (ho : opsc[ic]? = some oc)
    (h : Gb P C main Stop n mine (G (bc.at (ac.put oc.dst (a.tmps.getD t undef)) (.inRegion opsc restc :: kc)) csc) w) : Gb P C main Stop (n + 2) mine (G ((base f).at a (.code .ret :: k)) (bc.at ac (.inRegion opsc (ic :: restc) :: kc) :: csc)) w := by
  have hfin : ∀ v, (bc.at ac (.inRegion opsc (ic :: restc) :: kc)).finish v = bc.at (ac.put oc.dst v) (.inRegion opsc restc :: kc) := fun v => by rw [Frame.finish_at, ho]; rfl
  refine Gb.ctl rfl rfl (fun _ => stepG_ret') (Gb.step rfl fun w₁ h₁ => ?_)
  refine ⟨_, w₁, _, stepG_leaveE (b := base f) rfl hd hf (results_tmp hr _ P w₁), rfl, .read fun e he => ?_, ?_⟩
  . have := mem_seen he
    rw [events_results_tmp hr] at this
    simp at this
  . rw [grow_self, hfin]
    exact h.rel h₁
def gZ : Value := .agg #[.int .i64 0, .int .i64 0, .int .i64 0, .string ⟨#[]⟩]
structure Gat (C : Ch) (w0 : World) (mine : List Nat) (w : World) (v : Value) (fs : List Fd) : Prop where
  grew : Grew C [] w0 mine w
  own : w.ownsRow C.base 134 4 v fs.length (fs.flatMap Fd.c)
  inn : OwnIn mine v
theorem Gat.step {C : Ch} {w0 w w₁ : World} {mine : List Nat} {v : Value} {fs : List Fd} (h : Gat C w0 mine w v fs) (hr : Rel C mine w w₁) : Gat C w0 mine w₁ v fs := ⟨h.grew.step hr, own_rel h.own h.inn hr, h.inn⟩
theorem OwnIn.cons {m : List Nat} {v : Value} (h : OwnIn m v) (x : Nat) : OwnIn (x :: m) v := fun g hg => List.mem_cons_of_mem _ (h g hg)
theorem Gat.alloc {C : Ch} {w0 w : World} {mine : List Nat} {v : Value} {fs : List Fd} (h : Gat C w0 mine w v fs) (x : Obj) : Gat C w0 (w.heap.size :: mine) (w.alloc x) v fs :=
  ⟨h.grew.alloc x, ⟨h.own.1, h.own.2.imp id fun ⟨g, cap, cur, e, h1, h2, h3⟩ => ⟨g, cap, cur, e, h1, look_alloc h2, h3⟩⟩, h.inn.cons _⟩
theorem Gat.row {C : Ch} {w0 w : World} {mine : List Nat} {v : Value} {fs : List Fd} (h : Gat C w0 mine w v fs) {b : Nat} (hn : New C [] b) (hne : v.ownBlock ≠ some b) (c : Array Value) : Gat C w0 mine (w.setRow b c) v fs :=
  ⟨h.grew.row hn c, ⟨h.own.1, h.own.2.imp id fun ⟨g, cap, cur, e, h1, h2, h3⟩ => ⟨g, cap, cur, e, h1, look_row (fun e' => hne (by rw [e, e']; rfl)) h2, h3⟩⟩, h.inn⟩
theorem Gat.app {C : Ch} {w0 w w₁ w' : World} {mine : List Nat} {v v' : Value} {fs : List Fd} {f : Fd} (h : Gat C w0 mine w v fs) (hr : Rel C mine w w₁) (ho : w'.ownsRow C.base 134 4 v' (fs.length + 1) (fs.flatMap Fd.c ++ f.c)) (hg : w₁.grownBy w' v.ownBlock) (hi : OwnIn (grow mine w₁ w') v') : Gat C w0 (grow mine w₁ w') w' v' (fs ++ [f]) := by
  have h1 := h.step hr
  refine ⟨⟨h1.grew.rel.trans ⟨hg.tape, hg.os, hg.output, hg.size, fun b hb => ?_⟩, fun b hb => (by cases hb), ⟨Nat.le_trans h1.grew.sits.base hg.size, fun b hb => ?_⟩, h1.grew.sits0⟩, ?_, hi⟩
  . rcases hb with hb | hb
    . refine hg.block b (Nat.lt_of_lt_of_le hb.1 h1.grew.sits.base) fun e => ?_
      rcases h.own.2 with ⟨rfl, _⟩ | ⟨g, cap, cur, rfl, h3, _⟩
      . cases e
      . simp only [Value.ownBlock, Option.some.injEq] at e
        have := hb.1
        omega
    . cases hb
  . rcases (mem_grow hg.size).1 hb with hb | hb
    . exact hb.2
    . exact Nat.lt_of_lt_of_le (h1.grew.sits.mine b hb) hg.size
  . simpa using ho
def IsGat (body rest : Code) : Prop := ∃ x y, Tryz.f102.body = some (.seq x (.seq y (.seq (.block 0 (.loop body)) rest)))
def AtG (x0 x1 : Option Nat) (v : Value) (body rest : Code) (cs : List Frame) (g : Goroutine) : Prop := ∃ s2 s3 s4 s6 s7 s8 s9 s10 s11 s12 s13 s14 s15 s16 s17 s18 s19 s20 s21 s22 s23 s24 s25 s26 s27 s28 s29 s30 s31 s32 s33 s34 s35 s36 s37 s38 : Value,
  g = G ((base 102).at ⟨#[.chan x0, .chan x1, s2, s3, s4, v, s6, s7, s8, s9, s10, s11, s12, s13, s14, s15, s16, s17, s18, s19, s20, s21, s22, s23, s24, s25, s26, s27, s28, s29, s30, s31, s32, s33, s34, s35, s36, s37, s38], []⟩ [.code body, .inLoop body, .inBlock 0, .code rest]) cs
def lv (l : Bool -> Option (List Fd)) : Lft := fun s => (l s).map (·.map Fd.v)
def chN (C : Ch) (l : Bool -> Option (List Fd)) (s : Bool) : Option Nat := if (l s).isSome then some (C.c s) else none
def setF (l : Bool -> Option (List Fd)) (s : Bool) (x : Option (List Fd)) : Bool -> Option (List Fd) := fun s' => if s' = s then x else l s'
theorem lv_set (l : Bool -> Option (List Fd)) (s : Bool) (x : Option (List Fd)) : setL (lv l) s (x.map (·.map Fd.v)) = lv (setF l s x) := by
  funext s'
  unfold setL lv setF
  split <;> rfl
theorem lv_cons {l : Bool -> Option (List Fd)} {s : Bool} {y : Value} {ys : List Value} (h : lv l s = some (y :: ys)) : ∃ x xs, l s = some (x :: xs) /\ y = x.v /\ ys = xs.map Fd.v := by
  unfold lv at h
  cases hl : l s with
  | none => rw [hl] at h; cases h
  | some zs =>
    rw [hl] at h
    cases zs with
    | nil => cases h
    | cons x xs =>
      simp only [Option.map_some, List.map_cons, Option.some.injEq, List.cons.injEq] at h
      exact ⟨x, xs, rfl, h.1.symm, h.2.symm⟩
theorem lv_nil {l : Bool -> Option (List Fd)} {s : Bool} (h : lv l s = some []) : l s = some [] := by
  unfold lv at h
  cases hl : l s with
  | none => rw [hl] at h; cases h
  | some zs =>
    rw [hl] at h
    cases zs with
    | nil => rfl
    | cons x xs => cases h
def Gaths (C : Ch) (w0 : World) (body rest : Code) (cs : List Frame) (K : List Nat -> Goroutine -> World -> Prop) (f : Nat) (l : Bool -> Option (List Fd)) (fs : List Fd) : Prop := ∃ N, ∀ (mine : List Nat) (w : World) (v : Value) (g : Goroutine), Gat C w0 mine w v fs -> AtG (chN C l false) (chN C l true) v body rest cs g -> Gb Tryz.prog C true (StopM Tryz.prog C gZ K f (lv l)) N mine g w
theorem range4 {w : World} {b : Nat} {t : TypeId} {a0 a1 a2 a3 : Value} (h : w.heap[b]? = some (.cells #[a0, a1, a2, a3] t (0, 0))) : w.rangeAt b 0 [a0, a1, a2, a3] := range_of h 0 fun q u hu => by
  match q, hu with
  | 0, hu => simpa using hu
  | 1, hu => simpa using hu
  | 2, hu => simpa using hu
  | 3, hu => simpa using hu
  | q + 4, hu => simp at hu
theorem Tryz.infoFd : (Tryz.prog.info? 134).map (fun i => (i.zero, i.size, i.bytes)) = some (some gZ, 4, 40) := by kernel_rfl
theorem load134 (a b c d : Value) : LoadIs Tryz.prog 134 [a, b, c, d] (.agg #[a, b, c, d]) := ⟨by kernel_rfl, _, Tryz.underlying134, .inl ⟨rfl, rfl⟩⟩
theorem sel_run {C : Ch} {a : Act} {o : Oper} (l : Bool -> Option (List Fd)) (hop : o.op = .select #[{ chan := .tmp 16, send := none, elem := 134 }, { chan := .tmp 17, send := none, elem := 134 }] true) (h0 : a.eval (.tmp 16) = .chan (chN C l false)) (h1 : a.eval (.tmp 17) = .chan (chN C l true)) (w : World) :
    (execOp a.eval o).run Tryz.prog w = .ok (.comm (mcases C (lv l) gZ) true .select) w /\ (execOp a.eval o).events Tryz.prog w #[] = #[] := by
  have hm : mcases C (lv l) gZ = #[{ chan := .chan (chN C l false), send := none, zero := gZ }, { chan := .chan (chN C l true), send := none, zero := gZ }] := by
    unfold mcases mcase chN lv
    cases l false <;> cases l true <;> rfl
  have hz : ∀ w, (zeroValue 134).run Tryz.prog w = .ok gZ w := Tryz.zeroValue134
  rw [hm]
  unfold execOp
  simp [hop, h0, h1, hz]
set_option maxHeartbeats 4000000 in
theorem gather_two (C : Ch) (w0 : World) (body rest : Code) (hbd : IsGat body rest) (cs : List Frame) (K : List Nat -> Goroutine -> World -> Prop) (f : Nat) (l : Bool -> Option (List Fd)) (fs : List Fd) (hfs : fs.length <= 1000000) (ls rs : List Fd) (h0 : l false = some ls) (h1 : l true = some rs)
    (hn : ∀ s x xs, l s = some (x :: xs) -> Gaths C w0 body rest cs K f (setF l s (some xs)) (fs ++ [x])) (hc : ∀ s, l s = some [] -> Gaths C w0 body rest cs K f (setF l s none) fs) : Gaths C w0 body rest cs K (f + 1) l fs := by
  obtain ⟨x, y, hb⟩ := hbd
  have hb' := hb.symm
  simp only [Tryz.f102, Option.some.injEq, Code.seq.injEq, Code.block.injEq, Code.loop.injEq] at hb'
  obtain ⟨_, _, ⟨_, rfl⟩, rfl⟩ := hb'
  have hk : (base 102).kind ≠ .early := by simp [base]
  have e0 : chN C l false = some (C.c false) := by unfold chN; rw [h0]; rfl
  have e1 : chN C l true = some (C.c true) := by unfold chN; rw [h1]; rfl
  have HCN : Hid _ := hn
  have HCC : Hid _ := hc
  have H0 := hideF h0
  have H1 := hideF h1
  obtain ⟨i0, hi', hz0', hz1', hz2'⟩ := info_parts Tryz.infoFd
  have hi := hideF hi'
  have hz0 := hideF hz0'
  have hz1 := hideF hz1'
  have hz2 := hideF hz2'
  have hi134 : Hid ((Tryz.prog.info? 134).map (·.size) = some 4) := by show _ = _; kernel_rfl
  clear hn hc hb h0 h1 hi' hz0' hz1' hz2'
  unfold Gaths
  rw [e0, e1]
  co_apply Exists.intro
  rintro mine w v g hG ⟨s2, s3, s4, s6, s7, s8, s9, s10, s11, s12, s13, s14, s15, s16, s17, s18, s19, s20, s21, s22, s23, s24, s25, s26, s27, s28, s29, s30, s31, s32, s33, s34, s35, s36, s37, s38, rfl⟩
  repeat (first | (co_apply gbo_region; simp only [List.size_toArray, List.length_cons, List.length_nil, Nat.reduceAdd, Nat.zero_add, List.range, List.range.loop]) | (co_apply gbo_pure rfl (by rfl) hk (by intro _ K hK; go_simp; exact hK) (by intro _; simp [go_sem, ev_len, ev_index, ev_indexI, ev_slice_lo, ev_slice_hi, ev_neq_chan, *]); walk_nrm) | (co_apply gbo_unwanted rfl (by rfl); walk_nrm) | co_apply gbo_nil | co_apply gbo_seq | co_apply gbo_block | co_apply gbo_skip | co_apply gbo_inBlock)
  co_apply gbo_cond
  focus (exact rfl)
  simp only [if_true, if_false, reduceIte, Bool.false_eq_true]
  repeat (first | (co_apply gbo_region; simp only [List.size_toArray, List.length_cons, List.length_nil, Nat.reduceAdd, Nat.zero_add, List.range, List.range.loop]) | (co_apply gbo_pure rfl (by rfl) hk (by intro _ K hK; go_simp; exact hK) (by intro _; simp [go_sem, ev_len, ev_index, ev_indexI, ev_slice_lo, ev_slice_hi, ev_neq_chan, *]); walk_nrm) | (co_apply gbo_unwanted rfl (by rfl); walk_nrm) | co_apply gbo_nil | co_apply gbo_seq | co_apply gbo_block | co_apply gbo_skip | co_apply gbo_inBlock)
  refine Gb.stop (n := 0) fun w₁ h₁ => ?_
  have hG1 := hG.step h₁
  clear hG h₁
  refine atSel rfl (by rfl) hk (fun w => (sel_run l rfl (by rw [e0]; rfl) (by rw [e1]; rfl) w).1) (fun w => (sel_run l rfl (by rw [e0]; rfl) (by rw [e1]; rfl) w).2) (fun s y ys e => ?_) (fun s e => ?_)
  . cases s
    . obtain ⟨x, xs, hx, rfl, rfl⟩ := lv_cons e
      obtain ⟨NN, hNN⟩ := HCN.out false x xs hx
      have d0 : chN C (setF l false (some xs)) false = some (C.c false) := rfl
      have d1 : chN C (setF l false (some xs)) true = some (C.c true) := e1
      rw [d0, d1] at hNN
      have HNN : Hid _ := hNN
      clear hNN e hx d0 d1
      rw [show (some (List.map Fd.v xs)) = (some xs).map (·.map Fd.v) from rfl, lv_set, mscr_iff]
      unfold tup Fd.v
      simp only [Bool.false_eq_true, if_false, if_true, reduceIte]
      co_apply Exists.intro
      walk_nrm
      repeat (first | (co_apply gbo_region; simp only [List.size_toArray, List.length_cons, List.length_nil, Nat.reduceAdd, Nat.zero_add, List.range, List.range.loop]) | (co_apply gbo_pure rfl (by rfl) hk (by intro _ K hK; go_simp; exact hK) (by intro _; simp [go_sem, ev_len, ev_index, ev_indexI, ev_slice_lo, ev_slice_hi, ev_neq_chan, *]); walk_nrm) | (co_apply gbo_unwanted rfl (by rfl); walk_nrm) | co_apply gbo_nil | co_apply gbo_seq | co_apply gbo_block | co_apply gbo_skip | co_apply gbo_inBlock)
      co_apply gbo_cond
      focus (exact rfl)
      simp only [if_true, if_false, reduceIte, Bool.false_eq_true]
      repeat (first | (co_apply gbo_region; simp only [List.size_toArray, List.length_cons, List.length_nil, Nat.reduceAdd, Nat.zero_add, List.range, List.range.loop]) | (co_apply gbo_pure rfl (by rfl) hk (by intro _ K hK; go_simp; exact hK) (by intro _; simp [go_sem, ev_len, ev_index, ev_indexI, ev_slice_lo, ev_slice_hi, ev_neq_chan, *]); walk_nrm) | (co_apply gbo_unwanted rfl (by rfl); walk_nrm) | co_apply gbo_nil | co_apply gbo_seq | co_apply gbo_block | co_apply gbo_skip | co_apply gbo_inBlock)
      co_apply gbo_alloc rfl (by rfl) hk rfl Tryz.zeroValue134
      intro w₂ h₂
      have hA : Hid (Gat C w0 (w₂.heap.size :: mine) (w₂.alloc (.cells #[.int .i64 0, .int .i64 0, .int .i64 0, .string ⟨#[]⟩] 134 (0, 0))) v fs) := (hG1.step h₂).alloc _
      have hN : Hid (New C [] w₂.heap.size) := (hG1.step h₂).grew.new
      have hne : Hid (v.ownBlock ≠ some w₂.heap.size) := fun e => Nat.lt_irrefl _ ((hG1.step h₂).grew.sits.mine _ (hG1.inn _ e))
      have hc : Hid ((w₂.alloc (.cells #[.int .i64 0, .int .i64 0, .int .i64 0, .string ⟨#[]⟩] 134 (0, 0))).heap[w₂.heap.size]? = some (.cells #[.int .i64 0, .int .i64 0, .int .i64 0, .string ⟨#[]⟩] 134 (0, 0))) := look_new
      clear h₂
      show Gb _ _ _ _ _ _ _ (w₂.alloc (.cells #[.int .i64 0, .int .i64 0, .int .i64 0, .string ⟨#[]⟩] 134 (0, 0)))
      obtain ⟨W, hW⟩ : ∃ W, W = w₂.alloc (.cells #[.int .i64 0, .int .i64 0, .int .i64 0, .string ⟨#[]⟩] 134 (0, 0)) := ⟨_, rfl⟩
      rw [<- hW] at hA hc ⊢
      obtain ⟨g1, hg⟩ : ∃ g, g = w₂.heap.size := ⟨_, rfl⟩
      rw [<- hg] at hA hc hN hne ⊢
      clear hW hg w₂
      walk_nrm
      co_apply gbo_store rfl (by rfl) hk rfl (bl := g1) (v := .agg #[.int .i64 (x.line : Nat), .int .i64 0, .int .i64 (x.unit : Nat), .string x.body]) (by rfl) (by rfl) (List.mem_cons_self ..) hc.out (by rfl) hi134.out (by simp [Value.cells, Value.oneCell'])
      intro w₃ h₃
      have hB : Hid (Gat C w0 (g1 :: mine) (w₃.setRow g1 #[.int .i64 (x.line : Nat), .int .i64 0, .int .i64 (x.unit : Nat), .string x.body]) v fs) := (hA.out.step h₃).row hN.out hne.out _
      have hc2 : Hid ((w₃.setRow g1 #[.int .i64 (x.line : Nat), .int .i64 0, .int .i64 (x.unit : Nat), .string x.body]).heap[g1]? = some (.cells #[.int .i64 (x.line : Nat), .int .i64 0, .int .i64 (x.unit : Nat), .string x.body] 134 (0, 0))) := setRow_heap _ _ _ _ _ _ (h₃.look (.inr (List.mem_cons_self ..)) hc.out)
      clear h₃ hA hc
      show Gb _ _ _ _ _ _ _ (w₃.setRow g1 #[.int .i64 (x.line : Nat), .int .i64 0, .int .i64 (x.unit : Nat), .string x.body])
      obtain ⟨W2, hW⟩ : ∃ W, W = w₃.setRow g1 #[.int .i64 (x.line : Nat), .int .i64 0, .int .i64 (x.unit : Nat), .string x.body] := ⟨_, rfl⟩
      rw [<- hW] at hB hc2 ⊢
      clear hW w₃
      walk_nrm
      repeat (first | (co_apply gbo_region; simp only [List.size_toArray, List.length_cons, List.length_nil, Nat.reduceAdd, Nat.zero_add, List.range, List.range.loop]) | (co_apply gbo_pure rfl (by rfl) hk (by intro _ K hK; go_simp; exact hK) (by intro _; simp [go_sem, ev_len, ev_index, ev_indexI, ev_slice_lo, ev_slice_hi, ev_neq_chan, *]); walk_nrm) | (co_apply gbo_unwanted rfl (by rfl); walk_nrm) | co_apply gbo_nil | co_apply gbo_seq | co_apply gbo_block | co_apply gbo_skip | co_apply gbo_inBlock)
      co_apply gbo_cond
      focus (exact rfl)
      simp only [if_true, if_false, reduceIte, Bool.false_eq_true]
      repeat (first | (co_apply gbo_region; simp only [List.size_toArray, List.length_cons, List.length_nil, Nat.reduceAdd, Nat.zero_add, List.range, List.range.loop]) | (co_apply gbo_pure rfl (by rfl) hk (by intro _ K hK; go_simp; exact hK) (by intro _; simp [go_sem, ev_len, ev_index, ev_indexI, ev_slice_lo, ev_slice_hi, ev_neq_chan, *]); walk_nrm) | (co_apply gbo_unwanted rfl (by rfl); walk_nrm) | co_apply gbo_nil | co_apply gbo_seq | co_apply gbo_block | co_apply gbo_skip | co_apply gbo_inBlock)
      co_apply gbo_load rfl (by rfl) hk rfl (bl := g1) (off := 0) (by rfl) (.inr (List.mem_cons_self ..)) (range4 hc2.out) (load134 _ _ _ _)
      walk_nrm
      co_apply gbo_build rfl (by rfl) hk rfl (cells := #[.int .i64 (x.line : Nat), .int .i64 0, .int .i64 (x.unit : Nat), .string x.body]) (e := 134) (by intro _ K hK; go_simp; exact hK) (by intro _; simp [go_sem, *])
      intro w₄ h₄
      have hC : Hid (Gat C w0 (w₄.heap.size :: g1 :: mine) (w₄.alloc (.cells #[.int .i64 (x.line : Nat), .int .i64 0, .int .i64 (x.unit : Nat), .string x.body] 134 (0, 0))) v fs) := (hB.out.step h₄).alloc _
      have hc3 : Hid ((w₄.alloc (.cells #[.int .i64 (x.line : Nat), .int .i64 0, .int .i64 (x.unit : Nat), .string x.body] 134 (0, 0))).heap[w₄.heap.size]? = some (.cells #[.int .i64 (x.line : Nat), .int .i64 0, .int .i64 (x.unit : Nat), .string x.body] 134 (0, 0))) := look_new
      clear h₄ hB hc2
      show Gb _ _ _ _ _ _ _ (w₄.alloc (.cells #[.int .i64 (x.line : Nat), .int .i64 0, .int .i64 (x.unit : Nat), .string x.body] 134 (0, 0)))
      obtain ⟨W4, hW⟩ : ∃ W, W = w₄.alloc (.cells #[.int .i64 (x.line : Nat), .int .i64 0, .int .i64 (x.unit : Nat), .string x.body] 134 (0, 0)) := ⟨_, rfl⟩
      rw [<- hW] at hC hc3 ⊢
      obtain ⟨g2, hg⟩ : ∃ g, g = w₄.heap.size := ⟨_, rfl⟩
      rw [<- hg] at hC hc3 ⊢
      clear hW hg w₄
      walk_nrm
      co_apply gbo_append rfl (by rfl) hk rfl (bs := C.base) Tryz.underlying129 hi.out hz0.out hz1.out hz2.out (by rfl) (by omega) (v := v) (nn := fs.length) (xs := fs.flatMap Fd.c) (by rfl) hC.out.own hC.out.inn (g := g2) (m := 1) (c := 1) (news := x.c) (by rfl) (List.mem_cons_self ..) (by rfl) (range4 hc3.out) (by intro u hu; simp only [Fd.c, List.mem_cons, List.not_mem_nil, or_false] at hu; rcases hu with rfl | rfl | rfl | rfl <;> rfl) (by omega) (by unfold maxLen; omega) (by omega) hC.out.grew.sits.base
      intro v' w₅ w₆ h₅ ho hgb hin
      have hD := hC.out.app h₅ ho hgb hin
      walk_nrm
      repeat (first | (co_apply gbo_region; simp only [List.size_toArray, List.length_cons, List.length_nil, Nat.reduceAdd, Nat.zero_add, List.range, List.range.loop]) | (co_apply gbo_pure rfl (by rfl) hk (by intro _ K hK; go_simp; exact hK) (by intro _; simp [go_sem, ev_len, ev_index, ev_indexI, ev_slice_lo, ev_slice_hi, ev_neq_chan, *]); walk_nrm) | (co_apply gbo_unwanted rfl (by rfl); walk_nrm) | co_apply gbo_nil | co_apply gbo_seq | co_apply gbo_block | co_apply gbo_skip | co_apply gbo_inBlock)
      co_apply gbo_inLoop
      exact HNN.out _ _ _ _ hD ⟨_, _, _, _, _, _, _, _, _, _, _, _, _, _, _, _, _, _, _, _, _, _, _, _, _, _, _, _, _, _, _, _, _, _, _, _, rfl⟩
    . obtain ⟨x, xs, hx, rfl, rfl⟩ := lv_cons e
      obtain ⟨NN, hNN⟩ := HCN.out true x xs hx
      have d0 : chN C (setF l true (some xs)) false = some (C.c false) := e0
      have d1 : chN C (setF l true (some xs)) true = some (C.c true) := rfl
      rw [d0, d1] at hNN
      have HNN : Hid _ := hNN
      clear hNN e hx d0 d1
      rw [show (some (List.map Fd.v xs)) = (some xs).map (·.map Fd.v) from rfl, lv_set, mscr_iff]
      unfold tup Fd.v
      simp only [Bool.false_eq_true, if_false, if_true, reduceIte]
      co_apply Exists.intro
      walk_nrm
      repeat (first | (co_apply gbo_region; simp only [List.size_toArray, List.length_cons, List.length_nil, Nat.reduceAdd, Nat.zero_add, List.range, List.range.loop]) | (co_apply gbo_pure rfl (by rfl) hk (by intro _ K hK; go_simp; exact hK) (by intro _; simp [go_sem, ev_len, ev_index, ev_indexI, ev_slice_lo, ev_slice_hi, ev_neq_chan, *]); walk_nrm) | (co_apply gbo_unwanted rfl (by rfl); walk_nrm) | co_apply gbo_nil | co_apply gbo_seq | co_apply gbo_block | co_apply gbo_skip | co_apply gbo_inBlock)
      co_apply gbo_cond
      focus (exact rfl)
      simp only [if_true, if_false, reduceIte, Bool.false_eq_true]
      co_apply gbo_cond
      focus (exact rfl)
      simp only [if_true, if_false, reduceIte, Bool.false_eq_true]
      repeat (first | (co_apply gbo_region; simp only [List.size_toArray, List.length_cons, List.length_nil, Nat.reduceAdd, Nat.zero_add, List.range, List.range.loop]) | (co_apply gbo_pure rfl (by rfl) hk (by intro _ K hK; go_simp; exact hK) (by intro _; simp [go_sem, ev_len, ev_index, ev_indexI, ev_slice_lo, ev_slice_hi, ev_neq_chan, *]); walk_nrm) | (co_apply gbo_unwanted rfl (by rfl); walk_nrm) | co_apply gbo_nil | co_apply gbo_seq | co_apply gbo_block | co_apply gbo_skip | co_apply gbo_inBlock)
      co_apply gbo_alloc rfl (by rfl) hk rfl Tryz.zeroValue134
      intro w₂ h₂
      have hA : Hid (Gat C w0 (w₂.heap.size :: mine) (w₂.alloc (.cells #[.int .i64 0, .int .i64 0, .int .i64 0, .string ⟨#[]⟩] 134 (0, 0))) v fs) := (hG1.step h₂).alloc _
      have hN : Hid (New C [] w₂.heap.size) := (hG1.step h₂).grew.new
      have hne : Hid (v.ownBlock ≠ some w₂.heap.size) := fun e => Nat.lt_irrefl _ ((hG1.step h₂).grew.sits.mine _ (hG1.inn _ e))
      have hc : Hid ((w₂.alloc (.cells #[.int .i64 0, .int .i64 0, .int .i64 0, .string ⟨#[]⟩] 134 (0, 0))).heap[w₂.heap.size]? = some (.cells #[.int .i64 0, .int .i64 0, .int .i64 0, .string ⟨#[]⟩] 134 (0, 0))) := look_new
      clear h₂
      show Gb _ _ _ _ _ _ _ (w₂.alloc (.cells #[.int .i64 0, .int .i64 0, .int .i64 0, .string ⟨#[]⟩] 134 (0, 0)))
      obtain ⟨W, hW⟩ : ∃ W, W = w₂.alloc (.cells #[.int .i64 0, .int .i64 0, .int .i64 0, .string ⟨#[]⟩] 134 (0, 0)) := ⟨_, rfl⟩
      rw [<- hW] at hA hc ⊢
      obtain ⟨g1, hg⟩ : ∃ g, g = w₂.heap.size := ⟨_, rfl⟩
      rw [<- hg] at hA hc hN hne ⊢
      clear hW hg w₂
      walk_nrm
      co_apply gbo_store rfl (by rfl) hk rfl (bl := g1) (v := .agg #[.int .i64 (x.line : Nat), .int .i64 0, .int .i64 (x.unit : Nat), .string x.body]) (by rfl) (by rfl) (List.mem_cons_self ..) hc.out (by rfl) hi134.out (by simp [Value.cells, Value.oneCell'])
      intro w₃ h₃
      have hB : Hid (Gat C w0 (g1 :: mine) (w₃.setRow g1 #[.int .i64 (x.line : Nat), .int .i64 0, .int .i64 (x.unit : Nat), .string x.body]) v fs) := (hA.out.step h₃).row hN.out hne.out _
      have hc2 : Hid ((w₃.setRow g1 #[.int .i64 (x.line : Nat), .int .i64 0, .int .i64 (x.unit : Nat), .string x.body]).heap[g1]? = some (.cells #[.int .i64 (x.line : Nat), .int .i64 0, .int .i64 (x.unit : Nat), .string x.body] 134 (0, 0))) := setRow_heap _ _ _ _ _ _ (h₃.look (.inr (List.mem_cons_self ..)) hc.out)
      clear h₃ hA hc
      show Gb _ _ _ _ _ _ _ (w₃.setRow g1 #[.int .i64 (x.line : Nat), .int .i64 0, .int .i64 (x.unit : Nat), .string x.body])
      obtain ⟨W2, hW⟩ : ∃ W, W = w₃.setRow g1 #[.int .i64 (x.line : Nat), .int .i64 0, .int .i64 (x.unit : Nat), .string x.body] := ⟨_, rfl⟩
      rw [<- hW] at hB hc2 ⊢
      clear hW w₃
      walk_nrm
      repeat (first | (co_apply gbo_region; simp only [List.size_toArray, List.length_cons, List.length_nil, Nat.reduceAdd, Nat.zero_add, List.range, List.range.loop]) | (co_apply gbo_pure rfl (by rfl) hk (by intro _ K hK; go_simp; exact hK) (by intro _; simp [go_sem, ev_len, ev_index, ev_indexI, ev_slice_lo, ev_slice_hi, ev_neq_chan, *]); walk_nrm) | (co_apply gbo_unwanted rfl (by rfl); walk_nrm) | co_apply gbo_nil | co_apply gbo_seq | co_apply gbo_block | co_apply gbo_skip | co_apply gbo_inBlock)
      co_apply gbo_cond
      focus (exact rfl)
      simp only [if_true, if_false, reduceIte, Bool.false_eq_true]
      repeat (first | (co_apply gbo_region; simp only [List.size_toArray, List.length_cons, List.length_nil, Nat.reduceAdd, Nat.zero_add, List.range, List.range.loop]) | (co_apply gbo_pure rfl (by rfl) hk (by intro _ K hK; go_simp; exact hK) (by intro _; simp [go_sem, ev_len, ev_index, ev_indexI, ev_slice_lo, ev_slice_hi, ev_neq_chan, *]); walk_nrm) | (co_apply gbo_unwanted rfl (by rfl); walk_nrm) | co_apply gbo_nil | co_apply gbo_seq | co_apply gbo_block | co_apply gbo_skip | co_apply gbo_inBlock)
      co_apply gbo_load rfl (by rfl) hk rfl (bl := g1) (off := 0) (by rfl) (.inr (List.mem_cons_self ..)) (range4 hc2.out) (load134 _ _ _ _)
      walk_nrm
      co_apply gbo_build rfl (by rfl) hk rfl (cells := #[.int .i64 (x.line : Nat), .int .i64 0, .int .i64 (x.unit : Nat), .string x.body]) (e := 134) (by intro _ K hK; go_simp; exact hK) (by intro _; simp [go_sem, *])
      intro w₄ h₄
      have hC : Hid (Gat C w0 (w₄.heap.size :: g1 :: mine) (w₄.alloc (.cells #[.int .i64 (x.line : Nat), .int .i64 0, .int .i64 (x.unit : Nat), .string x.body] 134 (0, 0))) v fs) := (hB.out.step h₄).alloc _
      have hc3 : Hid ((w₄.alloc (.cells #[.int .i64 (x.line : Nat), .int .i64 0, .int .i64 (x.unit : Nat), .string x.body] 134 (0, 0))).heap[w₄.heap.size]? = some (.cells #[.int .i64 (x.line : Nat), .int .i64 0, .int .i64 (x.unit : Nat), .string x.body] 134 (0, 0))) := look_new
      clear h₄ hB hc2
      show Gb _ _ _ _ _ _ _ (w₄.alloc (.cells #[.int .i64 (x.line : Nat), .int .i64 0, .int .i64 (x.unit : Nat), .string x.body] 134 (0, 0)))
      obtain ⟨W4, hW⟩ : ∃ W, W = w₄.alloc (.cells #[.int .i64 (x.line : Nat), .int .i64 0, .int .i64 (x.unit : Nat), .string x.body] 134 (0, 0)) := ⟨_, rfl⟩
      rw [<- hW] at hC hc3 ⊢
      obtain ⟨g2, hg⟩ : ∃ g, g = w₄.heap.size := ⟨_, rfl⟩
      rw [<- hg] at hC hc3 ⊢
      clear hW hg w₄
      walk_nrm
      co_apply gbo_append rfl (by rfl) hk rfl (bs := C.base) Tryz.underlying129 hi.out hz0.out hz1.out hz2.out (by rfl) (by omega) (v := v) (nn := fs.length) (xs := fs.flatMap Fd.c) (by rfl) hC.out.own hC.out.inn (g := g2) (m := 1) (c := 1) (news := x.c) (by rfl) (List.mem_cons_self ..) (by rfl) (range4 hc3.out) (by intro u hu; simp only [Fd.c, List.mem_cons, List.not_mem_nil, or_false] at hu; rcases hu with rfl | rfl | rfl | rfl <;> rfl) (by omega) (by unfold maxLen; omega) (by omega) hC.out.grew.sits.base
      intro v' w₅ w₆ h₅ ho hgb hin
      have hD := hC.out.app h₅ ho hgb hin
      walk_nrm
      repeat (first | (co_apply gbo_region; simp only [List.size_toArray, List.length_cons, List.length_nil, Nat.reduceAdd, Nat.zero_add, List.range, List.range.loop]) | (co_apply gbo_pure rfl (by rfl) hk (by intro _ K hK; go_simp; exact hK) (by intro _; simp [go_sem, ev_len, ev_index, ev_indexI, ev_slice_lo, ev_slice_hi, ev_neq_chan, *]); walk_nrm) | (co_apply gbo_unwanted rfl (by rfl); walk_nrm) | co_apply gbo_nil | co_apply gbo_seq | co_apply gbo_block | co_apply gbo_skip | co_apply gbo_inBlock)
      co_apply gbo_inLoop
      exact HNN.out _ _ _ _ hD ⟨_, _, _, _, _, _, _, _, _, _, _, _, _, _, _, _, _, _, _, _, _, _, _, _, _, _, _, _, _, _, _, _, _, _, _, _, rfl⟩
  . cases s
    . have hx := lv_nil e
      obtain ⟨NN, hNN⟩ := HCC.out false hx
      have d0 : chN C (setF l false none) false = none := rfl
      have d1 : chN C (setF l false none) true = some (C.c true) := e1
      rw [d0, d1] at hNN
      have HNN : Hid _ := hNN
      clear hNN e hx d0 d1
      rw [show (none : Option (List Value)) = (none : Option (List Fd)).map (·.map Fd.v) from rfl, lv_set, mscr_iff]
      unfold tup
      simp only [Bool.false_eq_true, if_false, if_true, reduceIte]
      co_apply Exists.intro
      walk_nrm
      repeat (first | (co_apply gbo_region; simp only [List.size_toArray, List.length_cons, List.length_nil, Nat.reduceAdd, Nat.zero_add, List.range, List.range.loop]) | (co_apply gbo_pure rfl (by rfl) hk (by intro _ K hK; go_simp; exact hK) (by intro _; simp [go_sem, ev_len, ev_index, ev_indexI, ev_slice_lo, ev_slice_hi, ev_neq_chan, *]); walk_nrm) | (co_apply gbo_unwanted rfl (by rfl); walk_nrm) | co_apply gbo_nil | co_apply gbo_seq | co_apply gbo_block | co_apply gbo_skip | co_apply gbo_inBlock)
      co_apply gbo_cond
      focus (exact rfl)
      simp only [if_true, if_false, reduceIte, Bool.false_eq_true]
      repeat (first | (co_apply gbo_region; simp only [List.size_toArray, List.length_cons, List.length_nil, Nat.reduceAdd, Nat.zero_add, List.range, List.range.loop]) | (co_apply gbo_pure rfl (by rfl) hk (by intro _ K hK; go_simp; exact hK) (by intro _; simp [go_sem, ev_len, ev_index, ev_indexI, ev_slice_lo, ev_slice_hi, ev_neq_chan, *]); walk_nrm) | (co_apply gbo_unwanted rfl (by rfl); walk_nrm) | co_apply gbo_nil | co_apply gbo_seq | co_apply gbo_block | co_apply gbo_skip | co_apply gbo_inBlock)
      co_apply gbo_alloc rfl (by rfl) hk rfl Tryz.zeroValue134
      intro w₂ h₂
      have hA : Hid (Gat C w0 (w₂.heap.size :: mine) (w₂.alloc (.cells #[.int .i64 0, .int .i64 0, .int .i64 0, .string ⟨#[]⟩] 134 (0, 0))) v fs) := (hG1.step h₂).alloc _
      have hN : Hid (New C [] w₂.heap.size) := (hG1.step h₂).grew.new
      have hne : Hid (v.ownBlock ≠ some w₂.heap.size) := fun e => Nat.lt_irrefl _ ((hG1.step h₂).grew.sits.mine _ (hG1.inn _ e))
      have hc : Hid ((w₂.alloc (.cells #[.int .i64 0, .int .i64 0, .int .i64 0, .string ⟨#[]⟩] 134 (0, 0))).heap[w₂.heap.size]? = some (.cells #[.int .i64 0, .int .i64 0, .int .i64 0, .string ⟨#[]⟩] 134 (0, 0))) := look_new
      clear h₂
      show Gb _ _ _ _ _ _ _ (w₂.alloc (.cells #[.int .i64 0, .int .i64 0, .int .i64 0, .string ⟨#[]⟩] 134 (0, 0)))
      obtain ⟨W, hW⟩ : ∃ W, W = w₂.alloc (.cells #[.int .i64 0, .int .i64 0, .int .i64 0, .string ⟨#[]⟩] 134 (0, 0)) := ⟨_, rfl⟩
      rw [<- hW] at hA hc ⊢
      obtain ⟨g1, hg⟩ : ∃ g, g = w₂.heap.size := ⟨_, rfl⟩
      rw [<- hg] at hA hc hN hne ⊢
      clear hW hg w₂
      walk_nrm
      co_apply gbo_store rfl (by rfl) hk rfl (bl := g1) (v := gZ) (by rfl) (by rfl) (List.mem_cons_self ..) hc.out (by rfl) hi134.out (by simp [gZ, Value.cells, Value.oneCell'])
      intro w₃ h₃
      have hB : Hid (Gat C w0 (g1 :: mine) (w₃.setRow g1 gZ.cells) v fs) := (hA.out.step h₃).row hN.out hne.out _
      clear h₃ hA hc
      obtain ⟨W2, hW⟩ : ∃ W, W = w₃.setRow g1 gZ.cells := ⟨_, rfl⟩
      rw [<- hW] at hB ⊢
      clear hW w₃
      walk_nrm
      repeat (first | (co_apply gbo_region; simp only [List.size_toArray, List.length_cons, List.length_nil, Nat.reduceAdd, Nat.zero_add, List.range, List.range.loop]) | (co_apply gbo_pure rfl (by rfl) hk (by intro _ K hK; go_simp; exact hK) (by intro _; simp [go_sem, ev_len, ev_index, ev_indexI, ev_slice_lo, ev_slice_hi, ev_neq_chan, *]); walk_nrm) | (co_apply gbo_unwanted rfl (by rfl); walk_nrm) | co_apply gbo_nil | co_apply gbo_seq | co_apply gbo_block | co_apply gbo_skip | co_apply gbo_inBlock)
      co_apply gbo_cond
      focus (exact rfl)
      simp only [if_true, if_false, reduceIte, Bool.false_eq_true]
      repeat (first | (co_apply gbo_region; simp only [List.size_toArray, List.length_cons, List.length_nil, Nat.reduceAdd, Nat.zero_add, List.range, List.range.loop]) | (co_apply gbo_pure rfl (by rfl) hk (by intro _ K hK; go_simp; exact hK) (by intro _; simp [go_sem, ev_len, ev_index, ev_indexI, ev_slice_lo, ev_slice_hi, ev_neq_chan, *]); walk_nrm) | (co_apply gbo_unwanted rfl (by rfl); walk_nrm) | co_apply gbo_nil | co_apply gbo_seq | co_apply gbo_block | co_apply gbo_skip | co_apply gbo_inBlock)
      co_apply gbo_exit rfl
      repeat (first | (co_apply gbo_region; simp only [List.size_toArray, List.length_cons, List.length_nil, Nat.reduceAdd, Nat.zero_add, List.range, List.range.loop]) | (co_apply gbo_pure rfl (by rfl) hk (by intro _ K hK; go_simp; exact hK) (by intro _; simp [go_sem, ev_len, ev_index, ev_indexI, ev_slice_lo, ev_slice_hi, ev_neq_chan, *]); walk_nrm) | (co_apply gbo_unwanted rfl (by rfl); walk_nrm) | co_apply gbo_nil | co_apply gbo_seq | co_apply gbo_block | co_apply gbo_skip | co_apply gbo_inBlock)
      co_apply gbo_inLoop
      exact HNN.out _ _ _ _ hB.out ⟨_, _, _, _, _, _, _, _, _, _, _, _, _, _, _, _, _, _, _, _, _, _, _, _, _, _, _, _, _, _, _, _, _, _, _, _, rfl⟩
    . have hx := lv_nil e
      obtain ⟨NN, hNN⟩ := HCC.out true hx
      have d0 : chN C (setF l true none) false = some (C.c false) := e0
      have d1 : chN C (setF l true none) true = none := rfl
      rw [d0, d1] at hNN
      have HNN : Hid _ := hNN
      clear hNN e hx d0 d1
      rw [show (none : Option (List Value)) = (none : Option (List Fd)).map (·.map Fd.v) from rfl, lv_set, mscr_iff]
      unfold tup
      simp only [Bool.false_eq_true, if_false, if_true, reduceIte]
      co_apply Exists.intro
      walk_nrm
      repeat (first | (co_apply gbo_region; simp only [List.size_toArray, List.length_cons, List.length_nil, Nat.reduceAdd, Nat.zero_add, List.range, List.range.loop]) | (co_apply gbo_pure rfl (by rfl) hk (by intro _ K hK; go_simp; exact hK) (by intro _; simp [go_sem, ev_len, ev_index, ev_indexI, ev_slice_lo, ev_slice_hi, ev_neq_chan, *]); walk_nrm) | (co_apply gbo_unwanted rfl (by rfl); walk_nrm) | co_apply gbo_nil | co_apply gbo_seq | co_apply gbo_block | co_apply gbo_skip | co_apply gbo_inBlock)
      co_apply gbo_cond
      focus (exact rfl)
      simp only [if_true, if_false, reduceIte, Bool.false_eq_true]
      co_apply gbo_cond
      focus (exact rfl)
      simp only [if_true, if_false, reduceIte, Bool.false_eq_true]
      repeat (first | (co_apply gbo_region; simp only [List.size_toArray, List.length_cons, List.length_nil, Nat.reduceAdd, Nat.zero_add, List.range, List.range.loop]) | (co_apply gbo_pure rfl (by rfl) hk (by intro _ K hK; go_simp; exact hK) (by intro _; simp [go_sem, ev_len, ev_index, ev_indexI, ev_slice_lo, ev_slice_hi, ev_neq_chan, *]); walk_nrm) | (co_apply gbo_unwanted rfl (by rfl); walk_nrm) | co_apply gbo_nil | co_apply gbo_seq | co_apply gbo_block | co_apply gbo_skip | co_apply gbo_inBlock)
      co_apply gbo_alloc rfl (by rfl) hk rfl Tryz.zeroValue134
      intro w₂ h₂
      have hA : Hid (Gat C w0 (w₂.heap.size :: mine) (w₂.alloc (.cells #[.int .i64 0, .int .i64 0, .int .i64 0, .string ⟨#[]⟩] 134 (0, 0))) v fs) := (hG1.step h₂).alloc _
      have hN : Hid (New C [] w₂.heap.size) := (hG1.step h₂).grew.new
      have hne : Hid (v.ownBlock ≠ some w₂.heap.size) := fun e => Nat.lt_irrefl _ ((hG1.step h₂).grew.sits.mine _ (hG1.inn _ e))
      have hc : Hid ((w₂.alloc (.cells #[.int .i64 0, .int .i64 0, .int .i64 0, .string ⟨#[]⟩] 134 (0, 0))).heap[w₂.heap.size]? = some (.cells #[.int .i64 0, .int .i64 0, .int .i64 0, .string ⟨#[]⟩] 134 (0, 0))) := look_new
      clear h₂
      show Gb _ _ _ _ _ _ _ (w₂.alloc (.cells #[.int .i64 0, .int .i64 0, .int .i64 0, .string ⟨#[]⟩] 134 (0, 0)))
      obtain ⟨W, hW⟩ : ∃ W, W = w₂.alloc (.cells #[.int .i64 0, .int .i64 0, .int .i64 0, .string ⟨#[]⟩] 134 (0, 0)) := ⟨_, rfl⟩
      rw [<- hW] at hA hc ⊢
      obtain ⟨g1, hg⟩ : ∃ g, g = w₂.heap.size := ⟨_, rfl⟩
      rw [<- hg] at hA hc hN hne ⊢
      clear hW hg w₂
      walk_nrm
      co_apply gbo_store rfl (by rfl) hk rfl (bl := g1) (v := gZ) (by rfl) (by rfl) (List.mem_cons_self ..) hc.out (by rfl) hi134.out (by simp [gZ, Value.cells, Value.oneCell'])
      intro w₃ h₃
      have hB : Hid (Gat C w0 (g1 :: mine) (w₃.setRow g1 gZ.cells) v fs) := (hA.out.step h₃).row hN.out hne.out _
      clear h₃ hA hc
      obtain ⟨W2, hW⟩ : ∃ W, W = w₃.setRow g1 gZ.cells := ⟨_, rfl⟩
      rw [<- hW] at hB ⊢
      clear hW w₃
      walk_nrm
      repeat (first | (co_apply gbo_region; simp only [List.size_toArray, List.length_cons, List.length_nil, Nat.reduceAdd, Nat.zero_add, List.range, List.range.loop]) | (co_apply gbo_pure rfl (by rfl) hk (by intro _ K hK; go_simp; exact hK) (by intro _; simp [go_sem, ev_len, ev_index, ev_indexI, ev_slice_lo, ev_slice_hi, ev_neq_chan, *]); walk_nrm) | (co_apply gbo_unwanted rfl (by rfl); walk_nrm) | co_apply gbo_nil | co_apply gbo_seq | co_apply gbo_block | co_apply gbo_skip | co_apply gbo_inBlock)
      co_apply gbo_cond
      focus (exact rfl)
      simp only [if_true, if_false, reduceIte, Bool.false_eq_true]
      repeat (first | (co_apply gbo_region; simp only [List.size_toArray, List.length_cons, List.length_nil, Nat.reduceAdd, Nat.zero_add, List.range, List.range.loop]) | (co_apply gbo_pure rfl (by rfl) hk (by intro _ K hK; go_simp; exact hK) (by intro _; simp [go_sem, ev_len, ev_index, ev_indexI, ev_slice_lo, ev_slice_hi, ev_neq_chan, *]); walk_nrm) | (co_apply gbo_unwanted rfl (by rfl); walk_nrm) | co_apply gbo_nil | co_apply gbo_seq | co_apply gbo_block | co_apply gbo_skip | co_apply gbo_inBlock)
      co_apply gbo_exit rfl
      repeat (first | (co_apply gbo_region; simp only [List.size_toArray, List.length_cons, List.length_nil, Nat.reduceAdd, Nat.zero_add, List.range, List.range.loop]) | (co_apply gbo_pure rfl (by rfl) hk (by intro _ K hK; go_simp; exact hK) (by intro _; simp [go_sem, ev_len, ev_index, ev_indexI, ev_slice_lo, ev_slice_hi, ev_neq_chan, *]); walk_nrm) | (co_apply gbo_unwanted rfl (by rfl); walk_nrm) | co_apply gbo_nil | co_apply gbo_seq | co_apply gbo_block | co_apply gbo_skip | co_apply gbo_inBlock)
      co_apply gbo_inLoop
      exact HNN.out _ _ _ _ hB.out ⟨_, _, _, _, _, _, _, _, _, _, _, _, _, _, _, _, _, _, _, _, _, _, _, _, _, _, _, _, _, _, _, _, _, _, _, _, rfl⟩
set_option maxHeartbeats 4000000 in
theorem gather_left (C : Ch) (w0 : World) (body rest : Code) (hbd : IsGat body rest) (cs : List Frame) (K : List Nat -> Goroutine -> World -> Prop) (f : Nat) (l : Bool -> Option (List Fd)) (fs : List Fd) (hfs : fs.length <= 1000000) (ls : List Fd) (h0 : l false = some ls) (h1 : l true = none)
    (hn : ∀ s x xs, l s = some (x :: xs) -> Gaths C w0 body rest cs K f (setF l s (some xs)) (fs ++ [x])) (hc : ∀ s, l s = some [] -> Gaths C w0 body rest cs K f (setF l s none) fs) : Gaths C w0 body rest cs K (f + 1) l fs := by
  obtain ⟨x, y, hb⟩ := hbd
  have hb' := hb.symm
  simp only [Tryz.f102, Option.some.injEq, Code.seq.injEq, Code.block.injEq, Code.loop.injEq] at hb'
  obtain ⟨_, _, ⟨_, rfl⟩, rfl⟩ := hb'
  have hk : (base 102).kind ≠ .early := by simp [base]
  have e0 : chN C l false = some (C.c false) := by unfold chN; rw [h0]; rfl
  have e1 : chN C l true = none := by unfold chN; rw [h1]; rfl
  have HCN : Hid _ := hn
  have HCC : Hid _ := hc
  have H0 := hideF h0
  have H1 := hideF h1
  obtain ⟨i0, hi', hz0', hz1', hz2'⟩ := info_parts Tryz.infoFd
  have hi := hideF hi'
  have hz0 := hideF hz0'
  have hz1 := hideF hz1'
  have hz2 := hideF hz2'
  have hi134 : Hid ((Tryz.prog.info? 134).map (·.size) = some 4) := by show _ = _; kernel_rfl
  clear hn hc hb h0 h1 hi' hz0' hz1' hz2'
  unfold Gaths
  rw [e0, e1]
  co_apply Exists.intro
  rintro mine w v g hG ⟨s2, s3, s4, s6, s7, s8, s9, s10, s11, s12, s13, s14, s15, s16, s17, s18, s19, s20, s21, s22, s23, s24, s25, s26, s27, s28, s29, s30, s31, s32, s33, s34, s35, s36, s37, s38, rfl⟩
  repeat (first | (co_apply gbo_region; simp only [List.size_toArray, List.length_cons, List.length_nil, Nat.reduceAdd, Nat.zero_add, List.range, List.range.loop]) | (co_apply gbo_pure rfl (by rfl) hk (by intro _ K hK; go_simp; exact hK) (by intro _; simp [go_sem, ev_len, ev_index, ev_indexI, ev_slice_lo, ev_slice_hi, ev_neq_chan, *]); walk_nrm) | (co_apply gbo_unwanted rfl (by rfl); walk_nrm) | co_apply gbo_nil | co_apply gbo_seq | co_apply gbo_block | co_apply gbo_skip | co_apply gbo_inBlock)
  co_apply gbo_cond
  focus (exact rfl)
  simp only [if_true, if_false, reduceIte, Bool.false_eq_true]
  repeat (first | (co_apply gbo_region; simp only [List.size_toArray, List.length_cons, List.length_nil, Nat.reduceAdd, Nat.zero_add, List.range, List.range.loop]) | (co_apply gbo_pure rfl (by rfl) hk (by intro _ K hK; go_simp; exact hK) (by intro _; simp [go_sem, ev_len, ev_index, ev_indexI, ev_slice_lo, ev_slice_hi, ev_neq_chan, *]); walk_nrm) | (co_apply gbo_unwanted rfl (by rfl); walk_nrm) | co_apply gbo_nil | co_apply gbo_seq | co_apply gbo_block | co_apply gbo_skip | co_apply gbo_inBlock)
  refine Gb.stop (n := 0) fun w₁ h₁ => ?_
  have hG1 := hG.step h₁
  clear hG h₁
  refine atSel rfl (by rfl) hk (fun w => (sel_run l rfl (by rw [e0]; rfl) (by rw [e1]; rfl) w).1) (fun w => (sel_run l rfl (by rw [e0]; rfl) (by rw [e1]; rfl) w).2) (fun s y ys e => ?_) (fun s e => ?_)
  . cases s
    . obtain ⟨x, xs, hx, rfl, rfl⟩ := lv_cons e
      obtain ⟨NN, hNN⟩ := HCN.out false x xs hx
      have d0 : chN C (setF l false (some xs)) false = some (C.c false) := rfl
      have d1 : chN C (setF l false (some xs)) true = none := e1
      rw [d0, d1] at hNN
      have HNN : Hid _ := hNN
      clear hNN e hx d0 d1
      rw [show (some (List.map Fd.v xs)) = (some xs).map (·.map Fd.v) from rfl, lv_set, mscr_iff]
      unfold tup Fd.v
      simp only [Bool.false_eq_true, if_false, if_true, reduceIte]
      co_apply Exists.intro
      walk_nrm
      repeat (first | (co_apply gbo_region; simp only [List.size_toArray, List.length_cons, List.length_nil, Nat.reduceAdd, Nat.zero_add, List.range, List.range.loop]) | (co_apply gbo_pure rfl (by rfl) hk (by intro _ K hK; go_simp; exact hK) (by intro _; simp [go_sem, ev_len, ev_index, ev_indexI, ev_slice_lo, ev_slice_hi, ev_neq_chan, *]); walk_nrm) | (co_apply gbo_unwanted rfl (by rfl); walk_nrm) | co_apply gbo_nil | co_apply gbo_seq | co_apply gbo_block | co_apply gbo_skip | co_apply gbo_inBlock)
      co_apply gbo_cond
      focus (exact rfl)
      simp only [if_true, if_false, reduceIte, Bool.false_eq_true]
      repeat (first | (co_apply gbo_region; simp only [List.size_toArray, List.length_cons, List.length_nil, Nat.reduceAdd, Nat.zero_add, List.range, List.range.loop]) | (co_apply gbo_pure rfl (by rfl) hk (by intro _ K hK; go_simp; exact hK) (by intro _; simp [go_sem, ev_len, ev_index, ev_indexI, ev_slice_lo, ev_slice_hi, ev_neq_chan, *]); walk_nrm) | (co_apply gbo_unwanted rfl (by rfl); walk_nrm) | co_apply gbo_nil | co_apply gbo_seq | co_apply gbo_block | co_apply gbo_skip | co_apply gbo_inBlock)
      co_apply gbo_alloc rfl (by rfl) hk rfl Tryz.zeroValue134
      intro w₂ h₂
      have hA : Hid (Gat C w0 (w₂.heap.size :: mine) (w₂.alloc (.cells #[.int .i64 0, .int .i64 0, .int .i64 0, .string ⟨#[]⟩] 134 (0, 0))) v fs) := (hG1.step h₂).alloc _
      have hN : Hid (New C [] w₂.heap.size) := (hG1.step h₂).grew.new
      have hne : Hid (v.ownBlock ≠ some w₂.heap.size) := fun e => Nat.lt_irrefl _ ((hG1.step h₂).grew.sits.mine _ (hG1.inn _ e))
      have hc : Hid ((w₂.alloc (.cells #[.int .i64 0, .int .i64 0, .int .i64 0, .string ⟨#[]⟩] 134 (0, 0))).heap[w₂.heap.size]? = some (.cells #[.int .i64 0, .int .i64 0, .int .i64 0, .string ⟨#[]⟩] 134 (0, 0))) := look_new
      clear h₂
      show Gb _ _ _ _ _ _ _ (w₂.alloc (.cells #[.int .i64 0, .int .i64 0, .int .i64 0, .string ⟨#[]⟩] 134 (0, 0)))
      obtain ⟨W, hW⟩ : ∃ W, W = w₂.alloc (.cells #[.int .i64 0, .int .i64 0, .int .i64 0, .string ⟨#[]⟩] 134 (0, 0)) := ⟨_, rfl⟩
      rw [<- hW] at hA hc ⊢
      obtain ⟨g1, hg⟩ : ∃ g, g = w₂.heap.size := ⟨_, rfl⟩
      rw [<- hg] at hA hc hN hne ⊢
      clear hW hg w₂
      walk_nrm
      co_apply gbo_store rfl (by rfl) hk rfl (bl := g1) (v := .agg #[.int .i64 (x.line : Nat), .int .i64 0, .int .i64 (x.unit : Nat), .string x.body]) (by rfl) (by rfl) (List.mem_cons_self ..) hc.out (by rfl) hi134.out (by simp [Value.cells, Value.oneCell'])
      intro w₃ h₃
      have hB : Hid (Gat C w0 (g1 :: mine) (w₃.setRow g1 #[.int .i64 (x.line : Nat), .int .i64 0, .int .i64 (x.unit : Nat), .string x.body]) v fs) := (hA.out.step h₃).row hN.out hne.out _
      have hc2 : Hid ((w₃.setRow g1 #[.int .i64 (x.line : Nat), .int .i64 0, .int .i64 (x.unit : Nat), .string x.body]).heap[g1]? = some (.cells #[.int .i64 (x.line : Nat), .int .i64 0, .int .i64 (x.unit : Nat), .string x.body] 134 (0, 0))) := setRow_heap _ _ _ _ _ _ (h₃.look (.inr (List.mem_cons_self ..)) hc.out)
      clear h₃ hA hc
      show Gb _ _ _ _ _ _ _ (w₃.setRow g1 #[.int .i64 (x.line : Nat), .int .i64 0, .int .i64 (x.unit : Nat), .string x.body])
      obtain ⟨W2, hW⟩ : ∃ W, W = w₃.setRow g1 #[.int .i64 (x.line : Nat), .int .i64 0, .int .i64 (x.unit : Nat), .string x.body] := ⟨_, rfl⟩
      rw [<- hW] at hB hc2 ⊢
      clear hW w₃
      walk_nrm
      repeat (first | (co_apply gbo_region; simp only [List.size_toArray, List.length_cons, List.length_nil, Nat.reduceAdd, Nat.zero_add, List.range, List.range.loop]) | (co_apply gbo_pure rfl (by rfl) hk (by intro _ K hK; go_simp; exact hK) (by intro _; simp [go_sem, ev_len, ev_index, ev_indexI, ev_slice_lo, ev_slice_hi, ev_neq_chan, *]); walk_nrm) | (co_apply gbo_unwanted rfl (by rfl); walk_nrm) | co_apply gbo_nil | co_apply gbo_seq | co_apply gbo_block | co_apply gbo_skip | co_apply gbo_inBlock)
      co_apply gbo_cond
      focus (exact rfl)
      simp only [if_true, if_false, reduceIte, Bool.false_eq_true]
      repeat (first | (co_apply gbo_region; simp only [List.size_toArray, List.length_cons, List.length_nil, Nat.reduceAdd, Nat.zero_add, List.range, List.range.loop]) | (co_apply gbo_pure rfl (by rfl) hk (by intro _ K hK; go_simp; exact hK) (by intro _; simp [go_sem, ev_len, ev_index, ev_indexI, ev_slice_lo, ev_slice_hi, ev_neq_chan, *]); walk_nrm) | (co_apply gbo_unwanted rfl (by rfl); walk_nrm) | co_apply gbo_nil | co_apply gbo_seq | co_apply gbo_block | co_apply gbo_skip | co_apply gbo_inBlock)
      co_apply gbo_load rfl (by rfl) hk rfl (bl := g1) (off := 0) (by rfl) (.inr (List.mem_cons_self ..)) (range4 hc2.out) (load134 _ _ _ _)
      walk_nrm
      co_apply gbo_build rfl (by rfl) hk rfl (cells := #[.int .i64 (x.line : Nat), .int .i64 0, .int .i64 (x.unit : Nat), .string x.body]) (e := 134) (by intro _ K hK; go_simp; exact hK) (by intro _; simp [go_sem, *])
      intro w₄ h₄
      have hC : Hid (Gat C w0 (w₄.heap.size :: g1 :: mine) (w₄.alloc (.cells #[.int .i64 (x.line : Nat), .int .i64 0, .int .i64 (x.unit : Nat), .string x.body] 134 (0, 0))) v fs) := (hB.out.step h₄).alloc _
      have hc3 : Hid ((w₄.alloc (.cells #[.int .i64 (x.line : Nat), .int .i64 0, .int .i64 (x.unit : Nat), .string x.body] 134 (0, 0))).heap[w₄.heap.size]? = some (.cells #[.int .i64 (x.line : Nat), .int .i64 0, .int .i64 (x.unit : Nat), .string x.body] 134 (0, 0))) := look_new
      clear h₄ hB hc2
      show Gb _ _ _ _ _ _ _ (w₄.alloc (.cells #[.int .i64 (x.line : Nat), .int .i64 0, .int .i64 (x.unit : Nat), .string x.body] 134 (0, 0)))
      obtain ⟨W4, hW⟩ : ∃ W, W = w₄.alloc (.cells #[.int .i64 (x.line : Nat), .int .i64 0, .int .i64 (x.unit : Nat), .string x.body] 134 (0, 0)) := ⟨_, rfl⟩
      rw [<- hW] at hC hc3 ⊢
      obtain ⟨g2, hg⟩ : ∃ g, g = w₄.heap.size := ⟨_, rfl⟩
      rw [<- hg] at hC hc3 ⊢
      clear hW hg w₄
      walk_nrm
      co_apply gbo_append rfl (by rfl) hk rfl (bs := C.base) Tryz.underlying129 hi.out hz0.out hz1.out hz2.out (by rfl) (by omega) (v := v) (nn := fs.length) (xs := fs.flatMap Fd.c) (by rfl) hC.out.own hC.out.inn (g := g2) (m := 1) (c := 1) (news := x.c) (by rfl) (List.mem_cons_self ..) (by rfl) (range4 hc3.out) (by intro u hu; simp only [Fd.c, List.mem_cons, List.not_mem_nil, or_false] at hu; rcases hu with rfl | rfl | rfl | rfl <;> rfl) (by omega) (by unfold maxLen; omega) (by omega) hC.out.grew.sits.base
      intro v' w₅ w₆ h₅ ho hgb hin
      have hD := hC.out.app h₅ ho hgb hin
      walk_nrm
      repeat (first | (co_apply gbo_region; simp only [List.size_toArray, List.length_cons, List.length_nil, Nat.reduceAdd, Nat.zero_add, List.range, List.range.loop]) | (co_apply gbo_pure rfl (by rfl) hk (by intro _ K hK; go_simp; exact hK) (by intro _; simp [go_sem, ev_len, ev_index, ev_indexI, ev_slice_lo, ev_slice_hi, ev_neq_chan, *]); walk_nrm) | (co_apply gbo_unwanted rfl (by rfl); walk_nrm) | co_apply gbo_nil | co_apply gbo_seq | co_apply gbo_block | co_apply gbo_skip | co_apply gbo_inBlock)
      co_apply gbo_inLoop
      exact HNN.out _ _ _ _ hD ⟨_, _, _, _, _, _, _, _, _, _, _, _, _, _, _, _, _, _, _, _, _, _, _, _, _, _, _, _, _, _, _, _, _, _, _, _, rfl⟩
    . simp [lv, H1.out] at e
  . cases s
    . have hx := lv_nil e
      obtain ⟨NN, hNN⟩ := HCC.out false hx
      have d0 : chN C (setF l false none) false = none := rfl
      have d1 : chN C (setF l false none) true = none := e1
      rw [d0, d1] at hNN
      have HNN : Hid _ := hNN
      clear hNN e hx d0 d1
      rw [show (none : Option (List Value)) = (none : Option (List Fd)).map (·.map Fd.v) from rfl, lv_set, mscr_iff]
      unfold tup
      simp only [Bool.false_eq_true, if_false, if_true, reduceIte]
      co_apply Exists.intro
      walk_nrm
      repeat (first | (co_apply gbo_region; simp only [List.size_toArray, List.length_cons, List.length_nil, Nat.reduceAdd, Nat.zero_add, List.range, List.range.loop]) | (co_apply gbo_pure rfl (by rfl) hk (by intro _ K hK; go_simp; exact hK) (by intro _; simp [go_sem, ev_len, ev_index, ev_indexI, ev_slice_lo, ev_slice_hi, ev_neq_chan, *]); walk_nrm) | (co_apply gbo_unwanted rfl (by rfl); walk_nrm) | co_apply gbo_nil | co_apply gbo_seq | co_apply gbo_block | co_apply gbo_skip | co_apply gbo_inBlock)
      co_apply gbo_cond
      focus (exact rfl)
      simp only [if_true, if_false, reduceIte, Bool.false_eq_true]
      repeat (first | (co_apply gbo_region; simp only [List.size_toArray, List.length_cons, List.length_nil, Nat.reduceAdd, Nat.zero_add, List.range, List.range.loop]) | (co_apply gbo_pure rfl (by rfl) hk (by intro _ K hK; go_simp; exact hK) (by intro _; simp [go_sem, ev_len, ev_index, ev_indexI, ev_slice_lo, ev_slice_hi, ev_neq_chan, *]); walk_nrm) | (co_apply gbo_unwanted rfl (by rfl); walk_nrm) | co_apply gbo_nil | co_apply gbo_seq | co_apply gbo_block | co_apply gbo_skip | co_apply gbo_inBlock)
      co_apply gbo_alloc rfl (by rfl) hk rfl Tryz.zeroValue134
      intro w₂ h₂
      have hA : Hid (Gat C w0 (w₂.heap.size :: mine) (w₂.alloc (.cells #[.int .i64 0, .int .i64 0, .int .i64 0, .string ⟨#[]⟩] 134 (0, 0))) v fs) := (hG1.step h₂).alloc _
      have hN : Hid (New C [] w₂.heap.size) := (hG1.step h₂).grew.new
      have hne : Hid (v.ownBlock ≠ some w₂.heap.size) := fun e => Nat.lt_irrefl _ ((hG1.step h₂).grew.sits.mine _ (hG1.inn _ e))
      have hc : Hid ((w₂.alloc (.cells #[.int .i64 0, .int .i64 0, .int .i64 0, .string ⟨#[]⟩] 134 (0, 0))).heap[w₂.heap.size]? = some (.cells #[.int .i64 0, .int .i64 0, .int .i64 0, .string ⟨#[]⟩] 134 (0, 0))) := look_new
      clear h₂
      show Gb _ _ _ _ _ _ _ (w₂.alloc (.cells #[.int .i64 0, .int .i64 0, .int .i64 0, .string ⟨#[]⟩] 134 (0, 0)))
      obtain ⟨W, hW⟩ : ∃ W, W = w₂.alloc (.cells #[.int .i64 0, .int .i64 0, .int .i64 0, .string ⟨#[]⟩] 134 (0, 0)) := ⟨_, rfl⟩
      rw [<- hW] at hA hc ⊢
      obtain ⟨g1, hg⟩ : ∃ g, g = w₂.heap.size := ⟨_, rfl⟩
      rw [<- hg] at hA hc hN hne ⊢
      clear hW hg w₂
      walk_nrm
      co_apply gbo_store rfl (by rfl) hk rfl (bl := g1) (v := gZ) (by rfl) (by rfl) (List.mem_cons_self ..) hc.out (by rfl) hi134.out (by simp [gZ, Value.cells, Value.oneCell'])
      intro w₃ h₃
      have hB : Hid (Gat C w0 (g1 :: mine) (w₃.setRow g1 gZ.cells) v fs) := (hA.out.step h₃).row hN.out hne.out _
      clear h₃ hA hc
      obtain ⟨W2, hW⟩ : ∃ W, W = w₃.setRow g1 gZ.cells := ⟨_, rfl⟩
      rw [<- hW] at hB ⊢
      clear hW w₃
      walk_nrm
      repeat (first | (co_apply gbo_region; simp only [List.size_toArray, List.length_cons, List.length_nil, Nat.reduceAdd, Nat.zero_add, List.range, List.range.loop]) | (co_apply gbo_pure rfl (by rfl) hk (by intro _ K hK; go_simp; exact hK) (by intro _; simp [go_sem, ev_len, ev_index, ev_indexI, ev_slice_lo, ev_slice_hi, ev_neq_chan, *]); walk_nrm) | (co_apply gbo_unwanted rfl (by rfl); walk_nrm) | co_apply gbo_nil | co_apply gbo_seq | co_apply gbo_block | co_apply gbo_skip | co_apply gbo_inBlock)
      co_apply gbo_cond
      focus (exact rfl)
      simp only [if_true, if_false, reduceIte, Bool.false_eq_true]
      repeat (first | (co_apply gbo_region; simp only [List.size_toArray, List.length_cons, List.length_nil, Nat.reduceAdd, Nat.zero_add, List.range, List.range.loop]) | (co_apply gbo_pure rfl (by rfl) hk (by intro _ K hK; go_simp; exact hK) (by intro _; simp [go_sem, ev_len, ev_index, ev_indexI, ev_slice_lo, ev_slice_hi, ev_neq_chan, *]); walk_nrm) | (co_apply gbo_unwanted rfl (by rfl); walk_nrm) | co_apply gbo_nil | co_apply gbo_seq | co_apply gbo_block | co_apply gbo_skip | co_apply gbo_inBlock)
      co_apply gbo_exit rfl
      repeat (first | (co_apply gbo_region; simp only [List.size_toArray, List.length_cons, List.length_nil, Nat.reduceAdd, Nat.zero_add, List.range, List.range.loop]) | (co_apply gbo_pure rfl (by rfl) hk (by intro _ K hK; go_simp; exact hK) (by intro _; simp [go_sem, ev_len, ev_index, ev_indexI, ev_slice_lo, ev_slice_hi, ev_neq_chan, *]); walk_nrm) | (co_apply gbo_unwanted rfl (by rfl); walk_nrm) | co_apply gbo_nil | co_apply gbo_seq | co_apply gbo_block | co_apply gbo_skip | co_apply gbo_inBlock)
      co_apply gbo_inLoop
      exact HNN.out _ _ _ _ hB.out ⟨_, _, _, _, _, _, _, _, _, _, _, _, _, _, _, _, _, _, _, _, _, _, _, _, _, _, _, _, _, _, _, _, _, _, _, _, rfl⟩
    . simp [lv, H1.out] at e
set_option maxHeartbeats 4000000 in
theorem gather_right (C : Ch) (w0 : World) (body rest : Code) (hbd : IsGat body rest) (cs : List Frame) (K : List Nat -> Goroutine -> World -> Prop) (f : Nat) (l : Bool -> Option (List Fd)) (fs : List Fd) (hfs : fs.length <= 1000000) (rs : List Fd) (h0 : l false = none) (h1 : l true = some rs)
    (hn : ∀ s x xs, l s = some (x :: xs) -> Gaths C w0 body rest cs K f (setF l s (some xs)) (fs ++ [x])) (hc : ∀ s, l s = some [] -> Gaths C w0 body rest cs K f (setF l s none) fs) : Gaths C w0 body rest cs K (f + 1) l fs := by
  obtain ⟨x, y, hb⟩ := hbd
  have hb' := hb.symm
  simp only [Tryz.f102, Option.some.injEq, Code.seq.injEq, Code.block.injEq, Code.loop.injEq] at hb'
  obtain ⟨_, _, ⟨_, rfl⟩, rfl⟩ := hb'
  have hk : (base 102).kind ≠ .early := by simp [base]
  have e0 : chN C l false = none := by unfold chN; rw [h0]; rfl
  have e1 : chN C l true = some (C.c true) := by unfold chN; rw [h1]; rfl
  have HCN : Hid _ := hn
  have HCC : Hid _ := hc
  have H0 := hideF h0
  have H1 := hideF h1
  obtain ⟨i0, hi', hz0', hz1', hz2'⟩ := info_parts Tryz.infoFd
  have hi := hideF hi'
  have hz0 := hideF hz0'
  have hz1 := hideF hz1'
  have hz2 := hideF hz2'
  have hi134 : Hid ((Tryz.prog.info? 134).map (·.size) = some 4) := by show _ = _; kernel_rfl
  clear hn hc hb h0 h1 hi' hz0' hz1' hz2'
  unfold Gaths
  rw [e0, e1]
  co_apply Exists.intro
  rintro mine w v g hG ⟨s2, s3, s4, s6, s7, s8, s9, s10, s11, s12, s13, s14, s15, s16, s17, s18, s19, s20, s21, s22, s23, s24, s25, s26, s27, s28, s29, s30, s31, s32, s33, s34, s35, s36, s37, s38, rfl⟩
  repeat (first | (co_apply gbo_region; simp only [List.size_toArray, List.length_cons, List.length_nil, Nat.reduceAdd, Nat.zero_add, List.range, List.range.loop]) | (co_apply gbo_pure rfl (by rfl) hk (by intro _ K hK; go_simp; exact hK) (by intro _; simp [go_sem, ev_len, ev_index, ev_indexI, ev_slice_lo, ev_slice_hi, ev_neq_chan, *]); walk_nrm) | (co_apply gbo_unwanted rfl (by rfl); walk_nrm) | co_apply gbo_nil | co_apply gbo_seq | co_apply gbo_block | co_apply gbo_skip | co_apply gbo_inBlock)
  co_apply gbo_cond
  focus (exact rfl)
  simp only [if_true, if_false, reduceIte, Bool.false_eq_true]
  repeat (first | (co_apply gbo_region; simp only [List.size_toArray, List.length_cons, List.length_nil, Nat.reduceAdd, Nat.zero_add, List.range, List.range.loop]) | (co_apply gbo_pure rfl (by rfl) hk (by intro _ K hK; go_simp; exact hK) (by intro _; simp [go_sem, ev_len, ev_index, ev_indexI, ev_slice_lo, ev_slice_hi, ev_neq_chan, *]); walk_nrm) | (co_apply gbo_unwanted rfl (by rfl); walk_nrm) | co_apply gbo_nil | co_apply gbo_seq | co_apply gbo_block | co_apply gbo_skip | co_apply gbo_inBlock)
  refine Gb.stop (n := 0) fun w₁ h₁ => ?_
  have hG1 := hG.step h₁
  clear hG h₁
  refine atSel rfl (by rfl) hk (fun w => (sel_run l rfl (by rw [e0]; rfl) (by rw [e1]; rfl) w).1) (fun w => (sel_run l rfl (by rw [e0]; rfl) (by rw [e1]; rfl) w).2) (fun s y ys e => ?_) (fun s e => ?_)
  . cases s
    . simp [lv, H0.out] at e
    . obtain ⟨x, xs, hx, rfl, rfl⟩ := lv_cons e
      obtain ⟨NN, hNN⟩ := HCN.out true x xs hx
      have d0 : chN C (setF l true (some xs)) false = none := e0
      have d1 : chN C (setF l true (some xs)) true = some (C.c true) := rfl
      rw [d0, d1] at hNN
      have HNN : Hid _ := hNN
      clear hNN e hx d0 d1
      rw [show (some (List.map Fd.v xs)) = (some xs).map (·.map Fd.v) from rfl, lv_set, mscr_iff]
      unfold tup Fd.v
      simp only [Bool.false_eq_true, if_false, if_true, reduceIte]
      co_apply Exists.intro
      walk_nrm
      repeat (first | (co_apply gbo_region; simp only [List.size_toArray, List.length_cons, List.length_nil, Nat.reduceAdd, Nat.zero_add, List.range, List.range.loop]) | (co_apply gbo_pure rfl (by rfl) hk (by intro _ K hK; go_simp; exact hK) (by intro _; simp [go_sem, ev_len, ev_index, ev_indexI, ev_slice_lo, ev_slice_hi, ev_neq_chan, *]); walk_nrm) | (co_apply gbo_unwanted rfl (by rfl); walk_nrm) | co_apply gbo_nil | co_apply gbo_seq | co_apply gbo_block | co_apply gbo_skip | co_apply gbo_inBlock)
      co_apply gbo_cond
      focus (exact rfl)
      simp only [if_true, if_false, reduceIte, Bool.false_eq_true]
      co_apply gbo_cond
      focus (exact rfl)
      simp only [if_true, if_false, reduceIte, Bool.false_eq_true]
      repeat (first | (co_apply gbo_region; simp only [List.size_toArray, List.length_cons, List.length_nil, Nat.reduceAdd, Nat.zero_add, List.range, List.range.loop]) | (co_apply gbo_pure rfl (by rfl) hk (by intro _ K hK; go_simp; exact hK) (by intro _; simp [go_sem, ev_len, ev_index, ev_indexI, ev_slice_lo, ev_slice_hi, ev_neq_chan, *]); walk_nrm) | (co_apply gbo_unwanted rfl (by rfl); walk_nrm) | co_apply gbo_nil | co_apply gbo_seq | co_apply gbo_block | co_apply gbo_skip | co_apply gbo_inBlock)
      co_apply gbo_alloc rfl (by rfl) hk rfl Tryz.zeroValue134
      intro w₂ h₂
      have hA : Hid (Gat C w0 (w₂.heap.size :: mine) (w₂.alloc (.cells #[.int .i64 0, .int .i64 0, .int .i64 0, .string ⟨#[]⟩] 134 (0, 0))) v fs) := (hG1.step h₂).alloc _
      have hN : Hid (New C [] w₂.heap.size) := (hG1.step h₂).grew.new
      have hne : Hid (v.ownBlock ≠ some w₂.heap.size) := fun e => Nat.lt_irrefl _ ((hG1.step h₂).grew.sits.mine _ (hG1.inn _ e))
      have hc : Hid ((w₂.alloc (.cells #[.int .i64 0, .int .i64 0, .int .i64 0, .string ⟨#[]⟩] 134 (0, 0))).heap[w₂.heap.size]? = some (.cells #[.int .i64 0, .int .i64 0, .int .i64 0, .string ⟨#[]⟩] 134 (0, 0))) := look_new
      clear h₂
      show Gb _ _ _ _ _ _ _ (w₂.alloc (.cells #[.int .i64 0, .int .i64 0, .int .i64 0, .string ⟨#[]⟩] 134 (0, 0)))
      obtain ⟨W, hW⟩ : ∃ W, W = w₂.alloc (.cells #[.int .i64 0, .int .i64 0, .int .i64 0, .string ⟨#[]⟩] 134 (0, 0)) := ⟨_, rfl⟩
      rw [<- hW] at hA hc ⊢
      obtain ⟨g1, hg⟩ : ∃ g, g = w₂.heap.size := ⟨_, rfl⟩
      rw [<- hg] at hA hc hN hne ⊢
      clear hW hg w₂
      walk_nrm
      co_apply gbo_store rfl (by rfl) hk rfl (bl := g1) (v := .agg #[.int .i64 (x.line : Nat), .int .i64 0, .int .i64 (x.unit : Nat), .string x.body]) (by rfl) (by rfl) (List.mem_cons_self ..) hc.out (by rfl) hi134.out (by simp [Value.cells, Value.oneCell'])
      intro w₃ h₃
      have hB : Hid (Gat C w0 (g1 :: mine) (w₃.setRow g1 #[.int .i64 (x.line : Nat), .int .i64 0, .int .i64 (x.unit : Nat), .string x.body]) v fs) := (hA.out.step h₃).row hN.out hne.out _
      have hc2 : Hid ((w₃.setRow g1 #[.int .i64 (x.line : Nat), .int .i64 0, .int .i64 (x.unit : Nat), .string x.body]).heap[g1]? = some (.cells #[.int .i64 (x.line : Nat), .int .i64 0, .int .i64 (x.unit : Nat), .string x.body] 134 (0, 0))) := setRow_heap _ _ _ _ _ _ (h₃.look (.inr (List.mem_cons_self ..)) hc.out)
      clear h₃ hA hc
      show Gb _ _ _ _ _ _ _ (w₃.setRow g1 #[.int .i64 (x.line : Nat), .int .i64 0, .int .i64 (x.unit : Nat), .string x.body])
      obtain ⟨W2, hW⟩ : ∃ W, W = w₃.setRow g1 #[.int .i64 (x.line : Nat), .int .i64 0, .int .i64 (x.unit : Nat), .string x.body] := ⟨_, rfl⟩
      rw [<- hW] at hB hc2 ⊢
      clear hW w₃
      walk_nrm
      repeat (first | (co_apply gbo_region; simp only [List.size_toArray, List.length_cons, List.length_nil, Nat.reduceAdd, Nat.zero_add, List.range, List.range.loop]) | (co_apply gbo_pure rfl (by rfl) hk (by intro _ K hK; go_simp; exact hK) (by intro _; simp [go_sem, ev_len, ev_index, ev_indexI, ev_slice_lo, ev_slice_hi, ev_neq_chan, *]); walk_nrm) | (co_apply gbo_unwanted rfl (by rfl); walk_nrm) | co_apply gbo_nil | co_apply gbo_seq | co_apply gbo_block | co_apply gbo_skip | co_apply gbo_inBlock)
      co_apply gbo_cond
      focus (exact rfl)
      simp only [if_true, if_false, reduceIte, Bool.false_eq_true]
      repeat (first | (co_apply gbo_region; simp only [List.size_toArray, List.length_cons, List.length_nil, Nat.reduceAdd, Nat.zero_add, List.range, List.range.loop]) | (co_apply gbo_pure rfl (by rfl) hk (by intro _ K hK; go_simp; exact hK) (by intro _; simp [go_sem, ev_len, ev_index, ev_indexI, ev_slice_lo, ev_slice_hi, ev_neq_chan, *]); walk_nrm) | (co_apply gbo_unwanted rfl (by rfl); walk_nrm) | co_apply gbo_nil | co_apply gbo_seq | co_apply gbo_block | co_apply gbo_skip | co_apply gbo_inBlock)
      co_apply gbo_load rfl (by rfl) hk rfl (bl := g1) (off := 0) (by rfl) (.inr (List.mem_cons_self ..)) (range4 hc2.out) (load134 _ _ _ _)
      walk_nrm
      co_apply gbo_build rfl (by rfl) hk rfl (cells := #[.int .i64 (x.line : Nat), .int .i64 0, .int .i64 (x.unit : Nat), .string x.body]) (e := 134) (by intro _ K hK; go_simp; exact hK) (by intro _; simp [go_sem, *])
      intro w₄ h₄
      have hC : Hid (Gat C w0 (w₄.heap.size :: g1 :: mine) (w₄.alloc (.cells #[.int .i64 (x.line : Nat), .int .i64 0, .int .i64 (x.unit : Nat), .string x.body] 134 (0, 0))) v fs) := (hB.out.step h₄).alloc _
      have hc3 : Hid ((w₄.alloc (.cells #[.int .i64 (x.line : Nat), .int .i64 0, .int .i64 (x.unit : Nat), .string x.body] 134 (0, 0))).heap[w₄.heap.size]? = some (.cells #[.int .i64 (x.line : Nat), .int .i64 0, .int .i64 (x.unit : Nat), .string x.body] 134 (0, 0))) := look_new
      clear h₄ hB hc2
      show Gb _ _ _ _ _ _ _ (w₄.alloc (.cells #[.int .i64 (x.line : Nat), .int .i64 0, .int .i64 (x.unit : Nat), .string x.body] 134 (0, 0)))
      obtain ⟨W4, hW⟩ : ∃ W, W = w₄.alloc (.cells #[.int .i64 (x.line : Nat), .int .i64 0, .int .i64 (x.unit : Nat), .string x.body] 134 (0, 0)) := ⟨_, rfl⟩
      rw [<- hW] at hC hc3 ⊢
      obtain ⟨g2, hg⟩ : ∃ g, g = w₄.heap.size := ⟨_, rfl⟩
      rw [<- hg] at hC hc3 ⊢
      clear hW hg w₄
      walk_nrm
      co_apply gbo_append rfl (by rfl) hk rfl (bs := C.base) Tryz.underlying129 hi.out hz0.out hz1.out hz2.out (by rfl) (by omega) (v := v) (nn := fs.length) (xs := fs.flatMap Fd.c) (by rfl) hC.out.own hC.out.inn (g := g2) (m := 1) (c := 1) (news := x.c) (by rfl) (List.mem_cons_self ..) (by rfl) (range4 hc3.out) (by intro u hu; simp only [Fd.c, List.mem_cons, List.not_mem_nil, or_false] at hu; rcases hu with rfl | rfl | rfl | rfl <;> rfl) (by omega) (by unfold maxLen; omega) (by omega) hC.out.grew.sits.base
      intro v' w₅ w₆ h₅ ho hgb hin
      have hD := hC.out.app h₅ ho hgb hin
      walk_nrm
      repeat (first | (co_apply gbo_region; simp only [List.size_toArray, List.length_cons, List.length_nil, Nat.reduceAdd, Nat.zero_add, List.range, List.range.loop]) | (co_apply gbo_pure rfl (by rfl) hk (by intro _ K hK; go_simp; exact hK) (by intro _; simp [go_sem, ev_len, ev_index, ev_indexI, ev_slice_lo, ev_slice_hi, ev_neq_chan, *]); walk_nrm) | (co_apply gbo_unwanted rfl (by rfl); walk_nrm) | co_apply gbo_nil | co_apply gbo_seq | co_apply gbo_block | co_apply gbo_skip | co_apply gbo_inBlock)
      co_apply gbo_inLoop
      exact HNN.out _ _ _ _ hD ⟨_, _, _, _, _, _, _, _, _, _, _, _, _, _, _, _, _, _, _, _, _, _, _, _, _, _, _, _, _, _, _, _, _, _, _, _, rfl⟩
  . cases s
    . simp [lv, H0.out] at e
    . have hx := lv_nil e
      obtain ⟨NN, hNN⟩ := HCC.out true hx
      have d0 : chN C (setF l true none) false = none := e0
      have d1 : chN C (setF l true none) true = none := rfl
      rw [d0, d1] at hNN
      have HNN : Hid _ := hNN
      clear hNN e hx d0 d1
      rw [show (none : Option (List Value)) = (none : Option (List Fd)).map (·.map Fd.v) from rfl, lv_set, mscr_iff]
      unfold tup
      simp only [Bool.false_eq_true, if_false, if_true, reduceIte]
      co_apply Exists.intro
      walk_nrm
      repeat (first | (co_apply gbo_region; simp only [List.size_toArray, List.length_cons, List.length_nil, Nat.reduceAdd, Nat.zero_add, List.range, List.range.loop]) | (co_apply gbo_pure rfl (by rfl) hk (by intro _ K hK; go_simp; exact hK) (by intro _; simp [go_sem, ev_len, ev_index, ev_indexI, ev_slice_lo, ev_slice_hi, ev_neq_chan, *]); walk_nrm) | (co_apply gbo_unwanted rfl (by rfl); walk_nrm) | co_apply gbo_nil | co_apply gbo_seq | co_apply gbo_block | co_apply gbo_skip | co_apply gbo_inBlock)
      co_apply gbo_cond
      focus (exact rfl)
      simp only [if_true, if_false, reduceIte, Bool.false_eq_true]
      co_apply gbo_cond
      focus (exact rfl)
      simp only [if_true, if_false, reduceIte, Bool.false_eq_true]
      repeat (first | (co_apply gbo_region; simp only [List.size_toArray, List.length_cons, List.length_nil, Nat.reduceAdd, Nat.zero_add, List.range, List.range.loop]) | (co_apply gbo_pure rfl (by rfl) hk (by intro _ K hK; go_simp; exact hK) (by intro _; simp [go_sem, ev_len, ev_index, ev_indexI, ev_slice_lo, ev_slice_hi, ev_neq_chan, *]); walk_nrm) | (co_apply gbo_unwanted rfl (by rfl); walk_nrm) | co_apply gbo_nil | co_apply gbo_seq | co_apply gbo_block | co_apply gbo_skip | co_apply gbo_inBlock)
      co_apply gbo_alloc rfl (by rfl) hk rfl Tryz.zeroValue134
      intro w₂ h₂
      have hA : Hid (Gat C w0 (w₂.heap.size :: mine) (w₂.alloc (.cells #[.int .i64 0, .int .i64 0, .int .i64 0, .string ⟨#[]⟩] 134 (0, 0))) v fs) := (hG1.step h₂).alloc _
      have hN : Hid (New C [] w₂.heap.size) := (hG1.step h₂).grew.new
      have hne : Hid (v.ownBlock ≠ some w₂.heap.size) := fun e => Nat.lt_irrefl _ ((hG1.step h₂).grew.sits.mine _ (hG1.inn _ e))
      have hc : Hid ((w₂.alloc (.cells #[.int .i64 0, .int .i64 0, .int .i64 0, .string ⟨#[]⟩] 134 (0, 0))).heap[w₂.heap.size]? = some (.cells #[.int .i64 0, .int .i64 0, .int .i64 0, .string ⟨#[]⟩] 134 (0, 0))) := look_new
      clear h₂
      show Gb _ _ _ _ _ _ _ (w₂.alloc (.cells #[.int .i64 0, .int .i64 0, .int .i64 0, .string ⟨#[]⟩] 134 (0, 0)))
      obtain ⟨W, hW⟩ : ∃ W, W = w₂.alloc (.cells #[.int .i64 0, .int .i64 0, .int .i64 0, .string ⟨#[]⟩] 134 (0, 0)) := ⟨_, rfl⟩
      rw [<- hW] at hA hc ⊢
      obtain ⟨g1, hg⟩ : ∃ g, g = w₂.heap.size := ⟨_, rfl⟩
      rw [<- hg] at hA hc hN hne ⊢
      clear hW hg w₂
      walk_nrm
      co_apply gbo_store rfl (by rfl) hk rfl (bl := g1) (v := gZ) (by rfl) (by rfl) (List.mem_cons_self ..) hc.out (by rfl) hi134.out (by simp [gZ, Value.cells, Value.oneCell'])
      intro w₃ h₃
      have hB : Hid (Gat C w0 (g1 :: mine) (w₃.setRow g1 gZ.cells) v fs) := (hA.out.step h₃).row hN.out hne.out _
      clear h₃ hA hc
      obtain ⟨W2, hW⟩ : ∃ W, W = w₃.setRow g1 gZ.cells := ⟨_, rfl⟩
      rw [<- hW] at hB ⊢
      clear hW w₃
      walk_nrm
      repeat (first | (co_apply gbo_region; simp only [List.size_toArray, List.length_cons, List.length_nil, Nat.reduceAdd, Nat.zero_add, List.range, List.range.loop]) | (co_apply gbo_pure rfl (by rfl) hk (by intro _ K hK; go_simp; exact hK) (by intro _; simp [go_sem, ev_len, ev_index, ev_indexI, ev_slice_lo, ev_slice_hi, ev_neq_chan, *]); walk_nrm) | (co_apply gbo_unwanted rfl (by rfl); walk_nrm) | co_apply gbo_nil | co_apply gbo_seq | co_apply gbo_block | co_apply gbo_skip | co_apply gbo_inBlock)
      co_apply gbo_cond
      focus (exact rfl)
      simp only [if_true, if_false, reduceIte, Bool.false_eq_true]
      repeat (first | (co_apply gbo_region; simp only [List.size_toArray, List.length_cons, List.length_nil, Nat.reduceAdd, Nat.zero_add, List.range, List.range.loop]) | (co_apply gbo_pure rfl (by rfl) hk (by intro _ K hK; go_simp; exact hK) (by intro _; simp [go_sem, ev_len, ev_index, ev_indexI, ev_slice_lo, ev_slice_hi, ev_neq_chan, *]); walk_nrm) | (co_apply gbo_unwanted rfl (by rfl); walk_nrm) | co_apply gbo_nil | co_apply gbo_seq | co_apply gbo_block | co_apply gbo_skip | co_apply gbo_inBlock)
      co_apply gbo_exit rfl
      repeat (first | (co_apply gbo_region; simp only [List.size_toArray, List.length_cons, List.length_nil, Nat.reduceAdd, Nat.zero_add, List.range, List.range.loop]) | (co_apply gbo_pure rfl (by rfl) hk (by intro _ K hK; go_simp; exact hK) (by intro _; simp [go_sem, ev_len, ev_index, ev_indexI, ev_slice_lo, ev_slice_hi, ev_neq_chan, *]); walk_nrm) | (co_apply gbo_unwanted rfl (by rfl); walk_nrm) | co_apply gbo_nil | co_apply gbo_seq | co_apply gbo_block | co_apply gbo_skip | co_apply gbo_inBlock)
      co_apply gbo_inLoop
      exact HNN.out _ _ _ _ hB.out ⟨_, _, _, _, _, _, _, _, _, _, _, _, _, _, _, _, _, _, _, _, _, _, _, _, _, _, _, _, _, _, _, _, _, _, _, _, rfl⟩
set_option maxHeartbeats 4000000 in
theorem gather_done (C : Ch) (w0 : World) (body rest : Code) (hbd : IsGat body rest) {bc : Frame} {ac : Act} {opsc : Array Oper} {ic : Nat} {restc : List Nat} {oc : Oper} {kc : List Item} {csc : List Frame} (hoc : opsc[ic]? = some oc) (K : List Nat -> Goroutine -> World -> Prop) (l : Bool -> Option (List Fd)) (fs : List Fd) (h0 : l false = none) (h1 : l true = none)
    (hK : ∀ mine w v, Gat C w0 mine w v fs -> K mine (G (bc.at (ac.put oc.dst v) (.inRegion opsc restc :: kc)) csc) w) : Gaths C w0 body rest (bc.at ac (.inRegion opsc (ic :: restc) :: kc) :: csc) K 0 l fs := by
  obtain ⟨x, y, hb⟩ := hbd
  have hb' := hb.symm
  simp only [Tryz.f102, Option.some.injEq, Code.seq.injEq, Code.block.injEq, Code.loop.injEq] at hb'
  obtain ⟨_, _, ⟨_, rfl⟩, rfl⟩ := hb'
  have hk : (base 102).kind ≠ .early := by simp [base]
  have e0 : chN C l false = none := by unfold chN; rw [h0]; rfl
  have e1 : chN C l true = none := by unfold chN; rw [h1]; rfl
  clear hb h0 h1
  unfold Gaths
  rw [e0, e1]
  co_apply Exists.intro
  rintro mine w v g hG ⟨s2, s3, s4, s6, s7, s8, s9, s10, s11, s12, s13, s14, s15, s16, s17, s18, s19, s20, s21, s22, s23, s24, s25, s26, s27, s28, s29, s30, s31, s32, s33, s34, s35, s36, s37, s38, rfl⟩
  repeat (first | (co_apply gbo_region; simp only [List.size_toArray, List.length_cons, List.length_nil, Nat.reduceAdd, Nat.zero_add, List.range, List.range.loop]) | (co_apply gbo_pure rfl (by rfl) hk (by intro _ K hK; go_simp; exact hK) (by intro _; simp [go_sem, ev_len, ev_index, ev_indexI, ev_slice_lo, ev_slice_hi, ev_neq_chan, *]); walk_nrm) | (co_apply gbo_unwanted rfl (by rfl); walk_nrm) | co_apply gbo_nil | co_apply gbo_seq | co_apply gbo_block | co_apply gbo_skip | co_apply gbo_inBlock)
  co_apply gbo_cond
  focus (exact rfl)
  simp only [if_true, if_false, reduceIte, Bool.false_eq_true]
  co_apply gbo_exit rfl
  repeat (first | (co_apply gbo_region; simp only [List.size_toArray, List.length_cons, List.length_nil, Nat.reduceAdd, Nat.zero_add, List.range, List.range.loop]) | (co_apply gbo_pure rfl (by rfl) hk (by intro _ K hK; go_simp; exact hK) (by intro _; simp [go_sem, ev_len, ev_index, ev_indexI, ev_slice_lo, ev_slice_hi, ev_neq_chan, *]); walk_nrm) | (co_apply gbo_unwanted rfl (by rfl); walk_nrm) | co_apply gbo_nil | co_apply gbo_seq | co_apply gbo_block | co_apply gbo_skip | co_apply gbo_inBlock)
  co_apply gbo_retT Tryz.func102 (by rfl) rfl hoc
  refine Gb.stop (n := 0) fun w₁ h₁ => ⟨rfl, ?_⟩
  exact hK _ _ _ (hG.step h₁)
end Go.Proofs.YtcpldcojckhapaaGreat
