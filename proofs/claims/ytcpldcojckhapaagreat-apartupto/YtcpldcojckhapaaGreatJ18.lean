/-
  
-/
import Derived.Test.YtcpldcojckhapaaGreatJ16
import Derived.Test.YtcpldcojckhapaaGreatZe
set_option maxRecDepth 100000
set_option linter.unusedSimpArgs false
namespace Go.Proofs.YtcpldcojckhapaaGreat
open Go.Conc Go.RowKit
abbrev Pc := Nat × ByteArray
structure Pcs (C : Ch) (B off : Nat) (ps : List Pc) (w : World) : Prop where
  sh : Shared C B
  here : ∀ (j : Nat) (p : Pc), ps[j]? = some p -> w.rangeAt B (off + j * 2) [.int .i64 p.1, .string p.2]
theorem Pcs.rel {C : Ch} {B off : Nat} {ps : List Pc} {m : List Nat} {w w₁ : World} (h : Pcs C B off ps w) (hr : Rel C m w w₁) : Pcs C B off ps w₁ := ⟨h.sh, fun j p hp => rangeAt_same (hr.keep B (.inl h.sh)) (h.here j p hp)⟩
open Classical in
noncomputable def finds (ps : List Pc) : List Value := ps.filterMap fun p => if Pl.serOk p.2 then some (.agg #[.int .i64 p.1, .int .i64 0, .int .i64 (Pl.byt p.2 0 : Nat), .string (p.2.extract 1 (p.2.size - 2))]) else none
def IsBody (body : Code) : Prop := ∃ x y, Tryz.f101.body = some (.seq x (.seq y (.block 0 (.loop body))))
set_option maxHeartbeats 4000000 in
theorem look_last (C : Ch) (s : Bool) (body : Code) (hbd : IsBody body) (n : Nat) (_hn : n < 1000000) (sl : Value) : ∃ N, ∀ (mine : List Nat) (w : World) (u2 u3 u4 s5 s6 s7 s12 s13 s14 s15 s16 s17 s18 s19 s20 s21 s22 s23 s24 s25 s26 s27 s28 : Value),
    Gb Tryz.prog C false (StopS Tryz.prog C s []) N mine (G ((baseD 101).at ⟨#[sl, .chan (some (C.c s)), u2, u3, u4, s5, s6, s7, .chan (some (C.c s)), sl, .int .i64 n, .int .i64 n, s12, s13, s14, s15, s16, s17, s18, s19, s20, s21, s22, s23, s24, s25, s26, s27, s28], [dclose #[210] 0 #[false] (C.c s)]⟩ [.code body, .inLoop body, .inBlock 0]) [b0 Tryz.prog]) w := by
  obtain ⟨x, y, hb⟩ := hbd
  have hb' := hb.symm
  simp only [Tryz.f101, Option.some.injEq, Code.seq.injEq, Code.block.injEq, Code.loop.injEq] at hb'
  obtain ⟨_, _, _, rfl⟩ := hb'
  have hk : (baseD 101).kind ≠ .early := by simp [baseD]
  co_apply Exists.intro
  intro mine w u2 u3 u4 s5 s6 s7 s12 s13 s14 s15 s16 s17 s18 s19 s20 s21 s22 s23 s24 s25 s26 s27 s28
  repeat (first | (co_apply gbo_region; simp only [List.size_toArray, List.length_cons, List.length_nil, Nat.reduceAdd, Nat.zero_add, List.range, List.range.loop]) | (co_apply gbo_pure rfl (by rfl) hk (by intro _ K hK; go_simp; exact hK) (by intro _; simp [go_sem, ev_len, ev_index, ev_indexI, ev_slice_lo, ev_slice_hi, *]); walk_nrm) | co_apply gbo_nil | co_apply gbo_seq | co_apply gbo_block | co_apply gbo_skip | co_apply gbo_inBlock)
  co_apply gbo_cond
  focus (exact rfl)
  simp only [if_true, if_false, reduceIte, Bool.false_eq_true]
  co_apply gbo_exit rfl
  co_apply gbo_end
  refine Gb.stop (n := 0) fun w₁ h₁ => ?_
  exact atClose (f := 101) (a := ⟨#[sl, .chan (some (C.c s)), u2, u3, u4, s5, s6, s7, .chan (some (C.c s)), sl, .int .i64 n, .int .i64 n, .bool false, s13, s14, s15, s16, s17, s18, s19, s20, s21, s22, s23, s24, s25, s26, s27, s28], [dclose #[210] 0 #[false] (C.c s)]⟩) (todo := []) (ats := #[210]) (ty := 0) (cn := #[false]) (by rfl) Tryz.func101 (by rfl) (by rfl)
def AtHead (C : Ch) (s : Bool) (body : Code) (n : Nat) (sl : Value) (j : Nat) (g : Goroutine) : Prop := ∃ u2 u3 u4 s5 s6 s7 s12 s13 s14 s15 s16 s17 s18 s19 s20 s21 s22 s23 s24 s25 s26 s27 s28 : Value,
  g = G ((baseD 101).at ⟨#[sl, .chan (some (C.c s)), u2, u3, u4, s5, s6, s7, .chan (some (C.c s)), sl, .int .i64 n, .int .i64 j, s12, s13, s14, s15, s16, s17, s18, s19, s20, s21, s22, s23, s24, s25, s26, s27, s28], [dclose #[210] 0 #[false] (C.c s)]⟩ [.code body, .inLoop body, .inBlock 0]) [b0 Tryz.prog]
theorem load9 (x : Value) : LoadIs Tryz.prog 9 [x] x := ⟨by kernel_rfl, _, Tryz.underlying9, .inr ⟨rfl, rfl⟩⟩
theorem load3 (x : Value) : LoadIs Tryz.prog 3 [x] x := ⟨by kernel_rfl, _, Tryz.underlying3, .inr ⟨rfl, rfl⟩⟩
theorem load178 (x y : Value) : LoadIs Tryz.prog 178 [x, y] (.agg #[x, y]) := ⟨by kernel_rfl, _, Tryz.underlying178, .inl ⟨rfl, rfl⟩⟩
theorem finds_yes {ps : List Pc} {j : Nat} {p : Pc} (hp : ps[j]? = some p) (h : Pl.serOk p.2) : finds (ps.drop j) = .agg #[.int .i64 p.1, .int .i64 0, .int .i64 (Pl.byt p.2 0 : Nat), .string (p.2.extract 1 (p.2.size - 2))] :: finds (ps.drop (j + 1)) := by
  obtain ⟨hj, rfl⟩ := List.getElem?_eq_some_iff.1 hp
  rw [List.drop_eq_getElem_cons hj]
  unfold finds
  rw [List.filterMap_cons]
  simp only [h, if_true, if_false]
theorem finds_no {ps : List Pc} {j : Nat} {p : Pc} (hp : ps[j]? = some p) (h : ¬ Pl.serOk p.2) : finds (ps.drop j) = finds (ps.drop (j + 1)) := by
  obtain ⟨hj, rfl⟩ := List.getElem?_eq_some_iff.1 hp
  rw [List.drop_eq_getElem_cons hj]
  unfold finds
  rw [List.filterMap_cons]
  simp only [h, if_true, if_false]
def Looks (C : Ch) (s : Bool) (body : Code) (B off n cap : Nat) (ps : List Pc) (j : Nat) : Prop := ∃ N, ∀ (mine : List Nat) (w : World) (g : Goroutine), Sits C mine w -> Pcs C B off ps w -> AtHead C s body n (.slice (some ⟨B, off, none⟩) n cap) j g -> Gb Tryz.prog C false (StopS Tryz.prog C s (finds (ps.drop j))) N mine g w
set_option maxHeartbeats 4000000 in
theorem look_yes (C : Ch) (s : Bool) (body : Code) (hbd : IsBody body) (B off n cap : Nat) (ps : List Pc) (hn : ps.length = n) (hlt : n < 1000000) (j : Nat) (p : Pc) (hp : ps[j]? = some p) (hz : p.2.size <= 4194304) (hok : Pl.serOk p.2) (hnext : Looks C s body B off n cap ps (j + 1)) : Looks C s body B off n cap ps j := by
  obtain ⟨x, y, hb⟩ := hbd
  have hb' := hb.symm
  simp only [Tryz.f101, Option.some.injEq, Code.seq.injEq, Code.block.injEq, Code.loop.injEq] at hb'
  obtain ⟨_, _, _, rfl⟩ := hb'
  have hi178 : Hid ((Tryz.prog.info? 178).map (·.size) = some 2) := by show _ = _; kernel_rfl
  have hi94 : Hid ((Tryz.prog.info? 94).map (·.size) = some 3) := by show _ = _; kernel_rfl
  obtain ⟨ns, hse⟩ := serial_b C false
  have hk : (baseD 101).kind ≠ .early := by simp [baseD]
  have hj : j < n := by rw [<- hn]; exact (List.getElem?_eq_some_iff.1 hp).1
  have hj' : (j : Int) < n := by omega
  have HP : Hid (ps[j]? = some p) := hp
  have hwj : IntKind.i64.wrap ((j : Int) + 1) = ((j + 1 : Nat) : Int) := by rw [IntKind.wrap_i64]; omega
  obtain ⟨NN, hN⟩ := hnext
  have HN : Hid _ := hN
  have hfs := finds_yes hp hok
  have hsv : ∀ u bb kk, Pl.SerIs p.2 u bb kk -> u = Pl.byt p.2 0 /\ bb = p.2.extract 1 (p.2.size - 2) /\ kk = 0 := fun u bb kk h => h.elim (fun h => ⟨h.2.1, h.2.2.1, h.2.2.2⟩) fun h => absurd hok h.1
  clear hp hb hN hok
  unfold Looks
  rw [hfs]
  co_apply Exists.intro
  rintro mine w g hS hPc ⟨u2, u3, u4, s5, s6, s7, s12, s13, s14, s15, s16, s17, s18, s19, s20, s21, s22, s23, s24, s25, s26, s27, s28, rfl⟩
  repeat (first | (co_apply gbo_region; simp only [List.size_toArray, List.length_cons, List.length_nil, Nat.reduceAdd, Nat.zero_add, List.range, List.range.loop]) | (co_apply gbo_pure rfl (by rfl) hk (by intro _ K hK; go_simp; exact hK) (by intro _; simp [go_sem, ev_len, ev_index, ev_indexI, ev_slice_lo, ev_slice_hi, *]); walk_nrm) | co_apply gbo_nil | co_apply gbo_seq | co_apply gbo_block | co_apply gbo_skip | co_apply gbo_inBlock)
  co_apply gbo_cond
  focus (exact rfl)
  simp only [if_true, if_false, reduceIte, Bool.false_eq_true]
  repeat (first | (co_apply gbo_region; simp only [List.size_toArray, List.length_cons, List.length_nil, Nat.reduceAdd, Nat.zero_add, List.range, List.range.loop]) | (co_apply gbo_pure rfl (by rfl) hk (by intro _ K hK; go_simp; exact hK) (by intro _; simp [go_sem, ev_len, ev_index, ev_indexI, ev_slice_lo, ev_slice_hi, *]); walk_nrm) | co_apply gbo_nil | co_apply gbo_seq | co_apply gbo_block | co_apply gbo_skip | co_apply gbo_inBlock)
  co_apply gbo_load rfl (by rfl) hk rfl (bl := B) (off := off + j * 2) (by rfl) (.inl hPc.sh) (hPc.here j p HP.out) (load178 _ _)
  walk_nrm
  co_apply gbo_alloc rfl (by rfl) hk rfl Tryz.zeroValue178
  intro w₁ h₁
  have hG := ((Grew.refl hS).step h₁)
  replace hG : Hid (Grew C mine w (w₁.heap.size :: mine) (w₁.alloc (.cells #[.int .i64 0, .string ⟨#[]⟩] 178 (0, 0)))) := hG.alloc _
  have hc : Hid ((w₁.alloc (.cells #[.int .i64 0, .string ⟨#[]⟩] 178 (0, 0))).heap[w₁.heap.size]? = some (.cells #[.int .i64 0, .string ⟨#[]⟩] 178 (0, 0))) := look_new
  have hN : Hid (New C mine w₁.heap.size) := ((Grew.refl hS).step h₁).new
  clear h₁
  show Gb _ _ _ _ _ _ _ (w₁.alloc (.cells #[.int .i64 0, .string ⟨#[]⟩] 178 (0, 0)))
  obtain ⟨W, hW⟩ : ∃ W, W = w₁.alloc (.cells #[.int .i64 0, .string ⟨#[]⟩] 178 (0, 0)) := ⟨_, rfl⟩
  rw [<- hW] at hG hc ⊢
  obtain ⟨g1, hg⟩ : ∃ g, g = w₁.heap.size := ⟨_, rfl⟩
  rw [<- hg] at hG hc hN ⊢
  clear hW hg w₁
  walk_nrm
  co_apply gbo_store rfl (by rfl) hk rfl (bl := g1) (v := .agg #[.int .i64 p.1, .string p.2]) (by rfl) (by rfl) (List.mem_cons_self ..) hc.out (by rfl) hi178.out (by simp [Value.cells, Value.oneCell'])
  intro w₂ h₂
  have hG2 : Hid (Grew C mine w (g1 :: mine) (w₂.setRow g1 #[.int .i64 p.1, .string p.2])) := (hG.out.step h₂).row hN.out _
  have hc2 : Hid ((w₂.setRow g1 #[.int .i64 p.1, .string p.2]).heap[g1]? = some (.cells #[.int .i64 p.1, .string p.2] 178 (0, 0))) := setRow_heap _ _ _ _ _ _ (h₂.look (.inr (List.mem_cons_self ..)) hc.out)
  clear h₂ hG hc
  show Gb _ _ _ _ _ _ _ (w₂.setRow g1 #[.int .i64 p.1, .string p.2])
  obtain ⟨W2, hW⟩ : ∃ W2, W2 = w₂.setRow g1 #[.int .i64 p.1, .string p.2] := ⟨_, rfl⟩
  rw [<- hW] at hG2 hc2 ⊢
  clear hW w₂
  walk_nrm
  repeat (first | (co_apply gbo_region; simp only [List.size_toArray, List.length_cons, List.length_nil, Nat.reduceAdd, Nat.zero_add, List.range, List.range.loop]) | (co_apply gbo_pure rfl (by rfl) hk (by intro _ K hK; go_simp; exact hK) (by intro _; simp [go_sem, ev_len, ev_index, ev_indexI, ev_slice_lo, ev_slice_hi, *]); walk_nrm) | co_apply gbo_nil | co_apply gbo_seq | co_apply gbo_block | co_apply gbo_skip | co_apply gbo_inBlock)
  co_apply gbo_load rfl (by rfl) hk rfl (bl := g1) (off := 1) (by rfl) (.inr (List.mem_cons_self ..)) (range_of hc2.out 1 (cs := [.string p.2]) fun q v hv => by cases q with | zero => simpa using hv | succ q => simp at hv) (load9 _)
  walk_nrm
  co_apply gbo_call rfl (by rfl) hk rfl (hse (g1 :: mine) p.2 hz W2 hG2.out.sits) (by walk_nrm)
  rintro v m' w' ⟨u, bb, kk, rfl, hser, hg2⟩
  have hG3 : Hid (Grew C mine w m' w') := hG2.out.trans hg2
  have hm1 : Hid (g1 ∈ m') := hg2.sub g1 (List.mem_cons_self ..)
  have hc3 : Hid (w'.heap[g1]? = some (.cells #[.int .i64 p.1, .string p.2] 178 (0, 0))) := hg2.rel.look (.inr (List.mem_cons_self ..)) hc2.out
  obtain ⟨rfl, rfl, rfl⟩ := hsv u bb kk hser
  clear hg2 hG2 hc2 hser
  unfold serV
  walk_nrm
  repeat (first | (co_apply gbo_region; simp only [List.size_toArray, List.length_cons, List.length_nil, Nat.reduceAdd, Nat.zero_add, List.range, List.range.loop]) | (co_apply gbo_pure rfl (by rfl) hk (by intro _ K hK; go_simp; exact hK) (by intro _; simp [go_sem, ev_len, ev_index, ev_indexI, ev_slice_lo, ev_slice_hi, *]); walk_nrm) | co_apply gbo_nil | co_apply gbo_seq | co_apply gbo_block | co_apply gbo_skip | co_apply gbo_inBlock)
  co_apply gbo_alloc rfl (by rfl) hk rfl Tryz.zeroValue94
  intro w₃ h₃
  have hG4 := hG3.out.step h₃
  have hN4 : Hid (New C mine w₃.heap.size) := hG4.new
  have hne : Hid (w₃.heap.size ≠ g1) := fun e => by have := (hG3.out.step h₃).sits.mine g1 hm1.out; omega
  replace hG4 : Hid (Grew C mine w (w₃.heap.size :: m') (w₃.alloc (.cells #[.int .i64 0, .int .i64 0, .string ⟨#[]⟩] 94 (0, 0)))) := hG4.alloc _
  have hc4 : Hid ((w₃.alloc (.cells #[.int .i64 0, .int .i64 0, .string ⟨#[]⟩] 94 (0, 0))).heap[w₃.heap.size]? = some (.cells #[.int .i64 0, .int .i64 0, .string ⟨#[]⟩] 94 (0, 0))) := look_new
  have hc5 : Hid ((w₃.alloc (.cells #[.int .i64 0, .int .i64 0, .string ⟨#[]⟩] 94 (0, 0))).heap[g1]? = some (.cells #[.int .i64 p.1, .string p.2] 178 (0, 0))) := look_alloc (h₃.look (.inr hm1.out) hc3.out)
  clear h₃ hG3 hc3
  show Gb _ _ _ _ _ _ _ (w₃.alloc (.cells #[.int .i64 0, .int .i64 0, .string ⟨#[]⟩] 94 (0, 0)))
  obtain ⟨W4, hW⟩ : ∃ W, W = w₃.alloc (.cells #[.int .i64 0, .int .i64 0, .string ⟨#[]⟩] 94 (0, 0)) := ⟨_, rfl⟩
  rw [<- hW] at hG4 hc4 hc5 ⊢
  obtain ⟨g2, hg⟩ : ∃ g, g = w₃.heap.size := ⟨_, rfl⟩
  rw [<- hg] at hG4 hc4 hN4 hne ⊢
  clear hW hg w₃
  walk_nrm
  co_apply gbo_store rfl (by rfl) hk rfl (bl := g2) (v := .agg #[.int .i64 0, .int .i64 (Pl.byt p.2 0 : Nat), .string (p.2.extract 1 (p.2.size - 2))]) (by rfl) (by rfl) (List.mem_cons_self ..) hc4.out (by rfl) hi94.out (by simp [Value.cells, Value.oneCell'])
  intro w₅ h₅
  have hG6 : Hid (Grew C mine w (g2 :: m') (w₅.setRow g2 #[.int .i64 0, .int .i64 (Pl.byt p.2 0 : Nat), .string (p.2.extract 1 (p.2.size - 2))])) := (hG4.out.step h₅).row hN4.out _
  have hc6 : Hid ((w₅.setRow g2 #[.int .i64 0, .int .i64 (Pl.byt p.2 0 : Nat), .string (p.2.extract 1 (p.2.size - 2))]).heap[g2]? = some (.cells #[.int .i64 0, .int .i64 (Pl.byt p.2 0 : Nat), .string (p.2.extract 1 (p.2.size - 2))] 94 (0, 0))) := setRow_heap _ _ _ _ _ _ (h₅.look (.inr (List.mem_cons_self ..)) hc4.out)
  have hc7 : Hid ((w₅.setRow g2 #[.int .i64 0, .int .i64 (Pl.byt p.2 0 : Nat), .string (p.2.extract 1 (p.2.size - 2))]).heap[g1]? = some (.cells #[.int .i64 p.1, .string p.2] 178 (0, 0))) := look_row hne.out (h₅.look (.inr (List.mem_cons_of_mem _ hm1.out)) hc5.out)
  clear h₅ hG4 hc4 hc5
  show Gb _ _ _ _ _ _ _ (w₅.setRow g2 #[.int .i64 0, .int .i64 (Pl.byt p.2 0 : Nat), .string (p.2.extract 1 (p.2.size - 2))])
  obtain ⟨W6, hW⟩ : ∃ W, W = w₅.setRow g2 #[.int .i64 0, .int .i64 (Pl.byt p.2 0 : Nat), .string (p.2.extract 1 (p.2.size - 2))] := ⟨_, rfl⟩
  rw [<- hW] at hG6 hc6 hc7 ⊢
  clear hW w₅
  walk_nrm
  repeat (first | (co_apply gbo_region; simp only [List.size_toArray, List.length_cons, List.length_nil, Nat.reduceAdd, Nat.zero_add, List.range, List.range.loop]) | (co_apply gbo_pure rfl (by rfl) hk (by intro _ K hK; go_simp; exact hK) (by intro _; simp [go_sem, ev_len, ev_index, ev_indexI, ev_slice_lo, ev_slice_hi, *]); walk_nrm) | co_apply gbo_nil | co_apply gbo_seq | co_apply gbo_block | co_apply gbo_skip | co_apply gbo_inBlock)
  co_apply gbo_cond
  focus (exact rfl)
  simp only [if_true, if_false, reduceIte, Bool.false_eq_true]
  repeat (first | (co_apply gbo_region; simp only [List.size_toArray, List.length_cons, List.length_nil, Nat.reduceAdd, Nat.zero_add, List.range, List.range.loop]) | (co_apply gbo_pure rfl (by rfl) hk (by intro _ K hK; go_simp; exact hK) (by intro _; simp [go_sem, ev_len, ev_index, ev_indexI, ev_slice_lo, ev_slice_hi, *]); walk_nrm) | co_apply gbo_nil | co_apply gbo_seq | co_apply gbo_block | co_apply gbo_skip | co_apply gbo_inBlock)
  co_apply gbo_load rfl (by rfl) hk rfl (bl := g1) (off := 0) (by rfl) (.inr (List.mem_cons_of_mem _ hm1.out)) (range_of hc7.out 0 (cs := [.int .i64 p.1]) (fun q v hv => by cases q with | zero => simpa using hv | succ q => simp at hv
)) (load3 _)
  walk_nrm
  co_apply gbo_load rfl (by rfl) hk rfl (bl := g2) (off := 0) (by rfl) (.inr (List.mem_cons_self ..)) (range_of hc6.out 0 (cs := [.int .i64 0, .int .i64 (Pl.byt p.2 0 : Nat), .string (p.2.extract 1 (p.2.size - 2))]) (fun q v hv => by
    match q, hv with
    | 0, hv => simpa using hv
    | 1, hv => simpa using hv
    | 2, hv => simpa using hv
    | q + 3, hv => simp at hv
)) (load94 _ _ _)
  walk_nrm
  repeat (first | (co_apply gbo_region; simp only [List.size_toArray, List.length_cons, List.length_nil, Nat.reduceAdd, Nat.zero_add, List.range, List.range.loop]) | (co_apply gbo_pure rfl (by rfl) hk (by intro _ K hK; go_simp; exact hK) (by intro _; simp [go_sem, ev_len, ev_index, ev_indexI, ev_slice_lo, ev_slice_hi, *]); walk_nrm) | co_apply gbo_nil | co_apply gbo_seq | co_apply gbo_block | co_apply gbo_skip | co_apply gbo_inBlock)
  refine Gb.stop (n := 0) fun w₇ h₇ => ?_
  have hG7 := hG6.out.step h₇
  have hPc7 := hPc.rel hG7.rel
  have hS7 := hG7.sits
  refine atSendB rfl (by rfl) hk rfl (by rfl) (by rfl) ?_
  rw [snd_iff]
  co_apply Exists.intro
  repeat (first | (co_apply gbo_region; simp only [List.size_toArray, List.length_cons, List.length_nil, Nat.reduceAdd, Nat.zero_add, List.range, List.range.loop]) | (co_apply gbo_pure rfl (by rfl) hk (by intro _ K hK; go_simp; exact hK) (by intro _; simp [go_sem, ev_len, ev_index, ev_indexI, ev_slice_lo, ev_slice_hi, *]); walk_nrm) | co_apply gbo_nil | co_apply gbo_seq | co_apply gbo_block | co_apply gbo_skip | co_apply gbo_inBlock)
  co_apply gbo_inLoop
  exact HN.out _ _ _ hS7 hPc7 ⟨_, _, _, _, _, _, _, _, _, _, _, _, _, _, _, _, _, _, _, _, _, _, _, rfl⟩
set_option maxHeartbeats 4000000 in
theorem look_no (C : Ch) (s : Bool) (body : Code) (hbd : IsBody body) (B off n cap : Nat) (ps : List Pc) (hn : ps.length = n) (hlt : n < 1000000) (j : Nat) (p : Pc) (hp : ps[j]? = some p) (hz : p.2.size <= 4194304) (hok : ¬ Pl.serOk p.2) (hnext : Looks C s body B off n cap ps (j + 1)) : Looks C s body B off n cap ps j := by
  obtain ⟨x, y, hb⟩ := hbd
  have hb' := hb.symm
  simp only [Tryz.f101, Option.some.injEq, Code.seq.injEq, Code.block.injEq, Code.loop.injEq] at hb'
  obtain ⟨_, _, _, rfl⟩ := hb'
  have hi178 : Hid ((Tryz.prog.info? 178).map (·.size) = some 2) := by show _ = _; kernel_rfl
  have hi94 : Hid ((Tryz.prog.info? 94).map (·.size) = some 3) := by show _ = _; kernel_rfl
  obtain ⟨ns, hse⟩ := serial_b C false
  have hk : (baseD 101).kind ≠ .early := by simp [baseD]
  have hj : j < n := by rw [<- hn]; exact (List.getElem?_eq_some_iff.1 hp).1
  have hj' : (j : Int) < n := by omega
  have HP : Hid (ps[j]? = some p) := hp
  have hwj : IntKind.i64.wrap ((j : Int) + 1) = ((j + 1 : Nat) : Int) := by rw [IntKind.wrap_i64]; omega
  obtain ⟨NN, hN⟩ := hnext
  have HN : Hid _ := hN
  have hfs := finds_no hp hok
  have hsv : ∀ u bb kk, Pl.SerIs p.2 u bb kk -> u = 0 /\ bb = ⟨#[]⟩ /\ kk = 4 := fun u bb kk h => h.elim (fun h => absurd h.1 hok) fun h => ⟨h.2.1, h.2.2.1, h.2.2.2⟩
  clear hp hb hN hok
  unfold Looks
  rw [hfs]
  co_apply Exists.intro
  rintro mine w g hS hPc ⟨u2, u3, u4, s5, s6, s7, s12, s13, s14, s15, s16, s17, s18, s19, s20, s21, s22, s23, s24, s25, s26, s27, s28, rfl⟩
  repeat (first | (co_apply gbo_region; simp only [List.size_toArray, List.length_cons, List.length_nil, Nat.reduceAdd, Nat.zero_add, List.range, List.range.loop]) | (co_apply gbo_pure rfl (by rfl) hk (by intro _ K hK; go_simp; exact hK) (by intro _; simp [go_sem, ev_len, ev_index, ev_indexI, ev_slice_lo, ev_slice_hi, *]); walk_nrm) | co_apply gbo_nil | co_apply gbo_seq | co_apply gbo_block | co_apply gbo_skip | co_apply gbo_inBlock)
  co_apply gbo_cond
  focus (exact rfl)
  simp only [if_true, if_false, reduceIte, Bool.false_eq_true]
  repeat (first | (co_apply gbo_region; simp only [List.size_toArray, List.length_cons, List.length_nil, Nat.reduceAdd, Nat.zero_add, List.range, List.range.loop]) | (co_apply gbo_pure rfl (by rfl) hk (by intro _ K hK; go_simp; exact hK) (by intro _; simp [go_sem, ev_len, ev_index, ev_indexI, ev_slice_lo, ev_slice_hi, *]); walk_nrm) | co_apply gbo_nil | co_apply gbo_seq | co_apply gbo_block | co_apply gbo_skip | co_apply gbo_inBlock)
  co_apply gbo_load rfl (by rfl) hk rfl (bl := B) (off := off + j * 2) (by rfl) (.inl hPc.sh) (hPc.here j p HP.out) (load178 _ _)
  walk_nrm
  co_apply gbo_alloc rfl (by rfl) hk rfl Tryz.zeroValue178
  intro w₁ h₁
  have hG := ((Grew.refl hS).step h₁)
  replace hG : Hid (Grew C mine w (w₁.heap.size :: mine) (w₁.alloc (.cells #[.int .i64 0, .string ⟨#[]⟩] 178 (0, 0)))) := hG.alloc _
  have hc : Hid ((w₁.alloc (.cells #[.int .i64 0, .string ⟨#[]⟩] 178 (0, 0))).heap[w₁.heap.size]? = some (.cells #[.int .i64 0, .string ⟨#[]⟩] 178 (0, 0))) := look_new
  have hN : Hid (New C mine w₁.heap.size) := ((Grew.refl hS).step h₁).new
  clear h₁
  show Gb _ _ _ _ _ _ _ (w₁.alloc (.cells #[.int .i64 0, .string ⟨#[]⟩] 178 (0, 0)))
  obtain ⟨W, hW⟩ : ∃ W, W = w₁.alloc (.cells #[.int .i64 0, .string ⟨#[]⟩] 178 (0, 0)) := ⟨_, rfl⟩
  rw [<- hW] at hG hc ⊢
  obtain ⟨g1, hg⟩ : ∃ g, g = w₁.heap.size := ⟨_, rfl⟩
  rw [<- hg] at hG hc hN ⊢
  clear hW hg w₁
  walk_nrm
  co_apply gbo_store rfl (by rfl) hk rfl (bl := g1) (v := .agg #[.int .i64 p.1, .string p.2]) (by rfl) (by rfl) (List.mem_cons_self ..) hc.out (by rfl) hi178.out (by simp [Value.cells, Value.oneCell'])
  intro w₂ h₂
  have hG2 : Hid (Grew C mine w (g1 :: mine) (w₂.setRow g1 #[.int .i64 p.1, .string p.2])) := (hG.out.step h₂).row hN.out _
  have hc2 : Hid ((w₂.setRow g1 #[.int .i64 p.1, .string p.2]).heap[g1]? = some (.cells #[.int .i64 p.1, .string p.2] 178 (0, 0))) := setRow_heap _ _ _ _ _ _ (h₂.look (.inr (List.mem_cons_self ..)) hc.out)
  clear h₂ hG hc
  show Gb _ _ _ _ _ _ _ (w₂.setRow g1 #[.int .i64 p.1, .string p.2])
  obtain ⟨W2, hW⟩ : ∃ W2, W2 = w₂.setRow g1 #[.int .i64 p.1, .string p.2] := ⟨_, rfl⟩
  rw [<- hW] at hG2 hc2 ⊢
  clear hW w₂
  walk_nrm
  repeat (first | (co_apply gbo_region; simp only [List.size_toArray, List.length_cons, List.length_nil, Nat.reduceAdd, Nat.zero_add, List.range, List.range.loop]) | (co_apply gbo_pure rfl (by rfl) hk (by intro _ K hK; go_simp; exact hK) (by intro _; simp [go_sem, ev_len, ev_index, ev_indexI, ev_slice_lo, ev_slice_hi, *]); walk_nrm) | co_apply gbo_nil | co_apply gbo_seq | co_apply gbo_block | co_apply gbo_skip | co_apply gbo_inBlock)
  co_apply gbo_load rfl (by rfl) hk rfl (bl := g1) (off := 1) (by rfl) (.inr (List.mem_cons_self ..)) (range_of hc2.out 1 (cs := [.string p.2]) fun q v hv => by cases q with | zero => simpa using hv | succ q => simp at hv) (load9 _)
  walk_nrm
  co_apply gbo_call rfl (by rfl) hk rfl (hse (g1 :: mine) p.2 hz W2 hG2.out.sits) (by walk_nrm)
  rintro v m' w' ⟨u, bb, kk, rfl, hser, hg2⟩
  have hG3 : Hid (Grew C mine w m' w') := hG2.out.trans hg2
  have hm1 : Hid (g1 ∈ m') := hg2.sub g1 (List.mem_cons_self ..)
  have hc3 : Hid (w'.heap[g1]? = some (.cells #[.int .i64 p.1, .string p.2] 178 (0, 0))) := hg2.rel.look (.inr (List.mem_cons_self ..)) hc2.out
  obtain ⟨rfl, rfl, rfl⟩ := hsv u bb kk hser
  clear hg2 hG2 hc2 hser
  unfold serV
  walk_nrm
  repeat (first | (co_apply gbo_region; simp only [List.size_toArray, List.length_cons, List.length_nil, Nat.reduceAdd, Nat.zero_add, List.range, List.range.loop]) | (co_apply gbo_pure rfl (by rfl) hk (by intro _ K hK; go_simp; exact hK) (by intro _; simp [go_sem, ev_len, ev_index, ev_indexI, ev_slice_lo, ev_slice_hi, *]); walk_nrm) | co_apply gbo_nil | co_apply gbo_seq | co_apply gbo_block | co_apply gbo_skip | co_apply gbo_inBlock)
  co_apply gbo_alloc rfl (by rfl) hk rfl Tryz.zeroValue94
  intro w₃ h₃
  have hG4 := hG3.out.step h₃
  have hN4 : Hid (New C mine w₃.heap.size) := hG4.new
  have hne : Hid (w₃.heap.size ≠ g1) := fun e => by have := (hG3.out.step h₃).sits.mine g1 hm1.out; omega
  replace hG4 : Hid (Grew C mine w (w₃.heap.size :: m') (w₃.alloc (.cells #[.int .i64 0, .int .i64 0, .string ⟨#[]⟩] 94 (0, 0)))) := hG4.alloc _
  have hc4 : Hid ((w₃.alloc (.cells #[.int .i64 0, .int .i64 0, .string ⟨#[]⟩] 94 (0, 0))).heap[w₃.heap.size]? = some (.cells #[.int .i64 0, .int .i64 0, .string ⟨#[]⟩] 94 (0, 0))) := look_new
  have hc5 : Hid ((w₃.alloc (.cells #[.int .i64 0, .int .i64 0, .string ⟨#[]⟩] 94 (0, 0))).heap[g1]? = some (.cells #[.int .i64 p.1, .string p.2] 178 (0, 0))) := look_alloc (h₃.look (.inr hm1.out) hc3.out)
  clear h₃ hG3 hc3
  show Gb _ _ _ _ _ _ _ (w₃.alloc (.cells #[.int .i64 0, .int .i64 0, .string ⟨#[]⟩] 94 (0, 0)))
  obtain ⟨W4, hW⟩ : ∃ W, W = w₃.alloc (.cells #[.int .i64 0, .int .i64 0, .string ⟨#[]⟩] 94 (0, 0)) := ⟨_, rfl⟩
  rw [<- hW] at hG4 hc4 hc5 ⊢
  obtain ⟨g2, hg⟩ : ∃ g, g = w₃.heap.size := ⟨_, rfl⟩
  rw [<- hg] at hG4 hc4 hN4 hne ⊢
  clear hW hg w₃
  walk_nrm
  co_apply gbo_store rfl (by rfl) hk rfl (bl := g2) (v := .agg #[.int .i64 0, .int .i64 (0 : Nat), .string ⟨#[]⟩]) (by rfl) (by rfl) (List.mem_cons_self ..) hc4.out (by rfl) hi94.out (by simp [Value.cells, Value.oneCell'])
  intro w₅ h₅
  have hG6 : Hid (Grew C mine w (g2 :: m') (w₅.setRow g2 #[.int .i64 0, .int .i64 (0 : Nat), .string ⟨#[]⟩])) := (hG4.out.step h₅).row hN4.out _
  have hc6 : Hid ((w₅.setRow g2 #[.int .i64 0, .int .i64 (0 : Nat), .string ⟨#[]⟩]).heap[g2]? = some (.cells #[.int .i64 0, .int .i64 (0 : Nat), .string ⟨#[]⟩] 94 (0, 0))) := setRow_heap _ _ _ _ _ _ (h₅.look (.inr (List.mem_cons_self ..)) hc4.out)
  have hc7 : Hid ((w₅.setRow g2 #[.int .i64 0, .int .i64 (0 : Nat), .string ⟨#[]⟩]).heap[g1]? = some (.cells #[.int .i64 p.1, .string p.2] 178 (0, 0))) := look_row hne.out (h₅.look (.inr (List.mem_cons_of_mem _ hm1.out)) hc5.out)
  clear h₅ hG4 hc4 hc5
  show Gb _ _ _ _ _ _ _ (w₅.setRow g2 #[.int .i64 0, .int .i64 (0 : Nat), .string ⟨#[]⟩])
  obtain ⟨W6, hW⟩ : ∃ W, W = w₅.setRow g2 #[.int .i64 0, .int .i64 (0 : Nat), .string ⟨#[]⟩] := ⟨_, rfl⟩
  rw [<- hW] at hG6 hc6 hc7 ⊢
  clear hW w₅
  walk_nrm
  repeat (first | (co_apply gbo_region; simp only [List.size_toArray, List.length_cons, List.length_nil, Nat.reduceAdd, Nat.zero_add, List.range, List.range.loop]) | (co_apply gbo_pure rfl (by rfl) hk (by intro _ K hK; go_simp; exact hK) (by intro _; simp [go_sem, ev_len, ev_index, ev_indexI, ev_slice_lo, ev_slice_hi, *]); walk_nrm) | co_apply gbo_nil | co_apply gbo_seq | co_apply gbo_block | co_apply gbo_skip | co_apply gbo_inBlock)
  co_apply gbo_cond
  focus (exact rfl)
  simp only [if_true, if_false, reduceIte, Bool.false_eq_true]
  repeat (first | (co_apply gbo_region; simp only [List.size_toArray, List.length_cons, List.length_nil, Nat.reduceAdd, Nat.zero_add, List.range, List.range.loop]) | (co_apply gbo_pure rfl (by rfl) hk (by intro _ K hK; go_simp; exact hK) (by intro _; simp [go_sem, ev_len, ev_index, ev_indexI, ev_slice_lo, ev_slice_hi, *]); walk_nrm) | co_apply gbo_nil | co_apply gbo_seq | co_apply gbo_block | co_apply gbo_skip | co_apply gbo_inBlock)
  co_apply gbo_inLoop
  exact HN.out _ _ _ hG6.out.sits (hPc.rel hG6.out.rel) ⟨_, _, _, _, _, _, _, _, _, _, _, _, _, _, _, _, _, _, _, _, _, _, _, rfl⟩
theorem looks (C : Ch) (s : Bool) (body : Code) (hbd : IsBody body) (B off n cap : Nat) (ps : List Pc) (hn : ps.length = n) (hlt : n < 1000000) (hz : ∀ p ∈ ps, p.2.size <= 4194304) : ∀ k j, j + k = n -> Looks C s body B off n cap ps j
  | 0, j, h => by
    obtain ⟨N, hN⟩ := look_last C s body hbd n hlt (.slice (some ⟨B, off, none⟩) n cap)
    have e : finds (ps.drop j) = [] := by rw [List.drop_eq_nil_of_le (by omega)]; rfl
    unfold Looks
    rw [e]
    refine ⟨N, ?_⟩
    rintro mine w g hS hPc ⟨u2, u3, u4, s5, s6, s7, s12, s13, s14, s15, s16, s17, s18, s19, s20, s21, s22, s23, s24, s25, s26, s27, s28, rfl⟩
    have : j = n := by omega
    subst this
    exact hN mine w u2 u3 u4 s5 s6 s7 s12 s13 s14 s15 s16 s17 s18 s19 s20 s21 s22 s23 s24 s25 s26 s27 s28
  | k + 1, j, h => by
    have hj : j < ps.length := by omega
    have hp : ps[j]? = some ps[j] := List.getElem?_eq_getElem hj
    have hnx := looks C s body hbd B off n cap ps hn hlt hz k (j + 1) (by omega)
    by_cases hok : Pl.serOk ps[j].2
    . exact look_yes C s body hbd B off n cap ps hn hlt j _ hp (hz _ (List.getElem_mem hj)) hok hnx
    . exact look_no C s body hbd B off n cap ps hn hlt j _ hp (hz _ (List.getElem_mem hj)) hok hnx
set_option maxHeartbeats 4000000 in
theorem look_snd (C : Ch) (s : Bool) (B off n cap : Nat) (ps : List Pc) (hn : ps.length = n) (hlt : n < 1000000) (hz : ∀ p ∈ ps, p.2.size <= 4194304) (w : World) (hS : Sits C [] w) (hPc : Pcs C B off ps w) :
    Snd Tryz.prog C s (finds ps) [] (born Tryz.prog (dcall 101 #[.slice (some ⟨B, off, none⟩) n cap, .chan (some (C.c s))])) w := by
  obtain ⟨body, hbd⟩ : ∃ body, IsBody body := ⟨_, _, _, rfl⟩
  obtain ⟨NN, hN⟩ := looks C s body hbd B off n cap ps hn hlt hz n 0 (by omega)
  have HN : Hid _ := hN
  clear hN
  obtain ⟨x, y, hb⟩ := hbd
  have hb' := hb.symm
  simp only [Tryz.f101, Option.some.injEq, Code.seq.injEq, Code.block.injEq, Code.loop.injEq] at hb'
  obtain ⟨_, _, _, rfl⟩ := hb'
  clear hb
  have hk : (baseD 101).kind ≠ .early := by simp [baseD]
  rw [snd_iff]
  co_apply Exists.intro
  co_apply Gb.ctl rfl rfl (fun w => stepG_born Tryz.func101 (by rfl) rfl)
  simp only [Tryz.ntmps101, List.size_toArray, List.length_cons, List.length_nil, Nat.reduceAdd, Nat.reduceSub, Array.replicate_succ, Array.replicate_zero, List.push_toArray, List.append_toArray, List.nil_append, List.cons_append]
  repeat (first | (co_apply gbo_region; simp only [List.size_toArray, List.length_cons, List.length_nil, Nat.reduceAdd, Nat.zero_add, List.range, List.range.loop]) | (co_apply gbo_pure rfl (by rfl) hk (by intro _ K hK; go_simp; exact hK) (by intro _; simp [go_sem, ev_len, ev_index, ev_indexI, ev_slice_lo, ev_slice_hi, *]); walk_nrm) | co_apply gbo_nil | co_apply gbo_seq | co_apply gbo_block | co_apply gbo_skip | co_apply gbo_inBlock)
  co_apply Gb.ctl rfl rfl (fun w => stepG_deferC (c := C.c s) (ats := #[210]) (t := 8) rfl (by rfl) hk rfl (by rfl))
  walk_nrm
  repeat (first | (co_apply gbo_region; simp only [List.size_toArray, List.length_cons, List.length_nil, Nat.reduceAdd, Nat.zero_add, List.range, List.range.loop]) | (co_apply gbo_pure rfl (by rfl) hk (by intro _ K hK; go_simp; exact hK) (by intro _; simp [go_sem, ev_len, ev_index, ev_indexI, ev_slice_lo, ev_slice_hi, *]); walk_nrm) | co_apply gbo_nil | co_apply gbo_seq | co_apply gbo_block | co_apply gbo_skip | co_apply gbo_inBlock)
  co_apply gbo_loop
  exact HN.out [] w _ hS hPc ⟨_, _, _, _, _, _, _, _, _, _, _, _, _, _, _, _, _, _, _, _, _, _, _, rfl⟩
end Go.Proofs.YtcpldcojckhapaaGreat

set_option maxRecDepth 100000
set_option linter.unusedSimpArgs false
namespace Go.Proofs.YtcpldcojckhapaaGreat
open Go.Conc Go.RowKit
def wf1 : Option (List Fd) -> Nat
  | none => 0
  | some vs => vs.length + 1
def ofO : Option (List Fd) -> List Fd
  | none => []
  | some vs => vs
theorem gathers (C : Ch) (w0 : World) (body rest : Code) (hbd : IsGat body rest) {bc : Frame} {ac : Act} {opsc : Array Oper} {ic : Nat} {restc : List Nat} {oc : Oper} {kc : List Item} {csc : List Frame} (hoc : opsc[ic]? = some oc) (K : List Nat -> Goroutine -> World -> Prop) (A : List Fd) (hA : A.length <= 1000000)
    (hK : ∀ fs, fs.Perm A -> ∀ mine w v, Gat C w0 mine w v fs -> K mine (G (bc.at (ac.put oc.dst v) (.inRegion opsc restc :: kc)) csc) w) : ∀ (f : Nat) (l : Bool -> Option (List Fd)) (fs : List Fd), wf1 (l false) + wf1 (l true) = f -> (fs ++ (ofO (l false) ++ ofO (l true))).Perm A -> Gaths C w0 body rest (bc.at ac (.inRegion opsc (ic :: restc) :: kc) :: csc) K f l fs
  | 0, l, fs, hf, hp => by
    cases h0 : l false with
    | some ls => rw [h0] at hf; simp only [wf1] at hf; omega
    | none =>
      cases h1 : l true with
      | some ls => rw [h1] at hf; simp only [wf1] at hf; omega
      | none =>
        rw [h0, h1] at hp
        exact gather_done C w0 body rest hbd hoc K l fs h0 h1 (hK fs (by simpa [ofO] using hp))
  | f + 1, l, fs, hf, hp => by
    have ih := gathers C w0 body rest hbd (restc := restc) (kc := kc) (bc := bc) (ac := ac) (csc := csc) hoc K A hA hK f
    have hfs : fs.length <= 1000000 := by have := hp.length_eq; rw [List.length_append] at this; omega
    have hn : ∀ s x xs, l s = some (x :: xs) -> Gaths C w0 body rest (bc.at ac (.inRegion opsc (ic :: restc) :: kc) :: csc) K f (setF l s (some xs)) (fs ++ [x]) := by
      intro s x xs hs
      cases s
      . refine ih _ _ ?_ ?_
        . rw [hs] at hf
          show wf1 (some xs) + wf1 (l true) = f
          simp only [wf1, List.length_cons] at hf ⊢
          omega
        . rw [hs] at hp
          show ((fs ++ [x]) ++ (ofO (some xs) ++ ofO (l true))).Perm A
          simpa [ofO] using hp
      . refine ih _ _ ?_ ?_
        . rw [hs] at hf
          show wf1 (l false) + wf1 (some xs) = f
          simp only [wf1, List.length_cons] at hf ⊢
          omega
        . rw [hs] at hp
          show ((fs ++ [x]) ++ (ofO (l false) ++ ofO (some xs))).Perm A
          refine List.Perm.trans ?_ hp
          simp only [ofO, List.append_assoc, List.singleton_append]
          exact (List.perm_append_left_iff fs).2 List.perm_middle.symm
    have hc : ∀ s, l s = some [] -> Gaths C w0 body rest (bc.at ac (.inRegion opsc (ic :: restc) :: kc) :: csc) K f (setF l s none) fs := by
      intro s hs
      cases s
      . refine ih _ _ ?_ ?_
        . rw [hs] at hf
          show wf1 none + wf1 (l true) = f
          simp only [wf1, List.length_nil] at hf ⊢
          omega
        . rw [hs] at hp
          exact hp
      . refine ih _ _ ?_ ?_
        . rw [hs] at hf
          show wf1 (l false) + wf1 none = f
          simp only [wf1, List.length_nil] at hf ⊢
          omega
        . rw [hs] at hp
          exact hp
    cases h0 : l false with
    | some ls =>
      cases h1 : l true with
      | some rs => exact gather_two C w0 body rest hbd _ K f l fs hfs ls rs h0 h1 hn hc
      | none => exact gather_left C w0 body rest hbd _ K f l fs hfs ls h0 h1 hn hc
    | none =>
      cases h1 : l true with
      | some rs => exact gather_right C w0 body rest hbd _ K f l fs hfs rs h0 h1 hn hc
      | none => rw [h0, h1] at hf; simp [wf1] at hf
section
variable {P : Program} {C : Ch} {main : Bool} {a : Act} {mine : List Nat} {w : World} {ops : Array Oper} {i : Nat} {rest : List Nat} {o : Oper} {n : Nat} {b : Frame} {k : List Item} {cs : List Frame} {Stop : List Nat -> Goroutine -> World -> Prop}
theorem gbo_enter {f : FuncId} {args : Array Operand} {ats : Array TypeId} {fc : Func} {c : Code} {vals : Array Value} (ho : ops[i]? = some o) (hw : Region.wanted o (yielded ops a.tmps) = true) (hk : b.kind ≠ .early) (hop : o.op = .call { callee := .value (.func f), args, argTypes := ats }) (hargs : args.map a.eval = vals) (hf : P.funcs[f]? = some fc) (hname : (fc.name == "runtime.NumGoroutine") = false) (hbody : fc.body = some c)
    (h : Gb P C main Stop n mine (G ((base f).at { tmps := vals ++ Array.replicate (fc.ntmps - vals.size) undef, defers := [] } [.code c]) (b.at a (.inRegion ops (i :: rest) :: k) :: cs)) w) : Gb P C main Stop (n + 1) mine (G (b.at a (.inRegion ops (i :: rest) :: k)) cs) w := by
  subst hargs
  have hb' : fc.body.isNone = false := by rw [hbody]; rfl
  refine Gb.ctl rfl rfl (fun w₁ => ?_) h
  rw [stepG_enter ho hw hk (run_call_body hop hf hname hb'), enter_at _ hf hbody]
  have : listed P b.fn a o w₁ = #[] := by unfold listed; rw [events_call_body hop hf hname hb']; exact seen_none P _
  rw [this]
theorem stepG_go {f : FuncId} {args : Array Operand} {ats : Array TypeId} (ho : ops[i]? = some o) (hw : Region.wanted o (yielded ops a.tmps) = true) (hk : b.kind ≠ .early) (hop : o.op = .go { callee := .value (.func f), args, argTypes := ats }) :
    stepG P main (G (b.at a (.inRegion ops (i :: rest) :: k)) cs) w = .spawn (G (b.at (a.put o.dst undef) (.inRegion ops rest :: k)) cs) (born P (dcall f (args.map a.eval))) w #[] := by
  have hr : (execOp a.eval o).run P w = .ok (.spawn (dcall f (args.map a.eval))) w := by
    unfold execOp
    simp [hop, resolve, dcall, Deferred.ofValue, Act.eval]
  have he : (execOp a.eval o).events P w #[] = #[] := by
    unfold execOp
    simp [hop, resolve, Deferred.ofValue, Act.eval]
  rw [stepG_spawn ho hw hk hr rfl, listed_nil he]
end
end Go.Proofs.YtcpldcojckhapaaGreat
