/-
  
-/
import Derived.Test.YtcpldcojckhapaaGreatJ13
set_option maxRecDepth 100000
set_option linter.unusedSimpArgs false
namespace Go.Proofs.YtcpldcojckhapaaGreat
open Go.Conc Go.RowKit
theorem ev_slice_lo {P : Program} {w : World} {es : Array Event} {t : TypeId} {s : ByteArray} {k : Int} (h : P.underlying t = some .string) (h0 : 0 <= k) (h1 : k <= s.size) : (Instr.sliceAt t (.string s) (some (.int .i64 k)) none none).events P w es = es := by
  have : k.toNat <= s.size := by omega
  simp [Instr.sliceAt, Instr.slice, Instr.sliceBounds, Instr.sliceBound, run_underlying h w, asIntOf, h0, h1, this]
theorem ev_slice_hi {P : Program} {w : World} {es : Array Event} {t : TypeId} {s : ByteArray} {k : Int} (h : P.underlying t = some .string) (h0 : 0 <= k) (h1 : k <= s.size) : (Instr.sliceAt t (.string s) none (some (.int .i64 k)) none).events P w es = es := by
  have : k.toNat <= s.size := by omega
  simp [Instr.sliceAt, Instr.slice, Instr.sliceBounds, Instr.sliceBound, run_underlying h w, asIntOf, h0, h1, this]
theorem ev_indexI {P : Program} {w : World} {es : Array Event} {t : TypeId} {s : ByteArray} {k : Int} (h : P.underlying t = some .string) (h0 : 0 <= k) (h1 : k < s.size) : (Instr.index t (.string s) (.int .i64 k)).events P w es = es := by
  have hk : k.toNat < s.size := by omega
  have hg : s[k.toNat]? = some s[k.toNat] := by simp [hk]
  simp [Instr.index, asIntOf, run_underlying h w, h0, hg]
theorem load94 (x y z : Value) : LoadIs Tryz.prog 94 [x, y, z] (.agg #[x, y, z]) := ⟨by kernel_rfl, _, Tryz.underlying94, .inl ⟨rfl, rfl⟩⟩
set_option maxHeartbeats 4000000 in
theorem unit_b (C : Ch) (main : Bool) : ∃ n, ∀ (mine : List Nat) (s : ByteArray), 1 <= s.size -> s.size <= 4194304 -> ∀ w : World, Sits C mine w -> CallsB Tryz.prog C main 137 #[.string s] n mine w fun v m' w' => v = .agg #[.int .i64 0, .int .i64 (Pl.byt s 0 : Nat), .string (s.extract 1 s.size)] /\ Grew C mine w m' w' := by
  obtain ⟨nc, hcl⟩ := clone_b C main
  have hi94 : Hid ((Tryz.prog.info? 94).map (·.size) = some 3) := by show _ = _; kernel_rfl
  co_apply Exists.intro
  intro mine s h1 hs w hS
  have hp : 0 < s.size := h1
  have h1' : (1 : Int) <= s.size := by omega
  have hp' : (0 : Int) < s.size := by omega
  have gb := Pl.get_byt s
  have hb0 := Pl.byt_lt s 0
  have ew : IntKind.i64.wrap (Pl.byt s 0 : Int) = Pl.byt s 0 := by rw [IntKind.wrap_i64]; omega
  co_apply callsB_of_wpB Tryz.func137 (by rfl) rfl
  simp only [Tryz.ntmps137, List.size_toArray, List.length_cons, List.length_nil, Nat.reduceAdd, Nat.reduceSub, Array.replicate_succ, Array.replicate_zero, List.push_toArray, List.append_toArray, List.nil_append, List.cons_append]
  repeat (first | (co_apply wpB_region; simp only [List.size_toArray, List.length_cons, List.length_nil, Nat.reduceAdd, Nat.zero_add, List.range, List.range.loop]) | (co_apply opsB_pure rfl (by rfl) (by intro _ K hK; go_simp; exact hK) (by intro _; simp [go_sem, ev_len, ev_index, ev_indexI, ev_slice_lo, ev_slice_hi, *]); walk_nrm) | (co_apply opsB_nil; try simp only [thenB, inBlockB, if_true, if_false, reduceIte, Nat.reduceEqDiff]) | (first | co_apply wpB_seq | co_apply wpB_block | (co_apply wpB_skip; try simp only [thenB, inBlockB, if_true, if_false, reduceIte, Nat.reduceEqDiff]) | (co_apply wpB_ret; try simp only [thenB, inBlockB, if_true, if_false, reduceIte, Nat.reduceEqDiff]) | (co_apply wpB_exit; try simp only [thenB, inBlockB, if_true, if_false, reduceIte, Nat.reduceEqDiff])) | (co_apply wpB_cond; focus (exact rfl); simp only [if_true, if_false, reduceIte, Bool.false_eq_true]))
  co_apply opsB_alloc rfl (by rfl) rfl Tryz.zeroValue94
  intro w₁ h₁
  have hG := ((Grew.refl hS).step h₁)
  have hN : Hid (New C mine w₁.heap.size) := hG.new
  replace hG : Hid (Grew C mine w (w₁.heap.size :: mine) (w₁.alloc (.cells #[.int .i64 0, .int .i64 0, .string ⟨#[]⟩] 94 (0, 0)))) := hG.alloc _
  have hc : Hid ((w₁.alloc (.cells #[.int .i64 0, .int .i64 0, .string ⟨#[]⟩] 94 (0, 0))).heap[w₁.heap.size]? = some (.cells #[.int .i64 0, .int .i64 0, .string ⟨#[]⟩] 94 (0, 0))) := look_new
  clear h₁
  show OpsB _ _ _ _ _ _ _ _ _ _ (w₁.alloc (.cells #[.int .i64 0, .int .i64 0, .string ⟨#[]⟩] 94 (0, 0)))
  obtain ⟨W, hW⟩ : ∃ W, W = w₁.alloc (.cells #[.int .i64 0, .int .i64 0, .string ⟨#[]⟩] 94 (0, 0)) := ⟨_, rfl⟩
  rw [<- hW] at hG hc ⊢
  obtain ⟨g, hg⟩ : ∃ g, g = w₁.heap.size := ⟨_, rfl⟩
  rw [<- hg] at hG hc hN ⊢
  clear hW hg w₁
  walk_nrm
  repeat (first | (co_apply wpB_region; simp only [List.size_toArray, List.length_cons, List.length_nil, Nat.reduceAdd, Nat.zero_add, List.range, List.range.loop]) | (co_apply opsB_pure rfl (by rfl) (by intro _ K hK; go_simp; exact hK) (by intro _; simp [go_sem, ev_len, ev_index, ev_indexI, ev_slice_lo, ev_slice_hi, *]); walk_nrm) | (co_apply opsB_nil; try simp only [thenB, inBlockB, if_true, if_false, reduceIte, Nat.reduceEqDiff]) | (first | co_apply wpB_seq | co_apply wpB_block | (co_apply wpB_skip; try simp only [thenB, inBlockB, if_true, if_false, reduceIte, Nat.reduceEqDiff]) | (co_apply wpB_ret; try simp only [thenB, inBlockB, if_true, if_false, reduceIte, Nat.reduceEqDiff]) | (co_apply wpB_exit; try simp only [thenB, inBlockB, if_true, if_false, reduceIte, Nat.reduceEqDiff])) | (co_apply wpB_cond; focus (exact rfl); simp only [if_true, if_false, reduceIte, Bool.false_eq_true]))
  co_apply wpB_region_any (nf := nc) (by kernel_rfl) (fun _ _ _ _ h r => wpB_rel h r)
  simp only [List.size_toArray, List.length_cons, List.length_nil, Nat.reduceAdd, Nat.zero_add]
  co_applyP anyB_take (fun _ _ _ _ h r => wpB_rel h r) (i := 0) rfl (by first | kernel_rfl | decide +kernel) (by first | kernel_rfl | decide +kernel) (by first | kernel_rfl | decide +kernel) (yieldsB (by rfl) (by intro _ K hK; go_simp; exact hK) (by intro _; simp [go_sem, ev_len, ev_index, ev_indexI, ev_slice_lo, ev_slice_hi, *]))
  walk_nrm
  co_applyP anyB_take (fun _ _ _ _ h r => wpB_rel h r) (i := 1) rfl (by first | kernel_rfl | decide +kernel) (by first | kernel_rfl | decide +kernel) (by first | kernel_rfl | decide +kernel) (yieldsB (by rfl) (by intro _ K hK; go_simp; exact hK) (by intro _; simp [go_sem, ev_len, ev_index, ev_indexI, ev_slice_lo, ev_slice_hi, *]))
  walk_nrm
  co_applyP anyB_take (fun _ _ _ _ h r => wpB_rel h r) (i := 2) rfl (by first | kernel_rfl | decide +kernel) (by first | kernel_rfl | decide +kernel) (by first | kernel_rfl | decide +kernel) (yieldsB (by rfl) (by intro _ K hK; go_simp; exact hK) (by intro _; simp [go_sem, ev_len, ev_index, ev_indexI, ev_slice_lo, ev_slice_hi, *]))
  walk_nrm
  co_applyP anyB_take (fun _ _ _ _ h r => wpB_rel h r) (i := 3) rfl (by first | kernel_rfl | decide +kernel) (by first | kernel_rfl | decide +kernel) (by first | kernel_rfl | decide +kernel) (yieldsB (by rfl) (by intro _ K hK; go_simp; exact hK) (by intro _; simp [go_sem, ev_len, ev_index, ev_indexI, ev_slice_lo, ev_slice_hi, *]))
  walk_nrm
  co_applyP anyB_take (fun _ _ _ _ h r => wpB_rel h r) (i := 4) rfl (by first | kernel_rfl | decide +kernel) (by first | kernel_rfl | decide +kernel) (by first | kernel_rfl | decide +kernel) (yieldsB (by rfl) (by intro _ K hK; go_simp; exact hK) (by intro _; simp [go_sem, ev_len, ev_index, ev_indexI, ev_slice_lo, ev_slice_hi, *]))
  walk_nrm
  refine anyB_one (i := 5) (by first | kernel_rfl | decide +kernel) ?_
  refine opB_call rfl (by rfl) rfl (hcl (g :: mine) (s.extract 1 s.size) (by simp; omega) W hG.out.sits) (by walk_nrm) ?_
  rintro v m' w' ⟨rfl, hg2⟩
  have hc2 : Hid (w'.heap[g]? = some (.cells #[.int .i64 0, .int .i64 0, .string ⟨#[]⟩] 94 (0, 0))) := hg2.rel.look (.inr (List.mem_cons_self ..)) hc.out
  have hm : Hid (g ∈ m') := hg2.sub g (List.mem_cons_self ..)
  have hG2 : Hid (Grew C mine w m' w') := hG.out.trans hg2
  clear hg2 hG hc
  walk_nrm
  co_applyP anyB_take (fun _ _ _ _ h r => wpB_rel h r) (i := 6) rfl (by first | kernel_rfl | decide +kernel) (by first | kernel_rfl | decide +kernel) (by first | kernel_rfl | decide +kernel) (yieldsB (by rfl) (by intro _ K hK; go_simp; exact hK) (by intro _; simp [go_sem, ev_len, ev_index, ev_indexI, ev_slice_lo, ev_slice_hi, *]))
  walk_nrm
  refine anyB_one (i := 7) (by first | kernel_rfl | decide +kernel) ?_
  refine opB_store rfl (by rfl) rfl (b := g) (v := .agg #[.int .i64 0, .int .i64 (Pl.byt s 0 : Nat), .string (s.extract 1 s.size)]) (by rfl) (by rfl) hm.out hc2.out (by rfl) hi94.out (by simp [Value.cells, Value.oneCell']) ?_
  intro w₂ h₂
  have hG3 : Hid (Grew C mine w m' (w₂.setRow g #[.int .i64 0, .int .i64 (Pl.byt s 0 : Nat), .string (s.extract 1 s.size)])) := (hG2.out.step h₂).row hN.out _
  have hc3 : Hid ((w₂.setRow g #[.int .i64 0, .int .i64 (Pl.byt s 0 : Nat), .string (s.extract 1 s.size)]).heap[g]? = some (.cells #[.int .i64 0, .int .i64 (Pl.byt s 0 : Nat), .string (s.extract 1 s.size)] 94 (0, 0))) := setRow_heap _ _ _ _ _ _ (h₂.look (.inr hm.out) hc2.out)
  clear h₂ hG2 hc2
  show AnyB _ _ _ _ _ _ _ _ _ _ _ _ (w₂.setRow g #[.int .i64 0, .int .i64 (Pl.byt s 0 : Nat), .string (s.extract 1 s.size)])
  obtain ⟨W3, hW⟩ : ∃ W3, W3 = w₂.setRow g #[.int .i64 0, .int .i64 (Pl.byt s 0 : Nat), .string (s.extract 1 s.size)] := ⟨_, rfl⟩
  rw [<- hW] at hG3 hc3 ⊢
  clear hW w₂
  walk_nrm
  refine anyB_done (by first | kernel_rfl | decide +kernel) ?_ _
  simp only [thenB, inBlockB, if_true, if_false, reduceIte, Nat.reduceEqDiff]
  repeat (first | (co_apply wpB_region; simp only [List.size_toArray, List.length_cons, List.length_nil, Nat.reduceAdd, Nat.zero_add, List.range, List.range.loop]) | (co_apply opsB_pure rfl (by rfl) (by intro _ K hK; go_simp; exact hK) (by intro _; simp [go_sem, ev_len, ev_index, ev_indexI, ev_slice_lo, ev_slice_hi, *]); walk_nrm) | (co_apply opsB_nil; try simp only [thenB, inBlockB, if_true, if_false, reduceIte, Nat.reduceEqDiff]) | (first | co_apply wpB_seq | co_apply wpB_block | (co_apply wpB_skip; try simp only [thenB, inBlockB, if_true, if_false, reduceIte, Nat.reduceEqDiff]) | (co_apply wpB_ret; try simp only [thenB, inBlockB, if_true, if_false, reduceIte, Nat.reduceEqDiff]) | (co_apply wpB_exit; try simp only [thenB, inBlockB, if_true, if_false, reduceIte, Nat.reduceEqDiff])) | (co_apply wpB_cond; focus (exact rfl); simp only [if_true, if_false, reduceIte, Bool.false_eq_true]))
  exact results_cellB rfl rfl rfl (.inr hm.out) (range_of hc3.out 0 fun j v hv => by rw [Nat.zero_add]; simpa using hv) (load94 _ _ _) fun w₁ h₁ => ⟨rfl, hG3.out.step h₁⟩
end Go.Proofs.YtcpldcojckhapaaGreat
