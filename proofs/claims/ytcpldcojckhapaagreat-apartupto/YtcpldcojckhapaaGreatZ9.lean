/-
  
-/
import Derived.Test.YtcpldcojckhapaaGreatZ8
set_option maxRecDepth 100000
set_option linter.unusedSimpArgs false
namespace Go.Proofs.YtcpldcojckhapaaGreat
open Go.Conc Go.RowKit
def serV (u : Nat) (b : ByteArray) (k : Int) : Value := .tuple #[.agg #[.int .i64 0, .int .i64 (u : Nat), .string b], .int .i64 k]
def SerB (C : Ch) (mine : List Nat) (w : World) (s : ByteArray) (v : Value) (m' : List Nat) (w' : World) : Prop := ∃ (u : Nat) (b : ByteArray) (k : Int), v = serV u b k /\ Pl.SerIs s u b k /\ Grew C mine w m' w'
set_option maxHeartbeats 4000000 in
theorem serial_b1 (C : Ch) (main : Bool) : ∃ n, ∀ (mine : List Nat) (s : ByteArray), s.size < 4 -> ∀ w : World, Sits C mine w -> CallsB Tryz.prog C main 129 #[.string s] n mine w (SerB C mine w s) := by
  have hi94 : Hid ((Tryz.prog.info? 94).map (·.size) = some 3) := by show _ = _; kernel_rfl
  co_apply Exists.intro
  intro mine s h4 w hS
  have hsz : s.size <= 2 ^ 63 - 1 := by omega
  have hwr : IntKind.i64.wrap ((s.size : Int) - 2) = (s.size : Int) - 2 := by rw [IntKind.wrap_i64]; omega
  have hl : (s.size : Int) - 2 < 2 := by omega
  have HK : Hid (Pl.SerIs s 0 ⟨#[]⟩ 4) := .inr ⟨fun h => by have := h.1; omega, rfl, rfl, rfl⟩
  co_apply callsB_of_wpB Tryz.func129 (by rfl) rfl
  simp only [Tryz.ntmps129, List.size_toArray, List.length_cons, List.length_nil, Nat.reduceAdd, Nat.reduceSub, Array.replicate_succ, Array.replicate_zero, List.push_toArray, List.append_toArray, List.nil_append, List.cons_append]
  repeat (first | (co_apply wpB_region; simp only [List.size_toArray, List.length_cons, List.length_nil, Nat.reduceAdd, Nat.zero_add, List.range, List.range.loop]) | (co_apply opsB_pure rfl (by rfl) (by intro _ K hK; go_simp; exact hK) (by intro _; simp [go_sem, ev_len, ev_index, ev_indexI, ev_slice_lo, ev_slice_hi, *]); walk_nrm) | (co_apply opsB_unwanted rfl (by rfl); walk_nrm) | (co_apply opsB_nil; try simp only [thenB, inBlockB, if_true, if_false, reduceIte, Nat.reduceEqDiff]) | (first | co_apply wpB_seq | co_apply wpB_block | (co_apply wpB_skip; try simp only [thenB, inBlockB, if_true, if_false, reduceIte, Nat.reduceEqDiff]) | (co_apply wpB_ret; try simp only [thenB, inBlockB, if_true, if_false, reduceIte, Nat.reduceEqDiff]) | (co_apply wpB_exit; try simp only [thenB, inBlockB, if_true, if_false, reduceIte, Nat.reduceEqDiff])) | (co_apply wpB_cond; focus (exact rfl); simp only [if_true, if_false, reduceIte, Bool.false_eq_true]))
  co_apply opsB_alloc rfl (by rfl) rfl Tryz.zeroValue94
  intro w₁ h₁
  have hG := ((Grew.refl hS).step h₁)
  have hN : Hid (New C mine w₁.heap.size) := hG.new
  replace hG : Hid (Grew C mine w (w₁.heap.size :: mine) (w₁.alloc (.cells #[.int .i64 0, .int .i64 0, .string ⟨#[]⟩] 94 (0, 0)))) := hG.alloc _
  have hc : Hid ((w₁.alloc (.cells #[.int .i64 0, .int .i64 0, .string ⟨#[]⟩] 94 (0, 0))).heap[w₁.heap.size]? = some (.cells #[.int .i64 0, .int .i64 0, .string ⟨#[]⟩] 94 (0, 0))) := look_new
  clear h₁
  show OpsB _ _ _ _ _ _ _ _ _ _ (w₁.alloc (.cells #[.int .i64 0, .int .i64 0, .string ⟨#[]⟩] 94 (0, 0)))
  obtain ⟨W, hW⟩ : ∃ W, W = w₁.alloc (.cells #[.int .i64 0, .int .i64 0, .string ⟨#[]⟩] 94 (0, 0)) := ⟨_, rfl⟩
  rw [<- hW] at hG hc ⊢
  obtain ⟨g, hg⟩ : ∃ g, g = w₁.heap.size := ⟨_, rfl⟩
  rw [<- hg] at hG hc hN ⊢
  clear hW hg w₁
  walk_nrm
  repeat (first | (co_apply wpB_region; simp only [List.size_toArray, List.length_cons, List.length_nil, Nat.reduceAdd, Nat.zero_add, List.range, List.range.loop]) | (co_apply opsB_pure rfl (by rfl) (by intro _ K hK; go_simp; exact hK) (by intro _; simp [go_sem, ev_len, ev_index, ev_indexI, ev_slice_lo, ev_slice_hi, *]); walk_nrm) | (co_apply opsB_unwanted rfl (by rfl); walk_nrm) | (co_apply opsB_nil; try simp only [thenB, inBlockB, if_true, if_false, reduceIte, Nat.reduceEqDiff]))
  co_apply wpB_seq
  repeat (first | (co_apply wpB_region; simp only [List.size_toArray, List.length_cons, List.length_nil, Nat.reduceAdd, Nat.zero_add, List.range, List.range.loop]) | (co_apply opsB_pure rfl (by rfl) (by intro _ K hK; go_simp; exact hK) (by intro _; simp [go_sem, ev_len, ev_index, ev_indexI, ev_slice_lo, ev_slice_hi, *]); walk_nrm) | (co_apply opsB_unwanted rfl (by rfl); walk_nrm) | (co_apply opsB_nil; try simp only [thenB, inBlockB, if_true, if_false, reduceIte, Nat.reduceEqDiff]))
  co_apply wpB_seq (n₂ := 0)
  co_apply wpB_seq
  repeat (first | (co_apply wpB_region; simp only [List.size_toArray, List.length_cons, List.length_nil, Nat.reduceAdd, Nat.zero_add, List.range, List.range.loop]) | (co_apply opsB_pure rfl (by rfl) (by intro _ K hK; go_simp; exact hK) (by intro _; simp [go_sem, ev_len, ev_index, ev_indexI, ev_slice_lo, ev_slice_hi, *]); walk_nrm) | (co_apply opsB_unwanted rfl (by rfl); walk_nrm) | (co_apply opsB_nil; try simp only [thenB, inBlockB, if_true, if_false, reduceIte, Nat.reduceEqDiff]))
  co_apply wpB_cond
  focus (exact rfl)
  simp only [if_true, if_false, reduceIte, Bool.false_eq_true]
  repeat (first | (co_apply wpB_region; simp only [List.size_toArray, List.length_cons, List.length_nil, Nat.reduceAdd, Nat.zero_add, List.range, List.range.loop]) | (co_apply opsB_pure rfl (by rfl) (by intro _ K hK; go_simp; exact hK) (by intro _; simp [go_sem, ev_len, ev_index, ev_indexI, ev_slice_lo, ev_slice_hi, *]); walk_nrm) | (co_apply opsB_unwanted rfl (by rfl); walk_nrm) | (co_apply opsB_nil; try simp only [thenB, inBlockB, if_true, if_false, reduceIte, Nat.reduceEqDiff]) | (first | co_apply wpB_seq | co_apply wpB_block | (co_apply wpB_skip; try simp only [thenB, inBlockB, if_true, if_false, reduceIte, Nat.reduceEqDiff]) | (co_apply wpB_ret; try simp only [thenB, inBlockB, if_true, if_false, reduceIte, Nat.reduceEqDiff]) | (co_apply wpB_exit; try simp only [thenB, inBlockB, if_true, if_false, reduceIte, Nat.reduceEqDiff])) | (co_apply wpB_cond; focus (exact rfl); simp only [if_true, if_false, reduceIte, Bool.false_eq_true]))
  co_apply opsB_store rfl (by rfl) rfl (b := g) (v := .agg #[.int .i64 0, .int .i64 0, .string ⟨#[]⟩]) (by rfl) (by rfl) (List.mem_cons_self ..) hc.out (by rfl) hi94.out (by simp [Value.cells, Value.oneCell'])
  intro w₂ h₂
  have hG3 : Hid (Grew C mine w (g :: mine) (w₂.setRow g #[.int .i64 0, .int .i64 0, .string ⟨#[]⟩])) := (hG.out.step h₂).row hN.out _
  have hc3 : Hid ((w₂.setRow g #[.int .i64 0, .int .i64 0, .string ⟨#[]⟩]).heap[g]? = some (.cells #[.int .i64 0, .int .i64 0, .string ⟨#[]⟩] 94 (0, 0))) := setRow_heap _ _ _ _ _ _ (h₂.look (.inr (List.mem_cons_self ..)) hc.out)
  clear h₂ hG hc
  show OpsB _ _ _ _ _ _ _ _ _ _ (w₂.setRow g #[.int .i64 0, .int .i64 0, .string ⟨#[]⟩])
  obtain ⟨W3, hW⟩ : ∃ W3, W3 = w₂.setRow g #[.int .i64 0, .int .i64 0, .string ⟨#[]⟩] := ⟨_, rfl⟩
  rw [<- hW] at hG3 hc3 ⊢
  clear hW w₂
  walk_nrm
  repeat (first | (co_apply wpB_region; simp only [List.size_toArray, List.length_cons, List.length_nil, Nat.reduceAdd, Nat.zero_add, List.range, List.range.loop]) | (co_apply opsB_pure rfl (by rfl) (by intro _ K hK; go_simp; exact hK) (by intro _; simp [go_sem, ev_len, ev_index, ev_indexI, ev_slice_lo, ev_slice_hi, *]); walk_nrm) | (co_apply opsB_unwanted rfl (by rfl); walk_nrm) | (co_apply opsB_nil; try simp only [thenB, inBlockB, if_true, if_false, reduceIte, Nat.reduceEqDiff]) | (first | co_apply wpB_seq | co_apply wpB_block | (co_apply wpB_skip; try simp only [thenB, inBlockB, if_true, if_false, reduceIte, Nat.reduceEqDiff]) | (co_apply wpB_ret; try simp only [thenB, inBlockB, if_true, if_false, reduceIte, Nat.reduceEqDiff]) | (co_apply wpB_exit; try simp only [thenB, inBlockB, if_true, if_false, reduceIte, Nat.reduceEqDiff])) | (co_apply wpB_cond; focus (exact rfl); simp only [if_true, if_false, reduceIte, Bool.false_eq_true]))
  exact results_cell2B rfl rfl rfl (.inr (List.mem_cons_self ..)) (range_of hc3.out 0 fun j v hv => by rw [Nat.zero_add]; simpa using hv) (load94 _ _ _) fun w₁ h₁ => ⟨0, ⟨#[]⟩, 4, rfl, HK.out, hG3.out.step h₁⟩
set_option maxHeartbeats 4000000 in
theorem serial_b2 (C : Ch) (main : Bool) : ∃ n, ∀ (mine : List Nat) (s : ByteArray), 256 < s.size -> s.size <= 4194304 -> ∀ w : World, Sits C mine w -> CallsB Tryz.prog C main 129 #[.string s] n mine w (SerB C mine w s) := by
  have hi94 : Hid ((Tryz.prog.info? 94).map (·.size) = some 3) := by show _ = _; kernel_rfl
  co_apply Exists.intro
  intro mine s h4 hs w hS
  have hsz : s.size <= 2 ^ 63 - 1 := by omega
  have hwr : IntKind.i64.wrap ((s.size : Int) - 2) = (s.size : Int) - 2 := by rw [IntKind.wrap_i64]; omega
  have hl : ¬ ((s.size : Int) - 2 < 2) := by omega
  have hl2 : (254 : Int) < (s.size : Int) - 2 := by omega
  have HK : Hid (Pl.SerIs s 0 ⟨#[]⟩ 4) := .inr ⟨fun h => by have := h.2.1; omega, rfl, rfl, rfl⟩
  co_apply callsB_of_wpB Tryz.func129 (by rfl) rfl
  simp only [Tryz.ntmps129, List.size_toArray, List.length_cons, List.length_nil, Nat.reduceAdd, Nat.reduceSub, Array.replicate_succ, Array.replicate_zero, List.push_toArray, List.append_toArray, List.nil_append, List.cons_append]
  repeat (first | (co_apply wpB_region; simp only [List.size_toArray, List.length_cons, List.length_nil, Nat.reduceAdd, Nat.zero_add, List.range, List.range.loop]) | (co_apply opsB_pure rfl (by rfl) (by intro _ K hK; go_simp; exact hK) (by intro _; simp [go_sem, ev_len, ev_index, ev_indexI, ev_slice_lo, ev_slice_hi, *]); walk_nrm) | (co_apply opsB_unwanted rfl (by rfl); walk_nrm) | (co_apply opsB_nil; try simp only [thenB, inBlockB, if_true, if_false, reduceIte, Nat.reduceEqDiff]) | (first | co_apply wpB_seq | co_apply wpB_block | (co_apply wpB_skip; try simp only [thenB, inBlockB, if_true, if_false, reduceIte, Nat.reduceEqDiff]) | (co_apply wpB_ret; try simp only [thenB, inBlockB, if_true, if_false, reduceIte, Nat.reduceEqDiff]) | (co_apply wpB_exit; try simp only [thenB, inBlockB, if_true, if_false, reduceIte, Nat.reduceEqDiff])) | (co_apply wpB_cond; focus (exact rfl); simp only [if_true, if_false, reduceIte, Bool.false_eq_true]))
  co_apply opsB_alloc rfl (by rfl) rfl Tryz.zeroValue94
  intro w₁ h₁
  have hG := ((Grew.refl hS).step h₁)
  have hN : Hid (New C mine w₁.heap.size) := hG.new
  replace hG : Hid (Grew C mine w (w₁.heap.size :: mine) (w₁.alloc (.cells #[.int .i64 0, .int .i64 0, .string ⟨#[]⟩] 94 (0, 0)))) := hG.alloc _
  have hc : Hid ((w₁.alloc (.cells #[.int .i64 0, .int .i64 0, .string ⟨#[]⟩] 94 (0, 0))).heap[w₁.heap.size]? = some (.cells #[.int .i64 0, .int .i64 0, .string ⟨#[]⟩] 94 (0, 0))) := look_new
  clear h₁
  show OpsB _ _ _ _ _ _ _ _ _ _ (w₁.alloc (.cells #[.int .i64 0, .int .i64 0, .string ⟨#[]⟩] 94 (0, 0)))
  obtain ⟨W, hW⟩ : ∃ W, W = w₁.alloc (.cells #[.int .i64 0, .int .i64 0, .string ⟨#[]⟩] 94 (0, 0)) := ⟨_, rfl⟩
  rw [<- hW] at hG hc ⊢
  obtain ⟨g, hg⟩ : ∃ g, g = w₁.heap.size := ⟨_, rfl⟩
  rw [<- hg] at hG hc hN ⊢
  clear hW hg w₁
  walk_nrm
  repeat (first | (co_apply wpB_region; simp only [List.size_toArray, List.length_cons, List.length_nil, Nat.reduceAdd, Nat.zero_add, List.range, List.range.loop]) | (co_apply opsB_pure rfl (by rfl) (by intro _ K hK; go_simp; exact hK) (by intro _; simp [go_sem, ev_len, ev_index, ev_indexI, ev_slice_lo, ev_slice_hi, *]); walk_nrm) | (co_apply opsB_unwanted rfl (by rfl); walk_nrm) | (co_apply opsB_nil; try simp only [thenB, inBlockB, if_true, if_false, reduceIte, Nat.reduceEqDiff]))
  co_apply wpB_seq
  repeat (first | (co_apply wpB_region; simp only [List.size_toArray, List.length_cons, List.length_nil, Nat.reduceAdd, Nat.zero_add, List.range, List.range.loop]) | (co_apply opsB_pure rfl (by rfl) (by intro _ K hK; go_simp; exact hK) (by intro _; simp [go_sem, ev_len, ev_index, ev_indexI, ev_slice_lo, ev_slice_hi, *]); walk_nrm) | (co_apply opsB_unwanted rfl (by rfl); walk_nrm) | (co_apply opsB_nil; try simp only [thenB, inBlockB, if_true, if_false, reduceIte, Nat.reduceEqDiff]))
  co_apply wpB_seq (n₂ := 0)
  co_apply wpB_seq
  repeat (first | (co_apply wpB_region; simp only [List.size_toArray, List.length_cons, List.length_nil, Nat.reduceAdd, Nat.zero_add, List.range, List.range.loop]) | (co_apply opsB_pure rfl (by rfl) (by intro _ K hK; go_simp; exact hK) (by intro _; simp [go_sem, ev_len, ev_index, ev_indexI, ev_slice_lo, ev_slice_hi, *]); walk_nrm) | (co_apply opsB_unwanted rfl (by rfl); walk_nrm) | (co_apply opsB_nil; try simp only [thenB, inBlockB, if_true, if_false, reduceIte, Nat.reduceEqDiff]))
  co_apply wpB_cond
  focus (exact rfl)
  simp only [if_true, if_false, reduceIte, Bool.false_eq_true]
  repeat (first | (co_apply wpB_region; simp only [List.size_toArray, List.length_cons, List.length_nil, Nat.reduceAdd, Nat.zero_add, List.range, List.range.loop]) | (co_apply opsB_pure rfl (by rfl) (by intro _ K hK; go_simp; exact hK) (by intro _; simp [go_sem, ev_len, ev_index, ev_indexI, ev_slice_lo, ev_slice_hi, *]); walk_nrm) | (co_apply opsB_unwanted rfl (by rfl); walk_nrm) | (co_apply opsB_nil; try simp only [thenB, inBlockB, if_true, if_false, reduceIte, Nat.reduceEqDiff]) | (first | co_apply wpB_seq | co_apply wpB_block | (co_apply wpB_skip; try simp only [thenB, inBlockB, if_true, if_false, reduceIte, Nat.reduceEqDiff]) | (co_apply wpB_ret; try simp only [thenB, inBlockB, if_true, if_false, reduceIte, Nat.reduceEqDiff]) | (co_apply wpB_exit; try simp only [thenB, inBlockB, if_true, if_false, reduceIte, Nat.reduceEqDiff])) | (co_apply wpB_cond; focus (exact rfl); simp only [if_true, if_false, reduceIte, Bool.false_eq_true]))
  co_apply opsB_store rfl (by rfl) rfl (b := g) (v := .agg #[.int .i64 0, .int .i64 0, .string ⟨#[]⟩]) (by rfl) (by rfl) (List.mem_cons_self ..) hc.out (by rfl) hi94.out (by simp [Value.cells, Value.oneCell'])
  intro w₂ h₂
  have hG3 : Hid (Grew C mine w (g :: mine) (w₂.setRow g #[.int .i64 0, .int .i64 0, .string ⟨#[]⟩])) := (hG.out.step h₂).row hN.out _
  have hc3 : Hid ((w₂.setRow g #[.int .i64 0, .int .i64 0, .string ⟨#[]⟩]).heap[g]? = some (.cells #[.int .i64 0, .int .i64 0, .string ⟨#[]⟩] 94 (0, 0))) := setRow_heap _ _ _ _ _ _ (h₂.look (.inr (List.mem_cons_self ..)) hc.out)
  clear h₂ hG hc
  show OpsB _ _ _ _ _ _ _ _ _ _ (w₂.setRow g #[.int .i64 0, .int .i64 0, .string ⟨#[]⟩])
  obtain ⟨W3, hW⟩ : ∃ W3, W3 = w₂.setRow g #[.int .i64 0, .int .i64 0, .string ⟨#[]⟩] := ⟨_, rfl⟩
  rw [<- hW] at hG3 hc3 ⊢
  clear hW w₂
  walk_nrm
  repeat (first | (co_apply wpB_region; simp only [List.size_toArray, List.length_cons, List.length_nil, Nat.reduceAdd, Nat.zero_add, List.range, List.range.loop]) | (co_apply opsB_pure rfl (by rfl) (by intro _ K hK; go_simp; exact hK) (by intro _; simp [go_sem, ev_len, ev_index, ev_indexI, ev_slice_lo, ev_slice_hi, *]); walk_nrm) | (co_apply opsB_unwanted rfl (by rfl); walk_nrm) | (co_apply opsB_nil; try simp only [thenB, inBlockB, if_true, if_false, reduceIte, Nat.reduceEqDiff]) | (first | co_apply wpB_seq | co_apply wpB_block | (co_apply wpB_skip; try simp only [thenB, inBlockB, if_true, if_false, reduceIte, Nat.reduceEqDiff]) | (co_apply wpB_ret; try simp only [thenB, inBlockB, if_true, if_false, reduceIte, Nat.reduceEqDiff]) | (co_apply wpB_exit; try simp only [thenB, inBlockB, if_true, if_false, reduceIte, Nat.reduceEqDiff])) | (co_apply wpB_cond; focus (exact rfl); simp only [if_true, if_false, reduceIte, Bool.false_eq_true]))
  exact results_cell2B rfl rfl rfl (.inr (List.mem_cons_self ..)) (range_of hc3.out 0 fun j v hv => by rw [Nat.zero_add]; simpa using hv) (load94 _ _ _) fun w₁ h₁ => ⟨0, ⟨#[]⟩, 4, rfl, HK.out, hG3.out.step h₁⟩
set_option maxHeartbeats 4000000 in
theorem serial_b3 (C : Ch) (main : Bool) : ∃ n, ∀ (mine : List Nat) (s : ByteArray), 4 <= s.size -> s.size <= 256 -> ∀ w : World, Sits C mine w -> CallsB Tryz.prog C main 129 #[.string s] n mine w (SerB C mine w s) := by
  obtain ⟨nk, hck⟩ := check_c C main 254 (by omega)
  obtain ⟨nu, hub⟩ := unit_b C main
  have hi94 : Hid ((Tryz.prog.info? 94).map (·.size) = some 3) := by show _ = _; kernel_rfl
  co_apply Exists.intro
  intro mine s h4 h256 w hS
  have hsz : s.size <= 2 ^ 63 - 1 := by omega
  obtain ⟨L, hL⟩ : ∃ L, s.size = L + 2 := ⟨s.size - 2, by omega⟩
  have hwr : IntKind.i64.wrap ((s.size : Int) - 2) = (L : Int) := by rw [IntKind.wrap_i64]; omega
  have hwn : IntKind.i64.wrap ((L : Int) + 1) = ((L + 1 : Nat) : Int) := by rw [IntKind.wrap_i64]; omega
  have l1 : L < s.size := by omega
  have l2 : L + 1 < s.size := by omega
  have l3 : (L : Int) <= s.size := by omega
  have l6 : (0 : Int) <= (L : Int) + 1 := by omega
  have l7 : (L : Int) + 1 < s.size := by omega
  have l4 : ¬ ((L : Int) < 2) := by omega
  have l5 : ¬ ((254 : Int) < L) := by omega
  have gb := Pl.get_byt s
  have b0 := Pl.byt_lt s L
  have b1 := Pl.byt_lt s (L + 1)
  have wb0 := wrap_byte b0
  have wb1 := wrap_byte b1
  obtain ⟨D, HD⟩ : ∃ D, Hid (D = Pl.byt s L + 256 * Pl.byt s (L + 1)) := ⟨_, rfl⟩
  have wb2 : IntKind.u16.wrap ((Pl.byt s (L + 1) : Int) * 256) = (Pl.byt s (L + 1) : Int) * 256 := by
    have : (2 : Int) ^ IntKind.u16.bits = 65536 := rfl
    simp only [IntKind.wrap, this, IntKind.signed, Bool.false_and, Bool.false_eq_true, if_false]
    omega
  have eo : bits .or .u16 (Pl.byt s L : Int) ((Pl.byt s (L + 1) : Int) * 256) = (D : Int) := by rw [HD.out]; exact Pl.u16_word _ _ b0 b1
  have HL : Hid (s.size = L + 2) := hL
  clear hL
  co_apply callsB_of_wpB Tryz.func129 (by rfl) rfl
  simp only [Tryz.ntmps129, List.size_toArray, List.length_cons, List.length_nil, Nat.reduceAdd, Nat.reduceSub, Array.replicate_succ, Array.replicate_zero, List.push_toArray, List.append_toArray, List.nil_append, List.cons_append]
  repeat (first | (co_apply wpB_region; simp only [List.size_toArray, List.length_cons, List.length_nil, Nat.reduceAdd, Nat.zero_add, List.range, List.range.loop]) | (co_apply opsB_pure rfl (by rfl) (by intro _ K hK; go_simp; exact hK) (by intro _; simp [go_sem, ev_len, ev_index, ev_indexI, ev_slice_lo, ev_slice_hi, *]); walk_nrm) | (co_apply opsB_unwanted rfl (by rfl); walk_nrm) | (co_apply opsB_nil; try simp only [thenB, inBlockB, if_true, if_false, reduceIte, Nat.reduceEqDiff]) | (first | co_apply wpB_seq | co_apply wpB_block | (co_apply wpB_skip; try simp only [thenB, inBlockB, if_true, if_false, reduceIte, Nat.reduceEqDiff]) | (co_apply wpB_ret; try simp only [thenB, inBlockB, if_true, if_false, reduceIte, Nat.reduceEqDiff]) | (co_apply wpB_exit; try simp only [thenB, inBlockB, if_true, if_false, reduceIte, Nat.reduceEqDiff])) | (co_apply wpB_cond; focus (exact rfl); simp only [if_true, if_false, reduceIte, Bool.false_eq_true]))
  co_apply opsB_alloc rfl (by rfl) rfl Tryz.zeroValue94
  intro w₁ h₁
  have hG := ((Grew.refl hS).step h₁)
  have hN : Hid (New C mine w₁.heap.size) := hG.new
  replace hG : Hid (Grew C mine w (w₁.heap.size :: mine) (w₁.alloc (.cells #[.int .i64 0, .int .i64 0, .string ⟨#[]⟩] 94 (0, 0)))) := hG.alloc _
  have hc : Hid ((w₁.alloc (.cells #[.int .i64 0, .int .i64 0, .string ⟨#[]⟩] 94 (0, 0))).heap[w₁.heap.size]? = some (.cells #[.int .i64 0, .int .i64 0, .string ⟨#[]⟩] 94 (0, 0))) := look_new
  clear h₁
  show OpsB _ _ _ _ _ _ _ _ _ _ (w₁.alloc (.cells #[.int .i64 0, .int .i64 0, .string ⟨#[]⟩] 94 (0, 0)))
  obtain ⟨W, hW⟩ : ∃ W, W = w₁.alloc (.cells #[.int .i64 0, .int .i64 0, .string ⟨#[]⟩] 94 (0, 0)) := ⟨_, rfl⟩
  rw [<- hW] at hG hc ⊢
  obtain ⟨g, hg⟩ : ∃ g, g = w₁.heap.size := ⟨_, rfl⟩
  rw [<- hg] at hG hc hN ⊢
  clear hW hg w₁
  walk_nrm
  repeat (first | (co_apply wpB_region; simp only [List.size_toArray, List.length_cons, List.length_nil, Nat.reduceAdd, Nat.zero_add, List.range, List.range.loop]) | (co_apply opsB_pure rfl (by rfl) (by intro _ K hK; go_simp; exact hK) (by intro _; simp [go_sem, ev_len, ev_index, ev_indexI, ev_slice_lo, ev_slice_hi, *]); walk_nrm) | (co_apply opsB_unwanted rfl (by rfl); walk_nrm) | (co_apply opsB_nil; try simp only [thenB, inBlockB, if_true, if_false, reduceIte, Nat.reduceEqDiff]))
  co_apply wpB_seq
  repeat (first | (co_apply wpB_region; simp only [List.size_toArray, List.length_cons, List.length_nil, Nat.reduceAdd, Nat.zero_add, List.range, List.range.loop]) | (co_apply opsB_pure rfl (by rfl) (by intro _ K hK; go_simp; exact hK) (by intro _; simp [go_sem, ev_len, ev_index, ev_indexI, ev_slice_lo, ev_slice_hi, *]); walk_nrm) | (co_apply opsB_unwanted rfl (by rfl); walk_nrm) | (co_apply opsB_nil; try simp only [thenB, inBlockB, if_true, if_false, reduceIte, Nat.reduceEqDiff]))
  co_apply wpB_seq
  co_apply wpB_seq
  repeat (first | (co_apply wpB_region; simp only [List.size_toArray, List.length_cons, List.length_nil, Nat.reduceAdd, Nat.zero_add, List.range, List.range.loop]) | (co_apply opsB_pure rfl (by rfl) (by intro _ K hK; go_simp; exact hK) (by intro _; simp [go_sem, ev_len, ev_index, ev_indexI, ev_slice_lo, ev_slice_hi, *]); walk_nrm) | (co_apply opsB_unwanted rfl (by rfl); walk_nrm) | (co_apply opsB_nil; try simp only [thenB, inBlockB, if_true, if_false, reduceIte, Nat.reduceEqDiff]))
  co_apply wpB_cond
  focus (exact rfl)
  simp only [if_true, if_false, reduceIte, Bool.false_eq_true]
  co_apply wpB_skip
  simp only [thenB, inBlockB, if_true, if_false, reduceIte, Nat.reduceEqDiff]
  co_apply wpB_seq
  co_apply wpB_region_any (nf := 0) (by kernel_rfl) (fun _ _ _ _ h r => wpB_rel h r)
  simp only [List.size_toArray, List.length_cons, List.length_nil, Nat.reduceAdd, Nat.zero_add]
  co_applyP anyB_take (fun _ _ _ _ h r => wpB_rel h r) (i := 0) rfl (by first | kernel_rfl | decide +kernel) (by first | kernel_rfl | decide +kernel) (by first | kernel_rfl | decide +kernel) (yieldsB (by rfl) (by intro _ K hK; go_simp; exact hK) (by intro _; simp [go_sem, ev_len, ev_index, ev_indexI, ev_slice_lo, ev_slice_hi, *]))
  walk_nrm
  co_applyP anyB_take (fun _ _ _ _ h r => wpB_rel h r) (i := 1) rfl (by first | kernel_rfl | decide +kernel) (by first | kernel_rfl | decide +kernel) (by first | kernel_rfl | decide +kernel) (yieldsB (by rfl) (by intro _ K hK; go_simp; exact hK) (by intro _; simp [go_sem, ev_len, ev_index, ev_indexI, ev_slice_lo, ev_slice_hi, *]))
  walk_nrm
  co_applyP anyB_take (fun _ _ _ _ h r => wpB_rel h r) (i := 2) rfl (by first | kernel_rfl | decide +kernel) (by first | kernel_rfl | decide +kernel) (by first | kernel_rfl | decide +kernel) (yieldsB (by rfl) (by intro _ K hK; go_simp; exact hK) (by intro _; simp [go_sem, ev_len, ev_index, ev_indexI, ev_slice_lo, ev_slice_hi, *]))
  walk_nrm
  co_applyP anyB_take (fun _ _ _ _ h r => wpB_rel h r) (i := 3) rfl (by first | kernel_rfl | decide +kernel) (by first | kernel_rfl | decide +kernel) (by first | kernel_rfl | decide +kernel) (yieldsB (by rfl) (by intro _ K hK; go_simp; exact hK) (by intro _; simp [go_sem, ev_len, ev_index, ev_indexI, ev_slice_lo, ev_slice_hi, *]))
  walk_nrm
  co_applyP anyB_take (fun _ _ _ _ h r => wpB_rel h r) (i := 4) rfl (by first | kernel_rfl | decide +kernel) (by first | kernel_rfl | decide +kernel) (by first | kernel_rfl | decide +kernel) (yieldsB (by rfl) (by intro _ K hK; go_simp; exact hK) (by intro _; simp [go_sem, ev_len, ev_index, ev_indexI, ev_slice_lo, ev_slice_hi, *]))
  walk_nrm
  co_applyP anyB_take (fun _ _ _ _ h r => wpB_rel h r) (i := 5) rfl (by first | kernel_rfl | decide +kernel) (by first | kernel_rfl | decide +kernel) (by first | kernel_rfl | decide +kernel) (yieldsB (by rfl) (by intro _ K hK; go_simp; exact hK) (by intro _; simp [go_sem, ev_len, ev_index, ev_indexI, ev_slice_lo, ev_slice_hi, *]))
  walk_nrm
  co_applyP anyB_take (fun _ _ _ _ h r => wpB_rel h r) (i := 6) rfl (by first | kernel_rfl | decide +kernel) (by first | kernel_rfl | decide +kernel) (by first | kernel_rfl | decide +kernel) (yieldsB (by rfl) (by intro _ K hK; go_simp; exact hK) (by intro _; simp [go_sem, ev_len, ev_index, ev_indexI, ev_slice_lo, ev_slice_hi, *]))
  walk_nrm
  co_applyP anyB_take (fun _ _ _ _ h r => wpB_rel h r) (i := 7) rfl (by first | kernel_rfl | decide +kernel) (by first | kernel_rfl | decide +kernel) (by first | kernel_rfl | decide +kernel) (yieldsB (by rfl) (by intro _ K hK; go_simp; exact hK) (by intro _; simp [go_sem, ev_len, ev_index, ev_indexI, ev_slice_lo, ev_slice_hi, *]))
  walk_nrm
  co_applyP anyB_take (fun _ _ _ _ h r => wpB_rel h r) (i := 8) rfl (by first | kernel_rfl | decide +kernel) (by first | kernel_rfl | decide +kernel) (by first | kernel_rfl | decide +kernel) (yieldsB (by rfl) (by intro _ K hK; go_simp; exact hK) (by intro _; simp [go_sem, ev_len, ev_index, ev_indexI, ev_slice_lo, ev_slice_hi, *]))
  walk_nrm
  co_applyP anyB_take (fun _ _ _ _ h r => wpB_rel h r) (i := 9) rfl (by first | kernel_rfl | decide +kernel) (by first | kernel_rfl | decide +kernel) (by first | kernel_rfl | decide +kernel) (yieldsB (by rfl) (by intro _ K hK; go_simp; exact hK) (by intro _; simp [go_sem, ev_len, ev_index, ev_indexI, ev_slice_lo, ev_slice_hi, *]))
  walk_nrm
  co_applyP anyB_take (fun _ _ _ _ h r => wpB_rel h r) (i := 10) rfl (by first | kernel_rfl | decide +kernel) (by first | kernel_rfl | decide +kernel) (by first | kernel_rfl | decide +kernel) (yieldsB (by rfl) (by intro _ K hK; go_simp; exact hK) (by intro _; simp [go_sem, ev_len, ev_index, ev_indexI, ev_slice_lo, ev_slice_hi, *]))
  walk_nrm
  co_applyP anyB_take (fun _ _ _ _ h r => wpB_rel h r) (i := 11) rfl (by first | kernel_rfl | decide +kernel) (by first | kernel_rfl | decide +kernel) (by first | kernel_rfl | decide +kernel) (yieldsB (by rfl) (by intro _ K hK; go_simp; exact hK) (by intro _; simp [go_sem, ev_len, ev_index, ev_indexI, ev_slice_lo, ev_slice_hi, *]))
  walk_nrm
  refine anyB_done (by first | kernel_rfl | decide +kernel) ?_ _
  simp only [thenB, inBlockB, if_true, if_false, reduceIte, Nat.reduceEqDiff]
  co_apply wpB_seq
  co_apply wpB_seq
  repeat (first | (co_apply wpB_region; simp only [List.size_toArray, List.length_cons, List.length_nil, Nat.reduceAdd, Nat.zero_add, List.range, List.range.loop]) | (co_apply opsB_pure rfl (by rfl) (by intro _ K hK; go_simp; exact hK) (by intro _; simp [go_sem, ev_len, ev_index, ev_indexI, ev_slice_lo, ev_slice_hi, *]); walk_nrm) | (co_apply opsB_unwanted rfl (by rfl); walk_nrm) | (co_apply opsB_nil; try simp only [thenB, inBlockB, if_true, if_false, reduceIte, Nat.reduceEqDiff]))
  co_apply opsB_callE rfl (by rfl) rfl (callsB_of_callsC (hck (g :: mine) (s.extract 0 L) (by simp; omega) W)) (by walk_nrm)
  rintro v m' w' ⟨rfl, w₀, hr0, rfl, hr1⟩
  have hr := hr1.trans hr0
  have hG2 : Hid (Grew C mine w (g :: mine) w') := hG.out.step hr
  have hc2 : Hid (w'.heap[g]? = some (.cells #[.int .i64 0, .int .i64 0, .string ⟨#[]⟩] 94 (0, 0))) := hr.look (.inr (List.mem_cons_self ..)) hc.out
  clear hr hr0 hr1 hG hc
  obtain ⟨K, HC⟩ : ∃ K, Hid (K = Pl.crc (s.extract 0 L).data.toList) := ⟨_, rfl⟩
  rw [<- HC.out]
  walk_nrm
  repeat (first | (co_apply wpB_region; simp only [List.size_toArray, List.length_cons, List.length_nil, Nat.reduceAdd, Nat.zero_add, List.range, List.range.loop]) | (co_apply opsB_pure rfl (by rfl) (by intro _ K hK; go_simp; exact hK) (by intro _; simp [go_sem, ev_len, ev_index, ev_indexI, ev_slice_lo, ev_slice_hi, *]); walk_nrm) | (co_apply opsB_unwanted rfl (by rfl); walk_nrm) | (co_apply opsB_nil; try simp only [thenB, inBlockB, if_true, if_false, reduceIte, Nat.reduceEqDiff]))
  co_apply wpB_split (t := ((D : Int) != (K : Int))) (by rfl)
  . intro t1
    have HK : Hid (Pl.SerIs s 0 ⟨#[]⟩ 4) := .inr ⟨fun h => by
      have h2 := h.2.2
      have e1 : s.size - 2 = L := by have := HL.out; omega
      have e2 : s.size - 1 = L + 1 := by have := HL.out; omega
      rw [e1, e2, <- HC.out, <- HD.out] at h2
      simp [h2] at t1, rfl, rfl, rfl⟩
    clear t1
    repeat (first | (co_apply wpB_region; simp only [List.size_toArray, List.length_cons, List.length_nil, Nat.reduceAdd, Nat.zero_add, List.range, List.range.loop]) | (co_apply opsB_pure rfl (by rfl) (by intro _ K hK; go_simp; exact hK) (by intro _; simp [go_sem, ev_len, ev_index, ev_indexI, ev_slice_lo, ev_slice_hi, *]); walk_nrm) | (co_apply opsB_unwanted rfl (by rfl); walk_nrm) | (co_apply opsB_nil; try simp only [thenB, inBlockB, if_true, if_false, reduceIte, Nat.reduceEqDiff]) | (first | co_apply wpB_seq | co_apply wpB_block | (co_apply wpB_skip; try simp only [thenB, inBlockB, if_true, if_false, reduceIte, Nat.reduceEqDiff]) | (co_apply wpB_ret; try simp only [thenB, inBlockB, if_true, if_false, reduceIte, Nat.reduceEqDiff]) | (co_apply wpB_exit; try simp only [thenB, inBlockB, if_true, if_false, reduceIte, Nat.reduceEqDiff])) | (co_apply wpB_cond; focus (exact rfl); simp only [if_true, if_false, reduceIte, Bool.false_eq_true]))
    co_apply opsB_store rfl (by rfl) rfl (b := g) (v := .agg #[.int .i64 0, .int .i64 0, .string ⟨#[]⟩]) (by rfl) (by rfl) (List.mem_cons_self ..) hc2.out (by rfl) hi94.out (by simp [Value.cells, Value.oneCell'])
    intro w₂ h₂
    have hG3 : Hid (Grew C mine w (g :: mine) (w₂.setRow g #[.int .i64 0, .int .i64 0, .string ⟨#[]⟩])) := (hG2.out.step h₂).row hN.out _
    have hc3 : Hid ((w₂.setRow g #[.int .i64 0, .int .i64 0, .string ⟨#[]⟩]).heap[g]? = some (.cells #[.int .i64 0, .int .i64 0, .string ⟨#[]⟩] 94 (0, 0))) := setRow_heap _ _ _ _ _ _ (h₂.look (.inr (List.mem_cons_self ..)) hc2.out)
    clear h₂ hG2 hc2
    show OpsB _ _ _ _ _ _ _ _ _ _ (w₂.setRow g #[.int .i64 0, .int .i64 0, .string ⟨#[]⟩])
    obtain ⟨W3, hW⟩ : ∃ W3, W3 = w₂.setRow g #[.int .i64 0, .int .i64 0, .string ⟨#[]⟩] := ⟨_, rfl⟩
    rw [<- hW] at hG3 hc3 ⊢
    clear hW w₂
    walk_nrm
    repeat (first | (co_apply wpB_region; simp only [List.size_toArray, List.length_cons, List.length_nil, Nat.reduceAdd, Nat.zero_add, List.range, List.range.loop]) | (co_apply opsB_pure rfl (by rfl) (by intro _ K hK; go_simp; exact hK) (by intro _; simp [go_sem, ev_len, ev_index, ev_indexI, ev_slice_lo, ev_slice_hi, *]); walk_nrm) | (co_apply opsB_unwanted rfl (by rfl); walk_nrm) | (co_apply opsB_nil; try simp only [thenB, inBlockB, if_true, if_false, reduceIte, Nat.reduceEqDiff]) | (first | co_apply wpB_seq | co_apply wpB_block | (co_apply wpB_skip; try simp only [thenB, inBlockB, if_true, if_false, reduceIte, Nat.reduceEqDiff]) | (co_apply wpB_ret; try simp only [thenB, inBlockB, if_true, if_false, reduceIte, Nat.reduceEqDiff]) | (co_apply wpB_exit; try simp only [thenB, inBlockB, if_true, if_false, reduceIte, Nat.reduceEqDiff])) | (co_apply wpB_cond; focus (exact rfl); simp only [if_true, if_false, reduceIte, Bool.false_eq_true]))
    exact results_cell2B rfl rfl rfl (.inr (List.mem_cons_self ..)) (range_of hc3.out 0 fun j v hv => by rw [Nat.zero_add]; simpa using hv) (load94 _ _ _) fun w₁ h₁ => ⟨0, ⟨#[]⟩, 4, rfl, HK.out, hG3.out.step h₁⟩
  . intro t1
    have HK : Hid (Pl.SerIs s (Pl.byt s 0) (s.extract 1 L) 0) := .inl ⟨⟨by omega, by omega, by
      have e1 : s.size - 2 = L := by have := HL.out; omega
      have e2 : s.size - 1 = L + 1 := by have := HL.out; omega
      rw [e1, e2, <- HC.out, <- HD.out]
      simp at t1
      omega⟩, rfl, by have e1 : s.size - 2 = L := by have := HL.out; omega
                      rw [e1], rfl⟩
    have e0 := Pl.byt_extract s 0 L 0 (by omega) (by omega)
    have e2 := Pl.extract_extract s 0 L 1 L (by omega)
    have hLs : (s.extract 0 L).size = L := by simp; omega
    simp only [Nat.zero_add] at e0 e2
    have HU : Hid (CallsB Tryz.prog C main 137 #[.string (s.extract 0 L)] nu (g :: mine) w' fun v m'' w'' => v = .agg #[.int .i64 0, .int .i64 (Pl.byt s 0 : Nat), .string (s.extract 1 L)] /\ Grew C (g :: mine) w' m'' w'') := by
      have := hub (g :: mine) (s.extract 0 L) (by rw [hLs]; omega) (by rw [hLs]; omega) w' hG2.out.sits
      rw [hLs, e0, e2] at this
      exact this
    clear t1 e0 e2 hLs
    repeat (first | (co_apply wpB_region; simp only [List.size_toArray, List.length_cons, List.length_nil, Nat.reduceAdd, Nat.zero_add, List.range, List.range.loop]) | (co_apply opsB_pure rfl (by rfl) (by intro _ K hK; go_simp; exact hK) (by intro _; simp [go_sem, ev_len, ev_index, ev_indexI, ev_slice_lo, ev_slice_hi, *]); walk_nrm) | (co_apply opsB_unwanted rfl (by rfl); walk_nrm) | (co_apply opsB_nil; try simp only [thenB, inBlockB, if_true, if_false, reduceIte, Nat.reduceEqDiff]) | (first | co_apply wpB_seq | co_apply wpB_block | (co_apply wpB_skip; try simp only [thenB, inBlockB, if_true, if_false, reduceIte, Nat.reduceEqDiff]) | (co_apply wpB_ret; try simp only [thenB, inBlockB, if_true, if_false, reduceIte, Nat.reduceEqDiff]) | (co_apply wpB_exit; try simp only [thenB, inBlockB, if_true, if_false, reduceIte, Nat.reduceEqDiff])) | (co_apply wpB_cond; focus (exact rfl); simp only [if_true, if_false, reduceIte, Bool.false_eq_true]))
    co_apply opsB_callE rfl (by rfl) rfl HU.out (by walk_nrm)
    rintro v m'' w'' ⟨rfl, hg2⟩
    have hG3 : Hid (Grew C mine w m'' w'') := hG2.out.trans hg2
    have hm : Hid (g ∈ m'') := hg2.sub g (List.mem_cons_self ..)
    have hc3 : Hid (w''.heap[g]? = some (.cells #[.int .i64 0, .int .i64 0, .string ⟨#[]⟩] 94 (0, 0))) := hg2.rel.look (.inr (List.mem_cons_self ..)) hc2.out
    clear hg2 hG2 hc2 HU
    walk_nrm
    co_apply opsB_store rfl (by rfl) rfl (b := g) (v := .agg #[.int .i64 0, .int .i64 (Pl.byt s 0 : Nat), .string (s.extract 1 L)]) (by rfl) (by rfl) hm.out hc3.out (by rfl) hi94.out (by simp [Value.cells, Value.oneCell'])
    intro w₂ h₂
    have hG4 : Hid (Grew C mine w m'' (w₂.setRow g #[.int .i64 0, .int .i64 (Pl.byt s 0 : Nat), .string (s.extract 1 L)])) := (hG3.out.step h₂).row hN.out _
    have hc4 : Hid ((w₂.setRow g #[.int .i64 0, .int .i64 (Pl.byt s 0 : Nat), .string (s.extract 1 L)]).heap[g]? = some (.cells #[.int .i64 0, .int .i64 (Pl.byt s 0 : Nat), .string (s.extract 1 L)] 94 (0, 0))) := setRow_heap _ _ _ _ _ _ (h₂.look (.inr hm.out) hc3.out)
    clear h₂ hG3 hc3
    show OpsB _ _ _ _ _ _ _ _ _ _ (w₂.setRow g #[.int .i64 0, .int .i64 (Pl.byt s 0 : Nat), .string (s.extract 1 L)])
    obtain ⟨W3, hW⟩ : ∃ W3, W3 = w₂.setRow g #[.int .i64 0, .int .i64 (Pl.byt s 0 : Nat), .string (s.extract 1 L)] := ⟨_, rfl⟩
    rw [<- hW] at hG4 hc4 ⊢
    clear hW w₂
    walk_nrm
    repeat (first | (co_apply wpB_region; simp only [List.size_toArray, List.length_cons, List.length_nil, Nat.reduceAdd, Nat.zero_add, List.range, List.range.loop]) | (co_apply opsB_pure rfl (by rfl) (by intro _ K hK; go_simp; exact hK) (by intro _; simp [go_sem, ev_len, ev_index, ev_indexI, ev_slice_lo, ev_slice_hi, *]); walk_nrm) | (co_apply opsB_unwanted rfl (by rfl); walk_nrm) | (co_apply opsB_nil; try simp only [thenB, inBlockB, if_true, if_false, reduceIte, Nat.reduceEqDiff]) | (first | co_apply wpB_seq | co_apply wpB_block | (co_apply wpB_skip; try simp only [thenB, inBlockB, if_true, if_false, reduceIte, Nat.reduceEqDiff]) | (co_apply wpB_ret; try simp only [thenB, inBlockB, if_true, if_false, reduceIte, Nat.reduceEqDiff]) | (co_apply wpB_exit; try simp only [thenB, inBlockB, if_true, if_false, reduceIte, Nat.reduceEqDiff])) | (co_apply wpB_cond; focus (exact rfl); simp only [if_true, if_false, reduceIte, Bool.false_eq_true]))
    exact results_cell2B rfl rfl rfl (.inr hm.out) (range_of hc4.out 0 fun j v hv => by rw [Nat.zero_add]; simpa using hv) (load94 _ _ _) fun w₁ h₁ => ⟨Pl.byt s 0, s.extract 1 L, 0, rfl, HK.out, hG4.out.step h₁⟩
theorem CallsB.more {P : Program} {C : Ch} {main : Bool} {f : FuncId} {args : Array Value} {n n' : Nat} {mine : List Nat} {w : World} {Post : Value -> List Nat -> World -> Prop} (h : CallsB P C main f args n mine w Post) (hn : n <= n') : CallsB P C main f args n' mine w Post := by
  obtain ⟨fc, c, hf, hname, hb, hw⟩ := h
  exact ⟨fc, c, hf, hname, hb, wpB_more hw hn⟩
theorem serial_b (C : Ch) (main : Bool) : ∃ n, ∀ (mine : List Nat) (s : ByteArray), s.size <= 4194304 -> ∀ w : World, Sits C mine w -> CallsB Tryz.prog C main 129 #[.string s] n mine w (SerB C mine w s) := by
  obtain ⟨n1, h1⟩ := serial_b1 C main
  obtain ⟨n2, h2⟩ := serial_b2 C main
  obtain ⟨n3, h3⟩ := serial_b3 C main
  refine ⟨n1 + n2 + n3, fun mine s hs w hS => ?_⟩
  by_cases h4 : s.size < 4
  . exact (h1 mine s h4 w hS).more (by omega)
  . by_cases h256 : 256 < s.size
    . exact (h2 mine s h256 hs w hS).more (by omega)
    . exact (h3 mine s (by omega) (by omega) w hS).more (by omega)
end Go.Proofs.YtcpldcojckhapaaGreat
