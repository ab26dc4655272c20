/-
  
-/
import Derived.Test.YtcpldcojckhapaaGreatJ19
import Derived.Conc.LeavingOf
import Derived.DuoClaim
import Derived.Test.YtcpldcojckhapaaGreatJ39
namespace Go.Proofs.YtcpldcojckhapaaGreat
open Go.Conc
variable {P : Program}
theorem loc_low (l : Loc) : ∃ B, l.low B := by
  cases l with
  | cell a => exact ⟨a.block + 1, Nat.lt_succ_self _⟩
  | obj r => exact ⟨r + 1, Nat.lt_succ_self _⟩
  | _ => exact ⟨0, trivial⟩
theorem act_low (x : MemAct) : ∃ B, x.low B := by
  cases x with
  | access e => exact loc_low e.loc
  | mark m =>
    cases m with
    | acquire a => exact ⟨a.block + 1, Nat.lt_succ_self _⟩
    | release a => exact ⟨a.block + 1, Nat.lt_succ_self _⟩
    | releaseMerge a => exact ⟨a.block + 1, Nat.lt_succ_self _⟩
    | read a => exact ⟨a.block + 1, Nat.lt_succ_self _⟩
    | write a => exact ⟨a.block + 1, Nat.lt_succ_self _⟩
    | _ => exact ⟨0, trivial⟩
  | send c _ => exact ⟨c + 1, Nat.lt_succ_self _⟩
  | sendDone c _ => exact ⟨c + 1, Nat.lt_succ_self _⟩
  | recv c _ _ => exact ⟨c + 1, Nat.lt_succ_self _⟩
  | recvDone c _ => exact ⟨c + 1, Nat.lt_succ_self _⟩
  | close c => exact ⟨c + 1, Nat.lt_succ_self _⟩
  | recvClosed c => exact ⟨c + 1, Nat.lt_succ_self _⟩
  | _ => exact ⟨0, trivial⟩
theorem list_low : ∀ l : List MemOp, ∃ B, ∀ op ∈ l, op.act.low B
  | [] => ⟨0, fun _ h => by cases h⟩
  | x :: l => by
    obtain ⟨B, hB⟩ := list_low l
    obtain ⟨B', hB'⟩ := act_low x.act
    refine ⟨max B B', fun op hop => ?_⟩
    rcases List.mem_cons.1 hop with rfl | hop
    . exact MemAct.low_mono (Nat.le_max_right ..) hB'
    . exact MemAct.low_mono (Nat.le_max_left ..) (hB op hop)
theorem Pst.past {t : Trace} (h : Pst t) : ∃ B, Past (fun _ => False) B t := by
  obtain ⟨B, hB⟩ := list_low t.toList
  exact ⟨B, h.clean, fun i a h1 h2 => .inl (h.known i a h1 h2), h.over, h.hears, fun op hop => hB op (by simpa using hop)⟩
theorem stepG_last {f : FuncId} {fn : Func} {t : Tmp} {a : Act} {k : List Item} {w : World} (hf : P.funcs[f]? = some fn) (hr : fn.results = #[.tmp t]) (hin : P.inits.idxOf? f = none) (hd : a.defers = []) :
    stepG P true (G { (base f).at a k with mode := .returning } []) w = .ended (.done (a.tmps.getD t undef)) w #[] := by
  simp [G, stepG, unwind, doReturn, Frame.at, base, hd, hf, results_tmp hr, events_results_tmp hr, GStep.after, seen_none, hin]
theorem last_good {f : FuncId} {fn : Func} {t : Tmp} {a : Act} {k : List Item} {gs : Array Goroutine} {w : World} {tr : Trace} {sl : Option (Nat × Nat)} {Post : Value -> World -> Prop} (hf : P.funcs[f]? = some fn) (hr : fn.results = #[.tmp t]) (hin : P.inits.idxOf? f = none) (hd : a.defers = [])
    (hB : Beside P gs tr (G ((base f).at a (.code .ret :: k)) [])) (hp : ∀ d, Post (a.tmps.getD t undef) (w.at d)) :
    ∃ N last o w' t', runNT P (N + 1) (crowd gs w sl) tr = (.ended o w', t') /\ runN P N (crowd gs w sl) = .next last /\ step P last = .ended o w' /\ Go.Conc.Good P Post last o w' t' := by
  obtain ⟨h0, ⟨q, hL⟩, hP⟩ := hB
  obtain ⟨B, hPB⟩ := hP.past
  refine beside_ends (Shun := fun _ => False) (B := B) (D := fun _ _ es => es = #[]) (fun _ _ es h e he => by subst h; simp at he) h0 hL hPB (n := 1) (.inr ⟨rfl, fun w₁ h₁ => ?_⟩)
  rw [stepG_ret']
  refine ⟨rfl, fun w₂ h₂ => ⟨rfl, _, #[], stepG_last hf hr hin hd, by simp, ?_⟩⟩
  obtain ⟨d, rfl⟩ := h₁
  obtain ⟨d', rfl⟩ := h₂
  exact hp d'
theorem law_good {f : FuncId} {fn : Func} {t : Tmp} {c : Code} {args : Array Value} {w : World} {Post : Value -> World -> Prop} (hf : P.funcs[f]? = some fn) (hbd : fn.body = some c) (hr : fn.results = #[.tmp t]) (hin : P.inits.idxOf? f = none) {I : World -> Prop} (hI : I w)
    (h : Tri P (G ((base f).at { tmps := args ++ Array.replicate (fn.ntmps - args.size) undef, defers := [] } [.code c]) []) I (fun gs w' tr => ∃ a k, a.defers = [] /\ Beside P gs tr (G ((base f).at a (.code .ret :: k)) []) /\ ∀ d, Post (a.tmps.getD t undef) (w'.at d))) :
    ∃ M last o w' t', runNT P (M + 1) (solo (G (Frame.enter P f args .normal) []) w) #[] = (.ended o w', t') /\ runN P M (solo (G (Frame.enter P f args .normal) []) w) = .next last /\ step P last = .ended o w' /\ Go.Conc.Good P Post last o w' t' := by
  rw [enter_at args hf hbd, solo_eq_crowd]
  have hb : Beside P #[G ((base f).at { tmps := args ++ Array.replicate (fn.ntmps - args.size) undef, defers := [] } [.code c]) []] #[] (G ((base f).at { tmps := args ++ Array.replicate (fn.ntmps - args.size) undef, defers := [] } [.code c]) []) := ⟨rfl, ⟨_, leavers_one P _⟩, pst_nil⟩
  obtain ⟨N, gs', w', sl', t', hrun, a, k, hd, hB, hp⟩ := h _ w #[] hI hb none
  obtain ⟨N2, last, o, w2, t2, q1, q2, q3, q4⟩ := last_good (sl := sl') hf hr hin hd hB hp
  refine ⟨N + N2, last, o, w2, t2, ?_, ?_, q3, q4⟩
  . rw [show N + N2 + 1 = N + (N2 + 1) by omega, runNT_add, hrun]
    exact q1
  . have hn : runN P N (crowd #[G ((base f).at { tmps := args ++ Array.replicate (fn.ntmps - args.size) undef, defers := [] } [.code c]) []] w none) = .next (crowd gs' w' sl') := by rw [<- runNT_fst _ _ _ #[], hrun]
    rw [runN_add, hn]
    exact q2
end Go.Proofs.YtcpldcojckhapaaGreat

set_option maxRecDepth 100000
namespace Go.Proofs.YtcpldcojckhapaaGreat
open Go.RowKit
def nav : List Nat -> Code -> Code
  | [], c => c
  | 0 :: p, .seq a _ => nav p a
  | 1 :: p, .seq _ b => nav p b
  | 0 :: p, .block _ c => nav p c
  | 0 :: p, .loop c => nav p c
  | 0 :: p, .cond _ a _ => nav p a
  | 1 :: p, .cond _ _ b => nav p b
  | _, c => c
noncomputable def apC (p : List Nat) : Code := nav p (Tryz.f6.body.getD .skip)
structure Ap1 (w0 : World) (B : Nat) (w : World) : Prop where
  size : w.heap.size = B + 2
  low : ∀ b, b < B -> w.heap[b]? = w0.heap[b]?
  os : w.os = w0.os
  output : w.output = w0.output
  kinds : w.heap[B]? = some (.cells #[.int .i64 0, .int .i64 1, .int .i64 0] 3 (0, 0))
  cfg : w.heap[B + 1]? = some (.cells #[.int .i64 4, .int .i64 4, .int .i64 4, .int .i64 20, .int .i64 0, .int .i64 0, .int .i64 3, .slice (some ⟨B, 0, none⟩) 3 3, .int .i64 2] 39 (0, 0))
structure ApW (w0 : World) (B d L S : Nat) (E : Nat -> Nat) (A : Nat) (vals : Nat -> Nat) (w : World) : Prop where
  dev : ∃ wv D, DevIn w d L S E wv D /\ ApD (B + 2) A vals D
  here : B + 2 <= w.heap.size
  low : ∀ b, b < B -> w.heap[b]? = w0.heap[b]?
  os : w.os = w0.os
  output : w.output = w0.output
theorem ApW.ft {w0 w w' : World} {B d L S : Nat} {E : Nat -> Nat} {A A' : Nat} {vals vals' : Nat -> Nat} {T : Nat -> TypeId -> Bool} (h : ApW w0 B d L S E A vals w) (hf : FtT (B + 2) T w w') (hd : ∃ wv D, DevIn w' d L S E wv D /\ ApD (B + 2) A' vals' D) : ApW w0 B d L S E A' vals' w' :=
  ⟨hd, Nat.le_trans h.here hf.size, fun b hb => (hf.low b (by omega) (by have := h.here; omega)).trans (h.low b hb), hf.os.trans h.os, hf.output.trans h.output⟩
theorem ApW.below {w0 w w' : World} {B d L S : Nat} {E : Nat -> Nat} {A : Nat} {vals : Nat -> Nat} (h : ApW w0 B d L S E A vals w) (hb : Below w.heap.size w w') : ApW w0 B d L S E A vals w' :=
  ⟨h.dev.elim fun wv hD => hD.elim fun D q => ⟨wv, D, q.1.belowQ hb, q.2⟩, Nat.le_trans h.here hb.size, fun b hb' => (hb.block b (by have := h.here; omega)).trans (h.low b hb'), hb.os.trans h.os, hb.output.trans h.output⟩
theorem sx {t : Array Value} {mkT : (Nat -> Value) -> Array Value} {Jf : Prop} (ht : t = mkT fun k => t.getD k undef) (h : Jf) : ∃ s, t = mkT s /\ Jf := ⟨_, ht, h⟩
def knA (j : Nat) : Nat := if j = 1 then 1 else 0
section
variable (a0 a1 : Option Addr) (n0 k0 n1 k1 : Nat) (x2 : Int)
set_option maxHeartbeats 4000000 in
theorem ap1_wp (w0 w : World) (B : Nat) (hB : w.heap.size = B) (hl : ∀ b, b < B -> w.heap[b]? = w0.heap[b]?) (ho : w.os = w0.os) (hu : w.output = w0.output) :
    (apC [1, 0]).wp Tryz.prog (nPost fun tm w' => tm = #[.slice a0 n0 k0, .slice a1 n1 k1, .int .i64 x2, undef, undef, undef, .bool false, .pointer (some ⟨B + 1, 0, none⟩), undef, undef, undef, undef, undef, undef, undef, undef, undef, undef, undef, undef, .agg #[.int .i64 4, .int .i64 4, .int .i64 4, .int .i64 20], .slice (some ⟨B, 0, none⟩) 3 3, .agg #[.int .i64 4, .int .i64 4, .int .i64 4, .int .i64 20, .int .i64 0, .int .i64 0, .int .i64 3, .slice (some ⟨B, 0, none⟩) 3 3, .int .i64 2], undef, undef, undef, undef, undef, undef, undef, undef, undef, undef, undef, undef, undef, undef, undef, undef, undef, undef, undef, undef, undef, undef, undef, undef, undef, undef, undef, undef, undef, undef, undef, undef, undef, undef, undef, undef, undef, undef, undef, undef, undef, undef, undef, undef, undef, undef, undef, undef, undef, undef, undef, undef, undef, undef, undef, undef, undef, undef, undef, undef, undef, undef, undef, undef, undef, undef, undef, undef, undef, undef, undef, undef, undef, undef, undef, undef, undef, undef, undef, undef, undef, undef, undef, undef, undef, undef, undef, undef, undef, undef, undef, undef, undef, undef, undef, undef, undef, undef, undef, undef, undef, undef] /\ Ap1 w0 B w') ⟨#[.slice a0 n0 k0, .slice a1 n1 k1, .int .i64 x2, undef, undef, undef, .bool false, undef, undef, undef, undef, undef, undef, undef, undef, undef, undef, undef, undef, undef, undef, undef, undef, undef, undef, undef, undef, undef, undef, undef, undef, undef, undef, undef, undef, undef, undef, undef, undef, undef, undef, undef, undef, undef, undef, undef, undef, undef, undef, undef, undef, undef, undef, undef, undef, undef, undef, undef, undef, undef, undef, undef, undef, undef, undef, undef, undef, undef, undef, undef, undef, undef, undef, undef, undef, undef, undef, undef, undef, undef, undef, undef, undef, undef, undef, undef, undef, undef, undef, undef, undef, undef, undef, undef, undef, undef, undef, undef, undef, undef, undef, undef, undef, undef, undef, undef, undef, undef, undef, undef, undef, undef, undef, undef, undef, undef, undef, undef, undef, undef, undef, undef, undef, undef, undef], []⟩ w := by
  subst hB
  unfold apC
  simp only [Tryz.f6, Option.getD_some, nav]
  have HL := hideF hl
  clear hl
  go_wp2_with fail
  have hs : (w.alloc (.cells #[.int .i64 0, .int .i64 1, .int .i64 0] 3)).heap.size = w.heap.size + 1 := by simp
  refine ⟨rfl, rfl, by simp, fun b hb => ?_, ho, hu, ?_, ?_⟩
  . rw [heap_alloc_old _ _ (by omega), heap_alloc_old _ _ hb]; exact HL.out b hb
  . rw [heap_alloc_old _ _ (by omega)]; exact heap_alloc_new w _
  . rw [<- hs]; exact heap_alloc_new _ _
set_option maxHeartbeats 4000000 in
theorem ap2_wp (w0 w : World) (B : Nat) (h : Ap1 w0 B w) :
    (apC [1, 1, 0]).wp Tryz.prog (nPost fun tm w' => ∃ d L S E v9, tm = #[.slice a0 n0 k0, .slice a1 n1 k1, .int .i64 x2, undef, undef, undef, .bool false, .pointer (some ⟨B + 1, 0, none⟩), .pointer (some ⟨d, 0, none⟩), v9, .slice none 0 0, undef, undef, undef, undef, undef, undef, undef, undef, undef, .agg #[.int .i64 4, .int .i64 4, .int .i64 4, .int .i64 20], .slice (some ⟨B, 0, none⟩) 3 3, .agg #[.int .i64 4, .int .i64 4, .int .i64 4, .int .i64 20, .int .i64 0, .int .i64 0, .int .i64 3, .slice (some ⟨B, 0, none⟩) 3 3, .int .i64 2], .tuple #[.pointer (some ⟨d, 0, none⟩), v9, .slice none 0 0], .agg #[.int .i64 4, .int .i64 4, .int .i64 4, .int .i64 20, .int .i64 0, .int .i64 0, .int .i64 3, .slice (some ⟨B, 0, none⟩) 3 3, .int .i64 2], .tuple #[.pointer (some ⟨d, 0, none⟩), v9, .slice none 0 0], .pointer (some ⟨d, 0, none⟩), v9, .slice none 0 0, undef, undef, undef, undef, undef, undef, undef, undef, undef, undef, undef, undef, undef, undef, undef, undef, undef, undef, undef, undef, undef, undef, undef, undef, undef, undef, undef, undef, undef, undef, undef, undef, undef, undef, undef, undef, undef, undef, undef, undef, undef, undef, undef, undef, undef, undef, undef, undef, undef, undef, undef, undef, undef, undef, undef, undef, undef, undef, undef, undef, undef, undef, undef, undef, undef, undef, undef, undef, undef, undef, undef, undef, undef, undef, undef, undef, undef, undef, undef, undef, undef, undef, undef, undef, undef, undef, undef, undef, undef, undef, undef, undef, undef, undef, undef, undef] /\ ApW w0 B d L S E 0 (fun _ => 0) w') ⟨#[.slice a0 n0 k0, .slice a1 n1 k1, .int .i64 x2, undef, undef, undef, .bool false, .pointer (some ⟨B + 1, 0, none⟩), undef, undef, undef, undef, undef, undef, undef, undef, undef, undef, undef, undef, .agg #[.int .i64 4, .int .i64 4, .int .i64 4, .int .i64 20], .slice (some ⟨B, 0, none⟩) 3 3, .agg #[.int .i64 4, .int .i64 4, .int .i64 4, .int .i64 20, .int .i64 0, .int .i64 0, .int .i64 3, .slice (some ⟨B, 0, none⟩) 3 3, .int .i64 2], undef, undef, undef, undef, undef, undef, undef, undef, undef, undef, undef, undef, undef, undef, undef, undef, undef, undef, undef, undef, undef, undef, undef, undef, undef, undef, undef, undef, undef, undef, undef, undef, undef, undef, undef, undef, undef, undef, undef, undef, undef, undef, undef, undef, undef, undef, undef, undef, undef, undef, undef, undef, undef, undef, undef, undef, undef, undef, undef, undef, undef, undef, undef, undef, undef, undef, undef, undef, undef, undef, undef, undef, undef, undef, undef, undef, undef, undef, undef, undef, undef, undef, undef, undef, undef, undef, undef, undef, undef, undef, undef, undef, undef, undef, undef, undef, undef, undef, undef, undef, undef, undef], []⟩ w := by
  unfold apC
  simp only [Tryz.f6, Option.getD_some, nav]
  obtain ⟨c0, c1, c2, c3, c4, c5, c6, c7, c8⟩ := cells9 h.cfg
  have hsz := h.size
  have HH := hideF h
  have HOP := hideF (opened_at 4 4 4 20 0 0 3 3 3 2 B knA w (by omega) (by omega) (by omega) (by omega) rfl (by omega) (by omega) (by omega) (by omega) (by omega) (by omega) (by omega) (by omega) (by omega) (fun j hj => by rw [cell_of_row _ _ _ _ _ _ h.kinds]; rcases (show j = 0 ∨ j = 1 ∨ j = 2 by omega) with rfl | rfl | rfl <;> rfl) (fun j hj => by unfold knA; split <;> omega))
  clear h
  go_wp2_with fail
  refine HOP.out.mono ?_
  rintro e w1 ⟨d, v9, rfl, hdv, _, hb⟩
  have HB := hideF hb
  have HDV := hideF hdv
  clear hb hdv
  go_wp2
  obtain ⟨L, S, E, wv, hD⟩ := HDV.out
  have hap := dev0_ap w.heap.size knA rfl rfl rfl
  rw [hsz] at hap hD
  have hbb := HB.out
  refine ⟨rfl, d, L, S, E, v9, rfl, ⟨wv, _, hD, hap⟩, by have := hbb.size; omega, fun b hb' => (hbb.block b (by omega)).trans (HH.out.low b hb'), hbb.os.trans HH.out.os, hbb.output.trans HH.out.output⟩
set_option maxHeartbeats 4000000 in
theorem ap3_wp (w : World) (B d : Nat) (v9 : Value) (J : World -> Prop) (hJ : J w) :
    (apC [1, 1, 1, 0]).wp Tryz.prog (nPost fun tm w' => tm = #[.slice a0 n0 k0, .slice a1 n1 k1, .int .i64 x2, undef, undef, undef, .bool false, .pointer (some ⟨B + 1, 0, none⟩), .pointer (some ⟨d, 0, none⟩), v9, .slice none 0 0, undef, undef, undef, undef, undef, undef, undef, undef, undef, .agg #[.int .i64 4, .int .i64 4, .int .i64 4, .int .i64 20], .slice (some ⟨B, 0, none⟩) 3 3, .agg #[.int .i64 4, .int .i64 4, .int .i64 4, .int .i64 20, .int .i64 0, .int .i64 0, .int .i64 3, .slice (some ⟨B, 0, none⟩) 3 3, .int .i64 2], .tuple #[.pointer (some ⟨d, 0, none⟩), v9, .slice none 0 0], .agg #[.int .i64 4, .int .i64 4, .int .i64 4, .int .i64 20, .int .i64 0, .int .i64 0, .int .i64 3, .slice (some ⟨B, 0, none⟩) 3 3, .int .i64 2], .tuple #[.pointer (some ⟨d, 0, none⟩), v9, .slice none 0 0], .pointer (some ⟨d, 0, none⟩), v9, .slice none 0 0, .pointer (some ⟨d, 0, none⟩), .bool false, undef, undef, undef, undef, undef, undef, undef, undef, undef, undef, undef, undef, undef, undef, undef, undef, undef, undef, undef, undef, undef, undef, undef, undef, undef, undef, undef, undef, undef, undef, undef, undef, undef, undef, undef, undef, undef, undef, undef, undef, undef, undef, undef, undef, undef, undef, undef, undef, undef, undef, undef, undef, undef, undef, undef, undef, undef, undef, undef, undef, undef, undef, undef, undef, undef, undef, undef, undef, undef, undef, undef, undef, undef, undef, undef, undef, undef, undef, undef, undef, undef, undef, undef, undef, undef, undef, undef, undef, undef, undef, undef, undef, undef, undef] /\ J w') ⟨#[.slice a0 n0 k0, .slice a1 n1 k1, .int .i64 x2, undef, undef, undef, .bool false, .pointer (some ⟨B + 1, 0, none⟩), .pointer (some ⟨d, 0, none⟩), v9, .slice none 0 0, undef, undef, undef, undef, undef, undef, undef, undef, undef, .agg #[.int .i64 4, .int .i64 4, .int .i64 4, .int .i64 20], .slice (some ⟨B, 0, none⟩) 3 3, .agg #[.int .i64 4, .int .i64 4, .int .i64 4, .int .i64 20, .int .i64 0, .int .i64 0, .int .i64 3, .slice (some ⟨B, 0, none⟩) 3 3, .int .i64 2], .tuple #[.pointer (some ⟨d, 0, none⟩), v9, .slice none 0 0], .agg #[.int .i64 4, .int .i64 4, .int .i64 4, .int .i64 20, .int .i64 0, .int .i64 0, .int .i64 3, .slice (some ⟨B, 0, none⟩) 3 3, .int .i64 2], .tuple #[.pointer (some ⟨d, 0, none⟩), v9, .slice none 0 0], .pointer (some ⟨d, 0, none⟩), v9, .slice none 0 0, undef, undef, undef, undef, undef, undef, undef, undef, undef, undef, undef, undef, undef, undef, undef, undef, undef, undef, undef, undef, undef, undef, undef, undef, undef, undef, undef, undef, undef, undef, undef, undef, undef, undef, undef, undef, undef, undef, undef, undef, undef, undef, undef, undef, undef, undef, undef, undef, undef, undef, undef, undef, undef, undef, undef, undef, undef, undef, undef, undef, undef, undef, undef, undef, undef, undef, undef, undef, undef, undef, undef, undef, undef, undef, undef, undef, undef, undef, undef, undef, undef, undef, undef, undef, undef, undef, undef, undef, undef, undef, undef, undef, undef, undef, undef, undef], []⟩ w := by
  unfold apC
  simp only [Tryz.f6, Option.getD_some, nav]
  go_wp2
  exact ⟨rfl, rfl, hJ⟩
def apV (n1 : Nat) (vals : Nat -> Int) (j : Nat) : Nat := (pk (atV n1 vals j) 65536).toNat
theorem apV_lt (n1 : Nat) (vals : Nat -> Int) (j : Nat) : apV n1 vals j < 65536 := by
  have h1 := pk_nonneg (atV n1 vals j) 65536 (by omega)
  have h2 := pk_lt (atV n1 vals j) 65536 (by omega)
  unfold apV; omega
theorem apV_eq (n1 : Nat) (vals : Nat -> Int) (j : Nat) : pk (atV n1 vals j) 65536 = (apV n1 vals j : Nat) := by
  have h1 := pk_nonneg (atV n1 vals j) 65536 (by omega)
  unfold apV; omega
theorem vals_low {w0 w : World} {B : Nat} {ad : Option Addr} {n : Nat} {vals : Nat -> Int} (h : Vals w0 ad n vals) (hB : w0.heap.size = B) (hs : B <= w.heap.size) (hl : ∀ b, b < B -> w.heap[b]? = w0.heap[b]?) : Vals w ad n vals := fun j hj => by
  obtain ⟨g, o, h1, h2, h3, h4⟩ := h j hj
  exact ⟨g, o, h1, by omega, (World.cell?_of_block (hl g (by omega))).trans h3, h4⟩
set_option maxHeartbeats 4000000 in
theorem ap5_wp (w0 w : World) (B d L S : Nat) (E : Nat -> Nat) (v9 : Value) (vals : Nat -> Int) (hv : Vals w0 a1 n1 vals) (hB : w0.heap.size = B) (hn : n1 <= 9223372036854775807) (h : ApW w0 B d L S E 0 (fun _ => 0) w) :
    (apC [1, 1, 1, 1, 0]).wp Tryz.prog (nPost fun tm w' => ∃ s : Nat -> Value, tm = #[.slice a0 n0 k0, .slice a1 n1 k1, .int .i64 x2, s 3, s 4, s 5, s 6, .pointer (some ⟨B + 1, 0, none⟩), .pointer (some ⟨d, 0, none⟩), s 9, s 10, s 11, s 12, s 13, s 14, s 15, s 16, s 17, s 18, s 19, s 20, s 21, s 22, s 23, s 24, s 25, s 26, s 27, s 28, s 29, s 30, s 31, s 32, s 33, s 34, s 35, s 36, s 37, s 38, s 39, s 40, s 41, s 42, s 43, s 44, s 45, s 46, s 47, s 48, s 49, s 50, s 51, s 52, s 53, s 54, s 55, s 56, s 57, s 58, s 59, s 60, s 61, s 62, s 63, s 64, s 65, s 66, s 67, s 68, s 69, s 70, s 71, s 72, s 73, s 74, s 75, s 76, s 77, s 78, s 79, s 80, s 81, s 82, s 83, s 84, s 85, s 86, s 87, s 88, s 89, s 90, s 91, s 92, s 93, s 94, s 95, s 96, s 97, s 98, s 99, s 100, s 101, s 102, s 103, s 104, s 105, s 106, s 107, s 108, s 109, s 110, s 111, s 112, s 113, s 114, s 115, s 116, s 117, s 118, s 119, s 120, s 121, s 122, s 123, s 124] /\ ApW w0 B d L S E 0 (fun j => if j < 20 then apV n1 vals j else 0) w') ⟨#[.slice a0 n0 k0, .slice a1 n1 k1, .int .i64 x2, undef, undef, undef, .bool false, .pointer (some ⟨B + 1, 0, none⟩), .pointer (some ⟨d, 0, none⟩), v9, .slice none 0 0, undef, undef, undef, undef, undef, undef, undef, undef, undef, .agg #[.int .i64 4, .int .i64 4, .int .i64 4, .int .i64 20], .slice (some ⟨B, 0, none⟩) 3 3, .agg #[.int .i64 4, .int .i64 4, .int .i64 4, .int .i64 20, .int .i64 0, .int .i64 0, .int .i64 3, .slice (some ⟨B, 0, none⟩) 3 3, .int .i64 2], .tuple #[.pointer (some ⟨d, 0, none⟩), v9, .slice none 0 0], .agg #[.int .i64 4, .int .i64 4, .int .i64 4, .int .i64 20, .int .i64 0, .int .i64 0, .int .i64 3, .slice (some ⟨B, 0, none⟩) 3 3, .int .i64 2], .tuple #[.pointer (some ⟨d, 0, none⟩), v9, .slice none 0 0], .pointer (some ⟨d, 0, none⟩), v9, .slice none 0 0, .pointer (some ⟨d, 0, none⟩), .bool false, undef, undef, undef, undef, undef, undef, undef, undef, undef, undef, undef, undef, undef, undef, undef, undef, undef, undef, undef, undef, undef, undef, undef, undef, undef, undef, undef, undef, undef, undef, undef, undef, undef, undef, undef, undef, undef, undef, undef, undef, undef, undef, undef, undef, undef, undef, undef, undef, undef, undef, undef, undef, undef, undef, undef, undef, undef, undef, undef, undef, undef, undef, undef, undef, undef, undef, undef, undef, undef, undef, undef, undef, undef, undef, undef, undef, undef, undef, undef, undef, undef, undef, undef, undef, undef, undef, undef, undef, undef, undef, undef, undef, undef, undef], []⟩ w := by
  unfold apC
  simp only [Tryz.f6, Option.getD_some, nav]
  have HH := hideF h
  have HV := hideF hv
  clear h hv
  go_wp2_with fail
  go_loopw [11] (fun i wr => ∃ q : Nat, q <= 20 /\ i = .int .i64 (q : Nat) /\ ApW w0 B d L S E 0 (fun j => if j < q then apV n1 vals j else 0) wr) (fun i _ => 20 - (intOf i).toNat)
  case atStart => exact ⟨0, by omega, rfl, by simpa using HH.out⟩
  case round =>
    obtain ⟨q, hq, rfl, hA⟩ := hrel
    by_cases hlt : q < 20
    . have hvw := vals_low HV.out hB (by have := hA.here; omega) hA.low
      have hbd := atV_bd hvw q
      have hpe := apV_eq n1 vals q
      have hpl := apV_lt n1 vals q
      have HVW := hideF hvw
      have HA := hideF hA
      have HPE := hideF hpe
      obtain ⟨wv, D, hD, hap⟩ := hA.dev
      have HD := hideF hD
      have HAP := hideF hap
      clear hA hvw hpe hD hap
      go_wp2_with fail
      refine (at_val q n1 k1 a1 vals wr HVW.out hn (by omega)).mono ?_
      rintro e w1 ⟨rfl, rfl⟩
      go_wp2_with fail
      refine (pick_any _ 65536 _ hbd.1 hbd.2 (by omega) (by omega)).mono ?_
      rintro e w1 ⟨rfl, rfl⟩
      rw [HPE.out]
      go_wp2_with fail
      refine (put_in d L S q (apV n1 vals q) E wv D w1 HD.out (by rw [HAP.out.sz]; exact hlt) (by rw [HAP.out.sz]; omega) hpl).mono ?_
      rintro e w2 ⟨rfl, hD2, hF2⟩
      rw [HAP.out.base] at hF2
      have HD2 := hideF hD2
      have HF2 := hideF hF2
      clear hD2 hF2
      go_wp2_with fail
      go_roundw
      case rel =>
        refine ⟨q + 1, by omega, by go_num, ?_⟩
        have hap2 := put_ap HAP.out q (apV n1 vals q) hpl
        have e : (fun j => if j = q then apV n1 vals q else if j < q then apV n1 vals j else 0) = (fun j => if j < q + 1 then apV n1 vals j else 0) := by
          funext j
          by_cases h1 : j = q
          . subst h1; rw [if_pos rfl, if_pos (Nat.lt_succ_self _)]
          . rw [if_neg h1]
            by_cases h2 : j < q
            . rw [if_pos h2, if_pos (by omega)]
            . rw [if_neg h2, if_neg (by omega)]
        rw [e] at hap2
        exact HA.out.ft HF2.out ⟨wv, _, HD2.out, hap2⟩
      case measure => simp [intOf]; omega
    . obtain rfl : q = 20 := by omega
      have HA := hideF hA
      clear hA
      go_wp2
      exact ⟨rfl, sx rfl HA.out⟩
end
end Go.Proofs.YtcpldcojckhapaaGreat
