/-
  
-/
import Derived.Test.YtcpldcojckhapaaGreatJ39
import Derived.Test.YtcpldcojckhapaaGreatJ40
import Derived.Test.YtcpldcojckhapaaGreatTc
set_option maxRecDepth 100000
set_option linter.unusedSimpArgs false
namespace Go.Proofs.YtcpldcojckhapaaGreat
open Go.Conc Go.RowKit
theorem ApW.cl {w0 : World} {B d L S : Nat} {E : Nat -> Nat} {A : Nat} {vals : Nat -> Nat} : Cl (ApW w0 B d L S E A vals) := fun w τ d h => ⟨h.dev.elim fun wv q => q.elim fun D q => ⟨wv, D, DevIn.cl w τ d q.1, q.2⟩, h.here, h.low, h.os, h.output⟩
theorem ApW.mono {w0 w : World} {B d L S : Nat} {E : Nat -> Nat} {A A' : Nat} {vals : Nat -> Nat} (h : ApW w0 B d L S E A vals w) (hA : A <= A') : ApW w0 B d L S E A' vals w := ⟨h.dev.elim fun wv q => q.elim fun D q => ⟨wv, D, q.1, ⟨q.2.ok, q.2.unit, q.2.nl, q.2.sz, q.2.kp, q.2.uns, q.2.k0, q.2.k1, q.2.l2, q.2.b0, q.2.b1, Nat.le_trans q.2.arr hA, q.2.base, q.2.ent⟩⟩, h.here, h.low, h.os, h.output⟩
theorem Ap1.cl {w0 : World} {B : Nat} : Cl (Ap1 w0 B) := fun _ _ _ h => ⟨h.size, h.low, h.os, h.output, h.kinds, h.cfg⟩
theorem slots6 (tm : Array Value) : Slots fV 6 tm := fun j hj => by
  have e : fV.M 6 = [] := by kernel_rfl
  rw [e] at hj; cases hj
theorem Tr.shape {P : Program} {fn : FuncId} {k : List Item} {cs : List Frame} {I : World -> Prop} {Q : Array Goroutine -> World -> Trace -> Prop} {tm : Array Value} {mkT : (Nat -> Value) -> Array Value} (ht : tm = mkT fun j => tm.getD j undef) (h : ∀ s, Tri P (G ((base fn).at ⟨mkT s, []⟩ k) cs) I Q) : Tri P (G ((base fn).at ⟨tm, []⟩ k) cs) I Q := by
  rw [ht]
  exact h _
def ApEnd (w0 : World) (B : Nat) : Array Goroutine -> World -> Trace -> Prop := fun gs w' tr => ∃ a k, a.defers = [] /\ Beside Tryz.prog gs tr (G ((base 6).at a (.code .ret :: k)) []) /\ a.tmps.getD 6 undef = .bool true /\ B <= w'.heap.size /\ (∀ b, b < B -> w'.heap[b]? = w0.heap[b]?) /\ w'.os = w0.os /\ w'.output = w0.output
structure ApIn (w0 : World) (B : Nat) (a0 a1 : Option Addr) (n0 n1 : Nat) (f : Nat -> ByteArray) (vals : Nat -> Int) : Prop where
  hB : w0.heap.size = B
  noise : ValA w0 a0 n0 f
  values : Vals w0 a1 n1 vals
  hn0 : n0 <= 1048576
  hn1 : n1 <= 9223372036854775807
  small : ∀ i, i < n0 -> (f i).size <= 1048576
  sum : ∀ i, i <= n0 -> apU f i <= 1048576
section
variable (a0 a1 : Option Addr) (n0 k0 n1 k1 : Nat) (x2 : Int) (w0 : World) (B d L S : Nat) (E : Nat -> Nat) (f : Nat -> ByteArray) (vals : Nat -> Int)
def ApA (i : Nat) : Nat := 40 * i + apU f i
def IsAp (Lc rest : Code) : Prop := ∃ y0 y1 y2 y3 y5 y11, Tryz.f6.body = some (.seq y0 (.seq y1 (.seq y2 (.seq y3 (.seq y5 (.seq (.seq y11 (.block 2 (.loop Lc))) rest))))))
def ApHead (Lc rest : Code) (i : Nat) (g : Goroutine) : Prop := ∃ s : Nat -> Value, g = G ((base 6).at ⟨#[.slice a0 n0 k0, .slice a1 n1 k1, .int .i64 x2, s 3, s 4, s 5, s 6, .pointer (some ⟨B + 1, 0, none⟩), .pointer (some ⟨d, 0, none⟩), s 9, s 10, s 11, s 12, .int .i64 (i : Nat), s 14, s 15, s 16, s 17, s 18, s 19, s 20, s 21, s 22, s 23, s 24, s 25, s 26, s 27, s 28, s 29, s 30, s 31, s 32, s 33, s 34, s 35, s 36, s 37, s 38, s 39, s 40, s 41, s 42, s 43, s 44, s 45, s 46, s 47, s 48, s 49, s 50, s 51, s 52, s 53, s 54, s 55, s 56, s 57, s 58, s 59, s 60, s 61, s 62, s 63, s 64, s 65, s 66, s 67, s 68, s 69, s 70, s 71, s 72, s 73, s 74, s 75, s 76, s 77, s 78, s 79, s 80, s 81, s 82, s 83, s 84, s 85, s 86, s 87, s 88, s 89, s 90, s 91, s 92, s 93, s 94, s 95, s 96, s 97, s 98, s 99, s 100, s 101, s 102, s 103, s 104, s 105, s 106, s 107, s 108, s 109, s 110, s 111, s 112, s 113, s 114, s 115, s 116, s 117, s 118, s 119, s 120, s 121, s 122, s 123, s 124], []⟩ [.code Lc, .inLoop Lc, .inBlock 2, .code rest]) []
set_option maxHeartbeats 4000000 in
theorem apart_last (Lc rest : Code) (hc : IsAp Lc rest) (i : Nat) (hi : n0 < i) (g : Goroutine) (hg : ApHead a0 a1 n0 k0 n1 k1 x2 B d Lc rest i g) (A : Nat) : Tri Tryz.prog g (ApW w0 B d L S E A (apF n1 vals)) (ApEnd w0 B) := by
  obtain ⟨s, rfl⟩ := hg
  obtain ⟨y0, y1, y2, y3, y5, y11, hb⟩ := hc
  have hb' := hb.symm
  simp only [Tryz.f6, Option.some.injEq, Code.seq.injEq, Code.block.injEq, Code.loop.injEq] at hb'
  obtain ⟨_, _, _, _, _, ⟨_, _, rfl⟩, rfl⟩ := hb'
  clear hb
  have hk : (base 6).kind ≠ .early := by simp [base]
  have hI := ApW.cl (w0 := w0) (B := B) (d := d) (L := L) (S := S) (E := E) (A := A) (vals := apF n1 vals)
  have hle : decide ((i : Int) <= (n0 : Int)) = false := decide_eq_false (by omega)
  have hleN : decide (i <= n0) = false := decide_eq_false (by omega)
  co_apply Tr.seq hI
  co_apply Tr.seq hI
  (co_apply Tr.region hI; simp only [List.size_toArray, List.length_cons, List.length_nil, Nat.reduceAdd, Nat.zero_add, List.range, List.range.loop])
  (co_apply Tr.pure hI rfl (by rfl) hk (by intro _ K hK; go_simp; exact hK) (by intro _; simp [go_sem, ev_len, ev_index, ev_indexI, ev_slice_lo, ev_slice_hi, *]); walk_nrm)
  (co_apply Tr.pure hI rfl (by rfl) hk (by intro _ K hK; go_simp; exact hK) (by intro _; simp [go_sem, ev_len, ev_index, ev_indexI, ev_slice_lo, ev_slice_hi, *]); walk_nrm)
  (co_apply Tr.pure hI rfl (by rfl) hk (by intro _ K hK; go_simp; exact hK) (by intro _; simp [go_sem, ev_len, ev_index, ev_indexI, ev_slice_lo, ev_slice_hi, *]); walk_nrm)
  (co_apply Tr.pure hI rfl (by rfl) hk (by intro _ K hK; go_simp; exact hK) (by intro _; simp [go_sem, ev_len, ev_index, ev_indexI, ev_slice_lo, ev_slice_hi, *]); walk_nrm)
  co_apply Tr.nil hI
  co_apply Tr.cond hI
  focus (exact rfl)
  try simp only [hle, hleN, if_true, if_false, reduceIte, Bool.false_eq_true]
  co_apply Tr.exit hI rfl
  co_apply Tr.seq hI
  (co_apply Tr.region hI; simp only [List.size_toArray, List.length_cons, List.length_nil, Nat.reduceAdd, Nat.zero_add, List.range, List.range.loop])
  (co_apply Tr.pure hI rfl (by rfl) hk (by intro _ K hK; go_simp; exact hK) (by intro _; simp [go_sem, ev_len, ev_index, ev_indexI, ev_slice_lo, ev_slice_hi, *]); walk_nrm)
  co_apply Tr.nil hI
  intro gs w t hw hb
  exact Runs.here ⟨_, _, rfl, hb, rfl, by have := hw.here; omega, hw.low, hw.os, hw.output⟩
set_option maxHeartbeats 8000000 in
theorem apart_round (hin : ApIn w0 B a0 a1 n0 n1 f vals) (Lc rest : Code) (hc : IsAp Lc rest) (i : Nat) (hi : i <= n0) (g : Goroutine) (hg : ApHead a0 a1 n0 k0 n1 k1 x2 B d Lc rest i g)
    (ih : ∀ g, ApHead a0 a1 n0 k0 n1 k1 x2 B d Lc rest (i + 1) g -> Tri Tryz.prog g (ApW w0 B d L S E (ApA f (i + 1)) (apF n1 vals)) (ApEnd w0 B)) : Tri Tryz.prog g (ApW w0 B d L S E (ApA f i) (apF n1 vals)) (ApEnd w0 B) := by
  have hAi : ApA f i + 2 <= 100000000 := by have := hin.sum i hi; have := hin.hn0; unfold ApA; omega
  obtain ⟨s, rfl⟩ := hg
  obtain ⟨y0, y1, y2, y3, y5, y11, hb⟩ := hc
  have hb' := hb.symm
  simp only [Tryz.f6, Option.some.injEq, Code.seq.injEq, Code.block.injEq, Code.loop.injEq] at hb'
  obtain ⟨_, _, _, _, _, ⟨_, _, rfl⟩, rfl⟩ := hb'
  clear hb
  have hk : (base 6).kind ≠ .early := by simp [base]
  have hI := ApW.cl (w0 := w0) (B := B) (d := d) (L := L) (S := S) (E := E) (A := ApA f i) (vals := apF n1 vals)
  have hle : decide ((i : Int) <= (n0 : Int)) = true := decide_eq_true (by omega)
  have hleN : decide (i <= n0) = true := decide_eq_true (by omega)
  have HIN : Hid (ApIn w0 B a0 a1 n0 n1 f vals) := hin
  have HIH : Hid _ := ih
  clear ih hin
  co_apply Tr.seq hI
  co_apply Tr.seq hI
  (co_apply Tr.region hI; simp only [List.size_toArray, List.length_cons, List.length_nil, Nat.reduceAdd, Nat.zero_add, List.range, List.range.loop])
  (co_apply Tr.pure hI rfl (by rfl) hk (by intro _ K hK; go_simp; exact hK) (by intro _; simp [go_sem, ev_len, ev_index, ev_indexI, ev_slice_lo, ev_slice_hi, *]); walk_nrm)
  (co_apply Tr.pure hI rfl (by rfl) hk (by intro _ K hK; go_simp; exact hK) (by intro _; simp [go_sem, ev_len, ev_index, ev_indexI, ev_slice_lo, ev_slice_hi, *]); walk_nrm)
  (co_apply Tr.pure hI rfl (by rfl) hk (by intro _ K hK; go_simp; exact hK) (by intro _; simp [go_sem, ev_len, ev_index, ev_indexI, ev_slice_lo, ev_slice_hi, *]); walk_nrm)
  (co_apply Tr.pure hI rfl (by rfl) hk (by intro _ K hK; go_simp; exact hK) (by intro _; simp [go_sem, ev_len, ev_index, ev_indexI, ev_slice_lo, ev_slice_hi, *]); walk_nrm)
  co_apply Tr.nil hI
  co_apply Tr.cond hI
  focus (exact rfl)
  try simp only [hle, hleN, if_true, if_false, reduceIte, Bool.false_eq_true]
  co_apply Tr.skip hI
  co_apply Tr.seq hI
  co_apply Tr.block hI
  co_apply Tr.seq hI
  refine Tr.shape (mkT := fun s => #[.slice a0 n0 k0, .slice a1 n1 k1, .int .i64 x2, s 3, s 4, s 5, s 6, .pointer (some ⟨B + 1, 0, none⟩), .pointer (some ⟨d, 0, none⟩), s 9, s 10, s 11, s 12, .int .i64 (i : Nat), s 14, s 15, s 16, s 17, s 18, s 19, s 20, s 21, s 22, s 23, s 24, s 25, s 26, s 27, s 28, s 29, s 30, s 31, s 32, s 33, s 34, s 35, s 36, s 37, s 38, s 39, s 40, s 41, s 42, s 43, s 44, s 45, s 46, s 47, s 48, s 49, s 50, s 51, s 52, s 53, s 54, s 55, s 56, s 57, s 58, s 59, s 60, s 61, s 62, s 63, s 64, s 65, s 66, s 67, s 68, s 69, s 70, s 71, s 72, s 73, s 74, s 75, s 76, s 77, s 78, s 79, s 80, s 81, s 82, s 83, s 84, s 85, s 86, s 87, s 88, s 89, s 90, s 91, s 92, s 93, s 94, s 95, s 96, s 97, s 98, s 99, s 100, s 101, s 102, s 103, s 104, s 105, s 106, s 107, s 108, s 109, s 110, s 111, s 112, s 113, s 114, s 115, s 116, s 117, s 118, s 119, s 120, s 121, s 122, s 123, s 124]) rfl (fun s1 => ?_)
  dsimp only
  co_apply Tr.wpN fitV (by kernel_rfl) (slots6 _) hI
    (J := fun tm w' => ∃ s : Nat -> Value, tm = #[.slice a0 n0 k0, .slice a1 n1 k1, .int .i64 x2, s 3, s 4, s 5, s 6, .pointer (some ⟨B + 1, 0, none⟩), .pointer (some ⟨d, 0, none⟩), s 9, s 10, s 11, s 12, .int .i64 (i : Nat), .int .i64 (apA x2 i : Nat), s 15, s 16, s 17, s 18, s 19, s 20, s 21, s 22, s 23, s 24, s 25, s 26, s 27, s 28, s 29, s 30, s 31, s 32, s 33, s 34, s 35, s 36, s 37, s 38, s 39, s 40, s 41, s 42, s 43, s 44, s 45, s 46, s 47, s 48, s 49, s 50, s 51, s 52, s 53, s 54, s 55, s 56, s 57, s 58, s 59, s 60, s 61, s 62, s 63, s 64, s 65, s 66, s 67, s 68, s 69, s 70, s 71, s 72, s 73, s 74, s 75, s 76, s 77, s 78, s 79, s 80, s 81, s 82, s 83, s 84, s 85, s 86, s 87, s 88, s 89, s 90, s 91, s 92, s 93, s 94, s 95, s 96, s 97, s 98, s 99, s 100, s 101, s 102, s 103, s 104, s 105, s 106, s 107, s 108, s 109, s 110, s 111, s 112, s 113, s 114, s 115, s 116, s 117, s 118, s 119, s 120, s 121, s 122, s 123, s 124] /\ ApW w0 B d L S E (ApA f i) (apF n1 vals) w')
    (fun _ w τ d ⟨s, e, h⟩ => ⟨s, e, ApW.cl w τ d h⟩)
    (fun w hi => ap14_wp a0 a1 n0 k0 n1 k1 x2 w B d i _ _ hi)
  rintro tm gs w t ⟨s, rfl, hw⟩ hb
  refine (?_ : Tri Tryz.prog _ (ApW w0 B d L S E (ApA f i) (apF n1 vals)) (ApEnd w0 B)) gs w t hw hb
  clear hw hb gs w t
  dsimp only
  co_apply Tr.seq hI
  co_apply Tr.wpN fitV (by kernel_rfl) (slots6 _) hI
    (J := fun tm w' => ∃ (v15 : Value) (s : Nat -> Value), tm = #[.slice a0 n0 k0, .slice a1 n1 k1, .int .i64 x2, s 3, s 4, s 5, s 6, .pointer (some ⟨B + 1, 0, none⟩), .pointer (some ⟨d, 0, none⟩), s 9, s 10, s 11, s 12, .int .i64 (i : Nat), .int .i64 (apA x2 i : Nat), v15, .int .i64 0, s 17, s 18, s 19, s 20, s 21, s 22, s 23, s 24, s 25, s 26, s 27, s 28, s 29, s 30, s 31, s 32, s 33, s 34, s 35, s 36, s 37, s 38, s 39, s 40, s 41, s 42, s 43, s 44, s 45, s 46, s 47, s 48, s 49, s 50, s 51, s 52, s 53, s 54, s 55, s 56, s 57, s 58, s 59, s 60, s 61, s 62, s 63, s 64, s 65, s 66, s 67, s 68, s 69, s 70, s 71, s 72, s 73, s 74, s 75, s 76, s 77, s 78, s 79, s 80, s 81, s 82, s 83, s 84, s 85, s 86, s 87, s 88, s 89, s 90, s 91, s 92, s 93, s 94, s 95, s 96, s 97, s 98, s 99, s 100, s 101, s 102, s 103, s 104, s 105, s 106, s 107, s 108, s 109, s 110, s 111, s 112, s 113, s 114, s 115, s 116, s 117, s 118, s 119, s 120, s 121, s 122, s 123, s 124] /\ w'.ownsRow (B + 2) 77 4 v15 1 ([(2, 0, 2, apR x2 n1 vals i)].flatMap encA) /\ ApW w0 B d L S E (ApA f i + 1) (apF n1 vals) w')
    (fun _ w τ d ⟨v, s, e, h1, h⟩ => ⟨v, s, e, ownsRow_cl w τ d h1, ApW.cl w τ d h⟩)
    (fun w hi => ap15_wp a0 a1 n0 k0 n1 k1 x2 w0 w B d L S i (ApA f i) E vals s hi (by omega))
  rintro tm gs w t ⟨v15, s2, rfl, hw1, hw⟩ hb
  refine (?_ : Tri Tryz.prog _ (fun w => w.ownsRow (B + 2) 77 4 v15 1 ([(2, 0, 2, apR x2 n1 vals i)].flatMap encA) /\ ApW w0 B d L S E (ApA f i + 1) (apF n1 vals) w) (ApEnd w0 B)) gs w t ⟨hw1, hw⟩ hb
  clear hw hw1 hb gs w t
  have hI15 : Cl (fun w => w.ownsRow (B + 2) 77 4 v15 1 ([(2, 0, 2, apR x2 n1 vals i)].flatMap encA) /\ ApW w0 B d L S E (ApA f i + 1) (apF n1 vals) w) := fun w τ d h => ⟨ownsRow_cl w τ d h.1, ApW.cl w τ d h.2⟩
  dsimp only
  co_apply Tr.seq hI15
  co_apply Tr.wpN fitV (by kernel_rfl) (slots6 _) hI15
    (J := fun tm w' => ∃ (g17 k17 : Nat) (s : Nat -> Value), tm = #[.slice a0 n0 k0, .slice a1 n1 k1, .int .i64 x2, s 3, s 4, s 5, s 6, .pointer (some ⟨B + 1, 0, none⟩), .pointer (some ⟨d, 0, none⟩), s 9, s 10, s 11, s 12, .int .i64 (i : Nat), .int .i64 (apA x2 i : Nat), s 15, .int .i64 0, .slice (some ⟨g17, 0, none⟩) 1 k17, s 18, s 19, s 20, s 21, s 22, s 23, s 24, s 25, s 26, s 27, s 28, s 29, s 30, s 31, s 32, s 33, s 34, s 35, s 36, s 37, s 38, s 39, s 40, s 41, s 42, s 43, s 44, s 45, s 46, s 47, s 48, s 49, s 50, s 51, s 52, s 53, s 54, s 55, s 56, s 57, s 58, s 59, s 60, s 61, s 62, s 63, s 64, s 65, s 66, s 67, s 68, s 69, s 70, s 71, s 72, s 73, s 74, s 75, s 76, s 77, s 78, s 79, s 80, s 81, s 82, s 83, s 84, s 85, s 86, s 87, s 88, s 89, s 90, s 91, s 92, s 93, s 94, s 95, s 96, s 97, s 98, s 99, s 100, s 101, s 102, s 103, s 104, s 105, s 106, s 107, s 108, s 109, s 110, s 111, s 112, s 113, s 114, s 115, s 116, s 117, s 118, s 119, s 120, s 121, s 122, s 123, s 124] /\ g17 < w'.heap.size /\ w'.cell? ⟨g17, 0, none⟩ = some (.string (apR x2 n1 vals i)) /\ ApW w0 B d L S E (ApA f i + 1) (apF n1 vals) w')
    (fun _ w τ d ⟨a, b, s, e, h1, h2, h⟩ => ⟨a, b, s, e, h1, h2, ApW.cl w τ d h⟩)
    (fun w hi => ap16_wp a0 a1 n0 k0 n1 k1 x2 w0 w B d L S i (ApA f i + 1) E (apF n1 vals) _ v15 s2 hi.2 hi.1)
  rintro tm gs w t ⟨g17, k17, s3, rfl, hw1, hw2, hw⟩ hb
  refine (?_ : Tri Tryz.prog _ (fun w => g17 < w.heap.size /\ w.cell? ⟨g17, 0, none⟩ = some (.string (apR x2 n1 vals i)) /\ ApW w0 B d L S E (ApA f i + 1) (apF n1 vals) w) (ApEnd w0 B)) gs w t ⟨hw1, hw2, hw⟩ hb
  clear hw hw1 hw2 hb gs w t
  have hI16 : Cl (fun w => g17 < w.heap.size /\ w.cell? ⟨g17, 0, none⟩ = some (.string (apR x2 n1 vals i)) /\ ApW w0 B d L S E (ApA f i + 1) (apF n1 vals) w) := fun w τ d h => ⟨h.1, h.2.1, ApW.cl w τ d h.2.2⟩
  have hI1 := ApW.cl (w0 := w0) (B := B) (d := d) (L := L) (S := S) (E := E) (A := ApA f i + 1) (vals := apF n1 vals)
  dsimp only
  co_apply Tr.seq hI16
  co_apply Tr.wpN fitV (by kernel_rfl) (slots6 _) hI16
    (J := fun tm w' => ∃ s : Nat -> Value, tm = #[.slice a0 n0 k0, .slice a1 n1 k1, .int .i64 x2, s 3, s 4, s 5, s 6, .pointer (some ⟨B + 1, 0, none⟩), .pointer (some ⟨d, 0, none⟩), s 9, s 10, s 11, s 12, .int .i64 (i : Nat), s 14, s 15, s 16, s 17, s 18, s 19, s 20, s 21, s 22, s 23, s 24, s 25, s 26, s 27, s 28, s 29, s 30, s 31, s 32, s 33, s 34, s 35, s 36, s 37, s 38, s 39, s 40, s 41, s 42, s 43, s 44, s 45, s 46, s 47, s 48, s 49, s 50, s 51, s 52, s 53, s 54, s 55, s 56, s 57, s 58, s 59, s 60, s 61, s 62, s 63, s 64, s 65, s 66, s 67, s 68, s 69, s 70, s 71, s 72, s 73, s 74, s 75, s 76, s 77, s 78, s 79, s 80, s 81, s 82, s 83, s 84, s 85, s 86, s 87, s 88, s 89, s 90, s 91, s 92, s 93, s 94, s 95, s 96, s 97, s 98, s 99, s 100, s 101, s 102, s 103, s 104, s 105, s 106, s 107, s 108, s 109, s 110, s 111, s 112, s 113, s 114, s 115, s 116, s 117, s 118, s 119, s 120, s 121, s 122, s 123, s 124] /\ ApW w0 B d L S E (ApA f i + 1) (apF n1 vals) w')
    (fun _ w τ d ⟨s, e, h⟩ => ⟨s, e, ApW.cl w τ d h⟩)
    (fun w hi => ap17_wp a0 a1 n0 k0 n1 k1 x2 w0 w B d L S i (ApA f i + 1) g17 k17 E vals s3 hi.2.2 HIN.out.values HIN.out.hB HIN.out.hn1 hi.1 hi.2.1)
  rintro tm gs w t ⟨s4, rfl, hw⟩ hb
  refine (?_ : Tri Tryz.prog _ (ApW w0 B d L S E (ApA f i + 1) (apF n1 vals)) (ApEnd w0 B)) gs w t hw hb
  clear hw hb gs w t hI15 hI16 hI
  have hI := hI1
  clear hI1
  dsimp only
  co_apply Tr.seq hI
  have hwi : IntKind.i64.wrap ((i : Int) + 1) = ((i + 1 : Nat) : Int) := by rw [IntKind.wrap_i64]; have := HIN.out.hn0; omega
  by_cases hlt : i < n0
  . have hle : decide ((i : Int) < (n0 : Int)) = true := decide_eq_true (by omega)
    have hleN : decide (i < n0) = true := decide_eq_true hlt
    have hsz := HIN.out.small i hlt
    (co_apply Tr.region hI; simp only [List.size_toArray, List.length_cons, List.length_nil, Nat.reduceAdd, Nat.zero_add, List.range, List.range.loop])
    (co_apply Tr.pure hI rfl (by rfl) hk (by intro _ K hK; go_simp; exact hK) (by intro _; simp [go_sem, ev_len, ev_index, ev_indexI, ev_slice_lo, ev_slice_hi, *]); walk_nrm)
    (co_apply Tr.pure hI rfl (by rfl) hk (by intro _ K hK; go_simp; exact hK) (by intro _; simp [go_sem, ev_len, ev_index, ev_indexI, ev_slice_lo, ev_slice_hi, *]); walk_nrm)
    (co_apply Tr.pure hI rfl (by rfl) hk (by intro _ K hK; go_simp; exact hK) (by intro _; simp [go_sem, ev_len, ev_index, ev_indexI, ev_slice_lo, ev_slice_hi, *]); walk_nrm)
    (co_apply Tr.pure hI rfl (by rfl) hk (by intro _ K hK; go_simp; exact hK) (by intro _; simp [go_sem, ev_len, ev_index, ev_indexI, ev_slice_lo, ev_slice_hi, *]); walk_nrm)
    co_apply Tr.nil hI
    co_apply Tr.cond hI
    focus (exact rfl)
    try simp only [hle, hleN, if_true, if_false, reduceIte, Bool.false_eq_true]
    co_apply Tr.seq hI
    refine Tr.shape (mkT := fun s => #[.slice a0 n0 k0, .slice a1 n1 k1, .int .i64 x2, s 3, s 4, s 5, s 6, .pointer (some ⟨B + 1, 0, none⟩), .pointer (some ⟨d, 0, none⟩), s 9, s 10, s 11, s 12, .int .i64 (i : Nat), s 14, s 15, s 16, s 17, s 18, s 19, s 20, s 21, s 22, s 23, s 24, s 25, s 26, s 27, s 28, s 29, s 30, s 31, s 32, s 33, s 34, s 35, s 36, s 37, s 38, s 39, s 40, s 41, s 42, s 43, s 44, s 45, s 46, s 47, s 48, s 49, s 50, s 51, s 52, s 53, s 54, s 55, s 56, s 57, s 58, s 59, s 60, s 61, s 62, s 63, s 64, s 65, s 66, s 67, s 68, s 69, s 70, s 71, s 72, s 73, s 74, s 75, s 76, s 77, s 78, s 79, s 80, s 81, s 82, s 83, s 84, s 85, s 86, s 87, s 88, s 89, s 90, s 91, s 92, s 93, s 94, s 95, s 96, s 97, s 98, s 99, s 100, s 101, s 102, s 103, s 104, s 105, s 106, s 107, s 108, s 109, s 110, s 111, s 112, s 113, s 114, s 115, s 116, s 117, s 118, s 119, s 120, s 121, s 122, s 123, s 124]) rfl (fun s5 => ?_)
    dsimp only
    co_apply Tr.wpN fitV (by kernel_rfl) (slots6 _) hI
      (J := fun tm w' => ∃ s : Nat -> Value, tm = #[.slice a0 n0 k0, .slice a1 n1 k1, .int .i64 x2, s 3, s 4, s 5, s 6, .pointer (some ⟨B + 1, 0, none⟩), .pointer (some ⟨d, 0, none⟩), s 9, s 10, s 11, s 12, .int .i64 (i : Nat), s 14, s 15, s 16, s 17, s 18, s 19, s 20, s 21, s 22, s 23, s 24, s 25, s 26, s 27, s 28, s 29, s 30, s 31, s 32, s 33, s 34, s 35, s 36, s 37, s 38, s 39, s 40, s 41, s 42, s 43, s 44, s 45, s 46, s 47, s 48, s 49, s 50, s 51, s 52, s 53, s 54, s 55, s 56, s 57, s 58, s 59, s 60, s 61, s 62, s 63, s 64, s 65, s 66, s 67, s 68, s 69, s 70, s 71, s 72, s 73, s 74, s 75, s 76, s 77, s 78, s 79, s 80, s 81, s 82, s 83, s 84, s 85, s 86, s 87, s 88, s 89, s 90, s 91, s 92, s 93, s 94, s 95, s 96, s 97, s 98, s 99, s 100, s 101, s 102, s 103, s 104, s 105, s 106, s 107, s 108, s 109, s 110, s 111, s 112, s 113, s 114, s 115, s 116, s 117, s 118, s 119, s 120, s 121, s 122, s 123, s 124] /\ ApW w0 B d L S E (ApA f i + 1 + 38 + (f i).size) (apF n1 vals) w')
      (fun _ w τ d ⟨s, e, h⟩ => ⟨s, e, ApW.cl w τ d h⟩)
      (fun w hi => ap20_wp a0 a1 n0 k0 n1 k1 x2 w0 w B d L S i (ApA f i + 1) E (apF n1 vals) f s5 hi HIN.out.noise HIN.out.hB hlt hsz (by omega))
    rintro tm gs w t ⟨s6, rfl, hw⟩ hb
    obtain ⟨A6, hA6⟩ : ∃ A6, A6 = ApA f i + 1 + 38 + (f i).size := ⟨_, rfl⟩
    rw [<- hA6] at hw
    refine (?_ : Tri Tryz.prog _ (ApW w0 B d L S E A6 (apF n1 vals)) (ApEnd w0 B)) gs w t hw hb
    clear hw hb gs w t hI
    have hI := ApW.cl (w0 := w0) (B := B) (d := d) (L := L) (S := S) (E := E) (A := A6) (vals := apF n1 vals)
    dsimp only
    co_apply Tr.seq hI
    (co_apply Tr.region hI; simp only [List.size_toArray, List.length_cons, List.length_nil, Nat.reduceAdd, Nat.zero_add, List.range, List.range.loop])
    (co_apply Tr.pure hI rfl (by rfl) hk (by intro _ K hK; go_simp; exact hK) (by intro _; simp [go_sem, ev_len, ev_index, ev_indexI, ev_slice_lo, ev_slice_hi, *]); walk_nrm)
    co_apply Tr.enter hI rfl (by rfl) hk rfl (vals := #[.pointer (some ⟨d, 0, none⟩)]) (by walk_nrm) Tryz.func30 (by rfl) rfl
    intro gs w t hw hb
    obtain ⟨wv, D, hD, hap⟩ := hw.dev
    have hps := ap_pcs hap
    have hbs := hap.base
    refine (tick_tri _ rfl w d L S E wv D hap.ok hap.kp hap.uns (by have := hap.arr; omega) (by rw [hps]; exact Nat.one_pos) (by rw [hps]; exact Nat.le_refl _) (fun p hp => by rw [hps] at hp; rw [List.mem_singleton.1 hp]; have := hap.b1; show (D.ln 1).bytes.size <= _; omega) rfl (fun v => ?_)) gs w t ⟨hD, ⟨by rw [hbs]; exact hw.here, fun _ _ => rfl, rfl, rfl⟩⟩ hb
    intro gs2 w2 t2 hT hb2
    obtain ⟨hap2, hl2, h12⟩ := tick_ap hap
    obtain ⟨As, hAs⟩ : ∃ As, As = (tickP D).2 := ⟨_, rfl⟩
    obtain ⟨hD2, ho2, hG2⟩ := hT
    rw [hbs] at ho2 hG2
    rw [<- hAs] at ho2 hl2 h12
    obtain ⟨a18, k18, rfl, hvw⟩ := own_view ho2
    clear hvw
    have hW2 : ApW w0 B d L S E (A6 + 1) (apF n1 vals) w2 := ⟨⟨wv, _, hD2, hap2⟩, hG2.here, fun b hb' => (hG2.low b (by omega)).trans (hw.low b hb'), hG2.os.trans hw.os, hG2.output.trans hw.output⟩
    refine (?_ : Tri Tryz.prog _ (fun w => w.ownsRow (B + 2) 77 4 (.slice a18 As.length k18) As.length (As.flatMap encA) /\ ApW w0 B d L S E (A6 + 1) (apF n1 vals) w) (ApEnd w0 B)) gs2 w2 t2 ⟨ho2, hW2⟩ hb2
    clear hW2 ho2 hG2 hD2 hap2 hb2 gs2 w2 t2 hI
    have hI : Cl (fun w => w.ownsRow (B + 2) 77 4 (.slice a18 As.length k18) As.length (As.flatMap encA) /\ ApW w0 B d L S E (A6 + 1) (apF n1 vals) w) := fun w τ d h => ⟨ownsRow_cl w τ d h.1, ApW.cl w τ d h.2⟩
    clear hb hw hD hap hps hbs hAs gs t
    walk_nrm
    (co_apply Tr.pure hI rfl (by rfl) hk (by intro _ K hK; go_simp; exact hK) (by intro _; simp [go_sem, ev_len, ev_index, ev_indexI, ev_slice_lo, ev_slice_hi, *]); walk_nrm)
    co_apply Tr.nil hI
    co_apply Tr.seq hI
    (co_apply Tr.region hI; simp only [List.size_toArray, List.length_cons, List.length_nil, Nat.reduceAdd, Nat.zero_add, List.range, List.range.loop])
    (co_apply Tr.pure hI rfl (by rfl) hk (by intro _ K hK; go_simp; exact hK) (by intro _; simp [go_sem, ev_len, ev_index, ev_indexI, ev_slice_lo, ev_slice_hi, *]); walk_nrm)
    co_apply Tr.nil hI
    refine Tr.shape (mkT := fun s => #[.slice a0 n0 k0, .slice a1 n1 k1, .int .i64 x2, s 3, s 4, s 5, s 6, .pointer (some ⟨B + 1, 0, none⟩), .pointer (some ⟨d, 0, none⟩), s 9, s 10, s 11, s 12, .int .i64 (i : Nat), s 14, s 15, s 16, s 17, .slice a18 (As.length) k18, .int .i64 0, s 20, s 21, s 22, s 23, s 24, s 25, s 26, s 27, s 28, s 29, s 30, s 31, s 32, s 33, s 34, s 35, s 36, s 37, s 38, s 39, s 40, s 41, s 42, s 43, s 44, s 45, s 46, s 47, s 48, s 49, s 50, s 51, s 52, s 53, s 54, s 55, s 56, s 57, s 58, s 59, s 60, s 61, s 62, s 63, s 64, s 65, s 66, s 67, s 68, s 69, s 70, s 71, s 72, s 73, s 74, s 75, s 76, s 77, s 78, s 79, s 80, s 81, s 82, s 83, s 84, s 85, s 86, s 87, s 88, s 89, s 90, s 91, s 92, s 93, s 94, s 95, s 96, s 97, s 98, s 99, s 100, s 101, s 102, s 103, s 104, s 105, s 106, s 107, s 108, s 109, s 110, s 111, s 112, s 113, s 114, s 115, s 116, s 117, s 118, s 119, s 120, s 121, s 122, s 123, s 124]) rfl (fun s7 => ?_)
    dsimp only
    co_apply Tr.wpN fitV (by kernel_rfl) (slots6 _) hI
      (J := fun tm w' => ∃ s : Nat -> Value, tm = #[.slice a0 n0 k0, .slice a1 n1 k1, .int .i64 x2, s 3, s 4, s 5, s 6, .pointer (some ⟨B + 1, 0, none⟩), .pointer (some ⟨d, 0, none⟩), s 9, s 10, s 11, s 12, .int .i64 (i : Nat), s 14, s 15, s 16, s 17, s 18, s 19, s 20, s 21, s 22, s 23, s 24, s 25, s 26, s 27, s 28, s 29, s 30, s 31, s 32, s 33, s 34, s 35, s 36, s 37, s 38, s 39, s 40, s 41, s 42, s 43, s 44, s 45, s 46, s 47, s 48, s 49, s 50, s 51, s 52, s 53, s 54, s 55, s 56, s 57, s 58, s 59, s 60, s 61, s 62, s 63, s 64, s 65, s 66, s 67, s 68, s 69, s 70, s 71, s 72, s 73, s 74, s 75, s 76, s 77, s 78, s 79, s 80, s 81, s 82, s 83, s 84, s 85, s 86, s 87, s 88, s 89, s 90, s 91, s 92, s 93, s 94, s 95, s 96, s 97, s 98, s 99, s 100, s 101, s 102, s 103, s 104, s 105, s 106, s 107, s 108, s 109, s 110, s 111, s 112, s 113, s 114, s 115, s 116, s 117, s 118, s 119, s 120, s 121, s 122, s 123, s 124] /\ ApW w0 B d L S E (A6 + 1) (apF n1 vals) w')
      (fun _ w τ d ⟨s, e, h⟩ => ⟨s, e, ApW.cl w τ d h⟩)
      (fun w hi => ap4_wp a0 a1 n0 k0 n1 k1 x2 w B d i k18 (B + 2) a18 As s7 hi.1 hl2 h12 _ hi.2)
    rintro tm gs w t ⟨s8, rfl, hw⟩ hb
    refine (?_ : Tri Tryz.prog _ (ApW w0 B d L S E (A6 + 1) (apF n1 vals)) (ApEnd w0 B)) gs w t hw hb
    clear hw hb gs w t hI
    have hI := ApW.cl (w0 := w0) (B := B) (d := d) (L := L) (S := S) (E := E) (A := A6 + 1) (vals := apF n1 vals)
    dsimp only
    co_apply Tr.inBlock hI
    (co_apply Tr.region hI; simp only [List.size_toArray, List.length_cons, List.length_nil, Nat.reduceAdd, Nat.zero_add, List.range, List.range.loop])
    (co_apply Tr.pure hI rfl (by rfl) hk (by intro _ K hK; go_simp; exact hK) (by intro _; simp [go_sem, ev_len, ev_index, ev_indexI, ev_slice_lo, ev_slice_hi, *]); walk_nrm)
    (co_apply Tr.pure hI rfl (by rfl) hk (by intro _ K hK; go_simp; exact hK) (by intro _; simp [go_sem, ev_len, ev_index, ev_indexI, ev_slice_lo, ev_slice_hi, *]); walk_nrm)
    (co_apply Tr.pure hI rfl (by rfl) hk (by intro _ K hK; go_simp; exact hK) (by intro _; simp [go_sem, ev_len, ev_index, ev_indexI, ev_slice_lo, ev_slice_hi, *]); walk_nrm)
    co_apply Tr.nil hI
    co_apply Tr.inLoop hI
    have e13 : ((i : Int) + 1) = ((i + 1 : Nat) : Int) := by omega
    try rw [e13]
    refine Tr.shape (mkT := fun s => #[.slice a0 n0 k0, .slice a1 n1 k1, .int .i64 x2, s 3, s 4, s 5, s 6, .pointer (some ⟨B + 1, 0, none⟩), .pointer (some ⟨d, 0, none⟩), s 9, s 10, s 11, s 12, .int .i64 ((i + 1 : Nat) : Int), s 14, s 15, s 16, s 17, s 18, s 19, s 20, s 21, s 22, s 23, s 24, s 25, s 26, s 27, s 28, s 29, s 30, s 31, s 32, s 33, s 34, s 35, s 36, s 37, s 38, s 39, s 40, s 41, s 42, s 43, s 44, s 45, s 46, s 47, s 48, s 49, s 50, s 51, s 52, s 53, s 54, s 55, s 56, s 57, s 58, s 59, s 60, s 61, s 62, s 63, s 64, s 65, s 66, s 67, s 68, s 69, s 70, s 71, s 72, s 73, s 74, s 75, s 76, s 77, s 78, s 79, s 80, s 81, s 82, s 83, s 84, s 85, s 86, s 87, s 88, s 89, s 90, s 91, s 92, s 93, s 94, s 95, s 96, s 97, s 98, s 99, s 100, s 101, s 102, s 103, s 104, s 105, s 106, s 107, s 108, s 109, s 110, s 111, s 112, s 113, s 114, s 115, s 116, s 117, s 118, s 119, s 120, s 121, s 122, s 123, s 124]) rfl (fun s9 => ?_)
    dsimp only
    refine (HIH.out _ ⟨s9, rfl⟩).pre fun w h => h.mono (by rw [hA6]; unfold ApA; show _ <= 40 * (i + 1) + (apU f i + (f i).size); omega)
  . have hle : decide ((i : Int) < (n0 : Int)) = false := decide_eq_false (by omega)
    have hleN : decide (i < n0) = false := decide_eq_false hlt
    (co_apply Tr.region hI; simp only [List.size_toArray, List.length_cons, List.length_nil, Nat.reduceAdd, Nat.zero_add, List.range, List.range.loop])
    (co_apply Tr.pure hI rfl (by rfl) hk (by intro _ K hK; go_simp; exact hK) (by intro _; simp [go_sem, ev_len, ev_index, ev_indexI, ev_slice_lo, ev_slice_hi, *]); walk_nrm)
    (co_apply Tr.pure hI rfl (by rfl) hk (by intro _ K hK; go_simp; exact hK) (by intro _; simp [go_sem, ev_len, ev_index, ev_indexI, ev_slice_lo, ev_slice_hi, *]); walk_nrm)
    (co_apply Tr.pure hI rfl (by rfl) hk (by intro _ K hK; go_simp; exact hK) (by intro _; simp [go_sem, ev_len, ev_index, ev_indexI, ev_slice_lo, ev_slice_hi, *]); walk_nrm)
    (co_apply Tr.pure hI rfl (by rfl) hk (by intro _ K hK; go_simp; exact hK) (by intro _; simp [go_sem, ev_len, ev_index, ev_indexI, ev_slice_lo, ev_slice_hi, *]); walk_nrm)
    co_apply Tr.nil hI
    co_apply Tr.cond hI
    focus (exact rfl)
    try simp only [hle, hleN, if_true, if_false, reduceIte, Bool.false_eq_true]
    co_apply Tr.skip hI
    co_apply Tr.inBlock hI
    (co_apply Tr.region hI; simp only [List.size_toArray, List.length_cons, List.length_nil, Nat.reduceAdd, Nat.zero_add, List.range, List.range.loop])
    (co_apply Tr.pure hI rfl (by rfl) hk (by intro _ K hK; go_simp; exact hK) (by intro _; simp [go_sem, ev_len, ev_index, ev_indexI, ev_slice_lo, ev_slice_hi, *]); walk_nrm)
    (co_apply Tr.pure hI rfl (by rfl) hk (by intro _ K hK; go_simp; exact hK) (by intro _; simp [go_sem, ev_len, ev_index, ev_indexI, ev_slice_lo, ev_slice_hi, *]); walk_nrm)
    (co_apply Tr.pure hI rfl (by rfl) hk (by intro _ K hK; go_simp; exact hK) (by intro _; simp [go_sem, ev_len, ev_index, ev_indexI, ev_slice_lo, ev_slice_hi, *]); walk_nrm)
    co_apply Tr.nil hI
    co_apply Tr.inLoop hI
    have e13 : ((i : Int) + 1) = ((i + 1 : Nat) : Int) := by omega
    try rw [e13]
    refine Tr.shape (mkT := fun s => #[.slice a0 n0 k0, .slice a1 n1 k1, .int .i64 x2, s 3, s 4, s 5, s 6, .pointer (some ⟨B + 1, 0, none⟩), .pointer (some ⟨d, 0, none⟩), s 9, s 10, s 11, s 12, .int .i64 ((i + 1 : Nat) : Int), s 14, s 15, s 16, s 17, s 18, s 19, s 20, s 21, s 22, s 23, s 24, s 25, s 26, s 27, s 28, s 29, s 30, s 31, s 32, s 33, s 34, s 35, s 36, s 37, s 38, s 39, s 40, s 41, s 42, s 43, s 44, s 45, s 46, s 47, s 48, s 49, s 50, s 51, s 52, s 53, s 54, s 55, s 56, s 57, s 58, s 59, s 60, s 61, s 62, s 63, s 64, s 65, s 66, s 67, s 68, s 69, s 70, s 71, s 72, s 73, s 74, s 75, s 76, s 77, s 78, s 79, s 80, s 81, s 82, s 83, s 84, s 85, s 86, s 87, s 88, s 89, s 90, s 91, s 92, s 93, s 94, s 95, s 96, s 97, s 98, s 99, s 100, s 101, s 102, s 103, s 104, s 105, s 106, s 107, s 108, s 109, s 110, s 111, s 112, s 113, s 114, s 115, s 116, s 117, s 118, s 119, s 120, s 121, s 122, s 123, s 124]) rfl (fun s9 => ?_)
    dsimp only
    refine (HIH.out _ ⟨s9, rfl⟩).pre fun w h => h.mono (by unfold ApA; show _ <= 40 * (i + 1) + (apU f i + (f i).size); omega)
end
end Go.Proofs.YtcpldcojckhapaaGreat
