/-
  One operation of a region that draws its order, kind by kind.
-/
import Derived.Test.YtcpldcojckhapaaInv2
import Derived.Test.YtcpldcojckhapaaK1
namespace Go.Proofs.Ytcpldcojckhapaa
open Go.RowKit

section
variable {o : Oper} {a : Act} {w : World} {K : Act → World → Prop} {Q : Exit → Act → World → Prop}
theorem op_move (p : Operand) (v : Value) (hop : o.op = .move p) (hp : a.eval p = v) (hK : K (a.put o.dst v) w) : o.wp Try.prog a w K Q := by
  unfold Oper.wp; rw [BigFrame.run_move p hop, hp]; exact hK
theorem op_assign (p : Operand) (v : Value) (hop : o.op = .assign p) (hp : a.eval p = v) (hK : K (a.put o.dst v) w) : o.wp Try.prog a w K Q := by
  unfold Oper.wp; rw [BigFrame.run_assign p hop, hp]; exact hK
theorem op_add (p q : Operand) (s t : ByteArray) (hop : o.op = .binOp .add 9 p q 9) (hp : a.eval p = .string s) (hq : a.eval q = .string t) (hl : s.size + t.size ≤ 1000000) (hK : K (a.put o.dst (.string (s ++ t))) w) : o.wp Try.prog a w K Q := by
  have : ¬ 9223372036854775807 < s.size + t.size := by omega
  unfold Oper.wp
  generalize a.eval = ρ at *
  have : (execOp ρ o).run Try.prog w = .ok (.value (.string (s ++ t))) w := by
    simp [execOp, hop, hp, hq, go_sem, this]
  rw [this]; exact hK
theorem op_mul (p q : Operand) (x y : Int) (hop : o.op = .binOp .mul 3 p q 3) (hp : a.eval p = .int .i64 x) (hq : a.eval q = .int .i64 y) (hK : K (a.put o.dst (.int .i64 (IntKind.i64.wrap (x * y)))) w) : o.wp Try.prog a w K Q := by
  unfold Oper.wp
  generalize a.eval = ρ at *
  have : (execOp ρ o).run Try.prog w = .ok (.value (.int .i64 (IntKind.i64.wrap (x * y)))) w := by
    simp [execOp, hop, hp, hq, go_sem]
  rw [this]; exact hK
theorem op_conv35 (p : Operand) (x : Int) (hop : o.op = .convert 3 5 p) (hp : a.eval p = .int .i64 x) (hK : K (a.put o.dst (.int .u8 (IntKind.u8.wrap x))) w) : o.wp Try.prog a w K Q := by
  unfold Oper.wp
  generalize a.eval = ρ at *
  have : (execOp ρ o).run Try.prog w = .ok (.value (.int .u8 (IntKind.u8.wrap x))) w := by
    simp [execOp, hop, hp, go_sem, Try.underlying3, Try.underlying5]
  rw [this]; exact hK
theorem op_len (p : Operand) (ad : Option Addr) (n c : Nat) (hop : o.op = .call { callee := .builtin .len, args := #[p], argTypes := #[45] }) (hp : a.eval p = .slice ad n c) (hK : K (a.put o.dst (.int .i64 (n : Nat))) w) : o.wp Try.prog a w K Q := by
  unfold Oper.wp
  generalize a.eval = ρ at *
  have : (execOp ρ o).run Try.prog w = .ok (.value (.int .i64 (n : Nat))) w := by
    simp [execOp, hop, hp, go_sem, Try.underlying45]
  rw [this]; exact hK
theorem op_byte (p : Operand) (x : Int) (hop : o.op = .buildSlice 45 1 #[(0, p)]) (hp : a.eval p = .int .u8 x) (hK : K (a.put o.dst (.slice (some ⟨w.heap.size, 0, none⟩) 1 1)) (w.alloc (.cells #[.int .u8 x] 5))) : o.wp Try.prog a w K Q := by
  unfold Oper.wp
  generalize a.eval = ρ at *
  have : (execOp ρ o).run Try.prog w = .ok (.value (.slice (some ⟨w.heap.size, 0, none⟩) 1 1)) (w.alloc (.cells #[.int .u8 x] 5)) := by
    simp [execOp, hop, hp, go_sem]
  rw [this]; exact hK
theorem op_str (p : Operand) (u : Value) (s : ByteArray) (hop : o.op = .convert 45 9 p) (hp : a.eval p = u) (hr : (convert 45 9 u).run Try.prog w = .ok (.string s) w) (hK : K (a.put o.dst (.string s)) w) : o.wp Try.prog a w K Q := by
  unfold Oper.wp
  generalize a.eval = ρ at *
  have : (execOp ρ o).run Try.prog w = .ok (.value (.string s)) w := by
    simp [execOp, hop, hp, go_sem, hr]
  rw [this]; exact hK
theorem op_two (p : Operand) (n : Nat) (hop : o.op = .call { callee := .value (.func 26), args := #[p], argTypes := #[3] }) (hp : a.eval p = .int .i64 (n : Nat)) (hn : n < 65536) (hK : ∀ w', Below w.heap.size w w' → K (a.put o.dst (.string (twoB n))) w') : o.wp Try.prog a w K Q := by
  unfold Oper.wp
  have hf : a.eval (.func 26) = .func (.func 26) #[] #[] := rfl
  generalize a.eval = ρ at *
  have : (execOp ρ o).run Try.prog w = .ok (.enter 26 #[.int .i64 (n : Nat)]) w := by
    simp [execOp, hop, resolve, invoke, hp, hf, Deferred.ofValue]
  rw [this, Oper.upon_enter]
  refine (two_any n w hn).mono ?_
  rintro e w' ⟨rfl, hb⟩
  exact hK w' hb
theorem op_five (p0 p1 p2 p3 p4 : Operand) (s0 s1 s2 s3 s4 : ByteArray) (hop : o.op = .buildSlice 32 5 #[(0, p0), (1, p1), (2, p2), (3, p3), (4, p4)]) (h0 : a.eval p0 = .string s0) (h1 : a.eval p1 = .string s1) (h2 : a.eval p2 = .string s2) (h3 : a.eval p3 = .string s3) (h4 : a.eval p4 = .string s4)
    (hK : K (a.put o.dst (.slice (some ⟨w.heap.size, 0, none⟩) 5 5)) (w.alloc (.cells #[.string s0, .string s1, .string s2, .string s3, .string s4] 9))) : o.wp Try.prog a w K Q := by
  unfold Oper.wp
  generalize a.eval = ρ at *
  have : (execOp ρ o).run Try.prog w = .ok (.value (.slice (some ⟨w.heap.size, 0, none⟩) 5 5)) (w.alloc (.cells #[.string s0, .string s1, .string s2, .string s3, .string s4] 9)) := by
    simp [execOp, hop, h0, h1, h2, h3, h4, go_sem]
  rw [this]; exact hK
end
end Go.Proofs.Ytcpldcojckhapaa
