/-
  The region of Shaped that lays five requests down by hand: whatever order its operations come up in, the same five texts.
-/
import Derived.Test.YtcpldcojckhapaaOps
namespace Go.Proofs.Ytcpldcojckhapaa
open Go.RowKit

def oneB (n : Nat) : ByteArray := ⟨#[UInt8.ofNat n]⟩
/-- What the operations are: what each does, its slot, and behind which it comes. -/
def tab22 : List (Op × Option Tmp × Option (Nat × Bool) × List Nat) := [
  (Op.move (Operand.tmp 9), some 106, none, []),
  (Op.call { callee := Callee.value (Operand.func 26), args := #[Operand.tmp 106], argTypes := #[3] }, some 107, none, [0]),
  (Op.binOp BinOp.add 9 (Operand.const (Value.string { data := #[3] })) (Operand.tmp 107) 9, some 108, none, [1]),
  (Op.move (Operand.tmp 11), some 109, none, []),
  (Op.call { callee := Callee.value (Operand.func 26), args := #[Operand.tmp 109], argTypes := #[3] }, some 110, none, [3, 1]),
  (Op.binOp BinOp.add 9 (Operand.tmp 108) (Operand.tmp 110) 9, some 111, none, [2, 4]),
  (Op.move (Operand.tmp 9), some 112, none, []),
  (Op.call { callee := Callee.value (Operand.func 26), args := #[Operand.tmp 112], argTypes := #[3] }, some 113, none, [6, 4]),
  (Op.binOp BinOp.add 9 (Operand.const (Value.string { data := #[15] })) (Operand.tmp 113) 9, some 114, none, [7]),
  (Op.move (Operand.tmp 18), some 115, none, []),
  (Op.call { callee := Callee.value (Operand.func 26), args := #[Operand.tmp 115], argTypes := #[3] }, some 116, none, [9, 7]),
  (Op.binOp BinOp.add 9 (Operand.tmp 114) (Operand.tmp 116) 9, some 117, none, [8, 10]),
  (Op.move (Operand.tmp 16), some 118, none, []),
  (Op.call { callee := Callee.builtin Builtin.len, args := #[Operand.tmp 118], argTypes := #[45] }, some 119, none, [12]),
  (Op.convert 3 5 (Operand.tmp 119), some 120, none, [13]),
  (Op.buildSlice 45 1 #[(0, Operand.tmp 120)], some 121, none, [14]),
  (Op.convert 45 9 (Operand.tmp 121), some 122, none, [15]),
  (Op.binOp BinOp.add 9 (Operand.tmp 117) (Operand.tmp 122) 9, some 123, none, [11, 16]),
  (Op.move (Operand.tmp 16), some 124, none, []),
  (Op.convert 45 9 (Operand.tmp 124), some 125, none, [18]),
  (Op.binOp BinOp.add 9 (Operand.tmp 123) (Operand.tmp 125) 9, some 126, none, [17, 19]),
  (Op.move (Operand.tmp 9), some 127, none, []),
  (Op.call { callee := Callee.value (Operand.func 26), args := #[Operand.tmp 127], argTypes := #[3] }, some 128, none, [21, 10]),
  (Op.binOp BinOp.add 9 (Operand.const (Value.string { data := #[16] })) (Operand.tmp 128) 9, some 129, none, [22]),
  (Op.move (Operand.tmp 18), some 130, none, []),
  (Op.call { callee := Callee.value (Operand.func 26), args := #[Operand.tmp 130], argTypes := #[3] }, some 131, none, [24, 22]),
  (Op.binOp BinOp.add 9 (Operand.tmp 129) (Operand.tmp 131) 9, some 132, none, [23, 25]),
  (Op.move (Operand.tmp 18), some 133, none, []),
  (Op.binOp BinOp.mul 3 (Operand.const (Value.int IntKind.i64 2)) (Operand.tmp 133) 3, some 134, none, [27]),
  (Op.convert 3 5 (Operand.tmp 134), some 135, none, [28]),
  (Op.buildSlice 45 1 #[(0, Operand.tmp 135)], some 136, none, [29]),
  (Op.convert 45 9 (Operand.tmp 136), some 137, none, [30]),
  (Op.binOp BinOp.add 9 (Operand.tmp 132) (Operand.tmp 137) 9, some 138, none, [26, 31]),
  (Op.move (Operand.tmp 14), some 139, none, []),
  (Op.binOp BinOp.add 9 (Operand.tmp 138) (Operand.tmp 139) 9, some 140, none, [32, 33]),
  (Op.move (Operand.tmp 9), some 141, none, []),
  (Op.call { callee := Callee.value (Operand.func 26), args := #[Operand.tmp 141], argTypes := #[3] }, some 142, none, [35, 25]),
  (Op.binOp BinOp.add 9 (Operand.const (Value.string { data := #[23] })) (Operand.tmp 142) 9, some 143, none, [36]),
  (Op.move (Operand.tmp 11), some 144, none, []),
  (Op.call { callee := Callee.value (Operand.func 26), args := #[Operand.tmp 144], argTypes := #[3] }, some 145, none, [38, 36]),
  (Op.binOp BinOp.add 9 (Operand.tmp 143) (Operand.tmp 145) 9, some 146, none, [37, 39]),
  (Op.move (Operand.tmp 10), some 147, none, []),
  (Op.call { callee := Callee.value (Operand.func 26), args := #[Operand.tmp 147], argTypes := #[3] }, some 148, none, [41, 39]),
  (Op.binOp BinOp.add 9 (Operand.tmp 146) (Operand.tmp 148) 9, some 149, none, [40, 42]),
  (Op.move (Operand.tmp 18), some 150, none, []),
  (Op.call { callee := Callee.value (Operand.func 26), args := #[Operand.tmp 150], argTypes := #[3] }, some 151, none, [44, 42]),
  (Op.binOp BinOp.add 9 (Operand.tmp 149) (Operand.tmp 151) 9, some 152, none, [43, 45]),
  (Op.move (Operand.tmp 18), some 153, none, []),
  (Op.binOp BinOp.mul 3 (Operand.const (Value.int IntKind.i64 2)) (Operand.tmp 153) 3, some 154, none, [47]),
  (Op.convert 3 5 (Operand.tmp 154), some 155, none, [48]),
  (Op.buildSlice 45 1 #[(0, Operand.tmp 155)], some 156, none, [49]),
  (Op.convert 45 9 (Operand.tmp 156), some 157, none, [50]),
  (Op.binOp BinOp.add 9 (Operand.tmp 152) (Operand.tmp 157) 9, some 158, none, [46, 51]),
  (Op.move (Operand.tmp 14), some 159, none, []),
  (Op.binOp BinOp.add 9 (Operand.tmp 158) (Operand.tmp 159) 9, some 160, none, [52, 53]),
  (Op.move (Operand.tmp 9), some 161, none, []),
  (Op.call { callee := Callee.value (Operand.func 26), args := #[Operand.tmp 161], argTypes := #[3] }, some 162, none, [55, 45]),
  (Op.binOp BinOp.add 9 (Operand.const (Value.string { data := #[22] })) (Operand.tmp 162) 9, some 163, none, [56]),
  (Op.move (Operand.tmp 10), some 164, none, []),
  (Op.call { callee := Callee.value (Operand.func 26), args := #[Operand.tmp 164], argTypes := #[3] }, some 165, none, [58, 56]),
  (Op.binOp BinOp.add 9 (Operand.tmp 163) (Operand.tmp 165) 9, some 166, none, [57, 59]),
  (Op.move (Operand.tmp 11), some 167, none, []),
  (Op.call { callee := Callee.value (Operand.func 26), args := #[Operand.tmp 167], argTypes := #[3] }, some 168, none, [61, 59]),
  (Op.binOp BinOp.add 9 (Operand.tmp 166) (Operand.tmp 168) 9, some 169, none, [60, 62]),
  (Op.buildSlice 32 5 #[(0, Operand.tmp 111), (1, Operand.tmp 126), (2, Operand.tmp 140), (3, Operand.tmp 160), (4, Operand.tmp 169)], some 170, none, [5, 20, 34, 54, 63]),
  (Op.assign (Operand.tmp 170), some 19, none, [64, 62, 0, 1, 2, 3, 4, 5, 6, 7, 8, 9, 10, 11, 12, 13, 14, 15, 16, 17, 18, 19, 20, 21, 22, 23, 24, 25, 26, 27, 28, 29, 30, 31, 32, 33, 34, 35, 36, 37, 38, 39, 40, 41, 42, 43, 44, 45, 46, 47, 48, 49, 50, 51, 52, 53, 54, 55, 56, 57, 58, 59, 60, 61, 62, 63, 64])]
def dl22 : List Nat := [106, 107, 108, 109, 110, 111, 112, 113, 114, 115, 116, 117, 118, 119, 120, 121, 122, 123, 124, 125, 126, 127, 128, 129, 130, 131, 132, 133, 134, 135, 136, 137, 138, 139, 140, 141, 142, 143, 144, 145, 146, 147, 148, 149, 150, 151, 152, 153, 154, 155, 156, 157, 158, 159, 160, 161, 162, 163, 164, 165, 166, 167, 168, 169, 170, 19]
def dst22 (i : Nat) : Nat := dl22.getD i 0
theorem dl22_inj : ∀ i, i < 66 → ∀ j, j < 66 → dst22 i = dst22 j → i = j := by decide +kernel
theorem dl22_lt : ∀ i, i < 66 → dst22 i < 303 := by decide +kernel
theorem on22 : ∀ i, i < 66 → ∀ n ∈ ((tab22.map (·.2.2.2)).getD i []), n < i := by decide +kernel
theorem tab22_dst : tab22.map (·.2.1) = dl22.map some := rfl
theorem tab22_guard : tab22.map (·.2.2.1) = List.replicate 66 none := rfl
/-- What holds of an operation's slot once it has come up. -/
def specs22 (x y c m pl gp B0 : Nat) (Bs PB : ByteArray) : List (Value → World → Prop) := [
  fun v _ => v = .int .i64 (x : Nat),
  fun v _ => v = .string (twoB x),
  fun v _ => v = .string (((⟨#[3]⟩ : ByteArray) ++ twoB x)),
  fun v _ => v = .int .i64 (c : Nat),
  fun v _ => v = .string (twoB c),
  fun v _ => v = .string ((((⟨#[3]⟩ : ByteArray) ++ twoB x) ++ twoB c)),
  fun v _ => v = .int .i64 (x : Nat),
  fun v _ => v = .string (twoB x),
  fun v _ => v = .string (((⟨#[15]⟩ : ByteArray) ++ twoB x)),
  fun v _ => v = .int .i64 (m : Nat),
  fun v _ => v = .string (twoB m),
  fun v _ => v = .string ((((⟨#[15]⟩ : ByteArray) ++ twoB x) ++ twoB m)),
  fun v _ => v = .slice (some ⟨gp, 0, none⟩) pl pl,
  fun v _ => v = .int .i64 (pl : Nat),
  fun v _ => v = .int .u8 (pl : Nat),
  fun v w => ∃ g, v = .slice (some ⟨g, 0, none⟩) 1 1 ∧ g < w.heap.size ∧ w.cell? ⟨g, 0, none⟩ = some (.int .u8 (pl : Nat)),
  fun v _ => v = .string (oneB (pl : Nat)),
  fun v _ => v = .string (((((⟨#[15]⟩ : ByteArray) ++ twoB x) ++ twoB m) ++ oneB (pl : Nat))),
  fun v _ => v = .slice (some ⟨gp, 0, none⟩) pl pl,
  fun v _ => v = .string (PB),
  fun v _ => v = .string ((((((⟨#[15]⟩ : ByteArray) ++ twoB x) ++ twoB m) ++ oneB (pl : Nat)) ++ PB)),
  fun v _ => v = .int .i64 (x : Nat),
  fun v _ => v = .string (twoB x),
  fun v _ => v = .string (((⟨#[16]⟩ : ByteArray) ++ twoB x)),
  fun v _ => v = .int .i64 (m : Nat),
  fun v _ => v = .string (twoB m),
  fun v _ => v = .string ((((⟨#[16]⟩ : ByteArray) ++ twoB x) ++ twoB m)),
  fun v _ => v = .int .i64 (m : Nat),
  fun v _ => v = .int .i64 (2 * m : Nat),
  fun v _ => v = .int .u8 (2 * m : Nat),
  fun v w => ∃ g, v = .slice (some ⟨g, 0, none⟩) 1 1 ∧ g < w.heap.size ∧ w.cell? ⟨g, 0, none⟩ = some (.int .u8 (2 * m : Nat)),
  fun v _ => v = .string (oneB (2 * m : Nat)),
  fun v _ => v = .string (((((⟨#[16]⟩ : ByteArray) ++ twoB x) ++ twoB m) ++ oneB (2 * m : Nat))),
  fun v _ => v = .string (Bs),
  fun v _ => v = .string ((((((⟨#[16]⟩ : ByteArray) ++ twoB x) ++ twoB m) ++ oneB (2 * m : Nat)) ++ Bs)),
  fun v _ => v = .int .i64 (x : Nat),
  fun v _ => v = .string (twoB x),
  fun v _ => v = .string (((⟨#[23]⟩ : ByteArray) ++ twoB x)),
  fun v _ => v = .int .i64 (c : Nat),
  fun v _ => v = .string (twoB c),
  fun v _ => v = .string ((((⟨#[23]⟩ : ByteArray) ++ twoB x) ++ twoB c)),
  fun v _ => v = .int .i64 (y : Nat),
  fun v _ => v = .string (twoB y),
  fun v _ => v = .string (((((⟨#[23]⟩ : ByteArray) ++ twoB x) ++ twoB c) ++ twoB y)),
  fun v _ => v = .int .i64 (m : Nat),
  fun v _ => v = .string (twoB m),
  fun v _ => v = .string ((((((⟨#[23]⟩ : ByteArray) ++ twoB x) ++ twoB c) ++ twoB y) ++ twoB m)),
  fun v _ => v = .int .i64 (m : Nat),
  fun v _ => v = .int .i64 (2 * m : Nat),
  fun v _ => v = .int .u8 (2 * m : Nat),
  fun v w => ∃ g, v = .slice (some ⟨g, 0, none⟩) 1 1 ∧ g < w.heap.size ∧ w.cell? ⟨g, 0, none⟩ = some (.int .u8 (2 * m : Nat)),
  fun v _ => v = .string (oneB (2 * m : Nat)),
  fun v _ => v = .string (((((((⟨#[23]⟩ : ByteArray) ++ twoB x) ++ twoB c) ++ twoB y) ++ twoB m) ++ oneB (2 * m : Nat))),
  fun v _ => v = .string (Bs),
  fun v _ => v = .string ((((((((⟨#[23]⟩ : ByteArray) ++ twoB x) ++ twoB c) ++ twoB y) ++ twoB m) ++ oneB (2 * m : Nat)) ++ Bs)),
  fun v _ => v = .int .i64 (x : Nat),
  fun v _ => v = .string (twoB x),
  fun v _ => v = .string (((⟨#[22]⟩ : ByteArray) ++ twoB x)),
  fun v _ => v = .int .i64 (y : Nat),
  fun v _ => v = .string (twoB y),
  fun v _ => v = .string ((((⟨#[22]⟩ : ByteArray) ++ twoB x) ++ twoB y)),
  fun v _ => v = .int .i64 (c : Nat),
  fun v _ => v = .string (twoB c),
  fun v _ => v = .string (((((⟨#[22]⟩ : ByteArray) ++ twoB x) ++ twoB y) ++ twoB c)),
  fun v w => ∃ g, v = .slice (some ⟨g, 0, none⟩) 5 5 ∧ B0 ≤ g ∧ w.heap[g]? = some (.cells #[.string ((((⟨#[3]⟩ : ByteArray) ++ twoB x) ++ twoB c)), .string ((((((⟨#[15]⟩ : ByteArray) ++ twoB x) ++ twoB m) ++ oneB (pl : Nat)) ++ PB)), .string ((((((⟨#[16]⟩ : ByteArray) ++ twoB x) ++ twoB m) ++ oneB (2 * m : Nat)) ++ Bs)), .string ((((((((⟨#[23]⟩ : ByteArray) ++ twoB x) ++ twoB c) ++ twoB y) ++ twoB m) ++ oneB (2 * m : Nat)) ++ Bs)), .string (((((⟨#[22]⟩ : ByteArray) ++ twoB x) ++ twoB y) ++ twoB c))] 9 (0, 0)),
  fun v w => ∃ g, v = .slice (some ⟨g, 0, none⟩) 5 5 ∧ B0 ≤ g ∧ w.heap[g]? = some (.cells #[.string ((((⟨#[3]⟩ : ByteArray) ++ twoB x) ++ twoB c)), .string ((((((⟨#[15]⟩ : ByteArray) ++ twoB x) ++ twoB m) ++ oneB (pl : Nat)) ++ PB)), .string ((((((⟨#[16]⟩ : ByteArray) ++ twoB x) ++ twoB m) ++ oneB (2 * m : Nat)) ++ Bs)), .string ((((((((⟨#[23]⟩ : ByteArray) ++ twoB x) ++ twoB c) ++ twoB y) ++ twoB m) ++ oneB (2 * m : Nat)) ++ Bs)), .string (((((⟨#[22]⟩ : ByteArray) ++ twoB x) ++ twoB y) ++ twoB c))] 9 (0, 0))]
def S22 (x y c m pl gp B0 : Nat) (Bs PB : ByteArray) (i : Nat) (v : Value) (w : World) : Prop := ((specs22 x y c m pl gp B0 Bs PB)[i]?).elim True (fun p => p v w)
theorem dl22_ge : ∀ j, j < 66 → 19 ≤ dst22 j := by decide +kernel
theorem dl22_in : ∀ j, j < 66 → dst22 j = 19 ∨ (106 ≤ dst22 j ∧ dst22 j ≤ 170) := by decide +kernel
theorem kp_pure (u : Value) : ∀ (v : Value) (w w' : World), Below w.heap.size w w' → (fun v (_ : World) => v = u) v w → (fun v (_ : World) => v = u) v w' := fun _ _ _ _ h => h
def Kp (p : Value → World → Prop) : Prop := ∀ v w w', Below w.heap.size w w' → p v w → p v w'
theorem Kp.pure (u : Value) : Kp (fun v _ => v = u) := fun _ _ _ _ h => h
theorem Kp.byte (z : Int) : Kp (fun v w => ∃ g, v = .slice (some ⟨g, 0, none⟩) 1 1 ∧ g < w.heap.size ∧ w.cell? ⟨g, 0, none⟩ = some (.int .u8 z)) :=
  fun _ _ _ hb ⟨g, h1, h2, h3⟩ => ⟨g, h1, Nat.lt_of_lt_of_le h2 hb.size, (hb.cell (p := ⟨g, 0, none⟩) h2).trans h3⟩
theorem Kp.five (B0 : Nat) (ob : Obj) : Kp (fun v w => ∃ g, v = .slice (some ⟨g, 0, none⟩) 5 5 ∧ B0 ≤ g ∧ w.heap[g]? = some ob) :=
  fun _ w _ hb ⟨g, h1, h2, h3⟩ => ⟨g, h1, h2, (hb.block g (by
    rcases Nat.lt_or_ge g w.heap.size with h | h
    · exact h
    · rw [Array.getElem?_eq_none h] at h3; exact absurd h3 (by simp))).trans h3⟩
theorem specs22_keep (x y c m pl gp B0 : Nat) (Bs PB : ByteArray) : ∀ p ∈ specs22 x y c m pl gp B0 Bs PB, Kp p := by
  simp only [specs22, List.forall_mem_cons]
  exact ⟨Kp.pure _, Kp.pure _, Kp.pure _, Kp.pure _, Kp.pure _, Kp.pure _, Kp.pure _, Kp.pure _, Kp.pure _, Kp.pure _, Kp.pure _, Kp.pure _, Kp.pure _, Kp.pure _, Kp.pure _, Kp.byte _, Kp.pure _, Kp.pure _, Kp.pure _, Kp.pure _, Kp.pure _, Kp.pure _, Kp.pure _, Kp.pure _, Kp.pure _, Kp.pure _, Kp.pure _, Kp.pure _, Kp.pure _, Kp.pure _, Kp.byte _, Kp.pure _, Kp.pure _, Kp.pure _, Kp.pure _, Kp.pure _, Kp.pure _, Kp.pure _, Kp.pure _, Kp.pure _, Kp.pure _, Kp.pure _, Kp.pure _, Kp.pure _, Kp.pure _, Kp.pure _, Kp.pure _, Kp.pure _, Kp.pure _, Kp.pure _, Kp.byte _, Kp.pure _, Kp.pure _, Kp.pure _, Kp.pure _, Kp.pure _, Kp.pure _, Kp.pure _, Kp.pure _, Kp.pure _, Kp.pure _, Kp.pure _, Kp.pure _, Kp.pure _, Kp.five _ _, Kp.five _ _, by simp⟩
theorem S22_keep (x y c m pl gp B0 : Nat) (Bs PB : ByteArray) (i : Nat) (v : Value) (w w' : World) (hb : Below w.heap.size w w') (h : S22 x y c m pl gp B0 Bs PB i v w) : S22 x y c m pl gp B0 Bs PB i v w' := by
  unfold S22 at h ⊢
  cases hp : (specs22 x y c m pl gp B0 Bs PB)[i]? with
  | none => trivial
  | some p =>
    rw [hp] at h
    exact specs22_keep x y c m pl gp B0 Bs PB p (List.mem_of_getElem? hp) v w w' hb h
theorem ev_of {a : Act} {k : Nat} {v : Value} (h : a.tmps[k]? = some v) : a.eval (.tmp k) = v := by simp [Act.eval, h]
/-- What the operations find. -/
structure Ctx22 (a : Act) (w : World) (x y c m pl gp B0 : Nat) (Bs PB : ByteArray) : Prop where
  h9 : a.eval (.tmp 9) = .int .i64 (x : Nat)
  h10 : a.eval (.tmp 10) = .int .i64 (y : Nat)
  h11 : a.eval (.tmp 11) = .int .i64 (c : Nat)
  h14 : a.eval (.tmp 14) = .string Bs
  h16 : a.eval (.tmp 16) = .slice (some ⟨gp, 0, none⟩) pl pl
  h18 : a.eval (.tmp 18) = .int .i64 (m : Nat)
  hx : x < 65536
  hy : y < 65536
  hc : c < 65536
  hm : m ≤ 100
  hpl : pl ≤ 13
  hB : Bs.size ≤ 200
  hP : PB.size = pl
  hB0 : B0 ≤ w.heap.size
  hconv : (convert 45 9 (.slice (some ⟨gp, 0, none⟩) pl pl)).run Try.prog w = .ok (.string PB) w
theorem sz2 (n : Nat) : (twoB n).size = 2 := rfl
theorem sz1 (n : Nat) : (oneB n).size = 1 := rfl
theorem szl (b : UInt8) : (⟨#[b]⟩ : ByteArray).size = 1 := rfl
theorem op22_0 {o : Oper} {a : Act} {w : World} {Q : Exit → Act → World → Prop} {x y c m pl gp B0 : Nat} {Bs PB : ByteArray} (hc : Ctx22 a w x y c m pl gp B0 Bs PB) (hop : o.op = Op.move (Operand.tmp 9)) (_hd : ∀ n ∈ ([] : List Nat), ∃ v, a.tmps[dst22 n]? = some v ∧ S22 x y c m pl gp B0 Bs PB n v w) :
    o.wp Try.prog a w (fun a' w' => ∃ v, a' = a.put o.dst v ∧ S22 x y c m pl gp B0 Bs PB 0 v w' ∧ Below w.heap.size w w') Q := by
  exact op_move _ _ hop hc.h9 ⟨_, rfl, rfl, Below.refl _ _⟩
theorem op22_1 {o : Oper} {a : Act} {w : World} {Q : Exit → Act → World → Prop} {x y c m pl gp B0 : Nat} {Bs PB : ByteArray} (hc : Ctx22 a w x y c m pl gp B0 Bs PB) (hop : o.op = Op.call { callee := Callee.value (Operand.func 26), args := #[Operand.tmp 106], argTypes := #[3] }) (hd : ∀ n ∈ ([0] : List Nat), ∃ v, a.tmps[dst22 n]? = some v ∧ S22 x y c m pl gp B0 Bs PB n v w) :
    o.wp Try.prog a w (fun a' w' => ∃ v, a' = a.put o.dst v ∧ S22 x y c m pl gp B0 Bs PB 1 v w' ∧ Below w.heap.size w w') Q := by
  obtain ⟨v106, hv106, hs106⟩ := hd 0 (by decide)
  have e106 := ev_of hv106
  obtain rfl : v106 = .int .i64 (x : Nat) := hs106
  exact op_two _ x hop e106 hc.hx (fun w' hb => ⟨_, rfl, rfl, hb⟩)
theorem op22_2 {o : Oper} {a : Act} {w : World} {Q : Exit → Act → World → Prop} {x y c m pl gp B0 : Nat} {Bs PB : ByteArray} (_hc : Ctx22 a w x y c m pl gp B0 Bs PB) (hop : o.op = Op.binOp BinOp.add 9 (Operand.const (Value.string { data := #[3] })) (Operand.tmp 107) 9) (hd : ∀ n ∈ ([1] : List Nat), ∃ v, a.tmps[dst22 n]? = some v ∧ S22 x y c m pl gp B0 Bs PB n v w) :
    o.wp Try.prog a w (fun a' w' => ∃ v, a' = a.put o.dst v ∧ S22 x y c m pl gp B0 Bs PB 2 v w' ∧ Below w.heap.size w w') Q := by
  obtain ⟨v107, hv107, hs107⟩ := hd 1 (by decide)
  have e107 := ev_of hv107
  obtain rfl : v107 = .string (twoB x) := hs107
  have hsz : ((⟨#[3]⟩ : ByteArray) : ByteArray).size + (twoB x : ByteArray).size ≤ 1000000 := by
    simp only [sz2, szl]
    omega
  exact op_add _ _ (⟨#[3]⟩ : ByteArray) (twoB x) hop rfl e107 hsz ⟨_, rfl, rfl, Below.refl _ _⟩
theorem op22_3 {o : Oper} {a : Act} {w : World} {Q : Exit → Act → World → Prop} {x y c m pl gp B0 : Nat} {Bs PB : ByteArray} (hc : Ctx22 a w x y c m pl gp B0 Bs PB) (hop : o.op = Op.move (Operand.tmp 11)) (_hd : ∀ n ∈ ([] : List Nat), ∃ v, a.tmps[dst22 n]? = some v ∧ S22 x y c m pl gp B0 Bs PB n v w) :
    o.wp Try.prog a w (fun a' w' => ∃ v, a' = a.put o.dst v ∧ S22 x y c m pl gp B0 Bs PB 3 v w' ∧ Below w.heap.size w w') Q := by
  exact op_move _ _ hop hc.h11 ⟨_, rfl, rfl, Below.refl _ _⟩
theorem op22_4 {o : Oper} {a : Act} {w : World} {Q : Exit → Act → World → Prop} {x y c m pl gp B0 : Nat} {Bs PB : ByteArray} (hc : Ctx22 a w x y c m pl gp B0 Bs PB) (hop : o.op = Op.call { callee := Callee.value (Operand.func 26), args := #[Operand.tmp 109], argTypes := #[3] }) (hd : ∀ n ∈ ([3, 1] : List Nat), ∃ v, a.tmps[dst22 n]? = some v ∧ S22 x y c m pl gp B0 Bs PB n v w) :
    o.wp Try.prog a w (fun a' w' => ∃ v, a' = a.put o.dst v ∧ S22 x y c m pl gp B0 Bs PB 4 v w' ∧ Below w.heap.size w w') Q := by
  obtain ⟨v109, hv109, hs109⟩ := hd 3 (by decide)
  have e109 := ev_of hv109
  obtain rfl : v109 = .int .i64 (c : Nat) := hs109
  exact op_two _ c hop e109 hc.hc (fun w' hb => ⟨_, rfl, rfl, hb⟩)
theorem op22_5 {o : Oper} {a : Act} {w : World} {Q : Exit → Act → World → Prop} {x y c m pl gp B0 : Nat} {Bs PB : ByteArray} (_hc : Ctx22 a w x y c m pl gp B0 Bs PB) (hop : o.op = Op.binOp BinOp.add 9 (Operand.tmp 108) (Operand.tmp 110) 9) (hd : ∀ n ∈ ([2, 4] : List Nat), ∃ v, a.tmps[dst22 n]? = some v ∧ S22 x y c m pl gp B0 Bs PB n v w) :
    o.wp Try.prog a w (fun a' w' => ∃ v, a' = a.put o.dst v ∧ S22 x y c m pl gp B0 Bs PB 5 v w' ∧ Below w.heap.size w w') Q := by
  obtain ⟨v108, hv108, hs108⟩ := hd 2 (by decide)
  have e108 := ev_of hv108
  obtain rfl : v108 = .string (((⟨#[3]⟩ : ByteArray) ++ twoB x)) := hs108
  obtain ⟨v110, hv110, hs110⟩ := hd 4 (by decide)
  have e110 := ev_of hv110
  obtain rfl : v110 = .string (twoB c) := hs110
  have hsz : (((⟨#[3]⟩ : ByteArray) ++ twoB x) : ByteArray).size + (twoB c : ByteArray).size ≤ 1000000 := by
    simp only [ByteArray.size_append, sz2, szl]
    omega
  exact op_add _ _ ((⟨#[3]⟩ : ByteArray) ++ twoB x) (twoB c) hop e108 e110 hsz ⟨_, rfl, rfl, Below.refl _ _⟩
theorem op22_6 {o : Oper} {a : Act} {w : World} {Q : Exit → Act → World → Prop} {x y c m pl gp B0 : Nat} {Bs PB : ByteArray} (hc : Ctx22 a w x y c m pl gp B0 Bs PB) (hop : o.op = Op.move (Operand.tmp 9)) (_hd : ∀ n ∈ ([] : List Nat), ∃ v, a.tmps[dst22 n]? = some v ∧ S22 x y c m pl gp B0 Bs PB n v w) :
    o.wp Try.prog a w (fun a' w' => ∃ v, a' = a.put o.dst v ∧ S22 x y c m pl gp B0 Bs PB 6 v w' ∧ Below w.heap.size w w') Q := by
  exact op_move _ _ hop hc.h9 ⟨_, rfl, rfl, Below.refl _ _⟩
theorem op22_7 {o : Oper} {a : Act} {w : World} {Q : Exit → Act → World → Prop} {x y c m pl gp B0 : Nat} {Bs PB : ByteArray} (hc : Ctx22 a w x y c m pl gp B0 Bs PB) (hop : o.op = Op.call { callee := Callee.value (Operand.func 26), args := #[Operand.tmp 112], argTypes := #[3] }) (hd : ∀ n ∈ ([6, 4] : List Nat), ∃ v, a.tmps[dst22 n]? = some v ∧ S22 x y c m pl gp B0 Bs PB n v w) :
    o.wp Try.prog a w (fun a' w' => ∃ v, a' = a.put o.dst v ∧ S22 x y c m pl gp B0 Bs PB 7 v w' ∧ Below w.heap.size w w') Q := by
  obtain ⟨v112, hv112, hs112⟩ := hd 6 (by decide)
  have e112 := ev_of hv112
  obtain rfl : v112 = .int .i64 (x : Nat) := hs112
  exact op_two _ x hop e112 hc.hx (fun w' hb => ⟨_, rfl, rfl, hb⟩)
theorem op22_8 {o : Oper} {a : Act} {w : World} {Q : Exit → Act → World → Prop} {x y c m pl gp B0 : Nat} {Bs PB : ByteArray} (_hc : Ctx22 a w x y c m pl gp B0 Bs PB) (hop : o.op = Op.binOp BinOp.add 9 (Operand.const (Value.string { data := #[15] })) (Operand.tmp 113) 9) (hd : ∀ n ∈ ([7] : List Nat), ∃ v, a.tmps[dst22 n]? = some v ∧ S22 x y c m pl gp B0 Bs PB n v w) :
    o.wp Try.prog a w (fun a' w' => ∃ v, a' = a.put o.dst v ∧ S22 x y c m pl gp B0 Bs PB 8 v w' ∧ Below w.heap.size w w') Q := by
  obtain ⟨v113, hv113, hs113⟩ := hd 7 (by decide)
  have e113 := ev_of hv113
  obtain rfl : v113 = .string (twoB x) := hs113
  have hsz : ((⟨#[15]⟩ : ByteArray) : ByteArray).size + (twoB x : ByteArray).size ≤ 1000000 := by
    simp only [sz2, szl]
    omega
  exact op_add _ _ (⟨#[15]⟩ : ByteArray) (twoB x) hop rfl e113 hsz ⟨_, rfl, rfl, Below.refl _ _⟩
theorem op22_9 {o : Oper} {a : Act} {w : World} {Q : Exit → Act → World → Prop} {x y c m pl gp B0 : Nat} {Bs PB : ByteArray} (hc : Ctx22 a w x y c m pl gp B0 Bs PB) (hop : o.op = Op.move (Operand.tmp 18)) (_hd : ∀ n ∈ ([] : List Nat), ∃ v, a.tmps[dst22 n]? = some v ∧ S22 x y c m pl gp B0 Bs PB n v w) :
    o.wp Try.prog a w (fun a' w' => ∃ v, a' = a.put o.dst v ∧ S22 x y c m pl gp B0 Bs PB 9 v w' ∧ Below w.heap.size w w') Q := by
  exact op_move _ _ hop hc.h18 ⟨_, rfl, rfl, Below.refl _ _⟩
theorem op22_10 {o : Oper} {a : Act} {w : World} {Q : Exit → Act → World → Prop} {x y c m pl gp B0 : Nat} {Bs PB : ByteArray} (hc : Ctx22 a w x y c m pl gp B0 Bs PB) (hop : o.op = Op.call { callee := Callee.value (Operand.func 26), args := #[Operand.tmp 115], argTypes := #[3] }) (hd : ∀ n ∈ ([9, 7] : List Nat), ∃ v, a.tmps[dst22 n]? = some v ∧ S22 x y c m pl gp B0 Bs PB n v w) :
    o.wp Try.prog a w (fun a' w' => ∃ v, a' = a.put o.dst v ∧ S22 x y c m pl gp B0 Bs PB 10 v w' ∧ Below w.heap.size w w') Q := by
  obtain ⟨v115, hv115, hs115⟩ := hd 9 (by decide)
  have e115 := ev_of hv115
  obtain rfl : v115 = .int .i64 (m : Nat) := hs115
  exact op_two _ m hop e115 (by have := hc.hm; omega) (fun w' hb => ⟨_, rfl, rfl, hb⟩)
theorem op22_11 {o : Oper} {a : Act} {w : World} {Q : Exit → Act → World → Prop} {x y c m pl gp B0 : Nat} {Bs PB : ByteArray} (_hc : Ctx22 a w x y c m pl gp B0 Bs PB) (hop : o.op = Op.binOp BinOp.add 9 (Operand.tmp 114) (Operand.tmp 116) 9) (hd : ∀ n ∈ ([8, 10] : List Nat), ∃ v, a.tmps[dst22 n]? = some v ∧ S22 x y c m pl gp B0 Bs PB n v w) :
    o.wp Try.prog a w (fun a' w' => ∃ v, a' = a.put o.dst v ∧ S22 x y c m pl gp B0 Bs PB 11 v w' ∧ Below w.heap.size w w') Q := by
  obtain ⟨v114, hv114, hs114⟩ := hd 8 (by decide)
  have e114 := ev_of hv114
  obtain rfl : v114 = .string (((⟨#[15]⟩ : ByteArray) ++ twoB x)) := hs114
  obtain ⟨v116, hv116, hs116⟩ := hd 10 (by decide)
  have e116 := ev_of hv116
  obtain rfl : v116 = .string (twoB m) := hs116
  have hsz : (((⟨#[15]⟩ : ByteArray) ++ twoB x) : ByteArray).size + (twoB m : ByteArray).size ≤ 1000000 := by
    simp only [ByteArray.size_append, sz2, szl]
    omega
  exact op_add _ _ ((⟨#[15]⟩ : ByteArray) ++ twoB x) (twoB m) hop e114 e116 hsz ⟨_, rfl, rfl, Below.refl _ _⟩
theorem op22_12 {o : Oper} {a : Act} {w : World} {Q : Exit → Act → World → Prop} {x y c m pl gp B0 : Nat} {Bs PB : ByteArray} (hc : Ctx22 a w x y c m pl gp B0 Bs PB) (hop : o.op = Op.move (Operand.tmp 16)) (_hd : ∀ n ∈ ([] : List Nat), ∃ v, a.tmps[dst22 n]? = some v ∧ S22 x y c m pl gp B0 Bs PB n v w) :
    o.wp Try.prog a w (fun a' w' => ∃ v, a' = a.put o.dst v ∧ S22 x y c m pl gp B0 Bs PB 12 v w' ∧ Below w.heap.size w w') Q := by
  exact op_move _ _ hop hc.h16 ⟨_, rfl, rfl, Below.refl _ _⟩
theorem op22_13 {o : Oper} {a : Act} {w : World} {Q : Exit → Act → World → Prop} {x y c m pl gp B0 : Nat} {Bs PB : ByteArray} (_hc : Ctx22 a w x y c m pl gp B0 Bs PB) (hop : o.op = Op.call { callee := Callee.builtin Builtin.len, args := #[Operand.tmp 118], argTypes := #[45] }) (hd : ∀ n ∈ ([12] : List Nat), ∃ v, a.tmps[dst22 n]? = some v ∧ S22 x y c m pl gp B0 Bs PB n v w) :
    o.wp Try.prog a w (fun a' w' => ∃ v, a' = a.put o.dst v ∧ S22 x y c m pl gp B0 Bs PB 13 v w' ∧ Below w.heap.size w w') Q := by
  obtain ⟨v118, hv118, hs118⟩ := hd 12 (by decide)
  have e118 := ev_of hv118
  obtain rfl : v118 = .slice (some ⟨gp, 0, none⟩) pl pl := hs118
  exact op_len _ _ _ _ hop e118 ⟨_, rfl, rfl, Below.refl _ _⟩
theorem op22_14 {o : Oper} {a : Act} {w : World} {Q : Exit → Act → World → Prop} {x y c m pl gp B0 : Nat} {Bs PB : ByteArray} (hc : Ctx22 a w x y c m pl gp B0 Bs PB) (hop : o.op = Op.convert 3 5 (Operand.tmp 119)) (hd : ∀ n ∈ ([13] : List Nat), ∃ v, a.tmps[dst22 n]? = some v ∧ S22 x y c m pl gp B0 Bs PB n v w) :
    o.wp Try.prog a w (fun a' w' => ∃ v, a' = a.put o.dst v ∧ S22 x y c m pl gp B0 Bs PB 14 v w' ∧ Below w.heap.size w w') Q := by
  obtain ⟨v119, hv119, hs119⟩ := hd 13 (by decide)
  have e119 := ev_of hv119
  obtain rfl : v119 = .int .i64 (pl : Nat) := hs119
  have hw : IntKind.u8.wrap ((pl : Nat) : Int) = (pl : Nat) := by rw [IntKind.wrap_u8]; have := hc.hpl; have := hc.hm; omega
  exact op_conv35 _ _ hop e119 ⟨_, rfl, (by rw [hw]; rfl), Below.refl _ _⟩
theorem op22_15 {o : Oper} {a : Act} {w : World} {Q : Exit → Act → World → Prop} {x y c m pl gp B0 : Nat} {Bs PB : ByteArray} (_hc : Ctx22 a w x y c m pl gp B0 Bs PB) (hop : o.op = Op.buildSlice 45 1 #[(0, Operand.tmp 120)]) (hd : ∀ n ∈ ([14] : List Nat), ∃ v, a.tmps[dst22 n]? = some v ∧ S22 x y c m pl gp B0 Bs PB n v w) :
    o.wp Try.prog a w (fun a' w' => ∃ v, a' = a.put o.dst v ∧ S22 x y c m pl gp B0 Bs PB 15 v w' ∧ Below w.heap.size w w') Q := by
  obtain ⟨v120, hv120, hs120⟩ := hd 14 (by decide)
  have e120 := ev_of hv120
  obtain rfl : v120 = .int .u8 (pl : Nat) := hs120
  exact op_byte _ _ hop e120 ⟨_, rfl, ⟨w.heap.size, rfl, by simp, by simp⟩, bel_alloc (Below.refl _ _) _⟩
theorem op22_16 {o : Oper} {a : Act} {w : World} {Q : Exit → Act → World → Prop} {x y c m pl gp B0 : Nat} {Bs PB : ByteArray} (_hc : Ctx22 a w x y c m pl gp B0 Bs PB) (hop : o.op = Op.convert 45 9 (Operand.tmp 121)) (hd : ∀ n ∈ ([15] : List Nat), ∃ v, a.tmps[dst22 n]? = some v ∧ S22 x y c m pl gp B0 Bs PB n v w) :
    o.wp Try.prog a w (fun a' w' => ∃ v, a' = a.put o.dst v ∧ S22 x y c m pl gp B0 Bs PB 16 v w' ∧ Below w.heap.size w w') Q := by
  obtain ⟨v121, hv121, hs121⟩ := hd 15 (by decide)
  obtain ⟨g121, rfl, hg121, hc121⟩ := hs121
  have e121 := ev_of hv121
  exact op_str _ _ (oneB (pl : Nat)) hop e121 (conv1_at w g121 _ hc121) ⟨_, rfl, rfl, Below.refl _ _⟩
theorem op22_17 {o : Oper} {a : Act} {w : World} {Q : Exit → Act → World → Prop} {x y c m pl gp B0 : Nat} {Bs PB : ByteArray} (_hc : Ctx22 a w x y c m pl gp B0 Bs PB) (hop : o.op = Op.binOp BinOp.add 9 (Operand.tmp 117) (Operand.tmp 122) 9) (hd : ∀ n ∈ ([11, 16] : List Nat), ∃ v, a.tmps[dst22 n]? = some v ∧ S22 x y c m pl gp B0 Bs PB n v w) :
    o.wp Try.prog a w (fun a' w' => ∃ v, a' = a.put o.dst v ∧ S22 x y c m pl gp B0 Bs PB 17 v w' ∧ Below w.heap.size w w') Q := by
  obtain ⟨v117, hv117, hs117⟩ := hd 11 (by decide)
  have e117 := ev_of hv117
  obtain rfl : v117 = .string ((((⟨#[15]⟩ : ByteArray) ++ twoB x) ++ twoB m)) := hs117
  obtain ⟨v122, hv122, hs122⟩ := hd 16 (by decide)
  have e122 := ev_of hv122
  obtain rfl : v122 = .string (oneB (pl : Nat)) := hs122
  have hsz : ((((⟨#[15]⟩ : ByteArray) ++ twoB x) ++ twoB m) : ByteArray).size + (oneB (pl : Nat) : ByteArray).size ≤ 1000000 := by
    simp only [ByteArray.size_append, sz2, sz1, szl]
    omega
  exact op_add _ _ (((⟨#[15]⟩ : ByteArray) ++ twoB x) ++ twoB m) (oneB (pl : Nat)) hop e117 e122 hsz ⟨_, rfl, rfl, Below.refl _ _⟩
theorem op22_18 {o : Oper} {a : Act} {w : World} {Q : Exit → Act → World → Prop} {x y c m pl gp B0 : Nat} {Bs PB : ByteArray} (hc : Ctx22 a w x y c m pl gp B0 Bs PB) (hop : o.op = Op.move (Operand.tmp 16)) (_hd : ∀ n ∈ ([] : List Nat), ∃ v, a.tmps[dst22 n]? = some v ∧ S22 x y c m pl gp B0 Bs PB n v w) :
    o.wp Try.prog a w (fun a' w' => ∃ v, a' = a.put o.dst v ∧ S22 x y c m pl gp B0 Bs PB 18 v w' ∧ Below w.heap.size w w') Q := by
  exact op_move _ _ hop hc.h16 ⟨_, rfl, rfl, Below.refl _ _⟩
theorem op22_19 {o : Oper} {a : Act} {w : World} {Q : Exit → Act → World → Prop} {x y c m pl gp B0 : Nat} {Bs PB : ByteArray} (hc : Ctx22 a w x y c m pl gp B0 Bs PB) (hop : o.op = Op.convert 45 9 (Operand.tmp 124)) (hd : ∀ n ∈ ([18] : List Nat), ∃ v, a.tmps[dst22 n]? = some v ∧ S22 x y c m pl gp B0 Bs PB n v w) :
    o.wp Try.prog a w (fun a' w' => ∃ v, a' = a.put o.dst v ∧ S22 x y c m pl gp B0 Bs PB 19 v w' ∧ Below w.heap.size w w') Q := by
  obtain ⟨v124, hv124, hs124⟩ := hd 18 (by decide)
  have e124 := ev_of hv124
  obtain rfl : v124 = .slice (some ⟨gp, 0, none⟩) pl pl := hs124
  exact op_str _ _ PB hop e124 hc.hconv ⟨_, rfl, rfl, Below.refl _ _⟩
theorem op22_20 {o : Oper} {a : Act} {w : World} {Q : Exit → Act → World → Prop} {x y c m pl gp B0 : Nat} {Bs PB : ByteArray} (hc : Ctx22 a w x y c m pl gp B0 Bs PB) (hop : o.op = Op.binOp BinOp.add 9 (Operand.tmp 123) (Operand.tmp 125) 9) (hd : ∀ n ∈ ([17, 19] : List Nat), ∃ v, a.tmps[dst22 n]? = some v ∧ S22 x y c m pl gp B0 Bs PB n v w) :
    o.wp Try.prog a w (fun a' w' => ∃ v, a' = a.put o.dst v ∧ S22 x y c m pl gp B0 Bs PB 20 v w' ∧ Below w.heap.size w w') Q := by
  obtain ⟨v123, hv123, hs123⟩ := hd 17 (by decide)
  have e123 := ev_of hv123
  obtain rfl : v123 = .string (((((⟨#[15]⟩ : ByteArray) ++ twoB x) ++ twoB m) ++ oneB (pl : Nat))) := hs123
  obtain ⟨v125, hv125, hs125⟩ := hd 19 (by decide)
  have e125 := ev_of hv125
  obtain rfl : v125 = .string (PB) := hs125
  have hsz : (((((⟨#[15]⟩ : ByteArray) ++ twoB x) ++ twoB m) ++ oneB (pl : Nat)) : ByteArray).size + (PB : ByteArray).size ≤ 1000000 := by
    simp only [ByteArray.size_append, sz2, sz1, szl]
    have := hc.hP
    have := hc.hpl
    omega
  exact op_add _ _ ((((⟨#[15]⟩ : ByteArray) ++ twoB x) ++ twoB m) ++ oneB (pl : Nat)) (PB) hop e123 e125 hsz ⟨_, rfl, rfl, Below.refl _ _⟩
theorem op22_21 {o : Oper} {a : Act} {w : World} {Q : Exit → Act → World → Prop} {x y c m pl gp B0 : Nat} {Bs PB : ByteArray} (hc : Ctx22 a w x y c m pl gp B0 Bs PB) (hop : o.op = Op.move (Operand.tmp 9)) (_hd : ∀ n ∈ ([] : List Nat), ∃ v, a.tmps[dst22 n]? = some v ∧ S22 x y c m pl gp B0 Bs PB n v w) :
    o.wp Try.prog a w (fun a' w' => ∃ v, a' = a.put o.dst v ∧ S22 x y c m pl gp B0 Bs PB 21 v w' ∧ Below w.heap.size w w') Q := by
  exact op_move _ _ hop hc.h9 ⟨_, rfl, rfl, Below.refl _ _⟩
theorem op22_22 {o : Oper} {a : Act} {w : World} {Q : Exit → Act → World → Prop} {x y c m pl gp B0 : Nat} {Bs PB : ByteArray} (hc : Ctx22 a w x y c m pl gp B0 Bs PB) (hop : o.op = Op.call { callee := Callee.value (Operand.func 26), args := #[Operand.tmp 127], argTypes := #[3] }) (hd : ∀ n ∈ ([21, 10] : List Nat), ∃ v, a.tmps[dst22 n]? = some v ∧ S22 x y c m pl gp B0 Bs PB n v w) :
    o.wp Try.prog a w (fun a' w' => ∃ v, a' = a.put o.dst v ∧ S22 x y c m pl gp B0 Bs PB 22 v w' ∧ Below w.heap.size w w') Q := by
  obtain ⟨v127, hv127, hs127⟩ := hd 21 (by decide)
  have e127 := ev_of hv127
  obtain rfl : v127 = .int .i64 (x : Nat) := hs127
  exact op_two _ x hop e127 hc.hx (fun w' hb => ⟨_, rfl, rfl, hb⟩)
theorem op22_23 {o : Oper} {a : Act} {w : World} {Q : Exit → Act → World → Prop} {x y c m pl gp B0 : Nat} {Bs PB : ByteArray} (_hc : Ctx22 a w x y c m pl gp B0 Bs PB) (hop : o.op = Op.binOp BinOp.add 9 (Operand.const (Value.string { data := #[16] })) (Operand.tmp 128) 9) (hd : ∀ n ∈ ([22] : List Nat), ∃ v, a.tmps[dst22 n]? = some v ∧ S22 x y c m pl gp B0 Bs PB n v w) :
    o.wp Try.prog a w (fun a' w' => ∃ v, a' = a.put o.dst v ∧ S22 x y c m pl gp B0 Bs PB 23 v w' ∧ Below w.heap.size w w') Q := by
  obtain ⟨v128, hv128, hs128⟩ := hd 22 (by decide)
  have e128 := ev_of hv128
  obtain rfl : v128 = .string (twoB x) := hs128
  have hsz : ((⟨#[16]⟩ : ByteArray) : ByteArray).size + (twoB x : ByteArray).size ≤ 1000000 := by
    simp only [sz2, szl]
    omega
  exact op_add _ _ (⟨#[16]⟩ : ByteArray) (twoB x) hop rfl e128 hsz ⟨_, rfl, rfl, Below.refl _ _⟩
theorem op22_24 {o : Oper} {a : Act} {w : World} {Q : Exit → Act → World → Prop} {x y c m pl gp B0 : Nat} {Bs PB : ByteArray} (hc : Ctx22 a w x y c m pl gp B0 Bs PB) (hop : o.op = Op.move (Operand.tmp 18)) (_hd : ∀ n ∈ ([] : List Nat), ∃ v, a.tmps[dst22 n]? = some v ∧ S22 x y c m pl gp B0 Bs PB n v w) :
    o.wp Try.prog a w (fun a' w' => ∃ v, a' = a.put o.dst v ∧ S22 x y c m pl gp B0 Bs PB 24 v w' ∧ Below w.heap.size w w') Q := by
  exact op_move _ _ hop hc.h18 ⟨_, rfl, rfl, Below.refl _ _⟩
theorem op22_25 {o : Oper} {a : Act} {w : World} {Q : Exit → Act → World → Prop} {x y c m pl gp B0 : Nat} {Bs PB : ByteArray} (hc : Ctx22 a w x y c m pl gp B0 Bs PB) (hop : o.op = Op.call { callee := Callee.value (Operand.func 26), args := #[Operand.tmp 130], argTypes := #[3] }) (hd : ∀ n ∈ ([24, 22] : List Nat), ∃ v, a.tmps[dst22 n]? = some v ∧ S22 x y c m pl gp B0 Bs PB n v w) :
    o.wp Try.prog a w (fun a' w' => ∃ v, a' = a.put o.dst v ∧ S22 x y c m pl gp B0 Bs PB 25 v w' ∧ Below w.heap.size w w') Q := by
  obtain ⟨v130, hv130, hs130⟩ := hd 24 (by decide)
  have e130 := ev_of hv130
  obtain rfl : v130 = .int .i64 (m : Nat) := hs130
  exact op_two _ m hop e130 (by have := hc.hm; omega) (fun w' hb => ⟨_, rfl, rfl, hb⟩)
theorem op22_26 {o : Oper} {a : Act} {w : World} {Q : Exit → Act → World → Prop} {x y c m pl gp B0 : Nat} {Bs PB : ByteArray} (_hc : Ctx22 a w x y c m pl gp B0 Bs PB) (hop : o.op = Op.binOp BinOp.add 9 (Operand.tmp 129) (Operand.tmp 131) 9) (hd : ∀ n ∈ ([23, 25] : List Nat), ∃ v, a.tmps[dst22 n]? = some v ∧ S22 x y c m pl gp B0 Bs PB n v w) :
    o.wp Try.prog a w (fun a' w' => ∃ v, a' = a.put o.dst v ∧ S22 x y c m pl gp B0 Bs PB 26 v w' ∧ Below w.heap.size w w') Q := by
  obtain ⟨v129, hv129, hs129⟩ := hd 23 (by decide)
  have e129 := ev_of hv129
  obtain rfl : v129 = .string (((⟨#[16]⟩ : ByteArray) ++ twoB x)) := hs129
  obtain ⟨v131, hv131, hs131⟩ := hd 25 (by decide)
  have e131 := ev_of hv131
  obtain rfl : v131 = .string (twoB m) := hs131
  have hsz : (((⟨#[16]⟩ : ByteArray) ++ twoB x) : ByteArray).size + (twoB m : ByteArray).size ≤ 1000000 := by
    simp only [ByteArray.size_append, sz2, szl]
    omega
  exact op_add _ _ ((⟨#[16]⟩ : ByteArray) ++ twoB x) (twoB m) hop e129 e131 hsz ⟨_, rfl, rfl, Below.refl _ _⟩
theorem op22_27 {o : Oper} {a : Act} {w : World} {Q : Exit → Act → World → Prop} {x y c m pl gp B0 : Nat} {Bs PB : ByteArray} (hc : Ctx22 a w x y c m pl gp B0 Bs PB) (hop : o.op = Op.move (Operand.tmp 18)) (_hd : ∀ n ∈ ([] : List Nat), ∃ v, a.tmps[dst22 n]? = some v ∧ S22 x y c m pl gp B0 Bs PB n v w) :
    o.wp Try.prog a w (fun a' w' => ∃ v, a' = a.put o.dst v ∧ S22 x y c m pl gp B0 Bs PB 27 v w' ∧ Below w.heap.size w w') Q := by
  exact op_move _ _ hop hc.h18 ⟨_, rfl, rfl, Below.refl _ _⟩
theorem op22_28 {o : Oper} {a : Act} {w : World} {Q : Exit → Act → World → Prop} {x y c m pl gp B0 : Nat} {Bs PB : ByteArray} (hc : Ctx22 a w x y c m pl gp B0 Bs PB) (hop : o.op = Op.binOp BinOp.mul 3 (Operand.const (Value.int IntKind.i64 2)) (Operand.tmp 133) 3) (hd : ∀ n ∈ ([27] : List Nat), ∃ v, a.tmps[dst22 n]? = some v ∧ S22 x y c m pl gp B0 Bs PB n v w) :
    o.wp Try.prog a w (fun a' w' => ∃ v, a' = a.put o.dst v ∧ S22 x y c m pl gp B0 Bs PB 28 v w' ∧ Below w.heap.size w w') Q := by
  obtain ⟨v133, hv133, hs133⟩ := hd 27 (by decide)
  have e133 := ev_of hv133
  obtain rfl : v133 = .int .i64 (m : Nat) := hs133
  have hw : IntKind.i64.wrap (2 * ((m : Nat) : Int)) = ((2 * m : Nat) : Int) := by rw [IntKind.wrap_i64]; have := hc.hm; omega
  exact op_mul _ _ 2 (m : Nat) hop rfl e133 ⟨_, rfl, (by rw [hw]; rfl), Below.refl _ _⟩
theorem op22_29 {o : Oper} {a : Act} {w : World} {Q : Exit → Act → World → Prop} {x y c m pl gp B0 : Nat} {Bs PB : ByteArray} (hc : Ctx22 a w x y c m pl gp B0 Bs PB) (hop : o.op = Op.convert 3 5 (Operand.tmp 134)) (hd : ∀ n ∈ ([28] : List Nat), ∃ v, a.tmps[dst22 n]? = some v ∧ S22 x y c m pl gp B0 Bs PB n v w) :
    o.wp Try.prog a w (fun a' w' => ∃ v, a' = a.put o.dst v ∧ S22 x y c m pl gp B0 Bs PB 29 v w' ∧ Below w.heap.size w w') Q := by
  obtain ⟨v134, hv134, hs134⟩ := hd 28 (by decide)
  have e134 := ev_of hv134
  obtain rfl : v134 = .int .i64 (2 * m : Nat) := hs134
  have hw : IntKind.u8.wrap ((2 * m : Nat) : Int) = (2 * m : Nat) := by rw [IntKind.wrap_u8]; have := hc.hpl; have := hc.hm; omega
  exact op_conv35 _ _ hop e134 ⟨_, rfl, (by rw [hw]; rfl), Below.refl _ _⟩
theorem op22_30 {o : Oper} {a : Act} {w : World} {Q : Exit → Act → World → Prop} {x y c m pl gp B0 : Nat} {Bs PB : ByteArray} (_hc : Ctx22 a w x y c m pl gp B0 Bs PB) (hop : o.op = Op.buildSlice 45 1 #[(0, Operand.tmp 135)]) (hd : ∀ n ∈ ([29] : List Nat), ∃ v, a.tmps[dst22 n]? = some v ∧ S22 x y c m pl gp B0 Bs PB n v w) :
    o.wp Try.prog a w (fun a' w' => ∃ v, a' = a.put o.dst v ∧ S22 x y c m pl gp B0 Bs PB 30 v w' ∧ Below w.heap.size w w') Q := by
  obtain ⟨v135, hv135, hs135⟩ := hd 29 (by decide)
  have e135 := ev_of hv135
  obtain rfl : v135 = .int .u8 (2 * m : Nat) := hs135
  exact op_byte _ _ hop e135 ⟨_, rfl, ⟨w.heap.size, rfl, by simp, by simp⟩, bel_alloc (Below.refl _ _) _⟩
theorem op22_31 {o : Oper} {a : Act} {w : World} {Q : Exit → Act → World → Prop} {x y c m pl gp B0 : Nat} {Bs PB : ByteArray} (_hc : Ctx22 a w x y c m pl gp B0 Bs PB) (hop : o.op = Op.convert 45 9 (Operand.tmp 136)) (hd : ∀ n ∈ ([30] : List Nat), ∃ v, a.tmps[dst22 n]? = some v ∧ S22 x y c m pl gp B0 Bs PB n v w) :
    o.wp Try.prog a w (fun a' w' => ∃ v, a' = a.put o.dst v ∧ S22 x y c m pl gp B0 Bs PB 31 v w' ∧ Below w.heap.size w w') Q := by
  obtain ⟨v136, hv136, hs136⟩ := hd 30 (by decide)
  obtain ⟨g136, rfl, hg136, hc136⟩ := hs136
  have e136 := ev_of hv136
  exact op_str _ _ (oneB (2 * m : Nat)) hop e136 (conv1_at w g136 _ hc136) ⟨_, rfl, rfl, Below.refl _ _⟩
theorem op22_32 {o : Oper} {a : Act} {w : World} {Q : Exit → Act → World → Prop} {x y c m pl gp B0 : Nat} {Bs PB : ByteArray} (_hc : Ctx22 a w x y c m pl gp B0 Bs PB) (hop : o.op = Op.binOp BinOp.add 9 (Operand.tmp 132) (Operand.tmp 137) 9) (hd : ∀ n ∈ ([26, 31] : List Nat), ∃ v, a.tmps[dst22 n]? = some v ∧ S22 x y c m pl gp B0 Bs PB n v w) :
    o.wp Try.prog a w (fun a' w' => ∃ v, a' = a.put o.dst v ∧ S22 x y c m pl gp B0 Bs PB 32 v w' ∧ Below w.heap.size w w') Q := by
  obtain ⟨v132, hv132, hs132⟩ := hd 26 (by decide)
  have e132 := ev_of hv132
  obtain rfl : v132 = .string ((((⟨#[16]⟩ : ByteArray) ++ twoB x) ++ twoB m)) := hs132
  obtain ⟨v137, hv137, hs137⟩ := hd 31 (by decide)
  have e137 := ev_of hv137
  obtain rfl : v137 = .string (oneB (2 * m : Nat)) := hs137
  have hsz : ((((⟨#[16]⟩ : ByteArray) ++ twoB x) ++ twoB m) : ByteArray).size + (oneB (2 * m : Nat) : ByteArray).size ≤ 1000000 := by
    simp only [ByteArray.size_append, sz2, sz1, szl]
    omega
  exact op_add _ _ (((⟨#[16]⟩ : ByteArray) ++ twoB x) ++ twoB m) (oneB (2 * m : Nat)) hop e132 e137 hsz ⟨_, rfl, rfl, Below.refl _ _⟩
theorem op22_33 {o : Oper} {a : Act} {w : World} {Q : Exit → Act → World → Prop} {x y c m pl gp B0 : Nat} {Bs PB : ByteArray} (hc : Ctx22 a w x y c m pl gp B0 Bs PB) (hop : o.op = Op.move (Operand.tmp 14)) (_hd : ∀ n ∈ ([] : List Nat), ∃ v, a.tmps[dst22 n]? = some v ∧ S22 x y c m pl gp B0 Bs PB n v w) :
    o.wp Try.prog a w (fun a' w' => ∃ v, a' = a.put o.dst v ∧ S22 x y c m pl gp B0 Bs PB 33 v w' ∧ Below w.heap.size w w') Q := by
  exact op_move _ _ hop hc.h14 ⟨_, rfl, rfl, Below.refl _ _⟩
theorem op22_34 {o : Oper} {a : Act} {w : World} {Q : Exit → Act → World → Prop} {x y c m pl gp B0 : Nat} {Bs PB : ByteArray} (hc : Ctx22 a w x y c m pl gp B0 Bs PB) (hop : o.op = Op.binOp BinOp.add 9 (Operand.tmp 138) (Operand.tmp 139) 9) (hd : ∀ n ∈ ([32, 33] : List Nat), ∃ v, a.tmps[dst22 n]? = some v ∧ S22 x y c m pl gp B0 Bs PB n v w) :
    o.wp Try.prog a w (fun a' w' => ∃ v, a' = a.put o.dst v ∧ S22 x y c m pl gp B0 Bs PB 34 v w' ∧ Below w.heap.size w w') Q := by
  obtain ⟨v138, hv138, hs138⟩ := hd 32 (by decide)
  have e138 := ev_of hv138
  obtain rfl : v138 = .string (((((⟨#[16]⟩ : ByteArray) ++ twoB x) ++ twoB m) ++ oneB (2 * m : Nat))) := hs138
  obtain ⟨v139, hv139, hs139⟩ := hd 33 (by decide)
  have e139 := ev_of hv139
  obtain rfl : v139 = .string (Bs) := hs139
  have hsz : (((((⟨#[16]⟩ : ByteArray) ++ twoB x) ++ twoB m) ++ oneB (2 * m : Nat)) : ByteArray).size + (Bs : ByteArray).size ≤ 1000000 := by
    simp only [ByteArray.size_append, sz2, sz1, szl]
    have := hc.hB
    omega
  exact op_add _ _ ((((⟨#[16]⟩ : ByteArray) ++ twoB x) ++ twoB m) ++ oneB (2 * m : Nat)) (Bs) hop e138 e139 hsz ⟨_, rfl, rfl, Below.refl _ _⟩
theorem op22_35 {o : Oper} {a : Act} {w : World} {Q : Exit → Act → World → Prop} {x y c m pl gp B0 : Nat} {Bs PB : ByteArray} (hc : Ctx22 a w x y c m pl gp B0 Bs PB) (hop : o.op = Op.move (Operand.tmp 9)) (_hd : ∀ n ∈ ([] : List Nat), ∃ v, a.tmps[dst22 n]? = some v ∧ S22 x y c m pl gp B0 Bs PB n v w) :
    o.wp Try.prog a w (fun a' w' => ∃ v, a' = a.put o.dst v ∧ S22 x y c m pl gp B0 Bs PB 35 v w' ∧ Below w.heap.size w w') Q := by
  exact op_move _ _ hop hc.h9 ⟨_, rfl, rfl, Below.refl _ _⟩
theorem op22_36 {o : Oper} {a : Act} {w : World} {Q : Exit → Act → World → Prop} {x y c m pl gp B0 : Nat} {Bs PB : ByteArray} (hc : Ctx22 a w x y c m pl gp B0 Bs PB) (hop : o.op = Op.call { callee := Callee.value (Operand.func 26), args := #[Operand.tmp 141], argTypes := #[3] }) (hd : ∀ n ∈ ([35, 25] : List Nat), ∃ v, a.tmps[dst22 n]? = some v ∧ S22 x y c m pl gp B0 Bs PB n v w) :
    o.wp Try.prog a w (fun a' w' => ∃ v, a' = a.put o.dst v ∧ S22 x y c m pl gp B0 Bs PB 36 v w' ∧ Below w.heap.size w w') Q := by
  obtain ⟨v141, hv141, hs141⟩ := hd 35 (by decide)
  have e141 := ev_of hv141
  obtain rfl : v141 = .int .i64 (x : Nat) := hs141
  exact op_two _ x hop e141 hc.hx (fun w' hb => ⟨_, rfl, rfl, hb⟩)
theorem op22_37 {o : Oper} {a : Act} {w : World} {Q : Exit → Act → World → Prop} {x y c m pl gp B0 : Nat} {Bs PB : ByteArray} (_hc : Ctx22 a w x y c m pl gp B0 Bs PB) (hop : o.op = Op.binOp BinOp.add 9 (Operand.const (Value.string { data := #[23] })) (Operand.tmp 142) 9) (hd : ∀ n ∈ ([36] : List Nat), ∃ v, a.tmps[dst22 n]? = some v ∧ S22 x y c m pl gp B0 Bs PB n v w) :
    o.wp Try.prog a w (fun a' w' => ∃ v, a' = a.put o.dst v ∧ S22 x y c m pl gp B0 Bs PB 37 v w' ∧ Below w.heap.size w w') Q := by
  obtain ⟨v142, hv142, hs142⟩ := hd 36 (by decide)
  have e142 := ev_of hv142
  obtain rfl : v142 = .string (twoB x) := hs142
  have hsz : ((⟨#[23]⟩ : ByteArray) : ByteArray).size + (twoB x : ByteArray).size ≤ 1000000 := by
    simp only [sz2, szl]
    omega
  exact op_add _ _ (⟨#[23]⟩ : ByteArray) (twoB x) hop rfl e142 hsz ⟨_, rfl, rfl, Below.refl _ _⟩
theorem op22_38 {o : Oper} {a : Act} {w : World} {Q : Exit → Act → World → Prop} {x y c m pl gp B0 : Nat} {Bs PB : ByteArray} (hc : Ctx22 a w x y c m pl gp B0 Bs PB) (hop : o.op = Op.move (Operand.tmp 11)) (_hd : ∀ n ∈ ([] : List Nat), ∃ v, a.tmps[dst22 n]? = some v ∧ S22 x y c m pl gp B0 Bs PB n v w) :
    o.wp Try.prog a w (fun a' w' => ∃ v, a' = a.put o.dst v ∧ S22 x y c m pl gp B0 Bs PB 38 v w' ∧ Below w.heap.size w w') Q := by
  exact op_move _ _ hop hc.h11 ⟨_, rfl, rfl, Below.refl _ _⟩
theorem op22_39 {o : Oper} {a : Act} {w : World} {Q : Exit → Act → World → Prop} {x y c m pl gp B0 : Nat} {Bs PB : ByteArray} (hc : Ctx22 a w x y c m pl gp B0 Bs PB) (hop : o.op = Op.call { callee := Callee.value (Operand.func 26), args := #[Operand.tmp 144], argTypes := #[3] }) (hd : ∀ n ∈ ([38, 36] : List Nat), ∃ v, a.tmps[dst22 n]? = some v ∧ S22 x y c m pl gp B0 Bs PB n v w) :
    o.wp Try.prog a w (fun a' w' => ∃ v, a' = a.put o.dst v ∧ S22 x y c m pl gp B0 Bs PB 39 v w' ∧ Below w.heap.size w w') Q := by
  obtain ⟨v144, hv144, hs144⟩ := hd 38 (by decide)
  have e144 := ev_of hv144
  obtain rfl : v144 = .int .i64 (c : Nat) := hs144
  exact op_two _ c hop e144 hc.hc (fun w' hb => ⟨_, rfl, rfl, hb⟩)
theorem op22_40 {o : Oper} {a : Act} {w : World} {Q : Exit → Act → World → Prop} {x y c m pl gp B0 : Nat} {Bs PB : ByteArray} (_hc : Ctx22 a w x y c m pl gp B0 Bs PB) (hop : o.op = Op.binOp BinOp.add 9 (Operand.tmp 143) (Operand.tmp 145) 9) (hd : ∀ n ∈ ([37, 39] : List Nat), ∃ v, a.tmps[dst22 n]? = some v ∧ S22 x y c m pl gp B0 Bs PB n v w) :
    o.wp Try.prog a w (fun a' w' => ∃ v, a' = a.put o.dst v ∧ S22 x y c m pl gp B0 Bs PB 40 v w' ∧ Below w.heap.size w w') Q := by
  obtain ⟨v143, hv143, hs143⟩ := hd 37 (by decide)
  have e143 := ev_of hv143
  obtain rfl : v143 = .string (((⟨#[23]⟩ : ByteArray) ++ twoB x)) := hs143
  obtain ⟨v145, hv145, hs145⟩ := hd 39 (by decide)
  have e145 := ev_of hv145
  obtain rfl : v145 = .string (twoB c) := hs145
  have hsz : (((⟨#[23]⟩ : ByteArray) ++ twoB x) : ByteArray).size + (twoB c : ByteArray).size ≤ 1000000 := by
    simp only [ByteArray.size_append, sz2, szl]
    omega
  exact op_add _ _ ((⟨#[23]⟩ : ByteArray) ++ twoB x) (twoB c) hop e143 e145 hsz ⟨_, rfl, rfl, Below.refl _ _⟩
theorem op22_41 {o : Oper} {a : Act} {w : World} {Q : Exit → Act → World → Prop} {x y c m pl gp B0 : Nat} {Bs PB : ByteArray} (hc : Ctx22 a w x y c m pl gp B0 Bs PB) (hop : o.op = Op.move (Operand.tmp 10)) (_hd : ∀ n ∈ ([] : List Nat), ∃ v, a.tmps[dst22 n]? = some v ∧ S22 x y c m pl gp B0 Bs PB n v w) :
    o.wp Try.prog a w (fun a' w' => ∃ v, a' = a.put o.dst v ∧ S22 x y c m pl gp B0 Bs PB 41 v w' ∧ Below w.heap.size w w') Q := by
  exact op_move _ _ hop hc.h10 ⟨_, rfl, rfl, Below.refl _ _⟩
theorem op22_42 {o : Oper} {a : Act} {w : World} {Q : Exit → Act → World → Prop} {x y c m pl gp B0 : Nat} {Bs PB : ByteArray} (hc : Ctx22 a w x y c m pl gp B0 Bs PB) (hop : o.op = Op.call { callee := Callee.value (Operand.func 26), args := #[Operand.tmp 147], argTypes := #[3] }) (hd : ∀ n ∈ ([41, 39] : List Nat), ∃ v, a.tmps[dst22 n]? = some v ∧ S22 x y c m pl gp B0 Bs PB n v w) :
    o.wp Try.prog a w (fun a' w' => ∃ v, a' = a.put o.dst v ∧ S22 x y c m pl gp B0 Bs PB 42 v w' ∧ Below w.heap.size w w') Q := by
  obtain ⟨v147, hv147, hs147⟩ := hd 41 (by decide)
  have e147 := ev_of hv147
  obtain rfl : v147 = .int .i64 (y : Nat) := hs147
  exact op_two _ y hop e147 hc.hy (fun w' hb => ⟨_, rfl, rfl, hb⟩)
theorem op22_43 {o : Oper} {a : Act} {w : World} {Q : Exit → Act → World → Prop} {x y c m pl gp B0 : Nat} {Bs PB : ByteArray} (_hc : Ctx22 a w x y c m pl gp B0 Bs PB) (hop : o.op = Op.binOp BinOp.add 9 (Operand.tmp 146) (Operand.tmp 148) 9) (hd : ∀ n ∈ ([40, 42] : List Nat), ∃ v, a.tmps[dst22 n]? = some v ∧ S22 x y c m pl gp B0 Bs PB n v w) :
    o.wp Try.prog a w (fun a' w' => ∃ v, a' = a.put o.dst v ∧ S22 x y c m pl gp B0 Bs PB 43 v w' ∧ Below w.heap.size w w') Q := by
  obtain ⟨v146, hv146, hs146⟩ := hd 40 (by decide)
  have e146 := ev_of hv146
  obtain rfl : v146 = .string ((((⟨#[23]⟩ : ByteArray) ++ twoB x) ++ twoB c)) := hs146
  obtain ⟨v148, hv148, hs148⟩ := hd 42 (by decide)
  have e148 := ev_of hv148
  obtain rfl : v148 = .string (twoB y) := hs148
  have hsz : ((((⟨#[23]⟩ : ByteArray) ++ twoB x) ++ twoB c) : ByteArray).size + (twoB y : ByteArray).size ≤ 1000000 := by
    simp only [ByteArray.size_append, sz2, szl]
    omega
  exact op_add _ _ (((⟨#[23]⟩ : ByteArray) ++ twoB x) ++ twoB c) (twoB y) hop e146 e148 hsz ⟨_, rfl, rfl, Below.refl _ _⟩
theorem op22_44 {o : Oper} {a : Act} {w : World} {Q : Exit → Act → World → Prop} {x y c m pl gp B0 : Nat} {Bs PB : ByteArray} (hc : Ctx22 a w x y c m pl gp B0 Bs PB) (hop : o.op = Op.move (Operand.tmp 18)) (_hd : ∀ n ∈ ([] : List Nat), ∃ v, a.tmps[dst22 n]? = some v ∧ S22 x y c m pl gp B0 Bs PB n v w) :
    o.wp Try.prog a w (fun a' w' => ∃ v, a' = a.put o.dst v ∧ S22 x y c m pl gp B0 Bs PB 44 v w' ∧ Below w.heap.size w w') Q := by
  exact op_move _ _ hop hc.h18 ⟨_, rfl, rfl, Below.refl _ _⟩
theorem op22_45 {o : Oper} {a : Act} {w : World} {Q : Exit → Act → World → Prop} {x y c m pl gp B0 : Nat} {Bs PB : ByteArray} (hc : Ctx22 a w x y c m pl gp B0 Bs PB) (hop : o.op = Op.call { callee := Callee.value (Operand.func 26), args := #[Operand.tmp 150], argTypes := #[3] }) (hd : ∀ n ∈ ([44, 42] : List Nat), ∃ v, a.tmps[dst22 n]? = some v ∧ S22 x y c m pl gp B0 Bs PB n v w) :
    o.wp Try.prog a w (fun a' w' => ∃ v, a' = a.put o.dst v ∧ S22 x y c m pl gp B0 Bs PB 45 v w' ∧ Below w.heap.size w w') Q := by
  obtain ⟨v150, hv150, hs150⟩ := hd 44 (by decide)
  have e150 := ev_of hv150
  obtain rfl : v150 = .int .i64 (m : Nat) := hs150
  exact op_two _ m hop e150 (by have := hc.hm; omega) (fun w' hb => ⟨_, rfl, rfl, hb⟩)
theorem op22_46 {o : Oper} {a : Act} {w : World} {Q : Exit → Act → World → Prop} {x y c m pl gp B0 : Nat} {Bs PB : ByteArray} (_hc : Ctx22 a w x y c m pl gp B0 Bs PB) (hop : o.op = Op.binOp BinOp.add 9 (Operand.tmp 149) (Operand.tmp 151) 9) (hd : ∀ n ∈ ([43, 45] : List Nat), ∃ v, a.tmps[dst22 n]? = some v ∧ S22 x y c m pl gp B0 Bs PB n v w) :
    o.wp Try.prog a w (fun a' w' => ∃ v, a' = a.put o.dst v ∧ S22 x y c m pl gp B0 Bs PB 46 v w' ∧ Below w.heap.size w w') Q := by
  obtain ⟨v149, hv149, hs149⟩ := hd 43 (by decide)
  have e149 := ev_of hv149
  obtain rfl : v149 = .string (((((⟨#[23]⟩ : ByteArray) ++ twoB x) ++ twoB c) ++ twoB y)) := hs149
  obtain ⟨v151, hv151, hs151⟩ := hd 45 (by decide)
  have e151 := ev_of hv151
  obtain rfl : v151 = .string (twoB m) := hs151
  have hsz : (((((⟨#[23]⟩ : ByteArray) ++ twoB x) ++ twoB c) ++ twoB y) : ByteArray).size + (twoB m : ByteArray).size ≤ 1000000 := by
    simp only [ByteArray.size_append, sz2, szl]
    omega
  exact op_add _ _ ((((⟨#[23]⟩ : ByteArray) ++ twoB x) ++ twoB c) ++ twoB y) (twoB m) hop e149 e151 hsz ⟨_, rfl, rfl, Below.refl _ _⟩
theorem op22_47 {o : Oper} {a : Act} {w : World} {Q : Exit → Act → World → Prop} {x y c m pl gp B0 : Nat} {Bs PB : ByteArray} (hc : Ctx22 a w x y c m pl gp B0 Bs PB) (hop : o.op = Op.move (Operand.tmp 18)) (_hd : ∀ n ∈ ([] : List Nat), ∃ v, a.tmps[dst22 n]? = some v ∧ S22 x y c m pl gp B0 Bs PB n v w) :
    o.wp Try.prog a w (fun a' w' => ∃ v, a' = a.put o.dst v ∧ S22 x y c m pl gp B0 Bs PB 47 v w' ∧ Below w.heap.size w w') Q := by
  exact op_move _ _ hop hc.h18 ⟨_, rfl, rfl, Below.refl _ _⟩
theorem op22_48 {o : Oper} {a : Act} {w : World} {Q : Exit → Act → World → Prop} {x y c m pl gp B0 : Nat} {Bs PB : ByteArray} (hc : Ctx22 a w x y c m pl gp B0 Bs PB) (hop : o.op = Op.binOp BinOp.mul 3 (Operand.const (Value.int IntKind.i64 2)) (Operand.tmp 153) 3) (hd : ∀ n ∈ ([47] : List Nat), ∃ v, a.tmps[dst22 n]? = some v ∧ S22 x y c m pl gp B0 Bs PB n v w) :
    o.wp Try.prog a w (fun a' w' => ∃ v, a' = a.put o.dst v ∧ S22 x y c m pl gp B0 Bs PB 48 v w' ∧ Below w.heap.size w w') Q := by
  obtain ⟨v153, hv153, hs153⟩ := hd 47 (by decide)
  have e153 := ev_of hv153
  obtain rfl : v153 = .int .i64 (m : Nat) := hs153
  have hw : IntKind.i64.wrap (2 * ((m : Nat) : Int)) = ((2 * m : Nat) : Int) := by rw [IntKind.wrap_i64]; have := hc.hm; omega
  exact op_mul _ _ 2 (m : Nat) hop rfl e153 ⟨_, rfl, (by rw [hw]; rfl), Below.refl _ _⟩
theorem op22_49 {o : Oper} {a : Act} {w : World} {Q : Exit → Act → World → Prop} {x y c m pl gp B0 : Nat} {Bs PB : ByteArray} (hc : Ctx22 a w x y c m pl gp B0 Bs PB) (hop : o.op = Op.convert 3 5 (Operand.tmp 154)) (hd : ∀ n ∈ ([48] : List Nat), ∃ v, a.tmps[dst22 n]? = some v ∧ S22 x y c m pl gp B0 Bs PB n v w) :
    o.wp Try.prog a w (fun a' w' => ∃ v, a' = a.put o.dst v ∧ S22 x y c m pl gp B0 Bs PB 49 v w' ∧ Below w.heap.size w w') Q := by
  obtain ⟨v154, hv154, hs154⟩ := hd 48 (by decide)
  have e154 := ev_of hv154
  obtain rfl : v154 = .int .i64 (2 * m : Nat) := hs154
  have hw : IntKind.u8.wrap ((2 * m : Nat) : Int) = (2 * m : Nat) := by rw [IntKind.wrap_u8]; have := hc.hpl; have := hc.hm; omega
  exact op_conv35 _ _ hop e154 ⟨_, rfl, (by rw [hw]; rfl), Below.refl _ _⟩
theorem op22_50 {o : Oper} {a : Act} {w : World} {Q : Exit → Act → World → Prop} {x y c m pl gp B0 : Nat} {Bs PB : ByteArray} (_hc : Ctx22 a w x y c m pl gp B0 Bs PB) (hop : o.op = Op.buildSlice 45 1 #[(0, Operand.tmp 155)]) (hd : ∀ n ∈ ([49] : List Nat), ∃ v, a.tmps[dst22 n]? = some v ∧ S22 x y c m pl gp B0 Bs PB n v w) :
    o.wp Try.prog a w (fun a' w' => ∃ v, a' = a.put o.dst v ∧ S22 x y c m pl gp B0 Bs PB 50 v w' ∧ Below w.heap.size w w') Q := by
  obtain ⟨v155, hv155, hs155⟩ := hd 49 (by decide)
  have e155 := ev_of hv155
  obtain rfl : v155 = .int .u8 (2 * m : Nat) := hs155
  exact op_byte _ _ hop e155 ⟨_, rfl, ⟨w.heap.size, rfl, by simp, by simp⟩, bel_alloc (Below.refl _ _) _⟩
theorem op22_51 {o : Oper} {a : Act} {w : World} {Q : Exit → Act → World → Prop} {x y c m pl gp B0 : Nat} {Bs PB : ByteArray} (_hc : Ctx22 a w x y c m pl gp B0 Bs PB) (hop : o.op = Op.convert 45 9 (Operand.tmp 156)) (hd : ∀ n ∈ ([50] : List Nat), ∃ v, a.tmps[dst22 n]? = some v ∧ S22 x y c m pl gp B0 Bs PB n v w) :
    o.wp Try.prog a w (fun a' w' => ∃ v, a' = a.put o.dst v ∧ S22 x y c m pl gp B0 Bs PB 51 v w' ∧ Below w.heap.size w w') Q := by
  obtain ⟨v156, hv156, hs156⟩ := hd 50 (by decide)
  obtain ⟨g156, rfl, hg156, hc156⟩ := hs156
  have e156 := ev_of hv156
  exact op_str _ _ (oneB (2 * m : Nat)) hop e156 (conv1_at w g156 _ hc156) ⟨_, rfl, rfl, Below.refl _ _⟩
theorem op22_52 {o : Oper} {a : Act} {w : World} {Q : Exit → Act → World → Prop} {x y c m pl gp B0 : Nat} {Bs PB : ByteArray} (_hc : Ctx22 a w x y c m pl gp B0 Bs PB) (hop : o.op = Op.binOp BinOp.add 9 (Operand.tmp 152) (Operand.tmp 157) 9) (hd : ∀ n ∈ ([46, 51] : List Nat), ∃ v, a.tmps[dst22 n]? = some v ∧ S22 x y c m pl gp B0 Bs PB n v w) :
    o.wp Try.prog a w (fun a' w' => ∃ v, a' = a.put o.dst v ∧ S22 x y c m pl gp B0 Bs PB 52 v w' ∧ Below w.heap.size w w') Q := by
  obtain ⟨v152, hv152, hs152⟩ := hd 46 (by decide)
  have e152 := ev_of hv152
  obtain rfl : v152 = .string ((((((⟨#[23]⟩ : ByteArray) ++ twoB x) ++ twoB c) ++ twoB y) ++ twoB m)) := hs152
  obtain ⟨v157, hv157, hs157⟩ := hd 51 (by decide)
  have e157 := ev_of hv157
  obtain rfl : v157 = .string (oneB (2 * m : Nat)) := hs157
  have hsz : ((((((⟨#[23]⟩ : ByteArray) ++ twoB x) ++ twoB c) ++ twoB y) ++ twoB m) : ByteArray).size + (oneB (2 * m : Nat) : ByteArray).size ≤ 1000000 := by
    simp only [ByteArray.size_append, sz2, sz1, szl]
    omega
  exact op_add _ _ (((((⟨#[23]⟩ : ByteArray) ++ twoB x) ++ twoB c) ++ twoB y) ++ twoB m) (oneB (2 * m : Nat)) hop e152 e157 hsz ⟨_, rfl, rfl, Below.refl _ _⟩
theorem op22_53 {o : Oper} {a : Act} {w : World} {Q : Exit → Act → World → Prop} {x y c m pl gp B0 : Nat} {Bs PB : ByteArray} (hc : Ctx22 a w x y c m pl gp B0 Bs PB) (hop : o.op = Op.move (Operand.tmp 14)) (_hd : ∀ n ∈ ([] : List Nat), ∃ v, a.tmps[dst22 n]? = some v ∧ S22 x y c m pl gp B0 Bs PB n v w) :
    o.wp Try.prog a w (fun a' w' => ∃ v, a' = a.put o.dst v ∧ S22 x y c m pl gp B0 Bs PB 53 v w' ∧ Below w.heap.size w w') Q := by
  exact op_move _ _ hop hc.h14 ⟨_, rfl, rfl, Below.refl _ _⟩
theorem op22_54 {o : Oper} {a : Act} {w : World} {Q : Exit → Act → World → Prop} {x y c m pl gp B0 : Nat} {Bs PB : ByteArray} (hc : Ctx22 a w x y c m pl gp B0 Bs PB) (hop : o.op = Op.binOp BinOp.add 9 (Operand.tmp 158) (Operand.tmp 159) 9) (hd : ∀ n ∈ ([52, 53] : List Nat), ∃ v, a.tmps[dst22 n]? = some v ∧ S22 x y c m pl gp B0 Bs PB n v w) :
    o.wp Try.prog a w (fun a' w' => ∃ v, a' = a.put o.dst v ∧ S22 x y c m pl gp B0 Bs PB 54 v w' ∧ Below w.heap.size w w') Q := by
  obtain ⟨v158, hv158, hs158⟩ := hd 52 (by decide)
  have e158 := ev_of hv158
  obtain rfl : v158 = .string (((((((⟨#[23]⟩ : ByteArray) ++ twoB x) ++ twoB c) ++ twoB y) ++ twoB m) ++ oneB (2 * m : Nat))) := hs158
  obtain ⟨v159, hv159, hs159⟩ := hd 53 (by decide)
  have e159 := ev_of hv159
  obtain rfl : v159 = .string (Bs) := hs159
  have hsz : (((((((⟨#[23]⟩ : ByteArray) ++ twoB x) ++ twoB c) ++ twoB y) ++ twoB m) ++ oneB (2 * m : Nat)) : ByteArray).size + (Bs : ByteArray).size ≤ 1000000 := by
    simp only [ByteArray.size_append, sz2, sz1, szl]
    have := hc.hB
    omega
  exact op_add _ _ ((((((⟨#[23]⟩ : ByteArray) ++ twoB x) ++ twoB c) ++ twoB y) ++ twoB m) ++ oneB (2 * m : Nat)) (Bs) hop e158 e159 hsz ⟨_, rfl, rfl, Below.refl _ _⟩
theorem op22_55 {o : Oper} {a : Act} {w : World} {Q : Exit → Act → World → Prop} {x y c m pl gp B0 : Nat} {Bs PB : ByteArray} (hc : Ctx22 a w x y c m pl gp B0 Bs PB) (hop : o.op = Op.move (Operand.tmp 9)) (_hd : ∀ n ∈ ([] : List Nat), ∃ v, a.tmps[dst22 n]? = some v ∧ S22 x y c m pl gp B0 Bs PB n v w) :
    o.wp Try.prog a w (fun a' w' => ∃ v, a' = a.put o.dst v ∧ S22 x y c m pl gp B0 Bs PB 55 v w' ∧ Below w.heap.size w w') Q := by
  exact op_move _ _ hop hc.h9 ⟨_, rfl, rfl, Below.refl _ _⟩
theorem op22_56 {o : Oper} {a : Act} {w : World} {Q : Exit → Act → World → Prop} {x y c m pl gp B0 : Nat} {Bs PB : ByteArray} (hc : Ctx22 a w x y c m pl gp B0 Bs PB) (hop : o.op = Op.call { callee := Callee.value (Operand.func 26), args := #[Operand.tmp 161], argTypes := #[3] }) (hd : ∀ n ∈ ([55, 45] : List Nat), ∃ v, a.tmps[dst22 n]? = some v ∧ S22 x y c m pl gp B0 Bs PB n v w) :
    o.wp Try.prog a w (fun a' w' => ∃ v, a' = a.put o.dst v ∧ S22 x y c m pl gp B0 Bs PB 56 v w' ∧ Below w.heap.size w w') Q := by
  obtain ⟨v161, hv161, hs161⟩ := hd 55 (by decide)
  have e161 := ev_of hv161
  obtain rfl : v161 = .int .i64 (x : Nat) := hs161
  exact op_two _ x hop e161 hc.hx (fun w' hb => ⟨_, rfl, rfl, hb⟩)
theorem op22_57 {o : Oper} {a : Act} {w : World} {Q : Exit → Act → World → Prop} {x y c m pl gp B0 : Nat} {Bs PB : ByteArray} (_hc : Ctx22 a w x y c m pl gp B0 Bs PB) (hop : o.op = Op.binOp BinOp.add 9 (Operand.const (Value.string { data := #[22] })) (Operand.tmp 162) 9) (hd : ∀ n ∈ ([56] : List Nat), ∃ v, a.tmps[dst22 n]? = some v ∧ S22 x y c m pl gp B0 Bs PB n v w) :
    o.wp Try.prog a w (fun a' w' => ∃ v, a' = a.put o.dst v ∧ S22 x y c m pl gp B0 Bs PB 57 v w' ∧ Below w.heap.size w w') Q := by
  obtain ⟨v162, hv162, hs162⟩ := hd 56 (by decide)
  have e162 := ev_of hv162
  obtain rfl : v162 = .string (twoB x) := hs162
  have hsz : ((⟨#[22]⟩ : ByteArray) : ByteArray).size + (twoB x : ByteArray).size ≤ 1000000 := by
    simp only [sz2, szl]
    omega
  exact op_add _ _ (⟨#[22]⟩ : ByteArray) (twoB x) hop rfl e162 hsz ⟨_, rfl, rfl, Below.refl _ _⟩
theorem op22_58 {o : Oper} {a : Act} {w : World} {Q : Exit → Act → World → Prop} {x y c m pl gp B0 : Nat} {Bs PB : ByteArray} (hc : Ctx22 a w x y c m pl gp B0 Bs PB) (hop : o.op = Op.move (Operand.tmp 10)) (_hd : ∀ n ∈ ([] : List Nat), ∃ v, a.tmps[dst22 n]? = some v ∧ S22 x y c m pl gp B0 Bs PB n v w) :
    o.wp Try.prog a w (fun a' w' => ∃ v, a' = a.put o.dst v ∧ S22 x y c m pl gp B0 Bs PB 58 v w' ∧ Below w.heap.size w w') Q := by
  exact op_move _ _ hop hc.h10 ⟨_, rfl, rfl, Below.refl _ _⟩
theorem op22_59 {o : Oper} {a : Act} {w : World} {Q : Exit → Act → World → Prop} {x y c m pl gp B0 : Nat} {Bs PB : ByteArray} (hc : Ctx22 a w x y c m pl gp B0 Bs PB) (hop : o.op = Op.call { callee := Callee.value (Operand.func 26), args := #[Operand.tmp 164], argTypes := #[3] }) (hd : ∀ n ∈ ([58, 56] : List Nat), ∃ v, a.tmps[dst22 n]? = some v ∧ S22 x y c m pl gp B0 Bs PB n v w) :
    o.wp Try.prog a w (fun a' w' => ∃ v, a' = a.put o.dst v ∧ S22 x y c m pl gp B0 Bs PB 59 v w' ∧ Below w.heap.size w w') Q := by
  obtain ⟨v164, hv164, hs164⟩ := hd 58 (by decide)
  have e164 := ev_of hv164
  obtain rfl : v164 = .int .i64 (y : Nat) := hs164
  exact op_two _ y hop e164 hc.hy (fun w' hb => ⟨_, rfl, rfl, hb⟩)
theorem op22_60 {o : Oper} {a : Act} {w : World} {Q : Exit → Act → World → Prop} {x y c m pl gp B0 : Nat} {Bs PB : ByteArray} (_hc : Ctx22 a w x y c m pl gp B0 Bs PB) (hop : o.op = Op.binOp BinOp.add 9 (Operand.tmp 163) (Operand.tmp 165) 9) (hd : ∀ n ∈ ([57, 59] : List Nat), ∃ v, a.tmps[dst22 n]? = some v ∧ S22 x y c m pl gp B0 Bs PB n v w) :
    o.wp Try.prog a w (fun a' w' => ∃ v, a' = a.put o.dst v ∧ S22 x y c m pl gp B0 Bs PB 60 v w' ∧ Below w.heap.size w w') Q := by
  obtain ⟨v163, hv163, hs163⟩ := hd 57 (by decide)
  have e163 := ev_of hv163
  obtain rfl : v163 = .string (((⟨#[22]⟩ : ByteArray) ++ twoB x)) := hs163
  obtain ⟨v165, hv165, hs165⟩ := hd 59 (by decide)
  have e165 := ev_of hv165
  obtain rfl : v165 = .string (twoB y) := hs165
  have hsz : (((⟨#[22]⟩ : ByteArray) ++ twoB x) : ByteArray).size + (twoB y : ByteArray).size ≤ 1000000 := by
    simp only [ByteArray.size_append, sz2, szl]
    omega
  exact op_add _ _ ((⟨#[22]⟩ : ByteArray) ++ twoB x) (twoB y) hop e163 e165 hsz ⟨_, rfl, rfl, Below.refl _ _⟩
theorem op22_61 {o : Oper} {a : Act} {w : World} {Q : Exit → Act → World → Prop} {x y c m pl gp B0 : Nat} {Bs PB : ByteArray} (hc : Ctx22 a w x y c m pl gp B0 Bs PB) (hop : o.op = Op.move (Operand.tmp 11)) (_hd : ∀ n ∈ ([] : List Nat), ∃ v, a.tmps[dst22 n]? = some v ∧ S22 x y c m pl gp B0 Bs PB n v w) :
    o.wp Try.prog a w (fun a' w' => ∃ v, a' = a.put o.dst v ∧ S22 x y c m pl gp B0 Bs PB 61 v w' ∧ Below w.heap.size w w') Q := by
  exact op_move _ _ hop hc.h11 ⟨_, rfl, rfl, Below.refl _ _⟩
theorem op22_62 {o : Oper} {a : Act} {w : World} {Q : Exit → Act → World → Prop} {x y c m pl gp B0 : Nat} {Bs PB : ByteArray} (hc : Ctx22 a w x y c m pl gp B0 Bs PB) (hop : o.op = Op.call { callee := Callee.value (Operand.func 26), args := #[Operand.tmp 167], argTypes := #[3] }) (hd : ∀ n ∈ ([61, 59] : List Nat), ∃ v, a.tmps[dst22 n]? = some v ∧ S22 x y c m pl gp B0 Bs PB n v w) :
    o.wp Try.prog a w (fun a' w' => ∃ v, a' = a.put o.dst v ∧ S22 x y c m pl gp B0 Bs PB 62 v w' ∧ Below w.heap.size w w') Q := by
  obtain ⟨v167, hv167, hs167⟩ := hd 61 (by decide)
  have e167 := ev_of hv167
  obtain rfl : v167 = .int .i64 (c : Nat) := hs167
  exact op_two _ c hop e167 hc.hc (fun w' hb => ⟨_, rfl, rfl, hb⟩)
theorem op22_63 {o : Oper} {a : Act} {w : World} {Q : Exit → Act → World → Prop} {x y c m pl gp B0 : Nat} {Bs PB : ByteArray} (_hc : Ctx22 a w x y c m pl gp B0 Bs PB) (hop : o.op = Op.binOp BinOp.add 9 (Operand.tmp 166) (Operand.tmp 168) 9) (hd : ∀ n ∈ ([60, 62] : List Nat), ∃ v, a.tmps[dst22 n]? = some v ∧ S22 x y c m pl gp B0 Bs PB n v w) :
    o.wp Try.prog a w (fun a' w' => ∃ v, a' = a.put o.dst v ∧ S22 x y c m pl gp B0 Bs PB 63 v w' ∧ Below w.heap.size w w') Q := by
  obtain ⟨v166, hv166, hs166⟩ := hd 60 (by decide)
  have e166 := ev_of hv166
  obtain rfl : v166 = .string ((((⟨#[22]⟩ : ByteArray) ++ twoB x) ++ twoB y)) := hs166
  obtain ⟨v168, hv168, hs168⟩ := hd 62 (by decide)
  have e168 := ev_of hv168
  obtain rfl : v168 = .string (twoB c) := hs168
  have hsz : ((((⟨#[22]⟩ : ByteArray) ++ twoB x) ++ twoB y) : ByteArray).size + (twoB c : ByteArray).size ≤ 1000000 := by
    simp only [ByteArray.size_append, sz2, szl]
    omega
  exact op_add _ _ (((⟨#[22]⟩ : ByteArray) ++ twoB x) ++ twoB y) (twoB c) hop e166 e168 hsz ⟨_, rfl, rfl, Below.refl _ _⟩
theorem op22_64 {o : Oper} {a : Act} {w : World} {Q : Exit → Act → World → Prop} {x y c m pl gp B0 : Nat} {Bs PB : ByteArray} (hc : Ctx22 a w x y c m pl gp B0 Bs PB) (hop : o.op = Op.buildSlice 32 5 #[(0, Operand.tmp 111), (1, Operand.tmp 126), (2, Operand.tmp 140), (3, Operand.tmp 160), (4, Operand.tmp 169)]) (hd : ∀ n ∈ ([5, 20, 34, 54, 63] : List Nat), ∃ v, a.tmps[dst22 n]? = some v ∧ S22 x y c m pl gp B0 Bs PB n v w) :
    o.wp Try.prog a w (fun a' w' => ∃ v, a' = a.put o.dst v ∧ S22 x y c m pl gp B0 Bs PB 64 v w' ∧ Below w.heap.size w w') Q := by
  obtain ⟨v111, hv111, hs111⟩ := hd 5 (by decide)
  have e111 := ev_of hv111
  obtain rfl : v111 = .string ((((⟨#[3]⟩ : ByteArray) ++ twoB x) ++ twoB c)) := hs111
  obtain ⟨v126, hv126, hs126⟩ := hd 20 (by decide)
  have e126 := ev_of hv126
  obtain rfl : v126 = .string ((((((⟨#[15]⟩ : ByteArray) ++ twoB x) ++ twoB m) ++ oneB (pl : Nat)) ++ PB)) := hs126
  obtain ⟨v140, hv140, hs140⟩ := hd 34 (by decide)
  have e140 := ev_of hv140
  obtain rfl : v140 = .string ((((((⟨#[16]⟩ : ByteArray) ++ twoB x) ++ twoB m) ++ oneB (2 * m : Nat)) ++ Bs)) := hs140
  obtain ⟨v160, hv160, hs160⟩ := hd 54 (by decide)
  have e160 := ev_of hv160
  obtain rfl : v160 = .string ((((((((⟨#[23]⟩ : ByteArray) ++ twoB x) ++ twoB c) ++ twoB y) ++ twoB m) ++ oneB (2 * m : Nat)) ++ Bs)) := hs160
  obtain ⟨v169, hv169, hs169⟩ := hd 63 (by decide)
  have e169 := ev_of hv169
  obtain rfl : v169 = .string (((((⟨#[22]⟩ : ByteArray) ++ twoB x) ++ twoB y) ++ twoB c)) := hs169
  exact op_five _ _ _ _ _ _ _ _ _ _ hop e111 e126 e140 e160 e169 ⟨_, rfl, ⟨w.heap.size, rfl, hc.hB0, heap_alloc_new w _⟩, bel_alloc (Below.refl _ _) _⟩
theorem op22_65 {o : Oper} {a : Act} {w : World} {Q : Exit → Act → World → Prop} {x y c m pl gp B0 : Nat} {Bs PB : ByteArray} (_hc : Ctx22 a w x y c m pl gp B0 Bs PB) (hop : o.op = Op.assign (Operand.tmp 170)) (hd : ∀ n ∈ ([64, 62, 0, 1, 2, 3, 4, 5, 6, 7, 8, 9, 10, 11, 12, 13, 14, 15, 16, 17, 18, 19, 20, 21, 22, 23, 24, 25, 26, 27, 28, 29, 30, 31, 32, 33, 34, 35, 36, 37, 38, 39, 40, 41, 42, 43, 44, 45, 46, 47, 48, 49, 50, 51, 52, 53, 54, 55, 56, 57, 58, 59, 60, 61, 62, 63, 64] : List Nat), ∃ v, a.tmps[dst22 n]? = some v ∧ S22 x y c m pl gp B0 Bs PB n v w) :
    o.wp Try.prog a w (fun a' w' => ∃ v, a' = a.put o.dst v ∧ S22 x y c m pl gp B0 Bs PB 65 v w' ∧ Below w.heap.size w w') Q := by
  obtain ⟨v170, hv170, hs170⟩ := hd 64 (by decide)
  obtain ⟨g170, rfl, hg170, hc170⟩ := hs170
  have e170 := ev_of hv170
  exact op_assign _ _ hop e170 ⟨_, rfl, ⟨g170, rfl, hg170, hc170⟩, Below.refl _ _⟩
theorem row22 {ops : Array Oper} (hops : ops.toList.map (fun o => (o.op, o.dst, o.guard, o.after.toList.map (·.on))) = tab22) (i : Nat) (o : Oper) (ho : ops[i]? = some o) : tab22[i]? = some (o.op, o.dst, o.guard, o.after.toList.map (·.on)) := by
  rw [← hops, List.getElem?_map, Array.getElem?_toList, ho]; rfl
theorem region22 {ops : Array Oper} (hops : ops.toList.map (fun o => (o.op, o.dst, o.guard, o.after.toList.map (·.on))) = tab22) (hbindB : (ops.toList.all fun o => o.after.toList.all fun e => Region.binds .any e) = true) {Q : Exit → Act → World → Prop} {id : Nat} (a0 : Act) (w : World) (x y c m pl gp : Nat) (Bs PB : ByteArray)
    (hsz : a0.tmps.size = 303) (hctx : ∀ (a : Act) (w' : World), Below w.heap.size w w' → (∀ k, k < 19 → a.tmps[k]? = a0.tmps[k]?) → Ctx22 a w' x y c m pl gp w.heap.size Bs PB)
    (hend : ∀ (a : Act) (w' : World) (g : Nat), a.defers = a0.defers → a.tmps.size = 303 → (∀ k, k < 106 ∨ 170 < k → k ≠ 19 → a.tmps[k]? = a0.tmps[k]?) → Below w.heap.size w w' → w.heap.size ≤ g → a.tmps[19]? = some (.slice (some ⟨g, 0, none⟩) 5 5) →
      w'.heap[g]? = some (.cells #[.string ((((⟨#[3]⟩ : ByteArray) ++ twoB x) ++ twoB c)), .string ((((((⟨#[15]⟩ : ByteArray) ++ twoB x) ++ twoB m) ++ oneB (pl : Nat)) ++ PB)), .string ((((((⟨#[16]⟩ : ByteArray) ++ twoB x) ++ twoB m) ++ oneB (2 * m : Nat)) ++ Bs)), .string ((((((((⟨#[23]⟩ : ByteArray) ++ twoB x) ++ twoB c) ++ twoB y) ++ twoB m) ++ oneB (2 * m : Nat)) ++ Bs)), .string (((((⟨#[22]⟩ : ByteArray) ++ twoB x) ++ twoB y) ++ twoB c))] 9 (0, 0)) → Q .normal a w') :
    (Code.region id ops true).wp Try.prog Q a0 w := by
  have hbind : ∀ (i : Nat) (o : Oper), ops[i]? = some o → ∀ e ∈ o.after, Region.binds .any e = true := fun i o ho e he =>
    List.all_eq_true.1 (List.all_eq_true.1 hbindB o (by simpa using Array.mem_of_getElem? ho)) e (by simpa using he)
  have hn : ops.size = 66 := by
    have := congrArg List.length hops
    rw [List.length_map, Array.length_toList] at this
    exact this
  refine wp_region_any (by kernel_rfl) (wpAny_slots dst22 (fun i j hi hj h => dl22_inj i (by omega) j (by omega) h) ?_ ?_ a0 (fun i hi => by rw [hsz]; exact dl22_lt i (by omega)) (S22 x y c m pl gp w.heap.size Bs PB) (fun w' => Below w.heap.size w w') (fun w1 w2 h h' => bel_then h h') (fun i v w1 w2 _ hb hs => S22_keep _ _ _ _ _ _ _ _ _ i v w1 w2 hb hs) ?_ ?_ _ ⟨rfl, rfl, rfl, Nat.le_refl _, fun _ _ => rfl⟩)
  · intro i o ho
    have hr := row22 hops i o ho
    have h1 : (tab22.map (·.2.1))[i]? = some o.dst := by rw [List.getElem?_map, hr]; rfl
    have h2 : (tab22.map (·.2.2.1))[i]? = some o.guard := by rw [List.getElem?_map, hr]; rfl
    rw [tab22_dst, List.getElem?_map] at h1
    rw [tab22_guard, List.getElem?_replicate] at h2
    constructor
    · cases hd : dl22[i]? with
      | none => rw [hd] at h1; exact absurd h1 (by simp)
      | some d =>
        rw [hd] at h1
        simp at h1
        rw [← h1, dst22, List.getD_eq_getElem?_getD, hd]; rfl
    · split at h2
      · simpa using h2.symm
      · exact absurd h2 (by simp)
  · intro i o ho e he
    have hr := row22 hops i o ho
    have hi : i < 66 := by rw [← hn]; exact (Array.getElem?_eq_some_iff.1 ho).1
    have h3 : (tab22.map (·.2.2.2)).getD i [] = o.after.toList.map (·.on) := by rw [List.getD_eq_getElem?_getD, List.getElem?_map, hr]; rfl
    refine on22 i hi e.on ?_
    rw [h3]
    exact List.mem_map.2 ⟨e, by simpa using he, rfl⟩
  · intro i o ho a w' hsame hbel hdep
    have hr := row22 hops i o ho
    have hi : i < 66 := by rw [← hn]; exact (Array.getElem?_eq_some_iff.1 ho).1
    have hc := hctx a w' hbel (fun k hk => hsame k (fun j hj e => by have := dl22_ge j (by omega); omega))
    have hall : ∀ n ∈ o.after.toList.map (·.on), ∃ v, a.tmps[dst22 n]? = some v ∧ S22 x y c m pl gp w.heap.size Bs PB n v w' := by
      intro n hmem
      obtain ⟨e, he, rfl⟩ := List.mem_map.1 hmem
      exact hdep e (by simpa using he) (hbind i o ho e (by simpa using he))
    clear hdep hsame
    match i, hi with
    | 0, _ =>
      obtain ⟨h1, h2⟩ : o.op = Op.move (Operand.tmp 9) ∧ o.after.toList.map (·.on) = [] := by
        have h := Option.some.inj hr
        exact ⟨congrArg (·.1) h.symm, congrArg (·.2.2.2) h.symm⟩
      rw [h2] at hall
      exact op22_0 hc h1 hall
    | 1, _ =>
      obtain ⟨h1, h2⟩ : o.op = Op.call { callee := Callee.value (Operand.func 26), args := #[Operand.tmp 106], argTypes := #[3] } ∧ o.after.toList.map (·.on) = [0] := by
        have h := Option.some.inj hr
        exact ⟨congrArg (·.1) h.symm, congrArg (·.2.2.2) h.symm⟩
      rw [h2] at hall
      exact op22_1 hc h1 hall
    | 2, _ =>
      obtain ⟨h1, h2⟩ : o.op = Op.binOp BinOp.add 9 (Operand.const (Value.string { data := #[3] })) (Operand.tmp 107) 9 ∧ o.after.toList.map (·.on) = [1] := by
        have h := Option.some.inj hr
        exact ⟨congrArg (·.1) h.symm, congrArg (·.2.2.2) h.symm⟩
      rw [h2] at hall
      exact op22_2 hc h1 hall
    | 3, _ =>
      obtain ⟨h1, h2⟩ : o.op = Op.move (Operand.tmp 11) ∧ o.after.toList.map (·.on) = [] := by
        have h := Option.some.inj hr
        exact ⟨congrArg (·.1) h.symm, congrArg (·.2.2.2) h.symm⟩
      rw [h2] at hall
      exact op22_3 hc h1 hall
    | 4, _ =>
      obtain ⟨h1, h2⟩ : o.op = Op.call { callee := Callee.value (Operand.func 26), args := #[Operand.tmp 109], argTypes := #[3] } ∧ o.after.toList.map (·.on) = [3, 1] := by
        have h := Option.some.inj hr
        exact ⟨congrArg (·.1) h.symm, congrArg (·.2.2.2) h.symm⟩
      rw [h2] at hall
      exact op22_4 hc h1 hall
    | 5, _ =>
      obtain ⟨h1, h2⟩ : o.op = Op.binOp BinOp.add 9 (Operand.tmp 108) (Operand.tmp 110) 9 ∧ o.after.toList.map (·.on) = [2, 4] := by
        have h := Option.some.inj hr
        exact ⟨congrArg (·.1) h.symm, congrArg (·.2.2.2) h.symm⟩
      rw [h2] at hall
      exact op22_5 hc h1 hall
    | 6, _ =>
      obtain ⟨h1, h2⟩ : o.op = Op.move (Operand.tmp 9) ∧ o.after.toList.map (·.on) = [] := by
        have h := Option.some.inj hr
        exact ⟨congrArg (·.1) h.symm, congrArg (·.2.2.2) h.symm⟩
      rw [h2] at hall
      exact op22_6 hc h1 hall
    | 7, _ =>
      obtain ⟨h1, h2⟩ : o.op = Op.call { callee := Callee.value (Operand.func 26), args := #[Operand.tmp 112], argTypes := #[3] } ∧ o.after.toList.map (·.on) = [6, 4] := by
        have h := Option.some.inj hr
        exact ⟨congrArg (·.1) h.symm, congrArg (·.2.2.2) h.symm⟩
      rw [h2] at hall
      exact op22_7 hc h1 hall
    | 8, _ =>
      obtain ⟨h1, h2⟩ : o.op = Op.binOp BinOp.add 9 (Operand.const (Value.string { data := #[15] })) (Operand.tmp 113) 9 ∧ o.after.toList.map (·.on) = [7] := by
        have h := Option.some.inj hr
        exact ⟨congrArg (·.1) h.symm, congrArg (·.2.2.2) h.symm⟩
      rw [h2] at hall
      exact op22_8 hc h1 hall
    | 9, _ =>
      obtain ⟨h1, h2⟩ : o.op = Op.move (Operand.tmp 18) ∧ o.after.toList.map (·.on) = [] := by
        have h := Option.some.inj hr
        exact ⟨congrArg (·.1) h.symm, congrArg (·.2.2.2) h.symm⟩
      rw [h2] at hall
      exact op22_9 hc h1 hall
    | 10, _ =>
      obtain ⟨h1, h2⟩ : o.op = Op.call { callee := Callee.value (Operand.func 26), args := #[Operand.tmp 115], argTypes := #[3] } ∧ o.after.toList.map (·.on) = [9, 7] := by
        have h := Option.some.inj hr
        exact ⟨congrArg (·.1) h.symm, congrArg (·.2.2.2) h.symm⟩
      rw [h2] at hall
      exact op22_10 hc h1 hall
    | 11, _ =>
      obtain ⟨h1, h2⟩ : o.op = Op.binOp BinOp.add 9 (Operand.tmp 114) (Operand.tmp 116) 9 ∧ o.after.toList.map (·.on) = [8, 10] := by
        have h := Option.some.inj hr
        exact ⟨congrArg (·.1) h.symm, congrArg (·.2.2.2) h.symm⟩
      rw [h2] at hall
      exact op22_11 hc h1 hall
    | 12, _ =>
      obtain ⟨h1, h2⟩ : o.op = Op.move (Operand.tmp 16) ∧ o.after.toList.map (·.on) = [] := by
        have h := Option.some.inj hr
        exact ⟨congrArg (·.1) h.symm, congrArg (·.2.2.2) h.symm⟩
      rw [h2] at hall
      exact op22_12 hc h1 hall
    | 13, _ =>
      obtain ⟨h1, h2⟩ : o.op = Op.call { callee := Callee.builtin Builtin.len, args := #[Operand.tmp 118], argTypes := #[45] } ∧ o.after.toList.map (·.on) = [12] := by
        have h := Option.some.inj hr
        exact ⟨congrArg (·.1) h.symm, congrArg (·.2.2.2) h.symm⟩
      rw [h2] at hall
      exact op22_13 hc h1 hall
    | 14, _ =>
      obtain ⟨h1, h2⟩ : o.op = Op.convert 3 5 (Operand.tmp 119) ∧ o.after.toList.map (·.on) = [13] := by
        have h := Option.some.inj hr
        exact ⟨congrArg (·.1) h.symm, congrArg (·.2.2.2) h.symm⟩
      rw [h2] at hall
      exact op22_14 hc h1 hall
    | 15, _ =>
      obtain ⟨h1, h2⟩ : o.op = Op.buildSlice 45 1 #[(0, Operand.tmp 120)] ∧ o.after.toList.map (·.on) = [14] := by
        have h := Option.some.inj hr
        exact ⟨congrArg (·.1) h.symm, congrArg (·.2.2.2) h.symm⟩
      rw [h2] at hall
      exact op22_15 hc h1 hall
    | 16, _ =>
      obtain ⟨h1, h2⟩ : o.op = Op.convert 45 9 (Operand.tmp 121) ∧ o.after.toList.map (·.on) = [15] := by
        have h := Option.some.inj hr
        exact ⟨congrArg (·.1) h.symm, congrArg (·.2.2.2) h.symm⟩
      rw [h2] at hall
      exact op22_16 hc h1 hall
    | 17, _ =>
      obtain ⟨h1, h2⟩ : o.op = Op.binOp BinOp.add 9 (Operand.tmp 117) (Operand.tmp 122) 9 ∧ o.after.toList.map (·.on) = [11, 16] := by
        have h := Option.some.inj hr
        exact ⟨congrArg (·.1) h.symm, congrArg (·.2.2.2) h.symm⟩
      rw [h2] at hall
      exact op22_17 hc h1 hall
    | 18, _ =>
      obtain ⟨h1, h2⟩ : o.op = Op.move (Operand.tmp 16) ∧ o.after.toList.map (·.on) = [] := by
        have h := Option.some.inj hr
        exact ⟨congrArg (·.1) h.symm, congrArg (·.2.2.2) h.symm⟩
      rw [h2] at hall
      exact op22_18 hc h1 hall
    | 19, _ =>
      obtain ⟨h1, h2⟩ : o.op = Op.convert 45 9 (Operand.tmp 124) ∧ o.after.toList.map (·.on) = [18] := by
        have h := Option.some.inj hr
        exact ⟨congrArg (·.1) h.symm, congrArg (·.2.2.2) h.symm⟩
      rw [h2] at hall
      exact op22_19 hc h1 hall
    | 20, _ =>
      obtain ⟨h1, h2⟩ : o.op = Op.binOp BinOp.add 9 (Operand.tmp 123) (Operand.tmp 125) 9 ∧ o.after.toList.map (·.on) = [17, 19] := by
        have h := Option.some.inj hr
        exact ⟨congrArg (·.1) h.symm, congrArg (·.2.2.2) h.symm⟩
      rw [h2] at hall
      exact op22_20 hc h1 hall
    | 21, _ =>
      obtain ⟨h1, h2⟩ : o.op = Op.move (Operand.tmp 9) ∧ o.after.toList.map (·.on) = [] := by
        have h := Option.some.inj hr
        exact ⟨congrArg (·.1) h.symm, congrArg (·.2.2.2) h.symm⟩
      rw [h2] at hall
      exact op22_21 hc h1 hall
    | 22, _ =>
      obtain ⟨h1, h2⟩ : o.op = Op.call { callee := Callee.value (Operand.func 26), args := #[Operand.tmp 127], argTypes := #[3] } ∧ o.after.toList.map (·.on) = [21, 10] := by
        have h := Option.some.inj hr
        exact ⟨congrArg (·.1) h.symm, congrArg (·.2.2.2) h.symm⟩
      rw [h2] at hall
      exact op22_22 hc h1 hall
    | 23, _ =>
      obtain ⟨h1, h2⟩ : o.op = Op.binOp BinOp.add 9 (Operand.const (Value.string { data := #[16] })) (Operand.tmp 128) 9 ∧ o.after.toList.map (·.on) = [22] := by
        have h := Option.some.inj hr
        exact ⟨congrArg (·.1) h.symm, congrArg (·.2.2.2) h.symm⟩
      rw [h2] at hall
      exact op22_23 hc h1 hall
    | 24, _ =>
      obtain ⟨h1, h2⟩ : o.op = Op.move (Operand.tmp 18) ∧ o.after.toList.map (·.on) = [] := by
        have h := Option.some.inj hr
        exact ⟨congrArg (·.1) h.symm, congrArg (·.2.2.2) h.symm⟩
      rw [h2] at hall
      exact op22_24 hc h1 hall
    | 25, _ =>
      obtain ⟨h1, h2⟩ : o.op = Op.call { callee := Callee.value (Operand.func 26), args := #[Operand.tmp 130], argTypes := #[3] } ∧ o.after.toList.map (·.on) = [24, 22] := by
        have h := Option.some.inj hr
        exact ⟨congrArg (·.1) h.symm, congrArg (·.2.2.2) h.symm⟩
      rw [h2] at hall
      exact op22_25 hc h1 hall
    | 26, _ =>
      obtain ⟨h1, h2⟩ : o.op = Op.binOp BinOp.add 9 (Operand.tmp 129) (Operand.tmp 131) 9 ∧ o.after.toList.map (·.on) = [23, 25] := by
        have h := Option.some.inj hr
        exact ⟨congrArg (·.1) h.symm, congrArg (·.2.2.2) h.symm⟩
      rw [h2] at hall
      exact op22_26 hc h1 hall
    | 27, _ =>
      obtain ⟨h1, h2⟩ : o.op = Op.move (Operand.tmp 18) ∧ o.after.toList.map (·.on) = [] := by
        have h := Option.some.inj hr
        exact ⟨congrArg (·.1) h.symm, congrArg (·.2.2.2) h.symm⟩
      rw [h2] at hall
      exact op22_27 hc h1 hall
    | 28, _ =>
      obtain ⟨h1, h2⟩ : o.op = Op.binOp BinOp.mul 3 (Operand.const (Value.int IntKind.i64 2)) (Operand.tmp 133) 3 ∧ o.after.toList.map (·.on) = [27] := by
        have h := Option.some.inj hr
        exact ⟨congrArg (·.1) h.symm, congrArg (·.2.2.2) h.symm⟩
      rw [h2] at hall
      exact op22_28 hc h1 hall
    | 29, _ =>
      obtain ⟨h1, h2⟩ : o.op = Op.convert 3 5 (Operand.tmp 134) ∧ o.after.toList.map (·.on) = [28] := by
        have h := Option.some.inj hr
        exact ⟨congrArg (·.1) h.symm, congrArg (·.2.2.2) h.symm⟩
      rw [h2] at hall
      exact op22_29 hc h1 hall
    | 30, _ =>
      obtain ⟨h1, h2⟩ : o.op = Op.buildSlice 45 1 #[(0, Operand.tmp 135)] ∧ o.after.toList.map (·.on) = [29] := by
        have h := Option.some.inj hr
        exact ⟨congrArg (·.1) h.symm, congrArg (·.2.2.2) h.symm⟩
      rw [h2] at hall
      exact op22_30 hc h1 hall
    | 31, _ =>
      obtain ⟨h1, h2⟩ : o.op = Op.convert 45 9 (Operand.tmp 136) ∧ o.after.toList.map (·.on) = [30] := by
        have h := Option.some.inj hr
        exact ⟨congrArg (·.1) h.symm, congrArg (·.2.2.2) h.symm⟩
      rw [h2] at hall
      exact op22_31 hc h1 hall
    | 32, _ =>
      obtain ⟨h1, h2⟩ : o.op = Op.binOp BinOp.add 9 (Operand.tmp 132) (Operand.tmp 137) 9 ∧ o.after.toList.map (·.on) = [26, 31] := by
        have h := Option.some.inj hr
        exact ⟨congrArg (·.1) h.symm, congrArg (·.2.2.2) h.symm⟩
      rw [h2] at hall
      exact op22_32 hc h1 hall
    | 33, _ =>
      obtain ⟨h1, h2⟩ : o.op = Op.move (Operand.tmp 14) ∧ o.after.toList.map (·.on) = [] := by
        have h := Option.some.inj hr
        exact ⟨congrArg (·.1) h.symm, congrArg (·.2.2.2) h.symm⟩
      rw [h2] at hall
      exact op22_33 hc h1 hall
    | 34, _ =>
      obtain ⟨h1, h2⟩ : o.op = Op.binOp BinOp.add 9 (Operand.tmp 138) (Operand.tmp 139) 9 ∧ o.after.toList.map (·.on) = [32, 33] := by
        have h := Option.some.inj hr
        exact ⟨congrArg (·.1) h.symm, congrArg (·.2.2.2) h.symm⟩
      rw [h2] at hall
      exact op22_34 hc h1 hall
    | 35, _ =>
      obtain ⟨h1, h2⟩ : o.op = Op.move (Operand.tmp 9) ∧ o.after.toList.map (·.on) = [] := by
        have h := Option.some.inj hr
        exact ⟨congrArg (·.1) h.symm, congrArg (·.2.2.2) h.symm⟩
      rw [h2] at hall
      exact op22_35 hc h1 hall
    | 36, _ =>
      obtain ⟨h1, h2⟩ : o.op = Op.call { callee := Callee.value (Operand.func 26), args := #[Operand.tmp 141], argTypes := #[3] } ∧ o.after.toList.map (·.on) = [35, 25] := by
        have h := Option.some.inj hr
        exact ⟨congrArg (·.1) h.symm, congrArg (·.2.2.2) h.symm⟩
      rw [h2] at hall
      exact op22_36 hc h1 hall
    | 37, _ =>
      obtain ⟨h1, h2⟩ : o.op = Op.binOp BinOp.add 9 (Operand.const (Value.string { data := #[23] })) (Operand.tmp 142) 9 ∧ o.after.toList.map (·.on) = [36] := by
        have h := Option.some.inj hr
        exact ⟨congrArg (·.1) h.symm, congrArg (·.2.2.2) h.symm⟩
      rw [h2] at hall
      exact op22_37 hc h1 hall
    | 38, _ =>
      obtain ⟨h1, h2⟩ : o.op = Op.move (Operand.tmp 11) ∧ o.after.toList.map (·.on) = [] := by
        have h := Option.some.inj hr
        exact ⟨congrArg (·.1) h.symm, congrArg (·.2.2.2) h.symm⟩
      rw [h2] at hall
      exact op22_38 hc h1 hall
    | 39, _ =>
      obtain ⟨h1, h2⟩ : o.op = Op.call { callee := Callee.value (Operand.func 26), args := #[Operand.tmp 144], argTypes := #[3] } ∧ o.after.toList.map (·.on) = [38, 36] := by
        have h := Option.some.inj hr
        exact ⟨congrArg (·.1) h.symm, congrArg (·.2.2.2) h.symm⟩
      rw [h2] at hall
      exact op22_39 hc h1 hall
    | 40, _ =>
      obtain ⟨h1, h2⟩ : o.op = Op.binOp BinOp.add 9 (Operand.tmp 143) (Operand.tmp 145) 9 ∧ o.after.toList.map (·.on) = [37, 39] := by
        have h := Option.some.inj hr
        exact ⟨congrArg (·.1) h.symm, congrArg (·.2.2.2) h.symm⟩
      rw [h2] at hall
      exact op22_40 hc h1 hall
    | 41, _ =>
      obtain ⟨h1, h2⟩ : o.op = Op.move (Operand.tmp 10) ∧ o.after.toList.map (·.on) = [] := by
        have h := Option.some.inj hr
        exact ⟨congrArg (·.1) h.symm, congrArg (·.2.2.2) h.symm⟩
      rw [h2] at hall
      exact op22_41 hc h1 hall
    | 42, _ =>
      obtain ⟨h1, h2⟩ : o.op = Op.call { callee := Callee.value (Operand.func 26), args := #[Operand.tmp 147], argTypes := #[3] } ∧ o.after.toList.map (·.on) = [41, 39] := by
        have h := Option.some.inj hr
        exact ⟨congrArg (·.1) h.symm, congrArg (·.2.2.2) h.symm⟩
      rw [h2] at hall
      exact op22_42 hc h1 hall
    | 43, _ =>
      obtain ⟨h1, h2⟩ : o.op = Op.binOp BinOp.add 9 (Operand.tmp 146) (Operand.tmp 148) 9 ∧ o.after.toList.map (·.on) = [40, 42] := by
        have h := Option.some.inj hr
        exact ⟨congrArg (·.1) h.symm, congrArg (·.2.2.2) h.symm⟩
      rw [h2] at hall
      exact op22_43 hc h1 hall
    | 44, _ =>
      obtain ⟨h1, h2⟩ : o.op = Op.move (Operand.tmp 18) ∧ o.after.toList.map (·.on) = [] := by
        have h := Option.some.inj hr
        exact ⟨congrArg (·.1) h.symm, congrArg (·.2.2.2) h.symm⟩
      rw [h2] at hall
      exact op22_44 hc h1 hall
    | 45, _ =>
      obtain ⟨h1, h2⟩ : o.op = Op.call { callee := Callee.value (Operand.func 26), args := #[Operand.tmp 150], argTypes := #[3] } ∧ o.after.toList.map (·.on) = [44, 42] := by
        have h := Option.some.inj hr
        exact ⟨congrArg (·.1) h.symm, congrArg (·.2.2.2) h.symm⟩
      rw [h2] at hall
      exact op22_45 hc h1 hall
    | 46, _ =>
      obtain ⟨h1, h2⟩ : o.op = Op.binOp BinOp.add 9 (Operand.tmp 149) (Operand.tmp 151) 9 ∧ o.after.toList.map (·.on) = [43, 45] := by
        have h := Option.some.inj hr
        exact ⟨congrArg (·.1) h.symm, congrArg (·.2.2.2) h.symm⟩
      rw [h2] at hall
      exact op22_46 hc h1 hall
    | 47, _ =>
      obtain ⟨h1, h2⟩ : o.op = Op.move (Operand.tmp 18) ∧ o.after.toList.map (·.on) = [] := by
        have h := Option.some.inj hr
        exact ⟨congrArg (·.1) h.symm, congrArg (·.2.2.2) h.symm⟩
      rw [h2] at hall
      exact op22_47 hc h1 hall
    | 48, _ =>
      obtain ⟨h1, h2⟩ : o.op = Op.binOp BinOp.mul 3 (Operand.const (Value.int IntKind.i64 2)) (Operand.tmp 153) 3 ∧ o.after.toList.map (·.on) = [47] := by
        have h := Option.some.inj hr
        exact ⟨congrArg (·.1) h.symm, congrArg (·.2.2.2) h.symm⟩
      rw [h2] at hall
      exact op22_48 hc h1 hall
    | 49, _ =>
      obtain ⟨h1, h2⟩ : o.op = Op.convert 3 5 (Operand.tmp 154) ∧ o.after.toList.map (·.on) = [48] := by
        have h := Option.some.inj hr
        exact ⟨congrArg (·.1) h.symm, congrArg (·.2.2.2) h.symm⟩
      rw [h2] at hall
      exact op22_49 hc h1 hall
    | 50, _ =>
      obtain ⟨h1, h2⟩ : o.op = Op.buildSlice 45 1 #[(0, Operand.tmp 155)] ∧ o.after.toList.map (·.on) = [49] := by
        have h := Option.some.inj hr
        exact ⟨congrArg (·.1) h.symm, congrArg (·.2.2.2) h.symm⟩
      rw [h2] at hall
      exact op22_50 hc h1 hall
    | 51, _ =>
      obtain ⟨h1, h2⟩ : o.op = Op.convert 45 9 (Operand.tmp 156) ∧ o.after.toList.map (·.on) = [50] := by
        have h := Option.some.inj hr
        exact ⟨congrArg (·.1) h.symm, congrArg (·.2.2.2) h.symm⟩
      rw [h2] at hall
      exact op22_51 hc h1 hall
    | 52, _ =>
      obtain ⟨h1, h2⟩ : o.op = Op.binOp BinOp.add 9 (Operand.tmp 152) (Operand.tmp 157) 9 ∧ o.after.toList.map (·.on) = [46, 51] := by
        have h := Option.some.inj hr
        exact ⟨congrArg (·.1) h.symm, congrArg (·.2.2.2) h.symm⟩
      rw [h2] at hall
      exact op22_52 hc h1 hall
    | 53, _ =>
      obtain ⟨h1, h2⟩ : o.op = Op.move (Operand.tmp 14) ∧ o.after.toList.map (·.on) = [] := by
        have h := Option.some.inj hr
        exact ⟨congrArg (·.1) h.symm, congrArg (·.2.2.2) h.symm⟩
      rw [h2] at hall
      exact op22_53 hc h1 hall
    | 54, _ =>
      obtain ⟨h1, h2⟩ : o.op = Op.binOp BinOp.add 9 (Operand.tmp 158) (Operand.tmp 159) 9 ∧ o.after.toList.map (·.on) = [52, 53] := by
        have h := Option.some.inj hr
        exact ⟨congrArg (·.1) h.symm, congrArg (·.2.2.2) h.symm⟩
      rw [h2] at hall
      exact op22_54 hc h1 hall
    | 55, _ =>
      obtain ⟨h1, h2⟩ : o.op = Op.move (Operand.tmp 9) ∧ o.after.toList.map (·.on) = [] := by
        have h := Option.some.inj hr
        exact ⟨congrArg (·.1) h.symm, congrArg (·.2.2.2) h.symm⟩
      rw [h2] at hall
      exact op22_55 hc h1 hall
    | 56, _ =>
      obtain ⟨h1, h2⟩ : o.op = Op.call { callee := Callee.value (Operand.func 26), args := #[Operand.tmp 161], argTypes := #[3] } ∧ o.after.toList.map (·.on) = [55, 45] := by
        have h := Option.some.inj hr
        exact ⟨congrArg (·.1) h.symm, congrArg (·.2.2.2) h.symm⟩
      rw [h2] at hall
      exact op22_56 hc h1 hall
    | 57, _ =>
      obtain ⟨h1, h2⟩ : o.op = Op.binOp BinOp.add 9 (Operand.const (Value.string { data := #[22] })) (Operand.tmp 162) 9 ∧ o.after.toList.map (·.on) = [56] := by
        have h := Option.some.inj hr
        exact ⟨congrArg (·.1) h.symm, congrArg (·.2.2.2) h.symm⟩
      rw [h2] at hall
      exact op22_57 hc h1 hall
    | 58, _ =>
      obtain ⟨h1, h2⟩ : o.op = Op.move (Operand.tmp 10) ∧ o.after.toList.map (·.on) = [] := by
        have h := Option.some.inj hr
        exact ⟨congrArg (·.1) h.symm, congrArg (·.2.2.2) h.symm⟩
      rw [h2] at hall
      exact op22_58 hc h1 hall
    | 59, _ =>
      obtain ⟨h1, h2⟩ : o.op = Op.call { callee := Callee.value (Operand.func 26), args := #[Operand.tmp 164], argTypes := #[3] } ∧ o.after.toList.map (·.on) = [58, 56] := by
        have h := Option.some.inj hr
        exact ⟨congrArg (·.1) h.symm, congrArg (·.2.2.2) h.symm⟩
      rw [h2] at hall
      exact op22_59 hc h1 hall
    | 60, _ =>
      obtain ⟨h1, h2⟩ : o.op = Op.binOp BinOp.add 9 (Operand.tmp 163) (Operand.tmp 165) 9 ∧ o.after.toList.map (·.on) = [57, 59] := by
        have h := Option.some.inj hr
        exact ⟨congrArg (·.1) h.symm, congrArg (·.2.2.2) h.symm⟩
      rw [h2] at hall
      exact op22_60 hc h1 hall
    | 61, _ =>
      obtain ⟨h1, h2⟩ : o.op = Op.move (Operand.tmp 11) ∧ o.after.toList.map (·.on) = [] := by
        have h := Option.some.inj hr
        exact ⟨congrArg (·.1) h.symm, congrArg (·.2.2.2) h.symm⟩
      rw [h2] at hall
      exact op22_61 hc h1 hall
    | 62, _ =>
      obtain ⟨h1, h2⟩ : o.op = Op.call { callee := Callee.value (Operand.func 26), args := #[Operand.tmp 167], argTypes := #[3] } ∧ o.after.toList.map (·.on) = [61, 59] := by
        have h := Option.some.inj hr
        exact ⟨congrArg (·.1) h.symm, congrArg (·.2.2.2) h.symm⟩
      rw [h2] at hall
      exact op22_62 hc h1 hall
    | 63, _ =>
      obtain ⟨h1, h2⟩ : o.op = Op.binOp BinOp.add 9 (Operand.tmp 166) (Operand.tmp 168) 9 ∧ o.after.toList.map (·.on) = [60, 62] := by
        have h := Option.some.inj hr
        exact ⟨congrArg (·.1) h.symm, congrArg (·.2.2.2) h.symm⟩
      rw [h2] at hall
      exact op22_63 hc h1 hall
    | 64, _ =>
      obtain ⟨h1, h2⟩ : o.op = Op.buildSlice 32 5 #[(0, Operand.tmp 111), (1, Operand.tmp 126), (2, Operand.tmp 140), (3, Operand.tmp 160), (4, Operand.tmp 169)] ∧ o.after.toList.map (·.on) = [5, 20, 34, 54, 63] := by
        have h := Option.some.inj hr
        exact ⟨congrArg (·.1) h.symm, congrArg (·.2.2.2) h.symm⟩
      rw [h2] at hall
      exact op22_64 hc h1 hall
    | 65, _ =>
      obtain ⟨h1, h2⟩ : o.op = Op.assign (Operand.tmp 170) ∧ o.after.toList.map (·.on) = [64, 62, 0, 1, 2, 3, 4, 5, 6, 7, 8, 9, 10, 11, 12, 13, 14, 15, 16, 17, 18, 19, 20, 21, 22, 23, 24, 25, 26, 27, 28, 29, 30, 31, 32, 33, 34, 35, 36, 37, 38, 39, 40, 41, 42, 43, 44, 45, 46, 47, 48, 49, 50, 51, 52, 53, 54, 55, 56, 57, 58, 59, 60, 61, 62, 63, 64] := by
        have h := Option.some.inj hr
        exact ⟨congrArg (·.1) h.symm, congrArg (·.2.2.2) h.symm⟩
      rw [h2] at hall
      exact op22_65 hc h1 hall
  · intro a w' hd hts hsame hall hbel
    obtain ⟨v, hv, hs⟩ := hall 65 (by omega)
    obtain ⟨g, rfl, hg, hh⟩ := hs
    refine hend a w' g hd (by rw [hts]; exact hsz) (fun k hk h19 => hsame k (fun j hj e => ?_)) hbel hg hv hh
    have := dl22_in j (by omega)
    omega
end Go.Proofs.Ytcpldcojckhapaa
