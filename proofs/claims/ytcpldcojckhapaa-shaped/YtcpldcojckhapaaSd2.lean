/-
  What the last loop of Shaped finds: five texts and the shapes that they were meant to have.
-/
import Derived.Test.YtcpldcojckhapaaSd0
import Derived.Test.YtcpldcojckhapaaR1
namespace Go.Proofs.Ytcpldcojckhapaa
open Go.RowKit

def numL (f : Nat → Nat) (m : Nat) : List Int := (List.range m).map fun i => ((f i : Nat) : Int)
theorem numL_len (f : Nat → Nat) (m : Nat) : (numL f m).length = m := by simp [numL]
theorem numL_succ (f : Nat → Nat) (m : Nat) : numL f (m + 1) = numL f m ++ [((f m : Nat) : Int)] := by simp [numL, List.range_succ]
theorem numL_at (f : Nat → Nat) (m q : Nat) (h : q < m) : (numL f m)[q]? = some ((f q : Nat) : Int) := by simp [numL, h]
theorem shp_size {s : ByteArray} {x : Pl.Shp} (h : Pl.ShpIs s x 0) : 0 < s.size ∧ s.size ≤ 253 := by
  rcases h with ⟨_, _, h⟩ | ⟨h, _⟩
  · exact absurd h (by omega)
  · exact h

/-- The i-th text and what it was meant to say. -/
def Item (W : World) (B gL gW i : Nat) : Prop :=
  ∃ (s : ByteArray) (f t fr c io tz m n : Nat) (vs : List Int) (ai : Option Addr) (ki : Nat),
    gL < W.heap.size ∧ gW < W.heap.size ∧ W.cell? ⟨gL, i, none⟩ = some (.string s) ∧ W.cell? ⟨gW, i * 8, none⟩ = some (.int .i64 (f : Nat)) ∧ W.cell? ⟨gW, i * 8 + 1, none⟩ = some (.int .i64 (t : Nat)) ∧ W.cell? ⟨gW, i * 8 + 2, none⟩ = some (.int .i64 (fr : Nat)) ∧ W.cell? ⟨gW, i * 8 + 3, none⟩ = some (.int .i64 (c : Nat)) ∧ W.cell? ⟨gW, i * 8 + 4, none⟩ = some (.int .i64 (io : Nat)) ∧ W.cell? ⟨gW, i * 8 + 5, none⟩ = some (.int .i64 (tz : Nat)) ∧ W.cell? ⟨gW, i * 8 + 6, none⟩ = some (.int .i64 (m : Nat)) ∧ W.cell? ⟨gW, i * 8 + 7, none⟩ = some (.slice ai n ki) ∧
    W.ownsRow B 3 1 (.slice ai n ki) n (vs.flatMap encI) ∧ vs.length = n ∧ n ≤ 2000 ∧ Pl.ShpIs s ⟨f, t, fr, c, io, tz, m, vs⟩ 0 ∧ Pl.ShpIs (s ++ ⟨#[0]⟩) Pl.noShp 3 ∧ Pl.ShpIs (s.extract 0 (s.size - 1)) Pl.noShp 3
theorem Item.below {W W' : World} {B gL gW i : Nat} (h : Item W B gL gW i) (hb : Below W.heap.size W W') : Item W' B gL gW i := by
  obtain ⟨s, f, t, fr, c, io, tz, m, n, vs, ai, ki, h1, h2, c0, c1, c2, c3, c4, c5, c6, c7, c8, ho, r⟩ := h
  have e := fun (j : Nat) => hb.cell (p := ⟨gW, j, none⟩) h2
  exact ⟨s, f, t, fr, c, io, tz, m, n, vs, ai, ki, Nat.lt_of_lt_of_le h1 hb.size, Nat.lt_of_lt_of_le h2 hb.size, (hb.cell (p := ⟨gL, i, none⟩) h1).trans c0, (e _).trans c1, (e _).trans c2, (e _).trans c3, (e _).trans c4, (e _).trans c5, (e _).trans c6, (e _).trans c7, (e _).trans c8, ownsRow_below ho hb, r⟩
theorem items (W : World) (B gL gW x y c q pl : Nat) (ws bs : Nat → Nat) (a12 a13 a2 : Option Addr) (k12 k13 k2 : Nat) (hpl : pl = (q + 7) / 8) (hx : x < 65536) (hy : y < 65536) (hc1 : 1 ≤ c) (hc : c ≤ 125) (hq1 : 1 ≤ q) (hq : q ≤ 100) (hw : ∀ i, ws i < 65536) (hb : ∀ i, bs i < 2)
    (hL : W.heap[gL]? = some (.cells #[.string (Pl.hdB 3 x c), .string (Pl.hdB 15 x q ++ oneB pl ++ Pl.packB bs q pl), .string (Pl.hdB 16 x q ++ oneB (2 * q) ++ Pl.catB ws q), .string (Pl.hdB 23 x c ++ twoB y ++ twoB q ++ oneB (2 * q) ++ Pl.catB ws q), .string (Pl.hdB 22 x y ++ twoB c)] 9 (0, 0)))
    (hW : W.heap[gW]? = some (.cells #[.int .i64 3, .int .i64 2, .int .i64 (x : Nat), .int .i64 (c : Nat), .int .i64 0, .int .i64 0, .int .i64 0, .slice none 0 0,
      .int .i64 15, .int .i64 0, .int .i64 0, .int .i64 0, .int .i64 0, .int .i64 (x : Nat), .int .i64 (q : Nat), .slice a13 q k13,
      .int .i64 16, .int .i64 0, .int .i64 0, .int .i64 0, .int .i64 2, .int .i64 (x : Nat), .int .i64 (q : Nat), .slice a12 q k12,
      .int .i64 23, .int .i64 2, .int .i64 (x : Nat), .int .i64 (c : Nat), .int .i64 2, .int .i64 (y : Nat), .int .i64 (q : Nat), .slice a12 q k12,
      .int .i64 22, .int .i64 2, .int .i64 (x : Nat), .int .i64 1, .int .i64 2, .int .i64 (x : Nat), .int .i64 1, .slice a2 2 k2] 48 (0, 0)))
    (h12 : W.ownsRow B 3 1 (.slice a12 q k12) q ((numL ws q).flatMap encI)) (h13 : W.ownsRow B 3 1 (.slice a13 q k13) q ((numL bs q).flatMap encI)) (h2 : W.ownsRow B 3 1 (.slice a2 2 k2) 2 ([((y : Nat) : Int), ((c : Nat) : Int)].flatMap encI)) : ∀ i, i < 5 → Item W B gL gW i := by
  have e := fun (j : Nat) => cell_of_row W gW j _ 48 (0, 0) hW
  have eL := fun (j : Nat) => cell_of_row W gL j _ 9 (0, 0) hL
  have l1 := lt_of_block hL
  have l2 := lt_of_block hW
  intro i hi
  match i, hi with
  | 0, _ =>
    obtain ⟨p1, p2, p3⟩ := Pl.laid3 x c hx hc1 hc
    exact ⟨_, 3, 2, x, c, 0, 0, 0, 0, [], none, 0, l1, l2, eL 0, e 0, e 1, e 2, e 3, e 4, e 5, e 6, e 7, World.ownsRow_nil _ _ _ _, rfl, by omega, p1, p2, p3⟩
  | 1, _ =>
    obtain ⟨p1, p2, p3⟩ := Pl.laid15 x q pl bs hx hq1 hq hpl hb
    exact ⟨_, 15, 0, 0, 0, 0, x, q, q, numL bs q, a13, k13, l1, l2, eL 1, e 8, e 9, e 10, e 11, e 12, e 13, e 14, e 15, h13, numL_len _ _, by omega, p1, p2, p3⟩
  | 2, _ =>
    obtain ⟨p1, p2, p3⟩ := Pl.laid16 x q ws hx hq1 hq hw
    exact ⟨_, 16, 0, 0, 0, 2, x, q, q, numL ws q, a12, k12, l1, l2, eL 2, e 16, e 17, e 18, e 19, e 20, e 21, e 22, e 23, h12, numL_len _ _, by omega, p1, p2, p3⟩
  | 3, _ =>
    obtain ⟨p1, p2, p3⟩ := Pl.laid23 x c y q ws hx hy hc1 hc hq1 hq hw
    exact ⟨_, 23, 2, x, c, 2, y, q, q, numL ws q, a12, k12, l1, l2, eL 3, e 24, e 25, e 26, e 27, e 28, e 29, e 30, e 31, h12, numL_len _ _, by omega, p1, p2, p3⟩
  | 4, _ =>
    obtain ⟨p1, p2, p3⟩ := Pl.laid22 x y c hx hy (by omega)
    exact ⟨_, 22, 2, x, 1, 2, x, 1, 2, _, a2, k2, l1, l2, eL 4, e 32, e 33, e 34, e 35, e 36, e 37, e 38, e 39, h2, rfl, by omega, p1, p2, p3⟩
theorem shape_bad (s : ByteArray) (W : World) (h : Pl.ShpIs s Pl.noShp 3) : Calls Try.prog 18 #[.string s] W fun e w' => ∃ v, e = .returned v ∧ ∃ a c, v = .tuple #[.agg #[.int .i64 0, .int .i64 0, .int .i64 0, .int .i64 0, .int .i64 0, .int .i64 0, .int .i64 0, .slice a 0 c], .int .u8 3] ∧ Below W.heap.size W w' := by
  refine (shape_any s W).mono ?_
  rintro e w' ⟨x, v, k, rfl, hown, hsh, _, hb⟩
  obtain ⟨rfl, rfl⟩ := hsh.eq h
  obtain ⟨a, c, rfl, _⟩ := own_view hown
  exact ⟨_, rfl, a, c, rfl, hb⟩
theorem enter17 (x : Value) (w : World) : (callFunc 18 #[x]).run Try.prog w = .ok (.enter 18 #[x]) w := by kernel_rfl
theorem new_two (W : World) (x y : Int) (B : Nat) (hB : B ≤ W.heap.size) : (W.alloc (.cells #[.int .i64 x, .int .i64 y] 3)).ownsRow B 3 1 (.slice (some ⟨W.heap.size, 0, none⟩) 2 2) 2 ([x, y].flatMap encI) :=
  ⟨rfl, .inr ⟨W.heap.size, 2, _, rfl, hB, heap_alloc_new W _, Nat.le_refl _, by unfold maxLen; omega, rfl, rfl⟩⟩
end Go.Proofs.Ytcpldcojckhapaa
