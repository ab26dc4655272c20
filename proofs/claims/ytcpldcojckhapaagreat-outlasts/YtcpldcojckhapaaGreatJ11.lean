/-
  A device in memory, and what may turn while it is used.
  Package store over a disk of two sectors: the stamps, the latest copy, what Open answers of a blank disk.
-/
import Derived.Test.YtcpldcojckhapaaGreatE2
import Derived.Test.YtcpldcojckhapaaGreatJ8
set_option maxRecDepth 100000
namespace Go.Proofs.YtcpldcojckhapaaGreat
open Go.RowKit

/-- A line, plain. -/
structure Ln where
  kind : Nat
  bytes : ByteArray
  broken : Bool
def lnc (l : Ln) (j : Nat) : Value := if j = 0 then .int .i64 (l.kind : Nat) else if j = 1 then .string l.bytes else .bool l.broken
/-- A device, plain. -/
structure Dev where
  unit : Nat
  batch : Nat
  nl : Nat
  ln : Nat → Ln
  sz : Nat → Nat
  ent : Nat → Nat → Int
  kp : Nat → Nat
  sec : Nat
  lat : Nat
  stamp : Nat
  arr : Nat
  uns : Nat
  wait : List (Int × Int × ByteArray)
  base : Nat
/-- The cells of a device's block. -/
def devC (D : Dev) (L S : Nat) (E : Nat → Nat) (wv : Value) : Array Value :=
  #[.int .i64 (D.unit : Nat), .int .i64 (D.batch : Nat), .slice (some ⟨L, 0, none⟩) D.nl D.nl,
    .slice (some ⟨E 0, 0, none⟩) (D.sz 0) (D.sz 0), .slice (some ⟨E 1, 0, none⟩) (D.sz 1) (D.sz 1), .slice (some ⟨E 2, 0, none⟩) (D.sz 2) (D.sz 2), .slice (some ⟨E 3, 0, none⟩) (D.sz 3) (D.sz 3),
    .int .i64 (D.kp 0 : Nat), .int .i64 (D.kp 1 : Nat), .int .i64 (D.kp 2 : Nat), .int .i64 (D.kp 3 : Nat),
    .pointer (some ⟨S, 0, none⟩), .int .i64 (D.arr : Nat), .int .i64 (D.uns : Nat), wv]
/-- A device lies at block d. -/
structure DevIn (w : World) (d L S : Nat) (E : Nat → Nat) (wv : Value) (D : Dev) : Prop where
  dev : w.heap[d]? = some (.cells (devC D L S E wv) 110 (0, 0))
  lines : Grid w L 116 D.nl 3 (fun i j => lnc (D.ln i) j)
  ent : ∀ i, i < 4 → Grid w (E i) 3 (D.sz i) 1 (fun k _ => .int .i64 (D.ent i k))
  inj : ∀ i j, i < 4 → j < 4 → i ≠ j → E i ≠ E j
  store : w.heap[S]? = some (.cells #[.int .i64 (D.sec : Nat), .int .i64 (D.lat : Nat), .int .u8 (D.stamp : Nat)] 155 (0, 0))
  wait : w.ownsRow D.base 163 3 wv D.wait.length (D.wait.flatMap encF)
  lo : D.base ≤ d ∧ D.base ≤ L ∧ D.base ≤ S ∧ ∀ i, i < 4 → D.base ≤ E i
def DevAt (w : World) (d : Nat) (D : Dev) : Prop := ∃ L S E wv, DevIn w d L S E wv D

/-- The types of the blocks that a device is made of. -/
def devT (t : TypeId) : Bool := t == 110 || t == 116 || t == 3 || t == 155 || t == 163
/-- What may turn while a device is used: its own blocks. -/
structure Ft (w w' : World) : Prop where
  os : w'.os = w.os
  tape : w'.tape = w.tape
  output : w'.output = w.output
  size : w.heap.size ≤ w'.heap.size
  keep : ∀ (g : Nat) (cur : Array Value) (t : TypeId), w.heap[g]? = some (.cells cur t (0, 0)) → devT t = false → w'.heap[g]? = w.heap[g]?
theorem Ft.refl (w : World) : Ft w w := ⟨rfl, rfl, rfl, Nat.le_refl _, fun _ _ _ _ _ => rfl⟩
theorem Ft.trans {a b c : World} (h : Ft a b) (h' : Ft b c) : Ft a c :=
  ⟨h'.os.trans h.os, h'.tape.trans h.tape, h'.output.trans h.output, Nat.le_trans h.size h'.size, fun g cur t hg ht => (h'.keep g cur t ((h.keep g cur t hg ht).trans hg) ht).trans (h.keep g cur t hg ht)⟩
theorem Ft.of_below {w w' : World} (h : Below w.heap.size w w') : Ft w w' := ⟨h.os, h.tape, h.output, h.size, fun g _ _ hg _ => h.block g (lt_of_block hg)⟩
theorem Ft.drewN (w : World) (k : Nat) : Ft w (w.drewN k) := Ft.of_below (below_drewN (Below.refl _ _) _)
theorem Ft.alloc (w : World) (o : Obj) : Ft w (w.alloc o) := Ft.of_below (bel_alloc (Below.refl _ _) _)
theorem Ft.setCell {w : World} {g : Nat} {cur : Array Value} {t : TypeId} (h : w.heap[g]? = some (.cells cur t (0, 0))) (ht : devT t = true) (k : Nat) (v : Value) : Ft w (w.setCell ⟨g, k, none⟩ v) := by
  refine ⟨rfl, rfl, rfl, by simp, fun g' cur' t' hg' ht' => ?_⟩
  have : g' ≠ g := fun e => by
    subst e
    rw [h] at hg'
    simp only [Option.some.injEq, Obj.cells.injEq, and_true] at hg'
    rw [hg'.2] at ht
    rw [ht] at ht'
    exact absurd ht' (by decide)
  exact heap_setCell_other w _ _ v (by simpa using this)
/-- What is owned and no device's stays. -/
theorem Ft.own {w w' : World} (h : Ft w w') {B : Nat} {e : TypeId} {size : Nat} {v : Value} {n : Nat} {xs : List Value} (ho : w.ownsRow B e size v n xs) (he : devT e = false) : w'.ownsRow B e size v n xs :=
  own_same ho fun g hg => by obtain ⟨cur, hc⟩ := own_block ho g hg; exact h.keep g cur e hc he

/-- All blocks that were there are as they were, but one. -/
structure Chg1 (g : Nat) (w w' : World) : Prop where
  os : w'.os = w.os
  tape : w'.tape = w.tape
  output : w'.output = w.output
  size : w.heap.size ≤ w'.heap.size
  block : ∀ k, k < w.heap.size → k ≠ g → w'.heap[k]? = w.heap[k]?
section
variable {g : Nat} {w w' w2 : World}
theorem Chg1.refl (g : Nat) (w : World) : Chg1 g w w := ⟨rfl, rfl, rfl, Nat.le_refl _, fun _ _ _ => rfl⟩
theorem Chg1.of_below (g : Nat) (h : Below w.heap.size w w') : Chg1 g w w' := ⟨h.os, h.tape, h.output, h.size, fun k hk _ => h.block k hk⟩
theorem Chg1.trans (h : Chg1 g w w') (h' : Chg1 g w' w2) : Chg1 g w w2 :=
  ⟨h'.os.trans h.os, h'.tape.trans h.tape, h'.output.trans h.output, Nat.le_trans h.size h'.size, fun k hk hg => (h'.block k (Nat.lt_of_lt_of_le hk h.size) hg).trans (h.block k hk hg)⟩
theorem Chg1.then_below (h : Chg1 g w w') (h' : Below w'.heap.size w' w2) : Chg1 g w w2 := h.trans (Chg1.of_below g h')
theorem Chg1.setCell (h : Chg1 g w w') (k : Nat) (v : Value) : Chg1 g w (w'.setCell ⟨g, k, none⟩ v) :=
  h.trans ⟨rfl, rfl, rfl, by simp, fun k' _ hg => heap_setCell_other w' _ _ v (by simpa using hg)⟩
theorem Chg1.alloc (h : Chg1 g w w') (o : Obj) : Chg1 g w (w'.alloc o) := h.then_below (bel_alloc (Below.refl _ _) _)
theorem Chg1.drewN (h : Chg1 g w w') (k : Nat) : Chg1 g w (w'.drewN k) := h.then_below (below_drewN (Below.refl _ _) _)
theorem Chg1.setNew (h : Chg1 g w w') (a k : Nat) (ha : w.heap.size ≤ a) (v : Value) : Chg1 g w (w'.setCell ⟨a, k, none⟩ v) :=
  ⟨h.os, h.tape, h.output, Nat.le_trans h.size (by simp), fun k' hk hg => (heap_setCell_other w' _ _ v (by show k' ≠ a; omega)).trans (h.block k' hk hg)⟩
theorem Chg1.cell (h : Chg1 g w w') {b o : Nat} (hb : b < w.heap.size) (hg : b ≠ g) : w'.cell? ⟨b, o, none⟩ = w.cell? ⟨b, o, none⟩ := by
  simp only [World.cell?, h.block b hb hg]
theorem Chg1.ft {cur : Array Value} {t : TypeId} (h : Chg1 g w w') (hg : w.heap[g]? = some (.cells cur t (0, 0))) (ht : devT t = true) : Ft w w' :=
  ⟨h.os, h.tape, h.output, h.size, fun k c t' hk ht' => h.block k (lt_of_block hk) (fun e => by
    subst e
    rw [hg] at hk
    simp only [Option.some.injEq, Obj.cells.injEq, and_true] at hk
    rw [hk.2] at ht
    rw [ht] at ht'
    exact absurd ht' (by decide))⟩
end
end Go.Proofs.YtcpldcojckhapaaGreat

set_option maxRecDepth 100000
namespace Go.Proofs.YtcpldcojckhapaaGreat
open Go.RowKit

set_option maxRecDepth 100000 in
set_option maxHeartbeats 1000000 in
theorem fits_at (n m g k : Nat) (S : Nat → ByteArray) (w : World) (h1 : m ≤ n) (h2 : n ≤ 64) (hc : ∀ j, j < n → w.cell? ⟨g, j, none⟩ = some (.string (S j))) (hs : ∀ j, j < n → (S j).size = 64) :
    Calls Tryz.prog 61 #[.slice (some ⟨g, 0, none⟩) n k, .int .i64 (m : Nat)] w fun e w' => e = .returned (.bool true) ∧ w' = w := by
  have HC := hideF hc
  have HS := hideF hs
  clear hc hs
  go_enter Tryz.func61, Tryz.ntmps61
  go_wp2_with fail
  refine (within_at _ _ 64 true ?_ _).mono ?_
  · simp; omega
  rintro e w1 ⟨rfl, rfl⟩
  go_wp2_with fail
  go_loopw [14] (fun i wr => ∃ q : Nat, q ≤ n ∧ i = .int .i64 (q : Nat) ∧ w1 = wr) (fun i _ => n - (intOf i).toNat)
  case atStart => exact ⟨0, by omega, rfl, rfl⟩
  case round =>
    obtain ⟨q, hq, rfl, rfl⟩ := hrel
    by_cases hqn : q < n
    · have hcq := HC.out q hqn
      have hsq : ((S q).size : Int) = 64 := by have := HS.out q hqn; omega
      go_wp2_with fail
      go_roundw
      case rel => exact ⟨q + 1, by omega, by go_num, trivial⟩
      case measure => simp [intOf]; omega
    · go_wp2
      go_ret
      exact ⟨rfl, rfl⟩

set_option maxRecDepth 100000 in
set_option maxHeartbeats 1000000 in
theorem copyOn_0 (b g k : Nat) (w : World) (hk : 2 ≤ k) (hb : w.cell? ⟨b, 0, none⟩ = some (.int .i64 1)) :
    Calls Tryz.prog 95 #[.pointer (some ⟨b, 0, none⟩), .slice (some ⟨g, 0, none⟩) 2 k, .int .i64 0] w fun e w' => e = .returned (.slice (some ⟨g, 0, none⟩) 1 k) ∧ ∃ n, w' = w.drewN n := by
  go_enter Tryz.func95, Tryz.ntmps95
  go_wp2
  go_quiet (fail)
  go_wp2
  go_ret
  exact ⟨rfl, _, rfl⟩

set_option maxRecDepth 100000 in
set_option maxHeartbeats 1000000 in
theorem copyOn_1 (b g k : Nat) (w : World) (hk : 2 ≤ k) (hb : w.cell? ⟨b, 0, none⟩ = some (.int .i64 1)) :
    Calls Tryz.prog 95 #[.pointer (some ⟨b, 0, none⟩), .slice (some ⟨g, 0, none⟩) 2 k, .int .i64 1] w fun e w' => e = .returned (.slice (some ⟨g, 1, none⟩) 1 (k - 1)) ∧ ∃ n, w' = w.drewN n := by
  go_enter Tryz.func95, Tryz.ntmps95
  go_wp2
  go_quiet (fail)
  go_wp2
  go_ret
  exact ⟨rfl, _, rfl⟩

/-- The stamp of a copy of one sector. -/
def stampL (s : ByteArray) : Nat := if Pl.byt s 63 = Pl.byt s 0 ∧ Pl.byt s 0 ≤ 3 then Pl.byt s 0 else 0

set_option maxRecDepth 100000 in
set_option maxHeartbeats 1000000 in
theorem stampOf_at (g o k st : Nat) (s : ByteArray) (w : World) (hc : w.cell? ⟨g, o, none⟩ = some (.string s)) (hs : s.size = 64) (hst : st = stampL s) :
    Calls Tryz.prog 120 #[.slice (some ⟨g, o, none⟩) 1 k] w fun e w' => e = .returned (.int .u8 (st : Nat)) ∧ w' = w := by
  have gb := Pl.get_byt s
  have hl : 0 < s.size := by omega
  have b0 := Pl.byt_lt s 0
  have b1 := Pl.byt_lt s 63
  have HS := hideF hs
  have HT := hideF hst
  clear hs hst
  by_cases he : Pl.byt s 63 = Pl.byt s 0
  · have te : ((Pl.byt s 63 : Int) != (Pl.byt s 0 : Int)) = false := by simp; omega
    have HE := hideF he
    clear he
    go_enter Tryz.func120, Tryz.ntmps120
    go_wp2_with fail
    go_loopw [12] (fun i wr => ∃ q : Nat, q ≤ 1 ∧ i = .int .i64 (q : Nat) ∧ w = wr) (fun i _ => 1 - (intOf i).toNat)
    case atStart => exact ⟨0, by omega, rfl, rfl⟩
    case round =>
      obtain ⟨q, hq, rfl, rfl⟩ := hrel
      by_cases hqn : q < 1
      · obtain rfl : q = 0 := by omega
        go_wp2_with fail
        refine (endOf_at s _ HS.out).mono ?_
        rintro e w1 ⟨rfl, rfl⟩
        go_wp2_with fail
        go_roundw
        case rel => exact ⟨1, by omega, by go_num, trivial⟩
        case measure => simp [intOf]
      · by_cases h3 : Pl.byt s 0 ≤ 3
        · have t3 : decide ((3 : Int) < (Pl.byt s 0 : Int)) = false := by simp; omega
          go_wp2
          go_ret
          exact ⟨ru8 (by rw [HT.out]; unfold stampL; rw [if_pos ⟨HE.out, h3⟩]), rfl⟩
        · have t3 : (3 : Int) < (Pl.byt s 0 : Int) := by omega
          go_wp2
          go_ret
          exact ⟨ru8 (by rw [HT.out]; unfold stampL; rw [if_neg (by omega)]; rfl), rfl⟩
  · have te : ((Pl.byt s 63 : Int) != (Pl.byt s 0 : Int)) = true := by simp; omega
    have HE := hideF he
    clear he
    go_enter Tryz.func120, Tryz.ntmps120
    go_wp2_with fail
    go_loopw [12] (fun i wr => i = .int .i64 0 ∧ w = wr) (fun i _ => 1 - (intOf i).toNat)
    case atStart => exact ⟨rfl, rfl⟩
    case round =>
      obtain ⟨rfl, rfl⟩ := hrel
      go_wp2_with fail
      refine (endOf_at s _ HS.out).mono ?_
      rintro e w1 ⟨rfl, rfl⟩
      go_wp2
      go_ret
      exact ⟨ru8 (by rw [HT.out]; unfold stampL; rw [if_neg (fun h => HE.out h.1)]; rfl), rfl⟩

set_option maxRecDepth 100000 in
set_option maxHeartbeats 1000000 in
theorem findLatest_blank (b g k : Nat) (A B : ByteArray) (w : World) (hk : 2 ≤ k) (hb : w.cell? ⟨b, 0, none⟩ = some (.int .i64 1)) (h0 : w.cell? ⟨g, 0, none⟩ = some (.string A)) (h1 : w.cell? ⟨g, 1, none⟩ = some (.string B))
    (hA : A.size = 64) (hB : B.size = 64) (sA : 0 = stampL A) (sB : 0 = stampL B) :
    Calls Tryz.prog 92 #[.pointer (some ⟨b, 0, none⟩), .slice (some ⟨g, 0, none⟩) 2 k] w fun e w' => e = .returned (.tuple #[]) ∧ ∃ n, w' = w.drewN n := by
  have HA := hideF hA
  have HB := hideF hB
  have HS := hideF sA
  have HT := hideF sB
  clear hA hB sA sB
  go_enter Tryz.func92, Tryz.ntmps92
  go_wp2_with fail
  refine (copyOn_0 b g k _ hk hb).mono ?_
  rintro e w1 ⟨rfl, n1, rfl⟩
  go_wp2_with fail
  refine (stampOf_at g 0 k 0 A _ (by simpa using h0) HA.out HS.out).mono ?_
  rintro e w2 ⟨rfl, rfl⟩
  go_wp2_with fail
  refine (copyOn_1 b g k _ hk (by simpa using hb)).mono ?_
  rintro e w3 ⟨rfl, n3, rfl⟩
  go_wp2_with fail
  refine (stampOf_at g 1 (k - 1) 0 B _ (by simpa using h1) HB.out HT.out).mono ?_
  rintro e w4 ⟨rfl, rfl⟩
  go_wp2
  go_end0
  exact ⟨rfl, _, rfl⟩
end Go.Proofs.YtcpldcojckhapaaGreat
