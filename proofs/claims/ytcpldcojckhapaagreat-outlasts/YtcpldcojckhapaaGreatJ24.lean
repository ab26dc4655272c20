/-
  Waits: its calls, one behind the other.
  Outlasts: the device while holders are written, one after the other: what Feed and Flush do.
-/
import Derived.Test.YtcpldcojckhapaaGreatJ23
import Derived.Test.YtcpldcojckhapaaGreatJ11
import Derived.Test.YtcpldcojckhapaaGreatOb
import Derived.Test.YtcpldcojckhapaaGreatJ21
set_option maxRecDepth 100000
namespace Go.Proofs.YtcpldcojckhapaaGreat
open Go.RowKit

/-- The entries with one holder set. -/
def entSet (D : Dev) (a : Nat) (v : Nat) (i k : Nat) : Int := if i = 2 ∧ k = a then (v : Nat) else D.ent i k
def readB (a : Nat) : ByteArray := ⟨#[3]⟩ ++ twoB a ++ twoB 1
theorem byt_data (s : ByteArray) (l : List UInt8) (h : s.data.toList = l) (k : Nat) : Pl.byt s k = (l.getD k 0).toNat := by rw [Pl.byt_list, h]
theorem writeB_list (a v : Nat) : (writeB a v).data.toList = [6, UInt8.ofNat (a / 256), UInt8.ofNat (a % 256), UInt8.ofNat (v / 256), UInt8.ofNat (v % 256)] := by simp [writeB, twoB]
theorem readB_list (a : Nat) : (readB a).data.toList = [3, UInt8.ofNat (a / 256), UInt8.ofNat (a % 256), 0, 1] := by simp [readB, twoB]
theorem writeB_size (a v : Nat) : (writeB a v).size = 5 := by rw [Pl.size_list, writeB_list]; rfl
theorem readB_size (a : Nat) : (readB a).size = 5 := by rw [Pl.size_list, readB_list]; rfl
theorem shp_write (a v : Nat) (ha : a < 65536) (hv : v < 65536) {x : Pl.Shp} {k : Nat} (h : Pl.ShpIs (writeB a v) x k) : x = ⟨6, 0, 0, 0, 2, a, 1, [((v : Nat) : Int)]⟩ ∧ k = 0 := by
  have hz := writeB_size a v
  have hw1 : Pl.wd (writeB a v) 1 = a := by
    unfold Pl.wd; rw [byt_data _ _ (writeB_list a v), byt_data _ _ (writeB_list a v)]; simp; omega
  have hw3 : Pl.wd (writeB a v) 3 = v := by
    unfold Pl.wd; rw [byt_data _ _ (writeB_list a v), byt_data _ _ (writeB_list a v)]; simp; omega
  have h0 : Pl.byt (writeB a v) 0 = 6 := by rw [byt_data _ _ (writeB_list a v)]; rfl
  have h' := Pl.shpIs6 (s := writeB a v) (by omega) (by omega) h0 (x := ⟨6, 0, 0, 0, 2, a, 1, [((v : Nat) : Int)]⟩) (k := 0) (.inl ⟨hz, by rw [hw1, hw3], rfl⟩)
  exact Pl.ShpIs.eq h h'
theorem shp_read (a : Nat) (ha : a < 65536) {x : Pl.Shp} {k : Nat} (h : Pl.ShpIs (readB a) x k) : x = ⟨3, 2, a, 1, 0, 0, 0, []⟩ ∧ k = 0 := by
  have hz := readB_size a
  have hw1 : Pl.wd (readB a) 1 = a := by
    unfold Pl.wd; rw [byt_data _ _ (readB_list a), byt_data _ _ (readB_list a)]; simp; omega
  have hw3 : Pl.wd (readB a) 3 = 1 := by
    unfold Pl.wd; rw [byt_data _ _ (readB_list a), byt_data _ _ (readB_list a)]; rfl
  have h0 : Pl.byt (readB a) 0 = 3 := by rw [byt_data _ _ (readB_list a)]; rfl
  have h' := Pl.shpIs3 (s := readB a) (by omega) (by omega) h0 (x := ⟨3, 2, a, 1, 0, 0, 0, []⟩) (k := 0) (.inl ⟨⟨hz, by omega, by omega⟩, by rw [hw1, hw3], rfl⟩)
  exact Pl.ShpIs.eq h h'
theorem doIs_write (d L S : Nat) (E : Nat → Nat) (wv : Value) (D : Dev) (a v : Nat) (ha : a < D.sz 2) (hs : D.sz 2 ≤ 1000) (hv : v < 65536) (b : Bool) (hb : b = decide (a < D.kp 2)) : DoIs d L S E wv D (writeB a v) (writeB a v) b (entSet D a v) := by
  intro x vv k B w hsh hD hown
  obtain ⟨rfl, rfl⟩ := shp_write a v (by omega) hv hsh
  have hf : entW { D with arr := D.arr + 1 } ⟨6, 0, 0, 0, 2, a, 1, [((v : Nat) : Int)]⟩ = entSet D a v := by
    funext i j
    unfold entW entSet
    by_cases e : i = 2 ∧ j = a
    · rw [if_pos e, if_pos ⟨e.1, by simp only; omega, by simp only [List.length_singleton]; omega⟩]
      simp [e.2]
    · rw [if_neg e, if_neg (fun h => e ⟨h.1, by have := h.2; simp only [List.length_singleton] at this; omega⟩)]
  have := do_ok d L S B E wv { D with arr := D.arr + 1 } (writeB a v) ⟨6, 0, 0, 0, 2, a, 1, [((v : Nat) : Int)]⟩ vv b (writeB a v) w hD (by simp only; omega) (by simp only; omega) (by simp only; omega) hown
    (by unfold hasB; simp only [Bool.and_eq_true, decide_eq_true_eq]; omega) rfl (by simp only; omega) (by simp only; omega) (by simp only; omega) (by simp only; omega) (by rw [hb]; simp)
    (fun a' n' c' w1 _ _ => answer_set d (writeB a v) _ a' n' c' 0 w1 rfl)
  refine this.mono ?_
  rintro e w' ⟨rfl, hD', hc⟩
  rw [hf] at hD'
  exact ⟨rfl, hD', 2, by omega, hc⟩
theorem doIs_read (d L S : Nat) (E : Nat → Nat) (wv : Value) (D : Dev) (a y : Nat) (ha : a < D.sz 2) (hs : D.sz 2 ≤ 100) (hy : y < 65536) (hv : D.ent 2 a = (y : Nat)) : DoIs d L S E wv D (readB a) (tellB 3 [y]) false D.ent := by
  intro x vv k B w hsh hD hown
  obtain ⟨rfl, rfl⟩ := shp_read a (by omega) hsh
  have hf : entW { D with arr := D.arr + 1 } ⟨3, 2, a, 1, 0, 0, 0, []⟩ = D.ent := by
    funext i j
    unfold entW
    rw [if_neg (fun h => by have := h.2; simp only [List.length_nil] at this; omega)]
  have := do_ok d L S B E wv { D with arr := D.arr + 1 } (readB a) ⟨3, 2, a, 1, 0, 0, 0, []⟩ vv false (tellB 3 [y]) w hD (by simp only; omega) (by simp only; omega) (by simp only; omega) hown
    (by unfold hasB; simp only [Bool.and_eq_true, decide_eq_true_eq]; omega) rfl (by simp only; omega) (by simp only; omega) (by simp only; omega) (by simp only; omega) (by simp)
    (fun a' n' c' w1 _ hD1 => answer_words d L S E wv _ (readB a) _ a' n' c' 0 3 [y] w1 hD1 (by simp only; omega) (by simp only; omega) (by simp only; omega) (by simp only; omega) (by simp only; omega) rfl (by intro z hz; simp at hz; omega) (fun j z hj => by
      match j, hj with
      | 0, hj =>
        simp at hj
        subst hj
        show entW { D with arr := D.arr + 1 } ⟨3, 2, a, 1, 0, 0, 0, []⟩ 2 (a + 0) = _
        rw [hf, Nat.add_zero, hv]) (by rw [readB_size]; omega) (by rw [byt_data _ _ (readB_list a)]; rfl))
  refine this.mono ?_
  rintro e w' ⟨rfl, hD', hc⟩
  rw [hf] at hD'
  exact ⟨rfl, hD', 0, by omega, hc⟩

theorem takeIs_now (d L S i m : Nat) (E : Nat → Nat) (wv : Value) (D : Dev) (s r : ByteArray) (f : Nat → Nat → Int) (hi : i < D.nl) (hk : (D.ln i).kind = 0) (hm : m < 65536) (hun : D.unit < 256) (ha : D.arr ≤ 1000000) (hr : r.size ≤ 253) (hdo : DoIs d L S E wv D s r false f) (hu : D.uns = 0) (hwl : D.wait.length < D.batch) :
    TakeIs d L S E wv D { D with arr := D.arr + 1, ent := f } i m s [(2, 0, ((i : Nat) : Int), streamB m D.unit r)] := fun w h =>
  (take_now d L S i m E wv D s r f w h hi hk hm hun ha hr hdo hu hwl (by omega)).mono fun _ _ ⟨v, h1, h2, h3, h4⟩ => ⟨v, wv, h1, h2, fun e => by simp at e, h3, h4⟩
theorem takeIs_waitF (d L S i m : Nat) (E : Nat → Nat) (wv : Value) (D : Dev) (s r : ByteArray) (f : Nat → Nat → Int) (hi : i < D.nl) (hk : (D.ln i).kind = 0) (hm : m < 65536) (hun : D.unit < 256) (ha : D.arr ≤ 1000000) (hr : r.size ≤ 253) (hdo : DoIs d L S E wv D s r false f) (hu : 0 < D.uns) (hwl : D.wait.length + 1 < D.batch) (hub : D.uns < D.batch) (hx : ∀ y ∈ D.wait, y.1 < ((D.arr + 1 : Nat) : Int)) (hw1 : D.wait.length ≤ 1000) (hbb : D.batch ≤ 1000) :
    TakeIs d L S E wv D { D with arr := D.arr + 1, ent := f, wait := D.wait ++ [(((D.arr + 1 : Nat) : Int), ((i : Nat) : Int), streamB m D.unit r)] } i m s [] := fun w h =>
  (take_waitF d L S i m E wv D s r f w h hi hk hm hun ha hr hdo hu hwl hub hx hw1 hbb).mono fun _ _ ⟨v', h1, h2, h3⟩ => ⟨.slice none 0 0, v', h1, World.ownsRow_nil _ _ _ _, fun _ => rfl, h2, h3⟩
theorem takeIs_waitT (d L S i m : Nat) (E : Nat → Nat) (wv : Value) (D : Dev) (s r : ByteArray) (f : Nat → Nat → Int) (hi : i < D.nl) (hk : (D.ln i).kind = 0) (hm : m < 65536) (hun : D.unit < 256) (ha : D.arr ≤ 1000000) (hr : r.size ≤ 253) (hdo : DoIs d L S E wv D s r true f) (hwl : D.wait.length + 1 < D.batch) (hub : D.uns + 1 < D.batch) (hx : ∀ y ∈ D.wait, y.1 < ((D.arr + 1 : Nat) : Int)) (hw1 : D.wait.length ≤ 1000) (hbb : D.batch ≤ 1000) :
    TakeIs d L S E wv D { D with arr := D.arr + 1, ent := f, uns := D.uns + 1, wait := D.wait ++ [(((D.arr + 1 : Nat) : Int), ((i : Nat) : Int), streamB m D.unit r)] } i m s [] := fun w h =>
  (take_waitT d L S i m E wv D s r f w h hi hk hm hun ha hr hdo hwl hub hx hw1 hbb).mono fun _ _ ⟨v', h1, h2, h3⟩ => ⟨.slice none 0 0, v', h1, World.ownsRow_nil _ _ _ _, fun _ => rfl, h2, h3⟩

/-- The device of Waits, and what becomes of it. -/
def wD0 (B : Nat) : Dev := dev0 0 0 10 0 5 9 2 8 (fun _ => 0) B
def wD1 (B x y : Nat) : Dev := { wD0 B with arr := (wD0 B).arr + 1, ent := entSet (wD0 B) (5 + x) y }
def wD2 (B x y : Nat) : Dev := { wD1 B x y with arr := (wD1 B x y).arr + 1, ent := entSet (wD1 B x y) x y, uns := (wD1 B x y).uns + 1, wait := (wD1 B x y).wait ++ [((((wD1 B x y).arr + 1 : Nat) : Int), ((0 : Nat) : Int), streamB 2 (wD1 B x y).unit (writeB x y))] }
def wD3 (B x y : Nat) : Dev := { wD2 B x y with arr := (wD2 B x y).arr + 1, ent := (wD2 B x y).ent, wait := (wD2 B x y).wait ++ [((((wD2 B x y).arr + 1 : Nat) : Int), ((1 : Nat) : Int), streamB 3 (wD2 B x y).unit (tellB 3 [y]))] }
def wD4 (B x y : Nat) : Dev := { wD3 B x y with lat := 1, stamp := 1, uns := 0, wait := [] }
def wL (x y : Nat) : List Nat := (List.range 5).map fun k => if k = x then y else 0
/-- What the Flush of Waits does. -/
def wA (x y : Nat) : List (Int × Int × Int × ByteArray) := saveA 1 1 1 (wordsB (wL x y)) ++ [(2, 0, 0, streamB 2 9 (writeB x y)), (2, 0, 1, streamB 3 9 (tellB 3 [y]))]
theorem wEnt (B x y k : Nat) (hx : x < 5) (hk : k < 5) : entSet (wD1 B x y) x y 2 k = if k = x then ((y : Nat) : Int) else 0 := by
  unfold entSet wD1
  by_cases e : k = x
  · rw [if_pos ⟨rfl, e⟩, if_pos e]
  · rw [if_neg (fun h => e h.2), if_neg e]
    show entSet (wD0 B) (5 + x) y 2 k = 0
    unfold entSet
    rw [if_neg (fun h => by have := h.2; omega)]
    rfl
theorem wTell (y : Nat) : (tellB 3 [y]).size = 4 := by unfold tellB; rw [ByteArray.size_append, wordsB_size]; rfl
section
variable (B d L S : Nat) (E : Nat → Nat) (wv : Value) (w : World) (x y : Nat) (hx : x < 5) (hy : y < 65536)
include hx hy
theorem wFeed1 (h : DevIn w d L S E wv (wD0 B)) (s : ByteArray) (hs : s = streamB 1 9 (writeB (5 + x) y)) : Calls Tryz.prog 20 #[.pointer (some ⟨d, 0, none⟩), .int .i64 0, .string s] w fun e w' => ∃ v wv', e = .returned (.tuple #[v, .int .i64 0]) ∧ w'.ownsRow w.heap.size 77 4 v 1 ([(2, 0, 0, streamB 1 9 (writeB (5 + x) y))].flatMap encA) ∧ DevIn w' d L S E wv' (wD1 B x y) ∧ FtT B devT w w' :=
  feed_one d L S 0 1 E wv (wD0 B) (wD1 B x y) (writeB (5 + x) y) [(2, 0, 0, streamB 1 9 (writeB (5 + x) y))] w h (by show 0 < 2; decide) (by show 2 ≤ 100; decide) rfl ⟨by show 1 < 65536; decide, by show 9 < 256; decide, by show 1 ≤ (writeB (5 + x) y).size; rw [writeB_size]; omega, by show (writeB (5 + x) y).size ≤ 253; rw [writeB_size]; omega⟩
    (takeIs_now d L S 0 1 E wv (wD0 B) _ (writeB (5 + x) y) (entSet (wD0 B) (5 + x) y) (by show 0 < 2; decide) rfl (by decide) (by show 9 < 256; decide) (by show 0 ≤ 1000000; decide) (by rw [writeB_size]; omega) (doIs_write d L S E wv (wD0 B) (5 + x) y (by show 5 + x < 10; omega) (by show 10 ≤ 1000; decide) hy false (by show false = decide (5 + x < 5); simp)) rfl (by show 0 < 8; decide)) (by show 1 ≤ 1; decide) s hs
theorem wFeed2 (h : DevIn w d L S E wv (wD1 B x y)) (s : ByteArray) (hs : s = streamB 2 9 (writeB x y)) : Calls Tryz.prog 20 #[.pointer (some ⟨d, 0, none⟩), .int .i64 0, .string s] w fun e w' => ∃ v wv', e = .returned (.tuple #[v, .int .i64 0]) ∧ w'.ownsRow w.heap.size 77 4 v 0 [] ∧ DevIn w' d L S E wv' (wD2 B x y) ∧ FtT B devT w w' :=
  feed_one d L S 0 2 E wv (wD1 B x y) (wD2 B x y) (writeB x y) [] w h (by show 0 < 2; decide) (by show 2 ≤ 100; decide) rfl ⟨by show 2 < 65536; decide, by show 9 < 256; decide, by show 1 ≤ (writeB x y).size; rw [writeB_size]; omega, by show (writeB x y).size ≤ 253; rw [writeB_size]; omega⟩
    (takeIs_waitT d L S 0 2 E wv (wD1 B x y) _ (writeB x y) (entSet (wD1 B x y) x y) (by show 0 < 2; decide) rfl (by decide) (by show 9 < 256; decide) (by show 1 ≤ 1000000; decide) (by rw [writeB_size]; omega) (doIs_write d L S E wv (wD1 B x y) x y (by show x < 10; omega) (by show 10 ≤ 1000; decide) hy true (by show true = decide (x < 5); simp [hx])) (by show 0 + 1 < 8; decide) (by show 0 + 1 < 8; decide) (fun z hz => absurd hz (by show ¬ z ∈ ([] : List (Int × Int × ByteArray)); simp)) (by show 0 ≤ 1000; decide) (by show 8 ≤ 1000; decide)) (by decide) s hs
theorem wFeed3 (h : DevIn w d L S E wv (wD2 B x y)) (s : ByteArray) (hs : s = streamB 3 9 (readB x)) : Calls Tryz.prog 20 #[.pointer (some ⟨d, 0, none⟩), .int .i64 1, .string s] w fun e w' => ∃ v wv', e = .returned (.tuple #[v, .int .i64 0]) ∧ w'.ownsRow w.heap.size 77 4 v 0 [] ∧ DevIn w' d L S E wv' (wD3 B x y) ∧ FtT B devT w w' :=
  feed_one d L S 1 3 E wv (wD2 B x y) (wD3 B x y) (readB x) [] w h (by show 1 < 2; decide) (by show 2 ≤ 100; decide) rfl ⟨by show _ < 65536; simp only; omega, by show 9 < 256; decide, by show 1 ≤ (readB x).size; rw [readB_size]; omega, by show (readB x).size ≤ 253; rw [readB_size]; omega⟩
    (takeIs_waitF d L S 1 3 E wv (wD2 B x y) _ (tellB 3 [y]) (wD2 B x y).ent (by show 1 < 2; decide) rfl (by decide) (by show 9 < 256; decide) (by show 2 ≤ 1000000; decide) (by rw [wTell]; omega) (doIs_read d L S E wv (wD2 B x y) x y (by show x < 10; omega) (by show 10 ≤ 100; decide) hy (by show entSet (wD1 B x y) x y 2 x = _; rw [wEnt B x y x hx hx, if_pos rfl])) (by show 0 < 0 + 1; decide) (by show 1 + 1 < 8; decide) (by show 0 + 1 < 8; decide) (fun z hz => by
      have : z = _ := List.mem_singleton.1 hz
      rw [this]; show (2 : Int) < 3; decide) (by show 1 ≤ 1000; decide) (by show 8 ≤ 1000; decide)) (by decide) s hs
theorem wFlush (h : DevIn w d L S E wv (wD3 B x y)) : Calls Tryz.prog 24 #[.pointer (some ⟨d, 0, none⟩)] w fun e w' => ∃ v, e = .returned v ∧ w'.ownsRow w.heap.size 77 4 v 4 ((wA x y).flatMap encA) ∧ DevIn w' d L S E (.slice none 0 0) (wD4 B x y) ∧ FtT B devT w w' :=
  flush_any d L S 1 1 E wv (wD3 B x y) (wL x y) Two (fun _ _ h => by rw [h.1]) (pops_two d) (wD3 B x y).wait w h (by show 0 < 0 + 1; decide) rfl (by show 5 ≤ 10; decide) (by show 10 ≤ 1000; decide) (by simp [wL]; rfl) (fun z hz => by
    simp only [wL, List.mem_map, List.mem_range] at hz
    obtain ⟨k, _, rfl⟩ := hz
    split <;> omega) (fun j z hj => by
    have hjl : j < 5 := by
      have := (List.getElem?_eq_some_iff.1 hj).1
      simpa [wL] using this
    have hz : z = if j = x then y else 0 := by
      simp only [wL, List.getElem?_map, List.getElem?_range hjl, Option.map_some, Option.some.injEq] at hj
      exact hj.symm
    show entSet (wD1 B x y) x y 2 j = _
    rw [wEnt B x y j hx hjl, hz]
    split <;> rfl) (by show 1 ≤ 64; decide) (fun i hi => by
      have : i < 1 := hi
      show i * 62 ≤ 2 * 5
      omega) (by show 0 ≤ 1; decide) (by show 0 ≤ 3; decide) rfl rfl ⟨rfl, by show 2 ≤ 2; decide⟩ (by show 2 ≤ 1000; decide) (by show 0 < 2; decide)
theorem wFeed4 (h : DevIn w d L S E wv (wD4 B x y)) (s : ByteArray) (hs : s = streamB 4 9 (readB x)) : Calls Tryz.prog 20 #[.pointer (some ⟨d, 0, none⟩), .int .i64 1, .string s] w fun e w' => ∃ v wv', e = .returned (.tuple #[v, .int .i64 0]) ∧ w'.ownsRow w.heap.size 77 4 v 1 ([(2, 0, 1, streamB 4 9 (tellB 3 [y]))].flatMap encA) ∧ DevIn w' d L S E wv' { wD4 B x y with arr := (wD4 B x y).arr + 1, ent := (wD4 B x y).ent } ∧ FtT B devT w w' :=
  feed_one d L S 1 4 E wv (wD4 B x y) _ (readB x) [(2, 0, 1, streamB 4 9 (tellB 3 [y]))] w h (by show 1 < 2; decide) (by show 2 ≤ 100; decide) rfl ⟨by show _ < 65536; simp only; omega, by show 9 < 256; decide, by show 1 ≤ (readB x).size; rw [readB_size]; omega, by show (readB x).size ≤ 253; rw [readB_size]; omega⟩
    (takeIs_now d L S 1 4 E wv (wD4 B x y) _ (tellB 3 [y]) (wD4 B x y).ent (by show 1 < 2; decide) rfl (by decide) (by show 9 < 256; decide) (by show 3 ≤ 1000000; decide) (by rw [wTell]; omega) (doIs_read d L S E wv (wD4 B x y) x y (by show x < 10; omega) (by show 10 ≤ 100; decide) hy (by show entSet (wD1 B x y) x y 2 x = _; rw [wEnt B x y x hx hx, if_pos rfl])) rfl (by show 0 < 8; decide)) (by show 1 ≤ 1; decide) s hs
end
end Go.Proofs.YtcpldcojckhapaaGreat

set_option maxRecDepth 100000
namespace Go.Proofs.YtcpldcojckhapaaGreat
open Go.RowKit

def oEnt (ws : Nat → Nat) (i a k : Nat) : Int := if a = 2 then (((left ws i).getD k 0 : Nat) : Int) else 0
/-- The device of Outlasts with i requests done, t of them safe. -/
def oD (B b : Nat) (ws : Nat → Nat) (i t lat st : Nat) : Dev :=
  { unit := 1, batch := b, nl := 1, ln := fun _ => ⟨0, ⟨#[]⟩, false⟩, sec := 1, sz := szF 0 0 8 0, ent := oEnt ws i, kp := fun i => if i = 2 then 8 else 0, lat := lat, stamp := st, arr := i, uns := i - t, wait := (List.range (i - t)).map fun a => ansF ws (t + a), base := B }
theorem oD_start (B b : Nat) (ws : Nat → Nat) : dev0 0 0 8 0 8 1 1 b (fun _ => 0) B = oD B b ws 0 0 0 0 := by
  have e : (fun _ _ => 0 : Nat → Nat → Int) = oEnt ws 0 := by
    funext a k
    unfold oEnt
    split
    · show (0 : Int) = (((List.replicate 8 0).getD k 0 : Nat) : Int)
      rw [List.getD_eq_getElem?_getD, List.getElem?_replicate]
      split <;> rfl
    · rfl
  unfold dev0 oD
  rw [e]
  rfl
theorem oEnt_next (B b : Nat) (ws : Nat → Nat) (i t lat st : Nat) (hw : ws i < 8) : entSet (oD B b ws i t lat st) (ws i) (i + 1) = oEnt ws (i + 1) := by
  funext a k
  unfold entSet
  show (if a = 2 ∧ k = ws i then ((i + 1 : Nat) : Int) else oEnt ws i a k) = oEnt ws (i + 1) a k
  unfold oEnt
  by_cases ha : a = 2
  · rw [if_pos ha, if_pos ha]
    rw [show left ws (i + 1) = (left ws i).set (ws i) (i + 1) from rfl]
    have hl := left_len ws i
    by_cases hk : k = ws i
    · rw [if_pos ⟨ha, hk⟩, hk, List.getD_eq_getElem?_getD, List.getElem?_set_self (by omega)]
      rfl
    · rw [if_neg (fun h => hk h.2), List.getD_eq_getElem?_getD, List.getD_eq_getElem?_getD, List.getElem?_set_ne (fun e => hk e.symm)]
  · rw [if_neg (fun h => ha h.1), if_neg ha, if_neg ha]
theorem oWait_next (ws : Nat → Nat) (i t : Nat) (h : t ≤ i) : ((List.range (i - t)).map fun a => ansF ws (t + a)) ++ [(((i + 1 : Nat) : Int), ((0 : Nat) : Int), streamB i 1 (writeB (ws i) (i + 1)))] = (List.range (i + 1 - t)).map fun a => ansF ws (t + a) := by
  rw [show i + 1 - t = (i - t) + 1 by omega, List.range_succ, List.map_append]
  congr 1
  simp only [List.map_cons, List.map_nil]
  rw [show t + (i - t) = i by omega]
  rfl
theorem oAsc (ws : Nat → Nat) (t : Nat) : Asc fun a => ansF ws (t + a) := by
  intro a b
  show ((t + a + 1 : Nat) : Int) < ((t + b + 1 : Nat) : Int) ↔ a < b
  omega
theorem oD_done (B b : Nat) (ws : Nat → Nat) (i t lat st lat' st' : Nat) : { oD B b ws i t lat st with lat := lat', stamp := st', uns := 0, wait := [] } = oD B b ws i i lat' st' := by
  unfold oD
  simp only [Nat.sub_self, List.range_zero, List.map_nil]
section
variable {B b : Nat} {ws : Nat → Nat} {i t lat st : Nat} (d L S : Nat) (E : Nat → Nat) (wv : Value) (w : World)
/-- Flush, with something to be saved. -/
theorem oSave (h : DevIn w d L S E wv (oD B b ws i t lat st)) (hi : i ≤ 200) (ht : t < i) (hb : i - t ≤ 8) (hlat : lat ≤ 1) (hst : st ≤ 3) :
    Calls Tryz.prog 24 #[.pointer (some ⟨d, 0, none⟩)] w fun e w' => ∃ v, e = .returned v ∧ w'.ownsRow w.heap.size 77 4 v (flA ws ((lat + 1) % 2) (st % 3 + 1) t i).length ((flA ws ((lat + 1) % 2) (st % 3 + 1) t i).flatMap encA) ∧ DevIn w' d L S E (.slice none 0 0) (oD B b ws i i ((lat + 1) % 2) (st % 3 + 1)) ∧ FtT B devT w w' := by
  have hll := left_len ws i
  have := flush_any d L S ((lat + 1) % 2) (st % 3 + 1) E wv (oD B b ws i t lat st) (left ws i) Up8 up8_len (pops_up8 d) (oD B b ws i t lat st).wait w h (by show 0 < i - t; omega) rfl (by show 8 ≤ 8; omega) (by show 8 ≤ 1000; omega) (by rw [hll]; rfl) (fun x hx => by have := left_le ws i x hx; omega) (fun j x hj => by
    show oEnt ws i 2 j = _
    unfold oEnt
    rw [if_pos rfl, List.getD_eq_getElem?_getD, hj]
    rfl) (by show 1 ≤ 64; omega) (fun i hi => by
      have : i < 1 := hi
      show i * 62 ≤ 2 * 8
      omega) hlat hst rfl rfl (up8_start _ (oAsc ws t) (i - t) hb) (by show ((List.range (i - t)).map fun a => ansF ws (t + a)).length ≤ 1000; simp; omega) (by show 0 < ((List.range (i - t)).map fun a => ansF ws (t + a)).length; simp; omega)
  refine this.mono ?_
  rintro e w' ⟨v, he, ho, hD, hF⟩
  rw [oD_done] at hD
  refine ⟨v, he, ?_, hD, hF⟩
  have hl : (oD B b ws i t lat st).sec + 1 + (oD B b ws i t lat st).wait.length = (flA ws ((lat + 1) % 2) (st % 3 + 1) t i).length := by
    rw [flA_len]
    show 1 + 1 + ((List.range (i - t)).map fun a => ansF ws (t + a)).length = _
    simp
  rw [hl] at ho
  exact ho
set_option maxRecDepth 100000 in
set_option maxHeartbeats 2000000 in
theorem flush_none (D : Dev) (h : DevIn w d L S E wv D) (hu : D.uns = 0) : Calls Tryz.prog 24 #[.pointer (some ⟨d, 0, none⟩)] w fun e w' => e = .returned (.slice none 0 0) ∧ w' = w := by
  obtain ⟨c0, c1, c2, c11, c12, c13, c14, cf, hdl⟩ := h.cells
  rw [hu] at c13
  clear h
  go_enter Tryz.func24, Tryz.ntmps24
  go_wp2
  go_ret
  exact ⟨rfl, rfl⟩
theorem oFlush (h : DevIn w d L S E wv (oD B b ws i t lat st)) (hi : i ≤ 200) (ht : t ≤ i) (hb : i - t < b) (hb8 : b ≤ 8) (A : List (Int × Int × Int × ByteArray)) (hH : Hist ws A t lat st) :
    Calls Tryz.prog 24 #[.pointer (some ⟨d, 0, none⟩)] w fun e w' => ∃ v wv' A' lat' st', e = .returned v ∧ w'.ownsRow w.heap.size 77 4 v A'.length (A'.flatMap encA) ∧ DevIn w' d L S E wv' (oD B b ws i i lat' st') ∧ Hist ws (A ++ A') i lat' st' ∧ FtT B devT w w' := by
  have hl := hH.len
  rcases Nat.lt_or_ge t i with h1 | h1
  · refine (oSave d L S E wv w h hi h1 (by omega) hl.2.1 hl.2.2).mono ?_
    rintro e w' ⟨v, he, ho, hD, hF⟩
    exact ⟨v, _, _, _, _, he, ho, hD, .flush hH h1, hF⟩
  · obtain rfl : t = i := by omega
    refine (flush_none d L S E wv w _ h (by show t - t = 0; omega)).mono ?_
    rintro e w' ⟨he, rfl⟩
    exact ⟨_, wv, [], lat, st, he, World.ownsRow_nil _ _ _ _, h, by rw [List.append_nil]; exact hH, FtT.refl _ _⟩
theorem oFeed (h : DevIn w d L S E wv (oD B b ws i t lat st)) (hw : ws i < 8) (hi : i < 200) (ht : t ≤ i) (hb : i - t < b) (hb8 : b ≤ 8) (A : List (Int × Int × Int × ByteArray)) (hH : Hist ws A t lat st) (s : ByteArray) (hs : s = streamB i 1 (writeB (ws i) (i + 1))) :
    Calls Tryz.prog 20 #[.pointer (some ⟨d, 0, none⟩), .int .i64 0, .string s] w fun e w' => ∃ v wv' A' t' lat' st', e = .returned (.tuple #[v, .int .i64 0]) ∧ w'.ownsRow w.heap.size 77 4 v A'.length (A'.flatMap encA) ∧ DevIn w' d L S E wv' (oD B b ws (i + 1) t' lat' st') ∧ Hist ws (A ++ A') t' lat' st' ∧ t' ≤ i + 1 ∧ i + 1 - t' < b ∧ FtT B devT w w' := by
  have hl := hH.len
  have hmay : Pl.May (i, (oD B b ws i t lat st).unit, writeB (ws i) (i + 1)) := ⟨by show i < 65536; omega, by show 1 < 256; decide, by show 1 ≤ (writeB (ws i) (i + 1)).size; rw [writeB_size]; omega, by show (writeB (ws i) (i + 1)).size ≤ 253; rw [writeB_size]; omega⟩
  have hdo := doIs_write d L S E wv (oD B b ws i t lat st) (ws i) (i + 1) (by show ws i < 8; omega) (by show 8 ≤ 1000; decide) (by omega) true (by show true = decide (ws i < 8); simp [hw])
  have hwl : (oD B b ws i t lat st).wait.length = i - t := by show ((List.range (i - t)).map fun a => ansF ws (t + a)).length = _; simp
  have hx : ∀ y ∈ (oD B b ws i t lat st).wait, y.1 < (((oD B b ws i t lat st).arr + 1 : Nat) : Int) := fun y hy => by
    have hy' : y ∈ (List.range (i - t)).map fun a => ansF ws (t + a) := hy
    obtain ⟨a, ha, rfl⟩ := List.mem_map.1 hy'
    have := List.mem_range.1 ha
    show ((t + a + 1 : Nat) : Int) < ((i + 1 : Nat) : Int)
    omega
  have hD2 : ({ oD B b ws i t lat st with arr := (oD B b ws i t lat st).arr + 1, ent := entSet (oD B b ws i t lat st) (ws i) (i + 1), uns := (oD B b ws i t lat st).uns + 1, wait := (oD B b ws i t lat st).wait ++ [((((oD B b ws i t lat st).arr + 1 : Nat) : Int), ((0 : Nat) : Int), streamB i (oD B b ws i t lat st).unit (writeB (ws i) (i + 1)))] } : Dev) = oD B b ws (i + 1) t lat st := by
    rw [oEnt_next B b ws i t lat st hw]
    have e1 : (oD B b ws i t lat st).wait ++ [((((oD B b ws i t lat st).arr + 1 : Nat) : Int), ((0 : Nat) : Int), streamB i (oD B b ws i t lat st).unit (writeB (ws i) (i + 1)))] = (List.range (i + 1 - t)).map fun a => ansF ws (t + a) := oWait_next ws i t ht
    rw [e1]
    have e2 : (oD B b ws i t lat st).uns + 1 = i + 1 - t := by show i - t + 1 = _; omega
    rw [e2]
    rfl
  rcases Nat.lt_or_ge (i - t + 1) b with h1 | h1
  · have htk := takeIs_waitT d L S 0 i E wv (oD B b ws i t lat st) _ (writeB (ws i) (i + 1)) _ (by show 0 < 1; decide) rfl (by omega) (by show 1 < 256; decide) (by show i ≤ 1000000; omega) (by rw [writeB_size]; omega) hdo (by rw [hwl]; exact h1) (by show i - t + 1 < b; exact h1) hx (by rw [hwl]; omega) (by show b ≤ 1000; omega)
    rw [hD2] at htk
    refine (feed_many d L S 0 i E wv (oD B b ws i t lat st) _ _ [] w h (by show 0 < 1; decide) (by show 1 ≤ 100; decide) rfl hmay htk (by simp) s hs).mono ?_
    rintro e w' ⟨v, wv', he, ho, hD, hF⟩
    exact ⟨v, wv', [], t, lat, st, he, ho, hD, by rw [List.append_nil]; exact hH, by omega, by omega, hF⟩
  · have htk : TakeIs d L S E wv (oD B b ws i t lat st) (oD B b ws (i + 1) (i + 1) ((lat + 1) % 2) (st % 3 + 1)) 0 i (writeB (ws i) (i + 1)) (flA ws ((lat + 1) % 2) (st % 3 + 1) t (i + 1)) := by
      intro w0 h0
      have := take_flush d L S 0 i E wv (oD B b ws i t lat st) (writeB (ws i) (i + 1)) (writeB (ws i) (i + 1)) _ w0 h0 (by show 0 < 1; decide) rfl (by omega) (by show 1 < 256; decide) (by show i ≤ 1000000; omega) (by rw [writeB_size]; omega) hdo (by rw [hwl]; exact h1) (by show i - t ≤ 1000; omega) hx (by rw [hwl]; omega) (flA ws ((lat + 1) % 2) (st % 3 + 1) t (i + 1)) (oD B b ws (i + 1) (i + 1) ((lat + 1) % 2) (st % 3 + 1)) (by rw [flA_len]; omega) (by rw [flA_len]; omega) (by
          intro w1 v1 h1'
          rw [hD2] at h1'
          exact oSave d L S E v1 w1 h1' (by omega) (by omega) (by omega) hl.2.1 hl.2.2)
      refine this.mono ?_
      rintro e w' ⟨v, he, ho, hD, hF⟩
      exact ⟨v, _, he, ho, fun e0 => by have := congrArg List.length e0; rw [flA_len] at this; simp at this, hD, hF⟩
    refine (feed_many d L S 0 i E wv (oD B b ws i t lat st) _ _ _ w h (by show 0 < 1; decide) (by show 1 ≤ 100; decide) rfl hmay htk (by rw [flA_len]; omega) s hs).mono ?_
    rintro e w' ⟨v, wv', he, ho, hD, hF⟩
    exact ⟨v, wv', _, i + 1, _, _, he, ho, hD, .flush hH (by omega), by omega, by omega, hF⟩
end
end Go.Proofs.YtcpldcojckhapaaGreat
