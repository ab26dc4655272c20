/-
  Waits: its calls, one behind the other.
-/
import Derived.Test.YtcpldcojckhapaaGreatF1
import Derived.Test.YtcpldcojckhapaaGreatV2
set_option maxRecDepth 100000
namespace Go.Proofs.YtcpldcojckhapaaGreat
open Go.RowKit

/-- The entries with one holder set. -/
def entSet (D : Dev) (a : Nat) (v : Nat) (i k : Nat) : Int := if i = 2 ∧ k = a then (v : Nat) else D.ent i k
def readB (a : Nat) : ByteArray := ⟨#[3]⟩ ++ twoB a ++ twoB 1
theorem byt_data (s : ByteArray) (l : List UInt8) (h : s.data.toList = l) (k : Nat) : Pl.byt s k = (l.getD k 0).toNat := by rw [Pl.byt_list, h]
theorem writeB_list (a v : Nat) : (writeB a v).data.toList = [6, UInt8.ofNat (a / 256), UInt8.ofNat (a % 256), UInt8.ofNat (v / 256), UInt8.ofNat (v % 256)] := by simp [writeB, twoB]
theorem readB_list (a : Nat) : (readB a).data.toList = [3, UInt8.ofNat (a / 256), UInt8.ofNat (a % 256), 0, 1] := by simp [readB, twoB]
theorem writeB_size (a v : Nat) : (writeB a v).size = 5 := by rw [Pl.size_list, writeB_list]; rfl
theorem readB_size (a : Nat) : (readB a).size = 5 := by rw [Pl.size_list, readB_list]; rfl
theorem shp_write (a v : Nat) (ha : a < 65536) (hv : v < 65536) {x : Pl.Shp} {k : Nat} (h : Pl.ShpIs (writeB a v) x k) : x = ⟨6, 0, 0, 0, 2, a, 1, [((v : Nat) : Int)]⟩ ∧ k = 0 := by
  have hz := writeB_size a v
  have hw1 : Pl.wd (writeB a v) 1 = a := by
    unfold Pl.wd; rw [byt_data _ _ (writeB_list a v), byt_data _ _ (writeB_list a v)]; simp; omega
  have hw3 : Pl.wd (writeB a v) 3 = v := by
    unfold Pl.wd; rw [byt_data _ _ (writeB_list a v), byt_data _ _ (writeB_list a v)]; simp; omega
  have h0 : Pl.byt (writeB a v) 0 = 6 := by rw [byt_data _ _ (writeB_list a v)]; rfl
  have h' := Pl.shpIs6 (s := writeB a v) (by omega) (by omega) h0 (x := ⟨6, 0, 0, 0, 2, a, 1, [((v : Nat) : Int)]⟩) (k := 0) (.inl ⟨hz, by rw [hw1, hw3], rfl⟩)
  exact Pl.ShpIs.eq h h'
theorem shp_read (a : Nat) (ha : a < 65536) {x : Pl.Shp} {k : Nat} (h : Pl.ShpIs (readB a) x k) : x = ⟨3, 2, a, 1, 0, 0, 0, []⟩ ∧ k = 0 := by
  have hz := readB_size a
  have hw1 : Pl.wd (readB a) 1 = a := by
    unfold Pl.wd; rw [byt_data _ _ (readB_list a), byt_data _ _ (readB_list a)]; simp; omega
  have hw3 : Pl.wd (readB a) 3 = 1 := by
    unfold Pl.wd; rw [byt_data _ _ (readB_list a), byt_data _ _ (readB_list a)]; rfl
  have h0 : Pl.byt (readB a) 0 = 3 := by rw [byt_data _ _ (readB_list a)]; rfl
  have h' := Pl.shpIs3 (s := readB a) (by omega) (by omega) h0 (x := ⟨3, 2, a, 1, 0, 0, 0, []⟩) (k := 0) (.inl ⟨⟨hz, by omega, by omega⟩, by rw [hw1, hw3], rfl⟩)
  exact Pl.ShpIs.eq h h'
theorem doIs_write (d L S : Nat) (E : Nat → Nat) (wv : Value) (D : Dev) (a v : Nat) (ha : a < D.sz 2) (hs : D.sz 2 ≤ 1000) (hv : v < 65536) (b : Bool) (hb : b = decide (a < D.kp 2)) : DoIs d L S E wv D (writeB a v) (writeB a v) b (entSet D a v) := by
  intro x vv k B w hsh hD hown
  obtain ⟨rfl, rfl⟩ := shp_write a v (by omega) hv hsh
  have hf : entW { D with arr := D.arr + 1 } ⟨6, 0, 0, 0, 2, a, 1, [((v : Nat) : Int)]⟩ = entSet D a v := by
    funext i j
    unfold entW entSet
    by_cases e : i = 2 ∧ j = a
    · rw [if_pos e, if_pos ⟨e.1, by simp only; omega, by simp only [List.length_singleton]; omega⟩]
      simp [e.2]
    · rw [if_neg e, if_neg (fun h => e ⟨h.1, by have := h.2; simp only [List.length_singleton] at this; omega⟩)]
  have := do_ok d L S B E wv { D with arr := D.arr + 1 } (writeB a v) ⟨6, 0, 0, 0, 2, a, 1, [((v : Nat) : Int)]⟩ vv b (writeB a v) w hD (by simp only; omega) (by simp only; omega) (by simp only; omega) hown
    (by unfold hasB; simp only [Bool.and_eq_true, decide_eq_true_eq]; omega) rfl (by simp only; omega) (by simp only; omega) (by simp only; omega) (by simp only; omega) (by rw [hb]; simp)
    (fun a' n' c' w1 _ _ => answer_set d (writeB a v) _ a' n' c' 0 w1 rfl)
  refine this.mono ?_
  rintro e w' ⟨rfl, hD', hc⟩
  rw [hf] at hD'
  exact ⟨rfl, hD', 2, by omega, hc⟩
theorem doIs_read (d L S : Nat) (E : Nat → Nat) (wv : Value) (D : Dev) (a y : Nat) (ha : a < D.sz 2) (hs : D.sz 2 ≤ 100) (hy : y < 65536) (hv : D.ent 2 a = (y : Nat)) : DoIs d L S E wv D (readB a) (tellB 3 [y]) false D.ent := by
  intro x vv k B w hsh hD hown
  obtain ⟨rfl, rfl⟩ := shp_read a (by omega) hsh
  have hf : entW { D with arr := D.arr + 1 } ⟨3, 2, a, 1, 0, 0, 0, []⟩ = D.ent := by
    funext i j
    unfold entW
    rw [if_neg (fun h => by have := h.2; simp only [List.length_nil] at this; omega)]
  have := do_ok d L S B E wv { D with arr := D.arr + 1 } (readB a) ⟨3, 2, a, 1, 0, 0, 0, []⟩ vv false (tellB 3 [y]) w hD (by simp only; omega) (by simp only; omega) (by simp only; omega) hown
    (by unfold hasB; simp only [Bool.and_eq_true, decide_eq_true_eq]; omega) rfl (by simp only; omega) (by simp only; omega) (by simp only; omega) (by simp only; omega) (by simp)
    (fun a' n' c' w1 _ hD1 => answer_words d L S E wv _ (readB a) _ a' n' c' 0 3 [y] w1 hD1 (by simp only; omega) (by simp only; omega) (by simp only; omega) (by simp only; omega) (by simp only; omega) rfl (by intro z hz; simp at hz; omega) (fun j z hj => by
      match j, hj with
      | 0, hj =>
        simp at hj
        subst hj
        show entW { D with arr := D.arr + 1 } ⟨3, 2, a, 1, 0, 0, 0, []⟩ 2 (a + 0) = _
        rw [hf, Nat.add_zero, hv]) (by rw [readB_size]; omega) (by rw [byt_data _ _ (readB_list a)]; rfl))
  refine this.mono ?_
  rintro e w' ⟨rfl, hD', hc⟩
  rw [hf] at hD'
  exact ⟨rfl, hD', 0, by omega, hc⟩

theorem takeIs_now (d L S i m : Nat) (E : Nat → Nat) (wv : Value) (D : Dev) (s r : ByteArray) (f : Nat → Nat → Int) (hi : i < D.nl) (hk : (D.ln i).kind = 0) (hm : m < 65536) (hun : D.unit < 256) (ha : D.arr ≤ 1000000) (hr : r.size ≤ 253) (hdo : DoIs d L S E wv D s r false f) (hu : D.uns = 0) (hwl : D.wait.length < D.batch) :
    TakeIs d L S E wv D { D with arr := D.arr + 1, ent := f } i m s [(2, 0, ((i : Nat) : Int), streamB m D.unit r)] := fun w h =>
  (take_now d L S i m E wv D s r f w h hi hk hm hun ha hr hdo hu hwl (by omega)).mono fun _ _ ⟨v, h1, h2, h3, h4⟩ => ⟨v, wv, h1, h2, fun e => by simp at e, h3, h4⟩
theorem takeIs_waitF (d L S i m : Nat) (E : Nat → Nat) (wv : Value) (D : Dev) (s r : ByteArray) (f : Nat → Nat → Int) (hi : i < D.nl) (hk : (D.ln i).kind = 0) (hm : m < 65536) (hun : D.unit < 256) (ha : D.arr ≤ 1000000) (hr : r.size ≤ 253) (hdo : DoIs d L S E wv D s r false f) (hu : 0 < D.uns) (hwl : D.wait.length + 1 < D.batch) (hub : D.uns < D.batch) (hx : ∀ y ∈ D.wait, y.1 < ((D.arr + 1 : Nat) : Int)) (hw1 : D.wait.length ≤ 1000) (hbb : D.batch ≤ 1000) :
    TakeIs d L S E wv D { D with arr := D.arr + 1, ent := f, wait := D.wait ++ [(((D.arr + 1 : Nat) : Int), ((i : Nat) : Int), streamB m D.unit r)] } i m s [] := fun w h =>
  (take_waitF d L S i m E wv D s r f w h hi hk hm hun ha hr hdo hu hwl hub hx hw1 hbb).mono fun _ _ ⟨v', h1, h2, h3⟩ => ⟨.slice none 0 0, v', h1, World.ownsRow_nil _ _ _ _, fun _ => rfl, h2, h3⟩
theorem takeIs_waitT (d L S i m : Nat) (E : Nat → Nat) (wv : Value) (D : Dev) (s r : ByteArray) (f : Nat → Nat → Int) (hi : i < D.nl) (hk : (D.ln i).kind = 0) (hm : m < 65536) (hun : D.unit < 256) (ha : D.arr ≤ 1000000) (hr : r.size ≤ 253) (hdo : DoIs d L S E wv D s r true f) (hwl : D.wait.length + 1 < D.batch) (hub : D.uns + 1 < D.batch) (hx : ∀ y ∈ D.wait, y.1 < ((D.arr + 1 : Nat) : Int)) (hw1 : D.wait.length ≤ 1000) (hbb : D.batch ≤ 1000) :
    TakeIs d L S E wv D { D with arr := D.arr + 1, ent := f, uns := D.uns + 1, wait := D.wait ++ [(((D.arr + 1 : Nat) : Int), ((i : Nat) : Int), streamB m D.unit r)] } i m s [] := fun w h =>
  (take_waitT d L S i m E wv D s r f w h hi hk hm hun ha hr hdo hwl hub hx hw1 hbb).mono fun _ _ ⟨v', h1, h2, h3⟩ => ⟨.slice none 0 0, v', h1, World.ownsRow_nil _ _ _ _, fun _ => rfl, h2, h3⟩

/-- The device of Waits, and what becomes of it. -/
def wD0 (B : Nat) : Dev := dev0 0 0 10 0 5 9 2 8 (fun _ => 0) B
def wD1 (B x y : Nat) : Dev := { wD0 B with arr := (wD0 B).arr + 1, ent := entSet (wD0 B) (5 + x) y }
def wD2 (B x y : Nat) : Dev := { wD1 B x y with arr := (wD1 B x y).arr + 1, ent := entSet (wD1 B x y) x y, uns := (wD1 B x y).uns + 1, wait := (wD1 B x y).wait ++ [((((wD1 B x y).arr + 1 : Nat) : Int), ((0 : Nat) : Int), streamB 2 (wD1 B x y).unit (writeB x y))] }
def wD3 (B x y : Nat) : Dev := { wD2 B x y with arr := (wD2 B x y).arr + 1, ent := (wD2 B x y).ent, wait := (wD2 B x y).wait ++ [((((wD2 B x y).arr + 1 : Nat) : Int), ((1 : Nat) : Int), streamB 3 (wD2 B x y).unit (tellB 3 [y]))] }
def wD4 (B x y : Nat) : Dev := { wD3 B x y with lat := 1, stamp := 1, uns := 0, wait := [] }
def wL (x y : Nat) : List Nat := (List.range 5).map fun k => if k = x then y else 0
/-- What the Flush of Waits does. -/
def wA (x y : Nat) : List (Int × Int × Int × ByteArray) := saveA 1 1 1 (wordsB (wL x y)) ++ [(2, 0, 0, streamB 2 9 (writeB x y)), (2, 0, 1, streamB 3 9 (tellB 3 [y]))]
theorem wEnt (B x y k : Nat) (hx : x < 5) (hk : k < 5) : entSet (wD1 B x y) x y 2 k = if k = x then ((y : Nat) : Int) else 0 := by
  unfold entSet wD1
  by_cases e : k = x
  · rw [if_pos ⟨rfl, e⟩, if_pos e]
  · rw [if_neg (fun h => e h.2), if_neg e]
    show entSet (wD0 B) (5 + x) y 2 k = 0
    unfold entSet
    rw [if_neg (fun h => by have := h.2; omega)]
    rfl
theorem wTell (y : Nat) : (tellB 3 [y]).size = 4 := by unfold tellB; rw [ByteArray.size_append, wordsB_size]; rfl
section
variable (B d L S : Nat) (E : Nat → Nat) (wv : Value) (w : World) (x y : Nat) (hx : x < 5) (hy : y < 65536)
include hx hy
theorem wFeed1 (h : DevIn w d L S E wv (wD0 B)) (s : ByteArray) (hs : s = streamB 1 9 (writeB (5 + x) y)) : Calls Tryz.prog 20 #[.pointer (some ⟨d, 0, none⟩), .int .i64 0, .string s] w fun e w' => ∃ v wv', e = .returned (.tuple #[v, .int .i64 0]) ∧ w'.ownsRow w.heap.size 77 4 v 1 ([(2, 0, 0, streamB 1 9 (writeB (5 + x) y))].flatMap encA) ∧ DevIn w' d L S E wv' (wD1 B x y) ∧ FtT B devT w w' :=
  feed_one d L S 0 1 E wv (wD0 B) (wD1 B x y) (writeB (5 + x) y) [(2, 0, 0, streamB 1 9 (writeB (5 + x) y))] w h (by show 0 < 2; decide) (by show 2 ≤ 100; decide) rfl ⟨by show 1 < 65536; decide, by show 9 < 256; decide, by show 1 ≤ (writeB (5 + x) y).size; rw [writeB_size]; omega, by show (writeB (5 + x) y).size ≤ 253; rw [writeB_size]; omega⟩
    (takeIs_now d L S 0 1 E wv (wD0 B) _ (writeB (5 + x) y) (entSet (wD0 B) (5 + x) y) (by show 0 < 2; decide) rfl (by decide) (by show 9 < 256; decide) (by show 0 ≤ 1000000; decide) (by rw [writeB_size]; omega) (doIs_write d L S E wv (wD0 B) (5 + x) y (by show 5 + x < 10; omega) (by show 10 ≤ 1000; decide) hy false (by show false = decide (5 + x < 5); simp)) rfl (by show 0 < 8; decide)) (by show 1 ≤ 1; decide) s hs
theorem wFeed2 (h : DevIn w d L S E wv (wD1 B x y)) (s : ByteArray) (hs : s = streamB 2 9 (writeB x y)) : Calls Tryz.prog 20 #[.pointer (some ⟨d, 0, none⟩), .int .i64 0, .string s] w fun e w' => ∃ v wv', e = .returned (.tuple #[v, .int .i64 0]) ∧ w'.ownsRow w.heap.size 77 4 v 0 [] ∧ DevIn w' d L S E wv' (wD2 B x y) ∧ FtT B devT w w' :=
  feed_one d L S 0 2 E wv (wD1 B x y) (wD2 B x y) (writeB x y) [] w h (by show 0 < 2; decide) (by show 2 ≤ 100; decide) rfl ⟨by show 2 < 65536; decide, by show 9 < 256; decide, by show 1 ≤ (writeB x y).size; rw [writeB_size]; omega, by show (writeB x y).size ≤ 253; rw [writeB_size]; omega⟩
    (takeIs_waitT d L S 0 2 E wv (wD1 B x y) _ (writeB x y) (entSet (wD1 B x y) x y) (by show 0 < 2; decide) rfl (by decide) (by show 9 < 256; decide) (by show 1 ≤ 1000000; decide) (by rw [writeB_size]; omega) (doIs_write d L S E wv (wD1 B x y) x y (by show x < 10; omega) (by show 10 ≤ 1000; decide) hy true (by show true = decide (x < 5); simp [hx])) (by show 0 + 1 < 8; decide) (by show 0 + 1 < 8; decide) (fun z hz => absurd hz (by show ¬ z ∈ ([] : List (Int × Int × ByteArray)); simp)) (by show 0 ≤ 1000; decide) (by show 8 ≤ 1000; decide)) (by decide) s hs
theorem wFeed3 (h : DevIn w d L S E wv (wD2 B x y)) (s : ByteArray) (hs : s = streamB 3 9 (readB x)) : Calls Tryz.prog 20 #[.pointer (some ⟨d, 0, none⟩), .int .i64 1, .string s] w fun e w' => ∃ v wv', e = .returned (.tuple #[v, .int .i64 0]) ∧ w'.ownsRow w.heap.size 77 4 v 0 [] ∧ DevIn w' d L S E wv' (wD3 B x y) ∧ FtT B devT w w' :=
  feed_one d L S 1 3 E wv (wD2 B x y) (wD3 B x y) (readB x) [] w h (by show 1 < 2; decide) (by show 2 ≤ 100; decide) rfl ⟨by show _ < 65536; simp only; omega, by show 9 < 256; decide, by show 1 ≤ (readB x).size; rw [readB_size]; omega, by show (readB x).size ≤ 253; rw [readB_size]; omega⟩
    (takeIs_waitF d L S 1 3 E wv (wD2 B x y) _ (tellB 3 [y]) (wD2 B x y).ent (by show 1 < 2; decide) rfl (by decide) (by show 9 < 256; decide) (by show 2 ≤ 1000000; decide) (by rw [wTell]; omega) (doIs_read d L S E wv (wD2 B x y) x y (by show x < 10; omega) (by show 10 ≤ 100; decide) hy (by show entSet (wD1 B x y) x y 2 x = _; rw [wEnt B x y x hx hx, if_pos rfl])) (by show 0 < 0 + 1; decide) (by show 1 + 1 < 8; decide) (by show 0 + 1 < 8; decide) (fun z hz => by
      have : z = _ := List.mem_singleton.1 hz
      rw [this]; show (2 : Int) < 3; decide) (by show 1 ≤ 1000; decide) (by show 8 ≤ 1000; decide)) (by decide) s hs
theorem wFlush (h : DevIn w d L S E wv (wD3 B x y)) : Calls Tryz.prog 24 #[.pointer (some ⟨d, 0, none⟩)] w fun e w' => ∃ v, e = .returned v ∧ w'.ownsRow w.heap.size 77 4 v 4 ((wA x y).flatMap encA) ∧ DevIn w' d L S E (.slice none 0 0) (wD4 B x y) ∧ FtT B devT w w' :=
  flush_any d L S 1 1 E wv (wD3 B x y) (wL x y) Two (fun _ _ h => by rw [h.1]) (pops_two d) (wD3 B x y).wait w h (by show 0 < 0 + 1; decide) rfl (by show 5 ≤ 10; decide) (by show 10 ≤ 1000; decide) (by simp [wL]; rfl) (fun z hz => by
    simp only [wL, List.mem_map, List.mem_range] at hz
    obtain ⟨k, _, rfl⟩ := hz
    split <;> omega) (fun j z hj => by
    have hjl : j < 5 := by
      have := (List.getElem?_eq_some_iff.1 hj).1
      simpa [wL] using this
    have hz : z = if j = x then y else 0 := by
      simp only [wL, List.getElem?_map, List.getElem?_range hjl, Option.map_some, Option.some.injEq] at hj
      exact hj.symm
    show entSet (wD1 B x y) x y 2 j = _
    rw [wEnt B x y j hx hjl, hz]
    split <;> rfl) (by show 1 ≤ 64; decide) (fun i hi => by
      have : i < 1 := hi
      show i * 62 ≤ 2 * 5
      omega) (by show 0 ≤ 1; decide) (by show 0 ≤ 3; decide) rfl rfl ⟨rfl, by show 2 ≤ 2; decide⟩ (by show 2 ≤ 1000; decide) (by show 0 < 2; decide)
theorem wFeed4 (h : DevIn w d L S E wv (wD4 B x y)) (s : ByteArray) (hs : s = streamB 4 9 (readB x)) : Calls Tryz.prog 20 #[.pointer (some ⟨d, 0, none⟩), .int .i64 1, .string s] w fun e w' => ∃ v wv', e = .returned (.tuple #[v, .int .i64 0]) ∧ w'.ownsRow w.heap.size 77 4 v 1 ([(2, 0, 1, streamB 4 9 (tellB 3 [y]))].flatMap encA) ∧ DevIn w' d L S E wv' { wD4 B x y with arr := (wD4 B x y).arr + 1, ent := (wD4 B x y).ent } ∧ FtT B devT w w' :=
  feed_one d L S 1 4 E wv (wD4 B x y) _ (readB x) [(2, 0, 1, streamB 4 9 (tellB 3 [y]))] w h (by show 1 < 2; decide) (by show 2 ≤ 100; decide) rfl ⟨by show _ < 65536; simp only; omega, by show 9 < 256; decide, by show 1 ≤ (readB x).size; rw [readB_size]; omega, by show (readB x).size ≤ 253; rw [readB_size]; omega⟩
    (takeIs_now d L S 1 4 E wv (wD4 B x y) _ (tellB 3 [y]) (wD4 B x y).ent (by show 1 < 2; decide) rfl (by decide) (by show 9 < 256; decide) (by show 3 ≤ 1000000; decide) (by rw [wTell]; omega) (doIs_read d L S E wv (wD4 B x y) x y (by show x < 10; omega) (by show 10 ≤ 100; decide) hy (by show entSet (wD1 B x y) x y 2 x = _; rw [wEnt B x y x hx hx, if_pos rfl])) rfl (by show 0 < 8; decide)) (by show 1 ≤ 1; decide) s hs
end
end Go.Proofs.YtcpldcojckhapaaGreat
