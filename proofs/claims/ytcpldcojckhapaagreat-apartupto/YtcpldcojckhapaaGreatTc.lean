/-
  
-/
import Derived.Test.YtcpldcojckhapaaGreatJ40
import Derived.Deep.RegionHeld3
set_option maxRecDepth 100000
namespace Go.Proofs.YtcpldcojckhapaaGreat
open Go.RowKit
def ValA (w : World) (a2 : Option Addr) (nd : Nat) (f : Nat -> ByteArray) : Prop := ∀ j, j < nd -> ∃ g o, a2 = some ⟨g, o, none⟩ /\ g < w.heap.size /\ w.cell? ⟨g, o + j, none⟩ = some (.string (f j))
def apA (x2 : Int) (i : Nat) : Nat := (pk (wrap64 (x2 + (i : Int))) 20).toNat
theorem apA_lt (x2 : Int) (i : Nat) : apA x2 i < 20 := by
  have h1 := pk_nonneg (wrap64 (x2 + (i : Int))) 20 (by omega)
  have h2 := pk_lt (wrap64 (x2 + (i : Int))) 20 (by omega)
  unfold apA; omega
theorem apA_eq (x2 : Int) (i : Nat) : pk (wrap64 (x2 + (i : Int))) 20 = (apA x2 i : Nat) := by
  have h1 := pk_nonneg (wrap64 (x2 + (i : Int))) 20 (by omega)
  unfold apA; omega
def apR (x2 : Int) (n1 : Nat) (vals : Nat -> Int) (i : Nat) : ByteArray := streamB (i % 65536) 3 (⟨#[4, 2]⟩ ++ twoB (apV n1 vals (apA x2 i)))
def apF (n1 : Nat) (vals : Nat -> Int) (j : Nat) : Nat := if j < 20 then apV n1 vals j else 0
section
variable (a0 a1 : Option Addr) (n0 k0 n1 k1 : Nat) (x2 : Int)
set_option maxHeartbeats 4000000 in
theorem ap14_wp (w : World) (B d i : Nat) (s : Nat -> Value) (J : World -> Prop) (hJ : J w) :
    (apC [1, 1, 1, 1, 1, 0, 1, 0, 0, 1, 0, 0, 0]).wp Tryz.prog (nPost fun tm w' => ∃ s : Nat -> Value, tm = #[.slice a0 n0 k0, .slice a1 n1 k1, .int .i64 x2, s 3, s 4, s 5, s 6, .pointer (some ⟨B + 1, 0, none⟩), .pointer (some ⟨d, 0, none⟩), s 9, s 10, s 11, s 12, .int .i64 (i : Nat), .int .i64 (apA x2 i : Nat), s 15, s 16, s 17, s 18, s 19, s 20, s 21, s 22, s 23, s 24, s 25, s 26, s 27, s 28, s 29, s 30, s 31, s 32, s 33, s 34, s 35, s 36, s 37, s 38, s 39, s 40, s 41, s 42, s 43, s 44, s 45, s 46, s 47, s 48, s 49, s 50, s 51, s 52, s 53, s 54, s 55, s 56, s 57, s 58, s 59, s 60, s 61, s 62, s 63, s 64, s 65, s 66, s 67, s 68, s 69, s 70, s 71, s 72, s 73, s 74, s 75, s 76, s 77, s 78, s 79, s 80, s 81, s 82, s 83, s 84, s 85, s 86, s 87, s 88, s 89, s 90, s 91, s 92, s 93, s 94, s 95, s 96, s 97, s 98, s 99, s 100, s 101, s 102, s 103, s 104, s 105, s 106, s 107, s 108, s 109, s 110, s 111, s 112, s 113, s 114, s 115, s 116, s 117, s 118, s 119, s 120, s 121, s 122, s 123, s 124] /\ J w') ⟨#[.slice a0 n0 k0, .slice a1 n1 k1, .int .i64 x2, s 3, s 4, s 5, s 6, .pointer (some ⟨B + 1, 0, none⟩), .pointer (some ⟨d, 0, none⟩), s 9, s 10, s 11, s 12, .int .i64 (i : Nat), s 14, s 15, s 16, s 17, s 18, s 19, s 20, s 21, s 22, s 23, s 24, s 25, s 26, s 27, s 28, s 29, s 30, s 31, s 32, s 33, s 34, s 35, s 36, s 37, s 38, s 39, s 40, s 41, s 42, s 43, s 44, s 45, s 46, s 47, s 48, s 49, s 50, s 51, s 52, s 53, s 54, s 55, s 56, s 57, s 58, s 59, s 60, s 61, s 62, s 63, s 64, s 65, s 66, s 67, s 68, s 69, s 70, s 71, s 72, s 73, s 74, s 75, s 76, s 77, s 78, s 79, s 80, s 81, s 82, s 83, s 84, s 85, s 86, s 87, s 88, s 89, s 90, s 91, s 92, s 93, s 94, s 95, s 96, s 97, s 98, s 99, s 100, s 101, s 102, s 103, s 104, s 105, s 106, s 107, s 108, s 109, s 110, s 111, s 112, s 113, s 114, s 115, s 116, s 117, s 118, s 119, s 120, s 121, s 122, s 123, s 124], []⟩ w := by
  unfold apC
  simp only [Tryz.f6, Option.getD_some, nav]
  have hb : -9223372036854775808 <= wrap64 (x2 + (i : Int)) /\ wrap64 (x2 + (i : Int)) <= 9223372036854775807 := by unfold wrap64; omega
  have HE := hideF (apA_eq x2 i)
  go_wp2_with fail
  refine (pick_any _ 20 _ hb.1 hb.2 (by omega) (by omega)).mono ?_
  rintro e w1 ⟨rfl, rfl⟩
  rw [HE.out]
  go_wp2
  exact ⟨rfl, sx rfl hJ⟩
set_option maxHeartbeats 4000000 in
theorem ap15_wp (w0 w : World) (B d L S i A : Nat) (E : Nat -> Nat) (vals : Nat -> Int) (s : Nat -> Value) (h : ApW w0 B d L S E A (apF n1 vals) w) (hA : A <= 300000000) :
    (apC [1, 1, 1, 1, 1, 0, 1, 0, 0, 1, 0, 0, 1, 0]).wp Tryz.prog (nPost fun tm w' => ∃ (v15 : Value) (s : Nat -> Value), tm = #[.slice a0 n0 k0, .slice a1 n1 k1, .int .i64 x2, s 3, s 4, s 5, s 6, .pointer (some ⟨B + 1, 0, none⟩), .pointer (some ⟨d, 0, none⟩), s 9, s 10, s 11, s 12, .int .i64 (i : Nat), .int .i64 (apA x2 i : Nat), v15, .int .i64 0, s 17, s 18, s 19, s 20, s 21, s 22, s 23, s 24, s 25, s 26, s 27, s 28, s 29, s 30, s 31, s 32, s 33, s 34, s 35, s 36, s 37, s 38, s 39, s 40, s 41, s 42, s 43, s 44, s 45, s 46, s 47, s 48, s 49, s 50, s 51, s 52, s 53, s 54, s 55, s 56, s 57, s 58, s 59, s 60, s 61, s 62, s 63, s 64, s 65, s 66, s 67, s 68, s 69, s 70, s 71, s 72, s 73, s 74, s 75, s 76, s 77, s 78, s 79, s 80, s 81, s 82, s 83, s 84, s 85, s 86, s 87, s 88, s 89, s 90, s 91, s 92, s 93, s 94, s 95, s 96, s 97, s 98, s 99, s 100, s 101, s 102, s 103, s 104, s 105, s 106, s 107, s 108, s 109, s 110, s 111, s 112, s 113, s 114, s 115, s 116, s 117, s 118, s 119, s 120, s 121, s 122, s 123, s 124] /\ w'.ownsRow (B + 2) 77 4 v15 1 ([(2, 0, 2, apR x2 n1 vals i)].flatMap encA) /\ ApW w0 B d L S E (A + 1) (apF n1 vals) w') ⟨#[.slice a0 n0 k0, .slice a1 n1 k1, .int .i64 x2, s 3, s 4, s 5, s 6, .pointer (some ⟨B + 1, 0, none⟩), .pointer (some ⟨d, 0, none⟩), s 9, s 10, s 11, s 12, .int .i64 (i : Nat), .int .i64 (apA x2 i : Nat), s 15, s 16, s 17, s 18, s 19, s 20, s 21, s 22, s 23, s 24, s 25, s 26, s 27, s 28, s 29, s 30, s 31, s 32, s 33, s 34, s 35, s 36, s 37, s 38, s 39, s 40, s 41, s 42, s 43, s 44, s 45, s 46, s 47, s 48, s 49, s 50, s 51, s 52, s 53, s 54, s 55, s 56, s 57, s 58, s 59, s 60, s 61, s 62, s 63, s 64, s 65, s 66, s 67, s 68, s 69, s 70, s 71, s 72, s 73, s 74, s 75, s 76, s 77, s 78, s 79, s 80, s 81, s 82, s 83, s 84, s 85, s 86, s 87, s 88, s 89, s 90, s 91, s 92, s 93, s 94, s 95, s 96, s 97, s 98, s 99, s 100, s 101, s 102, s 103, s 104, s 105, s 106, s 107, s 108, s 109, s 110, s 111, s 112, s 113, s 114, s 115, s 116, s 117, s 118, s 119, s 120, s 121, s 122, s 123, s 124], []⟩ w := by
  unfold apC
  simp only [Tryz.f6, Option.getD_some, nav]
  have ha := apA_lt x2 i
  have hri : (i : Int) % 65536 = ((i % 65536 : Nat) : Int) := by omega
  have HH := hideF h
  obtain ⟨m, hm⟩ : ∃ m, m = i % 65536 := ⟨_, rfl⟩
  have hml : m < 65536 := by omega
  obtain ⟨a, hae⟩ : ∃ a, a = apA x2 i := ⟨_, rfl⟩
  have hRe : apR x2 n1 vals i = streamB m 3 (⟨#[4, 2]⟩ ++ twoB (apF n1 vals a)) := by unfold apR apF; rw [<- hm, <- hae, if_pos (by omega)]
  rw [hRe]
  rw [<- hae] at ha ⊢
  have hmi : Int.tmod (i : Int) 65536 = ((m : Nat) : Int) := by rw [hm]; rfl
  have z1 : (twoB a).size = 2 := rfl
  have z2 : (twoB 1).size = 2 := rfl
  have z3 : ((⟨#[4]⟩ : ByteArray) ++ twoB a).size = 3 := by rw [ByteArray.size_append]; rfl
  have HM := hideF hm
  clear h hRe hae hm hri
  go_wp2_with fail
  refine (two_any a w (by omega)).mono ?_
  rintro e w1 ⟨rfl, hb1⟩
  have HB1 := hideF hb1
  clear hb1
  go_wp2_with fail
  refine (two_any 1 w1 (by omega)).mono ?_
  rintro e w2 ⟨rfl, hb2⟩
  have HB2 := hideF (bel_then HB1.out hb2)
  clear hb2
  have HRI : Hid (⟨#[4]⟩ ++ twoB a ++ twoB 1 = readI a) := rfl
  go_wp2_with fail
  rw [HRI.out]
  have hz5 := readI_size a
  refine (stream_any m 3 (readI a) w2 hml (by omega) (by omega)).mono ?_
  rintro e w3 ⟨rfl, hb3⟩
  have HB3 := hideF (bel_then HB2.out hb3)
  clear hb3
  go_wp2_with fail
  obtain ⟨wv, D, hD, hap⟩ := (HH.out.below HB3.out).dev
  refine (feed_own d L S E wv D w3 m a (B + 2) A (apF n1 vals) hD hap ha hml (by omega)).mono ?_
  rintro e w4 ⟨v15, wv', D', rfl, hown, hD4, hap4, hF4⟩
  have HO := hideF hown
  have HD4 := hideF hD4
  have HAP4 := hideF hap4
  have HF4 := hideF hF4
  clear hown hD4 hap4 hF4 hD hap
  go_wp2
  exact ⟨rfl, v15, sx rfl ⟨own_base HO.out (HH.out.below HB3.out).here, (HH.out.below HB3.out).ft HF4.out ⟨wv', D', HD4.out, HAP4.out⟩⟩⟩
set_option maxHeartbeats 4000000 in
theorem ap16_wp (w0 w : World) (B d L S i A : Nat) (E : Nat -> Nat) (vals : Nat -> Nat) (R : ByteArray) (v15 : Value) (s : Nat -> Value) (h : ApW w0 B d L S E A vals w) (ho : w.ownsRow (B + 2) 77 4 v15 1 ([(2, 0, 2, R)].flatMap encA)) :
    (apC [1, 1, 1, 1, 1, 0, 1, 0, 0, 1, 0, 0, 1, 1, 0]).wp Tryz.prog (nPost fun tm w' => ∃ (g17 k17 : Nat) (s : Nat -> Value), tm = #[.slice a0 n0 k0, .slice a1 n1 k1, .int .i64 x2, s 3, s 4, s 5, s 6, .pointer (some ⟨B + 1, 0, none⟩), .pointer (some ⟨d, 0, none⟩), s 9, s 10, s 11, s 12, .int .i64 (i : Nat), .int .i64 (apA x2 i : Nat), s 15, .int .i64 0, .slice (some ⟨g17, 0, none⟩) 1 k17, s 18, s 19, s 20, s 21, s 22, s 23, s 24, s 25, s 26, s 27, s 28, s 29, s 30, s 31, s 32, s 33, s 34, s 35, s 36, s 37, s 38, s 39, s 40, s 41, s 42, s 43, s 44, s 45, s 46, s 47, s 48, s 49, s 50, s 51, s 52, s 53, s 54, s 55, s 56, s 57, s 58, s 59, s 60, s 61, s 62, s 63, s 64, s 65, s 66, s 67, s 68, s 69, s 70, s 71, s 72, s 73, s 74, s 75, s 76, s 77, s 78, s 79, s 80, s 81, s 82, s 83, s 84, s 85, s 86, s 87, s 88, s 89, s 90, s 91, s 92, s 93, s 94, s 95, s 96, s 97, s 98, s 99, s 100, s 101, s 102, s 103, s 104, s 105, s 106, s 107, s 108, s 109, s 110, s 111, s 112, s 113, s 114, s 115, s 116, s 117, s 118, s 119, s 120, s 121, s 122, s 123, s 124] /\ g17 < w'.heap.size /\ w'.cell? ⟨g17, 0, none⟩ = some (.string R) /\ ApW w0 B d L S E A vals w') ⟨#[.slice a0 n0 k0, .slice a1 n1 k1, .int .i64 x2, s 3, s 4, s 5, s 6, .pointer (some ⟨B + 1, 0, none⟩), .pointer (some ⟨d, 0, none⟩), s 9, s 10, s 11, s 12, .int .i64 (i : Nat), .int .i64 (apA x2 i : Nat), v15, .int .i64 0, s 17, s 18, s 19, s 20, s 21, s 22, s 23, s 24, s 25, s 26, s 27, s 28, s 29, s 30, s 31, s 32, s 33, s 34, s 35, s 36, s 37, s 38, s 39, s 40, s 41, s 42, s 43, s 44, s 45, s 46, s 47, s 48, s 49, s 50, s 51, s 52, s 53, s 54, s 55, s 56, s 57, s 58, s 59, s 60, s 61, s 62, s 63, s 64, s 65, s 66, s 67, s 68, s 69, s 70, s 71, s 72, s 73, s 74, s 75, s 76, s 77, s 78, s 79, s 80, s 81, s 82, s 83, s 84, s 85, s 86, s 87, s 88, s 89, s 90, s 91, s 92, s 93, s 94, s 95, s 96, s 97, s 98, s 99, s 100, s 101, s 102, s 103, s 104, s 105, s 106, s 107, s 108, s 109, s 110, s 111, s 112, s 113, s 114, s 115, s 116, s 117, s 118, s 119, s 120, s 121, s 122, s 123, s 124], []⟩ w := by
  unfold apC
  simp only [Tryz.f6, Option.getD_some, nav]
  have HH := hideF h
  have HS := hideF (sends_any [(2, 0, 2, R)] v15 (B + 2) w (by simp) ho)
  clear h ho
  go_wp2_with fail
  refine HS.out.mono ?_
  rintro e w1 ⟨u, rfl, hu, hb⟩
  have hu' : w1.ownsRow w.heap.size 9 1 u 1 [.string R] := hu
  obtain ⟨au, cu, rfl, hat⟩ := own_view hu'
  obtain ⟨g17, rfl, hg17, hc17⟩ := hat 0 (by omega)
  have HC := hideF (hc17 0 (by omega))
  have HB := hideF hb
  clear hu hu' hat hc17 hb
  go_wp2
  exact ⟨rfl, g17, cu, sx rfl ⟨hg17, HC.out, HH.out.below HB.out⟩⟩
set_option maxHeartbeats 8000000 in
theorem ap17_wp (w0 w : World) (B d L S i A g17 k17 : Nat) (E : Nat -> Nat) (vals : Nat -> Int) (s : Nat -> Value) (h : ApW w0 B d L S E A (apF n1 vals) w) (hv : Vals w0 a1 n1 vals) (hB : w0.heap.size = B) (hn : n1 <= 9223372036854775807) (hg : g17 < w.heap.size) (hc : w.cell? ⟨g17, 0, none⟩ = some (.string (apR x2 n1 vals i))) :
    (apC [1, 1, 1, 1, 1, 0, 1, 0, 0, 1, 0, 0, 1, 1, 1, 0]).wp Tryz.prog (nPost fun tm w' => ∃ s : Nat -> Value, tm = #[.slice a0 n0 k0, .slice a1 n1 k1, .int .i64 x2, s 3, s 4, s 5, s 6, .pointer (some ⟨B + 1, 0, none⟩), .pointer (some ⟨d, 0, none⟩), s 9, s 10, s 11, s 12, .int .i64 (i : Nat), s 14, s 15, s 16, s 17, s 18, s 19, s 20, s 21, s 22, s 23, s 24, s 25, s 26, s 27, s 28, s 29, s 30, s 31, s 32, s 33, s 34, s 35, s 36, s 37, s 38, s 39, s 40, s 41, s 42, s 43, s 44, s 45, s 46, s 47, s 48, s 49, s 50, s 51, s 52, s 53, s 54, s 55, s 56, s 57, s 58, s 59, s 60, s 61, s 62, s 63, s 64, s 65, s 66, s 67, s 68, s 69, s 70, s 71, s 72, s 73, s 74, s 75, s 76, s 77, s 78, s 79, s 80, s 81, s 82, s 83, s 84, s 85, s 86, s 87, s 88, s 89, s 90, s 91, s 92, s 93, s 94, s 95, s 96, s 97, s 98, s 99, s 100, s 101, s 102, s 103, s 104, s 105, s 106, s 107, s 108, s 109, s 110, s 111, s 112, s 113, s 114, s 115, s 116, s 117, s 118, s 119, s 120, s 121, s 122, s 123, s 124] /\ ApW w0 B d L S E A (apF n1 vals) w') ⟨#[.slice a0 n0 k0, .slice a1 n1 k1, .int .i64 x2, s 3, s 4, s 5, s 6, .pointer (some ⟨B + 1, 0, none⟩), .pointer (some ⟨d, 0, none⟩), s 9, s 10, s 11, s 12, .int .i64 (i : Nat), .int .i64 (apA x2 i : Nat), s 15, .int .i64 0, .slice (some ⟨g17, 0, none⟩) 1 k17, s 18, s 19, s 20, s 21, s 22, s 23, s 24, s 25, s 26, s 27, s 28, s 29, s 30, s 31, s 32, s 33, s 34, s 35, s 36, s 37, s 38, s 39, s 40, s 41, s 42, s 43, s 44, s 45, s 46, s 47, s 48, s 49, s 50, s 51, s 52, s 53, s 54, s 55, s 56, s 57, s 58, s 59, s 60, s 61, s 62, s 63, s 64, s 65, s 66, s 67, s 68, s 69, s 70, s 71, s 72, s 73, s 74, s 75, s 76, s 77, s 78, s 79, s 80, s 81, s 82, s 83, s 84, s 85, s 86, s 87, s 88, s 89, s 90, s 91, s 92, s 93, s 94, s 95, s 96, s 97, s 98, s 99, s 100, s 101, s 102, s 103, s 104, s 105, s 106, s 107, s 108, s 109, s 110, s 111, s 112, s 113, s 114, s 115, s 116, s 117, s 118, s 119, s 120, s 121, s 122, s 123, s 124], []⟩ w := by
  unfold apC
  simp only [Tryz.f6, Option.getD_some, nav]
  have ha := apA_lt x2 i
  have hvw := vals_low hv hB (by have := h.here; omega) h.low
  obtain ⟨a, hae⟩ : ∃ a, a = apA x2 i := ⟨_, rfl⟩
  have hRe : apR x2 n1 vals i = streamB (i % 65536) 3 (⟨#[4, 2]⟩ ++ twoB (apV n1 vals a)) := by unfold apR; rw [<- hae]
  obtain ⟨R, hR⟩ : ∃ R, R = apR x2 n1 vals i := ⟨_, rfl⟩
  rw [<- hR] at hc hRe
  rw [<- hae] at ha ⊢
  have hbd := atV_bd hvw a
  have hpl := apV_lt n1 vals a
  have HPE := hideF (apV_eq n1 vals a)
  obtain ⟨m, hm⟩ : ∃ m, m = i % 65536 := ⟨_, rfl⟩
  have hml : m < 65536 := by omega
  have hmi : Int.tmod (i : Int) 65536 = ((m : Nat) : Int) := by rw [hm]; rfl
  rw [<- hm] at hRe
  have HRE := hideF hRe
  have HH := hideF h
  have HVW := hideF hvw
  have HM := hideF hm
  have z1 : (twoB (apV n1 vals a)).size = 2 := rfl
  have hz5 : ((⟨#[4, 2]⟩ : ByteArray) ++ twoB (apV n1 vals a)).size = 4 := by rw [ByteArray.size_append]; rfl
  clear h hv hRe hvw hm hae hR
  go_wp2_with fail
  go_region_held3 (fun w' => w'.cell? ⟨g17, 0, none⟩ = some (.string R)) (go_keep)
    (first
      | (go_at_call 23; refine (at_val a n1 k1 a1 vals w.drew (fun j hj => HVW.out j hj) hn (by omega)).mono ?_; rintro e w1 ⟨rfl, rfl⟩)
      | (go_at_call 18; refine (pick_any _ 65536 _ hbd.1 hbd.2 (by omega) (by omega)).mono ?_; rintro e w1 ⟨rfl, rfl⟩; rw [HPE.out])
      | (go_at_call 29; refine (two_any (apV n1 vals a) _ hpl).mono ?_; rintro e w2 ⟨rfl, hb2⟩; have q2 := ((bcell hb2).1 _ _ hg).trans hc)
      | (go_at_call 21; refine (stream_any m 3 _ _ hml (by omega) (by omega)).mono ?_; rintro e w3 ⟨rfl, hb3⟩; have q3 := ((bcell hb3).1 _ _ (Nat.lt_of_lt_of_le hg hb2.size)).trans q2))
  have hcmp : (R.toList == (streamB m 3 (⟨#[4, 2]⟩ ++ twoB (apV n1 vals a))).toList) = true := by rw [HRE.out]; exact beq_self_eq_true _
  have HB := hideF (bel_then (below_then_drew1 hb2) hb3)
  clear hb2 hb3 q2 q3
  simp only [hcmp, Bool.not_true]
  go_wp2
  exact ⟨rfl, sx rfl (HH.out.below HB.out)⟩
def apU (f : Nat -> ByteArray) (i : Nat) : Nat := match i with
  | 0 => 0
  | i + 1 => apU f i + (f i).size
set_option maxHeartbeats 4000000 in
theorem ap20_wp (w0 w : World) (B d L S i A : Nat) (E : Nat -> Nat) (vals : Nat -> Nat) (f : Nat -> ByteArray) (s : Nat -> Value) (h : ApW w0 B d L S E A vals w) (hv : ValA w0 a0 n0 f) (hB : w0.heap.size = B) (hi : i < n0) (hs : (f i).size <= 1048576) (hA : A <= 300000000) :
    (apC [1, 1, 1, 1, 1, 0, 1, 0, 0, 1, 0, 0, 1, 1, 1, 1, 1, 0, 0]).wp Tryz.prog (nPost fun tm w' => ∃ s : Nat -> Value, tm = #[.slice a0 n0 k0, .slice a1 n1 k1, .int .i64 x2, s 3, s 4, s 5, s 6, .pointer (some ⟨B + 1, 0, none⟩), .pointer (some ⟨d, 0, none⟩), s 9, s 10, s 11, s 12, .int .i64 (i : Nat), s 14, s 15, s 16, s 17, s 18, s 19, s 20, s 21, s 22, s 23, s 24, s 25, s 26, s 27, s 28, s 29, s 30, s 31, s 32, s 33, s 34, s 35, s 36, s 37, s 38, s 39, s 40, s 41, s 42, s 43, s 44, s 45, s 46, s 47, s 48, s 49, s 50, s 51, s 52, s 53, s 54, s 55, s 56, s 57, s 58, s 59, s 60, s 61, s 62, s 63, s 64, s 65, s 66, s 67, s 68, s 69, s 70, s 71, s 72, s 73, s 74, s 75, s 76, s 77, s 78, s 79, s 80, s 81, s 82, s 83, s 84, s 85, s 86, s 87, s 88, s 89, s 90, s 91, s 92, s 93, s 94, s 95, s 96, s 97, s 98, s 99, s 100, s 101, s 102, s 103, s 104, s 105, s 106, s 107, s 108, s 109, s 110, s 111, s 112, s 113, s 114, s 115, s 116, s 117, s 118, s 119, s 120, s 121, s 122, s 123, s 124] /\ ApW w0 B d L S E (A + 38 + (f i).size) vals w') ⟨#[.slice a0 n0 k0, .slice a1 n1 k1, .int .i64 x2, s 3, s 4, s 5, s 6, .pointer (some ⟨B + 1, 0, none⟩), .pointer (some ⟨d, 0, none⟩), s 9, s 10, s 11, s 12, .int .i64 (i : Nat), s 14, s 15, s 16, s 17, s 18, s 19, s 20, s 21, s 22, s 23, s 24, s 25, s 26, s 27, s 28, s 29, s 30, s 31, s 32, s 33, s 34, s 35, s 36, s 37, s 38, s 39, s 40, s 41, s 42, s 43, s 44, s 45, s 46, s 47, s 48, s 49, s 50, s 51, s 52, s 53, s 54, s 55, s 56, s 57, s 58, s 59, s 60, s 61, s 62, s 63, s 64, s 65, s 66, s 67, s 68, s 69, s 70, s 71, s 72, s 73, s 74, s 75, s 76, s 77, s 78, s 79, s 80, s 81, s 82, s 83, s 84, s 85, s 86, s 87, s 88, s 89, s 90, s 91, s 92, s 93, s 94, s 95, s 96, s 97, s 98, s 99, s 100, s 101, s 102, s 103, s 104, s 105, s 106, s 107, s 108, s 109, s 110, s 111, s 112, s 113, s 114, s 115, s 116, s 117, s 118, s 119, s 120, s 121, s 122, s 123, s 124], []⟩ w := by
  unfold apC
  simp only [Tryz.f6, Option.getD_some, nav]
  obtain ⟨g, o, rfl, hg, hc⟩ := hv i hi
  have hcw : w.cell? ⟨g, o + i, none⟩ = some (.string (f i)) := (World.cell?_of_block (h.low g (by omega))).trans hc
  have hiI : (i : Int) < (n0 : Int) := by omega
  have HH := hideF h
  obtain ⟨wv, D, hD, hap⟩ := h.dev
  have HFN := hideF (feed_noise d L S (i % 2) E wv D (f i) w (B + 2) A vals hD hap (by omega) hs hA)
  obtain ⟨m, hm⟩ : ∃ m, m = i % 2 := ⟨_, rfl⟩
  rw [<- hm] at HFN
  have HM3 : Hid ((i : Int) % 2 = ((m : Nat) : Int)) := by show _ = _; omega
  clear h hv hD hap hc hm
  go_wp2_with fail
  rw [HM3.out]
  refine HFN.out.mono ?_
  rintro e w4 ⟨v, wv', D', rfl, hD4, hap4, hF4⟩
  have HD4 := hideF hD4
  have HAP4 := hideF hap4
  have HF4 := hideF hF4
  clear hD4 hap4 hF4
  go_wp2
  exact ⟨rfl, sx rfl (HH.out.ft HF4.out ⟨wv', D', HD4.out, HAP4.out⟩)⟩
set_option maxHeartbeats 4000000 in
theorem ap4_wp (w : World) (B d i k18 Bo : Nat) (a18 : Option Addr) (As : List (Int × Int × Int × ByteArray)) (s : Nat -> Value) (ho : w.ownsRow Bo 77 4 (.slice a18 As.length k18) As.length (As.flatMap encA)) (hl : As.length <= 1) (h1 : ∀ x ∈ As, x.2.2.1 = 1) (J : World -> Prop) (hJ : J w) :
    (apC [1, 1, 1, 1, 1, 0, 1, 0, 0, 1, 0, 0, 1, 1, 1, 1, 1, 0, 1, 1, 1]).wp Tryz.prog (nPost fun tm w' => ∃ s : Nat -> Value, tm = #[.slice a0 n0 k0, .slice a1 n1 k1, .int .i64 x2, s 3, s 4, s 5, s 6, .pointer (some ⟨B + 1, 0, none⟩), .pointer (some ⟨d, 0, none⟩), s 9, s 10, s 11, s 12, .int .i64 (i : Nat), s 14, s 15, s 16, s 17, s 18, s 19, s 20, s 21, s 22, s 23, s 24, s 25, s 26, s 27, s 28, s 29, s 30, s 31, s 32, s 33, s 34, s 35, s 36, s 37, s 38, s 39, s 40, s 41, s 42, s 43, s 44, s 45, s 46, s 47, s 48, s 49, s 50, s 51, s 52, s 53, s 54, s 55, s 56, s 57, s 58, s 59, s 60, s 61, s 62, s 63, s 64, s 65, s 66, s 67, s 68, s 69, s 70, s 71, s 72, s 73, s 74, s 75, s 76, s 77, s 78, s 79, s 80, s 81, s 82, s 83, s 84, s 85, s 86, s 87, s 88, s 89, s 90, s 91, s 92, s 93, s 94, s 95, s 96, s 97, s 98, s 99, s 100, s 101, s 102, s 103, s 104, s 105, s 106, s 107, s 108, s 109, s 110, s 111, s 112, s 113, s 114, s 115, s 116, s 117, s 118, s 119, s 120, s 121, s 122, s 123, s 124] /\ J w') ⟨#[.slice a0 n0 k0, .slice a1 n1 k1, .int .i64 x2, s 3, s 4, s 5, s 6, .pointer (some ⟨B + 1, 0, none⟩), .pointer (some ⟨d, 0, none⟩), s 9, s 10, s 11, s 12, .int .i64 (i : Nat), s 14, s 15, s 16, s 17, .slice a18 (As.length) k18, .int .i64 0, s 20, s 21, s 22, s 23, s 24, s 25, s 26, s 27, s 28, s 29, s 30, s 31, s 32, s 33, s 34, s 35, s 36, s 37, s 38, s 39, s 40, s 41, s 42, s 43, s 44, s 45, s 46, s 47, s 48, s 49, s 50, s 51, s 52, s 53, s 54, s 55, s 56, s 57, s 58, s 59, s 60, s 61, s 62, s 63, s 64, s 65, s 66, s 67, s 68, s 69, s 70, s 71, s 72, s 73, s 74, s 75, s 76, s 77, s 78, s 79, s 80, s 81, s 82, s 83, s 84, s 85, s 86, s 87, s 88, s 89, s 90, s 91, s 92, s 93, s 94, s 95, s 96, s 97, s 98, s 99, s 100, s 101, s 102, s 103, s 104, s 105, s 106, s 107, s 108, s 109, s 110, s 111, s 112, s 113, s 114, s 115, s 116, s 117, s 118, s 119, s 120, s 121, s 122, s 123, s 124], []⟩ w := by
  unfold apC
  simp only [Tryz.f6, Option.getD_some, nav]
  obtain ⟨ad, c, he, hat⟩ := own_view ho
  obtain ⟨rfl, rfl⟩ : a18 = ad /\ k18 = c := by simpa using he
  have HAT := hideF hat
  have H1 := hideF h1
  clear hat ho h1 he
  go_wp2_with fail
  go_loopw [19] (fun q wr => ∃ n : Nat, n <= As.length /\ q = .int .i64 (n : Nat) /\ wr = w) (fun q _ => As.length - (intOf q).toNat)
  case atStart => exact ⟨0, Nat.zero_le _, rfl, rfl⟩
  case round =>
    obtain ⟨n, hn, rfl, rfl⟩ := hrel
    by_cases hlt : n < As.length
    . obtain ⟨g, rfl, hgl, hcells⟩ := HAT.out n hlt
      have hx : As[n]? = some As[n] := List.getElem?_eq_getElem hlt
      obtain ⟨x, hxe⟩ : ∃ x, x = As[n] := ⟨_, rfl⟩
      rw [<- hxe] at hx
      have hx1 := H1.out x (List.mem_of_getElem? hx)
      have hk : wr.cell? ⟨g, n * 4, none⟩ = some (.int .u8 x.1) := by
        rw [hcells _ (by omega)]
        have := flat_gen encA 4 (fun _ => rfl) As n 0 hlt (by omega)
        rw [Nat.add_zero] at this
        rw [this, hxe]; rfl
      have hd : wr.cell? ⟨g, n * 4 + 2, none⟩ = some (.int .i64 1) := by
        rw [hcells _ (by omega)]
        have := flat_gen encA 4 (fun _ => rfl) As n 2 hlt (by omega)
        rw [this, <- hxe, <- hx1]; rfl
      clear hx hxe hcells
      by_cases h2 : x.1 = 2
      . have t2 : (x.1 == 2) = true := by simp [h2]
        clear h2
        go_wp2_with fail
        go_roundw
        case rel => exact ⟨n + 1, by omega, by go_num, by first | trivial | rfl⟩
        case measure => simp [intOf]; omega
      . have t2 : (x.1 == 2) = false := by simp [h2]
        clear h2
        go_wp2_with fail
        go_roundw
        case rel => exact ⟨n + 1, by omega, by go_num, by first | trivial | rfl⟩
        case measure => simp [intOf]; omega
    . obtain rfl : n = As.length := by omega
      go_wp2
      exact ⟨rfl, sx rfl hJ⟩
end
end Go.Proofs.YtcpldcojckhapaaGreat
