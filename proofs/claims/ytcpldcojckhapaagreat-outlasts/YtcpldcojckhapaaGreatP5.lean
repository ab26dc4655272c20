/-
  tables.kept, where no coil is kept: what it answers.
-/
import Derived.Test.YtcpldcojckhapaaGreatP1
import Derived.Test.YtcpldcojckhapaaGreatV0
set_option maxRecDepth 100000
namespace Go.Proofs.YtcpldcojckhapaaGreat
open Go.RowKit

set_option maxRecDepth 100000 in
set_option maxHeartbeats 1000000 in
theorem bits_none (a : Option Addr) (c : Nat) (w : World) : Calls Tryz.prog 86 #[.slice a 0 c] w fun e w' => e = .returned (.string ⟨#[]⟩) ∧ Below w.heap.size w w' := by
  have hmk : ∀ W : World, (Instr.makeSlice 114 (.int .i64 0) (.int .i64 0)).run Tryz.prog W = .ok (.slice (some ⟨W.heap.size, 0, none⟩) 0 0) (W.alloc (.cells #[] 5)) := fun W => by
    have h := made_bytesQ 0 (by omega) W
    have e : madeCells #[Value.int .u8 0] 0 = #[] := by simp [madeCells]
    rw [e] at h
    exact h
  have hcv : ∀ (W : World) (g : Nat), (convert 114 9 (.slice (some ⟨g, 0, none⟩) 0 0)).run Tryz.prog W = .ok (.string ⟨#[]⟩) W := fun W g => conv_row W g 0 0 [] rfl (fun j x hj => by simp at hj)
  go_enter Tryz.func86, Tryz.ntmps86
  go_wp2_with fail
  refine (bitsSize_at 0 0 rfl _ (by omega)).mono ?_
  rintro e w1 ⟨rfl, rfl⟩
  go_wp2_with fail
  go_loopw [12] (fun i wr => i = .int .i64 0 ∧ wr = w1.alloc (.cells #[] 5)) (fun _ _ => 0)
  case atStart => exact ⟨rfl, rfl⟩
  case round =>
    obtain ⟨rfl, rfl⟩ := hrel
    go_wp2
    go_ret
    exact ⟨rfl, bel_alloc (Below.refl _ _) _⟩

set_option maxRecDepth 100000 in
set_option maxHeartbeats 1000000 in
theorem kept_any (l : List Nat) (d E0 E2 s0 s2 k2 : Nat) (w : World) (hl : l.length = k2) (hk : k2 ≤ s2) (hs : s2 ≤ 10000) (h16 : ∀ x ∈ l, x < 65536) (hE : E2 < w.heap.size) (hc : ∀ j x, l[j]? = some x → w.cell? ⟨E2, j, none⟩ = some (.int .i64 (x : Nat)))
    (c3 : w.cell? ⟨d, 3, none⟩ = some (.slice (some ⟨E0, 0, none⟩) s0 s0)) (c5 : w.cell? ⟨d, 5, none⟩ = some (.slice (some ⟨E2, 0, none⟩) s2 s2)) (c7 : w.cell? ⟨d, 7, none⟩ = some (.int .i64 0)) (c9 : w.cell? ⟨d, 9, none⟩ = some (.int .i64 (k2 : Nat))) :
    Calls Tryz.prog 59 #[.pointer (some ⟨d, 3, none⟩)] w fun e w' => e = .returned (.string (wordsB l)) ∧ Below w.heap.size w w' := by
  have HC := hideF hc
  have H16 := hideF h16
  have HL := hideF hl
  have hk1 : (k2 : Int) ≤ (s2 : Int) := by omega
  have hwb : (wordsB l).size ≤ 20000 := by
    have e : (wordsB l).size = (wordsI l).length := by simp [wordsB, bytesOf, ByteArray.size]
    rw [e, wordsI_len]; omega
  have hlim : ¬ 9223372036854775807 < (wordsB l).size := by omega
  clear hc h16 hl
  go_enter Tryz.func59, Tryz.ntmps59
  go_wp2_with fail
  go_quiet (fail)
  go_wp2_with fail
  go_quiet (fail)
  go_wp2_with fail
  refine (bits_none _ _ _).mono ?_
  rintro e w1 ⟨rfl, hb1⟩
  have HB1 := hideF (bel_then (below_drewN (Below.refl w.heap.size w) _) hb1)
  have hs1 := HB1.out.size
  have HC1 : Hid (∀ j x, l[j]? = some x → w1.cell? ⟨E2, 0 + j, none⟩ = some (.int .i64 (x : Nat))) := fun j x hj => by rw [Nat.zero_add, (bcell HB1.out).1 E2 j hE]; exact HC.out j x hj
  clear hb1
  go_wp2_with fail
  refine (words_any l k2 s2 E2 0 _ _ HL.out (by omega) H16.out (by omega) (fun _ => rfl) HC1.out).mono ?_
  rintro e w2 ⟨rfl, hb2⟩
  have HB2 := hideF (bel_then HB1.out hb2)
  clear hb2
  go_wp2
  go_ret
  have e : (⟨#[]⟩ : ByteArray) ++ wordsB l = wordsB l := by apply ByteArray.ext; simp
  exact ⟨by first | rfl | rw [e], HB2.out⟩
end Go.Proofs.YtcpldcojckhapaaGreat
