/-
  Package latchkeep's serial and Sent.frame: what they answer.
-/
import Derived.Test.YtcpldcojckhapaaKeep
set_option maxRecDepth 100000
namespace Go.Proofs.Ytcpldcojckhapaa
open Go.RowKit

def headB (u : Nat) (b : ByteArray) : ByteArray := ⟨#[UInt8.ofNat u]⟩ ++ b
def tailB (c : Nat) : ByteArray := ⟨#[UInt8.ofNat (c % 256), UInt8.ofNat (c / 256)]⟩

theorem conv2_at (W : World) (g : Nat) (x y : Int) (hc : W.cell? ⟨g, 0, none⟩ = some (.int .u8 x)) (hd : W.cell? ⟨g, 1, none⟩ = some (.int .u8 y)) : (convert 45 9 (.slice (some ⟨g, 0, none⟩) 2 2)).run Try.prog W = .ok (.string ⟨#[UInt8.ofNat x.toNat, UInt8.ofNat y.toNat]⟩) W := by
  rw [run_convert_bytes_string _ 45 9 5 _ 2 2 Try.underlying45 Try.underlying5 Try.underlying9, run_bytesToString _ _ 2 2 [x, y]]
  · rfl
  · have h := run_loadCells_list (P := Try.prog) W ⟨g, 0, none⟩ [.int .u8 x, .int .u8 y] (fun j v hj => by
      match j, hj with
      | 0, hj => simp at hj; subst hj; simpa [Addr.add] using hc
      | 1, hj => simp at hj; subst hj; simpa [Addr.add] using hd)
    simpa using h

set_option maxRecDepth 100000 in
set_option maxHeartbeats 1000000 in
theorem serialK_any (u : Nat) (b : ByteArray) (w : World) (hu : u < 256) (hb : b.size ≤ 253) :
    Calls Try.prog 25 #[.int .i64 (u : Nat), .string b] w fun e w' => ∃ c : Nat, e = .returned (.string (headB u b ++ tailB c)) ∧ Hid (c = Pl.crc (headB u b).data.toList) ∧ Below w.heap.size w w' := by
  have c1 : ∀ (W : World) (g : Nat), W.cell? ⟨g, 0, none⟩ = some (.int .u8 (u : Int)) → (convert 45 9 (.slice (some ⟨g, 0, none⟩) 1 1)).run Try.prog W = .ok (.string ⟨#[UInt8.ofNat u]⟩) W := fun W g hc => conv1_at W g u hc
  have hlim : ¬ 9223372036854775807 < 1 + b.size := by omega
  go_enter Try.func25, Try.ntmps25
  go_wp2_with fail
  have zu : (⟨#[UInt8.ofNat u]⟩ : ByteArray).size = 1 := rfl
  refine (check_any _ _ (by unfold maxLen; simp [zu]; omega)).mono ?_
  rintro e w1 ⟨rfl, rfl⟩
  obtain ⟨C, hC⟩ : ∃ C, C = Pl.crc ((⟨#[UInt8.ofNat u]⟩ : ByteArray) ++ b).data.toList := ⟨_, rfl⟩
  have hC1 : C < 65536 := by rw [hC]; exact Pl.crc_lt _
  rw [← hC]
  have HC : Hid (C = Pl.crc ((⟨#[UInt8.ofNat u]⟩ : ByteArray) ++ b).data.toList) := hC
  clear hC
  have c2 : ∀ (W : World) (g : Nat), W.cell? ⟨g, 0, none⟩ = some (.int .u8 ((C : Int) % 256)) → W.cell? ⟨g, 1, none⟩ = some (.int .u8 ((C : Int) / 256)) → (convert 45 9 (.slice (some ⟨g, 0, none⟩) 2 2)).run Try.prog W = .ok (.string (tailB C)) W := fun W g hc hd => conv2_at W g _ _ hc hd
  have zt : (tailB C).size = 2 := rfl
  have hlim3 : ¬ 9223372036854775807 < 1 + b.size + 2 := by omega
  go_wp2
  go_ret
  refine ⟨C, rfl, HC, ?_⟩
  · repeat (first | exact Below.refl _ _ | refine Below.drew ?_ | refine bel_alloc ?_ _)

theorem toList_ne (b : ByteArray) (h : 0 < b.size) : b.toList.isEmpty = false := by
  rw [ByteArray.toList_eq]
  cases hb : b.data.toList with
  | nil => have : b.data.size = 0 := by rw [← Array.length_toList, hb]; rfl
           have : b.size = b.data.size := rfl
           omega
  | cons x l => rfl
/-- A body as it may be. -/
def bodyB (b : ByteArray) : ByteArray := if b.size = 0 then ⟨#[1]⟩ else if 253 < b.size then b.extract 0 253 else b
theorem enter17 (x y : Value) (w : World) : (callFunc 24 #[x, y]).run Try.prog w = .ok (.enter 24 #[x, y]) w := by kernel_rfl
theorem pick_step (c n : Int) (w : World) (h1 : -9223372036854775808 ≤ c) (h2 : c ≤ 9223372036854775807) (h3 : 0 < n) (h4 : n ≤ 4294967296) :
    Calls Try.prog 24 #[.int .i64 c, .int .i64 n] w fun e w' => ∃ v, e = .returned v ∧ (v = .int .i64 (pk c n) ∧ w' = w) := by
  refine (pick_any c n w h1 h2 h3 h4).mono ?_
  rintro e w' ⟨rfl, rfl⟩
  exact ⟨_, rfl, rfl, rfl⟩

set_option maxRecDepth 100000 in
set_option maxHeartbeats 1000000 in
theorem sent_core (a u : Int) (b B : ByteArray) (w : World) (ha1 : -9223372036854775808 ≤ a) (ha2 : a ≤ 9223372036854775807) (hu1 : -9223372036854775808 ≤ u) (hu2 : u ≤ 9223372036854775807)
    (hB : (b.size = 0 ∧ B = ⟨#[1]⟩) ∨ (253 < b.size ∧ B = b.extract 0 253) ∨ (0 < b.size ∧ b.size ≤ 253 ∧ B = b)) (hb : b.size ≤ 4194304) :
    Calls Try.prog 22 #[.agg #[.int .i64 a, .int .i64 u, .string b]] w fun e w' => e = .returned (.agg #[.int .i64 (pk a 65536), .int .i64 (pk u 256), .string B]) ∧ Below w.heap.size w w' := by
  rcases hB with ⟨h0, rfl⟩ | ⟨h0, rfl⟩ | ⟨h0, h1, rfl⟩
  · obtain rfl : b = ⟨#[]⟩ := ByteArray.ext (Array.eq_empty_of_size_eq_zero h0)
    go_enter Try.func22, Try.ntmps22
    go_wp2_with fail
    go_region_law (first
      | (refine step_call rfl 24 #[.tmp 14, .const (.int .i64 65536)] #[3, 3] rfl #[.int .i64 a, .int .i64 65536] (by simp [Act.eval]) (enter17 _ _ _) _ (pick_step a 65536 _ ha1 ha2 (by decide) (by decide)) ?_; rintro v w1 ⟨rfl, rfl⟩)
      | (refine step_call rfl 24 #[.tmp 17, .const (.int .i64 256)] #[3, 3] rfl #[.int .i64 u, .int .i64 256] (by simp [Act.eval]) (enter17 _ _ _) _ (pick_step u 256 _ hu1 hu2 (by decide) (by decide)) ?_; rintro v w1 ⟨rfl, rfl⟩))
    all_goals go_wp2
    all_goals
      refine bodyPost_ret (v := .agg #[.int .i64 (pk a 65536), .int .i64 (pk u 256), .string ⟨#[1]⟩]) (by simp [results, Try.results22, go_sem]) rfl ⟨rfl, ?_⟩
      repeat (first | exact Below.refl _ _ | refine Below.drew ?_ | refine bel_alloc ?_ _)
  · have ne : b.toList.isEmpty = false := toList_ne b (by omega)
    go_enter Try.func22, Try.ntmps22
    go_wp2_with fail
    go_region_law (first
      | (refine step_call rfl 24 #[.tmp 14, .const (.int .i64 65536)] #[3, 3] rfl #[.int .i64 a, .int .i64 65536] (by simp [Act.eval]) (enter17 _ _ _) _ (pick_step a 65536 _ ha1 ha2 (by decide) (by decide)) ?_; rintro v w1 ⟨rfl, rfl⟩)
      | (refine step_call rfl 24 #[.tmp 17, .const (.int .i64 256)] #[3, 3] rfl #[.int .i64 u, .int .i64 256] (by simp [Act.eval]) (enter17 _ _ _) _ (pick_step u 256 _ hu1 hu2 (by decide) (by decide)) ?_; rintro v w1 ⟨rfl, rfl⟩))
    all_goals go_wp2
    all_goals
      refine bodyPost_ret (v := .agg #[.int .i64 (pk a 65536), .int .i64 (pk u 256), .string (b.extract 0 253)]) (by simp [results, Try.results22, go_sem]) rfl ⟨rfl, ?_⟩
      repeat (first | exact Below.refl _ _ | refine Below.drew ?_ | refine bel_alloc ?_ _)
  · have ne : B.toList.isEmpty = false := toList_ne B (by omega)
    go_enter Try.func22, Try.ntmps22
    go_wp2_with fail
    go_region_law (first
      | (refine step_call rfl 24 #[.tmp 14, .const (.int .i64 65536)] #[3, 3] rfl #[.int .i64 a, .int .i64 65536] (by simp [Act.eval]) (enter17 _ _ _) _ (pick_step a 65536 _ ha1 ha2 (by decide) (by decide)) ?_; rintro v w1 ⟨rfl, rfl⟩)
      | (refine step_call rfl 24 #[.tmp 17, .const (.int .i64 256)] #[3, 3] rfl #[.int .i64 u, .int .i64 256] (by simp [Act.eval]) (enter17 _ _ _) _ (pick_step u 256 _ hu1 hu2 (by decide) (by decide)) ?_; rintro v w1 ⟨rfl, rfl⟩))
    all_goals go_wp2
    all_goals
      refine bodyPost_ret (v := .agg #[.int .i64 (pk a 65536), .int .i64 (pk u 256), .string B]) (by simp [results, Try.results22, go_sem]) rfl ⟨rfl, ?_⟩
      repeat (first | exact Below.refl _ _ | refine Below.drew ?_ | refine bel_alloc ?_ _)

theorem sent_any (a u : Int) (b : ByteArray) (w : World) (ha1 : -9223372036854775808 ≤ a) (ha2 : a ≤ 9223372036854775807) (hu1 : -9223372036854775808 ≤ u) (hu2 : u ≤ 9223372036854775807) (hb : b.size ≤ 4194304) :
    Calls Try.prog 22 #[.agg #[.int .i64 a, .int .i64 u, .string b]] w fun e w' => e = .returned (.agg #[.int .i64 (pk a 65536), .int .i64 (pk u 256), .string (bodyB b)]) ∧ Below w.heap.size w w' := by
  refine sent_core a u b (bodyB b) w ha1 ha2 hu1 hu2 ?_ hb
  unfold bodyB
  by_cases h0 : b.size = 0
  · rw [if_pos h0]; exact .inl ⟨h0, rfl⟩
  · rw [if_neg h0]
    by_cases h1 : 253 < b.size
    · rw [if_pos h1]; exact .inr (.inl ⟨h1, rfl⟩)
    · rw [if_neg h1]; exact .inr (.inr ⟨by omega, by omega, rfl⟩)
theorem bodyB_size (b : ByteArray) : 1 ≤ (bodyB b).size ∧ (bodyB b).size ≤ 253 ∧ (bodyB b).size ≤ b.size + 1 := by
  unfold bodyB
  by_cases h0 : b.size = 0
  · rw [if_pos h0]; exact ⟨Nat.le_refl _, by decide, by show 1 ≤ _; omega⟩
  · rw [if_neg h0]
    by_cases h1 : 253 < b.size
    · rw [if_pos h1]; simp; omega
    · rw [if_neg h1]; omega
end Go.Proofs.Ytcpldcojckhapaa
