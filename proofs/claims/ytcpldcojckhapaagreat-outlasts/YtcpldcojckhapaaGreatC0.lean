/-
  'string(b)' of a row of bytes.
-/
import Derived.Test.YtcpldcojckhapaaGreatE1
set_option maxRecDepth 100000
namespace Go.Proofs.YtcpldcojckhapaaGreat
open Go.RowKit

/-- Numbers as bytes. -/
def bytesOf (l : List Int) : ByteArray := ⟨(l.map fun n => UInt8.ofNat n.toNat).toArray⟩
theorem push_foldQ (l : List Int) : ∀ acc : ByteArray, (l.foldl (fun r n => r.push (UInt8.ofNat n.toNat)) acc).data.toList = acc.data.toList ++ l.map fun n => UInt8.ofNat n.toNat := by
  induction l with
  | nil => intro acc; simp
  | cons n l ih => intro acc; rw [List.foldl_cons, ih, List.map_cons]; simp
theorem conv_row (W : World) (g n c : Nat) (l : List Int) (hl : l.length = n) (hc : ∀ j x, l[j]? = some x → W.cell? ⟨g, j, none⟩ = some (.int .u8 x)) : (convert 114 9 (.slice (some ⟨g, 0, none⟩) n c)).run Tryz.prog W = .ok (.string (bytesOf l)) W := by
  subst hl
  rw [run_convert_bytes_string _ 114 9 5 _ _ c Tryz.underlying114 Tryz.underlying5 Tryz.underlying9, run_bytesToString _ _ _ c l]
  · congr 2
    apply ByteArray.ext
    apply Array.toList_inj.1
    rw [push_foldQ]
    simp [bytesOf]
  · have h := run_loadCells_list (P := Tryz.prog) W ⟨g, 0, none⟩ (l.map fun x => Value.int .u8 x) (fun j v hj => by
      have e : ((⟨g, 0, none⟩ : Addr).add j) = ⟨g, j, none⟩ := by by_cases h0 : j = 0 <;> simp [Addr.add, h0]
      rw [e]
      rw [List.getElem?_map] at hj
      obtain ⟨x, hx, rfl⟩ := Option.map_eq_some_iff.1 hj
      exact hc j x hx)
    rw [List.length_map] at h
    exact h
theorem infoU8Q : (Tryz.prog.info? 5).map (fun i => (i.zero, i.size, i.bytes)) = some (some (.int .u8 0), 1, 1) := by kernel_rfl
theorem made_bytesQ (n : Nat) (h : n ≤ 100000) (W : World) : (Instr.makeSlice 114 (.int .i64 (n : Int)) (.int .i64 (n : Int))).run Tryz.prog W = .ok (.slice (some ⟨W.heap.size, 0, none⟩) n n) (W.alloc (.cells (madeCells #[.int .u8 0] n) 5)) :=
  run_make_row' 114 5 _ 1 Tryz.underlying114 infoU8Q rfl .i64 .i64 n (by omega) (by omega) W
theorem madeBytes_at (n j : Nat) (h : j < n) : (madeCells #[.int .u8 0] n)[j]? = some (.int .u8 0) := by
  rw [← Array.getElem?_toList, toList_madeCells_one, List.getElem?_replicate, if_pos h]
/-- A blank sector. -/
def blank64 : ByteArray := bytesOf (List.replicate 64 0)
theorem blank64_list : blank64.data.toList = List.replicate 64 (0 : UInt8) := by decide +kernel
theorem blank64_size : blank64.size = 64 := by decide +kernel
end Go.Proofs.YtcpldcojckhapaaGreat
