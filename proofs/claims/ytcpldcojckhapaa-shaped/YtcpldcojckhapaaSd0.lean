/-
  A frame whose scratch slots are forgotten; packed bytes as a text.
-/
import Derived.Test.YtcpldcojckhapaaMth2
namespace Go.Proofs.Ytcpldcojckhapaa
open Go.RowKit

theorem fill_at (T : Array Value) (ks : List Nat) : ∀ (B : Array Value) (k : Nat), (ks.foldl (fun A k => A.setIfInBounds k (T.getD k undef)) B)[k]? = if k ∈ ks then (if k < B.size then some (T.getD k undef) else none) else B[k]? := by
  induction ks with
  | nil => intro B k; simp
  | cons j ks ih =>
    intro B k
    rw [List.foldl_cons, ih, Array.size_setIfInBounds, Array.getElem?_setIfInBounds]
    by_cases h1 : k ∈ ks
    · simp [h1]
    · by_cases h2 : k = j
      · subst h2; simp [h1]
      · simp [h1, h2, Ne.symm h2]
/-- A frame that is as it was but for some slots. -/
theorem frame_fill (T B : Array Value) (ks : List Nat) (hs : T.size = B.size) (h : ∀ k, k ∉ ks → T[k]? = B[k]?) : T = ks.foldl (fun A k => A.setIfInBounds k (T.getD k undef)) B := by
  apply Array.ext_getElem?
  intro k
  rw [fill_at]
  by_cases hk : k ∈ ks
  · rw [if_pos hk]
    by_cases hlt : k < B.size
    · rw [if_pos hlt, Array.getElem?_eq_getElem (by omega), Array.getD_eq_getD_getElem?, Array.getElem?_eq_getElem (by omega)]; rfl
    · rw [if_neg hlt, Array.getElem?_eq_none (by omega)]
  · rw [if_neg hk]; exact h k hk
/-- The packed bytes behind q bits, as cells. -/
def pkA (bs : Nat → Nat) (q pl : Nat) : Array Value := ((List.range pl).map fun j => Value.int .u8 (Pl.pkd bs q j : Nat)).toArray
theorem pkA_at (bs : Nat → Nat) (q pl j : Nat) (h : j < pl) : (pkA bs q pl)[j]? = some (.int .u8 (Pl.pkd bs q j : Nat)) := by simp [pkA, h]
theorem push_fold (l : List Int) : ∀ acc : ByteArray, (l.foldl (fun r n => r.push (UInt8.ofNat n.toNat)) acc).data.toList = acc.data.toList ++ l.map fun n => UInt8.ofNat n.toNat := by
  induction l with
  | nil => intro acc; simp
  | cons n l ih => intro acc; rw [List.foldl_cons, ih, List.map_cons]; simp
theorem conv_pack (W : World) (gp m pl : Nat) (bs : Nat → Nat) (h : W.heap[gp]? = some (.cells (pkA bs m pl) 5 (0, 0))) : (convert 45 9 (.slice (some ⟨gp, 0, none⟩) pl pl)).run Try.prog W = .ok (.string (Pl.packB bs m pl)) W := by
  rw [run_convert_bytes_string _ 45 9 5 _ pl pl Try.underlying45 Try.underlying5 Try.underlying9, run_bytesToString _ _ pl pl ((List.range pl).map fun j => ((Pl.pkd bs m j : Nat) : Int))]
  · congr 2
    apply ByteArray.ext
    apply Array.toList_inj.1
    rw [push_fold]
    simp [Pl.packB]
  · have hl := run_loadCells_list (P := Try.prog) W ⟨gp, 0, none⟩ ((List.range pl).map fun j => Value.int .u8 (Pl.pkd bs m j : Nat)) (fun j v hj => by
      have e : ((⟨gp, 0, none⟩ : Addr).add j) = ⟨gp, j, none⟩ := by simp [Addr.add]; intro hz; exact hz.symm
      rw [e, cell_of_row W gp j _ 5 (0, 0) h]
      simpa [pkA] using hj)
    simp only [List.length_map, List.length_range] at hl
    rw [List.map_map]
    exact hl
end Go.Proofs.Ytcpldcojckhapaa
