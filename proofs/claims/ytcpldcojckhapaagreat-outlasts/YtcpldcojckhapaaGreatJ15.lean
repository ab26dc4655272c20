/-
  'string(b)' of a row of bytes.
  pack.Words: what it answers.
  strings.Clone answers the same bytes, in new memory; nothing that was there has turned.
-/
import Derived.Test.YtcpldcojckhapaaGreatJ9
import Derived.Test.YtcpldcojckhapaaGreatBV
import Derived.WalkKit
import Derived.WalkSpells
import Derived.WalkLawsBesides
import Derived.Lib.BufferWrite
import Derived.Lib.UnsafeStr
import Derived.Laws.MakeOwn
import Derived.Below
set_option maxRecDepth 100000
namespace Go.Proofs.YtcpldcojckhapaaGreat
open Go.RowKit

/-- Numbers as bytes. -/
def bytesOf (l : List Int) : ByteArray := ⟨(l.map fun n => UInt8.ofNat n.toNat).toArray⟩
theorem push_foldQ (l : List Int) : ∀ acc : ByteArray, (l.foldl (fun r n => r.push (UInt8.ofNat n.toNat)) acc).data.toList = acc.data.toList ++ l.map fun n => UInt8.ofNat n.toNat := by
  induction l with
  | nil => intro acc; simp
  | cons n l ih => intro acc; rw [List.foldl_cons, ih, List.map_cons]; simp
theorem conv_row (W : World) (g n c : Nat) (l : List Int) (hl : l.length = n) (hc : ∀ j x, l[j]? = some x → W.cell? ⟨g, j, none⟩ = some (.int .u8 x)) : (convert 114 9 (.slice (some ⟨g, 0, none⟩) n c)).run Tryz.prog W = .ok (.string (bytesOf l)) W := by
  subst hl
  rw [run_convert_bytes_string _ 114 9 5 _ _ c Tryz.underlying114 Tryz.underlying5 Tryz.underlying9, run_bytesToString _ _ _ c l]
  · congr 2
    apply ByteArray.ext
    apply Array.toList_inj.1
    rw [push_foldQ]
    simp [bytesOf]
  · have h := run_loadCells_list (P := Tryz.prog) W ⟨g, 0, none⟩ (l.map fun x => Value.int .u8 x) (fun j v hj => by
      have e : ((⟨g, 0, none⟩ : Addr).add j) = ⟨g, j, none⟩ := by by_cases h0 : j = 0 <;> simp [Addr.add, h0]
      rw [e]
      rw [List.getElem?_map] at hj
      obtain ⟨x, hx, rfl⟩ := Option.map_eq_some_iff.1 hj
      exact hc j x hx)
    rw [List.length_map] at h
    exact h
theorem infoU8Q : (Tryz.prog.info? 5).map (fun i => (i.zero, i.size, i.bytes)) = some (some (.int .u8 0), 1, 1) := by kernel_rfl
theorem made_bytesQ (n : Nat) (h : n ≤ 100000) (W : World) : (Instr.makeSlice 114 (.int .i64 (n : Int)) (.int .i64 (n : Int))).run Tryz.prog W = .ok (.slice (some ⟨W.heap.size, 0, none⟩) n n) (W.alloc (.cells (madeCells #[.int .u8 0] n) 5)) :=
  run_make_row' 114 5 _ 1 Tryz.underlying114 infoU8Q rfl .i64 .i64 n (by omega) (by omega) W
theorem madeBytes_at (n j : Nat) (h : j < n) : (madeCells #[.int .u8 0] n)[j]? = some (.int .u8 0) := by
  rw [← Array.getElem?_toList, toList_madeCells_one, List.getElem?_replicate, if_pos h]
/-- A blank sector. -/
def blank64 : ByteArray := bytesOf (List.replicate 64 0)
theorem blank64_list : blank64.data.toList = List.replicate 64 (0 : UInt8) := by decide +kernel
theorem blank64_size : blank64.size = 64 := by decide +kernel
end Go.Proofs.YtcpldcojckhapaaGreat

set_option maxRecDepth 100000
namespace Go.Proofs.YtcpldcojckhapaaGreat
open Go.RowKit

/-- Numbers as words, as numbers of bytes. -/
def wordsI (l : List Nat) : List Int := l.flatMap fun n => [((n / 256 : Nat) : Int), ((n % 256 : Nat) : Int)]
def wordsB (l : List Nat) : ByteArray := bytesOf (wordsI l)
def byteV (x : Int) : Value := .int .u8 x
theorem wordsI_len (l : List Nat) : (wordsI l).length = 2 * l.length := by
  induction l with
  | nil => rfl
  | cons x l ih => unfold wordsI at ih ⊢; rw [List.flatMap_cons, List.length_append, ih]; simp; omega
theorem conv_own (W : World) (B n : Nat) (v : Value) (l : List Int) (hl : l.length = n) (h : W.ownsRow B 5 1 v n (l.map byteV)) : (convert 114 9 v).run Tryz.prog W = .ok (.string (bytesOf l)) W := by
  rcases h.2 with ⟨rfl, h0⟩ | ⟨g, cap, cur, rfl, hb, hg, h1, h2, h3, h4⟩
  · obtain rfl : l = [] := List.eq_nil_of_length_eq_zero (by omega)
    kernel_rfl
  · refine conv_row W g n cap l hl fun j x hj => ?_
    rw [cell_of_row W g j cur 5 (0, 0) hg, ← Array.getElem?_toList]
    have hj' : j < n := by rw [← hl]; exact (List.getElem?_eq_some_iff.1 hj).1
    have e : (cur.toList.take (n * 1))[j]? = cur.toList[j]? := List.getElem?_take_of_lt (by omega)
    rw [← e, h4, List.getElem?_map, hj]
    rfl
theorem cell_two_new (w : World) (a b : Value) (t : TypeId) : ∀ j u, [a, b][j]? = some u → (w.alloc (.cells #[a, b] t)).cell? ((⟨w.heap.size, 0, none⟩ : Addr).add j) = some u := by
  intro j u hj
  match j, hj with
  | 0, hj => simp at hj; subst hj; simp [Addr.add]
  | 1, hj => simp at hj; subst hj; simp [Addr.add]

set_option maxRecDepth 100000 in
set_option maxHeartbeats 1000000 in
theorem words_any (l : List Nat) (n c g off : Nat) (a : Option Addr) (w : World) (hl : l.length = n) (hn : n ≤ 10000) (h16 : ∀ x ∈ l, x < 65536) (hg : g < w.heap.size)
    (ha : 0 < n → a = some ⟨g, off, none⟩) (hc : ∀ j x, l[j]? = some x → w.cell? ⟨g, off + j, none⟩ = some (.int .i64 (x : Nat))) :
    Calls Tryz.prog 87 #[.slice a n c] w fun e w' => e = .returned (.string (wordsB l)) ∧ Below w.heap.size w w' := by
  obtain ⟨i0, hi, hz0, hz1, hz2⟩ := info_parts infoU8Q
  have hmk : ∀ W : World, (Instr.makeSlice 114 (.int .i64 0) (.int .i64 (2 * (n : Int)))).run Tryz.prog W = .ok (.slice (some ⟨W.heap.size, 0, none⟩) 0 (2 * n)) (W.alloc (.cells (madeCells #[.int .u8 0] (2 * n)) 5)) := fun W => by
    have h := run_make (P := Tryz.prog) W 114 5 i0 (.int .u8 0) Tryz.underlying114 hi hz0 .i64 .i64 0 (2 * (n : Int)) (by omega) (by omega) (by rw [hz2]; omega) (by omega)
    rw [hz1] at h
    have e : (2 * (n : Int)).toNat = 2 * n := by omega
    simpa [Value.cells, e] using h
  obtain ⟨M, hM⟩ : ∃ M, M = madeCells #[Value.int .u8 0] (2 * n) := ⟨_, rfl⟩
  have hMs : M.size = 2 * n * 1 := by rw [hM, size_madeCells]; omega
  rw [← hM] at hmk
  have w2 : IntKind.i64.wrap (2 * (n : Int)) = 2 * (n : Int) := by rw [IntKind.wrap_i64]; omega
  have HC := hideF hc
  have H16 := hideF h16
  have HA := hideF ha
  have HL := hideF hl
  have HM := hideF hMs
  clear hc h16 ha hl hM hMs
  go_enter Tryz.func87, Tryz.ntmps87
  go_wp2_with fail
  go_loopw [12, 3] (fun i s wr => ∃ q : Nat, q ≤ n ∧ i = .int .i64 (q : Nat) ∧ wr.ownsRow w.heap.size 5 1 s (2 * q) ((wordsI (l.take q)).map byteV) ∧ Below w.heap.size w wr) (fun i _ _ => n - (intOf i).toNat)
  case atStart => exact ⟨0, by omega, rfl, World.ownsRow_made w M (2 * n) (Nat.le_refl _) (by unfold maxLen; omega) HM.out, bel_alloc (Below.refl _ _) _⟩
  case round =>
    obtain ⟨q, hq, rfl, hown, hb⟩ := hrel
    have hsb := hb.size
    by_cases hlt : q < n
    · obtain ⟨x, hx⟩ : ∃ x, l[q]? = some x := ⟨_, List.getElem?_eq_getElem (by rw [HL.out]; exact hlt)⟩
      have hx16 : x < 65536 := H16.out x (List.mem_of_getElem? hx)
      have hkc : wr.cell? ⟨g, off + q, none⟩ = some (.int .i64 (x : Nat)) := by rw [(bcell hb).1 g _ hg]; exact HC.out q x hx
      have hae := HA.out (by omega)
      have HT := hideF (take_succ_at l q x hx)
      subst hae
      have HO := hideF hown
      have HB := hideF hb
      have e1 : IntKind.u8.wrap ((x : Int) / 256) = ((x / 256 : Nat) : Int) := by rw [IntKind.wrap_u8]; omega
      have e2 : IntKind.u8.wrap (x : Int) = ((x % 256 : Nat) : Int) := by rw [IntKind.wrap_u8]; omega
      clear hown hb hx
      go_wp2_with (at_builtin; refine wpList_append_own _ rfl (.tmp 16) (.tmp 22) 114 rfl w.heap.size 5 i0 (.int .u8 0) 1 1 Tryz.underlying114 hi hz0 hz1 hz2 rfl (by decide) u3 (2 * q) _ rfl (HO.out.alloc _) ⟨wr.heap.size, 0, none⟩ 2 2 [.int .u8 (x / 256 : Nat), .int .u8 (x % 256 : Nat)] rfl rfl (cell_two_new _ _ _ _) (by intro u hu; simp at hu; rcases hu with rfl | rfl <;> rfl) (by unfold maxLen; omega) (by omega) (by simp; omega) ?_; intro v' w3 hown3 hgrow3 _)
      go_roundw
      case rel =>
        refine ⟨q + 1, by omega, by go_num, ?_, ?_⟩
        · rw [HT.out]
          unfold wordsI
          rw [List.flatMap_append, List.map_append, show 2 * (q + 1) = 2 * q + 2 by omega]
          exact hown3
        · exact (HB.out.alloc HB.out.size _).grown hgrow3 (by have := HB.out.size; simp; omega) (fun k hk => (HO.out.lt k hk).1)
      case measure => simp [intOf]; omega
    · obtain rfl : q = n := by omega
      rw [List.take_of_length_le (by rw [HL.out]; exact Nat.le_refl _)] at hown
      have hcv := conv_own wr w.heap.size (2 * q) u3 (wordsI l) (by rw [wordsI_len, HL.out]) hown
      go_wp2
      go_ret
      exact ⟨rfl, hb⟩
end Go.Proofs.YtcpldcojckhapaaGreat

set_option maxRecDepth 100000
namespace Go.Proofs.YtcpldcojckhapaaGreat
open Go.RowKit

theorem Tryz.info5 : (Tryz.prog.info? 5).map (fun i => (i.zero, i.size, i.bytes)) = some (some (.int .u8 0), 1, 1) := by kernel_rfl

set_option maxRecDepth 100000 in
set_option maxHeartbeats 1000000 in
theorem slClone_any (s : ByteArray) (w : World) (hs : s.size ≤ 4194304) :
    Calls Tryz.prog 112 #[.string s] w fun e w' => e = .returned (.string s) ∧ Below w.heap.size w w' := by
  by_cases h0 : s.size = 0
  · obtain rfl : s = ⟨#[]⟩ := ByteArray.ext (Array.eq_empty_of_size_eq_zero h0)
    go_enter Tryz.func112, Tryz.ntmps112
    go_wp2
    go_ret
    exact ⟨rfl, Below.refl _ _⟩
  · obtain ⟨i0, hi, hz0, hz1, hz2⟩ := info_parts Tryz.info5
    have hinfo : (Tryz.prog.info? 5).map (·.size) = some 1 := by rw [hi]; simp [hz1]
    have hco : Tryz.prog.cellsOf 5 = 1 := by kernel_rfl
    obtain ⟨M, hM⟩ : ∃ M, M = madeCells (Value.int .u8 0).cells (((s.size : Nat) : Int).toNat * i0.size) := ⟨_, rfl⟩
    have hMs : M.size = s.size := by rw [hM, size_madeCells, hz1]; simp
    have hmk : ∀ W : World, (Instr.makeSlice 114 (.int .i64 (s.size : Int)) (.int .i64 (s.size : Int))).run Tryz.prog W = .ok (.slice (some ⟨W.heap.size, 0, none⟩) s.size s.size) (W.alloc (.cells M 5)) := fun W => by
      have h := run_make (P := Tryz.prog) W 114 5 i0 (.int .u8 0) Tryz.underlying114 hi hz0 .i64 .i64 (s.size : Int) (s.size : Int) (by omega) (by omega) (by rw [hz2]; omega) (by omega)
      rw [← hM] at h
      simpa using h
    clear hM
    have hcp := Lib.run_copy_row_string (P := Tryz.prog) (w.alloc (.cells M 5)) 114 9 3 5 w.heap.size 0 s.size s.size s M 5 Tryz.underlying114 hinfo (heap_alloc_new w _) (Nat.le_refl _) (by omega)
    obtain ⟨Y, hY⟩ : ∃ Y, Y = (M.toList.take 0 ++ Lib.byteCells s.data.toList ++ M.toList.drop (0 + s.size)).toArray := ⟨_, rfl⟩
    rw [← hY] at hcp
    have hYl : Y.toList = Lib.byteCells s.data.toList := by
      rw [hY, List.toList_toArray, List.take_zero, List.nil_append, List.drop_of_length_le (by rw [Array.length_toList]; omega), List.append_nil]
    have hYs : Y.size = s.size := by rw [← Array.length_toList, hYl, Lib.byteCells_length, ← Lib.size_eq]
    have hgY : ((w.alloc (.cells M 5)).setRow w.heap.size Y).heap[w.heap.size]? = some (.cells Y 5 (0, 0)) := setRow_heap _ _ M _ 5 (0, 0) (heap_alloc_new w _)
    have hne : s.data.toList ≠ [] := fun e => h0 (by rw [Lib.size_eq, e]; rfl)
    have hUS := Lib.run_unsafeString_row (P := Tryz.prog) ((w.alloc (.cells M 5)).setRow w.heap.size Y) 217 3 9 5 Tryz.underlying217 hco w.heap.size Y.size (by unfold World.shape?; rw [hgY]) s.data.toList hne (by rw [← Lib.size_eq]; omega) (by rw [← Lib.size_eq]; omega)
      (fun j x hx => Lib.cells_of_row hgY Y.size j _ (by rw [List.take_of_length_le (by rw [Array.length_toList]; exact Nat.le_refl _), hYl]; simp [Lib.byteCells, hx]))
    rw [← Lib.size_eq] at hUS
    clear hY
    go_enter Tryz.func112, Tryz.ntmps112
    go_wp2
    go_ret
    have hb1 : Below w.heap.size w (w.alloc (.cells M 5)) := (Below.refl _ w).alloc (Nat.le_refl _) _
    have hb2 : Below w.heap.size (w.alloc (.cells M 5)) ((w.alloc (.cells M 5)).setRow w.heap.size Y) := ⟨rfl, rfl, rfl, by simp, fun k hk => setRow_other _ _ _ _ (by omega)⟩
    exact ⟨rfl, Lib.below_freeze (hb1.trans hb2) (p := ⟨w.heap.size, 0, none⟩) (Nat.le_refl _) _⟩

set_option maxRecDepth 100000 in
set_option maxHeartbeats 400000 in
theorem clone_any (s : ByteArray) (w : World) (hs : s.size ≤ 4194304) :
    Calls Tryz.prog 76 #[.string s] w fun e w' => e = .returned (.string s) ∧ Below w.heap.size w w' := by
  go_enter Tryz.func76, Tryz.ntmps76
  go_wp2_with fail
  refine (slClone_any s _ hs).mono ?_
  rintro e w' ⟨rfl, hb⟩
  go_wp2
  go_ret
  exact ⟨rfl, hb⟩
end Go.Proofs.YtcpldcojckhapaaGreat
