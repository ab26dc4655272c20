/-
  store.write: a sector: what it answers.
-/
import Derived.Test.YtcpldcojckhapaaGreatJ15
import Derived.Laws.CopyOwn
set_option maxRecDepth 100000
namespace Go.Proofs.YtcpldcojckhapaaGreat
open Go.RowKit

/-- The first n of some bytes, noughts behind them. -/
def padI (n : Nat) (d : ByteArray) : List Int := (List.range n).map fun i => ((Pl.byt d i : Nat) : Int)
/-- A sector of a copy. -/
def secI (st : Nat) (d : ByteArray) : List Int := [(st : Int)] ++ padI 62 d ++ [(st : Int)]
def secB (st : Nat) (d : ByteArray) : ByteArray := bytesOf (secI st d)
theorem secI_len (st : Nat) (d : ByteArray) : (secI st d).length = 64 := by simp [secI, padI]
theorem byteCells_at (d : ByteArray) (m j : Nat) (hj : j < m) (hm : m ≤ d.size) : (Lib.byteCells (d.data.toList.take m))[j]? = some (.int .u8 (Pl.byt d j : Nat)) := by
  have h2 : j < d.data.toList.length := by rw [Array.length_toList]; show j < d.size; omega
  have e : (d.data.toList.take m)[j]? = some d.data.toList[j] := by rw [List.getElem?_take_of_lt hj, List.getElem?_eq_getElem h2]
  have hb : Pl.byt d j = (d.data.toList[j]).toNat := by
    unfold Pl.byt
    rw [dif_pos (show j < d.size by omega)]
    rfl
  rw [hb]
  unfold Lib.byteCells
  rw [List.getElem?_map, e]
  rfl

theorem run_copy_cut_string {P : Program} (w : World) (dT sT ty elem : TypeId) (g o dLen dCap m : Nat) (s : ByteArray) (cur : Array Value) (t : TypeId)
    (hu : P.underlying dT = some (.slice elem)) (hs : (P.info? elem).map (·.size) = some 1) (hg : w.heap[g]? = some (.cells cur t (0, 0))) (hm : Nat.min s.size dLen = m) (hfit : o + m ≤ cur.size) :
    (Builtin.copy_ #[dT, sT] ty #[.slice (some ⟨g, o, none⟩) dLen dCap, .string s]).run P w =
      .ok (goInt m) (w.setRow g (cur.toList.take o ++ (Lib.byteCells (s.data.toList.take m) ++ cur.toList.drop (o + m))).toArray) := by
  have hle : m ≤ s.size := by rw [← hm]; exact Nat.min_le_left _ _
  have hlen : (Lib.byteCells (s.data.toList.take m)).length = m := by rw [Lib.byteCells_length, List.length_take, ← Lib.size_eq]; omega
  have hst := run_storeCells_at P g o t (Lib.byteCells (s.data.toList.take m)) 0 cur w hg (by rw [hlen]; simpa using hfit) (Lib.byteCells_one _)
  have htk : List.take m (List.map (fun b : UInt8 => Value.int IntKind.u8 (b.toNat : Int)) s.data.toList) = Lib.byteCells (s.data.toList.take m) := by
    rw [← List.map_take]; rfl
  rw [hlen] at hst
  simp only [Nat.add_zero, List.append_assoc] at hst
  cases hq : P.info? elem with
  | none => simp [hq] at hs
  | some i =>
    simp [Builtin.copy_, run_underlying hu, Builtin.lenOf, Builtin.firstCells, sizeOf, typeInfo, hq, hm]
    rw [htk, hst]
    simp [Result.andThen]
theorem wpList_copy_cut {P : Program} {w : World} {ops : Array Oper} {rest : List Oper} {o : Oper} {a : Act} {Q : Exit → Act → World → Prop} (hgd : o.guard = none) (d s : Operand) (dT sT : TypeId)
    (ho : o.op = .call { callee := .builtin .copy, args := #[d, s], argTypes := #[dT, sT] }) (elem : TypeId) (hu : P.underlying dT = some (.slice elem)) (hsz : (P.info? elem).map (·.size) = some 1)
    (g off dLen dCap m : Nat) (x : ByteArray) (hd : a.eval d = .slice (some ⟨g, off, none⟩) dLen dCap) (hs : a.eval s = .string x)
    (cur : Array Value) (t : TypeId) (hg : w.heap[g]? = some (.cells cur t (0, 0))) (hm : Nat.min x.size dLen = m) (hfit : off + m ≤ cur.size) (B : Nat) (w0 : World) (hb : Below B w0 w) (hBg : B ≤ g)
    (h : ∀ w', Hid (w'.heap[g]? = some (.cells (splice cur.toList off (Lib.byteCells (x.data.toList.take m))).toArray t (0, 0))) → Below B w0 w' → wpList P ops Q rest (a.put o.dst (goInt m)) w') : wpList P ops Q (o :: rest) a w := by
  refine wpList_plain hgd fun K hK => ?_
  have hrun := run_copy_cut_string (P := P) w dT sT o.type elem g off dLen dCap m x cur t hu hsz hg hm hfit
  have hlen : (Lib.byteCells (x.data.toList.take m)).length = m := by rw [Lib.byteCells_length, List.length_take, ← Lib.size_eq]; have : m ≤ x.size := (by rw [← hm]; exact Nat.min_le_left _ _); omega
  unfold Oper.wp
  simp [execOp, ho, resolve, invoke, builtin, hd, hs, hrun, Result.andThen]
  exact hK _ _ (h _ (show _ = _ by unfold splice; rw [hlen]; simpa using setRow_heap w g cur _ t (0, 0) hg) (below_setRow hb hBg _))

theorem infoU8S : (Tryz.prog.info? 5).map (·.size) = some 1 := by kernel_rfl
theorem cells4 {W : World} {g : Nat} {t : TypeId} {a0 a1 a2 a3 : Value} (h : W.heap[g]? = some (.cells #[a0, a1, a2, a3] t (0, 0))) : W.cell? ⟨g, 0, none⟩ = some a0 ∧ W.cell? ⟨g, 1, none⟩ = some a1 ∧ W.cell? ⟨g, 2, none⟩ = some a2 ∧ W.cell? ⟨g, 3, none⟩ = some a3 :=
  ⟨by rw [cell_of_row _ _ _ _ _ _ h]; rfl, by rw [cell_of_row _ _ _ _ _ _ h]; rfl, by rw [cell_of_row _ _ _ _ _ _ h]; rfl, by rw [cell_of_row _ _ _ _ _ _ h]; rfl⟩
/-- The row of a sector behind the copy. -/
theorem sector_row (d : ByteArray) (st m : Nat) (hm : Nat.min d.size 62 = m) (j : Nat) (hj : j < 64) :
    (((splice ((madeCells #[Value.int .u8 0] 64).setIfInBounds 0 (.int .u8 (st : Nat))).toList 1 (Lib.byteCells (d.data.toList.take m))).toArray.setIfInBounds 63 (.int .u8 (st : Nat)))[j]?) = (secI st d)[j]?.map byteV := by
  have hle : m ≤ d.size := by rw [← hm]; exact Nat.min_le_left _ _
  have hle2 : m ≤ 62 := by rw [← hm]; exact Nat.min_le_right _ _
  have hlen : (Lib.byteCells (d.data.toList.take m)).length = m := by rw [Lib.byteCells_length, List.length_take, ← Lib.size_eq]; omega
  have hz : ((madeCells #[Value.int .u8 0] 64).setIfInBounds 0 (.int .u8 (st : Nat))).toList.length = 64 := by simp [size_madeCells]
  have hsl : (splice ((madeCells #[Value.int .u8 0] 64).setIfInBounds 0 (.int .u8 (st : Nat))).toList 1 (Lib.byteCells (d.data.toList.take m))).length = 64 := by rw [length_splice _ _ _ (by rw [hz, hlen]; omega), hz]
  rw [Array.getElem?_setIfInBounds]
  by_cases h63 : j = 63
  · subst h63
    rw [if_pos rfl, if_pos (by rw [List.size_toArray, hsl]; omega)]
    simp [secI, padI, byteV]
  · rw [if_neg (by omega), List.getElem?_toArray]
    unfold splice
    by_cases h0 : j = 0
    · subst h0
      rw [List.getElem?_append_left (by rw [List.length_take, hz]; omega), List.getElem?_take_of_lt (by omega), Array.getElem?_toList, Array.getElem?_setIfInBounds]
      simp [size_madeCells, secI, byteV]
    · have hs2 : (secI st d)[j]? = some ((Pl.byt d (j - 1) : Nat) : Int) := by
        unfold secI
        rw [List.append_assoc, List.getElem?_append_right (by simp; omega), List.getElem?_append_left (by simp [padI]; omega)]
        simp [padI, show j - 1 < 62 by omega]
      rw [hs2, List.getElem?_append_right (by rw [List.length_take, hz]; omega), List.length_take, hz]
      by_cases hjm : j - 1 < m
      · rw [List.getElem?_append_left (by rw [hlen]; omega), show j - min 1 64 = j - 1 by omega, byteCells_at d m (j - 1) hjm hle]
        rfl
      · have hby : Pl.byt d (j - 1) = 0 := Pl.byt_end d (j - 1) (by
          have := hm
          rcases Nat.le_total d.size 62 with h | h
          · rw [show Nat.min d.size 62 = d.size from Nat.min_eq_left h] at this; omega
          · rw [show Nat.min d.size 62 = 62 from Nat.min_eq_right h] at this; omega)
        rw [List.getElem?_append_right (by rw [hlen]; omega), hlen, List.getElem?_drop, Array.getElem?_toList, hby, Array.getElem?_setIfInBounds, if_neg (by omega), madeBytes_at 64 _ (by omega)]
        rfl

set_option maxRecDepth 100000 in
set_option maxHeartbeats 1000000 in
theorem secWrite_any (S sec lat i st : Nat) (b2 b3 : Value) (d : ByteArray) (w : World) (hS : w.heap[S]? = some (.cells #[.int .i64 (sec : Nat), b2, b3] 155 (0, 0))) (hsec : sec ≤ 100) (hlat : lat ≤ 100) (hi : i ≤ 100) (_hst : st < 256) :
    Calls Tryz.prog 85 #[.pointer (some ⟨S, 0, none⟩), .int .i64 (lat : Nat), .int .i64 (i : Nat), .string d, .int .u8 (st : Nat)] w fun e w' => e = .returned (.agg #[.int .u8 0, .int .i64 (lat * sec + i : Nat), .int .i64 0, .string (secB st d)]) ∧ Below w.heap.size w w' := by
  obtain ⟨m, hm⟩ : ∃ m, Nat.min d.size 62 = m := ⟨_, rfl⟩
  have hle2 : m ≤ 62 := by rw [← hm]; exact Nat.min_le_right _ _
  have hsl := lt_of_block hS
  have hmk : ∀ W : World, (Instr.makeSlice 114 (.int .i64 64) (.int .i64 64)).run Tryz.prog W = .ok (.slice (some ⟨W.heap.size, 0, none⟩) 64 64) (W.alloc (.cells (madeCells #[.int .u8 0] 64) 5)) := fun W => made_bytesQ 64 (by omega) W
  obtain ⟨M, hM⟩ : ∃ M, M = madeCells #[Value.int .u8 0] 64 := ⟨_, rfl⟩
  have hMs : M.size = 64 := by rw [hM, size_madeCells]
  rw [← hM] at hmk
  have hM0 : M[0]? = some (.int .u8 0) := by rw [hM]; exact madeBytes_at 64 0 (by omega)
  have HM := hideF hM
  clear hM
  obtain ⟨M1, hM1⟩ : ∃ M1, M1 = M.setIfInBounds 0 (.int .u8 (st : Nat)) := ⟨_, rfl⟩
  obtain ⟨Z, hZ⟩ : ∃ Z, Z = (w.alloc (.cells #[.int .u8 0, .int .i64 0, .int .i64 0, .string ⟨#[]⟩] 77)).alloc (.cells M1 5) := ⟨_, rfl⟩
  have hZb : Below w.heap.size w Z := by rw [hZ]; exact bel_alloc (bel_alloc (Below.refl _ _) _) _
  have hZg : Z.heap[w.heap.size + 1]? = some (.cells M1 5 (0, 0)) := by
    rw [hZ]
    have := heap_alloc_new (w.alloc (.cells #[.int .u8 0, .int .i64 0, .int .i64 0, .string ⟨#[]⟩] 77)) (.cells M1 5)
    simpa using this
  have hZa : Z.heap[w.heap.size]? = some (.cells #[.int .u8 0, .int .i64 0, .int .i64 0, .string ⟨#[]⟩] 77 (0, 0)) := by
    rw [hZ, heap_alloc_old _ _ (by simp)]; exact heap_alloc_new w _
  obtain ⟨w2, hcp, hg2, hb2⟩ : ∃ w2, (Builtin.copy_ #[114, 9] 3 #[.slice (some ⟨w.heap.size + 1, 1, none⟩) 62 63, .string d]).run Tryz.prog Z = .ok (goInt m) w2 ∧ w2.heap[w.heap.size + 1]? = some (.cells (splice M1.toList 1 (Lib.byteCells (d.data.toList.take m))).toArray 5 (0, 0)) ∧ Below (w.heap.size + 1) Z w2 := by
    refine ⟨_, run_copy_cut_string (P := Tryz.prog) Z 114 9 3 5 (w.heap.size + 1) 1 62 63 m d M1 5 Tryz.underlying114 infoU8S hZg hm (by rw [hM1, Array.size_setIfInBounds, hMs]; omega), ?_, below_setRow (Below.refl _ _) (Nat.le_refl _) _⟩
    rw [setRow_heap Z _ M1 _ 5 (0, 0) hZg]
    have hlen : (Lib.byteCells (d.data.toList.take m)).length = m := by rw [Lib.byteCells_length, List.length_take, ← Lib.size_eq]; have : m ≤ d.size := (by rw [← hm]; exact Nat.min_le_left _ _); omega
    unfold splice
    rw [hlen]
  rw [hZ, hM1] at hcp
  have hrow : ∀ j, j < 64 → ((splice M1.toList 1 (Lib.byteCells (d.data.toList.take m))).toArray.setIfInBounds 63 (.int .u8 (st : Nat)))[j]? = (secI st d)[j]?.map byteV := fun j hj => by
    rw [hM1, HM.out]; exact sector_row d st m hm j hj
  have hwb : Below w.heap.size w w2 := hZb.trans (hb2.mono (by omega))
  have hact := (hb2.block w.heap.size (by omega)).trans hZa
  have hS2 := (hwb.block S hsl).trans hS
  have c63 : ∃ v63, w2.cell? ⟨w.heap.size + 1, 63, none⟩ = some v63 := by
    rw [cell_of_row _ _ _ _ _ _ hg2, List.getElem?_toArray]
    have : 63 < (splice M1.toList 1 (Lib.byteCells (d.data.toList.take m))).length := by
      have hlen : (Lib.byteCells (d.data.toList.take m)).length = m := by rw [Lib.byteCells_length, List.length_take, ← Lib.size_eq]; have : m ≤ d.size := (by rw [← hm]; exact Nat.min_le_left _ _); omega
      rw [length_splice _ _ _ (by rw [hlen, Array.length_toList, hM1, Array.size_setIfInBounds, hMs]; omega), Array.length_toList, hM1, Array.size_setIfInBounds, hMs]; omega
    exact ⟨_, List.getElem?_eq_getElem this⟩
  obtain ⟨v63, c63⟩ := c63
  have f63 : w2.frozen? ⟨w.heap.size + 1, 63, none⟩ = false := frozen_of_row _ _ _ _ _ hg2
  have hcv : ∀ k, (convert 114 9 (.slice (some ⟨w.heap.size + 1, 0, none⟩) 64 64)).run Tryz.prog ((w2.setCell ⟨w.heap.size + 1, 63, none⟩ (.int .u8 (st : Nat))).drewN k) = .ok (.string (secB st d)) ((w2.setCell ⟨w.heap.size + 1, 63, none⟩ (.int .u8 (st : Nat))).drewN k) := fun k => 
    conv_row _ (w.heap.size + 1) 64 64 (secI st d) (secI_len st d) (fun j x hj => by
      have hj' : j < 64 := by rw [← secI_len st d]; exact (List.getElem?_eq_some_iff.1 hj).1
      have hh := heap_setCell_same w2 (w.heap.size + 1) 63 _ 5 (.int .u8 (st : Nat)) hg2
      have he : ((w2.setCell ⟨w.heap.size + 1, 63, none⟩ (.int .u8 (st : Nat))).drewN k).heap = (w2.setCell ⟨w.heap.size + 1, 63, none⟩ (.int .u8 (st : Nat))).heap := by simp
      rw [← he] at hh
      rw [cell_of_row _ _ _ _ _ _ hh, hrow j hj', hj]
      rfl)
  obtain ⟨X, hX⟩ : ∃ X, X = w2.setCell ⟨w.heap.size + 1, 63, none⟩ (.int .u8 (st : Nat)) := ⟨_, rfl⟩
  have hcv1 : (convert 114 9 (.slice (some ⟨w.heap.size + 1, 0, none⟩) 64 64)).run Tryz.prog X.drew = .ok (.string (secB st d)) X.drew := by rw [hX]; exact hcv 1
  have hXb : Below w.heap.size w X := by rw [hX]; exact hwb.setCell (by simp) _
  have hXa : X.heap[w.heap.size]? = some (.cells #[.int .u8 0, .int .i64 0, .int .i64 0, .string ⟨#[]⟩] 77 (0, 0)) := by rw [hX, heap_setCell_other _ _ _ _ (by simp)]; exact hact
  have hXS := (hXb.block S hsl).trans hS
  have d0 : X.cell? ⟨S, 0, none⟩ = some (.int .i64 (sec : Nat)) := by rw [cell_of_row _ _ _ _ _ _ hXS]; rfl
  obtain ⟨a0, a1, a2, a3⟩ := cells4 hXa
  have af := fun j => frozen_of_row X w.heap.size j _ _ hXa
  have HB2 := hideF hXb
  have hlim := Nat.mul_le_mul hlat hsec
  have e2 : wrap64 (wrap64 ((lat : Int) * (sec : Int)) + (i : Int)) = (lat : Int) * (sec : Int) + (i : Int) := by
    obtain ⟨p, hp, hpl⟩ : ∃ p : Nat, (lat : Int) * (sec : Int) = (p : Nat) ∧ p ≤ 10000 := ⟨lat * sec, (Int.natCast_mul _ _).symm, hlim⟩
    have e1 : ∀ q : Nat, q ≤ 20000 → wrap64 (q : Int) = q := fun q hq => by unfold wrap64; omega
    rw [hp, e1 p (by omega), ← Int.natCast_add, e1 (p + i) (by omega)]
  have E2 := hideF e2
  clear e2 hlim
  clear hM1 hZ hZb hZg hZa hg2 hb2 hrow hact hS2 hS hwb hcv hXb hXa hXS
  go_enter Tryz.func85, Tryz.ntmps85
  go_wp2_with fail
  rw [← hX]
  clear hX
  go_region
  go_wp2
  refine bodyPost_ret (v := .agg #[.int .u8 0, .int .i64 (lat * sec + i : Nat), .int .i64 0, .string (secB st d)]) (by simp [results, Tryz.results85, go_sem, a0, a1, a2, a3, E2.out]) rfl ⟨rfl, ?_⟩
  exact ((((HB2.out.setCell (Nat.le_refl _) _).setCell (Nat.le_refl _) _).setCell (Nat.le_refl _) _).setCell (Nat.le_refl _) _).drew
end Go.Proofs.YtcpldcojckhapaaGreat
