/-
  
-/
import Derived.Test.YtcpldcojckhapaaGreatJ7
import Derived.Laws.CopyOwn
set_option maxRecDepth 100000
namespace Go.Proofs.YtcpldcojckhapaaGreat
open Go.RowKit
def padI (n : Nat) (d : ByteArray) : List Int := (List.range n).map fun i => ((Pl.byt d i : Nat) : Int)
def secI (st : Nat) (d : ByteArray) : List Int := [(st : Int)] ++ padI 62 d ++ [(st : Int)]
def secB (st : Nat) (d : ByteArray) : ByteArray := bytesOf (secI st d)
theorem secI_len (st : Nat) (d : ByteArray) : (secI st d).length = 64 := by simp [secI, padI]
theorem byteCells_at (d : ByteArray) (m j : Nat) (hj : j < m) (hm : m <= d.size) : (Lib.byteCells (d.data.toList.take m))[j]? = some (.int .u8 (Pl.byt d j : Nat)) := by
  have h2 : j < d.data.toList.length := by rw [Array.length_toList]; show j < d.size; omega
  have e : (d.data.toList.take m)[j]? = some d.data.toList[j] := by rw [List.getElem?_take_of_lt hj, List.getElem?_eq_getElem h2]
  have hb : Pl.byt d j = (d.data.toList[j]).toNat := by
    unfold Pl.byt
    rw [dif_pos (show j < d.size by omega)]
    rfl
  rw [hb]
  unfold Lib.byteCells
  rw [List.getElem?_map, e]
  rfl
theorem run_copy_cut_string {P : Program} (w : World) (dT sT ty elem : TypeId) (g o dLen dCap m : Nat) (s : ByteArray) (cur : Array Value) (t : TypeId)
    (hu : P.underlying dT = some (.slice elem)) (hs : (P.info? elem).map (·.size) = some 1) (hg : w.heap[g]? = some (.cells cur t (0, 0))) (hm : Nat.min s.size dLen = m) (hfit : o + m <= cur.size) :
    (Builtin.copy_ #[dT, sT] ty #[.slice (some ⟨g, o, none⟩) dLen dCap, .string s]).run P w =
      .ok (goInt m) (w.setRow g (cur.toList.take o ++ (Lib.byteCells (s.data.toList.take m) ++ cur.toList.drop (o + m))).toArray) := by
  have hle : m <= s.size := by rw [<- hm]; exact Nat.min_le_left _ _
  have hlen : (Lib.byteCells (s.data.toList.take m)).length = m := by rw [Lib.byteCells_length, List.length_take, <- Lib.size_eq]; omega
  have hst := run_storeCells_at P g o t (Lib.byteCells (s.data.toList.take m)) 0 cur w hg (by rw [hlen]; simpa using hfit) (Lib.byteCells_one _)
  have htk : List.take m (List.map (fun b : UInt8 => Value.int IntKind.u8 (b.toNat : Int)) s.data.toList) = Lib.byteCells (s.data.toList.take m) := by
    rw [<- List.map_take]; rfl
  rw [hlen] at hst
  simp only [Nat.add_zero, List.append_assoc] at hst
  cases hq : P.info? elem with
  | none => simp [hq] at hs
  | some i =>
    simp [Builtin.copy_, run_underlying hu, Builtin.lenOf, Builtin.firstCells, sizeOf, typeInfo, hq, hm]
    rw [htk, hst]
    simp [Result.andThen]
theorem infoU8S : (Tryz.prog.info? 5).map (·.size) = some 1 := by kernel_rfl
theorem cells4 {W : World} {g : Nat} {t : TypeId} {a0 a1 a2 a3 : Value} (h : W.heap[g]? = some (.cells #[a0, a1, a2, a3] t (0, 0))) : W.cell? ⟨g, 0, none⟩ = some a0 /\ W.cell? ⟨g, 1, none⟩ = some a1 /\ W.cell? ⟨g, 2, none⟩ = some a2 /\ W.cell? ⟨g, 3, none⟩ = some a3 :=
  ⟨by rw [cell_of_row _ _ _ _ _ _ h]; rfl, by rw [cell_of_row _ _ _ _ _ _ h]; rfl, by rw [cell_of_row _ _ _ _ _ _ h]; rfl, by rw [cell_of_row _ _ _ _ _ _ h]; rfl⟩
theorem sector_row (d : ByteArray) (st m : Nat) (hm : Nat.min d.size 62 = m) (j : Nat) (hj : j < 64) :
    (((splice ((madeCells #[Value.int .u8 0] 64).setIfInBounds 0 (.int .u8 (st : Nat))).toList 1 (Lib.byteCells (d.data.toList.take m))).toArray.setIfInBounds 63 (.int .u8 (st : Nat)))[j]?) = (secI st d)[j]?.map byteV := by
  have hle : m <= d.size := by rw [<- hm]; exact Nat.min_le_left _ _
  have hle2 : m <= 62 := by rw [<- hm]; exact Nat.min_le_right _ _
  have hlen : (Lib.byteCells (d.data.toList.take m)).length = m := by rw [Lib.byteCells_length, List.length_take, <- Lib.size_eq]; omega
  have hz : ((madeCells #[Value.int .u8 0] 64).setIfInBounds 0 (.int .u8 (st : Nat))).toList.length = 64 := by simp [size_madeCells]
  have hsl : (splice ((madeCells #[Value.int .u8 0] 64).setIfInBounds 0 (.int .u8 (st : Nat))).toList 1 (Lib.byteCells (d.data.toList.take m))).length = 64 := by rw [length_splice _ _ _ (by rw [hz, hlen]; omega), hz]
  rw [Array.getElem?_setIfInBounds]
  by_cases h63 : j = 63
  . subst h63
    rw [if_pos rfl, if_pos (by rw [List.size_toArray, hsl]; omega)]
    simp [secI, padI, byteV]
  . rw [if_neg (by omega), List.getElem?_toArray]
    unfold splice
    by_cases h0 : j = 0
    . subst h0
      rw [List.getElem?_append_left (by rw [List.length_take, hz]; omega), List.getElem?_take_of_lt (by omega), Array.getElem?_toList, Array.getElem?_setIfInBounds]
      simp [size_madeCells, secI, byteV]
    . have hs2 : (secI st d)[j]? = some ((Pl.byt d (j - 1) : Nat) : Int) := by
        unfold secI
        rw [List.append_assoc, List.getElem?_append_right (by simp; omega), List.getElem?_append_left (by simp [padI]; omega)]
        simp [padI, show j - 1 < 62 by omega]
      rw [hs2, List.getElem?_append_right (by rw [List.length_take, hz]; omega), List.length_take, hz]
      by_cases hjm : j - 1 < m
      . rw [List.getElem?_append_left (by rw [hlen]; omega), show j - min 1 64 = j - 1 by omega, byteCells_at d m (j - 1) hjm hle]
        rfl
      . have hby : Pl.byt d (j - 1) = 0 := Pl.byt_end d (j - 1) (by
          have := hm
          rcases Nat.le_total d.size 62 with h | h
          . rw [show Nat.min d.size 62 = d.size from Nat.min_eq_left h] at this; omega
          . rw [show Nat.min d.size 62 = 62 from Nat.min_eq_right h] at this; omega)
        rw [List.getElem?_append_right (by rw [hlen]; omega), hlen, List.getElem?_drop, Array.getElem?_toList, hby, Array.getElem?_setIfInBounds, if_neg (by omega), madeBytes_at 64 _ (by omega)]
        rfl
set_option maxRecDepth 100000 in
set_option maxHeartbeats 1000000 in
theorem secWrite_any (S sec lat i st : Nat) (b2 b3 : Value) (d : ByteArray) (w : World) (hS : w.heap[S]? = some (.cells #[.int .i64 (sec : Nat), b2, b3] 155 (0, 0))) (hsec : sec <= 100) (hlat : lat <= 100) (hi : i <= 100) (_hst : st < 256) :
    Calls Tryz.prog 85 #[.pointer (some ⟨S, 0, none⟩), .int .i64 (lat : Nat), .int .i64 (i : Nat), .string d, .int .u8 (st : Nat)] w fun e w' => e = .returned (.agg #[.int .u8 0, .int .i64 (lat * sec + i : Nat), .int .i64 0, .string (secB st d)]) /\ Below w.heap.size w w' := by
  obtain ⟨m, hm⟩ : ∃ m, Nat.min d.size 62 = m := ⟨_, rfl⟩
  have hle2 : m <= 62 := by rw [<- hm]; exact Nat.min_le_right _ _
  have hsl := lt_of_block hS
  have hmk : ∀ W : World, (Instr.makeSlice 114 (.int .i64 64) (.int .i64 64)).run Tryz.prog W = .ok (.slice (some ⟨W.heap.size, 0, none⟩) 64 64) (W.alloc (.cells (madeCells #[.int .u8 0] 64) 5)) := fun W => made_bytesQ 64 (by omega) W
  obtain ⟨M, hM⟩ : ∃ M, M = madeCells #[Value.int .u8 0] 64 := ⟨_, rfl⟩
  have hMs : M.size = 64 := by rw [hM, size_madeCells]
  rw [<- hM] at hmk
  have hM0 : M[0]? = some (.int .u8 0) := by rw [hM]; exact madeBytes_at 64 0 (by omega)
  have HM := hideF hM
  clear hM
  obtain ⟨M1, hM1⟩ : ∃ M1, M1 = M.setIfInBounds 0 (.int .u8 (st : Nat)) := ⟨_, rfl⟩
  obtain ⟨Z, hZ⟩ : ∃ Z, Z = (w.alloc (.cells #[.int .u8 0, .int .i64 0, .int .i64 0, .string ⟨#[]⟩] 77)).alloc (.cells M1 5) := ⟨_, rfl⟩
  have hZb : Below w.heap.size w Z := by rw [hZ]; exact bel_alloc (bel_alloc (Below.refl _ _) _) _
  have hZg : Z.heap[w.heap.size + 1]? = some (.cells M1 5 (0, 0)) := by
    rw [hZ]
    have := heap_alloc_new (w.alloc (.cells #[.int .u8 0, .int .i64 0, .int .i64 0, .string ⟨#[]⟩] 77)) (.cells M1 5)
    simpa using this
  have hZa : Z.heap[w.heap.size]? = some (.cells #[.int .u8 0, .int .i64 0, .int .i64 0, .string ⟨#[]⟩] 77 (0, 0)) := by
    rw [hZ, heap_alloc_old _ _ (by simp)]; exact heap_alloc_new w _
  obtain ⟨w2, hcp, hg2, hb2⟩ : ∃ w2, (Builtin.copy_ #[114, 9] 3 #[.slice (some ⟨w.heap.size + 1, 1, none⟩) 62 63, .string d]).run Tryz.prog Z = .ok (goInt m) w2 /\ w2.heap[w.heap.size + 1]? = some (.cells (splice M1.toList 1 (Lib.byteCells (d.data.toList.take m))).toArray 5 (0, 0)) /\ Below (w.heap.size + 1) Z w2 := by
    refine ⟨_, run_copy_cut_string (P := Tryz.prog) Z 114 9 3 5 (w.heap.size + 1) 1 62 63 m d M1 5 Tryz.underlying114 infoU8S hZg hm (by rw [hM1, Array.size_setIfInBounds, hMs]; omega), ?_, below_setRow (Below.refl _ _) (Nat.le_refl _) _⟩
    rw [setRow_heap Z _ M1 _ 5 (0, 0) hZg]
    have hlen : (Lib.byteCells (d.data.toList.take m)).length = m := by rw [Lib.byteCells_length, List.length_take, <- Lib.size_eq]; have : m <= d.size := (by rw [<- hm]; exact Nat.min_le_left _ _); omega
    unfold splice
    rw [hlen]
  rw [hZ, hM1] at hcp
  have hrow : ∀ j, j < 64 -> ((splice M1.toList 1 (Lib.byteCells (d.data.toList.take m))).toArray.setIfInBounds 63 (.int .u8 (st : Nat)))[j]? = (secI st d)[j]?.map byteV := fun j hj => by
    rw [hM1, HM.out]; exact sector_row d st m hm j hj
  have hwb : Below w.heap.size w w2 := hZb.trans (hb2.mono (by omega))
  have hact := (hb2.block w.heap.size (by omega)).trans hZa
  have hS2 := (hwb.block S hsl).trans hS
  have c63 : ∃ v63, w2.cell? ⟨w.heap.size + 1, 63, none⟩ = some v63 := by
    rw [cell_of_row _ _ _ _ _ _ hg2, List.getElem?_toArray]
    have : 63 < (splice M1.toList 1 (Lib.byteCells (d.data.toList.take m))).length := by
      have hlen : (Lib.byteCells (d.data.toList.take m)).length = m := by rw [Lib.byteCells_length, List.length_take, <- Lib.size_eq]; have : m <= d.size := (by rw [<- hm]; exact Nat.min_le_left _ _); omega
      rw [length_splice _ _ _ (by rw [hlen, Array.length_toList, hM1, Array.size_setIfInBounds, hMs]; omega), Array.length_toList, hM1, Array.size_setIfInBounds, hMs]; omega
    exact ⟨_, List.getElem?_eq_getElem this⟩
  obtain ⟨v63, c63⟩ := c63
  have f63 : w2.frozen? ⟨w.heap.size + 1, 63, none⟩ = false := frozen_of_row _ _ _ _ _ hg2
  have hcv : ∀ k, (convert 114 9 (.slice (some ⟨w.heap.size + 1, 0, none⟩) 64 64)).run Tryz.prog ((w2.setCell ⟨w.heap.size + 1, 63, none⟩ (.int .u8 (st : Nat))).drewN k) = .ok (.string (secB st d)) ((w2.setCell ⟨w.heap.size + 1, 63, none⟩ (.int .u8 (st : Nat))).drewN k) := fun k => 
    conv_row _ (w.heap.size + 1) 64 64 (secI st d) (secI_len st d) (fun j x hj => by
      have hj' : j < 64 := by rw [<- secI_len st d]; exact (List.getElem?_eq_some_iff.1 hj).1
      have hh := heap_setCell_same w2 (w.heap.size + 1) 63 _ 5 (.int .u8 (st : Nat)) hg2
      have he : ((w2.setCell ⟨w.heap.size + 1, 63, none⟩ (.int .u8 (st : Nat))).drewN k).heap = (w2.setCell ⟨w.heap.size + 1, 63, none⟩ (.int .u8 (st : Nat))).heap := by simp
      rw [<- he] at hh
      rw [cell_of_row _ _ _ _ _ _ hh, hrow j hj', hj]
      rfl)
  obtain ⟨X, hX⟩ : ∃ X, X = w2.setCell ⟨w.heap.size + 1, 63, none⟩ (.int .u8 (st : Nat)) := ⟨_, rfl⟩
  have hcv1 : (convert 114 9 (.slice (some ⟨w.heap.size + 1, 0, none⟩) 64 64)).run Tryz.prog X.drew = .ok (.string (secB st d)) X.drew := by rw [hX]; exact hcv 1
  have hXb : Below w.heap.size w X := by rw [hX]; exact hwb.setCell (by simp) _
  have hXa : X.heap[w.heap.size]? = some (.cells #[.int .u8 0, .int .i64 0, .int .i64 0, .string ⟨#[]⟩] 77 (0, 0)) := by rw [hX, heap_setCell_other _ _ _ _ (by simp)]; exact hact
  have hXS := (hXb.block S hsl).trans hS
  have d0 : X.cell? ⟨S, 0, none⟩ = some (.int .i64 (sec : Nat)) := by rw [cell_of_row _ _ _ _ _ _ hXS]; rfl
  obtain ⟨a0, a1, a2, a3⟩ := cells4 hXa
  have af := fun j => frozen_of_row X w.heap.size j _ _ hXa
  have HB2 := hideF hXb
  have hlim := Nat.mul_le_mul hlat hsec
  have e2 : wrap64 (wrap64 ((lat : Int) * (sec : Int)) + (i : Int)) = (lat : Int) * (sec : Int) + (i : Int) := by
    obtain ⟨p, hp, hpl⟩ : ∃ p : Nat, (lat : Int) * (sec : Int) = (p : Nat) /\ p <= 10000 := ⟨lat * sec, (Int.natCast_mul _ _).symm, hlim⟩
    have e1 : ∀ q : Nat, q <= 20000 -> wrap64 (q : Int) = q := fun q hq => by unfold wrap64; omega
    rw [hp, e1 p (by omega), <- Int.natCast_add, e1 (p + i) (by omega)]
  have E2 := hideF e2
  clear e2 hlim
  clear hM1 hZ hZb hZg hZa hg2 hb2 hrow hact hS2 hS hwb hcv hXb hXa hXS
  go_enter Tryz.func85, Tryz.ntmps85
  go_wp2_with fail
  rw [<- hX]
  clear hX
  go_region
  go_wp2
  refine bodyPost_ret (v := .agg #[.int .u8 0, .int .i64 (lat * sec + i : Nat), .int .i64 0, .string (secB st d)]) (by simp [results, Tryz.results85, go_sem, a0, a1, a2, a3, E2.out]) rfl ⟨rfl, ?_⟩
  exact ((((HB2.out.setCell (Nat.le_refl _) _).setCell (Nat.le_refl _) _).setCell (Nat.le_refl _) _).setCell (Nat.le_refl _) _).drew
end Go.Proofs.YtcpldcojckhapaaGreat

set_option maxRecDepth 100000
namespace Go.Proofs.YtcpldcojckhapaaGreat
open Go.RowKit
def saveW (sec lat st : Nat) (d : ByteArray) (i : Nat) : Int × Int × Int × ByteArray := (0, (lat * sec + i : Nat), 0, secB st (d.extract (i * 62) d.size))
def saveA (sec lat st : Nat) (d : ByteArray) : List (Int × Int × Int × ByteArray) := (List.range sec).map (saveW sec lat st d) ++ [(1, 0, 0, ⟨#[]⟩)]
theorem enter84 (x : Value) (w : World) : (callFunc 83 #[x]).run Tryz.prog w = .ok (.enter 83 #[x]) w := by kernel_rfl
theorem enter85 (x : Value) (w : World) : (callFunc 84 #[x]).run Tryz.prog w = .ok (.enter 84 #[x]) w := by kernel_rfl
theorem enter86 (x y z u v : Value) (w : World) : (callFunc 85 #[x, y, z, u, v]).run Tryz.prog w = .ok (.enter 85 #[x, y, z, u, v]) w := by kernel_rfl
theorem other_step (n m : Nat) (w : World) (hn : n <= 1) (hm : m = (n + 1) % 2) :
    Calls Tryz.prog 83 #[.int .i64 (n : Nat)] w fun e w' => ∃ v, e = .returned v /\ (v = .int .i64 (m : Nat) /\ w' = w) :=
  (other_at n m hm w (by omega)).mono fun _ _ h => ⟨_, h.1, rfl, h.2⟩
theorem next_step (n m : Nat) (w : World) (hn : n <= 3) (hm : m = n % 3 + 1) :
    Calls Tryz.prog 84 #[.int .u8 (n : Nat)] w fun e w' => ∃ v, e = .returned v /\ (v = .int .u8 (m : Nat) /\ w' = w) :=
  (next_at n m hm w (by omega)).mono fun _ _ h => ⟨_, h.1, rfl, h.2⟩
theorem secWrite_step (S sec lat i st : Nat) (b2 b3 : Value) (d : ByteArray) (w : World) (hS : w.heap[S]? = some (.cells #[.int .i64 (sec : Nat), b2, b3] 155 (0, 0))) (hsec : sec <= 100) (hlat : lat <= 100) (hi : i <= 100) (hst : st < 256) :
    Calls Tryz.prog 85 #[.pointer (some ⟨S, 0, none⟩), .int .i64 (lat : Nat), .int .i64 (i : Nat), .string d, .int .u8 (st : Nat)] w fun e w' => ∃ v, e = .returned v /\ (v = .agg #[.int .u8 0, .int .i64 (lat * sec + i : Nat), .int .i64 0, .string (secB st d)] /\ Below w.heap.size w w') :=
  (secWrite_any S sec lat i st b2 b3 d w hS hsec hlat hi hst).mono fun _ _ h => ⟨_, h.1, rfl, h.2⟩
theorem cells3f {W : World} {g : Nat} {t : TypeId} {a0 a1 a2 : Value} (h : W.heap[g]? = some (.cells #[a0, a1, a2] t (0, 0))) : W.cell? ⟨g, 0, none⟩ = some a0 /\ W.cell? ⟨g, 1, none⟩ = some a1 /\ W.cell? ⟨g, 2, none⟩ = some a2 /\ ∀ j, W.frozen? ⟨g, j, none⟩ = false :=
  ⟨by rw [cell_of_row _ _ _ _ _ _ h]; rfl, by rw [cell_of_row _ _ _ _ _ _ h]; rfl, by rw [cell_of_row _ _ _ _ _ _ h]; rfl, fun j => frozen_of_row _ _ _ _ _ h⟩
theorem Chg1.grown {g : Nat} {w w' w2 : World} {row : Option Nat} (h : Chg1 g w w') (hg : w'.grownBy w2 row) (hr : ∀ k, row = some k -> w.heap.size <= k) : Chg1 g w w2 :=
  ⟨hg.os.trans h.os, hg.tape.trans h.tape, hg.output.trans h.output, Nat.le_trans h.size hg.size, fun k hk hne => (hg.block k (Nat.lt_of_lt_of_le hk h.size) (fun e => by have := hr k e.symm; omega)).trans (h.block k hk hne)⟩
theorem saveW_succ (sec lat st q : Nat) (d : ByteArray) : ((List.range (q + 1)).map (saveW sec lat st d)).flatMap encA = ((List.range q).map (saveW sec lat st d)).flatMap encA ++ [.int .u8 0, .int .i64 (lat * sec + q : Nat), .int .i64 0, .string (secB st (d.extract (q * 62) d.size))] := by
  rw [List.range_succ, List.map_append, List.flatMap_append]; rfl
set_option maxRecDepth 100000 in
set_option maxHeartbeats 2000000 in
theorem save_any (S sec lat st lat' st' : Nat) (data : ByteArray) (w : World) (hS : w.heap[S]? = some (.cells #[.int .i64 (sec : Nat), .int .i64 (lat : Nat), .int .u8 (st : Nat)] 155 (0, 0))) (hsec : sec <= 64) (hd : ∀ i, i < sec -> i * 62 <= data.size) (_hds : data.size <= 10000)
    (hlat : lat <= 1) (hst : st <= 3) (hl' : lat' = (lat + 1) % 2) (hs' : st' = st % 3 + 1) :
    Calls Tryz.prog 58 #[.pointer (some ⟨S, 0, none⟩), .string data] w fun e w' => ∃ v, e = .returned v /\ w'.ownsRow w.heap.size 77 4 v (sec + 1) ((saveA sec lat' st' data).flatMap encA) /\
      w'.heap[S]? = some (.cells #[.int .i64 (sec : Nat), .int .i64 (lat' : Nat), .int .u8 (st' : Nat)] 155 (0, 0)) /\ Chg1 S w w' := by
  obtain ⟨i0, hi, hz0, hz1, hz2⟩ := info_parts Tryz.infoEA
  have hsl := lt_of_block hS
  obtain ⟨c0, c1, c2, cf⟩ := cells3f hS
  have b1 : lat' <= 1 := by omega
  have b2 : st' <= 3 := by omega
  have HL := hideF hl'
  have HT := hideF hs'
  have HS := hideF hS
  have HD := hideF hd
  clear hl' hs' hS hd
  go_enter Tryz.func58, Tryz.ntmps58
  go_wp2_with fail
  go_region_law (first
    | (refine step_call rfl 83 #[.tmp 12] #[3] rfl #[.int .i64 (lat : Nat)] (by simp [Act.eval]) (enter84 _ _) _ (other_step lat lat' _ hlat HL.out) ?_; rintro v w1 ⟨rfl, rfl⟩)
    | (refine step_call rfl 84 #[.tmp 17] #[5] rfl #[.int .u8 (st : Nat)] (by simp [Act.eval]) (enter85 _ _) _ (next_step st st' _ hst HT.out) ?_; rintro v w1 ⟨rfl, rfl⟩))
  all_goals
    obtain ⟨X, hX⟩ : ∃ X, X = ((w.setCell ⟨S, 1, none⟩ (.int .i64 (lat' : Nat))).setCell ⟨S, 2, none⟩ (.int .u8 (st' : Nat))).drew := ⟨_, rfl⟩
    rw [<- hX]
    have hXS : X.heap[S]? = some (.cells #[.int .i64 (sec : Nat), .int .i64 (lat' : Nat), .int .u8 (st' : Nat)] 155 (0, 0)) := by
      rw [hX]
      have h1 := heap_setCell_same w S 1 _ 155 (.int .i64 (lat' : Nat)) HS.out
      have h2 := heap_setCell_same _ S 2 _ 155 (.int .u8 (st' : Nat)) h1
      exact h2
    have hXc : Chg1 S w X := by rw [hX]; exact (((Chg1.refl S w).setCell _ _).setCell _ _).drewN 1
    clear hX
    obtain ⟨x0, x1, x2, xf⟩ := cells3f hXS
    have HXS := hideF hXS
    have HXC := hideF hXc
    clear hXS hXc c0 c1 c2 cf
    go_wp2_with fail
    go_loopw [27, 5] (fun i v wr => ∃ q : Nat, q <= sec /\ i = .int .i64 (q : Nat) /\ wr.ownsRow w.heap.size 77 4 v q (((List.range q).map (saveW sec lat' st' data)).flatMap encA) /\ wr.heap[S]? = some (.cells #[.int .i64 (sec : Nat), .int .i64 (lat' : Nat), .int .u8 (st' : Nat)] 155 (0, 0)) /\ Chg1 S w wr) (fun i _ _ => sec - (intOf i).toNat)
    case atStart => exact ⟨0, by omega, rfl, World.ownsRow_nil _ _ _ _, HXS.out, HXC.out⟩
    case round =>
      obtain ⟨q, hq, rfl, hown, hst, hch⟩ := hrel
      have hsb := hch.size
      by_cases hlt : q < sec
      . have hqd := HD.out q hlt
        obtain ⟨y0, y1, y2, yf⟩ := cells3f hst
        have HST := hideF hst
        have HCH := hideF hch
        have HOW := hideF hown
        have HOWd : Hid (wr.drew.ownsRow w.heap.size 77 4 u5 q (((List.range q).map (saveW sec lat' st' data)).flatMap encA)) := own_same hown (fun g _ => rfl)
        have e1 : IntKind.i64.wrap ((q : Int) * 62) = (q : Int) * 62 := by rw [IntKind.wrap_i64]; omega
        have e2 : ((q : Int) * 62).toNat = q * 62 := by omega
        have e3 : (0 : Int) <= (q : Int) * 62 := by omega
        have e4 : (q : Int) * 62 <= (data.size : Int) := by omega
        clear hst hch hown
        go_wp2_with fail
        go_region_law (first
          | (refine step_call rfl 85 #[.tmp 31, .tmp 35, .tmp 36, .tmp 40, .tmp 44] #[106, 3, 3, 9, 5] rfl #[.pointer (some ⟨S, 0, none⟩), .int .i64 (lat' : Nat), .int .i64 (q : Nat), .string (data.extract (q * 62) data.size), .int .u8 (st' : Nat)] (by simp [Act.eval]) (enter86 _ _ _ _ _ _) _ (secWrite_step S sec lat' q st' _ _ (data.extract (q * 62) data.size) _ HST.out (by omega) (by omega) (by omega) (by omega)) ?_; rintro v w1 ⟨rfl, hb0⟩)
          | (refine step_append_own rfl (.tmp 30) (.tmp 46) 31 rfl w.heap.size 77 i0 _ 4 40 Tryz.underlying31 hi hz0 hz1 hz2 rfl (by decide) u5 q _ rfl ((ownsRow_below HOWd.out hb0).alloc _) ⟨w1.heap.size, 0, none⟩ 1 1 [.int .u8 0, .int .i64 (lat' * sec + q : Nat), .int .i64 0, .string (secB st' (data.extract (q * 62) data.size))] rfl rfl (cell_four_new _ _ _ _ _ _) (by intro u hu; simp at hu; rcases hu with rfl | rfl | rfl | rfl <;> rfl) (by unfold maxLen; omega) (by omega) (by have := hb0.size; simp at this ⊢; omega) ?_; intro v' w3 hown3 hgrow3))
        all_goals
          have hb1 := below_then_drew1 hb0
          have hS1 := (hb1.block S (by omega)).trans HST.out
          have HN : Hid (wr.heap.size <= w1.heap.size) := hb1.size
          have HC1 := hideF (((HCH.out.then_below hb1).alloc (.cells #[.int .u8 0, .int .i64 (lat' * sec + q : Nat), .int .i64 0, .string (secB st' (data.extract (q * 62) data.size))] 77)).grown hgrow3 (fun k hk => (HOW.out.lt k hk).1))
          have HS1 := hideF ((hgrow3.block S (by have := lt_of_block hS1; simp; omega) (fun e => by have := (HOW.out.lt S e.symm).1; omega)).trans ((heap_alloc_old w1 _ (lt_of_block hS1)).trans hS1))
          clear hS1 hb1 hb0 hgrow3 y0 y1 y2 yf
          go_wp2
          go_roundw
          case rel =>
            refine ⟨q + 1, by omega, by go_num, ?_, HS1.out, HC1.out⟩
            rw [saveW_succ]; exact hown3
          case measure => simp [intOf]; omega
      . obtain rfl : q = sec := by omega
        have HST := hideF hst
        have HCH := hideF hch
        have HOW := hideF hown
        clear hst hch hown
        go_wp2_with (at_builtin; refine wpList_append_own _ rfl (.tmp 49) (.tmp 51) 31 rfl w.heap.size 77 i0 _ 4 40 Tryz.underlying31 hi hz0 hz1 hz2 rfl (by decide) u5 q _ rfl (HOW.out.alloc _) ⟨wr.heap.size, 0, none⟩ 1 1 [.int .u8 1, .int .i64 0, .int .i64 0, .string ⟨#[]⟩] rfl rfl (cell_four_new _ _ _ _ _ _) (by intro u hu; simp at hu; rcases hu with rfl | rfl | rfl | rfl <;> rfl) (by unfold maxLen; omega) (by omega) (by simp; omega) ?_; intro v' w3 hown3 hgrow3 _)
        go_ret
        refine ⟨_, rfl, ?_, ?_, (HCH.out.alloc _).grown hgrow3 (fun k hk => (HOW.out.lt k hk).1)⟩
        . unfold saveA; rw [List.flatMap_append]; exact hown3
        . exact (hgrow3.block S (by simp; omega) (fun e => by have := (HOW.out.lt S e.symm).1; omega)).trans ((heap_alloc_old wr _ (by omega)).trans HST.out)
end Go.Proofs.YtcpldcojckhapaaGreat

set_option maxRecDepth 100000
namespace Go.Proofs.YtcpldcojckhapaaGreat
open Go.RowKit
def latL (a c : Nat) : Nat := if c ≠ 0 /\ (a = 0 ∨ c = a % 3 + 1) then 1 else 0
def stL (a c : Nat) : Nat := if c ≠ 0 /\ (a = 0 ∨ c = a % 3 + 1) then c else a
theorem latL_le (a c : Nat) : latL a c <= 1 := by unfold latL; split <;> omega
theorem stL_le {a c : Nat} (ha : a <= 3) (hc : c <= 3) : stL a c <= 3 := by unfold stL; split <;> omega
theorem store_set {w : World} {b : Nat} {x y z : Value} (p q : Value) (h : w.heap[b]? = some (.cells #[x, y, z] 155 (0, 0))) : ((w.setCell ⟨b, 1, none⟩ p).setCell ⟨b, 2, none⟩ q).heap[b]? = some (.cells #[x, p, q] 155 (0, 0)) := by
  have h1 := heap_setCell_same w b 1 _ 155 p h
  exact heap_setCell_same _ b 2 _ 155 q h1
theorem strCells_eq (s : ByteArray) : Lib.strCells s = Lib.byteCells s.data.toList := rfl
end Go.Proofs.YtcpldcojckhapaaGreat

set_option maxRecDepth 100000
namespace Go.Proofs.YtcpldcojckhapaaGreat
open Go.RowKit
end Go.Proofs.YtcpldcojckhapaaGreat

set_option maxRecDepth 100000
namespace Go.Proofs.YtcpldcojckhapaaGreat
open Go.RowKit
def SecIn (w : World) (g nd : Nat) (f : Nat -> ByteArray) : Prop := ∀ j, j < nd -> w.cell? ⟨g, j, none⟩ = some (.string (f j))
theorem SecIn.bel {w w' : World} {g nd : Nat} {f : Nat -> ByteArray} (h : SecIn w g nd f) (hg : g < w.heap.size) (hb : Below w.heap.size w w') : SecIn w' g nd f := fun j hj => ((bcell hb).1 g j hg).trans (h j hj)
def SecOk (s : ByteArray) (st : Nat) : Prop := Pl.byt s 0 = st /\ Pl.byt s 63 = st
instance (s : ByteArray) (st : Nat) : Decidable (SecOk s st) := inferInstanceAs (Decidable (_ /\ _))
def stampC (f : Nat -> ByteArray) (o sec : Nat) : Nat := if (∀ i, i < sec -> SecOk (f (o + i)) (Pl.byt (f o) 0)) /\ Pl.byt (f o) 0 <= 3 then Pl.byt (f o) 0 else 0
theorem stampC_le (f : Nat -> ByteArray) (o sec : Nat) : stampC f o sec <= 3 := by unfold stampC; split <;> omega
set_option maxRecDepth 100000 in
set_option maxHeartbeats 1000000 in
theorem stampOf_gen (g o k sec st : Nat) (f : Nat -> ByteArray) (w : World) (h1 : 1 <= sec) (h3 : sec <= 100) (hc : ∀ i, i < sec -> w.cell? ⟨g, o + i, none⟩ = some (.string (f (o + i)))) (hs : ∀ i, i < sec -> (f (o + i)).size = 64) (hst : st = stampC f o sec) :
    Calls Tryz.prog 120 #[.slice (some ⟨g, o, none⟩) sec k] w fun e w' => e = .returned (.int .u8 (st : Nat)) /\ w' = w := by
  have gb0 := Pl.get_byt (f o)
  have hl0 : 0 < (f o).size := by have := hs 0 (by omega); rw [Nat.add_zero] at this; omega
  obtain ⟨s0, hs0⟩ : ∃ s0, s0 = Pl.byt (f o) 0 := ⟨_, rfl⟩
  have b0 := Pl.byt_lt (f o) 0
  rw [<- hs0] at b0
  have c0 : w.cell? ⟨g, o, none⟩ = some (.string (f o)) := by have := hc 0 (by omega); rwa [Nat.add_zero] at this
  have hI : (0 : Int) < (sec : Int) := by omega
  have HC := hideF hc
  have HS := hideF hs
  have HT := hideF hst
  have HS0 := hideF hs0
  have gb1 : ∀ h, ((f o)[0]'h).toNat = s0 := fun h => by rw [gb0, hs0]
  clear hc hs hst hs0 gb0
  go_enter Tryz.func120, Tryz.ntmps120
  go_wp2_with fail
  go_loopw [12] (fun i wr => ∃ q : Nat, q <= sec /\ i = .int .i64 (q : Nat) /\ w = wr /\ ∀ j, j < q -> SecOk (f (o + j)) s0) (fun i _ => sec - (intOf i).toNat)
  case atStart => exact ⟨0, by omega, rfl, rfl, fun j hj => absurd hj (Nat.not_lt_zero _)⟩
  case round =>
    obtain ⟨q, hq, rfl, rfl, hall⟩ := hrel
    have HALL := hideF hall
    clear hall
    by_cases hqn : q < sec
    . have hcq := HC.out q hqn
      have hsq := HS.out q hqn
      obtain ⟨t, ht⟩ : ∃ t, t = f (o + q) := ⟨_, rfl⟩
      rw [<- ht] at hcq hsq
      have HTE := hideF ht
      have gb := Pl.get_byt t
      have e0 := Pl.byt_lt t 0
      have e1 := Pl.byt_lt t 63
      have hl : 0 < t.size := by omega
      have HSQ := hideF hsq
      clear ht hsq
      by_cases h0 : Pl.byt t 0 = s0
      . have te : ((Pl.byt t 0 : Int) != (s0 : Int)) = false := by simp; omega
        by_cases h63 : Pl.byt t 63 = s0
        . have te2 : ((Pl.byt t 63 : Int) != (s0 : Int)) = false := by simp; omega
          have HOK : Hid (SecOk t s0) := ⟨h0, h63⟩
          clear h0 h63
          go_wp2_with fail
          refine (endOf_at t _ HSQ.out).mono ?_
          rintro e w1 ⟨rfl, rfl⟩
          go_wp2_with fail
          go_roundw
          case rel => exact ⟨q + 1, by omega, by go_num, trivial, fun j hj => by
            rcases Nat.lt_or_ge j q with h | h
            . exact HALL.out j h
            . obtain rfl : j = q := by omega
              rw [<- HTE.out]; exact HOK.out⟩
          case measure => simp [intOf]; omega
        . have te2 : ((Pl.byt t 63 : Int) != (s0 : Int)) = true := by simp; omega
          have HNO : Hid (¬ SecOk t s0) := fun h => h63 h.2
          clear h0 h63
          go_wp2_with fail
          refine (endOf_at t _ HSQ.out).mono ?_
          rintro e w1 ⟨rfl, rfl⟩
          go_wp2
          go_ret
          exact ⟨ru8 (by rw [HT.out]; unfold stampC; rw [if_neg (fun h => HNO.out (by rw [HTE.out, HS0.out]; exact h.1 q hqn))]; rfl), rfl⟩
      . have te : ((Pl.byt t 0 : Int) != (s0 : Int)) = true := by simp; omega
        have HNO : Hid (¬ SecOk t s0) := fun h => h0 h.1
        clear h0
        go_wp2_with fail
        go_ret
        exact ⟨ru8 (by rw [HT.out]; unfold stampC; rw [if_neg (fun h => HNO.out (by rw [HTE.out, HS0.out]; exact h.1 q hqn))]; rfl), rfl⟩
    . obtain rfl : q = sec := by omega
      by_cases h3 : s0 <= 3
      . have t3 : decide ((3 : Int) < (s0 : Int)) = false := by simp; omega
        go_wp2
        go_ret
        exact ⟨ru8 (by rw [HT.out]; unfold stampC; rw [<- HS0.out, if_pos ⟨HALL.out, h3⟩]), rfl⟩
      . have t3 : (3 : Int) < (s0 : Int) := by omega
        go_wp2
        go_ret
        exact ⟨ru8 (by rw [HT.out]; unfold stampC; rw [<- HS0.out, if_neg (fun h => h3 h.2)]; rfl), rfl⟩
set_option maxRecDepth 100000 in
set_option maxHeartbeats 1000000 in
theorem copyOn_gen (b g nd k sec o : Nat) (w : World) (hk : nd <= k) (hn : 2 * sec <= nd) (hn2 : nd <= 1000) (h1 : 1 <= sec) (ho : o <= 1) (hb : w.cell? ⟨b, 0, none⟩ = some (.int .i64 (sec : Nat))) :
    Calls Tryz.prog 95 #[.pointer (some ⟨b, 0, none⟩), .slice (some ⟨g, 0, none⟩) nd k, .int .i64 (o : Nat)] w fun e w' => e = .returned (.slice (some ⟨g, o * sec, none⟩) sec (k - o * sec)) /\ ∃ n, w' = w.drewN n := by
  have q1 : (sec : Int) <= (nd : Int) := by omega
  have q2 : (2 : Int) * (sec : Int) <= (nd : Int) := by omega
  have q3 : (sec : Int) <= (k : Int) := by omega
  have q4 : (2 : Int) * (sec : Int) <= (k : Int) := by omega
  have q5 : ¬ k = sec := by omega
  have q6 : 2 * sec - sec = sec := by omega
  rcases (show o = 0 ∨ o = 1 by omega) with rfl | rfl
  . rw [Nat.zero_mul, Nat.sub_zero]
    go_enter Tryz.func95, Tryz.ntmps95
    go_wp2
    go_quiet (fail)
    go_wp2
    go_ret
    exact ⟨rfl, _, rfl⟩
  . rw [Nat.one_mul]
    go_enter Tryz.func95, Tryz.ntmps95
    go_wp2
    go_quiet (fail)
    go_wp2
    go_ret
    refine ⟨?_, _, rfl⟩
    show Ending.returned (.slice (some ⟨g, sec, none⟩) (2 * sec - sec) (k - sec)) = _
    rw [q6]
def catC (f : Nat -> ByteArray) (o : Nat) : Nat -> ByteArray
  | 0 => ⟨#[]⟩
  | q + 1 => catC f o q ++ (f (o + q)).extract 1 63
theorem catC_size (f : Nat -> ByteArray) (o q : Nat) (h : ∀ i, i < q -> (f (o + i)).size = 64) : (catC f o q).size = 62 * q := by
  induction q with
  | zero => rfl
  | succ q ih =>
    rw [catC, ByteArray.size_append, ih (fun i hi => h i (by omega)), ByteArray.size_extract]
    have := h q (by omega)
    omega
theorem strCells_append (a b : ByteArray) : Lib.strCells (a ++ b) = Lib.strCells a ++ Lib.strCells b := by
  rw [strCells_eq, strCells_eq, strCells_eq]
  unfold Lib.byteCells
  rw [ByteArray.data_append, Array.toList_append, List.map_append]
set_option maxRecDepth 100000 in
set_option maxHeartbeats 2000000 in
theorem contents_gen (g o k sec : Nat) (f : Nat -> ByteArray) (w : World) (h1 : 1 <= sec) (h3 : sec <= 100) (hc : ∀ i, i < sec -> w.cell? ⟨g, o + i, none⟩ = some (.string (f (o + i)))) (hg : g < w.heap.size) (hs : ∀ i, i < sec -> (f (o + i)).size = 64) :
    Calls Tryz.prog 94 #[.slice (some ⟨g, o, none⟩) sec k] w fun e w' => e = .returned (.string (catC f o sec)) /\ Below w.heap.size w w' := by
  obtain ⟨W, hW⟩ : ∃ W, W = w.alloc (.cells #[.pointer none, .slice none 0 0] 203) := ⟨_, rfl⟩
  have hWb : Below w.heap.size w W := by rw [hW]; exact bel_alloc (Below.refl _ _) _
  have hWI : Lib.IsBuilder 203 5 w.heap.size w.heap.size [] W := by rw [hW]; exact Lib.fresh_isBuilder 203 5 w
  have hsz := hWb.size
  have HWB := hideF hWb
  have HWI := hideF hWI
  have HS := hideF hs
  have HC := hideF hc
  clear hWb hWI hs hc
  go_enter Tryz.func94, Tryz.ntmps94
  go_wp2_with fail
  rw [<- hW]
  clear hW
  go_loopw [8] (fun i wr => ∃ q : Nat, q <= sec /\ i = .int .i64 (q : Nat) /\ Lib.IsBuilder 203 5 w.heap.size w.heap.size (Lib.strCells (catC f o q)) wr /\ Below w.heap.size w wr) (fun i _ => sec - (intOf i).toNat)
  case atStart => exact ⟨0, Nat.zero_le _, rfl, HWI.out, HWB.out⟩
  case round =>
    obtain ⟨q, hq, rfl, hB, hb⟩ := hrel
    have HB := hideF hB
    have Hb := hideF hb
    clear hB hb
    by_cases hlt : q < sec
    . have hcq : wr.cell? ⟨g, o + q, none⟩ = some (.string (f (o + q))) := ((bcell Hb.out).1 g _ hg).trans (HC.out q hlt)
      have hsq := HS.out q hlt
      obtain ⟨s, hse⟩ : ∃ s, s = f (o + q) := ⟨_, rfl⟩
      rw [<- hse] at hcq hsq
      have h1s : (1 : Nat) <= 63 /\ 63 <= s.size := by omega
      obtain ⟨t, ht⟩ : ∃ t : ByteArray, t = s.extract 1 63 := ⟨_, rfl⟩
      have hts : t.size = 62 := by rw [ht, ByteArray.size_extract]; omega
      have hcz := catC_size f o q (fun i hi => HS.out i (by omega))
      have HSN : Hid (catC f o (q + 1) = catC f o q ++ t) := by show _ = _; rw [ht, hse]; rfl
      have hlc : (Lib.strCells (catC f o q)).length = 62 * q := by rw [strCells_eq, Lib.byteCells_length, <- Lib.size_eq, hcz]
      have HLC := hideF hlc
      have HT := hideF ht
      have HTS := hideF hts
      have hsW := Hb.out.size
      clear hse hsq ht hts hcz hlc
      go_wp2_with fail
      try rw [<- HT.out]
      refine (Go.Proofs.Any.Builder_WriteString (ρ := layRep_ren) { layRep with } layRepX w.heap.size w.heap.size (Lib.strCells (catC f o q)) t _ HB.out (by rw [HTS.out, HLC.out]; omega) (by omega)).mono ?_
      rintro e w2 ⟨rfl, hB2, hb2⟩
      have HB2 := hideF hB2
      have Hb2 := hideF (Hb.out.trans hb2)
      clear hB2 hb2
      go_wp2_with fail
      go_roundw
      case rel => exact ⟨q + 1, by omega, by go_num, .inr (by rw [HSN.out, strCells_append]; exact HB2.out), Hb2.out⟩
      case measure => simp [intOf]; omega
    . obtain rfl : q = sec := by omega
      have hcz := catC_size f o q (fun i hi => HS.out i (by omega))
      have HCZ := hideF hcz
      clear hcz
      go_wp2_with fail
      refine (Go.Proofs.Any.Builder_String (ρ := layRep_ren) { layRep with } layRepX w.heap.size w.heap.size (catC f o q).data.toList _ (by rw [<- strCells_eq]; exact HB.out) (by intro e; have h := HCZ.out; have h2 : (catC f o q).data.toList.length = 62 * q := h; rw [e] at h2; simp at h2; omega)).mono ?_
      rintro e w3 ⟨rfl, hb3⟩
      have Hb3 := hideF (Hb.out.trans hb3)
      clear hb3
      go_wp2
      go_ret
      exact ⟨rfl, Hb3.out⟩
end Go.Proofs.YtcpldcojckhapaaGreat
