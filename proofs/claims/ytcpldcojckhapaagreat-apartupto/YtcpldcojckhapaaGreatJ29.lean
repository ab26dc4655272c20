/-
  
-/
import Derived.Test.YtcpldcojckhapaaGreatJ28
import Derived.Deep.DeepMust
import Derived.Test.YtcpldcojckhapaaGreatJ22
import Derived.Test.YtcpldcojckhapaaGreatJ12
import Derived.Laws.CopyOwn
import Derived.Test.YtcpldcojckhapaaGreatJ25
set_option maxRecDepth 100000
namespace Go.Proofs.YtcpldcojckhapaaGreat
open Go.RowKit
theorem Tryz.info94 : (Tryz.prog.info? 94).map (fun i => (i.zero, i.size, i.bytes)) = some (some (.agg #[.int .i64 0, .int .i64 0, .string ⟨#[]⟩]), 3, 32) := by kernel_rfl
def SplIs (s : ByteArray) (acc : List Value) (t : Nat) (k : Int) : Prop := Pl.splF s = (acc, t) /\ k = if Pl.brk (s.extract t s.size) then 4 else 0
def SplAt (s : ByteArray) (f t : Nat) (acc : List Value) : Prop := acc ++ (Pl.spl s f t).1 = (Pl.splF s).1 /\ (Pl.spl s f t).2 = (Pl.splF s).2
theorem splAt_start (s : ByteArray) : SplAt s (s.size + 1) 0 [] := ⟨rfl, rfl⟩
theorem splAt_step {s : ByteArray} {f t : Nat} {acc : List Value} (h : SplAt s (f + 1) t acc) (hw : Pl.wholeAt s t ≠ 0) : SplAt s f (t + Pl.wholeAt s t) (acc ++ Pl.frAt s t (Pl.wholeAt s t)) := by
  have := h; unfold SplAt at this ⊢; rw [Pl.spl_step s f t hw] at this; exact ⟨by rw [List.append_assoc]; exact this.1, this.2⟩
theorem splAt_stop {s : ByteArray} {f t : Nat} {acc : List Value} (h : SplAt s f t acc) (hw : Pl.wholeAt s t = 0) : Pl.splF s = (acc, t) := by
  have := h; unfold SplAt at this; rw [Pl.spl_stop s f t hw] at this
  exact Prod.ext (by simpa using this.1.symm) this.2.symm
theorem streamFrame_at (s : ByteArray) (t z : Nat) (w : World) (h1 : 8 <= z) (h2 : t + z <= s.size) (hs : s.size <= 4194304) :
    Calls Tryz.prog 110 #[.string (s.extract t (t + z))] w fun e w' => ∃ (p q : Nat) (b : ByteArray), e = .returned (.agg #[.int .i64 (p : Nat), .int .i64 (q : Nat), .string b]) /\ Hid (Pl.frAt s t z = [.int .i64 (p : Nat), .int .i64 (q : Nat), .string b]) /\ Below w.heap.size w w' := by
  have hz : (s.extract t (t + z)).size = z := by simp; omega
  refine (streamFrame_any (s.extract t (t + z)) w (by omega) (by omega)).mono ?_
  rintro e w' ⟨rfl, hb⟩
  refine ⟨_, _, _, rfl, ?_, hb⟩
  show Pl.frAt s t z = _
  unfold Pl.frAt
  rw [Pl.byt_extract s t (t + z) 0 h2 (by omega), Pl.byt_extract s t (t + z) 1 h2 (by omega), Pl.byt_extract s t (t + z) 6 h2 (by omega), hz, Pl.extract_extract s t (t + z) 7 z (by omega)]
  rfl
set_option maxRecDepth 100000 in
set_option maxHeartbeats 1000000 in
theorem split_core (s : ByteArray) (w : World) (hs : s.size <= 4194304) :
    Calls Tryz.prog 75 #[.string s] w fun e w' => ∃ v n acc t k, e = .returned (.tuple #[v, .int .i64 (t : Nat), .int .i64 k]) /\
      w'.ownsRow w.heap.size 94 3 v n acc /\ SplIs s acc t k /\ n <= 524288 /\ Below w.heap.size w w' := by
  obtain ⟨i0, hi, hz0, hz1, hz2⟩ := info_parts Tryz.info94
  go_enter Tryz.func75, Tryz.ntmps75
  go_wp2_with fail
  refine (wholeSize_any s _ hs).mono ?_
  rintro e w' ⟨rfl, rfl⟩
  go_wp2_with fail
  go_loopw [5, 6, 7] (fun v t z wr => ∃ at_ n f acc zz, at_ <= s.size /\ 8 * n <= at_ /\ t = .int .i64 (at_ : Nat) /\ z = .int .i64 (zz : Nat) /\ Hid (zz = Pl.wholeAt s at_) /\ wr.ownsRow w'.heap.size 94 3 v n acc /\ s.size < at_ + f /\
    SplAt s f at_ acc /\ Below w'.heap.size w' wr) (fun _ t _ _ => s.size - (intOf t).toNat)
  case atStart => exact ⟨0, 0, s.size + 1, [], Pl.whole s, by omega, by omega, rfl, rfl, (Pl.wholeAt_zero s).symm, World.ownsRow_nil _ _ _ _, by omega, splAt_start s, Below.refl _ _⟩
  case round =>
    obtain ⟨t, n, f, acc, z, ht, hn, rfl, rfl, HZ, hown, hf, HS, hbel⟩ := hrel
    by_cases hw : z = 0
    . have HE : Hid (Pl.splF s = (acc, t)) := splAt_stop HS (by rw [<- HZ.out]; exact hw)
      subst hw
      clear HS HZ
      cases hbrk : Pl.brk (s.extract t s.size)
      . have HK : SplIs s acc t 0 := ⟨HE.out, by rw [hbrk]; rfl⟩
        clear HE
        go_wp2_with fail
        refine (breaks_any _ _ (by simp; omega)).mono ?_
        rintro e w2 ⟨rfl, rfl⟩
        rw [hbrk]
        clear hbrk
        go_wp2
        go_ret3
        exact ⟨u5, n, acc, t, 0, rfl, hown, HK, by omega, hbel⟩
      . have HK : SplIs s acc t 4 := ⟨HE.out, by rw [hbrk]; rfl⟩
        clear HE
        go_wp2_with fail
        refine (breaks_any _ _ (by simp; omega)).mono ?_
        rintro e w2 ⟨rfl, rfl⟩
        rw [hbrk]
        clear hbrk
        go_wp2
        go_ret3
        exact ⟨u5, n, acc, t, 4, rfl, hown, HK, by omega, hbel⟩
    . have hw0 : Pl.wholeAt s t ≠ 0 := by rw [<- HZ.out]; exact hw
      have hwb := Pl.wholeAt_bd s t hw0
      rw [<- HZ.out] at hwb
      obtain ⟨hw1, hw2, hw3⟩ := hwb
      obtain ⟨f, rfl⟩ : ∃ g, f = g + 1 := ⟨f - 1, by omega⟩
      have HN := splAt_step HS hw0
      rw [<- HZ.out] at HN
      clear HS hw0 HZ
      go_wp2_with fail
      refine (streamFrame_at s t z _ hw1 hw3 hs).mono ?_
      rintro e w2 ⟨p, q, b, rfl, HF, hb2⟩
      rw [HF.out] at HN
      have hown2 : w2.ownsRow w'.heap.size 94 3 u5 n acc := ownsRow_below hown hb2
      have hbel2 : Below w'.heap.size w' w2 := hbel.trans (hb2.mono hbel.size)
      have hsz2 := hbel2.size
      clear hown hbel hb2 HF
      go_wp2_with (at_builtin; refine wpList_append_own _ rfl (.tmp 16) (.tmp 24) 29 rfl w'.heap.size 94 i0 (.agg #[.int .i64 0, .int .i64 0, .string ⟨#[]⟩]) 3 32 Tryz.underlying29 hi hz0 hz1 hz2 rfl (by decide) u5 n acc rfl (hown2.alloc _) ⟨w2.heap.size, 0, none⟩ 1 1 [.int .i64 (p : Nat), .int .i64 (q : Nat), .string b] rfl rfl (cell_three_new _ _ _ _ _) (by intro u hu; simp at hu; rcases hu with rfl | rfl | rfl <;> rfl) (by unfold maxLen; omega) (by omega) (by simp; omega) ?_; intro v' w3 hown3 hgrow3 _)
      refine (wholeSize_any _ _ (by simp; omega)).mono ?_
      rintro e w4 ⟨rfl, rfl⟩
      have hbel3 : Below w'.heap.size w' w4 := (hbel2.alloc hsz2 _).grown hgrow3 (by simp; omega) (fun k hk => (hown2.lt k hk).1)
      clear hown2 hbel2 hgrow3
      go_wp2
      go_roundw
      case rel => exact ⟨t + z, n + 1, f, _, Pl.whole (s.extract (t + z) s.size), by omega, by omega, by go_num, rfl, rfl, hown3, by omega, HN, hbel3⟩
      case measure => simp [intOf]; omega
end Go.Proofs.YtcpldcojckhapaaGreat

set_option maxRecDepth 100000
namespace Go.Proofs.YtcpldcojckhapaaGreat
open Go.RowKit
def streamB (m u : Nat) (b : ByteArray) : ByteArray := twoB m ++ ⟨#[0, 0]⟩ ++ twoB (b.size + 1) ++ ⟨#[UInt8.ofNat u]⟩ ++ b
set_option maxRecDepth 100000 in
set_option maxHeartbeats 2000000 in
theorem stream_any (m u : Nat) (b : ByteArray) (w : World) (hm : m < 65536) (hu : u < 256) (hb : b.size <= 253) :
    Calls Tryz.prog 21 #[.int .i64 (m : Nat), .int .i64 (u : Nat), .string b] w fun e w' => e = .returned (.string (streamB m u b)) /\ Below w.heap.size w w' := by
  have c1 : ∀ (W : World) (g : Nat), W.cell? ⟨g, 0, none⟩ = some (.int .u8 (u : Int)) -> (convert 114 9 (.slice (some ⟨g, 0, none⟩) 1 1)).run Tryz.prog W = .ok (.string ⟨#[UInt8.ofNat u]⟩) W := fun W g hc => conv1_at W g u hc
  have wl : IntKind.i64.wrap ((b.size : Int) + 1) = (b.size : Int) + 1 := by rw [IntKind.wrap_i64]; omega
  have wu : IntKind.u8.wrap (u : Int) = (u : Int) := by rw [IntKind.wrap_u8]; omega
  have hlim : ¬ 9223372036854775807 < 7 + b.size := by omega
  have z1 : (twoB m).size = 2 := rfl
  have z2 : (twoB (b.size + 1)).size = 2 := rfl
  go_enter Tryz.func21, Tryz.ntmps21
  go_wp2_with fail
  go_region_law (first
    | (refine step_call rfl 29 #[.tmp 7] #[3] rfl #[.int .i64 (m : Nat)] (by simp [Act.eval, Act.put]) (enter25 _ _) _ (two_step _ m rfl _ hm) ?_; rintro v w1 ⟨rfl, hb1⟩; obtain ⟨hc1, hf1⟩ := bcell hb1; try (have hz1 : w.heap.size < w1.heap.size := (by have := hb1.size; simp at this; omega)))
    | (refine step_call rfl 29 #[.tmp 12] #[3] rfl #[.int .i64 ((b.size : Int) + 1)] (by simp [Act.eval, Act.put]) (enter25 _ _) _ (two_step _ (b.size + 1) (by omega) _ (by omega)) ?_; rintro v w2 ⟨rfl, hb2⟩; obtain ⟨hc2, hf2⟩ := bcell hb2))
  all_goals go_wp2
  all_goals go_ret
  all_goals
    refine ⟨rfl, ?_⟩
    repeat (first | exact Below.refl _ _ | refine Below.drew ?_ | refine bel_alloc ?_ _ | refine bel_then ?_ hb2 | refine bel_then ?_ hb1)
end Go.Proofs.YtcpldcojckhapaaGreat

set_option maxRecDepth 100000
namespace Go.Proofs.YtcpldcojckhapaaGreat
open Go.RowKit
def padI (n : Nat) (d : ByteArray) : List Int := (List.range n).map fun i => ((Pl.byt d i : Nat) : Int)
def secI (st : Nat) (d : ByteArray) : List Int := [(st : Int)] ++ padI 62 d ++ [(st : Int)]
def secB (st : Nat) (d : ByteArray) : ByteArray := bytesOf (secI st d)
theorem secI_len (st : Nat) (d : ByteArray) : (secI st d).length = 64 := by simp [secI, padI]
theorem byteCells_at (d : ByteArray) (m j : Nat) (hj : j < m) (hm : m <= d.size) : (Lib.byteCells (d.data.toList.take m))[j]? = some (.int .u8 (Pl.byt d j : Nat)) := by
  have h2 : j < d.data.toList.length := by rw [Array.length_toList]; show j < d.size; omega
  have e : (d.data.toList.take m)[j]? = some d.data.toList[j] := by rw [List.getElem?_take_of_lt hj, List.getElem?_eq_getElem h2]
  have hb : Pl.byt d j = (d.data.toList[j]).toNat := by
    unfold Pl.byt
    rw [dif_pos (show j < d.size by omega)]
    rfl
  rw [hb]
  unfold Lib.byteCells
  rw [List.getElem?_map, e]
  rfl
theorem run_copy_cut_string {P : Program} (w : World) (dT sT ty elem : TypeId) (g o dLen dCap m : Nat) (s : ByteArray) (cur : Array Value) (t : TypeId)
    (hu : P.underlying dT = some (.slice elem)) (hs : (P.info? elem).map (·.size) = some 1) (hg : w.heap[g]? = some (.cells cur t (0, 0))) (hm : Nat.min s.size dLen = m) (hfit : o + m <= cur.size) :
    (Builtin.copy_ #[dT, sT] ty #[.slice (some ⟨g, o, none⟩) dLen dCap, .string s]).run P w =
      .ok (goInt m) (w.setRow g (cur.toList.take o ++ (Lib.byteCells (s.data.toList.take m) ++ cur.toList.drop (o + m))).toArray) := by
  have hle : m <= s.size := by rw [<- hm]; exact Nat.min_le_left _ _
  have hlen : (Lib.byteCells (s.data.toList.take m)).length = m := by rw [Lib.byteCells_length, List.length_take, <- Lib.size_eq]; omega
  have hst := run_storeCells_at P g o t (Lib.byteCells (s.data.toList.take m)) 0 cur w hg (by rw [hlen]; simpa using hfit) (Lib.byteCells_one _)
  have htk : List.take m (List.map (fun b : UInt8 => Value.int IntKind.u8 (b.toNat : Int)) s.data.toList) = Lib.byteCells (s.data.toList.take m) := by
    rw [<- List.map_take]; rfl
  rw [hlen] at hst
  simp only [Nat.add_zero, List.append_assoc] at hst
  cases hq : P.info? elem with
  | none => simp [hq] at hs
  | some i =>
    simp [Builtin.copy_, run_underlying hu, Builtin.lenOf, Builtin.firstCells, sizeOf, typeInfo, hq, hm]
    rw [htk, hst]
    simp [Result.andThen]
theorem infoU8S : (Tryz.prog.info? 5).map (·.size) = some 1 := by kernel_rfl
theorem cells4 {W : World} {g : Nat} {t : TypeId} {a0 a1 a2 a3 : Value} (h : W.heap[g]? = some (.cells #[a0, a1, a2, a3] t (0, 0))) : W.cell? ⟨g, 0, none⟩ = some a0 /\ W.cell? ⟨g, 1, none⟩ = some a1 /\ W.cell? ⟨g, 2, none⟩ = some a2 /\ W.cell? ⟨g, 3, none⟩ = some a3 :=
  ⟨by rw [cell_of_row _ _ _ _ _ _ h]; rfl, by rw [cell_of_row _ _ _ _ _ _ h]; rfl, by rw [cell_of_row _ _ _ _ _ _ h]; rfl, by rw [cell_of_row _ _ _ _ _ _ h]; rfl⟩
theorem sector_row (d : ByteArray) (st m : Nat) (hm : Nat.min d.size 62 = m) (j : Nat) (hj : j < 64) :
    (((splice ((madeCells #[Value.int .u8 0] 64).setIfInBounds 0 (.int .u8 (st : Nat))).toList 1 (Lib.byteCells (d.data.toList.take m))).toArray.setIfInBounds 63 (.int .u8 (st : Nat)))[j]?) = (secI st d)[j]?.map byteV := by
  have hle : m <= d.size := by rw [<- hm]; exact Nat.min_le_left _ _
  have hle2 : m <= 62 := by rw [<- hm]; exact Nat.min_le_right _ _
  have hlen : (Lib.byteCells (d.data.toList.take m)).length = m := by rw [Lib.byteCells_length, List.length_take, <- Lib.size_eq]; omega
  have hz : ((madeCells #[Value.int .u8 0] 64).setIfInBounds 0 (.int .u8 (st : Nat))).toList.length = 64 := by simp [size_madeCells]
  have hsl : (splice ((madeCells #[Value.int .u8 0] 64).setIfInBounds 0 (.int .u8 (st : Nat))).toList 1 (Lib.byteCells (d.data.toList.take m))).length = 64 := by rw [length_splice _ _ _ (by rw [hz, hlen]; omega), hz]
  rw [Array.getElem?_setIfInBounds]
  by_cases h63 : j = 63
  . subst h63
    rw [if_pos rfl, if_pos (by rw [List.size_toArray, hsl]; omega)]
    simp [secI, padI, byteV]
  . rw [if_neg (by omega), List.getElem?_toArray]
    unfold splice
    by_cases h0 : j = 0
    . subst h0
      rw [List.getElem?_append_left (by rw [List.length_take, hz]; omega), List.getElem?_take_of_lt (by omega), Array.getElem?_toList, Array.getElem?_setIfInBounds]
      simp [size_madeCells, secI, byteV]
    . have hs2 : (secI st d)[j]? = some ((Pl.byt d (j - 1) : Nat) : Int) := by
        unfold secI
        rw [List.append_assoc, List.getElem?_append_right (by simp; omega), List.getElem?_append_left (by simp [padI]; omega)]
        simp [padI, show j - 1 < 62 by omega]
      rw [hs2, List.getElem?_append_right (by rw [List.length_take, hz]; omega), List.length_take, hz]
      by_cases hjm : j - 1 < m
      . rw [List.getElem?_append_left (by rw [hlen]; omega), show j - min 1 64 = j - 1 by omega, byteCells_at d m (j - 1) hjm hle]
        rfl
      . have hby : Pl.byt d (j - 1) = 0 := Pl.byt_end d (j - 1) (by
          have := hm
          rcases Nat.le_total d.size 62 with h | h
          . rw [show Nat.min d.size 62 = d.size from Nat.min_eq_left h] at this; omega
          . rw [show Nat.min d.size 62 = 62 from Nat.min_eq_right h] at this; omega)
        rw [List.getElem?_append_right (by rw [hlen]; omega), hlen, List.getElem?_drop, Array.getElem?_toList, hby, Array.getElem?_setIfInBounds, if_neg (by omega), madeBytes_at 64 _ (by omega)]
        rfl
set_option maxRecDepth 100000 in
set_option maxHeartbeats 1000000 in
theorem secWrite_any (S sec lat i st : Nat) (b2 b3 : Value) (d : ByteArray) (w : World) (hS : w.heap[S]? = some (.cells #[.int .i64 (sec : Nat), b2, b3] 155 (0, 0))) (hsec : sec <= 100) (hlat : lat <= 100) (hi : i <= 100) (_hst : st < 256) :
    Calls Tryz.prog 85 #[.pointer (some ⟨S, 0, none⟩), .int .i64 (lat : Nat), .int .i64 (i : Nat), .string d, .int .u8 (st : Nat)] w fun e w' => e = .returned (.agg #[.int .u8 0, .int .i64 (lat * sec + i : Nat), .int .i64 0, .string (secB st d)]) /\ Below w.heap.size w w' := by
  obtain ⟨m, hm⟩ : ∃ m, Nat.min d.size 62 = m := ⟨_, rfl⟩
  have hle2 : m <= 62 := by rw [<- hm]; exact Nat.min_le_right _ _
  have hsl := lt_of_block hS
  have hmk : ∀ W : World, (Instr.makeSlice 114 (.int .i64 64) (.int .i64 64)).run Tryz.prog W = .ok (.slice (some ⟨W.heap.size, 0, none⟩) 64 64) (W.alloc (.cells (madeCells #[.int .u8 0] 64) 5)) := fun W => made_bytesQ 64 (by omega) W
  obtain ⟨M, hM⟩ : ∃ M, M = madeCells #[Value.int .u8 0] 64 := ⟨_, rfl⟩
  have hMs : M.size = 64 := by rw [hM, size_madeCells]
  rw [<- hM] at hmk
  have hM0 : M[0]? = some (.int .u8 0) := by rw [hM]; exact madeBytes_at 64 0 (by omega)
  have HM := hideF hM
  clear hM
  obtain ⟨M1, hM1⟩ : ∃ M1, M1 = M.setIfInBounds 0 (.int .u8 (st : Nat)) := ⟨_, rfl⟩
  obtain ⟨Z, hZ⟩ : ∃ Z, Z = (w.alloc (.cells #[.int .u8 0, .int .i64 0, .int .i64 0, .string ⟨#[]⟩] 77)).alloc (.cells M1 5) := ⟨_, rfl⟩
  have hZb : Below w.heap.size w Z := by rw [hZ]; exact bel_alloc (bel_alloc (Below.refl _ _) _) _
  have hZg : Z.heap[w.heap.size + 1]? = some (.cells M1 5 (0, 0)) := by
    rw [hZ]
    have := heap_alloc_new (w.alloc (.cells #[.int .u8 0, .int .i64 0, .int .i64 0, .string ⟨#[]⟩] 77)) (.cells M1 5)
    simpa using this
  have hZa : Z.heap[w.heap.size]? = some (.cells #[.int .u8 0, .int .i64 0, .int .i64 0, .string ⟨#[]⟩] 77 (0, 0)) := by
    rw [hZ, heap_alloc_old _ _ (by simp)]; exact heap_alloc_new w _
  obtain ⟨w2, hcp, hg2, hb2⟩ : ∃ w2, (Builtin.copy_ #[114, 9] 3 #[.slice (some ⟨w.heap.size + 1, 1, none⟩) 62 63, .string d]).run Tryz.prog Z = .ok (goInt m) w2 /\ w2.heap[w.heap.size + 1]? = some (.cells (splice M1.toList 1 (Lib.byteCells (d.data.toList.take m))).toArray 5 (0, 0)) /\ Below (w.heap.size + 1) Z w2 := by
    refine ⟨_, run_copy_cut_string (P := Tryz.prog) Z 114 9 3 5 (w.heap.size + 1) 1 62 63 m d M1 5 Tryz.underlying114 infoU8S hZg hm (by rw [hM1, Array.size_setIfInBounds, hMs]; omega), ?_, below_setRow (Below.refl _ _) (Nat.le_refl _) _⟩
    rw [setRow_heap Z _ M1 _ 5 (0, 0) hZg]
    have hlen : (Lib.byteCells (d.data.toList.take m)).length = m := by rw [Lib.byteCells_length, List.length_take, <- Lib.size_eq]; have : m <= d.size := (by rw [<- hm]; exact Nat.min_le_left _ _); omega
    unfold splice
    rw [hlen]
  rw [hZ, hM1] at hcp
  have hrow : ∀ j, j < 64 -> ((splice M1.toList 1 (Lib.byteCells (d.data.toList.take m))).toArray.setIfInBounds 63 (.int .u8 (st : Nat)))[j]? = (secI st d)[j]?.map byteV := fun j hj => by
    rw [hM1, HM.out]; exact sector_row d st m hm j hj
  have hwb : Below w.heap.size w w2 := hZb.trans (hb2.mono (by omega))
  have hact := (hb2.block w.heap.size (by omega)).trans hZa
  have hS2 := (hwb.block S hsl).trans hS
  have c63 : ∃ v63, w2.cell? ⟨w.heap.size + 1, 63, none⟩ = some v63 := by
    rw [cell_of_row _ _ _ _ _ _ hg2, List.getElem?_toArray]
    have : 63 < (splice M1.toList 1 (Lib.byteCells (d.data.toList.take m))).length := by
      have hlen : (Lib.byteCells (d.data.toList.take m)).length = m := by rw [Lib.byteCells_length, List.length_take, <- Lib.size_eq]; have : m <= d.size := (by rw [<- hm]; exact Nat.min_le_left _ _); omega
      rw [length_splice _ _ _ (by rw [hlen, Array.length_toList, hM1, Array.size_setIfInBounds, hMs]; omega), Array.length_toList, hM1, Array.size_setIfInBounds, hMs]; omega
    exact ⟨_, List.getElem?_eq_getElem this⟩
  obtain ⟨v63, c63⟩ := c63
  have f63 : w2.frozen? ⟨w.heap.size + 1, 63, none⟩ = false := frozen_of_row _ _ _ _ _ hg2
  have hcv : ∀ k, (convert 114 9 (.slice (some ⟨w.heap.size + 1, 0, none⟩) 64 64)).run Tryz.prog ((w2.setCell ⟨w.heap.size + 1, 63, none⟩ (.int .u8 (st : Nat))).drewN k) = .ok (.string (secB st d)) ((w2.setCell ⟨w.heap.size + 1, 63, none⟩ (.int .u8 (st : Nat))).drewN k) := fun k => 
    conv_row _ (w.heap.size + 1) 64 64 (secI st d) (secI_len st d) (fun j x hj => by
      have hj' : j < 64 := by rw [<- secI_len st d]; exact (List.getElem?_eq_some_iff.1 hj).1
      have hh := heap_setCell_same w2 (w.heap.size + 1) 63 _ 5 (.int .u8 (st : Nat)) hg2
      have he : ((w2.setCell ⟨w.heap.size + 1, 63, none⟩ (.int .u8 (st : Nat))).drewN k).heap = (w2.setCell ⟨w.heap.size + 1, 63, none⟩ (.int .u8 (st : Nat))).heap := by simp
      rw [<- he] at hh
      rw [cell_of_row _ _ _ _ _ _ hh, hrow j hj', hj]
      rfl)
  obtain ⟨X, hX⟩ : ∃ X, X = w2.setCell ⟨w.heap.size + 1, 63, none⟩ (.int .u8 (st : Nat)) := ⟨_, rfl⟩
  have hcv1 : (convert 114 9 (.slice (some ⟨w.heap.size + 1, 0, none⟩) 64 64)).run Tryz.prog X.drew = .ok (.string (secB st d)) X.drew := by rw [hX]; exact hcv 1
  have hXb : Below w.heap.size w X := by rw [hX]; exact hwb.setCell (by simp) _
  have hXa : X.heap[w.heap.size]? = some (.cells #[.int .u8 0, .int .i64 0, .int .i64 0, .string ⟨#[]⟩] 77 (0, 0)) := by rw [hX, heap_setCell_other _ _ _ _ (by simp)]; exact hact
  have hXS := (hXb.block S hsl).trans hS
  have d0 : X.cell? ⟨S, 0, none⟩ = some (.int .i64 (sec : Nat)) := by rw [cell_of_row _ _ _ _ _ _ hXS]; rfl
  obtain ⟨a0, a1, a2, a3⟩ := cells4 hXa
  have af := fun j => frozen_of_row X w.heap.size j _ _ hXa
  have HB2 := hideF hXb
  have hlim := Nat.mul_le_mul hlat hsec
  have e2 : wrap64 (wrap64 ((lat : Int) * (sec : Int)) + (i : Int)) = (lat : Int) * (sec : Int) + (i : Int) := by
    obtain ⟨p, hp, hpl⟩ : ∃ p : Nat, (lat : Int) * (sec : Int) = (p : Nat) /\ p <= 10000 := ⟨lat * sec, (Int.natCast_mul _ _).symm, hlim⟩
    have e1 : ∀ q : Nat, q <= 20000 -> wrap64 (q : Int) = q := fun q hq => by unfold wrap64; omega
    rw [hp, e1 p (by omega), <- Int.natCast_add, e1 (p + i) (by omega)]
  have E2 := hideF e2
  clear e2 hlim
  clear hM1 hZ hZb hZg hZa hg2 hb2 hrow hact hS2 hS hwb hcv hXb hXa hXS
  go_enter Tryz.func85, Tryz.ntmps85
  go_wp2_with fail
  rw [<- hX]
  clear hX
  go_region
  go_wp2
  refine bodyPost_ret (v := .agg #[.int .u8 0, .int .i64 (lat * sec + i : Nat), .int .i64 0, .string (secB st d)]) (by simp [results, Tryz.results85, go_sem, a0, a1, a2, a3, E2.out]) rfl ⟨rfl, ?_⟩
  exact ((((HB2.out.setCell (Nat.le_refl _) _).setCell (Nat.le_refl _) _).setCell (Nat.le_refl _) _).setCell (Nat.le_refl _) _).drew
end Go.Proofs.YtcpldcojckhapaaGreat

set_option maxRecDepth 100000
namespace Go.Proofs.YtcpldcojckhapaaGreat
open Go.RowKit
def saveW (sec lat st : Nat) (d : ByteArray) (i : Nat) : Int × Int × Int × ByteArray := (0, (lat * sec + i : Nat), 0, secB st (d.extract (i * 62) d.size))
def saveA (sec lat st : Nat) (d : ByteArray) : List (Int × Int × Int × ByteArray) := (List.range sec).map (saveW sec lat st d) ++ [(1, 0, 0, ⟨#[]⟩)]
theorem enter84 (x : Value) (w : World) : (callFunc 83 #[x]).run Tryz.prog w = .ok (.enter 83 #[x]) w := by kernel_rfl
theorem enter85 (x : Value) (w : World) : (callFunc 84 #[x]).run Tryz.prog w = .ok (.enter 84 #[x]) w := by kernel_rfl
theorem enter86 (x y z u v : Value) (w : World) : (callFunc 85 #[x, y, z, u, v]).run Tryz.prog w = .ok (.enter 85 #[x, y, z, u, v]) w := by kernel_rfl
theorem other_step (n m : Nat) (w : World) (hn : n <= 1) (hm : m = (n + 1) % 2) :
    Calls Tryz.prog 83 #[.int .i64 (n : Nat)] w fun e w' => ∃ v, e = .returned v /\ (v = .int .i64 (m : Nat) /\ w' = w) :=
  (other_at n m hm w (by omega)).mono fun _ _ h => ⟨_, h.1, rfl, h.2⟩
theorem next_step (n m : Nat) (w : World) (hn : n <= 3) (hm : m = n % 3 + 1) :
    Calls Tryz.prog 84 #[.int .u8 (n : Nat)] w fun e w' => ∃ v, e = .returned v /\ (v = .int .u8 (m : Nat) /\ w' = w) :=
  (next_at n m hm w (by omega)).mono fun _ _ h => ⟨_, h.1, rfl, h.2⟩
theorem secWrite_step (S sec lat i st : Nat) (b2 b3 : Value) (d : ByteArray) (w : World) (hS : w.heap[S]? = some (.cells #[.int .i64 (sec : Nat), b2, b3] 155 (0, 0))) (hsec : sec <= 100) (hlat : lat <= 100) (hi : i <= 100) (hst : st < 256) :
    Calls Tryz.prog 85 #[.pointer (some ⟨S, 0, none⟩), .int .i64 (lat : Nat), .int .i64 (i : Nat), .string d, .int .u8 (st : Nat)] w fun e w' => ∃ v, e = .returned v /\ (v = .agg #[.int .u8 0, .int .i64 (lat * sec + i : Nat), .int .i64 0, .string (secB st d)] /\ Below w.heap.size w w') :=
  (secWrite_any S sec lat i st b2 b3 d w hS hsec hlat hi hst).mono fun _ _ h => ⟨_, h.1, rfl, h.2⟩
theorem cells3f {W : World} {g : Nat} {t : TypeId} {a0 a1 a2 : Value} (h : W.heap[g]? = some (.cells #[a0, a1, a2] t (0, 0))) : W.cell? ⟨g, 0, none⟩ = some a0 /\ W.cell? ⟨g, 1, none⟩ = some a1 /\ W.cell? ⟨g, 2, none⟩ = some a2 /\ ∀ j, W.frozen? ⟨g, j, none⟩ = false :=
  ⟨by rw [cell_of_row _ _ _ _ _ _ h]; rfl, by rw [cell_of_row _ _ _ _ _ _ h]; rfl, by rw [cell_of_row _ _ _ _ _ _ h]; rfl, fun j => frozen_of_row _ _ _ _ _ h⟩
theorem Chg1.grown {g : Nat} {w w' w2 : World} {row : Option Nat} (h : Chg1 g w w') (hg : w'.grownBy w2 row) (hr : ∀ k, row = some k -> w.heap.size <= k) : Chg1 g w w2 :=
  ⟨hg.os.trans h.os, hg.tape.trans h.tape, hg.output.trans h.output, Nat.le_trans h.size hg.size, fun k hk hne => (hg.block k (Nat.lt_of_lt_of_le hk h.size) (fun e => by have := hr k e.symm; omega)).trans (h.block k hk hne)⟩
theorem saveW_succ (sec lat st q : Nat) (d : ByteArray) : ((List.range (q + 1)).map (saveW sec lat st d)).flatMap encA = ((List.range q).map (saveW sec lat st d)).flatMap encA ++ [.int .u8 0, .int .i64 (lat * sec + q : Nat), .int .i64 0, .string (secB st (d.extract (q * 62) d.size))] := by
  rw [List.range_succ, List.map_append, List.flatMap_append]; rfl
set_option maxRecDepth 100000 in
set_option maxHeartbeats 2000000 in
theorem save_any (S sec lat st lat' st' : Nat) (data : ByteArray) (w : World) (hS : w.heap[S]? = some (.cells #[.int .i64 (sec : Nat), .int .i64 (lat : Nat), .int .u8 (st : Nat)] 155 (0, 0))) (hsec : sec <= 64) (hd : ∀ i, i < sec -> i * 62 <= data.size) (_hds : data.size <= 10000)
    (hlat : lat <= 1) (hst : st <= 3) (hl' : lat' = (lat + 1) % 2) (hs' : st' = st % 3 + 1) :
    Calls Tryz.prog 58 #[.pointer (some ⟨S, 0, none⟩), .string data] w fun e w' => ∃ v, e = .returned v /\ w'.ownsRow w.heap.size 77 4 v (sec + 1) ((saveA sec lat' st' data).flatMap encA) /\
      w'.heap[S]? = some (.cells #[.int .i64 (sec : Nat), .int .i64 (lat' : Nat), .int .u8 (st' : Nat)] 155 (0, 0)) /\ Chg1 S w w' := by
  obtain ⟨i0, hi, hz0, hz1, hz2⟩ := info_parts Tryz.infoEA
  have hsl := lt_of_block hS
  obtain ⟨c0, c1, c2, cf⟩ := cells3f hS
  have b1 : lat' <= 1 := by omega
  have b2 : st' <= 3 := by omega
  have HL := hideF hl'
  have HT := hideF hs'
  have HS := hideF hS
  have HD := hideF hd
  clear hl' hs' hS hd
  go_enter Tryz.func58, Tryz.ntmps58
  go_wp2_with fail
  go_region_law (first
    | (refine step_call rfl 83 #[.tmp 12] #[3] rfl #[.int .i64 (lat : Nat)] (by simp [Act.eval]) (enter84 _ _) _ (other_step lat lat' _ hlat HL.out) ?_; rintro v w1 ⟨rfl, rfl⟩)
    | (refine step_call rfl 84 #[.tmp 17] #[5] rfl #[.int .u8 (st : Nat)] (by simp [Act.eval]) (enter85 _ _) _ (next_step st st' _ hst HT.out) ?_; rintro v w1 ⟨rfl, rfl⟩))
  all_goals
    obtain ⟨X, hX⟩ : ∃ X, X = ((w.setCell ⟨S, 1, none⟩ (.int .i64 (lat' : Nat))).setCell ⟨S, 2, none⟩ (.int .u8 (st' : Nat))).drew := ⟨_, rfl⟩
    rw [<- hX]
    have hXS : X.heap[S]? = some (.cells #[.int .i64 (sec : Nat), .int .i64 (lat' : Nat), .int .u8 (st' : Nat)] 155 (0, 0)) := by
      rw [hX]
      have h1 := heap_setCell_same w S 1 _ 155 (.int .i64 (lat' : Nat)) HS.out
      have h2 := heap_setCell_same _ S 2 _ 155 (.int .u8 (st' : Nat)) h1
      exact h2
    have hXc : Chg1 S w X := by rw [hX]; exact (((Chg1.refl S w).setCell _ _).setCell _ _).drewN 1
    clear hX
    obtain ⟨x0, x1, x2, xf⟩ := cells3f hXS
    have HXS := hideF hXS
    have HXC := hideF hXc
    clear hXS hXc c0 c1 c2 cf
    go_wp2_with fail
    go_loopw [27, 5] (fun i v wr => ∃ q : Nat, q <= sec /\ i = .int .i64 (q : Nat) /\ wr.ownsRow w.heap.size 77 4 v q (((List.range q).map (saveW sec lat' st' data)).flatMap encA) /\ wr.heap[S]? = some (.cells #[.int .i64 (sec : Nat), .int .i64 (lat' : Nat), .int .u8 (st' : Nat)] 155 (0, 0)) /\ Chg1 S w wr) (fun i _ _ => sec - (intOf i).toNat)
    case atStart => exact ⟨0, by omega, rfl, World.ownsRow_nil _ _ _ _, HXS.out, HXC.out⟩
    case round =>
      obtain ⟨q, hq, rfl, hown, hst, hch⟩ := hrel
      have hsb := hch.size
      by_cases hlt : q < sec
      . have hqd := HD.out q hlt
        obtain ⟨y0, y1, y2, yf⟩ := cells3f hst
        have HST := hideF hst
        have HCH := hideF hch
        have HOW := hideF hown
        have HOWd : Hid (wr.drew.ownsRow w.heap.size 77 4 u5 q (((List.range q).map (saveW sec lat' st' data)).flatMap encA)) := own_same hown (fun g _ => rfl)
        have e1 : IntKind.i64.wrap ((q : Int) * 62) = (q : Int) * 62 := by rw [IntKind.wrap_i64]; omega
        have e2 : ((q : Int) * 62).toNat = q * 62 := by omega
        have e3 : (0 : Int) <= (q : Int) * 62 := by omega
        have e4 : (q : Int) * 62 <= (data.size : Int) := by omega
        clear hst hch hown
        go_wp2_with fail
        go_region_law (first
          | (refine step_call rfl 85 #[.tmp 31, .tmp 35, .tmp 36, .tmp 40, .tmp 44] #[106, 3, 3, 9, 5] rfl #[.pointer (some ⟨S, 0, none⟩), .int .i64 (lat' : Nat), .int .i64 (q : Nat), .string (data.extract (q * 62) data.size), .int .u8 (st' : Nat)] (by simp [Act.eval]) (enter86 _ _ _ _ _ _) _ (secWrite_step S sec lat' q st' _ _ (data.extract (q * 62) data.size) _ HST.out (by omega) (by omega) (by omega) (by omega)) ?_; rintro v w1 ⟨rfl, hb0⟩)
          | (refine step_append_own rfl (.tmp 30) (.tmp 46) 31 rfl w.heap.size 77 i0 _ 4 40 Tryz.underlying31 hi hz0 hz1 hz2 rfl (by decide) u5 q _ rfl ((ownsRow_below HOWd.out hb0).alloc _) ⟨w1.heap.size, 0, none⟩ 1 1 [.int .u8 0, .int .i64 (lat' * sec + q : Nat), .int .i64 0, .string (secB st' (data.extract (q * 62) data.size))] rfl rfl (cell_four_new _ _ _ _ _ _) (by intro u hu; simp at hu; rcases hu with rfl | rfl | rfl | rfl <;> rfl) (by unfold maxLen; omega) (by omega) (by have := hb0.size; simp at this ⊢; omega) ?_; intro v' w3 hown3 hgrow3))
        all_goals
          have hb1 := below_then_drew1 hb0
          have hS1 := (hb1.block S (by omega)).trans HST.out
          have HN : Hid (wr.heap.size <= w1.heap.size) := hb1.size
          have HC1 := hideF (((HCH.out.then_below hb1).alloc (.cells #[.int .u8 0, .int .i64 (lat' * sec + q : Nat), .int .i64 0, .string (secB st' (data.extract (q * 62) data.size))] 77)).grown hgrow3 (fun k hk => (HOW.out.lt k hk).1))
          have HS1 := hideF ((hgrow3.block S (by have := lt_of_block hS1; simp; omega) (fun e => by have := (HOW.out.lt S e.symm).1; omega)).trans ((heap_alloc_old w1 _ (lt_of_block hS1)).trans hS1))
          clear hS1 hb1 hb0 hgrow3 y0 y1 y2 yf
          go_wp2
          go_roundw
          case rel =>
            refine ⟨q + 1, by omega, by go_num, ?_, HS1.out, HC1.out⟩
            rw [saveW_succ]; exact hown3
          case measure => simp [intOf]; omega
      . obtain rfl : q = sec := by omega
        have HST := hideF hst
        have HCH := hideF hch
        have HOW := hideF hown
        clear hst hch hown
        go_wp2_with (at_builtin; refine wpList_append_own _ rfl (.tmp 49) (.tmp 51) 31 rfl w.heap.size 77 i0 _ 4 40 Tryz.underlying31 hi hz0 hz1 hz2 rfl (by decide) u5 q _ rfl (HOW.out.alloc _) ⟨wr.heap.size, 0, none⟩ 1 1 [.int .u8 1, .int .i64 0, .int .i64 0, .string ⟨#[]⟩] rfl rfl (cell_four_new _ _ _ _ _ _) (by intro u hu; simp at hu; rcases hu with rfl | rfl | rfl | rfl <;> rfl) (by unfold maxLen; omega) (by omega) (by simp; omega) ?_; intro v' w3 hown3 hgrow3 _)
        go_ret
        refine ⟨_, rfl, ?_, ?_, (HCH.out.alloc _).grown hgrow3 (fun k hk => (HOW.out.lt k hk).1)⟩
        . unfold saveA; rw [List.flatMap_append]; exact hown3
        . exact (hgrow3.block S (by simp; omega) (fun e => by have := (HOW.out.lt S e.symm).1; omega)).trans ((heap_alloc_old wr _ (by omega)).trans HST.out)
end Go.Proofs.YtcpldcojckhapaaGreat

set_option maxRecDepth 100000
namespace Go.Proofs.YtcpldcojckhapaaGreat
open Go.RowKit
theorem streamB_words (m u : Nat) (b : ByteArray) : wordsB [m, 0, b.size + 1] ++ (⟨#[UInt8.ofNat u]⟩ ++ b) = streamB m u b := by
  apply ByteArray.ext
  apply Array.toList_inj.1
  simp [streamB, wordsB, bytesOf, wordsI, twoB]
  refine ⟨?_, ?_, ?_, ?_⟩ <;> congr 1 <;> omega
set_option maxRecDepth 100000 in
set_option maxHeartbeats 1000000 in
theorem framed_stream (L i n m u : Nat) (b : ByteArray) (ln : Nat -> Ln) (w : World) (hG : Grid w L 116 n 3 (fun a j => lnc (ln a) j)) (hi : i < n) (hk : (ln i).kind = 0) (hm : m < 65536) (hu : u < 256) (hb : b.size <= 253) :
    Calls Tryz.prog 82 #[.pointer (some ⟨L, i * 3, none⟩), .agg #[.int .i64 (m : Nat), .int .i64 (u : Nat), .string b]] w fun e w' => e = .returned (.string (streamB m u b)) /\ Below w.heap.size w w' := by
  have c0 : w.cell? ⟨L, i * 3, none⟩ = some (.int .i64 0) := by have := hG.cell hi (j := 0) (by omega); rw [Nat.add_zero] at this; rw [this]; simp [lnc, hk]
  have hLl := hG.lt
  have c1 : ∀ (W : World) (g : Nat), W.cell? ⟨g, 0, none⟩ = some (.int .u8 (u : Int)) -> (convert 114 9 (.slice (some ⟨g, 0, none⟩) 1 1)).run Tryz.prog W = .ok (.string ⟨#[UInt8.ofNat u]⟩) W := fun W g hc => conv1_at W g u hc
  have wu : IntKind.u8.wrap (u : Int) = (u : Int) := by rw [IntKind.wrap_u8]; omega
  have hlim : ¬ 9223372036854775807 < 1 + b.size := by omega
  have HE := hideF (streamB_words m u b)
  have hzw : (wordsB [m, 0, b.size + 1]).size = 6 := by rfl
  have z1 : ((⟨#[UInt8.ofNat u]⟩ : ByteArray) ++ b).size = 1 + b.size := by rw [ByteArray.size_append]; rfl
  have HZW := hideF hzw
  obtain ⟨X, hX⟩ : ∃ X, X = ((w.alloc (.cells #[.int .i64 (m : Nat), .int .i64 (u : Nat), .string b] 94)).alloc (.cells #[.int .u8 (u : Nat)] 5)).alloc (.cells #[.int .i64 (m : Nat), .int .i64 0, .int .i64 (1 + (b.size : Int))] 3) := ⟨_, rfl⟩
  have hXg : X.heap[w.heap.size + 1 + 1]? = some (.cells #[.int .i64 (m : Nat), .int .i64 0, .int .i64 (1 + (b.size : Int))] 3 (0, 0)) := by
    rw [hX]
    have := heap_alloc_new ((w.alloc (.cells #[.int .i64 (m : Nat), .int .i64 (u : Nat), .string b] 94)).alloc (.cells #[.int .u8 (u : Nat)] 5)) (.cells #[.int .i64 (m : Nat), .int .i64 0, .int .i64 (1 + (b.size : Int))] 3)
    simpa using this
  have HXb : Hid (Below w.heap.size w X) := by rw [hX]; exact bel_alloc (bel_alloc (bel_alloc (Below.refl w.heap.size w) _) _) _
  have HXg := hideF hXg
  have hXl := lt_of_block hXg
  clear hG hk hXg
  go_enter Tryz.func82, Tryz.ntmps82
  go_wp2_with fail
  rw [<- hX]
  clear hX
  refine (words_any [m, 0, b.size + 1] 3 3 (w.heap.size + 1 + 1) 0 _ X rfl (by omega) (by intro x hx; simp at hx; rcases hx with rfl | rfl | rfl <;> omega) (by omega) (fun _ => rfl) (fun j x hj => by
    rw [Nat.zero_add, cell_of_row _ _ _ _ _ _ HXg.out]
    match j, hj with
    | 0, hj => simp at hj; subst hj; rfl
    | 1, hj => simp at hj; subst hj; rfl
    | 2, hj => simp at hj; subst hj; simp; omega)).mono ?_
  rintro e w1 ⟨rfl, hb1⟩
  have HB1 := hideF (bel_then HXb.out hb1)
  have hlim2 : ¬ 9223372036854775807 < 6 + (1 + b.size) := by omega
  clear hb1
  have hzw := HZW.out
  go_wp2
  go_ret
  exact ⟨by rw [<- HE.out]; rfl, HB1.out⟩
theorem DevIn.waitIn {w : World} {d L S : Nat} {E : Nat -> Nat} {wv : Value} {D : Dev} (h : DevIn w d L S E wv D) : WaitIn D.base w d (devC D L S E wv) wv D.wait := ⟨h.dev, rfl, rfl, h.wait, h.lo.1⟩
theorem DevIn.ofWait {w w' : World} {d L S : Nat} {E : Nat -> Nat} {wv v : Value} {D : Dev} {l : List (Int × Int × ByteArray)} (h : DevIn w d L S E wv D) (hw : WaitIn D.base w' d ((devC D L S E wv).setIfInBounds 14 v) v l) (hf : FtT D.base (wtT d) w w') : DevIn w' d L S E v { D with wait := l } := by
  obtain ⟨cl, hcl⟩ := h.lines.block
  refine ⟨hw.dev, h.lines.same (hf.keep L cl 116 hcl rfl), fun i hi => ?_, h.inj, (hf.keep S _ 155 h.store rfl).trans h.store, hw.own, h.lo⟩
  obtain ⟨ce, hce⟩ := (h.ent i hi).block
  exact (h.ent i hi).same (hf.keep (E i) ce 3 hce rfl)
theorem DevIn.cells {w : World} {d L S : Nat} {E : Nat -> Nat} {wv : Value} {D : Dev} (h : DevIn w d L S E wv D) :
    w.cell? ⟨d, 0, none⟩ = some (.int .i64 (D.unit : Nat)) /\ w.cell? ⟨d, 1, none⟩ = some (.int .i64 (D.batch : Nat)) /\ w.cell? ⟨d, 2, none⟩ = some (.slice (some ⟨L, 0, none⟩) D.nl D.nl) /\ w.cell? ⟨d, 11, none⟩ = some (.pointer (some ⟨S, 0, none⟩)) /\ w.cell? ⟨d, 12, none⟩ = some (.int .i64 (D.arr : Nat)) /\ w.cell? ⟨d, 13, none⟩ = some (.int .i64 (D.uns : Nat)) /\ w.cell? ⟨d, 14, none⟩ = some wv /\ (∀ j, w.frozen? ⟨d, j, none⟩ = false) /\ d < w.heap.size :=
  ⟨by rw [cell_of_row _ _ _ _ _ _ h.dev]; rfl, by rw [cell_of_row _ _ _ _ _ _ h.dev]; rfl, by rw [cell_of_row _ _ _ _ _ _ h.dev]; rfl, by rw [cell_of_row _ _ _ _ _ _ h.dev]; rfl, by rw [cell_of_row _ _ _ _ _ _ h.dev]; rfl, by rw [cell_of_row _ _ _ _ _ _ h.dev]; rfl, by rw [cell_of_row _ _ _ _ _ _ h.dev]; rfl, fun j => frozen_of_row _ _ _ _ _ h.dev, lt_of_block h.dev⟩
set_option maxRecDepth 100000 in
set_option maxHeartbeats 1000000 in
theorem dansw_now (d L S i : Nat) (E : Nat -> Nat) (wv : Value) (D : Dev) (s : ByteArray) (w : World) (h : DevIn w d L S E wv D) (hu : D.uns = 0) :
    Calls Tryz.prog 81 #[.pointer (some ⟨d, 0, none⟩), .int .i64 (i : Nat), .string s] w fun e w' => ∃ v, e = .returned v /\ w'.ownsRow w.heap.size 77 4 v 1 ([(2, 0, ((i : Nat) : Int), s)].flatMap encA) /\ Below w.heap.size w w' := by
  obtain ⟨c0, c1, c2, c11, c12, c13, c14, cf, hdl⟩ := h.cells
  rw [hu] at c13
  clear h hu
  go_enter Tryz.func81, Tryz.ntmps81
  go_wp2_with fail
  refine (hsend_any ((D.arr : Int), ((i : Nat) : Int), s) _).mono ?_
  rintro e w1 ⟨rfl, hb1⟩
  have HB1 := hideF (bel_then (bel_alloc (Below.refl w.heap.size w) _) hb1)
  have hs1 := HB1.out.size
  clear hb1
  go_wp2
  go_ret
  refine ⟨_, rfl, ?_, bel_alloc HB1.out _⟩
  exact ⟨rfl, .inr ⟨w1.heap.size, 1, _, rfl, hs1, heap_alloc_new w1 _, Nat.le_refl _, by unfold maxLen; omega, rfl, rfl⟩⟩
set_option maxRecDepth 100000 in
set_option maxHeartbeats 1000000 in
theorem dansw_wait (d L S i : Nat) (E : Nat -> Nat) (wv : Value) (D : Dev) (s : ByteArray) (w : World) (h : DevIn w d L S E wv D) (hu : 0 < D.uns) (hl : D.wait.length <= 1000) (hx : ∀ y ∈ D.wait, y.1 < (D.arr : Int)) :
    Calls Tryz.prog 81 #[.pointer (some ⟨d, 0, none⟩), .int .i64 (i : Nat), .string s] w fun e w' => ∃ v', e = .returned (.slice none 0 0) /\ DevIn w' d L S E v' { D with wait := D.wait ++ [((D.arr : Int), ((i : Nat) : Int), s)] } /\ FtT D.base (wtT d) w w' := by
  obtain ⟨c0, c1, c2, c11, c12, c13, c14, cf, hdl⟩ := h.cells
  have hu' : (0 : Int) < (D.uns : Int) := by omega
  obtain ⟨X, hX⟩ : ∃ X, X = w.alloc (.cells #[.int .i64 (D.arr : Nat), .int .i64 (i : Nat), .string s] 163) := ⟨_, rfl⟩
  have hXb : Below w.heap.size w X := by rw [hX]; exact bel_alloc (Below.refl _ _) _
  have hXg : X.heap[w.heap.size]? = some (.cells #[.int .i64 (D.arr : Nat), .int .i64 (i : Nat), .string s] 163 (0, 0)) := by rw [hX]; exact heap_alloc_new w _
  obtain ⟨x0, x1, x2, xf⟩ := cells3f hXg
  have HXb := hideF hXb
  have HX := hideF hx
  have HH := hideF h
  have HW := hideF ((h.belowQ hXb).drewN 1).waitIn
  clear h hx hXb hXg
  go_enter Tryz.func81, Tryz.ntmps81
  go_wp2_with fail
  rw [<- hX]
  clear hX
  go_region_with (go_at_call 117; refine (hadd_any d _ wv D.wait ((D.arr : Int), ((i : Nat) : Int), s) _ hl HW.out HX.out).mono ?_; rintro e w1 ⟨v', rfl, hw1, hf1⟩)
  all_goals
    have HD := hideF (DevIn.ofWait ((HH.out.belowQ HXb.out).drewN 1) hw1 hf1)
    have HF := hideF (((FtT.of_below (B := D.base) (wtT d) HXb.out).drewN 1).trans hf1)
    clear hw1 hf1
    go_wp2
    go_ret
    exact ⟨_, rfl, HD.out, HF.out⟩
end Go.Proofs.YtcpldcojckhapaaGreat
