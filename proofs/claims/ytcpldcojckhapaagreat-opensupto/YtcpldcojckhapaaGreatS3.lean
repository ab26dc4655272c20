/-
  
-/
import Derived.Test.YtcpldcojckhapaaGreatJ38
import Derived.Deep.CutRange
set_option maxRecDepth 100000
namespace Go.Proofs.YtcpldcojckhapaaGreat
open Go.RowKit
structure OpV where
  (kind on a b c cut bits tear at' again : Int)
  s : ByteArray
  (g0 g1 g2 g3 g4 g5 g6 g7 g8 : Value)
def opA (o : OpV) : Array Value := #[.int .i64 o.kind, .int .i64 o.on, .int .i64 o.a, .int .i64 o.b, .int .i64 o.c, .string o.s, o.g0, o.g1, o.g2, o.g3, o.g4, o.g5, o.g6, o.g7, o.g8, .int .i64 o.cut, .int .i64 o.bits, .int .i64 o.tear, .int .i64 o.at', .int .i64 o.again]
def In64 (x : Int) : Prop := -9223372036854775808 <= x /\ x <= 9223372036854775807
structure OpR (o : OpV) : Prop where
  cut : In64 o.cut
  bits : In64 o.bits
  tear : In64 o.tear
  at' : In64 o.at'
  again : In64 o.again
theorem Lost.skip {f f' : Nat -> ByteArray} {wet : List (Int × Int × Int × ByteArray)} {j : Nat} (h : Lost f (wet.take j) f') : Lost f (wet.take (j + 1)) f' := fun i => by
  rcases h i with g | ⟨a, ha, g⟩
  . exact .inl g
  . exact .inr ⟨a, (List.take_subset_take_left _ (by omega)) ha, g⟩
theorem Lost.put {f f' : Nat -> ByteArray} {nd : Nat} {wet : List (Int × Int × Int × ByteArray)} {j jj t : Nat} {x : ByteArray} (h : Lost f (wet.take j) f') (hw : WetOk nd wet) (ha : wet[j]? = some (0, (jj : Int), 0, x)) (ht : t <= 64) : Lost f (wet.take (j + 1)) (fun i => if i = jj then tornB x (f' jj) t else f' i) := fun i => by
  by_cases e : i = jj
  . subst e
    right
    have hl := (List.getElem?_eq_some_iff.1 ha).1
    have hfj : f' i = f i := by
      rcases h i with g | ⟨b, hb, eb, _⟩
      . exact g
      . obtain ⟨m, hm⟩ := List.getElem?_of_mem hb
        have hmj : m < j := by have := (List.getElem?_eq_some_iff.1 hm).1; simp at this; omega
        rw [List.getElem?_take_of_lt hmj] at hm
        have h1 := (List.getElem?_eq_some_iff.1 hm)
        have h2 := (List.getElem?_eq_some_iff.1 ha)
        have := List.pairwise_iff_getElem.1 hw.one m j h1.1 h2.1 hmj
        rw [h1.2, h2.2] at this
        exact absurd eb this
    refine ⟨(0, (i : Int), 0, x), ?_, rfl, t, ht, by show (if i = i then tornB x (f' i) t else f' i) = tornB x (f i) t; rw [if_pos rfl, hfj]⟩
    rw [take_succ_at _ _ _ ha]
    simp
  . show (if i = jj then tornB x (f' jj) t else f' i) = f i ∨ ∃ a ∈ wet.take (j + 1), a.2.1.toNat = i /\ ∃ t', t' <= 64 /\ (if i = jj then tornB x (f' jj) t else f' i) = tornB a.2.2.2 (f i) t'
    rw [if_neg e]
    exact h.skip i
set_option maxHeartbeats 4000000 in
theorem lost_any (w : World) (B : Nat) (c : Nat -> Nat) (q : Plc) (D : Dev) (s : Ls) (nd : Nat) (o : OpV) (h : RigIn w B c q D s nd) (hnd : 0 < nd /\ nd <= 64) (hw : WetOk nd s.wet) (hsz : ∀ j, j < nd -> (s.dk j).size = 64) (hwl : s.wet.length <= 1000000) (hr : OpR o) :
    Calls Tryz.prog 41 #[.pointer (some ⟨q.g, 0, none⟩), .agg (opA o)] w fun e w' => e = .returned (.tuple #[]) /\ ∃ f' c', Lost s.dk s.wet f' /\ (∀ j, j < nd -> (f' j).size = 64) /\ RigIn w' B c' { q with wt := .slice none 0 0 } D { dk := f', wet := [], least := s.least } nd /\ Agr w c c' /\ Fc c 7 w w' := by
  obtain ⟨X, hX⟩ : ∃ X, X = w.alloc (.cells (opA o) 42) := ⟨_, rfl⟩
  have hXb : Below w.heap.size w X := by rw [hX]; exact bel_alloc (Below.refl _ _) _
  have hXs : X.heap.size = w.heap.size + 1 := by rw [hX]; simp
  have hXg : X.heap[w.heap.size]? = some (.cells (opA o) 42 (0, 0)) := by rw [hX]; exact heap_alloc_new w _
  have x16 : X.cell? ⟨w.heap.size, 16, none⟩ = some (.int .i64 o.bits) := (cell_of_row _ _ _ _ _ _ hXg).trans rfl
  have x17 : X.cell? ⟨w.heap.size, 17, none⟩ = some (.int .i64 o.tear) := (cell_of_row _ _ _ _ _ _ hXg).trans rfl
  have x18 : X.cell? ⟨w.heap.size, 18, none⟩ = some (.int .i64 o.at') := (cell_of_row _ _ _ _ _ _ hXg).trans rfl
  have hRX : RigIn X B (colN w c 9) q D s nd := h.frame (k := 9) (Fc.of_below hXb) (colN_agr w c 9) (by omega)
  obtain ⟨_, _, _, r12, _, rf, hgl⟩ := hRX.cells
  obtain ⟨vw, vk, hvw, _⟩ := own_view hRX.wet
  rw [hvw] at r12
  have HX := hideF hX
  have HXG := hideF hXg
  have HXB := hideF hXb
  have HRX := hideF hRX
  have HVW := hideF hvw
  have HW := hideF hw
  have HSZ := hideF hsz
  obtain ⟨htr, hatr⟩ := (⟨hr.tear, hr.at'⟩ : In64 o.tear /\ In64 o.at')
  unfold In64 at htr hatr
  clear hXb hXg hRX hvw hw hsz h
  unfold opA
  go_enter Tryz.func41, Tryz.ntmps41
  go_upto_region 1 with fail
  have eX : w.alloc (.cells #[.int .i64 o.kind, .int .i64 o.on, .int .i64 o.a, .int .i64 o.b, .int .i64 o.c, .string o.s, o.g0, o.g1, o.g2, o.g3, o.g4, o.g5, o.g6, o.g7, o.g8, .int .i64 o.cut, .int .i64 o.bits, .int .i64 o.tear, .int .i64 o.at', .int .i64 o.again] 42) = X := HX.out.symm
  rw [eX]
  clear eX hX
  go_upto_if 14 with fail
  go_cut [4, 5] from 9 to 29 (fun t u wx => (∃ T : Int, t = .int .i64 T) /\ wx = X)
  case first =>
    have hz1 : ¬ IntKind.i64.wrap ((s.wet.length : Int) + 1) = 0 := by rw [IntKind.wrap_i64]; omega
    have hz2 : ¬ ((s.wet.length : Int) + 1) = 0 := by omega
    by_cases hw0 : 0 < s.wet.length
    . by_cases ht0 : o.tear < 0
      . go_wp2
        go_meet
        exact ⟨⟨_, rfl⟩, rfl⟩
      . go_wp2
        go_meet
        exact ⟨⟨_, rfl⟩, rfl⟩
    . go_wp2
      go_meet
      exact ⟨⟨_, rfl⟩, rfl⟩
  case rest =>
    obtain ⟨⟨T, rfl⟩, rfl⟩ := hcut
    go_upto_if 33 with fail
    go_cut [6] from 32 to 38 (fun u wx => (∃ V : Int, u = .int .i64 V /\ 0 <= V /\ V <= 9223372036854775807) /\ wx = wc)
    case first =>
      by_cases ha0 : o.at' < 0
      . go_wp2
        go_meet
        refine ⟨⟨_, rfl, ?_⟩, rfl⟩
        first | (simp only [wrap64]; omega) | omega
      . go_wp2
        go_meet
        exact ⟨⟨_, rfl, by omega, by omega⟩, rfl⟩
    case rest =>
      obtain ⟨⟨V, rfl, hV0, hV1⟩, hwx⟩ := hcut
      subst hwx
      go_wp2_with fail
      obtain ⟨a, ha⟩ : ∃ a : Nat, V % 65 = (a : Int) := ⟨(V % 65).toNat, by omega⟩
      have ha64 : a <= 64 := by omega
      rw [ha]
      have HA64 := hideF ha64
      clear ha hV0 hV1 x17 x18 htr hatr
      have HST : Hid (∃ (j : Nat) (f' : Nat -> ByteArray) (c1 : Nat -> Nat), Value.int .i64 0 = .int .i64 (j : Nat) /\ j <= s.wet.length /\ Lost s.dk (s.wet.take j) f' /\ (∀ i, i < nd -> (f' i).size = 64) /\ RigIn wc B c1 q D { s with dk := f' } nd /\ Fc c 7 w wc /\ Agr w c c1 /\ wc.heap[w.heap.size]? = some (.cells (opA o) 42 (0, 0)) /\ c1 w.heap.size = 9) := ⟨0, s.dk, colN w c 9, rfl, Nat.zero_le _, fun i => .inl rfl, HSZ.out, HRX.out, Fc.of_below HXB.out, colN_agr w c 9, HXG.out, colN_new w c 9 _ (Nat.le_refl _)⟩
      clear r12 rf hgl x16
      go_loopw [7, 8] (fun jv _ wr => ∃ (j : Nat) (f' : Nat -> ByteArray) (c1 : Nat -> Nat), jv = .int .i64 (j : Nat) /\ j <= s.wet.length /\ Lost s.dk (s.wet.take j) f' /\ (∀ i, i < nd -> (f' i).size = 64) /\ RigIn wr B c1 q D { s with dk := f' } nd /\ Fc c 7 w wr /\ Agr w c c1 /\ wr.heap[w.heap.size]? = some (.cells (opA o) 42 (0, 0)) /\ c1 w.heap.size = 9) (fun jv _ _ => s.wet.length - (intOf jv).toNat)
      case atStart => exact HST.out
      case round =>
        obtain ⟨j, f', c1, rfl, hj, hL, hfz, hR2, hF2, hA2, hbx, hb9⟩ := hrel
        obtain ⟨_, _, e11, e12, _, ef, hgl2⟩ := hR2.cells
        rw [HVW.out] at e12
        have HL := hideF hL
        have HFZ := hideF hfz
        have HR2 := hideF hR2
        have HF2 := hideF hF2
        have HA2 := hideF hA2
        have HBX : Hid (wr.heap[w.heap.size]? = some (.cells (opA o) 42 (0, 0)) /\ c1 w.heap.size = 9) := ⟨hbx, hb9⟩
        by_cases hjl : j < s.wet.length
        . obtain ⟨y, hy⟩ : ∃ y, s.wet[j]? = some y := ⟨_, List.getElem?_eq_getElem hjl⟩
          obtain ⟨jj, x, rfl, hjj, hxs⟩ := HW.out.all y (List.mem_of_getElem? hy)
          obtain ⟨gd2, cap2, hdv2, hgd2, hc72, hdc2, hdf2⟩ := hR2.disk hnd.1
          rw [hdv2] at e11
          have hwet : wr.ownsRow B 77 4 (.slice vw s.wet.length vk) s.wet.length (s.wet.flatMap encA) := by have := hR2.wet; rw [HVW.out] at this; exact this
          obtain ⟨gw, rfl, hgw, w0, w1, w2, w3⟩ := acts_at hwet j _ hy
          have x16 : wr.cell? ⟨w.heap.size, 16, none⟩ = some (.int .i64 o.bits) := (cell_of_row _ _ _ _ _ _ hbx).trans rfl
          have hwsl := lt_of_block hbx
          have hjjI : (jj : Int) < (nd : Int) := by omega
          have hdj : wr.cell? ⟨gd2, jj, none⟩ = some (.string (f' jj)) := hdc2 jj hjj
          have hys := hfz jj hjj
          obtain ⟨X2, hX2⟩ : ∃ X2, X2 = wr.alloc (.cells #[.int .u8 0, .int .i64 (jj : Nat), .int .i64 0, .string x] 77) := ⟨_, rfl⟩
          have hX2b : Below wr.heap.size wr X2 := by rw [hX2]; exact bel_alloc (Below.refl _ _) _
          have hRX2 : RigIn X2 B (colN wr c1 9) q D { s with dk := f' } nd := hR2.frame (k := 9) (Fc.of_below hX2b) (colN_agr wr c1 9) (by omega)
          have HRX2 := hideF hRX2
          have HX2B := hideF hX2b
          have HDV2 := hideF hdv2
          have HY := hideF hy
          have HXS := hideF hxs
          have HYS := hideF hys
          have HJJ := hideF hjj
          have HJL : Hid (j + 1 <= s.wet.length) := hjl
          have HWJ : Hid (wrap64 ((j : Int) + 1) = ((j + 1 : Nat) : Int)) := by show _ = _; simp only [wrap64]; omega
          have HC7 := hideF hc72
          have fin : Hid (∀ (U : World) (xx : ByteArray) (t : Nat), t <= 64 -> xx = tornB x (f' jj) t -> Below (wr.setCell ⟨gd2, jj, none⟩ (.string xx)).heap.size (wr.setCell ⟨gd2, jj, none⟩ (.string xx)) U -> ∃ (j' : Nat) (f2 : Nat -> ByteArray) (c2 : Nat -> Nat), Value.int .i64 ((j + 1 : Nat) : Int) = .int .i64 (j' : Nat) /\ j' <= s.wet.length /\ Lost s.dk (s.wet.take j') f2 /\ (∀ i, i < nd -> (f2 i).size = 64) /\ RigIn U B c2 q D { s with dk := f2 } nd /\ Fc c 7 w U /\ Agr w c c2 /\ U.heap[w.heap.size]? = some (.cells (opA o) 42 (0, 0)) /\ c2 w.heap.size = 9) := fun U xx t ht he hb => by
            obtain ⟨hR3, hF3⟩ := hR2.dkPut (x := xx) hdv2 hjj
            have hFV : Fc c1 7 wr U := hF3.then_below hb
            refine ⟨j + 1, _, c1, rfl, hjl, hL.put HW.out hy ht, fun i hi => ?_, ?_, hF2.trans hFV hA2, hA2, (hFV.keep _ _ _ hbx (.inl (by decide)) (by rw [hb9]; omega)).trans hbx, hb9⟩
            . show (if i = jj then tornB x (f' jj) t else f' i).size = 64
              split
              . exact tornB_size hxs hys ht
              . exact hfz i hi
            . have := hR3.frame (k := 9) (Fc.of_below hb) (Agr.refl _ _) (by omega)
              rw [he] at this
              exact this
          clear hL hfz hR2 hF2 hA2 hbx hb9 hX2b hRX2 hy hwet hdv2 hdc2 hjj
          by_cases hT : (j : Int) = T
          . subst hT
            have haI : (a : Int) <= 64 := by omega
            have hlim : ¬ 9223372036854775807 < (x.extract 0 a).size + ((f' jj).extract a 64).size := by rw [ByteArray.size_extract, ByteArray.size_extract]; omega
            go_wp2_with fail
            go_region
            clear hX2
            go_wp2
            go_roundw
            case rel => 
              have := fin.out _ _ a HA64.out (show x.extract 0 a ++ (f' jj).extract a 64 = tornB x (f' jj) a from rfl) (bel_alloc (Below.refl _ _) (.cells #[.int .u8 0, .int .i64 (jj : Nat), .int .i64 0, .string x] 77)).drew
              first | exact this | (rw [HWJ.out]; exact this)
            case measure => have := HJL.out; first | (rw [HWJ.out]; simp only [intOf]; omega) | (simp only [intOf]; omega)
          . have hT2 : ((j : Int) == T) = false := by simpa using hT
            go_wp2_with fail
            . go_region
              clear hX2
              go_wp2
              go_roundw
              case rel => 
                have := fin.out _ _ 64 (Nat.le_refl _) (tornB_full HXS.out HYS.out).symm (bel_alloc (Below.refl _ _) (.cells #[.int .u8 0, .int .i64 (jj : Nat), .int .i64 0, .string x] 77)).drew
                first | exact this | (rw [HWJ.out]; exact this)
              case measure => have := HJL.out; first | (rw [HWJ.out]; simp only [intOf]; omega) | (simp only [intOf]; omega)
            . rw [<- hX2]
              clear hX2
              go_roundw
              case rel => 
                refine ⟨j + 1, f', colN wr c1 9, by first | rw [HWJ.out] | rfl, HJL.out, HL.out.skip, HFZ.out, HRX2.out, HF2.out.trans (Fc.of_below HX2B.out) HA2.out, HA2.out.trans (colN_agr wr c1 9) HF2.out.size, (HX2B.out.block _ hwsl).trans HBX.out.1, by rw [colN_agr wr c1 9 _ hwsl]; exact HBX.out.2⟩
              case measure => have := HJL.out; first | (rw [HWJ.out]; simp only [intOf]; omega) | (simp only [intOf]; omega)
        . obtain rfl : j = s.wet.length := by omega
          rw [List.take_length] at hL
          obtain ⟨hR3, hF3⟩ := hR2.wetNil
          have HR3 := hideF hR3
          have HF3 := hideF (hF2.trans hF3 hA2)
          have HL2 := hideF hL
          clear hL hfz hR2 hF2 hA2 hbx hb9 hR3 hF3
          go_wp2
          go_end0
          exact ⟨rfl, f', HL2.out, HFZ.out, c1, HR3.out, HA2.out, HF3.out⟩
end Go.Proofs.YtcpldcojckhapaaGreat
