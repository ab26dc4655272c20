/-
  
-/
import Derived.Test.YtcpldcojckhapaaGreatJ29
import Derived.Test.YtcpldcojckhapaaGreatJ20
import Derived.Test.YtcpldcojckhapaaGreatJ28
set_option maxRecDepth 100000
namespace Go.Proofs.YtcpldcojckhapaaGreat
open Go.RowKit
def entC (c h : Nat) (S : ByteArray) (i k : Nat) : Int := if i = 0 then ((if k < c then Pl.bit S 0 k else 0 : Nat) : Int) else if i = 2 then ((if k < h then Pl.wd S ((c + 7) / 8 + 2 * k) else 0 : Nat) : Int) else 0
theorem entC_nought (c h : Nat) (S : ByteArray) (i : Nat) : (Value.int .i64 (if 0 <= i /\ i < 0 + (Pl.bitsL S 0 c).length then (Pl.bitsL S 0 c).getD (i - 0) 0 else 0)) = Value.int .i64 (entC c h S 0 i) := by
  have e : entC c h S 0 i = ((if i < c then Pl.bit S 0 i else 0 : Nat) : Int) := rfl
  rw [e, Pl.bitsL_len, Nat.zero_add, Nat.sub_zero]
  clear e
  by_cases e : i < c
  . rw [if_pos ⟨Nat.zero_le _, e⟩, if_pos e, List.getD_eq_getElem?_getD, Pl.bitsL_at S 0 c i e]; rfl
  . rw [if_neg (fun h => e h.2), if_neg e]; rfl
theorem entC_two (c h : Nat) (S : ByteArray) (i : Nat) : (Value.int .i64 (if 0 <= i /\ i < 0 + (Pl.wordsL (S.extract ((c + 7) / 8) S.size) 0 h).length then (Pl.wordsL (S.extract ((c + 7) / 8) S.size) 0 h).getD (i - 0) 0 else 0)) = Value.int .i64 (entC c h S 2 i) := by
  have e : entC c h S 2 i = ((if i < h then Pl.wd S ((c + 7) / 8 + 2 * i) else 0 : Nat) : Int) := rfl
  rw [e, Pl.wordsL_suffix, Pl.wordsL_len, Nat.zero_add, Nat.sub_zero, Nat.add_zero]
  clear e
  by_cases e : i < h
  . rw [if_pos ⟨Nat.zero_le _, e⟩, if_pos e, List.getD_eq_getElem?_getD, Pl.wordsL_at S _ h i e]; rfl
  . rw [if_neg (fun h => e h.2), if_neg e]; rfl
theorem bitsOf_own (s : ByteArray) (n : Nat) (w : World) (hn : (n + 7) / 8 <= s.size) (hs : n <= 100000) :
    Calls Tryz.prog 98 #[.string s, .int .i64 (n : Nat)] w fun e w' => ∃ v, e = .returned v /\ ∃ ad c, v = .slice ad n c /\ (w'.ownsRow w.heap.size 3 1 (.slice ad n c) n ((Pl.bitsL s 0 n).flatMap encI) /\ Below w.heap.size w w') := by
  refine (pbits_any s n w hn hs).mono ?_
  rintro e w' ⟨v, rfl, hown, hb⟩
  obtain ⟨ad, c, rfl, _⟩ := own_view hown
  exact ⟨_, rfl, ad, c, rfl, hown, hb⟩
set_option maxRecDepth 100000 in
set_option maxHeartbeats 2000000 in
theorem newTables_gen (s0 s1 s2 s3 c h u n k b : Nat) (a : Option Addr) (S : ByteArray) (w : World) (b0 : s0 <= 60) (b1 : s1 <= 60) (b2 : s2 <= 60) (b3 : s3 <= 60) (hc : c <= s0) (hh : h <= s2) (hS : S.size = (c + 7) / 8 + 2 * h) :
    Calls Tryz.prog 65 #[.agg #[.int .i64 (s0 : Nat), .int .i64 (s1 : Nat), .int .i64 (s2 : Nat), .int .i64 (s3 : Nat), .int .i64 (c : Nat), .int .i64 (h : Nat), .int .i64 (u : Nat), .slice a n k, .int .i64 (b : Nat)], .string S] w fun e w' => 
      e = .returned (.agg #[.slice (some ⟨w.heap.size + 3, 0, none⟩) s0 s0, .slice (some ⟨w.heap.size + 4, 0, none⟩) s1 s1, .slice (some ⟨w.heap.size + 5, 0, none⟩) s2 s2, .slice (some ⟨w.heap.size + 6, 0, none⟩) s3 s3, .int .i64 (c : Nat), .int .i64 0, .int .i64 (h : Nat), .int .i64 0]) /\ 
      Grid w' (w.heap.size + 3) 3 s0 1 (fun i _ => .int .i64 (entC c h S 0 i)) /\ Grid w' (w.heap.size + 4) 3 s1 1 (fun _ _ => .int .i64 0) /\ Grid w' (w.heap.size + 5) 3 s2 1 (fun i _ => .int .i64 (entC c h S 2 i)) /\ Grid w' (w.heap.size + 6) 3 s3 1 (fun _ _ => .int .i64 0) /\ Below w.heap.size w w' := by
  obtain ⟨W, hW, hSt⟩ := tabSt_start w s0 s1 s2 s3 c h u b (.slice a n k)
  have HC := hideF hc
  have HSZ := hideF hS
  have hSl : S.size <= 1000 := by omega
  clear hc hS
  have HSt := hideF hSt
  obtain ⟨c0, c1, c2, c3, c4, c5, c6, c7, c8⟩ := cells9 hSt.cfg
  clear hSt
  have hmk : ∀ (W : World) (q : Nat), q < 4 -> (Instr.makeSlice 28 (.int .i64 (szF s0 s1 s2 s3 q : Nat)) (.int .i64 (szF s0 s1 s2 s3 q : Nat))).run Tryz.prog W = .ok (.slice (some ⟨W.heap.size, 0, none⟩) (szF s0 s1 s2 s3 q) (szF s0 s1 s2 s3 q)) (W.alloc (.cells (madeCells #[.int .i64 0] (szF s0 s1 s2 s3 q)) 3)) := fun W q _ => made_ints _ (by have := szF_le s0 s1 s2 s3 q 60 b0 b1 b2 b3; omega) W
  go_enter Tryz.func65, Tryz.ntmps65
  go_wp2_with fail
  rw [<- hW]
  clear hW
  go_loopw [10] (fun i wr => ∃ q : Nat, q <= 4 /\ i = .int .i64 (q : Nat) /\ TabSt w wr s0 s1 s2 s3 q #[.int .i64 (s0 : Nat), .int .i64 (s1 : Nat), .int .i64 (s2 : Nat), .int .i64 (s3 : Nat), .int .i64 (c : Nat), .int .i64 (h : Nat), .int .i64 (u : Nat), .slice a n k, .int .i64 (b : Nat)]) (fun i _ => 4 - (intOf i).toNat)
  case atStart => exact ⟨0, by omega, rfl, HSt.out⟩
  case round =>
    obtain ⟨q, hq, rfl, hst⟩ := hrel
    clear c0 c1 c2 c3 c4 c5 c6 c7 c8 HSt
    by_cases hq4 : q < 4
    . have hx := arr4F s0 s1 s2 s3 q hq4
      have hm := fun W => hmk W q hq4
      clear hmk
      have hsz := hst.size
      have hcl : ∀ o, (wr.alloc o).cell? ⟨w.heap.size + 1 + 1, q, none⟩ = some (tabV w.heap.size s0 s1 s2 s3 q q) := fun o => by have := (hst.tab.alloc o).cell (i := q) (j := 0) (by omega) (by omega); rwa [Nat.mul_one, Nat.add_zero] at this
      have hfz : ∀ o, (wr.alloc o).frozen? ⟨w.heap.size + 1 + 1, q, none⟩ = false := fun o => (hst.tab.alloc o).frozen q
      have HST := hideF (hst.step hq4)
      clear hst
      go_wp2_with fail
      go_roundw
      case rel => exact ⟨q + 1, by omega, by go_num, HST.out⟩
      case measure => simp [intOf]; omega
    . obtain rfl : q = 4 := by omega
      clear hmk hq hq4
      obtain ⟨c0, c1, c2, c3, c4, c5, c6, c7, c8⟩ := cells9 hst.cfg
      have t0 : wr.cell? ⟨w.heap.size + 1 + 1, 0, none⟩ = some (tabV w.heap.size s0 s1 s2 s3 4 0) := hst.tab.cell (i := 0) (j := 0) (by omega) (by omega)
      have t2 : wr.cell? ⟨w.heap.size + 1 + 1, 2, none⟩ = some (tabV w.heap.size s0 s1 s2 s3 4 2) := hst.tab.cell (i := 2) (j := 0) (by omega) (by omega)
      have t4 : wr.cell? ⟨w.heap.size + 1 + 1, 4, none⟩ = some (.int .i64 0) := hst.tab.cell (i := 4) (j := 0) (by omega) (by omega)
      have t6 : wr.cell? ⟨w.heap.size + 1 + 1, 6, none⟩ = some (.int .i64 0) := hst.tab.cell (i := 6) (j := 0) (by omega) (by omega)
      have hfz : ∀ k, wr.frozen? ⟨w.heap.size + 1 + 1, k, none⟩ = false := fun k => hst.tab.frozen k
      have HST := hideF hst
      clear hst
      go_wp2_with fail
      go_region
      go_wp2_with fail
      obtain ⟨X, hX⟩ : ∃ X, X = (wr.setCell ⟨w.heap.size + 1 + 1, 4, none⟩ (.int .i64 (c : Nat))).setCell ⟨w.heap.size + 1 + 1, 6, none⟩ (.int .i64 (h : Nat)) := ⟨_, rfl⟩
      have hXt := tab_keeps HST.out c h
      have hXs : X.heap.size = w.heap.size + 7 := by have := HST.out.size; rw [hX]; simp; omega
      have hXb : Below w.heap.size w X := by rw [hX]; exact (HST.out.bel.setCell (show w.heap.size <= w.heap.size + 1 + 1 by omega) _).setCell (show w.heap.size <= w.heap.size + 1 + 1 by omega) _
      have hXo : ∀ g, g ≠ w.heap.size + 2 -> X.heap[g]? = wr.heap[g]? := fun g hg => by rw [hX, heap_setCell_other _ _ _ _ (by simpa using hg), heap_setCell_other _ _ _ _ (by simpa using hg)]
      rw [<- hX] at hXt ⊢
      clear hX
      have hXc := (hXo w.heap.size (by omega)).trans HST.out.cfg
      have hXe : ∀ i, i < 4 -> Grid X (w.heap.size + 3 + i) 3 (szF s0 s1 s2 s3 i) 1 (fun _ _ => .int .i64 0) := fun i hi => (HST.out.ent i hi).same (hXo _ (by omega))
      have hXr := HST.out.res.same (hXo (w.heap.size + 1) (by omega))
      have HXE := hideF hXe
      have HXT := hideF hXt
      have HXR := hideF hXr
      have HXC := hideF hXc
      have HXB := hideF hXb
      have HXS := hideF hXs
      clear c0 c1 c2 c3 c4 c5 c6 c7 c8 t0 t2 t4 t6 hfz HST hXe hXt hXr hXo hXb hXs
      obtain ⟨c0, c1, c2, c3, c4, c5, c6, c7, c8⟩ := cells9 hXc
      clear hXc
      have t0 : X.cell? ⟨w.heap.size + 1 + 1, 0, none⟩ = some (.slice (some ⟨w.heap.size + 3, 0, none⟩) s0 s0) := HXT.out.cell (i := 0) (j := 0) (by omega) (by omega)
      have hzn : w.heap.size + 1 + 1 < X.heap.size := by have := HXS.out; omega
      have hzm : w.heap.size < X.heap.size := by omega
      obtain ⟨cur0, hcur0, hcs0, hcv0⟩ := HXE.out 0 (by omega)
      have HCUR0 : Hid (X.heap[w.heap.size + 3]? = some (.cells cur0.toList.toArray 3 (0, 0))) := by show _ = _; rw [Array.toArray_toList]; exact hcur0
      have HCS0 : Hid (cur0.size = s0) := by show _ = _; rw [hcs0]; simp [szF]
      have HCV0 : Hid (∀ i, i < s0 -> cur0[i]? = some (.int .i64 0)) := fun i hi => by have := hcv0 i 0 (show i < szF s0 s1 s2 s3 0 from hi) (by omega); rwa [Nat.mul_one, Nat.add_zero] at this
      have hn3 : w.heap.size + 3 < X.heap.size := by have := HXS.out; omega
      clear hcur0 hcs0 hcv0
      go_region_law (first
        | (refine step_call rfl 98 #[.tmp 31, .tmp 33] #[9, 3] rfl #[.string S, .int .i64 (c : Nat)] (by simp [Act.eval]) (enter68 _ _ _) _ (bitsOf_own S c _ (by have := HSZ.out; omega) (by have := HC.out; omega)) ?_; rintro v w0 ⟨ad, cc, rfl, hown1, hb1⟩; obtain ⟨hc1, hf1⟩ := bcell hb1; have q0 : w0.cell? ⟨w.heap.size + 1 + 1, 0, none⟩ = some (.slice (some ⟨w.heap.size + 3, 0, none⟩) s0 s0) := (by rw [hc1 _ _ (by simpa using hzn)]; simpa using t0))
        | (refine step_copy_row rfl (.tmp 30) (.tmp 34) 28 28 rfl 3 Tryz.underlying28 Tryz.sizeInt _ _ _ _ _ _ rfl rfl (w.heap.size + 3) 0 cur0.toList 3 ((hb1.block _ (by simpa using hn3)).trans HCUR0.out) ((Pl.bitsL S 0 c).flatMap encI) (by rw [encI_len, Pl.bitsL_len, Nat.mul_one]; exact (Nat.min_eq_left HC.out).symm) (fun hp => ⟨rfl, own_src hown1 (by rw [encI_len, Pl.bitsL_len, Nat.mul_one] at hp; exact hp)⟩) (by rw [encI_len, Pl.bitsL_len, Array.length_toList, HCS0.out]; have := HC.out; omega) (encI_one _) ?_; intro w1 hg1 ho1))
      all_goals
        have hb1' : Below X.heap.size X w0 := bel_then (Below.refl _ X).drew.drew hb1
        have hz1 := ho1.size
        have hYo : ∀ g, g < X.heap.size -> g ≠ w.heap.size + 3 -> w1.heap[g]? = X.heap[g]? := fun g hg hne => (ho1.block g hne).trans (hb1'.block g hg)
        have HG0 := hideF (grid_splice (f := fun _ => 0) HCS0.out HCV0.out (off := 0) (vs := Pl.bitsL S 0 c) (by rw [Pl.bitsL_len]; have := HC.out; omega) hg1.out)
        have hYB : Below w.heap.size w w1 := (HXB.out.trans (hb1'.mono HXB.out.size)).trans ⟨ho1.os, ho1.tape, ho1.output, Nat.le_of_eq ho1.size.symm, fun k hk => ho1.block k (by omega)⟩
        have hYs : X.heap.size <= w1.heap.size := by have := hb1'.size; omega
        clear hb1 hc1 hf1 q0 t0 c0 c1 c2 c3 c4 c5 c6 c7 c8 hown1 hb1' ho1 hg1
        have hXS := HXS.out
        have hYc := (hYo w.heap.size hzm (by omega)).trans HXC.out
        have hYe : ∀ i, i < 4 -> i ≠ 0 -> Grid w1 (w.heap.size + 3 + i) 3 (szF s0 s1 s2 s3 i) 1 (fun _ _ => .int .i64 0) := fun i hi h0 => (HXE.out i hi).same (hYo _ (by omega) (by omega))
        have hYt := HXT.out.same (hYo _ (by omega) (by omega))
        have hYr := HXR.out.same (hYo _ (by omega) (by omega))
        clear hYo hXS
        obtain ⟨c0, c1, c2, c3, c4, c5, c6, c7, c8⟩ := cells9 hYc
        have t2 : w1.cell? ⟨w.heap.size + 1 + 1, 2, none⟩ = some (.slice (some ⟨w.heap.size + 5, 0, none⟩) s2 s2) := hYt.cell (i := 2) (j := 0) (by omega) (by omega)
        obtain ⟨cur, hcur, hcs, hcv⟩ := hYe 2 (by omega) (by omega)
        have HCUR : Hid (w1.heap[w.heap.size + 5]? = some (.cells cur.toList.toArray 3 (0, 0))) := by show _ = _; rw [Array.toArray_toList]; exact hcur
        have HCS : Hid (cur.size = s2) := by show _ = _; rw [hcs]; simp [szF]
        have HCV : Hid (∀ i, i < s2 -> cur[i]? = some (.int .i64 0)) := fun i hi => by have := hcv i 0 (show i < szF s0 s1 s2 s3 2 from hi) (by omega); rwa [Nat.mul_one, Nat.add_zero] at this
        have hn1 : w.heap.size + 1 + 1 < w1.heap.size := by omega
        have hn5 : w.heap.size + 5 < w1.heap.size := by have := HXS.out; omega
        have hn0 : w.heap.size < w1.heap.size := by omega
        obtain ⟨y, hy⟩ : ∃ y, y = (c + 7) / 8 := ⟨_, rfl⟩
        have HY := hideF hy
        have hyl : (y : Int) <= S.size := by have := HSZ.out; omega
        have hyl' : (0 : Int) <= y := by omega
        have HYE := hideF hYe
        have HYT := hideF hYt
        have HYR := hideF hYr
        have HYC := hideF hYc
        have HYB := hideF hYB
        have HYS : Hid (w.heap.size + 7 <= w1.heap.size) := by show _ <= _; have := HXS.out; omega
        clear HXE HXT HXR HXC HXB HXS hYe hYt hYr hYB hzn hzm hYs hcur hcs hcv hYc hy
        go_wp2_with fail
        go_region_law (first
          | (refine step_call rfl 97 #[.tmp 41] #[3] rfl #[.int .i64 (c : Nat)] (by simp [Act.eval]) (enter67 _ _) _ (bitsSize_step c y HY.out _ (by have := HC.out; omega)) ?_; rintro v w2 ⟨rfl, rfl⟩)
          | (refine step_call rfl 99 #[.tmp 43] #[9] rfl #[.string (S.extract y S.size)] (by simp [Act.eval, Act.put]) (enter69 _ _) _ (wordsOf_step (S.extract y S.size) h _ (by have := HY.out; have := HSZ.out; simp; omega) (by simp; omega)) ?_; rintro v w2 ⟨ad2, cc2, rfl, hown2, hb2⟩; obtain ⟨hc2, hf2⟩ := bcell hb2; have q2 : w2.cell? ⟨w.heap.size + 1 + 1, 2, none⟩ = some (.slice (some ⟨w.heap.size + 5, 0, none⟩) s2 s2) := (by rw [hc2 _ _ (by simpa using hn1)]; simpa using t2))
          | (refine step_copy_row rfl (.tmp 38) (.tmp 44) 28 28 rfl 3 Tryz.underlying28 Tryz.sizeInt _ _ _ _ _ _ rfl rfl (w.heap.size + 5) 0 cur.toList 3 ((hb2.block _ (by simpa using hn5)).trans HCUR.out) ((Pl.wordsL (S.extract y S.size) 0 h).flatMap encI) (by rw [encI_len, Pl.wordsL_len, Nat.mul_one]; exact (Nat.min_eq_left hh).symm) (fun hp => ⟨rfl, own_src hown2 (by rw [encI_len, Pl.wordsL_len, Nat.mul_one] at hp; exact hp)⟩) (by rw [encI_len, Pl.wordsL_len, Array.length_toList, HCS.out]; omega) (encI_one _) ?_; intro w3 hg3 ho3))
        all_goals
          have hb2' := below_then_drew1 hb2
          have hz3 := ho3.size
          have hz2 := hb2'.size
          have hle : w.heap.size + 7 <= w1.heap.size := HYS.out
          have hzt : ∀ i, i < 8 -> w3.cell? ⟨w.heap.size + 1 + 1, i, none⟩ = some (if i = 4 then .int .i64 (c : Nat) else if i = 6 then .int .i64 (h : Nat) else tabV w.heap.size s0 s1 s2 s3 4 i) := fun i hi => by
            have := ((HYT.out.below hb2' (by omega)).same (ho3.block _ (by omega))).cell (i := i) (j := 0) hi (by omega)
            rwa [Nat.mul_one, Nat.add_zero] at this
          have d0 : w3.cell? ⟨w.heap.size + 1 + 1, 0, none⟩ = some (.slice (some ⟨w.heap.size + 3, 0, none⟩) s0 s0) := hzt 0 (by omega)
          have d1 : w3.cell? ⟨w.heap.size + 1 + 1, 1, none⟩ = some (.slice (some ⟨w.heap.size + 4, 0, none⟩) s1 s1) := hzt 1 (by omega)
          have d2 : w3.cell? ⟨w.heap.size + 1 + 1, 2, none⟩ = some (.slice (some ⟨w.heap.size + 5, 0, none⟩) s2 s2) := hzt 2 (by omega)
          have d3 : w3.cell? ⟨w.heap.size + 1 + 1, 3, none⟩ = some (.slice (some ⟨w.heap.size + 6, 0, none⟩) s3 s3) := hzt 3 (by omega)
          have d4 : w3.cell? ⟨w.heap.size + 1 + 1, 4, none⟩ = some (.int .i64 (c : Nat)) := hzt 4 (by omega)
          have d5 : w3.cell? ⟨w.heap.size + 1 + 1, 5, none⟩ = some (.int .i64 0) := hzt 5 (by omega)
          have d6 : w3.cell? ⟨w.heap.size + 1 + 1, 6, none⟩ = some (.int .i64 (h : Nat)) := hzt 6 (by omega)
          have d7 : w3.cell? ⟨w.heap.size + 1 + 1, 7, none⟩ = some (.int .i64 0) := hzt 7 (by omega)
          have HR3 := hideF ((HYR.out.below hb2' (by omega)).same (ho3.block _ (by omega)))
          have f3 : ∀ k, w3.frozen? ⟨w.heap.size + 1, k, none⟩ = false := fun k => HR3.out.frozen k
          have r3 : ∀ i, i < 8 -> w3.cell? ⟨w.heap.size + 1, i, none⟩ = some (tabV w.heap.size s0 s1 s2 s3 0 i) := fun i hi => by
            have := HR3.out.cell (i := i) (j := 0) hi (by omega)
            rwa [Nat.mul_one, Nat.add_zero] at this
          have r0 := r3 0 (by omega)
          have r1 := r3 1 (by omega)
          have r2 := r3 2 (by omega)
          have r33 := r3 3 (by omega)
          have r4 := r3 4 (by omega)
          have r5 := r3 5 (by omega)
          have r6 := r3 6 (by omega)
          have r7 := r3 7 (by omega)
          have HO3 := hideF ho3
          have HB2' := hideF hb2'
          clear hzt ho3 hb2 hb2' hc2 hf2 q2 c0 c1 c2 c3 c4 c5 c6 c7 c8 t2 hown2 HR3 r3
          go_wp2_with fail
          refine bodyPost_ret (v := .agg #[.slice (some ⟨w.heap.size + 3, 0, none⟩) s0 s0, .slice (some ⟨w.heap.size + 4, 0, none⟩) s1 s1, .slice (some ⟨w.heap.size + 5, 0, none⟩) s2 s2, .slice (some ⟨w.heap.size + 6, 0, none⟩) s3 s3, .int .i64 (c : Nat), .int .i64 0, .int .i64 (h : Nat), .int .i64 0]) (by simp [results, Tryz.results65, go_sem, r0, r1, r2, r33, r4, r5, r6, r7]) rfl ?_
          have e3 := fun i (hi : i < 4) (h0 : i ≠ 0) (h2 : i ≠ 2) => ((HYE.out i hi h0).below HB2'.out (by omega)).same (HO3.out.block _ (show w.heap.size + 3 + i ≠ w.heap.size + 5 by omega))
          have e2 : Grid w3 (w.heap.size + 5) 3 s2 1 (fun i _ => .int .i64 (entC c h S 2 i)) := (grid_splice (f := fun _ => 0) HCS.out HCV.out (off := 0) (vs := Pl.wordsL (S.extract y S.size) 0 h) (by rw [Pl.wordsL_len]; omega) hg3.out).congr fun i _ _ _ => by rw [HY.out, entC_two]
          have e0 : Grid w3 (w.heap.size + 3) 3 s0 1 (fun i _ => .int .i64 (entC c h S 0 i)) := ((HG0.out.below HB2'.out (by omega)).same (HO3.out.block _ (show w.heap.size + 3 ≠ w.heap.size + 5 by omega))).congr fun i _ _ _ => by rw [entC_nought]
          refine ⟨rfl, grid_set8 e0 (by omega) _ _ _ _ _ _ _ _, grid_set8 (e3 1 (by omega) (by omega) (by omega)) (by omega) _ _ _ _ _ _ _ _, grid_set8 e2 (by omega) _ _ _ _ _ _ _ _, grid_set8 (e3 3 (by omega) (by omega) (by omega)) (by omega) _ _ _ _ _ _ _ _, bel8 (HO3.out.below (HYB.out.trans (HB2'.out.mono HYB.out.size)) (by omega)) (by omega) _ _ _ _ _ _ _ _⟩
end Go.Proofs.YtcpldcojckhapaaGreat

set_option maxRecDepth 100000
namespace Go.Proofs.YtcpldcojckhapaaGreat
structure Ls where
  dk : Nat -> ByteArray
  wet : List (Int × Int × Int × ByteArray)
  least : Nat
def syncL (s : Ls) : Ls := { s with dk := s.wet.foldl putD s.dk, wet := [] }
def runL : Nat -> List (Int × Int × ByteArray) -> List (Int × Int × Int × ByteArray) -> Ls -> Ls
  | 0, _, _, s => s
  | _ + 1, _, [], s => s
  | n + 1, W, a :: A, s => if a.1 = 0 then runL n W A { s with wet := s.wet ++ [a] } else if a.1 = 1 then runL n W A (syncL s) else runL n W.tail A { s with least := max s.least (W.headD (0, 0, ⟨#[]⟩)).1.toNat }
inductive Chk (nd : Nat) : List (Int × Int × ByteArray) -> List (Int × Int × Int × ByteArray) -> Prop
  | nil : Chk nd [] []
  | write {W : List (Int × Int × ByteArray)} {A : List (Int × Int × Int × ByteArray)} (q : Nat) (x : ByteArray) : q < nd -> x.size = 64 -> Chk nd W A -> Chk nd W ((0, (q : Int), 0, x) :: A)
  | sync {W : List (Int × Int × ByteArray)} {A : List (Int × Int × Int × ByteArray)} : Chk nd W A -> Chk nd W ((1, 0, 0, ⟨#[]⟩) :: A)
  | send {W : List (Int × Int × ByteArray)} {A : List (Int × Int × Int × ByteArray)} (x : Int × Int × ByteArray) : Chk nd W A -> Chk nd (x :: W) (sendOf x :: A)
section
variable {nd : Nat} {W W' : List (Int × Int × ByteArray)} {A A' : List (Int × Int × Int × ByteArray)}
theorem Chk.append (h : Chk nd W A) (h' : Chk nd W' A') : Chk nd (W ++ W') (A ++ A') := by
  induction h with
  | nil => exact h'
  | write q x hq hx _ ih => exact .write q x hq hx ih
  | sync _ ih => exact .sync ih
  | send x _ ih => exact .send x ih
theorem Chk.sends : ∀ (W : List (Int × Int × ByteArray)), Chk nd W (W.map sendOf) := by
  intro W
  induction W with
  | nil => exact .nil
  | cons x W ih => exact .send x ih
theorem Chk.writes : ∀ (Ws : List (Int × Int × Int × ByteArray)), (∀ a ∈ Ws, ∃ (q : Nat) (x : ByteArray), a = (0, (q : Int), 0, x) /\ q < nd /\ x.size = 64) -> Chk nd [] Ws := by
  intro Ws
  induction Ws with
  | nil => intro _; exact .nil
  | cons a Ws ih =>
    intro h
    obtain ⟨q, x, rfl, hq, hx⟩ := h a (List.mem_cons_self)
    exact .write q x hq hx (ih fun b hb => h b (List.mem_cons_of_mem _ hb))
theorem runL_le (h : Chk nd W A) : ∀ (n : Nat) (s : Ls), n <= A.length -> runL n (W ++ W') (A ++ A') s = runL n W A s := by
  induction h with
  | nil => intro n s hn; obtain rfl : n = 0 := by simpa using hn
           rw [runL, runL]
  | write q x hq hx _ ih =>
    intro n s hn
    cases n with
    | zero => rw [runL, runL]
    | succ n => rw [List.cons_append, runL, runL, if_pos rfl, if_pos rfl]; exact ih n _ (by simpa using hn)
  | sync _ ih =>
    intro n s hn
    cases n with
    | zero => rw [runL, runL]
    | succ n => rw [List.cons_append, runL, runL, if_neg (by decide), if_pos rfl, if_neg (by decide), if_pos rfl]; exact ih n _ (by simpa using hn)
  | send x _ ih =>
    intro n s hn
    cases n with
    | zero => rw [runL, runL]
    | succ n =>
      have e0 : (sendOf x).1 = 2 := rfl
      rw [List.cons_append, List.cons_append, runL, runL, if_neg (by rw [e0]; decide), if_neg (by rw [e0]; decide), if_neg (by rw [e0]; decide), if_neg (by rw [e0]; decide)]; exact ih n _ (by simpa using hn)
theorem runL_add (h : Chk nd W A) : ∀ (m : Nat) (s : Ls), runL (A.length + m) (W ++ W') (A ++ A') s = runL m W' A' (runL A.length W A s) := by
  induction h with
  | nil => intro m s; simp [runL]
  | @write W A q x hq hx _ ih =>
    intro m s
    rw [List.cons_append, List.length_cons, show A.length + 1 + m = (A.length + m) + 1 by omega, runL, runL, if_pos rfl, if_pos rfl]; exact ih m _
  | @sync W A _ ih =>
    intro m s
    rw [List.cons_append, List.length_cons, show A.length + 1 + m = (A.length + m) + 1 by omega, runL, runL, if_neg (by decide), if_pos rfl, if_neg (by decide), if_pos rfl]; exact ih m _
  | @send W A x _ ih =>
    intro m s
    have e0 : (sendOf x).1 = 2 := rfl
    rw [List.cons_append, List.cons_append, List.length_cons, show A.length + 1 + m = (A.length + m) + 1 by omega, runL, runL, if_neg (by rw [e0]; decide), if_neg (by rw [e0]; decide), if_neg (by rw [e0]; decide), if_neg (by rw [e0]; decide)]; exact ih m _
end
theorem runL_writes {nd : Nat} (Ws : List (Int × Int × Int × ByteArray)) : ∀ (n : Nat) (s : Ls), (∀ a ∈ Ws, ∃ (q : Nat) (x : ByteArray), a = (0, (q : Int), 0, x) /\ q < nd /\ x.size = 64) -> n <= Ws.length -> runL n [] Ws s = { s with wet := s.wet ++ Ws.take n } := by
  induction Ws with
  | nil => intro n s _ hn; obtain rfl : n = 0 := by simpa using hn
           simp [runL]
  | cons a Ws ih =>
    intro n s h hn
    cases n with
    | zero => simp [runL]
    | succ n =>
      obtain ⟨q, x, rfl, _, _⟩ := h a List.mem_cons_self
      rw [runL, if_pos rfl, ih n _ (fun b hb => h b (List.mem_cons_of_mem _ hb)) (by simpa using hn)]
      simp
theorem runL_sends : ∀ (W : List (Int × Int × ByteArray)) (n : Nat) (s : Ls), ∃ k, runL n W (W.map sendOf) s = { s with least := k } /\ s.least <= k /\ ∀ M, s.least <= M -> (∀ x ∈ W, x.1 <= (M : Int)) -> k <= M := by
  intro W
  induction W with
  | nil => intro n s; cases n <;> exact ⟨s.least, by simp [runL], Nat.le_refl _, fun M h _ => h⟩
  | cons x W ih =>
    intro n s
    cases n with
    | zero => exact ⟨s.least, by simp [runL], Nat.le_refl _, fun M h _ => h⟩
    | succ n =>
      have e0 : (sendOf x).1 = 2 := rfl
      obtain ⟨k, h1, h2, h3⟩ := ih n { s with least := max s.least x.1.toNat }
      refine ⟨k, ?_, ?_, fun M hM hx => h3 M ?_ fun y hy => hx y (List.mem_cons_of_mem _ hy)⟩
      . rw [List.map_cons, runL, if_neg (by rw [e0]; decide), if_neg (by rw [e0]; decide)]
        exact h1
      . have : max s.least x.1.toNat <= k := h2
        omega
      . have := hx x List.mem_cons_self
        show max s.least x.1.toNat <= M
        omega
def Lost (f : Nat -> ByteArray) (wet : List (Int × Int × Int × ByteArray)) (f' : Nat -> ByteArray) : Prop := ∀ j, f' j = f j ∨ ∃ a ∈ wet, a.2.1.toNat = j /\ ∃ t, t <= 64 /\ f' j = tornB a.2.2.2 (f j) t
theorem Lost.nil {f f' : Nat -> ByteArray} (h : Lost f [] f') : f' = f := by
  funext j
  rcases h j with g | ⟨a, ha, _⟩
  . exact g
  . simp at ha
structure WetOk (nd : Nat) (wet : List (Int × Int × Int × ByteArray)) : Prop where
  all : ∀ a ∈ wet, ∃ (q : Nat) (x : ByteArray), a = (0, (q : Int), 0, x) /\ q < nd /\ x.size = 64
  one : wet.Pairwise (fun a b => a.2.1.toNat ≠ b.2.1.toNat)
theorem WetOk.take {nd : Nat} {wet : List (Int × Int × Int × ByteArray)} (h : WetOk nd wet) (n : Nat) : WetOk nd (wet.take n) := ⟨fun a ha => h.all a (List.mem_of_mem_take ha), h.one.sublist (List.take_sublist _ _)⟩
theorem WetOk.nil (nd : Nat) : WetOk nd [] := ⟨by simp, .nil⟩
theorem put_all : ∀ (wet : List (Int × Int × Int × ByteArray)) (f : Nat -> ByteArray), wet.Pairwise (fun a b => a.2.1.toNat ≠ b.2.1.toNat) -> (∀ a ∈ wet, (wet.foldl putD f) a.2.1.toNat = a.2.2.2) /\ ∀ j, (∀ a ∈ wet, a.2.1.toNat ≠ j) -> (wet.foldl putD f) j = f j := by
  intro wet
  induction wet with
  | nil => intro f _; exact ⟨by simp, fun j _ => rfl⟩
  | cons a wet ih =>
    intro f h
    obtain ⟨h1, h2⟩ := List.pairwise_cons.1 h
    obtain ⟨g1, g2⟩ := ih (putD f a) h2
    refine ⟨fun b hb => ?_, fun j hj => ?_⟩
    . rcases List.mem_cons.1 hb with rfl | hb
      . rw [List.foldl_cons, g2 _ (fun y hy => (h1 y hy).symm)]
        unfold putD; rw [if_pos rfl]
      . exact g1 b hb
    . rw [List.foldl_cons, g2 j (fun y hy => hj y (List.mem_cons_of_mem _ hy))]
      unfold putD; rw [if_neg (fun e => hj a List.mem_cons_self e.symm)]
def Idx (c h : Nat) (left : List (List Int)) (least : Nat) (d : ByteArray) : Prop := ∃ j, least <= j /\ left[j]? = some (keptL (entC c h d) c h)
theorem Idx.more {c h : Nat} {left : List (List Int)} {least : Nat} {d : ByteArray} (hi : Idx c h left least d) (l : List (List Int)) : Idx c h (left ++ l) least d := by
  obtain ⟨j, h1, h2⟩ := hi
  refine ⟨j, h1, ?_⟩
  rw [List.getElem?_append_left (List.getElem?_eq_some_iff.1 h2).1]; exact h2
structure MayLose (z sec nd c h : Nat) (left : List (List Int)) (s : Ls) : Prop where
  size : ∀ j, j < nd -> (s.dk j).size = 64
  wet : WetOk nd s.wet
  lose : ∀ f', Lost s.dk s.wet f' -> ∃ lat st d, DkIs z sec f' lat st d /\ Idx c h left s.least d
theorem MayLose.more {z sec nd c h : Nat} {left : List (List Int)} {s : Ls} (hm : MayLose z sec nd c h left s) (l : List (List Int)) : MayLose z sec nd c h (left ++ l) s := ⟨hm.size, hm.wet, fun f' hf => by obtain ⟨a, b, d, h1, h2⟩ := hm.lose f' hf; exact ⟨a, b, d, h1, h2.more l⟩⟩
structure Calm (z sec nd lat st : Nat) (d : ByteArray) (s : Ls) : Prop where
  size : ∀ j, j < nd -> (s.dk j).size = 64
  wet : s.wet = []
  dk : DkIs z sec s.dk lat st d
theorem Calm.lose {z sec nd lat st c h : Nat} {d : ByteArray} {s : Ls} {left : List (List Int)} (hc : Calm z sec nd lat st d s) (hi : Idx c h left s.least d) : MayLose z sec nd c h left s :=
  ⟨hc.size, by rw [hc.wet]; exact WetOk.nil nd, fun f' hf => by rw [hc.wet] at hf; rw [hf.nil]; exact ⟨lat, st, d, hc.dk, hi⟩⟩
theorem saveW_ok (sec nd lat st : Nat) (d : ByteArray) (hl : lat <= 1) (hn : 2 * sec <= nd) : WetOk nd ((List.range sec).map (saveW sec lat st d)) := by
  have hls : lat * sec <= sec := by rcases (show lat = 0 ∨ lat = 1 by omega) with rfl | rfl <;> omega
  refine ⟨fun a ha => ?_, ?_⟩
  . obtain ⟨i, hi, rfl⟩ := List.mem_map.1 ha
    have := List.mem_range.1 hi
    exact ⟨lat * sec + i, _, rfl, by omega, secB_size _ _⟩
  . rw [List.pairwise_map]
    refine List.nodup_range.imp ?_
    intro a b hab
    show (((lat * sec + a : Nat) : Int)).toNat ≠ (((lat * sec + b : Nat) : Int)).toNat
    omega
theorem Calm.save {z sec nd lat st c h : Nat} {d d' : ByteArray} {s : Ls} {left : List (List Int)} (hc : Calm z sec nd lat st d s) (hr : Rdy sec s.dk lat st) (hs1 : 1 <= sec) (hn : 2 * sec <= nd) (hz : d'.size = z) (hzs : z <= 62 * sec) (hi : Idx c h left s.least d) (hi' : Idx c h left s.least d') :
    (∀ n, n <= (saveA sec (1 - lat) (st % 3 + 1) d').length -> MayLose z sec nd c h left (runL n [] (saveA sec (1 - lat) (st % 3 + 1) d') s)) /\
    (runL (saveA sec (1 - lat) (st % 3 + 1) d').length [] (saveA sec (1 - lat) (st % 3 + 1) d') s).least = s.least /\ Calm z sec nd (1 - lat) (st % 3 + 1) d' (runL (saveA sec (1 - lat) (st % 3 + 1) d').length [] (saveA sec (1 - lat) (st % 3 + 1) d') s) /\ Rdy sec (runL (saveA sec (1 - lat) (st % 3 + 1) d').length [] (saveA sec (1 - lat) (st % 3 + 1) d') s).dk (1 - lat) (st % 3 + 1) := by
  obtain ⟨hl, hst, _⟩ := hc.dk.st_eq
  have hw := saveW_ok sec nd (1 - lat) (st % 3 + 1) d' (by omega) hn
  obtain ⟨Ws, hWs⟩ : ∃ Ws, Ws = (List.range sec).map (saveW sec (1 - lat) (st % 3 + 1) d') := ⟨_, rfl⟩
  have hA : saveA sec (1 - lat) (st % 3 + 1) d' = Ws ++ [(1, 0, 0, ⟨#[]⟩)] := by rw [hWs]; rfl
  rw [<- hWs] at hw
  have hwl : Ws.length = sec := by rw [hWs]; simp
  have hmem : ∀ a, a ∈ Ws ↔ ∃ i, i < sec /\ a = (0, (((1 - lat) * sec + i : Nat) : Int), 0, secB (st % 3 + 1) (d'.extract (i * 62) d'.size)) := fun a => by
    rw [hWs, List.mem_map]
    exact ⟨fun ⟨i, hi, e⟩ => ⟨i, List.mem_range.1 hi, e.symm⟩, fun ⟨i, hi, e⟩ => ⟨i, List.mem_range.2 hi, e.symm⟩⟩
  have hls : lat * sec <= sec /\ (1 - lat) * sec <= sec /\ (∀ i j, i < sec -> j < sec -> lat * sec + i ≠ (1 - lat) * sec + j) := by
    rcases (show lat = 0 ∨ lat = 1 by omega) with rfl | rfl
    . exact ⟨by omega, by omega, fun i j h1 h2 => by omega⟩
    . exact ⟨by omega, by omega, fun i j h1 h2 => by omega⟩
  rw [hA]
  have hchk : Chk nd [] Ws := Chk.writes Ws hw.all
  have hrun : ∀ n, n <= sec -> runL n [] (Ws ++ [(1, 0, 0, ⟨#[]⟩)]) s = { s with wet := Ws.take n } := fun n hn => by
    have := runL_le (W' := []) (A' := [(1, 0, 0, ⟨#[]⟩)]) hchk n s (by omega)
    rw [List.append_nil] at this
    rw [this, runL_writes Ws n s hw.all (by omega), hc.wet, List.nil_append]
  have hend : runL (sec + 1) [] (Ws ++ [(1, 0, 0, ⟨#[]⟩)]) s = { s with dk := Ws.foldl putD s.dk, wet := [] } := by
    have := runL_add (W' := []) (A' := [(1, 0, 0, ⟨#[]⟩)]) hchk 1 s
    rw [List.append_nil, hwl] at this
    rw [this]
    have h2 := hrun sec (Nat.le_refl _)
    have h3 := runL_writes Ws sec s hw.all (by omega)
    rw [h3, hc.wet, List.nil_append, List.take_of_length_le (by omega)]
    simp [runL, syncL]
  obtain ⟨p1, p2⟩ := put_all Ws s.dk hw.one
  have hnew : ∀ i, i < sec -> (Ws.foldl putD s.dk) ((1 - lat) * sec + i) = secB (st % 3 + 1) (d'.extract (i * 62) d'.size) := fun i hi => by
    exact p1 _ ((hmem _).2 ⟨i, hi, rfl⟩)
  have hold : ∀ i, i < sec -> (Ws.foldl putD s.dk) (lat * sec + i) = s.dk (lat * sec + i) := fun i hi => p2 _ fun a ha => by
    obtain ⟨j, hj, rfl⟩ := (hmem a).1 ha
    show (((1 - lat) * sec + j : Nat) : Int).toNat ≠ _
    have := hls.2.2 i j hi hj
    omega
  have hsz : ∀ j, j < nd -> ((Ws.foldl putD s.dk) j).size = 64 := fun j hj => by
    by_cases hex : ∃ a ∈ Ws, a.2.1.toNat = j
    . obtain ⟨a, ha, rfl⟩ := hex
      rw [p1 a ha]
      obtain ⟨i, _, rfl⟩ := (hmem a).1 ha
      exact secB_size _ _
    . rw [p2 j fun a ha e => hex ⟨a, ha, e⟩]; exact hc.size j hj
  obtain ⟨k1, k2⟩ := hc.dk.save hr hs1 hz hzs hold hnew
  have hcalm : Calm z sec nd (1 - lat) (st % 3 + 1) d' { s with dk := Ws.foldl putD s.dk, wet := [] } := ⟨hsz, rfl, k1⟩
  rw [List.length_append, hwl, List.length_singleton, hend]
  refine ⟨fun n hnl => ?_, rfl, hcalm, k2⟩
  rcases (show n <= sec ∨ n = sec + 1 by omega) with hn' | rfl
  . rw [hrun n hn']
    refine ⟨hc.size, hw.take n, fun f' hf => ?_⟩
    have hf' : Lost s.dk (Ws.take n) f' := hf
    have ha : ∀ i, i < sec -> f' (lat * sec + i) = s.dk (lat * sec + i) := fun i hi => by
      rcases hf' (lat * sec + i) with g | ⟨a, ha, e, _⟩
      . exact g
      . obtain ⟨j, hj, rfl⟩ := (hmem a).1 (List.mem_of_mem_take ha)
        have e' : (((1 - lat) * sec + j : Nat) : Int).toNat = lat * sec + i := e
        have := hls.2.2 i j hi hj
        omega
    have ht : ∀ i, i < sec -> ∃ t, t <= 64 /\ f' ((1 - lat) * sec + i) = tornB (secB (st % 3 + 1) (d'.extract (i * 62) d'.size)) (s.dk ((1 - lat) * sec + i)) t := fun i hi => by
      rcases hf' ((1 - lat) * sec + i) with g | ⟨a, ha, e, t, ht, g⟩
      . exact ⟨0, by omega, by rw [tornB_zero (hc.size _ (by omega))]; exact g⟩
      . obtain ⟨j, hj, rfl⟩ := (hmem a).1 (List.mem_of_mem_take ha)
        have e' : (((1 - lat) * sec + j : Nat) : Int).toNat = (1 - lat) * sec + i := e
        obtain rfl : j = i := by omega
        exact ⟨t, ht, g⟩
    rcases hc.dk.torn hr hs1 (fun i => secB (st % 3 + 1) (d'.extract (i * 62) d'.size)) (fun i _ => ⟨secB_size _ _, by rw [secB_0]; omega⟩) (fun i hi => hc.size _ (by omega)) ha ht with g | g
    . exact ⟨_, _, d', (hc.dk.save hr hs1 hz hzs ha g).1, hi'⟩
    . exact ⟨_, _, d, g, hi⟩
  . rw [hend]
    exact hcalm.lose hi'
end Go.Proofs.YtcpldcojckhapaaGreat
