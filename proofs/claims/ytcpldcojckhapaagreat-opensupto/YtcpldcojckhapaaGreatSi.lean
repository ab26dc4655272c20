/-
  
-/
import Derived.Test.YtcpldcojckhapaaGreatJ44
set_option maxRecDepth 100000
namespace Go.Proofs.YtcpldcojckhapaaGreat
open Go.RowKit
structure OpIn (w : World) (ad a2 : Option Addr) (n k nd k2 : Nat) (ln : Nat -> Int) (f : Nat -> ByteArray) : Prop where
  hv : Vals w ad n ln
  hsrc : Src w (.slice ad n k) n (((List.range n).map ln).flatMap encI)
  hlt : ∀ a, ad = some a -> a.block < w.heap.size
  hn : n <= 1048576
  hd : Src w (.slice a2 nd k2) nd (secV f nd)
  hdt : ValT w a2 nd f
  hlt2 : ∀ a, a2 = some a -> a.block < w.heap.size
  hnd : nd <= 1048576
theorem ValT.bel {w w' : World} {a2 : Option Addr} {nd : Nat} {f : Nat -> ByteArray} (h : ValT w a2 nd f) (hb : Below w.heap.size w w') : ValT w' a2 nd f := fun j hj => by
  obtain ⟨g, o, h1, h2, h3⟩ := h j hj
  exact ⟨g, o, h1, Nat.lt_of_lt_of_le h2 hb.size, ((bcell hb).1 g (o + j) h2).trans h3⟩
theorem OpIn.bel {w w' : World} {ad a2 : Option Addr} {n k nd k2 : Nat} {ln : Nat -> Int} {f : Nat -> ByteArray} (h : OpIn w ad a2 n k nd k2 ln f) (hb : Below w.heap.size w w') : OpIn w' ad a2 n k nd k2 ln f :=
  ⟨h.hv.bel hb, h.hsrc.bel (fun a c e => by simp only [Value.slice.injEq] at e; exact h.hlt a e.1) hb, fun a ha => Nat.lt_of_lt_of_le (h.hlt a ha) hb.size, h.hn, h.hd.bel (fun a c e => by simp only [Value.slice.injEq] at e; exact h.hlt2 a e.1) hb, h.hdt.bel hb, fun a ha => Nat.lt_of_lt_of_le (h.hlt2 a ha) hb.size, h.hnd⟩
structure Hd (w wx : World) (kb : Nat) (c : Nat -> Nat) (b : Bks) (cv ov : Array Value) : Prop where
  bk : BkC wx (w.heap.size + 2) c kb 5 b
  nr : Nrm wx (w.heap.size + 2) c
  b0 : wx.heap[w.heap.size]? = some (.cells cv 39 (0, 0))
  b1 : wx.heap[w.heap.size + 1]? = some (.cells ov 42 (0, 0))
  bl : Below w.heap.size w wx
theorem Hd.bel {w wx wy : World} {kb : Nat} {c : Nat -> Nat} {b : Bks} {cv ov : Array Value} (h : Hd w wx kb c b cv ov) (hb : Below wx.heap.size wx wy) : Hd w wy kb (nc wy (w.heap.size + 2) (colN wx c 9)) b cv ov :=
  ⟨(h.bk.frame (k := 9) (Fc.of_below hb) (colN_agr wx c 9) (by decide)).nc, nc_nrm _ _ _, (hb.block _ (lt_of_block h.b0)).trans h.b0, (hb.block _ (lt_of_block h.b1)).trans h.b1, bel_then h.bl hb⟩
def bookC : Array Value := #[.slice none 0 0, .slice none 0 0, .slice none 0 0, .slice none 0 0, .bool false, .slice none 0 0, .slice none 0 0, .slice none 0 0, .slice none 0 0, .slice none 0 0, .slice none 0 0, .slice none 0 0, .slice none 0 0]
theorem head_call (w : World) (cv ov : Array Value) (X : World) (hX : X = ((w.alloc (.cells cv 39)).alloc (.cells ov 42)).alloc (.cells bookC 33)) :
    Calls Tryz.prog 8 #[] X fun e w4 => ∃ v, e = .returned v /\ Calls Tryz.prog 7 #[v, .int .i64 0, .pointer (some ⟨w.heap.size + 2, 0, none⟩)] w4 fun e w5 => ∃ r, e = .returned (.tuple #[.pointer (some ⟨r, 0, none⟩), .bool true]) /\ ∃ c b, Hd w w5 (w.heap.size + 2) c b cv ov := by
  obtain ⟨X1, hX1⟩ : ∃ X1, X1 = w.alloc (.cells cv 39) := ⟨_, rfl⟩
  obtain ⟨X2, hX2⟩ : ∃ X2, X2 = X1.alloc (.cells ov 42) := ⟨_, rfl⟩
  rw [<- hX1, <- hX2] at hX
  have s1 : X1.heap.size = w.heap.size + 1 := by rw [hX1]; generalize Obj.cells _ _ = o; simp
  have s2 : X2.heap.size = w.heap.size + 2 := by rw [hX2]; generalize Obj.cells _ _ = o; simp; omega
  have s3 : X.heap.size = w.heap.size + 3 := by rw [hX]; generalize Obj.cells _ _ = o; simp; omega
  have g1 : X1.heap[w.heap.size]? = some (.cells cv 39 (0, 0)) := by rw [hX1]; exact heap_alloc_new w _
  have g2 : X2.heap[w.heap.size + 1]? = some (.cells ov 42 (0, 0)) := by rw [hX2, <- s1]; exact heap_alloc_new X1 _
  have g3 : X.heap[w.heap.size + 2]? = some (.cells bookC 33 (0, 0)) := by rw [hX, <- s2]; exact heap_alloc_new X2 _
  have b1 : Below w.heap.size w X1 := by rw [hX1]; exact bel_alloc (Below.refl _ _) _
  have b2 : Below X1.heap.size X1 X2 := by rw [hX2]; exact bel_alloc (Below.refl _ _) _
  have b3 : Below X2.heap.size X2 X := by rw [hX]; exact bel_alloc (Below.refl _ _) _
  obtain ⟨c0, hbk0, hnr0⟩ := bk_start g3 (Nat.le_refl (w.heap.size + 2))
  refine (known_any X).mono ?_
  rintro e w4 ⟨g4, rfl, hg4, hl4, hb4⟩
  refine ⟨_, rfl, ?_⟩
  have hbk4 : BkC w4 (w.heap.size + 2) (nc w4 (w.heap.size + 2) (colN X c0 9)) (w.heap.size + 2) 0 bks0 := (hbk0.frame (k := 9) (Fc.of_below hb4) (colN_agr X c0 9) (by decide)).nc
  refine (begun_any w4 (w.heap.size + 2) (w.heap.size + 2) 0 g4 _ bks0 hbk4 (by omega) hg4 (fun h => by have := bks0_on h; omega) (fun h => nc_at h hg4 (by decide) (colN_new X c0 9 _ hl4) (by decide))).mono ?_
  rintro e w5 ⟨r, rfl, c5, b5, hbk5, hnr5, hb5⟩
  have b14 := bel_then (bel_then b2 b3) hb4
  refine ⟨r, rfl, c5, b5, hbk5, hnr5, ?_, ?_, ?_⟩
  . rw [hb5.block _ (by omega), b14.block _ (by omega)]; exact g1
  . rw [hb5.block _ (by omega), (bel_then b3 hb4).block _ (by omega)]; exact g2
  . exact (bel_then b1 b14).trans (hb5.mono (by omega))
theorem vals_at {w w1 : World} {ad : Option Addr} {n g : Nat} {ln : Nat -> Int} (hv : Vals w ad n ln) (hg : g < w1.heap.size) (hc : ∀ j, j < n -> w1.cell? ⟨g, j, none⟩ = some (.int .i64 (ln j))) : Vals w1 (some ⟨g, 0, none⟩) n ln := fun j hj => by
  obtain ⟨_, _, _, _, _, h1, h2⟩ := hv j hj
  exact ⟨g, 0, rfl, hg, by rw [Nat.zero_add]; exact hc j hj, h1, h2⟩
theorem CfgOk.need {s0 s1 s2 s3 c h u b : Int} {n : Nat} {ln : Nat -> Int} (hk : CfgOk s0 s1 s2 s3 c h u n ln b) : 2 <= 2 * max 1 (((c.toNat + 7) / 8 + 2 * h.toNat + 61) / 62) /\ 2 * max 1 (((c.toNat + 7) / 8 + 2 * h.toNat + 61) / 62) <= 6 := by
  have h0 := hk.sz 0 (by omega)
  have h2 := hk.sz 2 (by omega)
  simp only [szI] at h0 h2
  simp at h0 h2
  have hc := hk.c
  have hh := hk.h
  omega
set_option maxHeartbeats 8000000 in
theorem opens_no (w : World) (s0 s1 s2 s3 c h u b : Int) (n k nd k2 : Nat) (ad a2 : Option Addr) (ln : Nat -> Int) (f : Nat -> ByteArray) (o : OpV) (hi : OpIn w ad a2 n k nd k2 ln f) (hcase : ¬ CfgOk s0 s1 s2 s3 c h u n ln b ∨ CfgOk s0 s1 s2 s3 c h u n ln b /\ BadDisk nd (2 * max 1 (((c.toNat + 7) / 8 + 2 * h.toNat + 61) / 62)) f) :
    Calls Tryz.prog 4 #[.agg #[.int .i64 s0, .int .i64 s1, .int .i64 s2, .int .i64 s3, .int .i64 c, .int .i64 h, .int .i64 u, .slice ad n k, .int .i64 b], .slice a2 nd k2, .agg (opA o)] w fun e w' => e = .returned (.bool true) /\ Below w.heap.size w w' := by
  have hnm := hi.hn
  have hndm := hi.hnd
  obtain ⟨need, err, hN, hO, hfin, hneed⟩ : ∃ (need : Nat) (err : Int), (∀ W, Below w.heap.size w W -> Calls Tryz.prog 12 #[.agg #[.int .i64 s0, .int .i64 s1, .int .i64 s2, .int .i64 s3, .int .i64 c, .int .i64 h, .int .i64 u, .slice ad n k, .int .i64 b]] W fun e w' => e = .returned (.tuple #[.int .i64 (need : Nat), .bool true]) /\ Below W.heap.size W w') /\
      (∀ (w1 : World) (g2 k3 g cap : Nat), g2 < w1.heap.size -> SecIn w1 g2 nd f -> g < w1.heap.size -> (∀ j, j < n -> w1.cell? ⟨g, j, none⟩ = some (.int .i64 (ln j))) -> Calls Tryz.prog 25 #[.agg #[.int .i64 s0, .int .i64 s1, .int .i64 s2, .int .i64 s3, .int .i64 c, .int .i64 h, .int .i64 u, .slice (some ⟨g, 0, none⟩) n cap, .int .i64 b], .slice (some ⟨g2, 0, none⟩) nd k3] w1 fun e w' => e = .returned (.tuple #[.pointer none, .slice none 0 0, .int .i64 err]) /\ Below w1.heap.size w1 w') /\
      ((need = 0 /\ err = 2) ∨ (need ≠ 0 /\ err = 3 /\ BadDisk nd need f)) /\ need <= 6 := by
    rcases hcase with hno | ⟨hyes, hbad⟩
    . refine ⟨0, 2, fun W hW => ?_, fun w1 g2 k3 g cap h1 h2 h3 h4 => open_noConfig s0 s1 s2 s3 c h u b n cap nd k3 _ _ ln w1 (vals_at hi.hv h3 h4) (by omega) hno, .inl ⟨rfl, rfl⟩, by omega⟩
      refine (needs_gen s0 s1 s2 s3 c h u b n k ad ln W (hi.hv.bel hW) (by omega)).mono ?_
      rintro e w' ⟨⟨_, h2⟩ | ⟨h1, _⟩, hb⟩
      . exact ⟨h2, hb⟩
      . exact absurd h1 hno
    . have hnn := hyes.need
      refine ⟨_, 3, fun W hW => ?_, fun w1 g2 k3 g cap h1 h2 h3 h4 => open_noDisk s0 s1 s2 s3 c h u b n cap nd k3 g2 _ _ ln f w1 (vals_at hi.hv h3 h4) (by omega) hyes rfl (by omega) h1 (by omega) h2 hbad, .inr ⟨by omega, rfl, hbad⟩, hnn.2⟩
      refine (needs_gen s0 s1 s2 s3 c h u b n k ad ln W (hi.hv.bel hW) (by omega)).mono ?_
      rintro e w' ⟨⟨h1, _⟩ | ⟨_, h2⟩, hb⟩
      . exact absurd hyes h1
      . exact ⟨h2, hb⟩
  obtain ⟨X, hX⟩ : ∃ X, X = ((w.alloc (.cells #[.int .i64 s0, .int .i64 s1, .int .i64 s2, .int .i64 s3, .int .i64 c, .int .i64 h, .int .i64 u, .slice ad n k, .int .i64 b] 39)).alloc (.cells (opA o) 42)).alloc (.cells bookC 33) := ⟨_, rfl⟩
  have HHC := hideF (head_call w _ _ X hX)
  have HI := hideF hi
  have HN := hideF hN
  have HO := hideF hO
  have HFIN := hideF hfin
  unfold bookC at hX
  clear hi hN hO hfin hcase
  go_enter Tryz.func4, Tryz.ntmps4
  go_upto_region 2 with fail
  rw [<- hX]
  clear hX
  go_wp2_with fail
  refine HHC.out.mono ?_
  rintro e w4 ⟨v4, rfl, hc7⟩
  have HC7 := hideF hc7
  clear hc7 HHC
  go_wp2_with fail
  refine HC7.out.mono ?_
  rintro e w5 ⟨r5, rfl, c5, b5, hH5⟩
  obtain ⟨y0, y1, y2, y3, y4, y5, y6, y7, y8⟩ := cells9 hH5.b0
  have HN5 := hideF (HN.out w5 hH5.bl)
  have HH5 := hideF hH5
  clear hH5 HC7
  go_wp2_with fail
  refine HN5.out.mono ?_
  rintro e w6 ⟨rfl, hb6⟩
  have hH6 := HH5.out.bel hb6
  obtain ⟨z0, z1, z2, z3, z4, z5, z6, z7, z8⟩ := cells9 hH6.b0
  have hno : ∀ x, x < w.heap.size + 2 -> ¬ b5.on (w.heap.size + 2) x := fun x hx hb => by have := hH6.bk.hi x hb; omega
  have hi6 := HI.out.bel hH6.bl
  have HO6 := hideF (opens_any w6 (w.heap.size + 2) (w.heap.size + 2) 5 b5 s0 s1 s2 s3 c h u b n k nd k2 ad a2 ln f err [] (fun _ dv _ => dv = .pointer none) hH6.bk.bk (by omega) hi6.hv hi6.hsrc (by omega) (fun a ha => ⟨hi6.hlt a ha, hno _ (by have := HI.out.hlt a ha; omega)⟩) hi6.hd hi6.hdt (by omega) (fun a ha => ⟨hi6.hlt2 a ha, hno _ (by have := HI.out.hlt2 a ha; omega)⟩) (by simp) (fun w1 g2 k3 g cap _ h1 h2 h3 h4 _ => (HO.out w1 g2 k3 g cap h1 h2 h3 h4).mono (by
    rintro e w' ⟨rfl, hb⟩
    exact ⟨_, rfl, _, _, rfl, World.ownsRow_nil _ _ _ _, hb, rfl⟩)))
  have HNO := hideF hno
  have HBL6 := hideF hH6.bl
  clear hH6 hno hi6 HN5 HH5 y0 y1 y2 y3 y4 y5 y6 y7 y8
  go_wp2_with fail
  refine HO6.out.mono ?_
  rintro e w7 ⟨dv, ov, b7, N7, wO, rfl, hbk7, hK7, hov7, _, _, rfl, _⟩
  obtain ⟨ao, ko, rfl, _⟩ := own_view hov7
  have hB7 : Below w.heap.size w w7 := HBL6.out.trans ⟨hK7.os, hK7.tape, hK7.output, hK7.size, fun x hx => hK7.keep x (by have := HBL6.out.size; omega) (HNO.out x (by omega))⟩
  have HB7 := hideF hB7
  have HDT := hideF (HI.out.bel hB7).hdt
  clear hbk7 hK7 hov7 hB7 HO6 z0 z1 z2 z3 z4 z5 z6 z7 z8
  go_upto_region 11 with fail
  go_cut [16] from 65 to 73 (fun t wx => t = .bool (decide (nd < need ∨ 64 < nd)) /\ wx = w7)
  case first =>
    by_cases h1 : nd < need
    . have h1' : (nd : Int) < (need : Int) := by omega
      go_wp2
      go_meet
      exact ⟨by simp [h1], rfl⟩
    . have h1' : ¬ (nd : Int) < (need : Int) := by omega
      by_cases h2 : 64 < nd
      . have h2' : (64 : Int) < (nd : Int) := by omega
        go_wp2
        go_meet
        exact ⟨by simp [h2], rfl⟩
      . have h2' : ¬ (64 : Int) < (nd : Int) := by omega
        go_wp2
        go_meet
        exact ⟨by simp [h1, h2], rfl⟩
  case rest =>
    obtain ⟨rfl, rfl⟩ := hcut
    obtain ⟨b0, hb0⟩ : ∃ b0, b0 = decide (nd < need ∨ 64 < nd) := ⟨_, rfl⟩
    rw [<- hb0]
    have HB0 := hideF hb0
    clear hb0
    go_wp2_with fail
    go_loopw [16, 17] (fun bv iv wr => ∃ (bb : Bool) (i : Nat), bv = .bool bb /\ iv = .int .i64 (i : Nat) /\ i <= nd /\ (bb = true ↔ (nd < need ∨ 64 < nd ∨ ∃ j, j < i /\ (f j).size ≠ 64)) /\ wr = wc) (fun _ iv _ => nd - (intOf iv).toNat)
    case atStart => exact ⟨b0, 0, rfl, rfl, Nat.zero_le _, by rw [HB0.out]; simp, rfl⟩
    case round =>
      obtain ⟨bb, i, rfl, rfl, hil, hbb, rfl⟩ := hrel
      have HBB := hideF hbb
      clear hbb
      by_cases hin : i < nd
      . obtain ⟨x, oo, rfl, hx2, hx3⟩ := HDT.out i hin
        have HJL : Hid (i + 1 <= nd) := hin
        have HWJ : Hid (wrap64 ((i : Int) + 1) = ((i + 1 : Nat) : Int)) := by show _ = _; simp only [wrap64]; omega
        have hin' : (i : Int) < (nd : Int) := by omega
        cases bb
        . by_cases h64 : (f i).size = 64
          . have h64' : ((f i).size : Int) = 64 := by omega
            have H64 := hideF h64
            clear h64
            go_wp2
            go_roundw
            case rel =>
              refine ⟨false, i + 1, rfl, by first | rw [HWJ.out] | rfl, HJL.out, ?_, by first | rfl | trivial⟩
              have := HBB.out
              constructor
              . intro h; cases h
              . rintro (h | h | ⟨j, h1, h2⟩)
                . exact this.2 (.inl h)
                . exact this.2 (.inr (.inl h))
                . by_cases hj : j = i
                  . rw [hj] at h2; exact absurd H64.out h2
                  . exact this.2 (.inr (.inr ⟨j, by omega, h2⟩))
            case measure => have := HJL.out; first | (rw [HWJ.out]; simp only [intOf]; omega) | (simp only [intOf]; omega)
          . have h64' : ¬ ((f i).size : Int) = 64 := by omega
            have H64 := hideF h64
            clear h64
            go_wp2
            go_roundw
            case rel => exact ⟨true, i + 1, by simp [h64'], by first | rw [HWJ.out] | rfl, HJL.out, ⟨fun _ => .inr (.inr ⟨i, by omega, H64.out⟩), fun _ => rfl⟩, by first | rfl | trivial⟩
            case measure => have := HJL.out; first | (rw [HWJ.out]; simp only [intOf]; omega) | (simp only [intOf]; omega)
        . go_wp2
          go_roundw
          case rel =>
            refine ⟨true, i + 1, rfl, by first | rw [HWJ.out] | rfl, HJL.out, ⟨fun _ => ?_, fun _ => rfl⟩, by first | rfl | trivial⟩
            rcases HBB.out.1 rfl with h | h | ⟨j, h1, h2⟩
            . exact .inl h
            . exact .inr (.inl h)
            . exact .inr (.inr ⟨j, by omega, h2⟩)
          case measure => have := HJL.out; first | (rw [HWJ.out]; simp only [intOf]; omega) | (simp only [intOf]; omega)
      . obtain rfl : i = nd := by omega
        rcases HFIN.out with ⟨rfl, rfl⟩ | ⟨h0, rfl, hbd⟩
        . go_wp2
          go_ret
          exact ⟨rfl, HB7.out⟩
        . obtain rfl : bb = true := HBB.out.2 hbd
          have h0' : ¬ (need : Int) = 0 := by omega
          clear hbd h0
          go_wp2
          go_ret
          exact ⟨rfl, HB7.out⟩
end Go.Proofs.YtcpldcojckhapaaGreat
