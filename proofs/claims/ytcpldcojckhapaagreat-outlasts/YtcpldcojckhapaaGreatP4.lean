/-
  store.Save: what it answers.
-/
import Derived.Test.YtcpldcojckhapaaGreatP3
import Derived.Test.YtcpldcojckhapaaGreatV1
set_option maxRecDepth 100000
namespace Go.Proofs.YtcpldcojckhapaaGreat
open Go.RowKit

/-- The acts of a Save. -/
def saveW (sec lat st : Nat) (d : ByteArray) (i : Nat) : Int × Int × Int × ByteArray := (0, (lat * sec + i : Nat), 0, secB st (d.extract (i * 62) d.size))
def saveA (sec lat st : Nat) (d : ByteArray) : List (Int × Int × Int × ByteArray) := (List.range sec).map (saveW sec lat st d) ++ [(1, 0, 0, ⟨#[]⟩)]
theorem enter84 (x : Value) (w : World) : (callFunc 83 #[x]).run Tryz.prog w = .ok (.enter 83 #[x]) w := by kernel_rfl
theorem enter85 (x : Value) (w : World) : (callFunc 84 #[x]).run Tryz.prog w = .ok (.enter 84 #[x]) w := by kernel_rfl
theorem enter86 (x y z u v : Value) (w : World) : (callFunc 85 #[x, y, z, u, v]).run Tryz.prog w = .ok (.enter 85 #[x, y, z, u, v]) w := by kernel_rfl
theorem other_step (n m : Nat) (w : World) (hn : n ≤ 1) (hm : m = (n + 1) % 2) :
    Calls Tryz.prog 83 #[.int .i64 (n : Nat)] w fun e w' => ∃ v, e = .returned v ∧ (v = .int .i64 (m : Nat) ∧ w' = w) :=
  (other_at n m hm w (by omega)).mono fun _ _ h => ⟨_, h.1, rfl, h.2⟩
theorem next_step (n m : Nat) (w : World) (hn : n ≤ 3) (hm : m = n % 3 + 1) :
    Calls Tryz.prog 84 #[.int .u8 (n : Nat)] w fun e w' => ∃ v, e = .returned v ∧ (v = .int .u8 (m : Nat) ∧ w' = w) :=
  (next_at n m hm w (by omega)).mono fun _ _ h => ⟨_, h.1, rfl, h.2⟩
theorem secWrite_step (S sec lat i st : Nat) (b2 b3 : Value) (d : ByteArray) (w : World) (hS : w.heap[S]? = some (.cells #[.int .i64 (sec : Nat), b2, b3] 155 (0, 0))) (hsec : sec ≤ 100) (hlat : lat ≤ 100) (hi : i ≤ 100) (hst : st < 256) :
    Calls Tryz.prog 85 #[.pointer (some ⟨S, 0, none⟩), .int .i64 (lat : Nat), .int .i64 (i : Nat), .string d, .int .u8 (st : Nat)] w fun e w' => ∃ v, e = .returned v ∧ (v = .agg #[.int .u8 0, .int .i64 (lat * sec + i : Nat), .int .i64 0, .string (secB st d)] ∧ Below w.heap.size w w') :=
  (secWrite_any S sec lat i st b2 b3 d w hS hsec hlat hi hst).mono fun _ _ h => ⟨_, h.1, rfl, h.2⟩
theorem cells3f {W : World} {g : Nat} {t : TypeId} {a0 a1 a2 : Value} (h : W.heap[g]? = some (.cells #[a0, a1, a2] t (0, 0))) : W.cell? ⟨g, 0, none⟩ = some a0 ∧ W.cell? ⟨g, 1, none⟩ = some a1 ∧ W.cell? ⟨g, 2, none⟩ = some a2 ∧ ∀ j, W.frozen? ⟨g, j, none⟩ = false :=
  ⟨by rw [cell_of_row _ _ _ _ _ _ h]; rfl, by rw [cell_of_row _ _ _ _ _ _ h]; rfl, by rw [cell_of_row _ _ _ _ _ _ h]; rfl, fun j => frozen_of_row _ _ _ _ _ h⟩
theorem Chg1.grown {g : Nat} {w w' w2 : World} {row : Option Nat} (h : Chg1 g w w') (hg : w'.grownBy w2 row) (hr : ∀ k, row = some k → w.heap.size ≤ k) : Chg1 g w w2 :=
  ⟨hg.os.trans h.os, hg.tape.trans h.tape, hg.output.trans h.output, Nat.le_trans h.size hg.size, fun k hk hne => (hg.block k (Nat.lt_of_lt_of_le hk h.size) (fun e => by have := hr k e.symm; omega)).trans (h.block k hk hne)⟩
theorem saveW_succ (sec lat st q : Nat) (d : ByteArray) : ((List.range (q + 1)).map (saveW sec lat st d)).flatMap encA = ((List.range q).map (saveW sec lat st d)).flatMap encA ++ [.int .u8 0, .int .i64 (lat * sec + q : Nat), .int .i64 0, .string (secB st (d.extract (q * 62) d.size))] := by
  rw [List.range_succ, List.map_append, List.flatMap_append]; rfl
set_option maxRecDepth 100000 in
set_option maxHeartbeats 2000000 in
theorem save_any (S sec lat st lat' st' : Nat) (data : ByteArray) (w : World) (hS : w.heap[S]? = some (.cells #[.int .i64 (sec : Nat), .int .i64 (lat : Nat), .int .u8 (st : Nat)] 155 (0, 0))) (hsec : sec ≤ 64) (hd : ∀ i, i < sec → i * 62 ≤ data.size) (_hds : data.size ≤ 10000)
    (hlat : lat ≤ 1) (hst : st ≤ 3) (hl' : lat' = (lat + 1) % 2) (hs' : st' = st % 3 + 1) :
    Calls Tryz.prog 58 #[.pointer (some ⟨S, 0, none⟩), .string data] w fun e w' => ∃ v, e = .returned v ∧ w'.ownsRow w.heap.size 77 4 v (sec + 1) ((saveA sec lat' st' data).flatMap encA) ∧
      w'.heap[S]? = some (.cells #[.int .i64 (sec : Nat), .int .i64 (lat' : Nat), .int .u8 (st' : Nat)] 155 (0, 0)) ∧ Chg1 S w w' := by
  obtain ⟨i0, hi, hz0, hz1, hz2⟩ := info_parts Tryz.infoEA
  have hsl := lt_of_block hS
  obtain ⟨c0, c1, c2, cf⟩ := cells3f hS
  have b1 : lat' ≤ 1 := by omega
  have b2 : st' ≤ 3 := by omega
  have HL := hideF hl'
  have HT := hideF hs'
  have HS := hideF hS
  have HD := hideF hd
  clear hl' hs' hS hd
  go_enter Tryz.func58, Tryz.ntmps58
  go_wp2_with fail
  go_region_law (first
    | (refine step_call rfl 83 #[.tmp 12] #[3] rfl #[.int .i64 (lat : Nat)] (by simp [Act.eval]) (enter84 _ _) _ (other_step lat lat' _ hlat HL.out) ?_; rintro v w1 ⟨rfl, rfl⟩)
    | (refine step_call rfl 84 #[.tmp 17] #[5] rfl #[.int .u8 (st : Nat)] (by simp [Act.eval]) (enter85 _ _) _ (next_step st st' _ hst HT.out) ?_; rintro v w1 ⟨rfl, rfl⟩))
  all_goals
    obtain ⟨X, hX⟩ : ∃ X, X = ((w.setCell ⟨S, 1, none⟩ (.int .i64 (lat' : Nat))).setCell ⟨S, 2, none⟩ (.int .u8 (st' : Nat))).drew := ⟨_, rfl⟩
    rw [← hX]
    have hXS : X.heap[S]? = some (.cells #[.int .i64 (sec : Nat), .int .i64 (lat' : Nat), .int .u8 (st' : Nat)] 155 (0, 0)) := by
      rw [hX]
      have h1 := heap_setCell_same w S 1 _ 155 (.int .i64 (lat' : Nat)) HS.out
      have h2 := heap_setCell_same _ S 2 _ 155 (.int .u8 (st' : Nat)) h1
      exact h2
    have hXc : Chg1 S w X := by rw [hX]; exact (((Chg1.refl S w).setCell _ _).setCell _ _).drewN 1
    clear hX
    obtain ⟨x0, x1, x2, xf⟩ := cells3f hXS
    have HXS := hideF hXS
    have HXC := hideF hXc
    clear hXS hXc c0 c1 c2 cf
    go_wp2_with fail
    go_loopw [27, 5] (fun i v wr => ∃ q : Nat, q ≤ sec ∧ i = .int .i64 (q : Nat) ∧ wr.ownsRow w.heap.size 77 4 v q (((List.range q).map (saveW sec lat' st' data)).flatMap encA) ∧ wr.heap[S]? = some (.cells #[.int .i64 (sec : Nat), .int .i64 (lat' : Nat), .int .u8 (st' : Nat)] 155 (0, 0)) ∧ Chg1 S w wr) (fun i _ _ => sec - (intOf i).toNat)
    case atStart => exact ⟨0, by omega, rfl, World.ownsRow_nil _ _ _ _, HXS.out, HXC.out⟩
    case round =>
      obtain ⟨q, hq, rfl, hown, hst, hch⟩ := hrel
      have hsb := hch.size
      by_cases hlt : q < sec
      · have hqd := HD.out q hlt
        obtain ⟨y0, y1, y2, yf⟩ := cells3f hst
        have HST := hideF hst
        have HCH := hideF hch
        have HOW := hideF hown
        have HOWd : Hid (wr.drew.ownsRow w.heap.size 77 4 u5 q (((List.range q).map (saveW sec lat' st' data)).flatMap encA)) := own_same hown (fun g _ => rfl)
        have e1 : IntKind.i64.wrap ((q : Int) * 62) = (q : Int) * 62 := by rw [IntKind.wrap_i64]; omega
        have e2 : ((q : Int) * 62).toNat = q * 62 := by omega
        have e3 : (0 : Int) ≤ (q : Int) * 62 := by omega
        have e4 : (q : Int) * 62 ≤ (data.size : Int) := by omega
        clear hst hch hown
        go_wp2_with fail
        go_region_law (first
          | (refine step_call rfl 85 #[.tmp 31, .tmp 35, .tmp 36, .tmp 40, .tmp 44] #[106, 3, 3, 9, 5] rfl #[.pointer (some ⟨S, 0, none⟩), .int .i64 (lat' : Nat), .int .i64 (q : Nat), .string (data.extract (q * 62) data.size), .int .u8 (st' : Nat)] (by simp [Act.eval]) (enter86 _ _ _ _ _ _) _ (secWrite_step S sec lat' q st' _ _ (data.extract (q * 62) data.size) _ HST.out (by omega) (by omega) (by omega) (by omega)) ?_; rintro v w1 ⟨rfl, hb0⟩)
          | (refine step_append_own rfl (.tmp 30) (.tmp 46) 31 rfl w.heap.size 77 i0 _ 4 40 Tryz.underlying31 hi hz0 hz1 hz2 rfl (by decide) u5 q _ rfl ((ownsRow_below HOWd.out hb0).alloc _) ⟨w1.heap.size, 0, none⟩ 1 1 [.int .u8 0, .int .i64 (lat' * sec + q : Nat), .int .i64 0, .string (secB st' (data.extract (q * 62) data.size))] rfl rfl (cell_four_new _ _ _ _ _ _) (by intro u hu; simp at hu; rcases hu with rfl | rfl | rfl | rfl <;> rfl) (by unfold maxLen; omega) (by omega) (by have := hb0.size; simp at this ⊢; omega) ?_; intro v' w3 hown3 hgrow3))
        all_goals
          have hb1 := below_then_drew1 hb0
          have hS1 := (hb1.block S (by omega)).trans HST.out
          have HN : Hid (wr.heap.size ≤ w1.heap.size) := hb1.size
          have HC1 := hideF (((HCH.out.then_below hb1).alloc (.cells #[.int .u8 0, .int .i64 (lat' * sec + q : Nat), .int .i64 0, .string (secB st' (data.extract (q * 62) data.size))] 77)).grown hgrow3 (fun k hk => (HOW.out.lt k hk).1))
          have HS1 := hideF ((hgrow3.block S (by have := lt_of_block hS1; simp; omega) (fun e => by have := (HOW.out.lt S e.symm).1; omega)).trans ((heap_alloc_old w1 _ (lt_of_block hS1)).trans hS1))
          clear hS1 hb1 hb0 hgrow3 y0 y1 y2 yf
          go_wp2
          go_roundw
          case rel =>
            refine ⟨q + 1, by omega, by go_num, ?_, HS1.out, HC1.out⟩
            rw [saveW_succ]; exact hown3
          case measure => simp [intOf]; omega
      · obtain rfl : q = sec := by omega
        have HST := hideF hst
        have HCH := hideF hch
        have HOW := hideF hown
        clear hst hch hown
        go_wp2_with (at_builtin; refine wpList_append_own _ rfl (.tmp 49) (.tmp 51) 31 rfl w.heap.size 77 i0 _ 4 40 Tryz.underlying31 hi hz0 hz1 hz2 rfl (by decide) u5 q _ rfl (HOW.out.alloc _) ⟨wr.heap.size, 0, none⟩ 1 1 [.int .u8 1, .int .i64 0, .int .i64 0, .string ⟨#[]⟩] rfl rfl (cell_four_new _ _ _ _ _ _) (by intro u hu; simp at hu; rcases hu with rfl | rfl | rfl | rfl <;> rfl) (by unfold maxLen; omega) (by omega) (by simp; omega) ?_; intro v' w3 hown3 hgrow3 _)
        go_ret
        refine ⟨_, rfl, ?_, ?_, (HCH.out.alloc _).grown hgrow3 (fun k hk => (HOW.out.lt k hk).1)⟩
        · unfold saveA; rw [List.flatMap_append]; exact hown3
        · exact (hgrow3.block S (by simp; omega) (fun e => by have := (HOW.out.lt S e.symm).1; omega)).trans ((heap_alloc_old wr _ (by omega)).trans HST.out)
end Go.Proofs.YtcpldcojckhapaaGreat
