/-
  latch.Open over a blank disk of two sectors, where no coil is kept: what it answers.
  'string(b)' of a row of bytes.
  pack.Words: what it answers.
  strings.Clone answers the same bytes, in new memory; nothing that was there has turned.
-/
import Derived.Test.YtcpldcojckhapaaGreatJ5
import Derived.Test.YtcpldcojckhapaaGreatJ6
import Derived.Test.YtcpldcojckhapaaGreatE4
import Derived.Deep.RegionHeld3
import Derived.Test.YtcpldcojckhapaaGreatJ2
import Derived.WalkKit
import Derived.WalkSpells
import Derived.WalkLawsBesides
import Derived.Lib.BufferWrite
import Derived.Lib.UnsafeStr
import Derived.Laws.MakeOwn
import Derived.Below
set_option maxRecDepth 100000
namespace Go.Proofs.YtcpldcojckhapaaGreat
open Go.RowKit

theorem enter75 (x : Value) (w : World) : (callFunc 64 #[x]).run Tryz.prog w = .ok (.enter 64 #[x]) w := by kernel_rfl
theorem enter76 (x y : Value) (w : World) : (callFunc 65 #[x, y]).run Tryz.prog w = .ok (.enter 65 #[x, y]) w := by kernel_rfl
/-- The device that Open gives. -/
def dev0 (s0 s1 s2 s3 h u n b : Nat) (kn : Nat → Nat) (B : Nat) : Dev :=
  { unit := u, batch := b, nl := n, ln := fun i => ⟨kn i, ⟨#[]⟩, false⟩, sec := 1, sz := szF s0 s1 s2 s3, ent := fun _ _ => 0, kp := fun i => if i = 2 then h else 0, lat := 0, stamp := 0, arr := 0, uns := 0, wait := [], base := B }
theorem newLines_step (n k g : Nat) (kn : Nat → Nat) (w : World) (hn : n ≤ 100) (hg : g < w.heap.size) (hc : ∀ j, j < n → w.cell? ⟨g, j, none⟩ = some (.int .i64 (kn j : Nat))) :
    Calls Tryz.prog 64 #[.slice (some ⟨g, 0, none⟩) n k] w fun e w' => ∃ v, e = .returned v ∧ ∃ L, v = .slice (some ⟨L, 0, none⟩) n n ∧ (w.heap.size ≤ L ∧ Grid w' L 116 n 3 (fun i j => lnV (kn i) j) ∧ Below w.heap.size w w') := by
  refine (newLines_at n k g kn w hn hg hc).mono ?_
  rintro e w' ⟨rfl, hgr, hb⟩
  exact ⟨_, rfl, _, rfl, Nat.le_refl _, hgr, hb⟩
theorem zerosB_size (z : Nat) : (zerosB z).size = z := by
  show (Lib.repeatL [0] z).toArray.size = z
  rw [List.size_toArray, Lib.repeatL_length]; simp
theorem byt_listQ (s : ByteArray) (k : Nat) : Pl.byt s k = (s.data.toList.getD k 0).toNat := by
  unfold Pl.byt
  by_cases h : k < s.size
  · rw [dif_pos h, List.getD_eq_getElem?_getD]
    have h2 : k < s.data.toList.length := by rw [Array.length_toList]; exact h
    rw [List.getElem?_eq_getElem h2]
    rfl
  · rw [dif_neg h, List.getD_eq_getElem?_getD, List.getElem?_eq_none (by rw [Array.length_toList]; exact Nat.le_of_not_lt h)]
    rfl
theorem zerosB_byt (z k : Nat) : Pl.byt (zerosB z) k = 0 := by
  have hr : ∀ c, Lib.repeatL [0] c = List.replicate c (0 : UInt8) := by
    intro c
    induction c with
    | zero => rfl
    | succ c ih => rw [Lib.repeatL, ih]; rfl
  have hd : (zerosB z).data.toList = List.replicate z (0 : UInt8) := by
    show (Lib.repeatL [0] z).toArray.toList = _
    rw [List.toList_toArray, hr]
  rw [byt_listQ, hd, List.getD_eq_getElem?_getD, List.getElem?_replicate]
  split <;> rfl
theorem zerosB_wd (z k : Nat) : Pl.wd (zerosB z) k = 0 := by unfold Pl.wd; rw [zerosB_byt, zerosB_byt]
theorem newTables_step (s0 s1 s2 s3 c h u n k b z : Nat) (a : Option Addr) (w : World) (b0 : s0 ≤ 60) (b1 : s1 ≤ 60) (b2 : s2 ≤ 60) (b3 : s3 ≤ 60) (hc : c = 0) (hh : h ≤ s2) (hz : z = 2 * h) :
    Calls Tryz.prog 65 #[.agg #[.int .i64 (s0 : Nat), .int .i64 (s1 : Nat), .int .i64 (s2 : Nat), .int .i64 (s3 : Nat), .int .i64 (c : Nat), .int .i64 (h : Nat), .int .i64 (u : Nat), .slice a n k, .int .i64 (b : Nat)], .string (zerosB z)] w fun e w' => ∃ v, e = .returned v ∧ 
      ∃ E : Nat → Nat, v = .agg #[.slice (some ⟨E 0, 0, none⟩) s0 s0, .slice (some ⟨E 1, 0, none⟩) s1 s1, .slice (some ⟨E 2, 0, none⟩) s2 s2, .slice (some ⟨E 3, 0, none⟩) s3 s3, .int .i64 (c : Nat), .int .i64 0, .int .i64 (h : Nat), .int .i64 0] ∧ 
      ((∀ i, i < 4 → w.heap.size ≤ E i ∧ Grid w' (E i) 3 (szF s0 s1 s2 s3 i) 1 (fun _ _ => .int .i64 0)) ∧ (∀ i j, i < 4 → j < 4 → i ≠ j → E i ≠ E j) ∧ Below w.heap.size w w') := by
  refine (newTables_at s0 s1 s2 s3 c h u n k b a (zerosB z) w b0 b1 b2 b3 hc hh (by rw [zerosB_size, hz])).mono ?_
  rintro e w' ⟨rfl, g0, g1, g2, g3, hb⟩
  refine ⟨_, rfl, fun i => w.heap.size + 3 + i, rfl, fun i hi => ⟨show w.heap.size ≤ w.heap.size + 3 + i by omega, ?_⟩, fun i j _ _ hij => show w.heap.size + 3 + i ≠ w.heap.size + 3 + j by omega, hb⟩
  rcases (show i = 0 ∨ i = 1 ∨ i = 2 ∨ i = 3 by omega) with rfl | rfl | rfl | rfl
  · exact g0
  · exact g1
  · exact g2.congr fun i j _ _ => by rw [zerosB_wd]; simp
  · exact g3

theorem dev_new {W X : World} {L S B : Nat} {E : Nat → Nat} {s0 s1 s2 s3 h u n b c : Nat} {kn : Nat → Nat} (hc : c = 0) (hX : X = W.alloc (.cells #[.int .i64 (u : Nat), .int .i64 (b : Nat), .slice (some ⟨L, 0, none⟩) n n, .slice (some ⟨E 0, 0, none⟩) s0 s0, .slice (some ⟨E 1, 0, none⟩) s1 s1, .slice (some ⟨E 2, 0, none⟩) s2 s2, .slice (some ⟨E 3, 0, none⟩) s3 s3, .int .i64 (c : Nat), .int .i64 0, .int .i64 (h : Nat), .int .i64 0, .pointer (some ⟨S, 0, none⟩), .int .i64 0, .int .i64 0, .slice none 0 0] 110))
    (hL : Grid W L 116 n 3 (fun i j => lnV (kn i) j)) (hE : ∀ i, i < 4 → Grid W (E i) 3 (szF s0 s1 s2 s3 i) 1 (fun _ _ => .int .i64 0)) (hi : ∀ i j, i < 4 → j < 4 → i ≠ j → E i ≠ E j) (hS : W.heap[S]? = some (.cells #[.int .i64 1, .int .i64 0, .int .u8 0] 155 (0, 0))) (hB : B ≤ W.heap.size ∧ B ≤ L ∧ B ≤ S ∧ ∀ i, i < 4 → B ≤ E i) :
    DevIn X W.heap.size L S E (.slice none 0 0) (dev0 s0 s1 s2 s3 h u n b kn B) := by
  subst hc hX
  exact ⟨heap_alloc_new W _, hL.alloc _, fun i hi => (hE i hi).alloc _, hi, (heap_alloc_old W _ (lt_of_block hS)).trans hS, World.ownsRow_nil _ _ _ _, hB⟩

set_option maxRecDepth 100000 in
set_option maxHeartbeats 2000000 in
theorem open_blank (s0 s1 s2 s3 c h u n k b g g2 k2 : Nat) (kn : Nat → Nat) (A B : ByteArray) (w : World) (b0 : s0 ≤ 60) (b1 : s1 ≤ 60) (b2 : s2 ≤ 60) (b3 : s3 ≤ 60) (hc : c = 0) (bh : h ≤ s2) (bh2 : 2 * h ≤ 62) (bu1 : 1 ≤ u) (bu2 : u ≤ 247) (bn1 : 1 ≤ n) (bn2 : n ≤ 4) (bb1 : 1 ≤ b) (bb2 : b ≤ 8)
    (hg : g < w.heap.size) (hcell : ∀ j, j < n → w.cell? ⟨g, j, none⟩ = some (.int .i64 (kn j : Nat))) (hk : ∀ j, j < n → kn j ≤ 1)
    (hk2 : 2 ≤ k2) (hg2 : g2 < w.heap.size) (h0 : w.cell? ⟨g2, 0, none⟩ = some (.string A)) (h1 : w.cell? ⟨g2, 1, none⟩ = some (.string B)) (hA : A.size = 64) (hB : B.size = 64) (sA : 0 = stampL A) (sB : 0 = stampL B) (eA : Pl.byt A 63 = 0) (eB : Pl.byt B 63 = 0) :
    Calls Tryz.prog 25 #[.agg #[.int .i64 (s0 : Nat), .int .i64 (s1 : Nat), .int .i64 (s2 : Nat), .int .i64 (s3 : Nat), .int .i64 (c : Nat), .int .i64 (h : Nat), .int .i64 (u : Nat), .slice (some ⟨g, 0, none⟩) n k, .int .i64 (b : Nat)], .slice (some ⟨g2, 0, none⟩) 2 k2] w fun e w' => 
      ∃ d, e = .returned (.tuple #[.pointer (some ⟨d, 0, none⟩), .slice none 0 0, .int .i64 0]) ∧ DevAt w' d (dev0 s0 s1 s2 s3 h u n b kn w.heap.size) ∧ Below w.heap.size w w' := by
  obtain ⟨W, hW, hWs, hWb, hWg⟩ := cfg_new w s0 s1 s2 s3 c h u b (.slice (some ⟨g, 0, none⟩) n k)
  have HC0 := hideF hc
  have hcc : c ≤ s0 := by omega
  have hc6 : c ≤ 60 := by omega
  obtain ⟨z, hz⟩ : ∃ z, z = 2 * h := ⟨_, rfl⟩
  have HZ := hideF hz
  have hzl : z ≤ 62 := by omega
  have HKS : Hid (z = (c + 7) / 8 + 2 * h) := by show z = _; omega
  have HND : Hid (2 = 2 * max 1 (((c + 7) / 8 + 2 * h + 61) / 62)) := by show 2 = _; omega
  clear hc hz
  have hcW : ∀ j, j < n → W.cell? ⟨g, j, none⟩ = some (.int .i64 (kn j : Nat)) := fun j hj => by rw [(bcell hWb).1 g j hg]; exact hcell j hj
  have HCW := hideF hcW
  have d0 : Hid (W.cell? ⟨g2, 0, none⟩ = some (.string A)) := by show _ = _; rw [(bcell hWb).1 g2 _ hg2]; exact h0
  have d1 : Hid (W.cell? ⟨g2, 1, none⟩ = some (.string B)) := by show _ = _; rw [(bcell hWb).1 g2 _ hg2]; exact h1
  have HGW := hideF hWg
  have HBW := hideF hWb
  have HHA := hideF hA
  have HHB := hideF hB
  have HSA := hideF sA
  have HSB := hideF sB
  have HEA := hideF eA
  have HEB := hideF eB
  obtain ⟨c0, c1, c2, c3, c4, c5, c6, c7, c8⟩ := cells9 hWg
  clear hcell h0 h1 hA hB sA sB eA eB hWg hWb hcW
  go_enter Tryz.func25, Tryz.ntmps25
  go_wp2_with fail
  rw [← hW]
  clear hW
  refine (need_at s0 s1 s2 s3 c h u n k b g 2 kn W b0 b1 b2 b3 hcc bh bu1 bu2 bn1 bn2 bb1 bb2 (by omega) HCW.out hk HND.out).mono ?_
  rintro e w1 ⟨rfl, hb1⟩
  have HB1 := hideF hb1
  have hs1 := hb1.size
  have hg1 := (hb1.block w.heap.size (by omega)).trans HGW.out
  have HG1 := hideF hg1
  clear c0 c1 c2 c3 c4 c5 c6 c7 c8 hb1
  obtain ⟨c0, c1, c2, c3, c4, c5, c6, c7, c8⟩ := cells9 hg1
  clear hg1
  go_wp2_with fail
  refine (fits_at 2 2 g2 k2 (fun j => if j = 0 then A else B) w1 (Nat.le_refl _) (by omega) ?_ ?_).mono ?_
  · intro j hj
    rcases (show j = 0 ∨ j = 1 by omega) with rfl | rfl
    · rw [(bcell HB1.out).1 g2 _ (by omega)]; exact d0.out
    · rw [(bcell HB1.out).1 g2 _ (by omega)]; exact d1.out
  · intro j hj
    rcases (show j = 0 ∨ j = 1 by omega) with rfl | rfl
    · exact HHA.out
    · exact HHB.out
  rintro e w2 ⟨rfl, rfl⟩
  go_wp2_with fail
  refine (keptSize_at s0 s1 s2 s3 c h u n k b z (some ⟨g, 0, none⟩) w2 hc6 (by omega) HKS.out).mono ?_
  rintro e w3 ⟨rfl, hb3⟩
  have HB3 := hideF (bel_then HB1.out hb3)
  have hs3 := hb3.size
  clear hb3
  go_wp2_with fail
  refine (storeOpen_blank z g2 k2 A B w3 hzl hk2 (by omega) (by rw [(bcell HB3.out).1 g2 _ (by omega)]; exact d0.out) (by rw [(bcell HB3.out).1 g2 _ (by omega)]; exact d1.out) HHA.out HHB.out HSA.out HSB.out HEA.out HEB.out).mono ?_
  rintro e w4 ⟨rfl, hst4, hb4⟩
  have HB4 := hideF (bel_then HB3.out hb4)
  have HST := hideF hst4
  have hs4 := hb4.size
  have hg4 := (HB4.out.block w.heap.size (by omega)).trans HGW.out
  have HG4 := hideF hg4
  have HL4 : Hid (w3.heap.size < w4.heap.size) := lt_of_block hst4
  clear c0 c1 c2 c3 c4 c5 c6 c7 c8 hb4 hst4
  obtain ⟨c0, c1, c2, c3, c4, c5, c6, c7, c8⟩ := cells9 hg4
  clear hg4
  have hn0 : w.heap.size < w4.heap.size := by omega
  have HK4 : Hid (∀ j, j < n → w4.cell? ⟨g, j, none⟩ = some (.int .i64 (kn j : Nat))) := fun j hj => by rw [(bcell HB4.out).1 g j (by omega)]; exact HCW.out j hj
  go_wp2_with fail
  go_region_held3 (fun w' => w'.cell? ⟨w.heap.size, 0, none⟩ = some (.int .i64 (s0 : Nat)) ∧ w'.cell? ⟨w.heap.size, 1, none⟩ = some (.int .i64 (s1 : Nat)) ∧ w'.cell? ⟨w.heap.size, 2, none⟩ = some (.int .i64 (s2 : Nat)) ∧ w'.cell? ⟨w.heap.size, 3, none⟩ = some (.int .i64 (s3 : Nat)) ∧ w'.cell? ⟨w.heap.size, 4, none⟩ = some (.int .i64 (c : Nat)) ∧ w'.cell? ⟨w.heap.size, 5, none⟩ = some (.int .i64 (h : Nat)) ∧ w'.cell? ⟨w.heap.size, 6, none⟩ = some (.int .i64 (u : Nat)) ∧ w'.cell? ⟨w.heap.size, 7, none⟩ = some (.slice (some ⟨g, 0, none⟩) n k) ∧ w'.cell? ⟨w.heap.size, 8, none⟩ = some (.int .i64 (b : Nat))) (go_keep)
    (first
      | (go_at_call 64; refine (newLines_at n k g kn _ (by omega) (by first | (simp; omega) | omega) (fun j hj => by exact HK4.out j hj)).mono ?_; rintro e w5 ⟨rfl, hGL, hb5⟩; have hb5' := below_then_drew1 hb5; have hs5 := hb5'.size; have hg5 := (hb5'.block w.heap.size hn0).trans HG4.out; obtain ⟨f0, f1, f2, f3, f4, f5, f6, f7, f8⟩ := cells9 hg5)
      | (go_at_call 65; refine (newTables_step s0 s1 s2 s3 c h u n k b z (some ⟨g, 0, none⟩) _ b0 b1 b2 b3 HC0.out bh HZ.out).mono ?_; rintro e w6 ⟨v, rfl, E, rfl, hE6, hi6, hb6⟩; have hs6 := hb6.size; have hg6 := (hb6.block w.heap.size (by omega)).trans hg5; obtain ⟨p0, p1, p2, p3, p4, p5, p6, p7, p8⟩ := cells9 hg6))
  obtain ⟨X, hX⟩ : ∃ X, X = w6.alloc (.cells #[.int .i64 (u : Nat), .int .i64 (b : Nat), .slice (some ⟨w4.heap.size, 0, none⟩) n n, .slice (some ⟨E 0, 0, none⟩) s0 s0, .slice (some ⟨E 1, 0, none⟩) s1 s1, .slice (some ⟨E 2, 0, none⟩) s2 s2, .slice (some ⟨E 3, 0, none⟩) s3 s3, .int .i64 (c : Nat), .int .i64 0, .int .i64 (h : Nat), .int .i64 0, .pointer (some ⟨w3.heap.size, 0, none⟩), .int .i64 0, .int .i64 0, .slice none 0 0] 110) := ⟨_, rfl⟩
  have hD := dev_new (kn := kn) HC0.out hX (Grid.below hGL hb6 (by have := hGL.lt; simpa using this)) (fun i hi => (hE6 i hi).2) hi6 ((hb6.block _ (by have := HL4.out; omega)).trans ((hb5'.block _ HL4.out).trans HST.out)) (B := w.heap.size) ⟨by omega, by omega, by omega, fun i hi => Nat.le_trans (by omega) (hE6 i hi).1⟩
  have hBX : Below w.heap.size w X := by rw [hX]; exact bel_alloc (bel_then (bel_then (bel_then HBW.out HB4.out) hb5') hb6) _
  have HD := hideF hD
  have HBX := hideF hBX
  clear hD hBX
  go_wp2_with fail
  rw [← hX]
  clear hX
  go_wp2
  refine bodyPost_ret (v := .tuple #[.pointer (some ⟨w6.heap.size, 0, none⟩), .slice none 0 0, .int .i64 0]) (by simp [results, Tryz.results25, go_sem]) rfl ⟨_, rfl, ⟨_, _, _, _, HD.out⟩, HBX.out⟩
end Go.Proofs.YtcpldcojckhapaaGreat

set_option maxRecDepth 100000
namespace Go.Proofs.YtcpldcojckhapaaGreat
open Go.RowKit

/-- Numbers as bytes. -/
def bytesOf (l : List Int) : ByteArray := ⟨(l.map fun n => UInt8.ofNat n.toNat).toArray⟩
theorem push_foldQ (l : List Int) : ∀ acc : ByteArray, (l.foldl (fun r n => r.push (UInt8.ofNat n.toNat)) acc).data.toList = acc.data.toList ++ l.map fun n => UInt8.ofNat n.toNat := by
  induction l with
  | nil => intro acc; simp
  | cons n l ih => intro acc; rw [List.foldl_cons, ih, List.map_cons]; simp
theorem conv_row (W : World) (g n c : Nat) (l : List Int) (hl : l.length = n) (hc : ∀ j x, l[j]? = some x → W.cell? ⟨g, j, none⟩ = some (.int .u8 x)) : (convert 114 9 (.slice (some ⟨g, 0, none⟩) n c)).run Tryz.prog W = .ok (.string (bytesOf l)) W := by
  subst hl
  rw [run_convert_bytes_string _ 114 9 5 _ _ c Tryz.underlying114 Tryz.underlying5 Tryz.underlying9, run_bytesToString _ _ _ c l]
  · congr 2
    apply ByteArray.ext
    apply Array.toList_inj.1
    rw [push_foldQ]
    simp [bytesOf]
  · have h := run_loadCells_list (P := Tryz.prog) W ⟨g, 0, none⟩ (l.map fun x => Value.int .u8 x) (fun j v hj => by
      have e : ((⟨g, 0, none⟩ : Addr).add j) = ⟨g, j, none⟩ := by by_cases h0 : j = 0 <;> simp [Addr.add, h0]
      rw [e]
      rw [List.getElem?_map] at hj
      obtain ⟨x, hx, rfl⟩ := Option.map_eq_some_iff.1 hj
      exact hc j x hx)
    rw [List.length_map] at h
    exact h
theorem infoU8Q : (Tryz.prog.info? 5).map (fun i => (i.zero, i.size, i.bytes)) = some (some (.int .u8 0), 1, 1) := by kernel_rfl
theorem made_bytesQ (n : Nat) (h : n ≤ 100000) (W : World) : (Instr.makeSlice 114 (.int .i64 (n : Int)) (.int .i64 (n : Int))).run Tryz.prog W = .ok (.slice (some ⟨W.heap.size, 0, none⟩) n n) (W.alloc (.cells (madeCells #[.int .u8 0] n) 5)) :=
  run_make_row' 114 5 _ 1 Tryz.underlying114 infoU8Q rfl .i64 .i64 n (by omega) (by omega) W
theorem madeBytes_at (n j : Nat) (h : j < n) : (madeCells #[.int .u8 0] n)[j]? = some (.int .u8 0) := by
  rw [← Array.getElem?_toList, toList_madeCells_one, List.getElem?_replicate, if_pos h]
/-- A blank sector. -/
def blank64 : ByteArray := bytesOf (List.replicate 64 0)
theorem blank64_list : blank64.data.toList = List.replicate 64 (0 : UInt8) := by decide +kernel
theorem blank64_size : blank64.size = 64 := by decide +kernel
end Go.Proofs.YtcpldcojckhapaaGreat

set_option maxRecDepth 100000
namespace Go.Proofs.YtcpldcojckhapaaGreat
open Go.RowKit

/-- Numbers as words, as numbers of bytes. -/
def wordsI (l : List Nat) : List Int := l.flatMap fun n => [((n / 256 : Nat) : Int), ((n % 256 : Nat) : Int)]
def wordsB (l : List Nat) : ByteArray := bytesOf (wordsI l)
def byteV (x : Int) : Value := .int .u8 x
theorem wordsI_len (l : List Nat) : (wordsI l).length = 2 * l.length := by
  induction l with
  | nil => rfl
  | cons x l ih => unfold wordsI at ih ⊢; rw [List.flatMap_cons, List.length_append, ih]; simp; omega
theorem conv_own (W : World) (B n : Nat) (v : Value) (l : List Int) (hl : l.length = n) (h : W.ownsRow B 5 1 v n (l.map byteV)) : (convert 114 9 v).run Tryz.prog W = .ok (.string (bytesOf l)) W := by
  rcases h.2 with ⟨rfl, h0⟩ | ⟨g, cap, cur, rfl, hb, hg, h1, h2, h3, h4⟩
  · obtain rfl : l = [] := List.eq_nil_of_length_eq_zero (by omega)
    kernel_rfl
  · refine conv_row W g n cap l hl fun j x hj => ?_
    rw [cell_of_row W g j cur 5 (0, 0) hg, ← Array.getElem?_toList]
    have hj' : j < n := by rw [← hl]; exact (List.getElem?_eq_some_iff.1 hj).1
    have e : (cur.toList.take (n * 1))[j]? = cur.toList[j]? := List.getElem?_take_of_lt (by omega)
    rw [← e, h4, List.getElem?_map, hj]
    rfl
theorem cell_two_new (w : World) (a b : Value) (t : TypeId) : ∀ j u, [a, b][j]? = some u → (w.alloc (.cells #[a, b] t)).cell? ((⟨w.heap.size, 0, none⟩ : Addr).add j) = some u := by
  intro j u hj
  match j, hj with
  | 0, hj => simp at hj; subst hj; simp [Addr.add]
  | 1, hj => simp at hj; subst hj; simp [Addr.add]

set_option maxRecDepth 100000 in
set_option maxHeartbeats 1000000 in
theorem words_any (l : List Nat) (n c g off : Nat) (a : Option Addr) (w : World) (hl : l.length = n) (hn : n ≤ 10000) (h16 : ∀ x ∈ l, x < 65536) (hg : g < w.heap.size)
    (ha : 0 < n → a = some ⟨g, off, none⟩) (hc : ∀ j x, l[j]? = some x → w.cell? ⟨g, off + j, none⟩ = some (.int .i64 (x : Nat))) :
    Calls Tryz.prog 87 #[.slice a n c] w fun e w' => e = .returned (.string (wordsB l)) ∧ Below w.heap.size w w' := by
  obtain ⟨i0, hi, hz0, hz1, hz2⟩ := info_parts infoU8Q
  have hmk : ∀ W : World, (Instr.makeSlice 114 (.int .i64 0) (.int .i64 (2 * (n : Int)))).run Tryz.prog W = .ok (.slice (some ⟨W.heap.size, 0, none⟩) 0 (2 * n)) (W.alloc (.cells (madeCells #[.int .u8 0] (2 * n)) 5)) := fun W => by
    have h := run_make (P := Tryz.prog) W 114 5 i0 (.int .u8 0) Tryz.underlying114 hi hz0 .i64 .i64 0 (2 * (n : Int)) (by omega) (by omega) (by rw [hz2]; omega) (by omega)
    rw [hz1] at h
    have e : (2 * (n : Int)).toNat = 2 * n := by omega
    simpa [Value.cells, e] using h
  obtain ⟨M, hM⟩ : ∃ M, M = madeCells #[Value.int .u8 0] (2 * n) := ⟨_, rfl⟩
  have hMs : M.size = 2 * n * 1 := by rw [hM, size_madeCells]; omega
  rw [← hM] at hmk
  have w2 : IntKind.i64.wrap (2 * (n : Int)) = 2 * (n : Int) := by rw [IntKind.wrap_i64]; omega
  have HC := hideF hc
  have H16 := hideF h16
  have HA := hideF ha
  have HL := hideF hl
  have HM := hideF hMs
  clear hc h16 ha hl hM hMs
  go_enter Tryz.func87, Tryz.ntmps87
  go_wp2_with fail
  go_loopw [12, 3] (fun i s wr => ∃ q : Nat, q ≤ n ∧ i = .int .i64 (q : Nat) ∧ wr.ownsRow w.heap.size 5 1 s (2 * q) ((wordsI (l.take q)).map byteV) ∧ Below w.heap.size w wr) (fun i _ _ => n - (intOf i).toNat)
  case atStart => exact ⟨0, by omega, rfl, World.ownsRow_made w M (2 * n) (Nat.le_refl _) (by unfold maxLen; omega) HM.out, bel_alloc (Below.refl _ _) _⟩
  case round =>
    obtain ⟨q, hq, rfl, hown, hb⟩ := hrel
    have hsb := hb.size
    by_cases hlt : q < n
    · obtain ⟨x, hx⟩ : ∃ x, l[q]? = some x := ⟨_, List.getElem?_eq_getElem (by rw [HL.out]; exact hlt)⟩
      have hx16 : x < 65536 := H16.out x (List.mem_of_getElem? hx)
      have hkc : wr.cell? ⟨g, off + q, none⟩ = some (.int .i64 (x : Nat)) := by rw [(bcell hb).1 g _ hg]; exact HC.out q x hx
      have hae := HA.out (by omega)
      have HT := hideF (take_succ_at l q x hx)
      subst hae
      have HO := hideF hown
      have HB := hideF hb
      have e1 : IntKind.u8.wrap ((x : Int) / 256) = ((x / 256 : Nat) : Int) := by rw [IntKind.wrap_u8]; omega
      have e2 : IntKind.u8.wrap (x : Int) = ((x % 256 : Nat) : Int) := by rw [IntKind.wrap_u8]; omega
      clear hown hb hx
      go_wp2_with (at_builtin; refine wpList_append_own _ rfl (.tmp 16) (.tmp 22) 114 rfl w.heap.size 5 i0 (.int .u8 0) 1 1 Tryz.underlying114 hi hz0 hz1 hz2 rfl (by decide) u3 (2 * q) _ rfl (HO.out.alloc _) ⟨wr.heap.size, 0, none⟩ 2 2 [.int .u8 (x / 256 : Nat), .int .u8 (x % 256 : Nat)] rfl rfl (cell_two_new _ _ _ _) (by intro u hu; simp at hu; rcases hu with rfl | rfl <;> rfl) (by unfold maxLen; omega) (by omega) (by simp; omega) ?_; intro v' w3 hown3 hgrow3 _)
      go_roundw
      case rel =>
        refine ⟨q + 1, by omega, by go_num, ?_, ?_⟩
        · rw [HT.out]
          unfold wordsI
          rw [List.flatMap_append, List.map_append, show 2 * (q + 1) = 2 * q + 2 by omega]
          exact hown3
        · exact (HB.out.alloc HB.out.size _).grown hgrow3 (by have := HB.out.size; simp; omega) (fun k hk => (HO.out.lt k hk).1)
      case measure => simp [intOf]; omega
    · obtain rfl : q = n := by omega
      rw [List.take_of_length_le (by rw [HL.out]; exact Nat.le_refl _)] at hown
      have hcv := conv_own wr w.heap.size (2 * q) u3 (wordsI l) (by rw [wordsI_len, HL.out]) hown
      go_wp2
      go_ret
      exact ⟨rfl, hb⟩
end Go.Proofs.YtcpldcojckhapaaGreat

set_option maxRecDepth 100000
namespace Go.Proofs.YtcpldcojckhapaaGreat
open Go.RowKit

theorem Tryz.info5 : (Tryz.prog.info? 5).map (fun i => (i.zero, i.size, i.bytes)) = some (some (.int .u8 0), 1, 1) := by kernel_rfl

set_option maxRecDepth 100000 in
set_option maxHeartbeats 1000000 in
theorem slClone_any (s : ByteArray) (w : World) (hs : s.size ≤ 4194304) :
    Calls Tryz.prog 112 #[.string s] w fun e w' => e = .returned (.string s) ∧ Below w.heap.size w w' := by
  by_cases h0 : s.size = 0
  · obtain rfl : s = ⟨#[]⟩ := ByteArray.ext (Array.eq_empty_of_size_eq_zero h0)
    go_enter Tryz.func112, Tryz.ntmps112
    go_wp2
    go_ret
    exact ⟨rfl, Below.refl _ _⟩
  · obtain ⟨i0, hi, hz0, hz1, hz2⟩ := info_parts Tryz.info5
    have hinfo : (Tryz.prog.info? 5).map (·.size) = some 1 := by rw [hi]; simp [hz1]
    have hco : Tryz.prog.cellsOf 5 = 1 := by kernel_rfl
    obtain ⟨M, hM⟩ : ∃ M, M = madeCells (Value.int .u8 0).cells (((s.size : Nat) : Int).toNat * i0.size) := ⟨_, rfl⟩
    have hMs : M.size = s.size := by rw [hM, size_madeCells, hz1]; simp
    have hmk : ∀ W : World, (Instr.makeSlice 114 (.int .i64 (s.size : Int)) (.int .i64 (s.size : Int))).run Tryz.prog W = .ok (.slice (some ⟨W.heap.size, 0, none⟩) s.size s.size) (W.alloc (.cells M 5)) := fun W => by
      have h := run_make (P := Tryz.prog) W 114 5 i0 (.int .u8 0) Tryz.underlying114 hi hz0 .i64 .i64 (s.size : Int) (s.size : Int) (by omega) (by omega) (by rw [hz2]; omega) (by omega)
      rw [← hM] at h
      simpa using h
    clear hM
    have hcp := Lib.run_copy_row_string (P := Tryz.prog) (w.alloc (.cells M 5)) 114 9 3 5 w.heap.size 0 s.size s.size s M 5 Tryz.underlying114 hinfo (heap_alloc_new w _) (Nat.le_refl _) (by omega)
    obtain ⟨Y, hY⟩ : ∃ Y, Y = (M.toList.take 0 ++ Lib.byteCells s.data.toList ++ M.toList.drop (0 + s.size)).toArray := ⟨_, rfl⟩
    rw [← hY] at hcp
    have hYl : Y.toList = Lib.byteCells s.data.toList := by
      rw [hY, List.toList_toArray, List.take_zero, List.nil_append, List.drop_of_length_le (by rw [Array.length_toList]; omega), List.append_nil]
    have hYs : Y.size = s.size := by rw [← Array.length_toList, hYl, Lib.byteCells_length, ← Lib.size_eq]
    have hgY : ((w.alloc (.cells M 5)).setRow w.heap.size Y).heap[w.heap.size]? = some (.cells Y 5 (0, 0)) := setRow_heap _ _ M _ 5 (0, 0) (heap_alloc_new w _)
    have hne : s.data.toList ≠ [] := fun e => h0 (by rw [Lib.size_eq, e]; rfl)
    have hUS := Lib.run_unsafeString_row (P := Tryz.prog) ((w.alloc (.cells M 5)).setRow w.heap.size Y) 217 3 9 5 Tryz.underlying217 hco w.heap.size Y.size (by unfold World.shape?; rw [hgY]) s.data.toList hne (by rw [← Lib.size_eq]; omega) (by rw [← Lib.size_eq]; omega)
      (fun j x hx => Lib.cells_of_row hgY Y.size j _ (by rw [List.take_of_length_le (by rw [Array.length_toList]; exact Nat.le_refl _), hYl]; simp [Lib.byteCells, hx]))
    rw [← Lib.size_eq] at hUS
    clear hY
    go_enter Tryz.func112, Tryz.ntmps112
    go_wp2
    go_ret
    have hb1 : Below w.heap.size w (w.alloc (.cells M 5)) := (Below.refl _ w).alloc (Nat.le_refl _) _
    have hb2 : Below w.heap.size (w.alloc (.cells M 5)) ((w.alloc (.cells M 5)).setRow w.heap.size Y) := ⟨rfl, rfl, rfl, by simp, fun k hk => setRow_other _ _ _ _ (by omega)⟩
    exact ⟨rfl, Lib.below_freeze (hb1.trans hb2) (p := ⟨w.heap.size, 0, none⟩) (Nat.le_refl _) _⟩

set_option maxRecDepth 100000 in
set_option maxHeartbeats 400000 in
theorem clone_any (s : ByteArray) (w : World) (hs : s.size ≤ 4194304) :
    Calls Tryz.prog 76 #[.string s] w fun e w' => e = .returned (.string s) ∧ Below w.heap.size w w' := by
  go_enter Tryz.func76, Tryz.ntmps76
  go_wp2_with fail
  refine (slClone_any s _ hs).mono ?_
  rintro e w' ⟨rfl, hb⟩
  go_wp2
  go_ret
  exact ⟨rfl, hb⟩
end Go.Proofs.YtcpldcojckhapaaGreat
