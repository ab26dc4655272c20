/-
  
-/
import Derived.Test.YtcpldcojckhapaaGreatJ22
import Derived.Test.YtcpldcojckhapaaGreatJ23
import Derived.Test.YtcpldcojckhapaaGreatE4
import Derived.Deep.RegionHeld3
import Derived.Test.YtcpldcojckhapaaGreatJ21
set_option maxRecDepth 100000
namespace Go.Proofs.YtcpldcojckhapaaGreat
open Go.RowKit
def dev0 (s0 s1 s2 s3 h u n b : Nat) (kn : Nat -> Nat) (B : Nat) : Dev :=
  { unit := u, batch := b, nl := n, ln := fun i => ⟨kn i, ⟨#[]⟩, false⟩, sec := 1, sz := szF s0 s1 s2 s3, ent := fun _ _ => 0, kp := fun i => if i = 2 then h else 0, lat := 0, stamp := 0, arr := 0, uns := 0, wait := [], base := B }
theorem zerosB_size (z : Nat) : (zerosB z).size = z := by
  show (Lib.repeatL [0] z).toArray.size = z
  rw [List.size_toArray, Lib.repeatL_length]; simp
theorem byt_listQ (s : ByteArray) (k : Nat) : Pl.byt s k = (s.data.toList.getD k 0).toNat := by
  unfold Pl.byt
  by_cases h : k < s.size
  . rw [dif_pos h, List.getD_eq_getElem?_getD]
    have h2 : k < s.data.toList.length := by rw [Array.length_toList]; exact h
    rw [List.getElem?_eq_getElem h2]
    rfl
  . rw [dif_neg h, List.getD_eq_getElem?_getD, List.getElem?_eq_none (by rw [Array.length_toList]; exact Nat.le_of_not_lt h)]
    rfl
theorem zerosB_byt (z k : Nat) : Pl.byt (zerosB z) k = 0 := by
  have hr : ∀ c, Lib.repeatL [0] c = List.replicate c (0 : UInt8) := by
    intro c
    induction c with
    | zero => rfl
    | succ c ih => rw [Lib.repeatL, ih]; rfl
  have hd : (zerosB z).data.toList = List.replicate z (0 : UInt8) := by
    show (Lib.repeatL [0] z).toArray.toList = _
    rw [List.toList_toArray, hr]
  rw [byt_listQ, hd, List.getD_eq_getElem?_getD, List.getElem?_replicate]
  split <;> rfl
theorem zerosB_wd (z k : Nat) : Pl.wd (zerosB z) k = 0 := by unfold Pl.wd; rw [zerosB_byt, zerosB_byt]
theorem newTables_step (s0 s1 s2 s3 c h u n k b z : Nat) (a : Option Addr) (w : World) (b0 : s0 <= 60) (b1 : s1 <= 60) (b2 : s2 <= 60) (b3 : s3 <= 60) (hc : c = 0) (hh : h <= s2) (hz : z = 2 * h) :
    Calls Tryz.prog 65 #[.agg #[.int .i64 (s0 : Nat), .int .i64 (s1 : Nat), .int .i64 (s2 : Nat), .int .i64 (s3 : Nat), .int .i64 (c : Nat), .int .i64 (h : Nat), .int .i64 (u : Nat), .slice a n k, .int .i64 (b : Nat)], .string (zerosB z)] w fun e w' => ∃ v, e = .returned v /\ 
      ∃ E : Nat -> Nat, v = .agg #[.slice (some ⟨E 0, 0, none⟩) s0 s0, .slice (some ⟨E 1, 0, none⟩) s1 s1, .slice (some ⟨E 2, 0, none⟩) s2 s2, .slice (some ⟨E 3, 0, none⟩) s3 s3, .int .i64 (c : Nat), .int .i64 0, .int .i64 (h : Nat), .int .i64 0] /\ 
      ((∀ i, i < 4 -> w.heap.size <= E i /\ Grid w' (E i) 3 (szF s0 s1 s2 s3 i) 1 (fun _ _ => .int .i64 0)) /\ (∀ i j, i < 4 -> j < 4 -> i ≠ j -> E i ≠ E j) /\ Below w.heap.size w w') := by
  refine (newTables_at s0 s1 s2 s3 c h u n k b a (zerosB z) w b0 b1 b2 b3 hc hh (by rw [zerosB_size, hz])).mono ?_
  rintro e w' ⟨rfl, g0, g1, g2, g3, hb⟩
  refine ⟨_, rfl, fun i => w.heap.size + 3 + i, rfl, fun i hi => ⟨show w.heap.size <= w.heap.size + 3 + i by omega, ?_⟩, fun i j _ _ hij => show w.heap.size + 3 + i ≠ w.heap.size + 3 + j by omega, hb⟩
  rcases (show i = 0 ∨ i = 1 ∨ i = 2 ∨ i = 3 by omega) with rfl | rfl | rfl | rfl
  . exact g0
  . exact g1
  . exact g2.congr fun i j _ _ => by rw [zerosB_wd]; simp
  . exact g3
theorem dev_new {W X : World} {L S B : Nat} {E : Nat -> Nat} {s0 s1 s2 s3 h u n b c : Nat} {kn : Nat -> Nat} (hc : c = 0) (hX : X = W.alloc (.cells #[.int .i64 (u : Nat), .int .i64 (b : Nat), .slice (some ⟨L, 0, none⟩) n n, .slice (some ⟨E 0, 0, none⟩) s0 s0, .slice (some ⟨E 1, 0, none⟩) s1 s1, .slice (some ⟨E 2, 0, none⟩) s2 s2, .slice (some ⟨E 3, 0, none⟩) s3 s3, .int .i64 (c : Nat), .int .i64 0, .int .i64 (h : Nat), .int .i64 0, .pointer (some ⟨S, 0, none⟩), .int .i64 0, .int .i64 0, .slice none 0 0] 110))
    (hL : Grid W L 116 n 3 (fun i j => lnV (kn i) j)) (hE : ∀ i, i < 4 -> Grid W (E i) 3 (szF s0 s1 s2 s3 i) 1 (fun _ _ => .int .i64 0)) (hi : ∀ i j, i < 4 -> j < 4 -> i ≠ j -> E i ≠ E j) (hS : W.heap[S]? = some (.cells #[.int .i64 1, .int .i64 0, .int .u8 0] 155 (0, 0))) (hB : B <= W.heap.size /\ B <= L /\ B <= S /\ ∀ i, i < 4 -> B <= E i) :
    DevIn X W.heap.size L S E (.slice none 0 0) (dev0 s0 s1 s2 s3 h u n b kn B) := by
  subst hc hX
  exact ⟨heap_alloc_new W _, hL.alloc _, fun i hi => (hE i hi).alloc _, hi, (heap_alloc_old W _ (lt_of_block hS)).trans hS, World.ownsRow_nil _ _ _ _, hB⟩
set_option maxRecDepth 100000 in
set_option maxHeartbeats 2000000 in
theorem open_blank (s0 s1 s2 s3 c h u n k b g g2 k2 : Nat) (kn : Nat -> Nat) (A B : ByteArray) (w : World) (b0 : s0 <= 60) (b1 : s1 <= 60) (b2 : s2 <= 60) (b3 : s3 <= 60) (hc : c = 0) (bh : h <= s2) (bh2 : 2 * h <= 62) (bu1 : 1 <= u) (bu2 : u <= 247) (bn1 : 1 <= n) (bn2 : n <= 4) (bb1 : 1 <= b) (bb2 : b <= 8)
    (hg : g < w.heap.size) (hcell : ∀ j, j < n -> w.cell? ⟨g, j, none⟩ = some (.int .i64 (kn j : Nat))) (hk : ∀ j, j < n -> kn j <= 1)
    (hk2 : 2 <= k2) (hg2 : g2 < w.heap.size) (h0 : w.cell? ⟨g2, 0, none⟩ = some (.string A)) (h1 : w.cell? ⟨g2, 1, none⟩ = some (.string B)) (hA : A.size = 64) (hB : B.size = 64) (sA : 0 = stampL A) (sB : 0 = stampL B) (eA : Pl.byt A 63 = 0) (eB : Pl.byt B 63 = 0) :
    Calls Tryz.prog 25 #[.agg #[.int .i64 (s0 : Nat), .int .i64 (s1 : Nat), .int .i64 (s2 : Nat), .int .i64 (s3 : Nat), .int .i64 (c : Nat), .int .i64 (h : Nat), .int .i64 (u : Nat), .slice (some ⟨g, 0, none⟩) n k, .int .i64 (b : Nat)], .slice (some ⟨g2, 0, none⟩) 2 k2] w fun e w' => 
      ∃ d, e = .returned (.tuple #[.pointer (some ⟨d, 0, none⟩), .slice none 0 0, .int .i64 0]) /\ DevAt w' d (dev0 s0 s1 s2 s3 h u n b kn w.heap.size) /\ Below w.heap.size w w' := by
  obtain ⟨W, hW, hWs, hWb, hWg⟩ := cfg_new w s0 s1 s2 s3 c h u b (.slice (some ⟨g, 0, none⟩) n k)
  have HC0 := hideF hc
  have hcc : c <= s0 := by omega
  have hc6 : c <= 60 := by omega
  obtain ⟨z, hz⟩ : ∃ z, z = 2 * h := ⟨_, rfl⟩
  have HZ := hideF hz
  have hzl : z <= 62 := by omega
  have HKS : Hid (z = (c + 7) / 8 + 2 * h) := by show z = _; omega
  have HND : Hid (2 = 2 * max 1 (((c + 7) / 8 + 2 * h + 61) / 62)) := by show 2 = _; omega
  clear hc hz
  have hcW : ∀ j, j < n -> W.cell? ⟨g, j, none⟩ = some (.int .i64 (kn j : Nat)) := fun j hj => by rw [(bcell hWb).1 g j hg]; exact hcell j hj
  have HCW := hideF hcW
  have d0 : Hid (W.cell? ⟨g2, 0, none⟩ = some (.string A)) := by show _ = _; rw [(bcell hWb).1 g2 _ hg2]; exact h0
  have d1 : Hid (W.cell? ⟨g2, 1, none⟩ = some (.string B)) := by show _ = _; rw [(bcell hWb).1 g2 _ hg2]; exact h1
  have HGW := hideF hWg
  have HBW := hideF hWb
  have HHA := hideF hA
  have HHB := hideF hB
  have HSA := hideF sA
  have HSB := hideF sB
  have HEA := hideF eA
  have HEB := hideF eB
  obtain ⟨c0, c1, c2, c3, c4, c5, c6, c7, c8⟩ := cells9 hWg
  clear hcell h0 h1 hA hB sA sB eA eB hWg hWb hcW
  go_enter Tryz.func25, Tryz.ntmps25
  go_wp2_with fail
  rw [<- hW]
  clear hW
  refine (need_at s0 s1 s2 s3 c h u n k b g 2 kn W b0 b1 b2 b3 hcc bh bu1 bu2 bn1 bn2 bb1 bb2 (by omega) HCW.out hk HND.out).mono ?_
  rintro e w1 ⟨rfl, hb1⟩
  have HB1 := hideF hb1
  have hs1 := hb1.size
  have hg1 := (hb1.block w.heap.size (by omega)).trans HGW.out
  have HG1 := hideF hg1
  clear c0 c1 c2 c3 c4 c5 c6 c7 c8 hb1
  obtain ⟨c0, c1, c2, c3, c4, c5, c6, c7, c8⟩ := cells9 hg1
  clear hg1
  go_wp2_with fail
  refine (fits_at 2 2 g2 k2 (fun j => if j = 0 then A else B) w1 (Nat.le_refl _) (by omega) ?_ ?_).mono ?_
  . intro j hj
    rcases (show j = 0 ∨ j = 1 by omega) with rfl | rfl
    . rw [(bcell HB1.out).1 g2 _ (by omega)]; exact d0.out
    . rw [(bcell HB1.out).1 g2 _ (by omega)]; exact d1.out
  . intro j hj
    rcases (show j = 0 ∨ j = 1 by omega) with rfl | rfl
    . exact HHA.out
    . exact HHB.out
  rintro e w2 ⟨rfl, rfl⟩
  go_wp2_with fail
  refine (keptSize_at s0 s1 s2 s3 c h u n k b z (some ⟨g, 0, none⟩) w2 hc6 (by omega) HKS.out).mono ?_
  rintro e w3 ⟨rfl, hb3⟩
  have HB3 := hideF (bel_then HB1.out hb3)
  have hs3 := hb3.size
  clear hb3
  go_wp2_with fail
  refine (storeOpen_blank z g2 k2 A B w3 hzl hk2 (by omega) (by rw [(bcell HB3.out).1 g2 _ (by omega)]; exact d0.out) (by rw [(bcell HB3.out).1 g2 _ (by omega)]; exact d1.out) HHA.out HHB.out HSA.out HSB.out HEA.out HEB.out).mono ?_
  rintro e w4 ⟨rfl, hst4, hb4⟩
  have HB4 := hideF (bel_then HB3.out hb4)
  have HST := hideF hst4
  have hs4 := hb4.size
  have hg4 := (HB4.out.block w.heap.size (by omega)).trans HGW.out
  have HG4 := hideF hg4
  have HL4 : Hid (w3.heap.size < w4.heap.size) := lt_of_block hst4
  clear c0 c1 c2 c3 c4 c5 c6 c7 c8 hb4 hst4
  obtain ⟨c0, c1, c2, c3, c4, c5, c6, c7, c8⟩ := cells9 hg4
  clear hg4
  have hn0 : w.heap.size < w4.heap.size := by omega
  have HK4 : Hid (∀ j, j < n -> w4.cell? ⟨g, j, none⟩ = some (.int .i64 (kn j : Nat))) := fun j hj => by rw [(bcell HB4.out).1 g j (by omega)]; exact HCW.out j hj
  go_wp2_with fail
  go_region_held3 (fun w' => w'.cell? ⟨w.heap.size, 0, none⟩ = some (.int .i64 (s0 : Nat)) /\ w'.cell? ⟨w.heap.size, 1, none⟩ = some (.int .i64 (s1 : Nat)) /\ w'.cell? ⟨w.heap.size, 2, none⟩ = some (.int .i64 (s2 : Nat)) /\ w'.cell? ⟨w.heap.size, 3, none⟩ = some (.int .i64 (s3 : Nat)) /\ w'.cell? ⟨w.heap.size, 4, none⟩ = some (.int .i64 (c : Nat)) /\ w'.cell? ⟨w.heap.size, 5, none⟩ = some (.int .i64 (h : Nat)) /\ w'.cell? ⟨w.heap.size, 6, none⟩ = some (.int .i64 (u : Nat)) /\ w'.cell? ⟨w.heap.size, 7, none⟩ = some (.slice (some ⟨g, 0, none⟩) n k) /\ w'.cell? ⟨w.heap.size, 8, none⟩ = some (.int .i64 (b : Nat))) (go_keep)
    (first
      | (go_at_call 64; refine (newLines_at n k g kn _ (by omega) (by first | (simp; omega) | omega) (fun j hj => by exact HK4.out j hj)).mono ?_; rintro e w5 ⟨rfl, hGL, hb5⟩; have hb5' := below_then_drew1 hb5; have hs5 := hb5'.size; have hg5 := (hb5'.block w.heap.size hn0).trans HG4.out; obtain ⟨f0, f1, f2, f3, f4, f5, f6, f7, f8⟩ := cells9 hg5)
      | (go_at_call 65; refine (newTables_step s0 s1 s2 s3 c h u n k b z (some ⟨g, 0, none⟩) _ b0 b1 b2 b3 HC0.out bh HZ.out).mono ?_; rintro e w6 ⟨v, rfl, E, rfl, hE6, hi6, hb6⟩; have hs6 := hb6.size; have hg6 := (hb6.block w.heap.size (by omega)).trans hg5; obtain ⟨p0, p1, p2, p3, p4, p5, p6, p7, p8⟩ := cells9 hg6))
  obtain ⟨X, hX⟩ : ∃ X, X = w6.alloc (.cells #[.int .i64 (u : Nat), .int .i64 (b : Nat), .slice (some ⟨w4.heap.size, 0, none⟩) n n, .slice (some ⟨E 0, 0, none⟩) s0 s0, .slice (some ⟨E 1, 0, none⟩) s1 s1, .slice (some ⟨E 2, 0, none⟩) s2 s2, .slice (some ⟨E 3, 0, none⟩) s3 s3, .int .i64 (c : Nat), .int .i64 0, .int .i64 (h : Nat), .int .i64 0, .pointer (some ⟨w3.heap.size, 0, none⟩), .int .i64 0, .int .i64 0, .slice none 0 0] 110) := ⟨_, rfl⟩
  have hD := dev_new (kn := kn) HC0.out hX (Grid.below hGL hb6 (by have := hGL.lt; simpa using this)) (fun i hi => (hE6 i hi).2) hi6 ((hb6.block _ (by have := HL4.out; omega)).trans ((hb5'.block _ HL4.out).trans HST.out)) (B := w.heap.size) ⟨by omega, by omega, by omega, fun i hi => Nat.le_trans (by omega) (hE6 i hi).1⟩
  have hBX : Below w.heap.size w X := by rw [hX]; exact bel_alloc (bel_then (bel_then (bel_then HBW.out HB4.out) hb5') hb6) _
  have HD := hideF hD
  have HBX := hideF hBX
  clear hD hBX
  go_wp2_with fail
  rw [<- hX]
  clear hX
  go_wp2
  refine bodyPost_ret (v := .tuple #[.pointer (some ⟨w6.heap.size, 0, none⟩), .slice none 0 0, .int .i64 0]) (by simp [results, Tryz.results25, go_sem]) rfl ⟨_, rfl, ⟨_, _, _, _, HD.out⟩, HBX.out⟩
end Go.Proofs.YtcpldcojckhapaaGreat

set_option maxRecDepth 100000
namespace Go.Proofs.YtcpldcojckhapaaGreat
open Go.RowKit
theorem enter54 (x : Value) (w : World) : (callFunc 99 #[x]).run Tryz.prog w = .ok (.enter 99 #[x]) w := by kernel_rfl
theorem words_facts {w w2 : World} {k n : Nat} {v : Value} {xs : List Value} (hb : Below ((w.alloc (.cells #[.int .i64 0, .int .i64 0, .int .i64 0, .int .i64 0, .int .i64 0, .int .i64 0, .int .i64 0, .slice none 0 0] 144)).drewN k).heap.size ((w.alloc (.cells #[.int .i64 0, .int .i64 0, .int .i64 0, .int .i64 0, .int .i64 0, .int .i64 0, .int .i64 0, .slice none 0 0] 144)).drewN k) w2)
    (hown : w2.ownsRow ((w.alloc (.cells #[.int .i64 0, .int .i64 0, .int .i64 0, .int .i64 0, .int .i64 0, .int .i64 0, .int .i64 0, .slice none 0 0] 144)).drewN k).heap.size 3 1 v n xs) :
    w2.heap[w.heap.size]? = some (.cells #[.int .i64 0, .int .i64 0, .int .i64 0, .int .i64 0, .int .i64 0, .int .i64 0, .int .i64 0, .slice none 0 0] 144 (0, 0)) /\ w2.ownsRow (w.heap.size + 1) 3 1 v n xs /\ Below w.heap.size w w2 := by
  obtain ⟨X, hX⟩ : ∃ X, X = (w.alloc (.cells #[.int .i64 0, .int .i64 0, .int .i64 0, .int .i64 0, .int .i64 0, .int .i64 0, .int .i64 0, .slice none 0 0] 144)).drewN k := ⟨_, rfl⟩
  have hXb : Below w.heap.size w X := by rw [hX]; exact below_drewN (bel_alloc (Below.refl _ _) _) _
  have hXs : X.heap.size = w.heap.size + 1 := by rw [hX]; simp
  have hXg : X.heap[w.heap.size]? = some (.cells #[.int .i64 0, .int .i64 0, .int .i64 0, .int .i64 0, .int .i64 0, .int .i64 0, .int .i64 0, .slice none 0 0] 144 (0, 0)) := by rw [hX]; exact heap_alloc_new w _
  rw [<- hX] at hb hown
  exact ⟨(hb.block _ (by omega)).trans hXg, by rw [<- hXs]; exact hown, bel_then hXb hb⟩
set_option maxRecDepth 100000 in
set_option maxHeartbeats 2000000 in
theorem masking_any (s : ByteArray) (w : World) (_hs : s.size <= 100000) :
    Calls Tryz.prog 143 #[.string s] w fun e w' => PartIs w w' e (s.size = 6) ⟨0, 2, Pl.wd s 0, 1, 2, Pl.wd s 0, 1, Pl.wordsL s 2 2⟩ := by
  by_cases h4 : s.size = 6
  . have t4 : ((s.size : Int) != 6) = false := by simp; omega
    have hl : 2 <= s.size := by omega
    have hl' : (2 : Int) <= s.size := by omega
    have c2 : ∀ W : World, Calls Tryz.prog 99 #[.string (s.extract 2 s.size)] W fun e w' => ∃ v, e = .returned v /\ (w'.ownsRow W.heap.size 3 1 v 2 ((Pl.wordsL s 2 2).flatMap encI) /\ Below W.heap.size W w') := fun W => by
      have := pwords_any (s.extract 2 s.size) 2 W (by simp; omega) (by simp; omega)
      rwa [Pl.wordsL_suffix] at this
    have H4 := hideF h4
    clear h4
    go_enter Tryz.func143, Tryz.ntmps143
    go_wp2_with fail
    go_region_law (first
      | (refine step_call rfl 128 #[.tmp 10] #[9] rfl #[.string s] (by simp [Act.eval, Act.put]) (enter50 _ _) _ (pword_step s _ hl) ?_; rintro v w1 ⟨rfl, n1, rfl⟩)
      | (refine step_call rfl 99 #[.tmp 13] #[9] rfl #[.string (s.extract 2 s.size)] (by simp [Act.eval]) (enter54 _ _) _ (c2 _) ?_; rintro v w2 ⟨hown, hb2⟩; obtain ⟨hYg, how, hbw⟩ := words_facts hb2 hown; obtain ⟨ad, c, rfl, _⟩ := own_view how; obtain ⟨hz, c0, c1, c2, c3, c4, c5, c6, c7⟩ := cells8 hYg; clear hb2 hYg hown))
    all_goals go_wp2
    all_goals
      refine bodyPost_ret (v := .tuple #[.agg #[.int .i64 0, .int .i64 2, .int .i64 (Pl.wd s 0 : Nat), .int .i64 1, .int .i64 2, .int .i64 (Pl.wd s 0 : Nat), .int .i64 1, .slice ad 2 c], .bool true]) (by simp [results, Tryz.results143, go_sem, c0, c1, c2, c3, c4, c5, c6, c7]) rfl
        ⟨⟨0, 2, Pl.wd s 0, 1, 2, Pl.wd s 0, 1, Pl.wordsL s 2 2⟩, _, true, rfl, by rw [Pl.wordsL_len]; exact own8 how (Nat.le_refl _) _ _ _ _ _ _ _ _, ?_, ?_, by rw [Pl.wordsL_len]; omega, bel8 hbw (Nat.le_refl _) _ _ _ _ _ _ _ _⟩
    all_goals simp [H4.out]
  . have t4 : ((s.size : Int) != 6) = true := by simp; omega
    go_enter Tryz.func143, Tryz.ntmps143
    go_wp2
    refine bodyPost_ret (v := .tuple #[.agg #[.int .i64 0, .int .i64 0, .int .i64 0, .int .i64 0, .int .i64 0, .int .i64 0, .int .i64 0, .slice none 0 0], .bool false]) (by simp [results, Tryz.results143, go_sem]) rfl
      ⟨Pl.noShp, .slice none 0 0, false, rfl, World.ownsRow_nil _ _ _ _, by simp [h4], by simp, by simp [Pl.noShp], ?_⟩
    exact (Below.refl _ _).alloc (Nat.le_refl _) _
theorem wd_head (s : ByteArray) (k : Nat) (hk : k + 1 < 4) (h : 4 <= s.size) : Pl.wd (s.extract 0 4) k = Pl.wd s k := by
  unfold Pl.wd
  rw [Pl.byt_extract s 0 4 k h (by omega), Pl.byt_extract s 0 4 (k + 1) h (by omega), Nat.zero_add, Nat.zero_add]
set_option maxRecDepth 100000 in
set_option maxHeartbeats 4000000 in
theorem exchanging_any (s : ByteArray) (w : World) (hs : s.size <= 100000) :
    Calls Tryz.prog 144 #[.string s] w fun e w' => PartIs w w' e (9 <= s.size /\ (1 <= Pl.wd s 2 /\ Pl.wd s 2 <= 125) /\ (1 <= Pl.wd s 6 /\ Pl.wd s 6 <= 121) /\ s.size - 9 = Pl.byt s 8 /\ s.size - 9 = 2 * Pl.wd s 6) ⟨0, 2, Pl.wd s 0, Pl.wd s 2, 2, Pl.wd s 4, Pl.wd s 6, Pl.wordsL s 9 (Pl.wd s 6)⟩ := by
  by_cases h4 : s.size < 4
  . go_enter Tryz.func144, Tryz.ntmps144
    go_wp2
    refine bodyPost_ret (v := .tuple #[.agg #[.int .i64 0, .int .i64 0, .int .i64 0, .int .i64 0, .int .i64 0, .int .i64 0, .int .i64 0, .slice none 0 0], .bool false]) (by simp [results, Tryz.results144, go_sem]) rfl
      ⟨Pl.noShp, .slice none 0 0, false, rfl, World.ownsRow_nil _ _ _ _, by simp; omega, by simp, by simp [Pl.noShp], ?_⟩
    exact (Below.refl _ _).alloc (Nat.le_refl _) _
  . have l4 : (4 : Int) <= s.size := by omega
    have e4 : (s.extract 0 4).size = 4 := by simp; omega
    have f4 : (s.extract 4 s.size).size = s.size - 4 := by simp
    have E4 := hideF e4
    have F4 := hideF f4
    clear e4 f4
    go_enter Tryz.func144, Tryz.ntmps144
    go_wp2_with fail
    obtain ⟨X, hX⟩ : ∃ X, X = w.alloc (.cells #[.int .i64 0, .int .i64 0, .int .i64 0, .int .i64 0, .int .i64 0, .int .i64 0, .int .i64 0, .slice none 0 0] 144) := ⟨_, rfl⟩
    have hXb : Below w.heap.size w X := by rw [hX]; exact bel_alloc (Below.refl _ _) _
    have hXs : X.heap.size = w.heap.size + 1 := by rw [hX]; simp
    have hXg : X.heap[w.heap.size]? = some (.cells #[.int .i64 0, .int .i64 0, .int .i64 0, .int .i64 0, .int .i64 0, .int .i64 0, .int .i64 0, .slice none 0 0] 144 (0, 0)) := by rw [hX]; exact heap_alloc_new w _
    rw [<- hX]
    clear hX
    refine (reading_any 2 125 (s.extract 0 4) X (by rw [E4.out]; omega) (by omega)).mono ?_
    rintro e w1 ⟨x, v1, r1, rfl, hown1, hr1, hx1, _, hb1⟩
    obtain ⟨xf, xt, xa, xc, xi, xo, xm, xv⟩ := x
    have HR1 := hideF hr1
    have HX1 := hideF hx1
    obtain ⟨a1, k1, rfl, _⟩ := own_view hown1
    clear hr1 hx1 hown1
    simp only [shV]
    go_wp2_with fail
    obtain ⟨X1, hX1⟩ : ∃ X1, X1 = w1.alloc (.cells #[.int .i64 (xf : Nat), .int .i64 (xt : Nat), .int .i64 (xa : Nat), .int .i64 (xc : Nat), .int .i64 (xi : Nat), .int .i64 (xo : Nat), .int .i64 (xm : Nat), .slice a1 xv.length k1] 144) := ⟨_, rfl⟩
    rw [<- hX1]
    obtain ⟨g1, hg1⟩ : ∃ g1, g1 = w1.heap.size := ⟨_, rfl⟩
    have hX1b : Below w1.heap.size w1 X1 := by rw [hX1]; exact bel_alloc (Below.refl _ _) _
    have hX1g : X1.heap[g1]? = some (.cells #[.int .i64 (xf : Nat), .int .i64 (xt : Nat), .int .i64 (xa : Nat), .int .i64 (xc : Nat), .int .i64 (xi : Nat), .int .i64 (xo : Nat), .int .i64 (xm : Nat), .slice a1 xv.length k1] 144 (0, 0)) := by rw [hX1, hg1]; exact heap_alloc_new w1 _
    have hX1s : X1.heap.size = g1 + 1 := by rw [hX1, hg1]; simp
    have hXg1 : X1.heap[w.heap.size]? = _ := (hX1b.block _ (by have := hb1.size; omega)).trans ((hb1.block _ (by omega)).trans hXg)
    have hgl1 : w.heap.size < g1 := by rw [hg1]; have := hb1.size; omega
    have hbX1 : Below w.heap.size w X1 := bel_then (bel_then hXb hb1) hX1b
    rw [<- hg1]
    clear hX1 hg1 hX1b hXb hb1 hXg hXs
    refine (settingHolders_any 121 (s.extract 4 s.size) X1 (by rw [F4.out]; omega) (by omega)).mono ?_
    rintro e w2 ⟨y, v2, r2, rfl, hown2, hr2, hy2, hyl, hb2⟩
    obtain ⟨yf, yt, ya, yc, yi, yo, ym, yv⟩ := y
    have HR2 := hideF hr2
    have HY2 := hideF hy2
    have HYL := hideF hyl
    obtain ⟨a2, k2, rfl, _⟩ := own_view hown2
    clear hr2 hy2 hyl
    simp only [shV]
    go_wp2_with fail
    obtain ⟨X2, hX2⟩ : ∃ X2, X2 = w2.alloc (.cells #[.int .i64 (yf : Nat), .int .i64 (yt : Nat), .int .i64 (ya : Nat), .int .i64 (yc : Nat), .int .i64 (yi : Nat), .int .i64 (yo : Nat), .int .i64 (ym : Nat), .slice a2 yv.length k2] 144) := ⟨_, rfl⟩
    rw [<- hX2]
    obtain ⟨g2, hg2⟩ : ∃ g2, g2 = w2.heap.size := ⟨_, rfl⟩
    have hX2b : Below w2.heap.size w2 X2 := by rw [hX2]; exact bel_alloc (Below.refl _ _) _
    have hX2g : X2.heap[g2]? = some (.cells #[.int .i64 (yf : Nat), .int .i64 (yt : Nat), .int .i64 (ya : Nat), .int .i64 (yc : Nat), .int .i64 (yi : Nat), .int .i64 (yo : Nat), .int .i64 (ym : Nat), .slice a2 yv.length k2] 144 (0, 0)) := by rw [hX2, hg2]; exact heap_alloc_new w2 _
    have hgl2 : g1 < g2 := by rw [hg2]; have := hb2.size; omega
    have hXg2 : X2.heap[w.heap.size]? = _ := (hX2b.block _ (by have := hb2.size; omega)).trans ((hb2.block _ (by omega)).trans hXg1)
    have hX1g2 : X2.heap[g1]? = _ := (hX2b.block _ (by have := hb2.size; omega)).trans ((hb2.block _ (by omega)).trans hX1g)
    have hbX2 : Below w.heap.size w X2 := bel_then (bel_then hbX1 hb2) hX2b
    have how2 : X2.ownsRow (w.heap.size + 1) 3 1 (.slice a2 yv.length k2) yv.length (yv.flatMap encI) := own_base (ownsRow_below hown2 hX2b) (by omega)
    have hap : ∀ g, Value.ownBlock (.slice a2 yv.length k2) = some g -> g < g2 := fun g hg => by have := (hown2.lt g hg).2; omega
    rw [<- hg2]
    clear hX2 hg2 hX2b hbX1 hb2 hown2 hX1g hXg1 hX1s
    obtain ⟨fz, c0, c1, c2, c3, c4, c5, c6, c7⟩ := cells8 hXg2
    obtain ⟨fy, d0, d1, d2, d3, d4, d5, d6, d7⟩ := cells8 hX1g2
    obtain ⟨fx, e0, e1, e2, e3, e4, e5, e6, e7⟩ := cells8 hX2g
    have HO := hideF how2
    have HAP := hideF hap
    have HB := hideF hbX2
    have n1 : ¬ w.heap.size = g2 := by omega
    have n2 : ¬ g2 = w.heap.size := by omega
    have n3 : ¬ g1 = g2 := by omega
    have n4 : ¬ g2 = g1 := by omega
    have HXg2 := hideF hXg2
    have HX2g := hideF hX2g
    clear how2 hap hbX2 hXg2 hX1g2 hX2g
    go_wp2_with fail
    go_region
    obtain ⟨X4, hX4⟩ : ∃ X4, X4 = ((X2.setCell ⟨g2, 1, none⟩ (.int .i64 (xt : Nat))).setCell ⟨g2, 2, none⟩ (.int .i64 (xa : Nat))).setCell ⟨g2, 3, none⟩ (.int .i64 (xc : Nat)) := ⟨_, rfl⟩
    rw [<- hX4]
    obtain ⟨X3, hX3⟩ : ∃ X3, X3 = X4.drew := ⟨_, rfl⟩
    have hh : X3.heap = X4.heap := by rw [hX3]; rfl
    have hb4 : Below w.heap.size w X4 := by rw [hX4]; exact ((HB.out.setCell (p := ⟨g2, 1, none⟩) (by simp; omega) _).setCell (p := ⟨g2, 2, none⟩) (by simp; omega) _).setCell (p := ⟨g2, 3, none⟩) (by simp; omega) _
    have b6 : Below w.heap.size w X3 := by rw [hX3]; exact hb4.drew
    rw [<- hX3]
    clear hX3 hb4
    have b3 : X3.heap[w.heap.size]? = some (.cells #[.int .i64 0, .int .i64 0, .int .i64 0, .int .i64 0, .int .i64 0, .int .i64 0, .int .i64 0, .slice none 0 0] 144 (0, 0)) := by
      rw [hh, hX4, heap_setCell_other _ _ _ _ n1, heap_setCell_other _ _ _ _ n1, heap_setCell_other _ _ _ _ n1]; exact HXg2.out
    have b4 : X3.heap[g2]? = some (.cells #[.int .i64 (yf : Nat), .int .i64 (xt : Nat), .int .i64 (xa : Nat), .int .i64 (xc : Nat), .int .i64 (yi : Nat), .int .i64 (yo : Nat), .int .i64 (ym : Nat), .slice a2 yv.length k2] 144 (0, 0)) := by
      rw [hh, hX4]; exact heap_setCell_same _ g2 3 _ 144 _ (heap_setCell_same _ g2 2 _ 144 _ (heap_setCell_same _ g2 1 _ 144 _ HX2g.out))
    have b5 : X3.ownsRow (w.heap.size + 1) 3 1 (.slice a2 yv.length k2) yv.length (yv.flatMap encI) := own_same HO.out fun k hk => by
      have hkg : k ≠ g2 := by have := HAP.out k hk; omega
      rw [hh, hX4, heap_setCell_other _ _ _ _ hkg, heap_setCell_other _ _ _ _ hkg, heap_setCell_other _ _ _ _ hkg]
    clear hX4 hh fz c0 c1 c2 c3 c4 c5 c6 c7 fy d0 d1 d2 d3 d4 d5 d6 d7 fx e0 e1 e2 e3 e4 e5 e6 e7
    obtain ⟨fz, c0, c1, c2, c3, c4, c5, c6, c7⟩ := cells8 b3
    obtain ⟨fx, e0, e1, e2, e3, e4, e5, e6, e7⟩ := cells8 b4
    clear b3 b4
    have HB5 := hideF b5
    have HB6 := hideF b6
    clear b5 b6
    cases r1 with
    | false =>
      go_wp2
      refine bodyPost_ret (v := .tuple #[.agg #[.int .i64 (yf : Nat), .int .i64 (xt : Nat), .int .i64 (xa : Nat), .int .i64 (xc : Nat), .int .i64 (yi : Nat), .int .i64 (yo : Nat), .int .i64 (ym : Nat), .slice a2 yv.length k2], .bool false]) (by simp [results, Tryz.results144, go_sem, c0, c1, c2, c3, c4, c5, c6, c7]) rfl
        ⟨⟨yf, xt, xa, xc, yi, yo, ym, yv⟩, _, false, rfl, own8 HB5.out (Nat.le_refl _) _ _ _ _ _ _ _ _, ?_, by simp, HYL.out, bel8 HB6.out (Nat.le_refl _) _ _ _ _ _ _ _ _⟩
      have hr := HR1.out
      rw [wd_head s 2 (by omega) (by omega), E4.out] at hr
      simp at hr ⊢
      intro _ h1 h2
      omega
    | true =>
      go_wp2
      refine bodyPost_ret (v := .tuple #[.agg #[.int .i64 (yf : Nat), .int .i64 (xt : Nat), .int .i64 (xa : Nat), .int .i64 (xc : Nat), .int .i64 (yi : Nat), .int .i64 (yo : Nat), .int .i64 (ym : Nat), .slice a2 yv.length k2], .bool r2]) (by simp [results, Tryz.results144, go_sem, c0, c1, c2, c3, c4, c5, c6, c7]) rfl
        ⟨⟨yf, xt, xa, xc, yi, yo, ym, yv⟩, _, r2, rfl, own8 HB5.out (Nat.le_refl _) _ _ _ _ _ _ _ _, ?_, ?_, HYL.out, bel8 HB6.out (Nat.le_refl _) _ _ _ _ _ _ _ _⟩
      . have hr := HR1.out
        rw [wd_head s 2 (by omega) (by omega), E4.out] at hr
        simp at hr
        rw [HR2.out, Pl.wd_suffix, Pl.byt_suffix, F4.out]
        simp only [Nat.reduceAdd]
        constructor
        . intro h; refine ⟨by omega, hr, ?_, ?_, ?_⟩ <;> omega
        . intro h; refine ⟨by omega, ?_, ?_, ?_⟩ <;> omega
      . intro hrt
        have hx := HX1.out (by simp)
        have hy := HY2.out hrt
        rw [wd_head s 2 (by omega) (by omega), wd_head s 0 (by omega) (by omega)] at hx
        rw [Pl.wd_suffix, Pl.wd_suffix, Pl.wordsL_suffix] at hy
        simp only [Pl.Shp.mk.injEq] at hx hy ⊢
        simp [hx, hy]
end Go.Proofs.YtcpldcojckhapaaGreat
