/-
  Open over a disk of two sectors, whatever lies there.
-/
import Derived.Test.YtcpldcojckhapaaGreatD6
import Derived.Test.YtcpldcojckhapaaGreatV2
set_option maxRecDepth 100000
namespace Go.Proofs.YtcpldcojckhapaaGreat
open Go.RowKit

/-- The entries that Open finds. -/
def entL (h : Nat) (S : ByteArray) (i k : Nat) : Int := if i = 2 then ((if k < h then Pl.wd S (2 * k) else 0 : Nat) : Int) else 0
/-- The device that Open gives. -/
def dev1 (s0 s1 s2 s3 h u n b : Nat) (kn : Nat → Nat) (B lat st : Nat) (S : ByteArray) : Dev :=
  { unit := u, batch := b, nl := n, ln := fun i => ⟨kn i, ⟨#[]⟩, false⟩, sec := 1, sz := szF s0 s1 s2 s3, ent := entL h S, kp := fun i => if i = 2 then h else 0, lat := lat, stamp := st, arr := 0, uns := 0, wait := [], base := B }
theorem newTables_saved (s0 s1 s2 s3 c h u n k b : Nat) (S : ByteArray) (a : Option Addr) (w : World) (b0 : s0 ≤ 60) (b1 : s1 ≤ 60) (b2 : s2 ≤ 60) (b3 : s3 ≤ 60) (hc : c = 0) (hh : h ≤ s2) (hz : S.size = 2 * h) :
    Calls Tryz.prog 65 #[.agg #[.int .i64 (s0 : Nat), .int .i64 (s1 : Nat), .int .i64 (s2 : Nat), .int .i64 (s3 : Nat), .int .i64 (c : Nat), .int .i64 (h : Nat), .int .i64 (u : Nat), .slice a n k, .int .i64 (b : Nat)], .string S] w fun e w' => ∃ v, e = .returned v ∧ 
      ∃ E : Nat → Nat, v = .agg #[.slice (some ⟨E 0, 0, none⟩) s0 s0, .slice (some ⟨E 1, 0, none⟩) s1 s1, .slice (some ⟨E 2, 0, none⟩) s2 s2, .slice (some ⟨E 3, 0, none⟩) s3 s3, .int .i64 (c : Nat), .int .i64 0, .int .i64 (h : Nat), .int .i64 0] ∧ 
      ((∀ i, i < 4 → w.heap.size ≤ E i ∧ Grid w' (E i) 3 (szF s0 s1 s2 s3 i) 1 (fun k _ => .int .i64 (entL h S i k))) ∧ (∀ i j, i < 4 → j < 4 → i ≠ j → E i ≠ E j) ∧ Below w.heap.size w w') := by
  refine (newTables_at s0 s1 s2 s3 c h u n k b a S w b0 b1 b2 b3 hc hh hz).mono ?_
  rintro e w' ⟨rfl, g0, g1, g2, g3, hb⟩
  refine ⟨_, rfl, fun i => w.heap.size + 3 + i, rfl, fun i hi => ⟨show w.heap.size ≤ w.heap.size + 3 + i by omega, ?_⟩, fun i j _ _ hij => show w.heap.size + 3 + i ≠ w.heap.size + 3 + j by omega, hb⟩
  rcases (show i = 0 ∨ i = 1 ∨ i = 2 ∨ i = 3 by omega) with rfl | rfl | rfl | rfl
  · exact g0.congr fun i j _ _ => rfl
  · exact g1.congr fun i j _ _ => rfl
  · exact g2.congr fun i j _ _ => rfl
  · exact g3.congr fun i j _ _ => rfl
theorem dev_new1 {W X : World} {L S0 B lat st : Nat} {E : Nat → Nat} {s0 s1 s2 s3 h u n b c : Nat} {kn : Nat → Nat} {S : ByteArray} (hc : c = 0) (hX : X = W.alloc (.cells #[.int .i64 (u : Nat), .int .i64 (b : Nat), .slice (some ⟨L, 0, none⟩) n n, .slice (some ⟨E 0, 0, none⟩) s0 s0, .slice (some ⟨E 1, 0, none⟩) s1 s1, .slice (some ⟨E 2, 0, none⟩) s2 s2, .slice (some ⟨E 3, 0, none⟩) s3 s3, .int .i64 (c : Nat), .int .i64 0, .int .i64 (h : Nat), .int .i64 0, .pointer (some ⟨S0, 0, none⟩), .int .i64 0, .int .i64 0, .slice none 0 0] 110))
    (hL : Grid W L 116 n 3 (fun i j => lnV (kn i) j)) (hE : ∀ i, i < 4 → Grid W (E i) 3 (szF s0 s1 s2 s3 i) 1 (fun k _ => .int .i64 (entL h S i k))) (hi : ∀ i j, i < 4 → j < 4 → i ≠ j → E i ≠ E j) (hS : W.heap[S0]? = some (.cells #[.int .i64 1, .int .i64 (lat : Nat), .int .u8 (st : Nat)] 155 (0, 0))) (hB : B ≤ W.heap.size ∧ B ≤ L ∧ B ≤ S0 ∧ ∀ i, i < 4 → B ≤ E i) :
    DevIn X W.heap.size L S0 E (.slice none 0 0) (dev1 s0 s1 s2 s3 h u n b kn B lat st S) := by
  subst hc hX
  exact ⟨heap_alloc_new W _, hL.alloc _, fun i hi => (hE i hi).alloc _, hi, (heap_alloc_old W _ (lt_of_block hS)).trans hS, World.ownsRow_nil _ _ _ _, hB⟩

set_option maxRecDepth 100000 in
set_option maxHeartbeats 2000000 in
theorem open_any (s0 s1 s2 s3 c h u n k b g g2 k2 : Nat) (kn : Nat → Nat) (A B : ByteArray) (w : World) (b0 : s0 ≤ 60) (b1 : s1 ≤ 60) (b2 : s2 ≤ 60) (b3 : s3 ≤ 60) (hc : c = 0) (bh : h ≤ s2) (bh2 : 2 * h ≤ 62) (bu1 : 1 ≤ u) (bu2 : u ≤ 247) (bn1 : 1 ≤ n) (bn2 : n ≤ 4) (bb1 : 1 ≤ b) (bb2 : b ≤ 8)
    (hg : g < w.heap.size) (hcell : ∀ j, j < n → w.cell? ⟨g, j, none⟩ = some (.int .i64 (kn j : Nat))) (hk : ∀ j, j < n → kn j ≤ 1)
    (hk2 : 2 ≤ k2) (hg2 : g2 < w.heap.size) (h0 : w.cell? ⟨g2, 0, none⟩ = some (.string A)) (h1 : w.cell? ⟨g2, 1, none⟩ = some (.string B)) (hA : A.size = 64) (hB : B.size = 64) :
    Calls Tryz.prog 25 #[.agg #[.int .i64 (s0 : Nat), .int .i64 (s1 : Nat), .int .i64 (s2 : Nat), .int .i64 (s3 : Nat), .int .i64 (c : Nat), .int .i64 (h : Nat), .int .i64 (u : Nat), .slice (some ⟨g, 0, none⟩) n k, .int .i64 (b : Nat)], .slice (some ⟨g2, 0, none⟩) 2 k2] w fun e w' => 
      ∃ d va l, e = .returned (.tuple #[.pointer (some ⟨d, 0, none⟩), va, .int .i64 0]) ∧ DevAt w' d (dev1 s0 s1 s2 s3 h u n b kn w.heap.size (latL (stampL A) (stampL B)) (stL (stampL A) (stampL B)) (dataL (2 * h) A B)) ∧ w'.ownsRow w.heap.size 77 4 va l.length (l.flatMap encA) ∧ NoSend l ∧ l.length ≤ 3 ∧ Below w.heap.size w w' := by
  obtain ⟨W, hW, hWs, hWb, hWg⟩ := cfg_new w s0 s1 s2 s3 c h u b (.slice (some ⟨g, 0, none⟩) n k)
  have HC0 := hideF hc
  have hcc : c ≤ s0 := by omega
  have hc6 : c ≤ 60 := by omega
  obtain ⟨z, hz⟩ : ∃ z, z = 2 * h := ⟨_, rfl⟩
  have HZ := hideF hz
  have hzl : z ≤ 62 := by omega
  have HKS : Hid (z = (c + 7) / 8 + 2 * h) := by show z = _; omega
  have HND : Hid (2 = 2 * max 1 (((c + 7) / 8 + 2 * h + 61) / 62)) := by show 2 = _; omega
  clear hc hz
  obtain ⟨lt, hlt⟩ : ∃ lt, lt = latL (stampL A) (stampL B) := ⟨_, rfl⟩
  obtain ⟨sq, hsq⟩ : ∃ sq, sq = stL (stampL A) (stampL B) := ⟨_, rfl⟩
  obtain ⟨dt, hdt⟩ : ∃ dt, dt = dataL z A B := ⟨_, rfl⟩
  have HDS : Hid (dt.size = 2 * h) := by show _ = _; rw [hdt, dataL_size z A B hzl hA hB, HZ.out]
  have HLT := hideF hlt
  have HSQ := hideF hsq
  have HDT := hideF hdt
  rw [← hlt, ← hsq, ← HZ.out, ← hdt]
  clear hlt hsq hdt
  have hcW : ∀ j, j < n → W.cell? ⟨g, j, none⟩ = some (.int .i64 (kn j : Nat)) := fun j hj => by rw [(bcell hWb).1 g j hg]; exact hcell j hj
  have HCW := hideF hcW
  have d0 : Hid (W.cell? ⟨g2, 0, none⟩ = some (.string A)) := by show _ = _; rw [(bcell hWb).1 g2 _ hg2]; exact h0
  have d1 : Hid (W.cell? ⟨g2, 1, none⟩ = some (.string B)) := by show _ = _; rw [(bcell hWb).1 g2 _ hg2]; exact h1
  have HGW := hideF hWg
  have HBW := hideF hWb
  have HHA := hideF hA
  have HHB := hideF hB
  obtain ⟨c0, c1, c2, c3, c4, c5, c6, c7, c8⟩ := cells9 hWg
  clear hcell h0 h1 hA hB hWg hWb hcW
  go_enter Tryz.func25, Tryz.ntmps25
  go_wp2_with fail
  rw [← hW]
  clear hW
  refine (need_at s0 s1 s2 s3 c h u n k b g 2 kn W b0 b1 b2 b3 hcc bh bu1 bu2 bn1 bn2 bb1 bb2 (by omega) HCW.out hk HND.out).mono ?_
  rintro e w1 ⟨rfl, hb1⟩
  have HB1 := hideF hb1
  have hs1 := hb1.size
  have hg1 := (hb1.block w.heap.size (by omega)).trans HGW.out
  have HG1 := hideF hg1
  clear c0 c1 c2 c3 c4 c5 c6 c7 c8 hb1
  obtain ⟨c0, c1, c2, c3, c4, c5, c6, c7, c8⟩ := cells9 hg1
  clear hg1
  go_wp2_with fail
  refine (fits_at 2 2 g2 k2 (fun j => if j = 0 then A else B) w1 (Nat.le_refl _) (by omega) ?_ ?_).mono ?_
  · intro j hj
    rcases (show j = 0 ∨ j = 1 by omega) with rfl | rfl
    · rw [(bcell HB1.out).1 g2 _ (by omega)]; exact d0.out
    · rw [(bcell HB1.out).1 g2 _ (by omega)]; exact d1.out
  · intro j hj
    rcases (show j = 0 ∨ j = 1 by omega) with rfl | rfl
    · exact HHA.out
    · exact HHB.out
  rintro e w2 ⟨rfl, rfl⟩
  go_wp2_with fail
  refine (keptSize_at s0 s1 s2 s3 c h u n k b z (some ⟨g, 0, none⟩) w2 hc6 (by omega) HKS.out).mono ?_
  rintro e w3 ⟨rfl, hb3⟩
  have HB3 := hideF (bel_then HB1.out hb3)
  have hs3 := hb3.size
  clear hb3
  go_wp2_with fail
  refine (storeOpen_any z g2 k2 lt sq A B w3 hzl hk2 (by omega) (by rw [(bcell HB3.out).1 g2 _ (by omega)]; exact d0.out) (by rw [(bcell HB3.out).1 g2 _ (by omega)]; exact d1.out) HHA.out HHB.out HLT.out HSQ.out).mono ?_
  rintro e w4 ⟨va, la, rfl, hst4, hoa4, hna4, hla4, hb4⟩
  have HNA := hideF hna4
  have HOA := hideF (own_base (B := w.heap.size) hoa4 (by omega))
  obtain ⟨av4, cv4, rfl, _⟩ := own_view hoa4
  rw [← HDT.out]
  clear hna4 hoa4
  have HB4 := hideF (bel_then HB3.out hb4)
  have HST := hideF hst4
  have hs4 := hb4.size
  have hg4 := (HB4.out.block w.heap.size (by omega)).trans HGW.out
  have HG4 := hideF hg4
  have HL4 : Hid (w3.heap.size < w4.heap.size) := lt_of_block hst4
  clear c0 c1 c2 c3 c4 c5 c6 c7 c8 hb4 hst4
  obtain ⟨c0, c1, c2, c3, c4, c5, c6, c7, c8⟩ := cells9 hg4
  clear hg4
  have hn0 : w.heap.size < w4.heap.size := by omega
  have HK4 : Hid (∀ j, j < n → w4.cell? ⟨g, j, none⟩ = some (.int .i64 (kn j : Nat))) := fun j hj => by rw [(bcell HB4.out).1 g j (by omega)]; exact HCW.out j hj
  go_wp2_with fail
  go_region_held3 (fun w' => w'.cell? ⟨w.heap.size, 0, none⟩ = some (.int .i64 (s0 : Nat)) ∧ w'.cell? ⟨w.heap.size, 1, none⟩ = some (.int .i64 (s1 : Nat)) ∧ w'.cell? ⟨w.heap.size, 2, none⟩ = some (.int .i64 (s2 : Nat)) ∧ w'.cell? ⟨w.heap.size, 3, none⟩ = some (.int .i64 (s3 : Nat)) ∧ w'.cell? ⟨w.heap.size, 4, none⟩ = some (.int .i64 (c : Nat)) ∧ w'.cell? ⟨w.heap.size, 5, none⟩ = some (.int .i64 (h : Nat)) ∧ w'.cell? ⟨w.heap.size, 6, none⟩ = some (.int .i64 (u : Nat)) ∧ w'.cell? ⟨w.heap.size, 7, none⟩ = some (.slice (some ⟨g, 0, none⟩) n k) ∧ w'.cell? ⟨w.heap.size, 8, none⟩ = some (.int .i64 (b : Nat))) (go_keep)
    (first
      | (go_at_call 64; refine (newLines_at n k g kn _ (by omega) (by first | (simp; omega) | omega) (fun j hj => by exact HK4.out j hj)).mono ?_; rintro e w5 ⟨rfl, hGL, hb5⟩; have hb5' := below_then_drew1 hb5; have hs5 := hb5'.size; have hg5 := (hb5'.block w.heap.size hn0).trans HG4.out; obtain ⟨f0, f1, f2, f3, f4, f5, f6, f7, f8⟩ := cells9 hg5)
      | (go_at_call 65; refine (newTables_saved s0 s1 s2 s3 c h u n k b dt (some ⟨g, 0, none⟩) _ b0 b1 b2 b3 HC0.out bh HDS.out).mono ?_; rintro e w6 ⟨v, rfl, E, rfl, hE6, hi6, hb6⟩; have hs6 := hb6.size; have hg6 := (hb6.block w.heap.size (by omega)).trans hg5; obtain ⟨p0, p1, p2, p3, p4, p5, p6, p7, p8⟩ := cells9 hg6))
  obtain ⟨X, hX⟩ : ∃ X, X = w6.alloc (.cells #[.int .i64 (u : Nat), .int .i64 (b : Nat), .slice (some ⟨w4.heap.size, 0, none⟩) n n, .slice (some ⟨E 0, 0, none⟩) s0 s0, .slice (some ⟨E 1, 0, none⟩) s1 s1, .slice (some ⟨E 2, 0, none⟩) s2 s2, .slice (some ⟨E 3, 0, none⟩) s3 s3, .int .i64 (c : Nat), .int .i64 0, .int .i64 (h : Nat), .int .i64 0, .pointer (some ⟨w3.heap.size, 0, none⟩), .int .i64 0, .int .i64 0, .slice none 0 0] 110) := ⟨_, rfl⟩
  have hD := dev_new1 (kn := kn) (lat := lt) (st := sq) (S := dt) HC0.out hX (Grid.below hGL hb6 (by have := hGL.lt; simpa using this)) (fun i hi => (hE6 i hi).2) hi6 ((hb6.block _ (by have := HL4.out; omega)).trans ((hb5'.block _ HL4.out).trans HST.out)) (B := w.heap.size) ⟨by omega, by omega, by omega, fun i hi => Nat.le_trans (by omega) (hE6 i hi).1⟩
  have hBX : Below w.heap.size w X := by rw [hX]; exact bel_alloc (bel_then (bel_then (bel_then HBW.out HB4.out) hb5') hb6) _
  have HOX : Hid (X.ownsRow w.heap.size 77 4 (.slice av4 la.length cv4) la.length (la.flatMap encA)) := by rw [hX]; exact (ownsRow_below (ownsRow_below HOA.out hb5') hb6).alloc _
  have HD := hideF hD
  have HBX := hideF hBX
  clear hD hBX
  go_wp2_with fail
  rw [← hX]
  clear hX
  go_wp2
  refine bodyPost_ret (v := .tuple #[.pointer (some ⟨w6.heap.size, 0, none⟩), .slice av4 la.length cv4, .int .i64 0]) (by simp [results, Tryz.results25, go_sem]) rfl ⟨_, _, la, rfl, ⟨_, _, _, _, HD.out⟩, HOX.out, HNA.out, hla4, HBX.out⟩
end Go.Proofs.YtcpldcojckhapaaGreat
