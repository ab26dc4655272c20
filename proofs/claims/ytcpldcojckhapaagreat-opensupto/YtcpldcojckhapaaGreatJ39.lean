/-
  
-/
import Derived.Test.YtcpldcojckhapaaGreatJ38
import Derived.Test.YtcpldcojckhapaaGreatJ9
import Derived.Test.YtcpldcojckhapaaGreatJ30
import Derived.Test.YtcpldcojckhapaaGreatJ27
set_option maxRecDepth 100000
namespace Go.Proofs.YtcpldcojckhapaaGreat
open Go.RowKit
set_option maxHeartbeats 2000000 in
theorem sameInts_any (l1 l2 : List Int) (v1 v2 : Value) (C1 C2 : Nat) (w : World) (h1 : w.ownsRow C1 3 1 v1 l1.length (l1.flatMap encI)) (h2 : w.ownsRow C2 3 1 v2 l2.length (l2.flatMap encI)) (hl1 : l1.length <= 1000000) (_hl2 : l2.length <= 1000000) :
    Calls Tryz.prog 39 #[v1, v2] w fun e w' => e = .returned (.bool (decide (l1 = l2))) /\ Below w.heap.size w w' := by
  obtain ⟨a1, k1, rfl, _⟩ := own_view h1
  obtain ⟨a2, k2, rfl, _⟩ := own_view h2
  have H1 := hideF h1
  have H2 := hideF h2
  clear h1 h2
  by_cases hne : l1.length = l2.length
  . have HNE := hideF hne
    have hneI : ((l1.length : Int) != (l2.length : Int)) = false := by simp; omega
    clear hne
    go_enter Tryz.func39, Tryz.ntmps39
    go_wp2_with fail
    go_loopw [5] (fun jv wr => ∃ (j n : Nat), jv = .int .i64 (j : Nat) /\ j <= l1.length /\ wr = w.drewN n /\ ∀ i, i < j -> l1.getD i 0 = l2.getD i 0) (fun jv _ => l1.length - (intOf jv).toNat)
    case atStart => exact ⟨0, 0, rfl, Nat.zero_le _, rfl, fun i hi => absurd hi (Nat.not_lt_zero _)⟩
    case round =>
      obtain ⟨j, n, rfl, hj, rfl, hall⟩ := hrel
      by_cases hjl : j < l1.length
      . obtain ⟨g1, rfl, hg1, e1⟩ := row_at H1.out rfl j hjl
        obtain ⟨g2, rfl, hg2, e2⟩ := row_at H2.out rfl j (by have := HNE.out; omega)
        have hj2 : (j : Int) < (l2.length : Int) := by have := HNE.out; omega
        have HALL := hideF hall
        have HJL : Hid (j + 1 <= l1.length) := hjl
        have HWJ : Hid (wrap64 ((j : Int) + 1) = ((j + 1 : Nat) : Int)) := by show _ = _; simp only [wrap64]; omega
        obtain ⟨x1, hx1⟩ : ∃ x, x = l1.getD j 0 := ⟨_, rfl⟩
        obtain ⟨x2, hx2⟩ : ∃ x, x = l2.getD j 0 := ⟨_, rfl⟩
        rw [<- hx1] at e1
        rw [<- hx2] at e2
        have HX1 := hideF hx1
        have HX2 := hideF hx2
        clear hx1 hx2
        by_cases he : x1 = x2
        . have HE : Hid (l1.getD j 0 = l2.getD j 0) := by show _ = _; rw [<- HX1.out, <- HX2.out, he]
          subst he
          clear hall
          go_wp2_with fail
          go_quiet (fail)
          go_wp2
          go_roundw
          case rel =>
            refine ⟨j + 1, _, by first | rw [HWJ.out] | rfl, HJL.out, rfl, fun i hi => ?_⟩
            by_cases e : i = j
            . subst e; exact HE.out
            . exact HALL.out i (by omega)
          case measure => have := HJL.out; first | (rw [HWJ.out]; simp only [intOf]; omega) | (simp only [intOf]; omega)
        . have HE : Hid (¬ l1.getD j 0 = l2.getD j 0) := by show ¬ _; rw [<- HX1.out, <- HX2.out]; exact he
          have q1 : (x1 != x2) = true := by simpa using he
          clear hall he
          go_wp2_with fail
          go_quiet (fail)
          go_wp2
          go_ret
          refine ⟨?_, below_drewN (below_drewN (Below.refl _ _) _) _⟩
          have : ¬ l1 = l2 := fun e => HE.out (by rw [e])
          rw [decide_eq_false this]
          rfl
      . obtain rfl : j = l1.length := by omega
        have HALL := hideF hall
        clear hall
        go_wp2
        go_ret
        refine ⟨?_, below_drewN (Below.refl _ _) _⟩
        have : l1 = l2 := by
          have h0 := HNE.out
          refine List.ext_getElem h0 fun i h1 h2 => ?_
          have := HALL.out i h1
          rw [List.getD_eq_getElem?_getD, List.getD_eq_getElem?_getD, List.getElem?_eq_getElem h1, List.getElem?_eq_getElem h2] at this
          exact this
        rw [decide_eq_true this]
        rfl
  . have hneI : ((l1.length : Int) != (l2.length : Int)) = true := by simp; omega
    have HNE := hideF hne
    clear hne
    go_enter Tryz.func39, Tryz.ntmps39
    go_wp2
    go_ret
    refine ⟨?_, Below.refl _ _⟩
    have : ¬ l1 = l2 := fun e => HNE.out (by rw [e])
    rw [decide_eq_false this]
    rfl
theorem secV_succ (f : Nat -> ByteArray) (n : Nat) : secV f (n + 1) = secV f n ++ [.string (f n)] := by
  unfold secV
  rw [List.range_succ, List.map_append, List.flatMap_append]
  rfl
set_option maxHeartbeats 2000000 in
theorem blank_any (n : Nat) (w : World) (hn : n <= 100) :
    Calls Tryz.prog 31 #[.int .i64 (n : Nat)] w fun e w' => ∃ v, e = .returned v /\ w'.ownsRow w.heap.size 9 1 v n (secV (fun _ => blank64) n) /\ Below w.heap.size w w' := by
  obtain ⟨i0, hi, hz0, hz1, hz2⟩ := info_parts Tryz.infoET
  have hmk : ∀ W : World, (Instr.makeSlice 114 (.int .i64 64) (.int .i64 64)).run Tryz.prog W = .ok (.slice (some ⟨W.heap.size, 0, none⟩) 64 64) (W.alloc (.cells (madeCells #[.int .u8 0] 64) 5)) := fun W => made_bytesQ 64 (by omega) W
  have hcv : ∀ W : World, (convert 114 9 (.slice (some ⟨W.heap.size, 0, none⟩) 64 64)).run Tryz.prog (W.alloc (.cells (madeCells #[.int .u8 0] 64) 5)) = .ok (.string blank64) (W.alloc (.cells (madeCells #[.int .u8 0] 64) 5)) := fun W => 
    conv_row _ W.heap.size 64 64 (List.replicate 64 0) (by simp) (fun j x hj => by
      rw [List.getElem?_replicate] at hj
      split at hj
      . rename_i hlt
        obtain rfl := (Option.some.inj hj).symm
        rw [cell_of_row _ W.heap.size j _ 5 (0, 0) (heap_alloc_new W _)]
        exact madeBytes_at 64 j hlt
      . simp at hj)
  obtain ⟨W, hW⟩ : ∃ W, W = w.alloc (.cells (madeCells #[.int .u8 0] 64) 5) := ⟨_, rfl⟩
  have hWb : Below w.heap.size w W := by rw [hW]; exact bel_alloc (Below.refl _ _) _
  have HWB := hideF hWb
  clear hWb
  go_enter Tryz.func31, Tryz.ntmps31
  go_wp2_with fail
  rw [<- hW]
  clear hW hmk hcv
  go_loopw [5, 4] (fun i o wr => ∃ q : Nat, q <= n /\ i = .int .i64 (q : Nat) /\ wr.ownsRow w.heap.size 9 1 o q (secV (fun _ => blank64) q) /\ Below w.heap.size w wr) (fun i _ _ => n - (intOf i).toNat)
  case atStart => exact ⟨0, by omega, rfl, World.ownsRow_nil _ _ _ _, HWB.out⟩
  case round =>
    obtain ⟨q, hq, rfl, hown, hb⟩ := hrel
    have hsb := hb.size
    by_cases hlt : q < n
    . have HO := hideF hown
      have HB := hideF hb
      clear hown hb
      go_wp2_with (at_builtin; go_must (refine wpList_append_own _ rfl (.tmp 13) (.tmp 15) 30 rfl w.heap.size 9 i0 _ 1 16 Tryz.underlying30 hi hz0 hz1 hz2 rfl (by decide) _ q _ rfl (HO.out.alloc _) ⟨wr.heap.size, 0, none⟩ 1 1 [.string blank64] rfl rfl (alloc_news wr [.string blank64] 9) (by simp [Value.oneCell']) (by unfold maxLen; omega) (by omega) (by simp; omega) ?_; intro v' w4 hown4 hgrow4 _))
      go_roundw
      case rel =>
        refine ⟨q + 1, by omega, by go_num, ?_, (bel_alloc HB.out (.cells #[.string blank64] 9)).grown hgrow4 (by simp; omega) (fun k hk => (HO.out.lt k hk).1)⟩
        rw [secV_succ]; exact hown4
      case measure => simp [intOf]; omega
    . obtain rfl : q = n := by omega
      obtain ⟨a8, p8, rfl, _⟩ := own_view hown
      have HO := hideF hown
      have HB := hideF hb
      clear hown hb
      go_wp2
      go_ret
      exact ⟨_, rfl, HO.out, HB.out⟩
end Go.Proofs.YtcpldcojckhapaaGreat

set_option maxRecDepth 100000
namespace Go.Proofs.YtcpldcojckhapaaGreat
open Go.RowKit
def dev2 (s0 s1 s2 s3 c h u n b sec : Nat) (kn : Nat -> Nat) (B lat st : Nat) (S : ByteArray) : Dev :=
  { unit := u, batch := b, nl := n, ln := fun i => ⟨kn i, ⟨#[]⟩, false⟩, sec := sec, sz := szF s0 s1 s2 s3, ent := entC c h S, kp := fun i => if i = 0 then c else if i = 2 then h else 0, lat := lat, stamp := st, arr := 0, uns := 0, wait := [], base := B }
theorem newTables_sgen (s0 s1 s2 s3 c h u n k b : Nat) (S : ByteArray) (a : Option Addr) (w : World) (b0 : s0 <= 60) (b1 : s1 <= 60) (b2 : s2 <= 60) (b3 : s3 <= 60) (hc : c <= s0) (hh : h <= s2) (hz : S.size = (c + 7) / 8 + 2 * h) :
    Calls Tryz.prog 65 #[.agg #[.int .i64 (s0 : Nat), .int .i64 (s1 : Nat), .int .i64 (s2 : Nat), .int .i64 (s3 : Nat), .int .i64 (c : Nat), .int .i64 (h : Nat), .int .i64 (u : Nat), .slice a n k, .int .i64 (b : Nat)], .string S] w fun e w' => ∃ v, e = .returned v /\ 
      ∃ E : Nat -> Nat, v = .agg #[.slice (some ⟨E 0, 0, none⟩) s0 s0, .slice (some ⟨E 1, 0, none⟩) s1 s1, .slice (some ⟨E 2, 0, none⟩) s2 s2, .slice (some ⟨E 3, 0, none⟩) s3 s3, .int .i64 (c : Nat), .int .i64 0, .int .i64 (h : Nat), .int .i64 0] /\ 
      ((∀ i, i < 4 -> w.heap.size <= E i /\ Grid w' (E i) 3 (szF s0 s1 s2 s3 i) 1 (fun k _ => .int .i64 (entC c h S i k))) /\ (∀ i j, i < 4 -> j < 4 -> i ≠ j -> E i ≠ E j) /\ Below w.heap.size w w') := by
  refine (newTables_gen s0 s1 s2 s3 c h u n k b a S w b0 b1 b2 b3 hc hh hz).mono ?_
  rintro e w' ⟨rfl, g0, g1, g2, g3, hb⟩
  refine ⟨_, rfl, fun i => w.heap.size + 3 + i, rfl, fun i hi => ⟨show w.heap.size <= w.heap.size + 3 + i by omega, ?_⟩, fun i j _ _ hij => show w.heap.size + 3 + i ≠ w.heap.size + 3 + j by omega, hb⟩
  rcases (show i = 0 ∨ i = 1 ∨ i = 2 ∨ i = 3 by omega) with rfl | rfl | rfl | rfl
  . exact g0
  . exact g1.congr fun i j _ _ => rfl
  . exact g2
  . exact g3.congr fun i j _ _ => rfl
theorem dev_new2 {W X : World} {L S0 B lat st : Nat} {E : Nat -> Nat} {s0 s1 s2 s3 h u n b c sec : Nat} {kn : Nat -> Nat} {S : ByteArray} (hX : X = W.alloc (.cells #[.int .i64 (u : Nat), .int .i64 (b : Nat), .slice (some ⟨L, 0, none⟩) n n, .slice (some ⟨E 0, 0, none⟩) s0 s0, .slice (some ⟨E 1, 0, none⟩) s1 s1, .slice (some ⟨E 2, 0, none⟩) s2 s2, .slice (some ⟨E 3, 0, none⟩) s3 s3, .int .i64 (c : Nat), .int .i64 0, .int .i64 (h : Nat), .int .i64 0, .pointer (some ⟨S0, 0, none⟩), .int .i64 0, .int .i64 0, .slice none 0 0] 110))
    (hL : Grid W L 116 n 3 (fun i j => lnV (kn i) j)) (hE : ∀ i, i < 4 -> Grid W (E i) 3 (szF s0 s1 s2 s3 i) 1 (fun k _ => .int .i64 (entC c h S i k))) (hi : ∀ i j, i < 4 -> j < 4 -> i ≠ j -> E i ≠ E j) (hS : W.heap[S0]? = some (.cells #[.int .i64 (sec : Nat), .int .i64 (lat : Nat), .int .u8 (st : Nat)] 155 (0, 0))) (hB : B <= W.heap.size /\ B <= L /\ B <= S0 /\ ∀ i, i < 4 -> B <= E i) :
    DevIn X W.heap.size L S0 E (.slice none 0 0) (dev2 s0 s1 s2 s3 c h u n b sec kn B lat st S) := by
  subst hX
  exact ⟨heap_alloc_new W _, hL.alloc _, fun i hi => (hE i hi).alloc _, hi, (heap_alloc_old W _ (lt_of_block hS)).trans hS, World.ownsRow_nil _ _ _ _, hB⟩
set_option maxRecDepth 100000 in
set_option maxHeartbeats 2000000 in
theorem open_gen (s0 s1 s2 s3 c h u n k b g g2 nd k2 z sec : Nat) (kn : Nat -> Nat) (f : Nat -> ByteArray) (w : World) (b0 : s0 <= 60) (b1 : s1 <= 60) (b2 : s2 <= 60) (b3 : s3 <= 60) (hcc : c <= s0) (bh : h <= s2) (hz : z = (c + 7) / 8 + 2 * h) (hsec : sec = max 1 ((z + 61) / 62)) (bu1 : 1 <= u) (bu2 : u <= 247) (bn1 : 1 <= n) (bn2 : n <= 4) (bb1 : 1 <= b) (bb2 : b <= 8)
    (hg : g < w.heap.size) (hcell : ∀ j, j < n -> w.cell? ⟨g, j, none⟩ = some (.int .i64 (kn j : Nat))) (hk : ∀ j, j < n -> kn j <= 1)
    (hk2 : nd <= k2) (hn : 2 * sec <= nd) (hn2 : nd <= 64) (hg2 : g2 < w.heap.size) (hF : SecIn w g2 nd f) (hfz : ∀ j, j < nd -> (f j).size = 64) :
    Calls Tryz.prog 25 #[.agg #[.int .i64 (s0 : Nat), .int .i64 (s1 : Nat), .int .i64 (s2 : Nat), .int .i64 (s3 : Nat), .int .i64 (c : Nat), .int .i64 (h : Nat), .int .i64 (u : Nat), .slice (some ⟨g, 0, none⟩) n k, .int .i64 (b : Nat)], .slice (some ⟨g2, 0, none⟩) nd k2] w fun e w' => 
      ∃ d va, e = .returned (.tuple #[.pointer (some ⟨d, 0, none⟩), va, .int .i64 0]) /\ DevAt w' d (dev2 s0 s1 s2 s3 c h u n b sec kn w.heap.size (latC f sec) (stC f sec) (dataC z sec f)) /\ w'.ownsRow w.heap.size 77 4 va (readyA f sec (latC f sec) (stC f sec)).length ((readyA f sec (latC f sec) (stC f sec)).flatMap encA) /\ Below w.heap.size w w' := by
  obtain ⟨W, hW, hWs, hWb, hWg⟩ := cfg_new w s0 s1 s2 s3 c h u b (.slice (some ⟨g, 0, none⟩) n k)
  have hc6 : c <= 60 := by omega
  have hzl : z <= 186 := by omega
  have hz62 : z <= 62 * sec := by omega
  have HKS : Hid (z = (c + 7) / 8 + 2 * h) := hz
  have HND : Hid (2 * sec = 2 * max 1 (((c + 7) / 8 + 2 * h + 61) / 62)) := by show 2 * sec = _; rw [hsec, hz]
  have hsec3 : sec <= 4 := by omega
  have HSEC := hideF hsec
  have HFF := hideF hF
  have HFZ := hideF hfz
  clear hz hsec hF hfz
  obtain ⟨lt, hlt⟩ : ∃ lt, lt = latC f sec := ⟨_, rfl⟩
  obtain ⟨sq, hsq⟩ : ∃ sq, sq = stC f sec := ⟨_, rfl⟩
  obtain ⟨dt, hdt⟩ : ∃ dt, dt = dataC z sec f := ⟨_, rfl⟩
  have HDS : Hid (dt.size = (c + 7) / 8 + 2 * h) := by show _ = _; rw [hdt, dataC_size z sec nd f hz62 hn HFZ.out, HKS.out]
  have HLT := hideF hlt
  have HSQ := hideF hsq
  have HDT := hideF hdt
  rw [<- hlt, <- hsq, <- hdt]
  clear hlt hsq hdt
  have hcW : ∀ j, j < n -> W.cell? ⟨g, j, none⟩ = some (.int .i64 (kn j : Nat)) := fun j hj => by rw [(bcell hWb).1 g j hg]; exact hcell j hj
  have HCW := hideF hcW
  have D0 := hideF (HFF.out.bel hg2 hWb)
  have HGW := hideF hWg
  have HBW := hideF hWb
  obtain ⟨c0, c1, c2, c3, c4, c5, c6, c7, c8⟩ := cells9 hWg
  clear hcell hWg hWb hcW
  go_enter Tryz.func25, Tryz.ntmps25
  go_wp2_with fail
  rw [<- hW]
  clear hW
  refine (need_at s0 s1 s2 s3 c h u n k b g (2 * sec) kn W b0 b1 b2 b3 hcc bh bu1 bu2 bn1 bn2 bb1 bb2 (by omega) HCW.out hk HND.out).mono ?_
  rintro e w1 ⟨rfl, hb1⟩
  have HB1 := hideF hb1
  have hs1 := hb1.size
  have hg1 := (hb1.block w.heap.size (by omega)).trans HGW.out
  have HG1 := hideF hg1
  clear c0 c1 c2 c3 c4 c5 c6 c7 c8 hb1
  obtain ⟨c0, c1, c2, c3, c4, c5, c6, c7, c8⟩ := cells9 hg1
  clear hg1
  go_wp2_with fail
  refine (fits_at nd (2 * sec) g2 k2 f w1 hn hn2 (D0.out.bel (by omega) HB1.out) HFZ.out).mono ?_
  rintro e w2 ⟨rfl, rfl⟩
  go_wp2_with fail
  refine (keptSize_at s0 s1 s2 s3 c h u n k b z (some ⟨g, 0, none⟩) w2 hc6 (by omega) HKS.out).mono ?_
  rintro e w3 ⟨rfl, hb3⟩
  have HB3 := hideF (bel_then HB1.out hb3)
  have hs3 := hb3.size
  clear hb3
  go_wp2_with fail
  refine (storeOpen_gen z sec g2 nd k2 lt sq f w3 hzl HSEC.out hk2 hn hn2 (by omega) (D0.out.bel (by omega) HB3.out) HFZ.out HLT.out HSQ.out).mono ?_
  rintro e w4 ⟨va, rfl, hst4, hoa4, hb4⟩
  obtain ⟨la, hla⟩ : ∃ la, la = readyA f sec lt sq := ⟨_, rfl⟩
  rw [<- hla] at hoa4
  have HLA := hideF hla
  have HOA := hideF (own_base (B := w.heap.size) hoa4 (by omega))
  obtain ⟨av4, cv4, rfl, _⟩ := own_view hoa4
  rw [<- HDT.out]
  clear hoa4 hla
  have HB4 := hideF (bel_then HB3.out hb4)
  have HST := hideF hst4
  have hs4 := hb4.size
  have hg4 := (HB4.out.block w.heap.size (by omega)).trans HGW.out
  have HG4 := hideF hg4
  have HL4 : Hid (w3.heap.size < w4.heap.size) := lt_of_block hst4
  clear c0 c1 c2 c3 c4 c5 c6 c7 c8 hb4 hst4
  obtain ⟨c0, c1, c2, c3, c4, c5, c6, c7, c8⟩ := cells9 hg4
  clear hg4
  have hn0 : w.heap.size < w4.heap.size := by omega
  have HK4 : Hid (∀ j, j < n -> w4.cell? ⟨g, j, none⟩ = some (.int .i64 (kn j : Nat))) := fun j hj => by rw [(bcell HB4.out).1 g j (by omega)]; exact HCW.out j hj
  go_wp2_with fail
  go_region_held3 (fun w' => w'.cell? ⟨w.heap.size, 0, none⟩ = some (.int .i64 (s0 : Nat)) /\ w'.cell? ⟨w.heap.size, 1, none⟩ = some (.int .i64 (s1 : Nat)) /\ w'.cell? ⟨w.heap.size, 2, none⟩ = some (.int .i64 (s2 : Nat)) /\ w'.cell? ⟨w.heap.size, 3, none⟩ = some (.int .i64 (s3 : Nat)) /\ w'.cell? ⟨w.heap.size, 4, none⟩ = some (.int .i64 (c : Nat)) /\ w'.cell? ⟨w.heap.size, 5, none⟩ = some (.int .i64 (h : Nat)) /\ w'.cell? ⟨w.heap.size, 6, none⟩ = some (.int .i64 (u : Nat)) /\ w'.cell? ⟨w.heap.size, 7, none⟩ = some (.slice (some ⟨g, 0, none⟩) n k) /\ w'.cell? ⟨w.heap.size, 8, none⟩ = some (.int .i64 (b : Nat))) (go_keep)
    (first
      | (go_at_call 64; refine (newLines_at n k g kn _ (by omega) (by first | (simp; omega) | omega) (fun j hj => by exact HK4.out j hj)).mono ?_; rintro e w5 ⟨rfl, hGL, hb5⟩; have hb5' := below_then_drew1 hb5; have hs5 := hb5'.size; have hg5 := (hb5'.block w.heap.size hn0).trans HG4.out; obtain ⟨f0, f1, f2, f3, f4, f5, f6, f7, f8⟩ := cells9 hg5)
      | (go_at_call 65; refine (newTables_sgen s0 s1 s2 s3 c h u n k b dt (some ⟨g, 0, none⟩) _ b0 b1 b2 b3 hcc bh HDS.out).mono ?_; rintro e w6 ⟨v, rfl, E, rfl, hE6, hi6, hb6⟩; have hs6 := hb6.size; have hg6 := (hb6.block w.heap.size (by omega)).trans hg5; obtain ⟨p0, p1, p2, p3, p4, p5, p6, p7, p8⟩ := cells9 hg6))
  obtain ⟨X, hX⟩ : ∃ X, X = w6.alloc (.cells #[.int .i64 (u : Nat), .int .i64 (b : Nat), .slice (some ⟨w4.heap.size, 0, none⟩) n n, .slice (some ⟨E 0, 0, none⟩) s0 s0, .slice (some ⟨E 1, 0, none⟩) s1 s1, .slice (some ⟨E 2, 0, none⟩) s2 s2, .slice (some ⟨E 3, 0, none⟩) s3 s3, .int .i64 (c : Nat), .int .i64 0, .int .i64 (h : Nat), .int .i64 0, .pointer (some ⟨w3.heap.size, 0, none⟩), .int .i64 0, .int .i64 0, .slice none 0 0] 110) := ⟨_, rfl⟩
  have hD := dev_new2 (kn := kn) (lat := lt) (st := sq) (S := dt) (sec := sec) hX (Grid.below hGL hb6 (by have := hGL.lt; simpa using this)) (fun i hi => (hE6 i hi).2) hi6 ((hb6.block _ (by have := HL4.out; omega)).trans ((hb5'.block _ HL4.out).trans HST.out)) (B := w.heap.size) ⟨by omega, by omega, by omega, fun i hi => Nat.le_trans (by omega) (hE6 i hi).1⟩
  have hBX : Below w.heap.size w X := by rw [hX]; exact bel_alloc (bel_then (bel_then (bel_then HBW.out HB4.out) hb5') hb6) _
  have HOX : Hid (X.ownsRow w.heap.size 77 4 (.slice av4 la.length cv4) la.length (la.flatMap encA)) := by rw [hX]; exact (ownsRow_below (ownsRow_below HOA.out hb5') hb6).alloc _
  have HD := hideF hD
  have HBX := hideF hBX
  clear hD hBX
  go_wp2_with fail
  rw [<- hX]
  clear hX
  go_wp2
  refine bodyPost_ret (v := .tuple #[.pointer (some ⟨w6.heap.size, 0, none⟩), .slice av4 la.length cv4, .int .i64 0]) (by simp [results, Tryz.results25, go_sem]) rfl ⟨_, _, rfl, ⟨_, _, _, _, HD.out⟩, by rw [<- HLA.out]; exact HOX.out, HBX.out⟩
end Go.Proofs.YtcpldcojckhapaaGreat

set_option maxRecDepth 100000
namespace Go.Proofs.YtcpldcojckhapaaGreat
open Go.RowKit
def szI (s0 s1 s2 s3 : Int) (q : Nat) : Int := if q = 0 then s0 else if q = 1 then s1 else if q = 2 then s2 else s3
structure CfgOk (s0 s1 s2 s3 c h u : Int) (n : Nat) (ln : Nat -> Int) (b : Int) : Prop where
  sz : ∀ q, q < 4 -> 0 <= szI s0 s1 s2 s3 q /\ szI s0 s1 s2 s3 q <= 60
  ln : ∀ j, j < n -> ln j = 0 ∨ ln j = 1
  c : 0 <= c /\ c <= s0
  h : 0 <= h /\ h <= s2
  u : 1 <= u /\ u <= 247
  n : 1 <= n /\ n <= 4
  b : 1 <= b /\ b <= 8
theorem arr4I (s0 s1 s2 s3 : Int) (q : Nat) (hq : q < 4) (W : World) : (Instr.index 37 (.agg #[.int .i64 s0, .int .i64 s1, .int .i64 s2, .int .i64 s3]) (.int .i64 (q : Nat))).run Tryz.prog W = .ok (.int .i64 (szI s0 s1 s2 s3 q)) W := by
  rcases (show q = 0 ∨ q = 1 ∨ q = 2 ∨ q = 3 by omega) with rfl | rfl | rfl | rfl
  . exact arr4_0 _ _ _ _ W
  . exact arr4_1 _ _ _ _ W
  . exact arr4_2 _ _ _ _ W
  . exact arr4_3 _ _ _ _ W
theorem within_gen (n a b : Int) (w : World) : Calls Tryz.prog 53 #[.int .i64 n, .int .i64 a, .int .i64 b] w fun e w' => ∃ r : Bool, e = .returned (.bool r) /\ (r = true ↔ a <= n /\ n <= b) /\ w' = w := by
  by_cases h : a <= n /\ n <= b
  . exact (within_yes n a b w h.1 h.2).mono fun e w' g => ⟨true, g.1, by simp [h], g.2⟩
  . exact (within_no n a b w (by omega)).mono fun e w' g => ⟨false, g.1, by simp; omega, g.2⟩
theorem cfg_newI (w : World) (s0 s1 s2 s3 c h u b : Int) (l : Value) : ∃ W, W = w.alloc (.cells #[.int .i64 s0, .int .i64 s1, .int .i64 s2, .int .i64 s3, .int .i64 c, .int .i64 h, .int .i64 u, l, .int .i64 b] 39) /\ W.heap.size = w.heap.size + 1 /\ Below w.heap.size w W /\ W.heap[w.heap.size]? = some (.cells #[.int .i64 s0, .int .i64 s1, .int .i64 s2, .int .i64 s3, .int .i64 c, .int .i64 h, .int .i64 u, l, .int .i64 b] 39 (0, 0)) :=
  ⟨_, rfl, by simp, bel_alloc (Below.refl _ _) _, heap_alloc_new w _⟩
theorem Vals.bel {w w' : World} {ad : Option Addr} {n : Nat} {v : Nat -> Int} (h : Vals w ad n v) (hb : Below w.heap.size w w') : Vals w' ad n v := fun j hj => by
  obtain ⟨g, o, h1, h2, h3, h4⟩ := h j hj
  exact ⟨g, o, h1, Nat.lt_of_lt_of_le h2 hb.size, ((bcell hb).1 g (o + j) h2).trans h3, h4⟩
set_option maxRecDepth 100000 in
set_option maxHeartbeats 2000000 in
theorem mayBe_gen (s0 s1 s2 s3 c h u b : Int) (n k : Nat) (ad : Option Addr) (ln : Nat -> Int) (w : World) (hv : Vals w ad n ln) (hn : n <= 9223372036854775807) :
    Calls Tryz.prog 72 #[.agg #[.int .i64 s0, .int .i64 s1, .int .i64 s2, .int .i64 s3, .int .i64 c, .int .i64 h, .int .i64 u, .slice ad n k, .int .i64 b]] w fun e w' => ∃ r : Bool, e = .returned (.bool r) /\ (r = true ↔ CfgOk s0 s1 s2 s3 c h u n ln b) /\ Below w.heap.size w w' := by
  obtain ⟨W, hW, hWs, hWb, hWg⟩ := cfg_newI w s0 s1 s2 s3 c h u b (.slice ad n k)
  obtain ⟨c0, c1, c2, c3, c4, c5, c6, c7, c8⟩ := cells9 hWg
  have HV := hideF (hv.bel hWb)
  have HB := hideF hWb
  clear hWg hWb hWs hv
  go_enter Tryz.func72, Tryz.ntmps72
  go_wp2_with fail
  rw [<- hW]
  clear hW
  go_loopw [9] (fun i wr => ∃ q : Nat, q <= 4 /\ i = .int .i64 (q : Nat) /\ W = wr /\ ∀ j, j < q -> 0 <= szI s0 s1 s2 s3 j /\ szI s0 s1 s2 s3 j <= 60) (fun i _ => 4 - (intOf i).toNat)
  case atStart => exact ⟨0, by omega, rfl, rfl, fun j hj => absurd hj (Nat.not_lt_zero _)⟩
  case round =>
    obtain ⟨q, hq, rfl, rfl, hsz⟩ := hrel
    have HSZ := hideF hsz
    clear hsz
    by_cases hq4 : q < 4
    . have hx := arr4I s0 s1 s2 s3 q hq4
      obtain ⟨y, hy⟩ : ∃ y, y = szI s0 s1 s2 s3 q := ⟨_, rfl⟩
      rw [<- hy] at hx
      have HY := hideF hy
      clear hy
      go_wp2_with fail
      by_cases hyb : 0 <= y /\ y <= 60
      . refine (within_yes _ _ _ _ hyb.1 hyb.2).mono ?_
        rintro e w1 ⟨rfl, rfl⟩
        have HYB := hideF hyb
        clear hyb
        go_wp2
        go_roundw
        case rel => exact ⟨q + 1, by omega, by go_num, trivial, fun j hj => by
          rcases Nat.lt_or_ge j q with h | h
          . exact HSZ.out j h
          . obtain rfl : j = q := by omega
            rw [<- HY.out]; exact HYB.out⟩
        case measure => simp [intOf]; omega
      . refine (within_no _ _ _ _ (by omega)).mono ?_
        rintro e w1 ⟨rfl, rfl⟩
        have HYB := hideF hyb
        clear hyb
        go_wp2
        go_ret
        exact ⟨_, rfl, by simp; intro hc; exact HYB.out (by rw [HY.out]; exact hc.sz q hq4), HB.out⟩
    . obtain rfl : q = 4 := by omega
      go_wp2_with fail
      clear hq hq4
      go_loopw [19] (fun i wr => ∃ q : Nat, q <= n /\ i = .int .i64 (q : Nat) /\ W = wr /\ ∀ j, j < q -> ln j = 0 ∨ ln j = 1) (fun i _ => n - (intOf i).toNat)
      case atStart => exact ⟨0, by omega, rfl, rfl, fun j hj => absurd hj (Nat.not_lt_zero _)⟩
      case round =>
        obtain ⟨q, hq, rfl, rfl, hln⟩ := hrel
        have HLN := hideF hln
        clear hln
        by_cases hqn : q < n
        . obtain ⟨g, o, rfl, hg, hcell, _, _⟩ := HV.out q hqn
          obtain ⟨y, hy⟩ : ∃ y, y = ln q := ⟨_, rfl⟩
          rw [<- hy] at hcell
          have HY := hideF hy
          clear hy
          by_cases h0 : y = 0
          . subst h0
            go_wp2_with fail
            go_roundw
            case rel => exact ⟨q + 1, by omega, by go_num, trivial, fun j hj => by
              rcases Nat.lt_or_ge j q with h | h
              . exact HLN.out j h
              . obtain rfl : j = q := by omega
                exact .inl HY.out.symm⟩
            case measure => simp [intOf]; omega
          . by_cases h1 : y = 1
            . subst h1
              clear h0
              go_wp2_with fail
              go_roundw
              case rel => exact ⟨q + 1, by omega, by go_num, trivial, fun j hj => by
                rcases Nat.lt_or_ge j q with h | h
                . exact HLN.out j h
                . obtain rfl : j = q := by omega
                  exact .inr HY.out.symm⟩
              case measure => simp [intOf]; omega
            . have t0 : (y != 0) = true := by simp [h0]
              have t1 : (y != 1) = true := by simp [h1]
              have HNO : Hid (¬ (ln q = 0 ∨ ln q = 1)) := by show ¬ _; rw [<- HY.out]; omega
              clear h0 h1
              go_wp2
              go_ret
              exact ⟨_, rfl, by simp; intro hc; exact HNO.out (hc.ln q hqn), HB.out⟩
        . obtain rfl : q = n := by omega
          have HIF : Hid (CfgOk s0 s1 s2 s3 c h u q ln b ↔ (0 <= c /\ c <= s0) /\ (0 <= h /\ h <= s2) /\ (1 <= u /\ u <= 247) /\ (1 <= q /\ q <= 4) /\ (1 <= b /\ b <= 8)) := ⟨fun hc => ⟨hc.c, hc.h, hc.u, hc.n, hc.b⟩, fun hc => ⟨HSZ.out, HLN.out, hc.1, hc.2.1, hc.2.2.1, hc.2.2.2.1, hc.2.2.2.2⟩⟩
          clear HSZ HLN
          go_wp2_with fail
          refine (within_gen _ _ _ _).mono ?_
          rintro e w1 ⟨r1, rfl, hr1, rfl⟩
          have HR1 := hideF hr1
          clear hr1
          cases r1
          . go_wp2
            go_ret
            exact ⟨_, rfl, by rw [HIF.out]; have := HR1.out; simp at this ⊢; intro a1 a2; omega, HB.out⟩
          . go_wp2_with fail
            refine (within_gen _ _ _ _).mono ?_
            rintro e w1 ⟨r2, rfl, hr2, rfl⟩
            have HR2 := hideF hr2
            clear hr2
            cases r2
            . go_wp2
              go_ret
              exact ⟨_, rfl, by rw [HIF.out]; have := HR2.out; simp at this ⊢; intro a1 a2 a3 a4; omega, HB.out⟩
            . go_wp2_with fail
              refine (within_gen _ _ _ _).mono ?_
              rintro e w1 ⟨r3, rfl, hr3, rfl⟩
              have HR3 := hideF hr3
              clear hr3
              cases r3
              . go_wp2
                go_ret
                exact ⟨_, rfl, by rw [HIF.out]; have := HR3.out; simp at this ⊢; intro a1 a2 a3 a4 a5 a6; omega, HB.out⟩
              . go_wp2_with fail
                refine (within_gen _ _ _ _).mono ?_
                rintro e w1 ⟨r4, rfl, hr4, rfl⟩
                have HR4 := hideF hr4
                clear hr4
                cases r4
                . go_wp2
                  go_ret
                  exact ⟨_, rfl, by rw [HIF.out]; have := HR4.out; simp at this ⊢; intro a1 a2 a3 a4 a5 a6 a7 a8; omega, HB.out⟩
                . go_wp2_with fail
                  refine (within_gen _ _ _ _).mono ?_
                  rintro e w1 ⟨r5, rfl, hr5, rfl⟩
                  have HR5 := hideF hr5
                  clear hr5
                  go_wp2
                  go_ret
                  refine ⟨_, rfl, ?_, HB.out⟩
                  rw [HIF.out, HR5.out]
                  have g1 : (0 <= c /\ c <= s0) := by have := HR1.out; simpa using this
                  have g2 : (0 <= h /\ h <= s2) := by have := HR2.out; simpa using this
                  have g3 : (1 <= u /\ u <= 247) := by have := HR3.out; simpa using this
                  have g4 : (1 : Int) <= (q : Int) /\ (q : Int) <= 4 := by have := HR4.out; simp at this; omega
                  exact ⟨fun g5 => ⟨g1, g2, g3, by omega, g5⟩, fun hc => hc.2.2.2.2⟩
set_option maxRecDepth 100000 in
set_option maxHeartbeats 1000000 in
theorem need_gen (s0 s1 s2 s3 c h u b : Int) (n k : Nat) (ad : Option Addr) (ln : Nat -> Int) (w : World) (hv : Vals w ad n ln) (hn : n <= 9223372036854775807) :
    Calls Tryz.prog 48 #[.agg #[.int .i64 s0, .int .i64 s1, .int .i64 s2, .int .i64 s3, .int .i64 c, .int .i64 h, .int .i64 u, .slice ad n k, .int .i64 b]] w fun e w' => ((¬ CfgOk s0 s1 s2 s3 c h u n ln b /\ e = .returned (.tuple #[.int .i64 0, .int .i64 2])) ∨ (CfgOk s0 s1 s2 s3 c h u n ln b /\ e = .returned (.tuple #[.int .i64 (2 * max 1 (((c.toNat + 7) / 8 + 2 * h.toNat + 61) / 62) : Nat), .int .i64 0]))) /\ Below w.heap.size w w' := by
  obtain ⟨W, hW, hWs, hWb, hWg⟩ := cfg_newI w s0 s1 s2 s3 c h u b (.slice ad n k)
  obtain ⟨c0, c1, c2, c3, c4, c5, c6, c7, c8⟩ := cells9 hWg
  have HM := hideF (mayBe_gen s0 s1 s2 s3 c h u b n k ad ln W (hv.bel hWb) hn)
  have HB := hideF hWb
  have HG := hideF hWg
  clear hWg hWb hv
  go_enter Tryz.func48, Tryz.ntmps48
  go_wp2_with fail
  rw [<- hW]
  clear hW
  refine HM.out.mono ?_
  rintro e w1 ⟨r, rfl, hr, hb1⟩
  have HB1 := hideF (bel_then HB.out hb1)
  have hs1 := hb1.size
  have hg1 := (hb1.block w.heap.size (by omega)).trans HG.out
  have HR := hideF hr
  clear c0 c1 c2 c3 c4 c5 c6 c7 c8 hr
  obtain ⟨c0, c1, c2, c3, c4, c5, c6, c7, c8⟩ := cells9 hg1
  clear hg1
  cases r
  . go_wp2
    go_ret2
    exact ⟨.inl ⟨fun hc => by have := HR.out.2 hc; simp at this, rfl⟩, HB1.out⟩
  . have hok := HR.out.1 rfl
    have q0 := hok.sz 0 (by omega)
    have q2 := hok.sz 2 (by omega)
    have e0 : szI s0 s1 s2 s3 0 = s0 := rfl
    have e2 : szI s0 s1 s2 s3 2 = s2 := rfl
    obtain ⟨S0, hS0⟩ : ∃ S : Nat, s0 = (S : Int) := ⟨s0.toNat, by omega⟩
    obtain ⟨S1, hS1⟩ : ∃ S : Nat, s1 = (S : Int) := ⟨s1.toNat, by have := (hok.sz 1 (by omega)).1; have e1 : szI s0 s1 s2 s3 1 = s1 := rfl; omega⟩
    obtain ⟨S2, hS2⟩ : ∃ S : Nat, s2 = (S : Int) := ⟨s2.toNat, by omega⟩
    obtain ⟨S3, hS3⟩ : ∃ S : Nat, s3 = (S : Int) := ⟨s3.toNat, by have := (hok.sz 3 (by omega)).1; have e1 : szI s0 s1 s2 s3 3 = s3 := rfl; omega⟩
    obtain ⟨C, hC⟩ : ∃ S : Nat, c = (S : Int) := ⟨c.toNat, by have := hok.c; omega⟩
    obtain ⟨H, hH⟩ : ∃ S : Nat, h = (S : Int) := ⟨h.toNat, by have := hok.h; omega⟩
    obtain ⟨U, hU⟩ : ∃ S : Nat, u = (S : Int) := ⟨u.toNat, by have := hok.u; omega⟩
    obtain ⟨BB, hBB⟩ : ∃ S : Nat, b = (S : Int) := ⟨b.toNat, by have := hok.b; omega⟩
    have hcC := hok.c
    have hhH := hok.h
    have HOK := hideF hok
    clear hok
    subst hS0 hS1 hS2 hS3 hC hH hU hBB
    go_wp2_with fail
    refine (keptSize_at S0 S1 S2 S3 C H U n k BB ((C + 7) / 8 + 2 * H) ad w1 (by omega) (by omega) rfl).mono ?_
    rintro e w2 ⟨rfl, hb2⟩
    have HB2 := hideF (bel_then HB1.out hb2)
    clear hb2
    go_wp2_with fail
    refine (storeNeed_at ((C + 7) / 8 + 2 * H) (2 * max 1 (((C + 7) / 8 + 2 * H + 61) / 62)) rfl _ (by omega)).mono ?_
    rintro e w3 ⟨rfl, rfl⟩
    go_wp2
    go_ret2
    exact ⟨.inr ⟨HOK.out, rfl⟩, HB2.out⟩
end Go.Proofs.YtcpldcojckhapaaGreat
