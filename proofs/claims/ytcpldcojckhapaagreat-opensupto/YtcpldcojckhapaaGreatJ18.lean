/-
  
-/
import Derived.Test.YtcpldcojckhapaaGreatJ17
import Derived.Test.YtcpldcojckhapaaGreatJ13
set_option maxRecDepth 100000
namespace Go.Proofs.YtcpldcojckhapaaGreat
open Go.RowKit
set_option maxRecDepth 100000 in
set_option maxHeartbeats 2000000 in
theorem flush_gen (d L S lat' st' : Nat) (E : Nat -> Nat) (wv : Value) (D : Dev) (data : ByteArray) (R : List (Int × Int × ByteArray) -> List (Int × Int × ByteArray) -> Prop) (hR : ∀ h s, R h s -> h.length = s.length) (hP : Pops D.base d R) (s : List (Int × Int × ByteArray)) (w : World) (h : DevIn w d L S E wv D) (hu : 0 < D.uns) (hkp : ∀ w1 : World, DevIn w1 d L S E wv D -> Calls Tryz.prog 59 #[.pointer (some ⟨d, 3, none⟩)] w1 fun e w' => e = .returned (.string data) /\ Below w1.heap.size w1 w') (hdz : data.size <= 1000)
    (hsec : D.sec <= 64) (hfit : ∀ i, i < D.sec -> i * 62 <= data.size) (hlat : D.lat <= 1) (hst : D.stamp <= 3) (hl' : lat' = (D.lat + 1) % 2) (hs' : st' = D.stamp % 3 + 1) (hrs : R D.wait s) (hsl : s.length <= 1000) (hs0 : 0 < s.length) :
    Calls Tryz.prog 24 #[.pointer (some ⟨d, 0, none⟩)] w fun e w' => ∃ v, e = .returned v /\ w'.ownsRow w.heap.size 77 4 v (D.sec + 1 + s.length) ((saveA D.sec lat' st' data ++ s.map sendOf).flatMap encA) /\ DevIn w' d L S E (.slice none 0 0) { D with lat := lat', stamp := st', uns := 0, wait := [] } /\ FtT D.base (devT d L S E) w w' := by
  obtain ⟨i0, hi, hz0, hz1, hz2⟩ := info_parts Tryz.infoEA
  obtain ⟨c0, c1, c2, c11, c12, c13, c14, cf, hdl⟩ := h.cells
  have hu' : ((D.uns : Int) == 0) = false := by rw [beq_eq_false_iff_ne]; omega
  have HK : Hid (Calls Tryz.prog 59 #[.pointer (some ⟨d, 3, none⟩)] w.drew fun e w' => ∃ v, e = .returned v /\ (v = .string data /\ Below w.drew.heap.size w.drew w')) := (hkp w.drew (h.drewN 1)).mono fun e w' h => ⟨_, h.1, rfl, h.2⟩
  have HFIT := hideF hfit
  have HH := hideF h
  have HL := hideF hl'
  have HS := hideF hs'
  have HR := hideF hR
  have HP := hideF hP
  have HRS := hideF hrs
  clear h hkp hl' hs' hR hP hrs hfit
  go_enter Tryz.func24, Tryz.ntmps24
  go_wp2_with fail
  go_region_law (first
    | (refine step_call rfl 59 #[.tmp 15] #[104] rfl #[.pointer (some ⟨d, 3, none⟩)] (by simp [Act.eval, Act.put]) (enter60 _ _) _ HK.out ?_; rintro vv w1 ⟨rfl, hb1⟩; have hd1 := (HH.out.drewN 1).belowQ hb1; obtain ⟨k0, k1, k2, k11, k12, k13, k14, kf, hdk⟩ := hd1.cells)
    | (refine step_call rfl 58 #[.tmp 12, .tmp 16] #[106, 9] rfl #[.pointer (some ⟨S, 0, none⟩), .string data] (by simp [Act.eval]) (enter59 _ _ _) _ (save_any S D.sec D.lat D.stamp lat' st' data _ hd1.store hsec HFIT.out (by omega) hlat hst HL.out HS.out) ?_; rintro vv w2 ⟨hown2, hst2, hch2⟩))
  all_goals
    obtain ⟨a2, p2, rfl, _⟩ := own_view hown2
    have hbw1 := below_then_drew1 hb1
    have HD2 := hideF (hd1.saved hch2 hst2)
    have HF2 := hideF ((FtT.of_below (B := D.base) (devT d L S E) hbw1).trans (FtT.chg hch2 hd1.store (devT_S _ _ _ _) hd1.lo.2.2.1))
    have HO2 := hideF (own_base (B := w.heap.size) hown2 hbw1.size)
    clear c0 c1 c2 c11 c12 c13 c14 cf k0 k1 k2 k11 k12 k13 k14 kf hown2 hst2 hch2 hd1 hb1 hbw1 HK
    obtain ⟨c0, c1, c2, c11, c12, c13, c14, cf, hd2⟩ := HD2.out.cells
    go_wp2_with fail
    obtain ⟨Y, hY⟩ : ∃ Y, Y = w2.setCell ⟨d, 13, none⟩ (.int .i64 0) := ⟨_, rfl⟩
    have HDY : Hid (DevIn Y d L S E wv { D with lat := lat', stamp := st', uns := 0 }) := by rw [hY]; exact HD2.out.setUns 0
    have HFY : Hid (FtT D.base (devT d L S E) w Y) := by rw [hY]; exact HF2.out.setCell HD2.out.dev (devT_d _ _ _ _) HD2.out.lo.1 _ _
    have HOY : Hid (Y.ownsRow w.heap.size 77 4 (.slice a2 (D.sec + 1) p2) (D.sec + 1) ((saveA D.sec lat' st' data).flatMap encA)) := by
      rw [hY]; exact own_same HO2.out (fun g hg => by obtain ⟨cg, hcg⟩ := own_block HO2.out g hg; exact heap_setCell_other w2 ⟨d, 13, none⟩ g _ (ne_of_types hcg HD2.out.dev (by decide)))
    rw [<- hY]
    clear hY c0 c1 c2 c11 c12 c13 c14 cf HD2 HF2 HO2 hd2
    refine (sendAll_any d R HR.out HP.out _ wv D.wait s Y hsl HRS.out HDY.out.waitIn).mono ?_
    rintro e w3 ⟨v3, rfl, hown3, hw3, hf3⟩
    have HD3 := hideF (HDY.out.ofWait hw3 hf3)
    have HF3 := hideF (HFY.out.trans (hf3.mono (wt_dev _ _ _ _)))
    have HO3 := hideF (own_same (w' := w3) HOY.out (fun g hg => by obtain ⟨cg, hcg⟩ := own_block HOY.out g hg; exact hf3.keep g cg 77 hcg rfl))
    have hsY := HFY.out.size
    have hs3 := HF3.out.size
    obtain ⟨a3, p3, rfl, hat3⟩ := own_view hown3
    obtain ⟨g3, rfl, hg3, hc3⟩ := hat3 0 hs0
    have hln : ((s.map sendOf).flatMap encA).length = s.length * 4 := by rw [flat_len encA 4 (fun _ => rfl), List.length_map]
    have HC3 : Hid (∀ j u, ((s.map sendOf).flatMap encA)[j]? = some u -> w3.cell? ((⟨g3, 0, none⟩ : Addr).add j) = some u) := fun j u hj => by
      have hjl : j < ((s.map sendOf).flatMap encA).length := (List.getElem?_eq_some_iff.1 hj).1
      have e : (⟨g3, 0, none⟩ : Addr).add j = ⟨g3, j, none⟩ := by by_cases h0 : j = 0 <;> simp [Addr.add, h0]
      rw [e, hc3 j (by omega), hj]
    have HLN := hideF hln
    clear hown3 hw3 hf3 hat3 hc3 hln HDY HFY HOY
    go_wp2_with (at_builtin; refine wpList_append_own _ rfl (.tmp 21) (.tmp 25) 31 rfl w.heap.size 77 i0 _ 4 40 Tryz.underlying31 hi hz0 hz1 hz2 rfl (by decide) _ (D.sec + 1) _ rfl HO3.out ⟨g3, 0, none⟩ s.length p3 ((s.map sendOf).flatMap encA) rfl HLN.out HC3.out (encA_one _) (by unfold maxLen; omega) (by omega) (by omega) ?_; intro v' w4 hown4 hgrow4 _; obtain ⟨a4, p4, rfl, _⟩ := own_view hown4)
    go_ret
    refine ⟨_, rfl, ?_, ?_, HF3.out.grown_new hgrow4 (fun k hk => (HO3.out.lt k hk).1)⟩
    . rw [List.flatMap_append]; exact hown4
    . exact HD3.out.keep ((FtT.refl (B := 0) (fun _ t => t == 77) w3).grown hgrow4 (fun k hk => ⟨Nat.zero_le _, own_block HO3.out k hk⟩) (fun _ => rfl)) (fun _ => rfl) (fun _ => rfl) (fun _ => rfl) (fun _ => rfl) (fun _ => rfl)
def keptB (f : Nat -> Nat -> Int) (k0 k2 : Nat) : ByteArray := Pl.packB (fun j => (f 0 j).toNat) k0 ((k0 + 7) / 8) ++ wordsB ((List.range k2).map fun j => (f 2 j).toNat)
theorem keptB_size (f : Nat -> Nat -> Int) (k0 k2 : Nat) : (keptB f k0 k2).size = (k0 + 7) / 8 + 2 * k2 := by
  unfold keptB; rw [ByteArray.size_append, Pl.packB_size, wordsB_size]; simp
set_option maxRecDepth 100000 in
set_option maxHeartbeats 1000000 in
theorem kept_gen (d L S : Nat) (E : Nat -> Nat) (wv : Value) (D : Dev) (w : World) (h : DevIn w d L S E wv D) (hz : ∀ i, i < 4 -> D.sz i <= 60) (hk0 : D.kp 0 <= D.sz 0) (hk2 : D.kp 2 <= D.sz 2) (he : EntOk D.ent) :
    Calls Tryz.prog 59 #[.pointer (some ⟨d, 3, none⟩)] w fun e w' => e = .returned (.string (keptB D.ent (D.kp 0) (D.kp 2))) /\ Below w.heap.size w w' := by
  have z0 := hz 0 (by omega)
  have z2 := hz 2 (by omega)
  have c3 : w.cell? ⟨d, 3, none⟩ = _ := h.cellE (i := 0) (by omega)
  have c5 : w.cell? ⟨d, 5, none⟩ = _ := h.cellE (i := 2) (by omega)
  have c7 : w.cell? ⟨d, 7, none⟩ = _ := h.cellK (i := 0) (by omega)
  have c9 : w.cell? ⟨d, 9, none⟩ = _ := h.cellK (i := 2) (by omega)
  have hE0 := (h.ent 0 (by omega)).lt
  have hE2 := (h.ent 2 (by omega)).lt
  obtain ⟨k0, hk0e⟩ : ∃ k, k = D.kp 0 := ⟨_, rfl⟩
  obtain ⟨k2, hk2e⟩ : ∃ k, k = D.kp 2 := ⟨_, rfl⟩
  obtain ⟨s0, hs0e⟩ : ∃ k, k = D.sz 0 := ⟨_, rfl⟩
  obtain ⟨s2, hs2e⟩ : ∃ k, k = D.sz 2 := ⟨_, rfl⟩
  have HB0 : Hid (∀ i, (fun j => (D.ent 0 j).toNat) i < 2) := fun i => by have := he 0 i; have := this.2.2 (by omega); simp only; omega
  have HC0 : Hid (∀ j, j < k0 -> w.cell? ⟨E 0, 0 + j, none⟩ = some (.int .i64 ((fun j => (D.ent 0 j).toNat) j : Nat))) := fun j hj => by
    have := (h.ent 0 (by omega)).cell (i := j) (j := 0) (by omega) (by omega)
    rw [Nat.mul_one, Nat.add_zero] at this
    rw [Nat.zero_add, this]
    have := (he 0 j).1
    simp only; congr 2; omega
  have H16 : Hid (∀ y ∈ (List.range k2).map (fun j => (D.ent 2 j).toNat), y < 65536) := fun y hy => by
    obtain ⟨i, _, rfl⟩ := List.mem_map.1 hy
    have := he 2 i
    omega
  have HC2 : Hid (∀ j x, ((List.range k2).map (fun j => (D.ent 2 j).toNat))[j]? = some x -> w.cell? ⟨E 2, 0 + j, none⟩ = some (.int .i64 (x : Nat))) := fun j x hj => by
    have hjl : j < k2 := by have := (List.getElem?_eq_some_iff.1 hj).1; simpa using this
    rw [List.getElem?_map, List.getElem?_range hjl] at hj
    have hy : (D.ent 2 j).toNat = x := by simpa using hj
    have := (h.ent 2 (by omega)).cell (i := j) (j := 0) (by omega) (by omega)
    rw [Nat.mul_one, Nat.add_zero] at this
    rw [Nat.zero_add, this]
    have := (he 2 j).1
    congr 2; omega
  have hz2 : (wordsB ((List.range k2).map fun j => (D.ent 2 j).toNat)).size <= 200 := by rw [wordsB_size]; simp; omega
  have hz1 : (Pl.packB (fun j => (D.ent 0 j).toNat) k0 ((k0 + 7) / 8)).size <= 200 := by rw [Pl.packB_size]; omega
  rw [<- hk0e, <- hk2e]
  rw [<- hk0e] at c7 hk0
  rw [<- hk2e] at c9 hk2
  rw [<- hs0e] at c3 hk0 z0
  rw [<- hs2e] at c5 hk2 z2
  have hk0' : (k0 : Int) <= (s0 : Int) := by omega
  have hk2' : (k2 : Int) <= (s2 : Int) := by omega
  unfold keptB
  obtain ⟨P, hP⟩ : ∃ P, P = Pl.packB (fun j => (D.ent 0 j).toNat) k0 ((k0 + 7) / 8) := ⟨_, rfl⟩
  obtain ⟨Q, hQ⟩ : ∃ Q, Q = wordsB ((List.range k2).map fun j => (D.ent 2 j).toNat) := ⟨_, rfl⟩
  rw [<- hP, <- hQ]
  rw [<- hP] at hz1
  rw [<- hQ] at hz2
  have hlim : ¬ 9223372036854775807 < P.size + Q.size := by omega
  have HP := hideF hP
  have HQ := hideF hQ
  clear h hz he hk0e hk2e hs0e hs2e hP hQ
  go_enter Tryz.func59, Tryz.ntmps59
  go_wp2_with fail
  go_quiet (fail)
  go_wp2_with fail
  go_quiet (fail)
  go_wp2_with fail
  refine (bits_any (fun j => (D.ent 0 j).toNat) k0 s0 (E 0) 0 _ _ HB0.out (by omega) (by exact hE0) (fun _ => rfl) (by intro j hj; exact HC0.out j hj)).mono ?_
  rintro e w1 ⟨rfl, hb1⟩
  have HB1 := hideF (bel_then (below_drewN (Below.refl w.heap.size w) _) hb1)
  have hs1 := HB1.out.size
  have HC1 : Hid (∀ j x, ((List.range k2).map (fun j => (D.ent 2 j).toNat))[j]? = some x -> w1.cell? ⟨E 2, 0 + j, none⟩ = some (.int .i64 (x : Nat))) := fun j x hj => by rw [(bcell HB1.out).1 (E 2) _ hE2]; exact HC2.out j x hj
  rw [<- HP.out]
  clear hb1
  go_wp2_with fail
  refine (words_any _ k2 s2 (E 2) 0 _ _ (by simp) (by omega) H16.out (by omega) (fun _ => rfl) HC1.out).mono ?_
  rintro e w2 ⟨rfl, hb2⟩
  have HB2 := hideF (bel_then HB1.out hb2)
  rw [<- HQ.out]
  clear hb2
  go_wp2
  go_ret
  exact ⟨rfl, HB2.out⟩
end Go.Proofs.YtcpldcojckhapaaGreat

set_option maxRecDepth 100000
namespace Go.Proofs.YtcpldcojckhapaaGreat
open Go.RowKit
set_option maxRecDepth 100000 in
set_option maxHeartbeats 1000000 in
theorem asksAll_no (L o : Nat) (u : Int) (w : World) (h : w.cell? ⟨L, o, none⟩ = some (.int .i64 0)) : Calls Tryz.prog 78 #[.pointer (some ⟨L, o, none⟩), .int .i64 u] w fun e w' => e = .returned (.bool false) /\ w' = w := by
  go_enter Tryz.func78, Tryz.ntmps78
  go_wp2
  go_ret
  exact ⟨rfl, rfl⟩
set_option maxRecDepth 100000 in
set_option maxHeartbeats 2000000 in
theorem take_other (d L S i m u : Nat) (E : Nat -> Nat) (wv : Value) (D : Dev) (s : ByteArray) (w : World) (h : DevIn w d L S E wv D) (hi : i < D.nl) (hk : (D.ln i).kind = 0) (hu : u ≠ D.unit) :
    Calls Tryz.prog 57 #[.pointer (some ⟨d, 0, none⟩), .int .i64 (i : Nat), .agg #[.int .i64 (m : Nat), .int .i64 (u : Nat), .string s]] w fun e w' => e = .returned (.slice none 0 0) /\ Below w.heap.size w w' := by
  obtain ⟨c0, c1, c2, c11, c12, c13, c14, cf, hdl⟩ := h.cells
  obtain ⟨W, hW⟩ : ∃ W, W = w.alloc (.cells #[.int .i64 (m : Nat), .int .i64 (u : Nat), .string s] 94) := ⟨_, rfl⟩
  have hWb : Below w.heap.size w W := by rw [hW]; exact bel_alloc (Below.refl _ _) _
  have hWg : W.heap[w.heap.size]? = some (.cells #[.int .i64 (m : Nat), .int .i64 (u : Nat), .string s] 94 (0, 0)) := by rw [hW]; exact heap_alloc_new w _
  have hWl : W.heap.size = w.heap.size + 1 := by rw [hW]; simp
  have HH := hideF h
  have HWb := hideF hWb
  have HWg := hideF hWg
  have huI : ((u : Int) == (D.unit : Int)) = false := by rw [beq_eq_false_iff_ne]; omega
  have hune : ((u : Int) != (D.unit : Int)) = true := by simp [bne, huI]
  have hiI : (i : Int) < (D.nl : Int) := by omega
  have HK := hideF hk
  clear h hWb hWg hu hk
  go_enter Tryz.func57, Tryz.ntmps57
  go_wp2_with fail
  rw [<- hW]
  clear hW
  refine (newRequest_any s W).mono ?_
  rintro e w1 ⟨x, v, k, rfl, hown, hsh, hlen, hb⟩
  unfold reqV
  obtain ⟨av, cv, rfl, _⟩ := own_view hown
  obtain ⟨X, hX⟩ : ∃ X, X = w1.alloc (.cells #[.string s, .int .i64 (x.fn : Nat), .int .i64 (x.tab : Nat), .int .i64 (x.frm : Nat), .int .i64 (x.cnt : Nat), .int .i64 (x.into : Nat), .int .i64 (x.to : Nat), .int .i64 (x.many : Nat), .slice av x.vals.length cv, .int .u8 (k : Nat)] 146) := ⟨_, rfl⟩
  have hX1 : Below w1.heap.size w1 X := by rw [hX]; exact bel_alloc (Below.refl _ _) _
  have hXb : Below w.heap.size w X := bel_then (bel_then HWb.out hb) hX1
  have hXg : X.heap[w.heap.size]? = some (.cells #[.int .i64 (m : Nat), .int .i64 (u : Nat), .string s] 94 (0, 0)) := (hX1.block _ (by have := hb.size; omega)).trans ((hb.block _ (by omega)).trans HWg.out)
  have HXb := hideF hXb
  have HD := hideF (HH.out.belowQ hXb)
  clear c0 c1 c2 c11 c12 c13 c14 cf hown hsh hb hX1
  obtain ⟨c0, c1, c2, c11, c12, c13, c14, cf, hdX⟩ := HD.out.cells
  obtain ⟨g0, g1, g2, gf⟩ := cells3f hXg
  have hlc : X.cell? ⟨L, i * 3, none⟩ = some (.int .i64 0) := by
    have := HD.out.lines.cell hi (j := 0) (by omega)
    rw [Nat.add_zero] at this
    rw [this]; simp [lnc, HK.out]
  clear hXb hXg
  go_wp2_with fail
  rw [<- hX]
  clear hX
  go_quiet (first | (go_at_call 78; refine Calls.quiet_of_same (asksAll_no _ _ _ _ (by simpa using hlc))))
  go_wp2
  go_ret
  exact ⟨rfl, below_drewN HXb.out _⟩
set_option maxRecDepth 100000 in
set_option maxHeartbeats 1000000 in
theorem hear_broken (L o : Nat) (s : ByteArray) (w : World) (h0 : w.cell? ⟨L, o, none⟩ = some (.int .i64 0)) (h2 : w.cell? ⟨L, o + 2, none⟩ = some (.bool true)) :
    Calls Tryz.prog 56 #[.pointer (some ⟨L, o, none⟩), .string s] w fun e w' => e = .returned (.slice none 0 0) /\ w' = w := by
  go_enter Tryz.func56, Tryz.ntmps56
  go_wp2
  go_ret
  exact ⟨rfl, rfl⟩
theorem enterClone (x : Value) (w : World) : (callFunc 76 #[x]).run Tryz.prog w = .ok (.enter 76 #[x]) w := by kernel_rfl
def collB (b s : ByteArray) : ByteArray := b ++ s.extract 0 (min s.size (257 - b.size))
set_option maxRecDepth 100000 in
set_option maxHeartbeats 2000000 in
theorem collect_any (L i n : Nat) (ln : Nat -> Ln) (s : ByteArray) (w : World) (hG : Grid w L 116 n 3 (fun a j => lnc (ln a) j)) (hi : i < n) (hz : (ln i).bytes.size <= 257) (hs : s.size <= 4194304) :
    Calls Tryz.prog 74 #[.pointer (some ⟨L, i * 3, none⟩), .string s] w fun e w' => e = .returned (.tuple #[]) /\ Grid w' L 116 n 3 (fun a j => lnc (if a = i then { ln i with bytes := collB (ln i).bytes s } else ln a) j) /\ Chg1 L w w' := by
  have c1 : w.cell? ⟨L, i * 3 + 1, none⟩ = some (.string (ln i).bytes) := by have := hG.cell hi (j := 1) (by omega); rw [this]; simp [lnc]
  have hL := hG.lt
  obtain ⟨A, hA⟩ : ∃ A, A = (ln i).bytes := ⟨_, rfl⟩
  rw [<- hA] at c1 hz ⊢
  obtain ⟨kk, hkk⟩ : ∃ kk : Nat, kk = min s.size (257 - A.size) := ⟨_, rfl⟩
  have hkI : min (s.size : Int) (257 - (A.size : Int)) = (kk : Int) := by omega
  have hks : (kk : Int) <= (s.size : Int) := by omega
  have hk2 : kk <= 257 := by omega
  have HG := hideF hG
  have HA := hideF hA
  have HKK := hideF hkk
  have hfz := hG.frozen (i * 3 + 1)
  have hze : (s.extract 0 kk).size <= 257 := by rw [ByteArray.size_extract]; omega
  have hlim : ¬ 9223372036854775807 < A.size + min kk s.size := by omega
  clear hG hA hkk
  go_enter Tryz.func74, Tryz.ntmps74
  go_wp2_with fail
  clear hkI
  have HCL : Hid (Calls Tryz.prog 76 #[.string (A ++ s.extract 0 kk)] w.drew fun e w' => ∃ v, e = .returned v /\ (v = .string (A ++ s.extract 0 kk) /\ Below w.drew.heap.size w.drew w')) := (clone_any (A ++ s.extract 0 kk) w.drew (by rw [ByteArray.size_append]; omega)).mono fun e w' h => ⟨_, h.1, rfl, h.2⟩
  go_region_law (first
    | (refine step_call rfl 76 #[.tmp 22] #[9] rfl #[.string (A ++ s.extract 0 kk)] (by simp [Act.eval, Act.put]) (enterClone _ _) _ HCL.out ?_; rintro vv w2 ⟨rfl, hb2⟩; have hb2' := below_then_drew1 hb2; have e1 : w2.cell? ⟨L, i * 3 + 1, none⟩ = some (.string A) := ((bcell hb2').1 L _ hL).trans c1; have HG2 := hideF (HG.out.below hb2' hL); have f1 := HG2.out.frozen (i * 3 + 1)))
  all_goals
    go_end0
    refine ⟨rfl, ?_, ((Chg1.of_below L hb2').setCell _ _)⟩
    have g1 := line_set (x := { ln i with bytes := collB A s }) (v := .string (A ++ s.extract 0 kk)) HG2.out hi (j := 1) (by omega) (by simp [lnc, collB, HKK.out]) (fun b hb hne => by
      rcases (show b = 0 ∨ b = 2 by omega) with rfl | rfl <;> rfl)
    exact g1
end Go.Proofs.YtcpldcojckhapaaGreat

set_option maxRecDepth 100000
namespace Go.Proofs.YtcpldcojckhapaaGreat
open Go.RowKit
abbrev Ans := Int × Int × ByteArray
def keyA (l : List Ans) (a : Nat) : Int := (l.getD a (0, 0, ⟨#[]⟩)).1
def pickJ (n i : Nat) (l : List Ans) : Nat := if 2 * i + 1 + 1 < n /\ keyA l (2 * i + 1 + 1) < keyA l (2 * i + 1) then 2 * i + 1 + 1 else 2 * i + 1
def swapA (l : List Ans) (i j : Nat) : List Ans := (l.set i (l.getD j (0, 0, ⟨#[]⟩))).set j (l.getD i (0, 0, ⟨#[]⟩))
inductive DownTo (n : Nat) : Nat -> List Ans -> List Ans -> Prop
  | leaf {i : Nat} {l : List Ans} (h : n <= 2 * i + 1) : DownTo n i l l
  | stop {i : Nat} {l : List Ans} (h : 2 * i + 1 < n) (hk : ¬ keyA l (pickJ n i l) < keyA l i) : DownTo n i l l
  | step {i : Nat} {l r : List Ans} (h : 2 * i + 1 < n) (hk : keyA l (pickJ n i l) < keyA l i) (hr : DownTo n (pickJ n i l) (swapA l i (pickJ n i l)) r) : DownTo n i l r
theorem get_ans (l : List Ans) (i : Nat) (h : i < l.length) : l[i]? = some (l.getD i (0, 0, ⟨#[]⟩)) := by
  rw [List.getD_eq_getElem?_getD, List.getElem?_eq_getElem h]; rfl
theorem less_key {B : Nat} {v : Value} {l : List Ans} {w : World} (h : w.ownsRow B 163 3 v l.length (l.flatMap encF)) (i j : Nat) (hi : i < l.length) (hj : j < l.length) (b : Bool) (hb : decide (keyA l i < keyA l j) = b) :
    Calls Tryz.prog 194 #[v, .int .i64 (i : Nat), .int .i64 (j : Nat)] w fun e w' => e = .returned (.bool b) /\ ∃ k, w' = w.drewN k :=
  hless_any B i j v l _ _ b w h (get_ans l i hi) (get_ans l j hj) hb
theorem less_int {B : Nat} {v : Value} {l : List Ans} {w : World} (h : w.ownsRow B 163 3 v l.length (l.flatMap encF)) (a c : Int) (i j : Nat) (ha : a = (i : Nat)) (hc : c = (j : Nat)) (hi : i < l.length) (hj : j < l.length) (b : Bool) (hb : decide (keyA l i < keyA l j) = b) :
    Calls Tryz.prog 194 #[v, .int .i64 a, .int .i64 c] w fun e w' => e = .returned (.bool b) /\ ∃ k, w' = w.drewN k := by
  subst ha hc
  exact less_key h i j hi hj b hb
theorem swap_int {B g c : Nat} {l : List Ans} {w : World} (h : w.ownsRow B 163 3 (.slice (some ⟨g, 0, none⟩) l.length c) l.length (l.flatMap encF)) (a e : Int) (i j : Nat) (ha : a = (i : Nat)) (he : e = (j : Nat)) (hi : i < l.length) (hj : j < l.length) (hne : i ≠ j) :
    Calls Tryz.prog 195 #[.slice (some ⟨g, 0, none⟩) l.length c, .int .i64 a, .int .i64 e] w fun e w' => e = .returned (.tuple #[]) /\ w'.ownsRow B 163 3 (.slice (some ⟨g, 0, none⟩) l.length c) l.length ((swapA l i j).flatMap encF) /\ Chg1 g w w' := by
  subst ha he
  exact hswap_ne B i j g c l _ _ w h (get_ans l i hi) (get_ans l j hj) hne
theorem swapA_len (l : List Ans) (i j : Nat) : (swapA l i j).length = l.length := by simp [swapA]
set_option maxRecDepth 100000 in
set_option maxHeartbeats 2000000 in
theorem down_any {B : Nat} (d i0 n : Nat) (cur : Array Value) (wv : Value) (l : List Ans) (w : World) (h : WaitIn B w d cur wv l) (hn : n <= l.length) (hl : l.length <= 1000) (hi0 : i0 <= 1000) :
    Calls Tryz.prog 119 #[.iface 160 (.pointer (some ⟨d, 14, none⟩)), .int .i64 (i0 : Nat), .int .i64 (n : Nat)] w fun e w' => ∃ b r, e = .returned (.bool b) /\ DownTo n i0 l r /\ r.length = l.length /\ WaitIn B w' d cur wv r /\ FtT B (wtT d) w w' := by
  have HH := hideF h
  clear h
  go_enter Tryz.func119, Tryz.ntmps119
  go_wp2_with fail
  go_loopw [7] (fun iv wr => ∃ (i : Nat) (l' : List Ans), i <= 1000 /\ iv = .int .i64 (i : Nat) /\ l'.length = l.length /\ (∀ r, DownTo n i l' r -> DownTo n i0 l r) /\ WaitIn B wr d cur wv l' /\ FtT B (wtT d) w wr) (fun iv _ => n - (intOf iv).toNat)
  case atStart => exact ⟨i0, l, hi0, rfl, rfl, fun _ h => h, HH.out, FtT.refl _ _⟩
  case round =>
    obtain ⟨i, l', hi, rfl, hll, hdn, hw, hf⟩ := hrel
    have HDN := hideF hdn
    have HW := hideF hw
    have HF := hideF hf
    have c14 := hw.cell
    obtain ⟨av, cv, rfl, _⟩ := own_view hw.own
    have hnl : n <= l'.length := by omega
    have hle : l'.length <= 1000 := by omega
    have HLL := hideF hll
    clear hdn hw hf hll
    by_cases g1 : n <= 2 * i + 1
    . have g1' : (n : Int) <= 2 * (i : Int) + 1 := by omega
      go_wp2_with fail
      go_ret
      exact ⟨_, l', rfl, HDN.out _ (.leaf g1), HLL.out, HW.out, HF.out⟩
    . have g1' : decide ((n : Int) <= 2 * (i : Int) + 1) = false := by simp; omega
      have g2' : decide (2 * (i : Int) + 1 < 0) = false := by simp; omega
      have m1 := mthLess d _ cv av wr c14
      by_cases g3 : 2 * i + 1 + 1 < n
      . have g3' : 2 * (i : Int) + 1 + 1 < (n : Int) := by omega
        go_wp2_with fail
        cases b1 : decide (keyA l' (2 * i + 1 + 1) < keyA l' (2 * i + 1)) with
        | false =>
          have HL1 := hideF (less_int (w := wr) HW.out.own (2 * (i : Int) + 1 + 1) (2 * (i : Int) + 1) (2 * i + 1 + 1) (2 * i + 1) (by omega) (by omega) (by omega) (by omega) false b1)
          refine HL1.out.mono ?_
          rintro e W2 ⟨rfl, k2, hw2⟩
          have HW2 : Hid (WaitIn B W2 d cur (.slice av l'.length cv) l') := by rw [hw2]; exact HW.out.drewN k2
          have HF2 : Hid (FtT B (wtT d) w W2) := by rw [hw2]; exact HF.out.drewN k2
          have m2 := mthLess d _ cv av W2 HW2.out.cell
          clear hw2 m1 c14
          have hj : pickJ n i l' = 2 * i + 1 := by unfold pickJ; rw [if_neg (fun h => by have := h.2; simp [this] at b1)]
          cases b2 : decide (keyA l' (2 * i + 1) < keyA l' i) with
          | false =>
            have HL2 := hideF (less_int (w := W2) HW2.out.own (2 * (i : Int) + 1) (i : Int) (2 * i + 1) i (by omega) rfl (by omega) (by omega) false b2)
            have HB2 : Hid (¬ keyA l' (pickJ n i l') < keyA l' i) := by rw [hj]; exact of_decide_eq_false b2
            clear b2 hj
            go_wp2_with fail
            refine HL2.out.mono ?_
            rintro e w3 ⟨rfl, k3, rfl⟩
            go_wp2_with fail
            go_ret
            exact ⟨_, l', rfl, HDN.out _ (.stop (by omega) (Int.not_lt.2 HB2.out)), HLL.out, HW2.out.drewN _, HF2.out.drewN _⟩
          | true =>
            have HL2 := hideF (less_int (w := W2) HW2.out.own (2 * (i : Int) + 1) (i : Int) (2 * i + 1) i (by omega) rfl (by omega) (by omega) true b2)
            have HB2 : Hid (keyA l' (pickJ n i l') < keyA l' i) := by show _ < _; rw [hj]; simpa using b2
            have HJ := hideF hj
            clear b2 hj
            go_wp2_with fail
            refine HL2.out.mono ?_
            rintro e w3 ⟨rfl, k3, hw3⟩
            have HW3 : Hid (WaitIn B w3 d cur (.slice av l'.length cv) l') := by rw [hw3]; exact HW2.out.drewN k3
            have HF3 : Hid (FtT B (wtT d) w w3) := by rw [hw3]; exact HF2.out.drewN k3
            have c3 := HW3.out.cell
            obtain ⟨g3x, cx, hav, _, _, _, _⟩ := own_ans HW3.out.own (get_ans l' i (by omega))
            simp only [Value.slice.injEq, true_and] at hav
            obtain ⟨rfl, rfl⟩ := hav
            have m3 := mthSwap d _ cv _ w3 c3
            have HS3 := hideF (swap_int (w := w3) HW3.out.own (i : Int) (2 * (i : Int) + 1) i (2 * i + 1) rfl (by omega) (by omega) (by omega) (by omega))
            clear hw3
            go_wp2_with fail
            refine HS3.out.mono ?_
            rintro e w4 ⟨rfl, ho4, hc4⟩
            obtain ⟨hw4, hf4⟩ := HW3.out.swapped (swapA_len l' i (2 * i + 1)).symm ho4 hc4
            have HW4 := hideF hw4
            have HF4 := hideF (HF3.out.trans hf4)
            clear ho4 hc4 hw4 hf4 c3 m3 HS3
            go_wp2_with fail
            go_roundw
            case rel => exact ⟨2 * i + 1, swapA l' i (2 * i + 1), by omega, by go_num, by rw [swapA_len]; exact HLL.out, fun r hr => HDN.out _ (.step (by omega) HB2.out (by rw [HJ.out]; exact hr)), HW4.out, HF4.out⟩
            case measure => simp [intOf]; omega
        | true =>
          have HL1 := hideF (less_int (w := wr) HW.out.own (2 * (i : Int) + 1 + 1) (2 * (i : Int) + 1) (2 * i + 1 + 1) (2 * i + 1) (by omega) (by omega) (by omega) (by omega) true b1)
          refine HL1.out.mono ?_
          rintro e W2 ⟨rfl, k2, hw2⟩
          have HW2 : Hid (WaitIn B W2 d cur (.slice av l'.length cv) l') := by rw [hw2]; exact HW.out.drewN k2
          have HF2 : Hid (FtT B (wtT d) w W2) := by rw [hw2]; exact HF.out.drewN k2
          have m2 := mthLess d _ cv av W2 HW2.out.cell
          clear hw2 m1 c14
          have hj : pickJ n i l' = 2 * i + 1 + 1 := by unfold pickJ; rw [if_pos ⟨g3, by simpa using b1⟩]
          cases b2 : decide (keyA l' (2 * i + 1 + 1) < keyA l' i) with
          | false =>
            have HL2 := hideF (less_int (w := W2) HW2.out.own (2 * (i : Int) + 1 + 1) (i : Int) (2 * i + 1 + 1) i (by omega) rfl (by omega) (by omega) false b2)
            have HB2 : Hid (¬ keyA l' (pickJ n i l') < keyA l' i) := by rw [hj]; exact of_decide_eq_false b2
            clear b2 hj
            go_wp2_with fail
            refine HL2.out.mono ?_
            rintro e w3 ⟨rfl, k3, rfl⟩
            go_wp2_with fail
            go_ret
            exact ⟨_, l', rfl, HDN.out _ (.stop (by omega) (Int.not_lt.2 HB2.out)), HLL.out, HW2.out.drewN _, HF2.out.drewN _⟩
          | true =>
            have HL2 := hideF (less_int (w := W2) HW2.out.own (2 * (i : Int) + 1 + 1) (i : Int) (2 * i + 1 + 1) i (by omega) rfl (by omega) (by omega) true b2)
            have HB2 : Hid (keyA l' (pickJ n i l') < keyA l' i) := by show _ < _; rw [hj]; simpa using b2
            have HJ := hideF hj
            clear b2 hj
            go_wp2_with fail
            refine HL2.out.mono ?_
            rintro e w3 ⟨rfl, k3, hw3⟩
            have HW3 : Hid (WaitIn B w3 d cur (.slice av l'.length cv) l') := by rw [hw3]; exact HW2.out.drewN k3
            have HF3 : Hid (FtT B (wtT d) w w3) := by rw [hw3]; exact HF2.out.drewN k3
            have c3 := HW3.out.cell
            obtain ⟨g3x, cx, hav, _, _, _, _⟩ := own_ans HW3.out.own (get_ans l' i (by omega))
            simp only [Value.slice.injEq, true_and] at hav
            obtain ⟨rfl, rfl⟩ := hav
            have m3 := mthSwap d _ cv _ w3 c3
            have HS3 := hideF (swap_int (w := w3) HW3.out.own (i : Int) (2 * (i : Int) + 1 + 1) i (2 * i + 1 + 1) rfl (by omega) (by omega) (by omega) (by omega))
            clear hw3
            go_wp2_with fail
            refine HS3.out.mono ?_
            rintro e w4 ⟨rfl, ho4, hc4⟩
            obtain ⟨hw4, hf4⟩ := HW3.out.swapped (swapA_len l' i (2 * i + 1 + 1)).symm ho4 hc4
            have HW4 := hideF hw4
            have HF4 := hideF (HF3.out.trans hf4)
            clear ho4 hc4 hw4 hf4 c3 m3 HS3
            go_wp2_with fail
            go_roundw
            case rel => exact ⟨2 * i + 1 + 1, swapA l' i (2 * i + 1 + 1), by omega, by go_num, by rw [swapA_len]; exact HLL.out, fun r hr => HDN.out _ (.step (by omega) HB2.out (by rw [HJ.out]; exact hr)), HW4.out, HF4.out⟩
            case measure => simp [intOf]; omega
      . have g3' : decide (2 * (i : Int) + 1 + 1 < (n : Int)) = false := by simp; omega
        obtain ⟨W2, hW2⟩ : ∃ W2, W2 = wr := ⟨_, rfl⟩
        have HW2 : Hid (WaitIn B W2 d cur (.slice av l'.length cv) l') := by rw [hW2]; exact HW.out
        have HF2 : Hid (FtT B (wtT d) w W2) := by rw [hW2]; exact HF.out
        have m2 := mthLess d _ cv av W2 HW2.out.cell
        rw [<- hW2]
        clear hW2 m1 c14
        have hj : pickJ n i l' = 2 * i + 1 := by unfold pickJ; rw [if_neg (fun h => g3 h.1)]
        cases b2 : decide (keyA l' (2 * i + 1) < keyA l' i) with
        | false =>
          have HL2 := hideF (less_int (w := W2) HW2.out.own (2 * (i : Int) + 1) (i : Int) (2 * i + 1) i (by omega) rfl (by omega) (by omega) false b2)
          have HB2 : Hid (¬ keyA l' (pickJ n i l') < keyA l' i) := by rw [hj]; exact of_decide_eq_false b2
          clear b2 hj
          go_wp2_with fail
          refine HL2.out.mono ?_
          rintro e w3 ⟨rfl, k3, rfl⟩
          go_wp2_with fail
          go_ret
          exact ⟨_, l', rfl, HDN.out _ (.stop (by omega) (Int.not_lt.2 HB2.out)), HLL.out, HW2.out.drewN _, HF2.out.drewN _⟩
        | true =>
          have HL2 := hideF (less_int (w := W2) HW2.out.own (2 * (i : Int) + 1) (i : Int) (2 * i + 1) i (by omega) rfl (by omega) (by omega) true b2)
          have HB2 : Hid (keyA l' (pickJ n i l') < keyA l' i) := by show _ < _; rw [hj]; simpa using b2
          have HJ := hideF hj
          clear b2 hj
          go_wp2_with fail
          refine HL2.out.mono ?_
          rintro e w3 ⟨rfl, k3, hw3⟩
          have HW3 : Hid (WaitIn B w3 d cur (.slice av l'.length cv) l') := by rw [hw3]; exact HW2.out.drewN k3
          have HF3 : Hid (FtT B (wtT d) w w3) := by rw [hw3]; exact HF2.out.drewN k3
          have c3 := HW3.out.cell
          obtain ⟨g3x, cx, hav, _, _, _, _⟩ := own_ans HW3.out.own (get_ans l' i (by omega))
          simp only [Value.slice.injEq, true_and] at hav
          obtain ⟨rfl, rfl⟩ := hav
          have m3 := mthSwap d _ cv _ w3 c3
          have HS3 := hideF (swap_int (w := w3) HW3.out.own (i : Int) (2 * (i : Int) + 1) i (2 * i + 1) rfl (by omega) (by omega) (by omega) (by omega))
          clear hw3
          go_wp2_with fail
          refine HS3.out.mono ?_
          rintro e w4 ⟨rfl, ho4, hc4⟩
          obtain ⟨hw4, hf4⟩ := HW3.out.swapped (swapA_len l' i (2 * i + 1)).symm ho4 hc4
          have HW4 := hideF hw4
          have HF4 := hideF (HF3.out.trans hf4)
          clear ho4 hc4 hw4 hf4 c3 m3 HS3
          go_wp2_with fail
          go_roundw
          case rel => exact ⟨2 * i + 1, swapA l' i (2 * i + 1), by omega, by go_num, by rw [swapA_len]; exact HLL.out, fun r hr => HDN.out _ (.step (by omega) HB2.out (by rw [HJ.out]; exact hr)), HW4.out, HF4.out⟩
          case measure => simp [intOf]; omega
end Go.Proofs.YtcpldcojckhapaaGreat
