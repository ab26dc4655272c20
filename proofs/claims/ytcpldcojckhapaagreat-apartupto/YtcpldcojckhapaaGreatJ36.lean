/-
  
-/
import Derived.Test.YtcpldcojckhapaaGreatJ35
set_option maxRecDepth 100000
namespace Go.Proofs.YtcpldcojckhapaaGreat
open Go.RowKit
def FramedIs (L i n m u : Nat) (r : ByteArray) (ln : Nat -> Ln) (R : ByteArray) : Prop := ∀ U : World, Grid U L 116 n 3 (fun a j => lnc (ln a) j) -> Calls Tryz.prog 82 #[.pointer (some ⟨L, i * 3, none⟩), .agg #[.int .i64 (m : Nat), .int .i64 (u : Nat), .string r]] U fun e w' => e = .returned (.string R) /\ Below U.heap.size U w'
set_option maxRecDepth 100000 in
set_option maxHeartbeats 2000000 in
theorem take_nowR (d L S i m : Nat) (E : Nat -> Nat) (wv : Value) (D : Dev) (s r R : ByteArray) (f : Nat -> Nat -> Int) (w : World) (h : DevIn w d L S E wv D) (hi : i < D.nl) (ha : D.arr <= 1000000000) (hfr : FramedIs L i D.nl m D.unit r D.ln R) (hdo : DoIs d L S E wv D s r false f) (hu : D.uns = 0) (hwl : D.wait.length < D.batch) (hb1 : 0 < D.batch) :
    Calls Tryz.prog 57 #[.pointer (some ⟨d, 0, none⟩), .int .i64 (i : Nat), .agg #[.int .i64 (m : Nat), .int .i64 (D.unit : Nat), .string s]] w fun e w' => ∃ v, e = .returned v /\ w'.ownsRow w.heap.size 77 4 v 1 ([(2, 0, ((i : Nat) : Int), R)].flatMap encA) /\ DevIn w' d L S E wv { D with arr := D.arr + 1, ent := f } /\ FtT D.base (devT d L S E) w w' := by
  obtain ⟨aw, cw, rfl, _⟩ := own_view h.wait
  obtain ⟨c0, c1, c2, c11, c12, c13, c14, cf, hdl⟩ := h.cells
  obtain ⟨W, hW⟩ : ∃ W, W = w.alloc (.cells #[.int .i64 (m : Nat), .int .i64 (D.unit : Nat), .string s] 94) := ⟨_, rfl⟩
  have hWb : Below w.heap.size w W := by rw [hW]; exact bel_alloc (Below.refl _ _) _
  have hWg : W.heap[w.heap.size]? = some (.cells #[.int .i64 (m : Nat), .int .i64 (D.unit : Nat), .string s] 94 (0, 0)) := by rw [hW]; exact heap_alloc_new w _
  have hWl : W.heap.size = w.heap.size + 1 := by rw [hW]; simp
  have HH := hideF h
  have HWb := hideF hWb
  have HWg := hideF hWg
  have HDO := hideF hdo
  have HFI := hideF hfr
  clear h hWb hWg hdo hfr
  go_enter Tryz.func57, Tryz.ntmps57
  go_wp2_with fail
  rw [<- hW]
  clear hW
  refine (newRequest_any s W).mono ?_
  rintro e w1 ⟨x, v, k, rfl, hown, hsh, hlen, hb⟩
  unfold reqV
  obtain ⟨av, cv, rfl, _⟩ := own_view hown
  obtain ⟨X, hX⟩ : ∃ X, X = w1.alloc (.cells #[.string s, .int .i64 (x.fn : Nat), .int .i64 (x.tab : Nat), .int .i64 (x.frm : Nat), .int .i64 (x.cnt : Nat), .int .i64 (x.into : Nat), .int .i64 (x.to : Nat), .int .i64 (x.many : Nat), .slice av x.vals.length cv, .int .u8 (k : Nat)] 146) := ⟨_, rfl⟩
  have hX1 : Below w1.heap.size w1 X := by rw [hX]; exact bel_alloc (Below.refl _ _) _
  have hXb : Below w.heap.size w X := bel_then (bel_then HWb.out hb) hX1
  have hXg : X.heap[w.heap.size]? = some (.cells #[.int .i64 (m : Nat), .int .i64 (D.unit : Nat), .string s] 94 (0, 0)) := (hX1.block _ (by have := hb.size; omega)).trans ((hb.block _ (by omega)).trans HWg.out)
  have hXr : X.heap[w1.heap.size]? = some (.cells #[.string s, .int .i64 (x.fn : Nat), .int .i64 (x.tab : Nat), .int .i64 (x.frm : Nat), .int .i64 (x.cnt : Nat), .int .i64 (x.into : Nat), .int .i64 (x.to : Nat), .int .i64 (x.many : Nat), .slice av x.vals.length cv, .int .u8 (k : Nat)] 146 (0, 0)) := by rw [hX]; exact heap_alloc_new w1 _
  have HXO := hideF (ownsRow_below hown hX1)
  have HXb := hideF hXb
  have HXg := hideF hXg
  have HXr := hideF hXr
  have hsz1 : w.heap.size < w1.heap.size := by have := hb.size; omega
  have HSH := hideF hsh
  have HD := hideF (HH.out.belowQ hXb)
  clear c0 c1 c2 c11 c12 c13 c14 cf hown hsh hb hX1
  obtain ⟨c0, c1, c2, c11, c12, c13, c14, cf, hdX⟩ := HD.out.cells
  obtain ⟨g0, g1, g2, gf⟩ := cells3f hXg
  clear hXb hXg hXr
  go_wp2_with fail
  rw [<- hX]
  clear hX
  go_quiet (fail)
  obtain ⟨Y, hY⟩ : ∃ Y, Y = X.drewN nq := ⟨_, rfl⟩
  have hYb : Below X.heap.size X Y := by rw [hY]; exact below_drewN (Below.refl _ _) _
  rw [<- hY]
  clear hY
  have HYb := hideF (bel_then HXb.out hYb)
  have hYg := (hYb.block _ (lt_of_block HXg.out)).trans HXg.out
  have hYr := (hYb.block _ (lt_of_block HXr.out)).trans HXr.out
  have HYO := hideF (ownsRow_below HXO.out hYb)
  have HYD := hideF (HD.out.belowQ hYb)
  have HYg := hideF hYg
  have HYr := hideF hYr
  clear c0 c1 c2 c11 c12 c13 c14 cf g0 g1 g2 gf hdX HXb HXg HXr HXO HD
  obtain ⟨c0, c1, c2, c11, c12, c13, c14, cf, hdY⟩ := HYD.out.cells
  clear hYb hYg hYr
  go_wp2_with fail
  obtain ⟨Z, hZ⟩ : ∃ Z, Z = (Y.setCell ⟨d, 12, none⟩ (.int .i64 ((D.arr : Int) + 1))).drew := ⟨_, rfl⟩
  have hdg : d ≠ w.heap.size := by omega
  have hdr : d ≠ w1.heap.size := by omega
  have HZD : Hid (DevIn Z d L S E (.slice aw D.wait.length cw) { D with arr := D.arr + 1 }) := by
    rw [hZ]
    have := (HYD.out.setArr (D.arr + 1)).drewN 1
    rw [show ((D.arr + 1 : Nat) : Int) = (D.arr : Int) + 1 by omega] at this
    exact this
  have hZr : Z.heap[w1.heap.size]? = Y.heap[w1.heap.size]? := by rw [hZ]; exact heap_setCell_other Y ⟨d, 12, none⟩ w1.heap.size _ (by simpa using fun e => hdr e.symm)
  have hZg : Z.heap[w.heap.size]? = Y.heap[w.heap.size]? := by rw [hZ]; exact heap_setCell_other Y ⟨d, 12, none⟩ w.heap.size _ (by simpa using fun e => hdg e.symm)
  have HZr := hideF (hZr.trans HYr.out)
  have HZg := hideF (hZg.trans HYg.out)
  have HZO : Hid (Z.ownsRow W.heap.size 3 1 (.slice av x.vals.length cv) x.vals.length (x.vals.flatMap encI)) := by
    rw [hZ]
    exact own_drew (own_same HYO.out (fun g hg => heap_setCell_other Y ⟨d, 12, none⟩ g _ (by have := (HYO.out.lt g hg).1; simp; omega)))
  have HZF : Hid (FtT D.base (devT d L S E) w Z) := by
    rw [hZ]
    exact ((FtT.of_below (devT d L S E) HYb.out).setCell HYD.out.dev (devT_d _ _ _ _) HYD.out.lo.1 _ _).drewN 1
  have HDO2 : Hid (Calls Tryz.prog 80 #[.agg #[.string s, .int .i64 (x.fn : Nat), .int .i64 (x.tab : Nat), .int .i64 (x.frm : Nat), .int .i64 (x.cnt : Nat), .int .i64 (x.into : Nat), .int .i64 (x.to : Nat), .int .i64 (x.many : Nat), .slice av x.vals.length cv, .int .u8 (k : Nat)], .pointer (some ⟨d, 3, none⟩)] ((Y.setCell ⟨d, 12, none⟩ (.int .i64 ((D.arr : Int) + 1))).drew) fun e w' => ∃ v, e = .returned v /\ (v = .tuple #[.string r, .bool false] /\ DevIn w' d L S E (.slice aw D.wait.length cw) { D with arr := D.arr + 1, ent := f } /\ ∃ j, j < 4 /\ Chg1 (E j) Z w')) := by
    rw [<- hZ]
    exact (HDO.out x _ k _ Z HSH.out HZD.out HZO.out).mono fun e w' h => ⟨_, h.1, rfl, h.2.1, h.2.2⟩
  obtain ⟨r0, r1, r2, r3, r4, r5, r6, r7, r8, r9⟩ := cells10 HYr.out
  have hsY := HYb.out.size
  have HZs : Hid (Y.heap.size = Z.heap.size) := by rw [hZ]; show _ = _; simp
  clear hZ hZr hZg
  go_region_law (first
    | (refine step_call rfl 80 #[.tmp 45, .tmp 48] #[146, 151] rfl #[.agg #[.string s, .int .i64 (x.fn : Nat), .int .i64 (x.tab : Nat), .int .i64 (x.frm : Nat), .int .i64 (x.cnt : Nat), .int .i64 (x.into : Nat), .int .i64 (x.to : Nat), .int .i64 (x.many : Nat), .slice av x.vals.length cv, .int .u8 (k : Nat)], .pointer (some ⟨d, 3, none⟩)] (by simp [Act.eval]) (enter81 _ _ _) _ HDO2.out ?_; rintro vv w4 ⟨rfl, hd4, j4, hj4, hc4⟩))
  all_goals
    obtain ⟨ce, hce⟩ := (HZD.out.ent j4 hj4).block
    have hEj := (HH.out.ent j4 hj4).lt
    have HF4 := hideF (HZF.out.trans (FtT.chg hc4 hce (devT_E _ _ _ _ _ hj4) (HZD.out.lo.2.2.2 j4 hj4)))
    have hg4 := (hc4.block w.heap.size (lt_of_block HZg.out) (by omega)).trans HZg.out
    have HD4 := hideF hd4
    have hs4 : w.heap.size < w4.heap.size := lt_of_block hg4
    have HG4 := hideF hg4
    clear c0 c1 c2 c11 c12 c13 c14 cf r0 r1 r2 r3 r4 r5 r6 r7 r8 r9 hce hc4 hd4 HYb HYD HYg HYr HYO HZD HZr HZg HZO HZF HDO2 HZs
    obtain ⟨c0, c1, c2, c11, c12, c13, c14, cf, hd4⟩ := HD4.out.cells
    obtain ⟨g0, g1, g2, gf⟩ := cells3f hg4
    clear hg4
    go_wp2_with fail
    go_quiet (fail)
    obtain ⟨V, hV⟩ : ∃ V, V = w4.drewN nq := ⟨_, rfl⟩
    have hVb : Below w4.heap.size w4 V := by rw [hV]; exact below_drewN (Below.refl _ _) _
    rw [<- hV]
    clear hV
    have HDV := hideF (HD4.out.belowQ hVb)
    have hgV := (hVb.block _ hs4).trans HG4.out
    have HFV := hideF (HF4.out.then_below hVb)
    have HGV := hideF hgV
    have hsV := lt_of_block hgV
    clear c0 c1 c2 c11 c12 c13 c14 cf g0 g1 g2 gf hVb HD4 HG4 HF4 hd4
    obtain ⟨c0, c1, c2, c11, c12, c13, c14, cf, hdV⟩ := HDV.out.cells
    obtain ⟨g0, g1, g2, gf⟩ := cells3f hgV
    clear hgV
    go_wp2_with fail
    obtain ⟨U, hU⟩ : ∃ U, U = V.setCell ⟨w.heap.size, 2, none⟩ (.string r) := ⟨_, rfl⟩
    have HDU : Hid (DevIn U d L S E (.slice aw D.wait.length cw) { D with arr := D.arr + 1, ent := f }) := by rw [hU]; exact HDV.out.keep ((FtT.refl (B := 0) (fun _ t => t == 94) V).setCell HGV.out rfl (Nat.zero_le _) _ _) (fun _ => rfl) (fun _ => rfl) (fun _ => rfl) (fun _ => rfl) (fun _ => rfl)
    have HFU : Hid (FtT D.base (devT d L S E) w U) := by rw [hU]; exact HFV.out.setNew _ _ (Nat.le_refl _) _
    have hgU : U.heap[w.heap.size]? = some (.cells #[.int .i64 (m : Nat), .int .i64 (D.unit : Nat), .string r] 94 (0, 0)) := by rw [hU]; exact heap_setCell_same V _ 2 _ 94 (.string r) HGV.out
    rw [<- hU]
    clear hU c0 c1 c2 c11 c12 c13 c14 cf g0 g1 g2 gf HDV HGV HFV hsV hdV
    obtain ⟨c0, c1, c2, c11, c12, c13, c14, cf, hdU⟩ := HDU.out.cells
    obtain ⟨g0, g1, g2, gf⟩ := cells3f hgU
    have hsU := lt_of_block hgU
    clear hgU
    have hiI : (i : Int) < (D.nl : Int) := by omega
    have HFR : Hid (Calls Tryz.prog 82 #[.pointer (some ⟨L, i * 3, none⟩), .agg #[.int .i64 (m : Nat), .int .i64 (D.unit : Nat), .string r]] U.drew fun e w' => ∃ v, e = .returned v /\ (v = .string R /\ Below U.drew.heap.size U.drew w')) := (HFI.out U.drew (HDU.out.drewN 1).lines).mono fun e w' h => ⟨_, h.1, rfl, h.2⟩
    go_region_law (first
      | (refine step_call rfl 82 #[.tmp 76, .tmp 77] #[116, 94] rfl #[.pointer (some ⟨L, i * 3, none⟩), .agg #[.int .i64 (m : Nat), .int .i64 (D.unit : Nat), .string r]] (by simp [Act.eval, Act.put]) (enter83 _ _ _) _ HFR.out ?_; rintro vv w5 ⟨rfl, hb5⟩; have hd5 := (HDU.out.drewN 1).belowQ hb5)
      | (refine step_call rfl 81 #[.tmp 69, .tmp 70, .tmp 78] #[49, 3, 9] rfl #[.pointer (some ⟨d, 0, none⟩), .int .i64 (i : Nat), .string R] (by simp [Act.eval]) (enter82 _ _ _ _) _ (dansw_now d L S i E _ _ R _ hd5 hu) ?_; rintro vv w6 ⟨hown6, hb6⟩))
    all_goals
      have hb6' := bel_then (below_then_drew1 hb5) hb6
      have hs5 := (below_then_drew1 hb5).size
      have HD6 := hideF (HDU.out.belowQ hb6')
      have HF6 := hideF (HFU.out.then_below hb6')
      obtain ⟨a6, k6, rfl, _⟩ := own_view hown6
      have HO6 := hideF (own_base (B := w.heap.size) hown6 (by omega))
      clear c0 c1 c2 c11 c12 c13 c14 cf g0 g1 g2 gf hown6 hb5 hb6 hd5 hb6' HFR
      obtain ⟨c0, c1, c2, c11, c12, c13, c14, cf, hd6⟩ := HD6.out.cells
      have q1 : decide ((D.batch : Int) <= (D.wait.length : Int)) = false := by simp; omega
      have q2 : decide ((D.batch : Int) <= (D.uns : Int)) = false := by simp; omega
      go_wp2_with fail
      go_quiet (fail)
      go_wp2
      go_ret
      exact ⟨_, rfl, own_same HO6.out (fun _ _ => rfl), HD6.out.drewN _, HF6.out.drewN _⟩
end Go.Proofs.YtcpldcojckhapaaGreat

set_option maxRecDepth 100000
namespace Go.Proofs.YtcpldcojckhapaaGreat
open Go.RowKit
def serialB (u : Nat) (b : ByteArray) : ByteArray := (⟨#[UInt8.ofNat u]⟩ ++ b) ++ ⟨#[UInt8.ofNat (Pl.crc ((⟨#[UInt8.ofNat u]⟩ ++ b : ByteArray).data.toList) % 256), UInt8.ofNat (Pl.crc ((⟨#[UInt8.ofNat u]⟩ ++ b : ByteArray).data.toList) / 256)]⟩
set_option maxHeartbeats 1000000 in
theorem framed_serial (L i n m u : Nat) (b : ByteArray) (ln : Nat -> Ln) (w : World) (hG : Grid w L 116 n 3 (fun a j => lnc (ln a) j)) (hi : i < n) (hk : (ln i).kind = 1) (hu : u < 256) (hb : b.size <= 253) :
    Calls Tryz.prog 82 #[.pointer (some ⟨L, i * 3, none⟩), .agg #[.int .i64 (m : Nat), .int .i64 (u : Nat), .string b]] w fun e w' => e = .returned (.string (serialB u b)) /\ Below w.heap.size w w' := by
  have c0 : w.cell? ⟨L, i * 3, none⟩ = some (.int .i64 1) := by have := hG.cell hi (j := 0) (by omega); rw [Nat.add_zero] at this; rw [this]; simp [lnc, hk]
  have hLl := hG.lt
  have c1 : ∀ (W : World) (g : Nat), W.cell? ⟨g, 0, none⟩ = some (.int .u8 (u : Int)) -> (convert 114 9 (.slice (some ⟨g, 0, none⟩) 1 1)).run Tryz.prog W = .ok (.string ⟨#[UInt8.ofNat u]⟩) W := fun W g hc => conv1_at W g u hc
  have wu : IntKind.u8.wrap (u : Int) = (u : Int) := by rw [IntKind.wrap_u8]; omega
  have hlim : ¬ 9223372036854775807 < 1 + b.size := by omega
  have z1 : ((⟨#[UInt8.ofNat u]⟩ : ByteArray) ++ b).size = 1 + b.size := by rw [ByteArray.size_append]; rfl
  obtain ⟨I, hI⟩ : ∃ I, I = (⟨#[UInt8.ofNat u]⟩ : ByteArray) ++ b := ⟨_, rfl⟩
  obtain ⟨c, hc⟩ : ∃ c, c = Pl.crc I.data.toList := ⟨_, rfl⟩
  have hcl : c < 65536 := by rw [hc]; exact Pl.crc_lt _
  obtain ⟨X, hX⟩ : ∃ X, X = (w.alloc (.cells #[.int .i64 (m : Nat), .int .i64 (u : Nat), .string b] 94)).alloc (.cells #[.int .u8 (u : Nat)] 5) := ⟨_, rfl⟩
  have HXb : Hid (Below w.heap.size w X) := by rw [hX]; exact bel_alloc (bel_alloc (Below.refl w.heap.size w) _) _
  have hrs : serialB u b = I ++ ⟨#[UInt8.ofNat (c % 256), UInt8.ofNat (c / 256)]⟩ := by unfold serialB; rw [<- hI, <- hc]
  have HRS := hideF hrs
  have HC := hideF hc
  rw [<- hI] at z1
  have c2 := conv2
  have hw1 : IntKind.u8.wrap (c : Int) = ((c % 256 : Nat) : Int) := by rw [IntKind.wrap_u8]; omega
  clear hG hk hrs hc
  go_enter Tryz.func82, Tryz.ntmps82
  go_wp2_with fail
  rw [<- hX, <- hI]
  clear hX hI
  refine (check_any I X (by unfold maxLen; omega)).mono ?_
  rintro e w1 ⟨rfl, rfl⟩
  rw [<- HC.out]
  go_wp2
  go_ret
  exact ⟨by rw [HRS.out]; rfl, bel_alloc HXb.out _⟩
theorem framed_ser (L i n m u : Nat) (b : ByteArray) (ln : Nat -> Ln) (hi : i < n) (hk : (ln i).kind = 1) (hu : u < 256) (hb : b.size <= 253) : FramedIs L i n m u b ln (serialB u b) := fun U hG => framed_serial L i n m u b ln U hG hi hk hu hb
set_option maxHeartbeats 1000000 in
theorem asksAll_yes (L o : Nat) (w : World) (h : w.cell? ⟨L, o, none⟩ = some (.int .i64 1)) : Calls Tryz.prog 78 #[.pointer (some ⟨L, o, none⟩), .int .i64 0] w fun e w' => e = .returned (.bool true) /\ w' = w := by
  go_enter Tryz.func78, Tryz.ntmps78
  go_wp2
  go_ret
  exact ⟨rfl, rfl⟩
set_option maxHeartbeats 1000000 in
theorem asksAll_not (L o : Nat) (u : Int) (w : World) (h : w.cell? ⟨L, o, none⟩ = some (.int .i64 1)) (hu : u ≠ 0) : Calls Tryz.prog 78 #[.pointer (some ⟨L, o, none⟩), .int .i64 u] w fun e w' => e = .returned (.bool false) /\ w' = w := by
  have hu' : (u == 0) = false := by rw [beq_eq_false_iff_ne]; exact hu
  go_enter Tryz.func78, Tryz.ntmps78
  go_wp2
  go_ret
  exact ⟨rfl, rfl⟩
def onlyW (x : Pl.Shp) : Bool := decide (0 < x.many) && decide (x.fn ≠ 23)
set_option maxHeartbeats 1000000 in
theorem onlyWrites_any (s : ByteArray) (x : Pl.Shp) (v : Value) (k : Nat) (w : World) : Calls Tryz.prog 79 #[reqV s x v k] w fun e w' => e = .returned (.bool (onlyW x)) /\ Below w.heap.size w w' := by
  unfold reqV onlyW
  by_cases h1 : 0 < x.many
  . have h1' : decide ((0 : Int) < (x.many : Int)) = true := by simp; omega
    by_cases h2 : x.fn = 23
    . have h2' : ((x.fn : Int) == 23) = true := by rw [h2]; rfl
      go_enter Tryz.func79, Tryz.ntmps79
      go_wp2
      go_ret
      exact ⟨by simp [h1, h2], bel_alloc (Below.refl _ _) _⟩
    . have h2' : ((x.fn : Int) == 23) = false := by rw [beq_eq_false_iff_ne]; omega
      have h3 : ¬ (x.fn : Int) = 23 := by omega
      go_enter Tryz.func79, Tryz.ntmps79
      go_wp2
      go_ret
      exact ⟨by simp [h1, h2, h3], bel_alloc (Below.refl _ _) _⟩
  . have h1' : decide ((0 : Int) < (x.many : Int)) = false := by simp; omega
    go_enter Tryz.func79, Tryz.ntmps79
    go_wp2
    go_ret
    exact ⟨by simp [h1], bel_alloc (Below.refl _ _) _⟩
end Go.Proofs.YtcpldcojckhapaaGreat

set_option maxRecDepth 100000
namespace Go.Proofs.YtcpldcojckhapaaGreat
open Go.RowKit
set_option maxRecDepth 100000 in
set_option maxHeartbeats 2000000 in
theorem take_all (d L S i m : Nat) (E : Nat -> Nat) (wv : Value) (D : Dev) (s r : ByteArray) (f : Nat -> Nat -> Int) (w : World) (h : DevIn w d L S E wv D) (hi : i < D.nl) (hk : (D.ln i).kind = 1) (ha : D.arr <= 1000000000) (hdo : DoIs d L S E wv D s r false f) (hu0 : D.unit ≠ 0) (how : ∀ x k, Pl.ShpIs s x k -> onlyW x = true) (hu : D.uns = 0) (hwl : D.wait.length < D.batch) (hb1 : 0 < D.batch) :
    Calls Tryz.prog 57 #[.pointer (some ⟨d, 0, none⟩), .int .i64 (i : Nat), .agg #[.int .i64 (m : Nat), .int .i64 0, .string s]] w fun e w' => e = .returned (.slice none 0 0) /\ DevIn w' d L S E wv { D with arr := D.arr + 1, ent := f } /\ FtT D.base (devT d L S E) w w' := by
  obtain ⟨aw, cw, rfl, _⟩ := own_view h.wait
  obtain ⟨c0, c1, c2, c11, c12, c13, c14, cf, hdl⟩ := h.cells
  obtain ⟨W, hW⟩ : ∃ W, W = w.alloc (.cells #[.int .i64 (m : Nat), .int .i64 0, .string s] 94) := ⟨_, rfl⟩
  have hWb : Below w.heap.size w W := by rw [hW]; exact bel_alloc (Below.refl _ _) _
  have hWg : W.heap[w.heap.size]? = some (.cells #[.int .i64 (m : Nat), .int .i64 0, .string s] 94 (0, 0)) := by rw [hW]; exact heap_alloc_new w _
  have hWl : W.heap.size = w.heap.size + 1 := by rw [hW]; simp
  have HH := hideF h
  have HWb := hideF hWb
  have HWg := hideF hWg
  have HDO := hideF hdo
  have HK := hideF hk
  have HOW := hideF how
  clear h hWb hWg hdo hk how
  go_enter Tryz.func57, Tryz.ntmps57
  go_wp2_with fail
  rw [<- hW]
  clear hW
  refine (newRequest_any s W).mono ?_
  rintro e w1 ⟨x, v, k, rfl, hown, hsh, hlen, hb⟩
  unfold reqV
  obtain ⟨av, cv, rfl, _⟩ := own_view hown
  obtain ⟨X, hX⟩ : ∃ X, X = w1.alloc (.cells #[.string s, .int .i64 (x.fn : Nat), .int .i64 (x.tab : Nat), .int .i64 (x.frm : Nat), .int .i64 (x.cnt : Nat), .int .i64 (x.into : Nat), .int .i64 (x.to : Nat), .int .i64 (x.many : Nat), .slice av x.vals.length cv, .int .u8 (k : Nat)] 146) := ⟨_, rfl⟩
  have hX1 : Below w1.heap.size w1 X := by rw [hX]; exact bel_alloc (Below.refl _ _) _
  have hXb : Below w.heap.size w X := bel_then (bel_then HWb.out hb) hX1
  have hXg : X.heap[w.heap.size]? = some (.cells #[.int .i64 (m : Nat), .int .i64 0, .string s] 94 (0, 0)) := (hX1.block _ (by have := hb.size; omega)).trans ((hb.block _ (by omega)).trans HWg.out)
  have hXr : X.heap[w1.heap.size]? = some (.cells #[.string s, .int .i64 (x.fn : Nat), .int .i64 (x.tab : Nat), .int .i64 (x.frm : Nat), .int .i64 (x.cnt : Nat), .int .i64 (x.into : Nat), .int .i64 (x.to : Nat), .int .i64 (x.many : Nat), .slice av x.vals.length cv, .int .u8 (k : Nat)] 146 (0, 0)) := by rw [hX]; exact heap_alloc_new w1 _
  have HXO := hideF (ownsRow_below hown hX1)
  have HXb := hideF hXb
  have HXg := hideF hXg
  have HXr := hideF hXr
  have hsz1 : w.heap.size < w1.heap.size := by have := hb.size; omega
  have HSH := hideF hsh
  have HD := hideF (HH.out.belowQ hXb)
  clear c0 c1 c2 c11 c12 c13 c14 cf hown hsh hb hX1
  obtain ⟨c0, c1, c2, c11, c12, c13, c14, cf, hdX⟩ := HD.out.cells
  obtain ⟨g0, g1, g2, gf⟩ := cells3f hXg
  have hlc : X.cell? ⟨L, i * 3, none⟩ = some (.int .i64 1) := by
    have := HD.out.lines.cell hi (j := 0) (by omega)
    rw [Nat.add_zero] at this
    rw [this]; simp [lnc, HK.out]
  obtain ⟨r0, r1, r2, r3, r4, r5, r6, r7, r8, r9⟩ := cells10 hXr
  have hiI : (i : Int) < (D.nl : Int) := by omega
  have hOW := HOW.out x k HSH.out
  have hune : ((0 : Int) != (D.unit : Int)) = true := by simp; omega
  clear hXb hXg hXr
  go_wp2_with fail
  rw [<- hX]
  clear hX
  have lw : w.heap.size < X.heap.size := lt_of_block HXg.out
  have ld : d < X.heap.size := lt_of_block HD.out.dev
  have lL : L < X.heap.size := HD.out.lines.lt
  have l1 : w1.heap.size < X.heap.size := lt_of_block HXr.out
  go_region_held3 (fun w' => w'.cell? ⟨w.heap.size, 1, none⟩ = some (.int .i64 0) /\ w'.cell? ⟨d, 0, none⟩ = some (.int .i64 (D.unit : Nat)) /\ w'.cell? ⟨d, 2, none⟩ = some (.slice (some ⟨L, 0, none⟩) D.nl D.nl) /\ w'.cell? ⟨L, i * 3, none⟩ = some (.int .i64 1) /\ w'.cell? ⟨w1.heap.size, 0, none⟩ = some (.string s) /\ w'.cell? ⟨w1.heap.size, 1, none⟩ = some (.int .i64 (x.fn : Nat)) /\ w'.cell? ⟨w1.heap.size, 2, none⟩ = some (.int .i64 (x.tab : Nat)) /\ w'.cell? ⟨w1.heap.size, 3, none⟩ = some (.int .i64 (x.frm : Nat)) /\ w'.cell? ⟨w1.heap.size, 4, none⟩ = some (.int .i64 (x.cnt : Nat)) /\ w'.cell? ⟨w1.heap.size, 5, none⟩ = some (.int .i64 (x.into : Nat)) /\ w'.cell? ⟨w1.heap.size, 6, none⟩ = some (.int .i64 (x.to : Nat)) /\ w'.cell? ⟨w1.heap.size, 7, none⟩ = some (.int .i64 (x.many : Nat)) /\ w'.cell? ⟨w1.heap.size, 8, none⟩ = some (.slice av x.vals.length cv) /\ w'.cell? ⟨w1.heap.size, 9, none⟩ = some (.int .u8 (k : Nat))) (go_keep)
    (first
      | (go_at_call 78; refine (asksAll_yes L (i * 3) _ (by simpa using hlc)).mono ?_; rintro e w2 ⟨rfl, rfl⟩)
      | (go_at_call 79; refine (onlyWrites_any s x (.slice av x.vals.length cv) k _).mono ?_; rintro e w3 ⟨rfl, hb3⟩; have q0 := ((bcell hb3).1 _ _ lw).trans g1; have q1 := ((bcell hb3).1 _ _ ld).trans c0; have q2 := ((bcell hb3).1 _ _ ld).trans c2; have q3 := ((bcell hb3).1 _ _ lL).trans hlc; have p0 := ((bcell hb3).1 _ _ l1).trans r0; have p1 := ((bcell hb3).1 _ _ l1).trans r1; have p2 := ((bcell hb3).1 _ _ l1).trans r2; have p3 := ((bcell hb3).1 _ _ l1).trans r3; have p4 := ((bcell hb3).1 _ _ l1).trans r4; have p5 := ((bcell hb3).1 _ _ l1).trans r5; have p6 := ((bcell hb3).1 _ _ l1).trans r6; have p7 := ((bcell hb3).1 _ _ l1).trans r7; have p8 := ((bcell hb3).1 _ _ l1).trans r8; have p9 := ((bcell hb3).1 _ _ l1).trans r9))
  obtain ⟨Y, rfl⟩ : ∃ Y, Y = w3 := ⟨_, rfl⟩
  have hYb : Below X.heap.size X Y := below_then_drew1 hb3
  have HYb := hideF (bel_then HXb.out hYb)
  have hYg := (hYb.block _ (lt_of_block HXg.out)).trans HXg.out
  have hYr := (hYb.block _ (lt_of_block HXr.out)).trans HXr.out
  have HYO := hideF (ownsRow_below HXO.out hYb)
  have HYD := hideF (HD.out.belowQ hYb)
  have HYg := hideF hYg
  have HYr := hideF hYr
  clear c0 c1 c2 c11 c12 c13 c14 cf g0 g1 g2 gf hdX HXb HXg HXr HXO HD r0 r1 r2 r3 r4 r5 r6 r7 r8 r9 q0 q1 q2 q3 p0 p1 p2 p3 p4 p5 p6 p7 p8 p9 hlc hune hOW lw ld lL l1
  obtain ⟨c0, c1, c2, c11, c12, c13, c14, cf, hdY⟩ := HYD.out.cells
  clear hYb hYg hYr
  go_wp2_with fail
  obtain ⟨Z, hZ⟩ : ∃ Z, Z = (Y.setCell ⟨d, 12, none⟩ (.int .i64 ((D.arr : Int) + 1))).drew := ⟨_, rfl⟩
  have hdg : d ≠ w.heap.size := by omega
  have hdr : d ≠ w1.heap.size := by omega
  have HZD : Hid (DevIn Z d L S E (.slice aw D.wait.length cw) { D with arr := D.arr + 1 }) := by
    rw [hZ]
    have := (HYD.out.setArr (D.arr + 1)).drewN 1
    rw [show ((D.arr + 1 : Nat) : Int) = (D.arr : Int) + 1 by omega] at this
    exact this
  have hZr : Z.heap[w1.heap.size]? = Y.heap[w1.heap.size]? := by rw [hZ]; exact heap_setCell_other Y ⟨d, 12, none⟩ w1.heap.size _ (by simpa using fun e => hdr e.symm)
  have hZg : Z.heap[w.heap.size]? = Y.heap[w.heap.size]? := by rw [hZ]; exact heap_setCell_other Y ⟨d, 12, none⟩ w.heap.size _ (by simpa using fun e => hdg e.symm)
  have HZr := hideF (hZr.trans HYr.out)
  have HZg := hideF (hZg.trans HYg.out)
  have HZO : Hid (Z.ownsRow W.heap.size 3 1 (.slice av x.vals.length cv) x.vals.length (x.vals.flatMap encI)) := by
    rw [hZ]
    exact own_drew (own_same HYO.out (fun g hg => heap_setCell_other Y ⟨d, 12, none⟩ g _ (by have := (HYO.out.lt g hg).1; simp; omega)))
  have HZF : Hid (FtT D.base (devT d L S E) w Z) := by
    rw [hZ]
    exact ((FtT.of_below (devT d L S E) HYb.out).setCell HYD.out.dev (devT_d _ _ _ _) HYD.out.lo.1 _ _).drewN 1
  have HDO2 : Hid (Calls Tryz.prog 80 #[.agg #[.string s, .int .i64 (x.fn : Nat), .int .i64 (x.tab : Nat), .int .i64 (x.frm : Nat), .int .i64 (x.cnt : Nat), .int .i64 (x.into : Nat), .int .i64 (x.to : Nat), .int .i64 (x.many : Nat), .slice av x.vals.length cv, .int .u8 (k : Nat)], .pointer (some ⟨d, 3, none⟩)] ((Y.setCell ⟨d, 12, none⟩ (.int .i64 ((D.arr : Int) + 1))).drew) fun e w' => ∃ v, e = .returned v /\ (v = .tuple #[.string r, .bool false] /\ DevIn w' d L S E (.slice aw D.wait.length cw) { D with arr := D.arr + 1, ent := f } /\ ∃ j, j < 4 /\ Chg1 (E j) Z w')) := by
    rw [<- hZ]
    exact (HDO.out x _ k _ Z HSH.out HZD.out HZO.out).mono fun e w' h => ⟨_, h.1, rfl, h.2.1, h.2.2⟩
  obtain ⟨r0, r1, r2, r3, r4, r5, r6, r7, r8, r9⟩ := cells10 HYr.out
  have hsY := HYb.out.size
  have HZs : Hid (Y.heap.size = Z.heap.size) := by rw [hZ]; show _ = _; simp
  clear hZ hZr hZg
  go_region_law (first
    | (refine step_call rfl 80 #[.tmp 45, .tmp 48] #[146, 151] rfl #[.agg #[.string s, .int .i64 (x.fn : Nat), .int .i64 (x.tab : Nat), .int .i64 (x.frm : Nat), .int .i64 (x.cnt : Nat), .int .i64 (x.into : Nat), .int .i64 (x.to : Nat), .int .i64 (x.many : Nat), .slice av x.vals.length cv, .int .u8 (k : Nat)], .pointer (some ⟨d, 3, none⟩)] (by simp [Act.eval]) (enter81 _ _ _) _ HDO2.out ?_; rintro vv w4 ⟨rfl, hd4, j4, hj4, hc4⟩))
  all_goals
    obtain ⟨ce, hce⟩ := (HZD.out.ent j4 hj4).block
    have hEj := (HH.out.ent j4 hj4).lt
    have HF4 := hideF (HZF.out.trans (FtT.chg hc4 hce (devT_E _ _ _ _ _ hj4) (HZD.out.lo.2.2.2 j4 hj4)))
    have hg4 := (hc4.block w.heap.size (lt_of_block HZg.out) (by omega)).trans HZg.out
    have HD4 := hideF hd4
    have hs4 : w.heap.size < w4.heap.size := lt_of_block hg4
    have HG4 := hideF hg4
    clear c0 c1 c2 c11 c12 c13 c14 cf r0 r1 r2 r3 r4 r5 r6 r7 r8 r9 hce hc4 hd4 HYb HYD HYg HYr HYO HZD HZr HZg HZO HZF HDO2 HZs
    obtain ⟨c0, c1, c2, c11, c12, c13, c14, cf, hd4⟩ := HD4.out.cells
    obtain ⟨g0, g1, g2, gf⟩ := cells3f hg4
    clear hg4
    have hue : ((0 : Int) == (D.unit : Int)) = false := by rw [beq_eq_false_iff_ne]; omega
    have q1 : decide ((D.batch : Int) <= (D.wait.length : Int)) = false := by simp; omega
    have q2 : decide ((D.batch : Int) <= (D.uns : Int)) = false := by simp; omega
    go_wp2_with fail
    go_quiet (fail)
    go_wp2_with fail
    go_quiet (fail)
    go_wp2
    go_ret
    exact ⟨rfl, (HD4.out.drewN _).drewN _, (HF4.out.drewN _).drewN _⟩
set_option maxRecDepth 100000 in
set_option maxHeartbeats 2000000 in
theorem take_serO (d L S i m u : Nat) (E : Nat -> Nat) (wv : Value) (D : Dev) (s : ByteArray) (w : World) (h : DevIn w d L S E wv D) (hi : i < D.nl) (hk : (D.ln i).kind = 1) (hu : u ≠ D.unit) (hu0 : u ≠ 0) :
    Calls Tryz.prog 57 #[.pointer (some ⟨d, 0, none⟩), .int .i64 (i : Nat), .agg #[.int .i64 (m : Nat), .int .i64 (u : Nat), .string s]] w fun e w' => e = .returned (.slice none 0 0) /\ Below w.heap.size w w' := by
  obtain ⟨c0, c1, c2, c11, c12, c13, c14, cf, hdl⟩ := h.cells
  obtain ⟨W, hW⟩ : ∃ W, W = w.alloc (.cells #[.int .i64 (m : Nat), .int .i64 (u : Nat), .string s] 94) := ⟨_, rfl⟩
  have hWb : Below w.heap.size w W := by rw [hW]; exact bel_alloc (Below.refl _ _) _
  have hWg : W.heap[w.heap.size]? = some (.cells #[.int .i64 (m : Nat), .int .i64 (u : Nat), .string s] 94 (0, 0)) := by rw [hW]; exact heap_alloc_new w _
  have hWl : W.heap.size = w.heap.size + 1 := by rw [hW]; simp
  have HH := hideF h
  have HWb := hideF hWb
  have HWg := hideF hWg
  have huI : ((u : Int) == (D.unit : Int)) = false := by rw [beq_eq_false_iff_ne]; omega
  have hune : ((u : Int) != (D.unit : Int)) = true := by simp [bne, huI]
  have hiI : (i : Int) < (D.nl : Int) := by omega
  have HK := hideF hk
  clear h hWb hWg hu hk
  go_enter Tryz.func57, Tryz.ntmps57
  go_wp2_with fail
  rw [<- hW]
  clear hW
  refine (newRequest_any s W).mono ?_
  rintro e w1 ⟨x, v, k, rfl, hown, hsh, hlen, hb⟩
  unfold reqV
  obtain ⟨av, cv, rfl, _⟩ := own_view hown
  obtain ⟨X, hX⟩ : ∃ X, X = w1.alloc (.cells #[.string s, .int .i64 (x.fn : Nat), .int .i64 (x.tab : Nat), .int .i64 (x.frm : Nat), .int .i64 (x.cnt : Nat), .int .i64 (x.into : Nat), .int .i64 (x.to : Nat), .int .i64 (x.many : Nat), .slice av x.vals.length cv, .int .u8 (k : Nat)] 146) := ⟨_, rfl⟩
  have hX1 : Below w1.heap.size w1 X := by rw [hX]; exact bel_alloc (Below.refl _ _) _
  have hXb : Below w.heap.size w X := bel_then (bel_then HWb.out hb) hX1
  have hXg : X.heap[w.heap.size]? = some (.cells #[.int .i64 (m : Nat), .int .i64 (u : Nat), .string s] 94 (0, 0)) := (hX1.block _ (by have := hb.size; omega)).trans ((hb.block _ (by omega)).trans HWg.out)
  have HXb := hideF hXb
  have HD := hideF (HH.out.belowQ hXb)
  clear c0 c1 c2 c11 c12 c13 c14 cf hown hsh hb hX1
  obtain ⟨c0, c1, c2, c11, c12, c13, c14, cf, hdX⟩ := HD.out.cells
  obtain ⟨g0, g1, g2, gf⟩ := cells3f hXg
  have hlc : X.cell? ⟨L, i * 3, none⟩ = some (.int .i64 1) := by
    have := HD.out.lines.cell hi (j := 0) (by omega)
    rw [Nat.add_zero] at this
    rw [this]; simp [lnc, HK.out]
  clear hXb hXg
  go_wp2_with fail
  rw [<- hX]
  clear hX
  go_quiet (first | (go_at_call 78; refine Calls.quiet_of_same (asksAll_not _ _ _ _ (by simpa using hlc) (by omega))))
  go_wp2
  go_ret
  exact ⟨rfl, below_drewN HXb.out _⟩
set_option maxRecDepth 100000 in
set_option maxHeartbeats 2000000 in
theorem take_serR (d L S i m : Nat) (E : Nat -> Nat) (wv : Value) (D : Dev) (s : ByteArray) (w : World) (h : DevIn w d L S E wv D) (hi : i < D.nl) (hk : (D.ln i).kind = 1) (hu0 : D.unit ≠ 0) (how : ∀ x k, Pl.ShpIs s x k -> onlyW x = false) :
    Calls Tryz.prog 57 #[.pointer (some ⟨d, 0, none⟩), .int .i64 (i : Nat), .agg #[.int .i64 (m : Nat), .int .i64 0, .string s]] w fun e w' => e = .returned (.slice none 0 0) /\ Below w.heap.size w w' := by
  obtain ⟨aw, cw, rfl, _⟩ := own_view h.wait
  obtain ⟨c0, c1, c2, c11, c12, c13, c14, cf, hdl⟩ := h.cells
  obtain ⟨W, hW⟩ : ∃ W, W = w.alloc (.cells #[.int .i64 (m : Nat), .int .i64 0, .string s] 94) := ⟨_, rfl⟩
  have hWb : Below w.heap.size w W := by rw [hW]; exact bel_alloc (Below.refl _ _) _
  have hWg : W.heap[w.heap.size]? = some (.cells #[.int .i64 (m : Nat), .int .i64 0, .string s] 94 (0, 0)) := by rw [hW]; exact heap_alloc_new w _
  have hWl : W.heap.size = w.heap.size + 1 := by rw [hW]; simp
  have HH := hideF h
  have HWb := hideF hWb
  have HWg := hideF hWg
  have HK := hideF hk
  have HOW := hideF how
  clear h hWb hWg hk how
  go_enter Tryz.func57, Tryz.ntmps57
  go_wp2_with fail
  rw [<- hW]
  clear hW
  refine (newRequest_any s W).mono ?_
  rintro e w1 ⟨x, v, k, rfl, hown, hsh, hlen, hb⟩
  unfold reqV
  obtain ⟨av, cv, rfl, _⟩ := own_view hown
  obtain ⟨X, hX⟩ : ∃ X, X = w1.alloc (.cells #[.string s, .int .i64 (x.fn : Nat), .int .i64 (x.tab : Nat), .int .i64 (x.frm : Nat), .int .i64 (x.cnt : Nat), .int .i64 (x.into : Nat), .int .i64 (x.to : Nat), .int .i64 (x.many : Nat), .slice av x.vals.length cv, .int .u8 (k : Nat)] 146) := ⟨_, rfl⟩
  have hX1 : Below w1.heap.size w1 X := by rw [hX]; exact bel_alloc (Below.refl _ _) _
  have hXb : Below w.heap.size w X := bel_then (bel_then HWb.out hb) hX1
  have hXg : X.heap[w.heap.size]? = some (.cells #[.int .i64 (m : Nat), .int .i64 0, .string s] 94 (0, 0)) := (hX1.block _ (by have := hb.size; omega)).trans ((hb.block _ (by omega)).trans HWg.out)
  have hXr : X.heap[w1.heap.size]? = some (.cells #[.string s, .int .i64 (x.fn : Nat), .int .i64 (x.tab : Nat), .int .i64 (x.frm : Nat), .int .i64 (x.cnt : Nat), .int .i64 (x.into : Nat), .int .i64 (x.to : Nat), .int .i64 (x.many : Nat), .slice av x.vals.length cv, .int .u8 (k : Nat)] 146 (0, 0)) := by rw [hX]; exact heap_alloc_new w1 _
  have HXO := hideF (ownsRow_below hown hX1)
  have HXb := hideF hXb
  have HXg := hideF hXg
  have HXr := hideF hXr
  have hsz1 : w.heap.size < w1.heap.size := by have := hb.size; omega
  have HSH := hideF hsh
  have HD := hideF (HH.out.belowQ hXb)
  clear c0 c1 c2 c11 c12 c13 c14 cf hown hsh hb hX1
  obtain ⟨c0, c1, c2, c11, c12, c13, c14, cf, hdX⟩ := HD.out.cells
  obtain ⟨g0, g1, g2, gf⟩ := cells3f hXg
  have hlc : X.cell? ⟨L, i * 3, none⟩ = some (.int .i64 1) := by
    have := HD.out.lines.cell hi (j := 0) (by omega)
    rw [Nat.add_zero] at this
    rw [this]; simp [lnc, HK.out]
  obtain ⟨r0, r1, r2, r3, r4, r5, r6, r7, r8, r9⟩ := cells10 hXr
  have hiI : (i : Int) < (D.nl : Int) := by omega
  have hOW := HOW.out x k HSH.out
  have hune : ((0 : Int) != (D.unit : Int)) = true := by simp; omega
  clear hXb hXg hXr
  go_wp2_with fail
  rw [<- hX]
  clear hX
  have lw : w.heap.size < X.heap.size := lt_of_block HXg.out
  have ld : d < X.heap.size := lt_of_block HD.out.dev
  have lL : L < X.heap.size := HD.out.lines.lt
  have l1 : w1.heap.size < X.heap.size := lt_of_block HXr.out
  go_region_held3 (fun w' => w'.cell? ⟨w.heap.size, 1, none⟩ = some (.int .i64 0) /\ w'.cell? ⟨d, 0, none⟩ = some (.int .i64 (D.unit : Nat)) /\ w'.cell? ⟨d, 2, none⟩ = some (.slice (some ⟨L, 0, none⟩) D.nl D.nl) /\ w'.cell? ⟨L, i * 3, none⟩ = some (.int .i64 1) /\ w'.cell? ⟨w1.heap.size, 0, none⟩ = some (.string s) /\ w'.cell? ⟨w1.heap.size, 1, none⟩ = some (.int .i64 (x.fn : Nat)) /\ w'.cell? ⟨w1.heap.size, 2, none⟩ = some (.int .i64 (x.tab : Nat)) /\ w'.cell? ⟨w1.heap.size, 3, none⟩ = some (.int .i64 (x.frm : Nat)) /\ w'.cell? ⟨w1.heap.size, 4, none⟩ = some (.int .i64 (x.cnt : Nat)) /\ w'.cell? ⟨w1.heap.size, 5, none⟩ = some (.int .i64 (x.into : Nat)) /\ w'.cell? ⟨w1.heap.size, 6, none⟩ = some (.int .i64 (x.to : Nat)) /\ w'.cell? ⟨w1.heap.size, 7, none⟩ = some (.int .i64 (x.many : Nat)) /\ w'.cell? ⟨w1.heap.size, 8, none⟩ = some (.slice av x.vals.length cv) /\ w'.cell? ⟨w1.heap.size, 9, none⟩ = some (.int .u8 (k : Nat))) (go_keep)
    (first
      | (go_at_call 78; refine (asksAll_yes L (i * 3) _ (by simpa using hlc)).mono ?_; rintro e w2 ⟨rfl, rfl⟩)
      | (go_at_call 79; refine (onlyWrites_any s x (.slice av x.vals.length cv) k _).mono ?_; rintro e w3 ⟨rfl, hb3⟩; have q0 := ((bcell hb3).1 _ _ lw).trans g1; have q1 := ((bcell hb3).1 _ _ ld).trans c0; have q2 := ((bcell hb3).1 _ _ ld).trans c2; have q3 := ((bcell hb3).1 _ _ lL).trans hlc; have p0 := ((bcell hb3).1 _ _ l1).trans r0; have p1 := ((bcell hb3).1 _ _ l1).trans r1; have p2 := ((bcell hb3).1 _ _ l1).trans r2; have p3 := ((bcell hb3).1 _ _ l1).trans r3; have p4 := ((bcell hb3).1 _ _ l1).trans r4; have p5 := ((bcell hb3).1 _ _ l1).trans r5; have p6 := ((bcell hb3).1 _ _ l1).trans r6; have p7 := ((bcell hb3).1 _ _ l1).trans r7; have p8 := ((bcell hb3).1 _ _ l1).trans r8; have p9 := ((bcell hb3).1 _ _ l1).trans r9))
  have hYb := below_then_drew1 hb3
  have HF := hideF (bel_then HXb.out hYb)
  go_wp2
  go_ret
  exact ⟨rfl, HF.out⟩
end Go.Proofs.YtcpldcojckhapaaGreat
