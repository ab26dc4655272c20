/-
  
-/
import Derived.Test.YtcpldcojckhapaaGreatJ30
import Derived.Test.YtcpldcojckhapaaGreatJ31
import Derived.Test.YtcpldcojckhapaaGreatJ34
import Derived.Test.YtcpldcojckhapaaGreatJ25
import Derived.Test.YtcpldcojckhapaaGreatJ29
set_option maxRecDepth 100000
namespace Go.Proofs.YtcpldcojckhapaaGreat
open Go.RowKit
set_option maxRecDepth 100000 in
set_option maxHeartbeats 2000000 in
theorem take_flush (d L S i m : Nat) (E : Nat -> Nat) (wv : Value) (D : Dev) (s r : ByteArray) (f : Nat -> Nat -> Int) (w : World) (h : DevIn w d L S E wv D) (hi : i < D.nl) (hk : (D.ln i).kind = 0) (hm : m < 65536) (hun : D.unit < 256) (ha : D.arr <= 1000000000) (hr : r.size <= 253) (hdo : DoIs d L S E wv D s r true f) (hwl : D.batch <= D.wait.length + 1) (hub : D.uns <= 1000) (hx : ∀ y ∈ D.wait, y.1 < ((D.arr + 1 : Nat) : Int)) (hw1 : D.wait.length <= 1000) (A : List (Int × Int × Int × ByteArray)) (D3 : Dev) (hA0 : 0 < A.length) (hA1 : A.length <= 1000)
    (hfl : ∀ (w1 : World) (v1 : Value), DevIn w1 d L S E v1 { D with arr := D.arr + 1, ent := f, uns := D.uns + 1, wait := D.wait ++ [(((D.arr + 1 : Nat) : Int), ((i : Nat) : Int), streamB m D.unit r)] } -> Calls Tryz.prog 24 #[.pointer (some ⟨d, 0, none⟩)] w1 fun e w' => ∃ v, e = .returned v /\ w'.ownsRow w1.heap.size 77 4 v A.length (A.flatMap encA) /\ DevIn w' d L S E (.slice none 0 0) D3 /\ FtT D.base (devT d L S E) w1 w') :
    Calls Tryz.prog 57 #[.pointer (some ⟨d, 0, none⟩), .int .i64 (i : Nat), .agg #[.int .i64 (m : Nat), .int .i64 (D.unit : Nat), .string s]] w fun e w' => ∃ v, e = .returned v /\ w'.ownsRow w.heap.size 77 4 v A.length (A.flatMap encA) /\ DevIn w' d L S E (.slice none 0 0) D3 /\ FtT D.base (devT d L S E) w w' := by
  obtain ⟨aw, cw, rfl, _⟩ := own_view h.wait
  obtain ⟨c0, c1, c2, c11, c12, c13, c14, cf, hdl⟩ := h.cells
  obtain ⟨W, hW⟩ : ∃ W, W = w.alloc (.cells #[.int .i64 (m : Nat), .int .i64 (D.unit : Nat), .string s] 94) := ⟨_, rfl⟩
  have hWb : Below w.heap.size w W := by rw [hW]; exact bel_alloc (Below.refl _ _) _
  have hWg : W.heap[w.heap.size]? = some (.cells #[.int .i64 (m : Nat), .int .i64 (D.unit : Nat), .string s] 94 (0, 0)) := by rw [hW]; exact heap_alloc_new w _
  have hWl : W.heap.size = w.heap.size + 1 := by rw [hW]; simp
  have HH := hideF h
  have HWb := hideF hWb
  have HWg := hideF hWg
  obtain ⟨i0, hi0, hz0, hz1, hz2⟩ := info_parts Tryz.infoEA
  have HFL := hideF hfl
  have HDO := hideF hdo
  have HXX := hideF hx
  clear h hWb hWg hdo hx hfl
  go_enter Tryz.func57, Tryz.ntmps57
  go_wp2_with fail
  rw [<- hW]
  clear hW
  refine (newRequest_any s W).mono ?_
  rintro e w1 ⟨x, v, k, rfl, hown, hsh, hlen, hb⟩
  unfold reqV
  obtain ⟨av, cv, rfl, _⟩ := own_view hown
  obtain ⟨X, hX⟩ : ∃ X, X = w1.alloc (.cells #[.string s, .int .i64 (x.fn : Nat), .int .i64 (x.tab : Nat), .int .i64 (x.frm : Nat), .int .i64 (x.cnt : Nat), .int .i64 (x.into : Nat), .int .i64 (x.to : Nat), .int .i64 (x.many : Nat), .slice av x.vals.length cv, .int .u8 (k : Nat)] 146) := ⟨_, rfl⟩
  have hX1 : Below w1.heap.size w1 X := by rw [hX]; exact bel_alloc (Below.refl _ _) _
  have hXb : Below w.heap.size w X := bel_then (bel_then HWb.out hb) hX1
  have hXg : X.heap[w.heap.size]? = some (.cells #[.int .i64 (m : Nat), .int .i64 (D.unit : Nat), .string s] 94 (0, 0)) := (hX1.block _ (by have := hb.size; omega)).trans ((hb.block _ (by omega)).trans HWg.out)
  have hXr : X.heap[w1.heap.size]? = some (.cells #[.string s, .int .i64 (x.fn : Nat), .int .i64 (x.tab : Nat), .int .i64 (x.frm : Nat), .int .i64 (x.cnt : Nat), .int .i64 (x.into : Nat), .int .i64 (x.to : Nat), .int .i64 (x.many : Nat), .slice av x.vals.length cv, .int .u8 (k : Nat)] 146 (0, 0)) := by rw [hX]; exact heap_alloc_new w1 _
  have HXO := hideF (ownsRow_below hown hX1)
  have HXb := hideF hXb
  have HXg := hideF hXg
  have HXr := hideF hXr
  have hsz1 : w.heap.size < w1.heap.size := by have := hb.size; omega
  have HSH := hideF hsh
  have HD := hideF (HH.out.belowQ hXb)
  clear c0 c1 c2 c11 c12 c13 c14 cf hown hsh hb hX1
  obtain ⟨c0, c1, c2, c11, c12, c13, c14, cf, hdX⟩ := HD.out.cells
  obtain ⟨g0, g1, g2, gf⟩ := cells3f hXg
  clear hXb hXg hXr
  go_wp2_with fail
  rw [<- hX]
  clear hX
  go_quiet (fail)
  obtain ⟨Y, hY⟩ : ∃ Y, Y = X.drewN nq := ⟨_, rfl⟩
  have hYb : Below X.heap.size X Y := by rw [hY]; exact below_drewN (Below.refl _ _) _
  rw [<- hY]
  clear hY
  have HYb := hideF (bel_then HXb.out hYb)
  have hYg := (hYb.block _ (lt_of_block HXg.out)).trans HXg.out
  have hYr := (hYb.block _ (lt_of_block HXr.out)).trans HXr.out
  have HYO := hideF (ownsRow_below HXO.out hYb)
  have HYD := hideF (HD.out.belowQ hYb)
  have HYg := hideF hYg
  have HYr := hideF hYr
  clear c0 c1 c2 c11 c12 c13 c14 cf g0 g1 g2 gf hdX HXb HXg HXr HXO HD
  obtain ⟨c0, c1, c2, c11, c12, c13, c14, cf, hdY⟩ := HYD.out.cells
  clear hYb hYg hYr
  go_wp2_with fail
  obtain ⟨Z, hZ⟩ : ∃ Z, Z = (Y.setCell ⟨d, 12, none⟩ (.int .i64 ((D.arr : Int) + 1))).drew := ⟨_, rfl⟩
  have hdg : d ≠ w.heap.size := by omega
  have hdr : d ≠ w1.heap.size := by omega
  have HZD : Hid (DevIn Z d L S E (.slice aw D.wait.length cw) { D with arr := D.arr + 1 }) := by
    rw [hZ]
    have := (HYD.out.setArr (D.arr + 1)).drewN 1
    rw [show ((D.arr + 1 : Nat) : Int) = (D.arr : Int) + 1 by omega] at this
    exact this
  have hZr : Z.heap[w1.heap.size]? = Y.heap[w1.heap.size]? := by rw [hZ]; exact heap_setCell_other Y ⟨d, 12, none⟩ w1.heap.size _ (by simpa using fun e => hdr e.symm)
  have hZg : Z.heap[w.heap.size]? = Y.heap[w.heap.size]? := by rw [hZ]; exact heap_setCell_other Y ⟨d, 12, none⟩ w.heap.size _ (by simpa using fun e => hdg e.symm)
  have HZr := hideF (hZr.trans HYr.out)
  have HZg := hideF (hZg.trans HYg.out)
  have HZO : Hid (Z.ownsRow W.heap.size 3 1 (.slice av x.vals.length cv) x.vals.length (x.vals.flatMap encI)) := by
    rw [hZ]
    exact own_drew (own_same HYO.out (fun g hg => heap_setCell_other Y ⟨d, 12, none⟩ g _ (by have := (HYO.out.lt g hg).1; simp; omega)))
  have HZF : Hid (FtT D.base (devT d L S E) w Z) := by
    rw [hZ]
    exact ((FtT.of_below (devT d L S E) HYb.out).setCell HYD.out.dev (devT_d _ _ _ _) HYD.out.lo.1 _ _).drewN 1
  have HDO2 : Hid (Calls Tryz.prog 80 #[.agg #[.string s, .int .i64 (x.fn : Nat), .int .i64 (x.tab : Nat), .int .i64 (x.frm : Nat), .int .i64 (x.cnt : Nat), .int .i64 (x.into : Nat), .int .i64 (x.to : Nat), .int .i64 (x.many : Nat), .slice av x.vals.length cv, .int .u8 (k : Nat)], .pointer (some ⟨d, 3, none⟩)] ((Y.setCell ⟨d, 12, none⟩ (.int .i64 ((D.arr : Int) + 1))).drew) fun e w' => ∃ v, e = .returned v /\ (v = .tuple #[.string r, .bool true] /\ DevIn w' d L S E (.slice aw D.wait.length cw) { D with arr := D.arr + 1, ent := f } /\ ∃ j, j < 4 /\ Chg1 (E j) Z w')) := by
    rw [<- hZ]
    exact (HDO.out x _ k _ Z HSH.out HZD.out HZO.out).mono fun e w' h => ⟨_, h.1, rfl, h.2.1, h.2.2⟩
  obtain ⟨r0, r1, r2, r3, r4, r5, r6, r7, r8, r9⟩ := cells10 HYr.out
  have hsY := HYb.out.size
  have HZs : Hid (Y.heap.size = Z.heap.size) := by rw [hZ]; show _ = _; simp
  clear hZ hZr hZg
  go_region_law (first
    | (refine step_call rfl 80 #[.tmp 45, .tmp 48] #[146, 151] rfl #[.agg #[.string s, .int .i64 (x.fn : Nat), .int .i64 (x.tab : Nat), .int .i64 (x.frm : Nat), .int .i64 (x.cnt : Nat), .int .i64 (x.into : Nat), .int .i64 (x.to : Nat), .int .i64 (x.many : Nat), .slice av x.vals.length cv, .int .u8 (k : Nat)], .pointer (some ⟨d, 3, none⟩)] (by simp [Act.eval]) (enter81 _ _ _) _ HDO2.out ?_; rintro vv w4 ⟨rfl, hd4, j4, hj4, hc4⟩))
  all_goals
    obtain ⟨ce, hce⟩ := (HZD.out.ent j4 hj4).block
    have hEj := (HH.out.ent j4 hj4).lt
    have HF4 := hideF (HZF.out.trans (FtT.chg hc4 hce (devT_E _ _ _ _ _ hj4) (HZD.out.lo.2.2.2 j4 hj4)))
    have hg4 := (hc4.block w.heap.size (lt_of_block HZg.out) (by omega)).trans HZg.out
    have HD4 := hideF hd4
    have hs4 : w.heap.size < w4.heap.size := lt_of_block hg4
    have HG4 := hideF hg4
    clear c0 c1 c2 c11 c12 c13 c14 cf r0 r1 r2 r3 r4 r5 r6 r7 r8 r9 hce hc4 hd4 HYb HYD HYg HYr HYO HZD HZr HZg HZO HZF HDO2 HZs
    obtain ⟨c0, c1, c2, c11, c12, c13, c14, cf, hd4⟩ := HD4.out.cells
    obtain ⟨g0, g1, g2, gf⟩ := cells3f hg4
    clear hg4
    go_wp2_with fail
    obtain ⟨w8, hw8⟩ : ∃ w8, w8 = w4.setCell ⟨d, 13, none⟩ (.int .i64 ((D.uns : Int) + 1)) := ⟨_, rfl⟩
    have HD8 : Hid (DevIn w8 d L S E (.slice aw D.wait.length cw) { D with arr := D.arr + 1, ent := f, uns := D.uns + 1 }) := by
      rw [hw8]
      have := HD4.out.setUns (D.uns + 1)
      rw [show ((D.uns + 1 : Nat) : Int) = (D.uns : Int) + 1 by omega] at this
      exact this
    have HF8 : Hid (FtT D.base (devT d L S E) w w8) := by rw [hw8]; exact HF4.out.setCell HD4.out.dev (devT_d _ _ _ _) HD4.out.lo.1 _ _
    have HG8 : Hid (w8.heap[w.heap.size]? = _) := (by rw [hw8]; exact heap_setCell_other w4 ⟨d, 13, none⟩ w.heap.size _ (by simpa using fun e => hdg e.symm) : w8.heap[w.heap.size]? = w4.heap[w.heap.size]?).trans HG4.out
    rw [<- hw8]
    have hs8 : w.heap.size < w8.heap.size := lt_of_block HG8.out
    clear hw8 c0 c1 c2 c11 c12 c13 c14 cf g0 g1 g2 gf HD4 HF4 HG4 hd4
    obtain ⟨c0, c1, c2, c11, c12, c13, c14, cf, hd4⟩ := HD8.out.cells
    obtain ⟨g0, g1, g2, gf⟩ := cells3f HG8.out
    go_quiet (fail)
    obtain ⟨V, hV⟩ : ∃ V, V = w8.drewN nq := ⟨_, rfl⟩
    have hVb : Below w8.heap.size w8 V := by rw [hV]; exact below_drewN (Below.refl _ _) _
    rw [<- hV]
    clear hV
    have HDV := hideF (HD8.out.belowQ hVb)
    have hgV := (hVb.block _ hs8).trans HG8.out
    have HFV := hideF (HF8.out.then_below hVb)
    have HGV := hideF hgV
    have hsV := lt_of_block hgV
    clear c0 c1 c2 c11 c12 c13 c14 cf g0 g1 g2 gf hVb HD8 HG8 HF8 hd4
    obtain ⟨c0, c1, c2, c11, c12, c13, c14, cf, hdV⟩ := HDV.out.cells
    obtain ⟨g0, g1, g2, gf⟩ := cells3f hgV
    clear hgV
    go_wp2_with fail
    obtain ⟨U, hU⟩ : ∃ U, U = V.setCell ⟨w.heap.size, 2, none⟩ (.string r) := ⟨_, rfl⟩
    have HDU : Hid (DevIn U d L S E (.slice aw D.wait.length cw) { D with arr := D.arr + 1, ent := f, uns := D.uns + 1 }) := by rw [hU]; exact HDV.out.keep ((FtT.refl (B := 0) (fun _ t => t == 94) V).setCell HGV.out rfl (Nat.zero_le _) _ _) (fun _ => rfl) (fun _ => rfl) (fun _ => rfl) (fun _ => rfl) (fun _ => rfl)
    have HFU : Hid (FtT D.base (devT d L S E) w U) := by rw [hU]; exact HFV.out.setNew _ _ (Nat.le_refl _) _
    have hgU : U.heap[w.heap.size]? = some (.cells #[.int .i64 (m : Nat), .int .i64 (D.unit : Nat), .string r] 94 (0, 0)) := by rw [hU]; exact heap_setCell_same V _ 2 _ 94 (.string r) HGV.out
    rw [<- hU]
    clear hU c0 c1 c2 c11 c12 c13 c14 cf g0 g1 g2 gf HDV HGV HFV hsV hdV
    obtain ⟨c0, c1, c2, c11, c12, c13, c14, cf, hdU⟩ := HDU.out.cells
    obtain ⟨g0, g1, g2, gf⟩ := cells3f hgU
    have hsU := lt_of_block hgU
    clear hgU
    have hiI : (i : Int) < (D.nl : Int) := by omega
    have HFR : Hid (Calls Tryz.prog 82 #[.pointer (some ⟨L, i * 3, none⟩), .agg #[.int .i64 (m : Nat), .int .i64 (D.unit : Nat), .string r]] U.drew fun e w' => ∃ v, e = .returned v /\ (v = .string (streamB m D.unit r) /\ Below U.drew.heap.size U.drew w')) := (framed_stream L i D.nl m D.unit r D.ln U.drew (HDU.out.drewN 1).lines hi hk hm hun hr).mono fun e w' h => ⟨_, h.1, rfl, h.2⟩
    go_region_law (first
      | (refine step_call rfl 82 #[.tmp 76, .tmp 77] #[116, 94] rfl #[.pointer (some ⟨L, i * 3, none⟩), .agg #[.int .i64 (m : Nat), .int .i64 (D.unit : Nat), .string r]] (by simp [Act.eval, Act.put]) (enter83 _ _ _) _ HFR.out ?_; rintro vv w5 ⟨rfl, hb5⟩; have hd5 := (HDU.out.drewN 1).belowQ hb5)
      | (refine step_call rfl 81 #[.tmp 69, .tmp 70, .tmp 78] #[49, 3, 9] rfl #[.pointer (some ⟨d, 0, none⟩), .int .i64 (i : Nat), .string (streamB m D.unit r)] (by simp [Act.eval]) (enter82 _ _ _ _) _ (dansw_step d L S i E _ _ (streamB m D.unit r) _ hd5 (by first | exact Nat.succ_pos _ | exact hu) hw1 HXX.out) ?_; rintro vv w6 ⟨rfl, v6, hd6, hf6⟩))
    all_goals
      have HF6 := hideF ((HFU.out.then_below (below_then_drew1 hb5)).trans (hf6.mono (wt_dev _ _ _ _)))
      have HD6 := hideF hd6
      obtain ⟨a6, k6, rfl, _⟩ := own_view hd6.wait
      clear c0 c1 c2 c11 c12 c13 c14 cf g0 g1 g2 gf hb5 hd6 hf6 hd5 HFR
      obtain ⟨c0, c1, c2, c11, c12, c13, c14, cf, hd6⟩ := HD6.out.cells
      simp only [List.length_append, List.length_singleton] at c14
      have q1 : (D.batch : Int) <= ((D.wait.length + 1 : Nat) : Int) := by omega
      have q3 : (D.batch : Int) <= (D.wait.length : Int) + 1 := by omega
      have hs6 := HF6.out.size
      go_wp2_with fail
      go_quiet (fail)
      obtain ⟨Z7, hZ7⟩ : ∃ Z7, Z7 = w6.drewN nq := ⟨_, rfl⟩
      have HDZ : Hid (DevIn Z7 d L S E _ _) := (by rw [hZ7]; exact HD6.out.drewN nq)
      have HFZ : Hid (FtT D.base (devT d L S E) w Z7) := (by rw [hZ7]; exact HF6.out.drewN nq)
      rw [<- hZ7]
      have hsZ := HFZ.out.size
      clear hZ7 c0 c1 c2 c11 c12 c13 c14 cf hd6 HD6 HF6 hs6
      go_wp2_with fail
      refine (HFL.out _ _ HDZ.out).mono ?_
      rintro e w7 ⟨v7, rfl, hown7, hD7, hF7⟩
      obtain ⟨a7, p7, rfl, hat7⟩ := own_view hown7
      obtain ⟨g7, rfl, hg7, hc7⟩ := hat7 0 hA0
      have hln : (A.flatMap encA).length = A.length * 4 := flat_len encA 4 (fun _ => rfl) A
      have HC7 : Hid (∀ j u, (A.flatMap encA)[j]? = some u -> w7.cell? ((⟨g7, 0, none⟩ : Addr).add j) = some u) := fun j u hj => by
        have hjl : j < (A.flatMap encA).length := (List.getElem?_eq_some_iff.1 hj).1
        have e : (⟨g7, 0, none⟩ : Addr).add j = ⟨g7, j, none⟩ := by by_cases h0 : j = 0 <;> simp [Addr.add, h0]
        rw [e, hc7 j (by omega), hj]
      have HLN := hideF hln
      have HD7 := hideF hD7
      have HF7 := hideF (HFZ.out.trans hF7)
      have hs7 := HF7.out.size
      clear hown7 hD7 hF7 hat7 hc7 hln HDZ HFZ
      go_wp2_with (at_builtin; refine wpList_append_own _ rfl (.tmp 101) (.tmp 103) 31 rfl w.heap.size 77 i0 _ 4 40 Tryz.underlying31 hi0 hz0 hz1 hz2 rfl (by decide) (.slice none 0 0) 0 [] rfl (World.ownsRow_nil _ _ _ _) ⟨g7, 0, none⟩ A.length p7 (A.flatMap encA) rfl HLN.out HC7.out (encA_one _) (by unfold maxLen; omega) (by omega) (by omega) ?_; intro v' w8z hown8 hgrow8 _; obtain ⟨a8, p8, rfl, _⟩ := own_view hown8)
      go_ret
      refine ⟨_, rfl, ?_, HD7.out.keep ((FtT.refl (B := 0) (fun _ t => t == 77) w7).grown_new hgrow8 (fun k hk => by simp [Value.ownBlock] at hk)) (fun _ => rfl) (fun _ => rfl) (fun _ => rfl) (fun _ => rfl) (fun _ => rfl), HF7.out.grown_new hgrow8 (fun k hk => by simp [Value.ownBlock] at hk)⟩
      rw [Nat.zero_add, List.nil_append] at hown8
      exact hown8
end Go.Proofs.YtcpldcojckhapaaGreat

set_option maxRecDepth 100000
namespace Go.Proofs.YtcpldcojckhapaaGreat
open Go.RowKit
theorem shp_total (s : ByteArray) : ∃ x k, Pl.ShpIs s x k := by
  by_cases hs : 0 < s.size /\ s.size <= 253
  . rcases Classical.em (Pl.byt s 0 = 1) with e1 | e1
    . rcases Classical.em (Pl.rdOk 2000 s) with r | r
      . exact ⟨_, _, .inr ⟨hs, (.inl ⟨e1, .inl ⟨r, rfl, rfl⟩⟩)⟩⟩
      . exact ⟨_, _, .inr ⟨hs, (.inl ⟨e1, .inr ⟨r, rfl, rfl⟩⟩)⟩⟩
    rcases Classical.em (Pl.byt s 0 = 2) with e2 | e2
    . rcases Classical.em (Pl.rdOk 2000 s) with r | r
      . exact ⟨_, _, .inr ⟨hs, (.inr (.inl ⟨e2, .inl ⟨r, rfl, rfl⟩⟩))⟩⟩
      . exact ⟨_, _, .inr ⟨hs, (.inr (.inl ⟨e2, .inr ⟨r, rfl, rfl⟩⟩))⟩⟩
    rcases Classical.em (Pl.byt s 0 = 3) with e3 | e3
    . rcases Classical.em (Pl.rdOk 125 s) with r | r
      . exact ⟨_, _, .inr ⟨hs, (.inr (.inr (.inl ⟨e3, .inl ⟨r, rfl, rfl⟩⟩)))⟩⟩
      . exact ⟨_, _, .inr ⟨hs, (.inr (.inr (.inl ⟨e3, .inr ⟨r, rfl, rfl⟩⟩)))⟩⟩
    rcases Classical.em (Pl.byt s 0 = 4) with e4 | e4
    . rcases Classical.em (Pl.rdOk 125 s) with r | r
      . exact ⟨_, _, .inr ⟨hs, (.inr (.inr (.inr (.inl ⟨e4, .inl ⟨r, rfl, rfl⟩⟩))))⟩⟩
      . exact ⟨_, _, .inr ⟨hs, (.inr (.inr (.inr (.inl ⟨e4, .inr ⟨r, rfl, rfl⟩⟩))))⟩⟩
    rcases Classical.em (Pl.byt s 0 = 5) with e5 | e5
    . rcases Classical.em (Pl.coilOk s) with r | r
      . exact ⟨_, _, .inr ⟨hs, (.inr (.inr (.inr (.inr (.inl ⟨e5, .inl ⟨r, rfl, rfl⟩⟩)))))⟩⟩
      . exact ⟨_, _, .inr ⟨hs, (.inr (.inr (.inr (.inr (.inl ⟨e5, .inr ⟨r, rfl, rfl⟩⟩)))))⟩⟩
    rcases Classical.em (Pl.byt s 0 = 6) with e6 | e6
    . rcases Classical.em (s.size = 5) with r | r
      . exact ⟨_, _, .inr ⟨hs, (.inr (.inr (.inr (.inr (.inr (.inl ⟨e6, .inl ⟨r, rfl, rfl⟩⟩))))))⟩⟩
      . exact ⟨_, _, .inr ⟨hs, (.inr (.inr (.inr (.inr (.inr (.inl ⟨e6, .inr ⟨r, rfl, rfl⟩⟩))))))⟩⟩
    rcases Classical.em (Pl.byt s 0 = 15) with e15 | e15
    . rcases Classical.em (Pl.coilsOk s) with r | r
      . exact ⟨_, _, .inr ⟨hs, (.inr (.inr (.inr (.inr (.inr (.inr (.inl ⟨e15, .inl ⟨r, rfl, rfl⟩⟩)))))))⟩⟩
      . exact ⟨_, _, .inr ⟨hs, (.inr (.inr (.inr (.inr (.inr (.inr (.inl ⟨e15, .inr ⟨r, rfl, rfl⟩⟩)))))))⟩⟩
    rcases Classical.em (Pl.byt s 0 = 16) with e16 | e16
    . rcases Classical.em (Pl.holdsOk s) with r | r
      . exact ⟨_, _, .inr ⟨hs, (.inr (.inr (.inr (.inr (.inr (.inr (.inr (.inl ⟨e16, .inl ⟨r, rfl, rfl⟩⟩))))))))⟩⟩
      . exact ⟨_, _, .inr ⟨hs, (.inr (.inr (.inr (.inr (.inr (.inr (.inr (.inl ⟨e16, .inr ⟨r, rfl, rfl⟩⟩))))))))⟩⟩
    rcases Classical.em (Pl.byt s 0 = 22) with e22 | e22
    . rcases Classical.em (s.size = 7) with r | r
      . exact ⟨_, _, .inr ⟨hs, (.inr (.inr (.inr (.inr (.inr (.inr (.inr (.inr (.inl ⟨e22, .inl ⟨r, rfl, rfl⟩⟩)))))))))⟩⟩
      . exact ⟨_, _, .inr ⟨hs, (.inr (.inr (.inr (.inr (.inr (.inr (.inr (.inr (.inl ⟨e22, .inr ⟨r, rfl, rfl⟩⟩)))))))))⟩⟩
    rcases Classical.em (Pl.byt s 0 = 23) with e23 | e23
    . rcases Classical.em (Pl.exchOk s) with r | r
      . exact ⟨_, _, .inr ⟨hs, (.inr (.inr (.inr (.inr (.inr (.inr (.inr (.inr (.inr (.inl ⟨e23, .inl ⟨r, rfl, rfl⟩⟩))))))))))⟩⟩
      . exact ⟨_, _, .inr ⟨hs, (.inr (.inr (.inr (.inr (.inr (.inr (.inr (.inr (.inr (.inl ⟨e23, .inr ⟨r, rfl, rfl⟩⟩))))))))))⟩⟩
    exact ⟨_, _, .inr ⟨hs, (.inr (.inr (.inr (.inr (.inr (.inr (.inr (.inr (.inr (.inr ⟨⟨e1, e2, e3, e4, e5, e6, e15, e16, e22, e23⟩, rfl, rfl⟩))))))))))⟩⟩
  . exact ⟨Pl.noShp, 3, .inl ⟨by omega, rfl, rfl⟩⟩
open Classical in
noncomputable def shpOf (s : ByteArray) : Pl.Shp × Nat := if h : ∃ p : Pl.Shp × Nat, Pl.ShpIs s p.1 p.2 then Classical.choose h else (Pl.noShp, 3)
theorem shpOf_is (s : ByteArray) : Pl.ShpIs s (shpOf s).1 (shpOf s).2 := by
  obtain ⟨x, k, h⟩ := shp_total s
  have hh : ∃ p : Pl.Shp × Nat, Pl.ShpIs s p.1 p.2 := ⟨(x, k), h⟩
  unfold shpOf
  rw [dif_pos hh]
  exact Classical.choose_spec hh
theorem spl_frames (s : ByteArray) : ∀ (f t : Nat), ∃ fs : List (Nat × Nat × ByteArray), (Pl.spl s f t).1 = fs.flatMap Pl.frC /\ (∀ x ∈ fs, Pl.May x) /\ (t <= s.size -> fs.length * 8 + t <= s.size) := by
  intro f
  induction f with
  | zero => intro t; exact ⟨[], rfl, by simp, by simp⟩
  | succ f ih =>
    intro t
    by_cases hw : Pl.wholeAt s t = 0
    . rw [Pl.spl_stop s _ t hw]; exact ⟨[], rfl, by simp, by simp⟩
    . obtain ⟨fs, h1, h2, h3⟩ := ih (t + Pl.wholeAt s t)
      have hb := Pl.wholeAt_bd s t hw
      rw [Pl.spl_step s f t hw]
      refine ⟨(256 * Pl.byt s t + Pl.byt s (t + 1), Pl.byt s (t + 6), s.extract (t + 7) (t + Pl.wholeAt s t)) :: fs, ?_, fun x hx => ?_, fun _ => ?_⟩
      . show Pl.frAt s t (Pl.wholeAt s t) ++ (Pl.spl s f (t + Pl.wholeAt s t)).1 = _
        rw [h1, List.flatMap_cons]; rfl
      . rcases List.mem_cons.1 hx with rfl | hx
        . have e0 := Pl.byt_lt s t
          have e1 := Pl.byt_lt s (t + 1)
          have e6 := Pl.byt_lt s (t + 6)
          refine ⟨by simp only; omega, e6, ?_, ?_⟩
          . simp only [ByteArray.size_extract]; omega
          . simp only [ByteArray.size_extract]; omega
        . exact h2 x hx
      . have := h3 (by omega)
        simp only [List.length_cons]; omega
structure DevOk (D : Dev) : Prop where
  sz : ∀ i, i < 4 -> D.sz i <= 60
  ent : EntOk D.ent
  kp0 : D.kp 0 <= D.sz 0
  kp2 : D.kp 2 <= D.sz 2
  unit : 1 <= D.unit /\ D.unit <= 247
  batch : 1 <= D.batch /\ D.batch <= 8
  nl : 1 <= D.nl /\ D.nl <= 4
  lat : D.lat <= 1
  stamp : D.stamp <= 3
  sec : D.sec = max 1 (((D.kp 0 + 7) / 8 + 2 * D.kp 2 + 61) / 62)
  wlen : D.wait.length < D.batch
  uns : D.uns <= D.wait.length
  w0 : D.uns = 0 -> D.wait = []
  asc : D.wait.Pairwise (fun a b => a.1 < b.1)
  top : ∀ y ∈ D.wait, y.1 <= (D.arr : Int)
def flushP (D : Dev) : Dev × List (Int × Int × Int × ByteArray) :=
  if D.uns = 0 then (D, []) else ({ D with lat := (D.lat + 1) % 2, stamp := D.stamp % 3 + 1, uns := 0, wait := [] }, saveA D.sec ((D.lat + 1) % 2) (D.stamp % 3 + 1) (keptB D.ent (D.kp 0) (D.kp 2)) ++ D.wait.map sendOf)
noncomputable def ansP (D : Dev) (i m : Nat) (s : ByteArray) : Int × Int × ByteArray := (((D.arr + 1 : Nat) : Int), ((i : Nat) : Int), streamB m D.unit (doR D s (shpOf s).1 (shpOf s).2))
noncomputable def midP (D : Dev) (s : ByteArray) : Dev := { D with arr := D.arr + 1, ent := doE D (shpOf s).1 (shpOf s).2, uns := if doB D (shpOf s).1 (shpOf s).2 = true then D.uns + 1 else D.uns }
noncomputable def takeP (D : Dev) (i m u : Nat) (s : ByteArray) : Dev × List (Int × Int × Int × ByteArray) :=
  if u ≠ D.unit then (D, [])
  else if (midP D s).uns = 0 then (midP D s, [sendOf (ansP D i m s)])
  else if D.batch <= D.wait.length + 1 then flushP { midP D s with wait := D.wait ++ [ansP D i m s] }
  else ({ midP D s with wait := D.wait ++ [ansP D i m s] }, [])
theorem doR_size (D : Dev) (s : ByteArray) (x : Pl.Shp) (k : Nat) (hok : DevOk D) (hsh : Pl.ShpIs s x k) (hs : s.size <= 253) : (doR D s x k).size <= 253 := by
  unfold doR
  split
  . rename_i h0
    rcases shp_ok hsh with ⟨rfl, hx⟩ | ⟨hk, _⟩
    . have hh : x.frm + x.cnt <= D.sz x.tab := by
        unfold doX at h0
        rw [if_neg (by omega)] at h0
        by_cases hb : hasB D x = true
        . unfold hasB at hb
          simp only [Bool.and_eq_true, decide_eq_true_eq] at hb
          exact hb.1
        . rw [if_neg hb] at h0; omega
      have := hok.sz x.tab hx.tab
      unfold answP
      split
      . exact hs
      . split
        . rw [ByteArray.size_extract]; omega
        . unfold toldB
          rw [ByteArray.size_append]
          have h2 := readP_size (entD D x) x (by omega)
          show 2 + _ <= 253
          omega
    . unfold doX at h0; rw [if_pos (by omega)] at h0; omega
  . show 2 <= 253
    omega
theorem up8_sorted (l : List (Int × Int × ByteArray)) (h : l.Pairwise (fun a b => a.1 < b.1)) (h8 : l.length <= 8) : Up8 l l := by
  obtain ⟨M, hM⟩ : ∃ M : Int, ∀ y ∈ l, y.1 <= M := by
    clear h h8
    induction l with
    | nil => exact ⟨0, by simp⟩
    | cons a l ih =>
      obtain ⟨M, hM⟩ := ih
      refine ⟨max a.1 M, fun y hy => ?_⟩
      rcases List.mem_cons.1 hy with rfl | hy
      . omega
      . have := hM y hy; omega
  have hf : Asc (fun a => if h : a < l.length then l[a] else (M + 1 + (a : Int), 0, ⟨#[]⟩)) := by
    intro a b
    simp only
    by_cases ha : a < l.length <;> by_cases hb : b < l.length
    . rw [dif_pos ha, dif_pos hb]
      constructor
      . intro hlt
        rcases Nat.lt_trichotomy a b with h1 | h1 | h1
        . exact h1
        . subst h1; omega
        . have := List.pairwise_iff_getElem.1 h b a hb ha h1; omega
      . intro hlt; exact List.pairwise_iff_getElem.1 h a b ha hb hlt
    . rw [dif_pos ha, dif_neg hb]
      have := hM _ (List.getElem_mem ha)
      simp only; omega
    . rw [dif_neg ha, dif_pos hb]
      have := hM _ (List.getElem_mem hb)
      simp only; omega
    . rw [dif_neg ha, dif_neg hb]
      simp only; omega
  have hl : (List.range l.length).map (fun a => if h : a < l.length then l[a] else (M + 1 + (a : Int), 0, ⟨#[]⟩)) = l := by
    apply List.ext_getElem
    . simp
    . intro j h1 h2
      simp [h2]
  have := up8_start _ hf l.length h8
  rw [hl] at this
  exact this
end Go.Proofs.YtcpldcojckhapaaGreat

set_option maxRecDepth 100000
namespace Go.Proofs.YtcpldcojckhapaaGreat
open Go.RowKit
end Go.Proofs.YtcpldcojckhapaaGreat

set_option maxRecDepth 100000
namespace Go.Proofs.YtcpldcojckhapaaGreat
open Go.RowKit
end Go.Proofs.YtcpldcojckhapaaGreat

set_option maxRecDepth 100000
namespace Go.Proofs.YtcpldcojckhapaaGreat
open Go.RowKit
end Go.Proofs.YtcpldcojckhapaaGreat

set_option maxRecDepth 100000
namespace Go.Proofs.YtcpldcojckhapaaGreat
def left (ws : Nat -> Nat) : Nat -> List Nat
  | 0 => List.replicate 8 0
  | j + 1 => (left ws j).set (ws j) (j + 1)
structure Ds where
  dk : Nat -> ByteArray
  wet : List (Int × Int × Int × ByteArray)
  told : Nat
def putD (f : Nat -> ByteArray) (a : Int × Int × Int × ByteArray) : Nat -> ByteArray := fun i => if i = a.2.1.toNat then a.2.2.2 else f i
def stepD (s : Ds) (a : Int × Int × Int × ByteArray) : Ds :=
  if a.1 = 0 then { s with wet := s.wet ++ [a] } else if a.1 = 1 then { s with dk := s.wet.foldl putD s.dk, wet := [] } else { s with told := s.told + 1 }
theorem tells (l : List (Int × Int × Int × ByteArray)) : ∀ (s : Ds), (∀ a ∈ l, a.1 = 2) -> l.foldl stepD s = { s with told := s.told + l.length } := by
  induction l with
  | nil => intro s _; rfl
  | cons a l ih =>
    intro s h
    have h2 : a.1 = 2 := h a (by simp)
    have e : stepD s a = { s with told := s.told + 1 } := by unfold stepD; rw [if_neg (by omega), if_neg (by omega)]
    rw [List.foldl_cons, e, ih _ (fun b hb => h b (by simp [hb]))]
    simp only [List.length_cons]
    rw [show s.told + 1 + l.length = s.told + (l.length + 1) by omega]
end Go.Proofs.YtcpldcojckhapaaGreat

set_option maxRecDepth 100000
namespace Go.Proofs.YtcpldcojckhapaaGreat
open Go.RowKit
end Go.Proofs.YtcpldcojckhapaaGreat

set_option maxRecDepth 100000
namespace Go.Proofs.YtcpldcojckhapaaGreat
open Go.RowKit
section
variable {B b : Nat} {ws : Nat -> Nat} {i t lat st : Nat} (d L S : Nat) (E : Nat -> Nat) (wv : Value) (w : World)
set_option maxRecDepth 100000 in
set_option maxHeartbeats 2000000 in
theorem flush_none (D : Dev) (h : DevIn w d L S E wv D) (hu : D.uns = 0) : Calls Tryz.prog 24 #[.pointer (some ⟨d, 0, none⟩)] w fun e w' => e = .returned (.slice none 0 0) /\ w' = w := by
  obtain ⟨c0, c1, c2, c11, c12, c13, c14, cf, hdl⟩ := h.cells
  rw [hu] at c13
  clear h
  go_enter Tryz.func24, Tryz.ntmps24
  go_wp2
  go_ret
  exact ⟨rfl, rfl⟩
end
end Go.Proofs.YtcpldcojckhapaaGreat

set_option maxRecDepth 100000
namespace Go.Proofs.YtcpldcojckhapaaGreat
open Go.RowKit
structure FlOk (D : Dev) : Prop where
  sz : ∀ i, i < 4 -> D.sz i <= 60
  ent : EntOk D.ent
  kp0 : D.kp 0 <= D.sz 0
  kp2 : D.kp 2 <= D.sz 2
  lat : D.lat <= 1
  stamp : D.stamp <= 3
  sec : D.sec = max 1 (((D.kp 0 + 7) / 8 + 2 * D.kp 2 + 61) / 62)
  wlen : D.wait.length <= 8
  uns : D.uns <= D.wait.length
  asc : D.wait.Pairwise (fun a b => a.1 < b.1)
theorem flush_p (d L S : Nat) (E : Nat -> Nat) (wv : Value) (D : Dev) (w : World) (h : DevIn w d L S E wv D) (hok : FlOk D) :
    Calls Tryz.prog 24 #[.pointer (some ⟨d, 0, none⟩)] w fun e w' => ∃ v wv', e = .returned v /\ w'.ownsRow w.heap.size 77 4 v (flushP D).2.length ((flushP D).2.flatMap encA) /\ (D.uns ≠ 0 -> wv' = .slice none 0 0) /\ DevIn w' d L S E wv' (flushP D).1 /\ FtT D.base (devT d L S E) w w' := by
  by_cases hu : D.uns = 0
  . have e : flushP D = (D, []) := by unfold flushP; rw [if_pos hu]
    rw [e]
    refine (flush_none d L S E wv w D h hu).mono ?_
    rintro e w' ⟨he, rfl⟩
    exact ⟨_, wv, he, World.ownsRow_nil _ _ _ _, fun h => absurd hu h, h, FtT.refl _ _⟩
  . have e : flushP D = ({ D with lat := (D.lat + 1) % 2, stamp := D.stamp % 3 + 1, uns := 0, wait := [] }, saveA D.sec ((D.lat + 1) % 2) (D.stamp % 3 + 1) (keptB D.ent (D.kp 0) (D.kp 2)) ++ D.wait.map sendOf) := by unfold flushP; rw [if_neg hu]
    rw [e]
    have hkz := keptB_size D.ent (D.kp 0) (D.kp 2)
    have z0 := hok.sz 0 (by omega)
    have z2 := hok.sz 2 (by omega)
    have k0 := hok.kp0
    have k2 := hok.kp2
    have hsec := hok.sec
    have hw := hok.wlen
    have hun := hok.uns
    refine (flush_gen d L S ((D.lat + 1) % 2) (D.stamp % 3 + 1) E wv D (keptB D.ent (D.kp 0) (D.kp 2)) Up8 up8_len (pops_up8 d) D.wait w h (by omega) (fun w1 h1 => kept_gen d L S E wv D w1 h1 hok.sz hok.kp0 hok.kp2 hok.ent) (by rw [hkz]; omega) (by omega) (fun i hi => by rw [hkz]; omega) hok.lat hok.stamp rfl rfl (up8_sorted _ hok.asc hw) (by omega) (by omega)).mono ?_
    rintro e w' ⟨v, he, ho, hD, hF⟩
    refine ⟨v, _, he, ?_, fun _ => rfl, hD, hF⟩
    have hl : (saveA D.sec ((D.lat + 1) % 2) (D.stamp % 3 + 1) (keptB D.ent (D.kp 0) (D.kp 2)) ++ D.wait.map sendOf).length = D.sec + 1 + D.wait.length := by rw [List.length_append, saveA_len, List.length_map]
    rw [hl]
    exact ho
theorem flushP_len (D : Dev) (hok : FlOk D) : (flushP D).2.length <= 20 := by
  unfold flushP
  split
  . simp
  . have z0 := hok.sz 0 (by omega)
    have z2 := hok.sz 2 (by omega)
    have k0 := hok.kp0
    have k2 := hok.kp2
    have hsec := hok.sec
    have hw := hok.wlen
    rw [List.length_append, saveA_len, List.length_map]; omega
theorem mid_fl {D : Dev} {i m : Nat} {s : ByteArray} (hok : DevOk D) (_hn : 0 < (midP D s).uns) : FlOk { midP D s with wait := D.wait ++ [ansP D i m s] } := by
  refine ⟨hok.sz, doE_ok hok.ent (shpOf_is s), hok.kp0, hok.kp2, hok.lat, hok.stamp, hok.sec, ?_, ?_, ?_⟩
  . show (D.wait ++ [ansP D i m s]).length <= 8
    have := hok.wlen
    have := hok.batch
    simp; omega
  . show (if doB D (shpOf s).1 (shpOf s).2 = true then D.uns + 1 else D.uns) <= (D.wait ++ [ansP D i m s]).length
    have := hok.uns
    rw [List.length_append, List.length_singleton]
    split <;> omega
  . show (D.wait ++ [ansP D i m s]).Pairwise (fun a b => a.1 < b.1)
    rw [List.pairwise_append]
    refine ⟨hok.asc, by simp, fun a ha b hb => ?_⟩
    rw [List.mem_singleton.1 hb]
    have := hok.top a ha
    show a.1 < ((D.arr + 1 : Nat) : Int)
    omega
theorem take_any (d L S i m u : Nat) (E : Nat -> Nat) (wv : Value) (D : Dev) (s : ByteArray) (w : World) (h : DevIn w d L S E wv D) (hok : DevOk D) (hi : i < D.nl) (hk : (D.ln i).kind = 0) (hx : Pl.May (m, u, s)) (ha : D.arr <= 900000000) :
    Calls Tryz.prog 57 #[.pointer (some ⟨d, 0, none⟩), .int .i64 (i : Nat), .agg #[.int .i64 (m : Nat), .int .i64 (u : Nat), .string s]] w fun e w' => ∃ v wv', e = .returned v /\ w'.ownsRow w.heap.size 77 4 v (takeP D i m u s).2.length ((takeP D i m u s).2.flatMap encA) /\ DevIn w' d L S E wv' (takeP D i m u s).1 /\ FtT D.base (devT d L S E) w w' := by
  by_cases hu : u = D.unit
  . subst hu
    have hm : m < 65536 := hx.1
    have hs1 : 1 <= s.size := hx.2.2.1
    have hs2 : s.size <= 253 := hx.2.2.2
    have hu2 := hok.unit
    have hb2 := hok.batch
    have hwl := hok.wlen
    have hun := hok.uns
    have hsh := shpOf_is s
    have hr := doR_size D s _ _ hok hsh hs2
    have hdo := do_any d L S E wv D s _ _ hsh (by omega) hok.sz hok.ent
    have htop : ∀ y ∈ D.wait, y.1 < ((D.arr + 1 : Nat) : Int) := fun y hy => by have := hok.top y hy; omega
    have hfl := flushP_len
    cases hb : doB D (shpOf s).1 (shpOf s).2
    . rw [hb] at hdo
      have hmu : (midP D s).uns = D.uns := by show (if doB D (shpOf s).1 (shpOf s).2 = true then D.uns + 1 else D.uns) = _; rw [hb]; rfl
      have hme : midP D s = { D with arr := D.arr + 1, ent := doE D (shpOf s).1 (shpOf s).2 } := by unfold midP; rw [hb]; rfl
      by_cases h0 : D.uns = 0
      . have e : takeP D i m D.unit s = (midP D s, [sendOf (ansP D i m s)]) := by unfold takeP; rw [if_neg (by simp), if_pos (by rw [hmu]; exact h0)]
        rw [e, hme]
        refine (take_now d L S i m E wv D s _ _ w h hi hk hm (by omega) (by omega) hr hdo h0 hwl (by omega)).mono ?_
        rintro e w' ⟨v, h1, h2, h3, h4⟩
        exact ⟨v, wv, h1, h2, h3, h4⟩
      . by_cases hbt : D.batch <= D.wait.length + 1
        . have e : takeP D i m D.unit s = flushP { midP D s with wait := D.wait ++ [ansP D i m s] } := by unfold takeP; rw [if_neg (by simp), if_neg (by rw [hmu]; exact h0), if_pos hbt]
          rw [e]
          have hFO := mid_fl (i := i) (m := m) hok (show 0 < (midP D s).uns by rw [hmu]; omega)
          have hnu : (flushP { midP D s with wait := D.wait ++ [ansP D i m s] }).2 ≠ [] := by
            unfold flushP
            rw [if_neg (by show (midP D s).uns ≠ 0; rw [hmu]; exact h0)]
            intro e0
            have := congrArg List.length e0
            simp at this
          refine (take_flushF d L S i m E wv D s _ _ w h hi hk hm (by omega) (by omega) hr hdo (by omega) hbt (by omega) htop (by omega) _ (flushP { midP D s with wait := D.wait ++ [ansP D i m s] }).1 (List.length_pos_iff.2 hnu) (by have := hfl _ hFO; omega) (fun w1 v1 h1 => ?_)).mono ?_
          . have h1' : DevIn w1 d L S E v1 { midP D s with wait := D.wait ++ [ansP D i m s] } := by rw [hme]; exact h1
            refine (flush_p d L S E v1 _ w1 h1' hFO).mono ?_
            rintro e w' ⟨v, wv', g1, g2, g3, g4, g5⟩
            rw [g3 (by show (midP D s).uns ≠ 0; rw [hmu]; exact h0)] at g4
            exact ⟨v, g1, g2, g4, g5⟩
          . rintro e w' ⟨v, h1, h2, h3, h4⟩
            exact ⟨v, _, h1, h2, h3, h4⟩
        . have e : takeP D i m D.unit s = ({ midP D s with wait := D.wait ++ [ansP D i m s] }, []) := by unfold takeP; rw [if_neg (by simp), if_neg (by rw [hmu]; exact h0), if_neg hbt]
          rw [e, hme]
          refine (take_waitF d L S i m E wv D s _ _ w h hi hk hm (by omega) (by omega) hr hdo (by omega) (by omega) (by omega) htop (by omega) (by omega)).mono ?_
          rintro e w' ⟨v', h1, h2, h3⟩
          exact ⟨_, v', h1, World.ownsRow_nil _ _ _ _, h2, h3⟩
    . rw [hb] at hdo
      have hmu : (midP D s).uns = D.uns + 1 := by show (if doB D (shpOf s).1 (shpOf s).2 = true then D.uns + 1 else D.uns) = _; rw [hb]; rfl
      have hme : midP D s = { D with arr := D.arr + 1, ent := doE D (shpOf s).1 (shpOf s).2, uns := D.uns + 1 } := by unfold midP; rw [hb]; rfl
      by_cases hbt : D.batch <= D.wait.length + 1
      . have e : takeP D i m D.unit s = flushP { midP D s with wait := D.wait ++ [ansP D i m s] } := by unfold takeP; rw [if_neg (by simp), if_neg (by rw [hmu]; omega), if_pos hbt]
        rw [e]
        have hFO := mid_fl (i := i) (m := m) hok (show 0 < (midP D s).uns by rw [hmu]; omega)
        have hnu : (flushP { midP D s with wait := D.wait ++ [ansP D i m s] }).2 ≠ [] := by
          unfold flushP
          rw [if_neg (by show (midP D s).uns ≠ 0; rw [hmu]; omega)]
          intro e0
          have := congrArg List.length e0
          simp at this
        refine (take_flush d L S i m E wv D s _ _ w h hi hk hm (by omega) (by omega) hr hdo hbt (by omega) htop (by omega) _ (flushP { midP D s with wait := D.wait ++ [ansP D i m s] }).1 (List.length_pos_iff.2 hnu) (by have := hfl _ hFO; omega) (fun w1 v1 h1 => ?_)).mono ?_
        . have h1' : DevIn w1 d L S E v1 { midP D s with wait := D.wait ++ [ansP D i m s] } := by rw [hme]; exact h1
          refine (flush_p d L S E v1 _ w1 h1' hFO).mono ?_
          rintro e w' ⟨v, wv', g1, g2, g3, g4, g5⟩
          rw [g3 (by show (midP D s).uns ≠ 0; rw [hmu]; omega)] at g4
          exact ⟨v, g1, g2, g4, g5⟩
        . rintro e w' ⟨v, h1, h2, h3, h4⟩
          exact ⟨v, _, h1, h2, h3, h4⟩
      . have e : takeP D i m D.unit s = ({ midP D s with wait := D.wait ++ [ansP D i m s] }, []) := by unfold takeP; rw [if_neg (by simp), if_neg (by rw [hmu]; omega), if_neg hbt]
        rw [e, hme]
        refine (take_waitT d L S i m E wv D s _ _ w h hi hk hm (by omega) (by omega) hr hdo (by omega) (by omega) htop (by omega) (by omega)).mono ?_
        rintro e w' ⟨v', h1, h2, h3⟩
        exact ⟨_, v', h1, World.ownsRow_nil _ _ _ _, h2, h3⟩
  . have e : takeP D i m u s = (D, []) := by unfold takeP; rw [if_pos hu]
    rw [e]
    refine (take_other d L S i m u E wv D s w h hi hk hu).mono ?_
    rintro e w' ⟨h1, h2⟩
    exact ⟨_, wv, h1, World.ownsRow_nil _ _ _ _, h.belowQ h2, FtT.of_below _ h2⟩
theorem flushP_ok {D : Dev} (hok : FlOk D) (hu : 1 <= D.unit /\ D.unit <= 247) (hb : 1 <= D.batch /\ D.batch <= 8) (hn : 1 <= D.nl /\ D.nl <= 4) (h0 : D.uns ≠ 0) : DevOk (flushP D).1 := by
  unfold flushP
  rw [if_neg h0]
  exact ⟨hok.sz, hok.ent, hok.kp0, hok.kp2, hu, hb, hn, by show (D.lat + 1) % 2 <= 1; omega, by show D.stamp % 3 + 1 <= 3; omega, hok.sec, by show 0 < D.batch; omega, Nat.le_refl _, fun _ => rfl, by simp, by simp⟩
theorem takeP_ok {D : Dev} (hok : DevOk D) (i m u : Nat) (s : ByteArray) : DevOk (takeP D i m u s).1 := by
  have hb2 := hok.batch
  have hwl := hok.wlen
  have hun := hok.uns
  unfold takeP
  split
  . exact hok
  . split
    . rename_i h0
      have hd0 : D.uns = 0 := by
        have : (if doB D (shpOf s).1 (shpOf s).2 = true then D.uns + 1 else D.uns) = 0 := h0
        split at this <;> omega
      refine ⟨hok.sz, doE_ok hok.ent (shpOf_is s), hok.kp0, hok.kp2, hok.unit, hok.batch, hok.nl, hok.lat, hok.stamp, hok.sec, hok.wlen, ?_, fun _ => hok.w0 hd0, hok.asc, fun y hy => ?_⟩
      . show (midP D s).uns <= D.wait.length
        rw [h0]; omega
      . have := hok.top y hy
        show y.1 <= ((D.arr + 1 : Nat) : Int)
        omega
    . rename_i h0
      have hFO := mid_fl (i := i) (m := m) hok (show 0 < (midP D s).uns by omega)
      split
      . exact flushP_ok hFO hok.unit hok.batch hok.nl h0
      . rename_i hbt
        refine ⟨hok.sz, hFO.ent, hok.kp0, hok.kp2, hok.unit, hok.batch, hok.nl, hok.lat, hok.stamp, hok.sec, ?_, hFO.uns, fun h => absurd h h0, hFO.asc, fun y hy => ?_⟩
        . show (D.wait ++ [ansP D i m s]).length < D.batch
          simp; omega
        . have hy' : y ∈ D.wait ++ [ansP D i m s] := hy
          rcases List.mem_append.1 hy' with hy | hy
          . have := hok.top y hy
            show y.1 <= ((D.arr + 1 : Nat) : Int)
            omega
          . rw [List.mem_singleton.1 hy]
            exact Int.le_refl _
end Go.Proofs.YtcpldcojckhapaaGreat
