/-
  
-/
import Derived.Test.YtcpldcojckhapaaGreatJ14
import Derived.Test.YtcpldcojckhapaaGreatJ13
import Derived.Test.YtcpldcojckhapaaGreatJ9
import Derived.Test.YtcpldcojckhapaaGreatJ7
set_option maxRecDepth 100000
namespace Go.Proofs.YtcpldcojckhapaaGreat
open Go.RowKit
theorem wt_dev (d L S : Nat) (E : Nat -> Nat) : ∀ g t, devT d L S E g t = false -> wtT d g t = false := fun g t h => by
  simp only [devT, wtT, Bool.or_eq_false_iff] at h ⊢
  exact ⟨h.1.1.1.1, h.2⟩
theorem dansw_step (d L S i : Nat) (E : Nat -> Nat) (wv : Value) (D : Dev) (s : ByteArray) (w : World) (h : DevIn w d L S E wv D) (hu : 0 < D.uns) (hl : D.wait.length <= 1000) (hx : ∀ y ∈ D.wait, y.1 < (D.arr : Int)) :
    Calls Tryz.prog 81 #[.pointer (some ⟨d, 0, none⟩), .int .i64 (i : Nat), .string s] w fun e w' => ∃ v, e = .returned v /\ (v = .slice none 0 0 /\ ∃ v', DevIn w' d L S E v' { D with wait := D.wait ++ [((D.arr : Int), ((i : Nat) : Int), s)] } /\ FtT D.base (wtT d) w w') :=
  (dansw_wait d L S i E wv D s w h hu hl hx).mono fun _ _ h => by obtain ⟨v', h1, h2, h3⟩ := h; exact ⟨_, h1, rfl, v', h2, h3⟩
set_option maxRecDepth 100000 in
set_option maxHeartbeats 2000000 in
theorem take_waitF (d L S i m : Nat) (E : Nat -> Nat) (wv : Value) (D : Dev) (s r : ByteArray) (f : Nat -> Nat -> Int) (w : World) (h : DevIn w d L S E wv D) (hi : i < D.nl) (hk : (D.ln i).kind = 0) (hm : m < 65536) (hun : D.unit < 256) (ha : D.arr <= 1000000) (hr : r.size <= 253) (hdo : DoIs d L S E wv D s r false f) (hu : 0 < D.uns) (hwl : D.wait.length + 1 < D.batch) (hub : D.uns < D.batch) (hx : ∀ y ∈ D.wait, y.1 < ((D.arr + 1 : Nat) : Int)) (hw1 : D.wait.length <= 1000) (_hbb : D.batch <= 1000) :
    Calls Tryz.prog 57 #[.pointer (some ⟨d, 0, none⟩), .int .i64 (i : Nat), .agg #[.int .i64 (m : Nat), .int .i64 (D.unit : Nat), .string s]] w fun e w' => ∃ v', e = .returned (.slice none 0 0) /\ DevIn w' d L S E v' { D with arr := D.arr + 1, ent := f, wait := D.wait ++ [(((D.arr + 1 : Nat) : Int), ((i : Nat) : Int), streamB m D.unit r)] } /\ FtT D.base (devT d L S E) w w' := by
  obtain ⟨aw, cw, rfl, _⟩ := own_view h.wait
  obtain ⟨c0, c1, c2, c11, c12, c13, c14, cf, hdl⟩ := h.cells
  obtain ⟨W, hW⟩ : ∃ W, W = w.alloc (.cells #[.int .i64 (m : Nat), .int .i64 (D.unit : Nat), .string s] 94) := ⟨_, rfl⟩
  have hWb : Below w.heap.size w W := by rw [hW]; exact bel_alloc (Below.refl _ _) _
  have hWg : W.heap[w.heap.size]? = some (.cells #[.int .i64 (m : Nat), .int .i64 (D.unit : Nat), .string s] 94 (0, 0)) := by rw [hW]; exact heap_alloc_new w _
  have hWl : W.heap.size = w.heap.size + 1 := by rw [hW]; simp
  have HH := hideF h
  have HWb := hideF hWb
  have HWg := hideF hWg
  have HDO := hideF hdo
  have HXX := hideF hx
  clear h hWb hWg hdo hx
  go_enter Tryz.func57, Tryz.ntmps57
  go_wp2_with fail
  rw [<- hW]
  clear hW
  refine (newRequest_any s W).mono ?_
  rintro e w1 ⟨x, v, k, rfl, hown, hsh, hlen, hb⟩
  unfold reqV
  obtain ⟨av, cv, rfl, _⟩ := own_view hown
  obtain ⟨X, hX⟩ : ∃ X, X = w1.alloc (.cells #[.string s, .int .i64 (x.fn : Nat), .int .i64 (x.tab : Nat), .int .i64 (x.frm : Nat), .int .i64 (x.cnt : Nat), .int .i64 (x.into : Nat), .int .i64 (x.to : Nat), .int .i64 (x.many : Nat), .slice av x.vals.length cv, .int .u8 (k : Nat)] 146) := ⟨_, rfl⟩
  have hX1 : Below w1.heap.size w1 X := by rw [hX]; exact bel_alloc (Below.refl _ _) _
  have hXb : Below w.heap.size w X := bel_then (bel_then HWb.out hb) hX1
  have hXg : X.heap[w.heap.size]? = some (.cells #[.int .i64 (m : Nat), .int .i64 (D.unit : Nat), .string s] 94 (0, 0)) := (hX1.block _ (by have := hb.size; omega)).trans ((hb.block _ (by omega)).trans HWg.out)
  have hXr : X.heap[w1.heap.size]? = some (.cells #[.string s, .int .i64 (x.fn : Nat), .int .i64 (x.tab : Nat), .int .i64 (x.frm : Nat), .int .i64 (x.cnt : Nat), .int .i64 (x.into : Nat), .int .i64 (x.to : Nat), .int .i64 (x.many : Nat), .slice av x.vals.length cv, .int .u8 (k : Nat)] 146 (0, 0)) := by rw [hX]; exact heap_alloc_new w1 _
  have HXO := hideF (ownsRow_below hown hX1)
  have HXb := hideF hXb
  have HXg := hideF hXg
  have HXr := hideF hXr
  have hsz1 : w.heap.size < w1.heap.size := by have := hb.size; omega
  have HSH := hideF hsh
  have HD := hideF (HH.out.belowQ hXb)
  clear c0 c1 c2 c11 c12 c13 c14 cf hown hsh hb hX1
  obtain ⟨c0, c1, c2, c11, c12, c13, c14, cf, hdX⟩ := HD.out.cells
  obtain ⟨g0, g1, g2, gf⟩ := cells3f hXg
  clear hXb hXg hXr
  go_wp2_with fail
  rw [<- hX]
  clear hX
  go_quiet (fail)
  obtain ⟨Y, hY⟩ : ∃ Y, Y = X.drewN nq := ⟨_, rfl⟩
  have hYb : Below X.heap.size X Y := by rw [hY]; exact below_drewN (Below.refl _ _) _
  rw [<- hY]
  clear hY
  have HYb := hideF (bel_then HXb.out hYb)
  have hYg := (hYb.block _ (lt_of_block HXg.out)).trans HXg.out
  have hYr := (hYb.block _ (lt_of_block HXr.out)).trans HXr.out
  have HYO := hideF (ownsRow_below HXO.out hYb)
  have HYD := hideF (HD.out.belowQ hYb)
  have HYg := hideF hYg
  have HYr := hideF hYr
  clear c0 c1 c2 c11 c12 c13 c14 cf g0 g1 g2 gf hdX HXb HXg HXr HXO HD
  obtain ⟨c0, c1, c2, c11, c12, c13, c14, cf, hdY⟩ := HYD.out.cells
  clear hYb hYg hYr
  go_wp2_with fail
  obtain ⟨Z, hZ⟩ : ∃ Z, Z = (Y.setCell ⟨d, 12, none⟩ (.int .i64 ((D.arr : Int) + 1))).drew := ⟨_, rfl⟩
  have hdg : d ≠ w.heap.size := by omega
  have hdr : d ≠ w1.heap.size := by omega
  have HZD : Hid (DevIn Z d L S E (.slice aw D.wait.length cw) { D with arr := D.arr + 1 }) := by
    rw [hZ]
    have := (HYD.out.setArr (D.arr + 1)).drewN 1
    rw [show ((D.arr + 1 : Nat) : Int) = (D.arr : Int) + 1 by omega] at this
    exact this
  have hZr : Z.heap[w1.heap.size]? = Y.heap[w1.heap.size]? := by rw [hZ]; exact heap_setCell_other Y ⟨d, 12, none⟩ w1.heap.size _ (by simpa using fun e => hdr e.symm)
  have hZg : Z.heap[w.heap.size]? = Y.heap[w.heap.size]? := by rw [hZ]; exact heap_setCell_other Y ⟨d, 12, none⟩ w.heap.size _ (by simpa using fun e => hdg e.symm)
  have HZr := hideF (hZr.trans HYr.out)
  have HZg := hideF (hZg.trans HYg.out)
  have HZO : Hid (Z.ownsRow W.heap.size 3 1 (.slice av x.vals.length cv) x.vals.length (x.vals.flatMap encI)) := by
    rw [hZ]
    exact own_drew (own_same HYO.out (fun g hg => heap_setCell_other Y ⟨d, 12, none⟩ g _ (by have := (HYO.out.lt g hg).1; simp; omega)))
  have HZF : Hid (FtT D.base (devT d L S E) w Z) := by
    rw [hZ]
    exact ((FtT.of_below (devT d L S E) HYb.out).setCell HYD.out.dev (devT_d _ _ _ _) HYD.out.lo.1 _ _).drewN 1
  have HDO2 : Hid (Calls Tryz.prog 80 #[.agg #[.string s, .int .i64 (x.fn : Nat), .int .i64 (x.tab : Nat), .int .i64 (x.frm : Nat), .int .i64 (x.cnt : Nat), .int .i64 (x.into : Nat), .int .i64 (x.to : Nat), .int .i64 (x.many : Nat), .slice av x.vals.length cv, .int .u8 (k : Nat)], .pointer (some ⟨d, 3, none⟩)] ((Y.setCell ⟨d, 12, none⟩ (.int .i64 ((D.arr : Int) + 1))).drew) fun e w' => ∃ v, e = .returned v /\ (v = .tuple #[.string r, .bool false] /\ DevIn w' d L S E (.slice aw D.wait.length cw) { D with arr := D.arr + 1, ent := f } /\ ∃ j, j < 4 /\ Chg1 (E j) Z w')) := by
    rw [<- hZ]
    exact (HDO.out x _ k _ Z HSH.out HZD.out HZO.out).mono fun e w' h => ⟨_, h.1, rfl, h.2.1, h.2.2⟩
  obtain ⟨r0, r1, r2, r3, r4, r5, r6, r7, r8, r9⟩ := cells10 HYr.out
  have hsY := HYb.out.size
  have HZs : Hid (Y.heap.size = Z.heap.size) := by rw [hZ]; show _ = _; simp
  clear hZ hZr hZg
  go_region_law (first
    | (refine step_call rfl 80 #[.tmp 45, .tmp 48] #[146, 151] rfl #[.agg #[.string s, .int .i64 (x.fn : Nat), .int .i64 (x.tab : Nat), .int .i64 (x.frm : Nat), .int .i64 (x.cnt : Nat), .int .i64 (x.into : Nat), .int .i64 (x.to : Nat), .int .i64 (x.many : Nat), .slice av x.vals.length cv, .int .u8 (k : Nat)], .pointer (some ⟨d, 3, none⟩)] (by simp [Act.eval]) (enter81 _ _ _) _ HDO2.out ?_; rintro vv w4 ⟨rfl, hd4, j4, hj4, hc4⟩))
  all_goals
    obtain ⟨ce, hce⟩ := (HZD.out.ent j4 hj4).block
    have hEj := (HH.out.ent j4 hj4).lt
    have HF4 := hideF (HZF.out.trans (FtT.chg hc4 hce (devT_E _ _ _ _ _ hj4) (HZD.out.lo.2.2.2 j4 hj4)))
    have hg4 := (hc4.block w.heap.size (lt_of_block HZg.out) (by omega)).trans HZg.out
    have HD4 := hideF hd4
    have hs4 : w.heap.size < w4.heap.size := lt_of_block hg4
    have HG4 := hideF hg4
    clear c0 c1 c2 c11 c12 c13 c14 cf r0 r1 r2 r3 r4 r5 r6 r7 r8 r9 hce hc4 hd4 HYb HYD HYg HYr HYO HZD HZr HZg HZO HZF HDO2 HZs
    obtain ⟨c0, c1, c2, c11, c12, c13, c14, cf, hd4⟩ := HD4.out.cells
    obtain ⟨g0, g1, g2, gf⟩ := cells3f hg4
    clear hg4
    go_wp2_with fail
    go_quiet (fail)
    obtain ⟨V, hV⟩ : ∃ V, V = w4.drewN nq := ⟨_, rfl⟩
    have hVb : Below w4.heap.size w4 V := by rw [hV]; exact below_drewN (Below.refl _ _) _
    rw [<- hV]
    clear hV
    have HDV := hideF (HD4.out.belowQ hVb)
    have hgV := (hVb.block _ hs4).trans HG4.out
    have HFV := hideF (HF4.out.then_below hVb)
    have HGV := hideF hgV
    have hsV := lt_of_block hgV
    clear c0 c1 c2 c11 c12 c13 c14 cf g0 g1 g2 gf hVb HD4 HG4 HF4 hd4
    obtain ⟨c0, c1, c2, c11, c12, c13, c14, cf, hdV⟩ := HDV.out.cells
    obtain ⟨g0, g1, g2, gf⟩ := cells3f hgV
    clear hgV
    go_wp2_with fail
    obtain ⟨U, hU⟩ : ∃ U, U = V.setCell ⟨w.heap.size, 2, none⟩ (.string r) := ⟨_, rfl⟩
    have HDU : Hid (DevIn U d L S E (.slice aw D.wait.length cw) { D with arr := D.arr + 1, ent := f }) := by rw [hU]; exact HDV.out.keep ((FtT.refl (B := 0) (fun _ t => t == 94) V).setCell HGV.out rfl (Nat.zero_le _) _ _) (fun _ => rfl) (fun _ => rfl) (fun _ => rfl) (fun _ => rfl) (fun _ => rfl)
    have HFU : Hid (FtT D.base (devT d L S E) w U) := by rw [hU]; exact HFV.out.setNew _ _ (Nat.le_refl _) _
    have hgU : U.heap[w.heap.size]? = some (.cells #[.int .i64 (m : Nat), .int .i64 (D.unit : Nat), .string r] 94 (0, 0)) := by rw [hU]; exact heap_setCell_same V _ 2 _ 94 (.string r) HGV.out
    rw [<- hU]
    clear hU c0 c1 c2 c11 c12 c13 c14 cf g0 g1 g2 gf HDV HGV HFV hsV hdV
    obtain ⟨c0, c1, c2, c11, c12, c13, c14, cf, hdU⟩ := HDU.out.cells
    obtain ⟨g0, g1, g2, gf⟩ := cells3f hgU
    have hsU := lt_of_block hgU
    clear hgU
    have hiI : (i : Int) < (D.nl : Int) := by omega
    have HFR : Hid (Calls Tryz.prog 82 #[.pointer (some ⟨L, i * 3, none⟩), .agg #[.int .i64 (m : Nat), .int .i64 (D.unit : Nat), .string r]] U.drew fun e w' => ∃ v, e = .returned v /\ (v = .string (streamB m D.unit r) /\ Below U.drew.heap.size U.drew w')) := (framed_stream L i D.nl m D.unit r D.ln U.drew (HDU.out.drewN 1).lines hi hk hm hun hr).mono fun e w' h => ⟨_, h.1, rfl, h.2⟩
    go_region_law (first
      | (refine step_call rfl 82 #[.tmp 76, .tmp 77] #[116, 94] rfl #[.pointer (some ⟨L, i * 3, none⟩), .agg #[.int .i64 (m : Nat), .int .i64 (D.unit : Nat), .string r]] (by simp [Act.eval, Act.put]) (enter83 _ _ _) _ HFR.out ?_; rintro vv w5 ⟨rfl, hb5⟩; have hd5 := (HDU.out.drewN 1).belowQ hb5)
      | (refine step_call rfl 81 #[.tmp 69, .tmp 70, .tmp 78] #[49, 3, 9] rfl #[.pointer (some ⟨d, 0, none⟩), .int .i64 (i : Nat), .string (streamB m D.unit r)] (by simp [Act.eval]) (enter82 _ _ _ _) _ (dansw_step d L S i E _ _ (streamB m D.unit r) _ hd5 (by first | exact Nat.succ_pos _ | exact hu) hw1 HXX.out) ?_; rintro vv w6 ⟨rfl, v6, hd6, hf6⟩))
    all_goals
      have HF6 := hideF ((HFU.out.then_below (below_then_drew1 hb5)).trans (hf6.mono (wt_dev _ _ _ _)))
      have HD6 := hideF hd6
      obtain ⟨a6, k6, rfl, _⟩ := own_view hd6.wait
      clear c0 c1 c2 c11 c12 c13 c14 cf g0 g1 g2 gf hb5 hd6 hf6 hd5 HFR
      obtain ⟨c0, c1, c2, c11, c12, c13, c14, cf, hd6⟩ := HD6.out.cells
      simp only [List.length_append, List.length_singleton] at c14
      have q1 : decide ((D.batch : Int) <= ((D.wait.length + 1 : Nat) : Int)) = false := by simp; omega
      have q2 : decide ((D.batch : Int) <= (D.uns : Int)) = false := by simp; omega
      have q3 : decide ((D.batch : Int) <= (D.wait.length : Int) + 1) = false := by simp; omega
      go_wp2_with fail
      go_quiet (fail)
      go_wp2
      go_ret
      exact ⟨_, rfl, HD6.out.drewN _, HF6.out.drewN _⟩
end Go.Proofs.YtcpldcojckhapaaGreat

set_option maxRecDepth 100000
namespace Go.Proofs.YtcpldcojckhapaaGreat
open Go.RowKit
theorem enter59 (x y : Value) (w : World) : (callFunc 58 #[x, y]).run Tryz.prog w = .ok (.enter 58 #[x, y]) w := by kernel_rfl
theorem enter60 (x : Value) (w : World) : (callFunc 59 #[x]).run Tryz.prog w = .ok (.enter 59 #[x]) w := by kernel_rfl
theorem DevIn.saved {w w' : World} {d L S : Nat} {E : Nat -> Nat} {wv : Value} {D : Dev} {lat st : Nat} (h : DevIn w d L S E wv D) (hc : Chg1 S w w') (hS : w'.heap[S]? = some (.cells #[.int .i64 (D.sec : Nat), .int .i64 (lat : Nat), .int .u8 (st : Nat)] 155 (0, 0))) : DevIn w' d L S E wv { D with lat := lat, stamp := st } := by
  obtain ⟨cl, hcl⟩ := h.lines.block
  refine ⟨(hc.block d (lt_of_block h.dev) (ne_of_types h.dev h.store (by decide))).trans h.dev, h.lines.same (hc.block L (lt_of_block hcl) (ne_of_types hcl h.store (by decide))), fun i hi => ?_, h.inj, hS, own_same h.wait (fun g hg => ?_), h.lo⟩
  . obtain ⟨ce, hce⟩ := (h.ent i hi).block
    exact (h.ent i hi).same (hc.block (E i) (lt_of_block hce) (ne_of_types hce h.store (by decide)))
  . obtain ⟨cg, hcg⟩ := own_block h.wait g hg
    exact hc.block g (lt_of_block hcg) (ne_of_types hcg h.store (by decide))
theorem saveA_len (sec lat st : Nat) (d : ByteArray) : (saveA sec lat st d).length = sec + 1 := by simp [saveA]
end Go.Proofs.YtcpldcojckhapaaGreat

set_option maxRecDepth 100000
namespace Go.Proofs.YtcpldcojckhapaaGreat
def left (ws : Nat -> Nat) : Nat -> List Nat
  | 0 => List.replicate 8 0
  | j + 1 => (left ws j).set (ws j) (j + 1)
structure Ds where
  dk : Nat -> ByteArray
  wet : List (Int × Int × Int × ByteArray)
  told : Nat
def putD (f : Nat -> ByteArray) (a : Int × Int × Int × ByteArray) : Nat -> ByteArray := fun i => if i = a.2.1.toNat then a.2.2.2 else f i
def stepD (s : Ds) (a : Int × Int × Int × ByteArray) : Ds :=
  if a.1 = 0 then { s with wet := s.wet ++ [a] } else if a.1 = 1 then { s with dk := s.wet.foldl putD s.dk, wet := [] } else { s with told := s.told + 1 }
theorem byt_bytesOf (l : List Int) (k : Nat) : Pl.byt (bytesOf l) k = (l.getD k 0).toNat % 256 := by
  rw [byt_listQ]
  unfold bytesOf
  rw [List.getD_eq_getElem?_getD, List.getD_eq_getElem?_getD, List.getElem?_map]
  cases l[k]? with
  | none => rfl
  | some x => simp
theorem bytesOf_size (l : List Int) : (bytesOf l).size = l.length := by simp [bytesOf, ByteArray.size]
theorem secB_size (st : Nat) (d : ByteArray) : (secB st d).size = 64 := by unfold secB; rw [bytesOf_size, secI_len]
theorem secB_0 (st : Nat) (d : ByteArray) : Pl.byt (secB st d) 0 = st % 256 := by unfold secB; rw [byt_bytesOf]; simp [secI]
theorem secB_63 (st : Nat) (d : ByteArray) : Pl.byt (secB st d) 63 = st % 256 := by
  unfold secB; rw [byt_bytesOf]
  have : (secI st d).getD 63 0 = (st : Int) := by
    unfold secI
    rw [List.getD_eq_getElem?_getD, List.getElem?_append_right (by simp [padI])]
    simp [padI]
  rw [this]; simp
theorem secB_in (st : Nat) (d : ByteArray) (k : Nat) (h : k < 62) : Pl.byt (secB st d) (1 + k) = Pl.byt d k := by
  unfold secB; rw [byt_bytesOf]
  have : (secI st d).getD (1 + k) 0 = ((Pl.byt d k : Nat) : Int) := by
    unfold secI
    rw [List.getD_eq_getElem?_getD, List.getElem?_append_left (by simp [padI]; omega), List.getElem?_append_right (by simp)]
    simp [padI, h]
  rw [this]
  have := Pl.byt_lt d k
  simp; omega
theorem wordsI_at (l : List Nat) : ∀ k, k < l.length -> (wordsI l).getD (2 * k) 0 = ((l.getD k 0 / 256 : Nat) : Int) /\ (wordsI l).getD (2 * k + 1) 0 = ((l.getD k 0 % 256 : Nat) : Int) := by
  induction l with
  | nil => intro k hk; simp at hk
  | cons x l ih =>
    intro k hk
    have e : wordsI (x :: l) = ((x / 256 : Nat) : Int) :: ((x % 256 : Nat) : Int) :: wordsI l := rfl
    rw [e]
    cases k with
    | zero => exact ⟨rfl, rfl⟩
    | succ k =>
      have := ih k (by simpa using hk)
      have e2 : 2 * (k + 1) = 2 * k + 1 + 1 := by omega
      rw [e2]
      simpa using this
theorem wd_wordsB (l : List Nat) (h16 : ∀ x ∈ l, x < 65536) (k : Nat) (hk : k < l.length) : Pl.wd (wordsB l) (2 * k) = l.getD k 0 := by
  obtain ⟨h1, h2⟩ := wordsI_at l k hk
  unfold Pl.wd wordsB
  rw [byt_bytesOf, byt_bytesOf, h1, h2]
  have : l.getD k 0 < 65536 := by
    rw [List.getD_eq_getElem?_getD, List.getElem?_eq_getElem hk]
    exact h16 _ (List.getElem_mem hk)
  simp only [Int.toNat_natCast]
  omega
theorem tells (l : List (Int × Int × Int × ByteArray)) : ∀ (s : Ds), (∀ a ∈ l, a.1 = 2) -> l.foldl stepD s = { s with told := s.told + l.length } := by
  induction l with
  | nil => intro s _; rfl
  | cons a l ih =>
    intro s h
    have h2 : a.1 = 2 := h a (by simp)
    have e : stepD s a = { s with told := s.told + 1 } := by unfold stepD; rw [if_neg (by omega), if_neg (by omega)]
    rw [List.foldl_cons, e, ih _ (fun b hb => h b (by simp [hb]))]
    simp only [List.length_cons]
    rw [show s.told + 1 + l.length = s.told + (l.length + 1) by omega]
end Go.Proofs.YtcpldcojckhapaaGreat

set_option maxRecDepth 100000
namespace Go.Proofs.YtcpldcojckhapaaGreat
open Go.RowKit
set_option maxRecDepth 100000 in
set_option maxHeartbeats 2000000 in
theorem take_waitT (d L S i m : Nat) (E : Nat -> Nat) (wv : Value) (D : Dev) (s r : ByteArray) (f : Nat -> Nat -> Int) (w : World) (h : DevIn w d L S E wv D) (hi : i < D.nl) (hk : (D.ln i).kind = 0) (hm : m < 65536) (hun : D.unit < 256) (ha : D.arr <= 1000000) (hr : r.size <= 253) (hdo : DoIs d L S E wv D s r true f) (hwl : D.wait.length + 1 < D.batch) (hub : D.uns + 1 < D.batch) (hx : ∀ y ∈ D.wait, y.1 < ((D.arr + 1 : Nat) : Int)) (hw1 : D.wait.length <= 1000) (hbb : D.batch <= 1000) :
    Calls Tryz.prog 57 #[.pointer (some ⟨d, 0, none⟩), .int .i64 (i : Nat), .agg #[.int .i64 (m : Nat), .int .i64 (D.unit : Nat), .string s]] w fun e w' => ∃ v', e = .returned (.slice none 0 0) /\ DevIn w' d L S E v' { D with arr := D.arr + 1, ent := f, uns := D.uns + 1, wait := D.wait ++ [(((D.arr + 1 : Nat) : Int), ((i : Nat) : Int), streamB m D.unit r)] } /\ FtT D.base (devT d L S E) w w' := by
  obtain ⟨aw, cw, rfl, _⟩ := own_view h.wait
  obtain ⟨c0, c1, c2, c11, c12, c13, c14, cf, hdl⟩ := h.cells
  obtain ⟨W, hW⟩ : ∃ W, W = w.alloc (.cells #[.int .i64 (m : Nat), .int .i64 (D.unit : Nat), .string s] 94) := ⟨_, rfl⟩
  have hWb : Below w.heap.size w W := by rw [hW]; exact bel_alloc (Below.refl _ _) _
  have hWg : W.heap[w.heap.size]? = some (.cells #[.int .i64 (m : Nat), .int .i64 (D.unit : Nat), .string s] 94 (0, 0)) := by rw [hW]; exact heap_alloc_new w _
  have hWl : W.heap.size = w.heap.size + 1 := by rw [hW]; simp
  have HH := hideF h
  have HWb := hideF hWb
  have HWg := hideF hWg
  have HDO := hideF hdo
  have HXX := hideF hx
  clear h hWb hWg hdo hx
  go_enter Tryz.func57, Tryz.ntmps57
  go_wp2_with fail
  rw [<- hW]
  clear hW
  refine (newRequest_any s W).mono ?_
  rintro e w1 ⟨x, v, k, rfl, hown, hsh, hlen, hb⟩
  unfold reqV
  obtain ⟨av, cv, rfl, _⟩ := own_view hown
  obtain ⟨X, hX⟩ : ∃ X, X = w1.alloc (.cells #[.string s, .int .i64 (x.fn : Nat), .int .i64 (x.tab : Nat), .int .i64 (x.frm : Nat), .int .i64 (x.cnt : Nat), .int .i64 (x.into : Nat), .int .i64 (x.to : Nat), .int .i64 (x.many : Nat), .slice av x.vals.length cv, .int .u8 (k : Nat)] 146) := ⟨_, rfl⟩
  have hX1 : Below w1.heap.size w1 X := by rw [hX]; exact bel_alloc (Below.refl _ _) _
  have hXb : Below w.heap.size w X := bel_then (bel_then HWb.out hb) hX1
  have hXg : X.heap[w.heap.size]? = some (.cells #[.int .i64 (m : Nat), .int .i64 (D.unit : Nat), .string s] 94 (0, 0)) := (hX1.block _ (by have := hb.size; omega)).trans ((hb.block _ (by omega)).trans HWg.out)
  have hXr : X.heap[w1.heap.size]? = some (.cells #[.string s, .int .i64 (x.fn : Nat), .int .i64 (x.tab : Nat), .int .i64 (x.frm : Nat), .int .i64 (x.cnt : Nat), .int .i64 (x.into : Nat), .int .i64 (x.to : Nat), .int .i64 (x.many : Nat), .slice av x.vals.length cv, .int .u8 (k : Nat)] 146 (0, 0)) := by rw [hX]; exact heap_alloc_new w1 _
  have HXO := hideF (ownsRow_below hown hX1)
  have HXb := hideF hXb
  have HXg := hideF hXg
  have HXr := hideF hXr
  have hsz1 : w.heap.size < w1.heap.size := by have := hb.size; omega
  have HSH := hideF hsh
  have HD := hideF (HH.out.belowQ hXb)
  clear c0 c1 c2 c11 c12 c13 c14 cf hown hsh hb hX1
  obtain ⟨c0, c1, c2, c11, c12, c13, c14, cf, hdX⟩ := HD.out.cells
  obtain ⟨g0, g1, g2, gf⟩ := cells3f hXg
  clear hXb hXg hXr
  go_wp2_with fail
  rw [<- hX]
  clear hX
  go_quiet (fail)
  obtain ⟨Y, hY⟩ : ∃ Y, Y = X.drewN nq := ⟨_, rfl⟩
  have hYb : Below X.heap.size X Y := by rw [hY]; exact below_drewN (Below.refl _ _) _
  rw [<- hY]
  clear hY
  have HYb := hideF (bel_then HXb.out hYb)
  have hYg := (hYb.block _ (lt_of_block HXg.out)).trans HXg.out
  have hYr := (hYb.block _ (lt_of_block HXr.out)).trans HXr.out
  have HYO := hideF (ownsRow_below HXO.out hYb)
  have HYD := hideF (HD.out.belowQ hYb)
  have HYg := hideF hYg
  have HYr := hideF hYr
  clear c0 c1 c2 c11 c12 c13 c14 cf g0 g1 g2 gf hdX HXb HXg HXr HXO HD
  obtain ⟨c0, c1, c2, c11, c12, c13, c14, cf, hdY⟩ := HYD.out.cells
  clear hYb hYg hYr
  go_wp2_with fail
  obtain ⟨Z, hZ⟩ : ∃ Z, Z = (Y.setCell ⟨d, 12, none⟩ (.int .i64 ((D.arr : Int) + 1))).drew := ⟨_, rfl⟩
  have hdg : d ≠ w.heap.size := by omega
  have hdr : d ≠ w1.heap.size := by omega
  have HZD : Hid (DevIn Z d L S E (.slice aw D.wait.length cw) { D with arr := D.arr + 1 }) := by
    rw [hZ]
    have := (HYD.out.setArr (D.arr + 1)).drewN 1
    rw [show ((D.arr + 1 : Nat) : Int) = (D.arr : Int) + 1 by omega] at this
    exact this
  have hZr : Z.heap[w1.heap.size]? = Y.heap[w1.heap.size]? := by rw [hZ]; exact heap_setCell_other Y ⟨d, 12, none⟩ w1.heap.size _ (by simpa using fun e => hdr e.symm)
  have hZg : Z.heap[w.heap.size]? = Y.heap[w.heap.size]? := by rw [hZ]; exact heap_setCell_other Y ⟨d, 12, none⟩ w.heap.size _ (by simpa using fun e => hdg e.symm)
  have HZr := hideF (hZr.trans HYr.out)
  have HZg := hideF (hZg.trans HYg.out)
  have HZO : Hid (Z.ownsRow W.heap.size 3 1 (.slice av x.vals.length cv) x.vals.length (x.vals.flatMap encI)) := by
    rw [hZ]
    exact own_drew (own_same HYO.out (fun g hg => heap_setCell_other Y ⟨d, 12, none⟩ g _ (by have := (HYO.out.lt g hg).1; simp; omega)))
  have HZF : Hid (FtT D.base (devT d L S E) w Z) := by
    rw [hZ]
    exact ((FtT.of_below (devT d L S E) HYb.out).setCell HYD.out.dev (devT_d _ _ _ _) HYD.out.lo.1 _ _).drewN 1
  have HDO2 : Hid (Calls Tryz.prog 80 #[.agg #[.string s, .int .i64 (x.fn : Nat), .int .i64 (x.tab : Nat), .int .i64 (x.frm : Nat), .int .i64 (x.cnt : Nat), .int .i64 (x.into : Nat), .int .i64 (x.to : Nat), .int .i64 (x.many : Nat), .slice av x.vals.length cv, .int .u8 (k : Nat)], .pointer (some ⟨d, 3, none⟩)] ((Y.setCell ⟨d, 12, none⟩ (.int .i64 ((D.arr : Int) + 1))).drew) fun e w' => ∃ v, e = .returned v /\ (v = .tuple #[.string r, .bool true] /\ DevIn w' d L S E (.slice aw D.wait.length cw) { D with arr := D.arr + 1, ent := f } /\ ∃ j, j < 4 /\ Chg1 (E j) Z w')) := by
    rw [<- hZ]
    exact (HDO.out x _ k _ Z HSH.out HZD.out HZO.out).mono fun e w' h => ⟨_, h.1, rfl, h.2.1, h.2.2⟩
  obtain ⟨r0, r1, r2, r3, r4, r5, r6, r7, r8, r9⟩ := cells10 HYr.out
  have hsY := HYb.out.size
  have HZs : Hid (Y.heap.size = Z.heap.size) := by rw [hZ]; show _ = _; simp
  clear hZ hZr hZg
  go_region_law (first
    | (refine step_call rfl 80 #[.tmp 45, .tmp 48] #[146, 151] rfl #[.agg #[.string s, .int .i64 (x.fn : Nat), .int .i64 (x.tab : Nat), .int .i64 (x.frm : Nat), .int .i64 (x.cnt : Nat), .int .i64 (x.into : Nat), .int .i64 (x.to : Nat), .int .i64 (x.many : Nat), .slice av x.vals.length cv, .int .u8 (k : Nat)], .pointer (some ⟨d, 3, none⟩)] (by simp [Act.eval]) (enter81 _ _ _) _ HDO2.out ?_; rintro vv w4 ⟨rfl, hd4, j4, hj4, hc4⟩))
  all_goals
    obtain ⟨ce, hce⟩ := (HZD.out.ent j4 hj4).block
    have hEj := (HH.out.ent j4 hj4).lt
    have HF4 := hideF (HZF.out.trans (FtT.chg hc4 hce (devT_E _ _ _ _ _ hj4) (HZD.out.lo.2.2.2 j4 hj4)))
    have hg4 := (hc4.block w.heap.size (lt_of_block HZg.out) (by omega)).trans HZg.out
    have HD4 := hideF hd4
    have hs4 : w.heap.size < w4.heap.size := lt_of_block hg4
    have HG4 := hideF hg4
    clear c0 c1 c2 c11 c12 c13 c14 cf r0 r1 r2 r3 r4 r5 r6 r7 r8 r9 hce hc4 hd4 HYb HYD HYg HYr HYO HZD HZr HZg HZO HZF HDO2 HZs
    obtain ⟨c0, c1, c2, c11, c12, c13, c14, cf, hd4⟩ := HD4.out.cells
    obtain ⟨g0, g1, g2, gf⟩ := cells3f hg4
    clear hg4
    go_wp2_with fail
    obtain ⟨w8, hw8⟩ : ∃ w8, w8 = w4.setCell ⟨d, 13, none⟩ (.int .i64 ((D.uns : Int) + 1)) := ⟨_, rfl⟩
    have HD8 : Hid (DevIn w8 d L S E (.slice aw D.wait.length cw) { D with arr := D.arr + 1, ent := f, uns := D.uns + 1 }) := by
      rw [hw8]
      have := HD4.out.setUns (D.uns + 1)
      rw [show ((D.uns + 1 : Nat) : Int) = (D.uns : Int) + 1 by omega] at this
      exact this
    have HF8 : Hid (FtT D.base (devT d L S E) w w8) := by rw [hw8]; exact HF4.out.setCell HD4.out.dev (devT_d _ _ _ _) HD4.out.lo.1 _ _
    have HG8 : Hid (w8.heap[w.heap.size]? = _) := (by rw [hw8]; exact heap_setCell_other w4 ⟨d, 13, none⟩ w.heap.size _ (by simpa using fun e => hdg e.symm) : w8.heap[w.heap.size]? = w4.heap[w.heap.size]?).trans HG4.out
    rw [<- hw8]
    have hs8 : w.heap.size < w8.heap.size := lt_of_block HG8.out
    clear hw8 c0 c1 c2 c11 c12 c13 c14 cf g0 g1 g2 gf HD4 HF4 HG4 hd4
    obtain ⟨c0, c1, c2, c11, c12, c13, c14, cf, hd4⟩ := HD8.out.cells
    obtain ⟨g0, g1, g2, gf⟩ := cells3f HG8.out
    go_quiet (fail)
    obtain ⟨V, hV⟩ : ∃ V, V = w8.drewN nq := ⟨_, rfl⟩
    have hVb : Below w8.heap.size w8 V := by rw [hV]; exact below_drewN (Below.refl _ _) _
    rw [<- hV]
    clear hV
    have HDV := hideF (HD8.out.belowQ hVb)
    have hgV := (hVb.block _ hs8).trans HG8.out
    have HFV := hideF (HF8.out.then_below hVb)
    have HGV := hideF hgV
    have hsV := lt_of_block hgV
    clear c0 c1 c2 c11 c12 c13 c14 cf g0 g1 g2 gf hVb HD8 HG8 HF8 hd4
    obtain ⟨c0, c1, c2, c11, c12, c13, c14, cf, hdV⟩ := HDV.out.cells
    obtain ⟨g0, g1, g2, gf⟩ := cells3f hgV
    clear hgV
    go_wp2_with fail
    obtain ⟨U, hU⟩ : ∃ U, U = V.setCell ⟨w.heap.size, 2, none⟩ (.string r) := ⟨_, rfl⟩
    have HDU : Hid (DevIn U d L S E (.slice aw D.wait.length cw) { D with arr := D.arr + 1, ent := f, uns := D.uns + 1 }) := by rw [hU]; exact HDV.out.keep ((FtT.refl (B := 0) (fun _ t => t == 94) V).setCell HGV.out rfl (Nat.zero_le _) _ _) (fun _ => rfl) (fun _ => rfl) (fun _ => rfl) (fun _ => rfl) (fun _ => rfl)
    have HFU : Hid (FtT D.base (devT d L S E) w U) := by rw [hU]; exact HFV.out.setNew _ _ (Nat.le_refl _) _
    have hgU : U.heap[w.heap.size]? = some (.cells #[.int .i64 (m : Nat), .int .i64 (D.unit : Nat), .string r] 94 (0, 0)) := by rw [hU]; exact heap_setCell_same V _ 2 _ 94 (.string r) HGV.out
    rw [<- hU]
    clear hU c0 c1 c2 c11 c12 c13 c14 cf g0 g1 g2 gf HDV HGV HFV hsV hdV
    obtain ⟨c0, c1, c2, c11, c12, c13, c14, cf, hdU⟩ := HDU.out.cells
    obtain ⟨g0, g1, g2, gf⟩ := cells3f hgU
    have hsU := lt_of_block hgU
    clear hgU
    have hiI : (i : Int) < (D.nl : Int) := by omega
    have HFR : Hid (Calls Tryz.prog 82 #[.pointer (some ⟨L, i * 3, none⟩), .agg #[.int .i64 (m : Nat), .int .i64 (D.unit : Nat), .string r]] U.drew fun e w' => ∃ v, e = .returned v /\ (v = .string (streamB m D.unit r) /\ Below U.drew.heap.size U.drew w')) := (framed_stream L i D.nl m D.unit r D.ln U.drew (HDU.out.drewN 1).lines hi hk hm hun hr).mono fun e w' h => ⟨_, h.1, rfl, h.2⟩
    go_region_law (first
      | (refine step_call rfl 82 #[.tmp 76, .tmp 77] #[116, 94] rfl #[.pointer (some ⟨L, i * 3, none⟩), .agg #[.int .i64 (m : Nat), .int .i64 (D.unit : Nat), .string r]] (by simp [Act.eval, Act.put]) (enter83 _ _ _) _ HFR.out ?_; rintro vv w5 ⟨rfl, hb5⟩; have hd5 := (HDU.out.drewN 1).belowQ hb5)
      | (refine step_call rfl 81 #[.tmp 69, .tmp 70, .tmp 78] #[49, 3, 9] rfl #[.pointer (some ⟨d, 0, none⟩), .int .i64 (i : Nat), .string (streamB m D.unit r)] (by simp [Act.eval]) (enter82 _ _ _ _) _ (dansw_step d L S i E _ _ (streamB m D.unit r) _ hd5 (by first | exact Nat.succ_pos _ | exact hu) hw1 HXX.out) ?_; rintro vv w6 ⟨rfl, v6, hd6, hf6⟩))
    all_goals
      have HF6 := hideF ((HFU.out.then_below (below_then_drew1 hb5)).trans (hf6.mono (wt_dev _ _ _ _)))
      have HD6 := hideF hd6
      obtain ⟨a6, k6, rfl, _⟩ := own_view hd6.wait
      clear c0 c1 c2 c11 c12 c13 c14 cf g0 g1 g2 gf hb5 hd6 hf6 hd5 HFR
      obtain ⟨c0, c1, c2, c11, c12, c13, c14, cf, hd6⟩ := HD6.out.cells
      simp only [List.length_append, List.length_singleton] at c14
      have q1 : decide ((D.batch : Int) <= ((D.wait.length + 1 : Nat) : Int)) = false := by simp; omega
      have q2 : decide ((D.batch : Int) <= ((D.uns : Int) + 1 : Int)) = false := by simp; omega
      have q3 : decide ((D.batch : Int) <= (D.wait.length : Int) + 1) = false := by simp; omega
      go_wp2_with fail
      go_quiet (fail)
      go_wp2
      go_ret
      exact ⟨_, rfl, HD6.out.drewN _, HF6.out.drewN _⟩
end Go.Proofs.YtcpldcojckhapaaGreat

set_option maxRecDepth 100000
namespace Go.Proofs.YtcpldcojckhapaaGreat
open Go.RowKit
def heardL (all : ByteArray) (t : Nat) (k : Int) : Ln := if k = 0 then ⟨0, all.extract t all.size, false⟩ else ⟨0, ⟨#[]⟩, true⟩
theorem SplIs.le {s : ByteArray} {acc : List Value} {t : Nat} {k : Int} (h : SplIs s acc t k) : t <= s.size := by
  have := (Pl.spl_end s (s.size + 1) 0 (Nat.zero_le _)).2
  have e : Pl.spl s (s.size + 1) 0 = (acc, t) := h.1
  rw [e] at this
  exact this
theorem SplIs.code {s : ByteArray} {acc : List Value} {t : Nat} {k : Int} (h : SplIs s acc t k) : k = 0 ∨ k = 4 := by
  have := h.2
  by_cases hb : Pl.brk (s.extract t s.size) = true
  . rw [if_pos hb] at this; exact .inr this
  . rw [if_neg hb] at this; exact .inl this
theorem line_set {w : World} {L n i : Nat} {ln : Nat -> Ln} {x : Ln} {v : Value} {j : Nat} (hG : Grid w L 116 n 3 (fun a b => lnc (ln a) b)) (hi : i < n) (hj : j < 3) (hv : lnc x j = v) (hx : ∀ b, b < 3 -> b ≠ j -> lnc x b = lnc (ln i) b) :
    Grid (w.setCell ⟨L, i * 3 + j, none⟩ v) L 116 n 3 (fun a b => lnc (if a = i then x else ln a) b) := by
  refine (hG.set hi hj v).congr fun a b _ hb => ?_
  by_cases e : a = i /\ b = j
  . rw [if_pos e, if_pos e.1, e.2, hv]
  . rw [if_neg e]
    by_cases e1 : a = i
    . rw [if_pos e1, hx b hb (fun h => e ⟨e1, h⟩), e1]
    . rw [if_neg e1]
set_option maxRecDepth 100000 in
set_option maxHeartbeats 1000000 in
theorem hear_stream (L i n : Nat) (ln : Nat -> Ln) (s : ByteArray) (w : World) (hG : Grid w L 116 n 3 (fun a j => lnc (ln a) j)) (hi : i < n) (hk : (ln i).kind = 0) (hbr : (ln i).broken = false) (hs : ((ln i).bytes ++ s).size <= 4194304) :
    Calls Tryz.prog 56 #[.pointer (some ⟨L, i * 3, none⟩), .string s] w fun e w' => ∃ v m acc t k, e = .returned v /\ w'.ownsRow w.heap.size 94 3 v m acc /\ SplIs ((ln i).bytes ++ s) acc t k /\ m <= 524288 /\
      Grid w' L 116 n 3 (fun a j => lnc (if a = i then heardL ((ln i).bytes ++ s) t k else ln a) j) /\ Chg1 L w w' := by
  have c0 : w.cell? ⟨L, i * 3, none⟩ = some (.int .i64 0) := by have := hG.cell hi (j := 0) (by omega); rw [Nat.add_zero] at this; rw [this]; simp [lnc, hk]
  have c1 : w.cell? ⟨L, i * 3 + 1, none⟩ = some (.string (ln i).bytes) := by have := hG.cell hi (j := 1) (by omega); rw [this]; simp [lnc]
  have c2 : w.cell? ⟨L, i * 3 + 2, none⟩ = some (.bool false) := by have := hG.cell hi (j := 2) (by omega); rw [this]; simp [lnc, hbr]
  have HG := hideF hG
  have hLs := hG.lt
  obtain ⟨A, hA⟩ : ∃ A, A = (ln i).bytes := ⟨_, rfl⟩
  have HA := hideF hA
  rw [<- hA] at hs c1 ⊢
  clear hA hG
  have hz : A.size + s.size <= 4194304 := by rw [ByteArray.size_append] at hs; exact hs
  have hlim : ¬ 9223372036854775807 < A.size + s.size := by omega
  have HK := hideF hk
  have HBR := hideF hbr
  clear hk hbr
  go_enter Tryz.func56, Tryz.ntmps56
  go_wp2_with fail
  refine (split_core (A ++ s) _ hs).mono ?_
  rintro e w1 ⟨v, m, acc, t, k, rfl, hown, hspl, hm, hb1⟩
  have ht := hspl.le
  have HS := hideF hspl
  have HO := hideF hown
  have HB := hideF hb1
  have hc1 := bcell hb1
  have hk := hspl.code
  clear hspl hown hb1 c0 c1 c2
  obtain ⟨S, hS⟩ : ∃ S, S = A ++ s := ⟨_, rfl⟩
  rw [<- hS] at ht HS hs ⊢
  have HSE := hideF hS
  clear hS
  go_wp2_with fail
  refine (clone_any _ _ (by simp; omega)).mono ?_
  rintro e w2 ⟨rfl, hb2⟩
  have HG2 := hideF (HG.out.below (bel_then HB.out hb2) hLs)
  have HB2 := hideF (bel_then HB.out hb2)
  have HO2 := hideF (ownsRow_below HO.out hb2)
  have hf2 := HG2.out.frozen (i * 3 + 1)
  have hf3 := HG2.out.frozen (i * 3 + 2)
  have d1 := HG2.out.cell hi (j := 1) (by omega)
  have d2 := HG2.out.cell hi (j := 2) (by omega)
  clear HG HO HB hb2 hc1
  rcases hk with rfl | rfl
  . go_wp2_with fail
    go_ret
    rw [<- HSE.out]
    refine ⟨_, m, acc, t, 0, rfl, own_same HO2.out (fun g hg => heap_setCell_other _ _ _ _ (by have := (HO2.out.lt g hg).1; simp; omega)), HS.out, hm, ?_, (Chg1.of_below L HB2.out).setCell _ _⟩
    refine line_set HG2.out hi (by omega) rfl fun b hb hne => ?_
    rcases (show b = 0 ∨ b = 2 by omega) with rfl | rfl
    . simp [lnc, heardL, HK.out]
    . simp [lnc, heardL, HBR.out]
  . go_wp2_with fail
    go_ret
    rw [<- HSE.out]
    refine ⟨_, m, acc, t, 4, rfl, own_same HO2.out (fun g hg => ?_), HS.out, hm, ?_, (((Chg1.of_below L HB2.out).setCell _ _).setCell _ _).setCell _ _⟩
    . have h := (HO2.out.lt g hg).1
      rw [heap_setCell_other _ _ _ _ (by simp; omega), heap_setCell_other _ _ _ _ (by simp; omega), heap_setCell_other _ _ _ _ (by simp; omega)]
    . have g1 := line_set (x := ⟨0, S.extract t S.size, false⟩) (v := .string (S.extract t S.size)) HG2.out hi (j := 1) (by omega) rfl (fun b hb hne => by
        rcases (show b = 0 ∨ b = 2 by omega) with rfl | rfl
        . simp [lnc, HK.out]
        . simp [lnc, HBR.out])
      have g2 := line_set (x := ⟨0, ⟨#[]⟩, false⟩) (v := .string ⟨#[]⟩) g1 hi (j := 1) (by omega) rfl (fun b hb hne => by
        rcases (show b = 0 ∨ b = 2 by omega) with rfl | rfl
        . simp [lnc]
        . simp [lnc])
      have g3 := line_set (x := ⟨0, ⟨#[]⟩, true⟩) (v := .bool true) g2 hi (j := 2) (by omega) rfl (fun b hb hne => by
        rcases (show b = 0 ∨ b = 1 by omega) with rfl | rfl
        . simp [lnc]
        . simp [lnc])
      refine g3.congr fun a b _ _ => ?_
      by_cases e : a = i
      . simp [e, heardL]
      . simp [e]
end Go.Proofs.YtcpldcojckhapaaGreat

set_option maxRecDepth 100000
namespace Go.Proofs.YtcpldcojckhapaaGreat
namespace Pl
theorem byt_list (s : ByteArray) (k : Nat) : byt s k = (s.data.toList.getD k 0).toNat := by
  unfold byt
  by_cases h : k < s.size
  . rw [dif_pos h, List.getD_eq_getElem?_getD]
    have h2 : k < s.data.toList.length := by rw [Array.length_toList]; exact h
    rw [List.getElem?_eq_getElem h2]
    rfl
  . rw [dif_neg h, List.getD_eq_getElem?_getD, List.getElem?_eq_none (by rw [Array.length_toList]; exact Nat.le_of_not_lt h)]
    rfl
def May (x : Nat × Nat × ByteArray) : Prop := x.1 < 65536 /\ x.2.1 < 256 /\ 1 <= x.2.2.size /\ x.2.2.size <= 253
def frC (x : Nat × Nat × ByteArray) : List Value := [.int .i64 (x.1 : Nat), .int .i64 (x.2.1 : Nat), .string x.2.2]
end Pl
end Go.Proofs.YtcpldcojckhapaaGreat

set_option maxRecDepth 100000
namespace Go.Proofs.YtcpldcojckhapaaGreat
open Go.RowKit
theorem within_yes (n a b : Int) (w : World) (h1 : a <= n) (h2 : n <= b) : Calls Tryz.prog 53 #[.int .i64 n, .int .i64 a, .int .i64 b] w fun e w' => e = .returned (.bool true) /\ w' = w := by
  have d1 : decide (a <= n) = true := by simp [h1]
  have d2 : decide (n <= b) = true := by simp [h2]
  go_enter Tryz.func53, Tryz.ntmps53
  go_wp2
  go_ret
  exact ⟨rfl, rfl⟩
theorem DevIn.heard {w w' : World} {d L S : Nat} {E : Nat -> Nat} {wv : Value} {D : Dev} {g : Nat -> Ln} (h : DevIn w d L S E wv D) (hG : Grid w' L 116 D.nl 3 (fun a j => lnc (g a) j)) (hc : Chg1 L w w') : DevIn w' d L S E wv { D with ln := g } := by
  obtain ⟨cl, hcl⟩ := h.lines.block
  refine ⟨(hc.block d (lt_of_block h.dev) (ne_of_types h.dev hcl (by decide))).trans h.dev, hG, fun i hi => ?_, h.inj, (hc.block S (lt_of_block h.store) (ne_of_types h.store hcl (by decide))).trans h.store, own_same h.wait (fun g hg => ?_), h.lo⟩
  . obtain ⟨ce, hce⟩ := (h.ent i hi).block
    exact (h.ent i hi).same (hc.block (E i) (lt_of_block hce) (ne_of_types hce hcl (by decide)))
  . obtain ⟨cg, hcg⟩ := own_block h.wait g hg
    exact hc.block g (lt_of_block hcg) (ne_of_types hcg hcl (by decide))
end Go.Proofs.YtcpldcojckhapaaGreat
