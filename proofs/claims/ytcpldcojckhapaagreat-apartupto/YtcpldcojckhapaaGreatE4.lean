/-
  
-/
import Derived.Test.YtcpldcojckhapaaGreatJ22
import Derived.Laws.CopyOwn
set_option maxRecDepth 100000
namespace Go.Proofs.YtcpldcojckhapaaGreat
open Go.RowKit
def szF (s0 s1 s2 s3 q : Nat) : Nat := if q = 0 then s0 else if q = 1 then s1 else if q = 2 then s2 else s3
theorem arr4F (a b c d q : Nat) (hq : q < 4) (W : World) : (Instr.index 37 (.agg #[.int .i64 (a : Nat), .int .i64 (b : Nat), .int .i64 (c : Nat), .int .i64 (d : Nat)]) (.int .i64 (q : Nat))).run Tryz.prog W = .ok (.int .i64 (szF a b c d q : Nat)) W := by
  rcases (show q = 0 ∨ q = 1 ∨ q = 2 ∨ q = 3 by omega) with rfl | rfl | rfl | rfl
  . exact arr4_0 _ _ _ _ W
  . exact arr4_1 _ _ _ _ W
  . exact arr4_2 _ _ _ _ W
  . exact arr4_3 _ _ _ _ W
theorem szF_le (a b c d q m : Nat) (ha : a <= m) (hb : b <= m) (hc : c <= m) (hd : d <= m) : szF a b c d q <= m := by
  unfold szF; split <;> try split <;> try split
  all_goals omega
def tabV (N s0 s1 s2 s3 q : Nat) (i : Nat) : Value := if i < 4 then (if i < q then .slice (some ⟨N + 3 + i, 0, none⟩) (szF s0 s1 s2 s3 i) (szF s0 s1 s2 s3 i) else .slice none 0 0) else .int .i64 0
structure TabSt (w wr : World) (s0 s1 s2 s3 q : Nat) (cfg : Array Value) : Prop where
  tab : Grid wr (w.heap.size + 2) 104 8 1 (fun i _ => tabV w.heap.size s0 s1 s2 s3 q i)
  ent : ∀ i, i < q -> Grid wr (w.heap.size + 3 + i) 3 (szF s0 s1 s2 s3 i) 1 (fun _ _ => .int .i64 0)
  size : wr.heap.size = w.heap.size + 3 + q
  cfg : wr.heap[w.heap.size]? = some (.cells cfg 39 (0, 0))
  res : Grid wr (w.heap.size + 1) 104 8 1 (fun i _ => tabV w.heap.size s0 s1 s2 s3 0 i)
  bel : Below w.heap.size w wr
theorem grid_lit8 (w : World) (t : TypeId) (a0 a1 a2 a3 a4 a5 a6 a7 : Value) (f : Nat -> Value) (h0 : f 0 = a0) (h1 : f 1 = a1) (h2 : f 2 = a2) (h3 : f 3 = a3) (h4 : f 4 = a4) (h5 : f 5 = a5) (h6 : f 6 = a6) (h7 : f 7 = a7) :
    Grid (w.alloc (.cells #[a0, a1, a2, a3, a4, a5, a6, a7] t)) w.heap.size t 8 1 (fun i _ => f i) := by
  refine ⟨_, heap_alloc_new w _, rfl, fun i j hi hj => ?_⟩
  obtain rfl : j = 0 := by omega
  rcases (show i = 0 ∨ i = 1 ∨ i = 2 ∨ i = 3 ∨ i = 4 ∨ i = 5 ∨ i = 6 ∨ i = 7 by omega) with rfl | rfl | rfl | rfl | rfl | rfl | rfl | rfl <;> simp [*]
theorem tabSt_start (w : World) (s0 s1 s2 s3 c h u b : Nat) (l : Value) : ∃ W, W = (((w.alloc (.cells #[.int .i64 (s0 : Nat), .int .i64 (s1 : Nat), .int .i64 (s2 : Nat), .int .i64 (s3 : Nat), .int .i64 (c : Nat), .int .i64 (h : Nat), .int .i64 (u : Nat), l, .int .i64 (b : Nat)] 39)).alloc (.cells #[.slice none 0 0, .slice none 0 0, .slice none 0 0, .slice none 0 0, .int .i64 0, .int .i64 0, .int .i64 0, .int .i64 0] 104)).alloc (.cells #[.slice none 0 0, .slice none 0 0, .slice none 0 0, .slice none 0 0, .int .i64 0, .int .i64 0, .int .i64 0, .int .i64 0] 104)) /\
    TabSt w W s0 s1 s2 s3 0 #[.int .i64 (s0 : Nat), .int .i64 (s1 : Nat), .int .i64 (s2 : Nat), .int .i64 (s3 : Nat), .int .i64 (c : Nat), .int .i64 (h : Nat), .int .i64 (u : Nat), l, .int .i64 (b : Nat)] := by
  refine ⟨_, rfl, ?_⟩
  obtain ⟨X, hX⟩ : ∃ X, X = w.alloc (.cells #[.int .i64 (s0 : Nat), .int .i64 (s1 : Nat), .int .i64 (s2 : Nat), .int .i64 (s3 : Nat), .int .i64 (c : Nat), .int .i64 (h : Nat), .int .i64 (u : Nat), l, .int .i64 (b : Nat)] 39) := ⟨_, rfl⟩
  have hXs : X.heap.size = w.heap.size + 1 := by rw [hX]; simp
  have hXb : Below w.heap.size w X := by rw [hX]; exact bel_alloc (Below.refl _ _) _
  have hXg : X.heap[w.heap.size]? = some (.cells #[.int .i64 (s0 : Nat), .int .i64 (s1 : Nat), .int .i64 (s2 : Nat), .int .i64 (s3 : Nat), .int .i64 (c : Nat), .int .i64 (h : Nat), .int .i64 (u : Nat), l, .int .i64 (b : Nat)] 39 (0, 0)) := by rw [hX]; exact heap_alloc_new w _
  rw [<- hX]
  clear hX
  obtain ⟨Y, hY⟩ : ∃ Y, Y = X.alloc (.cells #[.slice none 0 0, .slice none 0 0, .slice none 0 0, .slice none 0 0, .int .i64 0, .int .i64 0, .int .i64 0, .int .i64 0] 104) := ⟨_, rfl⟩
  have hYs : Y.heap.size = w.heap.size + 2 := by rw [hY]; simp; omega
  have hYb : Below w.heap.size w Y := by rw [hY]; exact hXb.alloc hXb.size _
  have hYg : Y.heap[w.heap.size]? = X.heap[w.heap.size]? := by rw [hY]; exact heap_alloc_old X _ (by omega)
  have hYr : Grid Y (w.heap.size + 1) 104 8 1 (fun i _ => tabV w.heap.size s0 s1 s2 s3 0 i) := by
    rw [hY, <- hXs]; exact grid_lit8 X 104 _ _ _ _ _ _ _ _ (fun i => tabV w.heap.size s0 s1 s2 s3 0 i) rfl rfl rfl rfl rfl rfl rfl rfl
  rw [<- hY]
  clear hY
  refine ⟨?_, fun i hi => absurd hi (Nat.not_lt_zero _), by simp; omega, ?_, hYr.alloc _, hYb.alloc hYb.size _⟩
  . rw [<- hYs]; exact grid_lit8 Y 104 _ _ _ _ _ _ _ _ (fun i => tabV w.heap.size s0 s1 s2 s3 0 i) rfl rfl rfl rfl rfl rfl rfl rfl
  . rw [heap_alloc_old Y _ (by omega), hYg]; exact hXg
theorem grid_ints (w : World) (n : Nat) : Grid (w.alloc (.cells (madeCells #[.int .i64 0] n) 3)) w.heap.size 3 n 1 (fun _ _ => .int .i64 0) := by
  have := grid_made w #[.int .i64 0] n 1 3 rfl
  rw [Nat.mul_one] at this
  exact this.congr fun i j _ hj => by obtain rfl : j = 0 := (by omega); rfl
theorem TabSt.step {w wr : World} {s0 s1 s2 s3 q : Nat} {cfg : Array Value} (h : TabSt w wr s0 s1 s2 s3 q cfg) (hq : q < 4) :
    TabSt w ((wr.alloc (.cells (madeCells #[.int .i64 0] (szF s0 s1 s2 s3 q)) 3)).setCell ⟨w.heap.size + 2, q, none⟩ (.slice (some ⟨w.heap.size + 3 + q, 0, none⟩) (szF s0 s1 s2 s3 q) (szF s0 s1 s2 s3 q))) s0 s1 s2 s3 (q + 1) cfg := by
  have hsz := h.size
  refine ⟨?_, fun i hi => ?_, by simp; omega, ?_, (h.res.alloc _).set_other _ (by omega) _, ?_⟩
  . have := (h.tab.alloc (.cells (madeCells #[.int .i64 0] (szF s0 s1 s2 s3 q)) 3)).set (i := q) (j := 0) (by omega) (by omega) (.slice (some ⟨w.heap.size + 3 + q, 0, none⟩) (szF s0 s1 s2 s3 q) (szF s0 s1 s2 s3 q))
    rw [Nat.mul_one, Nat.add_zero] at this
    refine this.congr fun i j hi hj => ?_
    obtain rfl : j = 0 := by omega
    by_cases e : i = q
    . subst e
      simp [tabV, hq]
    . have e2 : (i < q + 1) = (i < q) := by apply propext; omega
      simp [tabV, e, e2]
  . by_cases e : i = q
    . subst e
      have := grid_ints wr (szF s0 s1 s2 s3 i)
      rw [hsz] at this
      exact this.set_other _ (by omega) _
    . exact ((h.ent i (by omega)).alloc _).set_other _ (by omega) _
  . rw [heap_setCell_other _ _ _ _ (by simp), heap_alloc_old wr _ (by omega)]; exact h.cfg
  . exact (h.bel.alloc h.bel.size _).setCell (by simp) _
theorem tab_keeps {w wr : World} {s0 s1 s2 s3 : Nat} {cfg : Array Value} (h : TabSt w wr s0 s1 s2 s3 4 cfg) (c k : Nat) :
    Grid ((wr.setCell ⟨w.heap.size + 1 + 1, 4, none⟩ (.int .i64 (c : Nat))).setCell ⟨w.heap.size + 1 + 1, 6, none⟩ (.int .i64 (k : Nat))) (w.heap.size + 2) 104 8 1 (fun i _ => if i = 4 then .int .i64 (c : Nat) else if i = 6 then .int .i64 (k : Nat) else tabV w.heap.size s0 s1 s2 s3 4 i) := by
  have h1 := h.tab.set (i := 4) (j := 0) (by omega) (by omega) (.int .i64 (c : Nat))
  have h2 := h1.set (i := 6) (j := 0) (by omega) (by omega) (.int .i64 (k : Nat))
  refine h2.congr fun i j hi hj => ?_
  obtain rfl : j = 0 := by omega
  by_cases e4 : i = 4
  . subst e4; simp
  . by_cases e6 : i = 6
    . subst e6; simp
    . simp [e4, e6]
theorem step_copy_none {P : Program} {ops : Array Oper} {o : Oper} {a : Act} {w : World} {K : Act -> World -> Prop} {Q : Exit -> Act -> World -> Prop} {E : Prop} (hgd : o.guard = none) (d s : Operand) (dT sT : TypeId)
    (ho : o.op = .call { callee := .builtin .copy, args := #[d, s], argTypes := #[dT, sT] }) (elem : TypeId) (hu : P.underlying dT = some (.slice elem)) (hsz : (P.info? elem).map (·.size) = some 1)
    (dp sp : Option Addr) (dLen dCap sLen sCap : Nat) (hd : a.eval d = .slice dp dLen dCap) (hs : a.eval s = .slice sp sLen sCap) (hn : Nat.min sLen dLen = 0)
    (hK : K (a.put o.dst (goInt 0)) w) : if Region.wanted o (yielded ops a.tmps) = true then Oper.wp P o a w K Q else E := by
  have hw : Region.wanted o (yielded ops a.tmps) = true := by simp [Region.wanted, hgd]
  rw [if_pos hw]
  have hrun := run_copy_none (P := P) w dT sT o.type elem dp sp dLen dCap sLen sCap hu hsz hn
  unfold Oper.wp
  simp [execOp, ho, resolve, invoke, builtin, hd, hs, hrun, Result.andThen]
  exact hK
structure Oth (g : Nat) (w w' : World) : Prop where
  os : w'.os = w.os
  tape : w'.tape = w.tape
  output : w'.output = w.output
  size : w'.heap.size = w.heap.size
  block : ∀ k, k ≠ g -> w'.heap[k]? = w.heap[k]?
theorem Oth.refl (g : Nat) (w : World) : Oth g w w := ⟨rfl, rfl, rfl, rfl, fun _ _ => rfl⟩
theorem Oth.setRow (g : Nat) (w : World) (cs : Array Value) : Oth g w (w.setRow g cs) := ⟨rfl, rfl, rfl, by simp [World.setRow], fun k hk => setRow_other w g k cs hk⟩
theorem Oth.below {g : Nat} {w w' : World} (h : Oth g w w') {B : Nat} {w0 : World} (hb : Below B w0 w) (hB : B <= g) : Below B w0 w' :=
  hb.trans ⟨h.os, h.tape, h.output, by rw [h.size]; exact Nat.le_refl _, fun k hk => h.block k (by omega)⟩
theorem step_copy_row {P : Program} {ops : Array Oper} {o : Oper} {a : Act} {w : World} {K : Act -> World -> Prop} {Q : Exit -> Act -> World -> Prop} {E : Prop} (hgd : o.guard = none) (d s : Operand) (dT sT : TypeId)
    (ho : o.op = .call { callee := .builtin .copy, args := #[d, s], argTypes := #[dT, sT] }) (elem : TypeId) (hu : P.underlying dT = some (.slice elem)) (hsz : (P.info? elem).map (·.size) = some 1)
    (dp sp : Option Addr) (dLen dCap sLen sCap : Nat) (hd : a.eval d = .slice dp dLen dCap) (hs : a.eval s = .slice sp sLen sCap)
    (g off : Nat) (cur : List Value) (t : TypeId) (hg : w.heap[g]? = some (.cells cur.toArray t (0, 0))) (cs : List Value) (hn : cs.length = Nat.min sLen dLen)
    (hpos : 0 < cs.length -> dp = some ⟨g, off, none⟩ /\ ∃ ad, sp = some ad /\ ∀ j v, cs[j]? = some v -> w.cell? (ad.add j) = some v)
    (hfit : off + cs.length <= cur.length) (h1 : ∀ v ∈ cs, v.oneCell' = true)
    (h : ∀ w', Hid (w'.heap[g]? = some (.cells (splice cur off cs).toArray t (0, 0))) -> Oth g w w' -> K (a.put o.dst (goInt cs.length)) w') :
    if Region.wanted o (yielded ops a.tmps) = true then Oper.wp P o a w K Q else E := by
  have hw : Region.wanted o (yielded ops a.tmps) = true := by simp [Region.wanted, hgd]
  rw [if_pos hw]
  by_cases h0 : cs.length = 0
  . obtain rfl : cs = [] := List.eq_nil_of_length_eq_zero h0
    have hrun := run_copy_none (P := P) w dT sT o.type elem dp sp dLen dCap sLen sCap hu hsz (by simpa using hn.symm)
    unfold Oper.wp
    simp [execOp, ho, resolve, invoke, builtin, hd, hs, hrun, Result.andThen]
    exact h w (show _ = _ by simpa [splice] using hg) (Oth.refl _ _)
  . obtain ⟨rfl, ad, rfl, hsrc⟩ := hpos (by omega)
    have hrun := run_copy_row (P := P) w dT sT o.type elem g off dLen dCap ad sLen sCap cur.toArray t cs hu hsz hg hn hsrc (by simpa using hfit) h1
    unfold Oper.wp
    simp [execOp, ho, resolve, invoke, builtin, hd, hs, hrun, Result.andThen]
    exact h _ (show _ = _ by simpa [splice] using setRow_heap w g _ _ t _ hg) (Oth.setRow _ _ _)
theorem Tryz.sizeInt : (Tryz.prog.info? 3).map (·.size) = some 1 := by kernel_rfl
theorem enter68 (x y : Value) (w : World) : (callFunc 98 #[x, y]).run Tryz.prog w = .ok (.enter 98 #[x, y]) w := by kernel_rfl
theorem enter69 (x : Value) (w : World) : (callFunc 99 #[x]).run Tryz.prog w = .ok (.enter 99 #[x]) w := by kernel_rfl
theorem enter67 (x : Value) (w : World) : (callFunc 97 #[x]).run Tryz.prog w = .ok (.enter 97 #[x]) w := by kernel_rfl
theorem bitsOf_step (s : ByteArray) (n : Nat) (w : World) (hn : (n + 7) / 8 <= s.size) (hs : n <= 100000) :
    Calls Tryz.prog 98 #[.string s, .int .i64 (n : Nat)] w fun e w' => ∃ v, e = .returned v /\ ∃ ad c, v = .slice ad n c /\ Below w.heap.size w w' := by
  refine (pbits_any s n w hn hs).mono ?_
  rintro e w' ⟨v, rfl, hown, hb⟩
  obtain ⟨ad, c, rfl, _⟩ := own_view hown
  exact ⟨_, rfl, ad, c, rfl, hb⟩
theorem own_src {w : World} {B : Nat} {e : TypeId} {ad : Option Addr} {n c : Nat} {xs : List Value} (h : w.ownsRow B e 1 (.slice ad n c) n xs) (hn : 0 < n) : ∃ a, ad = some a /\ ∀ j v, xs[j]? = some v -> w.cell? (a.add j) = some v := by
  obtain ⟨a', c', hv, hat⟩ := own_view h
  simp only [Value.slice.injEq] at hv
  obtain ⟨rfl, _, _⟩ := hv
  obtain ⟨g, rfl, _, hc⟩ := hat 0 hn
  refine ⟨_, rfl, fun j v hj => ?_⟩
  have hl := h.1
  have hjl : j < xs.length := by
    rcases Nat.lt_or_ge j xs.length with h1 | h1
    . exact h1
    . rw [List.getElem?_eq_none h1] at hj; simp at hj
  have := hc j (by omega)
  have e : (⟨g, 0, none⟩ : Addr).add j = ⟨g, j, none⟩ := by by_cases h0 : j = 0 <;> simp [Addr.add, h0]
  rw [e, this, hj]
theorem below_then_drew1 {W W' : World} (h : Below W.drew.heap.size W.drew W') : Below W.heap.size W W' := bel_then (Below.refl W.heap.size W).drew h
theorem bitsSize_step (n b : Nat) (hb : b = (n + 7) / 8) (w : World) (h : n <= 100000) :
    Calls Tryz.prog 97 #[.int .i64 (n : Nat)] w fun e w' => ∃ v, e = .returned v /\ (v = .int .i64 (b : Nat) /\ w' = w) := by
  refine (bitsSize_at n b hb w h).mono ?_
  rintro e w' ⟨rfl, rfl⟩
  exact ⟨_, rfl, rfl, rfl⟩
theorem wordsOf_step (s : ByteArray) (n : Nat) (w : World) (hn : s.size / 2 = n) (hs : s.size <= 100000) :
    Calls Tryz.prog 99 #[.string s] w fun e w' => ∃ v, e = .returned v /\ ∃ ad c, v = .slice ad n c /\ (w'.ownsRow w.heap.size 3 1 (.slice ad n c) n ((Pl.wordsL s 0 n).flatMap encI) /\ Below w.heap.size w w') := by
  refine (pwords_any s n w hn hs).mono ?_
  rintro e w' ⟨v, rfl, hown, hb⟩
  obtain ⟨ad, c, rfl, _⟩ := own_view hown
  exact ⟨_, rfl, ad, c, rfl, hown, hb⟩
theorem grid_set8 {W : World} {L t n m g : Nat} {f : Nat -> Nat -> Value} (h : Grid W L t n m f) (hg : L ≠ g) (a0 a1 a2 a3 a4 a5 a6 a7 : Value) : Grid (((((((((W.setCell ⟨g, 0, none⟩ a0).setCell ⟨g, 1, none⟩ a1).setCell ⟨g, 2, none⟩ a2).setCell ⟨g, 3, none⟩ a3).setCell ⟨g, 4, none⟩ a4).setCell ⟨g, 5, none⟩ a5).setCell ⟨g, 6, none⟩ a6).setCell ⟨g, 7, none⟩ a7)) L t n m f :=
  (((((((h.set_other _ hg _).set_other _ hg _).set_other _ hg _).set_other _ hg _).set_other _ hg _).set_other _ hg _).set_other _ hg _).set_other _ hg _
theorem tab_words {w3 : World} {g y h s2 : Nat} {S : ByteArray} {cur : Array Value} (hy : y = 0) (_hS : S.size = 2 * h) (hh : h <= s2) (hc : cur.size = s2)
    (hg : w3.heap[g]? = some (.cells (splice cur.toList 0 ((Pl.wordsL (S.extract y S.size) 0 h).flatMap encI)).toArray 3 (0, 0))) (hcv : ∀ i, i < s2 -> cur[i]? = some (.int .i64 0)) :
    Grid w3 g 3 s2 1 (fun i _ => .int .i64 (if i < h then (Pl.wd S (2 * i) : Nat) else 0 : Nat)) := by
  subst hy
  have hx : S.extract 0 S.size = S := by simp
  rw [hx] at hg
  have hlen : ((Pl.wordsL S 0 h).flatMap encI).length = h := by rw [encI_len, Pl.wordsL_len, Nat.mul_one]
  refine ⟨_, hg, ?_, fun i j hi hj => ?_⟩
  . simp only [List.size_toArray, Nat.mul_one]
    rw [length_splice _ _ _ (by rw [hlen, Array.length_toList, hc]; omega), Array.length_toList, hc]
  . obtain rfl : j = 0 := by omega
    rw [Nat.mul_one, Nat.add_zero, List.getElem?_toArray]
    unfold splice
    rw [List.take_zero, List.nil_append, hlen, Nat.zero_add]
    show _ = some (Value.int .i64 ((if i < h then (Pl.wd S (2 * i) : Nat) else 0 : Nat) : Int))
    by_cases e : i < h
    . rw [List.getElem?_append_left (by rw [hlen]; exact e), encI_at _ _ _ (Pl.wordsL_at S 0 h i e), if_pos e, Nat.zero_add]
    . rw [List.getElem?_append_right (by rw [hlen]; omega), hlen, List.getElem?_drop, if_neg e, show h + (i - h) = i by omega, Array.getElem?_toList]
      exact hcv i hi
set_option maxRecDepth 100000 in
set_option maxHeartbeats 2000000 in
theorem newTables_at (s0 s1 s2 s3 c h u n k b : Nat) (a : Option Addr) (S : ByteArray) (w : World) (b0 : s0 <= 60) (b1 : s1 <= 60) (b2 : s2 <= 60) (b3 : s3 <= 60) (hc : c = 0) (hh : h <= s2) (hS : S.size = 2 * h) :
    Calls Tryz.prog 65 #[.agg #[.int .i64 (s0 : Nat), .int .i64 (s1 : Nat), .int .i64 (s2 : Nat), .int .i64 (s3 : Nat), .int .i64 (c : Nat), .int .i64 (h : Nat), .int .i64 (u : Nat), .slice a n k, .int .i64 (b : Nat)], .string S] w fun e w' => 
      e = .returned (.agg #[.slice (some ⟨w.heap.size + 3, 0, none⟩) s0 s0, .slice (some ⟨w.heap.size + 4, 0, none⟩) s1 s1, .slice (some ⟨w.heap.size + 5, 0, none⟩) s2 s2, .slice (some ⟨w.heap.size + 6, 0, none⟩) s3 s3, .int .i64 (c : Nat), .int .i64 0, .int .i64 (h : Nat), .int .i64 0]) /\ 
      Grid w' (w.heap.size + 3) 3 s0 1 (fun _ _ => .int .i64 0) /\ Grid w' (w.heap.size + 4) 3 s1 1 (fun _ _ => .int .i64 0) /\ Grid w' (w.heap.size + 5) 3 s2 1 (fun i _ => .int .i64 (if i < h then (Pl.wd S (2 * i) : Nat) else 0 : Nat)) /\ Grid w' (w.heap.size + 6) 3 s3 1 (fun _ _ => .int .i64 0) /\ Below w.heap.size w w' := by
  obtain ⟨W, hW, hSt⟩ := tabSt_start w s0 s1 s2 s3 c h u b (.slice a n k)
  have HC := hideF hc
  have HSZ := hideF hS
  have hSl : S.size <= 1000 := by omega
  clear hc hS
  have HSt := hideF hSt
  obtain ⟨c0, c1, c2, c3, c4, c5, c6, c7, c8⟩ := cells9 hSt.cfg
  clear hSt
  have hmk : ∀ (W : World) (q : Nat), q < 4 -> (Instr.makeSlice 28 (.int .i64 (szF s0 s1 s2 s3 q : Nat)) (.int .i64 (szF s0 s1 s2 s3 q : Nat))).run Tryz.prog W = .ok (.slice (some ⟨W.heap.size, 0, none⟩) (szF s0 s1 s2 s3 q) (szF s0 s1 s2 s3 q)) (W.alloc (.cells (madeCells #[.int .i64 0] (szF s0 s1 s2 s3 q)) 3)) := fun W q _ => made_ints _ (by have := szF_le s0 s1 s2 s3 q 60 b0 b1 b2 b3; omega) W
  go_enter Tryz.func65, Tryz.ntmps65
  go_wp2_with fail
  rw [<- hW]
  clear hW
  go_loopw [10] (fun i wr => ∃ q : Nat, q <= 4 /\ i = .int .i64 (q : Nat) /\ TabSt w wr s0 s1 s2 s3 q #[.int .i64 (s0 : Nat), .int .i64 (s1 : Nat), .int .i64 (s2 : Nat), .int .i64 (s3 : Nat), .int .i64 (c : Nat), .int .i64 (h : Nat), .int .i64 (u : Nat), .slice a n k, .int .i64 (b : Nat)]) (fun i _ => 4 - (intOf i).toNat)
  case atStart => exact ⟨0, by omega, rfl, HSt.out⟩
  case round =>
    obtain ⟨q, hq, rfl, hst⟩ := hrel
    clear c0 c1 c2 c3 c4 c5 c6 c7 c8 HSt
    by_cases hq4 : q < 4
    . have hx := arr4F s0 s1 s2 s3 q hq4
      have hm := fun W => hmk W q hq4
      clear hmk
      have hsz := hst.size
      have hcl : ∀ o, (wr.alloc o).cell? ⟨w.heap.size + 1 + 1, q, none⟩ = some (tabV w.heap.size s0 s1 s2 s3 q q) := fun o => by have := (hst.tab.alloc o).cell (i := q) (j := 0) (by omega) (by omega); rwa [Nat.mul_one, Nat.add_zero] at this
      have hfz : ∀ o, (wr.alloc o).frozen? ⟨w.heap.size + 1 + 1, q, none⟩ = false := fun o => (hst.tab.alloc o).frozen q
      have HST := hideF (hst.step hq4)
      clear hst
      go_wp2_with fail
      go_roundw
      case rel => exact ⟨q + 1, by omega, by go_num, HST.out⟩
      case measure => simp [intOf]; omega
    . obtain rfl : q = 4 := by omega
      clear hmk hq hq4
      obtain ⟨c0, c1, c2, c3, c4, c5, c6, c7, c8⟩ := cells9 hst.cfg
      have t0 : wr.cell? ⟨w.heap.size + 1 + 1, 0, none⟩ = some (tabV w.heap.size s0 s1 s2 s3 4 0) := hst.tab.cell (i := 0) (j := 0) (by omega) (by omega)
      have t2 : wr.cell? ⟨w.heap.size + 1 + 1, 2, none⟩ = some (tabV w.heap.size s0 s1 s2 s3 4 2) := hst.tab.cell (i := 2) (j := 0) (by omega) (by omega)
      have t4 : wr.cell? ⟨w.heap.size + 1 + 1, 4, none⟩ = some (.int .i64 0) := hst.tab.cell (i := 4) (j := 0) (by omega) (by omega)
      have t6 : wr.cell? ⟨w.heap.size + 1 + 1, 6, none⟩ = some (.int .i64 0) := hst.tab.cell (i := 6) (j := 0) (by omega) (by omega)
      have hfz : ∀ k, wr.frozen? ⟨w.heap.size + 1 + 1, k, none⟩ = false := fun k => hst.tab.frozen k
      have HST := hideF hst
      clear hst
      go_wp2_with fail
      go_region
      go_wp2_with fail
      obtain ⟨X, hX⟩ : ∃ X, X = (wr.setCell ⟨w.heap.size + 1 + 1, 4, none⟩ (.int .i64 (c : Nat))).setCell ⟨w.heap.size + 1 + 1, 6, none⟩ (.int .i64 (h : Nat)) := ⟨_, rfl⟩
      have hXt := tab_keeps HST.out c h
      have hXs : X.heap.size = w.heap.size + 7 := by have := HST.out.size; rw [hX]; simp; omega
      have hXb : Below w.heap.size w X := by rw [hX]; exact (HST.out.bel.setCell (show w.heap.size <= w.heap.size + 1 + 1 by omega) _).setCell (show w.heap.size <= w.heap.size + 1 + 1 by omega) _
      have hXo : ∀ g, g ≠ w.heap.size + 2 -> X.heap[g]? = wr.heap[g]? := fun g hg => by rw [hX, heap_setCell_other _ _ _ _ (by simpa using hg), heap_setCell_other _ _ _ _ (by simpa using hg)]
      rw [<- hX] at hXt ⊢
      clear hX
      have hXc := (hXo w.heap.size (by omega)).trans HST.out.cfg
      have hXe : ∀ i, i < 4 -> Grid X (w.heap.size + 3 + i) 3 (szF s0 s1 s2 s3 i) 1 (fun _ _ => .int .i64 0) := fun i hi => (HST.out.ent i hi).same (hXo _ (by omega))
      have hXr := HST.out.res.same (hXo (w.heap.size + 1) (by omega))
      have HXE := hideF hXe
      have HXT := hideF hXt
      have HXR := hideF hXr
      have HXC := hideF hXc
      have HXB := hideF hXb
      have HXS := hideF hXs
      clear c0 c1 c2 c3 c4 c5 c6 c7 c8 t0 t2 t4 t6 hfz HST hXe hXt hXr hXo hXb hXs
      obtain ⟨c0, c1, c2, c3, c4, c5, c6, c7, c8⟩ := cells9 hXc
      clear hXc
      have t0 : X.cell? ⟨w.heap.size + 1 + 1, 0, none⟩ = some (.slice (some ⟨w.heap.size + 3, 0, none⟩) s0 s0) := HXT.out.cell (i := 0) (j := 0) (by omega) (by omega)
      have hzn : w.heap.size + 1 + 1 < X.heap.size := by have := HXS.out; omega
      have hzm : w.heap.size < X.heap.size := by omega
      go_region_law (first
        | (refine step_call rfl 98 #[.tmp 31, .tmp 33] #[9, 3] rfl #[.string S, .int .i64 (c : Nat)] (by simp [Act.eval]) (enter68 _ _ _) _ (bitsOf_step S c _ (by have := HC.out; omega) (by have := HC.out; omega)) ?_; rintro v w1 ⟨ad, cc, rfl, hb1⟩; obtain ⟨hc1, hf1⟩ := bcell hb1; have q0 : w1.cell? ⟨w.heap.size + 1 + 1, 0, none⟩ = some (.slice (some ⟨w.heap.size + 3, 0, none⟩) s0 s0) := (by rw [hc1 _ _ (by simpa using hzn)]; simpa using t0))
        | (refine step_copy_none rfl (.tmp 30) (.tmp 34) 28 28 rfl 3 Tryz.underlying28 Tryz.sizeInt _ _ _ _ _ _ rfl rfl (by have := HC.out; simp [this]) ?_))
      all_goals
        have hYb : Below X.heap.size X w1 := bel_then (Below.refl _ X).drew.drew hb1
        clear hb1 hc1 hf1 q0 t0 c0 c1 c2 c3 c4 c5 c6 c7 c8
        have hYs : X.heap.size <= w1.heap.size := hYb.size
        have hYc := (hYb.block w.heap.size hzm).trans HXC.out
        have hYe : ∀ i, i < 4 -> Grid w1 (w.heap.size + 3 + i) 3 (szF s0 s1 s2 s3 i) 1 (fun _ _ => .int .i64 0) := fun i hi => (HXE.out i hi).below hYb (by have := HXS.out; omega)
        have hYt := HXT.out.below hYb (by have := HXS.out; omega)
        have hYr := HXR.out.below hYb (by have := HXS.out; omega)
        have hYB := bel_then HXB.out hYb
        obtain ⟨c0, c1, c2, c3, c4, c5, c6, c7, c8⟩ := cells9 hYc
        have t2 : w1.cell? ⟨w.heap.size + 1 + 1, 2, none⟩ = some (.slice (some ⟨w.heap.size + 5, 0, none⟩) s2 s2) := hYt.cell (i := 2) (j := 0) (by omega) (by omega)
        obtain ⟨cur, hcur, hcs, hcv⟩ := hYe 2 (by omega)
        have HCUR : Hid (w1.heap[w.heap.size + 5]? = some (.cells cur.toList.toArray 3 (0, 0))) := by show _ = _; rw [Array.toArray_toList]; exact hcur
        have HCS : Hid (cur.size = s2) := by show _ = _; rw [hcs]; simp [szF]
        have HCV : Hid (∀ i, i < s2 -> cur[i]? = some (.int .i64 0)) := fun i hi => by have := hcv i 0 (show i < szF s0 s1 s2 s3 2 from hi) (by omega); rwa [Nat.mul_one, Nat.add_zero] at this
        have hn1 : w.heap.size + 1 + 1 < w1.heap.size := by omega
        have hn5 : w.heap.size + 5 < w1.heap.size := by have := HXS.out; omega
        have hn0 : w.heap.size < w1.heap.size := by omega
        obtain ⟨y, hy⟩ : ∃ y, y = (c + 7) / 8 := ⟨_, rfl⟩
        have hy0 : y = 0 := by have := HC.out; omega
        have HY := hideF hy
        have HY0 := hideF hy0
        have hyl : (y : Int) <= S.size := by omega
        have hyl' : (0 : Int) <= y := by omega
        have HYE := hideF hYe
        have HYT := hideF hYt
        have HYR := hideF hYr
        have HYC := hideF hYc
        have HYB := hideF hYB
        have HYS : Hid (w.heap.size + 7 <= w1.heap.size) := by show _ <= _; have := HXS.out; omega
        clear HXE HXT HXR HXC HXB HXS hYe hYt hYr hYB hYb hzn hzm hYs hcur hcs hcv hYc hy hy0
        go_wp2_with fail
        go_region_law (first
          | (refine step_call rfl 97 #[.tmp 41] #[3] rfl #[.int .i64 (c : Nat)] (by simp [Act.eval]) (enter67 _ _) _ (bitsSize_step c y HY.out _ (by have := HC.out; omega)) ?_; rintro v w2 ⟨rfl, rfl⟩)
          | (refine step_call rfl 99 #[.tmp 43] #[9] rfl #[.string (S.extract y S.size)] (by simp [Act.eval, Act.put]) (enter69 _ _) _ (wordsOf_step (S.extract y S.size) h _ (by have := HY0.out; have := HSZ.out; simp; omega) (by simp; omega)) ?_; rintro v w2 ⟨ad2, cc2, rfl, hown2, hb2⟩; obtain ⟨hc2, hf2⟩ := bcell hb2; have q2 : w2.cell? ⟨w.heap.size + 1 + 1, 2, none⟩ = some (.slice (some ⟨w.heap.size + 5, 0, none⟩) s2 s2) := (by rw [hc2 _ _ (by simpa using hn1)]; simpa using t2))
          | (refine step_copy_row rfl (.tmp 38) (.tmp 44) 28 28 rfl 3 Tryz.underlying28 Tryz.sizeInt _ _ _ _ _ _ rfl rfl (w.heap.size + 5) 0 cur.toList 3 ((hb2.block _ (by simpa using hn5)).trans HCUR.out) ((Pl.wordsL (S.extract y S.size) 0 h).flatMap encI) (by rw [encI_len, Pl.wordsL_len, Nat.mul_one]; exact (Nat.min_eq_left hh).symm) (fun hp => ⟨rfl, own_src hown2 (by rw [encI_len, Pl.wordsL_len, Nat.mul_one] at hp; exact hp)⟩) (by rw [encI_len, Pl.wordsL_len, Array.length_toList, HCS.out]; omega) (encI_one _) ?_; intro w3 hg3 ho3))
        all_goals
          have hb2' := below_then_drew1 hb2
          have hz3 := ho3.size
          have hz2 := hb2'.size
          have hle : w.heap.size + 7 <= w1.heap.size := HYS.out
          have hzt : ∀ i, i < 8 -> w3.cell? ⟨w.heap.size + 1 + 1, i, none⟩ = some (if i = 4 then .int .i64 (c : Nat) else if i = 6 then .int .i64 (h : Nat) else tabV w.heap.size s0 s1 s2 s3 4 i) := fun i hi => by
            have := ((HYT.out.below hb2' (by omega)).same (ho3.block _ (by omega))).cell (i := i) (j := 0) hi (by omega)
            rwa [Nat.mul_one, Nat.add_zero] at this
          have d0 : w3.cell? ⟨w.heap.size + 1 + 1, 0, none⟩ = some (.slice (some ⟨w.heap.size + 3, 0, none⟩) s0 s0) := hzt 0 (by omega)
          have d1 : w3.cell? ⟨w.heap.size + 1 + 1, 1, none⟩ = some (.slice (some ⟨w.heap.size + 4, 0, none⟩) s1 s1) := hzt 1 (by omega)
          have d2 : w3.cell? ⟨w.heap.size + 1 + 1, 2, none⟩ = some (.slice (some ⟨w.heap.size + 5, 0, none⟩) s2 s2) := hzt 2 (by omega)
          have d3 : w3.cell? ⟨w.heap.size + 1 + 1, 3, none⟩ = some (.slice (some ⟨w.heap.size + 6, 0, none⟩) s3 s3) := hzt 3 (by omega)
          have d4 : w3.cell? ⟨w.heap.size + 1 + 1, 4, none⟩ = some (.int .i64 (c : Nat)) := hzt 4 (by omega)
          have d5 : w3.cell? ⟨w.heap.size + 1 + 1, 5, none⟩ = some (.int .i64 0) := hzt 5 (by omega)
          have d6 : w3.cell? ⟨w.heap.size + 1 + 1, 6, none⟩ = some (.int .i64 (h : Nat)) := hzt 6 (by omega)
          have d7 : w3.cell? ⟨w.heap.size + 1 + 1, 7, none⟩ = some (.int .i64 0) := hzt 7 (by omega)
          have HR3 := hideF ((HYR.out.below hb2' (by omega)).same (ho3.block _ (by omega)))
          have f3 : ∀ k, w3.frozen? ⟨w.heap.size + 1, k, none⟩ = false := fun k => HR3.out.frozen k
          have r3 : ∀ i, i < 8 -> w3.cell? ⟨w.heap.size + 1, i, none⟩ = some (tabV w.heap.size s0 s1 s2 s3 0 i) := fun i hi => by
            have := HR3.out.cell (i := i) (j := 0) hi (by omega)
            rwa [Nat.mul_one, Nat.add_zero] at this
          have r0 := r3 0 (by omega)
          have r1 := r3 1 (by omega)
          have r2 := r3 2 (by omega)
          have r33 := r3 3 (by omega)
          have r4 := r3 4 (by omega)
          have r5 := r3 5 (by omega)
          have r6 := r3 6 (by omega)
          have r7 := r3 7 (by omega)
          have HO3 := hideF ho3
          have HB2' := hideF hb2'
          clear hzt ho3 hb2 hb2' hc2 hf2 q2 c0 c1 c2 c3 c4 c5 c6 c7 c8 t2 hown2 HR3 r3
          go_wp2_with fail
          refine bodyPost_ret (v := .agg #[.slice (some ⟨w.heap.size + 3, 0, none⟩) s0 s0, .slice (some ⟨w.heap.size + 4, 0, none⟩) s1 s1, .slice (some ⟨w.heap.size + 5, 0, none⟩) s2 s2, .slice (some ⟨w.heap.size + 6, 0, none⟩) s3 s3, .int .i64 (c : Nat), .int .i64 0, .int .i64 (h : Nat), .int .i64 0]) (by simp [results, Tryz.results65, go_sem, r0, r1, r2, r33, r4, r5, r6, r7]) rfl ?_
          have e3 := fun i (hi : i < 4) (h2 : i ≠ 2) => ((HYE.out i hi).below HB2'.out (by omega)).same (HO3.out.block _ (show w.heap.size + 3 + i ≠ w.heap.size + 5 by omega))
          have e2 := tab_words HY0.out HSZ.out hh HCS.out hg3.out HCV.out
          refine ⟨rfl, grid_set8 (e3 0 (by omega) (by omega)) (by omega) _ _ _ _ _ _ _ _, grid_set8 (e3 1 (by omega) (by omega)) (by omega) _ _ _ _ _ _ _ _, grid_set8 e2 (by omega) _ _ _ _ _ _ _ _, grid_set8 (e3 3 (by omega) (by omega)) (by omega) _ _ _ _ _ _ _ _, bel8 (HO3.out.below (HYB.out.trans (HB2'.out.mono HYB.out.size)) (by omega)) (by omega) _ _ _ _ _ _ _ _⟩
end Go.Proofs.YtcpldcojckhapaaGreat
