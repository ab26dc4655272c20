/-
  
-/
import Derived.Test.YtcpldcojckhapaaGreatNa
import Derived.Test.YtcpldcojckhapaaGreatJ30
import Derived.Deep.CutBlock
import Derived.Test.YtcpldcojckhapaaGreatJ19
import Derived.Test.YtcpldcojckhapaaGreatJ27
import Derived.Test.YtcpldcojckhapaaGreatJ28
import Derived.Deep.RegionHeld3
import Derived.Test.YtcpldcojckhapaaGreatJ31
set_option maxRecDepth 100000
namespace Go.Proofs.YtcpldcojckhapaaGreat
open Go.RowKit
theorem Tryz.infoE4 : (Tryz.prog.info? 4).map (fun i => (i.zero, i.size, i.bytes)) = some (some (.bool false), 1, 1) := by kernel_rfl
theorem made_strs (n : Nat) (hn : n <= 1000) (W : World) : (Instr.makeSlice 30 (.int .i64 (n : Int)) (.int .i64 (n : Int))).run Tryz.prog W = .ok (.slice (some ⟨W.heap.size, 0, none⟩) n n) (W.alloc (.cells (madeCells #[.string ⟨#[]⟩] n) 9)) :=
  run_make_row' 30 9 _ 16 Tryz.underlying30 Tryz.infoET rfl .i64 .i64 n (by omega) (by omega) W
theorem made_bools (n : Nat) (hn : n <= 1000) (W : World) : (Instr.makeSlice 45 (.int .i64 (n : Int)) (.int .i64 (n : Int))).run Tryz.prog W = .ok (.slice (some ⟨W.heap.size, 0, none⟩) n n) (W.alloc (.cells (madeCells #[.bool false] n) 4)) :=
  run_make_row' 45 4 _ 1 Tryz.underlying45 Tryz.infoE4 rfl .i64 .i64 n (by omega) (by omega) W
def entK (cc : Nat) (K : List Int) (i k : Nat) : Int := if i = 0 then (if k < cc then K.getD k 0 else 0) else if i = 2 then K.getD (cc + k) 0 else 0
theorem take_getD (K : List Int) (q k : Nat) (x : Int) (hx : K[q]? = some x) : (K.take (q + 1)).getD k 0 = if k = q then x else (K.take q).getD k 0 := by
  rw [take_succ_at K q x hx]
  have hl : (K.take q).length = q := by have := (List.getElem?_eq_some_iff.1 hx).1; simp; omega
  rw [List.getD_eq_getElem?_getD, List.getD_eq_getElem?_getD]
  by_cases e : k = q
  . subst e
    rw [List.getElem?_append_right (by omega), hl, Nat.sub_self, if_pos rfl]; rfl
  . rw [if_neg e]
    rcases Nat.lt_or_ge k q with h | h
    . rw [List.getElem?_append_left (by omega)]
    . rw [List.getElem?_eq_none (by simp; omega), List.getElem?_eq_none (by omega)]
theorem entK_keptL (c h : Nat) (S : ByteArray) (i k : Nat) : entK c (keptL (entC c h S) c h) i k = entC c h S i k := by
  have hl : ((List.range c).map (entC c h S 0)).length = c := by simp
  unfold entK keptL
  by_cases h0 : i = 0
  . subst h0
    rw [if_pos rfl]
    by_cases hk : k < c
    . rw [if_pos hk, List.getD_eq_getElem?_getD, List.getElem?_append_left (by omega), List.getElem?_map, List.getElem?_range hk]; rfl
    . rw [if_neg hk]
      unfold entC
      rw [if_pos rfl, if_neg hk]; rfl
  . rw [if_neg h0]
    by_cases h2 : i = 2
    . subst h2
      rw [if_pos rfl, List.getD_eq_getElem?_getD, List.getElem?_append_right (by omega), hl, Nat.add_sub_cancel_left]
      by_cases hk : k < h
      . rw [List.getElem?_map, List.getElem?_range hk]; rfl
      . rw [List.getElem?_eq_none (by simp; omega)]
        unfold entC
        rw [if_neg (by decide), if_pos rfl, if_neg hk]; rfl
    . rw [if_neg h2]
      unfold entC
      rw [if_neg h0, if_neg h2]
def tqV (D : Dev) (N q j : Nat) : Value := if j < q then .slice (some ⟨N + 4 + j, 0, none⟩) (D.sz j) (D.sz j) else .slice none 0 0
def opC (D : Dev) (lb cap yb zb N q : Nat) : Array Value :=
  #[.int .i64 (D.sz 0 : Nat), .int .i64 (D.sz 1 : Nat), .int .i64 (D.sz 2 : Nat), .int .i64 (D.sz 3 : Nat), .int .i64 (D.kp 0 : Nat), .int .i64 (D.kp 2 : Nat), .int .i64 (D.unit : Nat), .slice (some ⟨lb, 0, none⟩) D.nl cap, .int .i64 (D.batch : Nat),
    tqV D N q 0, tqV D N q 1, tqV D N q 2, tqV D N q 3, .slice (some ⟨yb, 0, none⟩) D.nl D.nl, .slice (some ⟨zb, 0, none⟩) D.nl D.nl, .slice none 0 0, .int .i64 0, .slice none 0 0, .int .i64 0]
def cfgA (D : Dev) (lb cap : Nat) : Array Value := #[.int .i64 (D.sz 0 : Nat), .int .i64 (D.sz 1 : Nat), .int .i64 (D.sz 2 : Nat), .int .i64 (D.sz 3 : Nat), .int .i64 (D.kp 0 : Nat), .int .i64 (D.kp 2 : Nat), .int .i64 (D.unit : Nat), .slice (some ⟨lb, 0, none⟩) D.nl cap, .int .i64 (D.batch : Nat)]
structure OpSt (w wr : World) (D : Dev) (lb cap yb zb q : Nat) (K : List Int) : Prop where
  box : wr.heap[w.heap.size]? = some (.cells (cfgA D lb cap) 39 (0, 0))
  dev : wr.heap[w.heap.size + 3]? = some (.cells (opC D lb cap yb zb w.heap.size q) 48 (0, 0))
  ybs : Grid wr yb 9 D.nl 1 (fun _ _ => .string ⟨#[]⟩)
  zbs : Grid wr zb 4 D.nl 1 (fun _ _ => .bool false)
  tab : ∀ j, j < q -> Grid wr (w.heap.size + 4 + j) 3 (D.sz j) 1 (fun k _ => .int .i64 (entK (D.kp 0) K j k))
  yz : (yb = w.heap.size + 1 /\ zb = w.heap.size + 2) ∨ (yb = w.heap.size + 2 /\ zb = w.heap.size + 1)
  size : wr.heap.size = w.heap.size + 4 + q
  bel : Below w.heap.size w wr
section
variable {w wr : World} {D : Dev} {lb cap yb zb q : Nat} {K : List Int}
theorem OpSt.drew (h : OpSt w wr D lb cap yb zb q K) : OpSt w wr.drew D lb cap yb zb q K :=
  ⟨h.box, h.dev, h.ybs.same rfl, h.zbs.same rfl, fun j hj => (h.tab j hj).same rfl, h.yz, h.size, h.bel.drew⟩
theorem OpSt.step (h : OpSt w wr D lb cap yb zb q []) (hq : q < 4) :
    OpSt w ((wr.alloc (.cells (madeCells #[.int .i64 0] (D.sz q)) 3)).setCell ⟨w.heap.size + 3, 9 + q, none⟩ (.slice (some ⟨w.heap.size + 4 + q, 0, none⟩) (D.sz q) (D.sz q))) D lb cap yb zb (q + 1) [] := by
  have hsz := h.size
  have hyz := h.yz
  have hd := heap_setCell_same (wr.alloc (.cells (madeCells #[.int .i64 0] (D.sz q)) 3)) (w.heap.size + 3) (9 + q) _ 48 (.slice (some ⟨w.heap.size + 4 + q, 0, none⟩) (D.sz q) (D.sz q)) ((heap_alloc_old wr _ (by omega)).trans h.dev)
  have hne : ∀ g, g ≠ w.heap.size + 3 -> g < wr.heap.size -> ((wr.alloc (.cells (madeCells #[.int .i64 0] (D.sz q)) 3)).setCell ⟨w.heap.size + 3, 9 + q, none⟩ (.slice (some ⟨w.heap.size + 4 + q, 0, none⟩) (D.sz q) (D.sz q))).heap[g]? = wr.heap[g]? := fun g h1 h2 => by
    rw [heap_setCell_other _ ⟨w.heap.size + 3, 9 + q, none⟩ g _ h1]; exact heap_alloc_old wr _ h2
  refine ⟨(hne _ (by omega) (by omega)).trans h.box, ?_, h.ybs.same (hne _ (by omega) (by omega)), h.zbs.same (hne _ (by omega) (by omega)), fun j hj => ?_, hyz, by simp; omega, ?_⟩
  . rw [hd]
    rcases (show q = 0 ∨ q = 1 ∨ q = 2 ∨ q = 3 by omega) with rfl | rfl | rfl | rfl <;> rfl
  . by_cases e : j = q
    . subst e
      have := grid_ints wr (D.sz j)
      rw [hsz] at this
      refine (this.set_other (K := w.heap.size + 3) (9 + j) (by omega) _).congr fun k _ _ _ => ?_
      show _ = Value.int .i64 (entK _ [] j k)
      unfold entK
      simp
    . exact (h.tab j (by omega)).same (hne _ (by omega) (by omega))
  . exact (h.bel.alloc h.bel.size _).setCell (show w.heap.size <= w.heap.size + 3 by omega) _
theorem OpSt.put {x : Int} (h : OpSt w wr D lb cap yb zb 4 (K.take q)) (hx : K[q]? = some x) (j k : Nat) (hj : (q < D.kp 0 /\ j = 0 /\ k = q) ∨ (¬ q < D.kp 0 /\ j = 2 /\ k = q - D.kp 0)) (hk : k < D.sz j) : OpSt w (wr.setCell ⟨w.heap.size + 4 + j, k, none⟩ (.int .i64 x)) D lb cap yb zb 4 (K.take (q + 1)) := by
  have hsz := h.size
  have hyz := h.yz
  have hj4 : j < 4 := by omega
  have hne : ∀ g, g ≠ w.heap.size + 4 + j -> (wr.setCell ⟨w.heap.size + 4 + j, k, none⟩ (.int .i64 x)).heap[g]? = wr.heap[g]? := fun g h1 => heap_setCell_other wr ⟨w.heap.size + 4 + j, k, none⟩ g _ h1
  have ht := take_getD K q
  refine ⟨(hne _ (by omega)).trans h.box, (hne _ (by omega)).trans h.dev, h.ybs.same (hne _ (by omega)), h.zbs.same (hne _ (by omega)), fun i hi => ?_, hyz, by simp; exact hsz, h.bel.setCell (show w.heap.size <= w.heap.size + 4 + j by omega) _⟩
  by_cases e : i = j
  . subst e
    have hG := (h.tab i hi).set (i := k) (j := 0) hk (by omega) (.int .i64 x)
    rw [Nat.mul_one, Nat.add_zero] at hG
    refine hG.congr fun a b _ hb => ?_
    obtain rfl : b = 0 := by omega
    by_cases ea : a = k
    . subst ea
      rw [if_pos ⟨rfl, rfl⟩]
      congr 1
      unfold entK
      rcases hj with ⟨h1, rfl, rfl⟩ | ⟨h1, rfl, rfl⟩
      . rw [if_pos rfl, if_pos h1, ht _ x hx, if_pos rfl]
      . have e20 : ¬ (2 : Nat) = 0 := by decide
        rw [if_neg e20, if_pos rfl, ht _ x hx, if_pos (by omega)]
    . rw [if_neg (fun e => ea e.1)]
      congr 1
      unfold entK
      rcases hj with ⟨h1, rfl, rfl⟩ | ⟨h1, rfl, rfl⟩
      . rw [if_pos rfl, if_pos rfl, ht _ x hx, if_neg ea]
      . have e20 : ¬ (2 : Nat) = 0 := by decide
        rw [if_neg e20, if_neg e20, if_pos rfl, if_pos rfl, ht _ x hx, if_neg (by omega)]
  . refine ((h.tab i hi).same (hne _ (by omega))).congr fun a b _ hb => ?_
    congr 1
    unfold entK
    rcases hj with ⟨h1, rfl, rfl⟩ | ⟨h1, rfl, rfl⟩
    . rw [if_neg e, if_neg e]
      by_cases e2 : i = 2
      . rw [if_pos e2, if_pos e2, ht _ x hx, if_neg (by omega)]
      . rw [if_neg e2, if_neg e2]
    . by_cases e0 : i = 0
      . rw [if_pos e0, if_pos e0]
        by_cases ha : a < D.kp 0
        . rw [if_pos ha, if_pos ha, ht _ x hx, if_neg (by omega)]
        . rw [if_neg ha, if_neg ha]
      . rw [if_neg e0, if_neg e0, if_neg e, if_neg e]
end
theorem size_al (w : World) (o : Obj) : (w.alloc o).heap.size = w.heap.size + 1 := by simp
theorem grid_one (w : World) (z : Value) (n : Nat) (t : TypeId) : Grid (w.alloc (.cells (madeCells #[z] n) t)) w.heap.size t n 1 (fun _ _ => z) := by
  have := grid_made w #[z] n 1 t rfl
  rw [Nat.mul_one] at this
  refine this.congr fun _ j _ hj => ?_
  obtain rfl : j = 0 := by omega
  rfl
theorem opSt_one (w : World) (D : Dev) (lb cap : Nat) : OpSt w (((((w.alloc (.cells (cfgA D lb cap) 39)).alloc (.cells (madeCells #[.string ⟨#[]⟩] D.nl) 9)).alloc (.cells (madeCells #[.bool false] D.nl) 4)).alloc (.cells (opC D lb cap (w.heap.size + 1) (w.heap.size + 1 + 1) w.heap.size 0) 48)).drew) D lb cap (w.heap.size + 1) (w.heap.size + 1 + 1) 0 [] := by
  refine OpSt.drew ?_
  have b1 : Below w.heap.size w (w.alloc (.cells (cfgA D lb cap) 39)) := bel_alloc (Below.refl _ _) _
  refine ⟨?_, ?_, ?_, ?_, fun j hj => absurd hj (Nat.not_lt_zero _), .inl ⟨rfl, rfl⟩, by simp only [size_al], bel_alloc (bel_alloc (bel_alloc b1 _) _) _⟩
  . rw [heap_alloc_old _ _ (by simp; omega), heap_alloc_old _ _ (by simp; omega), heap_alloc_old _ _ (by simp)]
    exact heap_alloc_new w _
  . have := heap_alloc_new (((w.alloc (.cells (cfgA D lb cap) 39)).alloc (.cells (madeCells #[.string ⟨#[]⟩] D.nl) 9)).alloc (.cells (madeCells #[.bool false] D.nl) 4)) (.cells (opC D lb cap (w.heap.size + 1) (w.heap.size + 1 + 1) w.heap.size 0) 48)
    simp only [size_al] at this
    exact this
  . have := grid_one (w.alloc (.cells (cfgA D lb cap) 39)) (.string ⟨#[]⟩) D.nl 9
    simp only [size_al] at this
    exact (this.alloc _).alloc _
  . have := grid_one ((w.alloc (.cells (cfgA D lb cap) 39)).alloc (.cells (madeCells #[.string ⟨#[]⟩] D.nl) 9)) (.bool false) D.nl 4
    simp only [size_al] at this
    exact this.alloc _
theorem opSt_two (w : World) (D : Dev) (lb cap : Nat) : OpSt w (((((w.alloc (.cells (cfgA D lb cap) 39)).alloc (.cells (madeCells #[.bool false] D.nl) 4)).alloc (.cells (madeCells #[.string ⟨#[]⟩] D.nl) 9)).alloc (.cells (opC D lb cap (w.heap.size + 1 + 1) (w.heap.size + 1) w.heap.size 0) 48)).drew) D lb cap (w.heap.size + 1 + 1) (w.heap.size + 1) 0 [] := by
  refine OpSt.drew ?_
  have b1 : Below w.heap.size w (w.alloc (.cells (cfgA D lb cap) 39)) := bel_alloc (Below.refl _ _) _
  refine ⟨?_, ?_, ?_, ?_, fun j hj => absurd hj (Nat.not_lt_zero _), .inr ⟨rfl, rfl⟩, by simp only [size_al], bel_alloc (bel_alloc (bel_alloc b1 _) _) _⟩
  . rw [heap_alloc_old _ _ (by simp; omega), heap_alloc_old _ _ (by simp; omega), heap_alloc_old _ _ (by simp)]
    exact heap_alloc_new w _
  . have := heap_alloc_new (((w.alloc (.cells (cfgA D lb cap) 39)).alloc (.cells (madeCells #[.bool false] D.nl) 4)).alloc (.cells (madeCells #[.string ⟨#[]⟩] D.nl) 9)) (.cells (opC D lb cap (w.heap.size + 1 + 1) (w.heap.size + 1) w.heap.size 0) 48)
    simp only [size_al] at this
    exact this
  . have := grid_one ((w.alloc (.cells (cfgA D lb cap) 39)).alloc (.cells (madeCells #[.bool false] D.nl) 4)) (.string ⟨#[]⟩) D.nl 9
    simp only [size_al] at this
    exact this.alloc _
  . have := grid_one (w.alloc (.cells (cfgA D lb cap) 39)) (.bool false) D.nl 4
    simp only [size_al] at this
    exact (this.alloc _).alloc _
theorem enter55 (x : Value) (w : World) : (callFunc 55 #[x]).run Tryz.prog w = .ok (.enter 55 #[x]) w := by kernel_rfl
set_option maxHeartbeats 4000000 in
theorem ropen_any (D : Dev) (lb cap B C : Nat) (c : Nat -> Nat) (kv : Value) (K : List Int) (w : World) (hz : ∀ i, i < 4 -> D.sz i <= 60) (hc : D.kp 0 <= D.sz 0) (hh : D.kp 2 <= D.sz 2) (hn : D.nl <= 4) (hKl : K.length <= D.kp 0 + D.kp 2) (hkv : w.ownsRow C 3 1 kv K.length (K.flatMap encI)) (hent : ∀ i k, i < 4 -> D.ent i k = entK (D.kp 0) K i k)
    (hlb : ∃ cur, w.heap[lb]? = some (.cells cur 3 (0, 0))) (hln : ∀ i, i < D.nl -> w.cell? ⟨lb, i, none⟩ = some (.int .i64 ((D.ln i).kind : Nat))) (hcl : c lb = 5) (hB : B <= w.heap.size) (hu : D.uns = 0) (hw : D.wait = []) :
    Calls Tryz.prog 16 #[.agg (cfgA D lb cap), kv] w fun e w' => ∃ p c', e = .returned (.pointer (some ⟨p.r, 0, none⟩)) /\ RefIn w' B c' p D [keptL D.ent (D.kp 0) (D.kp 2)] 0 (fun _ => ⟨#[]⟩) (fun _ => false) /\ Agr w c c' /\ Below w.heap.size w w' /\ p.lb = lb /\ p.cap = cap /\ w.heap.size <= p.r := by
  have hms := made_strs D.nl (by omega)
  have hmb := made_bools D.nl (by omega)
  obtain ⟨W, hW, hWs, hWb, hWg⟩ := cfg_new w (D.sz 0 : Nat) (D.sz 1 : Nat) (D.sz 2 : Nat) (D.sz 3 : Nat) (D.kp 0 : Nat) (D.kp 2 : Nat) (D.unit : Nat) (D.batch : Nat) (.slice (some ⟨lb, 0, none⟩) D.nl cap)
  obtain ⟨c0, c1, c2, c3, c4, c5, c6, c7, c8⟩ := cells9 hWg
  unfold cfgA
  go_enter Tryz.func16, Tryz.ntmps16
  go_upto_region 1 with fail
  go_cut [5] from 8 to 18 (fun r wx => r = .pointer (some ⟨w.heap.size + 3, 0, none⟩) /\ ∃ yb zb, OpSt w wx D lb cap yb zb 0 [])
  case first =>
    go_region
    . go_wp2
      go_meet
      exact ⟨rfl, _, _, opSt_one w D lb cap⟩
    . go_wp2
      go_meet
      exact ⟨rfl, _, _, opSt_two w D lb cap⟩
  case rest =>
    obtain ⟨rfl, yb, zb, hst0⟩ := hcut
    have HST0 := hideF hst0
    have HKV := hideF hkv
    have HENT := hideF hent
    have HLB := hideF hlb
    have HLN := hideF hln
    have HZ := hideF hz
    have hmk : ∀ (W : World) (q : Nat), q < 4 -> (Instr.makeSlice 28 (.int .i64 (D.sz q : Nat)) (.int .i64 (D.sz q : Nat))).run Tryz.prog W = .ok (.slice (some ⟨W.heap.size, 0, none⟩) (D.sz q) (D.sz q)) (W.alloc (.cells (madeCells #[.int .i64 0] (D.sz q)) 3)) := fun W q hq => made_ints _ (by have := hz q hq; omega) W
    have HMK := hideF hmk
    clear hst0 hkv hent hlb hln hz hmk hms hmb hW hWs hWb hWg c0 c1 c2 c3 c4 c5 c6 c7 c8
    go_upto_block 0 with fail
    go_cut [6] from 19 to 32 (fun i wx => OpSt w wx D lb cap yb zb 4 [])
    case first =>
      go_wp2_with fail
      go_loopw [6] (fun i wr => ∃ q : Nat, q <= 4 /\ i = .int .i64 (q : Nat) /\ OpSt w wr D lb cap yb zb q []) (fun i _ => 4 - (intOf i).toNat)
      case atStart => exact ⟨0, by omega, rfl, HST0.out⟩
      case round =>
        obtain ⟨q, hq, rfl, hst⟩ := hrel
        by_cases hq4 : q < 4
        . have hsz := hst.size
          have hm := fun W => HMK.out W q hq4
          have hbx : wr.cell? ⟨w.heap.size, q, none⟩ = some (.int .i64 (D.sz q : Nat)) := by
            rw [cell_of_row _ _ _ _ _ _ hst.box]
            rcases (show q = 0 ∨ q = 1 ∨ q = 2 ∨ q = 3 by omega) with rfl | rfl | rfl | rfl <;> rfl
          have hdl := lt_of_block hst.dev
          have hcl2 : ∀ o, (wr.alloc o).cell? ⟨w.heap.size + 3, 9 + q, none⟩ = some (.slice none 0 0) := fun o => by
            rw [cell_of_row _ _ _ _ _ _ ((heap_alloc_old wr o hdl).trans hst.dev)]
            rcases (show q = 0 ∨ q = 1 ∨ q = 2 ∨ q = 3 by omega) with rfl | rfl | rfl | rfl <;> rfl
          have hfz : ∀ o, (wr.alloc o).frozen? ⟨w.heap.size + 3, 9 + q, none⟩ = false := fun o => frozen_of_row _ _ _ _ _ ((heap_alloc_old wr o hdl).trans hst.dev)
          have HST := hideF (hst.step hq4)
          clear hst
          go_wp2_with fail
          go_region
          go_wp2
          go_roundw
          case rel => exact ⟨q + 1, by omega, by go_num, HST.out.drew⟩
          case measure => simp [intOf]; omega
        . obtain rfl : q = 4 := by omega
          have HST := hideF hst
          clear hst
          go_wp2
          go_meet
          exact HST.out
    case rest =>
      have hst := hcut
      clear hcut HST0 HMK
      have HST := hideF hst
      clear hst
      obtain ⟨av, cv, rfl, _⟩ := own_view HKV.out
      go_upto_block 2 with fail
      go_cut [7] from 33 to 67 (fun i wx => OpSt w wx D lb cap yb zb 4 K)
      case first =>
        go_wp2_with fail
        go_loopw [7] (fun i wr => ∃ q : Nat, q <= K.length /\ i = .int .i64 (q : Nat) /\ OpSt w wr D lb cap yb zb 4 (K.take q)) (fun i _ => K.length - (intOf i).toNat)
        case atStart => exact ⟨0, by omega, rfl, HST.out⟩
        case round =>
          obtain ⟨q, hq, rfl, hst⟩ := hrel
          by_cases hqK : q < K.length
          . obtain ⟨x, hx⟩ : ∃ x, K[q]? = some x := ⟨_, List.getElem?_eq_getElem hqK⟩
            have HQK := hideF hqK
            have HW9 : Hid (wrap64 ((q : Int) + 1) = ((q + 1 : Nat) : Int)) := by show _ = _; have := HZ.out 0 (by omega); have := HZ.out 2 (by omega); simp only [wrap64]; omega
            have HQ9 : Hid (q <= 200) := by show q <= 200; have := HZ.out 0 (by omega); have := HZ.out 2 (by omega); omega
            obtain ⟨gv, rfl, hgv, hcv⟩ := row_at HKV.out rfl q hqK
            have hcv' : wr.cell? ⟨gv, q, none⟩ = some (.int .i64 x) := by rw [(bcell hst.bel).1 _ _ hgv, hcv, List.getD_eq_getElem?_getD, hx]; rfl
            have hsz := hst.size
            have hkc : wr.cell? ⟨w.heap.size, 4, none⟩ = some (.int .i64 (D.kp 0 : Nat)) := (cell_of_row _ _ _ _ _ _ hst.box).trans rfl
            have ht0 : wr.cell? ⟨w.heap.size + 3, 9, none⟩ = some (.slice (some ⟨w.heap.size + 4 + 0, 0, none⟩) (D.sz 0) (D.sz 0)) := (cell_of_row _ _ _ _ _ _ hst.dev).trans rfl
            have ht2 : wr.cell? ⟨w.heap.size + 3, 11, none⟩ = some (.slice (some ⟨w.heap.size + 4 + 2, 0, none⟩) (D.sz 2) (D.sz 2)) := (cell_of_row _ _ _ _ _ _ hst.dev).trans rfl
            by_cases hqc : q < D.kp 0
            . have hqI : (q : Int) < (D.kp 0 : Int) := by omega
              have hqs : (q : Int) < (D.sz 0 : Int) := by omega
              have hE : wr.cell? ⟨w.heap.size + 4 + 0, q, none⟩ = some (.int .i64 (entK (D.kp 0) (K.take q) 0 q)) := by have := (hst.tab 0 (by omega)).cell (i := q) (j := 0) (by omega) (by omega); rwa [Nat.mul_one, Nat.add_zero] at this
              have hEf := (hst.tab 0 (by omega)).frozen q
              have HST2 := hideF (hst.put hx 0 q (.inl ⟨hqc, rfl, rfl⟩) (by omega))
              clear hst
              go_wp2_with fail
              go_region
              go_wp2
              go_roundw
              case rel => exact ⟨q + 1, HQK.out, by rw [HW9.out], HST2.out.drew⟩
              case measure => have := HQK.out; rw [HW9.out]; simp only [intOf]; omega
            . have hqI : (D.kp 0 : Int) <= (q : Int) := by omega
              have e1 : IntKind.i64.wrap ((q : Int) - (D.kp 0 : Int)) = ((q - D.kp 0 : Nat) : Int) := by have := HZ.out 0 (by omega); have := HZ.out 2 (by omega); rw [IntKind.wrap_i64]; omega
              have hqs : ((q - D.kp 0 : Nat) : Int) < (D.sz 2 : Int) := by omega
              have hE : wr.cell? ⟨w.heap.size + 4 + 2, q - D.kp 0, none⟩ = some (.int .i64 (entK (D.kp 0) (K.take q) 2 (q - D.kp 0))) := by have := (hst.tab 2 (by omega)).cell (i := q - D.kp 0) (j := 0) (by omega) (by omega); rwa [Nat.mul_one, Nat.add_zero] at this
              have hEf := (hst.tab 2 (by omega)).frozen (q - D.kp 0)
              have HST2 := hideF (hst.put hx 2 (q - D.kp 0) (.inr ⟨hqc, rfl, rfl⟩) (by omega))
              clear hst
              go_wp2_with fail
              go_region
              go_wp2
              go_roundw
              case rel => exact ⟨q + 1, HQK.out, by rw [HW9.out], HST2.out.drew⟩
              case measure => have := HQK.out; rw [HW9.out]; simp only [intOf]; omega
          . obtain rfl : q = K.length := by omega
            rw [List.take_length] at hst
            have HST := hideF hst
            clear hst
            go_wp2
            go_meet
            exact HST.out
      case rest =>
        have hst := hcut
        clear hcut HST
        have hsz := hst.size
        have hyz := hst.yz
        obtain ⟨cl, hcl0⟩ := HLB.out
        have hlbl := lt_of_block hcl0
        have hR : RefIn wc B (colN w c 3) { r := w.heap.size + 3, yb := yb, zb := zb, lb := lb, cap := cap, G := fun j => w.heap.size + 4 + j, wv := .slice none 0 0, lv := .slice none 0 0, vs := [] } D [] 0 (fun _ => ⟨#[]⟩) (fun _ => false) := by
          refine ⟨?_, fun j hj => (hst.tab j hj).congr fun k _ _ _ => by rw [HENT.out j k hj], fun a b _ _ hab => ?_, ⟨cl, (hst.bel.block lb hlbl).trans hcl0⟩, fun j hj => ((bcell hst.bel).1 _ _ hlbl).trans (HLN.out j hj), hst.ybs, hst.zbs, by rw [hw]; exact World.ownsRow_nil _ _ _ _, World.ownsRow_nil _ _ _ _, fun j l hj => by simp at hj, colN_new w c 3 _ (by show w.heap.size <= w.heap.size + 3; omega), fun j _ => colN_new w c 3 _ (by show w.heap.size <= w.heap.size + 4 + j; omega), colN_new w c 3 _ (by show w.heap.size <= yb; omega), colN_new w c 3 _ (by show w.heap.size <= zb; omega), fun g hg => by simp [Value.ownBlock] at hg, fun g hg => by simp [Value.ownBlock] at hg, (colN_agr w c 3 lb hlbl).trans hcl, by show B <= w.heap.size + 3; omega, fun j _ => by show B <= w.heap.size + 4 + j; omega, by show B <= yb; omega, by show B <= zb; omega, by omega⟩
          . rw [hst.dev]
            unfold refC opC
            rw [hu]
            rfl
          . show w.heap.size + 4 + a ≠ w.heap.size + 4 + b
            omega
        have hbel := hst.bel
        have hcl17 : wc.cell? ⟨w.heap.size + 3, 17, none⟩ = some (.slice none 0 0) := (cell_of_row _ _ _ _ _ _ hst.dev).trans rfl
        have HR := hideF hR
        have HBEL := hideF hbel
        have HDV := hideF hst.dev
        have hdl := lt_of_block hst.dev
        obtain ⟨i0, ji, jz0, jz1, jz2⟩ := info_parts Tryz.infoE28
        clear hR hst hbel
        go_wp2_with fail
        go_region_law (first
          | (refine step_call rfl 55 #[.tmp 73] #[50] rfl #[.pointer (some ⟨w.heap.size + 3, 0, none⟩)] (by first | (simp [Act.eval]; done) | simp [Act.eval, Act.put]) (enter55 _ _) _ (rkept_any _ B (colN w c 3) { r := w.heap.size + 3, yb := yb, zb := zb, lb := lb, cap := cap, G := fun j => w.heap.size + 4 + j, wv := .slice none 0 0, lv := .slice none 0 0, vs := [] } D [] 0 (fun _ => ⟨#[]⟩) (fun _ => false) (by first | exact HR.out | exact HR.out.below (Below.refl _ _).drew) HZ.out hc hh) ?_; rintro v1 w1 ⟨ho1, hb1⟩; obtain ⟨a1, k1, rfl, _⟩ := own_view ho1; have c1' : w1.cell? ⟨w.heap.size + 3, 17, none⟩ = some (.slice none 0 0) := ((bcell hb1).1 _ _ (by simp; omega)).trans hcl17; have hdl1 : w.heap.size + 3 < w1.heap.size := (by have := hb1.size; simp at this; omega); have c1a : ∀ o, (w1.alloc o).cell? ⟨w.heap.size + 3, 17, none⟩ = some (.slice none 0 0) := fun o => (World.cell?_of_block (heap_alloc_old w1 o hdl1)).trans c1')
          | (refine step_append_keep rfl (.tmp 72) (.tmp 75) 24 rfl B 28 i0 _ 1 24 Tryz.underlying24 ji jz0 jz1 jz2 rfl (by decide) (.slice none 0 0) 0 [] (by first | (simp [Act.eval]; done) | simp [Act.eval, Act.put]) (World.ownsRow_nil _ _ _ _) ⟨w1.heap.size, 0, none⟩ 1 1 [.slice a1 (D.kp 0 + D.kp 2) k1] rfl rfl (alloc_news w1 [.slice a1 (D.kp 0 + D.kp 2) k1] 28) (by simp [Value.oneCell']) (by unfold maxLen; omega) (by omega) (by have := hb1.size; simp at this ⊢; omega) ?_; intro v3 w3 hown3 hgrow3 hfr3; obtain ⟨a3, k3, rfl, _⟩ := own_view hown3; have hd3 := (hgrow3.block (w.heap.size + 3) (by have := hb1.size; simp at this ⊢; omega) (by simp [Value.ownBlock])).trans ((heap_alloc_old w1 _ (by have := hb1.size; simp at this ⊢; omega)).trans ((hb1.block (w.heap.size + 3) (by simp; omega)).trans HDV.out)); have c3 : w3.cell? ⟨w.heap.size + 3, 17, none⟩ = some (.slice none 0 0) := (by rw [cell_of_row _ _ _ _ _ _ hd3]; rfl); have f3 : w3.frozen? ⟨w.heap.size + 3, 17, none⟩ = false := frozen_of_row _ _ _ _ _ hd3))
        all_goals
          have hb1w : Below wc.heap.size wc w1 := below_then_drew1 hb1
          have hs1 := hb1w.size
          have hR1 := HR.out.frame (k := 9) (Fc.of_below hb1w) (colN_agr wc (colN w c 3) 4) (by omega) (by omega) (by omega)
          have hXb : Below w1.heap.size w1 (w1.alloc (.cells #[.slice a1 (D.kp 0 + D.kp 2) k1] 28)) := bel_alloc (Below.refl _ _) _
          have hRF := (hR1.leftPut (l := keptL D.ent (D.kp 0) (D.kp 2)) hXb hown3 hgrow3 hfr3 (by rw [keptL_len]; exact ho1) (by show B <= wc.heap.size; omega) (fun g hg => colN_new wc (colN w c 3) 4 g (ho1.lt g hg).1)).1
          have hBF : Below w.heap.size w (w3.setCell ⟨w.heap.size + 3, 17, none⟩ (.slice a3 1 k3)) := ((bel_alloc (bel_then HBEL.out hb1w) (.cells #[.slice a1 (D.kp 0 + D.kp 2) k1] 28)).grown hgrow3 (by simp; omega) (by simp [Value.ownBlock])).setCell (show w.heap.size <= w.heap.size + 3 by omega) _
          have HRF := hideF hRF
          have HBF := hideF hBF
          have HAG : Hid (Agr w c (colN w1 (colN wc (colN w c 3) 4) 3)) := ((colN_agr w c 3).trans (colN_agr wc _ 4) (by omega)).trans (colN_agr w1 _ 3) (by omega)
          clear hRF hBF hR1 hXb hown3 hgrow3 hfr3 hd3 c3 f3 c1' c1a hb1 ho1 hb1w
          go_wp2
          go_ret
          exact ⟨{ r := w.heap.size + 3, yb := yb, zb := zb, lb := lb, cap := cap, G := fun j => w.heap.size + 4 + j, wv := .slice none 0 0, lv := .slice a3 (0 + 1) k3, vs := [] ++ [.slice a1 (D.kp 0 + D.kp 2) k1] }, rfl, _, HRF.out, HAG.out, HBF.out, rfl, rfl, by show w.heap.size <= w.heap.size + 3; omega⟩
end Go.Proofs.YtcpldcojckhapaaGreat

set_option maxRecDepth 100000
set_option linter.unusedVariables false
namespace Go.Proofs.YtcpldcojckhapaaGreat
open Go.RowKit
theorem acts_at {w : World} {B k : Nat} {a : Option Addr} {l : List (Int × Int × Int × ByteArray)} (h : w.ownsRow B 77 4 (.slice a l.length k) l.length (l.flatMap encA)) (q : Nat) (x : Int × Int × Int × ByteArray) (hx : l[q]? = some x) :
    ∃ g, a = some ⟨g, 0, none⟩ /\ g < w.heap.size /\ w.cell? ⟨g, q * 4, none⟩ = some (.int .u8 x.1) /\ w.cell? ⟨g, q * 4 + 1, none⟩ = some (.int .i64 x.2.1) /\ w.cell? ⟨g, q * 4 + 2, none⟩ = some (.int .i64 x.2.2.1) /\ w.cell? ⟨g, q * 4 + 3, none⟩ = some (.string x.2.2.2) := by
  obtain ⟨a', c', he, hat⟩ := own_view h
  obtain ⟨rfl, rfl⟩ : a' = a /\ c' = k := by simpa using he.symm
  have hlt : q < l.length := (List.getElem?_eq_some_iff.1 hx).1
  have hxe : l[q] = x := by rw [List.getElem?_eq_getElem hlt] at hx; exact Option.some.inj hx
  obtain ⟨g, rfl, hg, hc⟩ := hat q hlt
  refine ⟨g, rfl, hg, ?_, ?_, ?_, ?_⟩
  . have := flat_gen encA 4 (fun _ => rfl) l q 0 hlt (by omega)
    rw [Nat.add_zero] at this
    rw [hc _ (by omega), this, hxe]; rfl
  . have := flat_gen encA 4 (fun _ => rfl) l q 1 hlt (by omega)
    rw [hc _ (by omega), this, hxe]; rfl
  . have := flat_gen encA 4 (fun _ => rfl) l q 2 hlt (by omega)
    rw [hc _ (by omega), this, hxe]; rfl
  . have := flat_gen encA 4 (fun _ => rfl) l q 3 hlt (by omega)
    rw [hc _ (by omega), this, hxe]; rfl
end Go.Proofs.YtcpldcojckhapaaGreat

set_option maxRecDepth 100000
namespace Go.Proofs.YtcpldcojckhapaaGreat
open Go.RowKit
section
variable {w X w3 : World} {B : Nat} {c : Nat -> Nat} {q : Plc} {D : Dev} {s : Ls} {nd : Nat}
theorem RigIn.cells (h : RigIn w B c q D s nd) : w.cell? ⟨q.g, 0, none⟩ = some (.pointer (some ⟨q.d, 0, none⟩)) /\ w.cell? ⟨q.g, 1, none⟩ = some (.pointer (some ⟨q.p.r, 0, none⟩)) /\ w.cell? ⟨q.g, 11, none⟩ = some q.dv /\ w.cell? ⟨q.g, 12, none⟩ = some q.wt /\ w.cell? ⟨q.g, 13, none⟩ = some (.int .i64 (s.least : Nat)) /\ (∀ j, w.frozen? ⟨q.g, j, none⟩ = false) /\ q.g < w.heap.size :=
  ⟨(cell_of_row _ _ _ _ _ _ h.rig).trans rfl, (cell_of_row _ _ _ _ _ _ h.rig).trans rfl, (cell_of_row _ _ _ _ _ _ h.rig).trans rfl, (cell_of_row _ _ _ _ _ _ h.rig).trans rfl, (cell_of_row _ _ _ _ _ _ h.rig).trans rfl, fun _ => frozen_of_row _ _ _ _ _ h.rig, lt_of_block h.rig⟩
theorem RigIn.wetPut {v3 : Value} {a : Int × Int × Int × ByteArray} (h : RigIn w B c q D s nd) (hX : Below w.heap.size w X) (ho : w3.ownsRow B 77 4 v3 (s.wet.length + 1) (s.wet.flatMap encA ++ encA a)) (hg : X.grownBy w3 q.wt.ownBlock) (hfr : ∀ g', v3.ownBlock = some g' -> q.wt.ownBlock = some g' ∨ X.heap.size <= g') :
    RigIn (w3.setCell ⟨q.g, 12, none⟩ v3) B (colN w c 7) { q with wt := v3 } D { s with wet := s.wet ++ [a] } nd /\ Fc c 7 w (w3.setCell ⟨q.g, 12, none⟩ v3) := by
  have hXs := hX.size
  have hs3 := hg.size
  have hgl := lt_of_block h.rig
  have hwg : q.wt.ownBlock ≠ some q.g := fun e => by
    obtain ⟨cl, hcl⟩ := own_block h.wet _ e
    exact ne_types hcl h.rig (by decide) rfl
  have hd3 : w3.heap[q.g]? = some (.cells (rigC q D s.least) 52 (0, 0)) := ((hg.block q.g (by omega) (fun e => hwg e.symm)).trans (hX.block q.g hgl)).trans h.rig
  refine ⟨⟨heap_setCell_same w3 q.g 12 _ 52 v3 hd3, own_same h.dk fun g hg2 => ?_, ?_, (colN_agr w c 7 _ hgl).trans h.cg, fun g hg2 => (colN_agr w c 7 g (h.dk.lt g hg2).2).trans (h.cd g hg2), fun g hg2 => ?_, h.lo⟩, (((Fc.of_below hX).grown hg (fun g hg2 => .inr (h.cw g hg2))).setCell q.g 12 (.inr h.cg) v3)⟩
  . obtain ⟨cg, hcg⟩ := own_block h.dk g hg2
    rw [heap_setCell_other w3 ⟨q.g, 12, none⟩ g v3 (ne_types hcg h.rig (by decide)), hg.block g (by have := lt_of_block hcg; omega) (fun e => by
      obtain ⟨cl, hcl⟩ := own_block h.wet _ e.symm
      exact ne_types hcg hcl (by decide) rfl)]
    exact hX.block g (lt_of_block hcg)
  . show World.ownsRow _ B 77 4 v3 (s.wet ++ [a]).length ((s.wet ++ [a]).flatMap encA)
    rw [List.length_append, List.length_singleton, List.flatMap_append, show [a].flatMap encA = encA a by simp]
    refine own_same ho fun g hg2 => heap_setCell_other w3 ⟨q.g, 12, none⟩ g v3 (fun e => ?_)
    subst e
    rcases hfr _ hg2 with r | r
    . exact hwg r
    . have : X.heap.size <= q.g := r
      omega
  . rcases hfr g hg2 with r | r
    . rw [colN_agr w c 7 g (h.wet.lt g r).2]; exact h.cw g r
    . exact colN_new w c 7 g (by omega)
theorem RigIn.wetNil (h : RigIn w B c q D s nd) : RigIn (w.setCell ⟨q.g, 12, none⟩ (.slice none 0 0)) B c { q with wt := .slice none 0 0 } D { s with wet := [] } nd /\ Fc c 7 w (w.setCell ⟨q.g, 12, none⟩ (.slice none 0 0)) := by
  refine ⟨⟨heap_setCell_same w q.g 12 _ 52 _ h.rig, own_same h.dk fun g hg => ?_, World.ownsRow_nil _ _ _ _, h.cg, h.cd, fun g hg => by simp [Value.ownBlock] at hg, h.lo⟩, (Fc.refl c 7 w).setCell q.g 12 (.inr h.cg) _⟩
  obtain ⟨cg, hcg⟩ := own_block h.dk g hg
  exact heap_setCell_other w ⟨q.g, 12, none⟩ g _ (ne_types hcg h.rig (by decide))
theorem RigIn.leastPut (h : RigIn w B c q D s nd) (n : Nat) : RigIn (w.setCell ⟨q.g, 13, none⟩ (.int .i64 (n : Nat))) B c q D { s with least := n } nd /\ Fc c 7 w (w.setCell ⟨q.g, 13, none⟩ (.int .i64 (n : Nat))) := by
  refine ⟨⟨heap_setCell_same w q.g 13 _ 52 _ h.rig, own_same h.dk fun g hg => ?_, own_same h.wet fun g hg => ?_, h.cg, h.cd, h.cw, h.lo⟩, (Fc.refl c 7 w).setCell q.g 13 (.inr h.cg) _⟩
  . obtain ⟨cg, hcg⟩ := own_block h.dk g hg
    exact heap_setCell_other w ⟨q.g, 13, none⟩ g _ (ne_types hcg h.rig (by decide))
  . obtain ⟨cg, hcg⟩ := own_block h.wet g hg
    exact heap_setCell_other w ⟨q.g, 13, none⟩ g _ (ne_types hcg h.rig (by decide))
theorem secV_len (f : Nat -> ByteArray) (nd : Nat) : (secV f nd).length = nd := by
  unfold secV; rw [flat_len encT 1 (fun _ => rfl)]; simp
theorem secV_at (f : Nat -> ByteArray) (nd j : Nat) (hj : j < nd) : (secV f nd)[j]? = some (.string (f j)) := by
  unfold secV
  have := flat_gen encT 1 (fun _ => rfl) ((List.range nd).map f) j 0 (by simpa using hj) (by omega)
  rw [Nat.mul_one, Nat.add_zero] at this
  rw [this]
  simp [encT]
theorem RigIn.disk (h : RigIn w B c q D s nd) (hn : 0 < nd) : ∃ gd cap, q.dv = .slice (some ⟨gd, 0, none⟩) nd cap /\ gd < w.heap.size /\ c gd = 7 /\ (∀ j, j < nd -> w.cell? ⟨gd, j, none⟩ = some (.string (s.dk j))) /\ (∀ j, w.frozen? ⟨gd, j, none⟩ = false) := by
  rcases h.dk.2 with ⟨_, e⟩ | ⟨g, cap, cur, e1, hb, hg, h1, h2, h3, h4⟩
  . omega
  . refine ⟨g, cap, e1, lt_of_block hg, h.cd g (by rw [e1]; rfl), fun j hj => ?_, fun j => frozen_of_row _ _ _ _ _ hg⟩
    have := h.dk.cells (g := g) (by rw [e1]; rfl) j _ (secV_at s.dk nd j hj)
    have e : (⟨g, 0, none⟩ : Addr).add j = ⟨g, j, none⟩ := by by_cases h0 : j = 0 <;> simp [Addr.add, h0]
    rwa [e] at this
theorem RigIn.dkPut {gd cap j : Nat} {x : ByteArray} (h : RigIn w B c q D s nd) (he : q.dv = .slice (some ⟨gd, 0, none⟩) nd cap) (hj : j < nd) : RigIn (w.setCell ⟨gd, j, none⟩ (.string x)) B c q D { s with dk := fun i => if i = j then x else s.dk i } nd /\ Fc c 7 w (w.setCell ⟨gd, j, none⟩ (.string x)) := by
  rcases h.dk.2 with ⟨e, _⟩ | ⟨g, cap', cur, e1, hb, hg, h1, h2, h3, h4⟩
  . rw [he] at e; simp at e
  . rw [he] at e1
    simp only [Value.slice.injEq, Option.some.injEq, Addr.mk.injEq, and_true, true_and] at e1
    obtain ⟨rfl, rfl⟩ := e1
    have hc7 : c gd = 7 := h.cd gd (by rw [he]; rfl)
    refine ⟨⟨(heap_setCell_other w ⟨gd, j, none⟩ q.g _ (fun e => ne_types hg h.rig (by decide) e.symm)).trans h.rig, ?_, own_same h.wet fun k hk => ?_, h.cg, h.cd, h.cw, h.lo⟩, (Fc.refl c 7 w).setCell gd j (.inr hc7) _⟩
    . refine ⟨by rw [secV_len]; omega, .inr ⟨gd, cap, cur.setIfInBounds j (.string x), he, hb, heap_setCell_same w gd j _ 9 _ hg, h1, h2, by simp; omega, ?_⟩⟩
      apply List.ext_getElem?
      intro i
      have hi : (cur.toList.take (nd * 1))[i]? = (secV s.dk nd)[i]? := by rw [h4]
      rw [Nat.mul_one] at hi ⊢
      by_cases hin : i < nd
      . rw [List.getElem?_take_of_lt hin, secV_at _ _ _ hin]
        rw [List.getElem?_take_of_lt hin, secV_at _ _ _ hin] at hi
        show _ = some (Value.string (if i = j then x else s.dk i))
        by_cases e : i = j
        . subst e
          rw [if_pos rfl]
          have : i < cur.size := by omega
          simp [this]
        . rw [if_neg e]
          simp only [Array.getElem?_toList] at hi ⊢
          rw [Array.getElem?_setIfInBounds_ne (fun h => e h.symm)]
          exact hi
      . rw [List.getElem?_eq_none (by simp; omega), List.getElem?_eq_none (by rw [secV_len]; omega)]
    . obtain ⟨cg, hcg⟩ := own_block h.wet k hk
      exact heap_setCell_other w ⟨gd, j, none⟩ k _ (ne_types hcg hg (by decide))
end
theorem sends_at {w : World} {B k : Nat} {a : Option Addr} {l : List (Int × Int × ByteArray)} (h : w.ownsRow B 113 3 (.slice a l.length k) l.length (l.flatMap encW)) (q : Nat) (x : Int × Int × ByteArray) (hx : l[q]? = some x) :
    ∃ g, a = some ⟨g, 0, none⟩ /\ g < w.heap.size /\ w.cell? ⟨g, q * 3, none⟩ = some (.int .i64 x.2.1) /\ w.cell? ⟨g, q * 3 + 1, none⟩ = some (.string x.2.2) /\ w.cell? ⟨g, q * 3 + 2, none⟩ = some (.int .i64 x.1) := by
  obtain ⟨hlt, hxe⟩ := List.getElem?_eq_some_iff.1 hx
  obtain ⟨a', c', e, hc⟩ := own_view h
  simp only [Value.slice.injEq, true_and] at e
  obtain ⟨rfl, rfl⟩ := e
  obtain ⟨g, rfl, hg, hc⟩ := hc q hlt
  have hl : l.length * 3 = (l.flatMap encW).length := (encW_len l).symm
  refine ⟨g, rfl, hg, ?_, ?_, ?_⟩
  . have := flat_gen encW 3 (fun _ => rfl) l q 0 hlt (by omega)
    rw [hc _ (by omega), <- Nat.add_zero (q * 3), this, hxe]; rfl
  . have := flat_gen encW 3 (fun _ => rfl) l q 1 hlt (by omega)
    rw [hc _ (by omega), this, hxe]; rfl
  . have := flat_gen encW 3 (fun _ => rfl) l q 2 hlt (by omega)
    rw [hc _ (by omega), this, hxe]; rfl
end Go.Proofs.YtcpldcojckhapaaGreat
