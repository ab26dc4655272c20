/-
  
-/
import Derived.Test.YtcpldcojckhapaaGreatJ36
import Derived.Test.YtcpldcojckhapaaGreatJ19
set_option maxRecDepth 100000
namespace Go.Proofs.YtcpldcojckhapaaGreat
open Go.RowKit
def encPc (p : Nat × ByteArray) : List Value := [.int .i64 (p.1 : Nat), .string p.2]
def pcsUp (ln : Nat -> Ln) : Nat -> List (Nat × ByteArray)
  | 0 => []
  | q + 1 => if (ln q).kind = 1 then pcsUp ln q ++ [(q, (ln q).bytes)] else pcsUp ln q
theorem pcsUp_len (ln : Nat -> Ln) : ∀ q, (pcsUp ln q).length <= q
  | 0 => Nat.le_refl _
  | q + 1 => by
    have := pcsUp_len ln q
    unfold pcsUp
    split
    . rw [List.length_append]; simp; omega
    . omega
def hushed (l : Ln) : Ln := if l.kind = 1 then { l with bytes := ⟨#[]⟩ } else l
theorem Tryz.infoPc : (Tryz.prog.info? 178).map (fun i => (i.zero, i.size, i.bytes)) = some (some (.agg #[.int .i64 0, .string ⟨#[]⟩]), 2, 24) := by kernel_rfl
theorem chg_app {L n size : Nat} {e : TypeId} {v : Value} {xs : List Value} {w wr w3 : World} {o : Obj} (h : Chg1 L w wr) (ho : wr.ownsRow w.heap.size e size v n xs) (hg : (wr.alloc o).grownBy w3 v.ownBlock) : Chg1 L w w3 := by
  have hs := h.size
  have hsz : (wr.alloc o).heap.size = wr.heap.size + 1 := by simp
  refine ⟨hg.os.trans h.os, hg.tape.trans h.tape, hg.output.trans h.output, by have := hg.size; omega, fun k hk hne => ?_⟩
  refine (hg.block k (by omega) fun e => ?_).trans ((heap_alloc_old wr o (by omega)).trans (h.block k hk hne))
  have := (ho.lt k e.symm).1
  omega
def IsSil (c rest : Code) : Prop := ∃ x y, Tryz.f68.body = some (.seq x (.seq y (.seq c rest)))
def nPost (J : Array Value -> World -> Prop) : Exit -> Act -> World -> Prop
  | .normal, a, w => a.defers = [] /\ J a.tmps w
  | _, _, _ => False
theorem nPost_eq {J : Array Value -> World -> Prop} {e : Exit} {a : Act} {w : World} (h : nPost J e a w) : e = .normal /\ a.defers = [] /\ J a.tmps w := by
  cases e with
  | normal => exact ⟨rfl, h⟩
  | _ => exact h.elim
def SilJ (L n : Nat) (ln : Nat -> Ln) (w : World) (tm : Array Value) (w' : World) : Prop :=
  ∃ v s4 s5 s6 s7 s8 s9 s10 s11 s12 s13 s14 s15 s16 s17 s18 s19 s20 s21 s22 s23 s24 s25 s26 s27 s28 s29 s30 s31 : Value, tm = #[.slice (some ⟨L, 0, none⟩) n n, undef, .slice none 0 0, v, s4, s5, s6, s7, s8, s9, s10, s11, s12, s13, s14, s15, s16, s17, s18, s19, s20, s21, s22, s23, s24, s25, s26, s27, s28, s29, s30, s31] /\ w'.ownsRow w.heap.size 178 2 v (pcsUp ln n).length ((pcsUp ln n).flatMap encPc) /\ Grid w' L 116 n 3 (fun a j => lnc (hushed (ln a)) j) /\ Chg1 L w w'
set_option maxHeartbeats 2000000 in
theorem silence_wp (c rest : Code) (hc : IsSil c rest) (L n : Nat) (ln : Nat -> Ln) (w : World) (hn : n <= 4) (hG : Grid w L 116 n 3 (fun a j => lnc (ln a) j)) :
    c.wp Tryz.prog (nPost (SilJ L n ln w)) ⟨#[.slice (some ⟨L, 0, none⟩) n n, undef, .slice none 0 0, .slice none 0 0, undef, undef, undef, undef, undef, undef, undef, undef, undef, undef, undef, undef, undef, undef, undef, undef, undef, undef, undef, undef, undef, undef, undef, undef, undef, undef, undef, undef], []⟩ w := by
  obtain ⟨x, y, hb⟩ := hc
  have hb' := hb.symm
  simp only [Tryz.f68, Option.some.injEq, Code.seq.injEq] at hb'
  obtain ⟨_, _, rfl, _⟩ := hb'
  clear hb
  obtain ⟨i0, hi, hz0, hz1, hz2⟩ := info_parts Tryz.infoPc
  have hLl := hG.lt
  have HG := hideF hG
  clear hG
  go_wp2_with fail
  go_loopw [7, 3] (fun i o wr => ∃ q : Nat, q <= n /\ i = .int .i64 (q : Nat) /\ wr.ownsRow w.heap.size 178 2 o (pcsUp ln q).length ((pcsUp ln q).flatMap encPc) /\ Grid wr L 116 n 3 (fun a j => lnc (if a < q then hushed (ln a) else ln a) j) /\ Chg1 L w wr) (fun i _ _ => n - (intOf i).toNat)
  case atStart => exact ⟨0, by omega, rfl, World.ownsRow_nil _ _ _ _, HG.out.congr fun i j _ _ => by simp, Chg1.refl _ _⟩
  case round =>
    obtain ⟨q, hq, rfl, hown, hgr, hch⟩ := hrel
    by_cases hlt : q < n
    . have hlq := pcsUp_len ln q
      have hk0 : wr.cell? ⟨L, q * 3, none⟩ = some (.int .i64 ((ln q).kind : Nat)) := by have := hgr.cell hlt (j := 0) (by omega); rw [Nat.add_zero] at this; rw [this, if_neg (Nat.lt_irrefl _)]; rfl
      have hk1 : wr.cell? ⟨L, q * 3 + 1, none⟩ = some (.string (ln q).bytes) := by have := hgr.cell hlt (j := 1) (by omega); rw [this, if_neg (Nat.lt_irrefl _)]; rfl
      have hfz := hgr.frozen (q * 3 + 1)
      have HO := hideF hown
      have HGR := hideF hgr
      have HCH := hideF hch
      have hqI : (q : Int) < (n : Int) := by omega
      have hszr := hch.size
      clear hown hgr hch
      by_cases h1 : (ln q).kind = 1
      . have t1 : (((ln q).kind : Int) == 1) = true := by simp [h1]
        have HS : Hid (pcsUp ln (q + 1) = pcsUp ln q ++ [(q, (ln q).bytes)]) := by show _ = _; rw [pcsUp, if_pos h1]
        have H1 := hideF h1
        clear h1
        go_wp2_with (at_builtin; refine wpList_append_own _ rfl (.tmp 16) (.tmp 24) 131 rfl w.heap.size 178 i0 (.agg #[.int .i64 0, .string ⟨#[]⟩]) 2 24 Tryz.underlying131 hi hz0 hz1 hz2 rfl (by decide) u3 (pcsUp ln q).length _ rfl (HO.out.alloc _) ⟨wr.heap.size, 0, none⟩ 1 1 [.int .i64 (q : Nat), .string (ln q).bytes] rfl rfl (cell_two_new _ _ _ _) (by intro u hu; simp at hu; rcases hu with rfl | rfl <;> rfl) (by unfold maxLen; omega) (by omega) (by simp; omega) ?_; intro v' w3 hown3 hgrow3 _; have e3 : w3.heap[L]? = wr.heap[L]? := (hgrow3.block L (by simp; omega) (fun e => by have := (HO.out.lt L e.symm).1; omega)).trans (heap_alloc_old wr _ (by omega)); have hG3 := HGR.out.same e3; have hk3 : w3.cell? ⟨L, q * 3 + 1, none⟩ = some (.string (ln q).bytes) := (World.cell?_of_block e3).trans hk1; have hf3 := hG3.frozen (q * 3 + 1); have HG3 := hideF hG3; clear hG3)
        go_roundw
        case rel =>
          refine ⟨q + 1, by omega, by go_num, ?_, ?_, ?_⟩
          . rw [HS.out, List.length_append, List.flatMap_append]
            exact own_same hown3 (fun g hg => heap_setCell_other w3 ⟨L, q * 3 + 1, none⟩ g _ (by have := (hown3.lt g hg).1; show g ≠ L; omega))
          . refine (HG3.out.set hlt (j := 1) (by omega) (.string ⟨#[]⟩)).congr fun i j hi hj => ?_
            by_cases e : i = q /\ j = 1
            . rw [if_pos e, e.1, e.2, if_pos (Nat.lt_succ_self q)]
              simp [lnc, hushed, H1.out]
            . rw [if_neg e]
              by_cases e2 : i = q
              . subst e2
                rw [if_neg (Nat.lt_irrefl _), if_pos (Nat.lt_succ_self _)]
                have : j ≠ 1 := fun h => e ⟨rfl, h⟩
                unfold hushed
                rw [if_pos H1.out]
                simp [lnc, this]
              . have : (i < q + 1) = (i < q) := by apply propext; omega
                simp only [this]
          . exact (chg_app HCH.out HO.out hgrow3).setCell _ _
        case measure => simp [intOf]; omega
      . have t1 : (((ln q).kind : Int) == 1) = false := by rw [beq_eq_false_iff_ne]; omega
        have HS : Hid (pcsUp ln (q + 1) = pcsUp ln q) := by show _ = _; rw [pcsUp, if_neg h1]
        have H1 := hideF h1
        clear h1
        go_wp2_with fail
        go_roundw
        case rel =>
          refine ⟨q + 1, by omega, by go_num, by rw [HS.out]; exact HO.out, HGR.out.congr fun i j hi hj => ?_, HCH.out⟩
          by_cases e2 : i = q
          . subst e2
            rw [if_neg (Nat.lt_irrefl _), if_pos (Nat.lt_succ_self _)]
            unfold hushed
            rw [if_neg H1.out]
          . have : (i < q + 1) = (i < q) := by apply propext; omega
            simp only [this]
        case measure => simp [intOf]; omega
    . obtain rfl : q = n := by omega
      have HO := hideF hown
      have HGR := hideF hgr
      have HCH := hideF hch
      clear hown hgr hch
      go_wp2
      exact ⟨rfl, _, _, _, _, _, _, _, _, _, _, _, _, _, _, _, _, _, _, _, _, _, _, _, _, _, _, _, _, _, rfl, HO.out, HGR.out.congr fun i j hi hj => by rw [if_pos hi], HCH.out⟩
end Go.Proofs.YtcpldcojckhapaaGreat

set_option maxRecDepth 100000
namespace Go.Proofs.YtcpldcojckhapaaGreat
open Go.RowKit
set_option maxHeartbeats 1000000 in
theorem len64_4 (n : Nat) (hn : n <= 4) (w : World) : Calls Tryz.prog 162 #[.int .u64 (n : Nat)] w fun e w' => ∃ x, e = .returned (.int .i64 x) /\ w' = w := by
  rcases (show n = 0 ∨ n = 1 ∨ n = 2 ∨ n = 3 ∨ n = 4 by omega) with rfl | rfl | rfl | rfl | rfl
  all_goals
    go_enter Tryz.func162, Tryz.ntmps162
    go_wp2
    go_ret
    exact ⟨_, rfl, rfl⟩
set_option maxHeartbeats 1000000 in
theorem len_4 (n : Nat) (hn : n <= 4) (w : World) : Calls Tryz.prog 131 #[.int .u64 (n : Nat)] w fun e w' => ∃ x, e = .returned (.int .i64 x) /\ w' = w := by
  go_enter Tryz.func131, Tryz.ntmps131
  go_wp2_with fail
  refine (len64_4 n hn w).mono ?_
  rintro e w1 ⟨x, rfl, rfl⟩
  go_wp2
  go_ret
  exact ⟨_, rfl, rfl⟩
set_option maxHeartbeats 1000000 in
theorem insert_1 (n : Nat) (hn : n <= 1) (v f : Value) (w : World) : Calls Tryz.prog 153 #[v, .int .i64 0, .int .i64 (n : Nat), f] w fun e w' => e = .returned (.tuple #[]) /\ w' = w := by
  have h1 : decide ((1 : Int) < (n : Int)) = false := by simp; omega
  go_enter Tryz.func153, Tryz.ntmps153
  go_wp2_with fail
  go_loopw [8] (fun i wr => i = .int .i64 1 /\ wr = w) (fun _ _ => 0)
  case atStart => exact ⟨rfl, rfl⟩
  case round =>
    obtain ⟨rfl, rfl⟩ := hrel
    go_wp2
    exact bodyPost_end (v := .tuple #[]) (by simp [results, Tryz.results153, go_sem]) rfl ⟨rfl, rfl⟩
set_option maxHeartbeats 1000000 in
theorem pdq_1 (n : Nat) (hn : n <= 1) (v f : Value) (x : Int) (w : World) : Calls Tryz.prog 130 #[v, .int .i64 0, .int .i64 (n : Nat), .int .i64 x, f] w fun e w' => e = .returned (.tuple #[]) /\ w' = w := by
  have h1 : decide ((n : Int) <= 12) = true := by simp; omega
  have HI := hideF (insert_1 n hn v f w)
  go_enter Tryz.func130, Tryz.ntmps130
  go_wp2_with fail
  go_loopw [1, 2] (fun i j wr => i = .int .i64 0 /\ j = .int .i64 (n : Nat) /\ wr = w) (fun _ _ _ => 0)
  case atStart => exact ⟨rfl, rfl, rfl⟩
  case round =>
    obtain ⟨rfl, rfl, rfl⟩ := hrel
    go_wp2_with fail
    refine HI.out.mono ?_
    rintro e w1 ⟨rfl, rfl⟩
    go_wp2
    exact bodyPost_ret (v := .tuple #[]) (by simp [results, Tryz.results130, go_sem]) rfl ⟨rfl, rfl⟩
set_option maxHeartbeats 1000000 in
theorem sort_1 (n c : Nat) (hn : n <= 1) (a : Option Addr) (f : Value) (w : World) : Calls Tryz.prog 103 #[.slice a n c, f] w fun e w' => e = .returned (.tuple #[]) /\ w' = w := by
  go_enter Tryz.func103, Tryz.ntmps103
  go_wp2_with fail
  refine (len_4 n (by omega) w).mono ?_
  rintro e w1 ⟨x, rfl, rfl⟩
  go_wp2_with fail
  refine (pdq_1 n hn _ f x w1).mono ?_
  rintro e w2 ⟨rfl, rfl⟩
  go_wp2
  exact bodyPost_end (v := .tuple #[]) (by simp [results, Tryz.results103, go_sem]) rfl ⟨rfl, rfl⟩
end Go.Proofs.YtcpldcojckhapaaGreat

set_option maxRecDepth 100000
namespace Go.Proofs.YtcpldcojckhapaaGreat
open Go.RowKit
def IsLA (r2 rest : Code) : Prop := ∃ x y, Tryz.f67.body = some (.seq x (.seq y (.seq r2 rest)))
theorem mk_chan (W : World) : (Instr.makeChan 172 (.int .i64 0)).run Tryz.prog W = .ok (.chan (some W.heap.size)) (W.alloc (.chan 0 #[] false 0 0 false)) := by
  have h : ∃ i, Tryz.prog.info? 134 = some i := by
    cases h : Tryz.prog.info? 134 with
    | none => have : (Tryz.prog.info? 134).isSome = true := by kernel_rfl
              rw [h] at this; cases this
    | some i => exact ⟨i, rfl⟩
  obtain ⟨i, hi⟩ := h
  simp [Instr.makeChan, asInt, asIntOf, run_underlying Tryz.underlying172, typeInfo, hi]
set_option maxHeartbeats 2000000 in
theorem chans_wp (r2 rest : Code) (hr : IsLA r2 rest) (w : World) (pv h : Value) (s7 s8 s9 : Value) (J : Array Value -> World -> Prop) (hQ : ∀ (x : Bool) (k : Nat), J #[pv, undef, .slice none 0 0, h, .chan (some (if x then w.heap.size else w.heap.size + 1)), .chan (some (if x then w.heap.size + 1 else w.heap.size)), undef, s7, s8, s9, .chan (some (if x then w.heap.size else w.heap.size + 1)), .chan (some (if x then w.heap.size + 1 else w.heap.size)), undef, undef, undef, undef, undef, undef, undef, undef, undef, undef, undef, undef, undef, undef] (((w.alloc (.chan 0 #[] false 0 0 false)).alloc (.chan 0 #[] false 0 0 false)).drewN k)) :
    r2.wp Tryz.prog (nPost J) ⟨#[pv, undef, .slice none 0 0, h, undef, undef, undef, s7, s8, s9, undef, undef, undef, undef, undef, undef, undef, undef, undef, undef, undef, undef, undef, undef, undef, undef], []⟩ w := by
  obtain ⟨x, y, hb⟩ := hr
  have hb' := hb.symm
  simp only [Tryz.f67, Option.some.injEq, Code.seq.injEq] at hb'
  obtain ⟨_, _, rfl, _⟩ := hb'
  clear hb
  have HQ := hideF hQ
  have hmk := mk_chan
  clear hQ
  go_region_with (simp only [hmk])
  . exact ⟨rfl, HQ.out true _⟩
  . exact ⟨rfl, HQ.out false _⟩
end Go.Proofs.YtcpldcojckhapaaGreat

set_option maxRecDepth 100000
set_option linter.unusedSimpArgs false
namespace Go.Proofs.YtcpldcojckhapaaGreat
open Go.Conc Go.RowKit
theorem Tr.wpN {P : Program} {V : Env} {k : List Item} {cs : List Frame} {Q : Array Goroutine -> World -> Trace -> Prop} (hV : Fit P V) {c : Code} {fn : FuncId} (hc : okCode V fn c = true) {tmps : Array Value} (hs : Slots V fn tmps) {I : World -> Prop} (hI : Cl I) {J : Array Value -> World -> Prop} (hJ : ∀ a, Cl (J a))
    (hw : ∀ w, I w -> c.wp P (nPost J) ⟨tmps, []⟩ w) (hn : ∀ tmps', Tri P (G ((base fn).at ⟨tmps', []⟩ k) cs) (J tmps') Q) : Tri P (G ((base fn).at ⟨tmps, []⟩ (.code c :: k)) cs) I Q :=
  Tr.wp hV hc hs hI hJ (fun w hi => Code.wp_mono (fun _ _ _ q => nPost_eq q) (hw w hi)) hn
open Classical in
noncomputable def findF (ps : List Pc) : List Fd := ps.filterMap fun p => if Pl.serOk p.2 then some ⟨p.1, Pl.byt p.2 0, p.2.extract 1 (p.2.size - 2)⟩ else none
theorem finds_map (ps : List Pc) : finds ps = (findF ps).map Fd.v := by
  induction ps with
  | nil => rfl
  | cons p ps ih =>
    unfold finds findF at ih ⊢
    rw [List.filterMap_cons, List.filterMap_cons]
    by_cases h : Pl.serOk p.2
    . simp only [h, if_true, List.map_cons, ih]; rfl
    . simp only [h, if_false, ih]
theorem findF_split (ps : List Pc) (k : Nat) : findF (ps.take k) ++ findF (ps.drop k) = findF ps := by
  unfold findF
  rw [<- List.filterMap_append, List.take_append_drop]
theorem findF_len (ps : List Pc) : (findF ps).length <= ps.length := List.length_filterMap_le _ _
theorem rowS_hi {P : Program} {w : World} {es : Array Event} {t e : TypeId} {i : TypeInfo} {g o n c k : Nat} (h : P.underlying t = some (.slice e)) (hi : P.info? e = some i) (h1 : k <= c) : (Instr.sliceAt t (.slice (some ⟨g, o, none⟩) n c) none (some (.int .i64 (k : Nat))) none).events P w es = es /\ (Instr.sliceAt t (.slice (some ⟨g, o, none⟩) n c) none (some (.int .i64 (k : Nat))) none).run P w = .ok (.slice (some ⟨g, o, none⟩) k c) w := by
  have h2 : ¬ c < k := by omega
  constructor
  . simp [Instr.sliceAt, Instr.slice, Instr.sliceBounds, Instr.sliceBound, run_underlying h, asIntOf, h1, sizeOf, typeInfo, hi]
  . simp [Instr.sliceAt, Instr.slice, Instr.sliceBounds, Instr.sliceBound, run_underlying h, asIntOf, h1, h2, sizeOf, typeInfo, hi, Addr.add]
theorem rowS_lo {P : Program} {w : World} {es : Array Event} {t e : TypeId} {i : TypeInfo} {g n c k : Nat} (h : P.underlying t = some (.slice e)) (hi : P.info? e = some i) (h1 : k < n) (h2 : n <= c) : (Instr.sliceAt t (.slice (some ⟨g, 0, none⟩) n c) (some (.int .i64 (k : Nat))) none none).events P w es = es /\ (Instr.sliceAt t (.slice (some ⟨g, 0, none⟩) n c) (some (.int .i64 (k : Nat))) none none).run P w = .ok (.slice (some ⟨g, k * i.size, none⟩) (n - k) (c - k)) w := by
  have h3 : k <= n := by omega
  have hne : ¬ c = k := by omega
  constructor
  . simp [Instr.sliceAt, Instr.slice, Instr.sliceBounds, Instr.sliceBound, run_underlying h, asIntOf, h3, sizeOf, typeInfo, hi]
  . by_cases hz : k * i.size = 0
    . simp [Instr.sliceAt, Instr.slice, Instr.sliceBounds, Instr.sliceBound, run_underlying h, asIntOf, h3, sizeOf, typeInfo, hi, hne, Addr.add, hz]
    . simp [Instr.sliceAt, Instr.slice, Instr.sliceBounds, Instr.sliceBound, run_underlying h, asIntOf, h3, sizeOf, typeInfo, hi, hne, Addr.add, hz]
section
variable {P : Program} {a : Act} {ops : Array Oper} {i : Nat} {o : Oper}
theorem sl_hi {t e : TypeId} {x y : Operand} {inf : TypeInfo} {g of n c k : Nat} (hop : o.op = .slice t x none (some y) none) (hx : a.eval x = .slice (some ⟨g, of, none⟩) n c) (hy : a.eval y = .int .i64 (k : Nat)) (h : P.underlying t = some (.slice e)) (hi : P.info? e = some inf) (h1 : k <= c) (w : World) : (execOp a.eval o).run P w = .ok (.value (.slice (some ⟨g, of, none⟩) k c)) w /\ (execOp a.eval o).events P w #[] = #[] := by
  obtain ⟨h2, h3⟩ := rowS_hi (P := P) (w := w) (es := #[]) (g := g) (o := of) (n := n) h hi h1
  unfold execOp
  constructor
  . simp only [hop, hx, hy, Option.map_none, Option.map_some, Sem.run_bind, h3, Result.andThen_ok, Sem.run_pure]
  . simp only [hop, hx, hy, Option.map_none, Option.map_some, Sem.events_bind, h3, h2, Result.evThen_ok, Sem.events_pure]
theorem sl_lo {t e : TypeId} {x y : Operand} {inf : TypeInfo} {g n c k : Nat} (hop : o.op = .slice t x (some y) none none) (hx : a.eval x = .slice (some ⟨g, 0, none⟩) n c) (hy : a.eval y = .int .i64 (k : Nat)) (h : P.underlying t = some (.slice e)) (hi : P.info? e = some inf) (h1 : k < n) (hc : n <= c) (w : World) : (execOp a.eval o).run P w = .ok (.value (.slice (some ⟨g, k * inf.size, none⟩) (n - k) (c - k))) w /\ (execOp a.eval o).events P w #[] = #[] := by
  obtain ⟨h2, h3⟩ := rowS_lo (P := P) (w := w) (es := #[]) (g := g) (n := n) h hi h1 hc
  unfold execOp
  constructor
  . simp only [hop, hx, hy, Option.map_none, Option.map_some, Sem.run_bind, h3, Result.andThen_ok, Sem.run_pure]
  . simp only [hop, hx, hy, Option.map_none, Option.map_some, Sem.events_bind, h3, h2, Result.evThen_ok, Sem.events_pure]
end
section
variable {P : Program} {C : Ch} {main : Bool} {a : Act} {mine : List Nat} {w : World} {ops : Array Oper} {i : Nat} {rest : List Nat} {o : Oper} {b : Frame} {k : List Item} {cs : List Frame} {Stop : List Nat -> Goroutine -> World -> Prop}
theorem gbe_pure {v : Value} (ho : ops[i]? = some o) (hw : Region.wanted o (yielded ops a.tmps) = true) (hk : b.kind ≠ .early) (hr : ∀ (w : World) (K : Result Next -> Prop), K (.ok (.value v) w) -> K ((execOp a.eval o).run P w)) (he : ∀ w : World, (execOp a.eval o).events P w #[] = #[])
    (h : ∃ n, Gb P C main Stop n mine (G (b.at (a.put o.dst v) (.inRegion ops rest :: k)) cs) w) : ∃ n, Gb P C main Stop n mine (G (b.at a (.inRegion ops (i :: rest) :: k)) cs) w := h.elim fun n h => ⟨n + 1, gbo_pure ho hw hk hr he h⟩
theorem gbe_region {id : Nat} (h : ∃ n, Gb P C main Stop n mine (G (b.at a (.inRegion ops (List.range ops.size) :: k)) cs) w) : ∃ n, Gb P C main Stop n mine (G (b.at a (.code (.region id ops false) :: k)) cs) w := h.elim fun n h => ⟨n + 1, gbo_region h⟩
theorem gbe_nil (h : ∃ n, Gb P C main Stop n mine (G (b.at a k) cs) w) : ∃ n, Gb P C main Stop n mine (G (b.at a (.inRegion ops [] :: k)) cs) w := h.elim fun n h => ⟨n + 1, gbo_nil h⟩
theorem gbe_seq {x y : Code} (h : ∃ n, Gb P C main Stop n mine (G (b.at a (.code x :: .code y :: k)) cs) w) : ∃ n, Gb P C main Stop n mine (G (b.at a (.code (.seq x y) :: k)) cs) w := h.elim fun n h => ⟨n + 1, gbo_seq h⟩
theorem gbe_block {id : Nat} {c : Code} (h : ∃ n, Gb P C main Stop n mine (G (b.at a (.code c :: .inBlock id :: k)) cs) w) : ∃ n, Gb P C main Stop n mine (G (b.at a (.code (.block id c) :: k)) cs) w := h.elim fun n h => ⟨n + 1, gbo_block h⟩
theorem gbe_loop {c : Code} (h : ∃ n, Gb P C main Stop n mine (G (b.at a (.code c :: .inLoop c :: k)) cs) w) : ∃ n, Gb P C main Stop n mine (G (b.at a (.code (.loop c) :: k)) cs) w := h.elim fun n h => ⟨n + 1, gbo_loop h⟩
theorem gbe_enter {f : FuncId} {args : Array Operand} {ats : Array TypeId} {fc : Func} {c : Code} {vals : Array Value} (ho : ops[i]? = some o) (hw : Region.wanted o (yielded ops a.tmps) = true) (hk : b.kind ≠ .early) (hop : o.op = .call { callee := .value (.func f), args, argTypes := ats }) (hargs : args.map a.eval = vals) (hf : P.funcs[f]? = some fc) (hname : (fc.name == "runtime.NumGoroutine") = false) (hbody : fc.body = some c)
    (h : ∃ n, Gb P C main Stop n mine (G ((base f).at { tmps := vals ++ Array.replicate (fc.ntmps - vals.size) undef, defers := [] } [.code c]) (b.at a (.inRegion ops (i :: rest) :: k) :: cs)) w) : ∃ n, Gb P C main Stop n mine (G (b.at a (.inRegion ops (i :: rest) :: k)) cs) w := h.elim fun n h => ⟨n + 1, gbo_enter ho hw hk hop hargs hf hname hbody h⟩
end
theorem gath_go {C : Ch} {w w₂ : World} {body rest : Code} {bc : Frame} {ac : Act} {opsc : Array Oper} {ic : Nat} {restc : List Nat} {oc : Oper} {kc : List Item} {csc : List Frame} {K : List Nat -> Goroutine -> World -> Prop} {ls rs : List Fd} {g : Goroutine} (hg : AtG (some (C.c false)) (some (C.c true)) (.slice none 0 0) body rest (bc.at ac (.inRegion opsc (ic :: restc) :: kc) :: csc) g) (hbd : IsGat body rest) (hoc : opsc[ic]? = some oc) (hS : Sits C [] w) (hr : Rel C [] w w₂) (hA : (ls ++ rs).length <= 1000000)
    (hK : ∀ fs, fs.Perm (ls ++ rs) -> ∀ mine w' v, Gat C w mine w' v fs -> K mine (G (bc.at (ac.put oc.dst v) (.inRegion opsc restc :: kc)) csc) w') :
    ∃ n, Gb Tryz.prog C true (StopM Tryz.prog C gZ K ((ls.map Fd.v).length + 1 + ((rs.map Fd.v).length + 1)) (fun s => if s then some (rs.map Fd.v) else some (ls.map Fd.v))) n [] g w₂ := by
  obtain ⟨N, hN⟩ := gathers C w body rest hbd (restc := restc) (kc := kc) (bc := bc) (ac := ac) (csc := csc) hoc K (ls ++ rs) hA hK (ls.length + 1 + (rs.length + 1)) (fun s => if s then some rs else some ls) [] rfl (List.Perm.refl _)
  have e : (fun s : Bool => if s = true then some (rs.map Fd.v) else some (ls.map Fd.v)) = lv (fun s => if s then some rs else some ls) := by
    funext s
    cases s <;> rfl
  rw [List.length_map, List.length_map, e]
  exact ⟨N, hN [] w₂ _ g ⟨(Grew.refl hS).step hr, World.ownsRow_nil _ _ _ _, fun q hq => by cases hq⟩ hg⟩
def Looked (I : World -> Prop) (fs : List Fd) (v : Value) (w' : World) : Prop := ∃ w0, I w0 /\ w0.heap.size <= w'.heap.size /\ (∀ b, b < w0.heap.size -> w'.heap[b]? = w0.heap[b]?) /\ w'.os = w0.os /\ w'.output = w0.output /\ w'.ownsRow w0.heap.size 134 4 v fs.length (fs.flatMap Fd.c)
theorem Looked.cl {I : World -> Prop} {fs : List Fd} {v : Value} : Cl (Looked I fs v) := fun _ _ _ ⟨w0, h1, h2, h3, h4, h5, h6⟩ => ⟨w0, h1, h2, h3, h4, h5, h6⟩
def Heap (w1 w : World) : Prop := w.heap = w1.heap /\ w.os = w1.os /\ w.output = w1.output
theorem heap_cl (w1 : World) : Cl (Heap w1) := fun _ _ _ h => h
theorem two_new (w0 : World) (o : Obj) : ((w0.alloc o).alloc o).heap[w0.heap.size]? = some o /\ ((w0.alloc o).alloc o).heap[w0.heap.size + 1]? = some o /\ (∀ b, b < w0.heap.size -> ((w0.alloc o).alloc o).heap[b]? = w0.heap[b]?) /\ ((w0.alloc o).alloc o).heap.size = w0.heap.size + 2 /\ (((w0.alloc o).alloc o).os = w0.os /\ ((w0.alloc o).alloc o).output = w0.output) := by
  have hs : (w0.alloc o).heap.size = w0.heap.size + 1 := by simp
  refine ⟨?_, ?_, fun b hb => ?_, by simp, rfl, rfl⟩
  . rw [heap_alloc_old (w0.alloc o) o (by omega)]; exact heap_alloc_new w0 o
  . rw [<- hs]; exact heap_alloc_new (w0.alloc o) o
  . rw [heap_alloc_old (w0.alloc o) o (by omega), heap_alloc_old w0 o hb]
theorem pcs_at {w : World} {B g n cap : Nat} {ps : List Pc} (h : w.ownsRow B 178 2 (.slice (some ⟨g, 0, none⟩) n cap) ps.length (ps.flatMap encPc)) : g < w.heap.size /\ ∀ (j : Nat) (p : Pc), ps[j]? = some p -> w.rangeAt g (j * 2) (encPc p) := by
  have hc := h.cells (g := g) rfl
  refine ⟨?_, fun j p hj q v hv => ?_⟩
  . rcases h.2 with ⟨e, _⟩ | ⟨g', _, _, e, _, hg, _⟩
    . cases e
    . simp only [Value.slice.injEq, Option.some.injEq, Addr.mk.injEq] at e
      rw [e.1.1]
      exact lt_of_block hg
  . have hjl : j < ps.length := (List.getElem?_eq_some_iff.1 hj).1
    have hq : q < 2 := by have := (List.getElem?_eq_some_iff.1 hv).1; simpa [encPc] using this
    have := flat_gen encPc 2 (fun _ => rfl) ps j q hjl hq
    have e : ps[j] = p := (List.getElem?_eq_some_iff.1 hj).2
    rw [e] at this
    have h2 := hc (j * 2 + q) v (by rw [this]; exact hv)
    rwa [Addr.add_mid, Nat.zero_add] at h2
section
variable {I : World -> Prop} {Q : Array Goroutine -> World -> Trace -> Prop} {bc : Frame} {ac : Act} {opsc : Array Oper} {ic : Nat} {restc : List Nat} {oc : Oper} {kc : List Item} {csc : List Frame}
set_option maxHeartbeats 4000000 in
theorem lookAt_tri (hI : Cl I) (body : Code) (hbd : Tryz.f67.body = some body) (B0 cap g : Nat) (ps : List Pc) (hcap : ps.length <= cap) (hn1 : 0 < ps.length) (hp : ∀ w, I w -> w.ownsRow B0 178 2 (.slice (some ⟨g, 0, none⟩) ps.length cap) ps.length (ps.flatMap encPc)) (hz : ∀ p ∈ ps, p.2.size <= 4194304) (hl : ps.length <= 1000) (h1 : (findF ps).length <= 1) (hoc : opsc[ic]? = some oc)
    (hn : ∀ v, Tri Tryz.prog (G (bc.at (ac.put oc.dst v) (.inRegion opsc restc :: kc)) csc) (Looked I (findF ps) v) Q) :
    Tri Tryz.prog (G ((base 67).at { tmps := #[.slice (some ⟨g, 0, none⟩) ps.length cap] ++ Array.replicate (Tryz.f67.ntmps - 1) undef, defers := [] } [.code body]) (bc.at ac (.inRegion opsc (ic :: restc) :: kc) :: csc)) I Q := by
  have hb' := hbd.symm
  simp only [Tryz.f67, Option.some.injEq] at hb'
  subst hb'
  clear hbd
  have hk : (base 67).kind ≠ .early := by simp [base]
  simp only [Tryz.ntmps67, List.size_toArray, List.length_cons, List.length_nil, Nat.reduceAdd, Nat.reduceSub, Array.replicate_succ, Array.replicate_zero, List.push_toArray, List.append_toArray, List.nil_append, List.cons_append]
  have HN : Hid _ := hn
  have HP : Hid _ := hp
  clear hn hp
  obtain ⟨H, hHd⟩ : ∃ H, H = ps.length / 2 := ⟨_, rfl⟩
  repeat (first | (co_apply Tr.region hI; simp only [List.size_toArray, List.length_cons, List.length_nil, Nat.reduceAdd, Nat.zero_add, List.range, List.range.loop]) | (co_apply Tr.pure hI rfl (by rfl) hk (by intro _ K hK; go_simp; exact hK) (by intro _; simp [go_sem, ev_len, ev_index, ev_indexI, ev_slice_lo, ev_slice_hi, *]); walk_nrm) | (co_apply Tr.unwanted hI rfl (by rfl); walk_nrm) | co_apply Tr.nil hI | co_apply Tr.seq hI | co_apply Tr.block hI | co_apply Tr.skip hI | co_apply Tr.inBlock hI)
  have hh : ((ps.length : Int) / 2) = (H : Int) := by omega
  have hwH : IntKind.i64.wrap (H : Int) = (H : Int) := by rw [IntKind.wrap_i64]; omega
  simp only [hh, hwH]
  have hHc : H < ps.length /\ H <= cap := by omega
  have HHC : Hid _ := hHc
  clear hh hwH hHd hHc
  co_apply Tr.wpN fitV (by kernel_rfl) (fun j hj => by have e : fV.M 67 = [] := by kernel_rfl
                                                       rw [e] at hj; cases hj) hI
    (J := fun tm w' => ∃ (x : Bool) (w0 : World), I w0 /\ tm = #[.slice (some ⟨g, 0, none⟩) ps.length cap, undef, .slice none 0 0, .int .i64 (H : Int), .chan (some (if x then w0.heap.size else w0.heap.size + 1)), .chan (some (if x then w0.heap.size + 1 else w0.heap.size)), undef, .slice (some ⟨g, 0, none⟩) ps.length cap, .int .i64 ps.length, .int .i64 (H : Int), .chan (some (if x then w0.heap.size else w0.heap.size + 1)), .chan (some (if x then w0.heap.size + 1 else w0.heap.size)), undef, undef, undef, undef, undef, undef, undef, undef, undef, undef, undef, undef, undef, undef] /\ Heap ((w0.alloc (.chan 0 #[] false 0 0 false)).alloc (.chan 0 #[] false 0 0 false)) w')
    (fun _ _ _ _ ⟨x, w0, q1, q2, q3⟩ => ⟨x, w0, q1, q2, q3⟩)
    (fun w hi => chans_wp _ _ ⟨_, _, rfl⟩ w _ _ _ _ _ _ (fun x k => ⟨x, w, hi, rfl, rfl, rfl, rfl⟩))
  rintro tmps' gs w t ⟨x, w0, hi0, rfl, hH⟩ hb
  obtain ⟨c0, c1, hc0, hc1, hcc⟩ : ∃ c0 c1 : Nat, c0 = (if x then w0.heap.size else w0.heap.size + 1) /\ c1 = (if x then w0.heap.size + 1 else w0.heap.size) /\ ((c0 = w0.heap.size /\ c1 = w0.heap.size + 1) ∨ (c0 = w0.heap.size + 1 /\ c1 = w0.heap.size)) := by
    cases x
    . exact ⟨_, _, rfl, rfl, .inr ⟨rfl, rfl⟩⟩
    . exact ⟨_, _, rfl, rfl, .inl ⟨rfl, rfl⟩⟩
  rw [<- hc0, <- hc1] at hb
  obtain ⟨w1, hw1⟩ : ∃ w1, w1 = (w0.alloc (.chan 0 #[] false 0 0 false)).alloc (.chan 0 #[] false 0 0 false) := ⟨_, rfl⟩
  rw [<- hw1] at hH
  refine (?_ : Tri Tryz.prog _ (Heap w1) Q) gs w t hH hb
  clear hH hb gs w t
  have HIO : Hid (I w0) := hi0
  have HCC : Hid _ := hcc
  have hIo : Cl I := hI
  have hI := heap_cl w1
  clear hi0 hc0 hc1 hcc x
  obtain ⟨inf, hinf, _, hinfs, _⟩ := info_parts Tryz.infoPc
  have HINF := hideF hinf
  have HINS := hideF hinfs
  clear hinf hinfs
  co_apply Tr.seq hI
  (co_apply Tr.region hI; simp only [List.size_toArray, List.length_cons, List.length_nil, Nat.reduceAdd, Nat.zero_add, List.range, List.range.loop])
  (co_apply Tr.pure hI rfl (by rfl) hk (by intro _ K hK; go_simp; exact hK) (by intro _; simp [go_sem, ev_len, ev_index, ev_indexI, ev_slice_lo, ev_slice_hi, *]); walk_nrm)
  (co_apply Tr.pure hI rfl (by rfl) hk (by intro _ K hK; go_simp; exact hK) (by intro _; simp [go_sem, ev_len, ev_index, ev_indexI, ev_slice_lo, ev_slice_hi, *]); walk_nrm)
  co_apply Tr.pure hI rfl (by rfl) hk (fun w K hK => by rw [(sl_hi (n := ps.length) (c := cap) (k := H) (of := 0) (g := g) rfl (by rfl) (by rfl) Tryz.underlying131 HINF.out HHC.out.2 w).1]; exact hK) (fun w => (sl_hi (n := ps.length) (c := cap) (k := H) (of := 0) (g := g) rfl (by rfl) (by rfl) Tryz.underlying131 HINF.out HHC.out.2 w).2)
  walk_nrm
  (co_apply Tr.pure hI rfl (by rfl) hk (by intro _ K hK; go_simp; exact hK) (by intro _; simp [go_sem, ev_len, ev_index, ev_indexI, ev_slice_lo, ev_slice_hi, *]); walk_nrm)
  obtain ⟨ta, tb, tc, hw1s, td⟩ := two_new w0 (.chan 0 #[] false 0 0 false)
  rw [<- hw1] at ta tb tc hw1s td
  have HCH : Hid (w1.heap[c0]? = some (.chan 0 #[] false 0 0 false) /\ w1.heap[c1]? = some (.chan 0 #[] false 0 0 false)) := by
    rcases HCC.out with ⟨rfl, rfl⟩ | ⟨rfl, rfl⟩
    . exact ⟨ta, tb⟩
    . exact ⟨tb, ta⟩
  have HOLD : Hid (∀ b, b < w0.heap.size -> w1.heap[b]? = w0.heap[b]?) := tc
  have HOS : Hid (w1.os = w0.os /\ w1.output = w0.output) := td
  clear ta tb tc td
  have hcc := HCC.out
  clear hw1
  intro gs w t hH hb
  obtain ⟨eh, eo, eu⟩ := hH
  have hgs : 0 < gs.size := (Array.getElem?_eq_some_iff.1 hb.1).1
  obtain ⟨C, hC⟩ : ∃ C : Ch, C = ⟨w.heap.size, fun s => if s then c1 else c0, fun s => if s then gs.size + 1 else gs.size⟩ := ⟨_, rfl⟩
  have hCb : C.base = w.heap.size := by rw [hC]
  have hC0 : C.c false = c0 := by rw [hC]; rfl
  have hC1 : C.c true = c1 := by rw [hC]; rfl
  have hCx : C.ix false = gs.size /\ C.ix true = gs.size + 1 := by rw [hC]; exact ⟨rfl, rfl⟩
  have hws : w.heap.size = w0.heap.size + 2 := by rw [eh]; exact hw1s
  have hok : ChOk C := by
    refine ⟨fun s => ?_, by rw [hC0, hC1]; omega, fun s => ?_, by rw [hCx.1, hCx.2]; omega⟩
    . cases s
      . rw [hC0, hCb]; omega
      . rw [hC1, hCb]; omega
    . cases s
      . rw [hCx.1]; exact hgs
      . rw [hCx.2]; omega
  clear hC
  have hpw := HP.out w0 HIO.out
  have hpw' : g < w0.heap.size /\ ∀ (j : Nat) (p : Pc), ps[j]? = some p -> w0.rangeAt g (j * 2) (encPc p) := pcs_at hpw
  have hshr : Shared C g := ⟨by rw [hCb]; omega, fun s => by cases s; (rw [hC0]; omega); (rw [hC1]; omega)⟩
  have hPA : ∀ k, Pcs C g (k * 2) (ps.drop k) w := fun k => ⟨hshr, fun j p hj => by
    rw [List.getElem?_drop] at hj
    have := hpw'.2 (k + j) p hj
    rw [Nat.add_mul] at this
    exact rangeAt_same (by rw [eh]; exact HOLD.out g hpw'.1) this⟩
  have hPT : Pcs C g 0 (ps.take H) w := ⟨hshr, fun j p hj => by
    have hj' : ps[j]? = some p := by rw [List.getElem?_take] at hj; split at hj; exact hj; cases hj
    have := hpw'.2 j p hj'
    rw [Nat.zero_add]
    exact rangeAt_same (by rw [eh]; exact HOLD.out g hpw'.1) this⟩
  have hSits : Sits C [] w := ⟨by rw [hCb]; exact Nat.le_refl _, fun b hb => by cases hb⟩
  refine Runs.bind (phase (C := C) (z := gZ) (K := fun _ g w' => ∀ gs t, Beside Tryz.prog gs t g -> Runs Tryz.prog gs w' t Q) (vl := finds (ps.take H)) (vr := finds (ps.drop H)) hok hb hCx (by rw [hCb]; exact Nat.le_refl _) (fun s => by rw [eh]; cases s; (rw [hC0]; exact HCH.out.1); (rw [hC1]; exact HCH.out.2)) rfl (fun d => stepG_go rfl (by rfl) hk rfl) ?_ ?_) (fun gs' w' t' ⟨m, g', hK, hB⟩ => hK gs' t' hB)
  . have h := look_snd C false g 0 H cap (ps.take H) (by rw [List.length_take]; have := HHC.out.1; omega) (by have := HHC.out.1; omega) (fun p hp => hz p (List.mem_of_mem_take hp)) w hSits hPT
    rw [hC0] at h
    simp only [List.map_toArray, List.map_cons, List.map_nil]
    exact h
  . co_apply gbe_nil
    co_apply gbe_seq
    (co_apply gbe_region; simp only [List.size_toArray, List.length_cons, List.length_nil, Nat.reduceAdd, Nat.zero_add, List.range, List.range.loop])
    (co_apply gbe_pure rfl (by rfl) hk (by intro _ K hK; go_simp; exact hK) (by intro _; simp [go_sem, ev_len, ev_index, ev_indexI, ev_slice_lo, ev_slice_hi, *]); walk_nrm)
    (co_apply gbe_pure rfl (by rfl) hk (by intro _ K hK; go_simp; exact hK) (by intro _; simp [go_sem, ev_len, ev_index, ev_indexI, ev_slice_lo, ev_slice_hi, *]); walk_nrm)
    co_apply gbe_pure rfl (by rfl) hk (fun w K hK => by rw [(sl_lo (n := ps.length) (c := cap) (k := H) (g := g) rfl (by rfl) (by rfl) Tryz.underlying131 HINF.out HHC.out.1 hcap w).1]; exact hK) (fun w => (sl_lo (n := ps.length) (c := cap) (k := H) (g := g) rfl (by rfl) (by rfl) Tryz.underlying131 HINF.out HHC.out.1 hcap w).2)
    walk_nrm
    (co_apply gbe_pure rfl (by rfl) hk (by intro _ K hK; go_simp; exact hK) (by intro _; simp [go_sem, ev_len, ev_index, ev_indexI, ev_slice_lo, ev_slice_hi, *]); walk_nrm)
    refine ⟨0, fun w₂ h₂ => ⟨rfl, _, _, stepG_go rfl (by rfl) hk rfl, ?_, ?_⟩⟩
    . have h := look_snd C true g (H * 2) (ps.length - H) (cap - H) (ps.drop H) (by rw [List.length_drop]) (by omega) (fun p hp => hz p (List.mem_of_mem_drop hp)) w₂ (hSits.rel h₂) ((hPA H).rel h₂)
      rw [hC1] at h
      rw [HINS.out]
      simp only [List.map_toArray, List.map_cons, List.map_nil]
      exact h
    . rw [mscr_iff, finds_map, finds_map]
      walk_nrm
      co_apply gbe_nil
      co_apply gbe_seq
      (co_apply gbe_region; simp only [List.size_toArray, List.length_cons, List.length_nil, Nat.reduceAdd, Nat.zero_add, List.range, List.range.loop])
      (co_apply gbe_pure rfl (by rfl) hk (by intro _ K hK; go_simp; exact hK) (by intro _; simp [go_sem, ev_len, ev_index, ev_indexI, ev_slice_lo, ev_slice_hi, *]); walk_nrm)
      (co_apply gbe_pure rfl (by rfl) hk (by intro _ K hK; go_simp; exact hK) (by intro _; simp [go_sem, ev_len, ev_index, ev_indexI, ev_slice_lo, ev_slice_hi, *]); walk_nrm)
      co_apply gbe_enter rfl (by rfl) hk rfl (vals := #[.chan (some c0), .chan (some c1)]) (by walk_nrm) Tryz.func102 (by rfl) rfl
      simp only [Tryz.ntmps102, List.size_toArray, List.length_cons, List.length_nil, Nat.reduceAdd, Nat.reduceSub, Array.replicate_succ, Array.replicate_zero, List.push_toArray, List.append_toArray, List.nil_append, List.cons_append]
      have hk67 := hk
      have hk : (base 102).kind ≠ .early := by simp [base]
      co_apply gbe_seq
      (co_apply gbe_region; simp only [List.size_toArray, List.length_cons, List.length_nil, Nat.reduceAdd, Nat.zero_add, List.range, List.range.loop])
      (co_apply gbe_pure rfl (by rfl) hk (by intro _ K hK; go_simp; exact hK) (by intro _; simp [go_sem, ev_len, ev_index, ev_indexI, ev_slice_lo, ev_slice_hi, *]); walk_nrm)
      co_apply gbe_nil
      co_apply gbe_seq
      (co_apply gbe_region; simp only [List.size_toArray, List.length_cons, List.length_nil, Nat.reduceAdd, Nat.zero_add, List.range, List.range.loop])
      (co_apply gbe_pure rfl (by rfl) hk (by intro _ K hK; go_simp; exact hK) (by intro _; simp [go_sem, ev_len, ev_index, ev_indexI, ev_slice_lo, ev_slice_hi, *]); walk_nrm)
      co_apply gbe_nil
      co_apply gbe_seq
      co_apply gbe_block
      co_apply gbe_loop
      rw [<- hC0, <- hC1]
      refine gath_go ⟨_, _, _, _, _, _, _, _, _, _, _, _, _, _, _, _, _, _, _, _, _, _, _, _, _, _, _, _, _, _, _, _, _, _, _, _, rfl⟩ ⟨_, _, rfl⟩ rfl hSits h₂ (by rw [findF_split]; have := findF_len ps; omega) ?_
      intro fs hfp mine w' v hGat gs' t' hB
      rw [findF_split] at hfp
      rw [hC0, hC1] at hB
      obtain rfl : fs = findF ps := by
        have hlen := hfp.length_eq
        match hF : findF ps, h1 with
        | [], _ => rw [hF] at hfp; exact hfp.eq_nil
        | [y], _ => rw [hF] at hfp; exact List.perm_singleton.1 hfp
        | y :: y' :: ys, h1 => simp at h1
      have hLk : Looked I (findF ps) v w' := by
        have hr := hGat.grew.rel
        refine ⟨w0, HIO.out, by have := hr.size; omega, fun b hb' => ?_, ?_, ?_, own_base hGat.own (by rw [hCb]; omega)⟩
        . refine (hr.keep b (.inl ⟨by rw [hCb]; omega, fun s => by cases s; (rw [hC0]; omega); (rw [hC1]; omega)⟩)).trans ?_
          rw [eh]
          exact HOLD.out b hb'
        . exact hr.os.trans (eo.trans HOS.out.1)
        . exact hr.output.trans (eu.trans HOS.out.2)
      obtain ⟨av, cv, rfl, hvw⟩ := own_view hGat.own
      clear hvw
      refine (?_ : Tri Tryz.prog _ (Looked I (findF ps) (.slice av (findF ps).length cv)) Q) gs' w' t' hLk hB
      obtain ⟨nf, hnf⟩ : ∃ nf, nf = (findF ps).length := ⟨_, rfl⟩
      rw [<- hnf] at h1
      have HN2 : Hid _ := HN.out (.slice av (findF ps).length cv)
      rw [<- hnf] at HN2 ⊢
      clear hLk hB gs' t' hGat hfp hSits hPT hPA hshr hpw hpw' hok hCx hC0 hC1 hCb hgs h₂ hws eh eo eu hnf mine w' HN HP
      have hI := Looked.cl (I := I) (fs := findF ps) (v := .slice av nf cv)
      have hk := hk67
      walk_nrm
      (co_apply Tr.pure hI rfl (by rfl) hk (by intro _ K hK; go_simp; exact hK) (by intro _; simp [go_sem, ev_len, ev_index, ev_indexI, ev_slice_lo, ev_slice_hi, *]); walk_nrm)
      co_apply Tr.nil hI
      co_apply Tr.seq hI
      co_apply Tr.wpN fitV (by kernel_rfl) (fun j hj => by have e : fV.M 67 = [] := by kernel_rfl
                                                           rw [e] at hj; cases hj) hI
        (J := fun tm w' => tm = #[.slice (some ⟨g, 0, none⟩) ps.length cap, undef, .slice none 0 0, .int .i64 (H : Int), .chan (some c0), .chan (some c1), .slice av nf cv, .slice (some ⟨g, 0, none⟩) ps.length cap, .int .i64 ps.length, .int .i64 (H : Int), .chan (some c0), .chan (some c1), .slice (some ⟨g, 0, none⟩) ps.length cap, .int .i64 (H : Int), .slice (some ⟨g, 0, none⟩) H cap, .chan (some c0), .slice (some ⟨g, 0, none⟩) ps.length cap, .int .i64 (H : Int), .slice (some ⟨g, H * inf.size, none⟩) (ps.length - H) (cap - H), .chan (some c1), .chan (some c0), .chan (some c1), .slice av nf cv, .slice av nf cv, .tuple #[], undef] /\ Looked I (findF ps) (.slice av nf cv) w')
        (fun _ _ _ _ q => ⟨q.1, hI _ _ _ q.2⟩)
        (by
          intro w hi
          go_wp2_with fail
          refine (sort_1 nf cv h1 av _ w).mono ?_
          rintro e w1 ⟨rfl, rfl⟩
          go_wp2
          exact ⟨rfl, rfl, hi⟩)
      rintro tm gs3 w3 t3 ⟨rfl, hL3⟩ hB3
      refine (?_ : Tri Tryz.prog _ (Looked I (findF ps) (.slice av nf cv)) Q) gs3 w3 t3 hL3 hB3
      clear hL3 hB3 gs3 w3 t3
      repeat (first | (co_apply Tr.region hI; simp only [List.size_toArray, List.length_cons, List.length_nil, Nat.reduceAdd, Nat.zero_add, List.range, List.range.loop]) | (co_apply Tr.pure hI rfl (by rfl) hk (by intro _ K hK; go_simp; exact hK) (by intro _; simp [go_sem, ev_len, ev_index, ev_indexI, ev_slice_lo, ev_slice_hi, *]); walk_nrm) | (co_apply Tr.unwanted hI rfl (by rfl); walk_nrm) | co_apply Tr.nil hI | co_apply Tr.seq hI | co_apply Tr.block hI | co_apply Tr.skip hI | co_apply Tr.inBlock hI)
      co_apply Tr.retT hI Tryz.func67 (by rfl) rfl hoc
      exact HN2.out
end
end Go.Proofs.YtcpldcojckhapaaGreat
