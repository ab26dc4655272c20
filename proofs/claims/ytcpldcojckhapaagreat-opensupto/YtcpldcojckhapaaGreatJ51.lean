/-
  
-/
import Derived.Test.YtcpldcojckhapaaGreatRows
import Derived.Test.YtcpldcojckhapaaGreatSk
import Derived.ProofKit
import Derived.OpenShut
import Derived.Deep.Strs
import Derived.Deep.Slices
import Derived.Laws.IdiomArrays
import Derived.Conc.Holds
import Derived.Handed
import Derived.Leaving
import Derived.JoinedCond
set_option maxRecDepth 100000
namespace Go.Proofs.YtcpldcojckhapaaGreat
open Go.ChangeShapes Go.WideShapes Go.ChangeAt Go.RowKit Go.Deep
theorem cellsOf39 : Tryz.prog.cellsOf 39 = 9 := by kernel_rfl
theorem cellsOf42 : Tryz.prog.cellsOf 42 = 20 := by kernel_rfl
theorem cellsOf37 : Tryz.prog.cellsOf 37 = 4 := by kernel_rfl
theorem cellsOf28 : Tryz.prog.cellsOf 28 = 1 := by kernel_rfl
theorem cellsOf3 : Tryz.prog.cellsOf 3 = 1 := by kernel_rfl
theorem cellsOf9 : Tryz.prog.cellsOf 9 = 1 := by kernel_rfl
theorem types39 : Tryz.prog.cellTypes Tryz.prog.depth 39 = some [3, 3, 3, 3, 3, 3, 3, 28, 3] := by kernel_rfl
theorem cell_lt {W : World} {b0 : Nat} {t e : TypeId} {a : Addr} {len cap : Nat} (ht : Tryz.prog.underlying t = some (.slice e)) (h : Cell.okWide Tryz.prog W .any b0 t (.slice (some a) len cap)) : a.block < W.heap.size := by
  unfold Cell.okWide at h
  rw [ht] at h
  unfold Cell.ok at h
  rw [ht] at h
  obtain ⟨_, _, _, _, row, cells, hs, _⟩ := h
  by_cases hl : a.block < W.heap.size
  . exact hl
  . exfalso
    have h0 : W.heap[a.block]? = none := Array.getElem?_eq_none (by omega)
    unfold World.shape? at hs
    rw [h0] at hs
    simp at hs
section
variable {H : Type} {enc : TypeId × Value -> H}
theorem bulk_len (xs : List (DataW H)) : xs.length <= Rows.uptoBulkAll xs := by
  induction xs with
  | nil => simp [Rows.uptoBulkAll]
  | cons x r ih =>
    have : 1 <= Rows.uptoBulk x := by
      cases x with
      | lit l => cases l <;> simp [Rows.uptoBulk]
      | _ => simp [Rows.uptoBulk]
    simp only [Rows.uptoBulkAll, List.length_cons]
    omega
theorem open_cfg {W : World} {b0 : Nat} {v : Value} {d : DataW H} {p : List MemPlace} (hv : Value.okWide Tryz.prog W .any b0 39 v) (h : DataW.Trod enc Tryz.prog W 0 (fun _ => true) true 39 v d p) :
    ∃ (s0 s1 s2 s3 c h u b : Int) (ad : Option Addr) (n k : Nat) (y : DataW H) (m : Nat) (p4 : List MemPlace), v = .agg #[.int .i64 s0, .int .i64 s1, .int .i64 s2, .int .i64 s3, .int .i64 c, .int .i64 h, .int .i64 u, .slice ad n k, .int .i64 b] /\ DataW.trod enc Tryz.prog W 0 (fun _ => true) true m 28 [.slice ad n k] = some (y, p4) /\ Rows.uptoBulk y <= Rows.uptoBulk d /\ ∀ a, ad = some a -> a.block < W.heap.size := by
  simp only [Value.okWide, Tryz.underlying39] at hv
  obtain ⟨cs, rfl, hcs, ts, hts, _, hok⟩ := hv
  rw [cellsOf39] at hcs
  rw [types39] at hts
  obtain rfl : ts = [3, 3, 3, 3, 3, 3, 3, 28, 3] := by simpa using hts.symm
  obtain ⟨fuel, hf⟩ := h
  obtain ⟨l⟩ := cs
  match l, hcs with
  | [c0, c1, c2, c3, c4, c5, c6, c7, c8], _ =>
    have hf' : DataW.trod enc Tryz.prog W 0 (fun _ => true) true fuel 39 [c0, c1, c2, c3, c4, c5, c6, c7, c8] = some (d, p) := hf
    obtain ⟨xs, n, _, hx, hl, hlen, hfl⟩ := DataW.trod_struct Tryz.underlying39 hf'
    match xs, hlen with
    | [x0, x1, x2, x3, x4, x5], _ =>
      have t0 := hfl 0 _ rfl
      have t1 := hfl 1 _ rfl
      have t2 := hfl 2 _ rfl
      have t3 := hfl 3 _ rfl
      have t4 := hfl 4 _ rfl
      have t5 := hfl 5 _ rfl
      simp [cellsOf37, cellsOf3, cellsOf28] at t0 t1 t2 t3 t4 t5
      obtain ⟨y0, y1, y2, y3, m0, _, a0, a1, a2, a3⟩ := trod_array4 Tryz.underlying37 cellsOf3 t0
      obtain ⟨s0, e0, _, _⟩ := DataW.trod_int Tryz.underlying3 a0
      obtain ⟨s1, e1, _, _⟩ := DataW.trod_int Tryz.underlying3 a1
      obtain ⟨s2, e2, _, _⟩ := DataW.trod_int Tryz.underlying3 a2
      obtain ⟨s3, e3, _, _⟩ := DataW.trod_int Tryz.underlying3 a3
      obtain ⟨c, e4, _, _⟩ := DataW.trod_int Tryz.underlying3 t1
      obtain ⟨h, e5, _, _⟩ := DataW.trod_int Tryz.underlying3 t2
      obtain ⟨u, e6, _, _⟩ := DataW.trod_int Tryz.underlying3 t3
      obtain ⟨b, e8, _, _⟩ := DataW.trod_int Tryz.underlying3 t5
      have e7 : ∃ ad nn k, c7 = .slice ad nn k := by
        rcases open_ints Tryz.underlying28 Tryz.underlying3 cellsOf3 t4 with ⟨h1, _⟩ | ⟨a, len, cap, zs, h1, _⟩
        . exact ⟨none, 0, 0, by simpa using h1⟩
        . exact ⟨some a, len, cap, by simpa using h1⟩
      obtain ⟨ad, nn, k, rfl⟩ := e7
      simp only [List.cons.injEq, and_true] at e0 e1 e2 e3 e4 e5 e6 e8
      subst e0 e1 e2 e3 e4 e5 e6 e8
      refine ⟨s0, s1, s2, s3, c, h, u, b, ad, nn, k, x4.1, n, x4.2, rfl, t4, ?_, fun a ha => ?_⟩
      . simp only [Prod.mk.injEq] at hx
        rw [hx.1]
        simp only [List.map_cons, List.map_nil, Rows.uptoBulk, Rows.uptoBulkAll]
        omega
      . subst ha
        obtain ⟨ux, hu1, hu2⟩ := hok 7 (.slice (some a) nn k) rfl
        have : ux = 28 := by simpa using hu1.symm
        subst this
        exact cell_lt Tryz.underlying28 hu2
theorem open_lines {W : World} {ad : Option Addr} {n k m : Nat} {y : DataW H} {p : List MemPlace} (h : DataW.trod enc Tryz.prog W 0 (fun _ => true) true m 28 [.slice ad n k] = some (y, p)) :
    ∃ ln : Nat -> Int, Vals W ad n ln /\ Src W (.slice ad n k) n (((List.range n).map ln).flatMap encI) /\ n <= Rows.uptoBulk y := by
  rcases open_ints Tryz.underlying28 Tryz.underlying3 cellsOf3 h with ⟨hcs, hx⟩ | ⟨a', len', cap', zs, hcs, hb, hl, hm, hz, hx, hcell, hwf⟩
  . simp only [List.cons.injEq, Value.slice.injEq, and_true] at hcs
    obtain ⟨rfl, rfl, rfl⟩ := hcs
    exact ⟨fun _ => 0, fun j hj => absurd hj (Nat.not_lt_zero _), .inl ⟨rfl, rfl, rfl⟩, Nat.zero_le _⟩
  . simp only [List.cons.injEq, Value.slice.injEq, and_true] at hcs
    obtain ⟨rfl, rfl, rfl⟩ := hcs
    have hzl : zs.length = k := by simpa using hz
    refine ⟨fun j => zs.getD j 0, fun j hj => ?_, .inr ⟨a', k, rfl, fun j u hj => ?_⟩, ?_⟩
    . have hjz : j < zs.length := by omega
      have hc := hcell j hjz
      obtain ⟨b, off, spot⟩ := a'
      have hsp : spot = none := by
        have := World.cell?_spot (hcell 0 (by omega))
        simpa [Addr.add] using this
      subst hsp
      rw [Addr.add_lit] at hc
      have hw := bounds_i64 (hwf (zs.getD j 0) (by rw [List.getD_eq_getElem?_getD, List.getElem?_eq_getElem hjz]; exact List.getElem_mem hjz))
      exact ⟨b, off, rfl, World.block_lt_of_cell? W _ hc, hc, hw.1, hw.2⟩
    . obtain ⟨h1, rfl⟩ := src_at _ n j u hj
      exact hcell j (by omega)
    . simp only [Prod.mk.injEq] at hx
      rw [hx.1]
      have h1 := bulk_len (H := H) (lits .i64 (zs.take n))
      have h2 : (lits (H := H) .i64 (zs.take n)).length = n := by simp [lits]; omega
      simp only [Rows.uptoBulk]
      omega
theorem open_disk {W : World} {b0 : Nat} {v : Value} {d : DataW H} {p : List MemPlace} (hv : Value.okWide Tryz.prog W .any b0 30 v) (h : DataW.Trod enc Tryz.prog W 0 (fun _ => true) true 30 v d p) :
    ∃ (a2 : Option Addr) (nd k2 : Nat) (f : Nat -> ByteArray), v = .slice a2 nd k2 /\ ValT W a2 nd f /\ Src W (.slice a2 nd k2) nd (secV f nd) /\ nd <= Rows.uptoBulk d /\ ∀ a, a2 = some a -> a.block < W.heap.size := by
  obtain ⟨a2, nd, k2, rfl⟩ := okWide_slice Tryz.underlying30 hv
  obtain ⟨fuel, hf⟩ := h
  have hlt : ∀ a, a2 = some a -> a.block < W.heap.size := fun a ha => by
    subst ha
    simp only [Value.okWide, Tryz.underlying30] at hv
    exact cell_lt Tryz.underlying30 hv
  rcases open_strs Tryz.underlying30 Tryz.underlying9 cellsOf9 hf with ⟨hcs, hx⟩ | ⟨a, len, cap, m, Sx, hcs, hb, hl, hm, hmm, hx, hcell⟩
  . simp [Value.cells] at hcs
    obtain ⟨rfl, rfl, rfl⟩ := hcs
    exact ⟨none, 0, 0, fun _ => ⟨#[]⟩, rfl, fun j hj => absurd hj (Nat.not_lt_zero _), .inl ⟨rfl, rfl, rfl⟩, Nat.zero_le _, hlt⟩
  . simp [Value.cells] at hcs
    obtain ⟨rfl, rfl, rfl⟩ := hcs
    simp only [if_true] at hmm
    subst hmm
    refine ⟨some a, nd, _, Sx, rfl, fun j hj => ?_, .inr ⟨a, _, rfl, fun j u hj => ?_⟩, ?_, hlt⟩
    . have hc := (hcell j (by omega)).1
      obtain ⟨b, off, spot⟩ := a
      have hsp : spot = none := by
        have := World.cell?_spot (hcell 0 (by omega)).1
        simpa [Addr.add] using this
      subst hsp
      rw [Addr.add_lit] at hc
      exact ⟨b, off, rfl, hlt _ rfl, hc⟩
    . have hj2 : j < nd := by
        have := (List.getElem?_eq_some_iff.1 hj).1
        rwa [secV_len] at this
      rw [secV_at _ _ _ hj2] at hj
      rw [(hcell j (by omega)).1]
      exact hj
    . simp only [Prod.mk.injEq] at hx
      rw [hx.1]
      have h1 := bulk_len (H := H) ((List.range nd).map fun i => DataW.lit (.string (Sx i).data.toList))
      simp only [List.length_map, List.length_range] at h1
      simp only [Rows.uptoBulk]
      omega
theorem open_op {W : World} {b0 : Nat} {v : Value} {d : DataW H} {p : List MemPlace} (hv : Value.okWide Tryz.prog W .any b0 42 v) (h : DataW.Trod enc Tryz.prog W 0 (fun _ => true) true 42 v d p) :
    ∃ o : OpV, v = .agg (opA o) /\ OpR o /\ o.s.size <= Rows.uptoBulk d := by
  simp only [Value.okWide, Tryz.underlying42] at hv
  obtain ⟨cs, rfl, hcs, _⟩ := hv
  rw [cellsOf42] at hcs
  obtain ⟨fuel, hf⟩ := h
  obtain ⟨l⟩ := cs
  match l, hcs with
  | [c0, c1, c2, c3, c4, c5, c6, c7, c8, c9, c10, c11, c12, c13, c14, c15, c16, c17, c18, c19], _ =>
    have hf' : DataW.trod enc Tryz.prog W 0 (fun _ => true) true fuel 42 [c0, c1, c2, c3, c4, c5, c6, c7, c8, c9, c10, c11, c12, c13, c14, c15, c16, c17, c18, c19] = some (d, p) := hf
    obtain ⟨xs, n, _, hx, hl, hlen, hfl⟩ := DataW.trod_struct Tryz.underlying42 hf'
    match xs, hlen with
    | [x0, x1, x2, x3, x4, x5, x6, x7, x8, x9, x10, x11], _ =>
      have t0 := hfl 0 _ rfl
      have t1 := hfl 1 _ rfl
      have t2 := hfl 2 _ rfl
      have t3 := hfl 3 _ rfl
      have t4 := hfl 4 _ rfl
      have t5 := hfl 5 _ rfl
      have t7 := hfl 7 _ rfl
      have t8 := hfl 8 _ rfl
      have t9 := hfl 9 _ rfl
      have t10 := hfl 10 _ rfl
      have t11 := hfl 11 _ rfl
      simp [cellsOf3, cellsOf9] at t0 t1 t2 t3 t4 t5 t7 t8 t9 t10 t11
      obtain ⟨z0, e0, _, _⟩ := DataW.trod_int Tryz.underlying3 t0
      obtain ⟨z1, e1, _, _⟩ := DataW.trod_int Tryz.underlying3 t1
      obtain ⟨z2, e2, _, _⟩ := DataW.trod_int Tryz.underlying3 t2
      obtain ⟨z3, e3, _, _⟩ := DataW.trod_int Tryz.underlying3 t3
      obtain ⟨z4, e4, _, _⟩ := DataW.trod_int Tryz.underlying3 t4
      obtain ⟨s, e5, hxs, _⟩ := DataW.trod_string Tryz.underlying9 t5
      obtain ⟨z7, e7, _, w7⟩ := DataW.trod_int Tryz.underlying3 t7
      obtain ⟨z8, e8, _, w8⟩ := DataW.trod_int Tryz.underlying3 t8
      obtain ⟨z9, e9, _, w9⟩ := DataW.trod_int Tryz.underlying3 t9
      obtain ⟨z10, e10, _, w10⟩ := DataW.trod_int Tryz.underlying3 t10
      obtain ⟨z11, e11, _, w11⟩ := DataW.trod_int Tryz.underlying3 t11
      simp only [List.cons.injEq, and_true] at e0 e1 e2 e3 e4 e5 e7 e8 e9 e10 e11
      subst e0 e1 e2 e3 e4 e5 e7 e8 e9 e10 e11
      refine ⟨⟨z0, z1, z2, z3, z4, z7, z8, z9, z10, z11, s, c6, c7, c8, c9, c10, c11, c12, c13, c14⟩, rfl, ⟨bounds_i64 w7, bounds_i64 w8, bounds_i64 w9, bounds_i64 w10, bounds_i64 w11⟩, ?_⟩
      simp only [Prod.mk.injEq] at hx
      rw [hx.1, hxs]
      have es : s.data.toList.length = s.size := by rw [Array.length_toList]; rfl
      simp only [List.map_cons, List.map_nil, Rows.uptoBulk, Rows.uptoBulkAll, es]
      omega
end
end Go.Proofs.YtcpldcojckhapaaGreat

namespace Go.Proofs.YtcpldcojckhapaaGreat
open Go.Conc
end Go.Proofs.YtcpldcojckhapaaGreat

namespace Go.Proofs.YtcpldcojckhapaaGreat
open Go.Conc
theorem open_leaving {a : Assume} {st : Option Stop.Interp} {C : Checked} {os : Os} {f : FuncId} {r : Reach} {ok : Program -> World -> Reach -> Nat -> FuncId -> Input -> Prop} {Pre : World -> Array Value -> Prop} {Post : World -> Array Value -> Value -> World -> Prop} {al : Machine -> Prop}
    (h : ReturnsInOpen a st C os f r ok Pre Post (aloneAtReturn C.prog) al) : ReturnsInOpen a st C os f r ok Pre Post (leavingAtReturn C.prog) al := by
  obtain ⟨h1, h2, h3, h4, h5⟩ := h
  refine ⟨h1, h2, h3, h4, fun w tape i hf => ?_⟩
  obtain ⟨n, v, w', r1, r2, r3, r4, ⟨j, last, q1, q2, q3⟩, r6⟩ := h5 w tape i hf
  exact ⟨n, v, w', r1, r2, r3, r4, ⟨j, last, q1, q2, q3.2.1, onlyLeaving_of_quiet q3.1, q3.2.2⟩, r6⟩
theorem row_leaving {p : Pinned} {s : OpenSpec} {c : OpenClaim} (hw : c.wf s = true) (hs : c.start = .entering) (hp : c.stops = []) (h : OpenClaim.holds p s { c with leaving := false }) (hl : c.leaving = true) : c.holds p s := by
  obtain ⟨_, a1, a2, a3, a4, a5, a6, a7, f, fn, b1, b2, b3, b4, b5, b6, b7, b8, b9, d1, d2, d3, d4, d5, d6, d7, d8, d9, e1, e2, e3, L, hL, hall⟩ := h
  refine ⟨hw, a1, a2, a3, a4, a5, a6, a7, f, fn, b1, b2, b3, b4, b5, b6, b7, b8, b9, d1, d2, d3, d4, d5, d6, d7, d8, d9, e1, e2, e3, L, hL, fun os ho hq H enc inj => ?_⟩
  have h0 := hall os ho hq H enc inj
  unfold OpenClaim.form at h0 ⊢
  simp only [hs, hp] at h0 ⊢
  intro F
  have e : c.atReturn p.checked.prog = leavingAtReturn p.checked.prog := by unfold OpenClaim.atReturn; rw [hl]
  rw [e]
  exact open_leaving (h0 F)
end Go.Proofs.YtcpldcojckhapaaGreat
