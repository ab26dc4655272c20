/-
  The answers that wait: heap.Pop and sendAll, where at most two wait.
  The answers that wait: sendAll.
-/
import Derived.Test.YtcpldcojckhapaaGreatHs
set_option maxRecDepth 100000
namespace Go.Proofs.YtcpldcojckhapaaGreat
open Go.RowKit

set_option maxRecDepth 100000 in
set_option maxHeartbeats 1000000 in
theorem down_none (p : Value) (n : Int) (w : World) (hn : n ≤ 1) :
    Calls Tryz.prog 119 #[.iface 160 p, .int .i64 0, .int .i64 n] w fun e w' => e = .returned (.bool false) ∧ w' = w := by
  have h1 : decide ((1 : Int) ≥ n) = true := by simp; omega
  go_enter Tryz.func119, Tryz.ntmps119
  go_wp2_with fail
  go_loopw [7] (fun j wr => j = .int .i64 0 ∧ wr = w) (fun _ _ => 0)
  case atStart => exact ⟨rfl, rfl⟩
  case round =>
    obtain ⟨rfl, rfl⟩ := hrel
    go_wp2_with fail
    go_ret
    exact ⟨rfl, rfl⟩
theorem WaitIn.swapped {B : Nat} {w w' : World} {d g c : Nat} {cur : Array Value} {l l' : List (Int × Int × ByteArray)} (h : WaitIn B w d cur (.slice (some ⟨g, 0, none⟩) l.length c) l) (hl : l.length = l'.length) (ho : w'.ownsRow B 163 3 (.slice (some ⟨g, 0, none⟩) l.length c) l.length (l'.flatMap encF)) (hc : Chg1 g w w') :
    WaitIn B w' d cur (.slice (some ⟨g, 0, none⟩) l.length c) l' ∧ FtT B wtT w w' := by
  obtain ⟨cg, hcg⟩ := own_block h.own g rfl
  refine ⟨⟨(hc.block d (lt_of_block h.dev) (ne_of_types h.dev hcg (by decide))).trans h.dev, h.size, h.at14, by rw [← hl]; exact ho, h.lo⟩, ?_⟩
  exact ⟨hc.os, hc.tape, hc.output, hc.size, fun k cur' t hk ht => hc.block k (lt_of_block hk) (ne_of_types hk hcg (fun e => by rw [e] at ht; exact absurd ht (by decide))), fun k hkB hks => hc.block k hks (by have := (h.own.lt g rfl).1; omega)⟩

set_option maxRecDepth 100000 in
set_option maxHeartbeats 1000000 in
theorem heapPop_one {B : Nat} (d : Nat) (cur : Array Value) (wv : Value) (x : Int × Int × ByteArray) (w : World) (h : WaitIn B w d cur wv [x]) :
    Calls Tryz.prog 89 #[.iface 160 (.pointer (some ⟨d, 14, none⟩))] w fun e w' => ∃ v', e = .returned (.iface 163 (.agg #[.int .i64 x.1, .int .i64 x.2.1, .string x.2.2])) ∧ WaitIn B w' d (cur.setIfInBounds 14 v') v' [] ∧ FtT B wtT w w' := by
  obtain ⟨g, c, rfl, hg, _, _, _⟩ := own_ans h.own (i := 0) (x := x) rfl
  have c14 := h.cell
  have m1 := mthLen d _ c _ w c14
  have m2 := mthSwap d _ c _ w c14
  have HS := hideF (hswap_same B g c [x] x w h.own rfl)
  have HW := hideF h
  clear h
  go_enter Tryz.func89, Tryz.ntmps89
  go_wp2_with fail
  refine (hlen_any _ _ _ _).mono ?_
  rintro e w1 ⟨rfl, rfl⟩
  go_wp2_with fail
  refine HS.out.mono ?_
  rintro e w2 ⟨rfl, ho2, hc2⟩
  obtain ⟨hw2, hf2⟩ := HW.out.swapped rfl ho2 hc2
  have HW2 := hideF hw2
  have HF2 := hideF hf2
  clear ho2 hc2 hw2 hf2 m1 m2 c14
  go_wp2_with fail
  refine (down_none _ _ _ (by decide)).mono ?_
  rintro e w3 ⟨rfl, rfl⟩
  have m3 := mthPop (some ⟨d, 14, none⟩)
  go_wp2_with fail
  refine (hpopm_any d 0 cur _ [] x _ rfl (by omega) HW2.out).mono ?_
  rintro e w4 ⟨v', rfl, hw4, hf4⟩
  have HW4 := hideF hw4
  have HF4 := hideF (HF2.out.trans hf4)
  clear hw4 hf4
  go_wp2
  go_ret
  exact ⟨_, rfl, HW4.out, HF4.out⟩
set_option maxRecDepth 100000 in
set_option maxHeartbeats 1000000 in
theorem heapPop_two {B : Nat} (d : Nat) (cur : Array Value) (wv : Value) (x y : Int × Int × ByteArray) (w : World) (h : WaitIn B w d cur wv [x, y]) :
    Calls Tryz.prog 89 #[.iface 160 (.pointer (some ⟨d, 14, none⟩))] w fun e w' => ∃ v', e = .returned (.iface 163 (.agg #[.int .i64 x.1, .int .i64 x.2.1, .string x.2.2])) ∧ WaitIn B w' d (cur.setIfInBounds 14 v') v' [y] ∧ FtT B wtT w w' := by
  obtain ⟨g, c, rfl, hg, _, _, _⟩ := own_ans h.own (i := 0) (x := x) rfl
  have c14 := h.cell
  have m1 := mthLen d _ c _ w c14
  have m2 := mthSwap d _ c _ w c14
  have HS := hideF (hswap_ne B 0 1 g c [x, y] x y w h.own rfl rfl (by omega))
  have HW := hideF h
  clear h
  go_enter Tryz.func89, Tryz.ntmps89
  go_wp2_with fail
  refine (hlen_any _ _ _ _).mono ?_
  rintro e w1 ⟨rfl, rfl⟩
  go_wp2_with fail
  refine HS.out.mono ?_
  rintro e w2 ⟨rfl, ho2, hc2⟩
  obtain ⟨hw2, hf2⟩ := HW.out.swapped (l' := [y, x]) rfl ho2 hc2
  have HW2 := hideF hw2
  have HF2 := hideF hf2
  clear ho2 hc2 hw2 hf2 m1 m2 c14
  go_wp2_with fail
  refine (down_none _ _ _ (by decide)).mono ?_
  rintro e w3 ⟨rfl, rfl⟩
  have m3 := mthPop (some ⟨d, 14, none⟩)
  go_wp2_with fail
  refine (hpopm_any d 1 cur _ [y] x _ rfl (by omega) HW2.out).mono ?_
  rintro e w4 ⟨v', rfl, hw4, hf4⟩
  have HW4 := hideF hw4
  have HF4 := hideF (HF2.out.trans hf4)
  clear hw4 hf4
  go_wp2
  go_ret
  exact ⟨_, rfl, HW4.out, HF4.out⟩
end Go.Proofs.YtcpldcojckhapaaGreat

set_option maxRecDepth 100000
namespace Go.Proofs.YtcpldcojckhapaaGreat
open Go.RowKit

theorem FtT.grown_new {B : Nat} {T : TypeId → Bool} {a w w' : World} {row : Option Nat} (h : FtT B T a w) (hg : w.grownBy w' row) (hr : ∀ k, row = some k → a.heap.size ≤ k) : FtT B T a w' :=
  ⟨hg.os.trans h.os, hg.tape.trans h.tape, hg.output.trans h.output, Nat.le_trans h.size hg.size, fun g cur t hk ht => (hg.block g (Nat.lt_of_lt_of_le (lt_of_block hk) h.size) (fun e => by have := hr g e.symm; have := lt_of_block hk; omega)).trans (h.keep g cur t hk ht), fun g hgB hgs => (hg.block g (Nat.lt_of_lt_of_le hgs h.size) (fun e => by have := hr g e.symm; omega)).trans (h.low g hgB hgs)⟩
/-- An answer as an act. -/
def sendOf (x : Int × Int × ByteArray) : Int × Int × Int × ByteArray := (2, 0, x.2.1, x.2.2)
set_option maxRecDepth 100000 in
set_option maxHeartbeats 1000000 in
theorem hsend_any (x : Int × Int × ByteArray) (w : World) :
    Calls Tryz.prog 90 #[.agg #[.int .i64 x.1, .int .i64 x.2.1, .string x.2.2]] w fun e w' => e = .returned (.agg #[.int .u8 2, .int .i64 0, .int .i64 x.2.1, .string x.2.2]) ∧ Below w.heap.size w w' := by
  go_enter Tryz.func90, Tryz.ntmps90
  go_wp2
  refine bodyPost_ret (v := .agg #[.int .u8 2, .int .i64 0, .int .i64 x.2.1, .string x.2.2]) (by simp [results, Tryz.results90, go_sem]) rfl ⟨rfl, ?_⟩
  exact bel_alloc (bel_alloc (Below.refl _ _) _) _
def sliceLen : Value → Nat
  | .slice _ n _ => n
  | _ => 0
/-- How what waits is popped. -/
def Pops (B d : Nat) (R : List (Int × Int × ByteArray) → List (Int × Int × ByteArray) → Prop) : Prop :=
  ∀ (h s : List (Int × Int × ByteArray)) (x : Int × Int × ByteArray) (cur : Array Value) (wv : Value) (w : World), R h (x :: s) → WaitIn B w d cur wv h →
    Calls Tryz.prog 89 #[.iface 160 (.pointer (some ⟨d, 14, none⟩))] w fun e w' => ∃ v' h', e = .returned (.iface 163 (.agg #[.int .i64 x.1, .int .i64 x.2.1, .string x.2.2])) ∧ R h' s ∧ WaitIn B w' d (cur.setIfInBounds 14 v') v' h' ∧ FtT B wtT w w'
def Two (h s : List (Int × Int × ByteArray)) : Prop := h = s ∧ s.length ≤ 2
theorem pops_two {B : Nat} (d : Nat) : Pops B d Two := by
  rintro h s x cur wv w ⟨rfl, hl⟩ hw
  match s, hl, hw with
  | [], _, hw => exact (heapPop_one d cur wv x w hw).mono fun e w' ⟨v', h1, h2, h3⟩ => ⟨v', [], h1, ⟨rfl, by simp⟩, h2, h3⟩
  | [y], _, hw => exact (heapPop_two d cur wv x y w hw).mono fun e w' ⟨v', h1, h2, h3⟩ => ⟨v', [y], h1, ⟨rfl, by simp⟩, h2, h3⟩
  | y :: z :: s, hl, hw => simp at hl
set_option maxRecDepth 100000 in
set_option maxHeartbeats 1000000 in
theorem sendAll_any {B : Nat} (d : Nat) (R : List (Int × Int × ByteArray) → List (Int × Int × ByteArray) → Prop) (hR : ∀ h s, R h s → h.length = s.length) (hP : Pops B d R) (cur : Array Value) (wv : Value) (h s : List (Int × Int × ByteArray)) (w : World) (hl : s.length ≤ 1000) (hh : R h s) (hw : WaitIn B w d cur wv h) :
    Calls Tryz.prog 60 #[.pointer (some ⟨d, 14, none⟩)] w fun e w' => ∃ v, e = .returned v ∧ w'.ownsRow w.heap.size 77 4 v s.length ((s.map sendOf).flatMap encA) ∧ WaitIn B w' d (cur.setIfInBounds 14 (.slice none 0 0)) (.slice none 0 0) [] ∧ FtT B wtT w w' := by
  obtain ⟨i0, hi, hz0, hz1, hz2⟩ := info_parts Tryz.infoEA
  have HP := hideF hP
  have HR := hideF hR
  have HH := hideF hh
  have HW := hideF hw
  clear hP hR hh hw
  go_enter Tryz.func60, Tryz.ntmps60
  go_wp2_with fail
  go_loopw [3] (fun v wr => ∃ (p r hr : List (Int × Int × ByteArray)) (wv' : Value) (cur' : Array Value), s = p ++ r ∧ R hr r ∧ wr.ownsRow w.heap.size 77 4 v p.length ((p.map sendOf).flatMap encA) ∧ WaitIn B wr d cur' wv' hr ∧ cur'.setIfInBounds 14 (.slice none 0 0) = cur.setIfInBounds 14 (.slice none 0 0) ∧ FtT B wtT w wr) (fun v _ => s.length - sliceLen v)
  case atStart => exact ⟨[], s, h, wv, cur, rfl, HH.out, World.ownsRow_nil _ _ _ _, HW.out, rfl, FtT.refl _ _⟩
  case round =>
    obtain ⟨p, r, hr, wv', cur', hs, hrr, hown, hw, hcur, hf⟩ := hrel
    obtain ⟨a1, k1, rfl, _⟩ := own_view hw.own
    obtain ⟨a3, k3, rfl, _⟩ := own_view hown
    have hlr := HR.out hr r hrr
    have c14 := hw.cell
    have f14 := hw.fz
    have HO := hideF hown
    have HWR := hideF hw
    have HCU := hideF hcur
    have HF := hideF hf
    have HRR := hideF hrr
    have HSE := hideF hs
    have hsz := hf.size
    have hpl : p.length + r.length = s.length := by rw [hs, List.length_append]
    clear hown hw hcur hf hrr hs
    cases r with
    | nil =>
      have h0 : hr.length = 0 := hlr
      have hr0 : hr = [] := List.eq_nil_of_length_eq_zero h0
      subst hr0
      have h0' : decide ((0 : Int) < ((([] : List (Int × Int × ByteArray)).length : Nat) : Int)) = false := rfl
      go_wp2_with fail
      refine (hlen_any _ _ _ _).mono ?_
      rintro e w1 ⟨rfl, rfl⟩
      go_wp2_with fail
      go_ret
      have hsp : s = p := by have := HSE.out; rwa [List.append_nil] at this
      refine ⟨_, rfl, ?_, ?_, HF.out.setCell HWR.out.dev rfl HWR.out.lo _ _⟩
      · rw [hsp]
        refine own_same HO.out (fun g hg => heap_setCell_other _ _ _ _ (by have := (HO.out.lt g hg).1; obtain ⟨cg, hcg⟩ := own_block HO.out g hg; exact ne_of_types hcg HWR.out.dev (by decide)))
      · have := WaitIn.set HWR.out.dev HWR.out.size HWR.out.lo (v := .slice none 0 0) (l' := []) (World.ownsRow_nil _ _ _ _)
        rw [HCU.out] at this
        exact this
    | cons x r =>
      have hlr' : hr.length = r.length + 1 := hlr
      have h0' : decide ((0 : Int) < (hr.length : Int)) = true := by simp; omega
      have hta := assertAns x
      go_wp2_with fail
      refine (hlen_any _ _ _ _).mono ?_
      rintro e w1 ⟨rfl, rfl⟩
      go_wp2_with fail
      refine (HP.out hr r x cur' _ _ HRR.out HWR.out).mono ?_
      rintro e w2 ⟨v2, h2, rfl, hr2, hw2, hf2⟩
      have HR2 := hideF hr2
      have HW2 := hideF hw2
      have HF2 := hideF (HF.out.trans hf2)
      have HO2 := hideF (own_same (w' := w2) HO.out (fun g hg => by obtain ⟨cg, hcg⟩ := own_block HO.out g hg; exact hf2.keep g cg 77 hcg rfl))
      have hsz2 := HF2.out.size
      clear hr2 hw2 hf2 HRR HWR HO c14 f14
      go_wp2_with fail
      refine (hsend_any x _).mono ?_
      rintro e w3 ⟨rfl, hb3⟩
      have HW3 := hideF (HW2.out.below hb3)
      have HF3 := hideF (HF2.out.then_below hb3)
      have HO3 := hideF (ownsRow_below HO2.out hb3)
      have hsz3 := HF3.out.size
      clear hb3 HW2 HF2 HO2
      go_wp2_with (at_builtin; refine wpList_append_own _ rfl (.tmp 9) (.tmp 15) 31 rfl w.heap.size 77 i0 _ 4 40 Tryz.underlying31 hi hz0 hz1 hz2 rfl (by decide) (.slice a3 p.length k3) p.length _ rfl (HO3.out.alloc _) ⟨w3.heap.size, 0, none⟩ 1 1 [.int .u8 2, .int .i64 0, .int .i64 x.2.1, .string x.2.2] rfl rfl (cell_four_new _ _ _ _ _ _) (by intro u hu; simp at hu; rcases hu with rfl | rfl | rfl | rfl <;> rfl) (by unfold maxLen; omega) (by omega) (by simp; omega) ?_; intro v' w4 hown4 hgrow4 _; obtain ⟨a4, k4, rfl, _⟩ := own_view hown4)
      go_roundw
      case rel =>
        have hg4 : Below w3.heap.size w3 (w3.alloc (.cells #[.int .u8 2, .int .i64 0, .int .i64 x.2.1, .string x.2.2] 77)) := bel_alloc (Below.refl _ _) _
        have hW4 := HW3.out.below hg4
        refine ⟨p ++ [x], r, h2, v2, _, by rw [HSE.out]; simp, HR2.out, ?_, ⟨?_, hW4.size, hW4.at14, own_same hW4.own (fun g hg => hgrow4.block g (hW4.own.lt g hg).2 ?_), hW4.lo⟩, ?_, ?_⟩
        · rw [List.map_append, List.flatMap_append, List.length_append]; exact hown4
        · rw [hgrow4.block d (lt_of_block hW4.dev) (fun e => by have := (HO3.out.lt d e.symm).1; obtain ⟨cg, hcg⟩ := own_block HO3.out d e.symm; exact ne_of_types hcg HW3.out.dev (by decide) rfl)]
          exact hW4.dev
        · intro e
          obtain ⟨cg, hcg⟩ := own_block HO3.out g e.symm
          obtain ⟨cg', hcg'⟩ := own_block HW3.out.own g hg
          exact ne_of_types hcg hcg' (by decide) rfl
        · rw [← HCU.out]; simp
        · exact (HF3.out.alloc _).grown_new hgrow4 (fun k hk => (HO3.out.lt k hk).1)
      case measure => simp [sliceLen]; omega
end Go.Proofs.YtcpldcojckhapaaGreat
