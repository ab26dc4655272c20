/-
  Feed of one whole request over a Stream: what it does.
-/
import Derived.Test.YtcpldcojckhapaaGreatQ8
import Derived.Test.YtcpldcojckhapaaGreatQ9
import Derived.Test.YtcpldcojckhapaaGreatJ41
set_option maxRecDepth 100000
namespace Go.Proofs.YtcpldcojckhapaaGreat
open Go.RowKit

/-- What taking a request comes to. -/
def TakeIs (d L S : Nat) (E : Nat → Nat) (wv : Value) (D D' : Dev) (i m : Nat) (b : ByteArray) (A : List (Int × Int × Int × ByteArray)) : Prop :=
  ∀ w : World, DevIn w d L S E wv D → Calls Tryz.prog 57 #[.pointer (some ⟨d, 0, none⟩), .int .i64 (i : Nat), .agg #[.int .i64 (m : Nat), .int .i64 (D.unit : Nat), .string b]] w fun e w' => ∃ v wv', e = .returned v ∧ w'.ownsRow w.heap.size 77 4 v A.length (A.flatMap encA) ∧ (A = [] → v = .slice none 0 0) ∧ DevIn w' d L S E wv' D' ∧ FtT D.base devT w w'
theorem within_yes (n a b : Int) (w : World) (h1 : a ≤ n) (h2 : n ≤ b) : Calls Tryz.prog 53 #[.int .i64 n, .int .i64 a, .int .i64 b] w fun e w' => e = .returned (.bool true) ∧ w' = w := by
  have d1 : decide (a ≤ n) = true := by simp [h1]
  have d2 : decide (n ≤ b) = true := by simp [h2]
  go_enter Tryz.func53, Tryz.ntmps53
  go_wp2
  go_ret
  exact ⟨rfl, rfl⟩
/-- A splitting of one request. -/
theorem spl_one {m u : Nat} {b : ByteArray} (hx : Pl.May (m, u, b)) {acc : List Value} {t : Nat} {k : Int} (h : SplIs (streamB m u b) acc t k) : acc = Pl.frC (m, u, b) ∧ t = (streamB m u b).size ∧ k = 0 := by
  obtain ⟨h1, h2⟩ := h
  obtain ⟨e1, e2⟩ := Pl.split_one m u b hx
  rw [e1] at h1
  obtain ⟨rfl, rfl⟩ := Prod.mk.inj h1
  rw [e2] at h2
  exact ⟨rfl, (Pl.streamB_size m u b).symm, h2⟩
theorem DevIn.heard {w w' : World} {d L S : Nat} {E : Nat → Nat} {wv : Value} {D : Dev} {g : Nat → Ln} (h : DevIn w d L S E wv D) (hG : Grid w' L 116 D.nl 3 (fun a j => lnc (g a) j)) (hc : Chg1 L w w') : DevIn w' d L S E wv { D with ln := g } := by
  obtain ⟨cl, hcl⟩ := h.lines.block
  refine ⟨(hc.block d (lt_of_block h.dev) (ne_of_types h.dev hcl (by decide))).trans h.dev, hG, fun i hi => ?_, h.inj, (hc.block S (lt_of_block h.store) (ne_of_types h.store hcl (by decide))).trans h.store, own_same h.wait (fun g hg => ?_), h.lo⟩
  · obtain ⟨ce, hce⟩ := (h.ent i hi).block
    exact (h.ent i hi).same (hc.block (E i) (lt_of_block hce) (ne_of_types hce hcl (by decide)))
  · obtain ⟨cg, hcg⟩ := own_block h.wait g hg
    exact hc.block g (lt_of_block hcg) (ne_of_types hcg hcl (by decide))
theorem heard_none (s : ByteArray) : heardL s s.size 0 = ⟨0, ⟨#[]⟩, false⟩ := by
  have e : s.extract s.size s.size = ⟨#[]⟩ := by apply ByteArray.ext; simp
  unfold heardL
  rw [if_pos rfl, e]
theorem hear_one (d L S i m : Nat) (E : Nat → Nat) (wv : Value) (D : Dev) (b : ByteArray) (w : World) (h : DevIn w d L S E wv D) (hi : i < D.nl) (hln : D.ln i = ⟨0, ⟨#[]⟩, false⟩) (hx : Pl.May (m, D.unit, b)) :
    Calls Tryz.prog 56 #[.pointer (some ⟨L, i * 3, none⟩), .string (streamB m D.unit b)] w fun e w' => ∃ g p, e = .returned (.slice (some ⟨g, 0, none⟩) 1 p) ∧ w'.cell? ⟨g, 0, none⟩ = some (.int .i64 (m : Nat)) ∧ w'.cell? ⟨g, 1, none⟩ = some (.int .i64 (D.unit : Nat)) ∧ w'.cell? ⟨g, 2, none⟩ = some (.string b) ∧ DevIn w' d L S E wv D ∧ FtT D.base devT w w' := by
  have hzs := Pl.streamB_size m D.unit b
  have he : (D.ln i).bytes ++ streamB m D.unit b = streamB m D.unit b := by rw [hln]; apply ByteArray.ext; simp
  have hz2 : ((D.ln i).bytes ++ streamB m D.unit b).size ≤ 4194304 := by rw [he, hzs]; have := hx.2.2.2; simp only at this; omega
  refine (hear_stream L i D.nl D.ln (streamB m D.unit b) w h.lines hi (by rw [hln]) (by rw [hln]) hz2).mono ?_
  rintro e w1 ⟨v1, n1, acc, t, k, rfl, hown1, hspl, hn1, hG1, hc1⟩
  rw [he] at hspl hG1
  obtain ⟨hacc, htt, hkk⟩ := spl_one hx hspl
  rw [htt, hkk, heard_none] at hG1
  rw [hacc] at hown1
  have hn1' : n1 = 1 := by have := hown1.1; change 3 = n1 * 3 at this; omega
  rw [hn1'] at hown1
  have hgl : ∀ a, (if a = i then (⟨0, ⟨#[]⟩, false⟩ : Ln) else D.ln a) = D.ln a := fun a => by
    by_cases e : a = i
    · rw [if_pos e, e, hln]
    · rw [if_neg e]
  have hG2 : Grid w1 L 116 D.nl 3 (fun a j => lnc (D.ln a) j) := hG1.congr fun a j _ _ => by rw [hgl]
  obtain ⟨cl, hcl⟩ := h.lines.block
  obtain ⟨a1, p1, rfl, hat1⟩ := own_view hown1
  obtain ⟨g1, rfl, hg1, hcells⟩ := hat1 0 (by omega)
  exact ⟨g1, p1, rfl, by rw [hcells 0 (by omega)]; rfl, by rw [hcells 1 (by omega)]; rfl, by rw [hcells 2 (by omega)]; rfl, DevIn.heard (g := D.ln) h hG2 hc1, FtT.chg hc1 hcl rfl h.lo.2.1⟩
theorem append_nils (W : World) : (Builtin.append_ #[31, 31] 31 #[.slice none 0 0, .slice none 0 0]).run Tryz.prog W = .ok (.slice none 0 0) W := by kernel_rfl
set_option maxRecDepth 100000 in
set_option maxHeartbeats 2000000 in
theorem feed_one (d L S i m : Nat) (E : Nat → Nat) (wv : Value) (D D' : Dev) (b : ByteArray) (A : List (Int × Int × Int × ByteArray)) (w : World) (h : DevIn w d L S E wv D) (hi : i < D.nl) (hnl : D.nl ≤ 100) (hln : D.ln i = ⟨0, ⟨#[]⟩, false⟩) (hx : Pl.May (m, D.unit, b)) (ht : TakeIs d L S E wv D D' i m b A) (hA : A.length ≤ 1) (s : ByteArray) (hs : s = streamB m D.unit b) :
    Calls Tryz.prog 20 #[.pointer (some ⟨d, 0, none⟩), .int .i64 (i : Nat), .string s] w fun e w' => ∃ v wv', e = .returned (.tuple #[v, .int .i64 0]) ∧ w'.ownsRow w.heap.size 77 4 v A.length (A.flatMap encA) ∧ DevIn w' d L S E wv' D' ∧ FtT D.base devT w w' := by
  obtain ⟨i0, hi0, hz0, hz1, hz2⟩ := info_parts Tryz.infoEA
  obtain ⟨c0, c1, c2, c11, c12, c13, c14, cf, hdl⟩ := h.cells
  have hH := hear_one d L S i m E wv D b w h hi hln hx
  rw [← hs] at hH
  have HHR := hideF hH
  have HH := hideF h
  have HT := hideF ht
  have hiI : (i : Int) < (D.nl : Int) := by omega
  have hap := append_nils
  clear h hln hx ht hH hs
  go_enter Tryz.func20, Tryz.ntmps20
  go_wp2_with fail
  refine (within_yes _ _ _ _ (by omega) (by omega)).mono ?_
  rintro e w0 ⟨rfl, hw0⟩
  rw [hw0]
  clear hw0
  go_wp2_with fail
  refine HHR.out.mono ?_
  rintro e w1 ⟨g1, p1, rfl, f0, f1, f2, hD1, hF1⟩
  have HD1 := hideF hD1
  have HF1 := hideF hF1
  have hs1 := hF1.size
  clear hD1 hF1 HHR c0 c1 c2 c11 c12 c13 c14 cf
  go_wp2_with fail
  go_loopw [29, 8] (fun q v wr => (q = .int .i64 0 ∧ v = .slice none 0 0 ∧ wr = w1) ∨ (q = .int .i64 1 ∧ ∃ wv', wr.ownsRow w.heap.size 77 4 v A.length (A.flatMap encA) ∧ DevIn wr d L S E wv' D' ∧ FtT D.base devT w wr)) (fun q _ _ => 1 - (intOf q).toNat)
  case atStart => exact .inl ⟨rfl, rfl, rfl⟩
  case round =>
    rcases hrel with ⟨rfl, rfl, rfl⟩ | ⟨rfl, wv', hown, hD, hF⟩
    · obtain ⟨X, hX⟩ : ∃ X, X = wr.alloc (.cells #[.int .i64 (m : Nat), .int .i64 (D.unit : Nat), .string b] 94) := ⟨_, rfl⟩
      have hXb : Below wr.heap.size wr X := by rw [hX]; exact bel_alloc (Below.refl _ _) _
      have HTX := hideF (HT.out X (HD1.out.belowQ hXb))
      have HXF := hideF (HF1.out.then_below hXb)
      have hsX := HXF.out.size
      clear hXb
      go_wp2_with fail
      rw [← hX]
      clear hX
      refine HTX.out.mono ?_
      rintro e w2 ⟨v2, wv2, rfl, hown2, hnil, hD2, hF2⟩
      have HD2 := hideF hD2
      have HF2 := hideF (HXF.out.trans hF2)
      have HO2 := hideF (own_base (B := w.heap.size) hown2 hsX)
      have hs2 := HF2.out.size
      have hAA : A = [] ∨ ∃ x, A = [x] := by
        match A, hA with
        | [], _ => exact .inl rfl
        | [x], _ => exact .inr ⟨x, rfl⟩
        | _ :: _ :: _, hA => simp at hA
      rcases hAA with hA0 | ⟨x, hA0⟩
      · obtain rfl := hnil hA0
        have HA0 := hideF hA0
        clear hown2 hnil hD2 hF2 HTX hA0
        go_wp2_with fail
        go_roundw
        case rel => exact .inr ⟨rfl, wv2, by rw [HA0.out]; exact World.ownsRow_nil _ _ _ _, HD2.out, HF2.out⟩
        case measure => simp [intOf]
      · have HA0 := hideF hA0
        have hO2 := HO2.out
        rw [hA0] at hO2
        clear HO2 hnil hA0
        have HO2 := hideF hO2
        clear hO2
        obtain ⟨a3, p3, rfl, hat3⟩ := own_view HO2.out
        obtain ⟨g3, rfl, hg3, hc3⟩ := hat3 0 (by simp)
        have HC3 : Hid (∀ j u, ([x].flatMap encA)[j]? = some u → w2.cell? ((⟨g3, 0, none⟩ : Addr).add j) = some u) := fun j u hj => by
          have hjl : j < ([x].flatMap encA).length := (List.getElem?_eq_some_iff.1 hj).1
          have e : (⟨g3, 0, none⟩ : Addr).add j = ⟨g3, j, none⟩ := by by_cases h0 : j = 0 <;> simp [Addr.add, h0]
          rw [e, hc3 j hjl, hj]
        clear hown2 hD2 hF2 HTX hat3 hc3
        go_wp2_with (at_builtin; refine wpList_append_own _ rfl (.tmp 33) (.tmp 37) 31 rfl w.heap.size 77 i0 _ 4 40 Tryz.underlying31 hi0 hz0 hz1 hz2 rfl (by decide) (.slice none 0 0) 0 [] rfl (World.ownsRow_nil _ _ _ _) ⟨g3, 0, none⟩ 1 p3 ([x].flatMap encA) rfl rfl HC3.out (encA_one _) (by unfold maxLen; omega) (by omega) (by omega) ?_; intro v' w4 hown4 hgrow4 _; obtain ⟨a4, p4, rfl, _⟩ := own_view hown4)
        have HO4 := hideF hown4
        have HF4 := hideF (HF2.out.grown_new hgrow4 (fun k hk => by simp [Value.ownBlock] at hk))
        have HD4 := hideF (HD2.out.keep ((FtT.refl (B := 0) (fun t => t == 77) w2).grown_new hgrow4 (fun k hk => by simp [Value.ownBlock] at hk)) rfl rfl rfl rfl rfl)
        clear hown4 hgrow4
        go_roundw
        case rel => exact .inr ⟨rfl, wv2, by rw [HA0.out]; exact HO4.out, HD4.out, HF4.out⟩
        case measure => simp [intOf]
    · have HO := hideF hown
      have HD := hideF hD
      have HF := hideF hF
      clear hown hD hF
      go_wp2
      go_ret2
      exact ⟨_, wv', rfl, HO.out, HD.out, HF.out⟩
end Go.Proofs.YtcpldcojckhapaaGreat
