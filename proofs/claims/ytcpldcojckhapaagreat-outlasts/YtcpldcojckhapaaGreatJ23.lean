/-
  Feed of one whole request over a Stream: what it does.
  Feed of one whole request over a Stream, whatever acts it comes to.
  A request that writes what is kept, and with which the batch is full: what take does with it.
-/
import Derived.Test.YtcpldcojckhapaaGreatJ22
import Derived.Test.YtcpldcojckhapaaGreatJ19
set_option maxRecDepth 100000
namespace Go.Proofs.YtcpldcojckhapaaGreat
open Go.RowKit

/-- What taking a request comes to. -/
def TakeIs (d L S : Nat) (E : Nat → Nat) (wv : Value) (D D' : Dev) (i m : Nat) (b : ByteArray) (A : List (Int × Int × Int × ByteArray)) : Prop :=
  ∀ w : World, DevIn w d L S E wv D → Calls Tryz.prog 57 #[.pointer (some ⟨d, 0, none⟩), .int .i64 (i : Nat), .agg #[.int .i64 (m : Nat), .int .i64 (D.unit : Nat), .string b]] w fun e w' => ∃ v wv', e = .returned v ∧ w'.ownsRow w.heap.size 77 4 v A.length (A.flatMap encA) ∧ (A = [] → v = .slice none 0 0) ∧ DevIn w' d L S E wv' D' ∧ FtT D.base devT w w'
theorem within_yes (n a b : Int) (w : World) (h1 : a ≤ n) (h2 : n ≤ b) : Calls Tryz.prog 53 #[.int .i64 n, .int .i64 a, .int .i64 b] w fun e w' => e = .returned (.bool true) ∧ w' = w := by
  have d1 : decide (a ≤ n) = true := by simp [h1]
  have d2 : decide (n ≤ b) = true := by simp [h2]
  go_enter Tryz.func53, Tryz.ntmps53
  go_wp2
  go_ret
  exact ⟨rfl, rfl⟩
/-- A splitting of one request. -/
theorem spl_one {m u : Nat} {b : ByteArray} (hx : Pl.May (m, u, b)) {acc : List Value} {t : Nat} {k : Int} (h : SplIs (streamB m u b) acc t k) : acc = Pl.frC (m, u, b) ∧ t = (streamB m u b).size ∧ k = 0 := by
  obtain ⟨h1, h2⟩ := h
  obtain ⟨e1, e2⟩ := Pl.split_one m u b hx
  rw [e1] at h1
  obtain ⟨rfl, rfl⟩ := Prod.mk.inj h1
  rw [e2] at h2
  exact ⟨rfl, (Pl.streamB_size m u b).symm, h2⟩
theorem DevIn.heard {w w' : World} {d L S : Nat} {E : Nat → Nat} {wv : Value} {D : Dev} {g : Nat → Ln} (h : DevIn w d L S E wv D) (hG : Grid w' L 116 D.nl 3 (fun a j => lnc (g a) j)) (hc : Chg1 L w w') : DevIn w' d L S E wv { D with ln := g } := by
  obtain ⟨cl, hcl⟩ := h.lines.block
  refine ⟨(hc.block d (lt_of_block h.dev) (ne_of_types h.dev hcl (by decide))).trans h.dev, hG, fun i hi => ?_, h.inj, (hc.block S (lt_of_block h.store) (ne_of_types h.store hcl (by decide))).trans h.store, own_same h.wait (fun g hg => ?_), h.lo⟩
  · obtain ⟨ce, hce⟩ := (h.ent i hi).block
    exact (h.ent i hi).same (hc.block (E i) (lt_of_block hce) (ne_of_types hce hcl (by decide)))
  · obtain ⟨cg, hcg⟩ := own_block h.wait g hg
    exact hc.block g (lt_of_block hcg) (ne_of_types hcg hcl (by decide))
theorem heard_none (s : ByteArray) : heardL s s.size 0 = ⟨0, ⟨#[]⟩, false⟩ := by
  have e : s.extract s.size s.size = ⟨#[]⟩ := by apply ByteArray.ext; simp
  unfold heardL
  rw [if_pos rfl, e]
theorem hear_one (d L S i m : Nat) (E : Nat → Nat) (wv : Value) (D : Dev) (b : ByteArray) (w : World) (h : DevIn w d L S E wv D) (hi : i < D.nl) (hln : D.ln i = ⟨0, ⟨#[]⟩, false⟩) (hx : Pl.May (m, D.unit, b)) :
    Calls Tryz.prog 56 #[.pointer (some ⟨L, i * 3, none⟩), .string (streamB m D.unit b)] w fun e w' => ∃ g p, e = .returned (.slice (some ⟨g, 0, none⟩) 1 p) ∧ w'.cell? ⟨g, 0, none⟩ = some (.int .i64 (m : Nat)) ∧ w'.cell? ⟨g, 1, none⟩ = some (.int .i64 (D.unit : Nat)) ∧ w'.cell? ⟨g, 2, none⟩ = some (.string b) ∧ DevIn w' d L S E wv D ∧ FtT D.base devT w w' := by
  have hzs := Pl.streamB_size m D.unit b
  have he : (D.ln i).bytes ++ streamB m D.unit b = streamB m D.unit b := by rw [hln]; apply ByteArray.ext; simp
  have hz2 : ((D.ln i).bytes ++ streamB m D.unit b).size ≤ 4194304 := by rw [he, hzs]; have := hx.2.2.2; simp only at this; omega
  refine (hear_stream L i D.nl D.ln (streamB m D.unit b) w h.lines hi (by rw [hln]) (by rw [hln]) hz2).mono ?_
  rintro e w1 ⟨v1, n1, acc, t, k, rfl, hown1, hspl, hn1, hG1, hc1⟩
  rw [he] at hspl hG1
  obtain ⟨hacc, htt, hkk⟩ := spl_one hx hspl
  rw [htt, hkk, heard_none] at hG1
  rw [hacc] at hown1
  have hn1' : n1 = 1 := by have := hown1.1; change 3 = n1 * 3 at this; omega
  rw [hn1'] at hown1
  have hgl : ∀ a, (if a = i then (⟨0, ⟨#[]⟩, false⟩ : Ln) else D.ln a) = D.ln a := fun a => by
    by_cases e : a = i
    · rw [if_pos e, e, hln]
    · rw [if_neg e]
  have hG2 : Grid w1 L 116 D.nl 3 (fun a j => lnc (D.ln a) j) := hG1.congr fun a j _ _ => by rw [hgl]
  obtain ⟨cl, hcl⟩ := h.lines.block
  obtain ⟨a1, p1, rfl, hat1⟩ := own_view hown1
  obtain ⟨g1, rfl, hg1, hcells⟩ := hat1 0 (by omega)
  exact ⟨g1, p1, rfl, by rw [hcells 0 (by omega)]; rfl, by rw [hcells 1 (by omega)]; rfl, by rw [hcells 2 (by omega)]; rfl, DevIn.heard (g := D.ln) h hG2 hc1, FtT.chg hc1 hcl rfl h.lo.2.1⟩
theorem append_nils (W : World) : (Builtin.append_ #[31, 31] 31 #[.slice none 0 0, .slice none 0 0]).run Tryz.prog W = .ok (.slice none 0 0) W := by kernel_rfl
set_option maxRecDepth 100000 in
set_option maxHeartbeats 2000000 in
theorem feed_one (d L S i m : Nat) (E : Nat → Nat) (wv : Value) (D D' : Dev) (b : ByteArray) (A : List (Int × Int × Int × ByteArray)) (w : World) (h : DevIn w d L S E wv D) (hi : i < D.nl) (hnl : D.nl ≤ 100) (hln : D.ln i = ⟨0, ⟨#[]⟩, false⟩) (hx : Pl.May (m, D.unit, b)) (ht : TakeIs d L S E wv D D' i m b A) (hA : A.length ≤ 1) (s : ByteArray) (hs : s = streamB m D.unit b) :
    Calls Tryz.prog 20 #[.pointer (some ⟨d, 0, none⟩), .int .i64 (i : Nat), .string s] w fun e w' => ∃ v wv', e = .returned (.tuple #[v, .int .i64 0]) ∧ w'.ownsRow w.heap.size 77 4 v A.length (A.flatMap encA) ∧ DevIn w' d L S E wv' D' ∧ FtT D.base devT w w' := by
  obtain ⟨i0, hi0, hz0, hz1, hz2⟩ := info_parts Tryz.infoEA
  obtain ⟨c0, c1, c2, c11, c12, c13, c14, cf, hdl⟩ := h.cells
  have hH := hear_one d L S i m E wv D b w h hi hln hx
  rw [← hs] at hH
  have HHR := hideF hH
  have HH := hideF h
  have HT := hideF ht
  have hiI : (i : Int) < (D.nl : Int) := by omega
  have hap := append_nils
  clear h hln hx ht hH hs
  go_enter Tryz.func20, Tryz.ntmps20
  go_wp2_with fail
  refine (within_yes _ _ _ _ (by omega) (by omega)).mono ?_
  rintro e w0 ⟨rfl, hw0⟩
  rw [hw0]
  clear hw0
  go_wp2_with fail
  refine HHR.out.mono ?_
  rintro e w1 ⟨g1, p1, rfl, f0, f1, f2, hD1, hF1⟩
  have HD1 := hideF hD1
  have HF1 := hideF hF1
  have hs1 := hF1.size
  clear hD1 hF1 HHR c0 c1 c2 c11 c12 c13 c14 cf
  go_wp2_with fail
  go_loopw [29, 8] (fun q v wr => (q = .int .i64 0 ∧ v = .slice none 0 0 ∧ wr = w1) ∨ (q = .int .i64 1 ∧ ∃ wv', wr.ownsRow w.heap.size 77 4 v A.length (A.flatMap encA) ∧ DevIn wr d L S E wv' D' ∧ FtT D.base devT w wr)) (fun q _ _ => 1 - (intOf q).toNat)
  case atStart => exact .inl ⟨rfl, rfl, rfl⟩
  case round =>
    rcases hrel with ⟨rfl, rfl, rfl⟩ | ⟨rfl, wv', hown, hD, hF⟩
    · obtain ⟨X, hX⟩ : ∃ X, X = wr.alloc (.cells #[.int .i64 (m : Nat), .int .i64 (D.unit : Nat), .string b] 94) := ⟨_, rfl⟩
      have hXb : Below wr.heap.size wr X := by rw [hX]; exact bel_alloc (Below.refl _ _) _
      have HTX := hideF (HT.out X (HD1.out.belowQ hXb))
      have HXF := hideF (HF1.out.then_below hXb)
      have hsX := HXF.out.size
      clear hXb
      go_wp2_with fail
      rw [← hX]
      clear hX
      refine HTX.out.mono ?_
      rintro e w2 ⟨v2, wv2, rfl, hown2, hnil, hD2, hF2⟩
      have HD2 := hideF hD2
      have HF2 := hideF (HXF.out.trans hF2)
      have HO2 := hideF (own_base (B := w.heap.size) hown2 hsX)
      have hs2 := HF2.out.size
      have hAA : A = [] ∨ ∃ x, A = [x] := by
        match A, hA with
        | [], _ => exact .inl rfl
        | [x], _ => exact .inr ⟨x, rfl⟩
        | _ :: _ :: _, hA => simp at hA
      rcases hAA with hA0 | ⟨x, hA0⟩
      · obtain rfl := hnil hA0
        have HA0 := hideF hA0
        clear hown2 hnil hD2 hF2 HTX hA0
        go_wp2_with fail
        go_roundw
        case rel => exact .inr ⟨rfl, wv2, by rw [HA0.out]; exact World.ownsRow_nil _ _ _ _, HD2.out, HF2.out⟩
        case measure => simp [intOf]
      · have HA0 := hideF hA0
        have hO2 := HO2.out
        rw [hA0] at hO2
        clear HO2 hnil hA0
        have HO2 := hideF hO2
        clear hO2
        obtain ⟨a3, p3, rfl, hat3⟩ := own_view HO2.out
        obtain ⟨g3, rfl, hg3, hc3⟩ := hat3 0 (by simp)
        have HC3 : Hid (∀ j u, ([x].flatMap encA)[j]? = some u → w2.cell? ((⟨g3, 0, none⟩ : Addr).add j) = some u) := fun j u hj => by
          have hjl : j < ([x].flatMap encA).length := (List.getElem?_eq_some_iff.1 hj).1
          have e : (⟨g3, 0, none⟩ : Addr).add j = ⟨g3, j, none⟩ := by by_cases h0 : j = 0 <;> simp [Addr.add, h0]
          rw [e, hc3 j hjl, hj]
        clear hown2 hD2 hF2 HTX hat3 hc3
        go_wp2_with (at_builtin; refine wpList_append_own _ rfl (.tmp 33) (.tmp 37) 31 rfl w.heap.size 77 i0 _ 4 40 Tryz.underlying31 hi0 hz0 hz1 hz2 rfl (by decide) (.slice none 0 0) 0 [] rfl (World.ownsRow_nil _ _ _ _) ⟨g3, 0, none⟩ 1 p3 ([x].flatMap encA) rfl rfl HC3.out (encA_one _) (by unfold maxLen; omega) (by omega) (by omega) ?_; intro v' w4 hown4 hgrow4 _; obtain ⟨a4, p4, rfl, _⟩ := own_view hown4)
        have HO4 := hideF hown4
        have HF4 := hideF (HF2.out.grown_new hgrow4 (fun k hk => by simp [Value.ownBlock] at hk))
        have HD4 := hideF (HD2.out.keep ((FtT.refl (B := 0) (fun t => t == 77) w2).grown_new hgrow4 (fun k hk => by simp [Value.ownBlock] at hk)) rfl rfl rfl rfl rfl)
        clear hown4 hgrow4
        go_roundw
        case rel => exact .inr ⟨rfl, wv2, by rw [HA0.out]; exact HO4.out, HD4.out, HF4.out⟩
        case measure => simp [intOf]
    · have HO := hideF hown
      have HD := hideF hD
      have HF := hideF hF
      clear hown hD hF
      go_wp2
      go_ret2
      exact ⟨_, wv', rfl, HO.out, HD.out, HF.out⟩
end Go.Proofs.YtcpldcojckhapaaGreat

set_option maxRecDepth 100000
namespace Go.Proofs.YtcpldcojckhapaaGreat
open Go.RowKit

theorem encA_len (A : List (Int × Int × Int × ByteArray)) : (A.flatMap encA).length = A.length * 4 := by
  induction A with
  | nil => rfl
  | cons x A ih => rw [List.flatMap_cons, List.length_append, ih]; simp [encA]; omega
set_option maxRecDepth 100000 in
set_option maxHeartbeats 2000000 in
theorem feed_many (d L S i m : Nat) (E : Nat → Nat) (wv : Value) (D D' : Dev) (b : ByteArray) (A : List (Int × Int × Int × ByteArray)) (w : World) (h : DevIn w d L S E wv D) (hi : i < D.nl) (hnl : D.nl ≤ 100) (hln : D.ln i = ⟨0, ⟨#[]⟩, false⟩) (hx : Pl.May (m, D.unit, b)) (ht : TakeIs d L S E wv D D' i m b A) (hA : A.length ≤ 1000) (s : ByteArray) (hs : s = streamB m D.unit b) :
    Calls Tryz.prog 20 #[.pointer (some ⟨d, 0, none⟩), .int .i64 (i : Nat), .string s] w fun e w' => ∃ v wv', e = .returned (.tuple #[v, .int .i64 0]) ∧ w'.ownsRow w.heap.size 77 4 v A.length (A.flatMap encA) ∧ DevIn w' d L S E wv' D' ∧ FtT D.base devT w w' := by
  obtain ⟨i0, hi0, hz0, hz1, hz2⟩ := info_parts Tryz.infoEA
  obtain ⟨c0, c1, c2, c11, c12, c13, c14, cf, hdl⟩ := h.cells
  have hH := hear_one d L S i m E wv D b w h hi hln hx
  rw [← hs] at hH
  have HHR := hideF hH
  have HH := hideF h
  have HT := hideF ht
  have hiI : (i : Int) < (D.nl : Int) := by omega
  have hap := append_nils
  clear h hln hx ht hH hs
  go_enter Tryz.func20, Tryz.ntmps20
  go_wp2_with fail
  refine (within_yes _ _ _ _ (by omega) (by omega)).mono ?_
  rintro e w0 ⟨rfl, hw0⟩
  rw [hw0]
  clear hw0
  go_wp2_with fail
  refine HHR.out.mono ?_
  rintro e w1 ⟨g1, p1, rfl, f0, f1, f2, hD1, hF1⟩
  have HD1 := hideF hD1
  have HF1 := hideF hF1
  have hs1 := hF1.size
  clear hD1 hF1 HHR c0 c1 c2 c11 c12 c13 c14 cf
  go_wp2_with fail
  go_loopw [29, 8] (fun q v wr => (q = .int .i64 0 ∧ v = .slice none 0 0 ∧ wr = w1) ∨ (q = .int .i64 1 ∧ ∃ wv', wr.ownsRow w.heap.size 77 4 v A.length (A.flatMap encA) ∧ DevIn wr d L S E wv' D' ∧ FtT D.base devT w wr)) (fun q _ _ => 1 - (intOf q).toNat)
  case atStart => exact .inl ⟨rfl, rfl, rfl⟩
  case round =>
    rcases hrel with ⟨rfl, rfl, rfl⟩ | ⟨rfl, wv', hown, hD, hF⟩
    · obtain ⟨X, hX⟩ : ∃ X, X = wr.alloc (.cells #[.int .i64 (m : Nat), .int .i64 (D.unit : Nat), .string b] 94) := ⟨_, rfl⟩
      have hXb : Below wr.heap.size wr X := by rw [hX]; exact bel_alloc (Below.refl _ _) _
      have HTX := hideF (HT.out X (HD1.out.belowQ hXb))
      have HXF := hideF (HF1.out.then_below hXb)
      have hsX := HXF.out.size
      clear hXb
      go_wp2_with fail
      rw [← hX]
      clear hX
      refine HTX.out.mono ?_
      rintro e w2 ⟨v2, wv2, rfl, hown2, hnil, hD2, hF2⟩
      have HD2 := hideF hD2
      have HF2 := hideF (HXF.out.trans hF2)
      have HO2 := hideF (own_base (B := w.heap.size) hown2 hsX)
      have hs2 := HF2.out.size
      rcases Nat.eq_zero_or_pos A.length with hAz | hAp
      · have hA0 : A = [] := List.eq_nil_of_length_eq_zero hAz
        obtain rfl := hnil hA0
        have HA0 := hideF hA0
        clear hown2 hnil hD2 hF2 HTX hA0
        go_wp2_with fail
        go_roundw
        case rel => exact .inr ⟨rfl, wv2, by rw [HA0.out]; exact World.ownsRow_nil _ _ _ _, HD2.out, HF2.out⟩
        case measure => simp [intOf]
      · clear hnil
        obtain ⟨a3, p3, rfl, hat3⟩ := own_view HO2.out
        obtain ⟨g3, rfl, hg3, hc3⟩ := hat3 0 (by omega)
        have HEL := hideF (encA_len A)
        have HC3 : Hid (∀ j u, (A.flatMap encA)[j]? = some u → w2.cell? ((⟨g3, 0, none⟩ : Addr).add j) = some u) := fun j u hj => by
          have hjl : j < (A.flatMap encA).length := (List.getElem?_eq_some_iff.1 hj).1
          have e : (⟨g3, 0, none⟩ : Addr).add j = ⟨g3, j, none⟩ := by by_cases h0 : j = 0 <;> simp [Addr.add, h0]
          rw [e, hc3 j (by have := HEL.out; omega), hj]
        clear hown2 hD2 hF2 HTX hat3 hc3
        go_wp2_with (at_builtin; refine wpList_append_own _ rfl (.tmp 33) (.tmp 37) 31 rfl w.heap.size 77 i0 _ 4 40 Tryz.underlying31 hi0 hz0 hz1 hz2 rfl (by decide) (.slice none 0 0) 0 [] rfl (World.ownsRow_nil _ _ _ _) ⟨g3, 0, none⟩ A.length p3 (A.flatMap encA) rfl HEL.out HC3.out (encA_one _) (by unfold maxLen; omega) (by omega) (by omega) ?_; intro v' w4 hown4 hgrow4 _; obtain ⟨a4, p4, rfl, _⟩ := own_view hown4)
        have HO4 := hideF hown4
        have HF4 := hideF (HF2.out.grown_new hgrow4 (fun k hk => by simp [Value.ownBlock] at hk))
        have HD4 := hideF (HD2.out.keep ((FtT.refl (B := 0) (fun t => t == 77) w2).grown_new hgrow4 (fun k hk => by simp [Value.ownBlock] at hk)) rfl rfl rfl rfl rfl)
        clear hown4 hgrow4
        go_roundw
        case rel => exact .inr ⟨rfl, wv2, by have h := HO4.out; simp only [Nat.zero_add, List.nil_append] at h; exact h, HD4.out, HF4.out⟩
        case measure => simp [intOf]
    · have HO := hideF hown
      have HD := hideF hD
      have HF := hideF hF
      clear hown hD hF
      go_wp2
      go_ret2
      exact ⟨_, wv', rfl, HO.out, HD.out, HF.out⟩
end Go.Proofs.YtcpldcojckhapaaGreat

set_option maxRecDepth 100000
namespace Go.Proofs.YtcpldcojckhapaaGreat
open Go.RowKit

set_option maxRecDepth 100000 in
set_option maxHeartbeats 2000000 in
theorem take_flush (d L S i m : Nat) (E : Nat → Nat) (wv : Value) (D : Dev) (s r : ByteArray) (f : Nat → Nat → Int) (w : World) (h : DevIn w d L S E wv D) (hi : i < D.nl) (hk : (D.ln i).kind = 0) (hm : m < 65536) (hun : D.unit < 256) (ha : D.arr ≤ 1000000) (hr : r.size ≤ 253) (hdo : DoIs d L S E wv D s r true f) (hwl : D.batch ≤ D.wait.length + 1) (hub : D.uns ≤ 1000) (hx : ∀ y ∈ D.wait, y.1 < ((D.arr + 1 : Nat) : Int)) (hw1 : D.wait.length ≤ 1000) (A : List (Int × Int × Int × ByteArray)) (D3 : Dev) (hA0 : 0 < A.length) (hA1 : A.length ≤ 1000)
    (hfl : ∀ (w1 : World) (v1 : Value), DevIn w1 d L S E v1 { D with arr := D.arr + 1, ent := f, uns := D.uns + 1, wait := D.wait ++ [(((D.arr + 1 : Nat) : Int), ((i : Nat) : Int), streamB m D.unit r)] } → Calls Tryz.prog 24 #[.pointer (some ⟨d, 0, none⟩)] w1 fun e w' => ∃ v, e = .returned v ∧ w'.ownsRow w1.heap.size 77 4 v A.length (A.flatMap encA) ∧ DevIn w' d L S E (.slice none 0 0) D3 ∧ FtT D.base devT w1 w') :
    Calls Tryz.prog 57 #[.pointer (some ⟨d, 0, none⟩), .int .i64 (i : Nat), .agg #[.int .i64 (m : Nat), .int .i64 (D.unit : Nat), .string s]] w fun e w' => ∃ v, e = .returned v ∧ w'.ownsRow w.heap.size 77 4 v A.length (A.flatMap encA) ∧ DevIn w' d L S E (.slice none 0 0) D3 ∧ FtT D.base devT w w' := by
  obtain ⟨aw, cw, rfl, _⟩ := own_view h.wait
  obtain ⟨c0, c1, c2, c11, c12, c13, c14, cf, hdl⟩ := h.cells
  obtain ⟨W, hW⟩ : ∃ W, W = w.alloc (.cells #[.int .i64 (m : Nat), .int .i64 (D.unit : Nat), .string s] 94) := ⟨_, rfl⟩
  have hWb : Below w.heap.size w W := by rw [hW]; exact bel_alloc (Below.refl _ _) _
  have hWg : W.heap[w.heap.size]? = some (.cells #[.int .i64 (m : Nat), .int .i64 (D.unit : Nat), .string s] 94 (0, 0)) := by rw [hW]; exact heap_alloc_new w _
  have hWl : W.heap.size = w.heap.size + 1 := by rw [hW]; simp
  have HH := hideF h
  have HWb := hideF hWb
  have HWg := hideF hWg
  obtain ⟨i0, hi0, hz0, hz1, hz2⟩ := info_parts Tryz.infoEA
  have HFL := hideF hfl
  have HDO := hideF hdo
  have HXX := hideF hx
  clear h hWb hWg hdo hx hfl
  go_enter Tryz.func57, Tryz.ntmps57
  go_wp2_with fail
  rw [← hW]
  clear hW
  refine (newRequest_any s W).mono ?_
  rintro e w1 ⟨x, v, k, rfl, hown, hsh, hlen, hb⟩
  unfold reqV
  obtain ⟨av, cv, rfl, _⟩ := own_view hown
  obtain ⟨X, hX⟩ : ∃ X, X = w1.alloc (.cells #[.string s, .int .i64 (x.fn : Nat), .int .i64 (x.tab : Nat), .int .i64 (x.frm : Nat), .int .i64 (x.cnt : Nat), .int .i64 (x.into : Nat), .int .i64 (x.to : Nat), .int .i64 (x.many : Nat), .slice av x.vals.length cv, .int .u8 (k : Nat)] 146) := ⟨_, rfl⟩
  have hX1 : Below w1.heap.size w1 X := by rw [hX]; exact bel_alloc (Below.refl _ _) _
  have hXb : Below w.heap.size w X := bel_then (bel_then HWb.out hb) hX1
  have hXg : X.heap[w.heap.size]? = some (.cells #[.int .i64 (m : Nat), .int .i64 (D.unit : Nat), .string s] 94 (0, 0)) := (hX1.block _ (by have := hb.size; omega)).trans ((hb.block _ (by omega)).trans HWg.out)
  have hXr : X.heap[w1.heap.size]? = some (.cells #[.string s, .int .i64 (x.fn : Nat), .int .i64 (x.tab : Nat), .int .i64 (x.frm : Nat), .int .i64 (x.cnt : Nat), .int .i64 (x.into : Nat), .int .i64 (x.to : Nat), .int .i64 (x.many : Nat), .slice av x.vals.length cv, .int .u8 (k : Nat)] 146 (0, 0)) := by rw [hX]; exact heap_alloc_new w1 _
  have HXO := hideF (ownsRow_below hown hX1)
  have HXb := hideF hXb
  have HXg := hideF hXg
  have HXr := hideF hXr
  have hsz1 : w.heap.size < w1.heap.size := by have := hb.size; omega
  have HSH := hideF hsh
  have HD := hideF (HH.out.belowQ hXb)
  clear c0 c1 c2 c11 c12 c13 c14 cf hown hsh hb hX1
  obtain ⟨c0, c1, c2, c11, c12, c13, c14, cf, hdX⟩ := HD.out.cells
  obtain ⟨g0, g1, g2, gf⟩ := cells3f hXg
  clear hXb hXg hXr
  go_wp2_with fail
  rw [← hX]
  clear hX
  go_quiet (fail)
  obtain ⟨Y, hY⟩ : ∃ Y, Y = X.drewN nq := ⟨_, rfl⟩
  have hYb : Below X.heap.size X Y := by rw [hY]; exact below_drewN (Below.refl _ _) _
  rw [← hY]
  clear hY
  have HYb := hideF (bel_then HXb.out hYb)
  have hYg := (hYb.block _ (lt_of_block HXg.out)).trans HXg.out
  have hYr := (hYb.block _ (lt_of_block HXr.out)).trans HXr.out
  have HYO := hideF (ownsRow_below HXO.out hYb)
  have HYD := hideF (HD.out.belowQ hYb)
  have HYg := hideF hYg
  have HYr := hideF hYr
  clear c0 c1 c2 c11 c12 c13 c14 cf g0 g1 g2 gf hdX HXb HXg HXr HXO HD
  obtain ⟨c0, c1, c2, c11, c12, c13, c14, cf, hdY⟩ := HYD.out.cells
  clear hYb hYg hYr
  go_wp2_with fail
  obtain ⟨Z, hZ⟩ : ∃ Z, Z = (Y.setCell ⟨d, 12, none⟩ (.int .i64 ((D.arr : Int) + 1))).drew := ⟨_, rfl⟩
  have hdg : d ≠ w.heap.size := by omega
  have hdr : d ≠ w1.heap.size := by omega
  have HZD : Hid (DevIn Z d L S E (.slice aw D.wait.length cw) { D with arr := D.arr + 1 }) := by
    rw [hZ]
    have := (HYD.out.setArr (D.arr + 1)).drewN 1
    rw [show ((D.arr + 1 : Nat) : Int) = (D.arr : Int) + 1 by omega] at this
    exact this
  have hZr : Z.heap[w1.heap.size]? = Y.heap[w1.heap.size]? := by rw [hZ]; exact heap_setCell_other Y ⟨d, 12, none⟩ w1.heap.size _ (by simpa using fun e => hdr e.symm)
  have hZg : Z.heap[w.heap.size]? = Y.heap[w.heap.size]? := by rw [hZ]; exact heap_setCell_other Y ⟨d, 12, none⟩ w.heap.size _ (by simpa using fun e => hdg e.symm)
  have HZr := hideF (hZr.trans HYr.out)
  have HZg := hideF (hZg.trans HYg.out)
  have HZO : Hid (Z.ownsRow W.heap.size 3 1 (.slice av x.vals.length cv) x.vals.length (x.vals.flatMap encI)) := by
    rw [hZ]
    exact own_drew (own_same HYO.out (fun g hg => heap_setCell_other Y ⟨d, 12, none⟩ g _ (by have := (HYO.out.lt g hg).1; simp; omega)))
  have HZF : Hid (FtT D.base devT w Z) := by
    rw [hZ]
    exact ((FtT.of_below devT HYb.out).setCell HYD.out.dev rfl HYD.out.lo.1 _ _).drewN 1
  have HDO2 : Hid (Calls Tryz.prog 80 #[.agg #[.string s, .int .i64 (x.fn : Nat), .int .i64 (x.tab : Nat), .int .i64 (x.frm : Nat), .int .i64 (x.cnt : Nat), .int .i64 (x.into : Nat), .int .i64 (x.to : Nat), .int .i64 (x.many : Nat), .slice av x.vals.length cv, .int .u8 (k : Nat)], .pointer (some ⟨d, 3, none⟩)] ((Y.setCell ⟨d, 12, none⟩ (.int .i64 ((D.arr : Int) + 1))).drew) fun e w' => ∃ v, e = .returned v ∧ (v = .tuple #[.string r, .bool true] ∧ DevIn w' d L S E (.slice aw D.wait.length cw) { D with arr := D.arr + 1, ent := f } ∧ ∃ j, j < 4 ∧ Chg1 (E j) Z w')) := by
    rw [← hZ]
    exact (HDO.out x _ k _ Z HSH.out HZD.out HZO.out).mono fun e w' h => ⟨_, h.1, rfl, h.2.1, h.2.2⟩
  obtain ⟨r0, r1, r2, r3, r4, r5, r6, r7, r8, r9⟩ := cells10 HYr.out
  have hsY := HYb.out.size
  have HZs : Hid (Y.heap.size = Z.heap.size) := by rw [hZ]; show _ = _; simp
  clear hZ hZr hZg
  go_region_law (first
    | (refine step_call rfl 80 #[.tmp 45, .tmp 48] #[146, 151] rfl #[.agg #[.string s, .int .i64 (x.fn : Nat), .int .i64 (x.tab : Nat), .int .i64 (x.frm : Nat), .int .i64 (x.cnt : Nat), .int .i64 (x.into : Nat), .int .i64 (x.to : Nat), .int .i64 (x.many : Nat), .slice av x.vals.length cv, .int .u8 (k : Nat)], .pointer (some ⟨d, 3, none⟩)] (by simp [Act.eval]) (enter81 _ _ _) _ HDO2.out ?_; rintro vv w4 ⟨rfl, hd4, j4, hj4, hc4⟩))
  all_goals
    obtain ⟨ce, hce⟩ := (HZD.out.ent j4 hj4).block
    have hEj := (HH.out.ent j4 hj4).lt
    have HF4 := hideF (HZF.out.trans (FtT.chg hc4 hce rfl (HZD.out.lo.2.2.2 j4 hj4)))
    have hg4 := (hc4.block w.heap.size (lt_of_block HZg.out) (by omega)).trans HZg.out
    have HD4 := hideF hd4
    have hs4 : w.heap.size < w4.heap.size := lt_of_block hg4
    have HG4 := hideF hg4
    clear c0 c1 c2 c11 c12 c13 c14 cf r0 r1 r2 r3 r4 r5 r6 r7 r8 r9 hce hc4 hd4 HYb HYD HYg HYr HYO HZD HZr HZg HZO HZF HDO2 HZs
    obtain ⟨c0, c1, c2, c11, c12, c13, c14, cf, hd4⟩ := HD4.out.cells
    obtain ⟨g0, g1, g2, gf⟩ := cells3f hg4
    clear hg4
    go_wp2_with fail
    obtain ⟨w8, hw8⟩ : ∃ w8, w8 = w4.setCell ⟨d, 13, none⟩ (.int .i64 ((D.uns : Int) + 1)) := ⟨_, rfl⟩
    have HD8 : Hid (DevIn w8 d L S E (.slice aw D.wait.length cw) { D with arr := D.arr + 1, ent := f, uns := D.uns + 1 }) := by
      rw [hw8]
      have := HD4.out.setUns (D.uns + 1)
      rw [show ((D.uns + 1 : Nat) : Int) = (D.uns : Int) + 1 by omega] at this
      exact this
    have HF8 : Hid (FtT D.base devT w w8) := by rw [hw8]; exact HF4.out.setCell HD4.out.dev rfl HD4.out.lo.1 _ _
    have HG8 : Hid (w8.heap[w.heap.size]? = _) := (by rw [hw8]; exact heap_setCell_other w4 ⟨d, 13, none⟩ w.heap.size _ (by simpa using fun e => hdg e.symm) : w8.heap[w.heap.size]? = w4.heap[w.heap.size]?).trans HG4.out
    rw [← hw8]
    have hs8 : w.heap.size < w8.heap.size := lt_of_block HG8.out
    clear hw8 c0 c1 c2 c11 c12 c13 c14 cf g0 g1 g2 gf HD4 HF4 HG4 hd4
    obtain ⟨c0, c1, c2, c11, c12, c13, c14, cf, hd4⟩ := HD8.out.cells
    obtain ⟨g0, g1, g2, gf⟩ := cells3f HG8.out
    go_quiet (fail)
    obtain ⟨V, hV⟩ : ∃ V, V = w8.drewN nq := ⟨_, rfl⟩
    have hVb : Below w8.heap.size w8 V := by rw [hV]; exact below_drewN (Below.refl _ _) _
    rw [← hV]
    clear hV
    have HDV := hideF (HD8.out.belowQ hVb)
    have hgV := (hVb.block _ hs8).trans HG8.out
    have HFV := hideF (HF8.out.then_below hVb)
    have HGV := hideF hgV
    have hsV := lt_of_block hgV
    clear c0 c1 c2 c11 c12 c13 c14 cf g0 g1 g2 gf hVb HD8 HG8 HF8 hd4
    obtain ⟨c0, c1, c2, c11, c12, c13, c14, cf, hdV⟩ := HDV.out.cells
    obtain ⟨g0, g1, g2, gf⟩ := cells3f hgV
    clear hgV
    go_wp2_with fail
    obtain ⟨U, hU⟩ : ∃ U, U = V.setCell ⟨w.heap.size, 2, none⟩ (.string r) := ⟨_, rfl⟩
    have HDU : Hid (DevIn U d L S E (.slice aw D.wait.length cw) { D with arr := D.arr + 1, ent := f, uns := D.uns + 1 }) := by rw [hU]; exact HDV.out.keep ((FtT.refl (B := 0) (fun t => t == 94) V).setCell HGV.out rfl (Nat.zero_le _) _ _) rfl rfl rfl rfl rfl
    have HFU : Hid (FtT D.base devT w U) := by rw [hU]; exact HFV.out.setNew _ _ (Nat.le_refl _) _
    have hgU : U.heap[w.heap.size]? = some (.cells #[.int .i64 (m : Nat), .int .i64 (D.unit : Nat), .string r] 94 (0, 0)) := by rw [hU]; exact heap_setCell_same V _ 2 _ 94 (.string r) HGV.out
    rw [← hU]
    clear hU c0 c1 c2 c11 c12 c13 c14 cf g0 g1 g2 gf HDV HGV HFV hsV hdV
    obtain ⟨c0, c1, c2, c11, c12, c13, c14, cf, hdU⟩ := HDU.out.cells
    obtain ⟨g0, g1, g2, gf⟩ := cells3f hgU
    have hsU := lt_of_block hgU
    clear hgU
    have hiI : (i : Int) < (D.nl : Int) := by omega
    have HFR : Hid (Calls Tryz.prog 82 #[.pointer (some ⟨L, i * 3, none⟩), .agg #[.int .i64 (m : Nat), .int .i64 (D.unit : Nat), .string r]] U.drew fun e w' => ∃ v, e = .returned v ∧ (v = .string (streamB m D.unit r) ∧ Below U.drew.heap.size U.drew w')) := (framed_stream L i D.nl m D.unit r D.ln U.drew (HDU.out.drewN 1).lines hi hk hm hun hr).mono fun e w' h => ⟨_, h.1, rfl, h.2⟩
    go_region_law (first
      | (refine step_call rfl 82 #[.tmp 76, .tmp 77] #[116, 94] rfl #[.pointer (some ⟨L, i * 3, none⟩), .agg #[.int .i64 (m : Nat), .int .i64 (D.unit : Nat), .string r]] (by simp [Act.eval, Act.put]) (enter83 _ _ _) _ HFR.out ?_; rintro vv w5 ⟨rfl, hb5⟩; have hd5 := (HDU.out.drewN 1).belowQ hb5)
      | (refine step_call rfl 81 #[.tmp 69, .tmp 70, .tmp 78] #[49, 3, 9] rfl #[.pointer (some ⟨d, 0, none⟩), .int .i64 (i : Nat), .string (streamB m D.unit r)] (by simp [Act.eval]) (enter82 _ _ _ _) _ (dansw_step d L S i E _ _ (streamB m D.unit r) _ hd5 (by first | exact Nat.succ_pos _ | exact hu) hw1 HXX.out) ?_; rintro vv w6 ⟨rfl, v6, hd6, hf6⟩))
    all_goals
      have HF6 := hideF ((HFU.out.then_below (below_then_drew1 hb5)).trans (hf6.mono wt_dev))
      have HD6 := hideF hd6
      obtain ⟨a6, k6, rfl, _⟩ := own_view hd6.wait
      clear c0 c1 c2 c11 c12 c13 c14 cf g0 g1 g2 gf hb5 hd6 hf6 hd5 HFR
      obtain ⟨c0, c1, c2, c11, c12, c13, c14, cf, hd6⟩ := HD6.out.cells
      simp only [List.length_append, List.length_singleton] at c14
      have q1 : (D.batch : Int) ≤ ((D.wait.length + 1 : Nat) : Int) := by omega
      have q3 : (D.batch : Int) ≤ (D.wait.length : Int) + 1 := by omega
      have hs6 := HF6.out.size
      go_wp2_with fail
      go_quiet (fail)
      obtain ⟨Z7, hZ7⟩ : ∃ Z7, Z7 = w6.drewN nq := ⟨_, rfl⟩
      have HDZ : Hid (DevIn Z7 d L S E _ _) := (by rw [hZ7]; exact HD6.out.drewN nq)
      have HFZ : Hid (FtT D.base devT w Z7) := (by rw [hZ7]; exact HF6.out.drewN nq)
      rw [← hZ7]
      have hsZ := HFZ.out.size
      clear hZ7 c0 c1 c2 c11 c12 c13 c14 cf hd6 HD6 HF6 hs6
      go_wp2_with fail
      refine (HFL.out _ _ HDZ.out).mono ?_
      rintro e w7 ⟨v7, rfl, hown7, hD7, hF7⟩
      obtain ⟨a7, p7, rfl, hat7⟩ := own_view hown7
      obtain ⟨g7, rfl, hg7, hc7⟩ := hat7 0 hA0
      have hln : (A.flatMap encA).length = A.length * 4 := flat_len encA 4 (fun _ => rfl) A
      have HC7 : Hid (∀ j u, (A.flatMap encA)[j]? = some u → w7.cell? ((⟨g7, 0, none⟩ : Addr).add j) = some u) := fun j u hj => by
        have hjl : j < (A.flatMap encA).length := (List.getElem?_eq_some_iff.1 hj).1
        have e : (⟨g7, 0, none⟩ : Addr).add j = ⟨g7, j, none⟩ := by by_cases h0 : j = 0 <;> simp [Addr.add, h0]
        rw [e, hc7 j (by omega), hj]
      have HLN := hideF hln
      have HD7 := hideF hD7
      have HF7 := hideF (HFZ.out.trans hF7)
      have hs7 := HF7.out.size
      clear hown7 hD7 hF7 hat7 hc7 hln HDZ HFZ
      go_wp2_with (at_builtin; refine wpList_append_own _ rfl (.tmp 101) (.tmp 103) 31 rfl w.heap.size 77 i0 _ 4 40 Tryz.underlying31 hi0 hz0 hz1 hz2 rfl (by decide) (.slice none 0 0) 0 [] rfl (World.ownsRow_nil _ _ _ _) ⟨g7, 0, none⟩ A.length p7 (A.flatMap encA) rfl HLN.out HC7.out (encA_one _) (by unfold maxLen; omega) (by omega) (by omega) ?_; intro v' w8z hown8 hgrow8 _; obtain ⟨a8, p8, rfl, _⟩ := own_view hown8)
      go_ret
      refine ⟨_, rfl, ?_, HD7.out.keep ((FtT.refl (B := 0) (fun t => t == 77) w7).grown_new hgrow8 (fun k hk => by simp [Value.ownBlock] at hk)) rfl rfl rfl rfl rfl, HF7.out.grown_new hgrow8 (fun k hk => by simp [Value.ownBlock] at hk)⟩
      rw [Nat.zero_add, List.nil_append] at hown8
      exact hown8
end Go.Proofs.YtcpldcojckhapaaGreat
