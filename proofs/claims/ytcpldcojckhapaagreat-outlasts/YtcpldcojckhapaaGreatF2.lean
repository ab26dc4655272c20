/-
  Feed of one whole request over a Stream, whatever acts it comes to.
-/
import Derived.Test.YtcpldcojckhapaaGreatF1
set_option maxRecDepth 100000
namespace Go.Proofs.YtcpldcojckhapaaGreat
open Go.RowKit

theorem encA_len (A : List (Int × Int × Int × ByteArray)) : (A.flatMap encA).length = A.length * 4 := by
  induction A with
  | nil => rfl
  | cons x A ih => rw [List.flatMap_cons, List.length_append, ih]; simp [encA]; omega
set_option maxRecDepth 100000 in
set_option maxHeartbeats 2000000 in
theorem feed_many (d L S i m : Nat) (E : Nat → Nat) (wv : Value) (D D' : Dev) (b : ByteArray) (A : List (Int × Int × Int × ByteArray)) (w : World) (h : DevIn w d L S E wv D) (hi : i < D.nl) (hnl : D.nl ≤ 100) (hln : D.ln i = ⟨0, ⟨#[]⟩, false⟩) (hx : Pl.May (m, D.unit, b)) (ht : TakeIs d L S E wv D D' i m b A) (hA : A.length ≤ 1000) (s : ByteArray) (hs : s = streamB m D.unit b) :
    Calls Tryz.prog 20 #[.pointer (some ⟨d, 0, none⟩), .int .i64 (i : Nat), .string s] w fun e w' => ∃ v wv', e = .returned (.tuple #[v, .int .i64 0]) ∧ w'.ownsRow w.heap.size 77 4 v A.length (A.flatMap encA) ∧ DevIn w' d L S E wv' D' ∧ FtT D.base devT w w' := by
  obtain ⟨i0, hi0, hz0, hz1, hz2⟩ := info_parts Tryz.infoEA
  obtain ⟨c0, c1, c2, c11, c12, c13, c14, cf, hdl⟩ := h.cells
  have hH := hear_one d L S i m E wv D b w h hi hln hx
  rw [← hs] at hH
  have HHR := hideF hH
  have HH := hideF h
  have HT := hideF ht
  have hiI : (i : Int) < (D.nl : Int) := by omega
  have hap := append_nils
  clear h hln hx ht hH hs
  go_enter Tryz.func20, Tryz.ntmps20
  go_wp2_with fail
  refine (within_yes _ _ _ _ (by omega) (by omega)).mono ?_
  rintro e w0 ⟨rfl, hw0⟩
  rw [hw0]
  clear hw0
  go_wp2_with fail
  refine HHR.out.mono ?_
  rintro e w1 ⟨g1, p1, rfl, f0, f1, f2, hD1, hF1⟩
  have HD1 := hideF hD1
  have HF1 := hideF hF1
  have hs1 := hF1.size
  clear hD1 hF1 HHR c0 c1 c2 c11 c12 c13 c14 cf
  go_wp2_with fail
  go_loopw [29, 8] (fun q v wr => (q = .int .i64 0 ∧ v = .slice none 0 0 ∧ wr = w1) ∨ (q = .int .i64 1 ∧ ∃ wv', wr.ownsRow w.heap.size 77 4 v A.length (A.flatMap encA) ∧ DevIn wr d L S E wv' D' ∧ FtT D.base devT w wr)) (fun q _ _ => 1 - (intOf q).toNat)
  case atStart => exact .inl ⟨rfl, rfl, rfl⟩
  case round =>
    rcases hrel with ⟨rfl, rfl, rfl⟩ | ⟨rfl, wv', hown, hD, hF⟩
    · obtain ⟨X, hX⟩ : ∃ X, X = wr.alloc (.cells #[.int .i64 (m : Nat), .int .i64 (D.unit : Nat), .string b] 94) := ⟨_, rfl⟩
      have hXb : Below wr.heap.size wr X := by rw [hX]; exact bel_alloc (Below.refl _ _) _
      have HTX := hideF (HT.out X (HD1.out.belowQ hXb))
      have HXF := hideF (HF1.out.then_below hXb)
      have hsX := HXF.out.size
      clear hXb
      go_wp2_with fail
      rw [← hX]
      clear hX
      refine HTX.out.mono ?_
      rintro e w2 ⟨v2, wv2, rfl, hown2, hnil, hD2, hF2⟩
      have HD2 := hideF hD2
      have HF2 := hideF (HXF.out.trans hF2)
      have HO2 := hideF (own_base (B := w.heap.size) hown2 hsX)
      have hs2 := HF2.out.size
      rcases Nat.eq_zero_or_pos A.length with hAz | hAp
      · have hA0 : A = [] := List.eq_nil_of_length_eq_zero hAz
        obtain rfl := hnil hA0
        have HA0 := hideF hA0
        clear hown2 hnil hD2 hF2 HTX hA0
        go_wp2_with fail
        go_roundw
        case rel => exact .inr ⟨rfl, wv2, by rw [HA0.out]; exact World.ownsRow_nil _ _ _ _, HD2.out, HF2.out⟩
        case measure => simp [intOf]
      · clear hnil
        obtain ⟨a3, p3, rfl, hat3⟩ := own_view HO2.out
        obtain ⟨g3, rfl, hg3, hc3⟩ := hat3 0 (by omega)
        have HEL := hideF (encA_len A)
        have HC3 : Hid (∀ j u, (A.flatMap encA)[j]? = some u → w2.cell? ((⟨g3, 0, none⟩ : Addr).add j) = some u) := fun j u hj => by
          have hjl : j < (A.flatMap encA).length := (List.getElem?_eq_some_iff.1 hj).1
          have e : (⟨g3, 0, none⟩ : Addr).add j = ⟨g3, j, none⟩ := by by_cases h0 : j = 0 <;> simp [Addr.add, h0]
          rw [e, hc3 j (by have := HEL.out; omega), hj]
        clear hown2 hD2 hF2 HTX hat3 hc3
        go_wp2_with (at_builtin; refine wpList_append_own _ rfl (.tmp 33) (.tmp 37) 31 rfl w.heap.size 77 i0 _ 4 40 Tryz.underlying31 hi0 hz0 hz1 hz2 rfl (by decide) (.slice none 0 0) 0 [] rfl (World.ownsRow_nil _ _ _ _) ⟨g3, 0, none⟩ A.length p3 (A.flatMap encA) rfl HEL.out HC3.out (encA_one _) (by unfold maxLen; omega) (by omega) (by omega) ?_; intro v' w4 hown4 hgrow4 _; obtain ⟨a4, p4, rfl, _⟩ := own_view hown4)
        have HO4 := hideF hown4
        have HF4 := hideF (HF2.out.grown_new hgrow4 (fun k hk => by simp [Value.ownBlock] at hk))
        have HD4 := hideF (HD2.out.keep ((FtT.refl (B := 0) (fun t => t == 77) w2).grown_new hgrow4 (fun k hk => by simp [Value.ownBlock] at hk)) rfl rfl rfl rfl rfl)
        clear hown4 hgrow4
        go_roundw
        case rel => exact .inr ⟨rfl, wv2, by have h := HO4.out; simp only [Nat.zero_add, List.nil_append] at h; exact h, HD4.out, HF4.out⟩
        case measure => simp [intOf]
    · have HO := hideF hown
      have HD := hideF hD
      have HF := hideF hF
      clear hown hD hF
      go_wp2
      go_ret2
      exact ⟨_, wv', rfl, HO.out, HD.out, HF.out⟩
end Go.Proofs.YtcpldcojckhapaaGreat
