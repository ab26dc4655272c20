/-
  Package store: makeReady and Open over a disk of two sectors, whatever lies there.
-/
import Derived.Test.YtcpldcojckhapaaGreatD5
set_option maxRecDepth 100000
namespace Go.Proofs.YtcpldcojckhapaaGreat
open Go.RowKit

/-- Acts none of which sends. -/
def NoSend (l : List (Int × Int × Int × ByteArray)) : Prop := ∀ x ∈ l, x.1 ≠ 2
theorem noSend_sends {l : List (Int × Int × Int × ByteArray)} (h : NoSend l) : sendsL l = [] := by
  unfold sendsL
  rw [List.filter_eq_nil_iff.2 (fun x hx => by simpa using h x hx)]; rfl
theorem noSend_snoc {l : List (Int × Int × Int × ByteArray)} (h : NoSend l) (x : Int × Int × Int × ByteArray) (hx : x.1 ≠ 2) : NoSend (l ++ [x]) := by
  intro y hy
  rcases List.mem_append.1 hy with h1 | h1
  · exact h y h1
  · rw [List.mem_singleton.1 h1]; exact hx
set_option maxRecDepth 100000 in
set_option maxHeartbeats 4000000 in
theorem makeReady_any (b g k lat st : Nat) (A B : ByteArray) (w : World) (hk : 2 ≤ k) (hS : w.heap[b]? = some (.cells #[.int .i64 1, .int .i64 (lat : Nat), .int .u8 (st : Nat)] 155 (0, 0))) (hlat : lat ≤ 1) (hst : st ≤ 3) (hg : g < w.heap.size)
    (h0 : w.cell? ⟨g, 0, none⟩ = some (.string A)) (h1 : w.cell? ⟨g, 1, none⟩ = some (.string B)) (hA : A.size = 64) (hB : B.size = 64) :
    Calls Tryz.prog 96 #[.pointer (some ⟨b, 0, none⟩), .slice (some ⟨g, 0, none⟩) 2 k] w fun e w' => ∃ v l, e = .returned v ∧ w'.ownsRow w.heap.size 77 4 v l.length (l.flatMap encA) ∧ NoSend l ∧ l.length ≤ 3 ∧ Below w.heap.size w w' := by
  obtain ⟨i0, hi, hz0, hz1, hz2⟩ := info_parts Tryz.infoEA
  have hbl := lt_of_block hS
  have HC : Hid (∀ o, o ≤ 1 → ∃ s : ByteArray, s.size = 64 ∧ w.cell? ⟨g, o, none⟩ = some (.string s)) := fun o ho => by
    rcases (show o = 0 ∨ o = 1 by omega) with rfl | rfl
    · exact ⟨A, hA, h0⟩
    · exact ⟨B, hB, h1⟩
  have HS := hideF hS
  obtain ⟨b0, b1, b2, bf⟩ := cells3f hS
  clear hA hB h0 h1 hS
  go_enter Tryz.func96, Tryz.ntmps96
  go_wp2_with fail
  go_quiet (fail)
  go_wp2_with fail
  go_loopw [18, 6, 7, 5] (fun i wh stv ac wr => ∃ (q o s' : Nat) (l : List (Int × Int × Int × ByteArray)), q ≤ 2 ∧ i = .int .i64 (q : Nat) ∧ o ≤ 1 ∧ wh = .int .i64 (o : Nat) ∧ s' ≤ 3 ∧ stv = .int .u8 (s' : Nat) ∧ wr.ownsRow w.heap.size 77 4 ac l.length (l.flatMap encA) ∧ NoSend l ∧ l.length ≤ q ∧ Below w.heap.size w wr) (fun i _ _ _ _ => 2 - (intOf i).toNat)
  case atStart => exact ⟨0, lat, st, [], by omega, rfl, hlat, rfl, hst, rfl, World.ownsRow_nil _ _ _ _, by intro x hx; simp at hx, by simp, below_drewN (Below.refl _ _) _⟩
  case round =>
    clear b0 b1 b2 bf
    obtain ⟨q, o, s', l, hq, rfl, ho, rfl, hs', rfl, hown, hns, hll, hb⟩ := hrel
    have hsz := hb.size
    have HO := hideF hown
    have HN := hideF hns
    have HB := hideF hb
    obtain ⟨av, cv, rfl, _⟩ := own_view hown
    have hst2 := (hb.block b hbl).trans HS.out
    obtain ⟨x0, x1, x2, xf⟩ := cells3f hst2
    have HS2 := hideF hst2
    clear hown hns hb hst2
    by_cases hq2 : q < 2
    · have hq2' : (q : Int) < 2 := by omega
      obtain ⟨o', ho'⟩ : ∃ o', o' = (o + 1) % 2 := ⟨_, rfl⟩
      obtain ⟨t', ht'⟩ : ∃ t', t' = s' % 3 + 1 := ⟨_, rfl⟩
      have ho1 : o' ≤ 1 := by omega
      have ht3 : t' ≤ 3 := by omega
      have HOO := hideF ho'
      have HTT := hideF ht'
      clear ho' ht'
      go_wp2_with fail
      refine (other_at o o' HOO.out _ (by omega)).mono ?_
      rintro e w1 ⟨rfl, rfl⟩
      go_wp2_with fail
      refine (next_at s' t' HTT.out _ (by omega)).mono ?_
      rintro e w2 ⟨rfl, rfl⟩
      clear HOO HTT
      go_wp2_with fail
      refine (copyOn_any b g k o' _ hk ho1 x0).mono ?_
      rintro e w3 ⟨rfl, n3, hw3⟩
      obtain ⟨s, hs, hcs⟩ := HC.out o' ho1
      have c3 : w3.cell? ⟨g, o', none⟩ = some (.string s) := by rw [hw3]; have := (bcell HB.out).1 g o' hg; simpa using this.trans hcs
      have HO3 : Hid (w3.ownsRow w.heap.size 77 4 (.slice av l.length cv) l.length (l.flatMap encA)) := by rw [hw3]; exact own_same HO.out (fun g _ => by simp)
      have HB3 : Hid (Below w.heap.size w w3) := by rw [hw3]; exact below_drewN HB.out _
      have hs3 := HB3.out.size
      have HS3 : Hid (w3.heap[b]? = some (.cells #[.int .i64 1, .int .i64 (lat : Nat), .int .u8 (st : Nat)] 155 (0, 0))) := by show _ = _; rw [hw3]; simpa using HS2.out
      have HSS := hideF hs
      clear hw3 x0 x1 x2 xf hs hcs HO HB
      go_wp2_with fail
      go_loopw [29, 5] (fun i ac wr => (i = .int .i64 0 ∧ ac = .slice av l.length cv ∧ wr = w3) ∨ (i = .int .i64 1 ∧ ∃ l' : List (Int × Int × Int × ByteArray), wr.ownsRow w.heap.size 77 4 ac l'.length (l'.flatMap encA) ∧ NoSend l' ∧ l'.length ≤ q + 1 ∧ Below w.heap.size w wr)) (fun i _ _ => 1 - (intOf i).toNat)
      case atStart => exact .inl ⟨rfl, rfl, rfl⟩
      case round =>
        rcases hrel with ⟨rfl, rfl, rfl⟩ | ⟨rfl, l', hown', hns', hll', hb'⟩
        · go_wp2_with fail
          refine (endOf_at s _ HSS.out).mono ?_
          rintro e w4 ⟨rfl, rfl⟩
          by_cases hte : Pl.byt s 63 = t'
          · have hte' : ((Pl.byt s 63 : Int) == (t' : Int)) = true := by simp; omega
            clear hte
            go_wp2_with fail
            refine (secWrite_any b 1 o' 0 0 _ _ ⟨#[]⟩ _ HS3.out (by omega) (by omega) (by omega) (by omega)).mono ?_
            rintro e w5 ⟨rfl, hb5⟩
            have HO5 := hideF (ownsRow_below HO3.out hb5)
            have HB5 := hideF (bel_then HB3.out hb5)
            have hs5 := HB5.out.size
            clear hb5 c3
            go_wp2_with (at_builtin; refine wpList_append_own _ rfl (.tmp 38) (.tmp 43) 31 rfl w.heap.size 77 i0 _ 4 40 Tryz.underlying31 hi hz0 hz1 hz2 rfl (by decide) (.slice av l.length cv) l.length _ rfl (HO5.out.alloc _) ⟨w5.heap.size, 0, none⟩ 1 1 (encA (0, (o' : Int), 0, secB 0 ⟨#[]⟩)) rfl rfl (cell_four_new _ _ _ _ _ _) (by have := encA_one [(0, (o' : Int), 0, secB 0 ⟨#[]⟩)]; simpa using this) (by unfold maxLen; omega) (by omega) (by simp; omega) ?_; intro v' w6 hown6 hgrow6 _; obtain ⟨a6, k6, rfl, _⟩ := own_view hown6)
            go_roundw
            case rel =>
              refine .inr ⟨by go_num, l ++ [(0, (o' : Int), 0, secB 0 ⟨#[]⟩)], ?_, noSend_snoc HN.out _ (by simp), by simp; omega, ?_⟩
              · rw [List.flatMap_append, List.length_append]
                simpa using hown6
              · exact (bel_alloc HB5.out _).trans ⟨hgrow6.os, hgrow6.tape, hgrow6.output, hgrow6.size, fun k hk => hgrow6.block k (by simp; omega) (fun e => by have := (HO5.out.lt k e.symm).1; omega)⟩
            case measure => simp [intOf]
          · have hte' : ((Pl.byt s 63 : Int) == (t' : Int)) = false := by simp; omega
            clear hte
            go_wp2_with fail
            go_roundw
            case rel => exact .inr ⟨by go_num, l, HO3.out, HN.out, by omega, HB3.out⟩
            case measure => simp [intOf]
        · have HO' := hideF hown'
          have HN' := hideF hns'
          have HB' := hideF hb'
          clear hown' hns' hb' c3
          go_wp2_with fail
          go_roundw
          case rel => exact ⟨q + 1, o', t', l', by omega, by go_num, ho1, rfl, ht3, rfl, HO'.out, HN'.out, hll', HB'.out⟩
          case measure => simp [intOf]; omega
    · have hq2' : decide ((q : Int) < 2) = false := by simp; omega
      rcases Nat.eq_zero_or_pos l.length with hl0 | hl0
      · have hl0' : ((l.length : Int) == 0) = true := by simp [hl0]
        have HL0 := hideF hl0
        clear hl0
        go_wp2
        go_ret
        refine ⟨_, [], rfl, World.ownsRow_nil _ _ _ _, by intro x hx; simp at hx, by simp, HB.out⟩
      · have hl0' : ((l.length : Int) == 0) = false := by simp; intro e; simp [e] at hl0
        go_wp2_with (at_builtin; refine wpList_append_own _ rfl (.tmp 50) (.tmp 52) 31 rfl w.heap.size 77 i0 _ 4 40 Tryz.underlying31 hi hz0 hz1 hz2 rfl (by decide) (.slice av l.length cv) l.length _ rfl (HO.out.alloc _) ⟨wr.heap.size, 0, none⟩ 1 1 (encA (1, 0, 0, ⟨#[]⟩)) rfl rfl (cell_four_new _ _ _ _ _ _) (by have := encA_one [(1, 0, 0, ⟨#[]⟩)]; simpa using this) (by unfold maxLen; omega) (by omega) (by simp; omega) ?_; intro v' w6 hown6 hgrow6 _; obtain ⟨a6, k6, rfl, _⟩ := own_view hown6)
        go_ret
        refine ⟨_, l ++ [(1, 0, 0, ⟨#[]⟩)], rfl, ?_, noSend_snoc HN.out _ (by simp), by simp; omega, ?_⟩
        · rw [List.flatMap_append, List.length_append]
          simpa using hown6
        · exact (bel_alloc HB.out _).trans ⟨hgrow6.os, hgrow6.tape, hgrow6.output, hgrow6.size, fun k hk => hgrow6.block k (by simp; omega) (fun e => by have := (HO.out.lt k e.symm).1; omega)⟩

/-- What is read of a disk of two sectors. -/
def dataL (z : Nat) (A B : ByteArray) : ByteArray :=
  if stL (stampL A) (stampL B) = 0 then zerosB z else ((if latL (stampL A) (stampL B) = 0 then A else B).extract 1 63).extract 0 z
theorem dataL_size (z : Nat) (A B : ByteArray) (hz : z ≤ 62) (hA : A.size = 64) (hB : B.size = 64) : (dataL z A B).size = z := by
  unfold dataL
  split
  · exact zerosB_size z
  · rw [ByteArray.size_extract, ByteArray.size_extract]
    split <;> omega

set_option maxRecDepth 100000 in
set_option maxHeartbeats 2000000 in
theorem storeOpen_any (z g k lat st : Nat) (A B : ByteArray) (w : World) (hz : z ≤ 62) (hk : 2 ≤ k) (hg : g < w.heap.size) (h0 : w.cell? ⟨g, 0, none⟩ = some (.string A)) (h1 : w.cell? ⟨g, 1, none⟩ = some (.string B))
    (hA : A.size = 64) (hB : B.size = 64) (hl : lat = latL (stampL A) (stampL B)) (hst : st = stL (stampL A) (stampL B)) :
    Calls Tryz.prog 62 #[.int .i64 (z : Nat), .slice (some ⟨g, 0, none⟩) 2 k] w fun e w' => ∃ v l, e = .returned (.tuple #[.pointer (some ⟨w.heap.size, 0, none⟩), .string (dataL z A B), v]) ∧
      w'.heap[w.heap.size]? = some (.cells #[.int .i64 1, .int .i64 (lat : Nat), .int .u8 (st : Nat)] 155 (0, 0)) ∧ w'.ownsRow w.heap.size 77 4 v l.length (l.flatMap encA) ∧ NoSend l ∧ l.length ≤ 3 ∧ Below w.heap.size w w' := by
  have hlb : lat ≤ 1 := by rw [hl]; exact latL_le _ _
  have hsb : st ≤ 3 := by rw [hst]; exact stL_le (stampL_le _) (stampL_le _)
  have HA := hideF hA
  have HB := hideF hB
  have HL := hideF hl
  have HT := hideF hst
  clear hA hB hl hst
  go_enter Tryz.func62, Tryz.ntmps62
  go_wp2_with fail
  refine (sectorsOf_at z 1 (by omega) _ (by omega)).mono ?_
  rintro e w1 ⟨rfl, rfl⟩
  obtain ⟨W, hW⟩ : ∃ W, W = w1.alloc (.cells #[.int .i64 1, .int .i64 0, .int .u8 0] 155) := ⟨_, rfl⟩
  have hWs : W.heap.size = w1.heap.size + 1 := by rw [hW]; simp
  have hWb : Below w1.heap.size w1 W := by rw [hW]; exact bel_alloc (Below.refl _ _) _
  have hWg : W.heap[w1.heap.size]? = some (.cells #[.int .i64 1, .int .i64 0, .int .u8 0] 155 (0, 0)) := by rw [hW]; exact heap_alloc_new w1 _
  have d0 : W.cell? ⟨g, 0, none⟩ = some (.string A) := by rw [(bcell hWb).1 g _ hg]; exact h0
  have d1 : W.cell? ⟨g, 1, none⟩ = some (.string B) := by rw [(bcell hWb).1 g _ hg]; exact h1
  clear h0 h1
  go_wp2_with fail
  rw [← hW]
  clear hW
  refine (findLatest_any w1.heap.size g k (stampL A) (stampL B) lat st A B W hk hWg d0 d1 HA.out HB.out rfl rfl HL.out HT.out).mono ?_
  rintro e w2 ⟨rfl, hg2, hc2⟩
  have hs2 := hc2.size
  have hb2 : Below w1.heap.size w1 w2 := hWb.trans ⟨hc2.os, hc2.tape, hc2.output, hc2.size, fun k hk => hc2.block k (by omega) (by omega)⟩
  have e0 : w2.cell? ⟨g, 0, none⟩ = some (.string A) := by rw [hc2.cell (by omega) (by omega)]; exact d0
  have e1 : w2.cell? ⟨g, 1, none⟩ = some (.string B) := by rw [hc2.cell (by omega) (by omega)]; exact d1
  clear d0 d1 hWb hWg hc2
  go_wp2_with fail
  refine (repeat_any ⟨#[0]⟩ z w2 (by omega) (by show 1 * z ≤ _; omega)).mono ?_
  rintro e w3 ⟨rfl, hb3⟩
  have hs3 := hb3.size
  have hg3 := (hb3.block w1.heap.size (by omega)).trans hg2
  have f0 : w3.cell? ⟨g, 0, none⟩ = some (.string A) := by rw [(bcell hb3).1 g _ (by omega)]; exact e0
  have f1 : w3.cell? ⟨g, 1, none⟩ = some (.string B) := by rw [(bcell hb3).1 g _ (by omega)]; exact e1
  have hB3 := bel_then hb2 hb3
  have HB3 := hideF hB3
  have HG3 := hideF hg3
  have F0 := hideF f0
  have F1 := hideF f1
  obtain ⟨c0, c1, c2, cf⟩ := cells3f hg3
  clear e0 e1 hb3 hb2 hg2 hB3 hg3 f0 f1
  rcases Nat.eq_zero_or_pos st with hst0 | hst0
  · have HDL : Hid (dataL z A B = zerosB z) := by show _ = _; unfold dataL; rw [if_pos (by rw [← HT.out]; exact hst0)]
    have hst0' : ((st : Int) != 0) = false := by simp; omega
    clear hst0
    go_wp2_with fail
    refine (makeReady_any w1.heap.size g k lat st A B w3 hk HG3.out hlb hsb (by omega) F0.out F1.out HA.out HB.out).mono ?_
    rintro e w4 ⟨v4, l4, rfl, ho4, hn4, hl4, hb4⟩
    have HO4 := hideF (own_base (B := w1.heap.size) ho4 (by omega))
    have HN4 := hideF hn4
    have HB4 := hideF (bel_then HB3.out hb4)
    have HG4 := hideF ((hb4.block w1.heap.size (by omega)).trans HG3.out)
    clear ho4 hn4 hb4
    go_wp2
    refine bodyPost_ret (v := .tuple #[.pointer (some ⟨w1.heap.size, 0, none⟩), .string (zerosB z), v4]) (by simp [results, Tryz.results62, go_sem, zerosB]) rfl ⟨v4, l4, by rw [HDL.out], HG4.out, HO4.out, HN4.out, hl4, HB4.out⟩
  · have hst0' : ((st : Int) != 0) = true := by simp; omega
    obtain ⟨s, hs⟩ : ∃ s : ByteArray, s = if lat = 0 then A else B := ⟨_, rfl⟩
    obtain ⟨t, ht⟩ : ∃ t : ByteArray, t = s.extract 1 63 := ⟨_, rfl⟩
    have hs64 : s.size = 64 := by rw [hs]; split <;> first | exact HA.out | exact HB.out
    have hts : t.size = 62 := by rw [ht, ByteArray.size_extract]; omega
    have HDL : Hid (dataL z A B = t.extract 0 z) := by show _ = _; unfold dataL; rw [if_neg (by rw [← HT.out]; omega), ← HL.out, ht, hs]
    have HTT := hideF ht
    have HS64 := hideF hs64
    have cs : w3.cell? ⟨g, lat, none⟩ = some (.string s) := by
      rw [hs]
      rcases (show lat = 0 ∨ lat = 1 by omega) with h | h
      · rw [h]; exact F0.out
      · rw [h]; exact F1.out
    clear hst0 hs ht hs64
    go_wp2_with fail
    refine (copyOn_any w1.heap.size g k lat _ hk hlb c0).mono ?_
    rintro e w4 ⟨rfl, n4, hw4⟩
    have hb4 : Below w3.heap.size w3 w4 := by rw [hw4]; exact below_drewN (Below.refl _ _) _
    have CS : Hid (w4.cell? ⟨g, lat, none⟩ = some (.string s)) := by show _ = _; rw [(bcell hb4).1 g _ (by omega)]; exact cs
    have hs4 := hb4.size
    have HB4 := hideF hb4
    clear hw4 hb4 cs c0 c1 c2 cf
    go_wp2_with fail
    refine (contents_any g lat _ s t w4 CS.out (by omega) HS64.out HTT.out).mono ?_
    rintro e w5 ⟨rfl, hb5⟩
    have HB5 := hideF (bel_then HB4.out hb5)
    have hs5 := HB5.out.size
    clear hb5
    go_wp2_with fail
    refine (makeReady_any w1.heap.size g k lat st A B w5 hk ((HB5.out.block _ (by omega)).trans HG3.out) hlb hsb (by omega) (by rw [(bcell HB5.out).1 g _ (by omega)]; exact F0.out) (by rw [(bcell HB5.out).1 g _ (by omega)]; exact F1.out) HA.out HB.out).mono ?_
    rintro e w6 ⟨v6, l6, rfl, ho6, hn6, hl6, hb6⟩
    have HO6 := hideF (own_base (B := w1.heap.size) ho6 (by omega))
    have HN6 := hideF hn6
    have HB6 := hideF (bel_then (bel_then HB3.out HB5.out) hb6)
    have HG6 := hideF ((hb6.block w1.heap.size (by omega)).trans ((HB5.out.block _ (by omega)).trans HG3.out))
    clear ho6 hn6 hb6
    go_wp2
    refine bodyPost_ret (v := .tuple #[.pointer (some ⟨w1.heap.size, 0, none⟩), .string (t.extract 0 z), v6]) (by simp [results, Tryz.results62, go_sem]) rfl ⟨v6, l6, by rw [HDL.out], HG6.out, HO6.out, HN6.out, hl6, HB6.out⟩
end Go.Proofs.YtcpldcojckhapaaGreat
