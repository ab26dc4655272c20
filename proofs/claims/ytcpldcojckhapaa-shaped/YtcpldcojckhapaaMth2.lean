/-
  The five requests that are laid down by hand: what each of them says; with a byte more or fewer they say nothing.
-/
import Derived.Test.YtcpldcojckhapaaMth
namespace Go.Proofs.Ytcpldcojckhapaa
namespace Pl

theorem bad_both (L : ByteArray) (n k : Nat) (hn : L.size = n) (hk : k + 1 < n) (h252 : n ≤ 252) (R : ∀ L' : ByteArray, 0 < L'.size → L'.size ≤ 253 → L'.size ≠ n → (∀ j, j ≤ k → byt L' j = byt L j) → ShpIs L' noShp 3) :
    ShpIs (L ++ ⟨#[0]⟩) noShp 3 ∧ ShpIs (L.extract 0 (n - 1)) noShp 3 := by
  have e1 : (L ++ ⟨#[0]⟩ : ByteArray).size = n + 1 := by rw [ByteArray.size_append, hn]; rfl
  have e2 : (L.extract 0 (n - 1)).size = n - 1 := by simp [hn]
  refine ⟨R _ (by omega) (by omega) (by omega) (fun j hj => byt_left _ _ _ (by omega)), R _ (by omega) (by omega) (by omega) (fun j hj => ?_)⟩
  rw [byt_extract L 0 (n - 1) j (by omega) (by omega), Nat.zero_add]

/-- A function and two words. -/
def hdB (b : UInt8) (x y : Nat) : ByteArray := (⟨#[b]⟩ : ByteArray) ++ twoB x ++ twoB y
theorem hd_size (b : UInt8) (x y : Nat) : (hdB b x y).size = 5 := rfl
theorem hd_byt (b : UInt8) (x y : Nat) : byt (hdB b x y) 0 = b.toNat := by
  unfold hdB
  rw [byt_left _ _ 0 (by show 0 < 3; omega), byt_left _ _ 0 (by show 0 < 1; omega), byt_lit]
theorem hd_wd1 (b : UInt8) (x y : Nat) (hx : x < 65536) : wd (hdB b x y) 1 = x := by
  unfold hdB
  rw [wd_left _ _ 1 (by show 2 < 3; omega), wd_right _ _ 0 1 rfl, wd_two x hx]
theorem hd_wd3 (b : UInt8) (x y : Nat) (hy : y < 65536) : wd (hdB b x y) 3 = y := by
  unfold hdB
  rw [wd_right _ _ 0 3 rfl, wd_two y hy]

theorem laid3 (x c : Nat) (hx : x < 65536) (hc1 : 1 ≤ c) (hc : c ≤ 125) : ShpIs (hdB 3 x c) ⟨3, 2, x, c, 0, 0, 0, []⟩ 0 ∧ ShpIs (hdB 3 x c ++ ⟨#[0]⟩) noShp 3 ∧ ShpIs ((hdB 3 x c).extract 0 ((hdB 3 x c).size - 1)) noShp 3 := by
  have h1 := hd_wd1 3 x c hx
  have h3 := hd_wd3 3 x c (by omega)
  refine ⟨shpIs3 (by rw [hd_size]; omega) (by rw [hd_size]; omega) (hd_byt 3 x c) (.inl ⟨⟨rfl, by omega, by omega⟩, by rw [h1, h3], rfl⟩), ?_⟩
  rw [hd_size]
  exact bad_both _ 5 0 (hd_size _ _ _) (by omega) (by omega) fun L' p1 p2 p3 p4 => shpIs3 p1 p2 (by rw [p4 0 (by omega)]; exact hd_byt 3 x c) (.inr ⟨fun h => p3 h.1, rfl, rfl⟩)

theorem laid22 (x y c : Nat) (hx : x < 65536) (hy : y < 65536) (hc : c < 65536) : ShpIs (hdB 22 x y ++ twoB c) ⟨22, 2, x, 1, 2, x, 1, [((y : Nat) : Int), ((c : Nat) : Int)]⟩ 0 ∧ ShpIs (hdB 22 x y ++ twoB c ++ ⟨#[0]⟩) noShp 3 ∧ ShpIs ((hdB 22 x y ++ twoB c).extract 0 ((hdB 22 x y ++ twoB c).size - 1)) noShp 3 := by
  have hs : (hdB 22 x y ++ twoB c).size = 7 := rfl
  have h0 : byt (hdB 22 x y ++ twoB c) 0 = 22 := by rw [byt_left _ _ 0 (by rw [hd_size]; omega)]; exact hd_byt 22 x y
  have h1 : wd (hdB 22 x y ++ twoB c) 1 = x := by rw [wd_left _ _ 1 (by rw [hd_size]; omega)]; exact hd_wd1 22 x y hx
  have h3 : wd (hdB 22 x y ++ twoB c) 3 = y := by rw [wd_left _ _ 3 (by rw [hd_size]; omega)]; exact hd_wd3 22 x y hy
  have h5 : wd (hdB 22 x y ++ twoB c) 5 = c := by rw [wd_right _ _ 0 5 (hd_size _ _ _)]; exact wd_two c hc
  refine ⟨shpIs22 (by rw [hs]; omega) (by rw [hs]; omega) h0 (.inl ⟨hs, ?_, rfl⟩), ?_⟩
  · rw [h1]
    simp [wordsL, List.range_succ, h3, h5]
  · rw [hs]
    exact bad_both _ 7 0 hs (by omega) (by omega) fun L' p1 p2 p3 p4 => shpIs22 p1 p2 (by rw [p4 0 (by omega)]; exact h0) (.inr ⟨p3, rfl, rfl⟩)

theorem laid15 (x m pl : Nat) (bs : Nat → Nat) (hx : x < 65536) (hm1 : 1 ≤ m) (hm : m ≤ 100) (hpl : pl = (m + 7) / 8) (hb : ∀ i, bs i < 2) :
    ShpIs (hdB 15 x m ++ oneB pl ++ packB bs m pl) ⟨15, 0, 0, 0, 0, x, m, (List.range m).map fun i => ((bs i : Nat) : Int)⟩ 0 ∧ ShpIs (hdB 15 x m ++ oneB pl ++ packB bs m pl ++ ⟨#[0]⟩) noShp 3 ∧ ShpIs ((hdB 15 x m ++ oneB pl ++ packB bs m pl).extract 0 ((hdB 15 x m ++ oneB pl ++ packB bs m pl).size - 1)) noShp 3 := by
  obtain ⟨L, hL⟩ : ∃ L, L = hdB 15 x m ++ oneB pl ++ packB bs m pl := ⟨_, rfl⟩
  have z6 : (hdB 15 x m ++ oneB pl).size = 6 := rfl
  have hs : L.size = 6 + pl := by rw [hL, ByteArray.size_append, z6, packB_size]
  have h0 : byt L 0 = 15 := by rw [hL, byt_left _ _ 0 (by omega), byt_left _ _ 0 (by rw [hd_size]; omega)]; exact hd_byt 15 x m
  have h1 : wd L 1 = x := by rw [hL, wd_left _ _ 1 (by omega), wd_left _ _ 1 (by rw [hd_size]; omega)]; exact hd_wd1 15 x m hx
  have h3 : wd L 3 = m := by rw [hL, wd_left _ _ 3 (by omega), wd_left _ _ 3 (by rw [hd_size]; omega)]; exact hd_wd3 15 x m (by omega)
  have h5 : byt L 5 = pl := by rw [hL, byt_left _ _ 5 (by omega), byt_right _ _ 0 5 (hd_size _ _ _)]; exact byt_one pl (by omega)
  have h6 : ∀ j, j < pl → byt L (6 + j) = pkd bs m j := fun j hj => by rw [hL, byt_right _ _ j 6 z6, packB_byt bs hb m pl j hj]
  rw [← hL]
  clear hL
  refine ⟨shpIs15 (by omega) (by omega) h0 (.inl ⟨⟨by omega, by omega, by omega, by rw [h5, h3]; exact hpl, by rw [h5]; exact hs⟩, ?_, rfl⟩), ?_⟩
  · rw [h1, h3]
    congr 1
    unfold bitsL
    apply List.map_congr_left
    intro i hi
    have hi' : i < m := List.mem_range.1 hi
    unfold bit
    rw [h6 (i / 8) (by omega), pkd_bit bs hb m i hi']
  · rw [hs]
    exact bad_both _ (6 + pl) 5 hs (by omega) (by omega) fun L' p1 p2 p3 p4 => shpIs15 p1 p2 (by rw [p4 0 (by omega)]; exact h0) (.inr ⟨fun h => p3 (by have := h.2.2.2.2; rw [p4 5 (by omega), h5] at this; exact this), rfl, rfl⟩)

theorem words_at (L : ByteArray) (t m : Nat) (ws : Nat → Nat) (h : ∀ i, i < m → wd L (t + 2 * i) = ws i) : wordsL L t m = (List.range m).map fun i => ((ws i : Nat) : Int) := by
  unfold wordsL
  apply List.map_congr_left
  intro i hi
  rw [h i (List.mem_range.1 hi)]
theorem laid16 (x m : Nat) (ws : Nat → Nat) (hx : x < 65536) (hm1 : 1 ≤ m) (hm : m ≤ 100) (hw : ∀ i, ws i < 65536) :
    ShpIs (hdB 16 x m ++ oneB (2 * m) ++ catB ws m) ⟨16, 0, 0, 0, 2, x, m, (List.range m).map fun i => ((ws i : Nat) : Int)⟩ 0 ∧ ShpIs (hdB 16 x m ++ oneB (2 * m) ++ catB ws m ++ ⟨#[0]⟩) noShp 3 ∧ ShpIs ((hdB 16 x m ++ oneB (2 * m) ++ catB ws m).extract 0 ((hdB 16 x m ++ oneB (2 * m) ++ catB ws m).size - 1)) noShp 3 := by
  obtain ⟨L, hL⟩ : ∃ L, L = hdB 16 x m ++ oneB (2 * m) ++ catB ws m := ⟨_, rfl⟩
  have z6 : (hdB 16 x m ++ oneB (2 * m)).size = 6 := rfl
  have hs : L.size = 6 + 2 * m := by rw [hL, ByteArray.size_append, z6, catB_size]
  have h0 : byt L 0 = 16 := by rw [hL, byt_left _ _ 0 (by omega), byt_left _ _ 0 (by rw [hd_size]; omega)]; exact hd_byt 16 x m
  have h1 : wd L 1 = x := by rw [hL, wd_left _ _ 1 (by omega), wd_left _ _ 1 (by rw [hd_size]; omega)]; exact hd_wd1 16 x m hx
  have h3 : wd L 3 = m := by rw [hL, wd_left _ _ 3 (by omega), wd_left _ _ 3 (by rw [hd_size]; omega)]; exact hd_wd3 16 x m (by omega)
  have h5 : byt L 5 = 2 * m := by rw [hL, byt_left _ _ 5 (by omega), byt_right _ _ 0 5 (hd_size _ _ _)]; exact byt_one (2 * m) (by omega)
  have h6 : ∀ j, j < m → wd L (6 + 2 * j) = ws j := fun j hj => by rw [hL, wd_right _ _ (2 * j) 6 z6, catB_wd ws hw m j hj]
  rw [← hL]
  clear hL
  refine ⟨shpIs16 (by omega) (by omega) h0 (.inl ⟨⟨by omega, by omega, by omega, by rw [h5, h3], by rw [h5]; exact hs⟩, ?_, rfl⟩), ?_⟩
  · rw [h1, h3, words_at L 6 m ws h6]
  · rw [hs]
    exact bad_both _ (6 + 2 * m) 5 hs (by omega) (by omega) fun L' p1 p2 p3 p4 => shpIs16 p1 p2 (by rw [p4 0 (by omega)]; exact h0) (.inr ⟨fun h => p3 (by have := h.2.2.2.2; rw [p4 5 (by omega), h5] at this; exact this), rfl, rfl⟩)
theorem laid23 (x c y m : Nat) (ws : Nat → Nat) (hx : x < 65536) (hy : y < 65536) (hc1 : 1 ≤ c) (hc : c ≤ 125) (hm1 : 1 ≤ m) (hm : m ≤ 100) (hw : ∀ i, ws i < 65536) :
    ShpIs (hdB 23 x c ++ twoB y ++ twoB m ++ oneB (2 * m) ++ catB ws m) ⟨23, 2, x, c, 2, y, m, (List.range m).map fun i => ((ws i : Nat) : Int)⟩ 0 ∧ ShpIs (hdB 23 x c ++ twoB y ++ twoB m ++ oneB (2 * m) ++ catB ws m ++ ⟨#[0]⟩) noShp 3 ∧ ShpIs ((hdB 23 x c ++ twoB y ++ twoB m ++ oneB (2 * m) ++ catB ws m).extract 0 ((hdB 23 x c ++ twoB y ++ twoB m ++ oneB (2 * m) ++ catB ws m).size - 1)) noShp 3 := by
  obtain ⟨L, hL⟩ : ∃ L, L = hdB 23 x c ++ twoB y ++ twoB m ++ oneB (2 * m) ++ catB ws m := ⟨_, rfl⟩
  have z7 : (hdB 23 x c ++ twoB y).size = 7 := rfl
  have z9 : (hdB 23 x c ++ twoB y ++ twoB m).size = 9 := rfl
  have z10 : (hdB 23 x c ++ twoB y ++ twoB m ++ oneB (2 * m)).size = 10 := rfl
  have hs : L.size = 10 + 2 * m := by rw [hL, ByteArray.size_append, z10, catB_size]
  have h0 : byt L 0 = 23 := by rw [hL, byt_left _ _ 0 (by omega), byt_left _ _ 0 (by omega), byt_left _ _ 0 (by omega), byt_left _ _ 0 (by rw [hd_size]; omega)]; exact hd_byt 23 x c
  have h1 : wd L 1 = x := by rw [hL, wd_left _ _ 1 (by omega), wd_left _ _ 1 (by omega), wd_left _ _ 1 (by omega), wd_left _ _ 1 (by rw [hd_size]; omega)]; exact hd_wd1 23 x c hx
  have h3 : wd L 3 = c := by rw [hL, wd_left _ _ 3 (by omega), wd_left _ _ 3 (by omega), wd_left _ _ 3 (by omega), wd_left _ _ 3 (by rw [hd_size]; omega)]; exact hd_wd3 23 x c (by omega)
  have h5 : wd L 5 = y := by rw [hL, wd_left _ _ 5 (by omega), wd_left _ _ 5 (by omega), wd_left _ _ 5 (by omega), wd_right _ _ 0 5 (hd_size _ _ _)]; exact wd_two y hy
  have h7 : wd L 7 = m := by rw [hL, wd_left _ _ 7 (by omega), wd_left _ _ 7 (by omega), wd_right _ _ 0 7 z7]; exact wd_two m (by omega)
  have h9 : byt L 9 = 2 * m := by rw [hL, byt_left _ _ 9 (by omega), byt_right _ _ 0 9 z9]; exact byt_one (2 * m) (by omega)
  have h10 : ∀ j, j < m → wd L (10 + 2 * j) = ws j := fun j hj => by rw [hL, wd_right _ _ (2 * j) 10 z10, catB_wd ws hw m j hj]
  rw [← hL]
  clear hL
  refine ⟨shpIs23 (by omega) (by omega) h0 (.inl ⟨⟨by omega, by omega, by omega, by omega, by omega, by rw [h9, h7], by rw [h9]; exact hs⟩, ?_, rfl⟩), ?_⟩
  · rw [h1, h3, h5, h7, words_at L 10 m ws h10]
  · rw [hs]
    exact bad_both _ (10 + 2 * m) 9 hs (by omega) (by omega) fun L' p1 p2 p3 p4 => shpIs23 p1 p2 (by rw [p4 0 (by omega)]; exact h0) (.inr ⟨fun h => p3 (by have := h.2.2.2.2.2.2; rw [p4 9 (by omega), h9] at this; exact this), rfl, rfl⟩)
end Pl
end Go.Proofs.Ytcpldcojckhapaa
