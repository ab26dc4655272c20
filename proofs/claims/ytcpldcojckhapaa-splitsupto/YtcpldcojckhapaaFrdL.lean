/-
  What the walk of the law Framed leans on.
-/
import Derived.Test.YtcpldcojckhapaaMath
import Derived.Test.YtcpldcojckhapaaSer
set_option maxRecDepth 100000
namespace Go.Proofs.Ytcpldcojckhapaa
open Go.RowKit

def toF (x : Int × Int × ByteArray) : Nat × Nat × ByteArray := ((pk x.1 65536).toNat, (pk x.2.1 256).toNat, bodyB x.2.2)
theorem toF_may (x : Int × Int × ByteArray) : Pl.May (toF x) := by
  have h1 := pk_nonneg x.1 65536 (by decide)
  have h2 := pk_lt x.1 65536 (by decide)
  have h3 := pk_nonneg x.2.1 256 (by decide)
  have h4 := pk_lt x.2.1 256 (by decide)
  have h5 := bodyB_size x.2.2
  exact ⟨by show (pk x.1 65536).toNat < _; omega, by show (pk x.2.1 256).toNat < _; omega, h5.1, h5.2.1⟩

/-- What is told of one that was sent. -/
def SentOk (x : Int × Int × ByteArray) : Prop := -9223372036854775808 ≤ x.1 ∧ x.1 ≤ 9223372036854775807 ∧ -9223372036854775808 ≤ x.2.1 ∧ x.2.1 ≤ 9223372036854775807 ∧ x.2.2.size ≤ 4194304
theorem sent_F (x : Int × Int × ByteArray) (w : World) (h : SentOk x) :
    Calls Try.prog 22 #[.agg #[.int .i64 x.1, .int .i64 x.2.1, .string x.2.2]] w fun e w' => ∃ (m u : Nat) (b : ByteArray), e = .returned (.agg #[.int .i64 (m : Nat), .int .i64 (u : Nat), .string b]) ∧ Hid (toF x = (m, u, b)) ∧ m < 65536 ∧ u < 256 ∧ 1 ≤ b.size ∧ b.size ≤ 253 ∧ Below w.heap.size w w' := by
  have hm := toF_may x
  refine (sent_any x.1 x.2.1 x.2.2 w h.1 h.2.1 h.2.2.1 h.2.2.2.1 h.2.2.2.2).mono ?_
  rintro e w' ⟨rfl, hb⟩
  refine ⟨(pk x.1 65536).toNat, (pk x.2.1 256).toNat, bodyB x.2.2, ?_, rfl, hm.1, hm.2.1, hm.2.2.1, hm.2.2.2, hb⟩
  rw [Int.toNat_of_nonneg (pk_nonneg x.1 65536 (by decide)), Int.toNat_of_nonneg (pk_nonneg x.2.1 256 (by decide))]

/-- The argument: where it lies, and what it holds. -/
def IsSent (w : World) (a : Option Addr) (L : List (Int × Int × ByteArray)) : Prop :=
  ∀ (i : Nat) (x : Int × Int × ByteArray), L[i]? = some x → ∃ b off, a = some ⟨b, off, none⟩ ∧ b < w.heap.size ∧ w.cell? ⟨b, off + i * 3, none⟩ = some (.int .i64 x.1) ∧ w.cell? ⟨b, off + i * 3 + 1, none⟩ = some (.int .i64 x.2.1) ∧ w.cell? ⟨b, off + i * 3 + 2, none⟩ = some (.string x.2.2) ∧ SentOk x

theorem take_next (L : List (Int × Int × ByteArray)) (k : Nat) (x : Int × Int × ByteArray) (h : L[k]? = some x) :
    ((L.map toF).take (k + 1)).flatMap Pl.encL = ((L.map toF).take k).flatMap Pl.encL ++ Pl.encL (toF x) ∧ ((L.map toF).take (k + 1)).flatMap Pl.frC = ((L.map toF).take k).flatMap Pl.frC ++ Pl.frC (toF x) := by
  have e : (L.map toF).take (k + 1) = (L.map toF).take k ++ [toF x] := by
    rw [List.take_add_one, List.getElem?_map, h]; rfl
  rw [e]
  simp
theorem own_ne {w : World} {base : Nat} {e : TypeId} {size : Nat} {v : Value} {n : Nat} {xs : List Value} (h : w.ownsRow base e size v n xs) : some w.heap.size ≠ v.ownBlock := fun e => by
  have := (h.lt _ e.symm).2
  omega
theorem stream_last (w : World) : Calls Try.prog 23 #[.int .i64 7, .int .i64 1, .string ⟨#[3, 0, 0, 0, 1]⟩] w fun e w' => e = .returned (.string (streamB 7 1 ⟨#[3, 0, 0, 0, 1]⟩)) ∧ Below w.heap.size w w' :=
  stream_any 7 1 ⟨#[3, 0, 0, 0, 1]⟩ w (by decide) (by decide) (by decide)
theorem frC_len (F : List (Nat × Nat × ByteArray)) : (F.flatMap Pl.frC).length = F.length * 3 := by
  induction F with
  | nil => rfl
  | cons x F ih => rw [List.flatMap_cons, List.length_append, ih, List.length_cons]; show 3 + _ = _; omega
theorem split_sentC (A Z : ByteArray) (F : List (Nat × Nat × ByteArray)) (p len : Nat) (w : World) (hp : p < 12) (hm : ∀ x ∈ F, Pl.May x) (hF : F.length = len) (hA : A.data.toList = F.flatMap Pl.encL) (hZ : Z = streamB 7 1 ⟨#[3, 0, 0, 0, 1]⟩) (hs : A.size ≤ 4000000) :
    Calls Try.prog 11 #[.string (A ++ Z.extract 0 p)] w fun e w' => ∃ v, e = .returned (.tuple #[v, .int .i64 (A.size : Nat), .int .i64 0]) ∧ w'.ownsRow w.heap.size 40 3 v len (F.flatMap Pl.frC) ∧ Below w.heap.size w w' := by
  have hz : (Z.extract 0 p).size ≤ 12 := by rw [hZ]; simp [Pl.streamB_size]; omega
  have hd : (A ++ Z.extract 0 p).data.toList = F.flatMap Pl.encL ++ (Pl.encL Pl.lastX).take p := by
    rw [Pl.data_append, hA]
    congr 1
    have e : (Z.extract 0 p).data.toList = (Z.data.toList.drop 0).take (p - 0) := Lib.extract_data _ _ _
    rw [e, List.drop_zero, Nat.sub_zero, hZ]; rfl
  have hsp := Pl.split_sent (A ++ Z.extract 0 p) F p hp hm hd
  refine (split_core (A ++ Z.extract 0 p) w (by rw [ByteArray.size_append]; omega)).mono ?_
  rintro e w' ⟨v, n, acc, t, k, rfl, hown, hi, _, hb⟩
  have hlA : (F.flatMap Pl.encL).length = A.size := by rw [← hA, ← Pl.size_list]
  obtain ⟨h1, h2⟩ := hi
  rw [hsp.1] at h1
  obtain ⟨rfl, rfl⟩ := Prod.mk.inj h1
  rw [hsp.2] at h2
  have hn : n = len := by have := hown.1; rw [frC_len, hF] at this; omega
  subst hn
  refine ⟨v, ?_, hown, hb⟩
  rw [hlA, h2]; rfl
theorem split_lastC (Z : ByteArray) (w : World) (hZ : Z = streamB 7 1 ⟨#[3, 0, 0, 0, 1]⟩) :
    Calls Try.prog 11 #[.string Z] w fun e w' => ∃ v, e = .returned (.tuple #[v, .int .i64 12, .int .i64 0]) ∧ w'.ownsRow w.heap.size 40 3 v 1 (Pl.frC Pl.lastX) ∧ Below w.heap.size w w' := by
  have hsp := Pl.split_last Z hZ
  refine (split_core Z w (by rw [hZ, Pl.streamB_size]; decide)).mono ?_
  rintro e w' ⟨v, n, acc, t, k, rfl, hown, hi, _, hb⟩
  obtain ⟨h1, h2⟩ := hi
  rw [hsp.1] at h1
  obtain ⟨rfl, rfl⟩ := Prod.mk.inj h1
  rw [hsp.2] at h2
  have hn : n = 1 := by have := hown.1; change 3 = n * 3 at this; omega
  subst hn
  refine ⟨v, ?_, hown, hb⟩
  rw [h2]; rfl
/-- A slice that is owned, of whatever length: its value; where it has an element, its cells. -/
theorem own_view {w : World} {base : Nat} {e : TypeId} {v : Value} {n : Nat} {xs : List Value} {size : Nat} (h : w.ownsRow base e size v n xs) :
    ∃ a c, v = .slice a n c ∧ ∀ i, i < n → ∃ g, a = some ⟨g, 0, none⟩ ∧ g < w.heap.size ∧ ∀ j, j < n * size → w.cell? ⟨g, j, none⟩ = xs[j]? := by
  rcases h.2 with ⟨rfl, rfl⟩ | ⟨g, cap, cur, rfl, hb, hg, h1, h2, h3, h4⟩
  · exact ⟨none, 0, rfl, fun i hi => absurd hi (Nat.not_lt_zero _)⟩
  · exact ⟨some ⟨g, 0, none⟩, cap, rfl, fun i hi => ⟨g, rfl, lt_of_block hg, fun j hj => h.cellAt j hj⟩⟩
theorem flat_at (F : List (Nat × Nat × ByteArray)) (q : Nat) (h : q < F.length) : (F.flatMap Pl.frC)[q * 3]? = some (.int .i64 ((F[q]).1 : Nat)) ∧ (F.flatMap Pl.frC)[q * 3 + 1]? = some (.int .i64 ((F[q]).2.1 : Nat)) ∧ (F.flatMap Pl.frC)[q * 3 + 2]? = some (.string (F[q]).2.2) := by
  induction F generalizing q with
  | nil => exact absurd h (by simp)
  | cons x F ih =>
    rw [List.flatMap_cons]
    cases q with
    | zero => exact ⟨rfl, rfl, rfl⟩
    | succ q =>
      have hl : (Pl.frC x).length = 3 := rfl
      have := ih q (by simpa using h)
      rw [List.getElem?_append_right (by omega), List.getElem?_append_right (by omega), List.getElem?_append_right (by omega), hl]
      rw [show (q + 1) * 3 - 3 = q * 3 by omega, show (q + 1) * 3 + 1 - 3 = q * 3 + 1 by omega, show (q + 1) * 3 + 2 - 3 = q * 3 + 2 by omega]
      exact this
/-- '[]byte(s)', told by letters. -/
theorem conv_bytes (s : ByteArray) : ∃ (capF : World → Nat) (nxt : World → World), (∀ X, (convert 9 45 (.string s)).run Try.prog X = .ok (.slice (some ⟨X.heap.size, 0, none⟩) s.size (capF X)) (nxt X)) ∧
    ∀ X, (nxt X).heap.size = X.heap.size + 1 ∧ Below X.heap.size X (nxt X) ∧ (∀ j, j < s.size → (nxt X).cell? ⟨X.heap.size, j, none⟩ = some (.int .u8 (Pl.byt s j : Nat))) ∧ (∀ j, j < s.size → (nxt X).frozen? ⟨X.heap.size, j, none⟩ = false) := by
  refine ⟨fun X => grownCap X s.size 0 5, fun X => X.drew.alloc (.cells (bytesRow s (grownCap X s.size 0 5)) 5 ((bytesRow s (grownCap X s.size 0 5)).size, (bytesRow s (grownCap X s.size 0 5)).size + 1)), fun X => run_bytes_of_string X 9 45 5 s Try.underlying9 Try.underlying45 Try.underlying5, fun X => ⟨by simp, ((Below.refl _ _).drew).alloc (Nat.le_refl _) _, ?_, ?_⟩⟩
  · intro j hj
    have h1 := World.cell?_alloc_mark X.drew (bytesRow s (grownCap X s.size 0 5)) 5 ((bytesRow s (grownCap X s.size 0 5)).size, (bytesRow s (grownCap X s.size 0 5)).size + 1) j
    refine h1.trans ?_
    rw [bytesRow_at s _ j hj]
    rw [← Pl.get_byt s j hj]; rfl
  · intro j hj
    have h1 := World.frozen?_alloc_mark X.drew (bytesRow s (grownCap X s.size 0 5)) 5 (bytesRow s (grownCap X s.size 0 5)).size ((bytesRow s (grownCap X s.size 0 5)).size + 1) j
    refine h1.trans ?_
    have hz : s.size ≤ (bytesRow s (grownCap X s.size 0 5)).size := by
      unfold bytesRow; rw [Array.size_append, Array.size_map]; show s.size ≤ s.size + _; omega
    simp; omega
theorem cell_setCell (Y : World) (g i j : Nat) (v u : Value) (hc : Y.cell? ⟨g, i, none⟩ = some u) : (Y.setCell ⟨g, i, none⟩ v).cell? ⟨g, j, none⟩ = if j = i then some v else Y.cell? ⟨g, j, none⟩ := by
  by_cases h : j = i
  · subst h
    rw [if_pos rfl]
    exact World.cell?_setCell_same _ _ _ hc
  · rw [if_neg h]
    exact World.cell?_setCell_other _ _ _ _ (fun e => h (congrArg Addr.off e).symm)
theorem cell_far (Y : World) (g g' i j : Nat) (v : Value) (h : g ≠ g') : (Y.setCell ⟨g, i, none⟩ v).cell? ⟨g', j, none⟩ = Y.cell? ⟨g', j, none⟩ :=
  World.cell?_setCell_other _ _ _ _ (fun e => h (congrArg Addr.block e))
/-- One byte of a request on a Serial line is turned: it is none any more. -/
theorem spoil (s : ByteArray) (P D g : Nat) (Y V : World) (hP : P < s.size) (hD : D < 255) (hYC : ∀ j, j < s.size → Y.cell? ⟨g, j, none⟩ = some (.int .u8 (Pl.byt s j : Nat)))
    (hV : V = (Y.setCell ⟨g, P, none⟩ (.int .u8 (bits .xor .u8 (Pl.byt s P : Int) (1 + (D : Int))))).drew) (hok : Pl.serOk s) :
    ∃ s' : ByteArray, s'.size = s.size ∧ ¬ Pl.serOk s' ∧ ∀ c, (convert 45 9 (.slice (some ⟨g, 0, none⟩) s.size c)).run Try.prog V = .ok (.string s') V := by
  have hb := Pl.byt_lt s P
  have hx1 : Pl.byt s P ^^^ (1 + D) < 256 := Nat.xor_lt_two_pow (n := 8) (by omega) (by omega)
  have hPl : P < s.data.toList.length := by rw [← Pl.size_list]; exact hP
  obtain ⟨l, hl⟩ : ∃ l, l = s.data.toList.set P (UInt8.ofNat (Pl.byt s P ^^^ (1 + D))) := ⟨_, rfl⟩
  have hll : l.length = s.size := by rw [hl, List.length_set, ← Pl.size_list]
  have hbl : ∀ j (hj : j < s.data.toList.length), (s.data.toList[j]).toNat = Pl.byt s j := by
    intro j hj
    rw [Pl.byt_list, List.getD_eq_getElem?_getD, List.getElem?_eq_getElem hj]; rfl
  refine ⟨⟨l.toArray⟩, by rw [Pl.size_list]; simpa using hll, ?_, ?_⟩
  · refine Pl.ser_bad s ⟨l.toArray⟩ P (UInt8.ofNat (Pl.byt s P ^^^ (1 + D))) hPl ?_ hok (by rw [← hl])
    intro e
    have e2 := congrArg UInt8.toNat e
    rw [hbl P hPl, UInt8.toNat_ofNat', Nat.mod_eq_of_lt hx1] at e2
    have e3 := Pl.xor_inj (Pl.byt s P) (1 + D) 0 (by rw [e2, Nat.xor_zero])
    omega
  · intro c
    have := run_convert_bytes_back (P := Try.prog) V 45 9 5 ⟨g, 0, none⟩ c l Try.underlying45 Try.underlying5 Try.underlying9 (fun j hj => by
      have hjs : j < s.size := by omega
      have hadd : (⟨g, 0, none⟩ : Addr).add j = ⟨g, j, none⟩ := by simp [Addr.add_lit]
      rw [hadd, hV]
      show (Y.setCell _ _).cell? _ = _
      rw [cell_setCell Y g P j _ _ (hYC P hP)]
      subst hl
      by_cases e : j = P
      · subst e
        rw [if_pos rfl, List.getElem_set_self, UInt8.toNat_ofNat', Nat.mod_eq_of_lt hx1]
        have h2 := u8_xor_nat (Pl.byt s j) (1 + D) hb (by omega)
        rw [show ((1 + D : Nat) : Int) = 1 + (D : Int) by omega] at h2
        rw [h2]
      · rw [if_neg e, hYC j hjs, List.getElem_set_ne (fun h => e h.symm), hbl])
    rw [hll] at this
    exact this
theorem take_le (F : List (Nat × Nat × ByteArray)) (k : Nat) : ((F.take k).flatMap Pl.encL).length ≤ (F.flatMap Pl.encL).length := by
  have e : F.flatMap Pl.encL = (F.take k).flatMap Pl.encL ++ (F.drop k).flatMap Pl.encL := by rw [← List.flatMap_append, List.take_append_drop]
  rw [e, List.length_append]; omega
theorem cell_three_new' (w : World) (a b c : Value) (t : TypeId) (g : Nat) (hg : g = w.heap.size) : ∀ j u, [a, b, c][j]? = some u → (w.alloc (.cells #[a, b, c] t)).cell? ((⟨g, 0, none⟩ : Addr).add j) = some u := by
  subst hg; exact cell_three_new w a b c t

end Go.Proofs.Ytcpldcojckhapaa
