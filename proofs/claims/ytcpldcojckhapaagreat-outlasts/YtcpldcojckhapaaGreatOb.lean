/-
  The law's own disk, as plain lists: what is on it when the power goes at any act, one sector torn.
-/
import Derived.Test.YtcpldcojckhapaaGreatV3
import Derived.Test.YtcpldcojckhapaaGreatQ9
set_option maxRecDepth 100000
namespace Go.Proofs.YtcpldcojckhapaaGreat
/-- What the writes have left: the j-th write lays j + 1. -/
def left (ws : Nat → Nat) : Nat → List Nat
  | 0 => List.replicate 8 0
  | j + 1 => (left ws j).set (ws j) (j + 1)
theorem left_len (ws : Nat → Nat) (j : Nat) : (left ws j).length = 8 := by
  induction j with
  | zero => rfl
  | succ j ih => rw [left, List.length_set, ih]
theorem left_le (ws : Nat → Nat) (j : Nat) : ∀ x ∈ left ws j, x ≤ j := by
  induction j with
  | zero => intro x hx; simp [left] at hx; omega
  | succ j ih =>
    intro x hx
    rcases List.mem_or_eq_of_mem_set hx with h | h
    · have := ih x h; omega
    · omega
/-- What is answered to the a-th write. -/
def ansF (ws : Nat → Nat) (a : Nat) : Int × Int × ByteArray := (((a + 1 : Nat) : Int), ((0 : Nat) : Int), streamB a 1 (writeB (ws a) (a + 1)))
/-- The acts of a Flush: with t requests saved and answered, i requests done. -/
def flA (ws : Nat → Nat) (lat st t i : Nat) : List (Int × Int × Int × ByteArray) := saveA 1 lat st (wordsB (left ws i)) ++ ((List.range (i - t)).map fun a => ansF ws (t + a)).map sendOf
/-- All acts, up to a Flush with which t requests were saved. -/
inductive Hist (ws : Nat → Nat) : List (Int × Int × Int × ByteArray) → Nat → Nat → Nat → Prop
  | nil : Hist ws [] 0 0 0
  | flush {A : List (Int × Int × Int × ByteArray)} {t lat st i : Nat} : Hist ws A t lat st → t < i → Hist ws (A ++ flA ws ((lat + 1) % 2) (st % 3 + 1) t i) i ((lat + 1) % 2) (st % 3 + 1)
theorem flA_len (ws : Nat → Nat) (lat st t i : Nat) : (flA ws lat st t i).length = 2 + (i - t) := by simp [flA, saveA]; omega
theorem Hist.len {ws : Nat → Nat} {A : List (Int × Int × Int × ByteArray)} {t lat st : Nat} (h : Hist ws A t lat st) : A.length ≤ 3 * t ∧ lat ≤ 1 ∧ st ≤ 3 := by
  induction h with
  | nil => simp
  | flush h hi ih => rw [List.length_append, flA_len]; omega

/-- The disk, what is not yet safe, and how many were answered. -/
structure Ds where
  dk : Nat → ByteArray
  wet : List (Int × Int × Int × ByteArray)
  told : Nat
def putD (f : Nat → ByteArray) (a : Int × Int × Int × ByteArray) : Nat → ByteArray := fun i => if i = a.2.1.toNat then a.2.2.2 else f i
def stepD (s : Ds) (a : Int × Int × Int × ByteArray) : Ds :=
  if a.1 = 0 then { s with wet := s.wet ++ [a] } else if a.1 = 1 then { s with dk := s.wet.foldl putD s.dk, wet := [] } else { s with told := s.told + 1 }
def startD : Ds := ⟨fun _ => blank64, [], 0⟩
def runD (A : List (Int × Int × Int × ByteArray)) : Ds := A.foldl stepD startD
theorem runD_snoc (A : List (Int × Int × Int × ByteArray)) (n : Nat) (a : Int × Int × Int × ByteArray) (h : A[n]? = some a) : runD (A.take (n + 1)) = stepD (runD (A.take n)) a := by
  unfold runD
  rw [List.take_add_one, h, List.foldl_append]
  rfl

theorem byt_bytesOf (l : List Int) (k : Nat) : Pl.byt (bytesOf l) k = (l.getD k 0).toNat % 256 := by
  rw [byt_listQ]
  unfold bytesOf
  rw [List.getD_eq_getElem?_getD, List.getD_eq_getElem?_getD, List.getElem?_map]
  cases l[k]? with
  | none => rfl
  | some x => simp
theorem bytesOf_size (l : List Int) : (bytesOf l).size = l.length := by simp [bytesOf, ByteArray.size]
theorem secB_size (st : Nat) (d : ByteArray) : (secB st d).size = 64 := by unfold secB; rw [bytesOf_size, secI_len]
theorem secB_0 (st : Nat) (d : ByteArray) : Pl.byt (secB st d) 0 = st % 256 := by unfold secB; rw [byt_bytesOf]; simp [secI]
theorem secB_63 (st : Nat) (d : ByteArray) : Pl.byt (secB st d) 63 = st % 256 := by
  unfold secB; rw [byt_bytesOf]
  have : (secI st d).getD 63 0 = (st : Int) := by
    unfold secI
    rw [List.getD_eq_getElem?_getD, List.getElem?_append_right (by simp [padI])]
    simp [padI]
  rw [this]; simp
theorem secB_in (st : Nat) (d : ByteArray) (k : Nat) (h : k < 62) : Pl.byt (secB st d) (1 + k) = Pl.byt d k := by
  unfold secB; rw [byt_bytesOf]
  have : (secI st d).getD (1 + k) 0 = ((Pl.byt d k : Nat) : Int) := by
    unfold secI
    rw [List.getD_eq_getElem?_getD, List.getElem?_append_left (by simp [padI]; omega), List.getElem?_append_right (by simp)]
    simp [padI, h]
  rw [this]
  have := Pl.byt_lt d k
  simp; omega
theorem wordsI_at (l : List Nat) : ∀ k, k < l.length → (wordsI l).getD (2 * k) 0 = ((l.getD k 0 / 256 : Nat) : Int) ∧ (wordsI l).getD (2 * k + 1) 0 = ((l.getD k 0 % 256 : Nat) : Int) := by
  induction l with
  | nil => intro k hk; simp at hk
  | cons x l ih =>
    intro k hk
    have e : wordsI (x :: l) = ((x / 256 : Nat) : Int) :: ((x % 256 : Nat) : Int) :: wordsI l := rfl
    rw [e]
    cases k with
    | zero => exact ⟨rfl, rfl⟩
    | succ k =>
      have := ih k (by simpa using hk)
      have e2 : 2 * (k + 1) = 2 * k + 1 + 1 := by omega
      rw [e2]
      simpa using this
theorem wd_wordsB (l : List Nat) (h16 : ∀ x ∈ l, x < 65536) (k : Nat) (hk : k < l.length) : Pl.wd (wordsB l) (2 * k) = l.getD k 0 := by
  obtain ⟨h1, h2⟩ := wordsI_at l k hk
  unfold Pl.wd wordsB
  rw [byt_bytesOf, byt_bytesOf, h1, h2]
  have : l.getD k 0 < 65536 := by
    rw [List.getD_eq_getElem?_getD, List.getElem?_eq_getElem hk]
    exact h16 _ (List.getElem_mem hk)
  simp only [Int.toNat_natCast]
  omega
theorem stampL_sec (st : Nat) (d : ByteArray) (h : st ≤ 3) : stampL (secB st d) = st := by
  unfold stampL
  rw [secB_0, secB_63, Nat.mod_eq_of_lt (by omega), if_pos ⟨rfl, h⟩]
theorem blank_sec : blank64 = secB 0 (wordsB (List.replicate 8 0)) := by
  unfold blank64 secB
  have : secI 0 (wordsB (List.replicate 8 0)) = List.replicate 64 0 := by decide +kernel
  rw [this]

/-- A disk of two sectors from which 'left ws j' is read. -/
def Set2 (ws : Nat → Nat) (f : Nat → ByteArray) (lat st j : Nat) : Prop :=
  lat ≤ 1 ∧ st ≤ 3 ∧ f lat = secB st (wordsB (left ws j)) ∧ (f (1 - lat)).size = 64 ∧ (stampL (f (1 - lat)) = 0 ∨ st = stampL (f (1 - lat)) % 3 + 1) ∧ (lat = 1 → st ≠ 0) ∧ (st = 0 → j = 0)
/-- One between two saves. -/
def Sd (ws : Nat → Nat) (f : Nat → ByteArray) (lat st j : Nat) : Prop :=
  lat ≤ 1 ∧ st ≤ 3 ∧ f lat = secB st (wordsB (left ws j)) ∧ (∃ o d, f (1 - lat) = secB o d ∧ o ≤ 3 ∧ (o = 0 ∨ st = o % 3 + 1)) ∧ (lat = 1 → st ≠ 0) ∧ (st = 0 → j = 0)
theorem Sd.set2 {ws : Nat → Nat} {f : Nat → ByteArray} {lat st j : Nat} (h : Sd ws f lat st j) : Set2 ws f lat st j := by
  obtain ⟨h1, h2, h3, ⟨o, d, h4, h5, h6⟩, h7, h8⟩ := h
  exact ⟨h1, h2, h3, by rw [h4, secB_size], by rw [h4, stampL_sec o d h5]; exact h6, h7, h8⟩
theorem Set2.size {ws : Nat → Nat} {f : Nat → ByteArray} {lat st j : Nat} (h : Set2 ws f lat st j) : (f 0).size = 64 ∧ (f 1).size = 64 := by
  obtain ⟨h1, h2, h3, h4, _⟩ := h
  have h5 : (f lat).size = 64 := by rw [h3, secB_size]
  rcases (show lat = 0 ∨ lat = 1 by omega) with rfl | rfl
  · exact ⟨h5, h4⟩
  · exact ⟨h4, h5⟩
theorem Set2.read {ws : Nat → Nat} {f : Nat → ByteArray} {lat st j : Nat} (h : Set2 ws f lat st j) (hj : j < 65536) (k : Nat) (hk : k < 8) : entL 8 (dataL 16 (f 0) (f 1)) 2 k = (((left ws j).getD k 0 : Nat) : Int) := by
  have hsz := h.size
  obtain ⟨h1, h2, h3, h4, h5, h7, h8⟩ := h
  have hs := stampL_sec st (wordsB (left ws j)) h2
  rw [← h3] at hs
  have key : latL (stampL (f 0)) (stampL (f 1)) = lat ∧ stL (stampL (f 0)) (stampL (f 1)) = st := by
    unfold latL stL
    rcases (show lat = 0 ∨ lat = 1 by omega) with rfl | rfl
    · rw [hs]
      have h5' : stampL (f 1) = 0 ∨ st = stampL (f 1) % 3 + 1 := h5
      have : ¬(stampL (f 1) ≠ 0 ∧ (st = 0 ∨ stampL (f 1) = st % 3 + 1)) := by omega
      rw [if_neg this, if_neg this]; exact ⟨rfl, rfl⟩
    · rw [hs]
      have h5' : stampL (f 0) = 0 ∨ st = stampL (f 0) % 3 + 1 := h5
      have : st ≠ 0 ∧ (stampL (f 0) = 0 ∨ st = stampL (f 0) % 3 + 1) := ⟨h7 rfl, h5'⟩
      rw [if_pos this, if_pos this]; exact ⟨rfl, rfl⟩
  unfold entL
  rw [if_pos rfl, if_pos hk]
  congr 1
  unfold dataL
  rw [key.1, key.2]
  split
  · rename_i h0
    rw [zerosB_wd, h8 h0]
    rcases (show k = 0 ∨ k = 1 ∨ k = 2 ∨ k = 3 ∨ k = 4 ∨ k = 5 ∨ k = 6 ∨ k = 7 by omega) with rfl | rfl | rfl | rfl | rfl | rfl | rfl | rfl <;> rfl
  · have e : (if lat = 0 then f 0 else f 1) = f lat := by
      rcases (show lat = 0 ∨ lat = 1 by omega) with rfl | rfl <;> rfl
    have hz : (f lat).size = 64 := by rw [h3, secB_size]
    have hb : ∀ q, q < 16 → Pl.byt (((f lat).extract 1 63).extract 0 16) q = Pl.byt (wordsB (left ws j)) q := fun q hq => by
      rw [Pl.byt_extract _ 0 16 q (by rw [ByteArray.size_extract]; omega) (by omega), Pl.byt_extract _ 1 63 _ (by omega) (by omega), h3, Nat.zero_add, secB_in _ _ _ (by omega)]
    rw [e, ← wd_wordsB (left ws j) (fun x hx => by have := left_le ws j x hx; omega) k (by rw [left_len]; exact hk)]
    unfold Pl.wd
    rw [hb _ (by omega), hb _ (by omega)]

/-- What may be not safe at a disk. -/
def wetA (ws : Nat → Nat) (lat st j : Nat) : Int × Int × Int × ByteArray := (0, ((1 - lat : Nat) : Int), 0, secB (st % 3 + 1) (wordsB (left ws j)))
theorem putD_at (f : Nat → ByteArray) (q : Nat) (k l : Int) (x : ByteArray) (i : Nat) : putD f (k, (q : Int), l, x) i = if i = q then x else f i := rfl
/-- The save is whole. -/
theorem Sd.put {ws : Nat → Nat} {f : Nat → ByteArray} {lat st j : Nat} (h : Sd ws f lat st j) (j' : Nat) : Sd ws (putD f (wetA ws lat st j')) (1 - lat) (st % 3 + 1) j' := by
  obtain ⟨h1, h2, h3, _, h7, h8⟩ := h
  refine ⟨by omega, by omega, ?_, ⟨st, wordsB (left ws j), ?_, h2, by omega⟩, by omega, by omega⟩
  · unfold wetA; rw [putD_at, if_pos rfl]
  · unfold wetA; rw [putD_at, if_neg (by omega), show 1 - (1 - lat) = lat by omega]; exact h3
/-- The save is torn. -/
theorem Sd.torn {ws : Nat → Nat} {f : Nat → ByteArray} {lat st j : Nat} (h : Sd ws f lat st j) (j' t : Nat) (ht : t ≤ 64) (x : ByteArray) (hx : x = (secB (st % 3 + 1) (wordsB (left ws j'))).extract 0 t ++ (f (1 - lat)).extract t 64) :
    ∃ st' lat' jj, (jj = j ∨ jj = j') ∧ Set2 ws (putD f (0, ((1 - lat : Nat) : Int), 0, x)) lat' st' jj := by
  have hz : (f (1 - lat)).size = 64 := by obtain ⟨h1, h2, h3, ⟨o, d, h4, h5, h6⟩, h7, h8⟩ := h; rw [h4, secB_size]
  rcases Nat.lt_or_ge 0 t with h0 | h0
  · rcases Nat.lt_or_ge t 64 with h64 | h64
    · refine ⟨st, lat, j, .inl rfl, ?_⟩
      obtain ⟨h1, h2, h3, ⟨o, d, h4, h5, h6⟩, h7, h8⟩ := h
      have hx0 : Pl.byt x 0 = (st % 3 + 1) % 256 := by
        rw [hx, byt_listQ, ByteArray.data_append, Array.toList_append, List.getD_eq_getElem?_getD, List.getElem?_append_left (by rw [Array.length_toList]; show 0 < ByteArray.size _; rw [ByteArray.size_extract, secB_size]; omega), ← List.getD_eq_getElem?_getD, ← byt_listQ, Pl.byt_extract _ 0 t 0 (by rw [secB_size]; omega) (by omega), secB_0]
      have hx63 : Pl.byt x 63 = o % 256 := by
        have hl : ((secB (st % 3 + 1) (wordsB (left ws j'))).extract 0 t).data.toList.length = t := by
          rw [Array.length_toList]; show ByteArray.size _ = t; rw [ByteArray.size_extract, secB_size]; omega
        rw [hx, byt_listQ, ByteArray.data_append, Array.toList_append, List.getD_eq_getElem?_getD, List.getElem?_append_right (by rw [hl]; omega), hl, ← List.getD_eq_getElem?_getD, ← byt_listQ, Pl.byt_extract _ t 64 (63 - t) (by omega) (by omega), show t + (63 - t) = 63 by omega, h4, secB_63]
      have hsx : stampL x = 0 := by
        unfold stampL
        rw [hx0, hx63, if_neg (by omega)]
      have e0 : putD f (0, ((1 - lat : Nat) : Int), 0, x) (1 - lat) = x := by rw [putD_at, if_pos rfl]
      have e1 : putD f (0, ((1 - lat : Nat) : Int), 0, x) lat = f lat := by rw [putD_at, if_neg (by omega)]
      refine ⟨h1, h2, by rw [e1]; exact h3, ?_, by rw [e0, hsx]; exact .inl rfl, h7, h8⟩
      rw [e0, hx, ByteArray.size_append, ByteArray.size_extract, ByteArray.size_extract, secB_size, hz]; omega
    · obtain rfl : t = 64 := by omega
      refine ⟨st % 3 + 1, 1 - lat, j', .inr rfl, ?_⟩
      have e : x = secB (st % 3 + 1) (wordsB (left ws j')) := by
        have e0 : (f (1 - lat)).extract 64 64 = ByteArray.empty := ByteArray.extract_eq_empty_iff.2 (by omega)
        rw [hx, e0, ByteArray.append_empty]
        have := ByteArray.extract_zero_size (b := secB (st % 3 + 1) (wordsB (left ws j')))
        rw [secB_size] at this; exact this
      rw [e]
      exact (h.put j').set2
  · obtain rfl : t = 0 := by omega
    refine ⟨st, lat, j, .inl rfl, ?_⟩
    have e : x = f (1 - lat) := by
      rw [hx, ByteArray.extract_eq_empty_iff.2 (by omega), ByteArray.empty_append]
      have := ByteArray.extract_zero_size (b := f (1 - lat))
      rw [hz] at this; exact this
    have e2 : putD f (0, ((1 - lat : Nat) : Int), 0, x) = f := by
      funext i
      rw [putD_at, e]
      split
      · rename_i hi; rw [hi]
      · rfl
    rw [e2]
    exact h.set2

/-- A state of the disk from which the power may go. -/
def OkD (ws : Nat → Nat) (N : Nat) (s : Ds) : Prop :=
  ∃ lat st j, Sd ws s.dk lat st j ∧ s.told ≤ j ∧ j ≤ N ∧ (s.wet = [] ∨ ∃ j', j ≤ j' ∧ j' ≤ N ∧ s.wet = [wetA ws lat st j'])
/-- An act that the law takes. -/
def GoodA (s : Ds) (a : Int × Int × Int × ByteArray) : Prop :=
  (a.1 = 0 ∧ (a.2.1 = 0 ∨ a.2.1 = 1) ∧ a.2.2.2.size = 64 ∧ s.wet = []) ∨ a.1 = 1 ∨ a.1 = 2
theorem saveA_one (lat st : Nat) (d : ByteArray) : saveA 1 lat st d = [(0, (lat : Int), 0, secB st d), (1, 0, 0, ⟨#[]⟩)] := by
  have e : d.extract 0 d.size = d := ByteArray.extract_zero_size
  simp [saveA, saveW, e]
theorem tells (l : List (Int × Int × Int × ByteArray)) : ∀ (s : Ds), (∀ a ∈ l, a.1 = 2) → l.foldl stepD s = { s with told := s.told + l.length } := by
  induction l with
  | nil => intro s _; rfl
  | cons a l ih =>
    intro s h
    have h2 : a.1 = 2 := h a (by simp)
    have e : stepD s a = { s with told := s.told + 1 } := by unfold stepD; rw [if_neg (by omega), if_neg (by omega)]
    rw [List.foldl_cons, e, ih _ (fun b hb => h b (by simp [hb]))]
    simp only [List.length_cons]
    rw [show s.told + 1 + l.length = s.told + (l.length + 1) by omega]
theorem flush_run {ws : Nat → Nat} {N lat st t i : Nat} (s : Ds) (hs : Sd ws s.dk lat st t) (hw : s.wet = []) (ht : s.told = t) (hti : t < i) (hi : i ≤ N) :
    (∀ n, OkD ws N (((flA ws (1 - lat) (st % 3 + 1) t i).take n).foldl stepD s)) ∧ (∀ n a, (flA ws (1 - lat) (st % 3 + 1) t i)[n]? = some a → GoodA (((flA ws (1 - lat) (st % 3 + 1) t i).take n).foldl stepD s) a) ∧
    Sd ws ((flA ws (1 - lat) (st % 3 + 1) t i).foldl stepD s).dk (1 - lat) (st % 3 + 1) i ∧ ((flA ws (1 - lat) (st % 3 + 1) t i).foldl stepD s).wet = [] ∧ ((flA ws (1 - lat) (st % 3 + 1) t i).foldl stepD s).told = i := by
  obtain ⟨S, hS, hS2, hSl⟩ : ∃ S, flA ws (1 - lat) (st % 3 + 1) t i = wetA ws lat st i :: (1, 0, 0, ⟨#[]⟩) :: S ∧ (∀ a ∈ S, a.1 = 2) ∧ S.length = i - t := by
    refine ⟨((List.range (i - t)).map fun a => ansF ws (t + a)).map sendOf, ?_, ?_, by simp⟩
    · unfold flA; rw [saveA_one]; rfl
    · intro a ha
      obtain ⟨b, _, rfl⟩ := List.mem_map.1 ha
      rfl
  rw [hS]
  have e1 : stepD s (wetA ws lat st i) = { s with wet := [wetA ws lat st i] } := by unfold stepD; rw [if_pos (show (wetA ws lat st i).1 = 0 from rfl), hw]; rfl
  have e2 : stepD { s with wet := [wetA ws lat st i] } (1, 0, 0, ⟨#[]⟩) = ⟨putD s.dk (wetA ws lat st i), [], t⟩ := by
    unfold stepD; rw [if_neg (by decide), if_pos rfl, ht]; rfl
  have e3 : ∀ n, ((wetA ws lat st i :: (1, 0, 0, ⟨#[]⟩) :: S).take (n + 2)).foldl stepD s = ⟨putD s.dk (wetA ws lat st i), [], t + (S.take n).length⟩ := fun n => by
    rw [List.take_succ_cons, List.take_succ_cons, List.foldl_cons, List.foldl_cons, e1, e2, tells _ _ (fun a ha => hS2 a (List.mem_of_mem_take ha))]
  have hp := hs.put i
  refine ⟨fun n => ?_, fun n a hn => ?_, ?_⟩
  · match n with
    | 0 => exact ⟨lat, st, t, hs, by show s.told ≤ t; omega, by omega, .inl hw⟩
    | 1 =>
      show OkD ws N (stepD s (wetA ws lat st i))
      rw [e1]
      exact ⟨lat, st, t, hs, by show s.told ≤ t; omega, by omega, .inr ⟨i, by omega, hi, rfl⟩⟩
    | n + 2 =>
      rw [e3]
      exact ⟨_, _, i, hp, by show t + (S.take n).length ≤ i; rw [List.length_take]; omega, hi, .inl rfl⟩
  · match n, hn with
    | 0, hn =>
      obtain rfl : wetA ws lat st i = a := by simpa using hn
      refine .inl ⟨rfl, ?_, secB_size _ _, hw⟩
      show ((1 - lat : Nat) : Int) = 0 ∨ ((1 - lat : Nat) : Int) = 1
      omega
    | 1, hn =>
      obtain rfl : (1, 0, 0, ⟨#[]⟩) = a := by simpa using hn
      exact .inr (.inl rfl)
    | n + 2, hn => exact .inr (.inr (hS2 a (List.mem_of_getElem? (show S[n]? = some a by simpa using hn))))
  · have := e3 S.length
    rw [List.take_of_length_le (by simp), List.take_of_length_le (Nat.le_refl _), hSl] at this
    rw [this]
    exact ⟨hp, rfl, by show t + (i - t) = i; omega⟩
theorem hist_run {ws : Nat → Nat} {N : Nat} {A : List (Int × Int × Int × ByteArray)} {t lat st : Nat} (h : Hist ws A t lat st) : t ≤ N →
    (∀ n, OkD ws N (runD (A.take n))) ∧ (∀ n a, A[n]? = some a → GoodA (runD (A.take n)) a) ∧ Sd ws (runD A).dk lat st t ∧ (runD A).wet = [] ∧ (runD A).told = t := by
  induction h with
  | nil =>
    intro _
    have h0 : Sd ws startD.dk 0 0 0 := ⟨by omega, by omega, blank_sec, ⟨0, wordsB (List.replicate 8 0), blank_sec, by omega, .inl rfl⟩, by omega, fun _ => rfl⟩
    refine ⟨fun n => ?_, fun n a hn => by simp at hn, h0, rfl, rfl⟩
    rw [List.take_nil]
    exact ⟨0, 0, 0, h0, Nat.le_refl _, by omega, .inl rfl⟩
  | @flush A t lat st i h hti ih =>
    intro hN
    obtain ⟨g1, g2, g3, g4, g5⟩ := ih (by omega)
    have hl := h.len
    have e : (lat + 1) % 2 = 1 - lat := by omega
    rw [e]
    obtain ⟨k1, k2, k3, k4, k5⟩ := flush_run (N := N) (runD A) g3 g4 g5 hti hN
    have hr : ∀ n, A.length ≤ n → runD ((A ++ flA ws (1 - lat) (st % 3 + 1) t i).take n) = ((flA ws (1 - lat) (st % 3 + 1) t i).take (n - A.length)).foldl stepD (runD A) := fun n hn => by
      unfold runD
      rw [List.take_append, List.take_of_length_le hn, List.foldl_append]
    have hr2 : ∀ n, n ≤ A.length → (A ++ flA ws (1 - lat) (st % 3 + 1) t i).take n = A.take n := fun n hn => by
      rw [List.take_append, show n - A.length = 0 by omega, List.take_zero, List.append_nil]
    refine ⟨fun n => ?_, fun n a hn => ?_, ?_⟩
    · rcases Nat.le_total A.length n with q | q
      · rw [hr n q]; exact k1 _
      · rw [hr2 n q]; exact g1 n
    · rcases Nat.lt_or_ge n A.length with q | q
      · rw [hr2 n (by omega)]
        rw [List.getElem?_append_left q] at hn
        exact g2 n a hn
      · rw [hr n q]
        rw [List.getElem?_append_right q] at hn
        exact k2 _ a hn
    · unfold runD
      rw [List.foldl_append]
      exact ⟨k3, k4, k5⟩
/-- Whatever of what is not safe is on the disk: some of the first requests have left it. -/
def FinD (ws : Nat → Nat) (N told : Nat) (f : Nat → ByteArray) : Prop := ∃ lat st j, Set2 ws f lat st j ∧ told ≤ j ∧ j ≤ N
theorem OkD.fin {ws : Nat → Nat} {N : Nat} {s : Ds} (h : OkD ws N s) : FinD ws N s.told s.dk := by
  obtain ⟨lat, st, j, h1, h2, h3, _⟩ := h
  exact ⟨lat, st, j, h1.set2, h2, h3⟩
theorem OkD.wet {ws : Nat → Nat} {N : Nat} {s : Ds} (h : OkD ws N s) : s.wet = [] ∨ ∃ (q : Nat) (x : ByteArray), q ≤ 1 ∧ x.size = 64 ∧ (s.dk 0).size = 64 ∧ (s.dk 1).size = 64 ∧ s.wet = [(0, (q : Int), 0, x)] ∧ FinD ws N s.told (putD s.dk (0, (q : Int), 0, x)) ∧
    ∀ t, t ≤ 64 → FinD ws N s.told (putD s.dk (0, (q : Int), 0, x.extract 0 t ++ (s.dk q).extract t 64)) := by
  obtain ⟨lat, st, j, h1, h2, h3, h4⟩ := h
  rcases h4 with h4 | ⟨j', h5, h6, h4⟩
  · exact .inl h4
  · have hz := h1.set2.size
    refine .inr ⟨1 - lat, _, by omega, secB_size _ _, hz.1, hz.2, h4, ⟨_, _, j', (h1.put j').set2, by omega, h6⟩, fun t ht => ?_⟩
    obtain ⟨a, b, jj, e, hh⟩ := h1.torn j' t ht _ rfl
    exact ⟨_, _, jj, hh, by rcases e with rfl | rfl <;> omega, by rcases e with rfl | rfl <;> omega⟩
theorem OkD.size {ws : Nat → Nat} {N : Nat} {s : Ds} (h : OkD ws N s) : (s.dk 0).size = 64 ∧ (s.dk 1).size = 64 := by
  obtain ⟨lat, st, j, h1, _⟩ := h
  exact h1.set2.size
end Go.Proofs.YtcpldcojckhapaaGreat
