/-
  Plain facts: what went in as requests comes out of the splitting; one byte that is another one spoils the check.
-/
import Derived.Test.YtcpldcojckhapaaKeep2
set_option maxRecDepth 100000
namespace Go.Proofs.Ytcpldcojckhapaa
namespace Pl

theorem byt_list (s : ByteArray) (k : Nat) : byt s k = (s.data.toList.getD k 0).toNat := by
  unfold byt
  by_cases h : k < s.size
  · rw [dif_pos h, List.getD_eq_getElem?_getD]
    have h2 : k < s.data.toList.length := by rw [Array.length_toList]; exact h
    rw [List.getElem?_eq_getElem h2]
    rfl
  · rw [dif_neg h, List.getD_eq_getElem?_getD, List.getElem?_eq_none (by rw [Array.length_toList]; exact Nat.le_of_not_lt h)]
    rfl
theorem byt_drop (s : ByteArray) (t k : Nat) (l : List UInt8) (h : s.data.toList.drop t = l) : byt s (t + k) = (l.getD k 0).toNat := by
  rw [byt_list, ← h, List.getD_eq_getElem?_getD, List.getD_eq_getElem?_getD, List.getElem?_drop]
theorem size_list (s : ByteArray) : s.size = s.data.toList.length := by rw [Array.length_toList]; rfl
theorem data_append (a b : ByteArray) : (a ++ b).data.toList = a.data.toList ++ b.data.toList := by simp

theorem streamB_list (m u : Nat) (b : ByteArray) : (streamB m u b).data.toList = [UInt8.ofNat (m / 256), UInt8.ofNat (m % 256), 0, 0, UInt8.ofNat ((b.size + 1) / 256), UInt8.ofNat ((b.size + 1) % 256), UInt8.ofNat u] ++ b.data.toList := by
  simp [streamB, twoB]
theorem streamB_size (m u : Nat) (b : ByteArray) : (streamB m u b).size = 7 + b.size := by
  rw [size_list, streamB_list, List.length_append, ← size_list]; rfl

/-- What may be sent. -/
def May (x : Nat × Nat × ByteArray) : Prop := x.1 < 65536 ∧ x.2.1 < 256 ∧ 1 ≤ x.2.2.size ∧ x.2.2.size ≤ 253
def frC (x : Nat × Nat × ByteArray) : List Value := [.int .i64 (x.1 : Nat), .int .i64 (x.2.1 : Nat), .string x.2.2]
def encL (x : Nat × Nat × ByteArray) : List UInt8 := (streamB x.1 x.2.1 x.2.2).data.toList

theorem at_one (s : ByteArray) (t : Nat) (x : Nat × Nat × ByteArray) (hx : May x) (rest : List UInt8) (h : s.data.toList.drop t = encL x ++ rest) :
    wholeAt s t = 7 + x.2.2.size ∧ frAt s t (7 + x.2.2.size) = frC x := by
  obtain ⟨m, u, b⟩ := x
  obtain ⟨h1, h2, h3, h4⟩ := hx
  simp only at h1 h2 h3 h4
  unfold encL at h
  rw [streamB_list] at h
  have hlen : s.size - t = 7 + b.size + rest.length := by
    have := congrArg List.length h
    rw [List.length_drop, List.length_append, List.length_append, ← size_list, ← size_list] at this
    rw [this]; rfl
  have hby : ∀ k, byt s (t + k) = (([UInt8.ofNat (m / 256), UInt8.ofNat (m % 256), 0, 0, UInt8.ofNat ((b.size + 1) / 256), UInt8.ofNat ((b.size + 1) % 256), UInt8.ofNat u] ++ b.data.toList ++ rest).getD k 0).toNat := fun k => byt_drop s t k _ h
  have b0 : byt s (t + 0) = m / 256 := by rw [hby]; simp; omega
  have b1 : byt s (t + 1) = m % 256 := by rw [hby]; simp
  have b2 : byt s (t + 2) = 0 := by rw [hby]; simp
  have b3 : byt s (t + 3) = 0 := by rw [hby]; simp
  have b4 : byt s (t + 4) = 0 := by rw [hby]; simp; omega
  have b5 : byt s (t + 5) = b.size + 1 := by rw [hby]; simp; omega
  have b6 : byt s (t + 6) = u := by rw [hby]; simp; omega
  have hbr : brk (s.extract t s.size) = false := brkAt_false s t b2 b3 b4 (fun _ => by omega)
  refine ⟨?_, ?_⟩
  · rw [wholeAt_some s t (by omega) hbr (by omega), b5]; show _ = 7 + b.size; omega
  · unfold frAt frC
    simp only
    have hx : s.extract (t + 7) (t + (7 + b.size)) = b := by
      apply ByteArray.ext
      apply Array.ext'
      have e : (s.extract (t + 7) (t + (7 + b.size))).data.toList = (s.data.toList.drop (t + 7)).take (t + (7 + b.size) - (t + 7)) := Lib.extract_data _ _ _
      rw [e, ← List.drop_drop, h, show t + (7 + b.size) - (t + 7) = b.size by omega, size_list b]
      simp
    rw [hx, b6, show byt s t = m / 256 from b0, b1]
    rw [show 256 * (m / 256) + m % 256 = m by omega]

theorem spl_all (s : ByteArray) (rest : List UInt8) (fs : List (Nat × Nat × ByteArray)) : ∀ (f t : Nat), (∀ x ∈ fs, May x) → fs.length < f → s.data.toList.drop t = fs.flatMap encL ++ rest →
    wholeAt s (t + (fs.flatMap encL).length) = 0 → spl s f t = (fs.flatMap frC, t + (fs.flatMap encL).length) := by
  induction fs with
  | nil =>
    intro f t _ _ _ hw
    have e1 : List.flatMap encL ([] : List (Nat × Nat × ByteArray)) = [] := rfl
    have e2 : List.flatMap frC ([] : List (Nat × Nat × ByteArray)) = [] := rfl
    rw [e1, List.length_nil, Nat.add_zero] at hw
    rw [spl_stop s f t hw, e1, e2, List.length_nil, Nat.add_zero]
  | cons x fs ih =>
    intro f t hm hf hd hw
    obtain ⟨g, rfl⟩ : ∃ g, f = g + 1 := ⟨f - 1, by omega⟩
    have hl : (encL x).length = 7 + x.2.2.size := by unfold encL; rw [← size_list, streamB_size]
    have hd' : s.data.toList.drop t = encL x ++ (fs.flatMap encL ++ rest) := by rw [hd]; simp
    obtain ⟨h1, h2⟩ := at_one s t x (hm x (by simp)) _ hd'
    have hd2 : s.data.toList.drop (t + (7 + x.2.2.size)) = fs.flatMap encL ++ rest := by
      rw [← List.drop_drop, hd', ← hl, List.drop_left]
    have hw2 : t + ((x :: fs).flatMap encL).length = (t + (7 + x.2.2.size)) + (fs.flatMap encL).length := by rw [List.flatMap_cons, List.length_append, hl]; omega
    have hi := ih g (t + (7 + x.2.2.size)) (fun y hy => hm y (List.mem_cons_of_mem _ hy)) (by simpa using hf) hd2 (by rw [← hw2]; exact hw)
    rw [spl_step s g t (by omega), h1, h2, hi, hw2, List.flatMap_cons]

theorem encL_pos (x : Nat × Nat × ByteArray) : 7 ≤ (encL x).length := by unfold encL; rw [← size_list, streamB_size]; omega
theorem flat_len (fs : List (Nat × Nat × ByteArray)) : fs.length ≤ (fs.flatMap encL).length := by
  induction fs with
  | nil => exact Nat.zero_le _
  | cons x fs ih => rw [List.flatMap_cons, List.length_append, List.length_cons]; have := encL_pos x; omega

def lastX : Nat × Nat × ByteArray := (7, 1, ⟨#[3, 0, 0, 0, 1]⟩)
theorem lastX_may : May lastX := ⟨by decide, by decide, by decide, by decide⟩
theorem encLast : encL lastX = [0, 7, 0, 0, 0, 6, 1, 3, 0, 0, 0, 1] := by decide +kernel

/-- All that was sent, and a part of one more: just what was sent comes out, and the line is not broken. -/
theorem split_sent (s : ByteArray) (fs : List (Nat × Nat × ByteArray)) (p : Nat) (hp : p < 12) (hm : ∀ x ∈ fs, May x) (h : s.data.toList = fs.flatMap encL ++ (encL lastX).take p) :
    splF s = (fs.flatMap frC, (fs.flatMap encL).length) ∧ brk (s.extract (fs.flatMap encL).length s.size) = false := by
  obtain ⟨T, hT⟩ : ∃ T, T = (fs.flatMap encL).length := ⟨_, rfl⟩
  have hdT : s.data.toList.drop T = (encL lastX).take p := by rw [h, hT, List.drop_left]
  have hsz : s.size = T + p := by
    rw [size_list, h, List.length_append, ← hT, List.length_take, encLast]
    simp; omega
  have hby : ∀ k, byt s (T + k) = (((encL lastX).take p).getD k 0).toNat := fun k => byt_drop s T k _ hdT
  have hget : ∀ k, (((encL lastX).take p).getD k 0) = if k < p then (encL lastX).getD k 0 else 0 := by
    intro k
    rw [List.getD_eq_getElem?_getD, List.getElem?_take]
    split
    · rw [List.getD_eq_getElem?_getD]
    · rfl
  have b2 : byt s (T + 2) = 0 := by rw [hby, hget, encLast]; split <;> rfl
  have b3 : byt s (T + 3) = 0 := by rw [hby, hget, encLast]; split <;> rfl
  have b4 : byt s (T + 4) = 0 := by rw [hby, hget, encLast]; split <;> rfl
  have b5 : 5 < p → byt s (T + 5) = 6 := fun h5 => by rw [hby, hget, encLast, if_pos h5]; rfl
  have hbr : brk (s.extract T s.size) = false := brkAt_false s T b2 b3 b4 (fun h5 => by rw [b5 (by omega)]; omega)
  have hw : wholeAt s T = 0 := wholeAt_none s T (by
    by_cases h6 : p < 6
    · exact .inl (by omega)
    · exact .inr (.inr (by rw [b5 (by omega)]; omega)))
  rw [← hT]
  refine ⟨?_, hbr⟩
  have hlen := flat_len fs
  have hs := spl_all s ((encL lastX).take p) fs (s.size + 1) 0 hm (by omega) (by rw [List.drop_zero, h]) (by rw [Nat.zero_add, ← hT]; exact hw)
  rw [Nat.zero_add, ← hT] at hs
  exact hs
theorem split_last (s : ByteArray) (h : s = streamB 7 1 ⟨#[3, 0, 0, 0, 1]⟩) : splF s = (frC lastX, 12) ∧ brk (s.extract 12 s.size) = false := by
  have hd : s.data.toList = [lastX].flatMap encL ++ (encL lastX).take 0 := by rw [h]; simp [encL, lastX]
  have := split_sent s [lastX] 0 (by decide) (by intro x hx; simp at hx; subst hx; exact lastX_may) hd
  have e : ([lastX].flatMap encL).length = 12 := by decide +kernel
  rw [e] at this
  simpa using this

/-! The check: one byte that is another one. -/
theorem bstep_inj (a b : Nat) (ha : a < 65536) (hb : b < 65536) (h : bstep a = bstep b) : a = b := by
  have key : ∀ x, x < 65536 → (x / 2 ^^^ 40961) / 32768 = 1 := by
    intro x hx
    have h1 : (x / 2 ^^^ 40961) >>> 15 = (x / 2) >>> 15 ^^^ 40961 >>> 15 := Nat.shiftRight_xor_distrib
    rw [Nat.shiftRight_eq_div_pow, Nat.shiftRight_eq_div_pow, Nat.shiftRight_eq_div_pow] at h1
    rw [show (2 : Nat) ^ 15 = 32768 by decide] at h1
    rw [h1, show x / 2 / 32768 = 0 by omega]; rfl
  unfold bstep at h
  have ka := key a ha
  have kb := key b hb
  split at h <;> split at h
  · have h2 : a / 2 = b / 2 := by
      have := congrArg (· ^^^ 40961) h
      simp only [Nat.xor_assoc, Nat.xor_self, Nat.xor_zero] at this
      exact this
    omega
  · rw [h] at ka; omega
  · rw [← h] at kb; omega
  · omega
theorem bsteps_inj (n a b : Nat) (ha : a < 65536) (hb : b < 65536) (h : bsteps n a = bsteps n b) : a = b := by
  induction n with
  | zero => exact h
  | succ n ih => exact ih (bstep_inj _ _ (bsteps_lt n a ha) (bsteps_lt n b hb) h)
theorem xor_inj (a b c : Nat) (h : a ^^^ b = a ^^^ c) : b = c := by
  have := congrArg (a ^^^ ·) h
  simp only [← Nat.xor_assoc, Nat.xor_self, Nat.zero_xor] at this
  exact this
theorem byteStep_inj_c (c d b : Nat) (hc : c < 65536) (hd : d < 65536) (hb : b < 256) (h : byteStep c b = byteStep d b) : c = d := by
  have := bsteps_inj 8 _ _ (Nat.xor_lt_two_pow (n := 16) (by omega) (by omega)) (Nat.xor_lt_two_pow (n := 16) (by omega) (by omega)) h
  rw [Nat.xor_comm c, Nat.xor_comm d] at this
  exact xor_inj b c d this
theorem byteStep_inj_b (c b b' : Nat) (hc : c < 65536) (hb : b < 256) (hb' : b' < 256) (h : byteStep c b = byteStep c b') : b = b' :=
  xor_inj c b b' (bsteps_inj 8 _ _ (Nat.xor_lt_two_pow (n := 16) (by omega) (by omega)) (Nat.xor_lt_two_pow (n := 16) (by omega) (by omega)) h)
theorem crcFrom_inj (l : List UInt8) (c d : Nat) (hc : c < 65536) (hd : d < 65536) (h : crcFrom c l = crcFrom d l) : c = d := by
  induction l generalizing c d with
  | nil => exact h
  | cons b l ih => exact byteStep_inj_c c d b.toNat hc hd b.toNat_lt (ih _ _ (byteStep_lt c _ hc b.toNat_lt) (byteStep_lt d _ hd b.toNat_lt) h)
theorem crcFrom_set (l : List UInt8) (c p : Nat) (x : UInt8) (hc : c < 65536) (hp : p < l.length) (hx : x ≠ l[p]) : crcFrom c (l.set p x) ≠ crcFrom c l := by
  induction l generalizing c p with
  | nil => exact absurd hp (by simp)
  | cons b l ih =>
    cases p with
    | zero =>
      intro h
      have h2 := crcFrom_inj l _ _ (byteStep_lt c _ hc x.toNat_lt) (byteStep_lt c _ hc b.toNat_lt) h
      have h3 := byteStep_inj_b c _ _ hc x.toNat_lt b.toNat_lt h2
      exact hx (UInt8.toNat_inj.1 h3)
    | succ p => exact ih (byteStep c b.toNat) p (byteStep_lt c _ hc b.toNat_lt) (by simpa using hp) (by simpa using hx)
theorem crc_set (l : List UInt8) (p : Nat) (x : UInt8) (hp : p < l.length) (hx : x ≠ l[p]) : crc (l.set p x) ≠ crc l := crcFrom_set l 65535 p x (by omega) hp hx

theorem ser_list (s : ByteArray) : (s.extract 0 (s.size - 2)).data.toList = s.data.toList.take (s.size - 2) := by
  have e : (s.extract 0 (s.size - 2)).data.toList = (s.data.toList.drop 0).take (s.size - 2 - 0) := Lib.extract_data _ _ _
  rw [e, List.drop_zero, Nat.sub_zero]
theorem ser_bad (s s' : ByteArray) (p : Nat) (x : UInt8) (hp : p < s.data.toList.length) (hx : x ≠ s.data.toList[p]) (hs : serOk s) (h : s'.data.toList = s.data.toList.set p x) : ¬ serOk s' := by
  intro hs'
  have hz : s'.size = s.size := by rw [size_list, size_list, h, List.length_set]
  have h1 := hs.2.2
  have h2 := hs'.2.2
  have h4 := hs.1
  rw [ser_list] at h1 h2
  rw [hz] at h2
  have hpl : p < s.size := by rw [size_list]; exact hp
  have hb : ∀ k, k ≠ p → byt s' k = byt s k := by
    intro k hk
    rw [byt_list, byt_list, h, List.getD_eq_getElem?_getD, List.getD_eq_getElem?_getD, List.getElem?_set, if_neg (fun e => hk e.symm)]
  have hbp : byt s' p ≠ byt s p := by
    rw [byt_list, byt_list, h, List.getD_eq_getElem?_getD, List.getD_eq_getElem?_getD, List.getElem?_set, if_pos rfl, if_pos hp, List.getElem?_eq_getElem hp]
    intro e
    exact hx (UInt8.toNat_inj.1 e)
  by_cases hlt : p < s.size - 2
  · rw [h, List.take_set, hb _ (by omega), hb _ (by omega)] at h2
    refine crc_set (s.data.toList.take (s.size - 2)) p x (by rw [List.length_take]; omega) ?_ (h2.trans h1.symm)
    rw [List.getElem_take]; exact hx
  · have ht : s'.data.toList.take (s.size - 2) = s.data.toList.take (s.size - 2) := by
      rw [h, List.take_set, List.set_eq_of_length_le (by rw [List.length_take]; omega)]
    rw [ht, h1] at h2
    have l1 := byt_lt s (s.size - 2)
    have l2 := byt_lt s (s.size - 1)
    have l3 := byt_lt s' (s.size - 2)
    have l4 := byt_lt s' (s.size - 1)
    rcases (show p = s.size - 2 ∨ p = s.size - 1 by omega) with e | e
    · rw [e] at hbp; omega
    · rw [e] at hbp; omega
theorem ser_good (u : Nat) (b : ByteArray) (c : Nat) (hu : u < 256) (hb1 : 1 ≤ b.size) (hb : b.size ≤ 253) (hc : c = crc (headB u b).data.toList) : serOk (headB u b ++ tailB c) ∧ byt (headB u b ++ tailB c) 0 = u ∧ (headB u b ++ tailB c).extract 1 ((headB u b ++ tailB c).size - 2) = b := by
  have hc1 : c < 65536 := by rw [hc]; exact crc_lt _
  have hl : (headB u b ++ tailB c).data.toList = [UInt8.ofNat u] ++ b.data.toList ++ [UInt8.ofNat (c % 256), UInt8.ofNat (c / 256)] := by simp [headB, tailB]
  have hh : (headB u b).data.toList = [UInt8.ofNat u] ++ b.data.toList := by simp [headB]
  have hz : (headB u b ++ tailB c).size = b.size + 3 := by
    rw [size_list, hl, List.length_append, List.length_append, ← size_list]; simp; omega
  have hbl : b.data.toList.length = b.size := (size_list b).symm
  have hlen1 : ([UInt8.ofNat u] ++ b.data.toList).length = b.size + 1 := by rw [List.length_append, hbl]; simp; omega
  refine ⟨⟨by omega, by omega, ?_⟩, ?_, ?_⟩
  · rw [ser_list, hl, hz, show b.size + 3 - 2 = ([UInt8.ofNat u] ++ b.data.toList).length by omega, List.take_left, ← hh, ← hc]
    rw [show b.size + 3 - 1 = b.size + 2 by omega, show (headB u b).data.toList.length = b.size + 1 by rw [hh, hlen1]]
    rw [byt_list, byt_list, hl, List.getD_eq_getElem?_getD, List.getD_eq_getElem?_getD, List.getElem?_append_right (by omega), List.getElem?_append_right (by omega), hlen1]
    rw [show b.size + 1 - (b.size + 1) = 0 by omega, show b.size + 2 - (b.size + 1) = 1 by omega]
    simp; omega
  · rw [byt_list, hl]; simp; omega
  · apply ByteArray.ext
    apply Array.ext'
    have e : ((headB u b ++ tailB c).extract 1 ((headB u b ++ tailB c).size - 2)).data.toList = ((headB u b ++ tailB c).data.toList.drop 1).take ((headB u b ++ tailB c).size - 2 - 1) := Lib.extract_data _ _ _
    rw [e, hl, hz, show b.size + 3 - 2 - 1 = b.data.toList.length by omega]
    simp
end Pl
end Go.Proofs.Ytcpldcojckhapaa
