/-
  
-/
import Derived.Test.YtcpldcojckhapaaGreatJ30
import Derived.Test.YtcpldcojckhapaaGreatJ34
set_option maxRecDepth 100000
namespace Go.Proofs.YtcpldcojckhapaaGreat
theorem readyW_mem (f : Nat -> ByteArray) (sec o st : Nat) (a : Int × Int × Int × ByteArray) : a ∈ readyW f sec o st sec ↔ ∃ i, i < sec /\ Pl.byt (f (o * sec + i)) 63 = st /\ a = (0, ((o * sec + i : Nat) : Int), 0, secB 0 ⟨#[]⟩) := by
  unfold readyW
  rw [List.mem_map]
  refine ⟨fun ⟨i, hi, e⟩ => ?_, fun ⟨i, hi, hb, e⟩ => ⟨i, ?_, e.symm⟩⟩
  . obtain ⟨h1, h2⟩ := List.mem_filter.1 hi
    exact ⟨i, List.mem_range.1 h1, by simpa using h2, e.symm⟩
  . exact List.mem_filter.2 ⟨List.mem_range.2 hi, by simpa using hb⟩
theorem readyW_one (f : Nat -> ByteArray) (sec o st : Nat) : (readyW f sec o st sec).Pairwise (fun a b => a.2.1.toNat ≠ b.2.1.toNat) := by
  unfold readyW
  rw [List.pairwise_map]
  refine (List.nodup_range.filter _).imp ?_
  intro a b hab
  show (((o * sec + a : Nat) : Int)).toNat ≠ (((o * sec + b : Nat) : Int)).toNat
  omega
theorem ready_ws (f : Nat -> ByteArray) (sec lat st : Nat) (hl : lat <= 1) : (rdS f sec lat st 2).2.2 = readyW f sec (1 - lat) (st % 3 + 1) sec ++ readyW f sec lat ((st % 3 + 1) % 3 + 1) sec := by
  show ([] ++ readyW f sec ((lat + 1) % 2) (st % 3 + 1) sec) ++ readyW f sec (((lat + 1) % 2 + 1) % 2) ((st % 3 + 1) % 3 + 1) sec = _
  rw [List.nil_append, show (lat + 1) % 2 = 1 - lat by omega, show (1 - lat + 1) % 2 = lat by omega]
theorem stamp_all {f : Nat -> ByteArray} {o sec st : Nat} (h : stampC f o sec = st) (hs : st ≠ 0) : ∀ i, i < sec -> SecOk (f (o + i)) st := by
  unfold stampC at h
  split at h
  . rename_i g
    subst h
    exact g.1
  . omega
theorem Calm.ready {z sec nd lat st : Nat} {d : ByteArray} {s : Ls} (hc : Calm z sec nd lat st d s) (hs1 : 1 <= sec) (hn : 2 * sec <= nd) :
    Chk nd [] (readyA s.dk sec lat st) /\ (∀ n, n <= (readyA s.dk sec lat st).length -> ∀ c h left, Idx c h left s.least d -> MayLose z sec nd c h left (runL n [] (readyA s.dk sec lat st) s)) /\
    (runL (readyA s.dk sec lat st).length [] (readyA s.dk sec lat st) s).least = s.least /\ Calm z sec nd lat st d (runL (readyA s.dk sec lat st).length [] (readyA s.dk sec lat st) s) /\ Rdy sec (runL (readyA s.dk sec lat st).length [] (readyA s.dk sec lat st) s).dk lat st := by
  obtain ⟨hl, hst, hse, _, _, _⟩ := hc.dk.st_eq
  obtain ⟨Ws, hWs⟩ : ∃ Ws, Ws = (rdS s.dk sec lat st 2).2.2 := ⟨_, rfl⟩
  have hA : readyA s.dk sec lat st = if Ws = [] then [] else Ws ++ [(1, 0, 0, ⟨#[]⟩)] := by rw [hWs]; rfl
  have hW2 := hWs.trans (ready_ws s.dk sec lat st hl)
  have hls : lat * sec <= sec /\ (1 - lat) * sec <= sec /\ (∀ i j, i < sec -> j < sec -> lat * sec + i ≠ (1 - lat) * sec + j) := by
    rcases (show lat = 0 ∨ lat = 1 by omega) with rfl | rfl
    . exact ⟨by omega, by omega, fun i j h1 h2 => by omega⟩
    . exact ⟨by omega, by omega, fun i j h1 h2 => by omega⟩
  have hmem : ∀ a, a ∈ Ws ↔ (∃ i, i < sec /\ Pl.byt (s.dk ((1 - lat) * sec + i)) 63 = st % 3 + 1 /\ a = (0, (((1 - lat) * sec + i : Nat) : Int), 0, secB 0 ⟨#[]⟩)) ∨ (∃ i, i < sec /\ Pl.byt (s.dk (lat * sec + i)) 63 = (st % 3 + 1) % 3 + 1 /\ a = (0, ((lat * sec + i : Nat) : Int), 0, secB 0 ⟨#[]⟩)) := fun a => by
    rw [hW2, List.mem_append, readyW_mem, readyW_mem]
  have hw : WetOk nd Ws := by
    refine ⟨fun a ha => ?_, ?_⟩
    . rcases (hmem a).1 ha with ⟨i, hi, _, e⟩ | ⟨i, hi, _, e⟩
      . exact ⟨_, _, e, by omega, secB_size _ _⟩
      . exact ⟨_, _, e, by omega, secB_size _ _⟩
    . rw [hW2, List.pairwise_append]
      refine ⟨readyW_one _ _ _ _, readyW_one _ _ _ _, fun a ha b hb => ?_⟩
      obtain ⟨i, hi, _, rfl⟩ := (readyW_mem _ _ _ _ _).1 ha
      obtain ⟨j, hj, _, rfl⟩ := (readyW_mem _ _ _ _ _).1 hb
      have := hls.2.2 j i hj hi
      show (((1 - lat) * sec + i : Nat) : Int).toNat ≠ ((lat * sec + j : Nat) : Int).toNat
      omega
  have hz0 : ∀ i, i < sec -> Pl.byt (s.dk (lat * sec + i)) 63 = (st % 3 + 1) % 3 + 1 -> st = 0 := fun i hi e => by
    rcases Nat.eq_zero_or_pos st with h0 | h0
    . exact h0
    . have := (stamp_all hse.symm (by omega) i hi).2
      omega
  have hb0 : Pl.byt (secB 0 ⟨#[]⟩) 0 = 0 := by rw [secB_0]
  have hb63 : Pl.byt (secB 0 ⟨#[]⟩) 63 = 0 := by rw [secB_63]
  -- any loss keeps what is there
  have hlose : ∀ n f', Lost s.dk (Ws.take n) f' -> DkIs z sec f' lat st d := fun n f' hf => by
    have hcase : ∀ j, j < nd -> f' j = s.dk j ∨ (∃ a ∈ Ws, a.2.1.toNat = j) /\ Pl.byt (f' j) 0 = 0 := fun j hj => by
      rcases hf j with g | ⟨a, ha, e, t, ht, g⟩
      . exact .inl g
      . have ha' := List.mem_of_mem_take ha
        have hx : a.2.2.2 = secB 0 ⟨#[]⟩ := by rcases (hmem a).1 ha' with ⟨i, _, _, e⟩ | ⟨i, _, _, e⟩ <;> rw [e]
        rw [hx] at g
        rcases Nat.eq_zero_or_pos t with h0 | h0
        . left; rw [g, h0, tornB_zero (hc.size j hj)]
        . right; exact ⟨⟨a, ha', e⟩, by rw [g, tornB_0 (secB_size _ _) ht h0, hb0]⟩
    refine hc.dk.blank hs1 (fun i hi => (hcase _ (by omega)).imp id (·.2)) (fun i hi => ?_)
    rcases hcase (lat * sec + i) (by omega) with g | ⟨⟨a, ha, e⟩, g⟩
    . exact .inl g
    . right
      refine ⟨?_, g⟩
      rcases (hmem a).1 ha with ⟨j, hj, _, rfl⟩ | ⟨j, hj, hb, rfl⟩
      . have e' : (((1 - lat) * sec + j : Nat) : Int).toNat = lat * sec + i := e
        have := hls.2.2 i j hi hj
        omega
      . exact hz0 j hj hb
  rw [hA]
  by_cases he : Ws = []
  . rw [if_pos he]
    refine ⟨.nil, fun n hnl c h left hi => ?_, by simp [runL], by simpa [runL] using hc, ?_⟩
    . obtain rfl : n = 0 := by simpa using hnl
      rw [runL]
      exact hc.lose hi
    . rw [List.length_nil, runL]
      refine ⟨fun i hi e => ?_, fun i hi e => ?_⟩
      . have := (hmem _).2 (.inl ⟨i, hi, e, rfl⟩)
        rw [he] at this; simp at this
      . have := (hmem _).2 (.inr ⟨i, hi, e, rfl⟩)
        rw [he] at this; simp at this
  . rw [if_neg he]
    have hchk : Chk nd [] Ws := Chk.writes Ws hw.all
    have hrun : ∀ n, n <= Ws.length -> runL n [] (Ws ++ [(1, 0, 0, ⟨#[]⟩)]) s = { s with wet := Ws.take n } := fun n hn => by
      have := runL_le (W' := []) (A' := [(1, 0, 0, ⟨#[]⟩)]) hchk n s (by omega)
      rw [List.append_nil] at this
      rw [this, runL_writes Ws n s hw.all (by omega), hc.wet, List.nil_append]
    have hend : runL (Ws.length + 1) [] (Ws ++ [(1, 0, 0, ⟨#[]⟩)]) s = { s with dk := Ws.foldl putD s.dk, wet := [] } := by
      have := runL_add (W' := []) (A' := [(1, 0, 0, ⟨#[]⟩)]) hchk 1 s
      rw [List.append_nil] at this
      rw [this, runL_writes Ws Ws.length s hw.all (by omega), hc.wet, List.nil_append, List.take_of_length_le (by omega)]
      simp [runL, syncL]
    obtain ⟨p1, p2⟩ := put_all Ws s.dk hw.one
    have hx : ∀ a ∈ Ws, a.2.2.2 = secB 0 ⟨#[]⟩ := fun a ha => by rcases (hmem a).1 ha with ⟨i, _, _, e⟩ | ⟨i, _, _, e⟩ <;> rw [e]
    have hall : ∀ j, (∃ a ∈ Ws, a.2.1.toNat = j) /\ (Ws.foldl putD s.dk) j = secB 0 ⟨#[]⟩ ∨ (∀ a ∈ Ws, a.2.1.toNat ≠ j) /\ (Ws.foldl putD s.dk) j = s.dk j := fun j => by
      by_cases hex : ∃ a ∈ Ws, a.2.1.toNat = j
      . left
        refine ⟨hex, ?_⟩
        obtain ⟨a, ha, rfl⟩ := hex
        rw [p1 a ha, hx a ha]
      . right
        have : ∀ a ∈ Ws, a.2.1.toNat ≠ j := fun a ha e => hex ⟨a, ha, e⟩
        exact ⟨this, p2 j this⟩
    have hsz : ∀ j, j < nd -> ((Ws.foldl putD s.dk) j).size = 64 := fun j hj => by
      rcases hall j with ⟨_, e⟩ | ⟨_, e⟩
      . rw [e, secB_size]
      . rw [e]; exact hc.size j hj
    have hfin : DkIs z sec (Ws.foldl putD s.dk) lat st d := by
      refine hlose Ws.length _ fun j => ?_
      rcases hall j with ⟨⟨a, ha, e⟩, e2⟩ | ⟨_, e⟩
      . by_cases hj : j < nd
        . right
          refine ⟨a, by rw [List.take_of_length_le (Nat.le_refl _)]; exact ha, e, 64, Nat.le_refl _, ?_⟩
          rw [e2, hx a ha, tornB_full (secB_size _ _) (hc.size j hj)]
        . obtain ⟨q, x, rfl, hq, _⟩ := hw.all a ha
          have e' : ((q : Nat) : Int).toNat = j := e
          omega
      . exact .inl e
    rw [List.length_append, List.length_singleton, hend]
    refine ⟨by have := Chk.append hchk (Chk.sync (Chk.nil (nd := nd))); simpa using this, fun n hnl c h left hi => ?_, rfl, ⟨hsz, rfl, hfin⟩, ?_, ?_⟩
    . rcases (show n <= Ws.length ∨ n = Ws.length + 1 by omega) with hn' | rfl
      . rw [hrun n hn']
        exact ⟨hc.size, hw.take n, fun f' hf => ⟨lat, st, d, hlose n f' hf, hi⟩⟩
      . rw [hend]
        exact Calm.lose (lat := lat) (st := st) (d := d) ⟨hsz, rfl, hfin⟩ hi
    . intro i hi
      show Pl.byt ((Ws.foldl putD s.dk) ((1 - lat) * sec + i)) 63 ≠ _
      rcases hall ((1 - lat) * sec + i) with ⟨_, e⟩ | ⟨hno, e⟩
      . rw [e, hb63]; omega
      . rw [e]
        intro e2
        exact hno _ ((hmem _).2 (.inl ⟨i, hi, e2, rfl⟩)) rfl
    . intro i hi
      show Pl.byt ((Ws.foldl putD s.dk) (lat * sec + i)) 63 ≠ _
      rcases hall (lat * sec + i) with ⟨_, e⟩ | ⟨hno, e⟩
      . rw [e, hb63]; omega
      . rw [e]
        intro e2
        exact hno _ ((hmem _).2 (.inr ⟨i, hi, e2, rfl⟩)) rfl
theorem byt_append_left (x y : ByteArray) (k : Nat) (h : k < x.size) : Pl.byt (x ++ y) k = Pl.byt x k := by
  rw [byt_listQ, ByteArray.data_append, Array.toList_append, List.getD_eq_getElem?_getD, List.getElem?_append_left (by rw [Array.length_toList]; exact h), <- List.getD_eq_getElem?_getD, <- byt_listQ]
theorem byt_append_right (x y : ByteArray) (k : Nat) : Pl.byt (x ++ y) (x.size + k) = Pl.byt y k := by
  have hl : x.data.toList.length = x.size := Array.length_toList
  rw [byt_listQ, ByteArray.data_append, Array.toList_append, List.getD_eq_getElem?_getD, List.getElem?_append_right (by omega), hl, Nat.add_sub_cancel_left, <- List.getD_eq_getElem?_getD, <- byt_listQ]
theorem keptL_congr {f g : Nat -> Nat -> Int} {c h : Nat} (h0 : ∀ k, k < c -> f 0 k = g 0 k) (h2 : ∀ k, k < h -> f 2 k = g 2 k) : keptL f c h = keptL g c h := by
  unfold keptL
  rw [List.map_congr_left fun k hk => h0 k (List.mem_range.1 hk), List.map_congr_left fun k hk => h2 k (List.mem_range.1 hk)]
theorem keptL_keptB {f : Nat -> Nat -> Int} (he : EntOk f) (c h : Nat) : keptL (entC c h (keptB f c h)) c h = keptL f c h := by
  refine keptL_congr (fun k hk => ?_) (fun k hk => ?_)
  . have hb : ∀ i, (fun j => (f 0 j).toNat) i < 2 := fun i => by have := he 0 i; have := this.2.2 (by omega); simp only; omega
    have e : Pl.bit (keptB f c h) 0 k = (f 0 k).toNat := by
      unfold Pl.bit keptB
      rw [Nat.zero_add, byt_append_left _ _ _ (by rw [Pl.packB_size]; omega), Pl.packB_byt _ hb _ _ _ (by omega)]
      exact Pl.pkd_bit _ hb c k hk
    unfold entC
    rw [if_pos rfl, if_pos hk, e]
    have := (he 0 k).1
    omega
  . have h16 : ∀ x ∈ (List.range h).map (fun j => (f 2 j).toNat), x < 65536 := fun x hx => by
      obtain ⟨i, _, rfl⟩ := List.mem_map.1 hx
      have := he 2 i
      omega
    have e : Pl.wd (keptB f c h) ((c + 7) / 8 + 2 * k) = (f 2 k).toNat := by
      have hw := wd_wordsB _ h16 k (by simpa using hk)
      have hp := Pl.packB_size (fun j => (f 0 j).toNat) c ((c + 7) / 8)
      have e1 : Pl.byt (keptB f c h) ((c + 7) / 8 + 2 * k) = Pl.byt (wordsB ((List.range h).map fun j => (f 2 j).toNat)) (2 * k) := by
        have := byt_append_right (Pl.packB (fun j => (f 0 j).toNat) c ((c + 7) / 8)) (wordsB ((List.range h).map fun j => (f 2 j).toNat)) (2 * k)
        rw [hp] at this
        exact this
      have e2 : Pl.byt (keptB f c h) ((c + 7) / 8 + 2 * k + 1) = Pl.byt (wordsB ((List.range h).map fun j => (f 2 j).toNat)) (2 * k + 1) := by
        have := byt_append_right (Pl.packB (fun j => (f 0 j).toNat) c ((c + 7) / 8)) (wordsB ((List.range h).map fun j => (f 2 j).toNat)) (2 * k + 1)
        rw [hp] at this
        exact this
      unfold Pl.wd at hw ⊢
      rw [e1, e2, hw, List.getD_eq_getElem?_getD, List.getElem?_map, List.getElem?_range hk]
      rfl
    unfold entC
    rw [if_neg (by decide), if_pos rfl, if_pos hk, e]
    have := (he 2 k).1
    omega
theorem keptL_doE {D : Dev} {s : ByteArray} {x : Pl.Shp} {k : Nat} (hs : Pl.ShpIs s x k) (hb : doB D x k = false) : keptL (doE D x k) (D.kp 0) (D.kp 2) = keptL D.ent (D.kp 0) (D.kp 2) := by
  unfold doE
  split
  . rename_i h0
    rcases shp_ok hs with ⟨_, ho⟩ | ⟨hk, _⟩
    . unfold doB at hb
      rw [decide_eq_true h0, Bool.true_and, Bool.and_eq_false_iff, decide_eq_false_iff_not, decide_eq_false_iff_not] at hb
      rw [<- entQ_many D x ho]
      have key : ∀ i j, j < D.kp i -> entQ D x x.many i j = D.ent i j := fun i j hj => by
        unfold entQ
        rw [if_neg]
        rintro ⟨rfl, h1, h2⟩
        omega
      exact keptL_congr (fun j hj => key 0 j hj) (fun j hj => key 2 j hj)
    . unfold doX at h0
      rw [if_pos (by omega)] at h0
      omega
  . rfl
structure Sim (z sec nd : Nat) (D : Dev) (s : Ls) (left : List (List Int)) (safe : Nat) (d : ByteArray) : Prop where
  fl : FlOk D
  top : ∀ y ∈ D.wait, 0 <= y.1 /\ y.1 <= (D.arr : Int)
  cm : Calm z sec nd D.lat D.stamp d s
  rd : Rdy sec s.dk D.lat D.stamp
  ll : left.length = D.arr + 1
  la : left[D.arr]? = some (keptL D.ent (D.kp 0) (D.kp 2))
  ix : ∃ j, s.least <= j /\ safe <= j /\ left[j]? = some (keptL (entC (D.kp 0) (D.kp 2) d) (D.kp 0) (D.kp 2))
  u0 : D.uns = 0 -> keptL (entC (D.kp 0) (D.kp 2) d) (D.kp 0) (D.kp 2) = keptL D.ent (D.kp 0) (D.kp 2)
  le : s.least <= D.arr
  sf : safe <= D.arr
  hz : z = (D.kp 0 + 7) / 8 + 2 * D.kp 2
  hs : sec = D.sec
  hn : 2 * sec <= nd
section
variable {z sec nd : Nat} {D : Dev} {s : Ls} {left : List (List Int)} {safe : Nat} {d : ByteArray}
theorem Sim.idx (h : Sim z sec nd D s left safe d) : Idx (D.kp 0) (D.kp 2) left s.least d := by
  obtain ⟨j, h1, _, h2⟩ := h.ix
  exact ⟨j, h1, h2⟩
theorem Sim.lose (h : Sim z sec nd D s left safe d) : MayLose z sec nd (D.kp 0) (D.kp 2) left s := h.cm.lose h.idx
theorem Sim.sec1 (h : Sim z sec nd D s left safe d) : 1 <= sec /\ z <= 62 * sec := by
  have := h.fl.sec
  have := h.hs
  have := h.hz
  omega
theorem Sim.flush0 (h : Sim z sec nd D s left safe d) (hu : D.uns = 0) : Sim z sec nd D s left D.arr d := ⟨h.fl, h.top, h.cm, h.rd, h.ll, h.la, ⟨D.arr, h.le, Nat.le_refl _, by rw [h.u0 hu]; exact h.la⟩, h.u0, h.le, Nat.le_refl _, h.hz, h.hs, h.hn⟩
theorem Sim.flush (h : Sim z sec nd D s left safe d) (hu : D.uns ≠ 0) :
    Chk nd D.wait (flushP D).2 /\ (∀ n, n <= (flushP D).2.length -> MayLose z sec nd (D.kp 0) (D.kp 2) left (runL n D.wait (flushP D).2 s)) /\ Sim z sec nd (flushP D).1 (runL (flushP D).2.length D.wait (flushP D).2 s) left D.arr (keptB D.ent (D.kp 0) (D.kp 2)) := by
  have hl := h.fl.lat
  have e : flushP D = ({ D with lat := 1 - D.lat, stamp := D.stamp % 3 + 1, uns := 0, wait := [] }, saveA sec (1 - D.lat) (D.stamp % 3 + 1) (keptB D.ent (D.kp 0) (D.kp 2)) ++ D.wait.map sendOf) := by
    unfold flushP; rw [if_neg hu, show (D.lat + 1) % 2 = 1 - D.lat by omega, h.hs]
  rw [e]
  obtain ⟨h1, hzs⟩ := h.sec1
  have hkz := keptB_size D.ent (D.kp 0) (D.kp 2)
  have hkk := keptL_keptB h.fl.ent (D.kp 0) (D.kp 2)
  have hix : ∀ k, k <= D.arr -> Idx (D.kp 0) (D.kp 2) left k (keptB D.ent (D.kp 0) (D.kp 2)) := fun k hk => ⟨D.arr, hk, by rw [hkk]; exact h.la⟩
  obtain ⟨g1, g2, g3, g4⟩ := h.cm.save h.rd h1 h.hn (by rw [hkz, h.hz]) hzs h.idx (hix _ h.le)
  obtain ⟨A, hA⟩ : ∃ A, A = saveA sec (1 - D.lat) (D.stamp % 3 + 1) (keptB D.ent (D.kp 0) (D.kp 2)) := ⟨_, rfl⟩
  rw [<- hA] at g1 g2 g3 g4
  have hcA : Chk nd [] A := by
    have hw := saveW_ok sec nd (1 - D.lat) (D.stamp % 3 + 1) (keptB D.ent (D.kp 0) (D.kp 2)) (by omega) h.hn
    rw [hA]
    have := (Chk.writes _ hw.all).append (Chk.sync (Chk.nil (nd := nd)))
    rw [List.append_nil] at this
    exact this
  have hcS := Chk.sends (nd := nd) D.wait
  show Chk nd D.wait (saveA sec (1 - D.lat) (D.stamp % 3 + 1) (keptB D.ent (D.kp 0) (D.kp 2)) ++ D.wait.map sendOf) /\ (∀ n, n <= (saveA sec (1 - D.lat) (D.stamp % 3 + 1) (keptB D.ent (D.kp 0) (D.kp 2)) ++ D.wait.map sendOf).length -> MayLose z sec nd (D.kp 0) (D.kp 2) left (runL n D.wait (saveA sec (1 - D.lat) (D.stamp % 3 + 1) (keptB D.ent (D.kp 0) (D.kp 2)) ++ D.wait.map sendOf) s)) /\ Sim z sec nd { D with lat := 1 - D.lat, stamp := D.stamp % 3 + 1, uns := 0, wait := [] } (runL (saveA sec (1 - D.lat) (D.stamp % 3 + 1) (keptB D.ent (D.kp 0) (D.kp 2)) ++ D.wait.map sendOf).length D.wait (saveA sec (1 - D.lat) (D.stamp % 3 + 1) (keptB D.ent (D.kp 0) (D.kp 2)) ++ D.wait.map sendOf) s) left D.arr (keptB D.ent (D.kp 0) (D.kp 2))
  rw [<- hA]
  have hend : ∀ m, m <= D.wait.length -> ∃ k, runL (A.length + m) D.wait (A ++ D.wait.map sendOf) s = { runL A.length [] A s with least := k } /\ k <= D.arr := fun m _ => by
    have := runL_add (W' := D.wait) (A' := D.wait.map sendOf) hcA m s
    rw [List.nil_append] at this
    rw [this]
    obtain ⟨k, k1, _, k3⟩ := runL_sends D.wait m (runL A.length [] A s)
    exact ⟨k, k1, k3 D.arr (by rw [g2]; exact h.le) (fun y hy => (h.top y hy).2)⟩
  refine ⟨by have := hcA.append hcS; simpa using this, fun n hn => ?_, ?_⟩
  . rcases Nat.lt_or_ge A.length n with hlt | hle
    . rw [List.length_append, List.length_map] at hn
      obtain ⟨k, k1, k2⟩ := hend (n - A.length) (by omega)
      rw [show A.length + (n - A.length) = n by omega] at k1
      rw [k1]
      exact Calm.lose (lat := 1 - D.lat) (st := D.stamp % 3 + 1) (d := keptB D.ent (D.kp 0) (D.kp 2)) ⟨g3.size, g3.wet, g3.dk⟩ (hix k k2)
    . have := runL_le (W' := D.wait) (A' := D.wait.map sendOf) hcA n s hle
      rw [List.nil_append] at this
      rw [this]
      exact g1 n hle
  . obtain ⟨k, k1, k2⟩ := hend D.wait.length (Nat.le_refl _)
    rw [List.length_append, List.length_map, k1]
    exact ⟨⟨h.fl.sz, h.fl.ent, h.fl.kp0, h.fl.kp2, by show 1 - D.lat <= 1; omega, by show D.stamp % 3 + 1 <= 3; omega, h.fl.sec, by simp, Nat.le_refl _, .nil⟩, by simp, ⟨g3.size, g3.wet, g3.dk⟩, g4, h.ll, h.la, ⟨D.arr, k2, Nat.le_refl _, by show _ = some (keptL _ _ _); rw [hkk]; exact h.la⟩, fun _ => hkk, k2, Nat.le_refl _, h.hz, h.hs, h.hn⟩
theorem Sim.take (h : Sim z sec nd D s left safe d) (hok : DevOk D) (i m u : Nat) (b : ByteArray) :
    Chk nd (takeW D i m u b) (takeP D i m u b).2 /\ (∀ n, n <= (takeP D i m u b).2.length -> MayLose z sec nd (D.kp 0) (D.kp 2) (takeL D u b left) (runL n (takeW D i m u b) (takeP D i m u b).2 s)) /\ ∃ d', Sim z sec nd (takeP D i m u b).1 (runL (takeP D i m u b).2.length (takeW D i m u b) (takeP D i m u b).2 s) (takeL D u b left) (takeS D u b (D.arr + 1) safe) d' := by
  have hnew := takeP_ok hok i m u b
  unfold takeP takeW takeL takeS at *
  by_cases hu : u = D.unit
  . have hu' : ¬ u ≠ D.unit := fun g => g hu
    rw [if_neg hu'] at hnew
    rw [if_neg hu', if_neg hu', if_neg hu', if_neg hu']
    have hla : (left ++ [keptL (midP D b).ent (D.kp 0) (D.kp 2)])[D.arr + 1]? = some (keptL (midP D b).ent (D.kp 0) (D.kp 2)) := by rw [List.getElem?_append_right (by rw [h.ll]; exact Nat.le_refl _), h.ll]; simp
    have hll : (left ++ [keptL (midP D b).ent (D.kp 0) (D.kp 2)]).length = D.arr + 1 + 1 := by rw [List.length_append, h.ll]; rfl
    have hle := h.le
    have hsf := h.sf
    by_cases h0 : (midP D b).uns = 0
    . have hT : takeF D b := .inl h0
      rw [if_pos h0] at hnew
      rw [if_pos h0, if_pos h0, if_pos hT]
      have hd0 : doB D (shpOf b).1 (shpOf b).2 = false /\ D.uns = 0 := by
        have h0' : (if doB D (shpOf b).1 (shpOf b).2 = true then D.uns + 1 else D.uns) = 0 := h0
        cases hb : doB D (shpOf b).1 (shpOf b).2
        . rw [hb] at h0'; exact ⟨rfl, h0'⟩
        . rw [hb] at h0'; simp at h0'
      have hke : keptL (midP D b).ent (D.kp 0) (D.kp 2) = keptL D.ent (D.kp 0) (D.kp 2) := keptL_doE (shpOf_is b) hd0.1
      have hkd := h.u0 hd0.2
      have hrun : runL 1 [ansP D i m b] [sendOf (ansP D i m b)] s = { s with least := max s.least (D.arr + 1) } := by
        have e0 : (sendOf (ansP D i m b)).1 = 2 := rfl
        rw [runL, if_neg (by rw [e0]; decide), if_neg (by rw [e0]; decide), runL]
        rfl
      have hmx : max s.least (D.arr + 1) = D.arr + 1 := by omega
      refine ⟨Chk.sends _, fun n hn => ?_, d, ?_⟩
      . rcases (show n = 0 ∨ n = 1 by have : n <= 1 := hn; omega) with rfl | rfl
        . rw [runL]
          exact h.lose.more _
        . rw [hrun]
          exact Calm.lose (lat := D.lat) (st := D.stamp) (d := d) ⟨h.cm.size, h.cm.wet, h.cm.dk⟩ ⟨D.arr + 1, by show max s.least (D.arr + 1) <= _; omega, by rw [hla, hke, hkd]⟩
      . show Sim z sec nd (midP D b) (runL 1 _ _ s) _ _ d
        rw [hrun]
        exact ⟨hnew.fl, fun y hy => ⟨(h.top y hy).1, hnew.top y hy⟩, ⟨h.cm.size, h.cm.wet, h.cm.dk⟩, h.rd, hll, hla, ⟨D.arr + 1, by show max s.least (D.arr + 1) <= _; omega, Nat.le_refl _, by show _ = some (keptL (entC (D.kp 0) (D.kp 2) d) (D.kp 0) (D.kp 2)); rw [hla, hke, hkd]⟩, fun _ => by show keptL (entC (D.kp 0) (D.kp 2) d) (D.kp 0) (D.kp 2) = keptL (midP D b).ent (D.kp 0) (D.kp 2); rw [hke, hkd], by show max s.least (D.arr + 1) <= D.arr + 1; omega, Nat.le_refl _, h.hz, h.hs, h.hn⟩
    . have hFO := mid_fl (i := i) (m := m) hok (show 0 < (midP D b).uns by omega)
      have htop : ∀ y ∈ D.wait ++ [ansP D i m b], 0 <= y.1 /\ y.1 <= ((D.arr + 1 : Nat) : Int) := fun y hy => by
        rcases List.mem_append.1 hy with hy | hy
        . have := h.top y hy; omega
        . rw [List.mem_singleton.1 hy]; exact ⟨Int.natCast_nonneg _, Int.le_refl _⟩
      obtain ⟨j, j1, j2, j3⟩ := h.ix
      have hS : Sim z sec nd { midP D b with wait := D.wait ++ [ansP D i m b] } s (left ++ [keptL (midP D b).ent (D.kp 0) (D.kp 2)]) safe d :=
        ⟨hFO, htop, h.cm, h.rd, hll, hla, ⟨j, j1, j2, by rw [List.getElem?_append_left (List.getElem?_eq_some_iff.1 j3).1]; exact j3⟩, fun e => absurd e h0, by show s.least <= D.arr + 1; omega, by show safe <= D.arr + 1; omega, h.hz, h.hs, h.hn⟩
      rw [if_neg h0] at hnew
      rw [if_neg h0, if_neg h0]
      by_cases hbt : D.batch <= D.wait.length + 1
      . have hT : takeF D b := .inr hbt
        rw [if_pos hbt, if_pos hbt, if_pos hT]
        obtain ⟨k1, k2, k3⟩ := hS.flush h0
        exact ⟨k1, k2, _, k3⟩
      . have hT : ¬ takeF D b := fun g => g.elim h0 hbt
        rw [if_neg hbt, if_neg hbt, if_neg hT]
        refine ⟨.nil, fun n hn => ?_, d, ?_⟩
        . obtain rfl : n = 0 := by simpa using hn
          rw [runL]
          exact h.lose.more _
        . rw [List.length_nil, runL]
          exact hS
  . rw [if_pos hu, if_pos hu, if_pos hu, if_pos hu]
    refine ⟨.nil, fun n hn => ?_, d, ?_⟩
    . obtain rfl : n = 0 := by simpa using hn
      rw [runL]
      exact h.lose
    . rw [List.length_nil, runL]
      exact h
end
noncomputable def refsP (D : Dev) (i : Nat) (left : List (List Int)) (safe : Nat) (fs : List (Nat × Nat × ByteArray)) : Dev × List (Int × Int × ByteArray) × List (List Int) × Nat :=
  fs.foldl (fun st f => ((takeP st.1 i f.1 f.2.1 f.2.2).1, st.2.1 ++ takeW st.1 i f.1 f.2.1 f.2.2, takeL st.1 f.2.1 f.2.2 st.2.2.1, takeS st.1 f.2.1 f.2.2 (st.1.arr + 1) st.2.2.2)) (D, [], left, safe)
theorem refsP_snoc (D : Dev) (i : Nat) (left : List (List Int)) (safe : Nat) (fs : List (Nat × Nat × ByteArray)) (f : Nat × Nat × ByteArray) : refsP D i left safe (fs ++ [f]) = ((takeP (refsP D i left safe fs).1 i f.1 f.2.1 f.2.2).1, (refsP D i left safe fs).2.1 ++ takeW (refsP D i left safe fs).1 i f.1 f.2.1 f.2.2, takeL (refsP D i left safe fs).1 f.2.1 f.2.2 (refsP D i left safe fs).2.2.1, takeS (refsP D i left safe fs).1 f.2.1 f.2.2 ((refsP D i left safe fs).1.arr + 1) (refsP D i left safe fs).2.2.2) := by
  unfold refsP; rw [List.foldl_append]; rfl
theorem takeL_pre (D : Dev) (u : Nat) (b : ByteArray) (left : List (List Int)) : ∃ l, takeL D u b left = left ++ l := by
  unfold takeL
  split
  . exact ⟨[], (List.append_nil _).symm⟩
  . exact ⟨_, rfl⟩
theorem takes_sim {z sec nd : Nat} {D : Dev} {s : Ls} {left : List (List Int)} {safe : Nat} {d : ByteArray} (h : Sim z sec nd D s left safe d) (hok : DevOk D) (i : Nat) : ∀ (r fs : List (Nat × Nat × ByteArray)), fs = r.reverse ->
    (refsP D i left safe fs).1 = (takesP D i fs).1 /\ DevOk (takesP D i fs).1 /\ (takesP D i fs).1.kp = D.kp /\ Chk nd (refsP D i left safe fs).2.1 (takesP D i fs).2 /\ (∀ n, n <= (takesP D i fs).2.length -> MayLose z sec nd (D.kp 0) (D.kp 2) (refsP D i left safe fs).2.2.1 (runL n (refsP D i left safe fs).2.1 (takesP D i fs).2 s)) /\ ∃ d', Sim z sec nd (takesP D i fs).1 (runL (takesP D i fs).2.length (refsP D i left safe fs).2.1 (takesP D i fs).2 s) (refsP D i left safe fs).2.2.1 (refsP D i left safe fs).2.2.2 d' := by
  intro r
  induction r with
  | nil =>
    rintro fs rfl
    refine ⟨rfl, hok, rfl, .nil, fun n hn => ?_, d, h⟩
    obtain rfl : n = 0 := by simpa [takesP] using hn
    exact h.lose
  | cons f r ih =>
    rintro fs rfl
    rw [List.reverse_cons]
    obtain ⟨h1, h2, h3, h4, h5, d1, h6⟩ := ih r.reverse rfl
    obtain ⟨R, hR⟩ : ∃ R, R = refsP D i left safe r.reverse := ⟨_, rfl⟩
    obtain ⟨T, hT⟩ : ∃ T, T = takesP D i r.reverse := ⟨_, rfl⟩
    rw [refsP_snoc, takesP_snoc]
    rw [<- hR, <- hT] at h1 h4 h5 h6 ⊢
    rw [<- hT] at h2 h3
    rw [h1]
    obtain ⟨g1, g2, d2, g3⟩ := h6.take h2 i f.1 f.2.1 f.2.2
    obtain ⟨l, hl⟩ := takeL_pre T.1 f.2.1 f.2.2 R.2.2.1
    refine ⟨rfl, takeP_ok h2 i f.1 f.2.1 f.2.2, ?_, h4.append g1, fun n hn => ?_, d2, ?_⟩
    . show (takeP T.1 i f.1 f.2.1 f.2.2).1.kp = D.kp
      rw [(takeP_same T.1 i f.1 f.2.1 f.2.2).1.kp, h3]
    . show MayLose z sec nd (D.kp 0) (D.kp 2) (takeL T.1 f.2.1 f.2.2 R.2.2.1) (runL n (R.2.1 ++ takeW T.1 i f.1 f.2.1 f.2.2) (T.2 ++ (takeP T.1 i f.1 f.2.1 f.2.2).2) s)
      rcases Nat.lt_or_ge T.2.length n with hlt | hle
      . have hn' : n <= T.2.length + (takeP T.1 i f.1 f.2.1 f.2.2).2.length := by have : n <= (T.2 ++ (takeP T.1 i f.1 f.2.1 f.2.2).2).length := hn; rwa [List.length_append] at this
        have := runL_add (W' := takeW T.1 i f.1 f.2.1 f.2.2) (A' := (takeP T.1 i f.1 f.2.1 f.2.2).2) h4 (n - T.2.length) s
        rw [show T.2.length + (n - T.2.length) = n by omega] at this
        rw [this, <- h3]
        exact g2 _ (by omega)
      . rw [runL_le h4 n s hle, hl]
        exact (h5 n hle).more l
    . show Sim z sec nd (takeP T.1 i f.1 f.2.1 f.2.2).1 (runL (T.2 ++ (takeP T.1 i f.1 f.2.1 f.2.2).2).length (R.2.1 ++ takeW T.1 i f.1 f.2.1 f.2.2) (T.2 ++ (takeP T.1 i f.1 f.2.1 f.2.2).2) s) (takeL T.1 f.2.1 f.2.2 R.2.2.1) (takeS T.1 f.2.1 f.2.2 (T.1.arr + 1) R.2.2.2) d2
      rw [List.length_append, runL_add h4]
      exact g3
end Go.Proofs.YtcpldcojckhapaaGreat
