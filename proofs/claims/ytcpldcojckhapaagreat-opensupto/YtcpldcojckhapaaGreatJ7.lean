/-
  
-/
import Derived.Test.YtcpldcojckhapaaGreatJ6
import Derived.Shelf.Strings.Repeat
import Derived.Test.YtcpldcojckhapaaGreatRows
import Derived.Laws.CopyOwn
import Derived.Deep.RegionHeld3
import Derived.Test.YtcpldcojckhapaaGreatBV
import Derived.WalkKit
import Derived.WalkSpells
import Derived.WalkLawsBesides
import Derived.Lib.BufferWrite
import Derived.Lib.UnsafeStr
import Derived.Laws.MakeOwn
import Derived.Below
set_option maxRecDepth 100000
namespace Go.Proofs.YtcpldcojckhapaaGreat
open Go.RowKit
structure Ln where
  kind : Nat
  bytes : ByteArray
  broken : Bool
def lnc (l : Ln) (j : Nat) : Value := if j = 0 then .int .i64 (l.kind : Nat) else if j = 1 then .string l.bytes else .bool l.broken
structure Dev where
  unit : Nat
  batch : Nat
  nl : Nat
  ln : Nat -> Ln
  sz : Nat -> Nat
  ent : Nat -> Nat -> Int
  kp : Nat -> Nat
  sec : Nat
  lat : Nat
  stamp : Nat
  arr : Nat
  uns : Nat
  wait : List (Int × Int × ByteArray)
  base : Nat
def devC (D : Dev) (L S : Nat) (E : Nat -> Nat) (wv : Value) : Array Value :=
  #[.int .i64 (D.unit : Nat), .int .i64 (D.batch : Nat), .slice (some ⟨L, 0, none⟩) D.nl D.nl,
    .slice (some ⟨E 0, 0, none⟩) (D.sz 0) (D.sz 0), .slice (some ⟨E 1, 0, none⟩) (D.sz 1) (D.sz 1), .slice (some ⟨E 2, 0, none⟩) (D.sz 2) (D.sz 2), .slice (some ⟨E 3, 0, none⟩) (D.sz 3) (D.sz 3),
    .int .i64 (D.kp 0 : Nat), .int .i64 (D.kp 1 : Nat), .int .i64 (D.kp 2 : Nat), .int .i64 (D.kp 3 : Nat),
    .pointer (some ⟨S, 0, none⟩), .int .i64 (D.arr : Nat), .int .i64 (D.uns : Nat), wv]
structure DevIn (w : World) (d L S : Nat) (E : Nat -> Nat) (wv : Value) (D : Dev) : Prop where
  dev : w.heap[d]? = some (.cells (devC D L S E wv) 110 (0, 0))
  lines : Grid w L 116 D.nl 3 (fun i j => lnc (D.ln i) j)
  ent : ∀ i, i < 4 -> Grid w (E i) 3 (D.sz i) 1 (fun k _ => .int .i64 (D.ent i k))
  inj : ∀ i j, i < 4 -> j < 4 -> i ≠ j -> E i ≠ E j
  store : w.heap[S]? = some (.cells #[.int .i64 (D.sec : Nat), .int .i64 (D.lat : Nat), .int .u8 (D.stamp : Nat)] 155 (0, 0))
  wait : w.ownsRow D.base 163 3 wv D.wait.length (D.wait.flatMap encF)
  lo : D.base <= d /\ D.base <= L /\ D.base <= S /\ ∀ i, i < 4 -> D.base <= E i
def DevAt (w : World) (d : Nat) (D : Dev) : Prop := ∃ L S E wv, DevIn w d L S E wv D
structure Chg1 (g : Nat) (w w' : World) : Prop where
  os : w'.os = w.os
  tape : w'.tape = w.tape
  output : w'.output = w.output
  size : w.heap.size <= w'.heap.size
  block : ∀ k, k < w.heap.size -> k ≠ g -> w'.heap[k]? = w.heap[k]?
section
variable {g : Nat} {w w' w2 : World}
theorem Chg1.refl (g : Nat) (w : World) : Chg1 g w w := ⟨rfl, rfl, rfl, Nat.le_refl _, fun _ _ _ => rfl⟩
theorem Chg1.of_below (g : Nat) (h : Below w.heap.size w w') : Chg1 g w w' := ⟨h.os, h.tape, h.output, h.size, fun k hk _ => h.block k hk⟩
theorem Chg1.trans (h : Chg1 g w w') (h' : Chg1 g w' w2) : Chg1 g w w2 :=
  ⟨h'.os.trans h.os, h'.tape.trans h.tape, h'.output.trans h.output, Nat.le_trans h.size h'.size, fun k hk hg => (h'.block k (Nat.lt_of_lt_of_le hk h.size) hg).trans (h.block k hk hg)⟩
theorem Chg1.then_below (h : Chg1 g w w') (h' : Below w'.heap.size w' w2) : Chg1 g w w2 := h.trans (Chg1.of_below g h')
theorem Chg1.setCell (h : Chg1 g w w') (k : Nat) (v : Value) : Chg1 g w (w'.setCell ⟨g, k, none⟩ v) :=
  h.trans ⟨rfl, rfl, rfl, by simp, fun k' _ hg => heap_setCell_other w' _ _ v (by simpa using hg)⟩
theorem Chg1.alloc (h : Chg1 g w w') (o : Obj) : Chg1 g w (w'.alloc o) := h.then_below (bel_alloc (Below.refl _ _) _)
theorem Chg1.drewN (h : Chg1 g w w') (k : Nat) : Chg1 g w (w'.drewN k) := h.then_below (below_drewN (Below.refl _ _) _)
end
def devT (d L S : Nat) (E : Nat -> Nat) (g : Nat) (t : TypeId) : Bool := (t == 110 && g == d) || (t == 116 && g == L) || (t == 155 && g == S) || (t == 3 && (g == E 0 || g == E 1 || g == E 2 || g == E 3)) || t == 163
theorem devT_d (d L S : Nat) (E : Nat -> Nat) : devT d L S E d 110 = true := by simp [devT]
theorem devT_L (d L S : Nat) (E : Nat -> Nat) : devT d L S E L 116 = true := by simp [devT]
theorem devT_S (d L S : Nat) (E : Nat -> Nat) : devT d L S E S 155 = true := by simp [devT]
theorem devT_E (d L S : Nat) (E : Nat -> Nat) (j : Nat) (h : j < 4) : devT d L S E (E j) 3 = true := by
  rcases (show j = 0 ∨ j = 1 ∨ j = 2 ∨ j = 3 by omega) with rfl | rfl | rfl | rfl <;> simp [devT]
end Go.Proofs.YtcpldcojckhapaaGreat

set_option maxRecDepth 100000
namespace Go.Proofs.YtcpldcojckhapaaGreat
open Go.RowKit
set_option maxRecDepth 100000 in
set_option maxHeartbeats 1000000 in
theorem fits_at (n m g k : Nat) (S : Nat -> ByteArray) (w : World) (h1 : m <= n) (h2 : n <= 64) (hc : ∀ j, j < n -> w.cell? ⟨g, j, none⟩ = some (.string (S j))) (hs : ∀ j, j < n -> (S j).size = 64) :
    Calls Tryz.prog 61 #[.slice (some ⟨g, 0, none⟩) n k, .int .i64 (m : Nat)] w fun e w' => e = .returned (.bool true) /\ w' = w := by
  have HC := hideF hc
  have HS := hideF hs
  clear hc hs
  go_enter Tryz.func61, Tryz.ntmps61
  go_wp2_with fail
  refine (within_at _ _ 64 true ?_ _).mono ?_
  . simp; omega
  rintro e w1 ⟨rfl, rfl⟩
  go_wp2_with fail
  go_loopw [14] (fun i wr => ∃ q : Nat, q <= n /\ i = .int .i64 (q : Nat) /\ w1 = wr) (fun i _ => n - (intOf i).toNat)
  case atStart => exact ⟨0, by omega, rfl, rfl⟩
  case round =>
    obtain ⟨q, hq, rfl, rfl⟩ := hrel
    by_cases hqn : q < n
    . have hcq := HC.out q hqn
      have hsq : ((S q).size : Int) = 64 := by have := HS.out q hqn; omega
      go_wp2_with fail
      go_roundw
      case rel => exact ⟨q + 1, by omega, by go_num, trivial⟩
      case measure => simp [intOf]; omega
    . go_wp2
      go_ret
      exact ⟨rfl, rfl⟩
end Go.Proofs.YtcpldcojckhapaaGreat

set_option maxRecDepth 100000
namespace Go.Proofs.YtcpldcojckhapaaGreat
open Go.RowKit
end Go.Proofs.YtcpldcojckhapaaGreat

set_option maxRecDepth 100000
namespace Go.Proofs.YtcpldcojckhapaaGreat
open Go.Shelf
def layRep_ren : Go.Shelf.Ren := ⟨fun | 105 => 93 | 212 => 121 | 99 => 122 | 165 => 123 | 166 => 124 | 170 => 125 | 169 => 126 | 263 => 148 | 264 => 149 | 206 => 150 | 240 => 151 | 241 => 152 | 276 => 170 | 277 => 171 | n => n, fun | 9 => 9 | 3 => 3 | 4 => 4 | 20 => 20 | 0 => 0 | 46 => 128 | 109 => 198 | 5 => 5 | 72 => 203 | 76 => 207 | 51 => 225 | 146 => 226 | 53 => 228 | 148 => 229 | 70 => 201 | 37 => 114 | 75 => 206 | 127 => 217 | 164 => 248 | 80 => 120 | n => n, fun | n => n⟩
theorem layRep : Go.Proofs.Lays.n105 Tryz.prog layRep_ren := {
  mixed := by kernel_rfl
  f99 := Tryz.func122.trans (congrArg some (by kernel_rfl))
  f105 := Tryz.func93.trans (congrArg some (by kernel_rfl))
  f165 := Tryz.func123.trans (congrArg some (by kernel_rfl))
  f166 := Tryz.func124.trans (congrArg some (by kernel_rfl))
  f169 := Tryz.func126.trans (congrArg some (by kernel_rfl))
  f170 := Tryz.func125.trans (congrArg some (by kernel_rfl))
  f206 := Tryz.func150.trans (congrArg some (by kernel_rfl))
  f212 := Tryz.func121.trans (congrArg some (by kernel_rfl))
  f240 := Tryz.func151.trans (congrArg some (by kernel_rfl))
  f241 := Tryz.func152.trans (congrArg some (by kernel_rfl))
  f263 := Tryz.func148.trans (congrArg some (by kernel_rfl))
  f264 := Tryz.func149.trans (congrArg some (by kernel_rfl))
  f276 := Tryz.func170.trans (congrArg some (by kernel_rfl))
  f277 := Tryz.func171.trans (congrArg some (by kernel_rfl))
  t0 := Tryz.underlying0
  a0 := Tryz.isAgg0
  z0 := Tryz.sizeOf0
  v0 := Tryz.zeroValue0
  t3 := Tryz.underlying3
  a3 := Tryz.isAgg3
  z3 := Tryz.sizeOf3
  v3 := Tryz.zeroValue3
  t4 := Tryz.underlying4
  a4 := Tryz.isAgg4
  z4 := Tryz.sizeOf4
  v4 := Tryz.zeroValue4
  t5 := Tryz.underlying5
  a5 := Tryz.isAgg5
  z5 := Tryz.sizeOf5
  v5 := Tryz.zeroValue5
  t9 := Tryz.underlying9
  a9 := Tryz.isAgg9
  z9 := Tryz.sizeOf9
  v9 := Tryz.zeroValue9
  t20 := Tryz.underlying20
  a20 := Tryz.isAgg20
  z20 := Tryz.sizeOf20
  v20 := Tryz.zeroValue20
  t37 := Tryz.underlying114
  a37 := Tryz.isAgg114
  z37 := Tryz.sizeOf114
  v37 := Tryz.zeroValue114
  t46 := Tryz.underlying128
  a46 := Tryz.isAgg128
  z46 := Tryz.sizeOf128
  v46 := Tryz.zeroValue128
  t51 := Tryz.underlying225
  a51 := Tryz.isAgg225
  z51 := Tryz.sizeOf225
  v51 := Tryz.zeroValue225
  t53 := Tryz.underlying228
  a53 := Tryz.isAgg228
  z53 := Tryz.sizeOf228
  v53 := Tryz.zeroValue228
  t70 := Tryz.underlying201
  a70 := Tryz.isAgg201
  z70 := Tryz.sizeOf201
  v70 := Tryz.zeroValue201
  t72 := Tryz.underlying203
  a72 := Tryz.isAgg203
  z72 := Tryz.sizeOf203
  v72 := Tryz.zeroValue203
  t75 := Tryz.underlying206
  a75 := Tryz.isAgg206
  z75 := Tryz.sizeOf206
  v75 := Tryz.zeroValue206
  t76 := Tryz.underlying207
  a76 := Tryz.isAgg207
  z76 := Tryz.sizeOf207
  v76 := Tryz.zeroValue207
  t109 := Tryz.underlying198
  a109 := Tryz.isAgg198
  z109 := Tryz.sizeOf198
  v109 := Tryz.zeroValue198
  t127 := Tryz.underlying217
  a127 := Tryz.isAgg217
  z127 := Tryz.sizeOf217
  v127 := Tryz.zeroValue217
  t146 := Tryz.underlying226
  a146 := Tryz.isAgg226
  z146 := Tryz.sizeOf226
  v146 := Tryz.zeroValue226
  t148 := Tryz.underlying229
  a148 := Tryz.isAgg229
  z148 := Tryz.sizeOf229
  v148 := Tryz.zeroValue229
  t164 := Tryz.underlying248
  a164 := Tryz.isAgg248
  z164 := Tryz.sizeOf248
  v164 := Tryz.zeroValue248 }
theorem layRepX : Builder.Extra Tryz.prog layRep_ren := {
  sizeBuilder := by kernel_rfl
  liesBuilder := by kernel_rfl
  t5 := Tryz.underlying5
  a5 := Tryz.isAgg5
  z5 := Tryz.sizeOf5
  v5 := Tryz.zeroValue5
  infoByte := by kernel_rfl
  cellsByte := by kernel_rfl
  sizeByte := by kernel_rfl
  neB5 := by decide }
open Go.RowKit Go.Lib in
theorem repeat_any (s : ByteArray) (c : Nat) (w : World) (hc : c <= 9223372036854775807) (hlen : s.size * c <= 140737488355328) :
    Calls Tryz.prog 93 #[.string s, .int .i64 c] w fun e w' => e = .returned (.string ⟨(Lib.repeatL s.data.toList c).toArray⟩) /\ Below w.heap.size w w' := Any.strings_Repeat layRep layRepX s c w hc hlen
end Go.Proofs.YtcpldcojckhapaaGreat

set_option maxRecDepth 100000
namespace Go.Proofs.YtcpldcojckhapaaGreat
open Go.RowKit
def zerosB (z : Nat) : ByteArray := ⟨(Lib.repeatL [0] z).toArray⟩
end Go.Proofs.YtcpldcojckhapaaGreat

set_option maxRecDepth 100000
namespace Go.Proofs.YtcpldcojckhapaaGreat
open Go.RowKit
def szF (s0 s1 s2 s3 q : Nat) : Nat := if q = 0 then s0 else if q = 1 then s1 else if q = 2 then s2 else s3
theorem arr4F (a b c d q : Nat) (hq : q < 4) (W : World) : (Instr.index 37 (.agg #[.int .i64 (a : Nat), .int .i64 (b : Nat), .int .i64 (c : Nat), .int .i64 (d : Nat)]) (.int .i64 (q : Nat))).run Tryz.prog W = .ok (.int .i64 (szF a b c d q : Nat)) W := by
  rcases (show q = 0 ∨ q = 1 ∨ q = 2 ∨ q = 3 by omega) with rfl | rfl | rfl | rfl
  . exact arr4_0 _ _ _ _ W
  . exact arr4_1 _ _ _ _ W
  . exact arr4_2 _ _ _ _ W
  . exact arr4_3 _ _ _ _ W
theorem szF_le (a b c d q m : Nat) (ha : a <= m) (hb : b <= m) (hc : c <= m) (hd : d <= m) : szF a b c d q <= m := by
  unfold szF; split <;> try split <;> try split
  all_goals omega
def tabV (N s0 s1 s2 s3 q : Nat) (i : Nat) : Value := if i < 4 then (if i < q then .slice (some ⟨N + 3 + i, 0, none⟩) (szF s0 s1 s2 s3 i) (szF s0 s1 s2 s3 i) else .slice none 0 0) else .int .i64 0
structure TabSt (w wr : World) (s0 s1 s2 s3 q : Nat) (cfg : Array Value) : Prop where
  tab : Grid wr (w.heap.size + 2) 104 8 1 (fun i _ => tabV w.heap.size s0 s1 s2 s3 q i)
  ent : ∀ i, i < q -> Grid wr (w.heap.size + 3 + i) 3 (szF s0 s1 s2 s3 i) 1 (fun _ _ => .int .i64 0)
  size : wr.heap.size = w.heap.size + 3 + q
  cfg : wr.heap[w.heap.size]? = some (.cells cfg 39 (0, 0))
  res : Grid wr (w.heap.size + 1) 104 8 1 (fun i _ => tabV w.heap.size s0 s1 s2 s3 0 i)
  bel : Below w.heap.size w wr
theorem grid_lit8 (w : World) (t : TypeId) (a0 a1 a2 a3 a4 a5 a6 a7 : Value) (f : Nat -> Value) (h0 : f 0 = a0) (h1 : f 1 = a1) (h2 : f 2 = a2) (h3 : f 3 = a3) (h4 : f 4 = a4) (h5 : f 5 = a5) (h6 : f 6 = a6) (h7 : f 7 = a7) :
    Grid (w.alloc (.cells #[a0, a1, a2, a3, a4, a5, a6, a7] t)) w.heap.size t 8 1 (fun i _ => f i) := by
  refine ⟨_, heap_alloc_new w _, rfl, fun i j hi hj => ?_⟩
  obtain rfl : j = 0 := by omega
  rcases (show i = 0 ∨ i = 1 ∨ i = 2 ∨ i = 3 ∨ i = 4 ∨ i = 5 ∨ i = 6 ∨ i = 7 by omega) with rfl | rfl | rfl | rfl | rfl | rfl | rfl | rfl <;> simp [*]
theorem tabSt_start (w : World) (s0 s1 s2 s3 c h u b : Nat) (l : Value) : ∃ W, W = (((w.alloc (.cells #[.int .i64 (s0 : Nat), .int .i64 (s1 : Nat), .int .i64 (s2 : Nat), .int .i64 (s3 : Nat), .int .i64 (c : Nat), .int .i64 (h : Nat), .int .i64 (u : Nat), l, .int .i64 (b : Nat)] 39)).alloc (.cells #[.slice none 0 0, .slice none 0 0, .slice none 0 0, .slice none 0 0, .int .i64 0, .int .i64 0, .int .i64 0, .int .i64 0] 104)).alloc (.cells #[.slice none 0 0, .slice none 0 0, .slice none 0 0, .slice none 0 0, .int .i64 0, .int .i64 0, .int .i64 0, .int .i64 0] 104)) /\
    TabSt w W s0 s1 s2 s3 0 #[.int .i64 (s0 : Nat), .int .i64 (s1 : Nat), .int .i64 (s2 : Nat), .int .i64 (s3 : Nat), .int .i64 (c : Nat), .int .i64 (h : Nat), .int .i64 (u : Nat), l, .int .i64 (b : Nat)] := by
  refine ⟨_, rfl, ?_⟩
  obtain ⟨X, hX⟩ : ∃ X, X = w.alloc (.cells #[.int .i64 (s0 : Nat), .int .i64 (s1 : Nat), .int .i64 (s2 : Nat), .int .i64 (s3 : Nat), .int .i64 (c : Nat), .int .i64 (h : Nat), .int .i64 (u : Nat), l, .int .i64 (b : Nat)] 39) := ⟨_, rfl⟩
  have hXs : X.heap.size = w.heap.size + 1 := by rw [hX]; simp
  have hXb : Below w.heap.size w X := by rw [hX]; exact bel_alloc (Below.refl _ _) _
  have hXg : X.heap[w.heap.size]? = some (.cells #[.int .i64 (s0 : Nat), .int .i64 (s1 : Nat), .int .i64 (s2 : Nat), .int .i64 (s3 : Nat), .int .i64 (c : Nat), .int .i64 (h : Nat), .int .i64 (u : Nat), l, .int .i64 (b : Nat)] 39 (0, 0)) := by rw [hX]; exact heap_alloc_new w _
  rw [<- hX]
  clear hX
  obtain ⟨Y, hY⟩ : ∃ Y, Y = X.alloc (.cells #[.slice none 0 0, .slice none 0 0, .slice none 0 0, .slice none 0 0, .int .i64 0, .int .i64 0, .int .i64 0, .int .i64 0] 104) := ⟨_, rfl⟩
  have hYs : Y.heap.size = w.heap.size + 2 := by rw [hY]; simp; omega
  have hYb : Below w.heap.size w Y := by rw [hY]; exact hXb.alloc hXb.size _
  have hYg : Y.heap[w.heap.size]? = X.heap[w.heap.size]? := by rw [hY]; exact heap_alloc_old X _ (by omega)
  have hYr : Grid Y (w.heap.size + 1) 104 8 1 (fun i _ => tabV w.heap.size s0 s1 s2 s3 0 i) := by
    rw [hY, <- hXs]; exact grid_lit8 X 104 _ _ _ _ _ _ _ _ (fun i => tabV w.heap.size s0 s1 s2 s3 0 i) rfl rfl rfl rfl rfl rfl rfl rfl
  rw [<- hY]
  clear hY
  refine ⟨?_, fun i hi => absurd hi (Nat.not_lt_zero _), by simp; omega, ?_, hYr.alloc _, hYb.alloc hYb.size _⟩
  . rw [<- hYs]; exact grid_lit8 Y 104 _ _ _ _ _ _ _ _ (fun i => tabV w.heap.size s0 s1 s2 s3 0 i) rfl rfl rfl rfl rfl rfl rfl rfl
  . rw [heap_alloc_old Y _ (by omega), hYg]; exact hXg
theorem grid_ints (w : World) (n : Nat) : Grid (w.alloc (.cells (madeCells #[.int .i64 0] n) 3)) w.heap.size 3 n 1 (fun _ _ => .int .i64 0) := by
  have := grid_made w #[.int .i64 0] n 1 3 rfl
  rw [Nat.mul_one] at this
  exact this.congr fun i j _ hj => by obtain rfl : j = 0 := (by omega); rfl
theorem TabSt.step {w wr : World} {s0 s1 s2 s3 q : Nat} {cfg : Array Value} (h : TabSt w wr s0 s1 s2 s3 q cfg) (hq : q < 4) :
    TabSt w ((wr.alloc (.cells (madeCells #[.int .i64 0] (szF s0 s1 s2 s3 q)) 3)).setCell ⟨w.heap.size + 2, q, none⟩ (.slice (some ⟨w.heap.size + 3 + q, 0, none⟩) (szF s0 s1 s2 s3 q) (szF s0 s1 s2 s3 q))) s0 s1 s2 s3 (q + 1) cfg := by
  have hsz := h.size
  refine ⟨?_, fun i hi => ?_, by simp; omega, ?_, (h.res.alloc _).set_other _ (by omega) _, ?_⟩
  . have := (h.tab.alloc (.cells (madeCells #[.int .i64 0] (szF s0 s1 s2 s3 q)) 3)).set (i := q) (j := 0) (by omega) (by omega) (.slice (some ⟨w.heap.size + 3 + q, 0, none⟩) (szF s0 s1 s2 s3 q) (szF s0 s1 s2 s3 q))
    rw [Nat.mul_one, Nat.add_zero] at this
    refine this.congr fun i j hi hj => ?_
    obtain rfl : j = 0 := by omega
    by_cases e : i = q
    . subst e
      simp [tabV, hq]
    . have e2 : (i < q + 1) = (i < q) := by apply propext; omega
      simp [tabV, e, e2]
  . by_cases e : i = q
    . subst e
      have := grid_ints wr (szF s0 s1 s2 s3 i)
      rw [hsz] at this
      exact this.set_other _ (by omega) _
    . exact ((h.ent i (by omega)).alloc _).set_other _ (by omega) _
  . rw [heap_setCell_other _ _ _ _ (by simp), heap_alloc_old wr _ (by omega)]; exact h.cfg
  . exact (h.bel.alloc h.bel.size _).setCell (by simp) _
theorem tab_keeps {w wr : World} {s0 s1 s2 s3 : Nat} {cfg : Array Value} (h : TabSt w wr s0 s1 s2 s3 4 cfg) (c k : Nat) :
    Grid ((wr.setCell ⟨w.heap.size + 1 + 1, 4, none⟩ (.int .i64 (c : Nat))).setCell ⟨w.heap.size + 1 + 1, 6, none⟩ (.int .i64 (k : Nat))) (w.heap.size + 2) 104 8 1 (fun i _ => if i = 4 then .int .i64 (c : Nat) else if i = 6 then .int .i64 (k : Nat) else tabV w.heap.size s0 s1 s2 s3 4 i) := by
  have h1 := h.tab.set (i := 4) (j := 0) (by omega) (by omega) (.int .i64 (c : Nat))
  have h2 := h1.set (i := 6) (j := 0) (by omega) (by omega) (.int .i64 (k : Nat))
  refine h2.congr fun i j hi hj => ?_
  obtain rfl : j = 0 := by omega
  by_cases e4 : i = 4
  . subst e4; simp
  . by_cases e6 : i = 6
    . subst e6; simp
    . simp [e4, e6]
structure Oth (g : Nat) (w w' : World) : Prop where
  os : w'.os = w.os
  tape : w'.tape = w.tape
  output : w'.output = w.output
  size : w'.heap.size = w.heap.size
  block : ∀ k, k ≠ g -> w'.heap[k]? = w.heap[k]?
theorem Oth.refl (g : Nat) (w : World) : Oth g w w := ⟨rfl, rfl, rfl, rfl, fun _ _ => rfl⟩
theorem Oth.setRow (g : Nat) (w : World) (cs : Array Value) : Oth g w (w.setRow g cs) := ⟨rfl, rfl, rfl, by simp [World.setRow], fun k hk => setRow_other w g k cs hk⟩
theorem Oth.below {g : Nat} {w w' : World} (h : Oth g w w') {B : Nat} {w0 : World} (hb : Below B w0 w) (hB : B <= g) : Below B w0 w' :=
  hb.trans ⟨h.os, h.tape, h.output, by rw [h.size]; exact Nat.le_refl _, fun k hk => h.block k (by omega)⟩
theorem step_copy_row {P : Program} {ops : Array Oper} {o : Oper} {a : Act} {w : World} {K : Act -> World -> Prop} {Q : Exit -> Act -> World -> Prop} {E : Prop} (hgd : o.guard = none) (d s : Operand) (dT sT : TypeId)
    (ho : o.op = .call { callee := .builtin .copy, args := #[d, s], argTypes := #[dT, sT] }) (elem : TypeId) (hu : P.underlying dT = some (.slice elem)) (hsz : (P.info? elem).map (·.size) = some 1)
    (dp sp : Option Addr) (dLen dCap sLen sCap : Nat) (hd : a.eval d = .slice dp dLen dCap) (hs : a.eval s = .slice sp sLen sCap)
    (g off : Nat) (cur : List Value) (t : TypeId) (hg : w.heap[g]? = some (.cells cur.toArray t (0, 0))) (cs : List Value) (hn : cs.length = Nat.min sLen dLen)
    (hpos : 0 < cs.length -> dp = some ⟨g, off, none⟩ /\ ∃ ad, sp = some ad /\ ∀ j v, cs[j]? = some v -> w.cell? (ad.add j) = some v)
    (hfit : off + cs.length <= cur.length) (h1 : ∀ v ∈ cs, v.oneCell' = true)
    (h : ∀ w', Hid (w'.heap[g]? = some (.cells (splice cur off cs).toArray t (0, 0))) -> Oth g w w' -> K (a.put o.dst (goInt cs.length)) w') :
    if Region.wanted o (yielded ops a.tmps) = true then Oper.wp P o a w K Q else E := by
  have hw : Region.wanted o (yielded ops a.tmps) = true := by simp [Region.wanted, hgd]
  rw [if_pos hw]
  by_cases h0 : cs.length = 0
  . obtain rfl : cs = [] := List.eq_nil_of_length_eq_zero h0
    have hrun := run_copy_none (P := P) w dT sT o.type elem dp sp dLen dCap sLen sCap hu hsz (by simpa using hn.symm)
    unfold Oper.wp
    simp [execOp, ho, resolve, invoke, builtin, hd, hs, hrun, Result.andThen]
    exact h w (show _ = _ by simpa [splice] using hg) (Oth.refl _ _)
  . obtain ⟨rfl, ad, rfl, hsrc⟩ := hpos (by omega)
    have hrun := run_copy_row (P := P) w dT sT o.type elem g off dLen dCap ad sLen sCap cur.toArray t cs hu hsz hg hn hsrc (by simpa using hfit) h1
    unfold Oper.wp
    simp [execOp, ho, resolve, invoke, builtin, hd, hs, hrun, Result.andThen]
    exact h _ (show _ = _ by simpa [splice] using setRow_heap w g _ _ t _ hg) (Oth.setRow _ _ _)
theorem Tryz.sizeInt : (Tryz.prog.info? 3).map (·.size) = some 1 := by kernel_rfl
theorem enter68 (x y : Value) (w : World) : (callFunc 98 #[x, y]).run Tryz.prog w = .ok (.enter 98 #[x, y]) w := by kernel_rfl
theorem enter69 (x : Value) (w : World) : (callFunc 99 #[x]).run Tryz.prog w = .ok (.enter 99 #[x]) w := by kernel_rfl
theorem enter67 (x : Value) (w : World) : (callFunc 97 #[x]).run Tryz.prog w = .ok (.enter 97 #[x]) w := by kernel_rfl
theorem own_src {w : World} {B : Nat} {e : TypeId} {ad : Option Addr} {n c : Nat} {xs : List Value} (h : w.ownsRow B e 1 (.slice ad n c) n xs) (hn : 0 < n) : ∃ a, ad = some a /\ ∀ j v, xs[j]? = some v -> w.cell? (a.add j) = some v := by
  obtain ⟨a', c', hv, hat⟩ := own_view h
  simp only [Value.slice.injEq] at hv
  obtain ⟨rfl, _, _⟩ := hv
  obtain ⟨g, rfl, _, hc⟩ := hat 0 hn
  refine ⟨_, rfl, fun j v hj => ?_⟩
  have hl := h.1
  have hjl : j < xs.length := by
    rcases Nat.lt_or_ge j xs.length with h1 | h1
    . exact h1
    . rw [List.getElem?_eq_none h1] at hj; simp at hj
  have := hc j (by omega)
  have e : (⟨g, 0, none⟩ : Addr).add j = ⟨g, j, none⟩ := by by_cases h0 : j = 0 <;> simp [Addr.add, h0]
  rw [e, this, hj]
theorem below_then_drew1 {W W' : World} (h : Below W.drew.heap.size W.drew W') : Below W.heap.size W W' := bel_then (Below.refl W.heap.size W).drew h
theorem bitsSize_step (n b : Nat) (hb : b = (n + 7) / 8) (w : World) (h : n <= 100000) :
    Calls Tryz.prog 97 #[.int .i64 (n : Nat)] w fun e w' => ∃ v, e = .returned v /\ (v = .int .i64 (b : Nat) /\ w' = w) := by
  refine (bitsSize_at n b hb w h).mono ?_
  rintro e w' ⟨rfl, rfl⟩
  exact ⟨_, rfl, rfl, rfl⟩
theorem wordsOf_step (s : ByteArray) (n : Nat) (w : World) (hn : s.size / 2 = n) (hs : s.size <= 100000) :
    Calls Tryz.prog 99 #[.string s] w fun e w' => ∃ v, e = .returned v /\ ∃ ad c, v = .slice ad n c /\ (w'.ownsRow w.heap.size 3 1 (.slice ad n c) n ((Pl.wordsL s 0 n).flatMap encI) /\ Below w.heap.size w w') := by
  refine (pwords_any s n w hn hs).mono ?_
  rintro e w' ⟨v, rfl, hown, hb⟩
  obtain ⟨ad, c, rfl, _⟩ := own_view hown
  exact ⟨_, rfl, ad, c, rfl, hown, hb⟩
theorem grid_set8 {W : World} {L t n m g : Nat} {f : Nat -> Nat -> Value} (h : Grid W L t n m f) (hg : L ≠ g) (a0 a1 a2 a3 a4 a5 a6 a7 : Value) : Grid (((((((((W.setCell ⟨g, 0, none⟩ a0).setCell ⟨g, 1, none⟩ a1).setCell ⟨g, 2, none⟩ a2).setCell ⟨g, 3, none⟩ a3).setCell ⟨g, 4, none⟩ a4).setCell ⟨g, 5, none⟩ a5).setCell ⟨g, 6, none⟩ a6).setCell ⟨g, 7, none⟩ a7)) L t n m f :=
  (((((((h.set_other _ hg _).set_other _ hg _).set_other _ hg _).set_other _ hg _).set_other _ hg _).set_other _ hg _).set_other _ hg _).set_other _ hg _
end Go.Proofs.YtcpldcojckhapaaGreat

set_option maxRecDepth 100000
namespace Go.Proofs.YtcpldcojckhapaaGreat
open Go.RowKit
theorem zerosB_size (z : Nat) : (zerosB z).size = z := by
  show (Lib.repeatL [0] z).toArray.size = z
  rw [List.size_toArray, Lib.repeatL_length]; simp
theorem byt_listQ (s : ByteArray) (k : Nat) : Pl.byt s k = (s.data.toList.getD k 0).toNat := by
  unfold Pl.byt
  by_cases h : k < s.size
  . rw [dif_pos h, List.getD_eq_getElem?_getD]
    have h2 : k < s.data.toList.length := by rw [Array.length_toList]; exact h
    rw [List.getElem?_eq_getElem h2]
    rfl
  . rw [dif_neg h, List.getD_eq_getElem?_getD, List.getElem?_eq_none (by rw [Array.length_toList]; exact Nat.le_of_not_lt h)]
    rfl
end Go.Proofs.YtcpldcojckhapaaGreat

set_option maxRecDepth 100000
namespace Go.Proofs.YtcpldcojckhapaaGreat
open Go.RowKit
def bytesOf (l : List Int) : ByteArray := ⟨(l.map fun n => UInt8.ofNat n.toNat).toArray⟩
theorem push_foldQ (l : List Int) : ∀ acc : ByteArray, (l.foldl (fun r n => r.push (UInt8.ofNat n.toNat)) acc).data.toList = acc.data.toList ++ l.map fun n => UInt8.ofNat n.toNat := by
  induction l with
  | nil => intro acc; simp
  | cons n l ih => intro acc; rw [List.foldl_cons, ih, List.map_cons]; simp
theorem conv_row (W : World) (g n c : Nat) (l : List Int) (hl : l.length = n) (hc : ∀ j x, l[j]? = some x -> W.cell? ⟨g, j, none⟩ = some (.int .u8 x)) : (convert 114 9 (.slice (some ⟨g, 0, none⟩) n c)).run Tryz.prog W = .ok (.string (bytesOf l)) W := by
  subst hl
  rw [run_convert_bytes_string _ 114 9 5 _ _ c Tryz.underlying114 Tryz.underlying5 Tryz.underlying9, run_bytesToString _ _ _ c l]
  . congr 2
    apply ByteArray.ext
    apply Array.toList_inj.1
    rw [push_foldQ]
    simp [bytesOf]
  . have h := run_loadCells_list (P := Tryz.prog) W ⟨g, 0, none⟩ (l.map fun x => Value.int .u8 x) (fun j v hj => by
      have e : ((⟨g, 0, none⟩ : Addr).add j) = ⟨g, j, none⟩ := by by_cases h0 : j = 0 <;> simp [Addr.add, h0]
      rw [e]
      rw [List.getElem?_map] at hj
      obtain ⟨x, hx, rfl⟩ := Option.map_eq_some_iff.1 hj
      exact hc j x hx)
    rw [List.length_map] at h
    exact h
theorem infoU8Q : (Tryz.prog.info? 5).map (fun i => (i.zero, i.size, i.bytes)) = some (some (.int .u8 0), 1, 1) := by kernel_rfl
theorem made_bytesQ (n : Nat) (h : n <= 100000) (W : World) : (Instr.makeSlice 114 (.int .i64 (n : Int)) (.int .i64 (n : Int))).run Tryz.prog W = .ok (.slice (some ⟨W.heap.size, 0, none⟩) n n) (W.alloc (.cells (madeCells #[.int .u8 0] n) 5)) :=
  run_make_row' 114 5 _ 1 Tryz.underlying114 infoU8Q rfl .i64 .i64 n (by omega) (by omega) W
theorem madeBytes_at (n j : Nat) (h : j < n) : (madeCells #[.int .u8 0] n)[j]? = some (.int .u8 0) := by
  rw [<- Array.getElem?_toList, toList_madeCells_one, List.getElem?_replicate, if_pos h]
def blank64 : ByteArray := bytesOf (List.replicate 64 0)
end Go.Proofs.YtcpldcojckhapaaGreat

set_option maxRecDepth 100000
namespace Go.Proofs.YtcpldcojckhapaaGreat
open Go.RowKit
def wordsI (l : List Nat) : List Int := l.flatMap fun n => [((n / 256 : Nat) : Int), ((n % 256 : Nat) : Int)]
def wordsB (l : List Nat) : ByteArray := bytesOf (wordsI l)
def byteV (x : Int) : Value := .int .u8 x
theorem wordsI_len (l : List Nat) : (wordsI l).length = 2 * l.length := by
  induction l with
  | nil => rfl
  | cons x l ih => unfold wordsI at ih ⊢; rw [List.flatMap_cons, List.length_append, ih]; simp; omega
theorem conv_own (W : World) (B n : Nat) (v : Value) (l : List Int) (hl : l.length = n) (h : W.ownsRow B 5 1 v n (l.map byteV)) : (convert 114 9 v).run Tryz.prog W = .ok (.string (bytesOf l)) W := by
  rcases h.2 with ⟨rfl, h0⟩ | ⟨g, cap, cur, rfl, hb, hg, h1, h2, h3, h4⟩
  . obtain rfl : l = [] := List.eq_nil_of_length_eq_zero (by omega)
    kernel_rfl
  . refine conv_row W g n cap l hl fun j x hj => ?_
    rw [cell_of_row W g j cur 5 (0, 0) hg, <- Array.getElem?_toList]
    have hj' : j < n := by rw [<- hl]; exact (List.getElem?_eq_some_iff.1 hj).1
    have e : (cur.toList.take (n * 1))[j]? = cur.toList[j]? := List.getElem?_take_of_lt (by omega)
    rw [<- e, h4, List.getElem?_map, hj]
    rfl
theorem cell_two_new (w : World) (a b : Value) (t : TypeId) : ∀ j u, [a, b][j]? = some u -> (w.alloc (.cells #[a, b] t)).cell? ((⟨w.heap.size, 0, none⟩ : Addr).add j) = some u := by
  intro j u hj
  match j, hj with
  | 0, hj => simp at hj; subst hj; simp [Addr.add]
  | 1, hj => simp at hj; subst hj; simp [Addr.add]
set_option maxRecDepth 100000 in
set_option maxHeartbeats 1000000 in
theorem words_any (l : List Nat) (n c g off : Nat) (a : Option Addr) (w : World) (hl : l.length = n) (hn : n <= 10000) (h16 : ∀ x ∈ l, x < 65536) (hg : g < w.heap.size)
    (ha : 0 < n -> a = some ⟨g, off, none⟩) (hc : ∀ j x, l[j]? = some x -> w.cell? ⟨g, off + j, none⟩ = some (.int .i64 (x : Nat))) :
    Calls Tryz.prog 87 #[.slice a n c] w fun e w' => e = .returned (.string (wordsB l)) /\ Below w.heap.size w w' := by
  obtain ⟨i0, hi, hz0, hz1, hz2⟩ := info_parts infoU8Q
  have hmk : ∀ W : World, (Instr.makeSlice 114 (.int .i64 0) (.int .i64 (2 * (n : Int)))).run Tryz.prog W = .ok (.slice (some ⟨W.heap.size, 0, none⟩) 0 (2 * n)) (W.alloc (.cells (madeCells #[.int .u8 0] (2 * n)) 5)) := fun W => by
    have h := run_make (P := Tryz.prog) W 114 5 i0 (.int .u8 0) Tryz.underlying114 hi hz0 .i64 .i64 0 (2 * (n : Int)) (by omega) (by omega) (by rw [hz2]; omega) (by omega)
    rw [hz1] at h
    have e : (2 * (n : Int)).toNat = 2 * n := by omega
    simpa [Value.cells, e] using h
  obtain ⟨M, hM⟩ : ∃ M, M = madeCells #[Value.int .u8 0] (2 * n) := ⟨_, rfl⟩
  have hMs : M.size = 2 * n * 1 := by rw [hM, size_madeCells]; omega
  rw [<- hM] at hmk
  have w2 : IntKind.i64.wrap (2 * (n : Int)) = 2 * (n : Int) := by rw [IntKind.wrap_i64]; omega
  have HC := hideF hc
  have H16 := hideF h16
  have HA := hideF ha
  have HL := hideF hl
  have HM := hideF hMs
  clear hc h16 ha hl hM hMs
  go_enter Tryz.func87, Tryz.ntmps87
  go_wp2_with fail
  go_loopw [12, 3] (fun i s wr => ∃ q : Nat, q <= n /\ i = .int .i64 (q : Nat) /\ wr.ownsRow w.heap.size 5 1 s (2 * q) ((wordsI (l.take q)).map byteV) /\ Below w.heap.size w wr) (fun i _ _ => n - (intOf i).toNat)
  case atStart => exact ⟨0, by omega, rfl, World.ownsRow_made w M (2 * n) (Nat.le_refl _) (by unfold maxLen; omega) HM.out, bel_alloc (Below.refl _ _) _⟩
  case round =>
    obtain ⟨q, hq, rfl, hown, hb⟩ := hrel
    have hsb := hb.size
    by_cases hlt : q < n
    . obtain ⟨x, hx⟩ : ∃ x, l[q]? = some x := ⟨_, List.getElem?_eq_getElem (by rw [HL.out]; exact hlt)⟩
      have hx16 : x < 65536 := H16.out x (List.mem_of_getElem? hx)
      have hkc : wr.cell? ⟨g, off + q, none⟩ = some (.int .i64 (x : Nat)) := by rw [(bcell hb).1 g _ hg]; exact HC.out q x hx
      have hae := HA.out (by omega)
      have HT := hideF (take_succ_at l q x hx)
      subst hae
      have HO := hideF hown
      have HB := hideF hb
      have e1 : IntKind.u8.wrap ((x : Int) / 256) = ((x / 256 : Nat) : Int) := by rw [IntKind.wrap_u8]; omega
      have e2 : IntKind.u8.wrap (x : Int) = ((x % 256 : Nat) : Int) := by rw [IntKind.wrap_u8]; omega
      clear hown hb hx
      go_wp2_with (at_builtin; refine wpList_append_own _ rfl (.tmp 16) (.tmp 22) 114 rfl w.heap.size 5 i0 (.int .u8 0) 1 1 Tryz.underlying114 hi hz0 hz1 hz2 rfl (by decide) u3 (2 * q) _ rfl (HO.out.alloc _) ⟨wr.heap.size, 0, none⟩ 2 2 [.int .u8 (x / 256 : Nat), .int .u8 (x % 256 : Nat)] rfl rfl (cell_two_new _ _ _ _) (by intro u hu; simp at hu; rcases hu with rfl | rfl <;> rfl) (by unfold maxLen; omega) (by omega) (by simp; omega) ?_; intro v' w3 hown3 hgrow3 _)
      go_roundw
      case rel =>
        refine ⟨q + 1, by omega, by go_num, ?_, ?_⟩
        . rw [HT.out]
          unfold wordsI
          rw [List.flatMap_append, List.map_append, show 2 * (q + 1) = 2 * q + 2 by omega]
          exact hown3
        . exact (HB.out.alloc HB.out.size _).grown hgrow3 (by have := HB.out.size; simp; omega) (fun k hk => (HO.out.lt k hk).1)
      case measure => simp [intOf]; omega
    . obtain rfl : q = n := by omega
      rw [List.take_of_length_le (by rw [HL.out]; exact Nat.le_refl _)] at hown
      have hcv := conv_own wr w.heap.size (2 * q) u3 (wordsI l) (by rw [wordsI_len, HL.out]) hown
      go_wp2
      go_ret
      exact ⟨rfl, hb⟩
end Go.Proofs.YtcpldcojckhapaaGreat

set_option maxRecDepth 100000
namespace Go.Proofs.YtcpldcojckhapaaGreat
open Go.RowKit
theorem Tryz.info5 : (Tryz.prog.info? 5).map (fun i => (i.zero, i.size, i.bytes)) = some (some (.int .u8 0), 1, 1) := by kernel_rfl
set_option maxRecDepth 100000 in
set_option maxHeartbeats 1000000 in
theorem slClone_any (s : ByteArray) (w : World) (hs : s.size <= 4194304) :
    Calls Tryz.prog 112 #[.string s] w fun e w' => e = .returned (.string s) /\ Below w.heap.size w w' := by
  by_cases h0 : s.size = 0
  . obtain rfl : s = ⟨#[]⟩ := ByteArray.ext (Array.eq_empty_of_size_eq_zero h0)
    go_enter Tryz.func112, Tryz.ntmps112
    go_wp2
    go_ret
    exact ⟨rfl, Below.refl _ _⟩
  . obtain ⟨i0, hi, hz0, hz1, hz2⟩ := info_parts Tryz.info5
    have hinfo : (Tryz.prog.info? 5).map (·.size) = some 1 := by rw [hi]; simp [hz1]
    have hco : Tryz.prog.cellsOf 5 = 1 := by kernel_rfl
    obtain ⟨M, hM⟩ : ∃ M, M = madeCells (Value.int .u8 0).cells (((s.size : Nat) : Int).toNat * i0.size) := ⟨_, rfl⟩
    have hMs : M.size = s.size := by rw [hM, size_madeCells, hz1]; simp
    have hmk : ∀ W : World, (Instr.makeSlice 114 (.int .i64 (s.size : Int)) (.int .i64 (s.size : Int))).run Tryz.prog W = .ok (.slice (some ⟨W.heap.size, 0, none⟩) s.size s.size) (W.alloc (.cells M 5)) := fun W => by
      have h := run_make (P := Tryz.prog) W 114 5 i0 (.int .u8 0) Tryz.underlying114 hi hz0 .i64 .i64 (s.size : Int) (s.size : Int) (by omega) (by omega) (by rw [hz2]; omega) (by omega)
      rw [<- hM] at h
      simpa using h
    clear hM
    have hcp := Lib.run_copy_row_string (P := Tryz.prog) (w.alloc (.cells M 5)) 114 9 3 5 w.heap.size 0 s.size s.size s M 5 Tryz.underlying114 hinfo (heap_alloc_new w _) (Nat.le_refl _) (by omega)
    obtain ⟨Y, hY⟩ : ∃ Y, Y = (M.toList.take 0 ++ Lib.byteCells s.data.toList ++ M.toList.drop (0 + s.size)).toArray := ⟨_, rfl⟩
    rw [<- hY] at hcp
    have hYl : Y.toList = Lib.byteCells s.data.toList := by
      rw [hY, List.toList_toArray, List.take_zero, List.nil_append, List.drop_of_length_le (by rw [Array.length_toList]; omega), List.append_nil]
    have hYs : Y.size = s.size := by rw [<- Array.length_toList, hYl, Lib.byteCells_length, <- Lib.size_eq]
    have hgY : ((w.alloc (.cells M 5)).setRow w.heap.size Y).heap[w.heap.size]? = some (.cells Y 5 (0, 0)) := setRow_heap _ _ M _ 5 (0, 0) (heap_alloc_new w _)
    have hne : s.data.toList ≠ [] := fun e => h0 (by rw [Lib.size_eq, e]; rfl)
    have hUS := Lib.run_unsafeString_row (P := Tryz.prog) ((w.alloc (.cells M 5)).setRow w.heap.size Y) 217 3 9 5 Tryz.underlying217 hco w.heap.size Y.size (by unfold World.shape?; rw [hgY]) s.data.toList hne (by rw [<- Lib.size_eq]; omega) (by rw [<- Lib.size_eq]; omega)
      (fun j x hx => Lib.cells_of_row hgY Y.size j _ (by rw [List.take_of_length_le (by rw [Array.length_toList]; exact Nat.le_refl _), hYl]; simp [Lib.byteCells, hx]))
    rw [<- Lib.size_eq] at hUS
    clear hY
    go_enter Tryz.func112, Tryz.ntmps112
    go_wp2
    go_ret
    have hb1 : Below w.heap.size w (w.alloc (.cells M 5)) := (Below.refl _ w).alloc (Nat.le_refl _) _
    have hb2 : Below w.heap.size (w.alloc (.cells M 5)) ((w.alloc (.cells M 5)).setRow w.heap.size Y) := ⟨rfl, rfl, rfl, by simp, fun k hk => setRow_other _ _ _ _ (by omega)⟩
    exact ⟨rfl, Lib.below_freeze (hb1.trans hb2) (p := ⟨w.heap.size, 0, none⟩) (Nat.le_refl _) _⟩
set_option maxRecDepth 100000 in
set_option maxHeartbeats 400000 in
theorem clone_any (s : ByteArray) (w : World) (hs : s.size <= 4194304) :
    Calls Tryz.prog 76 #[.string s] w fun e w' => e = .returned (.string s) /\ Below w.heap.size w w' := by
  go_enter Tryz.func76, Tryz.ntmps76
  go_wp2_with fail
  refine (slClone_any s _ hs).mono ?_
  rintro e w' ⟨rfl, hb⟩
  go_wp2
  go_ret
  exact ⟨rfl, hb⟩
end Go.Proofs.YtcpldcojckhapaaGreat
