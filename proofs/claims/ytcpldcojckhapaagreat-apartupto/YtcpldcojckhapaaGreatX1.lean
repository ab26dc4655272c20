/-
  
-/
import Derived.Test.YtcpldcojckhapaaGreatX0
namespace Go.Proofs.YtcpldcojckhapaaGreat
open Go.Conc
variable {P : Program}
theorem nm_bind {α β : Type} {Q : α -> Prop} {R : β -> Prop} {x : Sem α} {f : α -> Sem β} (hx : Nm P Q x) (hf : ∀ a, Q a -> Nm P R (f a)) : Nm P R (x >>= f) := by
  show Nm P R (x.bind f)
  induction x with
  | pure a => exact hf a hx
  | load m a k ih => exact fun v => ih v (hx v)
  | store m a v k ih => exact ih hx
  | new o k ih => exact fun r => ih r (hx r)
  | shape r k ih => exact fun s => ih s (hx s)
  | freeze a n k ih => exact ih hx
  | frozen a k ih => exact fun b => ih b (hx b)
  | getObj r k ih => exact fun o => ih o (hx o)
  | setObj r o k ih => exact ih hx
  | choose q k ih => exact fun n => ih n (hx n)
  | sys c k ih => exact ⟨hx.1, fun r => ih r (hx.2 r)⟩
  | program k ih => exact ih P hx
  | mark m k ih => exact ⟨hx.1, ih hx.2⟩
  | halt h => exact hx
theorem nm_mono {α : Type} {Q R : α -> Prop} {x : Sem α} (hx : Nm P Q x) (h : ∀ a, Q a -> R a) : Nm P R x := by
  induction x with
  | pure a => exact h a hx
  | load m a k ih => exact fun v => ih v (hx v)
  | store m a v k ih => exact ih hx
  | new o k ih => exact fun r => ih r (hx r)
  | shape r k ih => exact fun s => ih s (hx s)
  | freeze a n k ih => exact ih hx
  | frozen a k ih => exact fun b => ih b (hx b)
  | getObj r k ih => exact fun o => ih o (hx o)
  | setObj r o k ih => exact ih hx
  | choose q k ih => exact fun n => ih n (hx n)
  | sys c k ih => exact ⟨hx.1, fun r => ih r (hx.2 r)⟩
  | program k ih => exact ih P hx
  | mark m k ih => exact ⟨hx.1, ih hx.2⟩
  | halt h => exact hx
def Nt (P : Program) {α : Type} (x : Sem α) : Prop := Nm P (fun _ => True) x
theorem nt_bind {α β : Type} {x : Sem α} {f : α -> Sem β} (hx : Nt P x) (hf : ∀ a, Nt P (f a)) : Nt P (x >>= f) := nm_bind hx fun a _ => hf a
theorem nt_map {α β : Type} {x : Sem α} {f : α -> β} (hx : Nt P x) : Nt P (Functor.map f x) := nm_bind hx fun _ _ => trivial
theorem nt_ite {α : Type} {c : Prop} [Decidable c] {x y : Sem α} (hx : Nt P x) (hy : Nt P y) : Nt P (if c then x else y) := by split <;> assumption
theorem nt_pure {α : Type} (a : α) : Nt P (pure a : Sem α) := trivial
theorem nt_stuck {α : Type} (s : String) : Nt P (stuck s : Sem α) := trivial
theorem nt_unsupported {α : Type} (u : Unsupported) : Nt P (unsupported u : Sem α) := trivial
theorem nt_goPanic {α : Type} (v : Value) : Nt P (goPanic v : Sem α) := trivial
theorem nt_load (a : Addr) (m : Mode) : Nt P (load a m) := fun _ => trivial
theorem nt_store (a : Addr) (v : Value) (m : Mode) : Nt P (store a v m) := trivial
theorem nt_newObj (o : Obj) : Nt P (newObj o) := fun _ => trivial
theorem nt_shape (r : Nat) : Nt P (shape r) := fun _ => trivial
theorem nt_freeze (a : Addr) (n : Nat) : Nt P (freeze a n) := trivial
theorem nt_frozen (a : Addr) : Nt P (frozen a) := fun _ => trivial
theorem nt_getObj (r : Nat) : Nt P (getObj r) := fun _ => trivial
theorem nt_choose (q : Question) : Nt P (choose q) := fun _ => trivial
theorem nt_program : Nt P program := trivial
theorem nt_noRoom : Nt P (mark .noRoom) := ⟨⟨by simp, by simp⟩, trivial⟩
theorem nt_extern (f : FuncId) : Nt P (mark (.extern f)) := ⟨⟨by simp, by simp⟩, trivial⟩
theorem nt_sysEnv : Nt P (sys .env) := ⟨fun _ => ⟨_, rfl⟩, fun _ => trivial⟩
theorem nt_typeInfo (t : TypeId) : Nt P (typeInfo t) := by
  unfold typeInfo
  repeat' first | exact trivial | assumption | with_reducible apply nt_program | with_reducible apply nt_stuck | with_reducible apply nt_pure | with_reducible apply nt_ite | with_reducible apply nt_bind | with_reducible intro _ | split | dsimp only | apply nt_bind
theorem nt_underlying (t : TypeId) : Nt P (underlying t) := by
  unfold underlying
  repeat' first | exact trivial | assumption | with_reducible apply nt_typeInfo | with_reducible apply nt_program | with_reducible apply nt_stuck | with_reducible apply nt_pure | with_reducible apply nt_ite | with_reducible apply nt_bind | with_reducible intro _ | split | dsimp only | apply nt_bind
theorem nt_zeroValue (t : TypeId) : Nt P (zeroValue t) := by
  unfold zeroValue
  repeat' first | exact trivial | assumption | with_reducible apply nt_typeInfo | with_reducible apply nt_unsupported | with_reducible apply nt_pure | with_reducible apply nt_ite | with_reducible apply nt_bind | with_reducible intro _ | split | dsimp only | apply nt_bind
theorem nt_sizeOf (t : TypeId) : Nt P (sizeOf t) := by
  unfold sizeOf
  repeat' first | exact trivial | assumption | with_reducible apply nt_typeInfo | with_reducible apply nt_pure | with_reducible apply nt_ite | with_reducible apply nt_bind | with_reducible intro _ | split | dsimp only | apply nt_bind
theorem nt_isAgg (t : TypeId) : Nt P (isAgg t) := by
  unfold isAgg
  repeat' first | exact trivial | assumption | with_reducible apply nt_underlying | with_reducible apply nt_pure | with_reducible apply nt_ite | with_reducible apply nt_bind | with_reducible intro _ | split | dsimp only | apply nt_bind
theorem nt_loadCellsFrom (a : Addr) : ∀ (n i : Nat) (acc : Array Value), Nt P (loadCellsFrom a i n acc)
  | 0, _, _ => trivial
  | n + 1, i, acc => nt_bind (nt_load _ _) fun v => nt_loadCellsFrom a n (i + 1) (acc.push v)
theorem nt_storeCells (a : Addr) : ∀ (vs : List Value) (i : Nat), Nt P (storeCells a vs i)
  | [], _ => trivial
  | _ :: vs, i => nt_bind (nt_store _ _ _) fun _ => nt_storeCells a vs (i + 1)
theorem nt_loadCells (a : Addr) (n : Nat) : Nt P (loadCells a n) := by
  unfold loadCells
  repeat' first | exact trivial | assumption | with_reducible apply nt_loadCellsFrom | with_reducible apply nt_pure | with_reducible apply nt_ite | with_reducible apply nt_bind | with_reducible intro _ | split | dsimp only | apply nt_bind
theorem nt_loadVar (t : TypeId) (a : Addr) : Nt P (loadVar t a) := by
  unfold loadVar
  repeat' first | exact trivial | assumption | with_reducible apply nt_loadCells | with_reducible apply nt_isAgg | with_reducible apply nt_sizeOf | with_reducible apply nt_load | with_reducible apply nt_pure | with_reducible apply nt_ite | with_reducible apply nt_bind | with_reducible intro _ | split | dsimp only | apply nt_bind
theorem nt_storeVar (t : TypeId) (a : Addr) (v : Value) : Nt P (storeVar t a v) := by
  unfold storeVar
  repeat' first | exact trivial | assumption | with_reducible apply nt_storeCells | with_reducible apply nt_sizeOf | with_reducible apply nt_stuck | with_reducible apply nt_pure | with_reducible apply nt_ite | with_reducible apply nt_bind | with_reducible intro _ | split | dsimp only | apply nt_bind
theorem nt_newRow (t : TypeId) (c : Array Value) : Nt P (newRow t c) := by
  unfold newRow
  repeat' first | exact trivial | assumption | with_reducible apply nt_newObj | with_reducible apply nt_pure | with_reducible apply nt_ite | with_reducible apply nt_bind | with_reducible intro _ | split | dsimp only | apply nt_bind
theorem nt_newVar (t : TypeId) (v : Value) : Nt P (newVar t v) := by
  unfold newVar
  repeat' first | exact trivial | assumption | with_reducible apply nt_newRow | with_reducible apply nt_pure | with_reducible apply nt_ite | with_reducible apply nt_bind | with_reducible intro _ | split | dsimp only | apply nt_bind
theorem nt_elemOf (t : TypeId) : Nt P (elemOf t) := by
  unfold elemOf
  repeat' first | exact trivial | assumption | with_reducible apply nt_underlying | with_reducible apply nt_stuck | with_reducible apply nt_pure | with_reducible apply nt_ite | with_reducible apply nt_bind | with_reducible intro _ | split | dsimp only | apply nt_bind
theorem nt_part (t : TypeId) (c : Array Value) (o : Nat) : Nt P (part t c o) := by
  unfold part
  repeat' first | exact trivial | assumption | with_reducible apply nt_isAgg | with_reducible apply nt_sizeOf | with_reducible apply nt_stuck | with_reducible apply nt_pure | with_reducible apply nt_ite | with_reducible apply nt_bind | with_reducible intro _ | split | dsimp only | apply nt_bind
theorem nt_runtimePanic {α : Type} (e : RuntimeError) : Nt P ((runtimePanic e : Sem α)) := by
  unfold runtimePanic
  repeat' first | exact trivial | assumption | with_reducible apply nt_elemOf | with_reducible apply nt_newVar | with_reducible apply nt_program | with_reducible apply nt_goPanic | with_reducible apply nt_pure | with_reducible apply nt_ite | with_reducible apply nt_bind | with_reducible intro _ | split | dsimp only | apply nt_bind
theorem nt_boundsPanic {α : Type} (k : IntKind) (x y : Int) (c : BoundsCode) : Nt P ((boundsPanic k x y c : Sem α)) := by
  unfold boundsPanic
  repeat' first | exact trivial | assumption | with_reducible apply nt_runtimePanic | with_reducible apply nt_extern | with_reducible apply nt_choose | with_reducible apply nt_pure | with_reducible apply nt_map | with_reducible apply nt_ite | with_reducible apply nt_bind | with_reducible intro _ | split | dsimp only | apply nt_bind
theorem nt_asIntOf (v : Value) : Nt P (asIntOf v) := by
  unfold asIntOf
  repeat' first | exact trivial | assumption | with_reducible apply nt_unsupported | with_reducible apply nt_stuck | with_reducible apply nt_pure | with_reducible apply nt_ite | with_reducible apply nt_bind | with_reducible intro _ | split | dsimp only | apply nt_bind
theorem nt_asInt (v : Value) : Nt P (asInt v) := by
  unfold asInt
  repeat' first | exact trivial | assumption | with_reducible apply nt_asIntOf | with_reducible apply nt_pure | with_reducible apply nt_ite | with_reducible apply nt_bind | with_reducible intro _ | split | dsimp only | apply nt_bind
theorem nt_asBool (v : Value) : Nt P (asBool v) := by
  unfold asBool
  repeat' first | exact trivial | assumption | with_reducible apply nt_stuck | with_reducible apply nt_pure | with_reducible apply nt_ite | with_reducible apply nt_bind | with_reducible intro _ | split | dsimp only | apply nt_bind
theorem nt_asAddr (v : Value) : Nt P (asAddr v) := by
  unfold asAddr
  repeat' first | exact trivial | assumption | with_reducible apply nt_runtimePanic | with_reducible apply nt_stuck | with_reducible apply nt_pure | with_reducible apply nt_ite | with_reducible apply nt_bind | with_reducible intro _ | split | dsimp only | apply nt_bind
theorem nt_typeStr (t : TypeId) : Nt P (typeStr t) := by
  unfold typeStr
  repeat' first | exact trivial | assumption | with_reducible apply nt_typeInfo | with_reducible apply nt_unsupported | with_reducible apply nt_pure | with_reducible apply nt_ite | with_reducible apply nt_bind | with_reducible intro _ | split | dsimp only | apply nt_bind
theorem nt_viewAt (r : Nat) : Nt P (viewAt r) := by
  unfold viewAt
  repeat' first | exact trivial | assumption | with_reducible apply nt_getObj | with_reducible apply nt_shape | with_reducible apply nt_pure | with_reducible apply nt_ite | with_reducible apply nt_bind | with_reducible intro _ | split | dsimp only | apply nt_bind
theorem nt_numberAt (r : Nat) : Nt P (numberAt r) := by
  unfold numberAt
  repeat' first | exact trivial | assumption | with_reducible apply nt_getObj | with_reducible apply nt_shape | with_reducible apply nt_pure | with_reducible apply nt_ite | with_reducible apply nt_bind | with_reducible intro _ | split | dsimp only | apply nt_bind
theorem nt_cellsIn (r : Nat) : Nt P (cellsIn r) := by
  unfold cellsIn
  repeat' first | exact trivial | assumption | with_reducible apply nt_getObj | with_reducible apply nt_shape | with_reducible apply nt_pure | with_reducible apply nt_ite | with_reducible apply nt_bind | with_reducible intro _ | split | dsimp only | apply nt_bind
theorem nt_asNumber (a : Addr) (b : Bool) : Nt P (asNumber a b) := by
  unfold asNumber
  repeat' first | exact trivial | assumption | with_reducible apply nt_newObj | with_reducible apply nt_pure | with_reducible apply nt_ite | with_reducible apply nt_bind | with_reducible intro _ | split | dsimp only | apply nt_bind
theorem nt_behindNumber (a : Addr) : Nt P (behindNumber a) := by
  unfold behindNumber
  repeat' first | exact trivial | assumption | with_reducible apply nt_numberAt | with_reducible apply nt_pure | with_reducible apply nt_ite | with_reducible apply nt_bind | with_reducible intro _ | split | dsimp only | apply nt_bind
theorem nt_noView (a : Addr) : Nt P (noView a) := by
  unfold noView
  repeat' first | exact trivial | assumption | with_reducible apply nt_viewAt | with_reducible apply nt_unsupported | with_reducible apply nt_pure | with_reducible apply nt_ite | with_reducible apply nt_bind | with_reducible intro _ | split | dsimp only | apply nt_bind
theorem nt_markStringish (a : Addr) : Nt P (markStringish a) := by
  unfold markStringish
  repeat' first | exact trivial | assumption | with_reducible apply nt_freeze | with_reducible apply nt_shape | with_reducible apply nt_pure | with_reducible apply nt_ite | with_reducible apply nt_bind | with_reducible intro _ | split | dsimp only | apply nt_bind
theorem nt_stringish (a : Addr) : Nt P (stringish a) := by
  unfold stringish
  repeat' first | exact trivial | assumption | with_reducible apply nt_frozen | with_reducible apply nt_shape | with_reducible apply nt_pure | with_reducible apply nt_ite | with_reducible apply nt_bind | with_reducible intro _ | split | dsimp only | apply nt_bind
theorem nt_mayBeOne (a b : Addr) : Nt P (mayBeOne a b) := by
  unfold mayBeOne
  repeat' first | exact trivial | assumption | with_reducible apply nt_stringish | with_reducible apply nt_shape | with_reducible apply nt_pure | with_reducible apply nt_ite | with_reducible apply nt_bind | with_reducible intro _ | split | dsimp only | apply nt_bind
theorem nt_sameAddr (a b : Addr) : Nt P (sameAddr a b) := by
  unfold sameAddr
  repeat' first | exact trivial | assumption | with_reducible apply nt_mayBeOne | with_reducible apply nt_noView | with_reducible apply nt_extern | with_reducible apply nt_choose | with_reducible apply nt_frozen | with_reducible apply nt_unsupported | with_reducible apply nt_pure | with_reducible apply nt_ite | with_reducible apply nt_bind | with_reducible intro _ | split | dsimp only | apply nt_bind
theorem nt_samePointer (a b : Option Addr) : Nt P (samePointer a b) := by
  unfold samePointer
  repeat' first | exact trivial | assumption | with_reducible apply nt_sameAddr | with_reducible apply nt_pure | with_reducible apply nt_ite | with_reducible apply nt_bind | with_reducible intro _ | split | dsimp only | apply nt_bind
theorem nt_askRoom (n : Nat) : Nt P (askRoom n) := by
  unfold askRoom
  repeat' first | exact trivial | assumption | with_reducible apply nt_noRoom | with_reducible apply nt_pure | with_reducible apply nt_ite | with_reducible apply nt_bind | with_reducible intro _ | split | dsimp only | apply nt_bind
theorem nt_byteOf (a : Addr) : Nt P (byteOf a) := by
  unfold byteOf
  repeat' first | exact trivial | assumption | with_reducible apply nt_noView | with_reducible apply nt_program | with_reducible apply nt_shape | with_reducible apply nt_stuck | with_reducible apply nt_pure | with_reducible apply nt_ite | with_reducible apply nt_bind | with_reducible intro _ | split | dsimp only | apply nt_bind
theorem nt_partAt (a : Addr) (o b : Nat) : Nt P (partAt a o b) := by
  unfold partAt
  repeat' first | exact trivial | assumption | with_reducible apply nt_byteOf | with_reducible apply nt_pure | with_reducible apply nt_ite | with_reducible apply nt_bind | with_reducible intro _ | split | dsimp only | apply nt_bind
theorem nt_fieldPlace (a : Addr) (f : Field) : Nt P (fieldPlace a f) := by
  unfold fieldPlace
  repeat' first | exact trivial | assumption | with_reducible apply nt_partAt | with_reducible apply nt_sizeOf | with_reducible apply nt_pure | with_reducible apply nt_ite | with_reducible apply nt_bind | with_reducible intro _ | split | dsimp only | apply nt_bind
theorem nt_variablesAt (a : Addr) (u : TypeId) (n : Nat) : Nt P (variablesAt a u n) := by
  unfold variablesAt
  repeat' first | exact trivial | assumption | with_reducible apply nt_program | with_reducible apply nt_shape | with_reducible apply nt_pure | with_reducible apply nt_ite | with_reducible apply nt_bind | with_reducible intro _ | split | dsimp only | apply nt_bind
theorem nt_loadBytes (a : Addr) (acc : ByteArray) (n : Nat) : Nt P (loadBytes a acc n) := by
  induction n generalizing a acc with
  | zero => exact trivial
  | succ n ih =>
    unfold loadBytes
    repeat' first | exact trivial | assumption | apply ih | with_reducible apply nt_load | with_reducible apply nt_stuck | with_reducible apply nt_pure | with_reducible apply nt_ite | with_reducible apply nt_bind | with_reducible intro _ | split | dsimp only | apply nt_bind
theorem nt_alloc (t : TypeId) (h : Bool) (o : Value) : Nt P (Instr.alloc t h o) := by
  unfold Instr.alloc
  repeat' first | exact trivial | assumption | with_reducible apply nt_newVar | with_reducible apply nt_storeVar | with_reducible apply nt_zeroValue | with_reducible apply nt_pure | with_reducible apply nt_ite | with_reducible apply nt_bind | with_reducible intro _ | split | dsimp only | apply nt_bind
theorem nt_sureAddr (v : Value) : Nt P (Instr.sureAddr v) := by
  unfold Instr.sureAddr
  repeat' first | exact trivial | assumption | with_reducible apply nt_stuck | with_reducible apply nt_pure | with_reducible apply nt_ite | with_reducible apply nt_bind | with_reducible intro _ | split | dsimp only | apply nt_bind
theorem nt_loadAt (t : TypeId) (v : Value) : Nt P (Instr.loadAt t v) := by
  unfold Instr.loadAt
  repeat' first | exact trivial | assumption | with_reducible apply nt_sureAddr | with_reducible apply nt_loadVar | with_reducible apply nt_pure | with_reducible apply nt_ite | with_reducible apply nt_bind | with_reducible intro _ | split | dsimp only | apply nt_bind
theorem nt_storeAt (t : TypeId) (v x : Value) : Nt P (Instr.storeAt t v x) := by
  unfold Instr.storeAt
  repeat' first | exact trivial | assumption | with_reducible apply nt_sureAddr | with_reducible apply nt_storeVar | with_reducible apply nt_pure | with_reducible apply nt_ite | with_reducible apply nt_bind | with_reducible intro _ | split | dsimp only | apply nt_bind
theorem nt_fieldAt (t : TypeId) (v : Value) (n : Nat) : Nt P (Instr.fieldAt t v n) := by
  unfold Instr.fieldAt
  repeat' first | exact trivial | assumption | with_reducible apply nt_sureAddr | with_reducible apply nt_fieldPlace | with_reducible apply nt_underlying | with_reducible apply nt_stuck | with_reducible apply nt_pure | with_reducible apply nt_ite | with_reducible apply nt_bind | with_reducible intro _ | split | dsimp only | apply nt_bind
theorem nt_indexAt (t : TypeId) (v x : Value) : Nt P (Instr.indexAt t v x) := by
  unfold Instr.indexAt
  repeat' first | exact trivial | assumption | with_reducible apply nt_sureAddr | with_reducible apply nt_asIntOf | with_reducible apply nt_boundsPanic | with_reducible apply nt_sizeOf | with_reducible apply nt_underlying | with_reducible apply nt_unsupported | with_reducible apply nt_stuck | with_reducible apply nt_pure | with_reducible apply nt_ite | with_reducible apply nt_bind | with_reducible intro _ | split | dsimp only | apply nt_bind
theorem nt_sliceBound (v : Value) (y : Nat) (c : BoundsCode) : Nt P (Instr.sliceBound v y c) := by
  unfold Instr.sliceBound
  repeat' first | exact trivial | assumption | with_reducible apply nt_asIntOf | with_reducible apply nt_boundsPanic | with_reducible apply nt_pure | with_reducible apply nt_ite | with_reducible apply nt_bind | with_reducible intro _ | split | dsimp only | apply nt_bind
theorem nt_sliceBounds (b : Bool) (l c : Nat) (x y z : Option Value) : Nt P (Instr.sliceBounds b l c x y z) := by
  unfold Instr.sliceBounds
  repeat' first | exact trivial | assumption | with_reducible apply nt_sliceBound | with_reducible apply nt_stuck | with_reducible apply nt_pure | with_reducible apply nt_ite | with_reducible apply nt_bind | with_reducible intro _ | split | dsimp only | apply nt_bind
theorem nt_slice (t : TypeId) (v : Value) (x y z : Option Value) : Nt P (Instr.slice t v x y z) := by
  unfold Instr.slice
  repeat' first | exact trivial | assumption | with_reducible apply nt_sliceBounds | with_reducible apply nt_asAddr | with_reducible apply nt_asInt | with_reducible apply nt_newVar | with_reducible apply nt_sizeOf | with_reducible apply nt_underlying | with_reducible apply nt_typeInfo | with_reducible apply nt_stuck | with_reducible apply nt_pure | with_reducible apply nt_ite | with_reducible apply nt_bind | with_reducible intro _ | split | dsimp only | apply nt_bind
theorem nt_sliceAt (t : TypeId) (v : Value) (x y z : Option Value) : Nt P (Instr.sliceAt t v x y z) := by
  unfold Instr.sliceAt
  repeat' first | exact trivial | assumption | with_reducible apply nt_slice | with_reducible apply nt_sliceBounds | with_reducible apply nt_sureAddr | with_reducible apply nt_variablesAt | with_reducible apply nt_asInt | with_reducible apply nt_runtimePanic | with_reducible apply nt_sizeOf | with_reducible apply nt_underlying | with_reducible apply nt_typeInfo | with_reducible apply nt_unsupported | with_reducible apply nt_stuck | with_reducible apply nt_pure | with_reducible apply nt_ite | with_reducible apply nt_bind | with_reducible intro _ | split | dsimp only | apply nt_bind
theorem nt_box (t : TypeId) (v : Value) : Nt P (Instr.box t v) := by
  unfold Instr.box
  repeat' first | exact trivial | assumption | with_reducible apply nt_newVar | with_reducible apply nt_pure | with_reducible apply nt_ite | with_reducible apply nt_bind | with_reducible intro _ | split | dsimp only | apply nt_bind
theorem nt_listMapM {α β : Type} (f : α -> Sem β) (hf : ∀ a, Nt P (f a)) : ∀ l : List α, Nt P (l.mapM f)
  | [] => by rw [List.mapM_nil]; trivial
  | a :: l => by rw [List.mapM_cons]; exact nt_bind (hf a) fun _ => nt_bind (nt_listMapM f hf l) fun _ => trivial
theorem nt_mapM {α β : Type} (f : α -> Sem β) (hf : ∀ a, Nt P (f a)) (l : Array α) : Nt P (l.mapM f) := by
  rw [Array.mapM_eq_mapM_toList]
  exact nt_map (nt_listMapM f hf _)
theorem nt_build (t : TypeId) (p : Array (Nat × Value)) : Nt P (Instr.build t p) := by
  unfold Instr.build
  repeat' first | exact trivial | assumption | with_reducible apply nt_mapM | with_reducible apply nt_part | with_reducible apply nt_sizeOf | with_reducible apply nt_zeroValue | with_reducible apply nt_underlying | with_reducible apply nt_stuck | with_reducible apply nt_pure | with_reducible apply nt_ite | with_reducible apply nt_bind | with_reducible intro _ | split | dsimp only | apply nt_bind
theorem nt_buildSlice (t : TypeId) (n : Nat) (p : Array (Nat × Value)) : Nt P (Instr.buildSlice t n p) := by
  unfold Instr.buildSlice
  repeat' first | exact trivial | assumption | with_reducible apply nt_slice | with_reducible apply nt_part | with_reducible apply nt_newRow | with_reducible apply nt_sizeOf | with_reducible apply nt_zeroValue | with_reducible apply nt_underlying | with_reducible apply nt_unsupported | with_reducible apply nt_stuck | with_reducible apply nt_pure | with_reducible apply nt_ite | with_reducible apply nt_bind | with_reducible intro _ | split | dsimp only | apply nt_bind
theorem nt_makeInterface (t : TypeId) (v : Value) : Nt P (Instr.makeInterface t v) := by
  unfold Instr.makeInterface
  repeat' first | exact trivial | assumption | with_reducible apply nt_underlying | with_reducible apply nt_stuck | with_reducible apply nt_pure | with_reducible apply nt_ite | with_reducible apply nt_bind | with_reducible intro _ | split | dsimp only | apply nt_bind
theorem nt_makeSlice (t : TypeId) (v x : Value) : Nt P (Instr.makeSlice t v x) := by
  unfold Instr.makeSlice
  repeat' first | exact trivial | assumption | with_reducible apply nt_slice | with_reducible apply nt_askRoom | with_reducible apply nt_asInt | with_reducible apply nt_runtimePanic | with_reducible apply nt_newRow | with_reducible apply nt_sizeOf | with_reducible apply nt_zeroValue | with_reducible apply nt_underlying | with_reducible apply nt_typeInfo | with_reducible apply nt_extern | with_reducible apply nt_choose | with_reducible apply nt_unsupported | with_reducible apply nt_stuck | with_reducible apply nt_pure | with_reducible apply nt_ite | with_reducible apply nt_bind | with_reducible intro _ | split | dsimp only | apply nt_bind
theorem nt_index (t : TypeId) (v x : Value) : Nt P (Instr.index t v x) := by
  unfold Instr.index
  repeat' first | exact trivial | assumption | with_reducible apply nt_slice | with_reducible apply nt_asInt | with_reducible apply nt_asIntOf | with_reducible apply nt_boundsPanic | with_reducible apply nt_part | with_reducible apply nt_sizeOf | with_reducible apply nt_underlying | with_reducible apply nt_extern | with_reducible apply nt_unsupported | with_reducible apply nt_stuck | with_reducible apply nt_pure | with_reducible apply nt_ite | with_reducible apply nt_bind | with_reducible intro _ | split | dsimp only | apply nt_bind
theorem nt_typeAssert (v : Value) (t u : TypeId) (b : Bool) : Nt P (Instr.typeAssert v t u b) := by
  unfold Instr.typeAssert
  repeat' first | exact trivial | assumption | with_reducible apply nt_runtimePanic | with_reducible apply nt_zeroValue | with_reducible apply nt_underlying | with_reducible apply nt_typeInfo | with_reducible apply nt_program | with_reducible apply nt_stuck | with_reducible apply nt_pure | with_reducible apply nt_ite | with_reducible apply nt_bind | with_reducible intro _ | split | dsimp only | apply nt_bind
theorem nt_extract (v : Value) (n : Nat) : Nt P (Instr.extract v n) := by
  unfold Instr.extract
  repeat' first | exact trivial | assumption | with_reducible apply nt_index | with_reducible apply nt_stuck | with_reducible apply nt_pure | with_reducible apply nt_ite | with_reducible apply nt_bind | with_reducible intro _ | split | dsimp only | apply nt_bind
theorem nt_panicnil  : Nt P (Instr.panicnil) := by
  unfold Instr.panicnil
  repeat' first | exact trivial | assumption | with_reducible apply nt_extract | with_reducible apply nt_sysEnv | with_reducible apply nt_program | with_reducible apply nt_stuck | with_reducible apply nt_pure | with_reducible apply nt_ite | with_reducible apply nt_bind | with_reducible intro _ | split | dsimp only | apply nt_bind
theorem nt_panic (v : Value) : Nt P (Instr.panic v) := by
  unfold Instr.panic
  repeat' first | exact trivial | assumption | with_reducible apply nt_panicnil | with_reducible apply nt_runtimePanic | with_reducible apply nt_goPanic | with_reducible apply nt_stuck | with_reducible apply nt_pure | with_reducible apply nt_ite | with_reducible apply nt_bind | with_reducible intro _ | split | dsimp only | apply nt_bind
theorem nt_intArith (o : BinOp) (k : IntKind) (x y : Int) : Nt P (Op.intArith o k x y) := by
  unfold Op.intArith
  repeat' first | exact trivial | assumption | with_reducible apply nt_stuck | with_reducible apply nt_pure | with_reducible apply nt_ite | with_reducible apply nt_bind | with_reducible intro _ | split | dsimp only | apply nt_bind
theorem nt_intBits (o : BinOp) (k : IntKind) (x y : Int) : Nt P (Op.intBits o k x y) := by
  unfold Op.intBits
  repeat' first | exact trivial | assumption | with_reducible apply nt_stuck | with_reducible apply nt_pure | with_reducible apply nt_ite | with_reducible apply nt_bind | with_reducible intro _ | split | dsimp only | apply nt_bind
theorem nt_intCmp (o : BinOp) (x y : Int) : Nt P (Op.intCmp o x y) := by
  unfold Op.intCmp
  repeat' first | exact trivial | assumption | with_reducible apply nt_stuck | with_reducible apply nt_pure | with_reducible apply nt_ite | with_reducible apply nt_bind | with_reducible intro _ | split | dsimp only | apply nt_bind
theorem nt_intDiv (o : BinOp) (k : IntKind) (x y : Int) : Nt P (Op.intDiv o k x y) := by
  unfold Op.intDiv
  repeat' first | exact trivial | assumption | with_reducible apply nt_runtimePanic | with_reducible apply nt_stuck | with_reducible apply nt_pure | with_reducible apply nt_ite | with_reducible apply nt_bind | with_reducible intro _ | split | dsimp only | apply nt_bind
theorem nt_shift (o : BinOp) (k : IntKind) (x : Int) (j : IntKind) (y : Int) : Nt P (Op.shift o k x j y) := by
  unfold Op.shift
  repeat' first | exact trivial | assumption | with_reducible apply nt_runtimePanic | with_reducible apply nt_stuck | with_reducible apply nt_pure | with_reducible apply nt_ite | with_reducible apply nt_bind | with_reducible intro _ | split | dsimp only | apply nt_bind
theorem nt_stringOp (o : BinOp) (x y : ByteArray) : Nt P (Op.stringOp o x y) := by
  unfold Op.stringOp
  repeat' first | exact trivial | assumption | with_reducible apply nt_unsupported | with_reducible apply nt_stuck | with_reducible apply nt_pure | with_reducible apply nt_ite | with_reducible apply nt_bind | with_reducible intro _ | split | dsimp only | apply nt_bind
theorem nt_unary (o : UnOp) (x : Value) : Nt P (Op.unary o x) := by
  unfold Op.unary
  repeat' first | exact trivial | assumption | with_reducible apply nt_intBits | with_reducible apply nt_intArith | with_reducible apply nt_unsupported | with_reducible apply nt_stuck | with_reducible apply nt_pure | with_reducible apply nt_ite | with_reducible apply nt_bind | with_reducible intro _ | split | dsimp only | apply nt_bind
end Go.Proofs.YtcpldcojckhapaaGreat
