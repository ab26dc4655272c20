import Derived.Below
import Derived.Laws.AppendOwn
import Derived.Laws.Rows
import Derived.OpenShut
import Derived.ProofKit
import Derived.Test.YtcpldcojckhapaaGreatProg
import Derived.WalkKit

set_option maxRecDepth 100000
set_option maxHeartbeats 16000000
set_option linter.all false
namespace Go.RowKit
theorem Hid.o{p:Prop}(a:Hid p):p:=a
end Go.RowKit
noncomputable section
namespace Go.Proofs.YtcpldcojckhapaaGreat
open Go.Proofs.Tryz Go.RowKit
section
@[reducible] def ν (x : Int) : Value :=.int .i64 x
@[reducible] def μ (a b : Nat) : Addr := ⟨a,b,none⟩
@[reducible] def π (a : Nat) : Value :=.pointer (some ⟨a,0,none⟩)
@[reducible] def σ : Value :=.slice none 0 0
@[reducible] def z8 : Array Value := #[ν 0,ν 0,ν 0,ν 0,ν 0,ν 0,ν 0,σ]
@[reducible] def ω (a c b : Nat) : Value :=.slice (some ⟨a,0,none⟩) c b
abbrev Ac:=Int×Int×Int×ByteArray
abbrev Sv:=Int×Int×ByteArray
abbrev lw:=List (List Int)
section
variable {p q:Prop}{A:Type}{x y:A}
theorem om(a:p:=by omega):p:=a
theorem dc(a:p:=by decide):p:=a
theorem si(a:p:=by simp):p:=a
theorem so(a:p:=by simp;omega):p:=a
theorem rf(a:p:=by rfl):p:=a
theorem kr(a:p:=by kernel_rfl):p:=a
theorem gn(a:p:=by go_num):p:=a
theorem ml(a:p:=by unfold maxLen;omega):p:=a
theorem qU(a:p:=by simp[Act.eval]):p:=a
theorem fk(a:p:=by first|kernel_rfl|decide+kernel):p:=a
theorem nU(a:p:=by rw[beq_eq_false_iff_ne];omega):p:=a
theorem HH(a:p:=by rw[beq_iff_eq];omega):p:=a
theorem wo(a:p:=by rw[IntKind.wrap_i64];omega):p:=a
theorem oZ(a:p:=by intro _ K hK;go_simp;exact hK):p:=a
theorem pj(a:p:=by intro _;simp[go_sem,qg,nu,nO,mr,ms, *]):p:=a
theorem mz(a:p:=by simp[intOf];omega):p:=a
theorem li(a:q)(b:q->p:=by intro _;omega):p:=b a
theorem p1(b:x=y)(a:x=y->p:=by intro a;rw[a];omega):p:=a b
theorem nY(b:x=y)(a:x=y->p:=by intro a;rw[a];rfl):p:=a b
theorem qx(b:x=y)(a:x=y->p:=by intro a;rw[a];decide):p:=a b
theorem UH{a:Result Next->Prop}{b:Result Next}(c:a b)(d:a b->p:=by intro hK;go_simp;exact hK):p:=d c
end
theorem j5{A:Sort _}(x:A):∃y,y=x:=⟨_,rfl⟩
theorem kM{a:Nat}:a<=a:=Nat.le_refl _
theorem uY{d:World}{b c:Nat}{a:TypeId}:d.ownsRow b a c σ 0 []:=World.ownsRow_nil _ _ _ _
theorem br{b:Nat}{a:World}:Below b a a:=Below.refl _ _
theorem ba{a b:World}{c:Obj}(d:b=a.alloc c):Below a.heap.size a b:=by rw[d];exact(Below.refl a.heap.size a).alloc (Nat.le_refl _) c
theorem v'{a b:World}{c:Obj}(d:b=a.alloc c):b.heap[a.heap.size]?=some c:=by rw[d];exact heap_alloc_new a _
theorem cr{a:World}{d c:Nat}{b:Array Value}{e:TypeId}{f:Nat×Nat}{g:Value}(i:a.heap[d]?=some (.cells b e f))(h:b[c]?=some g:=by rfl):a.cell? ⟨d,c,none⟩=some g:=(cell_of_row a d c b e f i).trans h
end
